/- Decode: the walk. -/
import Derived.Test.YtiafbnpbbjkdbaaOQ
import Derived.Test.YtiafbnpbbjkdbaaOE
namespace Go.Proofs.Ytiafbnpbbjkdbaa
open Go.RowKit
set_option maxRecDepth 100000
set_option linter.unusedSimpArgs false
set_option linter.unusedVariables false
def nz15 : Nd := ⟨0, 0, 0, 0, 0, 0, 0, 0, 0, none, 0, 0, [], 0, 0, 0, 0, 0, 0, ⟨#[]⟩, 0⟩
/-- what Decode answers -/
def DeP15 (w : World) (len : Nat) (bs : List Int) (at_ : Nat) (e : Ending) (w' : World) : Prop :=
  (∃ (n : Nd) (next : Nat), e = .returned (.tuple #[n.val, .int .i64 (next : Int), .int .i64 0]) ∧ n.ok w' ∧ chk15 n = 0 ∧ n.ws.length = n.wl ∧ enb15 n = (bs.drop at_).take (next - at_) ∧ at_ ≤ next ∧ next ≤ len ∧ (∀ n0, Pre15 bs at_ n0 → Same15 n n0) ∧ w.grownBy w' none) ∨
  (e = .returned (.tuple #[nz15.val, .int .i64 0, .int .i64 6]) ∧ No15 bs at_ ∧ w.grownBy w' none)
theorem inoStore {P : Program} {w : World} {ops : Array Oper} {rest : List Oper} {a : Act} {Q : Exit → Act → World → Prop} {dst : Option Nat} {x y : Operand} {type : TypeId} {pos : String} {after : Array Edge} {guard : Option (Nat × Bool)}
    (h : wpList P ops Q (⟨dst, .store 24 x y, type, pos, after, guard⟩ :: rest) a w) : wpList P ops Q (⟨dst, .store 24 x y, type, pos, after, guard⟩ :: rest) a w := h
theorem results_cell_2 {P : Program} {fn : Func} {p x y : Tmp} {ty : TypeId} (h : fn.results = #[.cell p ty, .tmp x, .tmp y]) (tmps : Array Value) (w : World) (g : Nat) (t : TypeId) (cs : Array Value) (fr : Nat × Nat) (d : TypeDesc)
    (hp : tmps.getD p undef = .pointer (some ⟨g, 0, none⟩)) (hg : w.heap[g]? = some (.cells cs t fr))
    (hu : P.underlying ty = some d) (hd : (match d with | .struct _ | .array _ _ => true | _ => false) = true) (hi : (P.info? ty).map (·.size) = some cs.size) :
    (results fn tmps).run P w = .ok (.tuple #[.agg cs, tmps.getD x undef, tmps.getD y undef]) w := by
  have hp' : tmps[p]?.getD undef = .pointer (some ⟨g, 0, none⟩) := by simpa using hp
  simp [results, h, hp', asAddr, run_loadVar_row w g t ty cs fr d hg hu hd hi]
set_option maxHeartbeats 4000000 in
theorem pdecode15_any (a : Option Addr) (len cap at_ : Nat) (bs : List Int) (w : World) (R : Row w a len bs) (hcap : len ≤ cap) (hl : len ≤ 16777216) (hat : at_ ≤ len) :
    Calls Try.prog 14 #[.slice a len cap, .int .i64 (at_ : Int)] w (DeP15 w len bs at_) := by
  have HP : Hid (∀ e w', DeP15 w len bs at_ e w' → DeP15 w len bs at_ e w') := fun e w' h => h
  have hQ0 : ∃ Q, Q = DeP15 w len bs at_ := ⟨_, rfl⟩
  obtain ⟨Q, hQ⟩ := hQ0
  have HQ : Hid _ := hQ
  rw [← hQ]
  have hin : inn 0 len at_ = true := inn_iff.2 ⟨by omega, by omega⟩
  have HR : Hid _ := R
  have HC : Hid (len ≤ cap ∧ len ≤ 16777216 ∧ at_ ≤ len) := ⟨hcap, hl, hat⟩
  clear hQ R
  go_enter Try.func14, Try.ntmps14
  go_wp2_with (first | (go_at_call 25; refine (between_any _ _ _ _).mono ?_; rintro e w' ⟨rfl, rfl⟩))
  have HW : Hid (w.grownBy ((w.alloc (.cells #[.int .i64 0, .int .i64 0, .int .i64 0, .int .i64 0, .int .i64 0, .int .i64 0, .int .i64 0, .int .i64 0, .int .i64 0, .slice none 0 0, .int .i64 0, .int .i64 0, .int .i64 0, .int .i64 0, .int .i64 0, .int .i64 0, .string ⟨#[]⟩, .int .i64 0] 24)).alloc (.cells #[.slice a len cap, .int .i64 (at_ : Int), .bool false] 60)) none ∧ Bx ((w.alloc (.cells #[.int .i64 0, .int .i64 0, .int .i64 0, .int .i64 0, .int .i64 0, .int .i64 0, .int .i64 0, .int .i64 0, .int .i64 0, .slice none 0 0, .int .i64 0, .int .i64 0, .int .i64 0, .int .i64 0, .int .i64 0, .int .i64 0, .string ⟨#[]⟩, .int .i64 0] 24)).alloc (.cells #[.slice a len cap, .int .i64 (at_ : Int), .bool false] 60)) w.heap.size 24 [.int .i64 0, .int .i64 0, .int .i64 0, .int .i64 0, .int .i64 0, .int .i64 0, .int .i64 0, .int .i64 0, .int .i64 0, .slice none 0 0, .int .i64 0, .int .i64 0, .int .i64 0, .int .i64 0, .int .i64 0, .int .i64 0, .string ⟨#[]⟩, .int .i64 0] ∧ Bx ((w.alloc (.cells #[.int .i64 0, .int .i64 0, .int .i64 0, .int .i64 0, .int .i64 0, .int .i64 0, .int .i64 0, .int .i64 0, .int .i64 0, .slice none 0 0, .int .i64 0, .int .i64 0, .int .i64 0, .int .i64 0, .int .i64 0, .int .i64 0, .string ⟨#[]⟩, .int .i64 0] 24)).alloc (.cells #[.slice a len cap, .int .i64 (at_ : Int), .bool false] 60)) (w.heap.size + 1) 60 (rdc a len cap at_ false)) := by
    refine ⟨grown_trans (World.grownBy_alloc _ _ _) (World.grownBy_alloc _ _ _), (Bx.new w 24 _).kept (World.grownBy_alloc _ _ _), ?_⟩
    have e : (w.alloc (.cells #[.int .i64 0, .int .i64 0, .int .i64 0, .int .i64 0, .int .i64 0, .int .i64 0, .int .i64 0, .int .i64 0, .int .i64 0, .slice none 0 0, .int .i64 0, .int .i64 0, .int .i64 0, .int .i64 0, .int .i64 0, .int .i64 0, .string ⟨#[]⟩, .int .i64 0] 24)).heap.size = w.heap.size + 1 := by show (w.heap.push _).size = _; simp
    rw [← e]
    exact Bx.new _ _ _
  generalize (w.alloc (.cells #[.int .i64 0, .int .i64 0, .int .i64 0, .int .i64 0, .int .i64 0, .int .i64 0, .int .i64 0, .int .i64 0, .int .i64 0, .slice none 0 0, .int .i64 0, .int .i64 0, .int .i64 0, .int .i64 0, .int .i64 0, .int .i64 0, .string ⟨#[]⟩, .int .i64 0] 24)).alloc (.cells #[.slice a len cap, .int .i64 (at_ : Int), .bool false] 60) = W1 at *
  have hRc : Rcx W1 (w.heap.size + 1) w.heap.size a len cap bs at_ := ⟨HR.out.grown HW.out.1, fun b' off e h0 => by
    obtain ⟨b2, o2, e3, hc⟩ := HR.out.cells h0
    rw [e] at e3
    injection e3 with e3
    injection e3 with e3
    have := cell_lt (hc 0 h0)
    exact ⟨by omega, by omega⟩, by omega, hcap, hl⟩
  refine (rthrough_any (w.heap.size + 1) w.heap.size a len cap bs at_ W1 hRc HR.out.len_eq HW.out.2.2 HW.out.2.1 hat).mono ?_
  clear hRc hcap hl hat hin
  rintro e W2 ⟨rfl, hRt⟩
  obtain ⟨n, p, bad, f1, f2, f3, f4, f5, f6, f7, f8⟩ := fin_any HR.out.byt HR.out.len_eq hRt
  clear hRt
  have hG2 : w.grownBy W2 none := ⟨f3.os.trans HW.out.1.os, f3.tape.trans HW.out.1.tape, f3.output.trans HW.out.1.output, Nat.le_trans HW.out.1.size f3.size, fun k hk _ => by
    rw [f3.block k (Nat.lt_of_lt_of_le hk HW.out.1.size) (by omega) (by omega)]
    exact HW.out.1.block k hk (by simp)⟩
  have HF : Hid (Bx W2 (w.heap.size + 1) 60 (rdc a len cap p bad) ∧ Bx W2 w.heap.size 24 [.int .i64 n.kd, .int .i64 n.md, .int .i64 n.ui, .int .i64 n.gi, .int .i64 n.tm, .int .i64 n.ln, .int .i64 n.at_, .int .i64 n.sz, .int .i64 n.st, .slice n.wa n.wl n.wc, .int .i64 n.fr, .int .i64 n.of_, .int .i64 n.tl, .int .i64 n.dr, .int .i64 n.by_, .int .i64 n.pr, .string n.tg, .int .i64 n.dv] ∧ n.ok W2 ∧ n.ws.length = n.wl ∧ p ≤ len ∧ w.grownBy W2 none) := ⟨f1, f2, f4, f5, f6, hG2⟩
  have HB1 : Hid _ := f7
  have HB2 : Hid _ := f8
  have r2 := f1.c 2
  simp only [rdc, List.getElem?_cons_zero, List.getElem?_cons_succ] at r2
  clear f1 f2 f3 f4 f5 f6 f7 f8 hG2 HW
  cases bad with
  | true =>
    clear HB2
    go_wp2_with (((with_reducible refine inoStore ?_); refine wpList_storeB rfl 24 _ _ rfl w.heap.size [.int .i64 0, .int .i64 0, .int .i64 0, .int .i64 0, .int .i64 0, .int .i64 0, .int .i64 0, .int .i64 0, .int .i64 0, .slice none 0 0, .int .i64 0, .int .i64 0, .int .i64 0, .int .i64 0, .int .i64 0, .int .i64 0, .string ⟨#[]⟩, .int .i64 0] rfl rfl HF.out.2.1 infoI rfl rfl ?_; intro W3 b3 g3; have HZ : Hid _ := And.intro b3 g3; clear b3 g3))
    exact bodyPost_ret (results_cell_2 rfl _ _ w.heap.size 24 _ (0, 0) _ rfl HZ.out.1.blk Try.underlying24 rfl infoI) rfl (by
      rw [HQ.out]
      exact Or.inr ⟨rfl, HB1.out trivial, grown_new HF.out.2.2.2.2.2 HZ.out.2 (Nat.le_refl _)⟩)
  | false =>
    clear HB1
    have HK : Hid (∀ W, W2.grownBy W none → Calls Try.prog 11 #[.agg #[.int .i64 n.kd, .int .i64 n.md, .int .i64 n.ui, .int .i64 n.gi, .int .i64 n.tm, .int .i64 n.ln, .int .i64 n.at_, .int .i64 n.sz, .int .i64 n.st, .slice n.wa n.wl n.wc, .int .i64 n.fr, .int .i64 n.of_, .int .i64 n.tl, .int .i64 n.dr, .int .i64 n.by_, .int .i64 n.pr, .string n.tg, .int .i64 n.dv]] W fun e w' => e = .returned (.int .i64 (chk15 n)) ∧ W.grownBy w' none) := fun W g => pcheck15_any n W (HF.out.2.2.1.kept g)
    by_cases hc : chk15 n = 0
    · rw [hc] at HK
      have HCC : Hid _ := hc
      clear hc
      go_wp2_with (first | ((with_reducible refine inoHere ?_); refine wpList_loadG (by first | rfl | fail) 24 _ rfl w.heap.size rfl HF.out.2.1 Try.underlying24 rfl infoI ?_) | ((with_reducible refine inoHere ?_); refine wpList_loadG (by first | rfl | fail) 24 _ rfl w.heap.size rfl HY.out.1 Try.underlying24 rfl infoI ?_) | (go_at_call 11; refine (HK.out W2 (World.grownBy.refl _ _)).mono ?_; rintro e W3 ⟨rfl, g3⟩; have HY : Hid (Bx W3 w.heap.size 24 [.int .i64 n.kd, .int .i64 n.md, .int .i64 n.ui, .int .i64 n.gi, .int .i64 n.tm, .int .i64 n.ln, .int .i64 n.at_, .int .i64 n.sz, .int .i64 n.st, .slice n.wa n.wl n.wc, .int .i64 n.fr, .int .i64 n.of_, .int .i64 n.tl, .int .i64 n.dr, .int .i64 n.by_, .int .i64 n.pr, .string n.tg, .int .i64 n.dv] ∧ Bx W3 (w.heap.size + 1) 60 (rdc a len cap p false) ∧ n.ok W3 ∧ w.grownBy W3 none) := ⟨HF.out.2.1.kept g3, HF.out.1.kept g3, HF.out.2.2.1.kept g3, grown_trans HF.out.2.2.2.2.2 g3⟩; have y1 := HY.out.2.1.c 1; simp only [rdc, List.getElem?_cons_zero, List.getElem?_cons_succ] at y1; clear g3) | ((with_reducible refine inoStore ?_); refine wpList_storeB rfl 24 _ _ rfl w.heap.size [.int .i64 n.kd, .int .i64 n.md, .int .i64 n.ui, .int .i64 n.gi, .int .i64 n.tm, .int .i64 n.ln, .int .i64 n.at_, .int .i64 n.sz, .int .i64 n.st, .slice n.wa n.wl n.wc, .int .i64 n.fr, .int .i64 n.of_, .int .i64 n.tl, .int .i64 n.dr, .int .i64 n.by_, .int .i64 n.pr, .string n.tg, .int .i64 n.dv] rfl rfl HY.out.1 infoI rfl rfl ?_; intro W4 b4 g4; have HZ : Hid _ := And.intro b4 g4; clear b4 g4) | fail)
      have G34 : W3.grownBy W4 none := ⟨HZ.out.2.os, HZ.out.2.tape, HZ.out.2.output, HZ.out.2.size, fun k hk _ => by
        by_cases hkg : k = w.heap.size
        · rw [hkg, HZ.out.1.blk, HY.out.1.blk]
        · exact HZ.out.2.block k hk (by simpa using hkg)⟩
      obtain ⟨k1, k2⟩ := (HB2.out trivial).1 HCC.out
      exact bodyPost_ret (results_cell_2 rfl _ _ w.heap.size 24 _ (0, 0) _ rfl HZ.out.1.blk Try.underlying24 rfl infoI) rfl (by
        rw [HQ.out]
        exact Or.inl ⟨n, p, rfl, HY.out.2.2.1.kept G34, HCC.out, HF.out.2.2.2.1, k1, k2, HF.out.2.2.2.2.1, (HB2.out trivial).2, grown_trans HY.out.2.2.2 G34⟩)
    · have hc2 : (chk15 n != 0) = true := by simpa using hc
      have HNo : Hid (No15 bs at_) := fun n0 h0 => by
        have hs := (HB2.out rfl).2 n0 h0
        have := same_chk hs HF.out.2.2.2.1 h0.2.1
        rw [h0.1.2] at this
        exact hc this
      clear hc HB2
      generalize chk15 n = c at *
      go_wp2_with (first | ((with_reducible refine inoHere ?_); refine wpList_loadG (by first | rfl | fail) 24 _ rfl w.heap.size rfl HF.out.2.1 Try.underlying24 rfl infoI ?_) | (go_at_call 11; refine (HK.out W2 (World.grownBy.refl _ _)).mono ?_; rintro e W3 ⟨rfl, g3⟩; have HY : Hid _ := And.intro (HF.out.2.1.kept g3) (grown_trans HF.out.2.2.2.2.2 g3); clear g3) | ((with_reducible refine inoStore ?_); refine wpList_storeB rfl 24 _ _ rfl w.heap.size [.int .i64 0, .int .i64 0, .int .i64 0, .int .i64 0, .int .i64 0, .int .i64 0, .int .i64 0, .int .i64 0, .int .i64 0, .slice none 0 0, .int .i64 0, .int .i64 0, .int .i64 0, .int .i64 0, .int .i64 0, .int .i64 0, .string ⟨#[]⟩, .int .i64 0] rfl rfl HY.out.1 infoI rfl rfl ?_; intro W4 b4 g4; have HZ : Hid _ := And.intro b4 g4; clear b4 g4) | fail)
      exact bodyPost_ret (results_cell_2 rfl _ _ w.heap.size 24 _ (0, 0) _ rfl HZ.out.1.blk Try.underlying24 rfl infoI) rfl (by
        rw [HQ.out]
        exact Or.inr ⟨rfl, HNo.out, grown_new HY.out.2 HZ.out.2 (Nat.le_refl _)⟩)
end Go.Proofs.Ytiafbnpbbjkdbaa
