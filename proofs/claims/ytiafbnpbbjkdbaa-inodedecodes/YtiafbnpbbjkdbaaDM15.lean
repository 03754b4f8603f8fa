/- The document's short. The document's Decode. Two inodes that are the same. The walk of InodeDecodes. -/
import Derived.Test.YtiafbnpbbjkdbaaPG15
import Derived.Test.YtiafbnpbbjkdbaaOBc
import Derived.Test.YtiafbnpbbjkdbaaPD15
import Derived.Test.YtiafbnpbbjkdbaaOP
import Derived.Test.YtiafbnpbbjkdbaaOJ
namespace Go.Proofs.Ytiafbnpbbjkdbaa
open Go.RowKit
set_option maxRecDepth 100000
set_option linter.unusedSimpArgs false
set_option linter.unusedVariables false
theorem rguess_any (a : Option Addr) (len cap at_ : Nat) (bs : List Int) (w : World) (R : Row w a len bs) (hcap : len ≤ cap) (hl : len ≤ 100000) (hat : at_ ≤ len) :
    Calls Try.prog 33 #[.slice a len cap, .int .i64 (at_ : Int)] w (GsP15 w len bs at_) := by
  by_cases h : len < at_ + 24
  · exact rguess_short a len cap at_ bs w R hcap hl hat h
  · exact rguess_long a len cap at_ bs w R hcap hl hat (by omega)
theorem bx_but15 {W W' : World} {g : Nat} {r : Option Nat} {T : TypeId} {cs : List Value} (h : Bx W g T cs) (k : W.grownBy W' r) (hr : some g ≠ r) : Bx W' g T cs := ⟨by rw [k.block g h.lt hr]; exact h.blk⟩
theorem ok_but15 {W W' : World} {n : Nd} {z : Nat} (h : n.ok W) (k : W.grownBy W' (some z)) (hf : ∀ b o, n.wa = some ⟨b, o, none⟩ → b ≠ z) : n.ok W' := by
  refine ⟨h.nums, ⟨h.row.len_eq, h.row.le, h.row.wide, fun h0 => ?_⟩, h.cap, h.txt⟩
  obtain ⟨b, off, e, hc⟩ := h.row.cells h0
  refine ⟨b, off, e, fun i hi => World.grownBy.cell k (hc i hi) (fun q => ?_)⟩
  injection q with q
  exact hf b off e q
theorem stopHere15 {p : Prop} (h : Hid p) : p := h
theorem grown_own15' {w W W' : World} {r : Option Nat} (h : w.grownBy W none) (k : W.grownBy W' r) (hr : ∀ q, r = some q → w.heap.size ≤ q) : w.grownBy W' none :=
  ⟨k.os.trans h.os, k.tape.trans h.tape, k.output.trans h.output, Nat.le_trans h.size k.size, fun j hj _ => by
    rw [k.block j (Nat.lt_of_lt_of_le hj h.size) (fun q => by have := hr j q.symm; omega)]
    exact h.block j hj (by simp)⟩
theorem rguess_short0 (a : Option Addr) (len cap at_ : Nat) (bs : List Int) (w : World) (R : Row w a len bs) (hcap : len ≤ cap) (hl : len ≤ 100000) (hat : at_ ≤ len) (hs : len < at_ + 24) :
    Calls Try.prog 33 #[.slice a len cap, .int .i64 (at_ : Int)] w fun e w' => e = .returned (.tuple #[nz15.val, .bool false]) ∧ w.grownBy w' none := by
  have hd : decide ((len : Int) < (at_ : Int) + 24) = true := decide_eq_true (by omega)
  have w24 : IntKind.i64.wrap ((at_ : Int) + 24) = (at_ : Int) + 24 := by rw [IntKind.wrap_i64]; omega
  have hs24 : (len : Int) < (at_ : Int) + 24 := by omega
  clear R hcap hl hat hs
  go_enter Try.func33, Try.ntmps33
  go_wp2_with ((with_reducible refine inoStore ?_); refine wpList_storeB rfl 24 _ _ rfl w.heap.size [.int .i64 0, .int .i64 0, .int .i64 0, .int .i64 0, .int .i64 0, .int .i64 0, .int .i64 0, .int .i64 0, .int .i64 0, .slice none 0 0, .int .i64 0, .int .i64 0, .int .i64 0, .int .i64 0, .int .i64 0, .int .i64 0, .string ⟨#[]⟩, .int .i64 0] rfl rfl (Bx.new w _ _) infoI rfl rfl ?_; intro W6 b6 g6)
  exact bodyPost_ret (results_cell_1 rfl _ _ w.heap.size 24 _ (0, 0) _ rfl b6.blk Try.underlying24 rfl infoI) rfl (by exact ⟨rfl, grown_new (World.grownBy_alloc w _ none) g6 (Nat.le_refl _)⟩)
theorem rguess_two (a : Option Addr) (len cap at_ : Nat) (bs : List Int) (w : World) (R : Row w a len bs) (hcap : len ≤ cap) (hl : len ≤ 100000) (hat : at_ ≤ len) :
    Calls Try.prog 33 #[.slice a len cap, .int .i64 (at_ : Int)] w fun e w' => ∃ (m : Nd) (ok : Bool), e = .returned (.tuple #[m.val, .bool ok]) ∧ m.ok w' ∧ m.ws.length = m.wl ∧ (ok = true → ∀ n0, Pre15 bs at_ n0 → Same15 m n0) ∧ (ok = false → at_ + 24 ≤ len → No15 bs at_) ∧ (∀ b o, m.wa = some ⟨b, o, none⟩ → w.heap.size ≤ b) ∧ w.grownBy w' none := by
  by_cases h : len < at_ + 24
  · refine (rguess_short0 a len cap at_ bs w R hcap hl hat h).mono ?_
    rintro e w' ⟨rfl, g⟩
    exact ⟨nz15, false, rfl, nz_ok _, rfl, (fun q => nomatch q), (fun _ q => absurd q (by omega)), far_none, g⟩
  · refine (rguess_long a len cap at_ bs w R hcap hl hat (by omega)).mono ?_
    rintro e w' ⟨m, ok, rfl, h1, h2, h3, h4, g⟩
    exact ⟨m, ok, rfl, h1, h2, (fun _ n0 hn => (h3 n0 hn (by omega)).2), (fun q _ n0 hn => absurd ((h3 n0 hn (by omega)).1.symm.trans q) (by decide)), h4, g⟩
/-- what short answers: a link of one byte at the end -/
def ShP15 (w : World) (len : Nat) (bs : List Int) (at_ : Nat) (e : Ending) (w' : World) : Prop :=
  ∃ (m : Nd) (ok : Bool), e = .returned (.tuple #[m.val, .bool ok]) ∧ m.ok w' ∧ m.ws.length = m.wl ∧ (∀ n0, Pre15 bs at_ n0 → len < at_ + 24 → ok = true ∧ Same15 m n0) ∧ (∀ b o, m.wa = some ⟨b, o, none⟩ → w.heap.size ≤ b) ∧ w.grownBy w' none
theorem pre_short {bs : List Int} {at_ len : Nat} {n0 : Nd} (h : Pre15 bs at_ n0) (hl : bs.length = len) (hs : len < at_ + 24) : len = at_ + 23 ∧ bs.getD at_ 0 = 3 ∧ bs.getD (at_ + 20) 0 = 1 ∧ bs.getD (at_ + 21) 0 = 0 := by
  obtain ⟨e1, e2, e3, e4, e5⟩ := enb_len h.1.1 h.2.1
  have e6 := pre_l h
  have hk := h.1.1.kd
  have hb := pre_b0 h (by omega)
  rcases (by omega : n0.kd = 1 ∨ n0.kd = 2 ∨ n0.kd = 3 ∨ 3 < n0.kd) with q | q | q | q
  · have := e1 q; omega
  · have := e2 q; omega
  · have e7 := e3 q
    have e8 : n0.tg.size = 1 := by omega
    have hx : enb15 n0 = (((((((([] ++ sto n0.kd 2) ++ sto n0.md 2) ++ sto n0.ui 2) ++ sto n0.gi 2) ++ sto n0.tm 4) ++ sto n0.ln 4) ++ sto n0.at_ 4)) ++ (sto n0.tg.size 2 ++ nums n0.tg) := by
      unfold enb15
      rw [if_neg (by omega), if_neg (by omega), if_pos q]
      unfold kb3 hdb15
      simp only [List.append_assoc, List.nil_append]
    have hA : (((((((([] : List Int) ++ sto n0.kd 2) ++ sto n0.md 2) ++ sto n0.ui 2) ++ sto n0.gi 2) ++ sto n0.tm 4) ++ sto n0.ln 4) ++ sto n0.at_ 4).length = 20 := by simp only [List.length_append, sto_length, List.length_nil]
    obtain ⟨r, hr⟩ := h.2.2
    rw [hx] at hr
    generalize (((((((([] : List Int) ++ sto n0.kd 2) ++ sto n0.md 2) ++ sto n0.ui 2) ++ sto n0.gi 2) ++ sto n0.tm 4) ++ sto n0.ln 4) ++ sto n0.at_ 4) = A at *
    have hs2 : sto (n0.tg.size : Int) 2 = [1, 0] := by rw [e8]; simp [sto]
    rw [hs2] at hr
    have g : ∀ i : Nat, bs.getD (at_ + i) 0 = (bs.drop at_).getD i 0 := fun i => by rw [List.getD_eq_getElem?_getD, List.getD_eq_getElem?_getD, List.getElem?_drop]
    refine ⟨by omega, by rw [hb, q], ?_, ?_⟩
    · rw [g, ← hr, List.append_assoc, List.getD_eq_getElem?_getD, List.getElem?_append_right (by omega), hA]; rfl
    · rw [g, ← hr, List.append_assoc, List.getD_eq_getElem?_getD, List.getElem?_append_right (by omega), hA]; rfl
  · have := e4 q; omega
theorem pre_app0 {bs : List Int} {at_ : Nat} {n0 : Nd} (h : Pre15 bs at_ n0) : Pre15 (bs.drop at_ ++ [0]) 0 n0 := ⟨h.1, h.2.1, by obtain ⟨r, hr⟩ := h.2.2; exact ⟨r ++ [0], by rw [List.drop_zero, ← hr, List.append_assoc]⟩⟩

set_option maxHeartbeats 8000000 in
theorem rshort_any (a : Option Addr) (len cap at_ : Nat) (bs : List Int) (w : World) (R : Row w a len bs) (hcap : len ≤ cap) (hl : len ≤ 100000) (hat : at_ ≤ len) :
    Calls Try.prog 34 #[.slice a len cap, .int .i64 (at_ : Int)] w (ShP15 w len bs at_) := by
  by_cases h23 : len = at_ + 23
  · have HL : Hid (bs.length = len) := R.len_eq
    obtain ⟨b, off, rfl, hcel⟩ := R.cells (by omega)
    have c0 := hcel at_ (by omega)
    have c20 := hcel (at_ + 20) (by omega)
    have c21 := hcel (at_ + 21) (by omega)
    have HPS : Hid (∀ n0, Pre15 bs at_ n0 → bs.getD at_ 0 = 3 ∧ bs.getD (at_ + 20) 0 = 1 ∧ bs.getD (at_ + 21) 0 = 0) := fun n0 h => (pre_short h R.len_eq (by omega)).2
    have HR : Hid _ := R
    have HLE : Hid (len = at_ + 23 ∧ len ≤ cap ∧ len ≤ 100000) := ⟨h23, hcap, hl⟩
    have hb0 := R.byt.getD at_
    have hb1 := R.byt.getD (at_ + 20)
    have hb2 := R.byt.getD (at_ + 21)
    have n1 : (len : Int) - (at_ : Int) = 23 := by omega
    have n2 : (at_ : Int) < (len : Int) := by omega
    have n3 : (at_ : Int) + 20 < (len : Int) := by omega
    have n4 : (at_ : Int) + 21 < (len : Int) := by omega
    have n5 : IntKind.i64.wrap ((at_ : Int) + 20) = (at_ : Int) + 20 := wr_in (by omega) (by omega)
    have n6 : IntKind.i64.wrap ((at_ : Int) + 21) = (at_ : Int) + 21 := wr_in (by clear n5; omega) (by clear n5; omega)
    have k0 : (w.alloc (.cells #[.int .i64 0, .int .i64 0, .int .i64 0, .int .i64 0, .int .i64 0, .int .i64 0, .int .i64 0, .int .i64 0, .int .i64 0, .slice none 0 0, .int .i64 0, .int .i64 0, .int .i64 0, .int .i64 0, .int .i64 0, .int .i64 0, .string ⟨#[]⟩, .int .i64 0] 24)).cell? ⟨b, off + at_, none⟩ = some (.int .u8 (bs.getD at_ 0)) := by rw [← c0]; exact (grown_below (World.grownBy_alloc w _ none)).cell (p := ⟨b, off + at_, none⟩) (cell_lt c0)
    have k20 : (w.alloc (.cells #[.int .i64 0, .int .i64 0, .int .i64 0, .int .i64 0, .int .i64 0, .int .i64 0, .int .i64 0, .int .i64 0, .int .i64 0, .slice none 0 0, .int .i64 0, .int .i64 0, .int .i64 0, .int .i64 0, .int .i64 0, .int .i64 0, .string ⟨#[]⟩, .int .i64 0] 24)).cell? ⟨b, off + (at_ + 20), none⟩ = some (.int .u8 (bs.getD (at_ + 20) 0)) := by rw [← c20]; exact (grown_below (World.grownBy_alloc w _ none)).cell (p := ⟨b, off + (at_ + 20), none⟩) (cell_lt c20)
    have k21 : (w.alloc (.cells #[.int .i64 0, .int .i64 0, .int .i64 0, .int .i64 0, .int .i64 0, .int .i64 0, .int .i64 0, .int .i64 0, .int .i64 0, .slice none 0 0, .int .i64 0, .int .i64 0, .int .i64 0, .int .i64 0, .int .i64 0, .int .i64 0, .string ⟨#[]⟩, .int .i64 0] 24)).cell? ⟨b, off + (at_ + 21), none⟩ = some (.int .u8 (bs.getD (at_ + 21) 0)) := by rw [← c21]; exact (grown_below (World.grownBy_alloc w _ none)).cell (p := ⟨b, off + (at_ + 21), none⟩) (cell_lt c21)
    have HZ : Hid (Bx (w.alloc (.cells #[.int .i64 0, .int .i64 0, .int .i64 0, .int .i64 0, .int .i64 0, .int .i64 0, .int .i64 0, .int .i64 0, .int .i64 0, .slice none 0 0, .int .i64 0, .int .i64 0, .int .i64 0, .int .i64 0, .int .i64 0, .int .i64 0, .string ⟨#[]⟩, .int .i64 0] 24)) w.heap.size 24 [.int .i64 0, .int .i64 0, .int .i64 0, .int .i64 0, .int .i64 0, .int .i64 0, .int .i64 0, .int .i64 0, .int .i64 0, .slice none 0 0, .int .i64 0, .int .i64 0, .int .i64 0, .int .i64 0, .int .i64 0, .int .i64 0, .string ⟨#[]⟩, .int .i64 0] ∧ w.grownBy (w.alloc (.cells #[.int .i64 0, .int .i64 0, .int .i64 0, .int .i64 0, .int .i64 0, .int .i64 0, .int .i64 0, .int .i64 0, .int .i64 0, .slice none 0 0, .int .i64 0, .int .i64 0, .int .i64 0, .int .i64 0, .int .i64 0, .int .i64 0, .string ⟨#[]⟩, .int .i64 0] 24)) none) := ⟨Bx.new w _ _, World.grownBy_alloc _ _ _⟩
    generalize hx0 : bs.getD at_ 0 = x0 at *
    generalize hx1 : bs.getD (at_ + 20) 0 = x1 at *
    generalize hx2 : bs.getD (at_ + 21) 0 = x2 at *
    clear hcel c0 c20 c21 R hb0 hb1 hb2 h23 hcap hl hat
    by_cases q0 : x0 = 3
    · by_cases q1 : x1 = 1
      · by_cases q2 : x2 = 0
        · skip
          subst q0 q1 q2
          obtain ⟨i5, hi, hz0, hz1, hz2⟩ := info_parts Try.info5
          have nw : IntKind.i64.wrap ((len : Int) - (at_ : Int)) = 23 := by rw [n1]; rfl
          go_enter Try.func34, Try.ntmps34
          have R1 := HR.out.grown HZ.out.2
          have R2 := R1.part at_ 23 (by have := HLE.out; clear n5 n6 nw; omega)
          have hT : (bs.drop at_).take 23 = bs.drop at_ := List.take_of_length_le (by rw [List.length_drop, HL.out]; have := HLE.out; clear n5 n6 nw; omega)
          rw [hT] at R2
          have HR2 : Hid _ := R2
          have hcc : (at_ : Int) ≤ (len : Int) := by clear n5 n6 nw; omega
          have hcd : (len : Int) ≤ (cap : Int) := by have := HLE.out; clear n5 n6 nw; omega
          have nat1 : len - at_ = 23 := by clear n5 n6 nw; omega
          clear R1 R2 hT
          have O0 := World.ownsRow_made (base := w.heap.size + 1) (e := 5) (size := 1) (w.alloc (.cells #[.int .i64 0, .int .i64 0, .int .i64 0, .int .i64 0, .int .i64 0, .int .i64 0, .int .i64 0, .int .i64 0, .int .i64 0, .slice none 0 0, .int .i64 0, .int .i64 0, .int .i64 0, .int .i64 0, .int .i64 0, .int .i64 0, .string ⟨#[]⟩, .int .i64 0] 24)) #[] 0 (by simp) (Nat.zero_le _) (by simp)
          have eS : (w.alloc (.cells #[.int .i64 0, .int .i64 0, .int .i64 0, .int .i64 0, .int .i64 0, .int .i64 0, .int .i64 0, .int .i64 0, .int .i64 0, .slice none 0 0, .int .i64 0, .int .i64 0, .int .i64 0, .int .i64 0, .int .i64 0, .int .i64 0, .string ⟨#[]⟩, .int .i64 0] 24)).heap.size = w.heap.size + 1 := by show (w.heap.push _).size = _; simp
          rw [eS] at O0
          have HO0 : Hid _ := O0
          clear eS
          have R3 := HR2.out.grown (World.grownBy_alloc _ (.cells #[] 5) none)
          have HR3 : Hid _ := R3
          clear O0 R3
          go_wp2_with (at_builtin; refine wpList_append8 rfl _ _ 26 rfl (w.heap.size + 1) i5 Try.underlying26 hi hz0 hz1 hz2 _ 0 [] rfl HO0.out _ 23 _ _ rfl HR3.out (fun h => by cases h) (by decide) (by simp) ?_)
          intro v1 W2 o1 g1
          have G1 : w.grownBy W2 none := grown_new (grown_trans HZ.out.2 (World.grownBy_alloc _ (.cells #[] 5) none)) g1 (show w.heap.size ≤ w.heap.size + 1 from Nat.le_succ _)
          have Z1 : Bx W2 w.heap.size 24 [.int .i64 0, .int .i64 0, .int .i64 0, .int .i64 0, .int .i64 0, .int .i64 0, .int .i64 0, .int .i64 0, .int .i64 0, .slice none 0 0, .int .i64 0, .int .i64 0, .int .i64 0, .int .i64 0, .int .i64 0, .int .i64 0, .string ⟨#[]⟩, .int .i64 0] := bx_but15 (HZ.out.1.kept (World.grownBy_alloc _ (.cells #[] 5) none)) g1 (by show some w.heap.size ≠ some (w.heap.size + 1); simp)
          have HO1 : Hid (W2.ownsRow (w.heap.size + 1) 5 1 v1 23 (bv (bs.drop at_))) := o1
          have hm3 : 23 + 1 ≤ maxLen := by clear n5 n6 nw; unfold maxLen; omega
          have hm4 : (23 + 1) * 1 ≤ 140737488355328 := by decide
          have H1 : Hid _ := And.intro Z1 G1
          clear o1 g1 G1 Z1 HO0 HR3 HR2 HZ
          go_wp2_with (at_builtin; refine wpList_append_own _ rfl _ _ 26 rfl (w.heap.size + 1) 5 i5 (.int .u8 0) 1 1 Try.underlying26 hi hz0 hz1 hz2 rfl (by decide) _ _ _ rfl (HO1.out.alloc _) ⟨W2.heap.size, 0, none⟩ 1 1 (bv [0]) rfl rfl ?c1 (bv_one _) hm3 hm4 ?c5 ?_)
          case c1 => exact cell_one_new _ _ _
          case c5 => have := H1.out.1.lt; clear n5 n6 nw; simp; omega
          intro v2 W3 o2 g2 _
          have o3 : W3.ownsRow (w.heap.size + 1) 5 1 v2 24 (bv (bs.drop at_ ++ [0])) := by rw [bv_append]; exact o2
          have G2 : w.grownBy W3 none := by
            refine grown_own15' (grown_trans H1.out.2 (World.grownBy_alloc W2 (.cells #[.int .u8 0] 5) none)) g2 (fun r e => ?_)
            have := (HO1.out.lt r e).1
            clear n5 n6 nw; omega
          have Z2 : Bx W3 w.heap.size 24 [.int .i64 0, .int .i64 0, .int .i64 0, .int .i64 0, .int .i64 0, .int .i64 0, .int .i64 0, .int .i64 0, .int .i64 0, .slice none 0 0, .int .i64 0, .int .i64 0, .int .i64 0, .int .i64 0, .int .i64 0, .int .i64 0, .string ⟨#[]⟩, .int .i64 0] := bx_but15 (H1.out.1.kept (World.grownBy_alloc _ _ none)) g2 (fun e => by have := (HO1.out.lt _ e.symm).1; clear n5 n6 nw; omega)
          obtain ⟨a4, c4, rfl, R4, _, nc4, _⟩ := own_bytes o3 ((HR.out.byt.drop at_).append (byt_of _ (by decide))) (by decide)
          have hg := rguess_any a4 24 c4 0 _ W3 R4 nc4 (by decide) (by decide)
          have H2 : Hid _ := And.intro Z2 G2
          clear o2 o3 g2 G2 Z2 R4 HO1 H1
          go_wp2_with fail
          refine hg.mono ?_
          clear hg
          rintro e W4 ⟨m, ok, rfl, hmk, hml, hcomp, hfar, g4⟩
          have HM : Hid _ := And.intro hmk (And.intro hml (And.intro hcomp hfar))
          have H4 : Hid _ := And.intro (H2.out.1.kept g4) (And.intro (grown_trans H2.out.2 g4) (show w.heap.size < W3.heap.size from H2.out.1.lt))
          clear hmk hml hcomp hfar g4 H2
          unfold Nd.val
          have HBN : Hid _ := Bx.new W4 24 [.int .i64 0, .int .i64 0, .int .i64 0, .int .i64 0, .int .i64 0, .int .i64 0, .int .i64 0, .int .i64 0, .int .i64 0, .slice none 0 0, .int .i64 0, .int .i64 0, .int .i64 0, .int .i64 0, .int .i64 0, .int .i64 0, .string ⟨#[]⟩, .int .i64 0]
          go_wp2_with ((with_reducible refine inoStore ?_); refine wpList_storeB rfl 24 _ _ rfl W4.heap.size [.int .i64 m.kd, .int .i64 m.md, .int .i64 m.ui, .int .i64 m.gi, .int .i64 m.tm, .int .i64 m.ln, .int .i64 m.at_, .int .i64 m.sz, .int .i64 m.st, .slice m.wa m.wl m.wc, .int .i64 m.fr, .int .i64 m.of_, .int .i64 m.tl, .int .i64 m.dr, .int .i64 m.by_, .int .i64 m.pr, .string m.tg, .int .i64 m.dv] rfl rfl HBN.out infoI rfl rfl ?_; intro W5 b5 g5; have HB5 : Hid _ := And.intro b5 (grown_new (World.grownBy_alloc W4 _ none) g5 (Nat.le_refl _)); clear b5 g5; refine stopHere15 ?_)
          show wpList _ _ _ _ _ _
          have H5 : Hid _ := And.intro (H4.out.1.kept HB5.out.2) (grown_trans H4.out.2.1 HB5.out.2)
          go_wp2_with (first | ((with_reducible refine inoHere ?_); refine wpList_loadG (by first | rfl | fail) 24 _ rfl W4.heap.size rfl HB5.out.1 Try.underlying24 rfl infoI ?_) | ((with_reducible refine inoStore ?_); refine wpList_storeB rfl 24 _ _ rfl w.heap.size [.int .i64 m.kd, .int .i64 m.md, .int .i64 m.ui, .int .i64 m.gi, .int .i64 m.tm, .int .i64 m.ln, .int .i64 m.at_, .int .i64 m.sz, .int .i64 m.st, .slice m.wa m.wl m.wc, .int .i64 m.fr, .int .i64 m.of_, .int .i64 m.tl, .int .i64 m.dr, .int .i64 m.by_, .int .i64 m.pr, .string m.tg, .int .i64 m.dv] rfl rfl H5.out.1 infoI rfl rfl ?_; intro W6 b6 g6) | fail)
          exact bodyPost_ret (results_cell_1 rfl _ _ w.heap.size 24 _ (0, 0) _ rfl b6.blk Try.underlying24 rfl infoI) rfl (by exact ⟨m, ok, rfl, ok_but15 (HM.out.1.kept HB5.out.2) g6 (fun b o e => by have h1 := HM.out.2.2.2 b o e; have h2 := H4.out.2.2; clear n5 n6 nw; omega), HM.out.2.1, fun n0 h hh => HM.out.2.2.1 n0 (pre_app0 h) (Nat.le_refl _), fun b o e => by have h1 := HM.out.2.2.2 b o e; have h2 := H4.out.2.2; clear n5 n6 nw; omega, grown_new H5.out.2 g6 (Nat.le_refl _)⟩)
        · skip
          have HNO : Hid (∀ n0, Pre15 bs at_ n0 → False) := fun n0 h => q2 ((HPS.out n0 h).2.2)
          go_enter Try.func34, Try.ntmps34
          go_wp2_with (first | ((with_reducible refine inoStore ?_); refine wpList_storeB rfl 24 _ _ rfl w.heap.size [.int .i64 0, .int .i64 0, .int .i64 0, .int .i64 0, .int .i64 0, .int .i64 0, .int .i64 0, .int .i64 0, .int .i64 0, .slice none 0 0, .int .i64 0, .int .i64 0, .int .i64 0, .int .i64 0, .int .i64 0, .int .i64 0, .string ⟨#[]⟩, .int .i64 0] rfl rfl HZ.out.1 infoI rfl rfl ?_; intro W6 b6 g6) | fail)
          exact bodyPost_ret (results_cell_1 rfl _ _ w.heap.size 24 _ (0, 0) _ rfl b6.blk Try.underlying24 rfl infoI) rfl (by exact ⟨nz15, false, rfl, nz_ok _, rfl, fun n0 h0 hh => absurd (HNO.out n0 h0) (fun q => q), far_none, grown_new HZ.out.2 g6 (Nat.le_refl _)⟩)
      · skip
        have HNO : Hid (∀ n0, Pre15 bs at_ n0 → False) := fun n0 h => q1 ((HPS.out n0 h).2.1)
        go_enter Try.func34, Try.ntmps34
        go_wp2_with (first | ((with_reducible refine inoStore ?_); refine wpList_storeB rfl 24 _ _ rfl w.heap.size [.int .i64 0, .int .i64 0, .int .i64 0, .int .i64 0, .int .i64 0, .int .i64 0, .int .i64 0, .int .i64 0, .int .i64 0, .slice none 0 0, .int .i64 0, .int .i64 0, .int .i64 0, .int .i64 0, .int .i64 0, .int .i64 0, .string ⟨#[]⟩, .int .i64 0] rfl rfl HZ.out.1 infoI rfl rfl ?_; intro W6 b6 g6) | fail)
        exact bodyPost_ret (results_cell_1 rfl _ _ w.heap.size 24 _ (0, 0) _ rfl b6.blk Try.underlying24 rfl infoI) rfl (by exact ⟨nz15, false, rfl, nz_ok _, rfl, fun n0 h0 hh => absurd (HNO.out n0 h0) (fun q => q), far_none, grown_new HZ.out.2 g6 (Nat.le_refl _)⟩)
    · skip
      have HNO : Hid (∀ n0, Pre15 bs at_ n0 → False) := fun n0 h => q0 ((HPS.out n0 h).1)
      go_enter Try.func34, Try.ntmps34
      go_wp2_with (first | ((with_reducible refine inoStore ?_); refine wpList_storeB rfl 24 _ _ rfl w.heap.size [.int .i64 0, .int .i64 0, .int .i64 0, .int .i64 0, .int .i64 0, .int .i64 0, .int .i64 0, .int .i64 0, .int .i64 0, .slice none 0 0, .int .i64 0, .int .i64 0, .int .i64 0, .int .i64 0, .int .i64 0, .int .i64 0, .string ⟨#[]⟩, .int .i64 0] rfl rfl HZ.out.1 infoI rfl rfl ?_; intro W6 b6 g6) | fail)
      exact bodyPost_ret (results_cell_1 rfl _ _ w.heap.size 24 _ (0, 0) _ rfl b6.blk Try.underlying24 rfl infoI) rfl (by exact ⟨nz15, false, rfl, nz_ok _, rfl, fun n0 h0 hh => absurd (HNO.out n0 h0) (fun q => q), far_none, grown_new HZ.out.2 g6 (Nat.le_refl _)⟩)
  · skip
    have HNO : Hid (∀ n0, Pre15 bs at_ n0 → len < at_ + 24 → False) := fun n0 h hh => h23 (pre_short h R.len_eq hh).1
    have n1 : ¬ (len : Int) - (at_ : Int) = 23 := by omega
    have nw : IntKind.i64.wrap ((len : Int) - (at_ : Int)) = (len : Int) - (at_ : Int) := wr_in (by omega) (by omega)
    have HZ : Hid (Bx (w.alloc (.cells #[.int .i64 0, .int .i64 0, .int .i64 0, .int .i64 0, .int .i64 0, .int .i64 0, .int .i64 0, .int .i64 0, .int .i64 0, .slice none 0 0, .int .i64 0, .int .i64 0, .int .i64 0, .int .i64 0, .int .i64 0, .int .i64 0, .string ⟨#[]⟩, .int .i64 0] 24)) w.heap.size 24 [.int .i64 0, .int .i64 0, .int .i64 0, .int .i64 0, .int .i64 0, .int .i64 0, .int .i64 0, .int .i64 0, .int .i64 0, .slice none 0 0, .int .i64 0, .int .i64 0, .int .i64 0, .int .i64 0, .int .i64 0, .int .i64 0, .string ⟨#[]⟩, .int .i64 0] ∧ w.grownBy (w.alloc (.cells #[.int .i64 0, .int .i64 0, .int .i64 0, .int .i64 0, .int .i64 0, .int .i64 0, .int .i64 0, .int .i64 0, .int .i64 0, .slice none 0 0, .int .i64 0, .int .i64 0, .int .i64 0, .int .i64 0, .int .i64 0, .int .i64 0, .string ⟨#[]⟩, .int .i64 0] 24)) none) := ⟨Bx.new w _ _, World.grownBy_alloc _ _ _⟩
    clear R h23 hcap hl hat
    go_enter Try.func34, Try.ntmps34
    go_wp2_with (first | ((with_reducible refine inoStore ?_); refine wpList_storeB rfl 24 _ _ rfl w.heap.size [.int .i64 0, .int .i64 0, .int .i64 0, .int .i64 0, .int .i64 0, .int .i64 0, .int .i64 0, .int .i64 0, .int .i64 0, .slice none 0 0, .int .i64 0, .int .i64 0, .int .i64 0, .int .i64 0, .int .i64 0, .int .i64 0, .string ⟨#[]⟩, .int .i64 0] rfl rfl HZ.out.1 infoI rfl rfl ?_; intro W6 b6 g6) | fail)
    exact bodyPost_ret (results_cell_1 rfl _ _ w.heap.size 24 _ (0, 0) _ rfl b6.blk Try.underlying24 rfl infoI) rfl (by exact ⟨nz15, false, rfl, nz_ok _, rfl, fun n0 h0 hh => absurd (HNO.out n0 h0 hh) (fun q => q), far_none, grown_new HZ.out.2 g6 (Nat.le_refl _)⟩)
end Go.Proofs.Ytiafbnpbbjkdbaa

namespace Go.Proofs.Ytiafbnpbbjkdbaa
open Go.RowKit
set_option maxRecDepth 100000
set_option linter.unusedSimpArgs false
set_option linter.unusedVariables false
theorem same_enb15 {n m : Nd} (h : Same15 n m) (h1 : n.ws.length = n.wl) (h2 : m.ws.length = m.wl) : enb15 n = enb15 m := by
  obtain ⟨h_kd, h_md, h_ui, h_gi, h_tm, h_ln, h_at_, h_sz, h_st, h_fr, h_of_, h_tl, h_dr, h_by_, h_pr, h_dv, hws, htg⟩ := h
  cases n
  cases m
  simp only at h_kd h_md h_ui h_gi h_tm h_ln h_at_ h_sz h_st h_fr h_of_ h_tl h_dr h_by_ h_pr h_dv hws htg h1 h2
  subst h_kd h_md h_ui h_gi h_tm h_ln h_at_ h_sz h_st h_fr h_of_ h_tl h_dr h_by_ h_pr h_dv hws htg
  subst h1 h2
  rfl
/-- what the document's Decode answers from a place on -/
def RDe15 (w : World) (bs : List Int) (at_ : Nat) (e : Ending) (w' : World) : Prop :=
  ∃ (m : Nd) (nx c : Int), e = .returned (.tuple #[m.val, .int .i64 nx, .int .i64 c]) ∧ m.ok w' ∧ m.ws.length = m.wl ∧ ((Pre15 bs at_ m ∧ nx = at_ + (enb15 m).length ∧ c = 0) ∨ (m = nz15 ∧ No15 bs at_ ∧ nx = 0 ∧ c = 6)) ∧ w.grownBy w' none
theorem ba_inj15 {s t : ByteArray} (h : s.toList = t.toList) : s = t := by
  rw [ByteArray.toList_eq, ByteArray.toList_eq] at h
  obtain ⟨⟨s⟩⟩ := s
  obtain ⟨⟨t⟩⟩ := t
  simp only at h
  rw [h]
theorem str_ne15 {xs ys : List Int} (hx : Byt xs) (hy : Byt ys) (h : xs ≠ ys) : ¬ strOfNums xs = strOfNums ys := fun e => h (by rw [← nums_str hx, ← nums_str hy, e])
set_option maxHeartbeats 8000000 in
theorem rdecode15_any (a : Option Addr) (len cap at_ : Nat) (bs : List Int) (w : World) (R : Row w a len bs) (hcap : len ≤ cap) (hl : len ≤ 100000) (hat : at_ ≤ len) :
    Calls Try.prog 15 #[.slice a len cap, .int .i64 (at_ : Int)] w (RDe15 w bs at_) := by
  have HR : Hid _ := R
  have HLE : Hid (at_ ≤ len ∧ len ≤ cap ∧ len ≤ 100000) := ⟨hat, hcap, hl⟩
  have HLB : Hid (bs.length = len) := R.len_eq
  have h1 : ¬ (at_ : Int) < 0 := by omega
  have h2 : ¬ (len : Int) < (at_ : Int) := by omega
  have HZ : Hid (Bx (w.alloc (.cells #[.int .i64 0, .int .i64 0, .int .i64 0, .int .i64 0, .int .i64 0, .int .i64 0, .int .i64 0, .int .i64 0, .int .i64 0, .slice none 0 0, .int .i64 0, .int .i64 0, .int .i64 0, .int .i64 0, .int .i64 0, .int .i64 0, .string ⟨#[]⟩, .int .i64 0] 24)) w.heap.size 24 [.int .i64 0, .int .i64 0, .int .i64 0, .int .i64 0, .int .i64 0, .int .i64 0, .int .i64 0, .int .i64 0, .int .i64 0, .slice none 0 0, .int .i64 0, .int .i64 0, .int .i64 0, .int .i64 0, .int .i64 0, .int .i64 0, .string ⟨#[]⟩, .int .i64 0] ∧ w.grownBy (w.alloc (.cells #[.int .i64 0, .int .i64 0, .int .i64 0, .int .i64 0, .int .i64 0, .int .i64 0, .int .i64 0, .int .i64 0, .int .i64 0, .slice none 0 0, .int .i64 0, .int .i64 0, .int .i64 0, .int .i64 0, .int .i64 0, .int .i64 0, .string ⟨#[]⟩, .int .i64 0] 24)) none) := ⟨Bx.new w _ _, World.grownBy_alloc _ _ _⟩
  have hg := rguess_two a len cap at_ bs _ (R.grown HZ.out.2) hcap hl hat
  have HSH : Hid (∀ V, w.grownBy V none → Calls Try.prog 34 #[.slice a len cap, .int .i64 (at_ : Int)] V (ShP15 V len bs at_)) := fun V g => rshort_any a len cap at_ bs V (R.grown g) hcap hl hat
  clear R hcap hl hat
  go_enter Try.func15, Try.ntmps15
  go_wp2_with fail
  generalize w.alloc (.cells #[.int .i64 0, .int .i64 0, .int .i64 0, .int .i64 0, .int .i64 0, .int .i64 0, .int .i64 0, .int .i64 0, .int .i64 0, .slice none 0 0, .int .i64 0, .int .i64 0, .int .i64 0, .int .i64 0, .int .i64 0, .int .i64 0, .string ⟨#[]⟩, .int .i64 0] 24) = W1 at *
  refine hg.mono ?_
  clear hg
  rintro e W2 ⟨m, ok, rfl, hmk, hml, hc1, hc2, hfar, g2⟩
  have HM : Hid _ := And.intro hmk (And.intro hml (And.intro hc1 (And.intro hc2 hfar)))
  have HZ2 : Hid _ := And.intro (HZ.out.1.kept g2) (And.intro (grown_trans HZ.out.2 g2) (show w.heap.size < W1.heap.size from HZ.out.1.lt))
  clear HZ g2 hmk hml hc1 hc2 hfar
  unfold Nd.val
  have HBN : Hid _ := Bx.new W2 24 [.int .i64 0, .int .i64 0, .int .i64 0, .int .i64 0, .int .i64 0, .int .i64 0, .int .i64 0, .int .i64 0, .int .i64 0, .slice none 0 0, .int .i64 0, .int .i64 0, .int .i64 0, .int .i64 0, .int .i64 0, .int .i64 0, .string ⟨#[]⟩, .int .i64 0]
  go_wp2_with (first | ((with_reducible refine inoStore ?_); refine wpList_storeB rfl 24 _ _ rfl W2.heap.size [.int .i64 m.kd, .int .i64 m.md, .int .i64 m.ui, .int .i64 m.gi, .int .i64 m.tm, .int .i64 m.ln, .int .i64 m.at_, .int .i64 m.sz, .int .i64 m.st, .slice m.wa m.wl m.wc, .int .i64 m.fr, .int .i64 m.of_, .int .i64 m.tl, .int .i64 m.dr, .int .i64 m.by_, .int .i64 m.pr, .string m.tg, .int .i64 m.dv] rfl rfl HBN.out infoI rfl rfl ?_; intro W3 b3 g3; refine stopHere15 ?_) | fail)
  show wpList _ _ _ _ _ _
  have g23 : W2.grownBy W3 none := grown_new (World.grownBy_alloc W2 _ none) g3 (Nat.le_refl _)
  have HB3 : Hid _ := And.intro b3 (And.intro (HZ2.out.1.kept g23) (And.intro (grown_trans HZ2.out.2.1 g23) (HM.out.1.kept g23)))
  have HNE : Hid (w.heap.size < W2.heap.size) := HZ2.out.1.lt
  have HFA : Hid (∀ b o, m.wa = some ⟨b, o, none⟩ → b ≠ w.heap.size) := fun b o e q => by have h1 := HM.out.2.2.2.2 b o e; have h2 := HZ2.out.2.2; omega
  clear g23 b3 g3 HBN HZ2
  cases ok with
  | true =>
    have HT : Hid (Bx W3 W2.heap.size 24 [.int .i64 m.kd, .int .i64 m.md, .int .i64 m.ui, .int .i64 m.gi, .int .i64 m.tm, .int .i64 m.ln, .int .i64 m.at_, .int .i64 m.sz, .int .i64 m.st, .slice m.wa m.wl m.wc, .int .i64 m.fr, .int .i64 m.of_, .int .i64 m.tl, .int .i64 m.dr, .int .i64 m.by_, .int .i64 m.pr, .string m.tg, .int .i64 m.dv] ∧ Bx W3 w.heap.size 24 [.int .i64 0, .int .i64 0, .int .i64 0, .int .i64 0, .int .i64 0, .int .i64 0, .int .i64 0, .int .i64 0, .int .i64 0, .slice none 0 0, .int .i64 0, .int .i64 0, .int .i64 0, .int .i64 0, .int .i64 0, .int .i64 0, .string ⟨#[]⟩, .int .i64 0] ∧ w.grownBy W3 none ∧ m.ok W3 ∧ m.ws.length = m.wl ∧ (∀ n0, Pre15 bs at_ n0 → Same15 m n0)) := ⟨HB3.out.1, HB3.out.2.1, HB3.out.2.2.1, HB3.out.2.2.2, HM.out.2.1, HM.out.2.2.1 rfl⟩
    clear HM HB3 HSH
    by_cases hc : chk15 m = 0
    · have hk := rcheck15_any m W3 HT.out.2.2.2.1
      rw [hc] at hk
      have hy := fun V g => rbytes15_any m V (HT.out.2.2.2.1.kept g) (chk_rt hc)
      have HY : Hid _ := hy
      have HEL : Hid (23 ≤ (enb15 m).length) := (enb_len (chk_rt hc) HT.out.2.2.2.2.1).2.2.2.2
      have HBY : Hid (Byt (enb15 m)) := enb15_byt _
      have HCC : Hid (chk15 m = 0) := hc
      have HSE : Hid (∀ n0, Pre15 bs at_ n0 → enb15 m <+: bs.drop at_) := fun n0 h => by rw [same_enb15 (HT.out.2.2.2.2.2 n0 h) HT.out.2.2.2.2.1 h.2.1]; exact h.2.2
      obtain ⟨X, hX⟩ : ∃ X, X = enb15 m := ⟨_, rfl⟩
      have HX : Hid _ := hX
      rw [← hX] at HY HEL HBY HSE
      clear hy hc hX
      unfold Nd.val at hk HY
      go_wp2_with (first | ((with_reducible refine inoHere ?_); refine wpList_loadG (by first | rfl | fail) 24 _ rfl (W2.heap.size) rfl HT.out.1 Try.underlying24 rfl infoI ?_) | fail)
      refine hk.mono ?_
      rintro e WB ⟨rfl, g5⟩
      clear hk
      have HT5 : Hid _ := And.intro (HT.out.1.kept g5) (And.intro (HT.out.2.1.kept g5) (grown_trans HT.out.2.2.1 g5))
      have HK5 : Hid _ := HT.out.2.2.2.1.kept g5
      have HW5 : Hid _ := g5
      clear g5
      go_wp2_with (first | ((with_reducible refine inoHere ?_); refine wpList_loadG (by first | rfl | fail) 24 _ rfl (W2.heap.size) rfl HT5.out.1 Try.underlying24 rfl infoI ?_) | fail)
      refine (HY.out WB HW5.out).mono ?_
      rintro e WC ⟨a6, c6, rfl, R6, _, g6⟩
      have HT6 : Hid _ := And.intro (HT5.out.1.kept g6) (And.intro (HT5.out.2.1.kept g6) (And.intro (grown_trans HT5.out.2.2 g6) (HK5.out.kept g6)))
      have HR6 : Hid _ := R6
      have hxl := R6.le
      clear R6 g6 HT5 HW5 HK5 HY
      have HRB : Hid _ := HR.out.grown HT6.out.2.2.1
      go_wp2_with fail
      have hxl2 : X.length ≤ 9223372036854775807 := hxl
      have hln := HLE.out
      have w1 : IntKind.i64.wrap ((len : Int) - (at_ : Int)) = (len : Int) - (at_ : Int) := wr_in (by omega) (by omega)
      have HT7 : Hid _ := And.intro (HT6.out.1.kept (show World.grownBy WC WC.drew none from ⟨rfl, rfl, rfl, Nat.le_refl _, fun _ _ _ => rfl⟩)) (And.intro (HT6.out.2.1.kept (show World.grownBy WC WC.drew none from ⟨rfl, rfl, rfl, Nat.le_refl _, fun _ _ _ => rfl⟩)) (And.intro (grown_trans HT6.out.2.2.1 (show World.grownBy WC WC.drew none from ⟨rfl, rfl, rfl, Nat.le_refl _, fun _ _ _ => rfl⟩)) (HT6.out.2.2.2.kept (show World.grownBy WC WC.drew none from ⟨rfl, rfl, rfl, Nat.le_refl _, fun _ _ _ => rfl⟩))))
      by_cases cL : (len : Int) - (at_ : Int) < (X.length : Int)
      · skip
        have c1 : (len : Int) - (at_ : Int) < (X.length : Int) := by clear w1; omega
        have HNO : Hid (No15 bs at_) := fun n0 h => by have h1 := HSE.out n0 h; have h2 := h1.length_le; rw [List.length_drop, HLB.out] at h2; clear w1; omega
        refine wp_region_held_drew (S := fun V => World.grownBy WC V none) (by kernel_rfl) ⟨rfl, rfl, rfl, Nat.le_refl _, fun _ _ _ => rfl⟩ (fun hH => ?_)
        refine wpAnyH_take (i := 0) (oi := ⟨some 43, _, _, _, _, _⟩) (v := .slice a6 X.length c6) rfl (by kernel_rfl) (by kernel_rfl) (by kernel_rfl) (fun _ _ _ h => h) (Or.inl ⟨by rfl, fun w hSw => by go_simp⟩) hH ?_
        simp only [Act.put, List.setIfInBounds_toArray, List.set_cons_zero, List.set_cons_succ]
        refine wpAnyH_take (i := 1) (oi := ⟨some 44, _, _, _, _, _⟩) (v := .int .i64 (X.length : Int)) rfl (by kernel_rfl) (by kernel_rfl) (by kernel_rfl) (fun _ _ _ h => h) (Or.inl ⟨by rfl, fun w hSw => by go_simp⟩) hH ?_
        simp only [Act.put, List.setIfInBounds_toArray, List.set_cons_zero, List.set_cons_succ]
        refine wpAnyH_take (i := 2) (oi := ⟨some 45, _, _, _, _, _⟩) (v := .slice a len cap) rfl (by kernel_rfl) (by kernel_rfl) (by kernel_rfl) (fun _ _ _ h => h) (Or.inl ⟨by rfl, fun w hSw => by go_simp⟩) hH ?_
        simp only [Act.put, List.setIfInBounds_toArray, List.set_cons_zero, List.set_cons_succ]
        refine wpAnyH_take (i := 3) (oi := ⟨some 46, _, _, _, _, _⟩) (v := .int .i64 (len : Int)) rfl (by kernel_rfl) (by kernel_rfl) (by kernel_rfl) (fun _ _ _ h => h) (Or.inl ⟨by rfl, fun w hSw => by go_simp⟩) hH ?_
        simp only [Act.put, List.setIfInBounds_toArray, List.set_cons_zero, List.set_cons_succ]
        refine wpAnyH_take (i := 4) (oi := ⟨some 47, _, _, _, _, _⟩) (v := .int .i64 (at_ : Int)) rfl (by kernel_rfl) (by kernel_rfl) (by kernel_rfl) (fun _ _ _ h => h) (Or.inl ⟨by rfl, fun w hSw => by go_simp⟩) hH ?_
        simp only [Act.put, List.setIfInBounds_toArray, List.set_cons_zero, List.set_cons_succ]
        refine wpAnyH_take (i := 5) (oi := ⟨some 48, _, _, _, _, _⟩) (v := .int .i64 ((len : Int) - (at_ : Int))) rfl (by kernel_rfl) (by kernel_rfl) (by kernel_rfl) (fun _ _ _ h => h) (Or.inl ⟨by rfl, fun w hSw => by go_simp⟩) hH ?_
        simp only [Act.put, List.setIfInBounds_toArray, List.set_cons_zero, List.set_cons_succ]
        refine wpAnyH_take (i := 6) (oi := ⟨some 49, _, _, _, _, _⟩) (v := .bool true) rfl (by kernel_rfl) (by kernel_rfl) (by kernel_rfl) (fun _ _ _ h => h) (Or.inl ⟨by rfl, fun w hSw => by go_simp⟩) hH ?_
        simp only [Act.put, List.setIfInBounds_toArray, List.set_cons_zero, List.set_cons_succ]
        refine wpAnyH_take (i := 7) (oi := ⟨some 50, _, _, _, _, _⟩) (v := .bool true) rfl (by kernel_rfl) (by kernel_rfl) (by kernel_rfl) (fun _ _ _ h => h) (Or.inl ⟨by rfl, fun w hSw => by go_simp⟩) hH ?_
        simp only [Act.put, List.setIfInBounds_toArray, List.set_cons_zero, List.set_cons_succ]
        refine wpAnyH_take (i := 8) (oi := ⟨some 51, _, _, _, _, _⟩) (v := undef) rfl (by kernel_rfl) (by kernel_rfl) (by kernel_rfl) (fun _ _ _ h => h) (Or.inr ⟨by rfl, rfl⟩) hH ?_
        simp only [Act.put, List.setIfInBounds_toArray, List.set_cons_zero, List.set_cons_succ]
        refine wpAnyH_take (i := 9) (oi := ⟨some 52, _, _, _, _, _⟩) (v := undef) rfl (by kernel_rfl) (by kernel_rfl) (by kernel_rfl) (fun _ _ _ h => h) (Or.inr ⟨by rfl, rfl⟩) hH ?_
        simp only [Act.put, List.setIfInBounds_toArray, List.set_cons_zero, List.set_cons_succ]
        refine wpAnyH_take (i := 10) (oi := ⟨some 53, _, _, _, _, _⟩) (v := undef) rfl (by kernel_rfl) (by kernel_rfl) (by kernel_rfl) (fun _ _ _ h => h) (Or.inr ⟨by rfl, rfl⟩) hH ?_
        simp only [Act.put, List.setIfInBounds_toArray, List.set_cons_zero, List.set_cons_succ]
        refine wpAnyH_take (i := 11) (oi := ⟨some 54, _, _, _, _, _⟩) (v := undef) rfl (by kernel_rfl) (by kernel_rfl) (by kernel_rfl) (fun _ _ _ h => h) (Or.inr ⟨by rfl, rfl⟩) hH ?_
        simp only [Act.put, List.setIfInBounds_toArray, List.set_cons_zero, List.set_cons_succ]
        refine wpAnyH_take (i := 12) (oi := ⟨some 55, _, _, _, _, _⟩) (v := undef) rfl (by kernel_rfl) (by kernel_rfl) (by kernel_rfl) (fun _ _ _ h => h) (Or.inr ⟨by rfl, rfl⟩) hH ?_
        simp only [Act.put, List.setIfInBounds_toArray, List.set_cons_zero, List.set_cons_succ]
        refine wpAnyH_take (i := 13) (oi := ⟨some 56, _, _, _, _, _⟩) (v := undef) rfl (by kernel_rfl) (by kernel_rfl) (by kernel_rfl) (fun _ _ _ h => h) (Or.inr ⟨by rfl, rfl⟩) hH ?_
        simp only [Act.put, List.setIfInBounds_toArray, List.set_cons_zero, List.set_cons_succ]
        refine wpAnyH_take (i := 14) (oi := ⟨some 57, _, _, _, _, _⟩) (v := undef) rfl (by kernel_rfl) (by kernel_rfl) (by kernel_rfl) (fun _ _ _ h => h) (Or.inr ⟨by rfl, rfl⟩) hH ?_
        simp only [Act.put, List.setIfInBounds_toArray, List.set_cons_zero, List.set_cons_succ]
        refine wpAnyH_take (i := 15) (oi := ⟨some 58, _, _, _, _, _⟩) (v := undef) rfl (by kernel_rfl) (by kernel_rfl) (by kernel_rfl) (fun _ _ _ h => h) (Or.inr ⟨by rfl, rfl⟩) hH ?_
        simp only [Act.put, List.setIfInBounds_toArray, List.set_cons_zero, List.set_cons_succ]
        refine wpAnyH_take (i := 16) (oi := ⟨some 59, _, _, _, _, _⟩) (v := undef) rfl (by kernel_rfl) (by kernel_rfl) (by kernel_rfl) (fun _ _ _ h => h) (Or.inr ⟨by rfl, rfl⟩) hH ?_
        simp only [Act.put, List.setIfInBounds_toArray, List.set_cons_zero, List.set_cons_succ]
        refine wpAnyH_take (i := 17) (oi := ⟨some 60, _, _, _, _, _⟩) (v := undef) rfl (by kernel_rfl) (by kernel_rfl) (by kernel_rfl) (fun _ _ _ h => h) (Or.inr ⟨by rfl, rfl⟩) hH ?_
        simp only [Act.put, List.setIfInBounds_toArray, List.set_cons_zero, List.set_cons_succ]
        refine wpAnyH_take (i := 18) (oi := ⟨some 61, _, _, _, _, _⟩) (v := undef) rfl (by kernel_rfl) (by kernel_rfl) (by kernel_rfl) (fun _ _ _ h => h) (Or.inr ⟨by rfl, rfl⟩) hH ?_
        simp only [Act.put, List.setIfInBounds_toArray, List.set_cons_zero, List.set_cons_succ]
        refine wpAnyH_take (i := 19) (oi := ⟨some 62, _, _, _, _, _⟩) (v := .bool true) rfl (by kernel_rfl) (by kernel_rfl) (by kernel_rfl) (fun _ _ _ h => h) (Or.inl ⟨by rfl, fun w hSw => by go_simp⟩) hH ?_
        simp only [Act.put, List.setIfInBounds_toArray, List.set_cons_zero, List.set_cons_succ]
        refine wpAnyH_done (by kernel_rfl) ?_ _
        clear hH
        go_wp2_with (first | ((with_reducible refine inoStore ?_); refine wpList_storeB rfl 24 _ _ rfl w.heap.size [.int .i64 0, .int .i64 0, .int .i64 0, .int .i64 0, .int .i64 0, .int .i64 0, .int .i64 0, .int .i64 0, .int .i64 0, .slice none 0 0, .int .i64 0, .int .i64 0, .int .i64 0, .int .i64 0, .int .i64 0, .int .i64 0, .string ⟨#[]⟩, .int .i64 0] rfl rfl HT7.out.2.1 infoI rfl rfl ?_; intro W9 b9 g9) | fail)
        exact bodyPost_ret (results_cell_2 rfl _ _ w.heap.size 24 _ (0, 0) _ rfl b9.blk Try.underlying24 rfl infoI) rfl (by exact ⟨nz15, 0, 6, rfl, nz_ok _, rfl, Or.inr ⟨rfl, HNO.out, rfl, rfl⟩, grown_new HT7.out.2.2.1 g9 (Nat.le_refl _)⟩)
      · skip
        have c1 : ¬ (len : Int) - (at_ : Int) < (X.length : Int) := by clear w1; omega
        have h23 := HEL.out
        obtain ⟨b, off, rfl, _⟩ := HRB.out.cells (by clear w1; omega)
        have R7 := HRB.out.part at_ X.length (by clear w1; omega)
        have HR7 : Hid _ := R7
        have w2 : IntKind.i64.wrap ((at_ : Int) + (X.length : Int)) = (at_ : Int) + (X.length : Int) := wr_in (by clear w1; omega) (by clear w1; omega)
        have c2 : ¬ (at_ : Int) + (X.length : Int) < (at_ : Int) := by clear w1 w2; omega
        have c3 : ¬ (cap : Int) < (at_ : Int) + (X.length : Int) := by clear w1 w2; omega
        have c4 : (at_ : Int) + (X.length : Int) ≤ (cap : Int) := by clear w1 w2; omega
        have e1 : (0 : Int) ≤ (at_ : Int) + (X.length : Int) := by clear w1 w2; omega
        have e2 : ((at_ : Int) + (X.length : Int)).toNat = at_ + X.length := by clear w1 w2; omega
        have e3 : ¬ cap = at_ := by clear w1 w2; omega
        have e4 : at_ + X.length - at_ = X.length := by clear w1 w2; omega
        obtain ⟨sx, hsx⟩ : ∃ sx, strOfNums X = sx := ⟨_, rfl⟩
        obtain ⟨sy, hsy⟩ : ∃ sy, strOfNums ((bs.drop at_).take X.length) = sy := ⟨_, rfl⟩
        have HSX : Hid _ := hsx
        have HSY : Hid _ := hsy
        have HIF : Hid (sx = sy ↔ X = (bs.drop at_).take X.length) := ⟨fun e => by by_cases q : X = (bs.drop at_).take X.length; exact q; exact absurd (HSX.out.trans (e.trans HSY.out.symm)) (str_ne15 HBY.out R7.byt q), fun e => by rw [← HSX.out, ← HSY.out, ← e]⟩
        have cvx : ∀ V, WC.grownBy V none → (convert 26 9 (.slice a6 X.length c6)).run Try.prog V = .ok (.string sx) V := by intro V h; rw [← HSX.out]; exact conv_row (P := Try.prog) (HR6.out.grown h) c6 26 9 Try.underlying26 Try.underlying5 Try.underlying9
        have cvy : ∀ V, WC.grownBy V none → (convert 26 9 (.slice (some ⟨b, off + at_, none⟩) X.length (cap - at_))).run Try.prog V = .ok (.string sy) V := by intro V h; rw [← HSY.out]; exact conv_row (P := Try.prog) (HR7.out.grown h) (cap - at_) 26 9 Try.underlying26 Try.underlying5 Try.underlying9
        clear hsx hsy R7
        by_cases heq : X = (bs.drop at_).take X.length
        · skip
          obtain rfl : sx = sy := HIF.out.2 heq
          have HPX : Hid (X <+: bs.drop at_) := by show X <+: bs.drop at_; rw [heq]; exact List.take_prefix _ _
          clear heq
          refine wp_region_held_drew (S := fun V => World.grownBy WC V none) (by kernel_rfl) ⟨rfl, rfl, rfl, Nat.le_refl _, fun _ _ _ => rfl⟩ (fun hH => ?_)
          refine wpAnyH_take (i := 0) (oi := ⟨some 43, _, _, _, _, _⟩) (v := .slice a6 X.length c6) rfl (by kernel_rfl) (by kernel_rfl) (by kernel_rfl) (fun _ _ _ h => h) (Or.inl ⟨by rfl, fun w hSw => by go_simp⟩) hH ?_
          simp only [Act.put, List.setIfInBounds_toArray, List.set_cons_zero, List.set_cons_succ]
          refine wpAnyH_take (i := 1) (oi := ⟨some 44, _, _, _, _, _⟩) (v := .int .i64 (X.length : Int)) rfl (by kernel_rfl) (by kernel_rfl) (by kernel_rfl) (fun _ _ _ h => h) (Or.inl ⟨by rfl, fun w hSw => by go_simp⟩) hH ?_
          simp only [Act.put, List.setIfInBounds_toArray, List.set_cons_zero, List.set_cons_succ]
          refine wpAnyH_take (i := 2) (oi := ⟨some 45, _, _, _, _, _⟩) (v := .slice (some ⟨b, off, none⟩) len cap) rfl (by kernel_rfl) (by kernel_rfl) (by kernel_rfl) (fun _ _ _ h => h) (Or.inl ⟨by rfl, fun w hSw => by go_simp⟩) hH ?_
          simp only [Act.put, List.setIfInBounds_toArray, List.set_cons_zero, List.set_cons_succ]
          refine wpAnyH_take (i := 3) (oi := ⟨some 46, _, _, _, _, _⟩) (v := .int .i64 (len : Int)) rfl (by kernel_rfl) (by kernel_rfl) (by kernel_rfl) (fun _ _ _ h => h) (Or.inl ⟨by rfl, fun w hSw => by go_simp⟩) hH ?_
          simp only [Act.put, List.setIfInBounds_toArray, List.set_cons_zero, List.set_cons_succ]
          refine wpAnyH_take (i := 4) (oi := ⟨some 47, _, _, _, _, _⟩) (v := .int .i64 (at_ : Int)) rfl (by kernel_rfl) (by kernel_rfl) (by kernel_rfl) (fun _ _ _ h => h) (Or.inl ⟨by rfl, fun w hSw => by go_simp⟩) hH ?_
          simp only [Act.put, List.setIfInBounds_toArray, List.set_cons_zero, List.set_cons_succ]
          refine wpAnyH_take (i := 5) (oi := ⟨some 48, _, _, _, _, _⟩) (v := .int .i64 ((len : Int) - (at_ : Int))) rfl (by kernel_rfl) (by kernel_rfl) (by kernel_rfl) (fun _ _ _ h => h) (Or.inl ⟨by rfl, fun w hSw => by go_simp⟩) hH ?_
          simp only [Act.put, List.setIfInBounds_toArray, List.set_cons_zero, List.set_cons_succ]
          refine wpAnyH_take (i := 6) (oi := ⟨some 49, _, _, _, _, _⟩) (v := .bool false) rfl (by kernel_rfl) (by kernel_rfl) (by kernel_rfl) (fun _ _ _ h => h) (Or.inl ⟨by rfl, fun w hSw => by go_simp⟩) hH ?_
          simp only [Act.put, List.setIfInBounds_toArray, List.set_cons_zero, List.set_cons_succ]
          refine wpAnyH_take (i := 7) (oi := ⟨some 50, _, _, _, _, _⟩) (v := .bool false) rfl (by kernel_rfl) (by kernel_rfl) (by kernel_rfl) (fun _ _ _ h => h) (Or.inl ⟨by rfl, fun w hSw => by go_simp⟩) hH ?_
          simp only [Act.put, List.setIfInBounds_toArray, List.set_cons_zero, List.set_cons_succ]
          refine wpAnyH_take (i := 8) (oi := ⟨some 51, _, _, _, _, _⟩) (v := .slice a6 X.length c6) rfl (by kernel_rfl) (by kernel_rfl) (by kernel_rfl) (fun _ _ _ h => h) (Or.inl ⟨by rfl, fun w hSw => by go_simp⟩) hH ?_
          simp only [Act.put, List.setIfInBounds_toArray, List.set_cons_zero, List.set_cons_succ]
          refine wpAnyH_take (i := 9) (oi := ⟨some 52, _, _, _, _, _⟩) (v := .string sx) rfl (by kernel_rfl) (by kernel_rfl) (by kernel_rfl) (fun _ _ _ h => h) (Or.inl ⟨by rfl, fun w hSw => by have cq := cvx w hSw; go_simp⟩) hH ?_
          simp only [Act.put, List.setIfInBounds_toArray, List.set_cons_zero, List.set_cons_succ]
          refine wpAnyH_take (i := 10) (oi := ⟨some 53, _, _, _, _, _⟩) (v := .slice (some ⟨b, off, none⟩) len cap) rfl (by kernel_rfl) (by kernel_rfl) (by kernel_rfl) (fun _ _ _ h => h) (Or.inl ⟨by rfl, fun w hSw => by go_simp⟩) hH ?_
          simp only [Act.put, List.setIfInBounds_toArray, List.set_cons_zero, List.set_cons_succ]
          refine wpAnyH_take (i := 11) (oi := ⟨some 54, _, _, _, _, _⟩) (v := .int .i64 (at_ : Int)) rfl (by kernel_rfl) (by kernel_rfl) (by kernel_rfl) (fun _ _ _ h => h) (Or.inl ⟨by rfl, fun w hSw => by go_simp⟩) hH ?_
          simp only [Act.put, List.setIfInBounds_toArray, List.set_cons_zero, List.set_cons_succ]
          refine wpAnyH_take (i := 12) (oi := ⟨some 55, _, _, _, _, _⟩) (v := .int .i64 (at_ : Int)) rfl (by kernel_rfl) (by kernel_rfl) (by kernel_rfl) (fun _ _ _ h => h) (Or.inl ⟨by rfl, fun w hSw => by go_simp⟩) hH ?_
          simp only [Act.put, List.setIfInBounds_toArray, List.set_cons_zero, List.set_cons_succ]
          refine wpAnyH_take (i := 13) (oi := ⟨some 56, _, _, _, _, _⟩) (v := .slice a6 X.length c6) rfl (by kernel_rfl) (by kernel_rfl) (by kernel_rfl) (fun _ _ _ h => h) (Or.inl ⟨by rfl, fun w hSw => by go_simp⟩) hH ?_
          simp only [Act.put, List.setIfInBounds_toArray, List.set_cons_zero, List.set_cons_succ]
          refine wpAnyH_take (i := 14) (oi := ⟨some 57, _, _, _, _, _⟩) (v := .int .i64 (X.length : Int)) rfl (by kernel_rfl) (by kernel_rfl) (by kernel_rfl) (fun _ _ _ h => h) (Or.inl ⟨by rfl, fun w hSw => by go_simp⟩) hH ?_
          simp only [Act.put, List.setIfInBounds_toArray, List.set_cons_zero, List.set_cons_succ]
          refine wpAnyH_take (i := 15) (oi := ⟨some 58, _, _, _, _, _⟩) (v := .int .i64 ((at_ : Int) + (X.length : Int))) rfl (by kernel_rfl) (by kernel_rfl) (by kernel_rfl) (fun _ _ _ h => h) (Or.inl ⟨by rfl, fun w hSw => by go_simp⟩) hH ?_
          simp only [Act.put, List.setIfInBounds_toArray, List.set_cons_zero, List.set_cons_succ]
          refine wpAnyH_take (i := 16) (oi := ⟨some 59, _, _, _, _, _⟩) (v := .slice (some ⟨b, off + at_, none⟩) X.length (cap - at_)) rfl (by kernel_rfl) (by kernel_rfl) (by kernel_rfl) (fun _ _ _ h => h) (Or.inl ⟨by rfl, fun w hSw => by go_simp⟩) hH ?_
          simp only [Act.put, List.setIfInBounds_toArray, List.set_cons_zero, List.set_cons_succ]
          refine wpAnyH_take (i := 17) (oi := ⟨some 60, _, _, _, _, _⟩) (v := .string sx) rfl (by kernel_rfl) (by kernel_rfl) (by kernel_rfl) (fun _ _ _ h => h) (Or.inl ⟨by rfl, fun w hSw => by have cq := cvy w hSw; go_simp⟩) hH ?_
          simp only [Act.put, List.setIfInBounds_toArray, List.set_cons_zero, List.set_cons_succ]
          refine wpAnyH_take (i := 18) (oi := ⟨some 61, _, _, _, _, _⟩) (v := .bool false) rfl (by kernel_rfl) (by kernel_rfl) (by kernel_rfl) (fun _ _ _ h => h) (Or.inl ⟨by rfl, fun w hSw => by go_simp⟩) hH ?_
          simp only [Act.put, List.setIfInBounds_toArray, List.set_cons_zero, List.set_cons_succ]
          refine wpAnyH_take (i := 19) (oi := ⟨some 62, _, _, _, _, _⟩) (v := .bool false) rfl (by kernel_rfl) (by kernel_rfl) (by kernel_rfl) (fun _ _ _ h => h) (Or.inl ⟨by rfl, fun w hSw => by go_simp⟩) hH ?_
          simp only [Act.put, List.setIfInBounds_toArray, List.set_cons_zero, List.set_cons_succ]
          refine wpAnyH_done (by kernel_rfl) ?_ _
          clear hH cvx cvy
          go_wp2_with (first | ((with_reducible refine inoHere ?_); refine wpList_loadG (by first | rfl | fail) 24 _ rfl (W2.heap.size) rfl HT7.out.1 Try.underlying24 rfl infoI ?_) | ((with_reducible refine inoStore ?_); refine wpList_storeB rfl 24 _ _ rfl w.heap.size [.int .i64 m.kd, .int .i64 m.md, .int .i64 m.ui, .int .i64 m.gi, .int .i64 m.tm, .int .i64 m.ln, .int .i64 m.at_, .int .i64 m.sz, .int .i64 m.st, .slice m.wa m.wl m.wc, .int .i64 m.fr, .int .i64 m.of_, .int .i64 m.tl, .int .i64 m.dr, .int .i64 m.by_, .int .i64 m.pr, .string m.tg, .int .i64 m.dv] rfl rfl HT7.out.2.1 infoI rfl rfl ?_; intro W9 b9 g9) | fail)
          exact bodyPost_ret (results_cell_2 rfl _ _ w.heap.size 24 _ (0, 0) _ rfl b9.blk Try.underlying24 rfl infoI) rfl (by exact ⟨m, _, 0, rfl, ok_but15 HT7.out.2.2.2 g9 HFA.out, HT.out.2.2.2.2.1, Or.inl ⟨⟨⟨chk_rt HCC.out, HCC.out⟩, HT.out.2.2.2.2.1, by rw [← HX.out]; exact HPX.out⟩, by rw [← HX.out], rfl⟩, grown_new HT7.out.2.2.1 g9 (Nat.le_refl _)⟩)
        · skip
          have hne : ¬ sx.toList = sy.toList := fun e => heq (HIF.out.1 (ba_inj15 e))
          have HNO : Hid (No15 bs at_) := fun n0 h => heq (by obtain ⟨r, hr⟩ := HSE.out n0 h; rw [← hr]; simp)
          clear heq
          refine wp_region_held_drew (S := fun V => World.grownBy WC V none) (by kernel_rfl) ⟨rfl, rfl, rfl, Nat.le_refl _, fun _ _ _ => rfl⟩ (fun hH => ?_)
          refine wpAnyH_take (i := 0) (oi := ⟨some 43, _, _, _, _, _⟩) (v := .slice a6 X.length c6) rfl (by kernel_rfl) (by kernel_rfl) (by kernel_rfl) (fun _ _ _ h => h) (Or.inl ⟨by rfl, fun w hSw => by go_simp⟩) hH ?_
          simp only [Act.put, List.setIfInBounds_toArray, List.set_cons_zero, List.set_cons_succ]
          refine wpAnyH_take (i := 1) (oi := ⟨some 44, _, _, _, _, _⟩) (v := .int .i64 (X.length : Int)) rfl (by kernel_rfl) (by kernel_rfl) (by kernel_rfl) (fun _ _ _ h => h) (Or.inl ⟨by rfl, fun w hSw => by go_simp⟩) hH ?_
          simp only [Act.put, List.setIfInBounds_toArray, List.set_cons_zero, List.set_cons_succ]
          refine wpAnyH_take (i := 2) (oi := ⟨some 45, _, _, _, _, _⟩) (v := .slice (some ⟨b, off, none⟩) len cap) rfl (by kernel_rfl) (by kernel_rfl) (by kernel_rfl) (fun _ _ _ h => h) (Or.inl ⟨by rfl, fun w hSw => by go_simp⟩) hH ?_
          simp only [Act.put, List.setIfInBounds_toArray, List.set_cons_zero, List.set_cons_succ]
          refine wpAnyH_take (i := 3) (oi := ⟨some 46, _, _, _, _, _⟩) (v := .int .i64 (len : Int)) rfl (by kernel_rfl) (by kernel_rfl) (by kernel_rfl) (fun _ _ _ h => h) (Or.inl ⟨by rfl, fun w hSw => by go_simp⟩) hH ?_
          simp only [Act.put, List.setIfInBounds_toArray, List.set_cons_zero, List.set_cons_succ]
          refine wpAnyH_take (i := 4) (oi := ⟨some 47, _, _, _, _, _⟩) (v := .int .i64 (at_ : Int)) rfl (by kernel_rfl) (by kernel_rfl) (by kernel_rfl) (fun _ _ _ h => h) (Or.inl ⟨by rfl, fun w hSw => by go_simp⟩) hH ?_
          simp only [Act.put, List.setIfInBounds_toArray, List.set_cons_zero, List.set_cons_succ]
          refine wpAnyH_take (i := 5) (oi := ⟨some 48, _, _, _, _, _⟩) (v := .int .i64 ((len : Int) - (at_ : Int))) rfl (by kernel_rfl) (by kernel_rfl) (by kernel_rfl) (fun _ _ _ h => h) (Or.inl ⟨by rfl, fun w hSw => by go_simp⟩) hH ?_
          simp only [Act.put, List.setIfInBounds_toArray, List.set_cons_zero, List.set_cons_succ]
          refine wpAnyH_take (i := 6) (oi := ⟨some 49, _, _, _, _, _⟩) (v := .bool false) rfl (by kernel_rfl) (by kernel_rfl) (by kernel_rfl) (fun _ _ _ h => h) (Or.inl ⟨by rfl, fun w hSw => by go_simp⟩) hH ?_
          simp only [Act.put, List.setIfInBounds_toArray, List.set_cons_zero, List.set_cons_succ]
          refine wpAnyH_take (i := 7) (oi := ⟨some 50, _, _, _, _, _⟩) (v := .bool false) rfl (by kernel_rfl) (by kernel_rfl) (by kernel_rfl) (fun _ _ _ h => h) (Or.inl ⟨by rfl, fun w hSw => by go_simp⟩) hH ?_
          simp only [Act.put, List.setIfInBounds_toArray, List.set_cons_zero, List.set_cons_succ]
          refine wpAnyH_take (i := 8) (oi := ⟨some 51, _, _, _, _, _⟩) (v := .slice a6 X.length c6) rfl (by kernel_rfl) (by kernel_rfl) (by kernel_rfl) (fun _ _ _ h => h) (Or.inl ⟨by rfl, fun w hSw => by go_simp⟩) hH ?_
          simp only [Act.put, List.setIfInBounds_toArray, List.set_cons_zero, List.set_cons_succ]
          refine wpAnyH_take (i := 9) (oi := ⟨some 52, _, _, _, _, _⟩) (v := .string sx) rfl (by kernel_rfl) (by kernel_rfl) (by kernel_rfl) (fun _ _ _ h => h) (Or.inl ⟨by rfl, fun w hSw => by have cq := cvx w hSw; go_simp⟩) hH ?_
          simp only [Act.put, List.setIfInBounds_toArray, List.set_cons_zero, List.set_cons_succ]
          refine wpAnyH_take (i := 10) (oi := ⟨some 53, _, _, _, _, _⟩) (v := .slice (some ⟨b, off, none⟩) len cap) rfl (by kernel_rfl) (by kernel_rfl) (by kernel_rfl) (fun _ _ _ h => h) (Or.inl ⟨by rfl, fun w hSw => by go_simp⟩) hH ?_
          simp only [Act.put, List.setIfInBounds_toArray, List.set_cons_zero, List.set_cons_succ]
          refine wpAnyH_take (i := 11) (oi := ⟨some 54, _, _, _, _, _⟩) (v := .int .i64 (at_ : Int)) rfl (by kernel_rfl) (by kernel_rfl) (by kernel_rfl) (fun _ _ _ h => h) (Or.inl ⟨by rfl, fun w hSw => by go_simp⟩) hH ?_
          simp only [Act.put, List.setIfInBounds_toArray, List.set_cons_zero, List.set_cons_succ]
          refine wpAnyH_take (i := 12) (oi := ⟨some 55, _, _, _, _, _⟩) (v := .int .i64 (at_ : Int)) rfl (by kernel_rfl) (by kernel_rfl) (by kernel_rfl) (fun _ _ _ h => h) (Or.inl ⟨by rfl, fun w hSw => by go_simp⟩) hH ?_
          simp only [Act.put, List.setIfInBounds_toArray, List.set_cons_zero, List.set_cons_succ]
          refine wpAnyH_take (i := 13) (oi := ⟨some 56, _, _, _, _, _⟩) (v := .slice a6 X.length c6) rfl (by kernel_rfl) (by kernel_rfl) (by kernel_rfl) (fun _ _ _ h => h) (Or.inl ⟨by rfl, fun w hSw => by go_simp⟩) hH ?_
          simp only [Act.put, List.setIfInBounds_toArray, List.set_cons_zero, List.set_cons_succ]
          refine wpAnyH_take (i := 14) (oi := ⟨some 57, _, _, _, _, _⟩) (v := .int .i64 (X.length : Int)) rfl (by kernel_rfl) (by kernel_rfl) (by kernel_rfl) (fun _ _ _ h => h) (Or.inl ⟨by rfl, fun w hSw => by go_simp⟩) hH ?_
          simp only [Act.put, List.setIfInBounds_toArray, List.set_cons_zero, List.set_cons_succ]
          refine wpAnyH_take (i := 15) (oi := ⟨some 58, _, _, _, _, _⟩) (v := .int .i64 ((at_ : Int) + (X.length : Int))) rfl (by kernel_rfl) (by kernel_rfl) (by kernel_rfl) (fun _ _ _ h => h) (Or.inl ⟨by rfl, fun w hSw => by go_simp⟩) hH ?_
          simp only [Act.put, List.setIfInBounds_toArray, List.set_cons_zero, List.set_cons_succ]
          refine wpAnyH_take (i := 16) (oi := ⟨some 59, _, _, _, _, _⟩) (v := .slice (some ⟨b, off + at_, none⟩) X.length (cap - at_)) rfl (by kernel_rfl) (by kernel_rfl) (by kernel_rfl) (fun _ _ _ h => h) (Or.inl ⟨by rfl, fun w hSw => by go_simp⟩) hH ?_
          simp only [Act.put, List.setIfInBounds_toArray, List.set_cons_zero, List.set_cons_succ]
          refine wpAnyH_take (i := 17) (oi := ⟨some 60, _, _, _, _, _⟩) (v := .string sy) rfl (by kernel_rfl) (by kernel_rfl) (by kernel_rfl) (fun _ _ _ h => h) (Or.inl ⟨by rfl, fun w hSw => by have cq := cvy w hSw; go_simp⟩) hH ?_
          simp only [Act.put, List.setIfInBounds_toArray, List.set_cons_zero, List.set_cons_succ]
          refine wpAnyH_take (i := 18) (oi := ⟨some 61, _, _, _, _, _⟩) (v := .bool true) rfl (by kernel_rfl) (by kernel_rfl) (by kernel_rfl) (fun _ _ _ h => h) (Or.inl ⟨by rfl, fun w hSw => by go_simp⟩) hH ?_
          simp only [Act.put, List.setIfInBounds_toArray, List.set_cons_zero, List.set_cons_succ]
          refine wpAnyH_take (i := 19) (oi := ⟨some 62, _, _, _, _, _⟩) (v := .bool true) rfl (by kernel_rfl) (by kernel_rfl) (by kernel_rfl) (fun _ _ _ h => h) (Or.inl ⟨by rfl, fun w hSw => by go_simp⟩) hH ?_
          simp only [Act.put, List.setIfInBounds_toArray, List.set_cons_zero, List.set_cons_succ]
          refine wpAnyH_done (by kernel_rfl) ?_ _
          clear cvx cvy
          clear hH
          go_wp2_with (first | ((with_reducible refine inoStore ?_); refine wpList_storeB rfl 24 _ _ rfl w.heap.size [.int .i64 0, .int .i64 0, .int .i64 0, .int .i64 0, .int .i64 0, .int .i64 0, .int .i64 0, .int .i64 0, .int .i64 0, .slice none 0 0, .int .i64 0, .int .i64 0, .int .i64 0, .int .i64 0, .int .i64 0, .int .i64 0, .string ⟨#[]⟩, .int .i64 0] rfl rfl HT7.out.2.1 infoI rfl rfl ?_; intro W9 b9 g9) | fail)
          exact bodyPost_ret (results_cell_2 rfl _ _ w.heap.size 24 _ (0, 0) _ rfl b9.blk Try.underlying24 rfl infoI) rfl (by exact ⟨nz15, 0, 6, rfl, nz_ok _, rfl, Or.inr ⟨rfl, HNO.out, rfl, rfl⟩, grown_new HT7.out.2.2.1 g9 (Nat.le_refl _)⟩)
    · have hk := rcheck15_any m W3 HT.out.2.2.2.1
      have HNO : Hid (No15 bs at_) := fun n0 h => hc (by rw [same_chk (HT.out.2.2.2.2.2 n0 h) HT.out.2.2.2.2.1 h.2.1]; exact h.1.2)
      have hc2 : (chk15 m != 0) = true := by simpa using hc
      generalize chk15 m = C at *
      unfold Nd.val at hk
      go_wp2_with (first | ((with_reducible refine inoHere ?_); refine wpList_loadG (by first | rfl | fail) 24 _ rfl (W2.heap.size) rfl HT.out.1 Try.underlying24 rfl infoI ?_) | fail)
      refine hk.mono ?_
      rintro e WB ⟨rfl, g5⟩
      have HT5 : Hid _ := And.intro (HT.out.2.1.kept g5) (grown_trans HT.out.2.2.1 g5)
      clear hk g5
      go_wp2_with (first | ((with_reducible refine inoStore ?_); refine wpList_storeB rfl 24 _ _ rfl w.heap.size [.int .i64 0, .int .i64 0, .int .i64 0, .int .i64 0, .int .i64 0, .int .i64 0, .int .i64 0, .int .i64 0, .int .i64 0, .slice none 0 0, .int .i64 0, .int .i64 0, .int .i64 0, .int .i64 0, .int .i64 0, .int .i64 0, .string ⟨#[]⟩, .int .i64 0] rfl rfl HT5.out.1 infoI rfl rfl ?_; intro W9 b9 g9) | fail)
      exact bodyPost_ret (results_cell_2 rfl _ _ w.heap.size 24 _ (0, 0) _ rfl b9.blk Try.underlying24 rfl infoI) rfl (by exact ⟨nz15, 0, 6, rfl, nz_ok _, rfl, Or.inr ⟨rfl, HNO.out, rfl, rfl⟩, grown_new HT5.out.2 g9 (Nat.le_refl _)⟩)
  | false =>
    have HN1 : Hid (at_ + 24 ≤ len → No15 bs at_) := HM.out.2.2.2.1 rfl
    clear HM HFA
    have hs := HSH.out W3 HB3.out.2.2.1
    clear HSH
    go_wp2_with fail
    refine hs.mono ?_
    clear hs
    rintro e W4 ⟨k, ok, rfl, hmk, hml, hc1, hfar, g4⟩
    have HM : Hid _ := And.intro hmk (And.intro hml (And.intro hc1 hfar))
    have HB4 : Hid _ := And.intro (HB3.out.1.kept g4) (And.intro (HB3.out.2.1.kept g4) (And.intro (grown_trans HB3.out.2.2.1 g4) (show W2.heap.size < W3.heap.size from HB3.out.1.lt)))
    clear HB3 g4 hmk hml hc1 hfar
    unfold Nd.val
    go_wp2_with (first | ((with_reducible refine inoStore ?_); refine wpList_storeB rfl 24 _ _ rfl W2.heap.size [.int .i64 k.kd, .int .i64 k.md, .int .i64 k.ui, .int .i64 k.gi, .int .i64 k.tm, .int .i64 k.ln, .int .i64 k.at_, .int .i64 k.sz, .int .i64 k.st, .slice k.wa k.wl k.wc, .int .i64 k.fr, .int .i64 k.of_, .int .i64 k.tl, .int .i64 k.dr, .int .i64 k.by_, .int .i64 k.pr, .string k.tg, .int .i64 k.dv] rfl rfl HB4.out.1 infoI rfl rfl ?_; intro W5 b5 g5; refine stopHere15 ?_) | fail)
    show wpList _ _ _ _ _ _
    have HB5 : Hid _ := And.intro b5 (And.intro (bx_but15 HB4.out.2.1 g5 (fun e => by injection e with e; have := HNE.out; omega)) (And.intro (grown_new HB4.out.2.2.1 g5 (Nat.le_of_lt HNE.out)) (ok_but15 HM.out.1 g5 (fun b o e q => by have h1 := HM.out.2.2.2 b o e; have h2 := HB4.out.2.2.2; omega))))
    have HFA : Hid (∀ b o, k.wa = some ⟨b, o, none⟩ → b ≠ w.heap.size) := fun b o e q => by have h1 := HM.out.2.2.2 b o e; have h2 := HB4.out.2.2.2; have h3 := HNE.out; omega
    clear b5 g5 HB4
    cases ok with
    | true =>
      have HT : Hid (Bx W5 W2.heap.size 24 [.int .i64 k.kd, .int .i64 k.md, .int .i64 k.ui, .int .i64 k.gi, .int .i64 k.tm, .int .i64 k.ln, .int .i64 k.at_, .int .i64 k.sz, .int .i64 k.st, .slice k.wa k.wl k.wc, .int .i64 k.fr, .int .i64 k.of_, .int .i64 k.tl, .int .i64 k.dr, .int .i64 k.by_, .int .i64 k.pr, .string k.tg, .int .i64 k.dv] ∧ Bx W5 w.heap.size 24 [.int .i64 0, .int .i64 0, .int .i64 0, .int .i64 0, .int .i64 0, .int .i64 0, .int .i64 0, .int .i64 0, .int .i64 0, .slice none 0 0, .int .i64 0, .int .i64 0, .int .i64 0, .int .i64 0, .int .i64 0, .int .i64 0, .string ⟨#[]⟩, .int .i64 0] ∧ w.grownBy W5 none ∧ k.ok W5 ∧ k.ws.length = k.wl ∧ (∀ n0, Pre15 bs at_ n0 → Same15 k n0)) := ⟨HB5.out.1, HB5.out.2.1, HB5.out.2.2.1, HB5.out.2.2.2, HM.out.2.1, fun n0 h => by by_cases q : len < at_ + 24; exact (HM.out.2.2.1 n0 h q).2; exact absurd h (HN1.out (by omega) n0)⟩
      clear HM HB5 HN1
      by_cases hc : chk15 k = 0
      · have hk := rcheck15_any k W5 HT.out.2.2.2.1
        rw [hc] at hk
        have hy := fun V g => rbytes15_any k V (HT.out.2.2.2.1.kept g) (chk_rt hc)
        have HY : Hid _ := hy
        have HEL : Hid (23 ≤ (enb15 k).length) := (enb_len (chk_rt hc) HT.out.2.2.2.2.1).2.2.2.2
        have HBY : Hid (Byt (enb15 k)) := enb15_byt _
        have HCC : Hid (chk15 k = 0) := hc
        have HSE : Hid (∀ n0, Pre15 bs at_ n0 → enb15 k <+: bs.drop at_) := fun n0 h => by rw [same_enb15 (HT.out.2.2.2.2.2 n0 h) HT.out.2.2.2.2.1 h.2.1]; exact h.2.2
        obtain ⟨X, hX⟩ : ∃ X, X = enb15 k := ⟨_, rfl⟩
        have HX : Hid _ := hX
        rw [← hX] at HY HEL HBY HSE
        clear hy hc hX
        unfold Nd.val at hk HY
        go_wp2_with (first | ((with_reducible refine inoHere ?_); refine wpList_loadG (by first | rfl | fail) 24 _ rfl (W2.heap.size) rfl HT.out.1 Try.underlying24 rfl infoI ?_) | fail)
        refine hk.mono ?_
        rintro e WB ⟨rfl, g5⟩
        clear hk
        have HT5 : Hid _ := And.intro (HT.out.1.kept g5) (And.intro (HT.out.2.1.kept g5) (grown_trans HT.out.2.2.1 g5))
        have HK5 : Hid _ := HT.out.2.2.2.1.kept g5
        have HW5 : Hid _ := g5
        clear g5
        go_wp2_with (first | ((with_reducible refine inoHere ?_); refine wpList_loadG (by first | rfl | fail) 24 _ rfl (W2.heap.size) rfl HT5.out.1 Try.underlying24 rfl infoI ?_) | fail)
        refine (HY.out WB HW5.out).mono ?_
        rintro e WC ⟨a6, c6, rfl, R6, _, g6⟩
        have HT6 : Hid _ := And.intro (HT5.out.1.kept g6) (And.intro (HT5.out.2.1.kept g6) (And.intro (grown_trans HT5.out.2.2 g6) (HK5.out.kept g6)))
        have HR6 : Hid _ := R6
        have hxl := R6.le
        clear R6 g6 HT5 HW5 HK5 HY
        have HRB : Hid _ := HR.out.grown HT6.out.2.2.1
        go_wp2_with fail
        have hxl2 : X.length ≤ 9223372036854775807 := hxl
        have hln := HLE.out
        have w1 : IntKind.i64.wrap ((len : Int) - (at_ : Int)) = (len : Int) - (at_ : Int) := wr_in (by omega) (by omega)
        have HT7 : Hid _ := And.intro (HT6.out.1.kept (show World.grownBy WC WC.drew none from ⟨rfl, rfl, rfl, Nat.le_refl _, fun _ _ _ => rfl⟩)) (And.intro (HT6.out.2.1.kept (show World.grownBy WC WC.drew none from ⟨rfl, rfl, rfl, Nat.le_refl _, fun _ _ _ => rfl⟩)) (And.intro (grown_trans HT6.out.2.2.1 (show World.grownBy WC WC.drew none from ⟨rfl, rfl, rfl, Nat.le_refl _, fun _ _ _ => rfl⟩)) (HT6.out.2.2.2.kept (show World.grownBy WC WC.drew none from ⟨rfl, rfl, rfl, Nat.le_refl _, fun _ _ _ => rfl⟩))))
        by_cases cL : (len : Int) - (at_ : Int) < (X.length : Int)
        · skip
          have c1 : (len : Int) - (at_ : Int) < (X.length : Int) := by clear w1; omega
          have HNO : Hid (No15 bs at_) := fun n0 h => by have h1 := HSE.out n0 h; have h2 := h1.length_le; rw [List.length_drop, HLB.out] at h2; clear w1; omega
          refine wp_region_held_drew (S := fun V => World.grownBy WC V none) (by kernel_rfl) ⟨rfl, rfl, rfl, Nat.le_refl _, fun _ _ _ => rfl⟩ (fun hH => ?_)
          refine wpAnyH_take (i := 0) (oi := ⟨some 43, _, _, _, _, _⟩) (v := .slice a6 X.length c6) rfl (by kernel_rfl) (by kernel_rfl) (by kernel_rfl) (fun _ _ _ h => h) (Or.inl ⟨by rfl, fun w hSw => by go_simp⟩) hH ?_
          simp only [Act.put, List.setIfInBounds_toArray, List.set_cons_zero, List.set_cons_succ]
          refine wpAnyH_take (i := 1) (oi := ⟨some 44, _, _, _, _, _⟩) (v := .int .i64 (X.length : Int)) rfl (by kernel_rfl) (by kernel_rfl) (by kernel_rfl) (fun _ _ _ h => h) (Or.inl ⟨by rfl, fun w hSw => by go_simp⟩) hH ?_
          simp only [Act.put, List.setIfInBounds_toArray, List.set_cons_zero, List.set_cons_succ]
          refine wpAnyH_take (i := 2) (oi := ⟨some 45, _, _, _, _, _⟩) (v := .slice a len cap) rfl (by kernel_rfl) (by kernel_rfl) (by kernel_rfl) (fun _ _ _ h => h) (Or.inl ⟨by rfl, fun w hSw => by go_simp⟩) hH ?_
          simp only [Act.put, List.setIfInBounds_toArray, List.set_cons_zero, List.set_cons_succ]
          refine wpAnyH_take (i := 3) (oi := ⟨some 46, _, _, _, _, _⟩) (v := .int .i64 (len : Int)) rfl (by kernel_rfl) (by kernel_rfl) (by kernel_rfl) (fun _ _ _ h => h) (Or.inl ⟨by rfl, fun w hSw => by go_simp⟩) hH ?_
          simp only [Act.put, List.setIfInBounds_toArray, List.set_cons_zero, List.set_cons_succ]
          refine wpAnyH_take (i := 4) (oi := ⟨some 47, _, _, _, _, _⟩) (v := .int .i64 (at_ : Int)) rfl (by kernel_rfl) (by kernel_rfl) (by kernel_rfl) (fun _ _ _ h => h) (Or.inl ⟨by rfl, fun w hSw => by go_simp⟩) hH ?_
          simp only [Act.put, List.setIfInBounds_toArray, List.set_cons_zero, List.set_cons_succ]
          refine wpAnyH_take (i := 5) (oi := ⟨some 48, _, _, _, _, _⟩) (v := .int .i64 ((len : Int) - (at_ : Int))) rfl (by kernel_rfl) (by kernel_rfl) (by kernel_rfl) (fun _ _ _ h => h) (Or.inl ⟨by rfl, fun w hSw => by go_simp⟩) hH ?_
          simp only [Act.put, List.setIfInBounds_toArray, List.set_cons_zero, List.set_cons_succ]
          refine wpAnyH_take (i := 6) (oi := ⟨some 49, _, _, _, _, _⟩) (v := .bool true) rfl (by kernel_rfl) (by kernel_rfl) (by kernel_rfl) (fun _ _ _ h => h) (Or.inl ⟨by rfl, fun w hSw => by go_simp⟩) hH ?_
          simp only [Act.put, List.setIfInBounds_toArray, List.set_cons_zero, List.set_cons_succ]
          refine wpAnyH_take (i := 7) (oi := ⟨some 50, _, _, _, _, _⟩) (v := .bool true) rfl (by kernel_rfl) (by kernel_rfl) (by kernel_rfl) (fun _ _ _ h => h) (Or.inl ⟨by rfl, fun w hSw => by go_simp⟩) hH ?_
          simp only [Act.put, List.setIfInBounds_toArray, List.set_cons_zero, List.set_cons_succ]
          refine wpAnyH_take (i := 8) (oi := ⟨some 51, _, _, _, _, _⟩) (v := undef) rfl (by kernel_rfl) (by kernel_rfl) (by kernel_rfl) (fun _ _ _ h => h) (Or.inr ⟨by rfl, rfl⟩) hH ?_
          simp only [Act.put, List.setIfInBounds_toArray, List.set_cons_zero, List.set_cons_succ]
          refine wpAnyH_take (i := 9) (oi := ⟨some 52, _, _, _, _, _⟩) (v := undef) rfl (by kernel_rfl) (by kernel_rfl) (by kernel_rfl) (fun _ _ _ h => h) (Or.inr ⟨by rfl, rfl⟩) hH ?_
          simp only [Act.put, List.setIfInBounds_toArray, List.set_cons_zero, List.set_cons_succ]
          refine wpAnyH_take (i := 10) (oi := ⟨some 53, _, _, _, _, _⟩) (v := undef) rfl (by kernel_rfl) (by kernel_rfl) (by kernel_rfl) (fun _ _ _ h => h) (Or.inr ⟨by rfl, rfl⟩) hH ?_
          simp only [Act.put, List.setIfInBounds_toArray, List.set_cons_zero, List.set_cons_succ]
          refine wpAnyH_take (i := 11) (oi := ⟨some 54, _, _, _, _, _⟩) (v := undef) rfl (by kernel_rfl) (by kernel_rfl) (by kernel_rfl) (fun _ _ _ h => h) (Or.inr ⟨by rfl, rfl⟩) hH ?_
          simp only [Act.put, List.setIfInBounds_toArray, List.set_cons_zero, List.set_cons_succ]
          refine wpAnyH_take (i := 12) (oi := ⟨some 55, _, _, _, _, _⟩) (v := undef) rfl (by kernel_rfl) (by kernel_rfl) (by kernel_rfl) (fun _ _ _ h => h) (Or.inr ⟨by rfl, rfl⟩) hH ?_
          simp only [Act.put, List.setIfInBounds_toArray, List.set_cons_zero, List.set_cons_succ]
          refine wpAnyH_take (i := 13) (oi := ⟨some 56, _, _, _, _, _⟩) (v := undef) rfl (by kernel_rfl) (by kernel_rfl) (by kernel_rfl) (fun _ _ _ h => h) (Or.inr ⟨by rfl, rfl⟩) hH ?_
          simp only [Act.put, List.setIfInBounds_toArray, List.set_cons_zero, List.set_cons_succ]
          refine wpAnyH_take (i := 14) (oi := ⟨some 57, _, _, _, _, _⟩) (v := undef) rfl (by kernel_rfl) (by kernel_rfl) (by kernel_rfl) (fun _ _ _ h => h) (Or.inr ⟨by rfl, rfl⟩) hH ?_
          simp only [Act.put, List.setIfInBounds_toArray, List.set_cons_zero, List.set_cons_succ]
          refine wpAnyH_take (i := 15) (oi := ⟨some 58, _, _, _, _, _⟩) (v := undef) rfl (by kernel_rfl) (by kernel_rfl) (by kernel_rfl) (fun _ _ _ h => h) (Or.inr ⟨by rfl, rfl⟩) hH ?_
          simp only [Act.put, List.setIfInBounds_toArray, List.set_cons_zero, List.set_cons_succ]
          refine wpAnyH_take (i := 16) (oi := ⟨some 59, _, _, _, _, _⟩) (v := undef) rfl (by kernel_rfl) (by kernel_rfl) (by kernel_rfl) (fun _ _ _ h => h) (Or.inr ⟨by rfl, rfl⟩) hH ?_
          simp only [Act.put, List.setIfInBounds_toArray, List.set_cons_zero, List.set_cons_succ]
          refine wpAnyH_take (i := 17) (oi := ⟨some 60, _, _, _, _, _⟩) (v := undef) rfl (by kernel_rfl) (by kernel_rfl) (by kernel_rfl) (fun _ _ _ h => h) (Or.inr ⟨by rfl, rfl⟩) hH ?_
          simp only [Act.put, List.setIfInBounds_toArray, List.set_cons_zero, List.set_cons_succ]
          refine wpAnyH_take (i := 18) (oi := ⟨some 61, _, _, _, _, _⟩) (v := undef) rfl (by kernel_rfl) (by kernel_rfl) (by kernel_rfl) (fun _ _ _ h => h) (Or.inr ⟨by rfl, rfl⟩) hH ?_
          simp only [Act.put, List.setIfInBounds_toArray, List.set_cons_zero, List.set_cons_succ]
          refine wpAnyH_take (i := 19) (oi := ⟨some 62, _, _, _, _, _⟩) (v := .bool true) rfl (by kernel_rfl) (by kernel_rfl) (by kernel_rfl) (fun _ _ _ h => h) (Or.inl ⟨by rfl, fun w hSw => by go_simp⟩) hH ?_
          simp only [Act.put, List.setIfInBounds_toArray, List.set_cons_zero, List.set_cons_succ]
          refine wpAnyH_done (by kernel_rfl) ?_ _
          clear hH
          go_wp2_with (first | ((with_reducible refine inoStore ?_); refine wpList_storeB rfl 24 _ _ rfl w.heap.size [.int .i64 0, .int .i64 0, .int .i64 0, .int .i64 0, .int .i64 0, .int .i64 0, .int .i64 0, .int .i64 0, .int .i64 0, .slice none 0 0, .int .i64 0, .int .i64 0, .int .i64 0, .int .i64 0, .int .i64 0, .int .i64 0, .string ⟨#[]⟩, .int .i64 0] rfl rfl HT7.out.2.1 infoI rfl rfl ?_; intro W9 b9 g9) | fail)
          exact bodyPost_ret (results_cell_2 rfl _ _ w.heap.size 24 _ (0, 0) _ rfl b9.blk Try.underlying24 rfl infoI) rfl (by exact ⟨nz15, 0, 6, rfl, nz_ok _, rfl, Or.inr ⟨rfl, HNO.out, rfl, rfl⟩, grown_new HT7.out.2.2.1 g9 (Nat.le_refl _)⟩)
        · skip
          have c1 : ¬ (len : Int) - (at_ : Int) < (X.length : Int) := by clear w1; omega
          have h23 := HEL.out
          obtain ⟨b, off, rfl, _⟩ := HRB.out.cells (by clear w1; omega)
          have R7 := HRB.out.part at_ X.length (by clear w1; omega)
          have HR7 : Hid _ := R7
          have w2 : IntKind.i64.wrap ((at_ : Int) + (X.length : Int)) = (at_ : Int) + (X.length : Int) := wr_in (by clear w1; omega) (by clear w1; omega)
          have c2 : ¬ (at_ : Int) + (X.length : Int) < (at_ : Int) := by clear w1 w2; omega
          have c3 : ¬ (cap : Int) < (at_ : Int) + (X.length : Int) := by clear w1 w2; omega
          have c4 : (at_ : Int) + (X.length : Int) ≤ (cap : Int) := by clear w1 w2; omega
          have e1 : (0 : Int) ≤ (at_ : Int) + (X.length : Int) := by clear w1 w2; omega
          have e2 : ((at_ : Int) + (X.length : Int)).toNat = at_ + X.length := by clear w1 w2; omega
          have e3 : ¬ cap = at_ := by clear w1 w2; omega
          have e4 : at_ + X.length - at_ = X.length := by clear w1 w2; omega
          obtain ⟨sx, hsx⟩ : ∃ sx, strOfNums X = sx := ⟨_, rfl⟩
          obtain ⟨sy, hsy⟩ : ∃ sy, strOfNums ((bs.drop at_).take X.length) = sy := ⟨_, rfl⟩
          have HSX : Hid _ := hsx
          have HSY : Hid _ := hsy
          have HIF : Hid (sx = sy ↔ X = (bs.drop at_).take X.length) := ⟨fun e => by by_cases q : X = (bs.drop at_).take X.length; exact q; exact absurd (HSX.out.trans (e.trans HSY.out.symm)) (str_ne15 HBY.out R7.byt q), fun e => by rw [← HSX.out, ← HSY.out, ← e]⟩
          have cvx : ∀ V, WC.grownBy V none → (convert 26 9 (.slice a6 X.length c6)).run Try.prog V = .ok (.string sx) V := by intro V h; rw [← HSX.out]; exact conv_row (P := Try.prog) (HR6.out.grown h) c6 26 9 Try.underlying26 Try.underlying5 Try.underlying9
          have cvy : ∀ V, WC.grownBy V none → (convert 26 9 (.slice (some ⟨b, off + at_, none⟩) X.length (cap - at_))).run Try.prog V = .ok (.string sy) V := by intro V h; rw [← HSY.out]; exact conv_row (P := Try.prog) (HR7.out.grown h) (cap - at_) 26 9 Try.underlying26 Try.underlying5 Try.underlying9
          clear hsx hsy R7
          by_cases heq : X = (bs.drop at_).take X.length
          · skip
            obtain rfl : sx = sy := HIF.out.2 heq
            have HPX : Hid (X <+: bs.drop at_) := by show X <+: bs.drop at_; rw [heq]; exact List.take_prefix _ _
            clear heq
            refine wp_region_held_drew (S := fun V => World.grownBy WC V none) (by kernel_rfl) ⟨rfl, rfl, rfl, Nat.le_refl _, fun _ _ _ => rfl⟩ (fun hH => ?_)
            refine wpAnyH_take (i := 0) (oi := ⟨some 43, _, _, _, _, _⟩) (v := .slice a6 X.length c6) rfl (by kernel_rfl) (by kernel_rfl) (by kernel_rfl) (fun _ _ _ h => h) (Or.inl ⟨by rfl, fun w hSw => by go_simp⟩) hH ?_
            simp only [Act.put, List.setIfInBounds_toArray, List.set_cons_zero, List.set_cons_succ]
            refine wpAnyH_take (i := 1) (oi := ⟨some 44, _, _, _, _, _⟩) (v := .int .i64 (X.length : Int)) rfl (by kernel_rfl) (by kernel_rfl) (by kernel_rfl) (fun _ _ _ h => h) (Or.inl ⟨by rfl, fun w hSw => by go_simp⟩) hH ?_
            simp only [Act.put, List.setIfInBounds_toArray, List.set_cons_zero, List.set_cons_succ]
            refine wpAnyH_take (i := 2) (oi := ⟨some 45, _, _, _, _, _⟩) (v := .slice (some ⟨b, off, none⟩) len cap) rfl (by kernel_rfl) (by kernel_rfl) (by kernel_rfl) (fun _ _ _ h => h) (Or.inl ⟨by rfl, fun w hSw => by go_simp⟩) hH ?_
            simp only [Act.put, List.setIfInBounds_toArray, List.set_cons_zero, List.set_cons_succ]
            refine wpAnyH_take (i := 3) (oi := ⟨some 46, _, _, _, _, _⟩) (v := .int .i64 (len : Int)) rfl (by kernel_rfl) (by kernel_rfl) (by kernel_rfl) (fun _ _ _ h => h) (Or.inl ⟨by rfl, fun w hSw => by go_simp⟩) hH ?_
            simp only [Act.put, List.setIfInBounds_toArray, List.set_cons_zero, List.set_cons_succ]
            refine wpAnyH_take (i := 4) (oi := ⟨some 47, _, _, _, _, _⟩) (v := .int .i64 (at_ : Int)) rfl (by kernel_rfl) (by kernel_rfl) (by kernel_rfl) (fun _ _ _ h => h) (Or.inl ⟨by rfl, fun w hSw => by go_simp⟩) hH ?_
            simp only [Act.put, List.setIfInBounds_toArray, List.set_cons_zero, List.set_cons_succ]
            refine wpAnyH_take (i := 5) (oi := ⟨some 48, _, _, _, _, _⟩) (v := .int .i64 ((len : Int) - (at_ : Int))) rfl (by kernel_rfl) (by kernel_rfl) (by kernel_rfl) (fun _ _ _ h => h) (Or.inl ⟨by rfl, fun w hSw => by go_simp⟩) hH ?_
            simp only [Act.put, List.setIfInBounds_toArray, List.set_cons_zero, List.set_cons_succ]
            refine wpAnyH_take (i := 6) (oi := ⟨some 49, _, _, _, _, _⟩) (v := .bool false) rfl (by kernel_rfl) (by kernel_rfl) (by kernel_rfl) (fun _ _ _ h => h) (Or.inl ⟨by rfl, fun w hSw => by go_simp⟩) hH ?_
            simp only [Act.put, List.setIfInBounds_toArray, List.set_cons_zero, List.set_cons_succ]
            refine wpAnyH_take (i := 7) (oi := ⟨some 50, _, _, _, _, _⟩) (v := .bool false) rfl (by kernel_rfl) (by kernel_rfl) (by kernel_rfl) (fun _ _ _ h => h) (Or.inl ⟨by rfl, fun w hSw => by go_simp⟩) hH ?_
            simp only [Act.put, List.setIfInBounds_toArray, List.set_cons_zero, List.set_cons_succ]
            refine wpAnyH_take (i := 8) (oi := ⟨some 51, _, _, _, _, _⟩) (v := .slice a6 X.length c6) rfl (by kernel_rfl) (by kernel_rfl) (by kernel_rfl) (fun _ _ _ h => h) (Or.inl ⟨by rfl, fun w hSw => by go_simp⟩) hH ?_
            simp only [Act.put, List.setIfInBounds_toArray, List.set_cons_zero, List.set_cons_succ]
            refine wpAnyH_take (i := 9) (oi := ⟨some 52, _, _, _, _, _⟩) (v := .string sx) rfl (by kernel_rfl) (by kernel_rfl) (by kernel_rfl) (fun _ _ _ h => h) (Or.inl ⟨by rfl, fun w hSw => by have cq := cvx w hSw; go_simp⟩) hH ?_
            simp only [Act.put, List.setIfInBounds_toArray, List.set_cons_zero, List.set_cons_succ]
            refine wpAnyH_take (i := 10) (oi := ⟨some 53, _, _, _, _, _⟩) (v := .slice (some ⟨b, off, none⟩) len cap) rfl (by kernel_rfl) (by kernel_rfl) (by kernel_rfl) (fun _ _ _ h => h) (Or.inl ⟨by rfl, fun w hSw => by go_simp⟩) hH ?_
            simp only [Act.put, List.setIfInBounds_toArray, List.set_cons_zero, List.set_cons_succ]
            refine wpAnyH_take (i := 11) (oi := ⟨some 54, _, _, _, _, _⟩) (v := .int .i64 (at_ : Int)) rfl (by kernel_rfl) (by kernel_rfl) (by kernel_rfl) (fun _ _ _ h => h) (Or.inl ⟨by rfl, fun w hSw => by go_simp⟩) hH ?_
            simp only [Act.put, List.setIfInBounds_toArray, List.set_cons_zero, List.set_cons_succ]
            refine wpAnyH_take (i := 12) (oi := ⟨some 55, _, _, _, _, _⟩) (v := .int .i64 (at_ : Int)) rfl (by kernel_rfl) (by kernel_rfl) (by kernel_rfl) (fun _ _ _ h => h) (Or.inl ⟨by rfl, fun w hSw => by go_simp⟩) hH ?_
            simp only [Act.put, List.setIfInBounds_toArray, List.set_cons_zero, List.set_cons_succ]
            refine wpAnyH_take (i := 13) (oi := ⟨some 56, _, _, _, _, _⟩) (v := .slice a6 X.length c6) rfl (by kernel_rfl) (by kernel_rfl) (by kernel_rfl) (fun _ _ _ h => h) (Or.inl ⟨by rfl, fun w hSw => by go_simp⟩) hH ?_
            simp only [Act.put, List.setIfInBounds_toArray, List.set_cons_zero, List.set_cons_succ]
            refine wpAnyH_take (i := 14) (oi := ⟨some 57, _, _, _, _, _⟩) (v := .int .i64 (X.length : Int)) rfl (by kernel_rfl) (by kernel_rfl) (by kernel_rfl) (fun _ _ _ h => h) (Or.inl ⟨by rfl, fun w hSw => by go_simp⟩) hH ?_
            simp only [Act.put, List.setIfInBounds_toArray, List.set_cons_zero, List.set_cons_succ]
            refine wpAnyH_take (i := 15) (oi := ⟨some 58, _, _, _, _, _⟩) (v := .int .i64 ((at_ : Int) + (X.length : Int))) rfl (by kernel_rfl) (by kernel_rfl) (by kernel_rfl) (fun _ _ _ h => h) (Or.inl ⟨by rfl, fun w hSw => by go_simp⟩) hH ?_
            simp only [Act.put, List.setIfInBounds_toArray, List.set_cons_zero, List.set_cons_succ]
            refine wpAnyH_take (i := 16) (oi := ⟨some 59, _, _, _, _, _⟩) (v := .slice (some ⟨b, off + at_, none⟩) X.length (cap - at_)) rfl (by kernel_rfl) (by kernel_rfl) (by kernel_rfl) (fun _ _ _ h => h) (Or.inl ⟨by rfl, fun w hSw => by go_simp⟩) hH ?_
            simp only [Act.put, List.setIfInBounds_toArray, List.set_cons_zero, List.set_cons_succ]
            refine wpAnyH_take (i := 17) (oi := ⟨some 60, _, _, _, _, _⟩) (v := .string sx) rfl (by kernel_rfl) (by kernel_rfl) (by kernel_rfl) (fun _ _ _ h => h) (Or.inl ⟨by rfl, fun w hSw => by have cq := cvy w hSw; go_simp⟩) hH ?_
            simp only [Act.put, List.setIfInBounds_toArray, List.set_cons_zero, List.set_cons_succ]
            refine wpAnyH_take (i := 18) (oi := ⟨some 61, _, _, _, _, _⟩) (v := .bool false) rfl (by kernel_rfl) (by kernel_rfl) (by kernel_rfl) (fun _ _ _ h => h) (Or.inl ⟨by rfl, fun w hSw => by go_simp⟩) hH ?_
            simp only [Act.put, List.setIfInBounds_toArray, List.set_cons_zero, List.set_cons_succ]
            refine wpAnyH_take (i := 19) (oi := ⟨some 62, _, _, _, _, _⟩) (v := .bool false) rfl (by kernel_rfl) (by kernel_rfl) (by kernel_rfl) (fun _ _ _ h => h) (Or.inl ⟨by rfl, fun w hSw => by go_simp⟩) hH ?_
            simp only [Act.put, List.setIfInBounds_toArray, List.set_cons_zero, List.set_cons_succ]
            refine wpAnyH_done (by kernel_rfl) ?_ _
            clear hH cvx cvy
            go_wp2_with (first | ((with_reducible refine inoHere ?_); refine wpList_loadG (by first | rfl | fail) 24 _ rfl (W2.heap.size) rfl HT7.out.1 Try.underlying24 rfl infoI ?_) | ((with_reducible refine inoStore ?_); refine wpList_storeB rfl 24 _ _ rfl w.heap.size [.int .i64 k.kd, .int .i64 k.md, .int .i64 k.ui, .int .i64 k.gi, .int .i64 k.tm, .int .i64 k.ln, .int .i64 k.at_, .int .i64 k.sz, .int .i64 k.st, .slice k.wa k.wl k.wc, .int .i64 k.fr, .int .i64 k.of_, .int .i64 k.tl, .int .i64 k.dr, .int .i64 k.by_, .int .i64 k.pr, .string k.tg, .int .i64 k.dv] rfl rfl HT7.out.2.1 infoI rfl rfl ?_; intro W9 b9 g9) | fail)
            exact bodyPost_ret (results_cell_2 rfl _ _ w.heap.size 24 _ (0, 0) _ rfl b9.blk Try.underlying24 rfl infoI) rfl (by exact ⟨k, _, 0, rfl, ok_but15 HT7.out.2.2.2 g9 HFA.out, HT.out.2.2.2.2.1, Or.inl ⟨⟨⟨chk_rt HCC.out, HCC.out⟩, HT.out.2.2.2.2.1, by rw [← HX.out]; exact HPX.out⟩, by rw [← HX.out], rfl⟩, grown_new HT7.out.2.2.1 g9 (Nat.le_refl _)⟩)
          · skip
            have hne : ¬ sx.toList = sy.toList := fun e => heq (HIF.out.1 (ba_inj15 e))
            have HNO : Hid (No15 bs at_) := fun n0 h => heq (by obtain ⟨r, hr⟩ := HSE.out n0 h; rw [← hr]; simp)
            clear heq
            refine wp_region_held_drew (S := fun V => World.grownBy WC V none) (by kernel_rfl) ⟨rfl, rfl, rfl, Nat.le_refl _, fun _ _ _ => rfl⟩ (fun hH => ?_)
            refine wpAnyH_take (i := 0) (oi := ⟨some 43, _, _, _, _, _⟩) (v := .slice a6 X.length c6) rfl (by kernel_rfl) (by kernel_rfl) (by kernel_rfl) (fun _ _ _ h => h) (Or.inl ⟨by rfl, fun w hSw => by go_simp⟩) hH ?_
            simp only [Act.put, List.setIfInBounds_toArray, List.set_cons_zero, List.set_cons_succ]
            refine wpAnyH_take (i := 1) (oi := ⟨some 44, _, _, _, _, _⟩) (v := .int .i64 (X.length : Int)) rfl (by kernel_rfl) (by kernel_rfl) (by kernel_rfl) (fun _ _ _ h => h) (Or.inl ⟨by rfl, fun w hSw => by go_simp⟩) hH ?_
            simp only [Act.put, List.setIfInBounds_toArray, List.set_cons_zero, List.set_cons_succ]
            refine wpAnyH_take (i := 2) (oi := ⟨some 45, _, _, _, _, _⟩) (v := .slice (some ⟨b, off, none⟩) len cap) rfl (by kernel_rfl) (by kernel_rfl) (by kernel_rfl) (fun _ _ _ h => h) (Or.inl ⟨by rfl, fun w hSw => by go_simp⟩) hH ?_
            simp only [Act.put, List.setIfInBounds_toArray, List.set_cons_zero, List.set_cons_succ]
            refine wpAnyH_take (i := 3) (oi := ⟨some 46, _, _, _, _, _⟩) (v := .int .i64 (len : Int)) rfl (by kernel_rfl) (by kernel_rfl) (by kernel_rfl) (fun _ _ _ h => h) (Or.inl ⟨by rfl, fun w hSw => by go_simp⟩) hH ?_
            simp only [Act.put, List.setIfInBounds_toArray, List.set_cons_zero, List.set_cons_succ]
            refine wpAnyH_take (i := 4) (oi := ⟨some 47, _, _, _, _, _⟩) (v := .int .i64 (at_ : Int)) rfl (by kernel_rfl) (by kernel_rfl) (by kernel_rfl) (fun _ _ _ h => h) (Or.inl ⟨by rfl, fun w hSw => by go_simp⟩) hH ?_
            simp only [Act.put, List.setIfInBounds_toArray, List.set_cons_zero, List.set_cons_succ]
            refine wpAnyH_take (i := 5) (oi := ⟨some 48, _, _, _, _, _⟩) (v := .int .i64 ((len : Int) - (at_ : Int))) rfl (by kernel_rfl) (by kernel_rfl) (by kernel_rfl) (fun _ _ _ h => h) (Or.inl ⟨by rfl, fun w hSw => by go_simp⟩) hH ?_
            simp only [Act.put, List.setIfInBounds_toArray, List.set_cons_zero, List.set_cons_succ]
            refine wpAnyH_take (i := 6) (oi := ⟨some 49, _, _, _, _, _⟩) (v := .bool false) rfl (by kernel_rfl) (by kernel_rfl) (by kernel_rfl) (fun _ _ _ h => h) (Or.inl ⟨by rfl, fun w hSw => by go_simp⟩) hH ?_
            simp only [Act.put, List.setIfInBounds_toArray, List.set_cons_zero, List.set_cons_succ]
            refine wpAnyH_take (i := 7) (oi := ⟨some 50, _, _, _, _, _⟩) (v := .bool false) rfl (by kernel_rfl) (by kernel_rfl) (by kernel_rfl) (fun _ _ _ h => h) (Or.inl ⟨by rfl, fun w hSw => by go_simp⟩) hH ?_
            simp only [Act.put, List.setIfInBounds_toArray, List.set_cons_zero, List.set_cons_succ]
            refine wpAnyH_take (i := 8) (oi := ⟨some 51, _, _, _, _, _⟩) (v := .slice a6 X.length c6) rfl (by kernel_rfl) (by kernel_rfl) (by kernel_rfl) (fun _ _ _ h => h) (Or.inl ⟨by rfl, fun w hSw => by go_simp⟩) hH ?_
            simp only [Act.put, List.setIfInBounds_toArray, List.set_cons_zero, List.set_cons_succ]
            refine wpAnyH_take (i := 9) (oi := ⟨some 52, _, _, _, _, _⟩) (v := .string sx) rfl (by kernel_rfl) (by kernel_rfl) (by kernel_rfl) (fun _ _ _ h => h) (Or.inl ⟨by rfl, fun w hSw => by have cq := cvx w hSw; go_simp⟩) hH ?_
            simp only [Act.put, List.setIfInBounds_toArray, List.set_cons_zero, List.set_cons_succ]
            refine wpAnyH_take (i := 10) (oi := ⟨some 53, _, _, _, _, _⟩) (v := .slice (some ⟨b, off, none⟩) len cap) rfl (by kernel_rfl) (by kernel_rfl) (by kernel_rfl) (fun _ _ _ h => h) (Or.inl ⟨by rfl, fun w hSw => by go_simp⟩) hH ?_
            simp only [Act.put, List.setIfInBounds_toArray, List.set_cons_zero, List.set_cons_succ]
            refine wpAnyH_take (i := 11) (oi := ⟨some 54, _, _, _, _, _⟩) (v := .int .i64 (at_ : Int)) rfl (by kernel_rfl) (by kernel_rfl) (by kernel_rfl) (fun _ _ _ h => h) (Or.inl ⟨by rfl, fun w hSw => by go_simp⟩) hH ?_
            simp only [Act.put, List.setIfInBounds_toArray, List.set_cons_zero, List.set_cons_succ]
            refine wpAnyH_take (i := 12) (oi := ⟨some 55, _, _, _, _, _⟩) (v := .int .i64 (at_ : Int)) rfl (by kernel_rfl) (by kernel_rfl) (by kernel_rfl) (fun _ _ _ h => h) (Or.inl ⟨by rfl, fun w hSw => by go_simp⟩) hH ?_
            simp only [Act.put, List.setIfInBounds_toArray, List.set_cons_zero, List.set_cons_succ]
            refine wpAnyH_take (i := 13) (oi := ⟨some 56, _, _, _, _, _⟩) (v := .slice a6 X.length c6) rfl (by kernel_rfl) (by kernel_rfl) (by kernel_rfl) (fun _ _ _ h => h) (Or.inl ⟨by rfl, fun w hSw => by go_simp⟩) hH ?_
            simp only [Act.put, List.setIfInBounds_toArray, List.set_cons_zero, List.set_cons_succ]
            refine wpAnyH_take (i := 14) (oi := ⟨some 57, _, _, _, _, _⟩) (v := .int .i64 (X.length : Int)) rfl (by kernel_rfl) (by kernel_rfl) (by kernel_rfl) (fun _ _ _ h => h) (Or.inl ⟨by rfl, fun w hSw => by go_simp⟩) hH ?_
            simp only [Act.put, List.setIfInBounds_toArray, List.set_cons_zero, List.set_cons_succ]
            refine wpAnyH_take (i := 15) (oi := ⟨some 58, _, _, _, _, _⟩) (v := .int .i64 ((at_ : Int) + (X.length : Int))) rfl (by kernel_rfl) (by kernel_rfl) (by kernel_rfl) (fun _ _ _ h => h) (Or.inl ⟨by rfl, fun w hSw => by go_simp⟩) hH ?_
            simp only [Act.put, List.setIfInBounds_toArray, List.set_cons_zero, List.set_cons_succ]
            refine wpAnyH_take (i := 16) (oi := ⟨some 59, _, _, _, _, _⟩) (v := .slice (some ⟨b, off + at_, none⟩) X.length (cap - at_)) rfl (by kernel_rfl) (by kernel_rfl) (by kernel_rfl) (fun _ _ _ h => h) (Or.inl ⟨by rfl, fun w hSw => by go_simp⟩) hH ?_
            simp only [Act.put, List.setIfInBounds_toArray, List.set_cons_zero, List.set_cons_succ]
            refine wpAnyH_take (i := 17) (oi := ⟨some 60, _, _, _, _, _⟩) (v := .string sy) rfl (by kernel_rfl) (by kernel_rfl) (by kernel_rfl) (fun _ _ _ h => h) (Or.inl ⟨by rfl, fun w hSw => by have cq := cvy w hSw; go_simp⟩) hH ?_
            simp only [Act.put, List.setIfInBounds_toArray, List.set_cons_zero, List.set_cons_succ]
            refine wpAnyH_take (i := 18) (oi := ⟨some 61, _, _, _, _, _⟩) (v := .bool true) rfl (by kernel_rfl) (by kernel_rfl) (by kernel_rfl) (fun _ _ _ h => h) (Or.inl ⟨by rfl, fun w hSw => by go_simp⟩) hH ?_
            simp only [Act.put, List.setIfInBounds_toArray, List.set_cons_zero, List.set_cons_succ]
            refine wpAnyH_take (i := 19) (oi := ⟨some 62, _, _, _, _, _⟩) (v := .bool true) rfl (by kernel_rfl) (by kernel_rfl) (by kernel_rfl) (fun _ _ _ h => h) (Or.inl ⟨by rfl, fun w hSw => by go_simp⟩) hH ?_
            simp only [Act.put, List.setIfInBounds_toArray, List.set_cons_zero, List.set_cons_succ]
            refine wpAnyH_done (by kernel_rfl) ?_ _
            clear cvx cvy
            clear hH
            go_wp2_with (first | ((with_reducible refine inoStore ?_); refine wpList_storeB rfl 24 _ _ rfl w.heap.size [.int .i64 0, .int .i64 0, .int .i64 0, .int .i64 0, .int .i64 0, .int .i64 0, .int .i64 0, .int .i64 0, .int .i64 0, .slice none 0 0, .int .i64 0, .int .i64 0, .int .i64 0, .int .i64 0, .int .i64 0, .int .i64 0, .string ⟨#[]⟩, .int .i64 0] rfl rfl HT7.out.2.1 infoI rfl rfl ?_; intro W9 b9 g9) | fail)
            exact bodyPost_ret (results_cell_2 rfl _ _ w.heap.size 24 _ (0, 0) _ rfl b9.blk Try.underlying24 rfl infoI) rfl (by exact ⟨nz15, 0, 6, rfl, nz_ok _, rfl, Or.inr ⟨rfl, HNO.out, rfl, rfl⟩, grown_new HT7.out.2.2.1 g9 (Nat.le_refl _)⟩)
      · have hk := rcheck15_any k W5 HT.out.2.2.2.1
        have HNO : Hid (No15 bs at_) := fun n0 h => hc (by rw [same_chk (HT.out.2.2.2.2.2 n0 h) HT.out.2.2.2.2.1 h.2.1]; exact h.1.2)
        have hc2 : (chk15 k != 0) = true := by simpa using hc
        generalize chk15 k = C at *
        unfold Nd.val at hk
        go_wp2_with (first | ((with_reducible refine inoHere ?_); refine wpList_loadG (by first | rfl | fail) 24 _ rfl (W2.heap.size) rfl HT.out.1 Try.underlying24 rfl infoI ?_) | fail)
        refine hk.mono ?_
        rintro e WB ⟨rfl, g5⟩
        have HT5 : Hid _ := And.intro (HT.out.2.1.kept g5) (grown_trans HT.out.2.2.1 g5)
        clear hk g5
        go_wp2_with (first | ((with_reducible refine inoStore ?_); refine wpList_storeB rfl 24 _ _ rfl w.heap.size [.int .i64 0, .int .i64 0, .int .i64 0, .int .i64 0, .int .i64 0, .int .i64 0, .int .i64 0, .int .i64 0, .int .i64 0, .slice none 0 0, .int .i64 0, .int .i64 0, .int .i64 0, .int .i64 0, .int .i64 0, .int .i64 0, .string ⟨#[]⟩, .int .i64 0] rfl rfl HT5.out.1 infoI rfl rfl ?_; intro W9 b9 g9) | fail)
        exact bodyPost_ret (results_cell_2 rfl _ _ w.heap.size 24 _ (0, 0) _ rfl b9.blk Try.underlying24 rfl infoI) rfl (by exact ⟨nz15, 0, 6, rfl, nz_ok _, rfl, Or.inr ⟨rfl, HNO.out, rfl, rfl⟩, grown_new HT5.out.2 g9 (Nat.le_refl _)⟩)
    | false =>
      have HNO : Hid (No15 bs at_) := fun n0 h => by by_cases q : len < at_ + 24; exact absurd (HM.out.2.2.1 n0 h q).1 (by decide); exact HN1.out (by omega) n0 h
      go_wp2_with (first | ((with_reducible refine inoStore ?_); refine wpList_storeB rfl 24 _ _ rfl w.heap.size [.int .i64 0, .int .i64 0, .int .i64 0, .int .i64 0, .int .i64 0, .int .i64 0, .int .i64 0, .int .i64 0, .int .i64 0, .slice none 0 0, .int .i64 0, .int .i64 0, .int .i64 0, .int .i64 0, .int .i64 0, .int .i64 0, .string ⟨#[]⟩, .int .i64 0] rfl rfl HB5.out.2.1 infoI rfl rfl ?_; intro W9 b9 g9) | fail)
      exact bodyPost_ret (results_cell_2 rfl _ _ w.heap.size 24 _ (0, 0) _ rfl b9.blk Try.underlying24 rfl infoI) rfl (by exact ⟨nz15, 0, 6, rfl, nz_ok _, rfl, Or.inr ⟨rfl, HNO.out, rfl, rfl⟩, grown_new HB5.out.2.2.1 g9 (Nat.le_refl _)⟩)
end Go.Proofs.Ytiafbnpbbjkdbaa

namespace Go.Proofs.Ytiafbnpbbjkdbaa
open Go.RowKit
set_option maxRecDepth 100000
set_option linter.unusedSimpArgs false
set_option linter.unusedVariables false
set_option maxHeartbeats 4000000 in
theorem rsame15_eq (n m : Nd) (w : World) (hn : n.ok w) (hm : m.ok w) (h : Same15 n m) : Calls Try.prog 16 #[n.val, m.val] w fun e w' => e = .returned (.bool true) ∧ w.grownBy w' none := by
  have h1 := hn.row
  have h2 := hm.row
  obtain ⟨h_kd, h_md, h_ui, h_gi, h_tm, h_ln, h_at_, h_sz, h_st, h_fr, h_of_, h_tl, h_dr, h_by_, h_pr, h_dv, hws, htg⟩ := h
  have hwl : n.wl = m.wl := by rw [← h1.len_eq, ← h2.len_eq, hws]
  clear hn hm
  obtain ⟨kd, md, ui, gi, tm, ln, at_, sz, st, wa, wl, wc, ws, fr, of_, tl, dr, by_, pr, tg, dv⟩ := n
  obtain ⟨kd', md', ui', gi', tm', ln', at_', sz', st', wa', wl', wc', ws', fr', of_', tl', dr', by_', pr', tg', dv'⟩ := m
  simp only at *
  subst h_kd h_md h_ui h_gi h_tm h_ln h_at_ h_sz h_st h_fr h_of_ h_tl h_dr h_by_ h_pr h_dv hws htg hwl
  have H1 : Hid (∀ W, w.grownBy W none → IRow W wa wl ws) := fun W g => h1.grown g
  have H2 : Hid (∀ W, w.grownBy W none → IRow W wa' wl ws) := fun W g => h2.grown g
  have HL : Hid (wl ≤ maxLen) := h1.le
  have hle := h1.le
  unfold maxLen at hle
  clear h1 h2
  unfold Nd.val
  simp only
  go_enter Try.func16, Try.ntmps16
  go_wp2
  have HS : Hid (w.grownBy ((w.alloc (.cells #[.int .i64 kd, .int .i64 md, .int .i64 ui, .int .i64 gi, .int .i64 tm, .int .i64 ln, .int .i64 at_, .int .i64 sz, .int .i64 st, .slice wa wl wc, .int .i64 fr, .int .i64 of_, .int .i64 tl, .int .i64 dr, .int .i64 by_, .int .i64 pr, .string tg, .int .i64 dv] 24)).alloc (.cells #[.int .i64 kd, .int .i64 md, .int .i64 ui, .int .i64 gi, .int .i64 tm, .int .i64 ln, .int .i64 at_, .int .i64 sz, .int .i64 st, .slice wa' wl wc', .int .i64 fr, .int .i64 of_, .int .i64 tl, .int .i64 dr, .int .i64 by_, .int .i64 pr, .string tg, .int .i64 dv] 24)) none ∧ Bx ((w.alloc (.cells #[.int .i64 kd, .int .i64 md, .int .i64 ui, .int .i64 gi, .int .i64 tm, .int .i64 ln, .int .i64 at_, .int .i64 sz, .int .i64 st, .slice wa wl wc, .int .i64 fr, .int .i64 of_, .int .i64 tl, .int .i64 dr, .int .i64 by_, .int .i64 pr, .string tg, .int .i64 dv] 24)).alloc (.cells #[.int .i64 kd, .int .i64 md, .int .i64 ui, .int .i64 gi, .int .i64 tm, .int .i64 ln, .int .i64 at_, .int .i64 sz, .int .i64 st, .slice wa' wl wc', .int .i64 fr, .int .i64 of_, .int .i64 tl, .int .i64 dr, .int .i64 by_, .int .i64 pr, .string tg, .int .i64 dv] 24)) w.heap.size 24 [.int .i64 kd, .int .i64 md, .int .i64 ui, .int .i64 gi, .int .i64 tm, .int .i64 ln, .int .i64 at_, .int .i64 sz, .int .i64 st, .slice wa wl wc, .int .i64 fr, .int .i64 of_, .int .i64 tl, .int .i64 dr, .int .i64 by_, .int .i64 pr, .string tg, .int .i64 dv] ∧ Bx ((w.alloc (.cells #[.int .i64 kd, .int .i64 md, .int .i64 ui, .int .i64 gi, .int .i64 tm, .int .i64 ln, .int .i64 at_, .int .i64 sz, .int .i64 st, .slice wa wl wc, .int .i64 fr, .int .i64 of_, .int .i64 tl, .int .i64 dr, .int .i64 by_, .int .i64 pr, .string tg, .int .i64 dv] 24)).alloc (.cells #[.int .i64 kd, .int .i64 md, .int .i64 ui, .int .i64 gi, .int .i64 tm, .int .i64 ln, .int .i64 at_, .int .i64 sz, .int .i64 st, .slice wa' wl wc', .int .i64 fr, .int .i64 of_, .int .i64 tl, .int .i64 dr, .int .i64 by_, .int .i64 pr, .string tg, .int .i64 dv] 24)) (w.heap.size + 1) 24 [.int .i64 kd, .int .i64 md, .int .i64 ui, .int .i64 gi, .int .i64 tm, .int .i64 ln, .int .i64 at_, .int .i64 sz, .int .i64 st, .slice wa' wl wc', .int .i64 fr, .int .i64 of_, .int .i64 tl, .int .i64 dr, .int .i64 by_, .int .i64 pr, .string tg, .int .i64 dv]) := by
    refine ⟨grown_trans (World.grownBy_alloc _ _ _) (World.grownBy_alloc _ _ _), (Bx.new w 24 _).kept (World.grownBy_alloc _ _ _), ?_⟩
    have e : ((w.alloc (.cells #[.int .i64 kd, .int .i64 md, .int .i64 ui, .int .i64 gi, .int .i64 tm, .int .i64 ln, .int .i64 at_, .int .i64 sz, .int .i64 st, .slice wa wl wc, .int .i64 fr, .int .i64 of_, .int .i64 tl, .int .i64 dr, .int .i64 by_, .int .i64 pr, .string tg, .int .i64 dv] 24))).heap.size = w.heap.size + 1 := by show (w.heap.push _).size = _; simp
    rw [← e]
    exact Bx.new _ _ _
  generalize ((w.alloc (.cells #[.int .i64 kd, .int .i64 md, .int .i64 ui, .int .i64 gi, .int .i64 tm, .int .i64 ln, .int .i64 at_, .int .i64 sz, .int .i64 st, .slice wa wl wc, .int .i64 fr, .int .i64 of_, .int .i64 tl, .int .i64 dr, .int .i64 by_, .int .i64 pr, .string tg, .int .i64 dv] 24)).alloc (.cells #[.int .i64 kd, .int .i64 md, .int .i64 ui, .int .i64 gi, .int .i64 tm, .int .i64 ln, .int .i64 at_, .int .i64 sz, .int .i64 st, .slice wa' wl wc', .int .i64 fr, .int .i64 of_, .int .i64 tl, .int .i64 dr, .int .i64 by_, .int .i64 pr, .string tg, .int .i64 dv] 24)) = W0 at *
  go_loopw [5] (fun i wr => ∃ j : Nat, j ≤ wl ∧ i = .int .i64 j ∧ Hid (w.grownBy wr none ∧ Bx wr w.heap.size 24 [.int .i64 kd, .int .i64 md, .int .i64 ui, .int .i64 gi, .int .i64 tm, .int .i64 ln, .int .i64 at_, .int .i64 sz, .int .i64 st, .slice wa wl wc, .int .i64 fr, .int .i64 of_, .int .i64 tl, .int .i64 dr, .int .i64 by_, .int .i64 pr, .string tg, .int .i64 dv] ∧ Bx wr (w.heap.size + 1) 24 [.int .i64 kd, .int .i64 md, .int .i64 ui, .int .i64 gi, .int .i64 tm, .int .i64 ln, .int .i64 at_, .int .i64 sz, .int .i64 st, .slice wa' wl wc', .int .i64 fr, .int .i64 of_, .int .i64 tl, .int .i64 dr, .int .i64 by_, .int .i64 pr, .string tg, .int .i64 dv])) (fun i _ => wl - (intOf i).toNat)
  case atStart => exact ⟨0, Nat.zero_le _, rfl, HS⟩
  case round =>
    obtain ⟨j, hj, rfl, HJ⟩ := hrel
    clear HS
    have b1 := HJ.out.2.1.c 9
    have b2 := HJ.out.2.2.c 9
    simp only [List.getElem?_cons_zero, List.getElem?_cons_succ] at b1 b2
    by_cases hlt : j < wl
    · obtain ⟨b, off, e, hc⟩ := (H1.out _ HJ.out.1).cells (by omega)
      obtain ⟨b', off', e', hc'⟩ := (H2.out _ HJ.out.1).cells (by omega)
      subst e e'
      have c1 := hc j hlt
      have c2 := hc' j hlt
      clear hc hc'
      generalize ws.getD j 0 = x at *
      go_wp2_with fail
      go_quiet (fail)
      have HJ2 : Hid (w.grownBy (wr.drewN nq) none ∧ Bx (wr.drewN nq) w.heap.size 24 [.int .i64 kd, .int .i64 md, .int .i64 ui, .int .i64 gi, .int .i64 tm, .int .i64 ln, .int .i64 at_, .int .i64 sz, .int .i64 st, .slice (some ⟨b, off, none⟩) wl wc, .int .i64 fr, .int .i64 of_, .int .i64 tl, .int .i64 dr, .int .i64 by_, .int .i64 pr, .string tg, .int .i64 dv] ∧ Bx (wr.drewN nq) (w.heap.size + 1) 24 [.int .i64 kd, .int .i64 md, .int .i64 ui, .int .i64 gi, .int .i64 tm, .int .i64 ln, .int .i64 at_, .int .i64 sz, .int .i64 st, .slice (some ⟨b', off', none⟩) wl wc', .int .i64 fr, .int .i64 of_, .int .i64 tl, .int .i64 dr, .int .i64 by_, .int .i64 pr, .string tg, .int .i64 dv]) := by
        have g : wr.grownBy (wr.drewN nq) none := ⟨rfl, rfl, rfl, Nat.le_refl _, fun _ _ _ => rfl⟩
        exact ⟨grown_trans HJ.out.1 g, HJ.out.2.1.kept g, HJ.out.2.2.kept g⟩
      clear HJ b1 b2 c1 c2
      go_wp2
      go_roundw
      case rel => exact ⟨j + 1, by omega, by go_num, HJ2⟩
      case measure => simp [intOf]; omega
    · obtain rfl : j = wl := by omega
      go_wp2
      go_ret
      exact ⟨rfl, HJ.out.1⟩
end Go.Proofs.Ytiafbnpbbjkdbaa

namespace Go.Proofs.Ytiafbnpbbjkdbaa
open Go.RowKit
set_option maxRecDepth 100000
set_option linter.unusedSimpArgs false
set_option linter.unusedVariables false
/-- what is told of an inode at a place -/
def Tl15 (bs : List Int) (at_ : Int) (m : Nd) (nx c : Int) : Prop :=
  ((at_ < 0 ∨ (bs.length : Int) < at_) ∧ m = nz15 ∧ nx = 0 ∧ c = 9) ∨ (∃ p : Nat, at_ = (p : Int) ∧ p ≤ bs.length ∧ ((Pre15 bs p m ∧ nx = p + (enb15 m).length ∧ c = 0) ∨ (m = nz15 ∧ No15 bs p ∧ nx = 0 ∧ c = 6)))
theorem tl_same {bs : List Int} {at_ : Int} {m n : Nd} {nx ny c d : Int} (h1 : Tl15 bs at_ m nx c) (h2 : Tl15 bs at_ n ny d) (hs : ∀ p : Nat, at_ = (p : Int) → ∀ k, Pre15 bs p k → c = 0 → Same15 m k) : Same15 m n ∧ nx = ny ∧ c = d := by
  have hz : Same15 nz15 nz15 := ⟨rfl, rfl, rfl, rfl, rfl, rfl, rfl, rfl, rfl, rfl, rfl, rfl, rfl, rfl, rfl, rfl, rfl, rfl⟩
  rcases h1 with ⟨a1, rfl, rfl, rfl⟩ | ⟨p, rfl, a2, a3⟩
  · rcases h2 with ⟨b1, rfl, rfl, rfl⟩ | ⟨q, e, b2, b3⟩
    · exact ⟨hz, rfl, rfl⟩
    · omega
  · rcases h2 with ⟨b1, rfl, rfl, rfl⟩ | ⟨q, e, b2, b3⟩
    · omega
    · obtain rfl : p = q := by omega
      rcases a3 with ⟨c1, rfl, rfl⟩ | ⟨rfl, c2, rfl, rfl⟩ <;> rcases b3 with ⟨d1, rfl, rfl⟩ | ⟨rfl, d2, rfl, rfl⟩
      · have := hs p rfl n d1 rfl
        exact ⟨this, by rw [same_enb15 this c1.2.1 d1.2.1], rfl⟩
      · exact absurd c1 (d2 _)
      · exact absurd d1 (c2 _)
      · exact ⟨hz, rfl, rfl⟩
set_option maxHeartbeats 4000000 in
theorem pdecode15_out (a : Option Addr) (len cap : Nat) (at_ : Int) (w : World) (h : at_ < 0 ∨ (len : Int) < at_) :
    Calls Try.prog 14 #[.slice a len cap, .int .i64 at_] w fun e w' => e = .returned (.tuple #[nz15.val, .int .i64 0, .int .i64 9]) ∧ w.grownBy w' none := by
  have hb : inn 0 (len : Int) at_ = false := by cases q : inn 0 (len : Int) at_; rfl; have := inn_iff.1 q; omega
  by_cases h1 : at_ < 0
  · skip
    go_enter Try.func14, Try.ntmps14
    go_wp2_with (first | (go_at_call 25; refine (between_any _ _ _ _).mono ?_; rintro e w' ⟨rfl, rfl⟩) | ((with_reducible refine inoStore ?_); refine wpList_storeB rfl 24 _ _ rfl w.heap.size [.int .i64 0, .int .i64 0, .int .i64 0, .int .i64 0, .int .i64 0, .int .i64 0, .int .i64 0, .int .i64 0, .int .i64 0, .slice none 0 0, .int .i64 0, .int .i64 0, .int .i64 0, .int .i64 0, .int .i64 0, .int .i64 0, .string ⟨#[]⟩, .int .i64 0] rfl rfl (Bx.new w _ _) infoI rfl rfl ?_; intro W9 b9 g9) | fail)
    exact bodyPost_ret (results_cell_2 rfl _ _ w.heap.size 24 _ (0, 0) _ rfl b9.blk Try.underlying24 rfl infoI) rfl (by exact ⟨rfl, grown_new (World.grownBy_alloc w _ none) g9 (Nat.le_refl _)⟩)
  · clear h
    go_enter Try.func14, Try.ntmps14
    go_wp2_with (first | (go_at_call 25; refine (between_any _ _ _ _).mono ?_; rintro e w' ⟨rfl, rfl⟩) | ((with_reducible refine inoStore ?_); refine wpList_storeB rfl 24 _ _ rfl w.heap.size [.int .i64 0, .int .i64 0, .int .i64 0, .int .i64 0, .int .i64 0, .int .i64 0, .int .i64 0, .int .i64 0, .int .i64 0, .slice none 0 0, .int .i64 0, .int .i64 0, .int .i64 0, .int .i64 0, .int .i64 0, .int .i64 0, .string ⟨#[]⟩, .int .i64 0] rfl rfl (Bx.new w _ _) infoI rfl rfl ?_; intro W9 b9 g9) | fail)
    exact bodyPost_ret (results_cell_2 rfl _ _ w.heap.size 24 _ (0, 0) _ rfl b9.blk Try.underlying24 rfl infoI) rfl (by exact ⟨rfl, grown_new (World.grownBy_alloc w _ none) g9 (Nat.le_refl _)⟩)
set_option maxHeartbeats 4000000 in
theorem rdecode15_out (a : Option Addr) (len cap : Nat) (at_ : Int) (w : World) (h : at_ < 0 ∨ (len : Int) < at_) :
    Calls Try.prog 15 #[.slice a len cap, .int .i64 at_] w fun e w' => e = .returned (.tuple #[nz15.val, .int .i64 0, .int .i64 9]) ∧ w.grownBy w' none := by
  by_cases h1 : at_ < 0
  · skip
    go_enter Try.func15, Try.ntmps15
    go_wp2_with (first | ((with_reducible refine inoStore ?_); refine wpList_storeB rfl 24 _ _ rfl w.heap.size [.int .i64 0, .int .i64 0, .int .i64 0, .int .i64 0, .int .i64 0, .int .i64 0, .int .i64 0, .int .i64 0, .int .i64 0, .slice none 0 0, .int .i64 0, .int .i64 0, .int .i64 0, .int .i64 0, .int .i64 0, .int .i64 0, .string ⟨#[]⟩, .int .i64 0] rfl rfl (Bx.new w _ _) infoI rfl rfl ?_; intro W9 b9 g9) | fail)
    exact bodyPost_ret (results_cell_2 rfl _ _ w.heap.size 24 _ (0, 0) _ rfl b9.blk Try.underlying24 rfl infoI) rfl (by exact ⟨rfl, grown_new (World.grownBy_alloc w _ none) g9 (Nat.le_refl _)⟩)
  · have h2 : (len : Int) < at_ := by omega
    clear h
    go_enter Try.func15, Try.ntmps15
    go_wp2_with (first | ((with_reducible refine inoStore ?_); refine wpList_storeB rfl 24 _ _ rfl w.heap.size [.int .i64 0, .int .i64 0, .int .i64 0, .int .i64 0, .int .i64 0, .int .i64 0, .int .i64 0, .int .i64 0, .int .i64 0, .slice none 0 0, .int .i64 0, .int .i64 0, .int .i64 0, .int .i64 0, .int .i64 0, .int .i64 0, .string ⟨#[]⟩, .int .i64 0] rfl rfl (Bx.new w _ _) infoI rfl rfl ?_; intro W9 b9 g9) | fail)
    exact bodyPost_ret (results_cell_2 rfl _ _ w.heap.size 24 _ (0, 0) _ rfl b9.blk Try.underlying24 rfl infoI) rfl (by exact ⟨rfl, grown_new (World.grownBy_alloc w _ none) g9 (Nat.le_refl _)⟩)
set_option maxHeartbeats 8000000 in
theorem inodeDecodes_walk (a : Option Addr) (len cap : Nat) (zs : List Int) (at_ : Int) (w : World) (hz : IsRow .u8 w a len cap zs) (hat : in64 at_) :
    Calls Try.prog 4 #[.slice a len cap, .int .i64 at_] w fun e w' => e = .returned (.bool true) ∧ Below w.heap.size w w' := by
  obtain ⟨i5, hi, hz0, hz1, hz2⟩ := info_parts Try.info5
  have R0 := hz.row
  have hnil := hz.nilcap
  have hnc : len ≤ cap := by
    rcases hz with ⟨rfl, rfl, rfl, rfl⟩ | ⟨x, rfl, hl, hm, _⟩
    · exact Nat.le_refl _
    · exact hl
  generalize zs.take len = bs at *
  clear hz
  have HL : Hid (∀ W : World, Calls Try.prog 7 #[] W fun e w' => e = .returned (.bool true) ∧ W.grownBy w' none) := fun W => live15_any W
  by_cases h1 : (3000 : Int) < (len : Int)
  · have HE : Hid (True ∧ True ∧ w.grownBy w none) := ⟨trivial, trivial, World.grownBy.refl _ _⟩
    clear R0 hnil hat
    go_enter Try.func4, Try.ntmps4
    go_wp2_with (first | (go_at_call 7; refine (HL.out _).mono ?_; rintro e w1 ⟨rfl, g1⟩; have HF : Hid _ := grown_trans HE.out.2.2 g1; clear g1) | fail)
    go_ret
    exact ⟨rfl, grown_below HF.out⟩
  · have hlen : len ≤ 3000 := by omega
    have hPD : Hid (∀ (a' : Option Addr) (c' : Nat) (V : World), Row V a' len bs → len ≤ c' → Calls Try.prog 14 #[.slice a' len c', .int .i64 at_] V fun e w' => ∃ (m : Nd) (nx c : Int), e = .returned (.tuple #[m.val, .int .i64 nx, .int .i64 c]) ∧ m.ok w' ∧ m.ws.length = m.wl ∧ Tl15 bs at_ m nx c ∧ (∀ p : Nat, at_ = (p : Int) → ∀ k, Pre15 bs p k → c = 0 → Same15 m k) ∧ V.grownBy w' none) := fun a' c' V R hc => by
      by_cases ho : at_ < 0 ∨ (len : Int) < at_
      · refine (pdecode15_out a' len c' at_ V ho).mono ?_
        rintro e w' ⟨rfl, g⟩
        exact ⟨nz15, 0, 9, rfl, nz_ok _, rfl, Or.inl ⟨by rw [R.len_eq]; exact ho, rfl, rfl, rfl⟩, (fun p _ k _ q => absurd q (by decide)), g⟩
      · obtain ⟨p, rfl⟩ : ∃ p : Nat, at_ = (p : Int) := ⟨at_.toNat, by omega⟩
        refine (pdecode15_any a' len c' p bs V R hc (by omega) (by omega)).mono ?_
        rintro e w' h
        rcases h with ⟨m, next, q1, q2, q3, q4, q5, q6, q7, q8, q9⟩ | ⟨q1, q2, q3⟩
        · have hp : enb15 m <+: bs.drop p := by rw [q5]; exact List.take_prefix _ _
          have hl := congrArg List.length q5
          have hlb := R.len_eq
          rw [List.length_take, List.length_drop] at hl
          exact ⟨m, next, 0, q1, q2, q4, Or.inr ⟨p, rfl, by omega, Or.inl ⟨⟨⟨chk_rt q3, q3⟩, q4, hp⟩, by omega, rfl⟩⟩, (fun p' e k hk _ => by obtain rfl : p = p' := (by omega); exact q8 k hk), q9⟩
        · exact ⟨nz15, 0, 6, q1, nz_ok _, rfl, Or.inr ⟨p, rfl, by have := R.len_eq; omega, Or.inr ⟨rfl, q2, rfl, rfl⟩⟩, (fun p _ k _ q => absurd q (by decide)), q3⟩
    have hRD : Hid (∀ V : World, Row V a len bs → Calls Try.prog 15 #[.slice a len cap, .int .i64 at_] V fun e w' => ∃ (m : Nd) (nx c : Int), e = .returned (.tuple #[m.val, .int .i64 nx, .int .i64 c]) ∧ m.ok w' ∧ m.ws.length = m.wl ∧ Tl15 bs at_ m nx c ∧ V.grownBy w' none) := fun V R => by
      by_cases ho : at_ < 0 ∨ (len : Int) < at_
      · refine (rdecode15_out a len cap at_ V ho).mono ?_
        rintro e w' ⟨rfl, g⟩
        exact ⟨nz15, 0, 9, rfl, nz_ok _, rfl, Or.inl ⟨by rw [R.len_eq]; exact ho, rfl, rfl, rfl⟩, g⟩
      · obtain ⟨p, rfl⟩ : ∃ p : Nat, at_ = (p : Int) := ⟨at_.toNat, by omega⟩
        refine (rdecode15_any a len cap p bs V R hnc (by omega) (by omega)).mono ?_
        rintro e w' ⟨m, nx, c, q1, q2, q3, q4, q5⟩
        refine ⟨m, nx, c, q1, q2, q3, Or.inr ⟨p, rfl, by have := R.len_eq; omega, q4⟩, q5⟩
    have HR0 : Hid _ := R0
    have HLN : Hid (len ≤ 3000 ∧ len ≤ cap) := ⟨hlen, hnc⟩
    have O0 := World.ownsRow_made (base := w.heap.size) (e := 5) (size := 1) w #[] 0 (Nat.le_refl _) (Nat.zero_le _) (by simp)
    have HO0 : Hid (World.ownsRow (w.alloc (.cells #[] 5)) w.heap.size 5 1 (.slice (some ⟨w.heap.size, 0, none⟩) 0 0) 0 []) := O0
    have HRA : Hid _ := R0.grown (World.grownBy_alloc w (.cells #[] 5) none)
    have HNI : Hid _ := hnil
    have hcm : len ≤ 140737488355328 := by omega
    have hcx : 0 + len ≤ 140737488355328 := by omega
    have hbs : w.heap.size ≤ (w.alloc (.cells #[] 5)).heap.size := (World.grownBy_alloc w (.cells #[] 5) none).size
    clear O0 R0 hnil hlen hnc hat
    go_enter Try.func4, Try.ntmps4
    go_wp2_with (at_builtin; refine wpList_append8 rfl _ _ 26 rfl w.heap.size i5 Try.underlying26 hi hz0 hz1 hz2 _ 0 [] rfl HO0.out _ len cap bs rfl HRA.out HNI.out hcx hbs ?_)
    intro v1 W2 o1 g1
    have o2 : W2.ownsRow w.heap.size 5 1 v1 len (bv bs) := o1
    have G1 : w.grownBy W2 none := grown_own15' (World.grownBy_alloc w (.cells #[] 5) none) g1 (fun r e => by have e2 : some w.heap.size = some r := e; injection e2 with e2; omega)
    obtain ⟨a4, c4, rfl, R4, _, nc4, _⟩ := own_bytes o2 HR0.out.byt (by unfold maxLen; omega)
    have hp := hPD.out a4 c4 W2 R4 nc4
    have HE2 : Hid _ := And.intro R4 G1
    clear o1 o2 g1 G1 R4 hPD HO0 HRA hcm hcx hbs
    go_wp2_with fail
    refine hp.mono ?_
    clear hp
    rintro e W3 ⟨m, nx, c, rfl, hmk, hml, htl, hsm, g3⟩
    have HM : Hid _ := And.intro hmk (And.intro htl hsm)
    have HE3 : Hid _ := And.intro (HE2.out.1.grown g3) (grown_trans HE2.out.2 g3)
    clear hmk hml htl hsm g3 HE2
    unfold Nd.val
    have HBN : Hid _ := Bx.new W3 24 [.int .i64 0, .int .i64 0, .int .i64 0, .int .i64 0, .int .i64 0, .int .i64 0, .int .i64 0, .int .i64 0, .int .i64 0, .slice none 0 0, .int .i64 0, .int .i64 0, .int .i64 0, .int .i64 0, .int .i64 0, .int .i64 0, .string ⟨#[]⟩, .int .i64 0]
    go_wp2_with (first | ((with_reducible refine inoStore ?_); refine wpList_storeB rfl 24 _ _ rfl W3.heap.size [.int .i64 m.kd, .int .i64 m.md, .int .i64 m.ui, .int .i64 m.gi, .int .i64 m.tm, .int .i64 m.ln, .int .i64 m.at_, .int .i64 m.sz, .int .i64 m.st, .slice m.wa m.wl m.wc, .int .i64 m.fr, .int .i64 m.of_, .int .i64 m.tl, .int .i64 m.dr, .int .i64 m.by_, .int .i64 m.pr, .string m.tg, .int .i64 m.dv] rfl rfl HBN.out infoI rfl rfl ?_; intro W4 b4 g4; refine stopHere15 ?_) | fail)
    show wpList _ _ _ _ _ _
    have g34 : W3.grownBy W4 none := grown_new (World.grownBy_alloc W3 _ none) g4 (Nat.le_refl _)
    have HE4 : Hid _ := And.intro (HE3.out.1.grown g34) (And.intro (grown_trans HE3.out.2 g34) (And.intro b4 (HM.out.1.kept g34)))
    have hr := hRD.out W4 (HR0.out.grown HE4.out.2.1)
    clear b4 g4 g34 HBN HE3 hRD
    go_wp2_with fail
    refine hr.mono ?_
    clear hr
    rintro e W5 ⟨k, ny, d, rfl, hkk, hkl, htk, g5⟩
    obtain ⟨hsame, rfl, rfl⟩ := tl_same HM.out.2.1 htk HM.out.2.2
    have HE5 : Hid _ := And.intro (HE4.out.1.grown g5) (And.intro (grown_trans HE4.out.2.1 g5) (And.intro (HE4.out.2.2.1.kept g5) (And.intro (HE4.out.2.2.2.kept g5) (And.intro hkk hsame))))
    clear hkk hkl htk g5 hsame HM HE4
    unfold Nd.val
    have HBN : Hid _ := Bx.new W5 24 [.int .i64 0, .int .i64 0, .int .i64 0, .int .i64 0, .int .i64 0, .int .i64 0, .int .i64 0, .int .i64 0, .int .i64 0, .slice none 0 0, .int .i64 0, .int .i64 0, .int .i64 0, .int .i64 0, .int .i64 0, .int .i64 0, .string ⟨#[]⟩, .int .i64 0]
    go_wp2_with (first | ((with_reducible refine inoStore ?_); refine wpList_storeB rfl 24 _ _ rfl W5.heap.size [.int .i64 k.kd, .int .i64 k.md, .int .i64 k.ui, .int .i64 k.gi, .int .i64 k.tm, .int .i64 k.ln, .int .i64 k.at_, .int .i64 k.sz, .int .i64 k.st, .slice k.wa k.wl k.wc, .int .i64 k.fr, .int .i64 k.of_, .int .i64 k.tl, .int .i64 k.dr, .int .i64 k.by_, .int .i64 k.pr, .string k.tg, .int .i64 k.dv] rfl rfl HBN.out infoI rfl rfl ?_; intro W6 b6 g6; refine stopHere15 ?_) | fail)
    show wpList _ _ _ _ _ _
    have g56 : W5.grownBy W6 none := grown_new (World.grownBy_alloc W5 _ none) g6 (Nat.le_refl _)
    have hsa := rsame15_eq m k W6 (HE5.out.2.2.2.1.kept g56) (HE5.out.2.2.2.2.1.kept g56) HE5.out.2.2.2.2.2
    unfold Nd.val at hsa
    have HE6 : Hid _ := And.intro (HE5.out.1.grown g56) (And.intro (grown_trans HE5.out.2.1 g56) (And.intro (HE5.out.2.2.1.kept g56) b6))
    clear b6 g6 g56 HBN HE5
    go_wp2_with (first | ((with_reducible refine inoHere ?_); refine wpList_loadG (by first | rfl | fail) 24 _ rfl W3.heap.size rfl HE6.out.2.2.1 Try.underlying24 rfl infoI ?_) | ((with_reducible refine inoHere ?_); refine wpList_loadG (by first | rfl | fail) 24 _ rfl W5.heap.size rfl HE6.out.2.2.2 Try.underlying24 rfl infoI ?_) | fail)
    refine hsa.mono ?_
    clear hsa
    rintro e W7 ⟨rfl, g7⟩
    have hc1 := conv_row (P := Try.prog) (HE6.out.1.grown g7) c4 26 9 Try.underlying26 Try.underlying5 Try.underlying9
    have hc2 := conv_row (P := Try.prog) (HR0.out.grown (grown_trans HE6.out.2.1 g7)) cap 26 9 Try.underlying26 Try.underlying5 Try.underlying9
    have HE : Hid (True ∧ True ∧ w.grownBy W7 none) := ⟨trivial, trivial, grown_trans HE6.out.2.1 g7⟩
    generalize strOfNums bs = sb at *
    clear g7 HE6
    go_wp2_with (first | (go_at_call 10; refine (num15_any _ _).mono ?_; rintro e w' ⟨rfl, rfl⟩) | (go_at_call 7; refine (HL.out _).mono ?_; rintro e w1 ⟨rfl, g1⟩; have HF : Hid _ := grown_trans HE.out.2.2 g1; clear g1) | fail)
    go_ret
    exact ⟨rfl, grown_below HF.out⟩
end Go.Proofs.Ytiafbnpbbjkdbaa
