/- The program's reader; DecodeIds. -/
import Derived.Test.YtpahnkodhonlgaaVB17
import Derived.Deep.RegionHeld3
namespace Go.Proofs.Ytpahnkodhonlgaa
open Go.RowKit
set_option maxRecDepth 100000
set_option linter.unusedSimpArgs false
set_option linter.unusedVariables false
theorem wpList_makeI17 {P : Program} (w : World) {ops : Array Oper} {rest : List Oper} {o : Oper} {a : Act} {Q : Exit → Act → World → Prop}
    (hg : o.guard = none) (l c : Operand) (t : TypeId) (hop : o.op = Op.makeSlice t l c)
    (i : TypeInfo) (h1 : P.underlying t = some (.slice 3)) (h2 : P.info? 3 = some i) (h3 : i.zero = some (.int .i64 0)) (_h4 : i.size = 1) (h5 : i.bytes = 8)
    (kl kc : IntKind) (L C : Int) (n : Nat) (hl : a.eval l = .int kl L) (hc : a.eval c = .int kc C) (hL : L = (n : Int)) (hC : C = (n : Int)) (b2 : n ≤ 1099511627776)
    (hK : ∀ w', Bx w' w.heap.size 3 (List.replicate n (.int .i64 0)) → w.grownBy w' none → w'.heap.size = w.heap.size + 1 → wpList P ops Q rest (a.put o.dst (.slice (some ⟨w.heap.size, 0, none⟩) n n)) w') :
    wpList P ops Q (o :: rest) a w := by
  refine wpList_plain hg fun K hK' => ?_
  have hr := run_make (P := P) w t 3 i _ h1 h2 h3 kl kc n n (by omega) (Int.le_refl _) (by rw [h5]; omega) (by omega)
  simp only [Int.toNat_natCast] at hr
  subst hL
  subst hC
  unfold Oper.wp
  simp [execOp, hop, hl, hc, hr, Result.andThen]
  refine hK' _ _ (hK _ ⟨?_⟩ (World.grownBy_alloc w _ none) (by simp))
  rw [heap_alloc_new]
  have e := toList_madeCells_one (.int .i64 0) n
  have : (madeCells (Value.int IntKind.i64 0).cells (n * i.size)) = (List.replicate n (Value.int .i64 0)).toArray := by
    rw [_h4, Nat.mul_one, ← e]; simp [Value.cells]
  simp [this]
/-- the numbers of 4 bytes from a place on -/
def rdw17 (bs : List Int) (at_ n : Nat) : List Int := (List.range n).map fun i => le ((bs.drop (at_ + 4 * i)).take 4)
theorem rdw17_len (bs : List Int) (at_ n : Nat) : (rdw17 bs at_ n).length = n := by simp [rdw17]
theorem rdw17_succ (bs : List Int) (at_ n : Nat) : rdw17 bs at_ (n + 1) = rdw17 bs at_ n ++ [le ((bs.drop (at_ + 4 * n)).take 4)] := by simp [rdw17, List.range_succ]
/-- j numbers read, the rest nought -/
def rwc17 (bs : List Int) (at_ n j : Nat) : List Value := (rdw17 bs at_ j).map (Value.int .i64) ++ List.replicate (n - j) (.int .i64 0)
theorem rwc17_zero (bs : List Int) (at_ n : Nat) : rwc17 bs at_ n 0 = List.replicate n (.int .i64 0) := by simp [rwc17, rdw17]
theorem rwc17_full (bs : List Int) (at_ n : Nat) : rwc17 bs at_ n n = (rdw17 bs at_ n).map (Value.int .i64) := by simp [rwc17]
theorem rwc17_at (bs : List Int) (at_ n j : Nat) (h : j < n) : (rwc17 bs at_ n j)[j]? = some (.int .i64 0) := by
  unfold rwc17
  rw [List.getElem?_append_right (by simp [rdw17_len])]
  have h2 : j - ((rdw17 bs at_ j).map (Value.int IntKind.i64)).length = 0 := by simp [rdw17_len]
  rw [h2]
  obtain ⟨m, hm⟩ : ∃ m, n - j = m + 1 := ⟨n - j - 1, by omega⟩
  rw [hm]
  rfl
theorem rwc17_set (bs : List Int) (at_ n j : Nat) (h : j < n) : (rwc17 bs at_ n j).set j (.int .i64 (le ((bs.drop (at_ + 4 * j)).take 4))) = rwc17 bs at_ n (j + 1) := by
  unfold rwc17
  rw [rdw17_succ, List.map_append, List.append_assoc]
  obtain ⟨m, hm⟩ : ∃ m, n - j = m + 1 := ⟨n - j - 1, by omega⟩
  have hm2 : n - (j + 1) = m := by omega
  rw [hm, hm2, List.replicate_succ]
  have e : j = ((rdw17 bs at_ j).map (Value.int .i64)).length := by simp [rdw17_len]
  rw [List.set_append_right _ _ (by simp [rdw17_len])]
  simp [rdw17_len]
theorem Try.infoI17' : (Try.prog.info? 3).map (fun i => (i.zero, i.size, i.bytes)) = some (some (.int .i64 0), 1, 8) := by kernel_rfl
/-- the reader's variable -/
def rdc17 (a : Option Addr) (len cap : Nat) (at_ : Nat) (bad : Bool) : List Value := [.slice a len cap, .int .i64 (at_ : Int), .bool bad]
set_option maxHeartbeats 2000000 in
theorem pnum17_any (q : Nat) (a : Option Addr) (len cap at_ m : Nat) (bad : Bool) (bs : List Int) (W : World) (hq : Bx W q 78 (rdc17 a len cap at_ bad)) (R : Row W a len bs) (hat : at_ ≤ len) (hm : m = 1 ∨ m = 2 ∨ m = 4) :
    Calls Try.prog 41 #[.pointer (some ⟨q, 0, none⟩), .int .i64 m] W fun e W' => (if at_ + m ≤ len then e = .returned (.int .i64 (le ((bs.drop at_).take m))) ∧ Bx W' q 78 (rdc17 a len cap (at_ + m) bad)
       else e = .returned (.int .i64 0) ∧ Bx W' q 78 (rdc17 a len cap at_ true)) ∧ W.grownBy W' (some q) := by
  have hlm := R.le
  unfold maxLen at hlm
  have hG := fun V (hV : W.grownBy V none) => get_any a len cap bs at_ m V (R.grown hV) (by omega) (by omega)
  have hW : isW (m : Int) = true := by rcases hm with rfl | rfl | rfl <;> rfl
  have q0 := hq.c 0
  have q1 := hq.c 1
  have q2 := hq.c 2
  have f1 := hq.f 1
  have f2 := hq.f 2
  simp only [rdc17, List.getElem?_cons_zero, List.getElem?_cons_succ] at q0 q1 q2
  have HQ : Hid _ := hq
  have hmm : (m : Int) ≤ 8 := by omega
  by_cases hin : at_ + m ≤ len
  · simp only [if_pos hin]
    have e1 : getV bs (at_ : Int) (m : Int) = le ((bs.drop at_).take m) := getV_in hW (by rw [R.len_eq]; exact hin)
    have e2 : getE len (at_ : Int) (m : Int) = 0 := getE_in hW hin
    rw [e1, e2] at hG
    have hwr : IntKind.i64.wrap ((at_ : Int) + (m : Int)) = ((at_ + m : Nat) : Int) := by rw [IntKind.wrap_i64]; omega
    have hby : Byt ((bs.drop at_).take m) := (R.byt.drop _).take _
    have x1 := le_lt_of hby 4 (by rw [List.length_take]; omega)
    have x0 := le_nonneg hby
    generalize le ((bs.drop at_).take m) = v at *
    have hwv : IntKind.i64.wrap v = v := by rw [IntKind.wrap_i64]; omega
    clear e1 e2 hq R hW hby x0 x1
    have hQ : ∀ n, Calls Try.prog 60 #[.slice a len cap, .int .i64 (at_ : Int), .int .i64 (m : Int)] (W.drewN n) fun e w'' => e = .returned (.tuple #[.int .u64 v, .int .i64 0]) ∧ ∃ m, w'' = W.drewN m := fun n => (hG (W.drewN n) ⟨rfl, rfl, rfl, Nat.le_refl _, fun _ _ _ => rfl⟩).mono fun e w' h => ⟨h.1, n, h.2.symm⟩
    clear hG
    go_enter Try.func41, Try.ntmps41
    go_wp2_with fail
    go_quiet (first | (go_at_call 60; exact hQ _) | fail)
    go_wp2
    go_returns
    have G0 : W.grownBy (W.drewN nq) none := ⟨rfl, rfl, rfl, Nat.le_refl _, fun _ _ _ => rfl⟩
    have A1 := (HQ.out.kept G0)
    have C1 := A1.set 1 (.int .i64 ((at_ + m : Nat) : Int))
    have G1 := grown_set (W.drewN nq) q 1 (.int .i64 ((at_ + m : Nat) : Int))
    have ec : ((at_ + m : Nat) : Int) = (at_ : Int) + (m : Int) := by omega
    rw [ec] at C1 G1
    exact ⟨⟨rfl, by rw [← ec] at C1; exact C1⟩, grown_trans (show W.grownBy (W.drewN nq) (some q) from ⟨rfl, rfl, rfl, Nat.le_refl _, fun _ _ _ => rfl⟩) G1⟩
  · simp only [if_neg hin]
    have e1 : getE len (at_ : Int) (m : Int) = 9 := getE_out hW (by simp [inB]; omega)
    rw [e1] at hG
    have hQ : ∀ n, Calls Try.prog 60 #[.slice a len cap, .int .i64 (at_ : Int), .int .i64 (m : Int)] (W.drewN n) fun e w'' => e = .returned (.tuple #[.int .u64 (getV bs (at_ : Int) (m : Int)), .int .i64 9]) ∧ ∃ m, w'' = W.drewN m := fun n => (hG (W.drewN n) ⟨rfl, rfl, rfl, Nat.le_refl _, fun _ _ _ => rfl⟩).mono fun e w' h => ⟨h.1, n, h.2.symm⟩
    generalize getV bs (at_ : Int) (m : Int) = v at *
    clear hG e1 hq R hW
    go_enter Try.func41, Try.ntmps41
    go_wp2_with fail
    go_quiet (first | (go_at_call 60; exact hQ _) | fail)
    go_wp2
    go_returns
    have G0 : W.grownBy (W.drewN nq) none := ⟨rfl, rfl, rfl, Nat.le_refl _, fun _ _ _ => rfl⟩
    have A1 := (HQ.out.kept G0)
    have B1 := A1.set 2 (.bool true)
    have G1 := grown_set (W.drewN nq) q 2 (.bool true)
    exact ⟨⟨rfl, B1⟩, grown_trans (show W.grownBy (W.drewN nq) (some q) from ⟨rfl, rfl, rfl, Nat.le_refl _, fun _ _ _ => rfl⟩) G1⟩
theorem pdec1_any (q : Nat) (a : Option Addr) (len cap at_ : Nat) (bs : List Int) (W : World) (hq : Bx W q 78 (rdc17 a len cap at_ false)) (R : Row W a len bs) (hat : at_ + 4 ≤ len) :
    Calls Try.prog 40 #[.pointer (some ⟨q, 0, none⟩)] W fun e W' => e = .returned (.int .i64 (le ((bs.drop at_).take 4))) ∧ Bx W' q 78 (rdc17 a len cap (at_ + 4) false) ∧ W.grownBy W' (some q) := by
  have hN := pnum17_any q a len cap at_ 4 false bs W hq R (by omega) (by decide)
  simp only [if_pos hat] at hN
  clear hq R
  go_enter Try.func40, Try.ntmps40
  go_wp2_with (go_at_call 41; refine hN.mono ?_; rintro e w1 ⟨⟨rfl, h1⟩, h2⟩)
  go_returns
  exact ⟨rfl, h1, h2⟩
/-- while the list is read -/
structure Ls17 (W0 W : World) (q g : Nat) (a : Option Addr) (len cap : Nat) (bs : List Int) (n j : Nat) : Prop where
  rd : Bx W q 78 (rdc17 a len cap (4 * j) false)
  ro : Bx W g 3 (rwc17 bs 0 n j)
  gr : W0.grownBy W (some q)
set_option maxHeartbeats 4000000 in
theorem plistI17_any (q : Nat) (a : Option Addr) (len cap n : Nat) (bs : List Int) (w : World) (hq : Bx w q 78 (rdc17 a len cap 0 false)) (R : Row w a len bs) (hab : ∀ b off, a = some ⟨b, off, none⟩ → 0 < len → b ≠ q) (hn : 4 * n ≤ len) (hl : len ≤ 100000000) :
    Calls Try.prog 39 #[.int .i64 n, .func (.func 40) #[] #[.pointer (some ⟨q, 0, none⟩)]] w fun e w' => ∃ g, e = .returned (.slice (some ⟨g, 0, none⟩) n n) ∧ Bx w' g 3 ((rdw17 bs 0 n).map (Value.int .i64)) ∧ w.heap.size ≤ g ∧ w.grownBy w' (some q) := by
  obtain ⟨i5, hi, hz0, hz1, hz2⟩ := info_parts Try.infoI17'
  have HQ : Hid _ := hq
  have hql := hq.lt
  have HRR : Hid (∀ W, w.grownBy W (some q) → Row W a len bs) := fun W k => by
    refine ⟨R.len_eq, R.le, R.byt, fun h0 => ?_⟩
    obtain ⟨b, off, e, hc⟩ := R.cells h0
    exact ⟨b, off, e, fun i hi => World.grownBy.cell k (hc i hi) (by simp; exact hab b off e h0)⟩
  clear hq R hab
  go_enter Try.func39, Try.ntmps39
  go_wp2_with (at_make; refine wpList_makeI17 _ rfl _ _ 22 rfl i5 Try.underlying22 hi hz0 hz1 hz2 .i64 .i64 (n : Int) (n : Int) n rfl rfl rfl rfl (by omega) ?_; intro w1 b1 g1 s1)
  have HL0 : Hid (Ls17 w w1 q w.heap.size a len cap bs n 0) := ⟨HQ.out.kept g1, by rw [rwc17_zero]; exact b1, ⟨g1.os, g1.tape, g1.output, g1.size, fun k hk _ => g1.block k hk (by simp)⟩⟩
  clear b1 g1 s1 HQ
  have HNE : Hid (w.heap.size ≠ q ∧ q < w.heap.size) := ⟨by omega, hql⟩
  clear hql
  generalize hgg : w.heap.size = g at *
  have HGG : Hid _ := hgg
  clear hgg
  go_loopw [6, 11] (fun _ i wr => ∃ j : Nat, i = .int .i64 j ∧ j ≤ n ∧ Hid (Ls17 w wr q g a len cap bs n j)) (fun _ i _ => n - (intOf i).toNat)
  case atStart => exact ⟨0, rfl, Nat.zero_le _, HL0⟩
  case round =>
    clear HL0
    obtain ⟨j, rfl, hj, HL⟩ := hrel
    by_cases hlt : j < n
    · have hji : (j : Int) < (n : Int) := by omega
      have hD := pdec1_any q a len cap (4 * j) bs wr HL.out.rd (HRR.out wr HL.out.gr) (by omega)
      have hwj : IntKind.i64.wrap ((j : Int) + 1) = (j : Int) + 1 := by rw [IntKind.wrap_i64]; omega
      go_wp2_with fail
      refine hD.mono ?_
      rintro e W1 ⟨rfl, r1, k1⟩
      have HB : Hid (Bx W1 g 3 (rwc17 bs 0 n j)) := ⟨by rw [k1.block g HL.out.ro.lt (by simp; exact HNE.out.1)]; exact HL.out.ro.blk⟩
      have HRD : Hid _ := r1
      have HG : Hid (w.grownBy W1 (some q)) := ⟨k1.os.trans HL.out.gr.os, k1.tape.trans HL.out.gr.tape, k1.output.trans HL.out.gr.output, Nat.le_trans HL.out.gr.size k1.size, fun k hk hne => (k1.block k (Nat.lt_of_lt_of_le hk HL.out.gr.size) hne).trans (HL.out.gr.block k hk hne)⟩
      have c0 := HB.out.c j
      rw [rwc17_at bs 0 n j hlt] at c0
      have f0 := HB.out.f j
      have HST : Hid _ := rwc17_set bs 0 n j hlt
      rw [Nat.zero_add] at HST
      generalize le ((bs.drop (4 * j)).take 4) = X at *
      clear hD r1 k1 HL
      go_wp2_with fail
      have B2 := HB.out.set j (.int .i64 X)
      rw [HST.out] at B2
      have G2 := grown_set W1 g j (.int .i64 X)
      have B3 : Bx (W1.setCell ⟨g, j, none⟩ (.int .i64 X)) q 78 (rdc17 a len cap (4 * (j + 1)) false) := ⟨by rw [G2.block q HRD.out.lt (by simp; exact fun e => HNE.out.1 e.symm)]; exact HRD.out.blk⟩
      have G3 : w.grownBy (W1.setCell ⟨g, j, none⟩ (.int .i64 X)) (some q) := ⟨G2.os.trans HG.out.os, G2.tape.trans HG.out.tape, G2.output.trans HG.out.output, Nat.le_trans HG.out.size G2.size, fun k hk hne => (G2.block k (Nat.lt_of_lt_of_le hk HG.out.size) (by simp; have := HGG.out; omega)).trans (HG.out.block k hk hne)⟩
      refine ⟨⟨j + 1, by go_num, by clear hwj; omega, B3, B2, G3⟩, ?_⟩
      clear hwj
      simp [intOf]; omega
    · obtain rfl : j = n := by omega
      have hji : ¬ (j : Int) < (j : Int) := by omega
      have hro := HL.out.ro
      rw [rwc17_full] at hro
      have HO : Hid _ := And.intro hro HL.out.gr
      clear hro HL
      go_wp2
      go_returns
      exact ⟨g, rfl, HO.out.1, by rw [HGG.out]; exact Nat.le_refl _, HO.out.2⟩
end Go.Proofs.Ytpahnkodhonlgaa
