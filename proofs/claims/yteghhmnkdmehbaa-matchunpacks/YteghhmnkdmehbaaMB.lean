/- The program's slot and alike. -/
import Derived.Test.YteghhmnkdmehbaaMA
import Derived.BigRegion
import Derived.BigQuiet
namespace Go.Proofs.Yteghhmnkdmehbaa
open Go.RowKit
set_option linter.unusedSimpArgs false
set_option linter.unusedVariables false

/-- a guard: the next operation is a piece from a place on -/
theorem low_here {P : Program} {w : World} {ops : Array Oper} {rest : List Oper} {a : Act} {Q : Exit → Act → World → Prop} {dst : Option Nat} {t : TypeId} {x l : Operand} {type : TypeId} {pos : String} {after : Array Edge} {guard : Option (Nat × Bool)}
    (k : wpList P ops Q (⟨dst, .slice t x (some l) none none, type, pos, after, guard⟩ :: rest) a w) : wpList P ops Q (⟨dst, .slice t x (some l) none none, type, pos, after, guard⟩ :: rest) a w := k
theorem wpList_low8 {P : Program} {w : World} {ops : Array Oper} {rest : List Oper} {o : Oper} {a : Act} {Q : Exit → Act → World → Prop} (hg : o.guard = none) (x l : Operand) (t : TypeId)
    (ho : o.op = .slice t x (some l) none none) (ht : P.underlying t = some (.slice 5)) (i : TypeInfo) (hi : P.info? 5 = some i) (hsz : i.size = 1)
    (b off len cap k : Nat) (K : Int) (hx : a.eval x = .slice (some ⟨b, off, none⟩) len cap) (hl : a.eval l = .int .i64 K) (hK : K = (k : Int)) (h1 : k ≤ len) (h2 : len ≤ cap)
    (hk : ∀ o', (k < len → o' = off + k) → wpList P ops Q rest (a.put o.dst (.slice (some ⟨b, o', none⟩) (len - k) (cap - k))) w) : wpList P ops Q (o :: rest) a w := by
  refine wpList_plain hg fun K' hK' => ?_
  have he : P.elem t = 5 := by simp [Program.elem, ht]
  have ht' : P.underlying t = some (.slice (P.elem t)) := by rw [he]; exact ht
  have hs : (sizeOf 5).run P w = .ok 1 w := by rw [run_sizeOf w hi]; simp [Program.cellsOf, hi, hsz]
  subst hK
  have hr := run_slice_l (P := P) (w := w) (a := some ⟨b, off, none⟩) (len := len) (cap := cap) (t := t) ht' .i64 (k : Int) (by omega) (by omega)
  rw [he, hs] at hr
  simp only [Result.andThen, Int.toNat_natCast] at hr
  have hv : ∃ o', sliced (some ⟨b, off, none⟩) k len cap 1 = .slice (some ⟨b, o', none⟩) (len - k) (cap - k) ∧ (k < len → o' = off + k) := by
    unfold sliced
    by_cases c : cap = k
    · rw [if_pos c]; exact ⟨off, rfl, fun h => by omega⟩
    · rw [if_neg c]
      have hadd : (⟨b, off, none⟩ : Addr).add (k * 1) = ⟨b, off + k, none⟩ := by unfold Addr.add; split <;> simp_all
      exact ⟨off + k, by simp only [Option.map_some, hadd], fun _ => rfl⟩
  obtain ⟨o', hv, h3⟩ := hv
  rw [hv] at hr
  unfold Oper.wp
  simp [execOp, ho, hx, hl, hr, Result.andThen, run_sliceAt_slice (P := P) (w := w) t _ _ _ _ ht']
  exact hK' _ _ (hk _ h3)

set_option maxHeartbeats 1000000 in
theorem slot_any (b off len cap : Nat) (xs : List Int) (w : World) (R : Row w (some ⟨b, off, none⟩) len xs) (hl : 4 ≤ len) :
    Calls Try.prog 37 #[.slice (some ⟨b, off, none⟩) len cap] w fun e w' => e = .returned (.int .u32 (hsh (xs.getD 0 0) (xs.getD 1 0) (xs.getD 2 0) (xs.getD 3 0))) ∧ ∃ m, w' = w.drewN m := by
  obtain ⟨b', off', e, hc⟩ := R.cells (by omega)
  injection e with e
  injection e with e1 e2
  subst e1 e2
  have c0 := hc 0 (by omega)
  have c1 := hc 1 (by omega)
  have c2 := hc 2 (by omega)
  have c3 := hc 3 (by omega)
  have h0 := R.byt.getD 0
  have h1 := R.byt.getD 1
  have h2 := R.byt.getD 2
  have h3 := R.byt.getD 3
  have hm := R.le
  unfold maxLen at hm
  generalize xs.getD 0 0 = x0 at *
  generalize xs.getD 1 0 = x1 at *
  generalize xs.getD 2 0 = x2 at *
  generalize xs.getD 3 0 = x3 at *
  rw [Nat.add_zero] at c0
  clear hc R
  go_enter Try.func37, Try.ntmps37
  go_wp2
  go_quiet (fail)
  go_wp2
  go_ret
  exact ⟨rfl, nq, rfl⟩

set_option maxHeartbeats 1000000 in
theorem alike_any (b off len cap b2 off2 len2 cap2 : Nat) (xs ys : List Int) (w : World) (R : Row w (some ⟨b, off, none⟩) len xs) (R2 : Row w (some ⟨b2, off2, none⟩) len2 ys) (hl : 0 < len) (hll : len ≤ len2) :
    Calls Try.prog 38 #[.slice (some ⟨b, off, none⟩) len cap, .slice (some ⟨b2, off2, none⟩) len2 cap2] w fun e w' => e = .returned (.int .i64 (alk xs ys)) ∧ w = w' := by
  obtain ⟨b', off', e, hc⟩ := R.cells (by omega)
  injection e with e
  injection e with e1 e2
  subst e1 e2
  obtain ⟨b', off', e, hc2⟩ := R2.cells (by omega)
  injection e with e
  injection e with e1 e2
  subst e1 e2
  have hx := R.len_eq
  have hy := R2.len_eq
  have hm := R.le
  have hm2 := R2.le
  unfold maxLen at hm hm2
  have HX : Hid _ := And.intro hx hy
  have HC : Hid _ := And.intro hc hc2
  have HB : Hid _ := And.intro R.byt R2.byt
  clear R R2 hx hy hc hc2
  go_enter Try.func38, Try.ntmps38
  go_wp2
  go_loopw [5, 6, 9] (fun _ _ vi wr => w = wr ∧ ∃ (j : Nat), vi = .int .i64 j ∧ j ≤ len ∧ Hid (∀ i, i < j → xs.getD i 0 = ys.getD i 0)) (fun _ _ vi _ => len - (intOf vi).toNat)
  case atStart => exact ⟨rfl, 0, rfl, Nat.zero_le _, fun i hi => by omega⟩
  case round =>
    obtain ⟨rfl, j, rfl, hj, HE⟩ := hrel
    by_cases k1 : j < len
    · have c1 := HC.out.1 j k1
      have c2 := HC.out.2 j (by omega)
      have h1 := HB.out.1.getD j
      have h2 := HB.out.2.getD j
      by_cases k2 : xs.getD j 0 = ys.getD j 0
      · have HE2 : Hid (∀ i, i < j + 1 → xs.getD i 0 = ys.getD i 0) := by
          intro i hi
          by_cases e : i = j
          · subst e; exact k2
          · exact HE.out i (by omega)
        rw [← k2] at c2
        generalize xs.getD j 0 = x at c1 c2 h1
        clear k2 h2 HE
        go_wp2
        go_roundw
        case rel => exact ⟨by trivial, j + 1, by go_num, by omega, HE2⟩
        case measure => simp [intOf]; omega
      · have ha := alk_at HE.out (by rw [HX.out.1]; exact k1) (by rw [HX.out.2]; omega) k2
        have HA : Hid _ := ha
        clear ha
        have k3 : ys.getD j 0 ≠ xs.getD j 0 := fun e => k2 e.symm
        generalize xs.getD j 0 = x at *
        generalize ys.getD j 0 = y at *
        go_wp2
        go_ret
        rw [HA.out]
        exact ⟨rfl, rfl⟩
    · obtain rfl : j = len := by omega
      have ha := alk_all (xs := xs) (ys := ys) (fun i hi => HE.out i (by rw [← HX.out.1]; exact hi)) (by rw [HX.out.1, HX.out.2]; exact hll)
      have HA : Hid (alk xs ys = j) := by show alk xs ys = j; rw [ha]; exact HX.out.1
      clear ha
      go_wp2
      go_ret
      rw [HA.out]
      exact ⟨rfl, rfl⟩
end Go.Proofs.Yteghhmnkdmehbaa
