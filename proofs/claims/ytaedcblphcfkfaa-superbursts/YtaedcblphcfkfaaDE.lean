/- Plain facts: what is encoded is decoded as it was. -/
import Derived.Test.YtaedcblphcfkfaaDD
namespace Go.Proofs.Ytaedcblphcfkfaa
open Go.RowKit
set_option linter.unusedSimpArgs false
set_option linter.unusedVariables false

theorem le_sto8 (n : Int) (k : Nat) (h0 : 0 ≤ n) (h : n < 256 ^ k) : le (sto n k) = n := by
  induction k generalizing n with
  | zero => simp [sto, le] at *; omega
  | succ k ih =>
    have hp : (256 : Int) ^ (k + 1) = 256 ^ k * 256 := Int.pow_succ ..
    rw [sto, le, ih (n / 256) (by omega) (by rw [hp] at h; exact Int.ediv_lt_of_lt_mul (by decide) h)]
    omega
theorem rby_drop (r : Rc) (more : List Int) : ((rby r ++ more).drop 4).take 8 = sto r.q 8 ∧ (rby r ++ more).getD 12 0 = r.s ∧ ((rby r ++ more).drop 16).take 4 = sto r.l 4 ∧ ((rby r ++ more).drop 20).take 8 = sto r.u 8 ∧ (rby r ++ more).take 32 = rby r := by
  have l1 := sto_len r.q 8
  have l2 := sto_len r.l 4
  have l3 := sto_len r.u 8
  have l4 := rby_len r
  have l5 := sto_len (crc ent 0 (rb0 r) : Nat) 4
  unfold rby rb0 at *
  generalize sto r.q 8 = A at *
  generalize sto r.l 4 = B at *
  generalize sto r.u 8 = C at *
  generalize sto _ 4 = D at *
  refine ⟨?_, ?_, ?_, ?_, ?_⟩
  · simp [List.drop_append, List.take_append, l1]
  · simp [List.getElem?_append, l1]
  · simp [List.drop_append, List.take_append, l1, l2]
  · simp [List.drop_append, List.take_append, l1, l2, l3]
  · rw [List.take_append_of_le_length (by omega), List.take_of_length_le (by omega)]
theorem rde_rby {r : Rc} (more : List Int) (hr : rrt r = true) (hq : 0 ≤ r.q) (hu : inU r.u) : rde (rby r ++ more) = (r, 0) := by
  obtain ⟨d1, d2, d3, d4, d5⟩ := rby_drop r more
  have hk := rrt_iff.1 hr
  have e : rrd (rby r ++ more) = r := by
    unfold rrd
    rw [d1, d2, d3, d4, le_sto8 _ _ hq (by omega), le_sto8 _ _ (by omega) (by omega), le_sto8 _ _ hu.1 (by have := hu.2; omega)]
  unfold rde
  rw [if_neg (by have := rby_len r; simp; omega), e, if_pos ⟨hr, d5.symm⟩]
theorem rde_rby0 {r : Rc} (hr : rrt r = true) (hq : 0 ≤ r.q) (hu : inU r.u) : rde (rby r) = (r, 0) := by
  have := rde_rby [] hr hq hu
  rwa [List.append_nil] at this
theorem rch_two {r t : Rc} (hr : rrt r = true) (ht : rrt t = true) (hq : 0 ≤ r.q) (hq2 : 0 ≤ t.q) (hu : inU r.u) (hu2 : inU t.u) : rch (rby r) (rby t) = if r.q < t.q then (1, t, 0) else (0, r, 0) := by
  unfold rch
  rw [rde_rby0 hr hq hu, rde_rby0 ht hq2 hu2]
  simp
end Go.Proofs.Ytaedcblphcfkfaa
