/- The walks of GaugeClamps and GaugeTotal, out of the contracts. -/
import Derived.Test.YtekblghlaogeaaaL1
namespace Go.Proofs.Ytekblghlaogeaaa
open Go.RowKit
set_option linter.unusedSimpArgs false
set_option linter.unusedVariables false

theorem gaugeClamps_walk (a0 a1 a2 a3 : Int) (w : World) (w0 : (Lit.int .u64 a0).wf = true) (w1 : (Lit.int .u64 a1).wf = true) (w2 : (Lit.int .u64 a2).wf = true) (w3 : (Lit.int .i64 a3).wf = true) :
    Calls Try.prog 5 #[.int .u64 a0, .int .u64 a1, .int .u64 a2, .int .i64 a3] w fun e w' => e = .returned (.bool true) ∧ Below w.heap.size w w' := by
  obtain ⟨x, rfl, hx⟩ := nat_of_u64 w0
  obtain ⟨y, rfl, hy⟩ := nat_of_u64 w1
  obtain ⟨z, rfl, hz⟩ := nat_of_u64 w2
  have hn := wf_i64 w3
  have hL := live_any
  have hof := of_any
  have h1 := fun w => clamp_any x y z w hx hy hz
  have h2 := fun w => refclamp_any x y z w hx hy hz
  have h3 := smooth_any x y z
  have h4 := refsmooth_any x y z
  have h5 := fun w => steps_any x a3 w hx hn
  have h6 := fun w => refsteps_any x a3 w hx hn
  have hl : ∀ r s w, bits64 r = bits64 s → Calls Try.prog 16 #[.float .f64 r, .float .f64 s] w fun e w' => e = .returned (.bool true) ∧ w = w' := by
    intro r s w h
    have := like_any r s w
    rw [h, decide_eq_true rfl] at this
    exact this
  generalize clp x y z = c at *
  generalize smo x y z = m at *
  generalize stps x a3 = t at *
  have hl1 := fun w => hl c c w rfl
  go_enter Try.func5, Try.ntmps5
  go_wp2_with (first | (go_at_call 9; refine (hof _ _).mono ?_; rintro e w' ⟨rfl, rfl⟩) | (go_at_call 20; refine (h1 _).mono ?_; rintro e w' ⟨rfl, rfl⟩) | (go_at_call 21; refine (h2 _).mono ?_; rintro e w' ⟨rfl, rfl⟩) | (go_at_call 22; refine (h3 _).mono ?_; rintro e w' ⟨s1, n1, rfl, b1, rfl⟩) | (go_at_call 23; refine (h4 _).mono ?_; rintro e w' ⟨s2, n2, rfl, b2, rfl⟩; have hl2 := fun w => hl _ _ w (b1.trans b2.symm)) | (go_at_call 16; first | (with_reducible refine (hl1 _).mono ?_; rintro e w' ⟨rfl, rfl⟩) | (with_reducible refine (hl2 _).mono ?_; rintro e w' ⟨rfl, rfl⟩)) | (go_at_call 24; refine (h5 _).mono ?_; rintro e w' ⟨rfl, rfl⟩) | (go_at_call 25; refine (h6 _).mono ?_; rintro e w' ⟨rfl, rfl⟩) | (go_at_call 15; refine (hL _).mono ?_; rintro e w' ⟨rfl, n5, rfl⟩))
  go_ret
  exact ⟨rfl, below_drewN w _⟩

theorem ord_neg (x y : Nat) : ord y x = - ord x y := by
  unfold ord
  rcases Nat.lt_trichotomy (key x) (key y) with h | h | h
  · rw [if_neg (by omega), if_pos h, if_pos h]; rfl
  · rw [if_neg (by omega), if_neg (by omega), if_neg (by omega), if_neg (by omega)]; rfl
  · rw [if_pos h, if_neg (by omega), if_pos h]
theorem ord_self (x : Nat) : ord x x = 0 := by unfold ord; rw [if_neg (by omega), if_neg (by omega)]
theorem ord_trans {x y z : Nat} (h1 : ord x y = -1) (h2 : ord y z = -1) : ord x z = -1 := by
  unfold ord at *
  split at h1
  · split at h2
    · rw [if_pos (by omega)]
    · split at h2 <;> omega
  · split at h1 <;> omega
theorem ord_nan {x y : Nat} (hx : x < 18446744073709551616) (hy : y < 18446744073709551616) (h : nan64 x = true ∨ nan64 y = true) : (ord x y = 0) ↔ (nan64 x = true ∧ nan64 y = true) := by
  have e : ord x y = 0 ↔ key x = key y := by
    unfold ord
    split
    · simp; omega
    · split
      · simp; omega
      · simp; omega
  rw [e]
  cases k1 : nan64 x <;> cases k2 : nan64 y
  · simp [k1, k2] at h
  · have := key_num_lt hx k1; have := key_nan k2; simp; omega
  · have := key_num_lt hy k2; have := key_nan k1; simp; omega
  · rw [key_nan k1, key_nan k2]; simp
theorem ord_fits {x y : Nat} (hx : x < 18446744073709551616) (hy : y < 18446744073709551616) (nx : nan64 x = false) (ny : nan64 y = false) (hz : ¬ (sr x = 0 ∧ sr y = 0)) :
    (FloatKind.f64.format.order x y == some Ordering.lt) = decide (ord x y < 0) ∧ (FloatKind.f64.format.order x y == some Ordering.gt) = decide (0 < ord x y) := by
  rw [f64order, key_cmp hx hy nx ny hz]
  show (some (compareOfLessAndEq (key x : Int) (key y : Int)) == some Ordering.lt) = _ ∧ (some (compareOfLessAndEq (key x : Int) (key y : Int)) == some Ordering.gt) = _
  unfold compareOfLessAndEq ord
  rcases Nat.lt_trichotomy (key x) (key y) with h | h | h
  · rw [if_pos (by omega), if_pos h]; simp
  · rw [if_neg (by omega), if_pos (by omega), if_neg (by omega), if_neg (by omega)]; simp
  · rw [if_neg (by omega), if_neg (by omega), if_neg (by omega), if_pos h]; simp
end Go.Proofs.Ytekblghlaogeaaa
