/- The walks of GaugeOrders and GaugeRatios, out of the contracts. -/
import Derived.Test.YtekblghlaogeaaaA3
import Derived.Below
import Derived.OpenShut
namespace Go.Proofs.Ytekblghlaogeaaa
open Go.RowKit
set_option linter.unusedSimpArgs false
set_option linter.unusedVariables false

theorem wf_u64 {n : Int} (h : (Lit.int .u64 n).wf = true) : 0 ≤ n ∧ n < 18446744073709551616 := by
  have := bounds_u64 h; omega
theorem wf_i64 {n : Int} (h : (Lit.int .i64 n).wf = true) : -9223372036854775808 ≤ n ∧ n ≤ 9223372036854775807 := by
  have := bounds_i64 h; omega
theorem nat_of_u64 {a : Int} (h : (Lit.int .u64 a).wf = true) : ∃ n : Nat, a = n ∧ n < 18446744073709551616 := by
  obtain ⟨n, rfl⟩ := Int.eq_ofNat_of_zero_le (wf_u64 h).1
  exact ⟨n, rfl, by have := (wf_u64 h).2; omega⟩
theorem below_drewN (w : World) (n : Nat) : Below w.heap.size w (w.drewN n) := ⟨rfl, rfl, rfl, Nat.le_refl _, fun _ _ => rfl⟩

theorem gaugeOrders_walk (a0 a1 : Int) (w : World) (w0 : (Lit.int .u64 a0).wf = true) (w1 : (Lit.int .u64 a1).wf = true) :
    Calls Try.prog 3 #[.int .u64 a0, .int .u64 a1] w fun e w' => e = .returned (.bool true) ∧ Below w.heap.size w w' := by
  obtain ⟨x, rfl, hx⟩ := nat_of_u64 w0
  obtain ⟨y, rfl, hy⟩ := nat_of_u64 w1
  have hL := live_any
  have h1 := of_any x
  have h2 := of_any y
  have h3 := fun w => key_any x w hx
  have h4 := fun w => refkey_any x w hx
  have h5 := fun w => order_any x y w hx hy
  have h6 := fun w => reforder_any x y w hx hy
  have h7 := fun w => same_any x y w hx hy
  generalize key x = kx at *
  generalize ord x y = r at *
  have e7 : (decide (r = 0) == decide (r = 0)) = true := by simp
  go_enter Try.func3, Try.ntmps3
  go_wp2_with (first | (go_at_call 9; first | (with_reducible refine (h1 _).mono ?_; rintro e w' ⟨rfl, rfl⟩) | (with_reducible refine (h2 _).mono ?_; rintro e w' ⟨rfl, rfl⟩)) | (go_at_call 10; refine (h3 _).mono ?_; rintro e w' ⟨rfl, rfl⟩) | (go_at_call 11; refine (h4 _).mono ?_; rintro e w' ⟨rfl, rfl⟩) | (go_at_call 12; refine (h5 _).mono ?_; rintro e w' ⟨rfl, rfl⟩) | (go_at_call 13; refine (h6 _).mono ?_; rintro e w' ⟨rfl, rfl⟩) | (go_at_call 14; refine (h7 _).mono ?_; rintro e w' ⟨rfl, rfl⟩) | (go_at_call 15; refine (hL _).mono ?_; rintro e w' ⟨rfl, n1, rfl⟩))
  go_ret
  exact ⟨rfl, below_drewN w _⟩

theorem gaugeRatios_walk (a0 a1 a2 : Int) (w : World) (w0 : (Lit.int .i64 a0).wf = true) (w1 : (Lit.int .i64 a1).wf = true) (w2 : (Lit.int .u64 a2).wf = true) :
    Calls Try.prog 4 #[.int .i64 a0, .int .i64 a1, .int .u64 a2] w fun e w' => e = .returned (.bool true) ∧ Below w.heap.size w w' := by
  obtain ⟨z, rfl, hz⟩ := nat_of_u64 w2
  have hL := live_any
  have h1 := of_any z
  have h2 := ratio_any a0 a1
  have h3 := worth_any a0 a1 z
  have h4 := refworth_any a0 a1 z
  have hq : ∀ w, ∃ r n, (binOp .quo 23 (.float .f64 (floatOfInt .f64 a0)) (.float .f64 (floatOfInt .f64 a1))).run Try.prog w = .ok (.float .f64 r) (w.drewN n) ∧ bits64 r = fop .quo (foi a0) (foi a1) ∧ r < 18446744073709551616 := fun w => run_fop (P := Try.prog) .quo (by simp) 23 (foi a0) (foi a1) w
  have hl : ∀ r w, bits64 r = fop .quo (foi a0) (foi a1) → Calls Try.prog 16 #[.float .f64 (fop .quo (foi a0) (foi a1)), .float .f64 r] w fun e w' => e = .returned (.bool true) ∧ w = w' := by
    intro r w h
    have := like_any (fop .quo (foi a0) (foi a1)) r w
    rw [fop_canon, h, decide_eq_true rfl] at this
    exact this
  generalize fop .quo (foi a0) (foi a1) = q at *
  generalize wrth a0 a1 z = bw at *
  have eb : (bw == bw) = true := by simp
  go_enter Try.func4, Try.ntmps4
  go_wp2_with (first | (go_at_call 17; refine (h2 _).mono ?_; rintro e w' ⟨rfl, n1, rfl⟩; obtain ⟨r, n2, hr, hb, _⟩ := hq (w.drewN n1); simp only [World.drewN_drewN] at hr) | (go_at_call 16; refine (hl _ _ (by assumption)).mono ?_; rintro e w' ⟨rfl, rfl⟩) | (go_at_call 9; refine (h1 _).mono ?_; rintro e w' ⟨rfl, rfl⟩) | (go_at_call 18; refine (h3 _).mono ?_; rintro e w' ⟨rfl, n3, rfl⟩) | (go_at_call 19; refine (h4 _).mono ?_; rintro e w' ⟨rfl, n4, rfl⟩) | (go_at_call 15; refine (hL _).mono ?_; rintro e w' ⟨rfl, n5, rfl⟩))
  go_ret
  exact ⟨rfl, below_drewN w _⟩
end Go.Proofs.Ytekblghlaogeaaa
