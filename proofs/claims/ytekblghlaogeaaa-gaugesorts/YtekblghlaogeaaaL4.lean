/- The walk of GaugeMeans, out of the contracts. -/
import Derived.Test.YtekblghlaogeaaaA5
import Derived.BigRegion
namespace Go.Proofs.Ytekblghlaogeaaa
open Go.RowKit
set_option linter.unusedSimpArgs false
set_option linter.unusedVariables false

theorem of_q (b : Nat) (w : World) : Calls Try.prog 9 #[.int .u64 b] w fun e w' => e = .returned (.float .f64 b) ∧ w' = w :=
  (of_any b w).mono fun _ _ h => ⟨h.1, h.2.symm⟩
theorem like_same (b : Nat) (w : World) : Calls Try.prog 16 #[.float .f64 b, .float .f64 b] w fun e w' => e = .returned (.bool true) ∧ w' = w :=
  (like_any b b w).mono fun _ _ h => ⟨by rw [h.1, decide_eq_true rfl], h.2.symm⟩

set_option maxHeartbeats 800000 in
theorem gaugeMeans_walk (a0 : Option Addr) (len0 cap0 : Nat) (z0 : List Int) (w : World) (w0 : IsRow .u64 w a0 len0 cap0 z0) :
    Calls Try.prog 6 #[.slice a0 len0 cap0] w fun e w' => e = .returned (.bool true) ∧ Below w.heap.size w w' := by
  have R := w0.row
  generalize (z0.take len0).map Int.toNat = us at R
  have hL := live_any
  have hm : len0 ≤ 9223372036854775807 := R.le
  by_cases h : (1000 : Int) < len0
  · go_enter Try.func6, Try.ntmps6
    go_wp2_with (go_at_call 15; refine (hL _).mono ?_; rintro e w' ⟨rfl, n, rfl⟩)
    go_ret
    exact ⟨rfl, below_drewN w _⟩
  · have hlen : len0 ≤ 1000 := by omega
    have h1 := fun w R => list_any a0 len0 cap0 us w R hlen
    go_enter Try.func6, Try.ntmps6
    go_wp2_with fail
    refine (h1 w R).mono ?_
    rintro e w1 ⟨a1, cap1, rfl, hc1, hm1, R1, hg1⟩
    have h2 := mean_any a1 len0 cap1 us w1 R1 hlen hc1 hm1
    go_wp2_with fail
    refine h2.mono ?_
    rintro e w2 ⟨r1, n1, rfl, hb1, rfl⟩
    have hg2 := grown_trans hg1 (grown_drewN w1 n1)
    have R2 := R1.drewN n1
    have h3 := h1 (w1.drewN n1) (R.grown hg2)
    clear h2 hg1 R1
    generalize w1.drewN n1 = w2 at *
    go_wp2_with fail
    refine h3.mono ?_
    rintro e w3 ⟨a3, cap3, rfl, hc3, hm3, R3, hg3⟩
    have h4 := refmean_any a3 len0 cap3 us w3 R3 hlen
    go_wp2_with fail
    refine h4.mono ?_
    rintro e w4 ⟨r2, n2, rfl, hb2, rfl⟩
    have hg4 := grown_trans hg2 (grown_trans hg3 (grown_drewN w3 n2))
    have R4 := R2.grown (grown_trans hg3 (grown_drewN w3 n2))
    have R5 := R.grown hg4
    have hlk := like_any r1 r2 (w3.drewN n2)
    rw [hb1, hb2, decide_eq_true rfl] at hlk
    clear h4 hg3 R3 h3 hg2 R2 hb1 hb2 h1
    generalize w3.drewN n2 = w4 at *
    go_wp2_with (go_at_call 16; refine hlk.mono ?_; rintro e w' ⟨rfl, rfl⟩)
    clear hlk
    go_loopw [4] (fun i wr => ∃ j n : Nat, j ≤ len0 ∧ i = .int .i64 j ∧ wr = w4.drewN n) (fun i _ => len0 - (intOf i).toNat)
    case atStart => exact ⟨0, 0, Nat.zero_le _, rfl, rfl⟩
    case round =>
      obtain ⟨j, n, hj, rfl, rfl⟩ := hrel
      by_cases hlt : j < len0
      · obtain ⟨b, off, rfl, hc⟩ := (R4.drewN n).cells (by omega)
        obtain ⟨b', off', rfl, hc'⟩ := (R5.drewN n).cells (by omega)
        have c1 := hc j hlt
        have c2 := hc' j hlt
        generalize us.getD j 0 = x at c1 c2
        unfold encF at c1
        unfold encU at c2
        clear hc hc' R4 R5 R w0
        have hbel : ∀ m, Below w.heap.size w ((w4.drewN n).drewN m) := fun m => grown_below (grown_trans hg4 (grown_trans (grown_drewN w4 n) (grown_drewN _ m)))
        have hex : ∀ m, ∃ k, (w4.drewN n).drewN m = w4.drewN k := fun m => ⟨n + m, World.drewN_drewN ..⟩
        generalize w4.drewN n = w5 at *
        go_wp2_with fail
        go_quiet ((first | (go_at_call 9; exact Calls.quiet_of_same (of_q _ _)) | (go_at_call 16; exact Calls.quiet_of_same (like_same _ _))))
        go_wp2
        go_roundw
        case rel =>
          obtain ⟨k, hk⟩ := hex nq
          exact ⟨j + 1, k, by omega, by go_num, hk⟩
        case measure => simp [intOf]; omega
      · have hbel : ∀ m, Below w.heap.size w ((w4.drewN n).drewN m) := fun m => grown_below (grown_trans hg4 (grown_trans (grown_drewN w4 n) (grown_drewN _ m)))
        generalize w4.drewN n = w5 at *
        clear R4 R5 R w0
        go_wp2_with (go_at_call 15; refine (hL _).mono ?_; rintro e w' ⟨rfl, n, rfl⟩)
        go_ret
        exact ⟨rfl, hbel _⟩
end Go.Proofs.Ytekblghlaogeaaa
