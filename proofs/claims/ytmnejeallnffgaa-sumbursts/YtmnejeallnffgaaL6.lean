/- The walk of SumBursts, out of the contracts. -/
import Derived.Test.YtmnejeallnffgaaA7
import Derived.Test.YtmnejeallnffgaaL2
import Derived.Test.YtmnejeallnffgaaB1
namespace Go.Proofs.Ytmnejeallnffgaa
open Go.RowKit
set_option linter.unusedVariables false

theorem bursts_b1 (a0 : Option Addr) (len0 cap0 : Nat) (at_ t : Int) (w : World) (h0 : len0 ≤ 9223372036854775807) (h : (5000 : Int) < len0) :
    Calls Try.prog 8 #[.slice a0 len0 cap0, .int .i64 at_, .int .u32 t] w fun e w' => e = .returned (.bool true) ∧ Below w.heap.size w w' := by
  have hL := fun w => live_any w
  go_enter Try.func8, Try.ntmps8
  go_wp2_with (go_at_call 12; refine (hL _).mono ?_; rintro e w' ⟨rfl, hb⟩)
  go_ret
  exact ⟨rfl, grown_below (by assumption)⟩
theorem bursts_b2 (a0 : Option Addr) (len0 cap0 : Nat) (at_ t : Int) (w : World) (h0 : ¬ (5000 : Int) < len0) (h : at_ < 0) :
    Calls Try.prog 8 #[.slice a0 len0 cap0, .int .i64 at_, .int .u32 t] w fun e w' => e = .returned (.bool true) ∧ Below w.heap.size w w' := by
  have hL := fun w => live_any w
  go_enter Try.func8, Try.ntmps8
  go_wp2_with (go_at_call 12; refine (hL _).mono ?_; rintro e w' ⟨rfl, hb⟩)
  go_ret
  exact ⟨rfl, grown_below (by assumption)⟩
theorem bursts_b3 (a0 : Option Addr) (len0 cap0 : Nat) (A : Nat) (t : Int) (w : World) (h0 : ¬ (5000 : Int) < len0) (hA : A ≤ 9223372036854775807) (h : len0 ≤ A / 8) :
    Calls Try.prog 8 #[.slice a0 len0 cap0, .int .i64 A, .int .u32 t] w fun e w' => e = .returned (.bool true) ∧ Below w.heap.size w w' := by
  have hL := fun w => live_any w
  have hc : (len0 : Int) ≤ (A : Int) / 8 := by omega
  have hp : (0 : Int) ≤ A := by omega
  go_enter Try.func8, Try.ntmps8
  go_wp2_with (go_at_call 12; refine (hL _).mono ?_; rintro e w' ⟨rfl, hb⟩)
  go_ret
  exact ⟨rfl, grown_below (by assumption)⟩
theorem bursts_b4 (a0 : Option Addr) (len0 cap0 : Nat) (A : Nat) (w : World) (h0 : ¬ (5000 : Int) < len0) (hA : A ≤ 9223372036854775807) (h : A / 8 < len0) :
    Calls Try.prog 8 #[.slice a0 len0 cap0, .int .i64 A, .int .u32 0] w fun e w' => e = .returned (.bool true) ∧ Below w.heap.size w w' := by
  have hL := fun w => live_any w
  have hc : ¬ (len0 : Int) ≤ (A : Int) / 8 := by omega
  have hp : (0 : Int) ≤ A := by omega
  go_enter Try.func8, Try.ntmps8
  go_wp2_with (go_at_call 12; refine (hL _).mono ?_; rintro e w' ⟨rfl, hb⟩)
  go_ret
  exact ⟨rfl, grown_below (by assumption)⟩
end Go.Proofs.Ytmnejeallnffgaa
