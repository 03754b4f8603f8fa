/- The walk of FieldGets, out of the contracts. -/
import Derived.Test.YthnehebkkfegdaaA2
namespace Go.Proofs.Ythnehebkkfegdaa
open Go.RowKit

set_option maxHeartbeats 400000 in
theorem fieldGets_walk (a0 : Option Addr) (len0 cap0 : Nat) (z0 : List Int) (a1 : Int) (a2 : Int) (w : World) (w0 : IsRow .u8 w a0 len0 cap0 z0) (w1 : (Lit.int .i64 a1).wf = true) (w2 : (Lit.int .i64 a2).wf = true) :
    Calls Try.prog 3 #[.slice a0 len0 cap0, .int .i64 a1, .int .i64 a2] w fun e w' => e = .returned (.bool true) ∧ Below w.heap.size w w' := by
  have R := w0.row
  have hm : len0 ≤ 9223372036854775807 := R.le
  have g1 := get_any a0 len0 cap0 _ a1 a2 w R (wf_i64 w1).2 (wf_i64 w2).2
  have g2 := refget_any a0 len0 cap0 _ a1 a2 w R (wf_i64 w1).2 (wf_i64 w2).2
  by_cases h : (70000 : Int) < len0
  · go_enter Try.func3, Try.ntmps3
    go_wp2_with (go_at_call 9; refine (live_any _).mono ?_; rintro e w' ⟨rfl, hb⟩)
    go_ret
    exact ⟨rfl, by assumption⟩
  · go_enter Try.func3, Try.ntmps3
    go_wp2_with (first | (go_at_call 10; refine g1.mono ?_; rintro e w' ⟨rfl, rfl⟩) | (go_at_call 11; refine g2.mono ?_; rintro e w' ⟨rfl, rfl⟩) | (go_at_call 12; refine (num_any _ _).mono ?_; rintro e w' ⟨rfl, rfl⟩) | (go_at_call 9; refine (live_any _).mono ?_; rintro e w' ⟨rfl, hb⟩))
    go_ret
    exact ⟨rfl, by assumption⟩
end Go.Proofs.Ythnehebkkfegdaa
