/- The walk of SumDigests, out of the contracts. -/
import Derived.Test.YtmnejeallnffgaaA4
namespace Go.Proofs.Ytmnejeallnffgaa
open Go.RowKit
theorem wf_u32 {n : Int} (h : (Lit.int .u32 n).wf = true) : 0 ≤ n ∧ n < 4294967296 := by
  have := bounds_u32 h; omega

set_option maxHeartbeats 400000 in
theorem sumDigests_walk (a0 : Int) (a1 : Option Addr) (len1 cap1 : Nat) (z1 : List Int) (w : World) (w0 : (Lit.int .u64 a0).wf = true) (w1 : IsRow .u8 w a1 len1 cap1 z1) :
    Calls Try.prog 6 #[.int .u64 a0, .slice a1 len1 cap1] w fun e w' => e = .returned (.bool true) ∧ Below w.heap.size w w' := by
  have R := w1.row
  obtain ⟨d, rfl⟩ := Int.eq_ofNat_of_zero_le (wf_u64 w0).1
  have hd : d < 18446744073709551616 := by have := (wf_u64 w0).2; omega
  have hL := live_any w
  have hm : len1 ≤ 9223372036854775807 := R.le
  by_cases h : (5000 : Int) < len1
  · go_enter Try.func6, Try.ntmps6
    go_wp2_with (go_at_call 12; refine hL.mono ?_; rintro e w' ⟨rfl, hb⟩)
    go_ret
    exact ⟨rfl, grown_below (by assumption)⟩
  · have h1 := on_any d a1 len1 cap1 _ w R hd
    have h2 := refon_any d a1 len1 cap1 _ w R hd
    have h3 := digest_any a1 len1 cap1 _ w R
    have h4 := refdigest_any a1 len1 cap1 _ w R
    go_enter Try.func6, Try.ntmps6
    go_wp2_with (first | (go_at_call 17; refine h1.mono ?_; rintro e w' ⟨rfl, rfl⟩) | (go_at_call 18; refine h2.mono ?_; rintro e w' ⟨rfl, rfl⟩) | (go_at_call 19; refine h3.mono ?_; rintro e w' ⟨rfl, rfl⟩) | (go_at_call 20; refine h4.mono ?_; rintro e w' ⟨rfl, rfl⟩) | (go_at_call 12; refine hL.mono ?_; rintro e w' ⟨rfl, hb⟩))
    go_ret
    exact ⟨rfl, grown_below (by assumption)⟩
end Go.Proofs.Ytmnejeallnffgaa
