/- Contracts of the reading functions: each returns just what the plain function of the same shape reckons, and memory stands. -/
import Derived.Test.YtpahnkodhonlgaaProg
import Derived.Test.YtpahnkodhonlgaaRP
import Derived.WalkLawsBesides
import Derived.Deep.QuietTactic
import Derived.BigQuiet
namespace Go.Proofs.Ytpahnkodhonlgaa
open Go.RowKit
set_option maxRecDepth 100000
set_option linter.unusedSimpArgs false
set_option linter.unusedVariables false

theorem largest_any (n : Int) (w : World) : Calls Try.prog 67 #[.int .i64 n] w fun e w' => e = .returned (.int .u64 (lg n)) ∧ w = w' := by
  by_cases h1 : n = 1
  · subst h1
    go_enter Try.func67, Try.ntmps67
    go_wp2
    go_ret
    exact ⟨rfl, rfl⟩
  by_cases h2 : n = 2
  · subst h2
    go_enter Try.func67, Try.ntmps67
    go_wp2
    go_ret
    exact ⟨rfl, rfl⟩
  by_cases h4 : n = 4
  · subst h4
    go_enter Try.func67, Try.ntmps67
    go_wp2
    go_ret
    exact ⟨rfl, rfl⟩
  by_cases h8 : n = 8
  · subst h8
    go_enter Try.func67, Try.ntmps67
    go_wp2
    go_ret
    exact ⟨rfl, rfl⟩
  have g1 : (n == 1) = false := by simpa using h1
  have g2 : (n == 2) = false := by simpa using h2
  have g4 : (n == 4) = false := by simpa using h4
  have g8 : (n == 8) = false := by simpa using h8
  go_enter Try.func67, Try.ntmps67
  go_wp2
  go_ret
  exact ⟨by simp [lg, h1, h2, h4, h8], rfl⟩

theorem holds_any (a : Option Addr) (len cap : Nat) (at_ n : Int) (w : World) (hl : len ≤ maxLen) (hn : 0 ≤ n) (hn' : n ≤ 9223372036854775807) (ha : at_ ≤ 9223372036854775807) : Calls Try.prog 68 #[.slice a len cap, .int .i64 at_, .int .i64 n] w fun e w' => e = .returned (.bool (inB len at_ n)) ∧ w = w' := by
  unfold maxLen at hl
  by_cases h1 : 0 ≤ at_
  · go_enter Try.func68, Try.ntmps68
    go_wp2
    go_ret
    refine ⟨?_, rfl⟩
    have : decide (n ≤ ↑len - at_) = inB len at_ n := by
      rw [Bool.eq_iff_iff]; simp [inB]; omega
    rw [this]; rfl
  · have hd : decide (0 ≤ at_) = false := by simpa using h1
    go_enter Try.func68, Try.ntmps68
    go_wp2
    go_ret
    exact ⟨by simp [inB, hd], rfl⟩

set_option maxHeartbeats 400000 in
theorem get_in (b off len cap : Nat) (bs : List Int) (k n : Nat) (w : World) (hl : len ≤ maxLen) (hlen : bs.length = len) (hb : Byt bs) (hW : isW n = true) (hin : k + n ≤ len)
    (hc : ∀ i, i < len → w.cell? ⟨b, off + i, none⟩ = some (.int .u8 (bs.getD i 0))) :
    Calls Try.prog 60 #[.slice (some ⟨b, off, none⟩) len cap, .int .i64 k, .int .i64 n] w fun e w' => e = .returned (.tuple #[.int .u64 (le ((bs.drop k).take n)), .int .i64 0]) ∧ w = w' := by
  have hH := holds_any (some ⟨b, off, none⟩) len cap k n w hl (by omega) (by unfold maxLen at hl; omega) (by unfold maxLen at hl; omega)
  unfold maxLen at hl
  have hz := lg_ne hW
  have hi : inB len k n = true := by simp [inB]; omega
  have n8 : n ≤ 8 := by have := isW_pos hW; omega
  go_enter Try.func60, Try.ntmps60
  go_wp2_with (first | (go_at_call 67; refine (largest_any _ _).mono ?_; rintro e w' ⟨rfl, rfl⟩) | (go_at_call 68; refine hH.mono ?_; rintro e w' ⟨rfl, rfl⟩))
  go_loop [8, 9, 19] (fun v _ i => ∃ j : Nat, j ≤ n ∧ i = .int .i64 j ∧ v = .int .u64 (le ((bs.drop k).take j))) (fun _ _ i => n - (intOf i).toNat)
  case atStart => exact ⟨0, Nat.zero_le _, rfl, by simp [le]⟩
  case round =>
    obtain ⟨j, hj, rfl, rfl⟩ := hrel
    by_cases hlt : j < n
    · have hcell := hc (k + j) (by omega)
      have hr := hb.getD (k + j)
      go_wp2
      go_round
      case rel => exact ⟨j + 1, by omega, by go_num, by rw [le_step hb k j (by omega) (by omega)]⟩
      case measure => simp [intOf]; omega
    · go_wp2
      go_ret2
      have : j = n := by omega
      subst this
      exact ⟨rfl, rfl⟩

/-- Get, of whatever comes in -/
theorem get_any (a : Option Addr) (len cap : Nat) (bs : List Int) (at_ n : Int) (w : World) (R : Row w a len bs) (h1 : at_ ≤ 9223372036854775807) (h2 : n ≤ 9223372036854775807) :
    Calls Try.prog 60 #[.slice a len cap, .int .i64 at_, .int .i64 n] w fun e w' => e = .returned (.tuple #[.int .u64 (getV bs at_ n), .int .i64 (getE len at_ n)]) ∧ w = w' := by
  by_cases hW : isW n = true
  · have hn := isW_pos hW
    by_cases hi : inB len at_ n = true
    · have hi' := hi
      simp only [inB, decide_eq_true_eq] at hi'
      obtain ⟨k, rfl⟩ := Int.eq_ofNat_of_zero_le hi'.1
      obtain ⟨m, rfl⟩ := Int.eq_ofNat_of_zero_le hi'.2.1
      obtain ⟨b, off, rfl, hc⟩ := R.cells (by omega)
      have := get_in b off len cap bs k m w R.le R.len_eq R.byt hW (by omega) hc
      rw [getV_in hW (by rw [R.len_eq]; omega), getE_in hW (by omega)]
      exact this
    · have hi' : inB len at_ n = false := by simpa using hi
      have hz := lg_ne hW
      have hH := holds_any a len cap at_ n w R.le (by omega) (by omega) h1
      rw [getV_out (by rw [R.len_eq]; exact hi'), getE_out hW hi']
      go_enter Try.func60, Try.ntmps60
      go_wp2_with (first | (go_at_call 67; refine (largest_any _ _).mono ?_; rintro e w' ⟨rfl, rfl⟩) | (go_at_call 68; refine hH.mono ?_; rintro e w' ⟨rfl, rfl⟩))
      go_ret2
      exact ⟨rfl, rfl⟩
  · have hW' : isW n = false := by simpa using hW
    have hz : lg n = 0 := lg_eq hW'
    rw [getV_no hW', getE_no hW']
    go_enter Try.func60, Try.ntmps60
    go_wp2_with (first | (go_at_call 67; refine (largest_any _ _).mono ?_; rintro e w' ⟨rfl, rfl⟩))
    go_ret2
    exact ⟨rfl, rfl⟩

end Go.Proofs.Ytpahnkodhonlgaa
