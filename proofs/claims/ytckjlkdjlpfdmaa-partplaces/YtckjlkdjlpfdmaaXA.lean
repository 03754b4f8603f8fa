/- What the program's Make calls: flash's Check, how many sectors each slot has, how many bytes a sector. -/
import Derived.Test.YtckjlkdjlpfdmaaVD
import Derived.Deep.DrawnRows
namespace Go.Proofs.Ytckjlkdjlpfdmaa
open Go.RowKit
set_option linter.unusedSimpArgs false
set_option linter.unusedVariables false

theorem within_any (n lo hi : Int) (w : World) : Calls Try.prog 24 #[.int .i64 n, .int .i64 lo, .int .i64 hi] w fun e w' => e = .returned (.bool (decide (lo ≤ n ∧ n ≤ hi))) ∧ w = w' := by
  by_cases h1 : lo ≤ n
  · have hd : decide (lo ≤ n ∧ n ≤ hi) = decide (n ≤ hi) := by simp [h1]
    rw [hd]
    go_enter Try.func24, Try.ntmps24
    go_wp2
    go_ret
    exact ⟨rfl, rfl⟩
  · have hd : decide (lo ≤ n ∧ n ≤ hi) = false := by simp [h1]
    rw [hd]
    go_enter Try.func24, Try.ntmps24
    go_wp2
    go_ret
    exact ⟨rfl, rfl⟩
theorem quo_iff {q b : Int} (hb : 0 < b) : Int.tdiv 16777216 b < q ↔ 16777216 < q * b := by
  rw [Int.tdiv_eq_ediv_of_nonneg (by decide)]
  exact Int.ediv_lt_iff_lt_mul hb
theorem drewNG (w : World) (n : Nat) : w.grownBy (w.drewN n) none := ⟨by simp [World.drewN], by simp [World.drewN], by simp [World.drewN], by simp [World.drewN], fun _ _ _ => by simp [World.drewN]⟩
theorem grown_drewN {w w' : World} (h : w.grownBy w' none) (n : Nat) : w.grownBy (w'.drewN n) none := grown_trans h (drewNG w' n)
set_option maxHeartbeats 1000000 in
theorem fcheck_any (s p b : Int) (w : World) :
    Calls Try.prog 19 #[.agg #[.int .i64 s, .int .i64 p, .int .i64 b]] w fun e w' => e = .returned (.int .i64 (chk s p b)) ∧ w.grownBy w' none := by
  have hs : ∀ W, _ := fun W => within_any s 1 4096 W
  have hp : ∀ W, _ := fun W => within_any p 1 1024 W
  have hb : ∀ W, _ := fun W => within_any b 16 65536 W
  by_cases h1 : 1 ≤ s ∧ s ≤ 4096
  · rw [decide_eq_true h1] at hs
    by_cases h2 : 1 ≤ p ∧ p ≤ 1024
    · rw [decide_eq_true h2] at hp
      by_cases h3 : 16 ≤ b ∧ b ≤ 65536
      · rw [decide_eq_true h3] at hb
        obtain ⟨q1, q2, q3⟩ := prod_in (s := s) (p := p) (b := b) (by omega) (by omega) (by omega) (by omega) (by omega) (by omega)
        have hq := quo_iff (q := s * p) (b := b) (by omega)
        have hb0 : ¬ b = 0 := by omega
        have hb1 : (b == 0) = false := by simpa using hb0
        have e : chk s p b = if 16777216 < s * p * b then 2 else 0 := by unfold chk; rw [if_neg (by omega)]
        rw [e]
        clear e q2
        have hdv : 0 ≤ Int.tdiv 16777216 b ∧ Int.tdiv 16777216 b ≤ 16777216 := ⟨Int.tdiv_nonneg (by decide) (by omega), by
          rw [Int.tdiv_eq_ediv_of_nonneg (by decide)]; exact Int.ediv_le_self _ (by decide)⟩
        have hw4 : IntKind.i64.wrap (Int.tdiv 16777216 b) = Int.tdiv 16777216 b := by rw [IntKind.wrap_i64]; omega
        by_cases h4 : 16777216 < s * p * b
        · rw [if_pos h4]
          have h5 := hq.2 h4
          clear hq h4
          go_enter Try.func19, Try.ntmps19
          go_wp2_with (first | (go_at_call 24; with_reducible refine (hs _).mono ?_; rintro e w' ⟨rfl, rfl⟩) | (go_at_call 24; with_reducible refine (hp _).mono ?_; rintro e w' ⟨rfl, rfl⟩) | (go_at_call 24; with_reducible refine (hb _).mono ?_; rintro e w' ⟨rfl, rfl⟩))
          go_quiet (fail)
          go_wp2
          go_ret
          exact ⟨rfl, grown_drewN (World.grownBy_alloc _ _ _) _⟩
        · rw [if_neg h4]
          have h5 : ¬ Int.tdiv 16777216 b < s * p := fun x => h4 (hq.1 x)
          clear hq h4
          go_enter Try.func19, Try.ntmps19
          go_wp2_with (first | (go_at_call 24; with_reducible refine (hs _).mono ?_; rintro e w' ⟨rfl, rfl⟩) | (go_at_call 24; with_reducible refine (hp _).mono ?_; rintro e w' ⟨rfl, rfl⟩) | (go_at_call 24; with_reducible refine (hb _).mono ?_; rintro e w' ⟨rfl, rfl⟩))
          go_quiet (fail)
          go_wp2
          go_ret
          exact ⟨rfl, grown_drewN (World.grownBy_alloc _ _ _) _⟩
      · rw [decide_eq_false h3] at hb
        have e : chk s p b = 1 := by unfold chk; rw [if_pos (by omega)]
        rw [e]
        go_enter Try.func19, Try.ntmps19
        go_wp2_with (first | (go_at_call 24; with_reducible refine (hs _).mono ?_; rintro e w' ⟨rfl, rfl⟩) | (go_at_call 24; with_reducible refine (hp _).mono ?_; rintro e w' ⟨rfl, rfl⟩) | (go_at_call 24; with_reducible refine (hb _).mono ?_; rintro e w' ⟨rfl, rfl⟩))
        go_ret
        exact ⟨rfl, World.grownBy_alloc _ _ _⟩
    · rw [decide_eq_false h2] at hp
      have e : chk s p b = 1 := by unfold chk; rw [if_pos (by omega)]
      rw [e]
      go_enter Try.func19, Try.ntmps19
      go_wp2_with (first | (go_at_call 24; with_reducible refine (hs _).mono ?_; rintro e w' ⟨rfl, rfl⟩) | (go_at_call 24; with_reducible refine (hp _).mono ?_; rintro e w' ⟨rfl, rfl⟩))
      go_ret
      exact ⟨rfl, World.grownBy_alloc _ _ _⟩
  · rw [decide_eq_false h1] at hs
    have e : chk s p b = 1 := by unfold chk; rw [if_pos (by omega)]
    rw [e]
    go_enter Try.func19, Try.ntmps19
    go_wp2_with (first | (go_at_call 24; with_reducible refine (hs _).mono ?_; rintro e w' ⟨rfl, rfl⟩))
    go_ret
    exact ⟨rfl, World.grownBy_alloc _ _ _⟩
theorem psb_any (s p b : Int) (w : World) (h2 : 1 ≤ p ∧ p ≤ 1024) (h3 : 16 ≤ b ∧ b ≤ 65536) : Calls Try.prog 21 #[.agg #[.int .i64 s, .int .i64 p, .int .i64 b]] w fun e w' => e = .returned (.int .i64 (p * b)) ∧ w.grownBy w' none := by
  have e1 : p * b ≤ 1024 * 65536 := Int.mul_le_mul h2.2 h3.2 (by omega) (by omega)
  have e0 : 0 ≤ p * b := Int.mul_nonneg (by omega) (by omega)
  have w1 : IntKind.i64.wrap (p * b) = p * b := by rw [IntKind.wrap_i64]; omega
  go_enter Try.func21, Try.ntmps21
  go_wp2
  go_ret
  exact ⟨rfl, World.grownBy_alloc _ _ _⟩
theorem pshare_any (s z : Int) (w : World) (hs : 2 ≤ s ∧ s ≤ 4096) (hz : 1 ≤ z ∧ z ≤ 67108864) : Calls Try.prog 20 #[.int .i64 s, .int .i64 z] w fun e w' => e = .returned (.int .i64 (max 1 (min (s / 2) (8388608 / z)))) ∧ w.grownBy w' none := by
  have hq : Int.tdiv 8388608 z = 8388608 / z := Int.tdiv_eq_ediv_of_nonneg (by decide)
  have hd : Int.tdiv s 2 = s / 2 := Int.tdiv_eq_ediv_of_nonneg (by omega)
  have hqb : 0 ≤ 8388608 / z ∧ 8388608 / z ≤ 8388608 := ⟨Int.ediv_nonneg (by decide) (by omega), Int.ediv_le_self _ (by decide)⟩
  have hz0 : (z == 0) = false := by simp; omega
  generalize 8388608 / z = D at *
  go_enter Try.func20, Try.ntmps20
  go_wp2
  all_goals
    go_ret
    refine ⟨congrArg (fun x => Ending.returned (Value.int IntKind.i64 x)) (?_ : _ = max 1 (min (s / 2) D)), ⟨rfl, rfl, rfl, Nat.le_refl _, fun _ _ _ => rfl⟩⟩
    rename_i k
    clear hq hd hz0
    omega
end Go.Proofs.Ytckjlkdjlpfdmaa
