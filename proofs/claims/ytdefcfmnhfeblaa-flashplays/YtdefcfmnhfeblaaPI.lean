/- The program's Check of a geometry. -/
import Derived.Test.YtdefcfmnhfeblaaPD
namespace Go.Proofs.Ytdefcfmnhfeblaa
open Go.RowKit
set_option linter.unusedSimpArgs false
set_option linter.unusedVariables false

theorem quo_iff {q b : Int} (hb : 0 < b) : Int.tdiv 16777216 b < q ↔ 16777216 < q * b := by
  rw [Int.tdiv_eq_ediv_of_nonneg (by decide)]
  exact Int.ediv_lt_iff_lt_mul hb
theorem grown_drewN {w w' : World} (h : w.grownBy w' none) (n : Nat) : w.grownBy (w'.drewN n) none := by
  have hd := (Chg.refl (fun _ => False) w').drewN n
  exact ⟨hd.os.trans h.os, hd.tape.trans h.tape, hd.output.trans h.output, Nat.le_trans h.size hd.size, fun k hk hr => (hd.block k (Nat.lt_of_lt_of_le hk h.size) id).trans (h.block k hk hr)⟩
set_option maxHeartbeats 1000000 in
theorem pcheck_any (s p b : Int) (w : World) :
    Calls Try.prog 13 #[.agg #[.int .i64 s, .int .i64 p, .int .i64 b]] w fun e w' => e = .returned (.int .i64 (chk s p b)) ∧ w.grownBy w' none := by
  have hs : ∀ W, _ := fun W => within_any s 1 4096 W
  have hp : ∀ W, _ := fun W => within_any p 1 1024 W
  have hb : ∀ W, _ := fun W => within_any b 16 65536 W
  by_cases h1 : 1 ≤ s ∧ s ≤ 4096
  · rw [decide_eq_true h1] at hs
    by_cases h2 : 1 ≤ p ∧ p ≤ 1024
    · rw [decide_eq_true h2] at hp
      by_cases h3 : 16 ≤ b ∧ b ≤ 65536
      · rw [decide_eq_true h3] at hb
        obtain ⟨q1, q2, q3⟩ := prod_in (s := s) (p := p) (b := b) (by omega) (by omega) (by omega) (by omega) (by omega) (by omega)
        have hq := quo_iff (q := s * p) (b := b) (by omega)
        have hb0 : ¬ b = 0 := by omega
        have hb1 : (b == 0) = false := by simpa using hb0
        have e : chk s p b = if 16777216 < s * p * b then 2 else 0 := by unfold chk; rw [if_neg (by omega)]
        rw [e]
        clear e q2
        have hdv : 0 ≤ Int.tdiv 16777216 b ∧ Int.tdiv 16777216 b ≤ 16777216 := ⟨Int.tdiv_nonneg (by decide) (by omega), by
          rw [Int.tdiv_eq_ediv_of_nonneg (by decide)]; exact Int.ediv_le_self _ (by decide)⟩
        have hw4 : IntKind.i64.wrap (Int.tdiv 16777216 b) = Int.tdiv 16777216 b := by rw [IntKind.wrap_i64]; omega
        by_cases h4 : 16777216 < s * p * b
        · rw [if_pos h4]
          have h5 := hq.2 h4
          clear hq h4
          go_enter Try.func13, Try.ntmps13
          go_wp2_with (first | (go_at_call 30; with_reducible refine (hs _).mono ?_; rintro e w' ⟨rfl, rfl⟩) | (go_at_call 30; with_reducible refine (hp _).mono ?_; rintro e w' ⟨rfl, rfl⟩) | (go_at_call 30; with_reducible refine (hb _).mono ?_; rintro e w' ⟨rfl, rfl⟩))
          go_quiet (fail)
          go_wp2
          go_ret
          exact ⟨rfl, grown_drewN (World.grownBy_alloc _ _ _) _⟩
        · rw [if_neg h4]
          have h5 : ¬ Int.tdiv 16777216 b < s * p := fun x => h4 (hq.1 x)
          clear hq h4
          go_enter Try.func13, Try.ntmps13
          go_wp2_with (first | (go_at_call 30; with_reducible refine (hs _).mono ?_; rintro e w' ⟨rfl, rfl⟩) | (go_at_call 30; with_reducible refine (hp _).mono ?_; rintro e w' ⟨rfl, rfl⟩) | (go_at_call 30; with_reducible refine (hb _).mono ?_; rintro e w' ⟨rfl, rfl⟩))
          go_quiet (fail)
          go_wp2
          go_ret
          exact ⟨rfl, grown_drewN (World.grownBy_alloc _ _ _) _⟩
      · rw [decide_eq_false h3] at hb
        have e : chk s p b = 1 := by unfold chk; rw [if_pos (by omega)]
        rw [e]
        go_enter Try.func13, Try.ntmps13
        go_wp2_with (first | (go_at_call 30; with_reducible refine (hs _).mono ?_; rintro e w' ⟨rfl, rfl⟩) | (go_at_call 30; with_reducible refine (hp _).mono ?_; rintro e w' ⟨rfl, rfl⟩) | (go_at_call 30; with_reducible refine (hb _).mono ?_; rintro e w' ⟨rfl, rfl⟩))
        go_ret
        exact ⟨rfl, World.grownBy_alloc _ _ _⟩
    · rw [decide_eq_false h2] at hp
      have e : chk s p b = 1 := by unfold chk; rw [if_pos (by omega)]
      rw [e]
      go_enter Try.func13, Try.ntmps13
      go_wp2_with (first | (go_at_call 30; with_reducible refine (hs _).mono ?_; rintro e w' ⟨rfl, rfl⟩) | (go_at_call 30; with_reducible refine (hp _).mono ?_; rintro e w' ⟨rfl, rfl⟩))
      go_ret
      exact ⟨rfl, World.grownBy_alloc _ _ _⟩
  · rw [decide_eq_false h1] at hs
    have e : chk s p b = 1 := by unfold chk; rw [if_pos (by omega)]
    rw [e]
    go_enter Try.func13, Try.ntmps13
    go_wp2_with (first | (go_at_call 30; with_reducible refine (hs _).mono ?_; rintro e w' ⟨rfl, rfl⟩))
    go_ret
    exact ⟨rfl, World.grownBy_alloc _ _ _⟩
end Go.Proofs.Ytdefcfmnhfeblaa
