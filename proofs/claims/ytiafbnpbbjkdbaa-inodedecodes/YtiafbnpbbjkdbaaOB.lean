/- The document's Check. -/
import Derived.Test.YtiafbnpbbjkdbaaOA
namespace Go.Proofs.Ytiafbnpbbjkdbaa
open Go.RowKit
set_option maxRecDepth 100000
set_option linter.unusedSimpArgs false
set_option linter.unusedVariables false
theorem rin_any (x lo hi : Int) (w : World) : Calls Try.prog 24 #[.int .i64 x, .int .i64 lo, .int .i64 hi] w fun e w' => e = .returned (.bool (inn lo hi x)) ∧ w = w' := by
  cases h : decide (lo ≤ x) with
  | true =>
    have e : inn lo hi x = decide (x ≤ hi) := by simp [inn, h]
    rw [e]
    clear e
    go_enter Try.func24, Try.ntmps24
    go_wp2
    go_ret
    exact ⟨rfl, rfl⟩
  | false =>
    have e : inn lo hi x = false := by simp [inn, h]
    rw [e]
    clear e
    go_enter Try.func24, Try.ntmps24
    go_wp2
    go_ret
    exact ⟨rfl, rfl⟩










set_option maxHeartbeats 4000000 in
theorem rcheck15_0 (n : Nd) (w : World) (hk : inn 1 5 n.kd = false) (hok : n.ok w) : Calls Try.prog 9 #[n.val] w fun e w' => e = .returned (.int .i64 (chk15 n)) ∧ w.grownBy w' none := by
  obtain ⟨kd, md, ui, gi, tm, ln, at_, sz, st, wa, wl, wc, ws, fr, of_, tl, dr, by_, pr, tg, dv⟩ := n
  simp only at hk
  clear hok
  unfold Nd.val
  simp only
  go_enter Try.func9, Try.ntmps9
  go_wp2_with (go_at_call 24; refine (rin_any _ _ _ _).mono ?_; rintro e w' ⟨rfl, rfl⟩)
  all_goals go_ret
  all_goals refine ⟨?_, World.grownBy_alloc _ _ _⟩
  all_goals (try simp only [Bool.not_eq_true', Bool.not_eq_false', bne_iff_ne, bne_eq_false_iff_eq, ne_eq] at *)
  all_goals simp [chk15, hd15, rest15, nofile15, dir15, nodir15, dev15, nolink15, *]
set_option maxHeartbeats 4000000 in
theorem rcheck15_2 (n : Nd) (w : World) (hk : n.kd = 2) (hok : n.ok w) : Calls Try.prog 9 #[n.val] w fun e w' => e = .returned (.int .i64 (chk15 n)) ∧ w.grownBy w' none := by
  obtain ⟨kd, md, ui, gi, tm, ln, at_, sz, st, wa, wl, wc, ws, fr, of_, tl, dr, by_, pr, tg, dv⟩ := n
  simp only at hk
  clear hok
  subst hk
  have ek : inn 1 5 2 = true := rfl
  unfold Nd.val
  simp only
  go_enter Try.func9, Try.ntmps9
  go_wp2_with (go_at_call 24; refine (rin_any _ _ _ _).mono ?_; rintro e w' ⟨rfl, rfl⟩)
  all_goals go_ret
  all_goals refine ⟨?_, World.grownBy_alloc _ _ _⟩
  all_goals (try simp only [Bool.not_eq_true', Bool.not_eq_false', bne_iff_ne, bne_eq_false_iff_eq, ne_eq] at *)
  all_goals simp [chk15, hd15, rest15, nofile15, dir15, nodir15, dev15, nolink15, *]
set_option maxHeartbeats 4000000 in
theorem rcheck15_4 (n : Nd) (w : World) (hk : n.kd = 4) (hok : n.ok w) : Calls Try.prog 9 #[n.val] w fun e w' => e = .returned (.int .i64 (chk15 n)) ∧ w.grownBy w' none := by
  obtain ⟨kd, md, ui, gi, tm, ln, at_, sz, st, wa, wl, wc, ws, fr, of_, tl, dr, by_, pr, tg, dv⟩ := n
  simp only at hk
  clear hok
  subst hk
  have ek : inn 1 5 4 = true := rfl
  unfold Nd.val
  simp only
  go_enter Try.func9, Try.ntmps9
  go_wp2_with (go_at_call 24; refine (rin_any _ _ _ _).mono ?_; rintro e w' ⟨rfl, rfl⟩)
  all_goals go_ret
  all_goals refine ⟨?_, World.grownBy_alloc _ _ _⟩
  all_goals (try simp only [Bool.not_eq_true', Bool.not_eq_false', bne_iff_ne, bne_eq_false_iff_eq, ne_eq] at *)
  all_goals simp [chk15, hd15, rest15, nofile15, dir15, nodir15, dev15, nolink15, *]
set_option maxHeartbeats 4000000 in
theorem rcheck15_5 (n : Nd) (w : World) (hk : n.kd = 5) (hok : n.ok w) : Calls Try.prog 9 #[n.val] w fun e w' => e = .returned (.int .i64 (chk15 n)) ∧ w.grownBy w' none := by
  obtain ⟨kd, md, ui, gi, tm, ln, at_, sz, st, wa, wl, wc, ws, fr, of_, tl, dr, by_, pr, tg, dv⟩ := n
  simp only at hk
  clear hok
  subst hk
  have ek : inn 1 5 5 = true := rfl
  unfold Nd.val
  simp only
  go_enter Try.func9, Try.ntmps9
  go_wp2_with (go_at_call 24; refine (rin_any _ _ _ _).mono ?_; rintro e w' ⟨rfl, rfl⟩)
  all_goals go_ret
  all_goals refine ⟨?_, World.grownBy_alloc _ _ _⟩
  all_goals (try simp only [Bool.not_eq_true', Bool.not_eq_false', bne_iff_ne, bne_eq_false_iff_eq, ne_eq] at *)
  all_goals simp [chk15, hd15, rest15, nofile15, dir15, nodir15, dev15, nolink15, *]
end Go.Proofs.Ytiafbnpbbjkdbaa
