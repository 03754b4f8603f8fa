/- Which geometries are played: Small. -/
import Derived.Test.YtdefcfmnhfeblaaLB
namespace Go.Proofs.Ytdefcfmnhfeblaa
open Go.RowKit
set_option linter.unusedSimpArgs false
set_option linter.unusedVariables false
attribute [local go_sem ↓] Go.wp_at_zero Go.wp_at_succ

def sml (s p b : Int) : Bool := decide (chk s p b ≠ 0 ∨ (s ≤ 16 ∧ p ≤ 16 ∧ b ≤ 64))
set_option maxHeartbeats 1000000 in
theorem small_any (s p b : Int) (w : World) (hs : -9223372036854775808 ≤ s ∧ s ≤ 9223372036854775807) (hp : -9223372036854775808 ≤ p ∧ p ≤ 9223372036854775807) (hb : -9223372036854775808 ≤ b ∧ b ≤ 9223372036854775807) :
    Calls Try.prog 8 #[.agg #[.int .i64 s, .int .i64 p, .int .i64 b]] w fun e w' => e = .returned (.bool (sml s p b)) ∧ w.grownBy w' none := by
  have h0 := Box.new w 23 [.int .i64 s, .int .i64 p, .int .i64 b]
  have HG := World.grownBy_alloc w (.cells #[.int .i64 s, .int .i64 p, .int .i64 b] 23) none
  have hr := check_any s p b (w.alloc (.cells #[.int .i64 s, .int .i64 p, .int .i64 b] 23)) hs hp hb
  have HA : Hid (w.grownBy ((w.alloc (.cells #[.int .i64 s, .int .i64 p, .int .i64 b] 23)).alloc (.cells #[.int .i64 s, .int .i64 p, .int .i64 b] 23)) none) := grown_trans HG (World.grownBy_alloc _ _ _)
  have h1 := h0.grown (World.grownBy_alloc _ (.cells #[.int .i64 s, .int .i64 p, .int .i64 b] 23) none)
  have c0 : ((w.alloc (.cells #[.int .i64 s, .int .i64 p, .int .i64 b] 23)).alloc (.cells #[.int .i64 s, .int .i64 p, .int .i64 b] 23)).cell? ⟨w.heap.size, 0, none⟩ = some (.int .i64 s) := h1.c 0
  have c1 : ((w.alloc (.cells #[.int .i64 s, .int .i64 p, .int .i64 b] 23)).alloc (.cells #[.int .i64 s, .int .i64 p, .int .i64 b] 23)).cell? ⟨w.heap.size, 1, none⟩ = some (.int .i64 p) := h1.c 1
  have c2 : ((w.alloc (.cells #[.int .i64 s, .int .i64 p, .int .i64 b] 23)).alloc (.cells #[.int .i64 s, .int .i64 p, .int .i64 b] 23)).cell? ⟨w.heap.size, 2, none⟩ = some (.int .i64 b) := h1.c 2
  unfold sml
  generalize chk s p b = E at *
  clear h0 h1 HG hs hp hb
  by_cases hE : E = 0
  · subst hE
    by_cases k0 : s ≤ 16
    · by_cases k1 : p ≤ 16
      · have e : decide ((0 : Int) ≠ 0 ∨ (s ≤ 16 ∧ p ≤ 16 ∧ b ≤ 64)) = decide (b ≤ 64) := by simp [k0, k1]
        rw [e]
        go_enter Try.func8, Try.ntmps8
        go_wp2_with (first | (go_at_call 12; refine hr.mono ?_; rintro e w' ⟨rfl, rfl⟩))
        go_ret
        exact ⟨rfl, HA.out⟩
      · have e : decide ((0 : Int) ≠ 0 ∨ (s ≤ 16 ∧ p ≤ 16 ∧ b ≤ 64)) = false := by simp [k1]
        rw [e]
        go_enter Try.func8, Try.ntmps8
        go_wp2_with (first | (go_at_call 12; refine hr.mono ?_; rintro e w' ⟨rfl, rfl⟩))
        go_ret
        exact ⟨rfl, HA.out⟩
    · have e : decide ((0 : Int) ≠ 0 ∨ (s ≤ 16 ∧ p ≤ 16 ∧ b ≤ 64)) = false := by simp [k0]
      rw [e]
      go_enter Try.func8, Try.ntmps8
      go_wp2_with (first | (go_at_call 12; refine hr.mono ?_; rintro e w' ⟨rfl, rfl⟩))
      go_ret
      exact ⟨rfl, HA.out⟩
  · have e : decide (E ≠ 0 ∨ (s ≤ 16 ∧ p ≤ 16 ∧ b ≤ 64)) = true := by simp [hE]
    rw [e]
    have hEb : (E != 0) = true := by simpa using hE
    go_enter Try.func8, Try.ntmps8
    go_wp2_with (first | (go_at_call 12; refine hr.mono ?_; rintro e w' ⟨rfl, rfl⟩))
    go_ret
    exact ⟨rfl, HA.out⟩
/-- a geometry that may be and is played -/
theorem sml_geo {s p b : Int} (h : sml s p b = true) (hc : chk s p b = 0) : ∃ s' p' b' : Nat, s = s' ∧ p = p' ∧ b = b' ∧ (0 < s' ∧ s' ≤ 16) ∧ (0 < p' ∧ p' ≤ 16) ∧ (16 ≤ b' ∧ b' ≤ 64) := by
  have h := of_decide_eq_true h
  rw [hc] at h
  have h := h.resolve_left (fun x => x rfl)
  unfold chk at hc
  split at hc
  · cases hc
  · rename_i k
    exact ⟨s.toNat, p.toNat, b.toNat, by omega, by omega, by omega, by omega, by omega, by omega⟩
end Go.Proofs.Ytdefcfmnhfeblaa
