/- The walk of FlashChecks. -/
import Derived.Test.YtdefcfmnhfeblaaLA
namespace Go.Proofs.Ytdefcfmnhfeblaa
open Go.RowKit
set_option linter.unusedSimpArgs false
set_option linter.unusedVariables false
attribute [local go_sem ↓] Go.wp_at_zero Go.wp_at_succ

theorem chk_in (s p b : Int) : -9223372036854775808 ≤ chk s p b ∧ chk s p b ≤ 9223372036854775807 := by
  unfold chk; split
  · decide
  · split <;> decide
theorem keep1 {w w' : World} (hg : w.grownBy w' none) {b o : Nat} {v : Value} (h : w.cell? ⟨b, o, none⟩ = some v) : w'.cell? ⟨b, o, none⟩ = some v := by
  rw [(grown_below hg).cell (p := ⟨b, o, none⟩) (cell_lt h)]; exact h
theorem hidG {w a b : World} (h : Hid (w.grownBy a none)) (k : a.grownBy b none) : Hid (w.grownBy b none) := grown_trans h.out k
set_option maxHeartbeats 2000000 in
theorem flashChecks_walk (s p b : Int) (w : World) (hs : (Lit.int .i64 s).wf = true) (hp : (Lit.int .i64 p).wf = true) (hb : (Lit.int .i64 b).wf = true) :
    Calls Try.prog 4 #[.agg #[.int .i64 s, .int .i64 p, .int .i64 b]] w fun e w' => e = .returned (.bool true) ∧ Below w.heap.size w w' := by
  have HB : Hid _ := And.intro (wf_i64 hs) (And.intro (wf_i64 hp) (wf_i64 hb))
  have hc : ∀ W, _ := fun W => pcheck_any s p b W
  have hr : ∀ W, _ := fun W => check_any s p b W HB.out.1 HB.out.2.1 HB.out.2.2
  have hnm : ∀ W, _ := fun W => num_any (chk s p b) W (chk_in s p b)
  generalize chk s p b = E at hc hr hnm
  have h0 := Box.new w 23 [.int .i64 s, .int .i64 p, .int .i64 b]
  have HG : Hid (w.grownBy (w.alloc (.cells #[.int .i64 s, .int .i64 p, .int .i64 b] 23)).drew none) := grown_trans (World.grownBy_alloc _ _ _) (grown_drewN (World.grownBy.refl _ _) 1)
  have c0 : (w.alloc (.cells #[.int .i64 s, .int .i64 p, .int .i64 b] 23)).cell? ⟨w.heap.size, 0, none⟩ = some (.int .i64 s) := h0.c 0
  have c1 : (w.alloc (.cells #[.int .i64 s, .int .i64 p, .int .i64 b] 23)).cell? ⟨w.heap.size, 1, none⟩ = some (.int .i64 p) := h0.c 1
  have c2 : (w.alloc (.cells #[.int .i64 s, .int .i64 p, .int .i64 b] 23)).cell? ⟨w.heap.size, 2, none⟩ = some (.int .i64 b) := h0.c 2
  clear hs hp hb h0
  go_enter Try.func4, Try.ntmps4
  go_wp2_with fail
  generalize (w.alloc (.cells #[.int .i64 s, .int .i64 p, .int .i64 b] 23)) = W at *
  generalize hgg : w.heap.size = g at *
  go_region_held3 (fun w' => w'.cell? ⟨g, 0, none⟩ = some (.int .i64 s) ∧ w'.cell? ⟨g, 1, none⟩ = some (.int .i64 p) ∧ w'.cell? ⟨g, 2, none⟩ = some (.int .i64 b) ∧ Hid (w.grownBy w' none)) (first | (refine ⟨?_, ?_, ?_, ?_⟩ <;> assumption) | go_keep)
    (first
     | (go_at_call 13; refine (hc _).mono ?_; rintro e w' ⟨rfl, hg'⟩; have q0 := keep1 hg' (b := g) (o := 0) (v := .int .i64 s) (by simp [*]); have q1 := keep1 hg' (b := g) (o := 1) (v := .int .i64 p) (by simp [*]); have q2 := keep1 hg' (b := g) (o := 2) (v := .int .i64 b) (by simp [*]); have q3 := hidG (by assumption) hg'; clear hg')
     | (go_at_call 12; refine (hr _).mono ?_; rintro e w' ⟨rfl, hw'⟩; have hg' := (by rw [hw']; exact World.grownBy_alloc _ _ _ : World.grownBy _ w' none); clear hw'; have q0 := keep1 hg' (b := g) (o := 0) (v := .int .i64 s) (by simp [*]); have q1 := keep1 hg' (b := g) (o := 1) (v := .int .i64 p) (by simp [*]); have q2 := keep1 hg' (b := g) (o := 2) (v := .int .i64 b) (by simp [*]); have q3 := hidG (by assumption) hg'; clear hg')
     | (go_at_call 11; refine (hnm _).mono ?_; rintro e w' ⟨rfl, rfl⟩)
     | (go_at_call 9; refine (live_any _).mono ?_; rintro e w' ⟨rfl, hg'⟩; have q0 := keep1 hg' (b := g) (o := 0) (v := .int .i64 s) (by simp [*]); have q1 := keep1 hg' (b := g) (o := 1) (v := .int .i64 p) (by simp [*]); have q2 := keep1 hg' (b := g) (o := 2) (v := .int .i64 b) (by simp [*]); have q3 := hidG (by assumption) hg'; clear hg'))
  all_goals
    go_wp2
    go_ret
    exact ⟨rfl, grown_below (Hid.out (by assumption))⟩
end Go.Proofs.Ytdefcfmnhfeblaa
