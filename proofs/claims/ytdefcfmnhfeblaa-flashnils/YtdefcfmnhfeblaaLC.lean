/- What a nil flash answers; the walk of FlashNils. -/
import Derived.Test.YtdefcfmnhfeblaaLB
import Derived.Test.YtdefcfmnhfeblaaAC
namespace Go.Proofs.Ytdefcfmnhfeblaa
open Go.RowKit
set_option linter.unusedSimpArgs false
set_option linter.unusedVariables false
attribute [local go_sem ↓] Go.wp_at_zero Go.wp_at_succ

theorem pwrite_nil (page : Int) (v : Value) (w : World) : Calls Try.prog 19 #[.pointer none, .int .i64 page, v] w fun e w' => e = .returned (.int .i64 5) ∧ w = w' := by
  go_enter Try.func19, Try.ntmps19
  go_wp2
  go_ret
  exact ⟨rfl, rfl⟩
theorem perase_nil (sec : Int) (w : World) : Calls Try.prog 20 #[.pointer none, .int .i64 sec] w fun e w' => e = .returned (.int .i64 5) ∧ w = w' := by
  go_enter Try.func20, Try.ntmps20
  go_wp2
  go_ret
  exact ⟨rfl, rfl⟩
set_option maxHeartbeats 2000000 in
theorem flashNils_walk (A : Ac) (w : World) (hA : A.ok w) :
    Calls Try.prog 7 #[A.val] w fun e w' => e = .returned (.bool true) ∧ Below w.heap.size w w' := by
  obtain ⟨d, at_, n, a, len, cap, xs⟩ := A
  clear hA
  unfold Ac.val
  simp only
  have hn5 : ∀ W, _ := fun W => num_any 5 W (by decide)
  have h0 := Box.new w 45 [.int .i64 d, .int .i64 at_, .int .i64 n, .slice a len cap]
  have HG : Hid (w.grownBy (w.alloc (.cells #[.int .i64 d, .int .i64 at_, .int .i64 n, .slice a len cap] 45)) none) := World.grownBy_alloc _ _ _
  have c1 : (w.alloc (.cells #[.int .i64 d, .int .i64 at_, .int .i64 n, .slice a len cap] 45)).cell? ⟨w.heap.size, 1, none⟩ = some (.int .i64 at_) := h0.c 1
  have c2 : (w.alloc (.cells #[.int .i64 d, .int .i64 at_, .int .i64 n, .slice a len cap] 45)).cell? ⟨w.heap.size, 2, none⟩ = some (.int .i64 n) := h0.c 2
  have c3 : (w.alloc (.cells #[.int .i64 d, .int .i64 at_, .int .i64 n, .slice a len cap] 45)).cell? ⟨w.heap.size, 3, none⟩ = some (.slice a len cap) := h0.c 3
  clear h0
  go_enter Try.func7, Try.ntmps7
  go_wp2_with fail
  generalize (w.alloc (.cells #[.int .i64 d, .int .i64 at_, .int .i64 n, .slice a len cap] 45)) = W at *
  generalize hgg : w.heap.size = g at *
  have HG0 : Hid (w.grownBy W.drew none) := grown_drewN HG.out 1
  go_wp2_with (first
     | (go_at_call 21; refine (pread_nil _ _ _).mono ?_; rintro e w' ⟨rfl, rfl⟩)
     | (go_at_call 17; refine (pboot_nil _).mono ?_; rintro e w' ⟨rfl, rfl⟩))
  simp only [List.append_eq, List.cons_append, List.nil_append]
  go_region_held3 (fun w' => w'.cell? ⟨g, 1, none⟩ = some (.int .i64 at_) ∧ w'.cell? ⟨g, 2, none⟩ = some (.int .i64 n) ∧ w'.cell? ⟨g, 3, none⟩ = some (.slice a len cap) ∧ Hid (w.grownBy w' none)) (first | (refine ⟨?_, ?_, ?_, ?_⟩ <;> assumption) | go_keep)
    (first
     | (go_at_call 21; refine (pread_nil _ _ _).mono ?_; rintro e w' ⟨rfl, rfl⟩)
     | (go_at_call 17; refine (pboot_nil _).mono ?_; rintro e w' ⟨rfl, rfl⟩)
     | (go_at_call 22; refine (size_nil _).mono ?_; rintro e w' ⟨rfl, rfl⟩)
     | (go_at_call 26; refine (worn_nil _ _).mono ?_; rintro e w' ⟨rfl, rfl⟩)
     | (go_at_call 25; refine (ops_nil _).mono ?_; rintro e w' ⟨rfl, rfl⟩)
     | (go_at_call 28; refine (on_nil _).mono ?_; rintro e w' ⟨rfl, rfl⟩)
     | (go_at_call 24; refine (dirty_nil _ _).mono ?_; rintro e w' ⟨rfl, rfl⟩)
     | (go_at_call 11; refine (hn5 _).mono ?_; rintro e w' ⟨rfl, rfl⟩)
     | (go_at_call 19; refine (pwrite_nil _ _ _).mono ?_; rintro e w' ⟨rfl, rfl⟩)
     | (go_at_call 20; refine (perase_nil _ _).mono ?_; rintro e w' ⟨rfl, rfl⟩)
     | (go_at_call 27; refine (geometry_nil _).mono ?_; rintro e w' ⟨rfl, hg'⟩; have q1 := keep1 hg' (b := g) (o := 1) (v := .int .i64 at_) (by simp [*]); have q2 := keep1 hg' (b := g) (o := 2) (v := .int .i64 n) (by simp [*]); have q3 := keep1 hg' (b := g) (o := 3) (v := .slice a len cap) (by simp [*]); have q4 := hidG (by assumption) hg'; clear hg')
     | (go_at_call 23; refine (parm_nil _ _ _ _ _).mono ?_; rintro e w' ⟨rfl, hg'⟩; have q1 := keep1 hg' (b := g) (o := 1) (v := .int .i64 at_) (by simp [*]); have q2 := keep1 hg' (b := g) (o := 2) (v := .int .i64 n) (by simp [*]); have q3 := keep1 hg' (b := g) (o := 3) (v := .slice a len cap) (by simp [*]); have r4 := hidG (by assumption) hg'; clear hg')
     | (go_at_call 9; refine (live_any _).mono ?_; rintro e w' ⟨rfl, hg'⟩; have q1 := keep1 hg' (b := g) (o := 1) (v := .int .i64 at_) (by simp [*]); have q2 := keep1 hg' (b := g) (o := 2) (v := .int .i64 n) (by simp [*]); have q3 := keep1 hg' (b := g) (o := 3) (v := .slice a len cap) (by simp [*]); have s4 := hidG (by assumption) hg'; clear hg'))
  go_wp2
  go_ret
  exact ⟨rfl, grown_below (Hid.out (by assumption))⟩
end Go.Proofs.Ytdefcfmnhfeblaa
