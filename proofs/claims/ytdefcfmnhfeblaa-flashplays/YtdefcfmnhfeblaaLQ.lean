/- step, whatever the call; FlashPlays where nothing is played. -/
import Derived.Test.YtdefcfmnhfeblaaLM
import Derived.Test.YtdefcfmnhfeblaaLP
namespace Go.Proofs.Ytdefcfmnhfeblaa
open Go.RowKit
set_option linter.unusedSimpArgs false
set_option linter.unusedVariables false
attribute [local go_sem ↓] Go.wp_at_zero Go.wp_at_succ

theorem step_any {w : World} {fb bb db wb : Nat} {m : Fm} {v : Value} {k : Nat} {A : Ac} {F : Nat → Prop} (hP : PRep w fb bb db wb m F) (hFf : ∀ k, foot fb bb db wb k → F k) (hFs : ∀ k, F k → k < w.heap.size) (hR : Rep w v m F) (hg : m.Good k) (hk : k < 1000000) (hA : A.ok w) (hAm : A.len ≤ 140737488355328) (hAf : ∀ b o, A.a = some ⟨b, o, none⟩ → 0 < A.len → ¬ foot fb bb db wb b) :
    Calls Try.prog 15 #[.pointer (some ⟨fb, 0, none⟩), v, A.val] w fun e w' => StPost w fb bb db wb F (m.act A) e w' := by
  unfold Fm.act
  by_cases h0 : A.d = 0
  · rw [if_pos h0]; exact step_read hP hFf hFs hR hg h0 hA.ba hA.bn
  · rw [if_neg h0]
    by_cases h1 : A.d = 1
    · rw [if_pos h1]; exact step_write hP hFf hFs hR hg hk h1 hA hAm hAf
    · rw [if_neg h1]
      by_cases h2 : A.d = 2
      · rw [if_pos h2]; exact step_erase hP hFf hFs hR hg hk h2 hA.ba
      · rw [if_neg h2]
        by_cases h3 : A.d = 3
        · rw [if_pos h3]; exact step_arm hP hFf hFs hR hg h3 hA hAm hAf
        · rw [if_neg h3]; exact step_boot hP hFf hFs hR hg h0 h1 h2 h3
theorem Fm.good_act {m : Fm} {k : Nat} {A : Ac} (h : m.Good k) (hn : A.n ≤ 9223372036854775807) : (m.act A).Good (k + 1) := by
  unfold Fm.act
  split
  · exact h.mono (by omega)
  · split
    · exact Fm.good_write h _ _
    · split
      · exact Fm.good_erase h _
      · split
        · exact (Fm.good_arm h _ _ hn).mono (by omega)
        · exact (Fm.good_boot h).mono (by omega)
set_option maxRecDepth 100000 in
set_option maxHeartbeats 2000000 in
theorem plays_live (s p b : Int) (a1 : Option Addr) (len1 cap1 : Nat) (w : World) (hs : -9223372036854775808 ≤ s ∧ s ≤ 9223372036854775807) (hp : -9223372036854775808 ≤ p ∧ p ≤ 9223372036854775807) (hb : -9223372036854775808 ≤ b ∧ b ≤ 9223372036854775807) (hl : len1 ≤ maxLen) (hC : ¬ (sml s p b = true ∧ len1 ≤ 60)) :
    Calls Try.prog 3 #[.agg #[.int .i64 s, .int .i64 p, .int .i64 b], .slice a1 len1 cap1] w fun e w' => e = .returned (.bool true) ∧ Below w.heap.size w w' := by
  have hsm : ∀ W, _ := fun W => small_any s p b W hs hp hb
  have HG : Hid (w.grownBy (w.alloc (.cells #[.int .i64 s, .int .i64 p, .int .i64 b] 23)) none) := World.grownBy_alloc _ _ _
  unfold maxLen at hl
  clear hs hp hb
  generalize sml s p b = S at *
  go_enter Try.func3, Try.ntmps3
  go_wp2_with fail
  refine (hsm _).mono ?_
  rintro e W1 ⟨rfl, hg1⟩
  have H1 : Hid (w.grownBy W1 none) := grown_trans HG.out hg1
  clear hg1 HG hsm
  cases S with
  | false =>
    go_wp2_with (first | (go_at_call 9; refine (live_any _).mono ?_; rintro e w' ⟨rfl, hg'⟩; have s4 := hidG H1 hg'; clear hg'))
    go_ret
    exact ⟨rfl, grown_below s4.out⟩
  | true =>
    have hl2 : (60 : Int) < (len1 : Int) := by
      simp at hC
      omega
    go_wp2_with (first | (go_at_call 9; refine (live_any _).mono ?_; rintro e w' ⟨rfl, hg'⟩; have s4 := hidG H1 hg'; clear hg'))
    go_ret
    exact ⟨rfl, grown_below s4.out⟩
set_option maxRecDepth 100000 in
set_option maxHeartbeats 4000000 in
theorem plays_bad (s p b : Int) (a1 : Option Addr) (len1 cap1 : Nat) (w : World) (hs : -9223372036854775808 ≤ s ∧ s ≤ 9223372036854775807) (hp : -9223372036854775808 ≤ p ∧ p ≤ 9223372036854775807) (hb : -9223372036854775808 ≤ b ∧ b ≤ 9223372036854775807) (hsml : sml s p b = true) (hl : len1 ≤ 60) (hc : (chk s p b != 0) = true) :
    Calls Try.prog 3 #[.agg #[.int .i64 s, .int .i64 p, .int .i64 b], .slice a1 len1 cap1] w fun e w' => e = .returned (.bool true) ∧ Below w.heap.size w w' := by
  have hsm : ∀ W, _ := fun W => small_any s p b W hs hp hb
  rw [hsml] at hsm
  have hnew : ∀ W, _ := fun W => pnew_bad s p b W hc
  have hpc : ∀ W, _ := fun W => pcheck_any s p b W
  have hrc : ∀ W, _ := fun W => check_any s p b W hs hp hb
  have hnE : ∀ W, _ := fun W => num_any (chk s p b) W (chk_in s p b)
  have h0 := Box.new w 23 [.int .i64 s, .int .i64 p, .int .i64 b]
  have HG : Hid (w.grownBy (w.alloc (.cells #[.int .i64 s, .int .i64 p, .int .i64 b] 23)) none) := World.grownBy_alloc _ _ _
  have H0 : Hid _ := h0
  generalize chk s p b = E at *
  clear hs hp hb h0 hsml
  go_enter Try.func3, Try.ntmps3
  go_wp2_with fail
  refine (hsm _).mono ?_
  rintro e W1 ⟨rfl, hg1⟩
  have H1 : Hid _ := And.intro (grown_trans HG.out hg1) (H0.out.grown hg1)
  clear hg1 HG H0 hsm
  generalize hgg : w.heap.size = g at *
  have c0 : W1.cell? ⟨g, 0, none⟩ = some (.int .i64 s) := H1.out.2.c 0
  have c1 : W1.cell? ⟨g, 1, none⟩ = some (.int .i64 p) := H1.out.2.c 1
  have c2 : W1.cell? ⟨g, 2, none⟩ = some (.int .i64 b) := H1.out.2.c 2
  go_wp2_with fail
  refine (hnew _).mono ?_
  rintro e W2 ⟨rfl, hg2⟩
  have H2 : Hid _ := And.intro (grown_trans H1.out.1 hg2) (H1.out.2.grown hg2)
  clear hg2 H1 c0 c1 c2 hnew
  have c0 : W2.cell? ⟨g, 0, none⟩ = some (.int .i64 s) := H2.out.2.c 0
  have c1 : W2.cell? ⟨g, 1, none⟩ = some (.int .i64 p) := H2.out.2.c 1
  have c2 : W2.cell? ⟨g, 2, none⟩ = some (.int .i64 b) := H2.out.2.c 2
  have HD : Hid (w.grownBy W2.drew none) := grown_drewN H2.out.1 1
  go_wp2_with fail
  go_region_held3 (fun w' => w'.cell? ⟨g, 0, none⟩ = some (.int .i64 s) ∧ w'.cell? ⟨g, 1, none⟩ = some (.int .i64 p) ∧ w'.cell? ⟨g, 2, none⟩ = some (.int .i64 b) ∧ Hid (w.grownBy w' none)) (first | (refine ⟨?_, ?_, ?_, ?_⟩ <;> assumption) | go_keep)
    (first
     | (go_at_call 13; refine (hpc _).mono ?_; rintro e w' ⟨rfl, hg'⟩; have q0 := keep1 hg' (b := g) (o := 0) (v := .int .i64 s) (by simp [*]); have q1 := keep1 hg' (b := g) (o := 1) (v := .int .i64 p) (by simp [*]); have q2 := keep1 hg' (b := g) (o := 2) (v := .int .i64 b) (by simp [*]); have q3 := hidG (by assumption) hg'; clear hg')
     | (go_at_call 12; refine (hrc _).mono ?_; rintro e w' ⟨rfl, hw'⟩; have hg' := (by rw [hw']; exact World.grownBy_alloc _ _ _ : World.grownBy _ w' none); clear hw'; have q0 := keep1 hg' (b := g) (o := 0) (v := .int .i64 s) (by simp [*]); have q1 := keep1 hg' (b := g) (o := 1) (v := .int .i64 p) (by simp [*]); have q2 := keep1 hg' (b := g) (o := 2) (v := .int .i64 b) (by simp [*]); have q3 := hidG (by assumption) hg'; clear hg')
     | (go_at_call 11; refine (hnE _).mono ?_; rintro e w' ⟨rfl, rfl⟩))
  all_goals
    rename_i WX q0 q1 q2 q3 hHeld
    clear hHeld
    go_wp2_with (first | (go_at_call 12; refine (hrc _).mono ?_; rintro e WY ⟨rfl, hw'⟩; have hg' := (by rw [hw']; exact World.grownBy_alloc _ _ _ : World.grownBy _ WY none); clear hw'; have r3 := hidG q3 hg'; clear hg') | (go_at_call 9; refine (live_any _).mono ?_; rintro e w' ⟨rfl, hg'⟩; have s4 := hidG r3 hg'; clear hg'))
    go_ret
    exact ⟨rfl, grown_below s4.out⟩
end Go.Proofs.Ytdefcfmnhfeblaa
