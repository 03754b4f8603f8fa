/- The walk of FlashReads. -/
import Derived.Test.YtdefcfmnhfeblaaLD
import Derived.Test.YtdefcfmnhfeblaaRV
namespace Go.Proofs.Ytdefcfmnhfeblaa
open Go.RowKit
set_option linter.unusedSimpArgs false
set_option linter.unusedVariables false
attribute [local go_sem ↓] Go.wp_at_zero Go.wp_at_succ

theorem PRep.size {w : World} {fb bb db wb : Nat} {m : Fm} {G : Nat → Prop} (h : PRep w fb bb db wb m G) : Calls Try.prog 22 #[.pointer (some ⟨fb, 0, none⟩)] w fun e w' => e = .returned (.int .i64 m.B.length) ∧ w = w' := by
  obtain ⟨pw, left, aT, cT, T, hp, hw, hg⟩ := h
  exact size_any fb _ _ _ w (hp.box.c 3)
theorem PRep.ops {w : World} {fb bb db wb : Nat} {m : Fm} {G : Nat → Prop} (h : PRep w fb bb db wb m G) : Calls Try.prog 25 #[.pointer (some ⟨fb, 0, none⟩)] w fun e w' => e = .returned (.int .i64 m.ops) ∧ w = w' := by
  obtain ⟨pw, left, aT, cT, T, hp, hw, hg⟩ := h
  exact ops_any fb _ w (hp.box.c 6)
theorem PRep.dirty {w : World} {fb bb db wb : Nat} {m : Fm} {G : Nat → Prop} {k : Nat} (h : PRep w fb bb db wb m G) (hg : m.Good k) (page : Int) : Calls Try.prog 24 #[.pointer (some ⟨fb, 0, none⟩), .int .i64 page] w fun e w' => e = .returned (.bool (drt m.D page)) ∧ w = w' := by
  obtain ⟨pw, left, aT, cT, T, hp, hw, hg'⟩ := h
  have := hg.sp
  have := hg.lD
  exact dirty_any fb db m.D _ page w (hp.box.c 4) hp.ds (by omega)
theorem PRep.byt {w : World} {fb bb db wb : Nat} {m : Fm} {G : Nat → Prop} (h : PRep w fb bb db wb m G) : Byt m.B := by
  obtain ⟨pw, left, aT, cT, T, hp, hw, hg⟩ := h
  exact hp.byt
set_option maxRecDepth 100000 in
set_option maxHeartbeats 1000000 in
theorem reads_live (s p b page : Int) (a2 : Option Addr) (len cap : Nat) (at_ n : Int) (w : World) (hs : -9223372036854775808 ≤ s ∧ s ≤ 9223372036854775807) (hp : -9223372036854775808 ≤ p ∧ p ≤ 9223372036854775807) (hb : -9223372036854775808 ≤ b ∧ b ≤ 9223372036854775807) (hC : ¬ (sml s p b = true ∧ chk s p b = 0)) :
    Calls Try.prog 6 #[.agg #[.int .i64 s, .int .i64 p, .int .i64 b], .int .i64 page, .slice a2 len cap, .int .i64 at_, .int .i64 n] w fun e w' => e = .returned (.bool true) ∧ Below w.heap.size w w' := by
  have hsm : ∀ W, _ := fun W => small_any s p b W hs hp hb
  have hck : ∀ W, _ := fun W => check_any s p b W hs hp hb
  have h0 := Box.new w 23 [.int .i64 s, .int .i64 p, .int .i64 b]
  have HG : Hid (w.grownBy (w.alloc (.cells #[.int .i64 s, .int .i64 p, .int .i64 b] 23)) none) := World.grownBy_alloc _ _ _
  have c0 : (w.alloc (.cells #[.int .i64 s, .int .i64 p, .int .i64 b] 23)).cell? ⟨w.heap.size, 0, none⟩ = some (.int .i64 s) := h0.c 0
  have c1 : (w.alloc (.cells #[.int .i64 s, .int .i64 p, .int .i64 b] 23)).cell? ⟨w.heap.size, 1, none⟩ = some (.int .i64 p) := h0.c 1
  have c2 : (w.alloc (.cells #[.int .i64 s, .int .i64 p, .int .i64 b] 23)).cell? ⟨w.heap.size, 2, none⟩ = some (.int .i64 b) := h0.c 2
  clear hs hp hb h0
  generalize sml s p b = S at *
  generalize chk s p b = E at *
  cases S with
  | false =>
    go_enter Try.func6, Try.ntmps6
    go_wp2_with (first | (go_at_call 8; refine (hsm _).mono ?_; rintro e w' ⟨rfl, hg'⟩; have q4 := hidG (by assumption) hg'; clear hg') | (go_at_call 9; refine (live_any _).mono ?_; rintro e w' ⟨rfl, hg'⟩; have s4 := hidG (by assumption) hg'; clear hg'))
    go_ret
    exact ⟨rfl, grown_below (Hid.out (by assumption))⟩
  | true =>
    have hE : (E != 0) = true := by
      simp only [true_and] at hC
      simpa using hC
    go_enter Try.func6, Try.ntmps6
    go_wp2_with (first | (go_at_call 8; refine (hsm _).mono ?_; rintro e w' ⟨rfl, hg'⟩; have q0 := keep1 hg' c0; have q1 := keep1 hg' c1; have q2 := keep1 hg' c2; have q4 := hidG (by assumption) hg'; clear hg') | (go_at_call 12; refine (hck _).mono ?_; rintro e w' ⟨rfl, hw'⟩; have r4 := hidG (by assumption) (by rw [hw']; exact World.grownBy_alloc _ _ _ : World.grownBy _ w' none); clear hw') | (go_at_call 9; refine (live_any _).mono ?_; rintro e w' ⟨rfl, hg'⟩; have s4 := hidG (by assumption) hg'; clear hg'))
    go_ret
    exact ⟨rfl, grown_below (Hid.out (by assumption))⟩
/-- what a write to a new flash leaves -/
theorem new_write {s p b : Nat} (hs : 0 < s ∧ s ≤ 16) (hp : 0 < p ∧ p ≤ 16) (hb : 16 ≤ b ∧ b ≤ 64) (page : Int) (xs : List Int) :
    ((Fm.new s p b).write page xs).1.off = false ∧ ((Fm.new s p b).write page xs).1.B.length = s * p * b ∧ -100 ≤ ((Fm.new s p b).write page xs).2 ∧ ((Fm.new s p b).write page xs).2 ≤ 100 ∧
    ((((Fm.new s p b).write page xs).2 ≠ 0 ∧ drt ((Fm.new s p b).write page xs).1.D page = false ∧ ((Fm.new s p b).write page xs).1.ops = 0) ∨
     (((Fm.new s p b).write page xs).2 = 0 ∧ ∃ i : Nat, page = i ∧ i < s * p ∧ xs.length ≤ b ∧ drt ((Fm.new s p b).write page xs).1.D page = true ∧ ((Fm.new s p b).write page xs).1.ops = 1 ∧ ∀ j, j < s * p * b → ((Fm.new s p b).write page xs).1.B[j]? = some (if i * b ≤ j ∧ j - i * b < xs.length then xs.getD (j - i * b) 0 else 255))) := by
  have gd0 : (Fm.new s p b).Good 0 := Fm.good_new hs hp (by omega)
  have g1 := Fm.good_write gd0 page xs
  have hlB := g1.lB
  have hD : (Fm.new s p b).D.length = s * p := gd0.lD
  have bad : ∀ E : Int, (Fm.new s p b).wrE page xs = E → E ≠ 0 → -100 ≤ E → E ≤ 100 → ((Fm.new s p b).write page xs).1.off = false ∧ ((Fm.new s p b).write page xs).1.B.length = s * p * b ∧ -100 ≤ ((Fm.new s p b).write page xs).2 ∧ ((Fm.new s p b).write page xs).2 ≤ 100 ∧ (((Fm.new s p b).write page xs).2 ≠ 0 ∧ drt ((Fm.new s p b).write page xs).1.D page = false ∧ ((Fm.new s p b).write page xs).1.ops = 0) := by
    intro E hE h0 h1 h2
    rw [Fm.write, if_neg (by rw [hE]; exact h0), hE]
    refine ⟨rfl, gd0.lB, h1, h2, h0, ?_, rfl⟩
    unfold drt
    have : (Fm.new s p b).D.getD page.toNat false = false := by
      unfold Fm.new
      rw [List.getD_eq_getElem?_getD, List.getElem?_replicate]
      split <;> rfl
    simp only [this, Bool.and_false]
  rcases wrE_cases (Fm.new s p b) page xs with ⟨h1, hE⟩ | ⟨h1, h2, hE⟩ | ⟨i, rfl, hi, hl, ⟨hoff, hE⟩ | ⟨hoff, ⟨hd, hE⟩ | ⟨hd, hE⟩⟩⟩
  · obtain ⟨a, b', c, d, e⟩ := bad 9 hE (by decide) (by decide) (by decide); exact ⟨a, b', c, d, .inl e⟩
  · obtain ⟨a, b', c, d, e⟩ := bad 2 hE (by decide) (by decide) (by decide); exact ⟨a, b', c, d, .inl e⟩
  · obtain ⟨a, b', c, d, e⟩ := bad 40 hE (by decide) (by decide) (by decide); exact ⟨a, b', c, d, .inl e⟩
  · obtain ⟨a, b', c, d, e⟩ := bad 41 hE (by decide) (by decide) (by decide); exact ⟨a, b', c, d, .inl e⟩
  · rw [Fm.write, if_pos hE] at hlB ⊢
    have ht : (Fm.new s p b).torn = 0 := by simp [Fm.torn, Fm.new]
    simp only [ht]
    refine ⟨by simp [Fm.written, Fm.new], hlB, by decide, by decide, .inr ⟨by trivial, i, by trivial, by rw [← hD]; exact hi, hl, ?_, by simp [Fm.written, Fm.new], fun j hj => ?_⟩⟩
    · unfold drt
      have hl2 : ((Fm.new s p b).written (Int.toNat (i : Int)) xs).D.length = (Fm.new s p b).D.length := by simp [Fm.written]
      rw [hl2, inL_nat hi]
      simp only [Fm.written, Int.toNat_natCast, List.getD_eq_getElem?_getD]
      rw [List.getElem?_set_self hi]; rfl
    · rw [Int.toNat_natCast]; exact Fm.reads_new hs hp ⟨by omega, hb.2⟩ (by rw [← hD]; exact hi) hl j hj
end Go.Proofs.Ytdefcfmnhfeblaa
