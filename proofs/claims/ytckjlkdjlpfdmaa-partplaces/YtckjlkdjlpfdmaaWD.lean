/- The walk of PartPlaces. -/
import Derived.Test.YtckjlkdjlpfdmaaWC
import Derived.Deep.RegionHeld3
namespace Go.Proofs.Ytckjlkdjlpfdmaa
open Go.RowKit
set_option linter.unusedSimpArgs false
set_option linter.unusedVariables false

theorem keep1 {w w' : World} (hg : w.grownBy w' none) {b o : Nat} {v : Value} (h : w.cell? ⟨b, o, none⟩ = some v) : w'.cell? ⟨b, o, none⟩ = some v := by
  rw [(grown_below hg).cell (p := ⟨b, o, none⟩) (cell_lt h)]; exact h
theorem hidG {w a b : World} (h : Hid (w.grownBy a none)) (k : a.grownBy b none) : Hid (w.grownBy b none) := grown_trans h.out k
set_option maxRecDepth 4000 in
set_option maxHeartbeats 4000000 in
theorem partPlaces_walk (P : Pl) (slot at_ : Int) (w : World) (hP : P.ok) (hs : bnd64 slot) (ha : bnd64 at_) :
    Calls Try.prog 4 #[P.val, .int .i64 slot, .int .i64 at_] w fun e w' => e = .returned (.bool true) ∧ Below w.heap.size w w' := by
  have h1 := fun W => ppage_any P slot at_ W hP hs ha
  have h2 := fun W => page_any P slot at_ W hP hs ha
  have h3 := fun W => pbase_any P slot W hP hs
  have h4 := fun W => psector_any P slot at_ W hP hs ha
  have h5 := fun W => right_any P W hP
  have h6 := fun W => psize_any P W hP
  have HL : Hid (∀ W : World, Calls Try.prog 11 #[] W fun e w' => e = .returned (.bool true) ∧ W.grownBy w' none) := fun W => live_any W
  generalize pge P slot at_ = pg at *
  obtain ⟨e1, e2, e3⟩ := pg
  simp only at h1 h2
  have hsl : -9223372036854775808 ≤ slot ∧ slot ≤ 9223372036854775807 := hs
  have hal : -9223372036854775808 ≤ at_ ∧ at_ ≤ 9223372036854775807 := ha
  by_cases hA : rgt P = false ∨ slot < 0 ∨ 1 < slot
  · have eb : pbs P slot = (0, 1) := by unfold pbs; rw [if_pos hA]
    have es : psc P slot at_ = (0, 1) := by unfold psc; rw [if_pos hA]
    rw [eb] at h3
    rw [es] at h4
    have hz : (psz P == 0) = !(rgt P) := by
      unfold psz
      cases hr : rgt P with
      | false => rfl
      | true =>
        obtain ⟨f1, f2, f3, -, -, -, -, -, f4, -⟩ := rgt_facts hr
        have := prod3 (n := P.n) (p := P.p) (b := P.b) (by omega) f2 (by omega)
        have hne : sze P ≠ 0 := by unfold sze; omega
        simpa using hne
    generalize psz P = sz at *
    clear eb es hP hs ha
    have hr3 : rgt P = false ∨ (rgt P = true ∧ slot < 0) ∨ (rgt P = true ∧ decide (slot < 0) = false ∧ 1 < slot) := by
      cases hr : rgt P with
      | false => exact Or.inl rfl
      | true =>
        rcases hA with h | h | h
        · rw [hr] at h; cases h
        · exact Or.inr (Or.inl ⟨rfl, h⟩)
        · exact Or.inr (Or.inr ⟨rfl, decide_eq_false (by omega), h⟩)
    clear hA
    generalize rgt P = rq at *
    obtain ⟨s, p, b, x0, x1, y0, y1, n⟩ := P
    simp only [Pl.val] at *
    have H0 : Hid _ := And.intro (Bx.new w 26 [.int .i64 s, .int .i64 p, .int .i64 b, .int .i64 x0, .int .i64 x1, .int .i64 y0, .int .i64 y1, .int .i64 n]) (World.grownBy_alloc w (.cells #[.int .i64 s, .int .i64 p, .int .i64 b, .int .i64 x0, .int .i64 x1, .int .i64 y0, .int .i64 y1, .int .i64 n] 26) none)
    obtain ⟨b0, b1, b2, b3, b4, b5, b6, b7⟩ := bx8 H0.out.1
    rcases hr3 with rfl | ⟨rfl, k⟩ | ⟨rfl, k1, k2⟩
    all_goals
      simp only [Bool.not_true, Bool.not_false] at hz
      go_enter Try.func4, Try.ntmps4
      go_wp2_with (first | (go_at_call 8; with_reducible refine (num_any _ _).mono ?_; rintro e w' ⟨rfl, rfl⟩))
      refine (h1 _).mono ?_
      rintro e w1 ⟨rfl, g1⟩
      have H1 : Hid _ := And.intro (H0.out.1.kept g1) (grown_trans H0.out.2 g1)
      clear b0 b1 b2 b3 b4 b5 b6 b7 g1 H0
      obtain ⟨b0, b1, b2, b3, b4, b5, b6, b7⟩ := bx8 H1.out.1
      simp only
      go_wp2_with (first | (go_at_call 8; with_reducible refine (num_any _ _).mono ?_; rintro e w' ⟨rfl, rfl⟩))
      refine (h2 _).mono ?_
      rintro e w2 ⟨rfl, g2⟩
      have H2 : Hid _ := And.intro (H1.out.1.kept g2) (grown_trans H1.out.2 g2)
      clear b0 b1 b2 b3 b4 b5 b6 b7 g2 H1
      obtain ⟨b0, b1, b2, b3, b4, b5, b6, b7⟩ := bx8 H2.out.1
      simp only
      go_wp2_with (first | (go_at_call 8; with_reducible refine (num_any _ _).mono ?_; rintro e w' ⟨rfl, rfl⟩))
      refine (h3 _).mono ?_
      rintro e w3 ⟨rfl, g3⟩
      have H3 : Hid _ := And.intro (H2.out.1.kept g3) (grown_trans H2.out.2 g3)
      clear b0 b1 b2 b3 b4 b5 b6 b7 g3 H2
      obtain ⟨b0, b1, b2, b3, b4, b5, b6, b7⟩ := bx8 H3.out.1
      simp only
      go_wp2_with (first | (go_at_call 8; with_reducible refine (num_any _ _).mono ?_; rintro e w' ⟨rfl, rfl⟩))
      refine (h4 _).mono ?_
      rintro e w4 ⟨rfl, g4⟩
      have H4 : Hid _ := And.intro (H3.out.1.kept g4) (grown_trans H3.out.2 g4)
      clear b0 b1 b2 b3 b4 b5 b6 b7 g4 H3
      obtain ⟨b0, b1, b2, b3, b4, b5, b6, b7⟩ := bx8 H4.out.1
      simp only
      go_wp2_with (first | (go_at_call 8; with_reducible refine (num_any _ _).mono ?_; rintro e w' ⟨rfl, rfl⟩))
      refine (h5 _).mono ?_
      rintro e w5 ⟨rfl, g5⟩
      have H5 : Hid _ := And.intro (H4.out.1.kept g5) (grown_trans H4.out.2 g5)
      clear b0 b1 b2 b3 b4 b5 b6 b7 g5 H4
      obtain ⟨b0, b1, b2, b3, b4, b5, b6, b7⟩ := bx8 H5.out.1
      simp only
      go_wp2_with (first | (go_at_call 8; with_reducible refine (num_any _ _).mono ?_; rintro e w' ⟨rfl, rfl⟩))
      refine (h6 _).mono ?_
      rintro e w6 ⟨rfl, g6⟩
      have H6 : Hid _ := And.intro (H5.out.1.kept g6) (grown_trans H5.out.2 g6)
      clear b0 b1 b2 b3 b4 b5 b6 b7 g6 H5
      obtain ⟨b0, b1, b2, b3, b4, b5, b6, b7⟩ := bx8 H6.out.1
      simp only
      go_wp2_with (first | (go_at_call 8; with_reducible refine (num_any _ _).mono ?_; rintro e w' ⟨rfl, rfl⟩))
      refine (h5 _).mono ?_
      rintro e w7 ⟨rfl, g7⟩
      have H7 : Hid _ := And.intro (H6.out.1.kept g7) (grown_trans H6.out.2 g7)
      clear b0 b1 b2 b3 b4 b5 b6 b7 g7 H6
      obtain ⟨b0, b1, b2, b3, b4, b5, b6, b7⟩ := bx8 H7.out.1
      simp only
      go_wp2_with (first | (go_at_call 8; with_reducible refine (num_any _ _).mono ?_; rintro e w' ⟨rfl, rfl⟩) | (go_at_call 11; refine (HL.out _).mono ?_; rintro e wl ⟨rfl, gl⟩; have HF : Hid _ := grown_trans H7.out.2 gl; clear gl))
      go_ret
      exact ⟨rfl, grown_below HF.out⟩
  · have hr : rgt P = true := by cases k : rgt P with | true => rfl | false => exact absurd (Or.inl k) hA
    obtain ⟨f1, f2, f3, -, -, f5, f6, -, f4, -⟩ := rgt_facts hr
    have h7 := fun W => size_any P W hr
    have ez : psz P = sze P := by unfold psz; rw [if_pos hr]
    rw [ez] at h6
    have eb : pbs P slot = ((if slot = 0 then P.y0 else P.y1) * P.p * P.b, 0) := by unfold pbs; rw [if_neg hA]
    have es : psc P slot at_ = if at_ < 0 ∨ P.n ≤ at_ then (0, 9) else ((if slot = 0 then P.y0 else P.y1) + at_, 0) := by unfold psc; rw [if_neg hA]
    rw [eb] at h3
    rw [es] at h4
    rw [hr] at h5
    generalize sze P = sz at *
    clear eb es ez hP hs ha hr
    obtain ⟨s, p, b, x0, x1, y0, y1, n⟩ := P
    simp only [Pl.val] at *
    have hy : (0 ≤ y0 ∧ y0 ≤ 4096) ∧ (0 ≤ y1 ∧ y1 ≤ 4096) ∧ (1 ≤ n ∧ n ≤ 4096) := by omega
    clear f5 f6 f4
    have H0 : Hid _ := And.intro (Bx.new w 26 [.int .i64 s, .int .i64 p, .int .i64 b, .int .i64 x0, .int .i64 x1, .int .i64 y0, .int .i64 y1, .int .i64 n]) (World.grownBy_alloc w (.cells #[.int .i64 s, .int .i64 p, .int .i64 b, .int .i64 x0, .int .i64 x1, .int .i64 y0, .int .i64 y1, .int .i64 n] 26) none)
    obtain ⟨b0, b1, b2, b3, b4, b5, b6, b7⟩ := bx8 H0.out.1
    rcases (by omega : slot = 0 ∨ slot = 1) with rfl | rfl
    · simp only [if_true, reduceIte] at h3 h4
      obtain ⟨m1, m2⟩ := yp_in (y := y0) (p := p) (by omega) f2
      have wy : IntKind.i64.wrap (y0 * p) = y0 * p := by rw [IntKind.wrap_i64]; omega
      have m3 : 0 ≤ y0 * p * b ∧ y0 * p * b ≤ 274877906944 := by
        have e0 := Int.mul_nonneg m1 (show (0 : Int) ≤ b by omega)
        have e1 : y0 * p * b ≤ 4194304 * 65536 := Int.mul_le_mul m2 f3.2 (by omega) (by omega)
        omega
      have wz : IntKind.i64.wrap (y0 * p * b) = y0 * p * b := by rw [IntKind.wrap_i64]; omega
      by_cases k : at_ < 0 ∨ n ≤ at_
      · rw [if_pos k] at h4
        have k' : at_ < 0 ∨ (decide (at_ < 0) = false ∧ n ≤ at_) := by
          rcases Int.lt_or_le at_ 0 with h | h
          · exact Or.inl h
          · exact Or.inr ⟨decide_eq_false (by omega), by omega⟩
        clear k
        go_enter Try.func4, Try.ntmps4
        go_wp2_with (first | (go_at_call 8; with_reducible refine (num_any _ _).mono ?_; rintro e w' ⟨rfl, rfl⟩))
        refine (h1 _).mono ?_
        rintro e w1 ⟨rfl, g1⟩
        have H1 : Hid _ := And.intro (H0.out.1.kept g1) (grown_trans H0.out.2 g1)
        clear b0 b1 b2 b3 b4 b5 b6 b7 g1 H0
        obtain ⟨b0, b1, b2, b3, b4, b5, b6, b7⟩ := bx8 H1.out.1
        simp only
        go_wp2_with (first | (go_at_call 8; with_reducible refine (num_any _ _).mono ?_; rintro e w' ⟨rfl, rfl⟩))
        refine (h2 _).mono ?_
        rintro e w2 ⟨rfl, g2⟩
        have H2 : Hid _ := And.intro (H1.out.1.kept g2) (grown_trans H1.out.2 g2)
        clear b0 b1 b2 b3 b4 b5 b6 b7 g2 H1
        obtain ⟨b0, b1, b2, b3, b4, b5, b6, b7⟩ := bx8 H2.out.1
        simp only
        go_wp2_with (first | (go_at_call 8; with_reducible refine (num_any _ _).mono ?_; rintro e w' ⟨rfl, rfl⟩))
        refine (h3 _).mono ?_
        rintro e w3 ⟨rfl, g3⟩
        have H3 : Hid _ := And.intro (H2.out.1.kept g3) (grown_trans H2.out.2 g3)
        clear b0 b1 b2 b3 b4 b5 b6 b7 g3 H2
        obtain ⟨b0, b1, b2, b3, b4, b5, b6, b7⟩ := bx8 H3.out.1
        simp only
        go_wp2_with (first | (go_at_call 8; with_reducible refine (num_any _ _).mono ?_; rintro e w' ⟨rfl, rfl⟩))
        refine (h4 _).mono ?_
        rintro e w4 ⟨rfl, g4⟩
        have H4 : Hid _ := And.intro (H3.out.1.kept g4) (grown_trans H3.out.2 g4)
        clear b0 b1 b2 b3 b4 b5 b6 b7 g4 H3
        obtain ⟨b0, b1, b2, b3, b4, b5, b6, b7⟩ := bx8 H4.out.1
        simp only
        go_wp2_with (first | (go_at_call 8; with_reducible refine (num_any _ _).mono ?_; rintro e w' ⟨rfl, rfl⟩))
        refine (h5 _).mono ?_
        rintro e w5 ⟨rfl, g5⟩
        have H5 : Hid _ := And.intro (H4.out.1.kept g5) (grown_trans H4.out.2 g5)
        clear b0 b1 b2 b3 b4 b5 b6 b7 g5 H4
        obtain ⟨b0, b1, b2, b3, b4, b5, b6, b7⟩ := bx8 H5.out.1
        simp only
        go_wp2_with (first | (go_at_call 8; with_reducible refine (num_any _ _).mono ?_; rintro e w' ⟨rfl, rfl⟩))
        have HG5 : Hid (w.grownBy w5.drew none) := grown_trans H5.out.2 (drewG w5)
        clear H5
        generalize w.heap.size = g at *
        clear h1 h2 h3 h4 h5 f1 hy m1 m2 m3
        go_region_held3 (fun w' => w'.cell? ⟨g, 0, none⟩ = some (.int .i64 s) ∧ w'.cell? ⟨g, 1, none⟩ = some (.int .i64 p) ∧ w'.cell? ⟨g, 2, none⟩ = some (.int .i64 b) ∧ w'.cell? ⟨g, 3, none⟩ = some (.int .i64 x0) ∧ w'.cell? ⟨g, 4, none⟩ = some (.int .i64 x1) ∧ w'.cell? ⟨g, 5, none⟩ = some (.int .i64 y0) ∧ w'.cell? ⟨g, 6, none⟩ = some (.int .i64 y1) ∧ w'.cell? ⟨g, 7, none⟩ = some (.int .i64 n) ∧ Hid (w.grownBy w' none)) (first | (refine ⟨?_, ?_, ?_, ?_, ?_, ?_, ?_, ?_, ?_⟩ <;> assumption) | go_keep) (first | (go_at_call 16; refine (h6 _).mono ?_; rintro e w' ⟨rfl, hg'⟩; have q0 := keep1 hg' (b := g) (o := 0) (v := .int .i64 s) (by simp [*]); have q1 := keep1 hg' (b := g) (o := 1) (v := .int .i64 p) (by simp [*]); have q2 := keep1 hg' (b := g) (o := 2) (v := .int .i64 b) (by simp [*]); have q3 := keep1 hg' (b := g) (o := 3) (v := .int .i64 x0) (by simp [*]); have q4 := keep1 hg' (b := g) (o := 4) (v := .int .i64 x1) (by simp [*]); have q5 := keep1 hg' (b := g) (o := 5) (v := .int .i64 y0) (by simp [*]); have q6 := keep1 hg' (b := g) (o := 6) (v := .int .i64 y1) (by simp [*]); have q7 := keep1 hg' (b := g) (o := 7) (v := .int .i64 n) (by simp [*]); have q8 := hidG (by assumption) hg'; clear hg') | (go_at_call 17; refine (h7 _).mono ?_; rintro e w' ⟨rfl, hg'⟩; have q0 := keep1 hg' (b := g) (o := 0) (v := .int .i64 s) (by simp [*]); have q1 := keep1 hg' (b := g) (o := 1) (v := .int .i64 p) (by simp [*]); have q2 := keep1 hg' (b := g) (o := 2) (v := .int .i64 b) (by simp [*]); have q3 := keep1 hg' (b := g) (o := 3) (v := .int .i64 x0) (by simp [*]); have q4 := keep1 hg' (b := g) (o := 4) (v := .int .i64 x1) (by simp [*]); have q5 := keep1 hg' (b := g) (o := 5) (v := .int .i64 y0) (by simp [*]); have q6 := keep1 hg' (b := g) (o := 6) (v := .int .i64 y1) (by simp [*]); have q7 := keep1 hg' (b := g) (o := 7) (v := .int .i64 n) (by simp [*]); have q8 := hidG (by assumption) hg'; clear hg') | (go_at_call 8; with_reducible refine (num_any _ _).mono ?_; rintro e w' ⟨rfl, rfl⟩) | fail)
        all_goals
          rcases k' with k | ⟨k1, k2⟩
          all_goals
            go_wp2_with (first | (go_at_call 8; with_reducible refine (num_any _ _).mono ?_; rintro e w' ⟨rfl, rfl⟩) | (go_at_call 11; refine (HL.out _).mono ?_; rintro e wl ⟨rfl, gl⟩; have HF : Hid _ := grown_trans (Hid.out (by assumption)) gl; clear gl))
            go_ret
            exact ⟨rfl, grown_below HF.out⟩
      · rw [if_neg k] at h4
        have k1 : decide (at_ < 0) = false := decide_eq_false (by omega)
        have k2 : decide (n ≤ at_) = false := decide_eq_false (by omega)
        have k3 : -4096 ≤ y0 + at_ ∧ y0 + at_ ≤ 8192 := by omega
        clear k
        go_enter Try.func4, Try.ntmps4
        go_wp2_with (first | (go_at_call 8; with_reducible refine (num_any _ _).mono ?_; rintro e w' ⟨rfl, rfl⟩))
        refine (h1 _).mono ?_
        rintro e w1 ⟨rfl, g1⟩
        have H1 : Hid _ := And.intro (H0.out.1.kept g1) (grown_trans H0.out.2 g1)
        clear b0 b1 b2 b3 b4 b5 b6 b7 g1 H0
        obtain ⟨b0, b1, b2, b3, b4, b5, b6, b7⟩ := bx8 H1.out.1
        simp only
        go_wp2_with (first | (go_at_call 8; with_reducible refine (num_any _ _).mono ?_; rintro e w' ⟨rfl, rfl⟩))
        refine (h2 _).mono ?_
        rintro e w2 ⟨rfl, g2⟩
        have H2 : Hid _ := And.intro (H1.out.1.kept g2) (grown_trans H1.out.2 g2)
        clear b0 b1 b2 b3 b4 b5 b6 b7 g2 H1
        obtain ⟨b0, b1, b2, b3, b4, b5, b6, b7⟩ := bx8 H2.out.1
        simp only
        go_wp2_with (first | (go_at_call 8; with_reducible refine (num_any _ _).mono ?_; rintro e w' ⟨rfl, rfl⟩))
        refine (h3 _).mono ?_
        rintro e w3 ⟨rfl, g3⟩
        have H3 : Hid _ := And.intro (H2.out.1.kept g3) (grown_trans H2.out.2 g3)
        clear b0 b1 b2 b3 b4 b5 b6 b7 g3 H2
        obtain ⟨b0, b1, b2, b3, b4, b5, b6, b7⟩ := bx8 H3.out.1
        simp only
        go_wp2_with (first | (go_at_call 8; with_reducible refine (num_any _ _).mono ?_; rintro e w' ⟨rfl, rfl⟩))
        refine (h4 _).mono ?_
        rintro e w4 ⟨rfl, g4⟩
        have H4 : Hid _ := And.intro (H3.out.1.kept g4) (grown_trans H3.out.2 g4)
        clear b0 b1 b2 b3 b4 b5 b6 b7 g4 H3
        obtain ⟨b0, b1, b2, b3, b4, b5, b6, b7⟩ := bx8 H4.out.1
        simp only
        go_wp2_with (first | (go_at_call 8; with_reducible refine (num_any _ _).mono ?_; rintro e w' ⟨rfl, rfl⟩))
        refine (h5 _).mono ?_
        rintro e w5 ⟨rfl, g5⟩
        have H5 : Hid _ := And.intro (H4.out.1.kept g5) (grown_trans H4.out.2 g5)
        clear b0 b1 b2 b3 b4 b5 b6 b7 g5 H4
        obtain ⟨b0, b1, b2, b3, b4, b5, b6, b7⟩ := bx8 H5.out.1
        simp only
        go_wp2_with (first | (go_at_call 8; with_reducible refine (num_any _ _).mono ?_; rintro e w' ⟨rfl, rfl⟩))
        have HG5 : Hid (w.grownBy w5.drew none) := grown_trans H5.out.2 (drewG w5)
        clear H5
        generalize w.heap.size = g at *
        clear h1 h2 h3 h4 h5 f1 hy m1 m2 m3
        go_region_held3 (fun w' => w'.cell? ⟨g, 0, none⟩ = some (.int .i64 s) ∧ w'.cell? ⟨g, 1, none⟩ = some (.int .i64 p) ∧ w'.cell? ⟨g, 2, none⟩ = some (.int .i64 b) ∧ w'.cell? ⟨g, 3, none⟩ = some (.int .i64 x0) ∧ w'.cell? ⟨g, 4, none⟩ = some (.int .i64 x1) ∧ w'.cell? ⟨g, 5, none⟩ = some (.int .i64 y0) ∧ w'.cell? ⟨g, 6, none⟩ = some (.int .i64 y1) ∧ w'.cell? ⟨g, 7, none⟩ = some (.int .i64 n) ∧ Hid (w.grownBy w' none)) (first | (refine ⟨?_, ?_, ?_, ?_, ?_, ?_, ?_, ?_, ?_⟩ <;> assumption) | go_keep) (first | (go_at_call 16; refine (h6 _).mono ?_; rintro e w' ⟨rfl, hg'⟩; have q0 := keep1 hg' (b := g) (o := 0) (v := .int .i64 s) (by simp [*]); have q1 := keep1 hg' (b := g) (o := 1) (v := .int .i64 p) (by simp [*]); have q2 := keep1 hg' (b := g) (o := 2) (v := .int .i64 b) (by simp [*]); have q3 := keep1 hg' (b := g) (o := 3) (v := .int .i64 x0) (by simp [*]); have q4 := keep1 hg' (b := g) (o := 4) (v := .int .i64 x1) (by simp [*]); have q5 := keep1 hg' (b := g) (o := 5) (v := .int .i64 y0) (by simp [*]); have q6 := keep1 hg' (b := g) (o := 6) (v := .int .i64 y1) (by simp [*]); have q7 := keep1 hg' (b := g) (o := 7) (v := .int .i64 n) (by simp [*]); have q8 := hidG (by assumption) hg'; clear hg') | (go_at_call 17; refine (h7 _).mono ?_; rintro e w' ⟨rfl, hg'⟩; have q0 := keep1 hg' (b := g) (o := 0) (v := .int .i64 s) (by simp [*]); have q1 := keep1 hg' (b := g) (o := 1) (v := .int .i64 p) (by simp [*]); have q2 := keep1 hg' (b := g) (o := 2) (v := .int .i64 b) (by simp [*]); have q3 := keep1 hg' (b := g) (o := 3) (v := .int .i64 x0) (by simp [*]); have q4 := keep1 hg' (b := g) (o := 4) (v := .int .i64 x1) (by simp [*]); have q5 := keep1 hg' (b := g) (o := 5) (v := .int .i64 y0) (by simp [*]); have q6 := keep1 hg' (b := g) (o := 6) (v := .int .i64 y1) (by simp [*]); have q7 := keep1 hg' (b := g) (o := 7) (v := .int .i64 n) (by simp [*]); have q8 := hidG (by assumption) hg'; clear hg') | (go_at_call 8; with_reducible refine (num_any _ _).mono ?_; rintro e w' ⟨rfl, rfl⟩) | fail)
        all_goals
          go_wp2_with (first | (go_at_call 8; with_reducible refine (num_any _ _).mono ?_; rintro e w' ⟨rfl, rfl⟩) | (go_at_call 11; refine (HL.out _).mono ?_; rintro e wl ⟨rfl, gl⟩; have HF : Hid _ := grown_trans (Hid.out (by assumption)) gl; clear gl))
          go_ret
          exact ⟨rfl, grown_below HF.out⟩
    · simp only [if_false, reduceIte, Int.reduceEq] at h3 h4
      obtain ⟨m1, m2⟩ := yp_in (y := y1) (p := p) (by omega) f2
      have wy : IntKind.i64.wrap (y1 * p) = y1 * p := by rw [IntKind.wrap_i64]; omega
      have m3 : 0 ≤ y1 * p * b ∧ y1 * p * b ≤ 274877906944 := by
        have e0 := Int.mul_nonneg m1 (show (0 : Int) ≤ b by omega)
        have e1 : y1 * p * b ≤ 4194304 * 65536 := Int.mul_le_mul m2 f3.2 (by omega) (by omega)
        omega
      have wz : IntKind.i64.wrap (y1 * p * b) = y1 * p * b := by rw [IntKind.wrap_i64]; omega
      by_cases k : at_ < 0 ∨ n ≤ at_
      · rw [if_pos k] at h4
        have k' : at_ < 0 ∨ (decide (at_ < 0) = false ∧ n ≤ at_) := by
          rcases Int.lt_or_le at_ 0 with h | h
          · exact Or.inl h
          · exact Or.inr ⟨decide_eq_false (by omega), by omega⟩
        clear k
        go_enter Try.func4, Try.ntmps4
        go_wp2_with (first | (go_at_call 8; with_reducible refine (num_any _ _).mono ?_; rintro e w' ⟨rfl, rfl⟩))
        refine (h1 _).mono ?_
        rintro e w1 ⟨rfl, g1⟩
        have H1 : Hid _ := And.intro (H0.out.1.kept g1) (grown_trans H0.out.2 g1)
        clear b0 b1 b2 b3 b4 b5 b6 b7 g1 H0
        obtain ⟨b0, b1, b2, b3, b4, b5, b6, b7⟩ := bx8 H1.out.1
        simp only
        go_wp2_with (first | (go_at_call 8; with_reducible refine (num_any _ _).mono ?_; rintro e w' ⟨rfl, rfl⟩))
        refine (h2 _).mono ?_
        rintro e w2 ⟨rfl, g2⟩
        have H2 : Hid _ := And.intro (H1.out.1.kept g2) (grown_trans H1.out.2 g2)
        clear b0 b1 b2 b3 b4 b5 b6 b7 g2 H1
        obtain ⟨b0, b1, b2, b3, b4, b5, b6, b7⟩ := bx8 H2.out.1
        simp only
        go_wp2_with (first | (go_at_call 8; with_reducible refine (num_any _ _).mono ?_; rintro e w' ⟨rfl, rfl⟩))
        refine (h3 _).mono ?_
        rintro e w3 ⟨rfl, g3⟩
        have H3 : Hid _ := And.intro (H2.out.1.kept g3) (grown_trans H2.out.2 g3)
        clear b0 b1 b2 b3 b4 b5 b6 b7 g3 H2
        obtain ⟨b0, b1, b2, b3, b4, b5, b6, b7⟩ := bx8 H3.out.1
        simp only
        go_wp2_with (first | (go_at_call 8; with_reducible refine (num_any _ _).mono ?_; rintro e w' ⟨rfl, rfl⟩))
        refine (h4 _).mono ?_
        rintro e w4 ⟨rfl, g4⟩
        have H4 : Hid _ := And.intro (H3.out.1.kept g4) (grown_trans H3.out.2 g4)
        clear b0 b1 b2 b3 b4 b5 b6 b7 g4 H3
        obtain ⟨b0, b1, b2, b3, b4, b5, b6, b7⟩ := bx8 H4.out.1
        simp only
        go_wp2_with (first | (go_at_call 8; with_reducible refine (num_any _ _).mono ?_; rintro e w' ⟨rfl, rfl⟩))
        refine (h5 _).mono ?_
        rintro e w5 ⟨rfl, g5⟩
        have H5 : Hid _ := And.intro (H4.out.1.kept g5) (grown_trans H4.out.2 g5)
        clear b0 b1 b2 b3 b4 b5 b6 b7 g5 H4
        obtain ⟨b0, b1, b2, b3, b4, b5, b6, b7⟩ := bx8 H5.out.1
        simp only
        go_wp2_with (first | (go_at_call 8; with_reducible refine (num_any _ _).mono ?_; rintro e w' ⟨rfl, rfl⟩))
        have HG5 : Hid (w.grownBy w5.drew none) := grown_trans H5.out.2 (drewG w5)
        clear H5
        generalize w.heap.size = g at *
        clear h1 h2 h3 h4 h5 f1 hy m1 m2 m3
        go_region_held3 (fun w' => w'.cell? ⟨g, 0, none⟩ = some (.int .i64 s) ∧ w'.cell? ⟨g, 1, none⟩ = some (.int .i64 p) ∧ w'.cell? ⟨g, 2, none⟩ = some (.int .i64 b) ∧ w'.cell? ⟨g, 3, none⟩ = some (.int .i64 x0) ∧ w'.cell? ⟨g, 4, none⟩ = some (.int .i64 x1) ∧ w'.cell? ⟨g, 5, none⟩ = some (.int .i64 y0) ∧ w'.cell? ⟨g, 6, none⟩ = some (.int .i64 y1) ∧ w'.cell? ⟨g, 7, none⟩ = some (.int .i64 n) ∧ Hid (w.grownBy w' none)) (first | (refine ⟨?_, ?_, ?_, ?_, ?_, ?_, ?_, ?_, ?_⟩ <;> assumption) | go_keep) (first | (go_at_call 16; refine (h6 _).mono ?_; rintro e w' ⟨rfl, hg'⟩; have q0 := keep1 hg' (b := g) (o := 0) (v := .int .i64 s) (by simp [*]); have q1 := keep1 hg' (b := g) (o := 1) (v := .int .i64 p) (by simp [*]); have q2 := keep1 hg' (b := g) (o := 2) (v := .int .i64 b) (by simp [*]); have q3 := keep1 hg' (b := g) (o := 3) (v := .int .i64 x0) (by simp [*]); have q4 := keep1 hg' (b := g) (o := 4) (v := .int .i64 x1) (by simp [*]); have q5 := keep1 hg' (b := g) (o := 5) (v := .int .i64 y0) (by simp [*]); have q6 := keep1 hg' (b := g) (o := 6) (v := .int .i64 y1) (by simp [*]); have q7 := keep1 hg' (b := g) (o := 7) (v := .int .i64 n) (by simp [*]); have q8 := hidG (by assumption) hg'; clear hg') | (go_at_call 17; refine (h7 _).mono ?_; rintro e w' ⟨rfl, hg'⟩; have q0 := keep1 hg' (b := g) (o := 0) (v := .int .i64 s) (by simp [*]); have q1 := keep1 hg' (b := g) (o := 1) (v := .int .i64 p) (by simp [*]); have q2 := keep1 hg' (b := g) (o := 2) (v := .int .i64 b) (by simp [*]); have q3 := keep1 hg' (b := g) (o := 3) (v := .int .i64 x0) (by simp [*]); have q4 := keep1 hg' (b := g) (o := 4) (v := .int .i64 x1) (by simp [*]); have q5 := keep1 hg' (b := g) (o := 5) (v := .int .i64 y0) (by simp [*]); have q6 := keep1 hg' (b := g) (o := 6) (v := .int .i64 y1) (by simp [*]); have q7 := keep1 hg' (b := g) (o := 7) (v := .int .i64 n) (by simp [*]); have q8 := hidG (by assumption) hg'; clear hg') | (go_at_call 8; with_reducible refine (num_any _ _).mono ?_; rintro e w' ⟨rfl, rfl⟩) | fail)
        all_goals
          rcases k' with k | ⟨k1, k2⟩
          all_goals
            go_wp2_with (first | (go_at_call 8; with_reducible refine (num_any _ _).mono ?_; rintro e w' ⟨rfl, rfl⟩) | (go_at_call 11; refine (HL.out _).mono ?_; rintro e wl ⟨rfl, gl⟩; have HF : Hid _ := grown_trans (Hid.out (by assumption)) gl; clear gl))
            go_ret
            exact ⟨rfl, grown_below HF.out⟩
      · rw [if_neg k] at h4
        have k1 : decide (at_ < 0) = false := decide_eq_false (by omega)
        have k2 : decide (n ≤ at_) = false := decide_eq_false (by omega)
        have k3 : -4096 ≤ y1 + at_ ∧ y1 + at_ ≤ 8192 := by omega
        clear k
        go_enter Try.func4, Try.ntmps4
        go_wp2_with (first | (go_at_call 8; with_reducible refine (num_any _ _).mono ?_; rintro e w' ⟨rfl, rfl⟩))
        refine (h1 _).mono ?_
        rintro e w1 ⟨rfl, g1⟩
        have H1 : Hid _ := And.intro (H0.out.1.kept g1) (grown_trans H0.out.2 g1)
        clear b0 b1 b2 b3 b4 b5 b6 b7 g1 H0
        obtain ⟨b0, b1, b2, b3, b4, b5, b6, b7⟩ := bx8 H1.out.1
        simp only
        go_wp2_with (first | (go_at_call 8; with_reducible refine (num_any _ _).mono ?_; rintro e w' ⟨rfl, rfl⟩))
        refine (h2 _).mono ?_
        rintro e w2 ⟨rfl, g2⟩
        have H2 : Hid _ := And.intro (H1.out.1.kept g2) (grown_trans H1.out.2 g2)
        clear b0 b1 b2 b3 b4 b5 b6 b7 g2 H1
        obtain ⟨b0, b1, b2, b3, b4, b5, b6, b7⟩ := bx8 H2.out.1
        simp only
        go_wp2_with (first | (go_at_call 8; with_reducible refine (num_any _ _).mono ?_; rintro e w' ⟨rfl, rfl⟩))
        refine (h3 _).mono ?_
        rintro e w3 ⟨rfl, g3⟩
        have H3 : Hid _ := And.intro (H2.out.1.kept g3) (grown_trans H2.out.2 g3)
        clear b0 b1 b2 b3 b4 b5 b6 b7 g3 H2
        obtain ⟨b0, b1, b2, b3, b4, b5, b6, b7⟩ := bx8 H3.out.1
        simp only
        go_wp2_with (first | (go_at_call 8; with_reducible refine (num_any _ _).mono ?_; rintro e w' ⟨rfl, rfl⟩))
        refine (h4 _).mono ?_
        rintro e w4 ⟨rfl, g4⟩
        have H4 : Hid _ := And.intro (H3.out.1.kept g4) (grown_trans H3.out.2 g4)
        clear b0 b1 b2 b3 b4 b5 b6 b7 g4 H3
        obtain ⟨b0, b1, b2, b3, b4, b5, b6, b7⟩ := bx8 H4.out.1
        simp only
        go_wp2_with (first | (go_at_call 8; with_reducible refine (num_any _ _).mono ?_; rintro e w' ⟨rfl, rfl⟩))
        refine (h5 _).mono ?_
        rintro e w5 ⟨rfl, g5⟩
        have H5 : Hid _ := And.intro (H4.out.1.kept g5) (grown_trans H4.out.2 g5)
        clear b0 b1 b2 b3 b4 b5 b6 b7 g5 H4
        obtain ⟨b0, b1, b2, b3, b4, b5, b6, b7⟩ := bx8 H5.out.1
        simp only
        go_wp2_with (first | (go_at_call 8; with_reducible refine (num_any _ _).mono ?_; rintro e w' ⟨rfl, rfl⟩))
        have HG5 : Hid (w.grownBy w5.drew none) := grown_trans H5.out.2 (drewG w5)
        clear H5
        generalize w.heap.size = g at *
        clear h1 h2 h3 h4 h5 f1 hy m1 m2 m3
        go_region_held3 (fun w' => w'.cell? ⟨g, 0, none⟩ = some (.int .i64 s) ∧ w'.cell? ⟨g, 1, none⟩ = some (.int .i64 p) ∧ w'.cell? ⟨g, 2, none⟩ = some (.int .i64 b) ∧ w'.cell? ⟨g, 3, none⟩ = some (.int .i64 x0) ∧ w'.cell? ⟨g, 4, none⟩ = some (.int .i64 x1) ∧ w'.cell? ⟨g, 5, none⟩ = some (.int .i64 y0) ∧ w'.cell? ⟨g, 6, none⟩ = some (.int .i64 y1) ∧ w'.cell? ⟨g, 7, none⟩ = some (.int .i64 n) ∧ Hid (w.grownBy w' none)) (first | (refine ⟨?_, ?_, ?_, ?_, ?_, ?_, ?_, ?_, ?_⟩ <;> assumption) | go_keep) (first | (go_at_call 16; refine (h6 _).mono ?_; rintro e w' ⟨rfl, hg'⟩; have q0 := keep1 hg' (b := g) (o := 0) (v := .int .i64 s) (by simp [*]); have q1 := keep1 hg' (b := g) (o := 1) (v := .int .i64 p) (by simp [*]); have q2 := keep1 hg' (b := g) (o := 2) (v := .int .i64 b) (by simp [*]); have q3 := keep1 hg' (b := g) (o := 3) (v := .int .i64 x0) (by simp [*]); have q4 := keep1 hg' (b := g) (o := 4) (v := .int .i64 x1) (by simp [*]); have q5 := keep1 hg' (b := g) (o := 5) (v := .int .i64 y0) (by simp [*]); have q6 := keep1 hg' (b := g) (o := 6) (v := .int .i64 y1) (by simp [*]); have q7 := keep1 hg' (b := g) (o := 7) (v := .int .i64 n) (by simp [*]); have q8 := hidG (by assumption) hg'; clear hg') | (go_at_call 17; refine (h7 _).mono ?_; rintro e w' ⟨rfl, hg'⟩; have q0 := keep1 hg' (b := g) (o := 0) (v := .int .i64 s) (by simp [*]); have q1 := keep1 hg' (b := g) (o := 1) (v := .int .i64 p) (by simp [*]); have q2 := keep1 hg' (b := g) (o := 2) (v := .int .i64 b) (by simp [*]); have q3 := keep1 hg' (b := g) (o := 3) (v := .int .i64 x0) (by simp [*]); have q4 := keep1 hg' (b := g) (o := 4) (v := .int .i64 x1) (by simp [*]); have q5 := keep1 hg' (b := g) (o := 5) (v := .int .i64 y0) (by simp [*]); have q6 := keep1 hg' (b := g) (o := 6) (v := .int .i64 y1) (by simp [*]); have q7 := keep1 hg' (b := g) (o := 7) (v := .int .i64 n) (by simp [*]); have q8 := hidG (by assumption) hg'; clear hg') | (go_at_call 8; with_reducible refine (num_any _ _).mono ?_; rintro e w' ⟨rfl, rfl⟩) | fail)
        all_goals
          go_wp2_with (first | (go_at_call 8; with_reducible refine (num_any _ _).mono ?_; rintro e w' ⟨rfl, rfl⟩) | (go_at_call 11; refine (HL.out _).mono ?_; rintro e wl ⟨rfl, gl⟩; have HF : Hid _ := grown_trans (Hid.out (by assumption)) gl; clear gl))
          go_ret
          exact ⟨rfl, grown_below HF.out⟩
end Go.Proofs.Ytckjlkdjlpfdmaa
