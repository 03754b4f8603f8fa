/- PartApart, no byte of the slot. -/
import Derived.Test.YtckjlkdjlpfdmaaWE
namespace Go.Proofs.Ytckjlkdjlpfdmaa
open Go.RowKit
set_option linter.unusedSimpArgs false
set_option linter.unusedVariables false

set_option maxRecDepth 4000 in
set_option maxHeartbeats 4000000 in
theorem partApart_out (s p b slot at_ : Int) (w : World) (hs : bnd64 s) (hp : bnd64 p) (hb : bnd64 b) (hsl : 0 ≤ slot ∧ slot ≤ 255) (ha : bnd64 at_) (hz : (mk s p b).2 = 0) (hA : ∀ n, mk s p b = (⟨s, p, b, 0, 1, 2, 2 + n, n⟩, 0) → (at_ < 0 ∨ n * p * b ≤ at_)) :
    Calls Try.prog 5 #[.agg #[.int .i64 s, .int .i64 p, .int .i64 b], .int .u8 slot, .int .i64 at_] w fun e w' => e = .returned (.bool true) ∧ Below w.heap.size w w' := by
  have h1 := fun W => pmake_any s p b W hs hp hb
  have HL : Hid (∀ W : World, Calls Try.prog 11 #[] W fun e w' => e = .returned (.bool true) ∧ W.grownBy w' none) := fun W => live_any W
  have hal : -9223372036854775808 ≤ at_ ∧ at_ ≤ 9223372036854775807 := ha
  obtain ⟨n, hm, hr, f1, f2, f3, f4, f5⟩ := mk_made hz
  have hA := hA n hm
  have hok := (mk_ok s p b).1
  rw [hm] at h1 hok
  have hk : bnd64 (slot % 2) := by unfold bnd64; omega
  have hk2 : slot % 2 = 0 ∨ slot % 2 = 1 := by omega
  have h2 := fun W => pbase_any ⟨s, p, b, 0, 1, 2, 2 + n, n⟩ (slot % 2) W hok hk
  have h3 := fun W => ppage_any ⟨s, p, b, 0, 1, 2, 2 + n, n⟩ (slot % 2) at_ W hok hk ha
  have h4 := fun W => psize_any ⟨s, p, b, 0, 1, 2, 2 + n, n⟩ W hok
  have ho1 := fun W => pother_any (slot % 2) W hk
  have ho2 := fun W => pother_any (oth (slot % 2)) W (by unfold oth bnd64; split <;> omega)
  obtain ⟨o1, o2⟩ := oth_oth (slot % 2) hk2
  rw [o1] at ho2
  have eb : pbs ⟨s, p, b, 0, 1, 2, 2 + n, n⟩ (slot % 2) = ((if slot % 2 = 0 then 2 else 2 + n) * p * b, 0) := by unfold pbs; rw [if_neg (by simp [hr]; omega)]
  have ep : pge ⟨s, p, b, 0, 1, 2, 2 + n, n⟩ (slot % 2) at_ = if at_ < 0 ∨ n * p * b ≤ at_ then (0, 0, 9) else ((if slot % 2 = 0 then 2 else 2 + n) * p + at_ / b, at_ % b, 0) := by unfold pge; rw [if_neg (by simp [hr]; omega)]; rfl
  have ez : psz ⟨s, p, b, 0, 1, 2, 2 + n, n⟩ = n * p * b := by unfold psz; rw [if_pos hr]; rfl
  rw [eb] at h2
  rw [ep] at h3
  rw [ez] at h4
  have hY : 0 ≤ (if slot % 2 = 0 then (2 : Int) else 2 + n) ∧ (if slot % 2 = 0 then (2 : Int) else 2 + n) ≤ 4096 := by split <;> omega
  generalize (if slot % 2 = 0 then (2 : Int) else 2 + n) = Y at *
  generalize hoo : oth (slot % 2) = o at *
  have hob : o = 0 ∨ o = 1 := by rw [← hoo]; unfold oth; split <;> simp
  clear hoo eb ep ez hok hk hr hm hs hp hb ha o1
  obtain ⟨m1, m2⟩ := yp_in (y := Y) (p := p) (by omega) f2
  have m3 : 0 ≤ Y * p * b ∧ Y * p * b ≤ 274877906944 := by
    have e0 := Int.mul_nonneg m1 (show (0 : Int) ≤ b by omega)
    have e1 : Y * p * b ≤ 4194304 * 65536 := Int.mul_le_mul m2 f3.2 (by omega) (by omega)
    omega
  obtain ⟨z1, z2⟩ := prod3 (n := n) (p := p) (b := b) (by omega) f2 (by omega)
  have pb1 := prod3 (n := 1) (p := p) (b := b) (by omega) f2 (by omega)
  rw [Int.one_mul] at pb1
  have zz : p * b ≤ n * p * b := by
    rw [Int.mul_assoc]
    have := Int.mul_le_mul_of_nonneg_right (show (1 : Int) ≤ n by omega) (show 0 ≤ p * b by omega)
    rwa [Int.one_mul] at this
  have wpb : IntKind.i64.wrap (p * b) = p * b := by rw [IntKind.wrap_i64]; omega
  have hat : ¬ (at_ < 0 ∨ n * p * b ≤ at_) → ∃ q r, at_ / b = q ∧ at_ % b = r ∧ (Y * p + q) * b + r = Y * p * b + at_ ∧ 0 ≤ r ∧ r < b ∧ 0 ≤ q ∧ q ≤ 274877906944 ∧ 0 ≤ (Y * p + q) * b ∧ (Y * p + q) * b ≤ 549755813888 := by
    intro h
    have d1 := Int.mul_ediv_add_emod at_ b
    have d2 := Int.emod_nonneg at_ (show b ≠ 0 by omega)
    have d3 := Int.emod_lt_of_pos at_ (show 0 < b by omega)
    have d4 := Int.ediv_nonneg (show 0 ≤ at_ by omega) (show 0 ≤ b by omega)
    have d5 : at_ / b ≤ 274877906944 := Int.le_trans (Int.ediv_le_self _ (by omega)) (by omega)
    have d6 : (Y * p + at_ / b) * b = Y * p * b + b * (at_ / b) := by rw [Int.add_mul, Int.mul_comm (at_ / b) b]
    have d7 : 0 ≤ b * (at_ / b) := Int.mul_nonneg (by omega) d4
    refine ⟨_, _, rfl, rfl, ?_, d2, d3, d4, d5, ?_, ?_⟩
    · rw [d6]; omega
    · rw [d6]; omega
    · rw [d6]; omega
  generalize hnpb : n * p * b = sz at *
  generalize hypb : Y * p * b = bs at *
  generalize hyp : Y * p = yp at *
  have hsk : IntKind.u8.wrap (slot.tmod 2) = slot % 2 := by rw [Int.tmod_eq_emod_of_nonneg hsl.1]; show (slot % 2) % 256 = _; omega
  generalize hkk : slot % 2 = k at *
  have HE : Hid _ := And.intro hnpb (And.intro hypb hyp)
  clear hnpb hypb hyp
  simp only [Pl.val] at h1 h2 h3 h4
  rw [if_pos hA] at h3
  clear hat
  have hA' : at_ < 0 ∨ (decide (at_ < 0) = false ∧ sz ≤ at_) := by
    rcases Int.lt_or_le at_ 0 with h | h
    · exact Or.inl h
    · exact Or.inr ⟨decide_eq_false (by omega), by omega⟩
  clear hA
  have A0 := Bx.new w 23 [.int .i64 s, .int .i64 p, .int .i64 b]
  have G0 := World.grownBy_alloc w (.cells #[.int .i64 s, .int .i64 p, .int .i64 b] 23) none
  have HS : Hid _ := And.intro A0 G0
  clear A0 G0
  go_enter Try.func5, Try.ntmps5
  go_wp2_with fail
  refine (h1 _).mono ?_
  rintro e w1 ⟨rfl, g1⟩
  have H1 : Hid _ := And.intro (Bx.new w1 26 [.int .i64 s, .int .i64 p, .int .i64 b, .int .i64 0, .int .i64 1, .int .i64 2, .int .i64 (2 + n), .int .i64 n]) (And.intro ((HS.out.1.kept g1).kept (World.grownBy_alloc _ (.cells #[.int .i64 s, .int .i64 p, .int .i64 b, .int .i64 0, .int .i64 1, .int .i64 2, .int .i64 (2 + n), .int .i64 n] 26) none)) (grown_trans (grown_trans HS.out.2 g1) (World.grownBy_alloc _ (.cells #[.int .i64 s, .int .i64 p, .int .i64 b, .int .i64 0, .int .i64 1, .int .i64 2, .int .i64 (2 + n), .int .i64 n] 26) none)))
  clear g1 HS h1
  obtain ⟨b0, b1, b2, b3, b4, b5, b6, b7⟩ := bx8 H1.out.1
  obtain ⟨a0, a1, a2⟩ := bx3 H1.out.2.1
  simp only
  go_wp2_with (first | (go_at_call 8; with_reducible refine (num_any _ _).mono ?_; rintro e w' ⟨rfl, rfl⟩))
  refine (h2 _).mono ?_
  rintro e w2 ⟨rfl, g2⟩
  have H2 : Hid _ := And.intro (H1.out.1.kept g2) (And.intro (H1.out.2.1.kept g2) (grown_trans H1.out.2.2 g2))
  clear b0 b1 b2 b3 b4 b5 b6 b7 a0 a1 a2 g2 H1 h2
  obtain ⟨b0, b1, b2, b3, b4, b5, b6, b7⟩ := bx8 H2.out.1
  obtain ⟨a0, a1, a2⟩ := bx3 H2.out.2.1
  simp only
  go_wp2_with (first | (go_at_call 8; with_reducible refine (num_any _ _).mono ?_; rintro e w' ⟨rfl, rfl⟩))
  refine (h3 _).mono ?_
  rintro e w3 ⟨rfl, g3⟩
  have H3 : Hid _ := And.intro (H2.out.1.kept g3) (And.intro (H2.out.2.1.kept g3) (grown_trans H2.out.2.2 g3))
  clear b0 b1 b2 b3 b4 b5 b6 b7 a0 a1 a2 g3 H2 h3
  obtain ⟨b0, b1, b2, b3, b4, b5, b6, b7⟩ := bx8 H3.out.1
  obtain ⟨a0, a1, a2⟩ := bx3 H3.out.2.1
  simp only
  go_wp2_with (first | (go_at_call 8; with_reducible refine (num_any _ _).mono ?_; rintro e w' ⟨rfl, rfl⟩))
  refine (h4 _).mono ?_
  rintro e w4 ⟨rfl, g4⟩
  have H4 : Hid _ := And.intro (H3.out.1.kept g4) (And.intro (H3.out.2.1.kept g4) (grown_trans H3.out.2.2 g4))
  clear b0 b1 b2 b3 b4 b5 b6 b7 a0 a1 a2 g4 H3 h4
  obtain ⟨b0, b1, b2, b3, b4, b5, b6, b7⟩ := bx8 H4.out.1
  obtain ⟨a0, a1, a2⟩ := bx3 H4.out.2.1
  simp only
  have HG : Hid _ := H4.out.2.2
  clear H4
  generalize w1.heap.size = gp at *
  generalize w.heap.size = gg at *
  have d1 : decide ((2 + n : Int) < 2 + n) = false := decide_eq_false (by omega)
  have d2 : decide (s < 2 + n + n) = false := decide_eq_false (by omega)
  have d3 : decide (sz < p * b) = false := decide_eq_false (by omega)
  have d4 : (8388608 < sz ∧ decide (1 < n) = false) ∨ decide (8388608 < sz) = false := by
    rcases Int.lt_or_le 8388608 sz with h | h
    · refine Or.inl ⟨h, decide_eq_false ?_⟩
      rcases f5 with h5 | h5
      · omega
      · omega
    · exact Or.inr (decide_eq_false (by omega))
  clear f5 z1 pb1 zz m1 m2 hY hob o2 hz
  rcases d4 with ⟨d4, d5⟩ | d4
  all_goals
    rcases hA' with hA | ⟨hA1, hA2⟩
    all_goals
      go_wp2_with (first | (go_at_call 8; with_reducible refine (num_any _ _).mono ?_; rintro e w' ⟨rfl, rfl⟩) | (go_at_call 11; refine (HL.out _).mono ?_; rintro e wl ⟨rfl, gl⟩; have HF : Hid _ := grown_trans HG.out gl; clear gl))
      go_ret
      exact ⟨rfl, grown_below HF.out⟩
end Go.Proofs.Ytckjlkdjlpfdmaa
