/- The walk of PartApart. -/
import Derived.Test.YtckjlkdjlpfdmaaWC
namespace Go.Proofs.Ytckjlkdjlpfdmaa
open Go.RowKit
set_option linter.unusedSimpArgs false
set_option linter.unusedVariables false

/-- what Make makes, where it makes something -/
theorem mk_made {s p b : Int} (h : (mk s p b).2 = 0) : ∃ n, mk s p b = (⟨s, p, b, 0, 1, 2, 2 + n, n⟩, 0) ∧ rgt ⟨s, p, b, 0, 1, 2, 2 + n, n⟩ = true ∧ (4 ≤ s ∧ s ≤ 4096) ∧ (1 ≤ p ∧ p ≤ 1024) ∧ (64 ≤ b ∧ b ≤ 65536) ∧ (1 ≤ n ∧ 2 + 2 * n ≤ s) ∧ (n = 1 ∨ n * p * b ≤ 8388608) := by
  have hr := (mk_ok s p b).2.2.2 h
  obtain ⟨g1, g2, g3⟩ := mk_geo h
  have hf := rgt_facts hr
  generalize mk s p b = M at *
  obtain ⟨⟨ps, pp, pb, x0, x1, y0, y1, n⟩, e⟩ := M
  simp only at h hr g1 g2 g3 hf
  obtain ⟨f1, f2, f3, f4, f5, f6, f7, f8, f9, -⟩ := hf
  subst g1 g2 g3 h f4 f5 f6 f7
  refine ⟨n, rfl, hr, f1, f2, f3, f9, ?_⟩
  have hq : 0 < pp * pb := Int.mul_pos (by omega) (by omega)
  have k1 : n ≤ 8388608 / (pp * pb) ↔ n * (pp * pb) ≤ 8388608 := Int.le_ediv_iff_mul_le hq
  rw [Int.mul_assoc]
  unfold slots at f8
  rw [Int.max_def, Int.min_def] at f8
  generalize 8388608 / (pp * pb) = D at *
  generalize n * (pp * pb) = x at *
  by_cases h1 : n = 1
  · exact Or.inl h1
  · refine Or.inr (k1.1 ?_)
    split at f8 <;> split at f8 <;> omega
theorem oth_oth (k : Int) (h : k = 0 ∨ k = 1) : oth (oth k) = k ∧ oth k ≠ k := by
  rcases h with rfl | rfl <;> decide
set_option maxRecDepth 4000 in
set_option maxHeartbeats 4000000 in
theorem partApart_none (s p b slot at_ : Int) (w : World) (hs : bnd64 s) (hp : bnd64 p) (hb : bnd64 b) (hsl : 0 ≤ slot ∧ slot ≤ 255) (ha : bnd64 at_) (hz : ¬ (mk s p b).2 = 0) :
    Calls Try.prog 5 #[.agg #[.int .i64 s, .int .i64 p, .int .i64 b], .int .u8 slot, .int .i64 at_] w fun e w' => e = .returned (.bool true) ∧ Below w.heap.size w w' := by
  have h1 := fun W => pmake_any s p b W hs hp hb
  have HL : Hid (∀ W : World, Calls Try.prog 11 #[] W fun e w' => e = .returned (.bool true) ∧ W.grownBy w' none) := fun W => live_any W
  have hal : -9223372036854775808 ≤ at_ ∧ at_ ≤ 9223372036854775807 := ha
  have he : bnd64 (mk s p b).2 := (mk_ok s p b).2.1
  generalize mk s p b = M at *
  obtain ⟨⟨ps, pp, pb, x0, x1, y0, y1, n⟩, e⟩ := M
  simp only [Pl.val] at *
  have hz' : (e == 0) = false := by simpa using hz
  have he' : -9223372036854775808 ≤ e ∧ e ≤ 9223372036854775807 := he
  have HS : Hid _ := World.grownBy_alloc w (.cells #[.int .i64 s, .int .i64 p, .int .i64 b] 23) none
  go_enter Try.func5, Try.ntmps5
  go_wp2_with fail
  refine (h1 _).mono ?_
  rintro e w1 ⟨rfl, g1⟩
  have HG : Hid _ := grown_trans (grown_trans HS.out g1) (World.grownBy_alloc _ (.cells #[.int .i64 ps, .int .i64 pp, .int .i64 pb, .int .i64 x0, .int .i64 x1, .int .i64 y0, .int .i64 y1, .int .i64 n] 26) none)
  clear g1 HS h1
  simp only
  go_wp2_with (first | (go_at_call 8; with_reducible refine (num_any _ _).mono ?_; rintro e w' ⟨rfl, rfl⟩) | (go_at_call 11; refine (HL.out _).mono ?_; rintro e wl ⟨rfl, gl⟩; have HF : Hid _ := grown_trans HG.out gl; clear gl))
  go_ret
  exact ⟨rfl, grown_below HF.out⟩
end Go.Proofs.Ytckjlkdjlpfdmaa
