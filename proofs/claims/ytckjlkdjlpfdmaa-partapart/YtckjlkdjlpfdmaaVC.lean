/- A slot's size, and the page of one of its bytes. -/
import Derived.Test.YtckjlkdjlpfdmaaVB
import Derived.BigRegion
namespace Go.Proofs.Ytckjlkdjlpfdmaa
open Go.RowKit
set_option linter.unusedSimpArgs false
set_option linter.unusedVariables false

theorem rgt_facts {P : Pl} (h : rgt P = true) : (4 ≤ P.s ∧ P.s ≤ 4096) ∧ (1 ≤ P.p ∧ P.p ≤ 1024) ∧ (64 ≤ P.b ∧ P.b ≤ 65536) ∧ P.x0 = 0 ∧ P.x1 = 1 ∧ P.y0 = 2 ∧ P.y1 = 2 + P.n ∧ P.n = slots P.s P.p P.b ∧ (1 ≤ P.n ∧ 2 + 2 * P.n ≤ P.s) ∧ P.s * P.p * P.b ≤ 16777216 := by
  have e := rgt_iff.1 h
  unfold mk at e
  split at e
  · rename_i k
    simp only [Prod.mk.injEq] at e
    exact absurd e.2 k
  · rename_i k0
    split at e
    · simp at e
    · rename_i k1
      have hg := chk_zero (by simpa using k0)
      simp only [Prod.mk.injEq, and_true] at e
      obtain ⟨s, p, b, x0, x1, y0, y1, n⟩ := P
      simp only [Pl.mk.injEq, true_and] at e k1 hg ⊢
      obtain ⟨e0, e1, e2, e3, e4⟩ := e
      have hn : 1 ≤ slots s p b ∧ 2 + 2 * slots s p b ≤ s := by
        unfold slots
        rw [Int.max_def, Int.min_def]
        split <;> split <;> omega
      refine ⟨by omega, by omega, by omega, by omega, by omega, by omega, by omega, by omega, by omega, hg.2.2.2.2.2.2⟩
theorem prod3 {n p b : Int} (h1 : 1 ≤ n ∧ n ≤ 4096) (h2 : 1 ≤ p ∧ p ≤ 1024) (h3 : 16 ≤ b ∧ b ≤ 65536) : (1 ≤ n * p ∧ n * p ≤ 4194304) ∧ (1 ≤ n * p * b ∧ n * p * b ≤ 274877906944) := by
  have e1 : n * p ≤ 4096 * 1024 := Int.mul_le_mul h1.2 h2.2 (by omega) (by omega)
  have e0 : 1 * 1 ≤ n * p := Int.mul_le_mul h1.1 h2.1 (by omega) (by omega)
  have e2 : n * p * b ≤ 4096 * 1024 * 65536 := Int.mul_le_mul e1 h3.2 (by omega) (by omega)
  have e3 : 1 * 1 ≤ n * p * b := Int.mul_le_mul (by omega) (by omega) (by omega) (by omega)
  omega
theorem yp_in {y p : Int} (h : 0 ≤ y ∧ y ≤ 4096) (k : 1 ≤ p ∧ p ≤ 1024) : 0 ≤ y * p ∧ y * p ≤ 4194304 := by
  have e1 : y * p ≤ 4096 * 1024 := Int.mul_le_mul h.2 k.2 (by omega) (by omega)
  exact ⟨Int.mul_nonneg h.1 (by omega), e1⟩
theorem drewG (w : World) : w.grownBy w.drew none := ⟨rfl, rfl, rfl, Nat.le_refl _, fun _ _ _ => rfl⟩
theorem size_any (P : Pl) (w : World) (h : rgt P = true) : Calls Try.prog 17 #[P.val] w fun e w' => e = .returned (.int .i64 (sze P)) ∧ w.grownBy w' none := by
  obtain ⟨h1, h2, h3, -, -, -, -, -, h4, -⟩ := rgt_facts h
  obtain ⟨⟨m1, m2⟩, m3, m4⟩ := prod3 (n := P.n) (p := P.p) (b := P.b) (by omega) h2 (by omega)
  have w1 : IntKind.i64.wrap (P.n * P.p) = P.n * P.p := by rw [IntKind.wrap_i64]; omega
  have w2 : IntKind.i64.wrap (P.n * P.p * P.b) = P.n * P.p * P.b := by rw [IntKind.wrap_i64]; omega
  obtain ⟨s, p, b, x0, x1, y0, y1, n⟩ := P
  unfold sze
  simp only [Pl.val] at *
  clear h
  go_enter Try.func17, Try.ntmps17
  go_wp2
  go_ret
  exact ⟨by rfl, World.grownBy_alloc _ _ _⟩
/-- Page, as a plain function -/
def pge (P : Pl) (slot at_ : Int) : Int × Int × Int :=
  if rgt P = false ∨ slot < 0 ∨ 1 < slot then (0, 0, 1) else if at_ < 0 ∨ sze P ≤ at_ then (0, 0, 9) else ((if slot = 0 then P.y0 else P.y1) * P.p + at_ / P.b, at_ % P.b, 0)

set_option maxHeartbeats 4000000 in
theorem page_any (P : Pl) (slot at_ : Int) (w : World) (hP : P.ok) (hs : bnd64 slot) (ha : bnd64 at_) : Calls Try.prog 13 #[P.val, .int .i64 slot, .int .i64 at_] w fun e w' => e = .returned (.tuple #[.int .i64 (pge P slot at_).1, .int .i64 (pge P slot at_).2.1, .int .i64 (pge P slot at_).2.2]) ∧ w.grownBy w' none := by
  have G0 := World.grownBy_alloc w (.cells P.cells.toArray 26) none
  have B0 := Bx.new w 26 P.cells
  have hr := right_any P (w.alloc (.cells P.cells.toArray 26)) hP
  have hz := fun W h => size_any P W h
  have hfa := fun h => rgt_facts (P := P) h
  by_cases h1 : rgt P = false
  · have e : pge P slot at_ = (0, 0, 1) := by unfold pge; rw [if_pos (Or.inl h1)]
    rw [e]
    rw [h1] at hr
    have HG : Hid _ := G0
    obtain ⟨s, p, b, x0, x1, y0, y1, n⟩ := P
    simp only [Pl.val, Pl.cells] at *
    clear hz hfa B0 G0
    go_enter Try.func13, Try.ntmps13
    go_wp2_with fail
    refine hr.mono ?_
    rintro e w1 ⟨rfl, g1⟩
    have HG1 : Hid _ := grown_trans HG.out g1
    clear g1 hr HG
    simp only
    go_wp2
    go_ret3
    exact ⟨rfl, HG1.out⟩
  · have h1' : rgt P = true := by simpa using h1
    have hf := hfa h1'
    have hzz := fun W => hz W h1'
    rw [h1'] at hr
    have HS : Hid (pge P slot at_ = if slot < 0 ∨ 1 < slot then (0, 0, 1) else if at_ < 0 ∨ sze P ≤ at_ then (0, 0, 9) else ((if slot = 0 then P.y0 else P.y1) * P.p + at_ / P.b, at_ % P.b, 0)) := by
      show pge P slot at_ = _
      unfold pge
      rw [h1']
      simp
    have hsz : 1 ≤ sze P ∧ sze P ≤ 274877906944 := by
      unfold sze
      have := prod3 (n := P.n) (p := P.p) (b := P.b) (by omega) hf.2.1 (by omega)
      omega
    generalize pge P slot at_ = R at HS ⊢
    generalize sze P = Z at HS hzz hsz
    obtain ⟨s, p, b, x0, x1, y0, y1, n⟩ := P
    simp only [Pl.val, Pl.cells] at *
    clear hz hfa h1 h1' hP
    have HB : Hid _ := And.intro G0 B0
    have HF : Hid _ := hf
    obtain ⟨f1, f2, f3, -, -, -, -, -, f4, -⟩ := hf
    clear G0 B0
    by_cases h2 : slot < 0 ∨ 1 < slot
    · have e := HS.out
      rw [if_pos h2] at e
      subst e
      clear HS HF
      go_enter Try.func13, Try.ntmps13
      go_wp2_with fail
      refine hr.mono ?_
      rintro e w1 ⟨rfl, g1⟩
      have HG1 : Hid _ := grown_trans HB.out.1 g1
      clear g1 hr HB
      simp only
      rcases h2 with h2 | h2
      all_goals
        go_wp2
        go_ret3
        exact ⟨rfl, HG1.out⟩
    · by_cases h3 : at_ < 0
      · have e := HS.out
        rw [if_neg h2, if_pos (Or.inl h3)] at e
        subst e
        clear HS HF
        go_enter Try.func13, Try.ntmps13
        go_wp2_with fail
        refine hr.mono ?_
        rintro e w1 ⟨rfl, g1⟩
        have HG1 : Hid _ := grown_trans HB.out.1 g1
        clear g1 hr HB
        simp only
        go_wp2
        go_ret3
        exact ⟨rfl, HG1.out⟩
      · go_enter Try.func13, Try.ntmps13
        go_wp2_with fail
        refine hr.mono ?_
        rintro e w1 ⟨rfl, g1⟩
        have B1 := HB.out.2.kept g1
        have G1 := grown_trans HB.out.1 g1
        have c0 := B1.c 0
        have c1 := B1.c 1
        have c2 := B1.c 2
        have c3 := B1.c 3
        have c4 := B1.c 4
        have c5 := B1.c 5
        have c6 := B1.c 6
        have c7 := B1.c 7
        simp only [List.getElem?_cons_succ, List.getElem?_cons_zero] at c0 c1 c2 c3 c4 c5 c6 c7
        have HB1 : Hid _ := And.intro G1 B1
        clear g1 hr HB B1 G1
        simp only
        go_wp2_with fail
        refine (hzz _).mono ?_
        rintro e w2 ⟨rfl, g2⟩
        have B2 := HB1.out.2.kept g2
        have G2 := grown_trans HB1.out.1 g2
        have d1 := B2.c 1
        have d2 := B2.c 2
        have d5 := B2.c 5
        have d6 := B2.c 6
        simp only [List.getElem?_cons_succ, List.getElem?_cons_zero] at d1 d2 d5 d6
        have HB2 : Hid _ := And.intro G2 B2
        clear g2 hzz HB1 B2 G2 c0 c1 c2 c3 c4 c5 c6 c7
        generalize w.heap.size = g0 at *
        simp only
        by_cases h4 : Z ≤ at_
        · have e := HS.out
          rw [if_neg h2, if_pos (Or.inr h4)] at e
          subst e
          have HG2 : Hid _ := HB2.out.1
          clear HS HF HB2
          go_wp2
          go_ret3
          exact ⟨rfl, HG2.out⟩
        · have e := HS.out
          rw [if_neg h2, if_neg (by omega)] at e
          subst e
          have HG2 : Hid _ := HB2.out.1
          clear HS HB2
          have hy : (0 ≤ y0 ∧ y0 ≤ 4096) ∧ (0 ≤ y1 ∧ y1 ≤ 4096) := by have := HF.out; omega
          rcases (by omega : slot = 0 ∨ slot = 1) with rfl | rfl
          · skip
            obtain ⟨yp, hyp⟩ : ∃ yp, y0 * p = yp := ⟨_, rfl⟩
            have hypb : 0 ≤ yp ∧ yp ≤ 4194304 := by
              rw [← hyp]
              have := yp_in (y := y0) (p := p) (by omega) f2
              exact this
            have hq : at_.tdiv b = at_ / b := Int.tdiv_eq_ediv_of_nonneg (by omega)
            have hm : at_.tmod b = at_ % b := Int.tmod_eq_emod_of_nonneg (by omega)
            have hqb : 0 ≤ at_ / b ∧ at_ / b ≤ 274877906944 := ⟨Int.ediv_nonneg (by omega) (by omega), Int.le_trans (Int.ediv_le_self _ (by omega)) (by omega)⟩
            have hmb : 0 ≤ at_ % b ∧ at_ % b < b := ⟨Int.emod_nonneg _ (by omega), Int.emod_lt_of_pos _ (by omega)⟩
            generalize hqe : at_ / b = Q at *
            generalize hme : at_ % b = M at *
            have HE : Hid _ := And.intro hyp (And.intro hqe hme)
            have wy : IntKind.i64.wrap (y0 * p) = yp := by rw [hyp, IntKind.wrap_i64]; omega
            clear hqe hme
            go_wp2_with fail
            go_region
            go_wp2_with fail
            go_region
            go_wp2
            go_ret3
            rw [HE.out.2.1, HE.out.2.2]
            exact ⟨rfl, grown_trans (grown_trans HG2.out (drewG w2)) (drewG w2.drew)⟩
          · skip
            obtain ⟨yp, hyp⟩ : ∃ yp, y1 * p = yp := ⟨_, rfl⟩
            have hypb : 0 ≤ yp ∧ yp ≤ 4194304 := by
              rw [← hyp]
              have := yp_in (y := y1) (p := p) (by omega) f2
              exact this
            have hq : at_.tdiv b = at_ / b := Int.tdiv_eq_ediv_of_nonneg (by omega)
            have hm : at_.tmod b = at_ % b := Int.tmod_eq_emod_of_nonneg (by omega)
            have hqb : 0 ≤ at_ / b ∧ at_ / b ≤ 274877906944 := ⟨Int.ediv_nonneg (by omega) (by omega), Int.le_trans (Int.ediv_le_self _ (by omega)) (by omega)⟩
            have hmb : 0 ≤ at_ % b ∧ at_ % b < b := ⟨Int.emod_nonneg _ (by omega), Int.emod_lt_of_pos _ (by omega)⟩
            generalize hqe : at_ / b = Q at *
            generalize hme : at_ % b = M at *
            have HE : Hid _ := And.intro hyp (And.intro hqe hme)
            have wy : IntKind.i64.wrap (y1 * p) = yp := by rw [hyp, IntKind.wrap_i64]; omega
            clear hqe hme
            go_wp2_with fail
            go_region
            go_wp2_with fail
            go_region
            go_wp2
            go_ret3
            rw [HE.out.2.1, HE.out.2.2]
            exact ⟨rfl, grown_trans (grown_trans HG2.out (drewG w2)) (drewG w2.drew)⟩
end Go.Proofs.Ytckjlkdjlpfdmaa
