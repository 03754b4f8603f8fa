/- The program's super: which heads are right. -/
import Derived.Test.YtaedcblphcfkfaaJA
import Derived.Test.YtaedcblphcfkfaaJW
namespace Go.Proofs.Ytaedcblphcfkfaa
open Go.RowKit
set_option linter.unusedSimpArgs false
set_option linter.unusedVariables false

theorem plog_any (lg : Int) (w : World) : Calls Try.prog 22 #[.int .i64 lg] w fun e w' => e = .returned (.bool (decide (12 ≤ lg) && decide (lg ≤ 20))) ∧ w = w' := by
  cases h : decide (12 ≤ lg)
  all_goals
    go_enter Try.func22, Try.ntmps22
    go_wp2
    go_ret
    exact ⟨rfl, rfl⟩
def Rk (b0 b1 b2 b3 b4 b5 b6 : Int) (j : Nat) : Prop := (0 < j → 68 ≤ b0) ∧ (1 < j → b0 ≤ b1) ∧ (2 < j → b1 ≤ b2) ∧ (3 < j → b2 ≤ b3) ∧ (4 < j → b3 ≤ b4) ∧ (5 < j → b4 ≤ b5) ∧ (6 < j → b5 ≤ b6)
def rsg (b0 b1 b2 b3 b4 b5 b6 : Int) : Bool := decide (68 ≤ b0 ∧ b0 ≤ b1 ∧ b1 ≤ b2 ∧ b2 ≤ b3 ∧ b3 ≤ b4 ∧ b4 ≤ b5 ∧ b5 ≤ b6)
theorem rsg_yes {b0 b1 b2 b3 b4 b5 b6 : Int} (h : Rk b0 b1 b2 b3 b4 b5 b6 7) : rsg b0 b1 b2 b3 b4 b5 b6 = true := by unfold Rk at h; unfold rsg; rw [decide_eq_true_eq]; omega
theorem rsg_no0 {b0 b1 b2 b3 b4 b5 b6 : Int} (h : ¬ (68 ≤ b0)) : rsg b0 b1 b2 b3 b4 b5 b6 = false := by unfold rsg; rw [decide_eq_false_iff_not]; omega
theorem rsg_no1 {b0 b1 b2 b3 b4 b5 b6 : Int} (h : ¬ (b0 ≤ b1)) : rsg b0 b1 b2 b3 b4 b5 b6 = false := by unfold rsg; rw [decide_eq_false_iff_not]; omega
theorem rsg_no2 {b0 b1 b2 b3 b4 b5 b6 : Int} (h : ¬ (b1 ≤ b2)) : rsg b0 b1 b2 b3 b4 b5 b6 = false := by unfold rsg; rw [decide_eq_false_iff_not]; omega
theorem rsg_no3 {b0 b1 b2 b3 b4 b5 b6 : Int} (h : ¬ (b2 ≤ b3)) : rsg b0 b1 b2 b3 b4 b5 b6 = false := by unfold rsg; rw [decide_eq_false_iff_not]; omega
theorem rsg_no4 {b0 b1 b2 b3 b4 b5 b6 : Int} (h : ¬ (b3 ≤ b4)) : rsg b0 b1 b2 b3 b4 b5 b6 = false := by unfold rsg; rw [decide_eq_false_iff_not]; omega
theorem rsg_no5 {b0 b1 b2 b3 b4 b5 b6 : Int} (h : ¬ (b4 ≤ b5)) : rsg b0 b1 b2 b3 b4 b5 b6 = false := by unfold rsg; rw [decide_eq_false_iff_not]; omega
theorem rsg_no6 {b0 b1 b2 b3 b4 b5 b6 : Int} (h : ¬ (b5 ≤ b6)) : rsg b0 b1 b2 b3 b4 b5 b6 = false := by unfold rsg; rw [decide_eq_false_iff_not]; omega
theorem rk_next0 {b0 b1 b2 b3 b4 b5 b6 : Int} (h : Rk b0 b1 b2 b3 b4 b5 b6 0) (k : 68 ≤ b0) : Rk b0 b1 b2 b3 b4 b5 b6 1 := by unfold Rk at *; omega
theorem rk_next1 {b0 b1 b2 b3 b4 b5 b6 : Int} (h : Rk b0 b1 b2 b3 b4 b5 b6 1) (k : b0 ≤ b1) : Rk b0 b1 b2 b3 b4 b5 b6 2 := by unfold Rk at *; omega
theorem rk_next2 {b0 b1 b2 b3 b4 b5 b6 : Int} (h : Rk b0 b1 b2 b3 b4 b5 b6 2) (k : b1 ≤ b2) : Rk b0 b1 b2 b3 b4 b5 b6 3 := by unfold Rk at *; omega
theorem rk_next3 {b0 b1 b2 b3 b4 b5 b6 : Int} (h : Rk b0 b1 b2 b3 b4 b5 b6 3) (k : b2 ≤ b3) : Rk b0 b1 b2 b3 b4 b5 b6 4 := by unfold Rk at *; omega
theorem rk_next4 {b0 b1 b2 b3 b4 b5 b6 : Int} (h : Rk b0 b1 b2 b3 b4 b5 b6 4) (k : b3 ≤ b4) : Rk b0 b1 b2 b3 b4 b5 b6 5 := by unfold Rk at *; omega
theorem rk_next5 {b0 b1 b2 b3 b4 b5 b6 : Int} (h : Rk b0 b1 b2 b3 b4 b5 b6 5) (k : b4 ≤ b5) : Rk b0 b1 b2 b3 b4 b5 b6 6 := by unfold Rk at *; omega
theorem rk_next6 {b0 b1 b2 b3 b4 b5 b6 : Int} (h : Rk b0 b1 b2 b3 b4 b5 b6 6) (k : b5 ≤ b6) : Rk b0 b1 b2 b3 b4 b5 b6 7 := by unfold Rk at *; omega
theorem rk_zero (b0 b1 b2 b3 b4 b5 b6 : Int) : Rk b0 b1 b2 b3 b4 b5 b6 0 := by unfold Rk; omega
set_option maxHeartbeats 4000000 in
theorem prising_any (b0 b1 b2 b3 b4 b5 b6 : Int) (w : World) : Calls Try.prog 23 #[.agg #[.int .i64 b0, .int .i64 b1, .int .i64 b2, .int .i64 b3, .int .i64 b4, .int .i64 b5, .int .i64 b6]] w fun e w' => e = .returned (.bool (rsg b0 b1 b2 b3 b4 b5 b6)) ∧ w.grownBy w' none := by
  have H0 : Hid (Rk b0 b1 b2 b3 b4 b5 b6 0) := rk_zero b0 b1 b2 b3 b4 b5 b6
  have HY : Hid (Rk b0 b1 b2 b3 b4 b5 b6 7 → rsg b0 b1 b2 b3 b4 b5 b6 = true) := rsg_yes
  have HN0 : Hid ((¬ (68 ≤ b0) → rsg b0 b1 b2 b3 b4 b5 b6 = false) ∧ (Rk b0 b1 b2 b3 b4 b5 b6 0 → 68 ≤ b0 → Rk b0 b1 b2 b3 b4 b5 b6 1)) := ⟨rsg_no0, rk_next0⟩
  have HN1 : Hid ((¬ (b0 ≤ b1) → rsg b0 b1 b2 b3 b4 b5 b6 = false) ∧ (Rk b0 b1 b2 b3 b4 b5 b6 1 → b0 ≤ b1 → Rk b0 b1 b2 b3 b4 b5 b6 2)) := ⟨rsg_no1, rk_next1⟩
  have HN2 : Hid ((¬ (b1 ≤ b2) → rsg b0 b1 b2 b3 b4 b5 b6 = false) ∧ (Rk b0 b1 b2 b3 b4 b5 b6 2 → b1 ≤ b2 → Rk b0 b1 b2 b3 b4 b5 b6 3)) := ⟨rsg_no2, rk_next2⟩
  have HN3 : Hid ((¬ (b2 ≤ b3) → rsg b0 b1 b2 b3 b4 b5 b6 = false) ∧ (Rk b0 b1 b2 b3 b4 b5 b6 3 → b2 ≤ b3 → Rk b0 b1 b2 b3 b4 b5 b6 4)) := ⟨rsg_no3, rk_next3⟩
  have HN4 : Hid ((¬ (b3 ≤ b4) → rsg b0 b1 b2 b3 b4 b5 b6 = false) ∧ (Rk b0 b1 b2 b3 b4 b5 b6 4 → b3 ≤ b4 → Rk b0 b1 b2 b3 b4 b5 b6 5)) := ⟨rsg_no4, rk_next4⟩
  have HN5 : Hid ((¬ (b4 ≤ b5) → rsg b0 b1 b2 b3 b4 b5 b6 = false) ∧ (Rk b0 b1 b2 b3 b4 b5 b6 5 → b4 ≤ b5 → Rk b0 b1 b2 b3 b4 b5 b6 6)) := ⟨rsg_no5, rk_next5⟩
  have HN6 : Hid ((¬ (b5 ≤ b6) → rsg b0 b1 b2 b3 b4 b5 b6 = false) ∧ (Rk b0 b1 b2 b3 b4 b5 b6 6 → b5 ≤ b6 → Rk b0 b1 b2 b3 b4 b5 b6 7)) := ⟨rsg_no6, rk_next6⟩
  have HG : Hid _ := World.grownBy_alloc w (.cells #[.int .i64 b0, .int .i64 b1, .int .i64 b2, .int .i64 b3, .int .i64 b4, .int .i64 b5, .int .i64 b6] 58) none
  generalize hK : Rk b0 b1 b2 b3 b4 b5 b6 = K at *
  clear hK
  generalize rsg b0 b1 b2 b3 b4 b5 b6 = R at *
  go_enter Try.func23, Try.ntmps23
  go_wp2
  go_loopw [3, 7] (fun v i wr => ∃ j : Nat, j ≤ 7 ∧ i = .int .i64 j ∧ v = .int .i64 ([68, b0, b1, b2, b3, b4, b5, b6].getD j 0) ∧ K j ∧ w.grownBy wr none) (fun _ i _ => 7 - (intOf i).toNat)
  case atStart => exact ⟨0, by omega, rfl, rfl, H0.out, HG.out⟩
  case round =>
    obtain ⟨j, hj, rfl, rfl, hk, hg⟩ := hrel
    have HJ : Hid _ := And.intro hk hg
    clear hk hg H0 HG
    rcases (by omega : j = 0 ∨ j = 1 ∨ j = 2 ∨ j = 3 ∨ j = 4 ∨ j = 5 ∨ j = 6 ∨ j = 7) with rfl | rfl | rfl | rfl | rfl | rfl | rfl | rfl
    · simp only [List.getD_cons_zero, List.getD_cons_succ]
      clear HN1 HN2 HN3 HN4 HN5 HN6
      by_cases c : b0 < 68
      · have er := HN0.out.1 (by omega)
        subst er
        go_wp2_with ((with_reducible refine ix7_here ?_); refine wpList_index rfl 58 _ _ rfl _ _ _ rfl rfl (run_ix7_0 _ _ _ _ _ _ _ _) ?_)
        go_ret
        exact ⟨rfl, HJ.out.2⟩
      · have hn := HN0.out.2 HJ.out.1 (by omega)
        have HF : Hid _ := And.intro hn HJ.out.2
        clear hn HJ HN0
        go_wp2_with ((with_reducible refine ix7_here ?_); refine wpList_index rfl 58 _ _ rfl _ _ _ rfl rfl (run_ix7_0 _ _ _ _ _ _ _ _) ?_)
        go_roundw
        case rel => exact ⟨1, by omega, rfl, rfl, HF.out.1, HF.out.2⟩
        case measure => simp [intOf]
    · simp only [List.getD_cons_zero, List.getD_cons_succ]
      clear HN0 HN2 HN3 HN4 HN5 HN6
      by_cases c : b1 < b0
      · have er := HN1.out.1 (by omega)
        subst er
        go_wp2_with ((with_reducible refine ix7_here ?_); refine wpList_index rfl 58 _ _ rfl _ _ _ rfl rfl (run_ix7_1 _ _ _ _ _ _ _ _) ?_)
        go_ret
        exact ⟨rfl, HJ.out.2⟩
      · have hn := HN1.out.2 HJ.out.1 (by omega)
        have HF : Hid _ := And.intro hn HJ.out.2
        clear hn HJ HN1
        go_wp2_with ((with_reducible refine ix7_here ?_); refine wpList_index rfl 58 _ _ rfl _ _ _ rfl rfl (run_ix7_1 _ _ _ _ _ _ _ _) ?_)
        go_roundw
        case rel => exact ⟨2, by omega, rfl, rfl, HF.out.1, HF.out.2⟩
        case measure => simp [intOf]
    · simp only [List.getD_cons_zero, List.getD_cons_succ]
      clear HN0 HN1 HN3 HN4 HN5 HN6
      by_cases c : b2 < b1
      · have er := HN2.out.1 (by omega)
        subst er
        go_wp2_with ((with_reducible refine ix7_here ?_); refine wpList_index rfl 58 _ _ rfl _ _ _ rfl rfl (run_ix7_2 _ _ _ _ _ _ _ _) ?_)
        go_ret
        exact ⟨rfl, HJ.out.2⟩
      · have hn := HN2.out.2 HJ.out.1 (by omega)
        have HF : Hid _ := And.intro hn HJ.out.2
        clear hn HJ HN2
        go_wp2_with ((with_reducible refine ix7_here ?_); refine wpList_index rfl 58 _ _ rfl _ _ _ rfl rfl (run_ix7_2 _ _ _ _ _ _ _ _) ?_)
        go_roundw
        case rel => exact ⟨3, by omega, rfl, rfl, HF.out.1, HF.out.2⟩
        case measure => simp [intOf]
    · simp only [List.getD_cons_zero, List.getD_cons_succ]
      clear HN0 HN1 HN2 HN4 HN5 HN6
      by_cases c : b3 < b2
      · have er := HN3.out.1 (by omega)
        subst er
        go_wp2_with ((with_reducible refine ix7_here ?_); refine wpList_index rfl 58 _ _ rfl _ _ _ rfl rfl (run_ix7_3 _ _ _ _ _ _ _ _) ?_)
        go_ret
        exact ⟨rfl, HJ.out.2⟩
      · have hn := HN3.out.2 HJ.out.1 (by omega)
        have HF : Hid _ := And.intro hn HJ.out.2
        clear hn HJ HN3
        go_wp2_with ((with_reducible refine ix7_here ?_); refine wpList_index rfl 58 _ _ rfl _ _ _ rfl rfl (run_ix7_3 _ _ _ _ _ _ _ _) ?_)
        go_roundw
        case rel => exact ⟨4, by omega, rfl, rfl, HF.out.1, HF.out.2⟩
        case measure => simp [intOf]
    · simp only [List.getD_cons_zero, List.getD_cons_succ]
      clear HN0 HN1 HN2 HN3 HN5 HN6
      by_cases c : b4 < b3
      · have er := HN4.out.1 (by omega)
        subst er
        go_wp2_with ((with_reducible refine ix7_here ?_); refine wpList_index rfl 58 _ _ rfl _ _ _ rfl rfl (run_ix7_4 _ _ _ _ _ _ _ _) ?_)
        go_ret
        exact ⟨rfl, HJ.out.2⟩
      · have hn := HN4.out.2 HJ.out.1 (by omega)
        have HF : Hid _ := And.intro hn HJ.out.2
        clear hn HJ HN4
        go_wp2_with ((with_reducible refine ix7_here ?_); refine wpList_index rfl 58 _ _ rfl _ _ _ rfl rfl (run_ix7_4 _ _ _ _ _ _ _ _) ?_)
        go_roundw
        case rel => exact ⟨5, by omega, rfl, rfl, HF.out.1, HF.out.2⟩
        case measure => simp [intOf]
    · simp only [List.getD_cons_zero, List.getD_cons_succ]
      clear HN0 HN1 HN2 HN3 HN4 HN6
      by_cases c : b5 < b4
      · have er := HN5.out.1 (by omega)
        subst er
        go_wp2_with ((with_reducible refine ix7_here ?_); refine wpList_index rfl 58 _ _ rfl _ _ _ rfl rfl (run_ix7_5 _ _ _ _ _ _ _ _) ?_)
        go_ret
        exact ⟨rfl, HJ.out.2⟩
      · have hn := HN5.out.2 HJ.out.1 (by omega)
        have HF : Hid _ := And.intro hn HJ.out.2
        clear hn HJ HN5
        go_wp2_with ((with_reducible refine ix7_here ?_); refine wpList_index rfl 58 _ _ rfl _ _ _ rfl rfl (run_ix7_5 _ _ _ _ _ _ _ _) ?_)
        go_roundw
        case rel => exact ⟨6, by omega, rfl, rfl, HF.out.1, HF.out.2⟩
        case measure => simp [intOf]
    · simp only [List.getD_cons_zero, List.getD_cons_succ]
      clear HN0 HN1 HN2 HN3 HN4 HN5
      by_cases c : b6 < b5
      · have er := HN6.out.1 (by omega)
        subst er
        go_wp2_with ((with_reducible refine ix7_here ?_); refine wpList_index rfl 58 _ _ rfl _ _ _ rfl rfl (run_ix7_6 _ _ _ _ _ _ _ _) ?_)
        go_ret
        exact ⟨rfl, HJ.out.2⟩
      · have hn := HN6.out.2 HJ.out.1 (by omega)
        have HF : Hid _ := And.intro hn HJ.out.2
        clear hn HJ HN6
        go_wp2_with ((with_reducible refine ix7_here ?_); refine wpList_index rfl 58 _ _ rfl _ _ _ rfl rfl (run_ix7_6 _ _ _ _ _ _ _ _) ?_)
        go_roundw
        case rel => exact ⟨7, by omega, rfl, rfl, HF.out.1, HF.out.2⟩
        case measure => simp [intOf]
    · have er := HY.out HJ.out.1
      subst er
      simp only [List.getD_cons_zero, List.getD_cons_succ]
      go_wp2
      go_ret
      exact ⟨rfl, HJ.out.2⟩
def Zk (z0 z1 z2 z3 z4 z5 : Int) (j : Nat) : Prop := (0 < j → 0 ≤ z0 ∧ z0 ≤ 16777216) ∧ (1 < j → 0 ≤ z1 ∧ z1 ≤ 16777216) ∧ (2 < j → 0 ≤ z2 ∧ z2 ≤ 16777216) ∧ (3 < j → 0 ≤ z3 ∧ z3 ≤ 16777216) ∧ (4 < j → 0 ≤ z4 ∧ z4 ≤ 16777216) ∧ (5 < j → 0 ≤ z5 ∧ z5 ≤ 16777216)
def szg (z0 z1 z2 z3 z4 z5 : Int) : Bool := decide (0 ≤ z0 ∧ z0 ≤ 16777216 ∧ 0 ≤ z1 ∧ z1 ≤ 16777216 ∧ 0 ≤ z2 ∧ z2 ≤ 16777216 ∧ 0 ≤ z3 ∧ z3 ≤ 16777216 ∧ 0 ≤ z4 ∧ z4 ≤ 16777216 ∧ 0 ≤ z5 ∧ z5 ≤ 16777216)
theorem szg_yes {z0 z1 z2 z3 z4 z5 : Int} (h : Zk z0 z1 z2 z3 z4 z5 6) : szg z0 z1 z2 z3 z4 z5 = true := by unfold Zk at h; unfold szg; rw [decide_eq_true_eq]; omega
theorem szg_no0 {z0 z1 z2 z3 z4 z5 : Int} (h : ¬ (0 ≤ z0 ∧ z0 ≤ 16777216)) : szg z0 z1 z2 z3 z4 z5 = false := by unfold szg; rw [decide_eq_false_iff_not]; omega
theorem szg_no1 {z0 z1 z2 z3 z4 z5 : Int} (h : ¬ (0 ≤ z1 ∧ z1 ≤ 16777216)) : szg z0 z1 z2 z3 z4 z5 = false := by unfold szg; rw [decide_eq_false_iff_not]; omega
theorem szg_no2 {z0 z1 z2 z3 z4 z5 : Int} (h : ¬ (0 ≤ z2 ∧ z2 ≤ 16777216)) : szg z0 z1 z2 z3 z4 z5 = false := by unfold szg; rw [decide_eq_false_iff_not]; omega
theorem szg_no3 {z0 z1 z2 z3 z4 z5 : Int} (h : ¬ (0 ≤ z3 ∧ z3 ≤ 16777216)) : szg z0 z1 z2 z3 z4 z5 = false := by unfold szg; rw [decide_eq_false_iff_not]; omega
theorem szg_no4 {z0 z1 z2 z3 z4 z5 : Int} (h : ¬ (0 ≤ z4 ∧ z4 ≤ 16777216)) : szg z0 z1 z2 z3 z4 z5 = false := by unfold szg; rw [decide_eq_false_iff_not]; omega
theorem szg_no5 {z0 z1 z2 z3 z4 z5 : Int} (h : ¬ (0 ≤ z5 ∧ z5 ≤ 16777216)) : szg z0 z1 z2 z3 z4 z5 = false := by unfold szg; rw [decide_eq_false_iff_not]; omega
theorem zk_next0 {z0 z1 z2 z3 z4 z5 : Int} (h : Zk z0 z1 z2 z3 z4 z5 0) (k : 0 ≤ z0 ∧ z0 ≤ 16777216) : Zk z0 z1 z2 z3 z4 z5 1 := by unfold Zk at *; omega
theorem zk_next1 {z0 z1 z2 z3 z4 z5 : Int} (h : Zk z0 z1 z2 z3 z4 z5 1) (k : 0 ≤ z1 ∧ z1 ≤ 16777216) : Zk z0 z1 z2 z3 z4 z5 2 := by unfold Zk at *; omega
theorem zk_next2 {z0 z1 z2 z3 z4 z5 : Int} (h : Zk z0 z1 z2 z3 z4 z5 2) (k : 0 ≤ z2 ∧ z2 ≤ 16777216) : Zk z0 z1 z2 z3 z4 z5 3 := by unfold Zk at *; omega
theorem zk_next3 {z0 z1 z2 z3 z4 z5 : Int} (h : Zk z0 z1 z2 z3 z4 z5 3) (k : 0 ≤ z3 ∧ z3 ≤ 16777216) : Zk z0 z1 z2 z3 z4 z5 4 := by unfold Zk at *; omega
theorem zk_next4 {z0 z1 z2 z3 z4 z5 : Int} (h : Zk z0 z1 z2 z3 z4 z5 4) (k : 0 ≤ z4 ∧ z4 ≤ 16777216) : Zk z0 z1 z2 z3 z4 z5 5 := by unfold Zk at *; omega
theorem zk_next5 {z0 z1 z2 z3 z4 z5 : Int} (h : Zk z0 z1 z2 z3 z4 z5 5) (k : 0 ≤ z5 ∧ z5 ≤ 16777216) : Zk z0 z1 z2 z3 z4 z5 6 := by unfold Zk at *; omega
theorem zk_zero (z0 z1 z2 z3 z4 z5 : Int) : Zk z0 z1 z2 z3 z4 z5 0 := by unfold Zk; omega
set_option maxHeartbeats 4000000 in
theorem psizes_any (a0 z0 a1 z1 a2 z2 a3 z3 a4 z4 a5 z5 : Int) (w : World) : Calls Try.prog 25 #[.agg #[.int .i64 a0, .int .i64 z0, .int .i64 a1, .int .i64 z1, .int .i64 a2, .int .i64 z2, .int .i64 a3, .int .i64 z3, .int .i64 a4, .int .i64 z4, .int .i64 a5, .int .i64 z5]] w fun e w' => e = .returned (.bool (szg z0 z1 z2 z3 z4 z5)) ∧ w.grownBy w' none := by
  have H0 : Hid (Zk z0 z1 z2 z3 z4 z5 0) := zk_zero z0 z1 z2 z3 z4 z5
  have HY : Hid (Zk z0 z1 z2 z3 z4 z5 6 → szg z0 z1 z2 z3 z4 z5 = true) := szg_yes
  have HN0 : Hid ((¬ (0 ≤ z0 ∧ z0 ≤ 16777216) → szg z0 z1 z2 z3 z4 z5 = false) ∧ (Zk z0 z1 z2 z3 z4 z5 0 → (0 ≤ z0 ∧ z0 ≤ 16777216) → Zk z0 z1 z2 z3 z4 z5 1)) := ⟨szg_no0, zk_next0⟩
  have HN1 : Hid ((¬ (0 ≤ z1 ∧ z1 ≤ 16777216) → szg z0 z1 z2 z3 z4 z5 = false) ∧ (Zk z0 z1 z2 z3 z4 z5 1 → (0 ≤ z1 ∧ z1 ≤ 16777216) → Zk z0 z1 z2 z3 z4 z5 2)) := ⟨szg_no1, zk_next1⟩
  have HN2 : Hid ((¬ (0 ≤ z2 ∧ z2 ≤ 16777216) → szg z0 z1 z2 z3 z4 z5 = false) ∧ (Zk z0 z1 z2 z3 z4 z5 2 → (0 ≤ z2 ∧ z2 ≤ 16777216) → Zk z0 z1 z2 z3 z4 z5 3)) := ⟨szg_no2, zk_next2⟩
  have HN3 : Hid ((¬ (0 ≤ z3 ∧ z3 ≤ 16777216) → szg z0 z1 z2 z3 z4 z5 = false) ∧ (Zk z0 z1 z2 z3 z4 z5 3 → (0 ≤ z3 ∧ z3 ≤ 16777216) → Zk z0 z1 z2 z3 z4 z5 4)) := ⟨szg_no3, zk_next3⟩
  have HN4 : Hid ((¬ (0 ≤ z4 ∧ z4 ≤ 16777216) → szg z0 z1 z2 z3 z4 z5 = false) ∧ (Zk z0 z1 z2 z3 z4 z5 4 → (0 ≤ z4 ∧ z4 ≤ 16777216) → Zk z0 z1 z2 z3 z4 z5 5)) := ⟨szg_no4, zk_next4⟩
  have HN5 : Hid ((¬ (0 ≤ z5 ∧ z5 ≤ 16777216) → szg z0 z1 z2 z3 z4 z5 = false) ∧ (Zk z0 z1 z2 z3 z4 z5 5 → (0 ≤ z5 ∧ z5 ≤ 16777216) → Zk z0 z1 z2 z3 z4 z5 6)) := ⟨szg_no5, zk_next5⟩
  have HG : Hid _ := World.grownBy_alloc w (.cells #[.int .i64 a0, .int .i64 z0, .int .i64 a1, .int .i64 z1, .int .i64 a2, .int .i64 z2, .int .i64 a3, .int .i64 z3, .int .i64 a4, .int .i64 z4, .int .i64 a5, .int .i64 z5] 24) none
  generalize hK : Zk z0 z1 z2 z3 z4 z5 = K at *
  clear hK
  generalize szg z0 z1 z2 z3 z4 z5 = R at *
  go_enter Try.func25, Try.ntmps25
  go_wp2
  go_loopw [6] (fun i wr => ∃ j : Nat, j ≤ 6 ∧ i = .int .i64 j ∧ K j ∧ w.grownBy wr none) (fun i _ => 6 - (intOf i).toNat)
  case atStart => exact ⟨0, by omega, rfl, H0.out, HG.out⟩
  case round =>
    obtain ⟨j, hj, rfl, hk, hg⟩ := hrel
    have HJ : Hid _ := And.intro hk hg
    clear hk hg H0 HG
    rcases (by omega : j = 0 ∨ j = 1 ∨ j = 2 ∨ j = 3 ∨ j = 4 ∨ j = 5 ∨ j = 6) with rfl | rfl | rfl | rfl | rfl | rfl | rfl
    · clear HN1 HN2 HN3 HN4 HN5
      have HA : Hid _ := World.grownBy_alloc wr (.cells #[.int .i64 a0, .int .i64 z0] 23) none
      by_cases c : z0 < 0
      · have er := HN0.out.1 (by omega)
        subst er
        go_wp2_with ((with_reducible refine ix6_here ?_); refine wpList_index rfl 24 _ _ rfl _ _ _ rfl rfl (run_ix6_0 _ _ _ _ _ _ _ _ _ _ _ _ _) ?_)
        go_ret
        exact ⟨rfl, grown_trans HJ.out.2 HA.out⟩
      · by_cases d : 16777216 < z0
        · have er := HN0.out.1 (by omega)
          subst er
          go_wp2_with ((with_reducible refine ix6_here ?_); refine wpList_index rfl 24 _ _ rfl _ _ _ rfl rfl (run_ix6_0 _ _ _ _ _ _ _ _ _ _ _ _ _) ?_)
          go_ret
          exact ⟨rfl, grown_trans HJ.out.2 HA.out⟩
        · have hn := HN0.out.2 HJ.out.1 (by omega)
          have HF : Hid _ := And.intro hn HJ.out.2
          clear hn HJ HN0
          go_wp2_with ((with_reducible refine ix6_here ?_); refine wpList_index rfl 24 _ _ rfl _ _ _ rfl rfl (run_ix6_0 _ _ _ _ _ _ _ _ _ _ _ _ _) ?_)
          go_roundw
          case rel => exact ⟨1, by omega, rfl, HF.out.1, grown_trans HF.out.2 HA.out⟩
          case measure => simp [intOf]
    · clear HN0 HN2 HN3 HN4 HN5
      have HA : Hid _ := World.grownBy_alloc wr (.cells #[.int .i64 a1, .int .i64 z1] 23) none
      by_cases c : z1 < 0
      · have er := HN1.out.1 (by omega)
        subst er
        go_wp2_with ((with_reducible refine ix6_here ?_); refine wpList_index rfl 24 _ _ rfl _ _ _ rfl rfl (run_ix6_1 _ _ _ _ _ _ _ _ _ _ _ _ _) ?_)
        go_ret
        exact ⟨rfl, grown_trans HJ.out.2 HA.out⟩
      · by_cases d : 16777216 < z1
        · have er := HN1.out.1 (by omega)
          subst er
          go_wp2_with ((with_reducible refine ix6_here ?_); refine wpList_index rfl 24 _ _ rfl _ _ _ rfl rfl (run_ix6_1 _ _ _ _ _ _ _ _ _ _ _ _ _) ?_)
          go_ret
          exact ⟨rfl, grown_trans HJ.out.2 HA.out⟩
        · have hn := HN1.out.2 HJ.out.1 (by omega)
          have HF : Hid _ := And.intro hn HJ.out.2
          clear hn HJ HN1
          go_wp2_with ((with_reducible refine ix6_here ?_); refine wpList_index rfl 24 _ _ rfl _ _ _ rfl rfl (run_ix6_1 _ _ _ _ _ _ _ _ _ _ _ _ _) ?_)
          go_roundw
          case rel => exact ⟨2, by omega, rfl, HF.out.1, grown_trans HF.out.2 HA.out⟩
          case measure => simp [intOf]
    · clear HN0 HN1 HN3 HN4 HN5
      have HA : Hid _ := World.grownBy_alloc wr (.cells #[.int .i64 a2, .int .i64 z2] 23) none
      by_cases c : z2 < 0
      · have er := HN2.out.1 (by omega)
        subst er
        go_wp2_with ((with_reducible refine ix6_here ?_); refine wpList_index rfl 24 _ _ rfl _ _ _ rfl rfl (run_ix6_2 _ _ _ _ _ _ _ _ _ _ _ _ _) ?_)
        go_ret
        exact ⟨rfl, grown_trans HJ.out.2 HA.out⟩
      · by_cases d : 16777216 < z2
        · have er := HN2.out.1 (by omega)
          subst er
          go_wp2_with ((with_reducible refine ix6_here ?_); refine wpList_index rfl 24 _ _ rfl _ _ _ rfl rfl (run_ix6_2 _ _ _ _ _ _ _ _ _ _ _ _ _) ?_)
          go_ret
          exact ⟨rfl, grown_trans HJ.out.2 HA.out⟩
        · have hn := HN2.out.2 HJ.out.1 (by omega)
          have HF : Hid _ := And.intro hn HJ.out.2
          clear hn HJ HN2
          go_wp2_with ((with_reducible refine ix6_here ?_); refine wpList_index rfl 24 _ _ rfl _ _ _ rfl rfl (run_ix6_2 _ _ _ _ _ _ _ _ _ _ _ _ _) ?_)
          go_roundw
          case rel => exact ⟨3, by omega, rfl, HF.out.1, grown_trans HF.out.2 HA.out⟩
          case measure => simp [intOf]
    · clear HN0 HN1 HN2 HN4 HN5
      have HA : Hid _ := World.grownBy_alloc wr (.cells #[.int .i64 a3, .int .i64 z3] 23) none
      by_cases c : z3 < 0
      · have er := HN3.out.1 (by omega)
        subst er
        go_wp2_with ((with_reducible refine ix6_here ?_); refine wpList_index rfl 24 _ _ rfl _ _ _ rfl rfl (run_ix6_3 _ _ _ _ _ _ _ _ _ _ _ _ _) ?_)
        go_ret
        exact ⟨rfl, grown_trans HJ.out.2 HA.out⟩
      · by_cases d : 16777216 < z3
        · have er := HN3.out.1 (by omega)
          subst er
          go_wp2_with ((with_reducible refine ix6_here ?_); refine wpList_index rfl 24 _ _ rfl _ _ _ rfl rfl (run_ix6_3 _ _ _ _ _ _ _ _ _ _ _ _ _) ?_)
          go_ret
          exact ⟨rfl, grown_trans HJ.out.2 HA.out⟩
        · have hn := HN3.out.2 HJ.out.1 (by omega)
          have HF : Hid _ := And.intro hn HJ.out.2
          clear hn HJ HN3
          go_wp2_with ((with_reducible refine ix6_here ?_); refine wpList_index rfl 24 _ _ rfl _ _ _ rfl rfl (run_ix6_3 _ _ _ _ _ _ _ _ _ _ _ _ _) ?_)
          go_roundw
          case rel => exact ⟨4, by omega, rfl, HF.out.1, grown_trans HF.out.2 HA.out⟩
          case measure => simp [intOf]
    · clear HN0 HN1 HN2 HN3 HN5
      have HA : Hid _ := World.grownBy_alloc wr (.cells #[.int .i64 a4, .int .i64 z4] 23) none
      by_cases c : z4 < 0
      · have er := HN4.out.1 (by omega)
        subst er
        go_wp2_with ((with_reducible refine ix6_here ?_); refine wpList_index rfl 24 _ _ rfl _ _ _ rfl rfl (run_ix6_4 _ _ _ _ _ _ _ _ _ _ _ _ _) ?_)
        go_ret
        exact ⟨rfl, grown_trans HJ.out.2 HA.out⟩
      · by_cases d : 16777216 < z4
        · have er := HN4.out.1 (by omega)
          subst er
          go_wp2_with ((with_reducible refine ix6_here ?_); refine wpList_index rfl 24 _ _ rfl _ _ _ rfl rfl (run_ix6_4 _ _ _ _ _ _ _ _ _ _ _ _ _) ?_)
          go_ret
          exact ⟨rfl, grown_trans HJ.out.2 HA.out⟩
        · have hn := HN4.out.2 HJ.out.1 (by omega)
          have HF : Hid _ := And.intro hn HJ.out.2
          clear hn HJ HN4
          go_wp2_with ((with_reducible refine ix6_here ?_); refine wpList_index rfl 24 _ _ rfl _ _ _ rfl rfl (run_ix6_4 _ _ _ _ _ _ _ _ _ _ _ _ _) ?_)
          go_roundw
          case rel => exact ⟨5, by omega, rfl, HF.out.1, grown_trans HF.out.2 HA.out⟩
          case measure => simp [intOf]
    · clear HN0 HN1 HN2 HN3 HN4
      have HA : Hid _ := World.grownBy_alloc wr (.cells #[.int .i64 a5, .int .i64 z5] 23) none
      by_cases c : z5 < 0
      · have er := HN5.out.1 (by omega)
        subst er
        go_wp2_with ((with_reducible refine ix6_here ?_); refine wpList_index rfl 24 _ _ rfl _ _ _ rfl rfl (run_ix6_5 _ _ _ _ _ _ _ _ _ _ _ _ _) ?_)
        go_ret
        exact ⟨rfl, grown_trans HJ.out.2 HA.out⟩
      · by_cases d : 16777216 < z5
        · have er := HN5.out.1 (by omega)
          subst er
          go_wp2_with ((with_reducible refine ix6_here ?_); refine wpList_index rfl 24 _ _ rfl _ _ _ rfl rfl (run_ix6_5 _ _ _ _ _ _ _ _ _ _ _ _ _) ?_)
          go_ret
          exact ⟨rfl, grown_trans HJ.out.2 HA.out⟩
        · have hn := HN5.out.2 HJ.out.1 (by omega)
          have HF : Hid _ := And.intro hn HJ.out.2
          clear hn HJ HN5
          go_wp2_with ((with_reducible refine ix6_here ?_); refine wpList_index rfl 24 _ _ rfl _ _ _ rfl rfl (run_ix6_5 _ _ _ _ _ _ _ _ _ _ _ _ _) ?_)
          go_roundw
          case rel => exact ⟨6, by omega, rfl, HF.out.1, grown_trans HF.out.2 HA.out⟩
          case measure => simp [intOf]
    · have er := HY.out HJ.out.1
      subst er
      go_wp2
      go_ret
      exact ⟨rfl, HJ.out.2⟩
/-- the bounds so far -/
def lc (s : Sp) (j : Nat) : List Value := ([.int .i64 s.a0, .int .i64 s.a1, .int .i64 s.a2, .int .i64 s.a3, .int .i64 s.a4, .int .i64 s.a5].take j) ++ List.replicate (7 - j) (.int .i64 0)
structure Jb (w W : World) (g gz gl : Nat) (s : Sp) (cs : List Value) : Prop where
  bx : Bx W g 26 s.cells
  z : Bx W gz 58 (List.replicate 7 (.int .i64 0))
  l : Bx W gl 58 cs
  gw : w.grownBy W none
  lz : w.heap.size ≤ gz
  ll : w.heap.size ≤ gl
  n1 : g ≠ gl
  n2 : gz ≠ gl
theorem Jb.kept {w W W' : World} {g gz gl : Nat} {s : Sp} {cs : List Value} (h : Jb w W g gz gl s cs) (k : W.grownBy W' none) : Jb w W' g gz gl s cs := ⟨h.bx.kept k, h.z.kept k, h.l.kept k, grown_trans h.gw k, h.lz, h.ll, h.n1, h.n2⟩
theorem Jb.put {w W : World} {g gz gl : Nat} {s : Sp} {cs : List Value} (h : Jb w W g gz gl s cs) (i : Nat) (v : Value) : Jb w (W.setCell ⟨gl, i, none⟩ v) g gz gl s (cs.set i v) := by
  have hg := grown_set W gl i v
  exact ⟨⟨by rw [hg.block _ h.bx.lt (by simpa using h.n1)]; exact h.bx.blk⟩, ⟨by rw [hg.block _ h.z.lt (by simpa using h.n2)]; exact h.z.blk⟩, h.l.set i v, grown_new h.gw hg h.ll, h.lz, h.ll, h.n1, h.n2⟩
set_option maxHeartbeats 8000000 in
theorem pbounds_any (s : Sp) (w : World) : Calls Try.prog 24 #[s.val] w fun e w' => e = .returned (.agg #[.int .i64 s.a0, .int .i64 s.a1, .int .i64 s.a2, .int .i64 s.a3, .int .i64 s.a4, .int .i64 s.a5, .int .i64 s.ln]) ∧ w.grownBy w' none := by
  have J0 : Jb w (((w.alloc (.cells s.cells.toArray 26)).alloc (.cells (List.replicate 7 (.int .i64 0)).toArray 58)).alloc (.cells (List.replicate 7 (.int .i64 0)).toArray 58)) w.heap.size (w.heap.size + 1) (w.heap.size + 1 + 1) s (lc s 0) := by
    have g1 := World.grownBy_alloc w (.cells s.cells.toArray 26) none
    have g2 := World.grownBy_alloc (w.alloc (.cells s.cells.toArray 26)) (.cells (List.replicate 7 (.int .i64 0)).toArray 58) none
    have g3 := World.grownBy_alloc ((w.alloc (.cells s.cells.toArray 26)).alloc (.cells (List.replicate 7 (.int .i64 0)).toArray 58)) (.cells (List.replicate 7 (.int .i64 0)).toArray 58) none
    have b1 := ((Bx.new w 26 s.cells).kept g2).kept g3
    have b2 := (Bx.new (w.alloc (.cells s.cells.toArray 26)) 58 (List.replicate 7 (.int .i64 0))).kept g3
    have b3 := Bx.new ((w.alloc (.cells s.cells.toArray 26)).alloc (.cells (List.replicate 7 (.int .i64 0)).toArray 58)) 58 (List.replicate 7 (.int .i64 0))
    simp only [World.size_alloc] at b2 b3
    exact ⟨b1, b2, b3, grown_trans (grown_trans g1 g2) g3, by omega, by omega, by omega, by omega⟩
  have H0 : Hid _ := J0
  clear J0
  obtain ⟨lg, no, ln, a0, z0, a1, z1, a2, z2, a3, z3, a4, z4, a5, z5⟩ := s
  simp only [Sp.val, Sp.cells] at *
  go_enter Try.func24, Try.ntmps24
  go_wp2
  go_loopw [8] (fun i wr => ∃ j : Nat, j ≤ 6 ∧ i = .int .i64 j ∧ Jb w wr w.heap.size (w.heap.size + 1) (w.heap.size + 1 + 1) ⟨lg, no, ln, a0, z0, a1, z1, a2, z2, a3, z3, a4, z4, a5, z5⟩ (lc ⟨lg, no, ln, a0, z0, a1, z1, a2, z2, a3, z3, a4, z4, a5, z5⟩ j)) (fun i _ => 6 - (intOf i).toNat)
  case atStart => exact ⟨0, by omega, rfl, H0.out⟩
  case round =>
    obtain ⟨j, hj, rfl, J⟩ := hrel
    have HJ : Hid _ := J
    clear J H0
    rcases (by omega : j = 0 ∨ j = 1 ∨ j = 2 ∨ j = 3 ∨ j = 4 ∨ j = 5 ∨ j = 6) with rfl | rfl | rfl | rfl | rfl | rfl | rfl
    · have HA : Hid _ := HJ.out.kept (World.grownBy_alloc wr (.cells #[.int .i64 a0, .int .i64 z0] 23) none)
      have c1 := HA.out.l.c 0
      have f1 := HA.out.l.f 0
      simp only [lc, List.take_succ_cons, List.take_zero, List.cons_append, List.nil_append, List.replicate_succ, List.replicate_zero, List.getElem?_cons_zero, List.getElem?_cons_succ, Nat.reduceSub] at c1
      clear HJ
      go_wp2_with ((with_reducible refine ix6_here ?_); refine wpList_index rfl 24 _ _ rfl _ _ _ rfl rfl (run_ix6_0 _ _ _ _ _ _ _ _ _ _ _ _ _) ?_)
      go_roundw
      case rel => exact ⟨1, by omega, rfl, HA.out.put 0 (.int .i64 a0)⟩
      case measure => simp [intOf]
    · have HA : Hid _ := HJ.out.kept (World.grownBy_alloc wr (.cells #[.int .i64 a1, .int .i64 z1] 23) none)
      have c1 := HA.out.l.c 1
      have f1 := HA.out.l.f 1
      simp only [lc, List.take_succ_cons, List.take_zero, List.cons_append, List.nil_append, List.replicate_succ, List.replicate_zero, List.getElem?_cons_zero, List.getElem?_cons_succ, Nat.reduceSub] at c1
      clear HJ
      go_wp2_with ((with_reducible refine ix6_here ?_); refine wpList_index rfl 24 _ _ rfl _ _ _ rfl rfl (run_ix6_1 _ _ _ _ _ _ _ _ _ _ _ _ _) ?_)
      go_roundw
      case rel => exact ⟨2, by omega, rfl, HA.out.put 1 (.int .i64 a1)⟩
      case measure => simp [intOf]
    · have HA : Hid _ := HJ.out.kept (World.grownBy_alloc wr (.cells #[.int .i64 a2, .int .i64 z2] 23) none)
      have c1 := HA.out.l.c 2
      have f1 := HA.out.l.f 2
      simp only [lc, List.take_succ_cons, List.take_zero, List.cons_append, List.nil_append, List.replicate_succ, List.replicate_zero, List.getElem?_cons_zero, List.getElem?_cons_succ, Nat.reduceSub] at c1
      clear HJ
      go_wp2_with ((with_reducible refine ix6_here ?_); refine wpList_index rfl 24 _ _ rfl _ _ _ rfl rfl (run_ix6_2 _ _ _ _ _ _ _ _ _ _ _ _ _) ?_)
      go_roundw
      case rel => exact ⟨3, by omega, rfl, HA.out.put 2 (.int .i64 a2)⟩
      case measure => simp [intOf]
    · have HA : Hid _ := HJ.out.kept (World.grownBy_alloc wr (.cells #[.int .i64 a3, .int .i64 z3] 23) none)
      have c1 := HA.out.l.c 3
      have f1 := HA.out.l.f 3
      simp only [lc, List.take_succ_cons, List.take_zero, List.cons_append, List.nil_append, List.replicate_succ, List.replicate_zero, List.getElem?_cons_zero, List.getElem?_cons_succ, Nat.reduceSub] at c1
      clear HJ
      go_wp2_with ((with_reducible refine ix6_here ?_); refine wpList_index rfl 24 _ _ rfl _ _ _ rfl rfl (run_ix6_3 _ _ _ _ _ _ _ _ _ _ _ _ _) ?_)
      go_roundw
      case rel => exact ⟨4, by omega, rfl, HA.out.put 3 (.int .i64 a3)⟩
      case measure => simp [intOf]
    · have HA : Hid _ := HJ.out.kept (World.grownBy_alloc wr (.cells #[.int .i64 a4, .int .i64 z4] 23) none)
      have c1 := HA.out.l.c 4
      have f1 := HA.out.l.f 4
      simp only [lc, List.take_succ_cons, List.take_zero, List.cons_append, List.nil_append, List.replicate_succ, List.replicate_zero, List.getElem?_cons_zero, List.getElem?_cons_succ, Nat.reduceSub] at c1
      clear HJ
      go_wp2_with ((with_reducible refine ix6_here ?_); refine wpList_index rfl 24 _ _ rfl _ _ _ rfl rfl (run_ix6_4 _ _ _ _ _ _ _ _ _ _ _ _ _) ?_)
      go_roundw
      case rel => exact ⟨5, by omega, rfl, HA.out.put 4 (.int .i64 a4)⟩
      case measure => simp [intOf]
    · have HA : Hid _ := HJ.out.kept (World.grownBy_alloc wr (.cells #[.int .i64 a5, .int .i64 z5] 23) none)
      have c1 := HA.out.l.c 5
      have f1 := HA.out.l.f 5
      simp only [lc, List.take_succ_cons, List.take_zero, List.cons_append, List.nil_append, List.replicate_succ, List.replicate_zero, List.getElem?_cons_zero, List.getElem?_cons_succ, Nat.reduceSub] at c1
      clear HJ
      go_wp2_with ((with_reducible refine ix6_here ?_); refine wpList_index rfl 24 _ _ rfl _ _ _ rfl rfl (run_ix6_5 _ _ _ _ _ _ _ _ _ _ _ _ _) ?_)
      go_roundw
      case rel => exact ⟨6, by omega, rfl, HA.out.put 5 (.int .i64 a5)⟩
      case measure => simp [intOf]
    · have d2 : wr.cell? ⟨w.heap.size, 2, none⟩ = some (.int .i64 ln) := HJ.out.bx.c 2
      have c1 : wr.cell? ⟨w.heap.size + 1 + 1, 6, none⟩ = some (.int .i64 0) := HJ.out.l.c 6
      have f1 := HJ.out.l.f 6
      have HP : Hid (Jb w (wr.setCell ⟨w.heap.size + 1 + 1, 6, none⟩ (.int .i64 ln)) w.heap.size (w.heap.size + 1) (w.heap.size + 1 + 1) ⟨lg, no, ln, a0, z0, a1, z1, a2, z2, a3, z3, a4, z4, a5, z5⟩ [.int .i64 a0, .int .i64 a1, .int .i64 a2, .int .i64 a3, .int .i64 a4, .int .i64 a5, .int .i64 ln]) := HJ.out.put 6 (.int .i64 ln)
      clear HJ
      go_wp2_with (first | ((with_reducible refine load7_here ?_); refine wpList_loadB rfl 58 _ rfl (w.heap.size + 1 + 1) rfl HP.out.l Try.underlying58 rfl info7 ?_) | ((with_reducible refine store7_here ?_); refine wpList_storeB rfl 58 _ _ rfl (w.heap.size + 1) [.int .i64 a0, .int .i64 a1, .int .i64 a2, .int .i64 a3, .int .i64 a4, .int .i64 a5, .int .i64 ln] rfl rfl HP.out.z info7 rfl rfl ?_))
      intro W5 B5 G5
      have HQ : Hid _ := And.intro B5 G5
      clear B5 G5
      go_wp2
      exact bodyPost_ret (v := .agg #[.int .i64 a0, .int .i64 a1, .int .i64 a2, .int .i64 a3, .int .i64 a4, .int .i64 a5, .int .i64 ln]) (results_cell_row rfl _ _ (w.heap.size + 1) 58 _ (0, 0) _ rfl HQ.out.1.blk Try.underlying58 rfl info7) rfl ⟨rfl, grown_new HP.out.gw HQ.out.2 HP.out.lz⟩
/-- Check, as a plain function -/
def pck (s : Sp) : Int := if srt s = true then 0 else 1
theorem srt_split (s : Sp) : srt s = ((decide (12 ≤ s.lg) && decide (s.lg ≤ 20)) && decide (1 ≤ s.no) && decide (s.no ≤ 16385) && decide (s.ln ≤ 8388608) && rsg s.a0 s.a1 s.a2 s.a3 s.a4 s.a5 s.ln && szg s.z0 s.z1 s.z2 s.z3 s.z4 s.z5) := by
  rw [Bool.eq_iff_iff]
  unfold srt rsg szg
  simp only [Bool.and_eq_true, decide_eq_true_eq]
  omega
set_option maxHeartbeats 4000000 in
theorem pcheck13_any (s : Sp) (w : World) : Calls Try.prog 11 #[s.val] w fun e w' => e = .returned (.int .i64 (pck s)) ∧ w.grownBy w' none := by
  have hL := fun W => plog_any s.lg W
  have hB := fun W => pbounds_any s W
  have hR := fun W => prising_any s.a0 s.a1 s.a2 s.a3 s.a4 s.a5 s.ln W
  have hZ := fun W => psizes_any s.a0 s.z0 s.a1 s.z1 s.a2 s.z2 s.a3 s.z3 s.a4 s.z4 s.a5 s.z5 W
  have hs := srt_split s
  unfold pck
  rw [hs]
  clear hs
  generalize rsg s.a0 s.a1 s.a2 s.a3 s.a4 s.a5 s.ln = rr at *
  generalize szg s.z0 s.z1 s.z2 s.z3 s.z4 s.z5 = zz at *
  obtain ⟨lg, no, ln, a0, z0, a1, z1, a2, z2, a3, z3, a4, z4, a5, z5⟩ := s
  simp only [Sp.val] at *
  have J0 := Bx.new w 26 [.int .i64 lg, .int .i64 no, .int .i64 ln, .int .i64 a0, .int .i64 z0, .int .i64 a1, .int .i64 z1, .int .i64 a2, .int .i64 z2, .int .i64 a3, .int .i64 z3, .int .i64 a4, .int .i64 z4, .int .i64 a5, .int .i64 z5]
  have H0 : Hid _ := And.intro J0 (World.grownBy_alloc w (.cells #[.int .i64 lg, .int .i64 no, .int .i64 ln, .int .i64 a0, .int .i64 z0, .int .i64 a1, .int .i64 z1, .int .i64 a2, .int .i64 z2, .int .i64 a3, .int .i64 z3, .int .i64 a4, .int .i64 z4, .int .i64 a5, .int .i64 z5] 26) none)
  obtain ⟨d0, d1, d2, d3, d4, d5, d6, d7, d8, d9, d10, d11, d12, d13, d14⟩ := bx15 J0
  clear J0
  generalize ha : (decide (12 ≤ lg) && decide (lg ≤ 20)) = la at *
  clear ha
  cases la
  · simp only [Bool.false_and]
    go_enter Try.func11, Try.ntmps11
    go_wp2_with (go_at_call 22; refine (hL _).mono ?_; rintro e w' ⟨rfl, rfl⟩)
    go_ret
    exact ⟨rfl, H0.out.2⟩
  · by_cases c0 : no < 1
    · have e0 : decide (1 ≤ no) = false := decide_eq_false (by omega)
      simp only [e0, Bool.false_and, Bool.and_false]
      go_enter Try.func11, Try.ntmps11
      go_wp2_with (go_at_call 22; refine (hL _).mono ?_; rintro e w' ⟨rfl, rfl⟩)
      go_ret
      exact ⟨rfl, H0.out.2⟩
    have e0 : decide (1 ≤ no) = true := decide_eq_true (by omega)
    by_cases c1 : 16385 < no
    · have e1 : decide (no ≤ 16385) = false := decide_eq_false (by omega)
      simp only [e1, Bool.false_and, Bool.and_false]
      go_enter Try.func11, Try.ntmps11
      go_wp2_with (go_at_call 22; refine (hL _).mono ?_; rintro e w' ⟨rfl, rfl⟩)
      go_ret
      exact ⟨rfl, H0.out.2⟩
    have e1 : decide (no ≤ 16385) = true := decide_eq_true (by omega)
    by_cases c2 : 8388608 < ln
    · have e2 : decide (ln ≤ 8388608) = false := decide_eq_false (by omega)
      simp only [e2, Bool.false_and, Bool.and_false]
      go_enter Try.func11, Try.ntmps11
      go_wp2_with (go_at_call 22; refine (hL _).mono ?_; rintro e w' ⟨rfl, rfl⟩)
      go_ret
      exact ⟨rfl, H0.out.2⟩
    have e2 : decide (ln ≤ 8388608) = true := decide_eq_true (by omega)
    simp only [e0, e1, e2, Bool.true_and, Bool.and_true]
    clear e0 e1 e2
    cases rr
    · simp only [Bool.false_and]
      go_enter Try.func11, Try.ntmps11
      go_wp2_with (go_at_call 22; refine (hL _).mono ?_; rintro e w' ⟨rfl, rfl⟩)
      refine (hB _).mono ?_
      rintro e w1 ⟨rfl, g1⟩
      have H1 : Hid _ := And.intro (H0.out.1.kept g1) (grown_trans H0.out.2 g1)
      clear H0 g1 hB d0 d1 d2 d3 d4 d5 d6 d7 d8 d9 d10 d11 d12 d13 d14
      go_wp2_with fail
      refine (hR _).mono ?_
      rintro e w2 ⟨rfl, g2⟩
      have H2 : Hid _ := And.intro (H1.out.1.kept g2) (grown_trans H1.out.2 g2)
      clear H1 g2 hR
      go_wp2
      go_ret
      exact ⟨rfl, H2.out.2⟩
    · simp only [Bool.true_and]
      go_enter Try.func11, Try.ntmps11
      go_wp2_with (go_at_call 22; refine (hL _).mono ?_; rintro e w' ⟨rfl, rfl⟩)
      refine (hB _).mono ?_
      rintro e w1 ⟨rfl, g1⟩
      have H1 : Hid _ := And.intro (H0.out.1.kept g1) (grown_trans H0.out.2 g1)
      clear H0 g1 hB d0 d1 d2 d3 d4 d5 d6 d7 d8 d9 d10 d11 d12 d13 d14
      go_wp2_with fail
      refine (hR _).mono ?_
      rintro e w2 ⟨rfl, g2⟩
      have H2 : Hid _ := And.intro (H1.out.1.kept g2) (grown_trans H1.out.2 g2)
      clear H1 g2 hR
      obtain ⟨d0, d1, d2, d3, d4, d5, d6, d7, d8, d9, d10, d11, d12, d13, d14⟩ := bx15 H2.out.1
      go_wp2_with fail
      refine (hZ _).mono ?_
      rintro e w3 ⟨rfl, g3⟩
      have H3 : Hid _ := grown_trans H2.out.2 g3
      clear H2 g3 hZ d0 d1 d2 d3 d4 d5 d6 d7 d8 d9 d10 d11 d12 d13 d14
      cases zz
      all_goals
        go_wp2
        go_ret
        exact ⟨rfl, H3.out⟩
end Go.Proofs.Ytaedcblphcfkfaa
