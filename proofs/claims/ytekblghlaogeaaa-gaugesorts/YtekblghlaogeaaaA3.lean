/- Contracts of Smooth and Steps, the program's and the document's; of live. -/
import Derived.Test.YtekblghlaogeaaaA2
namespace Go.Proofs.Ytekblghlaogeaaa
open Go.RowKit
set_option linter.unusedSimpArgs false
set_option linter.unusedVariables false

theorem smooth_any (was x part : Nat) (w : World) : Calls Try.prog 22 #[.float .f64 was, .float .f64 x, .float .f64 part] w fun e w' => ∃ s n, e = .returned (.float .f64 s) ∧ bits64 s = smo was x part ∧ w' = w.drewN n := by
  have h1 := isnan_any was w
  unfold smo
  by_cases k : nan64 was = true
  · rw [if_pos k]
    rw [k] at h1
    go_enter Try.func22, Try.ntmps22
    go_wp2_with (go_at_call 36; refine h1.mono ?_; rintro e w' ⟨rfl, rfl⟩)
    go_ret
    exact ⟨_, 0, rfl, rfl, rfl⟩
  · rw [if_neg k]
    have k' : nan64 was = false := by simpa using k
    rw [k'] at h1
    have hr := rounded_any
    have hn := onenan_any
    obtain ⟨d, n1, r1, b1, _⟩ := run_fop (P := Try.prog) .sub (by simp) 23 x was w
    obtain ⟨p, n2, r2, b2, _⟩ := run_fop (P := Try.prog) .mul (by simp) 23 d part (w.drewN n1)
    obtain ⟨s, n3, r3, b3, _⟩ := run_fop (P := Try.prog) .add (by simp) 23 was p ((w.drewN n1).drewN n2)
    simp only [World.drewN_drewN] at r2 r3
    go_enter Try.func22, Try.ntmps22
    go_wp2_with (first | (go_at_call 36; refine h1.mono ?_; rintro e w' ⟨rfl, rfl⟩) | (go_at_call 37; refine (hr _ _).mono ?_; rintro e w' ⟨rfl, rfl⟩) | (go_at_call 33; refine (hn _ _).mono ?_; rintro e w' ⟨rfl, rfl⟩))
    go_ret
    refine ⟨_, _, rfl, ?_, rfl⟩
    rw [fop_canon, ← fop_right, b2, ← fop_left .mul d, b1]
theorem refsmooth_any (was x part : Nat) (w : World) : Calls Try.prog 23 #[.float .f64 was, .float .f64 x, .float .f64 part] w fun e w' => ∃ s n, e = .returned (.float .f64 s) ∧ bits64 s = smo was x part ∧ w' = w.drewN n := by
  have h1 := order_self_ne was
  unfold smo
  by_cases k : nan64 was = true
  · rw [if_pos k]
    rw [k] at h1
    go_enter Try.func23, Try.ntmps23
    go_wp2
    go_ret
    exact ⟨_, 0, rfl, rfl, rfl⟩
  · rw [if_neg k]
    have k' : nan64 was = false := by simpa using k
    rw [k'] at h1
    obtain ⟨d, n1, r1, b1, _⟩ := run_fop (P := Try.prog) .sub (by simp) 23 x was w
    obtain ⟨p, n2, r2, b2, _⟩ := run_fop (P := Try.prog) .mul (by simp) 23 d part (w.drewN n1)
    obtain ⟨s, n3, r3, b3, _⟩ := run_fop (P := Try.prog) .add (by simp) 23 was p ((w.drewN n1).drewN n2)
    simp only [World.drewN_drewN] at r2 r3
    go_enter Try.func23, Try.ntmps23
    go_wp2
    go_ret
    refine ⟨_, _, rfl, ?_, rfl⟩
    rw [b3, ← fop_right, b2, ← fop_left .mul d, b1]

theorem le_zero {x : Nat} (h : nan64 x = false) : (FloatKind.f64.format.order x 0 == some Ordering.lt || FloatKind.f64.format.order x 0 == some Ordering.eq) = decide (sr x ≤ 0) := by
  have z : sr 0 = 0 := by decide
  rw [f64order, order_sr h (by decide), z]
  show (some (compareOfLessAndEq (sr x) 0) == some Ordering.lt || some (compareOfLessAndEq (sr x) 0) == some Ordering.eq) = _
  unfold compareOfLessAndEq
  rcases Int.lt_trichotomy (sr x) 0 with k | k | k
  · rw [if_pos k]; simp; omega
  · rw [if_neg (by omega), if_pos k]; simp; omega
  · rw [if_neg (by omega), if_neg (by omega)]; simp; omega
theorem ge_lit {x : Nat} (c : Nat) (z : Int) (hz : sr c = z) (hc : nan64 c = false) (h : nan64 x = false) : (FloatKind.f64.format.order x c == some Ordering.gt || FloatKind.f64.format.order x c == some Ordering.eq) = decide (z ≤ sr x) := by
  rw [f64order, order_sr h hc, hz]
  show (some (compareOfLessAndEq (sr x) z) == some Ordering.gt || some (compareOfLessAndEq (sr x) z) == some Ordering.eq) = _
  unfold compareOfLessAndEq
  rcases Int.lt_trichotomy (sr x) z with k | k | k
  · rw [if_pos k]; simp; omega
  · rw [if_neg (by omega), if_pos k]; simp; omega
  · rw [if_neg (by omega), if_neg (by omega)]; simp; omega
theorem ge_one {x : Nat} (h : nan64 x = false) : (FloatKind.f64.format.order x 4607182418800017408 == some Ordering.gt || FloatKind.f64.format.order x 4607182418800017408 == some Ordering.eq) = decide (4607182418800017408 ≤ sr x) :=
  ge_lit 4607182418800017408 4607182418800017408 (by decide) (by decide) h
theorem ge_two63 {x : Nat} (h : nan64 x = false) : (FloatKind.f64.format.order x 4890909195324358656 == some Ordering.gt || FloatKind.f64.format.order x 4890909195324358656 == some Ordering.eq) = decide (4890909195324358656 ≤ sr x) :=
  ge_lit 4890909195324358656 4890909195324358656 (by decide) (by decide) h
theorem sr_small {x : Nat} (h : x < 9223372036854775808) : sr x = x := by
  have hr : rung x = x := by unfold rung; omega
  have hn : ngv x = false := by unfold ngv; simp; omega
  unfold sr sg
  rw [hn, hr]; simp
theorem of_sr_pos {x : Nat} (hx : x < 18446744073709551616) (h : 0 < sr x) : x < 9223372036854775808 := by
  rcases Nat.lt_or_ge x 9223372036854775808 with k | k
  · exact k
  · have hn : ngv x = true := by unfold ngv; simp; omega
    have := sr_neg hn
    omega
/-- Steps, as a plain function -/
def stps (x : Nat) (n : Int) : Int := if n < 1 ∨ nan64 x = true ∨ sr x ≤ 0 then 0 else if 4607182418800017408 ≤ sr x then n else min ((floatToIntVal .f64 (fop .mul x (foi n)) .i64).getD 0) n
theorem steps_in {x : Nat} {n : Int} (hx : x < 18446744073709551616) (hn : 1 ≤ n) (hn' : n ≤ 9223372036854775807) (h0 : 0 < sr x) (h1 : sr x < 4607182418800017408) (w : World) :
    ∃ y k, (binOp .mul 23 (.float .f64 x) (.float .f64 (floatOfInt .f64 n))).run Try.prog w = .ok (.float .f64 y) w ∧ (convert 23 3 (.float .f64 y)).run Try.prog w = .ok (.int .i64 k) w ∧ floatToIntVal .f64 (fop .mul x (foi n)) .i64 = some k ∧ 0 ≤ k ∧ k ≤ 9223372036854775807 ∧ nan64 y = false ∧ sr y < 4890909195324358656 := by
  have hs := of_sr_pos hx h0
  have e1 := sr_small hs
  obtain ⟨m, rfl⟩ := Int.eq_ofNat_of_zero_le (by omega : 0 ≤ n)
  have hf : foi (m : Int) ≤ 4890909195324358656 := by
    have := near_int (n := m) (by omega)
    have e : foi (m : Int) = Ieee.double.nearest false m 0 := by
      unfold foi floatOfInt FloatKind.nearest FloatKind.encode
      have : (decide ((m : Int) < 0)) = false := by simp
      rw [this]; rfl
    rw [e]; exact this
  obtain ⟨y, hy, hl⟩ := product_fit (x := x) (by omega) hf
  obtain ⟨k, hk, k0, k1⟩ := toInt_fit hl
  refine ⟨y, k, run_float_arith w .mul 23 .f64 x _ y hy, run_convert_float_int w 23 3 .f64 .i64 y k (by kernel_rfl) Try.underlying3 hk, ?_, k0, k1, fb_num hy, ?_⟩
  · unfold fop; rw [hy]; exact hk
  · rw [sr_small (by omega)]; omega
theorem steps_any (x : Nat) (n : Int) (w : World) (hx : x < 18446744073709551616) (hn : -9223372036854775808 ≤ n ∧ n ≤ 9223372036854775807) : Calls Try.prog 24 #[.float .f64 x, .int .i64 n] w fun e w' => e = .returned (.int .i64 (stps x n)) ∧ w = w' := by
  have h1 := isnan_any x w
  unfold stps
  by_cases k1 : n < 1
  · rw [if_pos (Or.inl k1)]
    go_enter Try.func24, Try.ntmps24
    go_wp2_with (go_at_call 36; refine h1.mono ?_; rintro e w' ⟨rfl, rfl⟩)
    go_ret
    exact ⟨rfl, rfl⟩
  · by_cases k2 : nan64 x = true
    · rw [if_pos (Or.inr (Or.inl k2))]
      rw [k2] at h1
      go_enter Try.func24, Try.ntmps24
      go_wp2_with (go_at_call 36; refine h1.mono ?_; rintro e w' ⟨rfl, rfl⟩)
      go_ret
      exact ⟨rfl, rfl⟩
    · have k2' : nan64 x = false := by simpa using k2
      rw [k2'] at h1
      have e3 := le_zero k2'
      have e4 := ge_one k2'
      by_cases k3 : sr x ≤ 0
      · rw [if_pos (Or.inr (Or.inr k3))]
        rw [decide_eq_true k3] at e3
        clear k3 k2 e4
        go_enter Try.func24, Try.ntmps24
        go_wp2_with (go_at_call 36; refine h1.mono ?_; rintro e w' ⟨rfl, rfl⟩)
        go_ret
        exact ⟨rfl, rfl⟩
      · rw [if_neg (by simp [k2]; omega)]
        rw [decide_eq_false k3] at e3
        by_cases k4 : 4607182418800017408 ≤ sr x
        · rw [if_pos k4]
          rw [decide_eq_true k4] at e4
          clear k3 k2 k4
          go_enter Try.func24, Try.ntmps24
          go_wp2_with (go_at_call 36; refine h1.mono ?_; rintro e w' ⟨rfl, rfl⟩)
          go_ret
          exact ⟨rfl, rfl⟩
        · rw [if_neg k4]
          rw [decide_eq_false k4] at e4
          obtain ⟨y, k, hr, hc, hv, k0, kM, _, _⟩ := steps_in hx (by omega) hn.2 (by omega) (by omega) w
          rw [hv]
          clear k3 k2 k4 hv
          rcases Int.lt_or_le n k with k5 | k5
          · have e5 : min ((some k).getD 0) n = n := by simp; omega
            rw [e5]
            go_enter Try.func24, Try.ntmps24
            go_wp2_with (go_at_call 36; refine h1.mono ?_; rintro e w' ⟨rfl, rfl⟩)
            go_ret
            exact ⟨rfl, rfl⟩
          · have e5 : min ((some k).getD 0) n = k := by simp; omega
            rw [e5]
            go_enter Try.func24, Try.ntmps24
            go_wp2_with (go_at_call 36; refine h1.mono ?_; rintro e w' ⟨rfl, rfl⟩)
            go_ret
            exact ⟨rfl, rfl⟩
theorem refsteps_any (x : Nat) (n : Int) (w : World) (hx : x < 18446744073709551616) (hn : -9223372036854775808 ≤ n ∧ n ≤ 9223372036854775807) : Calls Try.prog 25 #[.float .f64 x, .int .i64 n] w fun e w' => e = .returned (.int .i64 (stps x n)) ∧ w = w' := by
  have h1 := order_self_ne x
  unfold stps
  by_cases k1 : n < 1
  · rw [if_pos (Or.inl k1)]
    clear h1
    go_enter Try.func25, Try.ntmps25
    go_wp2
    go_ret
    exact ⟨rfl, rfl⟩
  · by_cases k2 : nan64 x = true
    · rw [if_pos (Or.inr (Or.inl k2))]
      rw [k2] at h1
      go_enter Try.func25, Try.ntmps25
      go_wp2
      go_ret
      exact ⟨rfl, rfl⟩
    · have k2' : nan64 x = false := by simpa using k2
      rw [k2'] at h1
      have e3 := le_zero k2'
      have e4 := ge_one k2'
      by_cases k3 : sr x ≤ 0
      · rw [if_pos (Or.inr (Or.inr k3))]
        rw [decide_eq_true k3] at e3
        clear k3 k2 e4
        go_enter Try.func25, Try.ntmps25
        go_wp2
        go_ret
        exact ⟨rfl, rfl⟩
      · rw [if_neg (by simp [k2]; omega)]
        rw [decide_eq_false k3] at e3
        by_cases k4 : 4607182418800017408 ≤ sr x
        · rw [if_pos k4]
          rw [decide_eq_true k4] at e4
          clear k3 k2 k4
          go_enter Try.func25, Try.ntmps25
          go_wp2
          go_ret
          exact ⟨rfl, rfl⟩
        · rw [if_neg k4]
          rw [decide_eq_false k4] at e4
          obtain ⟨y, k, hr, hc, hv, k0, kM, hy, hs⟩ := steps_in hx (by omega) hn.2 (by omega) (by omega) w
          rw [hv]
          have e6 := ge_two63 hy
          rw [decide_eq_false (by omega)] at e6
          clear k3 k2 k4 hv hs
          rcases Int.lt_or_le n k with k5 | k5
          · have e5 : min ((some k).getD 0) n = n := by simp; omega
            rw [e5]
            go_enter Try.func25, Try.ntmps25
            go_wp2
            go_ret
            exact ⟨rfl, rfl⟩
          · have e5 : min ((some k).getD 0) n = k := by simp; omega
            rw [e5]
            go_enter Try.func25, Try.ntmps25
            go_wp2
            go_ret
            exact ⟨rfl, rfl⟩

theorem live_any (w : World) : Calls Try.prog 15 #[] w fun e w' => e = .returned (.bool true) ∧ ∃ n, w' = w.drewN n := by
  have h1 : ∀ w, Calls Try.prog 9 #[.int .u64 9223372036854775808] w fun e w' => e = .returned (.float .f64 9223372036854775808) ∧ w = w' := fun w => of_any 9223372036854775808 w
  have h2 : ∀ w, Calls Try.prog 9 #[.int .u64 9218868437227405312] w fun e w' => e = .returned (.float .f64 9218868437227405312) ∧ w = w' := fun w => of_any 9218868437227405312 w
  have h3 := fun w => order_any 9223372036854775808 0 w (by decide) (by decide)
  have h4 := fun w => ratio_any 1 0 w
  have h5 := fun w => like_any (fop .quo (foi 1) (foi 0)) 9218868437227405312 w
  have h6 := fun w => steps_any 4602678819172646912 9 w (by decide) (by decide)
  have h7 := fun w => worth_any 100 90 4606732058837280358 w
  have e3 : ord 9223372036854775808 0 = -1 := by decide +kernel
  have e5 : decide (bits64 (fop .quo (foi 1) (foi 0)) = bits64 9218868437227405312) = true := by decide +kernel
  have e6 : stps 4602678819172646912 9 = 4 := by decide +kernel
  have e7 : wrth 100 90 4606732058837280358 = true := by decide +kernel
  rw [e3] at h3
  rw [e5] at h5
  rw [e6] at h6
  rw [e7] at h7
  clear e3 e5 e6 e7
  generalize fop .quo (foi 1) (foi 0) = q at *
  go_enter Try.func15, Try.ntmps15
  go_wp2_with (first | (go_at_call 9; first | (with_reducible refine (h1 _).mono ?_; rintro e w' ⟨rfl, rfl⟩) | (with_reducible refine (h2 _).mono ?_; rintro e w' ⟨rfl, rfl⟩)) | (go_at_call 12; refine (h3 _).mono ?_; rintro e w' ⟨rfl, rfl⟩) | (go_at_call 17; refine (h4 _).mono ?_; rintro e w' ⟨rfl, n1, rfl⟩) | (go_at_call 16; refine (h5 _).mono ?_; rintro e w' ⟨rfl, rfl⟩) | (go_at_call 24; refine (h6 _).mono ?_; rintro e w' ⟨rfl, rfl⟩) | (go_at_call 18; refine (h7 _).mono ?_; rintro e w' ⟨rfl, n2, rfl⟩))
  go_ret
  exact ⟨rfl, _, rfl⟩
end Go.Proofs.Ytekblghlaogeaaa
