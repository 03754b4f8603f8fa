/- The program's boot: which of two counts. -/
import Derived.Test.YtlbilpjlfelgdaaET
namespace Go.Proofs.Ytlbilpjlfelgdaa
open Go.RowKit
set_option linter.unusedSimpArgs false
set_option linter.unusedVariables false

set_option maxHeartbeats 4000000 in
theorem pchoose_any (a : Option Addr) (len cap : Nat) (xs : List Int) (b : Option Addr) (len2 cap2 : Nat) (ys : List Int) (w : World) (R : Row w a len xs) (hnc : len ≤ cap) (hcm : cap ≤ maxLen) (hl : len ≤ 1048576) (R2 : Row w b len2 ys) (hnc2 : len2 ≤ cap2) (hcm2 : cap2 ≤ maxLen) (hl2 : len2 ≤ 1048576) :
    Calls Try.prog 15 #[.slice a len cap, .slice b len2 cap2] w fun e w' => e = .returned (.tuple #[.int .i64 (rch xs ys).1, (rch xs ys).2.1.val, .int .i64 (rch xs ys).2.2]) ∧ w.grownBy w' none := by
  have h1 := fun W R => pdecode_any a len cap xs W R hnc hcm hl
  have h2 := fun W R => pdecode_any b len2 cap2 ys W R hnc2 hcm2 hl2
  have ok1 := (rde_ok R.byt).1
  have ok2 := (rde_ok R2.byt).1
  have er1 := rde_err xs
  have er2 := rde_err ys
  have HRES : Hid (rch xs ys = if (rde xs).2 ≠ 0 ∧ (rde ys).2 ≠ 0 then (0, rc0, 4) else if (rde xs).2 ≠ 0 ∨ ((rde ys).2 = 0 ∧ (rde xs).1.q < (rde ys).1.q) then (1, (rde ys).1, 0) else (0, (rde xs).1, 0)) := rfl
  generalize rch xs ys = RES at *
  generalize rde xs = X at *
  generalize rde ys = Y at *
  obtain ⟨⟨q1, s1, l1, u1⟩, e1⟩ := X
  obtain ⟨⟨q2, s2, l2, u2⟩, e2⟩ := Y
  obtain ⟨k, ⟨p1, p2, p3, p4⟩, pe⟩ := RES
  have hq1 := ok1.1
  have hq2 := ok2.1
  unfold inU at hq1 hq2
  simp only [Rc.val] at *
  have HR : Hid _ := And.intro R R2
  clear R R2 ok1 ok2
  have Z0 := Bx.new w 24 [.int .u64 0, .int .i64 0, .int .i64 0, .int .u64 0]
  have G0 := World.grownBy_alloc w (.cells #[.int .u64 0, .int .i64 0, .int .i64 0, .int .u64 0] 24) none
  have k1 := h1 _ (HR.out.1.grown G0)
  have H0 : Hid _ := And.intro Z0 G0
  clear Z0 G0 h1
  go_enter Try.func15, Try.ntmps15
  go_wp2_with fail
  refine k1.mono ?_
  rintro e w1 ⟨rfl, g1⟩
  have A1 := World.grownBy_alloc w1 (.cells #[.int .u64 q1, .int .i64 s1, .int .i64 l1, .int .u64 u1] 24) none
  have X1 := Bx.new w1 24 [.int .u64 q1, .int .i64 s1, .int .i64 l1, .int .u64 u1]
  have G1 := grown_trans (grown_trans H0.out.2 g1) A1
  have k2 := h2 _ (HR.out.2.grown G1)
  have H1 : Hid _ := And.intro ((H0.out.1.kept g1).kept A1) (And.intro X1 G1)
  clear X1 G1 A1 g1 H0 k1 h2
  simp only
  go_wp2_with fail
  refine k2.mono ?_
  rintro e w2 ⟨rfl, g2⟩
  have A2 := World.grownBy_alloc w2 (.cells #[.int .u64 q2, .int .i64 s2, .int .i64 l2, .int .u64 u2] 24) none
  have T : Thr w (w2.alloc (.cells #[.int .u64 q2, .int .i64 s2, .int .i64 l2, .int .u64 u2] 24)) w.heap.size w1.heap.size w2.heap.size [.int .u64 q1, .int .i64 s1, .int .i64 l1, .int .u64 u1] [.int .u64 q2, .int .i64 s2, .int .i64 l2, .int .u64 u2] := ⟨(H1.out.1.kept g2).kept A2, (H1.out.2.1.kept g2).kept A2, Bx.new w2 24 _, grown_trans (grown_trans H1.out.2.2 g2) A2⟩
  have HT : Hid _ := T
  clear T A2 g2 H1 k2
  simp only
  obtain ⟨x0, x1, x2, x3⟩ := bx4 HT.out.x
  obtain ⟨y0, y1, y2, y3⟩ := bx4 HT.out.y
  obtain ⟨z0, z1, z2, z3⟩ := bx4 HT.out.z
  have f0 := HT.out.z.f 0
  have f1 := HT.out.z.f 1
  have f2 := HT.out.z.f 2
  have f3 := HT.out.z.f 3
  rcases er1 with rfl | rfl
  · rcases er2 with rfl | rfl
    · by_cases c : q1 < q2
      · obtain ⟨rfl, ⟨rfl, rfl, rfl, rfl⟩, rfl⟩ : k = 1 ∧ (q2 = p1 ∧ s2 = p2 ∧ l2 = p3 ∧ u2 = p4) ∧ pe = 0 := by
          have := HRES.out
          rw [if_neg (by simp), if_pos (Or.inr ⟨rfl, c⟩)] at this
          simp [rc0] at this
          omega
        clear HRES
        have R4 := HT.out.z.set4 (.int .u64 q2) (.int .i64 s2) (.int .i64 l2) (.int .u64 u2)
        have HF : Hid _ := grown_new HT.out.gr (grown_set4 _ w.heap.size (.int .u64 q2) (.int .i64 s2) (.int .i64 l2) (.int .u64 u2)) (Nat.le_refl _)
        obtain ⟨d0, d1, d2, d3⟩ := bx4 R4
        unfold set4 at d0 d1 d2 d3
        clear R4 HR
        go_wp2_with fail
        go_region
        go_wp2
        refine bodyPost_ret (by simp [results, Try.results15, go_sem, d0, d1, d2, d3]; try rfl) rfl ?_
        exact ⟨rfl, grown_trans HF.out ⟨rfl, rfl, rfl, Nat.le_refl _, fun _ _ _ => rfl⟩⟩
      · have c' : decide (q1 < q2) = false := decide_eq_false c
        obtain ⟨rfl, ⟨rfl, rfl, rfl, rfl⟩, rfl⟩ : k = 0 ∧ (q1 = p1 ∧ s1 = p2 ∧ l1 = p3 ∧ u1 = p4) ∧ pe = 0 := by
          have := HRES.out
          rw [if_neg (by simp), if_neg (by simp; omega)] at this
          simp [rc0] at this
          omega
        clear HRES
        have R4 := HT.out.z.set4 (.int .u64 q1) (.int .i64 s1) (.int .i64 l1) (.int .u64 u1)
        have HF : Hid _ := grown_new HT.out.gr (grown_set4 _ w.heap.size (.int .u64 q1) (.int .i64 s1) (.int .i64 l1) (.int .u64 u1)) (Nat.le_refl _)
        obtain ⟨d0, d1, d2, d3⟩ := bx4 R4
        unfold set4 at d0 d1 d2 d3
        clear R4 HR
        go_wp2_with fail
        go_region
        go_wp2
        refine bodyPost_ret (by simp [results, Try.results15, go_sem, d0, d1, d2, d3]; try rfl) rfl ?_
        exact ⟨rfl, grown_trans HF.out ⟨rfl, rfl, rfl, Nat.le_refl _, fun _ _ _ => rfl⟩⟩
    · obtain ⟨rfl, ⟨rfl, rfl, rfl, rfl⟩, rfl⟩ : k = 0 ∧ (q1 = p1 ∧ s1 = p2 ∧ l1 = p3 ∧ u1 = p4) ∧ pe = 0 := by
        have := HRES.out
        rw [if_neg (by simp), if_neg (by simp)] at this
        simp [rc0] at this
        omega
      clear HRES
      have R4 := HT.out.z.set4 (.int .u64 q1) (.int .i64 s1) (.int .i64 l1) (.int .u64 u1)
      have HF : Hid _ := grown_new HT.out.gr (grown_set4 _ w.heap.size (.int .u64 q1) (.int .i64 s1) (.int .i64 l1) (.int .u64 u1)) (Nat.le_refl _)
      obtain ⟨d0, d1, d2, d3⟩ := bx4 R4
      unfold set4 at d0 d1 d2 d3
      clear R4 HR
      go_wp2_with fail
      go_region
      go_wp2
      refine bodyPost_ret (by simp [results, Try.results15, go_sem, d0, d1, d2, d3]; try rfl) rfl ?_
      exact ⟨rfl, grown_trans HF.out ⟨rfl, rfl, rfl, Nat.le_refl _, fun _ _ _ => rfl⟩⟩
  · rcases er2 with rfl | rfl
    · obtain ⟨rfl, ⟨rfl, rfl, rfl, rfl⟩, rfl⟩ : k = 1 ∧ (q2 = p1 ∧ s2 = p2 ∧ l2 = p3 ∧ u2 = p4) ∧ pe = 0 := by
        have := HRES.out
        rw [if_neg (by simp), if_pos (Or.inl (by simp))] at this
        simp [rc0] at this
        omega
      clear HRES
      have R4 := HT.out.z.set4 (.int .u64 q2) (.int .i64 s2) (.int .i64 l2) (.int .u64 u2)
      have HF : Hid _ := grown_new HT.out.gr (grown_set4 _ w.heap.size (.int .u64 q2) (.int .i64 s2) (.int .i64 l2) (.int .u64 u2)) (Nat.le_refl _)
      obtain ⟨d0, d1, d2, d3⟩ := bx4 R4
      unfold set4 at d0 d1 d2 d3
      clear R4 HR
      go_wp2_with fail
      go_region
      go_wp2
      refine bodyPost_ret (by simp [results, Try.results15, go_sem, d0, d1, d2, d3]; try rfl) rfl ?_
      exact ⟨rfl, grown_trans HF.out ⟨rfl, rfl, rfl, Nat.le_refl _, fun _ _ _ => rfl⟩⟩
    · obtain ⟨rfl, ⟨rfl, rfl, rfl, rfl⟩, rfl⟩ : k = 0 ∧ (p1 = 0 ∧ p2 = 0 ∧ p3 = 0 ∧ p4 = 0) ∧ pe = 4 := by
        have := HRES.out
        rw [if_pos ⟨by simp, by simp⟩] at this
        simp [rc0] at this
        omega
      clear HRES
      have R4 := HT.out.z.set4 (.int .u64 0) (.int .i64 0) (.int .i64 0) (.int .u64 0)
      have HF : Hid _ := grown_new HT.out.gr (grown_set4 _ w.heap.size (.int .u64 0) (.int .i64 0) (.int .i64 0) (.int .u64 0)) (Nat.le_refl _)
      obtain ⟨d0, d1, d2, d3⟩ := bx4 R4
      unfold set4 at d0 d1 d2 d3
      clear R4 HR
      go_wp2
      refine bodyPost_ret (by simp [results, Try.results15, go_sem, d0, d1, d2, d3]; try rfl) rfl ?_
      exact ⟨rfl, HF.out⟩
end Go.Proofs.Ytlbilpjlfelgdaa
