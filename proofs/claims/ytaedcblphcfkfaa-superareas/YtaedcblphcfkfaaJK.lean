/- The walk of SuperAreas. -/
import Derived.Test.YtaedcblphcfkfaaJH
namespace Go.Proofs.Ytaedcblphcfkfaa
open Go.RowKit
set_option linter.unusedSimpArgs false
set_option linter.unusedVariables false

set_option maxHeartbeats 8000000 in
theorem superAreas_walk (s : Sp) (i : Int) (w : World) (hs : s.ok) (hi : -9223372036854775808 ≤ i ∧ i ≤ 9223372036854775807) :
    Calls Try.prog 5 #[s.val, .int .i64 i] w fun e w' => e = .returned (.bool true) ∧ Below w.heap.size w w' := by
  have HL : Hid (∀ W : World, Calls Try.prog 7 #[] W fun e w' => e = .returned (.bool true) ∧ W.grownBy w' none) := fun W => live13_any W
  have h1 := fun W => parea_any s i W
  have h2 := fun W => rright13_any s W
  unfold are at h1
  have H0 : Hid _ := And.intro (Bx.new w 26 s.cells) (World.grownBy_alloc w (.cells s.cells.toArray 26) none)
  cases hr : srt s
  · rw [hr, if_neg (by decide)] at h1
    rw [hr] at h2
    clear hr hs
    obtain ⟨lg, no, ln, a0, z0, a1, z1, a2, z2, a3, z3, a4, z4, a5, z5⟩ := s
    simp only [Sp.val, Sp.cells] at *
    go_enter Try.func5, Try.ntmps5
    go_wp2_with ((with_reducible refine loadS_here ?_); refine wpList_loadB rfl 26 _ rfl w.heap.size rfl H0.out.1 Try.underlying26 rfl infoS ?_)
    refine (h1 _).mono ?_
    rintro e w1 ⟨rfl, g1⟩
    have H1 : Hid _ := And.intro (H0.out.1.kept g1) (grown_trans H0.out.2 g1)
    clear H0 g1 h1
    simp only
    go_wp2_with ((with_reducible refine loadS_here ?_); refine wpList_loadB rfl 26 _ rfl w.heap.size rfl H1.out.1 Try.underlying26 rfl infoS ?_)
    refine (h2 _).mono ?_
    rintro e w2 ⟨rfl, g2⟩
    have H2 : Hid _ := And.intro (H1.out.1.kept g2) (grown_trans H1.out.2 g2)
    clear H1 g2 h2
    go_wp2_with (first | (go_at_call 10; (with_reducible refine (num13_any _ _).mono ?_); rintro e w' ⟨rfl, rfl⟩) | (go_at_call 7; refine (HL.out _).mono ?_; rintro e wl ⟨rfl, gl⟩; have HF : Hid _ := grown_trans H2.out.2 gl; clear gl))
    go_ret
    exact ⟨rfl, grown_below HF.out⟩
  · have hk := srt_iff.1 hr
    rw [hr, if_pos rfl] at h1
    rw [hr] at h2
    clear hr hs
    by_cases c0 : i < 0
    · rw [if_pos (Or.inl c0)] at h1
      clear hk
      obtain ⟨lg, no, ln, a0, z0, a1, z1, a2, z2, a3, z3, a4, z4, a5, z5⟩ := s
      simp only [Sp.val, Sp.cells] at *
      go_enter Try.func5, Try.ntmps5
      go_wp2_with ((with_reducible refine loadS_here ?_); refine wpList_loadB rfl 26 _ rfl w.heap.size rfl H0.out.1 Try.underlying26 rfl infoS ?_)
      refine (h1 _).mono ?_
      rintro e w1 ⟨rfl, g1⟩
      have H1 : Hid _ := And.intro (H0.out.1.kept g1) (grown_trans H0.out.2 g1)
      clear H0 g1 h1
      simp only
      go_wp2_with ((with_reducible refine loadS_here ?_); refine wpList_loadB rfl 26 _ rfl w.heap.size rfl H1.out.1 Try.underlying26 rfl infoS ?_)
      refine (h2 _).mono ?_
      rintro e w2 ⟨rfl, g2⟩
      have H2 : Hid _ := And.intro (H1.out.1.kept g2) (grown_trans H1.out.2 g2)
      clear H1 g2 h2
      go_wp2_with (first | (go_at_call 10; (with_reducible refine (num13_any _ _).mono ?_); rintro e w' ⟨rfl, rfl⟩) | (go_at_call 7; refine (HL.out _).mono ?_; rintro e wl ⟨rfl, gl⟩; have HF : Hid _ := grown_trans H2.out.2 gl; clear gl))
      go_ret
      exact ⟨rfl, grown_below HF.out⟩
    · by_cases c1 : 6 ≤ i
      · rw [if_pos (Or.inr c1)] at h1
        clear hk
        obtain ⟨lg, no, ln, a0, z0, a1, z1, a2, z2, a3, z3, a4, z4, a5, z5⟩ := s
        simp only [Sp.val, Sp.cells] at *
        go_enter Try.func5, Try.ntmps5
        go_wp2_with ((with_reducible refine loadS_here ?_); refine wpList_loadB rfl 26 _ rfl w.heap.size rfl H0.out.1 Try.underlying26 rfl infoS ?_)
        refine (h1 _).mono ?_
        rintro e w1 ⟨rfl, g1⟩
        have H1 : Hid _ := And.intro (H0.out.1.kept g1) (grown_trans H0.out.2 g1)
        clear H0 g1 h1
        simp only
        go_wp2_with ((with_reducible refine loadS_here ?_); refine wpList_loadB rfl 26 _ rfl w.heap.size rfl H1.out.1 Try.underlying26 rfl infoS ?_)
        refine (h2 _).mono ?_
        rintro e w2 ⟨rfl, g2⟩
        have H2 : Hid _ := And.intro (H1.out.1.kept g2) (grown_trans H1.out.2 g2)
        clear H1 g2 h2
        go_wp2_with (first | (go_at_call 10; (with_reducible refine (num13_any _ _).mono ?_); rintro e w' ⟨rfl, rfl⟩) | (go_at_call 7; refine (HL.out _).mono ?_; rintro e wl ⟨rfl, gl⟩; have HF : Hid _ := grown_trans H2.out.2 gl; clear gl))
        go_ret
        exact ⟨rfl, grown_below HF.out⟩
      · rw [if_neg (by omega)] at h1
        obtain ⟨⟨-, -, -, -, u1, -⟩, k0, k1, k2, k3, k4, k5⟩ := hk
        have k0 := k0 (by decide)
        have k1 := k1 (by decide)
        have k2 := k2 (by decide)
        have k3 := k3 (by decide)
        have k4 := k4 (by decide)
        have k5 := k5 (by decide)
        obtain ⟨lg, no, ln, a0, z0, a1, z1, a2, z2, a3, z3, a4, z4, a5, z5⟩ := s
        simp only [Sp.val, Sp.cells] at *
        rcases (by omega : i = 0 ∨ i = 1 ∨ i = 2 ∨ i = 3 ∨ i = 4 ∨ i = 5) with rfl | rfl | rfl | rfl | rfl | rfl
        · have t1 : a0 ≤ a1 := by omega
          have t2 : 68 ≤ a0 := by omega
          have t3 : a1 ≤ ln := by omega
          clear k0 k1 k2 k3 k4 k5 c0 c1 hi u1
          simp only [Int.toNat_zero, Int.reduceToNat, Nat.reduceAdd, List.getD_cons_zero, List.getD_cons_succ] at h1
          go_enter Try.func5, Try.ntmps5
          go_wp2_with ((with_reducible refine loadS_here ?_); refine wpList_loadB rfl 26 _ rfl w.heap.size rfl H0.out.1 Try.underlying26 rfl infoS ?_)
          refine (h1 _).mono ?_
          rintro e w1 ⟨rfl, g1⟩
          have H1 : Hid _ := And.intro (H0.out.1.kept g1) (grown_trans H0.out.2 g1)
          clear H0 g1 h1
          simp only
          go_wp2_with ((with_reducible refine loadS_here ?_); refine wpList_loadB rfl 26 _ rfl w.heap.size rfl H1.out.1 Try.underlying26 rfl infoS ?_)
          refine (h2 _).mono ?_
          rintro e w2 ⟨rfl, g2⟩
          have H2 : Hid _ := And.intro (H1.out.1.kept g2) (grown_trans H1.out.2 g2)
          clear H1 g2 h2
          obtain ⟨d0, d1, d2, d3, d4, d5, d6, d7, d8, d9, d10, d11, d12, d13, d14⟩ := bx15 H2.out.1
          go_wp2_with (first | (go_at_call 10; (with_reducible refine (num13_any _ _).mono ?_); rintro e w' ⟨rfl, rfl⟩) | (go_at_call 7; refine (HL.out _).mono ?_; rintro e wl ⟨rfl, gl⟩; have HF : Hid _ := grown_trans H2.out.2 gl; clear gl))
          go_ret
          exact ⟨rfl, grown_below HF.out⟩
        · have t1 : a1 ≤ a2 := by omega
          have t2 : 68 ≤ a1 := by omega
          have t3 : a2 ≤ ln := by omega
          clear k0 k1 k2 k3 k4 k5 c0 c1 hi u1
          simp only [Int.toNat_zero, Int.reduceToNat, Nat.reduceAdd, List.getD_cons_zero, List.getD_cons_succ] at h1
          go_enter Try.func5, Try.ntmps5
          go_wp2_with ((with_reducible refine loadS_here ?_); refine wpList_loadB rfl 26 _ rfl w.heap.size rfl H0.out.1 Try.underlying26 rfl infoS ?_)
          refine (h1 _).mono ?_
          rintro e w1 ⟨rfl, g1⟩
          have H1 : Hid _ := And.intro (H0.out.1.kept g1) (grown_trans H0.out.2 g1)
          clear H0 g1 h1
          simp only
          go_wp2_with ((with_reducible refine loadS_here ?_); refine wpList_loadB rfl 26 _ rfl w.heap.size rfl H1.out.1 Try.underlying26 rfl infoS ?_)
          refine (h2 _).mono ?_
          rintro e w2 ⟨rfl, g2⟩
          have H2 : Hid _ := And.intro (H1.out.1.kept g2) (grown_trans H1.out.2 g2)
          clear H1 g2 h2
          obtain ⟨d0, d1, d2, d3, d4, d5, d6, d7, d8, d9, d10, d11, d12, d13, d14⟩ := bx15 H2.out.1
          go_wp2_with (first | (go_at_call 10; (with_reducible refine (num13_any _ _).mono ?_); rintro e w' ⟨rfl, rfl⟩) | (go_at_call 7; refine (HL.out _).mono ?_; rintro e wl ⟨rfl, gl⟩; have HF : Hid _ := grown_trans H2.out.2 gl; clear gl))
          go_ret
          exact ⟨rfl, grown_below HF.out⟩
        · have t1 : a2 ≤ a3 := by omega
          have t2 : 68 ≤ a2 := by omega
          have t3 : a3 ≤ ln := by omega
          clear k0 k1 k2 k3 k4 k5 c0 c1 hi u1
          simp only [Int.toNat_zero, Int.reduceToNat, Nat.reduceAdd, List.getD_cons_zero, List.getD_cons_succ] at h1
          go_enter Try.func5, Try.ntmps5
          go_wp2_with ((with_reducible refine loadS_here ?_); refine wpList_loadB rfl 26 _ rfl w.heap.size rfl H0.out.1 Try.underlying26 rfl infoS ?_)
          refine (h1 _).mono ?_
          rintro e w1 ⟨rfl, g1⟩
          have H1 : Hid _ := And.intro (H0.out.1.kept g1) (grown_trans H0.out.2 g1)
          clear H0 g1 h1
          simp only
          go_wp2_with ((with_reducible refine loadS_here ?_); refine wpList_loadB rfl 26 _ rfl w.heap.size rfl H1.out.1 Try.underlying26 rfl infoS ?_)
          refine (h2 _).mono ?_
          rintro e w2 ⟨rfl, g2⟩
          have H2 : Hid _ := And.intro (H1.out.1.kept g2) (grown_trans H1.out.2 g2)
          clear H1 g2 h2
          obtain ⟨d0, d1, d2, d3, d4, d5, d6, d7, d8, d9, d10, d11, d12, d13, d14⟩ := bx15 H2.out.1
          go_wp2_with (first | (go_at_call 10; (with_reducible refine (num13_any _ _).mono ?_); rintro e w' ⟨rfl, rfl⟩) | (go_at_call 7; refine (HL.out _).mono ?_; rintro e wl ⟨rfl, gl⟩; have HF : Hid _ := grown_trans H2.out.2 gl; clear gl))
          go_ret
          exact ⟨rfl, grown_below HF.out⟩
        · have t1 : a3 ≤ a4 := by omega
          have t2 : 68 ≤ a3 := by omega
          have t3 : a4 ≤ ln := by omega
          clear k0 k1 k2 k3 k4 k5 c0 c1 hi u1
          simp only [Int.toNat_zero, Int.reduceToNat, Nat.reduceAdd, List.getD_cons_zero, List.getD_cons_succ] at h1
          go_enter Try.func5, Try.ntmps5
          go_wp2_with ((with_reducible refine loadS_here ?_); refine wpList_loadB rfl 26 _ rfl w.heap.size rfl H0.out.1 Try.underlying26 rfl infoS ?_)
          refine (h1 _).mono ?_
          rintro e w1 ⟨rfl, g1⟩
          have H1 : Hid _ := And.intro (H0.out.1.kept g1) (grown_trans H0.out.2 g1)
          clear H0 g1 h1
          simp only
          go_wp2_with ((with_reducible refine loadS_here ?_); refine wpList_loadB rfl 26 _ rfl w.heap.size rfl H1.out.1 Try.underlying26 rfl infoS ?_)
          refine (h2 _).mono ?_
          rintro e w2 ⟨rfl, g2⟩
          have H2 : Hid _ := And.intro (H1.out.1.kept g2) (grown_trans H1.out.2 g2)
          clear H1 g2 h2
          obtain ⟨d0, d1, d2, d3, d4, d5, d6, d7, d8, d9, d10, d11, d12, d13, d14⟩ := bx15 H2.out.1
          go_wp2_with (first | (go_at_call 10; (with_reducible refine (num13_any _ _).mono ?_); rintro e w' ⟨rfl, rfl⟩) | (go_at_call 7; refine (HL.out _).mono ?_; rintro e wl ⟨rfl, gl⟩; have HF : Hid _ := grown_trans H2.out.2 gl; clear gl))
          go_ret
          exact ⟨rfl, grown_below HF.out⟩
        · have t1 : a4 ≤ a5 := by omega
          have t2 : 68 ≤ a4 := by omega
          have t3 : a5 ≤ ln := by omega
          clear k0 k1 k2 k3 k4 k5 c0 c1 hi u1
          simp only [Int.toNat_zero, Int.reduceToNat, Nat.reduceAdd, List.getD_cons_zero, List.getD_cons_succ] at h1
          go_enter Try.func5, Try.ntmps5
          go_wp2_with ((with_reducible refine loadS_here ?_); refine wpList_loadB rfl 26 _ rfl w.heap.size rfl H0.out.1 Try.underlying26 rfl infoS ?_)
          refine (h1 _).mono ?_
          rintro e w1 ⟨rfl, g1⟩
          have H1 : Hid _ := And.intro (H0.out.1.kept g1) (grown_trans H0.out.2 g1)
          clear H0 g1 h1
          simp only
          go_wp2_with ((with_reducible refine loadS_here ?_); refine wpList_loadB rfl 26 _ rfl w.heap.size rfl H1.out.1 Try.underlying26 rfl infoS ?_)
          refine (h2 _).mono ?_
          rintro e w2 ⟨rfl, g2⟩
          have H2 : Hid _ := And.intro (H1.out.1.kept g2) (grown_trans H1.out.2 g2)
          clear H1 g2 h2
          obtain ⟨d0, d1, d2, d3, d4, d5, d6, d7, d8, d9, d10, d11, d12, d13, d14⟩ := bx15 H2.out.1
          go_wp2_with (first | (go_at_call 10; (with_reducible refine (num13_any _ _).mono ?_); rintro e w' ⟨rfl, rfl⟩) | (go_at_call 7; refine (HL.out _).mono ?_; rintro e wl ⟨rfl, gl⟩; have HF : Hid _ := grown_trans H2.out.2 gl; clear gl))
          go_ret
          exact ⟨rfl, grown_below HF.out⟩
        · have t1 : a5 ≤ ln := by omega
          have t2 : 68 ≤ a5 := by omega
          have t3 : ln ≤ ln := by omega
          clear k0 k1 k2 k3 k4 k5 c0 c1 hi u1
          simp only [Int.toNat_zero, Int.reduceToNat, Nat.reduceAdd, List.getD_cons_zero, List.getD_cons_succ] at h1
          go_enter Try.func5, Try.ntmps5
          go_wp2_with ((with_reducible refine loadS_here ?_); refine wpList_loadB rfl 26 _ rfl w.heap.size rfl H0.out.1 Try.underlying26 rfl infoS ?_)
          refine (h1 _).mono ?_
          rintro e w1 ⟨rfl, g1⟩
          have H1 : Hid _ := And.intro (H0.out.1.kept g1) (grown_trans H0.out.2 g1)
          clear H0 g1 h1
          simp only
          go_wp2_with ((with_reducible refine loadS_here ?_); refine wpList_loadB rfl 26 _ rfl w.heap.size rfl H1.out.1 Try.underlying26 rfl infoS ?_)
          refine (h2 _).mono ?_
          rintro e w2 ⟨rfl, g2⟩
          have H2 : Hid _ := And.intro (H1.out.1.kept g2) (grown_trans H1.out.2 g2)
          clear H1 g2 h2
          obtain ⟨d0, d1, d2, d3, d4, d5, d6, d7, d8, d9, d10, d11, d12, d13, d14⟩ := bx15 H2.out.1
          go_wp2_with (first | (go_at_call 10; (with_reducible refine (num13_any _ _).mono ?_); rintro e w' ⟨rfl, rfl⟩) | (go_at_call 7; refine (HL.out _).mono ?_; rintro e wl ⟨rfl, gl⟩; have HF : Hid _ := grown_trans H2.out.2 gl; clear gl))
          go_ret
          exact ⟨rfl, grown_below HF.out⟩
end Go.Proofs.Ytaedcblphcfkfaa
