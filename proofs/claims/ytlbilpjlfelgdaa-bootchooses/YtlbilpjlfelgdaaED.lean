/- The walk of BootChooses. -/
import Derived.Test.YtlbilpjlfelgdaaEC
namespace Go.Proofs.Ytlbilpjlfelgdaa
open Go.RowKit
set_option linter.unusedSimpArgs false
set_option linter.unusedVariables false

theorem rch_ok {xs ys : List Int} (hx : Byt xs) (hy : Byt ys) : (rch xs ys).2.1.ok ∧ in64 (rch xs ys).2.2 ∧ ((rch xs ys).1 = 0 ∨ (rch xs ys).1 = 1) := by
  have h0 : rc0.ok := by unfold Rc.ok rc0 inU in64; simp
  have h1 := (rde_ok hx).1
  have h2 := (rde_ok hy).1
  unfold rch
  split
  · exact ⟨h0, by unfold in64; simp, Or.inl rfl⟩
  · split
    · exact ⟨h2, by unfold in64; simp, Or.inr rfl⟩
    · exact ⟨h1, by unfold in64; simp, Or.inl rfl⟩
set_option maxHeartbeats 4000000 in
theorem bootChooses_walk (a : Option Addr) (len cap : Nat) (zs : List Int) (b : Option Addr) (len2 cap2 : Nat) (zs2 : List Int) (w : World) (hz : IsRow .u8 w a len cap zs) (hz2 : IsRow .u8 w b len2 cap2 zs2) :
    Calls Try.prog 5 #[.slice a len cap, .slice b len2 cap2] w fun e w' => e = .returned (.bool true) ∧ Below w.heap.size w w' := by
  have B := hz.byte8
  have C := hz2.byte8
  generalize zs.take len = xs at B
  generalize zs2.take len2 = ys at C
  clear hz hz2
  have hcm : cap ≤ 9223372036854775807 := B.cm
  have hnc := B.nc
  have hcm2 : cap2 ≤ 9223372036854775807 := C.cm
  have hnc2 := C.nc
  have HL : Hid (∀ W : World, Calls Try.prog 8 #[] W fun e w' => e = .returned (.bool true) ∧ W.grownBy w' none) := fun W => live_any W
  by_cases hl : 300 < len ∨ (decide ((300 : Int) < (len : Int)) = false ∧ 300 < len2)
  · rcases hl with hl | ⟨hl1, hl⟩
    all_goals
      go_enter Try.func5, Try.ntmps5
      go_wp2_with (first | (go_at_call 8; refine (HL.out _).mono ?_; rintro e wl ⟨rfl, gl⟩; have HF : Hid _ := gl; clear gl))
      go_ret
      exact ⟨rfl, grown_below (Hid.out (by assumption))⟩
  · have hd1 : decide ((300 : Int) < (len : Int)) = false := by
      refine decide_eq_false (fun h => hl (Or.inl (by omega)))
    have hd2 : decide ((300 : Int) < (len2 : Int)) = false := by
      refine decide_eq_false (fun h => hl (Or.inr ⟨hd1, by omega⟩))
    have hl1 : len ≤ 300 := by have := of_decide_eq_false hd1; omega
    have hl2 : len2 ≤ 300 := by have := of_decide_eq_false hd2; omega
    clear hl
    have h1 := pchoose_any a len cap xs b len2 cap2 ys w B.row B.nc B.cm (by omega) C.row C.nc C.cm (by omega)
    have h2 := fun W (g : w.grownBy W none) => rchoose_any a len cap xs b len2 cap2 ys W (B.row.grown g) B.nc B.cm (C.row.grown g) C.nc C.cm
    have h3 := fun W (g : w.grownBy W none) => rdecode_any a len cap xs W (B.row.grown g) B.nc B.cm
    have h4 := fun W (g : w.grownBy W none) => rdecode_any b len2 cap2 ys W (C.row.grown g) C.nc C.cm
    have h5 := fun W (g : w.grownBy W none) => porder_any a len cap xs b len2 cap2 ys W (B.row.grown g) B.nc B.cm (by omega) (C.row.grown g) C.nc C.cm (by omega)
    obtain ⟨ok1, ok2, ok3⟩ := rch_ok B.row.byt C.row.byt
    have er1 := rde_err xs
    have er2 := rde_err ys
    have hor : ror xs ys = if (rde xs).2 ≠ 0 ∧ (rde ys).2 ≠ 0 then [] else if (rde xs).2 ≠ 0 ∨ (rde ys).2 ≠ 0 then [(rch xs ys).1] else [(rch xs ys).1, 1 - (rch xs ys).1] := rfl
    rw [hor] at h5
    clear hor B C
    generalize rch xs ys = R at *
    generalize rde xs = X at *
    generalize rde ys = Y at *
    obtain ⟨k, ⟨q, s, l, u⟩, e⟩ := R
    obtain ⟨⟨q1, s1, l1, u1⟩, e1⟩ := X
    obtain ⟨⟨q2, s2, l2, u2⟩, e2⟩ := Y
    have hne := rec_ne_self ok1
    simp only [Rc.val] at *
    have HE : Hid _ := And.intro h2 (And.intro h3 (And.intro h4 h5))
    clear h2 h3 h4 h5 ok1
    unfold in64 at ok2
    go_enter Try.func5, Try.ntmps5
    go_wp2_with fail
    refine h1.mono ?_
    rintro e w1 ⟨rfl, g1⟩
    have A1 := World.grownBy_alloc w1 (.cells #[.int .u64 q, .int .i64 s, .int .i64 l, .int .u64 u] 24) none
    have X1 := Bx.new w1 24 [.int .u64 q, .int .i64 s, .int .i64 l, .int .u64 u]
    have k2 := HE.out.1 _ (grown_trans g1 A1)
    have H1 : Hid _ := And.intro X1 (grown_trans g1 A1)
    clear X1 A1 g1 h1
    simp only
    go_wp2_with fail
    refine k2.mono ?_
    rintro e w2 ⟨rfl, g2⟩
    have A2 := World.grownBy_alloc w2 (.cells #[.int .u64 q, .int .i64 s, .int .i64 l, .int .u64 u] 24) none
    have X2 := (H1.out.1.kept g2).kept A2
    have Y2 := Bx.new w2 24 [.int .u64 q, .int .i64 s, .int .i64 l, .int .u64 u]
    have H2 : Hid _ := grown_trans (grown_trans H1.out.2 g2) A2
    have k3 := HE.out.2.1 _ H2.out
    obtain ⟨x0, x1, x2, x3⟩ := bx4 X2
    obtain ⟨y0, y1, y2, y3⟩ := bx4 Y2
    clear X2 Y2 A2 g2 H1 k2
    simp only
    go_wp2_with (first | (go_at_call 11; with_reducible refine (num_any _ _).mono ?_; rintro e w' ⟨rfl, rfl⟩))
    refine k3.mono ?_
    rintro e w3 ⟨rfl, g3⟩
    have A3 := World.grownBy_alloc w3 (.cells #[.int .u64 q1, .int .i64 s1, .int .i64 l1, .int .u64 u1] 24) none
    have H3 : Hid _ := grown_trans (grown_trans H2.out g3) A3
    have k4 := HE.out.2.2.1 _ H3.out
    clear x0 x1 x2 x3 y0 y1 y2 y3 hne A3 g3 k3 H2
    simp only
    go_wp2_with fail
    refine k4.mono ?_
    rintro e w4 ⟨rfl, g4⟩
    have A4 := World.grownBy_alloc w4 (.cells #[.int .u64 q2, .int .i64 s2, .int .i64 l2, .int .u64 u2] 24) none
    have H4 : Hid _ := grown_trans (grown_trans H3.out g4) A4
    have k5 := HE.out.2.2.2 _ H4.out
    clear A4 g4 k4 H3 HE
    simp only
    rcases er1 with rfl | rfl <;> rcases er2 with rfl | rfl
    all_goals
      simp only [ne_eq, not_true_eq_false, false_and, and_false, or_self, false_or, or_false, if_false, if_true, and_self, Int.reduceEq, not_false_eq_true, or_true, true_or, reduceIte] at k5
      go_wp2_with fail
      refine k5.mono ?_
      intro e w5 h5
      obtain ⟨a5, c5, rfl, hc, g5⟩ := h5
      have H5 : Hid _ := grown_trans H4.out g5
      clear g5 H4 k5
      simp only [List.length_cons, List.length_nil] at hc ⊢
    · obtain ⟨g, o, rfl, z0⟩ := hc 0 (by omega)
      obtain ⟨g', o', eg, z1⟩ := hc 1 (by omega)
      injection eg with eg
      injection eg with eg1 eg2
      subst eg1 eg2
      simp at z0 z1
      clear hc
      go_wp2_with (first | (go_at_call 8; refine (HL.out _).mono ?_; rintro e wl ⟨rfl, gl⟩; have HF : Hid _ := grown_trans H5.out gl; clear gl))
      go_ret
      exact ⟨rfl, grown_below HF.out⟩
    · obtain ⟨g, o, rfl, z0⟩ := hc 0 (by omega)
      simp at z0
      clear hc
      go_wp2_with (first | (go_at_call 8; refine (HL.out _).mono ?_; rintro e wl ⟨rfl, gl⟩; have HF : Hid _ := grown_trans H5.out gl; clear gl))
      go_ret
      exact ⟨rfl, grown_below HF.out⟩
    · obtain ⟨g, o, rfl, z0⟩ := hc 0 (by omega)
      simp at z0
      clear hc
      go_wp2_with (first | (go_at_call 8; refine (HL.out _).mono ?_; rintro e wl ⟨rfl, gl⟩; have HF : Hid _ := grown_trans H5.out gl; clear gl))
      go_ret
      exact ⟨rfl, grown_below HF.out⟩
    · clear hc
      go_wp2_with (first | (go_at_call 8; refine (HL.out _).mono ?_; rintro e wl ⟨rfl, gl⟩; have HF : Hid _ := grown_trans H5.out gl; clear gl))
      go_ret
      exact ⟨rfl, grown_below HF.out⟩
end Go.Proofs.Ytlbilpjlfelgdaa
