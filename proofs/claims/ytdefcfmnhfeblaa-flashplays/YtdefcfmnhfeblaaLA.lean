/- The page's example (live), num. -/
import Derived.Test.YtdefcfmnhfeblaaPK
namespace Go.Proofs.Ytdefcfmnhfeblaa
open Go.RowKit
set_option linter.unusedSimpArgs false
set_option linter.unusedVariables false
attribute [local go_sem ↓] Go.wp_at_zero Go.wp_at_succ

theorem num_any (x : Int) (w : World) (hx : -9223372036854775808 ≤ x ∧ x ≤ 9223372036854775807) : Calls Try.prog 11 #[.int .i64 x] w fun e w' => e = .returned (.int .i64 x) ∧ w = w' := by
  have hwr : IntKind.i64.wrap x = x := by rw [IntKind.wrap_i64]; omega
  go_enter Try.func11, Try.ntmps11
  go_wp2
  go_ret
  exact ⟨rfl, rfl⟩
theorem byt12 : Byt [1, 2] := by intro x hx; simp at hx; omega
theorem byt0 : Byt [0] := by intro x hx; simp at hx; omega
def mL0 : Fm := Fm.new 2 2 16
def mL1 : Fm := (mL0.write 1 [1, 2]).1
def mL2 : Fm := (mL1.write 1 [0]).1
def mL3 : Fm := (mL2.erase 0).1
theorem fresh_not {w : World} {fb bb db wb : Nat} {m : Fm} {G : Nat → Prop} (h : PRep w fb bb db wb m G) : ∀ b o, (some ⟨w.heap.size, 0, none⟩ : Option Addr) = some ⟨b, o, none⟩ → ¬ foot fb bb db wb b := by
  intro b o e x
  injection e with e
  injection e with e1 e2
  subst e1
  exact Nat.lt_irrefl _ (h.lt _ x)
set_option maxHeartbeats 2000000 in
theorem live_any (w : World) : Calls Try.prog 9 #[] w fun e w' => e = .returned (.bool true) ∧ w.grownBy w' none := by
  have g0 : mL0.Good 0 := Fm.good_new (by decide) (by decide) (by decide)
  have g1 : mL1.Good 1 := Fm.good_write g0 _ _
  have g2 : mL2.Good 2 := Fm.good_write g1 _ _
  have g3 : mL3.Good 3 := Fm.good_erase g2 _
  have hN : Calls Try.prog 10 #[.agg #[.int .i64 2, .int .i64 2, .int .i64 16]] w fun e w' => ∃ fb bb db wb, e = .returned (.tuple #[.pointer (some ⟨fb, 0, none⟩), .int .i64 0]) ∧ w.grownBy w' none ∧ PRep w' fb bb db wb mL0 (fun _ => False) ∧ (∀ k, foot fb bb db wb k → w.heap.size ≤ k) := prep_new 2 2 16 w (fun _ => False) (by decide) (by decide) (by decide)
  go_enter Try.func9, Try.ntmps9
  go_wp2_with fail
  refine hN.mono ?_
  rintro e w1 ⟨fb, bb, db, wb, rfl, hg1, hP1, hF1⟩
  have hn0 : ∀ W, _ := fun W => num_any 0 W (by decide)
  have hn41 : ∀ W, _ := fun W => num_any 41 W (by decide)
  clear hN
  have P1 := hP1.grown (World.grownBy_alloc w1 (.cells (bv [1, 2]).toArray 5) none)
  have RY := alloc_row w1 [1, 2] byt12 (by decide)
  have hW : Calls Try.prog 19 #[.pointer (some ⟨fb, 0, none⟩), .int .i64 1, .slice (some ⟨w1.heap.size, 0, none⟩) 2 2] (w1.alloc (.cells #[.int .u8 1, .int .u8 2] 5)) fun e w' => e = .returned (.int .i64 0) ∧ Chg (foot fb bb db wb) (w1.alloc (.cells (bv [1, 2]).toArray 5)) w' ∧ PRep w' fb bb db wb mL1 (fun _ => False) := prep_write P1 g0 (by decide) 1 (some ⟨w1.heap.size, 0, none⟩) 2 [1, 2] RY (fun b o e _ => fresh_not hP1 b o e)
  have H1 : Hid _ := And.intro hg1 (And.intro hP1 hF1)
  clear hP1 P1 RY hg1 hF1
  go_wp2_with (first | (go_at_call 11; with_reducible refine (hn0 _).mono ?_; rintro e w' ⟨rfl, rfl⟩))
  with_reducible refine hW.mono ?_
  rintro e w2 ⟨rfl, hC2, hP2⟩
  have hR : Calls Try.prog 21 #[.pointer (some ⟨fb, 0, none⟩), .int .i64 16, .int .i64 3] w2 fun e w' => PdPost w2 mL1.B (rdE mL1.B.length mL1.off 16 3) 16 3 e w' := prep_read hP2 g1 16 3 (by decide) (by decide)
  have er : rdE mL1.B.length mL1.off 16 3 = 0 := by decide
  have eb : (mL1.B.drop 16).take 3 = [1, 2, 255] := by decide
  unfold PdPost at hR
  rw [er, eb] at hR
  have H2 : Hid _ := And.intro hC2 hP2
  clear hC2 hP2 er eb hW
  go_wp2_with fail
  with_reducible refine hR.mono ?_
  rintro e w3 ⟨v3, rfl, hg3, ⟨x, _⟩ | ⟨_, gb, rfl, hgb, hb3, _⟩⟩
  · exact absurd rfl x
  have hP3 := H2.out.2.grown hg3
  have P3 := hP3.grown (World.grownBy_alloc w3 (.cells (bv [0]).toArray 5) none)
  have RZ := alloc_row w3 [0] byt0 (by decide)
  have hX : Calls Try.prog 19 #[.pointer (some ⟨fb, 0, none⟩), .int .i64 1, .slice (some ⟨w3.heap.size, 0, none⟩) 1 1] (w3.alloc (.cells #[.int .u8 0] 5)) fun e w' => e = .returned (.int .i64 41) ∧ Chg (foot fb bb db wb) (w3.alloc (.cells (bv [0]).toArray 5)) w' ∧ PRep w' fb bb db wb mL2 (fun _ => False) := prep_write P3 g1 (by decide) 1 (some ⟨w3.heap.size, 0, none⟩) 1 [0] RZ (fun b o e _ => fresh_not hP3 b o e)
  have hbl : ∀ k, foot fb bb db wb k → k < w2.heap.size := H2.out.2.lt
  have H3 : Hid _ := And.intro hg3 (And.intro hb3 (And.intro hgb hbl))
  clear hg3 hb3 hP3 P3 RZ hR hgb hbl
  go_wp2_with fail
  with_reducible refine hX.mono ?_
  rintro e w4 ⟨rfl, hC4, hP4⟩
  have hE : Calls Try.prog 20 #[.pointer (some ⟨fb, 0, none⟩), .int .i64 0] w4 fun e w' => e = .returned (.int .i64 0) ∧ Chg (foot fb bb db wb) w4 w' ∧ PRep w' fb bb db wb mL3 (fun _ => False) := prep_erase hP4 g2 (by decide) 0
  have H4 : Hid _ := hC4
  clear hC4 hP4 hX
  go_wp2_with fail
  with_reducible refine hE.mono ?_
  rintro e w5 ⟨rfl, hC5, hP5⟩
  have hR : Calls Try.prog 21 #[.pointer (some ⟨fb, 0, none⟩), .int .i64 16, .int .i64 1] w5 fun e w' => PdPost w5 mL3.B (rdE mL3.B.length mL3.off 16 1) 16 1 e w' := prep_read hP5 g3 16 1 (by decide) (by decide)
  have er : rdE mL3.B.length mL3.off 16 1 = 0 := by decide
  have eb : (mL3.B.drop 16).take 1 = [255] := by decide
  unfold PdPost at hR
  rw [er, eb] at hR
  have H5 : Hid _ := hC5
  clear hC5 hP5 er eb hE
  go_wp2_with fail
  with_reducible refine hR.mono ?_
  rintro e w6 ⟨v6, rfl, hg6, ⟨x, _⟩ | ⟨_, gc, rfl, hgc, hb6, _⟩⟩
  · exact absurd rfl x
  obtain ⟨hg1, hP1, hF1⟩ := H1.out
  obtain ⟨hC2, hP2⟩ := H2.out
  obtain ⟨hg3, hb3, hgb, hbl⟩ := H3.out
  have hC4 := H4.out
  have hC5 := H5.out
  have hgbf : ¬ foot fb bb db wb gb := fun x => by have := hbl _ x; omega
  have hb4 := hC4.box (hb3.grown (World.grownBy_alloc w3 (.cells (bv [0]).toArray 5) none)) hgbf
  have hb6' := (hC5.box hb4 hgbf).grown hg6
  have R1 : (convert 34 9 (.slice (some ⟨gb, 0, none⟩) 3 3)).run Try.prog w6 = .ok (.string (strOfNums [1, 2, 255])) w6 := conv_row (P := Try.prog) (Blk.row hb6'.blk (by intro x hx; simp at hx; omega) (by decide)) 3 34 9 Try.underlying34 Try.underlying5 Try.underlying9
  have R2 : (convert 34 9 (.slice (some ⟨gc, 0, none⟩) 1 1)).run Try.prog w6 = .ok (.string (strOfNums [255])) w6 := conv_row (P := Try.prog) (Blk.row hb6.blk (by intro x hx; simp at hx; omega) (by decide)) 1 34 9 Try.underlying34 Try.underlying5 Try.underlying9
  have e1 : strOfNums [1, 2, 255] = ⟨#[1, 2, 255]⟩ := by rfl
  have e2 : strOfNums [255] = ⟨#[255]⟩ := by rfl
  rw [e1] at R1
  rw [e2] at R2
  have hgA : w.grownBy w6 none := by
    have a1 : Chg (fun k => w.heap.size ≤ k) w w1 := Chg.of_none hg1 _
    have a2 := a1.trans ((Chg.of_none (World.grownBy_alloc w1 (.cells (bv [1, 2]).toArray 5) none) _).trans (hC2.mono hF1))
    have a3 := a2.trans ((Chg.of_none hg3 _).trans ((Chg.of_none (World.grownBy_alloc w3 (.cells (bv [0]).toArray 5) none) _).trans (hC4.mono hF1)))
    have a4 := a3.trans ((hC5.mono hF1).trans (Chg.of_none hg6 _))
    exact ⟨a4.os, a4.tape, a4.output, a4.size, fun k hk _ => a4.block k hk (by omega)⟩
  have HG : Hid _ := hgA
  clear hgA hg1 hP1 hF1 hC2 hP2 hg3 hb3 hgb hbl hC4 hC5 hb4 hb6' hg6 hgc hb6 H1 H2 H3 H4 H5 e1 e2 hR g0 g1 g2 g3
  go_wp2_with (first | (go_at_call 11; with_reducible refine (hn0 _).mono ?_; rintro e w' ⟨rfl, rfl⟩) | (go_at_call 11; with_reducible refine (hn41 _).mono ?_; rintro e w' ⟨rfl, rfl⟩))
  go_ret
  exact ⟨rfl, HG.out⟩
end Go.Proofs.Ytdefcfmnhfeblaa
