/- The program's New. -/
import Derived.Test.YtdefcfmnhfeblaaPI
import Derived.Deep.RegionHeld3
namespace Go.Proofs.Ytdefcfmnhfeblaa
open Go.RowKit
set_option linter.unusedSimpArgs false
set_option linter.unusedVariables false

/-- four blocks made in one statement -/
theorem four (W : World) (X Y Z V : Obj) : ((((W.alloc X).alloc Y).alloc Z).alloc V).drew.heap[W.heap.size]? = some X ∧ ((((W.alloc X).alloc Y).alloc Z).alloc V).drew.heap[W.heap.size + 1]? = some Y ∧ ((((W.alloc X).alloc Y).alloc Z).alloc V).drew.heap[W.heap.size + 1 + 1]? = some Z ∧ ((((W.alloc X).alloc Y).alloc Z).alloc V).drew.heap[W.heap.size + 1 + 1 + 1]? = some V ∧ W.grownBy ((((W.alloc X).alloc Y).alloc Z).alloc V).drew none := by
  have hX : (W.alloc X).heap.size = W.heap.size + 1 := by simp
  have hY : ((W.alloc X).alloc Y).heap.size = W.heap.size + 1 + 1 := by simp
  have hZ : (((W.alloc X).alloc Y).alloc Z).heap.size = W.heap.size + 1 + 1 + 1 := by simp
  have h1 := heap_alloc_new W X
  have h2 := heap_alloc_new (W.alloc X) Y
  have h3 := heap_alloc_new ((W.alloc X).alloc Y) Z
  have h4 := heap_alloc_new (((W.alloc X).alloc Y).alloc Z) V
  rw [hX] at h2
  rw [hY] at h3
  rw [hZ] at h4
  have g2 := World.grownBy_alloc (W.alloc X) Y none
  have g3 := World.grownBy_alloc ((W.alloc X).alloc Y) Z none
  have g4 := World.grownBy_alloc (((W.alloc X).alloc Y).alloc Z) V none
  have gA := grown_trans (World.grownBy_alloc W X none) (grown_trans g2 (grown_trans g3 g4))
  refine ⟨?_, ?_, ?_, h4, ⟨gA.os, gA.tape, gA.output, gA.size, gA.block⟩⟩
  · rw [← h1, ← g2.block W.heap.size (by omega) (by simp), ← g3.block W.heap.size (by omega) (by simp)]; exact g4.block W.heap.size (by omega) (by simp)
  · rw [← h2, ← g3.block (W.heap.size + 1) (by omega) (by simp)]; exact g4.block (W.heap.size + 1) (by omega) (by simp)
  · rw [← h3]; exact g4.block (W.heap.size + 1 + 1) (by omega) (by simp)
/-- behind the making of a flash -/
structure NW (W W' : World) (fb bb db wb : Nat) (s p b q m : Nat) : Prop where
  fx : Box W' fb 63 [.int .i64 s, .int .i64 p, .int .i64 b, .slice (some ⟨bb, 0, none⟩) m m, .slice (some ⟨db, 0, none⟩) q q, .slice (some ⟨wb, 0, none⟩) s s, .int .i64 0, .int .i64 1, .int .i64 0, .slice none 0 0]
  bs : Box W' bb 5 (List.replicate m (.int .u8 0))
  ds : Box W' db 4 (List.replicate q (.bool false))
  ws : Box W' wb 3 (List.replicate s (.int .i64 0))
  gr : W.grownBy W' none
  ne : fb ≠ bb ∧ fb ≠ db ∧ fb ≠ wb ∧ bb ≠ db ∧ bb ≠ wb ∧ db ≠ wb
  ge : W.heap.size ≤ fb ∧ W.heap.size ≤ bb ∧ W.heap.size ≤ db ∧ W.heap.size ≤ wb
theorem nw_of {W W' : World} {fb bb db wb s p b q m : Nat} (h1 : W'.heap[fb]? = some (.cells #[.int .i64 s, .int .i64 p, .int .i64 b, .slice (some ⟨bb, 0, none⟩) m m, .slice (some ⟨db, 0, none⟩) q q, .slice (some ⟨wb, 0, none⟩) s s, .int .i64 0, .int .i64 1, .int .i64 0, .slice none 0 0] 63)) (h2 : W'.heap[bb]? = some (.cells (madeCells #[.int .u8 0] m) 5)) (h3 : W'.heap[db]? = some (.cells (madeCells #[.bool false] q) 4)) (h4 : W'.heap[wb]? = some (.cells (madeCells #[.int .i64 0] s) 3)) (hg : W.grownBy W' none) (ne : fb ≠ bb ∧ fb ≠ db ∧ fb ≠ wb ∧ bb ≠ db ∧ bb ≠ wb ∧ db ≠ wb) (ge : W.heap.size ≤ fb ∧ W.heap.size ≤ bb ∧ W.heap.size ≤ db ∧ W.heap.size ≤ wb) : NW W W' fb bb db wb s p b q m :=
  ⟨⟨h1⟩, ⟨by rw [h2, made_list]⟩, ⟨by rw [h3, made_list]⟩, ⟨by rw [h4, made_list]⟩, hg, ne, ge⟩
theorem nw_o0 (W : World) (s p b q m : Nat) (P : World → Prop) (h : ∀ W', NW W W' (W.heap.size + 1 + 1 + 1) W.heap.size (W.heap.size + 1) (W.heap.size + 1 + 1) s p b q m → P W') : P ((((W.alloc (.cells (madeCells #[.int .u8 0] m) 5)).alloc (.cells (madeCells #[.bool false] q) 4)).alloc (.cells (madeCells #[.int .i64 0] s) 3)).alloc (.cells #[.int .i64 s, .int .i64 p, .int .i64 b, .slice (some ⟨W.heap.size, 0, none⟩) m m, .slice (some ⟨(W.heap.size + 1), 0, none⟩) q q, .slice (some ⟨(W.heap.size + 1 + 1), 0, none⟩) s s, .int .i64 0, .int .i64 1, .int .i64 0, .slice none 0 0] 63)).drew := by
  obtain ⟨t1, t2, t3, t4, t5⟩ := four W (.cells (madeCells #[.int .u8 0] m) 5) (.cells (madeCells #[.bool false] q) 4) (.cells (madeCells #[.int .i64 0] s) 3) (.cells #[.int .i64 s, .int .i64 p, .int .i64 b, .slice (some ⟨W.heap.size, 0, none⟩) m m, .slice (some ⟨(W.heap.size + 1), 0, none⟩) q q, .slice (some ⟨(W.heap.size + 1 + 1), 0, none⟩) s s, .int .i64 0, .int .i64 1, .int .i64 0, .slice none 0 0] 63)
  exact h _ (nw_of t4 t1 t2 t3 t5 (by omega) (by omega))
theorem nw_o1 (W : World) (s p b q m : Nat) (P : World → Prop) (h : ∀ W', NW W W' (W.heap.size + 1 + 1 + 1) W.heap.size (W.heap.size + 1 + 1) (W.heap.size + 1) s p b q m → P W') : P ((((W.alloc (.cells (madeCells #[.int .u8 0] m) 5)).alloc (.cells (madeCells #[.int .i64 0] s) 3)).alloc (.cells (madeCells #[.bool false] q) 4)).alloc (.cells #[.int .i64 s, .int .i64 p, .int .i64 b, .slice (some ⟨W.heap.size, 0, none⟩) m m, .slice (some ⟨(W.heap.size + 1 + 1), 0, none⟩) q q, .slice (some ⟨(W.heap.size + 1), 0, none⟩) s s, .int .i64 0, .int .i64 1, .int .i64 0, .slice none 0 0] 63)).drew := by
  obtain ⟨t1, t2, t3, t4, t5⟩ := four W (.cells (madeCells #[.int .u8 0] m) 5) (.cells (madeCells #[.int .i64 0] s) 3) (.cells (madeCells #[.bool false] q) 4) (.cells #[.int .i64 s, .int .i64 p, .int .i64 b, .slice (some ⟨W.heap.size, 0, none⟩) m m, .slice (some ⟨(W.heap.size + 1 + 1), 0, none⟩) q q, .slice (some ⟨(W.heap.size + 1), 0, none⟩) s s, .int .i64 0, .int .i64 1, .int .i64 0, .slice none 0 0] 63)
  exact h _ (nw_of t4 t1 t3 t2 t5 (by omega) (by omega))
theorem nw_o2 (W : World) (s p b q m : Nat) (P : World → Prop) (h : ∀ W', NW W W' (W.heap.size + 1 + 1 + 1) (W.heap.size + 1) W.heap.size (W.heap.size + 1 + 1) s p b q m → P W') : P ((((W.alloc (.cells (madeCells #[.bool false] q) 4)).alloc (.cells (madeCells #[.int .u8 0] m) 5)).alloc (.cells (madeCells #[.int .i64 0] s) 3)).alloc (.cells #[.int .i64 s, .int .i64 p, .int .i64 b, .slice (some ⟨(W.heap.size + 1), 0, none⟩) m m, .slice (some ⟨W.heap.size, 0, none⟩) q q, .slice (some ⟨(W.heap.size + 1 + 1), 0, none⟩) s s, .int .i64 0, .int .i64 1, .int .i64 0, .slice none 0 0] 63)).drew := by
  obtain ⟨t1, t2, t3, t4, t5⟩ := four W (.cells (madeCells #[.bool false] q) 4) (.cells (madeCells #[.int .u8 0] m) 5) (.cells (madeCells #[.int .i64 0] s) 3) (.cells #[.int .i64 s, .int .i64 p, .int .i64 b, .slice (some ⟨(W.heap.size + 1), 0, none⟩) m m, .slice (some ⟨W.heap.size, 0, none⟩) q q, .slice (some ⟨(W.heap.size + 1 + 1), 0, none⟩) s s, .int .i64 0, .int .i64 1, .int .i64 0, .slice none 0 0] 63)
  exact h _ (nw_of t4 t2 t1 t3 t5 (by omega) (by omega))
theorem nw_o3 (W : World) (s p b q m : Nat) (P : World → Prop) (h : ∀ W', NW W W' (W.heap.size + 1 + 1 + 1) (W.heap.size + 1 + 1) W.heap.size (W.heap.size + 1) s p b q m → P W') : P ((((W.alloc (.cells (madeCells #[.bool false] q) 4)).alloc (.cells (madeCells #[.int .i64 0] s) 3)).alloc (.cells (madeCells #[.int .u8 0] m) 5)).alloc (.cells #[.int .i64 s, .int .i64 p, .int .i64 b, .slice (some ⟨(W.heap.size + 1 + 1), 0, none⟩) m m, .slice (some ⟨W.heap.size, 0, none⟩) q q, .slice (some ⟨(W.heap.size + 1), 0, none⟩) s s, .int .i64 0, .int .i64 1, .int .i64 0, .slice none 0 0] 63)).drew := by
  obtain ⟨t1, t2, t3, t4, t5⟩ := four W (.cells (madeCells #[.bool false] q) 4) (.cells (madeCells #[.int .i64 0] s) 3) (.cells (madeCells #[.int .u8 0] m) 5) (.cells #[.int .i64 s, .int .i64 p, .int .i64 b, .slice (some ⟨(W.heap.size + 1 + 1), 0, none⟩) m m, .slice (some ⟨W.heap.size, 0, none⟩) q q, .slice (some ⟨(W.heap.size + 1), 0, none⟩) s s, .int .i64 0, .int .i64 1, .int .i64 0, .slice none 0 0] 63)
  exact h _ (nw_of t4 t3 t1 t2 t5 (by omega) (by omega))
theorem nw_o4 (W : World) (s p b q m : Nat) (P : World → Prop) (h : ∀ W', NW W W' (W.heap.size + 1 + 1 + 1) (W.heap.size + 1) (W.heap.size + 1 + 1) W.heap.size s p b q m → P W') : P ((((W.alloc (.cells (madeCells #[.int .i64 0] s) 3)).alloc (.cells (madeCells #[.int .u8 0] m) 5)).alloc (.cells (madeCells #[.bool false] q) 4)).alloc (.cells #[.int .i64 s, .int .i64 p, .int .i64 b, .slice (some ⟨(W.heap.size + 1), 0, none⟩) m m, .slice (some ⟨(W.heap.size + 1 + 1), 0, none⟩) q q, .slice (some ⟨W.heap.size, 0, none⟩) s s, .int .i64 0, .int .i64 1, .int .i64 0, .slice none 0 0] 63)).drew := by
  obtain ⟨t1, t2, t3, t4, t5⟩ := four W (.cells (madeCells #[.int .i64 0] s) 3) (.cells (madeCells #[.int .u8 0] m) 5) (.cells (madeCells #[.bool false] q) 4) (.cells #[.int .i64 s, .int .i64 p, .int .i64 b, .slice (some ⟨(W.heap.size + 1), 0, none⟩) m m, .slice (some ⟨(W.heap.size + 1 + 1), 0, none⟩) q q, .slice (some ⟨W.heap.size, 0, none⟩) s s, .int .i64 0, .int .i64 1, .int .i64 0, .slice none 0 0] 63)
  exact h _ (nw_of t4 t2 t3 t1 t5 (by omega) (by omega))
theorem nw_o5 (W : World) (s p b q m : Nat) (P : World → Prop) (h : ∀ W', NW W W' (W.heap.size + 1 + 1 + 1) (W.heap.size + 1 + 1) (W.heap.size + 1) W.heap.size s p b q m → P W') : P ((((W.alloc (.cells (madeCells #[.int .i64 0] s) 3)).alloc (.cells (madeCells #[.bool false] q) 4)).alloc (.cells (madeCells #[.int .u8 0] m) 5)).alloc (.cells #[.int .i64 s, .int .i64 p, .int .i64 b, .slice (some ⟨(W.heap.size + 1 + 1), 0, none⟩) m m, .slice (some ⟨(W.heap.size + 1), 0, none⟩) q q, .slice (some ⟨W.heap.size, 0, none⟩) s s, .int .i64 0, .int .i64 1, .int .i64 0, .slice none 0 0] 63)).drew := by
  obtain ⟨t1, t2, t3, t4, t5⟩ := four W (.cells (madeCells #[.int .i64 0] s) 3) (.cells (madeCells #[.bool false] q) 4) (.cells (madeCells #[.int .u8 0] m) 5) (.cells #[.int .i64 s, .int .i64 p, .int .i64 b, .slice (some ⟨(W.heap.size + 1 + 1), 0, none⟩) m m, .slice (some ⟨(W.heap.size + 1), 0, none⟩) q q, .slice (some ⟨W.heap.size, 0, none⟩) s s, .int .i64 0, .int .i64 1, .int .i64 0, .slice none 0 0] 63)
  exact h _ (nw_of t4 t3 t2 t1 t5 (by omega) (by omega))
theorem NW.end {w W W' W4 : World} {fb bb db wb s p b q m : Nat} (h : NW W W' fb bb db wb s p b q m) (hF : Fd W' W4 bb 5 (splice (List.replicate m (.int .u8 0)) 0 (List.replicate m (.int .u8 255)))) (hg : w.grownBy W none) (hq : s * p = q) (hm : q * b = m) : w.grownBy W4 none ∧ PF W4 fb bb db wb (Fm.new s p b) 1 0 none 0 [] ∧ w.heap.size ≤ fb ∧ w.heap.size ≤ bb ∧ w.heap.size ≤ db ∧ w.heap.size ≤ wb := by
  obtain ⟨n1, n2, n3, n4, n5, n6⟩ := h.ne
  obtain ⟨g1, g2, g3, g4⟩ := h.ge
  have hsz := hg.size
  have hb := hF.box
  rw [splice_all _ _ (by simp)] at hb
  have e1 : (Fm.new s p b).B = ffs m := by unfold Fm.new; rw [← hm, ← hq]
  have e2 : (Fm.new s p b).D = List.replicate q false := by unfold Fm.new; rw [← hq]
  have e3 : (Fm.new s p b).W = List.replicate s 0 := rfl
  refine ⟨grown_new (grown_trans hg h.gr) hF.gr (by omega), ⟨?_, ?_, ?_, ?_, ?_, Row.none0 _, n1, n2, n3, n4, n5, n6, fun _ _ e => by cases e⟩, by omega, by omega, by omega, by omega⟩
  · have := hF.box' h.fx n1
    rw [e1, e2, e3]
    simp only [ffs, List.length_replicate]
    exact this
  · rw [e1]; unfold bv ffs; simpa using hb
  · rw [e2]; simpa using hF.box' h.ds (Ne.symm n4)
  · rw [e3]; simpa using hF.box' h.ws (Ne.symm n5)
  · rw [e1]; exact ffs_byt _
set_option maxHeartbeats 1000000 in
theorem pnew_bad (s p b : Int) (w : World) (hE : (chk s p b != 0) = true) :
    Calls Try.prog 10 #[.agg #[.int .i64 s, .int .i64 p, .int .i64 b]] w fun e w' => e = .returned (.tuple #[.pointer none, .int .i64 (chk s p b)]) ∧ w.grownBy w' none := by
  have hc : ∀ W, _ := fun W => pcheck_any s p b W
  generalize chk s p b = E at hc hE ⊢
  go_enter Try.func10, Try.ntmps10
  go_wp2_with fail
  have hg := World.grownBy_alloc w (.cells #[.int .i64 s, .int .i64 p, .int .i64 b] 23) none
  refine (hc _).mono ?_
  rintro e W ⟨rfl, hgr⟩
  have HG : Hid _ := grown_trans hg hgr
  clear hg hgr hc
  go_wp2
  go_ret2
  exact ⟨rfl, HG.out⟩
set_option maxHeartbeats 2000000 in
theorem pnew_ok (s p b : Nat) (w : World) (hs : 0 < s ∧ s ≤ 16) (hp : 0 < p ∧ p ≤ 16) (hb : 16 ≤ b ∧ b ≤ 64) :
    Calls Try.prog 10 #[.agg #[.int .i64 s, .int .i64 p, .int .i64 b]] w fun e w' => ∃ fb bb db wb, e = .returned (.tuple #[.pointer (some ⟨fb, 0, none⟩), .int .i64 0]) ∧ w.grownBy w' none ∧ PF w' fb bb db wb (Fm.new s p b) 1 0 none 0 [] ∧ w.heap.size ≤ fb ∧ w.heap.size ≤ bb ∧ w.heap.size ≤ db ∧ w.heap.size ≤ wb := by
  obtain ⟨q, hq⟩ : ∃ q, s * p = q := ⟨_, rfl⟩
  obtain ⟨m, hm⟩ : ∃ m, q * b = m := ⟨_, rfl⟩
  have hq1 : q ≤ 256 := hq ▸ Nat.mul_le_mul hs.2 hp.2
  have hm1 : m ≤ 16384 := hm ▸ Nat.mul_le_mul hq1 hb.2
  have hq0 : 0 < q := hq ▸ Nat.mul_pos hs.1 hp.1
  have hck : chk s p b = 0 := by
    unfold chk
    rw [if_neg (by omega), ← Int.natCast_mul, hq, ← Int.natCast_mul, hm, if_neg (by omega)]
  have hc : ∀ W, _ := fun W => pcheck_any s p b W
  rw [hck] at hc
  have hw1 : IntKind.i64.wrap ((s : Int) * (p : Int)) = (q : Int) := by rw [← Int.natCast_mul, hq, IntKind.wrap_i64]; omega
  have hw2 : IntKind.i64.wrap ((q : Int) * (b : Int)) = (m : Int) := by rw [← Int.natCast_mul, hm, IntKind.wrap_i64]; omega
  have hk1 : ∀ w, (Instr.makeSlice 34 (.int .i64 (m : Int)) (.int .i64 (m : Int))).run Try.prog w = .ok (.slice (some ⟨w.heap.size, 0, none⟩) m m) (w.alloc (.cells (madeCells #[.int .u8 0] m) 5)) := run_make_row' _ _ _ _ (by kernel_rfl) Try.info5 rfl .i64 .i64 m (by omega) (by omega)
  have hk2 : ∀ w, (Instr.makeSlice 35 (.int .i64 (q : Int)) (.int .i64 (q : Int))).run Try.prog w = .ok (.slice (some ⟨w.heap.size, 0, none⟩) q q) (w.alloc (.cells (madeCells #[.bool false] q) 4)) := run_make_row' _ _ _ _ (by kernel_rfl) Try.info4 rfl .i64 .i64 q (by omega) (by omega)
  have hk3 : ∀ w, (Instr.makeSlice 36 (.int .i64 (s : Int)) (.int .i64 (s : Int))).run Try.prog w = .ok (.slice (some ⟨w.heap.size, 0, none⟩) s s) (w.alloc (.cells (madeCells #[.int .i64 0] s) 3)) := run_make_row' _ _ _ _ (by kernel_rfl) Try.info3 rfl .i64 .i64 s (by omega) (by omega)
  have HE : Hid _ := And.intro hq hm
  clear hq hm hck
  go_enter Try.func10, Try.ntmps10
  go_wp2_with fail
  have hg0 := World.grownBy_alloc w (.cells #[.int .i64 s, .int .i64 p, .int .i64 b] 23) none
  have hb0 := Box.new w 23 [.int .i64 s, .int .i64 p, .int .i64 b]
  refine (hc _).mono ?_
  rintro e W ⟨rfl, hgr⟩
  have hgW := grown_trans hg0 hgr
  have hbW := hb0.grown hgr
  clear hg0 hb0 hgr hc
  generalize hgg : w.heap.size = g at *
  have c0 : W.cell? ⟨g, 0, none⟩ = some (.int .i64 s) := hbW.c 0
  have c1 : W.cell? ⟨g, 1, none⟩ = some (.int .i64 p) := hbW.c 1
  have c2 : W.cell? ⟨g, 2, none⟩ = some (.int .i64 b) := hbW.c 2
  have HW : Hid _ := And.intro hgW hbW
  clear hgW hbW
  go_wp2_with fail
  generalize W.heap.size = g1 at *
  go_region_held3 (fun w' => w'.cell? ⟨g, 0, none⟩ = some (.int .i64 s) ∧ w'.cell? ⟨g, 1, none⟩ = some (.int .i64 p) ∧ w'.cell? ⟨g, 2, none⟩ = some (.int .i64 b)) (simp (maxDischargeDepth := 12) [*, World.cell?_alloc_some, World.cell?_setCell_far]) (fail)
  all_goals
    first
    | with_reducible refine nw_o0 _ _ _ _ _ _ (fun W' => Exit.then _ _ _ _ W') ?_
    | with_reducible refine nw_o1 _ _ _ _ _ _ (fun W' => Exit.then _ _ _ _ W') ?_
    | with_reducible refine nw_o2 _ _ _ _ _ _ (fun W' => Exit.then _ _ _ _ W') ?_
    | with_reducible refine nw_o3 _ _ _ _ _ _ (fun W' => Exit.then _ _ _ _ W') ?_
    | with_reducible refine nw_o4 _ _ _ _ _ _ (fun W' => Exit.then _ _ _ _ W') ?_
    | with_reducible refine nw_o5 _ _ _ _ _ _ (fun W' => Exit.then _ _ _ _ W') ?_
    intro W' hn
    have d3 := hn.fx.c 3
    simp only [List.getElem?_cons_succ, List.getElem?_cons_zero] at d3
    have hF := fillb_any _ _ 0 m m _ 255 W' hn.bs (fun _ => rfl) (by simp) (by omega)
    have HN : Hid _ := hn
    clear hn
    go_wp2_with fail
    with_reducible refine hF.mono ?_
    rintro e W4 ⟨rfl, hF4⟩
    clear hF
    go_wp2
    go_ret2
    exact ⟨_, _, _, _, rfl, HN.out.end hF4 HW.out.1 HE.out.1 HE.out.2⟩
end Go.Proofs.Ytdefcfmnhfeblaa
