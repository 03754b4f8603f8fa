/- The program's New. The program's flash in one form: each call is a call of the flash without memory. The page's example (live), num. The walk of FlashChecks. Which geometries are played: Small. The walk of FlashReads. Same: the program's flash held against the document's. -/
import Derived.Deep.RegionHeld3
import Derived.Test.YtfhgbddeclldnaaN03
import Derived.Test.YtfhgbddeclldnaaN06
import Derived.Test.YtfhgbddeclldnaaN07
namespace Go.Proofs.Ytfhgbddeclldnaa
open Go.RowKit
set_option maxRecDepth 100000
set_option linter.unusedSimpArgs false
set_option linter.unusedVariables false

/-- four blocks made in one statement -/
theorem four (W : World) (X Y Z V : Obj) : ((((W.alloc X).alloc Y).alloc Z).alloc V).drew.heap[W.heap.size]? = some X ∧ ((((W.alloc X).alloc Y).alloc Z).alloc V).drew.heap[W.heap.size + 1]? = some Y ∧ ((((W.alloc X).alloc Y).alloc Z).alloc V).drew.heap[W.heap.size + 1 + 1]? = some Z ∧ ((((W.alloc X).alloc Y).alloc Z).alloc V).drew.heap[W.heap.size + 1 + 1 + 1]? = some V ∧ W.grownBy ((((W.alloc X).alloc Y).alloc Z).alloc V).drew none := by
  have hX : (W.alloc X).heap.size = W.heap.size + 1 := by simp
  have hY : ((W.alloc X).alloc Y).heap.size = W.heap.size + 1 + 1 := by simp
  have hZ : (((W.alloc X).alloc Y).alloc Z).heap.size = W.heap.size + 1 + 1 + 1 := by simp
  have h1 := heap_alloc_new W X
  have h2 := heap_alloc_new (W.alloc X) Y
  have h3 := heap_alloc_new ((W.alloc X).alloc Y) Z
  have h4 := heap_alloc_new (((W.alloc X).alloc Y).alloc Z) V
  rw [hX] at h2
  rw [hY] at h3
  rw [hZ] at h4
  have g2 := World.grownBy_alloc (W.alloc X) Y none
  have g3 := World.grownBy_alloc ((W.alloc X).alloc Y) Z none
  have g4 := World.grownBy_alloc (((W.alloc X).alloc Y).alloc Z) V none
  have gA := grown_trans (World.grownBy_alloc W X none) (grown_trans g2 (grown_trans g3 g4))
  refine ⟨?_, ?_, ?_, h4, ⟨gA.os, gA.tape, gA.output, gA.size, gA.block⟩⟩
  · rw [← h1, ← g2.block W.heap.size (by omega) (by simp), ← g3.block W.heap.size (by omega) (by simp)]; exact g4.block W.heap.size (by omega) (by simp)
  · rw [← h2, ← g3.block (W.heap.size + 1) (by omega) (by simp)]; exact g4.block (W.heap.size + 1) (by omega) (by simp)
  · rw [← h3]; exact g4.block (W.heap.size + 1 + 1) (by omega) (by simp)
/-- behind the making of a flash -/
structure NW (W W' : World) (fb bb db wb : Nat) (s p b q m : Nat) : Prop where
  fx : Box W' fb 59 [.int .i64 s, .int .i64 p, .int .i64 b, .slice (some ⟨bb, 0, none⟩) m m, .slice (some ⟨db, 0, none⟩) q q, .slice (some ⟨wb, 0, none⟩) s s, .int .i64 0, .int .i64 1, .int .i64 0, .slice none 0 0]
  bs : Box W' bb 5 (List.replicate m (.int .u8 0))
  ds : Box W' db 4 (List.replicate q (.bool false))
  ws : Box W' wb 3 (List.replicate s (.int .i64 0))
  gr : W.grownBy W' none
  ne : fb ≠ bb ∧ fb ≠ db ∧ fb ≠ wb ∧ bb ≠ db ∧ bb ≠ wb ∧ db ≠ wb
  ge : W.heap.size ≤ fb ∧ W.heap.size ≤ bb ∧ W.heap.size ≤ db ∧ W.heap.size ≤ wb
theorem nw_of {W W' : World} {fb bb db wb s p b q m : Nat} (h1 : W'.heap[fb]? = some (.cells #[.int .i64 s, .int .i64 p, .int .i64 b, .slice (some ⟨bb, 0, none⟩) m m, .slice (some ⟨db, 0, none⟩) q q, .slice (some ⟨wb, 0, none⟩) s s, .int .i64 0, .int .i64 1, .int .i64 0, .slice none 0 0] 59)) (h2 : W'.heap[bb]? = some (.cells (madeCells #[.int .u8 0] m) 5)) (h3 : W'.heap[db]? = some (.cells (madeCells #[.bool false] q) 4)) (h4 : W'.heap[wb]? = some (.cells (madeCells #[.int .i64 0] s) 3)) (hg : W.grownBy W' none) (ne : fb ≠ bb ∧ fb ≠ db ∧ fb ≠ wb ∧ bb ≠ db ∧ bb ≠ wb ∧ db ≠ wb) (ge : W.heap.size ≤ fb ∧ W.heap.size ≤ bb ∧ W.heap.size ≤ db ∧ W.heap.size ≤ wb) : NW W W' fb bb db wb s p b q m :=
  ⟨⟨h1⟩, ⟨by rw [h2, made_list]⟩, ⟨by rw [h3, made_list]⟩, ⟨by rw [h4, made_list]⟩, hg, ne, ge⟩
theorem nw_o0 (W : World) (s p b q m : Nat) (P : World → Prop) (h : ∀ W', NW W W' (W.heap.size + 1 + 1 + 1) W.heap.size (W.heap.size + 1) (W.heap.size + 1 + 1) s p b q m → P W') : P ((((W.alloc (.cells (madeCells #[.int .u8 0] m) 5)).alloc (.cells (madeCells #[.bool false] q) 4)).alloc (.cells (madeCells #[.int .i64 0] s) 3)).alloc (.cells #[.int .i64 s, .int .i64 p, .int .i64 b, .slice (some ⟨W.heap.size, 0, none⟩) m m, .slice (some ⟨(W.heap.size + 1), 0, none⟩) q q, .slice (some ⟨(W.heap.size + 1 + 1), 0, none⟩) s s, .int .i64 0, .int .i64 1, .int .i64 0, .slice none 0 0] 59)).drew := by
  obtain ⟨t1, t2, t3, t4, t5⟩ := four W (.cells (madeCells #[.int .u8 0] m) 5) (.cells (madeCells #[.bool false] q) 4) (.cells (madeCells #[.int .i64 0] s) 3) (.cells #[.int .i64 s, .int .i64 p, .int .i64 b, .slice (some ⟨W.heap.size, 0, none⟩) m m, .slice (some ⟨(W.heap.size + 1), 0, none⟩) q q, .slice (some ⟨(W.heap.size + 1 + 1), 0, none⟩) s s, .int .i64 0, .int .i64 1, .int .i64 0, .slice none 0 0] 59)
  exact h _ (nw_of t4 t1 t2 t3 t5 (by omega) (by omega))
theorem nw_o1 (W : World) (s p b q m : Nat) (P : World → Prop) (h : ∀ W', NW W W' (W.heap.size + 1 + 1 + 1) W.heap.size (W.heap.size + 1 + 1) (W.heap.size + 1) s p b q m → P W') : P ((((W.alloc (.cells (madeCells #[.int .u8 0] m) 5)).alloc (.cells (madeCells #[.int .i64 0] s) 3)).alloc (.cells (madeCells #[.bool false] q) 4)).alloc (.cells #[.int .i64 s, .int .i64 p, .int .i64 b, .slice (some ⟨W.heap.size, 0, none⟩) m m, .slice (some ⟨(W.heap.size + 1 + 1), 0, none⟩) q q, .slice (some ⟨(W.heap.size + 1), 0, none⟩) s s, .int .i64 0, .int .i64 1, .int .i64 0, .slice none 0 0] 59)).drew := by
  obtain ⟨t1, t2, t3, t4, t5⟩ := four W (.cells (madeCells #[.int .u8 0] m) 5) (.cells (madeCells #[.int .i64 0] s) 3) (.cells (madeCells #[.bool false] q) 4) (.cells #[.int .i64 s, .int .i64 p, .int .i64 b, .slice (some ⟨W.heap.size, 0, none⟩) m m, .slice (some ⟨(W.heap.size + 1 + 1), 0, none⟩) q q, .slice (some ⟨(W.heap.size + 1), 0, none⟩) s s, .int .i64 0, .int .i64 1, .int .i64 0, .slice none 0 0] 59)
  exact h _ (nw_of t4 t1 t3 t2 t5 (by omega) (by omega))
theorem nw_o2 (W : World) (s p b q m : Nat) (P : World → Prop) (h : ∀ W', NW W W' (W.heap.size + 1 + 1 + 1) (W.heap.size + 1) W.heap.size (W.heap.size + 1 + 1) s p b q m → P W') : P ((((W.alloc (.cells (madeCells #[.bool false] q) 4)).alloc (.cells (madeCells #[.int .u8 0] m) 5)).alloc (.cells (madeCells #[.int .i64 0] s) 3)).alloc (.cells #[.int .i64 s, .int .i64 p, .int .i64 b, .slice (some ⟨(W.heap.size + 1), 0, none⟩) m m, .slice (some ⟨W.heap.size, 0, none⟩) q q, .slice (some ⟨(W.heap.size + 1 + 1), 0, none⟩) s s, .int .i64 0, .int .i64 1, .int .i64 0, .slice none 0 0] 59)).drew := by
  obtain ⟨t1, t2, t3, t4, t5⟩ := four W (.cells (madeCells #[.bool false] q) 4) (.cells (madeCells #[.int .u8 0] m) 5) (.cells (madeCells #[.int .i64 0] s) 3) (.cells #[.int .i64 s, .int .i64 p, .int .i64 b, .slice (some ⟨(W.heap.size + 1), 0, none⟩) m m, .slice (some ⟨W.heap.size, 0, none⟩) q q, .slice (some ⟨(W.heap.size + 1 + 1), 0, none⟩) s s, .int .i64 0, .int .i64 1, .int .i64 0, .slice none 0 0] 59)
  exact h _ (nw_of t4 t2 t1 t3 t5 (by omega) (by omega))
theorem nw_o3 (W : World) (s p b q m : Nat) (P : World → Prop) (h : ∀ W', NW W W' (W.heap.size + 1 + 1 + 1) (W.heap.size + 1 + 1) W.heap.size (W.heap.size + 1) s p b q m → P W') : P ((((W.alloc (.cells (madeCells #[.bool false] q) 4)).alloc (.cells (madeCells #[.int .i64 0] s) 3)).alloc (.cells (madeCells #[.int .u8 0] m) 5)).alloc (.cells #[.int .i64 s, .int .i64 p, .int .i64 b, .slice (some ⟨(W.heap.size + 1 + 1), 0, none⟩) m m, .slice (some ⟨W.heap.size, 0, none⟩) q q, .slice (some ⟨(W.heap.size + 1), 0, none⟩) s s, .int .i64 0, .int .i64 1, .int .i64 0, .slice none 0 0] 59)).drew := by
  obtain ⟨t1, t2, t3, t4, t5⟩ := four W (.cells (madeCells #[.bool false] q) 4) (.cells (madeCells #[.int .i64 0] s) 3) (.cells (madeCells #[.int .u8 0] m) 5) (.cells #[.int .i64 s, .int .i64 p, .int .i64 b, .slice (some ⟨(W.heap.size + 1 + 1), 0, none⟩) m m, .slice (some ⟨W.heap.size, 0, none⟩) q q, .slice (some ⟨(W.heap.size + 1), 0, none⟩) s s, .int .i64 0, .int .i64 1, .int .i64 0, .slice none 0 0] 59)
  exact h _ (nw_of t4 t3 t1 t2 t5 (by omega) (by omega))
theorem nw_o4 (W : World) (s p b q m : Nat) (P : World → Prop) (h : ∀ W', NW W W' (W.heap.size + 1 + 1 + 1) (W.heap.size + 1) (W.heap.size + 1 + 1) W.heap.size s p b q m → P W') : P ((((W.alloc (.cells (madeCells #[.int .i64 0] s) 3)).alloc (.cells (madeCells #[.int .u8 0] m) 5)).alloc (.cells (madeCells #[.bool false] q) 4)).alloc (.cells #[.int .i64 s, .int .i64 p, .int .i64 b, .slice (some ⟨(W.heap.size + 1), 0, none⟩) m m, .slice (some ⟨(W.heap.size + 1 + 1), 0, none⟩) q q, .slice (some ⟨W.heap.size, 0, none⟩) s s, .int .i64 0, .int .i64 1, .int .i64 0, .slice none 0 0] 59)).drew := by
  obtain ⟨t1, t2, t3, t4, t5⟩ := four W (.cells (madeCells #[.int .i64 0] s) 3) (.cells (madeCells #[.int .u8 0] m) 5) (.cells (madeCells #[.bool false] q) 4) (.cells #[.int .i64 s, .int .i64 p, .int .i64 b, .slice (some ⟨(W.heap.size + 1), 0, none⟩) m m, .slice (some ⟨(W.heap.size + 1 + 1), 0, none⟩) q q, .slice (some ⟨W.heap.size, 0, none⟩) s s, .int .i64 0, .int .i64 1, .int .i64 0, .slice none 0 0] 59)
  exact h _ (nw_of t4 t2 t3 t1 t5 (by omega) (by omega))
theorem nw_o5 (W : World) (s p b q m : Nat) (P : World → Prop) (h : ∀ W', NW W W' (W.heap.size + 1 + 1 + 1) (W.heap.size + 1 + 1) (W.heap.size + 1) W.heap.size s p b q m → P W') : P ((((W.alloc (.cells (madeCells #[.int .i64 0] s) 3)).alloc (.cells (madeCells #[.bool false] q) 4)).alloc (.cells (madeCells #[.int .u8 0] m) 5)).alloc (.cells #[.int .i64 s, .int .i64 p, .int .i64 b, .slice (some ⟨(W.heap.size + 1 + 1), 0, none⟩) m m, .slice (some ⟨(W.heap.size + 1), 0, none⟩) q q, .slice (some ⟨W.heap.size, 0, none⟩) s s, .int .i64 0, .int .i64 1, .int .i64 0, .slice none 0 0] 59)).drew := by
  obtain ⟨t1, t2, t3, t4, t5⟩ := four W (.cells (madeCells #[.int .i64 0] s) 3) (.cells (madeCells #[.bool false] q) 4) (.cells (madeCells #[.int .u8 0] m) 5) (.cells #[.int .i64 s, .int .i64 p, .int .i64 b, .slice (some ⟨(W.heap.size + 1 + 1), 0, none⟩) m m, .slice (some ⟨(W.heap.size + 1), 0, none⟩) q q, .slice (some ⟨W.heap.size, 0, none⟩) s s, .int .i64 0, .int .i64 1, .int .i64 0, .slice none 0 0] 59)
  exact h _ (nw_of t4 t3 t2 t1 t5 (by omega) (by omega))
theorem NW.end {w W W' W4 : World} {fb bb db wb s p b q m : Nat} (h : NW W W' fb bb db wb s p b q m) (hF : Fd W' W4 bb 5 (splice (List.replicate m (.int .u8 0)) 0 (List.replicate m (.int .u8 255)))) (hg : w.grownBy W none) (hq : s * p = q) (hm : q * b = m) : w.grownBy W4 none ∧ PF W4 fb bb db wb (Fm.new s p b) 1 0 none 0 [] ∧ w.heap.size ≤ fb ∧ w.heap.size ≤ bb ∧ w.heap.size ≤ db ∧ w.heap.size ≤ wb := by
  obtain ⟨n1, n2, n3, n4, n5, n6⟩ := h.ne
  obtain ⟨g1, g2, g3, g4⟩ := h.ge
  have hsz := hg.size
  have hb := hF.box
  rw [splice_all _ _ (by simp)] at hb
  have e1 : (Fm.new s p b).B = ffs m := by unfold Fm.new; rw [← hm, ← hq]
  have e2 : (Fm.new s p b).D = List.replicate q false := by unfold Fm.new; rw [← hq]
  have e3 : (Fm.new s p b).W = List.replicate s 0 := rfl
  refine ⟨grown_new (grown_trans hg h.gr) hF.gr (by omega), ⟨?_, ?_, ?_, ?_, ?_, Row.none0 _, n1, n2, n3, n4, n5, n6, fun _ _ e => by cases e⟩, by omega, by omega, by omega, by omega⟩
  · have := hF.box' h.fx n1
    rw [e1, e2, e3]
    simp only [ffs, List.length_replicate]
    exact this
  · rw [e1]; unfold bv ffs; simpa using hb
  · rw [e2]; simpa using hF.box' h.ds (Ne.symm n4)
  · rw [e3]; simpa using hF.box' h.ws (Ne.symm n5)
  · rw [e1]; exact ffs_byt _
set_option maxHeartbeats 1000000 in
theorem pnew_bad (s p b : Int) (w : World) (hE : (chk s p b != 0) = true) :
    Calls Try.prog 9 #[.agg #[.int .i64 s, .int .i64 p, .int .i64 b]] w fun e w' => e = .returned (.tuple #[.pointer none, .int .i64 (chk s p b)]) ∧ w.grownBy w' none := by
  have hc : ∀ W, _ := fun W => pcheck_any s p b W
  generalize chk s p b = E at hc hE ⊢
  go_enter Try.func9, Try.ntmps9
  go_wp2_with fail
  have hg := World.grownBy_alloc w (.cells #[.int .i64 s, .int .i64 p, .int .i64 b] 23) none
  refine (hc _).mono ?_
  rintro e W ⟨rfl, hgr⟩
  have HG : Hid _ := grown_trans hg hgr
  clear hg hgr hc
  go_wp2
  go_ret2
  exact ⟨rfl, HG.out⟩
set_option maxHeartbeats 2000000 in
theorem pnew_ok (s p b : Nat) (w : World) (hs : 0 < s ∧ s ≤ 16) (hp : 0 < p ∧ p ≤ 16) (hb : 16 ≤ b ∧ b ≤ 64) :
    Calls Try.prog 9 #[.agg #[.int .i64 s, .int .i64 p, .int .i64 b]] w fun e w' => ∃ fb bb db wb, e = .returned (.tuple #[.pointer (some ⟨fb, 0, none⟩), .int .i64 0]) ∧ w.grownBy w' none ∧ PF w' fb bb db wb (Fm.new s p b) 1 0 none 0 [] ∧ w.heap.size ≤ fb ∧ w.heap.size ≤ bb ∧ w.heap.size ≤ db ∧ w.heap.size ≤ wb := by
  obtain ⟨q, hq⟩ : ∃ q, s * p = q := ⟨_, rfl⟩
  obtain ⟨m, hm⟩ : ∃ m, q * b = m := ⟨_, rfl⟩
  have hq1 : q ≤ 256 := hq ▸ Nat.mul_le_mul hs.2 hp.2
  have hm1 : m ≤ 16384 := hm ▸ Nat.mul_le_mul hq1 hb.2
  have hq0 : 0 < q := hq ▸ Nat.mul_pos hs.1 hp.1
  have hck : chk s p b = 0 := by
    unfold chk
    rw [if_neg (by omega), ← Int.natCast_mul, hq, ← Int.natCast_mul, hm, if_neg (by omega)]
  have hc : ∀ W, _ := fun W => pcheck_any s p b W
  rw [hck] at hc
  have hw1 : IntKind.i64.wrap ((s : Int) * (p : Int)) = (q : Int) := by rw [← Int.natCast_mul, hq, IntKind.wrap_i64]; omega
  have hw2 : IntKind.i64.wrap ((q : Int) * (b : Int)) = (m : Int) := by rw [← Int.natCast_mul, hm, IntKind.wrap_i64]; omega
  have hk1 : ∀ w, (Instr.makeSlice 27 (.int .i64 (m : Int)) (.int .i64 (m : Int))).run Try.prog w = .ok (.slice (some ⟨w.heap.size, 0, none⟩) m m) (w.alloc (.cells (madeCells #[.int .u8 0] m) 5)) := run_make_row' _ _ _ _ (by kernel_rfl) Try.info5 rfl .i64 .i64 m (by omega) (by omega)
  have hk2 : ∀ w, (Instr.makeSlice 56 (.int .i64 (q : Int)) (.int .i64 (q : Int))).run Try.prog w = .ok (.slice (some ⟨w.heap.size, 0, none⟩) q q) (w.alloc (.cells (madeCells #[.bool false] q) 4)) := run_make_row' _ _ _ _ (by kernel_rfl) Try.info4 rfl .i64 .i64 q (by omega) (by omega)
  have hk3 : ∀ w, (Instr.makeSlice 47 (.int .i64 (s : Int)) (.int .i64 (s : Int))).run Try.prog w = .ok (.slice (some ⟨w.heap.size, 0, none⟩) s s) (w.alloc (.cells (madeCells #[.int .i64 0] s) 3)) := run_make_row' _ _ _ _ (by kernel_rfl) Try.info3 rfl .i64 .i64 s (by omega) (by omega)
  have HE : Hid _ := And.intro hq hm
  clear hq hm hck
  go_enter Try.func9, Try.ntmps9
  go_wp2_with fail
  have hg0 := World.grownBy_alloc w (.cells #[.int .i64 s, .int .i64 p, .int .i64 b] 23) none
  have hb0 := Box.new w 23 [.int .i64 s, .int .i64 p, .int .i64 b]
  refine (hc _).mono ?_
  rintro e W ⟨rfl, hgr⟩
  have hgW := grown_trans hg0 hgr
  have hbW := hb0.grown hgr
  clear hg0 hb0 hgr hc
  generalize hgg : w.heap.size = g at *
  have c0 : W.cell? ⟨g, 0, none⟩ = some (.int .i64 s) := hbW.c 0
  have c1 : W.cell? ⟨g, 1, none⟩ = some (.int .i64 p) := hbW.c 1
  have c2 : W.cell? ⟨g, 2, none⟩ = some (.int .i64 b) := hbW.c 2
  have HW : Hid _ := And.intro hgW hbW
  clear hgW hbW
  go_wp2_with fail
  generalize W.heap.size = g1 at *
  go_region_held3 (fun w' => w'.cell? ⟨g, 0, none⟩ = some (.int .i64 s) ∧ w'.cell? ⟨g, 1, none⟩ = some (.int .i64 p) ∧ w'.cell? ⟨g, 2, none⟩ = some (.int .i64 b)) (simp (maxDischargeDepth := 12) [*, World.cell?_alloc_some, World.cell?_setCell_far]) (fail)
  all_goals
    first
    | with_reducible refine nw_o0 _ _ _ _ _ _ (fun W' => Exit.then _ _ _ _ W') ?_
    | with_reducible refine nw_o1 _ _ _ _ _ _ (fun W' => Exit.then _ _ _ _ W') ?_
    | with_reducible refine nw_o2 _ _ _ _ _ _ (fun W' => Exit.then _ _ _ _ W') ?_
    | with_reducible refine nw_o3 _ _ _ _ _ _ (fun W' => Exit.then _ _ _ _ W') ?_
    | with_reducible refine nw_o4 _ _ _ _ _ _ (fun W' => Exit.then _ _ _ _ W') ?_
    | with_reducible refine nw_o5 _ _ _ _ _ _ (fun W' => Exit.then _ _ _ _ W') ?_
    intro W' hn
    have d3 := hn.fx.c 3
    simp only [List.getElem?_cons_succ, List.getElem?_cons_zero] at d3
    have hF := fillb_any _ _ 0 m m _ 255 W' hn.bs (fun _ => rfl) (by simp) (by omega)
    have HN : Hid _ := hn
    clear hn
    go_wp2_with fail
    with_reducible refine hF.mono ?_
    rintro e W4 ⟨rfl, hF4⟩
    clear hF
    go_wp2
    go_ret2
    exact ⟨_, _, _, _, rfl, HN.out.end hF4 HW.out.1 HE.out.1 HE.out.2⟩
end Go.Proofs.Ytfhgbddeclldnaa

namespace Go.Proofs.Ytfhgbddeclldnaa
open Go.RowKit
set_option maxRecDepth 100000
set_option linter.unusedSimpArgs false
set_option linter.unusedVariables false

/-- the power, what is left, what is torn -/
def PW (m : Fm) (pw left : Int) (T : List Int) : Prop := (m.off = true ∧ pw = 0) ∨ (m.off = false ∧ m.after = 0 ∧ pw = 1) ∨ (m.off = false ∧ 0 < m.after ∧ pw = 2 ∧ left = m.after ∧ T = m.T.take (m.p * m.b))
theorem PW.on {m : Fm} {pw left : Int} {T : List Int} (h : PW m pw left T) : (pw != 0) = !m.off := by
  rcases h with ⟨h1, rfl⟩ | ⟨h1, _, rfl⟩ | ⟨h1, _, rfl, _⟩ <;> simp [h1]
/-- the program's flash is m; what is to be torn lies in no block of G -/
def PRep (w : World) (fb bb db wb : Nat) (m : Fm) (G : Nat → Prop) : Prop := ∃ pw left aT cT T, PF w fb bb db wb m pw left aT cT T ∧ PW m pw left T ∧ ∀ tb o, aT = some ⟨tb, o, none⟩ → 0 < T.length → ¬ G tb
theorem PF.but {w w' : World} {fb bb db wb : Nat} {m : Fm} {pw left : Int} {aT : Option Addr} {cT : Nat} {T : List Int} {F : Nat → Prop} (h : PF w fb bb db wb m pw left aT cT T) (hc : Chg F w w') (h1 : ∀ k, foot fb bb db wb k → ¬ F k) (h5 : ∀ tb o, aT = some ⟨tb, o, none⟩ → 0 < T.length → tb < w.heap.size → ¬ F tb) : PF w' fb bb db wb m pw left aT cT T :=
  ⟨hc.box h.box (h1 _ (.inl rfl)), hc.box h.bs (h1 _ (.inr (.inl rfl))), hc.box h.ds (h1 _ (.inr (.inr (.inl rfl)))), hc.box h.ws (h1 _ (.inr (.inr (.inr rfl)))), h.byt, h.row.but' (fun b o e h0 hb => hc.block b hb (h5 b o e h0 hb)), h.n1, h.n2, h.n3, h.n4, h.n5, h.n6, h.nT⟩
/-- where only blocks of G were written it stands -/
theorem PRep.but {w w' : World} {fb bb db wb : Nat} {m : Fm} {G F : Nat → Prop} (h : PRep w fb bb db wb m G) (hc : Chg F w w') (hG : ∀ k, F k → G k) (h1 : ∀ k, foot fb bb db wb k → ¬ F k) : PRep w' fb bb db wb m G := by
  obtain ⟨pw, left, aT, cT, T, hp, hw, hg⟩ := h
  exact ⟨pw, left, aT, cT, T, hp.but hc h1 (fun tb o e h0 _ x => hg tb o e h0 (hG _ x)), hw, hg⟩
theorem PRep.grown {w w' : World} {fb bb db wb : Nat} {m : Fm} {G : Nat → Prop} (h : PRep w fb bb db wb m G) (hg : w.grownBy w' none) : PRep w' fb bb db wb m G := h.but (Chg.of_none hg (fun _ => False)) (fun _ x => x.elim) (fun _ _ => id)
/-- what is new lies in none of its blocks -/
theorem PRep.fresh {w : World} {fb bb db wb : Nat} {m : Fm} {G G' : Nat → Prop} (h : PRep w fb bb db wb m G) (hG : ∀ k, G' k → w.heap.size ≤ k) : PRep w fb bb db wb m G' := by
  obtain ⟨pw, left, aT, cT, T, hp, hw, hg⟩ := h
  refine ⟨pw, left, aT, cT, T, hp, hw, fun tb o e h0 x => ?_⟩
  obtain ⟨b, o', e', hc⟩ := hp.row.cells h0
  rw [e] at e'
  injection e' with e'
  injection e' with e1 e2
  subst e1
  have := hG _ x
  have := cell_lt (hc 0 h0)
  omega
theorem PRep.lt {w : World} {fb bb db wb : Nat} {m : Fm} {G : Nat → Prop} (h : PRep w fb bb db wb m G) : ∀ k, foot fb bb db wb k → k < w.heap.size := by
  obtain ⟨pw, left, aT, cT, T, hp, hw, hg⟩ := h
  rintro k (rfl | rfl | rfl | rfl)
  · exact hp.box.lt
  · exact hp.bs.lt
  · exact hp.ds.lt
  · exact hp.ws.lt
theorem wrE_cases (m : Fm) (page : Int) (ys : List Int) : (inL m.D.length page = false ∧ m.wrE page ys = 9) ∨ (inL m.D.length page = true ∧ m.b < ys.length ∧ m.wrE page ys = 2) ∨ ∃ i : Nat, page = i ∧ i < m.D.length ∧ ys.length ≤ m.b ∧ ((m.off = true ∧ m.wrE page ys = 40) ∨ (m.off = false ∧ ((m.D[i]? = some true ∧ m.wrE page ys = 41) ∨ (m.D[i]? = some false ∧ m.wrE page ys = 0)))) := by
  unfold Fm.wrE Proofs.Ytfhgbddeclldnaa.wrE
  by_cases h1 : page < 0 ∨ (m.D.length : Int) ≤ page
  · exact .inl ⟨decide_eq_false (by omega), by rw [if_pos h1]⟩
  · rw [if_neg h1]
    obtain ⟨i, rfl⟩ := Int.eq_ofNat_of_zero_le (by omega : 0 ≤ page)
    have hi : i < m.D.length := by omega
    by_cases h2 : (m.b : Int) < ys.length
    · exact .inr (.inl ⟨inL_nat hi, by omega, by rw [if_pos h2]⟩)
    · rw [if_neg h2]
      refine .inr (.inr ⟨i, rfl, hi, by omega, ?_⟩)
      cases ho : m.off
      · refine .inr ⟨rfl, ?_⟩
        rw [if_neg (by simp), Int.toNat_natCast, List.getD_eq_getElem?_getD, List.getElem?_eq_getElem hi]
        cases m.D[i] <;> simp
      · exact .inl ⟨rfl, by rw [if_pos rfl]⟩
theorem PF.chgN {w : World} {F : Nat → Prop} (n : Nat) : Chg F w (w.drewN n) := (Chg.refl _ w).drewN n
/-- the program's Write -/
theorem prep_write {w : World} {fb bb db wb : Nat} {m : Fm} {G : Nat → Prop} {k : Nat} (h : PRep w fb bb db wb m G) (hg : m.Good k) (hk : k < 1000000) (page : Int) (a2 : Option Addr) (c2 : Nat) (ys : List Int) (RY : Row w a2 ys.length ys) (hY : ∀ b o, a2 = some ⟨b, o, none⟩ → 0 < ys.length → ¬ foot fb bb db wb b) :
    Calls Try.prog 52 #[.pointer (some ⟨fb, 0, none⟩), .int .i64 page, .slice a2 ys.length c2] w fun e w' => e = .returned (.int .i64 (m.write page ys).2) ∧ Chg (foot fb bb db wb) w w' ∧ PRep w' fb bb db wb (m.write page ys).1 G := by
  obtain ⟨pw, left, aT, cT, T, hp, hw, hG⟩ := h
  have bad : ∀ (E : Int), m.wrE page ys = E → E ≠ 0 → (Calls Try.prog 52 #[.pointer (some ⟨fb, 0, none⟩), .int .i64 page, .slice a2 ys.length c2] w fun e w' => e = .returned (.int .i64 E) ∧ ∃ n, w' = w.drewN n) → Calls Try.prog 52 #[.pointer (some ⟨fb, 0, none⟩), .int .i64 page, .slice a2 ys.length c2] w fun e w' => e = .returned (.int .i64 (m.write page ys).2) ∧ Chg (foot fb bb db wb) w w' ∧ PRep w' fb bb db wb (m.write page ys).1 G := by
    intro E hE h0 hc
    refine hc.mono ?_
    rintro e w' ⟨rfl, n, rfl⟩
    rw [Fm.write, if_neg (by rw [hE]; exact h0), hE]
    exact ⟨rfl, PF.chgN n, pw, left, aT, cT, T, hp.drewN n, hw, hG⟩
  have ho : 0 ≤ m.ops ∧ m.ops < 1000000 := ⟨hg.ops.1, by have := hg.ops.2; omega⟩
  rcases wrE_cases m page ys with ⟨h1, hE⟩ | ⟨h1, h2, hE⟩ | ⟨i, rfl, hi, hl, ⟨hoff, hE⟩ | ⟨hoff, ⟨hd, hE⟩ | ⟨hd, hE⟩⟩⟩
  · exact bad 9 hE (by decide) (pwrite_range hp hg page _ h1)
  · exact bad 2 hE (by decide) (pwrite_long hp hg page _ _ _ h1 h2 RY.le)
  · rcases hw with ⟨_, rfl⟩ | ⟨x, _⟩ | ⟨x, _⟩
    · exact bad 40 hE (by decide) (pwrite_off hp hg i _ _ _ hi hl)
    · rw [hoff] at x; cases x
    · rw [hoff] at x; cases x
  · exact bad 41 hE (by decide) (pwrite_dirty hp hg i _ _ _ hi hl (by rw [hw.on, hoff]; rfl) hd)
  · have hy : ∀ b o, a2 = some ⟨b, o, none⟩ → 0 < ys.length → b ≠ fb := fun b o e h0 x => hY b o e h0 (.inl x)
    rw [Fm.write, if_pos hE]
    rcases hw with ⟨x, _⟩ | ⟨_, ha, rfl⟩ | ⟨_, ha, rfl, rfl, rfl⟩
    · rw [hoff] at x; cases x
    · refine (pwrite_done (pw' := 1) (left' := left) hp hg i a2 c2 ys hi hl rfl hd RY hy (fun W x0 x1 x2 x3 x4 x5 x9 hB => step_on fb _ _ _ _ _ _ _ _ _ W hB ho)).mono ?_
      rintro e w' ⟨rfl, hc, hp'⟩
      refine ⟨by simp [Fm.torn, ha], hc, 1, left, aT, cT, T, hp'.of_eq rfl rfl rfl ?_ rfl rfl rfl, .inr (.inl ⟨by simp [Fm.written, ha], by simp [Fm.written, Fm.left, ha], rfl⟩), hG⟩
      simp [Fm.written, Fm.page, ha]
    · rcases Int.lt_or_le 1 m.after with h1 | h1
      · have hne : ¬ m.after = 1 := by omega
        refine (pwrite_done (pw' := 2) (left' := m.after - 1) hp hg i a2 c2 ys hi hl rfl hd RY hy (fun W x0 x1 x2 x3 x4 x5 x9 hB => step_more fb _ _ _ _ _ _ _ _ _ W hB ho ⟨h1, hg.after.2⟩)).mono ?_
        rintro e w' ⟨rfl, hc, hp'⟩
        refine ⟨by simp [Fm.torn, hne], hc, 2, m.after - 1, aT, cT, _, hp'.of_eq rfl rfl rfl ?_ rfl rfl rfl, .inr (.inr ⟨by simp [Fm.written, hne], ?_, rfl, ?_, rfl⟩), hG⟩
        · simp [Fm.written, Fm.page, hne]
        · simp only [Fm.written, Fm.left]; rw [if_neg (by omega)]; omega
        · simp only [Fm.written, Fm.left]; rw [if_neg (by omega)]
      · have he : m.after = 1 := by omega
        rw [he] at hp
        refine (pwrite_torn hp hg i a2 c2 ys hi hl rfl hd RY hy (fun W x0 x1 x2 x3 x4 x5 x9 hB => step_last fb _ _ _ _ _ _ _ _ W hB ho)).mono ?_
        rintro e w' ⟨rfl, hc, hp'⟩
        refine ⟨by simp [Fm.torn, he], hc, 0, 0, none, 0, [], hp'.of_eq rfl rfl rfl ?_ rfl rfl rfl, .inl ⟨by simp [Fm.written, he], rfl⟩, fun _ _ e => by cases e⟩
        have hpb : m.b ≤ m.p * m.b := Nat.le_mul_of_pos_left _ hg.p.1
        rw [ovr_take (by simp [ffs]; omega)]
        simp [Fm.written, Fm.page, he]
theorem erE_cases (m : Fm) (sec : Int) : (inL m.W.length sec = false ∧ m.erE sec = 9) ∨ ∃ i : Nat, sec = i ∧ i < m.W.length ∧ ((m.off = true ∧ m.erE sec = 40) ∨ (m.off = false ∧ m.erE sec = 0)) := by
  unfold Fm.erE Proofs.Ytfhgbddeclldnaa.erE
  by_cases h1 : sec < 0 ∨ (m.W.length : Int) ≤ sec
  · exact .inl ⟨decide_eq_false (by omega), by rw [if_pos h1]⟩
  · rw [if_neg h1]
    obtain ⟨i, rfl⟩ := Int.eq_ofNat_of_zero_le (by omega : 0 ≤ sec)
    refine .inr ⟨i, rfl, by omega, ?_⟩
    cases ho : m.off
    · exact .inr ⟨rfl, by rw [if_neg (by simp)]⟩
    · exact .inl ⟨rfl, by rw [if_pos rfl]⟩
/-- the program's Erase -/
theorem prep_erase {w : World} {fb bb db wb : Nat} {m : Fm} {G : Nat → Prop} {k : Nat} (h : PRep w fb bb db wb m G) (hg : m.Good k) (hk : k < 1000000) (sec : Int) :
    Calls Try.prog 50 #[.pointer (some ⟨fb, 0, none⟩), .int .i64 sec] w fun e w' => e = .returned (.int .i64 (m.erase sec).2) ∧ Chg (foot fb bb db wb) w w' ∧ PRep w' fb bb db wb (m.erase sec).1 G := by
  obtain ⟨pw, left, aT, cT, T, hp, hw, hG⟩ := h
  have bad : ∀ (E : Int), m.erE sec = E → E ≠ 0 → (Calls Try.prog 50 #[.pointer (some ⟨fb, 0, none⟩), .int .i64 sec] w fun e w' => e = .returned (.int .i64 E) ∧ ∃ n, w' = w.drewN n) → Calls Try.prog 50 #[.pointer (some ⟨fb, 0, none⟩), .int .i64 sec] w fun e w' => e = .returned (.int .i64 (m.erase sec).2) ∧ Chg (foot fb bb db wb) w w' ∧ PRep w' fb bb db wb (m.erase sec).1 G := by
    intro E hE h0 hc
    refine hc.mono ?_
    rintro e w' ⟨rfl, n, rfl⟩
    rw [Fm.erase, if_neg (by rw [hE]; exact h0), hE]
    exact ⟨rfl, PF.chgN n, pw, left, aT, cT, T, hp.drewN n, hw, hG⟩
  have ho : 0 ≤ m.ops ∧ m.ops < 1000000 := ⟨hg.ops.1, by have := hg.ops.2; omega⟩
  rcases erE_cases m sec with ⟨h1, hE⟩ | ⟨i, rfl, hi, ⟨hoff, hE⟩ | ⟨hoff, hE⟩⟩
  · exact bad 9 hE (by decide) (perase_range hp hg sec h1)
  · rcases hw with ⟨_, rfl⟩ | ⟨x, _⟩ | ⟨x, _⟩
    · exact bad 40 hE (by decide) (perase_off hp hg i hi)
    · rw [hoff] at x; cases x
    · rw [hoff] at x; cases x
  · rw [Fm.erase, if_pos hE]
    rcases hw with ⟨x, _⟩ | ⟨_, ha, rfl⟩ | ⟨_, ha, rfl, rfl, rfl⟩
    · rw [hoff] at x; cases x
    · refine (perase_done (pw' := 1) (left' := left) hp hg hk i hi (fun W x0 x1 x2 x3 x4 x5 x9 hB => step_on fb _ _ _ _ _ _ _ _ _ W hB ho)).mono ?_
      rintro e w' ⟨rfl, hc, hp'⟩
      refine ⟨by simp [Fm.torn, ha], hc, 1, left, aT, cT, T, hp'.of_eq rfl rfl rfl ?_ ?_ rfl rfl, .inr (.inl ⟨by simp [Fm.erased, ha], by simp [Fm.erased, Fm.left, ha], rfl⟩), hG⟩
      · simp [Fm.erased, Fm.sector, ha]
      · simp [Fm.erased, ha]
    · rcases Int.lt_or_le 1 m.after with h1 | h1
      · have hne : ¬ m.after = 1 := by omega
        refine (perase_done (pw' := 2) (left' := m.after - 1) hp hg hk i hi (fun W x0 x1 x2 x3 x4 x5 x9 hB => step_more fb _ _ _ _ _ _ _ _ _ W hB ho ⟨h1, hg.after.2⟩)).mono ?_
        rintro e w' ⟨rfl, hc, hp'⟩
        refine ⟨by simp [Fm.torn, hne], hc, 2, m.after - 1, aT, cT, _, hp'.of_eq rfl rfl rfl ?_ ?_ rfl rfl, .inr (.inr ⟨by simp [Fm.erased, hne], ?_, rfl, ?_, rfl⟩), hG⟩
        · simp [Fm.erased, Fm.sector, hne]
        · simp [Fm.erased, hne]
        · simp only [Fm.erased, Fm.left]; rw [if_neg (by omega)]; omega
        · simp only [Fm.erased, Fm.left]; rw [if_neg (by omega)]
      · have he : m.after = 1 := by omega
        rw [he] at hp
        refine (perase_torn hp hg hk i hi (fun W x0 x1 x2 x3 x4 x5 x9 hB => step_last fb _ _ _ _ _ _ _ _ W hB ho)).mono ?_
        rintro e w' ⟨rfl, hc, hp'⟩
        refine ⟨by simp [Fm.torn, he], hc, 0, 0, none, 0, [], hp'.of_eq rfl rfl rfl ?_ ?_ rfl rfl, .inl ⟨by simp [Fm.erased, he], rfl⟩, fun _ _ e => by cases e⟩
        · rw [ovr_take (by simp; omega)]
          simp [Fm.erased, Fm.sector, he]
        · simp [Fm.erased, he]
/-- the program's Arm -/
theorem prep_arm {w : World} {fb bb db wb : Nat} {m : Fm} {G : Nat → Prop} {k : Nat} (h : PRep w fb bb db wb m G) (hg : m.Good k) (hGs : ∀ x, G x → x < w.heap.size) (n : Int) (a2 : Option Addr) (c2 : Nat) (ts : List Int) (RY : Row w a2 ts.length ts) (hY : ∀ b o, a2 = some ⟨b, o, none⟩ → 0 < ts.length → ¬ foot fb bb db wb b) :
    Calls Try.prog 12 #[.pointer (some ⟨fb, 0, none⟩), .agg #[.int .i64 n, .slice a2 ts.length c2]] w fun e w' => e = .returned (.int .i64 (m.arm n ts).2) ∧ Chg (foot fb bb db wb) w w' ∧ PRep w' fb bb db wb (m.arm n ts).1 G := by
  obtain ⟨pw, left, aT, cT, T, hp, hw, hG⟩ := h
  by_cases hE : arE n m.off = 0
  · have hn : ¬ n < 1 ∧ m.off = false := by
      unfold arE at hE
      split at hE
      · cases hE
      · split at hE
        · cases hE
        · rename_i x1 x2; exact ⟨x1, by simpa using x2⟩
    rw [Fm.arm, if_pos hE]
    refine (parm_ok hp hg (by rw [hw.on, hn.2]; rfl) n a2 c2 ts RY hY hn.1).mono ?_
    rintro e w' ⟨rfl, hc, tb, cT', htb, hp'⟩
    refine ⟨rfl, hc, 2, n, _, cT', _, hp'.of_eq rfl rfl rfl rfl rfl rfl rfl, .inr (.inr ⟨hn.2, by simp; omega, rfl, rfl, rfl⟩), ?_⟩
    intro tb' o e _ x
    injection e with e
    injection e with e1 e2
    subst e1
    have := hGs _ x
    omega
  · rw [Fm.arm, if_neg hE]
    refine (parm_bad hp hw.on n a2 _ c2 hE).mono ?_
    rintro e w' ⟨rfl, hgr⟩
    have hs := PRep.grown (G := G) ⟨pw, left, aT, cT, T, hp, hw, hG⟩ hgr
    exact ⟨rfl, Chg.of_none hgr _, hs⟩
/-- the program's Boot -/
theorem prep_boot {w : World} {fb bb db wb : Nat} {m : Fm} {G : Nat → Prop} (h : PRep w fb bb db wb m G) :
    Calls Try.prog 14 #[.pointer (some ⟨fb, 0, none⟩)] w fun e w' => e = .returned (.tuple #[]) ∧ Chg (foot fb bb db wb) w w' ∧ PRep w' fb bb db wb m.boot G := by
  obtain ⟨pw, left, aT, cT, T, hp, hw, hG⟩ := h
  refine (pboot_any hp).mono ?_
  rintro e w' ⟨rfl, hc, hp'⟩
  exact ⟨rfl, hc, 1, 0, none, 0, [], hp'.of_eq rfl rfl rfl rfl rfl rfl rfl, .inr (.inl ⟨rfl, rfl, rfl⟩), fun _ _ e => by cases e⟩
/-- the program's Read -/
theorem prep_read {w : World} {fb bb db wb : Nat} {m : Fm} {G : Nat → Prop} {k : Nat} (h : PRep w fb bb db wb m G) (hg : m.Good k) (at_ n : Int) (ha : -9223372036854775808 ≤ at_ ∧ at_ ≤ 9223372036854775807) (hn : -9223372036854775808 ≤ n ∧ n ≤ 9223372036854775807) :
    Calls Try.prog 27 #[.pointer (some ⟨fb, 0, none⟩), .int .i64 at_, .int .i64 n] w fun e w' => PdPost w m.B (rdE m.B.length m.off at_ n) at_.toNat n.toNat e w' := by
  obtain ⟨pw, left, aT, cT, T, hp, hw, hG⟩ := h
  exact pread_any hp hg hw.on at_ n ha hn
/-- the program's New -/
theorem prep_new (s p b : Nat) (w : World) (G : Nat → Prop) (hs : 0 < s ∧ s ≤ 16) (hp : 0 < p ∧ p ≤ 16) (hb : 16 ≤ b ∧ b ≤ 64) :
    Calls Try.prog 9 #[.agg #[.int .i64 s, .int .i64 p, .int .i64 b]] w fun e w' => ∃ fb bb db wb, e = .returned (.tuple #[.pointer (some ⟨fb, 0, none⟩), .int .i64 0]) ∧ w.grownBy w' none ∧ PRep w' fb bb db wb (Fm.new s p b) G ∧ (∀ k, foot fb bb db wb k → w.heap.size ≤ k) := by
  refine (pnew_ok s p b w hs hp hb).mono ?_
  rintro e w' ⟨fb, bb, db, wb, rfl, hg, hp', h1, h2, h3, h4⟩
  refine ⟨fb, bb, db, wb, rfl, hg, ⟨1, 0, none, 0, [], hp', .inr (.inl ⟨rfl, rfl, rfl⟩), fun _ _ e => by cases e⟩, ?_⟩
  rintro k (rfl | rfl | rfl | rfl) <;> assumption
end Go.Proofs.Ytfhgbddeclldnaa

namespace Go.Proofs.Ytfhgbddeclldnaa
open Go.RowKit
set_option maxRecDepth 100000
set_option linter.unusedSimpArgs false
set_option linter.unusedVariables false
attribute [local go_sem ↓] Go.wp_at_zero Go.wp_at_succ

theorem byt12 : Byt [1, 2] := by intro x hx; simp at hx; omega
theorem byt0 : Byt [0] := by intro x hx; simp at hx; omega
def mL0 : Fm := Fm.new 2 2 16
def mL1 : Fm := (mL0.write 1 [1, 2]).1
def mL2 : Fm := (mL1.write 1 [0]).1
def mL3 : Fm := (mL2.erase 0).1
theorem fresh_not {w : World} {fb bb db wb : Nat} {m : Fm} {G : Nat → Prop} (h : PRep w fb bb db wb m G) : ∀ b o, (some ⟨w.heap.size, 0, none⟩ : Option Addr) = some ⟨b, o, none⟩ → ¬ foot fb bb db wb b := by
  intro b o e x
  injection e with e
  injection e with e1 e2
  subst e1
  exact Nat.lt_irrefl _ (h.lt _ x)
end Go.Proofs.Ytfhgbddeclldnaa

namespace Go.Proofs.Ytfhgbddeclldnaa
open Go.RowKit
set_option maxRecDepth 100000
set_option linter.unusedSimpArgs false
set_option linter.unusedVariables false
attribute [local go_sem ↓] Go.wp_at_zero Go.wp_at_succ

theorem chk_in (s p b : Int) : -9223372036854775808 ≤ chk s p b ∧ chk s p b ≤ 9223372036854775807 := by
  unfold chk; split
  · decide
  · split <;> decide
theorem keep1 {w w' : World} (hg : w.grownBy w' none) {b o : Nat} {v : Value} (h : w.cell? ⟨b, o, none⟩ = some v) : w'.cell? ⟨b, o, none⟩ = some v := by
  rw [(grown_below hg).cell (p := ⟨b, o, none⟩) (cell_lt h)]; exact h
theorem hidG {w a b : World} (h : Hid (w.grownBy a none)) (k : a.grownBy b none) : Hid (w.grownBy b none) := grown_trans h.out k
end Go.Proofs.Ytfhgbddeclldnaa

namespace Go.Proofs.Ytfhgbddeclldnaa
open Go.RowKit
set_option maxRecDepth 100000
set_option linter.unusedSimpArgs false
set_option linter.unusedVariables false
attribute [local go_sem ↓] Go.wp_at_zero Go.wp_at_succ

def sml (s p b : Int) : Bool := decide (chk s p b ≠ 0 ∨ (s ≤ 16 ∧ p ≤ 16 ∧ b ≤ 64))
set_option maxHeartbeats 1000000 in
theorem small_any (s p b : Int) (w : World) (hs : -9223372036854775808 ≤ s ∧ s ≤ 9223372036854775807) (hp : -9223372036854775808 ≤ p ∧ p ≤ 9223372036854775807) (hb : -9223372036854775808 ≤ b ∧ b ≤ 9223372036854775807) :
    Calls Try.prog 6 #[.agg #[.int .i64 s, .int .i64 p, .int .i64 b]] w fun e w' => e = .returned (.bool (sml s p b)) ∧ w.grownBy w' none := by
  have h0 := Box.new w 23 [.int .i64 s, .int .i64 p, .int .i64 b]
  have HG := World.grownBy_alloc w (.cells #[.int .i64 s, .int .i64 p, .int .i64 b] 23) none
  have hr := check_any s p b (w.alloc (.cells #[.int .i64 s, .int .i64 p, .int .i64 b] 23)) hs hp hb
  have HA : Hid (w.grownBy ((w.alloc (.cells #[.int .i64 s, .int .i64 p, .int .i64 b] 23)).alloc (.cells #[.int .i64 s, .int .i64 p, .int .i64 b] 23)) none) := grown_trans HG (World.grownBy_alloc _ _ _)
  have h1 := h0.grown (World.grownBy_alloc _ (.cells #[.int .i64 s, .int .i64 p, .int .i64 b] 23) none)
  have c0 : ((w.alloc (.cells #[.int .i64 s, .int .i64 p, .int .i64 b] 23)).alloc (.cells #[.int .i64 s, .int .i64 p, .int .i64 b] 23)).cell? ⟨w.heap.size, 0, none⟩ = some (.int .i64 s) := h1.c 0
  have c1 : ((w.alloc (.cells #[.int .i64 s, .int .i64 p, .int .i64 b] 23)).alloc (.cells #[.int .i64 s, .int .i64 p, .int .i64 b] 23)).cell? ⟨w.heap.size, 1, none⟩ = some (.int .i64 p) := h1.c 1
  have c2 : ((w.alloc (.cells #[.int .i64 s, .int .i64 p, .int .i64 b] 23)).alloc (.cells #[.int .i64 s, .int .i64 p, .int .i64 b] 23)).cell? ⟨w.heap.size, 2, none⟩ = some (.int .i64 b) := h1.c 2
  unfold sml
  generalize chk s p b = E at *
  clear h0 h1 HG hs hp hb
  by_cases hE : E = 0
  · subst hE
    by_cases k0 : s ≤ 16
    · by_cases k1 : p ≤ 16
      · have e : decide ((0 : Int) ≠ 0 ∨ (s ≤ 16 ∧ p ≤ 16 ∧ b ≤ 64)) = decide (b ≤ 64) := by simp [k0, k1]
        rw [e]
        go_enter Try.func6, Try.ntmps6
        go_wp2_with (first | (go_at_call 20; refine hr.mono ?_; rintro e w' ⟨rfl, rfl⟩))
        go_ret
        exact ⟨rfl, HA.out⟩
      · have e : decide ((0 : Int) ≠ 0 ∨ (s ≤ 16 ∧ p ≤ 16 ∧ b ≤ 64)) = false := by simp [k1]
        rw [e]
        go_enter Try.func6, Try.ntmps6
        go_wp2_with (first | (go_at_call 20; refine hr.mono ?_; rintro e w' ⟨rfl, rfl⟩))
        go_ret
        exact ⟨rfl, HA.out⟩
    · have e : decide ((0 : Int) ≠ 0 ∨ (s ≤ 16 ∧ p ≤ 16 ∧ b ≤ 64)) = false := by simp [k0]
      rw [e]
      go_enter Try.func6, Try.ntmps6
      go_wp2_with (first | (go_at_call 20; refine hr.mono ?_; rintro e w' ⟨rfl, rfl⟩))
      go_ret
      exact ⟨rfl, HA.out⟩
  · have e : decide (E ≠ 0 ∨ (s ≤ 16 ∧ p ≤ 16 ∧ b ≤ 64)) = true := by simp [hE]
    rw [e]
    have hEb : (E != 0) = true := by simpa using hE
    go_enter Try.func6, Try.ntmps6
    go_wp2_with (first | (go_at_call 20; refine hr.mono ?_; rintro e w' ⟨rfl, rfl⟩))
    go_ret
    exact ⟨rfl, HA.out⟩
/-- a geometry that may be and is played -/
theorem sml_geo {s p b : Int} (h : sml s p b = true) (hc : chk s p b = 0) : ∃ s' p' b' : Nat, s = s' ∧ p = p' ∧ b = b' ∧ (0 < s' ∧ s' ≤ 16) ∧ (0 < p' ∧ p' ≤ 16) ∧ (16 ≤ b' ∧ b' ≤ 64) := by
  have h := of_decide_eq_true h
  rw [hc] at h
  have h := h.resolve_left (fun x => x rfl)
  unfold chk at hc
  split at hc
  · cases hc
  · rename_i k
    exact ⟨s.toNat, p.toNat, b.toNat, by omega, by omega, by omega, by omega, by omega, by omega⟩
end Go.Proofs.Ytfhgbddeclldnaa

namespace Go.Proofs.Ytfhgbddeclldnaa
open Go.RowKit
set_option maxRecDepth 100000
set_option linter.unusedSimpArgs false
set_option linter.unusedVariables false
attribute [local go_sem ↓] Go.wp_at_zero Go.wp_at_succ

theorem PRep.ops {w : World} {fb bb db wb : Nat} {m : Fm} {G : Nat → Prop} (h : PRep w fb bb db wb m G) : Calls Try.prog 18 #[.pointer (some ⟨fb, 0, none⟩)] w fun e w' => e = .returned (.int .i64 m.ops) ∧ w = w' := by
  obtain ⟨pw, left, aT, cT, T, hp, hw, hg⟩ := h
  exact ops_any fb _ w (hp.box.c 6)
theorem PRep.byt {w : World} {fb bb db wb : Nat} {m : Fm} {G : Nat → Prop} (h : PRep w fb bb db wb m G) : Byt m.B := by
  obtain ⟨pw, left, aT, cT, T, hp, hw, hg⟩ := h
  exact hp.byt
/-- what a write to a new flash leaves -/
theorem new_write {s p b : Nat} (hs : 0 < s ∧ s ≤ 16) (hp : 0 < p ∧ p ≤ 16) (hb : 16 ≤ b ∧ b ≤ 64) (page : Int) (xs : List Int) :
    ((Fm.new s p b).write page xs).1.off = false ∧ ((Fm.new s p b).write page xs).1.B.length = s * p * b ∧ -100 ≤ ((Fm.new s p b).write page xs).2 ∧ ((Fm.new s p b).write page xs).2 ≤ 100 ∧
    ((((Fm.new s p b).write page xs).2 ≠ 0 ∧ drt ((Fm.new s p b).write page xs).1.D page = false ∧ ((Fm.new s p b).write page xs).1.ops = 0) ∨
     (((Fm.new s p b).write page xs).2 = 0 ∧ ∃ i : Nat, page = i ∧ i < s * p ∧ xs.length ≤ b ∧ drt ((Fm.new s p b).write page xs).1.D page = true ∧ ((Fm.new s p b).write page xs).1.ops = 1 ∧ ∀ j, j < s * p * b → ((Fm.new s p b).write page xs).1.B[j]? = some (if i * b ≤ j ∧ j - i * b < xs.length then xs.getD (j - i * b) 0 else 255))) := by
  have gd0 : (Fm.new s p b).Good 0 := Fm.good_new hs hp (by omega)
  have g1 := Fm.good_write gd0 page xs
  have hlB := g1.lB
  have hD : (Fm.new s p b).D.length = s * p := gd0.lD
  have bad : ∀ E : Int, (Fm.new s p b).wrE page xs = E → E ≠ 0 → -100 ≤ E → E ≤ 100 → ((Fm.new s p b).write page xs).1.off = false ∧ ((Fm.new s p b).write page xs).1.B.length = s * p * b ∧ -100 ≤ ((Fm.new s p b).write page xs).2 ∧ ((Fm.new s p b).write page xs).2 ≤ 100 ∧ (((Fm.new s p b).write page xs).2 ≠ 0 ∧ drt ((Fm.new s p b).write page xs).1.D page = false ∧ ((Fm.new s p b).write page xs).1.ops = 0) := by
    intro E hE h0 h1 h2
    rw [Fm.write, if_neg (by rw [hE]; exact h0), hE]
    refine ⟨rfl, gd0.lB, h1, h2, h0, ?_, rfl⟩
    unfold drt
    have : (Fm.new s p b).D.getD page.toNat false = false := by
      unfold Fm.new
      rw [List.getD_eq_getElem?_getD, List.getElem?_replicate]
      split <;> rfl
    simp only [this, Bool.and_false]
  rcases wrE_cases (Fm.new s p b) page xs with ⟨h1, hE⟩ | ⟨h1, h2, hE⟩ | ⟨i, rfl, hi, hl, ⟨hoff, hE⟩ | ⟨hoff, ⟨hd, hE⟩ | ⟨hd, hE⟩⟩⟩
  · obtain ⟨a, b', c, d, e⟩ := bad 9 hE (by decide) (by decide) (by decide); exact ⟨a, b', c, d, .inl e⟩
  · obtain ⟨a, b', c, d, e⟩ := bad 2 hE (by decide) (by decide) (by decide); exact ⟨a, b', c, d, .inl e⟩
  · obtain ⟨a, b', c, d, e⟩ := bad 40 hE (by decide) (by decide) (by decide); exact ⟨a, b', c, d, .inl e⟩
  · obtain ⟨a, b', c, d, e⟩ := bad 41 hE (by decide) (by decide) (by decide); exact ⟨a, b', c, d, .inl e⟩
  · rw [Fm.write, if_pos hE] at hlB ⊢
    have ht : (Fm.new s p b).torn = 0 := by simp [Fm.torn, Fm.new]
    simp only [ht]
    refine ⟨by simp [Fm.written, Fm.new], hlB, by decide, by decide, .inr ⟨by trivial, i, by trivial, by rw [← hD]; exact hi, hl, ?_, by simp [Fm.written, Fm.new], fun j hj => ?_⟩⟩
    · unfold drt
      have hl2 : ((Fm.new s p b).written (Int.toNat (i : Int)) xs).D.length = (Fm.new s p b).D.length := by simp [Fm.written]
      rw [hl2, inL_nat hi]
      simp only [Fm.written, Int.toNat_natCast, List.getD_eq_getElem?_getD]
      rw [List.getElem?_set_self hi]; rfl
    · rw [Int.toNat_natCast]; exact Fm.reads_new hs hp ⟨by omega, hb.2⟩ (by rw [← hD]; exact hi) hl j hj
end Go.Proofs.Ytfhgbddeclldnaa

namespace Go.Proofs.Ytfhgbddeclldnaa
open Go.RowKit
set_option maxRecDepth 100000
set_option linter.unusedSimpArgs false
set_option linter.unusedVariables false
attribute [local go_sem ↓] Go.wp_at_zero Go.wp_at_succ

theorem PRep.geometry {w : World} {fb bb db wb : Nat} {m : Fm} {G : Nat → Prop} (h : PRep w fb bb db wb m G) : Calls Try.prog 39 #[.pointer (some ⟨fb, 0, none⟩)] w fun e w' => e = .returned (.agg #[.int .i64 m.s, .int .i64 m.p, .int .i64 m.b]) ∧ w.grownBy w' none := by
  obtain ⟨pw, left, aT, cT, T, hp, hw, hg⟩ := h
  exact geometry_any fb _ _ _ w (hp.box.c 0) (hp.box.c 1) (hp.box.c 2)
theorem PRep.on {w : World} {fb bb db wb : Nat} {m : Fm} {G : Nat → Prop} (h : PRep w fb bb db wb m G) : Calls Try.prog 13 #[.pointer (some ⟨fb, 0, none⟩)] w fun e w' => e = .returned (.bool (!m.off)) ∧ w = w' := by
  obtain ⟨pw, left, aT, cT, T, hp, hw, hg⟩ := h
  have := on_any fb pw w (hp.box.c 7)
  rw [hw.on] at this
  exact this
theorem cells10 {w : World} {T : TypeId} (x0 x1 x2 x3 x4 x5 x6 x7 x8 x9 : Value) : Box (w.alloc (.cells #[x0, x1, x2, x3, x4, x5, x6, x7, x8, x9] T)) w.heap.size T [x0, x1, x2, x3, x4, x5, x6, x7, x8, x9] := Box.new w T [x0, x1, x2, x3, x4, x5, x6, x7, x8, x9]
end Go.Proofs.Ytfhgbddeclldnaa
