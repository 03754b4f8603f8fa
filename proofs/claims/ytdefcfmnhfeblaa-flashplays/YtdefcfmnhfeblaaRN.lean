/- The document's New. -/
import Derived.Test.YtdefcfmnhfeblaaRE
import Derived.Test.YtdefcfmnhfeblaaRI
import Derived.Deep.RegionHeld3
import Derived.Deep.OwnRows
namespace Go.Proofs.Ytdefcfmnhfeblaa
open Go.RowKit
set_option linter.unusedSimpArgs false
set_option linter.unusedVariables false

structure WN0 (C T : TypeId) (w W : World) (g : Nat) (cs ds : List Value) : Prop where
  gr : w.grownBy W none
  b0 : Box W g C cs
  b1 : Box W (g + 1) T ds
  sz : W.heap.size = g + 1 + 1
  eg : w.heap.size = g
theorem wn_made (C T : TypeId) (w : World) (cs ds : List Value) : WN0 C T w ((w.alloc (.cells cs.toArray C)).alloc (.cells ds.toArray T)) w.heap.size cs ds := by
  refine ⟨grown2 _ _ _, (Box.new w C cs).grown (World.grownBy_alloc _ _ _), ?_, by simp, rfl⟩
  have h0 := Box.new (w.alloc (.cells cs.toArray C)) T ds
  rw [show (w.alloc (.cells cs.toArray C)).heap.size = w.heap.size + 1 by simp] at h0
  exact h0
theorem made_list (z : Value) (n : Nat) : madeCells #[z] n = (List.replicate n z).toArray := by rw [← toList_madeCells_one]
theorem own_farc {w : World} {base g' e size n : Nat} {v : Value} {xs : List Value} (h : w.ownsRow base e size v n xs) (hg : g' < base) (i : Nat) (u : Value) : (w.setCell ⟨g', i, none⟩ u).ownsRow base e size v n xs := by
  refine ⟨h.1, ?_⟩
  rcases h.2 with h0 | ⟨g, cap, cur, e1, e2, e3, e4⟩
  · exact Or.inl h0
  · exact Or.inr ⟨g, cap, cur, e1, e2, by rw [Below.heap_setCell _ _ _ _ (show g ≠ g' by omega)]; exact e3, e4⟩
/-- behind the making of New's variables -/
structure WN (C T : TypeId) (w W : World) (g B gf gd gw : Nat) (cs ds fs : List Value) (q s : Nat) : Prop where
  gr : w.grownBy W none
  b0 : Box W g C cs
  b1 : Box W (g + 1) T ds
  bf : Box W gf T fs
  rd : Own0 4 W gd q q (List.replicate q (.bool false))
  rw : Own0 3 W gw s s (List.replicate s (.int .i64 0))
  eg : w.heap.size = g
  o : g + 1 < gf ∧ g + 1 < gd ∧ g + 1 < gw ∧ gf < B ∧ gd < B ∧ gw < B ∧ gf ≠ gd ∧ gf ≠ gw ∧ gd ≠ gw
  sz : B ≤ W.heap.size
theorem WN.below {C T : TypeId} {w W W' : World} {g B gf gd gw : Nat} {cs ds fs : List Value} {q s : Nat} (h : WN C T w W g B gf gd gw cs ds fs q s) (hb : Below B W W') : WN C T w W' g B gf gd gw cs ds fs q s := by
  have hg := h.gr; have he := h.eg; have o := h.o
  refine ⟨⟨hb.os.trans hg.os, hb.tape.trans hg.tape, hb.output.trans hg.output, Nat.le_trans hg.size hb.size, fun k hk hr => ?_⟩, h.b0.below hb (by omega), h.b1.below hb (by omega), h.bf.below hb (by omega), h.rd.below hb (by omega), h.rw.below hb (by omega), he, o, Nat.le_trans h.sz hb.size⟩
  rw [hb.block k (by omega)]; exact hg.block k hk hr
theorem WN.setf {C T : TypeId} {w W : World} {g B gf gd gw : Nat} {cs ds fs : List Value} {q s : Nat} (h : WN C T w W g B gf gd gw cs ds fs q s) (i : Nat) (v : Value) : WN C T w (W.setCell ⟨gf, i, none⟩ v) g B gf gd gw cs ds (fs.set i v) q s := by
  have hg := h.gr; have he := h.eg; have o := h.o
  refine ⟨⟨hg.os, hg.tape, hg.output, by simpa [World.setCell] using hg.size, fun k hk hr => ?_⟩, h.b0.far i v (by omega), h.b1.far i v (by omega), h.bf.set i v, h.rd.far (by omega) i v, h.rw.far (by omega) i v, he, o, by simpa [World.setCell] using h.sz⟩
  rw [← hg.block k hk hr]
  have hne : k ≠ gf := by omega
  exact Below.heap_setCell _ _ _ _ hne
theorem WN.set1 {C T : TypeId} {w W : World} {g B gf gd gw : Nat} {cs ds fs : List Value} {q s : Nat} (h : WN C T w W g B gf gd gw cs ds fs q s) (i : Nat) (v : Value) : WN C T w (W.setCell ⟨g + 1, i, none⟩ v) g B gf gd gw cs (ds.set i v) fs q s := by
  have hg := h.gr; have he := h.eg; have o := h.o
  refine ⟨⟨hg.os, hg.tape, hg.output, by simpa [World.setCell] using hg.size, fun k hk hr => ?_⟩, h.b0.far i v (by omega), h.b1.set i v, h.bf.far i v (by omega), h.rd.far (by omega) i v, h.rw.far (by omega) i v, he, o, by simpa [World.setCell] using h.sz⟩
  rw [← hg.block k hk hr]
  have hne : k ≠ g + 1 := by omega
  exact Below.heap_setCell _ _ _ _ hne
theorem WN.store10 {C T : TypeId} {w W : World} {g B gf gd gw : Nat} {cs fs : List Value} {q s : Nat} {x0 x1 x2 x3 x4 x5 x6 x7 x8 x9 : Value} (h : WN C T w W g B gf gd gw cs [x0, x1, x2, x3, x4, x5, x6, x7, x8, x9] fs q s) (y0 y1 y2 y3 y4 y5 y6 y7 y8 y9 : Value) : WN C T w ((((((((((W.setCell ⟨g + 1, 0, none⟩ y0).setCell ⟨g + 1, 1, none⟩ y1).setCell ⟨g + 1, 2, none⟩ y2).setCell ⟨g + 1, 3, none⟩ y3).setCell ⟨g + 1, 4, none⟩ y4).setCell ⟨g + 1, 5, none⟩ y5).setCell ⟨g + 1, 6, none⟩ y6).setCell ⟨g + 1, 7, none⟩ y7).setCell ⟨g + 1, 8, none⟩ y8).setCell ⟨g + 1, 9, none⟩ y9) g B gf gd gw cs [y0, y1, y2, y3, y4, y5, y6, y7, y8, y9] fs q s := ((((((((((h.set1 0 y0).set1 1 y1).set1 2 y2).set1 3 y3).set1 4 y4).set1 5 y5).set1 6 y6).set1 7 y7).set1 8 y8).set1 9 y9)
/-- three blocks made in one statement -/
theorem three {W : World} {g : Nat} (sz : W.heap.size = g + 1 + 1) (X Y Z : Obj) : ((((W.alloc X).alloc Y).alloc Z).drew).heap[g + 1 + 1]? = some X ∧ ((((W.alloc X).alloc Y).alloc Z).drew).heap[g + 1 + 1 + 1]? = some Y ∧ ((((W.alloc X).alloc Y).alloc Z).drew).heap[g + 1 + 1 + 1 + 1]? = some Z ∧ Below (g + 1 + 1) W (((W.alloc X).alloc Y).alloc Z).drew ∧ g + 1 + 1 + 1 + 1 + 1 ≤ ((((W.alloc X).alloc Y).alloc Z).drew).heap.size := by
  have hX : (W.alloc X).heap.size = g + 1 + 1 + 1 := by simp [sz]
  have hY : ((W.alloc X).alloc Y).heap.size = g + 1 + 1 + 1 + 1 := by simp [sz]
  have h1 := heap_alloc_new W X
  have h2 := heap_alloc_new (W.alloc X) Y
  have h3 := heap_alloc_new ((W.alloc X).alloc Y) Z
  rw [sz] at h1
  rw [hX] at h2
  rw [hY] at h3
  have g2 := World.grownBy_alloc (W.alloc X) Y none
  have g3 := World.grownBy_alloc ((W.alloc X).alloc Y) Z none
  have gA := grown_trans (World.grownBy_alloc W X none) (grown_trans g2 g3)
  refine ⟨?_, ?_, h3, ?_, ?_⟩
  · rw [← h1, ← g2.block (g + 1 + 1) (by omega) (by simp)]; exact g3.block (g + 1 + 1) (by omega) (by simp)
  · rw [← h2]; exact g3.block (g + 1 + 1 + 1) (by omega) (by simp)
  · have hb := grown_below gA
    rw [sz] at hb
    exact ⟨hb.os, hb.tape, hb.output, hb.size, hb.block⟩
  · show _ ≤ (((W.alloc X).alloc Y).alloc Z).heap.size
    simp [sz]
theorem own0_made {e : TypeId} {W : World} {g n : Nat} {z : Value} (h : W.heap[g]? = some (.cells (madeCells #[z] n) e)) (hn : n ≤ maxLen) : Own0 e W g n n (List.replicate n z) := ⟨⟨List.replicate n z, by rw [h, made_list], by simp, by simp⟩, by simp, Nat.le_refl _, hn⟩
theorem wn_of {C T : TypeId} {w W W' : World} {g gf gd gw : Nat} {cs ds fs : List Value} {q s : Nat} (h : WN0 C T w W g cs ds) (hb : Below (g + 1 + 1) W W') (hz : g + 1 + 1 + 1 + 1 + 1 ≤ W'.heap.size) (hf : W'.heap[gf]? = some (.cells fs.toArray T)) (hd : W'.heap[gd]? = some (.cells (madeCells #[.bool false] q) 4)) (hw : W'.heap[gw]? = some (.cells (madeCells #[.int .i64 0] s) 3)) (hq : q ≤ maxLen) (hs : s ≤ maxLen)
    (o : g + 1 < gf ∧ g + 1 < gd ∧ g + 1 < gw ∧ gf < (g + 1 + 1 + 1 + 1 + 1) ∧ gd < (g + 1 + 1 + 1 + 1 + 1) ∧ gw < (g + 1 + 1 + 1 + 1 + 1) ∧ gf ≠ gd ∧ gf ≠ gw ∧ gd ≠ gw) : WN C T w W' g (g + 1 + 1 + 1 + 1 + 1) gf gd gw cs ds fs q s := by
  have hg := h.gr; have he := h.eg
  refine ⟨⟨hb.os.trans hg.os, hb.tape.trans hg.tape, hb.output.trans hg.output, Nat.le_trans hg.size hb.size, fun k hk hr => ?_⟩, h.b0.below hb (by omega), h.b1.below hb (by omega), ⟨hf⟩, own0_made hd hq, own0_made hw hs, he, o, hz⟩
  rw [hb.block k (by omega)]; exact hg.block k hk hr
/-- what the document's New answers -/
def RnPost (w : World) (s p b q m : Nat) (e : Ending) (w' : World) : Prop :=
  ∃ bb cB db wb, e = .returned (.agg #[.int .i64 s, .int .i64 p, .int .i64 b, .slice (some ⟨bb, 0, none⟩) m cB, .slice (some ⟨db, 0, none⟩) q q, .slice (some ⟨wb, 0, none⟩) s s, .int .i64 0, .bool false, .int .i64 0, .slice none 0 0]) ∧ Row w' (some ⟨bb, 0, none⟩) m (ffs m) ∧ m ≤ cB ∧ cB ≤ maxLen ∧ RowE Value.bool w' (some ⟨db, 0, none⟩) q (List.replicate q false) ∧ RowE (Value.int .i64) w' (some ⟨wb, 0, none⟩) s (List.replicate s 0) ∧ w.grownBy w' none ∧ w.heap.size ≤ bb ∧ w.heap.size ≤ db ∧ w.heap.size ≤ wb
set_option maxHeartbeats 2000000 in
theorem rnew_any (s p b q m : Nat) (w : World) (hs : 0 < s ∧ s ≤ 4096) (hp : 0 < p ∧ p ≤ 1024) (hb : 0 < b ∧ b ≤ 65536) (hq : s * p = q) (hm : q * b = m) (hm1 : m ≤ 16777216) :
    Calls Try.prog 14 #[.agg #[.int .i64 s, .int .i64 p, .int .i64 b]] w fun e w' => RnPost w s p b q m e w' := by
  have hq0 : 0 < q := by rw [← hq]; exact Nat.mul_pos hs.1 hp.1
  have hqm : q ≤ m := by rw [← hm]; exact Nat.le_mul_of_pos_right q hb.1
  have hsq : s ≤ q := by rw [← hq]; exact Nat.le_mul_of_pos_right s hp.1
  have hw1 : IntKind.i64.wrap ((s : Int) * (p : Int)) = (q : Int) := by rw [← Int.natCast_mul, hq, IntKind.wrap_i64]; omega
  have hw2 : IntKind.i64.wrap ((q : Int) * (b : Int)) = (m : Int) := by rw [← Int.natCast_mul, hm, IntKind.wrap_i64]; omega
  have hk1 : ∀ w, (Instr.makeSlice 35 (.int .i64 (q : Int)) (.int .i64 (q : Int))).run Try.prog w = .ok (.slice (some ⟨w.heap.size, 0, none⟩) q q) (w.alloc (.cells (madeCells #[.bool false] q) 4)) := run_make_row' _ _ _ _ (by kernel_rfl) Try.info4 rfl .i64 .i64 q (by omega) (by omega)
  have hk2 : ∀ w, (Instr.makeSlice 36 (.int .i64 (s : Int)) (.int .i64 (s : Int))).run Try.prog w = .ok (.slice (some ⟨w.heap.size, 0, none⟩) s s) (w.alloc (.cells (madeCells #[.int .i64 0] s) 3)) := run_make_row' _ _ _ _ (by kernel_rfl) Try.info3 rfl .i64 .i64 s (by omega) (by omega)
  have hqM : q ≤ maxLen := by unfold maxLen; omega
  have hsM : s ≤ maxLen := by unfold maxLen; omega
  clear hq hm
  have ws : WN0 23 40 w _ _ _ _ := wn_made 23 40 w [.int .i64 s, .int .i64 p, .int .i64 b] [.int .i64 0, .int .i64 0, .int .i64 0, .slice none 0 0, .slice none 0 0, .slice none 0 0, .int .i64 0, .bool false, .int .i64 0, .slice none 0 0]
  have HA : Hid _ := ws
  clear ws
  go_enter Try.func14, Try.ntmps14
  go_wp2_with fail
  have ws := HA.out
  generalize ((w.alloc (Obj.cells #[.int .i64 s, .int .i64 p, .int .i64 b] 23)).alloc (Obj.cells #[.int .i64 0, .int .i64 0, .int .i64 0, .slice none 0 0, .slice none 0 0, .slice none 0 0, .int .i64 0, .bool false, .int .i64 0, .slice none 0 0] 40)) = W at ws ⊢
  clear HA
  generalize hgg : w.heap.size = g at ws ⊢
  have sz := ws.sz
  have c0 : W.cell? ⟨g, 0, none⟩ = some (.int .i64 s) := ws.b0.c 0
  have c1 : W.cell? ⟨g, 1, none⟩ = some (.int .i64 p) := ws.b0.c 1
  have c2 : W.cell? ⟨g, 2, none⟩ = some (.int .i64 b) := ws.b0.c 2
  have HW : Hid _ := ws
  clear ws
  rename_i Q' K hKK
  have tail : ∀ (gf gd gw : Nat) (W3 : World), WN 23 40 w W3 g (g + 1 + 1 + 1 + 1 + 1) gf gd gw [.int .i64 s, .int .i64 p, .int .i64 b] [.int .i64 0, .int .i64 0, .int .i64 0, .slice none 0 0, .slice none 0 0, .slice none 0 0, .int .i64 0, .bool false, .int .i64 0, .slice none 0 0] [.int .i64 s, .int .i64 p, .int .i64 b, .slice none 0 0, .slice (some ⟨gd, 0, none⟩) q q, .slice (some ⟨gw, 0, none⟩) s s, .int .i64 0, .bool false, .int .i64 0, .slice none 0 0] q s → Exit.then K Q' Exit.normal { tmps := #[Value.agg #[Value.int IntKind.i64 s, Value.int IntKind.i64 p, Value.int IntKind.i64 b], Value.pointer (some ⟨g, 0, none⟩), Value.pointer (some ⟨g + 1, 0, none⟩), Value.pointer (some ⟨gf, 0, none⟩), undef, Value.agg #[Value.int IntKind.i64 s, Value.int IntKind.i64 p, Value.int IntKind.i64 b], Value.pointer (some ⟨g, 0, none⟩), Value.int IntKind.i64 s, Value.pointer (some ⟨g, 1, none⟩), Value.int IntKind.i64 p, Value.int IntKind.i64 q, Value.slice (some ⟨gd, 0, none⟩) q q, Value.pointer (some ⟨g, 0, none⟩), Value.int IntKind.i64 s, Value.slice (some ⟨gw, 0, none⟩) s s, Value.agg #[Value.int IntKind.i64 s, Value.int IntKind.i64 p, Value.int IntKind.i64 b, Value.slice none 0 0, Value.slice (some ⟨gd, 0, none⟩) q q, Value.slice (some ⟨gw, 0, none⟩) s s, Value.int IntKind.i64 0, Value.bool false, Value.int IntKind.i64 0, Value.slice none 0 0], undef, undef, undef, undef, undef, undef, undef, undef, undef, undef, undef, undef, undef, undef, undef, undef, undef, undef], defers := [] } W3 := by
    intro gf gd gw W3 wn
    obtain ⟨i5, hi5, hz0, hz1, hz2⟩ := info_parts Try.info5
    have o := wn.o
    have HN : Hid _ := wn
    clear wn hk1 hk2 c0 c1 c2 sz HW
    go_wp2
    go_loopw [4] (fun vi wr => ∃ (j : Nat) (v : Value), vi = .int .i64 j ∧ j ≤ m ∧ Hid (wr.ownsRow (g + 1 + 1 + 1 + 1 + 1) 5 1 v j (bv (ffs j))) ∧ Hid (WN 23 40 w wr g (g + 1 + 1 + 1 + 1 + 1) gf gd gw [.int .i64 s, .int .i64 p, .int .i64 b] [.int .i64 0, .int .i64 0, .int .i64 0, .slice none 0 0, .slice none 0 0, .slice none 0 0, .int .i64 0, .bool false, .int .i64 0, .slice none 0 0] [.int .i64 s, .int .i64 p, .int .i64 b, v, .slice (some ⟨gd, 0, none⟩) q q, .slice (some ⟨gw, 0, none⟩) s s, .int .i64 0, .bool false, .int .i64 0, .slice none 0 0] q s)) (fun vi _ => m - (intOf vi).toNat)
    case atStart => exact ⟨0, .slice none 0 0, rfl, Nat.zero_le _, World.ownsRow_nil _ _ _ _, HN⟩
    case round =>
      clear HN
      obtain ⟨j, v, rfl, j2, HQ, HW⟩ := hrel
      obtain ⟨xa, xc, rfl, k1, k2, k3⟩ := owns_form HQ.out
      unfold maxLen at k2
      have c0 : wr.cell? ⟨g, 0, none⟩ = some (.int .i64 s) := HW.out.b0.c 0
      have c1 : wr.cell? ⟨g, 1, none⟩ = some (.int .i64 p) := HW.out.b0.c 1
      have c2 : wr.cell? ⟨g, 2, none⟩ = some (.int .i64 b) := HW.out.b0.c 2
      by_cases hlt : j < m
      · have c3 : wr.cell? ⟨gf, 3, none⟩ = some (.slice xa j xc) := HW.out.bf.c 3
        have hsz2 := HW.out.sz
        have hal : (g + 1 + 1 + 1 + 1 + 1) ≤ (wr.alloc (.cells #[.int .u8 255] 5)).heap.size := by simp; omega
        go_wp2_with (at_builtin; (refine wpList_append_own _ rfl _ _ 34 rfl (g + 1 + 1 + 1 + 1 + 1) 5 i5 (.int .u8 0) 1 1 Try.underlying34 hi5 hz0 hz1 hz2 rfl (by decide) _ _ _ rfl (HQ.out.alloc _) ⟨wr.heap.size, 0, none⟩ 1 1 (bv [255]) rfl rfl ?c1 (bv_one _) ?c3 ?c4 hal ?_))
        case c1 => exact cell_one_new _ _ _
        case c3 => unfold maxLen; omega
        case c4 => omega
        · intro v' w2 hq2 hg2 _
          have R : w2.ownsRow (g + 1 + 1 + 1 + 1 + 1) 5 1 v' (j + 1) (bv (ffs (j + 1))) := by
            rw [ffs_snoc, bv_append]; exact hq2
          have wn2 : WN 23 40 w w2 g (g + 1 + 1 + 1 + 1 + 1) gf gd gw [.int .i64 s, .int .i64 p, .int .i64 b] [.int .i64 0, .int .i64 0, .int .i64 0, .slice none 0 0, .slice none 0 0, .slice none 0 0, .int .i64 0, .bool false, .int .i64 0, .slice none 0 0] [.int .i64 s, .int .i64 p, .int .i64 b, (.slice xa j xc), .slice (some ⟨gd, 0, none⟩) q q, .slice (some ⟨gw, 0, none⟩) s s, .int .i64 0, .bool false, .int .i64 0, .slice none 0 0] q s :=
            (HW.out.below ((grown_below (World.grownBy_alloc wr _ none)).mono hsz2)).below (below_own hg2 (HQ.out.alloc _) hal)
          obtain ⟨ya, yc, rfl, _⟩ := owns_form R
          have d3 : w2.cell? ⟨gf, 3, none⟩ = some (.slice xa j xc) := wn2.bf.c 3
          have e3 : w2.frozen? ⟨gf, 3, none⟩ = false := wn2.bf.f 3
          have HR : Hid _ := And.intro (own_farc R (show gf < _ from o.2.2.2.1) 3 (.slice ya (j + 1) yc)) (wn2.setf 3 (.slice ya (j + 1) yc))
          clear hq2 hg2 HQ HW hal hsz2 R wn2 c0 c1 c2 c3
          go_wp2
          go_roundw
          case rel => exact ⟨j + 1, _, by go_num, by omega, HR.out.1, HR.out.2⟩
          case measure => simp [intOf]; omega
      · have ej : j = m := by omega
        subst ej
        obtain ⟨gx, rfl, hgx⟩ : ∃ gx, xa = some ⟨gx, 0, none⟩ ∧ (g + 1 + 1 + 1 + 1 + 1) ≤ gx := by
          rcases k3 with ⟨_, h3, _⟩ | ⟨g', h3, h4⟩
          · omega
          · exact ⟨g', h3, h4⟩
        have RX : Row wr (some ⟨gx, 0, none⟩) j (ffs j) := by
          obtain ⟨a', c', e1, RR⟩ := owns_row HQ.out (ffs_byt _) (by unfold maxLen; omega)
          injection e1 with e1 e2 e3
          subst e1
          exact RR
        have wn := HW.out
        have wn3 := wn.store10 (.int .i64 s) (.int .i64 p) (.int .i64 b) (.slice (some ⟨gx, 0, none⟩) j xc) (.slice (some ⟨gd, 0, none⟩) q q) (.slice (some ⟨gw, 0, none⟩) s s) (.int .i64 0) (.bool false) (.int .i64 0) (.slice none 0 0)
        have RX3 := ((((((((((RX.far (show gx ≠ g + 1 by omega) 0 (.int .i64 s)).far (show gx ≠ g + 1 by omega) 1 (.int .i64 p)).far (show gx ≠ g + 1 by omega) 2 (.int .i64 b)).far (show gx ≠ g + 1 by omega) 3 (.slice (some ⟨gx, 0, none⟩) j xc)).far (show gx ≠ g + 1 by omega) 4 (.slice (some ⟨gd, 0, none⟩) q q)).far (show gx ≠ g + 1 by omega) 5 (.slice (some ⟨gw, 0, none⟩) s s)).far (show gx ≠ g + 1 by omega) 6 (.int .i64 0)).far (show gx ≠ g + 1 by omega) 7 (.bool false)).far (show gx ≠ g + 1 by omega) 8 (.int .i64 0)).far (show gx ≠ g + 1 by omega) 9 (.slice none 0 0))
        clear HQ HW k3 hlt c0 c1 c2
        have c0 : wr.cell? ⟨g, 0, none⟩ = some (.int .i64 s) := wn.b0.c 0
        have c1 : wr.cell? ⟨g, 1, none⟩ = some (.int .i64 p) := wn.b0.c 1
        have c2 : wr.cell? ⟨g, 2, none⟩ = some (.int .i64 b) := wn.b0.c 2
        obtain ⟨d0, d1, d2, d3, d4, d5, d6, d7, d8, d9⟩ := wn.bf.c10
        obtain ⟨z0, z1, z2, z3, z4, z5, z6, z7, z8, z9⟩ := wn.b1.c10
        obtain ⟨y0, y1, y2, y3, y4, y5, y6, y7, y8, y9⟩ := wn.b1.f10
        have HF : Hid _ := And.intro wn3 RX3
        have HK : Hid _ := And.intro k1 k2
        clear wn wn3 RX RX3 k1 k2
        go_wp2
        obtain ⟨wn3, RX3⟩ := HF.out
        generalize ((((((((((wr.setCell ⟨g + 1, 0, none⟩ (.int .i64 s)).setCell ⟨g + 1, 1, none⟩ (.int .i64 p)).setCell ⟨g + 1, 2, none⟩ (.int .i64 b)).setCell ⟨g + 1, 3, none⟩ (.slice (some ⟨gx, 0, none⟩) j xc)).setCell ⟨g + 1, 4, none⟩ (.slice (some ⟨gd, 0, none⟩) q q)).setCell ⟨g + 1, 5, none⟩ (.slice (some ⟨gw, 0, none⟩) s s)).setCell ⟨g + 1, 6, none⟩ (.int .i64 0)).setCell ⟨g + 1, 7, none⟩ (.bool false)).setCell ⟨g + 1, 8, none⟩ (.int .i64 0)).setCell ⟨g + 1, 9, none⟩ (.slice none 0 0)) = w3 at wn3 RX3 ⊢
        clear HF c0 c1 c2 d0 d1 d2 d3 d4 d5 d6 d7 d8 d9 z0 z1 z2 z3 z4 z5 z6 z7 z8 z9 y0 y1 y2 y3 y4 y5 y6 y7 y8 y9
        obtain ⟨z0, z1, z2, z3, z4, z5, z6, z7, z8, z9⟩ := wn3.b1.c10
        have r1 := wn3.rd
        have r2 := wn3.rw
        rw [show List.replicate q (Value.bool false) = (List.replicate q false).map Value.bool by simp] at r1
        rw [show List.replicate s (Value.int .i64 0) = (List.replicate s (0 : Int)).map (Value.int .i64) by simp] at r2
        refine bodyPost_ret (v := .agg #[.int .i64 s, .int .i64 p, .int .i64 b, .slice (some ⟨gx, 0, none⟩) j xc, .slice (some ⟨gd, 0, none⟩) q q, .slice (some ⟨gw, 0, none⟩) s s, .int .i64 0, .bool false, .int .i64 0, .slice none 0 0]) (by simp [results, Try.results14, go_sem, z0, z1, z2, z3, z4, z5, z6, z7, z8, z9]) rfl ?_
        exact ⟨gx, xc, gd, gw, rfl, RX3, HK.out.1, by unfold maxLen; exact HK.out.2, r1.rowE, r2.rowE, wn3.gr, by have := wn3.eg; omega, by have := wn3.eg; omega, by have := wn3.eg; omega⟩
  have HT : Hid _ := tail
  clear tail hKK
  go_region_held3 (fun w' => w'.cell? ⟨g, 0, none⟩ = some (.int .i64 s) ∧ w'.cell? ⟨g, 1, none⟩ = some (.int .i64 p) ∧ w'.cell? ⟨g, 2, none⟩ = some (.int .i64 b)) (simp (maxDischargeDepth := 12) [*, World.cell?_alloc_some, World.cell?_setCell_far]) (fail)
  all_goals
    obtain ⟨t1, t2, t3, t4, t5⟩ := three sz _ _ _
    first
    | exact HT.out _ _ _ _ (wn_of HW.out t4 t5 t1 t2 t3 hqM hsM (by omega))
    | exact HT.out _ _ _ _ (wn_of HW.out t4 t5 t1 t3 t2 hqM hsM (by omega))
    | exact HT.out _ _ _ _ (wn_of HW.out t4 t5 t2 t1 t3 hqM hsM (by omega))
    | exact HT.out _ _ _ _ (wn_of HW.out t4 t5 t2 t3 t1 hqM hsM (by omega))
    | exact HT.out _ _ _ _ (wn_of HW.out t4 t5 t3 t1 t2 hqM hsM (by omega))
    | exact HT.out _ _ _ _ (wn_of HW.out t4 t5 t3 t2 t1 hqM hsM (by omega))
end Go.Proofs.Ytdefcfmnhfeblaa
