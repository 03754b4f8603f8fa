/- The document's New. A flash without memory (Fm), and the document's flash held against it (Rep). Plain facts of a flash without memory: what a write, an erasure leaves as it was. The document's Check of a geometry. The document's plan of a flash. -/
import Derived.Deep.RegionHeld3
import Derived.Deep.OwnRows
import Derived.Test.YtfhgbddeclldnaaGreatProg
import Derived.WalkLawsBesides
import Derived.WalkKit
import Derived.Below
import Derived.Deep.QuietTactic
import Derived.Handy
import Derived.Test.YtfhgbddeclldnaaGreatQ01
import Derived.Test.YtfhgbddeclldnaaGreatQ02
import Derived.Test.YtfhgbddeclldnaaGreatQ04
import Derived.Test.YtfhgbddeclldnaaGreatQ05
namespace Go.Proofs.YtfhgbddeclldnaaGreat
open Go.RowKit
set_option maxRecDepth 100000
set_option linter.unusedSimpArgs false
set_option linter.unusedVariables false

structure WN0 (C T : TypeId) (w W : World) (g : Nat) (cs ds : List Value) : Prop where
  gr : w.grownBy W none
  b0 : Box W g C cs
  b1 : Box W (g + 1) T ds
  sz : W.heap.size = g + 1 + 1
  eg : w.heap.size = g
theorem wn_made (C T : TypeId) (w : World) (cs ds : List Value) : WN0 C T w ((w.alloc (.cells cs.toArray C)).alloc (.cells ds.toArray T)) w.heap.size cs ds := by
  refine ⟨grown2 _ _ _, (Box.new w C cs).grown (World.grownBy_alloc _ _ _), ?_, by simp, rfl⟩
  have h0 := Box.new (w.alloc (.cells cs.toArray C)) T ds
  rw [show (w.alloc (.cells cs.toArray C)).heap.size = w.heap.size + 1 by simp] at h0
  exact h0
theorem made_list (z : Value) (n : Nat) : madeCells #[z] n = (List.replicate n z).toArray := by rw [← toList_madeCells_one]
theorem own_farc {w : World} {base g' e size n : Nat} {v : Value} {xs : List Value} (h : w.ownsRow base e size v n xs) (hg : g' < base) (i : Nat) (u : Value) : (w.setCell ⟨g', i, none⟩ u).ownsRow base e size v n xs := by
  refine ⟨h.1, ?_⟩
  rcases h.2 with h0 | ⟨g, cap, cur, e1, e2, e3, e4⟩
  · exact Or.inl h0
  · exact Or.inr ⟨g, cap, cur, e1, e2, by rw [Below.heap_setCell _ _ _ _ (show g ≠ g' by omega)]; exact e3, e4⟩
/-- behind the making of New's variables -/
structure WN (C T : TypeId) (w W : World) (g B gf gd gw : Nat) (cs ds fs : List Value) (q s : Nat) : Prop where
  gr : w.grownBy W none
  b0 : Box W g C cs
  b1 : Box W (g + 1) T ds
  bf : Box W gf T fs
  rd : Own0 4 W gd q q (List.replicate q (.bool false))
  rw : Own0 3 W gw s s (List.replicate s (.int .i64 0))
  eg : w.heap.size = g
  o : g + 1 < gf ∧ g + 1 < gd ∧ g + 1 < gw ∧ gf < B ∧ gd < B ∧ gw < B ∧ gf ≠ gd ∧ gf ≠ gw ∧ gd ≠ gw
  sz : B ≤ W.heap.size
theorem WN.below {C T : TypeId} {w W W' : World} {g B gf gd gw : Nat} {cs ds fs : List Value} {q s : Nat} (h : WN C T w W g B gf gd gw cs ds fs q s) (hb : Below B W W') : WN C T w W' g B gf gd gw cs ds fs q s := by
  have hg := h.gr; have he := h.eg; have o := h.o
  refine ⟨⟨hb.os.trans hg.os, hb.tape.trans hg.tape, hb.output.trans hg.output, Nat.le_trans hg.size hb.size, fun k hk hr => ?_⟩, h.b0.below hb (by omega), h.b1.below hb (by omega), h.bf.below hb (by omega), h.rd.below hb (by omega), h.rw.below hb (by omega), he, o, Nat.le_trans h.sz hb.size⟩
  rw [hb.block k (by omega)]; exact hg.block k hk hr
theorem WN.setf {C T : TypeId} {w W : World} {g B gf gd gw : Nat} {cs ds fs : List Value} {q s : Nat} (h : WN C T w W g B gf gd gw cs ds fs q s) (i : Nat) (v : Value) : WN C T w (W.setCell ⟨gf, i, none⟩ v) g B gf gd gw cs ds (fs.set i v) q s := by
  have hg := h.gr; have he := h.eg; have o := h.o
  refine ⟨⟨hg.os, hg.tape, hg.output, by simpa [World.setCell] using hg.size, fun k hk hr => ?_⟩, h.b0.far i v (by omega), h.b1.far i v (by omega), h.bf.set i v, h.rd.far (by omega) i v, h.rw.far (by omega) i v, he, o, by simpa [World.setCell] using h.sz⟩
  rw [← hg.block k hk hr]
  have hne : k ≠ gf := by omega
  exact Below.heap_setCell _ _ _ _ hne
theorem WN.set1 {C T : TypeId} {w W : World} {g B gf gd gw : Nat} {cs ds fs : List Value} {q s : Nat} (h : WN C T w W g B gf gd gw cs ds fs q s) (i : Nat) (v : Value) : WN C T w (W.setCell ⟨g + 1, i, none⟩ v) g B gf gd gw cs (ds.set i v) fs q s := by
  have hg := h.gr; have he := h.eg; have o := h.o
  refine ⟨⟨hg.os, hg.tape, hg.output, by simpa [World.setCell] using hg.size, fun k hk hr => ?_⟩, h.b0.far i v (by omega), h.b1.set i v, h.bf.far i v (by omega), h.rd.far (by omega) i v, h.rw.far (by omega) i v, he, o, by simpa [World.setCell] using h.sz⟩
  rw [← hg.block k hk hr]
  have hne : k ≠ g + 1 := by omega
  exact Below.heap_setCell _ _ _ _ hne
theorem WN.store10 {C T : TypeId} {w W : World} {g B gf gd gw : Nat} {cs fs : List Value} {q s : Nat} {x0 x1 x2 x3 x4 x5 x6 x7 x8 x9 : Value} (h : WN C T w W g B gf gd gw cs [x0, x1, x2, x3, x4, x5, x6, x7, x8, x9] fs q s) (y0 y1 y2 y3 y4 y5 y6 y7 y8 y9 : Value) : WN C T w ((((((((((W.setCell ⟨g + 1, 0, none⟩ y0).setCell ⟨g + 1, 1, none⟩ y1).setCell ⟨g + 1, 2, none⟩ y2).setCell ⟨g + 1, 3, none⟩ y3).setCell ⟨g + 1, 4, none⟩ y4).setCell ⟨g + 1, 5, none⟩ y5).setCell ⟨g + 1, 6, none⟩ y6).setCell ⟨g + 1, 7, none⟩ y7).setCell ⟨g + 1, 8, none⟩ y8).setCell ⟨g + 1, 9, none⟩ y9) g B gf gd gw cs [y0, y1, y2, y3, y4, y5, y6, y7, y8, y9] fs q s := ((((((((((h.set1 0 y0).set1 1 y1).set1 2 y2).set1 3 y3).set1 4 y4).set1 5 y5).set1 6 y6).set1 7 y7).set1 8 y8).set1 9 y9)
/-- three blocks made in one statement -/
theorem three {W : World} {g : Nat} (sz : W.heap.size = g + 1 + 1) (X Y Z : Obj) : ((((W.alloc X).alloc Y).alloc Z).drew).heap[g + 1 + 1]? = some X ∧ ((((W.alloc X).alloc Y).alloc Z).drew).heap[g + 1 + 1 + 1]? = some Y ∧ ((((W.alloc X).alloc Y).alloc Z).drew).heap[g + 1 + 1 + 1 + 1]? = some Z ∧ Below (g + 1 + 1) W (((W.alloc X).alloc Y).alloc Z).drew ∧ g + 1 + 1 + 1 + 1 + 1 ≤ ((((W.alloc X).alloc Y).alloc Z).drew).heap.size := by
  have hX : (W.alloc X).heap.size = g + 1 + 1 + 1 := by simp [sz]
  have hY : ((W.alloc X).alloc Y).heap.size = g + 1 + 1 + 1 + 1 := by simp [sz]
  have h1 := heap_alloc_new W X
  have h2 := heap_alloc_new (W.alloc X) Y
  have h3 := heap_alloc_new ((W.alloc X).alloc Y) Z
  rw [sz] at h1
  rw [hX] at h2
  rw [hY] at h3
  have g2 := World.grownBy_alloc (W.alloc X) Y none
  have g3 := World.grownBy_alloc ((W.alloc X).alloc Y) Z none
  have gA := grown_trans (World.grownBy_alloc W X none) (grown_trans g2 g3)
  refine ⟨?_, ?_, h3, ?_, ?_⟩
  · rw [← h1, ← g2.block (g + 1 + 1) (by omega) (by simp)]; exact g3.block (g + 1 + 1) (by omega) (by simp)
  · rw [← h2]; exact g3.block (g + 1 + 1 + 1) (by omega) (by simp)
  · have hb := grown_below gA
    rw [sz] at hb
    exact ⟨hb.os, hb.tape, hb.output, hb.size, hb.block⟩
  · show _ ≤ (((W.alloc X).alloc Y).alloc Z).heap.size
    simp [sz]
theorem own0_made {e : TypeId} {W : World} {g n : Nat} {z : Value} (h : W.heap[g]? = some (.cells (madeCells #[z] n) e)) (hn : n ≤ maxLen) : Own0 e W g n n (List.replicate n z) := ⟨⟨List.replicate n z, by rw [h, made_list], by simp, by simp⟩, by simp, Nat.le_refl _, hn⟩
theorem wn_of {C T : TypeId} {w W W' : World} {g gf gd gw : Nat} {cs ds fs : List Value} {q s : Nat} (h : WN0 C T w W g cs ds) (hb : Below (g + 1 + 1) W W') (hz : g + 1 + 1 + 1 + 1 + 1 ≤ W'.heap.size) (hf : W'.heap[gf]? = some (.cells fs.toArray T)) (hd : W'.heap[gd]? = some (.cells (madeCells #[.bool false] q) 4)) (hw : W'.heap[gw]? = some (.cells (madeCells #[.int .i64 0] s) 3)) (hq : q ≤ maxLen) (hs : s ≤ maxLen)
    (o : g + 1 < gf ∧ g + 1 < gd ∧ g + 1 < gw ∧ gf < (g + 1 + 1 + 1 + 1 + 1) ∧ gd < (g + 1 + 1 + 1 + 1 + 1) ∧ gw < (g + 1 + 1 + 1 + 1 + 1) ∧ gf ≠ gd ∧ gf ≠ gw ∧ gd ≠ gw) : WN C T w W' g (g + 1 + 1 + 1 + 1 + 1) gf gd gw cs ds fs q s := by
  have hg := h.gr; have he := h.eg
  refine ⟨⟨hb.os.trans hg.os, hb.tape.trans hg.tape, hb.output.trans hg.output, Nat.le_trans hg.size hb.size, fun k hk hr => ?_⟩, h.b0.below hb (by omega), h.b1.below hb (by omega), ⟨hf⟩, own0_made hd hq, own0_made hw hs, he, o, hz⟩
  rw [hb.block k (by omega)]; exact hg.block k hk hr
/-- what the document's New answers -/
def RnPost (w : World) (s p b q m : Nat) (e : Ending) (w' : World) : Prop :=
  ∃ bb cB db wb, e = .returned (.agg #[.int .i64 s, .int .i64 p, .int .i64 b, .slice (some ⟨bb, 0, none⟩) m cB, .slice (some ⟨db, 0, none⟩) q q, .slice (some ⟨wb, 0, none⟩) s s, .int .i64 0, .bool false, .int .i64 0, .slice none 0 0]) ∧ Row w' (some ⟨bb, 0, none⟩) m (ffs m) ∧ m ≤ cB ∧ cB ≤ maxLen ∧ RowE Value.bool w' (some ⟨db, 0, none⟩) q (List.replicate q false) ∧ RowE (Value.int .i64) w' (some ⟨wb, 0, none⟩) s (List.replicate s 0) ∧ w.grownBy w' none ∧ w.heap.size ≤ bb ∧ w.heap.size ≤ db ∧ w.heap.size ≤ wb
set_option maxHeartbeats 2000000 in
theorem rnew_any (s p b q m : Nat) (w : World) (hs : 0 < s ∧ s ≤ 4096) (hp : 0 < p ∧ p ≤ 1024) (hb : 0 < b ∧ b ≤ 65536) (hq : s * p = q) (hm : q * b = m) (hm1 : m ≤ 16777216) :
    Calls Tryz.prog 9 #[.agg #[.int .i64 s, .int .i64 p, .int .i64 b]] w fun e w' => RnPost w s p b q m e w' := by
  have hq0 : 0 < q := by rw [← hq]; exact Nat.mul_pos hs.1 hp.1
  have hqm : q ≤ m := by rw [← hm]; exact Nat.le_mul_of_pos_right q hb.1
  have hsq : s ≤ q := by rw [← hq]; exact Nat.le_mul_of_pos_right s hp.1
  have hw1 : IntKind.i64.wrap ((s : Int) * (p : Int)) = (q : Int) := by rw [← Int.natCast_mul, hq, IntKind.wrap_i64]; omega
  have hw2 : IntKind.i64.wrap ((q : Int) * (b : Int)) = (m : Int) := by rw [← Int.natCast_mul, hm, IntKind.wrap_i64]; omega
  have hk1 : ∀ w, (Instr.makeSlice 37 (.int .i64 (q : Int)) (.int .i64 (q : Int))).run Tryz.prog w = .ok (.slice (some ⟨w.heap.size, 0, none⟩) q q) (w.alloc (.cells (madeCells #[.bool false] q) 4)) := run_make_row' _ _ _ _ (by kernel_rfl) Tryz.info4 rfl .i64 .i64 q (by omega) (by omega)
  have hk2 : ∀ w, (Instr.makeSlice 38 (.int .i64 (s : Int)) (.int .i64 (s : Int))).run Tryz.prog w = .ok (.slice (some ⟨w.heap.size, 0, none⟩) s s) (w.alloc (.cells (madeCells #[.int .i64 0] s) 3)) := run_make_row' _ _ _ _ (by kernel_rfl) Tryz.info3 rfl .i64 .i64 s (by omega) (by omega)
  have hqM : q ≤ maxLen := by unfold maxLen; omega
  have hsM : s ≤ maxLen := by unfold maxLen; omega
  clear hq hm
  have ws : WN0 23 42 w _ _ _ _ := wn_made 23 42 w [.int .i64 s, .int .i64 p, .int .i64 b] [.int .i64 0, .int .i64 0, .int .i64 0, .slice none 0 0, .slice none 0 0, .slice none 0 0, .int .i64 0, .bool false, .int .i64 0, .slice none 0 0]
  have HA : Hid _ := ws
  clear ws
  go_enter Tryz.func9, Tryz.ntmps9
  go_wp2_with fail
  have ws := HA.out
  generalize ((w.alloc (Obj.cells #[.int .i64 s, .int .i64 p, .int .i64 b] 23)).alloc (Obj.cells #[.int .i64 0, .int .i64 0, .int .i64 0, .slice none 0 0, .slice none 0 0, .slice none 0 0, .int .i64 0, .bool false, .int .i64 0, .slice none 0 0] 42)) = W at ws ⊢
  clear HA
  generalize hgg : w.heap.size = g at ws ⊢
  have sz := ws.sz
  have c0 : W.cell? ⟨g, 0, none⟩ = some (.int .i64 s) := ws.b0.c 0
  have c1 : W.cell? ⟨g, 1, none⟩ = some (.int .i64 p) := ws.b0.c 1
  have c2 : W.cell? ⟨g, 2, none⟩ = some (.int .i64 b) := ws.b0.c 2
  have HW : Hid _ := ws
  clear ws
  rename_i Q' K hKK
  have tail : ∀ (gf gd gw : Nat) (W3 : World), WN 23 42 w W3 g (g + 1 + 1 + 1 + 1 + 1) gf gd gw [.int .i64 s, .int .i64 p, .int .i64 b] [.int .i64 0, .int .i64 0, .int .i64 0, .slice none 0 0, .slice none 0 0, .slice none 0 0, .int .i64 0, .bool false, .int .i64 0, .slice none 0 0] [.int .i64 s, .int .i64 p, .int .i64 b, .slice none 0 0, .slice (some ⟨gd, 0, none⟩) q q, .slice (some ⟨gw, 0, none⟩) s s, .int .i64 0, .bool false, .int .i64 0, .slice none 0 0] q s → Exit.then K Q' Exit.normal { tmps := #[Value.agg #[Value.int IntKind.i64 s, Value.int IntKind.i64 p, Value.int IntKind.i64 b], Value.pointer (some ⟨g, 0, none⟩), Value.pointer (some ⟨g + 1, 0, none⟩), Value.pointer (some ⟨gf, 0, none⟩), undef, Value.agg #[Value.int IntKind.i64 s, Value.int IntKind.i64 p, Value.int IntKind.i64 b], Value.pointer (some ⟨g, 0, none⟩), Value.int IntKind.i64 s, Value.pointer (some ⟨g, 1, none⟩), Value.int IntKind.i64 p, Value.int IntKind.i64 q, Value.slice (some ⟨gd, 0, none⟩) q q, Value.pointer (some ⟨g, 0, none⟩), Value.int IntKind.i64 s, Value.slice (some ⟨gw, 0, none⟩) s s, Value.agg #[Value.int IntKind.i64 s, Value.int IntKind.i64 p, Value.int IntKind.i64 b, Value.slice none 0 0, Value.slice (some ⟨gd, 0, none⟩) q q, Value.slice (some ⟨gw, 0, none⟩) s s, Value.int IntKind.i64 0, Value.bool false, Value.int IntKind.i64 0, Value.slice none 0 0], undef, undef, undef, undef, undef, undef, undef, undef, undef, undef, undef, undef, undef, undef, undef, undef, undef, undef], defers := [] } W3 := by
    intro gf gd gw W3 wn
    obtain ⟨i5, hi5, hz0, hz1, hz2⟩ := info_parts Tryz.info5
    have o := wn.o
    have HN : Hid _ := wn
    clear wn hk1 hk2 c0 c1 c2 sz HW
    go_wp2
    go_loopw [4] (fun vi wr => ∃ (j : Nat) (v : Value), vi = .int .i64 j ∧ j ≤ m ∧ Hid (wr.ownsRow (g + 1 + 1 + 1 + 1 + 1) 5 1 v j (bv (ffs j))) ∧ Hid (WN 23 42 w wr g (g + 1 + 1 + 1 + 1 + 1) gf gd gw [.int .i64 s, .int .i64 p, .int .i64 b] [.int .i64 0, .int .i64 0, .int .i64 0, .slice none 0 0, .slice none 0 0, .slice none 0 0, .int .i64 0, .bool false, .int .i64 0, .slice none 0 0] [.int .i64 s, .int .i64 p, .int .i64 b, v, .slice (some ⟨gd, 0, none⟩) q q, .slice (some ⟨gw, 0, none⟩) s s, .int .i64 0, .bool false, .int .i64 0, .slice none 0 0] q s)) (fun vi _ => m - (intOf vi).toNat)
    case atStart => exact ⟨0, .slice none 0 0, rfl, Nat.zero_le _, World.ownsRow_nil _ _ _ _, HN⟩
    case round =>
      clear HN
      obtain ⟨j, v, rfl, j2, HQ, HW⟩ := hrel
      obtain ⟨xa, xc, rfl, k1, k2, k3⟩ := owns_form HQ.out
      unfold maxLen at k2
      have c0 : wr.cell? ⟨g, 0, none⟩ = some (.int .i64 s) := HW.out.b0.c 0
      have c1 : wr.cell? ⟨g, 1, none⟩ = some (.int .i64 p) := HW.out.b0.c 1
      have c2 : wr.cell? ⟨g, 2, none⟩ = some (.int .i64 b) := HW.out.b0.c 2
      by_cases hlt : j < m
      · have c3 : wr.cell? ⟨gf, 3, none⟩ = some (.slice xa j xc) := HW.out.bf.c 3
        have hsz2 := HW.out.sz
        have hal : (g + 1 + 1 + 1 + 1 + 1) ≤ (wr.alloc (.cells #[.int .u8 255] 5)).heap.size := by simp; omega
        go_wp2_with (at_builtin; (refine wpList_append_own _ rfl _ _ 36 rfl (g + 1 + 1 + 1 + 1 + 1) 5 i5 (.int .u8 0) 1 1 Tryz.underlying36 hi5 hz0 hz1 hz2 rfl (by decide) _ _ _ rfl (HQ.out.alloc _) ⟨wr.heap.size, 0, none⟩ 1 1 (bv [255]) rfl rfl ?c1 (bv_one _) ?c3 ?c4 hal ?_))
        case c1 => exact cell_one_new _ _ _
        case c3 => unfold maxLen; omega
        case c4 => omega
        · intro v' w2 hq2 hg2 _
          have R : w2.ownsRow (g + 1 + 1 + 1 + 1 + 1) 5 1 v' (j + 1) (bv (ffs (j + 1))) := by
            rw [ffs_snoc, bv_append]; exact hq2
          have wn2 : WN 23 42 w w2 g (g + 1 + 1 + 1 + 1 + 1) gf gd gw [.int .i64 s, .int .i64 p, .int .i64 b] [.int .i64 0, .int .i64 0, .int .i64 0, .slice none 0 0, .slice none 0 0, .slice none 0 0, .int .i64 0, .bool false, .int .i64 0, .slice none 0 0] [.int .i64 s, .int .i64 p, .int .i64 b, (.slice xa j xc), .slice (some ⟨gd, 0, none⟩) q q, .slice (some ⟨gw, 0, none⟩) s s, .int .i64 0, .bool false, .int .i64 0, .slice none 0 0] q s :=
            (HW.out.below ((grown_below (World.grownBy_alloc wr _ none)).mono hsz2)).below (below_own hg2 (HQ.out.alloc _) hal)
          obtain ⟨ya, yc, rfl, _⟩ := owns_form R
          have d3 : w2.cell? ⟨gf, 3, none⟩ = some (.slice xa j xc) := wn2.bf.c 3
          have e3 : w2.frozen? ⟨gf, 3, none⟩ = false := wn2.bf.f 3
          have HR : Hid _ := And.intro (own_farc R (show gf < _ from o.2.2.2.1) 3 (.slice ya (j + 1) yc)) (wn2.setf 3 (.slice ya (j + 1) yc))
          clear hq2 hg2 HQ HW hal hsz2 R wn2 c0 c1 c2 c3
          go_wp2
          go_roundw
          case rel => exact ⟨j + 1, _, by go_num, by omega, HR.out.1, HR.out.2⟩
          case measure => simp [intOf]; omega
      · have ej : j = m := by omega
        subst ej
        obtain ⟨gx, rfl, hgx⟩ : ∃ gx, xa = some ⟨gx, 0, none⟩ ∧ (g + 1 + 1 + 1 + 1 + 1) ≤ gx := by
          rcases k3 with ⟨_, h3, _⟩ | ⟨g', h3, h4⟩
          · omega
          · exact ⟨g', h3, h4⟩
        have RX : Row wr (some ⟨gx, 0, none⟩) j (ffs j) := by
          obtain ⟨a', c', e1, RR⟩ := owns_row HQ.out (ffs_byt _) (by unfold maxLen; omega)
          injection e1 with e1 e2 e3
          subst e1
          exact RR
        have wn := HW.out
        have wn3 := wn.store10 (.int .i64 s) (.int .i64 p) (.int .i64 b) (.slice (some ⟨gx, 0, none⟩) j xc) (.slice (some ⟨gd, 0, none⟩) q q) (.slice (some ⟨gw, 0, none⟩) s s) (.int .i64 0) (.bool false) (.int .i64 0) (.slice none 0 0)
        have RX3 := ((((((((((RX.far (show gx ≠ g + 1 by omega) 0 (.int .i64 s)).far (show gx ≠ g + 1 by omega) 1 (.int .i64 p)).far (show gx ≠ g + 1 by omega) 2 (.int .i64 b)).far (show gx ≠ g + 1 by omega) 3 (.slice (some ⟨gx, 0, none⟩) j xc)).far (show gx ≠ g + 1 by omega) 4 (.slice (some ⟨gd, 0, none⟩) q q)).far (show gx ≠ g + 1 by omega) 5 (.slice (some ⟨gw, 0, none⟩) s s)).far (show gx ≠ g + 1 by omega) 6 (.int .i64 0)).far (show gx ≠ g + 1 by omega) 7 (.bool false)).far (show gx ≠ g + 1 by omega) 8 (.int .i64 0)).far (show gx ≠ g + 1 by omega) 9 (.slice none 0 0))
        clear HQ HW k3 hlt c0 c1 c2
        have c0 : wr.cell? ⟨g, 0, none⟩ = some (.int .i64 s) := wn.b0.c 0
        have c1 : wr.cell? ⟨g, 1, none⟩ = some (.int .i64 p) := wn.b0.c 1
        have c2 : wr.cell? ⟨g, 2, none⟩ = some (.int .i64 b) := wn.b0.c 2
        obtain ⟨d0, d1, d2, d3, d4, d5, d6, d7, d8, d9⟩ := wn.bf.c10
        obtain ⟨z0, z1, z2, z3, z4, z5, z6, z7, z8, z9⟩ := wn.b1.c10
        obtain ⟨y0, y1, y2, y3, y4, y5, y6, y7, y8, y9⟩ := wn.b1.f10
        have HF : Hid _ := And.intro wn3 RX3
        have HK : Hid _ := And.intro k1 k2
        clear wn wn3 RX RX3 k1 k2
        go_wp2
        obtain ⟨wn3, RX3⟩ := HF.out
        generalize ((((((((((wr.setCell ⟨g + 1, 0, none⟩ (.int .i64 s)).setCell ⟨g + 1, 1, none⟩ (.int .i64 p)).setCell ⟨g + 1, 2, none⟩ (.int .i64 b)).setCell ⟨g + 1, 3, none⟩ (.slice (some ⟨gx, 0, none⟩) j xc)).setCell ⟨g + 1, 4, none⟩ (.slice (some ⟨gd, 0, none⟩) q q)).setCell ⟨g + 1, 5, none⟩ (.slice (some ⟨gw, 0, none⟩) s s)).setCell ⟨g + 1, 6, none⟩ (.int .i64 0)).setCell ⟨g + 1, 7, none⟩ (.bool false)).setCell ⟨g + 1, 8, none⟩ (.int .i64 0)).setCell ⟨g + 1, 9, none⟩ (.slice none 0 0)) = w3 at wn3 RX3 ⊢
        clear HF c0 c1 c2 d0 d1 d2 d3 d4 d5 d6 d7 d8 d9 z0 z1 z2 z3 z4 z5 z6 z7 z8 z9 y0 y1 y2 y3 y4 y5 y6 y7 y8 y9
        obtain ⟨z0, z1, z2, z3, z4, z5, z6, z7, z8, z9⟩ := wn3.b1.c10
        have r1 := wn3.rd
        have r2 := wn3.rw
        rw [show List.replicate q (Value.bool false) = (List.replicate q false).map Value.bool by simp] at r1
        rw [show List.replicate s (Value.int .i64 0) = (List.replicate s (0 : Int)).map (Value.int .i64) by simp] at r2
        refine bodyPost_ret (v := .agg #[.int .i64 s, .int .i64 p, .int .i64 b, .slice (some ⟨gx, 0, none⟩) j xc, .slice (some ⟨gd, 0, none⟩) q q, .slice (some ⟨gw, 0, none⟩) s s, .int .i64 0, .bool false, .int .i64 0, .slice none 0 0]) (by simp [results, Tryz.results9, go_sem, z0, z1, z2, z3, z4, z5, z6, z7, z8, z9]) rfl ?_
        exact ⟨gx, xc, gd, gw, rfl, RX3, HK.out.1, by unfold maxLen; exact HK.out.2, r1.rowE, r2.rowE, wn3.gr, by have := wn3.eg; omega, by have := wn3.eg; omega, by have := wn3.eg; omega⟩
  have HT : Hid _ := tail
  clear tail hKK
  go_region_held3 (fun w' => w'.cell? ⟨g, 0, none⟩ = some (.int .i64 s) ∧ w'.cell? ⟨g, 1, none⟩ = some (.int .i64 p) ∧ w'.cell? ⟨g, 2, none⟩ = some (.int .i64 b)) (simp (maxDischargeDepth := 12) [*, World.cell?_alloc_some, World.cell?_setCell_far]) (fail)
  all_goals
    obtain ⟨t1, t2, t3, t4, t5⟩ := three sz _ _ _
    first
    | exact HT.out _ _ _ _ (wn_of HW.out t4 t5 t1 t2 t3 hqM hsM (by omega))
    | exact HT.out _ _ _ _ (wn_of HW.out t4 t5 t1 t3 t2 hqM hsM (by omega))
    | exact HT.out _ _ _ _ (wn_of HW.out t4 t5 t2 t1 t3 hqM hsM (by omega))
    | exact HT.out _ _ _ _ (wn_of HW.out t4 t5 t2 t3 t1 hqM hsM (by omega))
    | exact HT.out _ _ _ _ (wn_of HW.out t4 t5 t3 t1 t2 hqM hsM (by omega))
    | exact HT.out _ _ _ _ (wn_of HW.out t4 t5 t3 t2 t1 hqM hsM (by omega))
end Go.Proofs.YtfhgbddeclldnaaGreat

namespace Go.Proofs.YtfhgbddeclldnaaGreat
open Go.RowKit
set_option maxRecDepth 100000
set_option linter.unusedSimpArgs false
set_option linter.unusedVariables false

/-- a flash, without memory -/
structure Fm where
  s : Nat
  p : Nat
  b : Nat
  B : List Int
  D : List Bool
  W : List Int
  ops : Int
  off : Bool
  after : Int
  T : List Int
def Fm.new (s p b : Nat) : Fm := ⟨s, p, b, ffs (s * p * b), List.replicate (s * p) false, List.replicate s 0, 0, false, 0, []⟩
def Fm.left (m : Fm) : Int := if m.after = 0 then 0 else m.after - 1
def Fm.wrE (m : Fm) (page : Int) (ys : List Int) : Int := Proofs.YtfhgbddeclldnaaGreat.wrE m.D.length m.b m.off m.D page ys.length
def Fm.erE (m : Fm) (sec : Int) : Int := Proofs.YtfhgbddeclldnaaGreat.erE m.W.length m.off sec
def Fm.page (m : Fm) (ys : List Int) : List Int := if m.after = 1 then ovr (ys ++ ffs (m.b - ys.length)) m.T else ys ++ ffs (m.b - ys.length)
def Fm.sector (m : Fm) (i : Nat) : List Int := if m.after = 1 then ovr ((m.B.drop (i * (m.p * m.b))).take (m.p * m.b)) m.T else ffs (m.p * m.b)
def Fm.written (m : Fm) (i : Nat) (ys : List Int) : Fm := { m with B := m.B.take (i * m.b) ++ m.page ys ++ m.B.drop (i * m.b + m.b), D := m.D.set i true, ops := m.ops + 1, off := decide (m.after = 1), after := m.left }
def Fm.erased (m : Fm) (i : Nat) : Fm := { m with B := m.B.take (i * (m.p * m.b)) ++ m.sector i ++ m.B.drop (i * (m.p * m.b) + m.p * m.b), D := drg m.D (i * m.p) (decide (m.after = 1)) m.p, W := m.W.set i (m.W.getD i 0 + 1), ops := m.ops + 1, off := decide (m.after = 1), after := m.left }
def Fm.torn (m : Fm) : Int := if m.after = 1 then 40 else 0
def Fm.write (m : Fm) (page : Int) (ys : List Int) : Fm × Int := if m.wrE page ys = 0 then (m.written page.toNat ys, m.torn) else (m, m.wrE page ys)
def Fm.erase (m : Fm) (sec : Int) : Fm × Int := if m.erE sec = 0 then (m.erased sec.toNat, m.torn) else (m, m.erE sec)
def Fm.arm (m : Fm) (n : Int) (ts : List Int) : Fm × Int := if arE n m.off = 0 then ({ m with after := n, T := ts }, 0) else (m, arE n m.off)
def Fm.boot (m : Fm) : Fm := { m with off := false, after := 0, T := [] }

/-- a flash on which at most k calls were made -/
structure Fm.Good (m : Fm) (k : Nat) : Prop where
  s : 0 < m.s ∧ m.s ≤ 16
  p : 0 < m.p ∧ m.p ≤ 16
  b : 0 < m.b ∧ m.b ≤ 64
  lB : m.B.length = m.s * m.p * m.b
  lD : m.D.length = m.s * m.p
  lW : m.W.length = m.s
  ops : 0 ≤ m.ops ∧ m.ops ≤ k
  after : 0 ≤ m.after ∧ m.after ≤ 9223372036854775807
  W : ∀ x ∈ m.W, 0 ≤ x ∧ x ≤ k
theorem Fm.Good.sp {m : Fm} {k : Nat} (h : m.Good k) : 0 < m.s * m.p ∧ m.s * m.p ≤ 256 := ⟨Nat.mul_pos h.s.1 h.p.1, Nat.mul_le_mul h.s.2 h.p.2⟩
theorem Fm.Good.spb {m : Fm} {k : Nat} (h : m.Good k) : 0 < m.s * m.p * m.b ∧ m.s * m.p * m.b ≤ 16384 := ⟨Nat.mul_pos h.sp.1 h.b.1, Nat.mul_le_mul h.sp.2 h.b.2⟩
theorem Fm.Good.mono {m : Fm} {k k' : Nat} (h : m.Good k) (hk : k ≤ k') : m.Good k' := ⟨h.s, h.p, h.b, h.lB, h.lD, h.lW, ⟨h.ops.1, by have := h.ops.2; omega⟩, h.after, fun x hx => ⟨(h.W x hx).1, by have := (h.W x hx).2; omega⟩⟩
theorem Fm.good_new {s p b : Nat} (hs : 0 < s ∧ s ≤ 16) (hp : 0 < p ∧ p ≤ 16) (hb : 0 < b ∧ b ≤ 64) : (Fm.new s p b).Good 0 :=
  ⟨hs, hp, hb, by simp [Fm.new, ffs], by simp [Fm.new], by simp [Fm.new], by simp [Fm.new], by simp [Fm.new], fun x hx => by rw [(List.mem_replicate.1 hx).2]; simp⟩
theorem Fm.good_boot {m : Fm} {k : Nat} (h : m.Good k) : m.boot.Good k := ⟨h.s, h.p, h.b, h.lB, h.lD, h.lW, h.ops, by simp [Fm.boot], h.W⟩
theorem Fm.good_arm {m : Fm} {k : Nat} (h : m.Good k) (n : Int) (ts : List Int) (hn : n ≤ 9223372036854775807) : (m.arm n ts).1.Good k := by
  unfold Fm.arm
  split
  · rename_i h0
    have hn1 : ¬ n < 1 := by
      intro h1
      unfold arE at h0
      rw [if_pos h1] at h0
      exact absurd h0 (by decide)
    exact ⟨h.s, h.p, h.b, h.lB, h.lD, h.lW, h.ops, ⟨by simp; omega, hn⟩, h.W⟩
  · exact h
theorem Fm.left_in {m : Fm} (h : 0 ≤ m.after ∧ m.after ≤ 9223372036854775807) : 0 ≤ m.left ∧ m.left ≤ 9223372036854775807 := by
  unfold Fm.left
  split <;> omega
theorem Fm.wr_in {m : Fm} {page : Int} {ys : List Int} (h : m.wrE page ys = 0) : ∃ i : Nat, page = i ∧ i < m.D.length ∧ ys.length ≤ m.b ∧ m.off = false ∧ m.D[i]? = some false := by
  unfold Fm.wrE Proofs.YtfhgbddeclldnaaGreat.wrE at h
  split at h
  · cases h
  · split at h
    · cases h
    · split at h
      · cases h
      · split at h
        · cases h
        · rename_i h1 h2 h3 h4
          obtain ⟨i, rfl⟩ := Int.eq_ofNat_of_zero_le (by omega : 0 ≤ page)
          refine ⟨i, rfl, by omega, by omega, by simpa using h3, ?_⟩
          have hi : i < m.D.length := by omega
          rw [List.getElem?_eq_getElem hi]
          simp [List.getD_eq_getElem?_getD, List.getElem?_eq_getElem hi] at h4
          rw [h4]
theorem Fm.er_in {m : Fm} {sec : Int} (h : m.erE sec = 0) : ∃ i : Nat, sec = i ∧ i < m.W.length ∧ m.off = false := by
  unfold Fm.erE Proofs.YtfhgbddeclldnaaGreat.erE at h
  split at h
  · cases h
  · split at h
    · cases h
    · rename_i h1 h2
      obtain ⟨i, rfl⟩ := Int.eq_ofNat_of_zero_le (by omega : 0 ≤ sec)
      exact ⟨i, rfl, by omega, by simpa using h2⟩
theorem mul_fit {i n b : Nat} (h : i < n) : i * b + b ≤ n * b := by
  have := Nat.mul_le_mul_right b (show i + 1 ≤ n from h)
  rwa [Nat.add_mul, Nat.one_mul] at this
theorem Fm.page_len {m : Fm} {ys : List Int} (h : ys.length ≤ m.b) : (m.page ys).length = m.b := by
  unfold Fm.page
  split
  · rw [ovr_len]; simp [ffs]; omega
  · simp [ffs]; omega
theorem Fm.good_write {m : Fm} {k : Nat} (h : m.Good k) (page : Int) (ys : List Int) : (m.write page ys).1.Good (k + 1) := by
  unfold Fm.write
  split
  · rename_i h0
    obtain ⟨i, rfl, hi, hy, ho, hd⟩ := Fm.wr_in h0
    have hf := mul_fit (b := m.b) (h.lD ▸ hi)
    have hB := h.lB
    refine ⟨h.s, h.p, h.b, ?_, by simp [Fm.written]; exact h.lD, h.lW, ?_, Fm.left_in h.after, fun x hx => ⟨(h.W x hx).1, by have := (h.W x hx).2; omega⟩⟩
    · simp only [Fm.written, Int.toNat_natCast, List.length_append, List.length_take, List.length_drop, Fm.page_len hy]
      omega
    · have := h.ops
      simp only [Fm.written]
      omega
  · exact h.mono (by omega)
theorem Fm.sector_len {m : Fm} {i : Nat} (h : i * (m.p * m.b) + m.p * m.b ≤ m.B.length) : (m.sector i).length = m.p * m.b := by
  unfold Fm.sector
  split
  · rw [ovr_len]; simp; omega
  · simp [ffs]
theorem Fm.good_erase {m : Fm} {k : Nat} (h : m.Good k) (sec : Int) : (m.erase sec).1.Good (k + 1) := by
  unfold Fm.erase
  split
  · rename_i h0
    obtain ⟨i, rfl, hi, ho⟩ := Fm.er_in h0
    have hf := mul_fit (b := m.p * m.b) (h.lW ▸ hi)
    have hfD := mul_fit (b := m.p) (h.lW ▸ hi)
    have hB := h.lB
    rw [Nat.mul_assoc] at hB
    rw [← hB] at hf
    have hD := h.lD
    rw [← hD] at hfD
    have hWi : m.W.getD i 0 ∈ m.W := by
      rw [List.getD_eq_getElem?_getD, List.getElem?_eq_getElem hi]; simp
    refine ⟨h.s, h.p, h.b, ?_, ?_, by simp [Fm.erased]; exact h.lW, ?_, Fm.left_in h.after, ?_⟩
    · simp only [Fm.erased, Int.toNat_natCast, List.length_append, List.length_take, List.length_drop, Fm.sector_len hf]
      rw [Nat.mul_assoc]
      omega
    · simp only [Fm.erased, Int.toNat_natCast]
      rw [drg_len _ hfD]
      exact hD
    · have := h.ops
      simp only [Fm.erased]
      omega
    · intro x hx
      simp only [Fm.erased, Int.toNat_natCast] at hx
      rcases List.mem_or_eq_of_mem_set hx with h1 | h1
      · exact ⟨(h.W x h1).1, by have := (h.W x h1).2; omega⟩
      · have := h.W _ hWi
        subst h1
        omega
  · exact h.mono (by omega)
end Go.Proofs.YtfhgbddeclldnaaGreat

namespace Go.Proofs.YtfhgbddeclldnaaGreat
open Go.RowKit
set_option maxRecDepth 100000
set_option linter.unusedSimpArgs false
set_option linter.unusedVariables false

theorem splice_out {α : Type} (B X : List α) (a n j : Nat) (hX : X.length = n) (hfit : a + n ≤ B.length) (hj : j < a ∨ a + n ≤ j) : (B.take a ++ X ++ B.drop (a + n))[j]? = B[j]? := by
  rcases hj with h | h
  · rw [List.append_assoc, List.getElem?_append_left (by simp; omega), List.getElem?_take, if_pos h]
  · rw [List.getElem?_append_right (by simp; omega), List.getElem?_drop]
    congr 1
    simp
    omega
theorem splice_in {α : Type} (B X : List α) (a n j : Nat) (hX : X.length = n) (hfit : a + n ≤ B.length) (h1 : a ≤ j) (h2 : j < a + n) : (B.take a ++ X ++ B.drop (a + n))[j]? = X[j - a]? := by
  rw [List.getElem?_append_left (by simp; omega), List.getElem?_append_right (by simp; omega)]
  congr 1
  simp
  omega
/-- a write, torn or not, changes no byte of another page -/
theorem Fm.write_keeps {m : Fm} {k : Nat} (h : m.Good k) {i : Nat} {ys : List Int} (hi : i < m.D.length) (hy : ys.length ≤ m.b) (j : Nat) (hj : j < i * m.b ∨ i * m.b + m.b ≤ j) : (m.written i ys).B[j]? = m.B[j]? := by
  have hf := mul_fit (b := m.b) (h.lD ▸ hi)
  exact splice_out _ _ _ _ _ (Fm.page_len hy) (by rw [h.lB]; exact hf) hj
/-- an erasure, torn or not, changes no byte of another sector -/
theorem Fm.erase_keeps {m : Fm} {k : Nat} (h : m.Good k) {i : Nat} (hi : i < m.W.length) (j : Nat) (hj : j < i * (m.p * m.b) ∨ i * (m.p * m.b) + m.p * m.b ≤ j) : (m.erased i).B[j]? = m.B[j]? := by
  have hf := mul_fit (b := m.p * m.b) (h.lW ▸ hi)
  rw [← Nat.mul_assoc m.s, ← h.lB] at hf
  exact splice_out _ _ _ _ _ (Fm.sector_len hf) hf hj
theorem ffs_get {n j : Nat} (h : j < n) : (ffs n)[j]? = some 255 := by unfold ffs; rw [List.getElem?_replicate, if_pos h]
/-- what was written to a new flash is read, and ff all around it -/
theorem Fm.reads_new {s p b : Nat} (hs : 0 < s ∧ s ≤ 16) (hp : 0 < p ∧ p ≤ 16) (hb : 0 < b ∧ b ≤ 64) {i : Nat} {ys : List Int} (hi : i < s * p) (hy : ys.length ≤ b) (j : Nat) (hj : j < s * p * b) : ((Fm.new s p b).written i ys).B[j]? = some (if i * b ≤ j ∧ j - i * b < ys.length then ys.getD (j - i * b) 0 else 255) := by
  have hg := Fm.good_new hs hp hb
  have hD : (Fm.new s p b).D.length = s * p := hg.lD
  by_cases h : j < i * b ∨ i * b + b ≤ j
  · rw [Fm.write_keeps hg (by rw [hD]; exact hi) hy j h, if_neg (by omega)]
    exact ffs_get hj
  · have hf := mul_fit (b := b) hi
    have e : ((Fm.new s p b).written i ys).B[j]? = ((Fm.new s p b).page ys)[j - i * b]? := splice_in _ _ (i * b) b j (Fm.page_len hy) (by rw [hg.lB]; exact hf) (by omega) (by omega)
    rw [e]
    have ep : (Fm.new s p b).page ys = ys ++ ffs (b - ys.length) := by simp [Fm.page, Fm.new]
    rw [ep]
    by_cases h2 : j - i * b < ys.length
    · rw [if_pos ⟨by omega, h2⟩, List.getElem?_append_left h2, List.getD_eq_getElem?_getD, List.getElem?_eq_getElem h2]; rfl
    · rw [if_neg (by omega), List.getElem?_append_right (by omega), ffs_get (by omega)]
end Go.Proofs.YtfhgbddeclldnaaGreat

namespace Go.Proofs.YtfhgbddeclldnaaGreat.Pa
open Go.RowKit
set_option maxRecDepth 100000
set_option linter.unusedSimpArgs false
set_option linter.unusedVariables false

/-- which geometries may be: the error's number -/
def chk (s p b : Int) : Int := if s < 1 ∨ 4096 < s ∨ p < 1 ∨ 1024 < p ∨ b < 16 ∨ 65536 < b then 1 else if 16777216 < s * p * b then 2 else 0
def geoV (s p b : Int) : Value := .agg #[.int .i64 s, .int .i64 p, .int .i64 b]
theorem prod_in {s p b : Int} (s1 : 1 ≤ s) (s2 : s ≤ 4096) (p1 : 1 ≤ p) (p2 : p ≤ 1024) (b1 : 16 ≤ b) (b2 : b ≤ 65536) : IntKind.i64.wrap (s * p) = s * p ∧ IntKind.i64.wrap (s * p * b) = s * p * b ∧ 1 ≤ s * p := by
  have e1 : s * p ≤ 4096 * 1024 := Int.mul_le_mul s2 p2 (by omega) (by omega)
  have e0 : 1 * 1 ≤ s * p := Int.mul_le_mul s1 p1 (by omega) (by omega)
  have e2 : s * p * b ≤ 4096 * 1024 * 65536 := Int.mul_le_mul e1 b2 (by omega) (by omega)
  have e3 : 1 * 1 ≤ s * p * b := Int.mul_le_mul (by omega) (by omega) (by omega) (by omega)
  refine ⟨?_, ?_, by omega⟩
  · rw [IntKind.wrap_i64]; omega
  · rw [IntKind.wrap_i64]; omega
theorem check_any (s p b : Int) (w : World) (hs : -9223372036854775808 ≤ s ∧ s ≤ 9223372036854775807) (hp : -9223372036854775808 ≤ p ∧ p ≤ 9223372036854775807) (hb : -9223372036854775808 ≤ b ∧ b ≤ 9223372036854775807) :
    Calls Tryz.prog 5 #[.agg #[.int .i64 s, .int .i64 p, .int .i64 b]] w fun e w' => e = .returned (.int .i64 (chk s p b)) ∧ w' = w.alloc (.cells #[.int .i64 s, .int .i64 p, .int .i64 b] 23) := by
  unfold chk
  by_cases h1 : s < 1
  · rw [if_pos (Or.inl h1)]
    go_enter Tryz.func5, Tryz.ntmps5
    go_wp2
    go_ret
    exact ⟨rfl, rfl⟩
  · skip
    by_cases h2 : 4096 < s
    · rw [if_pos (Or.inr (Or.inl h2))]
      go_enter Tryz.func5, Tryz.ntmps5
      go_wp2
      go_ret
      exact ⟨rfl, rfl⟩
    · skip
      by_cases h3 : p < 1
      · rw [if_pos (Or.inr (Or.inr (Or.inl h3)))]
        go_enter Tryz.func5, Tryz.ntmps5
        go_wp2
        go_ret
        exact ⟨rfl, rfl⟩
      · skip
        by_cases h4 : 1024 < p
        · rw [if_pos (Or.inr (Or.inr (Or.inr (Or.inl h4))))]
          go_enter Tryz.func5, Tryz.ntmps5
          go_wp2
          go_ret
          exact ⟨rfl, rfl⟩
        · skip
          by_cases h5 : b < 16
          · rw [if_pos (Or.inr (Or.inr (Or.inr (Or.inr (Or.inl h5)))))]
            go_enter Tryz.func5, Tryz.ntmps5
            go_wp2
            go_ret
            exact ⟨rfl, rfl⟩
          · skip
            by_cases h6 : 65536 < b
            · rw [if_pos (Or.inr (Or.inr (Or.inr (Or.inr (Or.inr (h6))))))]
              go_enter Tryz.func5, Tryz.ntmps5
              go_wp2
              go_ret
              exact ⟨rfl, rfl⟩
            · skip
              rw [if_neg (by omega)]
              obtain ⟨q1, q2, q3⟩ := prod_in (s := s) (p := p) (b := b) (by omega) (by omega) (by omega) (by omega) (by omega) (by omega)
              by_cases h7 : 16777216 < s * p * b
              · rw [if_pos h7]
                go_enter Tryz.func5, Tryz.ntmps5
                go_wp2
                go_ret
                exact ⟨rfl, rfl⟩
              · rw [if_neg h7]
                go_enter Tryz.func5, Tryz.ntmps5
                go_wp2
                go_ret
                exact ⟨rfl, rfl⟩
end Go.Proofs.YtfhgbddeclldnaaGreat.Pa

namespace Go.Proofs.YtfhgbddeclldnaaGreat.Pa
open Go.RowKit
set_option maxRecDepth 100000
set_option linter.unusedSimpArgs false
set_option linter.unusedVariables false

/-- how many sectors a slot has -/
def slots (s p b : Int) : Int := max 1 (min ((s - 2) / 2) (8388608 / (p * b)))
/-- a plan: geometry, boot records, slots, a slot's sectors -/
structure Pl where
  s : Int
  p : Int
  b : Int
  x0 : Int
  x1 : Int
  y0 : Int
  y1 : Int
  n : Int
def Pl.cells (P : Pl) : List Value := [.int .i64 P.s, .int .i64 P.p, .int .i64 P.b, .int .i64 P.x0, .int .i64 P.x1, .int .i64 P.y0, .int .i64 P.y1, .int .i64 P.n]
def Pl.val (P : Pl) : Value := .agg #[.int .i64 P.s, .int .i64 P.p, .int .i64 P.b, .int .i64 P.x0, .int .i64 P.x1, .int .i64 P.y0, .int .i64 P.y1, .int .i64 P.n]
/-- are two plans the same? -/
def Pl.same (P Q : Pl) : Bool := decide (P.s = Q.s ∧ P.p = Q.p ∧ P.b = Q.b ∧ P.x0 = Q.x0 ∧ P.x1 = Q.x1 ∧ P.y0 = Q.y0 ∧ P.y1 = Q.y1 ∧ P.n = Q.n)
theorem Pl.same_iff {P Q : Pl} : P.same Q = true ↔ P = Q := by
  unfold Pl.same
  rw [decide_eq_true_iff]
  constructor
  · rintro ⟨h1, h2, h3, h4, h5, h6, h7, h8⟩
    cases P; cases Q
    simp only at h1 h2 h3 h4 h5 h6 h7 h8
    subst h1 h2 h3 h4 h5 h6 h7 h8
    rfl
  · rintro rfl; simp
theorem Pl.same_self (P : Pl) : P.same P = true := Pl.same_iff.2 rfl
def pl0 : Pl := ⟨0, 0, 0, 0, 0, 0, 0, 0⟩
/-- Make, as a plain function -/
def mk (s p b : Int) : Pl × Int := if chk s p b ≠ 0 then (pl0, chk s p b) else if s < 4 ∨ b < 64 then (pl0, 1) else (⟨s, p, b, 0, 1, 2, 2 + slots s p b, slots s p b⟩, 0)

theorem chk_zero {s p b : Int} (h : chk s p b = 0) : 1 ≤ s ∧ s ≤ 4096 ∧ 1 ≤ p ∧ p ≤ 1024 ∧ 16 ≤ b ∧ b ≤ 65536 ∧ s * p * b ≤ 16777216 := by
  unfold chk at h
  split at h
  · simp at h
  · split at h
    · simp at h
    · omega
theorem slots_is {s p b n : Int} (hp : 1 ≤ p) (hb : 1 ≤ b) (h1 : 1 ≤ n) (h2 : 2 + 2 * n ≤ s) (h3 : n = 1 ∨ n * p * b ≤ 8388608) (h4 : ¬ (2 + 2 * (n + 1) ≤ s ∧ (n + 1) * p * b ≤ 8388608)) : slots s p b = n := by
  have hq : 0 < p * b := Int.mul_pos (by omega) (by omega)
  have k1 : n ≤ 8388608 / (p * b) ↔ n * (p * b) ≤ 8388608 := Int.le_ediv_iff_mul_le hq
  have k2 : n + 1 ≤ 8388608 / (p * b) ↔ (n + 1) * (p * b) ≤ 8388608 := Int.le_ediv_iff_mul_le hq
  rw [Int.mul_assoc] at h3 h4
  unfold slots
  generalize 8388608 / (p * b) = D at *
  generalize n * (p * b) = x at *
  generalize (n + 1) * (p * b) = y at *
  rw [Int.max_def, Int.min_def]
  split <;> split <;> omega

set_option maxHeartbeats 2000000 in
theorem make_any (s p b : Int) (w : World) (hs : -9223372036854775808 ≤ s ∧ s ≤ 9223372036854775807) (hp : -9223372036854775808 ≤ p ∧ p ≤ 9223372036854775807) (hb : -9223372036854775808 ≤ b ∧ b ≤ 9223372036854775807) :
    Calls Tryz.prog 12 #[.agg #[.int .i64 s, .int .i64 p, .int .i64 b]] w fun e w' => e = .returned (.tuple #[(mk s p b).1.val, .int .i64 (mk s p b).2]) ∧ w.grownBy w' none := by
  have hc := fun W => check_any s p b W hs hp hb
  by_cases h0 : chk s p b = 0
  · have hg := chk_zero h0
    rw [h0] at hc
    by_cases h1 : s < 4 ∨ b < 64
    · have e : mk s p b = (pl0, 1) := by unfold mk; rw [if_neg (by simp [h0]), if_pos h1]
      rw [e]
      rcases h1 with h1 | h1
      all_goals
        go_enter Tryz.func12, Tryz.ntmps12
        go_wp2_with fail
        refine (hc _).mono ?_
        rintro e w1 ⟨rfl, rfl⟩
        simp only
        go_wp2
        all_goals
          go_returns
          exact ⟨rfl, grown_trans (grown_trans (World.grownBy_alloc _ _ _) (World.grownBy_alloc _ _ _)) (World.grownBy_alloc _ _ _)⟩
    · have e : mk s p b = (⟨s, p, b, 0, 1, 2, 2 + slots s p b, slots s p b⟩, 0) := by unfold mk; rw [if_neg (by simp [h0]), if_neg h1]
      rw [e]
      generalize hsl : slots s p b = N
      have HN : Hid _ := hsl
      clear hsl e
      have d1 : decide (s < 4) = false := decide_eq_false (by omega)
      have d2 : decide (b < 64) = false := decide_eq_false (by omega)
      go_enter Tryz.func12, Tryz.ntmps12
      go_wp2_with fail
      refine (hc _).mono ?_
      rintro e w1 ⟨rfl, rfl⟩
      simp only
      go_wp2_with fail
      try simp only [d1, d2, Bool.or_self]
      clear d1 d2 hc
      have HG : Hid (w.grownBy (((w.alloc (.cells #[.int .i64 s, .int .i64 p, .int .i64 b] 23)).alloc (.cells #[.int .i64 0, .int .i64 0, .int .i64 0, .int .i64 0, .int .i64 0, .int .i64 0, .int .i64 0, .int .i64 0] 26)).alloc (.cells #[.int .i64 s, .int .i64 p, .int .i64 b] 23)) none) := grown_trans (grown_trans (World.grownBy_alloc _ _ _) (World.grownBy_alloc _ _ _)) (World.grownBy_alloc _ _ _)
      have hg4 : 4 ≤ s ∧ s ≤ 4096 := by omega
      have hgp : 1 ≤ p ∧ p ≤ 1024 := by omega
      have hgb : 64 ≤ b ∧ b ≤ 65536 := by omega
      clear hg h1 h0
      go_loopw [5] (fun vn wr => wr = ((w.alloc (.cells #[.int .i64 s, .int .i64 p, .int .i64 b] 23)).alloc (.cells #[.int .i64 0, .int .i64 0, .int .i64 0, .int .i64 0, .int .i64 0, .int .i64 0, .int .i64 0, .int .i64 0] 26)).alloc (.cells #[.int .i64 s, .int .i64 p, .int .i64 b] 23) ∧ ∃ n : Int, vn = .int .i64 n ∧ 1 ≤ n ∧ 2 + 2 * n ≤ s ∧ Hid (n = 1 ∨ n * p * b ≤ 8388608)) (fun vn _ => (4096 - intOf vn).toNat)
      case atStart => exact ⟨rfl, 1, rfl, by omega, by omega, Or.inl rfl⟩
      case round =>
        obtain ⟨rfl, n, rfl, hn1, hn2, HO⟩ := hrel
        obtain ⟨w1, w2, w3⟩ := prod_in (s := n + 1) (p := p) (b := b) (by omega) (by omega) hgp.1 hgp.2 (by omega) hgb.2
        by_cases k1 : 2 + 2 * (n + 1) ≤ s
        · by_cases k2 : (n + 1) * p * b ≤ 8388608
          · have HO2 : Hid (n + 1 = 1 ∨ (n + 1) * p * b ≤ 8388608) := Or.inr k2
            go_wp2
            go_roundw
            case rel => exact ⟨by trivial, n + 1, by go_num, by omega, by omega, HO2⟩
            case measure => simp [intOf]; omega
          · have he := slots_is hgp.1 (by omega) hn1 hn2 HO.out (fun k => k2 k.2)
            rw [HN.out] at he
            subst he
            go_wp2
            go_returns
            exact ⟨rfl, grown_trans (grown_trans (grown_trans (World.grownBy_alloc _ _ _) (World.grownBy_alloc _ _ _)) (World.grownBy_alloc _ _ _)) (World.grownBy_alloc _ _ _)⟩
        · have he := slots_is (s := s) hgp.1 (by omega) hn1 hn2 HO.out (fun k => k1 k.1)
          rw [HN.out] at he
          subst he
          go_wp2
          go_returns
          exact ⟨rfl, grown_trans (grown_trans (grown_trans (World.grownBy_alloc _ _ _) (World.grownBy_alloc _ _ _)) (World.grownBy_alloc _ _ _)) (World.grownBy_alloc _ _ _)⟩
  · have e : mk s p b = (pl0, chk s p b) := by unfold mk; rw [if_pos h0]
    rw [e]
    generalize chk s p b = E at *
    have h0' : (E == 0) = false := by simp [h0]
    go_enter Tryz.func12, Tryz.ntmps12
    go_wp2_with fail
    refine (hc _).mono ?_
    rintro e w1 ⟨rfl, rfl⟩
    simp only
    go_wp2
    go_returns
    exact ⟨rfl, grown_trans (grown_trans (World.grownBy_alloc _ _ _) (World.grownBy_alloc _ _ _)) (World.grownBy_alloc _ _ _)⟩
end Go.Proofs.YtfhgbddeclldnaaGreat.Pa
