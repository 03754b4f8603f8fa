/- The document's Arm. The document's Arm where nothing is torn. -/
import Derived.Deep.RegionHeld3
import Derived.Deep.AppendLies
import Derived.Deep.RegionLaw
import Derived.Test.YtfhgbddeclldnaaGreatQ03
namespace Go.Proofs.YtfhgbddeclldnaaGreat
open Go.RowKit
set_option maxRecDepth 100000
set_option linter.unusedSimpArgs false
set_option linter.unusedVariables false

/-- behind the three variables' making -/
structure WA (T C : TypeId) (w W : World) (g : Nat) (cs es ds : List Value) : Prop where
  gr : w.grownBy W none
  b0 : Box W g T cs
  b1 : Box W (g + 1) C es
  b2 : Box W (g + 1 + 1) T ds
  sz : g + 1 + 1 + 1 ≤ W.heap.size
  eg : w.heap.size = g
theorem wa_made (T C : TypeId) (w : World) (cs es ds : List Value) : WA T C w (((w.alloc (.cells cs.toArray T)).alloc (.cells es.toArray C)).alloc (.cells ds.toArray T)) w.heap.size cs es ds := by
  refine ⟨grown_trans (grown2 _ _ _) (World.grownBy_alloc _ _ _), ((Box.new w T cs).grown (World.grownBy_alloc _ _ _)).grown (World.grownBy_alloc _ _ _), ?_, ?_, by simp, rfl⟩
  · have h0 := Box.new (w.alloc (.cells cs.toArray T)) C es
    rw [show (w.alloc (.cells cs.toArray T)).heap.size = w.heap.size + 1 by simp] at h0
    exact h0.grown (World.grownBy_alloc _ _ _)
  · have h0 := Box.new ((w.alloc (.cells cs.toArray T)).alloc (.cells es.toArray C)) T ds
    rw [show ((w.alloc (.cells cs.toArray T)).alloc (.cells es.toArray C)).heap.size = w.heap.size + 1 + 1 by simp] at h0
    exact h0
theorem wa_size (T C : TypeId) (w : World) (cs es ds : List Value) : (((w.alloc (.cells cs.toArray T)).alloc (.cells es.toArray C)).alloc (.cells ds.toArray T)).heap.size = w.heap.size + 1 + 1 + 1 := by simp
theorem WA.below {T C : TypeId} {w W W' : World} {g : Nat} {cs es ds : List Value} (h : WA T C w W g cs es ds) (hb : Below (g + 1 + 1 + 1) W W') : WA T C w W' g cs es ds := by
  have hg := h.gr; have he := h.eg
  refine ⟨⟨hb.os.trans hg.os, hb.tape.trans hg.tape, hb.output.trans hg.output, Nat.le_trans hg.size hb.size, fun k hk hr => ?_⟩, h.b0.below hb (by omega), h.b1.below hb (by omega), h.b2.below hb (by omega), Nat.le_trans h.sz hb.size, he⟩
  rw [hb.block k (by omega)]; exact hg.block k hk hr
theorem WA.set0 {T C : TypeId} {w W : World} {g : Nat} {cs es ds : List Value} (h : WA T C w W g cs es ds) (i : Nat) (v : Value) : WA T C w (W.setCell ⟨g, i, none⟩ v) g (cs.set i v) es ds := by
  have hg := h.gr; have he := h.eg
  refine ⟨⟨hg.os, hg.tape, hg.output, by simpa [World.setCell] using hg.size, fun k hk hr => ?_⟩, h.b0.set i v, h.b1.far i v (by omega), h.b2.far i v (by omega), by simpa [World.setCell] using h.sz, he⟩
  rw [← hg.block k hk hr]
  have hne : k ≠ g := by omega
  exact Below.heap_setCell _ _ _ _ hne
theorem WA.set2 {T C : TypeId} {w W : World} {g : Nat} {cs es ds : List Value} (h : WA T C w W g cs es ds) (i : Nat) (v : Value) : WA T C w (W.setCell ⟨g + 1 + 1, i, none⟩ v) g cs es (ds.set i v) := by
  have hg := h.gr; have he := h.eg
  refine ⟨⟨hg.os, hg.tape, hg.output, by simpa [World.setCell] using hg.size, fun k hk hr => ?_⟩, h.b0.far i v (by omega), h.b1.far i v (by omega), h.b2.set i v, by simpa [World.setCell] using h.sz, he⟩
  rw [← hg.block k hk hr]
  have hne : k ≠ g + 1 + 1 := by omega
  exact Below.heap_setCell _ _ _ _ hne
theorem WA.store10 {T C : TypeId} {w W : World} {g : Nat} {cs es : List Value} {x0 x1 x2 x3 x4 x5 x6 x7 x8 x9 : Value} (h : WA T C w W g cs es [x0, x1, x2, x3, x4, x5, x6, x7, x8, x9]) (y0 y1 y2 y3 y4 y5 y6 y7 y8 y9 : Value) : WA T C w ((((((((((W.setCell ⟨g + 1 + 1, 0, none⟩ y0).setCell ⟨g + 1 + 1, 1, none⟩ y1).setCell ⟨g + 1 + 1, 2, none⟩ y2).setCell ⟨g + 1 + 1, 3, none⟩ y3).setCell ⟨g + 1 + 1, 4, none⟩ y4).setCell ⟨g + 1 + 1, 5, none⟩ y5).setCell ⟨g + 1 + 1, 6, none⟩ y6).setCell ⟨g + 1 + 1, 7, none⟩ y7).setCell ⟨g + 1 + 1, 8, none⟩ y8).setCell ⟨g + 1 + 1, 9, none⟩ y9) g cs es [y0, y1, y2, y3, y4, y5, y6, y7, y8, y9] := ((((((((((h.set2 0 y0).set2 1 y1).set2 2 y2).set2 3 y3).set2 4 y4).set2 5 y5).set2 6 y6).set2 7 y7).set2 8 y8).set2 9 y9)
/-- what the document's Arm answers where it arms -/
def RaPost (w : World) (s p b : Int) (aB : Option Addr) (lB cB : Nat) (aD : Option Addr) (lD cD : Nat) (aW : Option Addr) (lW cW : Nat) (ops n : Int) (l2 : Nat) (ts : List Int) (e : Ending) (w' : World) : Prop :=
  ∃ tb cT, e = .returned (.tuple #[.agg #[.int .i64 s, .int .i64 p, .int .i64 b, .slice aB lB cB, .slice aD lD cD, .slice aW lW cW, .int .i64 ops, .bool false, .int .i64 n, .slice (some ⟨tb, 0, none⟩) l2 cT], .int .i64 0]) ∧ Row w' (some ⟨tb, 0, none⟩) l2 ts ∧ l2 ≤ cT ∧ cT ≤ maxLen ∧ w.grownBy w' none ∧ w.heap.size ≤ tb
theorem arm_below {W w1 : World} {g : Nat} (hs : W.heap.size = g + 1 + 1 + 1) (hg : (W.alloc (.cells #[] 5)).drew.grownBy w1 (Value.slice (some ⟨g + 1 + 1 + 1, 0, none⟩) 0 0).ownBlock) : Below (g + 1 + 1 + 1) W w1 := by
  have hm : (W.alloc (.cells #[] 5)).drew.ownsRow W.heap.size 5 1 (.slice (some ⟨W.heap.size, 0, none⟩) 0 0) 0 [] := made8 W
  rw [hs] at hm
  have h1 : Below (g + 1 + 1 + 1) W (W.alloc (.cells #[] 5)).drew := by
    have := (grown_below (World.grownBy_alloc W (.cells #[] 5) none))
    rw [hs] at this
    exact ⟨this.os, this.tape, this.output, this.size, this.block⟩
  exact h1.trans (below_own hg hm (by simp; omega))
set_option maxHeartbeats 2000000 in
theorem rarm_ok (s p b ops after : Int) (aB aD aW aT : Option Addr) (lB cB lD cD lW cW lT cT : Nat) (n : Int) (tb tof l2 c2 : Nat) (ts : List Int) (w : World) (R2 : Row w (some ⟨tb, tof, none⟩) l2 ts) (hn : ¬ n < 1) (hl0 : 0 < l2) (hl : l2 ≤ 140737488355328) :
    Calls Tryz.prog 24 #[.agg #[.int .i64 s, .int .i64 p, .int .i64 b, .slice aB lB cB, .slice aD lD cD, .slice aW lW cW, .int .i64 ops, .bool false, .int .i64 after, .slice aT lT cT], .agg #[.int .i64 n, .slice (some ⟨tb, tof, none⟩) l2 c2]] w
      fun e w' => RaPost w s p b aB lB cB aD lD cD aW lW cW ops n l2 ts e w' := by
  obtain ⟨i5, hi5, hz0, hz1, hz2⟩ := info_parts Tryz.info5
  have wa := wa_made 42 40 w [.int .i64 s, .int .i64 p, .int .i64 b, .slice aB lB cB, .slice aD lD cD, .slice aW lW cW, .int .i64 ops, .bool false, .int .i64 after, .slice aT lT cT] [.int .i64 n, .slice (some ⟨tb, tof, none⟩) l2 c2] [.int .i64 0, .int .i64 0, .int .i64 0, .slice none 0 0, .slice none 0 0, .slice none 0 0, .int .i64 0, .bool false, .int .i64 0, .slice none 0 0]
  have hsz := wa_size 42 40 w [.int .i64 s, .int .i64 p, .int .i64 b, .slice aB lB cB, .slice aD lD cD, .slice aW lW cW, .int .i64 ops, .bool false, .int .i64 after, .slice aT lT cT] [.int .i64 n, .slice (some ⟨tb, tof, none⟩) l2 c2] [.int .i64 0, .int .i64 0, .int .i64 0, .slice none 0 0, .slice none 0 0, .slice none 0 0, .int .i64 0, .bool false, .int .i64 0, .slice none 0 0]
  have HA : Hid _ := And.intro wa hsz
  clear wa hsz
  go_enter Tryz.func24, Tryz.ntmps24
  go_wp2_with fail
  obtain ⟨wa, sz⟩ := HA.out
  generalize (((w.alloc (Obj.cells #[.int .i64 s, .int .i64 p, .int .i64 b, .slice aB lB cB, .slice aD lD cD, .slice aW lW cW, .int .i64 ops, .bool false, .int .i64 after, .slice aT lT cT] 42)).alloc (Obj.cells #[.int .i64 n, .slice (some ⟨tb, tof, none⟩) l2 c2] 40)).alloc (Obj.cells #[.int .i64 0, .int .i64 0, .int .i64 0, .slice none 0 0, .slice none 0 0, .slice none 0 0, .int .i64 0, .bool false, .int .i64 0, .slice none 0 0] 42)) = W at wa sz ⊢
  clear HA
  generalize hgg : w.heap.size = g at wa sz ⊢
  have e0 : W.cell? ⟨g + 1, 0, none⟩ = some (.int .i64 n) := wa.b1.c 0
  have e1 : W.cell? ⟨g + 1, 1, none⟩ = some (.slice (some ⟨tb, tof, none⟩) l2 c2) := wa.b1.c 1
  obtain ⟨c0, c1, c2', c3, c4, c5, c6, c7, c8, c9⟩ := wa.b0.c10
  obtain ⟨f0, f1, f2, f3, f4, f5, f6, f7, f8, f9⟩ := wa.b0.f10
  have RT := (R2.grown wa.gr).grown (World.grownBy_alloc W (.cells #[] 5) none)
  have RTd : Row (W.alloc (.cells #[] 5)).drew (some ⟨tb, tof, none⟩) l2 ts := RT.grown ⟨rfl, rfl, rfl, Nat.le_refl _, fun _ _ _ => rfl⟩
  have hmd : (W.alloc (.cells #[] 5)).drew.ownsRow W.heap.size 5 1 (.slice (some ⟨W.heap.size, 0, none⟩) 0 0) 0 [] := made8 W
  rw [sz] at hmd
  obtain ⟨ad, ead, hsrc⟩ := RTd.src (by rw [bv_length, RTd.len_eq]; exact hl0)
  injection ead with ead
  subst ead
  have hlt := RTd.len_eq
  have lt1 : g + 1 < W.heap.size := by omega
  have HWA : Hid _ := wa
  have HM : Hid _ := And.intro hmd hsrc
  have HRT : Hid _ := RTd
  clear wa RT RTd hmd hsrc R2
  go_region_held3 (fun w' => w'.cell? ⟨g + 1, 0, none⟩ = some (.int .i64 n) ∧ w'.cell? ⟨g + 1, 1, none⟩ = some (.slice (some ⟨tb, tof, none⟩) l2 c2)) (go_keep)
    ((refine step_append_lies _ (by rfl) _ _ _ (by rfl) (g + 1 + 1 + 1) 5 i5 _ 1 1 Tryz.underlying36 hi5 hz0 hz1 hz2 rfl (by omega) _ 0 [] (by rfl) HM.out.1 ⟨tb, tof, none⟩ l2 c2 (bv ts) (by rfl) (by rw [bv_length]; omega) HM.out.2 (bv_one _) hl0 (by unfold maxLen; omega) (by omega) (by simp; omega) (g + 1 + 1 + 1 + 1) (by simp; omega) ?_; intro gg cap w1 hown1 hgrow hat hltg; have BW := arm_below sz hgrow; have q0 := (HWA.out.b1.below BW (by omega)).c 0; have q1 := (HWA.out.b1.below BW (by omega)).c 1; have q8 := (HWA.out.b0.below BW (by omega)).c 8; have q9 := (HWA.out.b0.below BW (by omega)).c 9; have r8 := (HWA.out.b0.below BW (by omega)).f 8; have r9 := (HWA.out.b0.below BW (by omega)).f 9))
  have wa1 := HWA.out.below BW
  have hbyt := HRT.out.byt
  rw [Nat.zero_add, List.nil_append] at hown1
  obtain ⟨a', cap', ev, nc, cm, hcase⟩ := owns_form hown1
  injection ev with ev1 ev2 ev3
  subst ev3
  have hgge : g + 1 + 1 + 1 ≤ gg := by
    rcases hcase with ⟨h1, _⟩ | ⟨g', h1, h2⟩
    · rw [h1] at ev1; cases ev1
    · rw [h1] at ev1; injection ev1 with ev1; injection ev1 with ev1; omega
  have RN : Row w1 (some ⟨gg, 0, none⟩) l2 ts := by
    obtain ⟨a3, c3, e3, r3⟩ := owns_row hown1 hbyt (by unfold maxLen; omega)
    injection e3 with e31 e32 e33
    rw [← e31] at r3
    exact r3
  have RN2 := (RN.far (show gg ≠ g by omega) 8 (.int .i64 n)).far (show gg ≠ g by omega) 9 (.slice (some ⟨gg, 0, none⟩) l2 cap)
  have wa2 := (wa1.set0 8 (.int .i64 n)).set0 9 (.slice (some ⟨gg, 0, none⟩) l2 cap)
  clear e0 e1 c0 c1 c2' c3 c4 c5 c6 c7 c8 c9 f0 f1 f2 f3 f4 f5 f6 f7 f8 f9 HWA HM HRT q0 q1 q8 q9 r8 r9 BW wa1 RN hgrow hat hown1 hltg hcase ev1 sz lt1
  generalize ((w1.setCell ⟨g, 8, none⟩ (.int .i64 n)).setCell ⟨g, 9, none⟩ (.slice (some ⟨gg, 0, none⟩) l2 cap)) = w2 at *
  have wa3 := wa2.store10 (.int .i64 s) (.int .i64 p) (.int .i64 b) (.slice aB lB cB) (.slice aD lD cD) (.slice aW lW cW) (.int .i64 ops) (.bool false) (.int .i64 n) (.slice (some ⟨gg, 0, none⟩) l2 cap)
  have RN3 := ((((((((((RN2.far (show gg ≠ g + 1 + 1 by omega) 0 (.int .i64 s)).far (show gg ≠ g + 1 + 1 by omega) 1 (.int .i64 p)).far (show gg ≠ g + 1 + 1 by omega) 2 (.int .i64 b)).far (show gg ≠ g + 1 + 1 by omega) 3 (.slice aB lB cB)).far (show gg ≠ g + 1 + 1 by omega) 4 (.slice aD lD cD)).far (show gg ≠ g + 1 + 1 by omega) 5 (.slice aW lW cW)).far (show gg ≠ g + 1 + 1 by omega) 6 (.int .i64 ops)).far (show gg ≠ g + 1 + 1 by omega) 7 (.bool false)).far (show gg ≠ g + 1 + 1 by omega) 8 (.int .i64 n)).far (show gg ≠ g + 1 + 1 by omega) 9 (.slice (some ⟨gg, 0, none⟩) l2 cap))
  obtain ⟨c0, c1, c2', c3, c4, c5, c6, c7, c8, c9⟩ := wa2.b0.c10
  obtain ⟨f0, f1, f2, f3, f4, f5, f6, f7, f8, f9⟩ := wa2.b0.f10
  obtain ⟨z0, z1, z2, z3, z4, z5, z6, z7, z8, z9⟩ := wa2.b2.c10
  obtain ⟨y0, y1, y2, y3, y4, y5, y6, y7, y8, y9⟩ := wa2.b2.f10
  have HF : Hid _ := And.intro wa3 (And.intro RN3 (And.intro nc cm))
  clear wa2 RN2 wa3 RN3 nc cm
  go_wp2
  obtain ⟨wa3, RN3, nc, cm⟩ := HF.out
  generalize ((((((((((w2.setCell ⟨g + 1 + 1, 0, none⟩ (.int .i64 s)).setCell ⟨g + 1 + 1, 1, none⟩ (.int .i64 p)).setCell ⟨g + 1 + 1, 2, none⟩ (.int .i64 b)).setCell ⟨g + 1 + 1, 3, none⟩ (.slice aB lB cB)).setCell ⟨g + 1 + 1, 4, none⟩ (.slice aD lD cD)).setCell ⟨g + 1 + 1, 5, none⟩ (.slice aW lW cW)).setCell ⟨g + 1 + 1, 6, none⟩ (.int .i64 ops)).setCell ⟨g + 1 + 1, 7, none⟩ (.bool false)).setCell ⟨g + 1 + 1, 8, none⟩ (.int .i64 n)).setCell ⟨g + 1 + 1, 9, none⟩ (.slice (some ⟨gg, 0, none⟩) l2 cap)) = w3 at wa3 RN3 ⊢
  clear HF c0 c1 c2' c3 c4 c5 c6 c7 c8 c9 f0 f1 f2 f3 f4 f5 f6 f7 f8 f9 z0 z1 z2 z3 z4 z5 z6 z7 z8 z9 y0 y1 y2 y3 y4 y5 y6 y7 y8 y9
  obtain ⟨z0, z1, z2, z3, z4, z5, z6, z7, z8, z9⟩ := wa3.b2.c10
  refine bodyPost_ret (v := .tuple #[.agg #[.int .i64 s, .int .i64 p, .int .i64 b, .slice aB lB cB, .slice aD lD cD, .slice aW lW cW, .int .i64 ops, .bool false, .int .i64 n, .slice (some ⟨gg, 0, none⟩) l2 cap], .int .i64 0]) (by simp [results, Tryz.results24, go_sem, z0, z1, z2, z3, z4, z5, z6, z7, z8, z9]) rfl ?_
  exact ⟨gg, cap, rfl, RN3, nc, cm, wa3.gr, by have := wa3.eg; omega⟩
/-- the error that the document's Arm tells -/
def arE (n : Int) (off : Bool) : Int := if n < 1 then 1 else if off then 40 else 0
set_option maxHeartbeats 1000000 in
theorem rarm_bad (s p b ops after : Int) (off : Bool) (aB aD aW aT : Option Addr) (lB cB lD cD lW cW lT cT : Nat) (n : Int) (a2 : Option Addr) (l2 c2 : Nat) (w : World) (hE : arE n off ≠ 0) :
    Calls Tryz.prog 24 #[.agg #[.int .i64 s, .int .i64 p, .int .i64 b, .slice aB lB cB, .slice aD lD cD, .slice aW lW cW, .int .i64 ops, .bool off, .int .i64 after, .slice aT lT cT], .agg #[.int .i64 n, .slice a2 l2 c2]] w
      fun e w' => e = .returned (.tuple #[.agg #[.int .i64 s, .int .i64 p, .int .i64 b, .slice aB lB cB, .slice aD lD cD, .slice aW lW cW, .int .i64 ops, .bool off, .int .i64 after, .slice aT lT cT], .int .i64 (arE n off)]) ∧ w.grownBy w' none := by
  have g3 : ∀ a b c : Obj, w.grownBy (((w.alloc a).alloc b).alloc c) none := fun a b c => grown_trans (grown2 _ _ _) (World.grownBy_alloc _ _ _)
  unfold arE at *
  by_cases h1 : n < 1
  · rw [if_pos h1]
    clear hE
    go_enter Tryz.func24, Tryz.ntmps24
    go_wp2
    exact bodyPost_ret (v := .tuple #[.agg #[.int .i64 s, .int .i64 p, .int .i64 b, .slice aB lB cB, .slice aD lD cD, .slice aW lW cW, .int .i64 ops, .bool off, .int .i64 after, .slice aT lT cT], .int .i64 1]) (by simp [results, Tryz.results24, go_sem]) rfl ⟨rfl, g3 _ _ _⟩
  · rw [if_neg h1] at hE ⊢
    cases off
    · exact absurd rfl hE
    · rw [if_pos rfl]
      clear hE
      go_enter Tryz.func24, Tryz.ntmps24
      go_wp2
      exact bodyPost_ret (v := .tuple #[.agg #[.int .i64 s, .int .i64 p, .int .i64 b, .slice aB lB cB, .slice aD lD cD, .slice aW lW cW, .int .i64 ops, .bool true, .int .i64 after, .slice aT lT cT], .int .i64 40]) (by simp [results, Tryz.results24, go_sem]) rfl ⟨rfl, g3 _ _ _⟩
end Go.Proofs.YtfhgbddeclldnaaGreat

namespace Go.Proofs.YtfhgbddeclldnaaGreat
open Go.RowKit
set_option maxRecDepth 100000
set_option linter.unusedSimpArgs false
set_option linter.unusedVariables false

theorem step_append_nothing {P : Program} {ops : Array Oper} {o : Oper} {a : Act} {w : World} {K : Act → World → Prop} {Q : Exit → Act → World → Prop} {E : Prop}
    (hg : o.guard = none) (s x : Operand) (t : TypeId) (hop : o.op = Op.call { callee := Callee.builtin Builtin.append, args := #[s, x], argTypes := #[t, t] })
    (i : TypeInfo) (h1 : P.underlying t = some (.slice 5)) (h2 : P.info? 5 = some i) (h4 : i.size = 1)
    (g : Nat) (hs : a.eval s = .slice (some ⟨g, 0, none⟩) 0 0)
    (a2 : Option Addr) (c : Nat) (hnil : a2 = none → c = 0) (hx : a.eval x = .slice a2 0 c)
    (hK : ∀ w', w' = w → K (a.put o.dst (.slice (some ⟨g, 0, none⟩) 0 0)) w') :
    if Region.wanted o (yielded ops a.tmps) = true then Oper.wp P o a w K Q else E := by
  cases a2 with
  | some ad =>
    refine step_append_room hg s x t hop 5 i 1 h1 h2 h4 g 0 0 0 hs ad 0 c [] hx (by simp) (fun j u hj => by simp at hj) (fun u hu => by cases hu) (Nat.le_refl _) (fun j hj => by simp at hj) ?_
    exact hK _ (by simp [World.setCells])
  | none =>
    obtain rfl := hnil rfl
    have hw : Region.wanted o (yielded ops a.tmps) = true := by simp [Region.wanted, hg]
    rw [if_pos hw]
    have hrun : (Builtin.append_ #[t, t] o.type #[.slice (some ⟨g, 0, none⟩) 0 0, .slice none 0 0]).run P w = .ok (.slice (some ⟨g, 0, none⟩) 0 0) w := by
      simp [Builtin.append_, run_underlying h1, sizeOf, typeInfo, h2, Builtin.lenOf, Builtin.firstCells, storeCells]
    unfold Oper.wp
    simp [execOp, hop, resolve, invoke, builtin, hs, hx, hrun, Result.andThen]
    exact hK _ rfl
set_option maxHeartbeats 2000000 in
theorem rarm_none (s p b ops after : Int) (aB aD aW aT : Option Addr) (lB cB lD cD lW cW lT cT : Nat) (n : Int) (a2 : Option Addr) (c2 : Nat) (w : World) (hnil : a2 = none → c2 = 0) (hn : ¬ n < 1) :
    Calls Tryz.prog 24 #[.agg #[.int .i64 s, .int .i64 p, .int .i64 b, .slice aB lB cB, .slice aD lD cD, .slice aW lW cW, .int .i64 ops, .bool false, .int .i64 after, .slice aT lT cT], .agg #[.int .i64 n, .slice a2 0 c2]] w
      fun e w' => RaPost w s p b aB lB cB aD lD cD aW lW cW ops n 0 [] e w' := by
  obtain ⟨i5, hi5, hz0, hz1, hz2⟩ := info_parts Tryz.info5
  have wa := wa_made 42 40 w [.int .i64 s, .int .i64 p, .int .i64 b, .slice aB lB cB, .slice aD lD cD, .slice aW lW cW, .int .i64 ops, .bool false, .int .i64 after, .slice aT lT cT] [.int .i64 n, .slice a2 0 c2] [.int .i64 0, .int .i64 0, .int .i64 0, .slice none 0 0, .slice none 0 0, .slice none 0 0, .int .i64 0, .bool false, .int .i64 0, .slice none 0 0]
  have hsz := wa_size 42 40 w [.int .i64 s, .int .i64 p, .int .i64 b, .slice aB lB cB, .slice aD lD cD, .slice aW lW cW, .int .i64 ops, .bool false, .int .i64 after, .slice aT lT cT] [.int .i64 n, .slice a2 0 c2] [.int .i64 0, .int .i64 0, .int .i64 0, .slice none 0 0, .slice none 0 0, .slice none 0 0, .int .i64 0, .bool false, .int .i64 0, .slice none 0 0]
  have HA : Hid _ := And.intro wa hsz
  clear wa hsz
  go_enter Tryz.func24, Tryz.ntmps24
  go_wp2_with fail
  obtain ⟨wa, sz⟩ := HA.out
  generalize (((w.alloc (Obj.cells #[.int .i64 s, .int .i64 p, .int .i64 b, .slice aB lB cB, .slice aD lD cD, .slice aW lW cW, .int .i64 ops, .bool false, .int .i64 after, .slice aT lT cT] 42)).alloc (Obj.cells #[.int .i64 n, .slice a2 0 c2] 40)).alloc (Obj.cells #[.int .i64 0, .int .i64 0, .int .i64 0, .slice none 0 0, .slice none 0 0, .slice none 0 0, .int .i64 0, .bool false, .int .i64 0, .slice none 0 0] 42)) = W at wa sz ⊢
  clear HA
  generalize hgg : w.heap.size = g at wa sz ⊢
  have e0 : W.cell? ⟨g + 1, 0, none⟩ = some (.int .i64 n) := wa.b1.c 0
  have e1 : W.cell? ⟨g + 1, 1, none⟩ = some (.slice a2 0 c2) := wa.b1.c 1
  obtain ⟨c0, c1, c2', c3, c4, c5, c6, c7, c8, c9⟩ := wa.b0.c10
  obtain ⟨f0, f1, f2, f3, f4, f5, f6, f7, f8, f9⟩ := wa.b0.f10
  have BWd : Below (g + 1 + 1 + 1) W (W.alloc (.cells #[] 5)).drew := by
    have := grown_below (World.grownBy_alloc W (.cells #[] 5) none)
    rw [sz] at this
    exact ⟨this.os, this.tape, this.output, this.size, this.block⟩
  have lt1 : g + 1 < W.heap.size := by omega
  have HWA : Hid _ := wa
  have HB : Hid _ := BWd
  have HN : Hid _ := hnil
  clear wa BWd hnil
  go_region_held3 (fun w' => w'.cell? ⟨g + 1, 0, none⟩ = some (.int .i64 n) ∧ w'.cell? ⟨g + 1, 1, none⟩ = some (.slice a2 0 c2)) (go_keep)
    ((refine step_append_nothing (by rfl) _ _ _ (by rfl) i5 Tryz.underlying36 hi5 hz1 (g + 1 + 1 + 1) (by rfl) a2 c2 HN.out (by rfl) ?_; intro w1 hw1; have BW : Below (g + 1 + 1 + 1) W w1 := by { rw [hw1]; exact HB.out }; clear hw1; have q0 := (HWA.out.b1.below BW (by omega)).c 0; have q1 := (HWA.out.b1.below BW (by omega)).c 1; have q8 := (HWA.out.b0.below BW (by omega)).c 8; have q9 := (HWA.out.b0.below BW (by omega)).c 9; have r8 := (HWA.out.b0.below BW (by omega)).f 8; have r9 := (HWA.out.b0.below BW (by omega)).f 9))
  have wa1 := HWA.out.below BW
  have wa2 := (wa1.set0 8 (.int .i64 n)).set0 9 (.slice (some ⟨g + 1 + 1 + 1, 0, none⟩) 0 0)
  clear e0 e1 c0 c1 c2' c3 c4 c5 c6 c7 c8 c9 f0 f1 f2 f3 f4 f5 f6 f7 f8 f9 HWA HB HN q0 q1 q8 q9 r8 r9 BW wa1 sz lt1
  generalize ((w1.setCell ⟨g, 8, none⟩ (.int .i64 n)).setCell ⟨g, 9, none⟩ (.slice (some ⟨g + 1 + 1 + 1, 0, none⟩) 0 0)) = w2 at *
  have wa3 := wa2.store10 (.int .i64 s) (.int .i64 p) (.int .i64 b) (.slice aB lB cB) (.slice aD lD cD) (.slice aW lW cW) (.int .i64 ops) (.bool false) (.int .i64 n) (.slice (some ⟨g + 1 + 1 + 1, 0, none⟩) 0 0)
  obtain ⟨c0, c1, c2', c3, c4, c5, c6, c7, c8, c9⟩ := wa2.b0.c10
  obtain ⟨f0, f1, f2, f3, f4, f5, f6, f7, f8, f9⟩ := wa2.b0.f10
  obtain ⟨z0, z1, z2, z3, z4, z5, z6, z7, z8, z9⟩ := wa2.b2.c10
  obtain ⟨y0, y1, y2, y3, y4, y5, y6, y7, y8, y9⟩ := wa2.b2.f10
  have HF : Hid _ := wa3
  clear wa2 wa3
  go_wp2
  have wa3 := HF.out
  generalize ((((((((((w2.setCell ⟨g + 1 + 1, 0, none⟩ (.int .i64 s)).setCell ⟨g + 1 + 1, 1, none⟩ (.int .i64 p)).setCell ⟨g + 1 + 1, 2, none⟩ (.int .i64 b)).setCell ⟨g + 1 + 1, 3, none⟩ (.slice aB lB cB)).setCell ⟨g + 1 + 1, 4, none⟩ (.slice aD lD cD)).setCell ⟨g + 1 + 1, 5, none⟩ (.slice aW lW cW)).setCell ⟨g + 1 + 1, 6, none⟩ (.int .i64 ops)).setCell ⟨g + 1 + 1, 7, none⟩ (.bool false)).setCell ⟨g + 1 + 1, 8, none⟩ (.int .i64 n)).setCell ⟨g + 1 + 1, 9, none⟩ (.slice (some ⟨g + 1 + 1 + 1, 0, none⟩) 0 0)) = w3 at wa3 ⊢
  clear HF c0 c1 c2' c3 c4 c5 c6 c7 c8 c9 f0 f1 f2 f3 f4 f5 f6 f7 f8 f9 z0 z1 z2 z3 z4 z5 z6 z7 z8 z9 y0 y1 y2 y3 y4 y5 y6 y7 y8 y9
  obtain ⟨z0, z1, z2, z3, z4, z5, z6, z7, z8, z9⟩ := wa3.b2.c10
  refine bodyPost_ret (v := .tuple #[.agg #[.int .i64 s, .int .i64 p, .int .i64 b, .slice aB lB cB, .slice aD lD cD, .slice aW lW cW, .int .i64 ops, .bool false, .int .i64 n, .slice (some ⟨g + 1 + 1 + 1, 0, none⟩) 0 0], .int .i64 0]) (by simp [results, Tryz.results24, go_sem, z0, z1, z2, z3, z4, z5, z6, z7, z8, z9]) rfl ?_
  exact ⟨g + 1 + 1 + 1, 0, rfl, Row.none0 _, Nat.le_refl _, by unfold maxLen; omega, wa3.gr, by have := wa3.eg; omega⟩
end Go.Proofs.YtfhgbddeclldnaaGreat
