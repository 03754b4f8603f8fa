/- step: a call by the program and by the document; Boot, Erase. -/
import Derived.Test.YtdefcfmnhfeblaaLE
import Derived.Test.YtdefcfmnhfeblaaAC
namespace Go.Proofs.Ytdefcfmnhfeblaa
open Go.RowKit
set_option linter.unusedSimpArgs false
set_option linter.unusedVariables false
attribute [local go_sem ↓] Go.wp_at_zero Go.wp_at_succ

theorem PRep.less {w : World} {fb bb db wb : Nat} {m : Fm} {G G' : Nat → Prop} (h : PRep w fb bb db wb m G) (hG : ∀ k, G' k → G k) : PRep w fb bb db wb m G' := by
  obtain ⟨pw, left, aT, cT, T, hp, hw, hg⟩ := h
  exact ⟨pw, left, aT, cT, T, hp, hw, fun tb o e h0 x => hg tb o e h0 (hG _ x)⟩
theorem PRep.fresh2 {w : World} {fb bb db wb : Nat} {m : Fm} {G G' : Nat → Prop} (h : PRep w fb bb db wb m G) (hG : ∀ k, G' k → G k ∨ w.heap.size ≤ k) : PRep w fb bb db wb m G' := by
  obtain ⟨pw, left, aT, cT, T, hp, hw, hg⟩ := h
  refine ⟨pw, left, aT, cT, T, hp, hw, fun tb o e h0 x => ?_⟩
  rcases hG _ x with y | y
  · exact hg tb o e h0 y
  · obtain ⟨b, o', e', hc⟩ := hp.row.cells h0
    rw [e] at e'
    injection e' with e'
    injection e' with e1 e2
    subst e1
    have := cell_lt (hc 0 h0)
    omega
/-- what a call makes of a flash -/
def Fm.act (m : Fm) (A : Ac) : Fm := if A.d = 0 then m else if A.d = 1 then (m.write A.at_ A.xs).1 else if A.d = 2 then (m.erase A.at_).1 else if A.d = 3 then (m.arm A.n A.xs).1 else m.boot
/-- behind the making of step's variables -/
structure ST (w W : World) (g fb bb db wb : Nat) (cs es ds : List Value) : Prop where
  ch : Chg (foot fb bb db wb) w W
  b0 : Box W g 40 cs
  b1 : Box W (g + 1) 45 es
  b2 : Box W (g + 1 + 1) 40 ds
  eg : w.heap.size = g
  ft : ∀ k, foot fb bb db wb k → k < g
theorem ST.step {w W W' : World} {g fb bb db wb : Nat} {cs es ds : List Value} (h : ST w W g fb bb db wb cs es ds) (hc : Chg (foot fb bb db wb) W W') : ST w W' g fb bb db wb cs es ds := by
  have f : ∀ i, g ≤ i → ¬ foot fb bb db wb i := fun i hi x => by have := h.ft _ x; omega
  exact ⟨h.ch.trans hc, hc.box h.b0 (f _ (by omega)), hc.box h.b1 (f _ (by omega)), hc.box h.b2 (f _ (by omega)), h.eg, h.ft⟩
theorem ST.grown {w W W' : World} {g fb bb db wb : Nat} {cs es ds : List Value} (h : ST w W g fb bb db wb cs es ds) (hg : W.grownBy W' none) : ST w W' g fb bb db wb cs es ds := h.step (Chg.of_none hg _)
theorem st_made {w : World} {fb bb db wb : Nat} (cs es ds : List Value) (hf : ∀ k, foot fb bb db wb k → k < w.heap.size) : ST w (((w.alloc (.cells cs.toArray 40)).alloc (.cells es.toArray 45)).alloc (.cells ds.toArray 40)) w.heap.size fb bb db wb cs es ds := by
  refine ⟨Chg.of_none (grown_trans (grown2 _ _ _) (World.grownBy_alloc _ _ _)) _, ((Box.new w _ cs).grown (World.grownBy_alloc _ _ _)).grown (World.grownBy_alloc _ _ _), ?_, ?_, rfl, hf⟩
  · have h0 := Box.new (w.alloc (.cells cs.toArray 40)) 45 es
    rw [show (w.alloc (.cells cs.toArray 40)).heap.size = w.heap.size + 1 by simp] at h0
    exact h0.grown (World.grownBy_alloc _ _ _)
  · have h0 := Box.new ((w.alloc (.cells cs.toArray 40)).alloc (.cells es.toArray 45)) 40 ds
    rw [show ((w.alloc (.cells cs.toArray 40)).alloc (.cells es.toArray 45)).heap.size = w.heap.size + 1 + 1 by simp] at h0
    exact h0
/-- its own blocks -/
def ownF (F : Nat → Prop) (g H k : Nat) : Prop := F k ∨ (g ≤ k ∧ k < H)
/-- what step answers -/
def StPost (w : World) (fb bb db wb : Nat) (F : Nat → Prop) (m : Fm) (e : Ending) (w' : World) : Prop :=
  ∃ v', e = .returned (.tuple #[v', .bool true]) ∧ Chg (foot fb bb db wb) w w' ∧ PRep w' fb bb db wb m F ∧ Rep w' v' m F
/-- the result is stored, and read -/
theorem st_end {w W W' : World} {g H fb bb db wb : Nat} {F : Nat → Prop} {cs es : List Value} {x0 x1 x2 x3 x4 x5 x6 x7 x8 x9 : Value} {m : Fm} {v : Value} (h : ST w W g fb bb db wb cs es [x0, x1, x2, x3, x4, x5, x6, x7, x8, x9]) (hP : PRep W fb bb db wb m (ownF F g H)) (hR : Rep W v m (ownF F g H)) (hH : g + 2 < H) (y0 y1 y2 y3 y4 y5 y6 y7 y8 y9 : Value) (hW : W' = ((((((((((W.setCell ⟨g + 1 + 1, 0, none⟩ y0).setCell ⟨g + 1 + 1, 1, none⟩ y1).setCell ⟨g + 1 + 1, 2, none⟩ y2).setCell ⟨g + 1 + 1, 3, none⟩ y3).setCell ⟨g + 1 + 1, 4, none⟩ y4).setCell ⟨g + 1 + 1, 5, none⟩ y5).setCell ⟨g + 1 + 1, 6, none⟩ y6).setCell ⟨g + 1 + 1, 7, none⟩ y7).setCell ⟨g + 1 + 1, 8, none⟩ y8).setCell ⟨g + 1 + 1, 9, none⟩ y9)) :
    Box W' (g + 1 + 1) 40 [y0, y1, y2, y3, y4, y5, y6, y7, y8, y9] ∧ Chg (foot fb bb db wb) w W' ∧ PRep W' fb bb db wb m F ∧ Rep W' v m F := by
  have hb := (((((((((h.b2.set 0 y0).set 1 y1).set 2 y2).set 3 y3).set 4 y4).set 5 y5).set 6 y6).set 7 y7).set 8 y8).set 9 y9
  have c1 : ∀ (V : World) i u, Chg (fun k => k = g + 1 + 1) V (V.setCell ⟨g + 1 + 1, i, none⟩ u) := fun V i u => Chg.set rfl
  have hc : Chg (fun k => k = g + 1 + 1) W W' := by
    rw [hW]
    exact ((((((((((c1 _ _ _).trans (c1 _ _ _)).trans (c1 _ _ _)).trans (c1 _ _ _)).trans (c1 _ _ _)).trans (c1 _ _ _)).trans (c1 _ _ _)).trans (c1 _ _ _)).trans (c1 _ _ _)).trans (c1 _ _ _))
  have hlt := h.b2.lt
  have he := h.eg
  refine ⟨by rw [hW]; exact hb, ?_, ?_, ?_⟩
  · refine ⟨hc.os.trans h.ch.os, hc.tape.trans h.ch.tape, hc.output.trans h.ch.output, Nat.le_trans h.ch.size hc.size, fun k hk hF => ?_⟩
    rw [hc.block k (Nat.lt_of_lt_of_le hk h.ch.size) (by omega)]
    exact h.ch.block k hk hF
  · exact (hP.but hc (fun k e => .inr (by omega)) (fun k x e => by have := h.ft _ x; omega)).less (fun _ x => .inl x)
  · exact (hR.but (fun k hk hF => hc.block k hk fun e => hF (.inr (by omega)))).less (fun k x => .inl x)
set_option maxRecDepth 100000 in
set_option maxHeartbeats 4000000 in
theorem step_boot {w : World} {fb bb db wb : Nat} {m : Fm} {v : Value} {k : Nat} {A : Ac} {F : Nat → Prop} (hP : PRep w fb bb db wb m F) (hFf : ∀ k, foot fb bb db wb k → F k) (hFs : ∀ k, F k → k < w.heap.size) (hR : Rep w v m F) (hg : m.Good k) (h0 : ¬ A.d = 0) (h1 : ¬ A.d = 1) (h2 : ¬ A.d = 2) (h3 : ¬ A.d = 3) :
    Calls Try.prog 15 #[.pointer (some ⟨fb, 0, none⟩), v, A.val] w fun e w' => StPost w fb bb db wb F m.boot e w' := by
  have HFF : Hid _ := And.intro hFf hFs
  clear hFf hFs
  have e0 : (A.d == 0) = false := by simpa using h0
  have e1 : (A.d == 1) = false := by simpa using h1
  have e2 : (A.d == 2) = false := by simpa using h2
  have e3 : (A.d == 3) = false := by simpa using h3
  clear h0 h1 h2 h3
  obtain ⟨s, p, b, ops, after, off, aB, aD, aW, aT, lB, cB, lD, cD, lW, cW, lT, cT, rfl⟩ := hR.shape
  have hST : ST w (((w.alloc (.cells #[.int .i64 s, .int .i64 p, .int .i64 b, .slice aB lB cB, .slice aD lD cD, .slice aW lW cW, .int .i64 ops, .bool off, .int .i64 after, .slice aT lT cT] 40)).alloc (.cells #[.int .i64 A.d, .int .i64 A.at_, .int .i64 A.n, .slice A.a A.len A.cap] 45)).alloc (.cells #[.int .i64 0, .int .i64 0, .int .i64 0, .slice none 0 0, .slice none 0 0, .slice none 0 0, .int .i64 0, .bool false, .int .i64 0, .slice none 0 0] 40)) w.heap.size fb bb db wb [.int .i64 s, .int .i64 p, .int .i64 b, .slice aB lB cB, .slice aD lD cD, .slice aW lW cW, .int .i64 ops, .bool off, .int .i64 after, .slice aT lT cT] [.int .i64 A.d, .int .i64 A.at_, .int .i64 A.n, .slice A.a A.len A.cap] [.int .i64 0, .int .i64 0, .int .i64 0, .slice none 0 0, .slice none 0 0, .slice none 0 0, .int .i64 0, .bool false, .int .i64 0, .slice none 0 0] := st_made _ _ _ hP.lt
  have hgW : w.grownBy (((w.alloc (.cells #[.int .i64 s, .int .i64 p, .int .i64 b, .slice aB lB cB, .slice aD lD cD, .slice aW lW cW, .int .i64 ops, .bool off, .int .i64 after, .slice aT lT cT] 40)).alloc (.cells #[.int .i64 A.d, .int .i64 A.at_, .int .i64 A.n, .slice A.a A.len A.cap] 45)).alloc (.cells #[.int .i64 0, .int .i64 0, .int .i64 0, .slice none 0 0, .slice none 0 0, .slice none 0 0, .int .i64 0, .bool false, .int .i64 0, .slice none 0 0] 40)) none := grown_trans (grown2 _ _ _) (World.grownBy_alloc _ _ _)
  have hPW := (hP.fresh2 (G' := ownF F w.heap.size (((w.alloc (.cells #[.int .i64 s, .int .i64 p, .int .i64 b, .slice aB lB cB, .slice aD lD cD, .slice aW lW cW, .int .i64 ops, .bool off, .int .i64 after, .slice aT lT cT] 40)).alloc (.cells #[.int .i64 A.d, .int .i64 A.at_, .int .i64 A.n, .slice A.a A.len A.cap] 45)).alloc (.cells #[.int .i64 0, .int .i64 0, .int .i64 0, .slice none 0 0, .slice none 0 0, .slice none 0 0, .int .i64 0, .bool false, .int .i64 0, .slice none 0 0] 40)).heap.size) (fun _ x => x.elim .inl fun y => .inr y.1)).grown hgW
  have hRW := (hR.fresh (F' := ownF F w.heap.size (((w.alloc (.cells #[.int .i64 s, .int .i64 p, .int .i64 b, .slice aB lB cB, .slice aD lD cD, .slice aW lW cW, .int .i64 ops, .bool off, .int .i64 after, .slice aT lT cT] 40)).alloc (.cells #[.int .i64 A.d, .int .i64 A.at_, .int .i64 A.n, .slice A.a A.len A.cap] 45)).alloc (.cells #[.int .i64 0, .int .i64 0, .int .i64 0, .slice none 0 0, .slice none 0 0, .slice none 0 0, .int .i64 0, .bool false, .int .i64 0, .slice none 0 0] 40)).heap.size) hg (fun x hx => hx.elim .inl fun y => .inr y.1)).grown hgW
  have hszW : w.heap.size + 2 < (((w.alloc (.cells #[.int .i64 s, .int .i64 p, .int .i64 b, .slice aB lB cB, .slice aD lD cD, .slice aW lW cW, .int .i64 ops, .bool off, .int .i64 after, .slice aT lT cT] 40)).alloc (.cells #[.int .i64 A.d, .int .i64 A.at_, .int .i64 A.n, .slice A.a A.len A.cap] 45)).alloc (.cells #[.int .i64 0, .int .i64 0, .int .i64 0, .slice none 0 0, .slice none 0 0, .slice none 0 0, .int .i64 0, .bool false, .int .i64 0, .slice none 0 0] 40)).heap.size := by simp
  unfold Ac.val
  have H0 : Hid _ := And.intro hST (And.intro hPW (And.intro hRW (And.intro hszW (And.intro hgW hg))))
  clear hST hP hR hg hszW hgW hPW hRW
  go_enter Try.func15, Try.ntmps15
  go_wp2_with fail
  generalize (((w.alloc (.cells #[.int .i64 s, .int .i64 p, .int .i64 b, .slice aB lB cB, .slice aD lD cD, .slice aW lW cW, .int .i64 ops, .bool off, .int .i64 after, .slice aT lT cT] 40)).alloc (.cells #[.int .i64 A.d, .int .i64 A.at_, .int .i64 A.n, .slice A.a A.len A.cap] 45)).alloc (.cells #[.int .i64 0, .int .i64 0, .int .i64 0, .slice none 0 0, .slice none 0 0, .slice none 0 0, .int .i64 0, .bool false, .int .i64 0, .slice none 0 0] 40)) = W at *
  generalize hgg : w.heap.size = g at *
  refine (prep_boot H0.out.2.1).mono ?_
  rintro e W2 ⟨rfl, hc2, hP2⟩
  have hS2 := H0.out.1.step hc2
  have hR2 := H0.out.2.2.1.but (fun k hk hF => hc2.block k hk fun x => hF (.inl (HFF.out.1 _ x)))
  have H2 : Hid _ := And.intro hS2 (And.intro hP2 hR2)
  obtain ⟨c0, c1, c2, c3, c4, c5, c6, c7, c8, c9⟩ := hS2.b0.c10
  clear hS2 hc2 hP2 hR2
  go_wp2_with fail
  refine (rep_boot H2.out.2.2).mono ?_
  rintro e W3 ⟨v', rfl, hg3, hR3⟩
  obtain ⟨s', p', b', ops', after', off', aB', aD', aW', aT', lB', cB', lD', cD', lW', cW', lT', cT', rfl⟩ := hR3.shape
  have HE : Hid _ := And.intro (H2.out.1.grown hg3) (And.intro (H2.out.2.1.grown hg3) (And.intro hR3 H0.out.2.2.2.1))
  clear c0 c1 c2 c3 c4 c5 c6 c7 c8 c9
  obtain ⟨z0, z1, z2, z3, z4, z5, z6, z7, z8, z9⟩ := HE.out.1.b2.c10
  obtain ⟨y0, y1, y2, y3, y4, y5, y6, y7, y8, y9⟩ := HE.out.1.b2.f10
  clear hg3 hR3 H2 H0
  go_wp2_with fail
  clear z0 z1 z2 z3 z4 z5 z6 z7 z8 z9 y0 y1 y2 y3 y4 y5 y6 y7 y8 y9
  obtain ⟨hSTe, hPe, hRe, hHe⟩ := HE.out
  obtain ⟨hbe, hce, hpe, hre⟩ := st_end hSTe hPe hRe hHe (.int .i64 s') (.int .i64 p') (.int .i64 b') (.slice aB' lB' cB') (.slice aD' lD' cD') (.slice aW' lW' cW') (.int .i64 ops') (.bool off') (.int .i64 after') (.slice aT' lT' cT') (rfl : ((((((((((W3.setCell ⟨g + 1 + 1, 0, none⟩ (.int .i64 s')).setCell ⟨g + 1 + 1, 1, none⟩ (.int .i64 p')).setCell ⟨g + 1 + 1, 2, none⟩ (.int .i64 b')).setCell ⟨g + 1 + 1, 3, none⟩ (.slice aB' lB' cB')).setCell ⟨g + 1 + 1, 4, none⟩ (.slice aD' lD' cD')).setCell ⟨g + 1 + 1, 5, none⟩ (.slice aW' lW' cW')).setCell ⟨g + 1 + 1, 6, none⟩ (.int .i64 ops')).setCell ⟨g + 1 + 1, 7, none⟩ (.bool off')).setCell ⟨g + 1 + 1, 8, none⟩ (.int .i64 after')).setCell ⟨g + 1 + 1, 9, none⟩ (.slice aT' lT' cT')) = _)
  generalize ((((((((((W3.setCell ⟨g + 1 + 1, 0, none⟩ (.int .i64 s')).setCell ⟨g + 1 + 1, 1, none⟩ (.int .i64 p')).setCell ⟨g + 1 + 1, 2, none⟩ (.int .i64 b')).setCell ⟨g + 1 + 1, 3, none⟩ (.slice aB' lB' cB')).setCell ⟨g + 1 + 1, 4, none⟩ (.slice aD' lD' cD')).setCell ⟨g + 1 + 1, 5, none⟩ (.slice aW' lW' cW')).setCell ⟨g + 1 + 1, 6, none⟩ (.int .i64 ops')).setCell ⟨g + 1 + 1, 7, none⟩ (.bool off')).setCell ⟨g + 1 + 1, 8, none⟩ (.int .i64 after')).setCell ⟨g + 1 + 1, 9, none⟩ (.slice aT' lT' cT')) = WE at hbe hce hpe hre ⊢
  clear HE hSTe hPe hRe hHe
  obtain ⟨z0, z1, z2, z3, z4, z5, z6, z7, z8, z9⟩ := hbe.c10
  refine bodyPost_ret (v := .tuple #[.agg #[.int .i64 s', .int .i64 p', .int .i64 b', .slice aB' lB' cB', .slice aD' lD' cD', .slice aW' lW' cW', .int .i64 ops', .bool off', .int .i64 after', .slice aT' lT' cT'], .bool true]) (by simp [results, Try.results15, go_sem, z0, z1, z2, z3, z4, z5, z6, z7, z8, z9]) rfl ?_
  exact ⟨_, rfl, hce, hpe, hre⟩
end Go.Proofs.Ytdefcfmnhfeblaa
