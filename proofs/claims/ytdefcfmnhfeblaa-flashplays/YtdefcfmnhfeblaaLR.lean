/- FlashPlays: calls one by one. -/
import Derived.Test.YtdefcfmnhfeblaaLK
import Derived.Test.YtdefcfmnhfeblaaLQ
namespace Go.Proofs.Ytdefcfmnhfeblaa
open Go.RowKit
set_option linter.unusedSimpArgs false
set_option linter.unusedVariables false
attribute [local go_sem ↓] Go.wp_at_zero Go.wp_at_succ

/-- the program's flash and the document's, between two calls -/
structure PL (w wr : World) (g gr fb bb db wb : Nat) (m : Fm) (j : Nat) : Prop where
  ch : Chg (fun k => w.heap.size ≤ k) w wr
  ft : ∀ k, foot fb bb db wb k → g < k
  eg : w.heap.size = g
  gn : ¬ foot fb bb db wb gr
  gl : g < gr
  st : ∃ (s p b ops after : Int) (off : Bool) (aB aD aW aT : Option Addr) (lB cB lD cD lW cW lT cT : Nat), Rep wr (.agg #[.int .i64 s, .int .i64 p, .int .i64 b, .slice aB lB cB, .slice aD lD cD, .slice aW lW cW, .int .i64 ops, .bool off, .int .i64 after, .slice aT lT cT]) m (fun k => foot fb bb db wb k ∨ k = gr) ∧ Box wr gr 40 [.int .i64 s, .int .i64 p, .int .i64 b, .slice aB lB cB, .slice aD lD cD, .slice aW lW cW, .int .i64 ops, .bool off, .int .i64 after, .slice aT lT cT]
  pr : PRep wr fb bb db wb m (fun k => foot fb bb db wb k ∨ k = gr)
  gd : m.Good j
theorem PL.grown {w wr W' : World} {g gr fb bb db wb : Nat} {m : Fm} {j : Nat} (h : PL w wr g gr fb bb db wb m j) (hg : wr.grownBy W' none) : PL w W' g gr fb bb db wb m j := by
  obtain ⟨s, p, b, ops, after, off, aB, aD, aW, aT, lB, cB, lD, cD, lW, cW, lT, cT, h1, h2⟩ := h.st
  exact ⟨h.ch.trans (Chg.of_none hg _), h.ft, h.eg, h.gn, h.gl, ⟨s, p, b, ops, after, off, aB, aD, aW, aT, lB, cB, lD, cD, lW, cW, lT, cT, h1.grown hg, h2.grown hg⟩, h.pr.grown hg, h.gd⟩
theorem PL.below {w wr : World} {g gr fb bb db wb : Nat} {m : Fm} {j : Nat} (h : PL w wr g gr fb bb db wb m j) : Below w.heap.size w wr := h.ch.below (Nat.le_refl _) fun k x => x
/-- behind a call, ahead of 'r = s' -/
structure PM (w WX : World) (g gr gs fb bb db wb : Nat) (m : Fm) (j : Nat) (vs : List Value) : Prop where
  ch : Chg (fun k => w.heap.size ≤ k) w WX
  ft : ∀ k, foot fb bb db wb k → g < k
  eg : w.heap.size = g
  gn : ¬ foot fb bb db wb gr
  gl : g < gr
  rp : Rep WX (.agg vs.toArray) m (fun k => foot fb bb db wb k ∨ k = gr)
  bs : Box WX gs 40 vs
  bg : ∃ y0 y1 y2 y3 y4 y5 y6 y7 y8 y9, Box WX gr 40 [y0, y1, y2, y3, y4, y5, y6, y7, y8, y9]
  ne : gs ≠ gr
  pr : PRep WX fb bb db wb m (fun k => foot fb bb db wb k ∨ k = gr)
  gd : m.Good j
theorem set10 (W : World) (g : Nat) (u0 u1 u2 u3 u4 u5 u6 u7 u8 u9 : Value) : Chg (fun k => k = g) W ((((((((((W.setCell ⟨g, 0, none⟩ u0).setCell ⟨g, 1, none⟩ u1).setCell ⟨g, 2, none⟩ u2).setCell ⟨g, 3, none⟩ u3).setCell ⟨g, 4, none⟩ u4).setCell ⟨g, 5, none⟩ u5).setCell ⟨g, 6, none⟩ u6).setCell ⟨g, 7, none⟩ u7).setCell ⟨g, 8, none⟩ u8).setCell ⟨g, 9, none⟩ u9) := by
  have c1 : ∀ (V : World) i u, Chg (fun k => k = g) V (V.setCell ⟨g, i, none⟩ u) := fun V i u => Chg.set rfl
  exact ((((((((((c1 _ _ _).trans (c1 _ _ _)).trans (c1 _ _ _)).trans (c1 _ _ _)).trans (c1 _ _ _)).trans (c1 _ _ _)).trans (c1 _ _ _)).trans (c1 _ _ _)).trans (c1 _ _ _)).trans (c1 _ _ _))
theorem Box.set10 {W : World} {g : Nat} {T : TypeId} {x0 x1 x2 x3 x4 x5 x6 x7 x8 x9 : Value} (h : Box W g T [x0, x1, x2, x3, x4, x5, x6, x7, x8, x9]) (u0 u1 u2 u3 u4 u5 u6 u7 u8 u9 : Value) : Box ((((((((((W.setCell ⟨g, 0, none⟩ u0).setCell ⟨g, 1, none⟩ u1).setCell ⟨g, 2, none⟩ u2).setCell ⟨g, 3, none⟩ u3).setCell ⟨g, 4, none⟩ u4).setCell ⟨g, 5, none⟩ u5).setCell ⟨g, 6, none⟩ u6).setCell ⟨g, 7, none⟩ u7).setCell ⟨g, 8, none⟩ u8).setCell ⟨g, 9, none⟩ u9) g T [u0, u1, u2, u3, u4, u5, u6, u7, u8, u9] :=
  (((((((((h.set 0 u0).set 1 u1).set 2 u2).set 3 u3).set 4 u4).set 5 u5).set 6 u6).set 7 u7).set 8 u8).set 9 u9
theorem pm_new {w wr W0 W8 : World} {g gr fb bb db wb : Nat} {m m' : Fm} {j j' : Nat} {vs : List Value} {x0 x1 x2 x3 x4 x5 x6 x7 x8 x9 : Value} (h : PL w wr g gr fb bb db wb m j) (h0 : wr.grownBy W0 none) (hc : Chg (foot fb bb db wb) W0 W8) (hP : PRep W8 fb bb db wb m' (fun k => foot fb bb db wb k ∨ k = gr)) (hR : Rep W8 (.agg vs.toArray) m' (fun k => foot fb bb db wb k ∨ k = gr)) (hb : Box W8 gr 40 [x0, x1, x2, x3, x4, x5, x6, x7, x8, x9]) (hg : m'.Good j') : PM w (W8.alloc (.cells vs.toArray 40)) g gr W8.heap.size fb bb db wb m' j' vs := by
  have hga := World.grownBy_alloc W8 (.cells vs.toArray 40) none
  have he := h.eg
  have hlt := hb.lt
  exact ⟨((h.ch.trans (Chg.of_none h0 _)).trans (hc.mono fun k x => by have := h.ft _ x; omega)).trans (Chg.of_none hga _), h.ft, he, h.gn, h.gl, hR.grown hga, Box.new W8 _ vs, ⟨_, _, _, _, _, _, _, _, _, _, hb.grown hga⟩, by omega, hP.grown hga, hg⟩
theorem pm_old {w wr W0 W8 : World} {g gr gs fb bb db wb : Nat} {m m' : Fm} {j j' : Nat} {x0 x1 x2 x3 x4 x5 x6 x7 x8 x9 z0 z1 z2 z3 z4 z5 z6 z7 z8 z9 : Value} (h : PL w wr g gr fb bb db wb m j) (h0 : wr.grownBy W0 none) (hc : Chg (foot fb bb db wb) W0 W8) (hP : PRep W8 fb bb db wb m' (fun k => (foot fb bb db wb k ∨ k = gr) ∨ k = gs)) (u0 u1 u2 u3 u4 u5 u6 u7 u8 u9 : Value) (hR : Rep W8 (.agg #[u0, u1, u2, u3, u4, u5, u6, u7, u8, u9]) m' (fun k => (foot fb bb db wb k ∨ k = gr) ∨ k = gs)) (hb : Box W8 gr 40 [x0, x1, x2, x3, x4, x5, x6, x7, x8, x9]) (hz : Box W8 gs 40 [z0, z1, z2, z3, z4, z5, z6, z7, z8, z9]) (hgs : gs ≠ gr) (hgf : ¬ foot fb bb db wb gs) (hgl : g < gs) (hg : m'.Good j') : PM w ((((((((((W8.setCell ⟨gs, 0, none⟩ u0).setCell ⟨gs, 1, none⟩ u1).setCell ⟨gs, 2, none⟩ u2).setCell ⟨gs, 3, none⟩ u3).setCell ⟨gs, 4, none⟩ u4).setCell ⟨gs, 5, none⟩ u5).setCell ⟨gs, 6, none⟩ u6).setCell ⟨gs, 7, none⟩ u7).setCell ⟨gs, 8, none⟩ u8).setCell ⟨gs, 9, none⟩ u9) g gr gs fb bb db wb m' j' [u0, u1, u2, u3, u4, u5, u6, u7, u8, u9] := by
  have hs := set10 W8 gs u0 u1 u2 u3 u4 u5 u6 u7 u8 u9
  have he := h.eg
  refine ⟨((h.ch.trans (Chg.of_none h0 _)).trans (hc.mono fun k x => by have := h.ft _ x; omega)).trans (hs.mono fun k x => by omega), h.ft, he, h.gn, h.gl, ?_, hz.set10 _ _ _ _ _ _ _ _ _ _, ⟨_, _, _, _, _, _, _, _, _, _, hs.box hb (Ne.symm hgs)⟩, hgs, ?_, hg⟩
  · exact (hR.but fun k hk hn => hs.block k hk fun x => hn (.inr x)).less fun k x => .inl x
  · exact (hP.but hs (fun k x => .inr x) (fun k x y => by subst y; exact hgf x)).less fun k x => .inl x
theorem PM.done {w WX : World} {g gr gs fb bb db wb : Nat} {m : Fm} {j : Nat} {s8 p8 b8 ops8 after8 : Int} {off8 : Bool} {aB8 aD8 aW8 aT8 : Option Addr} {lB8 cB8 lD8 cD8 lW8 cW8 lT8 cT8 : Nat} (h : PM w WX g gr gs fb bb db wb m j [.int .i64 s8, .int .i64 p8, .int .i64 b8, .slice aB8 lB8 cB8, .slice aD8 lD8 cD8, .slice aW8 lW8 cW8, .int .i64 ops8, .bool off8, .int .i64 after8, .slice aT8 lT8 cT8]) : PL w ((((((((((WX.setCell ⟨gr, 0, none⟩ (.int .i64 s8)).setCell ⟨gr, 1, none⟩ (.int .i64 p8)).setCell ⟨gr, 2, none⟩ (.int .i64 b8)).setCell ⟨gr, 3, none⟩ (.slice aB8 lB8 cB8)).setCell ⟨gr, 4, none⟩ (.slice aD8 lD8 cD8)).setCell ⟨gr, 5, none⟩ (.slice aW8 lW8 cW8)).setCell ⟨gr, 6, none⟩ (.int .i64 ops8)).setCell ⟨gr, 7, none⟩ (.bool off8)).setCell ⟨gr, 8, none⟩ (.int .i64 after8)).setCell ⟨gr, 9, none⟩ (.slice aT8 lT8 cT8)) g gr fb bb db wb m j ∧ Rep ((((((((((WX.setCell ⟨gr, 0, none⟩ (.int .i64 s8)).setCell ⟨gr, 1, none⟩ (.int .i64 p8)).setCell ⟨gr, 2, none⟩ (.int .i64 b8)).setCell ⟨gr, 3, none⟩ (.slice aB8 lB8 cB8)).setCell ⟨gr, 4, none⟩ (.slice aD8 lD8 cD8)).setCell ⟨gr, 5, none⟩ (.slice aW8 lW8 cW8)).setCell ⟨gr, 6, none⟩ (.int .i64 ops8)).setCell ⟨gr, 7, none⟩ (.bool off8)).setCell ⟨gr, 8, none⟩ (.int .i64 after8)).setCell ⟨gr, 9, none⟩ (.slice aT8 lT8 cT8)) (.agg #[.int .i64 s8, .int .i64 p8, .int .i64 b8, .slice aB8 lB8 cB8, .slice aD8 lD8 cD8, .slice aW8 lW8 cW8, .int .i64 ops8, .bool off8, .int .i64 after8, .slice aT8 lT8 cT8]) m (fun k => foot fb bb db wb k ∨ k = gr) := by
  obtain ⟨y0, y1, y2, y3, y4, y5, y6, y7, y8, y9, hb⟩ := h.bg
  have hs := set10 WX gr (.int .i64 s8) (.int .i64 p8) (.int .i64 b8) (.slice aB8 lB8 cB8) (.slice aD8 lD8 cD8) (.slice aW8 lW8 cW8) (.int .i64 ops8) (.bool off8) (.int .i64 after8) (.slice aT8 lT8 cT8)
  have he := h.eg
  have hgl := h.gl
  have hr := h.rp.but fun k hk hn => hs.block k hk fun x => hn (.inr x)
  refine ⟨⟨h.ch.trans (hs.mono fun k x => by omega), h.ft, he, h.gn, hgl, ⟨s8, p8, b8, ops8, after8, off8, aB8, aD8, aW8, aT8, lB8, cB8, lD8, cD8, lW8, cW8, lT8, cT8, hr, hb.set10 _ _ _ _ _ _ _ _ _ _⟩, ?_, h.gd⟩, hr⟩
  exact h.pr.but hs (fun k x => .inr x) (fun k x y => by subst y; exact h.gn x)
set_option maxRecDepth 100000 in
set_option maxHeartbeats 20000000 in
theorem plays_main (s p b : Nat) (a1 : Option Addr) (len1 cap1 : Nat) (Al : Nat → Ac) (w : World) (hs : 0 < s ∧ s ≤ 16) (hp : 0 < p ∧ p ≤ 16) (hb : 16 ≤ b ∧ b ≤ 64) (hck0 : chk s p b = 0) (hl : len1 ≤ 60) (hA : Acts w a1 len1 Al) (hAm : ∀ i, i < len1 → (Al i).len ≤ 140737488355328) :
    Calls Try.prog 3 #[.agg #[.int .i64 s, .int .i64 p, .int .i64 b], .slice a1 len1 cap1] w fun e w' => e = .returned (.bool true) ∧ Below w.heap.size w w' := by
  have hsml : sml s p b = true := decide_eq_true (Or.inr (by omega))
  have hsm : ∀ W, _ := fun W => small_any s p b W (by omega) (by omega) (by omega)
  rw [hsml] at hsm
  have hpc : ∀ W, _ := fun W => pcheck_any s p b W
  have hrc : ∀ W, _ := fun W => check_any s p b W (by omega) (by omega) (by omega)
  rw [hck0] at hpc hrc
  have hn0 : ∀ W, _ := fun W => num_any 0 W (by decide)
  have h0 := Box.new w 23 [.int .i64 s, .int .i64 p, .int .i64 b]
  have HG : Hid (w.grownBy (w.alloc (.cells #[.int .i64 s, .int .i64 p, .int .i64 b] 23)) none) := World.grownBy_alloc _ _ _
  have H0 : Hid _ := h0
  have HA : Hid _ := And.intro hA hAm
  clear h0 hsml hA hAm
  go_enter Try.func3, Try.ntmps3
  go_wp2_with fail
  refine (hsm _).mono ?_
  rintro e W1 ⟨rfl, hg1⟩
  have H1 : Hid _ := And.intro (grown_trans HG.out hg1) (H0.out.grown hg1)
  clear hg1 HG H0 hsm
  generalize hgg : w.heap.size = g at *
  have c0 : W1.cell? ⟨g, 0, none⟩ = some (.int .i64 s) := H1.out.2.c 0
  have c1 : W1.cell? ⟨g, 1, none⟩ = some (.int .i64 p) := H1.out.2.c 1
  have c2 : W1.cell? ⟨g, 2, none⟩ = some (.int .i64 b) := H1.out.2.c 2
  go_wp2_with fail
  refine (prep_new s p b W1 (fun _ => True) hs hp hb).mono ?_
  rintro e W2 ⟨fb, bb, db, wb, rfl, hg2, hP2, hF2⟩
  have hgW1 : g < W1.heap.size := H1.out.2.lt
  have H2 : Hid _ := And.intro (grown_trans H1.out.1 hg2) (And.intro (H1.out.2.grown hg2) (And.intro hP2 (fun k x => Nat.lt_of_lt_of_le hgW1 (hF2 k x) : ∀ k, foot fb bb db wb k → g < k)))
  clear hg2 H1 c0 c1 c2 hP2 hF2 hgW1
  have c0 : W2.cell? ⟨g, 0, none⟩ = some (.int .i64 s) := H2.out.2.1.c 0
  have c1 : W2.cell? ⟨g, 1, none⟩ = some (.int .i64 p) := H2.out.2.1.c 1
  have c2 : W2.cell? ⟨g, 2, none⟩ = some (.int .i64 b) := H2.out.2.1.c 2
  have HD : Hid (W2.grownBy W2.drew none) := grown_drewN (World.grownBy.refl _ _) 1
  go_wp2_with fail
  go_region_held3 (fun w' => w'.cell? ⟨g, 0, none⟩ = some (.int .i64 s) ∧ w'.cell? ⟨g, 1, none⟩ = some (.int .i64 p) ∧ w'.cell? ⟨g, 2, none⟩ = some (.int .i64 b) ∧ Hid (W2.grownBy w' none)) (first | (refine ⟨?_, ?_, ?_, ?_⟩ <;> assumption) | go_keep)
    (first
     | (go_at_call 13; refine (hpc _).mono ?_; rintro e w' ⟨rfl, hg'⟩; have q0 := keep1 hg' (b := g) (o := 0) (v := .int .i64 s) (by simp [*]); have q1 := keep1 hg' (b := g) (o := 1) (v := .int .i64 p) (by simp [*]); have q2 := keep1 hg' (b := g) (o := 2) (v := .int .i64 b) (by simp [*]); have q3 := hidG (by assumption) hg'; clear hg')
     | (go_at_call 12; refine (hrc _).mono ?_; rintro e w' ⟨rfl, hw'⟩; have hg' := (by rw [hw']; exact World.grownBy_alloc _ _ _ : World.grownBy _ w' none); clear hw'; have q0 := keep1 hg' (b := g) (o := 0) (v := .int .i64 s) (by simp [*]); have q1 := keep1 hg' (b := g) (o := 1) (v := .int .i64 p) (by simp [*]); have q2 := keep1 hg' (b := g) (o := 2) (v := .int .i64 b) (by simp [*]); have q3 := hidG (by assumption) hg'; clear hg')
     | (go_at_call 11; refine (hn0 _).mono ?_; rintro e w' ⟨rfl, rfl⟩))
  have H3 : Hid (W2.grownBy w' none) := q3
  rename_i hHeld
  clear hHeld q3 c0 c1 c2 HD hpc
  go_wp2_with fail
  refine (hrc _).mono ?_
  rintro e W4 ⟨rfl, hw4⟩
  have hg4 : W2.grownBy W4 none := grown_trans H3.out (by rw [hw4]; exact World.grownBy_alloc _ _ _)
  have H4 : Hid _ := And.intro (grown_trans H2.out.1 hg4) (And.intro (H2.out.2.1.grown hg4) (And.intro (H2.out.2.2.1.grown hg4) H2.out.2.2.2))
  clear hw4 hg4 H2 H3 q0 q1 q2 hrc
  have c0 : W4.cell? ⟨g, 0, none⟩ = some (.int .i64 s) := H4.out.2.1.c 0
  have c1 : W4.cell? ⟨g, 1, none⟩ = some (.int .i64 p) := H4.out.2.1.c 1
  have c2 : W4.cell? ⟨g, 2, none⟩ = some (.int .i64 b) := H4.out.2.1.c 2
  have hgW4 : g < W4.heap.size := H4.out.2.1.lt
  go_wp2_with fail
  refine (rep_new s p b W4 (foot fb bb db wb) H4.out.2.2.1.lt hs hp ⟨by omega, hb.2⟩).mono ?_
  rintro e W5 ⟨v', rfl, hg5, hR5⟩
  obtain ⟨s', p', b', ops', after', off', aB', aD', aW', aT', lB', cB', lD', cD', lW', cW', lT', cT', rfl⟩ := hR5.shape
  clear c0 c1 c2
  go_wp2_with fail
  have h6 : PL w (W5.alloc (.cells #[.int .i64 s', .int .i64 p', .int .i64 b', .slice aB' lB' cB', .slice aD' lD' cD', .slice aW' lW' cW', .int .i64 ops', .bool off', .int .i64 after', .slice aT' lT' cT'] 40)) g W5.heap.size fb bb db wb (Fm.new s p b) 0 := by
    have hga := World.grownBy_alloc W5 (.cells #[.int .i64 s', .int .i64 p', .int .i64 b', .slice aB' lB' cB', .slice aD' lD' cD', .slice aW' lW' cW', .int .i64 ops', .bool off', .int .i64 after', .slice aT' lT' cT'] 40) none
    have hgd : (Fm.new s p b).Good 0 := Fm.good_new hs hp ⟨by omega, hb.2⟩
    have hs5 := hg5.size
    have hP5 := H4.out.2.2.1.grown hg5
    refine ⟨Chg.of_none (grown_trans H4.out.1 (grown_trans hg5 hga)) _, H4.out.2.2.2, hgg, fun x => Nat.lt_irrefl _ (hP5.lt _ x), by omega, ⟨s', p', b', ops', after', off', aB', aD', aW', aT', lB', cB', lD', cD', lW', cW', lT', cT', ?_, Box.new W5 40 [.int .i64 s', .int .i64 p', .int .i64 b', .slice aB' lB' cB', .slice aD' lD' cD', .slice aW' lW' cW', .int .i64 ops', .bool off', .int .i64 after', .slice aT' lT' cT']⟩, (hP5.grown hga).less (fun _ _ => trivial), hgd⟩
    exact (hR5.fresh hgd (fun x hx => hx.elim .inl fun y => .inr (by omega))).grown hga
  have H6 : Hid _ := h6
  clear h6 hg5 hR5 H4 hgW4
  generalize (W5.alloc (.cells #[.int .i64 s', .int .i64 p', .int .i64 b', .slice aB' lB' cB', .slice aD' lD' cD', .slice aW' lW' cW', .int .i64 ops', .bool off', .int .i64 after', .slice aT' lT' cT'] 40)) = W6 at *
  generalize W5.heap.size = gr at *
  go_wp2_with fail
  go_loopw [8] (fun vj wr => ∃ (j : Nat) (m : Fm), vj = .int .i64 j ∧ j ≤ len1 ∧ Hid (PL w wr g gr fb bb db wb m j)) (fun vj _ => len1 - (intOf vj).toNat)
  case atStart => exact ⟨0, _, rfl, Nat.zero_le _, H6⟩
  case round =>
    clear H6
    obtain ⟨j, m, rfl, j1, HI⟩ := hrel
    obtain ⟨s1, p1, b1, ops, after, off, aB, aD, aW, aT, lB, cB, lD, cD, lW, cW, lT, cT, hRp, hbx⟩ := HI.out.st
    by_cases hj : j < len1
    · obtain ⟨lb, lo, rfl, hat⟩ := HA.out.1.at_ (by omega)
      have hact := (hat j hj).below HI.out.below
      have d0 := hact.c0
      have d1 := hact.c1
      have d2 := hact.c2
      have d3 := hact.c3
      have HAT : Hid _ := hat j hj
      have hlen := HA.out.2 j hj
      generalize hAj : Al j = B at *
      have hok := HAT.out.ok
      have hst : ∀ (W' : World) (F : Nat → Prop), wr.grownBy W' none → (∀ k, foot fb bb db wb k → F k) → (∀ k, F k → k < W'.heap.size) → (∀ k, F k → (foot fb bb db wb k ∨ k = gr) ∨ wr.heap.size ≤ k) → Calls Try.prog 15 #[.pointer (some ⟨fb, 0, none⟩), .agg #[.int .i64 s1, .int .i64 p1, .int .i64 b1, .slice aB lB cB, .slice aD lD cD, .slice aW lW cW, .int .i64 ops, .bool off, .int .i64 after, .slice aT lT cT], .agg #[.int .i64 B.d, .int .i64 B.at_, .int .i64 B.n, .slice B.a B.len B.cap]] W' fun e w' => StPost W' fb bb db wb F (m.act B) e w' := by
        intro W' F hgk hF1 hF2 hF3
        have hI := HI.out.grown hgk
        exact step_any ((HI.out.pr.fresh2 hF3).grown hgk) hF1 hF2 ((hRp.fresh HI.out.gd hF3).grown hgk) hI.gd (by omega) (hok.below hI.below) hlen (fun b' o e h0 x => by
          obtain ⟨b'', o'', e', hc⟩ := hok.row.cells h0
          rw [e] at e'
          injection e' with e'
          injection e' with e1 e2
          subst e1
          have := cell_lt (hc 0 h0)
          have := hI.ft _ x
          have := hI.eg
          omega)
      have hgA : wr.grownBy wr.drew none := grown_drewN (World.grownBy.refl _ _) 1
      have hgB : wr.grownBy (wr.alloc (.cells #[.int .i64 0, .int .i64 0, .int .i64 0, .slice none 0 0, .slice none 0 0, .slice none 0 0, .int .i64 0, .bool false, .int .i64 0, .slice none 0 0] 40)).drew none := grown_drewN (World.grownBy_alloc _ _ _) 1
      have hbl : gr < wr.heap.size := hbx.lt
      have hfl := HI.out.pr.lt
      have hsB : (wr.alloc (.cells #[.int .i64 0, .int .i64 0, .int .i64 0, .slice none 0 0, .slice none 0 0, .slice none 0 0, .int .i64 0, .bool false, .int .i64 0, .slice none 0 0] 40)).drew.heap.size = wr.heap.size + 1 := by
        show (wr.alloc (.cells #[.int .i64 0, .int .i64 0, .int .i64 0, .slice none 0 0, .slice none 0 0, .slice none 0 0, .int .i64 0, .bool false, .int .i64 0, .slice none 0 0] 40)).heap.size = _
        simp
      have hA := hst wr.drew (fun k => foot fb bb db wb k ∨ k = gr) hgA (fun k x => .inl x) (fun k x => x.elim (hfl k) fun y => by rw [y]; exact hbl) (fun k x => .inl x)
      have hB := hst (wr.alloc (.cells #[.int .i64 0, .int .i64 0, .int .i64 0, .slice none 0 0, .slice none 0 0, .slice none 0 0, .int .i64 0, .bool false, .int .i64 0, .slice none 0 0] 40)).drew (fun k => (foot fb bb db wb k ∨ k = gr) ∨ k = wr.heap.size) hgB (fun k x => .inl (.inl x)) (fun k x => by
          rw [hsB]
          rcases x with (x | x) | x
          · have := hfl k x; omega
          · omega
          · omega) (fun k x => x.elim .inl fun y => .inr (by omega))
      have n3 : ¬ wr.heap.size = gr := by omega
      have hlbl : lb < wr.heap.size := cell_lt d0
      have n4 : ¬ wr.heap.size = lb := by omega
      have hzB : Box (wr.alloc (.cells #[.int .i64 0, .int .i64 0, .int .i64 0, .slice none 0 0, .slice none 0 0, .slice none 0 0, .int .i64 0, .bool false, .int .i64 0, .slice none 0 0] 40)).drew wr.heap.size 40 [.int .i64 0, .int .i64 0, .int .i64 0, .slice none 0 0, .slice none 0 0, .slice none 0 0, .int .i64 0, .bool false, .int .i64 0, .slice none 0 0] := (Box.new wr 40 [.int .i64 0, .int .i64 0, .int .i64 0, .slice none 0 0, .slice none 0 0, .slice none 0 0, .int .i64 0, .bool false, .int .i64 0, .slice none 0 0]).grown (grown_drewN (World.grownBy.refl _ _) 1)
      have hactB : ∀ W', wr.grownBy W' none → ∀ W'', Chg (foot fb bb db wb) W' W'' → ActAt W'' lb lo j B := by
        intro W' h1 W'' h2
        have hI := HI.out.grown h1
        have hch : Chg (fun k => w.heap.size ≤ k) w W'' := hI.ch.trans (h2.mono fun k x => by have := hI.ft _ x; have := hI.eg; omega)
        exact HAT.out.below (hch.below (Nat.le_refl _) fun k x => x)
      have HS : Hid _ := And.intro hA (And.intro hB (And.intro hgA (And.intro hgB (And.intro hactB hzB))))
      have HQ : Hid _ := And.intro hRp hbx
      obtain ⟨c0, c1, c2, c3, c4, c5, c6, c7, c8, c9⟩ := hbx.c10
      clear hst hact hok hRp hbx hat hA hB hgA hgB hsB hactB hzB hfl
      go_wp2_with fail
      have hj' : (j : Int) < (len1 : Int) := by omega
      go_region_held3 (fun w' => w'.cell? ⟨gr, 0, none⟩ = some (Value.int .i64 s1) ∧ w'.cell? ⟨gr, 1, none⟩ = some (Value.int .i64 p1) ∧ w'.cell? ⟨gr, 2, none⟩ = some (Value.int .i64 b1) ∧ w'.cell? ⟨gr, 3, none⟩ = some (Value.slice aB lB cB) ∧ w'.cell? ⟨gr, 4, none⟩ = some (Value.slice aD lD cD) ∧ w'.cell? ⟨gr, 5, none⟩ = some (Value.slice aW lW cW) ∧ w'.cell? ⟨gr, 6, none⟩ = some (Value.int .i64 ops) ∧ w'.cell? ⟨gr, 7, none⟩ = some (Value.bool off) ∧ w'.cell? ⟨gr, 8, none⟩ = some (Value.int .i64 after) ∧ w'.cell? ⟨gr, 9, none⟩ = some (Value.slice aT lT cT) ∧ w'.cell? ⟨lb, lo + j * 4, none⟩ = some (.int .i64 B.d) ∧ w'.cell? ⟨lb, lo + j * 4 + 1, none⟩ = some (.int .i64 B.at_) ∧ w'.cell? ⟨lb, lo + j * 4 + 2, none⟩ = some (.int .i64 B.n) ∧ w'.cell? ⟨lb, lo + j * 4 + 3, none⟩ = some (.slice B.a B.len B.cap)) (simp (maxDischargeDepth := 12) [*, World.cell?_alloc_some, World.cell?_setCell_far])
        (first | (go_at_call 15; with_reducible refine HS.out.1.mono ?_; intro e W8 h8; unfold StPost at h8; obtain ⟨v8, he8, hc8, hP8, hR8⟩ := h8; subst he8; obtain ⟨s8, p8, b8, ops8, after8, off8, aB8, aD8, aW8, aT8, lB8, cB8, lD8, cD8, lW8, cW8, lT8, cT8, hv8⟩ := hR8.shape; subst hv8; have hb8 := hc8.box (HQ.out.2.grown HS.out.2.2.1) HI.out.gn; obtain ⟨r0, r1, r2, r3, r4, r5, r6, r7, r8, r9⟩ := hb8.c10; have ha8 := HS.out.2.2.2.2.1 _ HS.out.2.2.1 _ hc8; have t0 := ha8.c0; have t1 := ha8.c1; have t2 := ha8.c2; have t3 := ha8.c3; have n1 := World.new_ne W8 _ r0; have n2 := World.new_ne W8 _ t0; skip; clear ha8) | (go_at_call 15; with_reducible refine HS.out.2.1.mono ?_; intro e W8 h8; unfold StPost at h8; obtain ⟨v8, he8, hc8, hP8, hR8⟩ := h8; subst he8; obtain ⟨s8, p8, b8, ops8, after8, off8, aB8, aD8, aW8, aT8, lB8, cB8, lD8, cD8, lW8, cW8, lT8, cT8, hv8⟩ := hR8.shape; subst hv8; have hb8 := hc8.box (HQ.out.2.grown HS.out.2.2.2.1) HI.out.gn; obtain ⟨r0, r1, r2, r3, r4, r5, r6, r7, r8, r9⟩ := hb8.c10; have ha8 := HS.out.2.2.2.2.1 _ HS.out.2.2.2.1 _ hc8; have t0 := ha8.c0; have t1 := ha8.c1; have t2 := ha8.c2; have t3 := ha8.c3; have n1 := World.new_ne W8 _ r0; have n2 := World.new_ne W8 _ t0; have hz8 := hc8.box HS.out.2.2.2.2.2 (fun x => absurd (HI.out.pr.lt _ x) (Nat.lt_irrefl _)); obtain ⟨z0, z1, z2, z3, z4, z5, z6, z7, z8, z9⟩ := hz8.c10; obtain ⟨y0, y1, y2, y3, y4, y5, y6, y7, y8, y9⟩ := hz8.f10; skip; clear ha8))
      · have hbn := HAT.out.ok.bn.2
        have hgd := Fm.good_act (A := B) HI.out.gd hbn
        have hm8 : PM w (W8.alloc (.cells #[.int .i64 s8, .int .i64 p8, .int .i64 b8, .slice aB8 lB8 cB8, .slice aD8 lD8 cD8, .slice aW8 lW8 cW8, .int .i64 ops8, .bool off8, .int .i64 after8, .slice aT8 lT8 cT8] 40)) g gr W8.heap.size fb bb db wb (m.act B) (j + 1) [.int .i64 s8, .int .i64 p8, .int .i64 b8, .slice aB8 lB8 cB8, .slice aD8 lD8 cD8, .slice aW8 lW8 cW8, .int .i64 ops8, .bool off8, .int .i64 after8, .slice aT8 lT8 cT8] := pm_new HI.out HS.out.2.2.1 hc8 hP8 hR8 hb8 hgd
        clear c0 c1 c2 c3 c4 c5 c6 c7 c8 c9 r0 r1 r2 r3 r4 r5 r6 r7 r8 r9 d0 d1 d2 d3 t0 t1 t2 t3 n1 n2 hc8 hP8 hR8 hb8 hgd hbn HQ HS 
        generalize (W8.alloc (.cells #[.int .i64 s8, .int .i64 p8, .int .i64 b8, .slice aB8 lB8 cB8, .slice aD8 lD8 cD8, .slice aW8 lW8 cW8, .int .i64 ops8, .bool off8, .int .i64 after8, .slice aT8 lT8 cT8] 40)) = WX at hm8 ⊢
        generalize W8.heap.size = gs at hm8 ⊢
        obtain ⟨x0, x1, x2, x3, x4, x5, x6, x7, x8, x9, hbg⟩ := hm8.bg
        obtain ⟨c0, c1, c2, c3, c4, c5, c6, c7, c8, c9⟩ := hm8.bs.c10
        obtain ⟨z0, z1, z2, z3, z4, z5, z6, z7, z8, z9⟩ := hbg.c10
        obtain ⟨y0, y1, y2, y3, y4, y5, y6, y7, y8, y9⟩ := hbg.f10
        have hne1 : ¬ gs = gr := hm8.ne
        have hne2 : ¬ gr = gs := fun e => hm8.ne e.symm
        have hdn := hm8.done
        have hsame := same_any hdn.1.pr hdn.2 hdn.1.gd
        have HD : Hid _ := hdn.1
        clear hm8 hbg hdn
        go_wp2_with fail
        with_reducible refine hsame.mono ?_
        rintro e W10 ⟨rfl, hg10⟩
        have HE : Hid (PL w W10 g gr fb bb db wb (m.act B) (j + 1)) := HD.out.grown hg10
        clear hg10 HD hsame c0 c1 c2 c3 c4 c5 c6 c7 c8 c9 z0 z1 z2 z3 z4 z5 z6 z7 z8 z9 y0 y1 y2 y3 y4 y5 y6 y7 y8 y9
        go_wp2_with fail
        go_roundw
        case rel => exact ⟨j + 1, _, by go_num, by omega, HE⟩
        case measure => simp [intOf]; omega
      · have hbn := HAT.out.ok.bn.2
        have hgd := Fm.good_act (A := B) HI.out.gd hbn
        have hm8 : PM w ((((((((((W8.setCell ⟨wr.heap.size, 0, none⟩ (.int .i64 s8)).setCell ⟨wr.heap.size, 1, none⟩ (.int .i64 p8)).setCell ⟨wr.heap.size, 2, none⟩ (.int .i64 b8)).setCell ⟨wr.heap.size, 3, none⟩ (.slice aB8 lB8 cB8)).setCell ⟨wr.heap.size, 4, none⟩ (.slice aD8 lD8 cD8)).setCell ⟨wr.heap.size, 5, none⟩ (.slice aW8 lW8 cW8)).setCell ⟨wr.heap.size, 6, none⟩ (.int .i64 ops8)).setCell ⟨wr.heap.size, 7, none⟩ (.bool off8)).setCell ⟨wr.heap.size, 8, none⟩ (.int .i64 after8)).setCell ⟨wr.heap.size, 9, none⟩ (.slice aT8 lT8 cT8)) g gr wr.heap.size fb bb db wb (m.act B) (j + 1) [.int .i64 s8, .int .i64 p8, .int .i64 b8, .slice aB8 lB8 cB8, .slice aD8 lD8 cD8, .slice aW8 lW8 cW8, .int .i64 ops8, .bool off8, .int .i64 after8, .slice aT8 lT8 cT8] := pm_old HI.out HS.out.2.2.2.1 hc8 hP8 _ _ _ _ _ _ _ _ _ _ hR8 hb8 hz8 n3 (fun x => absurd (HI.out.pr.lt _ x) (Nat.lt_irrefl _)) (by have := HI.out.gl; omega) hgd
        clear c0 c1 c2 c3 c4 c5 c6 c7 c8 c9 r0 r1 r2 r3 r4 r5 r6 r7 r8 r9 d0 d1 d2 d3 t0 t1 t2 t3 n1 n2 hc8 hP8 hR8 hb8 hgd hbn HQ HS hz8
        generalize ((((((((((W8.setCell ⟨wr.heap.size, 0, none⟩ (.int .i64 s8)).setCell ⟨wr.heap.size, 1, none⟩ (.int .i64 p8)).setCell ⟨wr.heap.size, 2, none⟩ (.int .i64 b8)).setCell ⟨wr.heap.size, 3, none⟩ (.slice aB8 lB8 cB8)).setCell ⟨wr.heap.size, 4, none⟩ (.slice aD8 lD8 cD8)).setCell ⟨wr.heap.size, 5, none⟩ (.slice aW8 lW8 cW8)).setCell ⟨wr.heap.size, 6, none⟩ (.int .i64 ops8)).setCell ⟨wr.heap.size, 7, none⟩ (.bool off8)).setCell ⟨wr.heap.size, 8, none⟩ (.int .i64 after8)).setCell ⟨wr.heap.size, 9, none⟩ (.slice aT8 lT8 cT8)) = WX at hm8 ⊢
        generalize wr.heap.size = gs at hm8 ⊢
        obtain ⟨x0, x1, x2, x3, x4, x5, x6, x7, x8, x9, hbg⟩ := hm8.bg
        obtain ⟨c0, c1, c2, c3, c4, c5, c6, c7, c8, c9⟩ := hm8.bs.c10
        obtain ⟨z0, z1, z2, z3, z4, z5, z6, z7, z8, z9⟩ := hbg.c10
        obtain ⟨y0, y1, y2, y3, y4, y5, y6, y7, y8, y9⟩ := hbg.f10
        have hne1 : ¬ gs = gr := hm8.ne
        have hne2 : ¬ gr = gs := fun e => hm8.ne e.symm
        have hdn := hm8.done
        have hsame := same_any hdn.1.pr hdn.2 hdn.1.gd
        have HD : Hid _ := hdn.1
        clear hm8 hbg hdn
        go_wp2_with fail
        with_reducible refine hsame.mono ?_
        rintro e W10 ⟨rfl, hg10⟩
        have HE : Hid (PL w W10 g gr fb bb db wb (m.act B) (j + 1)) := HD.out.grown hg10
        clear hg10 HD hsame c0 c1 c2 c3 c4 c5 c6 c7 c8 c9 z0 z1 z2 z3 z4 z5 z6 z7 z8 z9 y0 y1 y2 y3 y4 y5 y6 y7 y8 y9
        go_wp2_with fail
        go_roundw
        case rel => exact ⟨j + 1, _, by go_num, by omega, HE⟩
        case measure => simp [intOf]; omega
    · have ej : j = len1 := by omega
      subst ej
      have hBt := prep_boot HI.out.pr
      clear hj
      go_wp2_with fail
      with_reducible refine hBt.mono ?_
      rintro e W8 ⟨rfl, hc8, hP8⟩
      have hb8 := hc8.box hbx HI.out.gn
      have hR8 := hRp.but (fun k hk hF => hc8.block k hk fun x => hF (.inl x))
      obtain ⟨c0, c1, c2, c3, c4, c5, c6, c7, c8, c9⟩ := hb8.c10
      have hch8 : Chg (fun k => w.heap.size ≤ k) w W8 := HI.out.ch.trans (hc8.mono fun k x => by have := HI.out.ft _ x; have := HI.out.eg; omega)
      have H8 : Hid _ := And.intro hP8 (And.intro hR8 (And.intro hch8 HI.out.gd))
      clear hc8 hP8 hb8 hR8 hch8 hBt hRp hbx HI
      go_wp2_with fail
      refine (rep_boot H8.out.2.1).mono ?_
      rintro e W9 ⟨v9, rfl, hg9, hR9⟩
      have hsame := same_any (H8.out.1.grown hg9) hR9 (Fm.good_boot H8.out.2.2.2)
      have H9 : Hid (Chg (fun k => w.heap.size ≤ k) w W9) := H8.out.2.2.1.trans (Chg.of_none hg9 _)
      clear hg9 hR9 H8 c0 c1 c2 c3 c4 c5 c6 c7 c8 c9
      go_wp2_with fail
      with_reducible refine hsame.mono ?_
      rintro e W10 ⟨rfl, hg10⟩
      have H10 : Hid (Chg (fun k => w.heap.size ≤ k) w W10) := H9.out.trans (Chg.of_none hg10 _)
      clear hg10 H9 hsame
      go_wp2_with (first | (go_at_call 9; refine (live_any _).mono ?_; rintro e W11 ⟨rfl, hg11⟩))
      go_ret
      exact ⟨rfl, (H10.out.below (Nat.le_refl _) fun k x => x).trans ((grown_below hg11).mono H10.out.size)⟩
end Go.Proofs.Ytdefcfmnhfeblaa
