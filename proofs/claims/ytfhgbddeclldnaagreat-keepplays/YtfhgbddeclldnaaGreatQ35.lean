/- KeepPlays: calls one by one. The walk of KeepPlays, whatever comes in. -/
import Derived.Test.YtfhgbddeclldnaaGreatQ34
namespace Go.Proofs.YtfhgbddeclldnaaGreat
open Go.RowKit
set_option maxRecDepth 100000
set_option linter.unusedSimpArgs false
set_option linter.unusedVariables false

/-- the program's flash and the document's, between two calls -/
structure L9 (w wr : World) (g gr fb bb db wb : Nat) (P : Pa.Pl) (m : Fm) (j : Nat) : Prop where
  ch : Chg (fun k => w.heap.size ≤ k) w wr
  ft : ∀ k, foot fb bb db wb k → g + 1 < k
  eg : w.heap.size = g
  gn : ¬ foot fb bb db wb gr
  gl : g + 1 < gr
  pb : Box wr (g + 1) 26 P.cells
  st : ∃ (s p b ops after : Int) (off : Bool) (aB aD aW aT : Option Addr) (lB cB lD cD lW cW lT cT : Nat), Rep wr (.agg #[.int .i64 s, .int .i64 p, .int .i64 b, .slice aB lB cB, .slice aD lD cD, .slice aW lW cW, .int .i64 ops, .bool off, .int .i64 after, .slice aT lT cT]) m (fun k => foot fb bb db wb k ∨ k = gr) ∧ Box wr gr 42 [.int .i64 s, .int .i64 p, .int .i64 b, .slice aB lB cB, .slice aD lD cD, .slice aW lW cW, .int .i64 ops, .bool off, .int .i64 after, .slice aT lT cT]
  pr : PRep wr fb bb db wb m (fun k => foot fb bb db wb k ∨ k = gr)
  gd : m.Good (4 * j)
theorem L9.grown {w wr W' : World} {g gr fb bb db wb : Nat} {P : Pa.Pl} {m : Fm} {j : Nat} (h : L9 w wr g gr fb bb db wb P m j) (hg : wr.grownBy W' none) : L9 w W' g gr fb bb db wb P m j := by
  obtain ⟨s, p, b, ops, after, off, aB, aD, aW, aT, lB, cB, lD, cD, lW, cW, lT, cT, h1, h2⟩ := h.st
  exact ⟨h.ch.trans (Chg.of_none hg _), h.ft, h.eg, h.gn, h.gl, h.pb.grown hg, ⟨s, p, b, ops, after, off, aB, aD, aW, aT, lB, cB, lD, cD, lW, cW, lT, cT, h1.grown hg, h2.grown hg⟩, h.pr.grown hg, h.gd⟩
theorem L9.below {w wr : World} {g gr fb bb db wb : Nat} {P : Pa.Pl} {m : Fm} {j : Nat} (h : L9 w wr g gr fb bb db wb P m j) : Below w.heap.size w wr := h.ch.below (Nat.le_refl _) fun k x => x
/-- what a round reads -/
structure R9 (W : World) (g gr lb lo j : Nat) (P : Pa.Pl) (A : A9) (cs : List Value) : Prop where
  r : Box W gr 42 cs
  p : Box W (g + 1) 26 P.cells
  a : ∀ t, t < 10 → W.cell? ⟨lb, lo + j * 10 + t, none⟩ = A.cells[t]?
  lt : lb < W.heap.size
theorem R9.chg {W W' : World} {g gr lb lo j : Nat} {P : Pa.Pl} {A : A9} {cs : List Value} {F : Nat → Prop} (h : R9 W g gr lb lo j P A cs) (k : Chg F W W') (h1 : ¬ F gr) (h2 : ¬ F (g + 1)) (h3 : ¬ F lb) : R9 W' g gr lb lo j P A cs :=
  ⟨k.box h.r h1, k.box h.p h2, fun t ht => by rw [← h.a t ht]; unfold World.cell?; simp only; rw [k.block lb h.lt h3], Nat.lt_of_lt_of_le h.lt k.size⟩
theorem R9.kept {W W' : World} {g gr lb lo j : Nat} {P : Pa.Pl} {A : A9} {cs : List Value} (h : R9 W g gr lb lo j P A cs) (k : W.grownBy W' none) : R9 W' g gr lb lo j P A cs := h.chg (Chg.of_none k (fun _ => False)) id id id
theorem R9.but {W W' : World} {g gr lb lo j gs : Nat} {P : Pa.Pl} {A : A9} {cs : List Value} (h : R9 W g gr lb lo j P A cs) (k : W.grownBy W' (some gs)) (h1 : gs ≠ gr) (h2 : gs ≠ g + 1) (h3 : gs ≠ lb) : R9 W' g gr lb lo j P A cs :=
  h.chg (F := fun x => x = gs) ⟨k.os, k.tape, k.output, k.size, fun x hx hn => k.block x hx (by intro e; injection e with e; exact hn e)⟩ (fun e => h1 e.symm) (fun e => h2 e.symm) (fun e => h3 e.symm)
theorem R9.c10 {W : World} {g gr lb lo j : Nat} {P : Pa.Pl} {A : A9} {cs : List Value} (h : R9 W g gr lb lo j P A cs) {v0 v1 v2 v3 v4 v5 v6 v7 v8 v9 : Value} (e : A.cells = [v0, v1, v2, v3, v4, v5, v6, v7, v8, v9]) : W.cell? ⟨lb, lo + j * 10, none⟩ = some v0 ∧ W.cell? ⟨lb, lo + j * 10 + 1, none⟩ = some v1 ∧ W.cell? ⟨lb, lo + j * 10 + 2, none⟩ = some v2 ∧ W.cell? ⟨lb, lo + j * 10 + 3, none⟩ = some v3 ∧ W.cell? ⟨lb, lo + j * 10 + 4, none⟩ = some v4 ∧ W.cell? ⟨lb, lo + j * 10 + 5, none⟩ = some v5 ∧ W.cell? ⟨lb, lo + j * 10 + 6, none⟩ = some v6 ∧ W.cell? ⟨lb, lo + j * 10 + 7, none⟩ = some v7 ∧ W.cell? ⟨lb, lo + j * 10 + 8, none⟩ = some v8 ∧ W.cell? ⟨lb, lo + j * 10 + 9, none⟩ = some v9 := by
  have a := h.a
  rw [e] at a
  exact ⟨a 0 (by decide), a 1 (by decide), a 2 (by decide), a 3 (by decide), a 4 (by decide), a 5 (by decide), a 6 (by decide), a 7 (by decide), a 8 (by decide), a 9 (by decide)⟩
/-- behind a call, ahead of 'r = s' -/
structure M9 (w WX : World) (g gr gs fb bb db wb : Nat) (P : Pa.Pl) (m : Fm) (j : Nat) (vs : List Value) : Prop where
  ch : Chg (fun k => w.heap.size ≤ k) w WX
  ft : ∀ k, foot fb bb db wb k → g + 1 < k
  eg : w.heap.size = g
  gn : ¬ foot fb bb db wb gr
  gl : g + 1 < gr
  pb : Box WX (g + 1) 26 P.cells
  rp : Rep WX (.agg vs.toArray) m (fun k => foot fb bb db wb k ∨ k = gr)
  bs : Bx WX gs 42 vs
  bg : ∃ os : List Value, os.length = 10 ∧ Bx WX gr 42 os
  pr : PRep WX fb bb db wb m (fun k => foot fb bb db wb k ∨ k = gr)
  gd : m.Good (4 * j)
/-- a call, then its answer in a new variable (made behind it, or ahead of it) -/
theorem m9_new {w wr W0 W8 W9 : World} {g gr gs fb bb db wb : Nat} {P : Pa.Pl} {m m' : Fm} {j : Nat} {vs cs : List Value} {F : Nat → Prop} (h : L9 w wr g gr fb bb db wb P m j) (h0 : wr.grownBy W0 none) (hc : Chg (foot fb bb db wb) W0 W8) (hF : ∀ k, (foot fb bb db wb k ∨ k = gr) → F k) (hP : PRep W8 fb bb db wb m' F) (hR : Rep W8 (.agg vs.toArray) m' F) (hb : Box wr gr 42 cs) (hcs : cs.length = 10) (hgs : wr.heap.size ≤ gs) (hs : W8.grownBy W9 (some gs)) (hz : Bx W9 gs 42 vs) (hg : m'.Good (4 * (j + 1))) (hFg : gs < W8.heap.size → F gs) : M9 w W9 g gr gs fb bb db wb P m' (j + 1) vs := by
  have he := h.eg
  have hlr := hb.lt
  have hlp := h.pb.lt
  have hlf := h.pr.lt
  have c9 : Chg (fun k => k = gs) W8 W9 := ⟨hs.os, hs.tape, hs.output, hs.size, fun x hx hn => hs.block x hx (by intro e; injection e with e; exact hn e)⟩
  have hgl := h.gl
  have hp8 := hc.box (h.pb.grown h0) (fun x => by have := h.ft _ x; omega)
  have hb8 := hc.box (hb.grown h0) h.gn
  refine ⟨((h.ch.trans (Chg.of_none h0 _)).trans (hc.mono fun k x => by have := h.ft _ x; omega)).trans (c9.mono fun k x => by omega), h.ft, he, h.gn, hgl, c9.box hp8 (by omega), ?_, hz, ⟨cs, hcs, ⟨(c9.box hb8 (by omega)).blk⟩⟩, ?_, hg⟩
  · exact (hR.but fun k hk hn => c9.block k hk fun x => hn (by subst x; exact hFg hk)).less hF
  · by_cases hlt : gs < W8.heap.size
    · exact (hP.but c9 (fun k x => by subst x; exact hFg hlt) (fun k x y => by have := hlf _ x; omega)).less9 hF
    · have g9 : W8.grownBy W9 none := ⟨hs.os, hs.tape, hs.output, hs.size, fun x hx _ => hs.block x hx (by intro e; injection e with e; omega)⟩
      exact (hP.grown g9).less9 hF
theorem M9.done {w WX WY : World} {g gr gs fb bb db wb : Nat} {P : Pa.Pl} {m : Fm} {j : Nat} {s8 p8 b8 ops8 after8 : Int} {off8 : Bool} {aB8 aD8 aW8 aT8 : Option Addr} {lB8 cB8 lD8 cD8 lW8 cW8 lT8 cT8 : Nat} (h : M9 w WX g gr gs fb bb db wb P m j [.int .i64 s8, .int .i64 p8, .int .i64 b8, .slice aB8 lB8 cB8, .slice aD8 lD8 cD8, .slice aW8 lW8 cW8, .int .i64 ops8, .bool off8, .int .i64 after8, .slice aT8 lT8 cT8]) (hb : Bx WY gr 42 [.int .i64 s8, .int .i64 p8, .int .i64 b8, .slice aB8 lB8 cB8, .slice aD8 lD8 cD8, .slice aW8 lW8 cW8, .int .i64 ops8, .bool off8, .int .i64 after8, .slice aT8 lT8 cT8]) (hs : WX.grownBy WY (some gr)) : L9 w WY g gr fb bb db wb P m j ∧ Rep WY (.agg #[.int .i64 s8, .int .i64 p8, .int .i64 b8, .slice aB8 lB8 cB8, .slice aD8 lD8 cD8, .slice aW8 lW8 cW8, .int .i64 ops8, .bool off8, .int .i64 after8, .slice aT8 lT8 cT8]) m (fun k => foot fb bb db wb k ∨ k = gr) := by
  have he := h.eg
  have hgl := h.gl
  have c9 : Chg (fun k => k = gr) WX WY := ⟨hs.os, hs.tape, hs.output, hs.size, fun x hx hn => hs.block x hx (by intro e; injection e with e; exact hn e)⟩
  have hr := h.rp.but fun k hk hn => c9.block k hk fun x => hn (.inr x)
  refine ⟨⟨h.ch.trans (c9.mono fun k x => by omega), h.ft, he, h.gn, hgl, c9.box h.pb (by omega), ⟨s8, p8, b8, ops8, after8, off8, aB8, aD8, aW8, aT8, lB8, cB8, lD8, cD8, lW8, cW8, lT8, cT8, hr, ⟨hb.blk⟩⟩, ?_, h.gd⟩, hr⟩
  exact h.pr.but c9 (fun k x => .inr x) (fun k x y => by subst y; exact h.gn x)
set_option maxRecDepth 100000 in
set_option maxHeartbeats 20000000 in
theorem plays9_main (s p b : Nat) (P : Pa.Pl) (a1 : Option Addr) (len1 cap1 : Nat) (Al : Nat → A9) (w : World) (hs : 0 < s ∧ s ≤ 16) (hp : 0 < p ∧ p ≤ 16) (hb : 16 ≤ b ∧ b ≤ 64) (hck0 : chk s p b = 0) (hP : P.ok) (hl : len1 ≤ 40) (hA : Acts9 w a1 len1 Al) :
    Calls Tryz.prog 3 #[.agg #[.int .i64 s, .int .i64 p, .int .i64 b], P.val, .slice a1 len1 cap1] w fun e w' => e = .returned (.bool true) ∧ Below w.heap.size w w' := by
  have hsml : sml s p b = true := decide_eq_true (Or.inr (by omega))
  have hsm : ∀ W, _ := fun W => small_any s p b W (by omega) (by omega) (by omega)
  rw [hsml] at hsm
  have hrc : ∀ W, _ := fun W => check_any s p b W (by omega) (by omega) (by omega)
  rw [hck0] at hrc
  have HL : Hid (∀ W : World, Calls Tryz.prog 6 #[] W fun e w' => e = .returned (.bool true) ∧ W.grownBy w' none) := fun W => live9_any W
  have h0 := Box.new w 23 [.int .i64 s, .int .i64 p, .int .i64 b]
  have h1 := Box.new (w.alloc (.cells #[.int .i64 s, .int .i64 p, .int .i64 b] 23)) 26 P.cells
  rw [World.size_alloc] at h1
  have ga := World.grownBy_alloc (w.alloc (.cells #[.int .i64 s, .int .i64 p, .int .i64 b] 23)) (.cells P.cells.toArray 26) none
  have H0 : Hid _ := And.intro (h0.grown ga) (And.intro h1 (grown_trans (World.grownBy_alloc w (.cells #[.int .i64 s, .int .i64 p, .int .i64 b] 23) none) ga))
  have HA : Hid _ := And.intro hA (And.intro hP (And.intro hs (And.intro hp hb)))
  have hli : ¬ (40 : Int) < (len1 : Int) := by omega
  have HLE : Hid _ := hl
  clear h0 h1 ga hsml hA hP hck0 hs hp hb hl
  obtain ⟨ps, pp, pb, px0, px1, py0, py1, pn⟩ := P
  simp only [Pa.Pl.val, Pa.Pl.cells] at *
  generalize hgs0 : (s : Int) = si at *
  generalize hgp0 : (p : Int) = pi at *
  generalize hgb0 : (b : Int) = bi at *
  have HI0 : Hid _ := And.intro hgs0 (And.intro hgp0 hgb0)
  clear hgs0 hgp0 hgb0
  go_enter Tryz.func3, Tryz.ntmps3
  go_wp2_with fail
  refine (hsm _).mono ?_
  rintro e W1 ⟨rfl, hg1⟩
  have H1 : Hid _ := And.intro (H0.out.1.grown hg1) (And.intro (H0.out.2.1.grown hg1) (grown_trans H0.out.2.2 hg1))
  clear hg1 H0 hsm
  generalize hgg : w.heap.size = g at *
  have c0 : W1.cell? ⟨g, 0, none⟩ = some (.int .i64 si) := H1.out.1.c 0
  have c1 : W1.cell? ⟨g, 1, none⟩ = some (.int .i64 pi) := H1.out.1.c 1
  have c2 : W1.cell? ⟨g, 2, none⟩ = some (.int .i64 bi) := H1.out.1.c 2
  go_wp2_with fail
  refine (hrc _).mono ?_
  rintro e W2 ⟨rfl, hw2⟩
  have hg2 : W1.grownBy W2 none := by rw [hw2]; exact World.grownBy_alloc _ _ _
  have H2 : Hid _ := And.intro (H1.out.1.grown hg2) (And.intro (H1.out.2.1.grown hg2) (grown_trans H1.out.2.2 hg2))
  clear hw2 hg2 H1 hrc c0 c1 c2
  have c0 : W2.cell? ⟨g, 0, none⟩ = some (.int .i64 si) := H2.out.1.c 0
  have c1 : W2.cell? ⟨g, 1, none⟩ = some (.int .i64 pi) := H2.out.1.c 1
  have c2 : W2.cell? ⟨g, 2, none⟩ = some (.int .i64 bi) := H2.out.1.c 2
  go_wp2_with fail
  have hnw := prep_new s p b W2 (fun _ => True) HA.out.2.2.1 HA.out.2.2.2.1 HA.out.2.2.2.2
  rw [HI0.out.1, HI0.out.2.1, HI0.out.2.2] at hnw
  refine hnw.mono ?_
  rintro e W3 ⟨fb, bb, db, wb, rfl, hg3, hP3, hF3⟩
  have hgW2 : g + 1 < W2.heap.size := H2.out.2.1.lt
  have H3 : Hid _ := And.intro (H2.out.1.grown hg3) (And.intro (H2.out.2.1.grown hg3) (And.intro (grown_trans H2.out.2.2 hg3) (And.intro hP3 (fun k x => Nat.lt_of_lt_of_le hgW2 (hF3 k x) : ∀ k, foot fb bb db wb k → g + 1 < k))))
  clear hg3 H2 c0 c1 c2 hP3 hF3 hgW2 hnw
  have c0 : W3.cell? ⟨g, 0, none⟩ = some (.int .i64 si) := H3.out.1.c 0
  have c1 : W3.cell? ⟨g, 1, none⟩ = some (.int .i64 pi) := H3.out.1.c 1
  have c2 : W3.cell? ⟨g, 2, none⟩ = some (.int .i64 bi) := H3.out.1.c 2
  go_wp2_with (first | (go_at_call 8; with_reducible refine (num9_any _ _).mono ?_; rintro e w' ⟨rfl, rfl⟩))
  have hgW3 : g + 1 < W3.heap.size := H3.out.2.1.lt
  have hrn := rep_new s p b W3 (foot fb bb db wb) H3.out.2.2.2.1.lt HA.out.2.2.1 HA.out.2.2.2.1 ⟨by have := HA.out.2.2.2.2; omega, HA.out.2.2.2.2.2⟩
  rw [HI0.out.1, HI0.out.2.1, HI0.out.2.2] at hrn
  refine hrn.mono ?_
  rintro e W5 ⟨v', rfl, hg5, hR5⟩
  obtain ⟨s', p', b', ops', after', off', aB', aD', aW', aT', lB', cB', lD', cD', lW', cW', lT', cT', rfl⟩ := hR5.shape
  clear c0 c1 c2 hrn
  go_wp2_with fail
  have h6 : L9 w (W5.alloc (.cells #[.int .i64 s', .int .i64 p', .int .i64 b', .slice aB' lB' cB', .slice aD' lD' cD', .slice aW' lW' cW', .int .i64 ops', .bool off', .int .i64 after', .slice aT' lT' cT'] 42)) g W5.heap.size fb bb db wb ⟨ps, pp, pb, px0, px1, py0, py1, pn⟩ (Fm.new s p b) 0 := by
    have hga := World.grownBy_alloc W5 (.cells #[.int .i64 s', .int .i64 p', .int .i64 b', .slice aB' lB' cB', .slice aD' lD' cD', .slice aW' lW' cW', .int .i64 ops', .bool off', .int .i64 after', .slice aT' lT' cT'] 42) none
    have hgd : (Fm.new s p b).Good 0 := Fm.good_new HA.out.2.2.1 HA.out.2.2.2.1 ⟨by have := HA.out.2.2.2.2; omega, HA.out.2.2.2.2.2⟩
    have hs5 := hg5.size
    have hP5 := H3.out.2.2.2.1.grown hg5
    refine ⟨Chg.of_none (grown_trans H3.out.2.2.1 (grown_trans hg5 hga)) _, H3.out.2.2.2.2, hgg, fun x => Nat.lt_irrefl _ (hP5.lt _ x), by omega, (H3.out.2.1.grown hg5).grown hga, ⟨s', p', b', ops', after', off', aB', aD', aW', aT', lB', cB', lD', cD', lW', cW', lT', cT', ?_, Box.new W5 42 [.int .i64 s', .int .i64 p', .int .i64 b', .slice aB' lB' cB', .slice aD' lD' cD', .slice aW' lW' cW', .int .i64 ops', .bool off', .int .i64 after', .slice aT' lT' cT']⟩, (hP5.grown hga).less9 (fun _ _ => trivial), hgd⟩
    exact (hR5.fresh hgd (fun x hx => hx.elim .inl fun y => .inr (by omega))).grown hga
  have H6 : Hid _ := h6
  clear h6 hg5 hR5 H3 hgW3
  generalize (W5.alloc (.cells #[.int .i64 s', .int .i64 p', .int .i64 b', .slice aB' lB' cB', .slice aD' lD' cD', .slice aW' lW' cW', .int .i64 ops', .bool off', .int .i64 after', .slice aT' lT' cT'] 42)) = W6 at *
  generalize W5.heap.size = gr at *
  go_wp2_with fail
  go_loopw [10] (fun vj wr => ∃ (j : Nat) (m : Fm), vj = .int .i64 j ∧ j ≤ len1 ∧ Hid (L9 w wr g gr fb bb db wb ⟨ps, pp, pb, px0, px1, py0, py1, pn⟩ m j)) (fun vj _ => len1 - (intOf vj).toNat)
  case atStart => exact ⟨0, _, rfl, Nat.zero_le _, H6⟩
  case round =>
    clear H6
    obtain ⟨j, m, rfl, j1, HI⟩ := hrel
    obtain ⟨s1, p1, b1, ops, after, off, aB, aD, aW, aT, lB, cB, lD, cD, lW, cW, lT, cT, hRp, hbx⟩ := HI.out.st
    by_cases hj : j < len1
    · obtain ⟨lb, lo, rfl, hat⟩ := HA.out.1.at_ (by omega)
      have hact := (hat j hj).below HI.out.below
      have hlb : lb < w.heap.size := (hat j hj).lt
      have hok := (hat j hj).ok
      generalize Al j = B at *
      obtain ⟨ad, ac, at_, ⟨rq, rs, rl, ru⟩, an, aT2, lT2, cT2, ts2, aB2, lB2, cB2, xs2⟩ := B
      have hjk : 4 * j < 80000 := by have := HLE.out; omega
      have HST : Hid (∀ (W' : World) (F : Nat → Prop), wr.grownBy W' none → (∀ k, foot fb bb db wb k → F k) → (∀ k, F k → k < W'.heap.size) → (∀ k, F k → (foot fb bb db wb k ∨ k = gr) ∨ wr.heap.size ≤ k) → Calls Tryz.prog 10 #[.pointer (some ⟨fb, 0, none⟩), .agg #[.int .i64 s1, .int .i64 p1, .int .i64 b1, .slice aB lB cB, .slice aD lD cD, .slice aW lW cW, .int .i64 ops, .bool off, .int .i64 after, .slice aT lT cT], .agg #[.int .i64 ps, .int .i64 pp, .int .i64 pb, .int .i64 px0, .int .i64 px1, .int .i64 py0, .int .i64 py1, .int .i64 pn], .agg #[.int .i64 ad, .int .i64 ac, .int .i64 at_, .int .u64 rq, .int .i64 rs, .int .i64 rl, .int .u64 ru, .int .i64 an, .slice aT2 lT2 cT2, .slice aB2 lB2 cB2]] W' fun e w' => P9 W' fb bb db wb F (m.act9 ⟨ps, pp, pb, px0, px1, py0, py1, pn⟩ ⟨ad, ac, at_, ⟨rq, rs, rl, ru⟩, an, aT2, lT2, cT2, ts2, aB2, lB2, cB2, xs2⟩) e w') := by
        intro W' F hgk hF1 hF2 hF3
        have hI := HI.out.grown hgk
        exact step9_any ⟨ps, pp, pb, px0, px1, py0, py1, pn⟩ ((HI.out.pr.fresh9 hF3).grown hgk) hF1 hF2 ((hRp.fresh HI.out.gd hF3).grown hgk) hI.gd hjk HA.out.2.1 (hok.below hI.below) (hok.off fun k x => by have := HI.out.ft _ x; have := HI.out.eg; omega)
      have hR9 : R9 wr g gr lb lo j ⟨ps, pp, pb, px0, px1, py0, py1, pn⟩ ⟨ad, ac, at_, ⟨rq, rs, rl, ru⟩, an, aT2, lT2, cT2, ts2, aB2, lB2, cB2, xs2⟩ [.int .i64 s1, .int .i64 p1, .int .i64 b1, .slice aB lB cB, .slice aD lD cD, .slice aW lW cW, .int .i64 ops, .bool off, .int .i64 after, .slice aT lT cT] := ⟨hbx, HI.out.pb, hact.c, Nat.lt_of_lt_of_le hlb HI.out.ch.size⟩
      have HGD : Hid _ := Fm.good_act9 (A := ⟨ad, ac, at_, ⟨rq, rs, rl, ru⟩, an, aT2, lT2, cT2, ts2, aB2, lB2, cB2, xs2⟩) HI.out.gd ⟨ps, pp, pb, px0, px1, py0, py1, pn⟩ hok.bn.2
      have HQ : Hid _ := And.intro hRp (And.intro hbx (And.intro hlb HI.out.eg))
      have hji : (j : Int) < (len1 : Int) := by omega
      have hfl : Hid (¬ foot fb bb db wb lb ∧ ¬ foot fb bb db wb (g + 1)) := ⟨fun x => by have := HI.out.ft _ x; have := HI.out.eg; omega, fun x => by have := HI.out.ft _ x; omega⟩
      clear hat hact hok hjk hRp hbx hlb j1
      generalize Fm.act9 m ⟨ps, pp, pb, px0, px1, py0, py1, pn⟩ ⟨ad, ac, at_, ⟨rq, rs, rl, ru⟩, an, aT2, lT2, cT2, ts2, aB2, lB2, cB2, xs2⟩ = m8 at *
      go_wp2_with fail
      have hS7 := hR9.kept (Pa.drewG _)
      refine wp_region_held_drew (S := fun w' => R9 w' g gr lb lo j ⟨ps, pp, pb, px0, px1, py0, py1, pn⟩ ⟨ad, ac, at_, ⟨rq, rs, rl, ru⟩, an, aT2, lT2, cT2, ts2, aB2, lB2, cB2, xs2⟩ [.int .i64 s1, .int .i64 p1, .int .i64 b1, .slice aB lB cB, .slice aD lD cD, .slice aW lW cW, .int .i64 ops, .bool off, .int .i64 after, .slice aT lT cT]) (by kernel_rfl) hS7 (fun hH => ?_)
      clear hS7 hR9
      refine wpAnyH_take (i := 0) (oi := ⟨some 48, _, _, _, _, _⟩) (v := .pointer (some ⟨fb, 0, none⟩)) rfl (by kernel_rfl) (by kernel_rfl) (by kernel_rfl) (fun _ _ _ h => h) (Or.inl ⟨by rfl, fun w hSw => by go_simp⟩) hH ?_
      simp only [Act.put, List.setIfInBounds_toArray, List.set_cons_zero, List.set_cons_succ]
      refine wpAnyH_take (i := 1) (oi := ⟨some 49, _, _, _, _, _⟩) (v := .agg #[.int .i64 s1, .int .i64 p1, .int .i64 b1, .slice aB lB cB, .slice aD lD cD, .slice aW lW cW, .int .i64 ops, .bool off, .int .i64 after, .slice aT lT cT]) rfl (by kernel_rfl) (by kernel_rfl) (by kernel_rfl) (fun _ _ _ h => h) (Or.inl ⟨by rfl, fun w hSw => by obtain ⟨c0, c1, c2, c3, c4, c5, c6, c7, c8, c9⟩ := hSw.r.c10; go_simp⟩) hH ?_
      simp only [Act.put, List.setIfInBounds_toArray, List.set_cons_zero, List.set_cons_succ]
      refine wpAnyH_take (i := 2) (oi := ⟨some 50, _, _, _, _, _⟩) (v := .agg #[.int .i64 ps, .int .i64 pp, .int .i64 pb, .int .i64 px0, .int .i64 px1, .int .i64 py0, .int .i64 py1, .int .i64 pn]) rfl (by kernel_rfl) (by kernel_rfl) (by kernel_rfl) (fun _ _ _ h => h) (Or.inl ⟨by rfl, fun w hSw => by obtain ⟨c0, c1, c2, c3, c4, c5, c6, c7⟩ := hSw.p.c8; go_simp⟩) hH ?_
      simp only [Act.put, List.setIfInBounds_toArray, List.set_cons_zero, List.set_cons_succ]
      refine wpAnyH_take (i := 3) (oi := ⟨some 51, _, _, _, _, _⟩) (v := .slice (some ⟨lb, lo, none⟩) len1 cap1) rfl (by kernel_rfl) (by kernel_rfl) (by kernel_rfl) (fun _ _ _ h => h) (Or.inl ⟨by rfl, fun w hSw => by go_simp⟩) hH ?_
      simp only [Act.put, List.setIfInBounds_toArray, List.set_cons_zero, List.set_cons_succ]
      refine wpAnyH_take (i := 4) (oi := ⟨some 52, _, _, _, _, _⟩) (v := .int .i64 j) rfl (by kernel_rfl) (by kernel_rfl) (by kernel_rfl) (fun _ _ _ h => h) (Or.inl ⟨by rfl, fun w hSw => by go_simp⟩) hH ?_
      simp only [Act.put, List.setIfInBounds_toArray, List.set_cons_zero, List.set_cons_succ]
      refine wpAnyH_take (i := 5) (oi := ⟨some 53, _, _, _, _, _⟩) (v := .pointer (some ⟨lb, lo + j * 10, none⟩)) rfl (by kernel_rfl) (by kernel_rfl) (by kernel_rfl) (fun _ _ _ h => h) (Or.inl ⟨by rfl, fun w hSw => by go_simp⟩) hH ?_
      simp only [Act.put, List.setIfInBounds_toArray, List.set_cons_zero, List.set_cons_succ]
      refine wpAnyH_take (i := 6) (oi := ⟨some 54, _, _, _, _, _⟩) (v := .agg #[.int .i64 ad, .int .i64 ac, .int .i64 at_, .int .u64 rq, .int .i64 rs, .int .i64 rl, .int .u64 ru, .int .i64 an, .slice aT2 lT2 cT2, .slice aB2 lB2 cB2]) rfl (by kernel_rfl) (by kernel_rfl) (by kernel_rfl) (fun _ _ _ h => h) (Or.inl ⟨by rfl, fun w hSw => by obtain ⟨c0, c1, c2, c3, c4, c5, c6, c7, c8, c9⟩ := hSw.c10 rfl; go_simp⟩) hH ?_
      simp only [Act.put, List.setIfInBounds_toArray, List.set_cons_zero, List.set_cons_succ]
      refine wpAnyH_ready (rs := [7, 11]) (by kernel_rfl) (by simp) ?_
      refine AllReadyH.cons rfl (fun K hK => ?_) (AllReadyH.cons rfl (fun K hK => ?_) AllReadyH.nil)
      · go_simp
        go_wp2_with (go_at_call 10; refine (HST.out _ (fun k => foot fb bb db wb k ∨ k = gr) (Pa.drewG _) (fun _ x => .inl x) (fun k x => x.elim (fun y => HI.out.pr.lt _ y) (fun y => by rw [y]; exact HQ.out.2.1.lt)) (fun _ x => .inl x)).mono ?_; intro e W8 h8; unfold P9 at h8; obtain ⟨v8, he8, hc8, hP8, hR8⟩ := h8; subst he8)
        obtain ⟨s8, p8, b8, ops8, after8, off8, aB8, aD8, aW8, aT8, lB8, cB8, lD8, cD8, lW8, cW8, lT8, cT8, rfl⟩ := hR8.shape
        have hH8 := hH.chg hc8 HI.out.gn hfl.out.2 hfl.out.1
        have HC : Hid _ := And.intro hc8 (And.intro hP8 (And.intro hR8 hH8))
        clear hc8 hP8 hR8
        refine hK.out _ _ hH8 (fun hH => ?_)
        clear hK K hH8
        refine wpAnyH_take (i := 8) (oi := ⟨some 47, _, _, _, _, _⟩) (v := .tuple #[.agg #[.int .i64 s8, .int .i64 p8, .int .i64 b8, .slice aB8 lB8 cB8, .slice aD8 lD8 cD8, .slice aW8 lW8 cW8, .int .i64 ops8, .bool off8, .int .i64 after8, .slice aT8 lT8 cT8], .bool true]) rfl (by kernel_rfl) (by kernel_rfl) (by kernel_rfl) (fun _ _ _ h => h) (Or.inl ⟨by rfl, fun w hSw => by go_simp⟩) hH ?_
        simp only [Act.put, List.setIfInBounds_toArray, List.set_cons_zero, List.set_cons_succ]
        refine wpAnyH_take (i := 9) (oi := ⟨some 56, _, _, _, _, _⟩) (v := .agg #[.int .i64 s8, .int .i64 p8, .int .i64 b8, .slice aB8 lB8 cB8, .slice aD8 lD8 cD8, .slice aW8 lW8 cW8, .int .i64 ops8, .bool off8, .int .i64 after8, .slice aT8 lT8 cT8]) rfl (by kernel_rfl) (by kernel_rfl) (by kernel_rfl) (fun _ _ _ h => h) (Or.inl ⟨by rfl, fun w hSw => by go_simp⟩) hH ?_
        simp only [Act.put, List.setIfInBounds_toArray, List.set_cons_zero, List.set_cons_succ]
        refine wpAnyH_take (i := 10) (oi := ⟨some 57, _, _, _, _, _⟩) (v := .bool true) rfl (by kernel_rfl) (by kernel_rfl) (by kernel_rfl) (fun _ _ _ h => h) (Or.inl ⟨by rfl, fun w hSw => by go_simp⟩) hH ?_
        simp only [Act.put, List.setIfInBounds_toArray, List.set_cons_zero, List.set_cons_succ]
        refine wpAnyH_ready (rs := [11]) (by kernel_rfl) (by simp) ?_
        refine AllReadyH.cons rfl (fun K hK => ?_) AllReadyH.nil
        refine ifw (by rfl) ?_
        go_wp2
        have hga := World.grownBy_alloc W8 (.cells #[.int .i64 0, .int .i64 0, .int .i64 0, .slice none 0 0, .slice none 0 0, .slice none 0 0, .int .i64 0, .bool false, .int .i64 0, .slice none 0 0] 42) none
        have hbz := Bx.new W8 42 [.int .i64 0, .int .i64 0, .int .i64 0, .slice none 0 0, .slice none 0 0, .slice none 0 0, .int .i64 0, .bool false, .int .i64 0, .slice none 0 0]
        have HZ : Hid _ := And.intro hga hbz
        clear hga hbz
        refine hK.out _ _ (hH.kept HZ.out.1) (fun hH => ?_)
        clear hK K
        refine wpAnyH_ready (rs := [12]) (by kernel_rfl) (by simp) ?_
        refine AllReadyH.cons rfl (fun K hK => ?_) AllReadyH.nil
        refine ifw (by rfl) ?_
        refine op_store_bx 42 _ _ rfl _ [.int .i64 s8, .int .i64 p8, .int .i64 b8, .slice aB8 lB8 cB8, .slice aD8 lD8 cD8, .slice aW8 lW8 cW8, .int .i64 ops8, .bool off8, .int .i64 after8, .slice aT8 lT8 cT8] rfl rfl HZ.out.2 fl_size rfl rfl ?_
        intro W9 hb9 hg9
        have hlt8 : wr.heap.size ≤ W8.heap.size := HC.out.1.size
        have hH9 := hH.but hg9 (fun e => by have := HC.out.2.2.2.r.lt; omega) (fun e => by have := HC.out.2.2.2.p.lt; omega) (fun e => by have := HC.out.2.2.2.lt; omega)
        have hg89 : W8.grownBy W9 (some W8.heap.size) := ⟨hg9.os.trans HZ.out.1.os, hg9.tape.trans HZ.out.1.tape, hg9.output.trans HZ.out.1.output, Nat.le_trans HZ.out.1.size hg9.size, fun x hx hn => (hg9.block x (Nat.lt_of_lt_of_le hx HZ.out.1.size) hn).trans (HZ.out.1.block x hx (by simp))⟩
        have HM : Hid (M9 w W9 g gr W8.heap.size fb bb db wb ⟨ps, pp, pb, px0, px1, py0, py1, pn⟩ m8 (j + 1) [.int .i64 s8, .int .i64 p8, .int .i64 b8, .slice aB8 lB8 cB8, .slice aD8 lD8 cD8, .slice aW8 lW8 cW8, .int .i64 ops8, .bool off8, .int .i64 after8, .slice aT8 lT8 cT8]) := m9_new HI.out (Pa.drewG _) HC.out.1 (fun _ x => x) HC.out.2.1 HC.out.2.2.1 HQ.out.2.1 rfl hlt8 hg89 hb9 HGD.out (fun h => absurd h (Nat.lt_irrefl _))
        clear hb9 hg9 hg89 hlt8 HZ HC HQ HST HGD hfl
        refine hK.out _ _ hH9 (fun hH => ?_)
        clear hK K hH9
        generalize W8.heap.size = gs at *
        refine wpAnyH_take (i := 13) (oi := ⟨some 12, _, _, _, _, _⟩) (v := .bool true) rfl (by kernel_rfl) (by kernel_rfl) (by kernel_rfl) (fun _ _ _ h => h) (Or.inl ⟨by rfl, fun w hSw => by go_simp⟩) hH ?_
        simp only [Act.put, List.setIfInBounds_toArray, List.set_cons_zero, List.set_cons_succ]
        refine wpAnyH_done (by kernel_rfl) ?_ _
        clear hH
        obtain ⟨v0, v1, v2, v3, v4, v5, v6, v7, v8, v9⟩ := flash10 HM.out.bs
        obtain ⟨os, hos, hbo⟩ := HM.out.bg
        go_wp2_with ((with_reducible refine fl_here ?_); refine wpList_store_bx rfl 42 _ _ rfl gr [.int .i64 s8, .int .i64 p8, .int .i64 b8, .slice aB8 lB8 cB8, .slice aD8 lD8 cD8, .slice aW8 lW8 cW8, .int .i64 ops8, .bool off8, .int .i64 after8, .slice aT8 lT8 cT8] rfl rfl hbo fl_size hos rfl ?_; intro W9 hb9 hg9; have H9 : Hid _ := And.intro (HM.out.done hb9 hg9) hb9; clear hb9 hg9; obtain ⟨c0, c1, c2, c3, c4, c5, c6, c7, c8, c9⟩ := flash10 H9.out.2)
        with_reducible refine (same_any H9.out.1.1.pr H9.out.1.2 H9.out.1.1.gd).mono ?_
        rintro e W10 ⟨rfl, hg10⟩
        have HE : Hid (L9 w W10 g gr fb bb db wb ⟨ps, pp, pb, px0, px1, py0, py1, pn⟩ m8 (j + 1)) := H9.out.1.1.grown hg10
        clear hg10 H9 HM c0 c1 c2 c3 c4 c5 c6 c7 c8 c9 v0 v1 v2 v3 v4 v5 v6 v7 v8 v9 hbo hos
        go_wp2_with fail
        go_roundw
        case rel => exact ⟨j + 1, _, by go_num, by omega, HE⟩
        case measure => simp [intOf]; omega
      · refine ifw (by rfl) ?_
        go_wp2
        have hga : wr.grownBy (wr.drew.alloc (.cells #[.int .i64 0, .int .i64 0, .int .i64 0, .slice none 0 0, .slice none 0 0, .slice none 0 0, .int .i64 0, .bool false, .int .i64 0, .slice none 0 0] 42)) none := grown_trans (Pa.drewG _) (World.grownBy_alloc _ _ _)
        have hbz := Bx.new wr.drew 42 [.int .i64 0, .int .i64 0, .int .i64 0, .slice none 0 0, .slice none 0 0, .slice none 0 0, .int .i64 0, .bool false, .int .i64 0, .slice none 0 0]
        have hsz : (wr.drew.alloc (.cells #[.int .i64 0, .int .i64 0, .int .i64 0, .slice none 0 0, .slice none 0 0, .slice none 0 0, .int .i64 0, .bool false, .int .i64 0, .slice none 0 0] 42)).heap.size = wr.heap.size + 1 := World.size_alloc _ _
        have HZ : Hid _ := And.intro hga (And.intro hbz hsz)
        clear hga hbz hsz
        refine hK.out _ _ (hH.kept (World.grownBy_alloc _ _ _)) (fun hH => ?_)
        clear hK K
        refine wpAnyH_ready (rs := [7]) (by kernel_rfl) (by simp) ?_
        refine AllReadyH.cons rfl (fun K hK => ?_) AllReadyH.nil
        go_simp
        go_wp2_with (go_at_call 10; refine (HST.out _ (fun k => (foot fb bb db wb k ∨ k = gr) ∨ k = wr.heap.size) HZ.out.1 (fun _ x => .inl (.inl x)) (fun k x => by rw [HZ.out.2.2]; exact x.elim (fun z => z.elim (fun y => Nat.lt_succ_of_lt (HI.out.pr.lt _ y)) (fun y => by rw [y]; exact Nat.lt_succ_of_lt HQ.out.2.1.lt)) (fun y => by omega)) (fun k x => x.elim .inl (fun y => .inr (by omega)))).mono ?_; intro e W8 h8; unfold P9 at h8; obtain ⟨v8, he8, hc8, hP8, hR8⟩ := h8; subst he8)
        obtain ⟨s8, p8, b8, ops8, after8, off8, aB8, aD8, aW8, aT8, lB8, cB8, lD8, cD8, lW8, cW8, lT8, cT8, rfl⟩ := hR8.shape
        have hH8 := hH.chg hc8 HI.out.gn hfl.out.2 hfl.out.1
        have hbz8 : Bx W8 wr.heap.size 42 [.int .i64 0, .int .i64 0, .int .i64 0, .slice none 0 0, .slice none 0 0, .slice none 0 0, .int .i64 0, .bool false, .int .i64 0, .slice none 0 0] := ⟨(hc8.box (Box.mk HZ.out.2.1.blk) (fun x => Nat.lt_irrefl _ (HI.out.pr.lt _ x))).blk⟩
        have HC : Hid _ := And.intro hc8 (And.intro hP8 (And.intro hR8 (And.intro hH8 hbz8)))
        clear hc8 hP8 hR8 hbz8
        refine hK.out _ _ hH8 (fun hH => ?_)
        clear hK K hH8
        refine wpAnyH_take (i := 8) (oi := ⟨some 47, _, _, _, _, _⟩) (v := .tuple #[.agg #[.int .i64 s8, .int .i64 p8, .int .i64 b8, .slice aB8 lB8 cB8, .slice aD8 lD8 cD8, .slice aW8 lW8 cW8, .int .i64 ops8, .bool off8, .int .i64 after8, .slice aT8 lT8 cT8], .bool true]) rfl (by kernel_rfl) (by kernel_rfl) (by kernel_rfl) (fun _ _ _ h => h) (Or.inl ⟨by rfl, fun w hSw => by go_simp⟩) hH ?_
        simp only [Act.put, List.setIfInBounds_toArray, List.set_cons_zero, List.set_cons_succ]
        refine wpAnyH_take (i := 9) (oi := ⟨some 56, _, _, _, _, _⟩) (v := .agg #[.int .i64 s8, .int .i64 p8, .int .i64 b8, .slice aB8 lB8 cB8, .slice aD8 lD8 cD8, .slice aW8 lW8 cW8, .int .i64 ops8, .bool off8, .int .i64 after8, .slice aT8 lT8 cT8]) rfl (by kernel_rfl) (by kernel_rfl) (by kernel_rfl) (fun _ _ _ h => h) (Or.inl ⟨by rfl, fun w hSw => by go_simp⟩) hH ?_
        simp only [Act.put, List.setIfInBounds_toArray, List.set_cons_zero, List.set_cons_succ]
        refine wpAnyH_take (i := 10) (oi := ⟨some 57, _, _, _, _, _⟩) (v := .bool true) rfl (by kernel_rfl) (by kernel_rfl) (by kernel_rfl) (fun _ _ _ h => h) (Or.inl ⟨by rfl, fun w hSw => by go_simp⟩) hH ?_
        simp only [Act.put, List.setIfInBounds_toArray, List.set_cons_zero, List.set_cons_succ]
        refine wpAnyH_ready (rs := [12]) (by kernel_rfl) (by simp) ?_
        refine AllReadyH.cons rfl (fun K hK => ?_) AllReadyH.nil
        refine ifw (by rfl) ?_
        refine op_store_bx 42 _ _ rfl _ [.int .i64 s8, .int .i64 p8, .int .i64 b8, .slice aB8 lB8 cB8, .slice aD8 lD8 cD8, .slice aW8 lW8 cW8, .int .i64 ops8, .bool off8, .int .i64 after8, .slice aT8 lT8 cT8] rfl rfl HC.out.2.2.2.2 fl_size rfl rfl ?_
        intro W9 hb9 hg9
        have hne1 : wr.heap.size ≠ gr := Nat.ne_of_gt HQ.out.2.1.lt
        have hH9 := hH.but hg9 hne1 (Nat.ne_of_gt HI.out.pb.lt) (fun e => by have := HQ.out.2.2.1; have := HI.out.ch.size; omega)
        have HM : Hid (M9 w W9 g gr wr.heap.size fb bb db wb ⟨ps, pp, pb, px0, px1, py0, py1, pn⟩ m8 (j + 1) [.int .i64 s8, .int .i64 p8, .int .i64 b8, .slice aB8 lB8 cB8, .slice aD8 lD8 cD8, .slice aW8 lW8 cW8, .int .i64 ops8, .bool off8, .int .i64 after8, .slice aT8 lT8 cT8]) := m9_new HI.out HZ.out.1 HC.out.1 (fun _ x => .inl x) HC.out.2.1 HC.out.2.2.1 HQ.out.2.1 rfl (Nat.le_refl _) hg9 hb9 HGD.out (fun _ => .inr rfl)
        clear hb9 hg9 hne1 HZ HC HQ HST HGD hfl
        refine hK.out _ _ hH9 (fun hH => ?_)
        clear hK K hH9
        generalize wr.heap.size = gs at *
        refine wpAnyH_take (i := 13) (oi := ⟨some 12, _, _, _, _, _⟩) (v := .bool true) rfl (by kernel_rfl) (by kernel_rfl) (by kernel_rfl) (fun _ _ _ h => h) (Or.inl ⟨by rfl, fun w hSw => by go_simp⟩) hH ?_
        simp only [Act.put, List.setIfInBounds_toArray, List.set_cons_zero, List.set_cons_succ]
        refine wpAnyH_done (by kernel_rfl) ?_ _
        clear hH
        obtain ⟨v0, v1, v2, v3, v4, v5, v6, v7, v8, v9⟩ := flash10 HM.out.bs
        obtain ⟨os, hos, hbo⟩ := HM.out.bg
        go_wp2_with ((with_reducible refine fl_here ?_); refine wpList_store_bx rfl 42 _ _ rfl gr [.int .i64 s8, .int .i64 p8, .int .i64 b8, .slice aB8 lB8 cB8, .slice aD8 lD8 cD8, .slice aW8 lW8 cW8, .int .i64 ops8, .bool off8, .int .i64 after8, .slice aT8 lT8 cT8] rfl rfl hbo fl_size hos rfl ?_; intro W9 hb9 hg9; have H9 : Hid _ := And.intro (HM.out.done hb9 hg9) hb9; clear hb9 hg9; obtain ⟨c0, c1, c2, c3, c4, c5, c6, c7, c8, c9⟩ := flash10 H9.out.2)
        with_reducible refine (same_any H9.out.1.1.pr H9.out.1.2 H9.out.1.1.gd).mono ?_
        rintro e W10 ⟨rfl, hg10⟩
        have HE : Hid (L9 w W10 g gr fb bb db wb ⟨ps, pp, pb, px0, px1, py0, py1, pn⟩ m8 (j + 1)) := H9.out.1.1.grown hg10
        clear hg10 H9 HM c0 c1 c2 c3 c4 c5 c6 c7 c8 c9 v0 v1 v2 v3 v4 v5 v6 v7 v8 v9 hbo hos
        go_wp2_with fail
        go_roundw
        case rel => exact ⟨j + 1, _, by go_num, by omega, HE⟩
        case measure => simp [intOf]; omega
    · have ej : j = len1 := by omega
      subst ej
      clear hj hRp hbx
      go_wp2_with (first | (go_at_call 6; refine (HL.out _).mono ?_; rintro e W11 ⟨rfl, hg11⟩; have H11 : Hid _ := HI.out.grown hg11; clear hg11))
      go_ret
      exact ⟨rfl, H11.out.below⟩
end Go.Proofs.YtfhgbddeclldnaaGreat

namespace Go.Proofs.YtfhgbddeclldnaaGreat
open Go.RowKit
set_option maxRecDepth 100000
set_option linter.unusedSimpArgs false
set_option linter.unusedVariables false

set_option maxRecDepth 100000 in
set_option maxHeartbeats 4000000 in
theorem plays9_live (s p b : Int) (P : Pa.Pl) (a1 : Option Addr) (len1 cap1 : Nat) (w : World) (hs : Pa.bnd64 s) (hp : Pa.bnd64 p) (hb : Pa.bnd64 b) (hC : ¬ (sml s p b = true ∧ chk s p b = 0 ∧ len1 ≤ 40)) :
    Calls Tryz.prog 3 #[.agg #[.int .i64 s, .int .i64 p, .int .i64 b], P.val, .slice a1 len1 cap1] w fun e w' => e = .returned (.bool true) ∧ Below w.heap.size w w' := by
  have hsm : ∀ W, _ := fun W => small_any s p b W hs hp hb
  have hrc : ∀ W, _ := fun W => check_any s p b W hs hp hb
  have HL : Hid (∀ W : World, Calls Tryz.prog 6 #[] W fun e w' => e = .returned (.bool true) ∧ W.grownBy w' none) := fun W => live9_any W
  have h0 := Box.new w 23 [.int .i64 s, .int .i64 p, .int .i64 b]
  have ga := World.grownBy_alloc (w.alloc (.cells #[.int .i64 s, .int .i64 p, .int .i64 b] 23)) (.cells P.cells.toArray 26) none
  have H0 : Hid _ := And.intro (h0.grown ga) (grown_trans (World.grownBy_alloc w (.cells #[.int .i64 s, .int .i64 p, .int .i64 b] 23) none) ga)
  have HC : Hid _ := hC
  clear h0 ga hs hp hb hC
  obtain ⟨ps, pp, pb, px0, px1, py0, py1, pn⟩ := P
  simp only [Pa.Pl.val, Pa.Pl.cells] at *
  generalize hSS : sml s p b = S at *
  generalize hCC : chk s p b = E at *
  clear hSS hCC
  go_enter Tryz.func3, Tryz.ntmps3
  go_wp2_with fail
  refine (hsm _).mono ?_
  rintro e W1 ⟨rfl, hg1⟩
  have H1 : Hid _ := And.intro (H0.out.1.grown hg1) (grown_trans H0.out.2 hg1)
  clear hg1 H0 hsm
  generalize hgg : w.heap.size = g at *
  have c0 : W1.cell? ⟨g, 0, none⟩ = some (.int .i64 s) := H1.out.1.c 0
  have c1 : W1.cell? ⟨g, 1, none⟩ = some (.int .i64 p) := H1.out.1.c 1
  have c2 : W1.cell? ⟨g, 2, none⟩ = some (.int .i64 b) := H1.out.1.c 2
  cases S with
  | false =>
    go_wp2_with (first | (go_at_call 6; refine (HL.out _).mono ?_; rintro e w' ⟨rfl, hg'⟩; have s4 : Hid _ := grown_trans H1.out.2 hg'; clear hg'))
    go_ret
    exact ⟨rfl, grown_below s4.out⟩
  | true =>
    go_wp2_with fail
    refine (hrc _).mono ?_
    rintro e W2 ⟨rfl, hw2⟩
    have hg2 : W1.grownBy W2 none := by rw [hw2]; exact World.grownBy_alloc _ _ _
    have H2 : Hid _ := grown_trans H1.out.2 hg2
    clear hw2 hg2 H1 hrc c0 c1 c2
    by_cases hE : E = 0
    · have hl2 : (40 : Int) < (len1 : Int) := by
        have := HC.out
        simp [hE] at this
        omega
      subst hE
      go_wp2_with (first | (go_at_call 6; refine (HL.out _).mono ?_; rintro e w' ⟨rfl, hg'⟩; have s4 : Hid _ := grown_trans H2.out hg'; clear hg'))
      go_ret
      exact ⟨rfl, grown_below s4.out⟩
    · have hE1 : (E == 0) = false := by simpa using hE
      go_wp2_with (first | (go_at_call 6; refine (HL.out _).mono ?_; rintro e w' ⟨rfl, hg'⟩; have s4 : Hid _ := grown_trans H2.out hg'; clear hg'))
      go_ret
      exact ⟨rfl, grown_below s4.out⟩
theorem keepPlays_walk (s p b : Int) (P : Pa.Pl) (a1 : Option Addr) (len1 cap1 : Nat) (Al : Nat → A9) (w : World) (hs : Pa.bnd64 s) (hp : Pa.bnd64 p) (hb : Pa.bnd64 b) (hP : P.ok) (hA : Acts9 w a1 len1 Al) :
    Calls Tryz.prog 3 #[.agg #[.int .i64 s, .int .i64 p, .int .i64 b], P.val, .slice a1 len1 cap1] w fun e w' => e = .returned (.bool true) ∧ Below w.heap.size w w' := by
  by_cases hC : sml s p b = true ∧ chk s p b = 0 ∧ len1 ≤ 40
  · obtain ⟨s', p', b', rfl, rfl, rfl, h1, h2, h3⟩ := sml_geo hC.1 hC.2.1
    exact plays9_main s' p' b' P a1 len1 cap1 Al w h1 h2 h3 hC.2.1 hP hC.2.2 hA
  · exact plays9_live s p b P a1 len1 cap1 w hs hp hb hC
end Go.Proofs.YtfhgbddeclldnaaGreat
