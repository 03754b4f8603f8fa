/- step: Write. -/
import Derived.Test.YtfhgbddeclldnaaGreatQ26
namespace Go.Proofs.YtfhgbddeclldnaaGreat
open Go.RowKit
set_option maxRecDepth 100000
set_option linter.unusedSimpArgs false
set_option linter.unusedVariables false
attribute [local go_sem ↓] Go.wp_at_zero Go.wp_at_succ

set_option maxRecDepth 100000 in
set_option maxHeartbeats 4000000 in
theorem step9_write {w : World} {fb bb db wb : Nat} {m : Fm} {v : Value} {k : Nat} {A : A9} {F : Nat → Prop} (P : Pa.Pl) (hP : PRep w fb bb db wb m F) (hFf : ∀ k, foot fb bb db wb k → F k) (hFs : ∀ k, F k → k < w.heap.size) (hR : Rep w v m F) (hg : m.Good k) (hk : k < 80000) (hPl : P.ok) (hA : A.ok w) (hAo : A.off (foot fb bb db wb)) (hd : A.d = 1) :
    Calls Tryz.prog 10 #[.pointer (some ⟨fb, 0, none⟩), v, P.val, A.val] w fun e w' => P9 w fb bb db wb F ((kwr m P A.c A.r).1) e w' := by
  have HFF : Hid _ := And.intro hFf hFs
  have HAO : Hid _ := And.intro hAo (And.intro hPl (And.intro hA hk))
  clear hFf hFs hAo hPl hk
  have t0 : (A.d == 0) = false := by rw [hd]; rfl
  have t1 : (A.d == 1) = true := by rw [hd]; rfl
  clear hd
  obtain ⟨s, p, b, ops, after, off, aB, aD, aW, aT, lB, cB, lD, cD, lW, cW, lT, cT, rfl⟩ := hR.shape
  have hST := s9_made [.int .i64 s, .int .i64 p, .int .i64 b, .slice aB lB cB, .slice aD lD cD, .slice aW lW cW, .int .i64 ops, .bool off, .int .i64 after, .slice aT lT cT] P A [.int .i64 0, .int .i64 0, .int .i64 0, .slice none 0 0, .slice none 0 0, .slice none 0 0, .int .i64 0, .bool false, .int .i64 0, .slice none 0 0] hP.lt
  have hgW := w9_grown w [.int .i64 s, .int .i64 p, .int .i64 b, .slice aB lB cB, .slice aD lD cD, .slice aW lW cW, .int .i64 ops, .bool off, .int .i64 after, .slice aT lT cT] P A [.int .i64 0, .int .i64 0, .int .i64 0, .slice none 0 0, .slice none 0 0, .slice none 0 0, .int .i64 0, .bool false, .int .i64 0, .slice none 0 0]
  have hszW := w9_size w [.int .i64 s, .int .i64 p, .int .i64 b, .slice aB lB cB, .slice aD lD cD, .slice aW lW cW, .int .i64 ops, .bool off, .int .i64 after, .slice aT lT cT] P A [.int .i64 0, .int .i64 0, .int .i64 0, .slice none 0 0, .slice none 0 0, .slice none 0 0, .int .i64 0, .bool false, .int .i64 0, .slice none 0 0]
  have hPW := (hP.fresh9 (G' := ow9 F w.heap.size (W9 w [.int .i64 s, .int .i64 p, .int .i64 b, .slice aB lB cB, .slice aD lD cD, .slice aW lW cW, .int .i64 ops, .bool off, .int .i64 after, .slice aT lT cT] P A [.int .i64 0, .int .i64 0, .int .i64 0, .slice none 0 0, .slice none 0 0, .slice none 0 0, .int .i64 0, .bool false, .int .i64 0, .slice none 0 0]).heap.size) (fun _ x => x.elim .inl fun y => .inr y.1)).grown hgW
  have hRW := (hR.fresh (F' := ow9 F w.heap.size (W9 w [.int .i64 s, .int .i64 p, .int .i64 b, .slice aB lB cB, .slice aD lD cD, .slice aW lW cW, .int .i64 ops, .bool off, .int .i64 after, .slice aT lT cT] P A [.int .i64 0, .int .i64 0, .int .i64 0, .slice none 0 0, .slice none 0 0, .slice none 0 0, .int .i64 0, .bool false, .int .i64 0, .slice none 0 0]).heap.size) hg (fun x hx => hx.elim .inl fun y => .inr y.1)).grown hgW
  have hAW : A.ok (W9 w [.int .i64 s, .int .i64 p, .int .i64 b, .slice aB lB cB, .slice aD lD cD, .slice aW lW cW, .int .i64 ops, .bool off, .int .i64 after, .slice aT lT cT] P A [.int .i64 0, .int .i64 0, .int .i64 0, .slice none 0 0, .slice none 0 0, .slice none 0 0, .int .i64 0, .bool false, .int .i64 0, .slice none 0 0]) := ⟨hA.bc, hA.bt, hA.br, hA.bn, hA.rT.grown hgW, hA.nT, hA.mT, hA.rB.grown hgW, hA.nB⟩
  have H0 : Hid _ := And.intro hST (And.intro hPW (And.intro hRW (And.intro hszW (And.intro hAW hg))))
  clear hST hP hR hg hszW hgW hPW hRW hAW hA
  unfold W9 at H0
  obtain ⟨ad, ac, at_, ⟨rq, rs, rl, ru⟩, an, aT2, lT2, cT2, ts2, aB2, lB2, cB2, xs2⟩ := A
  obtain ⟨ps, pp, pb, px0, px1, py0, py1, pn⟩ := P
  simp only [Pa.Pl.val, Pa.Pl.cells, A9.val, A9.cells] at *
  go_enter Tryz.func10, Tryz.ntmps10
  go_wp2_with fail
  generalize ((((w.alloc (.cells #[.int .i64 s, .int .i64 p, .int .i64 b, .slice aB lB cB, .slice aD lD cD, .slice aW lW cW, .int .i64 ops, .bool off, .int .i64 after, .slice aT lT cT] 42)).alloc (.cells #[.int .i64 ps, .int .i64 pp, .int .i64 pb, .int .i64 px0, .int .i64 px1, .int .i64 py0, .int .i64 py1, .int .i64 pn] 26)).alloc (.cells #[.int .i64 ad, .int .i64 ac, .int .i64 at_, .int .u64 rq, .int .i64 rs, .int .i64 rl, .int .u64 ru, .int .i64 an, .slice aT2 lT2 cT2, .slice aB2 lB2 cB2] 50)).alloc (.cells #[.int .i64 0, .int .i64 0, .int .i64 0, .slice none 0 0, .slice none 0 0, .slice none 0 0, .int .i64 0, .bool false, .int .i64 0, .slice none 0 0] 42)) = W at *
  generalize hgg : w.heap.size = g at *
  have H6 := H0.out.2.2.2.2.2
  refine (pwrite9_any H0.out.2.1 H6 (by have := HAO.out.2.2.2; omega) ⟨ps, pp, pb, px0, px1, py0, py1, pn⟩ HAO.out.2.1 ac H0.out.2.2.2.2.1.bc ⟨rq, rs, rl, ru⟩ H0.out.2.2.2.2.1.br).mono ?_
  rintro e W2 ⟨rfl, hc2, hP2⟩
  have hS2 := H0.out.1.step hc2
  have hR2 := H0.out.2.2.1.but (fun k hk hF => hc2.block k hk fun x => hF (.inl (HFF.out.1 _ x)))
  have hsz2 := hc2.size
  have hF2 : ∀ x, ow9 F g W.heap.size x → x < W2.heap.size := by
    intro x hx
    rcases hx with y | y
    · have := HFF.out.2 _ y; have := hS2.b0.lt; omega
    · omega
  have hA2 : A9.ok ⟨ad, ac, at_, ⟨rq, rs, rl, ru⟩, an, aT2, lT2, cT2, ts2, aB2, lB2, cB2, xs2⟩ W2 := by
    obtain ⟨a1, a2, a3, a4, a5, a6, a7, a8, a9⟩ := H0.out.2.2.2.2.1
    exact ⟨a1, a2, a3, a4, a5.chg4 hc2 HAO.out.1.1, a6, a7, a8.chg4 hc2 HAO.out.1.2, a9⟩
  have H2 : Hid _ := And.intro hS2 (And.intro hP2 (And.intro hR2 (And.intro hF2 hA2)))
  obtain ⟨c0, c1, c2, c3, c4, c5, c6, c7, c8, c9⟩ := hS2.b0.c10
  obtain ⟨p0, p1, p2, p3, p4, p5, p6, p7⟩ := hS2.b1.c8
  obtain ⟨q0, q1, q2, q3, q4, q5, q6, q7, q8, q9⟩ := hS2.b2.c10
  clear hS2 hc2 hP2 hR2 hF2 hsz2 H6 hA2
  go_wp2_with fail
  refine (kwrite_any H2.out.2.2.1 H0.out.2.2.2.2.2 (by have := HAO.out.2.2.2; omega) H2.out.2.2.2.1 ⟨ps, pp, pb, px0, px1, py0, py1, pn⟩ HAO.out.2.1 ac H2.out.2.2.2.2.bc ⟨rq, rs, rl, ru⟩ H2.out.2.2.2.2.br).mono ?_
  rintro e W3 ⟨v', rfl, hg3, hR3⟩
  obtain ⟨s', p', b', ops', after', off', aB', aD', aW', aT', lB', cB', lD', cD', lW', cW', lT', cT', rfl⟩ := hR3.shape
  generalize ((kwr m ⟨ps, pp, pb, px0, px1, py0, py1, pn⟩ ac ⟨rq, rs, rl, ru⟩).2) = E at *
  have H3 : Hid _ := And.intro (H2.out.1.grown hg3) (And.intro (H2.out.2.1.grown hg3) (And.intro hR3 (by have := H0.out.2.2.2.1; omega : g + 3 < W.heap.size)))
  clear hg3 hR3 H2 H0 HAO
  clear c0 c1 c2 c3 c4 c5 c6 c7 c8 c9 p0 p1 p2 p3 p4 p5 p6 p7 q0 q1 q2 q3 q4 q5 q6 q7 q8 q9
  go_wp2_with fail
  have hbs := Box.new W3 42 [.int .i64 s', .int .i64 p', .int .i64 b', .slice aB' lB' cB', .slice aD' lD' cD', .slice aW' lW' cW', .int .i64 ops', .bool off', .int .i64 after', .slice aT' lT' cT']
  have hga := World.grownBy_alloc W3 (.cells #[.int .i64 s', .int .i64 p', .int .i64 b', .slice aB' lB' cB', .slice aD' lD' cD', .slice aW' lW' cW', .int .i64 ops', .bool off', .int .i64 after', .slice aT' lT' cT'] 42) none
  have hlt : g + 1 + 1 + 1 < W3.heap.size := H3.out.1.b3.lt
  have H4 : Hid _ := And.intro (H3.out.1.grown hga) (And.intro (H3.out.2.1.grown hga) (And.intro (H3.out.2.2.1.grown hga) H3.out.2.2.2))
  generalize (W3.alloc (.cells #[.int .i64 s', .int .i64 p', .int .i64 b', .slice aB' lB' cB', .slice aD' lD' cD', .slice aW' lW' cW', .int .i64 ops', .bool off', .int .i64 after', .slice aT' lT' cT'] 42)) = W4 at *
  generalize W3.heap.size = gs at *
  obtain ⟨z0, z1, z2, z3, z4, z5, z6, z7, z8, z9⟩ := H4.out.1.b3.c10
  obtain ⟨y0, y1, y2, y3, y4, y5, y6, y7, y8, y9⟩ := H4.out.1.b3.f10
  obtain ⟨c0, c1, c2, c3, c4, c5, c6, c7, c8, c9⟩ := hbs.c10
  have hne : ¬ (g + 1 + 1 + 1 = gs) := by omega
  have hne' : ¬ (gs = g + 1 + 1 + 1) := by omega
  clear hbs hga H3
  have hnE : ∀ W, _ := fun W => num9_any E W
  go_region_held3 (fun w' => w'.cell? ⟨gs, 0, none⟩ = some (.int .i64 s') ∧ w'.cell? ⟨gs, 1, none⟩ = some (.int .i64 p') ∧ w'.cell? ⟨gs, 2, none⟩ = some (.int .i64 b') ∧ w'.cell? ⟨gs, 3, none⟩ = some (.slice aB' lB' cB') ∧ w'.cell? ⟨gs, 4, none⟩ = some (.slice aD' lD' cD') ∧ w'.cell? ⟨gs, 5, none⟩ = some (.slice aW' lW' cW') ∧ w'.cell? ⟨gs, 6, none⟩ = some (.int .i64 ops') ∧ w'.cell? ⟨gs, 7, none⟩ = some (.bool off') ∧ w'.cell? ⟨gs, 8, none⟩ = some (.int .i64 after') ∧ w'.cell? ⟨gs, 9, none⟩ = some (.slice aT' lT' cT')) (go_keep) (first | (go_at_call 8; refine (hnE _).mono ?_; rintro e w' ⟨rfl, rfl⟩))
  clear z0 z1 z2 z3 z4 z5 z6 z7 z8 z9 y0 y1 y2 y3 y4 y5 y6 y7 y8 y9 c0 c1 c2 c3 c4 c5 c6 c7 c8 c9
  have HE : Hid _ := H4.out
  clear H4
  go_wp2_with fail
  obtain ⟨hSTe, hPe, hRe, hHe⟩ := HE.out
  obtain ⟨hbe, hce, hpe, hre⟩ := s9_end hSTe hPe hRe hHe (.int .i64 s') (.int .i64 p') (.int .i64 b') (.slice aB' lB' cB') (.slice aD' lD' cD') (.slice aW' lW' cW') (.int .i64 ops') (.bool off') (.int .i64 after') (.slice aT' lT' cT') (rfl : ((((((((((W4.setCell ⟨g + 1 + 1 + 1, 0, none⟩ (.int .i64 s')).setCell ⟨g + 1 + 1 + 1, 1, none⟩ (.int .i64 p')).setCell ⟨g + 1 + 1 + 1, 2, none⟩ (.int .i64 b')).setCell ⟨g + 1 + 1 + 1, 3, none⟩ (.slice aB' lB' cB')).setCell ⟨g + 1 + 1 + 1, 4, none⟩ (.slice aD' lD' cD')).setCell ⟨g + 1 + 1 + 1, 5, none⟩ (.slice aW' lW' cW')).setCell ⟨g + 1 + 1 + 1, 6, none⟩ (.int .i64 ops')).setCell ⟨g + 1 + 1 + 1, 7, none⟩ (.bool off')).setCell ⟨g + 1 + 1 + 1, 8, none⟩ (.int .i64 after')).setCell ⟨g + 1 + 1 + 1, 9, none⟩ (.slice aT' lT' cT')) = _)
  have hdr : ((((((((((W4.setCell ⟨g + 1 + 1 + 1, 0, none⟩ (.int .i64 s')).setCell ⟨g + 1 + 1 + 1, 1, none⟩ (.int .i64 p')).setCell ⟨g + 1 + 1 + 1, 2, none⟩ (.int .i64 b')).setCell ⟨g + 1 + 1 + 1, 3, none⟩ (.slice aB' lB' cB')).setCell ⟨g + 1 + 1 + 1, 4, none⟩ (.slice aD' lD' cD')).setCell ⟨g + 1 + 1 + 1, 5, none⟩ (.slice aW' lW' cW')).setCell ⟨g + 1 + 1 + 1, 6, none⟩ (.int .i64 ops')).setCell ⟨g + 1 + 1 + 1, 7, none⟩ (.bool off')).setCell ⟨g + 1 + 1 + 1, 8, none⟩ (.int .i64 after')).setCell ⟨g + 1 + 1 + 1, 9, none⟩ (.slice aT' lT' cT')).grownBy ((((((((((W4.setCell ⟨g + 1 + 1 + 1, 0, none⟩ (.int .i64 s')).setCell ⟨g + 1 + 1 + 1, 1, none⟩ (.int .i64 p')).setCell ⟨g + 1 + 1 + 1, 2, none⟩ (.int .i64 b')).setCell ⟨g + 1 + 1 + 1, 3, none⟩ (.slice aB' lB' cB')).setCell ⟨g + 1 + 1 + 1, 4, none⟩ (.slice aD' lD' cD')).setCell ⟨g + 1 + 1 + 1, 5, none⟩ (.slice aW' lW' cW')).setCell ⟨g + 1 + 1 + 1, 6, none⟩ (.int .i64 ops')).setCell ⟨g + 1 + 1 + 1, 7, none⟩ (.bool off')).setCell ⟨g + 1 + 1 + 1, 8, none⟩ (.int .i64 after')).setCell ⟨g + 1 + 1 + 1, 9, none⟩ (.slice aT' lT' cT')).drew none := grown_drewN (World.grownBy.refl _ _) 1
  have hbe := hbe.grown hdr
  have hce := hce.trans (Chg.of_none hdr _)
  have hpe := hpe.grown hdr
  have hre := hre.grown hdr
  generalize ((((((((((W4.setCell ⟨g + 1 + 1 + 1, 0, none⟩ (.int .i64 s')).setCell ⟨g + 1 + 1 + 1, 1, none⟩ (.int .i64 p')).setCell ⟨g + 1 + 1 + 1, 2, none⟩ (.int .i64 b')).setCell ⟨g + 1 + 1 + 1, 3, none⟩ (.slice aB' lB' cB')).setCell ⟨g + 1 + 1 + 1, 4, none⟩ (.slice aD' lD' cD')).setCell ⟨g + 1 + 1 + 1, 5, none⟩ (.slice aW' lW' cW')).setCell ⟨g + 1 + 1 + 1, 6, none⟩ (.int .i64 ops')).setCell ⟨g + 1 + 1 + 1, 7, none⟩ (.bool off')).setCell ⟨g + 1 + 1 + 1, 8, none⟩ (.int .i64 after')).setCell ⟨g + 1 + 1 + 1, 9, none⟩ (.slice aT' lT' cT')).drew = WE at hbe hce hpe hre ⊢
  clear HE hSTe hPe hRe hHe hdr
  obtain ⟨z0, z1, z2, z3, z4, z5, z6, z7, z8, z9⟩ := hbe.c10
  refine bodyPost_ret (v := .tuple #[.agg #[.int .i64 s', .int .i64 p', .int .i64 b', .slice aB' lB' cB', .slice aD' lD' cD', .slice aW' lW' cW', .int .i64 ops', .bool off', .int .i64 after', .slice aT' lT' cT'], .bool true]) (by simp [results, Tryz.results10, go_sem, z0, z1, z2, z3, z4, z5, z6, z7, z8, z9]) rfl ?_
  exact ⟨_, rfl, hce, hpe, hre⟩
end Go.Proofs.YtfhgbddeclldnaaGreat
