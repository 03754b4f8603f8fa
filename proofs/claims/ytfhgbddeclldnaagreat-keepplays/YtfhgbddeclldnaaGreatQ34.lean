/- step: Erase. step, whatever the call. A plan, a geometry that came in. A record, a failure of power that came in. A record, a failure of power, a list of calls that came in. -/
import Derived.OpenShut
import Derived.ChangeSame
import Derived.Lib.SmallJoins
import Derived.ProofKit
import Derived.ChangeOld
import Derived.Deep.Slices
import Derived.SizedLaws
import Derived.Test.YtfhgbddeclldnaaGreatQ09
import Derived.Test.YtfhgbddeclldnaaGreatQ26
import Derived.Test.YtfhgbddeclldnaaGreatQ27
import Derived.Test.YtfhgbddeclldnaaGreatQ32
import Derived.Test.YtfhgbddeclldnaaGreatQ33
namespace Go.Proofs.YtfhgbddeclldnaaGreat
open Go.RowKit
set_option maxRecDepth 100000
set_option linter.unusedSimpArgs false
set_option linter.unusedVariables false
attribute [local go_sem ↓] Go.wp_at_zero Go.wp_at_succ

set_option maxRecDepth 100000 in
set_option maxHeartbeats 4000000 in
theorem step9_erase {w : World} {fb bb db wb : Nat} {m : Fm} {v : Value} {k : Nat} {A : A9} {F : Nat → Prop} (P : Pa.Pl) (hP : PRep w fb bb db wb m F) (hFf : ∀ k, foot fb bb db wb k → F k) (hFs : ∀ k, F k → k < w.heap.size) (hR : Rep w v m F) (hg : m.Good k) (hk : k < 80000) (hPl : P.ok) (hA : A.ok w) (hAo : A.off (foot fb bb db wb)) (hd : A.d = 7) :
    Calls Tryz.prog 10 #[.pointer (some ⟨fb, 0, none⟩), v, P.val, A.val] w fun e w' => P9 w fb bb db wb F ((m.erase A.t).1) e w' := by
  have HFF : Hid _ := And.intro hFf hFs
  have HAO : Hid _ := And.intro hAo (And.intro hPl (And.intro hA hk))
  clear hFf hFs hAo hPl hk
  have t0 : (A.d == 0) = false := by rw [hd]; rfl
  have t1 : (A.d == 1) = false := by rw [hd]; rfl
  have t2 : (A.d == 2) = false := by rw [hd]; rfl
  have t3 : (A.d == 3) = false := by rw [hd]; rfl
  have t4 : (A.d == 4) = false := by rw [hd]; rfl
  have t6 : (A.d == 6) = false := by rw [hd]; rfl
  have t7 : (A.d == 7) = true := by rw [hd]; rfl
  clear hd
  obtain ⟨s, p, b, ops, after, off, aB, aD, aW, aT, lB, cB, lD, cD, lW, cW, lT, cT, rfl⟩ := hR.shape
  have hST := s9_made [.int .i64 s, .int .i64 p, .int .i64 b, .slice aB lB cB, .slice aD lD cD, .slice aW lW cW, .int .i64 ops, .bool off, .int .i64 after, .slice aT lT cT] P A [.int .i64 0, .int .i64 0, .int .i64 0, .slice none 0 0, .slice none 0 0, .slice none 0 0, .int .i64 0, .bool false, .int .i64 0, .slice none 0 0] hP.lt
  have hgW := w9_grown w [.int .i64 s, .int .i64 p, .int .i64 b, .slice aB lB cB, .slice aD lD cD, .slice aW lW cW, .int .i64 ops, .bool off, .int .i64 after, .slice aT lT cT] P A [.int .i64 0, .int .i64 0, .int .i64 0, .slice none 0 0, .slice none 0 0, .slice none 0 0, .int .i64 0, .bool false, .int .i64 0, .slice none 0 0]
  have hszW := w9_size w [.int .i64 s, .int .i64 p, .int .i64 b, .slice aB lB cB, .slice aD lD cD, .slice aW lW cW, .int .i64 ops, .bool off, .int .i64 after, .slice aT lT cT] P A [.int .i64 0, .int .i64 0, .int .i64 0, .slice none 0 0, .slice none 0 0, .slice none 0 0, .int .i64 0, .bool false, .int .i64 0, .slice none 0 0]
  have hPW := (hP.fresh9 (G' := ow9 F w.heap.size (W9 w [.int .i64 s, .int .i64 p, .int .i64 b, .slice aB lB cB, .slice aD lD cD, .slice aW lW cW, .int .i64 ops, .bool off, .int .i64 after, .slice aT lT cT] P A [.int .i64 0, .int .i64 0, .int .i64 0, .slice none 0 0, .slice none 0 0, .slice none 0 0, .int .i64 0, .bool false, .int .i64 0, .slice none 0 0]).heap.size) (fun _ x => x.elim .inl fun y => .inr y.1)).grown hgW
  have hRW := (hR.fresh (F' := ow9 F w.heap.size (W9 w [.int .i64 s, .int .i64 p, .int .i64 b, .slice aB lB cB, .slice aD lD cD, .slice aW lW cW, .int .i64 ops, .bool off, .int .i64 after, .slice aT lT cT] P A [.int .i64 0, .int .i64 0, .int .i64 0, .slice none 0 0, .slice none 0 0, .slice none 0 0, .int .i64 0, .bool false, .int .i64 0, .slice none 0 0]).heap.size) hg (fun x hx => hx.elim .inl fun y => .inr y.1)).grown hgW
  have hAW : A.ok (W9 w [.int .i64 s, .int .i64 p, .int .i64 b, .slice aB lB cB, .slice aD lD cD, .slice aW lW cW, .int .i64 ops, .bool off, .int .i64 after, .slice aT lT cT] P A [.int .i64 0, .int .i64 0, .int .i64 0, .slice none 0 0, .slice none 0 0, .slice none 0 0, .int .i64 0, .bool false, .int .i64 0, .slice none 0 0]) := ⟨hA.bc, hA.bt, hA.br, hA.bn, hA.rT.grown hgW, hA.nT, hA.mT, hA.rB.grown hgW, hA.nB⟩
  have H0 : Hid _ := And.intro hST (And.intro hPW (And.intro hRW (And.intro hszW (And.intro hAW hg))))
  clear hST hP hR hg hszW hgW hPW hRW hAW hA
  unfold W9 at H0
  obtain ⟨ad, ac, at_, ⟨rq, rs, rl, ru⟩, an, aT2, lT2, cT2, ts2, aB2, lB2, cB2, xs2⟩ := A
  obtain ⟨ps, pp, pb, px0, px1, py0, py1, pn⟩ := P
  simp only [Pa.Pl.val, Pa.Pl.cells, A9.val, A9.cells] at *
  go_enter Tryz.func10, Tryz.ntmps10
  go_wp2_with fail
  generalize ((((w.alloc (.cells #[.int .i64 s, .int .i64 p, .int .i64 b, .slice aB lB cB, .slice aD lD cD, .slice aW lW cW, .int .i64 ops, .bool off, .int .i64 after, .slice aT lT cT] 42)).alloc (.cells #[.int .i64 ps, .int .i64 pp, .int .i64 pb, .int .i64 px0, .int .i64 px1, .int .i64 py0, .int .i64 py1, .int .i64 pn] 26)).alloc (.cells #[.int .i64 ad, .int .i64 ac, .int .i64 at_, .int .u64 rq, .int .i64 rs, .int .i64 rl, .int .u64 ru, .int .i64 an, .slice aT2 lT2 cT2, .slice aB2 lB2 cB2] 50)).alloc (.cells #[.int .i64 0, .int .i64 0, .int .i64 0, .slice none 0 0, .slice none 0 0, .slice none 0 0, .int .i64 0, .bool false, .int .i64 0, .slice none 0 0] 42)) = W at *
  generalize hgg : w.heap.size = g at *
  have H6 := H0.out.2.2.2.2.2
  refine (prep_erase H0.out.2.1 H6 (by have := HAO.out.2.2.2; omega) at_).mono ?_
  rintro e W2 ⟨rfl, hc2, hP2⟩
  have hS2 := H0.out.1.step hc2
  have hR2 := H0.out.2.2.1.but (fun k hk hF => hc2.block k hk fun x => hF (.inl (HFF.out.1 _ x)))
  have hsz2 := hc2.size
  have hF2 : ∀ x, ow9 F g W.heap.size x → x < W2.heap.size := by
    intro x hx
    rcases hx with y | y
    · have := HFF.out.2 _ y; have := hS2.b0.lt; omega
    · omega
  have hA2 : A9.ok ⟨ad, ac, at_, ⟨rq, rs, rl, ru⟩, an, aT2, lT2, cT2, ts2, aB2, lB2, cB2, xs2⟩ W2 := by
    obtain ⟨a1, a2, a3, a4, a5, a6, a7, a8, a9⟩ := H0.out.2.2.2.2.1
    exact ⟨a1, a2, a3, a4, a5.chg4 hc2 HAO.out.1.1, a6, a7, a8.chg4 hc2 HAO.out.1.2, a9⟩
  have H2 : Hid _ := And.intro hS2 (And.intro hP2 (And.intro hR2 (And.intro hF2 hA2)))
  obtain ⟨c0, c1, c2, c3, c4, c5, c6, c7, c8, c9⟩ := hS2.b0.c10
  obtain ⟨p0, p1, p2, p3, p4, p5, p6, p7⟩ := hS2.b1.c8
  obtain ⟨q0, q1, q2, q3, q4, q5, q6, q7, q8, q9⟩ := hS2.b2.c10
  clear hS2 hc2 hP2 hR2 hF2 hsz2 H6 hA2
  go_wp2_with fail
  refine (rep_erase H2.out.2.2.1 H0.out.2.2.2.2.2 (by have := HAO.out.2.2.2; omega) H2.out.2.2.2.1 at_ H2.out.2.2.2.2.bt).mono ?_
  rintro e W3 ⟨v', rfl, hg3, hR3⟩
  obtain ⟨s', p', b', ops', after', off', aB', aD', aW', aT', lB', cB', lD', cD', lW', cW', lT', cT', rfl⟩ := hR3.shape
  generalize ((m.erase at_).2) = E at *
  have H3 : Hid _ := And.intro (H2.out.1.grown hg3) (And.intro (H2.out.2.1.grown hg3) (And.intro hR3 (by have := H0.out.2.2.2.1; omega : g + 3 < W.heap.size)))
  clear hg3 hR3 H2 H0 HAO
  clear c0 c1 c2 c3 c4 c5 c6 c7 c8 c9 p0 p1 p2 p3 p4 p5 p6 p7 q0 q1 q2 q3 q4 q5 q6 q7 q8 q9
  go_wp2_with fail
  have hbs := Box.new W3 42 [.int .i64 s', .int .i64 p', .int .i64 b', .slice aB' lB' cB', .slice aD' lD' cD', .slice aW' lW' cW', .int .i64 ops', .bool off', .int .i64 after', .slice aT' lT' cT']
  have hga := World.grownBy_alloc W3 (.cells #[.int .i64 s', .int .i64 p', .int .i64 b', .slice aB' lB' cB', .slice aD' lD' cD', .slice aW' lW' cW', .int .i64 ops', .bool off', .int .i64 after', .slice aT' lT' cT'] 42) none
  have hlt : g + 1 + 1 + 1 < W3.heap.size := H3.out.1.b3.lt
  have H4 : Hid _ := And.intro (H3.out.1.grown hga) (And.intro (H3.out.2.1.grown hga) (And.intro (H3.out.2.2.1.grown hga) H3.out.2.2.2))
  generalize (W3.alloc (.cells #[.int .i64 s', .int .i64 p', .int .i64 b', .slice aB' lB' cB', .slice aD' lD' cD', .slice aW' lW' cW', .int .i64 ops', .bool off', .int .i64 after', .slice aT' lT' cT'] 42)) = W4 at *
  generalize W3.heap.size = gs at *
  obtain ⟨z0, z1, z2, z3, z4, z5, z6, z7, z8, z9⟩ := H4.out.1.b3.c10
  obtain ⟨y0, y1, y2, y3, y4, y5, y6, y7, y8, y9⟩ := H4.out.1.b3.f10
  obtain ⟨c0, c1, c2, c3, c4, c5, c6, c7, c8, c9⟩ := hbs.c10
  have hne : ¬ (g + 1 + 1 + 1 = gs) := by omega
  have hne' : ¬ (gs = g + 1 + 1 + 1) := by omega
  clear hbs hga H3
  have hnE : ∀ W, _ := fun W => num9_any E W
  go_region_held3 (fun w' => w'.cell? ⟨gs, 0, none⟩ = some (.int .i64 s') ∧ w'.cell? ⟨gs, 1, none⟩ = some (.int .i64 p') ∧ w'.cell? ⟨gs, 2, none⟩ = some (.int .i64 b') ∧ w'.cell? ⟨gs, 3, none⟩ = some (.slice aB' lB' cB') ∧ w'.cell? ⟨gs, 4, none⟩ = some (.slice aD' lD' cD') ∧ w'.cell? ⟨gs, 5, none⟩ = some (.slice aW' lW' cW') ∧ w'.cell? ⟨gs, 6, none⟩ = some (.int .i64 ops') ∧ w'.cell? ⟨gs, 7, none⟩ = some (.bool off') ∧ w'.cell? ⟨gs, 8, none⟩ = some (.int .i64 after') ∧ w'.cell? ⟨gs, 9, none⟩ = some (.slice aT' lT' cT')) (go_keep) (first | (go_at_call 8; refine (hnE _).mono ?_; rintro e w' ⟨rfl, rfl⟩))
  clear z0 z1 z2 z3 z4 z5 z6 z7 z8 z9 y0 y1 y2 y3 y4 y5 y6 y7 y8 y9 c0 c1 c2 c3 c4 c5 c6 c7 c8 c9
  have HE : Hid _ := H4.out
  clear H4
  go_wp2_with fail
  obtain ⟨hSTe, hPe, hRe, hHe⟩ := HE.out
  obtain ⟨hbe, hce, hpe, hre⟩ := s9_end hSTe hPe hRe hHe (.int .i64 s') (.int .i64 p') (.int .i64 b') (.slice aB' lB' cB') (.slice aD' lD' cD') (.slice aW' lW' cW') (.int .i64 ops') (.bool off') (.int .i64 after') (.slice aT' lT' cT') (rfl : ((((((((((W4.setCell ⟨g + 1 + 1 + 1, 0, none⟩ (.int .i64 s')).setCell ⟨g + 1 + 1 + 1, 1, none⟩ (.int .i64 p')).setCell ⟨g + 1 + 1 + 1, 2, none⟩ (.int .i64 b')).setCell ⟨g + 1 + 1 + 1, 3, none⟩ (.slice aB' lB' cB')).setCell ⟨g + 1 + 1 + 1, 4, none⟩ (.slice aD' lD' cD')).setCell ⟨g + 1 + 1 + 1, 5, none⟩ (.slice aW' lW' cW')).setCell ⟨g + 1 + 1 + 1, 6, none⟩ (.int .i64 ops')).setCell ⟨g + 1 + 1 + 1, 7, none⟩ (.bool off')).setCell ⟨g + 1 + 1 + 1, 8, none⟩ (.int .i64 after')).setCell ⟨g + 1 + 1 + 1, 9, none⟩ (.slice aT' lT' cT')) = _)
  have hdr : ((((((((((W4.setCell ⟨g + 1 + 1 + 1, 0, none⟩ (.int .i64 s')).setCell ⟨g + 1 + 1 + 1, 1, none⟩ (.int .i64 p')).setCell ⟨g + 1 + 1 + 1, 2, none⟩ (.int .i64 b')).setCell ⟨g + 1 + 1 + 1, 3, none⟩ (.slice aB' lB' cB')).setCell ⟨g + 1 + 1 + 1, 4, none⟩ (.slice aD' lD' cD')).setCell ⟨g + 1 + 1 + 1, 5, none⟩ (.slice aW' lW' cW')).setCell ⟨g + 1 + 1 + 1, 6, none⟩ (.int .i64 ops')).setCell ⟨g + 1 + 1 + 1, 7, none⟩ (.bool off')).setCell ⟨g + 1 + 1 + 1, 8, none⟩ (.int .i64 after')).setCell ⟨g + 1 + 1 + 1, 9, none⟩ (.slice aT' lT' cT')).grownBy ((((((((((W4.setCell ⟨g + 1 + 1 + 1, 0, none⟩ (.int .i64 s')).setCell ⟨g + 1 + 1 + 1, 1, none⟩ (.int .i64 p')).setCell ⟨g + 1 + 1 + 1, 2, none⟩ (.int .i64 b')).setCell ⟨g + 1 + 1 + 1, 3, none⟩ (.slice aB' lB' cB')).setCell ⟨g + 1 + 1 + 1, 4, none⟩ (.slice aD' lD' cD')).setCell ⟨g + 1 + 1 + 1, 5, none⟩ (.slice aW' lW' cW')).setCell ⟨g + 1 + 1 + 1, 6, none⟩ (.int .i64 ops')).setCell ⟨g + 1 + 1 + 1, 7, none⟩ (.bool off')).setCell ⟨g + 1 + 1 + 1, 8, none⟩ (.int .i64 after')).setCell ⟨g + 1 + 1 + 1, 9, none⟩ (.slice aT' lT' cT')).drew none := grown_drewN (World.grownBy.refl _ _) 1
  have hbe := hbe.grown hdr
  have hce := hce.trans (Chg.of_none hdr _)
  have hpe := hpe.grown hdr
  have hre := hre.grown hdr
  generalize ((((((((((W4.setCell ⟨g + 1 + 1 + 1, 0, none⟩ (.int .i64 s')).setCell ⟨g + 1 + 1 + 1, 1, none⟩ (.int .i64 p')).setCell ⟨g + 1 + 1 + 1, 2, none⟩ (.int .i64 b')).setCell ⟨g + 1 + 1 + 1, 3, none⟩ (.slice aB' lB' cB')).setCell ⟨g + 1 + 1 + 1, 4, none⟩ (.slice aD' lD' cD')).setCell ⟨g + 1 + 1 + 1, 5, none⟩ (.slice aW' lW' cW')).setCell ⟨g + 1 + 1 + 1, 6, none⟩ (.int .i64 ops')).setCell ⟨g + 1 + 1 + 1, 7, none⟩ (.bool off')).setCell ⟨g + 1 + 1 + 1, 8, none⟩ (.int .i64 after')).setCell ⟨g + 1 + 1 + 1, 9, none⟩ (.slice aT' lT' cT')).drew = WE at hbe hce hpe hre ⊢
  clear HE hSTe hPe hRe hHe hdr
  obtain ⟨z0, z1, z2, z3, z4, z5, z6, z7, z8, z9⟩ := hbe.c10
  refine bodyPost_ret (v := .tuple #[.agg #[.int .i64 s', .int .i64 p', .int .i64 b', .slice aB' lB' cB', .slice aD' lD' cD', .slice aW' lW' cW', .int .i64 ops', .bool off', .int .i64 after', .slice aT' lT' cT'], .bool true]) (by simp [results, Tryz.results10, go_sem, z0, z1, z2, z3, z4, z5, z6, z7, z8, z9]) rfl ?_
  exact ⟨_, rfl, hce, hpe, hre⟩
end Go.Proofs.YtfhgbddeclldnaaGreat

namespace Go.Proofs.YtfhgbddeclldnaaGreat
open Go.RowKit
set_option maxRecDepth 100000
set_option linter.unusedSimpArgs false
set_option linter.unusedVariables false

theorem step9_any {w : World} {fb bb db wb : Nat} {m : Fm} {v : Value} {k : Nat} {A : A9} {F : Nat → Prop} (P : Pa.Pl) (hP : PRep w fb bb db wb m F) (hFf : ∀ k, foot fb bb db wb k → F k) (hFs : ∀ k, F k → k < w.heap.size) (hR : Rep w v m F) (hg : m.Good k) (hk : k < 80000) (hPl : P.ok) (hA : A.ok w) (hAo : A.off (foot fb bb db wb)) :
    Calls Tryz.prog 10 #[.pointer (some ⟨fb, 0, none⟩), v, P.val, A.val] w fun e w' => P9 w fb bb db wb F (m.act9 P A) e w' := by
  unfold Fm.act9
  by_cases h0 : A.d = 0
  · rw [if_pos h0]; exact step9_load P hP hFf hFs hR hg hk hPl hA hAo h0
  rw [if_neg h0]
  by_cases h1 : A.d = 1
  · rw [if_pos h1]; exact step9_write P hP hFf hFs hR hg hk hPl hA hAo h1
  rw [if_neg h1]
  by_cases h2 : A.d = 2
  · rw [if_pos h2]; exact step9_switch P hP hFf hFs hR hg hk hPl hA hAo h2
  rw [if_neg h2]
  by_cases h3 : A.d = 3
  · rw [if_pos h3]; exact step9_repair P hP hFf hFs hR hg hk hPl hA hAo h3
  rw [if_neg h3]
  by_cases h4 : A.d = 4
  · rw [if_pos h4]; exact step9_arm P hP hFf hFs hR hg hk hPl hA hAo h4
  rw [if_neg h4]
  by_cases h6 : A.d = 6
  · rw [if_pos h6]; exact step9_page P hP hFf hFs hR hg hk hPl hA hAo h6
  rw [if_neg h6]
  by_cases h7 : A.d = 7
  · rw [if_pos h7]; exact step9_erase P hP hFf hFs hR hg hk hPl hA hAo h7
  rw [if_neg h7]
  exact step9_boot P hP hFf hFs hR hg hk hPl hA hAo h0 h1 h2 h3 h4 h6 h7
theorem good_kon {m n : Fm} {k : Nat} (hg : n.Good k) (P : Pa.Pl) (r : Rc) (all : Bool) (i : Nat) : (kon m P r all i n).1.Good (k + 2) := by
  unfold kon
  split
  · exact hg.mono (by omega)
  · exact good_kwr hg P i r
theorem good_krn {m : Fm} {k : Nat} (hg : m.Good k) (P : Pa.Pl) (r : Rc) (all : Bool) : (krn m P r all).1.Good (k + 4) := by
  unfold krn
  split
  · exact hg.mono (by omega)
  · split
    · exact hg.mono (by omega)
    · split
      · exact (good_kon hg P r all _).mono (by omega)
      · exact good_kon (good_kon hg P r all _) P r all _
theorem Fm.good_act9 {m : Fm} {k : Nat} {A : A9} (h : m.Good k) (P : Pa.Pl) (hn : A.n ≤ 9223372036854775807) : (m.act9 P A).Good (k + 4) := by
  unfold Fm.act9
  split
  · exact h.mono (by omega)
  · split
    · exact (good_kwr h P _ _).mono (by omega)
    · split
      · exact good_krn h P _ _
      · split
        · exact good_krn h P _ _
        · split
          · exact (Fm.good_arm h _ _ hn).mono (by omega)
          · split
            · exact (Fm.good_write h _ _).mono (by omega)
            · split
              · exact (Fm.good_erase h _).mono (by omega)
              · exact (Fm.good_boot h).mono (by omega)
/-- a call in memory -/
structure At9 (w : World) (b off i : Nat) (A : A9) : Prop where
  c : ∀ t, t < 10 → w.cell? ⟨b, off + i * 10 + t, none⟩ = A.cells[t]?
  ok : A.ok w
structure Acts9 (w : World) (a : Option Addr) (len : Nat) (A : Nat → A9) : Prop where
  le : len ≤ maxLen
  at_ : 0 < len → ∃ b off, a = some ⟨b, off, none⟩ ∧ ∀ i, i < len → At9 w b off i (A i)
theorem A9.ok.below {w w' : World} {A : A9} (h : A.ok w) (hb : Below w.heap.size w w') : A.ok w' := ⟨h.bc, h.bt, h.br, h.bn, h.rT.below hb, h.nT, h.mT, h.rB.below hb, h.nB⟩
theorem At9.lt {w : World} {b off i : Nat} {A : A9} (h : At9 w b off i A) : b < w.heap.size := cell_lt (h.c 0 (by decide))
theorem At9.below {w w' : World} {b off i : Nat} {A : A9} (h : At9 w b off i A) (hb : Below w.heap.size w w') : At9 w' b off i A :=
  ⟨fun t ht => by rw [hb.cell (p := ⟨b, _, none⟩) h.lt]; exact h.c t ht, h.ok.below hb⟩
/-- its bytes lie below what was made behind it -/
theorem A9.ok.off {w : World} {A : A9} (h : A.ok w) {F : Nat → Prop} (hF : ∀ k, F k → w.heap.size ≤ k) : A.off F := by
  refine ⟨fun b o e h0 x => ?_, fun b o e h0 x => ?_⟩
  · obtain ⟨b', o', e', hc⟩ := h.rT.cells h0
    rw [e] at e'
    injection e' with e'
    injection e' with e1 e2
    subst e1
    have := cell_lt (hc 0 h0)
    have := hF _ x
    omega
  · obtain ⟨b', o', e', hc⟩ := h.rB.cells h0
    rw [e] at e'
    injection e' with e'
    injection e' with e1 e2
    subst e1
    have := cell_lt (hc 0 h0)
    have := hF _ x
    omega
end Go.Proofs.YtfhgbddeclldnaaGreat

namespace Go.Proofs.YtfhgbddeclldnaaGreat.Pa
open Go.RowKit Go.ChangeShapes Go.WideShapes Go.ChangeAt Go.Joins
set_option maxRecDepth 100000
set_option linter.unusedSimpArgs false
set_option linter.unusedVariables false

theorem bnd_wf {x : Int} (h : (Lit.int .i64 x).wf = true) : bnd64 x := wf_i64 h
theorem trod_two {H : Type} {enc : TypeId × Value → H} {w : World} {base : Nat} {spare : Nat → Bool} {held : Bool} {fuel : Nat} {cs : List Value} {x : DataW H × List MemPlace} (h : DataW.trod enc Tryz.prog w base spare held fuel 24 cs = some x) :
    ∃ a b, cs = [.int .i64 a, .int .i64 b] ∧ bnd64 a ∧ bnd64 b := by
  obtain ⟨xs, m, _, _, hl, hn, hi⟩ := DataW.trod_array Tryz.underlying24 h
  rw [Tryz.cz2] at hl
  match cs, hl with
  | [c, d], _ =>
    have h0 := hi 0 (by decide)
    have h1 := hi 1 (by decide)
    rw [Tryz.cz3] at h0 h1
    obtain ⟨y0, e0⟩ : ∃ y, xs[0]? = some y := ⟨_, List.getElem?_eq_getElem (by omega)⟩
    obtain ⟨y1, e1⟩ : ∃ y, xs[1]? = some y := ⟨_, List.getElem?_eq_getElem (by omega)⟩
    rw [e0] at h0
    rw [e1] at h1
    simp at h0 h1
    obtain ⟨a, ea, _, wa⟩ := DataW.trod_int Tryz.underlying3 h0
    obtain ⟨b, eb, _, wb⟩ := DataW.trod_int Tryz.underlying3 h1
    simp at ea eb
    subst ea eb
    exact ⟨a, b, rfl, bnd_wf wa, bnd_wf wb⟩
theorem trod_geo {H : Type} {enc : TypeId × Value → H} {w : World} {base : Nat} {spare : Nat → Bool} {held : Bool} {fuel : Nat} {cs : List Value} {x : DataW H × List MemPlace} (h : DataW.trod enc Tryz.prog w base spare held fuel 23 cs = some x) :
    ∃ s p b, cs = [.int .i64 s, .int .i64 p, .int .i64 b] ∧ bnd64 s ∧ bnd64 p ∧ bnd64 b := by
  obtain ⟨y0, y1, y2, n, _, hl, h0, h1, h2⟩ := Deep.trod_struct3 Tryz.underlying23 h
  rw [Tryz.czG] at hl
  match cs, hl with
  | [c, d, e], _ =>
    simp [Tryz.cz3] at h0 h1 h2
    obtain ⟨a, ea, _, wa⟩ := DataW.trod_int Tryz.underlying3 h0
    obtain ⟨b, eb, _, wb⟩ := DataW.trod_int Tryz.underlying3 h1
    obtain ⟨g, eg, _, wg⟩ := DataW.trod_int Tryz.underlying3 h2
    simp at ea eb eg
    subst ea eb eg
    exact ⟨a, b, g, rfl, bnd_wf wa, bnd_wf wb, bnd_wf wg⟩
theorem trod_plan {H : Type} {enc : TypeId × Value → H} {w : World} {base : Nat} {spare : Nat → Bool} {held : Bool} {fuel : Nat} {cs : List Value} {x : DataW H × List MemPlace} (h : DataW.trod enc Tryz.prog w base spare held fuel 26 cs = some x) :
    ∃ P : Pl, cs = P.cells ∧ P.ok := by
  obtain ⟨y0, y1, y2, y3, n, _, hl, h0, h1, h2, h3⟩ := trod_struct4 Tryz.underlying26 h
  rw [Tryz.czP] at hl
  match cs, hl with
  | [c0, c1, c2, c3, c4, c5, c6, c7], _ =>
    simp [Tryz.cz3, Tryz.cz2, Tryz.czG] at h0 h1 h2 h3
    obtain ⟨s, p, b, e0, k0, k1, k2⟩ := trod_geo h0
    obtain ⟨x0, x1, e1, k3, k4⟩ := trod_two h1
    obtain ⟨z0, z1, e2, k5, k6⟩ := trod_two h2
    obtain ⟨n, e3, _, k7⟩ := DataW.trod_int Tryz.underlying3 h3
    simp at e0 e1 e2 e3
    obtain ⟨rfl, rfl, rfl⟩ := e0
    obtain ⟨rfl, rfl⟩ := e1
    obtain ⟨rfl, rfl⟩ := e2
    subst e3
    exact ⟨⟨s, p, b, x0, x1, z0, z1, n⟩, rfl, k0, k1, k2, k3, k4, k5, k6, bnd_wf k7⟩
theorem open_plan {H : Type} {enc : TypeId × Value → H} {w : World} {base : Nat} {spare : Nat → Bool} {held : Bool} {r : Reach} {b0 : Nat} {v : Value} {d : DataW H} {ps : List MemPlace} (hv : Value.okWide Tryz.prog w r b0 26 v) (h : DataW.Trod enc Tryz.prog w base spare held 26 v d ps) :
    ∃ P : Pl, v = P.val ∧ P.ok := by
  obtain ⟨cs, rfl, hsz⟩ := okWide_struct Tryz.underlying26 hv
  obtain ⟨fuel, hf⟩ := h
  obtain ⟨P, e, k⟩ := trod_plan hf
  refine ⟨P, ?_, k⟩
  have e' : cs = P.cells.toArray := by
    apply Array.ext'
    simpa [Value.cells] using e
  rw [e']
  rfl
theorem open_geo {H : Type} {enc : TypeId × Value → H} {w : World} {base : Nat} {spare : Nat → Bool} {held : Bool} {r : Reach} {b0 : Nat} {v : Value} {d : DataW H} {ps : List MemPlace} (hv : Value.okWide Tryz.prog w r b0 23 v) (h : DataW.Trod enc Tryz.prog w base spare held 23 v d ps) :
    ∃ s p b, v = .agg #[.int .i64 s, .int .i64 p, .int .i64 b] ∧ bnd64 s ∧ bnd64 p ∧ bnd64 b := by
  obtain ⟨cs, rfl, hsz⟩ := okWide_struct Tryz.underlying23 hv
  obtain ⟨fuel, hf⟩ := h
  obtain ⟨s, p, b, e, k⟩ := trod_geo hf
  refine ⟨s, p, b, ?_, k⟩
  have e' : cs = #[.int .i64 s, .int .i64 p, .int .i64 b] := by
    apply Array.ext'
    simpa [Value.cells] using e
  rw [e']
end Go.Proofs.YtfhgbddeclldnaaGreat.Pa

namespace Go.Proofs.YtfhgbddeclldnaaGreat
open Go.ChangeShapes Go.WideShapes Go.RowKit Go.Joins
set_option maxRecDepth 100000
set_option linter.unusedVariables false
set_option linter.unusedSimpArgs false

theorem Tryz.cb5 : Tryz.prog.cellsOf 5 = 1 := by kernel_rfl
theorem Tryz.cbB : Tryz.prog.cellsOf 36 = 1 := by kernel_rfl
theorem Tryz.cbC : Tryz.prog.cellsOf 40 = 2 := by kernel_rfl
theorem bytes59 : Tryz.prog.bytesOf 5 = 1 := by kernel_rfl
theorem all_mem9 {H : Type} {P : Program} {e : TypeId} : ∀ {l : List (DataW H)} {d : DataW H}, d ∈ l → ∀ n ∈ d.weights P e, n ∈ DataW.weightsAll P e l
  | x :: r, d, hd, n, hn => by
    simp only [DataW.weightsAll, List.mem_append]
    rcases List.mem_cons.1 hd with h | h
    · subst h; exact Or.inl hn
    · exact Or.inr (all_mem9 h n hn)
  | [], d, hd, _, _ => by cases hd
theorem row_sized9 {H : Type} {enc : TypeId × Value → H} {w : World} {fuel : Nat} {v : Value} {x : DataW H × List MemPlace} (h : DataW.trod enc Tryz.prog w 0 (fun _ => true) true fuel 36 [v] = some x) :
    ∃ a len cap zs, v = .slice a len cap ∧ IsRow .u8 w a len cap zs ∧ ((∀ n ∈ x.1.weights Tryz.prog 36, n ≤ reachBytes) → len ≤ 140737488355328) := by
  rcases open_ints Tryz.underlying36 Tryz.underlying5 Tryz.cb5 h with ⟨hcs, _⟩ | ⟨y, l, c, zs, hcs, _, hl, hm, hz, hx, hcell, hwz⟩
  · simp at hcs
    exact ⟨none, 0, 0, [], hcs, .inl ⟨rfl, rfl, rfl, rfl⟩, fun _ => Nat.zero_le _⟩
  · simp at hcs hz
    refine ⟨some y, l, c, zs, hcs, .inr ⟨_, rfl, hl, hm, hz, hcell, hwz⟩, fun hw => ?_⟩
    rw [hx] at hw
    have h1 := hw _ (by simp only [DataW.weights, Tryz.underlying36]; exact List.mem_cons_self)
    rw [bytes59, Nat.mul_one] at h1
    have h2 : (lits (H := H) IntKind.u8 (zs.take l)).length + (lits (H := H) IntKind.u8 (zs.drop l)).length = zs.length := by
      simp [lits]; omega
    rw [h2, hz] at h1
    have := reachBytes_lt
    omega
theorem isRow_nil {w : World} {a : Option Addr} {len cap : Nat} {zs : List Int} (hr : IsRow .u8 w a len cap zs) : a = none → cap = 0 := by
  rcases hr with ⟨_, _, h, _⟩ | ⟨y, e, _⟩
  · exact fun _ => h
  · intro e2; rw [e2] at e; cases e
theorem trod_rec9 {H : Type} {enc : TypeId × Value → H} {w : World} {base : Nat} {spare : Nat → Bool} {held : Bool} {fuel : Nat} {cs : List Value} {x : DataW H × List MemPlace} (h : DataW.trod enc Tryz.prog w base spare held fuel 48 cs = some x) :
    ∃ r : Rc, cs = r.cells ∧ r.ok := by
  obtain ⟨y0, y1, y2, y3, n, _, hl, h0, h1, h2, h3⟩ := trod_struct4 Tryz.underlying48 h
  rw [Tryz.czR] at hl
  match cs, hl with
  | [c0, c1, c2, c3], _ =>
    simp [Tryz.cz3, Tryz.czU] at h0 h1 h2 h3
    obtain ⟨q, e0, _, k0⟩ := DataW.trod_int Tryz.underlying46 h0
    obtain ⟨s, e1, _, k1⟩ := DataW.trod_int Tryz.underlying3 h1
    obtain ⟨l, e2, _, k2⟩ := DataW.trod_int Tryz.underlying3 h2
    obtain ⟨u, e3, _, k3⟩ := DataW.trod_int Tryz.underlying46 h3
    simp at e0 e1 e2 e3
    subst e0 e1 e2 e3
    exact ⟨⟨q, s, l, u⟩, rfl, wf_u64 k0, wf_i64 k1, wf_i64 k2, wf_u64 k3⟩
theorem open_rec9 {H : Type} {enc : TypeId × Value → H} {w : World} {base : Nat} {spare : Nat → Bool} {held : Bool} {r : Reach} {b0 : Nat} {v : Value} {d : DataW H} {ps : List MemPlace} (hv : Value.okWide Tryz.prog w r b0 48 v) (h : DataW.Trod enc Tryz.prog w base spare held 48 v d ps) :
    ∃ r : Rc, v = r.val ∧ r.ok := by
  obtain ⟨cs, rfl, hsz⟩ := okWide_struct Tryz.underlying48 hv
  obtain ⟨fuel, hf⟩ := h
  obtain ⟨r, e, k⟩ := trod_rec9 hf
  refine ⟨r, ?_, k⟩
  have e' : cs = r.cells.toArray := by
    apply Array.ext'
    simpa [Value.cells] using e
  rw [e']
  rfl
/-- a failure of power, out of its reading -/
theorem trod_crash {H : Type} {enc : TypeId × Value → H} {w : World} {fuel : Nat} {cs : List Value} {x : DataW H × List MemPlace} (h : DataW.trod enc Tryz.prog w 0 (fun _ => true) true fuel 40 cs = some x) :
    ∃ (n : Int) (a : Option Addr) (len cap : Nat) (xs : List Int), cs = [.int .i64 n, .slice a len cap] ∧ in64 n ∧ Row w a len xs ∧ (a = none → cap = 0) ∧ ((∀ n ∈ x.1.weights Tryz.prog 40, n ≤ reachBytes) → len ≤ 140737488355328) := by
  obtain ⟨y0, y1, m, hx, hl, h0, h1⟩ := trod_struct2 Tryz.underlying40 h
  rw [Tryz.cbC] at hl
  match cs, hl with
  | [c0, c1], _ =>
    simp [Tryz.cz3, Tryz.cbB] at h0 h1
    obtain ⟨n, e0, _, k0⟩ := DataW.trod_int Tryz.underlying3 h0
    obtain ⟨a, len, cap, zs, e1, hr, hsz⟩ := row_sized9 h1
    simp at e0
    subst e0 e1
    refine ⟨n, a, len, cap, zs.take len, rfl, wf_i64 k0, hr.row, isRow_nil hr, fun hw => hsz fun k hk => hw k ?_⟩
    rw [hx]
    simp only [DataW.weights, Tryz.underlying40]
    exact DataW.weights_mem_each (j := 1) (t := 36) (d := y1.1) rfl rfl k hk
theorem open_crash {H : Type} {enc : TypeId × Value → H} {w : World} {r : Reach} {b0 : Nat} {v : Value} {d : DataW H} {ps : List MemPlace} (hv : Value.okWide Tryz.prog w r b0 40 v) (h : DataW.Trod enc Tryz.prog w 0 (fun _ => true) true 40 v d ps) :
    ∃ (n : Int) (a : Option Addr) (cap : Nat) (xs : List Int), v = .agg #[.int .i64 n, .slice a xs.length cap] ∧ in64 n ∧ Row w a xs.length xs := by
  obtain ⟨cs, rfl, hsz⟩ := okWide_struct Tryz.underlying40 hv
  obtain ⟨fuel, hf⟩ := h
  obtain ⟨n, a, len, cap, xs, e, k1, k2, -, -⟩ := trod_crash hf
  obtain rfl := k2.len_eq
  refine ⟨n, a, cap, xs, ?_, k1, k2⟩
  have e' : cs = #[.int .i64 n, .slice a xs.length cap] := by
    apply Array.ext'
    simpa [Value.cells] using e
  rw [e']
end Go.Proofs.YtfhgbddeclldnaaGreat

namespace Go.Proofs.YtfhgbddeclldnaaGreat
open Go.ChangeShapes Go.WideShapes Go.RowKit Go.Joins
set_option maxRecDepth 100000
set_option linter.unusedVariables false
set_option linter.unusedSimpArgs false

theorem Tryz.cbA : Tryz.prog.cellsOf 50 = 10 := by kernel_rfl
theorem trod_struct6 {H : Type} {P : Program} {enc : TypeId × Value → H} {w : World} {base : Nat} {spare : Nat → Bool} {held : Bool} {t : TypeId} {f0 f1 f2 f3 f4 f5 : Field} {fuel : Nat} {cs : List Value} {x : DataW H × List MemPlace} (ht : P.underlying t = some (.struct #[f0, f1, f2, f3, f4, f5])) (h : DataW.trod enc P w base spare held fuel t cs = some x) :
    ∃ y0 y1 y2 y3 y4 y5 n, x.1 = .agg [y0.1, y1.1, y2.1, y3.1, y4.1, y5.1] ∧ cs.length = P.cellsOf t ∧ DataW.trod enc P w base spare held n f0.type ((cs.drop f0.offset).take (P.cellsOf f0.type)) = some y0 ∧
      DataW.trod enc P w base spare held n f1.type ((cs.drop f1.offset).take (P.cellsOf f1.type)) = some y1 ∧ DataW.trod enc P w base spare held n f2.type ((cs.drop f2.offset).take (P.cellsOf f2.type)) = some y2 ∧
      DataW.trod enc P w base spare held n f3.type ((cs.drop f3.offset).take (P.cellsOf f3.type)) = some y3 ∧ DataW.trod enc P w base spare held n f4.type ((cs.drop f4.offset).take (P.cellsOf f4.type)) = some y4 ∧
      DataW.trod enc P w base spare held n f5.type ((cs.drop f5.offset).take (P.cellsOf f5.type)) = some y5 := by
  obtain ⟨xs, n, _, rfl, hl, hlen, hf⟩ := DataW.trod_struct ht h
  match xs, hlen with
  | [y0, y1, y2, y3, y4, y5], _ => exact ⟨y0, y1, y2, y3, y4, y5, n, by simp, hl, by simpa using hf 0 f0 rfl, by simpa using hf 1 f1 rfl, by simpa using hf 2 f2 rfl, by simpa using hf 3 f3 rfl, by simpa using hf 4 f4 rfl, by simpa using hf 5 f5 rfl⟩
theorem list10 {α : Type} {l : List α} (h : l.length = 10) : ∃ a0 a1 a2 a3 a4 a5 a6 a7 a8 a9, l = [a0, a1, a2, a3, a4, a5, a6, a7, a8, a9] := by
  match l, h with
  | [a0, a1, a2, a3, a4, a5, a6, a7, a8, a9], _ => exact ⟨a0, a1, a2, a3, a4, a5, a6, a7, a8, a9, rfl⟩
/-- one call, out of its reading -/
theorem act9_sized {H : Type} {enc : TypeId × Value → H} {w : World} {n : Nat} {cs : List Value} {x : DataW H × List MemPlace} {b off i : Nat} (hl : cs.length = 10) (hc : ∀ t, t < 10 → w.cell? ⟨b, off + i * 10 + t, none⟩ = cs[t]?)
    (h : DataW.trod enc Tryz.prog w 0 (fun _ => true) true n 50 cs = some x) (hw : ∀ n ∈ x.1.weights Tryz.prog 50, n ≤ reachBytes) : ∃ A : A9, At9 w b off i A := by
  obtain ⟨x0, x1, x2, x3, x4, x5, x6, x7, x8, x9, rfl⟩ := list10 hl
  obtain ⟨y0, y1, y2, y3, y4, y5, m, hx, _, h0, h1, h2, h3, h4, h5⟩ := trod_struct6 Tryz.underlying50 h
  simp only [Tryz.cz3, Tryz.cbB, Tryz.cbC, Tryz.czR, List.drop_zero, List.drop_succ_cons, List.take_succ_cons, List.take_zero] at h0 h1 h2 h3 h4 h5
  obtain ⟨d, e0, _, w0⟩ := DataW.trod_int Tryz.underlying3 h0
  obtain ⟨c, e1, _, w1⟩ := DataW.trod_int Tryz.underlying3 h1
  obtain ⟨t, e2, _, w2⟩ := DataW.trod_int Tryz.underlying3 h2
  obtain ⟨r, e3, hr⟩ := trod_rec9 h3
  obtain ⟨nn, aT, lT, cT, ts, e4, hn, hT, hTn, hTs⟩ := trod_crash h4
  obtain ⟨aB, lB, cB, zs, e5, hB, hBs⟩ := row_sized9 h5
  simp only [List.cons.injEq, and_true, Rc.cells] at e0 e1 e2 e3 e4
  obtain ⟨rfl, rfl, rfl, rfl⟩ := e3
  obtain ⟨rfl, rfl⟩ := e4
  subst e0 e1 e2 e5
  refine ⟨⟨d, c, t, r, nn, aT, lT, cT, ts, aB, lB, cB, zs.take lB⟩, ⟨fun k hk => hc k hk, wf_i64 w1, wf_i64 w2, hr, hn, hT, hTn, hTs fun k hk => hw k ?_, hB.row, isRow_nil hB⟩⟩
  rw [hx]
  simp only [DataW.weights, Tryz.underlying50]
  exact DataW.weights_mem_each (j := 4) (t := 40) (d := y4.1) rfl rfl k hk
theorem acts9_sized {H : Type} {enc : TypeId × Value → H} {w : World} {fuel : Nat} {a : Option Addr} {len cap : Nat} {x : DataW H × List MemPlace} (h : DataW.trod enc Tryz.prog w 0 (fun _ => true) true fuel 27 [.slice a len cap] = some x) (hw : ∀ n ∈ x.1.weights Tryz.prog 27, n ≤ reachBytes) :
    ∃ A, Acts9 w a len A := by
  rcases Deep.open_slice Tryz.underlying27 h with ⟨hcs, _⟩ | ⟨y, l, c, m, n, D, Pl, hcs, _, hl, hm, hmm, hx, hel⟩
  · simp at hcs
    obtain ⟨rfl, rfl, rfl⟩ := hcs
    exact ⟨fun _ => ⟨0, 0, 0, rc0, 0, none, 0, 0, [], none, 0, 0, []⟩, ⟨Nat.zero_le _, fun h => absurd h (by omega)⟩⟩
  · simp at hcs
    obtain ⟨rfl, rfl, rfl⟩ := hcs
    simp only [if_true] at hmm
    subst hmm
    rcases Nat.eq_zero_or_pos len with rfl | h0
    · exact ⟨fun _ => ⟨0, 0, 0, rc0, 0, none, 0, 0, [], none, 0, 0, []⟩, ⟨Nat.zero_le _, fun h => absurd h (by omega)⟩⟩
    · obtain ⟨b, off, spot⟩ := y
      rw [Tryz.cbA] at hel
      have hspot : spot = none := by
        obtain ⟨cs, h1, _⟩ := hel 0 (by omega)
        obtain ⟨_, hl4, hc⟩ := World.cells?_some h1
        have := hc 0 (by omega)
        obtain ⟨x0, x1, x2, x3, x4, x5, x6, x7, x8, x9, rfl⟩ := list10 hl4
        have h2 : w.cell? ((Addr.add ⟨b, off, spot⟩ (0 * 10)).add 0) = some x0 := this
        simpa [Addr.add] using World.cell?_spot h2
      subst hspot
      have hadd : ∀ i t, ((⟨b, off, none⟩ : Addr).add (i * 10)).add t = ⟨b, off + i * 10 + t, none⟩ := by
        intro i t
        have e : ∀ o k, (⟨b, o, none⟩ : Addr).add k = ⟨b, o + k, none⟩ := by intro o k; unfold Addr.add; split <;> simp_all
        rw [e, e]
      have hwD : ∀ i, i < len → ∀ k ∈ (D i).weights Tryz.prog 50, k ≤ reachBytes := by
        intro i hi k hk
        apply hw
        rw [hx]
        simp only [DataW.weights, Tryz.underlying27]
        refine List.mem_cons_of_mem _ (List.mem_append.2 (Or.inl (all_mem9 (d := D i) ?_ k hk)))
        exact List.mem_map.2 ⟨i, List.mem_range.2 hi, rfl⟩
      obtain ⟨A, hA⟩ := @Deep.choose_lt A9 ⟨⟨0, 0, 0, rc0, 0, none, 0, 0, [], none, 0, 0, []⟩⟩ len (fun i A => At9 w b off i A) (fun i hi => by
        obtain ⟨cs, h1, h2⟩ := hel i (by omega)
        obtain ⟨_, hl4, hc⟩ := World.cells?_some h1
        exact act9_sized hl4 (fun t ht => by rw [← hadd]; exact hc t ht) h2 (hwD i hi))
      exact ⟨A, ⟨by omega, fun _ => ⟨b, off, rfl, fun i hi => hA i hi⟩⟩⟩
end Go.Proofs.YtfhgbddeclldnaaGreat
