/- step: Erase. -/
import Derived.Test.YtdefcfmnhfeblaaLL
namespace Go.Proofs.Ytdefcfmnhfeblaa
open Go.RowKit
set_option linter.unusedSimpArgs false
set_option linter.unusedVariables false
attribute [local go_sem ↓] Go.wp_at_zero Go.wp_at_succ

theorem erase_in (m : Fm) (sec : Int) : -9223372036854775808 ≤ (m.erase sec).2 ∧ (m.erase sec).2 ≤ 9223372036854775807 := by
  unfold Fm.erase
  split
  · simp only [Fm.torn]; split <;> decide
  · rcases erE_cases m sec with ⟨_, h⟩ | ⟨_, _, _, ⟨_, h⟩ | ⟨_, h⟩⟩ <;> simp [h]
set_option maxRecDepth 100000 in
set_option maxHeartbeats 4000000 in
theorem step_erase {w : World} {fb bb db wb : Nat} {m : Fm} {v : Value} {k : Nat} {A : Ac} {F : Nat → Prop} (hP : PRep w fb bb db wb m F) (hFf : ∀ k, foot fb bb db wb k → F k) (hFs : ∀ k, F k → k < w.heap.size) (hR : Rep w v m F) (hg : m.Good k) (hk : k < 1000000) (h2 : A.d = 2) (hba : -9223372036854775808 ≤ A.at_ ∧ A.at_ ≤ 9223372036854775807) :
    Calls Try.prog 15 #[.pointer (some ⟨fb, 0, none⟩), v, A.val] w fun e w' => StPost w fb bb db wb F (m.erase A.at_).1 e w' := by
  have HFF : Hid _ := And.intro hFf hFs
  clear hFf hFs
  have hnE : ∀ W, _ := fun W => num_any (m.erase A.at_).2 W (erase_in _ _)
  obtain ⟨s, p, b, ops, after, off, aB, aD, aW, aT, lB, cB, lD, cD, lW, cW, lT, cT, rfl⟩ := hR.shape
  have hST : ST w (((w.alloc (.cells #[.int .i64 s, .int .i64 p, .int .i64 b, .slice aB lB cB, .slice aD lD cD, .slice aW lW cW, .int .i64 ops, .bool off, .int .i64 after, .slice aT lT cT] 40)).alloc (.cells #[.int .i64 A.d, .int .i64 A.at_, .int .i64 A.n, .slice A.a A.len A.cap] 45)).alloc (.cells #[.int .i64 0, .int .i64 0, .int .i64 0, .slice none 0 0, .slice none 0 0, .slice none 0 0, .int .i64 0, .bool false, .int .i64 0, .slice none 0 0] 40)) w.heap.size fb bb db wb [.int .i64 s, .int .i64 p, .int .i64 b, .slice aB lB cB, .slice aD lD cD, .slice aW lW cW, .int .i64 ops, .bool off, .int .i64 after, .slice aT lT cT] [.int .i64 A.d, .int .i64 A.at_, .int .i64 A.n, .slice A.a A.len A.cap] [.int .i64 0, .int .i64 0, .int .i64 0, .slice none 0 0, .slice none 0 0, .slice none 0 0, .int .i64 0, .bool false, .int .i64 0, .slice none 0 0] := st_made _ _ _ hP.lt
  have hgW : w.grownBy (((w.alloc (.cells #[.int .i64 s, .int .i64 p, .int .i64 b, .slice aB lB cB, .slice aD lD cD, .slice aW lW cW, .int .i64 ops, .bool off, .int .i64 after, .slice aT lT cT] 40)).alloc (.cells #[.int .i64 A.d, .int .i64 A.at_, .int .i64 A.n, .slice A.a A.len A.cap] 45)).alloc (.cells #[.int .i64 0, .int .i64 0, .int .i64 0, .slice none 0 0, .slice none 0 0, .slice none 0 0, .int .i64 0, .bool false, .int .i64 0, .slice none 0 0] 40)) none := grown_trans (grown2 _ _ _) (World.grownBy_alloc _ _ _)
  have hPW := (hP.fresh2 (G' := ownF F w.heap.size (((w.alloc (.cells #[.int .i64 s, .int .i64 p, .int .i64 b, .slice aB lB cB, .slice aD lD cD, .slice aW lW cW, .int .i64 ops, .bool off, .int .i64 after, .slice aT lT cT] 40)).alloc (.cells #[.int .i64 A.d, .int .i64 A.at_, .int .i64 A.n, .slice A.a A.len A.cap] 45)).alloc (.cells #[.int .i64 0, .int .i64 0, .int .i64 0, .slice none 0 0, .slice none 0 0, .slice none 0 0, .int .i64 0, .bool false, .int .i64 0, .slice none 0 0] 40)).heap.size) (fun _ x => x.elim .inl fun y => .inr y.1)).grown hgW
  have hRW := (hR.fresh (F' := ownF F w.heap.size (((w.alloc (.cells #[.int .i64 s, .int .i64 p, .int .i64 b, .slice aB lB cB, .slice aD lD cD, .slice aW lW cW, .int .i64 ops, .bool off, .int .i64 after, .slice aT lT cT] 40)).alloc (.cells #[.int .i64 A.d, .int .i64 A.at_, .int .i64 A.n, .slice A.a A.len A.cap] 45)).alloc (.cells #[.int .i64 0, .int .i64 0, .int .i64 0, .slice none 0 0, .slice none 0 0, .slice none 0 0, .int .i64 0, .bool false, .int .i64 0, .slice none 0 0] 40)).heap.size) hg (fun x hx => hx.elim .inl fun y => .inr y.1)).grown hgW
  have hszW : w.heap.size + 2 < (((w.alloc (.cells #[.int .i64 s, .int .i64 p, .int .i64 b, .slice aB lB cB, .slice aD lD cD, .slice aW lW cW, .int .i64 ops, .bool off, .int .i64 after, .slice aT lT cT] 40)).alloc (.cells #[.int .i64 A.d, .int .i64 A.at_, .int .i64 A.n, .slice A.a A.len A.cap] 45)).alloc (.cells #[.int .i64 0, .int .i64 0, .int .i64 0, .slice none 0 0, .slice none 0 0, .slice none 0 0, .int .i64 0, .bool false, .int .i64 0, .slice none 0 0] 40)).heap.size := by simp
  unfold Ac.val
  have e0 : (A.d == 0) = false := by rw [h2]; rfl
  have e1 : (A.d == 1) = false := by rw [h2]; rfl
  have e2 : (A.d == 2) = true := by rw [h2]; rfl
  clear h2
  have H0 : Hid _ := And.intro hST (And.intro hPW (And.intro hRW (And.intro hszW (And.intro hgW hg))))
  clear hST hP hR hg hszW hgW hPW hRW
  go_enter Try.func15, Try.ntmps15
  go_wp2_with fail
  generalize (((w.alloc (.cells #[.int .i64 s, .int .i64 p, .int .i64 b, .slice aB lB cB, .slice aD lD cD, .slice aW lW cW, .int .i64 ops, .bool off, .int .i64 after, .slice aT lT cT] 40)).alloc (.cells #[.int .i64 A.d, .int .i64 A.at_, .int .i64 A.n, .slice A.a A.len A.cap] 45)).alloc (.cells #[.int .i64 0, .int .i64 0, .int .i64 0, .slice none 0 0, .slice none 0 0, .slice none 0 0, .int .i64 0, .bool false, .int .i64 0, .slice none 0 0] 40)) = W at *
  generalize hgg : w.heap.size = g at *
  have H6 := H0.out.2.2.2.2.2
  refine (prep_erase H0.out.2.1 H6 hk A.at_).mono ?_
  rintro e W2 ⟨rfl, hc2, hP2⟩
  have hS2 := H0.out.1.step hc2
  have hR2 := H0.out.2.2.1.but (fun k hk hF => hc2.block k hk fun x => hF (.inl (HFF.out.1 _ x)))
  have hsz2 := hc2.size
  have hF2 : ∀ x, ownF F g W.heap.size x → x < W2.heap.size := by
    intro x hx
    rcases hx with y | y
    · have := HFF.out.2 _ y; have := hS2.b0.lt; omega
    · omega
  have H2 : Hid _ := And.intro hS2 (And.intro hP2 (And.intro hR2 hF2))
  have d1 : W2.cell? ⟨g + 1, 1, none⟩ = some (.int .i64 A.at_) := hS2.b1.c 1
  obtain ⟨c0, c1, c2, c3, c4, c5, c6, c7, c8, c9⟩ := hS2.b0.c10
  clear hS2 hc2 hP2 hR2 hF2 hsz2 H6
  go_wp2_with fail
  refine (rep_erase H2.out.2.2.1 H0.out.2.2.2.2.2 hk H2.out.2.2.2 A.at_ hba).mono ?_
  rintro e W3 ⟨v', rfl, hg3, hR3⟩
  obtain ⟨s', p', b', ops', after', off', aB', aD', aW', aT', lB', cB', lD', cD', lW', cW', lT', cT', rfl⟩ := hR3.shape
  generalize (m.erase A.at_).2 = E at *
  have H3 : Hid _ := And.intro (H2.out.1.grown hg3) (And.intro (H2.out.2.1.grown hg3) (And.intro hR3 H0.out.2.2.2.1))
  clear hg3 hR3 H2 H0 d1
  clear c0 c1 c2 c3 c4 c5 c6 c7 c8 c9
  go_wp2_with fail
  have hbs := Box.new W3 40 [.int .i64 s', .int .i64 p', .int .i64 b', .slice aB' lB' cB', .slice aD' lD' cD', .slice aW' lW' cW', .int .i64 ops', .bool off', .int .i64 after', .slice aT' lT' cT']
  have hga := World.grownBy_alloc W3 (.cells #[.int .i64 s', .int .i64 p', .int .i64 b', .slice aB' lB' cB', .slice aD' lD' cD', .slice aW' lW' cW', .int .i64 ops', .bool off', .int .i64 after', .slice aT' lT' cT'] 40) none
  have hlt : g + 1 + 1 < W3.heap.size := H3.out.1.b2.lt
  have H4 : Hid _ := And.intro (H3.out.1.grown hga) (And.intro (H3.out.2.1.grown hga) (And.intro (H3.out.2.2.1.grown hga) H3.out.2.2.2))
  generalize (W3.alloc (.cells #[.int .i64 s', .int .i64 p', .int .i64 b', .slice aB' lB' cB', .slice aD' lD' cD', .slice aW' lW' cW', .int .i64 ops', .bool off', .int .i64 after', .slice aT' lT' cT'] 40)) = W4 at *
  generalize W3.heap.size = gs at *
  obtain ⟨z0, z1, z2, z3, z4, z5, z6, z7, z8, z9⟩ := H4.out.1.b2.c10
  obtain ⟨y0, y1, y2, y3, y4, y5, y6, y7, y8, y9⟩ := H4.out.1.b2.f10
  obtain ⟨c0, c1, c2, c3, c4, c5, c6, c7, c8, c9⟩ := hbs.c10
  have hne : ¬ (g + 1 + 1 = gs) := by omega
  have hne' : ¬ (gs = g + 1 + 1) := by omega
  clear hbs hga H3
  go_region_held3 (fun w' => w'.cell? ⟨gs, 0, none⟩ = some (.int .i64 s') ∧ w'.cell? ⟨gs, 1, none⟩ = some (.int .i64 p') ∧ w'.cell? ⟨gs, 2, none⟩ = some (.int .i64 b') ∧ w'.cell? ⟨gs, 3, none⟩ = some (.slice aB' lB' cB') ∧ w'.cell? ⟨gs, 4, none⟩ = some (.slice aD' lD' cD') ∧ w'.cell? ⟨gs, 5, none⟩ = some (.slice aW' lW' cW') ∧ w'.cell? ⟨gs, 6, none⟩ = some (.int .i64 ops') ∧ w'.cell? ⟨gs, 7, none⟩ = some (.bool off') ∧ w'.cell? ⟨gs, 8, none⟩ = some (.int .i64 after') ∧ w'.cell? ⟨gs, 9, none⟩ = some (.slice aT' lT' cT')) (go_keep) (first | (go_at_call 11; refine (hnE _).mono ?_; rintro e w' ⟨rfl, rfl⟩))
  clear z0 z1 z2 z3 z4 z5 z6 z7 z8 z9 y0 y1 y2 y3 y4 y5 y6 y7 y8 y9 c0 c1 c2 c3 c4 c5 c6 c7 c8 c9
  have HE : Hid _ := H4.out
  clear H4
  go_wp2_with fail
  obtain ⟨hSTe, hPe, hRe, hHe⟩ := HE.out
  obtain ⟨hbe, hce, hpe, hre⟩ := st_end hSTe hPe hRe hHe (.int .i64 s') (.int .i64 p') (.int .i64 b') (.slice aB' lB' cB') (.slice aD' lD' cD') (.slice aW' lW' cW') (.int .i64 ops') (.bool off') (.int .i64 after') (.slice aT' lT' cT') (rfl : ((((((((((W4.setCell ⟨g + 1 + 1, 0, none⟩ (.int .i64 s')).setCell ⟨g + 1 + 1, 1, none⟩ (.int .i64 p')).setCell ⟨g + 1 + 1, 2, none⟩ (.int .i64 b')).setCell ⟨g + 1 + 1, 3, none⟩ (.slice aB' lB' cB')).setCell ⟨g + 1 + 1, 4, none⟩ (.slice aD' lD' cD')).setCell ⟨g + 1 + 1, 5, none⟩ (.slice aW' lW' cW')).setCell ⟨g + 1 + 1, 6, none⟩ (.int .i64 ops')).setCell ⟨g + 1 + 1, 7, none⟩ (.bool off')).setCell ⟨g + 1 + 1, 8, none⟩ (.int .i64 after')).setCell ⟨g + 1 + 1, 9, none⟩ (.slice aT' lT' cT')) = _)
  have hdr : ((((((((((W4.setCell ⟨g + 1 + 1, 0, none⟩ (.int .i64 s')).setCell ⟨g + 1 + 1, 1, none⟩ (.int .i64 p')).setCell ⟨g + 1 + 1, 2, none⟩ (.int .i64 b')).setCell ⟨g + 1 + 1, 3, none⟩ (.slice aB' lB' cB')).setCell ⟨g + 1 + 1, 4, none⟩ (.slice aD' lD' cD')).setCell ⟨g + 1 + 1, 5, none⟩ (.slice aW' lW' cW')).setCell ⟨g + 1 + 1, 6, none⟩ (.int .i64 ops')).setCell ⟨g + 1 + 1, 7, none⟩ (.bool off')).setCell ⟨g + 1 + 1, 8, none⟩ (.int .i64 after')).setCell ⟨g + 1 + 1, 9, none⟩ (.slice aT' lT' cT')).grownBy ((((((((((W4.setCell ⟨g + 1 + 1, 0, none⟩ (.int .i64 s')).setCell ⟨g + 1 + 1, 1, none⟩ (.int .i64 p')).setCell ⟨g + 1 + 1, 2, none⟩ (.int .i64 b')).setCell ⟨g + 1 + 1, 3, none⟩ (.slice aB' lB' cB')).setCell ⟨g + 1 + 1, 4, none⟩ (.slice aD' lD' cD')).setCell ⟨g + 1 + 1, 5, none⟩ (.slice aW' lW' cW')).setCell ⟨g + 1 + 1, 6, none⟩ (.int .i64 ops')).setCell ⟨g + 1 + 1, 7, none⟩ (.bool off')).setCell ⟨g + 1 + 1, 8, none⟩ (.int .i64 after')).setCell ⟨g + 1 + 1, 9, none⟩ (.slice aT' lT' cT')).drew none := grown_drewN (World.grownBy.refl _ _) 1
  have hbe := hbe.grown hdr
  have hce := hce.trans (Chg.of_none hdr _)
  have hpe := hpe.grown hdr
  have hre := hre.grown hdr
  generalize ((((((((((W4.setCell ⟨g + 1 + 1, 0, none⟩ (.int .i64 s')).setCell ⟨g + 1 + 1, 1, none⟩ (.int .i64 p')).setCell ⟨g + 1 + 1, 2, none⟩ (.int .i64 b')).setCell ⟨g + 1 + 1, 3, none⟩ (.slice aB' lB' cB')).setCell ⟨g + 1 + 1, 4, none⟩ (.slice aD' lD' cD')).setCell ⟨g + 1 + 1, 5, none⟩ (.slice aW' lW' cW')).setCell ⟨g + 1 + 1, 6, none⟩ (.int .i64 ops')).setCell ⟨g + 1 + 1, 7, none⟩ (.bool off')).setCell ⟨g + 1 + 1, 8, none⟩ (.int .i64 after')).setCell ⟨g + 1 + 1, 9, none⟩ (.slice aT' lT' cT')).drew = WE at hbe hce hpe hre ⊢
  clear HE hSTe hPe hRe hHe hdr
  obtain ⟨z0, z1, z2, z3, z4, z5, z6, z7, z8, z9⟩ := hbe.c10
  refine bodyPost_ret (v := .tuple #[.agg #[.int .i64 s', .int .i64 p', .int .i64 b', .slice aB' lB' cB', .slice aD' lD' cD', .slice aW' lW' cW', .int .i64 ops', .bool off', .int .i64 after', .slice aT' lT' cT'], .bool true]) (by simp [results, Try.results15, go_sem, z0, z1, z2, z3, z4, z5, z6, z7, z8, z9]) rfl ?_
  exact ⟨_, rfl, hce, hpe, hre⟩
end Go.Proofs.Ytdefcfmnhfeblaa
