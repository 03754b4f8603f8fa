/- step: Arm. -/
import Derived.Test.YtdefcfmnhfeblaaLO
namespace Go.Proofs.Ytdefcfmnhfeblaa
open Go.RowKit
set_option linter.unusedSimpArgs false
set_option linter.unusedVariables false
attribute [local go_sem ↓] Go.wp_at_zero Go.wp_at_succ

theorem arm_in (m : Fm) (n : Int) (ts : List Int) : -9223372036854775808 ≤ (m.arm n ts).2 ∧ (m.arm n ts).2 ≤ 9223372036854775807 := by
  unfold Fm.arm
  split
  · simp
  · simp only [arE]
    split
    · decide
    · split <;> decide
set_option maxRecDepth 100000 in
set_option maxHeartbeats 8000000 in
theorem step_arm {w : World} {fb bb db wb : Nat} {m : Fm} {v : Value} {k : Nat} {A : Ac} {F : Nat → Prop} (hP : PRep w fb bb db wb m F) (hFf : ∀ k, foot fb bb db wb k → F k) (hFs : ∀ k, F k → k < w.heap.size) (hR : Rep w v m F) (hg : m.Good k) (h2 : A.d = 3) (hA : A.ok w) (hAm : A.len ≤ 140737488355328) (hAf : ∀ b o, A.a = some ⟨b, o, none⟩ → 0 < A.len → ¬ foot fb bb db wb b) :
    Calls Try.prog 15 #[.pointer (some ⟨fb, 0, none⟩), v, A.val] w fun e w' => StPost w fb bb db wb F (m.arm A.n A.xs).1 e w' := by
  have HFF : Hid _ := And.intro hFf hFs
  clear hFf hFs
  have hnE : ∀ W, _ := fun W => num_any (m.arm A.n A.xs).2 W (arm_in _ _ _)
  obtain ⟨i5, hi5, hz0, hz1, hz2⟩ := info_parts Try.info5
  have HI5 : Hid _ := And.intro hi5 (And.intro hz0 (And.intro hz1 hz2))
  have HA : Hid _ := And.intro hA hAf
  have hnil := hA.nil
  clear hi5 hz0 hz1 hz2
  obtain ⟨s, p, b, ops, after, off, aB, aD, aW, aT, lB, cB, lD, cD, lW, cW, lT, cT, rfl⟩ := hR.shape
  have hST : ST w (((w.alloc (.cells #[.int .i64 s, .int .i64 p, .int .i64 b, .slice aB lB cB, .slice aD lD cD, .slice aW lW cW, .int .i64 ops, .bool off, .int .i64 after, .slice aT lT cT] 40)).alloc (.cells #[.int .i64 A.d, .int .i64 A.at_, .int .i64 A.n, .slice A.a A.len A.cap] 45)).alloc (.cells #[.int .i64 0, .int .i64 0, .int .i64 0, .slice none 0 0, .slice none 0 0, .slice none 0 0, .int .i64 0, .bool false, .int .i64 0, .slice none 0 0] 40)) w.heap.size fb bb db wb [.int .i64 s, .int .i64 p, .int .i64 b, .slice aB lB cB, .slice aD lD cD, .slice aW lW cW, .int .i64 ops, .bool off, .int .i64 after, .slice aT lT cT] [.int .i64 A.d, .int .i64 A.at_, .int .i64 A.n, .slice A.a A.len A.cap] [.int .i64 0, .int .i64 0, .int .i64 0, .slice none 0 0, .slice none 0 0, .slice none 0 0, .int .i64 0, .bool false, .int .i64 0, .slice none 0 0] := st_made _ _ _ hP.lt
  have hgW : w.grownBy (((w.alloc (.cells #[.int .i64 s, .int .i64 p, .int .i64 b, .slice aB lB cB, .slice aD lD cD, .slice aW lW cW, .int .i64 ops, .bool off, .int .i64 after, .slice aT lT cT] 40)).alloc (.cells #[.int .i64 A.d, .int .i64 A.at_, .int .i64 A.n, .slice A.a A.len A.cap] 45)).alloc (.cells #[.int .i64 0, .int .i64 0, .int .i64 0, .slice none 0 0, .slice none 0 0, .slice none 0 0, .int .i64 0, .bool false, .int .i64 0, .slice none 0 0] 40)) none := grown_trans (grown2 _ _ _) (World.grownBy_alloc _ _ _)
  have hPW := (hP.fresh2 (G' := fun k => F k ∨ w.heap.size ≤ k) (fun _ x => x)).grown hgW
  have hRW : ∀ H, _ := fun H => (hR.fresh (F' := ownF F w.heap.size H) hg (fun x hx => hx.elim .inl fun y => .inr y.1)).grown hgW
  have hszW : w.heap.size + 2 < (((w.alloc (.cells #[.int .i64 s, .int .i64 p, .int .i64 b, .slice aB lB cB, .slice aD lD cD, .slice aW lW cW, .int .i64 ops, .bool off, .int .i64 after, .slice aT lT cT] 40)).alloc (.cells #[.int .i64 A.d, .int .i64 A.at_, .int .i64 A.n, .slice A.a A.len A.cap] 45)).alloc (.cells #[.int .i64 0, .int .i64 0, .int .i64 0, .slice none 0 0, .slice none 0 0, .slice none 0 0, .int .i64 0, .bool false, .int .i64 0, .slice none 0 0] 40)).heap.size := by simp
  unfold Ac.val
  have e0 : (A.d == 0) = false := by rw [h2]; rfl
  have e1 : (A.d == 1) = false := by rw [h2]; rfl
  have e2 : (A.d == 2) = false := by rw [h2]; rfl
  have e3 : (A.d == 3) = true := by rw [h2]; rfl
  clear h2
  have hsz3 : (((w.alloc (.cells #[.int .i64 s, .int .i64 p, .int .i64 b, .slice aB lB cB, .slice aD lD cD, .slice aW lW cW, .int .i64 ops, .bool off, .int .i64 after, .slice aT lT cT] 40)).alloc (.cells #[.int .i64 A.d, .int .i64 A.at_, .int .i64 A.n, .slice A.a A.len A.cap] 45)).alloc (.cells #[.int .i64 0, .int .i64 0, .int .i64 0, .slice none 0 0, .slice none 0 0, .slice none 0 0, .int .i64 0, .bool false, .int .i64 0, .slice none 0 0] 40)).heap.size = w.heap.size + 1 + 1 + 1 := by simp
  have hmade := made8 (((w.alloc (.cells #[.int .i64 s, .int .i64 p, .int .i64 b, .slice aB lB cB, .slice aD lD cD, .slice aW lW cW, .int .i64 ops, .bool off, .int .i64 after, .slice aT lT cT] 40)).alloc (.cells #[.int .i64 A.d, .int .i64 A.at_, .int .i64 A.n, .slice A.a A.len A.cap] 45)).alloc (.cells #[.int .i64 0, .int .i64 0, .int .i64 0, .slice none 0 0, .slice none 0 0, .slice none 0 0, .int .i64 0, .bool false, .int .i64 0, .slice none 0 0] 40))
  have RA := (hA.row.grown hgW).grown (World.grownBy_alloc (((w.alloc (.cells #[.int .i64 s, .int .i64 p, .int .i64 b, .slice aB lB cB, .slice aD lD cD, .slice aW lW cW, .int .i64 ops, .bool off, .int .i64 after, .slice aT lT cT] 40)).alloc (.cells #[.int .i64 A.d, .int .i64 A.at_, .int .i64 A.n, .slice A.a A.len A.cap] 45)).alloc (.cells #[.int .i64 0, .int .i64 0, .int .i64 0, .slice none 0 0, .slice none 0 0, .slice none 0 0, .int .i64 0, .bool false, .int .i64 0, .slice none 0 0] 40)) (.cells #[] 5) none)
  have hsz4 : w.heap.size + 1 + 1 + 1 ≤ ((((w.alloc (.cells #[.int .i64 s, .int .i64 p, .int .i64 b, .slice aB lB cB, .slice aD lD cD, .slice aW lW cW, .int .i64 ops, .bool off, .int .i64 after, .slice aT lT cT] 40)).alloc (.cells #[.int .i64 A.d, .int .i64 A.at_, .int .i64 A.n, .slice A.a A.len A.cap] 45)).alloc (.cells #[.int .i64 0, .int .i64 0, .int .i64 0, .slice none 0 0, .slice none 0 0, .slice none 0 0, .int .i64 0, .bool false, .int .i64 0, .slice none 0 0] 40)).alloc (.cells #[] 5)).heap.size := by simp
  rw [hsz3] at hmade
  have HM : Hid _ := And.intro hmade (And.intro RA hsz4)
  clear hmade RA hsz4 hA hAf
  have H0 : Hid _ := And.intro hST (And.intro hPW (And.intro hRW (And.intro hszW (And.intro hgW hg))))
  clear hST hP hR hg hszW hgW hPW hRW
  go_enter Try.func15, Try.ntmps15
  go_wp2_with (at_builtin; refine wpList_append8 rfl _ _ 34 rfl (w.heap.size + 1 + 1 + 1) i5 Try.underlying34 HI5.out.1 HI5.out.2.1 HI5.out.2.2.1 HI5.out.2.2.2 _ 0 [] rfl HM.out.1 _ A.len _ _ rfl HM.out.2.1 hnil (by omega) HM.out.2.2 ?_)
  intro v1 W1 o1 g1
  rw [← hsz3] at o1
  rw [← hsz3] at g1
  obtain ⟨a', c1, rfl, hAP⟩ := ap_of o1 g1 HA.out.1.row.byt HA.out.1.row.le
  clear o1 g1 HM hsz3
  generalize (((w.alloc (.cells #[.int .i64 s, .int .i64 p, .int .i64 b, .slice aB lB cB, .slice aD lD cD, .slice aW lW cW, .int .i64 ops, .bool off, .int .i64 after, .slice aT lT cT] 40)).alloc (.cells #[.int .i64 A.d, .int .i64 A.at_, .int .i64 A.n, .slice A.a A.len A.cap] 45)).alloc (.cells #[.int .i64 0, .int .i64 0, .int .i64 0, .slice none 0 0, .slice none 0 0, .slice none 0 0, .int .i64 0, .bool false, .int .i64 0, .slice none 0 0] 40)) = W at *
  generalize hgg : w.heap.size = g at *
  have hS1 := H0.out.1.grown hAP.gr
  have hP1 := (H0.out.2.1.grown hAP.gr).less (G' := ownF F g W1.heap.size) (fun k x => x.elim .inl fun y => .inr y.1)
  have hxl := HA.out.1.row.len_eq
  have hWr : Calls Try.prog 23 #[.pointer (some ⟨fb, 0, none⟩), .agg #[.int .i64 A.n, .slice a' A.len c1]] W1 fun e w' => e = .returned (.int .i64 (m.arm A.n A.xs).2) ∧ Chg (foot fb bb db wb) W1 w' ∧ PRep w' fb bb db wb (m.arm A.n A.xs).1 (ownF F g W1.heap.size) := by
    have R1 := hAP.row
    rw [← hxl] at R1 ⊢
    exact prep_arm hP1 H0.out.2.2.2.2.2 (fun x hx => hx.elim (fun y => by have := HFF.out.2 _ y; have := hS1.b0.lt; omega) fun y => y.2) A.n a' c1 A.xs R1 (fun b o e _ x => by have := hAP.blk b o e; have := hS1.ft _ x; have := H0.out.2.2.2.1; omega)
  have d2 : W1.cell? ⟨g + 1, 2, none⟩ = some (.int .i64 A.n) := hS1.b1.c 2
  have H1 : Hid _ := And.intro hAP hS1
  have HX : Hid _ := hxl
  clear hS1 hP1 hAP hxl
  go_wp2_with fail
  with_reducible refine hWr.mono ?_
  rintro e W2 ⟨rfl, hc2, hP2⟩
  clear d2 hWr
  have hbase : ∀ (WR : World) (X : Nat → Prop), (∀ k, X k → W.heap.size ≤ k ∧ k < W1.heap.size) → Chg X W2 WR → ST w WR g fb bb db wb [.int .i64 s, .int .i64 p, .int .i64 b, .slice aB lB cB, .slice aD lD cD, .slice aW lW cW, .int .i64 ops, .bool off, .int .i64 after, .slice aT lT cT] [.int .i64 A.d, .int .i64 A.at_, .int .i64 A.n, .slice A.a A.len A.cap] [.int .i64 0, .int .i64 0, .int .i64 0, .slice none 0 0, .slice none 0 0, .slice none 0 0, .int .i64 0, .bool false, .int .i64 0, .slice none 0 0] ∧ PRep WR fb bb db wb (m.arm A.n A.xs).1 (ownF F g W1.heap.size) ∧ Rep WR (.agg #[.int .i64 s, .int .i64 p, .int .i64 b, .slice aB lB cB, .slice aD lD cD, .slice aW lW cW, .int .i64 ops, .bool off, .int .i64 after, .slice aT lT cT]) m (ownF F g W1.heap.size) ∧ Row WR A.a A.len A.xs ∧ (∀ x, ownF F g W1.heap.size x → x < WR.heap.size) ∧ g + 2 < W1.heap.size := by
    intro WR X hF hc
    have hsz := H0.out.2.2.2.1
    have hs1 := H1.out.1.gr.size
    have hs2 := hc2.size
    have hs3 := hc.size
    have hS2 := H1.out.2.step hc2
    have hSr := hS2.otherF hc (fun k x => by have := hF k x; omega)
    refine ⟨hSr, ?_, ?_, ?_, ?_, by omega⟩
    · exact hP2.but hc (fun k x => .inr (by have := hF k x; omega)) (fun k x y => by have := hF k y; have := hS2.ft _ x; omega)
    · exact (((H0.out.2.2.1 W1.heap.size).grown H1.out.1.gr).but (fun k hk hn => hc2.block k hk fun x => hn (.inl (HFF.out.1 _ x)))).but (fun k hk hn => hc.block k hk fun x => hn (.inr (by have := hF k x; omega)))
    · exact hSr.ch.row' HA.out.1.row HA.out.2
    · intro x hx
      rcases hx with y | y
      · have := HFF.out.2 _ y; have := hS2.b0.lt; omega
      · omega
  have hown : A.len = 0 ∨ ∃ gb, a' = some ⟨gb, 0, none⟩ ∧ (W.heap.size ≤ gb ∧ gb < W1.heap.size) ∧ Own0 5 W2 gb A.len c1 (bv A.xs) := by
    rcases H1.out.1.own with h | ⟨gb, e, h1, h2⟩
    · exact .inl h
    · exact .inr ⟨gb, e, ⟨h1, h2.lt⟩, h2.chg hc2 (fun x => by have := H1.out.2.ft _ x; have := H0.out.2.2.2.1; omega)⟩
  have HB : Hid _ := hbase
  have HO : Hid _ := hown
  clear hbase hown hc2 hP2 H1 H0
  have hlm : (A.len : Int) ≤ 140737488355328 := by omega
  go_wp2_with fail
  rcases HO.out with h0 | ⟨gb, rfl, hgb, hO⟩
  · have hl0 : ¬ ((0 : Int) < (A.len : Int)) := by omega
    clear h0
    go_loopw [25] (fun vi wr => vi = .int .i64 0 ∧ Hid (wr = W2)) (fun _ _ => 0)
    case atStart => exact ⟨rfl, rfl⟩
    case round =>
      obtain ⟨rfl, hw⟩ := hrel
      obtain rfl := hw.out
      clear hw HO
      obtain ⟨hSr, hPr, hRr, RAr, hFr, hHr⟩ := HB.out wr (fun _ => False) (fun _ x => x.elim) (Chg.refl _ _)
      have hRW : Calls Try.prog 34 #[.agg #[.int .i64 s, .int .i64 p, .int .i64 b, .slice aB lB cB, .slice aD lD cD, .slice aW lW cW, .int .i64 ops, .bool off, .int .i64 after, .slice aT lT cT], .agg #[.int .i64 A.n, .slice A.a A.len A.cap]] wr fun e w' => ∃ v', e = .returned (.tuple #[v', .int .i64 (m.arm A.n A.xs).2]) ∧ wr.grownBy w' none ∧ Rep w' v' (m.arm A.n A.xs).1 (ownF F g W1.heap.size) := by
        have hxl := HX.out
        rw [← hxl] at RAr ⊢
        exact rep_arm hRr hFr A.n A.a A.cap A.xs RAr HA.out.1.nil (by omega)
      have d2 : wr.cell? ⟨g + 1, 2, none⟩ = some (.int .i64 A.n) := hSr.b1.c 2
      have d3 : wr.cell? ⟨g + 1, 3, none⟩ = some (.slice A.a A.len A.cap) := hSr.b1.c 3
      obtain ⟨c0, c1x, c2, c3, c4, c5, c6, c7, c8, c9⟩ := hSr.b0.c10
      have HR2 : Hid _ := And.intro hSr (And.intro hPr hHr)
      clear hSr hPr hRr RAr hFr hHr HB
      go_wp2_with fail
      with_reducible refine hRW.mono ?_
      rintro e W5 ⟨v', rfl, hg5, hR5⟩
      obtain ⟨s', p', b', ops', after', off', aB', aD', aW', aT', lB', cB', lD', cD', lW', cW', lT', cT', rfl⟩ := hR5.shape
      generalize (m.arm A.n A.xs).2 = E at *
      have H3 : Hid _ := And.intro (HR2.out.1.grown hg5) (And.intro (HR2.out.2.1.grown hg5) (And.intro hR5 HR2.out.2.2))
      clear hg5 hR5 d2 d3 hRW HR2 c0 c1x c2 c3 c4 c5 c6 c7 c8 c9
      go_wp2_with fail
      have hbs := Box.new W5 40 [.int .i64 s', .int .i64 p', .int .i64 b', .slice aB' lB' cB', .slice aD' lD' cD', .slice aW' lW' cW', .int .i64 ops', .bool off', .int .i64 after', .slice aT' lT' cT']
      have hga := World.grownBy_alloc W5 (.cells #[.int .i64 s', .int .i64 p', .int .i64 b', .slice aB' lB' cB', .slice aD' lD' cD', .slice aW' lW' cW', .int .i64 ops', .bool off', .int .i64 after', .slice aT' lT' cT'] 40) none
      have hlt : g + 1 + 1 < W5.heap.size := H3.out.1.b2.lt
      have H4 : Hid _ := And.intro (H3.out.1.grown hga) (And.intro (H3.out.2.1.grown hga) (And.intro (H3.out.2.2.1.grown hga) H3.out.2.2.2))
      generalize (W5.alloc (.cells #[.int .i64 s', .int .i64 p', .int .i64 b', .slice aB' lB' cB', .slice aD' lD' cD', .slice aW' lW' cW', .int .i64 ops', .bool off', .int .i64 after', .slice aT' lT' cT'] 40)) = W4 at *
      generalize W5.heap.size = gs at *
      obtain ⟨z0, z1, z2, z3, z4, z5, z6, z7, z8, z9⟩ := H4.out.1.b2.c10
      obtain ⟨y0, y1, y2, y3, y4, y5, y6, y7, y8, y9⟩ := H4.out.1.b2.f10
      obtain ⟨c0, c1x, c2, c3, c4, c5, c6, c7, c8, c9⟩ := hbs.c10
      have hne : ¬ (g + 1 + 1 = gs) := by omega
      have hne' : ¬ (gs = g + 1 + 1) := by omega
      clear hbs hga H3
      go_region_held3 (fun w' => w'.cell? ⟨gs, 0, none⟩ = some (Value.int .i64 s') ∧ w'.cell? ⟨gs, 1, none⟩ = some (Value.int .i64 p') ∧ w'.cell? ⟨gs, 2, none⟩ = some (Value.int .i64 b') ∧ w'.cell? ⟨gs, 3, none⟩ = some (Value.slice aB' lB' cB') ∧ w'.cell? ⟨gs, 4, none⟩ = some (Value.slice aD' lD' cD') ∧ w'.cell? ⟨gs, 5, none⟩ = some (Value.slice aW' lW' cW') ∧ w'.cell? ⟨gs, 6, none⟩ = some (Value.int .i64 ops') ∧ w'.cell? ⟨gs, 7, none⟩ = some (Value.bool off') ∧ w'.cell? ⟨gs, 8, none⟩ = some (Value.int .i64 after') ∧ w'.cell? ⟨gs, 9, none⟩ = some (Value.slice aT' lT' cT')) (go_keep) (first | (go_at_call 11; refine (hnE _).mono ?_; rintro e w' ⟨rfl, rfl⟩))
      clear z0 z1 z2 z3 z4 z5 z6 z7 z8 z9 y0 y1 y2 y3 y4 y5 y6 y7 y8 y9 c0 c1x c2 c3 c4 c5 c6 c7 c8 c9
      have HE : Hid _ := H4.out
      clear H4
      go_wp2_with fail
      obtain ⟨hSTe, hPe, hRe, hHe⟩ := HE.out
      obtain ⟨hbe, hce, hpe, hre⟩ := st_end hSTe hPe hRe hHe (.int .i64 s') (.int .i64 p') (.int .i64 b') (.slice aB' lB' cB') (.slice aD' lD' cD') (.slice aW' lW' cW') (.int .i64 ops') (.bool off') (.int .i64 after') (.slice aT' lT' cT') (rfl : ((((((((((W4.setCell ⟨g + 1 + 1, 0, none⟩ (.int .i64 s')).setCell ⟨g + 1 + 1, 1, none⟩ (.int .i64 p')).setCell ⟨g + 1 + 1, 2, none⟩ (.int .i64 b')).setCell ⟨g + 1 + 1, 3, none⟩ (.slice aB' lB' cB')).setCell ⟨g + 1 + 1, 4, none⟩ (.slice aD' lD' cD')).setCell ⟨g + 1 + 1, 5, none⟩ (.slice aW' lW' cW')).setCell ⟨g + 1 + 1, 6, none⟩ (.int .i64 ops')).setCell ⟨g + 1 + 1, 7, none⟩ (.bool off')).setCell ⟨g + 1 + 1, 8, none⟩ (.int .i64 after')).setCell ⟨g + 1 + 1, 9, none⟩ (.slice aT' lT' cT')) = _)
      have hdr : ((((((((((W4.setCell ⟨g + 1 + 1, 0, none⟩ (.int .i64 s')).setCell ⟨g + 1 + 1, 1, none⟩ (.int .i64 p')).setCell ⟨g + 1 + 1, 2, none⟩ (.int .i64 b')).setCell ⟨g + 1 + 1, 3, none⟩ (.slice aB' lB' cB')).setCell ⟨g + 1 + 1, 4, none⟩ (.slice aD' lD' cD')).setCell ⟨g + 1 + 1, 5, none⟩ (.slice aW' lW' cW')).setCell ⟨g + 1 + 1, 6, none⟩ (.int .i64 ops')).setCell ⟨g + 1 + 1, 7, none⟩ (.bool off')).setCell ⟨g + 1 + 1, 8, none⟩ (.int .i64 after')).setCell ⟨g + 1 + 1, 9, none⟩ (.slice aT' lT' cT')).grownBy ((((((((((W4.setCell ⟨g + 1 + 1, 0, none⟩ (.int .i64 s')).setCell ⟨g + 1 + 1, 1, none⟩ (.int .i64 p')).setCell ⟨g + 1 + 1, 2, none⟩ (.int .i64 b')).setCell ⟨g + 1 + 1, 3, none⟩ (.slice aB' lB' cB')).setCell ⟨g + 1 + 1, 4, none⟩ (.slice aD' lD' cD')).setCell ⟨g + 1 + 1, 5, none⟩ (.slice aW' lW' cW')).setCell ⟨g + 1 + 1, 6, none⟩ (.int .i64 ops')).setCell ⟨g + 1 + 1, 7, none⟩ (.bool off')).setCell ⟨g + 1 + 1, 8, none⟩ (.int .i64 after')).setCell ⟨g + 1 + 1, 9, none⟩ (.slice aT' lT' cT')).drew none := grown_drewN (World.grownBy.refl _ _) 1
      have hbe := hbe.grown hdr
      have hce := hce.trans (Chg.of_none hdr _)
      have hpe := hpe.grown hdr
      have hre := hre.grown hdr
      generalize ((((((((((W4.setCell ⟨g + 1 + 1, 0, none⟩ (.int .i64 s')).setCell ⟨g + 1 + 1, 1, none⟩ (.int .i64 p')).setCell ⟨g + 1 + 1, 2, none⟩ (.int .i64 b')).setCell ⟨g + 1 + 1, 3, none⟩ (.slice aB' lB' cB')).setCell ⟨g + 1 + 1, 4, none⟩ (.slice aD' lD' cD')).setCell ⟨g + 1 + 1, 5, none⟩ (.slice aW' lW' cW')).setCell ⟨g + 1 + 1, 6, none⟩ (.int .i64 ops')).setCell ⟨g + 1 + 1, 7, none⟩ (.bool off')).setCell ⟨g + 1 + 1, 8, none⟩ (.int .i64 after')).setCell ⟨g + 1 + 1, 9, none⟩ (.slice aT' lT' cT')).drew = WE at hbe hce hpe hre ⊢
      clear HE hSTe hPe hRe hHe hdr
      obtain ⟨z0, z1, z2, z3, z4, z5, z6, z7, z8, z9⟩ := hbe.c10
      refine bodyPost_ret (v := .tuple #[.agg #[.int .i64 s', .int .i64 p', .int .i64 b', .slice aB' lB' cB', .slice aD' lD' cD', .slice aW' lW' cW', .int .i64 ops', .bool off', .int .i64 after', .slice aT' lT' cT'], .bool true]) (by simp [results, Try.results15, go_sem, z0, z1, z2, z3, z4, z5, z6, z7, z8, z9]) rfl ?_
      exact ⟨_, rfl, hce, hpe, hre⟩
  · have HOO : Hid _ := hO
    clear hO HO
    go_loopw [25] (fun vi wr => ∃ (j : Nat) (ys : List Int), vi = .int .i64 j ∧ j ≤ A.len ∧ Hid (Own0 5 wr gb A.len c1 (bv ys) ∧ Chg (fun k => k = gb) W2 wr)) (fun vi _ => A.len - (intOf vi).toNat)
    case atStart => exact ⟨0, A.xs, rfl, Nat.zero_le _, HOO.out, Chg.refl _ _⟩
    case round =>
      clear HOO
      obtain ⟨j, zs, rfl, j1, HI⟩ := hrel
      by_cases hj : j < A.len
      · have cj := HI.out.1.cl hj
        have fj := HI.out.1.fr j
        have HS : Hid (∀ u, Own0 5 (wr.setCell ⟨gb, j, none⟩ (.int .u8 u)) gb A.len c1 (bv (zs.set j u)) ∧ Chg (fun k => k = gb) W2 (wr.setCell ⟨gb, j, none⟩ (.int .u8 u))) := fun u => ⟨by
          have := HI.out.1.set j (.int .u8 u)
          unfold bv at this ⊢
          rwa [← List.map_set] at this, HI.out.2.trans (Chg.set rfl)⟩
        have hj' : (j : Int) < (A.len : Int) := by omega
        generalize zs.getD j 0 = u at cj
        clear HI
        go_wp2_with fail
        go_roundw
        case rel => exact ⟨j + 1, _, by go_num, by omega, HS.out _⟩
        case measure => simp [intOf]; omega
      · have hj' : ¬ ((j : Int) < (A.len : Int)) := by omega
        have hj'' : decide ((j : Int) < (A.len : Int)) = false := decide_eq_false hj'
        obtain ⟨hSr, hPr, hRr, RAr, hFr, hHr⟩ := HB.out wr (fun k => k = gb) (fun k e => by rw [e]; exact hgb) HI.out.2
        have hRW : Calls Try.prog 34 #[.agg #[.int .i64 s, .int .i64 p, .int .i64 b, .slice aB lB cB, .slice aD lD cD, .slice aW lW cW, .int .i64 ops, .bool off, .int .i64 after, .slice aT lT cT], .agg #[.int .i64 A.n, .slice A.a A.len A.cap]] wr fun e w' => ∃ v', e = .returned (.tuple #[v', .int .i64 (m.arm A.n A.xs).2]) ∧ wr.grownBy w' none ∧ Rep w' v' (m.arm A.n A.xs).1 (ownF F g W1.heap.size) := by
          have hxl := HX.out
          rw [← hxl] at RAr ⊢
          exact rep_arm hRr hFr A.n A.a A.cap A.xs RAr HA.out.1.nil (by omega)
        have d2 : wr.cell? ⟨g + 1, 2, none⟩ = some (.int .i64 A.n) := hSr.b1.c 2
        have d3 : wr.cell? ⟨g + 1, 3, none⟩ = some (.slice A.a A.len A.cap) := hSr.b1.c 3
        obtain ⟨c0, c1x, c2, c3, c4, c5, c6, c7, c8, c9⟩ := hSr.b0.c10
        have HR2 : Hid _ := And.intro hSr (And.intro hPr hHr)
        clear hSr hPr hRr RAr hFr hHr HB
        go_wp2_with fail
        with_reducible refine hRW.mono ?_
        rintro e W5 ⟨v', rfl, hg5, hR5⟩
        obtain ⟨s', p', b', ops', after', off', aB', aD', aW', aT', lB', cB', lD', cD', lW', cW', lT', cT', rfl⟩ := hR5.shape
        generalize (m.arm A.n A.xs).2 = E at *
        have H3 : Hid _ := And.intro (HR2.out.1.grown hg5) (And.intro (HR2.out.2.1.grown hg5) (And.intro hR5 HR2.out.2.2))
        clear hg5 hR5 d2 d3 hRW HR2 c0 c1x c2 c3 c4 c5 c6 c7 c8 c9
        go_wp2_with fail
        have hbs := Box.new W5 40 [.int .i64 s', .int .i64 p', .int .i64 b', .slice aB' lB' cB', .slice aD' lD' cD', .slice aW' lW' cW', .int .i64 ops', .bool off', .int .i64 after', .slice aT' lT' cT']
        have hga := World.grownBy_alloc W5 (.cells #[.int .i64 s', .int .i64 p', .int .i64 b', .slice aB' lB' cB', .slice aD' lD' cD', .slice aW' lW' cW', .int .i64 ops', .bool off', .int .i64 after', .slice aT' lT' cT'] 40) none
        have hlt : g + 1 + 1 < W5.heap.size := H3.out.1.b2.lt
        have H4 : Hid _ := And.intro (H3.out.1.grown hga) (And.intro (H3.out.2.1.grown hga) (And.intro (H3.out.2.2.1.grown hga) H3.out.2.2.2))
        generalize (W5.alloc (.cells #[.int .i64 s', .int .i64 p', .int .i64 b', .slice aB' lB' cB', .slice aD' lD' cD', .slice aW' lW' cW', .int .i64 ops', .bool off', .int .i64 after', .slice aT' lT' cT'] 40)) = W4 at *
        generalize W5.heap.size = gs at *
        obtain ⟨z0, z1, z2, z3, z4, z5, z6, z7, z8, z9⟩ := H4.out.1.b2.c10
        obtain ⟨y0, y1, y2, y3, y4, y5, y6, y7, y8, y9⟩ := H4.out.1.b2.f10
        obtain ⟨c0, c1x, c2, c3, c4, c5, c6, c7, c8, c9⟩ := hbs.c10
        have hne : ¬ (g + 1 + 1 = gs) := by omega
        have hne' : ¬ (gs = g + 1 + 1) := by omega
        clear hbs hga H3
        go_region_held3 (fun w' => w'.cell? ⟨gs, 0, none⟩ = some (Value.int .i64 s') ∧ w'.cell? ⟨gs, 1, none⟩ = some (Value.int .i64 p') ∧ w'.cell? ⟨gs, 2, none⟩ = some (Value.int .i64 b') ∧ w'.cell? ⟨gs, 3, none⟩ = some (Value.slice aB' lB' cB') ∧ w'.cell? ⟨gs, 4, none⟩ = some (Value.slice aD' lD' cD') ∧ w'.cell? ⟨gs, 5, none⟩ = some (Value.slice aW' lW' cW') ∧ w'.cell? ⟨gs, 6, none⟩ = some (Value.int .i64 ops') ∧ w'.cell? ⟨gs, 7, none⟩ = some (Value.bool off') ∧ w'.cell? ⟨gs, 8, none⟩ = some (Value.int .i64 after') ∧ w'.cell? ⟨gs, 9, none⟩ = some (Value.slice aT' lT' cT')) (go_keep) (first | (go_at_call 11; refine (hnE _).mono ?_; rintro e w' ⟨rfl, rfl⟩))
        clear z0 z1 z2 z3 z4 z5 z6 z7 z8 z9 y0 y1 y2 y3 y4 y5 y6 y7 y8 y9 c0 c1x c2 c3 c4 c5 c6 c7 c8 c9
        have HE : Hid _ := H4.out
        clear H4
        go_wp2_with fail
        obtain ⟨hSTe, hPe, hRe, hHe⟩ := HE.out
        obtain ⟨hbe, hce, hpe, hre⟩ := st_end hSTe hPe hRe hHe (.int .i64 s') (.int .i64 p') (.int .i64 b') (.slice aB' lB' cB') (.slice aD' lD' cD') (.slice aW' lW' cW') (.int .i64 ops') (.bool off') (.int .i64 after') (.slice aT' lT' cT') (rfl : ((((((((((W4.setCell ⟨g + 1 + 1, 0, none⟩ (.int .i64 s')).setCell ⟨g + 1 + 1, 1, none⟩ (.int .i64 p')).setCell ⟨g + 1 + 1, 2, none⟩ (.int .i64 b')).setCell ⟨g + 1 + 1, 3, none⟩ (.slice aB' lB' cB')).setCell ⟨g + 1 + 1, 4, none⟩ (.slice aD' lD' cD')).setCell ⟨g + 1 + 1, 5, none⟩ (.slice aW' lW' cW')).setCell ⟨g + 1 + 1, 6, none⟩ (.int .i64 ops')).setCell ⟨g + 1 + 1, 7, none⟩ (.bool off')).setCell ⟨g + 1 + 1, 8, none⟩ (.int .i64 after')).setCell ⟨g + 1 + 1, 9, none⟩ (.slice aT' lT' cT')) = _)
        have hdr : ((((((((((W4.setCell ⟨g + 1 + 1, 0, none⟩ (.int .i64 s')).setCell ⟨g + 1 + 1, 1, none⟩ (.int .i64 p')).setCell ⟨g + 1 + 1, 2, none⟩ (.int .i64 b')).setCell ⟨g + 1 + 1, 3, none⟩ (.slice aB' lB' cB')).setCell ⟨g + 1 + 1, 4, none⟩ (.slice aD' lD' cD')).setCell ⟨g + 1 + 1, 5, none⟩ (.slice aW' lW' cW')).setCell ⟨g + 1 + 1, 6, none⟩ (.int .i64 ops')).setCell ⟨g + 1 + 1, 7, none⟩ (.bool off')).setCell ⟨g + 1 + 1, 8, none⟩ (.int .i64 after')).setCell ⟨g + 1 + 1, 9, none⟩ (.slice aT' lT' cT')).grownBy ((((((((((W4.setCell ⟨g + 1 + 1, 0, none⟩ (.int .i64 s')).setCell ⟨g + 1 + 1, 1, none⟩ (.int .i64 p')).setCell ⟨g + 1 + 1, 2, none⟩ (.int .i64 b')).setCell ⟨g + 1 + 1, 3, none⟩ (.slice aB' lB' cB')).setCell ⟨g + 1 + 1, 4, none⟩ (.slice aD' lD' cD')).setCell ⟨g + 1 + 1, 5, none⟩ (.slice aW' lW' cW')).setCell ⟨g + 1 + 1, 6, none⟩ (.int .i64 ops')).setCell ⟨g + 1 + 1, 7, none⟩ (.bool off')).setCell ⟨g + 1 + 1, 8, none⟩ (.int .i64 after')).setCell ⟨g + 1 + 1, 9, none⟩ (.slice aT' lT' cT')).drew none := grown_drewN (World.grownBy.refl _ _) 1
        have hbe := hbe.grown hdr
        have hce := hce.trans (Chg.of_none hdr _)
        have hpe := hpe.grown hdr
        have hre := hre.grown hdr
        generalize ((((((((((W4.setCell ⟨g + 1 + 1, 0, none⟩ (.int .i64 s')).setCell ⟨g + 1 + 1, 1, none⟩ (.int .i64 p')).setCell ⟨g + 1 + 1, 2, none⟩ (.int .i64 b')).setCell ⟨g + 1 + 1, 3, none⟩ (.slice aB' lB' cB')).setCell ⟨g + 1 + 1, 4, none⟩ (.slice aD' lD' cD')).setCell ⟨g + 1 + 1, 5, none⟩ (.slice aW' lW' cW')).setCell ⟨g + 1 + 1, 6, none⟩ (.int .i64 ops')).setCell ⟨g + 1 + 1, 7, none⟩ (.bool off')).setCell ⟨g + 1 + 1, 8, none⟩ (.int .i64 after')).setCell ⟨g + 1 + 1, 9, none⟩ (.slice aT' lT' cT')).drew = WE at hbe hce hpe hre ⊢
        clear HE hSTe hPe hRe hHe hdr
        obtain ⟨z0, z1, z2, z3, z4, z5, z6, z7, z8, z9⟩ := hbe.c10
        refine bodyPost_ret (v := .tuple #[.agg #[.int .i64 s', .int .i64 p', .int .i64 b', .slice aB' lB' cB', .slice aD' lD' cD', .slice aW' lW' cW', .int .i64 ops', .bool off', .int .i64 after', .slice aT' lT' cT'], .bool true]) (by simp [results, Try.results15, go_sem, z0, z1, z2, z3, z4, z5, z6, z7, z8, z9]) rfl ?_
        exact ⟨_, rfl, hce, hpe, hre⟩
end Go.Proofs.Ytdefcfmnhfeblaa
