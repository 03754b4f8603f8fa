/- step: Write. -/
import Derived.Test.YtdefcfmnhfeblaaLN
namespace Go.Proofs.Ytdefcfmnhfeblaa
open Go.RowKit
set_option linter.unusedSimpArgs false
set_option linter.unusedVariables false
attribute [local go_sem ↓] Go.wp_at_zero Go.wp_at_succ

/-- a copy that append made -/
structure AP (W W1 : World) (a : Option Addr) (n c : Nat) (xs : List Int) : Prop where
  gr : W.grownBy W1 none
  row : Row W1 a n xs
  own : n = 0 ∨ ∃ gb, a = some ⟨gb, 0, none⟩ ∧ W.heap.size ≤ gb ∧ Own0 5 W1 gb n c (bv xs)
  blk : ∀ b o, a = some ⟨b, o, none⟩ → W.heap.size ≤ b
theorem ap_of {W W1 : World} {v1 : Value} {n : Nat} {xs : List Int} (o1 : W1.ownsRow W.heap.size 5 1 v1 n (bv xs)) (g1 : (W.alloc (.cells #[] 5)).grownBy W1 (Value.slice (some ⟨W.heap.size, 0, none⟩) 0 0).ownBlock) (hb : Byt xs) (hl : n ≤ maxLen) : ∃ a' c', v1 = .slice a' n c' ∧ AP W W1 a' n c' xs := by
  have hm := made8 W
  have hbl : Below W.heap.size W W1 := (grown_below (World.grownBy_alloc W (.cells #[] 5) none)).trans (below_own g1 hm (by simp))
  have hgr := below_grown hbl
  obtain ⟨a', c', e, R⟩ := owns_row o1 hb hl
  obtain ⟨a2, c2, e2, _, _, hcase⟩ := owns_form o1
  rw [e] at e2
  injection e2 with e3 e4 e5
  subst e3
  refine ⟨a', c', e, hgr, R, ?_, ?_⟩
  · rcases Nat.eq_zero_or_pos n with h0 | h0
    · exact .inl h0
    · obtain ⟨gb, cap, e6, O⟩ := own_of o1 hgr h0
      rw [e] at e6
      injection e6 with e7 e8 e9
      subst e9
      exact .inr ⟨gb, e7, O.new, O.own0⟩
  · intro b o e6
    rcases hcase with ⟨h1, _⟩ | ⟨g', h1, h2⟩
    · rw [h1] at e6; cases e6
    · rw [h1] at e6
      injection e6 with e6
      injection e6 with e7 e8
      omega
theorem Own0.chg {e : TypeId} {W W' : World} {g n cap : Nat} {xs : List Value} {F : Nat → Prop} (h : Own0 e W g n cap xs) (hc : Chg F W W') (hF : ¬ F g) : Own0 e W' g n cap xs := by
  obtain ⟨cur, h1, h2, h3⟩ := h.cur
  have hlt := (Array.getElem?_eq_some_iff.1 h1).1
  exact ⟨⟨cur, by rw [hc.block g hlt hF]; exact h1, h2, h3⟩, h.len, h.nc, h.cm⟩
theorem Own0.cl {e : TypeId} {W : World} {g n cap : Nat} {xs : List Int} (h : Own0 e W g n cap (bv xs)) {i : Nat} (hi : i < n) : W.cell? ⟨g, i, none⟩ = some (.int .u8 (xs.getD i 0)) := by
  obtain ⟨cur, h1, h2, h3⟩ := h.cur
  have hl := h.len
  rw [bv_length] at hl
  have h4 : (cur.take n)[i]? = (bv xs)[i]? := by rw [h3]
  rw [List.getElem?_take, if_pos hi, bv_getElem? _ _ (by omega)] at h4
  simp only [World.cell?, h1]
  simpa using h4
theorem Own0.fr {e : TypeId} {W : World} {g n cap : Nat} {xs : List Value} (h : Own0 e W g n cap xs) (i : Nat) : W.frozen? ⟨g, i, none⟩ = false := by
  obtain ⟨cur, h1, _⟩ := h.cur
  simp [World.frozen?, h1]
theorem write_in (m : Fm) (page : Int) (ys : List Int) : -9223372036854775808 ≤ (m.write page ys).2 ∧ (m.write page ys).2 ≤ 9223372036854775807 := by
  unfold Fm.write
  split
  · simp only [Fm.torn]; split <;> decide
  · rcases wrE_cases m page ys with ⟨_, h⟩ | ⟨_, _, h⟩ | ⟨_, _, _, _, ⟨_, h⟩ | ⟨_, ⟨_, h⟩ | ⟨_, h⟩⟩⟩ <;> simp [h]
set_option maxRecDepth 100000 in
set_option maxHeartbeats 8000000 in
theorem step_write {w : World} {fb bb db wb : Nat} {m : Fm} {v : Value} {k : Nat} {A : Ac} {F : Nat → Prop} (hP : PRep w fb bb db wb m F) (hFf : ∀ k, foot fb bb db wb k → F k) (hFs : ∀ k, F k → k < w.heap.size) (hR : Rep w v m F) (hg : m.Good k) (hk : k < 1000000) (h2 : A.d = 1) (hA : A.ok w) (hAm : A.len ≤ 140737488355328) (hAf : ∀ b o, A.a = some ⟨b, o, none⟩ → 0 < A.len → ¬ foot fb bb db wb b) :
    Calls Try.prog 15 #[.pointer (some ⟨fb, 0, none⟩), v, A.val] w fun e w' => StPost w fb bb db wb F (m.write A.at_ A.xs).1 e w' := by
  have HFF : Hid _ := And.intro hFf hFs
  clear hFf hFs
  have hnE : ∀ W, _ := fun W => num_any (m.write A.at_ A.xs).2 W (write_in _ _ _)
  obtain ⟨i5, hi5, hz0, hz1, hz2⟩ := info_parts Try.info5
  have HI5 : Hid _ := And.intro hi5 (And.intro hz0 (And.intro hz1 hz2))
  have HA : Hid _ := And.intro hA hAf
  have hnil := hA.nil
  clear hi5 hz0 hz1 hz2
  obtain ⟨s, p, b, ops, after, off, aB, aD, aW, aT, lB, cB, lD, cD, lW, cW, lT, cT, rfl⟩ := hR.shape
  have hST : ST w (((w.alloc (.cells #[.int .i64 s, .int .i64 p, .int .i64 b, .slice aB lB cB, .slice aD lD cD, .slice aW lW cW, .int .i64 ops, .bool off, .int .i64 after, .slice aT lT cT] 40)).alloc (.cells #[.int .i64 A.d, .int .i64 A.at_, .int .i64 A.n, .slice A.a A.len A.cap] 45)).alloc (.cells #[.int .i64 0, .int .i64 0, .int .i64 0, .slice none 0 0, .slice none 0 0, .slice none 0 0, .int .i64 0, .bool false, .int .i64 0, .slice none 0 0] 40)) w.heap.size fb bb db wb [.int .i64 s, .int .i64 p, .int .i64 b, .slice aB lB cB, .slice aD lD cD, .slice aW lW cW, .int .i64 ops, .bool off, .int .i64 after, .slice aT lT cT] [.int .i64 A.d, .int .i64 A.at_, .int .i64 A.n, .slice A.a A.len A.cap] [.int .i64 0, .int .i64 0, .int .i64 0, .slice none 0 0, .slice none 0 0, .slice none 0 0, .int .i64 0, .bool false, .int .i64 0, .slice none 0 0] := st_made _ _ _ hP.lt
  have hgW : w.grownBy (((w.alloc (.cells #[.int .i64 s, .int .i64 p, .int .i64 b, .slice aB lB cB, .slice aD lD cD, .slice aW lW cW, .int .i64 ops, .bool off, .int .i64 after, .slice aT lT cT] 40)).alloc (.cells #[.int .i64 A.d, .int .i64 A.at_, .int .i64 A.n, .slice A.a A.len A.cap] 45)).alloc (.cells #[.int .i64 0, .int .i64 0, .int .i64 0, .slice none 0 0, .slice none 0 0, .slice none 0 0, .int .i64 0, .bool false, .int .i64 0, .slice none 0 0] 40)) none := grown_trans (grown2 _ _ _) (World.grownBy_alloc _ _ _)
  have hPW := (hP.fresh2 (G' := fun k => F k ∨ w.heap.size ≤ k) (fun _ x => x)).grown hgW
  have hRW : ∀ H, _ := fun H => (hR.fresh (F' := ownF F w.heap.size H) hg (fun x hx => hx.elim .inl fun y => .inr y.1)).grown hgW
  have hszW : w.heap.size + 2 < (((w.alloc (.cells #[.int .i64 s, .int .i64 p, .int .i64 b, .slice aB lB cB, .slice aD lD cD, .slice aW lW cW, .int .i64 ops, .bool off, .int .i64 after, .slice aT lT cT] 40)).alloc (.cells #[.int .i64 A.d, .int .i64 A.at_, .int .i64 A.n, .slice A.a A.len A.cap] 45)).alloc (.cells #[.int .i64 0, .int .i64 0, .int .i64 0, .slice none 0 0, .slice none 0 0, .slice none 0 0, .int .i64 0, .bool false, .int .i64 0, .slice none 0 0] 40)).heap.size := by simp
  unfold Ac.val
  have e0 : (A.d == 0) = false := by rw [h2]; rfl
  have e1 : (A.d == 1) = true := by rw [h2]; rfl
  clear h2
  have hsz3 : (((w.alloc (.cells #[.int .i64 s, .int .i64 p, .int .i64 b, .slice aB lB cB, .slice aD lD cD, .slice aW lW cW, .int .i64 ops, .bool off, .int .i64 after, .slice aT lT cT] 40)).alloc (.cells #[.int .i64 A.d, .int .i64 A.at_, .int .i64 A.n, .slice A.a A.len A.cap] 45)).alloc (.cells #[.int .i64 0, .int .i64 0, .int .i64 0, .slice none 0 0, .slice none 0 0, .slice none 0 0, .int .i64 0, .bool false, .int .i64 0, .slice none 0 0] 40)).heap.size = w.heap.size + 1 + 1 + 1 := by simp
  have hmade := made8 (((w.alloc (.cells #[.int .i64 s, .int .i64 p, .int .i64 b, .slice aB lB cB, .slice aD lD cD, .slice aW lW cW, .int .i64 ops, .bool off, .int .i64 after, .slice aT lT cT] 40)).alloc (.cells #[.int .i64 A.d, .int .i64 A.at_, .int .i64 A.n, .slice A.a A.len A.cap] 45)).alloc (.cells #[.int .i64 0, .int .i64 0, .int .i64 0, .slice none 0 0, .slice none 0 0, .slice none 0 0, .int .i64 0, .bool false, .int .i64 0, .slice none 0 0] 40))
  have RA := (hA.row.grown hgW).grown (World.grownBy_alloc (((w.alloc (.cells #[.int .i64 s, .int .i64 p, .int .i64 b, .slice aB lB cB, .slice aD lD cD, .slice aW lW cW, .int .i64 ops, .bool off, .int .i64 after, .slice aT lT cT] 40)).alloc (.cells #[.int .i64 A.d, .int .i64 A.at_, .int .i64 A.n, .slice A.a A.len A.cap] 45)).alloc (.cells #[.int .i64 0, .int .i64 0, .int .i64 0, .slice none 0 0, .slice none 0 0, .slice none 0 0, .int .i64 0, .bool false, .int .i64 0, .slice none 0 0] 40)) (.cells #[] 5) none)
  have hsz4 : w.heap.size + 1 + 1 + 1 ≤ ((((w.alloc (.cells #[.int .i64 s, .int .i64 p, .int .i64 b, .slice aB lB cB, .slice aD lD cD, .slice aW lW cW, .int .i64 ops, .bool off, .int .i64 after, .slice aT lT cT] 40)).alloc (.cells #[.int .i64 A.d, .int .i64 A.at_, .int .i64 A.n, .slice A.a A.len A.cap] 45)).alloc (.cells #[.int .i64 0, .int .i64 0, .int .i64 0, .slice none 0 0, .slice none 0 0, .slice none 0 0, .int .i64 0, .bool false, .int .i64 0, .slice none 0 0] 40)).alloc (.cells #[] 5)).heap.size := by simp
  rw [hsz3] at hmade
  have HM : Hid _ := And.intro hmade (And.intro RA hsz4)
  clear hmade RA hsz4 hA hAf
  have H0 : Hid _ := And.intro hST (And.intro hPW (And.intro hRW (And.intro hszW (And.intro hgW hg))))
  clear hST hP hR hg hszW hgW hPW hRW
  go_enter Try.func15, Try.ntmps15
  go_wp2_with (at_builtin; refine wpList_append8 rfl _ _ 34 rfl (w.heap.size + 1 + 1 + 1) i5 Try.underlying34 HI5.out.1 HI5.out.2.1 HI5.out.2.2.1 HI5.out.2.2.2 _ 0 [] rfl HM.out.1 _ A.len _ _ rfl HM.out.2.1 hnil (by omega) HM.out.2.2 ?_)
  intro v1 W1 o1 g1
  rw [← hsz3] at o1
  rw [← hsz3] at g1
  obtain ⟨a', c1, rfl, hAP⟩ := ap_of o1 g1 HA.out.1.row.byt HA.out.1.row.le
  clear o1 g1 HM hsz3
  generalize (((w.alloc (.cells #[.int .i64 s, .int .i64 p, .int .i64 b, .slice aB lB cB, .slice aD lD cD, .slice aW lW cW, .int .i64 ops, .bool off, .int .i64 after, .slice aT lT cT] 40)).alloc (.cells #[.int .i64 A.d, .int .i64 A.at_, .int .i64 A.n, .slice A.a A.len A.cap] 45)).alloc (.cells #[.int .i64 0, .int .i64 0, .int .i64 0, .slice none 0 0, .slice none 0 0, .slice none 0 0, .int .i64 0, .bool false, .int .i64 0, .slice none 0 0] 40)) = W at *
  generalize hgg : w.heap.size = g at *
  have hS1 := H0.out.1.grown hAP.gr
  have hP1 := H0.out.2.1.grown hAP.gr
  have hxl := HA.out.1.row.len_eq
  have hWr : Calls Try.prog 19 #[.pointer (some ⟨fb, 0, none⟩), .int .i64 A.at_, .slice a' A.len c1] W1 fun e w' => e = .returned (.int .i64 (m.write A.at_ A.xs).2) ∧ Chg (foot fb bb db wb) W1 w' ∧ PRep w' fb bb db wb (m.write A.at_ A.xs).1 (fun k => F k ∨ g ≤ k) := by
    have R1 := hAP.row
    rw [← hxl] at R1 ⊢
    exact prep_write hP1 H0.out.2.2.2.2.2 hk A.at_ a' c1 A.xs R1 (fun b o e _ x => by have := hAP.blk b o e; have := hS1.ft _ x; have := H0.out.2.2.2.1; omega)
  have d1 : W1.cell? ⟨g + 1, 1, none⟩ = some (.int .i64 A.at_) := hS1.b1.c 1
  have H1 : Hid _ := And.intro hAP (And.intro hS1 hxl)
  clear hS1 hP1 hAP hxl
  go_wp2_with fail
  with_reducible refine hWr.mono ?_
  rintro e W2 ⟨rfl, hc2, hP2⟩
  have hS2 := H1.out.2.1.step hc2
  have hsz2 : W.heap.size ≤ W2.heap.size := Nat.le_trans H1.out.1.gr.size hc2.size
  have hR2 := ((H0.out.2.2.1 W2.heap.size).grown H1.out.1.gr).but (fun k hk hF => hc2.block k hk fun x => hF (.inl (HFF.out.1 _ x)))
  have hF2 : ∀ x, ownF F g W2.heap.size x → x < W2.heap.size := by
    intro x hx
    rcases hx with y | y
    · have := HFF.out.2 _ y; have := hS2.b0.lt; omega
    · omega
  have RA2 := hS2.ch.row' HA.out.1.row HA.out.2
  have hRW : Calls Try.prog 32 #[.agg #[.int .i64 s, .int .i64 p, .int .i64 b, .slice aB lB cB, .slice aD lD cD, .slice aW lW cW, .int .i64 ops, .bool off, .int .i64 after, .slice aT lT cT], .int .i64 A.at_, .slice A.a A.len A.cap] W2 fun e w' => ∃ v', e = .returned (.tuple #[v', .int .i64 (m.write A.at_ A.xs).2]) ∧ W2.grownBy w' none ∧ Rep w' v' (m.write A.at_ A.xs).1 (ownF F g W2.heap.size) := by
    have hxl := H1.out.2.2
    rw [← hxl] at RA2 ⊢
    exact rep_write hR2 H0.out.2.2.2.2.2 hk hF2 A.at_ HA.out.1.ba A.a A.cap A.xs RA2 HA.out.1.nil
  have d1' : W2.cell? ⟨g + 1, 1, none⟩ = some (.int .i64 A.at_) := hS2.b1.c 1
  have d3 : W2.cell? ⟨g + 1, 3, none⟩ = some (.slice A.a A.len A.cap) := hS2.b1.c 3
  have H2 : Hid _ := And.intro hS2 (And.intro hP2 (And.intro hc2 (And.intro RA2 hsz2)))
  obtain ⟨c0, c1, c2, c3, c4, c5, c6, c7, c8, c9⟩ := hS2.b0.c10
  clear hS2 hP2 hc2 RA2 hR2 hF2 hsz2 d1 hWr
  go_wp2_with fail
  with_reducible refine hRW.mono ?_
  rintro e W3 ⟨v', rfl, hg3, hR3⟩
  obtain ⟨s', p', b', ops', after', off', aB', aD', aW', aT', lB', cB', lD', cD', lW', cW', lT', cT', rfl⟩ := hR3.shape
  generalize (m.write A.at_ A.xs).2 = E at *
  clear c0 c1 c2 c3 c4 c5 c6 c7 c8 c9
  have H3 : Hid _ := And.intro hg3 hR3
  clear hg3 hR3 d1' d3 hRW
  have hbs := Box.new W3 40 [.int .i64 s', .int .i64 p', .int .i64 b', .slice aB' lB' cB', .slice aD' lD' cD', .slice aW' lW' cW', .int .i64 ops', .bool off', .int .i64 after', .slice aT' lT' cT']
  have hga := World.grownBy_alloc W3 (.cells #[.int .i64 s', .int .i64 p', .int .i64 b', .slice aB' lB' cB', .slice aD' lD' cD', .slice aW' lW' cW', .int .i64 ops', .bool off', .int .i64 after', .slice aT' lT' cT'] 40) none
  have g24 := grown_trans H3.out.1 hga
  have H4 : Hid _ := And.intro g24 (And.intro hbs hga)
  go_wp2_with fail
  generalize (W3.alloc (.cells #[.int .i64 s', .int .i64 p', .int .i64 b', .slice aB' lB' cB', .slice aD' lD' cD', .slice aW' lW' cW', .int .i64 ops', .bool off', .int .i64 after', .slice aT' lT' cT'] 40)) = W4 at *
  have hlt3 : W2.heap.size ≤ W3.heap.size := H3.out.1.size
  generalize hgs : W3.heap.size = gs at *
  obtain ⟨hS2, hP2, hc2, RA2, hsz2⟩ := H2.out
  have hS4 := hS2.grown g24
  have hnf : ∀ b o, a' = some ⟨b, o, none⟩ → 0 < A.len → ¬ foot fb bb db wb b := fun b o e _ x => by have := H1.out.1.blk b o e; have := hS2.ft _ x; have := H0.out.2.2.2.1; omega
  have C1 := conv_row (P := Try.prog) ((hc2.row' H1.out.1.row hnf).grown g24) c1 34 9 Try.underlying34 Try.underlying5 Try.underlying9
  have C2 := conv_row (P := Try.prog) (RA2.grown g24) A.cap 34 9 Try.underlying34 Try.underlying5 Try.underlying9
  have d3 : W4.cell? ⟨g + 1, 3, none⟩ = some (.slice A.a A.len A.cap) := hS4.b1.c 3
  have hbase : ∀ (WR : World) (X : Nat → Prop), (∀ k, X k → W.heap.size ≤ k ∧ k < W2.heap.size) → Chg X W4 WR → (ST w WR g fb bb db wb [.int .i64 s, .int .i64 p, .int .i64 b, .slice aB lB cB, .slice aD lD cD, .slice aW lW cW, .int .i64 ops, .bool off, .int .i64 after, .slice aT lT cT] [.int .i64 A.d, .int .i64 A.at_, .int .i64 A.n, .slice A.a A.len A.cap] [.int .i64 0, .int .i64 0, .int .i64 0, .slice none 0 0, .slice none 0 0, .slice none 0 0, .int .i64 0, .bool false, .int .i64 0, .slice none 0 0] ∧ PRep WR fb bb db wb (m.write A.at_ A.xs).1 (ownF F g W2.heap.size) ∧ Rep WR (.agg #[.int .i64 s', .int .i64 p', .int .i64 b', .slice aB' lB' cB', .slice aD' lD' cD', .slice aW' lW' cW', .int .i64 ops', .bool off', .int .i64 after', .slice aT' lT' cT']) (m.write A.at_ A.xs).1 (ownF F g W2.heap.size) ∧ g + 2 < W2.heap.size) ∧ Box WR gs 40 [.int .i64 s', .int .i64 p', .int .i64 b', .slice aB' lB' cB', .slice aD' lD' cD', .slice aW' lW' cW', .int .i64 ops', .bool off', .int .i64 after', .slice aT' lT' cT'] := by
    intro WR X hF hc
    have hsz := H0.out.2.2.2.1
    refine ⟨⟨hS4.otherF hc (fun k x => by have := hF k x; omega), ?_, ?_, by omega⟩, hc.box hbs (fun x => by have := hF _ x; omega)⟩
    · exact ((hP2.grown g24).but hc (fun k x => .inr (by have := hF k x; omega)) (fun k x y => by have := hF k y; have := hS2.ft _ x; omega)).less (fun k x => x.elim .inl fun y => .inr y.1)
    · exact (H3.out.2.grown hga).but (fun k hk hn => hc.block k hk fun x => hn (.inr (by have := hF k x; omega)))
  have hown : A.len = 0 ∨ ∃ gb, a' = some ⟨gb, 0, none⟩ ∧ (W.heap.size ≤ gb ∧ gb < W2.heap.size) ∧ Own0 5 W4 gb A.len c1 (bv A.xs) := by
    rcases H1.out.1.own with h | ⟨gb, e, h1, h2⟩
    · exact .inl h
    · refine .inr ⟨gb, e, ⟨h1, Nat.lt_of_lt_of_le h2.lt hc2.size⟩, (h2.chg hc2 (fun x => by have := hS2.ft _ x; have := H0.out.2.2.2.1; omega)).chg (F := fun _ => False) (Chg.of_none g24 _) id⟩
  have HB : Hid _ := hbase
  have HO : Hid _ := hown
  have hxl := H1.out.2.2
  have HX : Hid _ := hxl
  generalize strOfNums A.xs = Sx at C1 C2
  clear hbase hown hS2 hP2 hc2 RA2 hsz2 hS4 hnf H4 hbs hga g24 hxl H3 H2 H1 H0 hgs hlt3
  have hlm : (A.len : Int) ≤ 140737488355328 := by omega
  go_wp2_with (first | (go_at_call 11; with_reducible refine (hnE _).mono ?_; rintro e w' ⟨rfl, rfl⟩))
  clear C1 C2 d3
  rcases HO.out with h0 | ⟨gb, rfl, hgb, hO⟩
  · have hl0 : ¬ ((0 : Int) < (A.len : Int)) := by omega
    go_loopw [19] (fun vi wr => vi = .int .i64 0 ∧ Hid (wr = W4)) (fun _ _ => 0)
    case atStart => exact ⟨rfl, rfl⟩
    case round =>
      obtain ⟨rfl, hw⟩ := hrel
      obtain rfl := hw.out
      have hE := HB.out wr (fun _ => False) (fun _ x => x.elim) (Chg.refl _ _)
      have HE : Hid _ := hE.1
      obtain ⟨c0, c1, c2, c3, c4, c5, c6, c7, c8, c9⟩ := hE.2.c10
      clear HB hE
      obtain ⟨z0, z1, z2, z3, z4, z5, z6, z7, z8, z9⟩ := HE.out.1.b2.c10
      obtain ⟨y0, y1, y2, y3, y4, y5, y6, y7, y8, y9⟩ := HE.out.1.b2.f10
      go_wp2_with fail
      clear c0 c1 c2 c3 c4 c5 c6 c7 c8 c9 z0 z1 z2 z3 z4 z5 z6 z7 z8 z9 y0 y1 y2 y3 y4 y5 y6 y7 y8 y9
      obtain ⟨hSTe, hPe, hRe, hHe⟩ := HE.out
      obtain ⟨hbe, hce, hpe, hre⟩ := st_end hSTe hPe hRe hHe (.int .i64 s') (.int .i64 p') (.int .i64 b') (.slice aB' lB' cB') (.slice aD' lD' cD') (.slice aW' lW' cW') (.int .i64 ops') (.bool off') (.int .i64 after') (.slice aT' lT' cT') (rfl : ((((((((((wr.setCell ⟨g + 1 + 1, 0, none⟩ (.int .i64 s')).setCell ⟨g + 1 + 1, 1, none⟩ (.int .i64 p')).setCell ⟨g + 1 + 1, 2, none⟩ (.int .i64 b')).setCell ⟨g + 1 + 1, 3, none⟩ (.slice aB' lB' cB')).setCell ⟨g + 1 + 1, 4, none⟩ (.slice aD' lD' cD')).setCell ⟨g + 1 + 1, 5, none⟩ (.slice aW' lW' cW')).setCell ⟨g + 1 + 1, 6, none⟩ (.int .i64 ops')).setCell ⟨g + 1 + 1, 7, none⟩ (.bool off')).setCell ⟨g + 1 + 1, 8, none⟩ (.int .i64 after')).setCell ⟨g + 1 + 1, 9, none⟩ (.slice aT' lT' cT')) = _)
      generalize ((((((((((wr.setCell ⟨g + 1 + 1, 0, none⟩ (.int .i64 s')).setCell ⟨g + 1 + 1, 1, none⟩ (.int .i64 p')).setCell ⟨g + 1 + 1, 2, none⟩ (.int .i64 b')).setCell ⟨g + 1 + 1, 3, none⟩ (.slice aB' lB' cB')).setCell ⟨g + 1 + 1, 4, none⟩ (.slice aD' lD' cD')).setCell ⟨g + 1 + 1, 5, none⟩ (.slice aW' lW' cW')).setCell ⟨g + 1 + 1, 6, none⟩ (.int .i64 ops')).setCell ⟨g + 1 + 1, 7, none⟩ (.bool off')).setCell ⟨g + 1 + 1, 8, none⟩ (.int .i64 after')).setCell ⟨g + 1 + 1, 9, none⟩ (.slice aT' lT' cT')) = WE at hbe hce hpe hre ⊢
      clear HE hSTe hPe hRe hHe
      obtain ⟨z0, z1, z2, z3, z4, z5, z6, z7, z8, z9⟩ := hbe.c10
      refine bodyPost_ret (v := .tuple #[.agg #[.int .i64 s', .int .i64 p', .int .i64 b', .slice aB' lB' cB', .slice aD' lD' cD', .slice aW' lW' cW', .int .i64 ops', .bool off', .int .i64 after', .slice aT' lT' cT'], .bool true]) (by simp [results, Try.results15, go_sem, z0, z1, z2, z3, z4, z5, z6, z7, z8, z9]) rfl ?_
      exact ⟨_, rfl, hce, hpe, hre⟩
  · have HOO : Hid _ := hO
    clear hO HO
    go_loopw [19] (fun vi wr => ∃ (j : Nat) (ys : List Int), vi = .int .i64 j ∧ j ≤ A.len ∧ Hid (Own0 5 wr gb A.len c1 (bv ys) ∧ Chg (fun k => k = gb) W4 wr)) (fun vi _ => A.len - (intOf vi).toNat)
    case atStart => exact ⟨0, A.xs, rfl, Nat.zero_le _, HOO.out, Chg.refl _ _⟩
    case round =>
      obtain ⟨j, zs, rfl, j1, HI⟩ := hrel
      by_cases hj : j < A.len
      · have cj := HI.out.1.cl hj
        have fj := HI.out.1.fr j
        have HS : Hid (∀ u, Own0 5 (wr.setCell ⟨gb, j, none⟩ (.int .u8 u)) gb A.len c1 (bv (zs.set j u)) ∧ Chg (fun k => k = gb) W4 (wr.setCell ⟨gb, j, none⟩ (.int .u8 u))) := fun u => ⟨by
          have := HI.out.1.set j (.int .u8 u)
          unfold bv at this ⊢
          rwa [← List.map_set] at this, HI.out.2.trans (Chg.set rfl)⟩
        have hj' : (j : Int) < (A.len : Int) := by omega
        generalize zs.getD j 0 = u at cj
        clear HI
        go_wp2_with fail
        go_roundw
        case rel => exact ⟨j + 1, _, by go_num, by omega, HS.out _⟩
        case measure => simp [intOf]; omega
      · have hj' : ¬ ((j : Int) < (A.len : Int)) := by omega
        have hj'' : decide ((j : Int) < (A.len : Int)) = false := decide_eq_false hj'
        have hE := HB.out wr (fun k => k = gb) (fun k e => by rw [e]; exact hgb) HI.out.2
        have HE : Hid _ := hE.1
        obtain ⟨c0, c1', c2, c3, c4, c5, c6, c7, c8, c9⟩ := hE.2.c10
        clear HB hE
        obtain ⟨z0, z1, z2, z3, z4, z5, z6, z7, z8, z9⟩ := HE.out.1.b2.c10
        obtain ⟨y0, y1, y2, y3, y4, y5, y6, y7, y8, y9⟩ := HE.out.1.b2.f10
        go_wp2_with fail
        clear c0 c1' c2 c3 c4 c5 c6 c7 c8 c9 z0 z1 z2 z3 z4 z5 z6 z7 z8 z9 y0 y1 y2 y3 y4 y5 y6 y7 y8 y9
        obtain ⟨hSTe, hPe, hRe, hHe⟩ := HE.out
        obtain ⟨hbe, hce, hpe, hre⟩ := st_end hSTe hPe hRe hHe (.int .i64 s') (.int .i64 p') (.int .i64 b') (.slice aB' lB' cB') (.slice aD' lD' cD') (.slice aW' lW' cW') (.int .i64 ops') (.bool off') (.int .i64 after') (.slice aT' lT' cT') (rfl : ((((((((((wr.setCell ⟨g + 1 + 1, 0, none⟩ (.int .i64 s')).setCell ⟨g + 1 + 1, 1, none⟩ (.int .i64 p')).setCell ⟨g + 1 + 1, 2, none⟩ (.int .i64 b')).setCell ⟨g + 1 + 1, 3, none⟩ (.slice aB' lB' cB')).setCell ⟨g + 1 + 1, 4, none⟩ (.slice aD' lD' cD')).setCell ⟨g + 1 + 1, 5, none⟩ (.slice aW' lW' cW')).setCell ⟨g + 1 + 1, 6, none⟩ (.int .i64 ops')).setCell ⟨g + 1 + 1, 7, none⟩ (.bool off')).setCell ⟨g + 1 + 1, 8, none⟩ (.int .i64 after')).setCell ⟨g + 1 + 1, 9, none⟩ (.slice aT' lT' cT')) = _)
        generalize ((((((((((wr.setCell ⟨g + 1 + 1, 0, none⟩ (.int .i64 s')).setCell ⟨g + 1 + 1, 1, none⟩ (.int .i64 p')).setCell ⟨g + 1 + 1, 2, none⟩ (.int .i64 b')).setCell ⟨g + 1 + 1, 3, none⟩ (.slice aB' lB' cB')).setCell ⟨g + 1 + 1, 4, none⟩ (.slice aD' lD' cD')).setCell ⟨g + 1 + 1, 5, none⟩ (.slice aW' lW' cW')).setCell ⟨g + 1 + 1, 6, none⟩ (.int .i64 ops')).setCell ⟨g + 1 + 1, 7, none⟩ (.bool off')).setCell ⟨g + 1 + 1, 8, none⟩ (.int .i64 after')).setCell ⟨g + 1 + 1, 9, none⟩ (.slice aT' lT' cT')) = WE at hbe hce hpe hre ⊢
        clear HE hSTe hPe hRe hHe
        obtain ⟨z0, z1, z2, z3, z4, z5, z6, z7, z8, z9⟩ := hbe.c10
        refine bodyPost_ret (v := .tuple #[.agg #[.int .i64 s', .int .i64 p', .int .i64 b', .slice aB' lB' cB', .slice aD' lD' cD', .slice aW' lW' cW', .int .i64 ops', .bool off', .int .i64 after', .slice aT' lT' cT'], .bool true]) (by simp [results, Try.results15, go_sem, z0, z1, z2, z3, z4, z5, z6, z7, z8, z9]) rfl ?_
        exact ⟨_, rfl, hce, hpe, hre⟩
end Go.Proofs.Ytdefcfmnhfeblaa
