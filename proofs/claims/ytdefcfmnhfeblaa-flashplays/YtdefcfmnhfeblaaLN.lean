/- step: Read. -/
import Derived.Test.YtdefcfmnhfeblaaLL
namespace Go.Proofs.Ytdefcfmnhfeblaa
open Go.RowKit
set_option linter.unusedSimpArgs false
set_option linter.unusedVariables false
attribute [local go_sem ↓] Go.wp_at_zero Go.wp_at_succ

/-- another block of its own was written -/
theorem ST.other {w W W' : World} {g fb bb db wb x : Nat} {cs es ds : List Value} (h : ST w W g fb bb db wb cs es ds) (hc : Chg (fun k => k = x) W W') (hx : g + 1 + 1 < x) : ST w W' g fb bb db wb cs es ds := by
  have he := h.eg
  refine ⟨⟨hc.os.trans h.ch.os, hc.tape.trans h.ch.tape, hc.output.trans h.ch.output, Nat.le_trans h.ch.size hc.size, fun k hk hF => ?_⟩, hc.box h.b0 (by omega), hc.box h.b1 (by omega), hc.box h.b2 (by omega), he, h.ft⟩
  rw [hc.block k (Nat.lt_of_lt_of_le hk h.ch.size) (by omega)]
  exact h.ch.block k hk hF
theorem ST.otherF {w W W' : World} {g fb bb db wb : Nat} {F : Nat → Prop} {cs es ds : List Value} (h : ST w W g fb bb db wb cs es ds) (hc : Chg F W W') (hx : ∀ k, F k → g + 1 + 1 < k) : ST w W' g fb bb db wb cs es ds := by
  have he := h.eg
  refine ⟨⟨hc.os.trans h.ch.os, hc.tape.trans h.ch.tape, hc.output.trans h.ch.output, Nat.le_trans h.ch.size hc.size, fun k hk hF => ?_⟩, hc.box h.b0 (fun x => by have := hx _ x; omega), hc.box h.b1 (fun x => by have := hx _ x; omega), hc.box h.b2 (fun x => by have := hx _ x; omega), he, h.ft⟩
  rw [hc.block k (Nat.lt_of_lt_of_le hk h.ch.size) (fun x => by have := hx _ x; omega)]
  exact h.ch.block k hk hF
theorem rdE_in (L : Nat) (off : Bool) (a n : Int) : -9223372036854775808 ≤ rdE L off a n ∧ rdE L off a n ≤ 9223372036854775807 := by
  unfold rdE; split
  · decide
  · split <;> decide
set_option maxRecDepth 100000 in
set_option maxHeartbeats 8000000 in
theorem step_read {w : World} {fb bb db wb : Nat} {m : Fm} {v : Value} {k : Nat} {A : Ac} {F : Nat → Prop} (hP : PRep w fb bb db wb m F) (hFf : ∀ k, foot fb bb db wb k → F k) (hFs : ∀ k, F k → k < w.heap.size) (hR : Rep w v m F) (hg : m.Good k) (h2 : A.d = 0) (hba : -9223372036854775808 ≤ A.at_ ∧ A.at_ ≤ 9223372036854775807) (hbn : -9223372036854775808 ≤ A.n ∧ A.n ≤ 9223372036854775807) :
    Calls Try.prog 15 #[.pointer (some ⟨fb, 0, none⟩), v, A.val] w fun e w' => StPost w fb bb db wb F m e w' := by
  have HFF : Hid _ := And.intro hFf hFs
  clear hFf hFs
  obtain ⟨s, p, b, ops, after, off, aB, aD, aW, aT, lB, cB, lD, cD, lW, cW, lT, cT, rfl⟩ := hR.shape
  have hST : ST w (((w.alloc (.cells #[.int .i64 s, .int .i64 p, .int .i64 b, .slice aB lB cB, .slice aD lD cD, .slice aW lW cW, .int .i64 ops, .bool off, .int .i64 after, .slice aT lT cT] 40)).alloc (.cells #[.int .i64 A.d, .int .i64 A.at_, .int .i64 A.n, .slice A.a A.len A.cap] 45)).alloc (.cells #[.int .i64 0, .int .i64 0, .int .i64 0, .slice none 0 0, .slice none 0 0, .slice none 0 0, .int .i64 0, .bool false, .int .i64 0, .slice none 0 0] 40)) w.heap.size fb bb db wb [.int .i64 s, .int .i64 p, .int .i64 b, .slice aB lB cB, .slice aD lD cD, .slice aW lW cW, .int .i64 ops, .bool off, .int .i64 after, .slice aT lT cT] [.int .i64 A.d, .int .i64 A.at_, .int .i64 A.n, .slice A.a A.len A.cap] [.int .i64 0, .int .i64 0, .int .i64 0, .slice none 0 0, .slice none 0 0, .slice none 0 0, .int .i64 0, .bool false, .int .i64 0, .slice none 0 0] := st_made _ _ _ hP.lt
  have hgW : w.grownBy (((w.alloc (.cells #[.int .i64 s, .int .i64 p, .int .i64 b, .slice aB lB cB, .slice aD lD cD, .slice aW lW cW, .int .i64 ops, .bool off, .int .i64 after, .slice aT lT cT] 40)).alloc (.cells #[.int .i64 A.d, .int .i64 A.at_, .int .i64 A.n, .slice A.a A.len A.cap] 45)).alloc (.cells #[.int .i64 0, .int .i64 0, .int .i64 0, .slice none 0 0, .slice none 0 0, .slice none 0 0, .int .i64 0, .bool false, .int .i64 0, .slice none 0 0] 40)) none := grown_trans (grown2 _ _ _) (World.grownBy_alloc _ _ _)
  have hPW := (hP.fresh2 (G' := fun k => F k ∨ w.heap.size ≤ k) (fun _ x => x)).grown hgW
  have hRW : ∀ H, _ := fun H => (hR.fresh (F' := ownF F w.heap.size H) hg (fun x hx => hx.elim .inl fun y => .inr y.1)).grown hgW
  have hszW : w.heap.size + 2 < (((w.alloc (.cells #[.int .i64 s, .int .i64 p, .int .i64 b, .slice aB lB cB, .slice aD lD cD, .slice aW lW cW, .int .i64 ops, .bool off, .int .i64 after, .slice aT lT cT] 40)).alloc (.cells #[.int .i64 A.d, .int .i64 A.at_, .int .i64 A.n, .slice A.a A.len A.cap] 45)).alloc (.cells #[.int .i64 0, .int .i64 0, .int .i64 0, .slice none 0 0, .slice none 0 0, .slice none 0 0, .int .i64 0, .bool false, .int .i64 0, .slice none 0 0] 40)).heap.size := by simp
  unfold Ac.val
  have e0 : (A.d == 0) = true := by rw [h2]; rfl
  clear h2
  have H0 : Hid _ := And.intro hST (And.intro hPW (And.intro hRW (And.intro hszW (And.intro hgW hg))))
  clear hST hP hR hg hszW hgW hPW hRW
  go_enter Try.func15, Try.ntmps15
  go_wp2_with fail
  generalize (((w.alloc (.cells #[.int .i64 s, .int .i64 p, .int .i64 b, .slice aB lB cB, .slice aD lD cD, .slice aW lW cW, .int .i64 ops, .bool off, .int .i64 after, .slice aT lT cT] 40)).alloc (.cells #[.int .i64 A.d, .int .i64 A.at_, .int .i64 A.n, .slice A.a A.len A.cap] 45)).alloc (.cells #[.int .i64 0, .int .i64 0, .int .i64 0, .slice none 0 0, .slice none 0 0, .slice none 0 0, .int .i64 0, .bool false, .int .i64 0, .slice none 0 0] 40)) = W at *
  generalize hgg : w.heap.size = g at *
  have hRd := prep_read H0.out.2.1 H0.out.2.2.2.2.2 A.at_ A.n hba hbn
  have hlB2 : m.B.length ≤ 16384 := by have := H0.out.2.2.2.2.2.lB; have := H0.out.2.2.2.2.2.spb; omega
  refine hRd.mono ?_
  rintro e W2 ⟨v2, rfl, hg2, hv2⟩
  have hS2 := H0.out.1.grown hg2
  have hRd2 := rep_read ((H0.out.2.2.1 W2.heap.size).grown hg2) H0.out.2.2.2.2.2 A.at_ A.n hba hbn
  unfold RdPost at hRd2
  have hnE : ∀ W, _ := fun W => num_any (rdE m.B.length m.off A.at_ A.n) W (rdE_in _ _ _ _)
  have d1 : W2.cell? ⟨g + 1, 1, none⟩ = some (.int .i64 A.at_) := hS2.b1.c 1
  have d2 : W2.cell? ⟨g + 1, 2, none⟩ = some (.int .i64 A.n) := hS2.b1.c 2
  have HV : Hid _ := And.intro hv2 hg2
  have H2 : Hid _ := hS2
  obtain ⟨c0, c1, c2, c3, c4, c5, c6, c7, c8, c9⟩ := hS2.b0.c10
  clear hS2 hv2 hg2 hRd
  generalize rdE m.B.length m.off A.at_ A.n = er at *
  go_wp2_with fail
  refine hRd2.mono ?_
  rintro e W3 ⟨hg3, a', l', c', ys, rfl, hRy, hy⟩
  have HY : Hid _ := And.intro hg3 (And.intro hRy hy)
  clear hg3 hRy hy d1 d2 hRd2
  clear c0 c1 c2 c3 c4 c5 c6 c7 c8 c9
  have hbase : ∀ (WR : World) (X : Nat → Prop), (∀ k, X k → W.heap.size ≤ k ∧ k < W2.heap.size) → Chg X W3 WR → ST w WR g fb bb db wb [.int .i64 s, .int .i64 p, .int .i64 b, .slice aB lB cB, .slice aD lD cD, .slice aW lW cW, .int .i64 ops, .bool off, .int .i64 after, .slice aT lT cT] [.int .i64 A.d, .int .i64 A.at_, .int .i64 A.n, .slice A.a A.len A.cap] [.int .i64 0, .int .i64 0, .int .i64 0, .slice none 0 0, .slice none 0 0, .slice none 0 0, .int .i64 0, .bool false, .int .i64 0, .slice none 0 0] ∧ PRep WR fb bb db wb m (ownF F g W2.heap.size) ∧ Rep WR (.agg #[.int .i64 s, .int .i64 p, .int .i64 b, .slice aB lB cB, .slice aD lD cD, .slice aW lW cW, .int .i64 ops, .bool off, .int .i64 after, .slice aT lT cT]) m (ownF F g W2.heap.size) ∧ g + 2 < W2.heap.size := by
    intro WR X hF hc
    obtain ⟨hS, hPu, hRa, hsz, hgW, hg⟩ := H0.out
    have hg2 := HV.out.2
    have hg3 := HY.out.1
    have hs2 := hg2.size
    refine ⟨(H2.out.grown hg3).otherF hc (fun k x => by have := hF k x; omega), ?_, ?_, by omega⟩
    · exact (((hPu.grown hg2).grown hg3).but hc (fun k x => .inr (by have := hF k x; omega)) (fun k x y => by have := hF k y; have := hS.ft _ x; omega)).less (fun k x => x.elim .inl fun y => .inr y.1)
    · exact (((hRa W2.heap.size).grown hg2).grown hg3).but (fun k hk hn => hc.block k hk fun x => hn (.inr (by have := hF k x; omega)))
  have HB : Hid _ := hbase
  clear hbase
  rcases HV.out.1 with ⟨hne, rfl⟩ | ⟨rfl, gx, rfl, hgx, hbx, hle⟩
  · have hy0 : l' = 0 ∧ ys = [] := by
      rcases HY.out.2.2 with ⟨_, h⟩ | ⟨h, _⟩
      · exact ⟨by have := HY.out.2.1.len_eq; rw [h] at this; simpa using this.symm, h⟩
      · exact absurd h hne
    obtain ⟨rfl, rfl⟩ := hy0
    have C1 : (convert 34 9 (.slice none 0 0)).run Try.prog W3 = .ok (.string (strOfNums [])) W3 := conv_row (P := Try.prog) (Row.none0 none) 0 34 9 Try.underlying34 Try.underlying5 Try.underlying9
    have C2 := conv_row (P := Try.prog) HY.out.2.1 c' 34 9 Try.underlying34 Try.underlying5 Try.underlying9
    generalize strOfNums [] = Sx at C1 C2
    go_wp2_with (first | (go_at_call 11; with_reducible refine (hnE _).mono ?_; rintro e w' ⟨rfl, rfl⟩))
    clear C1 C2
    go_loopw [13] (fun vi wr => vi = .int .i64 0 ∧ Hid (wr = W3)) (fun _ _ => 0)
    case atStart => exact ⟨rfl, rfl⟩
    case round =>
      obtain ⟨rfl, hw⟩ := hrel
      obtain rfl := hw.out
      have HE : Hid _ := HB.out wr (fun _ => False) (fun _ x => x.elim) (Chg.refl _ _)
      clear HB
      obtain ⟨c0, c1, c2, c3, c4, c5, c6, c7, c8, c9⟩ := HE.out.1.b0.c10
      obtain ⟨z0, z1, z2, z3, z4, z5, z6, z7, z8, z9⟩ := HE.out.1.b2.c10
      obtain ⟨y0, y1, y2, y3, y4, y5, y6, y7, y8, y9⟩ := HE.out.1.b2.f10
      go_wp2_with fail
      clear c0 c1 c2 c3 c4 c5 c6 c7 c8 c9 z0 z1 z2 z3 z4 z5 z6 z7 z8 z9 y0 y1 y2 y3 y4 y5 y6 y7 y8 y9
      obtain ⟨hSTe, hPe, hRe, hHe⟩ := HE.out
      obtain ⟨hbe, hce, hpe, hre⟩ := st_end hSTe hPe hRe hHe (.int .i64 s) (.int .i64 p) (.int .i64 b) (.slice aB lB cB) (.slice aD lD cD) (.slice aW lW cW) (.int .i64 ops) (.bool off) (.int .i64 after) (.slice aT lT cT) (rfl : ((((((((((wr.setCell ⟨g + 1 + 1, 0, none⟩ (.int .i64 s)).setCell ⟨g + 1 + 1, 1, none⟩ (.int .i64 p)).setCell ⟨g + 1 + 1, 2, none⟩ (.int .i64 b)).setCell ⟨g + 1 + 1, 3, none⟩ (.slice aB lB cB)).setCell ⟨g + 1 + 1, 4, none⟩ (.slice aD lD cD)).setCell ⟨g + 1 + 1, 5, none⟩ (.slice aW lW cW)).setCell ⟨g + 1 + 1, 6, none⟩ (.int .i64 ops)).setCell ⟨g + 1 + 1, 7, none⟩ (.bool off)).setCell ⟨g + 1 + 1, 8, none⟩ (.int .i64 after)).setCell ⟨g + 1 + 1, 9, none⟩ (.slice aT lT cT)) = _)
      generalize ((((((((((wr.setCell ⟨g + 1 + 1, 0, none⟩ (.int .i64 s)).setCell ⟨g + 1 + 1, 1, none⟩ (.int .i64 p)).setCell ⟨g + 1 + 1, 2, none⟩ (.int .i64 b)).setCell ⟨g + 1 + 1, 3, none⟩ (.slice aB lB cB)).setCell ⟨g + 1 + 1, 4, none⟩ (.slice aD lD cD)).setCell ⟨g + 1 + 1, 5, none⟩ (.slice aW lW cW)).setCell ⟨g + 1 + 1, 6, none⟩ (.int .i64 ops)).setCell ⟨g + 1 + 1, 7, none⟩ (.bool off)).setCell ⟨g + 1 + 1, 8, none⟩ (.int .i64 after)).setCell ⟨g + 1 + 1, 9, none⟩ (.slice aT lT cT)) = WE at hbe hce hpe hre ⊢
      clear HE hSTe hPe hRe hHe
      obtain ⟨z0, z1, z2, z3, z4, z5, z6, z7, z8, z9⟩ := hbe.c10
      refine bodyPost_ret (v := .tuple #[.agg #[.int .i64 s, .int .i64 p, .int .i64 b, .slice aB lB cB, .slice aD lD cD, .slice aW lW cW, .int .i64 ops, .bool off, .int .i64 after, .slice aT lT cT], .bool true]) (by simp [results, Try.results15, go_sem, z0, z1, z2, z3, z4, z5, z6, z7, z8, z9]) rfl ?_
      exact ⟨_, rfl, hce, hpe, hre⟩
  · have hy1 : ys = (m.B.drop A.at_.toNat).take A.n.toNat := by
      rcases HY.out.2.2 with ⟨h, _⟩ | ⟨_, h⟩
      · exact absurd rfl h
      · exact h
    have hXl : ((m.B.drop A.at_.toNat).take A.n.toNat).length = A.n.toNat := by simp; omega
    have hXb : Byt ((m.B.drop A.at_.toNat).take A.n.toNat) := by rw [← hy1]; exact HY.out.2.1.byt
    have hqm : A.n.toNat ≤ 16384 := by omega
    have hl1 : l' = A.n.toNat := by have := HY.out.2.1.len_eq; rw [hy1, hXl] at this; omega
    subst hl1
    subst hy1
    have hb3 := hbx.grown HY.out.1
    have C1 : (convert 34 9 (.slice (some ⟨gx, 0, none⟩) A.n.toNat A.n.toNat)).run Try.prog W3 = .ok (.string (strOfNums ((m.B.drop A.at_.toNat).take A.n.toNat))) W3 := by
      have hR := Blk.row hb3.blk hXb (by rw [hXl]; unfold maxLen; omega)
      rw [hXl] at hR
      exact conv_row (P := Try.prog) hR A.n.toNat 34 9 Try.underlying34 Try.underlying5 Try.underlying9
    have C2 := conv_row (P := Try.prog) HY.out.2.1 c' 34 9 Try.underlying34 Try.underlying5 Try.underlying9
    have hgx2 : W.heap.size ≤ gx ∧ gx < W2.heap.size := ⟨hgx, hbx.lt⟩
    have HX : Hid _ := And.intro hb3 (And.intro hXl hgx2)
    clear hb3 hXl hXb hbx hle hgx hgx2 hlB2
    generalize hq : A.n.toNat = q at *
    generalize ((m.B.drop A.at_.toNat).take q) = X at *
    generalize strOfNums X = Sx at C1 C2
    go_wp2_with (first | (go_at_call 11; with_reducible refine (hnE _).mono ?_; rintro e w' ⟨rfl, rfl⟩))
    clear C1 C2 HV HY
    go_loopw [13] (fun vi wr => ∃ (j : Nat) (ys : List Int), vi = .int .i64 j ∧ j ≤ q ∧ ys.length = q ∧ Hid (Box wr gx 5 (bv ys) ∧ Chg (fun k => k = gx) W3 wr)) (fun vi _ => q - (intOf vi).toNat)
    case atStart => exact ⟨0, X, rfl, Nat.zero_le _, HX.out.2.1, HX.out.1, Chg.refl _ _⟩
    case round =>
      obtain ⟨j, zs, rfl, j1, hzl, HI⟩ := hrel
      by_cases hj : j < q
      · have cj : wr.cell? ⟨gx, j, none⟩ = some (.int .u8 (zs.getD j 0)) := by rw [HI.out.1.c j, bv_getElem? _ _ (by omega)]
        have fj := HI.out.1.f j
        have HS : Hid (∀ u, Box (wr.setCell ⟨gx, j, none⟩ (.int .u8 u)) gx 5 (bv (zs.set j u)) ∧ Chg (fun k => k = gx) W3 (wr.setCell ⟨gx, j, none⟩ (.int .u8 u))) := fun u => ⟨by
          have := HI.out.1.set j (.int .u8 u)
          unfold bv at this ⊢
          rwa [← List.map_set] at this, HI.out.2.trans (Chg.set rfl)⟩
        have hj' : (j : Int) < (q : Int) := by omega
        generalize zs.getD j 0 = u at cj
        clear HI
        go_wp2_with fail
        go_roundw
        case rel => exact ⟨j + 1, _, by go_num, by omega, by rw [List.length_set]; exact hzl, HS.out _⟩
        case measure => simp [intOf]; omega
      · have ej : j = q := by omega
        subst ej
        have HE : Hid _ := HB.out wr (fun k => k = gx) (fun k e => by rw [e]; exact HX.out.2.2) HI.out.2
        clear HB
        obtain ⟨c0, c1, c2, c3, c4, c5, c6, c7, c8, c9⟩ := HE.out.1.b0.c10
        obtain ⟨z0, z1, z2, z3, z4, z5, z6, z7, z8, z9⟩ := HE.out.1.b2.c10
        obtain ⟨y0, y1, y2, y3, y4, y5, y6, y7, y8, y9⟩ := HE.out.1.b2.f10
        go_wp2_with fail
        clear c0 c1 c2 c3 c4 c5 c6 c7 c8 c9 z0 z1 z2 z3 z4 z5 z6 z7 z8 z9 y0 y1 y2 y3 y4 y5 y6 y7 y8 y9
        obtain ⟨hSTe, hPe, hRe, hHe⟩ := HE.out
        obtain ⟨hbe, hce, hpe, hre⟩ := st_end hSTe hPe hRe hHe (.int .i64 s) (.int .i64 p) (.int .i64 b) (.slice aB lB cB) (.slice aD lD cD) (.slice aW lW cW) (.int .i64 ops) (.bool off) (.int .i64 after) (.slice aT lT cT) (rfl : ((((((((((wr.setCell ⟨g + 1 + 1, 0, none⟩ (.int .i64 s)).setCell ⟨g + 1 + 1, 1, none⟩ (.int .i64 p)).setCell ⟨g + 1 + 1, 2, none⟩ (.int .i64 b)).setCell ⟨g + 1 + 1, 3, none⟩ (.slice aB lB cB)).setCell ⟨g + 1 + 1, 4, none⟩ (.slice aD lD cD)).setCell ⟨g + 1 + 1, 5, none⟩ (.slice aW lW cW)).setCell ⟨g + 1 + 1, 6, none⟩ (.int .i64 ops)).setCell ⟨g + 1 + 1, 7, none⟩ (.bool off)).setCell ⟨g + 1 + 1, 8, none⟩ (.int .i64 after)).setCell ⟨g + 1 + 1, 9, none⟩ (.slice aT lT cT)) = _)
        generalize ((((((((((wr.setCell ⟨g + 1 + 1, 0, none⟩ (.int .i64 s)).setCell ⟨g + 1 + 1, 1, none⟩ (.int .i64 p)).setCell ⟨g + 1 + 1, 2, none⟩ (.int .i64 b)).setCell ⟨g + 1 + 1, 3, none⟩ (.slice aB lB cB)).setCell ⟨g + 1 + 1, 4, none⟩ (.slice aD lD cD)).setCell ⟨g + 1 + 1, 5, none⟩ (.slice aW lW cW)).setCell ⟨g + 1 + 1, 6, none⟩ (.int .i64 ops)).setCell ⟨g + 1 + 1, 7, none⟩ (.bool off)).setCell ⟨g + 1 + 1, 8, none⟩ (.int .i64 after)).setCell ⟨g + 1 + 1, 9, none⟩ (.slice aT lT cT)) = WE at hbe hce hpe hre ⊢
        clear HE hSTe hPe hRe hHe
        obtain ⟨z0, z1, z2, z3, z4, z5, z6, z7, z8, z9⟩ := hbe.c10
        refine bodyPost_ret (v := .tuple #[.agg #[.int .i64 s, .int .i64 p, .int .i64 b, .slice aB lB cB, .slice aD lD cD, .slice aW lW cW, .int .i64 ops, .bool off, .int .i64 after, .slice aT lT cT], .bool true]) (by simp [results, Try.results15, go_sem, z0, z1, z2, z3, z4, z5, z6, z7, z8, z9]) rfl ?_
        exact ⟨_, rfl, hce, hpe, hre⟩
end Go.Proofs.Ytdefcfmnhfeblaa
