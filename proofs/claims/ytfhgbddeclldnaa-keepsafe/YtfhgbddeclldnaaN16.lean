/- The program's keep: Write. The program's keep: both copies: what is refused. -/
import Derived.Test.YtfhgbddeclldnaaN15
namespace Go.Proofs.Ytfhgbddeclldnaa
open Go.RowKit
set_option maxRecDepth 100000
set_option linter.unusedSimpArgs false
set_option linter.unusedVariables false

theorem two_grown (w : World) (a b : List Value) (T U : TypeId) : w.grownBy ((w.alloc (.cells a.toArray T)).alloc (.cells b.toArray U)) none := grown_trans (World.grownBy_alloc _ _ _) (World.grownBy_alloc _ _ _)
theorem two_bx (w : World) (a b : List Value) (T U : TypeId) : Bx ((w.alloc (.cells a.toArray T)).alloc (.cells b.toArray U)) w.heap.size T a ∧ Bx ((w.alloc (.cells a.toArray T)).alloc (.cells b.toArray U)) (w.heap.size + 1) U b := two_new w a b T U
theorem ren_bad {r : Rc} (h : rrt r = false) : ren r = ([], 1) := by unfold ren; rw [if_neg (by rw [h]; simp)]
theorem ren_ok {r : Rc} (h : rrt r = true) : ren r = (rby r, 0) := by unfold ren; rw [if_pos h]
theorem kck_bad {m : Fm} {P : Pa.Pl} (h : kok m P = false) : kck m P = 1 := by unfold kck; rw [if_neg (by rw [h]; simp)]
theorem kck_ok {m : Fm} {P : Pa.Pl} (h : kok m P = true) : kck m P = 0 := by unfold kck; rw [if_pos h]
theorem pwrite9_nil (P : Pa.Pl) (i : Int) (r : Rc) (w : World) (hP : P.ok) (hi : in64 i) (hr : r.ok) : Calls Try.prog 19 #[.pointer none, P.val, .int .i64 i, r.val] w fun e w' => e = .returned (.int .i64 5) ∧ w.grownBy w' none := by
  have hc := fun W => pk_nil P W
  obtain ⟨s, p, b, x0, x1, y0, y1, nn⟩ := P
  obtain ⟨rq, rs, rl, ru⟩ := r
  simp only [Pa.Pl.val, Pa.Pl.cells, Rc.val, Rc.cells] at *
  have G0 := two_grown w [.int .i64 s, .int .i64 p, .int .i64 b, .int .i64 x0, .int .i64 x1, .int .i64 y0, .int .i64 y1, .int .i64 nn] [.int .u64 rq, .int .i64 rs, .int .i64 rl, .int .u64 ru] 32 26
  have HB0 : Hid _ := two_bx w [.int .i64 s, .int .i64 p, .int .i64 b, .int .i64 x0, .int .i64 x1, .int .i64 y0, .int .i64 y1, .int .i64 nn] [.int .u64 rq, .int .i64 rs, .int .i64 rl, .int .u64 ru] 32 26
  obtain ⟨d0, d1, d2, d3, d4, d5, d6, d7⟩ := plan8 HB0.out.1
  go_enter Try.func19, Try.ntmps19
  go_wp2_with fail
  generalize hW : (w.alloc (.cells #[.int .i64 s, .int .i64 p, .int .i64 b, .int .i64 x0, .int .i64 x1, .int .i64 y0, .int .i64 y1, .int .i64 nn] 32)).alloc (.cells #[.int .u64 rq, .int .i64 rs, .int .i64 rl, .int .u64 ru] 26) = W at *
  clear hW d0 d1 d2 d3 d4 d5 d6 d7
  refine (hc _).mono ?_
  rintro e w1 ⟨rfl, g1⟩
  have HG : Hid _ := grown_trans G0 g1
  clear g1 G0 hc HB0
  go_wp2
  go_ret
  exact ⟨rfl, HG.out⟩
theorem pw_bad1 {w : World} {fb bb db wb : Nat} {m : Fm} {G : Nat → Prop} {k : Nat} (h : PRep w fb bb db wb m G) (hg : m.Good k) (P : Pa.Pl) (hP : P.ok) (i : Int) (r : Rc) (hk : kok m P = false) : Calls Try.prog 19 #[.pointer (some ⟨fb, 0, none⟩), P.val, .int .i64 i, r.val] w fun e w' => e = .returned (.int .i64 1) ∧ w.grownBy w' none := by
  have hc := fun W (g : w.grownBy W none) => pk_any (h.grown g) hg P hP
  rw [kck_bad hk] at hc
  clear h hg hP hk
  obtain ⟨s, p, b, x0, x1, y0, y1, nn⟩ := P
  obtain ⟨rq, rs, rl, ru⟩ := r
  simp only [Pa.Pl.val, Pa.Pl.cells, Rc.val, Rc.cells] at *
  have G0 := two_grown w [.int .i64 s, .int .i64 p, .int .i64 b, .int .i64 x0, .int .i64 x1, .int .i64 y0, .int .i64 y1, .int .i64 nn] [.int .u64 rq, .int .i64 rs, .int .i64 rl, .int .u64 ru] 32 26
  have HB0 : Hid _ := two_bx w [.int .i64 s, .int .i64 p, .int .i64 b, .int .i64 x0, .int .i64 x1, .int .i64 y0, .int .i64 y1, .int .i64 nn] [.int .u64 rq, .int .i64 rs, .int .i64 rl, .int .u64 ru] 32 26
  obtain ⟨d0, d1, d2, d3, d4, d5, d6, d7⟩ := plan8 HB0.out.1
  go_enter Try.func19, Try.ntmps19
  go_wp2_with fail
  generalize hW : (w.alloc (.cells #[.int .i64 s, .int .i64 p, .int .i64 b, .int .i64 x0, .int .i64 x1, .int .i64 y0, .int .i64 y1, .int .i64 nn] 32)).alloc (.cells #[.int .u64 rq, .int .i64 rs, .int .i64 rl, .int .u64 ru] 26) = W at *
  clear hW d0 d1 d2 d3 d4 d5 d6 d7
  refine (hc _ G0).mono ?_
  rintro e w1 ⟨rfl, g1⟩
  have HG : Hid _ := grown_trans G0 g1
  clear g1 G0 hc HB0
  go_wp2
  go_ret
  exact ⟨rfl, HG.out⟩
theorem pw_bad2 {w : World} {fb bb db wb : Nat} {m : Fm} {G : Nat → Prop} {k : Nat} (h : PRep w fb bb db wb m G) (hg : m.Good k) (P : Pa.Pl) (hP : P.ok) (i : Int) (r : Rc) (hk : kok m P = true) (hi : i < 0 ∨ 1 < i) : Calls Try.prog 19 #[.pointer (some ⟨fb, 0, none⟩), P.val, .int .i64 i, r.val] w fun e w' => e = .returned (.int .i64 1) ∧ w.grownBy w' none := by
  have hc := fun W (g : w.grownBy W none) => pk_any (h.grown g) hg P hP
  rw [kck_ok hk] at hc
  clear h hg hP hk
  obtain ⟨s, p, b, x0, x1, y0, y1, nn⟩ := P
  obtain ⟨rq, rs, rl, ru⟩ := r
  simp only [Pa.Pl.val, Pa.Pl.cells, Rc.val, Rc.cells] at *
  have G0 := two_grown w [.int .i64 s, .int .i64 p, .int .i64 b, .int .i64 x0, .int .i64 x1, .int .i64 y0, .int .i64 y1, .int .i64 nn] [.int .u64 rq, .int .i64 rs, .int .i64 rl, .int .u64 ru] 32 26
  have HB0 : Hid _ := two_bx w [.int .i64 s, .int .i64 p, .int .i64 b, .int .i64 x0, .int .i64 x1, .int .i64 y0, .int .i64 y1, .int .i64 nn] [.int .u64 rq, .int .i64 rs, .int .i64 rl, .int .u64 ru] 32 26
  obtain ⟨d0, d1, d2, d3, d4, d5, d6, d7⟩ := plan8 HB0.out.1
  by_cases h0 : i < 0
  · have h1 : i < 2 := by omega
    go_enter Try.func19, Try.ntmps19
    go_wp2_with fail
    generalize hW : (w.alloc (.cells #[.int .i64 s, .int .i64 p, .int .i64 b, .int .i64 x0, .int .i64 x1, .int .i64 y0, .int .i64 y1, .int .i64 nn] 32)).alloc (.cells #[.int .u64 rq, .int .i64 rs, .int .i64 rl, .int .u64 ru] 26) = W at *
    clear hW d0 d1 d2 d3 d4 d5 d6 d7
    refine (hc _ G0).mono ?_
    rintro e w1 ⟨rfl, g1⟩
    have HG : Hid _ := grown_trans G0 g1
    clear g1 G0 hc HB0 hi
    go_wp2
    go_ret
    exact ⟨rfl, HG.out⟩
  · have h1 : 2 ≤ i := by omega
    go_enter Try.func19, Try.ntmps19
    go_wp2_with fail
    generalize hW : (w.alloc (.cells #[.int .i64 s, .int .i64 p, .int .i64 b, .int .i64 x0, .int .i64 x1, .int .i64 y0, .int .i64 y1, .int .i64 nn] 32)).alloc (.cells #[.int .u64 rq, .int .i64 rs, .int .i64 rl, .int .u64 ru] 26) = W at *
    clear hW d0 d1 d2 d3 d4 d5 d6 d7
    refine (hc _ G0).mono ?_
    rintro e w1 ⟨rfl, g1⟩
    have HG : Hid _ := grown_trans G0 g1
    clear g1 G0 hc HB0 hi
    go_wp2
    go_ret
    exact ⟨rfl, HG.out⟩
theorem pw_bad3 {w : World} {fb bb db wb : Nat} {m : Fm} {G : Nat → Prop} {k : Nat} (h : PRep w fb bb db wb m G) (hg : m.Good k) (P : Pa.Pl) (hP : P.ok) (i : Int) (r : Rc) (hr : r.ok) (hk : kok m P = true) (hi : 0 ≤ i ∧ i ≤ 1) (hrr : rrt r = false) : Calls Try.prog 19 #[.pointer (some ⟨fb, 0, none⟩), P.val, .int .i64 i, r.val] w fun e w' => e = .returned (.int .i64 1) ∧ w.grownBy w' none := by
  have hc := fun W (g : w.grownBy W none) => pk_any (h.grown g) hg P hP
  have hen := fun W => pencode_any r W hr
  rw [kck_ok hk] at hc
  rw [ren_bad hrr] at hen
  unfold EnPost at hen
  clear h hg hP hk hr hrr
  have h1 : ¬ i < 0 := by omega
  have h2 : ¬ 2 ≤ i := by omega
  obtain ⟨s, p, b, x0, x1, y0, y1, nn⟩ := P
  obtain ⟨rq, rs, rl, ru⟩ := r
  simp only [Pa.Pl.val, Pa.Pl.cells, Rc.val, Rc.cells] at *
  have G0 := two_grown w [.int .i64 s, .int .i64 p, .int .i64 b, .int .i64 x0, .int .i64 x1, .int .i64 y0, .int .i64 y1, .int .i64 nn] [.int .u64 rq, .int .i64 rs, .int .i64 rl, .int .u64 ru] 32 26
  have HB0 : Hid _ := two_bx w [.int .i64 s, .int .i64 p, .int .i64 b, .int .i64 x0, .int .i64 x1, .int .i64 y0, .int .i64 y1, .int .i64 nn] [.int .u64 rq, .int .i64 rs, .int .i64 rl, .int .u64 ru] 32 26
  obtain ⟨d0, d1, d2, d3, d4, d5, d6, d7⟩ := plan8 HB0.out.1
  go_enter Try.func19, Try.ntmps19
  go_wp2_with fail
  generalize hW : (w.alloc (.cells #[.int .i64 s, .int .i64 p, .int .i64 b, .int .i64 x0, .int .i64 x1, .int .i64 y0, .int .i64 y1, .int .i64 nn] 32)).alloc (.cells #[.int .u64 rq, .int .i64 rs, .int .i64 rl, .int .u64 ru] 26) = W at *
  clear hW d0 d1 d2 d3 d4 d5 d6 d7
  refine (hc _ G0).mono ?_
  rintro e w1 ⟨rfl, g1⟩
  obtain ⟨d0, d1, d2, d3⟩ := bx4 (HB0.out.2.kept g1)
  have HG : Hid _ := grown_trans G0 g1
  clear g1 G0 hc HB0 hi
  go_wp2_with fail
  clear d0 d1 d2 d3
  refine (hen _).mono ?_
  rintro e w2 ⟨a, n, c, rfl, -, g2⟩
  have HG2 : Hid _ := grown_trans HG.out g2
  clear g2 HG hen
  go_wp2
  go_ret
  exact ⟨rfl, HG2.out⟩
set_option maxHeartbeats 1000000 in
theorem pw_ok {w : World} {fb bb db wb : Nat} {m : Fm} {G : Nat → Prop} {k : Nat} (h : PRep w fb bb db wb m G) (hg : m.Good k) (hk9 : k < 90000) (P : Pa.Pl) (hP : P.ok) (i : Nat) (hi : i < 2) (r : Rc) (hr : r.ok) (hk : kok m P = true) (hrr : rrt r = true) : Calls Try.prog 19 #[.pointer (some ⟨fb, 0, none⟩), P.val, .int .i64 i, r.val] w (SpPost fb bb db wb (kwr m P i r) G w) := by
  have hc := fun W (g : w.grownBy W none) => pk_any (h.grown g) hg P hP
  have hen := fun W => pencode_any r W hr
  rw [kck_ok hk] at hc
  rw [ren_ok hrr] at hen
  unfold EnPost at hen
  obtain ⟨-, -, e2, -, -, -, hx0, hx1⟩ := kok_facts hk
  have hlt := h.lt
  have han := fun W (g : w.grownBy W none) (a : Option Addr) (c : Nat) (hrow : Row W a 32 (rby r)) (hn : ∀ b o, a = some ⟨b, o, none⟩ → w.heap.size ≤ b) => panew_any (w := W) (fb := fb) (bb := bb) (db := db) (wb := wb) (fun k hk => Nat.lt_of_lt_of_le (hlt k hk) g.size) (P := P) hx0 hx1 (ys := rby r) (a := a) (c := c) hi (by rw [rby_len]; exact hrow) (fun b o e _ x => by have := hn b o e; have := hlt b x; omega)
  have hrn := fun W (g : w.grownBy W none) (a : Option Addr) (c len : Nat) (hs : Sts W fb bb db wb P (rby r) a (stp9 i)) (hl : len = (stp9 i).length) => prun_any (G := G) (h.grown g) hg (by omega) e2 (c := c) hs hl (by unfold stp9; simp)
  rw [kwr_stp hk hrr hi] at hrn
  have hrl := rby_len r
  have hrb : Byt (rby r) := rby_byt hrr
  unfold SpPost at hrn ⊢
  generalize kwr m P (i : Int) r = M at *
  obtain ⟨m2, x⟩ := M
  generalize rby r = ys at *
  have HL : Hid _ := hrl
  rw [hrl] at han
  have HR : Hid _ := hrb
  have HLT : Hid _ := hlt
  clear h hg hP hk hr hrr e2 hx0 hx1 hrl hrb hlt hk9
  generalize hz : (i : Int) = z at han ⊢
  have h1 : ¬ z < 0 := by omega
  have h2 : ¬ (2 : Int) ≤ z := by omega
  clear hz
  obtain ⟨PP, hPP⟩ : ∃ PP, PP = P := ⟨P, rfl⟩
  rw [← hPP] at han hrn
  have HPP : Hid _ := hPP
  have HAN : Hid _ := han
  have HRN : Hid _ := hrn
  clear hPP han hrn
  obtain ⟨s, p, b, x0, x1, y0, y1, nn⟩ := P
  obtain ⟨rq, rs, rl, ru⟩ := r
  simp only [Pa.Pl.val, Pa.Pl.cells, Rc.val, Rc.cells] at *
  have G0 := two_grown w [.int .i64 s, .int .i64 p, .int .i64 b, .int .i64 x0, .int .i64 x1, .int .i64 y0, .int .i64 y1, .int .i64 nn] [.int .u64 rq, .int .i64 rs, .int .i64 rl, .int .u64 ru] 32 26
  have HB0 : Hid _ := two_bx w [.int .i64 s, .int .i64 p, .int .i64 b, .int .i64 x0, .int .i64 x1, .int .i64 y0, .int .i64 y1, .int .i64 nn] [.int .u64 rq, .int .i64 rs, .int .i64 rl, .int .u64 ru] 32 26
  obtain ⟨d0, d1, d2, d3, d4, d5, d6, d7⟩ := plan8 HB0.out.1
  go_enter Try.func19, Try.ntmps19
  go_wp2_with fail
  generalize hW : (w.alloc (.cells #[.int .i64 s, .int .i64 p, .int .i64 b, .int .i64 x0, .int .i64 x1, .int .i64 y0, .int .i64 y1, .int .i64 nn] 32)).alloc (.cells #[.int .u64 rq, .int .i64 rs, .int .i64 rl, .int .u64 ru] 26) = W at *
  clear hW d0 d1 d2 d3 d4 d5 d6 d7
  refine (hc _ G0).mono ?_
  rintro e w1 ⟨rfl, g1⟩
  obtain ⟨d0, d1, d2, d3⟩ := bx4 (HB0.out.2.kept g1)
  have HG : Hid _ := And.intro (grown_trans G0 g1) (HB0.out.1.kept g1)
  clear g1 G0 hc HB0
  go_wp2_with fail
  clear d0 d1 d2 d3
  refine (hen _).mono ?_
  rintro e w2 ⟨a, n, c, rfl, hown, g2⟩
  obtain ⟨a', c', ev, hrow, -, -, -⟩ := own_bytes hown HR.out (by have := hown.1; rw [bv_length, HL.out] at this; unfold maxLen; omega)
  obtain ⟨rfl, -, rfl⟩ : a = a' ∧ n = n ∧ c = c' := by injection ev with e1 e2 e3; exact ⟨e1, rfl, e3⟩
  have hn32 : n = 32 := by have := hown.1; rw [bv_length, HL.out] at this; omega
  subst hn32
  have HG2 : Hid (w.grownBy w2 none ∧ Row w2 a 32 ys ∧ ∀ b o, a = some ⟨b, o, none⟩ → w.heap.size ≤ b) := ⟨grown_trans HG.out.1 g2, hrow, fun b o e => Nat.le_trans HG.out.1.size (hown.lt b (by rw [e]; rfl)).1⟩
  obtain ⟨d0, d1, d2, d3, d4, d5, d6, d7⟩ := plan8 (HG.out.2.kept g2)
  clear g2 HG hen hown hrow ev
  go_wp2_with fail
  clear d0 d1 d2 d3 d4 d5 d6 d7
  have h3 := HAN.out w2 HG2.out.1 a c HG2.out.2.1 HG2.out.2.2
  rw [HPP.out] at h3
  refine h3.mono ?_
  unfold AnPost
  rintro e w3 ⟨nb, cf, cp, cs, cb, rfl, g3, k1, k2, n1, n2, n3, n4, n5, cap⟩
  have HS : Hid (w.grownBy w3 none ∧ Sts w3 fb bb db wb PP ys (some ⟨nb, 0, none⟩) (stp9 i)) := by
    refine ⟨grown_trans HG2.out.1 g3, fun q s' e => ?_, fun q s' e => ?_⟩
    · have hnf : ¬ foot fb bb db wb nb := fun x' => by have := HLT.out nb x'; have := HG2.out.1.size; omega
      rw [HPP.out]
      unfold stp9 at e
      rcases q with _ | _ | q
      · obtain rfl : (false, i) = s' := by simpa using e
        exact ⟨nb, 0, _, rfl, k1, ⟨cf, cp, cs, cb, a, c, rfl, cap⟩, hnf⟩
      · obtain rfl : (true, i) = s' := by simpa using e
        exact ⟨nb, 0, _, rfl, k2, ⟨cf, cp, cs, cb, a, c, rfl, cap⟩, hnf⟩
      · simp at e
    · have := List.mem_of_getElem? e
      unfold stp9 at this
      simp at this
      rcases this with rfl | rfl <;> exact hi
  clear g3 k1 k2 n1 n2 n3 n4 n5 cap HG2 h3 HAN
  go_wp2_with fail
  refine (HRN.out w3 HS.out.1 _ 2 2 HS.out.2 rfl).mono ?_
  rintro e w4 ⟨rfl, c1, c2⟩
  have HF : Hid _ := And.intro ((Chg.of_none HS.out.1 _).trans c1) c2
  clear c1 c2 HRN HS
  go_wp2
  go_ret
  exact ⟨rfl, HF.out.1, HF.out.2⟩
theorem pwrite9_any {w : World} {fb bb db wb : Nat} {m : Fm} {G : Nat → Prop} {k : Nat} (h : PRep w fb bb db wb m G) (hg : m.Good k) (hk : k < 90000) (P : Pa.Pl) (hP : P.ok) (i : Int) (hi : in64 i) (r : Rc) (hr : r.ok) : Calls Try.prog 19 #[.pointer (some ⟨fb, 0, none⟩), P.val, .int .i64 i, r.val] w (PkPost (kwr m P i r).1 (kwr m P i r).2 fb bb db wb G w) := by
  by_cases hbad : kok m P = false ∨ i < 0 ∨ 1 < i ∨ rrt r = false
  · rw [kwr_bad hbad]
    have hc : Calls Try.prog 19 #[.pointer (some ⟨fb, 0, none⟩), P.val, .int .i64 i, r.val] w fun e w' => e = .returned (.int .i64 1) ∧ w.grownBy w' none := by
      cases hko : kok m P with
      | false => exact pw_bad1 h hg P hP i r hko
      | true =>
        by_cases h1 : i < 0 ∨ 1 < i
        · exact pw_bad2 h hg P hP i r hko h1
        · cases hrr : rrt r with
          | false => exact pw_bad3 h hg P hP i r hr hko (by omega) hrr
          | true => rw [hko, hrr] at hbad; exfalso; simp at hbad; omega
    refine hc.mono ?_
    rintro e w' ⟨rfl, g⟩
    exact ⟨rfl, Chg.of_none g _, h.grown g⟩
  · have h1 : kok m P = true := by cases h : kok m P with | true => rfl | false => exact absurd (Or.inl h) hbad
    have h2 : rrt r = true := by cases h : rrt r with | true => rfl | false => exact absurd (Or.inr (Or.inr (Or.inr h))) hbad
    obtain ⟨j, rfl⟩ := Int.eq_ofNat_of_zero_le (by omega : 0 ≤ i)
    exact pw_ok h hg hk P hP j (by omega) r hr h1 h2
end Go.Proofs.Ytfhgbddeclldnaa

namespace Go.Proofs.Ytfhgbddeclldnaa
open Go.RowKit
set_option maxRecDepth 100000
set_option linter.unusedSimpArgs false
set_option linter.unusedVariables false

theorem pb_nil (P : Pa.Pl) (r : Rc) (fv : Value) (w : World) : Calls Try.prog 23 #[.pointer none, P.val, r.val, fv] w fun e w' => e = .returned (.int .i64 5) ∧ w.grownBy w' none := by
  have hc := fun W => pk_nil P W
  obtain ⟨s, p, b, x0, x1, y0, y1, nn⟩ := P
  obtain ⟨rq, rs, rl, ru⟩ := r
  simp only [Pa.Pl.val, Pa.Pl.cells, Rc.val, Rc.cells] at *
  have G0 := two_grown w [.int .i64 s, .int .i64 p, .int .i64 b, .int .i64 x0, .int .i64 x1, .int .i64 y0, .int .i64 y1, .int .i64 nn] [.int .u64 rq, .int .i64 rs, .int .i64 rl, .int .u64 ru] 32 26
  have HB0 : Hid _ := two_bx w [.int .i64 s, .int .i64 p, .int .i64 b, .int .i64 x0, .int .i64 x1, .int .i64 y0, .int .i64 y1, .int .i64 nn] [.int .u64 rq, .int .i64 rs, .int .i64 rl, .int .u64 ru] 32 26
  obtain ⟨d0, d1, d2, d3, d4, d5, d6, d7⟩ := plan8 HB0.out.1
  go_enter Try.func23, Try.ntmps23
  go_wp2_with fail
  generalize hW : (w.alloc (.cells #[.int .i64 s, .int .i64 p, .int .i64 b, .int .i64 x0, .int .i64 x1, .int .i64 y0, .int .i64 y1, .int .i64 nn] 32)).alloc (.cells #[.int .u64 rq, .int .i64 rs, .int .i64 rl, .int .u64 ru] 26) = W at *
  clear hW d0 d1 d2 d3 d4 d5 d6 d7
  refine (hc _).mono ?_
  rintro e w1 ⟨rfl, g1⟩
  have HG : Hid _ := grown_trans G0 g1
  clear g1 G0 hc HB0
  go_wp2
  go_ret
  exact ⟨rfl, HG.out⟩
theorem pb_bad1 {w : World} {fb bb db wb : Nat} {m : Fm} {G : Nat → Prop} {k : Nat} (h : PRep w fb bb db wb m G) (hg : m.Good k) (P : Pa.Pl) (hP : P.ok) (r : Rc) (fv : Value) (hk : kok m P = false) : Calls Try.prog 23 #[.pointer (some ⟨fb, 0, none⟩), P.val, r.val, fv] w fun e w' => e = .returned (.int .i64 1) ∧ w.grownBy w' none := by
  have hc := fun W (g : w.grownBy W none) => pk_any (h.grown g) hg P hP
  rw [kck_bad hk] at hc
  clear h hg hP hk
  obtain ⟨s, p, b, x0, x1, y0, y1, nn⟩ := P
  obtain ⟨rq, rs, rl, ru⟩ := r
  simp only [Pa.Pl.val, Pa.Pl.cells, Rc.val, Rc.cells] at *
  have G0 := two_grown w [.int .i64 s, .int .i64 p, .int .i64 b, .int .i64 x0, .int .i64 x1, .int .i64 y0, .int .i64 y1, .int .i64 nn] [.int .u64 rq, .int .i64 rs, .int .i64 rl, .int .u64 ru] 32 26
  have HB0 : Hid _ := two_bx w [.int .i64 s, .int .i64 p, .int .i64 b, .int .i64 x0, .int .i64 x1, .int .i64 y0, .int .i64 y1, .int .i64 nn] [.int .u64 rq, .int .i64 rs, .int .i64 rl, .int .u64 ru] 32 26
  obtain ⟨d0, d1, d2, d3, d4, d5, d6, d7⟩ := plan8 HB0.out.1
  go_enter Try.func23, Try.ntmps23
  go_wp2_with fail
  generalize hW : (w.alloc (.cells #[.int .i64 s, .int .i64 p, .int .i64 b, .int .i64 x0, .int .i64 x1, .int .i64 y0, .int .i64 y1, .int .i64 nn] 32)).alloc (.cells #[.int .u64 rq, .int .i64 rs, .int .i64 rl, .int .u64 ru] 26) = W at *
  clear hW d0 d1 d2 d3 d4 d5 d6 d7
  refine (hc _ G0).mono ?_
  rintro e w1 ⟨rfl, g1⟩
  have HG : Hid _ := grown_trans G0 g1
  clear g1 G0 hc HB0
  go_wp2
  go_ret
  exact ⟨rfl, HG.out⟩
theorem pb_bad3 {w : World} {fb bb db wb : Nat} {m : Fm} {G : Nat → Prop} {k : Nat} (h : PRep w fb bb db wb m G) (hg : m.Good k) (P : Pa.Pl) (hP : P.ok) (r : Rc) (hr : r.ok) (fv : Value) (hk : kok m P = true) (hrr : rrt r = false) : Calls Try.prog 23 #[.pointer (some ⟨fb, 0, none⟩), P.val, r.val, fv] w fun e w' => e = .returned (.int .i64 1) ∧ w.grownBy w' none := by
  have hc := fun W (g : w.grownBy W none) => pk_any (h.grown g) hg P hP
  have hen := fun W => pencode_any r W hr
  rw [kck_ok hk] at hc
  rw [ren_bad hrr] at hen
  unfold EnPost at hen
  clear h hg hP hk hr hrr
  obtain ⟨s, p, b, x0, x1, y0, y1, nn⟩ := P
  obtain ⟨rq, rs, rl, ru⟩ := r
  simp only [Pa.Pl.val, Pa.Pl.cells, Rc.val, Rc.cells] at *
  have G0 := two_grown w [.int .i64 s, .int .i64 p, .int .i64 b, .int .i64 x0, .int .i64 x1, .int .i64 y0, .int .i64 y1, .int .i64 nn] [.int .u64 rq, .int .i64 rs, .int .i64 rl, .int .u64 ru] 32 26
  have HB0 : Hid _ := two_bx w [.int .i64 s, .int .i64 p, .int .i64 b, .int .i64 x0, .int .i64 x1, .int .i64 y0, .int .i64 y1, .int .i64 nn] [.int .u64 rq, .int .i64 rs, .int .i64 rl, .int .u64 ru] 32 26
  obtain ⟨d0, d1, d2, d3, d4, d5, d6, d7⟩ := plan8 HB0.out.1
  go_enter Try.func23, Try.ntmps23
  go_wp2_with fail
  generalize hW : (w.alloc (.cells #[.int .i64 s, .int .i64 p, .int .i64 b, .int .i64 x0, .int .i64 x1, .int .i64 y0, .int .i64 y1, .int .i64 nn] 32)).alloc (.cells #[.int .u64 rq, .int .i64 rs, .int .i64 rl, .int .u64 ru] 26) = W at *
  clear hW d0 d1 d2 d3 d4 d5 d6 d7
  refine (hc _ G0).mono ?_
  rintro e w1 ⟨rfl, g1⟩
  obtain ⟨d0, d1, d2, d3⟩ := bx4 (HB0.out.2.kept g1)
  have HG : Hid _ := grown_trans G0 g1
  clear g1 G0 hc HB0
  go_wp2_with fail
  clear d0 d1 d2 d3
  refine (hen _).mono ?_
  rintro e w2 ⟨a, n, c, rfl, -, g2⟩
  have HG2 : Hid _ := grown_trans HG.out g2
  clear g2 HG hen
  go_wp2
  go_ret
  exact ⟨rfl, HG2.out⟩
theorem pb_off {w : World} {fb bb db wb : Nat} {m : Fm} {G : Nat → Prop} {k : Nat} (h : PRep w fb bb db wb m G) (hg : m.Good k) (P : Pa.Pl) (hP : P.ok) (r : Rc) (hr : r.ok) (fv : Value) (hk : kok m P = true) (hrr : rrt r = true) (hof : m.off = true) : Calls Try.prog 23 #[.pointer (some ⟨fb, 0, none⟩), P.val, r.val, fv] w fun e w' => e = .returned (.int .i64 40) ∧ w.grownBy w' none := by
  have hc := fun W (g : w.grownBy W none) => pk_any (h.grown g) hg P hP
  have hen := fun W => pencode_any r W hr
  have hld := fun W (g : w.grownBy W none) => pload_any (h.grown g) hg P hP
  have hlo : klo m P = ([], 40) := by unfold klo; rw [if_neg (by rw [hk]; simp), if_pos hof]
  unfold LdPost at hld
  rw [hlo] at hld
  rw [kck_ok hk] at hc
  rw [ren_ok hrr] at hen
  unfold EnPost at hen
  generalize rby r = ys at *
  clear h hg hP hk hr hrr hlo hof
  obtain ⟨s, p, b, x0, x1, y0, y1, nn⟩ := P
  obtain ⟨rq, rs, rl, ru⟩ := r
  simp only [Pa.Pl.val, Pa.Pl.cells, Rc.val, Rc.cells] at *
  have G0 := two_grown w [.int .i64 s, .int .i64 p, .int .i64 b, .int .i64 x0, .int .i64 x1, .int .i64 y0, .int .i64 y1, .int .i64 nn] [.int .u64 rq, .int .i64 rs, .int .i64 rl, .int .u64 ru] 32 26
  have HB0 : Hid _ := two_bx w [.int .i64 s, .int .i64 p, .int .i64 b, .int .i64 x0, .int .i64 x1, .int .i64 y0, .int .i64 y1, .int .i64 nn] [.int .u64 rq, .int .i64 rs, .int .i64 rl, .int .u64 ru] 32 26
  obtain ⟨d0, d1, d2, d3, d4, d5, d6, d7⟩ := plan8 HB0.out.1
  go_enter Try.func23, Try.ntmps23
  go_wp2_with fail
  generalize hW : (w.alloc (.cells #[.int .i64 s, .int .i64 p, .int .i64 b, .int .i64 x0, .int .i64 x1, .int .i64 y0, .int .i64 y1, .int .i64 nn] 32)).alloc (.cells #[.int .u64 rq, .int .i64 rs, .int .i64 rl, .int .u64 ru] 26) = W at *
  clear hW d0 d1 d2 d3 d4 d5 d6 d7
  refine (hc _ G0).mono ?_
  rintro e w1 ⟨rfl, g1⟩
  obtain ⟨d0, d1, d2, d3⟩ := bx4 (HB0.out.2.kept g1)
  have HG : Hid _ := And.intro (grown_trans G0 g1) (HB0.out.1.kept g1)
  clear g1 G0 hc HB0
  go_wp2_with fail
  clear d0 d1 d2 d3
  refine (hen _).mono ?_
  rintro e w2 ⟨a, n, c, rfl, -, g2⟩
  have HG2 : Hid _ := grown_trans HG.out.1 g2
  obtain ⟨d0, d1, d2, d3, d4, d5, d6, d7⟩ := plan8 (HG.out.2.kept g2)
  clear g2 HG hen
  go_wp2_with fail
  clear d0 d1 d2 d3 d4 d5 d6 d7
  refine (hld _ HG2.out).mono ?_
  rintro e w3 ⟨g3, aL, nL, cL, aW, nW, cW, rfl, -⟩
  have HG3 : Hid _ := grown_trans HG2.out g3
  clear g3 HG2 hld
  go_wp2
  go_ret
  exact ⟨rfl, HG3.out⟩
theorem stps_take {sk : Nat → Bool} {i0 i1 j i : Nat} (hj : j < 2) (hi : i = if j = 0 then i0 else i1) : stps sk ([i0, i1].take (j + 1)) = stps sk ([i0, i1].take j) ++ (if sk i = true then [] else stp9 i) := by
  obtain rfl | rfl : j = 0 ∨ j = 1 := by omega
  · subst hi; simp [stps]
  · subst hi; simp [stps]
theorem stps_len (sk : Nat → Bool) (i0 i1 : Nat) : (stps sk [i0, i1]).length ≤ 4 := by
  unfold stps stp9
  simp only [List.flatMap_cons, List.flatMap_nil, List.length_append, List.length_nil]
  split <;> split <;> simp
theorem stps_len1 (sk : Nat → Bool) (i0 i1 j : Nat) : (stps sk ([i0, i1].take j)).length ≤ 4 := by
  rcases j with _ | _ | j
  · simp [stps]
  · unfold stps stp9
    simp only [List.take_succ_cons, List.take_zero, List.flatMap_cons, List.flatMap_nil, List.length_append, List.length_nil]
    split <;> simp
  · rw [List.take_of_length_le (by simp)]; exact stps_len sk i0 i1
theorem step_info9 : (Try.prog.info? 91).map (fun i => (i.zero, i.size, i.bytes)) = some (some .nilFunc, 1, 8) := by kernel_rfl
/-- the loop's surroundings: the plan, the bytes, what was loaded -/
structure Be (w w4 : World) (g : Nat) (P : Pa.Pl) (m : Fm) (ys : List Int) (aB : Option Addr) (aL : Option Addr) (nL : Nat) (aW : Option Addr) (nW : Nat) : Prop where
  gr : w.grownBy w4 none
  p : Bx w4 g 32 P.cells
  row : Row w4 aB 32 ys
  rb : ∀ b o, aB = some ⟨b, o, none⟩ → w.heap.size ≤ b ∧ b < w4.heap.size
  ls : Lst w4 m aL nL aW nW (kli m)
theorem stv_one (a b c d : Nat) : ∀ u ∈ [StV a b c d false, StV a b c d true], u.oneCell' = true := by
  intro u hu
  simp at hu
  rcases hu with rfl | rfl <;> rfl
theorem two_news {w : World} {nb : Nat} {x y : Value} (h1 : w.cell? ⟨nb, 0, none⟩ = some x) (h2 : w.cell? ⟨nb, 1, none⟩ = some y) : ∀ j u, [x, y][j]? = some u → w.cell? ((⟨nb, 0, none⟩ : Addr).add j) = some u := by
  intro j u h
  have e : (⟨nb, 0, none⟩ : Addr).add j = ⟨nb, j, none⟩ := by (simp [Addr.add]; intro h; exact h.symm)
  rw [e]
  rcases j with _ | _ | j
  · obtain rfl : x = u := by simpa using h
    exact h1
  · obtain rfl : y = u := by simpa using h
    exact h2
  · simp at h
end Go.Proofs.Ytfhgbddeclldnaa
