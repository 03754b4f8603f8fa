/- Does a copy tell one of two records? -/
import Derived.Test.YtfhgbddeclldnaaN19
namespace Go.Proofs.Ytfhgbddeclldnaa
open Go.RowKit
set_option maxRecDepth 100000
set_option linter.unusedSimpArgs false
set_option linter.unusedVariables false

/-- tells' variables -/
structure Kt (w W : World) (g : Nat) (P : Pa.Pl) (r s : Rc) (m : Fm) (aL : Option Addr) (nL : Nat) (aX : Option Addr) (nX : Nat) : Prop where
  r : Bx W (g + 1) 26 r.cells
  s : Bx W (g + 1 + 1) 26 s.cells
  ls : Lst W m aL nL aX nX (kli m)
  gr : w.grownBy W none
theorem Kt.kept {w W W' : World} {g : Nat} {P : Pa.Pl} {r s : Rc} {m : Fm} {aL aX : Option Addr} {nL nX : Nat} (h : Kt w W g P r s m aL nL aX nX) (k : W.grownBy W' none) : Kt w W' g P r s m aL nL aX nX := ⟨h.r.kept k, h.s.kept k, h.ls.kept k, grown_trans h.gr k⟩
set_option maxHeartbeats 4000000 in
theorem tells_any {w : World} {fb bb db wb : Nat} {m : Fm} {G : Nat → Prop} {k : Nat} (h : PRep w fb bb db wb m G) (hg : m.Good k) (P : Pa.Pl) (hP : P.ok) (hko : kok m P = true) (hof : m.off = false) (r s : Rc) (hr : r.ok) (hs : s.ok) (hB : Byt m.B) (hex : ∃ x ∈ kli m, (kda m x).1 = r ∨ (kda m x).1 = s) :
    Calls Try.prog 15 #[.pointer (some ⟨fb, 0, none⟩), P.val, r.val, s.val] w fun e w' => e = .returned (.bool true) ∧ w.grownBy w' none := by
  have hld := fun W (g : w.grownBy W none) => pload_any (h.grown g) hg P hP
  have hlo : klo m P = (kli m, 0) := by unfold klo; rw [if_neg (by rw [hko]; simp), if_neg (by rw [hof]; simp)]
  unfold LdPost at hld
  rw [hlo] at hld
  have HOK : Hid (∀ x, (kda m x).1.ok) := fun x => kda_ok hB x
  have HEX : Hid _ := hex
  have HX : Hid _ := And.intro hr hs
  have h1 := Bx.new w 32 P.cells
  have h2 := Bx.new (w.alloc (.cells P.cells.toArray 32)) 26 r.cells
  have h3 := Bx.new ((w.alloc (.cells P.cells.toArray 32)).alloc (.cells r.cells.toArray 26)) 26 s.cells
  simp only [World.size_alloc] at h2 h3
  have a2 := World.grownBy_alloc (w.alloc (.cells P.cells.toArray 32)) (.cells r.cells.toArray 26) none
  have a3 := World.grownBy_alloc ((w.alloc (.cells P.cells.toArray 32)).alloc (.cells r.cells.toArray 26)) (.cells s.cells.toArray 26) none
  have H0 : Hid _ := And.intro ((h1.kept a2).kept a3) (And.intro (h2.kept a3) (And.intro h3 (grown_trans (grown_trans (World.grownBy_alloc _ _ none) a2) a3)))
  clear h1 h2 h3 a2 a3 hlo hex hr hs hB hko hof hP hg h
  obtain ⟨ps, pp, pb, x0, x1, y0, y1, n⟩ := P
  obtain ⟨rq, rs, rl, ru⟩ := r
  obtain ⟨sq, ss, sl, su⟩ := s
  simp only [Pa.Pl.val, Rc.val, Pa.Pl.cells, Rc.cells] at hld H0 ⊢
  go_enter Try.func15, Try.ntmps15
  go_wp2_with fail
  refine (hld _ H0.out.2.2.2).mono ?_
  rintro e w1 ⟨g1, aL, nL, cL, aX, nX, cX, rfl, hnl, hnx, hfl, hfx, hls⟩
  generalize w.heap.size = g at *
  have K1 : Hid (Kt w w1 g ⟨ps, pp, pb, x0, x1, y0, y1, n⟩ ⟨rq, rs, rl, ru⟩ ⟨sq, ss, sl, su⟩ m aL nL aX nX) := ⟨H0.out.2.1.kept g1, H0.out.2.2.1.kept g1, hls, grown_trans H0.out.2.2.2 g1⟩
  have hnm : nL ≤ 2 := by
    have e1 := hls.nL
    have e2 := kli_le m
    try simp only at e1
    omega
  clear hls hfl hfx hnx g1 H0 hld
  simp only
  go_wp2_with (first | (go_at_call 10; with_reducible refine (num9_any _ _).mono ?_; rintro e w' ⟨rfl, rfl⟩))
  go_loopw [12] (fun vi wr => ∃ q : Nat, vi = .int .i64 q ∧ q ≤ nL ∧ Hid (Kt w wr g ⟨ps, pp, pb, x0, x1, y0, y1, n⟩ ⟨rq, rs, rl, ru⟩ ⟨sq, ss, sl, su⟩ m aL nL aX nX) ∧ Hid (∀ y x, y < q → (kli m)[y]? = some x → (kda m x).1 ≠ ⟨rq, rs, rl, ru⟩ ∧ (kda m x).1 ≠ ⟨sq, ss, sl, su⟩)) (fun vi _ => nL - (intOf vi).toNat)
  case atStart => exact ⟨0, rfl, Nat.zero_le _, K1, fun y x h => absurd h (Nat.not_lt_zero _)⟩
  case round =>
    clear K1
    obtain ⟨q, rfl, hq, HK, HN⟩ := hrel
    by_cases hq2 : q = nL
    · exfalso
      subst hq2
      obtain ⟨x, hx, hxx⟩ := HEX.out
      obtain ⟨y, hy⟩ := List.getElem?_of_mem hx
      have hl := HK.out.ls.nL
      have hlt : y < (kli m).length := (List.getElem?_eq_some_iff.1 hy).1
      have := HN.out y x (by omega) hy
      exact hxx.elim this.1 this.2
    · have hq3 : q < nL := by omega
      have hqi : (q : Int) < nL := by omega
      clear hq hq2
      obtain ⟨x, hxx⟩ : ∃ x, (kli m)[q]? = some x := by
        have e := HK.out.ls.nL
        exact ⟨_, List.getElem?_eq_getElem (by omega)⟩
      have hx : Hid ((kli m)[q]? = some x) := hxx
      obtain ⟨bL, oL, haL, -, -, -, -⟩ := HK.out.ls.rs q x hxx
      subst haL
      clear hxx
      have hok := HOK.out x
      generalize hD : kda m x = D at *
      obtain ⟨⟨kq, ks, kl, ku⟩, ke⟩ := D
      have HD : Hid _ := hD
      clear hD hok
      by_cases q1 : kq = rq ∧ ks = rs ∧ kl = rl ∧ ku = ru
      · have EQ1 : Hid _ := q1
        clear q1
        go_wp2_with fail
        have hS7 := HK.out.kept (Pa.drewG _)
        refine wp_region_held_drew (S := fun w' => Kt w w' g ⟨ps, pp, pb, x0, x1, y0, y1, n⟩ ⟨rq, rs, rl, ru⟩ ⟨sq, ss, sl, su⟩ m (some ⟨bL, oL, none⟩) nL aX nX) (by kernel_rfl) hS7 (fun hH => ?_)
        clear hS7 HK
        refine wpAnyH_take (i := 0) (oi := ⟨some 29, _, _, _, _, _⟩) (v := .slice (some ⟨bL, oL, none⟩) nL cL) rfl (by kernel_rfl) (by kernel_rfl) (by kernel_rfl) (fun _ _ _ h => h) (Or.inl ⟨by rfl, fun w hSw => by go_simp⟩) hH ?_
        simp only [Act.put, List.setIfInBounds_toArray, List.set_cons_zero, List.set_cons_succ]
        refine wpAnyH_take (i := 1) (oi := ⟨some 30, _, _, _, _, _⟩) (v := .int .i64 q) rfl (by kernel_rfl) (by kernel_rfl) (by kernel_rfl) (fun _ _ _ h => h) (Or.inl ⟨by rfl, fun w hSw => by go_simp⟩) hH ?_
        simp only [Act.put, List.setIfInBounds_toArray, List.set_cons_zero, List.set_cons_succ]
        refine wpAnyH_take (i := 2) (oi := ⟨some 31, _, _, _, _, _⟩) (v := .pointer (some ⟨bL, oL + q * 4, none⟩)) rfl (by kernel_rfl) (by kernel_rfl) (by kernel_rfl) (fun _ _ _ h => h) (Or.inl ⟨by rfl, fun w hSw => by go_simp⟩) hH ?_
        simp only [Act.put, List.setIfInBounds_toArray, List.set_cons_zero, List.set_cons_succ]
        refine wpAnyH_take (i := 3) (oi := ⟨some 32, _, _, _, _, _⟩) (v := .agg #[.int .u64 kq, .int .i64 ks, .int .i64 kl, .int .u64 ku]) rfl (by kernel_rfl) (by kernel_rfl) (by kernel_rfl) (fun _ _ _ h => h) (Or.inl ⟨by rfl, fun w hSw => by obtain ⟨bX, oX, haX, l0, l1, l2, l3⟩ := hSw.ls.rs q x hx.out; cases haX; rw [HD.out] at l0 l1 l2 l3; rw [Nat.mul_comm] at l0 l1 l2 l3; simp only at l0 l1 l2 l3; go_simp⟩) hH ?_
        simp only [Act.put, List.setIfInBounds_toArray, List.set_cons_zero, List.set_cons_succ]
        refine wpAnyH_take (i := 4) (oi := ⟨some 33, _, _, _, _, _⟩) (v := .agg #[.int .u64 rq, .int .i64 rs, .int .i64 rl, .int .u64 ru]) rfl (by kernel_rfl) (by kernel_rfl) (by kernel_rfl) (fun _ _ _ h => h) (Or.inl ⟨by rfl, fun w hSw => by obtain ⟨r0, r1, r2, r3⟩ := rec4 hSw.r; go_simp⟩) hH ?_
        simp only [Act.put, List.setIfInBounds_toArray, List.set_cons_zero, List.set_cons_succ]
        refine wpAnyH_take (i := 5) (oi := ⟨some 34, _, _, _, _, _⟩) (v := .bool true) rfl (by kernel_rfl) (by kernel_rfl) (by kernel_rfl) (fun _ _ _ h => h) (Or.inl ⟨by rfl, fun w hSw => by (go_simp; try (first | (intro h1 h2 h3 h4; exact EQ1.out ⟨h1, h2, h3, h4⟩) | (have e4 := EQ1.out; simp [e4.1, e4.2.1, e4.2.2.1, e4.2.2.2])))⟩) hH ?_
        simp only [Act.put, List.setIfInBounds_toArray, List.set_cons_zero, List.set_cons_succ]
        refine wpAnyH_take (i := 6) (oi := ⟨some 35, _, _, _, _, _⟩) (v := .bool true) rfl (by kernel_rfl) (by kernel_rfl) (by kernel_rfl) (fun _ _ _ h => h) (Or.inl ⟨by rfl, fun w hSw => by go_simp⟩) hH ?_
        simp only [Act.put, List.setIfInBounds_toArray, List.set_cons_zero, List.set_cons_succ]
        refine wpAnyH_take (i := 7) (oi := ⟨some 36, _, _, _, _, _⟩) (v := undef) rfl (by kernel_rfl) (by kernel_rfl) (by kernel_rfl) (fun _ _ _ h => h) (Or.inr ⟨by rfl, rfl⟩) hH ?_
        simp only [Act.put, List.setIfInBounds_toArray, List.set_cons_zero, List.set_cons_succ]
        refine wpAnyH_take (i := 8) (oi := ⟨some 37, _, _, _, _, _⟩) (v := undef) rfl (by kernel_rfl) (by kernel_rfl) (by kernel_rfl) (fun _ _ _ h => h) (Or.inr ⟨by rfl, rfl⟩) hH ?_
        simp only [Act.put, List.setIfInBounds_toArray, List.set_cons_zero, List.set_cons_succ]
        refine wpAnyH_take (i := 9) (oi := ⟨some 38, _, _, _, _, _⟩) (v := undef) rfl (by kernel_rfl) (by kernel_rfl) (by kernel_rfl) (fun _ _ _ h => h) (Or.inr ⟨by rfl, rfl⟩) hH ?_
        simp only [Act.put, List.setIfInBounds_toArray, List.set_cons_zero, List.set_cons_succ]
        refine wpAnyH_take (i := 10) (oi := ⟨some 39, _, _, _, _, _⟩) (v := undef) rfl (by kernel_rfl) (by kernel_rfl) (by kernel_rfl) (fun _ _ _ h => h) (Or.inr ⟨by rfl, rfl⟩) hH ?_
        simp only [Act.put, List.setIfInBounds_toArray, List.set_cons_zero, List.set_cons_succ]
        refine wpAnyH_take (i := 11) (oi := ⟨some 40, _, _, _, _, _⟩) (v := undef) rfl (by kernel_rfl) (by kernel_rfl) (by kernel_rfl) (fun _ _ _ h => h) (Or.inr ⟨by rfl, rfl⟩) hH ?_
        simp only [Act.put, List.setIfInBounds_toArray, List.set_cons_zero, List.set_cons_succ]
        refine wpAnyH_take (i := 12) (oi := ⟨some 41, _, _, _, _, _⟩) (v := undef) rfl (by kernel_rfl) (by kernel_rfl) (by kernel_rfl) (fun _ _ _ h => h) (Or.inr ⟨by rfl, rfl⟩) hH ?_
        simp only [Act.put, List.setIfInBounds_toArray, List.set_cons_zero, List.set_cons_succ]
        refine wpAnyH_take (i := 13) (oi := ⟨some 42, _, _, _, _, _⟩) (v := .bool true) rfl (by kernel_rfl) (by kernel_rfl) (by kernel_rfl) (fun _ _ _ h => h) (Or.inl ⟨by rfl, fun w hSw => by go_simp⟩) hH ?_
        simp only [Act.put, List.setIfInBounds_toArray, List.set_cons_zero, List.set_cons_succ]
        refine wpAnyH_done (by kernel_rfl) ?_ _
        have HG : Hid _ := hH.gr
        clear hH
        go_wp2
        go_ret
        exact ⟨rfl, HG.out⟩
      · have EQ1 : Hid _ := q1
        clear q1
        by_cases q2 : kq = sq ∧ ks = ss ∧ kl = sl ∧ ku = su
        · have EQ2 : Hid _ := q2
          clear q2
          go_wp2_with fail
          have hS7 := HK.out.kept (Pa.drewG _)
          refine wp_region_held_drew (S := fun w' => Kt w w' g ⟨ps, pp, pb, x0, x1, y0, y1, n⟩ ⟨rq, rs, rl, ru⟩ ⟨sq, ss, sl, su⟩ m (some ⟨bL, oL, none⟩) nL aX nX) (by kernel_rfl) hS7 (fun hH => ?_)
          clear hS7 HK
          refine wpAnyH_take (i := 0) (oi := ⟨some 29, _, _, _, _, _⟩) (v := .slice (some ⟨bL, oL, none⟩) nL cL) rfl (by kernel_rfl) (by kernel_rfl) (by kernel_rfl) (fun _ _ _ h => h) (Or.inl ⟨by rfl, fun w hSw => by go_simp⟩) hH ?_
          simp only [Act.put, List.setIfInBounds_toArray, List.set_cons_zero, List.set_cons_succ]
          refine wpAnyH_take (i := 1) (oi := ⟨some 30, _, _, _, _, _⟩) (v := .int .i64 q) rfl (by kernel_rfl) (by kernel_rfl) (by kernel_rfl) (fun _ _ _ h => h) (Or.inl ⟨by rfl, fun w hSw => by go_simp⟩) hH ?_
          simp only [Act.put, List.setIfInBounds_toArray, List.set_cons_zero, List.set_cons_succ]
          refine wpAnyH_take (i := 2) (oi := ⟨some 31, _, _, _, _, _⟩) (v := .pointer (some ⟨bL, oL + q * 4, none⟩)) rfl (by kernel_rfl) (by kernel_rfl) (by kernel_rfl) (fun _ _ _ h => h) (Or.inl ⟨by rfl, fun w hSw => by go_simp⟩) hH ?_
          simp only [Act.put, List.setIfInBounds_toArray, List.set_cons_zero, List.set_cons_succ]
          refine wpAnyH_take (i := 3) (oi := ⟨some 32, _, _, _, _, _⟩) (v := .agg #[.int .u64 kq, .int .i64 ks, .int .i64 kl, .int .u64 ku]) rfl (by kernel_rfl) (by kernel_rfl) (by kernel_rfl) (fun _ _ _ h => h) (Or.inl ⟨by rfl, fun w hSw => by obtain ⟨bX, oX, haX, l0, l1, l2, l3⟩ := hSw.ls.rs q x hx.out; cases haX; rw [HD.out] at l0 l1 l2 l3; rw [Nat.mul_comm] at l0 l1 l2 l3; simp only at l0 l1 l2 l3; go_simp⟩) hH ?_
          simp only [Act.put, List.setIfInBounds_toArray, List.set_cons_zero, List.set_cons_succ]
          refine wpAnyH_take (i := 4) (oi := ⟨some 33, _, _, _, _, _⟩) (v := .agg #[.int .u64 rq, .int .i64 rs, .int .i64 rl, .int .u64 ru]) rfl (by kernel_rfl) (by kernel_rfl) (by kernel_rfl) (fun _ _ _ h => h) (Or.inl ⟨by rfl, fun w hSw => by obtain ⟨r0, r1, r2, r3⟩ := rec4 hSw.r; go_simp⟩) hH ?_
          simp only [Act.put, List.setIfInBounds_toArray, List.set_cons_zero, List.set_cons_succ]
          refine wpAnyH_take (i := 5) (oi := ⟨some 34, _, _, _, _, _⟩) (v := .bool false) rfl (by kernel_rfl) (by kernel_rfl) (by kernel_rfl) (fun _ _ _ h => h) (Or.inl ⟨by rfl, fun w hSw => by (go_simp; try (first | (intro h1 h2 h3 h4; exact EQ1.out ⟨h1, h2, h3, h4⟩) | (have e4 := EQ1.out; simp [e4.1, e4.2.1, e4.2.2.1, e4.2.2.2])))⟩) hH ?_
          simp only [Act.put, List.setIfInBounds_toArray, List.set_cons_zero, List.set_cons_succ]
          refine wpAnyH_take (i := 6) (oi := ⟨some 35, _, _, _, _, _⟩) (v := .bool false) rfl (by kernel_rfl) (by kernel_rfl) (by kernel_rfl) (fun _ _ _ h => h) (Or.inl ⟨by rfl, fun w hSw => by go_simp⟩) hH ?_
          simp only [Act.put, List.setIfInBounds_toArray, List.set_cons_zero, List.set_cons_succ]
          refine wpAnyH_take (i := 7) (oi := ⟨some 36, _, _, _, _, _⟩) (v := .slice (some ⟨bL, oL, none⟩) nL cL) rfl (by kernel_rfl) (by kernel_rfl) (by kernel_rfl) (fun _ _ _ h => h) (Or.inl ⟨by rfl, fun w hSw => by go_simp⟩) hH ?_
          simp only [Act.put, List.setIfInBounds_toArray, List.set_cons_zero, List.set_cons_succ]
          refine wpAnyH_take (i := 8) (oi := ⟨some 37, _, _, _, _, _⟩) (v := .int .i64 q) rfl (by kernel_rfl) (by kernel_rfl) (by kernel_rfl) (fun _ _ _ h => h) (Or.inl ⟨by rfl, fun w hSw => by go_simp⟩) hH ?_
          simp only [Act.put, List.setIfInBounds_toArray, List.set_cons_zero, List.set_cons_succ]
          refine wpAnyH_take (i := 9) (oi := ⟨some 38, _, _, _, _, _⟩) (v := .pointer (some ⟨bL, oL + q * 4, none⟩)) rfl (by kernel_rfl) (by kernel_rfl) (by kernel_rfl) (fun _ _ _ h => h) (Or.inl ⟨by rfl, fun w hSw => by go_simp⟩) hH ?_
          simp only [Act.put, List.setIfInBounds_toArray, List.set_cons_zero, List.set_cons_succ]
          refine wpAnyH_take (i := 10) (oi := ⟨some 39, _, _, _, _, _⟩) (v := .agg #[.int .u64 kq, .int .i64 ks, .int .i64 kl, .int .u64 ku]) rfl (by kernel_rfl) (by kernel_rfl) (by kernel_rfl) (fun _ _ _ h => h) (Or.inl ⟨by rfl, fun w hSw => by obtain ⟨bX, oX, haX, l0, l1, l2, l3⟩ := hSw.ls.rs q x hx.out; cases haX; rw [HD.out] at l0 l1 l2 l3; rw [Nat.mul_comm] at l0 l1 l2 l3; simp only at l0 l1 l2 l3; go_simp⟩) hH ?_
          simp only [Act.put, List.setIfInBounds_toArray, List.set_cons_zero, List.set_cons_succ]
          refine wpAnyH_take (i := 11) (oi := ⟨some 40, _, _, _, _, _⟩) (v := .agg #[.int .u64 sq, .int .i64 ss, .int .i64 sl, .int .u64 su]) rfl (by kernel_rfl) (by kernel_rfl) (by kernel_rfl) (fun _ _ _ h => h) (Or.inl ⟨by rfl, fun w hSw => by obtain ⟨r0, r1, r2, r3⟩ := rec4 hSw.s; go_simp⟩) hH ?_
          simp only [Act.put, List.setIfInBounds_toArray, List.set_cons_zero, List.set_cons_succ]
          refine wpAnyH_take (i := 12) (oi := ⟨some 41, _, _, _, _, _⟩) (v := .bool true) rfl (by kernel_rfl) (by kernel_rfl) (by kernel_rfl) (fun _ _ _ h => h) (Or.inl ⟨by rfl, fun w hSw => by (go_simp; try (first | (intro h1 h2 h3 h4; exact EQ2.out ⟨h1, h2, h3, h4⟩) | (have e4 := EQ2.out; simp [e4.1, e4.2.1, e4.2.2.1, e4.2.2.2])))⟩) hH ?_
          simp only [Act.put, List.setIfInBounds_toArray, List.set_cons_zero, List.set_cons_succ]
          refine wpAnyH_take (i := 13) (oi := ⟨some 42, _, _, _, _, _⟩) (v := .bool true) rfl (by kernel_rfl) (by kernel_rfl) (by kernel_rfl) (fun _ _ _ h => h) (Or.inl ⟨by rfl, fun w hSw => by go_simp⟩) hH ?_
          simp only [Act.put, List.setIfInBounds_toArray, List.set_cons_zero, List.set_cons_succ]
          refine wpAnyH_done (by kernel_rfl) ?_ _
          have HG : Hid _ := hH.gr
          clear hH
          go_wp2
          go_ret
          exact ⟨rfl, HG.out⟩
        · have EQ2 : Hid _ := q2
          clear q2
          go_wp2_with fail
          have hS7 := HK.out.kept (Pa.drewG _)
          refine wp_region_held_drew (S := fun w' => Kt w w' g ⟨ps, pp, pb, x0, x1, y0, y1, n⟩ ⟨rq, rs, rl, ru⟩ ⟨sq, ss, sl, su⟩ m (some ⟨bL, oL, none⟩) nL aX nX) (by kernel_rfl) hS7 (fun hH => ?_)
          clear hS7 HK
          refine wpAnyH_take (i := 0) (oi := ⟨some 29, _, _, _, _, _⟩) (v := .slice (some ⟨bL, oL, none⟩) nL cL) rfl (by kernel_rfl) (by kernel_rfl) (by kernel_rfl) (fun _ _ _ h => h) (Or.inl ⟨by rfl, fun w hSw => by go_simp⟩) hH ?_
          simp only [Act.put, List.setIfInBounds_toArray, List.set_cons_zero, List.set_cons_succ]
          refine wpAnyH_take (i := 1) (oi := ⟨some 30, _, _, _, _, _⟩) (v := .int .i64 q) rfl (by kernel_rfl) (by kernel_rfl) (by kernel_rfl) (fun _ _ _ h => h) (Or.inl ⟨by rfl, fun w hSw => by go_simp⟩) hH ?_
          simp only [Act.put, List.setIfInBounds_toArray, List.set_cons_zero, List.set_cons_succ]
          refine wpAnyH_take (i := 2) (oi := ⟨some 31, _, _, _, _, _⟩) (v := .pointer (some ⟨bL, oL + q * 4, none⟩)) rfl (by kernel_rfl) (by kernel_rfl) (by kernel_rfl) (fun _ _ _ h => h) (Or.inl ⟨by rfl, fun w hSw => by go_simp⟩) hH ?_
          simp only [Act.put, List.setIfInBounds_toArray, List.set_cons_zero, List.set_cons_succ]
          refine wpAnyH_take (i := 3) (oi := ⟨some 32, _, _, _, _, _⟩) (v := .agg #[.int .u64 kq, .int .i64 ks, .int .i64 kl, .int .u64 ku]) rfl (by kernel_rfl) (by kernel_rfl) (by kernel_rfl) (fun _ _ _ h => h) (Or.inl ⟨by rfl, fun w hSw => by obtain ⟨bX, oX, haX, l0, l1, l2, l3⟩ := hSw.ls.rs q x hx.out; cases haX; rw [HD.out] at l0 l1 l2 l3; rw [Nat.mul_comm] at l0 l1 l2 l3; simp only at l0 l1 l2 l3; go_simp⟩) hH ?_
          simp only [Act.put, List.setIfInBounds_toArray, List.set_cons_zero, List.set_cons_succ]
          refine wpAnyH_take (i := 4) (oi := ⟨some 33, _, _, _, _, _⟩) (v := .agg #[.int .u64 rq, .int .i64 rs, .int .i64 rl, .int .u64 ru]) rfl (by kernel_rfl) (by kernel_rfl) (by kernel_rfl) (fun _ _ _ h => h) (Or.inl ⟨by rfl, fun w hSw => by obtain ⟨r0, r1, r2, r3⟩ := rec4 hSw.r; go_simp⟩) hH ?_
          simp only [Act.put, List.setIfInBounds_toArray, List.set_cons_zero, List.set_cons_succ]
          refine wpAnyH_take (i := 5) (oi := ⟨some 34, _, _, _, _, _⟩) (v := .bool false) rfl (by kernel_rfl) (by kernel_rfl) (by kernel_rfl) (fun _ _ _ h => h) (Or.inl ⟨by rfl, fun w hSw => by (go_simp; try (first | (intro h1 h2 h3 h4; exact EQ1.out ⟨h1, h2, h3, h4⟩) | (have e4 := EQ1.out; simp [e4.1, e4.2.1, e4.2.2.1, e4.2.2.2])))⟩) hH ?_
          simp only [Act.put, List.setIfInBounds_toArray, List.set_cons_zero, List.set_cons_succ]
          refine wpAnyH_take (i := 6) (oi := ⟨some 35, _, _, _, _, _⟩) (v := .bool false) rfl (by kernel_rfl) (by kernel_rfl) (by kernel_rfl) (fun _ _ _ h => h) (Or.inl ⟨by rfl, fun w hSw => by go_simp⟩) hH ?_
          simp only [Act.put, List.setIfInBounds_toArray, List.set_cons_zero, List.set_cons_succ]
          refine wpAnyH_take (i := 7) (oi := ⟨some 36, _, _, _, _, _⟩) (v := .slice (some ⟨bL, oL, none⟩) nL cL) rfl (by kernel_rfl) (by kernel_rfl) (by kernel_rfl) (fun _ _ _ h => h) (Or.inl ⟨by rfl, fun w hSw => by go_simp⟩) hH ?_
          simp only [Act.put, List.setIfInBounds_toArray, List.set_cons_zero, List.set_cons_succ]
          refine wpAnyH_take (i := 8) (oi := ⟨some 37, _, _, _, _, _⟩) (v := .int .i64 q) rfl (by kernel_rfl) (by kernel_rfl) (by kernel_rfl) (fun _ _ _ h => h) (Or.inl ⟨by rfl, fun w hSw => by go_simp⟩) hH ?_
          simp only [Act.put, List.setIfInBounds_toArray, List.set_cons_zero, List.set_cons_succ]
          refine wpAnyH_take (i := 9) (oi := ⟨some 38, _, _, _, _, _⟩) (v := .pointer (some ⟨bL, oL + q * 4, none⟩)) rfl (by kernel_rfl) (by kernel_rfl) (by kernel_rfl) (fun _ _ _ h => h) (Or.inl ⟨by rfl, fun w hSw => by go_simp⟩) hH ?_
          simp only [Act.put, List.setIfInBounds_toArray, List.set_cons_zero, List.set_cons_succ]
          refine wpAnyH_take (i := 10) (oi := ⟨some 39, _, _, _, _, _⟩) (v := .agg #[.int .u64 kq, .int .i64 ks, .int .i64 kl, .int .u64 ku]) rfl (by kernel_rfl) (by kernel_rfl) (by kernel_rfl) (fun _ _ _ h => h) (Or.inl ⟨by rfl, fun w hSw => by obtain ⟨bX, oX, haX, l0, l1, l2, l3⟩ := hSw.ls.rs q x hx.out; cases haX; rw [HD.out] at l0 l1 l2 l3; rw [Nat.mul_comm] at l0 l1 l2 l3; simp only at l0 l1 l2 l3; go_simp⟩) hH ?_
          simp only [Act.put, List.setIfInBounds_toArray, List.set_cons_zero, List.set_cons_succ]
          refine wpAnyH_take (i := 11) (oi := ⟨some 40, _, _, _, _, _⟩) (v := .agg #[.int .u64 sq, .int .i64 ss, .int .i64 sl, .int .u64 su]) rfl (by kernel_rfl) (by kernel_rfl) (by kernel_rfl) (fun _ _ _ h => h) (Or.inl ⟨by rfl, fun w hSw => by obtain ⟨r0, r1, r2, r3⟩ := rec4 hSw.s; go_simp⟩) hH ?_
          simp only [Act.put, List.setIfInBounds_toArray, List.set_cons_zero, List.set_cons_succ]
          refine wpAnyH_take (i := 12) (oi := ⟨some 41, _, _, _, _, _⟩) (v := .bool false) rfl (by kernel_rfl) (by kernel_rfl) (by kernel_rfl) (fun _ _ _ h => h) (Or.inl ⟨by rfl, fun w hSw => by (go_simp; try (first | (intro h1 h2 h3 h4; exact EQ2.out ⟨h1, h2, h3, h4⟩) | (have e4 := EQ2.out; simp [e4.1, e4.2.1, e4.2.2.1, e4.2.2.2])))⟩) hH ?_
          simp only [Act.put, List.setIfInBounds_toArray, List.set_cons_zero, List.set_cons_succ]
          refine wpAnyH_take (i := 13) (oi := ⟨some 42, _, _, _, _, _⟩) (v := .bool false) rfl (by kernel_rfl) (by kernel_rfl) (by kernel_rfl) (fun _ _ _ h => h) (Or.inl ⟨by rfl, fun w hSw => by go_simp⟩) hH ?_
          simp only [Act.put, List.setIfInBounds_toArray, List.set_cons_zero, List.set_cons_succ]
          refine wpAnyH_done (by kernel_rfl) ?_ _
          have HK2 : Hid _ := hH
          clear hH
          go_wp2
          go_roundw
          case rel =>
            refine ⟨q + 1, by go_num, by omega, HK2, ?_⟩
            intro y z hy hz
            by_cases hyq : y = q
            · subst hyq
              have := hx.out.symm.trans hz
              injection this with this
              subst this
              rw [HD.out]
              exact ⟨fun e => EQ1.out (by injection e with h1 h2 h3 h4; exact ⟨h1, h2, h3, h4⟩), fun e => EQ2.out (by injection e with h1 h2 h3 h4; exact ⟨h1, h2, h3, h4⟩)⟩
            · exact HN.out y z (by omega) hz
          case measure => simp [intOf]; omega
end Go.Proofs.Ytfhgbddeclldnaa
