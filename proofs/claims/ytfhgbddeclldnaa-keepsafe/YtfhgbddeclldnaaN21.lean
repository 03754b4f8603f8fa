/- The walk of KeepSafe. -/
import Derived.Test.YtfhgbddeclldnaaN09
import Derived.Test.YtfhgbddeclldnaaN20
namespace Go.Proofs.Ytfhgbddeclldnaa
open Go.RowKit
set_option maxRecDepth 100000
set_option linter.unusedSimpArgs false
set_option linter.unusedVariables false

theorem kli_mem {m : Fm} {i : Nat} {r : Rc} (hi : i < 2) (h : kda m i = (r, 0)) : i ∈ kli m := by
  unfold kli
  rw [List.mem_filter]
  refine ⟨?_, by rw [h]; rfl⟩
  have := kfi_lt m
  simp
  omega
theorem kli_ne {m : Fm} (h : kli m ≠ []) : (kda m (kfi m)).2 = 0 ∧ ∃ t, kli m = kfi m :: t := by
  have hh := kfi_head m
  cases hl : kli m with
  | nil => exact absurd hl h
  | cons x xs =>
    rw [hl] at hh
    have e : x = kfi m := by rw [← hh]; rfl
    subst e
    have hm : kfi m ∈ kli m := by rw [hl]; simp
    unfold kli at hm
    rw [List.mem_filter] at hm
    exact ⟨by simpa using hm.2, xs, rfl⟩
theorem kda_boot (m : Fm) (i : Nat) : kda m.boot i = kda m i := rfl
theorem kda_arm (m : Fm) (n : Int) (ts : List Int) (i : Nat) : kda (m.arm n ts).1 i = kda m i := by
  unfold Fm.arm
  split <;> rfl
theorem kfi_arm (m : Fm) (n : Int) (ts : List Int) : kfi (m.arm n ts).1 = kfi m := by
  unfold kfi
  rw [kda_arm, kda_arm]
theorem like_arm (m : Fm) (n : Int) (ts : List Int) : Like m (m.arm n ts).1 := by
  unfold Fm.arm
  split
  · exact ⟨rfl, rfl, rfl⟩
  · exact Like.refl m
theorem like_boot (m : Fm) : Like m m.boot := ⟨rfl, rfl, rfl⟩
theorem arm_ok {m : Fm} {n : Int} {ts : List Int} (hn : 1 ≤ n) (ho : m.off = false) : (m.arm n ts).2 = 0 ∧ (m.arm n ts).1.off = false ∧ (m.arm n ts).1.after = n := by
  have e : arE n m.off = 0 := by unfold arE; rw [if_neg (by omega), ho]; rfl
  unfold Fm.arm
  rw [if_pos e]
  exact ⟨rfl, ho, rfl⟩
theorem Bx.chg {F : Nat → Prop} {W W' : World} {g : Nat} {T : TypeId} {cs : List Value} (h : Bx W g T cs) (k : Chg F W W') (hn : ¬ F g) : Bx W' g T cs := ⟨by rw [k.block g h.lt hn]; exact h.blk⟩
theorem kok_new {gs gp gy : Nat} (h : (Pa.mk gs gp gy).2 = 0) : kok (Fm.new gs gp gy) (Pa.mk gs gp gy).1 = true := by
  obtain ⟨h1, h2, h3⟩ := Pa.mk_geo h
  unfold kok
  rw [(Pa.mk_ok _ _ _).2.2.2 h, h1, h2, h3]
  simp [Fm.new]
theorem mk_chk {s p b : Int} (h : (Pa.mk s p b).2 = 0) : chk s p b = 0 := by
  unfold Pa.mk at h
  by_cases k : Pa.chk s p b ≠ 0
  · rw [if_pos k] at h
    exact absurd h k
  · exact Decidable.not_not.1 k
theorem Fs.nf {w W : World} {fb bb db wb : Nat} {m : Fm} {G : Nat → Prop} (h : Fs w W fb bb db wb m G) {b : Nat} (hb : b < w.heap.size) : ¬ foot fb bb db wb b := fun x => by have := h.ft b x; omega
/-- bytes that came in, behind a call -/
theorem Row.in_ {w W : World} {a : Option Addr} {l : Nat} {ts : List Int} (h : Row w a l ts) (g : w.grownBy W none) (F : Nat → Prop) (hF : ∀ b, b < w.heap.size → ¬ F b) : Row W a l ts ∧ (∀ b o, a = some ⟨b, o, none⟩ → 0 < l → ¬ F b) := by
  refine ⟨h.grown g, fun b o e h0 => ?_⟩
  obtain ⟨b', o', e', hc⟩ := h.cells h0
  rw [e] at e'
  injection e' with e'
  injection e' with e1 e2
  subst e1
  exact hF b (cell_lt (hc 0 h0))
/-- KeepSafe's variables -/
structure Kq (w W : World) (g : Nat) (a b c : Int) (r s : Rc) (cn : Int) (cv : Value) (dn : Int) (dv : Value) : Prop where
  ge : Bx W g 23 [.int .i64 a, .int .i64 b, .int .i64 c]
  r : Bx W (g + 1) 26 r.cells
  s : Bx W (g + 1 + 1) 26 s.cells
  c : Bx W (g + 1 + 1 + 1) 29 [.int .i64 cn, cv]
  d : Bx W (g + 1 + 1 + 1 + 1) 29 [.int .i64 dn, dv]
  gr : w.grownBy W none
theorem Kq.kept {w W W' : World} {g : Nat} {a b c : Int} {r s : Rc} {cn dn : Int} {cv dv : Value} (h : Kq w W g a b c r s cn cv dn dv) (k : W.grownBy W' none) : Kq w W' g a b c r s cn cv dn dv := ⟨h.ge.kept k, h.r.kept k, h.s.kept k, h.c.kept k, h.d.kept k, grown_trans h.gr k⟩
theorem Kq.new (w : World) (a b c : Int) (r s : Rc) (cn : Int) (cv : Value) (dn : Int) (dv : Value) : Kq w (((((w.alloc (.cells #[.int .i64 a, .int .i64 b, .int .i64 c] 23)).alloc (.cells r.cells.toArray 26)).alloc (.cells s.cells.toArray 26)).alloc (.cells #[.int .i64 cn, cv] 29)).alloc (.cells #[.int .i64 dn, dv] 29)) w.heap.size a b c r s cn cv dn dv := by
  have h1 := Bx.new w 23 [.int .i64 a, .int .i64 b, .int .i64 c]
  have h2 := Bx.new (w.alloc (.cells #[.int .i64 a, .int .i64 b, .int .i64 c] 23)) 26 r.cells
  have h3 := Bx.new ((w.alloc (.cells #[.int .i64 a, .int .i64 b, .int .i64 c] 23)).alloc (.cells r.cells.toArray 26)) 26 s.cells
  have h4 := Bx.new (((w.alloc (.cells #[.int .i64 a, .int .i64 b, .int .i64 c] 23)).alloc (.cells r.cells.toArray 26)).alloc (.cells s.cells.toArray 26)) 29 [.int .i64 cn, cv]
  have h5 := Bx.new ((((w.alloc (.cells #[.int .i64 a, .int .i64 b, .int .i64 c] 23)).alloc (.cells r.cells.toArray 26)).alloc (.cells s.cells.toArray 26)).alloc (.cells #[.int .i64 cn, cv] 29)) 29 [.int .i64 dn, dv]
  simp only [World.size_alloc] at h2 h3 h4 h5
  have a1 := World.grownBy_alloc w (.cells #[.int .i64 a, .int .i64 b, .int .i64 c] 23) none
  have a2 := World.grownBy_alloc (w.alloc (.cells #[.int .i64 a, .int .i64 b, .int .i64 c] 23)) (.cells r.cells.toArray 26) none
  have a3 := World.grownBy_alloc ((w.alloc (.cells #[.int .i64 a, .int .i64 b, .int .i64 c] 23)).alloc (.cells r.cells.toArray 26)) (.cells s.cells.toArray 26) none
  have a4 := World.grownBy_alloc (((w.alloc (.cells #[.int .i64 a, .int .i64 b, .int .i64 c] 23)).alloc (.cells r.cells.toArray 26)).alloc (.cells s.cells.toArray 26)) (.cells #[.int .i64 cn, cv] 29) none
  have a5 := World.grownBy_alloc ((((w.alloc (.cells #[.int .i64 a, .int .i64 b, .int .i64 c] 23)).alloc (.cells r.cells.toArray 26)).alloc (.cells s.cells.toArray 26)).alloc (.cells #[.int .i64 cn, cv] 29)) (.cells #[.int .i64 dn, dv] 29) none
  exact ⟨(((h1.kept a2).kept a3).kept a4).kept a5, ((h2.kept a3).kept a4).kept a5, (h3.kept a4).kept a5, h4.kept a5, h5, grown_trans (grown_trans (grown_trans (grown_trans a1 a2) a3) a4) a5⟩
/-- the last look: the flash, the variable first, both records that are told -/
structure M8 (w W : World) (fb bb db wb : Nat) (m : Fm) (G : Nat → Prop) (gf b o : Nat) (q s l u : Int) : Prop where
  f : Fs w W fb bb db wb m G
  v : Bx W gf 26 [.int .u64 q, .int .i64 s, .int .i64 l, .int .u64 u]
  nv : ¬ foot fb bb db wb gf
  nb : ¬ foot fb bb db wb b
  a0 : W.cell? ⟨b, o, none⟩ = some (.int .u64 q)
  a1 : W.cell? ⟨b, o + 1, none⟩ = some (.int .i64 s)
  a2 : W.cell? ⟨b, o + 2, none⟩ = some (.int .i64 l)
  a3 : W.cell? ⟨b, o + 3, none⟩ = some (.int .u64 u)
  b0 : W.cell? ⟨b, o + 4, none⟩ = some (.int .u64 q)
  b1 : W.cell? ⟨b, o + 5, none⟩ = some (.int .i64 s)
  b2 : W.cell? ⟨b, o + 6, none⟩ = some (.int .i64 l)
  b3 : W.cell? ⟨b, o + 7, none⟩ = some (.int .u64 u)
theorem M8.a {w W : World} {fb bb db wb : Nat} {m : Fm} {G : Nat → Prop} {gf b o : Nat} {q s l u : Int} (h : M8 w W fb bb db wb m G gf b o q s l u) : W.cell? ⟨b, o, none⟩ = some (.int .u64 q) ∧ W.cell? ⟨b, o + 1, none⟩ = some (.int .i64 s) ∧ W.cell? ⟨b, o + 2, none⟩ = some (.int .i64 l) ∧ W.cell? ⟨b, o + 3, none⟩ = some (.int .u64 u) := ⟨h.a0, h.a1, h.a2, h.a3⟩
theorem M8.b {w W : World} {fb bb db wb : Nat} {m : Fm} {G : Nat → Prop} {gf b o : Nat} {q s l u : Int} (h : M8 w W fb bb db wb m G gf b o q s l u) : W.cell? ⟨b, o + 4, none⟩ = some (.int .u64 q) ∧ W.cell? ⟨b, o + 5, none⟩ = some (.int .i64 s) ∧ W.cell? ⟨b, o + 6, none⟩ = some (.int .i64 l) ∧ W.cell? ⟨b, o + 7, none⟩ = some (.int .u64 u) := ⟨h.b0, h.b1, h.b2, h.b3⟩
theorem M8.chg {w W W' : World} {fb bb db wb : Nat} {m m' : Fm} {G : Nat → Prop} {gf b o : Nat} {q s l u : Int} (h : M8 w W fb bb db wb m G gf b o q s l u) (k : Chg (foot fb bb db wb) W W') (r : PRep W' fb bb db wb m' G) : M8 w W' fb bb db wb m' G gf b o q s l u := by
  have hb : W'.heap[b]? = W.heap[b]? := k.block b (cell_lt h.a0) h.nb
  exact ⟨h.f.call k r, h.v.chg k h.nv, h.nv, h.nb, (World.cell?_of_block hb).trans h.a0, (World.cell?_of_block hb).trans h.a1, (World.cell?_of_block hb).trans h.a2, (World.cell?_of_block hb).trans h.a3, (World.cell?_of_block hb).trans h.b0, (World.cell?_of_block hb).trans h.b1, (World.cell?_of_block hb).trans h.b2, (World.cell?_of_block hb).trans h.b3⟩
theorem M8.kept {w W W' : World} {fb bb db wb : Nat} {m : Fm} {G : Nat → Prop} {gf b o : Nat} {q s l u : Int} (h : M8 w W fb bb db wb m G gf b o q s l u) (k : W.grownBy W' none) : M8 w W' fb bb db wb m G gf b o q s l u := h.chg (Chg.of_none k _) (h.f.rep.grown k)
set_option maxHeartbeats 4000000 in
theorem keepSafe_walk (ga gb gc : Int) (r s : Rc) (cn dn : Int) (aC aD : Option Addr) (kC kD : Nat) (tc td : List Int) (w : World) (h1 : Pa.bnd64 ga) (h2 : Pa.bnd64 gb) (h3 : Pa.bnd64 gc) (hr : r.ok) (hs : s.ok) (hcn : in64 cn) (hdn : in64 dn) (RC : Row w aC tc.length tc) (RD : Row w aD td.length td) :
    Calls Try.prog 3 #[.agg #[.int .i64 ga, .int .i64 gb, .int .i64 gc], r.val, s.val, .agg #[.int .i64 cn, .slice aC tc.length kC], .agg #[.int .i64 dn, .slice aD td.length kD]] w fun e w' => e = .returned (.bool true) ∧ Below w.heap.size w w' := by
  have hmk := fun W => Pa.make_any ga gb gc W h1 h2 h3
  have hsm := fun W => small_any ga gb gc W h1 h2 h3
  have hbr := fun W => rright_any r W
  have hbs := fun W => rright_any s W
  have HL : Hid (∀ W : World, Calls Try.prog 8 #[] W fun e w' => e = .returned (.bool true) ∧ W.grownBy w' none) := fun W => live9_any W
  have K0 : Hid (Kq w _ w.heap.size ga gb gc r s cn (.slice aC tc.length kC) dn (.slice aD td.length kD)) := Kq.new w ga gb gc r s cn _ dn _
  have HX : Hid _ := And.intro hr (And.intro hs (And.intro RC RD))
  have hmo := Pa.mk_ok ga gb gc
  have HMK : Hid (∃ M, M = Pa.mk ga gb gc) := ⟨_, rfl⟩
  obtain ⟨M, hM⟩ := HMK.out
  rw [← hM] at hmk hmo
  have HM : Hid _ := And.intro hM (And.intro hmo (And.intro hcn hdn))
  clear hM HMK hmo hr hs RC RD h1 h2 h3
  unfold in64 at hcn hdn
  obtain ⟨⟨s0, p0, b0, x0, x1, y0, y1, n⟩, me⟩ := M
  generalize hlc : tc.length = lc at *
  generalize hld : td.length = ld at *
  have HLEN : Hid _ := And.intro hlc hld
  clear hlc hld
  generalize hrr : rrt r = rr at *
  generalize hss : rrt s = sr at *
  have HRR : Hid _ := And.intro hrr hss
  clear hrr hss
  obtain ⟨rq, rs, rl, ru⟩ := r
  obtain ⟨sq, ss, sl, su⟩ := s
  simp only [Pa.Pl.val, Rc.val, Rc.cells] at hmk hbr hbs K0 ⊢
  go_enter Try.func3, Try.ntmps3
  go_wp2_with fail
  refine (hmk _).mono ?_
  rintro e w1 ⟨rfl, g1⟩
  have hp1 := Bx.new w1 32 (Pa.Pl.cells ⟨s0, p0, b0, x0, x1, y0, y1, n⟩)
  have ha1 := World.grownBy_alloc w1 (.cells (Pa.Pl.cells ⟨s0, p0, b0, x0, x1, y0, y1, n⟩).toArray 32) none
  have K1 : Hid _ := And.intro ((K0.out.kept g1).kept ha1) hp1
  clear K0 g1 hmk hp1 ha1
  simp only [Pa.Pl.cells] at K1 ⊢
  generalize w.heap.size = g at *
  obtain ⟨q0, q1, q2⟩ := geo3 (K1.out.1).ge
  obtain ⟨r0, r1, r2, r3⟩ := rec4 (K1.out.1).r
  obtain ⟨t0, t1, t2, t3⟩ := rec4 (K1.out.1).s
  obtain ⟨u0, u1⟩ := bx2 (K1.out.1).c
  obtain ⟨v0, v1⟩ := bx2 (K1.out.1).d
  obtain ⟨d0, d1, d2, d3, d4, d5, d6, d7⟩ := plan8 (K1.out.2)
  try simp only
  go_wp2_with (first | (go_at_call 10; with_reducible refine (num9_any _ _).mono ?_; rintro e w' ⟨rfl, rfl⟩))
  generalize w1.alloc (.cells #[.int .i64 s0, .int .i64 p0, .int .i64 b0, .int .i64 x0, .int .i64 x1, .int .i64 y0, .int .i64 y1, .int .i64 n] 32) = W1 at *
  generalize w1.heap.size = gq at *
  refine (hsm _).mono ?_
  rintro e w2 ⟨rfl, gg⟩
  have K2 : Hid _ := And.intro (K1.out.1.kept gg) (K1.out.2.kept gg)
  clear gg K1 hsm q0 q1 q2 r0 r1 r2 r3 t0 t1 t2 t3 u0 u1 v0 v1 d0 d1 d2 d3 d4 d5 d6 d7
  obtain ⟨q0, q1, q2⟩ := geo3 (K2.out.1).ge
  obtain ⟨r0, r1, r2, r3⟩ := rec4 (K2.out.1).r
  obtain ⟨t0, t1, t2, t3⟩ := rec4 (K2.out.1).s
  obtain ⟨u0, u1⟩ := bx2 (K2.out.1).c
  obtain ⟨v0, v1⟩ := bx2 (K2.out.1).d
  obtain ⟨d0, d1, d2, d3, d4, d5, d6, d7⟩ := plan8 (K2.out.2)
  try simp only
  cases hs0 : sml ga gb gc with
  | false =>
    go_wp2_with (first | (go_at_call 10; with_reducible refine (num9_any _ _).mono ?_; rintro e w' ⟨rfl, rfl⟩) | (go_at_call 8; refine (HL.out _).mono ?_; rintro e wl ⟨rfl, gl⟩; have HF : Hid _ := grown_trans K2.out.1.gr gl; clear gl))
    go_ret
    exact ⟨rfl, grown_below HF.out⟩
  | true =>
    have HS0 : Hid _ := hs0
    clear hs0
    by_cases hme : me = 0
    · subst hme
      go_wp2_with (first | (go_at_call 10; with_reducible refine (num9_any _ _).mono ?_; rintro e w' ⟨rfl, rfl⟩))
      refine (hbr _).mono ?_
      rintro e w3 ⟨rfl, gg⟩
      have K3 : Hid _ := And.intro (K2.out.1.kept gg) (K2.out.2.kept gg)
      clear gg K2 hbr q0 q1 q2 r0 r1 r2 r3 t0 t1 t2 t3 u0 u1 v0 v1 d0 d1 d2 d3 d4 d5 d6 d7
      obtain ⟨q0, q1, q2⟩ := geo3 (K3.out.1).ge
      obtain ⟨r0, r1, r2, r3⟩ := rec4 (K3.out.1).r
      obtain ⟨t0, t1, t2, t3⟩ := rec4 (K3.out.1).s
      obtain ⟨u0, u1⟩ := bx2 (K3.out.1).c
      obtain ⟨v0, v1⟩ := bx2 (K3.out.1).d
      obtain ⟨d0, d1, d2, d3, d4, d5, d6, d7⟩ := plan8 (K3.out.2)
      try simp only
      cases rr
      · go_wp2_with (first | (go_at_call 10; with_reducible refine (num9_any _ _).mono ?_; rintro e w' ⟨rfl, rfl⟩) | (go_at_call 8; refine (HL.out _).mono ?_; rintro e wl ⟨rfl, gl⟩; have HF : Hid _ := grown_trans K3.out.1.gr gl; clear gl))
        go_ret
        exact ⟨rfl, grown_below HF.out⟩
      · skip
        go_wp2_with (first | (go_at_call 10; with_reducible refine (num9_any _ _).mono ?_; rintro e w' ⟨rfl, rfl⟩))
        refine (hbs _).mono ?_
        rintro e w4 ⟨rfl, gg⟩
        have K4 : Hid _ := And.intro (K3.out.1.kept gg) (K3.out.2.kept gg)
        clear gg K3 hbs q0 q1 q2 r0 r1 r2 r3 t0 t1 t2 t3 u0 u1 v0 v1 d0 d1 d2 d3 d4 d5 d6 d7
        obtain ⟨q0, q1, q2⟩ := geo3 (K4.out.1).ge
        obtain ⟨r0, r1, r2, r3⟩ := rec4 (K4.out.1).r
        obtain ⟨t0, t1, t2, t3⟩ := rec4 (K4.out.1).s
        obtain ⟨u0, u1⟩ := bx2 (K4.out.1).c
        obtain ⟨v0, v1⟩ := bx2 (K4.out.1).d
        obtain ⟨d0, d1, d2, d3, d4, d5, d6, d7⟩ := plan8 (K4.out.2)
        try simp only
        cases sr
        · go_wp2_with (first | (go_at_call 10; with_reducible refine (num9_any _ _).mono ?_; rintro e w' ⟨rfl, rfl⟩) | (go_at_call 8; refine (HL.out _).mono ?_; rintro e wl ⟨rfl, gl⟩; have HF : Hid _ := grown_trans K4.out.1.gr gl; clear gl))
          go_ret
          exact ⟨rfl, grown_below HF.out⟩
        · skip
          by_cases hc1 : cn < 1
          · go_wp2_with (first | (go_at_call 10; with_reducible refine (num9_any _ _).mono ?_; rintro e w' ⟨rfl, rfl⟩) | (go_at_call 8; refine (HL.out _).mono ?_; rintro e wl ⟨rfl, gl⟩; have HF : Hid _ := grown_trans K4.out.1.gr gl; clear gl))
            go_ret
            exact ⟨rfl, grown_below HF.out⟩
          · by_cases hd1 : dn < 1
            · go_wp2_with (first | (go_at_call 10; with_reducible refine (num9_any _ _).mono ?_; rintro e w' ⟨rfl, rfl⟩) | (go_at_call 8; refine (HL.out _).mono ?_; rintro e wl ⟨rfl, gl⟩; have HF : Hid _ := grown_trans K4.out.1.gr gl; clear gl))
              go_ret
              exact ⟨rfl, grown_below HF.out⟩
            · skip
              have hmc : chk ga gb gc = 0 := mk_chk (by rw [← HM.out.1])
              obtain ⟨gs, gp, gy, rfl, rfl, rfl, k1, k2, k3⟩ := sml_geo HS0.out hmc
              have hko : kok (Fm.new gs gp gy) ⟨s0, p0, b0, x0, x1, y0, y1, n⟩ = true := by
                have h := kok_new (gs := gs) (gp := gp) (gy := gy) (by rw [← HM.out.1])
                rw [← HM.out.1] at h
                exact h
              have hP : Pa.Pl.ok ⟨s0, p0, b0, x0, x1, y0, y1, n⟩ := HM.out.2.1.1
              have hrr := HRR.out.1
              have hss := HRR.out.2
              have hgd : (Fm.new gs gp gy).Good 0 := Fm.good_new k1 k2 (by omega)
              have hnw := fun W => prep_new gs gp gy W (fun _ => False) k1 k2 k3
              obtain ⟨A1, A2, A3, A4, A5, A6⟩ := krn_calm (all := true) hgd hko hrr HX.out.1.1.1 HX.out.1.2.2.2 rfl rfl
              have c1 := fun W fb bb db wb (h : PRep W fb bb db wb (Fm.new gs gp gy) (fun _ => False)) => pswitch_any h hgd (by decide) ⟨s0, p0, b0, x0, x1, y0, y1, n⟩ hP ⟨rq, rs, rl, ru⟩ HX.out.1
              unfold PkPost at c1
              rw [A1] at c1
              have hk1 : kok (krn (Fm.new gs gp gy) ⟨s0, p0, b0, x0, x1, y0, y1, n⟩ ⟨rq, rs, rl, ru⟩ true).1 ⟨s0, p0, b0, x0, x1, y0, y1, n⟩ = true := by rw [A2.kok]; exact hko
              clear A1 A2 hgd hko hmc k1 k2 k3 HS0
              generalize (krn (Fm.new gs gp gy) ⟨s0, p0, b0, x0, x1, y0, y1, n⟩ ⟨rq, rs, rl, ru⟩ true).1 = m1 at *
              generalize Fm.new gs gp gy = m0 at *
              obtain ⟨B1, B2, B3⟩ := arm_ok (m := m1) (n := cn) (ts := tc) (by omega) A4
              have B4 := Fm.good_arm A3 cn tc hcn.2
              have hk2 : kok (m1.arm cn tc).1 ⟨s0, p0, b0, x0, x1, y0, y1, n⟩ = true := by rw [(like_arm m1 cn tc).kok]; exact hk1
              have hb2 : kbo (m1.arm cn tc).1 ⟨rq, rs, rl, ru⟩ := ⟨(kda_arm m1 cn tc 0).trans A6.1, (kda_arm m1 cn tc 1).trans A6.2⟩
              have c2 := fun W fb bb db wb (h : PRep W fb bb db wb m1 (fun _ => False)) (R : Row W aC tc.length tc) hY => prep_arm h A3 (fun x hx => hx.elim) cn aC kC tc R hY
              rw [B1] at c2
              have hlc : tc.length = lc := HLEN.out.1
              rw [hlc] at c2
              clear hk1 A3 A4 A5 A6 B1 hlc
              generalize (m1.arm cn tc).1 = m2 at *
              obtain ⟨C1, C2, C3⟩ := krn_switch B4 hk2 hss HX.out.2.1.1.1 HX.out.2.1.2.2.2 B2 (by omega) hb2
              have c3 := fun W fb bb db wb (h : PRep W fb bb db wb m2 (fun _ => False)) => pswitch_any h B4 (by decide) ⟨s0, p0, b0, x0, x1, y0, y1, n⟩ hP ⟨sq, ss, sl, su⟩ HX.out.2.1
              unfold PkPost at c3
              have hk3 : kok (krn m2 ⟨s0, p0, b0, x0, x1, y0, y1, n⟩ ⟨sq, ss, sl, su⟩ true).1 ⟨s0, p0, b0, x0, x1, y0, y1, n⟩ = true := by rw [C1.kok]; exact hk2
              rw [B3] at C3
              clear C1 hk2 B2 B3 B4 hb2
              generalize krn m2 ⟨s0, p0, b0, x0, x1, y0, y1, n⟩ ⟨sq, ss, sl, su⟩ true = Q3 at *
              obtain ⟨m3, e3⟩ := Q3
              simp only at C2 C3 c3 hk3
              have hk4 : kok m3.boot ⟨s0, p0, b0, x0, x1, y0, y1, n⟩ = true := by rw [(like_boot m3).kok]; exact hk3
              have D1 := Fm.good_boot C2
              have D2 : ∃ x ∈ kli m3.boot, (kda m3.boot x).1 = ⟨rq, rs, rl, ru⟩ ∨ (kda m3.boot x).1 = ⟨sq, ss, sl, su⟩ := by
                rcases C3 with ⟨-, -, -, h⟩ | ⟨-, -, -, h | h⟩
                · exact ⟨0, kli_mem (by decide) h.1, Or.inr (by rw [kda_boot, h.1])⟩
                · exact ⟨0, kli_mem (by decide) h, Or.inl (by rw [kda_boot, h])⟩
                · exact ⟨1, kli_mem (by decide) h, Or.inr (by rw [kda_boot, h])⟩
              have c4 := fun W fb bb db wb (h : PRep W fb bb db wb m3 (fun _ => False)) => prep_boot h
              have con := fun W fb bb db wb (h : PRep W fb bb db wb m3 (fun _ => False)) => h.on
              have c5 := fun W fb bb db wb (h : PRep W fb bb db wb m3.boot (fun _ => False)) => tells_any h D1 ⟨s0, p0, b0, x0, x1, y0, y1, n⟩ hP hk4 rfl ⟨rq, rs, rl, ru⟩ ⟨sq, ss, sl, su⟩ HX.out.1 HX.out.2.1 h.byt D2
              have hlo4 : klo m3.boot ⟨s0, p0, b0, x0, x1, y0, y1, n⟩ = (kli m3.boot, 0) := by unfold klo; rw [if_neg (by rw [hk4]; simp), show m3.boot.off = false from rfl, if_neg (by simp)]
              have c6 := fun W fb bb db wb (h : PRep W fb bb db wb m3.boot (fun _ => False)) => pload_any h D1 ⟨s0, p0, b0, x0, x1, y0, y1, n⟩ hP
              unfold LdPost at c6
              rw [hlo4] at c6
              have D3 : kli m3.boot ≠ [] := by obtain ⟨x, hx, -⟩ := D2; exact List.ne_nil_of_mem hx
              have hof3 : (e3 = 0 ∧ 4 < cn ∧ m3.off = false) ∨ (e3 = 40 ∧ cn ≤ 4 ∧ m3.off = true) := by
                rcases C3 with ⟨h1, h2, h3, -⟩ | ⟨h1, h2, h3, -⟩
                · exact Or.inl ⟨h1, h2, h3⟩
                · exact Or.inr ⟨h1, h2, h3⟩
              have D4 : m3.boot.off = false := rfl
              have HP4 : Hid _ := And.intro hk4 (And.intro D1 (And.intro D3 (And.intro hP D4)))
              clear D4
              clear hk3 hk4 D1 D2 D3 C2 C3 hlo4 hP hrr hss
              generalize hm3o : m3.off = o3 at *
              clear hm3o
              simp only [Pa.Pl.val, Rc.val] at c1 c3 c5 c6
              generalize (gs : Int) = ga at *
              generalize (gp : Int) = gb at *
              generalize (gy : Int) = gc at *
              generalize m3.boot = m4 at *
              go_wp2_with (first | (go_at_call 10; with_reducible refine (num9_any _ _).mono ?_; rintro e w' ⟨rfl, rfl⟩))
              refine (hnw _).mono ?_
              rintro e w7 ⟨fb, bb, db, wb, rfl, g7, hP7, hF7⟩
              have F7 : Hid (Fs w4 w7 fb bb db wb m0 (fun _ => False)) := ⟨hP7, g7, hF7⟩
              clear g7 hP7 hF7 hnw q0 q1 q2 r0 r1 r2 r3 t0 t1 t2 t3 u0 u1 v0 v1 d0 d1 d2 d3 d4 d5 d6 d7
              have KK : Hid _ := And.intro (K4.out.1.kept F7.out.gr) (K4.out.2.kept F7.out.gr)
              obtain ⟨q0, q1, q2⟩ := geo3 (KK.out.1).ge
              obtain ⟨r0, r1, r2, r3⟩ := rec4 (KK.out.1).r
              obtain ⟨t0, t1, t2, t3⟩ := rec4 (KK.out.1).s
              obtain ⟨u0, u1⟩ := bx2 (KK.out.1).c
              obtain ⟨v0, v1⟩ := bx2 (KK.out.1).d
              obtain ⟨d0, d1, d2, d3, d4, d5, d6, d7⟩ := plan8 (KK.out.2)
              try simp only
              go_wp2_with (first | (go_at_call 10; with_reducible refine (num9_any _ _).mono ?_; rintro e w' ⟨rfl, rfl⟩))
              refine (c1 _ _ _ _ _ F7.out.rep).mono ?_
              rintro e w8 ⟨rfl, hC, hQ⟩
              have F8 : Hid _ := F7.out.call hC hQ
              clear hC hQ F7 KK c1 q0 q1 q2 r0 r1 r2 r3 t0 t1 t2 t3 u0 u1 v0 v1 d0 d1 d2 d3 d4 d5 d6 d7
              have KK : Hid _ := And.intro (K4.out.1.kept F8.out.gr) (K4.out.2.kept F8.out.gr)
              obtain ⟨q0, q1, q2⟩ := geo3 (KK.out.1).ge
              obtain ⟨r0, r1, r2, r3⟩ := rec4 (KK.out.1).r
              obtain ⟨t0, t1, t2, t3⟩ := rec4 (KK.out.1).s
              obtain ⟨u0, u1⟩ := bx2 (KK.out.1).c
              obtain ⟨v0, v1⟩ := bx2 (KK.out.1).d
              obtain ⟨d0, d1, d2, d3, d4, d5, d6, d7⟩ := plan8 (KK.out.2)
              try simp only
              go_wp2_with (first | (go_at_call 10; with_reducible refine (num9_any _ _).mono ?_; rintro e w' ⟨rfl, rfl⟩))
              have hY9 := HX.out.2.2.1.in_ (grown_trans K4.out.1.gr F8.out.gr) (foot fb bb db wb) (fun b hb => F8.out.nf (Nat.lt_of_lt_of_le hb K4.out.1.gr.size))
              refine (c2 _ _ _ _ _ F8.out.rep hY9.1 hY9.2).mono ?_
              rintro e w9 ⟨rfl, hC, hQ⟩
              have F9 : Hid _ := F8.out.call hC hQ
              clear hC hQ F8 KK c2 q0 q1 q2 r0 r1 r2 r3 t0 t1 t2 t3 u0 u1 v0 v1 d0 d1 d2 d3 d4 d5 d6 d7
              have KK : Hid _ := And.intro (K4.out.1.kept F9.out.gr) (K4.out.2.kept F9.out.gr)
              obtain ⟨q0, q1, q2⟩ := geo3 (KK.out.1).ge
              obtain ⟨r0, r1, r2, r3⟩ := rec4 (KK.out.1).r
              obtain ⟨t0, t1, t2, t3⟩ := rec4 (KK.out.1).s
              obtain ⟨u0, u1⟩ := bx2 (KK.out.1).c
              obtain ⟨v0, v1⟩ := bx2 (KK.out.1).d
              obtain ⟨d0, d1, d2, d3, d4, d5, d6, d7⟩ := plan8 (KK.out.2)
              try simp only
              go_wp2_with (first | (go_at_call 10; with_reducible refine (num9_any _ _).mono ?_; rintro e w' ⟨rfl, rfl⟩))
              refine (c3 _ _ _ _ _ F9.out.rep).mono ?_
              rintro e w10 ⟨rfl, hC, hQ⟩
              have F10 : Hid _ := F9.out.call hC hQ
              clear hC hQ F9 KK c3 q0 q1 q2 r0 r1 r2 r3 t0 t1 t2 t3 u0 u1 v0 v1 d0 d1 d2 d3 d4 d5 d6 d7
              have KK : Hid _ := And.intro (K4.out.1.kept F10.out.gr) (K4.out.2.kept F10.out.gr)
              obtain ⟨q0, q1, q2⟩ := geo3 (KK.out.1).ge
              obtain ⟨r0, r1, r2, r3⟩ := rec4 (KK.out.1).r
              obtain ⟨t0, t1, t2, t3⟩ := rec4 (KK.out.1).s
              obtain ⟨u0, u1⟩ := bx2 (KK.out.1).c
              obtain ⟨v0, v1⟩ := bx2 (KK.out.1).d
              obtain ⟨d0, d1, d2, d3, d4, d5, d6, d7⟩ := plan8 (KK.out.2)
              try simp only
              go_wp2_with (first | (go_at_call 10; with_reducible refine (num9_any _ _).mono ?_; rintro e w' ⟨rfl, rfl⟩))
              rcases hof3 with ⟨rfl, h4, rfl⟩ | ⟨rfl, h4, rfl⟩
              · skip
                have hS := F10.out.kept (Pa.drewG _)
                refine wp_region_held_drew (S := fun w' => Fs w4 w' fb bb db wb m3 (fun _ => False)) (by kernel_rfl) hS (fun hH => ?_)
                clear hS F10 KK q0 q1 q2 r0 r1 r2 r3 t0 t1 t2 t3 u0 u1 v0 v1 d0 d1 d2 d3 d4 d5 d6 d7
                refine wpAnyH_take (i := 0) (oi := ⟨some 85, _, _, _, _, _⟩) (v := .int .i64 0) rfl (by kernel_rfl) (by kernel_rfl) (by kernel_rfl) (fun _ _ _ h => h) (Or.inl ⟨by rfl, fun w hSw => by go_simp⟩) hH ?_
                simp only [Act.put, List.setIfInBounds_toArray, List.set_cons_zero, List.set_cons_succ]
                refine wpAnyH_take (i := 3) (oi := ⟨some 88, _, _, _, _, _⟩) (v := .pointer (some ⟨g + 1 + 1 + 1, 0, none⟩)) rfl (by kernel_rfl) (by kernel_rfl) (by kernel_rfl) (fun _ _ _ h => h) (Or.inl ⟨by rfl, fun w hSw => by go_simp⟩) hH ?_
                simp only [Act.put, List.setIfInBounds_toArray, List.set_cons_zero, List.set_cons_succ]
                refine wpAnyH_take (i := 4) (oi := ⟨some 89, _, _, _, _, _⟩) (v := .int .i64 cn) rfl (by kernel_rfl) (by kernel_rfl) (by kernel_rfl) (fun _ _ _ h => h) (Or.inl ⟨by rfl, fun w hSw => by obtain ⟨u0, u1⟩ := bx2 (K4.out.1.kept hSw.gr).c; go_simp⟩) hH ?_
                simp only [Act.put, List.setIfInBounds_toArray, List.set_cons_zero, List.set_cons_succ]
                refine wpAnyH_take (i := 5) (oi := ⟨some 90, _, _, _, _, _⟩) (v := .bool true) rfl (by kernel_rfl) (by kernel_rfl) (by kernel_rfl) (fun _ _ _ h => h) (Or.inl ⟨by rfl, fun w hSw => by go_simp⟩) hH ?_
                simp only [Act.put, List.setIfInBounds_toArray, List.set_cons_zero, List.set_cons_succ]
                refine wpAnyH_ready (rs := [1]) (by kernel_rfl) (by simp) ?_
                refine AllReadyH.cons rfl (fun K hK => ?_) AllReadyH.nil
                go_simp
                go_wp2_with ((go_at_call 10; with_reducible refine (num9_any _ _).mono ?_; rintro e w' ⟨rfl, rfl⟩))
                refine hK.out _ _ hH (fun _ => ?_)
                clear hK K
                refine wpAnyH_take (i := 2) (oi := ⟨some 87, _, _, _, _, _⟩) (v := .bool true) rfl (by kernel_rfl) (by kernel_rfl) (by kernel_rfl) (fun _ _ _ h => h) (Or.inl ⟨by rfl, fun w hSw => by go_simp⟩) hH ?_
                simp only [Act.put, List.setIfInBounds_toArray, List.set_cons_zero, List.set_cons_succ]
                refine wpAnyH_take (i := 6) (oi := ⟨some 91, _, _, _, _, _⟩) (v := .bool false) rfl (by kernel_rfl) (by kernel_rfl) (by kernel_rfl) (fun _ _ _ h => h) (Or.inl ⟨by rfl, fun w hSw => by go_simp⟩) hH ?_
                simp only [Act.put, List.setIfInBounds_toArray, List.set_cons_zero, List.set_cons_succ]
                refine wpAnyH_take (i := 7) (oi := ⟨some 92, _, _, _, _, _⟩) (v := .bool false) rfl (by kernel_rfl) (by kernel_rfl) (by kernel_rfl) (fun _ _ _ h => h) (Or.inl ⟨by rfl, fun w hSw => by go_simp⟩) hH ?_
                simp only [Act.put, List.setIfInBounds_toArray, List.set_cons_zero, List.set_cons_succ]
                refine wpAnyH_take (i := 8) (oi := ⟨some 93, _, _, _, _, _⟩) (v := .pointer (some ⟨fb, 0, none⟩)) rfl (by kernel_rfl) (by kernel_rfl) (by kernel_rfl) (fun _ _ _ h => h) (Or.inl ⟨by rfl, fun w hSw => by go_simp⟩) hH ?_
                simp only [Act.put, List.setIfInBounds_toArray, List.set_cons_zero, List.set_cons_succ]
                refine wpAnyH_ready (rs := [9]) (by kernel_rfl) (by simp) ?_
                refine AllReadyH.cons rfl (fun K hK => ?_) AllReadyH.nil
                go_simp
                go_wp2_with (go_at_call 13; refine (con _ _ _ _ _ hH.rep).mono ?_; rintro e w' ⟨rfl, rfl⟩)
                refine hK.out _ _ hH (fun _ => ?_)
                clear hK K
                refine wpAnyH_take (i := 10) (oi := ⟨some 95, _, _, _, _, _⟩) (v := .bool false) rfl (by kernel_rfl) (by kernel_rfl) (by kernel_rfl) (fun _ _ _ h => h) (Or.inl ⟨by rfl, fun w hSw => by go_simp⟩) hH ?_
                simp only [Act.put, List.setIfInBounds_toArray, List.set_cons_zero, List.set_cons_succ]
                refine wpAnyH_take (i := 11) (oi := ⟨some 96, _, _, _, _, _⟩) (v := .bool false) rfl (by kernel_rfl) (by kernel_rfl) (by kernel_rfl) (fun _ _ _ h => h) (Or.inl ⟨by rfl, fun w hSw => by go_simp⟩) hH ?_
                simp only [Act.put, List.setIfInBounds_toArray, List.set_cons_zero, List.set_cons_succ]
                refine wpAnyH_take (i := 12) (oi := ⟨some 97, _, _, _, _, _⟩) (v := undef) rfl (by kernel_rfl) (by kernel_rfl) (by kernel_rfl) (fun _ _ _ h => h) (Or.inr ⟨by rfl, rfl⟩) hH ?_
                simp only [Act.put, List.setIfInBounds_toArray, List.set_cons_zero, List.set_cons_succ]
                refine wpAnyH_take (i := 13) (oi := ⟨some 98, _, _, _, _, _⟩) (v := undef) rfl (by kernel_rfl) (by kernel_rfl) (by kernel_rfl) (fun _ _ _ h => h) (Or.inr ⟨by rfl, rfl⟩) hH ?_
                simp only [Act.put, List.setIfInBounds_toArray, List.set_cons_zero, List.set_cons_succ]
                refine wpAnyH_take (i := 14) (oi := ⟨some 99, _, _, _, _, _⟩) (v := undef) rfl (by kernel_rfl) (by kernel_rfl) (by kernel_rfl) (fun _ _ _ h => h) (Or.inr ⟨by rfl, rfl⟩) hH ?_
                simp only [Act.put, List.setIfInBounds_toArray, List.set_cons_zero, List.set_cons_succ]
                refine wpAnyH_take (i := 15) (oi := ⟨some 100, _, _, _, _, _⟩) (v := .bool false) rfl (by kernel_rfl) (by kernel_rfl) (by kernel_rfl) (fun _ _ _ h => h) (Or.inl ⟨by rfl, fun w hSw => by go_simp⟩) hH ?_
                simp only [Act.put, List.setIfInBounds_toArray, List.set_cons_zero, List.set_cons_succ]
                refine wpAnyH_take (i := 16) (oi := ⟨some 101, _, _, _, _, _⟩) (v := .bool false) rfl (by kernel_rfl) (by kernel_rfl) (by kernel_rfl) (fun _ _ _ h => h) (Or.inl ⟨by rfl, fun w hSw => by go_simp⟩) hH ?_
                simp only [Act.put, List.setIfInBounds_toArray, List.set_cons_zero, List.set_cons_succ]
                refine wpAnyH_done (by kernel_rfl) ?_ _
                have F11 : Hid _ := hH
                clear hH con
                have KK : Hid _ := And.intro (K4.out.1.kept F11.out.gr) (K4.out.2.kept F11.out.gr)
                obtain ⟨q0, q1, q2⟩ := geo3 (KK.out.1).ge
                obtain ⟨r0, r1, r2, r3⟩ := rec4 (KK.out.1).r
                obtain ⟨t0, t1, t2, t3⟩ := rec4 (KK.out.1).s
                obtain ⟨u0, u1⟩ := bx2 (KK.out.1).c
                obtain ⟨v0, v1⟩ := bx2 (KK.out.1).d
                obtain ⟨d0, d1, d2, d3, d4, d5, d6, d7⟩ := plan8 (KK.out.2)
                go_wp2_with (first | (go_at_call 10; with_reducible refine (num9_any _ _).mono ?_; rintro e w' ⟨rfl, rfl⟩))
                refine (c4 _ _ _ _ _ F11.out.rep).mono ?_
                rintro e w12 ⟨rfl, hC, hQ⟩
                have F12 : Hid _ := F11.out.call hC hQ
                clear hC hQ F11 KK c4 q0 q1 q2 r0 r1 r2 r3 t0 t1 t2 t3 u0 u1 v0 v1 d0 d1 d2 d3 d4 d5 d6 d7
                have KK : Hid _ := And.intro (K4.out.1.kept F12.out.gr) (K4.out.2.kept F12.out.gr)
                obtain ⟨q0, q1, q2⟩ := geo3 (KK.out.1).ge
                obtain ⟨r0, r1, r2, r3⟩ := rec4 (KK.out.1).r
                obtain ⟨t0, t1, t2, t3⟩ := rec4 (KK.out.1).s
                obtain ⟨u0, u1⟩ := bx2 (KK.out.1).c
                obtain ⟨v0, v1⟩ := bx2 (KK.out.1).d
                obtain ⟨d0, d1, d2, d3, d4, d5, d6, d7⟩ := plan8 (KK.out.2)
                try simp only
                go_wp2_with (first | (go_at_call 10; with_reducible refine (num9_any _ _).mono ?_; rintro e w' ⟨rfl, rfl⟩))
                refine (c5 _ _ _ _ _ F12.out.rep).mono ?_
                rintro e w13 ⟨rfl, gg⟩
                have F13 : Hid _ := F12.out.kept gg
                clear gg F12 KK c5 q0 q1 q2 r0 r1 r2 r3 t0 t1 t2 t3 u0 u1 v0 v1 d0 d1 d2 d3 d4 d5 d6 d7
                have KK : Hid _ := And.intro (K4.out.1.kept F13.out.gr) (K4.out.2.kept F13.out.gr)
                obtain ⟨q0, q1, q2⟩ := geo3 (KK.out.1).ge
                obtain ⟨r0, r1, r2, r3⟩ := rec4 (KK.out.1).r
                obtain ⟨t0, t1, t2, t3⟩ := rec4 (KK.out.1).s
                obtain ⟨u0, u1⟩ := bx2 (KK.out.1).c
                obtain ⟨v0, v1⟩ := bx2 (KK.out.1).d
                obtain ⟨d0, d1, d2, d3, d4, d5, d6, d7⟩ := plan8 (KK.out.2)
                try simp only
                go_wp2_with (first | (go_at_call 10; with_reducible refine (num9_any _ _).mono ?_; rintro e w' ⟨rfl, rfl⟩))
                refine (c6 _ _ _ _ _ F13.out.rep).mono ?_
                rintro e w14 ⟨gg, aL, nL, cL, aX, nX, cX, rfl, hnl, hnx, hfl, hfx, hls⟩
                have F14 : Hid _ := F13.out.kept gg
                obtain ⟨hz, tl, hkl⟩ := kli_ne HP4.out.2.2.1
                have hn1 := hls.nL
                try simp only at hn1 hls
                rw [hkl] at hn1 hls
                obtain ⟨bL, oL, rfl, l0, l1, l2, l3⟩ := hls.rs 0 (kfi m4) rfl
                simp only [List.length_cons, Nat.mul_zero, Nat.add_zero] at hn1 l0 l1 l2 l3
                have hfo := kda_ok F14.out.rep.byt (kfi m4)
                rcases hD : kda m4 (kfi m4) with ⟨⟨kq, ks, kl, ku⟩, ke⟩
                rw [hD] at hz l0 l1 l2 l3 hfo
                simp only at hz l0 l1 l2 l3 hfo
                subst hz
                have HD : Hid _ := And.intro hD hfo
                have hnpos : 0 < nL := by omega
                clear gg F13 KK c6 hnl hnx hfl hfx hls hkl hn1 hD hfo tl q0 q1 q2 r0 r1 r2 r3 t0 t1 t2 t3 u0 u1 v0 v1 d0 d1 d2 d3 d4 d5 d6 d7
                have KK : Hid _ := And.intro (K4.out.1.kept F14.out.gr) (K4.out.2.kept F14.out.gr)
                obtain ⟨q0, q1, q2⟩ := geo3 (KK.out.1).ge
                obtain ⟨r0, r1, r2, r3⟩ := rec4 (KK.out.1).r
                obtain ⟨t0, t1, t2, t3⟩ := rec4 (KK.out.1).s
                obtain ⟨u0, u1⟩ := bx2 (KK.out.1).c
                obtain ⟨v0, v1⟩ := bx2 (KK.out.1).d
                obtain ⟨d0, d1, d2, d3, d4, d5, d6, d7⟩ := plan8 (KK.out.2)
                try simp only
                go_wp2_with (first | (go_at_call 10; with_reducible refine (num9_any _ _).mono ?_; rintro e w' ⟨rfl, rfl⟩))
                by_cases q1 : kq = rq ∧ ks = rs ∧ kl = rl ∧ ku = ru
                · have EQ1 : Hid _ := q1
                  clear q1
                  have hS : (fun w' => Fs w4 w' fb bb db wb m4 (fun _ => False) ∧ w'.cell? ⟨bL, oL, none⟩ = some (.int .u64 kq) ∧ w'.cell? ⟨bL, oL + 1, none⟩ = some (.int .i64 ks) ∧ w'.cell? ⟨bL, oL + 2, none⟩ = some (.int .i64 kl) ∧ w'.cell? ⟨bL, oL + 3, none⟩ = some (.int .u64 ku)) w14.drew := ⟨F14.out.kept (Pa.drewG _), l0, l1, l2, l3⟩
                  refine wp_region_held_drew (S := fun w' => Fs w4 w' fb bb db wb m4 (fun _ => False) ∧ w'.cell? ⟨bL, oL, none⟩ = some (.int .u64 kq) ∧ w'.cell? ⟨bL, oL + 1, none⟩ = some (.int .i64 ks) ∧ w'.cell? ⟨bL, oL + 2, none⟩ = some (.int .i64 kl) ∧ w'.cell? ⟨bL, oL + 3, none⟩ = some (.int .u64 ku)) (by kernel_rfl) hS (fun hH => ?_)
                  clear hS F14 KK l0 l1 l2 l3 q0 q1 q2 r0 r1 r2 r3 t0 t1 t2 t3 u0 u1 v0 v1 d0 d1 d2 d3 d4 d5 d6 d7
                  refine wpAnyH_take (i := 0) (oi := ⟨some 117, _, _, _, _, _⟩) (v := .slice (some ⟨bL, oL, none⟩) nL cL) rfl (by kernel_rfl) (by kernel_rfl) (by kernel_rfl) (fun _ _ _ h => h) (Or.inl ⟨by rfl, fun w hSw => by go_simp⟩) hH ?_
                  simp only [Act.put, List.setIfInBounds_toArray, List.set_cons_zero, List.set_cons_succ]
                  refine wpAnyH_take (i := 1) (oi := ⟨some 118, _, _, _, _, _⟩) (v := .int .i64 nL) rfl (by kernel_rfl) (by kernel_rfl) (by kernel_rfl) (fun _ _ _ h => h) (Or.inl ⟨by rfl, fun w hSw => by go_simp⟩) hH ?_
                  simp only [Act.put, List.setIfInBounds_toArray, List.set_cons_zero, List.set_cons_succ]
                  refine wpAnyH_take (i := 2) (oi := ⟨some 119, _, _, _, _, _⟩) (v := .bool false) rfl (by kernel_rfl) (by kernel_rfl) (by kernel_rfl) (fun _ _ _ h => h) (Or.inl ⟨by rfl, fun w hSw => by (go_simp; try omega)⟩) hH ?_
                  simp only [Act.put, List.setIfInBounds_toArray, List.set_cons_zero, List.set_cons_succ]
                  refine wpAnyH_take (i := 3) (oi := ⟨some 120, _, _, _, _, _⟩) (v := .bool false) rfl (by kernel_rfl) (by kernel_rfl) (by kernel_rfl) (fun _ _ _ h => h) (Or.inl ⟨by rfl, fun w hSw => by go_simp⟩) hH ?_
                  simp only [Act.put, List.setIfInBounds_toArray, List.set_cons_zero, List.set_cons_succ]
                  refine wpAnyH_take (i := 4) (oi := ⟨some 121, _, _, _, _, _⟩) (v := .slice (some ⟨bL, oL, none⟩) nL cL) rfl (by kernel_rfl) (by kernel_rfl) (by kernel_rfl) (fun _ _ _ h => h) (Or.inl ⟨by rfl, fun w hSw => by go_simp⟩) hH ?_
                  simp only [Act.put, List.setIfInBounds_toArray, List.set_cons_zero, List.set_cons_succ]
                  refine wpAnyH_take (i := 5) (oi := ⟨some 122, _, _, _, _, _⟩) (v := .pointer (some ⟨bL, oL, none⟩)) rfl (by kernel_rfl) (by kernel_rfl) (by kernel_rfl) (fun _ _ _ h => h) (Or.inl ⟨by rfl, fun w hSw => by (go_simp; try omega)⟩) hH ?_
                  simp only [Act.put, List.setIfInBounds_toArray, List.set_cons_zero, List.set_cons_succ]
                  refine wpAnyH_take (i := 6) (oi := ⟨some 123, _, _, _, _, _⟩) (v := .agg #[.int .u64 kq, .int .i64 ks, .int .i64 kl, .int .u64 ku]) rfl (by kernel_rfl) (by kernel_rfl) (by kernel_rfl) (fun _ _ _ h => h) (Or.inl ⟨by rfl, fun w hSw => by obtain ⟨-, l0, l1, l2, l3⟩ := hSw; go_simp⟩) hH ?_
                  simp only [Act.put, List.setIfInBounds_toArray, List.set_cons_zero, List.set_cons_succ]
                  refine wpAnyH_take (i := 7) (oi := ⟨some 124, _, _, _, _, _⟩) (v := .agg #[.int .u64 rq, .int .i64 rs, .int .i64 rl, .int .u64 ru]) rfl (by kernel_rfl) (by kernel_rfl) (by kernel_rfl) (fun _ _ _ h => h) (Or.inl ⟨by rfl, fun w hSw => by obtain ⟨r0, r1, r2, r3⟩ := rec4 (K4.out.1.kept hSw.1.gr).r; go_simp⟩) hH ?_
                  simp only [Act.put, List.setIfInBounds_toArray, List.set_cons_zero, List.set_cons_succ]
                  refine wpAnyH_take (i := 8) (oi := ⟨some 125, _, _, _, _, _⟩) (v := .bool false) rfl (by kernel_rfl) (by kernel_rfl) (by kernel_rfl) (fun _ _ _ h => h) (Or.inl ⟨by rfl, fun w hSw => by (go_simp; try (first | (intro h1 h2 h3 h4; exact EQ1.out ⟨h1, h2, h3, h4⟩) | (have e4 := EQ1.out; simp [e4.1, e4.2.1, e4.2.2.1, e4.2.2.2])))⟩) hH ?_
                  simp only [Act.put, List.setIfInBounds_toArray, List.set_cons_zero, List.set_cons_succ]
                  refine wpAnyH_take (i := 9) (oi := ⟨some 126, _, _, _, _, _⟩) (v := .bool false) rfl (by kernel_rfl) (by kernel_rfl) (by kernel_rfl) (fun _ _ _ h => h) (Or.inl ⟨by rfl, fun w hSw => by go_simp⟩) hH ?_
                  simp only [Act.put, List.setIfInBounds_toArray, List.set_cons_zero, List.set_cons_succ]
                  refine wpAnyH_take (i := 10) (oi := ⟨some 127, _, _, _, _, _⟩) (v := undef) rfl (by kernel_rfl) (by kernel_rfl) (by kernel_rfl) (fun _ _ _ h => h) (Or.inr ⟨by rfl, rfl⟩) hH ?_
                  simp only [Act.put, List.setIfInBounds_toArray, List.set_cons_zero, List.set_cons_succ]
                  refine wpAnyH_take (i := 11) (oi := ⟨some 128, _, _, _, _, _⟩) (v := undef) rfl (by kernel_rfl) (by kernel_rfl) (by kernel_rfl) (fun _ _ _ h => h) (Or.inr ⟨by rfl, rfl⟩) hH ?_
                  simp only [Act.put, List.setIfInBounds_toArray, List.set_cons_zero, List.set_cons_succ]
                  refine wpAnyH_take (i := 12) (oi := ⟨some 129, _, _, _, _, _⟩) (v := undef) rfl (by kernel_rfl) (by kernel_rfl) (by kernel_rfl) (fun _ _ _ h => h) (Or.inr ⟨by rfl, rfl⟩) hH ?_
                  simp only [Act.put, List.setIfInBounds_toArray, List.set_cons_zero, List.set_cons_succ]
                  refine wpAnyH_take (i := 13) (oi := ⟨some 130, _, _, _, _, _⟩) (v := undef) rfl (by kernel_rfl) (by kernel_rfl) (by kernel_rfl) (fun _ _ _ h => h) (Or.inr ⟨by rfl, rfl⟩) hH ?_
                  simp only [Act.put, List.setIfInBounds_toArray, List.set_cons_zero, List.set_cons_succ]
                  refine wpAnyH_take (i := 14) (oi := ⟨some 131, _, _, _, _, _⟩) (v := undef) rfl (by kernel_rfl) (by kernel_rfl) (by kernel_rfl) (fun _ _ _ h => h) (Or.inr ⟨by rfl, rfl⟩) hH ?_
                  simp only [Act.put, List.setIfInBounds_toArray, List.set_cons_zero, List.set_cons_succ]
                  refine wpAnyH_take (i := 15) (oi := ⟨some 132, _, _, _, _, _⟩) (v := .bool false) rfl (by kernel_rfl) (by kernel_rfl) (by kernel_rfl) (fun _ _ _ h => h) (Or.inl ⟨by rfl, fun w hSw => by go_simp⟩) hH ?_
                  simp only [Act.put, List.setIfInBounds_toArray, List.set_cons_zero, List.set_cons_succ]
                  refine wpAnyH_take (i := 16) (oi := ⟨some 133, _, _, _, _, _⟩) (v := .bool false) rfl (by kernel_rfl) (by kernel_rfl) (by kernel_rfl) (fun _ _ _ h => h) (Or.inl ⟨by rfl, fun w hSw => by go_simp⟩) hH ?_
                  simp only [Act.put, List.setIfInBounds_toArray, List.set_cons_zero, List.set_cons_succ]
                  refine wpAnyH_done (by kernel_rfl) ?_ _
                  have F15 : Hid _ := hH.1
                  obtain ⟨-, l0, l1, l2, l3⟩ := hH
                  have hrf : rrt ⟨kq, ks, kl, ku⟩ = true := by
                    obtain ⟨e1, e2, e3, e4⟩ := EQ1.out
                    rw [e1, e2, e3, e4]
                    exact HRR.out.1
                  obtain ⟨hk4, D1, D3, hP, D4⟩ := HP4.out
                  have hfo := HD.out.2
                  have hqf := hfo.1.1
                  have huf := hfo.2.2.2
                  obtain ⟨E1, E2, E3⟩ := arm_ok (m := m4) (n := dn) (ts := td) (by omega) D4
                  have E4 := Fm.good_arm D1 dn td hdn.2
                  have hk5 : kok (m4.arm dn td).1 ⟨s0, p0, b0, x0, x1, y0, y1, n⟩ = true := by rw [(like_arm m4 dn td).kok]; exact hk4
                  have E5 : kda (m4.arm dn td).1 (kfi (m4.arm dn td).1) = (⟨kq, ks, kl, ku⟩, 0) := by rw [kfi_arm, kda_arm]; exact HD.out.1
                  have j1 := fun W fb bb db wb (h : PRep W fb bb db wb m4 (fun _ => False)) (R : Row W aD td.length td) hY => prep_arm h D1 (fun x hx => hx.elim) dn aD kD td R hY
                  rw [E1] at j1
                  have hld : td.length = ld := HLEN.out.2
                  rw [hld] at j1
                  clear E1 hld D1 D3 D4 hk4
                  generalize (m4.arm dn td).1 = m5 at *
                  obtain ⟨G1, G2, G3, G4⟩ := krn_repair E4 hk5 hrf hqf huf E2 E5
                  have j2 := fun W fb bb db wb (h : PRep W fb bb db wb m5 (fun _ => False)) => prepair_any h E4 (by decide) ⟨s0, p0, b0, x0, x1, y0, y1, n⟩ hP ⟨kq, ks, kl, ku⟩ hfo
                  unfold PkPost at j2
                  have hk6 : kok (krn m5 ⟨s0, p0, b0, x0, x1, y0, y1, n⟩ ⟨kq, ks, kl, ku⟩ false).1 ⟨s0, p0, b0, x0, x1, y0, y1, n⟩ = true := by rw [G1.kok]; exact hk5
                  clear G1 E2 E3 E4 E5 hk5
                  generalize krn m5 ⟨s0, p0, b0, x0, x1, y0, y1, n⟩ ⟨kq, ks, kl, ku⟩ false = Q6 at *
                  obtain ⟨m6, e6⟩ := Q6
                  simp only at G2 G3 G4 j2 hk6
                  have hk7 : kok m6.boot ⟨s0, p0, b0, x0, x1, y0, y1, n⟩ = true := by rw [(like_boot m6).kok]; exact hk6
                  have H1 := Fm.good_boot G2
                  have H2 : ∃ x ∈ kli m6.boot, (kda m6.boot x).1 = ⟨kq, ks, kl, ku⟩ ∨ (kda m6.boot x).1 = ⟨kq, ks, kl, ku⟩ := ⟨kfi m5, kli_mem (kfi_lt m5) G4, Or.inl (by rw [kda_boot, G4])⟩
                  have j3 := fun W fb bb db wb (h : PRep W fb bb db wb m6 (fun _ => False)) => prep_boot h
                  have j4 := fun W fb bb db wb (h : PRep W fb bb db wb m6.boot (fun _ => False)) => tells_any h H1 ⟨s0, p0, b0, x0, x1, y0, y1, n⟩ hP hk7 rfl ⟨kq, ks, kl, ku⟩ ⟨kq, ks, kl, ku⟩ hfo hfo h.byt H2
                  obtain ⟨I1, I2, I3, I4, I5, I6⟩ := krn_calm (all := false) H1 hk7 hrf hqf huf rfl rfl
                  have j5 := fun W fb bb db wb (h : PRep W fb bb db wb m6.boot (fun _ => False)) => prepair_any h H1 (by decide) ⟨s0, p0, b0, x0, x1, y0, y1, n⟩ hP ⟨kq, ks, kl, ku⟩ hfo
                  unfold PkPost at j5
                  rw [I1] at j5
                  have hk8 : kok (krn m6.boot ⟨s0, p0, b0, x0, x1, y0, y1, n⟩ ⟨kq, ks, kl, ku⟩ false).1 ⟨s0, p0, b0, x0, x1, y0, y1, n⟩ = true := by rw [I2.kok]; exact hk7
                  clear I1 I2 I5 H1 H2 hk6 hk7 G2 G4
                  generalize (krn m6.boot ⟨s0, p0, b0, x0, x1, y0, y1, n⟩ ⟨kq, ks, kl, ku⟩ false).1 = m8 at *
                  generalize m6.boot = m7 at *
                  have hlo8 : klo m8 ⟨s0, p0, b0, x0, x1, y0, y1, n⟩ = ([0, 1], 0) := by unfold klo; rw [if_neg (by rw [hk8]; simp), I4, if_neg (by simp), (kfi_both I6).2]
                  have j6 := fun W fb bb db wb (h : PRep W fb bb db wb m8 (fun _ => False)) => pload_any h I3 ⟨s0, p0, b0, x0, x1, y0, y1, n⟩ hP
                  unfold LdPost at j6
                  rw [hlo8] at j6
                  have j7 := fun W fb bb db wb (h : PRep W fb bb db wb m8 (fun _ => False)) => h.ops
                  have j8 := fun W fb bb db wb (h : PRep W fb bb db wb m8 (fun _ => False)) => prepair_any h I3 (by decide) ⟨s0, p0, b0, x0, x1, y0, y1, n⟩ hP ⟨kq, ks, kl, ku⟩ hfo
                  unfold PkPost at j8
                  rw [krn_both hk8 hrf I4 I6] at j8
                  have HI6 : Hid _ := I6
                  have HE6 : Hid _ := G3
                  clear hlo8 hk8 I3 I4 I6 G3 hrf hqf huf hfo hP
                  generalize m8.ops = op8 at *
                  simp only [Pa.Pl.val, Rc.val] at j2 j4 j5 j6 j8
                  have F16 : Hid (Fs w4 (w14.alloc (.cells #[.int .u64 kq, .int .i64 ks, .int .i64 kl, .int .u64 ku] 26)).drew fb bb db wb m4 (fun _ => False)) := F15.out.kept (World.grownBy_alloc w14.drew _ _)
                  have V16 : Hid (Bx (w14.alloc (.cells #[.int .u64 kq, .int .i64 ks, .int .i64 kl, .int .u64 ku] 26)).drew w14.heap.size 26 [.int .u64 kq, .int .i64 ks, .int .i64 kl, .int .u64 ku] ∧ ¬ foot fb bb db wb w14.heap.size) := ⟨Bx.new w14.drew 26 [.int .u64 kq, .int .i64 ks, .int .i64 kl, .int .u64 ku], fun x => Nat.lt_irrefl _ (F15.out.rep.lt _ x)⟩
                  clear F15
                  have KK : Hid _ := And.intro (K4.out.1.kept F16.out.gr) (K4.out.2.kept F16.out.gr)
                  obtain ⟨q0, q1, q2⟩ := geo3 (KK.out.1).ge
                  obtain ⟨r0, r1, r2, r3⟩ := rec4 (KK.out.1).r
                  obtain ⟨t0, t1, t2, t3⟩ := rec4 (KK.out.1).s
                  obtain ⟨u0, u1⟩ := bx2 (KK.out.1).c
                  obtain ⟨v0, v1⟩ := bx2 (KK.out.1).d
                  obtain ⟨d0, d1, d2, d3, d4, d5, d6, d7⟩ := plan8 (KK.out.2)
                  obtain ⟨f0, f1, f2, f3⟩ := bx4 V16.out.1
                  go_wp2_with (first | (go_at_call 10; with_reducible refine (num9_any _ _).mono ?_; rintro e w' ⟨rfl, rfl⟩))
                  generalize (w14.alloc (.cells #[.int .u64 kq, .int .i64 ks, .int .i64 kl, .int .u64 ku] 26)).drew = W16 at *
                  generalize w14.heap.size = gf at *
                  have hY := HX.out.2.2.2.in_ (grown_trans K4.out.1.gr F16.out.gr) (foot fb bb db wb) (fun b hb => F16.out.nf (Nat.lt_of_lt_of_le hb K4.out.1.gr.size))
                  refine (j1 _ _ _ _ _ F16.out.rep hY.1 hY.2).mono ?_
                  rintro e w17 ⟨rfl, hC, hQ⟩
                  have F17 : Hid _ := F16.out.call hC hQ
                  have V17 : Hid _ := And.intro (V16.out.1.chg hC V16.out.2) V16.out.2
                  clear hC hQ F16 V16 KK j1 q0 q1 q2 r0 r1 r2 r3 t0 t1 t2 t3 u0 u1 v0 v1 d0 d1 d2 d3 d4 d5 d6 d7 f0 f1 f2 f3
                  have KK : Hid _ := And.intro (K4.out.1.kept F17.out.gr) (K4.out.2.kept F17.out.gr)
                  obtain ⟨q0, q1, q2⟩ := geo3 (KK.out.1).ge
                  obtain ⟨r0, r1, r2, r3⟩ := rec4 (KK.out.1).r
                  obtain ⟨t0, t1, t2, t3⟩ := rec4 (KK.out.1).s
                  obtain ⟨u0, u1⟩ := bx2 (KK.out.1).c
                  obtain ⟨v0, v1⟩ := bx2 (KK.out.1).d
                  obtain ⟨d0, d1, d2, d3, d4, d5, d6, d7⟩ := plan8 (KK.out.2)
                  obtain ⟨f0, f1, f2, f3⟩ := bx4 V17.out.1
                  try simp only
                  go_wp2_with (first | (go_at_call 10; with_reducible refine (num9_any _ _).mono ?_; rintro e w' ⟨rfl, rfl⟩))
                  refine (j2 _ _ _ _ _ F17.out.rep).mono ?_
                  rintro e w18 ⟨rfl, hC, hQ⟩
                  have F18 : Hid _ := F17.out.call hC hQ
                  have V18 : Hid _ := And.intro (V17.out.1.chg hC V17.out.2) V17.out.2
                  clear hC hQ F17 V17 KK j2 q0 q1 q2 r0 r1 r2 r3 t0 t1 t2 t3 u0 u1 v0 v1 d0 d1 d2 d3 d4 d5 d6 d7 f0 f1 f2 f3
                  have KK : Hid _ := And.intro (K4.out.1.kept F18.out.gr) (K4.out.2.kept F18.out.gr)
                  obtain ⟨q0, q1, q2⟩ := geo3 (KK.out.1).ge
                  obtain ⟨r0, r1, r2, r3⟩ := rec4 (KK.out.1).r
                  obtain ⟨t0, t1, t2, t3⟩ := rec4 (KK.out.1).s
                  obtain ⟨u0, u1⟩ := bx2 (KK.out.1).c
                  obtain ⟨v0, v1⟩ := bx2 (KK.out.1).d
                  obtain ⟨d0, d1, d2, d3, d4, d5, d6, d7⟩ := plan8 (KK.out.2)
                  obtain ⟨f0, f1, f2, f3⟩ := bx4 V18.out.1
                  try simp only
                  go_wp2_with (first | (go_at_call 10; with_reducible refine (num9_any _ _).mono ?_; rintro e w' ⟨rfl, rfl⟩))
                  refine (j3 _ _ _ _ _ F18.out.rep).mono ?_
                  rintro e w19 ⟨rfl, hC, hQ⟩
                  have F19 : Hid _ := F18.out.call hC hQ
                  have V19 : Hid _ := And.intro (V18.out.1.chg hC V18.out.2) V18.out.2
                  clear hC hQ F18 V18 KK j3 q0 q1 q2 r0 r1 r2 r3 t0 t1 t2 t3 u0 u1 v0 v1 d0 d1 d2 d3 d4 d5 d6 d7 f0 f1 f2 f3
                  have KK : Hid _ := And.intro (K4.out.1.kept F19.out.gr) (K4.out.2.kept F19.out.gr)
                  obtain ⟨q0, q1, q2⟩ := geo3 (KK.out.1).ge
                  obtain ⟨r0, r1, r2, r3⟩ := rec4 (KK.out.1).r
                  obtain ⟨t0, t1, t2, t3⟩ := rec4 (KK.out.1).s
                  obtain ⟨u0, u1⟩ := bx2 (KK.out.1).c
                  obtain ⟨v0, v1⟩ := bx2 (KK.out.1).d
                  obtain ⟨d0, d1, d2, d3, d4, d5, d6, d7⟩ := plan8 (KK.out.2)
                  obtain ⟨f0, f1, f2, f3⟩ := bx4 V19.out.1
                  try simp only
                  go_wp2_with (first | (go_at_call 10; with_reducible refine (num9_any _ _).mono ?_; rintro e w' ⟨rfl, rfl⟩))
                  refine (j4 _ _ _ _ _ F19.out.rep).mono ?_
                  rintro e w20 ⟨rfl, gg⟩
                  have F20 : Hid _ := F19.out.kept gg
                  have V20 : Hid _ := And.intro (V19.out.1.kept gg) V19.out.2
                  clear gg F19 V19 KK j4 q0 q1 q2 r0 r1 r2 r3 t0 t1 t2 t3 u0 u1 v0 v1 d0 d1 d2 d3 d4 d5 d6 d7 f0 f1 f2 f3
                  have KK : Hid _ := And.intro (K4.out.1.kept F20.out.gr) (K4.out.2.kept F20.out.gr)
                  obtain ⟨q0, q1, q2⟩ := geo3 (KK.out.1).ge
                  obtain ⟨r0, r1, r2, r3⟩ := rec4 (KK.out.1).r
                  obtain ⟨t0, t1, t2, t3⟩ := rec4 (KK.out.1).s
                  obtain ⟨u0, u1⟩ := bx2 (KK.out.1).c
                  obtain ⟨v0, v1⟩ := bx2 (KK.out.1).d
                  obtain ⟨d0, d1, d2, d3, d4, d5, d6, d7⟩ := plan8 (KK.out.2)
                  obtain ⟨f0, f1, f2, f3⟩ := bx4 V20.out.1
                  try simp only
                  rcases HE6.out with rfl | rfl
                  · skip
                    go_wp2_with (first | (go_at_call 10; with_reducible refine (num9_any _ _).mono ?_; rintro e w' ⟨rfl, rfl⟩))
                    refine (j5 _ _ _ _ _ F20.out.rep).mono ?_
                    rintro e w21 ⟨rfl, hC, hQ⟩
                    have F21 : Hid _ := F20.out.call hC hQ
                    have V21 : Hid _ := And.intro (V20.out.1.chg hC V20.out.2) V20.out.2
                    clear hC hQ F20 V20 KK j5 q0 q1 q2 r0 r1 r2 r3 t0 t1 t2 t3 u0 u1 v0 v1 d0 d1 d2 d3 d4 d5 d6 d7 f0 f1 f2 f3
                    have KK : Hid _ := And.intro (K4.out.1.kept F21.out.gr) (K4.out.2.kept F21.out.gr)
                    obtain ⟨q0, q1, q2⟩ := geo3 (KK.out.1).ge
                    obtain ⟨r0, r1, r2, r3⟩ := rec4 (KK.out.1).r
                    obtain ⟨t0, t1, t2, t3⟩ := rec4 (KK.out.1).s
                    obtain ⟨u0, u1⟩ := bx2 (KK.out.1).c
                    obtain ⟨v0, v1⟩ := bx2 (KK.out.1).d
                    obtain ⟨d0, d1, d2, d3, d4, d5, d6, d7⟩ := plan8 (KK.out.2)
                    obtain ⟨f0, f1, f2, f3⟩ := bx4 V21.out.1
                    try simp only
                    go_wp2_with (first | (go_at_call 10; with_reducible refine (num9_any _ _).mono ?_; rintro e w' ⟨rfl, rfl⟩))
                    refine (j6 _ _ _ _ _ F21.out.rep).mono ?_
                    rintro e w22 ⟨gg, aM, nM, cM, aY, nY, cY, rfl, hnl, hnx, hfl, hfx, hls⟩
                    have F22 : Hid _ := F21.out.kept gg
                    have V22 : Hid _ := And.intro (V21.out.1.kept gg) V21.out.2
                    have hn1 := hls.nL
                    simp only [List.length_cons, List.length_nil] at hn1
                    subst hn1
                    obtain ⟨bM, oM, rfl, a0, a1, a2, a3⟩ := hls.rs 0 0 rfl
                    obtain ⟨bM', oM', eM, b0', b1', b2', b3'⟩ := hls.rs 1 1 rfl
                    cases eM
                    rw [HI6.out.1] at a0 a1 a2 a3
                    rw [HI6.out.2] at b0' b1' b2' b3'
                    simp only [Nat.mul_zero, Nat.mul_one, Nat.add_zero, Nat.add_assoc, Nat.reduceAdd] at a0 a1 a2 a3 b0' b1' b2' b3'
                    have HM8 : Hid (¬ foot fb bb db wb bM) := fun x => by have h1 := hfl bM oM rfl; have h2 := F21.out.rep.lt bM x; omega
                    clear gg F21 V21 KK j6 hnl hnx hfl hfx hls q0 q1 q2 r0 r1 r2 r3 t0 t1 t2 t3 u0 u1 v0 v1 d0 d1 d2 d3 d4 d5 d6 d7 f0 f1 f2 f3
                    have KK : Hid _ := And.intro (K4.out.1.kept F22.out.gr) (K4.out.2.kept F22.out.gr)
                    obtain ⟨q0, q1, q2⟩ := geo3 (KK.out.1).ge
                    obtain ⟨r0, r1, r2, r3⟩ := rec4 (KK.out.1).r
                    obtain ⟨t0, t1, t2, t3⟩ := rec4 (KK.out.1).s
                    obtain ⟨u0, u1⟩ := bx2 (KK.out.1).c
                    obtain ⟨v0, v1⟩ := bx2 (KK.out.1).d
                    obtain ⟨d0, d1, d2, d3, d4, d5, d6, d7⟩ := plan8 (KK.out.2)
                    obtain ⟨f0, f1, f2, f3⟩ := bx4 V22.out.1
                    try simp only
                    go_wp2_with (first | (go_at_call 10; with_reducible refine (num9_any _ _).mono ?_; rintro e w' ⟨rfl, rfl⟩))
                    refine (j7 _ _ _ _ _ F22.out.rep).mono ?_
                    rintro e w23 ⟨rfl, rfl⟩
                    try simp only
                    go_wp2_with (first | (go_at_call 10; with_reducible refine (num9_any _ _).mono ?_; rintro e w' ⟨rfl, rfl⟩))
                    have hS : (fun w' => M8 w4 w' fb bb db wb m8 (fun _ => False) gf bM oM kq ks kl ku) (World.drew _) := ⟨F22.out.kept (Pa.drewG _), V22.out.1.kept (Pa.drewG _), V22.out.2, HM8.out, a0, a1, a2, a3, b0', b1', b2', b3'⟩
                    refine wp_region_held_drew (S := fun w' => M8 w4 w' fb bb db wb m8 (fun _ => False) gf bM oM kq ks kl ku) (by kernel_rfl) hS (fun hH => ?_)
                    clear hS F22 V22 KK a0 a1 a2 a3 b0' b1' b2' b3' q0 q1 q2 r0 r1 r2 r3 t0 t1 t2 t3 u0 u1 v0 v1 d0 d1 d2 d3 d4 d5 d6 d7 f0 f1 f2 f3
                    refine wpAnyH_take (i := 0) (oi := ⟨some 178, _, _, _, _, _⟩) (v := .slice (some ⟨bM, oM, none⟩) 2 cM) rfl (by kernel_rfl) (by kernel_rfl) (by kernel_rfl) (fun _ _ _ h => h) (Or.inl ⟨by rfl, fun w hSw => by go_simp⟩) hH ?_
                    simp only [Act.put, List.setIfInBounds_toArray, List.set_cons_zero, List.set_cons_succ]
                    refine wpAnyH_take (i := 1) (oi := ⟨some 179, _, _, _, _, _⟩) (v := .int .i64 2) rfl (by kernel_rfl) (by kernel_rfl) (by kernel_rfl) (fun _ _ _ h => h) (Or.inl ⟨by rfl, fun w hSw => by go_simp⟩) hH ?_
                    simp only [Act.put, List.setIfInBounds_toArray, List.set_cons_zero, List.set_cons_succ]
                    refine wpAnyH_take (i := 2) (oi := ⟨some 180, _, _, _, _, _⟩) (v := .bool true) rfl (by kernel_rfl) (by kernel_rfl) (by kernel_rfl) (fun _ _ _ h => h) (Or.inl ⟨by rfl, fun w hSw => by go_simp⟩) hH ?_
                    simp only [Act.put, List.setIfInBounds_toArray, List.set_cons_zero, List.set_cons_succ]
                    refine wpAnyH_take (i := 3) (oi := ⟨some 181, _, _, _, _, _⟩) (v := .bool true) rfl (by kernel_rfl) (by kernel_rfl) (by kernel_rfl) (fun _ _ _ h => h) (Or.inl ⟨by rfl, fun w hSw => by go_simp⟩) hH ?_
                    simp only [Act.put, List.setIfInBounds_toArray, List.set_cons_zero, List.set_cons_succ]
                    refine wpAnyH_take (i := 4) (oi := ⟨some 182, _, _, _, _, _⟩) (v := .slice (some ⟨bM, oM, none⟩) 2 cM) rfl (by kernel_rfl) (by kernel_rfl) (by kernel_rfl) (fun _ _ _ h => h) (Or.inl ⟨by rfl, fun w hSw => by go_simp⟩) hH ?_
                    simp only [Act.put, List.setIfInBounds_toArray, List.set_cons_zero, List.set_cons_succ]
                    refine wpAnyH_take (i := 5) (oi := ⟨some 183, _, _, _, _, _⟩) (v := .pointer (some ⟨bM, oM, none⟩)) rfl (by kernel_rfl) (by kernel_rfl) (by kernel_rfl) (fun _ _ _ h => h) (Or.inl ⟨by rfl, fun w hSw => by go_simp⟩) hH ?_
                    simp only [Act.put, List.setIfInBounds_toArray, List.set_cons_zero, List.set_cons_succ]
                    refine wpAnyH_take (i := 6) (oi := ⟨some 184, _, _, _, _, _⟩) (v := .agg #[.int .u64 kq, .int .i64 ks, .int .i64 kl, .int .u64 ku]) rfl (by kernel_rfl) (by kernel_rfl) (by kernel_rfl) (fun _ _ _ h => h) (Or.inl ⟨by rfl, fun w hSw => by obtain ⟨a0, a1, a2, a3⟩ := hSw.a; go_simp⟩) hH ?_
                    simp only [Act.put, List.setIfInBounds_toArray, List.set_cons_zero, List.set_cons_succ]
                    refine wpAnyH_take (i := 7) (oi := ⟨some 185, _, _, _, _, _⟩) (v := .agg #[.int .u64 kq, .int .i64 ks, .int .i64 kl, .int .u64 ku]) rfl (by kernel_rfl) (by kernel_rfl) (by kernel_rfl) (fun _ _ _ h => h) (Or.inl ⟨by rfl, fun w hSw => by obtain ⟨f0, f1, f2, f3⟩ := bx4 hSw.v; go_simp⟩) hH ?_
                    simp only [Act.put, List.setIfInBounds_toArray, List.set_cons_zero, List.set_cons_succ]
                    refine wpAnyH_take (i := 8) (oi := ⟨some 186, _, _, _, _, _⟩) (v := .bool true) rfl (by kernel_rfl) (by kernel_rfl) (by kernel_rfl) (fun _ _ _ h => h) (Or.inl ⟨by rfl, fun w hSw => by go_simp⟩) hH ?_
                    simp only [Act.put, List.setIfInBounds_toArray, List.set_cons_zero, List.set_cons_succ]
                    refine wpAnyH_take (i := 9) (oi := ⟨some 187, _, _, _, _, _⟩) (v := .bool true) rfl (by kernel_rfl) (by kernel_rfl) (by kernel_rfl) (fun _ _ _ h => h) (Or.inl ⟨by rfl, fun w hSw => by go_simp⟩) hH ?_
                    simp only [Act.put, List.setIfInBounds_toArray, List.set_cons_zero, List.set_cons_succ]
                    refine wpAnyH_take (i := 10) (oi := ⟨some 188, _, _, _, _, _⟩) (v := .bool true) rfl (by kernel_rfl) (by kernel_rfl) (by kernel_rfl) (fun _ _ _ h => h) (Or.inl ⟨by rfl, fun w hSw => by go_simp⟩) hH ?_
                    simp only [Act.put, List.setIfInBounds_toArray, List.set_cons_zero, List.set_cons_succ]
                    refine wpAnyH_take (i := 11) (oi := ⟨some 189, _, _, _, _, _⟩) (v := .slice (some ⟨bM, oM, none⟩) 2 cM) rfl (by kernel_rfl) (by kernel_rfl) (by kernel_rfl) (fun _ _ _ h => h) (Or.inl ⟨by rfl, fun w hSw => by go_simp⟩) hH ?_
                    simp only [Act.put, List.setIfInBounds_toArray, List.set_cons_zero, List.set_cons_succ]
                    refine wpAnyH_take (i := 12) (oi := ⟨some 190, _, _, _, _, _⟩) (v := .pointer (some ⟨bM, oM + 4, none⟩)) rfl (by kernel_rfl) (by kernel_rfl) (by kernel_rfl) (fun _ _ _ h => h) (Or.inl ⟨by rfl, fun w hSw => by go_simp⟩) hH ?_
                    simp only [Act.put, List.setIfInBounds_toArray, List.set_cons_zero, List.set_cons_succ]
                    refine wpAnyH_take (i := 13) (oi := ⟨some 191, _, _, _, _, _⟩) (v := .agg #[.int .u64 kq, .int .i64 ks, .int .i64 kl, .int .u64 ku]) rfl (by kernel_rfl) (by kernel_rfl) (by kernel_rfl) (fun _ _ _ h => h) (Or.inl ⟨by rfl, fun w hSw => by obtain ⟨a0, a1, a2, a3⟩ := hSw.b; go_simp⟩) hH ?_
                    simp only [Act.put, List.setIfInBounds_toArray, List.set_cons_zero, List.set_cons_succ]
                    refine wpAnyH_take (i := 14) (oi := ⟨some 192, _, _, _, _, _⟩) (v := .agg #[.int .u64 kq, .int .i64 ks, .int .i64 kl, .int .u64 ku]) rfl (by kernel_rfl) (by kernel_rfl) (by kernel_rfl) (fun _ _ _ h => h) (Or.inl ⟨by rfl, fun w hSw => by obtain ⟨f0, f1, f2, f3⟩ := bx4 hSw.v; go_simp⟩) hH ?_
                    simp only [Act.put, List.setIfInBounds_toArray, List.set_cons_zero, List.set_cons_succ]
                    refine wpAnyH_take (i := 15) (oi := ⟨some 193, _, _, _, _, _⟩) (v := .bool true) rfl (by kernel_rfl) (by kernel_rfl) (by kernel_rfl) (fun _ _ _ h => h) (Or.inl ⟨by rfl, fun w hSw => by go_simp⟩) hH ?_
                    simp only [Act.put, List.setIfInBounds_toArray, List.set_cons_zero, List.set_cons_succ]
                    refine wpAnyH_take (i := 16) (oi := ⟨some 194, _, _, _, _, _⟩) (v := .bool true) rfl (by kernel_rfl) (by kernel_rfl) (by kernel_rfl) (fun _ _ _ h => h) (Or.inl ⟨by rfl, fun w hSw => by go_simp⟩) hH ?_
                    simp only [Act.put, List.setIfInBounds_toArray, List.set_cons_zero, List.set_cons_succ]
                    refine wpAnyH_take (i := 17) (oi := ⟨some 195, _, _, _, _, _⟩) (v := .bool true) rfl (by kernel_rfl) (by kernel_rfl) (by kernel_rfl) (fun _ _ _ h => h) (Or.inl ⟨by rfl, fun w hSw => by go_simp⟩) hH ?_
                    simp only [Act.put, List.setIfInBounds_toArray, List.set_cons_zero, List.set_cons_succ]
                    refine wpAnyH_take (i := 18) (oi := ⟨some 196, _, _, _, _, _⟩) (v := .pointer (some ⟨fb, 0, none⟩)) rfl (by kernel_rfl) (by kernel_rfl) (by kernel_rfl) (fun _ _ _ h => h) (Or.inl ⟨by rfl, fun w hSw => by go_simp⟩) hH ?_
                    simp only [Act.put, List.setIfInBounds_toArray, List.set_cons_zero, List.set_cons_succ]
                    refine wpAnyH_take (i := 19) (oi := ⟨some 197, _, _, _, _, _⟩) (v := .agg #[.int .i64 s0, .int .i64 p0, .int .i64 b0, .int .i64 x0, .int .i64 x1, .int .i64 y0, .int .i64 y1, .int .i64 n]) rfl (by kernel_rfl) (by kernel_rfl) (by kernel_rfl) (fun _ _ _ h => h) (Or.inl ⟨by rfl, fun w hSw => by obtain ⟨d0, d1, d2, d3, d4, d5, d6, d7⟩ := plan8 (K4.out.2.kept hSw.f.gr); go_simp⟩) hH ?_
                    simp only [Act.put, List.setIfInBounds_toArray, List.set_cons_zero, List.set_cons_succ]
                    refine wpAnyH_take (i := 20) (oi := ⟨some 198, _, _, _, _, _⟩) (v := .agg #[.int .u64 kq, .int .i64 ks, .int .i64 kl, .int .u64 ku]) rfl (by kernel_rfl) (by kernel_rfl) (by kernel_rfl) (fun _ _ _ h => h) (Or.inl ⟨by rfl, fun w hSw => by obtain ⟨f0, f1, f2, f3⟩ := bx4 hSw.v; go_simp⟩) hH ?_
                    simp only [Act.put, List.setIfInBounds_toArray, List.set_cons_zero, List.set_cons_succ]
                    refine wpAnyH_ready (rs := [21]) (by kernel_rfl) (by simp) ?_
                    refine AllReadyH.cons rfl (fun K hK => ?_) AllReadyH.nil
                    go_simp
                    go_wp2_with (go_at_call 17; refine (j8 _ _ _ _ _ hH.f.rep).mono ?_; rintro e w24 ⟨rfl, hC, hQ⟩)
                    replace hH := hH.chg hC hQ
                    clear hC hQ
                    refine hK.out _ _ hH (fun _ => ?_)
                    clear hK K
                    refine wpAnyH_ready (rs := [22]) (by kernel_rfl) (by simp) ?_
                    refine AllReadyH.cons rfl (fun K hK => ?_) AllReadyH.nil
                    go_simp
                    go_wp2_with ((go_at_call 10; with_reducible refine (num9_any _ _).mono ?_; rintro e w' ⟨rfl, rfl⟩))
                    refine hK.out _ _ hH (fun _ => ?_)
                    clear hK K
                    refine wpAnyH_take (i := 23) (oi := ⟨some 201, _, _, _, _, _⟩) (v := .bool true) rfl (by kernel_rfl) (by kernel_rfl) (by kernel_rfl) (fun _ _ _ h => h) (Or.inl ⟨by rfl, fun w hSw => by go_simp⟩) hH ?_
                    simp only [Act.put, List.setIfInBounds_toArray, List.set_cons_zero, List.set_cons_succ]
                    refine wpAnyH_take (i := 24) (oi := ⟨some 202, _, _, _, _, _⟩) (v := .bool true) rfl (by kernel_rfl) (by kernel_rfl) (by kernel_rfl) (fun _ _ _ h => h) (Or.inl ⟨by rfl, fun w hSw => by go_simp⟩) hH ?_
                    simp only [Act.put, List.setIfInBounds_toArray, List.set_cons_zero, List.set_cons_succ]
                    refine wpAnyH_take (i := 25) (oi := ⟨some 203, _, _, _, _, _⟩) (v := .bool true) rfl (by kernel_rfl) (by kernel_rfl) (by kernel_rfl) (fun _ _ _ h => h) (Or.inl ⟨by rfl, fun w hSw => by go_simp⟩) hH ?_
                    simp only [Act.put, List.setIfInBounds_toArray, List.set_cons_zero, List.set_cons_succ]
                    refine wpAnyH_take (i := 26) (oi := ⟨some 204, _, _, _, _, _⟩) (v := .pointer (some ⟨fb, 0, none⟩)) rfl (by kernel_rfl) (by kernel_rfl) (by kernel_rfl) (fun _ _ _ h => h) (Or.inl ⟨by rfl, fun w hSw => by go_simp⟩) hH ?_
                    simp only [Act.put, List.setIfInBounds_toArray, List.set_cons_zero, List.set_cons_succ]
                    refine wpAnyH_take (i := 28) (oi := ⟨some 206, _, _, _, _, _⟩) (v := .int .i64 op8) rfl (by kernel_rfl) (by kernel_rfl) (by kernel_rfl) (fun _ _ _ h => h) (Or.inl ⟨by rfl, fun w hSw => by go_simp⟩) hH ?_
                    simp only [Act.put, List.setIfInBounds_toArray, List.set_cons_zero, List.set_cons_succ]
                    refine wpAnyH_ready (rs := [27]) (by kernel_rfl) (by simp) ?_
                    refine AllReadyH.cons rfl (fun K hK => ?_) AllReadyH.nil
                    go_simp
                    go_wp2_with (go_at_call 18; refine (j7 _ _ _ _ _ hH.f.rep).mono ?_; rintro e w' ⟨rfl, rfl⟩)
                    refine hK.out _ _ hH (fun _ => ?_)
                    clear hK K
                    refine wpAnyH_take (i := 29) (oi := ⟨some 207, _, _, _, _, _⟩) (v := .bool true) rfl (by kernel_rfl) (by kernel_rfl) (by kernel_rfl) (fun _ _ _ h => h) (Or.inl ⟨by rfl, fun w hSw => by go_simp⟩) hH ?_
                    simp only [Act.put, List.setIfInBounds_toArray, List.set_cons_zero, List.set_cons_succ]
                    refine wpAnyH_take (i := 30) (oi := ⟨some 208, _, _, _, _, _⟩) (v := .bool true) rfl (by kernel_rfl) (by kernel_rfl) (by kernel_rfl) (fun _ _ _ h => h) (Or.inl ⟨by rfl, fun w hSw => by go_simp⟩) hH ?_
                    simp only [Act.put, List.setIfInBounds_toArray, List.set_cons_zero, List.set_cons_succ]
                    refine wpAnyH_take (i := 31) (oi := ⟨some 209, _, _, _, _, _⟩) (v := .bool true) rfl (by kernel_rfl) (by kernel_rfl) (by kernel_rfl) (fun _ _ _ h => h) (Or.inl ⟨by rfl, fun w hSw => by go_simp⟩) hH ?_
                    simp only [Act.put, List.setIfInBounds_toArray, List.set_cons_zero, List.set_cons_succ]
                    refine wpAnyH_ready (rs := [32]) (by kernel_rfl) (by simp) ?_
                    refine AllReadyH.cons rfl (fun K hK => ?_) AllReadyH.nil
                    go_simp
                    go_wp2_with (go_at_call 8; refine (HL.out _).mono ?_; rintro e wl ⟨rfl, gl⟩)
                    replace hH := hH.kept gl
                    clear gl
                    refine hK.out _ _ hH (fun _ => ?_)
                    clear hK K
                    refine wpAnyH_take (i := 33) (oi := ⟨some 211, _, _, _, _, _⟩) (v := .bool true) rfl (by kernel_rfl) (by kernel_rfl) (by kernel_rfl) (fun _ _ _ h => h) (Or.inl ⟨by rfl, fun w hSw => by go_simp⟩) hH ?_
                    simp only [Act.put, List.setIfInBounds_toArray, List.set_cons_zero, List.set_cons_succ]
                    refine wpAnyH_take (i := 34) (oi := ⟨some 10, _, _, _, _, _⟩) (v := .bool true) rfl (by kernel_rfl) (by kernel_rfl) (by kernel_rfl) (fun _ _ _ h => h) (Or.inl ⟨by rfl, fun w hSw => by go_simp⟩) hH ?_
                    simp only [Act.put, List.setIfInBounds_toArray, List.set_cons_zero, List.set_cons_succ]
                    refine wpAnyH_done (by kernel_rfl) ?_ _
                    have HF : Hid _ := grown_trans K4.out.1.gr hH.f.gr
                    clear hH
                    go_wp2
                    go_ret
                    exact ⟨rfl, grown_below HF.out⟩
                  · skip
                    go_wp2_with (first | (go_at_call 10; with_reducible refine (num9_any _ _).mono ?_; rintro e w' ⟨rfl, rfl⟩))
                    refine (j5 _ _ _ _ _ F20.out.rep).mono ?_
                    rintro e w21 ⟨rfl, hC, hQ⟩
                    have F21 : Hid _ := F20.out.call hC hQ
                    have V21 : Hid _ := And.intro (V20.out.1.chg hC V20.out.2) V20.out.2
                    clear hC hQ F20 V20 KK j5 q0 q1 q2 r0 r1 r2 r3 t0 t1 t2 t3 u0 u1 v0 v1 d0 d1 d2 d3 d4 d5 d6 d7 f0 f1 f2 f3
                    have KK : Hid _ := And.intro (K4.out.1.kept F21.out.gr) (K4.out.2.kept F21.out.gr)
                    obtain ⟨q0, q1, q2⟩ := geo3 (KK.out.1).ge
                    obtain ⟨r0, r1, r2, r3⟩ := rec4 (KK.out.1).r
                    obtain ⟨t0, t1, t2, t3⟩ := rec4 (KK.out.1).s
                    obtain ⟨u0, u1⟩ := bx2 (KK.out.1).c
                    obtain ⟨v0, v1⟩ := bx2 (KK.out.1).d
                    obtain ⟨d0, d1, d2, d3, d4, d5, d6, d7⟩ := plan8 (KK.out.2)
                    obtain ⟨f0, f1, f2, f3⟩ := bx4 V21.out.1
                    try simp only
                    go_wp2_with (first | (go_at_call 10; with_reducible refine (num9_any _ _).mono ?_; rintro e w' ⟨rfl, rfl⟩))
                    refine (j6 _ _ _ _ _ F21.out.rep).mono ?_
                    rintro e w22 ⟨gg, aM, nM, cM, aY, nY, cY, rfl, hnl, hnx, hfl, hfx, hls⟩
                    have F22 : Hid _ := F21.out.kept gg
                    have V22 : Hid _ := And.intro (V21.out.1.kept gg) V21.out.2
                    have hn1 := hls.nL
                    simp only [List.length_cons, List.length_nil] at hn1
                    subst hn1
                    obtain ⟨bM, oM, rfl, a0, a1, a2, a3⟩ := hls.rs 0 0 rfl
                    obtain ⟨bM', oM', eM, b0', b1', b2', b3'⟩ := hls.rs 1 1 rfl
                    cases eM
                    rw [HI6.out.1] at a0 a1 a2 a3
                    rw [HI6.out.2] at b0' b1' b2' b3'
                    simp only [Nat.mul_zero, Nat.mul_one, Nat.add_zero, Nat.add_assoc, Nat.reduceAdd] at a0 a1 a2 a3 b0' b1' b2' b3'
                    have HM8 : Hid (¬ foot fb bb db wb bM) := fun x => by have h1 := hfl bM oM rfl; have h2 := F21.out.rep.lt bM x; omega
                    clear gg F21 V21 KK j6 hnl hnx hfl hfx hls q0 q1 q2 r0 r1 r2 r3 t0 t1 t2 t3 u0 u1 v0 v1 d0 d1 d2 d3 d4 d5 d6 d7 f0 f1 f2 f3
                    have KK : Hid _ := And.intro (K4.out.1.kept F22.out.gr) (K4.out.2.kept F22.out.gr)
                    obtain ⟨q0, q1, q2⟩ := geo3 (KK.out.1).ge
                    obtain ⟨r0, r1, r2, r3⟩ := rec4 (KK.out.1).r
                    obtain ⟨t0, t1, t2, t3⟩ := rec4 (KK.out.1).s
                    obtain ⟨u0, u1⟩ := bx2 (KK.out.1).c
                    obtain ⟨v0, v1⟩ := bx2 (KK.out.1).d
                    obtain ⟨d0, d1, d2, d3, d4, d5, d6, d7⟩ := plan8 (KK.out.2)
                    obtain ⟨f0, f1, f2, f3⟩ := bx4 V22.out.1
                    try simp only
                    go_wp2_with (first | (go_at_call 10; with_reducible refine (num9_any _ _).mono ?_; rintro e w' ⟨rfl, rfl⟩))
                    refine (j7 _ _ _ _ _ F22.out.rep).mono ?_
                    rintro e w23 ⟨rfl, rfl⟩
                    try simp only
                    go_wp2_with (first | (go_at_call 10; with_reducible refine (num9_any _ _).mono ?_; rintro e w' ⟨rfl, rfl⟩))
                    have hS : (fun w' => M8 w4 w' fb bb db wb m8 (fun _ => False) gf bM oM kq ks kl ku) (World.drew _) := ⟨F22.out.kept (Pa.drewG _), V22.out.1.kept (Pa.drewG _), V22.out.2, HM8.out, a0, a1, a2, a3, b0', b1', b2', b3'⟩
                    refine wp_region_held_drew (S := fun w' => M8 w4 w' fb bb db wb m8 (fun _ => False) gf bM oM kq ks kl ku) (by kernel_rfl) hS (fun hH => ?_)
                    clear hS F22 V22 KK a0 a1 a2 a3 b0' b1' b2' b3' q0 q1 q2 r0 r1 r2 r3 t0 t1 t2 t3 u0 u1 v0 v1 d0 d1 d2 d3 d4 d5 d6 d7 f0 f1 f2 f3
                    refine wpAnyH_take (i := 0) (oi := ⟨some 178, _, _, _, _, _⟩) (v := .slice (some ⟨bM, oM, none⟩) 2 cM) rfl (by kernel_rfl) (by kernel_rfl) (by kernel_rfl) (fun _ _ _ h => h) (Or.inl ⟨by rfl, fun w hSw => by go_simp⟩) hH ?_
                    simp only [Act.put, List.setIfInBounds_toArray, List.set_cons_zero, List.set_cons_succ]
                    refine wpAnyH_take (i := 1) (oi := ⟨some 179, _, _, _, _, _⟩) (v := .int .i64 2) rfl (by kernel_rfl) (by kernel_rfl) (by kernel_rfl) (fun _ _ _ h => h) (Or.inl ⟨by rfl, fun w hSw => by go_simp⟩) hH ?_
                    simp only [Act.put, List.setIfInBounds_toArray, List.set_cons_zero, List.set_cons_succ]
                    refine wpAnyH_take (i := 2) (oi := ⟨some 180, _, _, _, _, _⟩) (v := .bool true) rfl (by kernel_rfl) (by kernel_rfl) (by kernel_rfl) (fun _ _ _ h => h) (Or.inl ⟨by rfl, fun w hSw => by go_simp⟩) hH ?_
                    simp only [Act.put, List.setIfInBounds_toArray, List.set_cons_zero, List.set_cons_succ]
                    refine wpAnyH_take (i := 3) (oi := ⟨some 181, _, _, _, _, _⟩) (v := .bool true) rfl (by kernel_rfl) (by kernel_rfl) (by kernel_rfl) (fun _ _ _ h => h) (Or.inl ⟨by rfl, fun w hSw => by go_simp⟩) hH ?_
                    simp only [Act.put, List.setIfInBounds_toArray, List.set_cons_zero, List.set_cons_succ]
                    refine wpAnyH_take (i := 4) (oi := ⟨some 182, _, _, _, _, _⟩) (v := .slice (some ⟨bM, oM, none⟩) 2 cM) rfl (by kernel_rfl) (by kernel_rfl) (by kernel_rfl) (fun _ _ _ h => h) (Or.inl ⟨by rfl, fun w hSw => by go_simp⟩) hH ?_
                    simp only [Act.put, List.setIfInBounds_toArray, List.set_cons_zero, List.set_cons_succ]
                    refine wpAnyH_take (i := 5) (oi := ⟨some 183, _, _, _, _, _⟩) (v := .pointer (some ⟨bM, oM, none⟩)) rfl (by kernel_rfl) (by kernel_rfl) (by kernel_rfl) (fun _ _ _ h => h) (Or.inl ⟨by rfl, fun w hSw => by go_simp⟩) hH ?_
                    simp only [Act.put, List.setIfInBounds_toArray, List.set_cons_zero, List.set_cons_succ]
                    refine wpAnyH_take (i := 6) (oi := ⟨some 184, _, _, _, _, _⟩) (v := .agg #[.int .u64 kq, .int .i64 ks, .int .i64 kl, .int .u64 ku]) rfl (by kernel_rfl) (by kernel_rfl) (by kernel_rfl) (fun _ _ _ h => h) (Or.inl ⟨by rfl, fun w hSw => by obtain ⟨a0, a1, a2, a3⟩ := hSw.a; go_simp⟩) hH ?_
                    simp only [Act.put, List.setIfInBounds_toArray, List.set_cons_zero, List.set_cons_succ]
                    refine wpAnyH_take (i := 7) (oi := ⟨some 185, _, _, _, _, _⟩) (v := .agg #[.int .u64 kq, .int .i64 ks, .int .i64 kl, .int .u64 ku]) rfl (by kernel_rfl) (by kernel_rfl) (by kernel_rfl) (fun _ _ _ h => h) (Or.inl ⟨by rfl, fun w hSw => by obtain ⟨f0, f1, f2, f3⟩ := bx4 hSw.v; go_simp⟩) hH ?_
                    simp only [Act.put, List.setIfInBounds_toArray, List.set_cons_zero, List.set_cons_succ]
                    refine wpAnyH_take (i := 8) (oi := ⟨some 186, _, _, _, _, _⟩) (v := .bool true) rfl (by kernel_rfl) (by kernel_rfl) (by kernel_rfl) (fun _ _ _ h => h) (Or.inl ⟨by rfl, fun w hSw => by go_simp⟩) hH ?_
                    simp only [Act.put, List.setIfInBounds_toArray, List.set_cons_zero, List.set_cons_succ]
                    refine wpAnyH_take (i := 9) (oi := ⟨some 187, _, _, _, _, _⟩) (v := .bool true) rfl (by kernel_rfl) (by kernel_rfl) (by kernel_rfl) (fun _ _ _ h => h) (Or.inl ⟨by rfl, fun w hSw => by go_simp⟩) hH ?_
                    simp only [Act.put, List.setIfInBounds_toArray, List.set_cons_zero, List.set_cons_succ]
                    refine wpAnyH_take (i := 10) (oi := ⟨some 188, _, _, _, _, _⟩) (v := .bool true) rfl (by kernel_rfl) (by kernel_rfl) (by kernel_rfl) (fun _ _ _ h => h) (Or.inl ⟨by rfl, fun w hSw => by go_simp⟩) hH ?_
                    simp only [Act.put, List.setIfInBounds_toArray, List.set_cons_zero, List.set_cons_succ]
                    refine wpAnyH_take (i := 11) (oi := ⟨some 189, _, _, _, _, _⟩) (v := .slice (some ⟨bM, oM, none⟩) 2 cM) rfl (by kernel_rfl) (by kernel_rfl) (by kernel_rfl) (fun _ _ _ h => h) (Or.inl ⟨by rfl, fun w hSw => by go_simp⟩) hH ?_
                    simp only [Act.put, List.setIfInBounds_toArray, List.set_cons_zero, List.set_cons_succ]
                    refine wpAnyH_take (i := 12) (oi := ⟨some 190, _, _, _, _, _⟩) (v := .pointer (some ⟨bM, oM + 4, none⟩)) rfl (by kernel_rfl) (by kernel_rfl) (by kernel_rfl) (fun _ _ _ h => h) (Or.inl ⟨by rfl, fun w hSw => by go_simp⟩) hH ?_
                    simp only [Act.put, List.setIfInBounds_toArray, List.set_cons_zero, List.set_cons_succ]
                    refine wpAnyH_take (i := 13) (oi := ⟨some 191, _, _, _, _, _⟩) (v := .agg #[.int .u64 kq, .int .i64 ks, .int .i64 kl, .int .u64 ku]) rfl (by kernel_rfl) (by kernel_rfl) (by kernel_rfl) (fun _ _ _ h => h) (Or.inl ⟨by rfl, fun w hSw => by obtain ⟨a0, a1, a2, a3⟩ := hSw.b; go_simp⟩) hH ?_
                    simp only [Act.put, List.setIfInBounds_toArray, List.set_cons_zero, List.set_cons_succ]
                    refine wpAnyH_take (i := 14) (oi := ⟨some 192, _, _, _, _, _⟩) (v := .agg #[.int .u64 kq, .int .i64 ks, .int .i64 kl, .int .u64 ku]) rfl (by kernel_rfl) (by kernel_rfl) (by kernel_rfl) (fun _ _ _ h => h) (Or.inl ⟨by rfl, fun w hSw => by obtain ⟨f0, f1, f2, f3⟩ := bx4 hSw.v; go_simp⟩) hH ?_
                    simp only [Act.put, List.setIfInBounds_toArray, List.set_cons_zero, List.set_cons_succ]
                    refine wpAnyH_take (i := 15) (oi := ⟨some 193, _, _, _, _, _⟩) (v := .bool true) rfl (by kernel_rfl) (by kernel_rfl) (by kernel_rfl) (fun _ _ _ h => h) (Or.inl ⟨by rfl, fun w hSw => by go_simp⟩) hH ?_
                    simp only [Act.put, List.setIfInBounds_toArray, List.set_cons_zero, List.set_cons_succ]
                    refine wpAnyH_take (i := 16) (oi := ⟨some 194, _, _, _, _, _⟩) (v := .bool true) rfl (by kernel_rfl) (by kernel_rfl) (by kernel_rfl) (fun _ _ _ h => h) (Or.inl ⟨by rfl, fun w hSw => by go_simp⟩) hH ?_
                    simp only [Act.put, List.setIfInBounds_toArray, List.set_cons_zero, List.set_cons_succ]
                    refine wpAnyH_take (i := 17) (oi := ⟨some 195, _, _, _, _, _⟩) (v := .bool true) rfl (by kernel_rfl) (by kernel_rfl) (by kernel_rfl) (fun _ _ _ h => h) (Or.inl ⟨by rfl, fun w hSw => by go_simp⟩) hH ?_
                    simp only [Act.put, List.setIfInBounds_toArray, List.set_cons_zero, List.set_cons_succ]
                    refine wpAnyH_take (i := 18) (oi := ⟨some 196, _, _, _, _, _⟩) (v := .pointer (some ⟨fb, 0, none⟩)) rfl (by kernel_rfl) (by kernel_rfl) (by kernel_rfl) (fun _ _ _ h => h) (Or.inl ⟨by rfl, fun w hSw => by go_simp⟩) hH ?_
                    simp only [Act.put, List.setIfInBounds_toArray, List.set_cons_zero, List.set_cons_succ]
                    refine wpAnyH_take (i := 19) (oi := ⟨some 197, _, _, _, _, _⟩) (v := .agg #[.int .i64 s0, .int .i64 p0, .int .i64 b0, .int .i64 x0, .int .i64 x1, .int .i64 y0, .int .i64 y1, .int .i64 n]) rfl (by kernel_rfl) (by kernel_rfl) (by kernel_rfl) (fun _ _ _ h => h) (Or.inl ⟨by rfl, fun w hSw => by obtain ⟨d0, d1, d2, d3, d4, d5, d6, d7⟩ := plan8 (K4.out.2.kept hSw.f.gr); go_simp⟩) hH ?_
                    simp only [Act.put, List.setIfInBounds_toArray, List.set_cons_zero, List.set_cons_succ]
                    refine wpAnyH_take (i := 20) (oi := ⟨some 198, _, _, _, _, _⟩) (v := .agg #[.int .u64 kq, .int .i64 ks, .int .i64 kl, .int .u64 ku]) rfl (by kernel_rfl) (by kernel_rfl) (by kernel_rfl) (fun _ _ _ h => h) (Or.inl ⟨by rfl, fun w hSw => by obtain ⟨f0, f1, f2, f3⟩ := bx4 hSw.v; go_simp⟩) hH ?_
                    simp only [Act.put, List.setIfInBounds_toArray, List.set_cons_zero, List.set_cons_succ]
                    refine wpAnyH_ready (rs := [21]) (by kernel_rfl) (by simp) ?_
                    refine AllReadyH.cons rfl (fun K hK => ?_) AllReadyH.nil
                    go_simp
                    go_wp2_with (go_at_call 17; refine (j8 _ _ _ _ _ hH.f.rep).mono ?_; rintro e w24 ⟨rfl, hC, hQ⟩)
                    replace hH := hH.chg hC hQ
                    clear hC hQ
                    refine hK.out _ _ hH (fun _ => ?_)
                    clear hK K
                    refine wpAnyH_ready (rs := [22]) (by kernel_rfl) (by simp) ?_
                    refine AllReadyH.cons rfl (fun K hK => ?_) AllReadyH.nil
                    go_simp
                    go_wp2_with ((go_at_call 10; with_reducible refine (num9_any _ _).mono ?_; rintro e w' ⟨rfl, rfl⟩))
                    refine hK.out _ _ hH (fun _ => ?_)
                    clear hK K
                    refine wpAnyH_take (i := 23) (oi := ⟨some 201, _, _, _, _, _⟩) (v := .bool true) rfl (by kernel_rfl) (by kernel_rfl) (by kernel_rfl) (fun _ _ _ h => h) (Or.inl ⟨by rfl, fun w hSw => by go_simp⟩) hH ?_
                    simp only [Act.put, List.setIfInBounds_toArray, List.set_cons_zero, List.set_cons_succ]
                    refine wpAnyH_take (i := 24) (oi := ⟨some 202, _, _, _, _, _⟩) (v := .bool true) rfl (by kernel_rfl) (by kernel_rfl) (by kernel_rfl) (fun _ _ _ h => h) (Or.inl ⟨by rfl, fun w hSw => by go_simp⟩) hH ?_
                    simp only [Act.put, List.setIfInBounds_toArray, List.set_cons_zero, List.set_cons_succ]
                    refine wpAnyH_take (i := 25) (oi := ⟨some 203, _, _, _, _, _⟩) (v := .bool true) rfl (by kernel_rfl) (by kernel_rfl) (by kernel_rfl) (fun _ _ _ h => h) (Or.inl ⟨by rfl, fun w hSw => by go_simp⟩) hH ?_
                    simp only [Act.put, List.setIfInBounds_toArray, List.set_cons_zero, List.set_cons_succ]
                    refine wpAnyH_take (i := 26) (oi := ⟨some 204, _, _, _, _, _⟩) (v := .pointer (some ⟨fb, 0, none⟩)) rfl (by kernel_rfl) (by kernel_rfl) (by kernel_rfl) (fun _ _ _ h => h) (Or.inl ⟨by rfl, fun w hSw => by go_simp⟩) hH ?_
                    simp only [Act.put, List.setIfInBounds_toArray, List.set_cons_zero, List.set_cons_succ]
                    refine wpAnyH_take (i := 28) (oi := ⟨some 206, _, _, _, _, _⟩) (v := .int .i64 op8) rfl (by kernel_rfl) (by kernel_rfl) (by kernel_rfl) (fun _ _ _ h => h) (Or.inl ⟨by rfl, fun w hSw => by go_simp⟩) hH ?_
                    simp only [Act.put, List.setIfInBounds_toArray, List.set_cons_zero, List.set_cons_succ]
                    refine wpAnyH_ready (rs := [27]) (by kernel_rfl) (by simp) ?_
                    refine AllReadyH.cons rfl (fun K hK => ?_) AllReadyH.nil
                    go_simp
                    go_wp2_with (go_at_call 18; refine (j7 _ _ _ _ _ hH.f.rep).mono ?_; rintro e w' ⟨rfl, rfl⟩)
                    refine hK.out _ _ hH (fun _ => ?_)
                    clear hK K
                    refine wpAnyH_take (i := 29) (oi := ⟨some 207, _, _, _, _, _⟩) (v := .bool true) rfl (by kernel_rfl) (by kernel_rfl) (by kernel_rfl) (fun _ _ _ h => h) (Or.inl ⟨by rfl, fun w hSw => by go_simp⟩) hH ?_
                    simp only [Act.put, List.setIfInBounds_toArray, List.set_cons_zero, List.set_cons_succ]
                    refine wpAnyH_take (i := 30) (oi := ⟨some 208, _, _, _, _, _⟩) (v := .bool true) rfl (by kernel_rfl) (by kernel_rfl) (by kernel_rfl) (fun _ _ _ h => h) (Or.inl ⟨by rfl, fun w hSw => by go_simp⟩) hH ?_
                    simp only [Act.put, List.setIfInBounds_toArray, List.set_cons_zero, List.set_cons_succ]
                    refine wpAnyH_take (i := 31) (oi := ⟨some 209, _, _, _, _, _⟩) (v := .bool true) rfl (by kernel_rfl) (by kernel_rfl) (by kernel_rfl) (fun _ _ _ h => h) (Or.inl ⟨by rfl, fun w hSw => by go_simp⟩) hH ?_
                    simp only [Act.put, List.setIfInBounds_toArray, List.set_cons_zero, List.set_cons_succ]
                    refine wpAnyH_ready (rs := [32]) (by kernel_rfl) (by simp) ?_
                    refine AllReadyH.cons rfl (fun K hK => ?_) AllReadyH.nil
                    go_simp
                    go_wp2_with (go_at_call 8; refine (HL.out _).mono ?_; rintro e wl ⟨rfl, gl⟩)
                    replace hH := hH.kept gl
                    clear gl
                    refine hK.out _ _ hH (fun _ => ?_)
                    clear hK K
                    refine wpAnyH_take (i := 33) (oi := ⟨some 211, _, _, _, _, _⟩) (v := .bool true) rfl (by kernel_rfl) (by kernel_rfl) (by kernel_rfl) (fun _ _ _ h => h) (Or.inl ⟨by rfl, fun w hSw => by go_simp⟩) hH ?_
                    simp only [Act.put, List.setIfInBounds_toArray, List.set_cons_zero, List.set_cons_succ]
                    refine wpAnyH_take (i := 34) (oi := ⟨some 10, _, _, _, _, _⟩) (v := .bool true) rfl (by kernel_rfl) (by kernel_rfl) (by kernel_rfl) (fun _ _ _ h => h) (Or.inl ⟨by rfl, fun w hSw => by go_simp⟩) hH ?_
                    simp only [Act.put, List.setIfInBounds_toArray, List.set_cons_zero, List.set_cons_succ]
                    refine wpAnyH_done (by kernel_rfl) ?_ _
                    have HF : Hid _ := grown_trans K4.out.1.gr hH.f.gr
                    clear hH
                    go_wp2
                    go_ret
                    exact ⟨rfl, grown_below HF.out⟩
                · have EQ1 : Hid _ := q1
                  clear q1
                  by_cases q2 : kq = sq ∧ ks = ss ∧ kl = sl ∧ ku = su
                  · have EQ2 : Hid _ := q2
                    clear q2
                    have hS : (fun w' => Fs w4 w' fb bb db wb m4 (fun _ => False) ∧ w'.cell? ⟨bL, oL, none⟩ = some (.int .u64 kq) ∧ w'.cell? ⟨bL, oL + 1, none⟩ = some (.int .i64 ks) ∧ w'.cell? ⟨bL, oL + 2, none⟩ = some (.int .i64 kl) ∧ w'.cell? ⟨bL, oL + 3, none⟩ = some (.int .u64 ku)) w14.drew := ⟨F14.out.kept (Pa.drewG _), l0, l1, l2, l3⟩
                    refine wp_region_held_drew (S := fun w' => Fs w4 w' fb bb db wb m4 (fun _ => False) ∧ w'.cell? ⟨bL, oL, none⟩ = some (.int .u64 kq) ∧ w'.cell? ⟨bL, oL + 1, none⟩ = some (.int .i64 ks) ∧ w'.cell? ⟨bL, oL + 2, none⟩ = some (.int .i64 kl) ∧ w'.cell? ⟨bL, oL + 3, none⟩ = some (.int .u64 ku)) (by kernel_rfl) hS (fun hH => ?_)
                    clear hS F14 KK l0 l1 l2 l3 q0 q1 q2 r0 r1 r2 r3 t0 t1 t2 t3 u0 u1 v0 v1 d0 d1 d2 d3 d4 d5 d6 d7
                    refine wpAnyH_take (i := 0) (oi := ⟨some 117, _, _, _, _, _⟩) (v := .slice (some ⟨bL, oL, none⟩) nL cL) rfl (by kernel_rfl) (by kernel_rfl) (by kernel_rfl) (fun _ _ _ h => h) (Or.inl ⟨by rfl, fun w hSw => by go_simp⟩) hH ?_
                    simp only [Act.put, List.setIfInBounds_toArray, List.set_cons_zero, List.set_cons_succ]
                    refine wpAnyH_take (i := 1) (oi := ⟨some 118, _, _, _, _, _⟩) (v := .int .i64 nL) rfl (by kernel_rfl) (by kernel_rfl) (by kernel_rfl) (fun _ _ _ h => h) (Or.inl ⟨by rfl, fun w hSw => by go_simp⟩) hH ?_
                    simp only [Act.put, List.setIfInBounds_toArray, List.set_cons_zero, List.set_cons_succ]
                    refine wpAnyH_take (i := 2) (oi := ⟨some 119, _, _, _, _, _⟩) (v := .bool false) rfl (by kernel_rfl) (by kernel_rfl) (by kernel_rfl) (fun _ _ _ h => h) (Or.inl ⟨by rfl, fun w hSw => by (go_simp; try omega)⟩) hH ?_
                    simp only [Act.put, List.setIfInBounds_toArray, List.set_cons_zero, List.set_cons_succ]
                    refine wpAnyH_take (i := 3) (oi := ⟨some 120, _, _, _, _, _⟩) (v := .bool false) rfl (by kernel_rfl) (by kernel_rfl) (by kernel_rfl) (fun _ _ _ h => h) (Or.inl ⟨by rfl, fun w hSw => by go_simp⟩) hH ?_
                    simp only [Act.put, List.setIfInBounds_toArray, List.set_cons_zero, List.set_cons_succ]
                    refine wpAnyH_take (i := 4) (oi := ⟨some 121, _, _, _, _, _⟩) (v := .slice (some ⟨bL, oL, none⟩) nL cL) rfl (by kernel_rfl) (by kernel_rfl) (by kernel_rfl) (fun _ _ _ h => h) (Or.inl ⟨by rfl, fun w hSw => by go_simp⟩) hH ?_
                    simp only [Act.put, List.setIfInBounds_toArray, List.set_cons_zero, List.set_cons_succ]
                    refine wpAnyH_take (i := 5) (oi := ⟨some 122, _, _, _, _, _⟩) (v := .pointer (some ⟨bL, oL, none⟩)) rfl (by kernel_rfl) (by kernel_rfl) (by kernel_rfl) (fun _ _ _ h => h) (Or.inl ⟨by rfl, fun w hSw => by (go_simp; try omega)⟩) hH ?_
                    simp only [Act.put, List.setIfInBounds_toArray, List.set_cons_zero, List.set_cons_succ]
                    refine wpAnyH_take (i := 6) (oi := ⟨some 123, _, _, _, _, _⟩) (v := .agg #[.int .u64 kq, .int .i64 ks, .int .i64 kl, .int .u64 ku]) rfl (by kernel_rfl) (by kernel_rfl) (by kernel_rfl) (fun _ _ _ h => h) (Or.inl ⟨by rfl, fun w hSw => by obtain ⟨-, l0, l1, l2, l3⟩ := hSw; go_simp⟩) hH ?_
                    simp only [Act.put, List.setIfInBounds_toArray, List.set_cons_zero, List.set_cons_succ]
                    refine wpAnyH_take (i := 7) (oi := ⟨some 124, _, _, _, _, _⟩) (v := .agg #[.int .u64 rq, .int .i64 rs, .int .i64 rl, .int .u64 ru]) rfl (by kernel_rfl) (by kernel_rfl) (by kernel_rfl) (fun _ _ _ h => h) (Or.inl ⟨by rfl, fun w hSw => by obtain ⟨r0, r1, r2, r3⟩ := rec4 (K4.out.1.kept hSw.1.gr).r; go_simp⟩) hH ?_
                    simp only [Act.put, List.setIfInBounds_toArray, List.set_cons_zero, List.set_cons_succ]
                    refine wpAnyH_take (i := 8) (oi := ⟨some 125, _, _, _, _, _⟩) (v := .bool true) rfl (by kernel_rfl) (by kernel_rfl) (by kernel_rfl) (fun _ _ _ h => h) (Or.inl ⟨by rfl, fun w hSw => by (go_simp; try (first | (intro h1 h2 h3 h4; exact EQ1.out ⟨h1, h2, h3, h4⟩) | (have e4 := EQ1.out; simp [e4.1, e4.2.1, e4.2.2.1, e4.2.2.2])))⟩) hH ?_
                    simp only [Act.put, List.setIfInBounds_toArray, List.set_cons_zero, List.set_cons_succ]
                    refine wpAnyH_take (i := 9) (oi := ⟨some 126, _, _, _, _, _⟩) (v := .bool true) rfl (by kernel_rfl) (by kernel_rfl) (by kernel_rfl) (fun _ _ _ h => h) (Or.inl ⟨by rfl, fun w hSw => by go_simp⟩) hH ?_
                    simp only [Act.put, List.setIfInBounds_toArray, List.set_cons_zero, List.set_cons_succ]
                    refine wpAnyH_take (i := 10) (oi := ⟨some 127, _, _, _, _, _⟩) (v := .slice (some ⟨bL, oL, none⟩) nL cL) rfl (by kernel_rfl) (by kernel_rfl) (by kernel_rfl) (fun _ _ _ h => h) (Or.inl ⟨by rfl, fun w hSw => by go_simp⟩) hH ?_
                    simp only [Act.put, List.setIfInBounds_toArray, List.set_cons_zero, List.set_cons_succ]
                    refine wpAnyH_take (i := 11) (oi := ⟨some 128, _, _, _, _, _⟩) (v := .pointer (some ⟨bL, oL, none⟩)) rfl (by kernel_rfl) (by kernel_rfl) (by kernel_rfl) (fun _ _ _ h => h) (Or.inl ⟨by rfl, fun w hSw => by (go_simp; try omega)⟩) hH ?_
                    simp only [Act.put, List.setIfInBounds_toArray, List.set_cons_zero, List.set_cons_succ]
                    refine wpAnyH_take (i := 12) (oi := ⟨some 129, _, _, _, _, _⟩) (v := .agg #[.int .u64 kq, .int .i64 ks, .int .i64 kl, .int .u64 ku]) rfl (by kernel_rfl) (by kernel_rfl) (by kernel_rfl) (fun _ _ _ h => h) (Or.inl ⟨by rfl, fun w hSw => by obtain ⟨-, l0, l1, l2, l3⟩ := hSw; go_simp⟩) hH ?_
                    simp only [Act.put, List.setIfInBounds_toArray, List.set_cons_zero, List.set_cons_succ]
                    refine wpAnyH_take (i := 13) (oi := ⟨some 130, _, _, _, _, _⟩) (v := .agg #[.int .u64 sq, .int .i64 ss, .int .i64 sl, .int .u64 su]) rfl (by kernel_rfl) (by kernel_rfl) (by kernel_rfl) (fun _ _ _ h => h) (Or.inl ⟨by rfl, fun w hSw => by obtain ⟨t0, t1, t2, t3⟩ := rec4 (K4.out.1.kept hSw.1.gr).s; go_simp⟩) hH ?_
                    simp only [Act.put, List.setIfInBounds_toArray, List.set_cons_zero, List.set_cons_succ]
                    refine wpAnyH_take (i := 14) (oi := ⟨some 131, _, _, _, _, _⟩) (v := .bool false) rfl (by kernel_rfl) (by kernel_rfl) (by kernel_rfl) (fun _ _ _ h => h) (Or.inl ⟨by rfl, fun w hSw => by (go_simp; try (first | (intro h1 h2 h3 h4; exact EQ2.out ⟨h1, h2, h3, h4⟩) | (have e4 := EQ2.out; simp [e4.1, e4.2.1, e4.2.2.1, e4.2.2.2])))⟩) hH ?_
                    simp only [Act.put, List.setIfInBounds_toArray, List.set_cons_zero, List.set_cons_succ]
                    refine wpAnyH_take (i := 15) (oi := ⟨some 132, _, _, _, _, _⟩) (v := .bool false) rfl (by kernel_rfl) (by kernel_rfl) (by kernel_rfl) (fun _ _ _ h => h) (Or.inl ⟨by rfl, fun w hSw => by go_simp⟩) hH ?_
                    simp only [Act.put, List.setIfInBounds_toArray, List.set_cons_zero, List.set_cons_succ]
                    refine wpAnyH_take (i := 16) (oi := ⟨some 133, _, _, _, _, _⟩) (v := .bool false) rfl (by kernel_rfl) (by kernel_rfl) (by kernel_rfl) (fun _ _ _ h => h) (Or.inl ⟨by rfl, fun w hSw => by go_simp⟩) hH ?_
                    simp only [Act.put, List.setIfInBounds_toArray, List.set_cons_zero, List.set_cons_succ]
                    refine wpAnyH_done (by kernel_rfl) ?_ _
                    have F15 : Hid _ := hH.1
                    obtain ⟨-, l0, l1, l2, l3⟩ := hH
                    have hrf : rrt ⟨kq, ks, kl, ku⟩ = true := by
                      obtain ⟨e1, e2, e3, e4⟩ := EQ2.out
                      rw [e1, e2, e3, e4]
                      exact HRR.out.2
                    obtain ⟨hk4, D1, D3, hP, D4⟩ := HP4.out
                    have hfo := HD.out.2
                    have hqf := hfo.1.1
                    have huf := hfo.2.2.2
                    obtain ⟨E1, E2, E3⟩ := arm_ok (m := m4) (n := dn) (ts := td) (by omega) D4
                    have E4 := Fm.good_arm D1 dn td hdn.2
                    have hk5 : kok (m4.arm dn td).1 ⟨s0, p0, b0, x0, x1, y0, y1, n⟩ = true := by rw [(like_arm m4 dn td).kok]; exact hk4
                    have E5 : kda (m4.arm dn td).1 (kfi (m4.arm dn td).1) = (⟨kq, ks, kl, ku⟩, 0) := by rw [kfi_arm, kda_arm]; exact HD.out.1
                    have j1 := fun W fb bb db wb (h : PRep W fb bb db wb m4 (fun _ => False)) (R : Row W aD td.length td) hY => prep_arm h D1 (fun x hx => hx.elim) dn aD kD td R hY
                    rw [E1] at j1
                    have hld : td.length = ld := HLEN.out.2
                    rw [hld] at j1
                    clear E1 hld D1 D3 D4 hk4
                    generalize (m4.arm dn td).1 = m5 at *
                    obtain ⟨G1, G2, G3, G4⟩ := krn_repair E4 hk5 hrf hqf huf E2 E5
                    have j2 := fun W fb bb db wb (h : PRep W fb bb db wb m5 (fun _ => False)) => prepair_any h E4 (by decide) ⟨s0, p0, b0, x0, x1, y0, y1, n⟩ hP ⟨kq, ks, kl, ku⟩ hfo
                    unfold PkPost at j2
                    have hk6 : kok (krn m5 ⟨s0, p0, b0, x0, x1, y0, y1, n⟩ ⟨kq, ks, kl, ku⟩ false).1 ⟨s0, p0, b0, x0, x1, y0, y1, n⟩ = true := by rw [G1.kok]; exact hk5
                    clear G1 E2 E3 E4 E5 hk5
                    generalize krn m5 ⟨s0, p0, b0, x0, x1, y0, y1, n⟩ ⟨kq, ks, kl, ku⟩ false = Q6 at *
                    obtain ⟨m6, e6⟩ := Q6
                    simp only at G2 G3 G4 j2 hk6
                    have hk7 : kok m6.boot ⟨s0, p0, b0, x0, x1, y0, y1, n⟩ = true := by rw [(like_boot m6).kok]; exact hk6
                    have H1 := Fm.good_boot G2
                    have H2 : ∃ x ∈ kli m6.boot, (kda m6.boot x).1 = ⟨kq, ks, kl, ku⟩ ∨ (kda m6.boot x).1 = ⟨kq, ks, kl, ku⟩ := ⟨kfi m5, kli_mem (kfi_lt m5) G4, Or.inl (by rw [kda_boot, G4])⟩
                    have j3 := fun W fb bb db wb (h : PRep W fb bb db wb m6 (fun _ => False)) => prep_boot h
                    have j4 := fun W fb bb db wb (h : PRep W fb bb db wb m6.boot (fun _ => False)) => tells_any h H1 ⟨s0, p0, b0, x0, x1, y0, y1, n⟩ hP hk7 rfl ⟨kq, ks, kl, ku⟩ ⟨kq, ks, kl, ku⟩ hfo hfo h.byt H2
                    obtain ⟨I1, I2, I3, I4, I5, I6⟩ := krn_calm (all := false) H1 hk7 hrf hqf huf rfl rfl
                    have j5 := fun W fb bb db wb (h : PRep W fb bb db wb m6.boot (fun _ => False)) => prepair_any h H1 (by decide) ⟨s0, p0, b0, x0, x1, y0, y1, n⟩ hP ⟨kq, ks, kl, ku⟩ hfo
                    unfold PkPost at j5
                    rw [I1] at j5
                    have hk8 : kok (krn m6.boot ⟨s0, p0, b0, x0, x1, y0, y1, n⟩ ⟨kq, ks, kl, ku⟩ false).1 ⟨s0, p0, b0, x0, x1, y0, y1, n⟩ = true := by rw [I2.kok]; exact hk7
                    clear I1 I2 I5 H1 H2 hk6 hk7 G2 G4
                    generalize (krn m6.boot ⟨s0, p0, b0, x0, x1, y0, y1, n⟩ ⟨kq, ks, kl, ku⟩ false).1 = m8 at *
                    generalize m6.boot = m7 at *
                    have hlo8 : klo m8 ⟨s0, p0, b0, x0, x1, y0, y1, n⟩ = ([0, 1], 0) := by unfold klo; rw [if_neg (by rw [hk8]; simp), I4, if_neg (by simp), (kfi_both I6).2]
                    have j6 := fun W fb bb db wb (h : PRep W fb bb db wb m8 (fun _ => False)) => pload_any h I3 ⟨s0, p0, b0, x0, x1, y0, y1, n⟩ hP
                    unfold LdPost at j6
                    rw [hlo8] at j6
                    have j7 := fun W fb bb db wb (h : PRep W fb bb db wb m8 (fun _ => False)) => h.ops
                    have j8 := fun W fb bb db wb (h : PRep W fb bb db wb m8 (fun _ => False)) => prepair_any h I3 (by decide) ⟨s0, p0, b0, x0, x1, y0, y1, n⟩ hP ⟨kq, ks, kl, ku⟩ hfo
                    unfold PkPost at j8
                    rw [krn_both hk8 hrf I4 I6] at j8
                    have HI6 : Hid _ := I6
                    have HE6 : Hid _ := G3
                    clear hlo8 hk8 I3 I4 I6 G3 hrf hqf huf hfo hP
                    generalize m8.ops = op8 at *
                    simp only [Pa.Pl.val, Rc.val] at j2 j4 j5 j6 j8
                    have F16 : Hid (Fs w4 (w14.alloc (.cells #[.int .u64 kq, .int .i64 ks, .int .i64 kl, .int .u64 ku] 26)).drew fb bb db wb m4 (fun _ => False)) := F15.out.kept (World.grownBy_alloc w14.drew _ _)
                    have V16 : Hid (Bx (w14.alloc (.cells #[.int .u64 kq, .int .i64 ks, .int .i64 kl, .int .u64 ku] 26)).drew w14.heap.size 26 [.int .u64 kq, .int .i64 ks, .int .i64 kl, .int .u64 ku] ∧ ¬ foot fb bb db wb w14.heap.size) := ⟨Bx.new w14.drew 26 [.int .u64 kq, .int .i64 ks, .int .i64 kl, .int .u64 ku], fun x => Nat.lt_irrefl _ (F15.out.rep.lt _ x)⟩
                    clear F15
                    have KK : Hid _ := And.intro (K4.out.1.kept F16.out.gr) (K4.out.2.kept F16.out.gr)
                    obtain ⟨q0, q1, q2⟩ := geo3 (KK.out.1).ge
                    obtain ⟨r0, r1, r2, r3⟩ := rec4 (KK.out.1).r
                    obtain ⟨t0, t1, t2, t3⟩ := rec4 (KK.out.1).s
                    obtain ⟨u0, u1⟩ := bx2 (KK.out.1).c
                    obtain ⟨v0, v1⟩ := bx2 (KK.out.1).d
                    obtain ⟨d0, d1, d2, d3, d4, d5, d6, d7⟩ := plan8 (KK.out.2)
                    obtain ⟨f0, f1, f2, f3⟩ := bx4 V16.out.1
                    go_wp2_with (first | (go_at_call 10; with_reducible refine (num9_any _ _).mono ?_; rintro e w' ⟨rfl, rfl⟩))
                    generalize (w14.alloc (.cells #[.int .u64 kq, .int .i64 ks, .int .i64 kl, .int .u64 ku] 26)).drew = W16 at *
                    generalize w14.heap.size = gf at *
                    have hY := HX.out.2.2.2.in_ (grown_trans K4.out.1.gr F16.out.gr) (foot fb bb db wb) (fun b hb => F16.out.nf (Nat.lt_of_lt_of_le hb K4.out.1.gr.size))
                    refine (j1 _ _ _ _ _ F16.out.rep hY.1 hY.2).mono ?_
                    rintro e w17 ⟨rfl, hC, hQ⟩
                    have F17 : Hid _ := F16.out.call hC hQ
                    have V17 : Hid _ := And.intro (V16.out.1.chg hC V16.out.2) V16.out.2
                    clear hC hQ F16 V16 KK j1 q0 q1 q2 r0 r1 r2 r3 t0 t1 t2 t3 u0 u1 v0 v1 d0 d1 d2 d3 d4 d5 d6 d7 f0 f1 f2 f3
                    have KK : Hid _ := And.intro (K4.out.1.kept F17.out.gr) (K4.out.2.kept F17.out.gr)
                    obtain ⟨q0, q1, q2⟩ := geo3 (KK.out.1).ge
                    obtain ⟨r0, r1, r2, r3⟩ := rec4 (KK.out.1).r
                    obtain ⟨t0, t1, t2, t3⟩ := rec4 (KK.out.1).s
                    obtain ⟨u0, u1⟩ := bx2 (KK.out.1).c
                    obtain ⟨v0, v1⟩ := bx2 (KK.out.1).d
                    obtain ⟨d0, d1, d2, d3, d4, d5, d6, d7⟩ := plan8 (KK.out.2)
                    obtain ⟨f0, f1, f2, f3⟩ := bx4 V17.out.1
                    try simp only
                    go_wp2_with (first | (go_at_call 10; with_reducible refine (num9_any _ _).mono ?_; rintro e w' ⟨rfl, rfl⟩))
                    refine (j2 _ _ _ _ _ F17.out.rep).mono ?_
                    rintro e w18 ⟨rfl, hC, hQ⟩
                    have F18 : Hid _ := F17.out.call hC hQ
                    have V18 : Hid _ := And.intro (V17.out.1.chg hC V17.out.2) V17.out.2
                    clear hC hQ F17 V17 KK j2 q0 q1 q2 r0 r1 r2 r3 t0 t1 t2 t3 u0 u1 v0 v1 d0 d1 d2 d3 d4 d5 d6 d7 f0 f1 f2 f3
                    have KK : Hid _ := And.intro (K4.out.1.kept F18.out.gr) (K4.out.2.kept F18.out.gr)
                    obtain ⟨q0, q1, q2⟩ := geo3 (KK.out.1).ge
                    obtain ⟨r0, r1, r2, r3⟩ := rec4 (KK.out.1).r
                    obtain ⟨t0, t1, t2, t3⟩ := rec4 (KK.out.1).s
                    obtain ⟨u0, u1⟩ := bx2 (KK.out.1).c
                    obtain ⟨v0, v1⟩ := bx2 (KK.out.1).d
                    obtain ⟨d0, d1, d2, d3, d4, d5, d6, d7⟩ := plan8 (KK.out.2)
                    obtain ⟨f0, f1, f2, f3⟩ := bx4 V18.out.1
                    try simp only
                    go_wp2_with (first | (go_at_call 10; with_reducible refine (num9_any _ _).mono ?_; rintro e w' ⟨rfl, rfl⟩))
                    refine (j3 _ _ _ _ _ F18.out.rep).mono ?_
                    rintro e w19 ⟨rfl, hC, hQ⟩
                    have F19 : Hid _ := F18.out.call hC hQ
                    have V19 : Hid _ := And.intro (V18.out.1.chg hC V18.out.2) V18.out.2
                    clear hC hQ F18 V18 KK j3 q0 q1 q2 r0 r1 r2 r3 t0 t1 t2 t3 u0 u1 v0 v1 d0 d1 d2 d3 d4 d5 d6 d7 f0 f1 f2 f3
                    have KK : Hid _ := And.intro (K4.out.1.kept F19.out.gr) (K4.out.2.kept F19.out.gr)
                    obtain ⟨q0, q1, q2⟩ := geo3 (KK.out.1).ge
                    obtain ⟨r0, r1, r2, r3⟩ := rec4 (KK.out.1).r
                    obtain ⟨t0, t1, t2, t3⟩ := rec4 (KK.out.1).s
                    obtain ⟨u0, u1⟩ := bx2 (KK.out.1).c
                    obtain ⟨v0, v1⟩ := bx2 (KK.out.1).d
                    obtain ⟨d0, d1, d2, d3, d4, d5, d6, d7⟩ := plan8 (KK.out.2)
                    obtain ⟨f0, f1, f2, f3⟩ := bx4 V19.out.1
                    try simp only
                    go_wp2_with (first | (go_at_call 10; with_reducible refine (num9_any _ _).mono ?_; rintro e w' ⟨rfl, rfl⟩))
                    refine (j4 _ _ _ _ _ F19.out.rep).mono ?_
                    rintro e w20 ⟨rfl, gg⟩
                    have F20 : Hid _ := F19.out.kept gg
                    have V20 : Hid _ := And.intro (V19.out.1.kept gg) V19.out.2
                    clear gg F19 V19 KK j4 q0 q1 q2 r0 r1 r2 r3 t0 t1 t2 t3 u0 u1 v0 v1 d0 d1 d2 d3 d4 d5 d6 d7 f0 f1 f2 f3
                    have KK : Hid _ := And.intro (K4.out.1.kept F20.out.gr) (K4.out.2.kept F20.out.gr)
                    obtain ⟨q0, q1, q2⟩ := geo3 (KK.out.1).ge
                    obtain ⟨r0, r1, r2, r3⟩ := rec4 (KK.out.1).r
                    obtain ⟨t0, t1, t2, t3⟩ := rec4 (KK.out.1).s
                    obtain ⟨u0, u1⟩ := bx2 (KK.out.1).c
                    obtain ⟨v0, v1⟩ := bx2 (KK.out.1).d
                    obtain ⟨d0, d1, d2, d3, d4, d5, d6, d7⟩ := plan8 (KK.out.2)
                    obtain ⟨f0, f1, f2, f3⟩ := bx4 V20.out.1
                    try simp only
                    rcases HE6.out with rfl | rfl
                    · skip
                      go_wp2_with (first | (go_at_call 10; with_reducible refine (num9_any _ _).mono ?_; rintro e w' ⟨rfl, rfl⟩))
                      refine (j5 _ _ _ _ _ F20.out.rep).mono ?_
                      rintro e w21 ⟨rfl, hC, hQ⟩
                      have F21 : Hid _ := F20.out.call hC hQ
                      have V21 : Hid _ := And.intro (V20.out.1.chg hC V20.out.2) V20.out.2
                      clear hC hQ F20 V20 KK j5 q0 q1 q2 r0 r1 r2 r3 t0 t1 t2 t3 u0 u1 v0 v1 d0 d1 d2 d3 d4 d5 d6 d7 f0 f1 f2 f3
                      have KK : Hid _ := And.intro (K4.out.1.kept F21.out.gr) (K4.out.2.kept F21.out.gr)
                      obtain ⟨q0, q1, q2⟩ := geo3 (KK.out.1).ge
                      obtain ⟨r0, r1, r2, r3⟩ := rec4 (KK.out.1).r
                      obtain ⟨t0, t1, t2, t3⟩ := rec4 (KK.out.1).s
                      obtain ⟨u0, u1⟩ := bx2 (KK.out.1).c
                      obtain ⟨v0, v1⟩ := bx2 (KK.out.1).d
                      obtain ⟨d0, d1, d2, d3, d4, d5, d6, d7⟩ := plan8 (KK.out.2)
                      obtain ⟨f0, f1, f2, f3⟩ := bx4 V21.out.1
                      try simp only
                      go_wp2_with (first | (go_at_call 10; with_reducible refine (num9_any _ _).mono ?_; rintro e w' ⟨rfl, rfl⟩))
                      refine (j6 _ _ _ _ _ F21.out.rep).mono ?_
                      rintro e w22 ⟨gg, aM, nM, cM, aY, nY, cY, rfl, hnl, hnx, hfl, hfx, hls⟩
                      have F22 : Hid _ := F21.out.kept gg
                      have V22 : Hid _ := And.intro (V21.out.1.kept gg) V21.out.2
                      have hn1 := hls.nL
                      simp only [List.length_cons, List.length_nil] at hn1
                      subst hn1
                      obtain ⟨bM, oM, rfl, a0, a1, a2, a3⟩ := hls.rs 0 0 rfl
                      obtain ⟨bM', oM', eM, b0', b1', b2', b3'⟩ := hls.rs 1 1 rfl
                      cases eM
                      rw [HI6.out.1] at a0 a1 a2 a3
                      rw [HI6.out.2] at b0' b1' b2' b3'
                      simp only [Nat.mul_zero, Nat.mul_one, Nat.add_zero, Nat.add_assoc, Nat.reduceAdd] at a0 a1 a2 a3 b0' b1' b2' b3'
                      have HM8 : Hid (¬ foot fb bb db wb bM) := fun x => by have h1 := hfl bM oM rfl; have h2 := F21.out.rep.lt bM x; omega
                      clear gg F21 V21 KK j6 hnl hnx hfl hfx hls q0 q1 q2 r0 r1 r2 r3 t0 t1 t2 t3 u0 u1 v0 v1 d0 d1 d2 d3 d4 d5 d6 d7 f0 f1 f2 f3
                      have KK : Hid _ := And.intro (K4.out.1.kept F22.out.gr) (K4.out.2.kept F22.out.gr)
                      obtain ⟨q0, q1, q2⟩ := geo3 (KK.out.1).ge
                      obtain ⟨r0, r1, r2, r3⟩ := rec4 (KK.out.1).r
                      obtain ⟨t0, t1, t2, t3⟩ := rec4 (KK.out.1).s
                      obtain ⟨u0, u1⟩ := bx2 (KK.out.1).c
                      obtain ⟨v0, v1⟩ := bx2 (KK.out.1).d
                      obtain ⟨d0, d1, d2, d3, d4, d5, d6, d7⟩ := plan8 (KK.out.2)
                      obtain ⟨f0, f1, f2, f3⟩ := bx4 V22.out.1
                      try simp only
                      go_wp2_with (first | (go_at_call 10; with_reducible refine (num9_any _ _).mono ?_; rintro e w' ⟨rfl, rfl⟩))
                      refine (j7 _ _ _ _ _ F22.out.rep).mono ?_
                      rintro e w23 ⟨rfl, rfl⟩
                      try simp only
                      go_wp2_with (first | (go_at_call 10; with_reducible refine (num9_any _ _).mono ?_; rintro e w' ⟨rfl, rfl⟩))
                      have hS : (fun w' => M8 w4 w' fb bb db wb m8 (fun _ => False) gf bM oM kq ks kl ku) (World.drew _) := ⟨F22.out.kept (Pa.drewG _), V22.out.1.kept (Pa.drewG _), V22.out.2, HM8.out, a0, a1, a2, a3, b0', b1', b2', b3'⟩
                      refine wp_region_held_drew (S := fun w' => M8 w4 w' fb bb db wb m8 (fun _ => False) gf bM oM kq ks kl ku) (by kernel_rfl) hS (fun hH => ?_)
                      clear hS F22 V22 KK a0 a1 a2 a3 b0' b1' b2' b3' q0 q1 q2 r0 r1 r2 r3 t0 t1 t2 t3 u0 u1 v0 v1 d0 d1 d2 d3 d4 d5 d6 d7 f0 f1 f2 f3
                      refine wpAnyH_take (i := 0) (oi := ⟨some 178, _, _, _, _, _⟩) (v := .slice (some ⟨bM, oM, none⟩) 2 cM) rfl (by kernel_rfl) (by kernel_rfl) (by kernel_rfl) (fun _ _ _ h => h) (Or.inl ⟨by rfl, fun w hSw => by go_simp⟩) hH ?_
                      simp only [Act.put, List.setIfInBounds_toArray, List.set_cons_zero, List.set_cons_succ]
                      refine wpAnyH_take (i := 1) (oi := ⟨some 179, _, _, _, _, _⟩) (v := .int .i64 2) rfl (by kernel_rfl) (by kernel_rfl) (by kernel_rfl) (fun _ _ _ h => h) (Or.inl ⟨by rfl, fun w hSw => by go_simp⟩) hH ?_
                      simp only [Act.put, List.setIfInBounds_toArray, List.set_cons_zero, List.set_cons_succ]
                      refine wpAnyH_take (i := 2) (oi := ⟨some 180, _, _, _, _, _⟩) (v := .bool true) rfl (by kernel_rfl) (by kernel_rfl) (by kernel_rfl) (fun _ _ _ h => h) (Or.inl ⟨by rfl, fun w hSw => by go_simp⟩) hH ?_
                      simp only [Act.put, List.setIfInBounds_toArray, List.set_cons_zero, List.set_cons_succ]
                      refine wpAnyH_take (i := 3) (oi := ⟨some 181, _, _, _, _, _⟩) (v := .bool true) rfl (by kernel_rfl) (by kernel_rfl) (by kernel_rfl) (fun _ _ _ h => h) (Or.inl ⟨by rfl, fun w hSw => by go_simp⟩) hH ?_
                      simp only [Act.put, List.setIfInBounds_toArray, List.set_cons_zero, List.set_cons_succ]
                      refine wpAnyH_take (i := 4) (oi := ⟨some 182, _, _, _, _, _⟩) (v := .slice (some ⟨bM, oM, none⟩) 2 cM) rfl (by kernel_rfl) (by kernel_rfl) (by kernel_rfl) (fun _ _ _ h => h) (Or.inl ⟨by rfl, fun w hSw => by go_simp⟩) hH ?_
                      simp only [Act.put, List.setIfInBounds_toArray, List.set_cons_zero, List.set_cons_succ]
                      refine wpAnyH_take (i := 5) (oi := ⟨some 183, _, _, _, _, _⟩) (v := .pointer (some ⟨bM, oM, none⟩)) rfl (by kernel_rfl) (by kernel_rfl) (by kernel_rfl) (fun _ _ _ h => h) (Or.inl ⟨by rfl, fun w hSw => by go_simp⟩) hH ?_
                      simp only [Act.put, List.setIfInBounds_toArray, List.set_cons_zero, List.set_cons_succ]
                      refine wpAnyH_take (i := 6) (oi := ⟨some 184, _, _, _, _, _⟩) (v := .agg #[.int .u64 kq, .int .i64 ks, .int .i64 kl, .int .u64 ku]) rfl (by kernel_rfl) (by kernel_rfl) (by kernel_rfl) (fun _ _ _ h => h) (Or.inl ⟨by rfl, fun w hSw => by obtain ⟨a0, a1, a2, a3⟩ := hSw.a; go_simp⟩) hH ?_
                      simp only [Act.put, List.setIfInBounds_toArray, List.set_cons_zero, List.set_cons_succ]
                      refine wpAnyH_take (i := 7) (oi := ⟨some 185, _, _, _, _, _⟩) (v := .agg #[.int .u64 kq, .int .i64 ks, .int .i64 kl, .int .u64 ku]) rfl (by kernel_rfl) (by kernel_rfl) (by kernel_rfl) (fun _ _ _ h => h) (Or.inl ⟨by rfl, fun w hSw => by obtain ⟨f0, f1, f2, f3⟩ := bx4 hSw.v; go_simp⟩) hH ?_
                      simp only [Act.put, List.setIfInBounds_toArray, List.set_cons_zero, List.set_cons_succ]
                      refine wpAnyH_take (i := 8) (oi := ⟨some 186, _, _, _, _, _⟩) (v := .bool true) rfl (by kernel_rfl) (by kernel_rfl) (by kernel_rfl) (fun _ _ _ h => h) (Or.inl ⟨by rfl, fun w hSw => by go_simp⟩) hH ?_
                      simp only [Act.put, List.setIfInBounds_toArray, List.set_cons_zero, List.set_cons_succ]
                      refine wpAnyH_take (i := 9) (oi := ⟨some 187, _, _, _, _, _⟩) (v := .bool true) rfl (by kernel_rfl) (by kernel_rfl) (by kernel_rfl) (fun _ _ _ h => h) (Or.inl ⟨by rfl, fun w hSw => by go_simp⟩) hH ?_
                      simp only [Act.put, List.setIfInBounds_toArray, List.set_cons_zero, List.set_cons_succ]
                      refine wpAnyH_take (i := 10) (oi := ⟨some 188, _, _, _, _, _⟩) (v := .bool true) rfl (by kernel_rfl) (by kernel_rfl) (by kernel_rfl) (fun _ _ _ h => h) (Or.inl ⟨by rfl, fun w hSw => by go_simp⟩) hH ?_
                      simp only [Act.put, List.setIfInBounds_toArray, List.set_cons_zero, List.set_cons_succ]
                      refine wpAnyH_take (i := 11) (oi := ⟨some 189, _, _, _, _, _⟩) (v := .slice (some ⟨bM, oM, none⟩) 2 cM) rfl (by kernel_rfl) (by kernel_rfl) (by kernel_rfl) (fun _ _ _ h => h) (Or.inl ⟨by rfl, fun w hSw => by go_simp⟩) hH ?_
                      simp only [Act.put, List.setIfInBounds_toArray, List.set_cons_zero, List.set_cons_succ]
                      refine wpAnyH_take (i := 12) (oi := ⟨some 190, _, _, _, _, _⟩) (v := .pointer (some ⟨bM, oM + 4, none⟩)) rfl (by kernel_rfl) (by kernel_rfl) (by kernel_rfl) (fun _ _ _ h => h) (Or.inl ⟨by rfl, fun w hSw => by go_simp⟩) hH ?_
                      simp only [Act.put, List.setIfInBounds_toArray, List.set_cons_zero, List.set_cons_succ]
                      refine wpAnyH_take (i := 13) (oi := ⟨some 191, _, _, _, _, _⟩) (v := .agg #[.int .u64 kq, .int .i64 ks, .int .i64 kl, .int .u64 ku]) rfl (by kernel_rfl) (by kernel_rfl) (by kernel_rfl) (fun _ _ _ h => h) (Or.inl ⟨by rfl, fun w hSw => by obtain ⟨a0, a1, a2, a3⟩ := hSw.b; go_simp⟩) hH ?_
                      simp only [Act.put, List.setIfInBounds_toArray, List.set_cons_zero, List.set_cons_succ]
                      refine wpAnyH_take (i := 14) (oi := ⟨some 192, _, _, _, _, _⟩) (v := .agg #[.int .u64 kq, .int .i64 ks, .int .i64 kl, .int .u64 ku]) rfl (by kernel_rfl) (by kernel_rfl) (by kernel_rfl) (fun _ _ _ h => h) (Or.inl ⟨by rfl, fun w hSw => by obtain ⟨f0, f1, f2, f3⟩ := bx4 hSw.v; go_simp⟩) hH ?_
                      simp only [Act.put, List.setIfInBounds_toArray, List.set_cons_zero, List.set_cons_succ]
                      refine wpAnyH_take (i := 15) (oi := ⟨some 193, _, _, _, _, _⟩) (v := .bool true) rfl (by kernel_rfl) (by kernel_rfl) (by kernel_rfl) (fun _ _ _ h => h) (Or.inl ⟨by rfl, fun w hSw => by go_simp⟩) hH ?_
                      simp only [Act.put, List.setIfInBounds_toArray, List.set_cons_zero, List.set_cons_succ]
                      refine wpAnyH_take (i := 16) (oi := ⟨some 194, _, _, _, _, _⟩) (v := .bool true) rfl (by kernel_rfl) (by kernel_rfl) (by kernel_rfl) (fun _ _ _ h => h) (Or.inl ⟨by rfl, fun w hSw => by go_simp⟩) hH ?_
                      simp only [Act.put, List.setIfInBounds_toArray, List.set_cons_zero, List.set_cons_succ]
                      refine wpAnyH_take (i := 17) (oi := ⟨some 195, _, _, _, _, _⟩) (v := .bool true) rfl (by kernel_rfl) (by kernel_rfl) (by kernel_rfl) (fun _ _ _ h => h) (Or.inl ⟨by rfl, fun w hSw => by go_simp⟩) hH ?_
                      simp only [Act.put, List.setIfInBounds_toArray, List.set_cons_zero, List.set_cons_succ]
                      refine wpAnyH_take (i := 18) (oi := ⟨some 196, _, _, _, _, _⟩) (v := .pointer (some ⟨fb, 0, none⟩)) rfl (by kernel_rfl) (by kernel_rfl) (by kernel_rfl) (fun _ _ _ h => h) (Or.inl ⟨by rfl, fun w hSw => by go_simp⟩) hH ?_
                      simp only [Act.put, List.setIfInBounds_toArray, List.set_cons_zero, List.set_cons_succ]
                      refine wpAnyH_take (i := 19) (oi := ⟨some 197, _, _, _, _, _⟩) (v := .agg #[.int .i64 s0, .int .i64 p0, .int .i64 b0, .int .i64 x0, .int .i64 x1, .int .i64 y0, .int .i64 y1, .int .i64 n]) rfl (by kernel_rfl) (by kernel_rfl) (by kernel_rfl) (fun _ _ _ h => h) (Or.inl ⟨by rfl, fun w hSw => by obtain ⟨d0, d1, d2, d3, d4, d5, d6, d7⟩ := plan8 (K4.out.2.kept hSw.f.gr); go_simp⟩) hH ?_
                      simp only [Act.put, List.setIfInBounds_toArray, List.set_cons_zero, List.set_cons_succ]
                      refine wpAnyH_take (i := 20) (oi := ⟨some 198, _, _, _, _, _⟩) (v := .agg #[.int .u64 kq, .int .i64 ks, .int .i64 kl, .int .u64 ku]) rfl (by kernel_rfl) (by kernel_rfl) (by kernel_rfl) (fun _ _ _ h => h) (Or.inl ⟨by rfl, fun w hSw => by obtain ⟨f0, f1, f2, f3⟩ := bx4 hSw.v; go_simp⟩) hH ?_
                      simp only [Act.put, List.setIfInBounds_toArray, List.set_cons_zero, List.set_cons_succ]
                      refine wpAnyH_ready (rs := [21]) (by kernel_rfl) (by simp) ?_
                      refine AllReadyH.cons rfl (fun K hK => ?_) AllReadyH.nil
                      go_simp
                      go_wp2_with (go_at_call 17; refine (j8 _ _ _ _ _ hH.f.rep).mono ?_; rintro e w24 ⟨rfl, hC, hQ⟩)
                      replace hH := hH.chg hC hQ
                      clear hC hQ
                      refine hK.out _ _ hH (fun _ => ?_)
                      clear hK K
                      refine wpAnyH_ready (rs := [22]) (by kernel_rfl) (by simp) ?_
                      refine AllReadyH.cons rfl (fun K hK => ?_) AllReadyH.nil
                      go_simp
                      go_wp2_with ((go_at_call 10; with_reducible refine (num9_any _ _).mono ?_; rintro e w' ⟨rfl, rfl⟩))
                      refine hK.out _ _ hH (fun _ => ?_)
                      clear hK K
                      refine wpAnyH_take (i := 23) (oi := ⟨some 201, _, _, _, _, _⟩) (v := .bool true) rfl (by kernel_rfl) (by kernel_rfl) (by kernel_rfl) (fun _ _ _ h => h) (Or.inl ⟨by rfl, fun w hSw => by go_simp⟩) hH ?_
                      simp only [Act.put, List.setIfInBounds_toArray, List.set_cons_zero, List.set_cons_succ]
                      refine wpAnyH_take (i := 24) (oi := ⟨some 202, _, _, _, _, _⟩) (v := .bool true) rfl (by kernel_rfl) (by kernel_rfl) (by kernel_rfl) (fun _ _ _ h => h) (Or.inl ⟨by rfl, fun w hSw => by go_simp⟩) hH ?_
                      simp only [Act.put, List.setIfInBounds_toArray, List.set_cons_zero, List.set_cons_succ]
                      refine wpAnyH_take (i := 25) (oi := ⟨some 203, _, _, _, _, _⟩) (v := .bool true) rfl (by kernel_rfl) (by kernel_rfl) (by kernel_rfl) (fun _ _ _ h => h) (Or.inl ⟨by rfl, fun w hSw => by go_simp⟩) hH ?_
                      simp only [Act.put, List.setIfInBounds_toArray, List.set_cons_zero, List.set_cons_succ]
                      refine wpAnyH_take (i := 26) (oi := ⟨some 204, _, _, _, _, _⟩) (v := .pointer (some ⟨fb, 0, none⟩)) rfl (by kernel_rfl) (by kernel_rfl) (by kernel_rfl) (fun _ _ _ h => h) (Or.inl ⟨by rfl, fun w hSw => by go_simp⟩) hH ?_
                      simp only [Act.put, List.setIfInBounds_toArray, List.set_cons_zero, List.set_cons_succ]
                      refine wpAnyH_take (i := 28) (oi := ⟨some 206, _, _, _, _, _⟩) (v := .int .i64 op8) rfl (by kernel_rfl) (by kernel_rfl) (by kernel_rfl) (fun _ _ _ h => h) (Or.inl ⟨by rfl, fun w hSw => by go_simp⟩) hH ?_
                      simp only [Act.put, List.setIfInBounds_toArray, List.set_cons_zero, List.set_cons_succ]
                      refine wpAnyH_ready (rs := [27]) (by kernel_rfl) (by simp) ?_
                      refine AllReadyH.cons rfl (fun K hK => ?_) AllReadyH.nil
                      go_simp
                      go_wp2_with (go_at_call 18; refine (j7 _ _ _ _ _ hH.f.rep).mono ?_; rintro e w' ⟨rfl, rfl⟩)
                      refine hK.out _ _ hH (fun _ => ?_)
                      clear hK K
                      refine wpAnyH_take (i := 29) (oi := ⟨some 207, _, _, _, _, _⟩) (v := .bool true) rfl (by kernel_rfl) (by kernel_rfl) (by kernel_rfl) (fun _ _ _ h => h) (Or.inl ⟨by rfl, fun w hSw => by go_simp⟩) hH ?_
                      simp only [Act.put, List.setIfInBounds_toArray, List.set_cons_zero, List.set_cons_succ]
                      refine wpAnyH_take (i := 30) (oi := ⟨some 208, _, _, _, _, _⟩) (v := .bool true) rfl (by kernel_rfl) (by kernel_rfl) (by kernel_rfl) (fun _ _ _ h => h) (Or.inl ⟨by rfl, fun w hSw => by go_simp⟩) hH ?_
                      simp only [Act.put, List.setIfInBounds_toArray, List.set_cons_zero, List.set_cons_succ]
                      refine wpAnyH_take (i := 31) (oi := ⟨some 209, _, _, _, _, _⟩) (v := .bool true) rfl (by kernel_rfl) (by kernel_rfl) (by kernel_rfl) (fun _ _ _ h => h) (Or.inl ⟨by rfl, fun w hSw => by go_simp⟩) hH ?_
                      simp only [Act.put, List.setIfInBounds_toArray, List.set_cons_zero, List.set_cons_succ]
                      refine wpAnyH_ready (rs := [32]) (by kernel_rfl) (by simp) ?_
                      refine AllReadyH.cons rfl (fun K hK => ?_) AllReadyH.nil
                      go_simp
                      go_wp2_with (go_at_call 8; refine (HL.out _).mono ?_; rintro e wl ⟨rfl, gl⟩)
                      replace hH := hH.kept gl
                      clear gl
                      refine hK.out _ _ hH (fun _ => ?_)
                      clear hK K
                      refine wpAnyH_take (i := 33) (oi := ⟨some 211, _, _, _, _, _⟩) (v := .bool true) rfl (by kernel_rfl) (by kernel_rfl) (by kernel_rfl) (fun _ _ _ h => h) (Or.inl ⟨by rfl, fun w hSw => by go_simp⟩) hH ?_
                      simp only [Act.put, List.setIfInBounds_toArray, List.set_cons_zero, List.set_cons_succ]
                      refine wpAnyH_take (i := 34) (oi := ⟨some 10, _, _, _, _, _⟩) (v := .bool true) rfl (by kernel_rfl) (by kernel_rfl) (by kernel_rfl) (fun _ _ _ h => h) (Or.inl ⟨by rfl, fun w hSw => by go_simp⟩) hH ?_
                      simp only [Act.put, List.setIfInBounds_toArray, List.set_cons_zero, List.set_cons_succ]
                      refine wpAnyH_done (by kernel_rfl) ?_ _
                      have HF : Hid _ := grown_trans K4.out.1.gr hH.f.gr
                      clear hH
                      go_wp2
                      go_ret
                      exact ⟨rfl, grown_below HF.out⟩
                    · skip
                      go_wp2_with (first | (go_at_call 10; with_reducible refine (num9_any _ _).mono ?_; rintro e w' ⟨rfl, rfl⟩))
                      refine (j5 _ _ _ _ _ F20.out.rep).mono ?_
                      rintro e w21 ⟨rfl, hC, hQ⟩
                      have F21 : Hid _ := F20.out.call hC hQ
                      have V21 : Hid _ := And.intro (V20.out.1.chg hC V20.out.2) V20.out.2
                      clear hC hQ F20 V20 KK j5 q0 q1 q2 r0 r1 r2 r3 t0 t1 t2 t3 u0 u1 v0 v1 d0 d1 d2 d3 d4 d5 d6 d7 f0 f1 f2 f3
                      have KK : Hid _ := And.intro (K4.out.1.kept F21.out.gr) (K4.out.2.kept F21.out.gr)
                      obtain ⟨q0, q1, q2⟩ := geo3 (KK.out.1).ge
                      obtain ⟨r0, r1, r2, r3⟩ := rec4 (KK.out.1).r
                      obtain ⟨t0, t1, t2, t3⟩ := rec4 (KK.out.1).s
                      obtain ⟨u0, u1⟩ := bx2 (KK.out.1).c
                      obtain ⟨v0, v1⟩ := bx2 (KK.out.1).d
                      obtain ⟨d0, d1, d2, d3, d4, d5, d6, d7⟩ := plan8 (KK.out.2)
                      obtain ⟨f0, f1, f2, f3⟩ := bx4 V21.out.1
                      try simp only
                      go_wp2_with (first | (go_at_call 10; with_reducible refine (num9_any _ _).mono ?_; rintro e w' ⟨rfl, rfl⟩))
                      refine (j6 _ _ _ _ _ F21.out.rep).mono ?_
                      rintro e w22 ⟨gg, aM, nM, cM, aY, nY, cY, rfl, hnl, hnx, hfl, hfx, hls⟩
                      have F22 : Hid _ := F21.out.kept gg
                      have V22 : Hid _ := And.intro (V21.out.1.kept gg) V21.out.2
                      have hn1 := hls.nL
                      simp only [List.length_cons, List.length_nil] at hn1
                      subst hn1
                      obtain ⟨bM, oM, rfl, a0, a1, a2, a3⟩ := hls.rs 0 0 rfl
                      obtain ⟨bM', oM', eM, b0', b1', b2', b3'⟩ := hls.rs 1 1 rfl
                      cases eM
                      rw [HI6.out.1] at a0 a1 a2 a3
                      rw [HI6.out.2] at b0' b1' b2' b3'
                      simp only [Nat.mul_zero, Nat.mul_one, Nat.add_zero, Nat.add_assoc, Nat.reduceAdd] at a0 a1 a2 a3 b0' b1' b2' b3'
                      have HM8 : Hid (¬ foot fb bb db wb bM) := fun x => by have h1 := hfl bM oM rfl; have h2 := F21.out.rep.lt bM x; omega
                      clear gg F21 V21 KK j6 hnl hnx hfl hfx hls q0 q1 q2 r0 r1 r2 r3 t0 t1 t2 t3 u0 u1 v0 v1 d0 d1 d2 d3 d4 d5 d6 d7 f0 f1 f2 f3
                      have KK : Hid _ := And.intro (K4.out.1.kept F22.out.gr) (K4.out.2.kept F22.out.gr)
                      obtain ⟨q0, q1, q2⟩ := geo3 (KK.out.1).ge
                      obtain ⟨r0, r1, r2, r3⟩ := rec4 (KK.out.1).r
                      obtain ⟨t0, t1, t2, t3⟩ := rec4 (KK.out.1).s
                      obtain ⟨u0, u1⟩ := bx2 (KK.out.1).c
                      obtain ⟨v0, v1⟩ := bx2 (KK.out.1).d
                      obtain ⟨d0, d1, d2, d3, d4, d5, d6, d7⟩ := plan8 (KK.out.2)
                      obtain ⟨f0, f1, f2, f3⟩ := bx4 V22.out.1
                      try simp only
                      go_wp2_with (first | (go_at_call 10; with_reducible refine (num9_any _ _).mono ?_; rintro e w' ⟨rfl, rfl⟩))
                      refine (j7 _ _ _ _ _ F22.out.rep).mono ?_
                      rintro e w23 ⟨rfl, rfl⟩
                      try simp only
                      go_wp2_with (first | (go_at_call 10; with_reducible refine (num9_any _ _).mono ?_; rintro e w' ⟨rfl, rfl⟩))
                      have hS : (fun w' => M8 w4 w' fb bb db wb m8 (fun _ => False) gf bM oM kq ks kl ku) (World.drew _) := ⟨F22.out.kept (Pa.drewG _), V22.out.1.kept (Pa.drewG _), V22.out.2, HM8.out, a0, a1, a2, a3, b0', b1', b2', b3'⟩
                      refine wp_region_held_drew (S := fun w' => M8 w4 w' fb bb db wb m8 (fun _ => False) gf bM oM kq ks kl ku) (by kernel_rfl) hS (fun hH => ?_)
                      clear hS F22 V22 KK a0 a1 a2 a3 b0' b1' b2' b3' q0 q1 q2 r0 r1 r2 r3 t0 t1 t2 t3 u0 u1 v0 v1 d0 d1 d2 d3 d4 d5 d6 d7 f0 f1 f2 f3
                      refine wpAnyH_take (i := 0) (oi := ⟨some 178, _, _, _, _, _⟩) (v := .slice (some ⟨bM, oM, none⟩) 2 cM) rfl (by kernel_rfl) (by kernel_rfl) (by kernel_rfl) (fun _ _ _ h => h) (Or.inl ⟨by rfl, fun w hSw => by go_simp⟩) hH ?_
                      simp only [Act.put, List.setIfInBounds_toArray, List.set_cons_zero, List.set_cons_succ]
                      refine wpAnyH_take (i := 1) (oi := ⟨some 179, _, _, _, _, _⟩) (v := .int .i64 2) rfl (by kernel_rfl) (by kernel_rfl) (by kernel_rfl) (fun _ _ _ h => h) (Or.inl ⟨by rfl, fun w hSw => by go_simp⟩) hH ?_
                      simp only [Act.put, List.setIfInBounds_toArray, List.set_cons_zero, List.set_cons_succ]
                      refine wpAnyH_take (i := 2) (oi := ⟨some 180, _, _, _, _, _⟩) (v := .bool true) rfl (by kernel_rfl) (by kernel_rfl) (by kernel_rfl) (fun _ _ _ h => h) (Or.inl ⟨by rfl, fun w hSw => by go_simp⟩) hH ?_
                      simp only [Act.put, List.setIfInBounds_toArray, List.set_cons_zero, List.set_cons_succ]
                      refine wpAnyH_take (i := 3) (oi := ⟨some 181, _, _, _, _, _⟩) (v := .bool true) rfl (by kernel_rfl) (by kernel_rfl) (by kernel_rfl) (fun _ _ _ h => h) (Or.inl ⟨by rfl, fun w hSw => by go_simp⟩) hH ?_
                      simp only [Act.put, List.setIfInBounds_toArray, List.set_cons_zero, List.set_cons_succ]
                      refine wpAnyH_take (i := 4) (oi := ⟨some 182, _, _, _, _, _⟩) (v := .slice (some ⟨bM, oM, none⟩) 2 cM) rfl (by kernel_rfl) (by kernel_rfl) (by kernel_rfl) (fun _ _ _ h => h) (Or.inl ⟨by rfl, fun w hSw => by go_simp⟩) hH ?_
                      simp only [Act.put, List.setIfInBounds_toArray, List.set_cons_zero, List.set_cons_succ]
                      refine wpAnyH_take (i := 5) (oi := ⟨some 183, _, _, _, _, _⟩) (v := .pointer (some ⟨bM, oM, none⟩)) rfl (by kernel_rfl) (by kernel_rfl) (by kernel_rfl) (fun _ _ _ h => h) (Or.inl ⟨by rfl, fun w hSw => by go_simp⟩) hH ?_
                      simp only [Act.put, List.setIfInBounds_toArray, List.set_cons_zero, List.set_cons_succ]
                      refine wpAnyH_take (i := 6) (oi := ⟨some 184, _, _, _, _, _⟩) (v := .agg #[.int .u64 kq, .int .i64 ks, .int .i64 kl, .int .u64 ku]) rfl (by kernel_rfl) (by kernel_rfl) (by kernel_rfl) (fun _ _ _ h => h) (Or.inl ⟨by rfl, fun w hSw => by obtain ⟨a0, a1, a2, a3⟩ := hSw.a; go_simp⟩) hH ?_
                      simp only [Act.put, List.setIfInBounds_toArray, List.set_cons_zero, List.set_cons_succ]
                      refine wpAnyH_take (i := 7) (oi := ⟨some 185, _, _, _, _, _⟩) (v := .agg #[.int .u64 kq, .int .i64 ks, .int .i64 kl, .int .u64 ku]) rfl (by kernel_rfl) (by kernel_rfl) (by kernel_rfl) (fun _ _ _ h => h) (Or.inl ⟨by rfl, fun w hSw => by obtain ⟨f0, f1, f2, f3⟩ := bx4 hSw.v; go_simp⟩) hH ?_
                      simp only [Act.put, List.setIfInBounds_toArray, List.set_cons_zero, List.set_cons_succ]
                      refine wpAnyH_take (i := 8) (oi := ⟨some 186, _, _, _, _, _⟩) (v := .bool true) rfl (by kernel_rfl) (by kernel_rfl) (by kernel_rfl) (fun _ _ _ h => h) (Or.inl ⟨by rfl, fun w hSw => by go_simp⟩) hH ?_
                      simp only [Act.put, List.setIfInBounds_toArray, List.set_cons_zero, List.set_cons_succ]
                      refine wpAnyH_take (i := 9) (oi := ⟨some 187, _, _, _, _, _⟩) (v := .bool true) rfl (by kernel_rfl) (by kernel_rfl) (by kernel_rfl) (fun _ _ _ h => h) (Or.inl ⟨by rfl, fun w hSw => by go_simp⟩) hH ?_
                      simp only [Act.put, List.setIfInBounds_toArray, List.set_cons_zero, List.set_cons_succ]
                      refine wpAnyH_take (i := 10) (oi := ⟨some 188, _, _, _, _, _⟩) (v := .bool true) rfl (by kernel_rfl) (by kernel_rfl) (by kernel_rfl) (fun _ _ _ h => h) (Or.inl ⟨by rfl, fun w hSw => by go_simp⟩) hH ?_
                      simp only [Act.put, List.setIfInBounds_toArray, List.set_cons_zero, List.set_cons_succ]
                      refine wpAnyH_take (i := 11) (oi := ⟨some 189, _, _, _, _, _⟩) (v := .slice (some ⟨bM, oM, none⟩) 2 cM) rfl (by kernel_rfl) (by kernel_rfl) (by kernel_rfl) (fun _ _ _ h => h) (Or.inl ⟨by rfl, fun w hSw => by go_simp⟩) hH ?_
                      simp only [Act.put, List.setIfInBounds_toArray, List.set_cons_zero, List.set_cons_succ]
                      refine wpAnyH_take (i := 12) (oi := ⟨some 190, _, _, _, _, _⟩) (v := .pointer (some ⟨bM, oM + 4, none⟩)) rfl (by kernel_rfl) (by kernel_rfl) (by kernel_rfl) (fun _ _ _ h => h) (Or.inl ⟨by rfl, fun w hSw => by go_simp⟩) hH ?_
                      simp only [Act.put, List.setIfInBounds_toArray, List.set_cons_zero, List.set_cons_succ]
                      refine wpAnyH_take (i := 13) (oi := ⟨some 191, _, _, _, _, _⟩) (v := .agg #[.int .u64 kq, .int .i64 ks, .int .i64 kl, .int .u64 ku]) rfl (by kernel_rfl) (by kernel_rfl) (by kernel_rfl) (fun _ _ _ h => h) (Or.inl ⟨by rfl, fun w hSw => by obtain ⟨a0, a1, a2, a3⟩ := hSw.b; go_simp⟩) hH ?_
                      simp only [Act.put, List.setIfInBounds_toArray, List.set_cons_zero, List.set_cons_succ]
                      refine wpAnyH_take (i := 14) (oi := ⟨some 192, _, _, _, _, _⟩) (v := .agg #[.int .u64 kq, .int .i64 ks, .int .i64 kl, .int .u64 ku]) rfl (by kernel_rfl) (by kernel_rfl) (by kernel_rfl) (fun _ _ _ h => h) (Or.inl ⟨by rfl, fun w hSw => by obtain ⟨f0, f1, f2, f3⟩ := bx4 hSw.v; go_simp⟩) hH ?_
                      simp only [Act.put, List.setIfInBounds_toArray, List.set_cons_zero, List.set_cons_succ]
                      refine wpAnyH_take (i := 15) (oi := ⟨some 193, _, _, _, _, _⟩) (v := .bool true) rfl (by kernel_rfl) (by kernel_rfl) (by kernel_rfl) (fun _ _ _ h => h) (Or.inl ⟨by rfl, fun w hSw => by go_simp⟩) hH ?_
                      simp only [Act.put, List.setIfInBounds_toArray, List.set_cons_zero, List.set_cons_succ]
                      refine wpAnyH_take (i := 16) (oi := ⟨some 194, _, _, _, _, _⟩) (v := .bool true) rfl (by kernel_rfl) (by kernel_rfl) (by kernel_rfl) (fun _ _ _ h => h) (Or.inl ⟨by rfl, fun w hSw => by go_simp⟩) hH ?_
                      simp only [Act.put, List.setIfInBounds_toArray, List.set_cons_zero, List.set_cons_succ]
                      refine wpAnyH_take (i := 17) (oi := ⟨some 195, _, _, _, _, _⟩) (v := .bool true) rfl (by kernel_rfl) (by kernel_rfl) (by kernel_rfl) (fun _ _ _ h => h) (Or.inl ⟨by rfl, fun w hSw => by go_simp⟩) hH ?_
                      simp only [Act.put, List.setIfInBounds_toArray, List.set_cons_zero, List.set_cons_succ]
                      refine wpAnyH_take (i := 18) (oi := ⟨some 196, _, _, _, _, _⟩) (v := .pointer (some ⟨fb, 0, none⟩)) rfl (by kernel_rfl) (by kernel_rfl) (by kernel_rfl) (fun _ _ _ h => h) (Or.inl ⟨by rfl, fun w hSw => by go_simp⟩) hH ?_
                      simp only [Act.put, List.setIfInBounds_toArray, List.set_cons_zero, List.set_cons_succ]
                      refine wpAnyH_take (i := 19) (oi := ⟨some 197, _, _, _, _, _⟩) (v := .agg #[.int .i64 s0, .int .i64 p0, .int .i64 b0, .int .i64 x0, .int .i64 x1, .int .i64 y0, .int .i64 y1, .int .i64 n]) rfl (by kernel_rfl) (by kernel_rfl) (by kernel_rfl) (fun _ _ _ h => h) (Or.inl ⟨by rfl, fun w hSw => by obtain ⟨d0, d1, d2, d3, d4, d5, d6, d7⟩ := plan8 (K4.out.2.kept hSw.f.gr); go_simp⟩) hH ?_
                      simp only [Act.put, List.setIfInBounds_toArray, List.set_cons_zero, List.set_cons_succ]
                      refine wpAnyH_take (i := 20) (oi := ⟨some 198, _, _, _, _, _⟩) (v := .agg #[.int .u64 kq, .int .i64 ks, .int .i64 kl, .int .u64 ku]) rfl (by kernel_rfl) (by kernel_rfl) (by kernel_rfl) (fun _ _ _ h => h) (Or.inl ⟨by rfl, fun w hSw => by obtain ⟨f0, f1, f2, f3⟩ := bx4 hSw.v; go_simp⟩) hH ?_
                      simp only [Act.put, List.setIfInBounds_toArray, List.set_cons_zero, List.set_cons_succ]
                      refine wpAnyH_ready (rs := [21]) (by kernel_rfl) (by simp) ?_
                      refine AllReadyH.cons rfl (fun K hK => ?_) AllReadyH.nil
                      go_simp
                      go_wp2_with (go_at_call 17; refine (j8 _ _ _ _ _ hH.f.rep).mono ?_; rintro e w24 ⟨rfl, hC, hQ⟩)
                      replace hH := hH.chg hC hQ
                      clear hC hQ
                      refine hK.out _ _ hH (fun _ => ?_)
                      clear hK K
                      refine wpAnyH_ready (rs := [22]) (by kernel_rfl) (by simp) ?_
                      refine AllReadyH.cons rfl (fun K hK => ?_) AllReadyH.nil
                      go_simp
                      go_wp2_with ((go_at_call 10; with_reducible refine (num9_any _ _).mono ?_; rintro e w' ⟨rfl, rfl⟩))
                      refine hK.out _ _ hH (fun _ => ?_)
                      clear hK K
                      refine wpAnyH_take (i := 23) (oi := ⟨some 201, _, _, _, _, _⟩) (v := .bool true) rfl (by kernel_rfl) (by kernel_rfl) (by kernel_rfl) (fun _ _ _ h => h) (Or.inl ⟨by rfl, fun w hSw => by go_simp⟩) hH ?_
                      simp only [Act.put, List.setIfInBounds_toArray, List.set_cons_zero, List.set_cons_succ]
                      refine wpAnyH_take (i := 24) (oi := ⟨some 202, _, _, _, _, _⟩) (v := .bool true) rfl (by kernel_rfl) (by kernel_rfl) (by kernel_rfl) (fun _ _ _ h => h) (Or.inl ⟨by rfl, fun w hSw => by go_simp⟩) hH ?_
                      simp only [Act.put, List.setIfInBounds_toArray, List.set_cons_zero, List.set_cons_succ]
                      refine wpAnyH_take (i := 25) (oi := ⟨some 203, _, _, _, _, _⟩) (v := .bool true) rfl (by kernel_rfl) (by kernel_rfl) (by kernel_rfl) (fun _ _ _ h => h) (Or.inl ⟨by rfl, fun w hSw => by go_simp⟩) hH ?_
                      simp only [Act.put, List.setIfInBounds_toArray, List.set_cons_zero, List.set_cons_succ]
                      refine wpAnyH_take (i := 26) (oi := ⟨some 204, _, _, _, _, _⟩) (v := .pointer (some ⟨fb, 0, none⟩)) rfl (by kernel_rfl) (by kernel_rfl) (by kernel_rfl) (fun _ _ _ h => h) (Or.inl ⟨by rfl, fun w hSw => by go_simp⟩) hH ?_
                      simp only [Act.put, List.setIfInBounds_toArray, List.set_cons_zero, List.set_cons_succ]
                      refine wpAnyH_take (i := 28) (oi := ⟨some 206, _, _, _, _, _⟩) (v := .int .i64 op8) rfl (by kernel_rfl) (by kernel_rfl) (by kernel_rfl) (fun _ _ _ h => h) (Or.inl ⟨by rfl, fun w hSw => by go_simp⟩) hH ?_
                      simp only [Act.put, List.setIfInBounds_toArray, List.set_cons_zero, List.set_cons_succ]
                      refine wpAnyH_ready (rs := [27]) (by kernel_rfl) (by simp) ?_
                      refine AllReadyH.cons rfl (fun K hK => ?_) AllReadyH.nil
                      go_simp
                      go_wp2_with (go_at_call 18; refine (j7 _ _ _ _ _ hH.f.rep).mono ?_; rintro e w' ⟨rfl, rfl⟩)
                      refine hK.out _ _ hH (fun _ => ?_)
                      clear hK K
                      refine wpAnyH_take (i := 29) (oi := ⟨some 207, _, _, _, _, _⟩) (v := .bool true) rfl (by kernel_rfl) (by kernel_rfl) (by kernel_rfl) (fun _ _ _ h => h) (Or.inl ⟨by rfl, fun w hSw => by go_simp⟩) hH ?_
                      simp only [Act.put, List.setIfInBounds_toArray, List.set_cons_zero, List.set_cons_succ]
                      refine wpAnyH_take (i := 30) (oi := ⟨some 208, _, _, _, _, _⟩) (v := .bool true) rfl (by kernel_rfl) (by kernel_rfl) (by kernel_rfl) (fun _ _ _ h => h) (Or.inl ⟨by rfl, fun w hSw => by go_simp⟩) hH ?_
                      simp only [Act.put, List.setIfInBounds_toArray, List.set_cons_zero, List.set_cons_succ]
                      refine wpAnyH_take (i := 31) (oi := ⟨some 209, _, _, _, _, _⟩) (v := .bool true) rfl (by kernel_rfl) (by kernel_rfl) (by kernel_rfl) (fun _ _ _ h => h) (Or.inl ⟨by rfl, fun w hSw => by go_simp⟩) hH ?_
                      simp only [Act.put, List.setIfInBounds_toArray, List.set_cons_zero, List.set_cons_succ]
                      refine wpAnyH_ready (rs := [32]) (by kernel_rfl) (by simp) ?_
                      refine AllReadyH.cons rfl (fun K hK => ?_) AllReadyH.nil
                      go_simp
                      go_wp2_with (go_at_call 8; refine (HL.out _).mono ?_; rintro e wl ⟨rfl, gl⟩)
                      replace hH := hH.kept gl
                      clear gl
                      refine hK.out _ _ hH (fun _ => ?_)
                      clear hK K
                      refine wpAnyH_take (i := 33) (oi := ⟨some 211, _, _, _, _, _⟩) (v := .bool true) rfl (by kernel_rfl) (by kernel_rfl) (by kernel_rfl) (fun _ _ _ h => h) (Or.inl ⟨by rfl, fun w hSw => by go_simp⟩) hH ?_
                      simp only [Act.put, List.setIfInBounds_toArray, List.set_cons_zero, List.set_cons_succ]
                      refine wpAnyH_take (i := 34) (oi := ⟨some 10, _, _, _, _, _⟩) (v := .bool true) rfl (by kernel_rfl) (by kernel_rfl) (by kernel_rfl) (fun _ _ _ h => h) (Or.inl ⟨by rfl, fun w hSw => by go_simp⟩) hH ?_
                      simp only [Act.put, List.setIfInBounds_toArray, List.set_cons_zero, List.set_cons_succ]
                      refine wpAnyH_done (by kernel_rfl) ?_ _
                      have HF : Hid _ := grown_trans K4.out.1.gr hH.f.gr
                      clear hH
                      go_wp2
                      go_ret
                      exact ⟨rfl, grown_below HF.out⟩
                  · have EQ2 : Hid _ := q2
                    clear q2
                    have hS : (fun w' => Fs w4 w' fb bb db wb m4 (fun _ => False) ∧ w'.cell? ⟨bL, oL, none⟩ = some (.int .u64 kq) ∧ w'.cell? ⟨bL, oL + 1, none⟩ = some (.int .i64 ks) ∧ w'.cell? ⟨bL, oL + 2, none⟩ = some (.int .i64 kl) ∧ w'.cell? ⟨bL, oL + 3, none⟩ = some (.int .u64 ku)) w14.drew := ⟨F14.out.kept (Pa.drewG _), l0, l1, l2, l3⟩
                    refine wp_region_held_drew (S := fun w' => Fs w4 w' fb bb db wb m4 (fun _ => False) ∧ w'.cell? ⟨bL, oL, none⟩ = some (.int .u64 kq) ∧ w'.cell? ⟨bL, oL + 1, none⟩ = some (.int .i64 ks) ∧ w'.cell? ⟨bL, oL + 2, none⟩ = some (.int .i64 kl) ∧ w'.cell? ⟨bL, oL + 3, none⟩ = some (.int .u64 ku)) (by kernel_rfl) hS (fun hH => ?_)
                    clear hS F14 KK l0 l1 l2 l3 q0 q1 q2 r0 r1 r2 r3 t0 t1 t2 t3 u0 u1 v0 v1 d0 d1 d2 d3 d4 d5 d6 d7
                    refine wpAnyH_take (i := 0) (oi := ⟨some 117, _, _, _, _, _⟩) (v := .slice (some ⟨bL, oL, none⟩) nL cL) rfl (by kernel_rfl) (by kernel_rfl) (by kernel_rfl) (fun _ _ _ h => h) (Or.inl ⟨by rfl, fun w hSw => by go_simp⟩) hH ?_
                    simp only [Act.put, List.setIfInBounds_toArray, List.set_cons_zero, List.set_cons_succ]
                    refine wpAnyH_take (i := 1) (oi := ⟨some 118, _, _, _, _, _⟩) (v := .int .i64 nL) rfl (by kernel_rfl) (by kernel_rfl) (by kernel_rfl) (fun _ _ _ h => h) (Or.inl ⟨by rfl, fun w hSw => by go_simp⟩) hH ?_
                    simp only [Act.put, List.setIfInBounds_toArray, List.set_cons_zero, List.set_cons_succ]
                    refine wpAnyH_take (i := 2) (oi := ⟨some 119, _, _, _, _, _⟩) (v := .bool false) rfl (by kernel_rfl) (by kernel_rfl) (by kernel_rfl) (fun _ _ _ h => h) (Or.inl ⟨by rfl, fun w hSw => by (go_simp; try omega)⟩) hH ?_
                    simp only [Act.put, List.setIfInBounds_toArray, List.set_cons_zero, List.set_cons_succ]
                    refine wpAnyH_take (i := 3) (oi := ⟨some 120, _, _, _, _, _⟩) (v := .bool false) rfl (by kernel_rfl) (by kernel_rfl) (by kernel_rfl) (fun _ _ _ h => h) (Or.inl ⟨by rfl, fun w hSw => by go_simp⟩) hH ?_
                    simp only [Act.put, List.setIfInBounds_toArray, List.set_cons_zero, List.set_cons_succ]
                    refine wpAnyH_take (i := 4) (oi := ⟨some 121, _, _, _, _, _⟩) (v := .slice (some ⟨bL, oL, none⟩) nL cL) rfl (by kernel_rfl) (by kernel_rfl) (by kernel_rfl) (fun _ _ _ h => h) (Or.inl ⟨by rfl, fun w hSw => by go_simp⟩) hH ?_
                    simp only [Act.put, List.setIfInBounds_toArray, List.set_cons_zero, List.set_cons_succ]
                    refine wpAnyH_take (i := 5) (oi := ⟨some 122, _, _, _, _, _⟩) (v := .pointer (some ⟨bL, oL, none⟩)) rfl (by kernel_rfl) (by kernel_rfl) (by kernel_rfl) (fun _ _ _ h => h) (Or.inl ⟨by rfl, fun w hSw => by (go_simp; try omega)⟩) hH ?_
                    simp only [Act.put, List.setIfInBounds_toArray, List.set_cons_zero, List.set_cons_succ]
                    refine wpAnyH_take (i := 6) (oi := ⟨some 123, _, _, _, _, _⟩) (v := .agg #[.int .u64 kq, .int .i64 ks, .int .i64 kl, .int .u64 ku]) rfl (by kernel_rfl) (by kernel_rfl) (by kernel_rfl) (fun _ _ _ h => h) (Or.inl ⟨by rfl, fun w hSw => by obtain ⟨-, l0, l1, l2, l3⟩ := hSw; go_simp⟩) hH ?_
                    simp only [Act.put, List.setIfInBounds_toArray, List.set_cons_zero, List.set_cons_succ]
                    refine wpAnyH_take (i := 7) (oi := ⟨some 124, _, _, _, _, _⟩) (v := .agg #[.int .u64 rq, .int .i64 rs, .int .i64 rl, .int .u64 ru]) rfl (by kernel_rfl) (by kernel_rfl) (by kernel_rfl) (fun _ _ _ h => h) (Or.inl ⟨by rfl, fun w hSw => by obtain ⟨r0, r1, r2, r3⟩ := rec4 (K4.out.1.kept hSw.1.gr).r; go_simp⟩) hH ?_
                    simp only [Act.put, List.setIfInBounds_toArray, List.set_cons_zero, List.set_cons_succ]
                    refine wpAnyH_take (i := 8) (oi := ⟨some 125, _, _, _, _, _⟩) (v := .bool true) rfl (by kernel_rfl) (by kernel_rfl) (by kernel_rfl) (fun _ _ _ h => h) (Or.inl ⟨by rfl, fun w hSw => by (go_simp; try (first | (intro h1 h2 h3 h4; exact EQ1.out ⟨h1, h2, h3, h4⟩) | (have e4 := EQ1.out; simp [e4.1, e4.2.1, e4.2.2.1, e4.2.2.2])))⟩) hH ?_
                    simp only [Act.put, List.setIfInBounds_toArray, List.set_cons_zero, List.set_cons_succ]
                    refine wpAnyH_take (i := 9) (oi := ⟨some 126, _, _, _, _, _⟩) (v := .bool true) rfl (by kernel_rfl) (by kernel_rfl) (by kernel_rfl) (fun _ _ _ h => h) (Or.inl ⟨by rfl, fun w hSw => by go_simp⟩) hH ?_
                    simp only [Act.put, List.setIfInBounds_toArray, List.set_cons_zero, List.set_cons_succ]
                    refine wpAnyH_take (i := 10) (oi := ⟨some 127, _, _, _, _, _⟩) (v := .slice (some ⟨bL, oL, none⟩) nL cL) rfl (by kernel_rfl) (by kernel_rfl) (by kernel_rfl) (fun _ _ _ h => h) (Or.inl ⟨by rfl, fun w hSw => by go_simp⟩) hH ?_
                    simp only [Act.put, List.setIfInBounds_toArray, List.set_cons_zero, List.set_cons_succ]
                    refine wpAnyH_take (i := 11) (oi := ⟨some 128, _, _, _, _, _⟩) (v := .pointer (some ⟨bL, oL, none⟩)) rfl (by kernel_rfl) (by kernel_rfl) (by kernel_rfl) (fun _ _ _ h => h) (Or.inl ⟨by rfl, fun w hSw => by (go_simp; try omega)⟩) hH ?_
                    simp only [Act.put, List.setIfInBounds_toArray, List.set_cons_zero, List.set_cons_succ]
                    refine wpAnyH_take (i := 12) (oi := ⟨some 129, _, _, _, _, _⟩) (v := .agg #[.int .u64 kq, .int .i64 ks, .int .i64 kl, .int .u64 ku]) rfl (by kernel_rfl) (by kernel_rfl) (by kernel_rfl) (fun _ _ _ h => h) (Or.inl ⟨by rfl, fun w hSw => by obtain ⟨-, l0, l1, l2, l3⟩ := hSw; go_simp⟩) hH ?_
                    simp only [Act.put, List.setIfInBounds_toArray, List.set_cons_zero, List.set_cons_succ]
                    refine wpAnyH_take (i := 13) (oi := ⟨some 130, _, _, _, _, _⟩) (v := .agg #[.int .u64 sq, .int .i64 ss, .int .i64 sl, .int .u64 su]) rfl (by kernel_rfl) (by kernel_rfl) (by kernel_rfl) (fun _ _ _ h => h) (Or.inl ⟨by rfl, fun w hSw => by obtain ⟨t0, t1, t2, t3⟩ := rec4 (K4.out.1.kept hSw.1.gr).s; go_simp⟩) hH ?_
                    simp only [Act.put, List.setIfInBounds_toArray, List.set_cons_zero, List.set_cons_succ]
                    refine wpAnyH_take (i := 14) (oi := ⟨some 131, _, _, _, _, _⟩) (v := .bool true) rfl (by kernel_rfl) (by kernel_rfl) (by kernel_rfl) (fun _ _ _ h => h) (Or.inl ⟨by rfl, fun w hSw => by (go_simp; try (first | (intro h1 h2 h3 h4; exact EQ2.out ⟨h1, h2, h3, h4⟩) | (have e4 := EQ2.out; simp [e4.1, e4.2.1, e4.2.2.1, e4.2.2.2])))⟩) hH ?_
                    simp only [Act.put, List.setIfInBounds_toArray, List.set_cons_zero, List.set_cons_succ]
                    refine wpAnyH_take (i := 15) (oi := ⟨some 132, _, _, _, _, _⟩) (v := .bool true) rfl (by kernel_rfl) (by kernel_rfl) (by kernel_rfl) (fun _ _ _ h => h) (Or.inl ⟨by rfl, fun w hSw => by go_simp⟩) hH ?_
                    simp only [Act.put, List.setIfInBounds_toArray, List.set_cons_zero, List.set_cons_succ]
                    refine wpAnyH_take (i := 16) (oi := ⟨some 133, _, _, _, _, _⟩) (v := .bool true) rfl (by kernel_rfl) (by kernel_rfl) (by kernel_rfl) (fun _ _ _ h => h) (Or.inl ⟨by rfl, fun w hSw => by go_simp⟩) hH ?_
                    simp only [Act.put, List.setIfInBounds_toArray, List.set_cons_zero, List.set_cons_succ]
                    refine wpAnyH_done (by kernel_rfl) ?_ _
                    have F15 : Hid _ := hH.1
                    clear hH
                    go_wp2_with (first | (go_at_call 10; with_reducible refine (num9_any _ _).mono ?_; rintro e w' ⟨rfl, rfl⟩) | (go_at_call 8; refine (HL.out _).mono ?_; rintro e wl ⟨rfl, gl⟩; have HF : Hid _ := grown_trans (grown_trans K4.out.1.gr F15.out.gr) gl; clear gl))
                    go_ret
                    exact ⟨rfl, grown_below HF.out⟩
              · skip
                have hS := F10.out.kept (Pa.drewG _)
                refine wp_region_held_drew (S := fun w' => Fs w4 w' fb bb db wb m3 (fun _ => False)) (by kernel_rfl) hS (fun hH => ?_)
                clear hS F10 KK q0 q1 q2 r0 r1 r2 r3 t0 t1 t2 t3 u0 u1 v0 v1 d0 d1 d2 d3 d4 d5 d6 d7
                refine wpAnyH_take (i := 0) (oi := ⟨some 85, _, _, _, _, _⟩) (v := .int .i64 40) rfl (by kernel_rfl) (by kernel_rfl) (by kernel_rfl) (fun _ _ _ h => h) (Or.inl ⟨by rfl, fun w hSw => by go_simp⟩) hH ?_
                simp only [Act.put, List.setIfInBounds_toArray, List.set_cons_zero, List.set_cons_succ]
                refine wpAnyH_take (i := 3) (oi := ⟨some 88, _, _, _, _, _⟩) (v := .pointer (some ⟨g + 1 + 1 + 1, 0, none⟩)) rfl (by kernel_rfl) (by kernel_rfl) (by kernel_rfl) (fun _ _ _ h => h) (Or.inl ⟨by rfl, fun w hSw => by go_simp⟩) hH ?_
                simp only [Act.put, List.setIfInBounds_toArray, List.set_cons_zero, List.set_cons_succ]
                refine wpAnyH_take (i := 4) (oi := ⟨some 89, _, _, _, _, _⟩) (v := .int .i64 cn) rfl (by kernel_rfl) (by kernel_rfl) (by kernel_rfl) (fun _ _ _ h => h) (Or.inl ⟨by rfl, fun w hSw => by obtain ⟨u0, u1⟩ := bx2 (K4.out.1.kept hSw.gr).c; go_simp⟩) hH ?_
                simp only [Act.put, List.setIfInBounds_toArray, List.set_cons_zero, List.set_cons_succ]
                refine wpAnyH_take (i := 5) (oi := ⟨some 90, _, _, _, _, _⟩) (v := .bool false) rfl (by kernel_rfl) (by kernel_rfl) (by kernel_rfl) (fun _ _ _ h => h) (Or.inl ⟨by rfl, fun w hSw => by go_simp⟩) hH ?_
                simp only [Act.put, List.setIfInBounds_toArray, List.set_cons_zero, List.set_cons_succ]
                refine wpAnyH_ready (rs := [1]) (by kernel_rfl) (by simp) ?_
                refine AllReadyH.cons rfl (fun K hK => ?_) AllReadyH.nil
                go_simp
                go_wp2_with ((go_at_call 10; with_reducible refine (num9_any _ _).mono ?_; rintro e w' ⟨rfl, rfl⟩))
                refine hK.out _ _ hH (fun _ => ?_)
                clear hK K
                refine wpAnyH_take (i := 2) (oi := ⟨some 87, _, _, _, _, _⟩) (v := .bool false) rfl (by kernel_rfl) (by kernel_rfl) (by kernel_rfl) (fun _ _ _ h => h) (Or.inl ⟨by rfl, fun w hSw => by go_simp⟩) hH ?_
                simp only [Act.put, List.setIfInBounds_toArray, List.set_cons_zero, List.set_cons_succ]
                refine wpAnyH_take (i := 6) (oi := ⟨some 91, _, _, _, _, _⟩) (v := .bool false) rfl (by kernel_rfl) (by kernel_rfl) (by kernel_rfl) (fun _ _ _ h => h) (Or.inl ⟨by rfl, fun w hSw => by go_simp⟩) hH ?_
                simp only [Act.put, List.setIfInBounds_toArray, List.set_cons_zero, List.set_cons_succ]
                refine wpAnyH_take (i := 7) (oi := ⟨some 92, _, _, _, _, _⟩) (v := .bool false) rfl (by kernel_rfl) (by kernel_rfl) (by kernel_rfl) (fun _ _ _ h => h) (Or.inl ⟨by rfl, fun w hSw => by go_simp⟩) hH ?_
                simp only [Act.put, List.setIfInBounds_toArray, List.set_cons_zero, List.set_cons_succ]
                refine wpAnyH_take (i := 8) (oi := ⟨some 93, _, _, _, _, _⟩) (v := .pointer (some ⟨fb, 0, none⟩)) rfl (by kernel_rfl) (by kernel_rfl) (by kernel_rfl) (fun _ _ _ h => h) (Or.inl ⟨by rfl, fun w hSw => by go_simp⟩) hH ?_
                simp only [Act.put, List.setIfInBounds_toArray, List.set_cons_zero, List.set_cons_succ]
                refine wpAnyH_ready (rs := [9]) (by kernel_rfl) (by simp) ?_
                refine AllReadyH.cons rfl (fun K hK => ?_) AllReadyH.nil
                go_simp
                go_wp2_with (go_at_call 13; refine (con _ _ _ _ _ hH.rep).mono ?_; rintro e w' ⟨rfl, rfl⟩)
                refine hK.out _ _ hH (fun _ => ?_)
                clear hK K
                refine wpAnyH_take (i := 10) (oi := ⟨some 95, _, _, _, _, _⟩) (v := .bool true) rfl (by kernel_rfl) (by kernel_rfl) (by kernel_rfl) (fun _ _ _ h => h) (Or.inl ⟨by rfl, fun w hSw => by go_simp⟩) hH ?_
                simp only [Act.put, List.setIfInBounds_toArray, List.set_cons_zero, List.set_cons_succ]
                refine wpAnyH_take (i := 11) (oi := ⟨some 96, _, _, _, _, _⟩) (v := .bool true) rfl (by kernel_rfl) (by kernel_rfl) (by kernel_rfl) (fun _ _ _ h => h) (Or.inl ⟨by rfl, fun w hSw => by go_simp⟩) hH ?_
                simp only [Act.put, List.setIfInBounds_toArray, List.set_cons_zero, List.set_cons_succ]
                refine wpAnyH_take (i := 12) (oi := ⟨some 97, _, _, _, _, _⟩) (v := .int .i64 40) rfl (by kernel_rfl) (by kernel_rfl) (by kernel_rfl) (fun _ _ _ h => h) (Or.inl ⟨by rfl, fun w hSw => by go_simp⟩) hH ?_
                simp only [Act.put, List.setIfInBounds_toArray, List.set_cons_zero, List.set_cons_succ]
                refine wpAnyH_ready (rs := [13]) (by kernel_rfl) (by simp) ?_
                refine AllReadyH.cons rfl (fun K hK => ?_) AllReadyH.nil
                go_simp
                go_wp2_with ((go_at_call 10; with_reducible refine (num9_any _ _).mono ?_; rintro e w' ⟨rfl, rfl⟩))
                refine hK.out _ _ hH (fun _ => ?_)
                clear hK K
                refine wpAnyH_take (i := 14) (oi := ⟨some 99, _, _, _, _, _⟩) (v := .bool false) rfl (by kernel_rfl) (by kernel_rfl) (by kernel_rfl) (fun _ _ _ h => h) (Or.inl ⟨by rfl, fun w hSw => by go_simp⟩) hH ?_
                simp only [Act.put, List.setIfInBounds_toArray, List.set_cons_zero, List.set_cons_succ]
                refine wpAnyH_take (i := 15) (oi := ⟨some 100, _, _, _, _, _⟩) (v := .bool false) rfl (by kernel_rfl) (by kernel_rfl) (by kernel_rfl) (fun _ _ _ h => h) (Or.inl ⟨by rfl, fun w hSw => by go_simp⟩) hH ?_
                simp only [Act.put, List.setIfInBounds_toArray, List.set_cons_zero, List.set_cons_succ]
                refine wpAnyH_take (i := 16) (oi := ⟨some 101, _, _, _, _, _⟩) (v := .bool false) rfl (by kernel_rfl) (by kernel_rfl) (by kernel_rfl) (fun _ _ _ h => h) (Or.inl ⟨by rfl, fun w hSw => by go_simp⟩) hH ?_
                simp only [Act.put, List.setIfInBounds_toArray, List.set_cons_zero, List.set_cons_succ]
                refine wpAnyH_done (by kernel_rfl) ?_ _
                have F11 : Hid _ := hH
                clear hH con
                have KK : Hid _ := And.intro (K4.out.1.kept F11.out.gr) (K4.out.2.kept F11.out.gr)
                obtain ⟨q0, q1, q2⟩ := geo3 (KK.out.1).ge
                obtain ⟨r0, r1, r2, r3⟩ := rec4 (KK.out.1).r
                obtain ⟨t0, t1, t2, t3⟩ := rec4 (KK.out.1).s
                obtain ⟨u0, u1⟩ := bx2 (KK.out.1).c
                obtain ⟨v0, v1⟩ := bx2 (KK.out.1).d
                obtain ⟨d0, d1, d2, d3, d4, d5, d6, d7⟩ := plan8 (KK.out.2)
                go_wp2_with (first | (go_at_call 10; with_reducible refine (num9_any _ _).mono ?_; rintro e w' ⟨rfl, rfl⟩))
                refine (c4 _ _ _ _ _ F11.out.rep).mono ?_
                rintro e w12 ⟨rfl, hC, hQ⟩
                have F12 : Hid _ := F11.out.call hC hQ
                clear hC hQ F11 KK c4 q0 q1 q2 r0 r1 r2 r3 t0 t1 t2 t3 u0 u1 v0 v1 d0 d1 d2 d3 d4 d5 d6 d7
                have KK : Hid _ := And.intro (K4.out.1.kept F12.out.gr) (K4.out.2.kept F12.out.gr)
                obtain ⟨q0, q1, q2⟩ := geo3 (KK.out.1).ge
                obtain ⟨r0, r1, r2, r3⟩ := rec4 (KK.out.1).r
                obtain ⟨t0, t1, t2, t3⟩ := rec4 (KK.out.1).s
                obtain ⟨u0, u1⟩ := bx2 (KK.out.1).c
                obtain ⟨v0, v1⟩ := bx2 (KK.out.1).d
                obtain ⟨d0, d1, d2, d3, d4, d5, d6, d7⟩ := plan8 (KK.out.2)
                try simp only
                go_wp2_with (first | (go_at_call 10; with_reducible refine (num9_any _ _).mono ?_; rintro e w' ⟨rfl, rfl⟩))
                refine (c5 _ _ _ _ _ F12.out.rep).mono ?_
                rintro e w13 ⟨rfl, gg⟩
                have F13 : Hid _ := F12.out.kept gg
                clear gg F12 KK c5 q0 q1 q2 r0 r1 r2 r3 t0 t1 t2 t3 u0 u1 v0 v1 d0 d1 d2 d3 d4 d5 d6 d7
                have KK : Hid _ := And.intro (K4.out.1.kept F13.out.gr) (K4.out.2.kept F13.out.gr)
                obtain ⟨q0, q1, q2⟩ := geo3 (KK.out.1).ge
                obtain ⟨r0, r1, r2, r3⟩ := rec4 (KK.out.1).r
                obtain ⟨t0, t1, t2, t3⟩ := rec4 (KK.out.1).s
                obtain ⟨u0, u1⟩ := bx2 (KK.out.1).c
                obtain ⟨v0, v1⟩ := bx2 (KK.out.1).d
                obtain ⟨d0, d1, d2, d3, d4, d5, d6, d7⟩ := plan8 (KK.out.2)
                try simp only
                go_wp2_with (first | (go_at_call 10; with_reducible refine (num9_any _ _).mono ?_; rintro e w' ⟨rfl, rfl⟩))
                refine (c6 _ _ _ _ _ F13.out.rep).mono ?_
                rintro e w14 ⟨gg, aL, nL, cL, aX, nX, cX, rfl, hnl, hnx, hfl, hfx, hls⟩
                have F14 : Hid _ := F13.out.kept gg
                obtain ⟨hz, tl, hkl⟩ := kli_ne HP4.out.2.2.1
                have hn1 := hls.nL
                try simp only at hn1 hls
                rw [hkl] at hn1 hls
                obtain ⟨bL, oL, rfl, l0, l1, l2, l3⟩ := hls.rs 0 (kfi m4) rfl
                simp only [List.length_cons, Nat.mul_zero, Nat.add_zero] at hn1 l0 l1 l2 l3
                have hfo := kda_ok F14.out.rep.byt (kfi m4)
                rcases hD : kda m4 (kfi m4) with ⟨⟨kq, ks, kl, ku⟩, ke⟩
                rw [hD] at hz l0 l1 l2 l3 hfo
                simp only at hz l0 l1 l2 l3 hfo
                subst hz
                have HD : Hid _ := And.intro hD hfo
                have hnpos : 0 < nL := by omega
                clear gg F13 KK c6 hnl hnx hfl hfx hls hkl hn1 hD hfo tl q0 q1 q2 r0 r1 r2 r3 t0 t1 t2 t3 u0 u1 v0 v1 d0 d1 d2 d3 d4 d5 d6 d7
                have KK : Hid _ := And.intro (K4.out.1.kept F14.out.gr) (K4.out.2.kept F14.out.gr)
                obtain ⟨q0, q1, q2⟩ := geo3 (KK.out.1).ge
                obtain ⟨r0, r1, r2, r3⟩ := rec4 (KK.out.1).r
                obtain ⟨t0, t1, t2, t3⟩ := rec4 (KK.out.1).s
                obtain ⟨u0, u1⟩ := bx2 (KK.out.1).c
                obtain ⟨v0, v1⟩ := bx2 (KK.out.1).d
                obtain ⟨d0, d1, d2, d3, d4, d5, d6, d7⟩ := plan8 (KK.out.2)
                try simp only
                go_wp2_with (first | (go_at_call 10; with_reducible refine (num9_any _ _).mono ?_; rintro e w' ⟨rfl, rfl⟩))
                by_cases q1 : kq = rq ∧ ks = rs ∧ kl = rl ∧ ku = ru
                · have EQ1 : Hid _ := q1
                  clear q1
                  have hS : (fun w' => Fs w4 w' fb bb db wb m4 (fun _ => False) ∧ w'.cell? ⟨bL, oL, none⟩ = some (.int .u64 kq) ∧ w'.cell? ⟨bL, oL + 1, none⟩ = some (.int .i64 ks) ∧ w'.cell? ⟨bL, oL + 2, none⟩ = some (.int .i64 kl) ∧ w'.cell? ⟨bL, oL + 3, none⟩ = some (.int .u64 ku)) w14.drew := ⟨F14.out.kept (Pa.drewG _), l0, l1, l2, l3⟩
                  refine wp_region_held_drew (S := fun w' => Fs w4 w' fb bb db wb m4 (fun _ => False) ∧ w'.cell? ⟨bL, oL, none⟩ = some (.int .u64 kq) ∧ w'.cell? ⟨bL, oL + 1, none⟩ = some (.int .i64 ks) ∧ w'.cell? ⟨bL, oL + 2, none⟩ = some (.int .i64 kl) ∧ w'.cell? ⟨bL, oL + 3, none⟩ = some (.int .u64 ku)) (by kernel_rfl) hS (fun hH => ?_)
                  clear hS F14 KK l0 l1 l2 l3 q0 q1 q2 r0 r1 r2 r3 t0 t1 t2 t3 u0 u1 v0 v1 d0 d1 d2 d3 d4 d5 d6 d7
                  refine wpAnyH_take (i := 0) (oi := ⟨some 117, _, _, _, _, _⟩) (v := .slice (some ⟨bL, oL, none⟩) nL cL) rfl (by kernel_rfl) (by kernel_rfl) (by kernel_rfl) (fun _ _ _ h => h) (Or.inl ⟨by rfl, fun w hSw => by go_simp⟩) hH ?_
                  simp only [Act.put, List.setIfInBounds_toArray, List.set_cons_zero, List.set_cons_succ]
                  refine wpAnyH_take (i := 1) (oi := ⟨some 118, _, _, _, _, _⟩) (v := .int .i64 nL) rfl (by kernel_rfl) (by kernel_rfl) (by kernel_rfl) (fun _ _ _ h => h) (Or.inl ⟨by rfl, fun w hSw => by go_simp⟩) hH ?_
                  simp only [Act.put, List.setIfInBounds_toArray, List.set_cons_zero, List.set_cons_succ]
                  refine wpAnyH_take (i := 2) (oi := ⟨some 119, _, _, _, _, _⟩) (v := .bool false) rfl (by kernel_rfl) (by kernel_rfl) (by kernel_rfl) (fun _ _ _ h => h) (Or.inl ⟨by rfl, fun w hSw => by (go_simp; try omega)⟩) hH ?_
                  simp only [Act.put, List.setIfInBounds_toArray, List.set_cons_zero, List.set_cons_succ]
                  refine wpAnyH_take (i := 3) (oi := ⟨some 120, _, _, _, _, _⟩) (v := .bool false) rfl (by kernel_rfl) (by kernel_rfl) (by kernel_rfl) (fun _ _ _ h => h) (Or.inl ⟨by rfl, fun w hSw => by go_simp⟩) hH ?_
                  simp only [Act.put, List.setIfInBounds_toArray, List.set_cons_zero, List.set_cons_succ]
                  refine wpAnyH_take (i := 4) (oi := ⟨some 121, _, _, _, _, _⟩) (v := .slice (some ⟨bL, oL, none⟩) nL cL) rfl (by kernel_rfl) (by kernel_rfl) (by kernel_rfl) (fun _ _ _ h => h) (Or.inl ⟨by rfl, fun w hSw => by go_simp⟩) hH ?_
                  simp only [Act.put, List.setIfInBounds_toArray, List.set_cons_zero, List.set_cons_succ]
                  refine wpAnyH_take (i := 5) (oi := ⟨some 122, _, _, _, _, _⟩) (v := .pointer (some ⟨bL, oL, none⟩)) rfl (by kernel_rfl) (by kernel_rfl) (by kernel_rfl) (fun _ _ _ h => h) (Or.inl ⟨by rfl, fun w hSw => by (go_simp; try omega)⟩) hH ?_
                  simp only [Act.put, List.setIfInBounds_toArray, List.set_cons_zero, List.set_cons_succ]
                  refine wpAnyH_take (i := 6) (oi := ⟨some 123, _, _, _, _, _⟩) (v := .agg #[.int .u64 kq, .int .i64 ks, .int .i64 kl, .int .u64 ku]) rfl (by kernel_rfl) (by kernel_rfl) (by kernel_rfl) (fun _ _ _ h => h) (Or.inl ⟨by rfl, fun w hSw => by obtain ⟨-, l0, l1, l2, l3⟩ := hSw; go_simp⟩) hH ?_
                  simp only [Act.put, List.setIfInBounds_toArray, List.set_cons_zero, List.set_cons_succ]
                  refine wpAnyH_take (i := 7) (oi := ⟨some 124, _, _, _, _, _⟩) (v := .agg #[.int .u64 rq, .int .i64 rs, .int .i64 rl, .int .u64 ru]) rfl (by kernel_rfl) (by kernel_rfl) (by kernel_rfl) (fun _ _ _ h => h) (Or.inl ⟨by rfl, fun w hSw => by obtain ⟨r0, r1, r2, r3⟩ := rec4 (K4.out.1.kept hSw.1.gr).r; go_simp⟩) hH ?_
                  simp only [Act.put, List.setIfInBounds_toArray, List.set_cons_zero, List.set_cons_succ]
                  refine wpAnyH_take (i := 8) (oi := ⟨some 125, _, _, _, _, _⟩) (v := .bool false) rfl (by kernel_rfl) (by kernel_rfl) (by kernel_rfl) (fun _ _ _ h => h) (Or.inl ⟨by rfl, fun w hSw => by (go_simp; try (first | (intro h1 h2 h3 h4; exact EQ1.out ⟨h1, h2, h3, h4⟩) | (have e4 := EQ1.out; simp [e4.1, e4.2.1, e4.2.2.1, e4.2.2.2])))⟩) hH ?_
                  simp only [Act.put, List.setIfInBounds_toArray, List.set_cons_zero, List.set_cons_succ]
                  refine wpAnyH_take (i := 9) (oi := ⟨some 126, _, _, _, _, _⟩) (v := .bool false) rfl (by kernel_rfl) (by kernel_rfl) (by kernel_rfl) (fun _ _ _ h => h) (Or.inl ⟨by rfl, fun w hSw => by go_simp⟩) hH ?_
                  simp only [Act.put, List.setIfInBounds_toArray, List.set_cons_zero, List.set_cons_succ]
                  refine wpAnyH_take (i := 10) (oi := ⟨some 127, _, _, _, _, _⟩) (v := undef) rfl (by kernel_rfl) (by kernel_rfl) (by kernel_rfl) (fun _ _ _ h => h) (Or.inr ⟨by rfl, rfl⟩) hH ?_
                  simp only [Act.put, List.setIfInBounds_toArray, List.set_cons_zero, List.set_cons_succ]
                  refine wpAnyH_take (i := 11) (oi := ⟨some 128, _, _, _, _, _⟩) (v := undef) rfl (by kernel_rfl) (by kernel_rfl) (by kernel_rfl) (fun _ _ _ h => h) (Or.inr ⟨by rfl, rfl⟩) hH ?_
                  simp only [Act.put, List.setIfInBounds_toArray, List.set_cons_zero, List.set_cons_succ]
                  refine wpAnyH_take (i := 12) (oi := ⟨some 129, _, _, _, _, _⟩) (v := undef) rfl (by kernel_rfl) (by kernel_rfl) (by kernel_rfl) (fun _ _ _ h => h) (Or.inr ⟨by rfl, rfl⟩) hH ?_
                  simp only [Act.put, List.setIfInBounds_toArray, List.set_cons_zero, List.set_cons_succ]
                  refine wpAnyH_take (i := 13) (oi := ⟨some 130, _, _, _, _, _⟩) (v := undef) rfl (by kernel_rfl) (by kernel_rfl) (by kernel_rfl) (fun _ _ _ h => h) (Or.inr ⟨by rfl, rfl⟩) hH ?_
                  simp only [Act.put, List.setIfInBounds_toArray, List.set_cons_zero, List.set_cons_succ]
                  refine wpAnyH_take (i := 14) (oi := ⟨some 131, _, _, _, _, _⟩) (v := undef) rfl (by kernel_rfl) (by kernel_rfl) (by kernel_rfl) (fun _ _ _ h => h) (Or.inr ⟨by rfl, rfl⟩) hH ?_
                  simp only [Act.put, List.setIfInBounds_toArray, List.set_cons_zero, List.set_cons_succ]
                  refine wpAnyH_take (i := 15) (oi := ⟨some 132, _, _, _, _, _⟩) (v := .bool false) rfl (by kernel_rfl) (by kernel_rfl) (by kernel_rfl) (fun _ _ _ h => h) (Or.inl ⟨by rfl, fun w hSw => by go_simp⟩) hH ?_
                  simp only [Act.put, List.setIfInBounds_toArray, List.set_cons_zero, List.set_cons_succ]
                  refine wpAnyH_take (i := 16) (oi := ⟨some 133, _, _, _, _, _⟩) (v := .bool false) rfl (by kernel_rfl) (by kernel_rfl) (by kernel_rfl) (fun _ _ _ h => h) (Or.inl ⟨by rfl, fun w hSw => by go_simp⟩) hH ?_
                  simp only [Act.put, List.setIfInBounds_toArray, List.set_cons_zero, List.set_cons_succ]
                  refine wpAnyH_done (by kernel_rfl) ?_ _
                  have F15 : Hid _ := hH.1
                  obtain ⟨-, l0, l1, l2, l3⟩ := hH
                  have hrf : rrt ⟨kq, ks, kl, ku⟩ = true := by
                    obtain ⟨e1, e2, e3, e4⟩ := EQ1.out
                    rw [e1, e2, e3, e4]
                    exact HRR.out.1
                  obtain ⟨hk4, D1, D3, hP, D4⟩ := HP4.out
                  have hfo := HD.out.2
                  have hqf := hfo.1.1
                  have huf := hfo.2.2.2
                  obtain ⟨E1, E2, E3⟩ := arm_ok (m := m4) (n := dn) (ts := td) (by omega) D4
                  have E4 := Fm.good_arm D1 dn td hdn.2
                  have hk5 : kok (m4.arm dn td).1 ⟨s0, p0, b0, x0, x1, y0, y1, n⟩ = true := by rw [(like_arm m4 dn td).kok]; exact hk4
                  have E5 : kda (m4.arm dn td).1 (kfi (m4.arm dn td).1) = (⟨kq, ks, kl, ku⟩, 0) := by rw [kfi_arm, kda_arm]; exact HD.out.1
                  have j1 := fun W fb bb db wb (h : PRep W fb bb db wb m4 (fun _ => False)) (R : Row W aD td.length td) hY => prep_arm h D1 (fun x hx => hx.elim) dn aD kD td R hY
                  rw [E1] at j1
                  have hld : td.length = ld := HLEN.out.2
                  rw [hld] at j1
                  clear E1 hld D1 D3 D4 hk4
                  generalize (m4.arm dn td).1 = m5 at *
                  obtain ⟨G1, G2, G3, G4⟩ := krn_repair E4 hk5 hrf hqf huf E2 E5
                  have j2 := fun W fb bb db wb (h : PRep W fb bb db wb m5 (fun _ => False)) => prepair_any h E4 (by decide) ⟨s0, p0, b0, x0, x1, y0, y1, n⟩ hP ⟨kq, ks, kl, ku⟩ hfo
                  unfold PkPost at j2
                  have hk6 : kok (krn m5 ⟨s0, p0, b0, x0, x1, y0, y1, n⟩ ⟨kq, ks, kl, ku⟩ false).1 ⟨s0, p0, b0, x0, x1, y0, y1, n⟩ = true := by rw [G1.kok]; exact hk5
                  clear G1 E2 E3 E4 E5 hk5
                  generalize krn m5 ⟨s0, p0, b0, x0, x1, y0, y1, n⟩ ⟨kq, ks, kl, ku⟩ false = Q6 at *
                  obtain ⟨m6, e6⟩ := Q6
                  simp only at G2 G3 G4 j2 hk6
                  have hk7 : kok m6.boot ⟨s0, p0, b0, x0, x1, y0, y1, n⟩ = true := by rw [(like_boot m6).kok]; exact hk6
                  have H1 := Fm.good_boot G2
                  have H2 : ∃ x ∈ kli m6.boot, (kda m6.boot x).1 = ⟨kq, ks, kl, ku⟩ ∨ (kda m6.boot x).1 = ⟨kq, ks, kl, ku⟩ := ⟨kfi m5, kli_mem (kfi_lt m5) G4, Or.inl (by rw [kda_boot, G4])⟩
                  have j3 := fun W fb bb db wb (h : PRep W fb bb db wb m6 (fun _ => False)) => prep_boot h
                  have j4 := fun W fb bb db wb (h : PRep W fb bb db wb m6.boot (fun _ => False)) => tells_any h H1 ⟨s0, p0, b0, x0, x1, y0, y1, n⟩ hP hk7 rfl ⟨kq, ks, kl, ku⟩ ⟨kq, ks, kl, ku⟩ hfo hfo h.byt H2
                  obtain ⟨I1, I2, I3, I4, I5, I6⟩ := krn_calm (all := false) H1 hk7 hrf hqf huf rfl rfl
                  have j5 := fun W fb bb db wb (h : PRep W fb bb db wb m6.boot (fun _ => False)) => prepair_any h H1 (by decide) ⟨s0, p0, b0, x0, x1, y0, y1, n⟩ hP ⟨kq, ks, kl, ku⟩ hfo
                  unfold PkPost at j5
                  rw [I1] at j5
                  have hk8 : kok (krn m6.boot ⟨s0, p0, b0, x0, x1, y0, y1, n⟩ ⟨kq, ks, kl, ku⟩ false).1 ⟨s0, p0, b0, x0, x1, y0, y1, n⟩ = true := by rw [I2.kok]; exact hk7
                  clear I1 I2 I5 H1 H2 hk6 hk7 G2 G4
                  generalize (krn m6.boot ⟨s0, p0, b0, x0, x1, y0, y1, n⟩ ⟨kq, ks, kl, ku⟩ false).1 = m8 at *
                  generalize m6.boot = m7 at *
                  have hlo8 : klo m8 ⟨s0, p0, b0, x0, x1, y0, y1, n⟩ = ([0, 1], 0) := by unfold klo; rw [if_neg (by rw [hk8]; simp), I4, if_neg (by simp), (kfi_both I6).2]
                  have j6 := fun W fb bb db wb (h : PRep W fb bb db wb m8 (fun _ => False)) => pload_any h I3 ⟨s0, p0, b0, x0, x1, y0, y1, n⟩ hP
                  unfold LdPost at j6
                  rw [hlo8] at j6
                  have j7 := fun W fb bb db wb (h : PRep W fb bb db wb m8 (fun _ => False)) => h.ops
                  have j8 := fun W fb bb db wb (h : PRep W fb bb db wb m8 (fun _ => False)) => prepair_any h I3 (by decide) ⟨s0, p0, b0, x0, x1, y0, y1, n⟩ hP ⟨kq, ks, kl, ku⟩ hfo
                  unfold PkPost at j8
                  rw [krn_both hk8 hrf I4 I6] at j8
                  have HI6 : Hid _ := I6
                  have HE6 : Hid _ := G3
                  clear hlo8 hk8 I3 I4 I6 G3 hrf hqf huf hfo hP
                  generalize m8.ops = op8 at *
                  simp only [Pa.Pl.val, Rc.val] at j2 j4 j5 j6 j8
                  have F16 : Hid (Fs w4 (w14.alloc (.cells #[.int .u64 kq, .int .i64 ks, .int .i64 kl, .int .u64 ku] 26)).drew fb bb db wb m4 (fun _ => False)) := F15.out.kept (World.grownBy_alloc w14.drew _ _)
                  have V16 : Hid (Bx (w14.alloc (.cells #[.int .u64 kq, .int .i64 ks, .int .i64 kl, .int .u64 ku] 26)).drew w14.heap.size 26 [.int .u64 kq, .int .i64 ks, .int .i64 kl, .int .u64 ku] ∧ ¬ foot fb bb db wb w14.heap.size) := ⟨Bx.new w14.drew 26 [.int .u64 kq, .int .i64 ks, .int .i64 kl, .int .u64 ku], fun x => Nat.lt_irrefl _ (F15.out.rep.lt _ x)⟩
                  clear F15
                  have KK : Hid _ := And.intro (K4.out.1.kept F16.out.gr) (K4.out.2.kept F16.out.gr)
                  obtain ⟨q0, q1, q2⟩ := geo3 (KK.out.1).ge
                  obtain ⟨r0, r1, r2, r3⟩ := rec4 (KK.out.1).r
                  obtain ⟨t0, t1, t2, t3⟩ := rec4 (KK.out.1).s
                  obtain ⟨u0, u1⟩ := bx2 (KK.out.1).c
                  obtain ⟨v0, v1⟩ := bx2 (KK.out.1).d
                  obtain ⟨d0, d1, d2, d3, d4, d5, d6, d7⟩ := plan8 (KK.out.2)
                  obtain ⟨f0, f1, f2, f3⟩ := bx4 V16.out.1
                  go_wp2_with (first | (go_at_call 10; with_reducible refine (num9_any _ _).mono ?_; rintro e w' ⟨rfl, rfl⟩))
                  generalize (w14.alloc (.cells #[.int .u64 kq, .int .i64 ks, .int .i64 kl, .int .u64 ku] 26)).drew = W16 at *
                  generalize w14.heap.size = gf at *
                  have hY := HX.out.2.2.2.in_ (grown_trans K4.out.1.gr F16.out.gr) (foot fb bb db wb) (fun b hb => F16.out.nf (Nat.lt_of_lt_of_le hb K4.out.1.gr.size))
                  refine (j1 _ _ _ _ _ F16.out.rep hY.1 hY.2).mono ?_
                  rintro e w17 ⟨rfl, hC, hQ⟩
                  have F17 : Hid _ := F16.out.call hC hQ
                  have V17 : Hid _ := And.intro (V16.out.1.chg hC V16.out.2) V16.out.2
                  clear hC hQ F16 V16 KK j1 q0 q1 q2 r0 r1 r2 r3 t0 t1 t2 t3 u0 u1 v0 v1 d0 d1 d2 d3 d4 d5 d6 d7 f0 f1 f2 f3
                  have KK : Hid _ := And.intro (K4.out.1.kept F17.out.gr) (K4.out.2.kept F17.out.gr)
                  obtain ⟨q0, q1, q2⟩ := geo3 (KK.out.1).ge
                  obtain ⟨r0, r1, r2, r3⟩ := rec4 (KK.out.1).r
                  obtain ⟨t0, t1, t2, t3⟩ := rec4 (KK.out.1).s
                  obtain ⟨u0, u1⟩ := bx2 (KK.out.1).c
                  obtain ⟨v0, v1⟩ := bx2 (KK.out.1).d
                  obtain ⟨d0, d1, d2, d3, d4, d5, d6, d7⟩ := plan8 (KK.out.2)
                  obtain ⟨f0, f1, f2, f3⟩ := bx4 V17.out.1
                  try simp only
                  go_wp2_with (first | (go_at_call 10; with_reducible refine (num9_any _ _).mono ?_; rintro e w' ⟨rfl, rfl⟩))
                  refine (j2 _ _ _ _ _ F17.out.rep).mono ?_
                  rintro e w18 ⟨rfl, hC, hQ⟩
                  have F18 : Hid _ := F17.out.call hC hQ
                  have V18 : Hid _ := And.intro (V17.out.1.chg hC V17.out.2) V17.out.2
                  clear hC hQ F17 V17 KK j2 q0 q1 q2 r0 r1 r2 r3 t0 t1 t2 t3 u0 u1 v0 v1 d0 d1 d2 d3 d4 d5 d6 d7 f0 f1 f2 f3
                  have KK : Hid _ := And.intro (K4.out.1.kept F18.out.gr) (K4.out.2.kept F18.out.gr)
                  obtain ⟨q0, q1, q2⟩ := geo3 (KK.out.1).ge
                  obtain ⟨r0, r1, r2, r3⟩ := rec4 (KK.out.1).r
                  obtain ⟨t0, t1, t2, t3⟩ := rec4 (KK.out.1).s
                  obtain ⟨u0, u1⟩ := bx2 (KK.out.1).c
                  obtain ⟨v0, v1⟩ := bx2 (KK.out.1).d
                  obtain ⟨d0, d1, d2, d3, d4, d5, d6, d7⟩ := plan8 (KK.out.2)
                  obtain ⟨f0, f1, f2, f3⟩ := bx4 V18.out.1
                  try simp only
                  go_wp2_with (first | (go_at_call 10; with_reducible refine (num9_any _ _).mono ?_; rintro e w' ⟨rfl, rfl⟩))
                  refine (j3 _ _ _ _ _ F18.out.rep).mono ?_
                  rintro e w19 ⟨rfl, hC, hQ⟩
                  have F19 : Hid _ := F18.out.call hC hQ
                  have V19 : Hid _ := And.intro (V18.out.1.chg hC V18.out.2) V18.out.2
                  clear hC hQ F18 V18 KK j3 q0 q1 q2 r0 r1 r2 r3 t0 t1 t2 t3 u0 u1 v0 v1 d0 d1 d2 d3 d4 d5 d6 d7 f0 f1 f2 f3
                  have KK : Hid _ := And.intro (K4.out.1.kept F19.out.gr) (K4.out.2.kept F19.out.gr)
                  obtain ⟨q0, q1, q2⟩ := geo3 (KK.out.1).ge
                  obtain ⟨r0, r1, r2, r3⟩ := rec4 (KK.out.1).r
                  obtain ⟨t0, t1, t2, t3⟩ := rec4 (KK.out.1).s
                  obtain ⟨u0, u1⟩ := bx2 (KK.out.1).c
                  obtain ⟨v0, v1⟩ := bx2 (KK.out.1).d
                  obtain ⟨d0, d1, d2, d3, d4, d5, d6, d7⟩ := plan8 (KK.out.2)
                  obtain ⟨f0, f1, f2, f3⟩ := bx4 V19.out.1
                  try simp only
                  go_wp2_with (first | (go_at_call 10; with_reducible refine (num9_any _ _).mono ?_; rintro e w' ⟨rfl, rfl⟩))
                  refine (j4 _ _ _ _ _ F19.out.rep).mono ?_
                  rintro e w20 ⟨rfl, gg⟩
                  have F20 : Hid _ := F19.out.kept gg
                  have V20 : Hid _ := And.intro (V19.out.1.kept gg) V19.out.2
                  clear gg F19 V19 KK j4 q0 q1 q2 r0 r1 r2 r3 t0 t1 t2 t3 u0 u1 v0 v1 d0 d1 d2 d3 d4 d5 d6 d7 f0 f1 f2 f3
                  have KK : Hid _ := And.intro (K4.out.1.kept F20.out.gr) (K4.out.2.kept F20.out.gr)
                  obtain ⟨q0, q1, q2⟩ := geo3 (KK.out.1).ge
                  obtain ⟨r0, r1, r2, r3⟩ := rec4 (KK.out.1).r
                  obtain ⟨t0, t1, t2, t3⟩ := rec4 (KK.out.1).s
                  obtain ⟨u0, u1⟩ := bx2 (KK.out.1).c
                  obtain ⟨v0, v1⟩ := bx2 (KK.out.1).d
                  obtain ⟨d0, d1, d2, d3, d4, d5, d6, d7⟩ := plan8 (KK.out.2)
                  obtain ⟨f0, f1, f2, f3⟩ := bx4 V20.out.1
                  try simp only
                  rcases HE6.out with rfl | rfl
                  · skip
                    go_wp2_with (first | (go_at_call 10; with_reducible refine (num9_any _ _).mono ?_; rintro e w' ⟨rfl, rfl⟩))
                    refine (j5 _ _ _ _ _ F20.out.rep).mono ?_
                    rintro e w21 ⟨rfl, hC, hQ⟩
                    have F21 : Hid _ := F20.out.call hC hQ
                    have V21 : Hid _ := And.intro (V20.out.1.chg hC V20.out.2) V20.out.2
                    clear hC hQ F20 V20 KK j5 q0 q1 q2 r0 r1 r2 r3 t0 t1 t2 t3 u0 u1 v0 v1 d0 d1 d2 d3 d4 d5 d6 d7 f0 f1 f2 f3
                    have KK : Hid _ := And.intro (K4.out.1.kept F21.out.gr) (K4.out.2.kept F21.out.gr)
                    obtain ⟨q0, q1, q2⟩ := geo3 (KK.out.1).ge
                    obtain ⟨r0, r1, r2, r3⟩ := rec4 (KK.out.1).r
                    obtain ⟨t0, t1, t2, t3⟩ := rec4 (KK.out.1).s
                    obtain ⟨u0, u1⟩ := bx2 (KK.out.1).c
                    obtain ⟨v0, v1⟩ := bx2 (KK.out.1).d
                    obtain ⟨d0, d1, d2, d3, d4, d5, d6, d7⟩ := plan8 (KK.out.2)
                    obtain ⟨f0, f1, f2, f3⟩ := bx4 V21.out.1
                    try simp only
                    go_wp2_with (first | (go_at_call 10; with_reducible refine (num9_any _ _).mono ?_; rintro e w' ⟨rfl, rfl⟩))
                    refine (j6 _ _ _ _ _ F21.out.rep).mono ?_
                    rintro e w22 ⟨gg, aM, nM, cM, aY, nY, cY, rfl, hnl, hnx, hfl, hfx, hls⟩
                    have F22 : Hid _ := F21.out.kept gg
                    have V22 : Hid _ := And.intro (V21.out.1.kept gg) V21.out.2
                    have hn1 := hls.nL
                    simp only [List.length_cons, List.length_nil] at hn1
                    subst hn1
                    obtain ⟨bM, oM, rfl, a0, a1, a2, a3⟩ := hls.rs 0 0 rfl
                    obtain ⟨bM', oM', eM, b0', b1', b2', b3'⟩ := hls.rs 1 1 rfl
                    cases eM
                    rw [HI6.out.1] at a0 a1 a2 a3
                    rw [HI6.out.2] at b0' b1' b2' b3'
                    simp only [Nat.mul_zero, Nat.mul_one, Nat.add_zero, Nat.add_assoc, Nat.reduceAdd] at a0 a1 a2 a3 b0' b1' b2' b3'
                    have HM8 : Hid (¬ foot fb bb db wb bM) := fun x => by have h1 := hfl bM oM rfl; have h2 := F21.out.rep.lt bM x; omega
                    clear gg F21 V21 KK j6 hnl hnx hfl hfx hls q0 q1 q2 r0 r1 r2 r3 t0 t1 t2 t3 u0 u1 v0 v1 d0 d1 d2 d3 d4 d5 d6 d7 f0 f1 f2 f3
                    have KK : Hid _ := And.intro (K4.out.1.kept F22.out.gr) (K4.out.2.kept F22.out.gr)
                    obtain ⟨q0, q1, q2⟩ := geo3 (KK.out.1).ge
                    obtain ⟨r0, r1, r2, r3⟩ := rec4 (KK.out.1).r
                    obtain ⟨t0, t1, t2, t3⟩ := rec4 (KK.out.1).s
                    obtain ⟨u0, u1⟩ := bx2 (KK.out.1).c
                    obtain ⟨v0, v1⟩ := bx2 (KK.out.1).d
                    obtain ⟨d0, d1, d2, d3, d4, d5, d6, d7⟩ := plan8 (KK.out.2)
                    obtain ⟨f0, f1, f2, f3⟩ := bx4 V22.out.1
                    try simp only
                    go_wp2_with (first | (go_at_call 10; with_reducible refine (num9_any _ _).mono ?_; rintro e w' ⟨rfl, rfl⟩))
                    refine (j7 _ _ _ _ _ F22.out.rep).mono ?_
                    rintro e w23 ⟨rfl, rfl⟩
                    try simp only
                    go_wp2_with (first | (go_at_call 10; with_reducible refine (num9_any _ _).mono ?_; rintro e w' ⟨rfl, rfl⟩))
                    have hS : (fun w' => M8 w4 w' fb bb db wb m8 (fun _ => False) gf bM oM kq ks kl ku) (World.drew _) := ⟨F22.out.kept (Pa.drewG _), V22.out.1.kept (Pa.drewG _), V22.out.2, HM8.out, a0, a1, a2, a3, b0', b1', b2', b3'⟩
                    refine wp_region_held_drew (S := fun w' => M8 w4 w' fb bb db wb m8 (fun _ => False) gf bM oM kq ks kl ku) (by kernel_rfl) hS (fun hH => ?_)
                    clear hS F22 V22 KK a0 a1 a2 a3 b0' b1' b2' b3' q0 q1 q2 r0 r1 r2 r3 t0 t1 t2 t3 u0 u1 v0 v1 d0 d1 d2 d3 d4 d5 d6 d7 f0 f1 f2 f3
                    refine wpAnyH_take (i := 0) (oi := ⟨some 178, _, _, _, _, _⟩) (v := .slice (some ⟨bM, oM, none⟩) 2 cM) rfl (by kernel_rfl) (by kernel_rfl) (by kernel_rfl) (fun _ _ _ h => h) (Or.inl ⟨by rfl, fun w hSw => by go_simp⟩) hH ?_
                    simp only [Act.put, List.setIfInBounds_toArray, List.set_cons_zero, List.set_cons_succ]
                    refine wpAnyH_take (i := 1) (oi := ⟨some 179, _, _, _, _, _⟩) (v := .int .i64 2) rfl (by kernel_rfl) (by kernel_rfl) (by kernel_rfl) (fun _ _ _ h => h) (Or.inl ⟨by rfl, fun w hSw => by go_simp⟩) hH ?_
                    simp only [Act.put, List.setIfInBounds_toArray, List.set_cons_zero, List.set_cons_succ]
                    refine wpAnyH_take (i := 2) (oi := ⟨some 180, _, _, _, _, _⟩) (v := .bool true) rfl (by kernel_rfl) (by kernel_rfl) (by kernel_rfl) (fun _ _ _ h => h) (Or.inl ⟨by rfl, fun w hSw => by go_simp⟩) hH ?_
                    simp only [Act.put, List.setIfInBounds_toArray, List.set_cons_zero, List.set_cons_succ]
                    refine wpAnyH_take (i := 3) (oi := ⟨some 181, _, _, _, _, _⟩) (v := .bool true) rfl (by kernel_rfl) (by kernel_rfl) (by kernel_rfl) (fun _ _ _ h => h) (Or.inl ⟨by rfl, fun w hSw => by go_simp⟩) hH ?_
                    simp only [Act.put, List.setIfInBounds_toArray, List.set_cons_zero, List.set_cons_succ]
                    refine wpAnyH_take (i := 4) (oi := ⟨some 182, _, _, _, _, _⟩) (v := .slice (some ⟨bM, oM, none⟩) 2 cM) rfl (by kernel_rfl) (by kernel_rfl) (by kernel_rfl) (fun _ _ _ h => h) (Or.inl ⟨by rfl, fun w hSw => by go_simp⟩) hH ?_
                    simp only [Act.put, List.setIfInBounds_toArray, List.set_cons_zero, List.set_cons_succ]
                    refine wpAnyH_take (i := 5) (oi := ⟨some 183, _, _, _, _, _⟩) (v := .pointer (some ⟨bM, oM, none⟩)) rfl (by kernel_rfl) (by kernel_rfl) (by kernel_rfl) (fun _ _ _ h => h) (Or.inl ⟨by rfl, fun w hSw => by go_simp⟩) hH ?_
                    simp only [Act.put, List.setIfInBounds_toArray, List.set_cons_zero, List.set_cons_succ]
                    refine wpAnyH_take (i := 6) (oi := ⟨some 184, _, _, _, _, _⟩) (v := .agg #[.int .u64 kq, .int .i64 ks, .int .i64 kl, .int .u64 ku]) rfl (by kernel_rfl) (by kernel_rfl) (by kernel_rfl) (fun _ _ _ h => h) (Or.inl ⟨by rfl, fun w hSw => by obtain ⟨a0, a1, a2, a3⟩ := hSw.a; go_simp⟩) hH ?_
                    simp only [Act.put, List.setIfInBounds_toArray, List.set_cons_zero, List.set_cons_succ]
                    refine wpAnyH_take (i := 7) (oi := ⟨some 185, _, _, _, _, _⟩) (v := .agg #[.int .u64 kq, .int .i64 ks, .int .i64 kl, .int .u64 ku]) rfl (by kernel_rfl) (by kernel_rfl) (by kernel_rfl) (fun _ _ _ h => h) (Or.inl ⟨by rfl, fun w hSw => by obtain ⟨f0, f1, f2, f3⟩ := bx4 hSw.v; go_simp⟩) hH ?_
                    simp only [Act.put, List.setIfInBounds_toArray, List.set_cons_zero, List.set_cons_succ]
                    refine wpAnyH_take (i := 8) (oi := ⟨some 186, _, _, _, _, _⟩) (v := .bool true) rfl (by kernel_rfl) (by kernel_rfl) (by kernel_rfl) (fun _ _ _ h => h) (Or.inl ⟨by rfl, fun w hSw => by go_simp⟩) hH ?_
                    simp only [Act.put, List.setIfInBounds_toArray, List.set_cons_zero, List.set_cons_succ]
                    refine wpAnyH_take (i := 9) (oi := ⟨some 187, _, _, _, _, _⟩) (v := .bool true) rfl (by kernel_rfl) (by kernel_rfl) (by kernel_rfl) (fun _ _ _ h => h) (Or.inl ⟨by rfl, fun w hSw => by go_simp⟩) hH ?_
                    simp only [Act.put, List.setIfInBounds_toArray, List.set_cons_zero, List.set_cons_succ]
                    refine wpAnyH_take (i := 10) (oi := ⟨some 188, _, _, _, _, _⟩) (v := .bool true) rfl (by kernel_rfl) (by kernel_rfl) (by kernel_rfl) (fun _ _ _ h => h) (Or.inl ⟨by rfl, fun w hSw => by go_simp⟩) hH ?_
                    simp only [Act.put, List.setIfInBounds_toArray, List.set_cons_zero, List.set_cons_succ]
                    refine wpAnyH_take (i := 11) (oi := ⟨some 189, _, _, _, _, _⟩) (v := .slice (some ⟨bM, oM, none⟩) 2 cM) rfl (by kernel_rfl) (by kernel_rfl) (by kernel_rfl) (fun _ _ _ h => h) (Or.inl ⟨by rfl, fun w hSw => by go_simp⟩) hH ?_
                    simp only [Act.put, List.setIfInBounds_toArray, List.set_cons_zero, List.set_cons_succ]
                    refine wpAnyH_take (i := 12) (oi := ⟨some 190, _, _, _, _, _⟩) (v := .pointer (some ⟨bM, oM + 4, none⟩)) rfl (by kernel_rfl) (by kernel_rfl) (by kernel_rfl) (fun _ _ _ h => h) (Or.inl ⟨by rfl, fun w hSw => by go_simp⟩) hH ?_
                    simp only [Act.put, List.setIfInBounds_toArray, List.set_cons_zero, List.set_cons_succ]
                    refine wpAnyH_take (i := 13) (oi := ⟨some 191, _, _, _, _, _⟩) (v := .agg #[.int .u64 kq, .int .i64 ks, .int .i64 kl, .int .u64 ku]) rfl (by kernel_rfl) (by kernel_rfl) (by kernel_rfl) (fun _ _ _ h => h) (Or.inl ⟨by rfl, fun w hSw => by obtain ⟨a0, a1, a2, a3⟩ := hSw.b; go_simp⟩) hH ?_
                    simp only [Act.put, List.setIfInBounds_toArray, List.set_cons_zero, List.set_cons_succ]
                    refine wpAnyH_take (i := 14) (oi := ⟨some 192, _, _, _, _, _⟩) (v := .agg #[.int .u64 kq, .int .i64 ks, .int .i64 kl, .int .u64 ku]) rfl (by kernel_rfl) (by kernel_rfl) (by kernel_rfl) (fun _ _ _ h => h) (Or.inl ⟨by rfl, fun w hSw => by obtain ⟨f0, f1, f2, f3⟩ := bx4 hSw.v; go_simp⟩) hH ?_
                    simp only [Act.put, List.setIfInBounds_toArray, List.set_cons_zero, List.set_cons_succ]
                    refine wpAnyH_take (i := 15) (oi := ⟨some 193, _, _, _, _, _⟩) (v := .bool true) rfl (by kernel_rfl) (by kernel_rfl) (by kernel_rfl) (fun _ _ _ h => h) (Or.inl ⟨by rfl, fun w hSw => by go_simp⟩) hH ?_
                    simp only [Act.put, List.setIfInBounds_toArray, List.set_cons_zero, List.set_cons_succ]
                    refine wpAnyH_take (i := 16) (oi := ⟨some 194, _, _, _, _, _⟩) (v := .bool true) rfl (by kernel_rfl) (by kernel_rfl) (by kernel_rfl) (fun _ _ _ h => h) (Or.inl ⟨by rfl, fun w hSw => by go_simp⟩) hH ?_
                    simp only [Act.put, List.setIfInBounds_toArray, List.set_cons_zero, List.set_cons_succ]
                    refine wpAnyH_take (i := 17) (oi := ⟨some 195, _, _, _, _, _⟩) (v := .bool true) rfl (by kernel_rfl) (by kernel_rfl) (by kernel_rfl) (fun _ _ _ h => h) (Or.inl ⟨by rfl, fun w hSw => by go_simp⟩) hH ?_
                    simp only [Act.put, List.setIfInBounds_toArray, List.set_cons_zero, List.set_cons_succ]
                    refine wpAnyH_take (i := 18) (oi := ⟨some 196, _, _, _, _, _⟩) (v := .pointer (some ⟨fb, 0, none⟩)) rfl (by kernel_rfl) (by kernel_rfl) (by kernel_rfl) (fun _ _ _ h => h) (Or.inl ⟨by rfl, fun w hSw => by go_simp⟩) hH ?_
                    simp only [Act.put, List.setIfInBounds_toArray, List.set_cons_zero, List.set_cons_succ]
                    refine wpAnyH_take (i := 19) (oi := ⟨some 197, _, _, _, _, _⟩) (v := .agg #[.int .i64 s0, .int .i64 p0, .int .i64 b0, .int .i64 x0, .int .i64 x1, .int .i64 y0, .int .i64 y1, .int .i64 n]) rfl (by kernel_rfl) (by kernel_rfl) (by kernel_rfl) (fun _ _ _ h => h) (Or.inl ⟨by rfl, fun w hSw => by obtain ⟨d0, d1, d2, d3, d4, d5, d6, d7⟩ := plan8 (K4.out.2.kept hSw.f.gr); go_simp⟩) hH ?_
                    simp only [Act.put, List.setIfInBounds_toArray, List.set_cons_zero, List.set_cons_succ]
                    refine wpAnyH_take (i := 20) (oi := ⟨some 198, _, _, _, _, _⟩) (v := .agg #[.int .u64 kq, .int .i64 ks, .int .i64 kl, .int .u64 ku]) rfl (by kernel_rfl) (by kernel_rfl) (by kernel_rfl) (fun _ _ _ h => h) (Or.inl ⟨by rfl, fun w hSw => by obtain ⟨f0, f1, f2, f3⟩ := bx4 hSw.v; go_simp⟩) hH ?_
                    simp only [Act.put, List.setIfInBounds_toArray, List.set_cons_zero, List.set_cons_succ]
                    refine wpAnyH_ready (rs := [21]) (by kernel_rfl) (by simp) ?_
                    refine AllReadyH.cons rfl (fun K hK => ?_) AllReadyH.nil
                    go_simp
                    go_wp2_with (go_at_call 17; refine (j8 _ _ _ _ _ hH.f.rep).mono ?_; rintro e w24 ⟨rfl, hC, hQ⟩)
                    replace hH := hH.chg hC hQ
                    clear hC hQ
                    refine hK.out _ _ hH (fun _ => ?_)
                    clear hK K
                    refine wpAnyH_ready (rs := [22]) (by kernel_rfl) (by simp) ?_
                    refine AllReadyH.cons rfl (fun K hK => ?_) AllReadyH.nil
                    go_simp
                    go_wp2_with ((go_at_call 10; with_reducible refine (num9_any _ _).mono ?_; rintro e w' ⟨rfl, rfl⟩))
                    refine hK.out _ _ hH (fun _ => ?_)
                    clear hK K
                    refine wpAnyH_take (i := 23) (oi := ⟨some 201, _, _, _, _, _⟩) (v := .bool true) rfl (by kernel_rfl) (by kernel_rfl) (by kernel_rfl) (fun _ _ _ h => h) (Or.inl ⟨by rfl, fun w hSw => by go_simp⟩) hH ?_
                    simp only [Act.put, List.setIfInBounds_toArray, List.set_cons_zero, List.set_cons_succ]
                    refine wpAnyH_take (i := 24) (oi := ⟨some 202, _, _, _, _, _⟩) (v := .bool true) rfl (by kernel_rfl) (by kernel_rfl) (by kernel_rfl) (fun _ _ _ h => h) (Or.inl ⟨by rfl, fun w hSw => by go_simp⟩) hH ?_
                    simp only [Act.put, List.setIfInBounds_toArray, List.set_cons_zero, List.set_cons_succ]
                    refine wpAnyH_take (i := 25) (oi := ⟨some 203, _, _, _, _, _⟩) (v := .bool true) rfl (by kernel_rfl) (by kernel_rfl) (by kernel_rfl) (fun _ _ _ h => h) (Or.inl ⟨by rfl, fun w hSw => by go_simp⟩) hH ?_
                    simp only [Act.put, List.setIfInBounds_toArray, List.set_cons_zero, List.set_cons_succ]
                    refine wpAnyH_take (i := 26) (oi := ⟨some 204, _, _, _, _, _⟩) (v := .pointer (some ⟨fb, 0, none⟩)) rfl (by kernel_rfl) (by kernel_rfl) (by kernel_rfl) (fun _ _ _ h => h) (Or.inl ⟨by rfl, fun w hSw => by go_simp⟩) hH ?_
                    simp only [Act.put, List.setIfInBounds_toArray, List.set_cons_zero, List.set_cons_succ]
                    refine wpAnyH_take (i := 28) (oi := ⟨some 206, _, _, _, _, _⟩) (v := .int .i64 op8) rfl (by kernel_rfl) (by kernel_rfl) (by kernel_rfl) (fun _ _ _ h => h) (Or.inl ⟨by rfl, fun w hSw => by go_simp⟩) hH ?_
                    simp only [Act.put, List.setIfInBounds_toArray, List.set_cons_zero, List.set_cons_succ]
                    refine wpAnyH_ready (rs := [27]) (by kernel_rfl) (by simp) ?_
                    refine AllReadyH.cons rfl (fun K hK => ?_) AllReadyH.nil
                    go_simp
                    go_wp2_with (go_at_call 18; refine (j7 _ _ _ _ _ hH.f.rep).mono ?_; rintro e w' ⟨rfl, rfl⟩)
                    refine hK.out _ _ hH (fun _ => ?_)
                    clear hK K
                    refine wpAnyH_take (i := 29) (oi := ⟨some 207, _, _, _, _, _⟩) (v := .bool true) rfl (by kernel_rfl) (by kernel_rfl) (by kernel_rfl) (fun _ _ _ h => h) (Or.inl ⟨by rfl, fun w hSw => by go_simp⟩) hH ?_
                    simp only [Act.put, List.setIfInBounds_toArray, List.set_cons_zero, List.set_cons_succ]
                    refine wpAnyH_take (i := 30) (oi := ⟨some 208, _, _, _, _, _⟩) (v := .bool true) rfl (by kernel_rfl) (by kernel_rfl) (by kernel_rfl) (fun _ _ _ h => h) (Or.inl ⟨by rfl, fun w hSw => by go_simp⟩) hH ?_
                    simp only [Act.put, List.setIfInBounds_toArray, List.set_cons_zero, List.set_cons_succ]
                    refine wpAnyH_take (i := 31) (oi := ⟨some 209, _, _, _, _, _⟩) (v := .bool true) rfl (by kernel_rfl) (by kernel_rfl) (by kernel_rfl) (fun _ _ _ h => h) (Or.inl ⟨by rfl, fun w hSw => by go_simp⟩) hH ?_
                    simp only [Act.put, List.setIfInBounds_toArray, List.set_cons_zero, List.set_cons_succ]
                    refine wpAnyH_ready (rs := [32]) (by kernel_rfl) (by simp) ?_
                    refine AllReadyH.cons rfl (fun K hK => ?_) AllReadyH.nil
                    go_simp
                    go_wp2_with (go_at_call 8; refine (HL.out _).mono ?_; rintro e wl ⟨rfl, gl⟩)
                    replace hH := hH.kept gl
                    clear gl
                    refine hK.out _ _ hH (fun _ => ?_)
                    clear hK K
                    refine wpAnyH_take (i := 33) (oi := ⟨some 211, _, _, _, _, _⟩) (v := .bool true) rfl (by kernel_rfl) (by kernel_rfl) (by kernel_rfl) (fun _ _ _ h => h) (Or.inl ⟨by rfl, fun w hSw => by go_simp⟩) hH ?_
                    simp only [Act.put, List.setIfInBounds_toArray, List.set_cons_zero, List.set_cons_succ]
                    refine wpAnyH_take (i := 34) (oi := ⟨some 10, _, _, _, _, _⟩) (v := .bool true) rfl (by kernel_rfl) (by kernel_rfl) (by kernel_rfl) (fun _ _ _ h => h) (Or.inl ⟨by rfl, fun w hSw => by go_simp⟩) hH ?_
                    simp only [Act.put, List.setIfInBounds_toArray, List.set_cons_zero, List.set_cons_succ]
                    refine wpAnyH_done (by kernel_rfl) ?_ _
                    have HF : Hid _ := grown_trans K4.out.1.gr hH.f.gr
                    clear hH
                    go_wp2
                    go_ret
                    exact ⟨rfl, grown_below HF.out⟩
                  · skip
                    go_wp2_with (first | (go_at_call 10; with_reducible refine (num9_any _ _).mono ?_; rintro e w' ⟨rfl, rfl⟩))
                    refine (j5 _ _ _ _ _ F20.out.rep).mono ?_
                    rintro e w21 ⟨rfl, hC, hQ⟩
                    have F21 : Hid _ := F20.out.call hC hQ
                    have V21 : Hid _ := And.intro (V20.out.1.chg hC V20.out.2) V20.out.2
                    clear hC hQ F20 V20 KK j5 q0 q1 q2 r0 r1 r2 r3 t0 t1 t2 t3 u0 u1 v0 v1 d0 d1 d2 d3 d4 d5 d6 d7 f0 f1 f2 f3
                    have KK : Hid _ := And.intro (K4.out.1.kept F21.out.gr) (K4.out.2.kept F21.out.gr)
                    obtain ⟨q0, q1, q2⟩ := geo3 (KK.out.1).ge
                    obtain ⟨r0, r1, r2, r3⟩ := rec4 (KK.out.1).r
                    obtain ⟨t0, t1, t2, t3⟩ := rec4 (KK.out.1).s
                    obtain ⟨u0, u1⟩ := bx2 (KK.out.1).c
                    obtain ⟨v0, v1⟩ := bx2 (KK.out.1).d
                    obtain ⟨d0, d1, d2, d3, d4, d5, d6, d7⟩ := plan8 (KK.out.2)
                    obtain ⟨f0, f1, f2, f3⟩ := bx4 V21.out.1
                    try simp only
                    go_wp2_with (first | (go_at_call 10; with_reducible refine (num9_any _ _).mono ?_; rintro e w' ⟨rfl, rfl⟩))
                    refine (j6 _ _ _ _ _ F21.out.rep).mono ?_
                    rintro e w22 ⟨gg, aM, nM, cM, aY, nY, cY, rfl, hnl, hnx, hfl, hfx, hls⟩
                    have F22 : Hid _ := F21.out.kept gg
                    have V22 : Hid _ := And.intro (V21.out.1.kept gg) V21.out.2
                    have hn1 := hls.nL
                    simp only [List.length_cons, List.length_nil] at hn1
                    subst hn1
                    obtain ⟨bM, oM, rfl, a0, a1, a2, a3⟩ := hls.rs 0 0 rfl
                    obtain ⟨bM', oM', eM, b0', b1', b2', b3'⟩ := hls.rs 1 1 rfl
                    cases eM
                    rw [HI6.out.1] at a0 a1 a2 a3
                    rw [HI6.out.2] at b0' b1' b2' b3'
                    simp only [Nat.mul_zero, Nat.mul_one, Nat.add_zero, Nat.add_assoc, Nat.reduceAdd] at a0 a1 a2 a3 b0' b1' b2' b3'
                    have HM8 : Hid (¬ foot fb bb db wb bM) := fun x => by have h1 := hfl bM oM rfl; have h2 := F21.out.rep.lt bM x; omega
                    clear gg F21 V21 KK j6 hnl hnx hfl hfx hls q0 q1 q2 r0 r1 r2 r3 t0 t1 t2 t3 u0 u1 v0 v1 d0 d1 d2 d3 d4 d5 d6 d7 f0 f1 f2 f3
                    have KK : Hid _ := And.intro (K4.out.1.kept F22.out.gr) (K4.out.2.kept F22.out.gr)
                    obtain ⟨q0, q1, q2⟩ := geo3 (KK.out.1).ge
                    obtain ⟨r0, r1, r2, r3⟩ := rec4 (KK.out.1).r
                    obtain ⟨t0, t1, t2, t3⟩ := rec4 (KK.out.1).s
                    obtain ⟨u0, u1⟩ := bx2 (KK.out.1).c
                    obtain ⟨v0, v1⟩ := bx2 (KK.out.1).d
                    obtain ⟨d0, d1, d2, d3, d4, d5, d6, d7⟩ := plan8 (KK.out.2)
                    obtain ⟨f0, f1, f2, f3⟩ := bx4 V22.out.1
                    try simp only
                    go_wp2_with (first | (go_at_call 10; with_reducible refine (num9_any _ _).mono ?_; rintro e w' ⟨rfl, rfl⟩))
                    refine (j7 _ _ _ _ _ F22.out.rep).mono ?_
                    rintro e w23 ⟨rfl, rfl⟩
                    try simp only
                    go_wp2_with (first | (go_at_call 10; with_reducible refine (num9_any _ _).mono ?_; rintro e w' ⟨rfl, rfl⟩))
                    have hS : (fun w' => M8 w4 w' fb bb db wb m8 (fun _ => False) gf bM oM kq ks kl ku) (World.drew _) := ⟨F22.out.kept (Pa.drewG _), V22.out.1.kept (Pa.drewG _), V22.out.2, HM8.out, a0, a1, a2, a3, b0', b1', b2', b3'⟩
                    refine wp_region_held_drew (S := fun w' => M8 w4 w' fb bb db wb m8 (fun _ => False) gf bM oM kq ks kl ku) (by kernel_rfl) hS (fun hH => ?_)
                    clear hS F22 V22 KK a0 a1 a2 a3 b0' b1' b2' b3' q0 q1 q2 r0 r1 r2 r3 t0 t1 t2 t3 u0 u1 v0 v1 d0 d1 d2 d3 d4 d5 d6 d7 f0 f1 f2 f3
                    refine wpAnyH_take (i := 0) (oi := ⟨some 178, _, _, _, _, _⟩) (v := .slice (some ⟨bM, oM, none⟩) 2 cM) rfl (by kernel_rfl) (by kernel_rfl) (by kernel_rfl) (fun _ _ _ h => h) (Or.inl ⟨by rfl, fun w hSw => by go_simp⟩) hH ?_
                    simp only [Act.put, List.setIfInBounds_toArray, List.set_cons_zero, List.set_cons_succ]
                    refine wpAnyH_take (i := 1) (oi := ⟨some 179, _, _, _, _, _⟩) (v := .int .i64 2) rfl (by kernel_rfl) (by kernel_rfl) (by kernel_rfl) (fun _ _ _ h => h) (Or.inl ⟨by rfl, fun w hSw => by go_simp⟩) hH ?_
                    simp only [Act.put, List.setIfInBounds_toArray, List.set_cons_zero, List.set_cons_succ]
                    refine wpAnyH_take (i := 2) (oi := ⟨some 180, _, _, _, _, _⟩) (v := .bool true) rfl (by kernel_rfl) (by kernel_rfl) (by kernel_rfl) (fun _ _ _ h => h) (Or.inl ⟨by rfl, fun w hSw => by go_simp⟩) hH ?_
                    simp only [Act.put, List.setIfInBounds_toArray, List.set_cons_zero, List.set_cons_succ]
                    refine wpAnyH_take (i := 3) (oi := ⟨some 181, _, _, _, _, _⟩) (v := .bool true) rfl (by kernel_rfl) (by kernel_rfl) (by kernel_rfl) (fun _ _ _ h => h) (Or.inl ⟨by rfl, fun w hSw => by go_simp⟩) hH ?_
                    simp only [Act.put, List.setIfInBounds_toArray, List.set_cons_zero, List.set_cons_succ]
                    refine wpAnyH_take (i := 4) (oi := ⟨some 182, _, _, _, _, _⟩) (v := .slice (some ⟨bM, oM, none⟩) 2 cM) rfl (by kernel_rfl) (by kernel_rfl) (by kernel_rfl) (fun _ _ _ h => h) (Or.inl ⟨by rfl, fun w hSw => by go_simp⟩) hH ?_
                    simp only [Act.put, List.setIfInBounds_toArray, List.set_cons_zero, List.set_cons_succ]
                    refine wpAnyH_take (i := 5) (oi := ⟨some 183, _, _, _, _, _⟩) (v := .pointer (some ⟨bM, oM, none⟩)) rfl (by kernel_rfl) (by kernel_rfl) (by kernel_rfl) (fun _ _ _ h => h) (Or.inl ⟨by rfl, fun w hSw => by go_simp⟩) hH ?_
                    simp only [Act.put, List.setIfInBounds_toArray, List.set_cons_zero, List.set_cons_succ]
                    refine wpAnyH_take (i := 6) (oi := ⟨some 184, _, _, _, _, _⟩) (v := .agg #[.int .u64 kq, .int .i64 ks, .int .i64 kl, .int .u64 ku]) rfl (by kernel_rfl) (by kernel_rfl) (by kernel_rfl) (fun _ _ _ h => h) (Or.inl ⟨by rfl, fun w hSw => by obtain ⟨a0, a1, a2, a3⟩ := hSw.a; go_simp⟩) hH ?_
                    simp only [Act.put, List.setIfInBounds_toArray, List.set_cons_zero, List.set_cons_succ]
                    refine wpAnyH_take (i := 7) (oi := ⟨some 185, _, _, _, _, _⟩) (v := .agg #[.int .u64 kq, .int .i64 ks, .int .i64 kl, .int .u64 ku]) rfl (by kernel_rfl) (by kernel_rfl) (by kernel_rfl) (fun _ _ _ h => h) (Or.inl ⟨by rfl, fun w hSw => by obtain ⟨f0, f1, f2, f3⟩ := bx4 hSw.v; go_simp⟩) hH ?_
                    simp only [Act.put, List.setIfInBounds_toArray, List.set_cons_zero, List.set_cons_succ]
                    refine wpAnyH_take (i := 8) (oi := ⟨some 186, _, _, _, _, _⟩) (v := .bool true) rfl (by kernel_rfl) (by kernel_rfl) (by kernel_rfl) (fun _ _ _ h => h) (Or.inl ⟨by rfl, fun w hSw => by go_simp⟩) hH ?_
                    simp only [Act.put, List.setIfInBounds_toArray, List.set_cons_zero, List.set_cons_succ]
                    refine wpAnyH_take (i := 9) (oi := ⟨some 187, _, _, _, _, _⟩) (v := .bool true) rfl (by kernel_rfl) (by kernel_rfl) (by kernel_rfl) (fun _ _ _ h => h) (Or.inl ⟨by rfl, fun w hSw => by go_simp⟩) hH ?_
                    simp only [Act.put, List.setIfInBounds_toArray, List.set_cons_zero, List.set_cons_succ]
                    refine wpAnyH_take (i := 10) (oi := ⟨some 188, _, _, _, _, _⟩) (v := .bool true) rfl (by kernel_rfl) (by kernel_rfl) (by kernel_rfl) (fun _ _ _ h => h) (Or.inl ⟨by rfl, fun w hSw => by go_simp⟩) hH ?_
                    simp only [Act.put, List.setIfInBounds_toArray, List.set_cons_zero, List.set_cons_succ]
                    refine wpAnyH_take (i := 11) (oi := ⟨some 189, _, _, _, _, _⟩) (v := .slice (some ⟨bM, oM, none⟩) 2 cM) rfl (by kernel_rfl) (by kernel_rfl) (by kernel_rfl) (fun _ _ _ h => h) (Or.inl ⟨by rfl, fun w hSw => by go_simp⟩) hH ?_
                    simp only [Act.put, List.setIfInBounds_toArray, List.set_cons_zero, List.set_cons_succ]
                    refine wpAnyH_take (i := 12) (oi := ⟨some 190, _, _, _, _, _⟩) (v := .pointer (some ⟨bM, oM + 4, none⟩)) rfl (by kernel_rfl) (by kernel_rfl) (by kernel_rfl) (fun _ _ _ h => h) (Or.inl ⟨by rfl, fun w hSw => by go_simp⟩) hH ?_
                    simp only [Act.put, List.setIfInBounds_toArray, List.set_cons_zero, List.set_cons_succ]
                    refine wpAnyH_take (i := 13) (oi := ⟨some 191, _, _, _, _, _⟩) (v := .agg #[.int .u64 kq, .int .i64 ks, .int .i64 kl, .int .u64 ku]) rfl (by kernel_rfl) (by kernel_rfl) (by kernel_rfl) (fun _ _ _ h => h) (Or.inl ⟨by rfl, fun w hSw => by obtain ⟨a0, a1, a2, a3⟩ := hSw.b; go_simp⟩) hH ?_
                    simp only [Act.put, List.setIfInBounds_toArray, List.set_cons_zero, List.set_cons_succ]
                    refine wpAnyH_take (i := 14) (oi := ⟨some 192, _, _, _, _, _⟩) (v := .agg #[.int .u64 kq, .int .i64 ks, .int .i64 kl, .int .u64 ku]) rfl (by kernel_rfl) (by kernel_rfl) (by kernel_rfl) (fun _ _ _ h => h) (Or.inl ⟨by rfl, fun w hSw => by obtain ⟨f0, f1, f2, f3⟩ := bx4 hSw.v; go_simp⟩) hH ?_
                    simp only [Act.put, List.setIfInBounds_toArray, List.set_cons_zero, List.set_cons_succ]
                    refine wpAnyH_take (i := 15) (oi := ⟨some 193, _, _, _, _, _⟩) (v := .bool true) rfl (by kernel_rfl) (by kernel_rfl) (by kernel_rfl) (fun _ _ _ h => h) (Or.inl ⟨by rfl, fun w hSw => by go_simp⟩) hH ?_
                    simp only [Act.put, List.setIfInBounds_toArray, List.set_cons_zero, List.set_cons_succ]
                    refine wpAnyH_take (i := 16) (oi := ⟨some 194, _, _, _, _, _⟩) (v := .bool true) rfl (by kernel_rfl) (by kernel_rfl) (by kernel_rfl) (fun _ _ _ h => h) (Or.inl ⟨by rfl, fun w hSw => by go_simp⟩) hH ?_
                    simp only [Act.put, List.setIfInBounds_toArray, List.set_cons_zero, List.set_cons_succ]
                    refine wpAnyH_take (i := 17) (oi := ⟨some 195, _, _, _, _, _⟩) (v := .bool true) rfl (by kernel_rfl) (by kernel_rfl) (by kernel_rfl) (fun _ _ _ h => h) (Or.inl ⟨by rfl, fun w hSw => by go_simp⟩) hH ?_
                    simp only [Act.put, List.setIfInBounds_toArray, List.set_cons_zero, List.set_cons_succ]
                    refine wpAnyH_take (i := 18) (oi := ⟨some 196, _, _, _, _, _⟩) (v := .pointer (some ⟨fb, 0, none⟩)) rfl (by kernel_rfl) (by kernel_rfl) (by kernel_rfl) (fun _ _ _ h => h) (Or.inl ⟨by rfl, fun w hSw => by go_simp⟩) hH ?_
                    simp only [Act.put, List.setIfInBounds_toArray, List.set_cons_zero, List.set_cons_succ]
                    refine wpAnyH_take (i := 19) (oi := ⟨some 197, _, _, _, _, _⟩) (v := .agg #[.int .i64 s0, .int .i64 p0, .int .i64 b0, .int .i64 x0, .int .i64 x1, .int .i64 y0, .int .i64 y1, .int .i64 n]) rfl (by kernel_rfl) (by kernel_rfl) (by kernel_rfl) (fun _ _ _ h => h) (Or.inl ⟨by rfl, fun w hSw => by obtain ⟨d0, d1, d2, d3, d4, d5, d6, d7⟩ := plan8 (K4.out.2.kept hSw.f.gr); go_simp⟩) hH ?_
                    simp only [Act.put, List.setIfInBounds_toArray, List.set_cons_zero, List.set_cons_succ]
                    refine wpAnyH_take (i := 20) (oi := ⟨some 198, _, _, _, _, _⟩) (v := .agg #[.int .u64 kq, .int .i64 ks, .int .i64 kl, .int .u64 ku]) rfl (by kernel_rfl) (by kernel_rfl) (by kernel_rfl) (fun _ _ _ h => h) (Or.inl ⟨by rfl, fun w hSw => by obtain ⟨f0, f1, f2, f3⟩ := bx4 hSw.v; go_simp⟩) hH ?_
                    simp only [Act.put, List.setIfInBounds_toArray, List.set_cons_zero, List.set_cons_succ]
                    refine wpAnyH_ready (rs := [21]) (by kernel_rfl) (by simp) ?_
                    refine AllReadyH.cons rfl (fun K hK => ?_) AllReadyH.nil
                    go_simp
                    go_wp2_with (go_at_call 17; refine (j8 _ _ _ _ _ hH.f.rep).mono ?_; rintro e w24 ⟨rfl, hC, hQ⟩)
                    replace hH := hH.chg hC hQ
                    clear hC hQ
                    refine hK.out _ _ hH (fun _ => ?_)
                    clear hK K
                    refine wpAnyH_ready (rs := [22]) (by kernel_rfl) (by simp) ?_
                    refine AllReadyH.cons rfl (fun K hK => ?_) AllReadyH.nil
                    go_simp
                    go_wp2_with ((go_at_call 10; with_reducible refine (num9_any _ _).mono ?_; rintro e w' ⟨rfl, rfl⟩))
                    refine hK.out _ _ hH (fun _ => ?_)
                    clear hK K
                    refine wpAnyH_take (i := 23) (oi := ⟨some 201, _, _, _, _, _⟩) (v := .bool true) rfl (by kernel_rfl) (by kernel_rfl) (by kernel_rfl) (fun _ _ _ h => h) (Or.inl ⟨by rfl, fun w hSw => by go_simp⟩) hH ?_
                    simp only [Act.put, List.setIfInBounds_toArray, List.set_cons_zero, List.set_cons_succ]
                    refine wpAnyH_take (i := 24) (oi := ⟨some 202, _, _, _, _, _⟩) (v := .bool true) rfl (by kernel_rfl) (by kernel_rfl) (by kernel_rfl) (fun _ _ _ h => h) (Or.inl ⟨by rfl, fun w hSw => by go_simp⟩) hH ?_
                    simp only [Act.put, List.setIfInBounds_toArray, List.set_cons_zero, List.set_cons_succ]
                    refine wpAnyH_take (i := 25) (oi := ⟨some 203, _, _, _, _, _⟩) (v := .bool true) rfl (by kernel_rfl) (by kernel_rfl) (by kernel_rfl) (fun _ _ _ h => h) (Or.inl ⟨by rfl, fun w hSw => by go_simp⟩) hH ?_
                    simp only [Act.put, List.setIfInBounds_toArray, List.set_cons_zero, List.set_cons_succ]
                    refine wpAnyH_take (i := 26) (oi := ⟨some 204, _, _, _, _, _⟩) (v := .pointer (some ⟨fb, 0, none⟩)) rfl (by kernel_rfl) (by kernel_rfl) (by kernel_rfl) (fun _ _ _ h => h) (Or.inl ⟨by rfl, fun w hSw => by go_simp⟩) hH ?_
                    simp only [Act.put, List.setIfInBounds_toArray, List.set_cons_zero, List.set_cons_succ]
                    refine wpAnyH_take (i := 28) (oi := ⟨some 206, _, _, _, _, _⟩) (v := .int .i64 op8) rfl (by kernel_rfl) (by kernel_rfl) (by kernel_rfl) (fun _ _ _ h => h) (Or.inl ⟨by rfl, fun w hSw => by go_simp⟩) hH ?_
                    simp only [Act.put, List.setIfInBounds_toArray, List.set_cons_zero, List.set_cons_succ]
                    refine wpAnyH_ready (rs := [27]) (by kernel_rfl) (by simp) ?_
                    refine AllReadyH.cons rfl (fun K hK => ?_) AllReadyH.nil
                    go_simp
                    go_wp2_with (go_at_call 18; refine (j7 _ _ _ _ _ hH.f.rep).mono ?_; rintro e w' ⟨rfl, rfl⟩)
                    refine hK.out _ _ hH (fun _ => ?_)
                    clear hK K
                    refine wpAnyH_take (i := 29) (oi := ⟨some 207, _, _, _, _, _⟩) (v := .bool true) rfl (by kernel_rfl) (by kernel_rfl) (by kernel_rfl) (fun _ _ _ h => h) (Or.inl ⟨by rfl, fun w hSw => by go_simp⟩) hH ?_
                    simp only [Act.put, List.setIfInBounds_toArray, List.set_cons_zero, List.set_cons_succ]
                    refine wpAnyH_take (i := 30) (oi := ⟨some 208, _, _, _, _, _⟩) (v := .bool true) rfl (by kernel_rfl) (by kernel_rfl) (by kernel_rfl) (fun _ _ _ h => h) (Or.inl ⟨by rfl, fun w hSw => by go_simp⟩) hH ?_
                    simp only [Act.put, List.setIfInBounds_toArray, List.set_cons_zero, List.set_cons_succ]
                    refine wpAnyH_take (i := 31) (oi := ⟨some 209, _, _, _, _, _⟩) (v := .bool true) rfl (by kernel_rfl) (by kernel_rfl) (by kernel_rfl) (fun _ _ _ h => h) (Or.inl ⟨by rfl, fun w hSw => by go_simp⟩) hH ?_
                    simp only [Act.put, List.setIfInBounds_toArray, List.set_cons_zero, List.set_cons_succ]
                    refine wpAnyH_ready (rs := [32]) (by kernel_rfl) (by simp) ?_
                    refine AllReadyH.cons rfl (fun K hK => ?_) AllReadyH.nil
                    go_simp
                    go_wp2_with (go_at_call 8; refine (HL.out _).mono ?_; rintro e wl ⟨rfl, gl⟩)
                    replace hH := hH.kept gl
                    clear gl
                    refine hK.out _ _ hH (fun _ => ?_)
                    clear hK K
                    refine wpAnyH_take (i := 33) (oi := ⟨some 211, _, _, _, _, _⟩) (v := .bool true) rfl (by kernel_rfl) (by kernel_rfl) (by kernel_rfl) (fun _ _ _ h => h) (Or.inl ⟨by rfl, fun w hSw => by go_simp⟩) hH ?_
                    simp only [Act.put, List.setIfInBounds_toArray, List.set_cons_zero, List.set_cons_succ]
                    refine wpAnyH_take (i := 34) (oi := ⟨some 10, _, _, _, _, _⟩) (v := .bool true) rfl (by kernel_rfl) (by kernel_rfl) (by kernel_rfl) (fun _ _ _ h => h) (Or.inl ⟨by rfl, fun w hSw => by go_simp⟩) hH ?_
                    simp only [Act.put, List.setIfInBounds_toArray, List.set_cons_zero, List.set_cons_succ]
                    refine wpAnyH_done (by kernel_rfl) ?_ _
                    have HF : Hid _ := grown_trans K4.out.1.gr hH.f.gr
                    clear hH
                    go_wp2
                    go_ret
                    exact ⟨rfl, grown_below HF.out⟩
                · have EQ1 : Hid _ := q1
                  clear q1
                  by_cases q2 : kq = sq ∧ ks = ss ∧ kl = sl ∧ ku = su
                  · have EQ2 : Hid _ := q2
                    clear q2
                    have hS : (fun w' => Fs w4 w' fb bb db wb m4 (fun _ => False) ∧ w'.cell? ⟨bL, oL, none⟩ = some (.int .u64 kq) ∧ w'.cell? ⟨bL, oL + 1, none⟩ = some (.int .i64 ks) ∧ w'.cell? ⟨bL, oL + 2, none⟩ = some (.int .i64 kl) ∧ w'.cell? ⟨bL, oL + 3, none⟩ = some (.int .u64 ku)) w14.drew := ⟨F14.out.kept (Pa.drewG _), l0, l1, l2, l3⟩
                    refine wp_region_held_drew (S := fun w' => Fs w4 w' fb bb db wb m4 (fun _ => False) ∧ w'.cell? ⟨bL, oL, none⟩ = some (.int .u64 kq) ∧ w'.cell? ⟨bL, oL + 1, none⟩ = some (.int .i64 ks) ∧ w'.cell? ⟨bL, oL + 2, none⟩ = some (.int .i64 kl) ∧ w'.cell? ⟨bL, oL + 3, none⟩ = some (.int .u64 ku)) (by kernel_rfl) hS (fun hH => ?_)
                    clear hS F14 KK l0 l1 l2 l3 q0 q1 q2 r0 r1 r2 r3 t0 t1 t2 t3 u0 u1 v0 v1 d0 d1 d2 d3 d4 d5 d6 d7
                    refine wpAnyH_take (i := 0) (oi := ⟨some 117, _, _, _, _, _⟩) (v := .slice (some ⟨bL, oL, none⟩) nL cL) rfl (by kernel_rfl) (by kernel_rfl) (by kernel_rfl) (fun _ _ _ h => h) (Or.inl ⟨by rfl, fun w hSw => by go_simp⟩) hH ?_
                    simp only [Act.put, List.setIfInBounds_toArray, List.set_cons_zero, List.set_cons_succ]
                    refine wpAnyH_take (i := 1) (oi := ⟨some 118, _, _, _, _, _⟩) (v := .int .i64 nL) rfl (by kernel_rfl) (by kernel_rfl) (by kernel_rfl) (fun _ _ _ h => h) (Or.inl ⟨by rfl, fun w hSw => by go_simp⟩) hH ?_
                    simp only [Act.put, List.setIfInBounds_toArray, List.set_cons_zero, List.set_cons_succ]
                    refine wpAnyH_take (i := 2) (oi := ⟨some 119, _, _, _, _, _⟩) (v := .bool false) rfl (by kernel_rfl) (by kernel_rfl) (by kernel_rfl) (fun _ _ _ h => h) (Or.inl ⟨by rfl, fun w hSw => by (go_simp; try omega)⟩) hH ?_
                    simp only [Act.put, List.setIfInBounds_toArray, List.set_cons_zero, List.set_cons_succ]
                    refine wpAnyH_take (i := 3) (oi := ⟨some 120, _, _, _, _, _⟩) (v := .bool false) rfl (by kernel_rfl) (by kernel_rfl) (by kernel_rfl) (fun _ _ _ h => h) (Or.inl ⟨by rfl, fun w hSw => by go_simp⟩) hH ?_
                    simp only [Act.put, List.setIfInBounds_toArray, List.set_cons_zero, List.set_cons_succ]
                    refine wpAnyH_take (i := 4) (oi := ⟨some 121, _, _, _, _, _⟩) (v := .slice (some ⟨bL, oL, none⟩) nL cL) rfl (by kernel_rfl) (by kernel_rfl) (by kernel_rfl) (fun _ _ _ h => h) (Or.inl ⟨by rfl, fun w hSw => by go_simp⟩) hH ?_
                    simp only [Act.put, List.setIfInBounds_toArray, List.set_cons_zero, List.set_cons_succ]
                    refine wpAnyH_take (i := 5) (oi := ⟨some 122, _, _, _, _, _⟩) (v := .pointer (some ⟨bL, oL, none⟩)) rfl (by kernel_rfl) (by kernel_rfl) (by kernel_rfl) (fun _ _ _ h => h) (Or.inl ⟨by rfl, fun w hSw => by (go_simp; try omega)⟩) hH ?_
                    simp only [Act.put, List.setIfInBounds_toArray, List.set_cons_zero, List.set_cons_succ]
                    refine wpAnyH_take (i := 6) (oi := ⟨some 123, _, _, _, _, _⟩) (v := .agg #[.int .u64 kq, .int .i64 ks, .int .i64 kl, .int .u64 ku]) rfl (by kernel_rfl) (by kernel_rfl) (by kernel_rfl) (fun _ _ _ h => h) (Or.inl ⟨by rfl, fun w hSw => by obtain ⟨-, l0, l1, l2, l3⟩ := hSw; go_simp⟩) hH ?_
                    simp only [Act.put, List.setIfInBounds_toArray, List.set_cons_zero, List.set_cons_succ]
                    refine wpAnyH_take (i := 7) (oi := ⟨some 124, _, _, _, _, _⟩) (v := .agg #[.int .u64 rq, .int .i64 rs, .int .i64 rl, .int .u64 ru]) rfl (by kernel_rfl) (by kernel_rfl) (by kernel_rfl) (fun _ _ _ h => h) (Or.inl ⟨by rfl, fun w hSw => by obtain ⟨r0, r1, r2, r3⟩ := rec4 (K4.out.1.kept hSw.1.gr).r; go_simp⟩) hH ?_
                    simp only [Act.put, List.setIfInBounds_toArray, List.set_cons_zero, List.set_cons_succ]
                    refine wpAnyH_take (i := 8) (oi := ⟨some 125, _, _, _, _, _⟩) (v := .bool true) rfl (by kernel_rfl) (by kernel_rfl) (by kernel_rfl) (fun _ _ _ h => h) (Or.inl ⟨by rfl, fun w hSw => by (go_simp; try (first | (intro h1 h2 h3 h4; exact EQ1.out ⟨h1, h2, h3, h4⟩) | (have e4 := EQ1.out; simp [e4.1, e4.2.1, e4.2.2.1, e4.2.2.2])))⟩) hH ?_
                    simp only [Act.put, List.setIfInBounds_toArray, List.set_cons_zero, List.set_cons_succ]
                    refine wpAnyH_take (i := 9) (oi := ⟨some 126, _, _, _, _, _⟩) (v := .bool true) rfl (by kernel_rfl) (by kernel_rfl) (by kernel_rfl) (fun _ _ _ h => h) (Or.inl ⟨by rfl, fun w hSw => by go_simp⟩) hH ?_
                    simp only [Act.put, List.setIfInBounds_toArray, List.set_cons_zero, List.set_cons_succ]
                    refine wpAnyH_take (i := 10) (oi := ⟨some 127, _, _, _, _, _⟩) (v := .slice (some ⟨bL, oL, none⟩) nL cL) rfl (by kernel_rfl) (by kernel_rfl) (by kernel_rfl) (fun _ _ _ h => h) (Or.inl ⟨by rfl, fun w hSw => by go_simp⟩) hH ?_
                    simp only [Act.put, List.setIfInBounds_toArray, List.set_cons_zero, List.set_cons_succ]
                    refine wpAnyH_take (i := 11) (oi := ⟨some 128, _, _, _, _, _⟩) (v := .pointer (some ⟨bL, oL, none⟩)) rfl (by kernel_rfl) (by kernel_rfl) (by kernel_rfl) (fun _ _ _ h => h) (Or.inl ⟨by rfl, fun w hSw => by (go_simp; try omega)⟩) hH ?_
                    simp only [Act.put, List.setIfInBounds_toArray, List.set_cons_zero, List.set_cons_succ]
                    refine wpAnyH_take (i := 12) (oi := ⟨some 129, _, _, _, _, _⟩) (v := .agg #[.int .u64 kq, .int .i64 ks, .int .i64 kl, .int .u64 ku]) rfl (by kernel_rfl) (by kernel_rfl) (by kernel_rfl) (fun _ _ _ h => h) (Or.inl ⟨by rfl, fun w hSw => by obtain ⟨-, l0, l1, l2, l3⟩ := hSw; go_simp⟩) hH ?_
                    simp only [Act.put, List.setIfInBounds_toArray, List.set_cons_zero, List.set_cons_succ]
                    refine wpAnyH_take (i := 13) (oi := ⟨some 130, _, _, _, _, _⟩) (v := .agg #[.int .u64 sq, .int .i64 ss, .int .i64 sl, .int .u64 su]) rfl (by kernel_rfl) (by kernel_rfl) (by kernel_rfl) (fun _ _ _ h => h) (Or.inl ⟨by rfl, fun w hSw => by obtain ⟨t0, t1, t2, t3⟩ := rec4 (K4.out.1.kept hSw.1.gr).s; go_simp⟩) hH ?_
                    simp only [Act.put, List.setIfInBounds_toArray, List.set_cons_zero, List.set_cons_succ]
                    refine wpAnyH_take (i := 14) (oi := ⟨some 131, _, _, _, _, _⟩) (v := .bool false) rfl (by kernel_rfl) (by kernel_rfl) (by kernel_rfl) (fun _ _ _ h => h) (Or.inl ⟨by rfl, fun w hSw => by (go_simp; try (first | (intro h1 h2 h3 h4; exact EQ2.out ⟨h1, h2, h3, h4⟩) | (have e4 := EQ2.out; simp [e4.1, e4.2.1, e4.2.2.1, e4.2.2.2])))⟩) hH ?_
                    simp only [Act.put, List.setIfInBounds_toArray, List.set_cons_zero, List.set_cons_succ]
                    refine wpAnyH_take (i := 15) (oi := ⟨some 132, _, _, _, _, _⟩) (v := .bool false) rfl (by kernel_rfl) (by kernel_rfl) (by kernel_rfl) (fun _ _ _ h => h) (Or.inl ⟨by rfl, fun w hSw => by go_simp⟩) hH ?_
                    simp only [Act.put, List.setIfInBounds_toArray, List.set_cons_zero, List.set_cons_succ]
                    refine wpAnyH_take (i := 16) (oi := ⟨some 133, _, _, _, _, _⟩) (v := .bool false) rfl (by kernel_rfl) (by kernel_rfl) (by kernel_rfl) (fun _ _ _ h => h) (Or.inl ⟨by rfl, fun w hSw => by go_simp⟩) hH ?_
                    simp only [Act.put, List.setIfInBounds_toArray, List.set_cons_zero, List.set_cons_succ]
                    refine wpAnyH_done (by kernel_rfl) ?_ _
                    have F15 : Hid _ := hH.1
                    obtain ⟨-, l0, l1, l2, l3⟩ := hH
                    have hrf : rrt ⟨kq, ks, kl, ku⟩ = true := by
                      obtain ⟨e1, e2, e3, e4⟩ := EQ2.out
                      rw [e1, e2, e3, e4]
                      exact HRR.out.2
                    obtain ⟨hk4, D1, D3, hP, D4⟩ := HP4.out
                    have hfo := HD.out.2
                    have hqf := hfo.1.1
                    have huf := hfo.2.2.2
                    obtain ⟨E1, E2, E3⟩ := arm_ok (m := m4) (n := dn) (ts := td) (by omega) D4
                    have E4 := Fm.good_arm D1 dn td hdn.2
                    have hk5 : kok (m4.arm dn td).1 ⟨s0, p0, b0, x0, x1, y0, y1, n⟩ = true := by rw [(like_arm m4 dn td).kok]; exact hk4
                    have E5 : kda (m4.arm dn td).1 (kfi (m4.arm dn td).1) = (⟨kq, ks, kl, ku⟩, 0) := by rw [kfi_arm, kda_arm]; exact HD.out.1
                    have j1 := fun W fb bb db wb (h : PRep W fb bb db wb m4 (fun _ => False)) (R : Row W aD td.length td) hY => prep_arm h D1 (fun x hx => hx.elim) dn aD kD td R hY
                    rw [E1] at j1
                    have hld : td.length = ld := HLEN.out.2
                    rw [hld] at j1
                    clear E1 hld D1 D3 D4 hk4
                    generalize (m4.arm dn td).1 = m5 at *
                    obtain ⟨G1, G2, G3, G4⟩ := krn_repair E4 hk5 hrf hqf huf E2 E5
                    have j2 := fun W fb bb db wb (h : PRep W fb bb db wb m5 (fun _ => False)) => prepair_any h E4 (by decide) ⟨s0, p0, b0, x0, x1, y0, y1, n⟩ hP ⟨kq, ks, kl, ku⟩ hfo
                    unfold PkPost at j2
                    have hk6 : kok (krn m5 ⟨s0, p0, b0, x0, x1, y0, y1, n⟩ ⟨kq, ks, kl, ku⟩ false).1 ⟨s0, p0, b0, x0, x1, y0, y1, n⟩ = true := by rw [G1.kok]; exact hk5
                    clear G1 E2 E3 E4 E5 hk5
                    generalize krn m5 ⟨s0, p0, b0, x0, x1, y0, y1, n⟩ ⟨kq, ks, kl, ku⟩ false = Q6 at *
                    obtain ⟨m6, e6⟩ := Q6
                    simp only at G2 G3 G4 j2 hk6
                    have hk7 : kok m6.boot ⟨s0, p0, b0, x0, x1, y0, y1, n⟩ = true := by rw [(like_boot m6).kok]; exact hk6
                    have H1 := Fm.good_boot G2
                    have H2 : ∃ x ∈ kli m6.boot, (kda m6.boot x).1 = ⟨kq, ks, kl, ku⟩ ∨ (kda m6.boot x).1 = ⟨kq, ks, kl, ku⟩ := ⟨kfi m5, kli_mem (kfi_lt m5) G4, Or.inl (by rw [kda_boot, G4])⟩
                    have j3 := fun W fb bb db wb (h : PRep W fb bb db wb m6 (fun _ => False)) => prep_boot h
                    have j4 := fun W fb bb db wb (h : PRep W fb bb db wb m6.boot (fun _ => False)) => tells_any h H1 ⟨s0, p0, b0, x0, x1, y0, y1, n⟩ hP hk7 rfl ⟨kq, ks, kl, ku⟩ ⟨kq, ks, kl, ku⟩ hfo hfo h.byt H2
                    obtain ⟨I1, I2, I3, I4, I5, I6⟩ := krn_calm (all := false) H1 hk7 hrf hqf huf rfl rfl
                    have j5 := fun W fb bb db wb (h : PRep W fb bb db wb m6.boot (fun _ => False)) => prepair_any h H1 (by decide) ⟨s0, p0, b0, x0, x1, y0, y1, n⟩ hP ⟨kq, ks, kl, ku⟩ hfo
                    unfold PkPost at j5
                    rw [I1] at j5
                    have hk8 : kok (krn m6.boot ⟨s0, p0, b0, x0, x1, y0, y1, n⟩ ⟨kq, ks, kl, ku⟩ false).1 ⟨s0, p0, b0, x0, x1, y0, y1, n⟩ = true := by rw [I2.kok]; exact hk7
                    clear I1 I2 I5 H1 H2 hk6 hk7 G2 G4
                    generalize (krn m6.boot ⟨s0, p0, b0, x0, x1, y0, y1, n⟩ ⟨kq, ks, kl, ku⟩ false).1 = m8 at *
                    generalize m6.boot = m7 at *
                    have hlo8 : klo m8 ⟨s0, p0, b0, x0, x1, y0, y1, n⟩ = ([0, 1], 0) := by unfold klo; rw [if_neg (by rw [hk8]; simp), I4, if_neg (by simp), (kfi_both I6).2]
                    have j6 := fun W fb bb db wb (h : PRep W fb bb db wb m8 (fun _ => False)) => pload_any h I3 ⟨s0, p0, b0, x0, x1, y0, y1, n⟩ hP
                    unfold LdPost at j6
                    rw [hlo8] at j6
                    have j7 := fun W fb bb db wb (h : PRep W fb bb db wb m8 (fun _ => False)) => h.ops
                    have j8 := fun W fb bb db wb (h : PRep W fb bb db wb m8 (fun _ => False)) => prepair_any h I3 (by decide) ⟨s0, p0, b0, x0, x1, y0, y1, n⟩ hP ⟨kq, ks, kl, ku⟩ hfo
                    unfold PkPost at j8
                    rw [krn_both hk8 hrf I4 I6] at j8
                    have HI6 : Hid _ := I6
                    have HE6 : Hid _ := G3
                    clear hlo8 hk8 I3 I4 I6 G3 hrf hqf huf hfo hP
                    generalize m8.ops = op8 at *
                    simp only [Pa.Pl.val, Rc.val] at j2 j4 j5 j6 j8
                    have F16 : Hid (Fs w4 (w14.alloc (.cells #[.int .u64 kq, .int .i64 ks, .int .i64 kl, .int .u64 ku] 26)).drew fb bb db wb m4 (fun _ => False)) := F15.out.kept (World.grownBy_alloc w14.drew _ _)
                    have V16 : Hid (Bx (w14.alloc (.cells #[.int .u64 kq, .int .i64 ks, .int .i64 kl, .int .u64 ku] 26)).drew w14.heap.size 26 [.int .u64 kq, .int .i64 ks, .int .i64 kl, .int .u64 ku] ∧ ¬ foot fb bb db wb w14.heap.size) := ⟨Bx.new w14.drew 26 [.int .u64 kq, .int .i64 ks, .int .i64 kl, .int .u64 ku], fun x => Nat.lt_irrefl _ (F15.out.rep.lt _ x)⟩
                    clear F15
                    have KK : Hid _ := And.intro (K4.out.1.kept F16.out.gr) (K4.out.2.kept F16.out.gr)
                    obtain ⟨q0, q1, q2⟩ := geo3 (KK.out.1).ge
                    obtain ⟨r0, r1, r2, r3⟩ := rec4 (KK.out.1).r
                    obtain ⟨t0, t1, t2, t3⟩ := rec4 (KK.out.1).s
                    obtain ⟨u0, u1⟩ := bx2 (KK.out.1).c
                    obtain ⟨v0, v1⟩ := bx2 (KK.out.1).d
                    obtain ⟨d0, d1, d2, d3, d4, d5, d6, d7⟩ := plan8 (KK.out.2)
                    obtain ⟨f0, f1, f2, f3⟩ := bx4 V16.out.1
                    go_wp2_with (first | (go_at_call 10; with_reducible refine (num9_any _ _).mono ?_; rintro e w' ⟨rfl, rfl⟩))
                    generalize (w14.alloc (.cells #[.int .u64 kq, .int .i64 ks, .int .i64 kl, .int .u64 ku] 26)).drew = W16 at *
                    generalize w14.heap.size = gf at *
                    have hY := HX.out.2.2.2.in_ (grown_trans K4.out.1.gr F16.out.gr) (foot fb bb db wb) (fun b hb => F16.out.nf (Nat.lt_of_lt_of_le hb K4.out.1.gr.size))
                    refine (j1 _ _ _ _ _ F16.out.rep hY.1 hY.2).mono ?_
                    rintro e w17 ⟨rfl, hC, hQ⟩
                    have F17 : Hid _ := F16.out.call hC hQ
                    have V17 : Hid _ := And.intro (V16.out.1.chg hC V16.out.2) V16.out.2
                    clear hC hQ F16 V16 KK j1 q0 q1 q2 r0 r1 r2 r3 t0 t1 t2 t3 u0 u1 v0 v1 d0 d1 d2 d3 d4 d5 d6 d7 f0 f1 f2 f3
                    have KK : Hid _ := And.intro (K4.out.1.kept F17.out.gr) (K4.out.2.kept F17.out.gr)
                    obtain ⟨q0, q1, q2⟩ := geo3 (KK.out.1).ge
                    obtain ⟨r0, r1, r2, r3⟩ := rec4 (KK.out.1).r
                    obtain ⟨t0, t1, t2, t3⟩ := rec4 (KK.out.1).s
                    obtain ⟨u0, u1⟩ := bx2 (KK.out.1).c
                    obtain ⟨v0, v1⟩ := bx2 (KK.out.1).d
                    obtain ⟨d0, d1, d2, d3, d4, d5, d6, d7⟩ := plan8 (KK.out.2)
                    obtain ⟨f0, f1, f2, f3⟩ := bx4 V17.out.1
                    try simp only
                    go_wp2_with (first | (go_at_call 10; with_reducible refine (num9_any _ _).mono ?_; rintro e w' ⟨rfl, rfl⟩))
                    refine (j2 _ _ _ _ _ F17.out.rep).mono ?_
                    rintro e w18 ⟨rfl, hC, hQ⟩
                    have F18 : Hid _ := F17.out.call hC hQ
                    have V18 : Hid _ := And.intro (V17.out.1.chg hC V17.out.2) V17.out.2
                    clear hC hQ F17 V17 KK j2 q0 q1 q2 r0 r1 r2 r3 t0 t1 t2 t3 u0 u1 v0 v1 d0 d1 d2 d3 d4 d5 d6 d7 f0 f1 f2 f3
                    have KK : Hid _ := And.intro (K4.out.1.kept F18.out.gr) (K4.out.2.kept F18.out.gr)
                    obtain ⟨q0, q1, q2⟩ := geo3 (KK.out.1).ge
                    obtain ⟨r0, r1, r2, r3⟩ := rec4 (KK.out.1).r
                    obtain ⟨t0, t1, t2, t3⟩ := rec4 (KK.out.1).s
                    obtain ⟨u0, u1⟩ := bx2 (KK.out.1).c
                    obtain ⟨v0, v1⟩ := bx2 (KK.out.1).d
                    obtain ⟨d0, d1, d2, d3, d4, d5, d6, d7⟩ := plan8 (KK.out.2)
                    obtain ⟨f0, f1, f2, f3⟩ := bx4 V18.out.1
                    try simp only
                    go_wp2_with (first | (go_at_call 10; with_reducible refine (num9_any _ _).mono ?_; rintro e w' ⟨rfl, rfl⟩))
                    refine (j3 _ _ _ _ _ F18.out.rep).mono ?_
                    rintro e w19 ⟨rfl, hC, hQ⟩
                    have F19 : Hid _ := F18.out.call hC hQ
                    have V19 : Hid _ := And.intro (V18.out.1.chg hC V18.out.2) V18.out.2
                    clear hC hQ F18 V18 KK j3 q0 q1 q2 r0 r1 r2 r3 t0 t1 t2 t3 u0 u1 v0 v1 d0 d1 d2 d3 d4 d5 d6 d7 f0 f1 f2 f3
                    have KK : Hid _ := And.intro (K4.out.1.kept F19.out.gr) (K4.out.2.kept F19.out.gr)
                    obtain ⟨q0, q1, q2⟩ := geo3 (KK.out.1).ge
                    obtain ⟨r0, r1, r2, r3⟩ := rec4 (KK.out.1).r
                    obtain ⟨t0, t1, t2, t3⟩ := rec4 (KK.out.1).s
                    obtain ⟨u0, u1⟩ := bx2 (KK.out.1).c
                    obtain ⟨v0, v1⟩ := bx2 (KK.out.1).d
                    obtain ⟨d0, d1, d2, d3, d4, d5, d6, d7⟩ := plan8 (KK.out.2)
                    obtain ⟨f0, f1, f2, f3⟩ := bx4 V19.out.1
                    try simp only
                    go_wp2_with (first | (go_at_call 10; with_reducible refine (num9_any _ _).mono ?_; rintro e w' ⟨rfl, rfl⟩))
                    refine (j4 _ _ _ _ _ F19.out.rep).mono ?_
                    rintro e w20 ⟨rfl, gg⟩
                    have F20 : Hid _ := F19.out.kept gg
                    have V20 : Hid _ := And.intro (V19.out.1.kept gg) V19.out.2
                    clear gg F19 V19 KK j4 q0 q1 q2 r0 r1 r2 r3 t0 t1 t2 t3 u0 u1 v0 v1 d0 d1 d2 d3 d4 d5 d6 d7 f0 f1 f2 f3
                    have KK : Hid _ := And.intro (K4.out.1.kept F20.out.gr) (K4.out.2.kept F20.out.gr)
                    obtain ⟨q0, q1, q2⟩ := geo3 (KK.out.1).ge
                    obtain ⟨r0, r1, r2, r3⟩ := rec4 (KK.out.1).r
                    obtain ⟨t0, t1, t2, t3⟩ := rec4 (KK.out.1).s
                    obtain ⟨u0, u1⟩ := bx2 (KK.out.1).c
                    obtain ⟨v0, v1⟩ := bx2 (KK.out.1).d
                    obtain ⟨d0, d1, d2, d3, d4, d5, d6, d7⟩ := plan8 (KK.out.2)
                    obtain ⟨f0, f1, f2, f3⟩ := bx4 V20.out.1
                    try simp only
                    rcases HE6.out with rfl | rfl
                    · skip
                      go_wp2_with (first | (go_at_call 10; with_reducible refine (num9_any _ _).mono ?_; rintro e w' ⟨rfl, rfl⟩))
                      refine (j5 _ _ _ _ _ F20.out.rep).mono ?_
                      rintro e w21 ⟨rfl, hC, hQ⟩
                      have F21 : Hid _ := F20.out.call hC hQ
                      have V21 : Hid _ := And.intro (V20.out.1.chg hC V20.out.2) V20.out.2
                      clear hC hQ F20 V20 KK j5 q0 q1 q2 r0 r1 r2 r3 t0 t1 t2 t3 u0 u1 v0 v1 d0 d1 d2 d3 d4 d5 d6 d7 f0 f1 f2 f3
                      have KK : Hid _ := And.intro (K4.out.1.kept F21.out.gr) (K4.out.2.kept F21.out.gr)
                      obtain ⟨q0, q1, q2⟩ := geo3 (KK.out.1).ge
                      obtain ⟨r0, r1, r2, r3⟩ := rec4 (KK.out.1).r
                      obtain ⟨t0, t1, t2, t3⟩ := rec4 (KK.out.1).s
                      obtain ⟨u0, u1⟩ := bx2 (KK.out.1).c
                      obtain ⟨v0, v1⟩ := bx2 (KK.out.1).d
                      obtain ⟨d0, d1, d2, d3, d4, d5, d6, d7⟩ := plan8 (KK.out.2)
                      obtain ⟨f0, f1, f2, f3⟩ := bx4 V21.out.1
                      try simp only
                      go_wp2_with (first | (go_at_call 10; with_reducible refine (num9_any _ _).mono ?_; rintro e w' ⟨rfl, rfl⟩))
                      refine (j6 _ _ _ _ _ F21.out.rep).mono ?_
                      rintro e w22 ⟨gg, aM, nM, cM, aY, nY, cY, rfl, hnl, hnx, hfl, hfx, hls⟩
                      have F22 : Hid _ := F21.out.kept gg
                      have V22 : Hid _ := And.intro (V21.out.1.kept gg) V21.out.2
                      have hn1 := hls.nL
                      simp only [List.length_cons, List.length_nil] at hn1
                      subst hn1
                      obtain ⟨bM, oM, rfl, a0, a1, a2, a3⟩ := hls.rs 0 0 rfl
                      obtain ⟨bM', oM', eM, b0', b1', b2', b3'⟩ := hls.rs 1 1 rfl
                      cases eM
                      rw [HI6.out.1] at a0 a1 a2 a3
                      rw [HI6.out.2] at b0' b1' b2' b3'
                      simp only [Nat.mul_zero, Nat.mul_one, Nat.add_zero, Nat.add_assoc, Nat.reduceAdd] at a0 a1 a2 a3 b0' b1' b2' b3'
                      have HM8 : Hid (¬ foot fb bb db wb bM) := fun x => by have h1 := hfl bM oM rfl; have h2 := F21.out.rep.lt bM x; omega
                      clear gg F21 V21 KK j6 hnl hnx hfl hfx hls q0 q1 q2 r0 r1 r2 r3 t0 t1 t2 t3 u0 u1 v0 v1 d0 d1 d2 d3 d4 d5 d6 d7 f0 f1 f2 f3
                      have KK : Hid _ := And.intro (K4.out.1.kept F22.out.gr) (K4.out.2.kept F22.out.gr)
                      obtain ⟨q0, q1, q2⟩ := geo3 (KK.out.1).ge
                      obtain ⟨r0, r1, r2, r3⟩ := rec4 (KK.out.1).r
                      obtain ⟨t0, t1, t2, t3⟩ := rec4 (KK.out.1).s
                      obtain ⟨u0, u1⟩ := bx2 (KK.out.1).c
                      obtain ⟨v0, v1⟩ := bx2 (KK.out.1).d
                      obtain ⟨d0, d1, d2, d3, d4, d5, d6, d7⟩ := plan8 (KK.out.2)
                      obtain ⟨f0, f1, f2, f3⟩ := bx4 V22.out.1
                      try simp only
                      go_wp2_with (first | (go_at_call 10; with_reducible refine (num9_any _ _).mono ?_; rintro e w' ⟨rfl, rfl⟩))
                      refine (j7 _ _ _ _ _ F22.out.rep).mono ?_
                      rintro e w23 ⟨rfl, rfl⟩
                      try simp only
                      go_wp2_with (first | (go_at_call 10; with_reducible refine (num9_any _ _).mono ?_; rintro e w' ⟨rfl, rfl⟩))
                      have hS : (fun w' => M8 w4 w' fb bb db wb m8 (fun _ => False) gf bM oM kq ks kl ku) (World.drew _) := ⟨F22.out.kept (Pa.drewG _), V22.out.1.kept (Pa.drewG _), V22.out.2, HM8.out, a0, a1, a2, a3, b0', b1', b2', b3'⟩
                      refine wp_region_held_drew (S := fun w' => M8 w4 w' fb bb db wb m8 (fun _ => False) gf bM oM kq ks kl ku) (by kernel_rfl) hS (fun hH => ?_)
                      clear hS F22 V22 KK a0 a1 a2 a3 b0' b1' b2' b3' q0 q1 q2 r0 r1 r2 r3 t0 t1 t2 t3 u0 u1 v0 v1 d0 d1 d2 d3 d4 d5 d6 d7 f0 f1 f2 f3
                      refine wpAnyH_take (i := 0) (oi := ⟨some 178, _, _, _, _, _⟩) (v := .slice (some ⟨bM, oM, none⟩) 2 cM) rfl (by kernel_rfl) (by kernel_rfl) (by kernel_rfl) (fun _ _ _ h => h) (Or.inl ⟨by rfl, fun w hSw => by go_simp⟩) hH ?_
                      simp only [Act.put, List.setIfInBounds_toArray, List.set_cons_zero, List.set_cons_succ]
                      refine wpAnyH_take (i := 1) (oi := ⟨some 179, _, _, _, _, _⟩) (v := .int .i64 2) rfl (by kernel_rfl) (by kernel_rfl) (by kernel_rfl) (fun _ _ _ h => h) (Or.inl ⟨by rfl, fun w hSw => by go_simp⟩) hH ?_
                      simp only [Act.put, List.setIfInBounds_toArray, List.set_cons_zero, List.set_cons_succ]
                      refine wpAnyH_take (i := 2) (oi := ⟨some 180, _, _, _, _, _⟩) (v := .bool true) rfl (by kernel_rfl) (by kernel_rfl) (by kernel_rfl) (fun _ _ _ h => h) (Or.inl ⟨by rfl, fun w hSw => by go_simp⟩) hH ?_
                      simp only [Act.put, List.setIfInBounds_toArray, List.set_cons_zero, List.set_cons_succ]
                      refine wpAnyH_take (i := 3) (oi := ⟨some 181, _, _, _, _, _⟩) (v := .bool true) rfl (by kernel_rfl) (by kernel_rfl) (by kernel_rfl) (fun _ _ _ h => h) (Or.inl ⟨by rfl, fun w hSw => by go_simp⟩) hH ?_
                      simp only [Act.put, List.setIfInBounds_toArray, List.set_cons_zero, List.set_cons_succ]
                      refine wpAnyH_take (i := 4) (oi := ⟨some 182, _, _, _, _, _⟩) (v := .slice (some ⟨bM, oM, none⟩) 2 cM) rfl (by kernel_rfl) (by kernel_rfl) (by kernel_rfl) (fun _ _ _ h => h) (Or.inl ⟨by rfl, fun w hSw => by go_simp⟩) hH ?_
                      simp only [Act.put, List.setIfInBounds_toArray, List.set_cons_zero, List.set_cons_succ]
                      refine wpAnyH_take (i := 5) (oi := ⟨some 183, _, _, _, _, _⟩) (v := .pointer (some ⟨bM, oM, none⟩)) rfl (by kernel_rfl) (by kernel_rfl) (by kernel_rfl) (fun _ _ _ h => h) (Or.inl ⟨by rfl, fun w hSw => by go_simp⟩) hH ?_
                      simp only [Act.put, List.setIfInBounds_toArray, List.set_cons_zero, List.set_cons_succ]
                      refine wpAnyH_take (i := 6) (oi := ⟨some 184, _, _, _, _, _⟩) (v := .agg #[.int .u64 kq, .int .i64 ks, .int .i64 kl, .int .u64 ku]) rfl (by kernel_rfl) (by kernel_rfl) (by kernel_rfl) (fun _ _ _ h => h) (Or.inl ⟨by rfl, fun w hSw => by obtain ⟨a0, a1, a2, a3⟩ := hSw.a; go_simp⟩) hH ?_
                      simp only [Act.put, List.setIfInBounds_toArray, List.set_cons_zero, List.set_cons_succ]
                      refine wpAnyH_take (i := 7) (oi := ⟨some 185, _, _, _, _, _⟩) (v := .agg #[.int .u64 kq, .int .i64 ks, .int .i64 kl, .int .u64 ku]) rfl (by kernel_rfl) (by kernel_rfl) (by kernel_rfl) (fun _ _ _ h => h) (Or.inl ⟨by rfl, fun w hSw => by obtain ⟨f0, f1, f2, f3⟩ := bx4 hSw.v; go_simp⟩) hH ?_
                      simp only [Act.put, List.setIfInBounds_toArray, List.set_cons_zero, List.set_cons_succ]
                      refine wpAnyH_take (i := 8) (oi := ⟨some 186, _, _, _, _, _⟩) (v := .bool true) rfl (by kernel_rfl) (by kernel_rfl) (by kernel_rfl) (fun _ _ _ h => h) (Or.inl ⟨by rfl, fun w hSw => by go_simp⟩) hH ?_
                      simp only [Act.put, List.setIfInBounds_toArray, List.set_cons_zero, List.set_cons_succ]
                      refine wpAnyH_take (i := 9) (oi := ⟨some 187, _, _, _, _, _⟩) (v := .bool true) rfl (by kernel_rfl) (by kernel_rfl) (by kernel_rfl) (fun _ _ _ h => h) (Or.inl ⟨by rfl, fun w hSw => by go_simp⟩) hH ?_
                      simp only [Act.put, List.setIfInBounds_toArray, List.set_cons_zero, List.set_cons_succ]
                      refine wpAnyH_take (i := 10) (oi := ⟨some 188, _, _, _, _, _⟩) (v := .bool true) rfl (by kernel_rfl) (by kernel_rfl) (by kernel_rfl) (fun _ _ _ h => h) (Or.inl ⟨by rfl, fun w hSw => by go_simp⟩) hH ?_
                      simp only [Act.put, List.setIfInBounds_toArray, List.set_cons_zero, List.set_cons_succ]
                      refine wpAnyH_take (i := 11) (oi := ⟨some 189, _, _, _, _, _⟩) (v := .slice (some ⟨bM, oM, none⟩) 2 cM) rfl (by kernel_rfl) (by kernel_rfl) (by kernel_rfl) (fun _ _ _ h => h) (Or.inl ⟨by rfl, fun w hSw => by go_simp⟩) hH ?_
                      simp only [Act.put, List.setIfInBounds_toArray, List.set_cons_zero, List.set_cons_succ]
                      refine wpAnyH_take (i := 12) (oi := ⟨some 190, _, _, _, _, _⟩) (v := .pointer (some ⟨bM, oM + 4, none⟩)) rfl (by kernel_rfl) (by kernel_rfl) (by kernel_rfl) (fun _ _ _ h => h) (Or.inl ⟨by rfl, fun w hSw => by go_simp⟩) hH ?_
                      simp only [Act.put, List.setIfInBounds_toArray, List.set_cons_zero, List.set_cons_succ]
                      refine wpAnyH_take (i := 13) (oi := ⟨some 191, _, _, _, _, _⟩) (v := .agg #[.int .u64 kq, .int .i64 ks, .int .i64 kl, .int .u64 ku]) rfl (by kernel_rfl) (by kernel_rfl) (by kernel_rfl) (fun _ _ _ h => h) (Or.inl ⟨by rfl, fun w hSw => by obtain ⟨a0, a1, a2, a3⟩ := hSw.b; go_simp⟩) hH ?_
                      simp only [Act.put, List.setIfInBounds_toArray, List.set_cons_zero, List.set_cons_succ]
                      refine wpAnyH_take (i := 14) (oi := ⟨some 192, _, _, _, _, _⟩) (v := .agg #[.int .u64 kq, .int .i64 ks, .int .i64 kl, .int .u64 ku]) rfl (by kernel_rfl) (by kernel_rfl) (by kernel_rfl) (fun _ _ _ h => h) (Or.inl ⟨by rfl, fun w hSw => by obtain ⟨f0, f1, f2, f3⟩ := bx4 hSw.v; go_simp⟩) hH ?_
                      simp only [Act.put, List.setIfInBounds_toArray, List.set_cons_zero, List.set_cons_succ]
                      refine wpAnyH_take (i := 15) (oi := ⟨some 193, _, _, _, _, _⟩) (v := .bool true) rfl (by kernel_rfl) (by kernel_rfl) (by kernel_rfl) (fun _ _ _ h => h) (Or.inl ⟨by rfl, fun w hSw => by go_simp⟩) hH ?_
                      simp only [Act.put, List.setIfInBounds_toArray, List.set_cons_zero, List.set_cons_succ]
                      refine wpAnyH_take (i := 16) (oi := ⟨some 194, _, _, _, _, _⟩) (v := .bool true) rfl (by kernel_rfl) (by kernel_rfl) (by kernel_rfl) (fun _ _ _ h => h) (Or.inl ⟨by rfl, fun w hSw => by go_simp⟩) hH ?_
                      simp only [Act.put, List.setIfInBounds_toArray, List.set_cons_zero, List.set_cons_succ]
                      refine wpAnyH_take (i := 17) (oi := ⟨some 195, _, _, _, _, _⟩) (v := .bool true) rfl (by kernel_rfl) (by kernel_rfl) (by kernel_rfl) (fun _ _ _ h => h) (Or.inl ⟨by rfl, fun w hSw => by go_simp⟩) hH ?_
                      simp only [Act.put, List.setIfInBounds_toArray, List.set_cons_zero, List.set_cons_succ]
                      refine wpAnyH_take (i := 18) (oi := ⟨some 196, _, _, _, _, _⟩) (v := .pointer (some ⟨fb, 0, none⟩)) rfl (by kernel_rfl) (by kernel_rfl) (by kernel_rfl) (fun _ _ _ h => h) (Or.inl ⟨by rfl, fun w hSw => by go_simp⟩) hH ?_
                      simp only [Act.put, List.setIfInBounds_toArray, List.set_cons_zero, List.set_cons_succ]
                      refine wpAnyH_take (i := 19) (oi := ⟨some 197, _, _, _, _, _⟩) (v := .agg #[.int .i64 s0, .int .i64 p0, .int .i64 b0, .int .i64 x0, .int .i64 x1, .int .i64 y0, .int .i64 y1, .int .i64 n]) rfl (by kernel_rfl) (by kernel_rfl) (by kernel_rfl) (fun _ _ _ h => h) (Or.inl ⟨by rfl, fun w hSw => by obtain ⟨d0, d1, d2, d3, d4, d5, d6, d7⟩ := plan8 (K4.out.2.kept hSw.f.gr); go_simp⟩) hH ?_
                      simp only [Act.put, List.setIfInBounds_toArray, List.set_cons_zero, List.set_cons_succ]
                      refine wpAnyH_take (i := 20) (oi := ⟨some 198, _, _, _, _, _⟩) (v := .agg #[.int .u64 kq, .int .i64 ks, .int .i64 kl, .int .u64 ku]) rfl (by kernel_rfl) (by kernel_rfl) (by kernel_rfl) (fun _ _ _ h => h) (Or.inl ⟨by rfl, fun w hSw => by obtain ⟨f0, f1, f2, f3⟩ := bx4 hSw.v; go_simp⟩) hH ?_
                      simp only [Act.put, List.setIfInBounds_toArray, List.set_cons_zero, List.set_cons_succ]
                      refine wpAnyH_ready (rs := [21]) (by kernel_rfl) (by simp) ?_
                      refine AllReadyH.cons rfl (fun K hK => ?_) AllReadyH.nil
                      go_simp
                      go_wp2_with (go_at_call 17; refine (j8 _ _ _ _ _ hH.f.rep).mono ?_; rintro e w24 ⟨rfl, hC, hQ⟩)
                      replace hH := hH.chg hC hQ
                      clear hC hQ
                      refine hK.out _ _ hH (fun _ => ?_)
                      clear hK K
                      refine wpAnyH_ready (rs := [22]) (by kernel_rfl) (by simp) ?_
                      refine AllReadyH.cons rfl (fun K hK => ?_) AllReadyH.nil
                      go_simp
                      go_wp2_with ((go_at_call 10; with_reducible refine (num9_any _ _).mono ?_; rintro e w' ⟨rfl, rfl⟩))
                      refine hK.out _ _ hH (fun _ => ?_)
                      clear hK K
                      refine wpAnyH_take (i := 23) (oi := ⟨some 201, _, _, _, _, _⟩) (v := .bool true) rfl (by kernel_rfl) (by kernel_rfl) (by kernel_rfl) (fun _ _ _ h => h) (Or.inl ⟨by rfl, fun w hSw => by go_simp⟩) hH ?_
                      simp only [Act.put, List.setIfInBounds_toArray, List.set_cons_zero, List.set_cons_succ]
                      refine wpAnyH_take (i := 24) (oi := ⟨some 202, _, _, _, _, _⟩) (v := .bool true) rfl (by kernel_rfl) (by kernel_rfl) (by kernel_rfl) (fun _ _ _ h => h) (Or.inl ⟨by rfl, fun w hSw => by go_simp⟩) hH ?_
                      simp only [Act.put, List.setIfInBounds_toArray, List.set_cons_zero, List.set_cons_succ]
                      refine wpAnyH_take (i := 25) (oi := ⟨some 203, _, _, _, _, _⟩) (v := .bool true) rfl (by kernel_rfl) (by kernel_rfl) (by kernel_rfl) (fun _ _ _ h => h) (Or.inl ⟨by rfl, fun w hSw => by go_simp⟩) hH ?_
                      simp only [Act.put, List.setIfInBounds_toArray, List.set_cons_zero, List.set_cons_succ]
                      refine wpAnyH_take (i := 26) (oi := ⟨some 204, _, _, _, _, _⟩) (v := .pointer (some ⟨fb, 0, none⟩)) rfl (by kernel_rfl) (by kernel_rfl) (by kernel_rfl) (fun _ _ _ h => h) (Or.inl ⟨by rfl, fun w hSw => by go_simp⟩) hH ?_
                      simp only [Act.put, List.setIfInBounds_toArray, List.set_cons_zero, List.set_cons_succ]
                      refine wpAnyH_take (i := 28) (oi := ⟨some 206, _, _, _, _, _⟩) (v := .int .i64 op8) rfl (by kernel_rfl) (by kernel_rfl) (by kernel_rfl) (fun _ _ _ h => h) (Or.inl ⟨by rfl, fun w hSw => by go_simp⟩) hH ?_
                      simp only [Act.put, List.setIfInBounds_toArray, List.set_cons_zero, List.set_cons_succ]
                      refine wpAnyH_ready (rs := [27]) (by kernel_rfl) (by simp) ?_
                      refine AllReadyH.cons rfl (fun K hK => ?_) AllReadyH.nil
                      go_simp
                      go_wp2_with (go_at_call 18; refine (j7 _ _ _ _ _ hH.f.rep).mono ?_; rintro e w' ⟨rfl, rfl⟩)
                      refine hK.out _ _ hH (fun _ => ?_)
                      clear hK K
                      refine wpAnyH_take (i := 29) (oi := ⟨some 207, _, _, _, _, _⟩) (v := .bool true) rfl (by kernel_rfl) (by kernel_rfl) (by kernel_rfl) (fun _ _ _ h => h) (Or.inl ⟨by rfl, fun w hSw => by go_simp⟩) hH ?_
                      simp only [Act.put, List.setIfInBounds_toArray, List.set_cons_zero, List.set_cons_succ]
                      refine wpAnyH_take (i := 30) (oi := ⟨some 208, _, _, _, _, _⟩) (v := .bool true) rfl (by kernel_rfl) (by kernel_rfl) (by kernel_rfl) (fun _ _ _ h => h) (Or.inl ⟨by rfl, fun w hSw => by go_simp⟩) hH ?_
                      simp only [Act.put, List.setIfInBounds_toArray, List.set_cons_zero, List.set_cons_succ]
                      refine wpAnyH_take (i := 31) (oi := ⟨some 209, _, _, _, _, _⟩) (v := .bool true) rfl (by kernel_rfl) (by kernel_rfl) (by kernel_rfl) (fun _ _ _ h => h) (Or.inl ⟨by rfl, fun w hSw => by go_simp⟩) hH ?_
                      simp only [Act.put, List.setIfInBounds_toArray, List.set_cons_zero, List.set_cons_succ]
                      refine wpAnyH_ready (rs := [32]) (by kernel_rfl) (by simp) ?_
                      refine AllReadyH.cons rfl (fun K hK => ?_) AllReadyH.nil
                      go_simp
                      go_wp2_with (go_at_call 8; refine (HL.out _).mono ?_; rintro e wl ⟨rfl, gl⟩)
                      replace hH := hH.kept gl
                      clear gl
                      refine hK.out _ _ hH (fun _ => ?_)
                      clear hK K
                      refine wpAnyH_take (i := 33) (oi := ⟨some 211, _, _, _, _, _⟩) (v := .bool true) rfl (by kernel_rfl) (by kernel_rfl) (by kernel_rfl) (fun _ _ _ h => h) (Or.inl ⟨by rfl, fun w hSw => by go_simp⟩) hH ?_
                      simp only [Act.put, List.setIfInBounds_toArray, List.set_cons_zero, List.set_cons_succ]
                      refine wpAnyH_take (i := 34) (oi := ⟨some 10, _, _, _, _, _⟩) (v := .bool true) rfl (by kernel_rfl) (by kernel_rfl) (by kernel_rfl) (fun _ _ _ h => h) (Or.inl ⟨by rfl, fun w hSw => by go_simp⟩) hH ?_
                      simp only [Act.put, List.setIfInBounds_toArray, List.set_cons_zero, List.set_cons_succ]
                      refine wpAnyH_done (by kernel_rfl) ?_ _
                      have HF : Hid _ := grown_trans K4.out.1.gr hH.f.gr
                      clear hH
                      go_wp2
                      go_ret
                      exact ⟨rfl, grown_below HF.out⟩
                    · skip
                      go_wp2_with (first | (go_at_call 10; with_reducible refine (num9_any _ _).mono ?_; rintro e w' ⟨rfl, rfl⟩))
                      refine (j5 _ _ _ _ _ F20.out.rep).mono ?_
                      rintro e w21 ⟨rfl, hC, hQ⟩
                      have F21 : Hid _ := F20.out.call hC hQ
                      have V21 : Hid _ := And.intro (V20.out.1.chg hC V20.out.2) V20.out.2
                      clear hC hQ F20 V20 KK j5 q0 q1 q2 r0 r1 r2 r3 t0 t1 t2 t3 u0 u1 v0 v1 d0 d1 d2 d3 d4 d5 d6 d7 f0 f1 f2 f3
                      have KK : Hid _ := And.intro (K4.out.1.kept F21.out.gr) (K4.out.2.kept F21.out.gr)
                      obtain ⟨q0, q1, q2⟩ := geo3 (KK.out.1).ge
                      obtain ⟨r0, r1, r2, r3⟩ := rec4 (KK.out.1).r
                      obtain ⟨t0, t1, t2, t3⟩ := rec4 (KK.out.1).s
                      obtain ⟨u0, u1⟩ := bx2 (KK.out.1).c
                      obtain ⟨v0, v1⟩ := bx2 (KK.out.1).d
                      obtain ⟨d0, d1, d2, d3, d4, d5, d6, d7⟩ := plan8 (KK.out.2)
                      obtain ⟨f0, f1, f2, f3⟩ := bx4 V21.out.1
                      try simp only
                      go_wp2_with (first | (go_at_call 10; with_reducible refine (num9_any _ _).mono ?_; rintro e w' ⟨rfl, rfl⟩))
                      refine (j6 _ _ _ _ _ F21.out.rep).mono ?_
                      rintro e w22 ⟨gg, aM, nM, cM, aY, nY, cY, rfl, hnl, hnx, hfl, hfx, hls⟩
                      have F22 : Hid _ := F21.out.kept gg
                      have V22 : Hid _ := And.intro (V21.out.1.kept gg) V21.out.2
                      have hn1 := hls.nL
                      simp only [List.length_cons, List.length_nil] at hn1
                      subst hn1
                      obtain ⟨bM, oM, rfl, a0, a1, a2, a3⟩ := hls.rs 0 0 rfl
                      obtain ⟨bM', oM', eM, b0', b1', b2', b3'⟩ := hls.rs 1 1 rfl
                      cases eM
                      rw [HI6.out.1] at a0 a1 a2 a3
                      rw [HI6.out.2] at b0' b1' b2' b3'
                      simp only [Nat.mul_zero, Nat.mul_one, Nat.add_zero, Nat.add_assoc, Nat.reduceAdd] at a0 a1 a2 a3 b0' b1' b2' b3'
                      have HM8 : Hid (¬ foot fb bb db wb bM) := fun x => by have h1 := hfl bM oM rfl; have h2 := F21.out.rep.lt bM x; omega
                      clear gg F21 V21 KK j6 hnl hnx hfl hfx hls q0 q1 q2 r0 r1 r2 r3 t0 t1 t2 t3 u0 u1 v0 v1 d0 d1 d2 d3 d4 d5 d6 d7 f0 f1 f2 f3
                      have KK : Hid _ := And.intro (K4.out.1.kept F22.out.gr) (K4.out.2.kept F22.out.gr)
                      obtain ⟨q0, q1, q2⟩ := geo3 (KK.out.1).ge
                      obtain ⟨r0, r1, r2, r3⟩ := rec4 (KK.out.1).r
                      obtain ⟨t0, t1, t2, t3⟩ := rec4 (KK.out.1).s
                      obtain ⟨u0, u1⟩ := bx2 (KK.out.1).c
                      obtain ⟨v0, v1⟩ := bx2 (KK.out.1).d
                      obtain ⟨d0, d1, d2, d3, d4, d5, d6, d7⟩ := plan8 (KK.out.2)
                      obtain ⟨f0, f1, f2, f3⟩ := bx4 V22.out.1
                      try simp only
                      go_wp2_with (first | (go_at_call 10; with_reducible refine (num9_any _ _).mono ?_; rintro e w' ⟨rfl, rfl⟩))
                      refine (j7 _ _ _ _ _ F22.out.rep).mono ?_
                      rintro e w23 ⟨rfl, rfl⟩
                      try simp only
                      go_wp2_with (first | (go_at_call 10; with_reducible refine (num9_any _ _).mono ?_; rintro e w' ⟨rfl, rfl⟩))
                      have hS : (fun w' => M8 w4 w' fb bb db wb m8 (fun _ => False) gf bM oM kq ks kl ku) (World.drew _) := ⟨F22.out.kept (Pa.drewG _), V22.out.1.kept (Pa.drewG _), V22.out.2, HM8.out, a0, a1, a2, a3, b0', b1', b2', b3'⟩
                      refine wp_region_held_drew (S := fun w' => M8 w4 w' fb bb db wb m8 (fun _ => False) gf bM oM kq ks kl ku) (by kernel_rfl) hS (fun hH => ?_)
                      clear hS F22 V22 KK a0 a1 a2 a3 b0' b1' b2' b3' q0 q1 q2 r0 r1 r2 r3 t0 t1 t2 t3 u0 u1 v0 v1 d0 d1 d2 d3 d4 d5 d6 d7 f0 f1 f2 f3
                      refine wpAnyH_take (i := 0) (oi := ⟨some 178, _, _, _, _, _⟩) (v := .slice (some ⟨bM, oM, none⟩) 2 cM) rfl (by kernel_rfl) (by kernel_rfl) (by kernel_rfl) (fun _ _ _ h => h) (Or.inl ⟨by rfl, fun w hSw => by go_simp⟩) hH ?_
                      simp only [Act.put, List.setIfInBounds_toArray, List.set_cons_zero, List.set_cons_succ]
                      refine wpAnyH_take (i := 1) (oi := ⟨some 179, _, _, _, _, _⟩) (v := .int .i64 2) rfl (by kernel_rfl) (by kernel_rfl) (by kernel_rfl) (fun _ _ _ h => h) (Or.inl ⟨by rfl, fun w hSw => by go_simp⟩) hH ?_
                      simp only [Act.put, List.setIfInBounds_toArray, List.set_cons_zero, List.set_cons_succ]
                      refine wpAnyH_take (i := 2) (oi := ⟨some 180, _, _, _, _, _⟩) (v := .bool true) rfl (by kernel_rfl) (by kernel_rfl) (by kernel_rfl) (fun _ _ _ h => h) (Or.inl ⟨by rfl, fun w hSw => by go_simp⟩) hH ?_
                      simp only [Act.put, List.setIfInBounds_toArray, List.set_cons_zero, List.set_cons_succ]
                      refine wpAnyH_take (i := 3) (oi := ⟨some 181, _, _, _, _, _⟩) (v := .bool true) rfl (by kernel_rfl) (by kernel_rfl) (by kernel_rfl) (fun _ _ _ h => h) (Or.inl ⟨by rfl, fun w hSw => by go_simp⟩) hH ?_
                      simp only [Act.put, List.setIfInBounds_toArray, List.set_cons_zero, List.set_cons_succ]
                      refine wpAnyH_take (i := 4) (oi := ⟨some 182, _, _, _, _, _⟩) (v := .slice (some ⟨bM, oM, none⟩) 2 cM) rfl (by kernel_rfl) (by kernel_rfl) (by kernel_rfl) (fun _ _ _ h => h) (Or.inl ⟨by rfl, fun w hSw => by go_simp⟩) hH ?_
                      simp only [Act.put, List.setIfInBounds_toArray, List.set_cons_zero, List.set_cons_succ]
                      refine wpAnyH_take (i := 5) (oi := ⟨some 183, _, _, _, _, _⟩) (v := .pointer (some ⟨bM, oM, none⟩)) rfl (by kernel_rfl) (by kernel_rfl) (by kernel_rfl) (fun _ _ _ h => h) (Or.inl ⟨by rfl, fun w hSw => by go_simp⟩) hH ?_
                      simp only [Act.put, List.setIfInBounds_toArray, List.set_cons_zero, List.set_cons_succ]
                      refine wpAnyH_take (i := 6) (oi := ⟨some 184, _, _, _, _, _⟩) (v := .agg #[.int .u64 kq, .int .i64 ks, .int .i64 kl, .int .u64 ku]) rfl (by kernel_rfl) (by kernel_rfl) (by kernel_rfl) (fun _ _ _ h => h) (Or.inl ⟨by rfl, fun w hSw => by obtain ⟨a0, a1, a2, a3⟩ := hSw.a; go_simp⟩) hH ?_
                      simp only [Act.put, List.setIfInBounds_toArray, List.set_cons_zero, List.set_cons_succ]
                      refine wpAnyH_take (i := 7) (oi := ⟨some 185, _, _, _, _, _⟩) (v := .agg #[.int .u64 kq, .int .i64 ks, .int .i64 kl, .int .u64 ku]) rfl (by kernel_rfl) (by kernel_rfl) (by kernel_rfl) (fun _ _ _ h => h) (Or.inl ⟨by rfl, fun w hSw => by obtain ⟨f0, f1, f2, f3⟩ := bx4 hSw.v; go_simp⟩) hH ?_
                      simp only [Act.put, List.setIfInBounds_toArray, List.set_cons_zero, List.set_cons_succ]
                      refine wpAnyH_take (i := 8) (oi := ⟨some 186, _, _, _, _, _⟩) (v := .bool true) rfl (by kernel_rfl) (by kernel_rfl) (by kernel_rfl) (fun _ _ _ h => h) (Or.inl ⟨by rfl, fun w hSw => by go_simp⟩) hH ?_
                      simp only [Act.put, List.setIfInBounds_toArray, List.set_cons_zero, List.set_cons_succ]
                      refine wpAnyH_take (i := 9) (oi := ⟨some 187, _, _, _, _, _⟩) (v := .bool true) rfl (by kernel_rfl) (by kernel_rfl) (by kernel_rfl) (fun _ _ _ h => h) (Or.inl ⟨by rfl, fun w hSw => by go_simp⟩) hH ?_
                      simp only [Act.put, List.setIfInBounds_toArray, List.set_cons_zero, List.set_cons_succ]
                      refine wpAnyH_take (i := 10) (oi := ⟨some 188, _, _, _, _, _⟩) (v := .bool true) rfl (by kernel_rfl) (by kernel_rfl) (by kernel_rfl) (fun _ _ _ h => h) (Or.inl ⟨by rfl, fun w hSw => by go_simp⟩) hH ?_
                      simp only [Act.put, List.setIfInBounds_toArray, List.set_cons_zero, List.set_cons_succ]
                      refine wpAnyH_take (i := 11) (oi := ⟨some 189, _, _, _, _, _⟩) (v := .slice (some ⟨bM, oM, none⟩) 2 cM) rfl (by kernel_rfl) (by kernel_rfl) (by kernel_rfl) (fun _ _ _ h => h) (Or.inl ⟨by rfl, fun w hSw => by go_simp⟩) hH ?_
                      simp only [Act.put, List.setIfInBounds_toArray, List.set_cons_zero, List.set_cons_succ]
                      refine wpAnyH_take (i := 12) (oi := ⟨some 190, _, _, _, _, _⟩) (v := .pointer (some ⟨bM, oM + 4, none⟩)) rfl (by kernel_rfl) (by kernel_rfl) (by kernel_rfl) (fun _ _ _ h => h) (Or.inl ⟨by rfl, fun w hSw => by go_simp⟩) hH ?_
                      simp only [Act.put, List.setIfInBounds_toArray, List.set_cons_zero, List.set_cons_succ]
                      refine wpAnyH_take (i := 13) (oi := ⟨some 191, _, _, _, _, _⟩) (v := .agg #[.int .u64 kq, .int .i64 ks, .int .i64 kl, .int .u64 ku]) rfl (by kernel_rfl) (by kernel_rfl) (by kernel_rfl) (fun _ _ _ h => h) (Or.inl ⟨by rfl, fun w hSw => by obtain ⟨a0, a1, a2, a3⟩ := hSw.b; go_simp⟩) hH ?_
                      simp only [Act.put, List.setIfInBounds_toArray, List.set_cons_zero, List.set_cons_succ]
                      refine wpAnyH_take (i := 14) (oi := ⟨some 192, _, _, _, _, _⟩) (v := .agg #[.int .u64 kq, .int .i64 ks, .int .i64 kl, .int .u64 ku]) rfl (by kernel_rfl) (by kernel_rfl) (by kernel_rfl) (fun _ _ _ h => h) (Or.inl ⟨by rfl, fun w hSw => by obtain ⟨f0, f1, f2, f3⟩ := bx4 hSw.v; go_simp⟩) hH ?_
                      simp only [Act.put, List.setIfInBounds_toArray, List.set_cons_zero, List.set_cons_succ]
                      refine wpAnyH_take (i := 15) (oi := ⟨some 193, _, _, _, _, _⟩) (v := .bool true) rfl (by kernel_rfl) (by kernel_rfl) (by kernel_rfl) (fun _ _ _ h => h) (Or.inl ⟨by rfl, fun w hSw => by go_simp⟩) hH ?_
                      simp only [Act.put, List.setIfInBounds_toArray, List.set_cons_zero, List.set_cons_succ]
                      refine wpAnyH_take (i := 16) (oi := ⟨some 194, _, _, _, _, _⟩) (v := .bool true) rfl (by kernel_rfl) (by kernel_rfl) (by kernel_rfl) (fun _ _ _ h => h) (Or.inl ⟨by rfl, fun w hSw => by go_simp⟩) hH ?_
                      simp only [Act.put, List.setIfInBounds_toArray, List.set_cons_zero, List.set_cons_succ]
                      refine wpAnyH_take (i := 17) (oi := ⟨some 195, _, _, _, _, _⟩) (v := .bool true) rfl (by kernel_rfl) (by kernel_rfl) (by kernel_rfl) (fun _ _ _ h => h) (Or.inl ⟨by rfl, fun w hSw => by go_simp⟩) hH ?_
                      simp only [Act.put, List.setIfInBounds_toArray, List.set_cons_zero, List.set_cons_succ]
                      refine wpAnyH_take (i := 18) (oi := ⟨some 196, _, _, _, _, _⟩) (v := .pointer (some ⟨fb, 0, none⟩)) rfl (by kernel_rfl) (by kernel_rfl) (by kernel_rfl) (fun _ _ _ h => h) (Or.inl ⟨by rfl, fun w hSw => by go_simp⟩) hH ?_
                      simp only [Act.put, List.setIfInBounds_toArray, List.set_cons_zero, List.set_cons_succ]
                      refine wpAnyH_take (i := 19) (oi := ⟨some 197, _, _, _, _, _⟩) (v := .agg #[.int .i64 s0, .int .i64 p0, .int .i64 b0, .int .i64 x0, .int .i64 x1, .int .i64 y0, .int .i64 y1, .int .i64 n]) rfl (by kernel_rfl) (by kernel_rfl) (by kernel_rfl) (fun _ _ _ h => h) (Or.inl ⟨by rfl, fun w hSw => by obtain ⟨d0, d1, d2, d3, d4, d5, d6, d7⟩ := plan8 (K4.out.2.kept hSw.f.gr); go_simp⟩) hH ?_
                      simp only [Act.put, List.setIfInBounds_toArray, List.set_cons_zero, List.set_cons_succ]
                      refine wpAnyH_take (i := 20) (oi := ⟨some 198, _, _, _, _, _⟩) (v := .agg #[.int .u64 kq, .int .i64 ks, .int .i64 kl, .int .u64 ku]) rfl (by kernel_rfl) (by kernel_rfl) (by kernel_rfl) (fun _ _ _ h => h) (Or.inl ⟨by rfl, fun w hSw => by obtain ⟨f0, f1, f2, f3⟩ := bx4 hSw.v; go_simp⟩) hH ?_
                      simp only [Act.put, List.setIfInBounds_toArray, List.set_cons_zero, List.set_cons_succ]
                      refine wpAnyH_ready (rs := [21]) (by kernel_rfl) (by simp) ?_
                      refine AllReadyH.cons rfl (fun K hK => ?_) AllReadyH.nil
                      go_simp
                      go_wp2_with (go_at_call 17; refine (j8 _ _ _ _ _ hH.f.rep).mono ?_; rintro e w24 ⟨rfl, hC, hQ⟩)
                      replace hH := hH.chg hC hQ
                      clear hC hQ
                      refine hK.out _ _ hH (fun _ => ?_)
                      clear hK K
                      refine wpAnyH_ready (rs := [22]) (by kernel_rfl) (by simp) ?_
                      refine AllReadyH.cons rfl (fun K hK => ?_) AllReadyH.nil
                      go_simp
                      go_wp2_with ((go_at_call 10; with_reducible refine (num9_any _ _).mono ?_; rintro e w' ⟨rfl, rfl⟩))
                      refine hK.out _ _ hH (fun _ => ?_)
                      clear hK K
                      refine wpAnyH_take (i := 23) (oi := ⟨some 201, _, _, _, _, _⟩) (v := .bool true) rfl (by kernel_rfl) (by kernel_rfl) (by kernel_rfl) (fun _ _ _ h => h) (Or.inl ⟨by rfl, fun w hSw => by go_simp⟩) hH ?_
                      simp only [Act.put, List.setIfInBounds_toArray, List.set_cons_zero, List.set_cons_succ]
                      refine wpAnyH_take (i := 24) (oi := ⟨some 202, _, _, _, _, _⟩) (v := .bool true) rfl (by kernel_rfl) (by kernel_rfl) (by kernel_rfl) (fun _ _ _ h => h) (Or.inl ⟨by rfl, fun w hSw => by go_simp⟩) hH ?_
                      simp only [Act.put, List.setIfInBounds_toArray, List.set_cons_zero, List.set_cons_succ]
                      refine wpAnyH_take (i := 25) (oi := ⟨some 203, _, _, _, _, _⟩) (v := .bool true) rfl (by kernel_rfl) (by kernel_rfl) (by kernel_rfl) (fun _ _ _ h => h) (Or.inl ⟨by rfl, fun w hSw => by go_simp⟩) hH ?_
                      simp only [Act.put, List.setIfInBounds_toArray, List.set_cons_zero, List.set_cons_succ]
                      refine wpAnyH_take (i := 26) (oi := ⟨some 204, _, _, _, _, _⟩) (v := .pointer (some ⟨fb, 0, none⟩)) rfl (by kernel_rfl) (by kernel_rfl) (by kernel_rfl) (fun _ _ _ h => h) (Or.inl ⟨by rfl, fun w hSw => by go_simp⟩) hH ?_
                      simp only [Act.put, List.setIfInBounds_toArray, List.set_cons_zero, List.set_cons_succ]
                      refine wpAnyH_take (i := 28) (oi := ⟨some 206, _, _, _, _, _⟩) (v := .int .i64 op8) rfl (by kernel_rfl) (by kernel_rfl) (by kernel_rfl) (fun _ _ _ h => h) (Or.inl ⟨by rfl, fun w hSw => by go_simp⟩) hH ?_
                      simp only [Act.put, List.setIfInBounds_toArray, List.set_cons_zero, List.set_cons_succ]
                      refine wpAnyH_ready (rs := [27]) (by kernel_rfl) (by simp) ?_
                      refine AllReadyH.cons rfl (fun K hK => ?_) AllReadyH.nil
                      go_simp
                      go_wp2_with (go_at_call 18; refine (j7 _ _ _ _ _ hH.f.rep).mono ?_; rintro e w' ⟨rfl, rfl⟩)
                      refine hK.out _ _ hH (fun _ => ?_)
                      clear hK K
                      refine wpAnyH_take (i := 29) (oi := ⟨some 207, _, _, _, _, _⟩) (v := .bool true) rfl (by kernel_rfl) (by kernel_rfl) (by kernel_rfl) (fun _ _ _ h => h) (Or.inl ⟨by rfl, fun w hSw => by go_simp⟩) hH ?_
                      simp only [Act.put, List.setIfInBounds_toArray, List.set_cons_zero, List.set_cons_succ]
                      refine wpAnyH_take (i := 30) (oi := ⟨some 208, _, _, _, _, _⟩) (v := .bool true) rfl (by kernel_rfl) (by kernel_rfl) (by kernel_rfl) (fun _ _ _ h => h) (Or.inl ⟨by rfl, fun w hSw => by go_simp⟩) hH ?_
                      simp only [Act.put, List.setIfInBounds_toArray, List.set_cons_zero, List.set_cons_succ]
                      refine wpAnyH_take (i := 31) (oi := ⟨some 209, _, _, _, _, _⟩) (v := .bool true) rfl (by kernel_rfl) (by kernel_rfl) (by kernel_rfl) (fun _ _ _ h => h) (Or.inl ⟨by rfl, fun w hSw => by go_simp⟩) hH ?_
                      simp only [Act.put, List.setIfInBounds_toArray, List.set_cons_zero, List.set_cons_succ]
                      refine wpAnyH_ready (rs := [32]) (by kernel_rfl) (by simp) ?_
                      refine AllReadyH.cons rfl (fun K hK => ?_) AllReadyH.nil
                      go_simp
                      go_wp2_with (go_at_call 8; refine (HL.out _).mono ?_; rintro e wl ⟨rfl, gl⟩)
                      replace hH := hH.kept gl
                      clear gl
                      refine hK.out _ _ hH (fun _ => ?_)
                      clear hK K
                      refine wpAnyH_take (i := 33) (oi := ⟨some 211, _, _, _, _, _⟩) (v := .bool true) rfl (by kernel_rfl) (by kernel_rfl) (by kernel_rfl) (fun _ _ _ h => h) (Or.inl ⟨by rfl, fun w hSw => by go_simp⟩) hH ?_
                      simp only [Act.put, List.setIfInBounds_toArray, List.set_cons_zero, List.set_cons_succ]
                      refine wpAnyH_take (i := 34) (oi := ⟨some 10, _, _, _, _, _⟩) (v := .bool true) rfl (by kernel_rfl) (by kernel_rfl) (by kernel_rfl) (fun _ _ _ h => h) (Or.inl ⟨by rfl, fun w hSw => by go_simp⟩) hH ?_
                      simp only [Act.put, List.setIfInBounds_toArray, List.set_cons_zero, List.set_cons_succ]
                      refine wpAnyH_done (by kernel_rfl) ?_ _
                      have HF : Hid _ := grown_trans K4.out.1.gr hH.f.gr
                      clear hH
                      go_wp2
                      go_ret
                      exact ⟨rfl, grown_below HF.out⟩
                  · have EQ2 : Hid _ := q2
                    clear q2
                    have hS : (fun w' => Fs w4 w' fb bb db wb m4 (fun _ => False) ∧ w'.cell? ⟨bL, oL, none⟩ = some (.int .u64 kq) ∧ w'.cell? ⟨bL, oL + 1, none⟩ = some (.int .i64 ks) ∧ w'.cell? ⟨bL, oL + 2, none⟩ = some (.int .i64 kl) ∧ w'.cell? ⟨bL, oL + 3, none⟩ = some (.int .u64 ku)) w14.drew := ⟨F14.out.kept (Pa.drewG _), l0, l1, l2, l3⟩
                    refine wp_region_held_drew (S := fun w' => Fs w4 w' fb bb db wb m4 (fun _ => False) ∧ w'.cell? ⟨bL, oL, none⟩ = some (.int .u64 kq) ∧ w'.cell? ⟨bL, oL + 1, none⟩ = some (.int .i64 ks) ∧ w'.cell? ⟨bL, oL + 2, none⟩ = some (.int .i64 kl) ∧ w'.cell? ⟨bL, oL + 3, none⟩ = some (.int .u64 ku)) (by kernel_rfl) hS (fun hH => ?_)
                    clear hS F14 KK l0 l1 l2 l3 q0 q1 q2 r0 r1 r2 r3 t0 t1 t2 t3 u0 u1 v0 v1 d0 d1 d2 d3 d4 d5 d6 d7
                    refine wpAnyH_take (i := 0) (oi := ⟨some 117, _, _, _, _, _⟩) (v := .slice (some ⟨bL, oL, none⟩) nL cL) rfl (by kernel_rfl) (by kernel_rfl) (by kernel_rfl) (fun _ _ _ h => h) (Or.inl ⟨by rfl, fun w hSw => by go_simp⟩) hH ?_
                    simp only [Act.put, List.setIfInBounds_toArray, List.set_cons_zero, List.set_cons_succ]
                    refine wpAnyH_take (i := 1) (oi := ⟨some 118, _, _, _, _, _⟩) (v := .int .i64 nL) rfl (by kernel_rfl) (by kernel_rfl) (by kernel_rfl) (fun _ _ _ h => h) (Or.inl ⟨by rfl, fun w hSw => by go_simp⟩) hH ?_
                    simp only [Act.put, List.setIfInBounds_toArray, List.set_cons_zero, List.set_cons_succ]
                    refine wpAnyH_take (i := 2) (oi := ⟨some 119, _, _, _, _, _⟩) (v := .bool false) rfl (by kernel_rfl) (by kernel_rfl) (by kernel_rfl) (fun _ _ _ h => h) (Or.inl ⟨by rfl, fun w hSw => by (go_simp; try omega)⟩) hH ?_
                    simp only [Act.put, List.setIfInBounds_toArray, List.set_cons_zero, List.set_cons_succ]
                    refine wpAnyH_take (i := 3) (oi := ⟨some 120, _, _, _, _, _⟩) (v := .bool false) rfl (by kernel_rfl) (by kernel_rfl) (by kernel_rfl) (fun _ _ _ h => h) (Or.inl ⟨by rfl, fun w hSw => by go_simp⟩) hH ?_
                    simp only [Act.put, List.setIfInBounds_toArray, List.set_cons_zero, List.set_cons_succ]
                    refine wpAnyH_take (i := 4) (oi := ⟨some 121, _, _, _, _, _⟩) (v := .slice (some ⟨bL, oL, none⟩) nL cL) rfl (by kernel_rfl) (by kernel_rfl) (by kernel_rfl) (fun _ _ _ h => h) (Or.inl ⟨by rfl, fun w hSw => by go_simp⟩) hH ?_
                    simp only [Act.put, List.setIfInBounds_toArray, List.set_cons_zero, List.set_cons_succ]
                    refine wpAnyH_take (i := 5) (oi := ⟨some 122, _, _, _, _, _⟩) (v := .pointer (some ⟨bL, oL, none⟩)) rfl (by kernel_rfl) (by kernel_rfl) (by kernel_rfl) (fun _ _ _ h => h) (Or.inl ⟨by rfl, fun w hSw => by (go_simp; try omega)⟩) hH ?_
                    simp only [Act.put, List.setIfInBounds_toArray, List.set_cons_zero, List.set_cons_succ]
                    refine wpAnyH_take (i := 6) (oi := ⟨some 123, _, _, _, _, _⟩) (v := .agg #[.int .u64 kq, .int .i64 ks, .int .i64 kl, .int .u64 ku]) rfl (by kernel_rfl) (by kernel_rfl) (by kernel_rfl) (fun _ _ _ h => h) (Or.inl ⟨by rfl, fun w hSw => by obtain ⟨-, l0, l1, l2, l3⟩ := hSw; go_simp⟩) hH ?_
                    simp only [Act.put, List.setIfInBounds_toArray, List.set_cons_zero, List.set_cons_succ]
                    refine wpAnyH_take (i := 7) (oi := ⟨some 124, _, _, _, _, _⟩) (v := .agg #[.int .u64 rq, .int .i64 rs, .int .i64 rl, .int .u64 ru]) rfl (by kernel_rfl) (by kernel_rfl) (by kernel_rfl) (fun _ _ _ h => h) (Or.inl ⟨by rfl, fun w hSw => by obtain ⟨r0, r1, r2, r3⟩ := rec4 (K4.out.1.kept hSw.1.gr).r; go_simp⟩) hH ?_
                    simp only [Act.put, List.setIfInBounds_toArray, List.set_cons_zero, List.set_cons_succ]
                    refine wpAnyH_take (i := 8) (oi := ⟨some 125, _, _, _, _, _⟩) (v := .bool true) rfl (by kernel_rfl) (by kernel_rfl) (by kernel_rfl) (fun _ _ _ h => h) (Or.inl ⟨by rfl, fun w hSw => by (go_simp; try (first | (intro h1 h2 h3 h4; exact EQ1.out ⟨h1, h2, h3, h4⟩) | (have e4 := EQ1.out; simp [e4.1, e4.2.1, e4.2.2.1, e4.2.2.2])))⟩) hH ?_
                    simp only [Act.put, List.setIfInBounds_toArray, List.set_cons_zero, List.set_cons_succ]
                    refine wpAnyH_take (i := 9) (oi := ⟨some 126, _, _, _, _, _⟩) (v := .bool true) rfl (by kernel_rfl) (by kernel_rfl) (by kernel_rfl) (fun _ _ _ h => h) (Or.inl ⟨by rfl, fun w hSw => by go_simp⟩) hH ?_
                    simp only [Act.put, List.setIfInBounds_toArray, List.set_cons_zero, List.set_cons_succ]
                    refine wpAnyH_take (i := 10) (oi := ⟨some 127, _, _, _, _, _⟩) (v := .slice (some ⟨bL, oL, none⟩) nL cL) rfl (by kernel_rfl) (by kernel_rfl) (by kernel_rfl) (fun _ _ _ h => h) (Or.inl ⟨by rfl, fun w hSw => by go_simp⟩) hH ?_
                    simp only [Act.put, List.setIfInBounds_toArray, List.set_cons_zero, List.set_cons_succ]
                    refine wpAnyH_take (i := 11) (oi := ⟨some 128, _, _, _, _, _⟩) (v := .pointer (some ⟨bL, oL, none⟩)) rfl (by kernel_rfl) (by kernel_rfl) (by kernel_rfl) (fun _ _ _ h => h) (Or.inl ⟨by rfl, fun w hSw => by (go_simp; try omega)⟩) hH ?_
                    simp only [Act.put, List.setIfInBounds_toArray, List.set_cons_zero, List.set_cons_succ]
                    refine wpAnyH_take (i := 12) (oi := ⟨some 129, _, _, _, _, _⟩) (v := .agg #[.int .u64 kq, .int .i64 ks, .int .i64 kl, .int .u64 ku]) rfl (by kernel_rfl) (by kernel_rfl) (by kernel_rfl) (fun _ _ _ h => h) (Or.inl ⟨by rfl, fun w hSw => by obtain ⟨-, l0, l1, l2, l3⟩ := hSw; go_simp⟩) hH ?_
                    simp only [Act.put, List.setIfInBounds_toArray, List.set_cons_zero, List.set_cons_succ]
                    refine wpAnyH_take (i := 13) (oi := ⟨some 130, _, _, _, _, _⟩) (v := .agg #[.int .u64 sq, .int .i64 ss, .int .i64 sl, .int .u64 su]) rfl (by kernel_rfl) (by kernel_rfl) (by kernel_rfl) (fun _ _ _ h => h) (Or.inl ⟨by rfl, fun w hSw => by obtain ⟨t0, t1, t2, t3⟩ := rec4 (K4.out.1.kept hSw.1.gr).s; go_simp⟩) hH ?_
                    simp only [Act.put, List.setIfInBounds_toArray, List.set_cons_zero, List.set_cons_succ]
                    refine wpAnyH_take (i := 14) (oi := ⟨some 131, _, _, _, _, _⟩) (v := .bool true) rfl (by kernel_rfl) (by kernel_rfl) (by kernel_rfl) (fun _ _ _ h => h) (Or.inl ⟨by rfl, fun w hSw => by (go_simp; try (first | (intro h1 h2 h3 h4; exact EQ2.out ⟨h1, h2, h3, h4⟩) | (have e4 := EQ2.out; simp [e4.1, e4.2.1, e4.2.2.1, e4.2.2.2])))⟩) hH ?_
                    simp only [Act.put, List.setIfInBounds_toArray, List.set_cons_zero, List.set_cons_succ]
                    refine wpAnyH_take (i := 15) (oi := ⟨some 132, _, _, _, _, _⟩) (v := .bool true) rfl (by kernel_rfl) (by kernel_rfl) (by kernel_rfl) (fun _ _ _ h => h) (Or.inl ⟨by rfl, fun w hSw => by go_simp⟩) hH ?_
                    simp only [Act.put, List.setIfInBounds_toArray, List.set_cons_zero, List.set_cons_succ]
                    refine wpAnyH_take (i := 16) (oi := ⟨some 133, _, _, _, _, _⟩) (v := .bool true) rfl (by kernel_rfl) (by kernel_rfl) (by kernel_rfl) (fun _ _ _ h => h) (Or.inl ⟨by rfl, fun w hSw => by go_simp⟩) hH ?_
                    simp only [Act.put, List.setIfInBounds_toArray, List.set_cons_zero, List.set_cons_succ]
                    refine wpAnyH_done (by kernel_rfl) ?_ _
                    have F15 : Hid _ := hH.1
                    clear hH
                    go_wp2_with (first | (go_at_call 10; with_reducible refine (num9_any _ _).mono ?_; rintro e w' ⟨rfl, rfl⟩) | (go_at_call 8; refine (HL.out _).mono ?_; rintro e wl ⟨rfl, gl⟩; have HF : Hid _ := grown_trans (grown_trans K4.out.1.gr F15.out.gr) gl; clear gl))
                    go_ret
                    exact ⟨rfl, grown_below HF.out⟩
    · have hme2 : (me == 0) = false := by simpa using hme
      go_wp2_with (first | (go_at_call 10; with_reducible refine (num9_any _ _).mono ?_; rintro e w' ⟨rfl, rfl⟩) | (go_at_call 8; refine (HL.out _).mono ?_; rintro e wl ⟨rfl, gl⟩; have HF : Hid _ := grown_trans K2.out.1.gr gl; clear gl))
      go_ret
      exact ⟨rfl, grown_below HF.out⟩
end Go.Proofs.Ytfhgbddeclldnaa
