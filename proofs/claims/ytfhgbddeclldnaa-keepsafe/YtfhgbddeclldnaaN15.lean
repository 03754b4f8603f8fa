/- The program's keep: the steps that are left to do, their row, and its run. The program's keep: a copy's steps; which copy is written first; where a copy stands in a list. The program's keep: the steps of Switch and Repair, in memory and without. -/
import Derived.Test.YtfhgbddeclldnaaN09
import Derived.Test.YtfhgbddeclldnaaN14
namespace Go.Proofs.Ytfhgbddeclldnaa
open Go.RowKit
set_option maxRecDepth 100000
set_option linter.unusedSimpArgs false
set_option linter.unusedVariables false

/-- a step: the sector is erased; its first page is written -/
def kst (ys : List Int) (m : Fm) (s : Bool × Nat) : Fm × Int := if s.1 = true then m.write ((s.2 : Int) * m.p) ys else m.erase s.2
/-- a row of steps, up to the first that fails -/
def krw (ys : List Int) : List (Bool × Nat) → Fm → Fm × Int
  | [], m => (m, 0)
  | s :: l, m => if (kst ys m s).2 ≠ 0 then kst ys m s else krw ys l (kst ys m s).1
theorem krw_cons (ys : List Int) (s : Bool × Nat) (l : List (Bool × Nat)) (m : Fm) : krw ys (s :: l) m = if (kst ys m s).2 ≠ 0 then kst ys m s else krw ys l (kst ys m s).1 := rfl
theorem krw_nil (ys : List Int) (m : Fm) : krw ys [] m = (m, 0) := rfl
theorem krw_append (ys : List Int) (a b : List (Bool × Nat)) (m : Fm) : krw ys (a ++ b) m = if (krw ys a m).2 ≠ 0 then krw ys a m else krw ys b (krw ys a m).1 := by
  induction a generalizing m with
  | nil => simp [krw]
  | cons s l ih =>
    have e : ∀ l', krw ys (s :: l') m = if (kst ys m s).2 ≠ 0 then kst ys m s else krw ys l' (kst ys m s).1 := fun _ => rfl
    rw [List.cons_append, e, e]
    by_cases h : (kst ys m s).2 ≠ 0
    · rw [if_pos h, if_pos h, if_pos h]
    · rw [if_neg h, if_neg h, ih]
/-- what a step has captured: the flash, the plan, the sector, the bytes, each in a variable apart from the flash -/
structure Cap (w : World) (fb bb db wb : Nat) (P : Pa.Pl) (ys : List Int) (cf cp cs cb : Nat) (a : Option Addr) (c : Nat) (i : Nat) : Prop where
  f : w.cell? ⟨cf, 0, none⟩ = some (.pointer (some ⟨fb, 0, none⟩))
  p : Bx w cp 32 P.cells
  s : w.cell? ⟨cs, 0, none⟩ = some (.int .i64 i)
  b : w.cell? ⟨cb, 0, none⟩ = some (.slice a ys.length c)
  row : Row w a ys.length ys
  nf : ¬ foot fb bb db wb cf
  np : ¬ foot fb bb db wb cp
  ns : ¬ foot fb bb db wb cs
  nb : ¬ foot fb bb db wb cb
  nr : ∀ b o, a = some ⟨b, o, none⟩ → 0 < ys.length → ¬ foot fb bb db wb b
theorem cell_lt9 {w : World} {k o : Nat} {v : Value} (h : w.cell? ⟨k, o, none⟩ = some v) : k < w.heap.size := by
  rcases Nat.lt_or_ge k w.heap.size with h1 | h1
  · exact h1
  · have e : w.heap[k]? = none := Array.getElem?_eq_none h1
    simp [World.cell?, e] at h
theorem Chg.cell {F : Nat → Prop} {w w' : World} {k o : Nat} {v : Value} (h : Chg F w w') (hc : w.cell? ⟨k, o, none⟩ = some v) (hF : ¬ F k) : w'.cell? ⟨k, o, none⟩ = some v := by
  rw [World.cell?_of_block (w := w) (h.block k (cell_lt9 hc) hF)]; exact hc
theorem Chg.bx {F : Nat → Prop} {w w' : World} {k : Nat} {T : TypeId} {cs : List Value} (h : Chg F w w') (hc : Bx w k T cs) (hF : ¬ F k) : Bx w' k T cs := ⟨by rw [h.block k hc.lt hF]; exact hc.blk⟩
theorem Cap.chg {w w' : World} {fb bb db wb : Nat} {P : Pa.Pl} {ys : List Int} {cf cp cs cb : Nat} {a : Option Addr} {c i : Nat} (h : Cap w fb bb db wb P ys cf cp cs cb a c i) (k : Chg (foot fb bb db wb) w w') : Cap w' fb bb db wb P ys cf cp cs cb a c i :=
  ⟨k.cell h.f h.nf, k.bx h.p h.np, k.cell h.s h.ns, k.cell h.b h.nb, k.row' h.row h.nr, h.nf, h.np, h.ns, h.nb, h.nr⟩
/-- where one block was written that is none of its own -/
theorem Cap.but {w w' : World} {fb bb db wb : Nat} {P : Pa.Pl} {ys : List Int} {cf cp cs cb : Nat} {a : Option Addr} {c i : Nat} {g : Option Nat} (h : Cap w fb bb db wb P ys cf cp cs cb a c i) (k : w.grownBy w' g) (h1 : some cf ≠ g) (h2 : some cp ≠ g) (h3 : some cs ≠ g) (h4 : some cb ≠ g) (h5 : ∀ b o, a = some ⟨b, o, none⟩ → some b ≠ g) : Cap w' fb bb db wb P ys cf cp cs cb a c i :=
  ⟨k.cell h.f h1, ⟨by rw [k.block cp h.p.lt (fun e => h2 e)]; exact h.p.blk⟩, k.cell h.s h3, k.cell h.b h4, h.row.but fun b o e hb => k.block b hb (fun e' => h5 b o e e'), h.nf, h.np, h.ns, h.nb, h.nr⟩
/-- the function value v does the step s -/
def StV (cf cp cs cb : Nat) (b : Bool) : Value := if b = true then .func (.func 51) #[] #[.pointer (some ⟨cf, 0, none⟩), .pointer (some ⟨cp, 0, none⟩), .pointer (some ⟨cs, 0, none⟩), .pointer (some ⟨cb, 0, none⟩)] else .func (.func 49) #[] #[.pointer (some ⟨cf, 0, none⟩), .pointer (some ⟨cs, 0, none⟩)]
def StAt (w : World) (fb bb db wb : Nat) (P : Pa.Pl) (ys : List Int) (v : Value) (s : Bool × Nat) : Prop := ∃ cf cp cs cb a c, v = StV cf cp cs cb s.1 ∧ Cap w fb bb db wb P ys cf cp cs cb a c s.2
theorem StAt.chg {w w' : World} {fb bb db wb : Nat} {P : Pa.Pl} {ys : List Int} {v : Value} {s : Bool × Nat} (h : StAt w fb bb db wb P ys v s) (k : Chg (foot fb bb db wb) w w') : StAt w' fb bb db wb P ys v s := by
  obtain ⟨cf, cp, cs, cb, a, c, e, h⟩ := h
  exact ⟨cf, cp, cs, cb, a, c, e, h.chg k⟩
/-- the post of a step -/
def SpPost (fb bb db wb : Nat) (n : Fm × Int) (G : Nat → Prop) (w : World) (e : Ending) (w' : World) : Prop := e = .returned (.int .i64 n.2) ∧ Chg (foot fb bb db wb) w w' ∧ PRep w' fb bb db wb n.1 G
theorem pa1_any {w : World} {fb bb db wb : Nat} {m : Fm} {G : Nat → Prop} {k : Nat} (h : PRep w fb bb db wb m G) (hg : m.Good k) (hk : k < 1000000) {P : Pa.Pl} {ys : List Int} {cf cp cs cb : Nat} {a : Option Addr} {c i : Nat} (hc : Cap w fb bb db wb P ys cf cp cs cb a c i) :
    Calls Try.prog 49 #[.pointer (some ⟨cf, 0, none⟩), .pointer (some ⟨cs, 0, none⟩)] w (SpPost fb bb db wb (m.erase i) G w) := by
  have he := prep_erase h hg hk i
  have c1 := hc.f
  have c2 := hc.s
  unfold SpPost
  clear h hg hc
  generalize m.erase i = M at he ⊢
  obtain ⟨n, x⟩ := M
  simp only at he ⊢
  go_enter Try.func49, Try.ntmps49
  go_wp2_with fail
  refine he.mono ?_
  rintro e w1 ⟨rfl, k1, k2⟩
  go_wp2
  go_returns
  exact ⟨rfl, k1, k2⟩
set_option maxHeartbeats 1000000 in
theorem pa2_any {w : World} {fb bb db wb : Nat} {m : Fm} {G : Nat → Prop} {k : Nat} (h : PRep w fb bb db wb m G) (hg : m.Good k) (hk : k < 1000000) {P : Pa.Pl} (hP : P.p = m.p) {ys : List Int} {cf cp cs cb : Nat} {a : Option Addr} {c i : Nat} (hi : i < 2) (hc : Cap w fb bb db wb P ys cf cp cs cb a c i) :
    Calls Try.prog 51 #[.pointer (some ⟨cf, 0, none⟩), .pointer (some ⟨cp, 0, none⟩), .pointer (some ⟨cs, 0, none⟩), .pointer (some ⟨cb, 0, none⟩)] w (SpPost fb bb db wb (m.write ((i : Int) * m.p) ys) G w) := by
  have he := fun W (hW : w.grownBy W none) => prep_write (h.grown hW) hg hk ((i : Int) * m.p) a c ys (hc.row.grown hW) hc.nr
  have hp16 := hg.p
  have hf := fun W => pfirst_any P i W (by
    rw [hP]
    have : (i : Int) * m.p = ((i * m.p : Nat) : Int) := by simp
    have h2 := Nat.mul_le_mul (show i ≤ 1 by omega) hp16.2
    unfold in64; rw [this]; omega)
  rw [hP] at hf
  clear hP
  have H0 : Hid _ := hc
  unfold SpPost
  clear h hg hc hp16
  generalize m.write ((i : Int) * m.p) ys = M at he ⊢
  generalize (i : Int) * m.p = ip at *
  obtain ⟨n, x⟩ := M
  obtain ⟨s, p, b, x0, x1, y0, y1, nn⟩ := P
  simp only [Pa.Pl.val, Pa.Pl.cells] at *
  go_enter Try.func51, Try.ntmps51
  go_wp2_with fail
  refine wp_region_held_drew (S := fun w' => Cap w' fb bb db wb ⟨s, p, b, x0, x1, y0, y1, nn⟩ ys cf cp cs cb a c i) (by kernel_rfl) (H0.out.chg (Chg.of_none (Pa.drewG w) _)) (fun hH => ?_)
  clear H0
  have gD := Pa.drewG w
  refine wpAnyH_take (i := 0) (oi := ⟨some 5, _, _, _, _, _⟩) (v := .pointer (some ⟨fb, 0, none⟩)) rfl (by kernel_rfl) (by kernel_rfl) (by kernel_rfl) (fun _ _ _ h => h) (Or.inl ⟨by rfl, fun w hSw => by have c1 := hSw.f; go_simp⟩) hH ?_
  simp only [Act.put, List.setIfInBounds_toArray, List.set_cons_zero, List.set_cons_succ]
  refine wpAnyH_take (i := 1) (oi := ⟨some 6, _, _, _, _, _⟩) (v := .agg #[.int .i64 s, .int .i64 p, .int .i64 b, .int .i64 x0, .int .i64 x1, .int .i64 y0, .int .i64 y1, .int .i64 nn]) rfl (by kernel_rfl) (by kernel_rfl) (by kernel_rfl) (fun _ _ _ h => h) (Or.inl ⟨by rfl, fun w hSw => by obtain ⟨d0, d1, d2, d3, d4, d5, d6, d7⟩ := plan8 hSw.p; go_simp⟩) hH ?_
  simp only [Act.put, List.setIfInBounds_toArray, List.set_cons_zero, List.set_cons_succ]
  refine wpAnyH_take (i := 2) (oi := ⟨some 7, _, _, _, _, _⟩) (v := .int .i64 i) rfl (by kernel_rfl) (by kernel_rfl) (by kernel_rfl) (fun _ _ _ h => h) (Or.inl ⟨by rfl, fun w hSw => by have c1 := hSw.s; go_simp⟩) hH ?_
  simp only [Act.put, List.setIfInBounds_toArray, List.set_cons_zero, List.set_cons_succ]
  refine wpAnyH_take (i := 4) (oi := ⟨some 9, _, _, _, _, _⟩) (v := .slice a ys.length c) rfl (by kernel_rfl) (by kernel_rfl) (by kernel_rfl) (fun _ _ _ h => h) (Or.inl ⟨by rfl, fun w hSw => by have c1 := hSw.b; go_simp⟩) hH ?_
  simp only [Act.put, List.setIfInBounds_toArray, List.set_cons_zero, List.set_cons_succ]
  refine wpAnyH_ready (rs := [3]) (by kernel_rfl) (by simp) ?_
  refine AllReadyH.cons rfl (fun K hK => ?_) AllReadyH.nil
  go_simp
  go_wp2_with (go_at_call 28; refine (hf _).mono ?_; rintro e w1 ⟨rfl, g1⟩)
  replace hH := hH.chg (Chg.of_none g1 _)
  replace gD := grown_trans gD g1
  clear g1 hf
  refine hK.out _ _ hH (fun _ => ?_)
  clear hK K
  refine wpAnyH_ready (rs := [5]) (by kernel_rfl) (by simp) ?_
  refine AllReadyH.cons rfl (fun K hK => ?_) AllReadyH.nil
  go_simp
  go_wp2_with (go_at_call 52; refine (he _ gD).mono ?_; rintro e w2 ⟨rfl, k1, k2⟩)
  replace hH := hH.chg k1
  have HK : Hid _ := And.intro ((Chg.of_none gD _).trans k1) k2
  clear k1 k2 he gD
  refine hK.out _ _ hH (fun _ => ?_)
  clear hK K
  refine wpAnyH_take (i := 6) (oi := ⟨some 4, _, _, _, _, _⟩) (v := .int .i64 x) rfl (by kernel_rfl) (by kernel_rfl) (by kernel_rfl) (fun _ _ _ h => h) (Or.inl ⟨by rfl, fun w hSw => by go_simp⟩) hH ?_
  simp only [Act.put, List.setIfInBounds_toArray, List.set_cons_zero, List.set_cons_succ]
  refine wpAnyH_done (by kernel_rfl) ?_ _
  clear hH
  go_wp2
  go_returns
  exact ⟨rfl, HK.out.1, HK.out.2⟩
/-- a row of steps in memory -/
structure Sts (w : World) (fb bb db wb : Nat) (P : Pa.Pl) (ys : List Int) (a : Option Addr) (l : List (Bool × Nat)) : Prop where
  at_ : ∀ (k : Nat) (s : Bool × Nat), l[k]? = some s → ∃ b o v, a = some ⟨b, o, none⟩ ∧ w.cell? ⟨b, o + k, none⟩ = some v ∧ StAt w fb bb db wb P ys v s ∧ ¬ foot fb bb db wb b
  two : ∀ (k : Nat) (s : Bool × Nat), l[k]? = some s → s.2 < 2
theorem Sts.chg {w w' : World} {fb bb db wb : Nat} {P : Pa.Pl} {ys : List Int} {a : Option Addr} {l : List (Bool × Nat)} (h : Sts w fb bb db wb P ys a l) (k : Chg (foot fb bb db wb) w w') : Sts w' fb bb db wb P ys a l := by
  refine ⟨fun j s e => ?_, h.two⟩
  obtain ⟨b, o, v, h1, h2, h3, h4⟩ := h.at_ j s e
  exact ⟨b, o, v, h1, k.cell h2 h4, h3.chg k, h4⟩
theorem like_kst (ys : List Int) (m : Fm) (s : Bool × Nat) : Like m (kst ys m s).1 := by
  unfold kst
  split
  · exact like_write _ _ _
  · exact like_erase _ _
theorem good_kst {m : Fm} {k : Nat} (hg : m.Good k) (ys : List Int) (s : Bool × Nat) : (kst ys m s).1.Good (k + 1) := by
  unfold kst
  split
  · exact Fm.good_write hg _ _
  · exact Fm.good_erase hg _
/-- ahead of the j-th step -/
structure Rn (w wr : World) (fb bb db wb : Nat) (P : Pa.Pl) (ys : List Int) (G : Nat → Prop) (a : Option Addr) (l : List (Bool × Nat)) (k j : Nat) (m n : Fm) : Prop where
  chg : Chg (foot fb bb db wb) w wr
  rep : PRep wr fb bb db wb n G
  sts : Sts wr fb bb db wb P ys a l
  good : n.Good (k + j)
  pp : P.p = n.p
  eq : krw ys l m = krw ys (l.drop j) n
set_option maxHeartbeats 1000000 in
theorem prun_any {w : World} {fb bb db wb : Nat} {m : Fm} {G : Nat → Prop} {k : Nat} (h : PRep w fb bb db wb m G) (hg : m.Good k) (hk : k < 990000) {P : Pa.Pl} (hP : P.p = m.p) {ys : List Int} {a : Option Addr} {c len : Nat} {l : List (Bool × Nat)} (hs : Sts w fb bb db wb P ys a l) (hlen : len = l.length) (hl : l.length ≤ 4) :
    Calls Try.prog 33 #[.slice a len c] w (SpPost fb bb db wb (krw ys l m) G w) := by
  have H0 : Hid (Rn w w fb bb db wb P ys G a l k 0 m m) := ⟨Chg.refl _ _, h, hs, hg, hP, rfl⟩
  clear h hs hg hP
  have hlen4 : len ≤ 4 := by omega
  have HL : Hid _ := hlen
  clear hlen hl
  unfold SpPost
  go_enter Try.func33, Try.ntmps33
  go_wp2
  go_loopw [8] (fun vj wr => ∃ (j : Nat) (n : Fm), vj = .int .i64 j ∧ j ≤ len ∧ Hid (Rn w wr fb bb db wb P ys G a l k j m n)) (fun vj _ => len - (intOf vj).toNat)
  case atStart => exact ⟨0, m, rfl, Nat.zero_le _, H0⟩
  case round =>
    obtain ⟨j, n, rfl, hj, HR⟩ := hrel
    clear H0
    rcases Nat.lt_or_ge j len with hlt | hge
    · have hlt' : (j : Int) < len := by omega
      obtain ⟨⟨b, i⟩, hs⟩ : ∃ s, l[j]? = some s := ⟨_, List.getElem?_eq_getElem (by rw [← HL.out]; exact hlt)⟩
      have hi := HR.out.sts.two j _ hs
      have hd : l.drop j = (b, i) :: l.drop (j + 1) := by
        rw [List.drop_eq_getElem_cons (by rw [← HL.out]; exact hlt)]
        rw [List.getElem?_eq_getElem (by rw [← HL.out]; exact hlt)] at hs
        injection hs with hs
        rw [hs]
      obtain ⟨gb, o, v, rfl, hcell, ⟨cf, cp, cs, cb, ra, rc, rfl, hcap⟩, -⟩ := HR.out.sts.at_ j _ hs
      have hq := HR.out.eq
      rw [hd, krw_cons] at hq
      have hgd := HR.out.good
      have hnx : Hid (∀ w2, Chg (foot fb bb db wb) wr w2 → PRep w2 fb bb db wb (kst ys n (b, i)).1 G → (kst ys n (b, i)).2 = 0 → Rn w w2 fb bb db wb P ys G (some ⟨gb, o, none⟩) l k (j + 1) m (kst ys n (b, i)).1) := by
        intro w2 c1 c2 c3
        exact ⟨HR.out.chg.trans c1, c2, HR.out.sts.chg c1, good_kst HR.out.good ys _, by rw [HR.out.pp, (like_kst ys n (b, i)).p], by rw [hq, if_neg (by rw [c3]; simp)]⟩
      have hfn : Hid (∀ w2, Chg (foot fb bb db wb) wr w2 → PRep w2 fb bb db wb (kst ys n (b, i)).1 G → (kst ys n (b, i)).2 ≠ 0 → (kst ys n (b, i)).2 = (krw ys l m).2 ∧ Chg (foot fb bb db wb) w w2 ∧ PRep w2 fb bb db wb (krw ys l m).1 G) := by
        intro w2 c1 c2 c3
        rw [hq, if_pos c3]
        exact ⟨rfl, HR.out.chg.trans c1, c2⟩
      clear hq hd hs
      cases b with
      | false =>
        have hst := pa1_any HR.out.rep hgd (by omega) hcap
        have ek : kst ys n (false, i) = n.erase i := by unfold kst; rw [if_neg (by simp)]
        rw [ek] at hnx hfn
        unfold SpPost at hst
        clear ek hgd HR hcap hi
        generalize n.erase i = M at hst hnx hfn
        obtain ⟨n2, x⟩ := M
        simp only [StV, Bool.false_eq_true, if_false] at hcell hst hnx hfn
        by_cases hx : x = 0
        · subst hx
          go_wp2_with (go_at_call 49; refine hst.mono ?_; rintro e w2 ⟨rfl, k1, k2⟩; have H3 : Hid _ := hnx.out w2 k1 k2 rfl; clear k1 k2 hst hcell hnx hfn)
          go_roundw
          case rel => exact ⟨j + 1, _, by go_num, by omega, H3⟩
          case measure => simp [intOf]; omega
        · go_wp2_with (go_at_call 49; refine hst.mono ?_; rintro e w2 ⟨rfl, k1, k2⟩; have H3 : Hid _ := hfn.out w2 k1 k2 hx; clear k1 k2 hst hcell hnx hfn)
          go_ret
          exact ⟨by rw [H3.out.1]; rfl, H3.out.2.1, H3.out.2.2⟩
      | true =>
        have hst := pa2_any HR.out.rep hgd (by omega) HR.out.pp hi hcap
        have ek : kst ys n (true, i) = n.write ((i : Int) * n.p) ys := by unfold kst; rw [if_pos rfl]
        rw [ek] at hnx hfn
        unfold SpPost at hst
        clear ek hgd HR hcap hi
        generalize n.write ((i : Int) * n.p) ys = M at hst hnx hfn
        obtain ⟨n2, x⟩ := M
        simp only [StV, if_true] at hcell hst hnx hfn
        by_cases hx : x = 0
        · subst hx
          go_wp2_with (go_at_call 51; refine hst.mono ?_; rintro e w2 ⟨rfl, k1, k2⟩; have H3 : Hid _ := hnx.out w2 k1 k2 rfl; clear k1 k2 hst hcell hnx hfn)
          go_roundw
          case rel => exact ⟨j + 1, _, by go_num, by omega, H3⟩
          case measure => simp [intOf]; omega
        · go_wp2_with (go_at_call 51; refine hst.mono ?_; rintro e w2 ⟨rfl, k1, k2⟩; have H3 : Hid _ := hfn.out w2 k1 k2 hx; clear k1 k2 hst hcell hnx hfn)
          go_ret
          exact ⟨by rw [H3.out.1]; rfl, H3.out.2.1, H3.out.2.2⟩
    · have hjl : ¬ (j : Int) < len := by omega
      have hq := HR.out.eq
      rw [List.drop_eq_nil_of_le (by rw [← HL.out]; omega), krw_nil] at hq
      have H3 : Hid ((krw ys l m).2 = 0 ∧ Chg (foot fb bb db wb) w wr ∧ PRep wr fb bb db wb (krw ys l m).1 G) := by
        refine ⟨by rw [hq], HR.out.chg, ?_⟩
        rw [hq]
        exact HR.out.rep
      clear HR hq
      go_wp2
      go_ret
      exact ⟨by rw [H3.out.1]; rfl, H3.out.2.1, H3.out.2.2⟩
end Go.Proofs.Ytfhgbddeclldnaa

namespace Go.Proofs.Ytfhgbddeclldnaa
open Go.RowKit
set_option maxRecDepth 100000
set_option linter.unusedSimpArgs false
set_option linter.unusedVariables false

/-- the steps that write a copy -/
def AnPost (w : World) (fb bb db wb : Nat) (P : Pa.Pl) (ys : List Int) (a : Option Addr) (c i : Nat) (e : Ending) (w' : World) : Prop := ∃ b cf cp cs cb, e = .returned (.slice (some ⟨b, 0, none⟩) 2 2) ∧ w.grownBy w' none ∧ w'.cell? ⟨b, 0, none⟩ = some (StV cf cp cs cb false) ∧ w'.cell? ⟨b, 1, none⟩ = some (StV cf cp cs cb true) ∧ w.heap.size ≤ cf ∧ w.heap.size ≤ cp ∧ w.heap.size ≤ cs ∧ w.heap.size ≤ cb ∧ w.heap.size ≤ b ∧ Cap w' fb bb db wb P ys cf cp cs cb a c i
/-- five new blocks in a row -/
theorem five_new (w : World) (c1 c2 c3 c4 c5 : List Value) (t1 t2 t3 t4 t5 : TypeId) (W : World) (hW : W = ((((w.alloc (.cells c1.toArray t1)).alloc (.cells c2.toArray t2)).alloc (.cells c3.toArray t3)).alloc (.cells c4.toArray t4)).alloc (.cells c5.toArray t5)) :
    w.grownBy W none ∧ Bx W w.heap.size t1 c1 ∧ Bx W (w.heap.size + 1) t2 c2 ∧ Bx W (w.heap.size + 1 + 1) t3 c3 ∧ Bx W (w.heap.size + 1 + 1 + 1) t4 c4 ∧ Bx W (w.heap.size + 1 + 1 + 1 + 1) t5 c5 := by
  have x1 := Bx.new w t1 c1
  have a1 := World.grownBy_alloc w (.cells c1.toArray t1) none
  have e1 : (w.alloc (.cells c1.toArray t1)).heap.size = w.heap.size + 1 := World.size_alloc _ _
  generalize w.alloc (.cells c1.toArray t1) = w1 at *
  have x2 := Bx.new w1 t2 c2
  have a2 := World.grownBy_alloc w1 (.cells c2.toArray t2) none
  have e2 : (w1.alloc (.cells c2.toArray t2)).heap.size = w1.heap.size + 1 := World.size_alloc _ _
  generalize w1.alloc (.cells c2.toArray t2) = w2 at *
  have x3 := Bx.new w2 t3 c3
  have a3 := World.grownBy_alloc w2 (.cells c3.toArray t3) none
  have e3 : (w2.alloc (.cells c3.toArray t3)).heap.size = w2.heap.size + 1 := World.size_alloc _ _
  generalize w2.alloc (.cells c3.toArray t3) = w3 at *
  have x4 := Bx.new w3 t4 c4
  have a4 := World.grownBy_alloc w3 (.cells c4.toArray t4) none
  have e4 : (w3.alloc (.cells c4.toArray t4)).heap.size = w3.heap.size + 1 := World.size_alloc _ _
  generalize w3.alloc (.cells c4.toArray t4) = w4 at *
  have x5 := Bx.new w4 t5 c5
  have a5 := World.grownBy_alloc w4 (.cells c5.toArray t5) none
  rw [← hW] at x5 a5
  rw [e1] at x2
  rw [e2, e1] at x3
  rw [e3, e2, e1] at x4
  rw [e4, e3, e2, e1] at x5
  have g4 := a5
  have g3 := grown_trans a4 a5
  have g2 := grown_trans a3 g3
  have g1 := grown_trans a2 g2
  exact ⟨grown_trans a1 g1, x1.kept g1, x2.kept g2, x3.kept g3, x4.kept g4, x5⟩
set_option maxHeartbeats 1000000 in
theorem panew_any {w : World} {fb bb db wb : Nat} (hf : ∀ k, foot fb bb db wb k → k < w.heap.size) {P : Pa.Pl} (h0 : P.x0 = 0) (h1 : P.x1 = 1) {ys : List Int} {a : Option Addr} {c i : Nat} (hi : i < 2) (hr : Row w a ys.length ys) (hn : ∀ b o, a = some ⟨b, o, none⟩ → 0 < ys.length → ¬ foot fb bb db wb b) :
    Calls Try.prog 34 #[.pointer (some ⟨fb, 0, none⟩), P.val, .int .i64 i, .slice a ys.length c] w (AnPost w fb bb db wb P ys a c i) := by
  obtain ⟨s, p, b, x0, x1, y0, y1, nn⟩ := P
  simp only at h0 h1
  subst h0 h1
  unfold AnPost
  simp only [Pa.Pl.val, Pa.Pl.cells] at *
  have P1 := (Bx.new (w.alloc (.cells #[.pointer (some ⟨fb, 0, none⟩)] 38)) 32 [.int .i64 s, .int .i64 p, .int .i64 b, .int .i64 0, .int .i64 1, .int .i64 y0, .int .i64 y1, .int .i64 nn]).kept (World.grownBy_alloc _ (.cells #[.slice a ys.length c] 27) none)
  simp only [World.size_alloc] at P1
  have hmf : ∀ (fn : Fn) (first cap : Array Value) (w : World), (Instr.makeFunc fn first cap).run Try.prog w = .ok (.func fn first cap) w := fun _ _ _ _ => rfl
  obtain rfl | rfl : i = 0 ∨ i = 1 := by omega
  · have H := five_new w [.pointer (some ⟨fb, 0, none⟩)] [.int .i64 s, .int .i64 p, .int .i64 b, .int .i64 0, .int .i64 1, .int .i64 y0, .int .i64 y1, .int .i64 nn] [.slice a ys.length c] [.int .i64 0] [StV w.heap.size (w.heap.size + 1) (w.heap.size + 1 + 1 + 1) (w.heap.size + 1 + 1) false, StV w.heap.size (w.heap.size + 1) (w.heap.size + 1 + 1 + 1) (w.heap.size + 1 + 1) true] 38 32 27 3 91 _ rfl
    have HH : Hid _ := H
    clear H
    obtain ⟨d0, d1, d2, d3, d4, d5, d6, d7⟩ := plan8 P1
    clear P1
    go_enter Try.func34, Try.ntmps34
    go_wp2
    go_returns
    refine ⟨_, w.heap.size, w.heap.size + 1, w.heap.size + 1 + 1 + 1, w.heap.size + 1 + 1, rfl, HH.out.1, HH.out.2.2.2.2.2.c 0, HH.out.2.2.2.2.2.c 1, by omega, by omega, by omega, by omega, by omega, HH.out.2.1.c 0, HH.out.2.2.1, HH.out.2.2.2.2.1.c 0, HH.out.2.2.2.1.c 0, hr.grown HH.out.1, ?_, ?_, ?_, ?_, hn⟩
    all_goals (intro x; have := hf _ x; omega)
  · have H := five_new w [.pointer (some ⟨fb, 0, none⟩)] [.int .i64 s, .int .i64 p, .int .i64 b, .int .i64 0, .int .i64 1, .int .i64 y0, .int .i64 y1, .int .i64 nn] [.slice a ys.length c] [.int .i64 1] [StV w.heap.size (w.heap.size + 1) (w.heap.size + 1 + 1 + 1) (w.heap.size + 1 + 1) false, StV w.heap.size (w.heap.size + 1) (w.heap.size + 1 + 1 + 1) (w.heap.size + 1 + 1) true] 38 32 27 3 91 _ rfl
    have HH : Hid _ := H
    clear H
    obtain ⟨d0, d1, d2, d3, d4, d5, d6, d7⟩ := plan8 P1
    clear P1
    go_enter Try.func34, Try.ntmps34
    go_wp2
    go_returns
    refine ⟨_, w.heap.size, w.heap.size + 1, w.heap.size + 1 + 1 + 1, w.heap.size + 1 + 1, rfl, HH.out.1, HH.out.2.2.2.2.2.c 0, HH.out.2.2.2.2.2.c 1, by omega, by omega, by omega, by omega, by omega, HH.out.2.1.c 0, HH.out.2.2.1, HH.out.2.2.2.2.1.c 0, HH.out.2.2.2.1.c 0, hr.grown HH.out.1, ?_, ?_, ?_, ?_, hn⟩
    all_goals (intro x; have := hf _ x; omega)
/-- which copies are written, in their order -/
theorem pturns_any (w : World) (a : Option Addr) (n c : Nat) (l : List Nat) (hn : n = l.length) (hc : ∀ (k i : Nat), l[k]? = some i → ∃ b o, a = some ⟨b, o, none⟩ ∧ w.cell? ⟨b, o + k, none⟩ = some (.int .i64 i)) (h2 : ∀ i ∈ l, i < 2) (hn2 : n ≤ 2) :
    Calls Try.prog 36 #[.slice a n c] w fun e w' => e = .returned (.agg #[.int .i64 (1 - l.headD 0), .int .i64 (l.headD 0)]) ∧ w.grownBy w' none := by
  cases l with
  | nil =>
    subst hn
    simp only [List.length_nil, List.headD_nil] at *
    go_enter Try.func36, Try.ntmps36
    go_wp2
    exact bodyPost_ret (v := .agg #[.int .i64 1, .int .i64 0]) (by simp [results, Try.results36, go_sem]) rfl ⟨rfl, World.grownBy_alloc _ _ _⟩
  | cons i l =>
    obtain ⟨b, o, rfl, hcell⟩ := hc 0 i rfl
    have hi := h2 i (by simp)
    simp only [List.length_cons, List.headD_cons, Nat.add_zero] at *
    have hn0 : (0 : Int) < n := by omega
    have hcell2 := (World.grownBy_alloc w (.cells #[.int .i64 0, .int .i64 0] 30) none).cell hcell (by simp)
    have hw : IntKind.i64.wrap (1 - i) = 1 - i := by rw [IntKind.wrap_i64]; omega
    go_enter Try.func36, Try.ntmps36
    go_wp2
    exact bodyPost_ret (v := .agg #[.int .i64 (1 - i), .int .i64 i]) (by simp [results, Try.results36, go_sem, hw]) rfl ⟨rfl, World.grownBy_alloc _ _ _⟩
set_option maxHeartbeats 1000000 in
/-- where y stands first -/
theorem pindex_any (w : World) (a : Option Addr) (n c : Nat) (l : List Nat) (y : Nat) (hn : n = l.length) (hc : ∀ (k i : Nat), l[k]? = some i → ∃ b o, a = some ⟨b, o, none⟩ ∧ w.cell? ⟨b, o + k, none⟩ = some (.int .i64 i)) (hn2 : n ≤ 2) :
    Calls Try.prog 37 #[.slice a n c, .int .i64 y] w fun e w' => ∃ z : Int, e = .returned (.int .i64 z) ∧ w' = w ∧ ((z = -1 ∧ y ∉ l) ∨ ∃ k : Nat, z = k ∧ l[k]? = some y) := by
  have HC : Hid _ := hc
  have HN : Hid _ := hn
  clear hc hn
  go_enter Try.func37, Try.ntmps37
  go_wp2
  go_loop [8] (fun vi => ∃ j : Nat, j ≤ n ∧ vi = .int .i64 j ∧ Hid (∀ k, k < j → l[k]? ≠ some y)) (fun i => n - (intOf i).toNat)
  case atStart => exact ⟨0, Nat.zero_le _, rfl, fun k hk => by omega⟩
  case round =>
    obtain ⟨j, hj, rfl, HB⟩ := hrel
    rcases Nat.lt_or_ge j n with hlt | hge
    · have hlt' : (j : Int) < n := by omega
      obtain ⟨x, hx⟩ : ∃ s, l[j]? = some s := ⟨_, List.getElem?_eq_getElem (by rw [← HN.out]; exact hlt)⟩
      obtain ⟨b, o, rfl, hcell⟩ := HC.out j x hx
      by_cases hxy : x = y
      · subst hxy
        have HF : Hid _ := hx
        clear hx
        go_wp2
        go_ret
        exact ⟨j, rfl, rfl, Or.inr ⟨j, rfl, HF.out⟩⟩
      · have hxy' : ((y : Int) == x) = false := by simp; omega
        have HF : Hid (∀ k, k < j + 1 → l[k]? ≠ some y) := by
          intro k hk
          rcases Nat.lt_or_ge k j with h | h
          · exact HB.out k h
          · obtain rfl : k = j := by omega
            rw [hx]
            intro e
            injection e with e
            exact hxy e
        clear hx HB hxy
        go_wp2
        go_round
        case rel => exact ⟨j + 1, by omega, by go_num, HF⟩
        case measure => simp [intOf]; omega
    · have hge' : ¬ (j : Int) < n := by omega
      go_wp2
      go_ret
      refine ⟨-1, rfl, rfl, Or.inl ⟨rfl, fun hm => ?_⟩⟩
      obtain ⟨k, hk, e⟩ := List.mem_iff_getElem.1 hm
      exact HB.out k (by have := HN.out; omega) (by rw [List.getElem?_eq_getElem hk, e])
end Go.Proofs.Ytfhgbddeclldnaa

namespace Go.Proofs.Ytfhgbddeclldnaa
open Go.RowKit
set_option maxRecDepth 100000
set_option linter.unusedSimpArgs false
set_option linter.unusedVariables false

/-- Switch, Repair as calls of the program: the error, what became of the flash, only the flash's blocks were written -/
def PkPost (n : Fm) (x : Int) (fb bb db wb : Nat) (G : Nat → Prop) (w : World) (e : Ending) (w' : World) : Prop := e = .returned (.int .i64 x) ∧ Chg (foot fb bb db wb) w w' ∧ PRep w' fb bb db wb n G
/-- the steps that write copy i -/
def stp9 (i : Nat) : List (Bool × Nat) := [(false, i), (true, i)]
def stps (sk : Nat → Bool) (l : List Nat) : List (Bool × Nat) := l.flatMap fun i => if sk i = true then [] else stp9 i
theorem kwr_stp {n : Fm} {P : Pa.Pl} {r : Rc} {i : Nat} (hk : kok n P = true) (hr : rrt r = true) (hi : i < 2) : krw (rby r) (stp9 i) n = kwr n P i r := by
  unfold kwr stp9
  rw [if_neg (by rw [hk, hr]; simp; omega), krw_cons, krw_cons, krw_nil]
  have e1 : kst (rby r) n (false, i) = n.erase i := by unfold kst; rw [if_neg (by simp)]
  have e2 : kst (rby r) (n.erase i).1 (true, i) = (n.erase i).1.write ((i : Int) * n.p) (rby r) := by unfold kst; rw [if_pos rfl, (like_erase n i).p]
  rw [e1]
  by_cases h : (n.erase (i : Int)).2 ≠ 0
  · rw [if_pos h, if_pos h]
  · rw [if_neg h, if_neg h, e2]
    by_cases h2 : ((n.erase (i : Int)).1.write ((i : Int) * n.p) (rby r)).2 ≠ 0
    · rw [if_pos h2]
    · rw [if_neg h2]
      exact Prod.ext rfl (by simp only [ne_eq, Decidable.not_not] at h2; exact h2.symm)
/-- is copy i left as it is? -/
def skf (m : Fm) (r : Rc) (all : Bool) (i : Nat) : Bool := !all && khs m i r
theorem krw_kon {m n : Fm} {P : Pa.Pl} {r : Rc} {all : Bool} {i : Nat} (hk : kok n P = true) (hr : rrt r = true) (hi : i < 2) : krw (rby r) (if skf m r all i = true then [] else stp9 i) n = kon m P r all i n := by
  unfold kon skf
  by_cases h : (!all && khs m i r) = true
  · rw [if_pos h, if_pos h, krw_nil]
  · rw [if_neg h, if_neg h, kwr_stp hk hr hi]
theorem like_kon (m : Fm) (P : Pa.Pl) (r : Rc) (all : Bool) (i : Nat) (n : Fm) : Like n (kon m P r all i n).1 := by
  unfold kon
  split
  · exact Like.refl n
  · exact like_kwr n P i r
theorem krw_krn {m : Fm} {P : Pa.Pl} {r : Rc} {all : Bool} (hk : kok m P = true) (hr : rrt r = true) (ho : m.off = false) : krw (rby r) (stps (skf m r all) [1 - kfi m, kfi m]) m = krn m P r all := by
  have hf := kfi_lt m
  have e : stps (skf m r all) [1 - kfi m, kfi m] = (if skf m r all (1 - kfi m) = true then [] else stp9 (1 - kfi m)) ++ (if skf m r all (kfi m) = true then [] else stp9 (kfi m)) := by simp [stps]
  rw [e, krw_append, krw_kon hk hr (by omega)]
  have e2 : krn m P r all = if (kon m P r all (1 - kfi m) m).2 ≠ 0 then kon m P r all (1 - kfi m) m else kon m P r all (kfi m) (kon m P r all (1 - kfi m) m).1 := by
    unfold krn
    rw [if_neg (by rw [hk, hr]; simp), ho, if_neg (by simp)]
  rw [e2]
  by_cases h : (kon m P r all (1 - kfi m) m).2 ≠ 0
  · rw [if_pos h, if_pos h]
  · rw [if_neg h, if_neg h, krw_kon (by rw [(like_kon m P r all (1 - kfi m) m).kok]; exact hk) hr hf]
theorem head_kfi (m : Fm) : (kli m).headD 0 = kfi m := by
  unfold kli
  by_cases hc : (kda m 1).2 = 0 ∧ ((kda m 0).2 ≠ 0 ∨ (kda m 0).1.q < (kda m 1).1.q)
  · have e : kfi m = 1 := by unfold kfi; rw [if_pos hc]
    rw [e, List.filter_cons_of_pos (by simpa using hc.1)]
    rfl
  · have e : kfi m = 0 := by unfold kfi; rw [if_neg hc]
    rw [e]
    by_cases h0 : (kda m 0).2 = 0
    · rw [List.filter_cons_of_pos (by simpa using h0)]
      rfl
    · have h1 : (kda m 1).2 ≠ 0 := fun x => hc ⟨x, Or.inl h0⟩
      rw [List.filter_cons_of_neg (by simpa using h0), List.filter_cons_of_neg (by simpa using h1)]
      rfl
theorem kli_told {m : Fm} {i : Nat} (h : i ∈ kli m) : (kda m i).2 = 0 := by
  unfold kli at h
  simpa using (List.mem_filter.1 h).2
theorem kli_not {m : Fm} {i : Nat} (hi : i < 2) (h : i ∉ kli m) : (kda m i).2 ≠ 0 := by
  intro e
  refine h (List.mem_filter.2 ⟨?_, by simpa using e⟩)
  have := kfi_lt m
  simp
  omega
theorem skf_no {m : Fm} {r : Rc} {all : Bool} {i : Nat} (hi : i < 2) (h : i ∉ kli m) : skf m r all i = false := by
  unfold skf khs
  rw [decide_eq_false (kli_not hi h)]
  simp
theorem skf_yes {m : Fm} {r : Rc} {i : Nat} (h : i ∈ kli m) : skf m r false i = (kda m i).1.same r := by
  unfold skf khs
  rw [decide_eq_true (kli_told h)]
  simp
/-- a step whose variables lie in no block g -/
def StD (w : World) (fb bb db wb : Nat) (P : Pa.Pl) (ys : List Int) (v : Value) (s : Bool × Nat) (g : Option Nat) : Prop := ∃ cf cp cs cb a c, v = StV cf cp cs cb s.1 ∧ Cap w fb bb db wb P ys cf cp cs cb a c s.2 ∧ some cf ≠ g ∧ some cp ≠ g ∧ some cs ≠ g ∧ some cb ≠ g ∧ ∀ b o, a = some ⟨b, o, none⟩ → some b ≠ g
theorem StD.any {w : World} {fb bb db wb : Nat} {P : Pa.Pl} {ys : List Int} {v : Value} {s : Bool × Nat} {g : Option Nat} (h : StD w fb bb db wb P ys v s g) : StD w fb bb db wb P ys v s none := by
  obtain ⟨cf, cp, cs, cb, a, c, e, h, -⟩ := h
  exact ⟨cf, cp, cs, cb, a, c, e, h, by simp, by simp, by simp, by simp, by simp⟩
theorem StD.at_ {w : World} {fb bb db wb : Nat} {P : Pa.Pl} {ys : List Int} {v : Value} {s : Bool × Nat} {g : Option Nat} (h : StD w fb bb db wb P ys v s g) : StAt w fb bb db wb P ys v s := by
  obtain ⟨cf, cp, cs, cb, a, c, e, h, -⟩ := h
  exact ⟨cf, cp, cs, cb, a, c, e, h⟩
theorem StD.but {w w' : World} {fb bb db wb : Nat} {P : Pa.Pl} {ys : List Int} {v : Value} {s : Bool × Nat} {g : Option Nat} (h : StD w fb bb db wb P ys v s g) (k : w.grownBy w' g) : StD w' fb bb db wb P ys v s g := by
  obtain ⟨cf, cp, cs, cb, a, c, e, h, h1, h2, h3, h4, h5⟩ := h
  exact ⟨cf, cp, cs, cb, a, c, e, h.but k h1 h2 h3 h4 h5, h1, h2, h3, h4, h5⟩
theorem StD.kept {w w' : World} {fb bb db wb : Nat} {P : Pa.Pl} {ys : List Int} {v : Value} {s : Bool × Nat} {g : Option Nat} (h : StD w fb bb db wb P ys v s g) (k : w.grownBy w' none) : StD w' fb bb db wb P ys v s g := by
  obtain ⟨cf, cp, cs, cb, a, c, e, h, h1, h2, h3, h4, h5⟩ := h
  exact ⟨cf, cp, cs, cb, a, c, e, h.but k (by simp) (by simp) (by simp) (by simp) (by simp), h1, h2, h3, h4, h5⟩
/-- between two rounds: the row v of the steps l -/
structure Bo (w0 wr : World) (fb bb db wb : Nat) (P : Pa.Pl) (ys : List Int) (j : Nat) (l : List (Bool × Nat)) (v : Value) : Prop where
  gr : w0.grownBy wr none
  own : ∃ B vals, w0.heap.size ≤ B ∧ B ≤ wr.heap.size ∧ wr.ownsRow B 91 1 v l.length vals ∧ ∀ (k : Nat) (s : Bool × Nat), l[k]? = some s → ∃ val, vals[k]? = some val ∧ StD wr fb bb db wb P ys val s (if j < 2 then v.ownBlock else none)
  two : ∀ (k : Nat) (s : Bool × Nat), l[k]? = some s → s.2 < 2
  nil : j = 0 → v = .slice none 0 0 ∧ l = []
theorem owns_kept {w w' : World} {b e s n : Nat} {v : Value} {xs : List Value} (h : w.ownsRow b e s v n xs) (k : w.grownBy w' none) : w'.ownsRow b e s v n xs := h.kept k (by cases v.ownBlock <;> simp)
theorem Bo.start (w0 : World) (fb bb db wb : Nat) (P : Pa.Pl) (ys : List Int) : Bo w0 w0 fb bb db wb P ys 0 [] (.slice none 0 0) := ⟨World.grownBy.refl _ _, ⟨w0.heap.size, [], Nat.le_refl _, Nat.le_refl _, World.ownsRow_nil _ _ _ _, fun k s e => by simp at e⟩, fun k s e => by simp at e, fun _ => ⟨rfl, rfl⟩⟩
theorem Bo.kept {w0 w w' : World} {fb bb db wb : Nat} {P : Pa.Pl} {ys : List Int} {j : Nat} {l : List (Bool × Nat)} {v : Value} (h : Bo w0 w fb bb db wb P ys j l v) (k : w.grownBy w' none) : Bo w0 w' fb bb db wb P ys j l v := by
  obtain ⟨B, vals, h1, h2, h3, h4⟩ := h.own
  refine ⟨grown_trans h.gr k, ⟨B, vals, h1, Nat.le_trans h2 k.size, owns_kept h3 k, fun i s e => ?_⟩, h.two, h.nil⟩
  obtain ⟨val, e1, e2⟩ := h4 i s e
  exact ⟨val, e1, e2.kept k⟩
theorem Bo.skip {w0 w : World} {fb bb db wb : Nat} {P : Pa.Pl} {ys : List Int} {j : Nat} {l : List (Bool × Nat)} {v : Value} (h : Bo w0 w fb bb db wb P ys j l v) (hj : j < 2) : Bo w0 w fb bb db wb P ys (j + 1) l v := by
  obtain ⟨B, vals, h1, h2, h3, h4⟩ := h.own
  refine ⟨h.gr, ⟨B, vals, h1, h2, h3, fun i s e => ?_⟩, h.two, fun e => by omega⟩
  obtain ⟨val, e1, e2⟩ := h4 i s e
  rw [if_pos hj] at e2
  refine ⟨val, e1, ?_⟩
  split
  · exact e2
  · exact e2.any
/-- ahead of the append -/
theorem Bo.ready {w0 w3 w4 : World} {fb bb db wb : Nat} {P : Pa.Pl} {ys : List Int} {j : Nat} {l : List (Bool × Nat)} {v : Value} (h : Bo w0 w3 fb bb db wb P ys j l v) (hj : j < 2) (k : w3.grownBy w4 none) :
    ∃ B vals, w0.heap.size ≤ B ∧ B ≤ w4.heap.size ∧ w4.ownsRow B 91 1 v l.length vals ∧ (j = 0 → B = w4.heap.size) ∧ (∀ (k : Nat) (s : Bool × Nat), l[k]? = some s → ∃ val, vals[k]? = some val ∧ StD w4 fb bb db wb P ys val s v.ownBlock) ∧ (∀ g, v.ownBlock = some g → g < w3.heap.size) ∧ vals.length = l.length := by
  obtain ⟨B, vals, h1, h2, h3, h4⟩ := h.own
  have hl : vals.length = l.length := by have := h3.1; omega
  have hlt := h3.lt
  rcases Nat.eq_zero_or_pos j with h0 | h0
  · obtain ⟨rfl, rfl⟩ := h.nil h0
    refine ⟨w4.heap.size, [], Nat.le_trans h.gr.size k.size, Nat.le_refl _, World.ownsRow_nil _ _ _ _, fun _ => rfl, fun k s e => by simp at e, fun g e => by simp [Value.ownBlock] at e, rfl⟩
  · refine ⟨B, vals, h1, Nat.le_trans h2 k.size, owns_kept h3 k, fun e => by omega, fun i s e => ?_, fun g e => (hlt g e).2, hl⟩
    obtain ⟨val, e1, e2⟩ := h4 i s e
    rw [if_pos hj] at e2
    exact ⟨val, e1, e2.kept k⟩
/-- behind the append -/
theorem Bo.app {w0 w3 w4 w5 : World} {fb bb db wb : Nat} {P : Pa.Pl} {ys : List Int} {j : Nat} {l : List (Bool × Nat)} {v v' : Value} {B : Nat} {vals : List Value} (hj : j < 2) (g0 : w0.grownBy w4 none) (h1 : w0.heap.size ≤ B) (h2 : B ≤ w4.heap.size) (own : w4.ownsRow B 91 1 v l.length vals) (hB : j = 0 → B = w4.heap.size)
    (hs : ∀ (k : Nat) (s : Bool × Nat), l[k]? = some s → ∃ val, vals[k]? = some val ∧ StD w4 fb bb db wb P ys val s v.ownBlock) (ho : ∀ g, v.ownBlock = some g → g < w3.heap.size) (hl : vals.length = l.length) (two : ∀ (k : Nat) (s : Bool × Nat), l[k]? = some s → s.2 < 2) (nil : j = 0 → l = [])
    {cf cp cs cb i c : Nat} {a : Option Addr} (c1 : w3.heap.size ≤ cf) (c2 : w3.heap.size ≤ cp) (c3 : w3.heap.size ≤ cs) (c4 : w3.heap.size ≤ cb) (cap : Cap w4 fb bb db wb P ys cf cp cs cb a c i) (hi : i < 2) (hr : ∀ b o, a = some ⟨b, o, none⟩ → b < w0.heap.size)
    (own' : w5.ownsRow B 91 1 v' (l.length + 2) (vals ++ [StV cf cp cs cb false, StV cf cp cs cb true])) (g5 : w4.grownBy w5 v.ownBlock) : Bo w0 w5 fb bb db wb P ys (j + 1) (l ++ stp9 i) v' := by
  have hlt := own.lt
  have hlt' := own'.lt
  have n1 : ∀ k, w3.heap.size ≤ k → some k ≠ v.ownBlock := fun k hk e => by have := ho k e.symm; omega
  have n2 : ∀ b o, a = some ⟨b, o, none⟩ → some b ≠ v.ownBlock := fun b o e x => by have := hr b o e; have := (hlt b x.symm).1; omega
  have cap5 := cap.but g5 (n1 _ c1) (n1 _ c2) (n1 _ c3) (n1 _ c4) n2
  have l1 := cell_lt9 cap.f
  have l2 := cap.p.lt
  have l3 := cell_lt9 cap.s
  have l4 := cell_lt9 cap.b
  have hnew : ∀ b, StD w5 fb bb db wb P ys (StV cf cp cs cb b) (b, i) (if j + 1 < 2 then v'.ownBlock else none) := by
    intro b
    refine ⟨cf, cp, cs, cb, a, c, rfl, cap5, ?_⟩
    by_cases hj1 : j + 1 < 2
    · rw [if_pos hj1]
      have hBe := hB (by omega)
      have n3 : ∀ k, k < w4.heap.size → some k ≠ v'.ownBlock := fun k hk e => by have := (hlt' k e.symm).1; omega
      exact ⟨n3 _ l1, n3 _ l2, n3 _ l3, n3 _ l4, fun b o e => n3 _ (Nat.lt_of_lt_of_le (hr b o e) g0.size)⟩
    · rw [if_neg hj1]
      simp
  refine ⟨grown_own g0 own g5 h1, ⟨B, _, h1, Nat.le_trans h2 g5.size, by rw [List.length_append]; exact own', fun k s e => ?_⟩, fun k s e => ?_, fun e => by omega⟩
  · rcases Nat.lt_or_ge k l.length with hk | hk
    · rw [List.getElem?_append_left hk] at e
      obtain ⟨val, e1, e2⟩ := hs k s e
      refine ⟨val, by rw [List.getElem?_append_left (by omega)]; exact e1, ?_⟩
      have hj1 : ¬ j + 1 < 2 := by
        intro x
        rw [nil (by omega)] at hk
        simp at hk
      rw [if_neg hj1]
      exact (e2.but g5).any
    · rw [List.getElem?_append_right hk] at e
      rw [List.getElem?_append_right (by omega), hl]
      generalize k - l.length = q at e
      unfold stp9 at e
      rcases q with _ | _ | q
      · obtain rfl : (false, i) = s := by simpa using e
        exact ⟨_, rfl, hnew false⟩
      · obtain rfl : (true, i) = s := by simpa using e
        exact ⟨_, rfl, hnew true⟩
      · simp at e
  · rcases Nat.lt_or_ge k l.length with hk | hk
    · rw [List.getElem?_append_left hk] at e
      exact two k s e
    · rw [List.getElem?_append_right hk] at e
      have := List.mem_of_getElem? e
      unfold stp9 at this
      simp at this
      rcases this with rfl | rfl <;> exact hi
/-- the row, ready to be run -/
theorem Bo.sts {w0 w : World} {fb bb db wb : Nat} {P : Pa.Pl} {ys : List Int} {l : List (Bool × Nat)} {v : Value} (h : Bo w0 w fb bb db wb P ys 2 l v) (hf : ∀ k, foot fb bb db wb k → k < w0.heap.size) : ∃ a c, v = .slice a l.length c ∧ Sts w fb bb db wb P ys a l := by
  obtain ⟨B, vals, h1, h2, h3, h4⟩ := h.own
  rcases h3.2 with ⟨rfl, h0⟩ | ⟨g, cap, cur, rfl, hg, hh, hc, hm, hsz, ht⟩
  · refine ⟨none, 0, by rw [h0], fun k s e => ?_, h.two⟩
    rw [List.eq_nil_of_length_eq_zero h0] at e
    simp at e
  · refine ⟨_, cap, rfl, fun k s e => ?_, h.two⟩
    obtain ⟨val, e1, e2⟩ := h4 k s e
    have hk : k < l.length := (List.getElem?_eq_some_iff.1 e).1
    refine ⟨g, 0, val, rfl, ?_, e2.at_, fun x => by have := hf _ x; omega⟩
    have ec : w.cell? ⟨g, 0 + k, none⟩ = cur[0 + k]? := by simp [World.cell?, hh]
    rw [ec, ← e1, ← ht, List.getElem?_take, if_pos (by omega), Array.getElem?_toList, Nat.zero_add]
theorem psw1_any (R : Rc) (w : World) : Calls Try.prog 24 #[R.val] w fun e w' => e = .returned (.bool false) ∧ w.grownBy w' none := by
  obtain ⟨q, s, l, u⟩ := R
  simp only [Rc.val]
  go_enter Try.func24, Try.ntmps24
  go_wp2
  go_returns
  exact ⟨rfl, World.grownBy_alloc _ _ _⟩
theorem prp1_any (R r : Rc) (w : World) (cr : Nat) (hb : Bx w cr 26 r.cells) (hR : R.ok) (hr : r.ok) : Calls Try.prog 31 #[R.val, .pointer (some ⟨cr, 0, none⟩)] w fun e w' => e = .returned (.bool (R.same r)) ∧ w.grownBy w' none := by
  have he := fun W => rec_eql R r W hR hr
  have X1 := Bx.new w 26 R.cells
  have X2 := hb.kept (World.grownBy_alloc w (.cells R.cells.toArray 26) none)
  generalize R.same r = d at *
  obtain ⟨q, s, l, u⟩ := R
  obtain ⟨q', s', l', u'⟩ := r
  clear hb hR hr
  simp only [Rc.val, Rc.cells] at *
  obtain ⟨a0, a1, a2, a3⟩ := bx4 X1
  obtain ⟨b0, b1, b2, b3⟩ := bx4 X2
  clear X1 X2
  go_enter Try.func31, Try.ntmps31
  go_wp2
  go_returns
  exact ⟨rfl, World.grownBy_alloc _ _ _⟩
end Go.Proofs.Ytfhgbddeclldnaa
