/- The program's Slice. -/
import Derived.Test.YtkkigpobhagnfaaD01
import Derived.Test.YtkkigpobhagnfaaK15
namespace Go.Proofs.Ytkkigpobhagnfaa
open Go.RowKit Go.Shelf
set_option maxRecDepth 100000
attribute [local go_sem] Oper.semAt_some
set_option linter.unusedSimpArgs false
set_option linter.unusedVariables false

/-- a part of what a chunk tells -/
def pcS (bs : List Int) (x : Ck × Nat × Nat) : List Int := ((chk bs x.1).1.drop x.2.1).take (x.2.2 - x.2.1)
theorem told_ok (bs : List Int) : ∀ (l : List (Ck × Nat × Nat)) (out : List Int), (∀ x ∈ l, (chk bs x.1).2 = 0) → told bs l out = (out ++ (l.map (pcS bs)).flatten, 0)
 | [], out, _ => by simp [told]
 | x :: r, out, h => by
  rw [told, if_neg (fun k => k (h x (List.mem_cons_self ..))), told_ok bs r _ (fun y hy => h y (List.mem_cons_of_mem _ hy))]
  rw [List.map_cons, List.flatten_cons, ← List.append_assoc]
  rfl
theorem told_bad (bs : List Int) (x : Ck × Nat × Nat) (t : List (Ck × Nat × Nat)) (hx : (chk bs x.1).2 ≠ 0) : ∀ (p : List (Ck × Nat × Nat)) (out : List Int), (∀ y ∈ p, (chk bs y.1).2 = 0) → told bs (p ++ x :: t) out = ([], (chk bs x.1).2)
 | [], out, _ => by rw [List.nil_append, told, if_pos hx]
 | y :: r, out, h => by
  rw [List.cons_append, told, if_neg (fun k => k (h y (List.mem_cons_self ..)))]
  exact told_bad bs x t hx r _ (fun z hz => h z (List.mem_cons_of_mem _ hz))
theorem chk_len {bs : List Int} {c : Ck} (h : (chk bs c).2 = 0) : (chk bs c).1.length = pn c ∧ pn c ≤ 8192 := by
 unfold chk at h ⊢
 by_cases h1 : rgt c = false
 ·rw [if_pos h1] at h; cases h
 ·rw [if_neg h1] at h ⊢
  by_cases h2 : wthn bs.length c = false
  ·rw [if_pos h2] at h; cases h
  ·rw [if_neg h2] at h ⊢
   by_cases h3 : crc ent 0 (stoC bs c) ≠ c.cr
   ·rw [if_pos h3] at h; cases h
   ·rw [if_neg h3] at h ⊢
    by_cases h4 : (unpk (stoC bs c) c.pk c.pl).2 ≠ 0 ∨ ((unpk (stoC bs c) c.pk c.pl).1.length : Int) ≠ c.pl
    ·rw [if_pos h4] at h; cases h
    ·rw [if_neg h4]
     rw [Bool.not_eq_false] at h1
     have h5 := rgt_iff.1 h1
     have h6 : ((unpk (stoC bs c) c.pk c.pl).1.length : Int) = c.pl := Classical.not_not.1 (fun k => h4 (.inr k))
     unfold pn
     simp only
     omega
theorem askd_mem : ∀ (l : List Ck) (s t : Nat) (x : Ck × Nat × Nat), x ∈ askd l s t → x.1 ∈ l ∧ x.2.1 < x.2.2 ∧ x.2.2 ≤ pn x.1
 | [], s, t, x, h => by simp [askd] at h
 | c :: r, s, t, x, h => by
  rw [askd] at h
  rcases List.mem_append.1 h with h | h
  ·split at h
   ·obtain rfl := List.mem_singleton.1 h
    refine ⟨List.mem_cons_self .., ?_, ?_⟩
    ·simp only; omega
    ·simp only; omega
   ·simp at h
  ·obtain ⟨h1, h2⟩ := askd_mem r _ _ x h
   exact ⟨List.mem_cons_of_mem _ h1, h2⟩
theorem askd_len : ∀ (l : List Ck) (s t : Nat), (askd l s t).length ≤ l.length
 | [], s, t => by simp [askd]
 | c :: r, s, t => by
  have h := askd_len r (s - min s (pn c)) (t - min t (pn c - min s (pn c)))
  rw [askd, List.length_append, List.length_cons]
  split
  ·simp only [List.length_cons, List.length_nil]; omega
  ·simp only [List.length_nil]; omega
theorem pcS_len {bs : List Int} {x : Ck × Nat × Nat} (h : (chk bs x.1).2 = 0) : (pcS bs x).length ≤ 8192 := by
 have h1 := chk_len h
 unfold pcS
 rw [List.length_take, List.length_drop]
 omega
theorem flat_len14 {bs : List Int} : ∀ (l : List (Ck × Nat × Nat)), (∀ x ∈ l, (chk bs x.1).2 = 0) → (l.map (pcS bs)).flatten.length ≤ 8192 * l.length
 | [], _ => by simp
 | x :: r, h => by
  have h1 := flat_len14 r (fun y hy => h y (List.mem_cons_of_mem _ hy))
  have h2 := pcS_len (h x (List.mem_cons_self ..))
  rw [List.map_cons, List.flatten_cons, List.length_append, List.length_cons]
  omega
theorem cks_lt {w : World} {a : Option Addr} {len : Nat} {l : List Ck} (K : Cks w a len l) : ∀ b off, a = some ⟨b, off, none⟩ → 0 < len → b < w.heap.size := by
 intro b off e h0
 obtain ⟨b', off', e', hc⟩ := K.cells h0
 rw [e] at e'
 injection e' with e'
 injection e' with e1 e2
 subst e1
 obtain ⟨c, hcj⟩ : ∃ c, l[0]? = some c := ⟨_, List.getElem?_eq_getElem (by rw [K.len_eq]; exact h0)⟩
 exact cell_lt (hc 0 c hcj).1
theorem cks_kept {h q len : Nat} {a : Option Addr} {l : List Ck} (hab : ∀ b off, a = some ⟨b, off, none⟩ → 0 < len → b < h) {W W' : World} (k : Kq h q W W') (H : Cks W a len l) : Cks W' a len l := by
 have hc : ∀ {p : Addr} {v : Value}, W.cell? p = some v → p.block < h → W'.cell? p = some v := by
  intro p v hv hp
  have hb : p.block < W.heap.size := by
   rcases Nat.lt_or_ge p.block W.heap.size with h1 | h1
   ·exact h1
   ·simp [World.cell?, Array.getElem?_eq_none h1] at hv
  unfold World.cell? at hv ⊢
  rw [k.1 _ (Or.inl hp) hb]
  exact hv
 refine ⟨H.len_eq, H.le, fun h0 => ?_⟩
 obtain ⟨b, off, e, hcc⟩ := H.cells h0
 have hb := hab b off e h0
 exact ⟨b, off, e, fun i c hi => by
  obtain ⟨c0, c1, c2, c3, c4⟩ := hcc i c hi
  exact ⟨hc c0 hb, hc c1 hb, hc c2 hb, hc c3 hb, hc c4 hb⟩⟩
theorem Pcs.byt14 {W : World} : ∀ {ss : List Sv} {bs : List (List Int)}, Pcs W ss bs → Byt bs.flatten
 | [], [], _ => fun x hx => by simp at hx
 | _ :: _, _ :: _, h => by
  rw [List.flatten_cons]
  exact h.1.row.byt.append h.2.byt14
/-- a block of bytes that may be written -/
def Bk14 (W : World) (g n : Nat) : Prop := ∃ cur : List Value, Blk W g cur ∧ ∀ i, i < n → ∃ y : Int, 0 ≤ y ∧ y ≤ 255 ∧ cur[i]? = some (.int .u8 y)
theorem Bk14.set {W : World} {g n : Nat} (h : Bk14 W g n) (j : Nat) (y : Int) (hy : 0 ≤ y ∧ y ≤ 255) : Bk14 (W.setCell ⟨g, j, none⟩ (.int .u8 y)) g n := by
 obtain ⟨cur, b, hc⟩ := h
 refine ⟨_, b.set j (.int .u8 y), fun i hi => ?_⟩
 obtain ⟨z, h1, h2, h3⟩ := hc i hi
 rw [List.getElem?_set]
 by_cases e : j = i
 ·subst e
  have := (List.getElem?_eq_some_iff.1 h3).1
  exact ⟨y, hy.1, hy.2, by simp [this]⟩
 ·rw [if_neg e]; exact ⟨z, h1, h2, h3⟩
theorem Bk14.at {W : World} {g n : Nat} (h : Bk14 W g n) (j : Nat) (hj : j < n) : ∃ y : Int, 0 ≤ y ∧ y ≤ 255 ∧ W.cell? ⟨g, j, none⟩ = some (.int .u8 y) ∧ W.frozen? ⟨g, j, none⟩ = false := by
 obtain ⟨cur, b, hc⟩ := h
 obtain ⟨y, h1, h2, h3⟩ := hc j hj
 exact ⟨y, h1, h2, by rw [b.cell, h3], b.frozen j⟩
/-- the answer is a block of its own -/
def UPostB (w : World) (r : List Int × Int) (e : Ending) (w' : World) : Prop := ∃ a n c, e = .returned (.tuple #[.slice a n c, .int .i64 r.2]) ∧ Byte w' a n c r.1 ∧ w.grownBy w' none ∧ (0 < n → ∃ g, a = some ⟨g, 0, none⟩ ∧ w.heap.size ≤ g ∧ Bk14 w' g n)
theorem upostB_none {w w' : World} {er : Int} (h : w.grownBy w' none) : UPostB w ([], er) (.returned (.tuple #[.slice none 0 0, .int .i64 er])) w' := ⟨none, 0, 0, rfl, ⟨Row.none0 _, fun _ => rfl, Nat.le_refl _, Nat.zero_le _⟩, h, fun h => absurd h (Nat.lt_irrefl 0)⟩
/-- between two rounds of Slice's loop -/
structure Si (w : World) (h qt : Nat) (a : Option Addr) (len cap : Nat) (bs : List Int) (pre : List (Ck × Nat × Nat)) (W : World) : Prop where
 im : Bx W h 22 [.slice a len cap]
 r8 : Bx W (h + 1) 22 [.slice none 0 0]
 r9 : Bx W (h + 2) 25 [.int .i64 0]
 tab : SBlk W qt (tcs ent) 55
 lb : ∃ v ss, Bx W (qt + 1) 57 [v] ∧ W.ownsRow (qt + 5) 22 1 v pre.length (ss.map Sv.val) ∧ Pcs W ss (pre.map (pcS bs)) ∧ (∀ s ∈ ss, ∀ b o, s.a = some ⟨b, o, none⟩ → 0 < s.n → some b ≠ v.ownBlock)
 ok : ∀ x ∈ pre, (chk bs x.1).2 = 0
 gr : w.grownBy W none
def Sz (w : World) (h : Nat) (bs : List Int) (c : Code) (pre : List (Ck × Nat × Nat)) (W : World) : Prop :=
 c = .ret ∧ (∃ p x, pre = p ++ [x] ∧ (∀ y ∈ p, (chk bs y.1).2 = 0) ∧ (chk bs x.1).2 ≠ 0 ∧ Bx W (h + 2) 25 [.int .i64 (chk bs x.1).2]) ∧ Bx W (h + 1) 22 [.slice none 0 0] ∧ w.grownBy W none
theorem si_own (w : World) (qt : Nat) (hw : w.heap.size + 3 ≤ qt) (a : Option Addr) (len cap : Nat) (bs : List Int) : OwnFrom (qt + 5) (Si w w.heap.size qt a len cap bs) := by
 rintro s W W' row ⟨hi, h8, h9, ht, ⟨v, ss, hb, ho, hp, hn⟩, hok, hgr⟩ hg hr
 have hne : ∀ k, k < qt + 5 → some k ≠ row := fun k hk e => by have := (hr k e.symm).1; omega
 refine ⟨hi.keptR hg (hne _ (by omega)), h8.keptR hg (hne _ (by omega)), h9.keptR hg (hne _ (by omega)), ht.turn14 hg (hne _ (by omega)), ⟨v, ss, hb.keptR hg (hne _ (by omega)), own_turn14 ho hg (fun r e => (hr r e).2), ?_, hn⟩, hok, grown_turn14 hgr hg (by omega) (fun r e => (hr r e).1)⟩
 refine hp.turn hg (fun s' hs' b o e h0 e' => ?_)
 obtain ⟨ob, ho2, hc⟩ := (hr b e'.symm).2
 obtain ⟨i, hi⟩ := List.getElem?_of_mem hs'
 obtain ⟨bb, hbb, hB⟩ := hp.get i s' hi
 obtain ⟨b2, o2, e2, hc2⟩ := hB.row.cells h0
 rw [e] at e2
 injection e2 with e2
 injection e2 with e3 e4
 subst e3
 have hcell := hc2 0 h0
 unfold World.cell? at hcell
 rw [ho2] at hcell
 cases ob <;> simp [Obj.isCells] at hc hcell
theorem sz_own (w : World) (qt : Nat) (hw : w.heap.size + 3 ≤ qt) (bs : List Int) (c : Code) : OwnFrom (qt + 5) (Sz w w.heap.size bs c) := by
 rintro s W W' row ⟨hc, ⟨p, x, e, hp, hx, h9⟩, h8, hgr⟩ hg hr
 have hne : ∀ k, k < qt + 5 → some k ≠ row := fun k hk e => by have := (hr k e.symm).1; omega
 exact ⟨hc, ⟨p, x, e, hp, hx, h9.keptR hg (hne _ (by omega))⟩, h8.keptR hg (hne _ (by omega)), grown_turn14 hgr hg (by omega) (fun r e => (hr r e).1)⟩
theorem sl_end {w w1 A5 W0 W w7 w8 : World} {a : Option Addr} {len cap : Nat} {bs : List Int} {pre : List (Ck × Nat × Nat)} {x : Ck × Nat × Nat} {v v' : Value} {ss : List Sv} {sv : Sv} (hw1 : w.heap.size + 3 ≤ w1.heap.size) (s5 : A5.heap.size = w1.heap.size + 5) (hs0 : A5.heap.size + 2 ≤ W0.heap.size)
  (r4 : Bx W0 w.heap.size 22 [.slice a len cap]) (r8 : Bx W (w.heap.size + 1) 22 [.slice none 0 0]) (r9 : Bx W (w.heap.size + 2) 25 [.int .i64 0]) (rT : SBlk W0 w1.heap.size (tcs ent) 55) (hgr : w.grownBy W0 none) (rl : Bx W0 (w1.heap.size + 1) 57 [v]) (hown : W0.ownsRow (w1.heap.size + 5) 22 1 v pre.length (ss.map Sv.val)) (hP : Pcs W0 ss (pre.map (pcS bs)))
  (hne : ∀ s ∈ ss, ∀ b o, s.a = some ⟨b, o, none⟩ → 0 < s.n → some b ≠ v.ownBlock) (hoks : ∀ y ∈ pre, (chk bs y.1).2 = 0) (hxok : (chk bs x.1).2 = 0) (hg : W0.grownBy W none) (g7 : W.grownBy w7 none) (B7 : Byte w7 sv.a sv.n sv.c (pcS bs x)) (hN : ∀ b o, sv.a = some ⟨b, o, none⟩ → W.heap.size ≤ b)
  (hown' : w8.ownsRow (w1.heap.size + 5) 22 1 v' (pre.length + 1) (ss.map Sv.val ++ [sv.val])) (hgrow : (w7.alloc (.cells #[sv.val] 22)).grownBy w8 v.ownBlock)
  (hat : v'.ownBlock = v.ownBlock ∨ v'.ownBlock = some (w7.heap.size + 1)) (act : Act) :
  ownPostB A5.heap.size (Kq w.heap.size (w1.heap.size + 2)) (Si w w.heap.size w1.heap.size a len cap bs) (Sz w w.heap.size bs) (pre ++ [x]) W0 W .normal act (w8.setCell ⟨w1.heap.size + 1, 0, none⟩ v') := by
 have g07 := grown_trans hg g7
 obtain ⟨t1, t2, t3, t4, t5⟩ := turned14 (b := w1.heap.size + 1) (B := w1.heap.size + 5) (by omega) (by omega) rl hown g07 hown' hgrow
 have hob := fun k (e : v.ownBlock = some k) => (hown.lt k e)
 have hk : ∀ k, k < w1.heap.size + 5 → k ≠ w1.heap.size + 1 → k < W0.heap.size → (w8.setCell ⟨w1.heap.size + 1, 0, none⟩ v').heap[k]? = W0.heap[k]? := fun k h1 h2 h3 =>
  (t2 k (Nat.lt_of_lt_of_le h3 g07.size) h2 (fun e => by have := hob k e.symm; omega)).trans (g07.block k h3 (by simp))
 have hkW : ∀ k, k < w1.heap.size + 5 → k ≠ w1.heap.size + 1 → k < W.heap.size → (w8.setCell ⟨w1.heap.size + 1, 0, none⟩ v').heap[k]? = W.heap[k]? := fun k h1 h2 h3 =>
  (t2 k (Nat.lt_of_lt_of_le h3 g7.size) h2 (fun e => by have := hob k e.symm; omega)).trans (g7.block k h3 (by simp))
 refine ⟨⟨Nat.le_trans g7.size t3, fun k o hkb hs ho => ?_⟩, ⟨fun k hkk hs => ?_, Nat.le_trans g7.size t3⟩, (KeptO.grown g7 (Nat.le_refl _)).trans (t4.cut g7.size), ?_, ?_, ?_, ?_, ⟨v', ss ++ [sv], ?_, ?_, ?_, ?_⟩, ?_, ?_⟩
 ·exact t1.same k o (by omega) ((g7.block k (Array.getElem?_eq_some_iff.1 hs).1 (by simp)).trans hs) ho
 ·exact hkW k (by omega) (by omega) hs
 ·exact ⟨by rw [hk _ (by omega) (by omega) r4.lt]; exact r4.blk⟩
 ·exact ⟨by rw [hkW _ (by omega) (by omega) r8.lt]; exact r8.blk⟩
 ·exact ⟨by rw [hkW _ (by omega) (by omega) r9.lt]; exact r9.blk⟩
 ·unfold SBlk at rT ⊢
  rw [hk _ (by omega) (by omega) (Array.getElem?_eq_some_iff.1 rT).1]; exact rT
 ·exact (((rl.kept g07).kept (World.grownBy_alloc w7 (.cells #[sv.val] 22) none)).keptR hgrow (fun e => by have := hob _ e.symm; omega)).set 0 v'
 ·simp only [List.length_append, List.length_cons, List.length_nil, List.map_append, List.map_cons, List.map_nil]
  exact t5
 ·rw [List.map_append]
  have hP7 : Pcs w7 (ss ++ [sv]) (pre.map (pcS bs) ++ [pcS bs x]) := (hP.grown g07).snoc B7
  have hne7 : ∀ s ∈ ss ++ [sv], ∀ b o, s.a = some ⟨b, o, none⟩ → 0 < s.n → some b ≠ v.ownBlock := by
   intro s hs b o e h0
   rcases List.mem_append.1 hs with hs | hs
   ·exact hne s hs b o e h0
   ·obtain rfl : s = _ := List.mem_singleton.1 hs
    intro e'; have := hob b e'.symm; have := hg.size; have := hN b o e; omega
  have hP8 := (hP7.grown (World.grownBy_alloc w7 (.cells #[sv.val] 22) none)).turn hgrow hne7
  have hbx8 := ((rl.kept g07).kept (World.grownBy_alloc w7 (.cells #[sv.val] 22) none)).keptR hgrow (fun e => by have := hob _ e.symm; omega)
  refine hP8.turn (grown_set w8 (w1.heap.size + 1) 0 v') (fun s hs b o e h0 e' => ?_)
  injection e' with e'
  obtain ⟨i, hi⟩ := List.getElem?_of_mem hs
  obtain ⟨bb, _, hB⟩ := hP8.get i s hi
  exact pcs_ne14 hbx8 (own_notint hown) hB b o e h0 e'
 ·intro s hs b o e h0 e'
  have hlt7 : b < w7.heap.size ∧ some b ≠ v.ownBlock := by
   rcases List.mem_append.1 hs with hs | hs
   ·obtain ⟨i, hi⟩ := List.getElem?_of_mem hs
    obtain ⟨bb, _, hB⟩ := (hP.grown g07).get i s hi
    have hR := hB.row
    rw [e] at hR
    obtain ⟨b2, o2, e2, hc⟩ := hR.cells h0
    injection e2 with e2; injection e2 with e3 e4
    subst e3
    exact ⟨cell_lt (hc 0 h0), hne s hs b o e h0⟩
   ·obtain rfl : s = _ := List.mem_singleton.1 hs
    have hR := B7.row
    rw [e] at hR
    obtain ⟨b2, o2, e2, hc⟩ := hR.cells h0
    injection e2 with e2; injection e2 with e3 e4
    subst e3
    exact ⟨cell_lt (hc 0 h0), fun e' => by have := hob _ e'.symm; have := hg.size; have := hN _ _ e; omega⟩
  rcases hat with h | h
  ·rw [h] at e'; exact hlt7.2 e'
  ·rw [h] at e'; injection e' with e'; omega
 ·intro y hy
  rcases List.mem_append.1 hy with hy | hy
  ·exact hoks y hy
  ·obtain rfl := List.mem_singleton.1 hy
   exact hxok
 ·have gw7 := grown_trans hgr g07
  exact ⟨hgrow.os.trans gw7.os, hgrow.tape.trans gw7.tape, hgrow.output.trans gw7.output, Nat.le_trans gw7.size t3, fun k hkk _ => (t2 k (Nat.lt_of_lt_of_le hkk gw7.size) (by omega) (fun e => by have := hob k e.symm; omega)).trans (gw7.block k hkk (by simp))⟩
theorem cells1_new (w : World) (x : Value) (t : TypeId) : ∀ j u, ([x])[j]? = some u → (w.alloc (.cells #[x] t)).cell? ((⟨w.heap.size, 0, none⟩ : Addr).add j) = some u := by
 intro j u hj
 have hB := Bx.new w t [x]
 have hadd : (⟨w.heap.size, 0, none⟩ : Addr).add j = ⟨w.heap.size, j, none⟩ := by unfold Addr.add; split <;> simp_all
 rw [hadd, hB.c]
 exact hj
set_option maxHeartbeats 4000000 in
theorem pslice_main (a al : Option Addr) (len cap ln lc : Nat) (bs : List Int) (l : List Ck) (at0 n0 : Nat) (w : World) (B : Byte w a len cap bs) (K : Cks w al ln l) (hl : len ≤ 16777216) (hok : ∀ c ∈ l, c.ok) (hln : ln ≤ 4096) (ha : at0 ≤ 9223372036854775807) (hn : n0 ≤ 9223372036854775807) (hr : at0 + n0 ≤ sumN l) :
  Calls Try.prog 20 #[.slice a len cap, .slice al ln lc, .int .i64 (at0 : Int), .int .i64 (n0 : Int)] w (UPostB w (told bs (askd l at0 n0) [])) := by
 have hlb := B.row.len_eq
 have hAL := askd_len l at0 n0
 have hAM := askd_mem l at0 n0
 have hkl := K.len_eq
 generalize hLG : askd l at0 n0 = LG at hAL hAM ⊢
 have HLG : Hid _ := hLG
 clear hLG
 obtain ⟨A, hA⟩ : ∃ A : List Int × Int, A = told bs LG [] := ⟨_, rfl⟩
 rw [← hA]
 have HA : Hid _ := hA
 clear hA
 have hM := fun W => make_any W
 have hR := fun W (G : w.grownBy W none) => preach_any al ln lc l at0 n0 W (K.grown G) hok ha hn
 rw [decide_eq_true hr] at hR
 have hg0 : ¬ (at0 : Int) < 0 := by omega
 have hg1 : ¬ (n0 : Int) < 0 := by omega
 obtain ⟨hz, hs⟩ := zero24
 have HI : Hid ((Try.prog.info? 55).map (·.size) = some (tcs ent).toArray.size) := by show _ = _; simp [hs, tcs_length]
 clear hs hz
 have G1 := World.grownBy_alloc w (.cells #[.slice a len cap] 22) none
 have G2 := World.grownBy_alloc (w.alloc (.cells #[.slice a len cap] 22)) (.cells #[.slice none 0 0] 22) none
 have G3 := World.grownBy_alloc ((w.alloc (.cells #[.slice a len cap] 22)).alloc (.cells #[.slice none 0 0] 22)) (.cells #[.int .i64 0] 25) none
 have HG3 : Hid _ := grown_trans (grown_trans G1 G2) G3
 have hR3 := hR _ HG3.out
 refine (callsIn_wide (n := 5)).1 ?_
 refine callsIn_of_wp_marks Try.func20 rfl trivial ?_ rfl
 simp only [Try.ntmps20, List.size_toArray, List.length_cons, List.length_nil, Nat.reduceAdd, Nat.reduceSub, Array.replicate_succ, Array.replicate_zero, List.push_toArray, List.append_toArray, List.nil_append, List.cons_append]
 gi_wp2_with fail
 refine ⟨trivial, ?_⟩
 refine CallsIn.mono (callsIn_wide.2 hR3) ?_
 rintro e wr ⟨rfl, gr⟩
 have r4 := (((Bx.new w 22 [.slice a len cap]).kept G2).kept G3).kept gr
 have r8 := ((Bx.new (w.alloc (.cells #[.slice a len cap] 22)) 22 [.slice none 0 0]).kept G3).kept gr
 have r9 := (Bx.new ((w.alloc (.cells #[.slice a len cap] 22)).alloc (.cells #[.slice none 0 0] 22)) 25 [.int .i64 0]).kept gr
 simp only [World.size_alloc] at r8 r9
 have GR : w.grownBy wr none := grown_trans HG3.out gr
 have hszr : w.heap.size + 3 ≤ wr.heap.size := by have := gr.size; simp only [World.size_alloc] at this; omega
 clear G1 G2 G3 HG3 hR hR3 gr
 gi_wp2_with fail
 refine ⟨trivial, ?_⟩
 refine CallsIn.mono (callsIn_wide.2 (hM _)) ?_
 rintro e w1 ⟨rfl, g1⟩
 have r4 := r4.kept g1
 have r8 := r8.kept g1
 have r9 := r9.kept g1
 have gw1 := grown_trans GR g1
 have hw1 : w.heap.size + 3 ≤ w1.heap.size := Nat.le_trans hszr g1.size
 clear GR g1 hszr hM
 obtain ⟨hz, hs⟩ := zero24
 gi_wp2_with (with_reducible refine storeT_in ?_; refine wpListIn_store_row14 rfl 55 _ _ rfl w1.heap.size _ rfl rfl 55 _ (heap_alloc_new w1 _) HI.out (by simp [tcs_length]) (tcs_one _) ?_)
 rw [World.setRow_alloc_new]
 generalize htv : Value.agg (tcs ent).toArray = tv
 clear htv
 refine ⟨trivial, ?_⟩
 refine CallsIn.mono (callsIn_wide.2 (asked_any al ln lc at0 n0 _)) ?_
 rintro e w' ⟨rfl, rfl⟩
 have rT : SBlk (w1.alloc (.cells (tcs ent).toArray 55)) w1.heap.size (tcs ent) 55 := alloc_sblk _ _ _
 have gT := World.grownBy_alloc w1 (.cells (tcs ent).toArray 55) none
 generalize hA1 : w1.alloc (.cells (tcs ent).toArray 55) = A1 at rT gT ⊢
 have s1 : A1.heap.size = w1.heap.size + 1 := by rw [← hA1]; simp
 have rl := Bx.new A1 57 [.slice none 0 0]
 have gl := World.grownBy_alloc A1 (.cells #[.slice none 0 0] 57) none
 generalize hA2 : A1.alloc (.cells #[.slice none 0 0] 57) = A2 at rl gl ⊢
 have s2 : A2.heap.size = w1.heap.size + 2 := by rw [← hA2]; simp; omega
 have rs := Bx.new A2 32 [.slice al ln lc]
 have gs := World.grownBy_alloc A2 (.cells #[.slice al ln lc] 32) none
 generalize hA3 : A2.alloc (.cells #[.slice al ln lc] 32) = A3 at rs gs ⊢
 have s3 : A3.heap.size = w1.heap.size + 3 := by rw [← hA3]; simp; omega
 have rn := Bx.new A3 3 [.int .i64 (at0 : Int)]
 have gn := World.grownBy_alloc A3 (.cells #[.int .i64 (at0 : Int)] 3) none
 generalize hA4 : A3.alloc (.cells #[.int .i64 (at0 : Int)] 3) = A4 at rn gn ⊢
 have s4 : A4.heap.size = w1.heap.size + 4 := by rw [← hA4]; simp; omega
 have rm := Bx.new A4 3 [.int .i64 (n0 : Int)]
 have gm := World.grownBy_alloc A4 (.cells #[.int .i64 (n0 : Int)] 3) none
 generalize hA5 : A4.alloc (.cells #[.int .i64 (n0 : Int)] 3) = A5 at rm gm ⊢
 have s5 : A5.heap.size = w1.heap.size + 5 := by rw [← hA5]; simp; omega
 rw [s1] at rl
 rw [s2] at rs ⊢
 rw [s3] at rn
 rw [s4] at rm
 have g15 : w1.grownBy A5 none := grown_trans (grown_trans (grown_trans (grown_trans gT gl) gs) gn) gm
 have gA : w.grownBy A5 none := grown_trans gw1 g15
 have hSi : Si w w.heap.size w1.heap.size a len cap bs [] A5 := ⟨r4.kept g15, r8.kept g15, r9.kept g15, ((((rT.turn14 gl (by simp)).turn14 gs (by simp)).turn14 gn (by simp)).turn14 gm (by simp)), ⟨_, [], (((rl.kept gs).kept gn).kept gm), World.ownsRow_nil _ _ _ _, trivial, fun s hs => by simp at hs⟩, fun x hx => by simp at hx, gA⟩
 have hb0 : A5.cell? ⟨w1.heap.size + 2, 0, none⟩ = some (.slice al ln lc) := ((rs.kept gn).kept gm).c 0
 have hb1 : A5.cell? ⟨w1.heap.size + 2 + 1, 0, none⟩ = some (.int .i64 (at0 : Int)) := (rn.kept gm).c 0
 have hb2 : A5.cell? ⟨w1.heap.size + 2 + 2, 0, none⟩ = some (.int .i64 (n0 : Int)) := rm.c 0
 clear r4 r8 r9 rT rl rs rn rm gw1 gT gl gs gn gm hA1 hA2 hA3 hA4 hA5 s1 s2 s3 s4 hz hs HI g15
 clear A1 A2 A3 A4
 have hseq := asked_seq (Kq w.heap.size (w1.heap.size + 2)) (w1.heap.size + 2 + 1) (w1.heap.size + 2 + 2) (w1.heap.size + 2) ln lc al l at0 n0 ha hn hok (by omega) (fun W W' => cks_kept (cks_lt K)) A5 (K.grown gA) hb0 hb1 hb2
 clear hb0 hb1 hb2
 rw [HLG.out] at hseq
 simp only
 gi_wp2_with fail
 refine rangeB (gf := 53) (lb := #[.pointer (some ⟨w1.heap.size + 2 + 1, 0, none⟩), .pointer (some ⟨w1.heap.size + 2 + 2, 0, none⟩), .pointer (some ⟨w1.heap.size + 2, 0, none⟩)]) rfl (enters_of Try.func53 (by kernel_rfl) rfl) hseq (Below.refl _ _) (fun x => rfl)
  Kq.trans (fun W o => Kq.put W o (by omega) (by omega)) (fun A B g => Kq.grown g) (Si w w.heap.size w1.heap.size a len cap bs) (Sz w w.heap.size bs) (by rw [s5]; exact si_own w _ hw1 a len cap bs) (fun c => by rw [s5]; exact sz_own w _ hw1 bs c) hSi
  (fun x a' m W => ∃ Bc, m ≤ Bc ∧ Bx W Bc 39 x.1.cells ∧ Bx W (Bc + 1) 80 [.int .i64 (x.2.1 : Int), .int .i64 (x.2.2 : Int)] ∧ a' = { tmps := #[.slice a len cap, .slice al ln lc, .int .i64 (at0 : Int), .int .i64 (n0 : Int), .pointer (some ⟨w.heap.size, 0, none⟩), undef, undef, undef, .pointer (some ⟨w.heap.size + 1, 0, none⟩), .pointer (some ⟨w.heap.size + 1 + 1, 0, none⟩), .pointer (some ⟨w1.heap.size, 0, none⟩), .pointer (some ⟨w1.heap.size + 1, 0, none⟩), .pointer (some ⟨Bc, 0, none⟩), .pointer (some ⟨Bc + 1, 0, none⟩), undef, undef, .int .i64 (at0 : Int), .bool false, .bool false, .int .i64 (n0 : Int), .bool false, .bool false, .bool false, .slice al ln lc, .int .i64 (at0 : Int), .int .i64 (n0 : Int), .bool true, .bool false, .bool false, tv, .slice al ln lc, .int .i64 (at0 : Int), .int .i64 (n0 : Int), .func (.func 53) #[] #[.pointer (some ⟨w1.heap.size + 2 + 1, 0, none⟩), .pointer (some ⟨w1.heap.size + 2 + 2, 0, none⟩), .pointer (some ⟨w1.heap.size + 2, 0, none⟩)], x.1.val, .agg #[.int .i64 (x.2.1 : Int), .int .i64 (x.2.2 : Int)], undef, undef, undef, undef, undef, undef, undef, undef, undef, undef, undef, undef, undef, undef, undef, undef, undef, undef, undef, undef], defers := [] })
  (fun x a' m s W W' row ⟨Bc, hm, hb, hb2, ha⟩ hg hr => ⟨Bc, hm, hb.turn14 hg (fun r e => (hr r e).2), hb2.turn14 hg (fun r e => (hr r e).2), ha⟩) ?assign ?body ?done ?stop
 case assign =>
  rintro l d ⟨⟨at_, pl, st, pk, cr⟩, s, t⟩ W K hK
  dsimp only [asv, Ck.val, Ck.cells] at hK ⊢
  gi_wp2
  refine hK _ _ (grown_trans (World.grownBy_alloc _ _ _) (World.grownBy_alloc _ _ _)) ⟨W.heap.size, Nat.le_refl _, (Bx.new W _ _).kept (World.grownBy_alloc _ _ _), ?_, ?_⟩
  ·have h := Bx.new (W.alloc (.cells #[.int .i64 at_, .int .i64 pl, .int .i64 st, .bool pk, .int .u32 (cr : Int)] 39)) 80 [.int .i64 (s : Int), .int .i64 (t : Int)]
   rw [World.size_alloc] at h
   exact h
  ·rfl
 case body =>
  rintro lp d m pre ⟨c, s, t⟩ a' W0 W hs0 hm ⟨r4, r8, r9, rT, ⟨v, ss, rl, hown, hP, hne⟩, hoks, hgr⟩ hg ⟨Bc, hBc, bx, bsp, rfl⟩ hsp
  have hxm : (c, s, t) ∈ LG := hsp.subset (by simp)
  obtain ⟨hx1, hx2, hx3⟩ := hAM _ hxm
  have hpl : pre.length + 1 ≤ 4096 := by
   have := hsp.length_le
   simp at this
   omega
  simp only at hx1 hx2 hx3
  have hcok := hok c hx1
  have hBW := (B.grown hgr).grown hg
  have hTW : SBlk W w1.heap.size (tcs ent) 55 := SBlk.turn14 rT hg (by simp)
  have hT : CrcAt W (some ⟨w1.heap.size, 0, none⟩) := fun W' G a' l' c' b' R => (crc_tab ent ent_tab w1.heap.size a' l' c' b' W' (SBlk.turn14 hTW G (by simp)) R).mono (fun e w' h => ⟨h.1, h.2 ▸ World.grownBy.refl _ _⟩)
  have hU := punpackN14_any (some ⟨w1.heap.size, 0, none⟩) a len cap bs c W hT hBW hl hcok
  have hCL := chk_len (bs := bs) (c := c)
  have HPS : Hid (pcS bs (c, s, t) = ((chk bs c).1.drop s).take (t - s)) := rfl
  have HLO : Hid (∀ y ∈ pre, (chk bs y.1).2 = 0) := hoks
  have HCK : Hid (∃ r, r = chk bs c) := ⟨_, rfl⟩
  generalize hRR : chk bs c = rr at hU hCL HPS
  have HRR : Hid _ := hRR
  obtain ⟨rb, er⟩ := rr
  simp only at hCL HPS
  have HC : Hid (∀ y : Ck × Nat × Nat, y.1 = c → (chk bs y.1) = (rb, er)) := fun y hy => by rw [hy]; exact HRR.out
  clear hRR HRR HCK hoks hT hTW hBW hcok hxm
  have c4 := (r4.kept hg).c 0
  have c8 := (r8.kept hg).c 0
  have f8 := (r8.kept hg).f 0
  have c9 := (r9.kept hg).c 0
  have f9 := (r9.kept hg).f 0
  have cl := (rl.kept hg).c 0
  have fl := (rl.kept hg).f 0
  simp only [List.getElem?_cons_zero] at c4 c8 c9 cl
  have k0 := bsp.c 0
  have k1 := bsp.c 1
  simp only [List.getElem?_cons_zero, List.getElem?_cons_succ] at k0 k1
  obtain ⟨at_, pl, st, pk, cr⟩ := c
  dsimp only [Ck.val, Ck.cells] at bx hU ⊢
  obtain ⟨d0, d1, d2, d3, d4⟩ := ckx bx
  gi_wp2_with fail
  refine ⟨trivial, (fun h => by cases h), ?_⟩
  refine CallsIn.mono (CallsIn.inRound lp (callsIn_wide.2 hU)) ?_
  rintro e w5 ⟨a5, n5, c5, rfl, B5, g5, nw5⟩
  simp only
  have r8 := r8.kept hg
  have r9 := r9.kept hg
  have rl5 := (rl.kept hg).kept g5
  have r85 := r8.kept g5
  have r95 := r9.kept g5
  clear c4 c8 f8 c9 f9 cl fl d0 d1 d2 d3 d4 hU
  have c8 := r85.c 0
  have f8 := r85.f 0
  have c9 := r95.c 0
  have f9 := r95.f 0
  have cl := rl5.c 0
  have fl := rl5.f 0
  simp only [List.getElem?_cons_zero] at c8 c9 cl
  have k0 := gcell14 k0 g5
  have k1 := gcell14 k1 g5
  by_cases he : er = 0
  ·subst he
   have hown5 : w5.ownsRow (w1.heap.size + 5) 22 1 v pre.length (ss.map Sv.val) := own_turn14 (own_turn14 hown hg (fun r e => by cases e)) g5 (fun r e => by cases e)
   have hn5 : rb.length = n5 := B5.row.len_eq
   obtain ⟨hCL1, hCL2⟩ := hCL rfl
   obtain ⟨b5, o5, rfl, _⟩ := B5.row.cells (by omega)
   have BP : Byte w5 (some ⟨b5, o5 + s, none⟩) (t - s) (c5 - s) ((rb.drop s).take (t - s)) := B5.part14 s (t - s) (by omega)
   have hnc5 := B5.nc
   have fin := fun w8 v' => sl_end (w := w) (w1 := w1) (A5 := A5) (W0 := W0) (W := W) (w7 := w5.drew) (w8 := w8) (v' := v') (x := (⟨at_, pl, st, pk, cr⟩, s, t)) (sv := ⟨some ⟨b5, o5 + s, none⟩, t - s, c5 - s⟩) hw1 s5 hs0 r4 (by assumption) (by assumption) rT hgr rl hown hP hne HLO.out (by rw [HC.out _ rfl]) hg (grown_trans g5 (grown_drew _)) (by rw [HPS.out]; exact BP.grown (grown_drew _)) (fun b o e => by cases e; exact nw5 _ _ rfl)
   simp only [s5] at fin
   have HFIN : Hid _ := fin
   have hbase : w1.heap.size + 5 ≤ w5.heap.size := by have := hg.size; have := g5.size; omega
   clear fin hne hP hown rl r4 rT hgr HLO HPS HC BP B5 nw5
   gi_wp2_with fail
   refine wpIn_region_any (by kernel_rfl) ?_
   refine wpAnyIn_round14 rfl (nd14 (by rfl)) _ _ _ _ ?_
   obtain ⟨i5, hi, hz0, hz1, hz2⟩ := info_parts Try.infoBs
   have HI2 : Hid _ := And.intro hi (And.intro hz0 (And.intro hz1 hz2))
   clear hi hz0 hz1 hz2
   have g6 : w5.grownBy w5.drew none := grown_drew _
   have cl6 : w5.drew.cell? ⟨w1.heap.size + 1, 0, none⟩ = some v := cl
   have hown6 := own_turn14 hown5 g6 (fun r e => by cases e)
   have rl6 := rl5.kept g6
   have e0 : w5.drew.cell? ⟨Bc + 1, 0, none⟩ = some (.int .i64 (s : Int)) := k0
   have e1 : w5.drew.cell? ⟨Bc + 1, 1, none⟩ = some (.int .i64 (t : Int)) := k1
   have hbase : w1.heap.size + 5 ≤ w5.drew.heap.size := hbase
   change wpAnyIn _ _ _ _ _ _ _ _ _ (World.drew w5)
   have q1 : (0 : Int) ≤ (s : Int) := by omega
   have q2 : (s : Int) ≤ (t : Int) := by omega
   have q3 : (t : Int) ≤ (c5 : Int) := by omega
   generalize w5.drew = w6 at *
   clear g6 k0 k1 cl fl c8 c9 f8 f9 rl5 r85 r95 hown5
   skip
   refine wpAnyIn_take (i := 1) (oi := ⟨some 46, _, _, _, _, _⟩) (v := .slice (some ⟨b5, o5, none⟩) n5 c5) rfl rfl (by kernel_rfl) (by kernel_rfl) (by kernel_rfl) (fun _ _ _ h => h) ⟨Or.inl ⟨by rfl, fun w => by go_simp⟩, fun w => by go_simp⟩ ?_
   simp only [Act.put, pu]
   refine wpAnyIn_take (i := 2) (oi := ⟨some 47, _, _, _, _, _⟩) (v := .pointer (some ⟨Bc + 1, 0, none⟩)) rfl rfl (by kernel_rfl) (by kernel_rfl) (by kernel_rfl) (fun _ _ _ h => h) ⟨Or.inl ⟨by rfl, fun w => by go_simp⟩, fun w => by go_simp⟩ ?_
   simp only [Act.put, pu]
   refine wpAnyIn_take (i := 4) (oi := ⟨some 49, _, _, _, _, _⟩) (v := .pointer (some ⟨Bc + 1, 1, none⟩)) rfl rfl (by kernel_rfl) (by kernel_rfl) (by kernel_rfl) (fun _ _ _ h => h) ⟨Or.inl ⟨by rfl, fun w => by go_simp⟩, fun w => by go_simp⟩ ?_
   simp only [Act.put, pu]
   refine wpAnyIn_ready (rs := [0, 3, 5]) (by kernel_rfl) (by simp) ?_
   refine AllReadyIn.cons rfl (fun K1 hK => ?_) (AllReadyIn.cons rfl (fun K1 hK => ?_) (AllReadyIn.cons rfl (fun K1 hK => ?_) (AllReadyIn.nil)))
   ·skip
    go_simp
    refine hK _ _ ?_
    clear hK K1
    refine wpAnyIn_ready (rs := [3, 5]) (by kernel_rfl) (by simp) ?_
    refine AllReadyIn.cons rfl (fun K1 hK => ?_) (AllReadyIn.cons rfl (fun K1 hK => ?_) (AllReadyIn.nil))
    ·skip
     go_simp
     refine hK _ _ ?_
     clear hK K1
     refine wpAnyIn_ready (rs := [5]) (by kernel_rfl) (by simp) ?_
     refine AllReadyIn.cons rfl (fun K1 hK => ?_) (AllReadyIn.nil)
     ·skip
      go_simp
      refine hK _ _ ?_
      clear hK K1
      refine wpAnyIn_take (i := 6) (oi := ⟨some 51, _, _, _, _, _⟩) (v := .slice (some ⟨b5, o5 + s, none⟩) (t - s) (c5 - s)) rfl rfl (by kernel_rfl) (by kernel_rfl) (by kernel_rfl) (fun _ _ _ h => h) ⟨Or.inl ⟨by rfl, fun w => by go_simp <;> (intro h; omega)⟩, fun w => by go_simp <;> (intro h; omega)⟩ ?_
      simp only [Act.put, pu]
      refine wpAnyIn_ready (rs := [7]) (by kernel_rfl) (by simp) ?_
      refine AllReadyIn.cons rfl (fun K1 hK => ?_) (AllReadyIn.nil)
      ·skip
       go_simp
       have cl7 := gcell14 cl6 (World.grownBy_alloc w6 (.cells #[.slice (some ⟨b5, o5 + s, none⟩) (t - s) (c5 - s)] 22) none)
       refine hK _ _ ?_
       clear hK K1
       refine wpAnyIn_ready (rs := [8]) (by kernel_rfl) (by simp) ?_
       refine AllReadyIn.cons rfl (fun K1 hK => ?_) (AllReadyIn.nil)
       ·skip
        obtain ⟨hi, hz0, hz1, hz2⟩ := HI2.out
        obtain ⟨v', w8, hrun, hown', hgrow, _, hat⟩ := run_append_own_at (P := Try.prog) (w6.alloc (.cells #[.slice (some ⟨b5, o5 + s, none⟩) (t - s) (c5 - s)] 22)) (w1.heap.size + 5) 57 57 22 i5 (.slice none 0 0) 1 24 Try.underlying57 hi hz0 hz1 hz2 rfl (by decide) v pre.length (ss.map Sv.val) (hown6.alloc _) ⟨w6.heap.size, 0, none⟩ 1 1 [.slice (some ⟨b5, o5 + s, none⟩) (t - s) (c5 - s)] rfl (cells1_new _ _ _) (by simp [Value.oneCell']) (by unfold maxLen; omega) (by omega) (by simp; omega)
        obtain ⟨g', cap', rfl⟩ := ownsRow_succ hown'
        have k8 := (rl6.kept (World.grownBy_alloc w6 (.cells #[.slice (some ⟨b5, o5 + s, none⟩) (t - s) (c5 - s)] 22) none)).keptR hgrow (fun e => by have := (hown6.lt _ e.symm).1; omega)
        have hc8 := k8.c 0
        have hf8 := k8.f 0
        rw [if_pos (by rfl)]
        refine wpIn_append (v := v) (u := .slice (some ⟨w6.heap.size, 0, none⟩) 1 1) rfl rfl rfl hrun (hK _ _ ?_)
        clear hK K1 hrun
        refine wpAnyIn_ready (rs := [9]) (by kernel_rfl) (by simp) ?_
        refine AllReadyIn.cons rfl (fun K1 hK => ?_) (AllReadyIn.nil)
        ·skip
         go_simp
         refine hK _ _ ?_
         clear hK K1
         refine wpAnyIn_done (by kernel_rfl) ?_ _
         exact HFIN.out w8 _ hown' hgrow (by rw [World.size_alloc] at hat; exact hat) { tmps := #[], defers := [] }
    ·skip
     go_simp
     refine hK _ _ ?_
     clear hK K1
     refine wpAnyIn_ready (rs := [3]) (by kernel_rfl) (by simp) ?_
     refine AllReadyIn.cons rfl (fun K1 hK => ?_) (AllReadyIn.nil)
     ·skip
      go_simp
      refine hK _ _ ?_
      clear hK K1
      refine wpAnyIn_take (i := 6) (oi := ⟨some 51, _, _, _, _, _⟩) (v := .slice (some ⟨b5, o5 + s, none⟩) (t - s) (c5 - s)) rfl rfl (by kernel_rfl) (by kernel_rfl) (by kernel_rfl) (fun _ _ _ h => h) ⟨Or.inl ⟨by rfl, fun w => by go_simp <;> (intro h; omega)⟩, fun w => by go_simp <;> (intro h; omega)⟩ ?_
      simp only [Act.put, pu]
      refine wpAnyIn_ready (rs := [7]) (by kernel_rfl) (by simp) ?_
      refine AllReadyIn.cons rfl (fun K1 hK => ?_) (AllReadyIn.nil)
      ·skip
       go_simp
       have cl7 := gcell14 cl6 (World.grownBy_alloc w6 (.cells #[.slice (some ⟨b5, o5 + s, none⟩) (t - s) (c5 - s)] 22) none)
       refine hK _ _ ?_
       clear hK K1
       refine wpAnyIn_ready (rs := [8]) (by kernel_rfl) (by simp) ?_
       refine AllReadyIn.cons rfl (fun K1 hK => ?_) (AllReadyIn.nil)
       ·skip
        obtain ⟨hi, hz0, hz1, hz2⟩ := HI2.out
        obtain ⟨v', w8, hrun, hown', hgrow, _, hat⟩ := run_append_own_at (P := Try.prog) (w6.alloc (.cells #[.slice (some ⟨b5, o5 + s, none⟩) (t - s) (c5 - s)] 22)) (w1.heap.size + 5) 57 57 22 i5 (.slice none 0 0) 1 24 Try.underlying57 hi hz0 hz1 hz2 rfl (by decide) v pre.length (ss.map Sv.val) (hown6.alloc _) ⟨w6.heap.size, 0, none⟩ 1 1 [.slice (some ⟨b5, o5 + s, none⟩) (t - s) (c5 - s)] rfl (cells1_new _ _ _) (by simp [Value.oneCell']) (by unfold maxLen; omega) (by omega) (by simp; omega)
        obtain ⟨g', cap', rfl⟩ := ownsRow_succ hown'
        have k8 := (rl6.kept (World.grownBy_alloc w6 (.cells #[.slice (some ⟨b5, o5 + s, none⟩) (t - s) (c5 - s)] 22) none)).keptR hgrow (fun e => by have := (hown6.lt _ e.symm).1; omega)
        have hc8 := k8.c 0
        have hf8 := k8.f 0
        rw [if_pos (by rfl)]
        refine wpIn_append (v := v) (u := .slice (some ⟨w6.heap.size, 0, none⟩) 1 1) rfl rfl rfl hrun (hK _ _ ?_)
        clear hK K1 hrun
        refine wpAnyIn_ready (rs := [9]) (by kernel_rfl) (by simp) ?_
        refine AllReadyIn.cons rfl (fun K1 hK => ?_) (AllReadyIn.nil)
        ·skip
         go_simp
         refine hK _ _ ?_
         clear hK K1
         refine wpAnyIn_done (by kernel_rfl) ?_ _
         exact HFIN.out w8 _ hown' hgrow (by rw [World.size_alloc] at hat; exact hat) { tmps := #[], defers := [] }
   ·skip
    go_simp
    refine hK _ _ ?_
    clear hK K1
    refine wpAnyIn_ready (rs := [0, 5]) (by kernel_rfl) (by simp) ?_
    refine AllReadyIn.cons rfl (fun K1 hK => ?_) (AllReadyIn.cons rfl (fun K1 hK => ?_) (AllReadyIn.nil))
    ·skip
     go_simp
     refine hK _ _ ?_
     clear hK K1
     refine wpAnyIn_ready (rs := [5]) (by kernel_rfl) (by simp) ?_
     refine AllReadyIn.cons rfl (fun K1 hK => ?_) (AllReadyIn.nil)
     ·skip
      go_simp
      refine hK _ _ ?_
      clear hK K1
      refine wpAnyIn_take (i := 6) (oi := ⟨some 51, _, _, _, _, _⟩) (v := .slice (some ⟨b5, o5 + s, none⟩) (t - s) (c5 - s)) rfl rfl (by kernel_rfl) (by kernel_rfl) (by kernel_rfl) (fun _ _ _ h => h) ⟨Or.inl ⟨by rfl, fun w => by go_simp <;> (intro h; omega)⟩, fun w => by go_simp <;> (intro h; omega)⟩ ?_
      simp only [Act.put, pu]
      refine wpAnyIn_ready (rs := [7]) (by kernel_rfl) (by simp) ?_
      refine AllReadyIn.cons rfl (fun K1 hK => ?_) (AllReadyIn.nil)
      ·skip
       go_simp
       have cl7 := gcell14 cl6 (World.grownBy_alloc w6 (.cells #[.slice (some ⟨b5, o5 + s, none⟩) (t - s) (c5 - s)] 22) none)
       refine hK _ _ ?_
       clear hK K1
       refine wpAnyIn_ready (rs := [8]) (by kernel_rfl) (by simp) ?_
       refine AllReadyIn.cons rfl (fun K1 hK => ?_) (AllReadyIn.nil)
       ·skip
        obtain ⟨hi, hz0, hz1, hz2⟩ := HI2.out
        obtain ⟨v', w8, hrun, hown', hgrow, _, hat⟩ := run_append_own_at (P := Try.prog) (w6.alloc (.cells #[.slice (some ⟨b5, o5 + s, none⟩) (t - s) (c5 - s)] 22)) (w1.heap.size + 5) 57 57 22 i5 (.slice none 0 0) 1 24 Try.underlying57 hi hz0 hz1 hz2 rfl (by decide) v pre.length (ss.map Sv.val) (hown6.alloc _) ⟨w6.heap.size, 0, none⟩ 1 1 [.slice (some ⟨b5, o5 + s, none⟩) (t - s) (c5 - s)] rfl (cells1_new _ _ _) (by simp [Value.oneCell']) (by unfold maxLen; omega) (by omega) (by simp; omega)
        obtain ⟨g', cap', rfl⟩ := ownsRow_succ hown'
        have k8 := (rl6.kept (World.grownBy_alloc w6 (.cells #[.slice (some ⟨b5, o5 + s, none⟩) (t - s) (c5 - s)] 22) none)).keptR hgrow (fun e => by have := (hown6.lt _ e.symm).1; omega)
        have hc8 := k8.c 0
        have hf8 := k8.f 0
        rw [if_pos (by rfl)]
        refine wpIn_append (v := v) (u := .slice (some ⟨w6.heap.size, 0, none⟩) 1 1) rfl rfl rfl hrun (hK _ _ ?_)
        clear hK K1 hrun
        refine wpAnyIn_ready (rs := [9]) (by kernel_rfl) (by simp) ?_
        refine AllReadyIn.cons rfl (fun K1 hK => ?_) (AllReadyIn.nil)
        ·skip
         go_simp
         refine hK _ _ ?_
         clear hK K1
         refine wpAnyIn_done (by kernel_rfl) ?_ _
         exact HFIN.out w8 _ hown' hgrow (by rw [World.size_alloc] at hat; exact hat) { tmps := #[], defers := [] }
    ·skip
     go_simp
     refine hK _ _ ?_
     clear hK K1
     refine wpAnyIn_take (i := 6) (oi := ⟨some 51, _, _, _, _, _⟩) (v := .slice (some ⟨b5, o5 + s, none⟩) (t - s) (c5 - s)) rfl rfl (by kernel_rfl) (by kernel_rfl) (by kernel_rfl) (fun _ _ _ h => h) ⟨Or.inl ⟨by rfl, fun w => by go_simp <;> (intro h; omega)⟩, fun w => by go_simp <;> (intro h; omega)⟩ ?_
     simp only [Act.put, pu]
     refine wpAnyIn_ready (rs := [0, 7]) (by kernel_rfl) (by simp) ?_
     refine AllReadyIn.cons rfl (fun K1 hK => ?_) (AllReadyIn.cons rfl (fun K1 hK => ?_) (AllReadyIn.nil))
     ·skip
      go_simp
      refine hK _ _ ?_
      clear hK K1
      refine wpAnyIn_ready (rs := [7]) (by kernel_rfl) (by simp) ?_
      refine AllReadyIn.cons rfl (fun K1 hK => ?_) (AllReadyIn.nil)
      ·skip
       go_simp
       have cl7 := gcell14 cl6 (World.grownBy_alloc w6 (.cells #[.slice (some ⟨b5, o5 + s, none⟩) (t - s) (c5 - s)] 22) none)
       refine hK _ _ ?_
       clear hK K1
       refine wpAnyIn_ready (rs := [8]) (by kernel_rfl) (by simp) ?_
       refine AllReadyIn.cons rfl (fun K1 hK => ?_) (AllReadyIn.nil)
       ·skip
        obtain ⟨hi, hz0, hz1, hz2⟩ := HI2.out
        obtain ⟨v', w8, hrun, hown', hgrow, _, hat⟩ := run_append_own_at (P := Try.prog) (w6.alloc (.cells #[.slice (some ⟨b5, o5 + s, none⟩) (t - s) (c5 - s)] 22)) (w1.heap.size + 5) 57 57 22 i5 (.slice none 0 0) 1 24 Try.underlying57 hi hz0 hz1 hz2 rfl (by decide) v pre.length (ss.map Sv.val) (hown6.alloc _) ⟨w6.heap.size, 0, none⟩ 1 1 [.slice (some ⟨b5, o5 + s, none⟩) (t - s) (c5 - s)] rfl (cells1_new _ _ _) (by simp [Value.oneCell']) (by unfold maxLen; omega) (by omega) (by simp; omega)
        obtain ⟨g', cap', rfl⟩ := ownsRow_succ hown'
        have k8 := (rl6.kept (World.grownBy_alloc w6 (.cells #[.slice (some ⟨b5, o5 + s, none⟩) (t - s) (c5 - s)] 22) none)).keptR hgrow (fun e => by have := (hown6.lt _ e.symm).1; omega)
        have hc8 := k8.c 0
        have hf8 := k8.f 0
        rw [if_pos (by rfl)]
        refine wpIn_append (v := v) (u := .slice (some ⟨w6.heap.size, 0, none⟩) 1 1) rfl rfl rfl hrun (hK _ _ ?_)
        clear hK K1 hrun
        refine wpAnyIn_ready (rs := [9]) (by kernel_rfl) (by simp) ?_
        refine AllReadyIn.cons rfl (fun K1 hK => ?_) (AllReadyIn.nil)
        ·skip
         go_simp
         refine hK _ _ ?_
         clear hK K1
         refine wpAnyIn_done (by kernel_rfl) ?_ _
         exact HFIN.out w8 _ hown' hgrow (by rw [World.size_alloc] at hat; exact hat) { tmps := #[], defers := [] }
     ·skip
      go_simp
      have cl7 := gcell14 cl6 (World.grownBy_alloc w6 (.cells #[.slice (some ⟨b5, o5 + s, none⟩) (t - s) (c5 - s)] 22) none)
      refine hK _ _ ?_
      clear hK K1
      refine wpAnyIn_ready (rs := [0]) (by kernel_rfl) (by simp) ?_
      refine AllReadyIn.cons rfl (fun K1 hK => ?_) (AllReadyIn.nil)
      ·skip
       go_simp
       refine hK _ _ ?_
       clear hK K1
       refine wpAnyIn_ready (rs := [8]) (by kernel_rfl) (by simp) ?_
       refine AllReadyIn.cons rfl (fun K1 hK => ?_) (AllReadyIn.nil)
       ·skip
        obtain ⟨hi, hz0, hz1, hz2⟩ := HI2.out
        obtain ⟨v', w8, hrun, hown', hgrow, _, hat⟩ := run_append_own_at (P := Try.prog) (w6.alloc (.cells #[.slice (some ⟨b5, o5 + s, none⟩) (t - s) (c5 - s)] 22)) (w1.heap.size + 5) 57 57 22 i5 (.slice none 0 0) 1 24 Try.underlying57 hi hz0 hz1 hz2 rfl (by decide) v pre.length (ss.map Sv.val) (hown6.alloc _) ⟨w6.heap.size, 0, none⟩ 1 1 [.slice (some ⟨b5, o5 + s, none⟩) (t - s) (c5 - s)] rfl (cells1_new _ _ _) (by simp [Value.oneCell']) (by unfold maxLen; omega) (by omega) (by simp; omega)
        obtain ⟨g', cap', rfl⟩ := ownsRow_succ hown'
        have k8 := (rl6.kept (World.grownBy_alloc w6 (.cells #[.slice (some ⟨b5, o5 + s, none⟩) (t - s) (c5 - s)] 22) none)).keptR hgrow (fun e => by have := (hown6.lt _ e.symm).1; omega)
        have hc8 := k8.c 0
        have hf8 := k8.f 0
        rw [if_pos (by rfl)]
        refine wpIn_append (v := v) (u := .slice (some ⟨w6.heap.size, 0, none⟩) 1 1) rfl rfl rfl hrun (hK _ _ ?_)
        clear hK K1 hrun
        refine wpAnyIn_ready (rs := [9]) (by kernel_rfl) (by simp) ?_
        refine AllReadyIn.cons rfl (fun K1 hK => ?_) (AllReadyIn.nil)
        ·skip
         go_simp
         refine hK _ _ ?_
         clear hK K1
         refine wpAnyIn_done (by kernel_rfl) ?_ _
         exact HFIN.out w8 _ hown' hgrow (by rw [World.size_alloc] at hat; exact hat) { tmps := #[], defers := [] }
   ·skip
    go_simp
    refine hK _ _ ?_
    clear hK K1
    refine wpAnyIn_ready (rs := [0, 3]) (by kernel_rfl) (by simp) ?_
    refine AllReadyIn.cons rfl (fun K1 hK => ?_) (AllReadyIn.cons rfl (fun K1 hK => ?_) (AllReadyIn.nil))
    ·skip
     go_simp
     refine hK _ _ ?_
     clear hK K1
     refine wpAnyIn_ready (rs := [3]) (by kernel_rfl) (by simp) ?_
     refine AllReadyIn.cons rfl (fun K1 hK => ?_) (AllReadyIn.nil)
     ·skip
      go_simp
      refine hK _ _ ?_
      clear hK K1
      refine wpAnyIn_take (i := 6) (oi := ⟨some 51, _, _, _, _, _⟩) (v := .slice (some ⟨b5, o5 + s, none⟩) (t - s) (c5 - s)) rfl rfl (by kernel_rfl) (by kernel_rfl) (by kernel_rfl) (fun _ _ _ h => h) ⟨Or.inl ⟨by rfl, fun w => by go_simp <;> (intro h; omega)⟩, fun w => by go_simp <;> (intro h; omega)⟩ ?_
      simp only [Act.put, pu]
      refine wpAnyIn_ready (rs := [7]) (by kernel_rfl) (by simp) ?_
      refine AllReadyIn.cons rfl (fun K1 hK => ?_) (AllReadyIn.nil)
      ·skip
       go_simp
       have cl7 := gcell14 cl6 (World.grownBy_alloc w6 (.cells #[.slice (some ⟨b5, o5 + s, none⟩) (t - s) (c5 - s)] 22) none)
       refine hK _ _ ?_
       clear hK K1
       refine wpAnyIn_ready (rs := [8]) (by kernel_rfl) (by simp) ?_
       refine AllReadyIn.cons rfl (fun K1 hK => ?_) (AllReadyIn.nil)
       ·skip
        obtain ⟨hi, hz0, hz1, hz2⟩ := HI2.out
        obtain ⟨v', w8, hrun, hown', hgrow, _, hat⟩ := run_append_own_at (P := Try.prog) (w6.alloc (.cells #[.slice (some ⟨b5, o5 + s, none⟩) (t - s) (c5 - s)] 22)) (w1.heap.size + 5) 57 57 22 i5 (.slice none 0 0) 1 24 Try.underlying57 hi hz0 hz1 hz2 rfl (by decide) v pre.length (ss.map Sv.val) (hown6.alloc _) ⟨w6.heap.size, 0, none⟩ 1 1 [.slice (some ⟨b5, o5 + s, none⟩) (t - s) (c5 - s)] rfl (cells1_new _ _ _) (by simp [Value.oneCell']) (by unfold maxLen; omega) (by omega) (by simp; omega)
        obtain ⟨g', cap', rfl⟩ := ownsRow_succ hown'
        have k8 := (rl6.kept (World.grownBy_alloc w6 (.cells #[.slice (some ⟨b5, o5 + s, none⟩) (t - s) (c5 - s)] 22) none)).keptR hgrow (fun e => by have := (hown6.lt _ e.symm).1; omega)
        have hc8 := k8.c 0
        have hf8 := k8.f 0
        rw [if_pos (by rfl)]
        refine wpIn_append (v := v) (u := .slice (some ⟨w6.heap.size, 0, none⟩) 1 1) rfl rfl rfl hrun (hK _ _ ?_)
        clear hK K1 hrun
        refine wpAnyIn_ready (rs := [9]) (by kernel_rfl) (by simp) ?_
        refine AllReadyIn.cons rfl (fun K1 hK => ?_) (AllReadyIn.nil)
        ·skip
         go_simp
         refine hK _ _ ?_
         clear hK K1
         refine wpAnyIn_done (by kernel_rfl) ?_ _
         exact HFIN.out w8 _ hown' hgrow (by rw [World.size_alloc] at hat; exact hat) { tmps := #[], defers := [] }
    ·skip
     go_simp
     refine hK _ _ ?_
     clear hK K1
     refine wpAnyIn_take (i := 6) (oi := ⟨some 51, _, _, _, _, _⟩) (v := .slice (some ⟨b5, o5 + s, none⟩) (t - s) (c5 - s)) rfl rfl (by kernel_rfl) (by kernel_rfl) (by kernel_rfl) (fun _ _ _ h => h) ⟨Or.inl ⟨by rfl, fun w => by go_simp <;> (intro h; omega)⟩, fun w => by go_simp <;> (intro h; omega)⟩ ?_
     simp only [Act.put, pu]
     refine wpAnyIn_ready (rs := [0, 7]) (by kernel_rfl) (by simp) ?_
     refine AllReadyIn.cons rfl (fun K1 hK => ?_) (AllReadyIn.cons rfl (fun K1 hK => ?_) (AllReadyIn.nil))
     ·skip
      go_simp
      refine hK _ _ ?_
      clear hK K1
      refine wpAnyIn_ready (rs := [7]) (by kernel_rfl) (by simp) ?_
      refine AllReadyIn.cons rfl (fun K1 hK => ?_) (AllReadyIn.nil)
      ·skip
       go_simp
       have cl7 := gcell14 cl6 (World.grownBy_alloc w6 (.cells #[.slice (some ⟨b5, o5 + s, none⟩) (t - s) (c5 - s)] 22) none)
       refine hK _ _ ?_
       clear hK K1
       refine wpAnyIn_ready (rs := [8]) (by kernel_rfl) (by simp) ?_
       refine AllReadyIn.cons rfl (fun K1 hK => ?_) (AllReadyIn.nil)
       ·skip
        obtain ⟨hi, hz0, hz1, hz2⟩ := HI2.out
        obtain ⟨v', w8, hrun, hown', hgrow, _, hat⟩ := run_append_own_at (P := Try.prog) (w6.alloc (.cells #[.slice (some ⟨b5, o5 + s, none⟩) (t - s) (c5 - s)] 22)) (w1.heap.size + 5) 57 57 22 i5 (.slice none 0 0) 1 24 Try.underlying57 hi hz0 hz1 hz2 rfl (by decide) v pre.length (ss.map Sv.val) (hown6.alloc _) ⟨w6.heap.size, 0, none⟩ 1 1 [.slice (some ⟨b5, o5 + s, none⟩) (t - s) (c5 - s)] rfl (cells1_new _ _ _) (by simp [Value.oneCell']) (by unfold maxLen; omega) (by omega) (by simp; omega)
        obtain ⟨g', cap', rfl⟩ := ownsRow_succ hown'
        have k8 := (rl6.kept (World.grownBy_alloc w6 (.cells #[.slice (some ⟨b5, o5 + s, none⟩) (t - s) (c5 - s)] 22) none)).keptR hgrow (fun e => by have := (hown6.lt _ e.symm).1; omega)
        have hc8 := k8.c 0
        have hf8 := k8.f 0
        rw [if_pos (by rfl)]
        refine wpIn_append (v := v) (u := .slice (some ⟨w6.heap.size, 0, none⟩) 1 1) rfl rfl rfl hrun (hK _ _ ?_)
        clear hK K1 hrun
        refine wpAnyIn_ready (rs := [9]) (by kernel_rfl) (by simp) ?_
        refine AllReadyIn.cons rfl (fun K1 hK => ?_) (AllReadyIn.nil)
        ·skip
         go_simp
         refine hK _ _ ?_
         clear hK K1
         refine wpAnyIn_done (by kernel_rfl) ?_ _
         exact HFIN.out w8 _ hown' hgrow (by rw [World.size_alloc] at hat; exact hat) { tmps := #[], defers := [] }
     ·skip
      go_simp
      have cl7 := gcell14 cl6 (World.grownBy_alloc w6 (.cells #[.slice (some ⟨b5, o5 + s, none⟩) (t - s) (c5 - s)] 22) none)
      refine hK _ _ ?_
      clear hK K1
      refine wpAnyIn_ready (rs := [0]) (by kernel_rfl) (by simp) ?_
      refine AllReadyIn.cons rfl (fun K1 hK => ?_) (AllReadyIn.nil)
      ·skip
       go_simp
       refine hK _ _ ?_
       clear hK K1
       refine wpAnyIn_ready (rs := [8]) (by kernel_rfl) (by simp) ?_
       refine AllReadyIn.cons rfl (fun K1 hK => ?_) (AllReadyIn.nil)
       ·skip
        obtain ⟨hi, hz0, hz1, hz2⟩ := HI2.out
        obtain ⟨v', w8, hrun, hown', hgrow, _, hat⟩ := run_append_own_at (P := Try.prog) (w6.alloc (.cells #[.slice (some ⟨b5, o5 + s, none⟩) (t - s) (c5 - s)] 22)) (w1.heap.size + 5) 57 57 22 i5 (.slice none 0 0) 1 24 Try.underlying57 hi hz0 hz1 hz2 rfl (by decide) v pre.length (ss.map Sv.val) (hown6.alloc _) ⟨w6.heap.size, 0, none⟩ 1 1 [.slice (some ⟨b5, o5 + s, none⟩) (t - s) (c5 - s)] rfl (cells1_new _ _ _) (by simp [Value.oneCell']) (by unfold maxLen; omega) (by omega) (by simp; omega)
        obtain ⟨g', cap', rfl⟩ := ownsRow_succ hown'
        have k8 := (rl6.kept (World.grownBy_alloc w6 (.cells #[.slice (some ⟨b5, o5 + s, none⟩) (t - s) (c5 - s)] 22) none)).keptR hgrow (fun e => by have := (hown6.lt _ e.symm).1; omega)
        have hc8 := k8.c 0
        have hf8 := k8.f 0
        rw [if_pos (by rfl)]
        refine wpIn_append (v := v) (u := .slice (some ⟨w6.heap.size, 0, none⟩) 1 1) rfl rfl rfl hrun (hK _ _ ?_)
        clear hK K1 hrun
        refine wpAnyIn_ready (rs := [9]) (by kernel_rfl) (by simp) ?_
        refine AllReadyIn.cons rfl (fun K1 hK => ?_) (AllReadyIn.nil)
        ·skip
         go_simp
         refine hK _ _ ?_
         clear hK K1
         refine wpAnyIn_done (by kernel_rfl) ?_ _
         exact HFIN.out w8 _ hown' hgrow (by rw [World.size_alloc] at hat; exact hat) { tmps := #[], defers := [] }
  ·have hen : (er != 0) = true := by simpa using he
   have hgW := grown_trans (grown_trans hgr hg) g5
   gi_wp2
   refine ⟨?_, rfl, ?_, ?_, ?_⟩
   ·refine ⟨by rw [size_set, size_set]; exact g5.size, fun k o hk hs ho => ?_⟩
    rw [Below.heap_setCell _ _ _ _ (by simp; omega), Below.heap_setCell _ _ _ _ (by simp; omega), g5.block k (Array.getElem?_eq_some_iff.1 hs).1 (by simp)]
    exact hs
   ·refine ⟨pre, _, rfl, HLO.out, ?_, ?_⟩
    ·rw [HC.out _ rfl]; exact he
    ·rw [HC.out _ rfl]
     exact (r95.keptR (grown_set w5 (w.heap.size + 1) 0 (.slice none 0 0)) (by simp)).set 0 (.int .i64 er)
   ·exact (r85.set 0 (.slice none 0 0)).keptR (grown_set _ (w.heap.size + 2) 0 _) (by simp)
   ·exact grown_new (grown_new hgW (grown_set _ _ _ _) (Nat.le_succ _)) (grown_set _ _ _ _) (by omega)
 case done =>
  rintro D ys W hD rfl ⟨r4, r8, r9, rT, ⟨v, ss, rl, hown, hP, hne⟩, hoks, hgr⟩ hK
  obtain ⟨al2, cl2, rfl, hS⟩ := own_sls hown
  have cl7 := rl.c 0
  simp only [List.getElem?_cons_zero] at cl7
  have hflat := flat_len14 ys hoks
  have hyl : ys.length ≤ 4096 := by omega
  have htg := ptogether_any al2 ys.length cl2 ss _ W hS hP (by omega) (by omega)
  have hA := told_ok bs ys [] hoks
  rw [← HA.out, List.nil_append] at hA
  have hfb := hP.byt14
  generalize (ys.map (pcS bs)).flatten = fl at htg hA hflat hfb
  have HFB : Hid _ := hfb
  clear hfb
  clear hS hP hne hown rT hseq hSi HA
  gi_wp2_with fail
  refine ⟨trivial, ?_⟩
  refine CallsIn.mono (callsIn_wide.2 htg) ?_
  rintro e w9 ⟨rfl, b9, g9⟩
  have k8 := r8.kept g9
  have k9 := r9.kept g9
  have c8 := k8.c 0
  have f8 := k8.f 0
  have c9 := k9.c 0
  have f9 := k9.f 0
  simp only [List.getElem?_cons_zero] at c8 c9
  have hK9 : w9.heap[D]? = some (.deferred (some [])) := (g9.block D (Array.getElem?_eq_some_iff.1 hK).1 (by simp)).trans hK
  have g09 := grown_trans hgr g9
  have hszW := hgr.size
  have hszD := (Array.getElem?_eq_some_iff.1 hK).1
  gi_wp2
  have hK' := ((KeepsOthers.setCell w9 ⟨w.heap.size + 1, 0, none⟩ (.slice (some ⟨W.heap.size, 0, none⟩) fl.length fl.length)).trans (KeepsOthers.setCell _ ⟨w.heap.size + 2, 0, none⟩ (.int .i64 0))).same D _ hK9 rfl
  have k8 := (k8.set 0 (.slice (some ⟨W.heap.size, 0, none⟩) fl.length fl.length)).keptR (grown_set _ (w.heap.size + 2) 0 (.int .i64 0)) (by simp)
  have k9 := (k9.keptR (grown_set w9 (w.heap.size + 1) 0 (.slice (some ⟨W.heap.size, 0, none⟩) fl.length fl.length)) (by simp)).set 0 (.int .i64 0)
  have gF := grown_new (grown_new g09 (grown_set w9 (w.heap.size + 1) 0 (.slice (some ⟨W.heap.size, 0, none⟩) fl.length fl.length)) (Nat.le_succ _)) (grown_set _ (w.heap.size + 2) 0 (.int .i64 0)) (by omega)
  refine ⟨by simp, .inl ⟨_, _, rfl, run_takeDeferred hK', ?_⟩⟩
  have b8 := k8.turn14 (grownBy_putObj' _ D (.deferred none)) (fun r e => by cases e; exact ⟨_, hK', rfl⟩)
  have b9' := k9.turn14 (grownBy_putObj' _ D (.deferred none)) (fun r e => by cases e; exact ⟨_, hK', rfl⟩)
  have e8 := b8.c 0
  have e9 := b9'.c 0
  simp only [List.set_cons_zero, List.getElem?_cons_zero] at e8 e9
  refine ⟨.tuple #[.slice (some ⟨W.heap.size, 0, none⟩) fl.length fl.length, .int .i64 0], by simp [results, Try.f20, go_sem, e8, e9], ?_⟩
  subst hA
  have bF : Blk ((((w9.setCell ⟨w.heap.size + 1, 0, none⟩ (.slice (some ⟨W.heap.size, 0, none⟩) fl.length fl.length)).setCell ⟨w.heap.size + 2, 0, none⟩ (.int .i64 0))).putObj D (.deferred none)) W.heap.size (bv fl) := by
   unfold Blk at b9 ⊢
   rw [World.putObj_heap_other (by omega), Below.heap_setCell _ _ _ _ (by simp; omega), Below.heap_setCell _ _ _ _ (by simp; omega)]
   exact b9
  have hby : Byt fl := HFB.out
  refine ⟨_, _, _, rfl, ⟨bF.row hby (by unfold maxLen; omega), (fun h => by cases h), Nat.le_refl _, (by unfold maxLen; omega)⟩, grown_turn14 gF (grownBy_putObj' _ D (.deferred none)) (Nat.le_refl _) (fun r e => by cases e; omega), fun h0 => ⟨_, rfl, hszW, bv fl, bF, fun i hi => ?_⟩⟩
  have hm := hby _ (List.getElem_mem hi)
  exact ⟨fl[i], hm.1, hm.2, by rw [bv, List.getElem?_map, List.getElem?_eq_getElem hi]; rfl⟩
 case stop =>
  rintro D c pre W hD hpre ⟨rfl, ⟨p, x, rfl, hp, hx, r9⟩, r8, hgr⟩ hK
  have c8 := r8.c 0
  have c9 := r9.c 0
  simp only [List.getElem?_cons_zero] at c8 c9
  have hA : A = ([], (chk bs x.1).2) := by
   rw [HA.out]
   obtain ⟨t, rfl⟩ := hpre
   rw [List.append_assoc]
   exact told_bad bs x _ hx p [] hp
  clear hseq hSi HA
  gi_wp2
  refine ⟨by simp, .inl ⟨_, _, rfl, run_takeDeferred hK, ?_⟩⟩
  have b8 := r8.turn14 (grownBy_putObj' _ D (.deferred none)) (fun r e => by cases e; exact ⟨_, hK, rfl⟩)
  have b9 := r9.turn14 (grownBy_putObj' _ D (.deferred none)) (fun r e => by cases e; exact ⟨_, hK, rfl⟩)
  have e8 := b8.c 0
  have e9 := b9.c 0
  simp only [List.getElem?_cons_zero] at e8 e9
  refine ⟨.tuple #[.slice none 0 0, .int .i64 (chk bs x.1).2], by simp [results, Try.f20, go_sem, e8, e9], ?_⟩
  subst hA
  exact upostB_none (grown_turn14 hgr (grownBy_putObj' _ D (.deferred none)) (Nat.le_refl _) (fun r e => by cases e; omega))
end Go.Proofs.Ytkkigpobhagnfaa
