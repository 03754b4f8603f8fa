/- The program's meta: the chunks of a stream. The program's Chunks. The program's Encode. -/
import Derived.Test.YtkkigpobhagnfaaK12
import Derived.Test.YtkkigpobhagnfaaK13
namespace Go.Proofs.Ytkkigpobhagnfaa
open Go.RowKit Go.Shelf
set_option maxRecDepth 100000
attribute [local go_sem] Oper.semAt_some
set_option linter.unusedSimpArgs false
set_option linter.unusedVariables false

/-- Chunks, as a plain function -/
def lygs (bs : List Int) (from_ to_ size : Int) : List (Ck × Bool) := lyg (bs.take to_.toNat) (cnt size.toNat) from_.toNat size.toNat
def cks (bs : List Int) (from_ to_ size : Int) : List Ck × Int :=
 if from_ < 0 ∨ to_ < from_ ∨ (bs.length : Int) < to_ ∨ size < 0 ∨ 16777216 < size then ([], 1)
 else if (lygs bs from_ to_ size).all (·.2) then ((lygs bs from_ to_ size).map (·.1), 0) else ([], 6)
/-- chunks as a slice -/
structure Cks (w : World) (a : Option Addr) (len : Nat) (l : List Ck) : Prop where
 len_eq : l.length = len
 le : len ≤ maxLen
 cells : 0 < len → ∃ b off, a = some ⟨b, off, none⟩ ∧ ∀ (i : Nat) (c : Ck), l[i]? = some c → w.cell? ⟨b, off + i * 5, none⟩ = some (.int .i64 c.at_) ∧ w.cell? ⟨b, off + i * 5 + 1, none⟩ = some (.int .i64 c.pl) ∧ w.cell? ⟨b, off + i * 5 + 2, none⟩ = some (.int .i64 c.st) ∧ w.cell? ⟨b, off + i * 5 + 3, none⟩ = some (.bool c.pk) ∧ w.cell? ⟨b, off + i * 5 + 4, none⟩ = some (.int .u32 (c.cr : Int))
theorem cks_none (w : World) (a : Option Addr) : Cks w a 0 [] := ⟨rfl, Nat.zero_le _, fun h => absurd h (Nat.lt_irrefl 0)⟩
theorem Cks.grown {w w' : World} {a : Option Addr} {n : Nat} {l : List Ck} (h : Cks w a n l) (g : w.grownBy w' none) : Cks w' a n l :=
 ⟨h.len_eq, h.le, fun h0 => by
  obtain ⟨b, off, e, hc⟩ := h.cells h0
  exact ⟨b, off, e, fun i c hi => by
   obtain ⟨c0, c1, c2, c3, c4⟩ := hc i c hi
   exact ⟨gcell14 c0 g, gcell14 c1 g, gcell14 c2 g, gcell14 c3 g, gcell14 c4 g⟩⟩⟩
theorem ckc_len (l : List Ck) : (l.flatMap Ck.cells).length = l.length * 5 := by
 induction l with
 | nil => rfl
 | cons c r ih => simp only [List.flatMap_cons, List.length_append, ih, List.length_cons, Ck.cells]; simp; omega
theorem ckc_get (l : List Ck) (i : Nat) (c : Ck) (j : Nat) (h : l[i]? = some c) (hj : j < 5) : (l.flatMap Ck.cells)[i * 5 + j]? = c.cells[j]? := by
 induction l generalizing i with
 | nil => simp at h
 | cons d r ih =>
  have hd : d.cells.length = 5 := rfl
  cases i with
  | zero =>
   simp only [List.getElem?_cons_zero, Option.some.injEq] at h
   subst h
   rw [List.flatMap_cons, Nat.zero_mul, Nat.zero_add, List.getElem?_append_left (by omega)]
  | succ i =>
   rw [List.getElem?_cons_succ] at h
   rw [List.flatMap_cons, List.getElem?_append_right (by omega), hd, show (i + 1) * 5 + j - 5 = i * 5 + j by omega]
   exact ih i h
theorem own_cks {W : World} {base n : Nat} {v : Value} {l : List Ck} (h : W.ownsRow base 39 5 v n (l.flatMap Ck.cells)) (hn : n = l.length) (hl : n ≤ maxLen) : ∃ a c, v = .slice a n c ∧ Cks W a n l ∧ n ≤ c := by
 obtain ⟨h1, h2⟩ := h
 rcases h2 with ⟨rfl, h2⟩ | ⟨g, cap, cur, rfl, _, hg, hc, hm, hs, ht⟩
 ·subst h2
  obtain rfl : l = [] := List.eq_nil_of_length_eq_zero hn.symm
  exact ⟨none, 0, rfl, cks_none _ _, Nat.le_refl _⟩
 ·refine ⟨_, cap, rfl, ⟨hn.symm, hl, fun _ => ⟨g, 0, rfl, fun i c hi => ?_⟩⟩, hc⟩
  have hi2 : i < l.length := (List.getElem?_eq_some_iff.1 hi).1
  have key : ∀ j, j < 5 → W.cell? ⟨g, 0 + i * 5 + j, none⟩ = c.cells[j]? := by
   intro j hj
   have e : W.cell? ⟨g, 0 + i * 5 + j, none⟩ = cur[0 + i * 5 + j]? := by simp [World.cell?, hg]
   rw [e, ← ckc_get l i c j hi hj, ← ht, List.getElem?_take, if_pos (by omega), Array.getElem?_toList, Nat.zero_add]
  exact ⟨key 0 (by decide), key 1 (by decide), key 2 (by decide), key 3 (by decide), key 4 (by decide)⟩
def CkPost (w : World) (r : List Ck × Int) (e : Ending) (w' : World) : Prop := ∃ a n c, e = .returned (.tuple #[.slice a n c, .int .i64 r.2]) ∧ Cks w' a n r.1 ∧ n ≤ c ∧ w.grownBy w' none
theorem ckpost_none {w w' : World} {er : Int} (h : w.grownBy w' none) : CkPost w ([], er) (.returned (.tuple #[.slice none 0 0, .int .i64 er])) w' := ⟨none, 0, 0, rfl, cks_none _ _, Nat.le_refl _, h⟩
theorem Try.infoCk : (Try.prog.info? 39).map (fun i => (i.zero, i.size, i.bytes)) = some (some (.agg #[.int .i64 0, .int .i64 0, .int .i64 0, .bool false, .int .u32 0]), 5, 32) := by kernel_rfl
theorem lying_any (a : Option Addr) (len cap : Nat) (from_ size : Int) (w : World) :
  Calls Try.prog 30 #[.slice a len cap, .int .i64 from_, .int .i64 size] w fun e w' => e = .returned (.func (.func 44) #[] #[.pointer (some ⟨w.heap.size + 1, 0, none⟩), .pointer (some ⟨w.heap.size + 2, 0, none⟩), .pointer (some ⟨w.heap.size, 0, none⟩)]) ∧
   w' = ((w.alloc (.cells #[.slice a len cap] 22)).alloc (.cells #[.int .i64 from_] 3)).alloc (.cells #[.int .i64 size] 3) := by
 go_enter Try.func30, Try.ntmps30
 go_wp2
 go_ret
 exact ⟨by simp, rfl⟩
theorem lyg_len (bs : List Int) (k : Nat) : ∀ p sz, (lyg bs k p sz).length ≤ k + 1 := by
 induction k with
 | zero => intro p sz; rw [lyg]; split <;> simp
 | succ k ih =>
  intro p sz
  rw [lyg]
  split
  ·rw [List.length_cons]; have := ih (p + 8 + (cAt bs p ((min sz 8192 : Nat) : Int)).1.st.toNat) (sz - min sz 8192); omega
  ·simp
theorem own_turn14 {W W' : World} {row : Option Nat} {base e sz n : Nat} {v : Value} {xs : List Value} (h : W.ownsRow base e sz v n xs) (hg : W.grownBy W' row) (hr : ∀ r, row = some r → ∃ o : Obj, W.heap[r]? = some o ∧ o.isCells = false) : W'.ownsRow base e sz v n xs := by
 refine h.kept hg ?_
 rcases h.2 with ⟨rfl, _⟩ | ⟨g, cap, cur, rfl, _, hgb, _⟩
 ·exact .inl rfl
 ·refine .inr fun e' => ?_
  obtain ⟨o, ho, hc⟩ := hr g e'.symm
  rw [hgb] at ho; cases ho; cases hc
theorem Bx.keptR {W W' : World} {row : Option Nat} {g : Nat} {T : TypeId} {cs : List Value} (h : Bx W g T cs) (hg : W.grownBy W' row) (hne : some g ≠ row) : Bx W' g T cs := ⟨by rw [hg.block g h.lt hne]; exact h.blk⟩
theorem grown_turn14 {w W W' : World} {row : Option Nat} {B : Nat} (h : w.grownBy W none) (hg : W.grownBy W' row) (hB : w.heap.size ≤ B) (hr : ∀ r, row = some r → B ≤ r) : w.grownBy W' none :=
 ⟨hg.os.trans h.os, hg.tape.trans h.tape, hg.output.trans h.output, Nat.le_trans h.size hg.size, fun i hi _ => (hg.block i (Nat.lt_of_lt_of_le hi h.size) (fun e => by have := hr i e.symm; omega)).trans (h.block i hi (by simp))⟩
/-- between two rounds of Chunks' loop -/
structure Ci (w : World) (pre : List (Ck × Bool)) (W : World) : Prop where
 r8 : Bx W w.heap.size 32 [.slice none 0 0]
 r9 : Bx W (w.heap.size + 1) 25 [.int .i64 0]
 lb : ∃ v, Bx W (w.heap.size + 2) 32 [v] ∧ W.ownsRow (w.heap.size + 6) 39 5 v pre.length ((pre.map (·.1)).flatMap Ck.cells)
 ok : pre.all (·.2) = true
 gr : w.grownBy W none
def Cx (w : World) (c : Code) (pre : List (Ck × Bool)) (W : World) : Prop := c = .ret ∧ pre.all (·.2) = false ∧ Bx W w.heap.size 32 [.slice none 0 0] ∧ Bx W (w.heap.size + 1) 25 [.int .i64 6] ∧ w.grownBy W none
theorem ci_own (w : World) : OwnFrom (w.heap.size + 6) (Ci w) := by
 rintro s W W' row ⟨h8, h9, ⟨v, hb, ho⟩, hok, hgr⟩ hg hr
 have hne : ∀ k, k < w.heap.size + 6 → some k ≠ row := fun k hk e => by have := (hr k e.symm).1; omega
 exact ⟨h8.keptR hg (hne _ (by omega)), h9.keptR hg (hne _ (by omega)), ⟨v, hb.keptR hg (hne _ (by omega)), own_turn14 ho hg (fun r e => (hr r e).2)⟩, hok, grown_turn14 hgr hg (by omega) (fun r e => (hr r e).1)⟩
theorem cx_own (w : World) (c : Code) : OwnFrom (w.heap.size + 6) (Cx w c) := by
 rintro s W W' row ⟨hc, hok, h8, h9, hgr⟩ hg hr
 have hne : ∀ k, k < w.heap.size + 6 → some k ≠ row := fun k hk e => by have := (hr k e.symm).1; omega
 exact ⟨hc, hok, h8.keptR hg (hne _ (by omega)), h9.keptR hg (hne _ (by omega)), grown_turn14 hgr hg (by omega) (fun r e => (hr r e).1)⟩
/-- what the rounds keep of what the iterator reads -/
def Kq (h q : Nat) (W W' : World) : Prop := (∀ k, k < h ∨ k = q → k < W.heap.size → W'.heap[k]? = W.heap[k]?) ∧ W.heap.size ≤ W'.heap.size
theorem Kq.trans {h q : Nat} {A B C : World} (h1 : Kq h q A B) (h2 : Kq h q B C) : Kq h q A C := ⟨fun k hk hs => (h2.1 k hk (Nat.lt_of_lt_of_le hs h1.2)).trans (h1.1 k hk hs), Nat.le_trans h1.2 h2.2⟩
theorem Kq.put {h q l : Nat} (W : World) (o : Obj) (h1 : h ≤ l) (h2 : q ≠ l) : Kq h q W (W.putObj l o) := ⟨fun k hk _ => World.putObj_heap_other (by omega), by simp⟩
theorem Kq.grown {h q : Nat} {A B : World} (g : A.grownBy B none) : Kq h q A B := ⟨fun k _ hs => g.block k hs (by simp), g.size⟩
theorem Kq.grownR {h q : Nat} {A B : World} {row : Option Nat} (g : A.grownBy B row) (hr : ∀ r, row = some r → h ≤ r ∧ r ≠ q) : Kq h q A B := ⟨fun k hk hs => g.block k hs (fun e => by have := hr k e.symm; omega), g.size⟩
theorem ly_kept {h q len cap : Nat} {a : Option Addr} {bs : List Int} (hab : ∀ b off, a = some ⟨b, off, none⟩ → 0 < len → b < h) {W W' : World} (k : Kq h q W W') (H : Ly q a len cap bs W) : Ly q a len cap bs W' := by
 have hc : ∀ {p : Addr} {v : Value}, W.cell? p = some v → (p.block < h ∨ p.block = q) → W'.cell? p = some v := by
  intro p v hv hp
  have hb : p.block < W.heap.size := by
   rcases Nat.lt_or_ge p.block W.heap.size with h1 | h1
   ·exact h1
   ·simp [World.cell?, Array.getElem?_eq_none h1] at hv
  unfold World.cell? at hv ⊢
  rw [k.1 _ hp hb]
  exact hv
 refine ⟨hc H.box (Or.inr rfl), ⟨⟨H.byt.row.len_eq, H.byt.row.le, H.byt.row.byt, fun h0 => ?_⟩, H.byt.nil, H.byt.nc, H.byt.cm⟩⟩
 obtain ⟨b, off, e, hcc⟩ := H.byt.row.cells h0
 exact ⟨b, off, e, fun i hi => hc (hcc i hi) (Or.inl (hab b off e h0))⟩
attribute [local go_sem] Oper.semAt_some
set_option linter.unusedSimpArgs false
set_option linter.unusedVariables false

theorem Bx.turn14 {W W' : World} {row : Option Nat} {g : Nat} {T : TypeId} {cs : List Value} (h : Bx W g T cs) (hg : W.grownBy W' row) (hr : ∀ r, row = some r → ∃ o : Obj, W.heap[r]? = some o ∧ o.isCells = false) : Bx W' g T cs :=
 h.keptR hg (fun e => by
  obtain ⟨o, ho, hc⟩ := hr g e.symm
  rw [h.blk] at ho; cases ho; cases hc)
theorem cell_ck_new (w : World) (t : TypeId) (c : Ck) : ∀ j u, (c.cells)[j]? = some u → (w.alloc (.cells c.cells.toArray t)).cell? ((⟨w.heap.size, 0, none⟩ : Addr).add j) = some u := by
 intro j u hj
 have hB := Bx.new w t c.cells
 have hadd : (⟨w.heap.size, 0, none⟩ : Addr).add j = ⟨w.heap.size, j, none⟩ := by unfold Addr.add; split <;> simp_all
 rw [hadd, hB.c]
 exact hj
theorem own_notcells {W : World} {base e sz n : Nat} {v : Value} {xs : List Value} (h : W.ownsRow base e sz v n xs) {k : Nat} {o : Obj} (hk : W.heap[k]? = some o) (ho : o.isCells = false) : some k ≠ v.ownBlock := by
 rcases h.2 with ⟨rfl, _⟩ | ⟨g, cap, cur, rfl, _, hgb, _⟩
 ·simp [Value.ownBlock]
 ·intro e'
  obtain rfl : k = g := by simpa [Value.ownBlock] using e'
  rw [hgb] at hk; cases hk; cases ho
/-- a row of the loop's own has grown, its box is turned -/
theorem turned14 {W0 W w1 : World} {B b : Nat} {T : TypeId} {v v' u : Value} {e sz n m : Nat} {xs ys : List Value} {o : Obj} (hs0 : B + 2 ≤ W0.heap.size) (hb : b < B) (lb : Bx W0 b T [u]) (hown : W0.ownsRow B e sz v n xs) (hg : W0.grownBy W none)
  (hown' : w1.ownsRow B e sz v' m ys) (hgrow : (W.alloc o).grownBy w1 v.ownBlock) :
  KeepsFrom B W (w1.setCell ⟨b, 0, none⟩ v') ∧ (∀ k, k < W.heap.size → k ≠ b → some k ≠ v.ownBlock → (w1.setCell ⟨b, 0, none⟩ v').heap[k]? = W.heap[k]?) ∧ W.heap.size ≤ (w1.setCell ⟨b, 0, none⟩ v').heap.size ∧
   KeptO W0.heap.size W.heap.size W (w1.setCell ⟨b, 0, none⟩ v') ∧ (w1.setCell ⟨b, 0, none⟩ v').ownsRow B e sz v' m ys := by
 have hsz : W.heap.size ≤ w1.heap.size := by have := hgrow.size; simp at this; omega
 have hblk : ∀ k, k < W.heap.size → k ≠ b → some k ≠ v.ownBlock → (w1.setCell ⟨b, 0, none⟩ v').heap[k]? = W.heap[k]? := by
  intro k hk h1 h2
  rw [Below.heap_setCell _ _ _ _ (fun e => h1 (by rw [e])), hgrow.block k (by simp; omega) h2]
  exact Below.heap_alloc _ _ _ hk
 have hob := hown.lt
 have hownW : W.ownsRow B e sz v n xs := hown.kept hg (by cases v.ownBlock <;> simp)
 refine ⟨⟨by rw [size_set]; exact hsz, fun k o' hk hs ho => ?_⟩, hblk, by rw [size_set]; exact hsz, fun k h1 h2 => hblk k h2 (by have := lb.lt; omega) (fun e' => by have := hob k e'.symm; omega), hown'.kept (grown_set w1 b 0 v') ?_⟩
 ·rw [hblk k (Array.getElem?_eq_some_iff.1 hs).1 (by omega) (own_notcells hownW hs ho)]; exact hs
 ·rcases h : v'.ownBlock with _ | g
  ·exact .inl rfl
  ·right; intro e'; injection e' with e'; have := (hown'.lt g h).1; omega
set_option maxHeartbeats 4000000 in
theorem pchunks14_main (a : Option Addr) (len cap : Nat) (bs : List Int) (at0 to0 sz0 : Nat) (w : World) (B : Byte w a len cap bs) (hl : len ≤ 16777216) (h1 : at0 ≤ to0) (h2 : to0 ≤ len) (h3 : sz0 ≤ 16777216) :
  Calls Try.prog 15 #[.slice a len cap, .int .i64 (at0 : Int), .int .i64 (to0 : Int), .int .i64 (sz0 : Int)] w (CkPost w (cks bs at0 to0 sz0)) := by
 have hlb := B.row.len_eq
 have hR : cks bs at0 to0 sz0 = if (lyg (bs.take to0) (cnt sz0) at0 sz0).all (·.2) then ((lyg (bs.take to0) (cnt sz0) at0 sz0).map (·.1), 0) else ([], 6) := by
  unfold cks lygs
  rw [if_neg (by omega), Int.toNat_natCast, Int.toNat_natCast, Int.toNat_natCast]
 rw [hR]
 have hll := lyg_len (bs.take to0) (cnt sz0) at0 sz0
 have hcn : cnt sz0 ≤ 2048 := by unfold cnt; omega
 have BT : Byte w a to0 cap (bs.take to0) := by
  refine ⟨⟨by simp; omega, by have := B.row.le; omega, B.row.byt.take _, fun h0 => ?_⟩, B.nil, by have := B.nc; omega, B.cm⟩
  obtain ⟨b, off, e, hc⟩ := B.row.cells (by omega)
  refine ⟨b, off, e, fun i hi => ?_⟩
  rw [hc i (by omega), getD_take _ _ _ hi]
 have hab : ∀ b off, a = some ⟨b, off, none⟩ → 0 < to0 → b < w.heap.size := by
  intro b off e h0
  obtain ⟨b', off', e', hc⟩ := BT.row.cells h0
  rw [e] at e'
  injection e' with e'
  injection e' with e1 e2
  subst e1
  exact cell_lt (hc 0 h0)
 have hnc := B.nc
 have hcm := B.cm
 have hgi : ¬ (at0 : Int) < 0 := by omega
 have hg1 : ¬ (to0 : Int) < (at0 : Int) := by omega
 have hg2 : ¬ (len : Int) < (to0 : Int) := by omega
 have hg3 : ¬ (sz0 : Int) < 0 := by omega
 have hg4 : ¬ (16777216 : Int) < (sz0 : Int) := by omega
 obtain ⟨i5, hi, hz0, hz1, hz2⟩ := info_parts Try.infoCk
 generalize hLG : lyg (bs.take to0) (cnt sz0) at0 sz0 = LG at hll ⊢
 have HLG : Hid _ := hLG
 obtain ⟨A, hA⟩ : ∃ A : List Ck × Int, A = (if LG.all (·.2) then (LG.map (·.1), 0) else ([], 6)) := ⟨_, rfl⟩
 rw [← hA]
 have HA : Hid _ := hA
 clear hA
 clear hR hlb B hLG
 refine (callsIn_wide (n := 5)).1 ?_
 refine callsIn_of_wp_marks Try.func15 rfl trivial ?_ rfl
 simp only [Try.ntmps15, List.size_toArray, List.length_cons, List.length_nil, Nat.reduceAdd, Nat.reduceSub, Array.replicate_succ, Array.replicate_zero, List.push_toArray, List.append_toArray, List.nil_append, List.cons_append]
 gi_wp2
 refine ⟨trivial, ?_⟩
 refine CallsIn.mono (callsIn_wide.2 (lying_any a to0 cap at0 sz0 _)) ?_
 rintro e w' ⟨rfl, rfl⟩
 have r8 := Bx.new w 32 [.slice none 0 0]
 have g8 := World.grownBy_alloc w (.cells #[.slice none 0 0] 32) none
 generalize hA1 : w.alloc (.cells #[.slice none 0 0] 32) = A1 at r8 g8 ⊢
 have s1 : A1.heap.size = w.heap.size + 1 := by rw [← hA1]; simp
 have r9 := Bx.new A1 25 [.int .i64 0]
 have g9 := World.grownBy_alloc A1 (.cells #[.int .i64 0] 25) none
 generalize hA2 : A1.alloc (.cells #[.int .i64 0] 25) = A2 at r9 g9 ⊢
 have s2 : A2.heap.size = w.heap.size + 2 := by rw [← hA2]; simp; omega
 have rl := Bx.new A2 32 [.slice none 0 0]
 have gl := World.grownBy_alloc A2 (.cells #[.slice none 0 0] 32) none
 generalize hA3 : A2.alloc (.cells #[.slice none 0 0] 32) = A3 at rl gl ⊢
 have s3 : A3.heap.size = w.heap.size + 3 := by rw [← hA3]; simp; omega
 have rb := Bx.new A3 22 [.slice a to0 cap]
 have gb := World.grownBy_alloc A3 (.cells #[.slice a to0 cap] 22) none
 generalize hA4 : A3.alloc (.cells #[.slice a to0 cap] 22) = A4 at rb gb ⊢
 have s4 : A4.heap.size = w.heap.size + 4 := by rw [← hA4]; simp; omega
 have rf := Bx.new A4 3 [.int .i64 (at0 : Int)]
 have gf := World.grownBy_alloc A4 (.cells #[.int .i64 (at0 : Int)] 3) none
 generalize hA5 : A4.alloc (.cells #[.int .i64 (at0 : Int)] 3) = A5 at rf gf ⊢
 have s5 : A5.heap.size = w.heap.size + 5 := by rw [← hA5]; simp; omega
 have rz := Bx.new A5 3 [.int .i64 (sz0 : Int)]
 have gz := World.grownBy_alloc A5 (.cells #[.int .i64 (sz0 : Int)] 3) none
 generalize hA6 : A5.alloc (.cells #[.int .i64 (sz0 : Int)] 3) = A6 at rz gz ⊢
 have s6 : A6.heap.size = w.heap.size + 6 := by rw [← hA6]; simp; omega
 rw [s1] at r9
 rw [s2] at rl
 rw [s3] at rb ⊢
 rw [s4] at rf
 rw [s5] at rz
 have gA : w.grownBy A6 none := grown_trans (grown_trans (grown_trans (grown_trans (grown_trans g8 g9) gl) gb) gf) gz
 have hCi : Ci w [] A6 := ⟨(((((r8.kept g9).kept gl).kept gb).kept gf).kept gz), ((((r9.kept gl).kept gb).kept gf).kept gz), ⟨_, (((rl.kept gb).kept gf).kept gz), World.ownsRow_nil _ _ _ _⟩, rfl, gA⟩
 have hLy : Ly (w.heap.size + 3) a to0 cap (bs.take to0) A6 := ⟨((rb.kept gf).kept gz).c 0, BT.grown gA⟩
 have hc1 : A6.cell? ⟨w.heap.size + 3 + 1, 0, none⟩ = some (.int .i64 (at0 : Int)) := (rf.kept gz).c 0
 have hc2 : A6.cell? ⟨w.heap.size + 3 + 2, 0, none⟩ = some (.int .i64 (sz0 : Int)) := rz.c 0
 clear r8 r9 rl rb rf rz g8 g9 gl gb gf gz hA1 hA2 hA3 hA4 hA5 hA6 s1 s2 s3 s4 s5
 clear A1 A2 A3 A4 A5
 have hseq := lying_seq (Kq w.heap.size (w.heap.size + 3)) (w.heap.size + 3 + 1) (w.heap.size + 3 + 2) (w.heap.size + 3) to0 cap a (bs.take to0) at0 sz0 (by omega) h1 h3 (fun W W' => ly_kept hab) A6 hLy hc1 hc2
 rw [HLG.out] at hseq
 clear hLy hc1 hc2 hab BT
 simp only
 gi_wp2
 refine rangeB (gf := 44) (lb := #[.pointer (some ⟨w.heap.size + 3 + 1, 0, none⟩), .pointer (some ⟨w.heap.size + 3 + 2, 0, none⟩), .pointer (some ⟨w.heap.size + 3, 0, none⟩)]) rfl (enters_of Try.func44 (by kernel_rfl) rfl) hseq (Below.refl _ _) (fun x => rfl)
  Kq.trans (fun W o => Kq.put W o (by omega) (by omega)) (fun A B g => Kq.grown g) (Ci w) (Cx w) (by rw [s6]; exact ci_own w) (fun c => by rw [s6]; exact cx_own w c) hCi
  (fun x a' m W => ∃ Bc, m ≤ Bc ∧ Bx W Bc 39 x.1.cells ∧ a' = { tmps := #[.slice a len cap, .int .i64 (at0 : Int), .int .i64 (to0 : Int), .int .i64 (sz0 : Int), undef, undef, undef, undef, .pointer (some ⟨w.heap.size, 0, none⟩), .pointer (some ⟨w.heap.size + 1, 0, none⟩), .pointer (some ⟨w.heap.size + 1 + 1, 0, none⟩), .pointer (some ⟨Bc, 0, none⟩), .bool x.2, .int .i64 (at0 : Int), .bool false, .bool false, .int .i64 (at0 : Int), .int .i64 (to0 : Int), .bool false, .bool false, .bool false, .int .i64 (to0 : Int), .slice a len cap, .int .i64 (len : Int), .bool false, .bool false, .bool false, .int .i64 (sz0 : Int), .bool false, .bool false, .bool false, .int .i64 (sz0 : Int), .bool false, .bool false, .slice a len cap, .int .i64 (to0 : Int), .slice a to0 cap, .int .i64 (at0 : Int), .int .i64 (sz0 : Int), .func (.func 44) #[] #[.pointer (some ⟨w.heap.size + 3 + 1, 0, none⟩), .pointer (some ⟨w.heap.size + 3 + 2, 0, none⟩), .pointer (some ⟨w.heap.size + 3, 0, none⟩)], x.1.val, .bool x.2, undef, undef, undef, undef, undef, undef, undef], defers := [] })
  (fun x a' m s W W' row ⟨Bc, hm, hb, ha⟩ hg hr => ⟨Bc, hm, hb.turn14 hg (fun r e => (hr r e).2), ha⟩) ?assign ?body ?done ?stop
 case assign =>
  rintro l d ⟨⟨at_, pl, st, pk, cr⟩, ok⟩ W K hK
  dsimp only [Ck.val, Ck.cells] at hK ⊢
  gi_wp2
  exact hK _ _ (World.grownBy_alloc _ _ _) ⟨W.heap.size, Nat.le_refl _, Bx.new W _ _, rfl⟩
 case body =>
  rintro l d m pre ⟨⟨at_, pl, st, pk, cr⟩, ok⟩ a' W0 W hs0 hm ⟨r8, r9, ⟨v, lb, hown⟩, hok, hgr⟩ hg ⟨Bc, hBc, bx, rfl⟩ hsp
  dsimp only [Ck.val, Ck.cells] at bx ⊢
  have c8 := (r8.kept hg).c 0
  have f8 := (r8.kept hg).f 0
  have c9 := (r9.kept hg).c 0
  have f9 := (r9.kept hg).f 0
  have cl := (lb.kept hg).c 0
  have fl := (lb.kept hg).f 0
  obtain ⟨d0, d1, d2, d3, d4⟩ := ckx bx
  simp only [List.getElem?_cons_zero] at c8 c9 cl
  have hpl : pre.length + 1 ≤ 2049 := by
   obtain ⟨t, ht⟩ := hsp
   have := congrArg List.length ht
   simp at this
   omega
  cases ok with
  | false =>
   have hgW := grown_trans hgr hg
   gi_wp2
   refine ⟨((KeepsOthers.setCell _ _ _).trans (KeepsOthers.setCell _ _ _)).from _, rfl, by simp, ?_, ?_, ?_⟩
   ·exact ((r8.kept hg).set 0 (.slice none 0 0)).keptR (grown_set _ (w.heap.size + 1) 0 _) (by simp)
   ·exact ((r9.kept hg).keptR (grown_set W w.heap.size 0 (.slice none 0 0)) (by simp)).set 0 (.int .i64 6)
   ·exact grown_new (grown_new hgW (grown_set _ _ _ _) (Nat.le_refl _)) (grown_set _ _ _ _) (Nat.le_succ _)
  | true =>
   have hownW : W.ownsRow (w.heap.size + 6) 39 5 v pre.length ((pre.map (·.1)).flatMap Ck.cells) := hown.kept hg (by cases v.ownBlock <;> simp)
   have hszW : w.heap.size + 8 ≤ W.heap.size := by have := hg.size; omega
   gi_wp2_with (gi_at_builtin; refine wpListIn_append_own _ rfl _ _ 32 rfl (w.heap.size + 6) 39 i5 _ 5 32 Try.underlying32 hi hz0 hz1 hz2 rfl (by decide) v pre.length _ rfl (hownW.alloc _) ⟨W.heap.size, 0, none⟩ 1 1 [.int .i64 at_, .int .i64 pl, .int .i64 st, .bool pk, .int .u32 (cr : Int)] rfl rfl (cell_ck_new W 39 ⟨at_, pl, st, pk, cr⟩) (by simp [Value.oneCell']) (by unfold maxLen; omega) (by omega) (by simp; omega) ?_; intro v' w1 hown' hgrow _; obtain ⟨g', cap', rfl⟩ := ownsRow_succ hown'; have hlb1 := ((lb.kept hg).kept (World.grownBy_alloc W (.cells #[.int .i64 at_, .int .i64 pl, .int .i64 st, .bool pk, .int .u32 (cr : Int)] 39) none)).keptR hgrow (fun e => by have := hown.lt _ e.symm; omega); have hv1 := hlb1.c 0; have hv2 := hlb1.f 0)
   obtain ⟨t1, t2, t3, t4, t5⟩ := turned14 (b := w.heap.size + 2) (B := w.heap.size + 6) (by omega) (by omega) lb hown hg hown' hgrow
   have hob := fun k (e : v.ownBlock = some k) => (hown.lt k e).1
   have hgW := grown_trans hgr hg
   refine ⟨by rw [s6]; exact t1, ⟨fun k hk hs => t2 k hs (by omega) (fun e => by have := hob k e.symm; omega), t3⟩, t4, ?_, ?_, ⟨_, hlb1.set 0 _, ?_⟩, ?_, ?_⟩
   ·exact ⟨by rw [t2 _ (r8.kept hg).lt (by omega) (fun e => by have := hob _ e.symm; omega)]; exact (r8.kept hg).blk⟩
   ·exact ⟨by rw [t2 _ (r9.kept hg).lt (by omega) (fun e => by have := hob _ e.symm; omega)]; exact (r9.kept hg).blk⟩
   ·simp only [List.length_append, List.length_cons, List.length_nil, List.map_append, List.map_cons, List.map_nil, List.flatMap_append, List.flatMap_cons, List.flatMap_nil, List.append_nil]
    exact t5
   ·rw [List.all_append, hok]; rfl
   ·exact ⟨hgrow.os.trans hgW.os, hgrow.tape.trans hgW.tape, hgrow.output.trans hgW.output, Nat.le_trans hgW.size t3, fun k hk _ => (t2 k (Nat.lt_of_lt_of_le hk hgW.size) (by omega) (fun e => by have := hob k e.symm; omega)).trans (hgW.block k hk (by simp))⟩
 case done =>
  rintro D ys W hD rfl ⟨r8, r9, ⟨v, lb, hown⟩, hok, hgr⟩ hK
  have c8 := r8.c 0
  have f8 := r8.f 0
  have c9 := r9.c 0
  have f9 := r9.f 0
  have cl := lb.c 0
  simp only [List.getElem?_cons_zero] at c8 c9 cl
  obtain ⟨al, cl2, rfl, hcks, hlc⟩ := own_cks hown (by simp) (by unfold maxLen; omega)
  have hob := hown.lt
  gi_wp2
  have hK' := ((KeepsOthers.setCell W ⟨w.heap.size, 0, none⟩ (.slice al ys.length cl2)).trans (KeepsOthers.setCell _ ⟨w.heap.size + 1, 0, none⟩ (.int .i64 0))).same D _ hK rfl
  have k8 := (r8.set 0 (.slice al ys.length cl2)).keptR (grown_set _ (w.heap.size + 1) 0 (.int .i64 0)) (by simp)
  have k9 := (r9.keptR (grown_set W w.heap.size 0 (.slice al ys.length cl2)) (by simp)).set 0 (.int .i64 0)
  have gF := grown_new (grown_new hgr (grown_set W w.heap.size 0 (.slice al ys.length cl2)) (Nat.le_refl _)) (grown_set _ (w.heap.size + 1) 0 (.int .i64 0)) (Nat.le_succ _)
  have hne : ∀ k, k < w.heap.size + 6 → (Value.slice al ys.length cl2).ownBlock = none ∨ (Value.slice al ys.length cl2).ownBlock ≠ some k := by
   intro k hk
   rcases h : (Value.slice al ys.length cl2).ownBlock with _ | g
   ·exact .inl rfl
   ·right; intro e; injection e with e; have := (hob g h).1; omega
  have o2 := (hown.kept (grown_set W w.heap.size 0 (.slice al ys.length cl2)) (hne _ (by omega))).kept (grown_set _ (w.heap.size + 1) 0 (.int .i64 0)) (hne _ (by omega))
  refine ⟨by simp, .inl ⟨_, _, rfl, run_takeDeferred hK', ?_⟩⟩
  have b8 := k8.turn14 (grownBy_putObj' _ D (.deferred none)) (fun r e => by cases e; exact ⟨_, hK', rfl⟩)
  have b9 := k9.turn14 (grownBy_putObj' _ D (.deferred none)) (fun r e => by cases e; exact ⟨_, hK', rfl⟩)
  have o3 := own_turn14 o2 (grownBy_putObj' _ D (.deferred none)) (fun r e => by cases e; exact ⟨_, hK', rfl⟩)
  have e8 := b8.c 0
  have e9 := b9.c 0
  simp only [List.set_cons_zero, List.getElem?_cons_zero] at e8 e9
  refine ⟨.tuple #[.slice al ys.length cl2, .int .i64 0], by simp [results, Try.f15, go_sem, e8, e9], ?_⟩
  obtain ⟨al', cl2', e', hcks', _⟩ := own_cks o3 (by simp) (by unfold maxLen; omega)
  injection e' with e1 e2 e3
  subst e1 e3
  have hA := HA.out
  rw [if_pos hok] at hA
  subst hA
  exact ⟨_, _, _, rfl, hcks', hlc, grown_turn14 gF (grownBy_putObj' _ D (.deferred none)) (Nat.le_add_right _ 6) (fun r e => by cases e; omega)⟩
 case stop =>
  rintro D c pre W hD hpre ⟨rfl, hok, r8, r9, hgr⟩ hK
  have c8 := r8.c 0
  have c9 := r9.c 0
  simp only [List.getElem?_cons_zero] at c8 c9
  have hall : ¬ (LG.all (·.2)) = true := by
   obtain ⟨t, rfl⟩ := hpre
   rw [List.all_append, hok]; simp
  gi_wp2
  refine ⟨by simp, .inl ⟨_, _, rfl, run_takeDeferred hK, ?_⟩⟩
  have b8 := r8.turn14 (grownBy_putObj' _ D (.deferred none)) (fun r e => by cases e; exact ⟨_, hK, rfl⟩)
  have b9 := r9.turn14 (grownBy_putObj' _ D (.deferred none)) (fun r e => by cases e; exact ⟨_, hK, rfl⟩)
  have e8 := b8.c 0
  have e9 := b9.c 0
  simp only [List.getElem?_cons_zero] at e8 e9
  refine ⟨.tuple #[.slice none 0 0, .int .i64 6], by simp [results, Try.f15, go_sem, e8, e9], ?_⟩
  have hA := HA.out
  rw [if_neg hall] at hA
  subst hA
  exact ckpost_none (grown_turn14 hgr (grownBy_putObj' _ D (.deferred none)) (Nat.le_add_right _ 6) (fun r e => by cases e; omega))
attribute [local go_sem] Oper.semAt_some
set_option linter.unusedSimpArgs false
set_option linter.unusedVariables false

theorem wpListIn_store_row14 {F : Fence} {n : Nat} {P : Program} {ops : Array Oper} {rest : List Oper} {o : Oper} {a : Act} {w : World} {Q : Exit → Act → World → Prop} (hgd : o.guard = none) (ty : TypeId) (x y : Operand) (ho : o.op = .store ty x y)
  (g : Nat) (cells : Array Value) (hx : a.eval x = .pointer (some ⟨g, 0, none⟩)) (hy : a.eval y = .agg cells)
  (t : TypeId) (old : Array Value) (hg : w.heap[g]? = some (.cells old t (0, 0))) (hi : (P.info? ty).map (·.size) = some cells.size) (hold : old.size = cells.size) (h1 : cells.all (·.oneCell') = true)
  (h : wpListIn F n P ops Q rest (a.put o.dst undef) (w.setRow g cells)) : wpListIn F n P ops Q (o :: rest) a w := by
 refine wpListIn_plain hgd fun K hK' => ?_
 unfold Oper.wpIn
 refine ⟨?_, ?_⟩
 ·simp [Oper.about, ho]
 ·rw [Oper.semAt_plain F _ _ (by rw [ho]; intro c hc'; cases hc')]
  simp only [execOp, ho, hx, hy, Instr.storeAt, Instr.sureAddr, Sem.run_bind, Sem.run_pure, Result.andThen_ok, run_storeVar_row w g t ty old cells hg hi hold h1]
  exact hK' _ _ h
theorem storeT_in {F : Fence} {n : Nat} {P : Program} {w : World} {ops : Array Oper} {rest : List Oper} {a : Act} {Q : Exit → Act → World → Prop} {dst : Option Nat} {x y : Operand} {type : TypeId} {pos : String} {after : Array Edge} {guard : Option (Nat × Bool)}
  (h : wpListIn F n P ops Q (⟨dst, .store 55 x y, type, pos, after, guard⟩ :: rest) a w) : wpListIn F n P ops Q (⟨dst, .store 55 x y, type, pos, after, guard⟩ :: rest) a w := h
/-- a region within a round: what holds outside of it -/
theorem wpOpIn_round14 {F : Fence} {n : Nat} {P : Program} {ops : Array Oper} {Q : Exit → Act → World → Prop} {l i : Nat} {K : Act → World → Prop} {a : Act} {w : World} (hF : F.round = none) (hnd : ∀ o, ops[i]? = some o → ∀ c, o.op ≠ .defer c)
  (h : wpOpIn F n P ops Q i K a w) : wpOpIn (F.inRound l) n P ops Q i K a w := by
 unfold wpOpIn at h ⊢
 cases ho : ops[i]? with
 | none => simp only [ho] at h ⊢; exact h
 | some o =>
  simp only [ho] at h ⊢
  cases hw : Region.wanted o (yielded ops a.tmps) with
  | true =>
   simp only [hw, if_true] at h ⊢
   unfold Oper.wpIn at h ⊢
   refine ⟨h.1, ?_⟩
   have h2 := h.2
   rw [hF, Oper.semAt_none] at h2
   rw [Fence.inRound_round, Oper.semAt_some _ _ _ (hnd o ho)]
   generalize (execOp a.eval o).run P w = r at h2 ⊢
   cases r with
   | ok x w' => cases x <;> exact h2
   | halt x w' => cases x <;> exact h2
  | false =>
   simp only [hw, Bool.false_eq_true, if_false] at h ⊢
   exact h
theorem wpAnyIn_round14 {F : Fence} {n : Nat} {P : Program} {md : Region.Mode} {ops : Array Oper} {Q : Exit → Act → World → Prop} {l : Nat} (hF : F.round = none) (hnd : ∀ (i : Nat) (o : Oper), ops[i]? = some o → ∀ c, o.op ≠ .defer c) :
  ∀ (fuel : Nat) (listed : Array Bool) (a : Act) (w : World), wpAnyIn F n P md ops Q fuel listed a w → wpAnyIn (F.inRound l) n P md ops Q fuel listed a w := by
 intro fuel
 induction fuel with
 | zero => intro listed a w h; exact h
 | succ fuel ih =>
  intro listed a w h
  refine ⟨h.1, fun i hi => ?_⟩
  exact wpOpIn_mono (fun a w h => ih _ a w h) (wpOpIn_round14 hF (hnd i) (h.2 i hi))
end Go.Proofs.Ytkkigpobhagnfaa
