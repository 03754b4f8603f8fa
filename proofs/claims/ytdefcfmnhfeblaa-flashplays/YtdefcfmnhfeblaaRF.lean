/- Rows of whatever values; a variable of several cells in a block of its own. -/
import Derived.Test.YtdefcfmnhfeblaaRD
namespace Go.Proofs.Ytdefcfmnhfeblaa
open Go.RowKit
set_option linter.unusedSimpArgs false
set_option linter.unusedVariables false

structure RowE {α : Type} (enc : α → Value) (w : World) (a : Option Addr) (n : Nat) (xs : List α) : Prop where
  len_eq : xs.length = n
  le : n ≤ maxLen
  cells : 0 < n → ∃ b off, a = some ⟨b, off, none⟩ ∧ ∀ i x, xs[i]? = some x → w.cell? ⟨b, off + i, none⟩ = some (enc x)
theorem RowE.below {α : Type} {enc : α → Value} {w w' : World} {a : Option Addr} {n : Nat} {xs : List α} (h : RowE enc w a n xs) (hb : Below w.heap.size w w') : RowE enc w' a n xs := by
  refine ⟨h.len_eq, h.le, fun h0 => ?_⟩
  obtain ⟨b, off, e, hc⟩ := h.cells h0
  exact ⟨b, off, e, fun i x hi => by rw [hb.cell (p := ⟨b, off + i, none⟩) (cell_lt (hc i x hi))]; exact hc i x hi⟩
theorem RowE.grown {α : Type} {enc : α → Value} {w w' : World} {a : Option Addr} {n : Nat} {xs : List α} (h : RowE enc w a n xs) (hg : w.grownBy w' none) : RowE enc w' a n xs := h.below (grown_below hg)
theorem RowE.src {α : Type} {enc : α → Value} {w : World} {ad : Addr} {n : Nat} {xs : List α} (h : RowE enc w (some ad) n xs) : ∀ j u, (xs.map enc)[j]? = some u → w.cell? (ad.add j) = some u := by
  intro j u hj
  rw [List.getElem?_map] at hj
  obtain ⟨x, hx, rfl⟩ := Option.map_eq_some_iff.1 hj
  have h0 : 0 < n := by
    rw [← h.len_eq]
    exact Nat.lt_of_le_of_lt (Nat.zero_le j) (List.getElem?_eq_some_iff.1 hx).1
  obtain ⟨b, off, e, hc⟩ := h.cells h0
  injection e with e
  subst e
  have hadd : (⟨b, off, none⟩ : Addr).add j = ⟨b, off + j, none⟩ := by unfold Addr.add; split <;> simp_all
  rw [hadd]
  exact hc j x hx
/-- 'append' of such a row to an empty one of the call's own -/
theorem wpList_appendE {α : Type} {P : Program} {w : World} {ops : Array Oper} {rest : List Oper} {o : Oper} {a : Act} {Q : Exit → Act → World → Prop} (enc : α → Value) (h1c : ∀ x, (enc x).oneCell' = true) (hgd : o.guard = none) (s x : Operand) (t : TypeId)
    (ho : o.op = .call { callee := .builtin .append, args := #[s, x], argTypes := #[t, t] })
    (base : Nat) (e : TypeId) (i : TypeInfo) (z : Value) (by_ : Nat) (ht : P.underlying t = some (.slice e)) (hi : P.info? e = some i) (hz : i.zero = some z) (hsize : i.size = 1) (hby : i.bytes = by_) (hzc : z.cells.size = 1)
    (v : Value) (n : Nat) (xs : List Value) (hs : a.eval s = v) (hown : w.ownsRow base e 1 v n xs)
    (sa : Option Addr) (m c : Nat) (ys : List α) (hx : a.eval x = .slice sa m c) (R : RowE enc w sa m ys) (hsa : sa ≠ none)
    (hb : n + m ≤ 1000000) (hb2 : by_ ≤ 8) (hbase : base ≤ w.heap.size)
    (h : ∀ v' w', w'.ownsRow base e 1 v' (n + m) (xs ++ ys.map enc) → w.grownBy w' v.ownBlock → wpList P ops Q rest (a.put o.dst v') w') : wpList P ops Q (o :: rest) a w := by
  cases sa with
  | none => exact absurd rfl hsa
  | some ad =>
    refine wpList_append_own w hgd s x t ho base e i z 1 by_ ht hi hz hsize hby hzc (by decide) v n xs hs hown ad m c (ys.map enc) hx (by rw [List.length_map, R.len_eq, Nat.mul_one]) R.src ?_ (by unfold maxLen; omega) ?_ hbase (fun v' w' h1 h2 _ => h v' w' h1 h2)
    · intro u hu
      obtain ⟨y, _, rfl⟩ := List.mem_map.1 hu
      exact h1c y
    · have : (n + m) * by_ ≤ 1000000 * 8 := Nat.mul_le_mul hb hb2
      omega
theorem madeE (w : World) (e : TypeId) : (w.alloc (.cells #[] e)).ownsRow w.heap.size e 1 (.slice (some ⟨w.heap.size, 0, none⟩) 0 0) 0 [] := World.ownsRow_made _ #[] 0 (Nat.le_refl _) (Nat.zero_le _) rfl
theorem Own.rowE {α : Type} {enc : α → Value} {e : TypeId} {w0 W : World} {g n cap : Nat} {xs : List α} (h : Own e w0 W g n cap (xs.map enc)) : RowE enc W (some ⟨g, 0, none⟩) n xs := by
  have hl := h.len
  rw [List.length_map] at hl
  refine ⟨hl, Nat.le_trans h.nc h.cm, fun _ => ⟨g, 0, rfl, fun i x hx => ?_⟩⟩
  have hi : i < n := by rw [← hl]; exact (List.getElem?_eq_some_iff.1 hx).1
  rw [Nat.zero_add, h.cell i hi, List.getElem?_map, hx]; rfl

/-- a variable of several cells -/
structure Box (W : World) (g : Nat) (T : TypeId) (cs : List Value) : Prop where
  blk : W.heap[g]? = some (.cells cs.toArray T (0, 0))
theorem Box.lt {W : World} {g : Nat} {T : TypeId} {cs : List Value} (h : Box W g T cs) : g < W.heap.size := (Array.getElem?_eq_some_iff.1 h.blk).1
theorem Box.c {W : World} {g : Nat} {T : TypeId} {cs : List Value} (h : Box W g T cs) (i : Nat) : W.cell? ⟨g, i, none⟩ = cs[i]? := by simp [World.cell?, h.blk]
theorem Box.f {W : World} {g : Nat} {T : TypeId} {cs : List Value} (h : Box W g T cs) (i : Nat) : W.frozen? ⟨g, i, none⟩ = false := by simp [World.frozen?, h.blk]
theorem Box.set {W : World} {g : Nat} {T : TypeId} {cs : List Value} (h : Box W g T cs) (i : Nat) (v : Value) : Box (W.setCell ⟨g, i, none⟩ v) g T (cs.set i v) := by
  constructor
  rw [setCell_eq_setRow W g i _ _ _ _ h.blk, setRow_heap W g _ _ _ _ h.blk]
  simp
theorem Box.far {W : World} {g g' : Nat} {T : TypeId} {cs : List Value} (h : Box W g T cs) (i : Nat) (v : Value) (hne : g ≠ g') : Box (W.setCell ⟨g', i, none⟩ v) g T cs := by
  constructor
  rw [Below.heap_setCell _ _ _ _ hne]
  exact h.blk
theorem Box.below {W W' : World} {g B : Nat} {T : TypeId} {cs : List Value} (h : Box W g T cs) (hb : Below B W W') (hg : g < B) : Box W' g T cs := ⟨by rw [hb.block g hg]; exact h.blk⟩
theorem Box.grown {W W' : World} {g : Nat} {T : TypeId} {cs : List Value} (h : Box W g T cs) (hg : W.grownBy W' none) : Box W' g T cs := h.below (grown_below hg) h.lt
theorem Box.new (w : World) (T : TypeId) (cs : List Value) : Box (w.alloc (.cells cs.toArray T)) w.heap.size T cs := ⟨heap_alloc_new _ _⟩
theorem Box.c10 {W : World} {g : Nat} {T : TypeId} {v0 v1 v2 v3 v4 v5 v6 v7 v8 v9 : Value} (h : Box W g T [v0, v1, v2, v3, v4, v5, v6, v7, v8, v9]) :
    W.cell? ⟨g, 0, none⟩ = some v0 ∧ W.cell? ⟨g, 1, none⟩ = some v1 ∧ W.cell? ⟨g, 2, none⟩ = some v2 ∧ W.cell? ⟨g, 3, none⟩ = some v3 ∧ W.cell? ⟨g, 4, none⟩ = some v4 ∧ W.cell? ⟨g, 5, none⟩ = some v5 ∧ W.cell? ⟨g, 6, none⟩ = some v6 ∧ W.cell? ⟨g, 7, none⟩ = some v7 ∧ W.cell? ⟨g, 8, none⟩ = some v8 ∧ W.cell? ⟨g, 9, none⟩ = some v9 :=
  ⟨h.c 0, h.c 1, h.c 2, h.c 3, h.c 4, h.c 5, h.c 6, h.c 7, h.c 8, h.c 9⟩
theorem Box.f10 {W : World} {g : Nat} {T : TypeId} {cs : List Value} (h : Box W g T cs) :
    W.frozen? ⟨g, 0, none⟩ = false ∧ W.frozen? ⟨g, 1, none⟩ = false ∧ W.frozen? ⟨g, 2, none⟩ = false ∧ W.frozen? ⟨g, 3, none⟩ = false ∧ W.frozen? ⟨g, 4, none⟩ = false ∧ W.frozen? ⟨g, 5, none⟩ = false ∧ W.frozen? ⟨g, 6, none⟩ = false ∧ W.frozen? ⟨g, 7, none⟩ = false ∧ W.frozen? ⟨g, 8, none⟩ = false ∧ W.frozen? ⟨g, 9, none⟩ = false :=
  ⟨h.f 0, h.f 1, h.f 2, h.f 3, h.f 4, h.f 5, h.f 6, h.f 7, h.f 8, h.f 9⟩
theorem below_ownE {w w' : World} {base t : Nat} {v : Value} {n : Nat} {xs : List Value} (hg : w.grownBy w' v.ownBlock) (ho : w.ownsRow base t 1 v n xs) (hb : base ≤ w.heap.size) : Below base w w' :=
  ⟨hg.os, hg.tape, hg.output, hg.size, fun k hk => hg.block k (by omega) (fun e => by have := (ho.lt k e.symm).1; omega)⟩
theorem RowE.far {α : Type} {enc : α → Value} {w : World} {b off n g : Nat} {xs : List α} (h : RowE enc w (some ⟨b, off, none⟩) n xs) (hne : b ≠ g) (i : Nat) (v : Value) : RowE enc (w.setCell ⟨g, i, none⟩ v) (some ⟨b, off, none⟩) n xs := by
  refine ⟨h.len_eq, h.le, fun h0 => ?_⟩
  obtain ⟨b', off', e, hc⟩ := h.cells h0
  injection e with e
  injection e with e1 e2
  subst e1 e2
  exact ⟨b, off, rfl, fun k x hk => by rw [World.cell?_setCell_other _ _ _ _ (by intro e'; simp only [Addr.mk.injEq] at e'; exact hne e'.1.symm)]; exact hc k x hk⟩
theorem Own.far {e : TypeId} {w0 W : World} {g n cap g' : Nat} {xs : List Value} (h : Own e w0 W g n cap xs) (hne : g ≠ g') (hold : w0.heap.size ≤ g') (i : Nat) (v : Value) : Own e w0 (W.setCell ⟨g', i, none⟩ v) g n cap xs := by
  obtain ⟨cur, h1, h2, h3⟩ := h.cur
  refine ⟨⟨cur, ?_, h2, h3⟩, h.len, h.nc, h.cm, h.new, ?_⟩
  · rw [Below.heap_setCell _ _ _ _ hne]; exact h1
  · refine ⟨h.grown.os, h.grown.tape, h.grown.output, ?_, fun k hk hr => ?_⟩
    · simpa [World.setCell] using h.grown.size
    · have hne' : k ≠ g' := by omega
      rw [← h.grown.block k hk hr]
      exact Below.heap_setCell _ _ _ _ hne'
/-- an own row, without what was there before -/
structure Own0 (e : TypeId) (W : World) (g n cap : Nat) (xs : List Value) : Prop where
  cur : ∃ cur : List Value, W.heap[g]? = some (.cells cur.toArray e (0, 0)) ∧ cur.length = cap ∧ cur.take n = xs
  len : xs.length = n
  nc : n ≤ cap
  cm : cap ≤ maxLen
theorem Own.own0 {e : TypeId} {w0 W : World} {g n cap : Nat} {xs : List Value} (h : Own e w0 W g n cap xs) : Own0 e W g n cap xs := ⟨h.cur, h.len, h.nc, h.cm⟩
theorem Own0.set {e : TypeId} {W : World} {g n cap : Nat} {xs : List Value} (h : Own0 e W g n cap xs) (i : Nat) (v : Value) : Own0 e (W.setCell ⟨g, i, none⟩ v) g n cap (xs.set i v) := by
  obtain ⟨cur, h1, h2, h3⟩ := h.cur
  refine ⟨⟨cur.set i v, ?_, by simpa using h2, ?_⟩, by simpa using h.len, h.nc, h.cm⟩
  · rw [setCell_eq_setRow W g i _ _ _ _ h1, setRow_heap W g _ _ _ _ h1]
    simp
  · rw [← h3, List.take_set]
theorem Own0.far {e : TypeId} {W : World} {g n cap g' : Nat} {xs : List Value} (h : Own0 e W g n cap xs) (hne : g ≠ g') (i : Nat) (v : Value) : Own0 e (W.setCell ⟨g', i, none⟩ v) g n cap xs := by
  obtain ⟨cur, h1, h2, h3⟩ := h.cur
  exact ⟨⟨cur, by rw [Below.heap_setCell _ _ _ _ hne]; exact h1, h2, h3⟩, h.len, h.nc, h.cm⟩
theorem Own0.rowE {α : Type} {enc : α → Value} {e : TypeId} {W : World} {g n cap : Nat} {xs : List α} (h : Own0 e W g n cap (xs.map enc)) : RowE enc W (some ⟨g, 0, none⟩) n xs := by
  have hl := h.len
  rw [List.length_map] at hl
  refine ⟨hl, Nat.le_trans h.nc h.cm, fun _ => ⟨g, 0, rfl, fun i x hx => ?_⟩⟩
  have hi : i < n := by rw [← hl]; exact (List.getElem?_eq_some_iff.1 hx).1
  obtain ⟨cur, h1, h2, h3⟩ := h.cur
  simp only [World.cell?, h1]
  have : cur[i]? = some (enc x) := by
    have h4 : (cur.take n)[i]? = (xs.map enc)[i]? := by rw [h3]
    rw [List.getElem?_take, if_pos hi, List.getElem?_map, hx] at h4
    exact h4
  simpa using this
end Go.Proofs.Ytdefcfmnhfeblaa
