/- Rows of whatever values; a variable of several cells in a block of its own. The document's Write. The document's Write, where it writes. The document's Arm. The document's Arm where nothing is torn. The document's Erase, where it erases. The document's New. A flash without memory (Fm), and the document's flash held against it (Rep). -/
import Derived.Deep.RegionHeld3
import Derived.Deep.AppendLies
import Derived.Deep.RegionLaw
import Derived.Deep.RegionWith
import Derived.Deep.OwnRows
import Derived.Test.YtfhgbddeclldnaaN01
namespace Go.Proofs.Ytfhgbddeclldnaa
open Go.RowKit
set_option maxRecDepth 100000
set_option linter.unusedSimpArgs false
set_option linter.unusedVariables false

structure RowE {α : Type} (enc : α → Value) (w : World) (a : Option Addr) (n : Nat) (xs : List α) : Prop where
  len_eq : xs.length = n
  le : n ≤ maxLen
  cells : 0 < n → ∃ b off, a = some ⟨b, off, none⟩ ∧ ∀ i x, xs[i]? = some x → w.cell? ⟨b, off + i, none⟩ = some (enc x)
theorem RowE.below {α : Type} {enc : α → Value} {w w' : World} {a : Option Addr} {n : Nat} {xs : List α} (h : RowE enc w a n xs) (hb : Below w.heap.size w w') : RowE enc w' a n xs := by
  refine ⟨h.len_eq, h.le, fun h0 => ?_⟩
  obtain ⟨b, off, e, hc⟩ := h.cells h0
  exact ⟨b, off, e, fun i x hi => by rw [hb.cell (p := ⟨b, off + i, none⟩) (cell_lt (hc i x hi))]; exact hc i x hi⟩
theorem RowE.grown {α : Type} {enc : α → Value} {w w' : World} {a : Option Addr} {n : Nat} {xs : List α} (h : RowE enc w a n xs) (hg : w.grownBy w' none) : RowE enc w' a n xs := h.below (grown_below hg)
theorem RowE.src {α : Type} {enc : α → Value} {w : World} {ad : Addr} {n : Nat} {xs : List α} (h : RowE enc w (some ad) n xs) : ∀ j u, (xs.map enc)[j]? = some u → w.cell? (ad.add j) = some u := by
  intro j u hj
  rw [List.getElem?_map] at hj
  obtain ⟨x, hx, rfl⟩ := Option.map_eq_some_iff.1 hj
  have h0 : 0 < n := by
    rw [← h.len_eq]
    exact Nat.lt_of_le_of_lt (Nat.zero_le j) (List.getElem?_eq_some_iff.1 hx).1
  obtain ⟨b, off, e, hc⟩ := h.cells h0
  injection e with e
  subst e
  have hadd : (⟨b, off, none⟩ : Addr).add j = ⟨b, off + j, none⟩ := by unfold Addr.add; split <;> simp_all
  rw [hadd]
  exact hc j x hx
/-- 'append' of such a row to an empty one of the call's own -/
theorem wpList_appendE {α : Type} {P : Program} {w : World} {ops : Array Oper} {rest : List Oper} {o : Oper} {a : Act} {Q : Exit → Act → World → Prop} (enc : α → Value) (h1c : ∀ x, (enc x).oneCell' = true) (hgd : o.guard = none) (s x : Operand) (t : TypeId)
    (ho : o.op = .call { callee := .builtin .append, args := #[s, x], argTypes := #[t, t] })
    (base : Nat) (e : TypeId) (i : TypeInfo) (z : Value) (by_ : Nat) (ht : P.underlying t = some (.slice e)) (hi : P.info? e = some i) (hz : i.zero = some z) (hsize : i.size = 1) (hby : i.bytes = by_) (hzc : z.cells.size = 1)
    (v : Value) (n : Nat) (xs : List Value) (hs : a.eval s = v) (hown : w.ownsRow base e 1 v n xs)
    (sa : Option Addr) (m c : Nat) (ys : List α) (hx : a.eval x = .slice sa m c) (R : RowE enc w sa m ys) (hsa : sa ≠ none)
    (hb : n + m ≤ 1000000) (hb2 : by_ ≤ 8) (hbase : base ≤ w.heap.size)
    (h : ∀ v' w', w'.ownsRow base e 1 v' (n + m) (xs ++ ys.map enc) → w.grownBy w' v.ownBlock → wpList P ops Q rest (a.put o.dst v') w') : wpList P ops Q (o :: rest) a w := by
  cases sa with
  | none => exact absurd rfl hsa
  | some ad =>
    refine wpList_append_own w hgd s x t ho base e i z 1 by_ ht hi hz hsize hby hzc (by decide) v n xs hs hown ad m c (ys.map enc) hx (by rw [List.length_map, R.len_eq, Nat.mul_one]) R.src ?_ (by unfold maxLen; omega) ?_ hbase (fun v' w' h1 h2 _ => h v' w' h1 h2)
    · intro u hu
      obtain ⟨y, _, rfl⟩ := List.mem_map.1 hu
      exact h1c y
    · have : (n + m) * by_ ≤ 1000000 * 8 := Nat.mul_le_mul hb hb2
      omega
theorem madeE (w : World) (e : TypeId) : (w.alloc (.cells #[] e)).ownsRow w.heap.size e 1 (.slice (some ⟨w.heap.size, 0, none⟩) 0 0) 0 [] := World.ownsRow_made _ #[] 0 (Nat.le_refl _) (Nat.zero_le _) rfl
theorem Own.rowE {α : Type} {enc : α → Value} {e : TypeId} {w0 W : World} {g n cap : Nat} {xs : List α} (h : Own e w0 W g n cap (xs.map enc)) : RowE enc W (some ⟨g, 0, none⟩) n xs := by
  have hl := h.len
  rw [List.length_map] at hl
  refine ⟨hl, Nat.le_trans h.nc h.cm, fun _ => ⟨g, 0, rfl, fun i x hx => ?_⟩⟩
  have hi : i < n := by rw [← hl]; exact (List.getElem?_eq_some_iff.1 hx).1
  rw [Nat.zero_add, h.cell i hi, List.getElem?_map, hx]; rfl

/-- a variable of several cells -/
structure Box (W : World) (g : Nat) (T : TypeId) (cs : List Value) : Prop where
  blk : W.heap[g]? = some (.cells cs.toArray T (0, 0))
theorem Box.lt {W : World} {g : Nat} {T : TypeId} {cs : List Value} (h : Box W g T cs) : g < W.heap.size := (Array.getElem?_eq_some_iff.1 h.blk).1
theorem Box.c {W : World} {g : Nat} {T : TypeId} {cs : List Value} (h : Box W g T cs) (i : Nat) : W.cell? ⟨g, i, none⟩ = cs[i]? := by simp [World.cell?, h.blk]
theorem Box.f {W : World} {g : Nat} {T : TypeId} {cs : List Value} (h : Box W g T cs) (i : Nat) : W.frozen? ⟨g, i, none⟩ = false := by simp [World.frozen?, h.blk]
theorem Box.set {W : World} {g : Nat} {T : TypeId} {cs : List Value} (h : Box W g T cs) (i : Nat) (v : Value) : Box (W.setCell ⟨g, i, none⟩ v) g T (cs.set i v) := by
  constructor
  rw [setCell_eq_setRow W g i _ _ _ _ h.blk, setRow_heap W g _ _ _ _ h.blk]
  simp
theorem Box.far {W : World} {g g' : Nat} {T : TypeId} {cs : List Value} (h : Box W g T cs) (i : Nat) (v : Value) (hne : g ≠ g') : Box (W.setCell ⟨g', i, none⟩ v) g T cs := by
  constructor
  rw [Below.heap_setCell _ _ _ _ hne]
  exact h.blk
theorem Box.below {W W' : World} {g B : Nat} {T : TypeId} {cs : List Value} (h : Box W g T cs) (hb : Below B W W') (hg : g < B) : Box W' g T cs := ⟨by rw [hb.block g hg]; exact h.blk⟩
theorem Box.grown {W W' : World} {g : Nat} {T : TypeId} {cs : List Value} (h : Box W g T cs) (hg : W.grownBy W' none) : Box W' g T cs := h.below (grown_below hg) h.lt
theorem Box.new (w : World) (T : TypeId) (cs : List Value) : Box (w.alloc (.cells cs.toArray T)) w.heap.size T cs := ⟨heap_alloc_new _ _⟩
theorem Box.c10 {W : World} {g : Nat} {T : TypeId} {v0 v1 v2 v3 v4 v5 v6 v7 v8 v9 : Value} (h : Box W g T [v0, v1, v2, v3, v4, v5, v6, v7, v8, v9]) :
    W.cell? ⟨g, 0, none⟩ = some v0 ∧ W.cell? ⟨g, 1, none⟩ = some v1 ∧ W.cell? ⟨g, 2, none⟩ = some v2 ∧ W.cell? ⟨g, 3, none⟩ = some v3 ∧ W.cell? ⟨g, 4, none⟩ = some v4 ∧ W.cell? ⟨g, 5, none⟩ = some v5 ∧ W.cell? ⟨g, 6, none⟩ = some v6 ∧ W.cell? ⟨g, 7, none⟩ = some v7 ∧ W.cell? ⟨g, 8, none⟩ = some v8 ∧ W.cell? ⟨g, 9, none⟩ = some v9 :=
  ⟨h.c 0, h.c 1, h.c 2, h.c 3, h.c 4, h.c 5, h.c 6, h.c 7, h.c 8, h.c 9⟩
theorem Box.f10 {W : World} {g : Nat} {T : TypeId} {cs : List Value} (h : Box W g T cs) :
    W.frozen? ⟨g, 0, none⟩ = false ∧ W.frozen? ⟨g, 1, none⟩ = false ∧ W.frozen? ⟨g, 2, none⟩ = false ∧ W.frozen? ⟨g, 3, none⟩ = false ∧ W.frozen? ⟨g, 4, none⟩ = false ∧ W.frozen? ⟨g, 5, none⟩ = false ∧ W.frozen? ⟨g, 6, none⟩ = false ∧ W.frozen? ⟨g, 7, none⟩ = false ∧ W.frozen? ⟨g, 8, none⟩ = false ∧ W.frozen? ⟨g, 9, none⟩ = false :=
  ⟨h.f 0, h.f 1, h.f 2, h.f 3, h.f 4, h.f 5, h.f 6, h.f 7, h.f 8, h.f 9⟩
theorem below_ownE {w w' : World} {base t : Nat} {v : Value} {n : Nat} {xs : List Value} (hg : w.grownBy w' v.ownBlock) (ho : w.ownsRow base t 1 v n xs) (hb : base ≤ w.heap.size) : Below base w w' :=
  ⟨hg.os, hg.tape, hg.output, hg.size, fun k hk => hg.block k (by omega) (fun e => by have := (ho.lt k e.symm).1; omega)⟩
theorem RowE.far {α : Type} {enc : α → Value} {w : World} {b off n g : Nat} {xs : List α} (h : RowE enc w (some ⟨b, off, none⟩) n xs) (hne : b ≠ g) (i : Nat) (v : Value) : RowE enc (w.setCell ⟨g, i, none⟩ v) (some ⟨b, off, none⟩) n xs := by
  refine ⟨h.len_eq, h.le, fun h0 => ?_⟩
  obtain ⟨b', off', e, hc⟩ := h.cells h0
  injection e with e
  injection e with e1 e2
  subst e1 e2
  exact ⟨b, off, rfl, fun k x hk => by rw [World.cell?_setCell_other _ _ _ _ (by intro e'; simp only [Addr.mk.injEq] at e'; exact hne e'.1.symm)]; exact hc k x hk⟩
theorem Own.far {e : TypeId} {w0 W : World} {g n cap g' : Nat} {xs : List Value} (h : Own e w0 W g n cap xs) (hne : g ≠ g') (hold : w0.heap.size ≤ g') (i : Nat) (v : Value) : Own e w0 (W.setCell ⟨g', i, none⟩ v) g n cap xs := by
  obtain ⟨cur, h1, h2, h3⟩ := h.cur
  refine ⟨⟨cur, ?_, h2, h3⟩, h.len, h.nc, h.cm, h.new, ?_⟩
  · rw [Below.heap_setCell _ _ _ _ hne]; exact h1
  · refine ⟨h.grown.os, h.grown.tape, h.grown.output, ?_, fun k hk hr => ?_⟩
    · simpa [World.setCell] using h.grown.size
    · have hne' : k ≠ g' := by omega
      rw [← h.grown.block k hk hr]
      exact Below.heap_setCell _ _ _ _ hne'
/-- an own row, without what was there before -/
structure Own0 (e : TypeId) (W : World) (g n cap : Nat) (xs : List Value) : Prop where
  cur : ∃ cur : List Value, W.heap[g]? = some (.cells cur.toArray e (0, 0)) ∧ cur.length = cap ∧ cur.take n = xs
  len : xs.length = n
  nc : n ≤ cap
  cm : cap ≤ maxLen
theorem Own.own0 {e : TypeId} {w0 W : World} {g n cap : Nat} {xs : List Value} (h : Own e w0 W g n cap xs) : Own0 e W g n cap xs := ⟨h.cur, h.len, h.nc, h.cm⟩
theorem Own0.set {e : TypeId} {W : World} {g n cap : Nat} {xs : List Value} (h : Own0 e W g n cap xs) (i : Nat) (v : Value) : Own0 e (W.setCell ⟨g, i, none⟩ v) g n cap (xs.set i v) := by
  obtain ⟨cur, h1, h2, h3⟩ := h.cur
  refine ⟨⟨cur.set i v, ?_, by simpa using h2, ?_⟩, by simpa using h.len, h.nc, h.cm⟩
  · rw [setCell_eq_setRow W g i _ _ _ _ h1, setRow_heap W g _ _ _ _ h1]
    simp
  · rw [← h3, List.take_set]
theorem Own0.far {e : TypeId} {W : World} {g n cap g' : Nat} {xs : List Value} (h : Own0 e W g n cap xs) (hne : g ≠ g') (i : Nat) (v : Value) : Own0 e (W.setCell ⟨g', i, none⟩ v) g n cap xs := by
  obtain ⟨cur, h1, h2, h3⟩ := h.cur
  exact ⟨⟨cur, by rw [Below.heap_setCell _ _ _ _ hne]; exact h1, h2, h3⟩, h.len, h.nc, h.cm⟩
theorem Own0.rowE {α : Type} {enc : α → Value} {e : TypeId} {W : World} {g n cap : Nat} {xs : List α} (h : Own0 e W g n cap (xs.map enc)) : RowE enc W (some ⟨g, 0, none⟩) n xs := by
  have hl := h.len
  rw [List.length_map] at hl
  refine ⟨hl, Nat.le_trans h.nc h.cm, fun _ => ⟨g, 0, rfl, fun i x hx => ?_⟩⟩
  have hi : i < n := by rw [← hl]; exact (List.getElem?_eq_some_iff.1 hx).1
  obtain ⟨cur, h1, h2, h3⟩ := h.cur
  simp only [World.cell?, h1]
  have : cur[i]? = some (enc x) := by
    have h4 : (cur.take n)[i]? = (xs.map enc)[i]? := by rw [h3]
    rw [List.getElem?_take, if_pos hi, List.getElem?_map, hx] at h4
    exact h4
  simpa using this
end Go.Proofs.Ytfhgbddeclldnaa

namespace Go.Proofs.Ytfhgbddeclldnaa
open Go.RowKit
set_option maxRecDepth 100000
set_option linter.unusedSimpArgs false
set_option linter.unusedVariables false

/-- the error that the document's Write tells ahead of all -/
def wrE (nD : Nat) (by_ : Int) (off : Bool) (D : List Bool) (page : Int) (l2 : Nat) : Int := if page < 0 ∨ (nD : Int) ≤ page then 9 else if by_ < l2 then 2 else if off then 40 else if D.getD page.toNat false then 41 else 0
end Go.Proofs.Ytfhgbddeclldnaa

namespace Go.Proofs.Ytfhgbddeclldnaa
open Go.RowKit
set_option maxRecDepth 100000
set_option linter.unusedSimpArgs false
set_option linter.unusedVariables false

/-- behind the two variables' making: what is there besides w -/
structure WS (T : TypeId) (w W : World) (g : Nat) (cs ds : List Value) : Prop where
  gr : w.grownBy W none
  b1 : Box W g T cs
  b2 : Box W (g + 1) T ds
  sz : g + 1 + 1 ≤ W.heap.size
  eg : w.heap.size = g
theorem WS.below {T : TypeId} {w W W' : World} {g : Nat} {cs ds : List Value} (h : WS T w W g cs ds) (hb : Below (g + 1 + 1) W W') : WS T w W' g cs ds := by
  have hg := h.gr; have he := h.eg
  refine ⟨⟨hb.os.trans hg.os, hb.tape.trans hg.tape, hb.output.trans hg.output, Nat.le_trans hg.size hb.size, fun k hk hr => ?_⟩, h.b1.below hb (by omega), h.b2.below hb (by omega), Nat.le_trans h.sz hb.size, he⟩
  rw [hb.block k (by omega)]; exact hg.block k hk hr
theorem WS.grown {T : TypeId} {w W W' : World} {g : Nat} {cs ds : List Value} (h : WS T w W g cs ds) (hb : W.grownBy W' none) : WS T w W' g cs ds := h.below ((grown_below hb).mono h.sz)
theorem WS.set1 {T : TypeId} {w W : World} {g : Nat} {cs ds : List Value} (h : WS T w W g cs ds) (i : Nat) (v : Value) : WS T w (W.setCell ⟨g, i, none⟩ v) g (cs.set i v) ds := by
  have hg := h.gr; have he := h.eg
  refine ⟨⟨hg.os, hg.tape, hg.output, by simpa [World.setCell] using hg.size, fun k hk hr => ?_⟩, h.b1.set i v, h.b2.far i v (by omega), by simpa [World.setCell] using h.sz, he⟩
  rw [← hg.block k hk hr]
  have hne : k ≠ g := by omega
  exact Below.heap_setCell _ _ _ _ hne
theorem WS.set2 {T : TypeId} {w W : World} {g : Nat} {cs ds : List Value} (h : WS T w W g cs ds) (i : Nat) (v : Value) : WS T w (W.setCell ⟨g + 1, i, none⟩ v) g cs (ds.set i v) := by
  have hg := h.gr; have he := h.eg
  refine ⟨⟨hg.os, hg.tape, hg.output, by simpa [World.setCell] using hg.size, fun k hk hr => ?_⟩, h.b1.far i v (by omega), h.b2.set i v, by simpa [World.setCell] using h.sz, he⟩
  rw [← hg.block k hk hr]
  have hne : k ≠ g + 1 := by omega
  exact Below.heap_setCell _ _ _ _ hne

theorem WS.farD {T : TypeId} {w W : World} {g g' : Nat} {cs ds : List Value} (h : WS T w W g cs ds) (h' : g + 1 + 1 ≤ g') (i : Nat) (v : Value) : WS T w (W.setCell ⟨g', i, none⟩ v) g cs ds := by
  have hg := h.gr; have he := h.eg
  refine ⟨⟨hg.os, hg.tape, hg.output, by simpa [World.setCell] using hg.size, fun k hk hr => ?_⟩, h.b1.far i v (by omega), h.b2.far i v (by omega), by simpa [World.setCell] using h.sz, he⟩
  rw [← hg.block k hk hr]
  have hne : k ≠ g' := by omega
  exact Below.heap_setCell _ _ _ _ hne
theorem WS.store10 {T : TypeId} {w W : World} {g : Nat} {ds : List Value} {x0 x1 x2 x3 x4 x5 x6 x7 x8 x9 : Value} (h : WS T w W g [x0, x1, x2, x3, x4, x5, x6, x7, x8, x9] ds) (y0 y1 y2 y3 y4 y5 y6 y7 y8 y9 : Value) : WS T w ((((((((((W.setCell ⟨g, 0, none⟩ y0).setCell ⟨g, 1, none⟩ y1).setCell ⟨g, 2, none⟩ y2).setCell ⟨g, 3, none⟩ y3).setCell ⟨g, 4, none⟩ y4).setCell ⟨g, 5, none⟩ y5).setCell ⟨g, 6, none⟩ y6).setCell ⟨g, 7, none⟩ y7).setCell ⟨g, 8, none⟩ y8).setCell ⟨g, 9, none⟩ y9) g [y0, y1, y2, y3, y4, y5, y6, y7, y8, y9] ds := ((((((((((h.set1 0 y0).set1 1 y1).set1 2 y2).set1 3 y3).set1 4 y4).set1 5 y5).set1 6 y6).set1 7 y7).set1 8 y8).set1 9 y9)
theorem WS.store10' {T : TypeId} {w W : World} {g : Nat} {cs : List Value} {x0 x1 x2 x3 x4 x5 x6 x7 x8 x9 : Value} (h : WS T w W g cs [x0, x1, x2, x3, x4, x5, x6, x7, x8, x9]) (y0 y1 y2 y3 y4 y5 y6 y7 y8 y9 : Value) : WS T w ((((((((((W.setCell ⟨g + 1, 0, none⟩ y0).setCell ⟨g + 1, 1, none⟩ y1).setCell ⟨g + 1, 2, none⟩ y2).setCell ⟨g + 1, 3, none⟩ y3).setCell ⟨g + 1, 4, none⟩ y4).setCell ⟨g + 1, 5, none⟩ y5).setCell ⟨g + 1, 6, none⟩ y6).setCell ⟨g + 1, 7, none⟩ y7).setCell ⟨g + 1, 8, none⟩ y8).setCell ⟨g + 1, 9, none⟩ y9) g cs [y0, y1, y2, y3, y4, y5, y6, y7, y8, y9] := ((((((((((h.set2 0 y0).set2 1 y1).set2 2 y2).set2 3 y3).set2 4 y4).set2 5 y5).set2 6 y6).set2 7 y7).set2 8 y8).set2 9 y9)
theorem Row.far {w : World} {b off n g : Nat} {xs : List Int} (h : Row w (some ⟨b, off, none⟩) n xs) (hne : b ≠ g) (i : Nat) (v : Value) : Row (w.setCell ⟨g, i, none⟩ v) (some ⟨b, off, none⟩) n xs := by
  refine ⟨h.len_eq, h.le, h.byt, fun h0 => ?_⟩
  obtain ⟨b', off', e, hc⟩ := h.cells h0
  injection e with e
  injection e with e1 e2
  subst e1 e2
  exact ⟨b, off, rfl, fun k hk => by rw [World.cell?_setCell_other _ _ _ _ (by intro e'; simp only [Addr.mk.injEq] at e'; exact hne e'.1.symm)]; exact hc k hk⟩
/-- what the document's Write answers where it writes -/
def RwPost (w : World) (s p : Int) (bn lB : Nat) (Bn : List Int) (lD : Nat) (Dn : List Bool) (aW : Option Addr) (lW cW : Nat) (ops : Int) (bad : Bool) (af : Int) (aT : Option Addr) (lT cT : Nat) (e : Ending) (w' : World) : Prop :=
  ∃ bb bo cB db dof cD, e = .returned (.tuple #[.agg #[.int .i64 s, .int .i64 p, .int .i64 bn, .slice (some ⟨bb, bo, none⟩) lB cB, .slice (some ⟨db, dof, none⟩) lD cD, .slice aW lW cW, .int .i64 ops, .bool bad, .int .i64 af, .slice aT lT cT], .int .i64 (if bad then 40 else 0)]) ∧ Row w' (some ⟨bb, bo, none⟩) lB Bn ∧ lB ≤ cB ∧ cB ≤ maxLen ∧ RowE Value.bool w' (some ⟨db, dof, none⟩) lD Dn ∧ w.grownBy w' none ∧ w.heap.size ≤ bb ∧ w.heap.size ≤ db
def ffs (n : Nat) : List Int := List.replicate n 255
theorem ffs_byt (n : Nat) : Byt (ffs n) := fun x hx => by rw [(List.mem_replicate.1 hx).2]; decide
theorem ffs_snoc (n : Nat) : ffs (n + 1) = ffs n ++ [255] := by unfold ffs; rw [List.replicate_succ']
theorem Try.info4 : (Try.prog.info? 4).map (fun i => (i.zero, i.size, i.bytes)) = some (some (.bool false), 1, 1) := by kernel_rfl
def slLen : Value → Nat
  | .slice _ n _ => n
  | _ => 0
end Go.Proofs.Ytfhgbddeclldnaa

namespace Go.Proofs.Ytfhgbddeclldnaa
open Go.RowKit
set_option maxRecDepth 100000
set_option linter.unusedSimpArgs false
set_option linter.unusedVariables false

/-- behind the three variables' making -/
structure WA (T C : TypeId) (w W : World) (g : Nat) (cs es ds : List Value) : Prop where
  gr : w.grownBy W none
  b0 : Box W g T cs
  b1 : Box W (g + 1) C es
  b2 : Box W (g + 1 + 1) T ds
  sz : g + 1 + 1 + 1 ≤ W.heap.size
  eg : w.heap.size = g
theorem wa_made (T C : TypeId) (w : World) (cs es ds : List Value) : WA T C w (((w.alloc (.cells cs.toArray T)).alloc (.cells es.toArray C)).alloc (.cells ds.toArray T)) w.heap.size cs es ds := by
  refine ⟨grown_trans (grown2 _ _ _) (World.grownBy_alloc _ _ _), ((Box.new w T cs).grown (World.grownBy_alloc _ _ _)).grown (World.grownBy_alloc _ _ _), ?_, ?_, by simp, rfl⟩
  · have h0 := Box.new (w.alloc (.cells cs.toArray T)) C es
    rw [show (w.alloc (.cells cs.toArray T)).heap.size = w.heap.size + 1 by simp] at h0
    exact h0.grown (World.grownBy_alloc _ _ _)
  · have h0 := Box.new ((w.alloc (.cells cs.toArray T)).alloc (.cells es.toArray C)) T ds
    rw [show ((w.alloc (.cells cs.toArray T)).alloc (.cells es.toArray C)).heap.size = w.heap.size + 1 + 1 by simp] at h0
    exact h0
theorem wa_size (T C : TypeId) (w : World) (cs es ds : List Value) : (((w.alloc (.cells cs.toArray T)).alloc (.cells es.toArray C)).alloc (.cells ds.toArray T)).heap.size = w.heap.size + 1 + 1 + 1 := by simp
theorem WA.below {T C : TypeId} {w W W' : World} {g : Nat} {cs es ds : List Value} (h : WA T C w W g cs es ds) (hb : Below (g + 1 + 1 + 1) W W') : WA T C w W' g cs es ds := by
  have hg := h.gr; have he := h.eg
  refine ⟨⟨hb.os.trans hg.os, hb.tape.trans hg.tape, hb.output.trans hg.output, Nat.le_trans hg.size hb.size, fun k hk hr => ?_⟩, h.b0.below hb (by omega), h.b1.below hb (by omega), h.b2.below hb (by omega), Nat.le_trans h.sz hb.size, he⟩
  rw [hb.block k (by omega)]; exact hg.block k hk hr
theorem WA.set0 {T C : TypeId} {w W : World} {g : Nat} {cs es ds : List Value} (h : WA T C w W g cs es ds) (i : Nat) (v : Value) : WA T C w (W.setCell ⟨g, i, none⟩ v) g (cs.set i v) es ds := by
  have hg := h.gr; have he := h.eg
  refine ⟨⟨hg.os, hg.tape, hg.output, by simpa [World.setCell] using hg.size, fun k hk hr => ?_⟩, h.b0.set i v, h.b1.far i v (by omega), h.b2.far i v (by omega), by simpa [World.setCell] using h.sz, he⟩
  rw [← hg.block k hk hr]
  have hne : k ≠ g := by omega
  exact Below.heap_setCell _ _ _ _ hne
theorem WA.set2 {T C : TypeId} {w W : World} {g : Nat} {cs es ds : List Value} (h : WA T C w W g cs es ds) (i : Nat) (v : Value) : WA T C w (W.setCell ⟨g + 1 + 1, i, none⟩ v) g cs es (ds.set i v) := by
  have hg := h.gr; have he := h.eg
  refine ⟨⟨hg.os, hg.tape, hg.output, by simpa [World.setCell] using hg.size, fun k hk hr => ?_⟩, h.b0.far i v (by omega), h.b1.far i v (by omega), h.b2.set i v, by simpa [World.setCell] using h.sz, he⟩
  rw [← hg.block k hk hr]
  have hne : k ≠ g + 1 + 1 := by omega
  exact Below.heap_setCell _ _ _ _ hne
theorem WA.store10 {T C : TypeId} {w W : World} {g : Nat} {cs es : List Value} {x0 x1 x2 x3 x4 x5 x6 x7 x8 x9 : Value} (h : WA T C w W g cs es [x0, x1, x2, x3, x4, x5, x6, x7, x8, x9]) (y0 y1 y2 y3 y4 y5 y6 y7 y8 y9 : Value) : WA T C w ((((((((((W.setCell ⟨g + 1 + 1, 0, none⟩ y0).setCell ⟨g + 1 + 1, 1, none⟩ y1).setCell ⟨g + 1 + 1, 2, none⟩ y2).setCell ⟨g + 1 + 1, 3, none⟩ y3).setCell ⟨g + 1 + 1, 4, none⟩ y4).setCell ⟨g + 1 + 1, 5, none⟩ y5).setCell ⟨g + 1 + 1, 6, none⟩ y6).setCell ⟨g + 1 + 1, 7, none⟩ y7).setCell ⟨g + 1 + 1, 8, none⟩ y8).setCell ⟨g + 1 + 1, 9, none⟩ y9) g cs es [y0, y1, y2, y3, y4, y5, y6, y7, y8, y9] := ((((((((((h.set2 0 y0).set2 1 y1).set2 2 y2).set2 3 y3).set2 4 y4).set2 5 y5).set2 6 y6).set2 7 y7).set2 8 y8).set2 9 y9)
/-- what the document's Arm answers where it arms -/
def RaPost (w : World) (s p b : Int) (aB : Option Addr) (lB cB : Nat) (aD : Option Addr) (lD cD : Nat) (aW : Option Addr) (lW cW : Nat) (ops n : Int) (l2 : Nat) (ts : List Int) (e : Ending) (w' : World) : Prop :=
  ∃ tb cT, e = .returned (.tuple #[.agg #[.int .i64 s, .int .i64 p, .int .i64 b, .slice aB lB cB, .slice aD lD cD, .slice aW lW cW, .int .i64 ops, .bool false, .int .i64 n, .slice (some ⟨tb, 0, none⟩) l2 cT], .int .i64 0]) ∧ Row w' (some ⟨tb, 0, none⟩) l2 ts ∧ l2 ≤ cT ∧ cT ≤ maxLen ∧ w.grownBy w' none ∧ w.heap.size ≤ tb
theorem arm_below {W w1 : World} {g : Nat} (hs : W.heap.size = g + 1 + 1 + 1) (hg : (W.alloc (.cells #[] 5)).drew.grownBy w1 (Value.slice (some ⟨g + 1 + 1 + 1, 0, none⟩) 0 0).ownBlock) : Below (g + 1 + 1 + 1) W w1 := by
  have hm : (W.alloc (.cells #[] 5)).drew.ownsRow W.heap.size 5 1 (.slice (some ⟨W.heap.size, 0, none⟩) 0 0) 0 [] := made8 W
  rw [hs] at hm
  have h1 : Below (g + 1 + 1 + 1) W (W.alloc (.cells #[] 5)).drew := by
    have := (grown_below (World.grownBy_alloc W (.cells #[] 5) none))
    rw [hs] at this
    exact ⟨this.os, this.tape, this.output, this.size, this.block⟩
  exact h1.trans (below_own hg hm (by simp; omega))
/-- the error that the document's Arm tells -/
def arE (n : Int) (off : Bool) : Int := if n < 1 then 1 else if off then 40 else 0
end Go.Proofs.Ytfhgbddeclldnaa

namespace Go.Proofs.Ytfhgbddeclldnaa
open Go.RowKit
set_option maxRecDepth 100000
set_option linter.unusedSimpArgs false
set_option linter.unusedVariables false

theorem step_append_nothing {P : Program} {ops : Array Oper} {o : Oper} {a : Act} {w : World} {K : Act → World → Prop} {Q : Exit → Act → World → Prop} {E : Prop}
    (hg : o.guard = none) (s x : Operand) (t : TypeId) (hop : o.op = Op.call { callee := Callee.builtin Builtin.append, args := #[s, x], argTypes := #[t, t] })
    (i : TypeInfo) (h1 : P.underlying t = some (.slice 5)) (h2 : P.info? 5 = some i) (h4 : i.size = 1)
    (g : Nat) (hs : a.eval s = .slice (some ⟨g, 0, none⟩) 0 0)
    (a2 : Option Addr) (c : Nat) (hnil : a2 = none → c = 0) (hx : a.eval x = .slice a2 0 c)
    (hK : ∀ w', w' = w → K (a.put o.dst (.slice (some ⟨g, 0, none⟩) 0 0)) w') :
    if Region.wanted o (yielded ops a.tmps) = true then Oper.wp P o a w K Q else E := by
  cases a2 with
  | some ad =>
    refine step_append_room hg s x t hop 5 i 1 h1 h2 h4 g 0 0 0 hs ad 0 c [] hx (by simp) (fun j u hj => by simp at hj) (fun u hu => by cases hu) (Nat.le_refl _) (fun j hj => by simp at hj) ?_
    exact hK _ (by simp [World.setCells])
  | none =>
    obtain rfl := hnil rfl
    have hw : Region.wanted o (yielded ops a.tmps) = true := by simp [Region.wanted, hg]
    rw [if_pos hw]
    have hrun : (Builtin.append_ #[t, t] o.type #[.slice (some ⟨g, 0, none⟩) 0 0, .slice none 0 0]).run P w = .ok (.slice (some ⟨g, 0, none⟩) 0 0) w := by
      simp [Builtin.append_, run_underlying h1, sizeOf, typeInfo, h2, Builtin.lenOf, Builtin.firstCells, storeCells]
    unfold Oper.wp
    simp [execOp, hop, resolve, invoke, builtin, hs, hx, hrun, Result.andThen]
    exact hK _ rfl
end Go.Proofs.Ytfhgbddeclldnaa

namespace Go.Proofs.Ytfhgbddeclldnaa
open Go.RowKit
set_option maxRecDepth 100000
set_option linter.unusedSimpArgs false
set_option linter.unusedVariables false

/-- the error that the document's Erase tells ahead of all -/
def erE (nW : Nat) (off : Bool) (sector : Int) : Int := if sector < 0 ∨ (nW : Int) ≤ sector then 9 else if off then 40 else 0
/-- what the document's Erase answers where it erases -/
def RePost (w : World) (s : Int) (pn bn lB : Nat) (Bn : List Int) (lD : Nat) (Dn : List Bool) (lW : Nat) (Wn : List Int) (ops : Int) (bad : Bool) (af : Int) (aT : Option Addr) (lT cT : Nat) (e : Ending) (w' : World) : Prop :=
  ∃ bb bo cB db dof cD wb wof cW, e = .returned (.tuple #[.agg #[.int .i64 s, .int .i64 pn, .int .i64 bn, .slice (some ⟨bb, bo, none⟩) lB cB, .slice (some ⟨db, dof, none⟩) lD cD, .slice (some ⟨wb, wof, none⟩) lW cW, .int .i64 ops, .bool bad, .int .i64 af, .slice aT lT cT], .int .i64 (if bad then 40 else 0)]) ∧ Row w' (some ⟨bb, bo, none⟩) lB Bn ∧ lB ≤ cB ∧ cB ≤ maxLen ∧ RowE Value.bool w' (some ⟨db, dof, none⟩) lD Dn ∧ RowE (Value.int .i64) w' (some ⟨wb, wof, none⟩) lW Wn ∧ w.grownBy w' none ∧ w.heap.size ≤ bb ∧ w.heap.size ≤ db ∧ w.heap.size ≤ wb
theorem Try.info3 : (Try.prog.info? 3).map (fun i => (i.zero, i.size, i.bytes)) = some (some (.int .i64 0), 1, 8) := by kernel_rfl
theorem Own0.lt {e : TypeId} {W : World} {g n cap : Nat} {xs : List Value} (h : Own0 e W g n cap xs) : g < W.heap.size := by
  obtain ⟨cur, h1, _⟩ := h.cur
  exact (Array.getElem?_eq_some_iff.1 h1).1
theorem Own0.below {e : TypeId} {W W' : World} {g n cap B : Nat} {xs : List Value} (h : Own0 e W g n cap xs) (hb : Below B W W') (hg : g < B) : Own0 e W' g n cap xs := by
  obtain ⟨cur, h1, h2, h3⟩ := h.cur
  exact ⟨⟨cur, by rw [hb.block g hg]; exact h1, h2, h3⟩, h.len, h.nc, h.cm⟩
/-- the pages from a on, k of them, set -/
def drg (D : List Bool) (a : Nat) (b : Bool) (k : Nat) : List Bool := D.take a ++ List.replicate k b ++ D.drop (a + k)
theorem drg_zero (D : List Bool) (a : Nat) (b : Bool) : drg D a b 0 = D := by simp [drg]
theorem drg_len {D : List Bool} {a k : Nat} (b : Bool) (h : a + k ≤ D.length) : (drg D a b k).length = D.length := by simp [drg]; omega
theorem drg_step {D : List Bool} {a k : Nat} (b : Bool) (h : a + k < D.length) : (drg D a b k).set (a + k) b = drg D a b (k + 1) := by
  unfold drg
  rw [List.set_append_right _ _ (by simp; omega)]
  have e : a + k - (D.take a ++ List.replicate k b).length = 0 := by simp; omega
  rw [e, List.drop_eq_getElem_cons h, List.set_cons_zero, List.replicate_succ']
  simp [Nat.add_assoc]
theorem slice_run (bb bo lB cB q j : Nat) (W : World) (h1 : ¬ cB = q) (h2 : (q : Int) + (j : Int) ≤ (cB : Int)) : Sem.run Try.prog (Instr.sliceAt 27 (.slice (some ⟨bb, bo, none⟩) lB cB) (some (.int .i64 q)) (some (.int .i64 ((q : Int) + (j : Int)))) none) W = .ok (.slice (some ⟨bb, bo + q, none⟩) j (cB - q)) W := by
  have e1 : ((q : Int) + (j : Int)).toNat = q + j := by omega
  have e2 : q + j - q = j := by omega
  rw [run_sliceAt_slice W 27 _ _ _ _ (by kernel_rfl), run_slice_lh W 27 _ _ _ (by kernel_rfl) .i64 .i64 _ _ (by omega) (by omega) h2]
  simp [go_sem, sliced, h1, e1, e2, Addr.add]
end Go.Proofs.Ytfhgbddeclldnaa

namespace Go.Proofs.Ytfhgbddeclldnaa
open Go.RowKit
set_option maxRecDepth 100000
set_option linter.unusedSimpArgs false
set_option linter.unusedVariables false

structure WN0 (C T : TypeId) (w W : World) (g : Nat) (cs ds : List Value) : Prop where
  gr : w.grownBy W none
  b0 : Box W g C cs
  b1 : Box W (g + 1) T ds
  sz : W.heap.size = g + 1 + 1
  eg : w.heap.size = g
theorem wn_made (C T : TypeId) (w : World) (cs ds : List Value) : WN0 C T w ((w.alloc (.cells cs.toArray C)).alloc (.cells ds.toArray T)) w.heap.size cs ds := by
  refine ⟨grown2 _ _ _, (Box.new w C cs).grown (World.grownBy_alloc _ _ _), ?_, by simp, rfl⟩
  have h0 := Box.new (w.alloc (.cells cs.toArray C)) T ds
  rw [show (w.alloc (.cells cs.toArray C)).heap.size = w.heap.size + 1 by simp] at h0
  exact h0
theorem made_list (z : Value) (n : Nat) : madeCells #[z] n = (List.replicate n z).toArray := by rw [← toList_madeCells_one]
theorem own_farc {w : World} {base g' e size n : Nat} {v : Value} {xs : List Value} (h : w.ownsRow base e size v n xs) (hg : g' < base) (i : Nat) (u : Value) : (w.setCell ⟨g', i, none⟩ u).ownsRow base e size v n xs := by
  refine ⟨h.1, ?_⟩
  rcases h.2 with h0 | ⟨g, cap, cur, e1, e2, e3, e4⟩
  · exact Or.inl h0
  · exact Or.inr ⟨g, cap, cur, e1, e2, by rw [Below.heap_setCell _ _ _ _ (show g ≠ g' by omega)]; exact e3, e4⟩
/-- behind the making of New's variables -/
structure WN (C T : TypeId) (w W : World) (g B gf gd gw : Nat) (cs ds fs : List Value) (q s : Nat) : Prop where
  gr : w.grownBy W none
  b0 : Box W g C cs
  b1 : Box W (g + 1) T ds
  bf : Box W gf T fs
  rd : Own0 4 W gd q q (List.replicate q (.bool false))
  rw : Own0 3 W gw s s (List.replicate s (.int .i64 0))
  eg : w.heap.size = g
  o : g + 1 < gf ∧ g + 1 < gd ∧ g + 1 < gw ∧ gf < B ∧ gd < B ∧ gw < B ∧ gf ≠ gd ∧ gf ≠ gw ∧ gd ≠ gw
  sz : B ≤ W.heap.size
theorem WN.below {C T : TypeId} {w W W' : World} {g B gf gd gw : Nat} {cs ds fs : List Value} {q s : Nat} (h : WN C T w W g B gf gd gw cs ds fs q s) (hb : Below B W W') : WN C T w W' g B gf gd gw cs ds fs q s := by
  have hg := h.gr; have he := h.eg; have o := h.o
  refine ⟨⟨hb.os.trans hg.os, hb.tape.trans hg.tape, hb.output.trans hg.output, Nat.le_trans hg.size hb.size, fun k hk hr => ?_⟩, h.b0.below hb (by omega), h.b1.below hb (by omega), h.bf.below hb (by omega), h.rd.below hb (by omega), h.rw.below hb (by omega), he, o, Nat.le_trans h.sz hb.size⟩
  rw [hb.block k (by omega)]; exact hg.block k hk hr
theorem WN.setf {C T : TypeId} {w W : World} {g B gf gd gw : Nat} {cs ds fs : List Value} {q s : Nat} (h : WN C T w W g B gf gd gw cs ds fs q s) (i : Nat) (v : Value) : WN C T w (W.setCell ⟨gf, i, none⟩ v) g B gf gd gw cs ds (fs.set i v) q s := by
  have hg := h.gr; have he := h.eg; have o := h.o
  refine ⟨⟨hg.os, hg.tape, hg.output, by simpa [World.setCell] using hg.size, fun k hk hr => ?_⟩, h.b0.far i v (by omega), h.b1.far i v (by omega), h.bf.set i v, h.rd.far (by omega) i v, h.rw.far (by omega) i v, he, o, by simpa [World.setCell] using h.sz⟩
  rw [← hg.block k hk hr]
  have hne : k ≠ gf := by omega
  exact Below.heap_setCell _ _ _ _ hne
theorem WN.set1 {C T : TypeId} {w W : World} {g B gf gd gw : Nat} {cs ds fs : List Value} {q s : Nat} (h : WN C T w W g B gf gd gw cs ds fs q s) (i : Nat) (v : Value) : WN C T w (W.setCell ⟨g + 1, i, none⟩ v) g B gf gd gw cs (ds.set i v) fs q s := by
  have hg := h.gr; have he := h.eg; have o := h.o
  refine ⟨⟨hg.os, hg.tape, hg.output, by simpa [World.setCell] using hg.size, fun k hk hr => ?_⟩, h.b0.far i v (by omega), h.b1.set i v, h.bf.far i v (by omega), h.rd.far (by omega) i v, h.rw.far (by omega) i v, he, o, by simpa [World.setCell] using h.sz⟩
  rw [← hg.block k hk hr]
  have hne : k ≠ g + 1 := by omega
  exact Below.heap_setCell _ _ _ _ hne
theorem WN.store10 {C T : TypeId} {w W : World} {g B gf gd gw : Nat} {cs fs : List Value} {q s : Nat} {x0 x1 x2 x3 x4 x5 x6 x7 x8 x9 : Value} (h : WN C T w W g B gf gd gw cs [x0, x1, x2, x3, x4, x5, x6, x7, x8, x9] fs q s) (y0 y1 y2 y3 y4 y5 y6 y7 y8 y9 : Value) : WN C T w ((((((((((W.setCell ⟨g + 1, 0, none⟩ y0).setCell ⟨g + 1, 1, none⟩ y1).setCell ⟨g + 1, 2, none⟩ y2).setCell ⟨g + 1, 3, none⟩ y3).setCell ⟨g + 1, 4, none⟩ y4).setCell ⟨g + 1, 5, none⟩ y5).setCell ⟨g + 1, 6, none⟩ y6).setCell ⟨g + 1, 7, none⟩ y7).setCell ⟨g + 1, 8, none⟩ y8).setCell ⟨g + 1, 9, none⟩ y9) g B gf gd gw cs [y0, y1, y2, y3, y4, y5, y6, y7, y8, y9] fs q s := ((((((((((h.set1 0 y0).set1 1 y1).set1 2 y2).set1 3 y3).set1 4 y4).set1 5 y5).set1 6 y6).set1 7 y7).set1 8 y8).set1 9 y9)
/-- three blocks made in one statement -/
theorem three {W : World} {g : Nat} (sz : W.heap.size = g + 1 + 1) (X Y Z : Obj) : ((((W.alloc X).alloc Y).alloc Z).drew).heap[g + 1 + 1]? = some X ∧ ((((W.alloc X).alloc Y).alloc Z).drew).heap[g + 1 + 1 + 1]? = some Y ∧ ((((W.alloc X).alloc Y).alloc Z).drew).heap[g + 1 + 1 + 1 + 1]? = some Z ∧ Below (g + 1 + 1) W (((W.alloc X).alloc Y).alloc Z).drew ∧ g + 1 + 1 + 1 + 1 + 1 ≤ ((((W.alloc X).alloc Y).alloc Z).drew).heap.size := by
  have hX : (W.alloc X).heap.size = g + 1 + 1 + 1 := by simp [sz]
  have hY : ((W.alloc X).alloc Y).heap.size = g + 1 + 1 + 1 + 1 := by simp [sz]
  have h1 := heap_alloc_new W X
  have h2 := heap_alloc_new (W.alloc X) Y
  have h3 := heap_alloc_new ((W.alloc X).alloc Y) Z
  rw [sz] at h1
  rw [hX] at h2
  rw [hY] at h3
  have g2 := World.grownBy_alloc (W.alloc X) Y none
  have g3 := World.grownBy_alloc ((W.alloc X).alloc Y) Z none
  have gA := grown_trans (World.grownBy_alloc W X none) (grown_trans g2 g3)
  refine ⟨?_, ?_, h3, ?_, ?_⟩
  · rw [← h1, ← g2.block (g + 1 + 1) (by omega) (by simp)]; exact g3.block (g + 1 + 1) (by omega) (by simp)
  · rw [← h2]; exact g3.block (g + 1 + 1 + 1) (by omega) (by simp)
  · have hb := grown_below gA
    rw [sz] at hb
    exact ⟨hb.os, hb.tape, hb.output, hb.size, hb.block⟩
  · show _ ≤ (((W.alloc X).alloc Y).alloc Z).heap.size
    simp [sz]
theorem own0_made {e : TypeId} {W : World} {g n : Nat} {z : Value} (h : W.heap[g]? = some (.cells (madeCells #[z] n) e)) (hn : n ≤ maxLen) : Own0 e W g n n (List.replicate n z) := ⟨⟨List.replicate n z, by rw [h, made_list], by simp, by simp⟩, by simp, Nat.le_refl _, hn⟩
theorem wn_of {C T : TypeId} {w W W' : World} {g gf gd gw : Nat} {cs ds fs : List Value} {q s : Nat} (h : WN0 C T w W g cs ds) (hb : Below (g + 1 + 1) W W') (hz : g + 1 + 1 + 1 + 1 + 1 ≤ W'.heap.size) (hf : W'.heap[gf]? = some (.cells fs.toArray T)) (hd : W'.heap[gd]? = some (.cells (madeCells #[.bool false] q) 4)) (hw : W'.heap[gw]? = some (.cells (madeCells #[.int .i64 0] s) 3)) (hq : q ≤ maxLen) (hs : s ≤ maxLen)
    (o : g + 1 < gf ∧ g + 1 < gd ∧ g + 1 < gw ∧ gf < (g + 1 + 1 + 1 + 1 + 1) ∧ gd < (g + 1 + 1 + 1 + 1 + 1) ∧ gw < (g + 1 + 1 + 1 + 1 + 1) ∧ gf ≠ gd ∧ gf ≠ gw ∧ gd ≠ gw) : WN C T w W' g (g + 1 + 1 + 1 + 1 + 1) gf gd gw cs ds fs q s := by
  have hg := h.gr; have he := h.eg
  refine ⟨⟨hb.os.trans hg.os, hb.tape.trans hg.tape, hb.output.trans hg.output, Nat.le_trans hg.size hb.size, fun k hk hr => ?_⟩, h.b0.below hb (by omega), h.b1.below hb (by omega), ⟨hf⟩, own0_made hd hq, own0_made hw hs, he, o, hz⟩
  rw [hb.block k (by omega)]; exact hg.block k hk hr
/-- what the document's New answers -/
def RnPost (w : World) (s p b q m : Nat) (e : Ending) (w' : World) : Prop :=
  ∃ bb cB db wb, e = .returned (.agg #[.int .i64 s, .int .i64 p, .int .i64 b, .slice (some ⟨bb, 0, none⟩) m cB, .slice (some ⟨db, 0, none⟩) q q, .slice (some ⟨wb, 0, none⟩) s s, .int .i64 0, .bool false, .int .i64 0, .slice none 0 0]) ∧ Row w' (some ⟨bb, 0, none⟩) m (ffs m) ∧ m ≤ cB ∧ cB ≤ maxLen ∧ RowE Value.bool w' (some ⟨db, 0, none⟩) q (List.replicate q false) ∧ RowE (Value.int .i64) w' (some ⟨wb, 0, none⟩) s (List.replicate s 0) ∧ w.grownBy w' none ∧ w.heap.size ≤ bb ∧ w.heap.size ≤ db ∧ w.heap.size ≤ wb
end Go.Proofs.Ytfhgbddeclldnaa

namespace Go.Proofs.Ytfhgbddeclldnaa
open Go.RowKit
set_option maxRecDepth 100000
set_option linter.unusedSimpArgs false
set_option linter.unusedVariables false

/-- a flash, without memory -/
structure Fm where
  s : Nat
  p : Nat
  b : Nat
  B : List Int
  D : List Bool
  W : List Int
  ops : Int
  off : Bool
  after : Int
  T : List Int
def Fm.new (s p b : Nat) : Fm := ⟨s, p, b, ffs (s * p * b), List.replicate (s * p) false, List.replicate s 0, 0, false, 0, []⟩
def Fm.left (m : Fm) : Int := if m.after = 0 then 0 else m.after - 1
def Fm.wrE (m : Fm) (page : Int) (ys : List Int) : Int := Proofs.Ytfhgbddeclldnaa.wrE m.D.length m.b m.off m.D page ys.length
def Fm.erE (m : Fm) (sec : Int) : Int := Proofs.Ytfhgbddeclldnaa.erE m.W.length m.off sec
def Fm.page (m : Fm) (ys : List Int) : List Int := if m.after = 1 then ovr (ys ++ ffs (m.b - ys.length)) m.T else ys ++ ffs (m.b - ys.length)
def Fm.sector (m : Fm) (i : Nat) : List Int := if m.after = 1 then ovr ((m.B.drop (i * (m.p * m.b))).take (m.p * m.b)) m.T else ffs (m.p * m.b)
def Fm.written (m : Fm) (i : Nat) (ys : List Int) : Fm := { m with B := m.B.take (i * m.b) ++ m.page ys ++ m.B.drop (i * m.b + m.b), D := m.D.set i true, ops := m.ops + 1, off := decide (m.after = 1), after := m.left }
def Fm.erased (m : Fm) (i : Nat) : Fm := { m with B := m.B.take (i * (m.p * m.b)) ++ m.sector i ++ m.B.drop (i * (m.p * m.b) + m.p * m.b), D := drg m.D (i * m.p) (decide (m.after = 1)) m.p, W := m.W.set i (m.W.getD i 0 + 1), ops := m.ops + 1, off := decide (m.after = 1), after := m.left }
def Fm.torn (m : Fm) : Int := if m.after = 1 then 40 else 0
def Fm.write (m : Fm) (page : Int) (ys : List Int) : Fm × Int := if m.wrE page ys = 0 then (m.written page.toNat ys, m.torn) else (m, m.wrE page ys)
def Fm.erase (m : Fm) (sec : Int) : Fm × Int := if m.erE sec = 0 then (m.erased sec.toNat, m.torn) else (m, m.erE sec)
def Fm.arm (m : Fm) (n : Int) (ts : List Int) : Fm × Int := if arE n m.off = 0 then ({ m with after := n, T := ts }, 0) else (m, arE n m.off)
def Fm.boot (m : Fm) : Fm := { m with off := false, after := 0, T := [] }

/-- a flash on which at most k calls were made -/
structure Fm.Good (m : Fm) (k : Nat) : Prop where
  s : 0 < m.s ∧ m.s ≤ 16
  p : 0 < m.p ∧ m.p ≤ 16
  b : 0 < m.b ∧ m.b ≤ 64
  lB : m.B.length = m.s * m.p * m.b
  lD : m.D.length = m.s * m.p
  lW : m.W.length = m.s
  ops : 0 ≤ m.ops ∧ m.ops ≤ k
  after : 0 ≤ m.after ∧ m.after ≤ 9223372036854775807
  W : ∀ x ∈ m.W, 0 ≤ x ∧ x ≤ k
theorem Fm.Good.sp {m : Fm} {k : Nat} (h : m.Good k) : 0 < m.s * m.p ∧ m.s * m.p ≤ 256 := ⟨Nat.mul_pos h.s.1 h.p.1, Nat.mul_le_mul h.s.2 h.p.2⟩
theorem Fm.Good.spb {m : Fm} {k : Nat} (h : m.Good k) : 0 < m.s * m.p * m.b ∧ m.s * m.p * m.b ≤ 16384 := ⟨Nat.mul_pos h.sp.1 h.b.1, Nat.mul_le_mul h.sp.2 h.b.2⟩
theorem Fm.Good.mono {m : Fm} {k k' : Nat} (h : m.Good k) (hk : k ≤ k') : m.Good k' := ⟨h.s, h.p, h.b, h.lB, h.lD, h.lW, ⟨h.ops.1, by have := h.ops.2; omega⟩, h.after, fun x hx => ⟨(h.W x hx).1, by have := (h.W x hx).2; omega⟩⟩
theorem Fm.good_new {s p b : Nat} (hs : 0 < s ∧ s ≤ 16) (hp : 0 < p ∧ p ≤ 16) (hb : 0 < b ∧ b ≤ 64) : (Fm.new s p b).Good 0 :=
  ⟨hs, hp, hb, by simp [Fm.new, ffs], by simp [Fm.new], by simp [Fm.new], by simp [Fm.new], by simp [Fm.new], fun x hx => by rw [(List.mem_replicate.1 hx).2]; simp⟩
theorem Fm.good_boot {m : Fm} {k : Nat} (h : m.Good k) : m.boot.Good k := ⟨h.s, h.p, h.b, h.lB, h.lD, h.lW, h.ops, by simp [Fm.boot], h.W⟩
theorem Fm.good_arm {m : Fm} {k : Nat} (h : m.Good k) (n : Int) (ts : List Int) (hn : n ≤ 9223372036854775807) : (m.arm n ts).1.Good k := by
  unfold Fm.arm
  split
  · rename_i h0
    have hn1 : ¬ n < 1 := by
      intro h1
      unfold arE at h0
      rw [if_pos h1] at h0
      exact absurd h0 (by decide)
    exact ⟨h.s, h.p, h.b, h.lB, h.lD, h.lW, h.ops, ⟨by simp; omega, hn⟩, h.W⟩
  · exact h
theorem Fm.left_in {m : Fm} (h : 0 ≤ m.after ∧ m.after ≤ 9223372036854775807) : 0 ≤ m.left ∧ m.left ≤ 9223372036854775807 := by
  unfold Fm.left
  split <;> omega
theorem Fm.wr_in {m : Fm} {page : Int} {ys : List Int} (h : m.wrE page ys = 0) : ∃ i : Nat, page = i ∧ i < m.D.length ∧ ys.length ≤ m.b ∧ m.off = false ∧ m.D[i]? = some false := by
  unfold Fm.wrE Proofs.Ytfhgbddeclldnaa.wrE at h
  split at h
  · cases h
  · split at h
    · cases h
    · split at h
      · cases h
      · split at h
        · cases h
        · rename_i h1 h2 h3 h4
          obtain ⟨i, rfl⟩ := Int.eq_ofNat_of_zero_le (by omega : 0 ≤ page)
          refine ⟨i, rfl, by omega, by omega, by simpa using h3, ?_⟩
          have hi : i < m.D.length := by omega
          rw [List.getElem?_eq_getElem hi]
          simp [List.getD_eq_getElem?_getD, List.getElem?_eq_getElem hi] at h4
          rw [h4]
theorem Fm.er_in {m : Fm} {sec : Int} (h : m.erE sec = 0) : ∃ i : Nat, sec = i ∧ i < m.W.length ∧ m.off = false := by
  unfold Fm.erE Proofs.Ytfhgbddeclldnaa.erE at h
  split at h
  · cases h
  · split at h
    · cases h
    · rename_i h1 h2
      obtain ⟨i, rfl⟩ := Int.eq_ofNat_of_zero_le (by omega : 0 ≤ sec)
      exact ⟨i, rfl, by omega, by simpa using h2⟩
theorem mul_fit {i n b : Nat} (h : i < n) : i * b + b ≤ n * b := by
  have := Nat.mul_le_mul_right b (show i + 1 ≤ n from h)
  rwa [Nat.add_mul, Nat.one_mul] at this
theorem Fm.page_len {m : Fm} {ys : List Int} (h : ys.length ≤ m.b) : (m.page ys).length = m.b := by
  unfold Fm.page
  split
  · rw [ovr_len]; simp [ffs]; omega
  · simp [ffs]; omega
theorem Fm.good_write {m : Fm} {k : Nat} (h : m.Good k) (page : Int) (ys : List Int) : (m.write page ys).1.Good (k + 1) := by
  unfold Fm.write
  split
  · rename_i h0
    obtain ⟨i, rfl, hi, hy, ho, hd⟩ := Fm.wr_in h0
    have hf := mul_fit (b := m.b) (h.lD ▸ hi)
    have hB := h.lB
    refine ⟨h.s, h.p, h.b, ?_, by simp [Fm.written]; exact h.lD, h.lW, ?_, Fm.left_in h.after, fun x hx => ⟨(h.W x hx).1, by have := (h.W x hx).2; omega⟩⟩
    · simp only [Fm.written, Int.toNat_natCast, List.length_append, List.length_take, List.length_drop, Fm.page_len hy]
      omega
    · have := h.ops
      simp only [Fm.written]
      omega
  · exact h.mono (by omega)
theorem Fm.sector_len {m : Fm} {i : Nat} (h : i * (m.p * m.b) + m.p * m.b ≤ m.B.length) : (m.sector i).length = m.p * m.b := by
  unfold Fm.sector
  split
  · rw [ovr_len]; simp; omega
  · simp [ffs]
theorem Fm.good_erase {m : Fm} {k : Nat} (h : m.Good k) (sec : Int) : (m.erase sec).1.Good (k + 1) := by
  unfold Fm.erase
  split
  · rename_i h0
    obtain ⟨i, rfl, hi, ho⟩ := Fm.er_in h0
    have hf := mul_fit (b := m.p * m.b) (h.lW ▸ hi)
    have hfD := mul_fit (b := m.p) (h.lW ▸ hi)
    have hB := h.lB
    rw [Nat.mul_assoc] at hB
    rw [← hB] at hf
    have hD := h.lD
    rw [← hD] at hfD
    have hWi : m.W.getD i 0 ∈ m.W := by
      rw [List.getD_eq_getElem?_getD, List.getElem?_eq_getElem hi]; simp
    refine ⟨h.s, h.p, h.b, ?_, ?_, by simp [Fm.erased]; exact h.lW, ?_, Fm.left_in h.after, ?_⟩
    · simp only [Fm.erased, Int.toNat_natCast, List.length_append, List.length_take, List.length_drop, Fm.sector_len hf]
      rw [Nat.mul_assoc]
      omega
    · simp only [Fm.erased, Int.toNat_natCast]
      rw [drg_len _ hfD]
      exact hD
    · have := h.ops
      simp only [Fm.erased]
      omega
    · intro x hx
      simp only [Fm.erased, Int.toNat_natCast] at hx
      rcases List.mem_or_eq_of_mem_set hx with h1 | h1
      · exact ⟨(h.W x h1).1, by have := (h.W x h1).2; omega⟩
      · have := h.W _ hWi
        subst h1
        omega
  · exact h.mono (by omega)
end Go.Proofs.Ytfhgbddeclldnaa
