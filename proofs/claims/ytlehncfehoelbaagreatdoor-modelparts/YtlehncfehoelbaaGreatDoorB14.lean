/- The document's Same. The shelf's sort, laid for this program. Rows of one's own, sorted by the shelf's sort. Attributes in the order of their names: whoever sorts them. Rows of bytes that a call made by append. The program's Order, as landed. strings.Clone: the same text. The program's tree: copies of bytes, bytes without noughts at their end. The program's tree: attributes in memory of their own. -/
import Derived.Test.YtlehncfehoelbaaGreatDoorProg
import Derived.Shelf.SlSortCmp.WholeK
import Derived.Shelf.SlSortCmp.Whole1
import Derived.OwnWalk
import Derived.Laws.AppendOwnNone
import Derived.WalkSpells
import Derived.Shelf.Strconv.Clone
import Derived.Test.YtlehncfehoelbaaGreatDoorB03
import Derived.Test.YtlehncfehoelbaaGreatDoorB06
import Derived.Test.YtlehncfehoelbaaGreatDoorB09
import Derived.Test.YtlehncfehoelbaaGreatDoorB10
import Derived.Test.YtlehncfehoelbaaGreatDoorB13
namespace Go.Proofs.YtlehncfehoelbaaGreatDoor
open Go.RowKit
set_option maxRecDepth 100000
set_option linter.unusedSimpArgs false
set_option linter.unusedVariables false
theorem wpL_take {P : Program} {ops : Array Oper} {Q : Exit → Act → World → Prop} {a : Act} {w : World} {rest : List Oper} {o : Oper} (v : Value) (hw : Region.wanted o (yielded ops a.tmps) = true) (hr : (execOp a.eval o).run P w = .ok (.value v) w)
  (h : wpList P ops Q rest (a.put o.dst v) w) : wpList P ops Q (o :: rest) a w :=
 BigFrame.wpList_want hw fun K hK => by unfold Oper.wp; rw [hr, Oper.upon_value]; exact hK _ _ h
theorem wpL_skip {P : Program} {ops : Array Oper} {Q : Exit → Act → World → Prop} {a : Act} {w : World} {rest : List Oper} {o : Oper} (hw : Region.wanted o (yielded ops a.tmps) = false)
  (h : wpList P ops Q rest (a.put o.dst undef) w) : wpList P ops Q (o :: rest) a w := by
 unfold wpList
 rw [if_neg (by rw [hw]; simp)]
 exact h
end Go.Proofs.YtlehncfehoelbaaGreatDoor
namespace Go.Proofs.YtlehncfehoelbaaGreatDoor
open Go.RowKit Go.Shelf
set_option maxRecDepth 100000
set_option linter.unusedSimpArgs false
set_option linter.unusedVariables false
/-- the shelf's numbers as this program's -/
def renA : Ren := ⟨fun k => if k = 6 then 99 else if k = 14 then 120 else if k = 15 then 118 else if k = 20 then 140 else if k = 21 then 141 else if k = 22 then 142 else if k = 23 then 143 else if k = 24 then 144 else if k = 25 then 145 else if k = 26 then 146 else if k = 27 then 147 else if k = 28 then 138 else if k = 29 then 139 else if k = 46 then 159 else if k = 47 then 155 else if k = 48 then 156 else if k = 49 then 160 else if k = 50 then 161 else if k = 57 then 166 else k, fun k => if k = 0 then 0 else if k = 3 then 3 else if k = 4 then 4 else if k = 5 then 5 else if k = 9 then 9 else if k = 22 then 28 else if k = 24 then 45 else if k = 25 then 155 else if k = 39 then 147 else if k = 45 then 194 else if k = 46 then 195 else if k = 50 then 135 else if k = 53 then 176 else if k = 55 then 179 else if k = 66 then 211 else if k = 70 then 215 else if k = 76 then 219 else if k = 77 then 26 else k, fun k => k⟩
set_option maxHeartbeats 8000000 in
set_option maxRecDepth 100000 in
theorem laysA : SlLaysF0.n6 Tryz.prog renA := by
 constructor
 ·kernel_rfl
 ·exact ⟨Tryz.f99.name, by kernel_rfl, by kernel_rfl⟩
 ·exact ⟨Tryz.f120.name, by kernel_rfl, by kernel_rfl⟩
 ·kernel_rfl
 ·exact ⟨Tryz.f140.name, by kernel_rfl, by kernel_rfl⟩
 ·exact ⟨Tryz.f141.name, by kernel_rfl, by kernel_rfl⟩
 ·exact ⟨Tryz.f142.name, by kernel_rfl, by kernel_rfl⟩
 ·exact ⟨Tryz.f143.name, by kernel_rfl, by kernel_rfl⟩
 ·exact ⟨Tryz.f144.name, by kernel_rfl, by kernel_rfl⟩
 ·exact ⟨Tryz.f145.name, by kernel_rfl, by kernel_rfl⟩
 ·exact ⟨Tryz.f146.name, by kernel_rfl, by kernel_rfl⟩
 ·exact ⟨Tryz.f147.name, by kernel_rfl, by kernel_rfl⟩
 ·kernel_rfl
 ·kernel_rfl
 ·exact ⟨Tryz.f159.name, by kernel_rfl, by kernel_rfl⟩
 ·kernel_rfl
 ·kernel_rfl
 ·exact ⟨Tryz.f160.name, by kernel_rfl, by kernel_rfl⟩
 ·exact ⟨Tryz.f161.name, by kernel_rfl, by kernel_rfl⟩
 ·exact ⟨Tryz.f166.name, by kernel_rfl, by kernel_rfl⟩
 ·kernel_rfl
 ·intro w; kernel_rfl
 ·intro w; kernel_rfl
 ·intro w; kernel_rfl
 ·kernel_rfl
 ·intro w; kernel_rfl
 ·intro w; kernel_rfl
 ·intro w; kernel_rfl
 ·kernel_rfl
 ·intro w; kernel_rfl
 ·intro w; kernel_rfl
 ·intro w; kernel_rfl
 ·kernel_rfl
 ·intro w; kernel_rfl
 ·intro w; kernel_rfl
 ·intro w; kernel_rfl
 ·kernel_rfl
 ·intro w; kernel_rfl
 ·intro w; kernel_rfl
 ·intro w; kernel_rfl
 ·kernel_rfl
 ·intro w; kernel_rfl
 ·intro w; kernel_rfl
 ·intro w; kernel_rfl
 ·kernel_rfl
 ·intro w; kernel_rfl
 ·intro w; kernel_rfl
 ·intro w; kernel_rfl
 ·kernel_rfl
 ·intro w; kernel_rfl
 ·intro w; kernel_rfl
 ·intro w; kernel_rfl
 ·kernel_rfl
 ·intro w; kernel_rfl
 ·intro w; kernel_rfl
 ·intro w; kernel_rfl
 ·kernel_rfl
 ·intro w; kernel_rfl
 ·intro w; kernel_rfl
 ·intro w; kernel_rfl
 ·kernel_rfl
 ·intro w; kernel_rfl
 ·intro w; kernel_rfl
 ·intro w; kernel_rfl
 ·kernel_rfl
 ·intro w; kernel_rfl
 ·intro w; kernel_rfl
 ·intro w; kernel_rfl
 ·kernel_rfl
 ·intro w; kernel_rfl
 ·intro w; kernel_rfl
 ·intro w; kernel_rfl
 ·kernel_rfl
 ·intro w; kernel_rfl
 ·intro w; kernel_rfl
 ·intro w; kernel_rfl
 ·kernel_rfl
 ·intro w; kernel_rfl
 ·intro w; kernel_rfl
 ·intro w; kernel_rfl
 ·kernel_rfl
 ·intro w; kernel_rfl
 ·intro w; kernel_rfl
 ·intro w; kernel_rfl
 ·kernel_rfl
 ·intro w; kernel_rfl
 ·intro w; kernel_rfl
 ·intro w; kernel_rfl
/-- the shelf's numbers as this program's -/
def renI : Ren := ⟨fun k => if k = 6 then 96 else if k = 14 then 117 else if k = 15 then 118 else if k = 20 then 130 else if k = 21 then 131 else if k = 22 then 132 else if k = 23 then 133 else if k = 24 then 134 else if k = 25 then 135 else if k = 26 then 136 else if k = 27 then 137 else if k = 28 then 138 else if k = 29 then 139 else if k = 46 then 154 else if k = 47 then 155 else if k = 48 then 156 else if k = 49 then 157 else if k = 50 then 158 else if k = 57 then 165 else k, fun k => if k = 0 then 0 else if k = 3 then 3 else if k = 4 then 4 else if k = 5 then 5 else if k = 9 then 9 else if k = 22 then 83 else if k = 24 then 3 else if k = 25 then 152 else if k = 39 then 147 else if k = 45 then 194 else if k = 46 then 195 else if k = 50 then 135 else if k = 53 then 176 else if k = 55 then 179 else if k = 66 then 211 else if k = 70 then 215 else if k = 76 then 219 else if k = 77 then 26 else k, fun k => k⟩
set_option maxHeartbeats 8000000 in
set_option maxRecDepth 100000 in
theorem laysI : SlLaysF.n6 Tryz.prog renI := by
 constructor
 ·kernel_rfl
 ·exact ⟨Tryz.f96.name, by kernel_rfl, by kernel_rfl⟩
 ·exact ⟨Tryz.f117.name, by kernel_rfl, by kernel_rfl⟩
 ·kernel_rfl
 ·exact ⟨Tryz.f130.name, by kernel_rfl, by kernel_rfl⟩
 ·exact ⟨Tryz.f131.name, by kernel_rfl, by kernel_rfl⟩
 ·exact ⟨Tryz.f132.name, by kernel_rfl, by kernel_rfl⟩
 ·exact ⟨Tryz.f133.name, by kernel_rfl, by kernel_rfl⟩
 ·exact ⟨Tryz.f134.name, by kernel_rfl, by kernel_rfl⟩
 ·exact ⟨Tryz.f135.name, by kernel_rfl, by kernel_rfl⟩
 ·exact ⟨Tryz.f136.name, by kernel_rfl, by kernel_rfl⟩
 ·exact ⟨Tryz.f137.name, by kernel_rfl, by kernel_rfl⟩
 ·kernel_rfl
 ·kernel_rfl
 ·exact ⟨Tryz.f154.name, by kernel_rfl, by kernel_rfl⟩
 ·kernel_rfl
 ·kernel_rfl
 ·exact ⟨Tryz.f157.name, by kernel_rfl, by kernel_rfl⟩
 ·exact ⟨Tryz.f158.name, by kernel_rfl, by kernel_rfl⟩
 ·exact ⟨Tryz.f165.name, by kernel_rfl, by kernel_rfl⟩
 ·kernel_rfl
 ·intro w; kernel_rfl
 ·intro w; kernel_rfl
 ·intro w; kernel_rfl
 ·kernel_rfl
 ·intro w; kernel_rfl
 ·intro w; kernel_rfl
 ·intro w; kernel_rfl
 ·kernel_rfl
 ·intro w; kernel_rfl
 ·intro w; kernel_rfl
 ·intro w; kernel_rfl
 ·kernel_rfl
 ·intro w; kernel_rfl
 ·intro w; kernel_rfl
 ·intro w; kernel_rfl
 ·kernel_rfl
 ·intro w; kernel_rfl
 ·intro w; kernel_rfl
 ·intro w; kernel_rfl
 ·kernel_rfl
 ·intro w; kernel_rfl
 ·intro w; kernel_rfl
 ·intro w; kernel_rfl
 ·intro w; kernel_rfl
 ·intro w; kernel_rfl
 ·kernel_rfl
 ·intro w; kernel_rfl
 ·intro w; kernel_rfl
 ·intro w; kernel_rfl
 ·kernel_rfl
 ·intro w; kernel_rfl
 ·intro w; kernel_rfl
 ·intro w; kernel_rfl
 ·kernel_rfl
 ·intro w; kernel_rfl
 ·intro w; kernel_rfl
 ·intro w; kernel_rfl
 ·kernel_rfl
 ·intro w; kernel_rfl
 ·intro w; kernel_rfl
 ·intro w; kernel_rfl
 ·kernel_rfl
 ·intro w; kernel_rfl
 ·intro w; kernel_rfl
 ·intro w; kernel_rfl
 ·kernel_rfl
 ·intro w; kernel_rfl
 ·intro w; kernel_rfl
 ·intro w; kernel_rfl
 ·kernel_rfl
 ·intro w; kernel_rfl
 ·intro w; kernel_rfl
 ·intro w; kernel_rfl
 ·kernel_rfl
 ·intro w; kernel_rfl
 ·intro w; kernel_rfl
 ·intro w; kernel_rfl
 ·kernel_rfl
 ·intro w; kernel_rfl
 ·intro w; kernel_rfl
 ·intro w; kernel_rfl
 ·kernel_rfl
 ·intro w; kernel_rfl
 ·intro w; kernel_rfl
 ·intro w; kernel_rfl
 ·kernel_rfl
 ·intro w; kernel_rfl
 ·intro w; kernel_rfl
 ·intro w; kernel_rfl
end Go.Proofs.YtlehncfehoelbaaGreatDoor
namespace Go.Proofs.YtlehncfehoelbaaGreatDoor
open Go.RowKit Go.Shelf Go.Sort
set_option maxRecDepth 100000
set_option linter.unusedSimpArgs false
set_option linter.unusedVariables false
theorem holds_own {α : Type} [Inhabited α] {W : World} {base e s g n cap : Nat} {enc : α → Value} {d : Array α} (h : W.ownsRow base e s (.slice (some ⟨g, 0, none⟩) n cap) n (d.toList.map enc)) : Holds enc W g 0 d := by
 intro j hj
 have hj' : j < (d.toList.map enc).length := by simpa using hj
 have hl := h.1
 refine ⟨?_, by rw [Nat.zero_add]; exact h.frozenAt j⟩
 rw [Nat.zero_add, h.cellAt j (by omega), List.getElem?_map]
 have : d.toList[j]? = some d[j]! := by
  rw [Array.getElem?_toList, Array.getElem?_eq_getElem hj, getElem!_pos d j hj]
 rw [this]
 rfl
theorem sorted_grown {α : Type} [Inhabited α] {W : World} {g n : Nat} {os : Array Obj} {enc : α → Value} (d : Array α) : W.grownBy (grow (putRow enc (Sort.ahead W n) g 0 d) os) (some g) := by
 refine ⟨rfl, rfl, rfl, by simp, fun k hk hne => ?_⟩
 rw [heap_grow_old _ _ (by simpa using hk)]
 have : g ≠ k := fun e => hne (by rw [e])
 simp [putRow, mapBlock, Sort.ahead, Array.getElem?_modify, this]
theorem sorted_heap {α : Type} [Inhabited α] {W : World} {g n : Nat} {os : Array Obj} {cur : Array Value} {e : TypeId} {fr : Nat × Nat} {enc : α → Value} (d : Array α) (hb : W.heap[g]? = some (.cells cur e fr)) :
  (grow (putRow enc (Sort.ahead W n) g 0 d) os).heap[g]? = some (.cells (putCells enc 0 d cur) e fr) := by
 have hg : g < W.heap.size := (Array.getElem?_eq_some_iff.1 hb).1
 rw [heap_grow_old _ _ (by simpa using hg)]
 simp [putRow, mapBlock, Sort.ahead, Array.getElem?_modify, hb, onCells]
theorem sorted_take {α : Type} [Inhabited α] {enc : α → Value} (cur : Array Value) (d : Array α) (h : d.size ≤ cur.size) : (putCells enc 0 d cur).toList.take d.size = d.toList.map enc := by
 apply List.ext_getElem?
 intro j
 by_cases hj : j < d.size
 ·have h1 : d.toList[j]? = some d[j]! := by rw [Array.getElem?_toList, Array.getElem?_eq_getElem hj, getElem!_pos d j hj]
  rw [List.getElem?_take_of_lt hj, Array.getElem?_toList, List.getElem?_map, h1]
  simp [putCells, hj, Array.getElem?_mapIdx, Array.getElem?_eq_getElem (show j < cur.size by omega)]
 ·rw [List.getElem?_take_eq_none (by omega), List.getElem?_map, List.getElem?_eq_none (by simp; omega)]
  rfl
/-- the row behind the sort -/
theorem sorted_own {α : Type} [Inhabited α] {W : World} {base e s g n cap m : Nat} {os : Array Obj} {enc : α → Value} {d d' : Array α} (h : W.ownsRow base e s (.slice (some ⟨g, 0, none⟩) n cap) n (d.toList.map enc)) (hs : d'.size = d.size) :
  (grow (putRow enc (Sort.ahead W m) g 0 d') os).ownsRow base e s (.slice (some ⟨g, 0, none⟩) n cap) n (d'.toList.map enc) := by
 have hl := h.1
 rw [List.length_map, Array.length_toList] at hl
 rcases h.2 with ⟨h0, _⟩ | ⟨g', cap', cur, hv, hg, hb, hn, hcap, hsz, ht⟩
 ·cases h0
 ·injection hv with h1 h2 h3
  injection h1 with h1
  injection h1 with h1
  subst h1 h3
  refine ⟨by rw [List.length_map, Array.length_toList, hs, hl], .inr ⟨g, cap, _, rfl, hg, sorted_heap d' hb, hn, hcap, by simp [putCells, hsz], ?_⟩⟩
  rw [← hl, ← hs]
  exact sorted_take cur d' (by rw [hs, hl, hsz]; exact Nat.mul_le_mul_right s hn)
theorem flat_eq {α : Type} [Inhabited α] (enc : α → List Value) (k : Nat) (hk : ∀ x, (enc x).length = k) (h0 : 0 < k) (d : Array α) : (flatK enc k d).toList = d.toList.flatMap enc := by
 apply List.ext_getElem?
 intro t
 by_cases ht : t < d.size * k
 ·have h1 : (flatK enc k d).toList[t]? = some (flatK enc k d)[t]! := by
   have : t < (flatK enc k d).size := by rw [size_flatK]; exact ht
   rw [Array.getElem?_toList, Array.getElem?_eq_getElem this, getElem!_pos _ t this]
  rw [h1, get_flatK enc k d t ht]
  have hq : t / k < d.size := Nat.div_lt_of_lt_mul (by rw [Nat.mul_comm]; exact ht)
  have hm : t % k < k := Nat.mod_lt _ h0
  have h2 := flat_at enc k hk d.toList (t / k) (t % k) d[t / k]! (by rw [Array.getElem?_toList, Array.getElem?_eq_getElem hq, getElem!_pos d _ hq]) hm
  rw [show t / k * k + t % k = t by rw [Nat.mul_comm]; exact Nat.div_add_mod t k] at h2
  rw [h2, getElem!_pos (enc d[t / k]!) (t % k) (by rw [hk]; exact hm), List.getElem?_eq_getElem (by rw [hk]; exact hm)]
 ·rw [List.getElem?_eq_none (by rw [Array.length_toList, size_flatK]; omega), List.getElem?_eq_none (by rw [flat_len enc k hk, Array.length_toList]; omega)]
/-- .. of things of several cells -/
theorem holdsK_own {α : Type} [Inhabited α] {W : World} {base e g n cap k : Nat} {enc : α → List Value} (hk : ∀ x, (enc x).length = k) (h0 : 0 < k) {d : Array α} (h : W.ownsRow base e k (.slice (some ⟨g, 0, none⟩) n cap) n (d.toList.flatMap enc)) : HoldsK enc k W g 0 d := by
 rw [← flat_eq enc k hk h0 d] at h
 exact holds_own (enc := id) (by simpa using h)
theorem sortedK_own {α : Type} [Inhabited α] {W : World} {base e g n cap m k : Nat} {os : Array Obj} {enc : α → List Value} (hk : ∀ x, (enc x).length = k) (h0 : 0 < k) {d d' : Array α} (h : W.ownsRow base e k (.slice (some ⟨g, 0, none⟩) n cap) n (d.toList.flatMap enc)) (hs : d'.size = d.size) :
  (sortWorldK enc k W g 0 m d' os).ownsRow base e k (.slice (some ⟨g, 0, none⟩) n cap) n (d'.toList.flatMap enc) := by
 rw [← flat_eq enc k hk h0 d] at h
 rw [← flat_eq enc k hk h0 d']
 have := sorted_own (enc := id) (m := m) (os := os) (d := flatK enc k d) (d' := flatK enc k d') (by simpa using h) (by rw [size_flatK, size_flatK, hs])
 rw [List.map_id] at this
 exact this
theorem sortedK_grown {α : Type} [Inhabited α] {W : World} {g m k : Nat} {os : Array Obj} {enc : α → List Value} (d : Array α) : W.grownBy (sortWorldK enc k W g 0 m d os) (some g) := sorted_grown (enc := id) (flatK enc k d)
theorem perm_list {α : Type} [Inhabited α] {d d' : Array α} (h : PermIn 0 d.size d d') : d'.toList.Perm d.toList := by
 have := h.2.2
 rw [Array.extract_size, show d'.extract 0 d.size = d' by rw [← h.1, Array.extract_size]] at this
 exact this
theorem sorted_list {α : Type} [Inhabited α] {lt : α → α → Bool} {d : Array α} {n : Nat} (h : SortedIn lt 0 n d) (hn : d.size = n) : d.toList.Pairwise fun x y => lt y x = false := by
 rw [List.pairwise_iff_getElem]
 intro i j hi hj hij
 rw [Array.length_toList] at hi hj
 have := h i j (Nat.zero_le _) hij (by omega)
 rw [getElem!_pos d i hi, getElem!_pos d j hj] at this
 simpa using this
end Go.Proofs.YtlehncfehoelbaaGreatDoor
namespace Go.Proofs.YtlehncfehoelbaaGreatDoor
open Go.RowKit
set_option maxRecDepth 100000
theorem dn_nodup {l : List Atr} (D : Dn l) : (l.map Atr.n).Nodup := by
 unfold List.Nodup
 rw [List.pairwise_iff_getElem]
 intro i j hi hj hij e
 rw [List.length_map] at hi hj
 rw [List.getElem_map, List.getElem_map] at e
 have := D i j l[i] l[j] (List.getElem?_eq_getElem hi) (List.getElem?_eq_getElem hj) e
 omega
theorem srt_of_perm {l m : List Atr} (D : Dn l) (p : m.Perm l) (s : m.Pairwise fun x y => ¬ ctx y.n x.n < 0) : m = srt l := by
 have nd : (m.map Atr.n).Nodup := (p.map Atr.n).nodup_iff.2 (dn_nodup D)
 have h1 : m.Pairwise alt := by
  have nd2 : m.Pairwise fun x y => x.n ≠ y.n := List.pairwise_map.1 nd
  refine (nd2.and s).imp ?_
  rintro x y ⟨h1, h2⟩
  unfold alt
  rcases ctx_val x.n y.n with e | e | e
  ·exact e
  ·exact absurd (ctx_eq e) h1
  ·rw [ctx_flip, e] at h2
   exact absurd (by decide) h2
 obtain ⟨h3, h4⟩ := srt_facts D
 exact sorted_eqG alt_irr alt_tr h1 h3 fun a => by rw [h4]; exact p.mem_iff
theorem owns_row {w : World} {base : Nat} {v : Value} {n : Nat} {bs : List Int} (h : w.ownsRow base 5 1 v n (bv bs)) (hb : Byt bs) (hl : n ≤ maxLen) : ∃ a cap, v = .slice a n cap ∧ Row w a n bs := by
 obtain ⟨h1, h2⟩ := h
 rw [bv_length, Nat.mul_one] at h1
 rcases h2 with ⟨rfl, rfl⟩ | ⟨g, cap, cur, rfl, _, hg, hc, hm, hs, ht⟩
 ·exact ⟨none, 0, rfl, h1, hl, hb, fun h => absurd h (by omega)⟩
 ·refine ⟨_, cap, rfl, h1, hl, hb, fun _ => ⟨g, 0, rfl, fun i hi => ?_⟩⟩
  have e : w.cell? ⟨g, 0 + i, none⟩ = cur[i]? := by simp [World.cell?, hg]
  rw [e, ← bv_getElem? _ _ (by omega), ← ht, Nat.mul_one, List.getElem?_take, if_pos hi, Array.getElem?_toList]

/-- 'append' of bytes to a row of the call's own -/
theorem wpList_append8 {P : Program} {w : World} {ops : Array Oper} {rest : List Oper} {o : Oper} {a : Act} {Q : Exit → Act → World → Prop} (hgd : o.guard = none) (s x : Operand) (t : TypeId)
  (ho : o.op = .call { callee := .builtin .append, args := #[s, x], argTypes := #[t, t] })
  (base : Nat) (i : TypeInfo) (ht : P.underlying t = some (.slice 5)) (hi : P.info? 5 = some i) (hz : i.zero = some (.int .u8 0)) (hsize : i.size = 1) (hby : i.bytes = 1)
  (v : Value) (n : Nat) (xs : List Value) (hs : a.eval s = v) (hown : w.ownsRow base 5 1 v n xs)
  (sa : Option Addr) (m c : Nat) (bs : List Int) (hx : a.eval x = .slice sa m c) (R : Row w sa m bs) (hnil : sa = none → c = 0)
  (hb : n + m ≤ 140737488355328) (hbase : base ≤ w.heap.size)
  (h : ∀ v' w', w'.ownsRow base 5 1 v' (n + m) (xs ++ bv bs) → w.grownBy w' v.ownBlock → wpList P ops Q rest (a.put o.dst v') w') : wpList P ops Q (o :: rest) a w := by
 cases sa with
 | none =>
  have hm : m = 0 := by
   rcases Nat.eq_zero_or_pos m with h0 | h0
   ·exact h0
   ·obtain ⟨_, _, e, _⟩ := R.cells h0; cases e
  subst hm
  obtain rfl : bs = [] := List.eq_nil_of_length_eq_zero R.len_eq
  obtain rfl := hnil rfl
  refine wpList_append_own_none hgd s x t ho base 5 i 1 ht hi v n xs hs hown hx ?_
  exact h v w (by simpa [bv] using hown) (World.grownBy.refl _ _)
 | some ad =>
  refine wpList_append_own w hgd s x t ho base 5 i (.int .u8 0) 1 1 ht hi hz hsize hby rfl (by decide) v n xs hs hown ad m c (bv bs) hx (by rw [bv_length, R.len_eq]; omega) ?_ (bv_one _) (by unfold maxLen; omega) (by omega) hbase (fun v' w' h1 h2 _ => h v' w' h1 h2)
  intro j u hj
  have h0 : 0 < (bv bs).length := by
   rcases Nat.eq_zero_or_pos (bv bs).length with h0 | h0
   ·rw [List.eq_nil_of_length_eq_zero h0] at hj; simp at hj
   ·exact h0
  obtain ⟨ad', e, hc⟩ := R.src h0
  injection e with e
  subst e
  exact hc j u hj
theorem Tryz.info5 : (Tryz.prog.info? 5).map (fun i => (i.zero, i.size, i.bytes)) = some (some (.int .u8 0), 1, 1) := by kernel_rfl
end Go.Proofs.YtlehncfehoelbaaGreatDoor
namespace Go.Proofs.YtlehncfehoelbaaGreatDoor
open Go.RowKit
set_option maxRecDepth 100000
set_option linter.unusedSimpArgs false
set_option linter.unusedVariables false
theorem cmp_ctx : ∀ a b : Tx, Lib.compareBytes a b = ctx a b
 | [], [] => rfl
 | [], _ :: _ => rfl
 | _ :: _, [] => rfl
 | a :: r, b :: t => by
  show (if a < b then -1 else if b < a then 1 else Lib.compareBytes r t) = (if a < b then -1 else if b < a then 1 else ctx r t)
  rw [cmp_ctx r t]
set_option maxHeartbeats 1000000 in
set_option maxRecDepth 100000 in
theorem bcompare_any (a b : ByteArray) (w : World) : Calls Tryz.prog 121 #[.string a, .string b] w fun e w' => e = .returned (.int .i64 (ctx a.toList b.toList)) ∧ w = w' := by
 rw [ByteArray.toList_eq, ByteArray.toList_eq, ← cmp_ctx]
 go_enter Tryz.func121, Tryz.ntmps121
 go_wp2
 rw [run_callFunc_extern Tryz.func148 (by kernel_rfl) (by kernel_rfl) (by kernel_rfl) (e := Extern.BytealgCompare.compare) (by kernel_rfl), Lib.run_compareString]
 simp only [Result.andThen]
 rw [Oper.upon_value]
 go_wp2
 go_ret
 exact ⟨rfl, rfl⟩
theorem scompare_any (a b : ByteArray) (w : World) : Calls Tryz.prog 101 #[.string a, .string b] w fun e w' => e = .returned (.int .i64 (ctx a.toList b.toList)) ∧ w = w' := by
 go_enter Tryz.func101, Tryz.ntmps101
 go_wp2_with (go_at_call 121; refine (bcompare_any _ _ _).mono ?_; rintro e w' ⟨rfl, rfl⟩)
 go_ret
 exact ⟨rfl, rfl⟩
set_option maxHeartbeats 2000000 in
theorem pcomparefunc_any (a b : Option Addr) (n c m d : Nat) (l r : List ByteArray) (w : World) (R : SRow w a n l) (R2 : SRow w b m r) (hn : n ≤ 1000000) (hm : m ≤ 1000000) :
  Calls Tryz.prog 119 #[.slice a n c, .slice b m d, .func (.func 101) #[] #[]] w fun e w' => e = .returned (.int .i64 (ord (tls l) (tls r))) ∧ ∃ n, w' = w.drewN n := by
 have HR : Hid _ := And.intro R R2
 have HE : Hid _ := And.intro R.len_eq R2.len_eq
 clear R R2
 go_enter Tryz.func119, Tryz.ntmps119
 go_wp2
 go_loopw [13] (fun i wr => ∃ k : Nat, k ≤ n ∧ k ≤ m ∧ i = .int .i64 k ∧ Hid (ord (tls l) (tls r) = ord ((tls l).drop k) ((tls r).drop k)) ∧ ∃ t, wr = w.drewN t) (fun i _ => n - (intOf i).toNat)
 case atStart => exact ⟨0, Nat.zero_le _, Nat.zero_le _, rfl, rfl, 0, rfl⟩
 case round =>
  obtain ⟨k, h1, h2, rfl, HC, t, rfl⟩ := hrel
  by_cases h3 : k < n
  ·by_cases h4 : k < m
   ·obtain ⟨b1, o1, rfl, c1⟩ := HR.out.1.cells (by omega)
    obtain ⟨b2, o2, rfl, c2⟩ := HR.out.2.cells (by omega)
    have hx := c1 k h3
    have hy := c2 k h4
    have hc := HC.out
    rw [tls_drop (l := l) (by rw [HE.out.1]; exact h3), tls_drop (l := r) (by rw [HE.out.2]; exact h4), ord_cons] at hc
    generalize l.getD k ⟨#[]⟩ = x at *
    generalize r.getD k ⟨#[]⟩ = y at *
    generalize hC : ctx x.toList y.toList = C at *
    have hsc := fun W => scompare_any x y W
    rw [hC] at hsc
    have HD : Hid _ := hc
    clear hc HC c1 c2 hC
    have h3i : (k : Int) < n := by omega
    have h4i : ¬ (m : Int) ≤ k := by omega
    by_cases hC0 : C = 0
    ·subst hC0
     have HV : Hid (ord (tls l) (tls r) = ord ((tls l).drop (k + 1)) ((tls r).drop (k + 1))) := by
      show ord (tls l) (tls r) = _
      rw [HD.out, if_neg (by simp)]
     clear HD
     go_wp2_with (go_at_call 101; refine (hsc _).mono ?_; rintro e w' ⟨rfl, rfl⟩)
     exact ⟨⟨k + 1, by omega, by omega, by go_num, HV, _, rfl⟩, by simp [intOf]; omega⟩
    ·have HV : Hid (ord (tls l) (tls r) = C) := by
      show ord (tls l) (tls r) = _
      rw [HD.out, if_pos hC0]
     have hC2 : (C == 0) = false := by simpa using hC0
     clear HD hC0
     go_wp2_with (go_at_call 101; refine (hsc _).mono ?_; rintro e w' ⟨rfl, rfl⟩)
     go_ret
     exact ⟨by rw [HV.out]; rfl, _, rfl⟩
   ·have h4i : (m : Int) ≤ k := by omega
    have h3i : (k : Int) < n := by omega
    have HV : Hid (ord (tls l) (tls r) = 1) := by
     show ord (tls l) (tls r) = _
     have e5 : (tls r).drop k = [] := List.drop_eq_nil_of_le (by rw [tls_len, HE.out.2]; omega)
     rw [HC.out, ord_len _ _ (Or.inr e5), List.length_drop, List.length_drop, tls_len, tls_len, HE.out.1, HE.out.2]
     unfold lcp
     rw [if_neg (by omega), if_pos (by omega)]
    clear HC
    obtain ⟨b1, o1, rfl, c1⟩ := HR.out.1.cells (by omega)
    have hx := c1 k h3
    generalize l.getD k ⟨#[]⟩ = x at *
    clear c1
    go_wp2
    go_ret
    exact ⟨by rw [HV.out]; rfl, _, rfl⟩
  ·have h3i : ¬ (k : Int) < n := by omega
   have hkn : k = n := by omega
   by_cases h4 : n < m
   ·have h4i : (n : Int) < m := by omega
    have HV : Hid (ord (tls l) (tls r) = -1) := by
     show ord (tls l) (tls r) = _
     have e5 : (tls l).drop k = [] := List.drop_eq_nil_of_le (by rw [tls_len, HE.out.1]; omega)
     rw [HC.out, ord_len _ _ (Or.inl e5), List.length_drop, List.length_drop, tls_len, tls_len, HE.out.1, HE.out.2]
     unfold lcp
     rw [if_pos (by omega)]
    clear HC hkn
    go_wp2
    go_ret
    exact ⟨by rw [HV.out]; rfl, _, rfl⟩
   ·have h4i : ¬ (n : Int) < m := by omega
    have HV : Hid (ord (tls l) (tls r) = 0) := by
     show ord (tls l) (tls r) = _
     have e5 : (tls l).drop k = [] := List.drop_eq_nil_of_le (by rw [tls_len, HE.out.1]; omega)
     rw [HC.out, ord_len _ _ (Or.inl e5), List.length_drop, List.length_drop, tls_len, tls_len, HE.out.1, HE.out.2]
     unfold lcp
     rw [if_neg (by omega), if_neg (by omega)]
    clear HC hkn
    go_wp2
    go_ret
    exact ⟨by rw [HV.out]; rfl, _, rfl⟩
end Go.Proofs.YtlehncfehoelbaaGreatDoor
namespace Go.Proofs.YtlehncfehoelbaaGreatDoor
open Go.RowKit Go.Shelf
set_option maxRecDepth 100000
set_option linter.unusedSimpArgs false
set_option linter.unusedVariables false
/-- the shelf's numbers as this program's -/
def ren10 : Ren := ⟨fun _ => 82, fun k => if k = 37 then 23 else if k = 127 then 165 else k, fun k => k⟩
set_option maxHeartbeats 4000000 in
set_option maxRecDepth 100000 in
theorem lays10 : LaysM.n316 Tryz.prog ren10 := by
 have h : Lays.n316 Tryz.prog ren10 := by
  constructor <;> first | kernel_rfl | (intro w; rfl)
 refine LaysM.n316.mk h ?_ ?_ ?_ ?_ ?_ ?_ ?_ ?_ ?_ ?_ ?_ <;> first | kernel_rfl | (intro w; rfl)
theorem lclone_any (s : ByteArray) (w : World) (hs : s.size ≤ 1000000) : Calls Tryz.prog 82 #[.string s] w fun e w' => e = .returned (.string s) ∧ Below w.heap.size w w' :=
 Any.stringslite_Clone lays10 s w (by omega)
theorem sclone_any (s : ByteArray) (w : World) (hs : s.size ≤ 1000000) : Calls Tryz.prog 43 #[.string s] w fun e w' => e = .returned (.string s) ∧ Below w.heap.size w w' := by
 go_enter Tryz.func43, Tryz.ntmps43
 go_wp2_with (go_at_call 82; refine (lclone_any _ _ hs).mono ?_; rintro e w' ⟨rfl, hb⟩)
 go_ret
 exact ⟨rfl, hb⟩
end Go.Proofs.YtlehncfehoelbaaGreatDoor
namespace Go.Proofs.YtlehncfehoelbaaGreatDoor
open Go.RowKit
set_option maxRecDepth 100000
set_option linter.unusedSimpArgs false
set_option linter.unusedVariables false
theorem eqlnil (p : Addr) (n c : Nat) (W : World) : (binOp .eql 23 (.slice (some p) n c) (.slice none 0 0)).run Tryz.prog W = .ok (.bool false) W := by kernel_rfl
theorem eqlnil0 (c : Nat) (W : World) : (binOp .eql 23 (.slice none 0 c) (.slice none 0 0)).run Tryz.prog W = .ok (.bool true) W := by kernel_rfl
set_option maxHeartbeats 1000000 in
theorem pclone_any (a : Option Addr) (n c : Nat) (xs : List Int) (w : World) (R : Row w a n xs) (hn : n ≤ 16777216) :
  Calls Tryz.prog 44 #[.slice a n c] w fun e w' => ∃ v, e = .returned v ∧ w'.ownsRow w.heap.size 5 1 v n (bv xs) ∧ w.grownBy w' none := by
 obtain ⟨i5, hi, hz0, hz1, hz2⟩ := info_parts Tryz.info5
 cases a with
 | none =>
  obtain rfl : n = 0 := by
   rcases Nat.eq_zero_or_pos n with h | h
   ·exact h
   ·obtain ⟨_, _, e, _⟩ := R.cells h; cases e
  obtain rfl : xs = [] := List.eq_nil_of_length_eq_zero R.len_eq
  have hen := eqlnil0 c
  go_enter Tryz.func44, Tryz.ntmps44
  go_wp2_with fail
  go_ret
  exact ⟨_, rfl, World.ownsRow_nil _ _ _ _, World.grownBy.refl _ _⟩
 | some p =>
  have O0 := World.ownsRow_made (base := w.heap.size) (e := 5) (size := 1) w #[] 0 (Nat.le_refl _) (Nat.zero_le _) (by simp)
  have R0 := R.grown (World.grownBy_alloc w (.cells #[] 5) none)
  have hen := eqlnil p n c
  clear R
  go_enter Tryz.func44, Tryz.ntmps44
  go_wp2_with (at_builtin; refine wpList_append8 rfl _ _ 23 rfl w.heap.size i5 Tryz.underlying23 hi hz0 hz1 hz2 _ 0 [] rfl O0 _ n c _ rfl R0 (fun h => by cases h) (by omega) (by simp) ?_)
  intro v1 w1 o1 g1
  have G1 : w.grownBy w1 none := grown_own11 (World.grownBy_alloc w (.cells #[] 5) none) O0 g1
  have H1 : Hid (w1.ownsRow w.heap.size 5 1 v1 n (bv xs) ∧ w.grownBy w1 none) := ⟨by simpa using o1, G1⟩
  clear O0 R0 o1 g1 G1
  go_wp2_with fail
  go_ret
  exact ⟨_, rfl, H1.out.1, H1.out.2⟩
set_option maxHeartbeats 1000000 in
theorem ptrimb_any (a : Option Addr) (n c : Nat) (xs : List Int) (w : World) (R : Row w a n xs) (hc : n ≤ c) :
  Calls Tryz.prog 122 #[.slice a n c, .int .u8 0] w fun e w' => e = .returned (.slice a (strip xs).length c) ∧ w = w' := by
 have hle : n ≤ 9223372036854775807 := R.le
 have HR : Hid _ := R
 have hxn : xs.take n = xs := List.take_of_length_le (by rw [R.len_eq]; exact Nat.le_refl _)
 have HX : Hid _ := And.intro R.len_eq hxn
 clear R hxn
 go_enter Tryz.func122, Tryz.ntmps122
 go_wp2_with fail
 go_loop [0] (fun v => ∃ k : Nat, k ≤ n ∧ v = .slice a k c ∧ Hid (strip xs = strip (xs.take k))) (fun v => match v with | .slice _ k _ => k | _ => 0)
 case atStart => exact ⟨n, Nat.le_refl _, rfl, by show _ = _; rw [HX.out.2]⟩
 case round =>
  obtain ⟨k, hk, rfl, HB⟩ := hrel
  cases k with
  | zero =>
   have HV : Hid ((strip xs).length = 0) := by
    show _ = _
    rw [HB.out]; rfl
   go_wp2_with fail
   go_ret
   exact ⟨by rw [HV.out]; rfl, rfl⟩
  | succ k =>
   obtain ⟨b, o, rfl, hcell⟩ := HR.out.cells (by omega)
   have hck := hcell k (by omega)
   clear hcell
   have hki : ((k + 1 : Nat) : Int) - 1 = k := by omega
   have hkx : k < xs.length := by rw [HX.out.1]; omega
   have h1 := @strip_zero xs k hkx
   have h2 := @strip_stop xs k hkx
   generalize xs.getD k 0 = B at *
   by_cases hB : B = 0
   ·have HV : Hid (strip xs = strip (xs.take k)) := by
     show _ = _
     rw [HB.out, h1 hB]
    subst hB
    clear h1 h2 HB hkx
    go_wp2_with fail
    go_round
    case rel => exact ⟨k, by omega, by simp, HV⟩
    case measure => simp
   ·have HV : Hid ((strip xs).length = k + 1) := by
     show _ = _
     rw [HB.out, h2 hB, List.length_take]; omega
    have hBb : (B == 0) = false := by rw [beq_eq_false_iff_ne]; exact hB
    clear h1 h2 HB hkx
    go_wp2_with fail
    go_ret
    exact ⟨by rw [HV.out]; rfl, rfl⟩
set_option maxHeartbeats 1000000 in
theorem ptrim_any (a : Option Addr) (n c : Nat) (xs : List Int) (w : World) (R : Row w a n xs) (hc : n ≤ c) :
  Calls Tryz.prog 102 #[.slice a n c, .string ⟨#[0]⟩] w fun e w' => e = .returned (.slice a (strip xs).length c) ∧ w = w' := by
 have hle : n ≤ 9223372036854775807 := R.le
 have hb := ptrimb_any a n c xs w R hc
 by_cases h0 : n = 0
 ·subst h0
  obtain rfl : xs = [] := List.eq_nil_of_length_eq_zero R.len_eq
  clear hb R
  go_enter Tryz.func102, Tryz.ntmps102
  go_wp2_with fail
  go_ret
  exact ⟨rfl, rfl⟩
 ·have h0b : ((n : Int) == 0) = false := by rw [beq_eq_false_iff_ne]; omega
  generalize (strip xs).length = m at *
  clear R
  go_enter Tryz.func102, Tryz.ntmps102
  go_wp2_with (go_at_call 122; refine hb.mono ?_; rintro e w' ⟨rfl, rfl⟩)
  go_ret
  exact ⟨rfl, rfl⟩
theorem psclone_any (s : ByteArray) (w : World) (hs : s.size ≤ 1000000) : Calls Tryz.prog 43 #[.string s] w fun e w' => e = .returned (.string s) ∧ w.grownBy w' none :=
 (sclone_any s w hs).mono fun e w' ⟨h1, h2⟩ => ⟨h1, ⟨h2.os, h2.tape, h2.output, h2.size, fun k hk _ => h2.block k hk⟩⟩
/-- what is left of the bytes -/
theorem row_strip {w : World} {a : Option Addr} {n : Nat} {xs : List Int} (R : Row w a n xs) : Row w a (strip xs).length (strip xs) := by
 have h : (strip xs).length ≤ n := by have := strip_len xs; rw [R.len_eq] at this; exact this
 have e2 : xs = strip xs ++ (xs.reverse.takeWhile (· == 0)).reverse := by
  unfold strip
  rw [← List.reverse_append, List.takeWhile_append_dropWhile, List.reverse_reverse]
 have e : xs.take (strip xs).length = strip xs := by
  generalize strip xs = S at *
  rw [e2]
  exact List.take_left' rfl
 have := row_take R h
 rw [e] at this
 exact this
/-- bytes in memory of their own -/
structure OwnB (W : World) (base : Nat) (a : Option Addr) (n c : Nat) (xs : List Int) : Prop where
 own : W.ownsRow base 5 1 (.slice a n c) n (bv xs)
 byt : Byt xs
theorem OwnB.kept {W W' : World} {base n c : Nat} {a : Option Addr} {xs : List Int} (h : OwnB W base a n c xs) (g : W.grownBy W' none) : OwnB W' base a n c xs := ⟨owns_kept11 h.own g, h.byt⟩
/-- a row of another type is written, or grows -/
theorem OwnB.other {W W' : World} {base b n c e s m : Nat} {a : Option Addr} {xs : List Int} {u : Value} {ys : List Value} (h : OwnB W base a n c xs) (ho : W.ownsRow b e s u m ys) (he : 5 ≠ e) (g : W.grownBy W' u.ownBlock) : OwnB W' base a n c xs := ⟨h.own.kept g (owns_ne h.own ho he), h.byt⟩
theorem OwnB.low {W : World} {base b n c : Nat} {a : Option Addr} {xs : List Int} (h : OwnB W base a n c xs) (hb : b ≤ base) : OwnB W b a n c xs := ⟨owns_low11 h.own hb, h.byt⟩
theorem OwnB.row {W : World} {base n c : Nat} {a : Option Addr} {xs : List Int} (h : OwnB W base a n c xs) : Row W a n xs := by
 have hl : n ≤ maxLen := by
  rcases h.own.2 with ⟨e, h0⟩ | ⟨g, cap, cur, e, hg, hh, hc, hm, _⟩
  ·rw [h0]; exact Nat.zero_le _
  ·exact Nat.le_trans hc hm
 obtain ⟨a', c', e, R⟩ := owns_row h.own h.byt hl
 injection e with e1 e2 e3
 subst e1
 exact R
theorem OwnB.cap {W : World} {base n c : Nat} {a : Option Addr} {xs : List Int} (h : OwnB W base a n c xs) : n ≤ c := by
 rcases h.own.2 with ⟨e, h0⟩ | ⟨g, cap, cur, e, hg, hh, hc, hm, _⟩
 ·rw [h0]; exact Nat.zero_le _
 ·injection e with e1 e2 e3
  rw [e3]; exact hc
/-- attributes that are copied, while they are copied -/
structure Cp (w W : World) (v : Value) (out : List AtV) : Prop where
 gr : w.grownBy W none
 own : W.ownsRow w.heap.size 45 2 v out.length (out.flatMap avc)
 rows : ∀ A ∈ out, OwnB W w.heap.size A.a A.len A.cap A.v
theorem Cp.kept {w W W' : World} {v : Value} {out : List AtV} (h : Cp w W v out) (g : W.grownBy W' none) : Cp w W' v out := ⟨grown_trans h.gr g, owns_kept11 h.own g, fun A hA => (h.rows A hA).kept g⟩
/-- one more -/
theorem Cp.add {w W W' : World} {v v' : Value} {out : List AtV} {A : AtV} (h : Cp w W v out) (hA : OwnB W w.heap.size A.a A.len A.cap A.v) (ho : W'.ownsRow w.heap.size 45 2 v' (out.length + 1) (out.flatMap avc ++ avc A)) (g : W.grownBy W' v.ownBlock) : Cp w W' v' (out ++ [A]) := by
 refine ⟨grown_own11 h.gr h.own g, ?_, fun B hB => ?_⟩
 ·have e : (out ++ [A]).flatMap avc = out.flatMap avc ++ avc A := by rw [List.flatMap_append]; simp
  rw [List.length_append, e]
  exact ho
 ·rcases List.mem_append.1 hB with hB | hB
  ·exact (h.rows B hB).other h.own (by decide) g
  ·obtain rfl : B = A := by simpa using hB
   exact hA.other h.own (by decide) g
theorem bx2 {W : World} {g : Nat} {T : TypeId} {x y : Value} (h : Bx W g T [x, y]) : W.cell? ⟨g, 0, none⟩ = some x ∧ W.cell? ⟨g, 1, none⟩ = some y := ⟨h.c 0, h.c 1⟩
/-- what copied answers -/
def CpPost (w : World) (l : List AtV) (e : Ending) (w' : World) : Prop := ∃ v out, e = .returned v ∧ Cp w w' v out ∧ out.map AtV.at = l.map AtV.at
set_option maxHeartbeats 4000000 in
theorem pcopied_any (a : Option Addr) (len cap : Nat) (l : List AtV) (w : World) (E : Ats w a len l) (hlen : len ≤ 100000) (hz : ∀ A ∈ l, A.n.size ≤ 1000000 ∧ A.len ≤ 16777216) :
  Calls Tryz.prog 45 #[.slice a len cap] w (CpPost w l) := by
 have hll := E.len_eq
 obtain ⟨ia, hi, hz0, hz1, hz2⟩ := info_parts Tryz.infoA
 have HIA : Hid _ := And.intro hi (And.intro hz0 (And.intro hz1 hz2))
 clear hi hz0 hz1 hz2
 have H0 : Hid (Cp w w (.slice none 0 0) []) := ⟨World.grownBy.refl _ _, World.ownsRow_nil _ _ _ _, fun A h => by cases h⟩
 have hta : (l.map AtV.at).take len = l.map AtV.at := List.take_of_length_le (by rw [List.length_map]; omega)
 have HE : Hid _ := And.intro E (And.intro hll (And.intro hta hz))
 clear E hll hta hz

 go_enter Tryz.func45, Tryz.ntmps45
 go_wp2_with fail
 go_loopw [3, 8] (fun v3 vi wr => ∃ k : Nat, k ≤ len ∧ vi = .int .i64 k ∧ Hid (∃ out, Cp w wr v3 out ∧ out.map AtV.at = (l.map AtV.at).take k)) (fun _ vi _ => len - (intOf vi).toNat)
 case atStart => exact ⟨0, Nat.zero_le _, rfl, [], H0.out, rfl⟩
 case round =>
  clear H0
  obtain ⟨k, hk, rfl, HO⟩ := hrel
  obtain ⟨out, hC, hO⟩ := HO.out
  have hol : out.length = k := by
   have := congrArg List.length hO
   rw [List.length_map, List.length_take, List.length_map, HE.out.2.1] at this
   omega
  obtain ⟨a3, c3, rfl⟩ : ∃ a3 c3, u3 = .slice a3 out.length c3 := by
   rcases hC.own.2 with ⟨e, h0⟩ | ⟨g, c, cur, e, _⟩
   ·exact ⟨none, 0, by rw [e, h0]⟩
   ·exact ⟨_, c, e⟩
  have HC : Hid _ := And.intro hC (And.intro hO hol)
  clear hC hO hol HO
  by_cases hlt : k < len
  ·obtain ⟨A, hA⟩ : ∃ A, l[k]? = some A := ⟨_, List.getElem?_eq_getElem (by have := HE.out.2.1; omega)⟩
   obtain ⟨b, off, rfl, hat⟩ := HE.out.1.at_ (by omega)
   obtain ⟨y0, y1, yr, yc⟩ := hat k A hA
   replace y0 := cell_grown y0 HC.out.1.gr
   replace y1 := cell_grown y1 HC.out.1.gr
   have hsz := HE.out.2.2.2 A (List.mem_of_getElem? hA)
   have HN : Hid ((l.map AtV.at).take (k + 1) = (l.map AtV.at).take k ++ [A.at]) := by
    show _ = _
    rw [List.take_add_one, List.getElem?_map, hA]
    rfl
   have hsc := fun W => psclone_any A.n W hsz.1
   have hbc := fun W (g : w.grownBy W none) => pclone_any A.a A.len A.cap A.v W (yr.grown g) hsz.2
   have HY : Hid _ := yr.byt
   obtain ⟨nm, va, vl, vc, vv⟩ := A
   simp only at y0 y1 hsc hbc HN HY
   clear hat yr yc hA hsz
   have hlti : (k : Int) < (len : Int) := by omega
   have G1 : Hid _ := World.grownBy_alloc wr (.cells #[.string nm, .slice va vl vc] 45) none
   have B1 : Hid _ := Bx.new wr 45 [.string nm, .slice va vl vc]
   have hwr := HC.out.1.gr.size
   generalize ho : out.length = on at *
   have HON : Hid _ := ho
   clear ho
   go_wp2_with fail
   generalize wr.alloc (.cells #[.string nm, .slice va vl vc] 45) = W1 at *
   generalize hg0 : wr.heap.size = gx at *
   have HG0 : Hid _ := hg0
   clear hg0 y0 y1
   have hC := HC.out.1.kept (grown_trans G1.out (drewG0 W1))
   refine wp_region_held_drew (S := fun w' => w.grownBy w' none ∧ Bx w' gx 45 [.string nm, .slice va vl vc]) (by kernel_rfl) (And.intro hC.gr (B1.out.kept (drewG0 W1))) (fun hH => ?_)
   clear G1 B1
   generalize W1.drew = WD at *
   refine wpAnyH_take (i := 0) (oi := ⟨some 12, _, _, _, _, _⟩) (v := .slice a3 on c3) rfl (by kernel_rfl) (by kernel_rfl) (by kernel_rfl) (fun _ _ _ h => h) (Or.inl ⟨by rfl, fun w hSw => by go_simp⟩) hH ?_
   simp only [Act.put, pu]
   refine wpAnyH_take (i := 1) (oi := ⟨some 13, _, _, _, _, _⟩) (v := .pointer (some ⟨gx, 0, none⟩)) rfl (by kernel_rfl) (by kernel_rfl) (by kernel_rfl) (fun _ _ _ h => h) (Or.inl ⟨by rfl, fun w hSw => by go_simp⟩) hH ?_
   simp only [Act.put, pu]
   refine wpAnyH_take (i := 2) (oi := ⟨some 14, _, _, _, _, _⟩) (v := .string nm) rfl (by kernel_rfl) (by kernel_rfl) (by kernel_rfl) (fun _ _ _ h => h) (Or.inl ⟨by rfl, fun w hSw => by obtain ⟨c0, c1⟩ := bx2 hSw.2; go_simp⟩) hH ?_
   simp only [Act.put, pu]
   refine wpAnyH_take (i := 4) (oi := ⟨some 16, _, _, _, _, _⟩) (v := .pointer (some ⟨gx, 1, none⟩)) rfl (by kernel_rfl) (by kernel_rfl) (by kernel_rfl) (fun _ _ _ h => h) (Or.inl ⟨by rfl, fun w hSw => by go_simp⟩) hH ?_
   simp only [Act.put, pu]
   refine wpAnyH_take (i := 5) (oi := ⟨some 17, _, _, _, _, _⟩) (v := .slice va vl vc) rfl (by kernel_rfl) (by kernel_rfl) (by kernel_rfl) (fun _ _ _ h => h) (Or.inl ⟨by rfl, fun w hSw => by obtain ⟨c0, c1⟩ := bx2 hSw.2; go_simp⟩) hH ?_
   simp only [Act.put, pu]
   refine wpAnyH_ready (rs := [3]) (by kernel_rfl) (by simp) ?_
   refine AllReadyH.cons rfl (fun K1 hK => ?_) AllReadyH.nil
   go_simp
   go_wp2_with (go_at_call 43; refine (hsc _).mono ?_; rintro e W2 ⟨rfl, g2⟩)
   replace hH := And.intro (grown_trans hH.1 g2) (hH.2.kept g2)
   replace hC := hC.kept g2
   clear g2
   refine hK.out _ _ hH (fun _ => ?_)
   clear hK K1
   refine wpAnyH_ready (rs := [6]) (by kernel_rfl) (by simp) ?_
   refine AllReadyH.cons rfl (fun K1 hK => ?_) AllReadyH.nil
   go_simp
   go_wp2_with (go_at_call 44; refine (hbc _ hH.1).mono ?_; rintro e W3 ⟨v3, rfl, ho3, g3⟩)
   obtain ⟨ca, cc, rfl⟩ := own_shape ho3
   have hob : OwnB W3 w.heap.size ca vl cc vv := ⟨owns_low11 ho3 hC.gr.size, HY.out⟩
   replace hH := And.intro (grown_trans hH.1 g3) (hH.2.kept g3)
   replace hC := hC.kept g3
   clear g3 ho3
   refine hK.out _ _ hH (fun _ => ?_)
   clear hK K1
   refine wpAnyH_take (i := 7) (oi := ⟨some 19, _, _, _, _, _⟩) (v := .agg #[.string nm, .slice ca vl cc]) rfl (by kernel_rfl) (by kernel_rfl) (by kernel_rfl) (fun _ _ _ h => h) (Or.inl ⟨by rfl, fun w hSw => by go_simp⟩) hH ?_
   simp only [Act.put, pu]
   refine wpAnyH_ready (rs := [8]) (by kernel_rfl) (by simp) ?_
   refine AllReadyH.cons rfl (fun K1 hK => ?_) AllReadyH.nil
   have gA := World.grownBy_alloc W3 (.cells #[.string nm, .slice ca vl cc] 45) none
   have bA := Bx.new W3 45 [.string nm, .slice ca vl cc]
   go_simp
   replace hH := And.intro (grown_trans hH.1 gA) (hH.2.kept gA)
   replace hC := hC.kept gA
   replace hob := hob.kept gA
   have hWX := hC.gr.size
   clear gA
   generalize W3.alloc (.cells #[.string nm, .slice ca vl cc] 45) = WB at *
   generalize W3.heap.size = gb at *
   refine hK.out _ _ hH (fun _ => ?_)
   clear hK K1
   refine wpAnyH_ready (rs := [9]) (by kernel_rfl) (by simp) ?_
   refine AllReadyH.cons rfl (fun K1 hK => ?_) AllReadyH.nil
   have hown := hC.own
   rw [HON.out] at hown
   obtain ⟨v', W9, hrun, hown', hgrow, _, _⟩ := run_append_own_at (P := Tryz.prog) WB w.heap.size 28 28 45 ia _ 2 _ Tryz.underlying28 HIA.out.1 HIA.out.2.1 HIA.out.2.2.1 HIA.out.2.2.2 rfl (by decide) _ _ _ hown ⟨gb, 0, none⟩ 1 1 [.string nm, .slice ca vl cc] rfl (news_bx bA rfl) (one2 nm ca) (by have := HC.out.2.2; unfold maxLen; omega) (by have := HC.out.2.2; omega) hWX
   have hC9 := hC.add (A := ⟨nm, ca, vl, cc, vv⟩) hob (by rw [HON.out]; exact hown') hgrow
   have hx9 : Bx W9 gx 45 [.string nm, .slice va vl vc] := hH.2.but hgrow (fun e => by have h1 := (HC.out.1.own.lt gx e.symm).2; rw [HG0.out] at h1; omega)
   have hH9 := And.intro hC9.gr hx9
   rw [if_pos (by rfl)]
   refine wp_append (u := .slice (some ⟨gb, 0, none⟩) 1 1) rfl rfl rfl hrun (hK.out _ _ hH9 (fun _ => ?_))
   have hH := hH9
   clear hK K1 hrun hgrow hown' hown hob bA hC hx9 hH9
   simp only [Act.put, pu]
   refine wpAnyH_take (i := 10) (oi := ⟨some 3, _, _, _, _, _⟩) (v := v') rfl (by kernel_rfl) (by kernel_rfl) (by kernel_rfl) (fun _ _ _ h => h) (Or.inl ⟨by rfl, fun w hSw => by go_simp⟩) hH ?_
   simp only [Act.put, pu]
   refine wpAnyH_done (by kernel_rfl) ?_ _
   have HR : Hid _ := hC9
   clear hC9 hH hsc hbc
   go_wp2_with fail
   exact ⟨⟨k + 1, by omega, by go_num, _, HR.out, by rw [List.map_append, HC.out.2.1, HN.out]; rfl⟩, by simp [intOf]; omega⟩
  ·have hlti : ¬ (k : Int) < (len : Int) := by omega
   obtain rfl : k = len := by omega
   have HT : Hid _ := HC.out.2.1.trans HE.out.2.2.1
   generalize ho : out.length = on at *
   have HON : Hid _ := ho
   clear ho
   go_wp2_with fail
   go_ret
   exact ⟨_, out, rfl, HC.out.1, HT.out⟩
end Go.Proofs.YtlehncfehoelbaaGreatDoor
