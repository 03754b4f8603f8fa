/- Nodes in memory. -/
import Derived.Deep.RegionHeld3
import Derived.Laws.Tables
import Derived.Test.YtlehncfehoelbaaGreatDoorProg
import Derived.Maps.OwnSet
import Derived.DeepKeys4
import Derived.KernelRfl
import Derived.Lib.Bytealg
import Derived.Lib.Walk
import Derived.Test.YtlehncfehoelbaaGreatDoorCq02
import Derived.Test.YtlehncfehoelbaaGreatDoorCq04
import Derived.Test.YtlehncfehoelbaaGreatDoorCq06
namespace Go.Proofs.YtlehncfehoelbaaGreatDoor
open Go.RowKit
set_option maxRecDepth 100000
set_option linter.unusedSimpArgs false
set_option linter.unusedVariables false
structure NoV where
 k : Int
 mode : Int
 uid : Int
 gid : Int
 time : Int
 size : Int
 da : Option Addr
 dl : Nat
 dc : Nat
 data : List Int
 target : ByteArray
 dev : Int
 aa : Option Addr
 al : Nat
 ac : Nat
 attrs : List AtV
 ka : Option Addr
 kl : Nat
 kc : Nat
 kids : List Kd
 parent : Int
 links : Int
def NoV.no (X : NoV) : No := ⟨X.k, X.mode, X.uid, X.gid, X.time, X.size, X.data, X.target.toList, X.dev, X.attrs.map AtV.at, X.kids, X.parent, X.links⟩
structure NoV.ok (X : NoV) (w : World) : Prop where
 row : Row w X.da X.dl X.data
 ats : Ats w X.aa X.al X.attrs
 kds : Kds w X.ka X.kl X.kids
structure NoAt (w : World) (b o : Nat) (X : NoV) : Prop where
 c0 : w.cell? ⟨b, o, none⟩ = some (.int .i64 X.k)
 c1 : w.cell? ⟨b, o + 1, none⟩ = some (.int .i64 X.mode)
 c2 : w.cell? ⟨b, o + 2, none⟩ = some (.int .i64 X.uid)
 c3 : w.cell? ⟨b, o + 3, none⟩ = some (.int .i64 X.gid)
 c4 : w.cell? ⟨b, o + 4, none⟩ = some (.int .i64 X.time)
 c5 : w.cell? ⟨b, o + 5, none⟩ = some (.int .i64 X.size)
 c6 : w.cell? ⟨b, o + 6, none⟩ = some (.slice X.da X.dl X.dc)
 c7 : w.cell? ⟨b, o + 7, none⟩ = some (.string X.target)
 c8 : w.cell? ⟨b, o + 8, none⟩ = some (.int .i64 X.dev)
 c9 : w.cell? ⟨b, o + 9, none⟩ = some (.slice X.aa X.al X.ac)
 c10 : w.cell? ⟨b, o + 10, none⟩ = some (.slice X.ka X.kl X.kc)
 c11 : w.cell? ⟨b, o + 11, none⟩ = some (.int .i64 X.parent)
 c12 : w.cell? ⟨b, o + 12, none⟩ = some (.int .i64 X.links)
 ok : X.ok w
structure Nos (w : World) (a : Option Addr) (len : Nat) (l : List NoV) : Prop where
 len_eq : l.length = len
 le : len ≤ maxLen
 at_ : 0 < len → ∃ b off, a = some ⟨b, off, none⟩ ∧ ∀ (i : Nat) (X : NoV), l[i]? = some X → NoAt w b (off + i * 13) X
theorem NoV.ok.grown {X : NoV} {w w' : World} (h : X.ok w) (g : w.grownBy w' none) : X.ok w' := ⟨h.row.grown g, h.ats.grown g, h.kds.grown g⟩
theorem NoAt.grown {w w' : World} {b o : Nat} {X : NoV} (h : NoAt w b o X) (g : w.grownBy w' none) : NoAt w' b o X :=
 ⟨cell_grown h.c0 g, cell_grown h.c1 g, cell_grown h.c2 g, cell_grown h.c3 g, cell_grown h.c4 g, cell_grown h.c5 g, cell_grown h.c6 g, cell_grown h.c7 g, cell_grown h.c8 g, cell_grown h.c9 g, cell_grown h.c10 g, cell_grown h.c11 g, cell_grown h.c12 g, h.ok.grown g⟩
theorem Nos.grown {w w' : World} {a : Option Addr} {len : Nat} {l : List NoV} (h : Nos w a len l) (g : w.grownBy w' none) : Nos w' a len l :=
 ⟨h.len_eq, h.le, fun h0 => by obtain ⟨b, off, e, k⟩ := h.at_ h0; exact ⟨b, off, e, fun i X hX => (k i X hX).grown g⟩⟩
def sameNo (x y : No) : Bool := (x.k == y.k) && ((x.mode == y.mode) && ((x.uid == y.uid) && ((x.gid == y.gid) && ((x.time == y.time) && ((x.size == y.size) && (decide (x.data = y.data) && ((x.target == y.target) && ((x.dev == y.dev) && ((x.parent == y.parent) && ((x.links == y.links) && (sameAts x.attrs y.attrs && sameKds x.kids y.kids)))))))))))
def sameNos : List No → List No → Bool
 | [], [] => true
 | x :: a, y :: b => sameNo x y && sameNos a b
 | _, _ => false
theorem sameNos_len {a b : List No} (h : a.length ≠ b.length) : sameNos a b = false := by
 induction a generalizing b with
 | nil => cases b with
  | nil => simp at h
  | cons y b => rfl
 | cons x a ih => cases b with
  | nil => rfl
  | cons y b => rw [sameNos, ih (by simpa using h), Bool.and_false]
def nos (l : List NoV) : List No := l.map NoV.no
theorem nos_len (l : List NoV) : (nos l).length = l.length := by unfold nos; rw [List.length_map]
theorem sameNos_step {a b : List NoV} {k : Nat} {x y : NoV} (hx : a[k]? = some x) (hy : b[k]? = some y) : sameNos ((nos a).drop k) ((nos b).drop k) = (sameNo x.no y.no && sameNos ((nos a).drop (k + 1)) ((nos b).drop (k + 1))) := by
 have h1 : k < a.length := by
  rcases Nat.lt_or_ge k a.length with h | h
  ·exact h
  ·rw [List.getElem?_eq_none h] at hx; cases hx
 have h2 : k < b.length := by
  rcases Nat.lt_or_ge k b.length with h | h
  ·exact h
  ·rw [List.getElem?_eq_none h] at hy; cases hy
 rw [List.getElem?_eq_getElem h1] at hx
 rw [List.getElem?_eq_getElem h2] at hy
 injection hx with hx
 injection hy with hy
 unfold nos
 rw [List.drop_eq_getElem_cons (l := a.map NoV.no) (i := k) (by rw [List.length_map]; exact h1), List.drop_eq_getElem_cons (l := b.map NoV.no) (i := k) (by rw [List.length_map]; exact h2), sameNos, List.getElem_map, List.getElem_map, hx, hy]
theorem sameNo_eq (x y : No) : sameNo x y = true ↔ x = y := by
 obtain ⟨x0, x1, x2, x3, x4, x5, x6, x7, x8, x9, x10, x11, x12⟩ := x
 obtain ⟨y0, y1, y2, y3, y4, y5, y6, y7, y8, y9, y10, y11, y12⟩ := y
 simp only [sameNo, Bool.and_eq_true, beq_iff_eq, decide_eq_true_eq, sameAts_eq, sameKds_eq, No.mk.injEq]
 constructor
 ·rintro ⟨h0, h1, h2, h3, h4, h5, h6, h7, h8, h9, h10, h11, h12⟩
  exact ⟨h0, h1, h2, h3, h4, h5, h6, h7, h8, h11, h12, h9, h10⟩
 ·rintro ⟨h0, h1, h2, h3, h4, h5, h6, h7, h8, h11, h12, h9, h10⟩
  exact ⟨h0, h1, h2, h3, h4, h5, h6, h7, h8, h9, h10, h11, h12⟩
theorem sameNos_eq (a b : List No) : sameNos a b = true ↔ a = b := by
 induction a generalizing b with
 | nil => cases b <;> simp [sameNos]
 | cons x a ih => cases b with
  | nil => simp [sameNos]
  | cons y b => rw [sameNos, Bool.and_eq_true, ih, List.cons.injEq, sameNo_eq]
theorem grown_setRow (w : World) (g : Nat) (cs : Array Value) : w.grownBy (w.setRow g cs) (some g) := ⟨rfl, rfl, rfl, by simp [World.setRow], fun k _ hk => setRow_other w g k _ (fun e => hk (by rw [e]))⟩
theorem step_store_bx {P : Program} {w : World} {ops : Array Oper} {o : Oper} {a : Act} {K : Act → World → Prop} {Q : Exit → Act → World → Prop} {E : Prop} (hgd : o.guard = none) (ty : TypeId) (x y : Operand) (ho : o.op = .store ty x y)
  (g : Nat) (cs : List Value) (hx : a.eval x = .pointer (some ⟨g, 0, none⟩)) (hy : a.eval y = .agg cs.toArray) {T : TypeId} {old : List Value} (hb : Bx w g T old) (hi : (P.info? ty).map (·.size) = some cs.length)
  (hl : old.length = cs.length) (h1 : cs.all (·.oneCell') = true)
  (h : ∀ W', Bx W' g T cs → w.grownBy W' (some g) → K (a.put o.dst undef) W') : if Region.wanted o (yielded ops a.tmps) = true then Oper.wp P o a w K Q else E := by
 rw [if_pos (by simp [Region.wanted, hgd])]
 exact wp_store_row ty x y ho g cs.toArray hx hy T old.toArray hb.blk (by rw [List.size_toArray]; exact hi) (by simp [hl]) (by rw [List.all_toArray]; exact h1) (h _ ⟨setRow_heap _ _ _ _ _ _ hb.blk⟩ (grown_setRow w g cs.toArray))
theorem drewG0 (w : World) : w.grownBy w.drew none := ⟨rfl, rfl, rfl, Nat.le_refl _, fun _ _ _ => rfl⟩
theorem node_size : (Tryz.prog.info? 43).map (·.size) = some 13 := by kernel_rfl
structure Nv (w W : World) (gx : Nat) (xc : List Value) : Prop where
 x : Bx W gx 30 xc
 z : Bx W (gx + 1) 43 [.int .i64 0, .int .i64 0, .int .i64 0, .int .i64 0, .int .i64 0, .int .i64 0, .slice none 0 0, .string ⟨#[]⟩, .int .i64 0, .slice none 0 0, .slice none 0 0, .int .i64 0, .int .i64 0]
 gr : w.grownBy W none
 sz : w.heap.size = gx
theorem Nv.kept {w W W' : World} {gx : Nat} {xc : List Value} (h : Nv w W gx xc) (k : W.grownBy W' none) : Nv w W' gx xc := ⟨h.x.kept k, h.z.kept k, xgt h.gr k, h.sz⟩
theorem Nv.but {w W W' : World} {gx g : Nat} {xc : List Value} (h : Nv w W gx xc) (k : W.grownBy W' (some g)) (hg : gx + 1 < g) : Nv w W' gx xc := ⟨h.x.but k (by intro e; injection e with e; omega), h.z.but k (by intro e; injection e with e; omega), grown_new h.gr k (by have := h.sz; omega), h.sz⟩
theorem bx11 {W : World} {g : Nat} {T : TypeId} {x0 x1 x2 x3 x4 x5 x6 x7 x8 x9 x10 : Value} (h : Bx W g T [x0, x1, x2, x3, x4, x5, x6, x7, x8, x9, x10]) : W.cell? ⟨g, 0, none⟩ = some x0 ∧ W.cell? ⟨g, 1, none⟩ = some x1 ∧ W.cell? ⟨g, 2, none⟩ = some x2 ∧ W.cell? ⟨g, 3, none⟩ = some x3 ∧ W.cell? ⟨g, 4, none⟩ = some x4 ∧ W.cell? ⟨g, 5, none⟩ = some x5 ∧ W.cell? ⟨g, 6, none⟩ = some x6 ∧ W.cell? ⟨g, 7, none⟩ = some x7 ∧ W.cell? ⟨g, 8, none⟩ = some x8 ∧ W.cell? ⟨g, 9, none⟩ = some x9 ∧ W.cell? ⟨g, 10, none⟩ = some x10 := ⟨h.c 0, h.c 1, h.c 2, h.c 3, h.c 4, h.c 5, h.c 6, h.c 7, h.c 8, h.c 9, h.c 10⟩
theorem Nv.new (w : World) (xc : List Value) : Nv w ((w.alloc (.cells xc.toArray 30)).alloc (.cells #[.int .i64 0, .int .i64 0, .int .i64 0, .int .i64 0, .int .i64 0, .int .i64 0, .slice none 0 0, .string ⟨#[]⟩, .int .i64 0, .slice none 0 0, .slice none 0 0, .int .i64 0, .int .i64 0] 43)) w.heap.size xc := by
 have h2 := Bx.new (w.alloc (.cells xc.toArray 30)) 43 [.int .i64 0, .int .i64 0, .int .i64 0, .int .i64 0, .int .i64 0, .int .i64 0, .slice none 0 0, .string ⟨#[]⟩, .int .i64 0, .slice none 0 0, .slice none 0 0, .int .i64 0, .int .i64 0]
 simp only [World.size_alloc] at h2
 exact ⟨(Bx.new w 30 xc).kept (xga _ _ _), h2, xgt (xga _ _ _) (xga _ _ _), rfl⟩
theorem own_shape {W : World} {b e n s : Nat} {v : Value} {xs : List Value} (h : W.ownsRow b e s v n xs) : ∃ a c, v = .slice a n c := by
 rcases h.2 with ⟨e, h0⟩ | ⟨g, c, cur, e, _⟩
 ·exact ⟨none, 0, by rw [e, h0]⟩
 ·exact ⟨_, c, e⟩
structure Nw (w W : World) (gx gn : Nat) (xc nc : List Value) (v : Value) (out : List AtV) : Prop where
 nv : Nv w W gx xc
 n : Bx W gn 43 nc
 lt : gx + 1 < gn
 own : W.ownsRow (gx + 2) 45 2 v out.length (out.flatMap avc)
 ne : v.ownBlock ≠ some gn
theorem Nw.kept {w W W' : World} {gx gn : Nat} {xc nc : List Value} {v : Value} {out : List AtV} (h : Nw w W gx gn xc nc v out) (k : W.grownBy W' none) : Nw w W' gx gn xc nc v out := ⟨h.nv.kept k, h.n.kept k, h.lt, owns_kept11 h.own k, h.ne⟩
theorem Nw.set {w W : World} {gx gn : Nat} {xc nc : List Value} {v : Value} {out : List AtV} (h : Nw w W gx gn xc nc v out) (i : Nat) (u : Value) : Nw w (W.setCell ⟨gn, i, none⟩ u) gx gn xc (nc.set i u) v out := ⟨h.nv.but (grown_set _ _ _ _) h.lt, h.n.set i u, h.lt, h.own.kept (grown_set _ _ _ _) (Or.inr h.ne), h.ne⟩
theorem Nw.fin {w W W9 : World} {gx gn : Nat} {xc nc nc' : List Value} {v : Value} {out : List AtV} (h : Nw w W gx gn xc nc v out) (hz : Bx W9 (gx + 1) 43 nc') (g : W.grownBy W9 (some (gx + 1))) : w.grownBy W9 none ∧ W9.ownsRow (gx + 2) 45 2 v out.length (out.flatMap avc) := by
 refine ⟨grown_new h.nv.gr g (by have := h.nv.sz; omega), h.own.kept g ?_⟩
 right
 intro e
 have := (h.own.lt _ e).1
 omega
theorem bx13 {W : World} {g : Nat} {T : TypeId} {x0 x1 x2 x3 x4 x5 x6 x7 x8 x9 x10 x11 x12 : Value} (h : Bx W g T [x0, x1, x2, x3, x4, x5, x6, x7, x8, x9, x10, x11, x12]) : W.cell? ⟨g, 0, none⟩ = some x0 ∧ W.cell? ⟨g, 1, none⟩ = some x1 ∧ W.cell? ⟨g, 2, none⟩ = some x2 ∧ W.cell? ⟨g, 3, none⟩ = some x3 ∧ W.cell? ⟨g, 4, none⟩ = some x4 ∧ W.cell? ⟨g, 5, none⟩ = some x5 ∧ W.cell? ⟨g, 6, none⟩ = some x6 ∧ W.cell? ⟨g, 7, none⟩ = some x7 ∧ W.cell? ⟨g, 8, none⟩ = some x8 ∧ W.cell? ⟨g, 9, none⟩ = some x9 ∧ W.cell? ⟨g, 10, none⟩ = some x10 ∧ W.cell? ⟨g, 11, none⟩ = some x11 ∧ W.cell? ⟨g, 12, none⟩ = some x12 := ⟨h.c 0, h.c 1, h.c 2, h.c 3, h.c 4, h.c 5, h.c 6, h.c 7, h.c 8, h.c 9, h.c 10, h.c 11, h.c 12⟩
theorem node_here {P : Program} {w : World} {ops : Array Oper} {rest : List Oper} {a : Act} {Q : Exit → Act → World → Prop} {dst : Option Nat} {x y : Operand} {type : TypeId} {pos : String} {after : Array Edge} {guard : Option (Nat × Bool)}
  (h : wpList P ops Q (⟨dst, .store 43 x y, type, pos, after, guard⟩ :: rest) a w) : wpList P ops Q (⟨dst, .store 43 x y, type, pos, after, guard⟩ :: rest) a w := h
theorem wpList_store_bx13 {P : Program} {ops : Array Oper} {rest : List Oper} {o : Oper} {a : Act} {w : World} {Q : Exit → Act → World → Prop} (hgd : o.guard = none) (ty : TypeId) (x y : Operand) (ho : o.op = .store ty x y)
  (g : Nat) (cs : List Value) (hx : a.eval x = .pointer (some ⟨g, 0, none⟩)) (hy : a.eval y = .agg cs.toArray) {T : TypeId} {old : List Value} (hb : Bx w g T old) (hi : (P.info? ty).map (·.size) = some cs.length)
  (hl : old.length = cs.length) (h1 : cs.all (·.oneCell') = true)
  (h : ∀ W', Bx W' g T cs → w.grownBy W' (some g) → wpList P ops Q rest (a.put o.dst undef) W') : wpList P ops Q (o :: rest) a w :=
 wpList_store_row hgd ty x y ho g cs.toArray hx hy T old.toArray hb.blk (by rw [List.size_toArray]; exact hi) (by simp [hl]) (by rw [List.all_toArray]; exact h1) (h _ ⟨setRow_heap _ _ _ _ _ _ hb.blk⟩ (grown_setRow w g cs.toArray))
theorem row_take {w : World} {a : Option Addr} {l m : Nat} {xs : List Int} (R : Row w a l xs) (h : m ≤ l) : Row w a m (xs.take m) := by
 refine ⟨by rw [List.length_take, R.len_eq]; omega, Nat.le_trans h R.le, fun x hx => R.byt x (List.mem_of_mem_take hx), fun h0 => ?_⟩
 obtain ⟨b, o, e, hc⟩ := R.cells (by omega)
 refine ⟨b, o, e, fun i hi => ?_⟩
 rw [hc i (by omega), List.getD_eq_getElem?_getD, List.getD_eq_getElem?_getD, List.getElem?_take, if_pos hi]
theorem row_zero (a : Option Addr) {w : World} : Row w a 0 [] := ⟨rfl, Nat.zero_le _, fun _ h => (by cases h), fun h => by omega⟩
theorem tl_nil : (⟨#[]⟩ : ByteArray).toList = [] := by simp [ByteArray.toList_eq]
theorem kds_none (w : World) : Kds w none 0 [] := ⟨rfl, Nat.zero_le _, fun h => by omega⟩
def NoV.val (X : NoV) : Value := .agg #[.int .i64 X.k, .int .i64 X.mode, .int .i64 X.uid, .int .i64 X.gid, .int .i64 X.time, .int .i64 X.size, .slice X.da X.dl X.dc, .string X.target, .int .i64 X.dev, .slice X.aa X.al X.ac, .slice X.ka X.kl X.kc, .int .i64 X.parent, .int .i64 X.links]
theorem strip_zero {l : List Int} {n : Nat} (hn : n < l.length) (h : l.getD n 0 = 0) : strip (l.take (n + 1)) = strip (l.take n) := by
 have e : l.take (n + 1) = l.take n ++ List.replicate 1 0 := by
  rw [List.take_succ_eq_append_getElem hn]
  rw [List.getD_eq_getElem?_getD, List.getElem?_eq_getElem hn] at h
  simp at h
  rw [h]
  rfl
 rw [e, strip_zeros]
theorem strip_stop {l : List Int} {n : Nat} (hn : n < l.length) (h : l.getD n 0 ≠ 0) : strip (l.take (n + 1)) = l.take (n + 1) := by
 rw [List.take_succ_eq_append_getElem hn]
 rw [List.getD_eq_getElem?_getD, List.getElem?_eq_getElem hn] at h
 unfold strip
 rw [List.reverse_append]
 have : ([l[n]].reverse ++ (l.take n).reverse).dropWhile (· == 0) = [l[n]].reverse ++ (l.take n).reverse := by
  simp only [List.reverse_cons, List.reverse_nil, List.nil_append, List.cons_append]
  rw [List.dropWhile_cons, if_neg (by simpa using h)]
 rw [this, ← List.reverse_append, List.reverse_reverse]
def dlen (gn : Nat) (w : World) : Nat := match w.cell? ⟨gn, 6, none⟩ with
 | some (.slice _ n _) => n
 | _ => 0
theorem srtV_atts {l out : List AtV} (h : srtV l l.length [] = out) : out.map AtV.at = srtA (l.map AtV.at) (l.map AtV.at).length [] := by
 rw [← h, srtV_map, List.length_map]
 rfl
theorem srt_rows {w W : World} {a : Option Addr} {n : Nat} {l : List AtV} (h : Ats w a n l) (g : w.grownBy W none) : ∀ A ∈ srtV l l.length [], Row W A.a A.len A.v ∧ A.len ≤ A.cap := by
 intro A hA
 have hm := srtV_mem l l.length [] (fun _ h => by cases h) A hA
 obtain ⟨i, hi⟩ := List.mem_iff_getElem?.1 hm
 obtain ⟨b, o, _, k⟩ := h.at_ (by have := (List.getElem?_eq_some_iff.1 hi).1; have := h.len_eq; omega)
 exact ⟨(k i A hi).row.grown g, (k i A hi).cap⟩
def nz12 : NoV := ⟨0, 0, 0, 0, 0, 0, none, 0, 0, [], ⟨#[]⟩, 0, none, 0, 0, [], none, 0, 0, [], 0, 0⟩
set_option maxHeartbeats 4000000 in
theorem pnode_ok (w : World) (mb : Nat) (a : Option Addr) (n c : Nat) (mv : Value) (ns : List NoV) (hb : Bx w mb 98 [.slice a n c, mv]) (hN : Nos w a n ns) (i : Nat) (X : NoV) (hX : ns[i]? = some X) :
  Calls Tryz.prog 51 #[.pointer (some ⟨mb, 0, none⟩), .int .i64 i] w fun e w' => e = .returned (.tuple #[X.val, .int .i64 0]) ∧ w.grownBy w' none := by
 have hi : i < n := by rw [← hN.len_eq]; exact (List.getElem?_eq_some_iff.1 hX).1
 have hle := hN.le
 obtain ⟨b, off, rfl, hat⟩ := hN.at_ (by omega)
 have gA := xga w (.cells #[.int .i64 0, .int .i64 0, .int .i64 0, .int .i64 0, .int .i64 0, .int .i64 0, .slice none 0 0, .string ⟨#[]⟩, .int .i64 0, .slice none 0 0, .slice none 0 0, .int .i64 0, .int .i64 0] 43) none
 have bA := Bx.new w 43 [.int .i64 0, .int .i64 0, .int .i64 0, .int .i64 0, .int .i64 0, .int .i64 0, .slice none 0 0, .string ⟨#[]⟩, .int .i64 0, .slice none 0 0, .slice none 0 0, .int .i64 0, .int .i64 0]
 obtain ⟨y0, y1, y2, y3, y4, y5, y6, y7, y8, y9, y10, y11, y12, -⟩ := (hat i X hX).grown gA
 have x0 : _ = some _ := (hb.kept gA).c 0
 obtain ⟨NK, mo, uid, gid, ti, sz_, da, dl, dc, data, tg, dev, aa, al, ac, attrs, ka, kl, kc, kids, pa, lk⟩ := X
 simp only at y0 y1 y2 y3 y4 y5 y6 y7 y8 y9 y10 y11 y12
 have h0 : ¬ ((i : Int) < 0) := by omega
 have h1 : ¬ ((n : Int) ≤ (i : Int)) := by omega
 have h2 : (i : Int) < (n : Int) := by omega
 have HA : Hid _ := xai gA bA
 clear hat hX hN hb gA bA
 go_enter Tryz.func51, Tryz.ntmps51
 go_wp2_with ((with_reducible refine node_here ?_); refine wpList_store_bx13 rfl 43 _ _ rfl w.heap.size [.int .i64 NK, .int .i64 mo, .int .i64 uid, .int .i64 gid, .int .i64 ti, .int .i64 sz_, .slice da dl dc, .string tg, .int .i64 dev, .slice aa al ac, .slice ka kl kc, .int .i64 pa, .int .i64 lk] rfl rfl HA.out.2 node_size rfl rfl ?_; intro W9 hz9 g9)
 obtain ⟨z0, z1, z2, z3, z4, z5, z6, z7, z8, z9, z10, z11, z12⟩ := bx13 hz9
 refine bodyPost_ret (v := .tuple #[.agg #[.int .i64 NK, .int .i64 mo, .int .i64 uid, .int .i64 gid, .int .i64 ti, .int .i64 sz_, .slice da dl dc, .string tg, .int .i64 dev, .slice aa al ac, .slice ka kl kc, .int .i64 pa, .int .i64 lk], .int .i64 0]) (by simp [results, Tryz.results51, go_sem, *]) rfl ?_
 exact ⟨rfl, grown_new HA.out.1 g9 (Nat.le_refl _)⟩
set_option maxHeartbeats 4000000 in
theorem pnode_bad (w : World) (mb : Nat) (a : Option Addr) (n c : Nat) (mv : Value) (hb : Bx w mb 98 [.slice a n c, mv]) (i : Int) (hi : i < 0 ∨ (n : Int) ≤ i) :
  Calls Tryz.prog 51 #[.pointer (some ⟨mb, 0, none⟩), .int .i64 i] w fun e w' => e = .returned (.tuple #[nz12.val, .int .i64 9]) ∧ w.grownBy w' none := by
 have gA := xga w (.cells #[.int .i64 0, .int .i64 0, .int .i64 0, .int .i64 0, .int .i64 0, .int .i64 0, .slice none 0 0, .string ⟨#[]⟩, .int .i64 0, .slice none 0 0, .slice none 0 0, .int .i64 0, .int .i64 0] 43) none
 have bA := Bx.new w 43 [.int .i64 0, .int .i64 0, .int .i64 0, .int .i64 0, .int .i64 0, .int .i64 0, .slice none 0 0, .string ⟨#[]⟩, .int .i64 0, .slice none 0 0, .slice none 0 0, .int .i64 0, .int .i64 0]
 have x0 : _ = some _ := (hb.kept gA).c 0
 have HA : Hid _ := xai gA bA
 clear hb gA bA
 rcases Int.lt_or_le i 0 with h0 | h0
 ·clear hi
  go_enter Tryz.func51, Tryz.ntmps51
  go_wp2_with ((with_reducible refine node_here ?_); refine wpList_store_bx13 rfl 43 _ _ rfl w.heap.size [.int .i64 0, .int .i64 0, .int .i64 0, .int .i64 0, .int .i64 0, .int .i64 0, .slice none 0 0, .string ⟨#[]⟩, .int .i64 0, .slice none 0 0, .slice none 0 0, .int .i64 0, .int .i64 0] rfl rfl HA.out.2 node_size rfl rfl ?_; intro W9 hz9 g9)
  obtain ⟨z0, z1, z2, z3, z4, z5, z6, z7, z8, z9, z10, z11, z12⟩ := bx13 hz9
  refine bodyPost_ret (v := .tuple #[nz12.val, .int .i64 9]) (by simp [results, Tryz.results51, go_sem, NoV.val, nz12, *]) rfl ?_
  exact ⟨rfl, grown_new HA.out.1 g9 (Nat.le_refl _)⟩
 ·have h1 : (n : Int) ≤ i := by omega
  have h0' : ¬ i < 0 := by omega
  clear hi
  go_enter Tryz.func51, Tryz.ntmps51
  go_wp2_with ((with_reducible refine node_here ?_); refine wpList_store_bx13 rfl 43 _ _ rfl w.heap.size [.int .i64 0, .int .i64 0, .int .i64 0, .int .i64 0, .int .i64 0, .int .i64 0, .slice none 0 0, .string ⟨#[]⟩, .int .i64 0, .slice none 0 0, .slice none 0 0, .int .i64 0, .int .i64 0] rfl rfl HA.out.2 node_size rfl rfl ?_; intro W9 hz9 g9)
  obtain ⟨z0, z1, z2, z3, z4, z5, z6, z7, z8, z9, z10, z11, z12⟩ := bx13 hz9
  refine bodyPost_ret (v := .tuple #[nz12.val, .int .i64 9]) (by simp [results, Tryz.results51, go_sem, NoV.val, nz12, *]) rfl ?_
  exact ⟨rfl, grown_new HA.out.1 g9 (Nat.le_refl _)⟩
def knd (L : List No) (i k : Int) : Int := if i < 0 ∨ (L.length : Int) ≤ i then 9 else if 0 < k ∧ (L[i.toNat]?).map No.k ≠ some k then 8 else 0
theorem knd_range {L : List No} {i k : Int} (h : i < 0 ∨ (L.length : Int) ≤ i) : knd L i k = 9 := by unfold knd; rw [if_pos h]
theorem nos_get12 {ns : List NoV} {i : Nat} {X : NoV} (h : ns[i]? = some X) : (nos ns)[i]? = some X.no := by unfold nos; rw [List.getElem?_map, h]; rfl
theorem knd_at {ns : List NoV} {i : Nat} {X : NoV} (h : ns[i]? = some X) (k : Int) : knd (nos ns) i k = if 0 < k ∧ X.k ≠ k then 8 else 0 := by
 have hi := (List.getElem?_eq_some_iff.1 h).1
 unfold knd
 rw [if_neg (by rw [nos_len]; omega), Int.toNat_natCast, nos_get12 h]
 congr 1
 simp [NoV.no]
theorem knd_zero {ns : List NoV} {i k : Int} (h : knd (nos ns) i k = 0) : ∃ (j : Nat) (X : NoV), i = (j : Int) ∧ ns[j]? = some X ∧ (0 < k → X.k = k) := by
 by_cases h1 : i < 0 ∨ ((nos ns).length : Int) ≤ i
 ·rw [knd_range h1] at h; cases h
 ·rw [nos_len] at h1
  obtain ⟨j, rfl⟩ : ∃ j : Nat, i = (j : Int) := ⟨i.toNat, by omega⟩
  obtain ⟨X, hX⟩ : ∃ X, ns[j]? = some X := ⟨_, List.getElem?_eq_getElem (by omega)⟩
  refine ⟨j, X, rfl, hX, fun hk => ?_⟩
  rw [knd_at hX] at h
  by_cases h2 : X.k = k
  ·exact h2
  ·rw [if_pos ⟨hk, h2⟩] at h; cases h
theorem knd_cases (ns : List NoV) (i k : Int) : (i < 0 ∨ (ns.length : Int) ≤ i) ∨ (∃ (j : Nat) (X : NoV), i = (j : Int) ∧ ns[j]? = some X) := by
 by_cases h1 : i < 0 ∨ (ns.length : Int) ≤ i
 ·exact Or.inl h1
 ·obtain ⟨j, rfl⟩ : ∃ j : Nat, i = (j : Int) := ⟨i.toNat, by omega⟩
  exact Or.inr ⟨j, _, rfl, List.getElem?_eq_getElem (by omega)⟩
set_option maxHeartbeats 2000000 in
theorem rkind_any (w : World) (a : Option Addr) (n c : Nat) (ns : List NoV) (hN : Nos w a n ns) (i k : Int) :
  Calls Tryz.prog 50 #[.agg #[.slice a n c], .int .i64 i, .int .i64 k] w fun e w' => e = .returned (.int .i64 (knd (nos ns) i k)) ∧ w.grownBy w' none := by
 have hl := hN.len_eq
 have gA := xga w (.cells #[.slice a n c] 33) none
 have bA := Bx.new w 33 [.slice a n c]
 have t0 : _ = some _ := bA.c 0
 rcases knd_cases ns i k with h | ⟨j, X, rfl, hX⟩
 ·rw [knd_range (by rw [nos_len]; exact h)]
  rw [hl] at h
  have HG : Hid _ := gA
  clear gA bA hN hl
  rcases Int.lt_or_le i 0 with h0 | h0
  ·clear h
   go_enter Tryz.func50, Tryz.ntmps50
   go_wp2
   go_ret
   exact ⟨rfl, HG.out⟩
  ·have h1 : (n : Int) ≤ i := by omega
   have h0' : ¬ i < 0 := by omega
   clear h
   go_enter Tryz.func50, Tryz.ntmps50
   go_wp2
   go_ret
   exact ⟨rfl, HG.out⟩
 ·rw [knd_at hX]
  have hj := (List.getElem?_eq_some_iff.1 hX).1
  rw [hl] at hj
  obtain ⟨b, off, rfl, hat⟩ := hN.at_ (by omega)
  have y0 := ((hat j X hX).grown gA).c0
  have hle := hN.le
  have h0 : ¬ ((j : Int) < 0) := by omega
  have h1 : ¬ ((n : Int) ≤ (j : Int)) := by omega
  have h2 : (j : Int) < (n : Int) := by omega
  have HG : Hid _ := gA
  clear gA bA hN hl hat hX
  generalize X.k = XK at *
  by_cases hk : 0 < k
  ·by_cases hx : XK = k
   ·subst hx
    rw [if_neg (by simp)]
    go_enter Tryz.func50, Tryz.ntmps50
    go_wp2
    go_ret
    exact ⟨rfl, HG.out⟩
   ·rw [if_pos ⟨hk, hx⟩]
    have hb : (XK == k) = false := by rw [beq_eq_false_iff_ne]; exact hx
    have hb2 : (XK != k) = true := by simp [hx]
    go_enter Tryz.func50, Tryz.ntmps50
    go_wp2
    go_ret
    exact ⟨rfl, HG.out⟩
  ·rw [if_neg (fun e => hk e.1)]
   go_enter Tryz.func50, Tryz.ntmps50
   go_wp2
   go_ret
   exact ⟨rfl, HG.out⟩
theorem bxz13 (w : World) : Bx (w.alloc (.cells #[.int .i64 0, .int .i64 0, .int .i64 0, .int .i64 0, .int .i64 0, .int .i64 0, .slice none 0 0, .string ⟨#[]⟩, .int .i64 0, .slice none 0 0, .slice none 0 0, .int .i64 0, .int .i64 0] 43)) w.heap.size 43 [.int .i64 0, .int .i64 0, .int .i64 0, .int .i64 0, .int .i64 0, .int .i64 0, .slice none 0 0, .string ⟨#[]⟩, .int .i64 0, .slice none 0 0, .slice none 0 0, .int .i64 0, .int .i64 0] := Bx.new w 43 _
theorem pnode12_any (w : World) (mb : Nat) (a : Option Addr) (n c : Nat) (mv : Value) (ns : List NoV) (hb : Bx w mb 98 [.slice a n c, mv]) (hN : Nos w a n ns) (i : Int) :
  Calls Tryz.prog 51 #[.pointer (some ⟨mb, 0, none⟩), .int .i64 i] w fun e w' => ∃ X : NoV, e = .returned (.tuple #[X.val, .int .i64 (knd (nos ns) i 0)]) ∧ (knd (nos ns) i 0 = 0 → 0 ≤ i ∧ ns[i.toNat]? = some X) ∧ (knd (nos ns) i 0 ≠ 0 → X = nz12) ∧ w.grownBy w' none := by
 rcases knd_cases ns i 0 with h | ⟨j, X, rfl, hX⟩
 ·rw [knd_range (by rw [nos_len]; exact h)]
  rw [hN.len_eq] at h
  refine (pnode_bad w mb a n c mv hb i h).mono ?_
  rintro e w' ⟨rfl, g⟩
  exact ⟨nz12, rfl, fun h => absurd h (by decide), fun _ => rfl, g⟩
 ·rw [knd_at hX, if_neg (fun e => by have := e.1; omega)]
  refine (pnode_ok w mb a n c mv ns hb hN j X hX).mono ?_
  rintro e w' ⟨rfl, g⟩
  exact ⟨X, rfl, fun _ => ⟨by omega, by rw [Int.toNat_natCast]; exact hX⟩, fun h => absurd rfl h, g⟩
set_option maxHeartbeats 4000000 in
theorem pofkind_any (w : World) (mb : Nat) (a : Option Addr) (n c : Nat) (mv : Value) (ns : List NoV) (hb : Bx w mb 98 [.slice a n c, mv]) (hN : Nos w a n ns) (i k : Int) (hk : 0 < k) :
  Calls Tryz.prog 46 #[.pointer (some ⟨mb, 0, none⟩), .int .i64 i, .int .i64 k] w fun e w' => ∃ X : NoV, e = .returned (.tuple #[X.val, .int .i64 (knd (nos ns) i k)]) ∧ (knd (nos ns) i k = 0 → 0 ≤ i ∧ ns[i.toNat]? = some X ∧ X.k = k) ∧ (knd (nos ns) i k ≠ 0 → X = nz12) ∧ w.grownBy w' none := by
 have gA := xga w (.cells #[.int .i64 0, .int .i64 0, .int .i64 0, .int .i64 0, .int .i64 0, .int .i64 0, .slice none 0 0, .string ⟨#[]⟩, .int .i64 0, .slice none 0 0, .slice none 0 0, .int .i64 0, .int .i64 0] 43) none
 have bA := bxz13 w
 have hpn := pnode12_any _ mb a n c mv ns (hb.kept gA) (hN.grown gA) i
 have HA : Hid _ := xai gA bA
 have hsz : w.heap.size < (w.alloc (.cells #[.int .i64 0, .int .i64 0, .int .i64 0, .int .i64 0, .int .i64 0, .int .i64 0, .slice none 0 0, .string ⟨#[]⟩, .int .i64 0, .slice none 0 0, .slice none 0 0, .int .i64 0, .int .i64 0] 43)).heap.size := by simp
 have HSZ : Hid _ := hsz
 clear gA bA hb hN hsz
 go_enter Tryz.func46, Tryz.ntmps46
 go_wp2_with fail
 generalize w.alloc (.cells #[.int .i64 0, .int .i64 0, .int .i64 0, .int .i64 0, .int .i64 0, .int .i64 0, .slice none 0 0, .string ⟨#[]⟩, .int .i64 0, .slice none 0 0, .slice none 0 0, .int .i64 0, .int .i64 0] 43) = WA at *
 refine hpn.mono ?_
 clear hpn
 rintro e W1 ⟨X, rfl, h0, h1, g1⟩
 have HX : Hid _ := xai h0 (xai h1 (xai (HA.out.2.kept g1) (xgt HA.out.1 g1)))
 clear h0 h1 g1 HA
 obtain ⟨NK, mo, uid, gid, ti, sz_, da, dl, dc, data, tg, dev, aa, al, ac, attrs, ka, kl, kc, kids, pa, lk⟩ := X
 simp only [NoV.val]
 have gB := xga W1 (.cells #[.int .i64 NK, .int .i64 mo, .int .i64 uid, .int .i64 gid, .int .i64 ti, .int .i64 sz_, .slice da dl dc, .string tg, .int .i64 dev, .slice aa al ac, .slice ka kl kc, .int .i64 pa, .int .i64 lk] 43) none
 have bB := Bx.new W1 43 [.int .i64 NK, .int .i64 mo, .int .i64 uid, .int .i64 gid, .int .i64 ti, .int .i64 sz_, .slice da dl dc, .string tg, .int .i64 dev, .slice aa al ac, .slice ka kl kc, .int .i64 pa, .int .i64 lk]
 obtain ⟨v0, v1, v2, v3, v4, v5, v6, v7, v8, v9, v10, v11, v12⟩ := bx13 bB
 have HB : Hid _ := xai gB bB
 clear gB bB
 have HKI : Hid (knd (nos ns) i k = if knd (nos ns) i 0 = 0 then (if NK = k then 0 else 8) else 9) := by
  show _ = _
  rcases knd_cases ns i 0 with h | ⟨j, Y, rfl, hY⟩
  ·rw [knd_range (by rw [nos_len]; exact h), knd_range (by rw [nos_len]; exact h), if_neg (by decide)]
  ·have e0 : knd (nos ns) j 0 = 0 := by rw [knd_at hY, if_neg (fun e => by have := e.1; omega)]
   have h2 := (HX.out.1 e0).2
   rw [Int.toNat_natCast, hY] at h2
   injection h2 with h2
   have h3 : Y.k = NK := by rw [h2]
   rw [e0, if_pos rfl, knd_at hY, h3]
   by_cases e : NK = k
   ·rw [if_pos e, if_neg (fun h => h.2 e)]
   ·rw [if_neg e, if_pos ⟨hk, e⟩]
 generalize hK0 : knd (nos ns) i 0 = K0 at *
 have HK0 : Hid _ := hK0
 clear hK0
 by_cases hz : K0 = 0
 ·subst hz
  by_cases hkk : NK = k
  ·subst hkk
   have HK1 : Hid (knd (nos ns) i NK = 0) := by show _ = _; rw [HKI.out, if_pos rfl, if_pos rfl]
   clear HKI
   go_wp2_with ((with_reducible refine node_here ?_); refine wpList_store_bx13 rfl 43 _ _ rfl w.heap.size [.int .i64 NK, .int .i64 mo, .int .i64 uid, .int .i64 gid, .int .i64 ti, .int .i64 sz_, .slice da dl dc, .string tg, .int .i64 dev, .slice aa al ac, .slice ka kl kc, .int .i64 pa, .int .i64 lk] rfl rfl (HX.out.2.2.1.kept HB.out.1) node_size rfl rfl ?_; intro W9 hz9 g9)
   obtain ⟨z0, z1, z2, z3, z4, z5, z6, z7, z8, z9, z10, z11, z12⟩ := bx13 hz9
   refine bodyPost_ret (v := .tuple #[.agg #[.int .i64 NK, .int .i64 mo, .int .i64 uid, .int .i64 gid, .int .i64 ti, .int .i64 sz_, .slice da dl dc, .string tg, .int .i64 dev, .slice aa al ac, .slice ka kl kc, .int .i64 pa, .int .i64 lk], .int .i64 0]) (by simp [results, Tryz.results46, go_sem, *]) rfl ?_
   rw [HK1.out]
   exact ⟨_, rfl, fun _ => ⟨(HX.out.1 trivial).1, (HX.out.1 trivial).2, rfl⟩, fun h => absurd rfl h, grown_new (xgt HX.out.2.2.2 HB.out.1) g9 (Nat.le_refl _)⟩
  ·have hb : (NK == k) = false := by rw [beq_eq_false_iff_ne]; exact hkk
   have hb2 : (NK != k) = true := by simp [hkk]
   have HK1 : Hid (knd (nos ns) i k = 8) := by show _ = _; rw [HKI.out, if_pos rfl, if_neg hkk]
   clear HKI
   go_wp2_with ((with_reducible refine node_here ?_); refine wpList_store_bx13 rfl 43 _ _ rfl w.heap.size [.int .i64 0, .int .i64 0, .int .i64 0, .int .i64 0, .int .i64 0, .int .i64 0, .slice none 0 0, .string ⟨#[]⟩, .int .i64 0, .slice none 0 0, .slice none 0 0, .int .i64 0, .int .i64 0] rfl rfl (HX.out.2.2.1.kept HB.out.1) node_size rfl rfl ?_; intro W9 hz9 g9)
   obtain ⟨z0, z1, z2, z3, z4, z5, z6, z7, z8, z9, z10, z11, z12⟩ := bx13 hz9
   refine bodyPost_ret (v := .tuple #[nz12.val, .int .i64 8]) (by simp [results, Tryz.results46, go_sem, NoV.val, nz12, *]) rfl ?_
   rw [HK1.out]
   exact ⟨nz12, rfl, fun h => absurd h (by decide), fun _ => rfl, grown_new (xgt HX.out.2.2.2 HB.out.1) g9 (Nat.le_refl _)⟩
 ·have hzb : (K0 == 0) = false := by rw [beq_eq_false_iff_ne]; exact hz
  have e9 : K0 = 9 := by
   rw [← HK0.out]
   rcases knd_cases ns i 0 with h | ⟨j, Y, rfl, hY⟩
   ·exact knd_range (by rw [nos_len]; exact h)
   ·exact absurd (by rw [← HK0.out, knd_at hY, if_neg (fun e => by have := e.1; omega)]) hz
  have hnz := HX.out.2.1 hz
  unfold nz12 at hnz
  simp only [NoV.mk.injEq] at hnz
  obtain ⟨rfl, rfl, rfl, rfl, rfl, rfl, rfl, rfl, rfl, rfl, rfl, rfl, rfl, rfl, rfl, rfl, rfl, rfl, rfl, rfl, rfl, rfl⟩ := hnz
  subst e9
  have HK1 : Hid (knd (nos ns) i k = 9) := by show _ = _; rw [HKI.out, if_neg (by decide)]
  clear HKI
  go_wp2_with ((with_reducible refine node_here ?_); refine wpList_store_bx13 rfl 43 _ _ rfl w.heap.size [.int .i64 0, .int .i64 0, .int .i64 0, .int .i64 0, .int .i64 0, .int .i64 0, .slice none 0 0, .string ⟨#[]⟩, .int .i64 0, .slice none 0 0, .slice none 0 0, .int .i64 0, .int .i64 0] rfl rfl (HX.out.2.2.1.kept HB.out.1) node_size rfl rfl ?_; intro W9 hz9 g9)
  obtain ⟨z0, z1, z2, z3, z4, z5, z6, z7, z8, z9, z10, z11, z12⟩ := bx13 hz9
  refine bodyPost_ret (v := .tuple #[nz12.val, .int .i64 9]) (by simp [results, Tryz.results46, go_sem, NoV.val, nz12, *]) rfl ?_
  rw [HK1.out]
  exact ⟨nz12, rfl, fun h => absurd h (by decide), fun _ => rfl, grown_new (xgt HX.out.2.2.2 HB.out.1) g9 (Nat.le_refl _)⟩
end Go.Proofs.YtlehncfehoelbaaGreatDoor
namespace Go.Proofs.YtlehncfehoelbaaGreatDoor
open Go.RowKit
set_option maxRecDepth 100000
open Go.Maps (Keyed)
set_option linter.unusedSimpArgs false
set_option linter.unusedVariables false
def hvR (v : Value) : Option (DataW Value × List MemPlace) := some (.held v, [])
def MapF (w : World) (k : TypeId) (b n : Nat) (f : Lit → Option Value) : Prop :=
 ∃ D, w.ownsMap Tryz.prog k hvR b n D ∧ ∀ kl, Maps.has D kl = (f kl).isSome ∧ ∀ v, f kl = some v → ∀ z, D.atKey kl z = .held v
def updF (f : Lit → Option Value) (kl : Lit) (v : Value) : Lit → Option Value := fun x => if x.sameKey kl then some v else f x
theorem MapF.made (w : World) (k : TypeId) : MapF (w.alloc (.map #[] 0)) k w.heap.size 0 (fun _ => none) :=
 ⟨_, World.ownsMap_made w Tryz.prog k hvR, fun kl => ⟨rfl, fun v h => by cases h⟩⟩
theorem MapF.kept {w w' : World} {k : TypeId} {b n : Nat} {f : Lit → Option Value} {row : Option Nat} (h : MapF w k b n f) (g : w.grownBy w' row) (hne : some b ≠ row) : MapF w' k b n f := by
 obtain ⟨D, o, r⟩ := h
 exact ⟨D, o.kept g hne, r⟩
theorem MapF.lt {w : World} {k : TypeId} {b n : Nat} {f : Lit → Option Value} (h : MapF w k b n f) : b < w.heap.size := by
 obtain ⟨D, o, r⟩ := h
 exact o.lt
theorem MapF.mono {w : World} {k : TypeId} {b n m : Nat} {f : Lit → Option Value} (h : MapF w k b n f) (hm : n ≤ m) : MapF w k b m f := by
 obtain ⟨D, o, r⟩ := h
 exact ⟨D, o.mono hm, r⟩
theorem MapF.look {w : World} {k t e : TypeId} {b n : Nat} {f : Lit → Option Value} (h : MapF w k b n f) (K : Keyed Tryz.prog k) (ht : Tryz.prog.underlying t = some (.map k e)) {z : Value} (hz : (zeroValue e).run Tryz.prog w = .ok z w) {key : Value} {kl : Lit} (hkey : keyOf Tryz.prog k key = some kl) :
  (Instr.lookup t (.map (some b)) key false).run Tryz.prog w = .ok ((f kl).getD z) w := by
 obtain ⟨D, o, r⟩ := h
 obtain ⟨v, ps, hrun, hv⟩ := o.lookup K ht hz (zd := .held z) (zp := []) rfl hkey
 rw [hrun]
 congr 1
 simp only [hvR, Option.some.injEq, Prod.mk.injEq] at hv
 cases hf : f kl with
 | none =>
  have h1 := (r kl).1
  rw [hf] at h1
  rw [Maps.atKey_of_not_has h1] at hv
  exact (DataW.held.inj hv.1)
 | some y =>
  rw [(r kl).2 y hf] at hv
  exact (DataW.held.inj hv.1)
theorem MapF.look_ok {w : World} {k t e : TypeId} {b n : Nat} {f : Lit → Option Value} (h : MapF w k b n f) (K : Keyed Tryz.prog k) (ht : Tryz.prog.underlying t = some (.map k e)) {z : Value} (hz : (zeroValue e).run Tryz.prog w = .ok z w) {key : Value} {kl : Lit} (hkey : keyOf Tryz.prog k key = some kl) :
  (Instr.lookup t (.map (some b)) key true).run Tryz.prog w = .ok (.tuple #[(f kl).getD z, .bool (f kl).isSome]) w := by
 obtain ⟨D, o, r⟩ := h
 obtain ⟨v, ps, hrun, hv⟩ := o.look_ok K ht hz (zd := .held z) (zp := []) rfl hkey
 rw [hrun, (r kl).1]
 congr 4
 simp only [hvR, Option.some.injEq, Prod.mk.injEq] at hv
 cases hf : f kl with
 | none =>
  have h1 := (r kl).1
  rw [hf] at h1
  rw [Maps.atKey_of_not_has h1] at hv
  exact (DataW.held.inj hv.1)
 | some y =>
  rw [(r kl).2 y hf] at hv
  exact (DataW.held.inj hv.1)
theorem MapF.store {w : World} {k t e : TypeId} {b n : Nat} {f : Lit → Option Value} (h : MapF w k b n f) (K : Keyed Tryz.prog k) (ht : Tryz.prog.underlying t = some (.map k e)) (hn : n < maxLen) {key val : Value} {kl : Lit} (hkey : keyOf Tryz.prog k key = some kl) (hk : WideAt.IsKeyLit kl) :
  ∃ w', (Instr.mapUpdate t (.map (some b)) key val).run Tryz.prog w = .ok () w' ∧ MapF w' k b (n + 1) (updF f kl val) ∧ w.grownBy w' (some b) := by
 obtain ⟨D, o, r⟩ := h
 obtain ⟨w', hrun, o', g⟩ := o.update K ht hn (d := .held val) (ps := []) hkey rfl
 refine ⟨w', hrun, ⟨_, o', fun x => ?_⟩, g⟩
 unfold updF
 by_cases hx : x = kl
 ·subst hx
  rw [if_pos (WideAt.sameKey_self hk)]
  exact ⟨Maps.has_put_same o.isMap hk _, fun v hv z => by injection hv with hv; rw [← hv]; exact Maps.atKey_put_same o.isMap hk _ z⟩
 ·rw [Maps.sameKey_ne hx, if_neg Bool.false_ne_true]
  exact ⟨by rw [Maps.has_put_other hx]; exact (r x).1, fun v hv z => by rw [Maps.atKey_put_other hx]; exact (r x).2 v hv z⟩
theorem wpList_storeF {P : Program} (hP : P = Tryz.prog) (w : World) {ops : Array Oper} {rest : List Oper} {o : Oper} {a : Act} {Q : Exit → Act → World → Prop}
  (hg : o.guard = none) (m x v : Operand) (t : TypeId) (hop : o.op = Op.mapUpdate t m x v) (k e : TypeId) (K : Keyed Tryz.prog k) (ht : Tryz.prog.underlying t = some (.map k e)) (b n : Nat) (f : Lit → Option Value)
  (hm : a.eval m = .map (some b)) (h : MapF w k b n f) (hn : n < maxLen) (key val : Value) (kl : Lit) (hx : a.eval x = key) (hv : a.eval v = val) (hkey : keyOf Tryz.prog k key = some kl) (hk : WideAt.IsKeyLit kl)
  (hK : ∀ w', Hid (MapF w' k b (n + 1) (updF f kl val)) → Hid (w.grownBy w' (some b)) → wpList P ops Q rest (a.put o.dst undef) w') : wpList P ops Q (o :: rest) a w := by
 subst hP
 refine wpList_plain hg fun K' hK' => ?_
 obtain ⟨w', hrun, r1, r2⟩ := h.store (val := val) K ht hn hkey hk
 unfold Oper.wp
 simp [execOp, hop, hm, hx, hv, hrun, Result.andThen]
 exact hK' _ _ (hK w' r1 r2)
theorem keyS {k : TypeId} (hk : Tryz.prog.underlying k = some .string) (s : ByteArray) (h : s.size ≤ maxLen) : keyOf Tryz.prog k (.string s) = some (.string s.toList) := by
 rw [WideMaps.keyOf_string_mk hk h, ByteArray.toList_eq]
theorem spotWide : (match Tryz.prog.underlying 94 with | some (.array _ _) | some (.struct _) => true | _ => false) = true := by kernel_rfl
theorem spotK : Keyed Tryz.prog 94 := Keyed.of_law (deep_law (m := 3) (by omega) (by kernel_rfl) (by kernel_rfl) spotWide)
theorem spotKt : Tryz.prog.keyType 94 = true := by kernel_rfl
theorem spotC : Tryz.prog.cellsOf 94 = 2 := by kernel_rfl
theorem spotC3 : Tryz.prog.cellsOf 3 = 1 := by kernel_rfl
theorem spotC9 : Tryz.prog.cellsOf 9 = 1 := by kernel_rfl
def spv (d : Nat) (s : ByteArray) : Value := .agg #[.int .i64 d, .string s]
theorem spot_gen {P : Program} {k : TypeId} {f0 f1 : Field} (hu : P.underlying k = some (.struct #[f0, f1])) (h0 : f0.type = 3 ∧ f0.offset = 0 ∧ (f0.name != "_") = true) (h1 : f1.type = 9 ∧ f1.offset = 1 ∧ (f1.name != "_") = true)
  (hk : P.keyType k = true) (hc : P.cellsOf k = 2) (hc3 : P.cellsOf 3 = 1) (hc9 : P.cellsOf 9 = 1) (hu3 : P.underlying 3 = some (.int .i64)) (hu9 : P.underlying 9 = some .string) (n : Nat) (hn : P.types.size = n + 1)
  (d : Int) (s : ByteArray) (hw : (Lit.int .i64 d).wf = true) (hs : s.size ≤ maxLen) : ∃ l, keyOf P k (.agg #[.int .i64 d, .string s]) = some l := by
 obtain ⟨t0, o0, b0⟩ := h0
 obtain ⟨t1, o1, b1⟩ := h1
 unfold keyOf
 rw [hu]
 simp only [hk, Value.formed, hu, hc, hn]
 simp [Program.keyLits, hu, hu3, hu9, hc, hc3, hc9, t0, t1, o0, o1, b0, b1, hw, hs, Value.cells]
theorem int_wf (d : Nat) (h : d ≤ maxLen) : (Lit.int .i64 (d : Int)).wf = true := by
 unfold maxLen at h
 simp [Lit.wf, IntKind.wrap, IntKind.bits, IntKind.signed, IntKind.min, IntKind.max]
 omega
theorem spotN : Tryz.prog.types.size = (Tryz.prog.types.size - 1) + 1 := by kernel_rfl
theorem spot_key (d : Nat) (s : ByteArray) (hd : d ≤ maxLen) (hs : s.size ≤ maxLen) : ∃ l, keyOf Tryz.prog 94 (spv d s) = some l :=
 spot_gen Tryz.underlying94 ⟨rfl, rfl, rfl⟩ ⟨rfl, rfl, rfl⟩ spotKt spotC spotC3 spotC9 Tryz.underlying3 Tryz.underlying9 _ spotN d s (int_wf d hd) hs
end Go.Proofs.YtlehncfehoelbaaGreatDoor
namespace Go.Proofs.YtlehncfehoelbaaGreatDoor
open Go.RowKit
set_option maxRecDepth 100000
set_option linter.unusedSimpArgs false
set_option linter.unusedVariables false
set_option maxHeartbeats 1000000 in
set_option maxRecDepth 100000 in
theorem lindex_any (s : ByteArray) (c : Int) (w : World) : Calls Tryz.prog 152 #[.string s, .int .u8 c] w fun e w' => e = .returned (.int .i64 (Lib.indexByte s.data.toList c.toNat.toUInt8)) ∧ w = w' := by
 go_enter Tryz.func152, Tryz.ntmps152
 go_wp2
 rw [run_callFunc_extern Tryz.func164 (by kernel_rfl) (by kernel_rfl) (by kernel_rfl) (e := Extern.BytealgIndexByte.indexByte) (by kernel_rfl), Lib.run_indexByteString]
 simp only [Result.andThen]
 rw [Oper.upon_value]
 go_wp2
 go_ret
 exact ⟨rfl, rfl⟩
theorem sindex_any (s : ByteArray) (c : Int) (w : World) : Calls Tryz.prog 127 #[.string s, .int .u8 c] w fun e w' => e = .returned (.int .i64 (Lib.indexByte s.data.toList c.toNat.toUInt8)) ∧ w = w' := by
 go_enter Tryz.func127, Tryz.ntmps127
 go_wp2_with (go_at_call 152; refine (lindex_any _ _ _).mono ?_; rintro e w' ⟨rfl, rfl⟩)
 go_ret
 exact ⟨rfl, rfl⟩
theorem index_has : ∀ (l : Tx) (c : UInt8), decide (0 ≤ Lib.indexByte l c) = l.any (· == c)
 | [], c => by simp [Lib.indexByte]
 | b :: l, c => by
  have ih := index_has l c
  have hg := Lib.indexByte_ge l c
  have e : Lib.indexByte (b :: l) c = if b == c then 0 else if Lib.indexByte l c == -1 then -1 else Lib.indexByte l c + 1 := rfl
  rw [List.any_cons, ← ih, e]
  cases hb : (b == c) with
  | true => simp
  | false =>
   by_cases h1 : Lib.indexByte l c = -1
   ·simp [h1]
   ·have h2 : (Lib.indexByte l c == -1) = false := by simpa using h1
    have h3 : 0 ≤ Lib.indexByte l c := by omega
    simp [h2, h3]
    omega
def hasB (l : Tx) (c : UInt8) : Bool := l.any (· == c)
set_option maxHeartbeats 1000000 in
theorem pholds_any (s : ByteArray) (c : Int) (w : World) : Calls Tryz.prog 110 #[.string s, .int .u8 c] w fun e w' => e = .returned (.bool (hasB s.toList c.toNat.toUInt8)) ∧ w = w' := by
 have e : hasB s.toList c.toNat.toUInt8 = decide (0 ≤ Lib.indexByte s.data.toList c.toNat.toUInt8) := by
  unfold hasB
  rw [← index_has, ByteArray.toList_eq]
 rw [e]
 generalize hx : Lib.indexByte s.data.toList c.toNat.toUInt8 = x
 have HX : Hid _ := hx
 clear hx e
 go_enter Tryz.func110, Tryz.ntmps110
 go_wp2_with (go_at_call 127; refine (sindex_any _ _ _).mono ?_; rw [HX.out]; rintro e w' ⟨rfl, rfl⟩)
 go_ret
 exact ⟨rfl, rfl⟩
theorem any_or (l : Tx) : (l.any fun c => c == 47 || c == 0) = (hasB l 47 || hasB l 0) := by
 unfold hasB
 induction l with
 | nil => rfl
 | cons a r ih => rw [List.any_cons, List.any_cons, List.any_cons, ih]; cases (a == 47) <;> cases (a == 0) <;> simp
theorem vld_eq (s : ByteArray) : vld s.toList = (!(s.toList == []) && !(s.toList == [46]) && !(s.toList == [46, 46]) && !decide (255 < s.size) && (!hasB s.toList 47 && !hasB s.toList 0)) := by
 have h1 : decide (1 ≤ s.toList.length) = !(s.toList == []) := by
  cases s.toList <;> simp
 have h2 : decide (s.toList.length ≤ 255) = !decide (255 < s.size) := by
  rw [tl_len]
  by_cases h : 255 < s.size
  ·rw [decide_eq_true h, decide_eq_false (by omega)]; rfl
  ·rw [decide_eq_false h, decide_eq_true (by omega)]; rfl
 unfold vld
 rw [h1, h2, any_or, Bool.not_or]
 cases (s.toList == []) <;> cases (s.toList == [46]) <;> cases (s.toList == [46, 46]) <;> cases decide (255 < s.size) <;> rfl
set_option maxHeartbeats 2000000 in
theorem pvalid_eq (s : ByteArray) (w : World) (hs : s.size ≤ 1000000) : Calls Tryz.prog 83 #[.string s] w fun e w' => e = .returned (.bool (vld s.toList)) ∧ w = w' := by
 have hh := fun c W => pholds_any s c W
 rw [vld_eq]
 cases h1 : (s.toList == []) with
 | true =>
  go_enter Tryz.func83, Tryz.ntmps83
  go_wp2_with (go_at_call 110; refine (hh _ _).mono ?_; rintro e w' ⟨rfl, rfl⟩)
  go_ret
  exact ⟨rfl, rfl⟩
 | false =>
  cases h2 : (s.toList == [46]) with
  | true =>
   go_enter Tryz.func83, Tryz.ntmps83
   go_wp2_with (go_at_call 110; refine (hh _ _).mono ?_; rintro e w' ⟨rfl, rfl⟩)
   go_ret
   exact ⟨rfl, rfl⟩
  | false =>
   cases h3 : (s.toList == [46, 46]) with
   | true =>
    go_enter Tryz.func83, Tryz.ntmps83
    go_wp2_with (go_at_call 110; refine (hh _ _).mono ?_; rintro e w' ⟨rfl, rfl⟩)
    go_ret
    exact ⟨rfl, rfl⟩
   | false =>
    by_cases h4 : 255 < s.size
    ·have g4 : (255 : Int) < s.size := by omega
     rw [decide_eq_true h4]
     go_enter Tryz.func83, Tryz.ntmps83
     go_wp2_with (go_at_call 110; refine (hh _ _).mono ?_; rintro e w' ⟨rfl, rfl⟩)
     go_ret
     exact ⟨rfl, rfl⟩
    ·have g4 : ¬ (255 : Int) < s.size := by omega
     rw [decide_eq_false h4]
     generalize hA : hasB s.toList 47 = A
     generalize hB : hasB s.toList 0 = B
     have a47 := hh 47 
     have a0 := hh 0
     have e47 : ((47 : Int).toNat.toUInt8) = 47 := rfl
     have e0 : ((0 : Int).toNat.toUInt8) = 0 := rfl
     rw [e47, hA] at a47
     rw [e0, hB] at a0
     have HA : Hid _ := And.intro hA hB
     clear hA hB hh
     cases A with
     | true =>
      go_enter Tryz.func83, Tryz.ntmps83
      go_wp2_with (go_at_call 110; first | (with_reducible refine (a47 _).mono ?_) | (with_reducible refine (a0 _).mono ?_); rintro e w' ⟨rfl, rfl⟩)
      go_ret
      exact ⟨rfl, rfl⟩
     | false =>
      go_enter Tryz.func83, Tryz.ntmps83
      go_wp2_with (go_at_call 110; (first | (with_reducible refine (a47 _).mono ?_) | (with_reducible refine (a0 _).mono ?_)); rintro e w' ⟨rfl, rfl⟩)
      go_ret
      exact ⟨by simp, rfl⟩
end Go.Proofs.YtlehncfehoelbaaGreatDoor
namespace Go.Proofs.YtlehncfehoelbaaGreatDoor
open Go.RowKit
set_option maxRecDepth 100000
open Go.Maps (Keyed)
set_option linter.unusedSimpArgs false
set_option linter.unusedVariables false
def fnd (l : List Kd) (s : Tx) : Option Int := (l.find? (fun k => k.n == s)).map Kd.i
def lkp (L : List No) (d : Int) (s : Tx) : Int × Int :=
 if knd L d 2 ≠ 0 then (0, knd L d 2) else if s = [46] then (d, 0) else if s = [46, 46] then (((L[d.toNat]?).map No.parent).getD 0, 0) else if vld s = false then (0, 6) else
  match fnd (((L[d.toNat]?).map No.kids).getD []) s with | some i => (i, 0) | none => (0, 4)
structure Md (w : World) (mb : Nat) (a : Option Addr) (n c mp : Nat) (ns : List NoV) : Prop where
 box : Bx w mb 98 [.slice a n c, .map (some mp)]
 nos : Nos w a n ns
 caps : ∀ X ∈ ns, X.dl ≤ X.dc ∧ X.kl ≤ X.kc
 map : ∃ m f, MapF w 94 mp m f ∧ ∀ (d : Nat) (s : ByteArray) (l : Lit), keyOf Tryz.prog 94 (spv d s) = some l → f l = ((ns[d]?).bind (fun X => fnd X.kids s.toList)).map (fun i => .int .i64 i)
theorem Md.kept {w w' : World} {mb : Nat} {a : Option Addr} {n c mp : Nat} {ns : List NoV} (h : Md w mb a n c mp ns) (g : w.grownBy w' none) : Md w' mb a n c mp ns := by
 obtain ⟨h1, h2, h5, m, f, h3, h4⟩ := h
 exact ⟨h1.kept g, h2.grown g, h5, m, f, h3.kept g (by simp), h4⟩
theorem Md.ask {w : World} {mb : Nat} {a : Option Addr} {n c mp : Nat} {ns : List NoV} (h : Md w mb a n c mp ns) (d : Nat) (s : ByteArray) (hd : d ≤ maxLen) (hs : s.size ≤ maxLen) :
  (Instr.lookup 95 (.map (some mp)) (.agg #[.int .i64 d, .string s]) true).run Tryz.prog w = .ok (.tuple #[.int .i64 (((ns[d]?).bind (fun X => fnd X.kids s.toList)).getD 0), .bool ((ns[d]?).bind (fun X => fnd X.kids s.toList)).isSome]) w := by
 obtain ⟨m, f, h3, h4⟩ := h.map
 obtain ⟨l, hl⟩ := spot_key d s hd hs
 show (Instr.lookup 95 (.map (some mp)) (spv d s) true).run Tryz.prog w = _
 rw [h3.look_ok spotK Tryz.underlying95 (z := .int .i64 0) (by rfl) hl, h4 d s l hl]
 cases ((ns[d]?).bind (fun X => fnd X.kids s.toList)) <;> rfl
set_option maxHeartbeats 4000000 in
theorem pfind_any (w : World) (mb : Nat) (a : Option Addr) (n c mp : Nat) (ns : List NoV) (h : Md w mb a n c mp ns) (d : Nat) (X : NoV) (hX : ns[d]? = some X) (s : ByteArray) (hs : s.size ≤ 1000000) :
  Calls Tryz.prog 48 #[.pointer (some ⟨mb, 0, none⟩), .agg #[.int .i64 d, .string s]] w fun e w' => e = .returned (.tuple #[.int .i64 (if vld s.toList = false then 0 else (fnd X.kids s.toList).getD 0), .int .i64 (if vld s.toList = false then 6 else if (fnd X.kids s.toList).isSome then 0 else 4)]) ∧ w.grownBy w' none := by
 have hdn : d ≤ maxLen := by
  have h1 := (List.getElem?_eq_some_iff.1 hX).1
  have h2 := h.nos.len_eq
  have h3 := h.nos.le
  omega
 have gA := xga w (.cells #[.int .i64 d, .string s] 94) none
 have bA := Bx.new w 94 [.int .i64 d, .string s]
 have hask := fun t => (h.kept (drewG11 gA t)).ask d s hdn (by unfold maxLen; omega)
 rw [hX] at hask
 simp only [Option.bind_some] at hask
 have x1 : _ = some _ := (h.kept gA).box.c 1
 have s0 : _ = some _ := bA.c 0
 have s1 : _ = some _ := bA.c 1
 have HG : Hid _ := gA
 clear gA bA h hX
 have hv := fun W => pvalid_eq s W hs
 generalize vld s.toList = V at *
 generalize fnd X.kids s.toList = F at *
 cases V with
 | false =>
  go_enter Tryz.func48, Tryz.ntmps48
  go_wp2_with (go_at_call 83; refine (hv _).mono ?_; rintro e w' ⟨rfl, rfl⟩)
  go_ret2
  exact ⟨rfl, HG.out⟩
 | true =>
  cases F with
  | none =>
   simp only [Option.getD_none, Option.isSome_none] at hask
   go_enter Tryz.func48, Tryz.ntmps48
   go_wp2_with (go_at_call 83; refine (hv _).mono ?_; rintro e w' ⟨rfl, rfl⟩)
   generalize w.alloc (.cells #[.int .i64 d, .string s] 94) = WA at *
   go_quiet (fail)
   go_wp2
   go_ret2
   exact ⟨rfl, drewG11 HG.out _⟩
  | some v =>
   simp only [Option.getD_some, Option.isSome_some] at hask
   go_enter Tryz.func48, Tryz.ntmps48
   go_wp2_with (go_at_call 83; refine (hv _).mono ?_; rintro e w' ⟨rfl, rfl⟩)
   generalize w.alloc (.cells #[.int .i64 d, .string s] 94) = WA at *
   go_quiet (fail)
   go_wp2
   go_ret2
   exact ⟨rfl, drewG11 HG.out _⟩
end Go.Proofs.YtlehncfehoelbaaGreatDoor
