/- The document's Node. -/
import Derived.Deep.RegionHeld3
import Derived.Laws.Tables
import Derived.Test.YtbpoealcaogjpaaGreatDoorCk08
namespace Go.Proofs.YtbpoealcaogjpaaGreatDoor
open Go.RowKit
set_option maxRecDepth 100000
set_option linter.unusedSimpArgs false
set_option linter.unusedVariables false

theorem grown_setRow (w : World) (g : Nat) (cs : Array Value) : w.grownBy (w.setRow g cs) (some g) := ⟨rfl, rfl, rfl, by simp [World.setRow], fun k _ hk => setRow_other w g k _ (fun e => hk (by rw [e]))⟩
/-- a variable of several cells, stored whole, within a region -/
theorem step_store_bx {P : Program} {w : World} {ops : Array Oper} {o : Oper} {a : Act} {K : Act → World → Prop} {Q : Exit → Act → World → Prop} {E : Prop} (hgd : o.guard = none) (ty : TypeId) (x y : Operand) (ho : o.op = .store ty x y)
    (g : Nat) (cs : List Value) (hx : a.eval x = .pointer (some ⟨g, 0, none⟩)) (hy : a.eval y = .agg cs.toArray) {T : TypeId} {old : List Value} (hb : Bx w g T old) (hi : (P.info? ty).map (·.size) = some cs.length)
    (hl : old.length = cs.length) (h1 : cs.all (·.oneCell') = true)
    (h : ∀ W', Bx W' g T cs → w.grownBy W' (some g) → K (a.put o.dst undef) W') : if Region.wanted o (yielded ops a.tmps) = true then Oper.wp P o a w K Q else E := by
  rw [if_pos (by simp [Region.wanted, hgd])]
  exact wp_store_row ty x y ho g cs.toArray hx hy T old.toArray hb.blk (by rw [List.size_toArray]; exact hi) (by simp [hl]) (by rw [List.all_toArray]; exact h1) (h _ ⟨setRow_heap _ _ _ _ _ _ hb.blk⟩ (grown_setRow w g cs.toArray))
theorem drewG0 (w : World) : w.grownBy w.drew none := ⟨rfl, rfl, rfl, Nat.le_refl _, fun _ _ _ => rfl⟩
theorem node_size : (Tryz.prog.info? 54).map (·.size) = some 13 := by kernel_rfl
/-- Node's variables ahead of the node: the entry, the answer -/
structure Nv (w W : World) (gx : Nat) (xc : List Value) : Prop where
  x : Bx W gx 44 xc
  z : Bx W (gx + 1) 54 [.int .i64 0, .int .i64 0, .int .i64 0, .int .i64 0, .int .i64 0, .int .i64 0, .slice none 0 0, .string ⟨#[]⟩, .int .i64 0, .slice none 0 0, .slice none 0 0, .int .i64 0, .int .i64 0]
  gr : w.grownBy W none
  sz : w.heap.size = gx
theorem Nv.kept {w W W' : World} {gx : Nat} {xc : List Value} (h : Nv w W gx xc) (k : W.grownBy W' none) : Nv w W' gx xc := ⟨h.x.kept k, h.z.kept k, grown_trans h.gr k, h.sz⟩
theorem Nv.but {w W W' : World} {gx g : Nat} {xc : List Value} (h : Nv w W gx xc) (k : W.grownBy W' (some g)) (hg : gx + 1 < g) : Nv w W' gx xc := ⟨h.x.but k (by intro e; injection e with e; omega), h.z.but k (by intro e; injection e with e; omega), grown_new h.gr k (by have := h.sz; omega), h.sz⟩
theorem bx11 {W : World} {g : Nat} {T : TypeId} {x0 x1 x2 x3 x4 x5 x6 x7 x8 x9 x10 : Value} (h : Bx W g T [x0, x1, x2, x3, x4, x5, x6, x7, x8, x9, x10]) : W.cell? ⟨g, 0, none⟩ = some x0 ∧ W.cell? ⟨g, 1, none⟩ = some x1 ∧ W.cell? ⟨g, 2, none⟩ = some x2 ∧ W.cell? ⟨g, 3, none⟩ = some x3 ∧ W.cell? ⟨g, 4, none⟩ = some x4 ∧ W.cell? ⟨g, 5, none⟩ = some x5 ∧ W.cell? ⟨g, 6, none⟩ = some x6 ∧ W.cell? ⟨g, 7, none⟩ = some x7 ∧ W.cell? ⟨g, 8, none⟩ = some x8 ∧ W.cell? ⟨g, 9, none⟩ = some x9 ∧ W.cell? ⟨g, 10, none⟩ = some x10 := ⟨h.c 0, h.c 1, h.c 2, h.c 3, h.c 4, h.c 5, h.c 6, h.c 7, h.c 8, h.c 9, h.c 10⟩
theorem Nv.new (w : World) (xc : List Value) : Nv w ((w.alloc (.cells xc.toArray 44)).alloc (.cells #[.int .i64 0, .int .i64 0, .int .i64 0, .int .i64 0, .int .i64 0, .int .i64 0, .slice none 0 0, .string ⟨#[]⟩, .int .i64 0, .slice none 0 0, .slice none 0 0, .int .i64 0, .int .i64 0] 54)) w.heap.size xc := by
  have h2 := Bx.new (w.alloc (.cells xc.toArray 44)) 54 [.int .i64 0, .int .i64 0, .int .i64 0, .int .i64 0, .int .i64 0, .int .i64 0, .slice none 0 0, .string ⟨#[]⟩, .int .i64 0, .slice none 0 0, .slice none 0 0, .int .i64 0, .int .i64 0]
  simp only [World.size_alloc] at h2
  exact ⟨(Bx.new w 44 xc).kept (World.grownBy_alloc _ _ _), h2, grown_trans (World.grownBy_alloc _ _ _) (World.grownBy_alloc _ _ _), rfl⟩
theorem own_shape {W : World} {b e n s : Nat} {v : Value} {xs : List Value} (h : W.ownsRow b e s v n xs) : ∃ a c, v = .slice a n c := by
  rcases h.2 with ⟨e, h0⟩ | ⟨g, c, cur, e, _⟩
  · exact ⟨none, 0, by rw [e, h0]⟩
  · exact ⟨_, c, e⟩
/-- .. behind it -/
structure Nw (w W : World) (gx gn : Nat) (xc nc : List Value) (v : Value) (out : List AtV) : Prop where
  nv : Nv w W gx xc
  n : Bx W gn 54 nc
  lt : gx + 1 < gn
  own : W.ownsRow (gx + 2) 50 2 v out.length (out.flatMap avc)
  ne : v.ownBlock ≠ some gn
theorem Nw.kept {w W W' : World} {gx gn : Nat} {xc nc : List Value} {v : Value} {out : List AtV} (h : Nw w W gx gn xc nc v out) (k : W.grownBy W' none) : Nw w W' gx gn xc nc v out := ⟨h.nv.kept k, h.n.kept k, h.lt, owns_kept11 h.own k, h.ne⟩
theorem Nw.set {w W : World} {gx gn : Nat} {xc nc : List Value} {v : Value} {out : List AtV} (h : Nw w W gx gn xc nc v out) (i : Nat) (u : Value) : Nw w (W.setCell ⟨gn, i, none⟩ u) gx gn xc (nc.set i u) v out := ⟨h.nv.but (grown_set _ _ _ _) h.lt, h.n.set i u, h.lt, h.own.kept (grown_set _ _ _ _) (Or.inr h.ne), h.ne⟩
theorem Nw.fin {w W W9 : World} {gx gn : Nat} {xc nc nc' : List Value} {v : Value} {out : List AtV} (h : Nw w W gx gn xc nc v out) (hz : Bx W9 (gx + 1) 54 nc') (g : W.grownBy W9 (some (gx + 1))) : w.grownBy W9 none ∧ W9.ownsRow (gx + 2) 50 2 v out.length (out.flatMap avc) := by
  refine ⟨grown_new h.nv.gr g (by have := h.nv.sz; omega), h.own.kept g ?_⟩
  right
  intro e
  have := (h.own.lt _ e).1
  omega
theorem bx13 {W : World} {g : Nat} {T : TypeId} {x0 x1 x2 x3 x4 x5 x6 x7 x8 x9 x10 x11 x12 : Value} (h : Bx W g T [x0, x1, x2, x3, x4, x5, x6, x7, x8, x9, x10, x11, x12]) : W.cell? ⟨g, 0, none⟩ = some x0 ∧ W.cell? ⟨g, 1, none⟩ = some x1 ∧ W.cell? ⟨g, 2, none⟩ = some x2 ∧ W.cell? ⟨g, 3, none⟩ = some x3 ∧ W.cell? ⟨g, 4, none⟩ = some x4 ∧ W.cell? ⟨g, 5, none⟩ = some x5 ∧ W.cell? ⟨g, 6, none⟩ = some x6 ∧ W.cell? ⟨g, 7, none⟩ = some x7 ∧ W.cell? ⟨g, 8, none⟩ = some x8 ∧ W.cell? ⟨g, 9, none⟩ = some x9 ∧ W.cell? ⟨g, 10, none⟩ = some x10 ∧ W.cell? ⟨g, 11, none⟩ = some x11 ∧ W.cell? ⟨g, 12, none⟩ = some x12 := ⟨h.c 0, h.c 1, h.c 2, h.c 3, h.c 4, h.c 5, h.c 6, h.c 7, h.c 8, h.c 9, h.c 10, h.c 11, h.c 12⟩
/-- a guard: the next operation stores a node -/
theorem node_here {P : Program} {w : World} {ops : Array Oper} {rest : List Oper} {a : Act} {Q : Exit → Act → World → Prop} {dst : Option Nat} {x y : Operand} {type : TypeId} {pos : String} {after : Array Edge} {guard : Option (Nat × Bool)}
    (h : wpList P ops Q (⟨dst, .store 54 x y, type, pos, after, guard⟩ :: rest) a w) : wpList P ops Q (⟨dst, .store 54 x y, type, pos, after, guard⟩ :: rest) a w := h
theorem wpList_store_bx13 {P : Program} {ops : Array Oper} {rest : List Oper} {o : Oper} {a : Act} {w : World} {Q : Exit → Act → World → Prop} (hgd : o.guard = none) (ty : TypeId) (x y : Operand) (ho : o.op = .store ty x y)
    (g : Nat) (cs : List Value) (hx : a.eval x = .pointer (some ⟨g, 0, none⟩)) (hy : a.eval y = .agg cs.toArray) {T : TypeId} {old : List Value} (hb : Bx w g T old) (hi : (P.info? ty).map (·.size) = some cs.length)
    (hl : old.length = cs.length) (h1 : cs.all (·.oneCell') = true)
    (h : ∀ W', Bx W' g T cs → w.grownBy W' (some g) → wpList P ops Q rest (a.put o.dst undef) W') : wpList P ops Q (o :: rest) a w :=
  wpList_store_row hgd ty x y ho g cs.toArray hx hy T old.toArray hb.blk (by rw [List.size_toArray]; exact hi) (by simp [hl]) (by rw [List.all_toArray]; exact h1) (h _ ⟨setRow_heap _ _ _ _ _ _ hb.blk⟩ (grown_setRow w g cs.toArray))
theorem row_take {w : World} {a : Option Addr} {l m : Nat} {xs : List Int} (R : Row w a l xs) (h : m ≤ l) : Row w a m (xs.take m) := by
  refine ⟨by rw [List.length_take, R.len_eq]; omega, Nat.le_trans h R.le, fun x hx => R.byt x (List.mem_of_mem_take hx), fun h0 => ?_⟩
  obtain ⟨b, o, e, hc⟩ := R.cells (by omega)
  refine ⟨b, o, e, fun i hi => ?_⟩
  rw [hc i (by omega), List.getD_eq_getElem?_getD, List.getD_eq_getElem?_getD, List.getElem?_take, if_pos hi]
theorem row_zero (a : Option Addr) {w : World} : Row w a 0 [] := ⟨rfl, Nat.zero_le _, fun _ h => (by cases h), fun h => by omega⟩
theorem tl_nil : (⟨#[]⟩ : ByteArray).toList = [] := by simp [ByteArray.toList_eq]
theorem kds_none (w : World) : Kds w none 0 [] := ⟨rfl, Nat.zero_le _, fun h => by omega⟩
def NoV.val (X : NoV) : Value := .agg #[.int .i64 X.k, .int .i64 X.mode, .int .i64 X.uid, .int .i64 X.gid, .int .i64 X.time, .int .i64 X.size, .slice X.da X.dl X.dc, .string X.target, .int .i64 X.dev, .slice X.aa X.al X.ac, .slice X.ka X.kl X.kc, .int .i64 X.parent, .int .i64 X.links]
theorem strip_zero {l : List Int} {n : Nat} (hn : n < l.length) (h : l.getD n 0 = 0) : strip (l.take (n + 1)) = strip (l.take n) := by
  have e : l.take (n + 1) = l.take n ++ List.replicate 1 0 := by
    rw [List.take_succ_eq_append_getElem hn]
    rw [List.getD_eq_getElem?_getD, List.getElem?_eq_getElem hn] at h
    simp at h
    rw [h]
    rfl
  rw [e, strip_zeros]
theorem strip_stop {l : List Int} {n : Nat} (hn : n < l.length) (h : l.getD n 0 ≠ 0) : strip (l.take (n + 1)) = l.take (n + 1) := by
  rw [List.take_succ_eq_append_getElem hn]
  rw [List.getD_eq_getElem?_getD, List.getElem?_eq_getElem hn] at h
  unfold strip
  rw [List.reverse_append]
  have : ([l[n]].reverse ++ (l.take n).reverse).dropWhile (· == 0) = [l[n]].reverse ++ (l.take n).reverse := by
    simp only [List.reverse_cons, List.reverse_nil, List.nil_append, List.cons_append]
    rw [List.dropWhile_cons, if_neg (by simpa using h)]
  rw [this, ← List.reverse_append, List.reverse_reverse]
def dlen (gn : Nat) (w : World) : Nat := match w.cell? ⟨gn, 6, none⟩ with
  | some (.slice _ n _) => n
  | _ => 0
theorem srtV_atts {l out : List AtV} (h : srtV l l.length [] = out) : out.map AtV.at = srtA (l.map AtV.at) (l.map AtV.at).length [] := by
  rw [← h, srtV_map, List.length_map]
  rfl
theorem srt_rows {w W : World} {a : Option Addr} {n : Nat} {l : List AtV} (h : Ats w a n l) (g : w.grownBy W none) : ∀ A ∈ srtV l l.length [], Row W A.a A.len A.v ∧ A.len ≤ A.cap := by
  intro A hA
  have hm := srtV_mem l l.length [] (fun _ h => by cases h) A hA
  obtain ⟨i, hi⟩ := List.mem_iff_getElem?.1 hm
  obtain ⟨b, o, _, k⟩ := h.at_ (by have := (List.getElem?_eq_some_iff.1 hi).1; have := h.len_eq; omega)
  exact ⟨(k i A hi).row.grown g, (k i A hi).cap⟩
set_option maxHeartbeats 16000000 in
theorem rnode_any (X : EnV) (w : World) (ho : X.ok w) (hal : X.al ≤ 100000) : Calls Tryz.prog 29 #[X.val] w fun e w' => ∃ N : NoV, e = .returned N.val ∧ N.ok w' ∧ N.no = ndOf X.en ∧ (N.ka = none ∧ N.kl = 0 ∧ N.kc = 0) ∧ w.grownBy w' none := by
  have hat := fun W (g : w.grownBy W none) => rattrs_any X.aa X.al X.ac X.attrs W (ho.ats.grown g) hal
  unfold AsPost at hat
  have HO : Hid _ := ho
  clear ho
  obtain ⟨P, K, mode, uid, gid, time, size, da, dl, dc, data, target, dev, aa, al, ac, attrs⟩ := X
  simp only [EnV.val] at *
  have H0 : Hid _ := Nv.new w [.string P, .int .i64 K, .int .i64 mode, .int .i64 uid, .int .i64 gid, .int .i64 time, .int .i64 size, .slice da dl dc, .string target, .int .i64 dev, .slice aa al ac]
  go_enter Tryz.func29, Tryz.ntmps29
  go_wp2_with fail
  generalize (w.alloc (.cells #[.string P, .int .i64 K, .int .i64 mode, .int .i64 uid, .int .i64 gid, .int .i64 time, .int .i64 size, .slice da dl dc, .string target, .int .i64 dev, .slice aa al ac] 44)).alloc (.cells #[.int .i64 0, .int .i64 0, .int .i64 0, .int .i64 0, .int .i64 0, .int .i64 0, .slice none 0 0, .string ⟨#[]⟩, .int .i64 0, .slice none 0 0, .slice none 0 0, .int .i64 0, .int .i64 0] 54) = W1 at *
  generalize hg0 : w.heap.size = gx at *
  have HG0 : Hid _ := hg0
  clear hg0
  refine wp_region_held_drew (S := fun w' => Nv w w' gx [.string P, .int .i64 K, .int .i64 mode, .int .i64 uid, .int .i64 gid, .int .i64 time, .int .i64 size, .slice da dl dc, .string target, .int .i64 dev, .slice aa al ac]) (by kernel_rfl) (H0.out.kept (drewG0 W1)) (fun hH => ?_)
  clear H0
  generalize W1.drew = WD at *
  refine wpAnyH_take (i := 0) (oi := ⟨some 4, _, _, _, _, _⟩) (v := .pointer (some ⟨gx, 1, none⟩)) rfl (by kernel_rfl) (by kernel_rfl) (by kernel_rfl) (fun _ _ _ h => h) (Or.inl ⟨by rfl, fun w hSw => by go_simp⟩) hH ?_
  simp only [Act.put, List.setIfInBounds_toArray, List.set_cons_zero, List.set_cons_succ]
  refine wpAnyH_take (i := 1) (oi := ⟨some 5, _, _, _, _, _⟩) (v := .int .i64 K) rfl (by kernel_rfl) (by kernel_rfl) (by kernel_rfl) (fun _ _ _ h => h) (Or.inl ⟨by rfl, fun w hSw => by obtain ⟨c0, c1, c2, c3, c4, c5, c6, c7, c8, c9, c10⟩ := bx11 hSw.x; go_simp⟩) hH ?_
  simp only [Act.put, List.setIfInBounds_toArray, List.set_cons_zero, List.set_cons_succ]
  refine wpAnyH_take (i := 2) (oi := ⟨some 6, _, _, _, _, _⟩) (v := .pointer (some ⟨gx, 2, none⟩)) rfl (by kernel_rfl) (by kernel_rfl) (by kernel_rfl) (fun _ _ _ h => h) (Or.inl ⟨by rfl, fun w hSw => by go_simp⟩) hH ?_
  simp only [Act.put, List.setIfInBounds_toArray, List.set_cons_zero, List.set_cons_succ]
  refine wpAnyH_take (i := 3) (oi := ⟨some 7, _, _, _, _, _⟩) (v := .int .i64 mode) rfl (by kernel_rfl) (by kernel_rfl) (by kernel_rfl) (fun _ _ _ h => h) (Or.inl ⟨by rfl, fun w hSw => by obtain ⟨c0, c1, c2, c3, c4, c5, c6, c7, c8, c9, c10⟩ := bx11 hSw.x; go_simp⟩) hH ?_
  simp only [Act.put, List.setIfInBounds_toArray, List.set_cons_zero, List.set_cons_succ]
  refine wpAnyH_take (i := 4) (oi := ⟨some 8, _, _, _, _, _⟩) (v := .pointer (some ⟨gx, 3, none⟩)) rfl (by kernel_rfl) (by kernel_rfl) (by kernel_rfl) (fun _ _ _ h => h) (Or.inl ⟨by rfl, fun w hSw => by go_simp⟩) hH ?_
  simp only [Act.put, List.setIfInBounds_toArray, List.set_cons_zero, List.set_cons_succ]
  refine wpAnyH_take (i := 5) (oi := ⟨some 9, _, _, _, _, _⟩) (v := .int .i64 uid) rfl (by kernel_rfl) (by kernel_rfl) (by kernel_rfl) (fun _ _ _ h => h) (Or.inl ⟨by rfl, fun w hSw => by obtain ⟨c0, c1, c2, c3, c4, c5, c6, c7, c8, c9, c10⟩ := bx11 hSw.x; go_simp⟩) hH ?_
  simp only [Act.put, List.setIfInBounds_toArray, List.set_cons_zero, List.set_cons_succ]
  refine wpAnyH_take (i := 6) (oi := ⟨some 10, _, _, _, _, _⟩) (v := .pointer (some ⟨gx, 4, none⟩)) rfl (by kernel_rfl) (by kernel_rfl) (by kernel_rfl) (fun _ _ _ h => h) (Or.inl ⟨by rfl, fun w hSw => by go_simp⟩) hH ?_
  simp only [Act.put, List.setIfInBounds_toArray, List.set_cons_zero, List.set_cons_succ]
  refine wpAnyH_take (i := 7) (oi := ⟨some 11, _, _, _, _, _⟩) (v := .int .i64 gid) rfl (by kernel_rfl) (by kernel_rfl) (by kernel_rfl) (fun _ _ _ h => h) (Or.inl ⟨by rfl, fun w hSw => by obtain ⟨c0, c1, c2, c3, c4, c5, c6, c7, c8, c9, c10⟩ := bx11 hSw.x; go_simp⟩) hH ?_
  simp only [Act.put, List.setIfInBounds_toArray, List.set_cons_zero, List.set_cons_succ]
  refine wpAnyH_take (i := 8) (oi := ⟨some 12, _, _, _, _, _⟩) (v := .pointer (some ⟨gx, 5, none⟩)) rfl (by kernel_rfl) (by kernel_rfl) (by kernel_rfl) (fun _ _ _ h => h) (Or.inl ⟨by rfl, fun w hSw => by go_simp⟩) hH ?_
  simp only [Act.put, List.setIfInBounds_toArray, List.set_cons_zero, List.set_cons_succ]
  refine wpAnyH_take (i := 9) (oi := ⟨some 13, _, _, _, _, _⟩) (v := .int .i64 time) rfl (by kernel_rfl) (by kernel_rfl) (by kernel_rfl) (fun _ _ _ h => h) (Or.inl ⟨by rfl, fun w hSw => by obtain ⟨c0, c1, c2, c3, c4, c5, c6, c7, c8, c9, c10⟩ := bx11 hSw.x; go_simp⟩) hH ?_
  simp only [Act.put, List.setIfInBounds_toArray, List.set_cons_zero, List.set_cons_succ]
  refine wpAnyH_take (i := 10) (oi := ⟨some 14, _, _, _, _, _⟩) (v := .pointer (some ⟨gx, 10, none⟩)) rfl (by kernel_rfl) (by kernel_rfl) (by kernel_rfl) (fun _ _ _ h => h) (Or.inl ⟨by rfl, fun w hSw => by go_simp⟩) hH ?_
  simp only [Act.put, List.setIfInBounds_toArray, List.set_cons_zero, List.set_cons_succ]
  refine wpAnyH_take (i := 11) (oi := ⟨some 15, _, _, _, _, _⟩) (v := .slice aa al ac) rfl (by kernel_rfl) (by kernel_rfl) (by kernel_rfl) (fun _ _ _ h => h) (Or.inl ⟨by rfl, fun w hSw => by obtain ⟨c0, c1, c2, c3, c4, c5, c6, c7, c8, c9, c10⟩ := bx11 hSw.x; go_simp⟩) hH ?_
  simp only [Act.put, List.setIfInBounds_toArray, List.set_cons_zero, List.set_cons_succ]
  refine wpAnyH_ready (rs := [12, 14]) (by kernel_rfl) (by simp) ?_
  refine AllReadyH.cons rfl (fun K1 hK => ?_) (AllReadyH.cons rfl (fun K1 hK => ?_) AllReadyH.nil)
  · go_simp
    go_wp2_with (go_at_call 57; refine (hat _ hH.gr).mono ?_; rintro e w2 ⟨v2, rfl, hown, g2⟩)
    obtain ⟨as_, ac2, rfl⟩ := own_shape hown
    have hne : (Value.slice as_ (srtV attrs attrs.length []).length ac2).ownBlock ≠ some w2.heap.size := fun e => by have := (hown.lt _ e).2; omega
    have hbs : gx + 2 ≤ WD.heap.size := hH.z.lt
    replace hH := hH.kept g2
    clear g2 hat
    generalize hout : srtV attrs attrs.length [] = out at *
    have HOUT : Hid _ := hout
    clear hout
    obtain ⟨an, han⟩ : ∃ an, an = out.length := ⟨_, rfl⟩
    rw [← han] at hown ⊢
    have HAN : Hid _ := han
    clear han
    rw [← HAN.out] at hne
    refine hK.out _ _ hH (fun _ => ?_)
    clear hK K1
    refine wpAnyH_take (i := 13) (oi := ⟨some 17, _, _, _, _, _⟩) (v := .agg #[.int .i64 K, .int .i64 mode, .int .i64 uid, .int .i64 gid, .int .i64 time, .int .i64 0, .slice none 0 0, .string ⟨#[]⟩, .int .i64 0, .slice as_ an ac2, .slice none 0 0, .int .i64 0, .int .i64 0]) rfl (by kernel_rfl) (by kernel_rfl) (by kernel_rfl) (fun _ _ _ h => h) (Or.inl ⟨by rfl, fun w hSw => by go_simp⟩) hH ?_
    simp only [Act.put, List.setIfInBounds_toArray, List.set_cons_zero, List.set_cons_succ]
    refine wpAnyH_ready (rs := [14]) (by kernel_rfl) (by simp) ?_
    refine AllReadyH.cons rfl (fun K1 hK => ?_) AllReadyH.nil
    go_simp
    have gA := World.grownBy_alloc w2 (.cells #[.int .i64 0, .int .i64 0, .int .i64 0, .int .i64 0, .int .i64 0, .int .i64 0, .slice none 0 0, .string ⟨#[]⟩, .int .i64 0, .slice none 0 0, .slice none 0 0, .int .i64 0, .int .i64 0] 54) none
    have hB := Bx.new w2 54 [.int .i64 0, .int .i64 0, .int .i64 0, .int .i64 0, .int .i64 0, .int .i64 0, .slice none 0 0, .string ⟨#[]⟩, .int .i64 0, .slice none 0 0, .slice none 0 0, .int .i64 0, .int .i64 0]
    have hlt : gx + 1 < w2.heap.size := hH.z.lt
    replace hH := hH.kept gA
    replace hown := owns_kept11 hown gA
    clear gA
    generalize w2.alloc (.cells #[.int .i64 0, .int .i64 0, .int .i64 0, .int .i64 0, .int .i64 0, .int .i64 0, .slice none 0 0, .string ⟨#[]⟩, .int .i64 0, .slice none 0 0, .slice none 0 0, .int .i64 0, .int .i64 0] 54) = W3 at *
    generalize w2.heap.size = gn at *
    refine hK.out _ _ hH (fun _ => ?_)
    clear hK K1
    refine wpAnyH_ready (rs := [15]) (by kernel_rfl) (by simp) ?_
    refine AllReadyH.cons rfl (fun K1 hK => ?_) AllReadyH.nil
    refine step_store_bx (by rfl) 54 _ _ (by rfl) gn [.int .i64 K, .int .i64 mode, .int .i64 uid, .int .i64 gid, .int .i64 time, .int .i64 0, .slice none 0 0, .string ⟨#[]⟩, .int .i64 0, .slice as_ an ac2, .slice none 0 0, .int .i64 0, .int .i64 0] (by rfl) (by rfl) hB node_size rfl rfl ?_
    intro W4 hN g4
    have HW : Hid (Nw w W4 gx gn [.string P, .int .i64 K, .int .i64 mode, .int .i64 uid, .int .i64 gid, .int .i64 time, .int .i64 size, .slice da dl dc, .string target, .int .i64 dev, .slice aa al ac] [.int .i64 K, .int .i64 mode, .int .i64 uid, .int .i64 gid, .int .i64 time, .int .i64 0, .slice none 0 0, .string ⟨#[]⟩, .int .i64 0, .slice as_ an ac2, .slice none 0 0, .int .i64 0, .int .i64 0] (.slice as_ an ac2) out) := ⟨hH.but g4 hlt, hN, hlt, by rw [← HAN.out]; exact owns_low11 (hown.kept g4 (Or.inr hne)) (by omega), hne⟩
    replace hH := hH.but g4 hlt
    clear hN g4 hB hown hne hlt
    refine hK.out _ _ hH (fun _ => ?_)
    clear hK K1
    refine wpAnyH_done (by kernel_rfl) ?_ _
    clear hH
    by_cases hk1 : K = 1
    · subst hk1
      obtain ⟨c0, c1, c2, c3, c4, c5, c6, c7, c8, c9, c10⟩ := bx11 HW.out.nv.x
      go_wp2_with fail
      clear c0 c1 c2 c3 c4 c5 c6 c7 c8 c9 c10
      refine wp_region_held_drew (S := fun w' => ∃ nc, Nw w w' gx gn [.string P, .int .i64 1, .int .i64 mode, .int .i64 uid, .int .i64 gid, .int .i64 time, .int .i64 size, .slice da dl dc, .string target, .int .i64 dev, .slice aa al ac] nc (.slice as_ an ac2) out) (by kernel_rfl) ⟨_, HW.out.kept (drewG0 W4)⟩ (fun hH => ?_)
      have HW5 : Hid _ := HW.out.kept (drewG0 W4)
      clear HW
      generalize W4.drew = W5 at *
      refine wpAnyH_take (i := 0) (oi := ⟨some 21, _, _, _, _, _⟩) (v := .pointer (some ⟨gx, 6, none⟩)) rfl (by kernel_rfl) (by kernel_rfl) (by kernel_rfl) (fun _ _ _ h => h) (Or.inl ⟨by rfl, fun w hSw => by go_simp⟩) hH ?_
      simp only [Act.put, List.setIfInBounds_toArray, List.set_cons_zero, List.set_cons_succ]
      refine wpAnyH_take (i := 1) (oi := ⟨some 22, _, _, _, _, _⟩) (v := .int .i64 size) rfl (by kernel_rfl) (by kernel_rfl) (by kernel_rfl) (fun _ _ _ h => h) (Or.inl ⟨by rfl, fun w hSw => by obtain ⟨nc', hSw⟩ := hSw; obtain ⟨c0, c1, c2, c3, c4, c5, c6, c7, c8, c9, c10⟩ := bx11 hSw.nv.x; go_simp⟩) hH ?_
      simp only [Act.put, List.setIfInBounds_toArray, List.set_cons_zero, List.set_cons_succ]
      refine wpAnyH_take (i := 2) (oi := ⟨some 23, _, _, _, _, _⟩) (v := .pointer (some ⟨gx, 7, none⟩)) rfl (by kernel_rfl) (by kernel_rfl) (by kernel_rfl) (fun _ _ _ h => h) (Or.inl ⟨by rfl, fun w hSw => by go_simp⟩) hH ?_
      simp only [Act.put, List.setIfInBounds_toArray, List.set_cons_zero, List.set_cons_succ]
      refine wpAnyH_take (i := 3) (oi := ⟨some 24, _, _, _, _, _⟩) (v := .slice da dl dc) rfl (by kernel_rfl) (by kernel_rfl) (by kernel_rfl) (fun _ _ _ h => h) (Or.inl ⟨by rfl, fun w hSw => by obtain ⟨nc', hSw⟩ := hSw; obtain ⟨c0, c1, c2, c3, c4, c5, c6, c7, c8, c9, c10⟩ := bx11 hSw.nv.x; go_simp⟩) hH ?_
      simp only [Act.put, List.setIfInBounds_toArray, List.set_cons_zero, List.set_cons_succ]
      refine wpAnyH_take (i := 4) (oi := ⟨some 25, _, _, _, _, _⟩) (v := .pointer (some ⟨gn, 5, none⟩)) rfl (by kernel_rfl) (by kernel_rfl) (by kernel_rfl) (fun _ _ _ h => h) (Or.inl ⟨by rfl, fun w hSw => by go_simp⟩) hH ?_
      simp only [Act.put, List.setIfInBounds_toArray, List.set_cons_zero, List.set_cons_succ]
      refine wpAnyH_ready (rs := [5]) (by kernel_rfl) (by simp) ?_
      refine AllReadyH.cons rfl (fun K1 hK => ?_) AllReadyH.nil
      have q1 := HW5.out.n.c 5
      have q2 := HW5.out.n.f 5
      simp only [List.getElem?_cons_zero, List.getElem?_cons_succ, List.set_cons_zero, List.set_cons_succ] at q1
      go_simp
      have HW6 : Hid _ := HW5.out.set 5 (.int .i64 size)
      clear HW5 hH q1 q2
      generalize W5.setCell ⟨gn, 5, none⟩ (.int .i64 size) = W6 at *
      have hH : ∃ nc, Nw w W6 gx gn [.string P, .int .i64 1, .int .i64 mode, .int .i64 uid, .int .i64 gid, .int .i64 time, .int .i64 size, .slice da dl dc, .string target, .int .i64 dev, .slice aa al ac] nc (.slice as_ an ac2) out := ⟨_, HW6.out⟩
      refine hK.out _ _ hH (fun _ => ?_)
      clear hK K1
      refine wpAnyH_take (i := 6) (oi := ⟨some 26, _, _, _, _, _⟩) (v := .pointer (some ⟨gn, 6, none⟩)) rfl (by kernel_rfl) (by kernel_rfl) (by kernel_rfl) (fun _ _ _ h => h) (Or.inl ⟨by rfl, fun w hSw => by go_simp⟩) hH ?_
      simp only [Act.put, List.setIfInBounds_toArray, List.set_cons_zero, List.set_cons_succ]
      refine wpAnyH_ready (rs := [7]) (by kernel_rfl) (by simp) ?_
      refine AllReadyH.cons rfl (fun K1 hK => ?_) AllReadyH.nil
      have q1 := HW6.out.n.c 6
      have q2 := HW6.out.n.f 6
      simp only [List.getElem?_cons_zero, List.getElem?_cons_succ, List.set_cons_zero, List.set_cons_succ] at q1
      go_simp
      have HW7 : Hid _ := HW6.out.set 6 (.slice da dl dc)
      clear HW6 hH q1 q2
      generalize W6.setCell ⟨gn, 6, none⟩ (.slice da dl dc) = W7 at *
      have hH : ∃ nc, Nw w W7 gx gn [.string P, .int .i64 1, .int .i64 mode, .int .i64 uid, .int .i64 gid, .int .i64 time, .int .i64 size, .slice da dl dc, .string target, .int .i64 dev, .slice aa al ac] nc (.slice as_ an ac2) out := ⟨_, HW7.out⟩
      refine hK.out _ _ hH (fun _ => ?_)
      clear hK K1
      refine wpAnyH_done (by kernel_rfl) ?_ _
      clear hH
      simp only [List.set_cons_zero, List.set_cons_succ] at HW7
      go_wp2_with fail
      have hdc := HO.out.dcap
      simp only at hdc
      go_loopw [27] (fun _ wr => ∃ n : Nat, n ≤ dl ∧ Hid (Nw w wr gx gn [.string P, .int .i64 1, .int .i64 mode, .int .i64 uid, .int .i64 gid, .int .i64 time, .int .i64 size, .slice da dl dc, .string target, .int .i64 dev, .slice aa al ac] ([.int .i64 1, .int .i64 mode, .int .i64 uid, .int .i64 gid, .int .i64 time, .int .i64 size, .slice da n dc, .string ⟨#[]⟩, .int .i64 0, .slice as_ an ac2, .slice none 0 0, .int .i64 0, .int .i64 0]) (.slice as_ an ac2) out ∧ strip (data.take n) = strip data)) (fun _ wr => dlen gn wr)
      case atStart => exact ⟨dl, Nat.le_refl _, HW7.out, by rw [List.take_of_length_le (by have := HO.out.row.len_eq; simp only at this; omega)]⟩
      case round =>
        obtain ⟨n, hn, HL⟩ := hrel
        clear HW7
        obtain ⟨m0, m1, m2, m3, m4, m5, m6, m7, m8, m9, m10, m11, m12⟩ := bx13 HL.out.1.n
        have f6 := HL.out.1.n.f 6
        obtain ⟨c0, c1, c2, c3, c4, c5, c6, c7, c8, c9, c10⟩ := bx11 HL.out.1.nv.x
        rcases n with _ | n
        · have HW : Hid _ := HL.out.1
          have HD : Hid (strip data = []) := by
            have := HL.out.2
            rw [List.take_zero] at this
            rw [← this]
            rfl
          clear HL
          go_wp2_with ((with_reducible refine node_here ?_); refine wpList_store_bx13 rfl 54 _ _ rfl (gx + 1) [.int .i64 1, .int .i64 mode, .int .i64 uid, .int .i64 gid, .int .i64 time, .int .i64 size, .slice da 0 dc, .string ⟨#[]⟩, .int .i64 0, .slice as_ an ac2, .slice none 0 0, .int .i64 0, .int .i64 0] rfl rfl HW.out.nv.z node_size rfl rfl ?_; intro W9 hz9 g9)
          obtain ⟨z0, z1, z2, z3, z4, z5, z6, z7, z8, z9, z10, z11, z12⟩ := bx13 hz9
          have hfin := HW.out.fin hz9 g9
          refine bodyPost_ret (v := .agg #[.int .i64 1, .int .i64 mode, .int .i64 uid, .int .i64 gid, .int .i64 time, .int .i64 size, .slice da 0 dc, .string ⟨#[]⟩, .int .i64 0, .slice as_ an ac2, .slice none 0 0, .int .i64 0, .int .i64 0]) (by simp [results, Tryz.results29, go_sem, *]) rfl ?_
          refine ⟨⟨1, mode, uid, gid, time, size, da, 0, dc, [], ⟨#[]⟩, 0, as_, an, ac2, out, none, 0, 0, [], 0, 0⟩, rfl, ?_, ?_, ⟨rfl, rfl, rfl⟩, hfin.1⟩
          · obtain ⟨a', c', e', hats, -, -⟩ := own_ats hfin.2 rfl (fun A hA => srt_rows HO.out.ats hfin.1 A (by rw [HOUT.out]; exact hA))
            injection e' with e1 e2 e3
            subst e1 e3
            refine ⟨row_zero da, ?_, kds_none _⟩
            rw [← HAN.out] at hats
            exact hats
          · unfold NoV.no EnV.en ndOf
            simp only [srtV_atts HOUT.out, tl_nil]
            simp [HD.out]
        · have hrow := HO.out.row.grown HL.out.1.nv.gr
          simp only at hrow
          have hlen := hrow.len_eq
          obtain ⟨db, dof, rfl, hcell⟩ := hrow.cells (by omega)
          have y0 := hcell n (by omega)
          have hmx : dl ≤ 9223372036854775807 := hrow.le
          have hpos : (0 : Int) < ((n + 1 : Nat) : Int) := by omega
          have hwm : IntKind.i64.wrap (((n + 1 : Nat) : Int) - 1) = (n : Int) := by rw [IntKind.wrap_i64]; omega
          by_cases hz : data.getD n 0 = 0
          · rw [hz] at y0
            have HN : Hid (Nw w (wr.setCell ⟨gn, 6, none⟩ (.slice (some ⟨db, dof, none⟩) n dc)) gx gn [.string P, .int .i64 1, .int .i64 mode, .int .i64 uid, .int .i64 gid, .int .i64 time, .int .i64 size, .slice (some ⟨db, dof, none⟩) dl dc, .string target, .int .i64 dev, .slice aa al ac] ([.int .i64 1, .int .i64 mode, .int .i64 uid, .int .i64 gid, .int .i64 time, .int .i64 size, .slice (some ⟨db, dof, none⟩) n dc, .string ⟨#[]⟩, .int .i64 0, .slice as_ an ac2, .slice none 0 0, .int .i64 0, .int .i64 0]) (.slice as_ an ac2) out ∧ strip (data.take n) = strip data) := ⟨HL.out.1.set 6 _, by rw [← HL.out.2, strip_zero (by omega) hz]⟩
            have HM : Hid (dlen gn wr = n + 1) := by show dlen gn wr = _; unfold dlen; rw [m6]
            have hnc : (n : Int) ≤ dc := by omega
            clear HL hcell
            go_wp2
            refine ⟨⟨n, by omega, HN⟩, ?_⟩
            have hd2 : dlen gn (wr.setCell ⟨gn, 6, none⟩ (.slice (some ⟨db, dof, none⟩) n dc)) = n := by unfold dlen; rw [HN.out.1.n.c 6]; rfl
            rw [HM.out, hd2]
            omega
          · have hzb : (data.getD n 0 == 0) = false := by simpa using hz
            have HW : Hid _ := HL.out.1
            have HD : Hid (strip data = data.take (n + 1)) := by rw [← HL.out.2]; exact strip_stop (by omega) hz
            generalize data.getD n 0 = xb at y0 hzb
            clear HL hcell hrow hz
            go_wp2_with ((with_reducible refine node_here ?_); refine wpList_store_bx13 rfl 54 _ _ rfl (gx + 1) [.int .i64 1, .int .i64 mode, .int .i64 uid, .int .i64 gid, .int .i64 time, .int .i64 size, .slice (some ⟨db, dof, none⟩) (n + 1) dc, .string ⟨#[]⟩, .int .i64 0, .slice as_ an ac2, .slice none 0 0, .int .i64 0, .int .i64 0] rfl rfl HW.out.nv.z node_size rfl rfl ?_; intro W9 hz9 g9)
            obtain ⟨z0, z1, z2, z3, z4, z5, z6, z7, z8, z9, z10, z11, z12⟩ := bx13 hz9
            have hfin := HW.out.fin hz9 g9
            refine bodyPost_ret (v := .agg #[.int .i64 1, .int .i64 mode, .int .i64 uid, .int .i64 gid, .int .i64 time, .int .i64 size, .slice (some ⟨db, dof, none⟩) (n + 1) dc, .string ⟨#[]⟩, .int .i64 0, .slice as_ an ac2, .slice none 0 0, .int .i64 0, .int .i64 0]) (by simp [results, Tryz.results29, go_sem, *]) rfl ?_
            refine ⟨⟨1, mode, uid, gid, time, size, (some ⟨db, dof, none⟩), (n + 1), dc, (data.take (n + 1)), ⟨#[]⟩, 0, as_, an, ac2, out, none, 0, 0, [], 0, 0⟩, rfl, ?_, ?_, ⟨rfl, rfl, rfl⟩, hfin.1⟩
            · obtain ⟨a', c', e', hats, -, -⟩ := own_ats hfin.2 rfl (fun A hA => srt_rows HO.out.ats hfin.1 A (by rw [HOUT.out]; exact hA))
              injection e' with e1 e2 e3
              subst e1 e3
              refine ⟨row_take (HO.out.row.grown hfin.1) (by omega), ?_, kds_none _⟩
              rw [← HAN.out] at hats
              exact hats
            · unfold NoV.no EnV.en ndOf
              simp only [srtV_atts HOUT.out, tl_nil]
              simp [HD.out]
    · have hk1b : (K == 1) = false := by simpa using hk1
      obtain ⟨c0, c1, c2, c3, c4, c5, c6, c7, c8, c9, c10⟩ := bx11 HW.out.nv.x
      obtain ⟨m0, m1, m2, m3, m4, m5, m6, m7, m8, m9, m10, m11, m12⟩ := bx13 HW.out.n
      by_cases hk3 : K = 3
      · subst hk3
        have f7 := HW.out.n.f 7
        have HW2 : Hid (Nw w (W4.setCell ⟨gn, 7, none⟩ (.string target)) gx gn [.string P, .int .i64 3, .int .i64 mode, .int .i64 uid, .int .i64 gid, .int .i64 time, .int .i64 size, .slice da dl dc, .string target, .int .i64 dev, .slice aa al ac] [.int .i64 3, .int .i64 mode, .int .i64 uid, .int .i64 gid, .int .i64 time, .int .i64 0, .slice none 0 0, .string target, .int .i64 0, .slice as_ an ac2, .slice none 0 0, .int .i64 0, .int .i64 0] (.slice as_ an ac2) out) := HW.out.set 7 (.string target)
        clear HW
        have HW := HW2
        clear HW2
        go_wp2_with ((with_reducible refine node_here ?_); refine wpList_store_bx13 rfl 54 _ _ rfl (gx + 1) [.int .i64 3, .int .i64 mode, .int .i64 uid, .int .i64 gid, .int .i64 time, .int .i64 0, .slice none 0 0, .string target, .int .i64 0, .slice as_ an ac2, .slice none 0 0, .int .i64 0, .int .i64 0] rfl rfl HW.out.nv.z node_size rfl rfl ?_; intro W9 hz9 g9)
        obtain ⟨z0, z1, z2, z3, z4, z5, z6, z7, z8, z9, z10, z11, z12⟩ := bx13 hz9
        have hfin := HW.out.fin hz9 g9
        refine bodyPost_ret (v := .agg #[.int .i64 3, .int .i64 mode, .int .i64 uid, .int .i64 gid, .int .i64 time, .int .i64 0, .slice none 0 0, .string target, .int .i64 0, .slice as_ an ac2, .slice none 0 0, .int .i64 0, .int .i64 0]) (by simp [results, Tryz.results29, go_sem, *]) rfl ?_
        refine ⟨⟨3, mode, uid, gid, time, 0, none, 0, 0, [], target, 0, as_, an, ac2, out, none, 0, 0, [], 0, 0⟩, rfl, ?_, ?_, ⟨rfl, rfl, rfl⟩, hfin.1⟩
        · obtain ⟨a', c', e', hats, -, -⟩ := own_ats hfin.2 rfl (fun A hA => srt_rows HO.out.ats hfin.1 A (by rw [HOUT.out]; exact hA))
          injection e' with e1 e2 e3
          subst e1 e3
          refine ⟨row_zero none, ?_, kds_none _⟩
          rw [← HAN.out] at hats
          exact hats
        · unfold NoV.no EnV.en ndOf
          simp only [srtV_atts HOUT.out, tl_nil]
          simp []
      · have hk3b : (K == 3) = false := by simpa using hk3
        by_cases hk45 : K = 4 ∨ K = 5
        · rcases hk45 with hk4 | hk5
          · subst hk4
            have f8 := HW.out.n.f 8
            have HW2 : Hid (Nw w (W4.setCell ⟨gn, 8, none⟩ (.int .i64 dev)) gx gn [.string P, .int .i64 4, .int .i64 mode, .int .i64 uid, .int .i64 gid, .int .i64 time, .int .i64 size, .slice da dl dc, .string target, .int .i64 dev, .slice aa al ac] [.int .i64 4, .int .i64 mode, .int .i64 uid, .int .i64 gid, .int .i64 time, .int .i64 0, .slice none 0 0, .string ⟨#[]⟩, .int .i64 dev, .slice as_ an ac2, .slice none 0 0, .int .i64 0, .int .i64 0] (.slice as_ an ac2) out) := HW.out.set 8 (.int .i64 dev)
            clear HW
            have HW := HW2
            clear HW2
            go_wp2_with ((with_reducible refine node_here ?_); refine wpList_store_bx13 rfl 54 _ _ rfl (gx + 1) [.int .i64 4, .int .i64 mode, .int .i64 uid, .int .i64 gid, .int .i64 time, .int .i64 0, .slice none 0 0, .string ⟨#[]⟩, .int .i64 dev, .slice as_ an ac2, .slice none 0 0, .int .i64 0, .int .i64 0] rfl rfl HW.out.nv.z node_size rfl rfl ?_; intro W9 hz9 g9)
            obtain ⟨z0, z1, z2, z3, z4, z5, z6, z7, z8, z9, z10, z11, z12⟩ := bx13 hz9
            have hfin := HW.out.fin hz9 g9
            refine bodyPost_ret (v := .agg #[.int .i64 4, .int .i64 mode, .int .i64 uid, .int .i64 gid, .int .i64 time, .int .i64 0, .slice none 0 0, .string ⟨#[]⟩, .int .i64 dev, .slice as_ an ac2, .slice none 0 0, .int .i64 0, .int .i64 0]) (by simp [results, Tryz.results29, go_sem, *]) rfl ?_
            refine ⟨⟨4, mode, uid, gid, time, 0, none, 0, 0, [], ⟨#[]⟩, dev, as_, an, ac2, out, none, 0, 0, [], 0, 0⟩, rfl, ?_, ?_, ⟨rfl, rfl, rfl⟩, hfin.1⟩
            · obtain ⟨a', c', e', hats, -, -⟩ := own_ats hfin.2 rfl (fun A hA => srt_rows HO.out.ats hfin.1 A (by rw [HOUT.out]; exact hA))
              injection e' with e1 e2 e3
              subst e1 e3
              refine ⟨row_zero none, ?_, kds_none _⟩
              rw [← HAN.out] at hats
              exact hats
            · unfold NoV.no EnV.en ndOf
              simp only [srtV_atts HOUT.out, tl_nil]
              simp []
          · subst hk5
            have f8 := HW.out.n.f 8
            have HW2 : Hid (Nw w (W4.setCell ⟨gn, 8, none⟩ (.int .i64 dev)) gx gn [.string P, .int .i64 5, .int .i64 mode, .int .i64 uid, .int .i64 gid, .int .i64 time, .int .i64 size, .slice da dl dc, .string target, .int .i64 dev, .slice aa al ac] [.int .i64 5, .int .i64 mode, .int .i64 uid, .int .i64 gid, .int .i64 time, .int .i64 0, .slice none 0 0, .string ⟨#[]⟩, .int .i64 dev, .slice as_ an ac2, .slice none 0 0, .int .i64 0, .int .i64 0] (.slice as_ an ac2) out) := HW.out.set 8 (.int .i64 dev)
            clear HW
            have HW := HW2
            clear HW2
            go_wp2_with ((with_reducible refine node_here ?_); refine wpList_store_bx13 rfl 54 _ _ rfl (gx + 1) [.int .i64 5, .int .i64 mode, .int .i64 uid, .int .i64 gid, .int .i64 time, .int .i64 0, .slice none 0 0, .string ⟨#[]⟩, .int .i64 dev, .slice as_ an ac2, .slice none 0 0, .int .i64 0, .int .i64 0] rfl rfl HW.out.nv.z node_size rfl rfl ?_; intro W9 hz9 g9)
            obtain ⟨z0, z1, z2, z3, z4, z5, z6, z7, z8, z9, z10, z11, z12⟩ := bx13 hz9
            have hfin := HW.out.fin hz9 g9
            refine bodyPost_ret (v := .agg #[.int .i64 5, .int .i64 mode, .int .i64 uid, .int .i64 gid, .int .i64 time, .int .i64 0, .slice none 0 0, .string ⟨#[]⟩, .int .i64 dev, .slice as_ an ac2, .slice none 0 0, .int .i64 0, .int .i64 0]) (by simp [results, Tryz.results29, go_sem, *]) rfl ?_
            refine ⟨⟨5, mode, uid, gid, time, 0, none, 0, 0, [], ⟨#[]⟩, dev, as_, an, ac2, out, none, 0, 0, [], 0, 0⟩, rfl, ?_, ?_, ⟨rfl, rfl, rfl⟩, hfin.1⟩
            · obtain ⟨a', c', e', hats, -, -⟩ := own_ats hfin.2 rfl (fun A hA => srt_rows HO.out.ats hfin.1 A (by rw [HOUT.out]; exact hA))
              injection e' with e1 e2 e3
              subst e1 e3
              refine ⟨row_zero none, ?_, kds_none _⟩
              rw [← HAN.out] at hats
              exact hats
            · unfold NoV.no EnV.en ndOf
              simp only [srtV_atts HOUT.out, tl_nil]
              simp []
        · have hk4b : (K == 4) = false := by simpa using fun e => hk45 (Or.inl e)
          have hk5b : (K == 5) = false := by simpa using fun e => hk45 (Or.inr e)
          go_wp2_with ((with_reducible refine node_here ?_); refine wpList_store_bx13 rfl 54 _ _ rfl (gx + 1) [.int .i64 K, .int .i64 mode, .int .i64 uid, .int .i64 gid, .int .i64 time, .int .i64 0, .slice none 0 0, .string ⟨#[]⟩, .int .i64 0, .slice as_ an ac2, .slice none 0 0, .int .i64 0, .int .i64 0] rfl rfl HW.out.nv.z node_size rfl rfl ?_; intro W9 hz9 g9)
          obtain ⟨z0, z1, z2, z3, z4, z5, z6, z7, z8, z9, z10, z11, z12⟩ := bx13 hz9
          have hfin := HW.out.fin hz9 g9
          refine bodyPost_ret (v := .agg #[.int .i64 K, .int .i64 mode, .int .i64 uid, .int .i64 gid, .int .i64 time, .int .i64 0, .slice none 0 0, .string ⟨#[]⟩, .int .i64 0, .slice as_ an ac2, .slice none 0 0, .int .i64 0, .int .i64 0]) (by simp [results, Tryz.results29, go_sem, *]) rfl ?_
          refine ⟨⟨K, mode, uid, gid, time, 0, none, 0, 0, [], ⟨#[]⟩, 0, as_, an, ac2, out, none, 0, 0, [], 0, 0⟩, rfl, ?_, ?_, ⟨rfl, rfl, rfl⟩, hfin.1⟩
          · obtain ⟨a', c', e', hats, -, -⟩ := own_ats hfin.2 rfl (fun A hA => srt_rows HO.out.ats hfin.1 A (by rw [HOUT.out]; exact hA))
            injection e' with e1 e2 e3
            subst e1 e3
            refine ⟨row_zero none, ?_, kds_none _⟩
            rw [← HAN.out] at hats
            exact hats
          · unfold NoV.no EnV.en ndOf
            simp only [srtV_atts HOUT.out, tl_nil]
            simp [hk1, hk3, hk45]
  · go_simp
    have gA := World.grownBy_alloc WD (.cells #[.int .i64 0, .int .i64 0, .int .i64 0, .int .i64 0, .int .i64 0, .int .i64 0, .slice none 0 0, .string ⟨#[]⟩, .int .i64 0, .slice none 0 0, .slice none 0 0, .int .i64 0, .int .i64 0] 54) none
    have hB := Bx.new WD 54 [.int .i64 0, .int .i64 0, .int .i64 0, .int .i64 0, .int .i64 0, .int .i64 0, .slice none 0 0, .string ⟨#[]⟩, .int .i64 0, .slice none 0 0, .slice none 0 0, .int .i64 0, .int .i64 0]
    have hlt : gx + 1 < WD.heap.size := hH.z.lt
    replace hH := hH.kept gA
    clear gA
    generalize WD.alloc (.cells #[.int .i64 0, .int .i64 0, .int .i64 0, .int .i64 0, .int .i64 0, .int .i64 0, .slice none 0 0, .string ⟨#[]⟩, .int .i64 0, .slice none 0 0, .slice none 0 0, .int .i64 0, .int .i64 0] 54) = W3 at *
    generalize WD.heap.size = gn at *
    refine hK.out _ _ hH (fun _ => ?_)
    clear hK K1
    refine wpAnyH_ready (rs := [12]) (by kernel_rfl) (by simp) ?_
    refine AllReadyH.cons rfl (fun K1 hK => ?_) AllReadyH.nil
    go_simp
    go_wp2_with (go_at_call 57; refine (hat _ hH.gr).mono ?_; rintro e w2 ⟨v2, rfl, hown, g2⟩)
    obtain ⟨as_, ac2, rfl⟩ := own_shape hown
    have hgl := hB.lt
    have hne : (Value.slice as_ (srtV attrs attrs.length []).length ac2).ownBlock ≠ some gn := fun e => by have := (hown.lt _ e).1; omega
    have hbs : gx + 2 ≤ W3.heap.size := by omega
    replace hB := hB.kept g2
    replace hH := hH.kept g2
    clear g2 hat
    generalize hout : srtV attrs attrs.length [] = out at *
    have HOUT : Hid _ := hout
    clear hout
    obtain ⟨an, han⟩ : ∃ an, an = out.length := ⟨_, rfl⟩
    rw [← han] at hown ⊢
    have HAN : Hid _ := han
    clear han
    rw [← HAN.out] at hne
    refine hK.out _ _ hH (fun _ => ?_)
    clear hK K1
    refine wpAnyH_take (i := 13) (oi := ⟨some 17, _, _, _, _, _⟩) (v := .agg #[.int .i64 K, .int .i64 mode, .int .i64 uid, .int .i64 gid, .int .i64 time, .int .i64 0, .slice none 0 0, .string ⟨#[]⟩, .int .i64 0, .slice as_ an ac2, .slice none 0 0, .int .i64 0, .int .i64 0]) rfl (by kernel_rfl) (by kernel_rfl) (by kernel_rfl) (fun _ _ _ h => h) (Or.inl ⟨by rfl, fun w hSw => by go_simp⟩) hH ?_
    simp only [Act.put, List.setIfInBounds_toArray, List.set_cons_zero, List.set_cons_succ]
    refine wpAnyH_ready (rs := [15]) (by kernel_rfl) (by simp) ?_
    refine AllReadyH.cons rfl (fun K1 hK => ?_) AllReadyH.nil
    refine step_store_bx (by rfl) 54 _ _ (by rfl) gn [.int .i64 K, .int .i64 mode, .int .i64 uid, .int .i64 gid, .int .i64 time, .int .i64 0, .slice none 0 0, .string ⟨#[]⟩, .int .i64 0, .slice as_ an ac2, .slice none 0 0, .int .i64 0, .int .i64 0] (by rfl) (by rfl) hB node_size rfl rfl ?_
    intro W4 hN g4
    have HW : Hid (Nw w W4 gx gn [.string P, .int .i64 K, .int .i64 mode, .int .i64 uid, .int .i64 gid, .int .i64 time, .int .i64 size, .slice da dl dc, .string target, .int .i64 dev, .slice aa al ac] [.int .i64 K, .int .i64 mode, .int .i64 uid, .int .i64 gid, .int .i64 time, .int .i64 0, .slice none 0 0, .string ⟨#[]⟩, .int .i64 0, .slice as_ an ac2, .slice none 0 0, .int .i64 0, .int .i64 0] (.slice as_ an ac2) out) := ⟨hH.but g4 hlt, hN, hlt, by rw [← HAN.out]; exact owns_low11 (hown.kept g4 (Or.inr hne)) (by omega), hne⟩
    replace hH := hH.but g4 hlt
    clear hN g4 hB hown hne hlt
    refine hK.out _ _ hH (fun _ => ?_)
    clear hK K1
    refine wpAnyH_done (by kernel_rfl) ?_ _
    clear hH
    by_cases hk1 : K = 1
    · subst hk1
      obtain ⟨c0, c1, c2, c3, c4, c5, c6, c7, c8, c9, c10⟩ := bx11 HW.out.nv.x
      go_wp2_with fail
      clear c0 c1 c2 c3 c4 c5 c6 c7 c8 c9 c10
      refine wp_region_held_drew (S := fun w' => ∃ nc, Nw w w' gx gn [.string P, .int .i64 1, .int .i64 mode, .int .i64 uid, .int .i64 gid, .int .i64 time, .int .i64 size, .slice da dl dc, .string target, .int .i64 dev, .slice aa al ac] nc (.slice as_ an ac2) out) (by kernel_rfl) ⟨_, HW.out.kept (drewG0 W4)⟩ (fun hH => ?_)
      have HW5 : Hid _ := HW.out.kept (drewG0 W4)
      clear HW
      generalize W4.drew = W5 at *
      refine wpAnyH_take (i := 0) (oi := ⟨some 21, _, _, _, _, _⟩) (v := .pointer (some ⟨gx, 6, none⟩)) rfl (by kernel_rfl) (by kernel_rfl) (by kernel_rfl) (fun _ _ _ h => h) (Or.inl ⟨by rfl, fun w hSw => by go_simp⟩) hH ?_
      simp only [Act.put, List.setIfInBounds_toArray, List.set_cons_zero, List.set_cons_succ]
      refine wpAnyH_take (i := 1) (oi := ⟨some 22, _, _, _, _, _⟩) (v := .int .i64 size) rfl (by kernel_rfl) (by kernel_rfl) (by kernel_rfl) (fun _ _ _ h => h) (Or.inl ⟨by rfl, fun w hSw => by obtain ⟨nc', hSw⟩ := hSw; obtain ⟨c0, c1, c2, c3, c4, c5, c6, c7, c8, c9, c10⟩ := bx11 hSw.nv.x; go_simp⟩) hH ?_
      simp only [Act.put, List.setIfInBounds_toArray, List.set_cons_zero, List.set_cons_succ]
      refine wpAnyH_take (i := 2) (oi := ⟨some 23, _, _, _, _, _⟩) (v := .pointer (some ⟨gx, 7, none⟩)) rfl (by kernel_rfl) (by kernel_rfl) (by kernel_rfl) (fun _ _ _ h => h) (Or.inl ⟨by rfl, fun w hSw => by go_simp⟩) hH ?_
      simp only [Act.put, List.setIfInBounds_toArray, List.set_cons_zero, List.set_cons_succ]
      refine wpAnyH_take (i := 3) (oi := ⟨some 24, _, _, _, _, _⟩) (v := .slice da dl dc) rfl (by kernel_rfl) (by kernel_rfl) (by kernel_rfl) (fun _ _ _ h => h) (Or.inl ⟨by rfl, fun w hSw => by obtain ⟨nc', hSw⟩ := hSw; obtain ⟨c0, c1, c2, c3, c4, c5, c6, c7, c8, c9, c10⟩ := bx11 hSw.nv.x; go_simp⟩) hH ?_
      simp only [Act.put, List.setIfInBounds_toArray, List.set_cons_zero, List.set_cons_succ]
      refine wpAnyH_take (i := 4) (oi := ⟨some 25, _, _, _, _, _⟩) (v := .pointer (some ⟨gn, 5, none⟩)) rfl (by kernel_rfl) (by kernel_rfl) (by kernel_rfl) (fun _ _ _ h => h) (Or.inl ⟨by rfl, fun w hSw => by go_simp⟩) hH ?_
      simp only [Act.put, List.setIfInBounds_toArray, List.set_cons_zero, List.set_cons_succ]
      refine wpAnyH_ready (rs := [5]) (by kernel_rfl) (by simp) ?_
      refine AllReadyH.cons rfl (fun K1 hK => ?_) AllReadyH.nil
      have q1 := HW5.out.n.c 5
      have q2 := HW5.out.n.f 5
      simp only [List.getElem?_cons_zero, List.getElem?_cons_succ, List.set_cons_zero, List.set_cons_succ] at q1
      go_simp
      have HW6 : Hid _ := HW5.out.set 5 (.int .i64 size)
      clear HW5 hH q1 q2
      generalize W5.setCell ⟨gn, 5, none⟩ (.int .i64 size) = W6 at *
      have hH : ∃ nc, Nw w W6 gx gn [.string P, .int .i64 1, .int .i64 mode, .int .i64 uid, .int .i64 gid, .int .i64 time, .int .i64 size, .slice da dl dc, .string target, .int .i64 dev, .slice aa al ac] nc (.slice as_ an ac2) out := ⟨_, HW6.out⟩
      refine hK.out _ _ hH (fun _ => ?_)
      clear hK K1
      refine wpAnyH_take (i := 6) (oi := ⟨some 26, _, _, _, _, _⟩) (v := .pointer (some ⟨gn, 6, none⟩)) rfl (by kernel_rfl) (by kernel_rfl) (by kernel_rfl) (fun _ _ _ h => h) (Or.inl ⟨by rfl, fun w hSw => by go_simp⟩) hH ?_
      simp only [Act.put, List.setIfInBounds_toArray, List.set_cons_zero, List.set_cons_succ]
      refine wpAnyH_ready (rs := [7]) (by kernel_rfl) (by simp) ?_
      refine AllReadyH.cons rfl (fun K1 hK => ?_) AllReadyH.nil
      have q1 := HW6.out.n.c 6
      have q2 := HW6.out.n.f 6
      simp only [List.getElem?_cons_zero, List.getElem?_cons_succ, List.set_cons_zero, List.set_cons_succ] at q1
      go_simp
      have HW7 : Hid _ := HW6.out.set 6 (.slice da dl dc)
      clear HW6 hH q1 q2
      generalize W6.setCell ⟨gn, 6, none⟩ (.slice da dl dc) = W7 at *
      have hH : ∃ nc, Nw w W7 gx gn [.string P, .int .i64 1, .int .i64 mode, .int .i64 uid, .int .i64 gid, .int .i64 time, .int .i64 size, .slice da dl dc, .string target, .int .i64 dev, .slice aa al ac] nc (.slice as_ an ac2) out := ⟨_, HW7.out⟩
      refine hK.out _ _ hH (fun _ => ?_)
      clear hK K1
      refine wpAnyH_done (by kernel_rfl) ?_ _
      clear hH
      simp only [List.set_cons_zero, List.set_cons_succ] at HW7
      go_wp2_with fail
      have hdc := HO.out.dcap
      simp only at hdc
      go_loopw [27] (fun _ wr => ∃ n : Nat, n ≤ dl ∧ Hid (Nw w wr gx gn [.string P, .int .i64 1, .int .i64 mode, .int .i64 uid, .int .i64 gid, .int .i64 time, .int .i64 size, .slice da dl dc, .string target, .int .i64 dev, .slice aa al ac] ([.int .i64 1, .int .i64 mode, .int .i64 uid, .int .i64 gid, .int .i64 time, .int .i64 size, .slice da n dc, .string ⟨#[]⟩, .int .i64 0, .slice as_ an ac2, .slice none 0 0, .int .i64 0, .int .i64 0]) (.slice as_ an ac2) out ∧ strip (data.take n) = strip data)) (fun _ wr => dlen gn wr)
      case atStart => exact ⟨dl, Nat.le_refl _, HW7.out, by rw [List.take_of_length_le (by have := HO.out.row.len_eq; simp only at this; omega)]⟩
      case round =>
        obtain ⟨n, hn, HL⟩ := hrel
        clear HW7
        obtain ⟨m0, m1, m2, m3, m4, m5, m6, m7, m8, m9, m10, m11, m12⟩ := bx13 HL.out.1.n
        have f6 := HL.out.1.n.f 6
        obtain ⟨c0, c1, c2, c3, c4, c5, c6, c7, c8, c9, c10⟩ := bx11 HL.out.1.nv.x
        rcases n with _ | n
        · have HW : Hid _ := HL.out.1
          have HD : Hid (strip data = []) := by
            have := HL.out.2
            rw [List.take_zero] at this
            rw [← this]
            rfl
          clear HL
          go_wp2_with ((with_reducible refine node_here ?_); refine wpList_store_bx13 rfl 54 _ _ rfl (gx + 1) [.int .i64 1, .int .i64 mode, .int .i64 uid, .int .i64 gid, .int .i64 time, .int .i64 size, .slice da 0 dc, .string ⟨#[]⟩, .int .i64 0, .slice as_ an ac2, .slice none 0 0, .int .i64 0, .int .i64 0] rfl rfl HW.out.nv.z node_size rfl rfl ?_; intro W9 hz9 g9)
          obtain ⟨z0, z1, z2, z3, z4, z5, z6, z7, z8, z9, z10, z11, z12⟩ := bx13 hz9
          have hfin := HW.out.fin hz9 g9
          refine bodyPost_ret (v := .agg #[.int .i64 1, .int .i64 mode, .int .i64 uid, .int .i64 gid, .int .i64 time, .int .i64 size, .slice da 0 dc, .string ⟨#[]⟩, .int .i64 0, .slice as_ an ac2, .slice none 0 0, .int .i64 0, .int .i64 0]) (by simp [results, Tryz.results29, go_sem, *]) rfl ?_
          refine ⟨⟨1, mode, uid, gid, time, size, da, 0, dc, [], ⟨#[]⟩, 0, as_, an, ac2, out, none, 0, 0, [], 0, 0⟩, rfl, ?_, ?_, ⟨rfl, rfl, rfl⟩, hfin.1⟩
          · obtain ⟨a', c', e', hats, -, -⟩ := own_ats hfin.2 rfl (fun A hA => srt_rows HO.out.ats hfin.1 A (by rw [HOUT.out]; exact hA))
            injection e' with e1 e2 e3
            subst e1 e3
            refine ⟨row_zero da, ?_, kds_none _⟩
            rw [← HAN.out] at hats
            exact hats
          · unfold NoV.no EnV.en ndOf
            simp only [srtV_atts HOUT.out, tl_nil]
            simp [HD.out]
        · have hrow := HO.out.row.grown HL.out.1.nv.gr
          simp only at hrow
          have hlen := hrow.len_eq
          obtain ⟨db, dof, rfl, hcell⟩ := hrow.cells (by omega)
          have y0 := hcell n (by omega)
          have hmx : dl ≤ 9223372036854775807 := hrow.le
          have hpos : (0 : Int) < ((n + 1 : Nat) : Int) := by omega
          have hwm : IntKind.i64.wrap (((n + 1 : Nat) : Int) - 1) = (n : Int) := by rw [IntKind.wrap_i64]; omega
          by_cases hz : data.getD n 0 = 0
          · rw [hz] at y0
            have HN : Hid (Nw w (wr.setCell ⟨gn, 6, none⟩ (.slice (some ⟨db, dof, none⟩) n dc)) gx gn [.string P, .int .i64 1, .int .i64 mode, .int .i64 uid, .int .i64 gid, .int .i64 time, .int .i64 size, .slice (some ⟨db, dof, none⟩) dl dc, .string target, .int .i64 dev, .slice aa al ac] ([.int .i64 1, .int .i64 mode, .int .i64 uid, .int .i64 gid, .int .i64 time, .int .i64 size, .slice (some ⟨db, dof, none⟩) n dc, .string ⟨#[]⟩, .int .i64 0, .slice as_ an ac2, .slice none 0 0, .int .i64 0, .int .i64 0]) (.slice as_ an ac2) out ∧ strip (data.take n) = strip data) := ⟨HL.out.1.set 6 _, by rw [← HL.out.2, strip_zero (by omega) hz]⟩
            have HM : Hid (dlen gn wr = n + 1) := by show dlen gn wr = _; unfold dlen; rw [m6]
            have hnc : (n : Int) ≤ dc := by omega
            clear HL hcell
            go_wp2
            refine ⟨⟨n, by omega, HN⟩, ?_⟩
            have hd2 : dlen gn (wr.setCell ⟨gn, 6, none⟩ (.slice (some ⟨db, dof, none⟩) n dc)) = n := by unfold dlen; rw [HN.out.1.n.c 6]; rfl
            rw [HM.out, hd2]
            omega
          · have hzb : (data.getD n 0 == 0) = false := by simpa using hz
            have HW : Hid _ := HL.out.1
            have HD : Hid (strip data = data.take (n + 1)) := by rw [← HL.out.2]; exact strip_stop (by omega) hz
            generalize data.getD n 0 = xb at y0 hzb
            clear HL hcell hrow hz
            go_wp2_with ((with_reducible refine node_here ?_); refine wpList_store_bx13 rfl 54 _ _ rfl (gx + 1) [.int .i64 1, .int .i64 mode, .int .i64 uid, .int .i64 gid, .int .i64 time, .int .i64 size, .slice (some ⟨db, dof, none⟩) (n + 1) dc, .string ⟨#[]⟩, .int .i64 0, .slice as_ an ac2, .slice none 0 0, .int .i64 0, .int .i64 0] rfl rfl HW.out.nv.z node_size rfl rfl ?_; intro W9 hz9 g9)
            obtain ⟨z0, z1, z2, z3, z4, z5, z6, z7, z8, z9, z10, z11, z12⟩ := bx13 hz9
            have hfin := HW.out.fin hz9 g9
            refine bodyPost_ret (v := .agg #[.int .i64 1, .int .i64 mode, .int .i64 uid, .int .i64 gid, .int .i64 time, .int .i64 size, .slice (some ⟨db, dof, none⟩) (n + 1) dc, .string ⟨#[]⟩, .int .i64 0, .slice as_ an ac2, .slice none 0 0, .int .i64 0, .int .i64 0]) (by simp [results, Tryz.results29, go_sem, *]) rfl ?_
            refine ⟨⟨1, mode, uid, gid, time, size, (some ⟨db, dof, none⟩), (n + 1), dc, (data.take (n + 1)), ⟨#[]⟩, 0, as_, an, ac2, out, none, 0, 0, [], 0, 0⟩, rfl, ?_, ?_, ⟨rfl, rfl, rfl⟩, hfin.1⟩
            · obtain ⟨a', c', e', hats, -, -⟩ := own_ats hfin.2 rfl (fun A hA => srt_rows HO.out.ats hfin.1 A (by rw [HOUT.out]; exact hA))
              injection e' with e1 e2 e3
              subst e1 e3
              refine ⟨row_take (HO.out.row.grown hfin.1) (by omega), ?_, kds_none _⟩
              rw [← HAN.out] at hats
              exact hats
            · unfold NoV.no EnV.en ndOf
              simp only [srtV_atts HOUT.out, tl_nil]
              simp [HD.out]
    · have hk1b : (K == 1) = false := by simpa using hk1
      obtain ⟨c0, c1, c2, c3, c4, c5, c6, c7, c8, c9, c10⟩ := bx11 HW.out.nv.x
      obtain ⟨m0, m1, m2, m3, m4, m5, m6, m7, m8, m9, m10, m11, m12⟩ := bx13 HW.out.n
      by_cases hk3 : K = 3
      · subst hk3
        have f7 := HW.out.n.f 7
        have HW2 : Hid (Nw w (W4.setCell ⟨gn, 7, none⟩ (.string target)) gx gn [.string P, .int .i64 3, .int .i64 mode, .int .i64 uid, .int .i64 gid, .int .i64 time, .int .i64 size, .slice da dl dc, .string target, .int .i64 dev, .slice aa al ac] [.int .i64 3, .int .i64 mode, .int .i64 uid, .int .i64 gid, .int .i64 time, .int .i64 0, .slice none 0 0, .string target, .int .i64 0, .slice as_ an ac2, .slice none 0 0, .int .i64 0, .int .i64 0] (.slice as_ an ac2) out) := HW.out.set 7 (.string target)
        clear HW
        have HW := HW2
        clear HW2
        go_wp2_with ((with_reducible refine node_here ?_); refine wpList_store_bx13 rfl 54 _ _ rfl (gx + 1) [.int .i64 3, .int .i64 mode, .int .i64 uid, .int .i64 gid, .int .i64 time, .int .i64 0, .slice none 0 0, .string target, .int .i64 0, .slice as_ an ac2, .slice none 0 0, .int .i64 0, .int .i64 0] rfl rfl HW.out.nv.z node_size rfl rfl ?_; intro W9 hz9 g9)
        obtain ⟨z0, z1, z2, z3, z4, z5, z6, z7, z8, z9, z10, z11, z12⟩ := bx13 hz9
        have hfin := HW.out.fin hz9 g9
        refine bodyPost_ret (v := .agg #[.int .i64 3, .int .i64 mode, .int .i64 uid, .int .i64 gid, .int .i64 time, .int .i64 0, .slice none 0 0, .string target, .int .i64 0, .slice as_ an ac2, .slice none 0 0, .int .i64 0, .int .i64 0]) (by simp [results, Tryz.results29, go_sem, *]) rfl ?_
        refine ⟨⟨3, mode, uid, gid, time, 0, none, 0, 0, [], target, 0, as_, an, ac2, out, none, 0, 0, [], 0, 0⟩, rfl, ?_, ?_, ⟨rfl, rfl, rfl⟩, hfin.1⟩
        · obtain ⟨a', c', e', hats, -, -⟩ := own_ats hfin.2 rfl (fun A hA => srt_rows HO.out.ats hfin.1 A (by rw [HOUT.out]; exact hA))
          injection e' with e1 e2 e3
          subst e1 e3
          refine ⟨row_zero none, ?_, kds_none _⟩
          rw [← HAN.out] at hats
          exact hats
        · unfold NoV.no EnV.en ndOf
          simp only [srtV_atts HOUT.out, tl_nil]
          simp []
      · have hk3b : (K == 3) = false := by simpa using hk3
        by_cases hk45 : K = 4 ∨ K = 5
        · rcases hk45 with hk4 | hk5
          · subst hk4
            have f8 := HW.out.n.f 8
            have HW2 : Hid (Nw w (W4.setCell ⟨gn, 8, none⟩ (.int .i64 dev)) gx gn [.string P, .int .i64 4, .int .i64 mode, .int .i64 uid, .int .i64 gid, .int .i64 time, .int .i64 size, .slice da dl dc, .string target, .int .i64 dev, .slice aa al ac] [.int .i64 4, .int .i64 mode, .int .i64 uid, .int .i64 gid, .int .i64 time, .int .i64 0, .slice none 0 0, .string ⟨#[]⟩, .int .i64 dev, .slice as_ an ac2, .slice none 0 0, .int .i64 0, .int .i64 0] (.slice as_ an ac2) out) := HW.out.set 8 (.int .i64 dev)
            clear HW
            have HW := HW2
            clear HW2
            go_wp2_with ((with_reducible refine node_here ?_); refine wpList_store_bx13 rfl 54 _ _ rfl (gx + 1) [.int .i64 4, .int .i64 mode, .int .i64 uid, .int .i64 gid, .int .i64 time, .int .i64 0, .slice none 0 0, .string ⟨#[]⟩, .int .i64 dev, .slice as_ an ac2, .slice none 0 0, .int .i64 0, .int .i64 0] rfl rfl HW.out.nv.z node_size rfl rfl ?_; intro W9 hz9 g9)
            obtain ⟨z0, z1, z2, z3, z4, z5, z6, z7, z8, z9, z10, z11, z12⟩ := bx13 hz9
            have hfin := HW.out.fin hz9 g9
            refine bodyPost_ret (v := .agg #[.int .i64 4, .int .i64 mode, .int .i64 uid, .int .i64 gid, .int .i64 time, .int .i64 0, .slice none 0 0, .string ⟨#[]⟩, .int .i64 dev, .slice as_ an ac2, .slice none 0 0, .int .i64 0, .int .i64 0]) (by simp [results, Tryz.results29, go_sem, *]) rfl ?_
            refine ⟨⟨4, mode, uid, gid, time, 0, none, 0, 0, [], ⟨#[]⟩, dev, as_, an, ac2, out, none, 0, 0, [], 0, 0⟩, rfl, ?_, ?_, ⟨rfl, rfl, rfl⟩, hfin.1⟩
            · obtain ⟨a', c', e', hats, -, -⟩ := own_ats hfin.2 rfl (fun A hA => srt_rows HO.out.ats hfin.1 A (by rw [HOUT.out]; exact hA))
              injection e' with e1 e2 e3
              subst e1 e3
              refine ⟨row_zero none, ?_, kds_none _⟩
              rw [← HAN.out] at hats
              exact hats
            · unfold NoV.no EnV.en ndOf
              simp only [srtV_atts HOUT.out, tl_nil]
              simp []
          · subst hk5
            have f8 := HW.out.n.f 8
            have HW2 : Hid (Nw w (W4.setCell ⟨gn, 8, none⟩ (.int .i64 dev)) gx gn [.string P, .int .i64 5, .int .i64 mode, .int .i64 uid, .int .i64 gid, .int .i64 time, .int .i64 size, .slice da dl dc, .string target, .int .i64 dev, .slice aa al ac] [.int .i64 5, .int .i64 mode, .int .i64 uid, .int .i64 gid, .int .i64 time, .int .i64 0, .slice none 0 0, .string ⟨#[]⟩, .int .i64 dev, .slice as_ an ac2, .slice none 0 0, .int .i64 0, .int .i64 0] (.slice as_ an ac2) out) := HW.out.set 8 (.int .i64 dev)
            clear HW
            have HW := HW2
            clear HW2
            go_wp2_with ((with_reducible refine node_here ?_); refine wpList_store_bx13 rfl 54 _ _ rfl (gx + 1) [.int .i64 5, .int .i64 mode, .int .i64 uid, .int .i64 gid, .int .i64 time, .int .i64 0, .slice none 0 0, .string ⟨#[]⟩, .int .i64 dev, .slice as_ an ac2, .slice none 0 0, .int .i64 0, .int .i64 0] rfl rfl HW.out.nv.z node_size rfl rfl ?_; intro W9 hz9 g9)
            obtain ⟨z0, z1, z2, z3, z4, z5, z6, z7, z8, z9, z10, z11, z12⟩ := bx13 hz9
            have hfin := HW.out.fin hz9 g9
            refine bodyPost_ret (v := .agg #[.int .i64 5, .int .i64 mode, .int .i64 uid, .int .i64 gid, .int .i64 time, .int .i64 0, .slice none 0 0, .string ⟨#[]⟩, .int .i64 dev, .slice as_ an ac2, .slice none 0 0, .int .i64 0, .int .i64 0]) (by simp [results, Tryz.results29, go_sem, *]) rfl ?_
            refine ⟨⟨5, mode, uid, gid, time, 0, none, 0, 0, [], ⟨#[]⟩, dev, as_, an, ac2, out, none, 0, 0, [], 0, 0⟩, rfl, ?_, ?_, ⟨rfl, rfl, rfl⟩, hfin.1⟩
            · obtain ⟨a', c', e', hats, -, -⟩ := own_ats hfin.2 rfl (fun A hA => srt_rows HO.out.ats hfin.1 A (by rw [HOUT.out]; exact hA))
              injection e' with e1 e2 e3
              subst e1 e3
              refine ⟨row_zero none, ?_, kds_none _⟩
              rw [← HAN.out] at hats
              exact hats
            · unfold NoV.no EnV.en ndOf
              simp only [srtV_atts HOUT.out, tl_nil]
              simp []
        · have hk4b : (K == 4) = false := by simpa using fun e => hk45 (Or.inl e)
          have hk5b : (K == 5) = false := by simpa using fun e => hk45 (Or.inr e)
          go_wp2_with ((with_reducible refine node_here ?_); refine wpList_store_bx13 rfl 54 _ _ rfl (gx + 1) [.int .i64 K, .int .i64 mode, .int .i64 uid, .int .i64 gid, .int .i64 time, .int .i64 0, .slice none 0 0, .string ⟨#[]⟩, .int .i64 0, .slice as_ an ac2, .slice none 0 0, .int .i64 0, .int .i64 0] rfl rfl HW.out.nv.z node_size rfl rfl ?_; intro W9 hz9 g9)
          obtain ⟨z0, z1, z2, z3, z4, z5, z6, z7, z8, z9, z10, z11, z12⟩ := bx13 hz9
          have hfin := HW.out.fin hz9 g9
          refine bodyPost_ret (v := .agg #[.int .i64 K, .int .i64 mode, .int .i64 uid, .int .i64 gid, .int .i64 time, .int .i64 0, .slice none 0 0, .string ⟨#[]⟩, .int .i64 0, .slice as_ an ac2, .slice none 0 0, .int .i64 0, .int .i64 0]) (by simp [results, Tryz.results29, go_sem, *]) rfl ?_
          refine ⟨⟨K, mode, uid, gid, time, 0, none, 0, 0, [], ⟨#[]⟩, 0, as_, an, ac2, out, none, 0, 0, [], 0, 0⟩, rfl, ?_, ?_, ⟨rfl, rfl, rfl⟩, hfin.1⟩
          · obtain ⟨a', c', e', hats, -, -⟩ := own_ats hfin.2 rfl (fun A hA => srt_rows HO.out.ats hfin.1 A (by rw [HOUT.out]; exact hA))
            injection e' with e1 e2 e3
            subst e1 e3
            refine ⟨row_zero none, ?_, kds_none _⟩
            rw [← HAN.out] at hats
            exact hats
          · unfold NoV.no EnV.en ndOf
            simp only [srtV_atts HOUT.out, tl_nil]
            simp [hk1, hk3, hk45]
end Go.Proofs.YtbpoealcaogjpaaGreatDoor
