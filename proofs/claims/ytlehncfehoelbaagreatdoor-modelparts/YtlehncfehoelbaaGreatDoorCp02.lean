/- The program's walks, where nothing is wrong: a step. The page's example: what the tree of [folder a, file a/f, link l to a] answers. The program's Walk at the page's example. The page's example. ModelParts. The page's example, as plain data. The page's example. TreeNames, plain: the list that is written is the renamed one. A byte that came in. -/
import Derived.KernelRfl
import Derived.Defers
import Derived.Recover
import Derived.Lib.SlBytesConst
import Derived.Test.YtlehncfehoelbaaGreatDoorB06
import Derived.Test.YtlehncfehoelbaaGreatDoorB12
import Derived.Test.YtlehncfehoelbaaGreatDoorB28
import Derived.Test.YtlehncfehoelbaaGreatDoorB33
import Derived.Test.YtlehncfehoelbaaGreatDoorCp01
namespace Go.Proofs.YtlehncfehoelbaaGreatDoor
open Go.RowKit
set_option maxRecDepth 100000
set_option linter.unusedSimpArgs false
set_option linter.unusedVariables false
/-- what a turn asks of a path -/
structure Tn (path : ByteArray) (L : List Tx) : Prop where
 sz : path.size ≤ 4096
 abs : ∀ W, Calls Tryz.prog 84 #[.string path] W fun e w' => e = .returned (.bool false) ∧ W = w'
 spl : spl path.toList = (L, 0)
theorem srow_set {W : World} {gw k : Nat} {v : Value} {p l3 : Int} {a x x3 : Option Addr} {n m c : Nat} {l : List ByteArray} (h : SRow W a n l) (hb : Bx W gw 106 [.pointer x, .int .i64 p, .slice x3 m c, .int .i64 l3]) : SRow (W.setCell ⟨gw, k, none⟩ v) a n l := by
 refine ⟨h.len_eq, fun h0 => ?_⟩
 obtain ⟨b, off, e, q⟩ := h.cells h0
 refine ⟨b, off, e, fun i hi => ?_⟩
 have hc := q i hi
 have hne : b ≠ gw := fun e => by
  subst e
  have := hb.c (off + i)
  rw [hc] at this
  match off + i, this with
  | 0, t => cases t
  | 1, t => cases t
  | 2, t => cases t
  | 3, t => cases t
  | m + 4, t => cases t
 exact (grown_set W gw k v).cell hc (by simpa using hne)
theorem Wl.tail {w W : World} {gw mb : Nat} {p lk : Int} {s : ByteArray} {xs : List ByteArray} {la a' : Option Addr} {lc : Nat} (h : Wl w W gw mb p (s :: xs) lk la lc) (hr : SRow W a' xs.length xs) :
  Wl w (W.setCell ⟨gw, 2, none⟩ (.slice a' xs.length (lc - 1))) gw mb p xs lk a' (lc - 1) :=
 ⟨grown_new h.gr (grown_set _ _ _ _) h.new, h.new, h.box.set 2 _, srow_set hr h.box, by have := h.cap; rw [List.length_cons] at this; omega⟩
theorem Wl.go {w W : World} {gw mb : Nat} {p q lk : Int} {xs : List ByteArray} {la : Option Addr} {lc : Nat} (h : Wl w W gw mb p xs lk la lc) : Wl w (W.setCell ⟨gw, 1, none⟩ (.int .i64 q)) gw mb q xs lk la lc :=
 ⟨grown_new h.gr (grown_set _ _ _ _) h.new, h.new, h.box.set 1 _, srow_set h.row h.box, h.cap⟩
set_option maxHeartbeats 4000000 in
theorem pthrough_ok (w W : World) (gw mb : Nat) (p lk : Int) (left : List ByteArray) (la : Option Addr) (lc : Nat) (h : Wl w W gw mb p left lk la lc) (a : Option Addr) (n c mp : Nat) (ns : List NoV) (M : Md w mb a n c mp ns)
  (path : ByteArray) (L : List Tx) (T : Tn path L) (hk : knd (nos ns) p 2 = 0) (hlen : L.length + left.length ≤ 256) (hle : 0 < left.length) (hl0 : 0 ≤ lk) (hl1 : lk < 40) :
  Calls Tryz.prog 86 #[.pointer (some ⟨gw, 0, none⟩), .string path] W fun e W' => e = .returned (.tuple #[]) ∧ ∃ la' lc', Wl w W' gw mb p (txs L ++ left) (lk + 1) la' lc' ∧ W.heap.size ≤ W'.heap.size := by
 have x3 : _ = some _ := h.box.c 3
 have f3 := h.box.f 3
 have hW2 : Wl w (W.setCell ⟨gw, 3, none⟩ (.int .i64 (lk + 1))) gw mb p left (lk + 1) la lc := by
  exact ⟨grown_new h.gr (grown_set _ _ _ _) h.new, h.new, h.box.set 3 _, srow_set h.row h.box, h.cap⟩
 have y3 : _ = some _ := hW2.box.c 3
 have htu := pturn_ok w _ gw mb p (lk + 1) left la lc hW2 a n c mp ns M path T.sz (T.abs _) hk L T.spl hlen (Or.inr hle)
 have hsz : (W.setCell ⟨gw, 3, none⟩ (.int .i64 (lk + 1))).heap.size = W.heap.size := size_set _ _ _
 have HS : Hid _ := hsz
 clear hW2 h hsz M T hk
 have hw : wrap64 (lk + 1) = lk + 1 := by unfold wrap64; omega
 have hc40 : ¬ (40 : Int) < lk + 1 := by omega
 go_enter Tryz.func86, Tryz.ntmps86
 go_wp2_with fail
 refine htu.mono ?_
 rintro e W2 ⟨rfl, la', lc', hw2, hs2⟩
 have HW2 : Hid _ := xai hw2 hs2
 clear hw2 hs2 htu
 go_wp2
 refine bodyPost_end (results_none rfl _ _ _) rfl ?_
 exact ⟨rfl, la', lc', HW2.out.1, by have := HW2.out.2; rw [HS.out] at this; exact this⟩
/-- a list of texts, from its second on -/
theorem wpList_lowS {P : Program} {w : World} {ops : Array Oper} {rest : List Oper} {o : Oper} {a : Act} {Q : Exit → Act → World → Prop} (hg : o.guard = none) (x l : Operand) (t : TypeId)
  (ho : o.op = .slice t x (some l) none none) (ht : P.underlying t = some (.slice 9)) (i : TypeInfo) (hi : P.info? 9 = some i) (hsz : i.size = 1)
  (b off len cap : Nat) (hx : a.eval x = .slice (some ⟨b, off, none⟩) len cap) (hl : a.eval l = .int .i64 1) (h1 : 1 ≤ len) (h2 : len ≤ cap) (s : ByteArray) (xs : List ByteArray) (R : SRow w (some ⟨b, off, none⟩) len (s :: xs))
  (hk : ∀ a', Hid (SRow w a' (len - 1) xs) → wpList P ops Q rest (a.put o.dst (.slice a' (len - 1) (cap - 1))) w) : wpList P ops Q (o :: rest) a w := by
 refine wpList_plain hg fun K' hK' => ?_
 have he : P.elem t = 9 := by simp [Program.elem, ht]
 have ht' : P.underlying t = some (.slice (P.elem t)) := by rw [he]; exact ht
 have hs : (sizeOf 9).run P w = .ok 1 w := by rw [run_sizeOf w hi]; simp [Program.cellsOf, hi, hsz]
 have hr := run_slice_l (P := P) (w := w) (a := some ⟨b, off, none⟩) (len := len) (cap := cap) (t := t) ht' .i64 1 (by omega) (by omega)
 rw [he, hs] at hr
 simp only [Result.andThen] at hr
 have hv : ∃ a', sliced (some ⟨b, off, none⟩) 1 len cap 1 = .slice a' (len - 1) (cap - 1) ∧ SRow w a' (len - 1) xs := by
  have hlen := R.len_eq
  rw [List.length_cons] at hlen
  unfold sliced
  by_cases c : cap = 1
  ·rw [if_pos c]
   exact ⟨_, rfl, by omega, fun h => by omega⟩
  ·rw [if_neg c]
   have hadd : (⟨b, off, none⟩ : Addr).add (1 * 1) = ⟨b, off + 1, none⟩ := by unfold Addr.add; split <;> simp_all
   refine ⟨some ⟨b, off + 1, none⟩, by simp only [Option.map_some, hadd], by omega, fun h => ⟨b, off + 1, rfl, fun j hj => ?_⟩⟩
   obtain ⟨b', off', e, hc⟩ := R.cells (by omega)
   injection e with e
   injection e with e1 e2
   subst e1 e2
   have := hc (j + 1) (by omega)
   rw [List.getD_cons_succ] at this
   rw [show off + 1 + j = off + (j + 1) by omega]
   exact this
 obtain ⟨a', hv, h3⟩ := hv
 have hr2 : (1 : Int).toNat = 1 := rfl
 rw [hr2, hv] at hr
 unfold Oper.wp
 simp [execOp, ho, hx, hl, hr, Result.andThen, run_sliceAt_slice (P := P) (w := w) t _ _ _ _ ht']
 exact hK' _ _ (hk _ h3)
theorem low9_here {P : Program} {w : World} {ops : Array Oper} {rest : List Oper} {a : Act} {Q : Exit → Act → World → Prop} {dst : Option Nat} {t : TypeId} {x l : Operand} {type : TypeId} {pos : String} {after : Array Edge} {guard : Option (Nat × Bool)}
  (k : wpList P ops Q (⟨dst, .slice t x (some l) none none, type, pos, after, guard⟩ :: rest) a w) : wpList P ops Q (⟨dst, .slice t x (some l) none none, type, pos, after, guard⟩ :: rest) a w := k
/-- what a step comes to -/
def StPost (w W : World) (gw mb : Nat) (X : NoV) (q : Nat) (p lk : Int) (xs : List ByteArray) (e : Ending) (W' : World) : Prop := e = .returned (.tuple #[]) ∧ ∃ la' lc', W.heap.size ≤ W'.heap.size ∧
 ((X.k ≠ 3 ∧ Wl w W' gw mb q xs lk la' lc') ∨ (X.k = 3 ∧ ∃ L, Tn X.target L ∧ Wl w W' gw mb p (txs L ++ xs) (lk + 1) la' lc'))
set_option maxHeartbeats 8000000 in
theorem pstep_ok (w W : World) (gw mb : Nat) (p lk : Int) (s : ByteArray) (xs : List ByteArray) (la : Option Addr) (lc : Nat) (h : Wl w W gw mb p (s :: xs) lk la lc) (a : Option Addr) (n c mp : Nat) (ns : List NoV) (M : Md w mb a n c mp ns)
  (hs : s.size ≤ 1000000) (q : Nat) (hq : lkp (nos ns) p s.toList = ((q : Int), 0)) (X : NoV) (hX : ns[q]? = some X) (hlen : xs.length ≤ 256)
  (hth : X.k = 3 → (∃ L, Tn X.target L ∧ L.length + xs.length ≤ 256) ∧ 0 < xs.length ∧ knd (nos ns) p 2 = 0 ∧ 0 ≤ lk ∧ lk < 40) :
  Calls Tryz.prog 57 #[.pointer (some ⟨gw, 0, none⟩), .bool true] W (StPost w W gw mb X q p lk xs) := by
 obtain ⟨i9, hi9, hz0, hz1, hz2⟩ := info_parts Tryz.info9
 obtain ⟨lb, lo, rfl, hcl⟩ := h.row.cells (by simp)
 have hlk := fun W' g => plookup_any W' mb a n c mp ns (M.kept g) p s hs
 rw [hq] at hlk
 simp only at hlk
 have hnd := fun W' g => pnode_ok W' mb a n c (.map (some mp)) ns (M.kept g).box (M.kept g).nos q X hX
 have hc0 : W.cell? ⟨lb, lo, none⟩ = some (.string s) := hcl 0 (by simp)
 have HW : Hid _ := xai h (xai hth (xai M hc0))
 clear hc0
 clear h M hcl hth hX hq
 go_enter Tryz.func57, Tryz.ntmps57
 go_wp2_with fail
 refine wp_region_held_drew (S := fun w' => W.grownBy w' none) (by kernel_rfl) (drewG0 W) (fun hH => ?_)
 generalize W.drew = WD at *
 refine tk (i := 0) (oi := ⟨some 8, _, _, _, _, _⟩) (v := .pointer (some ⟨gw, 0, none⟩)) rfl (Or.inl ⟨by rfl, fun w hSw => by go_simp⟩) hH ?_
 simp only [Act.put, pu]
 refine tk (i := 1) (oi := ⟨some 9, _, _, _, _, _⟩) (v := .pointer (some ⟨gw, 0, none⟩)) rfl (Or.inl ⟨by rfl, fun w hSw => by go_simp⟩) hH ?_
 simp only [Act.put, pu]
 refine tk (i := 2) (oi := ⟨some 10, _, _, _, _, _⟩) (v := .pointer (some ⟨gw, 0, none⟩)) rfl (Or.inl ⟨by rfl, fun w hSw => by go_simp⟩) hH ?_
 simp only [Act.put, pu]
 refine tk (i := 3) (oi := ⟨some 11, _, _, _, _, _⟩) (v := .pointer (some ⟨mb, 0, none⟩)) rfl (Or.inl ⟨by rfl, fun w hSw => by have c0 : _ = some _ := (HW.out.1.box.kept hSw).c 0; go_simp⟩) hH ?_
 simp only [Act.put, pu]
 refine tk (i := 4) (oi := ⟨some 12, _, _, _, _, _⟩) (v := .pointer (some ⟨gw, 0, none⟩)) rfl (Or.inl ⟨by rfl, fun w hSw => by go_simp⟩) hH ?_
 simp only [Act.put, pu]
 refine tk (i := 5) (oi := ⟨some 13, _, _, _, _, _⟩) (v := .pointer (some ⟨gw, 0, none⟩)) rfl (Or.inl ⟨by rfl, fun w hSw => by go_simp⟩) hH ?_
 simp only [Act.put, pu]
 refine tk (i := 6) (oi := ⟨some 14, _, _, _, _, _⟩) (v := .pointer (some ⟨gw, 1, none⟩)) rfl (Or.inl ⟨by rfl, fun w hSw => by go_simp⟩) hH ?_
 simp only [Act.put, pu]
 refine tk (i := 7) (oi := ⟨some 15, _, _, _, _, _⟩) (v := .int .i64 p) rfl (Or.inl ⟨by rfl, fun w hSw => by have c1 : _ = some _ := (HW.out.1.box.kept hSw).c 1; go_simp⟩) hH ?_
 simp only [Act.put, pu]
 refine tk (i := 8) (oi := ⟨some 16, _, _, _, _, _⟩) (v := .pointer (some ⟨gw, 0, none⟩)) rfl (Or.inl ⟨by rfl, fun w hSw => by go_simp⟩) hH ?_
 simp only [Act.put, pu]
 refine tk (i := 9) (oi := ⟨some 17, _, _, _, _, _⟩) (v := .pointer (some ⟨gw, 0, none⟩)) rfl (Or.inl ⟨by rfl, fun w hSw => by go_simp⟩) hH ?_
 simp only [Act.put, pu]
 refine tk (i := 10) (oi := ⟨some 18, _, _, _, _, _⟩) (v := .pointer (some ⟨gw, 2, none⟩)) rfl (Or.inl ⟨by rfl, fun w hSw => by go_simp⟩) hH ?_
 simp only [Act.put, pu]
 refine tk (i := 11) (oi := ⟨some 19, _, _, _, _, _⟩) (v := .slice (some ⟨lb, lo, none⟩) (s :: xs).length lc) rfl (Or.inl ⟨by rfl, fun w hSw => by have c2 : _ = some _ := (HW.out.1.box.kept hSw).c 2; go_simp⟩) hH ?_
 simp only [Act.put, pu]
 refine tk (i := 12) (oi := ⟨some 20, _, _, _, _, _⟩) (v := .pointer (some ⟨lb, lo, none⟩)) rfl (Or.inl ⟨by rfl, fun w hSw => by go_simp⟩) hH ?_
 simp only [Act.put, pu]
 refine tk (i := 13) (oi := ⟨some 21, _, _, _, _, _⟩) (v := .string s) rfl (Or.inl ⟨by rfl, fun w hSw => by have c9 := cell_grown HW.out.2.2.2 hSw; go_simp⟩) hH ?_
 simp only [Act.put, pu]
 refine wpAnyH_ready (rs := [14]) (by kernel_rfl) (by simp) ?_
 refine AllReadyH.cons rfl (fun K1 hK => ?_) AllReadyH.nil
 go_simp
 refine (hlk _ (xgt HW.out.1.gr hH)).mono ?_
 rintro e W2 ⟨rfl, g2⟩
 replace hH := xgt hH g2
 clear g2 hlk
 refine hK.out _ _ hH (fun h0 => ?_)
 clear h0 hK K1
 try simp only [Act.put, pu]
 refine tk (i := 15) (oi := ⟨some 7, _, _, _, _, _⟩) (v := .tuple #[.int .i64 q, .int .i64 0]) rfl (Or.inl ⟨by rfl, fun w hSw => by go_simp⟩) hH ?_
 simp only [Act.put, pu]
 refine tk (i := 16) (oi := ⟨some 23, _, _, _, _, _⟩) (v := .int .i64 q) rfl (Or.inl ⟨by rfl, fun w hSw => by go_simp⟩) hH ?_
 simp only [Act.put, pu]
 refine tk (i := 17) (oi := ⟨some 24, _, _, _, _, _⟩) (v := .int .i64 0) rfl (Or.inl ⟨by rfl, fun w hSw => by go_simp⟩) hH ?_
 simp only [Act.put, pu]
 refine tk (i := 18) (oi := ⟨some 4, _, _, _, _, _⟩) (v := .int .i64 q) rfl (Or.inl ⟨by rfl, fun w hSw => by go_simp⟩) hH ?_
 simp only [Act.put, pu]
 refine tk (i := 19) (oi := ⟨some 5, _, _, _, _, _⟩) (v := .int .i64 0) rfl (Or.inl ⟨by rfl, fun w hSw => by go_simp⟩) hH ?_
 simp only [Act.put, pu]
 refine wpAnyH_done (by kernel_rfl) ?_ _
 have HW2 : Hid _ := xai (HW.out.1.kept hH) hH.size
 clear hH
 have c2 : _ = some _ := HW2.out.1.box.c 2
 have f2 := HW2.out.1.box.f 2
 have hxl : (s :: xs).length = xs.length + 1 := rfl
 rw [hxl] at c2
 go_wp2_with (first | (go_at_call 55; refine (need_ok _).mono ?_; rintro e w' ⟨rfl, rfl⟩) | ((with_reducible refine low9_here ?_); refine wpList_lowS rfl _ _ 104 rfl Tryz.underlying104 i9 hi9 hz1 lb lo (xs.length + 1) lc rfl rfl (by omega) (by have := HW2.out.1.cap; rw [hxl] at this; exact this) s xs (by have := HW2.out.1.row; rw [hxl] at this; exact this) ?_; intro a' HA; have HW3 : Hid _ := xai (HW2.out.1.tail HA.out) (show W.heap.size ≤ (W2.setCell ⟨gw, 2, none⟩ (.slice a' xs.length (lc - 1))).heap.size by rw [size_set]; exact HW2.out.2); have d0 : _ = some _ := HW3.out.1.box.c 0; have d2 : _ = some _ := HW3.out.1.box.c 2) | fail)
 generalize W2.setCell ⟨gw, 2, none⟩ (.slice a' xs.length (lc - 1)) = W3 at *
 refine (hnd _ HW3.out.1.gr).mono ?_
 rintro e W4 ⟨rfl, g4⟩
 have HTH : Hid _ := HW.out.2.1
 have HM : Hid _ := HW.out.2.2.1
 obtain ⟨NK, mo, uid, gid, ti, sz_, da, dl, dc, data, tg, dev, aa, al, ac, attrs, ka, kl, kc, kids, pa, links0⟩ := X
 simp only [NoV.val]
 have gB := xga W4 (.cells #[.int .i64 NK, .int .i64 mo, .int .i64 uid, .int .i64 gid, .int .i64 ti, .int .i64 sz_, .slice da dl dc, .string tg, .int .i64 dev, .slice aa al ac, .slice ka kl kc, .int .i64 pa, .int .i64 links0] 43) none
 have bB := Bx.new W4 43 [.int .i64 NK, .int .i64 mo, .int .i64 uid, .int .i64 gid, .int .i64 ti, .int .i64 sz_, .slice da dl dc, .string tg, .int .i64 dev, .slice aa al ac, .slice ka kl kc, .int .i64 pa, .int .i64 links0]
 have HW5 : Hid _ := xai ((HW3.out.1.kept g4).kept gB) (Nat.le_trans HW3.out.2 (Nat.le_trans g4.size gB.size))
 have e0 : _ = some _ := bB.c 0
 have e7 : _ = some _ := bB.c 7
 have k1 : _ = some _ := HW5.out.1.box.c 1
 have f1 := HW5.out.1.box.f 1
 clear g4 gB bB HW3 HW2 d0 d2 c2 f2 hnd HA HW
 by_cases h3 : NK = 3
 ·subst h3
  obtain ⟨⟨L, hT, hLl⟩, hxs, hk, hl0, hl1⟩ := HTH.out rfl
  have hpt := pthrough_ok w _ gw mb p lk xs a' (lc - 1) HW5.out.1 a n c mp ns HM.out tg L hT hk hLl hxs hl0 hl1
  have HT : Hid _ := hT
  clear hT hLl hxs hk hl0 hl1
  go_wp2_with (go_at_call 55; refine (need_ok _).mono ?_; rintro e w' ⟨rfl, rfl⟩)
  refine hpt.mono ?_
  rintro e W6 ⟨rfl, la6, lc6, hw6, hs6⟩
  have H6 : Hid _ := xai hw6 (Nat.le_trans HW5.out.2 hs6)
  clear hw6 hs6 hpt
  go_wp2
  refine bodyPost_ret (results_none rfl _ _ _) rfl ?_
  unfold StPost
  exact ⟨rfl, la6, lc6, H6.out.2, Or.inr ⟨rfl, L, HT.out, H6.out.1⟩⟩
 ·have h3b : (NK == 3) = false := by rw [beq_eq_false_iff_ne]; exact h3
  have HG : Hid _ := HW5.out.1.go (q := (q : Int))
  go_wp2_with (go_at_call 55; refine (need_ok _).mono ?_; rintro e w' ⟨rfl, rfl⟩)
  refine bodyPost_end (results_none rfl _ _ _) rfl ?_
  unfold StPost
  exact ⟨rfl, a', lc - 1, by rw [size_set]; exact HW5.out.2, Or.inl ⟨h3, HG.out⟩⟩
def ex12 : List En := [⟨[97], 2, 0, 0, 0, 0, 0, [], [], 0, []⟩, ⟨[97, 47, 102], 1, 0, 0, 0, 0, 4, [120, 121], [], 0, []⟩, ⟨[108], 3, 0, 0, 0, 0, 0, [], [97], 0, []⟩]
theorem ex_knd0 : knd (canon ex12) 0 0 = 0 := by kernel_rfl
theorem ex_knd2 : knd (canon ex12) 0 2 = 0 := by kernel_rfl
theorem ex_lk0 : lkp (canon ex12) 0 [108] = (3, 0) := by kernel_rfl
theorem ex_lk1 : lkp (canon ex12) 0 [97] = (1, 0) := by kernel_rfl
theorem ex_lk2 : lkp (canon ex12) 1 [102] = (2, 0) := by kernel_rfl
theorem ex_n1 : ((canon ex12)[1]?).map No.k = some 2 := by kernel_rfl
theorem ex_n2 : ((canon ex12)[2]?).map No.k = some 1 := by kernel_rfl
theorem ex_n3 : ((canon ex12)[3]?).map (fun n => (n.k, n.target)) = some (3, [97]) := by kernel_rfl
theorem ex_rd : rda (canon ex12) 2 1 9 = ([121, 0, 0], 0) := by kernel_rfl
theorem ex_abs1 (W : World) : Calls Tryz.prog 84 #[.string ⟨#[108, 47, 102]⟩] W fun e w' => e = .returned (.bool false) ∧ W = w' := by
 go_enter Tryz.func84, Tryz.ntmps84
 go_wp2
 go_ret
 exact ⟨rfl, rfl⟩
theorem ex_abs2 (W : World) : Calls Tryz.prog 84 #[.string ⟨#[97]⟩] W fun e w' => e = .returned (.bool false) ∧ W = w' := by
 go_enter Tryz.func84, Tryz.ntmps84
 go_wp2
 go_ret
 exact ⟨rfl, rfl⟩
theorem ex_tn1 : Tn ⟨#[108, 47, 102]⟩ [[108], [102]] := ⟨by decide, ex_abs1, by rw [ByteArray.toList_eq]; kernel_rfl⟩
theorem ex_tn2 : Tn ⟨#[97]⟩ [[97]] := ⟨by decide, ex_abs2, by rw [ByteArray.toList_eq]; kernel_rfl⟩
theorem wcatch_idle (p q : Addr) (w : World) :
  CallsD Tryz.prog 53 #[.pointer (some p), .pointer (some q)] .returning w fun e u' w' => e = .returned (.tuple #[]) ∧ u' = .returning ∧ w' = w := by
 refine callsD_of_wpS Tryz.func53 rfl fun c₀ cs hu => ?_
 apply wpS_seq
 apply wpS_region
 simp [wpOpsS, go_sem, recoverD, hu, Tryz.ntmps53, Exit.thenS]
 apply wpS_seq
 apply wpS_region
 simp [wpOpsS, go_sem, Array.replicate, Exit.thenS]
 refine wpS_cond (t := false) (by simp [Act.eval, Array.replicate]) ?_
 simp only [Bool.false_eq_true, if_false]
 refine wpS_of_wp (wp_skip ?_)
 cases c₀
 simp_all [bodyPostS, results, Tryz.results53]
/-- the walk's states at the page's example: where it is, what is left, how many lk -/
def exP (k : Nat) : Int := if k ≤ 1 then 0 else (k : Int) - 1
def exQ : Nat → List ByteArray
 | 0 => [⟨#[108]⟩, ⟨#[102]⟩]
 | 1 => [⟨#[97]⟩, ⟨#[102]⟩]
 | 2 => [⟨#[102]⟩]
 | _ => []
def exK (k : Nat) : Int := if k = 0 then 0 else 1
def msr (gw : Nat) (W : World) : Nat := 3 - (intOf ((W.cell? ⟨gw, 1, none⟩).getD undef) + intOf ((W.cell? ⟨gw, 3, none⟩).getD undef)).toNat
theorem msr_eq {w W : World} {gw mb : Nat} {p lk : Int} {left : List ByteArray} {la : Option Addr} {lc : Nat} (h : Wl w W gw mb p left lk la lc) : msr gw W = 3 - (p + lk).toNat := by
 unfold msr
 rw [h.box.c 1, h.box.c 3]
 rfl
theorem ex_at {ns : List NoV} (h : nos ns = canon ex12) {i : Nat} {v : Int} (hv : ((canon ex12)[i]?).map No.k = some v) : ∃ X, ns[i]? = some X ∧ X.k = v := by
 rw [← h] at hv
 unfold nos at hv
 rw [List.getElem?_map, Option.map_map] at hv
 cases hX : ns[i]? with
 | none => rw [hX] at hv; cases hv
 | some X => rw [hX] at hv; injection hv with hv; exact ⟨X, rfl, hv⟩
theorem ex_at3 {ns : List NoV} (h : nos ns = canon ex12) : ∃ X, ns[3]? = some X ∧ X.k = 3 ∧ X.target = ⟨#[97]⟩ := by
 have hv := ex_n3
 rw [← h] at hv
 unfold nos at hv
 rw [List.getElem?_map, Option.map_map] at hv
 cases hX : ns[3]? with
 | none => rw [hX] at hv; cases hv
 | some X =>
  rw [hX] at hv
  injection hv with hv
  injection hv with h1 h2
  refine ⟨X, rfl, h1, tl_inj ?_⟩
  have h2 : X.target.toList = [97] := h2
  rw [h2, ByteArray.toList_eq]
set_option maxHeartbeats 8000000 in
theorem pwalk_ex (w : World) (mb : Nat) (a : Option Addr) (n c mp : Nat) (ns : List NoV) (M : Md w mb a n c mp ns) (hns : nos ns = canon ex12) :
  Calls Tryz.prog 28 #[.pointer (some ⟨mb, 0, none⟩), .int .i64 0, .string ⟨#[108, 47, 102]⟩, .bool true] w fun e w' => e = .returned (.tuple #[.int .i64 2, .int .i64 0]) ∧ w.grownBy w' none := by
 have hmf : ∀ (fn : Fn) (first cap : Array Value) (w : World), (Instr.makeFunc fn first cap).run Tryz.prog w = .ok (.func fn first cap) w := fun _ _ _ _ => rfl
 have HM : Hid _ := xai M hns
 have hnd := fun W g => pnode12_any W mb a n c (.map (some mp)) ns (M.kept g).box (M.kept g).nos 0
 rw [hns, ex_knd0] at hnd
 clear M hns
 have g2 : w.grownBy ((w.alloc (.cells #[.int .i64 0] 3)).alloc (.cells #[.int .i64 0] 34)) none := xgt (xga _ _ none) (xga _ _ none)
 have bi := (Bx.new w 3 [.int .i64 0]).kept (xga _ (.cells #[.int .i64 0] 34) none)
 have be := Bx.new (w.alloc (.cells #[.int .i64 0] 3)) 34 [.int .i64 0]
 have hsz : (w.alloc (.cells #[.int .i64 0] 3)).heap.size = w.heap.size + 1 := by simp
 rw [hsz] at be
 have HB : Hid _ := xai g2 (xai bi be)
 clear g2 bi be hsz
 go_enter_defers Tryz.func28, Tryz.ntmps28
 go_wp2_with fail
 refine (hnd _ HB.out.1).mono ?_
 rintro e W1 ⟨X, rfl, -, -, g1⟩
 have HB1 : Hid _ := xai (xgt HB.out.1 g1) (xai (HB.out.2.1.kept g1) (HB.out.2.2.kept g1))
 clear g1 HB hnd
 have be1 : _ = some _ := HB1.out.2.2.c 0
 have fe1 := HB1.out.2.2.f 0
 have be2 : _ = some _ := (HB1.out.2.2.set 0 (.int .i64 0)).c 0
 generalize NoV.val X = vX
 go_wp2_with (go_at_call 55; refine (need_ok _).mono ?_; rintro e w' ⟨rfl, rfl⟩)
 have gS := grown_set W1 (w.heap.size + 1) 0 (.int .i64 0)
 have hsz1 : (W1.setCell ⟨w.heap.size + 1, 0, none⟩ (.int .i64 0)).heap.size = W1.heap.size := size_set _ _ _
 have g2 := grown_new HB1.out.1 gS (by omega)
 have hWl : Wl (W1.setCell ⟨w.heap.size + 1, 0, none⟩ (.int .i64 0)) ((W1.setCell ⟨w.heap.size + 1, 0, none⟩ (.int .i64 0)).alloc (.cells #[.pointer (some ⟨mb, 0, none⟩), .int .i64 0, .slice none 0 0, .int .i64 0] 106)) W1.heap.size mb 0 [] 0 none 0 := by
  have hb := Bx.new (W1.setCell ⟨w.heap.size + 1, 0, none⟩ (.int .i64 0)) 106 [.pointer (some ⟨mb, 0, none⟩), .int .i64 0, .slice none 0 0, .int .i64 0]
  rw [hsz1] at hb
  exact ⟨xga _ _ none, by rw [hsz1]; exact Nat.le_refl _, hb, ⟨rfl, fun h => absurd h (Nat.lt_irrefl 0)⟩, Nat.le_refl _⟩
 have HB2 : Hid _ := xai g2 (xai (HB1.out.2.1.but gS (by intro e; injection e with e; omega)) (xai (HB1.out.2.2.set 0 (.int .i64 0)) (HM.out.1.kept g2)))
 clear gS hsz1 g2 be1 fe1 be2 HB1
 generalize hW2 : W1.setCell ⟨w.heap.size + 1, 0, none⟩ (.int .i64 0) = W2 at *
 generalize hW3 : W2.alloc (.cells #[.pointer (some ⟨mb, 0, none⟩), .int .i64 0, .slice none 0 0, .int .i64 0] 106) = W3 at *
 clear hW2 hW3
 generalize W1.heap.size = gw at *
 clear W1
 refine (pturn_ok W2 W3 gw mb 0 0 [] none 0 hWl a n c mp ns HB2.out.2.2.2 ⟨#[108, 47, 102]⟩ ex_tn1.sz (ex_tn1.abs _) (by rw [HM.out.2]; exact ex_knd2) [[108], [102]] ex_tn1.spl (by decide) (Or.inl ⟨rfl, rfl, rfl⟩)).mono ?_
 rintro e W4 ⟨rfl, la4, lc4, hw4, -⟩
 have H4 : Hid (Wl W2 W4 gw mb (exP 0) (exQ 0) (exK 0) la4 lc4) := hw4
 clear hw4 hWl
 go_wp2_with fail
 go_loopw [] (fun wr => ∃ (k : Nat) (la : Option Addr) (lc : Nat), k ≤ 3 ∧ Hid (Wl W2 wr gw mb (exP k) (exQ k) (exK k) la lc)) (fun wr => msr gw wr)
 case atStart => exact ⟨0, la4, lc4, by omega, H4⟩
 case round =>
  obtain ⟨k, la, lc, hk, HK⟩ := hrel
  clear H4
  have c2 : _ = some _ := HK.out.box.c 2
  match k, hk with
  | 0, _ =>
   obtain ⟨X, hX, hX3, hXt⟩ := ex_at3 HM.out.2
   have hst := pstep_ok W2 wr gw mb 0 0 ⟨#[108]⟩ [⟨#[102]⟩] la lc HK.out a n c mp ns HB2.out.2.2.2 (by decide) 3 (by rw [HM.out.2, ByteArray.toList_eq]; exact ex_lk0) X hX (by decide) (fun _ => ⟨⟨[[97]], by rw [hXt]; exact ex_tn2, by decide⟩, by decide, by rw [HM.out.2]; exact ex_knd2, by decide, by decide⟩)
   have HXX : Hid _ := xai hX3 hXt
   clear hX hX3 hXt
   have c2 : wr.cell? ⟨gw, 2, none⟩ = some (.slice la 2 lc) := c2
   go_wp2_with fail
   refine hst.mono ?_
   rintro e W5 ⟨rfl, la5, lc5, -, ⟨h1, -⟩ | ⟨-, L, hT, hw5⟩⟩
   ·exact absurd HXX.out.1 h1
   ·have hL : L = [[97]] := by
     have h1 := hT.spl
     rw [HXX.out.2] at h1
     have h2 := ex_tn2.spl
     rw [h1] at h2
     injection h2
    subst hL
    have H5 : Hid (Wl W2 W5 gw mb (exP 1) (exQ 1) (exK 1) la5 lc5) := hw5
    have HMS : Hid _ := xai (msr_eq HK.out) (msr_eq hw5)
    clear hw5 hT hst HK
    go_wp2
    refine ⟨⟨1, la5, lc5, by omega, H5⟩, ?_⟩
    rw [HMS.out.1, HMS.out.2]; decide
  | 1, _ =>
   obtain ⟨X, hX, hXk⟩ := ex_at HM.out.2 ex_n1
   have hst := pstep_ok W2 wr gw mb 0 1 ⟨#[97]⟩ [⟨#[102]⟩] la lc HK.out a n c mp ns HB2.out.2.2.2 (by decide) 1 (by rw [HM.out.2, ByteArray.toList_eq]; exact ex_lk1) X hX (by decide) (fun h => by rw [hXk] at h; exact absurd h (by decide))
   have HXX : Hid _ := hXk
   clear hX hXk
   have c2 : wr.cell? ⟨gw, 2, none⟩ = some (.slice la 2 lc) := c2
   go_wp2_with fail
   refine hst.mono ?_
   rintro e W5 ⟨rfl, la5, lc5, -, ⟨-, hw5⟩ | ⟨h1, -⟩⟩
   ·have H5 : Hid (Wl W2 W5 gw mb (exP 2) (exQ 2) (exK 2) la5 lc5) := hw5
    have HMS : Hid _ := xai (msr_eq HK.out) (msr_eq hw5)
    clear hw5 hst HK
    go_wp2
    refine ⟨⟨2, la5, lc5, by omega, H5⟩, ?_⟩
    rw [HMS.out.1, HMS.out.2]; decide
   ·rw [HXX.out] at h1; exact absurd h1 (by decide)
  | 2, _ =>
   obtain ⟨X, hX, hXk⟩ := ex_at HM.out.2 ex_n2
   have hst := pstep_ok W2 wr gw mb 1 1 ⟨#[102]⟩ [] la lc HK.out a n c mp ns HB2.out.2.2.2 (by decide) 2 (by rw [HM.out.2, ByteArray.toList_eq]; exact ex_lk2) X hX (by decide) (fun h => by rw [hXk] at h; exact absurd h (by decide))
   have HXX : Hid _ := hXk
   clear hX hXk
   have c2 : wr.cell? ⟨gw, 2, none⟩ = some (.slice la 1 lc) := c2
   go_wp2_with fail
   refine hst.mono ?_
   rintro e W5 ⟨rfl, la5, lc5, -, ⟨-, hw5⟩ | ⟨h1, -⟩⟩
   ·have H5 : Hid (Wl W2 W5 gw mb (exP 3) (exQ 3) (exK 3) la5 lc5) := hw5
    have HMS : Hid _ := xai (msr_eq HK.out) (msr_eq hw5)
    clear hw5 hst HK
    go_wp2
    refine ⟨⟨3, la5, lc5, by omega, H5⟩, ?_⟩
    rw [HMS.out.1, HMS.out.2]; decide
   ·rw [HXX.out] at h1; exact absurd h1 (by decide)
  | 3, _ =>
   have c2 : wr.cell? ⟨gw, 2, none⟩ = some (.slice la 0 lc) := c2
   have c1 : wr.cell? ⟨gw, 1, none⟩ = some (.int .i64 2) := HK.out.box.c 1
   have bi := HB2.out.2.1.kept HK.out.gr
   have be := HB2.out.2.2.1.kept HK.out.gr
   have i0 : _ = some _ := bi.c 0
   have if0 := bi.f 0
   have hg1 := grown_set wr w.heap.size 0 (.int .i64 2)
   have be2 := be.but hg1 (by intro e; injection e with e; omega)
   have e0 : _ = some _ := be2.c 0
   have ef0 := be2.f 0
   have hg2 := grown_set (wr.setCell ⟨w.heap.size, 0, none⟩ (.int .i64 2)) (w.heap.size + 1) 0 (.int .i64 0)
   have HF : Hid _ := xai ((bi.set 0 (.int .i64 2)).but hg2 (by intro e; injection e with e; omega)) (xai (be2.set 0 (.int .i64 0)) (grown_new (grown_new (xgt HB2.out.1 HK.out.gr) hg1 (Nat.le_refl _)) hg2 (by omega)))
   clear bi be hg1 be2 hg2 HK
   go_wp2_with fail
   refine leaves_cons (f := 53) (args := #[.pointer (some ⟨w.heap.size, 0, none⟩), .pointer (some ⟨w.heap.size + 1, 0, none⟩)]) (by simp) (by simp [go_sem]) ?_
   refine (wcatch_idle ⟨w.heap.size, 0, none⟩ ⟨w.heap.size + 1, 0, none⟩ _).mono ?_
   rintro e u' w'' ⟨rfl, rfl, rfl⟩
   obtain ⟨k1, k2, k3⟩ := HF.out
   have k4 := k1.c 0
   have k5 := k2.c 0
   generalize (wr.setCell ⟨w.heap.size, 0, none⟩ (.int .i64 2)).setCell ⟨w.heap.size + 1, 0, none⟩ (.int .i64 0) = WF at *
   simp only [List.set_cons_zero, List.getElem?_cons_zero] at k4 k5
   simp [Leaves, settle, results, Tryz.results28, go_sem, k4, k5]
   exact k3
def exV12 (g : Nat) : List EnV := [⟨⟨#[97]⟩, 2, 0, 0, 0, 0, 0, none, 0, 0, [], ⟨#[]⟩, 0, none, 0, 0, []⟩, ⟨⟨#[97, 47, 102]⟩, 1, 0, 0, 0, 0, 4, some ⟨g, 0, none⟩, 2, 2, [120, 121], ⟨#[]⟩, 0, none, 0, 0, []⟩, ⟨⟨#[108]⟩, 3, 0, 0, 0, 0, 0, none, 0, 0, [], ⟨#[97]⟩, 0, none, 0, 0, []⟩]
theorem exV12_ens (g : Nat) : ens (exV12 g) = ex12 := by
 unfold ens exV12 ex12 EnV.en
 simp [ByteArray.toList_eq]
theorem ex12_chk : (chk11 ex12).2 = 0 := by kernel_rfl
theorem marked_row12 (w : World) (bs : List Int) (m : Nat × Nat) (hb : Byt bs) (hl : bs.length ≤ maxLen) : Row (w.alloc (.cells (bv bs).toArray 5 m)) (some ⟨w.heap.size, 0, none⟩) bs.length bs := by
 refine ⟨rfl, hl, hb, fun _ => ⟨w.heap.size, 0, rfl, fun i hi => ?_⟩⟩
 rw [Nat.zero_add]
 have h : (w.alloc (.cells (bv bs).toArray 5 m)).heap[w.heap.size]? = some (.cells (bv bs).toArray 5 m) := heap_alloc_new _ _
 simp only [World.cell?, h]
 rw [← bv_getElem? bs i hi]
 simp
theorem ex12_mem (w : World) : Ens ((w.alloc (.cells #[.int .u8 120, .int .u8 121] 5 (2, 3))).alloc (.cells ((exV12 w.heap.size).flatMap evc).toArray 30)) (some ⟨w.heap.size + 1, 0, none⟩) 3 (exV12 w.heap.size) := by
 have b := Bx.new (w.alloc (.cells #[.int .u8 120, .int .u8 121] 5 (2, 3))) 30 ((exV12 w.heap.size).flatMap evc)
 have hsz : (w.alloc (.cells #[.int .u8 120, .int .u8 121] 5 (2, 3))).heap.size = w.heap.size + 1 := by simp
 rw [hsz] at b
 have hr : Row ((w.alloc (.cells #[.int .u8 120, .int .u8 121] 5 (2, 3))).alloc (.cells ((exV12 w.heap.size).flatMap evc).toArray 30)) (some ⟨w.heap.size, 0, none⟩) 2 [120, 121] := (marked_row12 w [120, 121] (2, 3) (fun x hx => by simp at hx; omega) (by decide)).grown (xga _ _ none)
 refine ⟨rfl, by decide, fun _ => ⟨w.heap.size + 1, 0, rfl, fun i X hX => ?_⟩⟩
 generalize hWW : (w.alloc (.cells #[.int .u8 120, .int .u8 121] 5 (2, 3))).alloc (.cells ((exV12 w.heap.size).flatMap evc).toArray 30) = WW at *
 have k : ∀ f, f < 11 → WW.cell? ⟨w.heap.size + 1, 0 + i * 11 + f, none⟩ = (evc X)[f]? := fun f hf => by
  rw [Nat.zero_add, b.c (i * 11 + f), flat_at evc 11 evc_len (exV12 w.heap.size) i f X hX hf]
 have hm := List.mem_of_getElem? hX
 have ho : X.ok WW := by
  unfold exV12 at hm
  simp at hm
  rcases hm with rfl | rfl | rfl
  ·exact ⟨row_zero none, by decide, ⟨rfl, by decide, fun h => absurd h (by decide)⟩, by decide⟩
  ·exact ⟨hr, Nat.le_refl 2, ⟨rfl, Nat.zero_le _, fun h => absurd h (Nat.lt_irrefl 0)⟩, Nat.le_refl 0⟩
  ·exact ⟨row_zero none, by decide, ⟨rfl, by decide, fun h => absurd h (by decide)⟩, by decide⟩
 exact ⟨k 0 (by decide), k 1 (by decide), k 2 (by decide), k 3 (by decide), k 4 (by decide), k 5 (by decide), k 6 (by decide), k 7 (by decide), k 8 (by decide), k 9 (by decide), k 10 (by decide), ho⟩
theorem ex12_sml (g : Nat) : Sml (exV12 g) := by
 intro X hX
 unfold exV12 at hX
 simp at hX
 rcases hX with rfl | rfl | rfl
 ·exact ⟨by decide, by decide, fun A hA => by cases hA⟩
 ·exact ⟨show 3 ≤ _ by omega, show 0 ≤ _ by omega, fun A hA => by cases hA⟩
 ·exact ⟨by decide, by decide, fun A hA => by cases hA⟩
theorem dv_of {ns : List NoV} (h : ∀ n ∈ nos ns, Dv n) : ∀ X ∈ ns, (X.data.length : Int) ≤ X.size ∧ X.size ≤ 1099511627775 := fun X hX => by
 have := h X.no (List.mem_map.2 ⟨X, hX, rfl⟩)
 exact ⟨this.data, this.le⟩
set_option maxHeartbeats 4000000 in
theorem live12_any (w : World) : Calls Tryz.prog 18 #[] w fun e w' => e = .returned (.bool true) ∧ w.grownBy w' none := by
 have hca := rcanon_any (some ⟨w.heap.size + 1, 0, none⟩) 3 3 (exV12 w.heap.size) _ (ex12_mem w) (ex12_sml _) (by decide) (fun X hX => by unfold exV12 at hX; simp at hX; rcases hX with rfl | rfl | rfl <;> exact Nat.zero_le _) (by rw [exV12_ens]; exact (chk_ok.1 ex12_chk).2.2)
 unfold CaPost at hca
 rw [exV12_ens] at hca
 have HG0 : Hid (w.grownBy ((w.alloc (.cells #[.int .u8 120, .int .u8 121] 5 (2, 3))).alloc (.cells ((exV12 w.heap.size).flatMap evc).toArray 30)) none) := xgt (xga _ _ none) (xga _ _ none)
 have hcs : (convert 23 23 (.slice (some ⟨w.heap.size, 0, none⟩) 2 2)).run Tryz.prog (w.alloc (.cells #[.int .u8 120, .int .u8 121] 5)) = .ok (.slice (some ⟨w.heap.size, 0, none⟩) 2 2) (w.alloc (.cells #[.int .u8 120, .int .u8 121] 5 (2, 3))) := Lib.run_convert_bytes_const w 23 5 _ 2 2 Tryz.underlying23 Tryz.underlying5
 go_enter Tryz.func18, Tryz.ntmps18
 go_wp2_with fail
 refine hca.mono ?_
 clear hca
 rintro e W1 ⟨b5, n5, c5, ns, rfl, hT, hn5, hno⟩
 have gA := xga W1 (.cells #[.slice b5 n5 c5] 33) none
 have bT := Bx.new W1 33 [.slice b5 n5 c5]
 have t0 : _ = some _ := bT.c 0
 have hnw := pnew_canon ex12_chk (by decide) (by intro x hx; unfold ex12 at hx; simp at hx; rcases hx with rfl | rfl | rfl <;> decide) hT hn5 hno _ gA
 have HG1 : Hid _ := xgt (xgt HG0.out hT.gr) gA
 have HNO : Hid _ := hno
 clear gA bT hT hn5 hno HG0
 go_wp2_with fail
 generalize W1.alloc (.cells #[.slice b5 n5 c5] 33) = W2 at *
 generalize W1.heap.size = gt at *
 refine hnw.mono ?_
 clear hnw
 rintro e W3 ⟨mb, mp, a, n, c, ns2, rfl, g3, hM, hn2, -, -, -, -⟩
 have HM : Hid _ := xai hM (xai (hn2.trans HNO.out) (xgt HG1.out g3))
 clear hM hn2 g3 HG1 t0
 go_wp2_with (go_at_call 20; refine (num12_any _ _).mono ?_; rintro e w' ⟨rfl, rfl⟩)
 refine (pwalk_ex W3 mb a n c mp ns2 HM.out.1 HM.out.2.1).mono ?_
 rintro e W4 ⟨rfl, g4⟩
 have hrd := pread_any W4 mb a n c mp ns2 (HM.out.1.kept g4) 2 1 9 (dv_of (by rw [HM.out.2.1]; exact canon_dv (chk_ok.1 ex12_chk).2.2)) (by decide)
 rw [HM.out.2.1, ex_rd] at hrd
 unfold RdPost12 at hrd
 have HG4 : Hid _ := xgt HM.out.2.2 g4
 clear g4
 go_wp2_with fail
 refine hrd.mono ?_
 clear hrd
 rintro e W5 ⟨ra, rc, rfl, g5, hby, -, hb⟩
 obtain ⟨g, rfl, -, hblk⟩ := hb (by decide)
 have hrow : Row W5 (some ⟨g, 0, none⟩) 3 [121, 0, 0] := Blk.row hblk hby (by decide)
 have hcv := conv_row hrow rc 23 9 Tryz.underlying23 Tryz.underlying5 Tryz.underlying9
 have hst : ((strOfNums [121, 0, 0]).toList == [121, 0, 0]) = true := by rw [str_toList]; decide
 have HG5 : Hid _ := xgt HG4.out g5
 clear g5 hby hblk hrow HM
 go_wp2_with (go_at_call 20; refine (num12_any _ _).mono ?_; rintro e w' ⟨rfl, rfl⟩)
 go_ret
 exact ⟨rfl, HG5.out⟩
theorem str_app (a b : List Int) : strOfNums a ++ strOfNums b = strOfNums (a ++ b) := by
 apply ByteArray.ext
 rw [ByteArray.data_append]
 unfold strOfNums
 simp
theorem rda_ok {L : List No} {d : Nat} {N : No} (hn : L[d]? = some N) (h : knd L d 1 = 0) {off m : Int} (h0 : 0 ≤ off) (h1 : 0 ≤ m) (h2 : m ≤ 1048576) : rda L (d : Int) off m = (rdb N.data N.size off m, 0) := by
 unfold rda
 rw [if_neg (by rw [h]; simp), if_neg (by omega), if_neg (by omega), Int.toNat_natCast, hn]
 rfl
theorem rdr_ok {L : List No} {d : Nat} {N : No} (hn : L[d]? = some N) (h : knd L d 2 = 0) {c m : Nat} : rdr L (d : Int) (c : Int) (m : Int) = ((N.kids.drop c).take m, (c : Int) + (((N.kids.drop c).take m).length : Nat), 0) := by
 unfold rdr
 rw [if_neg (by rw [h]; simp), if_neg (by omega), Int.toNat_natCast, Int.toNat_natCast, Int.toNat_natCast, hn]
 rfl
theorem kid_ne (s : ByteArray) (x : Int) (W : World) : (binOp .neq 47 (.agg #[.string s, .int .i64 x]) (.agg #[.string s, .int .i64 x])).run Tryz.prog W = .ok (.bool false) W := by
 simp [go_sem]
theorem nat_u16 {x : Int} (h : (Lit.int .u16 x).wf = true) : ∃ n : Nat, x = n ∧ n ≤ 65535 := by
 have h1 : 0 ≤ x ∧ x ≤ 65535 := by
  simp [Lit.wf, IntKind.min, IntKind.max, IntKind.signed, IntKind.bits] at h
  omega
 obtain ⟨n, rfl⟩ := Int.eq_ofNat_of_zero_le h1.1
 exact ⟨n, rfl, by omega⟩
/-- what a read told, as a row -/
theorem rd_row {W : World} {A : List Int} {ra : Option Addr} (hl : A.length ≤ 1048576) (hby : Byt A) (hb : 0 < A.length → ∃ g, ra = some ⟨g, 0, none⟩ ∧ Blk W g (bv A)) : Row W ra A.length A := by
 rcases Nat.eq_zero_or_pos A.length with h0 | h0
 ·have : A = [] := List.eq_nil_of_length_eq_zero h0
  subst this
  exact row_zero ra
 ·obtain ⟨g, rfl, hblk⟩ := hb h0
  exact Blk.row hblk hby (by unfold maxLen; omega)
def RpPost (w : World) (A : List Int × Int) (e : Ending) (w' : World) : Prop := ∃ (a : Option Addr) (c : Nat), e = .returned (.tuple #[.slice a A.1.length c, .int .i64 A.2]) ∧ w.grownBy w' none ∧ Row w' a A.1.length A.1
theorem rp_of {w w' : World} {A : List Int × Int} {e : Ending} (hl : A.1.length ≤ 1048576) (h : RdPost12 w A e w') : RpPost w A e w' := by
 obtain ⟨a, c, he, g, hby, hc, hb⟩ := h
 refine ⟨a, c, he, g, rd_row hl hby fun h0 => ?_⟩
 obtain ⟨b, e1, -, e2⟩ := hb h0
 exact ⟨b, e1, e2⟩
/-- the model, the tree's variable: what the law goes by -/
structure Pm (w W : World) (mb : Nat) (a1 : Option Addr) (n1 c1 mp : Nat) (ns2 : List NoV) : Prop where
 md : Md W mb a1 n1 c1 mp ns2
 gw : w.grownBy W none
theorem Pm.kept {w W W' : World} {mb : Nat} {a1 : Option Addr} {n1 c1 mp : Nat} {ns2 : List NoV} (h : Pm w W mb a1 n1 c1 mp ns2) (g : W.grownBy W' none) : Pm w W' mb a1 n1 c1 mp ns2 := ⟨h.md.kept g, xgt h.gw g⟩
set_option maxHeartbeats 16000000 in
theorem modelParts_walk (a : Option Addr) (len cap : Nat) (l : List EnV) (i : Int) (off n k : Nat) (w : World) (E : Ens w a len l) (ho : off ≤ 65535) (hn : n ≤ 255) (hk : k ≤ 255) : Calls Tryz.prog 5 #[.slice a len cap, .int .i64 i, .int .u16 off, .int .u8 n, .int .u8 k] w fun e w' => e = .returned (.bool true) ∧ w.grownBy w' none := by
 have hmk := made_any a len cap l w E
 unfold MkPost at hmk
 have HE : Hid _ := xai E (xai ho (xai hn hk))
 clear E
 go_enter Tryz.func5, Tryz.ntmps5
 go_wp2_with fail
 refine hmk.mono ?_
 clear hmk
 rintro e W1 ⟨g1, ⟨rfl, hbad⟩ | ⟨hG, hc, mb, mp, a1, n1, c1, ns2, b5, n5, c5, ns, rfl, hM, hN, hn2, hno⟩⟩
 ·have gA := xga W1 (.cells #[.slice none 0 0] 33) none
  have hfa := fails_bad a len cap l _ (HE.out.1.grown (xgt g1 gA)) hbad
  have HG : Hid _ := xgt g1 gA
  clear g1 gA hbad
  go_wp2_with fail
  refine hfa.mono ?_
  rintro e W2 ⟨rfl, g2⟩
  have HG2 : Hid _ := xgt HG.out g2
  clear g2 HG hfa
  go_wp2_with fail
  refine (live12_any _).mono ?_
  rintro e W3 ⟨rfl, g3⟩
  have HG3 : Hid _ := xgt HG2.out g3
  clear g3 HG2
  go_wp2
  go_ret
  exact ⟨rfl, HG3.out⟩
 ·have gA := xga W1 (.cells #[.slice b5 n5 c5] 33) none
  have t0 : (W1.alloc (.cells #[.slice b5 n5 c5] 33)).cell? ⟨W1.heap.size, 0, none⟩ = some (.slice b5 n5 c5) := (Bx.new W1 33 [.slice b5 n5 c5]).c 0
  have hok := (chk_ok.1 hc).2.2
  have hll : (ens l).length ≤ 40 := by unfold ens; rw [List.length_map, HE.out.1.len_eq]; exact hG.1
  have hka := kids_apart hok (by omega)
  have hkg := kids_good hok
  have hdv := canon_dv hok
  rw [← hno, ← hn2] at hka hkg hdv
  have hdv1 := dv_of hdv
  have hk2 : ∀ X ∈ ns2, X.kids.length ≤ 100000 := fun X hX => Nat.le_trans (hka X.no (List.mem_map.2 ⟨X, hX, rfl⟩)).2 (by decide)
  have hlen : ns2.length = ns.length := by have := congrArg List.length hn2; rw [nos_len, nos_len] at this; exact this
  have HP : Hid (Pm w (W1.alloc (.cells #[.slice b5 n5 c5] 33)) mb a1 n1 c1 mp ns2) := ⟨hM.kept gA, xgt g1 gA⟩
  have HN : Hid _ := hN.grown gA
  have HF : Hid _ := xai hk2 hdv1
  have HK : Hid (∀ N ∈ nos ns2, N.kids.Pairwise (fun a b => a.n ≠ b.n) ∧ N.kids.length ≤ 40 ∧ ∀ k ∈ N.kids, vld k.n = true ∧ k.n.length ≤ 4096) := fun N h => ⟨(hka N h).1, by have := (hkg N h).1; omega, (hkg N h).2⟩
  have HQ : Hid _ := xai hn2 hlen
  clear gA hM hN hok hll hka hkg hdv hdv1 hk2 hn2 hno hlen g1 hG hc
  by_cases hr : i < 0 ∨ (n5 : Int) ≤ i
  ·have HG : Hid _ := HP.out.gw
   clear HP HN HF HK HQ HE
   rcases Int.lt_or_le i 0 with q0 | q0
   ·clear hr
    go_wp2_with fail
    generalize W1.alloc (.cells #[.slice b5 n5 c5] 33) = WB at *
    generalize W1.heap.size = gt at *
    refine (live12_any _).mono ?_
    rintro e W3 ⟨rfl, g3⟩
    have HG3 : Hid _ := xgt HG.out g3
    clear g3 HG
    go_wp2
    go_ret
    exact ⟨rfl, HG3.out⟩
   ·have q1 : (n5 : Int) ≤ i := by omega
    have q2 : ¬ i < 0 := by omega
    clear hr
    go_wp2_with fail
    generalize W1.alloc (.cells #[.slice b5 n5 c5] 33) = WB at *
    generalize W1.heap.size = gt at *
    refine (live12_any _).mono ?_
    rintro e W3 ⟨rfl, g3⟩
    have HG3 : Hid _ := xgt HG.out g3
    clear g3 HG
    go_wp2
    go_ret
    exact ⟨rfl, HG3.out⟩
  ·obtain ⟨j, rfl⟩ : ∃ j : Nat, i = (j : Int) := ⟨i.toNat, by omega⟩
   have hjn : j < n5 := by omega
   obtain ⟨X, hX⟩ : ∃ X, ns[j]? = some X := ⟨_, List.getElem?_eq_getElem (by rw [HN.out.len_eq]; exact hjn)⟩
   obtain ⟨b, o, rfl, hat⟩ := HN.out.at_ (by omega)
   have y0 := (hat j X hX).c0
   have hXn : (nos ns2)[j]? = some X.no := by rw [HQ.out.1]; exact nos_get12 hX
   have hkd : ∀ q : Int, 0 < q → X.k = q → knd (nos ns2) j q = 0 := fun q h1 h2 => by rw [HQ.out.1, knd_at hX, if_neg (by omega)]
   have hXk := HK.out _ (List.mem_of_getElem? hXn)
   have HD : Hid _ := xai hXn (xai hkd hXk)
   have q0 : ¬ (j : Int) < 0 := by omega
   have q1 : ¬ (n5 : Int) ≤ (j : Int) := by omega
   have q2 : (j : Int) < (n5 : Int) := by omega
   have q3 : n5 ≤ 9223372036854775807 := HN.out.le
   clear hat hXn hkd hXk hr HQ HK HN hX
   have hkk : X.no.k = X.k := rfl
   generalize X.no = N at *
   generalize X.k = kd at *
   clear hkk X
   by_cases k1 : kd = 1
   ·subst k1
    have hlA : ∀ (x m : Nat), (rdb N.data N.size x m).length ≤ m := fun x m => by rw [rdb_len]; unfold rdn; omega
    have hk0 := HD.out.2.1 1 (by decide) rfl
    have eA : rda (nos ns2) (j : Int) (off : Int) (n : Int) = _ := rda_ok HD.out.1 hk0 (by omega) (by omega) (by omega)
    have eB : rda (nos ns2) (j : Int) ((off : Int) + n) (k : Int) = _ := rda_ok HD.out.1 hk0 (by omega) (by omega) (by omega)
    have eC : rda (nos ns2) (j : Int) (off : Int) ((n : Int) + k) = _ := rda_ok HD.out.1 hk0 (by omega) (by omega) (by omega)
    have lA := hlA off n
    have lB := hlA (off + n) k
    have lC := hlA off (n + k)
    simp only [Int.natCast_add] at lB lC
    have hcat := str_app (rdb N.data N.size off n) (rdb N.data N.size ((off : Int) + n) k)
    rw [rdb_parts _ _ _ _ _ (by omega) (by omega) (by omega)] at hcat
    have hA := fun W (h : Pm w W mb a1 n1 c1 mp ns2) => (pread_any W mb a1 n1 c1 mp ns2 h.md (j : Int) (off : Int) (n : Int) HF.out.2 (by omega)).mono (fun e w' q => rp_of (by rw [eA]; show (rdb _ _ _ _).length ≤ _; omega) q)
    have hB := fun W (h : Pm w W mb a1 n1 c1 mp ns2) => (pread_any W mb a1 n1 c1 mp ns2 h.md (j : Int) ((off : Int) + n) (k : Int) HF.out.2 (by omega)).mono (fun e w' q => rp_of (by rw [eB]; show (rdb _ _ _ _).length ≤ _; omega) q)
    have hC := fun W (h : Pm w W mb a1 n1 c1 mp ns2) => (pread_any W mb a1 n1 c1 mp ns2 h.md (j : Int) (off : Int) ((n : Int) + k) HF.out.2 (by omega)).mono (fun e w' q => rp_of (by rw [eC]; show (rdb _ _ _ _).length ≤ _; omega) q)
    rw [eA] at hA
    rw [eB] at hB
    rw [eC] at hC
    unfold RpPost at hA hB hC
    generalize rdb N.data N.size (off : Int) (n : Int) = A at *
    generalize rdb N.data N.size ((off : Int) + n) (k : Int) = B at *
    generalize rdb N.data N.size (off : Int) ((n : Int) + k) = C at *
    simp only at hA hB hC
    have hsz : (strOfNums A).size + (strOfNums B).size ≤ 9223372036854775807 := by rw [strOfNums_size, strOfNums_size]; omega
    have HCT : Hid _ := xai hcat hsz
    clear hsz
    have wo : IntKind.i64.wrap (off : Int) = off := by rw [IntKind.wrap_i64]; omega
    have wn : IntKind.i64.wrap (n : Int) = n := by rw [IntKind.wrap_i64]; omega
    have wk : IntKind.i64.wrap (k : Int) = k := by rw [IntKind.wrap_i64]; omega
    have won : IntKind.i64.wrap ((off : Int) + n) = (off : Int) + n := by rw [IntKind.wrap_i64]; omega
    have wnk : IntKind.i64.wrap ((n : Int) + k) = (n : Int) + k := by rw [IntKind.wrap_i64]; omega
    clear eA eB eC lA lB lC hlA hk0 hcat HF HD
    go_wp2_with fail
    generalize W1.alloc (.cells #[.slice (some ⟨b, o, none⟩) n5 c5] 33) = WB at *
    generalize W1.heap.size = gt at *
    refine (hA _ HP.out).mono ?_
    rintro e W2 ⟨ra, rc, rfl, g2, R2⟩
    have HP2 : Hid _ := HP.out.kept g2
    have HR2 : Hid _ := R2
    clear g2 R2 hA HP t0 y0
    go_wp2_with fail
    refine (hB _ HP2.out).mono ?_
    rintro e W3 ⟨rb, rd, rfl, g3, R3⟩
    have HP3 : Hid _ := HP2.out.kept g3
    have HR3 : Hid _ := xai (HR2.out.grown g3) R3
    clear g3 R3 hB HP2 HR2
    go_wp2_with fail
    refine (hC _ HP3.out).mono ?_
    rintro e W4 ⟨rf, rh, rfl, g4, R4⟩
    have HG4 : Hid _ := (HP3.out.kept g4).gw
    have cv1 := conv_row (HR3.out.1.grown g4) rc 23 9 Tryz.underlying23 Tryz.underlying5 Tryz.underlying9
    have cv2 := conv_row (HR3.out.2.grown g4) rd 23 9 Tryz.underlying23 Tryz.underlying5 Tryz.underlying9
    have cv3 := conv_row R4 rh 23 9 Tryz.underlying23 Tryz.underlying5 Tryz.underlying9
    have hct := HCT.out.1
    have hsz := HCT.out.2
    clear g4 R4 hC HP3 HR3 HCT wo wn wk won wnk
    generalize strOfNums A = sa at *
    generalize strOfNums B = sb at *
    generalize strOfNums C = sc at *
    generalize A.length = la at *
    generalize B.length = lb at *
    generalize C.length = lc at *
    go_wp2_with (go_at_call 20; refine (num12_any _ _).mono ?_; rintro e w' ⟨rfl, rfl⟩)
    refine (live12_any _).mono ?_
    rintro e W5 ⟨rfl, g5⟩
    have HG5 : Hid _ := xgt HG4.out g5
    clear g5 HG4
    go_wp2
    go_ret
    exact ⟨rfl, HG5.out⟩
   ·by_cases k2 : kd = 2
    ·subst k2
     have hk0 := HD.out.2.1 2 (by decide) rfl
     have hrd : ∀ (W : World) (c m : Nat), Hid (c ≤ 100000) → Pm w W mb a1 n1 c1 mp ns2 → Calls Tryz.prog 21 #[.pointer (some ⟨mb, 0, none⟩), .int .i64 (j : Int), .int .i64 (c : Int), .int .i64 (m : Int)] W (RkPost W ((N.kids.drop c).take m, (c : Int) + (((N.kids.drop c).take m).length : Nat), 0)) := fun W c m hc h => by
      have := preaddir_any W mb a1 n1 c1 mp ns2 h.md (j : Int) (c : Int) (m : Int) HF.out.1 (by have := hc.out; omega)
      rw [rdr_ok HD.out.1 hk0] at this
      exact this
     have hlk : ∀ (W : World) (K : Kd), K ∈ N.kids → Pm w W mb a1 n1 c1 mp ns2 → Calls Tryz.prog 22 #[.pointer (some ⟨mb, 0, none⟩), .int .i64 (j : Int), .string (tx K.n)] W fun e w' => e = .returned (.tuple #[.int .i64 K.i, .int .i64 0]) ∧ W.grownBy w' none := fun W K hK h => by
      have hv := HD.out.2.2.2.2 K hK
      have := plookup_any W mb a1 n1 c1 mp ns2 h.md (j : Int) (tx K.n) (by rw [tx_size]; omega)
      rw [tx_tl, lkp_kid HD.out.1 hk0 HD.out.2.2.1 hK hv.1] at this
      exact this
     have HKL : Hid (N.kids.length ≤ 40) := HD.out.2.2.2.1
     unfold RkPost at hrd
     have HRD : Hid _ := hrd
     have HLK : Hid _ := hlk
     clear hrd hlk hk0 HF HD
     generalize N.kids = Ks at *
     have h1 := HRD.out (W1.alloc (.cells #[.slice (some ⟨b, o, none⟩) n5 c5] 33)) 0 1000 (Nat.zero_le _) HP.out
     have e0 : (Ks.drop 0).take 1000 = Ks := by rw [List.drop_zero, List.take_of_length_le (by have := HKL.out; omega)]
     rw [e0] at h1
     clear e0
     go_wp2_with fail
     generalize W1.alloc (.cells #[.slice (some ⟨b, o, none⟩) n5 c5] 33) = WB at *
     generalize W1.heap.size = gt at *
     refine h1.mono ?_
     rintro e W2 ⟨ra, rm, rc, rfl, g2, R2⟩
     have HP2 : Hid _ := xai (HP.out.kept g2) R2
     have hrl := R2.len_eq
     have hrm : rm ≤ 40 := by have := HKL.out; omega
     have HRL : Hid _ := hrl
     clear g2 R2 h1 HP t0 y0 hrl
     go_wp2
     go_loopw [23, 24] (fun cu ci wr => ∃ c : Nat, c ≤ rm ∧ cu = .int .i64 c ∧ ci = .int .i64 c ∧ Hid (Pm w wr mb a1 n1 c1 mp ns2 ∧ Kds wr ra rm Ks)) (fun _ ci _ => rm - (intOf ci).toNat)
     case atStart => exact ⟨0, Nat.zero_le _, rfl, rfl, HP2.out⟩
     case round =>
      clear HP2
      obtain ⟨c, hc, rfl, rfl, HJ⟩ := hrel
      by_cases hlt : c < rm
      ·have hlt2 : (c : Int) < (rm : Int) := by omega
       have h2 := HRD.out wr c (1 + n % 5) (by show c ≤ 100000; omega) HJ.out.1
       have hnm : ((n : Int) % 5) = ((n % 5 : Nat) : Int) := by omega
       have hwn : IntKind.i64.wrap ((n % 5 : Nat) : Int) = ((n % 5 : Nat) : Int) := by rw [IntKind.wrap_i64]; omega
       have hw1 : IntKind.i64.wrap (1 + ((n % 5 : Nat) : Int)) = 1 + ((n % 5 : Nat) : Int) := by rw [IntKind.wrap_i64]; omega
       have hpl : ((Ks.drop c).take (1 + n % 5)).length = min (1 + n % 5) (rm - c) := by rw [List.length_take, List.length_drop, HRL.out]
       have HPL : Hid _ := hpl
       have HPG : Hid (∀ (q : Nat) (K : Kd), ((Ks.drop c).take (1 + n % 5))[q]? = some K → Ks[c + q]? = some K) := fun q K h => by
        rw [List.getElem?_take] at h
        split at h
        ·rwa [List.getElem?_drop] at h
        ·cases h
       clear hpl
       rw [show ((1 + n % 5 : Nat) : Int) = 1 + ((n % 5 : Nat) : Int) from by omega] at h2
       have hnt : Int.tmod (n : Int) 5 = ((n % 5 : Nat) : Int) := by rw [Int.tmod_eq_emod_of_nonneg (by omega)]; omega
       generalize (Ks.drop c).take (1 + n % 5) = Ps at *
       have hn5 : n % 5 < 5 := Nat.mod_lt _ (by decide)
       generalize n % 5 = m5 at *
       go_wp2_with fail
       refine h2.mono ?_
       rintro e W3 ⟨pa, pm, pc, rfl, g3, R3⟩
       have hpm := R3.len_eq
       have hp2 : pm = min (1 + m5) (rm - c) := by rw [← hpm]; exact HPL.out
       simp only [hpm]
       have HJ3 : Hid _ := xai (HJ.out.1.kept g3) (xai (HJ.out.2.grown g3) R3)
       have hp1 : 1 ≤ pm := by omega
       have hp5 : pm ≤ 5 := by omega
       have hpc : c + pm ≤ rm := by omega
       have hp0 : ((pm : Int) == 0) = false := by simp; omega
       have hwc : IntKind.i64.wrap ((c : Int) + pm) = (c : Int) + pm := by rw [IntKind.wrap_i64]; omega
       have HPM : Hid (Ps.length = pm) := hpm
       have HP1 : Hid (1 ≤ pm ∧ pm ≤ 5 ∧ c + pm ≤ rm) := ⟨hp1, hp5, hpc⟩
       clear g3 R3 h2 HJ hpm hp2 hnm hwn hw1 hnt HPL hp1 hp5 hpc hlt2
       go_wp2_with (go_at_call 20; refine (num12_any _ _).mono ?_; rintro e w' ⟨rfl, rfl⟩)
       go_loopw [24, 28] (fun ci jq wq => ∃ q d : Nat, q ≤ pm ∧ Hid (d = c + q) ∧ jq = .int .i64 q ∧ ci = .int .i64 d ∧ Hid (Pm w wq mb a1 n1 c1 mp ns2 ∧ Kds wq ra rm Ks ∧ Kds wq pa pm Ps)) (fun _ jq _ => pm - (intOf jq).toNat)
       case atStart => exact ⟨0, c, Nat.zero_le _, rfl, rfl, rfl, HJ3.out⟩
       case round =>
        clear HJ3
        obtain ⟨q, d, hq, Hd, rfl, rfl, HL⟩ := hrel
        by_cases hqt : q < pm
        ·have hqt2 : (q : Int) < (pm : Int) := by omega
         obtain ⟨K, hK⟩ : ∃ K, Ps[q]? = some K := ⟨_, List.getElem?_eq_getElem (by rw [HPM.out]; exact hqt)⟩
         have hK2 := HPG.out q K hK
         rw [← Hd.out] at hK2
         have hdr : d < rm := by have := Hd.out; have := HP1.out; omega
         obtain ⟨pb, po, rfl, hp⟩ := HL.out.2.2.at_ (by omega)
         obtain ⟨ab, ao, rfl, ha⟩ := HL.out.2.1.at_ (by omega)
         obtain ⟨p0, p1⟩ := hp q K hK
         obtain ⟨z0, z1⟩ := ha d K hK2
         have hl := HLK.out
         have hmem := List.mem_of_getElem? hK2
         have HLX : Hid (∀ W, Pm w W mb a1 n1 c1 mp ns2 → _) := fun W h => HLK.out W K hmem h
         clear hp ha hl hmem hK hK2
         have hne := kid_ne (tx K.n) K.i
         generalize tx K.n = sK at *
         generalize K.i = xi at *
         have hd2 : (d : Int) < (rm : Int) := by omega
         have hd3 : ¬ (rm : Int) ≤ (d : Int) := by omega
         have hpm5 : pm ≤ 5 := HP1.out.2.1
         go_wp2_with fail
         go_quiet (fail)
         have gq : wr.grownBy (wr.drewN nq) none := ⟨rfl, rfl, rfl, Nat.le_refl _, fun _ _ _ => rfl⟩
         have p0' := cell_grown p0 gq
         have p1' := cell_grown p1 gq
         have HL2 : Hid _ := xai (HL.out.1.kept gq) (xai (HL.out.2.1.grown gq) (HL.out.2.2.grown gq))
         clear gq HL p0 p1 z0 z1 hne
         generalize wr.drewN nq = W4 at *
         go_wp2_with fail
         refine (HLX.out _ HL2.out.1).mono ?_
         rintro e W5 ⟨rfl, g5⟩
         have p0 := cell_grown p0' g5
         have p1 := cell_grown p1' g5
         have HL5 : Hid _ := xai (HL2.out.1.kept g5) (xai (HL2.out.2.1.grown g5) (HL2.out.2.2.grown g5))
         clear g5 HL2 p0' p1' HLX
         go_wp2_with (go_at_call 20; refine (num12_any _ _).mono ?_; rintro e w' ⟨rfl, rfl⟩)
         go_roundw
         case rel => exact ⟨q + 1, d + 1, by omega, by show d + 1 = c + (q + 1); have := Hd.out; omega, by go_num, by go_num, HL5.out⟩
         case measure => simp [intOf]; omega
        ·obtain rfl : q = pm := by omega
         have HL5 : Hid _ := xai HL.out.1 HL.out.2.1
         have hdc : (d : Int) = (c : Int) + q := by have := Hd.out; omega
         have HDC : Hid _ := hdc
         clear hdc HL
         go_wp2
         go_roundw
         case rel =>
          refine ⟨c + q, HP1.out.2.2, by rw [Int.natCast_add], ?_, HL5.out⟩
          rw [HDC.out, Int.natCast_add]
         case measure =>
          have h1 := HP1.out
          have h2 := Hd.out
          simp [intOf]
          omega
      ·obtain rfl : c = rm := by omega
       have h2 := HRD.out wr c 9 (by show c ≤ 100000; omega) HJ.out.1
       have e0 : (Ks.drop c).take 9 = [] := by rw [List.drop_of_length_le (by rw [HRL.out]; exact Nat.le_refl _)]; rfl
       rw [e0] at h2
       clear e0
       go_wp2_with fail
       refine h2.mono ?_
       rintro e W3 ⟨rb, rn, rd, rfl, g3, R3⟩
       obtain rfl : rn = 0 := R3.len_eq.symm
       have HG3 : Hid _ := (HJ.out.1.kept g3).gw
       clear g3 R3 h2 HJ
       go_wp2_with (go_at_call 20; refine (num12_any _ _).mono ?_; rintro e w' ⟨rfl, rfl⟩)
       refine (live12_any _).mono ?_
       rintro e W5 ⟨rfl, g5⟩
       have HG5 : Hid _ := xgt HG3.out g5
       clear g5 HG3
       go_wp2
       go_ret
       exact ⟨rfl, HG5.out⟩
    ·have HG : Hid _ := HP.out.gw
     clear HP HF HD
     go_wp2_with fail
     generalize W1.alloc (.cells #[.slice (some ⟨b, o, none⟩) n5 c5] 33) = WB at *
     generalize W1.heap.size = gt at *
     refine (live12_any _).mono ?_
     rintro e W3 ⟨rfl, g3⟩
     have HG3 : Hid _ := xgt HG.out g3
     clear g3 HG
     go_wp2
     go_ret
     exact ⟨rfl, HG3.out⟩
end Go.Proofs.YtlehncfehoelbaaGreatDoor
namespace Go.Proofs.YtlehncfehoelbaaGreatDoor
theorem nat_u8 {x : Int} (h : (Lit.int .u8 x).wf = true) : ∃ n : Nat, x = n ∧ n ≤ 255 := by
 have h2 : 0 ≤ x ∧ x ≤ 255 := by simpa [Lit.wf, IntKind.min, IntKind.max, IntKind.signed, IntKind.bits] using h
 obtain ⟨n, rfl⟩ := Int.eq_ofNat_of_zero_le h2.1
 exact ⟨n, rfl, by omega⟩
end Go.Proofs.YtlehncfehoelbaaGreatDoor
