/- The program's tree: attributes in memory of their own. -/
import Derived.KernelRfl
import Derived.Defers
import Derived.Recover
import Derived.Test.YtlehncfehoelbaaGreatDoorProg
import Derived.Shelf.SlSortCmp.WholeK
import Derived.Shelf.SlSortCmp.Whole1
import Derived.Shelf.SlSortCmp.NoneTotal
import Derived.Test.YtlehncfehoelbaaGreatDoorCq05
import Derived.Test.YtlehncfehoelbaaGreatDoorCq07
import Derived.Test.YtlehncfehoelbaaGreatDoorCq10
import Derived.Test.YtlehncfehoelbaaGreatDoorCq13
namespace Go.Proofs.YtlehncfehoelbaaGreatDoor
open Go.RowKit
set_option maxRecDepth 100000
set_option linter.unusedSimpArgs false
set_option linter.unusedVariables false
structure OwnB (W : World) (base : Nat) (a : Option Addr) (n c : Nat) (xs : List Int) : Prop where
 own : W.ownsRow base 5 1 (.slice a n c) n (bv xs)
 byt : Byt xs
theorem OwnB.kept {W W' : World} {base n c : Nat} {a : Option Addr} {xs : List Int} (h : OwnB W base a n c xs) (g : W.grownBy W' none) : OwnB W' base a n c xs := ⟨owns_kept11 h.own g, h.byt⟩
theorem OwnB.other {W W' : World} {base b n c e s m : Nat} {a : Option Addr} {xs : List Int} {u : Value} {ys : List Value} (h : OwnB W base a n c xs) (ho : W.ownsRow b e s u m ys) (he : 5 ≠ e) (g : W.grownBy W' u.ownBlock) : OwnB W' base a n c xs := ⟨h.own.kept g (owns_ne h.own ho he), h.byt⟩
theorem OwnB.low {W : World} {base b n c : Nat} {a : Option Addr} {xs : List Int} (h : OwnB W base a n c xs) (hb : b ≤ base) : OwnB W b a n c xs := ⟨owns_low11 h.own hb, h.byt⟩
theorem OwnB.row {W : World} {base n c : Nat} {a : Option Addr} {xs : List Int} (h : OwnB W base a n c xs) : Row W a n xs := by
 have hl : n ≤ maxLen := by
  rcases h.own.2 with ⟨e, h0⟩ | ⟨g, cap, cur, e, hg, hh, hc, hm, _⟩
  ·rw [h0]; exact Nat.zero_le _
  ·exact Nat.le_trans hc hm
 obtain ⟨a', c', e, R⟩ := owns_row h.own h.byt hl
 injection e with e1 e2 e3
 subst e1
 exact R
theorem OwnB.cap {W : World} {base n c : Nat} {a : Option Addr} {xs : List Int} (h : OwnB W base a n c xs) : n ≤ c := by
 rcases h.own.2 with ⟨e, h0⟩ | ⟨g, cap, cur, e, hg, hh, hc, hm, _⟩
 ·rw [h0]; exact Nat.zero_le _
 ·injection e with e1 e2 e3
  rw [e3]; exact hc
structure Cp (w W : World) (v : Value) (out : List AtV) : Prop where
 gr : w.grownBy W none
 own : W.ownsRow w.heap.size 45 2 v out.length (out.flatMap avc)
 rows : ∀ A ∈ out, OwnB W w.heap.size A.a A.len A.cap A.v
theorem Cp.kept {w W W' : World} {v : Value} {out : List AtV} (h : Cp w W v out) (g : W.grownBy W' none) : Cp w W' v out := ⟨xgt h.gr g, owns_kept11 h.own g, fun A hA => (h.rows A hA).kept g⟩
theorem Cp.add {w W W' : World} {v v' : Value} {out : List AtV} {A : AtV} (h : Cp w W v out) (hA : OwnB W w.heap.size A.a A.len A.cap A.v) (ho : W'.ownsRow w.heap.size 45 2 v' (out.length + 1) (out.flatMap avc ++ avc A)) (g : W.grownBy W' v.ownBlock) : Cp w W' v' (out ++ [A]) := by
 refine ⟨grown_own11 h.gr h.own g, ?_, fun B hB => ?_⟩
 ·have e : (out ++ [A]).flatMap avc = out.flatMap avc ++ avc A := by rw [List.flatMap_append]; simp
  rw [List.length_append, e]
  exact ho
 ·rcases List.mem_append.1 hB with hB | hB
  ·exact (h.rows B hB).other h.own (by decide) g
  ·obtain rfl : B = A := by simpa using hB
   exact hA.other h.own (by decide) g
theorem bx2 {W : World} {g : Nat} {T : TypeId} {x y : Value} (h : Bx W g T [x, y]) : W.cell? ⟨g, 0, none⟩ = some x ∧ W.cell? ⟨g, 1, none⟩ = some y := ⟨h.c 0, h.c 1⟩
def CpPost (w : World) (l : List AtV) (e : Ending) (w' : World) : Prop := ∃ v out, e = .returned v ∧ Cp w w' v out ∧ out.map AtV.at = l.map AtV.at
set_option maxHeartbeats 4000000 in
theorem pcopied_any (a : Option Addr) (len cap : Nat) (l : List AtV) (w : World) (E : Ats w a len l) (hlen : len ≤ 100000) (hz : ∀ A ∈ l, A.n.size ≤ 1000000 ∧ A.len ≤ 16777216) :
  Calls Tryz.prog 45 #[.slice a len cap] w (CpPost w l) := by
 have hll := E.len_eq
 obtain ⟨ia, hi, hz0, hz1, hz2⟩ := info_parts Tryz.infoA
 have HIA : Hid _ := xai hi (xai hz0 (xai hz1 hz2))
 clear hi hz0 hz1 hz2
 have H0 : Hid (Cp w w (.slice none 0 0) []) := ⟨World.grownBy.refl _ _, World.ownsRow_nil _ _ _ _, fun A h => by cases h⟩
 have hta : (l.map AtV.at).take len = l.map AtV.at := List.take_of_length_le (by rw [List.length_map]; omega)
 have HE : Hid _ := xai E (xai hll (xai hta hz))
 clear E hll hta hz

 go_enter Tryz.func45, Tryz.ntmps45
 go_wp2_with fail
 go_loopw [3, 8] (fun v3 vi wr => ∃ k : Nat, k ≤ len ∧ vi = .int .i64 k ∧ Hid (∃ out, Cp w wr v3 out ∧ out.map AtV.at = (l.map AtV.at).take k)) (fun _ vi _ => len - (intOf vi).toNat)
 case atStart => exact ⟨0, Nat.zero_le _, rfl, [], H0.out, rfl⟩
 case round =>
  clear H0
  obtain ⟨k, hk, rfl, HO⟩ := hrel
  obtain ⟨out, hC, hO⟩ := HO.out
  have hol : out.length = k := by
   have := congrArg List.length hO
   rw [List.length_map, List.length_take, List.length_map, HE.out.2.1] at this
   omega
  obtain ⟨a3, c3, rfl⟩ : ∃ a3 c3, u3 = .slice a3 out.length c3 := by
   rcases hC.own.2 with ⟨e, h0⟩ | ⟨g, c, cur, e, _⟩
   ·exact ⟨none, 0, by rw [e, h0]⟩
   ·exact ⟨_, c, e⟩
  have HC : Hid _ := xai hC (xai hO hol)
  clear hC hO hol HO
  by_cases hlt : k < len
  ·obtain ⟨A, hA⟩ : ∃ A, l[k]? = some A := ⟨_, List.getElem?_eq_getElem (by have := HE.out.2.1; omega)⟩
   obtain ⟨b, off, rfl, hat⟩ := HE.out.1.at_ (by omega)
   obtain ⟨y0, y1, yr, yc⟩ := hat k A hA
   replace y0 := cell_grown y0 HC.out.1.gr
   replace y1 := cell_grown y1 HC.out.1.gr
   have hsz := HE.out.2.2.2 A (List.mem_of_getElem? hA)
   have HN : Hid ((l.map AtV.at).take (k + 1) = (l.map AtV.at).take k ++ [A.at]) := by
    show _ = _
    rw [List.take_add_one, List.getElem?_map, hA]
    rfl
   have hsc := fun W => psclone_any A.n W hsz.1
   have hbc := fun W (g : w.grownBy W none) => pclone_any A.a A.len A.cap A.v W (yr.grown g) hsz.2
   have HY : Hid _ := yr.byt
   obtain ⟨nm, va, vl, vc, vv⟩ := A
   simp only at y0 y1 hsc hbc HN HY
   clear hat yr yc hA hsz
   have hlti : (k : Int) < (len : Int) := by omega
   have G1 : Hid _ := xga wr (.cells #[.string nm, .slice va vl vc] 45) none
   have B1 : Hid _ := Bx.new wr 45 [.string nm, .slice va vl vc]
   have hwr := HC.out.1.gr.size
   generalize ho : out.length = on at *
   have HON : Hid _ := ho
   clear ho
   go_wp2_with fail
   generalize wr.alloc (.cells #[.string nm, .slice va vl vc] 45) = W1 at *
   generalize hg0 : wr.heap.size = gx at *
   have HG0 : Hid _ := hg0
   clear hg0 y0 y1
   have hC := HC.out.1.kept (xgt G1.out (drewG0 W1))
   refine wp_region_held_drew (S := fun w' => w.grownBy w' none ∧ Bx w' gx 45 [.string nm, .slice va vl vc]) (by kernel_rfl) (xai hC.gr (B1.out.kept (drewG0 W1))) (fun hH => ?_)
   clear G1 B1
   generalize W1.drew = WD at *
   refine tk (i := 0) (oi := ⟨some 12, _, _, _, _, _⟩) (v := .slice a3 on c3) rfl (Or.inl ⟨by rfl, fun w hSw => by go_simp⟩) hH ?_
   simp only [Act.put, pu]
   refine tk (i := 1) (oi := ⟨some 13, _, _, _, _, _⟩) (v := .pointer (some ⟨gx, 0, none⟩)) rfl (Or.inl ⟨by rfl, fun w hSw => by go_simp⟩) hH ?_
   simp only [Act.put, pu]
   refine tk (i := 2) (oi := ⟨some 14, _, _, _, _, _⟩) (v := .string nm) rfl (Or.inl ⟨by rfl, fun w hSw => by obtain ⟨c0, c1⟩ := bx2 hSw.2; go_simp⟩) hH ?_
   simp only [Act.put, pu]
   refine tk (i := 4) (oi := ⟨some 16, _, _, _, _, _⟩) (v := .pointer (some ⟨gx, 1, none⟩)) rfl (Or.inl ⟨by rfl, fun w hSw => by go_simp⟩) hH ?_
   simp only [Act.put, pu]
   refine tk (i := 5) (oi := ⟨some 17, _, _, _, _, _⟩) (v := .slice va vl vc) rfl (Or.inl ⟨by rfl, fun w hSw => by obtain ⟨c0, c1⟩ := bx2 hSw.2; go_simp⟩) hH ?_
   simp only [Act.put, pu]
   refine wpAnyH_ready (rs := [3]) (by kernel_rfl) (by simp) ?_
   refine AllReadyH.cons rfl (fun K1 hK => ?_) AllReadyH.nil
   go_simp
   go_wp2_with (go_at_call 43; refine (hsc _).mono ?_; rintro e W2 ⟨rfl, g2⟩)
   replace hH := xai (xgt hH.1 g2) (hH.2.kept g2)
   replace hC := hC.kept g2
   clear g2
   refine hK.out _ _ hH (fun _ => ?_)
   clear hK K1
   refine wpAnyH_ready (rs := [6]) (by kernel_rfl) (by simp) ?_
   refine AllReadyH.cons rfl (fun K1 hK => ?_) AllReadyH.nil
   go_simp
   go_wp2_with (go_at_call 44; refine (hbc _ hH.1).mono ?_; rintro e W3 ⟨v3, rfl, ho3, g3⟩)
   obtain ⟨ca, cc, rfl⟩ := own_shape ho3
   have hob : OwnB W3 w.heap.size ca vl cc vv := ⟨owns_low11 ho3 hC.gr.size, HY.out⟩
   replace hH := xai (xgt hH.1 g3) (hH.2.kept g3)
   replace hC := hC.kept g3
   clear g3 ho3
   refine hK.out _ _ hH (fun _ => ?_)
   clear hK K1
   refine tk (i := 7) (oi := ⟨some 19, _, _, _, _, _⟩) (v := .agg #[.string nm, .slice ca vl cc]) rfl (Or.inl ⟨by rfl, fun w hSw => by go_simp⟩) hH ?_
   simp only [Act.put, pu]
   refine wpAnyH_ready (rs := [8]) (by kernel_rfl) (by simp) ?_
   refine AllReadyH.cons rfl (fun K1 hK => ?_) AllReadyH.nil
   have gA := xga W3 (.cells #[.string nm, .slice ca vl cc] 45) none
   have bA := Bx.new W3 45 [.string nm, .slice ca vl cc]
   go_simp
   replace hH := xai (xgt hH.1 gA) (hH.2.kept gA)
   replace hC := hC.kept gA
   replace hob := hob.kept gA
   have hWX := hC.gr.size
   clear gA
   generalize W3.alloc (.cells #[.string nm, .slice ca vl cc] 45) = WB at *
   generalize W3.heap.size = gb at *
   refine hK.out _ _ hH (fun _ => ?_)
   clear hK K1
   refine wpAnyH_ready (rs := [9]) (by kernel_rfl) (by simp) ?_
   refine AllReadyH.cons rfl (fun K1 hK => ?_) AllReadyH.nil
   have hown := hC.own
   rw [HON.out] at hown
   obtain ⟨v', W9, hrun, hown', hgrow, _, _⟩ := run_append_own_at (P := Tryz.prog) WB w.heap.size 28 28 45 ia _ 2 _ Tryz.underlying28 HIA.out.1 HIA.out.2.1 HIA.out.2.2.1 HIA.out.2.2.2 rfl (by decide) _ _ _ hown ⟨gb, 0, none⟩ 1 1 [.string nm, .slice ca vl cc] rfl (news_bx bA rfl) (one2 nm ca) (by have := HC.out.2.2; unfold maxLen; omega) (by have := HC.out.2.2; omega) hWX
   have hC9 := hC.add (A := ⟨nm, ca, vl, cc, vv⟩) hob (by rw [HON.out]; exact hown') hgrow
   have hx9 : Bx W9 gx 45 [.string nm, .slice va vl vc] := hH.2.but hgrow (fun e => by have h1 := (HC.out.1.own.lt gx e.symm).2; rw [HG0.out] at h1; omega)
   have hH9 := xai hC9.gr hx9
   rw [if_pos (by rfl)]
   refine wp_append (u := .slice (some ⟨gb, 0, none⟩) 1 1) rfl rfl rfl hrun (hK.out _ _ hH9 (fun _ => ?_))
   have hH := hH9
   clear hK K1 hrun hgrow hown' hown hob bA hC hx9 hH9
   simp only [Act.put, pu]
   refine tk (i := 10) (oi := ⟨some 3, _, _, _, _, _⟩) (v := v') rfl (Or.inl ⟨by rfl, fun w hSw => by go_simp⟩) hH ?_
   simp only [Act.put, pu]
   refine wpAnyH_done (by kernel_rfl) ?_ _
   have HR : Hid _ := hC9
   clear hC9 hH hsc hbc
   go_wp2_with fail
   exact ⟨⟨k + 1, by omega, by go_num, _, HR.out, by rw [List.map_append, HC.out.2.1, HN.out]; rfl⟩, by simp [intOf]; omega⟩
  ·have hlti : ¬ (k : Int) < (len : Int) := by omega
   obtain rfl : k = len := by omega
   have HT : Hid _ := HC.out.2.1.trans HE.out.2.2.1
   generalize ho : out.length = on at *
   have HON : Hid _ := ho
   clear ho
   go_wp2_with fail
   go_ret
   exact ⟨_, out, rfl, HC.out.1, HT.out⟩
def rdn (sz_ off n : Int) : Nat := (min n (sz_ - off)).toNat
def rdb (data : List Int) (sz_ off n : Int) : List Int := (List.range (rdn sz_ off n)).map (fun i => data.getD (off.toNat + i) 0)
def rda (L : List No) (i off n : Int) : List Int × Int :=
 if knd L i 1 ≠ 0 then ([], knd L i 1) else if off < 0 ∨ n < 0 then ([], 1) else if 1048576 < n then ([], 2) else
  (rdb (((L[i.toNat]?).map No.data).getD []) (((L[i.toNat]?).map No.size).getD 0) off n, 0)
theorem rda_bad {L : List No} {i off n : Int} (h : knd L i 1 ≠ 0) : rda L i off n = ([], knd L i 1) := by unfold rda; rw [if_pos h]
theorem rda_at {ns : List NoV} {i : Nat} {X : NoV} (hX : ns[i]? = some X) (h : knd (nos ns) i 1 = 0) (off n : Int) : rda (nos ns) (i : Int) off n = if off < 0 ∨ n < 0 then ([], (1 : Int)) else if 1048576 < n then ([], 2) else (rdb X.data X.size off n, 0) := by
 unfold rda
 rw [if_neg (by rw [h]; simp), Int.toNat_natCast, nos_get12 hX]
 rfl
theorem rdb_len (data : List Int) (sz_ off n : Int) : (rdb data sz_ off n).length = rdn sz_ off n := by unfold rdb; simp
theorem rdb_byt {data : List Int} (h : Byt data) (sz_ off n : Int) : Byt (rdb data sz_ off n) := by
 intro x hx
 obtain ⟨i, -, rfl⟩ := List.mem_map.1 hx
 rw [List.getD_eq_getElem?_getD]
 cases hq : data[off.toNat + i]? with
 | none => exact ⟨Int.le_refl _, by decide⟩
 | some y => exact h y (List.mem_of_getElem? hq)
theorem rdb_splice (data : List Int) (sz_ off n : Int) (k : Nat) (hk : k = min off.toNat data.length) : splice (List.replicate (rdn sz_ off n) (Value.int .u8 0)) 0 (bv ((data.drop k).take (rdn sz_ off n))) = bv (rdb data sz_ off n) := by
 generalize hc : rdn sz_ off n = c
 have e : bv (rdb data sz_ off n) = (List.range c).map (fun i => Value.int .u8 (data.getD (off.toNat + i) 0)) := by unfold bv rdb; rw [hc, List.map_map]; rfl
 rw [e]
 unfold splice
 rw [List.take_zero, List.nil_append, Nat.zero_add]
 apply List.ext_getElem?
 intro i
 rw [List.getElem?_append, bv_length, List.getElem?_drop]
 by_cases hi : i < c
 ·rw [List.getElem?_map, List.getElem?_range hi]
  simp only [Option.map_some]
  by_cases h1 : i < ((data.drop k).take c).length
  ·rw [if_pos h1, bv_getElem? _ _ h1, List.getD_eq_getElem?_getD, List.getElem?_take, if_pos hi, List.getElem?_drop]
   rw [List.length_take, List.length_drop] at h1
   rw [show k = off.toNat by omega, List.getD_eq_getElem?_getD]
  ·rw [if_neg h1]
   rw [List.length_take, List.length_drop] at h1 ⊢
   rw [show min c (data.length - k) + (i - min c (data.length - k)) = i by omega, List.getElem?_replicate, if_pos hi, List.getD_eq_getElem?_getD, List.getElem?_eq_none (by omega)]
   rfl
 ·have h0 : ¬ i < ((data.drop k).take c).length := by rw [List.length_take]; omega
  rw [if_neg h0, List.getElem?_eq_none (by simp; omega), List.getElem?_eq_none (by simp; omega)]
def RdPost12 (w : World) (A : List Int × Int) (e : Ending) (w' : World) : Prop := ∃ (a : Option Addr) (c : Nat), e = .returned (.tuple #[.slice a A.1.length c, .int .i64 A.2]) ∧ w.grownBy w' none ∧ Byt A.1 ∧ A.1.length ≤ c ∧ (0 < A.1.length → ∃ g, a = some ⟨g, 0, none⟩ ∧ w.heap.size ≤ g ∧ Blk w' g (bv A.1))
theorem wpList_lowB {P : Program} {w : World} {ops : Array Oper} {rest : List Oper} {o : Oper} {a : Act} {Q : Exit → Act → World → Prop} (hg : o.guard = none) (x l : Operand) (t : TypeId)
  (ho : o.op = .slice t x (some l) none none) (ht : P.underlying t = some (.slice 5)) (i : TypeInfo) (hi : P.info? 5 = some i) (hsz : i.size = 1)
  (da : Option Addr) (len cap k : Nat) (K : Int) (hx : a.eval x = .slice da len cap) (hl : a.eval l = .int .i64 K) (hK : K = (k : Int)) (h1 : k ≤ len) (h2 : len ≤ cap) (xs : List Int) (R : Row w da len xs)
  (hk : ∀ a', Hid (Row w a' (len - k) (xs.drop k)) → wpList P ops Q rest (a.put o.dst (.slice a' (len - k) (cap - k))) w) : wpList P ops Q (o :: rest) a w := by
 refine wpList_plain hg fun K' hK' => ?_
 have he : P.elem t = 5 := by simp [Program.elem, ht]
 have ht' : P.underlying t = some (.slice (P.elem t)) := by rw [he]; exact ht
 have hs : (sizeOf 5).run P w = .ok 1 w := by rw [run_sizeOf w hi]; simp [Program.cellsOf, hi, hsz]
 subst hK
 have hr := run_slice_l (P := P) (w := w) (a := da) (len := len) (cap := cap) (t := t) ht' .i64 (k : Int) (by omega) (by omega)
 rw [he, hs] at hr
 simp only [Result.andThen, Int.toNat_natCast] at hr
 have hlen := R.len_eq
 have hv : ∃ a', sliced da k len cap 1 = .slice a' (len - k) (cap - k) ∧ Row w a' (len - k) (xs.drop k) := by
  unfold sliced
  by_cases c : cap = k
  ·rw [if_pos c]
   refine ⟨da, rfl, ?_⟩
   rw [show len - k = 0 by omega, List.drop_eq_nil_of_le (by omega)]
   exact ⟨rfl, Nat.zero_le _, fun x h => (by cases h), fun h => by omega⟩
  ·rw [if_neg c]
   refine ⟨_, rfl, by rw [List.length_drop, hlen], by have := R.le; omega, fun x h => R.byt x (List.mem_of_mem_drop h), fun h => ?_⟩
   obtain ⟨b, off, rfl, hc⟩ := R.cells (by omega)
   have hadd : (⟨b, off, none⟩ : Addr).add (k * 1) = ⟨b, off + k, none⟩ := by unfold Addr.add; split <;> simp_all
   refine ⟨b, off + k, by rw [Option.map_some, hadd], fun j hj => ?_⟩
   rw [Nat.add_assoc, hc (k + j) (by omega), List.getD_eq_getElem?_getD, List.getD_eq_getElem?_getD, List.getElem?_drop]
 obtain ⟨a', hv, h3⟩ := hv
 rw [hv] at hr
 unfold Oper.wp
 simp [execOp, ho, hx, hl, hr, Result.andThen, run_sliceAt_slice (P := P) (w := w) t _ _ _ _ ht']
 exact hK' _ _ (hk _ h3)
theorem low12_here {P : Program} {w : World} {ops : Array Oper} {rest : List Oper} {a : Act} {Q : Exit → Act → World → Prop} {dst : Option Nat} {t : TypeId} {x l : Operand} {type : TypeId} {pos : String} {after : Array Edge} {guard : Option (Nat × Bool)}
  (k : wpList P ops Q (⟨dst, .slice t x (some l) none none, type, pos, after, guard⟩ :: rest) a w) : wpList P ops Q (⟨dst, .slice t x (some l) none none, type, pos, after, guard⟩ :: rest) a w := k
set_option maxHeartbeats 4000000 in
theorem pread_any (w : World) (mb : Nat) (a : Option Addr) (n c mp : Nat) (ns : List NoV) (h : Md w mb a n c mp ns) (i off m : Int) (hdv : ∀ X ∈ ns, (X.data.length : Int) ≤ X.size ∧ X.size ≤ 1099511627775) (ho : off ≤ 9223372036854775807) :
  Calls Tryz.prog 19 #[.pointer (some ⟨mb, 0, none⟩), .int .i64 i, .int .i64 off, .int .i64 m] w (RdPost12 w (rda (nos ns) i off m)) := by
 have hok := pofkind_any w mb a n c (.map (some mp)) ns h.box h.nos i 1 (by decide)
 have HM : Hid _ := xai h hdv
 clear h hdv
 obtain ⟨R, hR⟩ : ∃ R, R = rda (nos ns) i off m := ⟨_, rfl⟩
 rw [← hR]
 have HR : Hid _ := hR
 clear hR
 obtain ⟨i5, hi, hz0, hz1, hz2⟩ := info_parts Tryz.info5
 go_enter Tryz.func19, Tryz.ntmps19
 go_wp2_with fail
 refine hok.mono ?_
 clear hok
 rintro e W1 ⟨X, rfl, h0, h1, g1⟩
 have HX : Hid _ := xai h0 (xai h1 g1)
 clear h0 h1 g1
 by_cases hz : knd (nos ns) i 1 = 0
 ·obtain ⟨hd0, hX, hXk⟩ := HX.out.1 hz
  obtain ⟨j, rfl⟩ : ∃ j : Nat, i = (j : Int) := ⟨i.toNat, by omega⟩
  rw [Int.toNat_natCast] at hX
  have hl := rda_at hX hz off m
  rw [hz]
  have hmem := List.mem_of_getElem? hX
  obtain ⟨hs1, hs2⟩ := HM.out.2 X hmem
  have hcap := (HM.out.1.caps X hmem).1
  have hrow : Row w X.da X.dl X.data := by
   have hj := (List.getElem?_eq_some_iff.1 hX).1
   obtain ⟨b, o, -, k⟩ := HM.out.1.nos.at_ (by rw [← HM.out.1.nos.len_eq]; omega)
   exact (k j X hX).ok.row
  have HG1 : Hid _ := HX.out.2.2
  obtain ⟨NK, mo, uid, gid, ti, sz_, da, dl, dc, data, tg, dev, aa, al, ac, attrs, ka, kl, kc, kids, pa, lk⟩ := X
  simp only [NoV.val]
  simp only at hl hs1 hs2 hcap hrow
  rw [← HR.out] at hl
  have HL : Hid _ := hl
  clear hl hd0 hX hXk HX hz HR hmem HM
  have gB := xga W1 (.cells #[.int .i64 NK, .int .i64 mo, .int .i64 uid, .int .i64 gid, .int .i64 ti, .int .i64 sz_, .slice da dl dc, .string tg, .int .i64 dev, .slice aa al ac, .slice ka kl kc, .int .i64 pa, .int .i64 lk] 43) none
  have bB := Bx.new W1 43 [.int .i64 NK, .int .i64 mo, .int .i64 uid, .int .i64 gid, .int .i64 ti, .int .i64 sz_, .slice da dl dc, .string tg, .int .i64 dev, .slice aa al ac, .slice ka kl kc, .int .i64 pa, .int .i64 lk]
  have v5 : _ = some _ := bB.c 5
  have v6 : _ = some _ := bB.c 6
  have HB : Hid _ := xai (xgt HG1.out gB) (xai (hrow.grown (xgt HG1.out gB)) bB)
  have hrl := hrow.len_eq
  have HRL : Hid _ := xai hrl (xai hs1 hrow.byt)
  rw [hrl] at hs1
  clear gB bB hrow hrl HG1
  by_cases q1 : off < 0
  ·have HV : Hid (R = ([], 1)) := by show _ = _; rw [HL.out, if_pos (Or.inl q1)]
   clear HL
   go_wp2
   go_ret2
   unfold RdPost12
   rw [HV.out]
   exact ⟨none, 0, rfl, HB.out.1, fun x h => (by cases h), Nat.le_refl _, fun h => absurd h (by decide)⟩
  by_cases q2 : m < 0
  ·have HV : Hid (R = ([], 1)) := by show _ = _; rw [HL.out, if_pos (Or.inr q2)]
   clear HL
   go_wp2
   go_ret2
   unfold RdPost12
   rw [HV.out]
   exact ⟨none, 0, rfl, HB.out.1, fun x h => (by cases h), Nat.le_refl _, fun h => absurd h (by decide)⟩
  by_cases q3 : 1048576 < m
  ·have HV : Hid (R = ([], 2)) := by show _ = _; rw [HL.out, if_neg (by omega), if_pos q3]
   clear HL
   go_wp2
   go_ret2
   unfold RdPost12
   rw [HV.out]
   exact ⟨none, 0, rfl, HB.out.1, fun x h => (by cases h), Nat.le_refl _, fun h => absurd h (by decide)⟩
  have HV : Hid (R = (rdb data sz_ off m, 0)) := by show _ = _; rw [HL.out, if_neg (by omega), if_neg q3]
  clear HL
  have hwr : wrap64 (sz_ - min off sz_) = sz_ - min off sz_ := by unfold wrap64; omega
  obtain ⟨q, hq⟩ : ∃ q : Nat, min m (sz_ - min off sz_) = (q : Int) := ⟨(min m (sz_ - min off sz_)).toNat, by omega⟩
  obtain ⟨k, hk⟩ : ∃ k : Nat, min (min off sz_) (dl : Int) = (k : Int) := ⟨(min (min off sz_) (dl : Int)).toNat, by omega⟩
  have hqn : q = rdn sz_ off m := by unfold rdn; omega
  have hkn : k = min off.toNat data.length := by rw [HRL.out.1]; omega
  have hkd : k ≤ dl := by omega
  have hq48 : q ≤ 281474976710656 := by omega
  obtain ⟨t, ht⟩ : ∃ t, t = min q (dl - k) := ⟨_, rfl⟩
  have hspl := rdb_splice data sz_ off m k hkn
  rw [← hqn] at hspl
  have hts : (data.drop k).take q = (data.drop k).take t := by
   have e : dl - k = (data.drop k).length := by rw [List.length_drop, HRL.out.1]
   rw [ht, e]
   rcases Nat.le_total q (data.drop k).length with h | h
   ·rw [Nat.min_eq_left h]
   ·rw [Nat.min_eq_right h, List.take_length, List.take_of_length_le h]
  rw [hts] at hspl
  have htl : (bv ((data.drop k).take t)).length = t := by rw [bv_length, List.length_take, List.length_drop, HRL.out.1]; omega
  have HQ : Hid _ := xai hqn (xai hspl (xai htl (xai ht hcap)))
  clear hqn hkn hspl hts htl ht hs1 hs2 hcap
  have hgw : (W1.alloc (.cells #[.int .i64 NK, .int .i64 mo, .int .i64 uid, .int .i64 gid, .int .i64 ti, .int .i64 sz_, .slice da dl dc, .string tg, .int .i64 dev, .slice aa al ac, .slice ka kl kc, .int .i64 pa, .int .i64 lk] 43)).heap.size = W1.heap.size + 1 := by simp
  have HGW : Hid _ := xai hgw (show w.heap.size ≤ W1.heap.size + 1 by rw [← hgw]; exact HB.out.1.size)
  clear hgw
  go_wp2_with (first
   | (at_make; refine wpList_make8 _ rfl _ _ 23 rfl i5 Tryz.underlying23 hi hz0 hz1 hz2 _ _ _ _ q rfl rfl rfl rfl hq48 ?_; intro w1 hb1 hg1 hs1; rw [HGW.out.1] at hb1; have x6 : _ = some _ := (HB.out.2.2.kept hg1).c 6; have HW : Hid _ := xai hb1 (xai (xgt HB.out.1 hg1) (xai HGW.out.2 (HB.out.2.1.grown hg1))); clear hb1 hg1 hs1)
   | ((with_reducible refine low12_here ?_); refine wpList_lowB rfl _ _ 23 rfl Tryz.underlying23 i5 hi hz1 da dl dc k _ rfl rfl rfl hkd HQ.out.2.2.2.2 data HW.out.2.2.2 ?_; intro a' HA)
   | ((with_reducible refine copy_here ?_); go_loud (refine wpList_copy8 rfl _ _ 23 23 rfl Tryz.underlying23 (by rw [hi]; simp [hz1]) _ _ _ _ _ _ rfl rfl (W1.heap.size + 1) 0 _ HW.out.1 (bv ((data.drop k).take t)) (by have h1 := HQ.out.2.2.1; have h2 := HQ.out.2.2.2.1; rw [h1, h2]; exact Nat.min_comm _ _) (fun h0 => ⟨rfl, (row_take HA.out (m := t) (by have := HQ.out.2.2.2.1; omega)).src h0⟩) (by have h1 := HQ.out.2.2.1; have h2 := HQ.out.2.2.2.1; rw [h1, List.length_replicate]; omega) (bv_one _) ?_; intro w2 hb2 hg2 hs2; have HW2 : Hid _ := xai hb2 hg2; clear hb2 hg2 hs2))
   | fail)
  go_ret2
  unfold RdPost12
  rw [HV.out]
  have hb2 := HW2.out.1
  rw [HQ.out.2.1] at hb2
  have e : (rdb data sz_ off m).length = q := by rw [rdb_len, HQ.out.1]
  refine ⟨some ⟨W1.heap.size + 1, 0, none⟩, q, ?_, grown_new HW.out.2.1 HW2.out.2 HW.out.2.2.1, rdb_byt HRL.out.2.2 _ _ _, ?_, fun _ => ⟨W1.heap.size + 1, rfl, HW.out.2.2.1, hb2⟩⟩
  ·simp only [e]; rfl
  ·simp only [e]; exact Nat.le_refl _
 ·have hl := rda_bad (off := off) (n := m) hz
  rw [← HR.out] at hl
  have HL : Hid _ := hl
  obtain rfl := HX.out.2.1 hz
  have HG1 : Hid _ := HX.out.2.2
  clear HX hl HR
  generalize knd (nos ns) i 1 = K at *
  have hzb : (K == 0) = false := by rw [beq_eq_false_iff_ne]; exact hz
  have hzb2 : (K != 0) = true := by simp [hz]
  simp only [NoV.val, nz12]
  go_wp2
  go_ret2
  unfold RdPost12
  rw [HL.out]
  exact ⟨none, 0, rfl, xgt HG1.out (xga _ _ none), fun x h => (by cases h), Nat.le_refl _, fun h => absurd h (Nat.lt_irrefl 0)⟩
def ex12 : List En := [⟨[97], 2, 0, 0, 0, 0, 0, [], [], 0, []⟩, ⟨[97, 47, 102], 1, 0, 0, 0, 0, 4, [120, 121], [], 0, []⟩, ⟨[108], 3, 0, 0, 0, 0, 0, [], [97], 0, []⟩]
theorem ex_knd0 : knd (canon ex12) 0 0 = 0 := by kernel_rfl
theorem ex_knd2 : knd (canon ex12) 0 2 = 0 := by kernel_rfl
theorem ex_lk0 : lkp (canon ex12) 0 [108] = (3, 0) := by kernel_rfl
theorem ex_lk1 : lkp (canon ex12) 0 [97] = (1, 0) := by kernel_rfl
theorem ex_lk2 : lkp (canon ex12) 1 [102] = (2, 0) := by kernel_rfl
theorem ex_n1 : ((canon ex12)[1]?).map No.k = some 2 := by kernel_rfl
theorem ex_n2 : ((canon ex12)[2]?).map No.k = some 1 := by kernel_rfl
theorem ex_n3 : ((canon ex12)[3]?).map (fun n => (n.k, n.target)) = some (3, [97]) := by kernel_rfl
theorem ex_rd : rda (canon ex12) 2 1 9 = ([121, 0, 0], 0) := by kernel_rfl
theorem ex_abs1 (W : World) : Calls Tryz.prog 84 #[.string ⟨#[108, 47, 102]⟩] W fun e w' => e = .returned (.bool false) ∧ W = w' := by
 go_enter Tryz.func84, Tryz.ntmps84
 go_wp2
 go_ret
 exact ⟨rfl, rfl⟩
theorem ex_abs2 (W : World) : Calls Tryz.prog 84 #[.string ⟨#[97]⟩] W fun e w' => e = .returned (.bool false) ∧ W = w' := by
 go_enter Tryz.func84, Tryz.ntmps84
 go_wp2
 go_ret
 exact ⟨rfl, rfl⟩
theorem ex_tn1 : Tn ⟨#[108, 47, 102]⟩ [[108], [102]] := ⟨by decide, ex_abs1, by rw [ByteArray.toList_eq]; kernel_rfl⟩
theorem ex_tn2 : Tn ⟨#[97]⟩ [[97]] := ⟨by decide, ex_abs2, by rw [ByteArray.toList_eq]; kernel_rfl⟩
theorem wcatch_idle (p q : Addr) (w : World) :
  CallsD Tryz.prog 53 #[.pointer (some p), .pointer (some q)] .returning w fun e u' w' => e = .returned (.tuple #[]) ∧ u' = .returning ∧ w' = w := by
 refine callsD_of_wpS Tryz.func53 rfl fun c₀ cs hu => ?_
 apply wpS_seq
 apply wpS_region
 simp [wpOpsS, go_sem, recoverD, hu, Tryz.ntmps53, Exit.thenS]
 apply wpS_seq
 apply wpS_region
 simp [wpOpsS, go_sem, Array.replicate, Exit.thenS]
 refine wpS_cond (t := false) (by simp [Act.eval, Array.replicate]) ?_
 simp only [Bool.false_eq_true, if_false]
 refine wpS_of_wp (wp_skip ?_)
 cases c₀
 simp_all [bodyPostS, results, Tryz.results53]
def exP (k : Nat) : Int := if k ≤ 1 then 0 else (k : Int) - 1
def exQ : Nat → List ByteArray
 | 0 => [⟨#[108]⟩, ⟨#[102]⟩]
 | 1 => [⟨#[97]⟩, ⟨#[102]⟩]
 | 2 => [⟨#[102]⟩]
 | _ => []
def exK (k : Nat) : Int := if k = 0 then 0 else 1
def msr (gw : Nat) (W : World) : Nat := 3 - (intOf ((W.cell? ⟨gw, 1, none⟩).getD undef) + intOf ((W.cell? ⟨gw, 3, none⟩).getD undef)).toNat
theorem msr_eq {w W : World} {gw mb : Nat} {p lk : Int} {left : List ByteArray} {la : Option Addr} {lc : Nat} (h : Wl w W gw mb p left lk la lc) : msr gw W = 3 - (p + lk).toNat := by
 unfold msr
 rw [h.box.c 1, h.box.c 3]
 rfl
theorem ex_at {ns : List NoV} (h : nos ns = canon ex12) {i : Nat} {v : Int} (hv : ((canon ex12)[i]?).map No.k = some v) : ∃ X, ns[i]? = some X ∧ X.k = v := by
 rw [← h] at hv
 unfold nos at hv
 rw [List.getElem?_map, Option.map_map] at hv
 cases hX : ns[i]? with
 | none => rw [hX] at hv; cases hv
 | some X => rw [hX] at hv; injection hv with hv; exact ⟨X, rfl, hv⟩
theorem ex_at3 {ns : List NoV} (h : nos ns = canon ex12) : ∃ X, ns[3]? = some X ∧ X.k = 3 ∧ X.target = ⟨#[97]⟩ := by
 have hv := ex_n3
 rw [← h] at hv
 unfold nos at hv
 rw [List.getElem?_map, Option.map_map] at hv
 cases hX : ns[3]? with
 | none => rw [hX] at hv; cases hv
 | some X =>
  rw [hX] at hv
  injection hv with hv
  injection hv with h1 h2
  refine ⟨X, rfl, h1, tl_inj ?_⟩
  have h2 : X.target.toList = [97] := h2
  rw [h2, ByteArray.toList_eq]
set_option maxHeartbeats 8000000 in
theorem pwalk_ex (w : World) (mb : Nat) (a : Option Addr) (n c mp : Nat) (ns : List NoV) (M : Md w mb a n c mp ns) (hns : nos ns = canon ex12) :
  Calls Tryz.prog 28 #[.pointer (some ⟨mb, 0, none⟩), .int .i64 0, .string ⟨#[108, 47, 102]⟩, .bool true] w fun e w' => e = .returned (.tuple #[.int .i64 2, .int .i64 0]) ∧ w.grownBy w' none := by
 have hmf : ∀ (fn : Fn) (first cap : Array Value) (w : World), (Instr.makeFunc fn first cap).run Tryz.prog w = .ok (.func fn first cap) w := fun _ _ _ _ => rfl
 have HM : Hid _ := xai M hns
 have hnd := fun W g => pnode12_any W mb a n c (.map (some mp)) ns (M.kept g).box (M.kept g).nos 0
 rw [hns, ex_knd0] at hnd
 clear M hns
 have g2 : w.grownBy ((w.alloc (.cells #[.int .i64 0] 3)).alloc (.cells #[.int .i64 0] 34)) none := xgt (xga _ _ none) (xga _ _ none)
 have bi := (Bx.new w 3 [.int .i64 0]).kept (xga _ (.cells #[.int .i64 0] 34) none)
 have be := Bx.new (w.alloc (.cells #[.int .i64 0] 3)) 34 [.int .i64 0]
 have hsz : (w.alloc (.cells #[.int .i64 0] 3)).heap.size = w.heap.size + 1 := by simp
 rw [hsz] at be
 have HB : Hid _ := xai g2 (xai bi be)
 clear g2 bi be hsz
 go_enter_defers Tryz.func28, Tryz.ntmps28
 go_wp2_with fail
 refine (hnd _ HB.out.1).mono ?_
 rintro e W1 ⟨X, rfl, -, -, g1⟩
 have HB1 : Hid _ := xai (xgt HB.out.1 g1) (xai (HB.out.2.1.kept g1) (HB.out.2.2.kept g1))
 clear g1 HB hnd
 have be1 : _ = some _ := HB1.out.2.2.c 0
 have fe1 := HB1.out.2.2.f 0
 have be2 : _ = some _ := (HB1.out.2.2.set 0 (.int .i64 0)).c 0
 generalize NoV.val X = vX
 go_wp2_with (go_at_call 55; refine (need_ok _).mono ?_; rintro e w' ⟨rfl, rfl⟩)
 have gS := grown_set W1 (w.heap.size + 1) 0 (.int .i64 0)
 have hsz1 : (W1.setCell ⟨w.heap.size + 1, 0, none⟩ (.int .i64 0)).heap.size = W1.heap.size := size_set _ _ _
 have g2 := grown_new HB1.out.1 gS (by omega)
 have hWl : Wl (W1.setCell ⟨w.heap.size + 1, 0, none⟩ (.int .i64 0)) ((W1.setCell ⟨w.heap.size + 1, 0, none⟩ (.int .i64 0)).alloc (.cells #[.pointer (some ⟨mb, 0, none⟩), .int .i64 0, .slice none 0 0, .int .i64 0] 106)) W1.heap.size mb 0 [] 0 none 0 := by
  have hb := Bx.new (W1.setCell ⟨w.heap.size + 1, 0, none⟩ (.int .i64 0)) 106 [.pointer (some ⟨mb, 0, none⟩), .int .i64 0, .slice none 0 0, .int .i64 0]
  rw [hsz1] at hb
  exact ⟨xga _ _ none, by rw [hsz1]; exact Nat.le_refl _, hb, ⟨rfl, fun h => absurd h (Nat.lt_irrefl 0)⟩, Nat.le_refl _⟩
 have HB2 : Hid _ := xai g2 (xai (HB1.out.2.1.but gS (by intro e; injection e with e; omega)) (xai (HB1.out.2.2.set 0 (.int .i64 0)) (HM.out.1.kept g2)))
 clear gS hsz1 g2 be1 fe1 be2 HB1
 generalize hW2 : W1.setCell ⟨w.heap.size + 1, 0, none⟩ (.int .i64 0) = W2 at *
 generalize hW3 : W2.alloc (.cells #[.pointer (some ⟨mb, 0, none⟩), .int .i64 0, .slice none 0 0, .int .i64 0] 106) = W3 at *
 clear hW2 hW3
 generalize W1.heap.size = gw at *
 clear W1
 refine (pturn_ok W2 W3 gw mb 0 0 [] none 0 hWl a n c mp ns HB2.out.2.2.2 ⟨#[108, 47, 102]⟩ ex_tn1.sz (ex_tn1.abs _) (by rw [HM.out.2]; exact ex_knd2) [[108], [102]] ex_tn1.spl (by decide) (Or.inl ⟨rfl, rfl, rfl⟩)).mono ?_
 rintro e W4 ⟨rfl, la4, lc4, hw4, -⟩
 have H4 : Hid (Wl W2 W4 gw mb (exP 0) (exQ 0) (exK 0) la4 lc4) := hw4
 clear hw4 hWl
 go_wp2_with fail
 go_loopw [] (fun wr => ∃ (k : Nat) (la : Option Addr) (lc : Nat), k ≤ 3 ∧ Hid (Wl W2 wr gw mb (exP k) (exQ k) (exK k) la lc)) (fun wr => msr gw wr)
 case atStart => exact ⟨0, la4, lc4, by omega, H4⟩
 case round =>
  obtain ⟨k, la, lc, hk, HK⟩ := hrel
  clear H4
  have c2 : _ = some _ := HK.out.box.c 2
  match k, hk with
  | 0, _ =>
   obtain ⟨X, hX, hX3, hXt⟩ := ex_at3 HM.out.2
   have hst := pstep_ok W2 wr gw mb 0 0 ⟨#[108]⟩ [⟨#[102]⟩] la lc HK.out a n c mp ns HB2.out.2.2.2 (by decide) 3 (by rw [HM.out.2, ByteArray.toList_eq]; exact ex_lk0) X hX (by decide) (fun _ => ⟨⟨[[97]], by rw [hXt]; exact ex_tn2, by decide⟩, by decide, by rw [HM.out.2]; exact ex_knd2, by decide, by decide⟩)
   have HXX : Hid _ := xai hX3 hXt
   clear hX hX3 hXt
   have c2 : wr.cell? ⟨gw, 2, none⟩ = some (.slice la 2 lc) := c2
   go_wp2_with fail
   refine hst.mono ?_
   rintro e W5 ⟨rfl, la5, lc5, -, ⟨h1, -⟩ | ⟨-, L, hT, hw5⟩⟩
   ·exact absurd HXX.out.1 h1
   ·have hL : L = [[97]] := by
     have h1 := hT.spl
     rw [HXX.out.2] at h1
     have h2 := ex_tn2.spl
     rw [h1] at h2
     injection h2
    subst hL
    have H5 : Hid (Wl W2 W5 gw mb (exP 1) (exQ 1) (exK 1) la5 lc5) := hw5
    have HMS : Hid _ := xai (msr_eq HK.out) (msr_eq hw5)
    clear hw5 hT hst HK
    go_wp2
    refine ⟨⟨1, la5, lc5, by omega, H5⟩, ?_⟩
    rw [HMS.out.1, HMS.out.2]; decide
  | 1, _ =>
   obtain ⟨X, hX, hXk⟩ := ex_at HM.out.2 ex_n1
   have hst := pstep_ok W2 wr gw mb 0 1 ⟨#[97]⟩ [⟨#[102]⟩] la lc HK.out a n c mp ns HB2.out.2.2.2 (by decide) 1 (by rw [HM.out.2, ByteArray.toList_eq]; exact ex_lk1) X hX (by decide) (fun h => by rw [hXk] at h; exact absurd h (by decide))
   have HXX : Hid _ := hXk
   clear hX hXk
   have c2 : wr.cell? ⟨gw, 2, none⟩ = some (.slice la 2 lc) := c2
   go_wp2_with fail
   refine hst.mono ?_
   rintro e W5 ⟨rfl, la5, lc5, -, ⟨-, hw5⟩ | ⟨h1, -⟩⟩
   ·have H5 : Hid (Wl W2 W5 gw mb (exP 2) (exQ 2) (exK 2) la5 lc5) := hw5
    have HMS : Hid _ := xai (msr_eq HK.out) (msr_eq hw5)
    clear hw5 hst HK
    go_wp2
    refine ⟨⟨2, la5, lc5, by omega, H5⟩, ?_⟩
    rw [HMS.out.1, HMS.out.2]; decide
   ·rw [HXX.out] at h1; exact absurd h1 (by decide)
  | 2, _ =>
   obtain ⟨X, hX, hXk⟩ := ex_at HM.out.2 ex_n2
   have hst := pstep_ok W2 wr gw mb 1 1 ⟨#[102]⟩ [] la lc HK.out a n c mp ns HB2.out.2.2.2 (by decide) 2 (by rw [HM.out.2, ByteArray.toList_eq]; exact ex_lk2) X hX (by decide) (fun h => by rw [hXk] at h; exact absurd h (by decide))
   have HXX : Hid _ := hXk
   clear hX hXk
   have c2 : wr.cell? ⟨gw, 2, none⟩ = some (.slice la 1 lc) := c2
   go_wp2_with fail
   refine hst.mono ?_
   rintro e W5 ⟨rfl, la5, lc5, -, ⟨-, hw5⟩ | ⟨h1, -⟩⟩
   ·have H5 : Hid (Wl W2 W5 gw mb (exP 3) (exQ 3) (exK 3) la5 lc5) := hw5
    have HMS : Hid _ := xai (msr_eq HK.out) (msr_eq hw5)
    clear hw5 hst HK
    go_wp2
    refine ⟨⟨3, la5, lc5, by omega, H5⟩, ?_⟩
    rw [HMS.out.1, HMS.out.2]; decide
   ·rw [HXX.out] at h1; exact absurd h1 (by decide)
  | 3, _ =>
   have c2 : wr.cell? ⟨gw, 2, none⟩ = some (.slice la 0 lc) := c2
   have c1 : wr.cell? ⟨gw, 1, none⟩ = some (.int .i64 2) := HK.out.box.c 1
   have bi := HB2.out.2.1.kept HK.out.gr
   have be := HB2.out.2.2.1.kept HK.out.gr
   have i0 : _ = some _ := bi.c 0
   have if0 := bi.f 0
   have hg1 := grown_set wr w.heap.size 0 (.int .i64 2)
   have be2 := be.but hg1 (by intro e; injection e with e; omega)
   have e0 : _ = some _ := be2.c 0
   have ef0 := be2.f 0
   have hg2 := grown_set (wr.setCell ⟨w.heap.size, 0, none⟩ (.int .i64 2)) (w.heap.size + 1) 0 (.int .i64 0)
   have HF : Hid _ := xai ((bi.set 0 (.int .i64 2)).but hg2 (by intro e; injection e with e; omega)) (xai (be2.set 0 (.int .i64 0)) (grown_new (grown_new (xgt HB2.out.1 HK.out.gr) hg1 (Nat.le_refl _)) hg2 (by omega)))
   clear bi be hg1 be2 hg2 HK
   go_wp2_with fail
   refine leaves_cons (f := 53) (args := #[.pointer (some ⟨w.heap.size, 0, none⟩), .pointer (some ⟨w.heap.size + 1, 0, none⟩)]) (by simp) (by simp [go_sem]) ?_
   refine (wcatch_idle ⟨w.heap.size, 0, none⟩ ⟨w.heap.size + 1, 0, none⟩ _).mono ?_
   rintro e u' w'' ⟨rfl, rfl, rfl⟩
   obtain ⟨k1, k2, k3⟩ := HF.out
   have k4 := k1.c 0
   have k5 := k2.c 0
   generalize (wr.setCell ⟨w.heap.size, 0, none⟩ (.int .i64 2)).setCell ⟨w.heap.size + 1, 0, none⟩ (.int .i64 0) = WF at *
   simp only [List.set_cons_zero, List.getElem?_cons_zero] at k4 k5
   simp [Leaves, settle, results, Tryz.results28, go_sem, k4, k5]
   exact k3
theorem wpL_take {P : Program} {ops : Array Oper} {Q : Exit → Act → World → Prop} {a : Act} {w : World} {rest : List Oper} {o : Oper} (v : Value) (hw : Region.wanted o (yielded ops a.tmps) = true) (hr : (execOp a.eval o).run P w = .ok (.value v) w)
  (h : wpList P ops Q rest (a.put o.dst v) w) : wpList P ops Q (o :: rest) a w :=
 BigFrame.wpList_want hw fun K hK => by unfold Oper.wp; rw [hr, Oper.upon_value]; exact hK _ _ h
theorem wpL_skip {P : Program} {ops : Array Oper} {Q : Exit → Act → World → Prop} {a : Act} {w : World} {rest : List Oper} {o : Oper} (hw : Region.wanted o (yielded ops a.tmps) = false)
  (h : wpList P ops Q rest (a.put o.dst undef) w) : wpList P ops Q (o :: rest) a w := by
 unfold wpList
 rw [if_neg (by rw [hw]; simp)]
 exact h
end Go.Proofs.YtlehncfehoelbaaGreatDoor
namespace Go.Proofs.YtlehncfehoelbaaGreatDoor
open Go.RowKit Go.Shelf
set_option maxRecDepth 100000
set_option linter.unusedSimpArgs false
set_option linter.unusedVariables false
def renA : Ren := ⟨fun k => if k = 6 then 99 else if k = 14 then 120 else if k = 15 then 118 else if k = 20 then 140 else if k = 21 then 141 else if k = 22 then 142 else if k = 23 then 143 else if k = 24 then 144 else if k = 25 then 145 else if k = 26 then 146 else if k = 27 then 147 else if k = 28 then 138 else if k = 29 then 139 else if k = 46 then 159 else if k = 47 then 155 else if k = 48 then 156 else if k = 49 then 160 else if k = 50 then 161 else if k = 57 then 166 else k, fun k => if k = 0 then 0 else if k = 3 then 3 else if k = 4 then 4 else if k = 5 then 5 else if k = 9 then 9 else if k = 22 then 28 else if k = 24 then 45 else if k = 25 then 155 else if k = 39 then 147 else if k = 45 then 194 else if k = 46 then 195 else if k = 50 then 135 else if k = 53 then 176 else if k = 55 then 179 else if k = 66 then 211 else if k = 70 then 215 else if k = 76 then 219 else if k = 77 then 26 else k, fun k => k⟩
set_option maxHeartbeats 8000000 in
set_option maxRecDepth 100000 in
theorem laysA : SlLaysF0.n6 Tryz.prog renA := by
 constructor
 ·kernel_rfl
 ·exact ⟨Tryz.f99.name, by kernel_rfl, by kernel_rfl⟩
 ·exact ⟨Tryz.f120.name, by kernel_rfl, by kernel_rfl⟩
 ·kernel_rfl
 ·exact ⟨Tryz.f140.name, by kernel_rfl, by kernel_rfl⟩
 ·exact ⟨Tryz.f141.name, by kernel_rfl, by kernel_rfl⟩
 ·exact ⟨Tryz.f142.name, by kernel_rfl, by kernel_rfl⟩
 ·exact ⟨Tryz.f143.name, by kernel_rfl, by kernel_rfl⟩
 ·exact ⟨Tryz.f144.name, by kernel_rfl, by kernel_rfl⟩
 ·exact ⟨Tryz.f145.name, by kernel_rfl, by kernel_rfl⟩
 ·exact ⟨Tryz.f146.name, by kernel_rfl, by kernel_rfl⟩
 ·exact ⟨Tryz.f147.name, by kernel_rfl, by kernel_rfl⟩
 ·kernel_rfl
 ·kernel_rfl
 ·exact ⟨Tryz.f159.name, by kernel_rfl, by kernel_rfl⟩
 ·kernel_rfl
 ·kernel_rfl
 ·exact ⟨Tryz.f160.name, by kernel_rfl, by kernel_rfl⟩
 ·exact ⟨Tryz.f161.name, by kernel_rfl, by kernel_rfl⟩
 ·exact ⟨Tryz.f166.name, by kernel_rfl, by kernel_rfl⟩
 ·kernel_rfl
 ·intro w; kernel_rfl
 ·intro w; kernel_rfl
 ·intro w; kernel_rfl
 ·kernel_rfl
 ·intro w; kernel_rfl
 ·intro w; kernel_rfl
 ·intro w; kernel_rfl
 ·kernel_rfl
 ·intro w; kernel_rfl
 ·intro w; kernel_rfl
 ·intro w; kernel_rfl
 ·kernel_rfl
 ·intro w; kernel_rfl
 ·intro w; kernel_rfl
 ·intro w; kernel_rfl
 ·kernel_rfl
 ·intro w; kernel_rfl
 ·intro w; kernel_rfl
 ·intro w; kernel_rfl
 ·kernel_rfl
 ·intro w; kernel_rfl
 ·intro w; kernel_rfl
 ·intro w; kernel_rfl
 ·kernel_rfl
 ·intro w; kernel_rfl
 ·intro w; kernel_rfl
 ·intro w; kernel_rfl
 ·kernel_rfl
 ·intro w; kernel_rfl
 ·intro w; kernel_rfl
 ·intro w; kernel_rfl
 ·kernel_rfl
 ·intro w; kernel_rfl
 ·intro w; kernel_rfl
 ·intro w; kernel_rfl
 ·kernel_rfl
 ·intro w; kernel_rfl
 ·intro w; kernel_rfl
 ·intro w; kernel_rfl
 ·kernel_rfl
 ·intro w; kernel_rfl
 ·intro w; kernel_rfl
 ·intro w; kernel_rfl
 ·kernel_rfl
 ·intro w; kernel_rfl
 ·intro w; kernel_rfl
 ·intro w; kernel_rfl
 ·kernel_rfl
 ·intro w; kernel_rfl
 ·intro w; kernel_rfl
 ·intro w; kernel_rfl
 ·kernel_rfl
 ·intro w; kernel_rfl
 ·intro w; kernel_rfl
 ·intro w; kernel_rfl
 ·kernel_rfl
 ·intro w; kernel_rfl
 ·intro w; kernel_rfl
 ·intro w; kernel_rfl
 ·kernel_rfl
 ·intro w; kernel_rfl
 ·intro w; kernel_rfl
 ·intro w; kernel_rfl
 ·kernel_rfl
 ·intro w; kernel_rfl
 ·intro w; kernel_rfl
 ·intro w; kernel_rfl
def renI : Ren := ⟨fun k => if k = 6 then 96 else if k = 14 then 117 else if k = 15 then 118 else if k = 20 then 130 else if k = 21 then 131 else if k = 22 then 132 else if k = 23 then 133 else if k = 24 then 134 else if k = 25 then 135 else if k = 26 then 136 else if k = 27 then 137 else if k = 28 then 138 else if k = 29 then 139 else if k = 46 then 154 else if k = 47 then 155 else if k = 48 then 156 else if k = 49 then 157 else if k = 50 then 158 else if k = 57 then 165 else k, fun k => if k = 0 then 0 else if k = 3 then 3 else if k = 4 then 4 else if k = 5 then 5 else if k = 9 then 9 else if k = 22 then 83 else if k = 24 then 3 else if k = 25 then 152 else if k = 39 then 147 else if k = 45 then 194 else if k = 46 then 195 else if k = 50 then 135 else if k = 53 then 176 else if k = 55 then 179 else if k = 66 then 211 else if k = 70 then 215 else if k = 76 then 219 else if k = 77 then 26 else k, fun k => k⟩
set_option maxHeartbeats 8000000 in
set_option maxRecDepth 100000 in
theorem laysI : SlLaysF.n6 Tryz.prog renI := by
 constructor
 ·kernel_rfl
 ·exact ⟨Tryz.f96.name, by kernel_rfl, by kernel_rfl⟩
 ·exact ⟨Tryz.f117.name, by kernel_rfl, by kernel_rfl⟩
 ·kernel_rfl
 ·exact ⟨Tryz.f130.name, by kernel_rfl, by kernel_rfl⟩
 ·exact ⟨Tryz.f131.name, by kernel_rfl, by kernel_rfl⟩
 ·exact ⟨Tryz.f132.name, by kernel_rfl, by kernel_rfl⟩
 ·exact ⟨Tryz.f133.name, by kernel_rfl, by kernel_rfl⟩
 ·exact ⟨Tryz.f134.name, by kernel_rfl, by kernel_rfl⟩
 ·exact ⟨Tryz.f135.name, by kernel_rfl, by kernel_rfl⟩
 ·exact ⟨Tryz.f136.name, by kernel_rfl, by kernel_rfl⟩
 ·exact ⟨Tryz.f137.name, by kernel_rfl, by kernel_rfl⟩
 ·kernel_rfl
 ·kernel_rfl
 ·exact ⟨Tryz.f154.name, by kernel_rfl, by kernel_rfl⟩
 ·kernel_rfl
 ·kernel_rfl
 ·exact ⟨Tryz.f157.name, by kernel_rfl, by kernel_rfl⟩
 ·exact ⟨Tryz.f158.name, by kernel_rfl, by kernel_rfl⟩
 ·exact ⟨Tryz.f165.name, by kernel_rfl, by kernel_rfl⟩
 ·kernel_rfl
 ·intro w; kernel_rfl
 ·intro w; kernel_rfl
 ·intro w; kernel_rfl
 ·kernel_rfl
 ·intro w; kernel_rfl
 ·intro w; kernel_rfl
 ·intro w; kernel_rfl
 ·kernel_rfl
 ·intro w; kernel_rfl
 ·intro w; kernel_rfl
 ·intro w; kernel_rfl
 ·kernel_rfl
 ·intro w; kernel_rfl
 ·intro w; kernel_rfl
 ·intro w; kernel_rfl
 ·kernel_rfl
 ·intro w; kernel_rfl
 ·intro w; kernel_rfl
 ·intro w; kernel_rfl
 ·kernel_rfl
 ·intro w; kernel_rfl
 ·intro w; kernel_rfl
 ·intro w; kernel_rfl
 ·intro w; kernel_rfl
 ·intro w; kernel_rfl
 ·kernel_rfl
 ·intro w; kernel_rfl
 ·intro w; kernel_rfl
 ·intro w; kernel_rfl
 ·kernel_rfl
 ·intro w; kernel_rfl
 ·intro w; kernel_rfl
 ·intro w; kernel_rfl
 ·kernel_rfl
 ·intro w; kernel_rfl
 ·intro w; kernel_rfl
 ·intro w; kernel_rfl
 ·kernel_rfl
 ·intro w; kernel_rfl
 ·intro w; kernel_rfl
 ·intro w; kernel_rfl
 ·kernel_rfl
 ·intro w; kernel_rfl
 ·intro w; kernel_rfl
 ·intro w; kernel_rfl
 ·kernel_rfl
 ·intro w; kernel_rfl
 ·intro w; kernel_rfl
 ·intro w; kernel_rfl
 ·kernel_rfl
 ·intro w; kernel_rfl
 ·intro w; kernel_rfl
 ·intro w; kernel_rfl
 ·kernel_rfl
 ·intro w; kernel_rfl
 ·intro w; kernel_rfl
 ·intro w; kernel_rfl
 ·kernel_rfl
 ·intro w; kernel_rfl
 ·intro w; kernel_rfl
 ·intro w; kernel_rfl
 ·kernel_rfl
 ·intro w; kernel_rfl
 ·intro w; kernel_rfl
 ·intro w; kernel_rfl
 ·kernel_rfl
 ·intro w; kernel_rfl
 ·intro w; kernel_rfl
 ·intro w; kernel_rfl
end Go.Proofs.YtlehncfehoelbaaGreatDoor
namespace Go.Proofs.YtlehncfehoelbaaGreatDoor
open Go.RowKit Go.Shelf Go.Sort
set_option maxRecDepth 100000
set_option linter.unusedSimpArgs false
set_option linter.unusedVariables false
theorem holds_own {α : Type} [Inhabited α] {W : World} {base e s g n cap : Nat} {enc : α → Value} {d : Array α} (h : W.ownsRow base e s (.slice (some ⟨g, 0, none⟩) n cap) n (d.toList.map enc)) : Holds enc W g 0 d := by
 intro j hj
 have hj' : j < (d.toList.map enc).length := by simpa using hj
 have hl := h.1
 refine ⟨?_, by rw [Nat.zero_add]; exact h.frozenAt j⟩
 rw [Nat.zero_add, h.cellAt j (by omega), List.getElem?_map]
 have : d.toList[j]? = some d[j]! := by
  rw [Array.getElem?_toList, Array.getElem?_eq_getElem hj, getElem!_pos d j hj]
 rw [this]
 rfl
theorem sorted_grown {α : Type} [Inhabited α] {W : World} {g n : Nat} {os : Array Obj} {enc : α → Value} (d : Array α) : W.grownBy (grow (putRow enc (Sort.ahead W n) g 0 d) os) (some g) := by
 refine ⟨rfl, rfl, rfl, by simp, fun k hk hne => ?_⟩
 rw [heap_grow_old _ _ (by simpa using hk)]
 have : g ≠ k := fun e => hne (by rw [e])
 simp [putRow, mapBlock, Sort.ahead, Array.getElem?_modify, this]
theorem sorted_heap {α : Type} [Inhabited α] {W : World} {g n : Nat} {os : Array Obj} {cur : Array Value} {e : TypeId} {fr : Nat × Nat} {enc : α → Value} (d : Array α) (hb : W.heap[g]? = some (.cells cur e fr)) :
  (grow (putRow enc (Sort.ahead W n) g 0 d) os).heap[g]? = some (.cells (putCells enc 0 d cur) e fr) := by
 have hg : g < W.heap.size := (Array.getElem?_eq_some_iff.1 hb).1
 rw [heap_grow_old _ _ (by simpa using hg)]
 simp [putRow, mapBlock, Sort.ahead, Array.getElem?_modify, hb, onCells]
theorem sorted_take {α : Type} [Inhabited α] {enc : α → Value} (cur : Array Value) (d : Array α) (h : d.size ≤ cur.size) : (putCells enc 0 d cur).toList.take d.size = d.toList.map enc := by
 apply List.ext_getElem?
 intro j
 by_cases hj : j < d.size
 ·have h1 : d.toList[j]? = some d[j]! := by rw [Array.getElem?_toList, Array.getElem?_eq_getElem hj, getElem!_pos d j hj]
  rw [List.getElem?_take_of_lt hj, Array.getElem?_toList, List.getElem?_map, h1]
  simp [putCells, hj, Array.getElem?_mapIdx, Array.getElem?_eq_getElem (show j < cur.size by omega)]
 ·rw [List.getElem?_take_eq_none (by omega), List.getElem?_map, List.getElem?_eq_none (by simp; omega)]
  rfl
theorem sorted_own {α : Type} [Inhabited α] {W : World} {base e s g n cap m : Nat} {os : Array Obj} {enc : α → Value} {d d' : Array α} (h : W.ownsRow base e s (.slice (some ⟨g, 0, none⟩) n cap) n (d.toList.map enc)) (hs : d'.size = d.size) :
  (grow (putRow enc (Sort.ahead W m) g 0 d') os).ownsRow base e s (.slice (some ⟨g, 0, none⟩) n cap) n (d'.toList.map enc) := by
 have hl := h.1
 rw [List.length_map, Array.length_toList] at hl
 rcases h.2 with ⟨h0, _⟩ | ⟨g', cap', cur, hv, hg, hb, hn, hcap, hsz, ht⟩
 ·cases h0
 ·injection hv with h1 h2 h3
  injection h1 with h1
  injection h1 with h1
  subst h1 h3
  refine ⟨by rw [List.length_map, Array.length_toList, hs, hl], .inr ⟨g, cap, _, rfl, hg, sorted_heap d' hb, hn, hcap, by simp [putCells, hsz], ?_⟩⟩
  rw [← hl, ← hs]
  exact sorted_take cur d' (by rw [hs, hl, hsz]; exact Nat.mul_le_mul_right s hn)
theorem flat_eq {α : Type} [Inhabited α] (enc : α → List Value) (k : Nat) (hk : ∀ x, (enc x).length = k) (h0 : 0 < k) (d : Array α) : (flatK enc k d).toList = d.toList.flatMap enc := by
 apply List.ext_getElem?
 intro t
 by_cases ht : t < d.size * k
 ·have h1 : (flatK enc k d).toList[t]? = some (flatK enc k d)[t]! := by
   have : t < (flatK enc k d).size := by rw [size_flatK]; exact ht
   rw [Array.getElem?_toList, Array.getElem?_eq_getElem this, getElem!_pos _ t this]
  rw [h1, get_flatK enc k d t ht]
  have hq : t / k < d.size := Nat.div_lt_of_lt_mul (by rw [Nat.mul_comm]; exact ht)
  have hm : t % k < k := Nat.mod_lt _ h0
  have h2 := flat_at enc k hk d.toList (t / k) (t % k) d[t / k]! (by rw [Array.getElem?_toList, Array.getElem?_eq_getElem hq, getElem!_pos d _ hq]) hm
  rw [show t / k * k + t % k = t by rw [Nat.mul_comm]; exact Nat.div_add_mod t k] at h2
  rw [h2, getElem!_pos (enc d[t / k]!) (t % k) (by rw [hk]; exact hm), List.getElem?_eq_getElem (by rw [hk]; exact hm)]
 ·rw [List.getElem?_eq_none (by rw [Array.length_toList, size_flatK]; omega), List.getElem?_eq_none (by rw [flat_len enc k hk, Array.length_toList]; omega)]
theorem holdsK_own {α : Type} [Inhabited α] {W : World} {base e g n cap k : Nat} {enc : α → List Value} (hk : ∀ x, (enc x).length = k) (h0 : 0 < k) {d : Array α} (h : W.ownsRow base e k (.slice (some ⟨g, 0, none⟩) n cap) n (d.toList.flatMap enc)) : HoldsK enc k W g 0 d := by
 rw [← flat_eq enc k hk h0 d] at h
 exact holds_own (enc := id) (by simpa using h)
theorem sortedK_own {α : Type} [Inhabited α] {W : World} {base e g n cap m k : Nat} {os : Array Obj} {enc : α → List Value} (hk : ∀ x, (enc x).length = k) (h0 : 0 < k) {d d' : Array α} (h : W.ownsRow base e k (.slice (some ⟨g, 0, none⟩) n cap) n (d.toList.flatMap enc)) (hs : d'.size = d.size) :
  (sortWorldK enc k W g 0 m d' os).ownsRow base e k (.slice (some ⟨g, 0, none⟩) n cap) n (d'.toList.flatMap enc) := by
 rw [← flat_eq enc k hk h0 d] at h
 rw [← flat_eq enc k hk h0 d']
 have := sorted_own (enc := id) (m := m) (os := os) (d := flatK enc k d) (d' := flatK enc k d') (by simpa using h) (by rw [size_flatK, size_flatK, hs])
 rw [List.map_id] at this
 exact this
theorem sortedK_grown {α : Type} [Inhabited α] {W : World} {g m k : Nat} {os : Array Obj} {enc : α → List Value} (d : Array α) : W.grownBy (sortWorldK enc k W g 0 m d os) (some g) := sorted_grown (enc := id) (flatK enc k d)
theorem perm_list {α : Type} [Inhabited α] {d d' : Array α} (h : PermIn 0 d.size d d') : d'.toList.Perm d.toList := by
 have := h.2.2
 rw [Array.extract_size, show d'.extract 0 d.size = d' by rw [← h.1, Array.extract_size]] at this
 exact this
theorem sorted_list {α : Type} [Inhabited α] {lt : α → α → Bool} {d : Array α} {n : Nat} (h : SortedIn lt 0 n d) (hn : d.size = n) : d.toList.Pairwise fun x y => lt y x = false := by
 rw [List.pairwise_iff_getElem]
 intro i j hi hj hij
 rw [Array.length_toList] at hi hj
 have := h i j (Nat.zero_le _) hij (by omega)
 rw [getElem!_pos d i hi, getElem!_pos d j hj] at this
 simpa using this
end Go.Proofs.YtlehncfehoelbaaGreatDoor
namespace Go.Proofs.YtlehncfehoelbaaGreatDoor
open Go.RowKit
set_option maxRecDepth 100000
theorem dn_nodup {l : List Atr} (D : Dn l) : (l.map Atr.n).Nodup := by
 unfold List.Nodup
 rw [List.pairwise_iff_getElem]
 intro i j hi hj hij e
 rw [List.length_map] at hi hj
 rw [List.getElem_map, List.getElem_map] at e
 have := D i j l[i] l[j] (List.getElem?_eq_getElem hi) (List.getElem?_eq_getElem hj) e
 omega
theorem srt_of_perm {l m : List Atr} (D : Dn l) (p : m.Perm l) (s : m.Pairwise fun x y => ¬ ctx y.n x.n < 0) : m = srt l := by
 have nd : (m.map Atr.n).Nodup := (p.map Atr.n).nodup_iff.2 (dn_nodup D)
 have h1 : m.Pairwise alt := by
  have nd2 : m.Pairwise fun x y => x.n ≠ y.n := List.pairwise_map.1 nd
  refine (nd2.and s).imp ?_
  rintro x y ⟨h1, h2⟩
  unfold alt
  rcases ctx_val x.n y.n with e | e | e
  ·exact e
  ·exact absurd (ctx_eq e) h1
  ·rw [ctx_flip, e] at h2
   exact absurd (by decide) h2
 obtain ⟨h3, h4⟩ := srt_facts D
 exact sorted_eqG alt_irr alt_tr h1 h3 fun a => by rw [h4]; exact p.mem_iff
end Go.Proofs.YtlehncfehoelbaaGreatDoor
namespace Go.Proofs.YtlehncfehoelbaaGreatDoor
open Go.RowKit Go.Shelf Go.Sort
set_option maxRecDepth 100000
set_option linter.unusedSimpArgs false
set_option linter.unusedVariables false
theorem pnode1_any (X Y : AtV) (W : World) : Calls Tryz.prog 100 #[.agg (avc X).toArray, .agg (avc Y).toArray] W fun e w' => e = .returned (.int .i64 (ctx X.n.toList Y.n.toList)) ∧ ∃ q os', w' = grow (W.drewN q) os' := by
 obtain ⟨xn, xa, xl, xc, xv⟩ := X
 obtain ⟨yn, ya, yl, yc, yv⟩ := Y
 simp only [avc]
 have hcon := fun W' => scompare_any xn yn W'
 generalize ctx xn.toList yn.toList = r at *
 go_enter Tryz.func100, Tryz.ntmps100
 go_wp2_with (go_at_call 101; refine (hcon _).mono ?_; rintro e w' ⟨rfl, rfl⟩)
 go_ret
 exact ⟨rfl, 0, _, by rw [alloc_eq_grow, alloc_eq_grow, grow_grow]; rfl⟩
theorem swo_ctx : SWO (ltOf fun x y : AtV => ctx x.n.toList y.n.toList) where
 irrefl x := decide_eq_false (by show ¬ ctx x.n.toList x.n.toList < 0; rw [ctx_self]; decide)
 trans x y z h1 h2 := by
  unfold ltOf at *
  rw [decide_eq_true_iff] at *
  rw [ctx_neg] at *
  exact ctx_trans h1 h2
 ntrans x y z h1 h2 := by
  unfold ltOf at *
  rw [decide_eq_false_iff_not] at *
  rw [ctx_neg] at *
  intro h3
  rcases ctx_val x.n.toList y.n.toList with e | e | e
  ·exact h1 e
  ·rw [ctx_eq e] at h3; exact h2 h3
  ·have e1 : ctx y.n.toList x.n.toList = -1 := by rw [ctx_flip, e]
   exact h2 (ctx_trans e1 h3)
structure Ar (W : World) (base : Nat) (v : Value) (out : List AtV) : Prop where
 own : W.ownsRow base 45 2 v out.length (out.flatMap avc)
 rows : ∀ A ∈ out, OwnB W base A.a A.len A.cap A.v
theorem Ar.kept {W W' : World} {base : Nat} {v : Value} {out : List AtV} (h : Ar W base v out) (g : W.grownBy W' none) : Ar W' base v out := ⟨owns_kept11 h.own g, fun A hA => (h.rows A hA).kept g⟩
theorem Ar.other {W W' : World} {base b e s n : Nat} {v u : Value} {out : List AtV} {ys : List Value} (h : Ar W base v out) (ho : W.ownsRow b e s u n ys) (h1 : 45 ≠ e) (h2 : 5 ≠ e) (g : W.grownBy W' u.ownBlock) : Ar W' base v out := ⟨h.own.kept g (owns_ne h.own ho h1), fun A hA => (h.rows A hA).other ho h2 g⟩
theorem Ar.low {W : World} {base b : Nat} {v : Value} {out : List AtV} (h : Ar W base v out) (hb : b ≤ base) : Ar W b v out := ⟨owns_low11 h.own hb, fun A hA => (h.rows A hA).low hb⟩
theorem Ar.bx {W W' : World} {base g T : Nat} {cs : List Value} {v : Value} {out : List AtV} (h : Ar W base v out) (hb : Bx W g T cs) (h1 : T ≠ 45) (h2 : T ≠ 5) (k : W.grownBy W' (some g)) : Ar W' base v out :=
 ⟨h.own.kept k (.inr (bx_ne hb h.own h1).symm), fun A hA => ⟨(h.rows A hA).own.kept k (.inr (bx_ne hb (h.rows A hA).own h2).symm), (h.rows A hA).byt⟩⟩
theorem Cp.ar {w W : World} {v : Value} {out : List AtV} (h : Cp w W v out) : Ar W w.heap.size v out := ⟨h.own, h.rows⟩
def SoPost (W : World) (base : Nat) (v : Value) (out : List AtV) (e : Ending) (W' : World) : Prop := e = .returned (.tuple #[]) ∧ ∃ out', Ar W' base v out' ∧ out'.Perm out ∧ (out'.Pairwise fun x y => ¬ ctx y.n.toList x.n.toList < 0) ∧ W.grownBy W' v.ownBlock
theorem psorta_any (W : World) (base : Nat) (v : Value) (out : List AtV) (hC : Ar W base v out) (hn : out.length ≤ 100000) : Calls Tryz.prog 99 #[v, .func (.func 100) #[] #[]] W (SoPost W base v out) := by
 rcases hC.own.2 with ⟨rfl, h0⟩ | ⟨g, cap, cur, rfl, hg, hh, hc, hm, hs, ht⟩
 ·obtain rfl : out = [] := List.eq_nil_of_length_eq_zero h0
  have h := AnyF.slices_SortFunc_none laysA none 0 (.func (.func 100) #[] #[]) W
  change Calls Tryz.prog 99 _ _ _ at h
  refine h.mono ?_
  rintro e w' ⟨rfl, rfl⟩
  exact ⟨rfl, [], hC, List.Perm.refl _, List.Pairwise.nil, World.grownBy.refl _ _⟩
 ·haveI : Inhabited AtV := ⟨⟨⟨#[]⟩, none, 0, 0, []⟩⟩
  have eg : ∀ args w, (callFunc 100 args).run Tryz.prog w = .ok (.enter 100 args) w := enters_of Tryz.func100 (by kernel_rfl) rfl
  have hown := hC.own
  have hsz : out.toArray.size = out.length := by simp
  have hH : HoldsK avc 2 W g 0 out.toArray := holdsK_own (k := 2) (enc := avc) (fun _ => rfl) (by decide) (d := out.toArray) (by simpa using hown)
  have hcon := AnyQ.slices_SortFunc laysA 2 (fun w => by kernel_rfl) (fun w => by kernel_rfl) avc (fun _ => rfl) (fun x v hv => by simp [avc] at hv; rcases hv with rfl | rfl <;> rfl) (fun x y => ctx x.n.toList y.n.toList) swo_ctx 100 #[] g 0 cap out.toArray W eg (fun _ _ _ _ x y => pnode1_any x y _) hH (Array.getElem?_eq_some_iff.1 hh).1 (by rw [hsz]; omega)
  rw [hsz] at hcon
  change Calls Tryz.prog 99 _ _ _ at hcon
  refine hcon.mono ?_
  rintro e w' ⟨rfl, d', n, os, hp, hst, rfl⟩
  rw [← hsz] at hp hst
  have hd : d'.size = out.toArray.size := hp.1
  have hpl : d'.toList.Perm out := by have := perm_list hp; simpa using this
  have hl : d'.toList.length = out.length := hpl.length_eq
  have hgr : W.grownBy (sortWorldK avc 2 W g 0 n d' os) (some g) := sortedK_grown d'
  refine ⟨rfl, d'.toList, ⟨?_, fun A hA => (hC.rows A (hpl.mem_iff.1 hA)).other hC.own (by decide) hgr⟩, hpl, ?_, hgr⟩
  ·rw [hl]
   exact sortedK_own (k := 2) (enc := avc) (fun _ => rfl) (by decide) (d := out.toArray) (by simpa using hown) hd
  ·refine (sorted_list hst hd).imp ?_
   intro x y h
   unfold ltOf at h
   exact of_decide_eq_false h
end Go.Proofs.YtlehncfehoelbaaGreatDoor
namespace Go.Proofs.YtlehncfehoelbaaGreatDoor
open Go.RowKit
set_option maxRecDepth 100000
set_option linter.unusedSimpArgs false
set_option linter.unusedVariables false
def plV : Value → Bool
 | .int _ _ => true
 | .string _ => true
 | .slice _ _ _ => true
 | _ => false
theorem wpList_store1 {P : Program} {ops : Array Oper} {rest : List Oper} {o : Oper} {a : Act} {w : World} {Q : Exit → Act → World → Prop} (hgd : o.guard = none) (ty : TypeId) (x y : Operand) (ho : o.op = .store ty x y)
  (g i : Nat) (v : Value) (hx : a.eval x = .pointer (some ⟨g, i, none⟩)) (hy : a.eval y = v) {T : TypeId} {old : List Value} (hb : Bx w g T old) (hi : i < old.length) (h1 : plV v = true) (hs : ∀ w, (Go.sizeOf ty).run P w = .ok 1 w)
  (h : ∀ W', Hid (Bx W' g T (old.set i v)) → Hid (w.grownBy W' (some g)) → wpList P ops Q rest (a.put o.dst undef) W') : wpList P ops Q (o :: rest) a w := by
 refine wpList_plain hgd fun K hK => ?_
 have c := hb.c i
 rw [List.getElem?_eq_getElem hi] at c
 have f := hb.f i
 unfold Oper.wp
 simp only [execOp, ho, hx, hy]
 cases v <;> first
  | (simp [plV] at h1; done)
  | (simp [hs, c, f, go_sem, Result.andThen]
     exact hK _ _ (h _ (hb.set i _) (grown_set _ _ _ _)))
end Go.Proofs.YtlehncfehoelbaaGreatDoor
