/- What the document's Chunk tells lies in the image, or in new memory. The document's Slice. The program's Slice and Decode, of any arguments. The document's Decode. -/
import Derived.Maps.AppendAt
import Derived.Test.YtkkigpobhagnfaaD02
import Derived.Test.YtkkigpobhagnfaaK08
import Derived.Test.YtkkigpobhagnfaaK10
import Derived.Test.YtkkigpobhagnfaaK16
namespace Go.Proofs.Ytkkigpobhagnfaa
open Go.RowKit
set_option maxRecDepth 100000
set_option linter.unusedSimpArgs false
set_option linter.unusedVariables false
/-- what a chunk tells lies in the image, or in new memory -/
def UPostM (w : World) (a0 : Option Addr) (r : List Int × Int) (e : Ending) (w' : World) : Prop := ∃ a n c, e = .returned (.tuple #[.slice a n c, .int .i64 r.2]) ∧ Byte w' a n c r.1 ∧ w.grownBy w' none ∧ ∀ b o, a = some ⟨b, o, none⟩ → (∃ o', a0 = some ⟨b, o', none⟩) ∨ w.heap.size ≤ b
theorem upostM_none {w w' : World} {a0 : Option Addr} {er : Int} (h : w.grownBy w' none) : UPostM w a0 ([], er) (.returned (.tuple #[.slice none 0 0, .int .i64 er])) w' := ⟨none, 0, 0, rfl, ⟨Row.none0 _, fun _ => rfl, Nat.le_refl _, Nat.zero_le _⟩, h, fun b o e => by cases e⟩
set_option maxHeartbeats 1000000 in
theorem runpackN_any (a : Option Addr) (len cap : Nat) (bs : List Int) (packed : Bool) (most : Int) (w : World) (B : Byte w a len cap bs) (hl : len ≤ 16777216) (hm : -9223372036854775808 ≤ most ∧ most ≤ 9223372036854775807) :
  Calls Try.prog 33 #[.slice a len cap, .bool packed, .int .i64 most] w (UPostM w a (unpk bs packed most)) := by
 have hlb := B.row.len_eq
 by_cases h0 : most < 0 ∨ 1048576 < most
 ·have e : unpk bs packed most = ([], 1) := by unfold unpk; rw [if_pos h0]
  rw [e]
  rcases h0 with h0 | h0
  all_goals
   go_enter Try.func33, Try.ntmps33
   go_wp2
   go_ret2
   exact upostM_none (World.grownBy.refl _ _)
 ·cases packed with
  | true =>
   have e : unpk bs true most = ((dec bs most (len + 1) [] [] 0).1, (dec bs most (len + 1) [] [] 0).2.2.1) := by unfold unpk; rw [if_neg h0, if_pos rfl, hlb]
   rw [e]
   have hd := decode_any a len cap bs most w B.row hl B.nc B.cm (by omega)
   have hkp := dec_keeps bs most (len + 1) [] [] 0 (by omega)
   have hby := dec_byt bs B.row.byt most (len + 1) [] [] 0 (fun x hx => by simp at hx)
   generalize dec bs most (len + 1) [] [] 0 = r at hd hkp hby ⊢
   obtain ⟨ro, rs, re, rp⟩ := r
   simp only at hkp hby ⊢
   clear e B hlb
   go_enter Try.func33, Try.ntmps33
   go_wp2_with fail
   refine hd.mono ?_
   intro e w1 k1
   obtain ⟨vo, vl, ss, rfl, S⟩ := k1
   simp only at S
   obtain ⟨a3, c3, rfl, B3⟩ := byte_own (n := ro.length) (bs := ro) S.oo hby (by unfold maxLen; omega)
   have HS : Hid _ := And.intro B3 (And.intro S.g (show ∀ b o, a3 = some ⟨b, o, none⟩ → w.heap.size ≤ b from fun b o e => owns_new14 S.oo b o e))
   clear S B3 hd
   simp only
   go_wp2
   go_ret2
   exact ⟨_, _, _, rfl, HS.out.1, HS.out.2.1, fun b o e => Or.inr (HS.out.2.2 b o e)⟩
  | false =>
   by_cases h1 : most < len
   ·have e : unpk bs false most = ([], 2) := by unfold unpk; rw [if_neg h0, if_neg (by decide), if_pos (by rw [hlb]; exact h1)]
    rw [e]
    clear hlb
    go_enter Try.func33, Try.ntmps33
    go_wp2
    go_ret2
    exact upostM_none (World.grownBy.refl _ _)
   ·have e : unpk bs false most = (bs, 0) := by unfold unpk; rw [if_neg h0, if_neg (by decide), if_neg (by rw [hlb]; exact h1)]
    rw [e]
    have HB : Hid _ := B
    clear hlb B
    go_enter Try.func33, Try.ntmps33
    go_wp2
    go_ret2
    exact ⟨_, _, _, rfl, HB.out, World.grownBy.refl _ _, fun b o e => Or.inl ⟨o, e⟩⟩
set_option maxHeartbeats 2000000 in
theorem rchkN14_any (a : Option Addr) (len cap : Nat) (bs : List Int) (c : Ck) (w : World) (B : Byte w a len cap bs) (hl : len ≤ 16777216) (hc : c.ok) :
  Calls Try.prog 18 #[.slice a len cap, c.val] w (UPostM w a (chk bs c)) := by
 have hlb := B.row.len_eq
 have hR := fun w => rright14_any c w
 have hlen : bs.length = len := hlb
 have hsl := stoC_len (bs := bs) (c := c)
 have hrg := rgt_iff (c := c)
 unfold chk
 have hst : stoC bs c = (bs.drop (c.at_.toNat + 8)).take c.st.toNat := rfl
 obtain ⟨at_, pl, st, pk, cr⟩ := c
 unfold Ck.val at hR ⊢
 obtain ⟨⟨ha0, ha1⟩, ⟨hp0, hp1⟩, ⟨hs0, hs1⟩, hcr⟩ := hc
 simp only at ha0 ha1 hp0 hp1 hs0 hs1 hcr hR hrg hst hsl ⊢
 have GA := World.grownBy_alloc w (.cells #[.int .i64 at_, .int .i64 pl, .int .i64 st, .bool pk, .int .u32 (cr : Int)] 39) none
 have BX := bxa w 39 [.int .i64 at_, .int .i64 pl, .int .i64 st, .bool pk, .int .u32 (cr : Int)]
 by_cases hr : rgt ⟨at_, pl, st, pk, cr⟩ = false
 ·rw [if_pos hr]
  rw [hr] at hR
  clear hrg hsl hst
  go_enter Try.func18, Try.ntmps18
  go_wp2_with fail
  refine (hR _).mono ?_
  rintro e w1 ⟨rfl, g1⟩
  go_wp2_with fail
  go_returns
  exact upostM_none (grown_trans GA g1)
 ·rw [if_neg hr]
  rw [Bool.not_eq_false] at hr
  obtain ⟨h0, ⟨h1, h2⟩, ⟨h3, h4⟩, h5⟩ := hrg.1 hr
  rw [hr] at hR
  by_cases hw : wthn bs.length ⟨at_, pl, st, pk, cr⟩ = false
  ·rw [if_pos hw]
   have hw2 : ¬ at_ ≤ (len : Int) - 8 - st := by unfold wthn at hw; rw [decide_eq_false_iff_not, hlb] at hw; exact hw
   clear hrg hsl hst hw
   by_cases hw3 : (len : Int) < at_
   ·go_enter Try.func18, Try.ntmps18
    go_wp2_with fail
    refine (hR _).mono ?_
    rintro e w1 ⟨rfl, g1⟩
    obtain ⟨c0, c1, c2, c3, c4⟩ := ckx (BX.kept g1)
    have HG : Hid _ := grown_trans GA g1
    clear GA BX g1 hR h1 h2 h5
    go_wp2_with fail
    go_returns
    exact upostM_none HG.out
   ·go_enter Try.func18, Try.ntmps18
    go_wp2_with fail
    refine (hR _).mono ?_
    rintro e w1 ⟨rfl, g1⟩
    obtain ⟨c0, c1, c2, c3, c4⟩ := ckx (BX.kept g1)
    have HG : Hid _ := grown_trans GA g1
    have hw4 : (len : Int) - at_ < 8 + st := by omega
    clear GA BX g1 hR h1 h2 h5 hw2
    go_wp2_with fail
    go_returns
    exact upostM_none HG.out
  ·rw [if_neg hw]
   rw [Bool.not_eq_false] at hw
   have hln := hsl hr hw
   have hw2 : at_ ≤ (len : Int) - 8 - st := by unfold wthn at hw; rw [decide_eq_true_eq, hlb] at hw; exact hw
   obtain ⟨p, rfl⟩ := Int.eq_ofNat_of_zero_le h0
   obtain ⟨k, rfl⟩ : ∃ k : Nat, st = (k : Int) := ⟨st.toNat, by omega⟩
   obtain ⟨b, off, rfl, _⟩ := B.row.cells (by omega)
   have BS := B.part14 (p + 8) k (by omega)
   rw [Int.toNat_natCast, Int.toNat_natCast] at hst
   rw [Int.toNat_natCast] at hln
   rw [← hst] at BS
   generalize stoC bs ⟨(p : Int), pl, (k : Int), pk, cr⟩ = sb at BS hln ⊢
   have hU := fun W (G : w.grownBy W none) => runpackN_any _ k _ sb pk pl W (BS.grown G) (by omega) ⟨hp0, hp1⟩
   have hC := fun W (G : w.grownBy W none) => refcrc_any 0 _ k (cap - (p + 8)) sb W (BS.row.grown G) (by decide)
   have hnc := B.nc
   have hcm := B.cm
   clear hrg hsl hst hw BS hr B
   by_cases hs : crc ent 0 sb = cr
   ·rw [if_neg (by simp [hs])]
    subst hs
    generalize unpk sb pk pl = r at hU ⊢
    obtain ⟨rb, re⟩ := r
    simp only at hU ⊢
    obtain ⟨A, hA⟩ : ∃ A : List Int × Int, A = (if re ≠ 0 ∨ (rb.length : Int) ≠ pl then (([] : List Int), (6 : Int)) else (rb, 0)) := ⟨_, rfl⟩
    rw [← hA]
    have HA : Hid _ := hA
    clear hA
    go_enter Try.func18, Try.ntmps18
    go_wp2_with fail
    refine (hR _).mono ?_
    rintro e w1 ⟨rfl, g1⟩
    have BX1 := BX.kept g1
    have HG : Hid _ := grown_trans GA g1
    obtain ⟨c0, c1, c2, c3, c4⟩ := ckx BX1
    have HX : Hid _ := BX1
    clear GA BX g1 hR BX1
    have hC1 := fun n => hC (w1.drewN n) (grown_drewN5 HG.out n)
    clear hC
    go_wp2_with fail
    go_quiet (first | (go_at_call 32; exact quiet_eq14 (hC1 _)))
    have g2 := grown_drewN5 HG.out nq
    obtain ⟨k0, k1, k2, k3, k4⟩ := ckx (HX.out.kept (grown_drewN5 (World.grownBy.refl w1 none) nq))
    have HX2 : Hid _ := HX.out.kept (grown_drewN5 (World.grownBy.refl w1 none) nq)
    generalize w1.drewN nq = w2 at g2 k0 k1 k2 k3 k4 HX2 ⊢
    have hU1 := hU w2 g2
    have HG2 : Hid _ := g2
    clear hU hC1 HX HG c0 c1 c2 c3 c4 g2
    go_wp2_with fail
    refine hU1.mono ?_
    rintro e w3 ⟨a3, n3, d3, rfl, B3, g3, nw3⟩
    have hnw : ∀ b' o, a3 = some ⟨b', o, none⟩ → (∃ o', (some ⟨b, off, none⟩ : Option Addr) = some ⟨b', o', none⟩) ∨ w.heap.size ≤ b' := fun b' o e => (nw3 b' o e).imp (fun ⟨o', h⟩ => ⟨off, by injection h with h; injection h with h1 h2; rw [h1]⟩) (fun h => Nat.le_trans HG2.out.size h)
    clear nw3
    obtain ⟨k0, k1, k2, k3, k4⟩ := ckx (HX2.out.kept g3)
    have hn3 := B3.row.len_eq
    have HB : Hid _ := And.intro B3 (And.intro (grown_trans HG2.out g3) hnw)
    clear hnw B3 g3 hU1 HX2 HG2
    by_cases he : re = 0
    ·subst he
     by_cases hn : (n3 : Int) = pl
     ·have hA := HA.out
      rw [if_neg (by simp [hn3, hn])] at hA
      subst hA
      clear HA
      go_wp2_with fail
      go_returns
      exact ⟨_, _, _, rfl, HB.out.1, HB.out.2.1, HB.out.2.2⟩
     ·have hA := HA.out
      rw [if_pos (Or.inr (by rw [hn3]; exact hn))] at hA
      subst hA
      clear HA
      go_wp2_with fail
      go_returns
      exact upostM_none HB.out.2.1
    ·have hA := HA.out
     rw [if_pos (Or.inl he)] at hA
     subst hA
     clear HA
     go_wp2_with fail
     go_returns
     exact upostM_none HB.out.2.1
   ·rw [if_pos hs]
    have hs' : ((crc ent 0 sb : Nat) : Int) ≠ (cr : Int) := fun e => hs (by omega)
    clear hU
    go_enter Try.func18, Try.ntmps18
    go_wp2_with fail
    refine (hR _).mono ?_
    rintro e w1 ⟨rfl, g1⟩
    have BX1 := BX.kept g1
    have HG : Hid _ := grown_trans GA g1
    obtain ⟨c0, c1, c2, c3, c4⟩ := ckx BX1
    clear GA BX g1 hR BX1
    have hC1 := fun n => hC (w1.drewN n) (grown_drewN5 HG.out n)
    clear hC
    go_wp2_with fail
    go_quiet (first | (go_at_call 32; exact quiet_eq14 (hC1 _)))
    go_wp2_with fail
    go_returns
    exact upostM_none (grown_drewN5 HG.out _)
theorem addr_add0 (g : Nat) : (⟨g, 0, none⟩ : Addr).add 0 = ⟨g, 0, none⟩ := by unfold Addr.add; split <;> simp_all
theorem wpList_append1_at {ops : Array Oper} {rest : List Oper} {o : Oper} {a : Act} {w : World} {Q : Exit → Act → World → Prop} (hgd : o.guard = none) (s x : Operand) (t : TypeId)
  (ho : o.op = .call { callee := .builtin .append, args := #[s, x], argTypes := #[t, t] }) (ht : Try.prog.underlying t = some (.slice 5)) (base : Nat) (v : Value) (n : Nat) (xs : List Int) (hs : a.eval s = v) (hown : w.ownsRow base 5 1 v n (bv xs))
  (g c : Nat) (b : Int) (hx : a.eval x = .slice (some ⟨g, 0, none⟩) 1 c) (hnew : w.cell? ⟨g, 0, none⟩ = some (.int .u8 b)) (h63 : n ≤ 1000000000) (hbase : base ≤ w.heap.size)
  (h : ∀ v' w', w'.ownsRow base 5 1 v' (n + 1) (bv (xs ++ [b])) → w.grownBy w' v.ownBlock → (v'.ownBlock = v.ownBlock ∨ v'.ownBlock = some w.heap.size) → wpList Try.prog ops Q rest (a.put o.dst v') w') : wpList Try.prog ops Q (o :: rest) a w := by
 obtain ⟨i5, hi, hz0, hz1, hz2⟩ := info_parts Try.info5
 refine wpList_plain hgd fun _ hK => ?_
 obtain ⟨v', w', hr, h2, h3, _, h5⟩ := run_append_own_at (P := Try.prog) w base t o.type 5 i5 (.int .u8 0) 1 1 ht hi hz0 hz1 hz2 rfl (by decide) v n (bv xs) hown ⟨g, 0, none⟩ 1 c (bv [b]) rfl (fun j u hj => by
  cases j with
  | zero => simp [bv] at hj; subst hj; rw [addr_add0]; exact hnew
  | succ j => simp [bv] at hj) (by simp [bv, Value.oneCell']) (by unfold maxLen; omega) (by omega) hbase
 unfold Oper.wp execOp
 simp only [ho, resolve, invoke, builtin, Sem.run_bind, Sem.run_pure, Result.andThen_ok, List.map_toArray, List.map_cons, List.map_nil, hs, hx, hr]
 refine hK _ _ (h v' w' ?_ h3 h5)
 rw [bv_append]; exact h2
theorem chk_len0 {bs : List Int} {c : Ck} (h : (chk bs c).2 = 0) : 0 < bs.length := by
 unfold chk at h
 by_cases h1 : rgt c = false
 ·rw [if_pos h1] at h; cases h
 ·rw [if_neg h1] at h
  by_cases h2 : wthn bs.length c = false
  ·rw [if_pos h2] at h; cases h
  ·rw [Bool.not_eq_false] at h1 h2
   have h5 := rgt_iff.1 h1
   unfold wthn at h2
   rw [decide_eq_true_eq] at h2
   omega
theorem cut_in (rb : List Int) (k fr pt : Nat) (hk : k < rb.length) (h1 : fr ≤ k) (h2 : k < fr + pt) : ((rb.take (k + 1)).drop fr).take pt = ((rb.take k).drop fr).take pt ++ [rb.getD k 0] := by
 have e : rb.take (k + 1) = rb.take k ++ [rb.getD k 0] := by
  rw [List.take_add_one, List.getElem?_eq_getElem hk]
  simp [hk]
 have hl : (rb.take k).length = k := by rw [List.length_take]; omega
 have hl2 : ((rb.take k).drop fr).length = k - fr := by rw [List.length_drop, hl]
 rw [e, List.drop_append_of_le_length (by omega), List.take_of_length_le (l := (rb.take k).drop fr ++ [rb.getD k 0]) (by rw [List.length_append, hl2, List.length_singleton]; omega), List.take_of_length_le (l := (rb.take k).drop fr) (by omega)]
theorem cut_out (rb : List Int) (k fr pt : Nat) (hk : k < rb.length) (h : ¬ (fr ≤ k ∧ k < fr + pt)) : ((rb.take (k + 1)).drop fr).take pt = ((rb.take k).drop fr).take pt := by
 have e : rb.take (k + 1) = rb.take k ++ [rb.getD k 0] := by
  rw [List.take_add_one, List.getElem?_eq_getElem hk]
  simp [hk]
 have hl : (rb.take k).length = k := by rw [List.length_take]; omega
 by_cases h1 : fr ≤ k
 ·rw [e, List.drop_append_of_le_length (by omega), List.take_append_of_le_length (by rw [List.length_drop, hl]; omega)]
 ·rw [List.drop_of_length_le (by simp; omega), List.drop_of_length_le (by simp; omega)]
theorem Row.ne14 {w W : World} {a a5 : Option Addr} {len cap base : Nat} {bs : List Int} {v : Value} {e sz m : Nat} {xs : List Value} (B : Byte w a len cap bs) (h0 : 0 < len) (hb : w.heap.size ≤ base) (hown : W.ownsRow base e sz v m xs)
  (nw : ∀ b o, a5 = some ⟨b, o, none⟩ → (∃ o', a = some ⟨b, o', none⟩) ∨ W.heap.size ≤ b) : ∀ b o, a5 = some ⟨b, o, none⟩ → some b ≠ v.ownBlock := by
 intro b o e e'
 have hlt := hown.lt b e'.symm
 rcases nw b o e with ⟨o', h⟩ | h
 ·have hR := B.row
  rw [h] at hR
  have := hR.lt14 h0
  omega
 ·omega
theorem sumN_le {l : List Ck} {m : Nat} (h : ∀ c ∈ l, pn c ≤ m) : sumN l ≤ l.length * m := by
 induction l with
 | nil => simp [sumN]
 | cons c r ih =>
  have h1 := ih (fun y hy => h y (List.mem_cons_of_mem _ hy))
  have h2 := h c (List.mem_cons_self ..)
  rw [sumN, List.length_cons, Nat.add_mul, Nat.one_mul]
  omega
theorem sumN_take_le (l : List Ck) (j : Nat) : sumN (l.take j) ≤ sumN l := by
 have h : sumN l = sumN (l.take j) + sumN (l.drop j) := by rw [← sumN_append, List.take_append_drop]
 omega
set_option maxHeartbeats 4000000 in
theorem rslice14_any (a al : Option Addr) (len cap ln lc : Nat) (bs : List Int) (l : List Ck) (at_ n : Int) (w : World) (B : Byte w a len cap bs) (K : Cks w al ln l) (hl : len ≤ 16777216) (hok : ∀ c ∈ l, c.ok) (hln : ln ≤ 4096) (hpl : ∀ c ∈ l, pn c ≤ 16777216)
  (ha : -9223372036854775808 ≤ at_ ∧ at_ ≤ 9223372036854775807) (hn : -9223372036854775808 ≤ n ∧ n ≤ 9223372036854775807) :
  Calls Try.prog 21 #[.slice a len cap, .slice al ln lc, .int .i64 at_, .int .i64 n] w (UPost w (slc bs l at_ n)) := by
 have hkl := K.len_eq
 have hsl := sumN_le hpl
 obtain ⟨A, hA⟩ : ∃ A : List Int × Int, A = slc bs l at_ n := ⟨_, rfl⟩
 rw [← hA]
 have HA : Hid _ := hA
 clear hA
 have hsb : sumN l ≤ 68719476736 := by rw [hkl] at hsl; have : ln * 16777216 ≤ 4096 * 16777216 := Nat.mul_le_mul_right _ hln; omega
 clear hsl
 go_enter Try.func21, Try.ntmps21
 go_wp2
 go_loopw [10, 11] (fun vs vi wr => ∃ j : Nat, vi = .int .i64 (j : Int) ∧ j ≤ ln ∧ vs = .int .i64 ((sumN (l.take j) : Nat) : Int) ∧ Hid (w.grownBy wr none)) (fun _ vi _ => ln - (intOf vi).toNat)
 case atStart => exact ⟨0, rfl, Nat.zero_le _, by simp [sumN], World.grownBy.refl _ _⟩
 case round =>
  obtain ⟨j, rfl, hj, rfl, HG⟩ := hrel
  by_cases h0 : j < ln
  ·have h0i : (j : Int) < (ln : Int) := by omega
   obtain ⟨b, off, rfl, hc⟩ := K.cells (by omega)
   obtain ⟨c, hcj⟩ : ∃ c, l[j]? = some c := ⟨_, List.getElem?_eq_getElem (by omega)⟩
   obtain ⟨x0, x1, x2, x3, x4⟩ := hc j c hcj
   have y0 := gcell14 x0 HG.out
   have y1 := gcell14 x1 HG.out
   have y2 := gcell14 x2 HG.out
   have y3 := gcell14 x3 HG.out
   have y4 := gcell14 x4 HG.out
   have hst := sumN_take hcj
   have hsl := sumN_take_le l (j + 1)
   have hcn := fun W => rplain14_any c W
   rw [pln_pn] at hcn
   have HS : Hid (sumN (l.take (j + 1)) = sumN (l.take j) + pn c) := hst
   have hxb : sumN (l.take j) + pn c ≤ 68719476736 := by omega
   unfold Ck.val at hcn
   generalize pn c = q at hcn HS hxb
   generalize sumN (l.take j) = x at HS hxb ⊢
   clear x0 x1 x2 x3 x4 hc hcj hst hsl hsb
   go_wp2_with fail
   refine (hcn _).mono ?_
   rintro e w5 ⟨rfl, g5⟩
   have HG5 : Hid _ := grown_trans HG.out g5
   clear hcn g5
   go_wp2
   go_roundw
   case rel => exact ⟨j + 1, by go_num, by omega, by rw [HS.out]; go_num, HG5.out⟩
   case measure => simp [intOf]; omega
  ·obtain rfl : ln = j := by omega
   have h0i : ¬ (ln : Int) < (ln : Int) := by omega
   have e1 : l.take ln = l := List.take_of_length_le (by omega)
   rw [e1]
   clear e1
   by_cases k0 : at_ < 0
   ·have e : slc bs l at_ n = ([], 9) := by unfold slc; rw [if_pos (by omega)]
    have hA := HA.out.trans e
    clear e HA
    subst hA
    go_wp2
    go_returns
    exact upost_none HG.out
   by_cases k1 : n < 0
   ·have e : slc bs l at_ n = ([], 9) := by unfold slc; rw [if_pos (by omega)]
    have hA := HA.out.trans e
    clear e HA
    subst hA
    go_wp2
    go_returns
    exact upost_none HG.out
   by_cases k2 : (sumN l : Int) < at_
   ·have e : slc bs l at_ n = ([], 9) := by unfold slc; rw [if_pos (by omega)]
    have hA := HA.out.trans e
    clear e HA
    subst hA
    go_wp2
    go_returns
    exact upost_none HG.out
   by_cases k3 : (sumN l : Int) - at_ < n
   ·have e : slc bs l at_ n = ([], 9) := by unfold slc; rw [if_pos (by omega)]
    have hA := HA.out.trans e
    clear e HA
    subst hA
    go_wp2
    go_returns
    exact upost_none HG.out
   obtain ⟨n1, rfl⟩ := Int.eq_ofNat_of_zero_le (by omega : 0 ≤ at_)
   obtain ⟨n2, rfl⟩ := Int.eq_ofNat_of_zero_le (by omega : 0 ≤ n)
   have e : slc bs l (n1 : Int) (n2 : Int) = told bs (askd l n1 n2) [] := by unfold slc; rw [if_neg (by omega), Int.toNat_natCast, Int.toNat_natCast]
   have hA := HA.out.trans e
   clear e HA
   by_cases k4 : n2 = 0
   ·subst k4
    rw [askd_zero, told] at hA
    subst hA
    go_wp2
    go_returns
    exact upost_none HG.out
   have k4i : (((n2 : Nat) : Int) == 0) = false := by first | (simp; omega) | (simp [k4])
   have HA : Hid _ := hA
   clear hA
   have hss : n1 + n2 ≤ sumN l := by omega
   go_wp2_with fail
   go_loopw [12, 13, 14, 15, 16, 17, 18] (fun vo vf vi _ _ _ _ wr => ∃ (j : Nat) (out : List Int), vi = .int .i64 (j : Int) ∧ j ≤ ln ∧ vf = .int .i64 ((sumN (l.take j) : Nat) : Int) ∧ out.length ≤ 8192 * j ∧ Byt out ∧ wr.ownsRow w.heap.size 5 1 vo out.length (bv out) ∧
    Hid (A = told bs (askd (l.drop j) (n1 - sumN (l.take j)) (n1 + n2 - max (sumN (l.take j)) n1)) out) ∧ Hid (w.grownBy wr none)) (fun _ _ vi _ _ _ _ _ => ln - (intOf vi).toNat)
   case atStart => exact ⟨0, [], rfl, Nat.zero_le _, rfl, Nat.le_refl _, (fun x hx => by simp at hx), World.ownsRow_nil _ _ _ _, by show _ = _; rw [HA.out]; simp [sumN], HG.out⟩
   case round =>
    obtain ⟨j, out, rfl, hj, rfl, hol, hby, hown, HE, HG⟩ := hrel
    by_cases h0 : j < ln
    ·have h0i : (j : Int) < (ln : Int) := by omega
     obtain ⟨b, off, rfl, hc⟩ := K.cells (by omega)
     obtain ⟨c, hcj⟩ : ∃ c, l[j]? = some c := ⟨_, List.getElem?_eq_getElem (by omega)⟩
     obtain ⟨x0, x1, x2, x3, x4⟩ := hc j c hcj
     have y0 := gcell14 x0 HG.out
     have y1 := gcell14 x1 HG.out
     have y2 := gcell14 x2 HG.out
     have y3 := gcell14 x3 HG.out
     have y4 := gcell14 x4 HG.out
     have hst := sumN_take hcj
     have hsl := sumN_take_le l (j + 1)
     have hcn := fun W => rplain14_any c W
     rw [pln_pn] at hcn
     have HS : Hid (sumN (l.take (j + 1)) = sumN (l.take j) + pn c) := hst
     have hxb : sumN (l.take j) + pn c ≤ sumN l := by omega
     have hdr : l.drop j = c :: l.drop (j + 1) := by
      rw [List.drop_eq_getElem_cons (by omega)]
      rw [List.getElem?_eq_getElem (by omega)] at hcj
      injection hcj with hcj
      rw [hcj]
     have hE := HE.out
     rw [hdr, askd] at hE
     have hcok := hok c (List.mem_of_getElem? hcj)
     have hU := fun W (G : w.grownBy W none) => rchkN14_any a len cap bs c W (B.grown G) hl hcok
     have hCL := chk_len (bs := bs) (c := c)
     unfold Ck.val at hcn hU
     generalize hq : pn c = q at hcn HS hxb hE hCL
     generalize hx : sumN (l.take j) = x at HS hxb hE ⊢
     have hf1 : n1 - x - min (n1 - x) q = n1 - (x + q) := by omega
     have hf2 : n1 + n2 - max x n1 - min (n1 + n2 - max x n1) (q - min (n1 - x) q) = n1 + n2 - max (x + q) n1 := by omega
     rw [hf1, hf2] at hE
     have HE2 : Hid _ := hE
     clear x0 x1 x2 x3 x4 hc hcj hst hsl hf1 hf2 hE HE hdr hx hq hcok HA
     go_wp2_with fail
     refine (hcn _).mono ?_
     rintro e w5 ⟨rfl, g5⟩
     have HG5 : Hid _ := grown_trans HG.out g5
     have hown5 := own_turn14 hown g5 (fun r e => by cases e)
     have y0 := gcell14 y0 g5
     have y1 := gcell14 y1 g5
     have y2 := gcell14 y2 g5
     have y3 := gcell14 y3 g5
     have y4 := gcell14 y4 g5
     clear hcn g5 hown HG
     by_cases hp : 0 < min (n1 + n2 - max x n1) (q - min (n1 - x) q)
     ·have h1 : (x : Int) < (x : Int) + (q : Int) := by omega
      have h2 : (n1 : Int) < (x : Int) + (q : Int) := by omega
      have h3 : (x : Int) < (n1 : Int) + (n2 : Int) := by omega
      have hL0 := chk_len0 (bs := bs) (c := c)
      rw [B.row.len_eq] at hL0
      have hE := HE2.out
      rw [if_pos hp, List.cons_append, List.nil_append, told] at hE
      simp only at hE
      rw [Nat.add_sub_cancel_left] at hE
      have hU5 := hU w5 HG5.out
      have hfr : ∀ k, k < q → ((n1 : Int) ≤ (x : Int) + (k : Int) ↔ min (n1 - x) q ≤ k) := by intro k hk; omega
      have hpt : ∀ k, k < q → ((x : Int) + (k : Int) < (n1 : Int) + (n2 : Int) ↔ k < min (n1 - x) q + min (n1 + n2 - max x n1) (q - min (n1 - x) q)) := by intro k hk; omega
      generalize min (n1 + n2 - max x n1) (q - min (n1 - x) q) = pt at hE hpt hp
      generalize min (n1 - x) q = fr at hE hpt hfr
      have HFR : Hid _ := And.intro hfr hpt
      clear hfr hpt hU HE2
      generalize chk bs c = rr at hE hU5 hCL hL0
      obtain ⟨rb, er⟩ := rr
      simp only at hE hCL hL0
      by_cases he : er = 0
      ·subst he
       rw [if_neg (by simp)] at hE
       obtain ⟨hC1, hC2⟩ := hCL rfl
       have hL := hL0 rfl
       have HE : Hid _ := hE
       clear hE hCL hL0
       go_wp2_with fail
       refine hU5.mono ?_
       rintro e w6 ⟨a5, n5, c5, rfl, B5, g6, nw5⟩
       have hne := Row.ne14 B hL (Nat.le_refl _) hown5 nw5
       have hown6 := own_turn14 hown5 g6 (fun r e => by cases e)
       have hn5 : rb.length = n5 := B5.row.len_eq
       have HG6 : Hid _ := grown_trans HG5.out g6
       have HB6 : Hid _ := B5
       have HNE : Hid _ := hne
       have hq5 : n5 = q := by omega
       have hq8 : q ≤ 8192 := hC2
       have hrby := B5.row.byt
       have HRB : Hid _ := hrby
       clear hU5 g6 nw5 B5 hne hown5 HG5 y0 y1 y2 y3 y4 hC1 hC2 hrby
       subst hq5
       simp only
       go_wp2
       go_loopw [12, 18] (fun vo vk wr2 => ∃ k : Nat, vk = .int .i64 (k : Int) ∧ k ≤ n5 ∧ wr2.ownsRow w.heap.size 5 1 vo (out ++ ((rb.take k).drop fr).take pt).length (bv (out ++ ((rb.take k).drop fr).take pt)) ∧
        Hid (∀ b o, a5 = some ⟨b, o, none⟩ → some b ≠ vo.ownBlock) ∧ Hid (Byte wr2 a5 n5 c5 rb) ∧ Hid (w.grownBy wr2 none)) (fun _ vk _ => n5 - (intOf vk).toNat)
       case atStart => exact ⟨0, rfl, Nat.zero_le _, by simpa using hown6, HNE, HB6, HG6⟩
       case round =>
        obtain ⟨k, rfl, hk, hownk, HNk, HBk, HGk⟩ := hrel
        by_cases hkn : k < n5
        ·have hki : (k : Int) < (n5 : Int) := by omega
         have hlk : (out ++ ((rb.take k).drop fr).take pt).length ≤ 100000000 := by
          have h9 : (((rb.take k).drop fr).take pt).length ≤ k := by rw [List.length_take, List.length_drop, List.length_take]; omega
          rw [List.length_append]; omega
         obtain ⟨b5, o5, rfl, hcb⟩ := HBk.out.row.cells (by omega)
         have hbk := hcb k hkn
         have hnc5 := HBk.out.nc
         by_cases hin : fr ≤ k ∧ k < fr + pt
         ·have i1 : (n1 : Int) ≤ (x : Int) + (k : Int) := (HFR.out.1 k hkn).2 hin.1
          have i2 : (x : Int) + (k : Int) < (n1 : Int) + (n2 : Int) := (HFR.out.2 k hkn).2 hin.2
          have HCUT : Hid _ := cut_in rb k fr pt (by omega) hin.1 hin.2
          generalize ((rb.take k).drop fr).take pt = ot at hownk hlk HCUT
          generalize rb.getD k 0 = bk at hbk HCUT
          have hal := World.grownBy_alloc wr (.cells #[.int .u8 bk] 5) none
          have hnew : (wr.alloc (.cells #[.int .u8 bk] 5)).cell? ⟨wr.heap.size, 0, none⟩ = some (.int .u8 bk) := (Bx.new wr 5 [.int .u8 bk]).c 0
          have HAL : Hid _ := hal
          clear hal hcb hin
          go_wp2_with (at_builtin; refine wpList_append1_at rfl _ _ 22 rfl Try.underlying22 w.heap.size _ _ (out ++ ot) rfl (hownk.alloc _) wr.heap.size 1 bk rfl hnew (by omega) (by have := HGk.out.size; simp; omega) ?_; intro v' w7 hown' hgrow hat)
          have hbl : b5 < wr.heap.size := HBk.out.row.lt14 (by omega)
          have hnk : some b5 ≠ Value.ownBlock _ := HNk.out b5 o5 rfl
          refine ⟨⟨k + 1, by go_num, by omega, ?_, ?_, ?_, ?_⟩, by simp [intOf]; omega⟩
          ·rw [HCUT.out, ← List.append_assoc]
           have e : ((out ++ ot) ++ [bk]).length = (out ++ ot).length + 1 := by rw [List.length_append, List.length_singleton]
           rw [e]
           exact hown'
          ·show ∀ b o, _ → _
           intro b o e
           injection e with e
           injection e with e1 e2
           subst e1
           rcases hat with h | h
           ·rw [h]; exact hnk
           ·rw [h, World.size_alloc]; intro e'; injection e' with e'; omega
          ·exact (Pcs.turn (ss := [⟨some ⟨b5, o5, none⟩, n5, c5⟩]) (bs := [rb]) hgrow ⟨HBk.out.grown HAL.out, trivial⟩ (fun s hs b o e h0 => by
            obtain rfl := List.mem_singleton.1 hs
            injection e with e
            injection e with e1 e2
            subst e1
            exact hnk)).1
          ·exact grown_turn14 (grown_trans HGk.out HAL.out) hgrow (Nat.le_refl _) (fun r e => (hownk.lt r e).1)
         ·have HCUT : Hid _ := cut_out rb k fr pt (by omega) hin
          have hio : ¬ (n1 : Int) ≤ (x : Int) + (k : Int) ∨ ((n1 : Int) ≤ (x : Int) + (k : Int) ∧ ¬ (x : Int) + (k : Int) < (n1 : Int) + (n2 : Int)) := by
           have e1 := HFR.out.1 k hkn
           have e2 := HFR.out.2 k hkn
           by_cases i1 : (n1 : Int) ≤ (x : Int) + (k : Int)
           ·exact .inr ⟨i1, fun i2 => hin ⟨e1.1 i1, e2.1 i2⟩⟩
           ·exact .inl i1
          have HOWN : Hid _ := hownk
          clear hcb hin hbk hownk hlk
          rcases hio with i1 | ⟨i1, i2⟩
          all_goals
           go_wp2
           go_roundw
           case rel => exact ⟨k + 1, by go_num, by omega, by rw [HCUT.out]; exact HOWN.out, HNk, HBk, HGk⟩
           case measure => simp [intOf]; omega
        ·obtain rfl : n5 = k := by omega
         have hki : ¬ (n5 : Int) < (n5 : Int) := by omega
         have etk : rb.take n5 = rb := List.take_of_length_le (by omega)
         rw [etk] at hownk
         have HOWN : Hid _ := hownk
         have hpl2 : ((rb.drop fr).take pt).length ≤ n5 := by rw [List.length_take, List.length_drop]; omega
         have HBY : Hid (Byt (out ++ (rb.drop fr).take pt)) := Byt.append hby (Byt.take (fun x hx => HRB.out x (List.mem_of_mem_drop hx)) pt)
         clear hownk etk
         go_wp2
         go_roundw
         case rel => exact ⟨j + 1, out ++ (rb.drop fr).take pt, by go_num, by omega, by rw [HS.out]; go_num, by rw [List.length_append]; omega, HBY.out, HOWN.out, by show _ = _; rw [HS.out]; exact HE.out, HGk.out⟩
         case measure => simp [intOf]; omega
      ·rw [if_pos he] at hE
       have hen : (er != 0) = true := by simpa using he
       subst hE
       clear hCL hL0 HFR hp
       go_wp2_with fail
       refine hU5.mono ?_
       rintro e w6 ⟨a5, n5, c5, rfl, B5, g6, nw5⟩
       have HG6 : Hid _ := grown_trans HG5.out g6
       clear hU5 g6 nw5 B5 HG5
       simp only
       go_wp2
       go_returns
       exact upost_none HG6.out
     ·have hE := HE2.out
      rw [if_neg hp, List.nil_append] at hE
      have HE : Hid _ := hE
      clear hE HE2 hU hCL
      have hcs : ¬ (x : Int) < (x : Int) + (q : Int) ∨ ((x : Int) < (x : Int) + (q : Int) ∧ ¬ (n1 : Int) < (x : Int) + (q : Int)) ∨ ((x : Int) < (x : Int) + (q : Int) ∧ (n1 : Int) < (x : Int) + (q : Int) ∧ ¬ (x : Int) < (n1 : Int) + (n2 : Int)) := by omega
      rcases hcs with h1 | ⟨h1, h2⟩ | ⟨h1, h2, h3⟩
      all_goals
       clear hp
       go_wp2
       go_roundw
       case rel => exact ⟨j + 1, out, by go_num, by omega, by rw [HS.out]; go_num, by omega, hby, hown5, by show _ = _; rw [HS.out]; exact HE.out, HG5.out⟩
       case measure => simp [intOf]; omega
    ·obtain rfl : ln = j := by omega
     have h0i : ¬ (ln : Int) < (ln : Int) := by omega
     obtain ⟨a3, c3, rfl, B3⟩ := byte_own (n := out.length) (bs := out) hown hby (by unfold maxLen; omega)
     have HB3 : Hid _ := B3
     have hE := HE.out
     rw [List.drop_of_length_le (by omega), askd, told] at hE
     subst hE
     clear HE HA B3 hown
     go_wp2
     go_returns
     exact ⟨_, _, _, rfl, HB3.out, HG.out⟩
end Go.Proofs.Ytkkigpobhagnfaa
namespace Go.Proofs.Ytkkigpobhagnfaa
open Go.RowKit Go.Shelf
set_option maxRecDepth 100000
set_option linter.unusedSimpArgs false
set_option linter.unusedVariables false
set_option maxHeartbeats 1000000 in
theorem pslice14_any (a al : Option Addr) (len cap ln lc : Nat) (bs : List Int) (l : List Ck) (at_ n : Int) (w : World) (B : Byte w a len cap bs) (K : Cks w al ln l) (hl : len ≤ 16777216) (hok : ∀ c ∈ l, c.ok) (hln : ln ≤ 4096) (ha : at_ ≤ 9223372036854775807) (hn : n ≤ 9223372036854775807) :
  Calls Try.prog 20 #[.slice a len cap, .slice al ln lc, .int .i64 at_, .int .i64 n] w (UPostB w (slc bs l at_ n)) := by
 by_cases k0 : at_ < 0
 ·have e : slc bs l at_ n = ([], 9) := by unfold slc; rw [if_pos (by omega)]
  rw [e]
  clear e
  go_enter Try.func20, Try.ntmps20
  go_wp2
  go_returns
  exact upostB_none (grown_trans (grown_trans (World.grownBy_alloc _ _ _) (World.grownBy_alloc _ _ _)) (World.grownBy_alloc _ _ _))
 by_cases k1 : n < 0
 ·have e : slc bs l at_ n = ([], 9) := by unfold slc; rw [if_pos (by omega)]
  rw [e]
  clear e
  go_enter Try.func20, Try.ntmps20
  go_wp2
  go_returns
  exact upostB_none (grown_trans (grown_trans (World.grownBy_alloc _ _ _) (World.grownBy_alloc _ _ _)) (World.grownBy_alloc _ _ _))
 obtain ⟨n1, rfl⟩ := Int.eq_ofNat_of_zero_le (by omega : 0 ≤ at_)
 obtain ⟨n2, rfl⟩ := Int.eq_ofNat_of_zero_le (by omega : 0 ≤ n)
 by_cases k2 : n1 + n2 ≤ sumN l
 ·have e : slc bs l (n1 : Int) (n2 : Int) = told bs (askd l n1 n2) [] := by unfold slc; rw [if_neg (by omega), Int.toNat_natCast, Int.toNat_natCast]
  rw [e]
  exact pslice_main a al len cap ln lc bs l n1 n2 w B K hl hok hln (by omega) (by omega) k2
 ·have e : slc bs l (n1 : Int) (n2 : Int) = ([], 9) := by unfold slc; rw [if_pos (by omega)]
  rw [e]
  have hR := fun W (G : w.grownBy W none) => preach_any al ln lc l n1 n2 W (K.grown G) hok (by omega) (by omega)
  rw [decide_eq_false k2] at hR
  have HG : Hid _ := grown_trans (grown_trans (World.grownBy_alloc w (.cells #[.slice a len cap] 22) none) (World.grownBy_alloc _ (.cells #[.slice none 0 0] 22) none)) (World.grownBy_alloc _ (.cells #[.int .i64 0] 25) none)
  have hR3 := hR _ HG.out
  have r8 := (Bx.new (w.alloc (.cells #[.slice a len cap] 22)) 22 [.slice none 0 0]).kept (World.grownBy_alloc _ (.cells #[.int .i64 0] 25) none)
  have r9 := Bx.new ((w.alloc (.cells #[.slice a len cap] 22)).alloc (.cells #[.slice none 0 0] 22)) 25 [.int .i64 0]
  simp only [World.size_alloc] at r8 r9
  have h0 : ¬ (n1 : Int) < 0 := by omega
  have h1 : ¬ (n2 : Int) < 0 := by omega
  clear e hR k0 k1 k2
  go_enter Try.func20, Try.ntmps20
  go_wp2_with fail
  refine hR3.mono ?_
  rintro e wr ⟨rfl, gr⟩
  have G4 := grown_trans HG.out gr
  have r8 := r8.kept gr
  have r9 := r9.kept gr
  have c8 := r8.c 0
  have f8 := r8.f 0
  have c9 := r9.c 0
  have f9 := r9.f 0
  simp only [List.getElem?_cons_zero] at c8 c9
  have e8 := (r8.set 0 (.slice none 0 0)).c 0
  have e9 := ((r9.keptR (grown_set wr (w.heap.size + 1) 0 (.slice none 0 0)) (by simp)).set 0 (.int .i64 9)).c 0
  simp only [List.set_cons_zero, List.getElem?_cons_zero] at e8 e9
  go_wp2
  refine ⟨rfl, .tuple #[.slice none 0 0, .int .i64 9], by simp [results, Try.f20, go_sem, e8, e9], ?_⟩
  exact upostB_none (grown_new (grown_new G4 (grown_set _ _ _ _) (Nat.le_succ _)) (grown_set _ _ _ _) (by omega))
/-- Decode, as a plain function -/
def dcd (bs : List Int) (from_ to_ size : Int) : List Int × Int := if (cks bs from_ to_ size).2 ≠ 0 then ([], (cks bs from_ to_ size).2) else slc bs (cks bs from_ to_ size).1 0 size
theorem cks_size {bs : List Int} {from_ to_ size : Int} : (cks bs from_ to_ size).1.length ≤ 2049 := by
 unfold cks
 by_cases h : from_ < 0 ∨ to_ < from_ ∨ (bs.length : Int) < to_ ∨ size < 0 ∨ 16777216 < size
 ·rw [if_pos h]; simp
 ·rw [if_neg h]
  have h1 := lyg_len (bs.take to_.toNat) (cnt size.toNat) from_.toNat size.toNat
  have h2 : cnt size.toNat ≤ 2048 := by unfold cnt; omega
  split
  ·simp only [List.length_map]; unfold lygs; omega
  ·simp
theorem pdecode14_any (a : Option Addr) (len cap : Nat) (bs : List Int) (from_ to_ size : Int) (w : World) (B : Byte w a len cap bs) (hl : len ≤ 16777216) (hs : size ≤ 9223372036854775807) :
  Calls Try.prog 19 #[.slice a len cap, .int .i64 from_, .int .i64 to_, .int .i64 size] w (UPostB w (dcd bs from_ to_ size)) := by
 have hC := pchunks14_any a len cap bs from_ to_ size w B hl
 have hok := cks_ok B.row.byt (by rw [B.row.len_eq]; exact hl) from_ to_ size
 have hsz := cks_size (bs := bs) (from_ := from_) (to_ := to_) (size := size)
 unfold dcd
 generalize cks bs from_ to_ size = r at hC hok hsz ⊢
 obtain ⟨l, er⟩ := r
 simp only at hok hsz ⊢
 by_cases he : er = 0
 ·subst he
  rw [if_neg (by simp)]
  have hS := fun al ln lc W (G : w.grownBy W none) (K : Cks W al ln l) => pslice14_any a al len cap ln lc bs l 0 size W (B.grown G) K hl hok (by have := K.len_eq; omega) (by omega) hs
  generalize slc bs l 0 size = r2 at hS ⊢
  go_enter Try.func19, Try.ntmps19
  go_wp2_with fail
  refine hC.mono ?_
  rintro e w1 ⟨a1, n1, c1, rfl, K1, hnc, g1⟩
  have hS1 := hS a1 n1 c1 w1 g1 K1
  have HG : Hid _ := g1
  clear hS hC g1 K1
  go_wp2_with fail
  refine hS1.mono ?_
  rintro e w2 ⟨a2, n2, c2, rfl, B2, g2, nw2⟩
  have HF : Hid _ := And.intro B2 (And.intro (grown_trans HG.out g2) (show 0 < n2 → ∃ g, a2 = some ⟨g, 0, none⟩ ∧ w.heap.size ≤ g ∧ Bk14 w2 g n2 from fun h0 => by obtain ⟨g, h1, h2, h3⟩ := nw2 h0; exact ⟨g, h1, Nat.le_trans HG.out.size h2, h3⟩))
  clear hS1 B2 g2 nw2
  go_wp2
  go_returns
  exact ⟨_, _, _, rfl, HF.out.1, HF.out.2.1, HF.out.2.2⟩
 ·rw [if_pos he]
  have hen : (er != 0) = true := by simpa using he
  go_enter Try.func19, Try.ntmps19
  go_wp2_with fail
  refine hC.mono ?_
  rintro e w1 ⟨a1, n1, c1, rfl, K1, hnc, g1⟩
  have HG : Hid _ := g1
  clear hC g1 K1
  go_wp2
  go_returns
  exact upostB_none HG.out
end Go.Proofs.Ytkkigpobhagnfaa
namespace Go.Proofs.Ytkkigpobhagnfaa
open Go.RowKit
set_option maxRecDepth 100000
set_option linter.unusedSimpArgs false
set_option linter.unusedVariables false
theorem askd_all : ∀ (l : List Ck), (∀ c ∈ l, 0 < pn c) → askd l 0 (sumN l) = l.map (fun c => (c, 0, pn c))
 | [], _ => rfl
 | c :: r, h => by
  have h0 := h c (List.mem_cons_self ..)
  have e1 : min 0 (pn c) = 0 := by omega
  have e2 : min (pn c + sumN r) (pn c - 0) = pn c := by omega
  rw [askd, sumN, e1, e2, if_pos h0, Nat.add_sub_cancel_left, askd_all r (fun y hy => h y (List.mem_cons_of_mem _ hy)), List.map_cons, Nat.zero_add]
  rfl
theorem lyg_sum (bs : List Int) : ∀ (k p sz : Nat), k = cnt sz → (lyg bs k p sz).all (·.2) = true → sumN ((lyg bs k p sz).map (·.1)) = sz ∧ ∀ c ∈ (lyg bs k p sz).map (·.1), 0 < pn c
 | 0, p, sz, hk, h => by
  have h0 : sz = 0 := by unfold cnt at hk; omega
  rw [lyg] at h ⊢
  split at h
  ·simp at h
  ·rename_i hp
   rw [if_neg hp, h0]
   exact ⟨rfl, fun c hc => by simp at hc⟩
 | k + 1, p, sz, hk, h => by
  have hz : 0 < sz := by unfold cnt at hk; omega
  have hk2 : k = cnt (sz - min sz 8192) := by have := cnt_pos hz; omega
  rw [lyg] at h ⊢
  by_cases ht : (cAt bs p ((min sz 8192 : Nat) : Int)).2 = true
  ·rw [if_pos ht] at h ⊢
   obtain ⟨e0, e1, _⟩ := cAt_true ht
   rw [List.all_cons, Bool.and_eq_true] at h
   obtain ⟨h1, h2⟩ := lyg_sum bs k _ _ hk2 h.2
   have hp : pn (cAt bs p ((min sz 8192 : Nat) : Int)).1 = min sz 8192 := by rw [e0]; unfold pn; rw [e1]; omega
   rw [List.map_cons, sumN, h1, hp]
   refine ⟨by omega, fun c hc => ?_⟩
   rcases List.mem_cons.1 hc with rfl | hc
   ·rw [hp]; omega
   ·exact h2 c hc
  ·rw [if_neg ht, List.all_cons, Bool.and_eq_true] at h
   exact absurd h.1 ht
theorem cks_sum {bs : List Int} {f t s : Int} (h : (cks bs f t s).2 = 0) : 0 ≤ s ∧ ((sumN (cks bs f t s).1 : Nat) : Int) = s ∧ ∀ c ∈ (cks bs f t s).1, 0 < pn c := by
 unfold cks at h ⊢
 by_cases h1 : f < 0 ∨ t < f ∨ (bs.length : Int) < t ∨ s < 0 ∨ 16777216 < s
 ·rw [if_pos h1] at h; cases h
 ·rw [if_neg h1] at h ⊢
  by_cases h2 : (lygs bs f t s).all (·.2) = true
  ·rw [if_pos h2]
   have h3 := lyg_sum (bs.take t.toNat) (cnt s.toNat) f.toNat s.toNat rfl h2
   refine ⟨by omega, ?_, h3.2⟩
   have h4 : sumN ((lygs bs f t s).map (·.1)) = s.toNat := h3.1
   simp only
   rw [h4]; omega
  ·rw [if_neg h2] at h; cases h
/-- all that chunks tell, one behind the other -/
def tellA (bs : List Int) : List Ck → List Int → List Int × Int
 | [], out => (out, 0)
 | c :: r, out => if (chk bs c).2 ≠ 0 then ([], (chk bs c).2) else tellA bs r (out ++ (chk bs c).1)
theorem tellA_told (bs : List Int) : ∀ (l : List Ck) (out : List Int), told bs (l.map (fun c => (c, 0, pn c))) out = tellA bs l out
 | [], out => rfl
 | c :: r, out => by
  rw [List.map_cons, told, tellA]
  simp only
  by_cases h : (chk bs c).2 = 0
  ·rw [if_neg (by simpa using h), if_neg (by simpa using h), tellA_told bs r]
   have h1 := chk_len h
   rw [List.drop_zero, Nat.sub_zero, List.take_of_length_le (by omega)]
  ·rw [if_pos h, if_pos h]
theorem dcd_tell {bs : List Int} {f t s : Int} (h : (cks bs f t s).2 = 0) : dcd bs f t s = tellA bs (cks bs f t s).1 [] := by
 obtain ⟨h0, h1, h2⟩ := cks_sum h
 unfold dcd slc
 rw [if_neg (by simpa using h), if_neg (by omega), show (0 : Int).toNat = 0 from rfl, show s.toNat = sumN (cks bs f t s).1 by omega, askd_all _ h2, tellA_told]
set_option maxHeartbeats 4000000 in
theorem rdecode14_any (a : Option Addr) (len cap : Nat) (bs : List Int) (from_ to_ size : Int) (w : World) (B : Byte w a len cap bs) (hl : len ≤ 16777216) :
  Calls Try.prog 12 #[.slice a len cap, .int .i64 from_, .int .i64 to_, .int .i64 size] w (UPost w (dcd bs from_ to_ size)) := by
 have hC := rchunks14_any a len cap bs from_ to_ size w B hl
 have hok := cks_ok B.row.byt (by rw [B.row.len_eq]; exact hl) from_ to_ size
 have hsz := cks_size (bs := bs) (from_ := from_) (to_ := to_) (size := size)
 have hdt := dcd_tell (bs := bs) (f := from_) (t := to_) (s := size)
 have hde : (cks bs from_ to_ size).2 ≠ 0 → dcd bs from_ to_ size = ([], (cks bs from_ to_ size).2) := fun h => by unfold dcd; rw [if_pos h]
 generalize dcd bs from_ to_ size = A at hdt hde ⊢
 generalize cks bs from_ to_ size = r at hC hok hsz hdt hde
 obtain ⟨l, er⟩ := r
 simp only at hok hsz hdt hde
 by_cases he : er = 0
 ·subst he
  have HA : Hid _ := hdt rfl
  clear hdt hde
  go_enter Try.func12, Try.ntmps12
  go_wp2_with fail
  refine hC.mono ?_
  rintro e w1 ⟨a1, n1, c1, rfl, K1, hnc, g1⟩
  have hkl := K1.len_eq
  have HG1 : Hid _ := g1
  have HK : Hid _ := K1
  clear hC g1 K1
  simp only
  go_wp2
  go_loopw [12, 13, 14, 15] (fun vo vi _ _ wr => ∃ (j : Nat) (out : List Int), vi = .int .i64 (j : Int) ∧ j ≤ n1 ∧ out.length ≤ 8192 * j ∧ Byt out ∧ wr.ownsRow w1.heap.size 5 1 vo out.length (bv out) ∧
   Hid (A = tellA bs (l.drop j) out) ∧ Hid (w1.grownBy wr none)) (fun _ vi _ _ _ => n1 - (intOf vi).toNat)
  case atStart => exact ⟨0, [], rfl, Nat.zero_le _, Nat.le_refl _, (fun x hx => by simp at hx), World.ownsRow_nil _ _ _ _, HA, World.grownBy.refl _ _⟩
  case round =>
   obtain ⟨j, out, rfl, hj, hol, hby, hown, HE, HG0⟩ := hrel
   have HKr : Hid _ := HK.out.grown HG0.out
   have HG : Hid _ := grown_trans HG1.out HG0.out
   clear HK HG1 HA
   by_cases h0 : j < n1
   ·have h0i : (j : Int) < (n1 : Int) := by omega
    obtain ⟨b, off, rfl, hc⟩ := HKr.out.cells (by omega)
    obtain ⟨c, hcj⟩ : ∃ c, l[j]? = some c := ⟨_, List.getElem?_eq_getElem (by omega)⟩
    obtain ⟨y0, y1, y2, y3, y4⟩ := hc j c hcj
    have hdr : l.drop j = c :: l.drop (j + 1) := by
     rw [List.drop_eq_getElem_cons (by omega)]
     rw [List.getElem?_eq_getElem (by omega)] at hcj
     injection hcj with hcj
     rw [hcj]
    have hE := HE.out
    rw [hdr, tellA] at hE
    have hcok := hok c (List.mem_of_getElem? hcj)
    have hU := rchk14_any a len cap bs c wr (B.grown HG.out) hl hcok
    have hCL := chk_len (bs := bs) (c := c)
    unfold Ck.val at hU
    generalize chk bs c = rr at hU hE hCL
    obtain ⟨rb, er⟩ := rr
    simp only at hE hCL
    clear hc hcj hdr hcok HE
    by_cases he : er = 0
    ·subst he
     rw [if_neg (by simp)] at hE
     obtain ⟨hC1, hC2⟩ := hCL rfl
     have HE : Hid _ := hE
     clear hE hCL
     go_wp2_with fail
     refine hU.mono ?_
     rintro e w6 ⟨a5, n5, c5, rfl, B5, g6⟩
     have hown6 := own_turn14 hown g6 (fun r e => by cases e)
     have hn5 : rb.length = n5 := B5.row.len_eq
     have HG6 : Hid _ := grown_trans HG.out g6
     have HG06 : Hid _ := grown_trans HG0.out g6
     have HB6 : Hid _ := B5
     have hl8 : n5 ≤ 8192 := by omega
     have hrby := B5.row.byt
     have HRB : Hid _ := Byt.append hby hrby
     have HOL : Hid ((out ++ rb).length = out.length + n5) := by show _ = _; rw [List.length_append, hn5]
     clear hU g6 B5 hown HG HKr HG0 y0 y1 y2 y3 y4 hC1 hC2 hrby hn5
     obtain ⟨i5, hi, hz0, hz1, hz2⟩ := info_parts Try.info5
     simp only
     go_wp2_with (at_builtin; refine wpList_append8 rfl _ _ 22 rfl w1.heap.size i5 Try.underlying22 hi hz0 hz1 hz2 _ out.length (bv out) rfl hown6 _ n5 c5 rb rfl HB6.out.row HB6.out.nil (by omega) HG06.out.size ?_; intro v' w7 hown' hgrow)
     refine ⟨⟨j + 1, out ++ rb, by go_num, by omega, by rw [HOL.out]; omega, HRB.out, ?_, HE, ?_⟩, by simp [intOf]; omega⟩
     ·rw [HOL.out, bv_append]; exact hown'
     ·exact grown_turn14 HG06.out hgrow (Nat.le_refl _) (fun r e => (hown6.lt r e).1)
    ·rw [if_pos he] at hE
     have hen : (er != 0) = true := by simpa using he
     subst hE
     clear hCL
     go_wp2_with fail
     refine hU.mono ?_
     rintro e w6 ⟨a5, n5, c5, rfl, B5, g6⟩
     have HG6 : Hid _ := grown_trans HG.out g6
     clear hU g6 B5 HG HKr
     simp only
     go_wp2
     go_returns
     exact upost_none HG6.out
   ·obtain rfl : n1 = j := by omega
    have h0i : ¬ (n1 : Int) < (n1 : Int) := by omega
    obtain ⟨a3, c3, rfl, B3⟩ := byte_own (n := out.length) (bs := out) hown hby (by unfold maxLen; omega)
    have HB3 : Hid _ := B3
    have hE := HE.out
    rw [List.drop_of_length_le (by omega), tellA] at hE
    subst hE
    clear HE B3 hown
    go_wp2
    go_returns
    exact ⟨_, _, _, rfl, HB3.out, HG.out⟩
 ·have hA := hde he
  have hen : (er != 0) = true := by simpa using he
  subst hA
  go_enter Try.func12, Try.ntmps12
  go_wp2_with fail
  refine hC.mono ?_
  rintro e w1 ⟨a1, n1, c1, rfl, K1, hnc, g1⟩
  have HG : Hid _ := g1
  clear hC g1 K1
  simp only
  go_wp2
  go_returns
  exact upost_none HG.out
end Go.Proofs.Ytkkigpobhagnfaa
