/- The page's example (live), num. The walk of LzDecodes. The document's Right, where it says yes; its Unpack. Variables of several cells, loaded and stored whole. What a chunk tells (the document's Chunk). Plain facts: a text told by sequences, one more at a time. The packer, as plain functions. The program's slot and alike. -/
import Derived.Deep.WholeRow
import Derived.Deep.RegionHeld3
import Derived.BigRegion
import Derived.BigQuiet
import Derived.Test.YtkkigpobhagnfaaK01
import Derived.Test.YtkkigpobhagnfaaK02
import Derived.Test.YtkkigpobhagnfaaK03
import Derived.Test.YtkkigpobhagnfaaK04
namespace Go.Proofs.Ytkkigpobhagnfaa
open Go.RowKit
set_option maxRecDepth 100000
set_option linter.unusedSimpArgs false
set_option linter.unusedVariables false
def ex1 : List Int := [32, 97, 98, 2, 0, 16, 99]
def ex2 : List Int := [16, 97, 0, 0]
theorem byt_ex1 : Byt ex1 := by unfold ex1; intro x hx; simp at hx; omega
theorem byt_ex2 : Byt ex2 := by unfold ex2; intro x hx; simp at hx; omega
theorem pdec_ex1 : pdec ex1 100 = ([97, 98, 97, 98, 97, 98, 99], [([97, 98], 2, 4), ([99], 0, 0)], 0, 7) := by decide
theorem pdec_ex2 : pdec ex2 100 = ([], [], 9, 2) := by decide
theorem IsRow.byte {w : World} {a : Option Addr} {len cap : Nat} {zs : List Int} (h : IsRow .u8 w a len cap zs) : Byte w a len cap (zs.take len) := by
 refine ⟨h.row, h.nilcap, ?_, ?_⟩
 ·rcases h with ⟨rfl, rfl, rfl, rfl⟩ | ⟨x, rfl, hl, hm, _⟩
  ·exact Nat.le_refl _
  ·exact hl
 ·rcases h with ⟨rfl, rfl, rfl, rfl⟩ | ⟨x, rfl, hl, hm, _⟩
  ·exact Nat.zero_le _
  ·exact hm
theorem Byte.grown {w w' : World} {a : Option Addr} {n c : Nat} {xs : List Int} (h : Byte w a n c xs) (hg : w.grownBy w' none) : Byte w' a n c xs := ⟨h.row.grown hg, h.nil, h.nc, h.cm⟩
theorem byte_own {w : World} {base n : Nat} {v : Value} {bs : List Int} (h : w.ownsRow base 5 1 v n (bv bs)) (hb : Byt bs) (hl : n ≤ maxLen) : ∃ a c, v = .slice a n c ∧ Byte w a n c bs := by
 obtain ⟨a, c, e, h1, h2, h3⟩ := owns_form h
 obtain ⟨a', c', e', R⟩ := owns_row h hb hl
 rw [e] at e'
 injection e' with e1 e2 e3
 subst e1 e3
 refine ⟨a, c, e, R, ?_, h1, h2⟩
 intro e0
 rcases h3 with ⟨_, _, h⟩ | ⟨g, h, _⟩
 ·exact h
 ·rw [h] at e0; cases e0
theorem pdec_byt {bs : List Int} (hb : Byt bs) (most : Int) : Byt (pdec bs most).1 := by
 unfold pdec
 split
 ·intro x hx; simp at hx
 ·exact dec_byt bs hb _ _ _ _ _ (fun x hx => by simp at hx)
/-- how a block must end: the last two sequences -/
def Ends (qs : List Sq) : Prop := qs.length = 1 ∨ ∃ pre p l, qs = pre ++ [p, l] ∧ 5 ≤ l.1.length ∧ 12 ≤ (l.1.length : Int) + p.2.2
/-- may these be a text's sequences? -/
structure Enc (bs : List Int) (qs : List Sq) : Prop where
 ne : qs ≠ []
 ok : Jok qs 0
 un : unp qs [] = bs
 ends : Ends qs
theorem Enc.le {bs : List Int} {qs : List Sq} (h : Enc bs qs) (hl : bs.length ≤ 1048576) : ((jcat qs).length : Int) ≤ bnd bs.length := by
 have := jcat_bnd h.ne h.ok (by rw [h.un]; exact hl)
 rwa [h.un] at this
theorem Enc.dec {bs : List Int} {qs : List Sq} (h : Enc bs qs) (hb : Byt (jcat qs)) : dec (jcat qs) bs.length ((jcat qs).length + 1) [] [] 0 = (bs, qs, 0, ((jcat qs).length : Int)) := by
 have h1 := dec_of_join qs h.ne h.ok 1048576 (Int.le_refl _)
 have h2 := dec_again hb (M := 1048576) (f := (jcat qs).length + 1) (by rw [h1]) (by omega)
 rw [h1, h.un] at h2
 exact h2

theorem jok_mid {pre : List Sq} {p l : Sq} {size : Int} (h0 : 0 ≤ size) (h : Jok (pre ++ [p, l]) size) : p.2.2 ≤ 1048576 ∧ 0 ≤ p.2.2 := by
 induction pre generalizing size with
 | nil => have := jerr_more h.1; omega
 | cons q r ih =>
  obtain ⟨h1, h2⟩ := h
  have e : (r ++ [p, l]).isEmpty = false := by cases r <;> rfl
  change jerr (r ++ [p, l]).isEmpty size q = 0 at h1
  rw [e] at h1
  have := jerr_more h1
  exact ih (by omega) h2
theorem jok_end {pre : List Sq} {p l : Sq} {size : Int} (h0 : 0 ≤ size) (h : Jok (pre ++ [p, l]) size) : l.1.length ≤ 1048576 := by
 induction pre generalizing size with
 | nil => have h1 := jerr_more h.1; have := jerr_last h.2.1; omega
 | cons q r ih =>
  obtain ⟨h1, h2⟩ := h
  have e : (r ++ [p, l]).isEmpty = false := by cases r <;> rfl
  change jerr (r ++ [p, l]).isEmpty size q = 0 at h1
  rw [e] at h1
  have := jerr_more h1
  exact ih (by omega) h2
theorem tol_lin {n : Int} (h : 0 ≤ n) : ((tol n).length : Int) ≤ n := by
 by_cases h1 : n < 15
 ·rw [tol_none h1]; omega
 ·rw [tol_big (by omega)]; omega
/-- Unpack, as a plain function -/
def unpk (bs : List Int) (packed : Bool) (most : Int) : List Int × Int :=
 if most < 0 ∨ 1048576 < most then ([], 1) else if packed then ((dec bs most (bs.length + 1) [] [] 0).1, (dec bs most (bs.length + 1) [] [] 0).2.2.1) else if most < bs.length then ([], 2) else (bs, 0)
def UPost (w : World) (r : List Int × Int) (e : Ending) (w' : World) : Prop := ∃ a n c, e = .returned (.tuple #[.slice a n c, .int .i64 r.2]) ∧ Byte w' a n c r.1 ∧ w.grownBy w' none
theorem upost_none {w w' : World} {er : Int} (h : w.grownBy w' none) : UPost w ([], er) (.returned (.tuple #[.slice none 0 0, .int .i64 er])) w' :=
 ⟨none, 0, 0, rfl, ⟨Row.none0 _, fun _ => rfl, Nat.le_refl _, Nat.zero_le _⟩, h⟩
set_option maxHeartbeats 1000000 in
theorem runpack_any (a : Option Addr) (len cap : Nat) (bs : List Int) (packed : Bool) (most : Int) (w : World) (B : Byte w a len cap bs) (hl : len ≤ 16777216) (hm : -9223372036854775808 ≤ most ∧ most ≤ 9223372036854775807) :
  Calls Try.prog 33 #[.slice a len cap, .bool packed, .int .i64 most] w (UPost w (unpk bs packed most)) := by
 have hlb := B.row.len_eq
 by_cases h0 : most < 0 ∨ 1048576 < most
 ·have e : unpk bs packed most = ([], 1) := by unfold unpk; rw [if_pos h0]
  rw [e]
  rcases h0 with h0 | h0
  all_goals
   go_enter Try.func33, Try.ntmps33
   go_wp2
   go_ret2
   exact upost_none (World.grownBy.refl _ _)
 ·cases packed with
  | true =>
   have e : unpk bs true most = ((dec bs most (len + 1) [] [] 0).1, (dec bs most (len + 1) [] [] 0).2.2.1) := by unfold unpk; rw [if_neg h0, if_pos rfl, hlb]
   rw [e]
   have hd := decode_any a len cap bs most w B.row hl B.nc B.cm (by omega)
   have hkp := dec_keeps bs most (len + 1) [] [] 0 (by omega)
   have hby := dec_byt bs B.row.byt most (len + 1) [] [] 0 (fun x hx => by simp at hx)
   generalize dec bs most (len + 1) [] [] 0 = r at hd hkp hby ⊢
   obtain ⟨ro, rs, re, rp⟩ := r
   simp only at hkp hby ⊢
   clear e B hlb
   go_enter Try.func33, Try.ntmps33
   go_wp2_with fail
   refine hd.mono ?_
   intro e w1 k1
   obtain ⟨vo, vl, ss, rfl, S⟩ := k1
   simp only at S
   obtain ⟨a3, c3, rfl, B3⟩ := byte_own (n := ro.length) (bs := ro) S.oo hby (by unfold maxLen; omega)
   have HS : Hid _ := And.intro B3 S.g
   clear S B3 hd
   simp only
   go_wp2
   go_ret2
   exact ⟨_, _, _, rfl, HS.out.1, HS.out.2⟩
  | false =>
   by_cases h1 : most < len
   ·have e : unpk bs false most = ([], 2) := by unfold unpk; rw [if_neg h0, if_neg (by decide), if_pos (by rw [hlb]; exact h1)]
    rw [e]
    clear hlb
    go_enter Try.func33, Try.ntmps33
    go_wp2
    go_ret2
    exact upost_none (World.grownBy.refl _ _)
   ·have e : unpk bs false most = (bs, 0) := by unfold unpk; rw [if_neg h0, if_neg (by decide), if_neg (by rw [hlb]; exact h1)]
    rw [e]
    have HB : Hid _ := B
    clear hlb B
    go_enter Try.func33, Try.ntmps33
    go_wp2
    go_ret2
    exact ⟨_, _, _, rfl, HB.out, World.grownBy.refl _ _⟩
theorem grown_setRow (w : World) (g : Nat) (cs : Array Value) : w.grownBy (w.setRow g cs) (some g) := ⟨rfl, rfl, rfl, by simp, fun k hk hne => setRow_other w g k _ (fun e => hne (by rw [e]))⟩
theorem wpList_loadB {P : Program} {ops : Array Oper} {rest : List Oper} {o : Oper} {a : Act} {w : World} {Q : Exit → Act → World → Prop} (hgd : o.guard = none) (ty : TypeId) (x : Operand) (ho : o.op = .load ty x)
  (g : Nat) (hx : a.eval x = .pointer (some ⟨g, 0, none⟩)) {T : TypeId} {cs : List Value} (hb : Bx w g T cs) {d : TypeDesc} (hu : P.underlying ty = some d) (hd : (match d with | .struct _ | .array _ _ => true | _ => false) = true) (hi : (P.info? ty).map (·.size) = some cs.toArray.size)
  (h : wpList P ops Q rest (a.put o.dst (.agg cs.toArray)) w) : wpList P ops Q (o :: rest) a w :=
 wpList_load_row hgd ty x ho g hx T cs.toArray (0, 0) d hb.blk hu hd hi h
theorem wpList_storeB {P : Program} {ops : Array Oper} {rest : List Oper} {o : Oper} {a : Act} {w : World} {Q : Exit → Act → World → Prop} (hgd : o.guard = none) (ty : TypeId) (x y : Operand) (ho : o.op = .store ty x y)
  (g : Nat) (cs : List Value) (hx : a.eval x = .pointer (some ⟨g, 0, none⟩)) (hy : a.eval y = .agg cs.toArray) {T : TypeId} {old : List Value} (hb : Bx w g T old) (hi : (P.info? ty).map (·.size) = some cs.toArray.size)
  (hl : old.length = cs.length) (h1 : cs.all (·.oneCell') = true)
  (h : ∀ W', Bx W' g T cs → w.grownBy W' (some g) → wpList P ops Q rest (a.put o.dst undef) W') : wpList P ops Q (o :: rest) a w :=
 wpList_store_row hgd ty x y ho g cs.toArray hx hy T old.toArray hb.blk hi (by simp [hl]) (by rw [List.all_toArray]; exact h1) (h _ ⟨setRow_heap _ _ _ _ _ _ hb.blk⟩ (grown_setRow w g cs.toArray))
theorem wpList_index {P : Program} {w : World} {ops : Array Oper} {rest : List Oper} {o : Oper} {a : Act} {Q : Exit → Act → World → Prop} (hg : o.guard = none) (t : TypeId) (x y : Operand) (ho : o.op = .index t x y)
  (u v r : Value) (hx : a.eval x = u) (hy : a.eval y = v) (hr : (Instr.index t u v).run P w = .ok r w)
  (hk : wpList P ops Q rest (a.put o.dst r) w) : wpList P ops Q (o :: rest) a w := by
 refine wpList_plain hg fun K' hK' => ?_
 unfold Oper.wp
 simp only [execOp, ho, hx, hy, Sem.run_bind, hr, Result.andThen]
 exact hK' _ _ hk
/-- what is stored of a chunk -/
def stoC (bs : List Int) (c : Ck) : List Int := (bs.drop (c.at_.toNat + 8)).take c.st.toNat
/-- what a chunk tells, as a plain function -/
def chk (bs : List Int) (c : Ck) : List Int × Int :=
 if rgt c = false then ([], 1) else if wthn bs.length c = false then ([], 9)
 else if crc ent 0 (stoC bs c) ≠ c.cr then ([], 140)
 else if (unpk (stoC bs c) c.pk c.pl).2 ≠ 0 ∨ ((unpk (stoC bs c) c.pk c.pl).1.length : Int) ≠ c.pl then ([], 6)
 else ((unpk (stoC bs c) c.pk c.pl).1, 0)
theorem stoC_len {bs : List Int} {c : Ck} (hr : rgt c = true) (hw : wthn bs.length c = true) : (stoC bs c).length = c.st.toNat := by
 have h := rgt_iff.1 hr
 unfold wthn at hw
 rw [decide_eq_true_eq] at hw
 unfold stoC
 rw [List.length_take, List.length_drop]
 omega
theorem Byte.part14 {w : World} {b off len cap : Nat} {bs : List Int} (B : Byte w (some ⟨b, off, none⟩) len cap bs) (k n : Nat) (hn : k + n ≤ len) : Byte w (some ⟨b, off + k, none⟩) n (cap - k) ((bs.drop k).take n) :=
 ⟨B.row.part k n hn, fun h => by (cases h), by have := B.nc; omega, by have := B.cm; omega⟩
theorem bxa (w : World) (T : TypeId) (cs : List Value) : Bx (w.alloc (.cells cs.toArray T)) w.heap.size T cs := ⟨heap_alloc_new _ _⟩
theorem quiet_eq14 {P : Program} {f : FuncId} {args : Array Value} {w : World} {n : Nat} {v : Value} (h : Calls P f args (w.drewN n) fun e w' => e = .returned v ∧ w.drewN n = w') : Calls P f args (w.drewN n) fun e w'' => e = .returned v ∧ ∃ m, w'' = w.drewN m :=
 h.mono fun e w' ⟨he, hw⟩ => ⟨he, n, hw.symm⟩
theorem ckx {W : World} {q : Nat} {T : TypeId} {at_ pl st : Int} {pk : Bool} {cr : Nat} (h : Bx W q T [.int .i64 at_, .int .i64 pl, .int .i64 st, .bool pk, .int .u32 (cr : Int)]) :
  W.cell? ⟨q, 0, none⟩ = some (.int .i64 at_) ∧ W.cell? ⟨q, 1, none⟩ = some (.int .i64 pl) ∧ W.cell? ⟨q, 2, none⟩ = some (.int .i64 st) ∧ W.cell? ⟨q, 3, none⟩ = some (.bool pk) ∧ W.cell? ⟨q, 4, none⟩ = some (.int .u32 (cr : Int)) :=
 ⟨h.c 0, h.c 1, h.c 2, h.c 3, h.c 4⟩
set_option maxHeartbeats 2000000 in
theorem rchk14_any (a : Option Addr) (len cap : Nat) (bs : List Int) (c : Ck) (w : World) (B : Byte w a len cap bs) (hl : len ≤ 16777216) (hc : c.ok) :
  Calls Try.prog 18 #[.slice a len cap, c.val] w (UPost w (chk bs c)) := by
 have hlb := B.row.len_eq
 have hR := fun w => rright14_any c w
 have hlen : bs.length = len := hlb
 have hsl := stoC_len (bs := bs) (c := c)
 have hrg := rgt_iff (c := c)
 unfold chk
 have hst : stoC bs c = (bs.drop (c.at_.toNat + 8)).take c.st.toNat := rfl
 obtain ⟨at_, pl, st, pk, cr⟩ := c
 unfold Ck.val at hR ⊢
 obtain ⟨⟨ha0, ha1⟩, ⟨hp0, hp1⟩, ⟨hs0, hs1⟩, hcr⟩ := hc
 simp only at ha0 ha1 hp0 hp1 hs0 hs1 hcr hR hrg hst hsl ⊢
 have GA := World.grownBy_alloc w (.cells #[.int .i64 at_, .int .i64 pl, .int .i64 st, .bool pk, .int .u32 (cr : Int)] 39) none
 have BX := bxa w 39 [.int .i64 at_, .int .i64 pl, .int .i64 st, .bool pk, .int .u32 (cr : Int)]
 by_cases hr : rgt ⟨at_, pl, st, pk, cr⟩ = false
 ·rw [if_pos hr]
  rw [hr] at hR
  clear hrg hsl hst
  go_enter Try.func18, Try.ntmps18
  go_wp2_with fail
  refine (hR _).mono ?_
  rintro e w1 ⟨rfl, g1⟩
  go_wp2_with fail
  go_returns
  exact upost_none (grown_trans GA g1)
 ·rw [if_neg hr]
  rw [Bool.not_eq_false] at hr
  obtain ⟨h0, ⟨h1, h2⟩, ⟨h3, h4⟩, h5⟩ := hrg.1 hr
  rw [hr] at hR
  by_cases hw : wthn bs.length ⟨at_, pl, st, pk, cr⟩ = false
  ·rw [if_pos hw]
   have hw2 : ¬ at_ ≤ (len : Int) - 8 - st := by unfold wthn at hw; rw [decide_eq_false_iff_not, hlb] at hw; exact hw
   clear hrg hsl hst hw
   by_cases hw3 : (len : Int) < at_
   ·go_enter Try.func18, Try.ntmps18
    go_wp2_with fail
    refine (hR _).mono ?_
    rintro e w1 ⟨rfl, g1⟩
    obtain ⟨c0, c1, c2, c3, c4⟩ := ckx (BX.kept g1)
    have HG : Hid _ := grown_trans GA g1
    clear GA BX g1 hR h1 h2 h5
    go_wp2_with fail
    go_returns
    exact upost_none HG.out
   ·go_enter Try.func18, Try.ntmps18
    go_wp2_with fail
    refine (hR _).mono ?_
    rintro e w1 ⟨rfl, g1⟩
    obtain ⟨c0, c1, c2, c3, c4⟩ := ckx (BX.kept g1)
    have HG : Hid _ := grown_trans GA g1
    have hw4 : (len : Int) - at_ < 8 + st := by omega
    clear GA BX g1 hR h1 h2 h5 hw2
    go_wp2_with fail
    go_returns
    exact upost_none HG.out
  ·rw [if_neg hw]
   rw [Bool.not_eq_false] at hw
   have hln := hsl hr hw
   have hw2 : at_ ≤ (len : Int) - 8 - st := by unfold wthn at hw; rw [decide_eq_true_eq, hlb] at hw; exact hw
   obtain ⟨p, rfl⟩ := Int.eq_ofNat_of_zero_le h0
   obtain ⟨k, rfl⟩ : ∃ k : Nat, st = (k : Int) := ⟨st.toNat, by omega⟩
   obtain ⟨b, off, rfl, _⟩ := B.row.cells (by omega)
   have BS := B.part14 (p + 8) k (by omega)
   rw [Int.toNat_natCast, Int.toNat_natCast] at hst
   rw [Int.toNat_natCast] at hln
   rw [← hst] at BS
   generalize stoC bs ⟨(p : Int), pl, (k : Int), pk, cr⟩ = sb at BS hln ⊢
   have hU := fun W (G : w.grownBy W none) => runpack_any _ k _ sb pk pl W (BS.grown G) (by omega) ⟨hp0, hp1⟩
   have hC := fun W (G : w.grownBy W none) => refcrc_any 0 _ k (cap - (p + 8)) sb W (BS.row.grown G) (by decide)
   have hnc := B.nc
   have hcm := B.cm
   clear hrg hsl hst hw BS hr B
   by_cases hs : crc ent 0 sb = cr
   ·rw [if_neg (by simp [hs])]
    subst hs
    generalize unpk sb pk pl = r at hU ⊢
    obtain ⟨rb, re⟩ := r
    simp only at hU ⊢
    obtain ⟨A, hA⟩ : ∃ A : List Int × Int, A = (if re ≠ 0 ∨ (rb.length : Int) ≠ pl then (([] : List Int), (6 : Int)) else (rb, 0)) := ⟨_, rfl⟩
    rw [← hA]
    have HA : Hid _ := hA
    clear hA
    go_enter Try.func18, Try.ntmps18
    go_wp2_with fail
    refine (hR _).mono ?_
    rintro e w1 ⟨rfl, g1⟩
    have BX1 := BX.kept g1
    have HG : Hid _ := grown_trans GA g1
    obtain ⟨c0, c1, c2, c3, c4⟩ := ckx BX1
    have HX : Hid _ := BX1
    clear GA BX g1 hR BX1
    have hC1 := fun n => hC (w1.drewN n) (grown_drewN5 HG.out n)
    clear hC
    go_wp2_with fail
    go_quiet (first | (go_at_call 32; exact quiet_eq14 (hC1 _)))
    have g2 := grown_drewN5 HG.out nq
    obtain ⟨k0, k1, k2, k3, k4⟩ := ckx (HX.out.kept (grown_drewN5 (World.grownBy.refl w1 none) nq))
    have HX2 : Hid _ := HX.out.kept (grown_drewN5 (World.grownBy.refl w1 none) nq)
    generalize w1.drewN nq = w2 at g2 k0 k1 k2 k3 k4 HX2 ⊢
    have hU1 := hU w2 g2
    have HG2 : Hid _ := g2
    clear hU hC1 HX HG c0 c1 c2 c3 c4 g2
    go_wp2_with fail
    refine hU1.mono ?_
    rintro e w3 ⟨a3, n3, d3, rfl, B3, g3⟩
    obtain ⟨k0, k1, k2, k3, k4⟩ := ckx (HX2.out.kept g3)
    have hn3 := B3.row.len_eq
    have HB : Hid _ := And.intro B3 (grown_trans HG2.out g3)
    clear B3 g3 hU1 HX2 HG2
    by_cases he : re = 0
    ·subst he
     by_cases hn : (n3 : Int) = pl
     ·have hA := HA.out
      rw [if_neg (by simp [hn3, hn])] at hA
      subst hA
      clear HA
      go_wp2_with fail
      go_returns
      exact ⟨_, _, _, rfl, HB.out.1, HB.out.2⟩
     ·have hA := HA.out
      rw [if_pos (Or.inr (by rw [hn3]; exact hn))] at hA
      subst hA
      clear HA
      go_wp2_with fail
      go_returns
      exact upost_none HB.out.2
    ·have hA := HA.out
     rw [if_pos (Or.inl he)] at hA
     subst hA
     clear HA
     go_wp2_with fail
     go_returns
     exact upost_none HB.out.2
   ·rw [if_pos hs]
    have hs' : ((crc ent 0 sb : Nat) : Int) ≠ (cr : Int) := fun e => hs (by omega)
    clear hU
    go_enter Try.func18, Try.ntmps18
    go_wp2_with fail
    refine (hR _).mono ?_
    rintro e w1 ⟨rfl, g1⟩
    have BX1 := BX.kept g1
    have HG : Hid _ := grown_trans GA g1
    obtain ⟨c0, c1, c2, c3, c4⟩ := ckx BX1
    clear GA BX g1 hR BX1
    have hC1 := fun n => hC (w1.drewN n) (grown_drewN5 HG.out n)
    clear hC
    go_wp2_with fail
    go_quiet (first | (go_at_call 32; exact quiet_eq14 (hC1 _)))
    go_wp2_with fail
    go_returns
    exact upost_none (grown_drewN5 HG.out _)
/-- a copy of what is there already -/
theorem cpy_match {bs : List Int} {pos off m : Nat} (ho : 1 ≤ off ∧ off ≤ pos) (hm : pos + m ≤ bs.length) (h : ∀ i, i < m → bs.getD (pos - off + i) 0 = bs.getD (pos + i) 0) : cpy off m (bs.take pos) = bs.take (pos + m) := by
 induction m generalizing pos with
 | zero => rfl
 | succ m ih =>
  have hl : (bs.take pos).length = pos := by simp; omega
  have h0 := h 0 (by omega)
  rw [Nat.add_zero, Nat.add_zero] at h0
  rw [cpy, hl, getD_take bs pos (pos - off) (by omega), h0, ← take_snocI bs pos (by omega), ih (pos := pos + 1) (by omega) (by omega)]
  ·congr 1; omega
  ·intro i hi
   have := h (i + 1) (by omega)
   rw [show pos + 1 - off + i = pos - off + (i + 1) by omega, show pos + 1 + i = pos + (i + 1) by omega]
   exact this
/-- sequences none of which is the last -/
def JM : List Sq → Int → Prop
 | [], _ => True
 | q :: r, size => jerr false size q = 0 ∧ JM r (size + q.1.length + q.2.2)
def jcm : List Sq → List Int
 | [] => []
 | q :: r => jbytes false q ++ jcm r
theorem jcm_snoc (qs : List Sq) (q : Sq) : jcm (qs ++ [q]) = jcm qs ++ jbytes false q := by
 induction qs with
 | nil => simp [jcm]
 | cons x r ih => simp only [List.cons_append, jcm, ih, List.append_assoc]
theorem tot_snoc (qs : List Sq) (q : Sq) : tot (qs ++ [q]) = tot qs + (q.1.length + q.2.2) := by
 induction qs with
 | nil => simp [tot]
 | cons x r ih => simp only [List.cons_append, tot, ih]; omega
theorem JM.snoc {qs : List Sq} {q : Sq} {size : Int} (h : JM qs size) (k : jerr false (size + tot qs) q = 0) : JM (qs ++ [q]) size := by
 induction qs generalizing size with
 | nil => exact ⟨by simpa [tot] using k, trivial⟩
 | cons x r ih =>
  refine ⟨h.1, ih h.2 ?_⟩
  rw [tot] at k
  rw [show size + (x.1.length : Int) + x.2.2 + tot r = size + (x.1.length + x.2.2 + tot r) by omega]
  exact k
theorem empty_snoc (qs : List Sq) (q : Sq) : (qs ++ [q]).isEmpty = false := by cases qs <;> rfl
theorem JM.last {qs : List Sq} {q : Sq} {size : Int} (h : JM qs size) (k : jerr true (size + tot qs) q = 0) : Jok (qs ++ [q]) size := by
 induction qs generalizing size with
 | nil => exact ⟨by simpa [tot] using k, trivial⟩
 | cons x r ih =>
  refine ⟨by show jerr (r ++ [q]).isEmpty size x = 0; rw [empty_snoc]; exact h.1, ih h.2 ?_⟩
  rw [tot] at k
  rw [show size + (x.1.length : Int) + x.2.2 + tot r = size + (x.1.length + x.2.2 + tot r) by omega]
  exact k
theorem unp_snoc (qs : List Sq) (q : Sq) (out : List Int) : unp (qs ++ [q]) out = cpy q.2.1.toNat q.2.2.toNat (unp qs out ++ q.1) := by
 induction qs generalizing out with
 | nil => rfl
 | cons x r ih => simp only [List.cons_append, unp, ih]
theorem jcat_snoc (qs : List Sq) (q : Sq) : jcat (qs ++ [q]) = jcm qs ++ jbytes true q := by
 induction qs with
 | nil => simp [jcat, jcm]
 | cons x r ih => simp only [List.cons_append, jcat, jcm, ih, empty_snoc, List.append_assoc]

/-- sequences that tell a text up to a place -/
structure Par (bs : List Int) (qs : List Sq) (p : Nat) : Prop where
 ok : JM qs 0
 un : unp qs [] = bs.take p
 tot : tot qs = p
 le : p ≤ bs.length
theorem Par.nil (bs : List Int) : Par bs [] 0 := ⟨trivial, by simp [unp], rfl, Nat.zero_le _⟩
theorem take_piece (bs : List Int) (p n : Nat) : bs.take p ++ (bs.drop p).take n = bs.take (p + n) := by
 rw [List.take_add]
theorem Par.step {bs : List Int} {qs : List Sq} {p pos off m : Nat} (h : Par bs qs p) (hp : p ≤ pos) (ho : 1 ≤ off ∧ off ≤ pos ∧ off ≤ 65535) (hm : 4 ≤ m ∧ pos + m ≤ bs.length) (hl : bs.length ≤ 1048576)
  (hc : ∀ i, i < m → bs.getD (pos - off + i) 0 = bs.getD (pos + i) 0) : Par bs (qs ++ [((bs.drop p).take (pos - p), (off : Int), (m : Int))]) (pos + m) := by
 have hll : ((bs.drop p).take (pos - p)).length = pos - p := by simp; omega
 refine ⟨h.ok.snoc ?_, ?_, ?_, hm.2⟩
 ·unfold jerr
  rw [h.tot]
  rw [if_neg (by simp; omega), if_neg (by simp only [hll]; omega), if_neg (by simp only [hll]; omega)]
 ·rw [unp_snoc, h.un]
  simp only [Int.toNat_natCast]
  rw [take_piece, show p + (pos - p) = pos by omega]
  exact cpy_match ⟨ho.1, ho.2.1⟩ hm.2 hc
 ·rw [tot_snoc, h.tot]
  simp only [hll]
  omega
theorem Par.fin {bs : List Int} {qs : List Sq} {p : Nat} (h : Par bs qs p) (hl : bs.length ≤ 1048576) : Jok (qs ++ [(bs.drop p, 0, 0)]) 0 ∧ unp (qs ++ [(bs.drop p, 0, 0)]) [] = bs := by
 constructor
 ·refine h.ok.last ?_
  unfold jerr
  rw [h.tot]
  have := h.le
  rw [if_neg (by simp), if_neg (by simp only [List.length_drop]; omega), if_neg (by simp only [List.length_drop]; omega)]
 ·rw [unp_snoc, h.un]
  simp [cpy]
theorem Par.enc {bs : List Int} {qs : List Sq} {p : Nat} (h : Par bs qs p) (hl : bs.length ≤ 1048576) (he : qs = [] ∨ ∃ pre x, qs = pre ++ [x] ∧ p + 5 ≤ bs.length ∧ 12 ≤ (bs.length : Int) - p + x.2.2) : Enc bs (qs ++ [(bs.drop p, 0, 0)]) := by
 obtain ⟨h1, h2⟩ := h.fin hl
 refine ⟨by simp, h1, h2, ?_⟩
 rcases he with rfl | ⟨pre, x, rfl, k1, k2⟩
 ·exact Or.inl rfl
 ·refine Or.inr ⟨pre, x, (bs.drop p, 0, 0), by simp, ?_, ?_⟩
  ·simp; omega
  ·simp only [List.length_drop]; omega
/-- which chain four bytes go into -/
def hsh (a b c d : Int) : Int := bits .or .u32 (bits .or .u32 (bits .or .u32 a (b * 256)) (c * 65536)) (d * 16777216) * 2654435761 % 4294967296 / 524288
theorem hsh_lt (a b c d : Int) : 0 ≤ hsh a b c d ∧ hsh a b c d < 8192 := by
 unfold hsh
 generalize bits .or .u32 (bits .or .u32 (bits .or .u32 a (b * 256)) (c * 65536)) (d * 16777216) = x
 omega
def slt (bs : List Int) (p : Nat) : Nat := (hsh (bs.getD p 0) (bs.getD (p + 1) 0) (bs.getD (p + 2) 0) (bs.getD (p + 3) 0)).toNat
theorem slt_lt (bs : List Int) (p : Nat) : slt bs p < 8192 := by have := hsh_lt (bs.getD p 0) (bs.getD (p + 1) 0) (bs.getD (p + 2) 0) (bs.getD (p + 3) 0); unfold slt; omega
theorem slt_eq (bs : List Int) (p : Nat) : hsh (bs.getD p 0) (bs.getD (p + 1) 0) (bs.getD (p + 2) 0) (bs.getD (p + 3) 0) = (slt bs p : Int) := by have := hsh_lt (bs.getD p 0) (bs.getD (p + 1) 0) (bs.getD (p + 2) 0) (bs.getD (p + 3) 0); unfold slt; omega
/-- one more than the last place ahead of p that goes into chain s; 0: there is none -/
def las (bs : List Int) (s : Nat) : Nat → Nat
 | 0 => 0
 | p + 1 => if slt bs p = s then p + 1 else las bs s p
theorem las_le (bs : List Int) (s p : Nat) : las bs s p ≤ p := by
 induction p with
 | zero => exact Nat.le_refl _
 | succ p ih => rw [las]; split <;> omega
theorem las_ge {bs : List Int} {s q : Nat} (p : Nat) (h : q < p) (hs : slt bs q = s) : q + 1 ≤ las bs s p := by
 induction p with
 | zero => omega
 | succ p ih =>
  rw [las]
  split
  ·omega
  ·rename_i k
   by_cases e : q = p
   ·subst e; exact absurd hs k
   ·exact ih (by omega)
theorem las_slt {bs : List Int} {s : Nat} (p : Nat) (h : 0 < las bs s p) : slt bs (las bs s p - 1) = s := by
 induction p with
 | zero => simp [las] at h
 | succ p ih =>
  rw [las] at h ⊢
  split
  ·rename_i k; simpa using k
  ·rename_i k
   rw [if_neg k] at h
   exact ih h
/-- how many bytes two texts begin with that are the same -/
def alk : List Int → List Int → Nat
 | x :: r, y :: t => if x = y then alk r t + 1 else 0
 | _, _ => 0
theorem alk_le (xs ys : List Int) : alk xs ys ≤ xs.length := by
 induction xs generalizing ys with
 | nil => simp [alk]
 | cons x r ih =>
  cases ys with
  | nil => simp [alk]
  | cons y t =>
   rw [alk]
   split
   ·have := ih t; simp; omega
   ·simp
theorem alk_eq {xs ys : List Int} {i : Nat} (h : i < alk xs ys) : xs.getD i 0 = ys.getD i 0 := by
 induction xs generalizing ys i with
 | nil => simp [alk] at h
 | cons x r ih =>
  cases ys with
  | nil => simp [alk] at h
  | cons y t =>
   rw [alk] at h
   split at h
   ·rename_i e
    cases i with
    | zero => simpa using e
    | succ i => simpa using ih (ys := t) (i := i) (by omega)
   ·omega
theorem alk_at {xs ys : List Int} {j : Nat} (h : ∀ i, i < j → xs.getD i 0 = ys.getD i 0) (hj : j < xs.length) (hy : j < ys.length) (hne : xs.getD j 0 ≠ ys.getD j 0) : alk xs ys = j := by
 induction xs generalizing ys j with
 | nil => simp at hj
 | cons x r ih =>
  cases ys with
  | nil => simp at hy
  | cons y t =>
   rw [alk]
   cases j with
   | zero => rw [if_neg (by simpa using hne)]
   | succ j =>
    rw [if_pos (by simpa using h 0 (by omega)), ih (ys := t) (j := j) (fun i hi => by simpa using h (i + 1) (by omega)) (by simpa using hj) (by simpa using hy) (by simpa using hne)]
theorem alk_all {xs ys : List Int} (h : ∀ i, i < xs.length → xs.getD i 0 = ys.getD i 0) (hy : xs.length ≤ ys.length) : alk xs ys = xs.length := by
 induction xs generalizing ys with
 | nil => simp [alk]
 | cons x r ih =>
  cases ys with
  | nil => simp at hy
  | cons y t =>
   rw [alk, if_pos (by simpa using h 0 (by simp)), ih (ys := t) (fun i hi => by simpa using h (i + 1) (by simp; omega)) (by simpa using hy)]
   simp
/-- what may be copied at a place: all up to the last five bytes -/
def her (bs : List Int) (p : Nat) : List Int := (bs.drop p).take (bs.length - 5 - p)
theorem her_len (bs : List Int) (p : Nat) : (her bs p).length = bs.length - 5 - p := by unfold her; simp; omega
theorem her_get {bs : List Int} {p i : Nat} (h : i < bs.length - 5 - p) : (her bs p).getD i 0 = bs.getD (p + i) 0 := by
 unfold her
 rw [List.getD_eq_getElem?_getD, List.getD_eq_getElem?_getD, List.getElem?_take, if_pos h, List.getElem?_drop]
theorem drop_get (bs : List Int) (p i : Nat) : (bs.drop p).getD i 0 = bs.getD (p + i) 0 := by
 rw [List.getD_eq_getElem?_getD, List.getD_eq_getElem?_getD, List.getElem?_drop]
/-- the search along a chain: how far back, how long -/
def lon (bs : List Int) (p : Nat) : Nat → Nat → Nat → Nat → Nat × Nat
 | 0, _, off, n => (off, n)
 | t + 1, f, off, n =>
  if f = 0 ∨ 65535 < p + 1 - f ∨ n = bs.length - 5 - p then (off, n)
  else if 4 ≤ alk (her bs p) (bs.drop (f - 1)) ∧ n < alk (her bs p) (bs.drop (f - 1)) then lon bs p t (las bs (slt bs (f - 1)) (f - 1)) (p + 1 - f) (alk (her bs p) (bs.drop (f - 1)))
  else lon bs p t (las bs (slt bs (f - 1)) (f - 1)) off n
def lng6 (bs : List Int) (p : Nat) : Nat × Nat := lon bs p 64 (las bs (slt bs p) p) 0 0
/-- may this be copied? -/
structure Gd (bs : List Int) (p off n : Nat) : Prop where
 go : 1 ≤ off ∧ off ≤ p ∧ off ≤ 65535
 gn : 4 ≤ n ∧ p + n + 5 ≤ bs.length
 ge : ∀ i, i < n → bs.getD (p - off + i) 0 = bs.getD (p + i) 0
theorem lon_ok (bs : List Int) (p : Nat) (hp : p + 12 ≤ bs.length) (t f off n : Nat) (hf : f ≤ p) (h : n = 0 ∨ Gd bs p off n) : (lon bs p t f off n).2 = 0 ∨ Gd bs p (lon bs p t f off n).1 (lon bs p t f off n).2 := by
 induction t generalizing f off n with
 | zero => exact h
 | succ t ih =>
  rw [lon]
  split
  ·exact h
  ·rename_i k
   have hl := las_le bs (slt bs (f - 1)) (f - 1)
   split
   ·rename_i k2
    refine ih _ _ _ (by omega) (Or.inr ?_)
    have h1 := alk_le (her bs p) (bs.drop (f - 1))
    rw [her_len] at h1
    refine ⟨by omega, by omega, fun i hi => ?_⟩
    have := alk_eq hi
    rw [her_get (by omega), drop_get] at this
    rw [this]
    congr 1
    omega
   ·exact ih _ _ _ (by omega) h
theorem lng6_ok (bs : List Int) (p : Nat) (hp : p + 12 ≤ bs.length) : (lng6 bs p).2 = 0 ∨ Gd bs p (lng6 bs p).1 (lng6 bs p).2 := lon_ok bs p hp 64 _ 0 0 (las_le _ _ _) (Or.inl rfl)
/-- a text's sequences, from a place on; told: what has been told -/
def sqs (bs : List Int) : Nat → Nat → Nat → List Sq
 | 0, told, _ => [(bs.drop told, 0, 0)]
 | f + 1, told, p =>
  if p + 12 ≤ bs.length then
   if 0 < (lng6 bs p).2 then ((bs.drop told).take (p - told), ((lng6 bs p).1 : Int), ((lng6 bs p).2 : Int)) :: sqs bs f (p + (lng6 bs p).2) (p + (lng6 bs p).2)
   else sqs bs f told (p + 1)
  else [(bs.drop told, 0, 0)]
def enc (bs : List Int) : List Sq := sqs bs (bs.length + 1) 0 0
theorem sqs_enc (bs : List Int) (hl : bs.length ≤ 1048576) (f : Nat) : ∀ (qs : List Sq) (told p : Nat), Par bs qs told → told ≤ p → (qs = [] ∨ ∃ pre x, qs = pre ++ [x] ∧ told + 5 ≤ bs.length ∧ 12 ≤ (bs.length : Int) - told + x.2.2) → Enc bs (qs ++ sqs bs f told p) := by
 induction f with
 | zero => intro qs told p P ht he; exact P.enc hl he
 | succ f ih =>
  intro qs told p P ht he
  rw [sqs]
  split
  ·rename_i hp
   split
   ·rename_i h0
    rcases lng6_ok bs p hp with h | G
    ·omega
    ·have S := P.step ht G.go ⟨G.gn.1, by have := G.gn.2; omega⟩ hl G.ge
     have := ih _ _ _ S (Nat.le_refl _) (Or.inr ⟨qs, _, rfl, by have := G.gn.2; omega, by have := G.gn.2; simp only; omega⟩)
     simpa using this
   ·exact ih _ _ _ P (by omega) he
  ·exact P.enc hl he
theorem enc_ok (bs : List Int) (hl : bs.length ≤ 1048576) : Enc bs (enc bs) := by
 have := sqs_enc bs hl (bs.length + 1) [] 0 0 (Par.nil bs) (Nat.le_refl _) (Or.inl rfl)
 unfold enc
 simpa using this
theorem sqs_len (bs : List Int) (f : Nat) : ∀ told p, (sqs bs f told p).length ≤ f + 1 := by
 induction f with
 | zero => intro told p; simp [sqs]
 | succ f ih =>
  intro told p
  rw [sqs]
  split
  ·split
   ·have := ih (p + (lng6 bs p).2) (p + (lng6 bs p).2); simp; omega
   ·have := ih told (p + 1); omega
  ·simp
theorem enc_len (bs : List Int) : (enc bs).length ≤ bs.length + 2 := by have := sqs_len bs (bs.length + 1) 0 0; unfold enc; omega
/-- a guard: the next operation is a piece from a place on -/
theorem low_here {P : Program} {w : World} {ops : Array Oper} {rest : List Oper} {a : Act} {Q : Exit → Act → World → Prop} {dst : Option Nat} {t : TypeId} {x l : Operand} {type : TypeId} {pos : String} {after : Array Edge} {guard : Option (Nat × Bool)}
  (k : wpList P ops Q (⟨dst, .slice t x (some l) none none, type, pos, after, guard⟩ :: rest) a w) : wpList P ops Q (⟨dst, .slice t x (some l) none none, type, pos, after, guard⟩ :: rest) a w := k
theorem wpList_low8 {P : Program} {w : World} {ops : Array Oper} {rest : List Oper} {o : Oper} {a : Act} {Q : Exit → Act → World → Prop} (hg : o.guard = none) (x l : Operand) (t : TypeId)
  (ho : o.op = .slice t x (some l) none none) (ht : P.underlying t = some (.slice 5)) (i : TypeInfo) (hi : P.info? 5 = some i) (hsz : i.size = 1)
  (b off len cap k : Nat) (K : Int) (hx : a.eval x = .slice (some ⟨b, off, none⟩) len cap) (hl : a.eval l = .int .i64 K) (hK : K = (k : Int)) (h1 : k ≤ len) (h2 : len ≤ cap)
  (hk : ∀ o', (k < len → o' = off + k) → wpList P ops Q rest (a.put o.dst (.slice (some ⟨b, o', none⟩) (len - k) (cap - k))) w) : wpList P ops Q (o :: rest) a w := by
 refine wpList_plain hg fun K' hK' => ?_
 have he : P.elem t = 5 := by simp [Program.elem, ht]
 have ht' : P.underlying t = some (.slice (P.elem t)) := by rw [he]; exact ht
 have hs : (sizeOf 5).run P w = .ok 1 w := by rw [run_sizeOf w hi]; simp [Program.cellsOf, hi, hsz]
 subst hK
 have hr := run_slice_l (P := P) (w := w) (a := some ⟨b, off, none⟩) (len := len) (cap := cap) (t := t) ht' .i64 (k : Int) (by omega) (by omega)
 rw [he, hs] at hr
 simp only [Result.andThen, Int.toNat_natCast] at hr
 have hv : ∃ o', sliced (some ⟨b, off, none⟩) k len cap 1 = .slice (some ⟨b, o', none⟩) (len - k) (cap - k) ∧ (k < len → o' = off + k) := by
  unfold sliced
  by_cases c : cap = k
  ·rw [if_pos c]; exact ⟨off, rfl, fun h => by omega⟩
  ·rw [if_neg c]
   have hadd : (⟨b, off, none⟩ : Addr).add (k * 1) = ⟨b, off + k, none⟩ := by unfold Addr.add; split <;> simp_all
   exact ⟨off + k, by simp only [Option.map_some, hadd], fun _ => rfl⟩
 obtain ⟨o', hv, h3⟩ := hv
 rw [hv] at hr
 unfold Oper.wp
 simp [execOp, ho, hx, hl, hr, Result.andThen, run_sliceAt_slice (P := P) (w := w) t _ _ _ _ ht']
 exact hK' _ _ (hk _ h3)

set_option maxHeartbeats 1000000 in
theorem slot_any (b off len cap : Nat) (xs : List Int) (w : World) (R : Row w (some ⟨b, off, none⟩) len xs) (hl : 4 ≤ len) :
  Calls Try.prog 84 #[.slice (some ⟨b, off, none⟩) len cap] w fun e w' => e = .returned (.int .u32 (hsh (xs.getD 0 0) (xs.getD 1 0) (xs.getD 2 0) (xs.getD 3 0))) ∧ ∃ m, w' = w.drewN m := by
 obtain ⟨b', off', e, hc⟩ := R.cells (by omega)
 injection e with e
 injection e with e1 e2
 subst e1 e2
 have c0 := hc 0 (by omega)
 have c1 := hc 1 (by omega)
 have c2 := hc 2 (by omega)
 have c3 := hc 3 (by omega)
 have h0 := R.byt.getD 0
 have h1 := R.byt.getD 1
 have h2 := R.byt.getD 2
 have h3 := R.byt.getD 3
 have hm := R.le
 unfold maxLen at hm
 generalize xs.getD 0 0 = x0 at *
 generalize xs.getD 1 0 = x1 at *
 generalize xs.getD 2 0 = x2 at *
 generalize xs.getD 3 0 = x3 at *
 rw [Nat.add_zero] at c0
 clear hc R
 go_enter Try.func84, Try.ntmps84
 go_wp2
 go_quiet (fail)
 go_wp2
 go_ret
 exact ⟨rfl, nq, rfl⟩

set_option maxHeartbeats 1000000 in
theorem alike_any (b off len cap b2 off2 len2 cap2 : Nat) (xs ys : List Int) (w : World) (R : Row w (some ⟨b, off, none⟩) len xs) (R2 : Row w (some ⟨b2, off2, none⟩) len2 ys) (hl : 0 < len) (hll : len ≤ len2) :
  Calls Try.prog 85 #[.slice (some ⟨b, off, none⟩) len cap, .slice (some ⟨b2, off2, none⟩) len2 cap2] w fun e w' => e = .returned (.int .i64 (alk xs ys)) ∧ w = w' := by
 obtain ⟨b', off', e, hc⟩ := R.cells (by omega)
 injection e with e
 injection e with e1 e2
 subst e1 e2
 obtain ⟨b', off', e, hc2⟩ := R2.cells (by omega)
 injection e with e
 injection e with e1 e2
 subst e1 e2
 have hx := R.len_eq
 have hy := R2.len_eq
 have hm := R.le
 have hm2 := R2.le
 unfold maxLen at hm hm2
 have HX : Hid _ := And.intro hx hy
 have HC : Hid _ := And.intro hc hc2
 have HB : Hid _ := And.intro R.byt R2.byt
 clear R R2 hx hy hc hc2
 go_enter Try.func85, Try.ntmps85
 go_wp2
 go_loopw [5, 6, 9] (fun _ _ vi wr => w = wr ∧ ∃ (j : Nat), vi = .int .i64 j ∧ j ≤ len ∧ Hid (∀ i, i < j → xs.getD i 0 = ys.getD i 0)) (fun _ _ vi _ => len - (intOf vi).toNat)
 case atStart => exact ⟨rfl, 0, rfl, Nat.zero_le _, fun i hi => by omega⟩
 case round =>
  obtain ⟨rfl, j, rfl, hj, HE⟩ := hrel
  by_cases k1 : j < len
  ·have c1 := HC.out.1 j k1
   have c2 := HC.out.2 j (by omega)
   have h1 := HB.out.1.getD j
   have h2 := HB.out.2.getD j
   by_cases k2 : xs.getD j 0 = ys.getD j 0
   ·have HE2 : Hid (∀ i, i < j + 1 → xs.getD i 0 = ys.getD i 0) := by
     intro i hi
     by_cases e : i = j
     ·subst e; exact k2
     ·exact HE.out i (by omega)
    rw [← k2] at c2
    generalize xs.getD j 0 = x at c1 c2 h1
    clear k2 h2 HE
    go_wp2
    go_roundw
    case rel => exact ⟨by trivial, j + 1, by go_num, by omega, HE2⟩
    case measure => simp [intOf]; omega
   ·have ha := alk_at HE.out (by rw [HX.out.1]; exact k1) (by rw [HX.out.2]; omega) k2
    have HA : Hid _ := ha
    clear ha
    have k3 : ys.getD j 0 ≠ xs.getD j 0 := fun e => k2 e.symm
    generalize xs.getD j 0 = x at *
    generalize ys.getD j 0 = y at *
    go_wp2
    go_ret
    rw [HA.out]
    exact ⟨rfl, rfl⟩
  ·obtain rfl : j = len := by omega
   have ha := alk_all (xs := xs) (ys := ys) (fun i hi => HE.out i (by rw [← HX.out.1]; exact hi)) (by rw [HX.out.1, HX.out.2]; exact hll)
   have HA : Hid (alk xs ys = j) := by show alk xs ys = j; rw [ha]; exact HX.out.1
   clear ha
   go_wp2
   go_ret
   rw [HA.out]
   exact ⟨rfl, rfl⟩
end Go.Proofs.Ytkkigpobhagnfaa
