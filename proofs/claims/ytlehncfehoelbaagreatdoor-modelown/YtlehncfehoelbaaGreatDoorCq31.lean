/- Bytes of files read: the document's. -/
import Derived.ProofKit
import Derived.OpenShut
import Derived.ChangeOld
import Derived.Lib.SmallJoins
import Derived.Deep.Slices
import Derived.ChangeSame
import Derived.Test.YtlehncfehoelbaaGreatDoorCq06
import Derived.Test.YtlehncfehoelbaaGreatDoorCq08
import Derived.Test.YtlehncfehoelbaaGreatDoorCq14
import Derived.Test.YtlehncfehoelbaaGreatDoorCq28
import Derived.Test.YtlehncfehoelbaaGreatDoorCq30
namespace Go.Proofs.YtlehncfehoelbaaGreatDoor
open Go.RowKit
set_option maxRecDepth 100000
set_option linter.unusedSimpArgs false
set_option linter.unusedVariables false
def rdp (data : List Int) (off : Nat) (k : Nat) : List Int := (List.range k).map (fun i => data.getD (off + i) 0)
theorem rdp_snoc (data : List Int) (off k : Nat) : rdp data off (k + 1) = rdp data off k ++ [data.getD (off + k) 0] := by
 unfold rdp
 rw [List.range_succ, List.map_append]
 rfl
def RrPost12 (w : World) (A : List Int × Int) (e : Ending) (w' : World) : Prop := ∃ (a : Option Addr) (c : Nat), e = .returned (.tuple #[.slice a A.1.length c, .int .i64 A.2]) ∧ w.grownBy w' none ∧ Row w' a A.1.length A.1
theorem own_row12 {W : World} {base n c : Nat} {a : Option Addr} {xs : List Int} (h : W.ownsRow base 5 1 (.slice a n c) n (bv xs)) (hb : Byt xs) : Row W a n xs := (OwnB.row ⟨h, hb⟩)
set_option maxHeartbeats 8000000 in
theorem rread_any (w : World) (a : Option Addr) (n c : Nat) (ns : List NoV) (hN : Nos w a n ns) (i off m : Int) (hdv : ∀ X ∈ ns, (X.data.length : Int) ≤ X.size ∧ X.size ≤ 1099511627775) (hm : m ≤ 100000 ∨ 1048576 < m) :
  Calls Tryz.prog 24 #[.agg #[.slice a n c], .int .i64 i, .int .i64 off, .int .i64 m] w (RrPost12 w (rda (nos ns) i off m)) := by
 have gA := xga w (.cells #[.slice a n c] 33) none
 have bA := Bx.new w 33 [.slice a n c]
 have hok := rkind_any _ a n c ns (hN.grown gA) i 1
 have t0 : _ = some _ := bA.c 0
 have HM : Hid _ := xai (hN.grown gA) (xai bA (xai gA hdv))
 clear hN bA gA hdv
 obtain ⟨R, hR⟩ : ∃ R, R = rda (nos ns) i off m := ⟨_, rfl⟩
 rw [← hR]
 have HR : Hid _ := hR
 clear hR
 obtain ⟨i5, hi, hz0, hz1, hz2⟩ := info_parts Tryz.info5
 go_enter Tryz.func24, Tryz.ntmps24
 go_wp2_with fail
 generalize hWA : w.alloc (.cells #[.slice a n c] 33) = WA at *
 clear hWA
 refine hok.mono ?_
 clear hok
 rintro e W1 ⟨rfl, g1⟩
 have HG1 : Hid _ := xai (xgt HM.out.2.2.1 g1) (xai (HM.out.1.grown g1) (xai (HM.out.2.1.kept g1) HM.out.2.2.2))
 clear g1 HM t0
 have t0 : _ = some _ := HG1.out.2.2.1.c 0
 by_cases hz : knd (nos ns) i 1 = 0
 ·obtain ⟨j, X, rfl, hX, hXk⟩ := knd_zero hz
  have hl := rda_at hX hz off m
  rw [hz]
  rw [← HR.out] at hl
  have HL : Hid _ := hl
  have hj : j < n := by rw [← HG1.out.2.1.len_eq]; exact (List.getElem?_eq_some_iff.1 hX).1
  have hle := HG1.out.2.1.le
  obtain ⟨hs1, hs2⟩ := HG1.out.2.2.2 X (List.mem_of_getElem? hX)
  obtain ⟨b, o0, rfl, hat⟩ := HG1.out.2.1.at_ (by omega)
  obtain ⟨y0, y1, y2, y3, y4, y5, y6, y7, y8, y9, y10, y11, y12, yok⟩ := hat j X hX
  obtain ⟨NK, mo, uid, gid, ti, sz_, da, dl, dc, data, tg, dev, aa, al, ac, attrs, ka, kl, kc, kids, pa, lk⟩ := X
  simp only at y0 y1 y2 y3 y4 y5 y6 y7 y8 y9 y10 y11 y12 hs1 hs2 HL
  have hrow : Row W1 da dl data := yok.row
  have h2 : (j : Int) < (n : Int) := by omega
  clear hl hXk hz HR hat hX yok
  by_cases q1 : off < 0
  ·have HV : Hid (R = ([], 1)) := by show _ = _; rw [HL.out, if_pos (Or.inl q1)]
   clear HL
   go_wp2
   go_ret2
   unfold RrPost12
   rw [HV.out]
   exact ⟨none, 0, rfl, HG1.out.1, row_zero none⟩
  by_cases q2 : m < 0
  ·have HV : Hid (R = ([], 1)) := by show _ = _; rw [HL.out, if_pos (Or.inr q2)]
   clear HL
   go_wp2
   go_ret2
   unfold RrPost12
   rw [HV.out]
   exact ⟨none, 0, rfl, HG1.out.1, row_zero none⟩
  by_cases q3 : 1048576 < m
  ·have HV : Hid (R = ([], 2)) := by show _ = _; rw [HL.out, if_neg (by omega), if_pos q3]
   clear HL
   go_wp2
   go_ret2
   unfold RrPost12
   rw [HV.out]
   exact ⟨none, 0, rfl, HG1.out.1, row_zero none⟩
  have HV : Hid (R = (rdb data sz_ off m, 0)) := by show _ = _; rw [HL.out, if_neg (by omega), if_neg q3]
  have hm1 : m ≤ 100000 := by omega
  have gB := xga W1 (.cells #[.int .i64 NK, .int .i64 mo, .int .i64 uid, .int .i64 gid, .int .i64 ti, .int .i64 sz_, .slice da dl dc, .string tg, .int .i64 dev, .slice aa al ac, .slice ka kl kc, .int .i64 pa, .int .i64 lk] 43) none
  have bB := Bx.new W1 43 [.int .i64 NK, .int .i64 mo, .int .i64 uid, .int .i64 gid, .int .i64 ti, .int .i64 sz_, .slice da dl dc, .string tg, .int .i64 dev, .slice aa al ac, .slice ka kl kc, .int .i64 pa, .int .i64 lk]
  have hdl : data.length = dl := hrow.len_eq
  rw [hdl] at hs1
  have HB : Hid _ := xai (xgt HG1.out.1 gB) (xai (hrow.grown gB) (xai bB (xai hdl hrow.byt)))
  clear HL gB bB hrow hdl HG1 hm
  go_wp2_with fail
  generalize hWB : W1.alloc (.cells #[.int .i64 NK, .int .i64 mo, .int .i64 uid, .int .i64 gid, .int .i64 ti, .int .i64 sz_, .slice da dl dc, .string tg, .int .i64 dev, .slice aa al ac, .slice ka kl kc, .int .i64 pa, .int .i64 lk] 43) = WB at *
  clear hWB y0 y1 y2 y3 y4 y5 y6 y7 y8 y9 y10 y11 y12 t0
  generalize W1.heap.size = gb at *
  obtain ⟨f, rfl⟩ : ∃ f : Nat, off = (f : Int) := ⟨off.toNat, by omega⟩
  obtain ⟨mm, rfl⟩ : ∃ mm : Nat, m = (mm : Int) := ⟨m.toNat, by omega⟩
  obtain ⟨sz, rfl⟩ : ∃ sz : Nat, sz_ = (sz : Int) := ⟨sz_.toNat, by omega⟩
  have hrn : rdn sz f mm = min mm (sz - f) := by unfold rdn; omega
  have HRN : Hid _ := hrn
  have HSZ : Hid (mm ≤ 100000 ∧ sz ≤ 1099511627775 ∧ dl ≤ sz) := ⟨by omega, by omega, by omega⟩
  clear hrn q1 q2 q3 hs1 hs2 hm1 hle h2 hj
  go_loopw [12] (fun v wr => ∃ (k : Nat) (va : Option Addr) (vc : Nat), k ≤ min mm (sz - f) ∧ v = .slice va k vc ∧ Hid (wr.ownsRow WB.heap.size 5 1 (.slice va k vc) k (bv (rdp data f k)) ∧ WB.grownBy wr none)) (fun v _ => mm - (match v with | .slice _ k _ => k | _ => 0))
  case atStart => exact ⟨0, none, 0, Nat.zero_le _, rfl, World.ownsRow_nil _ _ _ _, World.grownBy.refl _ _⟩
  case round =>
   obtain ⟨k, va, vc, hk0, rfl, HK⟩ := hrel
   have HKL : Hid _ := hk0
   obtain ⟨hm1, hs2, hs1⟩ := HSZ.out
   have hk : k ≤ 100000 := by omega
   clear hk0
   have bK := HB.out.2.2.1.kept HK.out.2
   have v5 : _ = some _ := bK.c 5
   have v6 : _ = some _ := bK.c 6
   by_cases hlt : k < mm ∧ f < sz - k
   ·have HLT : Hid _ := hlt
    obtain ⟨hl1, hl2⟩ := hlt
    have l1 : (k : Int) < (mm : Int) := by omega
    have l2 : (f : Int) < (sz : Int) - (k : Int) := by omega
    have lw1 : wrap64 ((sz : Int) - (k : Int)) = (sz : Int) - (k : Int) := by unfold wrap64; omega
    have lw2 : wrap64 ((dl : Int) - (k : Int)) = (dl : Int) - (k : Int) := by unfold wrap64; omega
    clear hl1 hl2
    by_cases hd : f + k < dl
    ·have l3 : (f : Int) < (dl : Int) - (k : Int) := by omega
     have lw3 : wrap64 ((f : Int) + (k : Int)) = ((f + k : Nat) : Int) := by unfold wrap64; omega
     have l4 : ((f + k : Nat) : Int) < (dl : Int) := by omega
     obtain ⟨db, dof, hda, hdc⟩ := (HB.out.2.1.grown HK.out.2).cells (by omega)
     have x1 := hdc (f + k) hd
     rw [hda] at v6
     clear hda
     generalize hxx : data.getD (f + k) 0 = xx at *
     have HD0 : Hid (data.getD (f + k) 0 = xx) := hxx
     have HNB : Hid _ := xai hm1 (xai hs2 (xai hs1 hk))
     clear hdc hxx hd hm1 hs2 hs1 hk
     go_wp2_with (at_builtin; (refine wpList_append_own _ rfl _ _ 23 rfl WB.heap.size 5 i5 (.int .u8 0) 1 1 Tryz.underlying23 hi hz0 hz1 hz2 rfl (by decide) _ k _ rfl (HK.out.1.alloc _) ⟨wr.heap.size, 0, none⟩ 1 1 (bv [xx]) rfl rfl ?c1 (bv_one _) ?c3 ?c4 ?c5 ?_))
     case c1 => first | exact cell_one_newV _ _ _ | exact fun j u h => h
     case c3 => have := HNB.out.2.2.2; unfold maxLen; omega
     case c4 => have := HNB.out.2.2.2; omega
     case c5 => have := HK.out.2.size; simp; omega
     ·intro v2 w2 own2 grow2 _
      obtain ⟨a2, c2, rfl⟩ := own_shape own2
      have G2 : WB.grownBy w2 none := grown_own (xgt HK.out.2 (xga wr _ none)) (HK.out.1.alloc _) grow2 (Nat.le_refl _)
      rw [← bv_append, ← HD0.out, ← rdp_snoc] at own2
      have H2 : Hid _ := xai own2 G2
      clear own2 grow2 G2 HK bK v5 v6
      go_wp2
      exact ⟨⟨k + 1, a2, c2, by have := HKL.out; have := HLT.out; omega, rfl, H2⟩, by have := HLT.out; simp only; omega⟩
    ·have l3 : ¬ (f : Int) < (dl : Int) - (k : Int) := by omega
     have HD0 : Hid (data.getD (f + k) 0 = 0) := by
      show _ = _
      rw [List.getD_eq_getElem?_getD, List.getElem?_eq_none (by rw [HB.out.2.2.2.1]; omega)]
      rfl
     have HNB : Hid _ := xai hm1 (xai hs2 (xai hs1 hk))
     clear hd hm1 hs2 hs1 hk
     go_wp2_with (at_builtin; (refine wpList_append_own _ rfl _ _ 23 rfl WB.heap.size 5 i5 (.int .u8 0) 1 1 Tryz.underlying23 hi hz0 hz1 hz2 rfl (by decide) _ k _ rfl (HK.out.1.alloc _) ⟨wr.heap.size, 0, none⟩ 1 1 (bv [0]) rfl rfl ?c1 (bv_one _) ?c3 ?c4 ?c5 ?_))
     case c1 => first | exact cell_one_newV _ _ _ | exact fun j u h => h
     case c3 => have := HNB.out.2.2.2; unfold maxLen; omega
     case c4 => have := HNB.out.2.2.2; omega
     case c5 => have := HK.out.2.size; simp; omega
     ·intro v2 w2 own2 grow2 _
      obtain ⟨a2, c2, rfl⟩ := own_shape own2
      have G2 : WB.grownBy w2 none := grown_own (xgt HK.out.2 (xga wr _ none)) (HK.out.1.alloc _) grow2 (Nat.le_refl _)
      rw [← bv_append, ← HD0.out, ← rdp_snoc] at own2
      have H2 : Hid _ := xai own2 G2
      clear own2 grow2 G2 HK bK v5 v6
      go_wp2
      exact ⟨⟨k + 1, a2, c2, by have := HKL.out; have := HLT.out; omega, rfl, H2⟩, by have := HLT.out; simp only; omega⟩
   ·have hkk : k = min mm (sz - f) := by have := HKL.out; omega
    have e1 : (rdb data sz f mm).length = k := by rw [rdb_len, HRN.out, hkk]
    have e2 : rdp data f k = rdb data sz f mm := by rw [hkk, ← HRN.out]; rfl
    have HE : Hid _ := xai e1 e2
    clear e1 e2
    by_cases hl1 : k < mm
    ·have l1 : (k : Int) < (mm : Int) := by omega
     have lw1 : wrap64 ((sz : Int) - (k : Int)) = (sz : Int) - (k : Int) := by unfold wrap64; omega
     have l2 : ¬ (f : Int) < (sz : Int) - (k : Int) := by omega
     clear hkk hlt hl1 hm1 hs2 hs1 hk
     go_wp2
     go_ret2
     unfold RrPost12
     rw [HV.out]
     have ho := HK.out.1
     rw [HE.out.2] at ho
     refine ⟨va, vc, by simp only [HE.out.1]; rfl, xgt HB.out.1 HK.out.2, ?_⟩
     simp only [HE.out.1]
     exact own_row12 ho (rdb_byt HB.out.2.2.2.2 _ _ _)
    ·have l1 : ¬ (k : Int) < (mm : Int) := by omega
     clear hkk hlt hl1 hm1 hs2 hs1 hk
     go_wp2
     go_ret2
     unfold RrPost12
     rw [HV.out]
     have ho := HK.out.1
     rw [HE.out.2] at ho
     refine ⟨va, vc, by simp only [HE.out.1]; rfl, xgt HB.out.1 HK.out.2, ?_⟩
     simp only [HE.out.1]
     exact own_row12 ho (rdb_byt HB.out.2.2.2.2 _ _ _)
 ·have hl := rda_bad (off := off) (n := m) hz
  rw [← HR.out] at hl
  have HL : Hid _ := hl
  clear hl HR
  generalize knd (nos ns) i 1 = K at *
  have hzb : (K == 0) = false := by rw [beq_eq_false_iff_ne]; exact hz
  have hzb2 : (K != 0) = true := by simp [hz]
  go_wp2
  go_ret2
  unfold RrPost12
  rw [HL.out]
  exact ⟨none, 0, rfl, HG1.out.1, row_zero none⟩
def OwnA (base : Nat) (W : World) (a : Option Addr) (n : Nat) : Prop := 0 < n → ∃ (g : Nat) (bs : List Int), a = some ⟨g, 0, none⟩ ∧ base ≤ g ∧ Blk W g (bv bs) ∧ bs.length = n ∧ Byt bs
theorem OwnA.put {base : Nat} {W : World} {g n : Nat} (h : OwnA base W (some ⟨g, 0, none⟩) n) (h0 : 0 < n) (j : Nat) (y : Int) (hy : 0 ≤ y ∧ y ≤ 255) : OwnA base (W.setCell ⟨g, j, none⟩ (.int .u8 y)) (some ⟨g, 0, none⟩) n := by
 obtain ⟨g', bs, e, h1, h2, h3, h4⟩ := h h0
 injection e with e
 injection e with e
 subst e
 refine fun _ => ⟨g, bs.set j y, rfl, h1, ?_, by rw [List.length_set]; exact h3, ?_⟩
 ·have := h2.set j (.int .u8 y)
  have e : (bv bs).set j (.int .u8 y) = bv (bs.set j y) := by unfold bv; rw [List.map_set]
  rw [e] at this
  exact this
 ·intro z hz
  rcases List.mem_or_eq_of_mem_set hz with k | k
  ·exact h4 z k
  ·subst k; exact hy
theorem OwnK.but {b r : Nat} {W W' : World} {a : Option Addr} {n : Nat} (h : OwnK b W a n) (g : W.grownBy W' (some r)) (hr : r < b) : OwnK b W' a n := fun h0 => by
 obtain ⟨q, cur, e, k, r1, r2⟩ := h h0
 exact ⟨q, cur, e, k, by rw [g.block q (Array.getElem?_eq_some_iff.1 r1).1 (by intro e; injection e with e; omega)]; exact r1, r2⟩
theorem OwnK.put {b : Nat} {W : World} {g n : Nat} (h : OwnK b W (some ⟨g, 0, none⟩) n) (h0 : 0 < n) (j : Nat) (v : Value) : OwnK b (W.setCell ⟨g, j, none⟩ v) (some ⟨g, 0, none⟩) n := fun _ => by
 obtain ⟨q, cur, e, k, r1, r2⟩ := h h0
 injection e with e
 injection e with e
 subst e
 obtain ⟨cur', k1, k2, k3⟩ := heap_put (i := j) r1 v
 exact ⟨g, cur', rfl, k, k1, by omega⟩
theorem rda_small13 (L : List No) (i off m : Int) : (rda L i off m).1.length ≤ 1048576 := by
 unfold rda
 split
 ·exact Nat.zero_le _
 ·split
  ·exact Nat.zero_le _
  ·split
   ·exact Nat.zero_le _
   ·rw [rdb_len]
    unfold rdn
    omega
structure On (W3 W : World) (ha hb : Nat) (ra : Option Addr) (la : Nat) (rb : Option Addr) (lb : Nat) : Prop where
 gr : W3.grownBy W none
 oa : OwnA ha W ra la
 ob : OwnK hb W rb lb
 l1 : W3.heap.size ≤ ha
 l2 : ha ≤ hb
 l3 : 0 < la → ∀ g o, ra = some ⟨g, o, none⟩ → g < hb
set_option maxHeartbeats 20000000 in
theorem modelOwn_walk (a : Option Addr) (len cap : Nat) (l : List EnV) (ta : Option Addr) (tn tc : Nat) (i : Int) (w : World) (E : Ens w a len l) : Calls Tryz.prog 6 #[.slice a len cap, .agg #[.slice ta tn tc], .int .i64 i] w fun e w' => e = .returned (.bool true) ∧ w.grownBy w' none := by
 have gT := xga w (.cells #[.slice ta tn tc] 33) none
 have bT := Bx.new w 33 [.slice ta tn tc]
 have hmu := rmuch_two a len cap l _ (E.grown gT)
 unfold MuPost2 at hmu
 have HE : Hid _ := xai E (xai bT gT)
 clear E bT gT
 go_enter Tryz.func6, Tryz.ntmps6
 go_wp2_with fail
 refine hmu.mono ?_
 clear hmu
 rintro e W1 ⟨⟨rfl, hbad⟩ | ⟨rfl, hG⟩, g1⟩
 ·have HG : Hid _ := xgt HE.out.2.2 g1
  clear g1 hbad HE
  go_wp2_with fail
  refine (live12_any _).mono ?_
  rintro e W3 ⟨rfl, g3⟩
  have HG3 : Hid _ := xgt HG.out g3
  clear g3 HG
  go_wp2
  go_ret
  exact ⟨rfl, HG3.out⟩
 ·have t0 : _ = some _ := (HE.out.2.1.kept g1).c 0
  have HG : Hid _ := xai hG (xgt HE.out.2.2 g1)
  clear g1 hG
  by_cases htn : 40 < tn
  ·have htn2 : (40 : Int) < (tn : Int) := by omega
   clear HE
   go_wp2_with fail
   refine (live12_any _).mono ?_
   rintro e W3 ⟨rfl, g3⟩
   have HG3 : Hid _ := xgt HG.out.2 g3
   clear g3 HG
   go_wp2
   go_ret
   exact ⟨rfl, HG3.out⟩
  ·have htn2 : ¬ (40 : Int) < (tn : Int) := by omega
   clear htn
   have hrc := rcheck_any a len cap l W1 (HE.out.1.grown HG.out.2) HG.out.1.szs (by have := HG.out.1.1; omega)
   generalize hk1 : (chk11 (ens l)).1 = k1 at *
   generalize hk2 : (chk11 (ens l)).2 = k2 at *
   have HK : Hid _ := hk2
   clear hk1 hk2
   go_wp2_with fail
   refine hrc.mono ?_
   clear hrc t0 htn2
   rintro e W2 ⟨rfl, g2⟩
   have HG2 : Hid _ := xgt HG.out.2 g2
   clear g2
   by_cases hz : k2 = 0
   ·subst hz
    have hca := fun W g => rcanon_any a len cap l W (HE.out.1.grown g) HG.out.1.szs (by have := HG.out.1.1; omega) (gd_al HG.out.1) (chk_ok.1 HK.out).2.2
    unfold CaPost at hca
    have HCA : Hid _ := hca
    have hca2 := hca W2 HG2.out
    clear hca
    go_wp2_with fail
    refine hca2.mono ?_
    clear hca2
    rintro e W3 ⟨b5, n5, c5, ns, rfl, hT, hn5, hno⟩
    have gA := xga W3 (.cells #[.slice b5 n5 c5] 33) none
    have bT := Bx.new W3 33 [.slice b5 n5 c5]
    have t0 : _ = some _ := bT.c 0
    have hnw := pnew_canon HK.out (by unfold ens; rw [List.length_map, HE.out.1.len_eq]; exact HG.out.1.1) (gd_data HE.out.1 HG.out.1) hT hn5 hno _ gA
    have hcw := (cw_of hT hn5).kept (Nat.le_refl _) gA
    have hlt := gA.size
    have hl4 : W3.heap.size < (W3.alloc (.cells #[.slice b5 n5 c5] 33)).heap.size := by simp
    have H3 : Hid _ := xai (xgt (xgt HG2.out hT.gr) gA) (xai hcw (xai bT (xai hl4 (xai HG2.out.size hno))))
    have HL3 : Hid (W3.heap.size ≤ (W3.alloc (.cells #[.slice b5 n5 c5] 33)).heap.size) := hlt
    have HNL : Hid (n5 ≤ maxLen ∧ ∀ X ∈ ns, X.kl ≤ maxLen) := by
     have hN := hT.nos hn5
     refine ⟨hN.le, fun X hX => ?_⟩
     obtain ⟨z, hz⟩ := List.mem_iff_getElem?.1 hX
     have hzl := (List.getElem?_eq_some_iff.1 hz).1
     obtain ⟨b, off, -, hc⟩ := hN.at_ (by rw [← hN.len_eq]; omega)
     exact (hc z X hz).ok.kds.le
    clear gA bT hT hn5 hno hcw hlt hl4
    go_wp2_with fail
    generalize W3.alloc (.cells #[.slice b5 n5 c5] 33) = W4 at *
    generalize W3.heap.size = gt at *
    refine hnw.mono ?_
    clear hnw t0
    rintro e W5 ⟨mb, mp, a1, n1, c1, ns2, rfl, g5, hM, hn2, hmb, hmp, hna, hfr⟩
    have hdv := canon_dv (chk_ok.1 HK.out).2.2
    have hka := kids_apart (chk_ok.1 HK.out).2.2 (by unfold ens; rw [List.length_map, HE.out.1.len_eq]; have := HG.out.1.1; omega)
    have HCN : Hid _ := xai hdv hka
    rw [← H3.out.2.2.2.2.2, ← hn2] at hdv hka
    have hdv1 := dv_of hdv
    have hk2 : ∀ X ∈ ns2, X.kids.length ≤ 100000 := fun X hX => Nat.le_trans (hka X.no (List.mem_map.2 ⟨X, hX, rfl⟩)).2 (by decide)
    have HO : Hid (Om w W5 W2.heap.size gt W4.heap.size W5.heap.size gt mb a1 n1 c1 mp ns2 b5 n5 c5 ns) := ⟨xgt H3.out.1 g5, hM, md_in hM hmb hmp hna hfr, H3.out.2.1.kept HL3.out g5, H3.out.2.2.1.kept g5, H3.out.2.2.2.2.1, Nat.le_refl _, H3.out.2.2.2.1⟩
    have HN2 : Hid (nos ns2 = canon (ens l)) := hn2.trans H3.out.2.2.2.2.2
    have HDV : Hid _ := xai hdv1 hk2
    clear g5 hM hn2 hmb hmp hna hfr H3 HL3 hdv hka hdv1 hk2
    go_wp2_with (go_at_call 20; refine (num12_any _ _).mono ?_; rintro e w' ⟨rfl, rfl⟩)
    have h1 := pread_any W5 mb a1 n1 c1 mp ns2 HO.out.md i 0 100 HDV.out.1 (by decide)
    unfold RdPost12 at h1
    have hAl := rda_small13 (nos ns2) i 0 100
    generalize rda (nos ns2) i 0 100 = A at *
    obtain ⟨A1, A2⟩ := A
    simp only at h1 hAl
    refine h1.mono ?_
    clear h1
    rintro e W6 ⟨ra, rc, rfl, g6, hby, -, hb⟩
    have h2 := fun (M : Md W6 mb a1 n1 c1 mp ns2) => preaddir_own W6 mb a1 n1 c1 mp ns2 M i 0 100 HDV.out.2 (by decide)
    have h2 := h2 (HO.out.md.kept g6)
    unfold RkPost2 at h2
    generalize rdr (nos ns2) i 0 100 = B at *
    obtain ⟨B1, B2, B3⟩ := B
    simp only at h2
    have H6 : Hid _ := xai g6 (xai hby hb)
    clear g6 hby hb
    go_wp2_with fail
    refine h2.mono ?_
    clear h2
    rintro e W7 ⟨rb, lb, rc2, rfl, g7, R7, o7⟩
    have hlb : lb ≤ 9223372036854775807 := R7.le
    have HJ : Hid (On W5 W7 W5.heap.size W6.heap.size ra A1.length rb lb) := by
     refine ⟨xgt H6.out.1 g7, fun h0 => ?_, o7, Nat.le_refl _, H6.out.1.size, fun h0 g o e => ?_⟩
     ·obtain ⟨g, e1, e2, e3⟩ := H6.out.2.2 h0
      exact ⟨g, A1, e1, e2, e3.grown g7 (by simp), rfl, H6.out.2.1⟩
     ·obtain ⟨g', e1, e2, e3⟩ := H6.out.2.2 h0
      rw [e1] at e
      injection e with e
      injection e with e
      subst e
      exact e3.lt
    have HAL : Hid _ := hAl
    clear g7 R7 o7 H6 hAl
    generalize A1.length = la at *
    have hla : la ≤ 1048576 := HAL.out
    generalize W6.heap.size = hb at *
    generalize hha : W5.heap.size = ha at *
    go_wp2
    go_loopw [17] (fun v wr => ∃ j : Nat, j ≤ la ∧ v = .int .i64 j ∧ Hid (On W5 wr ha hb ra la rb lb)) (fun v _ => la - (intOf v).toNat)
    case atStart => exact ⟨0, Nat.zero_le _, rfl, HJ⟩
    case round =>
     clear HJ
     obtain ⟨j, hj, rfl, HJ⟩ := hrel
     by_cases hlt : j < la
     ·have hlt2 : (j : Int) < (la : Int) := by omega
      obtain ⟨ga, bs, rfl, hga, hbk, hbl, hbb⟩ := HJ.out.oa (by omega)
      have hbx := hbb.getD j
      have hc := hbk.cell j
      rw [bv_getElem? bs j (by omega)] at hc
      have hf := hbk.frozen j
      obtain ⟨y, hy⟩ : ∃ y, y = (bs.getD j 0 + 1) % 256 := ⟨_, rfl⟩
      have hw : IntKind.u8.wrap (bs.getD j 0 + 1) = y := by rw [IntKind.wrap_u8]; exact hy.symm
      have HY : Hid (0 ≤ y ∧ y ≤ 255) := by show _ ∧ _; omega
      have hgb : ga < hb := HJ.out.l3 (by omega) ga 0 rfl
      have HP : Hid (On W5 (wr.setCell ⟨ga, j, none⟩ (.int .u8 y)) ha hb (some ⟨ga, 0, none⟩) la rb lb) :=
       ⟨grown_new HJ.out.gr (grown_set _ _ _ _) (by have := HJ.out.l1; omega), HJ.out.oa.put (by omega) j y HY.out, HJ.out.ob.but (grown_set _ _ _ _) hgb, HJ.out.l1, HJ.out.l2, HJ.out.l3⟩
      clear HJ hbk hbl hbb hy hga hgb
      generalize bs.getD j 0 = x at *
      go_wp2
      go_roundw
      case rel => exact ⟨j + 1, by omega, by go_num, HP⟩
      case measure => simp [intOf]; omega
     ·obtain rfl : j = la := by omega
      go_wp2
      go_loopw [18] (fun v wr => ∃ j : Nat, j ≤ lb ∧ v = .int .i64 j ∧ Hid (W5.grownBy wr none ∧ OwnK hb wr rb lb)) (fun v _ => lb - (intOf v).toNat)
      case atStart => exact ⟨0, Nat.zero_le _, rfl, HJ.out.gr, HJ.out.ob⟩
      case round =>
       have HBB : Hid (W5.heap.size ≤ hb) := Nat.le_trans HJ.out.l1 HJ.out.l2
       clear HJ
       obtain ⟨k, hk, rfl, HJ⟩ := hrel
       by_cases hlt : k < lb
       ·have hlt2 : (k : Int) < (lb : Int) := by omega
        obtain ⟨gb, cur, rfl, hgb, hbk, hbl⟩ := HJ.out.2 (by omega)
        obtain ⟨x, hx⟩ : ∃ x, cur[k * 2 + 1]? = some x := ⟨_, Array.getElem?_eq_getElem (by omega)⟩
        have hc := (heap_cell (i := k * 2 + 1) hbk).1
        rw [hx] at hc
        have hf := (heap_cell (i := k * 2 + 1) hbk).2
        have HP : Hid (W5.grownBy (wr.setCell ⟨gb, k * 2 + 1, none⟩ (.int .i64 (-1))) none ∧ OwnK hb (wr.setCell ⟨gb, k * 2 + 1, none⟩ (.int .i64 (-1))) (some ⟨gb, 0, none⟩) lb) :=
         ⟨grown_new HJ.out.1 (grown_set _ _ _ _) (by have := HBB.out; omega), HJ.out.2.put (by omega) _ _⟩
        clear HJ hbk hbl hgb hx
        go_wp2
        go_roundw
        case rel => exact ⟨k + 1, by omega, by go_num, HP⟩
        case measure => simp [intOf]; omega
       ·obtain rfl : k = lb := by omega
        have HO3 : Hid _ := HO.out.kept HJ.out.1
        clear HO HJ HBB
        have hn5 := HO3.out.cw.len
        have hnm : n5 ≤ 9223372036854775807 := HNL.out.1
        go_wp2
        go_loopw [19] (fun v wr => ∃ j : Nat, j ≤ n5 ∧ v = .int .i64 j ∧ Hid (Om w wr W2.heap.size gt W4.heap.size ha gt mb a1 n1 c1 mp ns2 b5 n5 c5 ns)) (fun v _ => n5 - (intOf v).toNat)
        case atStart => exact ⟨0, Nat.zero_le _, rfl, HO3⟩
        case round =>
         clear HO3
         obtain ⟨q, hq, rfl, HO⟩ := hrel
         have t0 : _ = some _ := HO.out.bx.c 0
         by_cases hlt : q < n5
         ·have hlt2 : (q : Int) < (n5 : Int) := by omega
          obtain ⟨X, hX⟩ : ∃ X, ns[q]? = some X := ⟨_, List.getElem?_eq_getElem (by omega)⟩
          obtain ⟨g, cur, rfl, hg1, hg2, hgh, hgs, hgk⟩ := HO.out.cw.row (by omega)
          obtain ⟨x, hx⟩ : ∃ x, cur[q * 13 + 12]? = some x := ⟨_, Array.getElem?_eq_getElem (by omega)⟩
          have hc := (heap_cell (i := q * 13 + 12) hgh).1
          rw [hx] at hc
          have hf := (heap_cell (i := q * 13 + 12) hgh).2
          have HP : Hid (Om w (wr.setCell ⟨g, q * 13 + 12, none⟩ (.int .i64 99)) W2.heap.size gt W4.heap.size ha gt mb a1 n1 c1 mp ns2 (some ⟨g, 0, none⟩) n5 c5 ns) := HO.out.put ⟨hg1, hg2⟩ (HO.out.cw.links (by omega) _)
          have HX : Hid (ns[q]? = some X ∧ X ∈ ns) := ⟨hX, List.mem_of_getElem? hX⟩
          have hkm : X.kl ≤ 9223372036854775807 := HNL.out.2 X HX.out.2
          clear HO hgh hgs hgk hx hX hg1 hg2
          go_wp2
          go_loopw [20] (fun v wq => ∃ k : Nat, k ≤ X.kl ∧ v = .int .i64 k ∧ Hid (Om w wq W2.heap.size gt W4.heap.size ha gt mb a1 n1 c1 mp ns2 (some ⟨g, 0, none⟩) n5 c5 ns)) (fun v _ => X.kl - (intOf v).toNat)
          case atStart => exact ⟨0, Nat.zero_le _, rfl, HP⟩
          case round =>
           clear HP hc hf t0
           obtain ⟨k, hk, rfl, HO⟩ := hrel
           have t0 : _ = some _ := HO.out.bx.c 0
           obtain ⟨g', cur, e, hg1, hg2, hgh, hgs, hgk⟩ := HO.out.cw.row (by omega)
           injection e with e
           injection e with e
           subst e
           have h10 := (heap_cell (i := q * 13 + 10) hgh).1
           rw [hgk q X HX.out.1] at h10
           by_cases hlk : k < X.kl
           ·have hlk2 : (k : Int) < (X.kl : Int) := by omega
            obtain ⟨p, cp, ep, hp1, hp2, hpp, hps⟩ := HO.out.cw.kid X HX.out.2 (by omega)
            rw [ep] at h10
            obtain ⟨x, hx⟩ : ∃ x, cp[k * 2]? = some x := ⟨_, Array.getElem?_eq_getElem (by omega)⟩
            have hc := (heap_cell (i := k * 2) hpp).1
            rw [hx] at hc
            have hf := (heap_cell (i := k * 2) hpp).2
            have HP : Hid (Om w (wr.setCell ⟨p, k * 2, none⟩ (.string ⟨#[63]⟩)) W2.heap.size gt W4.heap.size ha gt mb a1 n1 c1 mp ns2 (some ⟨g, 0, none⟩) n5 c5 ns) := HO.out.put ⟨hp1, hp2⟩ (HO.out.cw.name hpp _)
            clear HO hgh hgs hgk hpp hps hx ep hp1 hp2 hg1 hg2
            go_wp2
            go_roundw
            case rel => exact ⟨k + 1, by omega, by go_num, HP⟩
            case measure => simp [intOf]; omega
           ·obtain rfl : k = X.kl := by omega
            clear hgh hgs hgk hg1 hg2
            go_wp2
            go_roundw
            case rel => exact ⟨q + 1, by omega, by go_num, HO⟩
            case measure => simp [intOf]; omega
         ·obtain rfl : q = n5 := by omega
          have hcb := HCA.out wr HO.out.gw
          have HM : Hid (Md wr mb a1 n1 c1 mp ns2 ∧ w.grownBy wr none) := ⟨HO.out.md, HO.out.gw⟩
          clear HO hn5 hnm
          go_wp2_with fail
          refine hcb.mono ?_
          clear hcb t0
          rintro e V1 ⟨b6, n6, c6, ns6, rfl, hT6, hn6, hno6⟩
          have gA := xga V1 (.cells #[.slice b6 n6 c6] 33) none
          have bU := Bx.new V1 33 [.slice b6 n6 c6]
          have hN6 := (hT6.nos hn6).grown gA
          have G2 := xgt hT6.gr gA
          have hM2 := HM.out.1.kept G2
          have hn26 : nos ns2 = nos ns6 := HN2.out.trans hno6.symm
          have hdv6 : ∀ x ∈ nos ns6, Dv x := by rw [hno6]; exact HCN.out.1
          obtain ⟨q0, q1, q2, q3, q4, q5, q6, q7, q8, KK, p3, p4⟩ := stat_two hM2 (c5 := c6) hN6 hn26 hdv6 i
          have hdv2 := dv_of hdv6
          have hk6 : ∀ X ∈ ns6, X.kids.length ≤ 100000 := fun X hX => Nat.le_trans (HCN.out.2 X.no (by rw [← hno6]; exact List.mem_map.2 ⟨X, hX, rfl⟩)).2 (by decide)
          have h1 := pread_any _ mb a1 n1 c1 mp ns2 hM2 i 0 100 HDV.out.1 (by decide)
          have h2 := fun W g => rread_any W b6 n6 c6 ns6 (hN6.grown g) i 0 100 hdv2 (Or.inl (by decide))
          have h3 := fun W g => preaddir_own W mb a1 n1 c1 mp ns2 (hM2.kept g) i 0 100 HDV.out.2 (by decide)
          have h4 := fun W g => rreaddir_any W b6 n6 c6 ns6 (hN6.grown g) i 0 100 hk6 (by decide)
          rw [hn26] at h1 h3
          unfold RdPost12 at h1
          unfold RrPost12 at h2
          unfold RkPost2 at h3
          unfold RkPost at h4
          have hCl := rda_small13 (nos ns6) i 0 100
          generalize rda (nos ns6) i 0 100 = C at *
          generalize rdr (nos ns6) i 0 100 = D at *
          obtain ⟨C1, C2⟩ := C
          obtain ⟨D1, D2, D3⟩ := D
          simp only at h1 h2 h3 h4 hCl
          have HU : Hid _ := xai (xgt HM.out.2 G2) (xai bU (xai hCl (xai h2 (xai h3 (xai h4 (xai p3 p4))))))
          have HU0 : Hid (w.grownBy (V1.alloc (.cells #[.slice b6 n6 c6] 33)) none ∧ Bx (V1.alloc (.cells #[.slice b6 n6 c6] 33)) V1.heap.size 33 [.slice b6 n6 c6]) := ⟨xgt HM.out.2 G2, bU⟩
          clear gA bU hN6 G2 hM2 hn26 hdv6 hdv2 hk6 h2 h3 h4 hCl p3 p4 hT6 hn6 hno6 HM HCA HN2 HDV HCN HE HG HG2 HK HNL
          go_wp2_with fail
          generalize V1.alloc (.cells #[.slice b6 n6 c6] 33) = V2 at *
          generalize V1.heap.size = gu at *
          refine h1.mono ?_
          clear h1
          rintro e V3 ⟨xa, xc, rfl, g3, hby, -, hb⟩
          have hrow : Row V3 xa C1.length C1 := by
           rcases Nat.eq_zero_or_pos C1.length with h0 | h0
           ·have : C1 = [] := List.eq_nil_of_length_eq_zero h0
            subst this
            exact row_zero xa
           ·obtain ⟨g, rfl, -, hblk⟩ := hb h0
            exact Blk.row hblk hby (by have := HU.out.2.2.1; unfold maxLen; omega)
          have k2 := HU.out.2.2.2.1 V3 g3
          have t3 : _ = some _ := (HU0.out.2.kept g3).c 0
          have H3 : Hid _ := xai g3 hrow
          clear g3 hby hb hrow
          go_wp2_with fail
          refine k2.mono ?_
          clear k2 t3
          rintro e V4 ⟨ya, yc, rfl, g4, hr4⟩
          have G4 := xgt H3.out.1 g4
          have k3 := HU.out.2.2.2.2.1 V4 G4
          have H4 : Hid _ := xai G4 (xai (H3.out.2.grown g4) hr4)
          clear g4 hr4 G4 H3
          go_wp2_with fail
          refine k3.mono ?_
          clear k3
          rintro e V5 ⟨za, zn, zc, rfl, g5, hr5, -⟩
          have G5 := xgt H4.out.1 g5
          have k4 := HU.out.2.2.2.2.2.1 V5 G5
          have t5 : _ = some _ := (HU0.out.2.kept G5).c 0
          have H5 : Hid _ := xai G5 (xai (H4.out.2.1.grown g5) (xai (H4.out.2.2.grown g5) hr5))
          clear g5 hr5 G5 H4
          go_wp2_with fail
          refine k4.mono ?_
          clear k4 t5
          rintro e V6 ⟨wa, wn, wc, rfl, g6, hr6⟩
          have G6 := xgt H5.out.1 g6
          have k5 := HU.out.2.2.2.2.2.2.1 V6 G6
          have H6 : Hid _ := xai G6 (xai (H5.out.2.1.grown g6) (xai (H5.out.2.2.1.grown g6) (xai (H5.out.2.2.2.grown g6) hr6)))
          clear g6 hr6 G6 H5
          go_wp2_with fail
          refine k5.mono ?_
          clear k5
          rintro e V7 ⟨rfl, g7⟩
          have gX := xga V7 (.cells #[.int .i64 q0, .int .i64 q1, .int .i64 q2, .int .i64 q3, .int .i64 q4, .int .i64 q5, .int .i64 q6, .int .i64 q7, .int .i64 q8] 68) none
          have bX := Bx.new V7 68 [.int .i64 q0, .int .i64 q1, .int .i64 q2, .int .i64 q3, .int .i64 q4, .int .i64 q5, .int .i64 q6, .int .i64 q7, .int .i64 q8]
          have G7 := xgt (xgt H6.out.1 g7) gX
          have k6 := HU.out.2.2.2.2.2.2.2 _ G7
          have t7 : _ = some _ := (HU0.out.2.kept G7).c 0
          have g78 := xgt g7 gX
          have H7 : Hid _ := xai G7 (xai (H6.out.2.1.grown g78) (xai (H6.out.2.2.1.grown g78) (xai (H6.out.2.2.2.1.grown g78) (xai (H6.out.2.2.2.2.grown g78) bX))))
          clear g7 gX bX G7 g78 H6
          go_wp2_with fail
          generalize V7.alloc (.cells #[.int .i64 q0, .int .i64 q1, .int .i64 q2, .int .i64 q3, .int .i64 q4, .int .i64 q5, .int .i64 q6, .int .i64 q7, .int .i64 q8] 68) = V8 at *
          generalize V7.heap.size = gx at *
          refine k6.mono ?_
          clear k6 t7
          rintro e V9 ⟨rfl, g9⟩
          have gY := xga V9 (.cells #[.int .i64 q0, .int .i64 q1, .int .i64 q2, .int .i64 q3, .int .i64 q4, .int .i64 q5, .int .i64 q6, .int .i64 q7, .int .i64 q8] 68) none
          have bY := Bx.new V9 68 [.int .i64 q0, .int .i64 q1, .int .i64 q2, .int .i64 q3, .int .i64 q4, .int .i64 q5, .int .i64 q6, .int .i64 q7, .int .i64 q8]
          have gv := xgt g9 gY
          have H9 : Hid _ := xai (xgt H7.out.1 gv) (xai (H7.out.2.1.grown gv) (xai (H7.out.2.2.1.grown gv) (xai (H7.out.2.2.2.1.grown gv) (xai (H7.out.2.2.2.2.1.grown gv) (xai (H7.out.2.2.2.2.2.kept gv) bY)))))
          clear g9 gY bY gv H7 HU
          go_wp2_with fail
          generalize V9.alloc (.cells #[.int .i64 q0, .int .i64 q1, .int .i64 q2, .int .i64 q3, .int .i64 q4, .int .i64 q5, .int .i64 q6, .int .i64 q7, .int .i64 q8] 68) = Va at *
          generalize V9.heap.size = gy at *
          refine (pstat_nil _ i).mono ?_
          rintro e Vb ⟨rfl, gb⟩
          simp only [stV]
          have gZ := xga Vb (.cells #[.int .i64 0, .int .i64 0, .int .i64 0, .int .i64 0, .int .i64 0, .int .i64 0, .int .i64 0, .int .i64 0, .int .i64 0] 68) none
          have gv := xgt gb gZ
          have Hb : Hid _ := xai (xgt H9.out.1 gv) (xai (H9.out.2.1.grown gv) (xai (H9.out.2.2.1.grown gv) (xai (H9.out.2.2.2.1.grown gv) (xai (H9.out.2.2.2.2.1.grown gv) (xai (H9.out.2.2.2.2.2.1.kept gv) (H9.out.2.2.2.2.2.2.kept gv))))))
          clear gb gZ gv H9
          go_wp2_with fail
          generalize Vb.alloc (.cells #[.int .i64 0, .int .i64 0, .int .i64 0, .int .i64 0, .int .i64 0, .int .i64 0, .int .i64 0, .int .i64 0, .int .i64 0] 68) = Vc at *
          refine (pwalk_nil _ i _ true).mono ?_
          rintro e Vd ⟨rfl, gv⟩
          have Hd : Hid _ := xai (xgt Hb.out.1 gv) (xai (Hb.out.2.1.grown gv) (xai (Hb.out.2.2.1.grown gv) (xai (Hb.out.2.2.2.1.grown gv) (xai (Hb.out.2.2.2.2.1.grown gv) (xai (Hb.out.2.2.2.2.2.1.kept gv) (Hb.out.2.2.2.2.2.2.kept gv))))))
          clear gv Hb
          go_wp2_with fail
          refine (pnew_none _).mono ?_
          rintro e Ve ⟨rfl, gv⟩
          have cv1 := conv_row (Hd.out.2.1.grown gv) xc 23 9 Tryz.underlying23 Tryz.underlying5 Tryz.underlying9
          have cv2 := conv_row (Hd.out.2.2.1.grown gv) yc 23 9 Tryz.underlying23 Tryz.underlying5 Tryz.underlying9
          have hsk := rsamekids_any za wa zn zc wn wc D1 D1 Ve (Hd.out.2.2.2.1.grown gv) (Hd.out.2.2.2.2.1.grown gv)
          rw [(sameKds_eq D1 D1).2 rfl] at hsk
          have HF : Hid _ := xai (xgt HU0.out.1 (xgt Hd.out.1 gv)) (xai (Hd.out.2.2.2.2.2.1.kept gv) (Hd.out.2.2.2.2.2.2.kept gv))
          clear gv Hd HU0
          generalize strOfNums C1 = ss at *
          generalize C1.length = nn at *
          go_wp2_with fail
          refine hsk.mono ?_
          clear hsk cv1 cv2
          rintro e Vf ⟨rfl, t4, rfl⟩
          have gq : Ve.grownBy (Ve.drewN t4) none := ⟨rfl, rfl, rfl, Nat.le_refl _, fun _ _ _ => rfl⟩
          have HF2 : Hid _ := xai (xgt HF.out.1 gq) (xai (HF.out.2.1.kept gq) (HF.out.2.2.kept gq))
          clear gq HF
          generalize Ve.drewN t4 = Vg at *
          obtain ⟨x0, x1, x2, x3, x4, x5, x6, x7, x8⟩ := bx9 HF2.out.2.1
          obtain ⟨y0, y1, y2, y3, y4, y5, y6, y7, y8⟩ := bx9 HF2.out.2.2
          go_wp2_with (go_at_call 20; refine (num12_any _ _).mono ?_; rintro e w' ⟨rfl, rfl⟩)
          refine (live12_any _).mono ?_
          rintro e Vh ⟨rfl, gh⟩
          have HGh : Hid _ := xgt HF2.out.1 gh
          clear gh HF2
          go_wp2
          go_ret
          exact ⟨rfl, HGh.out⟩
   ·have hkb : (k2 == 0) = false := by rw [beq_eq_false_iff_ne]; exact hz
    have hkn : (k2 != 0) = true := by simp [hz]
    clear HE HG HK
    go_wp2_with fail
    refine (live12_any _).mono ?_
    rintro e W3 ⟨rfl, g3⟩
    have HG3 : Hid _ := xgt HG2.out g3
    clear g3 HG2
    go_wp2
    go_ret
    exact ⟨rfl, HG3.out⟩
end Go.Proofs.YtlehncfehoelbaaGreatDoor
namespace Go.Proofs.YtlehncfehoelbaaGreatDoor
open Go.ChangeShapes Go.WideShapes Go.RowKit Go.Joins
set_option maxRecDepth 100000
set_option linter.unusedVariables false
set_option linter.unusedSimpArgs false
theorem Tryz.ce3 : Tryz.prog.cellsOf 3 = 1 := by kernel_rfl
theorem Tryz.ce5 : Tryz.prog.cellsOf 5 = 1 := by kernel_rfl
theorem Tryz.ce9 : Tryz.prog.cellsOf 9 = 1 := by kernel_rfl
theorem Tryz.ceB : Tryz.prog.cellsOf 23 = 1 := by kernel_rfl
theorem Tryz.ceA : Tryz.prog.cellsOf 45 = 2 := by kernel_rfl
theorem Tryz.ceAs : Tryz.prog.cellsOf 28 = 1 := by kernel_rfl
theorem Tryz.ceE : Tryz.prog.cellsOf 30 = 11 := by kernel_rfl
theorem row_of_trod11 {H : Type} {enc : TypeId × Value → H} {w : World} {fuel : Nat} {v : Value} {x : DataW H × List MemPlace} (h : DataW.trod enc Tryz.prog w 0 (fun _ => true) true fuel 23 [v] = some x) :
  ∃ a len cap xs, v = .slice a len cap ∧ Row w a len xs ∧ len ≤ cap := by
 rcases open_ints Tryz.underlying23 Tryz.underlying5 Tryz.ce5 h with ⟨hcs, _⟩ | ⟨y, l, c, zs, hcs, _, hl, hm, hz, _, hcell, hwz⟩
 ·simp at hcs
  have hr : IsRow .u8 w none 0 0 [] := .inl ⟨rfl, rfl, rfl, rfl⟩
  exact ⟨none, 0, 0, _, hcs, hr.row, Nat.le_refl _⟩
 ·simp at hcs
  have hr : IsRow .u8 w (some y) l c zs := .inr ⟨_, rfl, hl, hm, by simpa using hz, hcell, hwz⟩
  exact ⟨some y, l, c, _, hcs, hr.row, hl⟩
theorem trod_struct11 {H : Type} {P : Program} {enc : TypeId × Value → H} {w : World} {base : Nat} {spare : Nat → Bool} {held : Bool} {t : TypeId} {f0 f1 f2 f3 f4 f5 f6 f7 f8 f9 f10 : Field} {fuel : Nat} {cs : List Value} {x : DataW H × List MemPlace} (ht : P.underlying t = some (.struct #[f0, f1, f2, f3, f4, f5, f6, f7, f8, f9, f10])) (h : DataW.trod enc P w base spare held fuel t cs = some x) :
  ∃ y0 y1 y2 y3 y4 y5 y6 y7 y8 y9 y10 n, cs.length = P.cellsOf t ∧ DataW.trod enc P w base spare held n f0.type ((cs.drop f0.offset).take (P.cellsOf f0.type)) = some y0 ∧
   DataW.trod enc P w base spare held n f1.type ((cs.drop f1.offset).take (P.cellsOf f1.type)) = some y1 ∧
   DataW.trod enc P w base spare held n f2.type ((cs.drop f2.offset).take (P.cellsOf f2.type)) = some y2 ∧
   DataW.trod enc P w base spare held n f3.type ((cs.drop f3.offset).take (P.cellsOf f3.type)) = some y3 ∧
   DataW.trod enc P w base spare held n f4.type ((cs.drop f4.offset).take (P.cellsOf f4.type)) = some y4 ∧
   DataW.trod enc P w base spare held n f5.type ((cs.drop f5.offset).take (P.cellsOf f5.type)) = some y5 ∧
   DataW.trod enc P w base spare held n f6.type ((cs.drop f6.offset).take (P.cellsOf f6.type)) = some y6 ∧
   DataW.trod enc P w base spare held n f7.type ((cs.drop f7.offset).take (P.cellsOf f7.type)) = some y7 ∧
   DataW.trod enc P w base spare held n f8.type ((cs.drop f8.offset).take (P.cellsOf f8.type)) = some y8 ∧
   DataW.trod enc P w base spare held n f9.type ((cs.drop f9.offset).take (P.cellsOf f9.type)) = some y9 ∧
   DataW.trod enc P w base spare held n f10.type ((cs.drop f10.offset).take (P.cellsOf f10.type)) = some y10 := by
 obtain ⟨xs, n, _, rfl, hl, hlen, hf⟩ := DataW.trod_struct ht h
 match xs, hlen with
 | [y0, y1, y2, y3, y4, y5, y6, y7, y8, y9, y10], _ => exact ⟨y0, y1, y2, y3, y4, y5, y6, y7, y8, y9, y10, n, hl, by simpa using hf 0 f0 rfl, by simpa using hf 1 f1 rfl, by simpa using hf 2 f2 rfl, by simpa using hf 3 f3 rfl, by simpa using hf 4 f4 rfl, by simpa using hf 5 f5 rfl, by simpa using hf 6 f6 rfl, by simpa using hf 7 f7 rfl, by simpa using hf 8 f8 rfl, by simpa using hf 9 f9 rfl, by simpa using hf 10 f10 rfl⟩
theorem list11 {α : Type} {l : List α} (h : l.length = 11) : ∃ x0 x1 x2 x3 x4 x5 x6 x7 x8 x9 x10, l = [x0, x1, x2, x3, x4, x5, x6, x7, x8, x9, x10] := by
 match l, h with
 | [x0, x1, x2, x3, x4, x5, x6, x7, x8, x9, x10], _ => exact ⟨x0, x1, x2, x3, x4, x5, x6, x7, x8, x9, x10, rfl⟩
theorem list2 {α : Type} {l : List α} (h : l.length = 2) : ∃ x0 x1, l = [x0, x1] := by
 match l, h with
 | [x0, x1], _ => exact ⟨x0, x1, rfl⟩
theorem at_of_trod {H : Type} {enc : TypeId × Value → H} {w : World} {n : Nat} {cs : List Value} {x : DataW H × List MemPlace} {b o : Nat} (hl : cs.length = 2) (hc : ∀ t, t < 2 → w.cell? ⟨b, o + t, none⟩ = cs[t]?)
  (h : DataW.trod enc Tryz.prog w 0 (fun _ => true) true n 45 cs = some x) : ∃ A : AtV, AtAt w b o A := by
 obtain ⟨x0, x1, rfl⟩ := list2 hl
 obtain ⟨y0, y1, m, _, _, h0, h1⟩ := trod_struct2 Tryz.underlying45 h
 simp only [Tryz.ce9, Tryz.ceB, List.drop_zero, List.drop_succ_cons, List.take_succ_cons, List.take_zero] at h0 h1
 obtain ⟨s, e0, _, _⟩ := DataW.trod_string Tryz.underlying9 h0
 obtain ⟨a, len, cap, xs, e1, hr, hcp⟩ := row_of_trod11 h1
 simp only [List.cons.injEq, and_true] at e0
 subst e0 e1
 exact ⟨⟨s, a, len, cap, xs⟩, hc 0 (by omega), hc 1 (by omega), hr, hcp⟩
theorem ats_of_trod {H : Type} {enc : TypeId × Value → H} {w : World} {fuel : Nat} {v : Value} {x : DataW H × List MemPlace} (h : DataW.trod enc Tryz.prog w 0 (fun _ => true) true fuel 28 [v] = some x) :
  ∃ a len cap l, v = .slice a len cap ∧ Ats w a len l ∧ len ≤ cap ∧ (a = none → cap = 0) := by
 rcases Deep.open_slice Tryz.underlying28 h with ⟨hcs, _⟩ | ⟨y, len, cap, m, n, D, Pl, hcs, _, hl, hm, hmm, _, hel⟩
 ·simp at hcs
  exact ⟨none, 0, 0, [], hcs, ⟨rfl, Nat.zero_le _, fun h => absurd h (by omega)⟩, Nat.le_refl _, fun _ => rfl⟩
 ·simp at hcs
  simp only [if_true] at hmm
  subst hmm
  rcases Nat.eq_zero_or_pos len with rfl | h0
  ·exact ⟨some y, 0, _, [], hcs, ⟨rfl, Nat.zero_le _, fun h => absurd h (by omega)⟩, hl, fun e => by cases e⟩
  ·obtain ⟨b, off, spot⟩ := y
   rw [Tryz.ceA] at hel
   have hspot : spot = none := by
    obtain ⟨cs, h1, _⟩ := hel 0 (by omega)
    obtain ⟨_, hl4, hc⟩ := World.cells?_some h1
    have := hc 0 (by omega)
    obtain ⟨x0, x1, rfl⟩ := list2 hl4
    have h2 : w.cell? ((Addr.add ⟨b, off, spot⟩ (0 * 2)).add 0) = some x0 := this
    simpa [Addr.add] using World.cell?_spot h2
   subst hspot
   have hadd : ∀ i t, ((⟨b, off, none⟩ : Addr).add (i * 2)).add t = ⟨b, off + i * 2 + t, none⟩ := by
    intro i t
    have e : ∀ o k, (⟨b, o, none⟩ : Addr).add k = ⟨b, o + k, none⟩ := by intro o k; unfold Addr.add; split <;> simp_all
    rw [e, e]
   obtain ⟨A, hA⟩ := @Deep.choose_lt AtV ⟨⟨⟨#[]⟩, none, 0, 0, []⟩⟩ len (fun i A => AtAt w b (off + i * 2) A) (fun i hi => by
    obtain ⟨cs, h1, h2⟩ := hel i (by omega)
    obtain ⟨_, hl4, hc⟩ := World.cells?_some h1
    exact at_of_trod hl4 (fun t ht => by rw [← hadd]; exact hc t ht) h2)
   refine ⟨_, len, _, (List.range len).map A, hcs, ⟨by simp, by omega, fun _ => ⟨b, off, rfl, fun i X hX => ?_⟩⟩, hl, fun e => by cases e⟩
   have hi : i < len := by
    rcases Nat.lt_or_ge i len with h | h
    ·exact h
    ·rw [List.getElem?_eq_none (by simp; omega)] at hX; cases hX
   rw [List.getElem?_map, List.getElem?_range hi] at hX
   simp at hX
   subst hX
   exact hA i hi
theorem en_of_trod {H : Type} {enc : TypeId × Value → H} {w : World} {n : Nat} {cs : List Value} {x : DataW H × List MemPlace} {b o : Nat} (hl : cs.length = 11) (hc : ∀ t, t < 11 → w.cell? ⟨b, o + t, none⟩ = cs[t]?)
  (h : DataW.trod enc Tryz.prog w 0 (fun _ => true) true n 30 cs = some x) : ∃ X : EnV, EnAt w b o X := by
 obtain ⟨x0, x1, x2, x3, x4, x5, x6, x7, x8, x9, x10, rfl⟩ := list11 hl
 obtain ⟨y0, y1, y2, y3, y4, y5, y6, y7, y8, y9, y10, m, _, h0, h1, h2, h3, h4, h5, h6, h7, h8, h9, h10⟩ := trod_struct11 Tryz.underlying30 h
 simp only [Tryz.ce3, Tryz.ce9, Tryz.ceB, Tryz.ceAs, List.drop_zero, List.drop_succ_cons, List.take_succ_cons, List.take_zero] at h0 h1 h2 h3 h4 h5 h6 h7 h8 h9 h10
 obtain ⟨s0, e0, _, _⟩ := DataW.trod_string Tryz.underlying9 h0
 obtain ⟨z1, e1, _, w1⟩ := DataW.trod_int Tryz.underlying3 h1
 obtain ⟨z2, e2, _, w2⟩ := DataW.trod_int Tryz.underlying3 h2
 obtain ⟨z3, e3, _, w3⟩ := DataW.trod_int Tryz.underlying3 h3
 obtain ⟨z4, e4, _, w4⟩ := DataW.trod_int Tryz.underlying3 h4
 obtain ⟨z5, e5, _, w5⟩ := DataW.trod_int Tryz.underlying3 h5
 obtain ⟨z6, e6, _, w6⟩ := DataW.trod_int Tryz.underlying3 h6
 obtain ⟨da, dl, dc, ds, e7, hr, hcp⟩ := row_of_trod11 h7
 obtain ⟨s8, e8, _, _⟩ := DataW.trod_string Tryz.underlying9 h8
 obtain ⟨z9, e9, _, w9⟩ := DataW.trod_int Tryz.underlying3 h9
 obtain ⟨aa, al, ac, tts, e10, ha, hac, _⟩ := ats_of_trod h10
 simp only [List.cons.injEq, and_true] at e0 e1 e2 e3 e4 e5 e6 e8 e9
 subst e0 e1 e2 e3 e4 e5 e6 e7 e8 e9 e10
 exact ⟨⟨s0, z1, z2, z3, z4, z5, z6, da, dl, dc, ds, s8, z9, aa, al, ac, tts⟩, hc 0 (by omega), hc 1 (by omega), hc 2 (by omega), hc 3 (by omega), hc 4 (by omega), hc 5 (by omega), hc 6 (by omega), hc 7 (by omega), hc 8 (by omega), hc 9 (by omega), hc 10 (by omega), ⟨hr, hcp, ha, hac⟩⟩
theorem ens_of_trod {H : Type} {enc : TypeId × Value → H} {w : World} {fuel : Nat} {v : Value} {x : DataW H × List MemPlace} (h : DataW.trod enc Tryz.prog w 0 (fun _ => true) true fuel 22 [v] = some x) :
  ∃ a len cap l, v = .slice a len cap ∧ Ens w a len l ∧ len ≤ cap ∧ (a = none → cap = 0) := by
 rcases Deep.open_slice Tryz.underlying22 h with ⟨hcs, _⟩ | ⟨y, len, cap, m, n, D, Pl, hcs, _, hl, hm, hmm, _, hel⟩
 ·simp at hcs
  exact ⟨none, 0, 0, [], hcs, ⟨rfl, Nat.zero_le _, fun h => absurd h (by omega)⟩, Nat.le_refl _, fun _ => rfl⟩
 ·simp at hcs
  simp only [if_true] at hmm
  subst hmm
  rcases Nat.eq_zero_or_pos len with rfl | h0
  ·exact ⟨some y, 0, _, [], hcs, ⟨rfl, Nat.zero_le _, fun h => absurd h (by omega)⟩, hl, fun e => by cases e⟩
  ·obtain ⟨b, off, spot⟩ := y
   rw [Tryz.ceE] at hel
   have hspot : spot = none := by
    obtain ⟨cs, h1, _⟩ := hel 0 (by omega)
    obtain ⟨_, hl4, hc⟩ := World.cells?_some h1
    have := hc 0 (by omega)
    obtain ⟨x0, x1, x2, x3, x4, x5, x6, x7, x8, x9, x10, rfl⟩ := list11 hl4
    have h2 : w.cell? ((Addr.add ⟨b, off, spot⟩ (0 * 11)).add 0) = some x0 := this
    simpa [Addr.add] using World.cell?_spot h2
   subst hspot
   have hadd : ∀ i t, ((⟨b, off, none⟩ : Addr).add (i * 11)).add t = ⟨b, off + i * 11 + t, none⟩ := by
    intro i t
    have e : ∀ o k, (⟨b, o, none⟩ : Addr).add k = ⟨b, o + k, none⟩ := by intro o k; unfold Addr.add; split <;> simp_all
    rw [e, e]
   obtain ⟨A, hA⟩ := @Deep.choose_lt EnV ⟨⟨⟨#[]⟩, 0, 0, 0, 0, 0, 0, none, 0, 0, [], ⟨#[]⟩, 0, none, 0, 0, []⟩⟩ len (fun i A => EnAt w b (off + i * 11) A) (fun i hi => by
    obtain ⟨cs, h1, h2⟩ := hel i (by omega)
    obtain ⟨_, hl4, hc⟩ := World.cells?_some h1
    exact en_of_trod hl4 (fun t ht => by rw [← hadd]; exact hc t ht) h2)
   refine ⟨_, len, _, (List.range len).map A, hcs, ⟨by simp, by omega, fun _ => ⟨b, off, rfl, fun i X hX => ?_⟩⟩, hl, fun e => by cases e⟩
   have hi : i < len := by
    rcases Nat.lt_or_ge i len with h | h
    ·exact h
    ·rw [List.getElem?_eq_none (by simp; omega)] at hX; cases hX
   rw [List.getElem?_map, List.getElem?_range hi] at hX
   simp at hX
   subst hX
   exact hA i hi
end Go.Proofs.YtlehncfehoelbaaGreatDoor
namespace Go.Proofs.YtlehncfehoelbaaGreatDoor
open Go.RowKit Go.ChangeShapes Go.WideShapes Go.ChangeAt
set_option maxRecDepth 100000
set_option linter.unusedSimpArgs false
set_option linter.unusedVariables false
theorem tree_shape {H : Type} {enc : TypeId × Value → H} {w : World} {fuel : Nat} {cs : List Value} {x : DataW H × List MemPlace} (h : DataW.trod enc Tryz.prog w 0 (fun _ => true) true fuel 33 cs = some x) (hl1 : cs.length = 1) :
  ∃ a len cap, cs = [.slice a len cap] := by
 obtain ⟨xs, n, _, rfl, hl, hlen, hf⟩ := DataW.trod_struct Tryz.underlying33 h
 match xs, hlen with
 | [y0], _ =>
  match cs, hl1 with
  | [v], _ =>
   have h0 := hf 0 _ rfl
   have h0' : DataW.trod enc Tryz.prog w 0 (fun _ => true) true n 31 [v] = some y0 := by
    have e : Tryz.prog.cellsOf 31 = 1 := by kernel_rfl
    simpa [e] using h0
   rcases DataW.trod_slice Tryz.underlying31 h0' with ⟨e, _⟩ | ⟨a, len, cap, _, _, _, _, e, _⟩
   ·exact ⟨none, 0, 0, e⟩
   ·exact ⟨some a, len, cap, e⟩
end Go.Proofs.YtlehncfehoelbaaGreatDoor
