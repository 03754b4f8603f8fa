/- The program's tree: lay. -/
import Derived.Test.YtlehncfehoelbaaGreatDoorCq06
import Derived.Test.YtlehncfehoelbaaGreatDoorCq15
import Derived.Test.YtlehncfehoelbaaGreatDoorCq17
import Derived.Test.YtlehncfehoelbaaGreatDoorCq18
import Derived.Test.YtlehncfehoelbaaGreatDoorCq19
namespace Go.Proofs.YtlehncfehoelbaaGreatDoor
open Go.RowKit
set_option maxRecDepth 100000
set_option linter.unusedSimpArgs false
set_option linter.unusedVariables false
def Szn (X : EnV) : Prop := X.al ≤ 100000 ∧ Dn (X.attrs.map AtV.at) ∧ (∀ A ∈ X.attrs, A.n.size ≤ 1000000 ∧ A.len ≤ 16777216) ∧ (X.k = 1 → X.dl ≤ 16777216) ∧ (X.k = 3 → X.target.size ≤ 1000000)
def Szl (l : List EnV) : Prop := ∀ X ∈ l, X.path.size ≤ 5000 ∧ X.target.size ≤ 9223372036854775807 ∧ (X.k ≠ 6 → Szn X)
def LyPost (w : World) (en : List En) (e : Ending) (w' : World) : Prop := ∃ v ns, e = .returned (.agg #[v]) ∧ Tq w w' w.heap.size v ns ∧ nos ns = canon en
theorem tq_nil {w W : World} (g : w.grownBy W none) : Tq w W w.heap.size (.slice none 0 0) [] :=
 ⟨g, Nat.le_refl _, ⟨rfl, .inl ⟨rfl, rfl⟩⟩, fun i X h => (by cases h), fun i j X Y h => (by cases h)⟩
theorem ok_spl {l : List EnV} (ok : OkS (ens l)) : ∀ X ∈ l, (spl X.path.toList).2 = 0 := by
 intro X hX
 have h := (ok.each X.en (List.mem_map.2 ⟨X, hX, rfl⟩)).path
 unfold pth at h
 by_cases hp : X.en.path = []
 ·have e : X.path.toList = [] := hp
  rw [e]; rfl
 ·rw [if_neg hp] at h
  by_cases h2 : (spl X.en.path).2 = 0
  ·exact h2
  ·rw [if_pos h2] at h; cases h
def stY (en : List En) (o : List Nat) (j : Nat) : Ly := (o.take j).foldl (lySt en) (ly0 en)
theorem stY_next {en : List En} {o : List Nat} {j i : Nat} (h : o[j]? = some i) : stY en o (j + 1) = lySt en (stY en o j) i := by
 unfold stY; rw [take_snoc h, List.foldl_append]; rfl
theorem stY_root {en : List En} {o : List Nat} {j i : Nat} {x : En} (h : o[j]? = some i) (ex : entI en i = x) (hp : x.path = []) : stY en o (j + 1) = lyNew en (stY en o j) (ownI en i x) := by
 rw [stY_next h]; unfold lySt; rw [ex, if_pos hp]
theorem stY_name {en : List En} {o : List Nat} {j i f u q : Nat} {x z : En} {ow : Nat} {y1 : Ly} (h : o[j]? = some i) (ex : entI en i = x) (hp : x.path ≠ []) (eo : ownI en i x = ow) (ez : entI en ow = z) (ey : lyNew en (stY en o j) ow = y1) (hf : plF en (upT x.path) = f) (hu : y1.nm.getD f (-1) = u) (hq : y1.nm.getD ow (-1) = q) :
  stY en o (j + 1) = ⟨hngQ u q (lastT x.path) (decide (z.k = 2)) y1.ns, y1.nm⟩ := by
 rw [stY_next h]; unfold lySt; rw [ex, if_neg hp, eo, ez, ey, hf, hq, Int.toNat_natCast, Int.toNat_natCast, hu, Int.toNat_natCast]
theorem nos_get {ns : List NoV} {y : List No} (h : nos ns = y) {q : Nat} {k : Int} (hk : y[q]?.map No.k = some k) : ∃ N, ns[q]? = some N ∧ N.k = k := by
 rw [← h] at hk
 unfold nos at hk
 rw [List.getElem?_map] at hk
 cases hn : ns[q]? with
 | none => rw [hn] at hk; cases hk
 | some N =>
  rw [hn] at hk
  injection hk with hk
  exact ⟨N, rfl, hk⟩
theorem nvc_one (N : NoV) : ∀ u ∈ nvc N, u.oneCell' = true := by intro u hu; simp [nvc] at hu; rcases hu with h | h | h | h | h | h | h | h | h | h | h | h | h <;> rw [h] <;> rfl
theorem nos_app (a b : List NoV) : nos (a ++ b) = nos a ++ nos b := by unfold nos; rw [List.map_append]
theorem lastT_len (p : Tx) : (lastT p).length ≤ p.length := by
 unfold lastT
 cases lsl p p.length with
 | none => exact Nat.le_refl _
 | some i => show (p.drop (i + 1)).length ≤ _; rw [List.length_drop]; omega
theorem upT_len (p : Tx) : (upT p).length ≤ p.length := by
 unfold upT
 cases lsl p p.length with
 | none => exact Nat.zero_le _
 | some i => show (p.take i).length ≤ _; rw [List.length_take]; omega
theorem ls_km {ns : List NoV} {y : List No} {K : Nat} (h : nos ns = y) (km : kmax y K) (hk : ∀ (i : Nat) (X : NoV), ns[i]? = some X → X.kl = X.kids.length) {u : Nat} {U : NoV} (hU : ns[u]? = some U) : U.kl ≤ K := by
 rw [hk u U hU]
 have := km u U.no (by rw [← h]; unfold nos; rw [List.getElem?_map, hU]; rfl)
 exact this
theorem ls_lm {ns : List NoV} {y : List No} {K : Nat} (h : nos ns = y) (lm : lmax y K) : ∀ X ∈ ns, 0 ≤ X.links ∧ X.links ≤ K := by
 intro X hX
 obtain ⟨i, hi⟩ := List.mem_iff_getElem?.1 hX
 exact lm i X.no (by rw [← h]; unfold nos; rw [List.getElem?_map, hi]; rfl)
set_option maxHeartbeats 16000000 in
theorem play_any (a : Option Addr) (len cap : Nat) (l : List EnV) (w : World) (E : Ens w a len l) (h1 : 1 ≤ len) (hlen : len ≤ 20000) (ok : OkS (ens l)) (r : Nat) (xr : EnV) (hr : l[r]? = some xr) (hxr : xr.path.toList = []) (hs : Szl l) :
  Calls Tryz.prog 32 #[.slice a len cap] w (LyPost w (ens l)) := by
 have hll := E.len_eq
 have hre : (ens l)[r]? = some xr.en := by unfold ens; rw [List.getElem?_map, hr]; rfl
 have hel : (ens l).length = len := by unfold ens; rw [List.length_map, hll]
 have hxe : xr.en.path = [] := hxr
 obtain ⟨ik, hi0, hz0, hz1, hz2⟩ := info_parts Tryz.infoN
 have HIN : Hid _ := xai hi0 (xai hz0 (xai hz1 hz2))
 clear hi0 hz0 hz1 hz2
 have HI : Hid _ := xai E (xai hll (xai hel (xai ok (xai hre (xai hxe hs)))))
 have HSP : Hid _ := ok_spl ok
 clear E hll hel ok hre hxe hs hr hxr
 have B0 : Hid _ := Bx.new w 33 [.slice none 0 0]
 have G0 : Hid _ := xga w (.cells #[.slice none 0 0] 33) none
 have hpl := fun W g => pplaces_any a len cap l W (HI.out.1.grown g) (fun X hX => (HI.out.2.2.2.2.2.2 X hX).1) (by omega)
 go_enter Tryz.func32, Tryz.ntmps32
 go_wp2_with fail
 refine (hpl _ G0.out).mono ?_
 clear hpl
 rintro e W1 ⟨rfl, hm, g1⟩
 have HP1 : Hid (Bx W1 w.heap.size 33 [.slice none 0 0] ∧ MapF W1 9 (w.alloc (.cells #[.slice none 0 0] 33)).heap.size len (plK (ens l)) ∧ w.grownBy W1 none) := ⟨B0.out.kept g1, hm, xgt G0.out g1⟩
 clear B0 G0 hm g1
 generalize (w.alloc (.cells #[.slice none 0 0] 33)).heap.size = gm at *
 go_wp2_with fail
 have gA := xga W1 (.cells #[.int .i64 (-1)] 3) none
 have bA := Bx.new W1 3 [.int .i64 (-1)]
 refine (prepeat_any _ len (W1.alloc (.cells #[.int .i64 (-1)] 3)) (bA.c 0) h1 (by omega)).mono ?_
 rintro e W2 ⟨gn, rfl, hrow, g2⟩
 have HP2 : Hid _ := xai (HP1.out.1.kept (xgt gA g2)) (xai (HP1.out.2.1.kept (xgt gA g2) (by simp)) (xai (xgt HP1.out.2.2 (xgt gA g2)) (owns_low11 hrow (Nat.le_trans HP1.out.2.2.size gA.size))))
 clear HP1 gA bA hrow g2
 go_wp2_with fail
 refine (pinorder_any a len cap l W2 (HI.out.1.grown HP2.out.2.2.1) h1 (by omega) (fun X hX => (HI.out.2.2.2.2.2.2 X hX).1) HSP.out).mono ?_
 rintro e W3 ⟨go_, o, rfl, hro, hperm, hsort, g3⟩
 have hoo : o = r :: ordL (pths (ens l)) := ord_of HI.out.2.2.2.1 HI.out.2.2.2.2.1 HI.out.2.2.2.2.2.1 (by rw [HI.out.2.2.1]; exact hperm) (by
  have e : (l.map fun X => X.path.toList) = pths (ens l) := by unfold pths ens; rw [List.map_map]; rfl
  rw [e] at hsort; exact hsort)
 have hne : gn ≠ go_ := by
  have k1 := (HP2.out.2.2.2.lt gn rfl).2
  have k2 := (hro.lt go_ rfl).1
  omega
 have hol : o.length = len := by have := hperm.length_eq; rwa [List.length_range] at this
 have hLm : Lm w W3 w.heap.size w.heap.size gm gn go_ len (ens l) (.slice none 0 0) [] (stY (ens l) o 0).nm o :=
  ⟨tq_nil (xgt HP2.out.2.2.1 g3), HP2.out.1.kept g3, HP2.out.2.1.kept g3 (by simp), by
   have e : (stY (ens l) o 0).nm.map iv = List.replicate len (.int .i64 (-1)) := by
    show (List.replicate (ens l).length (-1 : Int)).map iv = _
    rw [List.map_replicate, HI.out.2.2.1]; rfl
   rw [e]; exact owns_kept11 HP2.out.2.2.2 g3, owns_low11 hro HP2.out.2.2.1.size, hne⟩
 have hls : ∀ j i, o[j]? = some i → Ls (ens l) (stY (ens l) o j) i j := fun j i h => by
  rw [hoo] at h ⊢
  exact lay_ls HI.out.2.2.2.1 HI.out.2.2.2.2.1 HI.out.2.2.2.2.2.1 h
 have hfin : (stY (ens l) o len).ns = canon (ens l) := by
  unfold stY
  rw [← hol, List.take_length, hoo]
  exact lay_canon HI.out.2.2.2.1 HI.out.2.2.2.2.1 HI.out.2.2.2.2.2.1
 have hoi : ∀ j i, o[j]? = some i → i < len := fun j i h => List.mem_range.1 (hperm.mem_iff.1 (List.mem_of_getElem? h))
 have HO : Hid _ := xai hls (xai hfin (xai hol hoi))
 have HL0 : Hid _ := hLm
 have hgt : gn < gn + 1 := by omega
 clear HP2 HSP hro hperm hsort g3 hoo hne hol hLm hls hfin hgt hoi
 generalize hB : w.heap.size = B at *
 have HB : Hid _ := hB
 clear hB
 go_wp2_with fail
 go_loopw [5, 21] (fun v5 vi wr => ∃ (j : Nat), j ≤ len ∧ vi = .int .i64 j ∧ ∃ (va : Option Addr) (n vc : Nat), v5 = .slice va n vc ∧ Hid (∃ ns, Lm w wr B B gm gn go_ len (ens l) (.slice va n vc) ns (stY (ens l) o j).nm o ∧ nos ns = (stY (ens l) o j).ns ∧ ns.length = n)) (fun _ vi _ => len - (intOf vi).toNat)
 case atStart => exact ⟨0, Nat.zero_le _, rfl, none, 0, 0, rfl, [], HL0.out, rfl, rfl⟩
 case round =>
  clear HL0
  obtain ⟨j, hj, rfl, va, n, vc, rfl, HL⟩ := hrel
  by_cases hlt : j < len
  ·obtain ⟨i, hoj⟩ : ∃ i, o[j]? = some i := ⟨_, List.getElem?_eq_getElem (by rw [HO.out.2.2.1]; exact hlt)⟩
   have hLs := HO.out.1 j i hoj
   have hil := HO.out.2.2.2 j i hoj
   obtain ⟨X, hX⟩ : ∃ X, l[i]? = some X := ⟨_, List.getElem?_eq_getElem (by rw [HI.out.2.1]; exact hil)⟩
   have heX : (ens l)[i]? = some X.en := by unfold ens; rw [List.getElem?_map, hX]; rfl
   have eX := entI_of heX
   obtain ⟨ow, how⟩ : ∃ ow, ownI (ens l) i X.en = ow := ⟨_, rfl⟩
   obtain ⟨lso, lsi, lsu, lsk, lkm, llm, lnl, lns⟩ := hLs
   rw [eX, how] at lso lsi lsu lsk lkm llm
   rw [HI.out.2.2.1] at lso lnl lns
   obtain ⟨Z, hZ⟩ : ∃ Z, l[ow]? = some Z := ⟨_, List.getElem?_eq_getElem (by rw [HI.out.2.1]; exact lso)⟩
   have heZ : (ens l)[ow]? = some Z.en := by unfold ens; rw [List.getElem?_map, hZ]; rfl
   have eZ := entI_of heZ
   rw [eZ] at lsi lsk
   have hXs := HI.out.2.2.2.2.2.2 X (List.mem_of_getElem? hX)
   have hZs := HI.out.2.2.2.2.2.2 Z (List.mem_of_getElem? hZ)
   have hF6 : X.k = 6 → plF (ens l) X.target.toList = ow := fun h => by rw [← how]; exact plF_own HI.out.2.2.2.1 heX h
   have hP6 : X.k = 6 → X.path.toList ≠ [] := fun h e => by
    have := root_k HI.out.2.2.2.1 (List.mem_of_getElem? heX) e
    have e2 : X.en.k = X.k := rfl
    omega
   obtain ⟨ns, hL, hns, hnl⟩ := HL.out
   obtain ⟨b, off, rfl, hat⟩ := (HI.out.1.grown hL.tq.gr).at_ (by omega)
   obtain ⟨y0, y1, y2, y3, y4, y5, y6, y7, y8, y9, y10, yok⟩ := hat i X hX
   have co := hL.ordC hoj hlt
   obtain ⟨Y1, hY1⟩ : ∃ Y1, lyNew (ens l) (stY (ens l) o j) ow = Y1 := ⟨_, rfl⟩
   rw [hY1] at lsi lsu lkm llm
   have HST : Hid _ := xai hoj (xai eX (xai how (xai eZ hY1)))
   have cn := hL.numC lnl lso
   have hgn := (hL.nums.lt gn rfl).2
   have HLY : Hid (lyNew (ens l) (stY (ens l) o j) ow = Y1 ∧ (stY (ens l) o j).nm.length = len ∧ (stY (ens l) o j).ns.length = n ∧ n ≤ len ∧ ow < len) := ⟨hY1, lnl, by rw [← hns, nos_len, hnl], by rw [← hnl, ← nos_len, hns]; exact lns, lso⟩
   obtain ⟨m, hm⟩ : ∃ m, (stY (ens l) o j).nm.getD ow (-1) = m := ⟨_, rfl⟩
   rw [hm] at cn
   have HM : Hid _ := hm
   have HLS : Hid _ := xai lsi (xai lsu (xai lkm llm))
   have HZZ : Hid _ := xai hZ (xai hZs lsk)
   have HPX : Hid _ := xai hXs.1 hP6
   have hts := hXs.2.1
   clear lsi lsu lsk lkm llm lnl lns hZs hP6 hm hY1 eX how eZ heX heZ hoj hXs hat HL hX hZ
   have yok2 := yok
   clear yok yok2
   have hlti : (j : Int) < (len : Int) := by omega
   have hili : (i : Int) < (len : Int) := by omega
   have hoi : (ow : Int) < (len : Int) := by omega
   obtain ⟨path, KY, mo, uid, gid, ti, sz_, da, D, dc, data, tg, dev, aa, al, ac, attrs⟩ := X
   simp only at y0 y1 y2 y3 y4 y5 y6 y7 y8 y9 y10 hF6 hts HPX
   simp only [EnV.en] at HST
   have gx := xga wr (.cells #[.string path, .int .i64 KY, .int .i64 mo, .int .i64 uid, .int .i64 gid, .int .i64 ti, .int .i64 sz_, .slice da D dc, .string tg, .int .i64 dev, .slice aa al ac] 30) none
   have hL1 := hL.kept gx
   have bx1 := Bx.new wr 30 [.string path, .int .i64 KY, .int .i64 mo, .int .i64 uid, .int .i64 gid, .int .i64 ti, .int .i64 sz_, .slice da D dc, .string tg, .int .i64 dev, .slice aa al ac]
   have cn1 := hL1.numC HLY.out.2.1 lso
   rw [HM.out] at cn1
   have HL1 : Hid (Lm w (wr.alloc (.cells #[.string path, .int .i64 KY, .int .i64 mo, .int .i64 uid, .int .i64 gid, .int .i64 ti, .int .i64 sz_, .slice da D dc, .string tg, .int .i64 dev, .slice aa al ac] 30)) B B gm gn go_ len (ens l) (.slice va n vc) ns (stY (ens l) o j).nm o ∧ nos ns = (stY (ens l) o j).ns ∧ ns.length = n ∧ Bx (wr.alloc (.cells #[.string path, .int .i64 KY, .int .i64 mo, .int .i64 uid, .int .i64 gid, .int .i64 ti, .int .i64 sz_, .slice da D dc, .string tg, .int .i64 dev, .slice aa al ac] 30)) wr.heap.size 30 [.string path, .int .i64 KY, .int .i64 mo, .int .i64 uid, .int .i64 gid, .int .i64 ti, .int .i64 sz_, .slice da D dc, .string tg, .int .i64 dev, .slice aa al ac]) := ⟨hL1, hns, hnl, bx1⟩
   clear hL1 bx1 hL hns hnl gx
   by_cases h6 : KY = 6
   ·subst h6
    have hlk := HL1.out.1.lookF tg hts (hF6 rfl)
    have hfd := field_pl0 ow (folder (ens l) tg.toList) (thing (ens l) tg.toList)
    have hpn := HPX.out.2 rfl
    clear hF6 hts
    generalize folder (ens l) tg.toList = F1 at *
    generalize thing (ens l) tg.toList = F2 at *
    by_cases hm0 : m < 0
    ·go_wp2_with ((with_reducible refine int_here ?_); refine wpList_storeN rfl _ _ rfl HL1.out.1 HLY.out.2.1 ow HLY.out.2.2.2.2 n rfl rfl size3 ?_; intro W2 HL2 HG2; rename_i hnext; have HNX : Hid _ := hnext; clear hnext)
     have bx2 := HL1.out.2.2.2.but HG2.out (bx_ne HL1.out.2.2.2 HL1.out.1.nums (by decide))
     have hnn := xai HL1.out.2.1 HL1.out.2.2.1
     have HB2 : Hid _ := xai bx2 hnn
     clear bx2 hnn HG2 HL1 y0 y1 y2 y3 y4 y5 y6 y7 y8 y9 y10 co cn cn1 hgn
     clear hlk hfd
     obtain ⟨b', off', e, hat2⟩ := (HI.out.1.grown HL2.out.tq.gr).at_ (by omega)
     injection e with e
     injection e with e1 e2
     subst e1
     subst e2
     obtain ⟨z0, z1, z2, z3, z4, z5, z6, z7, z8, z9, z10, zok⟩ := hat2 ow Z HZZ.out.1
     have zsn := HZZ.out.2.1.2.2 (by have := HZZ.out.2.2; have e : Z.en.k = Z.k := rfl; omega)
     have hnd := pnode_any Z W2 zok zsn.1 (by have := HZZ.out.2.2; have e : Z.en.k = Z.k := rfl; omega) zsn.2.1 zsn.2.2.1 zsn.2.2.2.1 zsn.2.2.2.2
     simp only [EnV.val] at hnd
     clear zok zsn hat2
     refine HNX.out _ _ ?_
     clear HNX
     go_wp2_with fail
     refine hnd.mono ?_
     clear hnd z0 z1 z2 z3 z4 z5 z6 z7 z8 z9 z10
     rintro e W3 ⟨N, rfl, hPk, hNno, ⟨hka, hkl, hkc⟩, g3⟩
     have hPk4 := (hPk.low (by rw [← HB.out]; exact HL2.out.tq.gr.size : B ≤ W2.heap.size)).kept (xga W3 (.cells (nvc N).toArray 43) none)
     have hL4 := (HL2.out.kept g3).kept (xga W3 (.cells (nvc N).toArray 43) none)
     have bx4 := (HB2.out.1.kept g3).kept (xga W3 (.cells (nvc N).toArray 43) none)
     have b4 := Bx.new W3 43 (nvc N)
     have hro4 := hL4.tq.own
     rw [HB2.out.2.2] at hro4
     obtain ⟨v', W5, hrun, hown', hgrow, hz8, hz9⟩ := run_append_own_at (P := Tryz.prog) (W3.alloc (.cells (nvc N).toArray 43)) B 31 31 43 ik _ 13 _ Tryz.underlying31 HIN.out.1 HIN.out.2.1 HIN.out.2.2.1 HIN.out.2.2.2 rfl (by decide) _ _ _ hro4 ⟨W3.heap.size, 0, none⟩ 1 1 (nvc N) rfl (bx_news b4) (nvc_one N) (by have := HLY.out.2.2.2.1; unfold maxLen; omega) (by have := HLY.out.2.2.2.1; omega) (by rw [← HB.out]; exact hL4.tq.gr.size)
     obtain ⟨va5, vc5, rfl⟩ : ∃ ka kc, v' = .slice ka (n + 1) kc := own_shape hown'
     obtain ⟨hL5, hkp5⟩ := hL4.add hPk4 hka (by rw [HB2.out.2.2]; exact hown') hgrow
     have x0 : W5.cell? ⟨wr.heap.size, 0, none⟩ = some (.string path) := (bx4.kp hkp5 (by decide) (by decide)).c 0
     have hY : Y1 = ⟨(stY (ens l) o j).ns ++ [nd0 Z.en], (stY (ens l) o j).nm.set ow n⟩ := by
      rw [← HLY.out.1]
      unfold lyNew
      rw [HM.out, if_pos hm0, HST.out.2.2.2.1, HLY.out.2.2.1]
      rfl
     have HL5 : Hid (Lm w W5 B B gm gn go_ len (ens l) (.slice va5 (n + 1) vc5) (ns ++ [N]) Y1.nm o ∧ nos (ns ++ [N]) = Y1.ns ∧ (ns ++ [N]).length = n + 1) := by
      show _ ∧ _ ∧ _
      rw [hY]
      refine ⟨hL5, ?_, by rw [List.length_append, HB2.out.2.2]; rfl⟩
      rw [nos_app, HB2.out.2.1]
      show _ ++ [N.no] = _ ++ [nd0 Z.en]
      rw [hNno]
      rfl
     have HN5 : Hid (n + 1 ≤ 100000) := by show _ ≤ _; have := HLY.out.2.2.2.1; omega
     have HLN : Hid (Y1.nm.length = len) := by show _ = _; rw [hY]; show ((stY (ens l) o j).nm.set ow (n : Int)).length = len; rw [List.length_set]; exact HLY.out.2.1
     have HR : Hid _ := hrun
     clear hL4 bx4 b4 hro4 hz8 hz9 hrun hown' hgrow hL5 hkp5 hPk hPk4 hka hkl hkc g3 HB2 HL2 hNno hY
     simp only [NoV.val]
     generalize hns5 : ns ++ [N] = ns5 at *
     clear hns5
     have hB0 : (path.toList == []) = false := by simp [hpn]
     go_wp2_with ((with_reducible refine app_here ?_); refine wpList_appR rfl _ _ 31 31 rfl _ _ _ rfl rfl HR.out ?_; clear HR)
     generalize hn5 : n + 1 = n5 at *
     clear hn5
     refine (pcut_any path _ (by have := HPX.out.1; omega)).mono ?_
     rintro e W6 ⟨rfl, nn, rfl⟩
     go_wp2_with fail
     obtain ⟨hL5, hns5, hnl5⟩ := HL5.out
     clear HL5
     have gD : W5.grownBy (W5.drewN nn).drew none := ⟨rfl, rfl, rfl, Nat.le_refl _, fun _ _ _ => rfl⟩
     replace hL5 := hL5.kept gD
     obtain ⟨q, hq1, hq2, hq3⟩ := HLS.out.1 hpn
     obtain ⟨f, u, hf1, hf2, hf3, hf4⟩ := HLS.out.2.1 hpn
     rw [HI.out.2.2.1] at hf2
     obtain ⟨Nq, hNq, hNk⟩ := nos_get hns5 hq3
     obtain ⟨U, hU⟩ : ∃ U, ns5[u]? = some U := ⟨_, List.getElem?_eq_getElem (by rw [← nos_len, hns5]; exact hf4)⟩
     obtain ⟨g, c5, hv, -⟩ := hL5.tq.form (by intro e; rw [e] at hU; cases hU)
     injection hv with hv1 hv2 hv3
     subst hv1
     subst hv3
     have hn5 : n5 ≤ 100000 := HN5.out
     have hh := phang_any w (W5.drewN nn).drew B g n5 vc5 u q (tx (lastT path.toList)) ns5 U Nq hL5.tq hnl5 hU hNq (Nat.le_trans (ls_km hns5 HLS.out.2.2.1 (fun i X h => (hL5.tq.each i X h).klen) hU) (by omega)) (fun X hX => ⟨(ls_lm hns5 HLS.out.2.2.2 X hX).1, by have := (ls_lm hns5 HLS.out.2.2.2 X hX).2; omega⟩) (by have h1 := lastT_len path.toList; have h2 := HPX.out.1; rw [tx_size]; rw [tl_len] at h1; omega) hn5 (by rw [← HB.out]; exact hL5.tq.gr.size)
     have hlen1 : Y1.nm.length = len := HLN.out
     obtain ⟨FB, hFB⟩ : ∃ FB, folder (ens l) (upT path.toList) = FB := ⟨_, rfl⟩
     obtain ⟨TB, hTB⟩ : ∃ TB, thing (ens l) (upT path.toList) = TB := ⟨_, rfl⟩
     have hlkf : ∀ W nz, Lm w W B B gm gn go_ len (ens l) (.slice (some ⟨g, 0, none⟩) n5 vc5) nz Y1.nm o → (Instr.lookup 111 (.map (some gm)) (.string (tx (upT path.toList))) false).run Tryz.prog W = .ok (.agg #[.int .i64 f, .bool FB, .bool TB]) W := fun W nz h => by
      have e := h.lookF (tx (upT path.toList)) (by have h1 := upT_len path.toList; have h2 := HPX.out.1; rw [tx_size]; rw [tl_len] at h1; omega) (F := f) (by rw [tx_tl]; exact hf1)
      rw [tx_tl, hFB, hTB] at e
      exact e
     have hcf : ∀ W nz, Lm w W B B gm gn go_ len (ens l) (.slice (some ⟨g, 0, none⟩) n5 vc5) nz Y1.nm o → W.cell? ⟨gn, f, none⟩ = some (.int .i64 u) := fun W nz h => by rw [h.numC hlen1 hf2, hf3]
     have hcq : ∀ W nz, Lm w W B B gm gn go_ len (ens l) (.slice (some ⟨g, 0, none⟩) n5 vc5) nz Y1.nm o → W.cell? ⟨gn, ow, none⟩ = some (.int .i64 q) := fun W nz h => by rw [h.numC hlen1 HLY.out.2.2.2.2, hq1]
     have hst := stY_name HST.out.1 HST.out.2.1 hpn HST.out.2.2.1 HST.out.2.2.2.1 HST.out.2.2.2.2 hf1 hf3 hq1
     have hffi : (f : Int) < (len : Int) := by omega
     have hfd := field_pl0 (f : Int) FB TB
     have HSY : Hid _ := xai hst (xai hNk (xai hns5 hnl5))
     clear hst hNk hFB hTB hq1 hq2 hq3 hf1 hf3 hf4 hlen1 gD hv2 hU hNq
     refine wp_region_held_drew (S := fun w' => ∃ nz, Lm w w' B B gm gn go_ len (ens l) (.slice (some ⟨g, 0, none⟩) n5 vc5) nz Y1.nm o) (by kernel_rfl) ⟨_, hL5⟩ (fun hH => ?_)
     generalize (W5.drewN nn).drew = WD at *
     refine tk (i := 0) (oi := ⟨some 65, _, _, _, _, _⟩) (v := .slice (some ⟨g, 0, none⟩) n5 vc5) rfl (Or.inl ⟨by rfl, fun w hSw => by go_simp⟩) hH ?_
     simp only [Act.put, pu]
     refine tk (i := 1) (oi := ⟨some 66, _, _, _, _, _⟩) (v := .slice (some ⟨gn, 0, none⟩) len len) rfl (Or.inl ⟨by rfl, fun w hSw => by go_simp⟩) hH ?_
     simp only [Act.put, pu]
     refine tk (i := 2) (oi := ⟨some 67, _, _, _, _, _⟩) (v := .map (some gm)) rfl (Or.inl ⟨by rfl, fun w hSw => by go_simp⟩) hH ?_
     simp only [Act.put, pu]
     refine tk (i := 3) (oi := ⟨some 68, _, _, _, _, _⟩) (v := .string (tx (upT path.toList))) rfl (Or.inl ⟨by rfl, fun w hSw => by go_simp⟩) hH ?_
     simp only [Act.put, pu]
     refine tk (i := 4) (oi := ⟨some 69, _, _, _, _, _⟩) (v := .agg #[.int .i64 f, .bool FB, .bool TB]) rfl (Or.inl ⟨by rfl, fun w hSw => by obtain ⟨nz, hz⟩ := hSw; have e1 := hlkf _ nz hz; go_simp⟩) hH ?_
     simp only [Act.put, pu]
     refine tk (i := 5) (oi := ⟨some 70, _, _, _, _, _⟩) (v := .int .i64 f) rfl (Or.inl ⟨by rfl, fun w hSw => by go_simp⟩) hH ?_
     simp only [Act.put, pu]
     refine tk (i := 6) (oi := ⟨some 71, _, _, _, _, _⟩) (v := .pointer (some ⟨gn, f, none⟩)) rfl (Or.inl ⟨by rfl, fun w hSw => by go_simp⟩) hH ?_
     simp only [Act.put, pu]
     refine tk (i := 7) (oi := ⟨some 72, _, _, _, _, _⟩) (v := .int .i64 u) rfl (Or.inl ⟨by rfl, fun w hSw => by obtain ⟨nz, hz⟩ := hSw; have e1 := hcf _ nz hz; go_simp⟩) hH ?_
     simp only [Act.put, pu]
     refine tk (i := 8) (oi := ⟨some 73, _, _, _, _, _⟩) (v := .string (tx (lastT path.toList))) rfl (Or.inl ⟨by rfl, fun w hSw => by go_simp⟩) hH ?_
     simp only [Act.put, pu]
     refine tk (i := 9) (oi := ⟨some 74, _, _, _, _, _⟩) (v := .slice (some ⟨gn, 0, none⟩) len len) rfl (Or.inl ⟨by rfl, fun w hSw => by go_simp⟩) hH ?_
     simp only [Act.put, pu]
     refine tk (i := 10) (oi := ⟨some 75, _, _, _, _, _⟩) (v := .int .i64 ow) rfl (Or.inl ⟨by rfl, fun w hSw => by go_simp⟩) hH ?_
     simp only [Act.put, pu]
     refine tk (i := 11) (oi := ⟨some 76, _, _, _, _, _⟩) (v := .pointer (some ⟨gn, ow, none⟩)) rfl (Or.inl ⟨by rfl, fun w hSw => by go_simp⟩) hH ?_
     simp only [Act.put, pu]
     refine tk (i := 12) (oi := ⟨some 77, _, _, _, _, _⟩) (v := .int .i64 q) rfl (Or.inl ⟨by rfl, fun w hSw => by obtain ⟨nz, hz⟩ := hSw; have e1 := hcq _ nz hz; go_simp⟩) hH ?_
     simp only [Act.put, pu]
     refine wpAnyH_ready (rs := [13]) (by kernel_rfl) (by simp) ?_
     refine AllReadyH.cons rfl (fun K1 hK => ?_) AllReadyH.nil
     go_simp
     refine hh.mono ?_
     clear hh
     rintro e W7 ⟨rfl, l', hT', hl', hno', hkp⟩
     have hL7 := hL5.move hkp hT'
     have hH7 : ∃ nz, Lm w W7 B B gm gn go_ len (ens l) (.slice (some ⟨g, 0, none⟩) n5 vc5) nz Y1.nm o := ⟨_, hL7⟩
     refine hK.out _ _ hH7 (fun h0 => ?_)
     clear h0 hK K1
     refine wpAnyH_done (by kernel_rfl) ?_ _
     have HFI : Hid (Lm w W7 B B gm gn go_ len (ens l) (.slice (some ⟨g, 0, none⟩) n5 vc5) l' (stY (ens l) o (j + 1)).nm o ∧ nos l' = (stY (ens l) o (j + 1)).ns ∧ l'.length = n5) := by
      show _ ∧ _ ∧ _
      rw [HSY.out.1]
      refine ⟨hL7, ?_, hl'⟩
      rw [hno', tx_tl, HSY.out.2.1, HSY.out.2.2.1]
      rfl
     clear hH hH7 hL7 hL5 hT' hno' hkp hlkf hcf hcq hfd
     go_wp2_with fail
     exact ⟨⟨j + 1, by omega, by go_num, _, _, _, rfl, ⟨l', HFI.out⟩⟩, by simp [intOf]; omega⟩
    ·have hY : (stY (ens l) o j) = Y1 := by
      rw [← HLY.out.1]
      unfold lyNew
      rw [HM.out, if_neg hm0]
     have HLN : Hid (Y1.nm.length = len) := by show _ = _; rw [← hY]; exact HLY.out.2.1
     have HN5 : Hid (n ≤ 100000) := by show _ ≤ _; have := HLY.out.2.2.2.1; omega
     have HL5 : Hid (Lm w (wr.alloc (.cells #[.string path, .int .i64 6, .int .i64 mo, .int .i64 uid, .int .i64 gid, .int .i64 ti, .int .i64 sz_, .slice da D dc, .string tg, .int .i64 dev, .slice aa al ac] 30)) B B gm gn go_ len (ens l) (.slice va n vc) ns Y1.nm o ∧ nos ns = Y1.ns ∧ ns.length = n) := by
      show _ ∧ _ ∧ _
      rw [← hY]
      exact ⟨HL1.out.1, HL1.out.2.1, HL1.out.2.2.1⟩
     clear hY HL1
     have hB0 : (path.toList == []) = false := by simp [hpn]
     go_wp2_with fail
     clear hlk hfd
     clear y0 y1 y2 y3 y4 y5 y6 y7 y8 y9 y10 co cn cn1 hgn
     generalize (wr.alloc (.cells #[.string path, .int .i64 6, .int .i64 mo, .int .i64 uid, .int .i64 gid, .int .i64 ti, .int .i64 sz_, .slice da D dc, .string tg, .int .i64 dev, .slice aa al ac] 30)) = W5 at *
     generalize hn5 : n = n5 at *
     generalize va = va5 at *
     generalize vc = vc5 at *
     generalize ns = ns5 at *
     refine (pcut_any path _ (by have := HPX.out.1; omega)).mono ?_
     rintro e W6 ⟨rfl, nn, rfl⟩
     go_wp2_with fail
     obtain ⟨hL5, hns5, hnl5⟩ := HL5.out
     clear HL5
     have gD : W5.grownBy (W5.drewN nn).drew none := ⟨rfl, rfl, rfl, Nat.le_refl _, fun _ _ _ => rfl⟩
     replace hL5 := hL5.kept gD
     obtain ⟨q, hq1, hq2, hq3⟩ := HLS.out.1 hpn
     obtain ⟨f, u, hf1, hf2, hf3, hf4⟩ := HLS.out.2.1 hpn
     rw [HI.out.2.2.1] at hf2
     obtain ⟨Nq, hNq, hNk⟩ := nos_get hns5 hq3
     obtain ⟨U, hU⟩ : ∃ U, ns5[u]? = some U := ⟨_, List.getElem?_eq_getElem (by rw [← nos_len, hns5]; exact hf4)⟩
     obtain ⟨g, c5, hv, -⟩ := hL5.tq.form (by intro e; rw [e] at hU; cases hU)
     injection hv with hv1 hv2 hv3
     subst hv1
     subst hv3
     have hn5 : n5 ≤ 100000 := HN5.out
     have hh := phang_any w (W5.drewN nn).drew B g n5 vc5 u q (tx (lastT path.toList)) ns5 U Nq hL5.tq hnl5 hU hNq (Nat.le_trans (ls_km hns5 HLS.out.2.2.1 (fun i X h => (hL5.tq.each i X h).klen) hU) (by omega)) (fun X hX => ⟨(ls_lm hns5 HLS.out.2.2.2 X hX).1, by have := (ls_lm hns5 HLS.out.2.2.2 X hX).2; omega⟩) (by have h1 := lastT_len path.toList; have h2 := HPX.out.1; rw [tx_size]; rw [tl_len] at h1; omega) hn5 (by rw [← HB.out]; exact hL5.tq.gr.size)
     have hlen1 : Y1.nm.length = len := HLN.out
     obtain ⟨FB, hFB⟩ : ∃ FB, folder (ens l) (upT path.toList) = FB := ⟨_, rfl⟩
     obtain ⟨TB, hTB⟩ : ∃ TB, thing (ens l) (upT path.toList) = TB := ⟨_, rfl⟩
     have hlkf : ∀ W nz, Lm w W B B gm gn go_ len (ens l) (.slice (some ⟨g, 0, none⟩) n5 vc5) nz Y1.nm o → (Instr.lookup 111 (.map (some gm)) (.string (tx (upT path.toList))) false).run Tryz.prog W = .ok (.agg #[.int .i64 f, .bool FB, .bool TB]) W := fun W nz h => by
      have e := h.lookF (tx (upT path.toList)) (by have h1 := upT_len path.toList; have h2 := HPX.out.1; rw [tx_size]; rw [tl_len] at h1; omega) (F := f) (by rw [tx_tl]; exact hf1)
      rw [tx_tl, hFB, hTB] at e
      exact e
     have hcf : ∀ W nz, Lm w W B B gm gn go_ len (ens l) (.slice (some ⟨g, 0, none⟩) n5 vc5) nz Y1.nm o → W.cell? ⟨gn, f, none⟩ = some (.int .i64 u) := fun W nz h => by rw [h.numC hlen1 hf2, hf3]
     have hcq : ∀ W nz, Lm w W B B gm gn go_ len (ens l) (.slice (some ⟨g, 0, none⟩) n5 vc5) nz Y1.nm o → W.cell? ⟨gn, ow, none⟩ = some (.int .i64 q) := fun W nz h => by rw [h.numC hlen1 HLY.out.2.2.2.2, hq1]
     have hst := stY_name HST.out.1 HST.out.2.1 hpn HST.out.2.2.1 HST.out.2.2.2.1 HST.out.2.2.2.2 hf1 hf3 hq1
     have hffi : (f : Int) < (len : Int) := by omega
     have hfd := field_pl0 (f : Int) FB TB
     have HSY : Hid _ := xai hst (xai hNk (xai hns5 hnl5))
     clear hst hNk hFB hTB hq1 hq2 hq3 hf1 hf3 hf4 hlen1 gD hv2 hU hNq
     refine wp_region_held_drew (S := fun w' => ∃ nz, Lm w w' B B gm gn go_ len (ens l) (.slice (some ⟨g, 0, none⟩) n5 vc5) nz Y1.nm o) (by kernel_rfl) ⟨_, hL5⟩ (fun hH => ?_)
     generalize (W5.drewN nn).drew = WD at *
     refine tk (i := 0) (oi := ⟨some 65, _, _, _, _, _⟩) (v := .slice (some ⟨g, 0, none⟩) n5 vc5) rfl (Or.inl ⟨by rfl, fun w hSw => by go_simp⟩) hH ?_
     simp only [Act.put, pu]
     refine tk (i := 1) (oi := ⟨some 66, _, _, _, _, _⟩) (v := .slice (some ⟨gn, 0, none⟩) len len) rfl (Or.inl ⟨by rfl, fun w hSw => by go_simp⟩) hH ?_
     simp only [Act.put, pu]
     refine tk (i := 2) (oi := ⟨some 67, _, _, _, _, _⟩) (v := .map (some gm)) rfl (Or.inl ⟨by rfl, fun w hSw => by go_simp⟩) hH ?_
     simp only [Act.put, pu]
     refine tk (i := 3) (oi := ⟨some 68, _, _, _, _, _⟩) (v := .string (tx (upT path.toList))) rfl (Or.inl ⟨by rfl, fun w hSw => by go_simp⟩) hH ?_
     simp only [Act.put, pu]
     refine tk (i := 4) (oi := ⟨some 69, _, _, _, _, _⟩) (v := .agg #[.int .i64 f, .bool FB, .bool TB]) rfl (Or.inl ⟨by rfl, fun w hSw => by obtain ⟨nz, hz⟩ := hSw; have e1 := hlkf _ nz hz; go_simp⟩) hH ?_
     simp only [Act.put, pu]
     refine tk (i := 5) (oi := ⟨some 70, _, _, _, _, _⟩) (v := .int .i64 f) rfl (Or.inl ⟨by rfl, fun w hSw => by go_simp⟩) hH ?_
     simp only [Act.put, pu]
     refine tk (i := 6) (oi := ⟨some 71, _, _, _, _, _⟩) (v := .pointer (some ⟨gn, f, none⟩)) rfl (Or.inl ⟨by rfl, fun w hSw => by go_simp⟩) hH ?_
     simp only [Act.put, pu]
     refine tk (i := 7) (oi := ⟨some 72, _, _, _, _, _⟩) (v := .int .i64 u) rfl (Or.inl ⟨by rfl, fun w hSw => by obtain ⟨nz, hz⟩ := hSw; have e1 := hcf _ nz hz; go_simp⟩) hH ?_
     simp only [Act.put, pu]
     refine tk (i := 8) (oi := ⟨some 73, _, _, _, _, _⟩) (v := .string (tx (lastT path.toList))) rfl (Or.inl ⟨by rfl, fun w hSw => by go_simp⟩) hH ?_
     simp only [Act.put, pu]
     refine tk (i := 9) (oi := ⟨some 74, _, _, _, _, _⟩) (v := .slice (some ⟨gn, 0, none⟩) len len) rfl (Or.inl ⟨by rfl, fun w hSw => by go_simp⟩) hH ?_
     simp only [Act.put, pu]
     refine tk (i := 10) (oi := ⟨some 75, _, _, _, _, _⟩) (v := .int .i64 ow) rfl (Or.inl ⟨by rfl, fun w hSw => by go_simp⟩) hH ?_
     simp only [Act.put, pu]
     refine tk (i := 11) (oi := ⟨some 76, _, _, _, _, _⟩) (v := .pointer (some ⟨gn, ow, none⟩)) rfl (Or.inl ⟨by rfl, fun w hSw => by go_simp⟩) hH ?_
     simp only [Act.put, pu]
     refine tk (i := 12) (oi := ⟨some 77, _, _, _, _, _⟩) (v := .int .i64 q) rfl (Or.inl ⟨by rfl, fun w hSw => by obtain ⟨nz, hz⟩ := hSw; have e1 := hcq _ nz hz; go_simp⟩) hH ?_
     simp only [Act.put, pu]
     refine wpAnyH_ready (rs := [13]) (by kernel_rfl) (by simp) ?_
     refine AllReadyH.cons rfl (fun K1 hK => ?_) AllReadyH.nil
     go_simp
     refine hh.mono ?_
     clear hh
     rintro e W7 ⟨rfl, l', hT', hl', hno', hkp⟩
     have hL7 := hL5.move hkp hT'
     have hH7 : ∃ nz, Lm w W7 B B gm gn go_ len (ens l) (.slice (some ⟨g, 0, none⟩) n5 vc5) nz Y1.nm o := ⟨_, hL7⟩
     refine hK.out _ _ hH7 (fun h0 => ?_)
     clear h0 hK K1
     refine wpAnyH_done (by kernel_rfl) ?_ _
     have HFI : Hid (Lm w W7 B B gm gn go_ len (ens l) (.slice (some ⟨g, 0, none⟩) n5 vc5) l' (stY (ens l) o (j + 1)).nm o ∧ nos l' = (stY (ens l) o (j + 1)).ns ∧ l'.length = n5) := by
      show _ ∧ _ ∧ _
      rw [HSY.out.1]
      refine ⟨hL7, ?_, hl'⟩
      rw [hno', tx_tl, HSY.out.2.1, HSY.out.2.2.1]
      rfl
     clear hH hH7 hL7 hL5 hT' hno' hkp hlkf hcf hcq hfd
     go_wp2_with fail
     exact ⟨⟨j + 1, by omega, by go_num, _, _, _, rfl, ⟨l', HFI.out⟩⟩, by simp [intOf]; omega⟩
   ·have hb6 : (KY == 6) = false := by rw [beq_eq_false_iff_ne]; exact h6
    have heo : ow = i := by
     rw [← HST.out.2.2.1]
     unfold ownI
     rw [if_neg h6]
    clear hF6 hts
    subst heo
    by_cases hm0 : m < 0
    ·go_wp2_with ((with_reducible refine int_here ?_); refine wpList_storeN rfl _ _ rfl HL1.out.1 HLY.out.2.1 ow HLY.out.2.2.2.2 n rfl rfl size3 ?_; intro W2 HL2 HG2; rename_i hnext; have HNX : Hid _ := hnext; clear hnext)
     have bx2 := HL1.out.2.2.2.but HG2.out (bx_ne HL1.out.2.2.2 HL1.out.1.nums (by decide))
     have hnn := xai HL1.out.2.1 HL1.out.2.2.1
     have HB2 : Hid _ := xai bx2 hnn
     clear bx2 hnn HG2 HL1 y0 y1 y2 y3 y4 y5 y6 y7 y8 y9 y10 co cn cn1 hgn
     skip
     obtain ⟨b', off', e, hat2⟩ := (HI.out.1.grown HL2.out.tq.gr).at_ (by omega)
     injection e with e
     injection e with e1 e2
     subst e1
     subst e2
     obtain ⟨z0, z1, z2, z3, z4, z5, z6, z7, z8, z9, z10, zok⟩ := hat2 ow Z HZZ.out.1
     have zsn := HZZ.out.2.1.2.2 (by have := HZZ.out.2.2; have e : Z.en.k = Z.k := rfl; omega)
     have hnd := pnode_any Z W2 zok zsn.1 (by have := HZZ.out.2.2; have e : Z.en.k = Z.k := rfl; omega) zsn.2.1 zsn.2.2.1 zsn.2.2.2.1 zsn.2.2.2.2
     simp only [EnV.val] at hnd
     clear zok zsn hat2
     refine HNX.out _ _ ?_
     clear HNX
     go_wp2_with fail
     refine hnd.mono ?_
     clear hnd z0 z1 z2 z3 z4 z5 z6 z7 z8 z9 z10
     rintro e W3 ⟨N, rfl, hPk, hNno, ⟨hka, hkl, hkc⟩, g3⟩
     have hPk4 := (hPk.low (by rw [← HB.out]; exact HL2.out.tq.gr.size : B ≤ W2.heap.size)).kept (xga W3 (.cells (nvc N).toArray 43) none)
     have hL4 := (HL2.out.kept g3).kept (xga W3 (.cells (nvc N).toArray 43) none)
     have bx4 := (HB2.out.1.kept g3).kept (xga W3 (.cells (nvc N).toArray 43) none)
     have b4 := Bx.new W3 43 (nvc N)
     have hro4 := hL4.tq.own
     rw [HB2.out.2.2] at hro4
     obtain ⟨v', W5, hrun, hown', hgrow, hz8, hz9⟩ := run_append_own_at (P := Tryz.prog) (W3.alloc (.cells (nvc N).toArray 43)) B 31 31 43 ik _ 13 _ Tryz.underlying31 HIN.out.1 HIN.out.2.1 HIN.out.2.2.1 HIN.out.2.2.2 rfl (by decide) _ _ _ hro4 ⟨W3.heap.size, 0, none⟩ 1 1 (nvc N) rfl (bx_news b4) (nvc_one N) (by have := HLY.out.2.2.2.1; unfold maxLen; omega) (by have := HLY.out.2.2.2.1; omega) (by rw [← HB.out]; exact hL4.tq.gr.size)
     obtain ⟨va5, vc5, rfl⟩ : ∃ ka kc, v' = .slice ka (n + 1) kc := own_shape hown'
     obtain ⟨hL5, hkp5⟩ := hL4.add hPk4 hka (by rw [HB2.out.2.2]; exact hown') hgrow
     have x0 : W5.cell? ⟨wr.heap.size, 0, none⟩ = some (.string path) := (bx4.kp hkp5 (by decide) (by decide)).c 0
     have hY : Y1 = ⟨(stY (ens l) o j).ns ++ [nd0 Z.en], (stY (ens l) o j).nm.set ow n⟩ := by
      rw [← HLY.out.1]
      unfold lyNew
      rw [HM.out, if_pos hm0, HST.out.2.2.2.1, HLY.out.2.2.1]
      rfl
     have HL5 : Hid (Lm w W5 B B gm gn go_ len (ens l) (.slice va5 (n + 1) vc5) (ns ++ [N]) Y1.nm o ∧ nos (ns ++ [N]) = Y1.ns ∧ (ns ++ [N]).length = n + 1) := by
      show _ ∧ _ ∧ _
      rw [hY]
      refine ⟨hL5, ?_, by rw [List.length_append, HB2.out.2.2]; rfl⟩
      rw [nos_app, HB2.out.2.1]
      show _ ++ [N.no] = _ ++ [nd0 Z.en]
      rw [hNno]
      rfl
     have HN5 : Hid (n + 1 ≤ 100000) := by show _ ≤ _; have := HLY.out.2.2.2.1; omega
     have HLN : Hid (Y1.nm.length = len) := by show _ = _; rw [hY]; show ((stY (ens l) o j).nm.set ow (n : Int)).length = len; rw [List.length_set]; exact HLY.out.2.1
     have HR : Hid _ := hrun
     clear hL4 bx4 b4 hro4 hz8 hz9 hrun hown' hgrow hL5 hkp5 hPk hPk4 hka hkl hkc g3 HB2 HL2 hNno hY
     simp only [NoV.val]
     generalize hns5 : ns ++ [N] = ns5 at *
     clear hns5
     by_cases hp : path.toList = []
     ·have hB0 : (path.toList == []) = true := by rw [hp]; rfl
      have HFI : Hid (Lm w W5 B B gm gn go_ len (ens l) (.slice va5 (n + 1) vc5) ns5 (stY (ens l) o (j + 1)).nm o ∧ nos ns5 = (stY (ens l) o (j + 1)).ns ∧ ns5.length = (n + 1)) := by
       show _ ∧ _ ∧ _
       rw [stY_root HST.out.1 HST.out.2.1 hp, HST.out.2.2.1, HST.out.2.2.2.2]
       exact HL5.out
      clear HL5
      go_wp2_with ((with_reducible refine app_here ?_); refine wpList_appR rfl _ _ 31 31 rfl _ _ _ rfl rfl HR.out ?_; clear HR)
      exact ⟨⟨j + 1, by omega, by go_num, _, _, _, rfl, ⟨_, HFI.out⟩⟩, by simp [intOf]; omega⟩
     ·have hpn : path.toList ≠ [] := hp
      have hB0 : (path.toList == []) = false := by simp [hp]
      go_wp2_with ((with_reducible refine app_here ?_); refine wpList_appR rfl _ _ 31 31 rfl _ _ _ rfl rfl HR.out ?_; clear HR)
      generalize hn5 : n + 1 = n5 at *
      clear hn5
      refine (pcut_any path _ (by have := HPX.out.1; omega)).mono ?_
      rintro e W6 ⟨rfl, nn, rfl⟩
      go_wp2_with fail
      obtain ⟨hL5, hns5, hnl5⟩ := HL5.out
      clear HL5
      have gD : W5.grownBy (W5.drewN nn).drew none := ⟨rfl, rfl, rfl, Nat.le_refl _, fun _ _ _ => rfl⟩
      replace hL5 := hL5.kept gD
      obtain ⟨q, hq1, hq2, hq3⟩ := HLS.out.1 hpn
      obtain ⟨f, u, hf1, hf2, hf3, hf4⟩ := HLS.out.2.1 hpn
      rw [HI.out.2.2.1] at hf2
      obtain ⟨Nq, hNq, hNk⟩ := nos_get hns5 hq3
      obtain ⟨U, hU⟩ : ∃ U, ns5[u]? = some U := ⟨_, List.getElem?_eq_getElem (by rw [← nos_len, hns5]; exact hf4)⟩
      obtain ⟨g, c5, hv, -⟩ := hL5.tq.form (by intro e; rw [e] at hU; cases hU)
      injection hv with hv1 hv2 hv3
      subst hv1
      subst hv3
      have hn5 : n5 ≤ 100000 := HN5.out
      have hh := phang_any w (W5.drewN nn).drew B g n5 vc5 u q (tx (lastT path.toList)) ns5 U Nq hL5.tq hnl5 hU hNq (Nat.le_trans (ls_km hns5 HLS.out.2.2.1 (fun i X h => (hL5.tq.each i X h).klen) hU) (by omega)) (fun X hX => ⟨(ls_lm hns5 HLS.out.2.2.2 X hX).1, by have := (ls_lm hns5 HLS.out.2.2.2 X hX).2; omega⟩) (by have h1 := lastT_len path.toList; have h2 := HPX.out.1; rw [tx_size]; rw [tl_len] at h1; omega) hn5 (by rw [← HB.out]; exact hL5.tq.gr.size)
      have hlen1 : Y1.nm.length = len := HLN.out
      obtain ⟨FB, hFB⟩ : ∃ FB, folder (ens l) (upT path.toList) = FB := ⟨_, rfl⟩
      obtain ⟨TB, hTB⟩ : ∃ TB, thing (ens l) (upT path.toList) = TB := ⟨_, rfl⟩
      have hlkf : ∀ W nz, Lm w W B B gm gn go_ len (ens l) (.slice (some ⟨g, 0, none⟩) n5 vc5) nz Y1.nm o → (Instr.lookup 111 (.map (some gm)) (.string (tx (upT path.toList))) false).run Tryz.prog W = .ok (.agg #[.int .i64 f, .bool FB, .bool TB]) W := fun W nz h => by
       have e := h.lookF (tx (upT path.toList)) (by have h1 := upT_len path.toList; have h2 := HPX.out.1; rw [tx_size]; rw [tl_len] at h1; omega) (F := f) (by rw [tx_tl]; exact hf1)
       rw [tx_tl, hFB, hTB] at e
       exact e
      have hcf : ∀ W nz, Lm w W B B gm gn go_ len (ens l) (.slice (some ⟨g, 0, none⟩) n5 vc5) nz Y1.nm o → W.cell? ⟨gn, f, none⟩ = some (.int .i64 u) := fun W nz h => by rw [h.numC hlen1 hf2, hf3]
      have hcq : ∀ W nz, Lm w W B B gm gn go_ len (ens l) (.slice (some ⟨g, 0, none⟩) n5 vc5) nz Y1.nm o → W.cell? ⟨gn, ow, none⟩ = some (.int .i64 q) := fun W nz h => by rw [h.numC hlen1 HLY.out.2.2.2.2, hq1]
      have hst := stY_name HST.out.1 HST.out.2.1 hpn HST.out.2.2.1 HST.out.2.2.2.1 HST.out.2.2.2.2 hf1 hf3 hq1
      have hffi : (f : Int) < (len : Int) := by omega
      have hfd := field_pl0 (f : Int) FB TB
      have HSY : Hid _ := xai hst (xai hNk (xai hns5 hnl5))
      clear hst hNk hFB hTB hq1 hq2 hq3 hf1 hf3 hf4 hlen1 gD hv2 hU hNq
      refine wp_region_held_drew (S := fun w' => ∃ nz, Lm w w' B B gm gn go_ len (ens l) (.slice (some ⟨g, 0, none⟩) n5 vc5) nz Y1.nm o) (by kernel_rfl) ⟨_, hL5⟩ (fun hH => ?_)
      generalize (W5.drewN nn).drew = WD at *
      refine tk (i := 0) (oi := ⟨some 65, _, _, _, _, _⟩) (v := .slice (some ⟨g, 0, none⟩) n5 vc5) rfl (Or.inl ⟨by rfl, fun w hSw => by go_simp⟩) hH ?_
      simp only [Act.put, pu]
      refine tk (i := 1) (oi := ⟨some 66, _, _, _, _, _⟩) (v := .slice (some ⟨gn, 0, none⟩) len len) rfl (Or.inl ⟨by rfl, fun w hSw => by go_simp⟩) hH ?_
      simp only [Act.put, pu]
      refine tk (i := 2) (oi := ⟨some 67, _, _, _, _, _⟩) (v := .map (some gm)) rfl (Or.inl ⟨by rfl, fun w hSw => by go_simp⟩) hH ?_
      simp only [Act.put, pu]
      refine tk (i := 3) (oi := ⟨some 68, _, _, _, _, _⟩) (v := .string (tx (upT path.toList))) rfl (Or.inl ⟨by rfl, fun w hSw => by go_simp⟩) hH ?_
      simp only [Act.put, pu]
      refine tk (i := 4) (oi := ⟨some 69, _, _, _, _, _⟩) (v := .agg #[.int .i64 f, .bool FB, .bool TB]) rfl (Or.inl ⟨by rfl, fun w hSw => by obtain ⟨nz, hz⟩ := hSw; have e1 := hlkf _ nz hz; go_simp⟩) hH ?_
      simp only [Act.put, pu]
      refine tk (i := 5) (oi := ⟨some 70, _, _, _, _, _⟩) (v := .int .i64 f) rfl (Or.inl ⟨by rfl, fun w hSw => by go_simp⟩) hH ?_
      simp only [Act.put, pu]
      refine tk (i := 6) (oi := ⟨some 71, _, _, _, _, _⟩) (v := .pointer (some ⟨gn, f, none⟩)) rfl (Or.inl ⟨by rfl, fun w hSw => by go_simp⟩) hH ?_
      simp only [Act.put, pu]
      refine tk (i := 7) (oi := ⟨some 72, _, _, _, _, _⟩) (v := .int .i64 u) rfl (Or.inl ⟨by rfl, fun w hSw => by obtain ⟨nz, hz⟩ := hSw; have e1 := hcf _ nz hz; go_simp⟩) hH ?_
      simp only [Act.put, pu]
      refine tk (i := 8) (oi := ⟨some 73, _, _, _, _, _⟩) (v := .string (tx (lastT path.toList))) rfl (Or.inl ⟨by rfl, fun w hSw => by go_simp⟩) hH ?_
      simp only [Act.put, pu]
      refine tk (i := 9) (oi := ⟨some 74, _, _, _, _, _⟩) (v := .slice (some ⟨gn, 0, none⟩) len len) rfl (Or.inl ⟨by rfl, fun w hSw => by go_simp⟩) hH ?_
      simp only [Act.put, pu]
      refine tk (i := 10) (oi := ⟨some 75, _, _, _, _, _⟩) (v := .int .i64 ow) rfl (Or.inl ⟨by rfl, fun w hSw => by go_simp⟩) hH ?_
      simp only [Act.put, pu]
      refine tk (i := 11) (oi := ⟨some 76, _, _, _, _, _⟩) (v := .pointer (some ⟨gn, ow, none⟩)) rfl (Or.inl ⟨by rfl, fun w hSw => by go_simp⟩) hH ?_
      simp only [Act.put, pu]
      refine tk (i := 12) (oi := ⟨some 77, _, _, _, _, _⟩) (v := .int .i64 q) rfl (Or.inl ⟨by rfl, fun w hSw => by obtain ⟨nz, hz⟩ := hSw; have e1 := hcq _ nz hz; go_simp⟩) hH ?_
      simp only [Act.put, pu]
      refine wpAnyH_ready (rs := [13]) (by kernel_rfl) (by simp) ?_
      refine AllReadyH.cons rfl (fun K1 hK => ?_) AllReadyH.nil
      go_simp
      refine hh.mono ?_
      clear hh
      rintro e W7 ⟨rfl, l', hT', hl', hno', hkp⟩
      have hL7 := hL5.move hkp hT'
      have hH7 : ∃ nz, Lm w W7 B B gm gn go_ len (ens l) (.slice (some ⟨g, 0, none⟩) n5 vc5) nz Y1.nm o := ⟨_, hL7⟩
      refine hK.out _ _ hH7 (fun h0 => ?_)
      clear h0 hK K1
      refine wpAnyH_done (by kernel_rfl) ?_ _
      have HFI : Hid (Lm w W7 B B gm gn go_ len (ens l) (.slice (some ⟨g, 0, none⟩) n5 vc5) l' (stY (ens l) o (j + 1)).nm o ∧ nos l' = (stY (ens l) o (j + 1)).ns ∧ l'.length = n5) := by
       show _ ∧ _ ∧ _
       rw [HSY.out.1]
       refine ⟨hL7, ?_, hl'⟩
       rw [hno', tx_tl, HSY.out.2.1, HSY.out.2.2.1]
       rfl
      clear hH hH7 hL7 hL5 hT' hno' hkp hlkf hcf hcq hfd
      go_wp2_with fail
      exact ⟨⟨j + 1, by omega, by go_num, _, _, _, rfl, ⟨l', HFI.out⟩⟩, by simp [intOf]; omega⟩
    ·have hY : (stY (ens l) o j) = Y1 := by
      rw [← HLY.out.1]
      unfold lyNew
      rw [HM.out, if_neg hm0]
     have HLN : Hid (Y1.nm.length = len) := by show _ = _; rw [← hY]; exact HLY.out.2.1
     have HN5 : Hid (n ≤ 100000) := by show _ ≤ _; have := HLY.out.2.2.2.1; omega
     have HL5 : Hid (Lm w (wr.alloc (.cells #[.string path, .int .i64 KY, .int .i64 mo, .int .i64 uid, .int .i64 gid, .int .i64 ti, .int .i64 sz_, .slice da D dc, .string tg, .int .i64 dev, .slice aa al ac] 30)) B B gm gn go_ len (ens l) (.slice va n vc) ns Y1.nm o ∧ nos ns = Y1.ns ∧ ns.length = n) := by
      show _ ∧ _ ∧ _
      rw [← hY]
      exact ⟨HL1.out.1, HL1.out.2.1, HL1.out.2.2.1⟩
     clear hY HL1
     by_cases hp : path.toList = []
     ·have hB0 : (path.toList == []) = true := by rw [hp]; rfl
      have HFI : Hid (Lm w (wr.alloc (.cells #[.string path, .int .i64 KY, .int .i64 mo, .int .i64 uid, .int .i64 gid, .int .i64 ti, .int .i64 sz_, .slice da D dc, .string tg, .int .i64 dev, .slice aa al ac] 30)) B B gm gn go_ len (ens l) (.slice va n vc) ns (stY (ens l) o (j + 1)).nm o ∧ nos ns = (stY (ens l) o (j + 1)).ns ∧ ns.length = n) := by
       show _ ∧ _ ∧ _
       rw [stY_root HST.out.1 HST.out.2.1 hp, HST.out.2.2.1, HST.out.2.2.2.2]
       exact HL5.out
      clear HL5
      go_wp2_with fail
      exact ⟨⟨j + 1, by omega, by go_num, _, _, _, rfl, ⟨_, HFI.out⟩⟩, by simp [intOf]; omega⟩
     ·have hpn : path.toList ≠ [] := hp
      have hB0 : (path.toList == []) = false := by simp [hp]
      go_wp2_with fail
      clear y0 y1 y2 y3 y4 y5 y6 y7 y8 y9 y10 co cn cn1 hgn
      generalize (wr.alloc (.cells #[.string path, .int .i64 KY, .int .i64 mo, .int .i64 uid, .int .i64 gid, .int .i64 ti, .int .i64 sz_, .slice da D dc, .string tg, .int .i64 dev, .slice aa al ac] 30)) = W5 at *
      generalize hn5 : n = n5 at *
      generalize va = va5 at *
      generalize vc = vc5 at *
      generalize ns = ns5 at *
      refine (pcut_any path _ (by have := HPX.out.1; omega)).mono ?_
      rintro e W6 ⟨rfl, nn, rfl⟩
      go_wp2_with fail
      obtain ⟨hL5, hns5, hnl5⟩ := HL5.out
      clear HL5
      have gD : W5.grownBy (W5.drewN nn).drew none := ⟨rfl, rfl, rfl, Nat.le_refl _, fun _ _ _ => rfl⟩
      replace hL5 := hL5.kept gD
      obtain ⟨q, hq1, hq2, hq3⟩ := HLS.out.1 hpn
      obtain ⟨f, u, hf1, hf2, hf3, hf4⟩ := HLS.out.2.1 hpn
      rw [HI.out.2.2.1] at hf2
      obtain ⟨Nq, hNq, hNk⟩ := nos_get hns5 hq3
      obtain ⟨U, hU⟩ : ∃ U, ns5[u]? = some U := ⟨_, List.getElem?_eq_getElem (by rw [← nos_len, hns5]; exact hf4)⟩
      obtain ⟨g, c5, hv, -⟩ := hL5.tq.form (by intro e; rw [e] at hU; cases hU)
      injection hv with hv1 hv2 hv3
      subst hv1
      subst hv3
      have hn5 : n5 ≤ 100000 := HN5.out
      have hh := phang_any w (W5.drewN nn).drew B g n5 vc5 u q (tx (lastT path.toList)) ns5 U Nq hL5.tq hnl5 hU hNq (Nat.le_trans (ls_km hns5 HLS.out.2.2.1 (fun i X h => (hL5.tq.each i X h).klen) hU) (by omega)) (fun X hX => ⟨(ls_lm hns5 HLS.out.2.2.2 X hX).1, by have := (ls_lm hns5 HLS.out.2.2.2 X hX).2; omega⟩) (by have h1 := lastT_len path.toList; have h2 := HPX.out.1; rw [tx_size]; rw [tl_len] at h1; omega) hn5 (by rw [← HB.out]; exact hL5.tq.gr.size)
      have hlen1 : Y1.nm.length = len := HLN.out
      obtain ⟨FB, hFB⟩ : ∃ FB, folder (ens l) (upT path.toList) = FB := ⟨_, rfl⟩
      obtain ⟨TB, hTB⟩ : ∃ TB, thing (ens l) (upT path.toList) = TB := ⟨_, rfl⟩
      have hlkf : ∀ W nz, Lm w W B B gm gn go_ len (ens l) (.slice (some ⟨g, 0, none⟩) n5 vc5) nz Y1.nm o → (Instr.lookup 111 (.map (some gm)) (.string (tx (upT path.toList))) false).run Tryz.prog W = .ok (.agg #[.int .i64 f, .bool FB, .bool TB]) W := fun W nz h => by
       have e := h.lookF (tx (upT path.toList)) (by have h1 := upT_len path.toList; have h2 := HPX.out.1; rw [tx_size]; rw [tl_len] at h1; omega) (F := f) (by rw [tx_tl]; exact hf1)
       rw [tx_tl, hFB, hTB] at e
       exact e
      have hcf : ∀ W nz, Lm w W B B gm gn go_ len (ens l) (.slice (some ⟨g, 0, none⟩) n5 vc5) nz Y1.nm o → W.cell? ⟨gn, f, none⟩ = some (.int .i64 u) := fun W nz h => by rw [h.numC hlen1 hf2, hf3]
      have hcq : ∀ W nz, Lm w W B B gm gn go_ len (ens l) (.slice (some ⟨g, 0, none⟩) n5 vc5) nz Y1.nm o → W.cell? ⟨gn, ow, none⟩ = some (.int .i64 q) := fun W nz h => by rw [h.numC hlen1 HLY.out.2.2.2.2, hq1]
      have hst := stY_name HST.out.1 HST.out.2.1 hpn HST.out.2.2.1 HST.out.2.2.2.1 HST.out.2.2.2.2 hf1 hf3 hq1
      have hffi : (f : Int) < (len : Int) := by omega
      have hfd := field_pl0 (f : Int) FB TB
      have HSY : Hid _ := xai hst (xai hNk (xai hns5 hnl5))
      clear hst hNk hFB hTB hq1 hq2 hq3 hf1 hf3 hf4 hlen1 gD hv2 hU hNq
      refine wp_region_held_drew (S := fun w' => ∃ nz, Lm w w' B B gm gn go_ len (ens l) (.slice (some ⟨g, 0, none⟩) n5 vc5) nz Y1.nm o) (by kernel_rfl) ⟨_, hL5⟩ (fun hH => ?_)
      generalize (W5.drewN nn).drew = WD at *
      refine tk (i := 0) (oi := ⟨some 65, _, _, _, _, _⟩) (v := .slice (some ⟨g, 0, none⟩) n5 vc5) rfl (Or.inl ⟨by rfl, fun w hSw => by go_simp⟩) hH ?_
      simp only [Act.put, pu]
      refine tk (i := 1) (oi := ⟨some 66, _, _, _, _, _⟩) (v := .slice (some ⟨gn, 0, none⟩) len len) rfl (Or.inl ⟨by rfl, fun w hSw => by go_simp⟩) hH ?_
      simp only [Act.put, pu]
      refine tk (i := 2) (oi := ⟨some 67, _, _, _, _, _⟩) (v := .map (some gm)) rfl (Or.inl ⟨by rfl, fun w hSw => by go_simp⟩) hH ?_
      simp only [Act.put, pu]
      refine tk (i := 3) (oi := ⟨some 68, _, _, _, _, _⟩) (v := .string (tx (upT path.toList))) rfl (Or.inl ⟨by rfl, fun w hSw => by go_simp⟩) hH ?_
      simp only [Act.put, pu]
      refine tk (i := 4) (oi := ⟨some 69, _, _, _, _, _⟩) (v := .agg #[.int .i64 f, .bool FB, .bool TB]) rfl (Or.inl ⟨by rfl, fun w hSw => by obtain ⟨nz, hz⟩ := hSw; have e1 := hlkf _ nz hz; go_simp⟩) hH ?_
      simp only [Act.put, pu]
      refine tk (i := 5) (oi := ⟨some 70, _, _, _, _, _⟩) (v := .int .i64 f) rfl (Or.inl ⟨by rfl, fun w hSw => by go_simp⟩) hH ?_
      simp only [Act.put, pu]
      refine tk (i := 6) (oi := ⟨some 71, _, _, _, _, _⟩) (v := .pointer (some ⟨gn, f, none⟩)) rfl (Or.inl ⟨by rfl, fun w hSw => by go_simp⟩) hH ?_
      simp only [Act.put, pu]
      refine tk (i := 7) (oi := ⟨some 72, _, _, _, _, _⟩) (v := .int .i64 u) rfl (Or.inl ⟨by rfl, fun w hSw => by obtain ⟨nz, hz⟩ := hSw; have e1 := hcf _ nz hz; go_simp⟩) hH ?_
      simp only [Act.put, pu]
      refine tk (i := 8) (oi := ⟨some 73, _, _, _, _, _⟩) (v := .string (tx (lastT path.toList))) rfl (Or.inl ⟨by rfl, fun w hSw => by go_simp⟩) hH ?_
      simp only [Act.put, pu]
      refine tk (i := 9) (oi := ⟨some 74, _, _, _, _, _⟩) (v := .slice (some ⟨gn, 0, none⟩) len len) rfl (Or.inl ⟨by rfl, fun w hSw => by go_simp⟩) hH ?_
      simp only [Act.put, pu]
      refine tk (i := 10) (oi := ⟨some 75, _, _, _, _, _⟩) (v := .int .i64 ow) rfl (Or.inl ⟨by rfl, fun w hSw => by go_simp⟩) hH ?_
      simp only [Act.put, pu]
      refine tk (i := 11) (oi := ⟨some 76, _, _, _, _, _⟩) (v := .pointer (some ⟨gn, ow, none⟩)) rfl (Or.inl ⟨by rfl, fun w hSw => by go_simp⟩) hH ?_
      simp only [Act.put, pu]
      refine tk (i := 12) (oi := ⟨some 77, _, _, _, _, _⟩) (v := .int .i64 q) rfl (Or.inl ⟨by rfl, fun w hSw => by obtain ⟨nz, hz⟩ := hSw; have e1 := hcq _ nz hz; go_simp⟩) hH ?_
      simp only [Act.put, pu]
      refine wpAnyH_ready (rs := [13]) (by kernel_rfl) (by simp) ?_
      refine AllReadyH.cons rfl (fun K1 hK => ?_) AllReadyH.nil
      go_simp
      refine hh.mono ?_
      clear hh
      rintro e W7 ⟨rfl, l', hT', hl', hno', hkp⟩
      have hL7 := hL5.move hkp hT'
      have hH7 : ∃ nz, Lm w W7 B B gm gn go_ len (ens l) (.slice (some ⟨g, 0, none⟩) n5 vc5) nz Y1.nm o := ⟨_, hL7⟩
      refine hK.out _ _ hH7 (fun h0 => ?_)
      clear h0 hK K1
      refine wpAnyH_done (by kernel_rfl) ?_ _
      have HFI : Hid (Lm w W7 B B gm gn go_ len (ens l) (.slice (some ⟨g, 0, none⟩) n5 vc5) l' (stY (ens l) o (j + 1)).nm o ∧ nos l' = (stY (ens l) o (j + 1)).ns ∧ l'.length = n5) := by
       show _ ∧ _ ∧ _
       rw [HSY.out.1]
       refine ⟨hL7, ?_, hl'⟩
       rw [hno', tx_tl, HSY.out.2.1, HSY.out.2.2.1]
       rfl
      clear hH hH7 hL7 hL5 hT' hno' hkp hlkf hcf hcq hfd
      go_wp2_with fail
      exact ⟨⟨j + 1, by omega, by go_num, _, _, _, rfl, ⟨l', HFI.out⟩⟩, by simp [intOf]; omega⟩
  ·have hlti : ¬ (j : Int) < (len : Int) := by omega
   obtain rfl : j = len := by omega
   have hres := HL.out
   obtain ⟨ns, hL, hns, hnl⟩ := hres
   have c2 := hL.res.c 0
   have HF : Hid _ := xai hL (xai hns hnl)
   have HSZ : Hid _ := hlti
   have f2 : wr.frozen? ⟨B, 0, none⟩ = false := by simp [World.frozen?, hL.res.blk]
   have ho := bx_own (base := B) hL.res (Nat.le_refl _) rfl (by decide)
   obtain ⟨s1, s2⟩ := ho.stored 0 (.slice va n vc)
   have hT := hL.tq.other ho (by rw [HB.out]; exact Nat.le_refl _) (by decide) (by decide) (by decide) (by decide) s2
   have cR := s1.cellAt 0 (by decide)
   have HT : Hid _ := hT
   have HCR : Hid _ := cR
   clear hL hns hnl HL ho s1 s2 hT
   go_wp2_with fail
   have cR := HCR.out
   refine bodyPost_ret (v := .agg #[.slice va n vc]) (by simp [results, Tryz.results32, go_sem, *]) rfl ?_
   refine ⟨_, _, rfl, by rw [HB.out]; exact HT.out, ?_⟩
   rw [HF.out.2.1, HO.out.2.1]
set_option maxHeartbeats 2000000 in
theorem ptoolong_any (a : Option Addr) (len cap : Nat) (l : List EnV) (w : World) (E : Ens w a len l) :
  Calls Tryz.prog 61 #[.slice a len cap] w fun e w' => e = .returned (.bool (decide (8388608 < sums (ens l)))) ∧ w.grownBy w' none := by
 have hll := E.len_eq
 have hle : len ≤ 9223372036854775807 := E.le
 have hta : (ens l).take len = ens l := List.take_of_length_le (by rw [ens_len]; omega)
 have HI : Hid _ := xai E (xai hll hta)
 clear E hll hta
 generalize hA : decide (8388608 < sums (ens l)) = A
 have HA : Hid _ := hA
 clear hA
 go_enter Tryz.func61, Tryz.ntmps61
 go_wp2_with fail
 go_loopw [3, 8] (fun vs vi wr => ∃ (k : Nat) (sm : Int), k ≤ len ∧ vi = .int .i64 k ∧ vs = .int .i64 (8388608 - sm) ∧ 0 ≤ sm ∧ sm ≤ 8388608 ∧ Hid (sm = sums ((ens l).take k)) ∧ Hid (w.grownBy wr none)) (fun _ vi _ => len - (intOf vi).toNat)
 case atStart => exact ⟨0, 0, Nat.zero_le _, rfl, rfl, by omega, by omega, rfl, World.grownBy.refl _ _⟩
 case round =>
  obtain ⟨k, sm, hk, rfl, rfl, hs0, hs1, HS, HG⟩ := hrel
  by_cases hlt : k < len
  ·obtain ⟨Y, hY⟩ : ∃ Y, l[k]? = some Y := ⟨_, List.getElem?_eq_getElem (by have := HI.out.2.1; omega)⟩
   obtain ⟨b, off, rfl, hat⟩ := (HI.out.1.grown HG.out).at_ (by omega)
   obtain ⟨y0, y1, y2, y3, y4, y5, y6, y7, y8, y9, y10, yok⟩ := hat k Y hY
   have hsn := sums_snoc hY
   have hmo := sums_mono (l := l) (k := k + 1) (n := len) (by omega)
   rw [HI.out.2.2, hsn, ← HS.out, yok.row.len_eq] at hmo
   rw [← HS.out, yok.row.len_eq] at hsn
   have hdl : Y.dl ≤ 9223372036854775807 := yok.row.le
   have HN : Hid _ := xai hsn hmo
   clear hsn hmo hat yok hY
   obtain ⟨path, KY, mo, uid, gid, ti, sz_, da, D, dc, data, tg, dev, aa, al, ac, attrs⟩ := Y
   simp only at y0 y1 y2 y3 y4 y5 y6 y7 y8 y9 y10 hdl HN
   have hlti : (k : Int) < (len : Int) := by omega
   by_cases hK : KY = 1
   ·have hKb : (KY == 1) = true := by rw [hK]; rfl
    have hKn : (KY != 1) = false := by rw [hK]; rfl
    by_cases hD : 8388608 - sm < D
    ·have HV : Hid (A = true) := by
      show A = true
      have := HN.out.2
      rw [if_pos hK] at this
      rw [← HA.out]
      exact decide_eq_true (by omega)
     clear hK
     go_wp2_with fail
     go_ret
     exact ⟨by rw [HV.out]; rfl, xgt HG.out (xga _ _ none)⟩
    ·have HN2 : Hid (sm + D = sums ((ens l).take (k + 1))) := by
      show _ = _
      rw [HN.out.1, if_pos hK]
     clear hK
     go_wp2_with fail
     exact ⟨⟨k + 1, sm + D, by omega, by go_num, by go_num, by omega, by omega, HN2, xgt HG.out (xga _ _ none)⟩, by simp [intOf]; omega⟩
   ·have hKb : (KY == 1) = false := by rw [beq_eq_false_iff_ne]; exact hK
    have hKn : (KY != 1) = true := by simp [hK]
    have HN2 : Hid (sm = sums ((ens l).take (k + 1))) := by
     show _ = _
     rw [HN.out.1, if_neg hK]; omega
    clear hK
    go_wp2_with fail
    exact ⟨⟨k + 1, sm, by omega, by go_num, rfl, by omega, by omega, HN2, xgt HG.out (xga _ _ none)⟩, by simp [intOf]; omega⟩
  ·have hlti : ¬ (k : Int) < (len : Int) := by omega
   obtain rfl : k = len := by omega
   have HV : Hid (A = false) := by
    show A = false
    rw [← HA.out]
    have := HS.out
    rw [HI.out.2.2] at this
    exact decide_eq_false (by omega)
   go_wp2_with fail
   go_ret
   exact ⟨by rw [HV.out]; rfl, HG.out⟩
end Go.Proofs.YtlehncfehoelbaaGreatDoor
