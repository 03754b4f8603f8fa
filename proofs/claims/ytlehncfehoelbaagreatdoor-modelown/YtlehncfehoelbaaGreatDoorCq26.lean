/- The program's tree: a node is met by one of its names. -/
import Derived.Test.YtlehncfehoelbaaGreatDoorCq25
namespace Go.Proofs.YtlehncfehoelbaaGreatDoor
open Go.RowKit
set_option maxRecDepth 100000
set_option linter.unusedSimpArgs false
set_option linter.unusedVariables false
theorem meet_none {ns : List No} {f : Nat} {s : Wk} {i : Int} {p : Tx} (h : ¬ (0 ≤ i ∧ p.length ≤ 4096 ∧ s.list.length ≤ 16384)) : meetP ns (f + 1) s i p = none := by
 unfold meetP
 rw [if_neg h]
theorem meet_far {ns : List No} {f : Nat} {s : Wk} {i : Int} {p : Tx} (h : (ns.length : Int) ≤ i) : meetP ns (f + 1) s i p = none := by
 unfold meetP
 split
 ·rw [List.getElem?_eq_none (by omega)]
 ·rfl
theorem meet_at {ns : List No} {f : Nat} {s : Wk} {j : Nat} {p : Tx} {n : No} (h : p.length ≤ 4096) (h2 : s.list.length ≤ 16384) (hn : ns[j]? = some n) : meetP ns (f + 1) s (j : Int) p = match s.at_ j with
      | some k => if n.k = 2 then none else some (addF s k p)
      | none => if n.k = 2 then kidsP (meetP ns f) (ahd p) n.kids (addN s j p) else some (addN s j p) := by
 show (if 0 ≤ (j : Int) ∧ p.length ≤ 4096 ∧ s.list.length ≤ 16384 then (match ns[(j : Int).toNat]? with
  | none => none
  | some n => match s.at_ (j : Int).toNat with
   | some k => if n.k = 2 then none else some (addF s k p)
   | none => if n.k = 2 then kidsP (meetP ns f) (ahd p) n.kids (addN s (j : Int).toNat p) else some (addN s (j : Int).toNat p)) else none) = _
 rw [if_pos ⟨Int.natCast_nonneg _, h, h2⟩, Int.toNat_natCast, hn]
theorem nos_at {ns : List NoV} {j : Nat} {N : NoV} (h : ns[j]? = some N) : (nos ns)[j]? = some N.no := by
 unfold nos
 rw [List.getElem?_map, h]; rfl
theorem wm_add {w W W9 : World} {gw gm n nc vc L m : Nat} {na va : Option Addr} {ns : List NoV} {l : List EnV} {X : EnV} {F : Lit → Option Value} {v' : Value} (eo : Eo w W w.heap.size (.slice va L vc) l) (bx : Bx W gw 132 [.slice na n nc, .map (some gm), .slice va L vc]) (gwl : w.heap.size ≤ gw) (gml : w.heap.size ≤ gm)
  (map : MapF W 3 gm m F) (hX : X.ok w) (hl : l.length = L) (hown : W9.ownsRow w.heap.size 30 11 v' (L + 1) (l.flatMap evc ++ evc X)) (hg : W.grownBy W9 (Value.slice va L vc).ownBlock) (s' : Wk) (hs : s'.list.map (evL ns) = l ++ [X]) (hm : s'.met.length = m ∧ metF s' = F) :
  w.grownBy W9 none ∧ Bx W9 gw 132 [.slice na n nc, .map (some gm), .slice va L vc] ∧ ∃ va' vc', v' = .slice va' (L + 1) vc' ∧ Wm w (W9.setCell ⟨gw, 2, none⟩ v') gw gm na n nc ns s' va' vc' := by
 have eo9 := eo_add eo hX (by rw [hl]; exact hown) hg
 have bx9 := bx.but hg (bx_ne bx eo.own (by decide))
 have map9 := map.kept hg (map_ne_own map eo.own)
 obtain ⟨va', vc', rfl⟩ := own_shape hown
 have hsl : s'.list.length = L + 1 := by
  have := congrArg List.length hs
  rw [List.length_map, List.length_append, List.length_singleton, hl] at this
  exact this
 have eo10 := eo_set eo9 bx9 gwl 2 (.slice va' (L + 1) vc')
 refine ⟨eo9.gr, bx9, va', vc', rfl, ?_, ?_, gwl, gml, ?_⟩
 ·rw [hs, hsl]; exact eo10
 ·rw [hsl]; exact bx9.set 2 _
 ·rw [hm.1, hm.2]
  exact map9.kept (grown_set W9 gw 2 _) (fun c => map_ne_bx map9 bx9 (by injection c))
theorem wp_mapUpd {P : Program} {w w' : World} {o : Oper} {a : Act} {K : Act → World → Prop} {Q : Exit → Act → World → Prop} {t : TypeId} {m x v : Operand} (hop : o.op = .mapUpdate t m x v) {um ux uv : Value} (hm : a.eval m = um) (hx : a.eval x = ux) (hv : a.eval v = uv) (hrun : (Instr.mapUpdate t um ux uv).run P w = .ok () w') (hK : K (a.put o.dst undef) w') : Oper.wp P o a w K Q := by
 unfold Oper.wp
 simp [execOp, hop, hm, hx, hv, hrun, Result.andThen]
 exact hK
theorem tx_of (p : ByteArray) : tx p.toList = p := tl_inj (tx_tl _)
set_option maxHeartbeats 16000000 in
theorem pmeet_step (w : World) (gw gm : Nat) (na : Option Addr) (n nc : Nat) (ns : List NoV) (hN : Nos w na n ns) (hc : ∀ N ∈ ns, Ncp N) (f : Nat) (M : MeetC w gw gm na n nc ns f) : MeetC w gw gm na n nc ns (f + 1) := by
 intro s i p W va vc h hok hp hf
 have HN : Hid _ := xai hN (xai hc M)
 have hnl := hN.len_eq
 have hnl2 : (nos ns).length = n := by rw [nos_len, hnl]
 have HW : Hid _ := xai h (xai hok hf)
 have x0 : W.cell? ⟨gw, 0, none⟩ = some (.slice na n nc) := h.bx.c 0
 have x1 : W.cell? ⟨gw, 1, none⟩ = some (.map (some gm)) := h.bx.c 1
 have x2 : W.cell? ⟨gw, 2, none⟩ = some (.slice va s.list.length vc) := h.bx.c 2
 have HX : Hid _ := xai x0 (xai x1 x2)
 have hpl : p.toList.length = p.size := tl_len p
 have HNL : Hid _ := xai hnl (xai hnl2 hpl)
 clear h hok hf hN hc M hnl hnl2 hpl
 by_cases h1 : i < 0
 ·rw [meet_none (by omega)]
  clear x0 x1 x2
  go_enter Tryz.func80, Tryz.ntmps80
  go_wp2_with fail
  refine (pnotree_any _).mono ?_
  rintro e W3 ⟨rfl, rfl⟩
  go_wp2_with fail
  exact ⟨rfl, Or.inl ⟨rfl, rfl, HW.out.1.eo.gr⟩⟩
 by_cases h2 : (n : Int) ≤ i
 ·rw [meet_far (by rw [HNL.out.2.1]; exact h2)]
  go_enter Tryz.func80, Tryz.ntmps80
  go_wp2_with fail
  refine (pnotree_any _).mono ?_
  rintro e W3 ⟨rfl, rfl⟩
  go_wp2_with fail
  exact ⟨rfl, Or.inl ⟨rfl, rfl, HW.out.1.eo.gr⟩⟩
 by_cases h3 : 4096 < p.size
 ·rw [meet_none (by have := HNL.out.2.2; omega)]
  have h3i : (4096 : Int) < (p.size : Int) := by omega
  go_enter Tryz.func80, Tryz.ntmps80
  go_wp2_with fail
  refine (pnotree_any _).mono ?_
  rintro e W3 ⟨rfl, rfl⟩
  go_wp2_with fail
  exact ⟨rfl, Or.inl ⟨rfl, rfl, HW.out.1.eo.gr⟩⟩
 by_cases h4 : 16384 < s.list.length
 ·rw [meet_none (by omega)]
  have h3i : ¬ (4096 : Int) < (p.size : Int) := by omega
  have h4i : (16384 : Int) < (s.list.length : Int) := by omega
  go_enter Tryz.func80, Tryz.ntmps80
  go_wp2_with fail
  refine (pnotree_any _).mono ?_
  rintro e W3 ⟨rfl, rfl⟩
  go_wp2_with fail
  exact ⟨rfl, Or.inl ⟨rfl, rfl, HW.out.1.eo.gr⟩⟩
 have h3i : ¬ (4096 : Int) < (p.size : Int) := by omega
 have h4i : ¬ (16384 : Int) < (s.list.length : Int) := by omega
 obtain ⟨j, rfl⟩ : ∃ j : Nat, i = (j : Int) := ⟨i.toNat, by omega⟩
 have hj : j < n := by omega
 obtain ⟨N, hNj⟩ : ∃ N, ns[j]? = some N := ⟨_, List.getElem?_eq_getElem (by rw [HNL.out.1]; exact hj)⟩
 have hpn : p.toList.length ≤ 4096 := by have := HNL.out.2.2; omega
 have hNm := List.mem_of_getElem? hNj
 rw [meet_at (n := N.no) hpn (by omega) (nos_at hNj)]
 obtain ⟨b, off, rfl, hat⟩ := HN.out.1.at_ (by omega)
 obtain ⟨y0, y1, y2, y3, y4, y5, y6, y7, y8, y9, y10, y11, y12, yok⟩ := (hat j N hNj).grown HW.out.1.eo.gr
 have hjm : j ≤ maxLen := by have := HN.out.1.le; omega
 have hkey := keyi j hjm
 have hlk : ∀ W', W.grownBy W' none → (Instr.lookup 130 (.map (some gm)) (.int .i64 (j : Int)) true).run Tryz.prog W' = .ok (.tuple #[((s.at_ j).map (fun (k : Nat) => Value.int .i64 k)).getD (.int .i64 0), .bool (s.at_ j).isSome]) W' := fun W' g => by
  rw [(HW.out.1.kept g).map.look_ok key3 Tryz.underlying130 (z := .int .i64 0) (by rfl) hkey, metF_nat]
  cases s.at_ j <;> rfl
 have HKD : Hid _ := (hat j N hNj).ok.kds
 have HJ : Hid _ := xai hNj (xai hNm (xai hpn (xai hj hkey)))
 clear hat hNj hNm hpn hkey yok h1 hjm
 obtain ⟨L, hL⟩ : ∃ L, s.list.length = L := ⟨_, rfl⟩
 rw [hL] at x2 h4i h4 HX
 have HL : Hid _ := hL
 clear hL
 obtain ⟨NK, mo, uid, gid, ti, sz_, da, dl, dc, data, tg, dev, aa, al, ac, attrs, ka, kl, kc, kids, pa, lk⟩ := N
 simp only at y0 y1 y2 y3 y4 y5 y6 y7 y8 y9 y10 y11 y12
 have hNo : (NoV.no ⟨NK, mo, uid, gid, ti, sz_, da, dl, dc, data, tg, dev, aa, al, ac, attrs, ka, kl, kc, kids, pa, lk⟩).k = NK := rfl
 have hNs : (NoV.no ⟨NK, mo, uid, gid, ti, sz_, da, dl, dc, data, tg, dev, aa, al, ac, attrs, ka, kl, kc, kids, pa, lk⟩).kids = kids := rfl
 rw [hNo, hNs]
 clear hNo hNs
 have gB := xga W (.cells #[.int .i64 NK, .int .i64 mo, .int .i64 uid, .int .i64 gid, .int .i64 ti, .int .i64 sz_, .slice da dl dc, .string tg, .int .i64 dev, .slice aa al ac, .slice ka kl kc, .int .i64 pa, .int .i64 lk] 43) none
 have hlk1 := hlk _ gB
 have bB := Bx.new W 43 [.int .i64 NK, .int .i64 mo, .int .i64 uid, .int .i64 gid, .int .i64 ti, .int .i64 sz_, .slice da dl dc, .string tg, .int .i64 dev, .slice aa al ac, .slice ka kl kc, .int .i64 pa, .int .i64 lk]
 have z0 := (HW.out.1.kept gB).bx.c 0
 have z1 := (HW.out.1.kept gB).bx.c 1
 have z2 := (HW.out.1.kept gB).bx.c 2
 have c0 := bB.c 0
 rw [HL.out] at z2
 have HB : Hid _ := xai gB bB
 clear gB bB hlk
 cases ha : s.at_ j with
 | some k =>
  rw [ha] at hlk1
  simp only [Option.map_some, Option.getD_some, Option.isSome_some] at hlk1
  by_cases hk2 : NK = 2
  ·subst hk2
   rw [if_pos rfl]
   go_enter Tryz.func80, Tryz.ntmps80
   go_wp2_with fail
   refine (pnotree_any _).mono ?_
   rintro e W3 ⟨rfl, rfl⟩
   go_wp2_with fail
   exact ⟨rfl, Or.inl ⟨rfl, rfl, xgt HW.out.1.eo.gr HB.out.1⟩⟩
  ·rw [if_neg hk2]
   have hkb : (NK == 2) = false := by rw [beq_eq_false_iff_ne]; exact hk2
   go_enter Tryz.func80, Tryz.ntmps80
   go_wp2_with fail
   obtain ⟨x, hx⟩ : ∃ x, s.list[k]? = some x := ⟨_, List.getElem?_eq_getElem (HW.out.2.1.at_lt ha)⟩
   have hkL : k < L := by rw [← HL.out]; exact HW.out.2.1.at_lt ha
   have hkLi : (k : Int) < (L : Int) := by omega
   have gD := xgt HB.out.1 (drewG0 (W.alloc (.cells #[.int .i64 NK, .int .i64 mo, .int .i64 uid, .int .i64 gid, .int .i64 ti, .int .i64 sz_, .slice da dl dc, .string tg, .int .i64 dev, .slice aa al ac, .slice ka kl kc, .int .i64 pa, .int .i64 lk] 43)))
   have hM := HW.out.1.kept gD
   obtain ⟨g, c, hv, -⟩ := hM.eo.form (by intro e; rw [List.map_eq_nil_iff] at e; rw [e] at hx; cases hx)
   injection hv with hv1 hv2 hv3
   subst hv1
   clear hv2 hv3
   have hX2 : (s.list.map (evL ns))[k]? = some (evL ns x) := by rw [List.getElem?_map, hx]; rfl
   have hcell : ∀ W', Eo w W' w.heap.size (.slice (some ⟨g, 0, none⟩) s.list.length vc) (s.list.map (evL ns)) → W'.cell? ⟨g, k * 11, none⟩ = some (.string (tx x.path)) := fun W' hE => by
    have e := hE.cell (i := k) (f := 0) (by rw [List.length_map]) hX2 (by decide)
    rw [Nat.add_zero] at e
    rw [e, ← evL_path ns x]
    rfl
   have hsx : (s.list[k]?.map Le.path).getD [] = x.path := by rw [hx]; rfl
   have HXX : Hid _ := xai hx (xai hX2 hsx)
   obtain ⟨ie, hi, hz0, hz1, hz2⟩ := info_parts Tryz.infoE
   have HIE : Hid _ := xai hi (xai hz0 (xai hz1 hz2))
   clear hx hX2 hsx hi hz0 hz1 hz2 y0 y1 y2 y3 y4 y5 y6 y7 y8 y9 y10 y11 y12 z0 z1 z2 c0 hlk1 x0 x1 x2 gD
   refine wp_region_held_drew (S := fun w' => w.grownBy w' none) (by kernel_rfl) hM.eo.gr (fun hH => ?_)
   generalize (W.alloc (.cells #[.int .i64 NK, .int .i64 mo, .int .i64 uid, .int .i64 gid, .int .i64 ti, .int .i64 sz_, .slice da dl dc, .string tg, .int .i64 dev, .slice aa al ac, .slice ka kl kc, .int .i64 pa, .int .i64 lk] 43)).drew = WD at *
   refine tk (i := 0) (oi := ⟨some 55, _, _, _, _, _⟩) (v := .pointer (some ⟨gw, 0, none⟩)) rfl (Or.inl ⟨by rfl, fun w hSw => by go_simp⟩) hH ?_
   simp only [Act.put, pu]
   refine tk (i := 1) (oi := ⟨some 56, _, _, _, _, _⟩) (v := .pointer (some ⟨gw, 0, none⟩)) rfl (Or.inl ⟨by rfl, fun w hSw => by go_simp⟩) hH ?_
   simp only [Act.put, pu]
   refine tk (i := 2) (oi := ⟨some 57, _, _, _, _, _⟩) (v := .pointer (some ⟨gw, 0, none⟩)) rfl (Or.inl ⟨by rfl, fun w hSw => by go_simp⟩) hH ?_
   simp only [Act.put, pu]
   refine tk (i := 3) (oi := ⟨some 58, _, _, _, _, _⟩) (v := .pointer (some ⟨gw, 2, none⟩)) rfl (Or.inl ⟨by rfl, fun w hSw => by go_simp⟩) hH ?_
   simp only [Act.put, pu]
   refine tk (i := 5) (oi := ⟨some 60, _, _, _, _, _⟩) (v := .string p) rfl (Or.inl ⟨by rfl, fun w hSw => by go_simp⟩) hH ?_
   simp only [Act.put, pu]
   refine tk (i := 6) (oi := ⟨some 61, _, _, _, _, _⟩) (v := .pointer (some ⟨gw, 0, none⟩)) rfl (Or.inl ⟨by rfl, fun w hSw => by go_simp⟩) hH ?_
   simp only [Act.put, pu]
   refine tk (i := 7) (oi := ⟨some 62, _, _, _, _, _⟩) (v := .pointer (some ⟨gw, 0, none⟩)) rfl (Or.inl ⟨by rfl, fun w hSw => by go_simp⟩) hH ?_
   simp only [Act.put, pu]
   refine tk (i := 8) (oi := ⟨some 63, _, _, _, _, _⟩) (v := .pointer (some ⟨gw, 2, none⟩)) rfl (Or.inl ⟨by rfl, fun w hSw => by go_simp⟩) hH ?_
   simp only [Act.put, pu]
   refine tk (i := 10) (oi := ⟨some 65, _, _, _, _, _⟩) (v := .int .i64 (k : Int)) rfl (Or.inl ⟨by rfl, fun w hSw => by go_simp⟩) hH ?_
   simp only [Act.put, pu]
   refine wpAnyH_ready (rs := [4, 9]) (by kernel_rfl) (by simp) ?_
   refine AllReadyH.cons rfl (fun K1 hK => ?_) (AllReadyH.cons rfl (fun K1 hK => ?_) AllReadyH.nil)
   ·skip
    have c2 : WD.cell? ⟨gw, 2, none⟩ = some (.slice (some ⟨g, 0, none⟩) s.list.length vc) := hM.bx.c 2
    rw [HL.out] at c2
    go_simp
    refine hK.out _ _ hH (fun _ => ?_)
    clear hK K1 c2
    refine wpAnyH_ready (rs := [9]) (by kernel_rfl) (by simp) ?_
    refine AllReadyH.cons rfl (fun K1 hK => ?_) AllReadyH.nil
    have c2 : WD.cell? ⟨gw, 2, none⟩ = some (.slice (some ⟨g, 0, none⟩) s.list.length vc) := hM.bx.c 2
    rw [HL.out] at c2
    go_simp
    refine hK.out _ _ hH (fun _ => ?_)
    clear hK K1 c2
    refine tk (i := 11) (oi := ⟨some 66, _, _, _, _, _⟩) (v := .pointer (some ⟨g, k * 11, none⟩)) rfl (Or.inl ⟨by rfl, fun w hSw => by go_simp⟩) hH ?_
    simp only [Act.put, pu]
    refine tk (i := 12) (oi := ⟨some 67, _, _, _, _, _⟩) (v := .pointer (some ⟨g, k * 11, none⟩)) rfl (Or.inl ⟨by rfl, fun w hSw => by go_simp⟩) hH ?_
    simp only [Act.put, pu]
    refine wpAnyH_ready (rs := [13]) (by kernel_rfl) (by simp) ?_
    refine AllReadyH.cons rfl (fun K1 hK => ?_) AllReadyH.nil
    have c3 := hcell _ hM.eo
    go_simp
    refine hK.out _ _ hH (fun _ => ?_)
    clear hK K1 c3
    refine tk (i := 14) (oi := ⟨some 69, _, _, _, _, _⟩) (v := (hrv p (tx x.path)).val) rfl (Or.inl ⟨by rfl, fun w hSw => by simp only [hrv, EnV.val]; go_simp⟩) hH ?_
    simp only [Act.put, pu]
    refine wpAnyH_ready (rs := [15]) (by kernel_rfl) (by simp) ?_
    refine AllReadyH.cons rfl (fun K1 hK => ?_) AllReadyH.nil
    have gA := xga WD (.cells (evc (hrv p (tx x.path))).toArray 30) none
    have bA := Bx.new WD 30 (evc (hrv p (tx x.path)))
    simp only [hrv, EnV.val]
    go_simp
    replace hM := hM.kept gA
    replace hH := hM.eo.gr
    have hWX := hM.eo.gr.size
    clear gA
    change K1 _ (WD.alloc (.cells (evc (hrv p (tx x.path))).toArray 30))
    generalize WD.alloc (.cells (evc (hrv p (tx x.path))).toArray 30) = WB at *
    generalize WD.heap.size = gb at *
    refine hK.out _ _ hH (fun _ => ?_)
    clear hK K1
    refine wpAnyH_ready (rs := [16]) (by kernel_rfl) (by simp) ?_
    refine AllReadyH.cons rfl (fun K1 hK => ?_) AllReadyH.nil
    have hown := hM.eo.own
    rw [List.length_map, HL.out] at hown
    obtain ⟨v', W9, hrun, hown', hgrow, _, _⟩ := run_append_own_at (P := Tryz.prog) WB w.heap.size 22 22 30 ie _ 11 _ Tryz.underlying22 HIE.out.1 HIE.out.2.1 HIE.out.2.2.1 HIE.out.2.2.2 rfl (by decide) _ _ _ hown ⟨gb, 0, none⟩ 1 1 (evc (hrv p (tx x.path))) rfl (bx_news bA) (evc_one _) (by unfold maxLen; omega) (by omega) hWX
    have hMe := hM.eo
    have hMb := hM.bx
    rw [HL.out] at hMe hMb
    have hadd := wm_add (ns := ns) hMe hMb hM.gwl hM.gml hM.map (X := hrv p (tx x.path)) ⟨row_none0 w, Nat.le_refl _, ats_none w, Nat.le_refl _⟩ (by rw [List.length_map, HL.out]) hown' hgrow (addF s k p.toList) (by show (s.list ++ [_]).map _ = _; rw [List.map_append, HXX.out.2.2]; show _ ++ [hrv (tx p.toList) (tx x.path)] = _; rw [tx_of]) ⟨rfl, rfl⟩
    obtain ⟨g9, bx9, va', vc', rfl, hWm⟩ := hadd
    rw [if_pos (by rfl)]
    refine wp_append (u := .slice (some ⟨gb, 0, none⟩) 1 1) rfl rfl rfl hrun (hK.out _ _ g9 (fun _ => ?_))
    have hH := g9
    clear hK K1 hrun hgrow hown' hown bA hM hMe hMb g9
    simp only [Act.put, pu]
    refine tk (i := 17) (oi := ⟨some 72, _, _, _, _, _⟩) (v := .pointer (some ⟨gw, 0, none⟩)) rfl (Or.inl ⟨by rfl, fun w hSw => by go_simp⟩) hH ?_
    simp only [Act.put, pu]
    refine tk (i := 18) (oi := ⟨some 73, _, _, _, _, _⟩) (v := .pointer (some ⟨gw, 2, none⟩)) rfl (Or.inl ⟨by rfl, fun w hSw => by go_simp⟩) hH ?_
    simp only [Act.put, pu]
    refine wpAnyH_ready (rs := [19]) (by kernel_rfl) (by simp) ?_
    refine AllReadyH.cons rfl (fun K1 hK => ?_) AllReadyH.nil
    have c2 := bx9.c 2
    have f2 := bx9.f 2
    go_simp
    refine hK.out _ _ hWm.eo.gr (fun _ => ?_)
    clear hK K1 c2 f2
    refine wpAnyH_done (by kernel_rfl) ?_ _
    have HR : Hid _ := hWm
    clear hWm bx9 hH hcell
    go_wp2_with fail
    go_end0
    exact Or.inr ⟨_, va', vc', rfl, rfl, HR.out⟩
   ·skip
    have c2 : WD.cell? ⟨gw, 2, none⟩ = some (.slice (some ⟨g, 0, none⟩) s.list.length vc) := hM.bx.c 2
    rw [HL.out] at c2
    go_simp
    refine hK.out _ _ hH (fun _ => ?_)
    clear hK K1 c2
    refine tk (i := 11) (oi := ⟨some 66, _, _, _, _, _⟩) (v := .pointer (some ⟨g, k * 11, none⟩)) rfl (Or.inl ⟨by rfl, fun w hSw => by go_simp⟩) hH ?_
    simp only [Act.put, pu]
    refine tk (i := 12) (oi := ⟨some 67, _, _, _, _, _⟩) (v := .pointer (some ⟨g, k * 11, none⟩)) rfl (Or.inl ⟨by rfl, fun w hSw => by go_simp⟩) hH ?_
    simp only [Act.put, pu]
    refine wpAnyH_ready (rs := [4, 13]) (by kernel_rfl) (by simp) ?_
    refine AllReadyH.cons rfl (fun K1 hK => ?_) (AllReadyH.cons rfl (fun K1 hK => ?_) AllReadyH.nil)
    ·skip
     have c2 : WD.cell? ⟨gw, 2, none⟩ = some (.slice (some ⟨g, 0, none⟩) s.list.length vc) := hM.bx.c 2
     rw [HL.out] at c2
     go_simp
     refine hK.out _ _ hH (fun _ => ?_)
     clear hK K1 c2
     refine wpAnyH_ready (rs := [13]) (by kernel_rfl) (by simp) ?_
     refine AllReadyH.cons rfl (fun K1 hK => ?_) AllReadyH.nil
     have c3 := hcell _ hM.eo
     go_simp
     refine hK.out _ _ hH (fun _ => ?_)
     clear hK K1 c3
     refine tk (i := 14) (oi := ⟨some 69, _, _, _, _, _⟩) (v := (hrv p (tx x.path)).val) rfl (Or.inl ⟨by rfl, fun w hSw => by simp only [hrv, EnV.val]; go_simp⟩) hH ?_
     simp only [Act.put, pu]
     refine wpAnyH_ready (rs := [15]) (by kernel_rfl) (by simp) ?_
     refine AllReadyH.cons rfl (fun K1 hK => ?_) AllReadyH.nil
     have gA := xga WD (.cells (evc (hrv p (tx x.path))).toArray 30) none
     have bA := Bx.new WD 30 (evc (hrv p (tx x.path)))
     simp only [hrv, EnV.val]
     go_simp
     replace hM := hM.kept gA
     replace hH := hM.eo.gr
     have hWX := hM.eo.gr.size
     clear gA
     change K1 _ (WD.alloc (.cells (evc (hrv p (tx x.path))).toArray 30))
     generalize WD.alloc (.cells (evc (hrv p (tx x.path))).toArray 30) = WB at *
     generalize WD.heap.size = gb at *
     refine hK.out _ _ hH (fun _ => ?_)
     clear hK K1
     refine wpAnyH_ready (rs := [16]) (by kernel_rfl) (by simp) ?_
     refine AllReadyH.cons rfl (fun K1 hK => ?_) AllReadyH.nil
     have hown := hM.eo.own
     rw [List.length_map, HL.out] at hown
     obtain ⟨v', W9, hrun, hown', hgrow, _, _⟩ := run_append_own_at (P := Tryz.prog) WB w.heap.size 22 22 30 ie _ 11 _ Tryz.underlying22 HIE.out.1 HIE.out.2.1 HIE.out.2.2.1 HIE.out.2.2.2 rfl (by decide) _ _ _ hown ⟨gb, 0, none⟩ 1 1 (evc (hrv p (tx x.path))) rfl (bx_news bA) (evc_one _) (by unfold maxLen; omega) (by omega) hWX
     have hMe := hM.eo
     have hMb := hM.bx
     rw [HL.out] at hMe hMb
     have hadd := wm_add (ns := ns) hMe hMb hM.gwl hM.gml hM.map (X := hrv p (tx x.path)) ⟨row_none0 w, Nat.le_refl _, ats_none w, Nat.le_refl _⟩ (by rw [List.length_map, HL.out]) hown' hgrow (addF s k p.toList) (by show (s.list ++ [_]).map _ = _; rw [List.map_append, HXX.out.2.2]; show _ ++ [hrv (tx p.toList) (tx x.path)] = _; rw [tx_of]) ⟨rfl, rfl⟩
     obtain ⟨g9, bx9, va', vc', rfl, hWm⟩ := hadd
     rw [if_pos (by rfl)]
     refine wp_append (u := .slice (some ⟨gb, 0, none⟩) 1 1) rfl rfl rfl hrun (hK.out _ _ g9 (fun _ => ?_))
     have hH := g9
     clear hK K1 hrun hgrow hown' hown bA hM hMe hMb g9
     simp only [Act.put, pu]
     refine tk (i := 17) (oi := ⟨some 72, _, _, _, _, _⟩) (v := .pointer (some ⟨gw, 0, none⟩)) rfl (Or.inl ⟨by rfl, fun w hSw => by go_simp⟩) hH ?_
     simp only [Act.put, pu]
     refine tk (i := 18) (oi := ⟨some 73, _, _, _, _, _⟩) (v := .pointer (some ⟨gw, 2, none⟩)) rfl (Or.inl ⟨by rfl, fun w hSw => by go_simp⟩) hH ?_
     simp only [Act.put, pu]
     refine wpAnyH_ready (rs := [19]) (by kernel_rfl) (by simp) ?_
     refine AllReadyH.cons rfl (fun K1 hK => ?_) AllReadyH.nil
     have c2 := bx9.c 2
     have f2 := bx9.f 2
     go_simp
     refine hK.out _ _ hWm.eo.gr (fun _ => ?_)
     clear hK K1 c2 f2
     refine wpAnyH_done (by kernel_rfl) ?_ _
     have HR : Hid _ := hWm
     clear hWm bx9 hH hcell
     go_wp2_with fail
     go_end0
     exact Or.inr ⟨_, va', vc', rfl, rfl, HR.out⟩
    ·skip
     have c3 := hcell _ hM.eo
     go_simp
     refine hK.out _ _ hH (fun _ => ?_)
     clear hK K1 c3
     refine tk (i := 14) (oi := ⟨some 69, _, _, _, _, _⟩) (v := (hrv p (tx x.path)).val) rfl (Or.inl ⟨by rfl, fun w hSw => by simp only [hrv, EnV.val]; go_simp⟩) hH ?_
     simp only [Act.put, pu]
     refine wpAnyH_ready (rs := [4, 15]) (by kernel_rfl) (by simp) ?_
     refine AllReadyH.cons rfl (fun K1 hK => ?_) (AllReadyH.cons rfl (fun K1 hK => ?_) AllReadyH.nil)
     ·skip
      have c2 : WD.cell? ⟨gw, 2, none⟩ = some (.slice (some ⟨g, 0, none⟩) s.list.length vc) := hM.bx.c 2
      rw [HL.out] at c2
      go_simp
      refine hK.out _ _ hH (fun _ => ?_)
      clear hK K1 c2
      refine wpAnyH_ready (rs := [15]) (by kernel_rfl) (by simp) ?_
      refine AllReadyH.cons rfl (fun K1 hK => ?_) AllReadyH.nil
      have gA := xga WD (.cells (evc (hrv p (tx x.path))).toArray 30) none
      have bA := Bx.new WD 30 (evc (hrv p (tx x.path)))
      simp only [hrv, EnV.val]
      go_simp
      replace hM := hM.kept gA
      replace hH := hM.eo.gr
      have hWX := hM.eo.gr.size
      clear gA
      change K1 _ (WD.alloc (.cells (evc (hrv p (tx x.path))).toArray 30))
      generalize WD.alloc (.cells (evc (hrv p (tx x.path))).toArray 30) = WB at *
      generalize WD.heap.size = gb at *
      refine hK.out _ _ hH (fun _ => ?_)
      clear hK K1
      refine wpAnyH_ready (rs := [16]) (by kernel_rfl) (by simp) ?_
      refine AllReadyH.cons rfl (fun K1 hK => ?_) AllReadyH.nil
      have hown := hM.eo.own
      rw [List.length_map, HL.out] at hown
      obtain ⟨v', W9, hrun, hown', hgrow, _, _⟩ := run_append_own_at (P := Tryz.prog) WB w.heap.size 22 22 30 ie _ 11 _ Tryz.underlying22 HIE.out.1 HIE.out.2.1 HIE.out.2.2.1 HIE.out.2.2.2 rfl (by decide) _ _ _ hown ⟨gb, 0, none⟩ 1 1 (evc (hrv p (tx x.path))) rfl (bx_news bA) (evc_one _) (by unfold maxLen; omega) (by omega) hWX
      have hMe := hM.eo
      have hMb := hM.bx
      rw [HL.out] at hMe hMb
      have hadd := wm_add (ns := ns) hMe hMb hM.gwl hM.gml hM.map (X := hrv p (tx x.path)) ⟨row_none0 w, Nat.le_refl _, ats_none w, Nat.le_refl _⟩ (by rw [List.length_map, HL.out]) hown' hgrow (addF s k p.toList) (by show (s.list ++ [_]).map _ = _; rw [List.map_append, HXX.out.2.2]; show _ ++ [hrv (tx p.toList) (tx x.path)] = _; rw [tx_of]) ⟨rfl, rfl⟩
      obtain ⟨g9, bx9, va', vc', rfl, hWm⟩ := hadd
      rw [if_pos (by rfl)]
      refine wp_append (u := .slice (some ⟨gb, 0, none⟩) 1 1) rfl rfl rfl hrun (hK.out _ _ g9 (fun _ => ?_))
      have hH := g9
      clear hK K1 hrun hgrow hown' hown bA hM hMe hMb g9
      simp only [Act.put, pu]
      refine tk (i := 17) (oi := ⟨some 72, _, _, _, _, _⟩) (v := .pointer (some ⟨gw, 0, none⟩)) rfl (Or.inl ⟨by rfl, fun w hSw => by go_simp⟩) hH ?_
      simp only [Act.put, pu]
      refine tk (i := 18) (oi := ⟨some 73, _, _, _, _, _⟩) (v := .pointer (some ⟨gw, 2, none⟩)) rfl (Or.inl ⟨by rfl, fun w hSw => by go_simp⟩) hH ?_
      simp only [Act.put, pu]
      refine wpAnyH_ready (rs := [19]) (by kernel_rfl) (by simp) ?_
      refine AllReadyH.cons rfl (fun K1 hK => ?_) AllReadyH.nil
      have c2 := bx9.c 2
      have f2 := bx9.f 2
      go_simp
      refine hK.out _ _ hWm.eo.gr (fun _ => ?_)
      clear hK K1 c2 f2
      refine wpAnyH_done (by kernel_rfl) ?_ _
      have HR : Hid _ := hWm
      clear hWm bx9 hH hcell
      go_wp2_with fail
      go_end0
      exact Or.inr ⟨_, va', vc', rfl, rfl, HR.out⟩
     ·skip
      have gA := xga WD (.cells (evc (hrv p (tx x.path))).toArray 30) none
      have bA := Bx.new WD 30 (evc (hrv p (tx x.path)))
      simp only [hrv, EnV.val]
      go_simp
      replace hM := hM.kept gA
      replace hH := hM.eo.gr
      have hWX := hM.eo.gr.size
      clear gA
      change K1 _ (WD.alloc (.cells (evc (hrv p (tx x.path))).toArray 30))
      generalize WD.alloc (.cells (evc (hrv p (tx x.path))).toArray 30) = WB at *
      generalize WD.heap.size = gb at *
      refine hK.out _ _ hH (fun _ => ?_)
      clear hK K1
      refine wpAnyH_ready (rs := [4]) (by kernel_rfl) (by simp) ?_
      refine AllReadyH.cons rfl (fun K1 hK => ?_) AllReadyH.nil
      have c2 : WB.cell? ⟨gw, 2, none⟩ = some (.slice (some ⟨g, 0, none⟩) s.list.length vc) := hM.bx.c 2
      rw [HL.out] at c2
      go_simp
      refine hK.out _ _ hH (fun _ => ?_)
      clear hK K1 c2
      refine wpAnyH_ready (rs := [16]) (by kernel_rfl) (by simp) ?_
      refine AllReadyH.cons rfl (fun K1 hK => ?_) AllReadyH.nil
      have hown := hM.eo.own
      rw [List.length_map, HL.out] at hown
      obtain ⟨v', W9, hrun, hown', hgrow, _, _⟩ := run_append_own_at (P := Tryz.prog) WB w.heap.size 22 22 30 ie _ 11 _ Tryz.underlying22 HIE.out.1 HIE.out.2.1 HIE.out.2.2.1 HIE.out.2.2.2 rfl (by decide) _ _ _ hown ⟨gb, 0, none⟩ 1 1 (evc (hrv p (tx x.path))) rfl (bx_news bA) (evc_one _) (by unfold maxLen; omega) (by omega) hWX
      have hMe := hM.eo
      have hMb := hM.bx
      rw [HL.out] at hMe hMb
      have hadd := wm_add (ns := ns) hMe hMb hM.gwl hM.gml hM.map (X := hrv p (tx x.path)) ⟨row_none0 w, Nat.le_refl _, ats_none w, Nat.le_refl _⟩ (by rw [List.length_map, HL.out]) hown' hgrow (addF s k p.toList) (by show (s.list ++ [_]).map _ = _; rw [List.map_append, HXX.out.2.2]; show _ ++ [hrv (tx p.toList) (tx x.path)] = _; rw [tx_of]) ⟨rfl, rfl⟩
      obtain ⟨g9, bx9, va', vc', rfl, hWm⟩ := hadd
      rw [if_pos (by rfl)]
      refine wp_append (u := .slice (some ⟨gb, 0, none⟩) 1 1) rfl rfl rfl hrun (hK.out _ _ g9 (fun _ => ?_))
      have hH := g9
      clear hK K1 hrun hgrow hown' hown bA hM hMe hMb g9
      simp only [Act.put, pu]
      refine tk (i := 17) (oi := ⟨some 72, _, _, _, _, _⟩) (v := .pointer (some ⟨gw, 0, none⟩)) rfl (Or.inl ⟨by rfl, fun w hSw => by go_simp⟩) hH ?_
      simp only [Act.put, pu]
      refine tk (i := 18) (oi := ⟨some 73, _, _, _, _, _⟩) (v := .pointer (some ⟨gw, 2, none⟩)) rfl (Or.inl ⟨by rfl, fun w hSw => by go_simp⟩) hH ?_
      simp only [Act.put, pu]
      refine wpAnyH_ready (rs := [19]) (by kernel_rfl) (by simp) ?_
      refine AllReadyH.cons rfl (fun K1 hK => ?_) AllReadyH.nil
      have c2 := bx9.c 2
      have f2 := bx9.f 2
      go_simp
      refine hK.out _ _ hWm.eo.gr (fun _ => ?_)
      clear hK K1 c2 f2
      refine wpAnyH_done (by kernel_rfl) ?_ _
      have HR : Hid _ := hWm
      clear hWm bx9 hH hcell
      go_wp2_with fail
      go_end0
      exact Or.inr ⟨_, va', vc', rfl, rfl, HR.out⟩
 | none =>
  rw [ha] at hlk1
  simp only [Option.map_none, Option.getD_none, Option.isSome_none] at hlk1
  obtain ⟨R, hR⟩ : ∃ R, R = (if NK = 2 then kidsP (meetP (nos ns) f) (ahd p.toList) kids (addN s j p.toList) else some (addN s j p.toList)) := ⟨_, rfl⟩
  simp only
  rw [← hR]
  have HRR : Hid _ := hR
  clear hR
  go_enter Tryz.func80, Tryz.ntmps80
  go_wp2_with fail
  have gD := xgt HB.out.1 (drewG0 (W.alloc (.cells #[.int .i64 NK, .int .i64 mo, .int .i64 uid, .int .i64 gid, .int .i64 ti, .int .i64 sz_, .slice da dl dc, .string tg, .int .i64 dev, .slice aa al ac, .slice ka kl kc, .int .i64 pa, .int .i64 lk] 43)))
  have hM := HW.out.1.kept gD
  have bN := HB.out.2.kept (drewG0 (W.alloc (.cells #[.int .i64 NK, .int .i64 mo, .int .i64 uid, .int .i64 gid, .int .i64 ti, .int .i64 sz_, .slice da dl dc, .string tg, .int .i64 dev, .slice aa al ac, .slice ka kl kc, .int .i64 pa, .int .i64 lk] 43)))
  have hmet := HW.out.2.1.fewer HJ.out.2.2.2.1 ha
  have hml : s.met.length < maxLen := by have := HN.out.1.le; omega
  have hkl := key3.key HJ.out.2.2.2.2
  have hgN : gw < W.heap.size ∧ gm < W.heap.size := ⟨HW.out.1.bx.lt, HW.out.1.map.lt⟩
  have hMb := hM.bx
  rw [HL.out] at hMb
  clear y0 y1 y2 y3 y4 y5 y6 y7 y8 y9 y10 y11 y12 z0 z1 z2 c0 hlk1 x0 x1 x2 gD
  refine wp_region_held_drew (S := fun w' => Bx w' gw 132 [.slice (some ⟨b, off, none⟩) n nc, .map (some gm), .slice va L vc]) (by kernel_rfl) hMb (fun hH => ?_)
  clear HB
  generalize (W.alloc (.cells #[.int .i64 NK, .int .i64 mo, .int .i64 uid, .int .i64 gid, .int .i64 ti, .int .i64 sz_, .slice da dl dc, .string tg, .int .i64 dev, .slice aa al ac, .slice ka kl kc, .int .i64 pa, .int .i64 lk] 43)).drew = WD at *
  generalize W.heap.size = gN at *
  refine tk (i := 0) (oi := ⟨some 74, _, _, _, _, _⟩) (v := .pointer (some ⟨gw, 0, none⟩)) rfl (Or.inl ⟨by rfl, fun w hSw => by go_simp⟩) hH ?_
  simp only [Act.put, pu]
  refine tk (i := 1) (oi := ⟨some 75, _, _, _, _, _⟩) (v := .pointer (some ⟨gw, 0, none⟩)) rfl (Or.inl ⟨by rfl, fun w hSw => by go_simp⟩) hH ?_
  simp only [Act.put, pu]
  refine tk (i := 2) (oi := ⟨some 76, _, _, _, _, _⟩) (v := .pointer (some ⟨gw, 1, none⟩)) rfl (Or.inl ⟨by rfl, fun w hSw => by go_simp⟩) hH ?_
  simp only [Act.put, pu]
  refine tk (i := 3) (oi := ⟨some 77, _, _, _, _, _⟩) (v := .map (some gm)) rfl (Or.inl ⟨by rfl, fun w hSw => by have c1 := hSw.c 1; go_simp⟩) hH ?_
  simp only [Act.put, pu]
  refine tk (i := 4) (oi := ⟨some 78, _, _, _, _, _⟩) (v := .int .i64 (j : Int)) rfl (Or.inl ⟨by rfl, fun w hSw => by go_simp⟩) hH ?_
  simp only [Act.put, pu]
  refine tk (i := 5) (oi := ⟨some 79, _, _, _, _, _⟩) (v := .pointer (some ⟨gw, 0, none⟩)) rfl (Or.inl ⟨by rfl, fun w hSw => by go_simp⟩) hH ?_
  simp only [Act.put, pu]
  refine tk (i := 6) (oi := ⟨some 80, _, _, _, _, _⟩) (v := .pointer (some ⟨gw, 0, none⟩)) rfl (Or.inl ⟨by rfl, fun w hSw => by go_simp⟩) hH ?_
  simp only [Act.put, pu]
  refine tk (i := 7) (oi := ⟨some 81, _, _, _, _, _⟩) (v := .pointer (some ⟨gw, 2, none⟩)) rfl (Or.inl ⟨by rfl, fun w hSw => by go_simp⟩) hH ?_
  simp only [Act.put, pu]
  refine tk (i := 8) (oi := ⟨some 82, _, _, _, _, _⟩) (v := .slice va L vc) rfl (Or.inl ⟨by rfl, fun w hSw => by have c2 := hSw.c 2; go_simp⟩) hH ?_
  simp only [Act.put, pu]
  refine tk (i := 9) (oi := ⟨some 83, _, _, _, _, _⟩) (v := .int .i64 (L : Int)) rfl (Or.inl ⟨by rfl, fun w hSw => by go_simp⟩) hH ?_
  simp only [Act.put, pu]
  refine wpAnyH_ready (rs := [10]) (by kernel_rfl) (by simp) ?_
  refine AllReadyH.cons rfl (fun K1 hK => ?_) AllReadyH.nil
  obtain ⟨W2, hrun, hmp, hgr⟩ := hM.map.store (t := 130) (e := 3) (val := .int .i64 (L : Int)) key3 Tryz.underlying130 hml HJ.out.2.2.2.2 hkl
  rw [← HL.out] at hmp
  obtain ⟨eo2, bx2, map2⟩ := hM.met (p := p.toList) hkl hmp hgr
  have bN2 := bN.but hgr (by intro c; injection c with c; have := hgN.2; omega)
  rw [HL.out] at eo2 bx2
  have hgwl := xai hM.gwl hM.gml
  rw [if_pos (by rfl)]
  refine wp_mapUpd (um := .map (some gm)) (ux := .int .i64 (j : Int)) (uv := .int .i64 (L : Int)) rfl rfl rfl rfl hrun (hK.out _ _ bx2 (fun _ => ?_))
  clear hK K1 hrun hmp hgr hM hMb bN hH
  refine wpAnyH_done (by kernel_rfl) ?_ _
  have HE2 : Hid _ := xai eo2 (xai bx2 (xai map2 (xai bN2 hgwl)))
  clear eo2 bx2 map2 bN2 hgwl
  go_wp2_with fail
  obtain ⟨eo, bx, mp, bN, hgwl⟩ := HE2.out
  clear HE2
  replace eo := eo.kept (drewG0 W2)
  replace bx := bx.kept (drewG0 W2)
  replace mp := mp.kept (drewG0 W2) (by simp)
  replace bN := bN.kept (drewG0 W2)
  have hent := fun W => pentry_any ⟨NK, mo, uid, gid, ti, sz_, da, dl, dc, data, tg, dev, aa, al, ac, attrs, ka, kl, kc, kids, pa, lk⟩ p W
  simp only [NoV.val, NoV.ent, EnV.val] at hent
  obtain ⟨X, hX⟩ : ∃ X : EnV, X = ⟨p, NK, mo, uid, gid, ti, sz_, da, dl, dc, data, tg, dev, aa, al, ac, attrs⟩ := ⟨_, rfl⟩
  have hXv : EnV.val ⟨p, NK, mo, uid, gid, ti, sz_, da, dl, dc, data, tg, dev, aa, al, ac, attrs⟩ = X.val := by rw [hX]
  have hXc : evc X = [.string p, .int .i64 NK, .int .i64 mo, .int .i64 uid, .int .i64 gid, .int .i64 ti, .int .i64 sz_, .slice da dl dc, .string tg, .int .i64 dev, .slice aa al ac] := by rw [hX]; rfl
  have hXe : evL ns ⟨p.toList, .inl j⟩ = X := by
   show ((ns[j]?).getD nz).ent (tx p.toList) = X
   rw [HJ.out.1, tx_of, hX]
   rfl
  have hXo : X.ok w := by rw [← hXe]; exact evL_ok HN.out.1 HN.out.2.1 _
  have HXX : Hid _ := xai hXe (xai hXo hXc)
  obtain ⟨ie, hi, hz0, hz1, hz2⟩ := info_parts Tryz.infoE
  have HIE : Hid _ := xai hi (xai hz0 (xai hz1 hz2))
  clear hi hz0 hz1 hz2 hXe hXo hXc hX hXv
  refine wp_region_held_drew (S := fun w' => w.grownBy w' none ∧ Bx w' gN 43 [.int .i64 NK, .int .i64 mo, .int .i64 uid, .int .i64 gid, .int .i64 ti, .int .i64 sz_, .slice da dl dc, .string tg, .int .i64 dev, .slice aa al ac, .slice ka kl kc, .int .i64 pa, .int .i64 lk]) (by kernel_rfl) (xai eo.gr bN) (fun hH => ?_)
  generalize W2.drew = WD at *
  refine tk (i := 0) (oi := ⟨some 84, _, _, _, _, _⟩) (v := .pointer (some ⟨gw, 0, none⟩)) rfl (Or.inl ⟨by rfl, fun w hSw => by go_simp⟩) hH ?_
  simp only [Act.put, pu]
  refine tk (i := 1) (oi := ⟨some 85, _, _, _, _, _⟩) (v := .pointer (some ⟨gw, 0, none⟩)) rfl (Or.inl ⟨by rfl, fun w hSw => by go_simp⟩) hH ?_
  simp only [Act.put, pu]
  refine tk (i := 2) (oi := ⟨some 86, _, _, _, _, _⟩) (v := .pointer (some ⟨gw, 0, none⟩)) rfl (Or.inl ⟨by rfl, fun w hSw => by go_simp⟩) hH ?_
  simp only [Act.put, pu]
  refine tk (i := 3) (oi := ⟨some 87, _, _, _, _, _⟩) (v := .pointer (some ⟨gw, 2, none⟩)) rfl (Or.inl ⟨by rfl, fun w hSw => by go_simp⟩) hH ?_
  simp only [Act.put, pu]
  refine tk (i := 5) (oi := ⟨some 89, _, _, _, _, _⟩) (v := .agg #[.int .i64 NK, .int .i64 mo, .int .i64 uid, .int .i64 gid, .int .i64 ti, .int .i64 sz_, .slice da dl dc, .string tg, .int .i64 dev, .slice aa al ac, .slice ka kl kc, .int .i64 pa, .int .i64 lk]) rfl (Or.inl ⟨by rfl, fun w hSw => by obtain ⟨-, hB⟩ := hSw; have n0 := hB.c 0; have n1 := hB.c 1; have n2 := hB.c 2; have n3 := hB.c 3; have n4 := hB.c 4; have n5 := hB.c 5; have n6 := hB.c 6; have n7 := hB.c 7; have n8 := hB.c 8; have n9 := hB.c 9; have n10 := hB.c 10; have n11 := hB.c 11; have n12 := hB.c 12; go_simp⟩) hH ?_
  simp only [Act.put, pu]
  refine tk (i := 6) (oi := ⟨some 90, _, _, _, _, _⟩) (v := .string p) rfl (Or.inl ⟨by rfl, fun w hSw => by go_simp⟩) hH ?_
  simp only [Act.put, pu]
  refine wpAnyH_ready (rs := [4, 7]) (by kernel_rfl) (by simp) ?_
  refine AllReadyH.cons rfl (fun K1 hK => ?_) (AllReadyH.cons rfl (fun K1 hK => ?_) AllReadyH.nil)
  ·skip
   have c2 := bx.c 2
   go_simp
   refine hK.out _ _ hH (fun _ => ?_)
   clear hK K1 c2
   refine wpAnyH_ready (rs := [7]) (by kernel_rfl) (by simp) ?_
   refine AllReadyH.cons rfl (fun K1 hK => ?_) AllReadyH.nil
   go_simp
   go_wp2_with (go_at_call 108; refine (hent _).mono ?_; rintro e WE ⟨rfl, gE⟩)
   replace eo := eo.kept gE
   replace bx := bx.kept gE
   replace mp := mp.kept gE (by simp)
   replace hH := xai eo.gr (hH.2.kept gE)
   clear gE
   refine hK.out _ _ hH (fun _ => ?_)
   clear hK K1
   refine wpAnyH_ready (rs := [8]) (by kernel_rfl) (by simp) ?_
   refine AllReadyH.cons rfl (fun K1 hK => ?_) AllReadyH.nil
   have gA := xga WE (.cells #[.string p, .int .i64 NK, .int .i64 mo, .int .i64 uid, .int .i64 gid, .int .i64 ti, .int .i64 sz_, .slice da dl dc, .string tg, .int .i64 dev, .slice aa al ac] 30) none
   have bA := Bx.new WE 30 [.string p, .int .i64 NK, .int .i64 mo, .int .i64 uid, .int .i64 gid, .int .i64 ti, .int .i64 sz_, .slice da dl dc, .string tg, .int .i64 dev, .slice aa al ac]
   go_simp
   replace eo := eo.kept gA
   replace bx := bx.kept gA
   replace mp := mp.kept gA (by simp)
   replace hH := xai eo.gr (hH.2.kept gA)
   have hWX := eo.gr.size
   clear gA
   generalize WE.alloc (.cells #[.string p, .int .i64 NK, .int .i64 mo, .int .i64 uid, .int .i64 gid, .int .i64 ti, .int .i64 sz_, .slice da dl dc, .string tg, .int .i64 dev, .slice aa al ac] 30) = WB at *
   generalize WE.heap.size = gb at *
   rw [← HXX.out.2.2] at bA
   refine hK.out _ _ hH (fun _ => ?_)
   clear hK K1
   refine wpAnyH_ready (rs := [9]) (by kernel_rfl) (by simp) ?_
   refine AllReadyH.cons rfl (fun K1 hK => ?_) AllReadyH.nil
   have hown := eo.own
   rw [List.length_map, HL.out] at hown
   obtain ⟨v', W9, hrun, hown', hgrow, _, _⟩ := run_append_own_at (P := Tryz.prog) WB w.heap.size 22 22 30 ie _ 11 _ Tryz.underlying22 HIE.out.1 HIE.out.2.1 HIE.out.2.2.1 HIE.out.2.2.2 rfl (by decide) _ _ _ hown ⟨gb, 0, none⟩ 1 1 (evc X) (evc_len X) (bx_news bA) (evc_one _) (by unfold maxLen; omega) (by omega) hWX
   have hadd := wm_add (ns := ns) eo bx hgwl.1 hgwl.2 mp (X := X) HXX.out.2.1 (by rw [List.length_map, HL.out]) hown' hgrow (addN s j p.toList) (by show (s.list ++ [_]).map _ = _; rw [List.map_append]; show _ ++ [evL ns ⟨p.toList, .inl j⟩] = _; rw [HXX.out.1]) ⟨rfl, rfl⟩
   obtain ⟨g9, bx9, va', vc', rfl, hWm⟩ := hadd
   have bN9 := hH.2.but hgrow (bx_ne hH.2 eo.own (by decide))
   rw [if_pos (by rfl)]
   refine wp_append (u := .slice (some ⟨gb, 0, none⟩) 1 1) rfl rfl rfl hrun (hK.out _ _ (xai g9 bN9) (fun _ => ?_))
   replace hH := xai g9 bN9
   clear hK K1 hrun hgrow hown' hown bA eo bx mp g9 bN9
   simp only [Act.put, pu]
   refine tk (i := 10) (oi := ⟨some 94, _, _, _, _, _⟩) (v := .pointer (some ⟨gw, 0, none⟩)) rfl (Or.inl ⟨by rfl, fun w hSw => by go_simp⟩) hH ?_
   simp only [Act.put, pu]
   refine tk (i := 11) (oi := ⟨some 95, _, _, _, _, _⟩) (v := .pointer (some ⟨gw, 2, none⟩)) rfl (Or.inl ⟨by rfl, fun w hSw => by go_simp⟩) hH ?_
   simp only [Act.put, pu]
   refine wpAnyH_ready (rs := [12]) (by kernel_rfl) (by simp) ?_
   refine AllReadyH.cons rfl (fun K1 hK => ?_) AllReadyH.nil
   have c2 := bx9.c 2
   have f2 := bx9.f 2
   have bN10 := hH.2.but (grown_set _ gw 2 (.slice va' (L + 1) vc')) (by intro c; injection c with c; have := hgN.1; omega)
   go_simp
   refine hK.out _ _ (xai hWm.eo.gr bN10) (fun _ => ?_)
   clear hK K1 c2 f2
   refine wpAnyH_done (by kernel_rfl) ?_ _
   have HR : Hid _ := xai hWm bN10
   clear hWm bx9 hH bN10 hent
   have n0 := HR.out.2.c 0
   by_cases hk2 : NK = 2
   ·subst hk2
    have hRv := HRR.out
    rw [if_pos rfl] at hRv
    have HB2 := HR.out.2
    have n1 := HB2.c 1
    have n2 := HB2.c 2
    have n3 := HB2.c 3
    have n4 := HB2.c 4
    have n5 := HB2.c 5
    have n6 := HB2.c 6
    have n7 := HB2.c 7
    have n8 := HB2.c 8
    have n9 := HB2.c 9
    have n10 := HB2.c 10
    have n11 := HB2.c 11
    have n12 := HB2.c 12
    have hokN := HW.out.2.1.addN (p := p.toList) HJ.out.2.2.2.1 HJ.out.2.2.1 (by rw [HL.out]; omega) ha
    have hen := penter_any w gw gm (some ⟨b, off, none⟩) n nc ns f HN.out.2.2 HNL.out.1 ⟨2, mo, uid, gid, ti, sz_, da, dl, dc, data, tg, dev, aa, al, ac, attrs, ka, kl, kc, kids, pa, lk⟩ (HKD.out) (HN.out.2.1 _ HJ.out.2.1) (addN s j p.toList) p _ va' vc' HR.out.1 hokN (by omega) (by show n - (s.met.length + 1) < f; have := HW.out.2.2; omega)
    simp only at hen
    rw [← hRv] at hen
    simp only [NoV.val] at hen
    clear HB2 hRv
    go_wp2_with fail
    refine hen.mono ?_
    rintro e W5 (⟨hn, rfl, hg⟩ | ⟨s3, va3, vc3, hs3, rfl, hm3⟩)
    ·go_wp2_with fail
     exact ⟨rfl, Or.inl ⟨rfl, rfl, hg⟩⟩
    ·have HM3 : Hid _ := hm3
     clear hm3
     go_wp2_with fail
     go_end0
     exact Or.inr ⟨s3, va3, vc3, hs3, rfl, HM3.out⟩
   ·have hkb : (NK == 2) = false := by rw [beq_eq_false_iff_ne]; exact hk2
    have hRv := HRR.out
    rw [if_neg hk2] at hRv
    have HRV : Hid _ := hRv
    clear hRv
    go_wp2_with fail
    go_end0
    exact Or.inr ⟨_, va', vc', HRV.out, rfl, HR.out.1⟩
  ·skip
   go_simp
   go_wp2_with (go_at_call 108; refine (hent _).mono ?_; rintro e WE ⟨rfl, gE⟩)
   replace eo := eo.kept gE
   replace bx := bx.kept gE
   replace mp := mp.kept gE (by simp)
   replace hH := xai eo.gr (hH.2.kept gE)
   clear gE
   refine hK.out _ _ hH (fun _ => ?_)
   clear hK K1
   refine wpAnyH_ready (rs := [4, 8]) (by kernel_rfl) (by simp) ?_
   refine AllReadyH.cons rfl (fun K1 hK => ?_) (AllReadyH.cons rfl (fun K1 hK => ?_) AllReadyH.nil)
   ·skip
    have c2 := bx.c 2
    go_simp
    refine hK.out _ _ hH (fun _ => ?_)
    clear hK K1 c2
    refine wpAnyH_ready (rs := [8]) (by kernel_rfl) (by simp) ?_
    refine AllReadyH.cons rfl (fun K1 hK => ?_) AllReadyH.nil
    have gA := xga WE (.cells #[.string p, .int .i64 NK, .int .i64 mo, .int .i64 uid, .int .i64 gid, .int .i64 ti, .int .i64 sz_, .slice da dl dc, .string tg, .int .i64 dev, .slice aa al ac] 30) none
    have bA := Bx.new WE 30 [.string p, .int .i64 NK, .int .i64 mo, .int .i64 uid, .int .i64 gid, .int .i64 ti, .int .i64 sz_, .slice da dl dc, .string tg, .int .i64 dev, .slice aa al ac]
    go_simp
    replace eo := eo.kept gA
    replace bx := bx.kept gA
    replace mp := mp.kept gA (by simp)
    replace hH := xai eo.gr (hH.2.kept gA)
    have hWX := eo.gr.size
    clear gA
    generalize WE.alloc (.cells #[.string p, .int .i64 NK, .int .i64 mo, .int .i64 uid, .int .i64 gid, .int .i64 ti, .int .i64 sz_, .slice da dl dc, .string tg, .int .i64 dev, .slice aa al ac] 30) = WB at *
    generalize WE.heap.size = gb at *
    rw [← HXX.out.2.2] at bA
    refine hK.out _ _ hH (fun _ => ?_)
    clear hK K1
    refine wpAnyH_ready (rs := [9]) (by kernel_rfl) (by simp) ?_
    refine AllReadyH.cons rfl (fun K1 hK => ?_) AllReadyH.nil
    have hown := eo.own
    rw [List.length_map, HL.out] at hown
    obtain ⟨v', W9, hrun, hown', hgrow, _, _⟩ := run_append_own_at (P := Tryz.prog) WB w.heap.size 22 22 30 ie _ 11 _ Tryz.underlying22 HIE.out.1 HIE.out.2.1 HIE.out.2.2.1 HIE.out.2.2.2 rfl (by decide) _ _ _ hown ⟨gb, 0, none⟩ 1 1 (evc X) (evc_len X) (bx_news bA) (evc_one _) (by unfold maxLen; omega) (by omega) hWX
    have hadd := wm_add (ns := ns) eo bx hgwl.1 hgwl.2 mp (X := X) HXX.out.2.1 (by rw [List.length_map, HL.out]) hown' hgrow (addN s j p.toList) (by show (s.list ++ [_]).map _ = _; rw [List.map_append]; show _ ++ [evL ns ⟨p.toList, .inl j⟩] = _; rw [HXX.out.1]) ⟨rfl, rfl⟩
    obtain ⟨g9, bx9, va', vc', rfl, hWm⟩ := hadd
    have bN9 := hH.2.but hgrow (bx_ne hH.2 eo.own (by decide))
    rw [if_pos (by rfl)]
    refine wp_append (u := .slice (some ⟨gb, 0, none⟩) 1 1) rfl rfl rfl hrun (hK.out _ _ (xai g9 bN9) (fun _ => ?_))
    replace hH := xai g9 bN9
    clear hK K1 hrun hgrow hown' hown bA eo bx mp g9 bN9
    simp only [Act.put, pu]
    refine tk (i := 10) (oi := ⟨some 94, _, _, _, _, _⟩) (v := .pointer (some ⟨gw, 0, none⟩)) rfl (Or.inl ⟨by rfl, fun w hSw => by go_simp⟩) hH ?_
    simp only [Act.put, pu]
    refine tk (i := 11) (oi := ⟨some 95, _, _, _, _, _⟩) (v := .pointer (some ⟨gw, 2, none⟩)) rfl (Or.inl ⟨by rfl, fun w hSw => by go_simp⟩) hH ?_
    simp only [Act.put, pu]
    refine wpAnyH_ready (rs := [12]) (by kernel_rfl) (by simp) ?_
    refine AllReadyH.cons rfl (fun K1 hK => ?_) AllReadyH.nil
    have c2 := bx9.c 2
    have f2 := bx9.f 2
    have bN10 := hH.2.but (grown_set _ gw 2 (.slice va' (L + 1) vc')) (by intro c; injection c with c; have := hgN.1; omega)
    go_simp
    refine hK.out _ _ (xai hWm.eo.gr bN10) (fun _ => ?_)
    clear hK K1 c2 f2
    refine wpAnyH_done (by kernel_rfl) ?_ _
    have HR : Hid _ := xai hWm bN10
    clear hWm bx9 hH bN10 hent
    have n0 := HR.out.2.c 0
    by_cases hk2 : NK = 2
    ·subst hk2
     have hRv := HRR.out
     rw [if_pos rfl] at hRv
     have HB2 := HR.out.2
     have n1 := HB2.c 1
     have n2 := HB2.c 2
     have n3 := HB2.c 3
     have n4 := HB2.c 4
     have n5 := HB2.c 5
     have n6 := HB2.c 6
     have n7 := HB2.c 7
     have n8 := HB2.c 8
     have n9 := HB2.c 9
     have n10 := HB2.c 10
     have n11 := HB2.c 11
     have n12 := HB2.c 12
     have hokN := HW.out.2.1.addN (p := p.toList) HJ.out.2.2.2.1 HJ.out.2.2.1 (by rw [HL.out]; omega) ha
     have hen := penter_any w gw gm (some ⟨b, off, none⟩) n nc ns f HN.out.2.2 HNL.out.1 ⟨2, mo, uid, gid, ti, sz_, da, dl, dc, data, tg, dev, aa, al, ac, attrs, ka, kl, kc, kids, pa, lk⟩ (HKD.out) (HN.out.2.1 _ HJ.out.2.1) (addN s j p.toList) p _ va' vc' HR.out.1 hokN (by omega) (by show n - (s.met.length + 1) < f; have := HW.out.2.2; omega)
     simp only at hen
     rw [← hRv] at hen
     simp only [NoV.val] at hen
     clear HB2 hRv
     go_wp2_with fail
     refine hen.mono ?_
     rintro e W5 (⟨hn, rfl, hg⟩ | ⟨s3, va3, vc3, hs3, rfl, hm3⟩)
     ·go_wp2_with fail
      exact ⟨rfl, Or.inl ⟨rfl, rfl, hg⟩⟩
     ·have HM3 : Hid _ := hm3
      clear hm3
      go_wp2_with fail
      go_end0
      exact Or.inr ⟨s3, va3, vc3, hs3, rfl, HM3.out⟩
    ·have hkb : (NK == 2) = false := by rw [beq_eq_false_iff_ne]; exact hk2
     have hRv := HRR.out
     rw [if_neg hk2] at hRv
     have HRV : Hid _ := hRv
     clear hRv
     go_wp2_with fail
     go_end0
     exact Or.inr ⟨_, va', vc', HRV.out, rfl, HR.out.1⟩
   ·skip
    have gA := xga WE (.cells #[.string p, .int .i64 NK, .int .i64 mo, .int .i64 uid, .int .i64 gid, .int .i64 ti, .int .i64 sz_, .slice da dl dc, .string tg, .int .i64 dev, .slice aa al ac] 30) none
    have bA := Bx.new WE 30 [.string p, .int .i64 NK, .int .i64 mo, .int .i64 uid, .int .i64 gid, .int .i64 ti, .int .i64 sz_, .slice da dl dc, .string tg, .int .i64 dev, .slice aa al ac]
    go_simp
    replace eo := eo.kept gA
    replace bx := bx.kept gA
    replace mp := mp.kept gA (by simp)
    replace hH := xai eo.gr (hH.2.kept gA)
    have hWX := eo.gr.size
    clear gA
    generalize WE.alloc (.cells #[.string p, .int .i64 NK, .int .i64 mo, .int .i64 uid, .int .i64 gid, .int .i64 ti, .int .i64 sz_, .slice da dl dc, .string tg, .int .i64 dev, .slice aa al ac] 30) = WB at *
    generalize WE.heap.size = gb at *
    rw [← HXX.out.2.2] at bA
    refine hK.out _ _ hH (fun _ => ?_)
    clear hK K1
    refine wpAnyH_ready (rs := [4]) (by kernel_rfl) (by simp) ?_
    refine AllReadyH.cons rfl (fun K1 hK => ?_) AllReadyH.nil
    have c2 := bx.c 2
    go_simp
    refine hK.out _ _ hH (fun _ => ?_)
    clear hK K1 c2
    refine wpAnyH_ready (rs := [9]) (by kernel_rfl) (by simp) ?_
    refine AllReadyH.cons rfl (fun K1 hK => ?_) AllReadyH.nil
    have hown := eo.own
    rw [List.length_map, HL.out] at hown
    obtain ⟨v', W9, hrun, hown', hgrow, _, _⟩ := run_append_own_at (P := Tryz.prog) WB w.heap.size 22 22 30 ie _ 11 _ Tryz.underlying22 HIE.out.1 HIE.out.2.1 HIE.out.2.2.1 HIE.out.2.2.2 rfl (by decide) _ _ _ hown ⟨gb, 0, none⟩ 1 1 (evc X) (evc_len X) (bx_news bA) (evc_one _) (by unfold maxLen; omega) (by omega) hWX
    have hadd := wm_add (ns := ns) eo bx hgwl.1 hgwl.2 mp (X := X) HXX.out.2.1 (by rw [List.length_map, HL.out]) hown' hgrow (addN s j p.toList) (by show (s.list ++ [_]).map _ = _; rw [List.map_append]; show _ ++ [evL ns ⟨p.toList, .inl j⟩] = _; rw [HXX.out.1]) ⟨rfl, rfl⟩
    obtain ⟨g9, bx9, va', vc', rfl, hWm⟩ := hadd
    have bN9 := hH.2.but hgrow (bx_ne hH.2 eo.own (by decide))
    rw [if_pos (by rfl)]
    refine wp_append (u := .slice (some ⟨gb, 0, none⟩) 1 1) rfl rfl rfl hrun (hK.out _ _ (xai g9 bN9) (fun _ => ?_))
    replace hH := xai g9 bN9
    clear hK K1 hrun hgrow hown' hown bA eo bx mp g9 bN9
    simp only [Act.put, pu]
    refine tk (i := 10) (oi := ⟨some 94, _, _, _, _, _⟩) (v := .pointer (some ⟨gw, 0, none⟩)) rfl (Or.inl ⟨by rfl, fun w hSw => by go_simp⟩) hH ?_
    simp only [Act.put, pu]
    refine tk (i := 11) (oi := ⟨some 95, _, _, _, _, _⟩) (v := .pointer (some ⟨gw, 2, none⟩)) rfl (Or.inl ⟨by rfl, fun w hSw => by go_simp⟩) hH ?_
    simp only [Act.put, pu]
    refine wpAnyH_ready (rs := [12]) (by kernel_rfl) (by simp) ?_
    refine AllReadyH.cons rfl (fun K1 hK => ?_) AllReadyH.nil
    have c2 := bx9.c 2
    have f2 := bx9.f 2
    have bN10 := hH.2.but (grown_set _ gw 2 (.slice va' (L + 1) vc')) (by intro c; injection c with c; have := hgN.1; omega)
    go_simp
    refine hK.out _ _ (xai hWm.eo.gr bN10) (fun _ => ?_)
    clear hK K1 c2 f2
    refine wpAnyH_done (by kernel_rfl) ?_ _
    have HR : Hid _ := xai hWm bN10
    clear hWm bx9 hH bN10 hent
    have n0 := HR.out.2.c 0
    by_cases hk2 : NK = 2
    ·subst hk2
     have hRv := HRR.out
     rw [if_pos rfl] at hRv
     have HB2 := HR.out.2
     have n1 := HB2.c 1
     have n2 := HB2.c 2
     have n3 := HB2.c 3
     have n4 := HB2.c 4
     have n5 := HB2.c 5
     have n6 := HB2.c 6
     have n7 := HB2.c 7
     have n8 := HB2.c 8
     have n9 := HB2.c 9
     have n10 := HB2.c 10
     have n11 := HB2.c 11
     have n12 := HB2.c 12
     have hokN := HW.out.2.1.addN (p := p.toList) HJ.out.2.2.2.1 HJ.out.2.2.1 (by rw [HL.out]; omega) ha
     have hen := penter_any w gw gm (some ⟨b, off, none⟩) n nc ns f HN.out.2.2 HNL.out.1 ⟨2, mo, uid, gid, ti, sz_, da, dl, dc, data, tg, dev, aa, al, ac, attrs, ka, kl, kc, kids, pa, lk⟩ (HKD.out) (HN.out.2.1 _ HJ.out.2.1) (addN s j p.toList) p _ va' vc' HR.out.1 hokN (by omega) (by show n - (s.met.length + 1) < f; have := HW.out.2.2; omega)
     simp only at hen
     rw [← hRv] at hen
     simp only [NoV.val] at hen
     clear HB2 hRv
     go_wp2_with fail
     refine hen.mono ?_
     rintro e W5 (⟨hn, rfl, hg⟩ | ⟨s3, va3, vc3, hs3, rfl, hm3⟩)
     ·go_wp2_with fail
      exact ⟨rfl, Or.inl ⟨rfl, rfl, hg⟩⟩
     ·have HM3 : Hid _ := hm3
      clear hm3
      go_wp2_with fail
      go_end0
      exact Or.inr ⟨s3, va3, vc3, hs3, rfl, HM3.out⟩
    ·have hkb : (NK == 2) = false := by rw [beq_eq_false_iff_ne]; exact hk2
     have hRv := HRR.out
     rw [if_neg hk2] at hRv
     have HRV : Hid _ := hRv
     clear hRv
     go_wp2_with fail
     go_end0
     exact Or.inr ⟨_, va', vc', HRV.out, rfl, HR.out.1⟩
theorem pmeet_any (w : World) (gw gm : Nat) (na : Option Addr) (n nc : Nat) (ns : List NoV) (hN : Nos w na n ns) (hc : ∀ N ∈ ns, Ncp N) : ∀ f, MeetC w gw gm na n nc ns f
 | 0 => fun s i p W va vc h hok hp hf => by omega
 | f + 1 => pmeet_step w gw gm na n nc ns hN hc f (pmeet_any w gw gm na n nc ns hN hc f)
end Go.Proofs.YtlehncfehoelbaaGreatDoor
