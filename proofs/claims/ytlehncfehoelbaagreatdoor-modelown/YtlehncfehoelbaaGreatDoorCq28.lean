/- The program's tree: List. -/
import Derived.Test.YtlehncfehoelbaaGreatDoorCq07
import Derived.Test.YtlehncfehoelbaaGreatDoorCq08
import Derived.Test.YtlehncfehoelbaaGreatDoorCq14
import Derived.Test.YtlehncfehoelbaaGreatDoorCq15
import Derived.Test.YtlehncfehoelbaaGreatDoorCq27
namespace Go.Proofs.YtlehncfehoelbaaGreatDoor
open Go.RowKit
set_option maxRecDepth 100000
set_option linter.unusedSimpArgs false
set_option linter.unusedVariables false
structure Xn (W : World) (base : Nat) (X : EnV) : Prop where
 row : OwnB W base X.da X.dl X.dc X.data
 ar : Ar W base (.slice X.aa X.al X.ac) X.attrs
 len : X.al = X.attrs.length
theorem Xn.kept {W W' : World} {base : Nat} {X : EnV} (h : Xn W base X) (g : W.grownBy W' none) : Xn W' base X := ⟨h.row.kept g, h.ar.kept g, h.len⟩
theorem Xn.other {W W' : World} {base b e s n : Nat} {X : EnV} {u : Value} {ys : List Value} (h : Xn W base X) (ho : W.ownsRow b e s u n ys) (h1 : 45 ≠ e) (h2 : 5 ≠ e) (g : W.grownBy W' u.ownBlock) : Xn W' base X := ⟨h.row.other ho h2 g, h.ar.other ho h1 h2 g, h.len⟩
theorem Xn.ok {W : World} {base : Nat} {X : EnV} (h : Xn W base X) : X.ok W := by
 have ho := h.ar.own
 rw [← h.len] at ho
 obtain ⟨a, c, e, hats, hcc, -⟩ := own_ats ho h.len (fun A hA => ⟨(h.ar.rows A hA).row, (h.ar.rows A hA).cap⟩)
 injection e with e1 e2 e3
 subst e1
 exact ⟨h.row.row, h.row.cap, hats, by rw [e3]; exact hcc⟩
structure Lw (w W : World) (g c n : Nat) (L : List EnV) : Prop where
 gr : w.grownBy W none
 own : W.ownsRow w.heap.size 30 11 (.slice (some ⟨g, 0, none⟩) n c) n (L.flatMap evc)
theorem Lw.kept {w W W' : World} {g c n : Nat} {L : List EnV} (h : Lw w W g c n L) (k : W.grownBy W' none) : Lw w W' g c n L := ⟨xgt h.gr k, owns_kept11 h.own k⟩
theorem Lw.cell {w W : World} {g c n : Nat} {L : List EnV} (h : Lw w W g c n L) (hn : L.length = n) {i f : Nat} {X : EnV} (hX : L[i]? = some X) (hf : f < 11) : W.cell? ⟨g, i * 11 + f, none⟩ = (evc X)[f]? := by
 have hi : i < L.length := (List.getElem?_eq_some_iff.1 hX).1
 rw [h.own.cellAt (i * 11 + f) (by omega), flat_at evc 11 evc_len L i f X hX hf]
theorem Lw.set {w W : World} {g c n : Nat} {L : List EnV} (h : Lw w W g c n L) (hn : L.length = n) {i f : Nat} {X X' : EnV} {u : Value} (hX : L[i]? = some X) (hf : f < 11) (e : evc X' = (evc X).set f u) :
  Lw w (W.setCell ⟨g, i * 11 + f, none⟩ u) g c n (L.set i X') ∧ W.grownBy (W.setCell ⟨g, i * 11 + f, none⟩ u) (some g) := by
 obtain ⟨h1, h2⟩ := h.own.stored (i * 11 + f) u
 rw [flat_set evc 11 evc_len u L i f X X' hX hf e] at h1
 exact ⟨⟨grown_ownB h.gr h.own h2 (Nat.le_refl _), h1⟩, h2⟩
theorem set_id {L : List EnV} {i : Nat} {X : EnV} (h : L[i]? = some X) : L.set i X = L := by
 apply List.ext_getElem?
 intro j
 rw [List.getElem?_set]
 by_cases e : i = j
 ·subst e
  rw [if_pos rfl, if_pos (List.getElem?_eq_some_iff.1 h).1, h]
 ·rw [if_neg e]
theorem app_at {new old : List EnV} {i : Nat} (hl : new.length = i) {X : EnV} (h : old[i]? = some X) : (new ++ old.drop i)[i]? = some X := by
 rw [List.getElem?_append_right (by omega), hl, Nat.sub_self, List.getElem?_drop]
 simpa using h
theorem app_set {new old : List EnV} {i : Nat} (hl : new.length = i) {X X' : EnV} (h : old[i]? = some X) : (new ++ old.drop i).set i X' = (new ++ [X']) ++ old.drop (i + 1) := by
 have hi := (List.getElem?_eq_some_iff.1 h).1
 rw [List.set_append_right _ _ (by omega), hl, Nat.sub_self, List.drop_eq_getElem_cons hi, List.append_assoc]
 rfl
structure Xs (X : EnV) : Prop where
 p : X.path.size ≤ 1000000
 t : X.target.size ≤ 1000000
 d : X.dl ≤ 16777216
 a : X.al ≤ 100000
 e : ∀ A ∈ X.attrs, A.n.size ≤ 1000000 ∧ A.len ≤ 16777216
def LiPost (w : World) (ns : List NoV) (e : Ending) (w' : World) : Prop :=
 (e = .returned (.tuple #[.slice none 0 0, .int .i64 1]) ∧ w.grownBy w' none ∧ ∀ s, ¬ Tells (nos ns) s) ∨
 ∃ s g vc n l, Tells (nos ns) s ∧ e = .returned (.tuple #[.slice (some ⟨g, 0, none⟩) n vc, .int .i64 0]) ∧ Lw w w' g vc n l ∧ l.length = n ∧ n = s.list.length ∧ (∀ X ∈ l, Xn w' w.heap.size X) ∧ ens l = s.list.map (enL (nos ns))
theorem le_nos {ns : List NoV} {s : Wk} (hN : ∃ w a n, Nos w a n ns) (h : Tells (nos ns) s) (hp : ∀ x ∈ s.list, x.path.length ≤ 4096) (hq : ∀ x ∈ s.list, ∀ q, x.src = .inr q → q.length ≤ 4096) : ∀ X ∈ s.list.map (evL ns), Xs X := by
 obtain ⟨w, a, n, hN⟩ := hN
 obtain ⟨c1, c2, ok⟩ := chk_ok.1 h.2.1
 have hsm := canon_sm ok c2
 rw [h.2.2] at hsm
 intro X hX
 obtain ⟨x, hx, rfl⟩ := List.mem_map.1 hX
 have hpx := hp x hx
 refine ⟨by rw [evL_path, tx_size]; omega, ?_, ?_, ?_, ?_⟩
 all_goals
  unfold evL
  cases hs : x.src with
  | inr q => first | (show (tx q).size ≤ _; rw [tx_size]; have := hq x hx q hs; omega) | exact Nat.zero_le _ | (intro A hA; cases hA)
  | inl i =>
   simp only
   cases hn : ns[i]? with
   | none => first | (show (tx []).size ≤ _; rw [tx_size]; simp) | exact Nat.zero_le _ | (intro A hA; cases hA)
   | some N =>
    have hm : N.no ∈ nos ns := List.mem_map.2 ⟨N, List.mem_of_getElem? hn, rfl⟩
    have sm := hsm N.no hm
    have hi := (List.getElem?_eq_some_iff.1 hn).1
    obtain ⟨b, off, -, k⟩ := hN.at_ (by rw [← hN.len_eq]; omega)
    have o := (k i N hn).ok
    first
    | (show N.target.size ≤ _; have := sm.t; rw [show N.no.target = N.target.toList from rfl, tl_len] at this; omega)
    | (show N.dl ≤ _; have := sm.d; rw [show N.no.data = N.data from rfl, o.row.len_eq] at this; omega)
    | (show N.al ≤ _; have := sm.a; rw [show N.no.attrs = N.attrs.map AtV.at from rfl, List.length_map, o.ats.len_eq] at this; omega)
    | (intro A hA
       have hA : A ∈ N.attrs := hA
       have := sm.e A.at (List.mem_map.2 ⟨A, hA, rfl⟩)
       have h2 := this.1
       rw [show A.at.n = A.n.toList from rfl, tl_len] at h2
       obtain ⟨j, hj⟩ := List.mem_iff_getElem?.1 hA
       have hjl := (List.getElem?_eq_some_iff.1 hj).1
       obtain ⟨b2, off2, -, k2⟩ := o.ats.at_ (by rw [← o.ats.len_eq]; omega)
       have h3 := (k2 j A hj).row.len_eq
       have h4 := this.2
       rw [show A.at.v = A.v from rfl, h3] at h4
       exact ⟨by omega, by omega⟩)
set_option maxHeartbeats 16000000 in
theorem plist_any (na : Option Addr) (n nc : Nat) (ns : List NoV) (w : World) (hN : Nos w na n ns) (hc : ∀ N ∈ ns, Ncp N) (hsm : ∀ s, meetP (nos ns) (n + 1) ⟨[], []⟩ 0 [] = some s → s.list.length ≤ 16384) :
  Calls Tryz.prog 15 #[.agg #[.slice na n nc]] w (LiPost w ns) := by
 have g0 := xga w (.cells #[.slice na n nc] 33) none
 have hlg := plisting_any na n nc ns _ (hN.grown g0) hc hsm
 have HN : Hid _ := xai hN (xai hc g0)
 clear hN hc hsm g0
 go_enter Tryz.func15, Tryz.ntmps15
 go_wp2_with fail
 refine hlg.mono ?_
 clear hlg
 rintro e W1 (⟨rfl, g1, hno⟩ | ⟨s, va, vc, hte, rfl, heo⟩)
 ·have HX : Hid _ := xai (xgt HN.out.2.2 g1) hno
  clear g1 hno
  go_wp2_with fail
  go_ret2
  exact Or.inl ⟨rfl, HX.out⟩
 ·have hnl : (nos ns).length = n := by rw [nos_len, HN.out.1.len_eq]
  have hmt := hte.1
  have hfew := tell_few hmt
  have hok := (meetP_ok _ ⟨[], []⟩ 0 [] s ⟨List.nodup_nil, fun x h => (by cases h), Nat.zero_le _, fun x h => (by cases h), fun x h => (by cases h)⟩ hmt).1
  have hxs := le_nos ⟨w, na, n, HN.out.1⟩ hte hok.pl hok.ql
  have hln := hok.le
  obtain ⟨old, hold⟩ : ∃ old, s.list.map (evL ns) = old := ⟨_, rfl⟩
  obtain ⟨m, hm⟩ : ∃ m, s.list.length = m := ⟨_, rfl⟩
  have hml : old.length = m := by rw [← hold, List.length_map, hm]
  rw [hold] at heo hxs
  rw [hm] at heo hfew hln
  obtain ⟨g, c, hv, -, -, -, -⟩ := heo.form (by intro e; rw [e] at hml; simp at hml; omega)
  injection hv with hv1 hv2 hv3
  subst hv1
  have hg0 := HN.out.2.2
  have hL0 : Lw w W1 g vc m old := ⟨xgt hg0 heo.gr, by have := heo.own; rw [hml] at this; exact owns_low11 this hg0.size⟩
  have hold2 : ∀ X ∈ old, X.ok w := fun X hX => by
   rw [← hold] at hX
   obtain ⟨x, -, rfl⟩ := List.mem_map.1 hX
   exact evL_ok HN.out.1 HN.out.2.1 x
  have hen : ens old = s.list.map (enL (nos ns)) := by rw [← hold]; exact ens_evL ns s.list
  have H0 : Hid _ := hL0
  have HO : Hid _ := xai hold2 (xai hxs (xai hml (xai hen (xai hte hm))))
  rw [hm]
  clear heo hv2 hv3 hL0 hold2 hxs hml hen hte hm hold hok hmt hnl hfew hg0
  obtain ⟨ie, hi, hz0, hz1, hz2⟩ := info_parts Tryz.infoE
  clear hi hz0 hz1 hz2
  go_wp2_with fail
  go_loopw [18] (fun v18 wr => ∃ k : Nat, k ≤ m ∧ v18 = .int .i64 k ∧ Hid (∃ new, new.length = k ∧ Lw w wr g vc m (new ++ old.drop k) ∧ (∀ X ∈ new, Xn wr w.heap.size X) ∧ ens new = ens (old.take k))) (fun v18 _ => m - (intOf v18).toNat)
  case atStart => exact ⟨0, Nat.zero_le _, rfl, [], rfl, by rw [List.nil_append, List.drop_zero]; exact H0.out, fun X h => (by cases h), rfl⟩
  case round =>
   clear H0
   obtain ⟨k, hk, rfl, HI⟩ := hrel
   obtain ⟨new, hnl, hL, hnw, hne⟩ := HI.out
   clear HI
   by_cases hlt : k < m
   ·obtain ⟨X, hX⟩ : ∃ X, old[k]? = some X := ⟨_, List.getElem?_eq_getElem (by rw [HO.out.2.2.1]; exact hlt)⟩
    have hXa := app_at hnl hX
    have hXo := HO.out.1 X (List.mem_of_getElem? hX)
    have hXs := HO.out.2.1 X (List.mem_of_getElem? hX)
    have hll : (new ++ old.drop k).length = m := by rw [List.length_append, hnl, List.length_drop, HO.out.2.2.1]; omega
    have hsetX := fun X' => app_set (X' := X') hnl hX
    have htk : ens (old.take (k + 1)) = ens (old.take k) ++ [X.en] := by
     unfold ens
     rw [take_succ' hX, List.map_append]; rfl
    have hlti : (k : Int) < (m : Int) := by omega
    have HC : Hid _ := xai hnl (xai hne (xai htk (xai hXa (xai hll hsetX))))
    obtain ⟨L, hLL⟩ : ∃ L, new ++ old.drop k = L := ⟨_, rfl⟩
    rw [hLL] at hL hXa hll HC
    have HLL : Hid _ := hLL
    have HXO : Hid _ := xai hXo hXs
    clear hnl hne htk hsetX hLL hX hXo hXs
    obtain ⟨path, KY, mo, uid, gid, ti, sz_, da, dl, dc, data, tg, dev, aa, al, ac, attrs⟩ := X
    have HV : Hid _ := xai hL (xai hnw (xai hXa hll))
    clear hL hnw hXa hll
    go_wp2_with fail
    obtain ⟨hL, hnw, hXa, hll⟩ := HV.out
    clear HV
    have gD : wr.grownBy wr.drew none := drewG0 wr
    replace hL := hL.kept gD
    replace hnw := fun Y hY => (hnw Y hY).kept gD
    have hS0 : Lw w wr.drew g vc m L := hL
    refine wp_region_held_drew (S := fun w' => Lw w w' g vc m L) (by kernel_rfl) hL (fun hH => ?_)
    generalize wr.drew = WD at *
    have hps : path.size ≤ 1000000 := HXO.out.2.p
    have hts : tg.size ≤ 1000000 := HXO.out.2.t
    have hc0 : ∀ W, Lw w W g vc m L → W.cell? ⟨g, k * 11, none⟩ = some (.string path) := fun W h => by
     have e := h.cell hll hXa (f := 0) (by decide)
     rw [Nat.add_zero] at e
     rw [e]; rfl
    have hc8 : ∀ W, Lw w W g vc m L → W.cell? ⟨g, k * 11 + 8, none⟩ = some (.string tg) := fun W h => by
     rw [h.cell hll hXa (f := 8) (by decide)]; rfl
    clear hS0
    refine tk (i := 0) (oi := ⟨some 24, _, _, _, _, _⟩) (v := .pointer (some ⟨g, k * 11, none⟩)) rfl (Or.inl ⟨by rfl, fun w hSw => by go_simp⟩) hH ?_
    simp only [Act.put, pu]
    refine tk (i := 1) (oi := ⟨some 25, _, _, _, _, _⟩) (v := .pointer (some ⟨g, k * 11, none⟩)) rfl (Or.inl ⟨by rfl, fun w hSw => by go_simp⟩) hH ?_
    simp only [Act.put, pu]
    refine tk (i := 2) (oi := ⟨some 26, _, _, _, _, _⟩) (v := .pointer (some ⟨g, k * 11, none⟩)) rfl (Or.inl ⟨by rfl, fun w hSw => by go_simp⟩) hH ?_
    simp only [Act.put, pu]
    refine tk (i := 3) (oi := ⟨some 27, _, _, _, _, _⟩) (v := .pointer (some ⟨g, k * 11, none⟩)) rfl (Or.inl ⟨by rfl, fun w hSw => by go_simp⟩) hH ?_
    simp only [Act.put, pu]
    refine tk (i := 4) (oi := ⟨some 28, _, _, _, _, _⟩) (v := .pointer (some ⟨g, k * 11, none⟩)) rfl (Or.inl ⟨by rfl, fun w hSw => by go_simp⟩) hH ?_
    simp only [Act.put, pu]
    refine tk (i := 5) (oi := ⟨some 29, _, _, _, _, _⟩) (v := .string path) rfl (Or.inl ⟨by rfl, fun w hSw => by have c0 := hc0 _ hSw; go_simp⟩) hH ?_
    simp only [Act.put, pu]
    refine tk (i := 7) (oi := ⟨some 31, _, _, _, _, _⟩) (v := .pointer (some ⟨g, k * 11, none⟩)) rfl (Or.inl ⟨by rfl, fun w hSw => by go_simp⟩) hH ?_
    simp only [Act.put, pu]
    refine tk (i := 8) (oi := ⟨some 32, _, _, _, _, _⟩) (v := .pointer (some ⟨g, k * 11, none⟩)) rfl (Or.inl ⟨by rfl, fun w hSw => by go_simp⟩) hH ?_
    simp only [Act.put, pu]
    refine tk (i := 9) (oi := ⟨some 33, _, _, _, _, _⟩) (v := .pointer (some ⟨g, k * 11 + 8, none⟩)) rfl (Or.inl ⟨by rfl, fun w hSw => by go_simp⟩) hH ?_
    simp only [Act.put, pu]
    refine tk (i := 10) (oi := ⟨some 34, _, _, _, _, _⟩) (v := .string tg) rfl (Or.inl ⟨by rfl, fun w hSw => by have c8 := hc8 _ hSw; go_simp⟩) hH ?_
    simp only [Act.put, pu]
    refine wpAnyH_ready (rs := [6]) (by kernel_rfl) (by simp) ?_
    refine AllReadyH.cons rfl (fun K1 hK => ?_) AllReadyH.nil
    go_simp
    go_wp2_with (go_at_call 43; refine (psclone_any path _ hps).mono ?_; rintro e W2 ⟨rfl, g2⟩)
    replace hL := hL.kept g2
    replace hnw := fun Y hY => (hnw Y hY).kept g2
    replace hH := hL
    clear g2
    refine hK.out _ _ hH (fun _ => ?_)
    clear hK K1
    refine wpAnyH_ready (rs := [11]) (by kernel_rfl) (by simp) ?_
    refine AllReadyH.cons rfl (fun K1 hK => ?_) AllReadyH.nil
    go_simp
    go_wp2_with (go_at_call 43; refine (psclone_any tg _ hts).mono ?_; rintro e W3 ⟨rfl, g2⟩)
    replace hL := hL.kept g2
    replace hnw := fun Y hY => (hnw Y hY).kept g2
    replace hH := hL
    clear g2
    refine hK.out _ _ hH (fun _ => ?_)
    clear hK K1
    refine tk (i := 12) (oi := ⟨some 36, _, _, _, _, _⟩) (v := .pointer (some ⟨g, k * 11, none⟩)) rfl (Or.inl ⟨by rfl, fun w hSw => by go_simp⟩) hH ?_
    simp only [Act.put, pu]
    refine tk (i := 13) (oi := ⟨some 37, _, _, _, _, _⟩) (v := .pointer (some ⟨g, k * 11, none⟩)) rfl (Or.inl ⟨by rfl, fun w hSw => by go_simp⟩) hH ?_
    simp only [Act.put, pu]
    refine wpAnyH_ready (rs := [14]) (by kernel_rfl) (by simp) ?_
    refine AllReadyH.cons rfl (fun K1 hK => ?_) AllReadyH.nil
    have cc := hc0 _ hL
    have ff : W3.frozen? ⟨g, k * 11, none⟩ = false := hL.own.frozenAt _
    obtain ⟨hL2, hg2⟩ := hL.set hll hXa (f := 0) (X' := ⟨path, KY, mo, uid, gid, ti, sz_, da, dl, dc, data, tg, dev, aa, al, ac, attrs⟩) (u := (.string path)) (by decide) rfl
    rw [set_id hXa, Nat.add_zero] at hL2
    rw [Nat.add_zero] at hg2
    replace hnw := fun Y hY => (hnw Y hY).other hL.own (by decide) (by decide) hg2
    go_simp
    refine hK.out _ _ hL2 (fun _ => ?_)
    replace hL := hL2
    replace hH := hL2
    clear hK K1 cc ff hL2 hg2
    generalize W3.setCell ⟨g, k * 11, none⟩ (.string path) = W4 at *
    refine tk (i := 15) (oi := ⟨some 38, _, _, _, _, _⟩) (v := .pointer (some ⟨g, k * 11, none⟩)) rfl (Or.inl ⟨by rfl, fun w hSw => by go_simp⟩) hH ?_
    simp only [Act.put, pu]
    refine tk (i := 16) (oi := ⟨some 39, _, _, _, _, _⟩) (v := .pointer (some ⟨g, k * 11 + 8, none⟩)) rfl (Or.inl ⟨by rfl, fun w hSw => by go_simp⟩) hH ?_
    simp only [Act.put, pu]
    refine wpAnyH_ready (rs := [17]) (by kernel_rfl) (by simp) ?_
    refine AllReadyH.cons rfl (fun K1 hK => ?_) AllReadyH.nil
    have cc := hc8 _ hL
    have ff : W4.frozen? ⟨g, k * 11 + 8, none⟩ = false := hL.own.frozenAt _
    obtain ⟨hL2, hg2⟩ := hL.set hll hXa (f := 8) (X' := ⟨path, KY, mo, uid, gid, ti, sz_, da, dl, dc, data, tg, dev, aa, al, ac, attrs⟩) (u := (.string tg)) (by decide) rfl
    rw [set_id hXa] at hL2
    replace hnw := fun Y hY => (hnw Y hY).other hL.own (by decide) (by decide) hg2
    go_simp
    refine hK.out _ _ hL2 (fun _ => ?_)
    replace hL := hL2
    replace hH := hL2
    clear hK K1 cc ff hL2 hg2
    generalize W4.setCell ⟨g, k * 11 + 8, none⟩ (.string tg) = W5 at *
    refine wpAnyH_done (by kernel_rfl) ?_ _
    clear hc0 hc8 hH
    have HV : Hid _ := xai hL (xai hnw (xai hXa hll))
    clear hL hnw hXa hll
    go_wp2_with fail
    obtain ⟨hL, hnw, hXa, hll⟩ := HV.out
    clear HV
    replace hL := hL.kept (drewG0 W5)
    replace hnw := fun Y hY => (hnw Y hY).kept (drewG0 W5)
    refine wp_region_held_drew (S := fun w' => w.grownBy w' none) (by kernel_rfl) hL.gr (fun hH => ?_)
    generalize W5.drew = WD at *
    have hbc := fun W (gq : w.grownBy W none) => pclone_any da dl dc data W (HXO.out.1.row.grown gq) HXO.out.2.d
    have hcp := fun W (gq : w.grownBy W none) => pcopied_any aa al ac attrs W (HXO.out.1.ats.grown gq) HXO.out.2.a HXO.out.2.e
    have HBY : Hid _ := HXO.out.1.row.byt
    have hc7 : ∀ W, Lw w W g vc m L → W.cell? ⟨g, k * 11 + 7, none⟩ = some (.slice da dl dc) := fun W h => by
     rw [h.cell hll hXa (f := 7) (by decide)]; rfl
    have hc10 : ∀ W, Lw w W g vc m L → W.cell? ⟨g, k * 11 + 10, none⟩ = some (.slice aa al ac) := fun W h => by
     rw [h.cell hll hXa (f := 10) (by decide)]; rfl
    refine tk (i := 0) (oi := ⟨some 40, _, _, _, _, _⟩) (v := .pointer (some ⟨g, k * 11, none⟩)) rfl (Or.inl ⟨by rfl, fun w hSw => by go_simp⟩) hH ?_
    simp only [Act.put, pu]
    refine tk (i := 1) (oi := ⟨some 41, _, _, _, _, _⟩) (v := .pointer (some ⟨g, k * 11, none⟩)) rfl (Or.inl ⟨by rfl, fun w hSw => by go_simp⟩) hH ?_
    simp only [Act.put, pu]
    refine tk (i := 2) (oi := ⟨some 42, _, _, _, _, _⟩) (v := .pointer (some ⟨g, k * 11, none⟩)) rfl (Or.inl ⟨by rfl, fun w hSw => by go_simp⟩) hH ?_
    simp only [Act.put, pu]
    refine tk (i := 3) (oi := ⟨some 43, _, _, _, _, _⟩) (v := .pointer (some ⟨g, k * 11, none⟩)) rfl (Or.inl ⟨by rfl, fun w hSw => by go_simp⟩) hH ?_
    simp only [Act.put, pu]
    refine tk (i := 4) (oi := ⟨some 44, _, _, _, _, _⟩) (v := .pointer (some ⟨g, k * 11 + 7, none⟩)) rfl (Or.inl ⟨by rfl, fun w hSw => by go_simp⟩) hH ?_
    simp only [Act.put, pu]
    refine tk (i := 7) (oi := ⟨some 47, _, _, _, _, _⟩) (v := .pointer (some ⟨g, k * 11, none⟩)) rfl (Or.inl ⟨by rfl, fun w hSw => by go_simp⟩) hH ?_
    simp only [Act.put, pu]
    refine tk (i := 8) (oi := ⟨some 48, _, _, _, _, _⟩) (v := .pointer (some ⟨g, k * 11, none⟩)) rfl (Or.inl ⟨by rfl, fun w hSw => by go_simp⟩) hH ?_
    simp only [Act.put, pu]
    refine tk (i := 9) (oi := ⟨some 49, _, _, _, _, _⟩) (v := .pointer (some ⟨g, k * 11 + 10, none⟩)) rfl (Or.inl ⟨by rfl, fun w hSw => by go_simp⟩) hH ?_
    simp only [Act.put, pu]
    refine wpAnyH_ready (rs := [5, 10]) (by kernel_rfl) (by simp) ?_
    refine AllReadyH.cons rfl (fun K1 hK => ?_) (AllReadyH.cons rfl (fun K1 hK => ?_) AllReadyH.nil)
    ·skip
     have cx := hc7 _ hL
     go_simp
     refine hK.out _ _ hH (fun _ => ?_)
     clear hK K1 cx
     refine wpAnyH_ready (rs := [6, 10]) (by kernel_rfl) (by simp) ?_
     refine AllReadyH.cons rfl (fun K1 hK => ?_) (AllReadyH.cons rfl (fun K1 hK => ?_) AllReadyH.nil)
     ·skip
      go_simp
      go_wp2_with (go_at_call 44; refine (hbc _ hH).mono ?_; rintro e W6 ⟨v6, rfl, ho6, g6⟩)
      obtain ⟨ca, cc, rfl⟩ := own_shape ho6
      have hob : OwnB W6 w.heap.size ca dl cc data := ⟨owns_low11 ho6 hH.size, HBY.out⟩
      replace hL := hL.kept g6
      replace hnw := fun Y hY => (hnw Y hY).kept g6
      replace hH := hL.gr
      clear g6 ho6
      refine hK.out _ _ hH (fun _ => ?_)
      clear hK K1
      refine wpAnyH_ready (rs := [10]) (by kernel_rfl) (by simp) ?_
      refine AllReadyH.cons rfl (fun K1 hK => ?_) AllReadyH.nil
      have cx := hc10 _ hL
      go_simp
      refine hK.out _ _ hH (fun _ => ?_)
      clear hK K1 cx
      refine wpAnyH_ready (rs := [11]) (by kernel_rfl) (by simp) ?_
      refine AllReadyH.cons rfl (fun K1 hK => ?_) AllReadyH.nil
      go_simp
      have hcp2 := hcp _ hH
      unfold CpPost at hcp2
      go_wp2_with (go_at_call 45; refine hcp2.mono ?_; rintro e W7 ⟨v7, out, rfl, hC7, hat7⟩)
      obtain ⟨a2, c2, rfl⟩ := own_shape hC7.own
      have har : Ar W7 w.heap.size (.slice a2 out.length c2) out := ⟨owns_low11 hC7.own hH.size, fun A hA => (hC7.rows A hA).low hH.size⟩
      have g7 := hC7.gr
      replace hob := hob.kept g7
      replace hL := hL.kept g7
      replace hnw := fun Y hY => (hnw Y hY).kept g7
      replace hH := hL.gr
      clear g7 hC7 hcp2
      refine hK.out _ _ hH (fun _ => ?_)
      clear hK K1
      refine tk (i := 12) (oi := ⟨some 52, _, _, _, _, _⟩) (v := .pointer (some ⟨g, k * 11, none⟩)) rfl (Or.inl ⟨by rfl, fun w hSw => by go_simp⟩) hH ?_
      simp only [Act.put, pu]
      refine tk (i := 13) (oi := ⟨some 53, _, _, _, _, _⟩) (v := .pointer (some ⟨g, k * 11 + 7, none⟩)) rfl (Or.inl ⟨by rfl, fun w hSw => by go_simp⟩) hH ?_
      simp only [Act.put, pu]
      refine wpAnyH_ready (rs := [14]) (by kernel_rfl) (by simp) ?_
      refine AllReadyH.cons rfl (fun K1 hK => ?_) AllReadyH.nil
      have cx := hc7 _ hL
      have fx : W7.frozen? ⟨g, k * 11 + 7, none⟩ = false := hL.own.frozenAt _
      obtain ⟨hL2, hg2⟩ := hL.set hll hXa (f := 7) (X' := ⟨path, KY, mo, uid, gid, ti, sz_, ca, dl, cc, data, tg, dev, aa, al, ac, attrs⟩) (u := .slice ca dl cc) (by decide) rfl
      replace hnw := fun Y hY => (hnw Y hY).other hL.own (by decide) (by decide) hg2
      replace hob := hob.other hL.own (by decide) hg2
      replace har := har.other hL.own (by decide) (by decide) hg2
      have c10 := hc10 _ hL
      go_simp
      refine hK.out _ _ hL2.gr (fun _ => ?_)
      replace hH := hL2.gr
      clear hK K1 cx fx hL c10
      generalize W7.setCell ⟨g, k * 11 + 7, none⟩ (.slice ca dl cc) = W8 at *
      refine tk (i := 15) (oi := ⟨some 54, _, _, _, _, _⟩) (v := .pointer (some ⟨g, k * 11, none⟩)) rfl (Or.inl ⟨by rfl, fun w hSw => by go_simp⟩) hH ?_
      simp only [Act.put, pu]
      refine tk (i := 16) (oi := ⟨some 55, _, _, _, _, _⟩) (v := .pointer (some ⟨g, k * 11 + 10, none⟩)) rfl (Or.inl ⟨by rfl, fun w hSw => by go_simp⟩) hH ?_
      simp only [Act.put, pu]
      refine wpAnyH_ready (rs := [17]) (by kernel_rfl) (by simp) ?_
      refine AllReadyH.cons rfl (fun K1 hK => ?_) AllReadyH.nil
      have hXb : (L.set k ⟨path, KY, mo, uid, gid, ti, sz_, ca, dl, cc, data, tg, dev, aa, al, ac, attrs⟩)[k]? = some ⟨path, KY, mo, uid, gid, ti, sz_, ca, dl, cc, data, tg, dev, aa, al, ac, attrs⟩ := by rw [List.getElem?_set_self (by rw [hll]; exact hlt)]
      have hlb : (L.set k ⟨path, KY, mo, uid, gid, ti, sz_, ca, dl, cc, data, tg, dev, aa, al, ac, attrs⟩).length = m := by rw [List.length_set]; exact hll
      have cx : W8.cell? ⟨g, k * 11 + 10, none⟩ = some (.slice aa al ac) := by rw [hL2.cell hlb hXb (f := 10) (by decide)]; rfl
      have fx : W8.frozen? ⟨g, k * 11 + 10, none⟩ = false := hL2.own.frozenAt _
      obtain ⟨hL3, hg3⟩ := hL2.set hlb hXb (f := 10) (X' := ⟨path, KY, mo, uid, gid, ti, sz_, ca, dl, cc, data, tg, dev, a2, out.length, c2, out⟩) (u := .slice a2 out.length c2) (by decide) rfl
      replace hnw := fun Y hY => (hnw Y hY).other hL2.own (by decide) (by decide) hg3
      replace hob := hob.other hL2.own (by decide) hg3
      replace har := har.other hL2.own (by decide) (by decide) hg3
      go_simp
      refine hK.out _ _ hL3.gr (fun _ => ?_)
      clear hK K1 cx fx hL2 hXb hlb
      generalize W8.setCell ⟨g, k * 11 + 10, none⟩ (.slice a2 out.length c2) = W9 at *
      refine wpAnyH_done (by kernel_rfl) ?_ _
      rw [List.set_set, HC.out.2.2.2.2.2] at hL3
      have hI : Hid (∃ new, new.length = k + 1 ∧ Lw w W9 g vc m (new ++ old.drop (k + 1)) ∧ (∀ X ∈ new, Xn W9 w.heap.size X) ∧ ens new = ens (old.take (k + 1))) := by
       refine ⟨new ++ [⟨path, KY, mo, uid, gid, ti, sz_, ca, dl, cc, data, tg, dev, a2, out.length, c2, out⟩], by rw [List.length_append, HC.out.1]; rfl, hL3, fun Y hY => ?_, ?_⟩
       ·rcases List.mem_append.1 hY with hY | hY
        ·exact hnw Y hY
        ·rw [List.mem_singleton] at hY
         subst hY
         exact ⟨hob, har, rfl⟩
       ·rw [HC.out.2.2.1, ← HC.out.2.1]
        unfold ens
        rw [List.map_append, List.map_cons, List.map_nil]
        congr 1
        show [EnV.en ⟨path, KY, mo, uid, gid, ti, sz_, ca, dl, cc, data, tg, dev, a2, out.length, c2, out⟩] = [EnV.en ⟨path, KY, mo, uid, gid, ti, sz_, da, dl, dc, data, tg, dev, aa, al, ac, attrs⟩]
        unfold EnV.en
        simp only [hat7]
      clear hL3 hnw hob har hat7 hH hXa hll
      go_wp2_with fail
      have hk1 : ((k : Int) + 1) = ((k + 1 : Nat) : Int) := by omega
      rw [hk1]
      refine ⟨⟨k + 1, hlt, rfl, hI⟩, ?_⟩
      simp only [intOf, Int.toNat_natCast]
      exact Nat.sub_lt_sub_left hlt (Nat.lt_succ_self k)
     ·skip
      have cx := hc10 _ hL
      go_simp
      refine hK.out _ _ hH (fun _ => ?_)
      clear hK K1 cx
      refine wpAnyH_ready (rs := [6]) (by kernel_rfl) (by simp) ?_
      refine AllReadyH.cons rfl (fun K1 hK => ?_) AllReadyH.nil
      go_simp
      go_wp2_with (go_at_call 44; refine (hbc _ hH).mono ?_; rintro e W6 ⟨v6, rfl, ho6, g6⟩)
      obtain ⟨ca, cc, rfl⟩ := own_shape ho6
      have hob : OwnB W6 w.heap.size ca dl cc data := ⟨owns_low11 ho6 hH.size, HBY.out⟩
      replace hL := hL.kept g6
      replace hnw := fun Y hY => (hnw Y hY).kept g6
      replace hH := hL.gr
      clear g6 ho6
      refine hK.out _ _ hH (fun _ => ?_)
      clear hK K1
      refine wpAnyH_ready (rs := [11]) (by kernel_rfl) (by simp) ?_
      refine AllReadyH.cons rfl (fun K1 hK => ?_) AllReadyH.nil
      go_simp
      have hcp2 := hcp _ hH
      unfold CpPost at hcp2
      go_wp2_with (go_at_call 45; refine hcp2.mono ?_; rintro e W7 ⟨v7, out, rfl, hC7, hat7⟩)
      obtain ⟨a2, c2, rfl⟩ := own_shape hC7.own
      have har : Ar W7 w.heap.size (.slice a2 out.length c2) out := ⟨owns_low11 hC7.own hH.size, fun A hA => (hC7.rows A hA).low hH.size⟩
      have g7 := hC7.gr
      replace hob := hob.kept g7
      replace hL := hL.kept g7
      replace hnw := fun Y hY => (hnw Y hY).kept g7
      replace hH := hL.gr
      clear g7 hC7 hcp2
      refine hK.out _ _ hH (fun _ => ?_)
      clear hK K1
      refine tk (i := 12) (oi := ⟨some 52, _, _, _, _, _⟩) (v := .pointer (some ⟨g, k * 11, none⟩)) rfl (Or.inl ⟨by rfl, fun w hSw => by go_simp⟩) hH ?_
      simp only [Act.put, pu]
      refine tk (i := 13) (oi := ⟨some 53, _, _, _, _, _⟩) (v := .pointer (some ⟨g, k * 11 + 7, none⟩)) rfl (Or.inl ⟨by rfl, fun w hSw => by go_simp⟩) hH ?_
      simp only [Act.put, pu]
      refine wpAnyH_ready (rs := [14]) (by kernel_rfl) (by simp) ?_
      refine AllReadyH.cons rfl (fun K1 hK => ?_) AllReadyH.nil
      have cx := hc7 _ hL
      have fx : W7.frozen? ⟨g, k * 11 + 7, none⟩ = false := hL.own.frozenAt _
      obtain ⟨hL2, hg2⟩ := hL.set hll hXa (f := 7) (X' := ⟨path, KY, mo, uid, gid, ti, sz_, ca, dl, cc, data, tg, dev, aa, al, ac, attrs⟩) (u := .slice ca dl cc) (by decide) rfl
      replace hnw := fun Y hY => (hnw Y hY).other hL.own (by decide) (by decide) hg2
      replace hob := hob.other hL.own (by decide) hg2
      replace har := har.other hL.own (by decide) (by decide) hg2
      have c10 := hc10 _ hL
      go_simp
      refine hK.out _ _ hL2.gr (fun _ => ?_)
      replace hH := hL2.gr
      clear hK K1 cx fx hL c10
      generalize W7.setCell ⟨g, k * 11 + 7, none⟩ (.slice ca dl cc) = W8 at *
      refine tk (i := 15) (oi := ⟨some 54, _, _, _, _, _⟩) (v := .pointer (some ⟨g, k * 11, none⟩)) rfl (Or.inl ⟨by rfl, fun w hSw => by go_simp⟩) hH ?_
      simp only [Act.put, pu]
      refine tk (i := 16) (oi := ⟨some 55, _, _, _, _, _⟩) (v := .pointer (some ⟨g, k * 11 + 10, none⟩)) rfl (Or.inl ⟨by rfl, fun w hSw => by go_simp⟩) hH ?_
      simp only [Act.put, pu]
      refine wpAnyH_ready (rs := [17]) (by kernel_rfl) (by simp) ?_
      refine AllReadyH.cons rfl (fun K1 hK => ?_) AllReadyH.nil
      have hXb : (L.set k ⟨path, KY, mo, uid, gid, ti, sz_, ca, dl, cc, data, tg, dev, aa, al, ac, attrs⟩)[k]? = some ⟨path, KY, mo, uid, gid, ti, sz_, ca, dl, cc, data, tg, dev, aa, al, ac, attrs⟩ := by rw [List.getElem?_set_self (by rw [hll]; exact hlt)]
      have hlb : (L.set k ⟨path, KY, mo, uid, gid, ti, sz_, ca, dl, cc, data, tg, dev, aa, al, ac, attrs⟩).length = m := by rw [List.length_set]; exact hll
      have cx : W8.cell? ⟨g, k * 11 + 10, none⟩ = some (.slice aa al ac) := by rw [hL2.cell hlb hXb (f := 10) (by decide)]; rfl
      have fx : W8.frozen? ⟨g, k * 11 + 10, none⟩ = false := hL2.own.frozenAt _
      obtain ⟨hL3, hg3⟩ := hL2.set hlb hXb (f := 10) (X' := ⟨path, KY, mo, uid, gid, ti, sz_, ca, dl, cc, data, tg, dev, a2, out.length, c2, out⟩) (u := .slice a2 out.length c2) (by decide) rfl
      replace hnw := fun Y hY => (hnw Y hY).other hL2.own (by decide) (by decide) hg3
      replace hob := hob.other hL2.own (by decide) hg3
      replace har := har.other hL2.own (by decide) (by decide) hg3
      go_simp
      refine hK.out _ _ hL3.gr (fun _ => ?_)
      clear hK K1 cx fx hL2 hXb hlb
      generalize W8.setCell ⟨g, k * 11 + 10, none⟩ (.slice a2 out.length c2) = W9 at *
      refine wpAnyH_done (by kernel_rfl) ?_ _
      rw [List.set_set, HC.out.2.2.2.2.2] at hL3
      have hI : Hid (∃ new, new.length = k + 1 ∧ Lw w W9 g vc m (new ++ old.drop (k + 1)) ∧ (∀ X ∈ new, Xn W9 w.heap.size X) ∧ ens new = ens (old.take (k + 1))) := by
       refine ⟨new ++ [⟨path, KY, mo, uid, gid, ti, sz_, ca, dl, cc, data, tg, dev, a2, out.length, c2, out⟩], by rw [List.length_append, HC.out.1]; rfl, hL3, fun Y hY => ?_, ?_⟩
       ·rcases List.mem_append.1 hY with hY | hY
        ·exact hnw Y hY
        ·rw [List.mem_singleton] at hY
         subst hY
         exact ⟨hob, har, rfl⟩
       ·rw [HC.out.2.2.1, ← HC.out.2.1]
        unfold ens
        rw [List.map_append, List.map_cons, List.map_nil]
        congr 1
        show [EnV.en ⟨path, KY, mo, uid, gid, ti, sz_, ca, dl, cc, data, tg, dev, a2, out.length, c2, out⟩] = [EnV.en ⟨path, KY, mo, uid, gid, ti, sz_, da, dl, dc, data, tg, dev, aa, al, ac, attrs⟩]
        unfold EnV.en
        simp only [hat7]
      clear hL3 hnw hob har hat7 hH hXa hll
      go_wp2_with fail
      have hk1 : ((k : Int) + 1) = ((k + 1 : Nat) : Int) := by omega
      rw [hk1]
      refine ⟨⟨k + 1, hlt, rfl, hI⟩, ?_⟩
      simp only [intOf, Int.toNat_natCast]
      exact Nat.sub_lt_sub_left hlt (Nat.lt_succ_self k)
    ·skip
     have cx := hc10 _ hL
     go_simp
     refine hK.out _ _ hH (fun _ => ?_)
     clear hK K1 cx
     refine wpAnyH_ready (rs := [5]) (by kernel_rfl) (by simp) ?_
     refine AllReadyH.cons rfl (fun K1 hK => ?_) AllReadyH.nil
     have cx := hc7 _ hL
     go_simp
     refine hK.out _ _ hH (fun _ => ?_)
     clear hK K1 cx
     refine wpAnyH_ready (rs := [6]) (by kernel_rfl) (by simp) ?_
     refine AllReadyH.cons rfl (fun K1 hK => ?_) AllReadyH.nil
     go_simp
     go_wp2_with (go_at_call 44; refine (hbc _ hH).mono ?_; rintro e W6 ⟨v6, rfl, ho6, g6⟩)
     obtain ⟨ca, cc, rfl⟩ := own_shape ho6
     have hob : OwnB W6 w.heap.size ca dl cc data := ⟨owns_low11 ho6 hH.size, HBY.out⟩
     replace hL := hL.kept g6
     replace hnw := fun Y hY => (hnw Y hY).kept g6
     replace hH := hL.gr
     clear g6 ho6
     refine hK.out _ _ hH (fun _ => ?_)
     clear hK K1
     refine wpAnyH_ready (rs := [11]) (by kernel_rfl) (by simp) ?_
     refine AllReadyH.cons rfl (fun K1 hK => ?_) AllReadyH.nil
     go_simp
     have hcp2 := hcp _ hH
     unfold CpPost at hcp2
     go_wp2_with (go_at_call 45; refine hcp2.mono ?_; rintro e W7 ⟨v7, out, rfl, hC7, hat7⟩)
     obtain ⟨a2, c2, rfl⟩ := own_shape hC7.own
     have har : Ar W7 w.heap.size (.slice a2 out.length c2) out := ⟨owns_low11 hC7.own hH.size, fun A hA => (hC7.rows A hA).low hH.size⟩
     have g7 := hC7.gr
     replace hob := hob.kept g7
     replace hL := hL.kept g7
     replace hnw := fun Y hY => (hnw Y hY).kept g7
     replace hH := hL.gr
     clear g7 hC7 hcp2
     refine hK.out _ _ hH (fun _ => ?_)
     clear hK K1
     refine tk (i := 12) (oi := ⟨some 52, _, _, _, _, _⟩) (v := .pointer (some ⟨g, k * 11, none⟩)) rfl (Or.inl ⟨by rfl, fun w hSw => by go_simp⟩) hH ?_
     simp only [Act.put, pu]
     refine tk (i := 13) (oi := ⟨some 53, _, _, _, _, _⟩) (v := .pointer (some ⟨g, k * 11 + 7, none⟩)) rfl (Or.inl ⟨by rfl, fun w hSw => by go_simp⟩) hH ?_
     simp only [Act.put, pu]
     refine wpAnyH_ready (rs := [14]) (by kernel_rfl) (by simp) ?_
     refine AllReadyH.cons rfl (fun K1 hK => ?_) AllReadyH.nil
     have cx := hc7 _ hL
     have fx : W7.frozen? ⟨g, k * 11 + 7, none⟩ = false := hL.own.frozenAt _
     obtain ⟨hL2, hg2⟩ := hL.set hll hXa (f := 7) (X' := ⟨path, KY, mo, uid, gid, ti, sz_, ca, dl, cc, data, tg, dev, aa, al, ac, attrs⟩) (u := .slice ca dl cc) (by decide) rfl
     replace hnw := fun Y hY => (hnw Y hY).other hL.own (by decide) (by decide) hg2
     replace hob := hob.other hL.own (by decide) hg2
     replace har := har.other hL.own (by decide) (by decide) hg2
     have c10 := hc10 _ hL
     go_simp
     refine hK.out _ _ hL2.gr (fun _ => ?_)
     replace hH := hL2.gr
     clear hK K1 cx fx hL c10
     generalize W7.setCell ⟨g, k * 11 + 7, none⟩ (.slice ca dl cc) = W8 at *
     refine tk (i := 15) (oi := ⟨some 54, _, _, _, _, _⟩) (v := .pointer (some ⟨g, k * 11, none⟩)) rfl (Or.inl ⟨by rfl, fun w hSw => by go_simp⟩) hH ?_
     simp only [Act.put, pu]
     refine tk (i := 16) (oi := ⟨some 55, _, _, _, _, _⟩) (v := .pointer (some ⟨g, k * 11 + 10, none⟩)) rfl (Or.inl ⟨by rfl, fun w hSw => by go_simp⟩) hH ?_
     simp only [Act.put, pu]
     refine wpAnyH_ready (rs := [17]) (by kernel_rfl) (by simp) ?_
     refine AllReadyH.cons rfl (fun K1 hK => ?_) AllReadyH.nil
     have hXb : (L.set k ⟨path, KY, mo, uid, gid, ti, sz_, ca, dl, cc, data, tg, dev, aa, al, ac, attrs⟩)[k]? = some ⟨path, KY, mo, uid, gid, ti, sz_, ca, dl, cc, data, tg, dev, aa, al, ac, attrs⟩ := by rw [List.getElem?_set_self (by rw [hll]; exact hlt)]
     have hlb : (L.set k ⟨path, KY, mo, uid, gid, ti, sz_, ca, dl, cc, data, tg, dev, aa, al, ac, attrs⟩).length = m := by rw [List.length_set]; exact hll
     have cx : W8.cell? ⟨g, k * 11 + 10, none⟩ = some (.slice aa al ac) := by rw [hL2.cell hlb hXb (f := 10) (by decide)]; rfl
     have fx : W8.frozen? ⟨g, k * 11 + 10, none⟩ = false := hL2.own.frozenAt _
     obtain ⟨hL3, hg3⟩ := hL2.set hlb hXb (f := 10) (X' := ⟨path, KY, mo, uid, gid, ti, sz_, ca, dl, cc, data, tg, dev, a2, out.length, c2, out⟩) (u := .slice a2 out.length c2) (by decide) rfl
     replace hnw := fun Y hY => (hnw Y hY).other hL2.own (by decide) (by decide) hg3
     replace hob := hob.other hL2.own (by decide) hg3
     replace har := har.other hL2.own (by decide) (by decide) hg3
     go_simp
     refine hK.out _ _ hL3.gr (fun _ => ?_)
     clear hK K1 cx fx hL2 hXb hlb
     generalize W8.setCell ⟨g, k * 11 + 10, none⟩ (.slice a2 out.length c2) = W9 at *
     refine wpAnyH_done (by kernel_rfl) ?_ _
     rw [List.set_set, HC.out.2.2.2.2.2] at hL3
     have hI : Hid (∃ new, new.length = k + 1 ∧ Lw w W9 g vc m (new ++ old.drop (k + 1)) ∧ (∀ X ∈ new, Xn W9 w.heap.size X) ∧ ens new = ens (old.take (k + 1))) := by
      refine ⟨new ++ [⟨path, KY, mo, uid, gid, ti, sz_, ca, dl, cc, data, tg, dev, a2, out.length, c2, out⟩], by rw [List.length_append, HC.out.1]; rfl, hL3, fun Y hY => ?_, ?_⟩
      ·rcases List.mem_append.1 hY with hY | hY
       ·exact hnw Y hY
       ·rw [List.mem_singleton] at hY
        subst hY
        exact ⟨hob, har, rfl⟩
      ·rw [HC.out.2.2.1, ← HC.out.2.1]
       unfold ens
       rw [List.map_append, List.map_cons, List.map_nil]
       congr 1
       show [EnV.en ⟨path, KY, mo, uid, gid, ti, sz_, ca, dl, cc, data, tg, dev, a2, out.length, c2, out⟩] = [EnV.en ⟨path, KY, mo, uid, gid, ti, sz_, da, dl, dc, data, tg, dev, aa, al, ac, attrs⟩]
       unfold EnV.en
       simp only [hat7]
     clear hL3 hnw hob har hat7 hH hXa hll
     go_wp2_with fail
     have hk1 : ((k : Int) + 1) = ((k + 1 : Nat) : Int) := by omega
     rw [hk1]
     refine ⟨⟨k + 1, hlt, rfl, hI⟩, ?_⟩
     simp only [intOf, Int.toNat_natCast]
     exact Nat.sub_lt_sub_left hlt (Nat.lt_succ_self k)
   ·obtain rfl : k = m := by omega
    have hlti : ¬ (k : Int) < (k : Int) := by omega
    have hdr : old.drop k = [] := List.drop_eq_nil_of_le (by rw [HO.out.2.2.1]; exact Nat.le_refl _)
    have htk : old.take k = old := List.take_of_length_le (by rw [HO.out.2.2.1]; exact Nat.le_refl _)
    rw [hdr, List.append_nil] at hL
    rw [htk] at hne
    have HF : Hid _ := xai hL (xai hnl (xai hnw hne))
    clear hL hnl hnw hne hdr htk
    go_wp2_with fail
    go_ret2
    exact Or.inr ⟨s, g, vc, k, new, HO.out.2.2.2.2.1, rfl, HF.out.1, HF.out.2.1, HO.out.2.2.2.2.2.symm, HF.out.2.2.1, by rw [HF.out.2.2.2]; exact HO.out.2.2.2.1⟩
set_option maxHeartbeats 4000000 in
theorem pnode_nil (w : World) (i : Int) : Calls Tryz.prog 51 #[.pointer none, .int .i64 i] w fun e w' => e = .returned (.tuple #[nz12.val, .int .i64 5]) ∧ w.grownBy w' none := by
 have gA := xga w (.cells #[.int .i64 0, .int .i64 0, .int .i64 0, .int .i64 0, .int .i64 0, .int .i64 0, .slice none 0 0, .string ⟨#[]⟩, .int .i64 0, .slice none 0 0, .slice none 0 0, .int .i64 0, .int .i64 0] 43) none
 have bA := Bx.new w 43 [.int .i64 0, .int .i64 0, .int .i64 0, .int .i64 0, .int .i64 0, .int .i64 0, .slice none 0 0, .string ⟨#[]⟩, .int .i64 0, .slice none 0 0, .slice none 0 0, .int .i64 0, .int .i64 0]
 have HA : Hid _ := xai gA bA
 clear gA bA
 go_enter Tryz.func51, Tryz.ntmps51
 go_wp2_with ((with_reducible refine node_here ?_); refine wpList_store_bx13 rfl 43 _ _ rfl w.heap.size [.int .i64 0, .int .i64 0, .int .i64 0, .int .i64 0, .int .i64 0, .int .i64 0, .slice none 0 0, .string ⟨#[]⟩, .int .i64 0, .slice none 0 0, .slice none 0 0, .int .i64 0, .int .i64 0] rfl rfl HA.out.2 node_size rfl rfl ?_; intro W9 hz9 g9)
 obtain ⟨z0, z1, z2, z3, z4, z5, z6, z7, z8, z9, z10, z11, z12⟩ := bx13 hz9
 refine bodyPost_ret (v := .tuple #[nz12.val, .int .i64 5]) (by simp [results, Tryz.results51, go_sem, NoV.val, nz12, *]) rfl ?_
 exact ⟨rfl, grown_new HA.out.1 g9 (Nat.le_refl _)⟩
set_option maxHeartbeats 4000000 in
theorem pstat_nil (w : World) (i : Int) : Calls Tryz.prog 26 #[.pointer none, .int .i64 i] w fun e w' => e = .returned (.tuple #[stV 0 0 0 0 0 0 0 0 0, .int .i64 5]) ∧ w.grownBy w' none := by
 have gR := xga w (.cells #[.int .i64 0, .int .i64 0, .int .i64 0, .int .i64 0, .int .i64 0, .int .i64 0, .int .i64 0, .int .i64 0, .int .i64 0] 68) none
 have bR := Bx.new w 68 [.int .i64 0, .int .i64 0, .int .i64 0, .int .i64 0, .int .i64 0, .int .i64 0, .int .i64 0, .int .i64 0, .int .i64 0]
 have HM : Hid _ := xai bR gR
 clear gR bR
 go_enter Tryz.func26, Tryz.ntmps26
 go_wp2_with fail
 refine (pnode_nil _ i).mono ?_
 rintro e W0 ⟨rfl, g0⟩
 simp only [NoV.val, nz12]
 have gB := xga W0 (.cells #[.int .i64 0, .int .i64 0, .int .i64 0, .int .i64 0, .int .i64 0, .int .i64 0, .slice none 0 0, .string ⟨#[]⟩, .int .i64 0, .slice none 0 0, .slice none 0 0, .int .i64 0, .int .i64 0] 43) none
 have HB2 : Hid _ := xai ((HM.out.1.kept g0).kept gB) (xgt (xgt HM.out.2 g0) gB)
 clear gB g0 HM
 go_wp2_with ((with_reducible refine stat_here ?_); refine wpList_store_bx13 rfl 68 _ _ rfl w.heap.size [.int .i64 0, .int .i64 0, .int .i64 0, .int .i64 0, .int .i64 0, .int .i64 0, .int .i64 0, .int .i64 0, .int .i64 0] rfl rfl HB2.out.1 stat_size rfl rfl ?_; intro W9 hz9 g9)
 have z0 : _ = some _ := hz9.c 0
 have z1 : _ = some _ := hz9.c 1
 have z2 : _ = some _ := hz9.c 2
 have z3 : _ = some _ := hz9.c 3
 have z4 : _ = some _ := hz9.c 4
 have z5 : _ = some _ := hz9.c 5
 have z6 : _ = some _ := hz9.c 6
 have z7 : _ = some _ := hz9.c 7
 have z8 : _ = some _ := hz9.c 8
 refine bodyPost_ret (v := .tuple #[stV 0 0 0 0 0 0 0 0 0, .int .i64 5]) (by simp [results, Tryz.results26, go_sem, stV, *]) rfl ?_
 exact ⟨rfl, grown_new HB2.out.2 g9 (Nat.le_refl _)⟩
def pan5 : List PanicEntry := [{ v := .iface 34 (.int .i64 5), recovered := false }]
theorem need_bad5 (w : World) : Calls Tryz.prog 55 #[.int .i64 5] w fun e w' => e = .panicked pan5 ∧ w' = w := by
 go_enter Tryz.func55, Tryz.ntmps55
 go_wp2
 exact ⟨rfl, rfl, rfl⟩
theorem assert5 (W : World) : (Instr.typeAssert (.iface 34 (.int .i64 5)) 20 34 true).run Tryz.prog W = .ok (.tuple #[.int .i64 5, .bool true]) W := by
 first | kernel_rfl | rfl | simp [Instr.typeAssert, go_sem]
theorem reason5 (w : World) : Calls Tryz.prog 54 #[.iface 34 (.int .i64 5)] w fun e w' => e = .returned (.int .i64 5) ∧ w = w' := by
 have hta := assert5
 go_enter Tryz.func54, Tryz.ntmps54
 go_wp2
 go_ret
 exact ⟨rfl, rfl⟩
theorem wcatch_pan5 (p q : Addr) (x y : Value) (older : List PanicEntry) (w : World) (hc : w.cell? p = some x) (hz : w.frozen? p = false) (hc2 : w.cell? q = some y) (hz2 : w.frozen? q = false) (hpq : p.block ≠ q.block) :
  CallsD Tryz.prog 53 #[.pointer (some p), .pointer (some q)] (.panicking ({ v := .iface 34 (.int .i64 5), recovered := false } :: older)) w fun e u' w' =>
   e = .returned (.tuple #[]) ∧ u' = .panicking ({ v := .iface 34 (.int .i64 5), recovered := true } :: older) ∧ w' = (w.setCell p (.int .i64 0)).setCell q (.int .i64 5) := by
 have hc3 : (w.setCell p (.int .i64 0)).cell? q = some y := by rw [World.cell?_setCell_far _ _ _ _ hpq]; exact hc2
 have hz3 : (w.setCell p (.int .i64 0)).frozen? q = false := by simpa using hz2
 refine callsD_of_wpS Tryz.func53 rfl fun c₀ cs hu => ?_
 apply wpS_seq
 apply wpS_region
 simp [wpOpsS, go_sem, recoverD, hu, Tryz.ntmps53, Exit.thenS]
 apply wpS_seq
 apply wpS_region
 simp [wpOpsS, go_sem, Array.replicate, Exit.thenS]
 refine wpS_cond (t := true) (by simp [Act.eval, Array.replicate]) ?_
 simp only [if_true]
 refine wpS_of_wp ?_
 go_wp2_with (go_at_call 54; refine (reason5 _).mono ?_; rintro e w' ⟨rfl, rfl⟩)
 simp [bodyPostS, results, Tryz.results53]
set_option maxHeartbeats 4000000 in
theorem pwalk_nil (w : World) (i : Int) (s : ByteArray) (b : Bool) : Calls Tryz.prog 28 #[.pointer none, .int .i64 i, .string s, .bool b] w fun e w' => e = .returned (.tuple #[.int .i64 0, .int .i64 5]) ∧ w.grownBy w' none := by
 have hmf : ∀ (fn : Fn) (first cap : Array Value) (w : World), (Instr.makeFunc fn first cap).run Tryz.prog w = .ok (.func fn first cap) w := fun _ _ _ _ => rfl
 have g2 : w.grownBy ((w.alloc (.cells #[.int .i64 0] 3)).alloc (.cells #[.int .i64 0] 34)) none := xgt (xga _ _ none) (xga _ _ none)
 have bi := (Bx.new w 3 [.int .i64 0]).kept (xga _ (.cells #[.int .i64 0] 34) none)
 have be := Bx.new (w.alloc (.cells #[.int .i64 0] 3)) 34 [.int .i64 0]
 have hsz : (w.alloc (.cells #[.int .i64 0] 3)).heap.size = w.heap.size + 1 := by simp
 rw [hsz] at be
 have HB : Hid _ := xai g2 (xai bi be)
 clear g2 bi be hsz
 go_enter_defers Tryz.func28, Tryz.ntmps28
 go_wp2_with fail
 refine (pnode_nil _ i).mono ?_
 rintro e W1 ⟨rfl, g1⟩
 have HB1 : Hid _ := xai (xgt HB.out.1 g1) (xai (HB.out.2.1.kept g1) (HB.out.2.2.kept g1))
 clear g1 HB
 have be1 : _ = some _ := HB1.out.2.2.c 0
 have fe1 := HB1.out.2.2.f 0
 have be2 : _ = some _ := (HB1.out.2.2.set 0 (.int .i64 5)).c 0
 generalize NoV.val nz12 = vX
 go_wp2_with fail
 refine (need_bad5 _).mono ?_
 rintro e W2 ⟨rfl, rfl⟩
 have gS := grown_set W1 (w.heap.size + 1) 0 (.int .i64 5)
 have HB2 : Hid _ := xai (grown_new HB1.out.1 gS (by omega)) (xai (HB1.out.2.1.but gS (by intro e; injection e with e; omega)) (HB1.out.2.2.set 0 (.int .i64 5)))
 clear gS HB1 be1 fe1 be2
 go_wp2_with fail
 generalize W1.setCell ⟨w.heap.size + 1, 0, none⟩ (.int .i64 5) = W5 at *
 refine leaves_cons (f := 53) (args := #[.pointer (some ⟨w.heap.size, 0, none⟩), .pointer (some ⟨w.heap.size + 1, 0, none⟩)]) (by simp) (by simp [go_sem]) ?_
 refine (wcatch_pan5 ⟨w.heap.size, 0, none⟩ ⟨w.heap.size + 1, 0, none⟩ _ _ [] W5 (HB2.out.2.1.c 0) (HB2.out.2.1.f 0) (HB2.out.2.2.c 0) (HB2.out.2.2.f 0) (by simp)).mono ?_
 rintro e u' w'' ⟨rfl, rfl, rfl⟩
 have k1 := (HB2.out.2.1.set 0 (.int .i64 0)).but (grown_set (W5.setCell ⟨w.heap.size, 0, none⟩ (.int .i64 0)) (w.heap.size + 1) 0 (.int .i64 5)) (by simp)
 have k2 := (HB2.out.2.2.but (grown_set W5 w.heap.size 0 (.int .i64 0)) (by simp)).set 0 (.int .i64 5)
 have k3 : w.grownBy _ none := grown_new (grown_new HB2.out.1 (grown_set W5 w.heap.size 0 (.int .i64 0)) (Nat.le_refl _)) (grown_set (W5.setCell ⟨w.heap.size, 0, none⟩ (.int .i64 0)) (w.heap.size + 1) 0 (.int .i64 5)) (by omega)
 generalize (W5.setCell ⟨w.heap.size, 0, none⟩ (.int .i64 0)).setCell ⟨w.heap.size + 1, 0, none⟩ (.int .i64 5) = WF at *
 have k4 := k1.c 0
 have k5 := k2.c 0
 simp only [List.set_cons_zero, List.getElem?_cons_zero] at k4 k5
 simp [Leaves, settle, results, Tryz.results28, go_sem, k4, k5]
 exact k3
theorem pnew_none (w : World) : Calls Tryz.prog 23 #[.agg #[.slice none 0 0]] w fun e w' => e = .returned (.tuple #[.pointer none, .int .i64 1]) ∧ w.grownBy w' none := by
 have hm : ∀ s, meetP (nos []) (0 + 1) ⟨[], []⟩ 0 [] ≠ some s := fun s h => by simp [meetP, nos] at h
 have hl := fun W => plist_any none 0 0 [] W ⟨rfl, Nat.zero_le _, fun h => absurd h (Nat.lt_irrefl 0)⟩ (fun N h => by cases h) (fun s h => absurd h (hm s))
 unfold LiPost at hl
 have HM : Hid _ := xai hm (xga w (.cells #[.slice none 0 0] 33) none)
 clear hm
 go_enter Tryz.func23, Tryz.ntmps23
 go_wp2_with fail
 refine (hl _).mono ?_
 rintro e W1 (⟨rfl, g, -⟩ | ⟨s, g, vc, n, l, hT, -⟩)
 ·have HG : Hid _ := xgt HM.out.2 g
  clear g HM
  go_wp2
  go_ret2
  exact ⟨rfl, HG.out⟩
 ·exact absurd hT.1 (HM.out.1 s)
end Go.Proofs.YtlehncfehoelbaaGreatDoor
namespace Go.Proofs.YtlehncfehoelbaaGreatDoor
open Go.RowKit
set_option maxRecDepth 100000
open Go.Maps (Keyed)
set_option linter.unusedSimpArgs false
set_option linter.unusedVariables false
structure Sp (w W : World) (mp m : Nat) (G : Nat → ByteArray → Option Int) : Prop where
 gr : w.grownBy W none
 new : w.heap.size ≤ mp
 map : ∃ f, MapF W 94 mp m f ∧ ∀ (d : Nat) (s : ByteArray) (l : Lit), keyOf Tryz.prog 94 (spv d s) = some l → f l = (G d s).map (fun i => .int .i64 i)
theorem Sp.kept {w W W' : World} {mp m : Nat} {G : Nat → ByteArray → Option Int} (h : Sp w W mp m G) (g : W.grownBy W' none) : Sp w W' mp m G := by
 obtain ⟨h1, h2, f, h3, h4⟩ := h
 exact ⟨xgt h1 g, h2, f, h3.kept g (by simp), h4⟩
theorem Sp.eq {w W : World} {mp m : Nat} {G G' : Nat → ByteArray → Option Int} (h : Sp w W mp m G) (e : ∀ d s, G d s = G' d s) : Sp w W mp m G' := by
 obtain ⟨h1, h2, f, h3, h4⟩ := h
 exact ⟨h1, h2, f, h3, fun d s l hl => by rw [h4 d s l hl, e]⟩
theorem Sp.put {w W W' : World} {mp m d0 : Nat} {s0 : ByteArray} {v : Int} {kl : Lit} {f : Lit → Option Value} {G : Nat → ByteArray → Option Int} (hg : w.grownBy W none) (hn : w.heap.size ≤ mp)
  (hf : ∀ (d : Nat) (s : ByteArray) (l : Lit), keyOf Tryz.prog 94 (spv d s) = some l → f l = (G d s).map (fun i => .int .i64 i)) (hk : keyOf Tryz.prog 94 (spv d0 s0) = some kl)
  (hm : MapF W' 94 mp (m + 1) (updF f kl (.int .i64 v))) (g : W.grownBy W' (some mp)) : Sp w W' mp (m + 1) (fun d s => if d = d0 ∧ s = s0 then some v else G d s) := by
 refine ⟨grown_new hg g hn, hn, _, hm, fun d s l hl => ?_⟩
 unfold updF
 by_cases e : d = d0 ∧ s = s0
 ·obtain ⟨rfl, rfl⟩ := e
  rw [hk] at hl
  injection hl with hl
  subst hl
  rw [if_pos (WideAt.sameKey_self (spotK.key hk)), if_pos ⟨rfl, rfl⟩]; rfl
 ·rw [if_neg e]
  have hne : l ≠ kl := fun e2 => e (by
   subst e2
   have := spotK.inj hl hk
   unfold spv at this
   simp at this
   exact ⟨by omega, this.2⟩)
  rw [Maps.sameKey_ne hne, if_neg Bool.false_ne_true]
  exact hf d s l hl
def Gs (ns : List NoV) (k j : Nat) (d : Nat) (s : ByteArray) : Option Int := if d < k then (ns[d]?).bind (fun X => fnd X.kids s.toList) else if d = k then (ns[d]?).bind (fun X => fnd (X.kids.take j) s.toList) else none
theorem fnd_snoc {l : List Kd} {x : Kd} {s : Tx} (h : ∀ y ∈ l, y.n ≠ x.n) : fnd (l ++ [x]) s = if s = x.n then some x.i else fnd l s := by
 unfold fnd
 rw [List.find?_append]
 by_cases e : s = x.n
 ·subst e
  rw [if_pos rfl, List.find?_eq_none.2 (fun y hy => by simpa using h y hy)]
  simp
 ·rw [if_neg e]
  cases l.find? (fun k => k.n == s) with
  | some y => rfl
  | none => simp [Ne.symm e]
theorem Gs_zero (ns : List NoV) (d : Nat) (s : ByteArray) : Gs ns 0 0 d s = none := by
 unfold Gs
 rw [if_neg (by omega)]
 split
 ·cases ns[d]? <;> rfl
 ·rfl
theorem Gs_next {ns : List NoV} {k : Nat} {X : NoV} (hX : ns[k]? = some X) (d : Nat) (s : ByteArray) : Gs ns k X.kids.length d s = Gs ns (k + 1) 0 d s := by
 unfold Gs
 by_cases h1 : d < k
 ·rw [if_pos h1, if_pos (by omega)]
 ·rw [if_neg h1]
  by_cases h2 : d = k
  ·subst h2
   rw [if_pos rfl, if_pos (by omega), hX]
   simp only [Option.bind_some, List.take_length]
  ·rw [if_neg h2, if_neg (by omega)]
   split
   ·cases ns[d]? <;> rfl
   ·rfl
theorem Gs_all {ns : List NoV} (d : Nat) (s : ByteArray) : Gs ns ns.length 0 d s = (ns[d]?).bind (fun X => fnd X.kids s.toList) := by
 unfold Gs
 by_cases h1 : d < ns.length
 ·rw [if_pos h1]
 ·rw [if_neg h1, List.getElem?_eq_none (by omega)]
  split <;> rfl
theorem Gs_step {ns : List NoV} {k j : Nat} {X : NoV} {x : Kd} (hX : ns[k]? = some X) (hx : X.kids[j]? = some x) (hd : X.kids.Pairwise (fun a b => a.n ≠ b.n)) (d : Nat) (s : ByteArray) :
  (if d = k ∧ s = tx x.n then some x.i else Gs ns k j d s) = Gs ns k (j + 1) d s := by
 unfold Gs
 by_cases h1 : d < k
 ·rw [if_pos h1, if_pos h1, if_neg (by omega)]
 ·rw [if_neg h1, if_neg h1]
  by_cases h2 : d = k
  ·subst h2
   rw [if_pos rfl, if_pos rfl, hX]
   simp only [Option.bind_some]
   rw [List.take_add_one, hx]
   have hap : ∀ y ∈ X.kids.take j, y.n ≠ x.n := fun y hy => by
    have h3 := List.take_append_drop j X.kids
    rw [← h3] at hd
    have hxm : x ∈ X.kids.drop j := by
     rw [List.mem_iff_getElem?]
     exact ⟨0, by rw [List.getElem?_drop]; exact hx⟩
    exact (List.pairwise_append.1 hd).2.2 y hy x hxm
   rw [show (some x).toList = [x] from rfl, fnd_snoc hap]
   by_cases e : s = tx x.n
   ·subst e
    rw [if_pos (by simp), if_pos (tx_tl _)]
   ·rw [if_neg (fun h => e h.2), if_neg (fun h => e (tl_inj (by rw [h, tx_tl])))]
  ·rw [if_neg h2, if_neg h2, if_neg (fun h => h2 h.1)]
theorem wrapk2 {k : Nat} (h : k < 9223372036854775807) : wrap64 ((k : Int) + 1) = ((k + 1 : Nat) : Int) := by
 unfold wrap64
 omega
def SpPost12 (w : World) (ns : List NoV) (e : Ending) (w' : World) : Prop := ∃ mp m, e = .returned (.map (some mp)) ∧ Sp w w' mp m (fun d s => (ns[d]?).bind (fun X => fnd X.kids s.toList))
set_option maxHeartbeats 4000000 in
theorem pspots_any (w : World) (a : Option Addr) (n c : Nat) (ns : List NoV) (hN : Nos w a n ns) (hn : n ≤ 100000) (hk : ∀ X ∈ ns, X.kids.Pairwise (fun a b => a.n ≠ b.n) ∧ X.kids.length ≤ 100000 ∧ ∀ k ∈ X.kids, k.n.length ≤ 1000000) :
  Calls Tryz.prog 49 #[.slice a n c] w (SpPost12 w ns) := by
 obtain ⟨B, hB⟩ : ∃ B, B = 100000 := ⟨_, rfl⟩
 have HB : Hid _ := hB
 clear hB
 have HN : Hid _ := xai hN (xai hk hN.len_eq)
 clear hN hk
 have gM := xga w (.map #[] 0) none
 have H0 : Hid (Sp w (w.alloc (.map #[] 0)) w.heap.size 0 (Gs ns 0 0)) := ⟨gM, Nat.le_refl _, _, MapF.made w 94, fun d s l hl => by rw [Gs_zero]; rfl⟩
 clear gM
 have hmm : ∀ w : World, (Instr.makeMap 95 none).run Tryz.prog w = .ok (.map (some w.heap.size)) (w.alloc (.map #[] 0)) := fun w => by
  simp only [Instr.makeMap, Sem.run_bind, run_underlying Tryz.underlying95, Result.andThen, asInt, Sem.run_pure]
  rfl
 have hmm := hmm w
 go_enter Tryz.func49, Tryz.ntmps49
 go_wp2_with fail
 generalize w.alloc (.map #[] 0) = W0 at *
 generalize hmp : w.heap.size = mp at *
 clear hmp
 clear hmm
 go_loopw [11] (fun v wr => ∃ (k m : Nat), k ≤ n ∧ v = .int .i64 k ∧ Hid (m ≤ k * B ∧ Sp w wr mp m (Gs ns k 0))) (fun v _ => n - (intOf v).toNat)
 case atStart => exact ⟨0, 0, Nat.zero_le _, rfl, ⟨Nat.zero_le _, H0.out⟩⟩
 case round =>
  obtain ⟨k, m, hkn, rfl, HS⟩ := hrel
  clear H0
  by_cases hlt : k < n
  ·obtain ⟨X, hX⟩ : ∃ X, ns[k]? = some X := ⟨_, List.getElem?_eq_getElem (by have := HN.out.2.2; omega)⟩
   obtain ⟨b, off, rfl, hat⟩ := HN.out.1.at_ (by omega)
   obtain ⟨y0, y1, y2, y3, y4, y5, y6, y7, y8, y9, y10, y11, y12, yok⟩ := (hat k X hX).grown HS.out.2.gr
   obtain ⟨hd1, hd2, hd3⟩ := HN.out.2.1 X (List.mem_of_getElem? hX)
   have hkl : X.kids.length = X.kl := yok.kds.len_eq
   obtain ⟨NK, mo, uid, gid, ti, sz_, da, dl, dc, data, tg, dev, aa, al, ac, attrs, ka, kl, kc, kids, pa, lk⟩ := X
   simp only at y0 y1 y2 y3 y4 y5 y6 y7 y8 y9 y10 y11 y12 hd1 hd2 hd3 hkl
   have gB := xga wr (.cells #[.int .i64 NK, .int .i64 mo, .int .i64 uid, .int .i64 gid, .int .i64 ti, .int .i64 sz_, .slice da dl dc, .string tg, .int .i64 dev, .slice aa al ac, .slice ka kl kc, .int .i64 pa, .int .i64 lk] 43) none
   have bB := Bx.new wr 43 [.int .i64 NK, .int .i64 mo, .int .i64 uid, .int .i64 gid, .int .i64 ti, .int .i64 sz_, .slice da dl dc, .string tg, .int .i64 dev, .slice aa al ac, .slice ka kl kc, .int .i64 pa, .int .i64 lk]
   have HX : Hid _ := xai hX (xai hd1 (xai hd3 (xai (hat k _ hX).ok.kds hkl)))
   have v10 : _ = some _ := bB.c 10
   have HS1 : Hid _ := xai HS.out.1 (HS.out.2.kept gB)
   rw [hkl, ← HB.out] at hd2
   clear gB bB HS hat hX hd1 hd3 yok hkl
   have hlti : (k : Int) < (n : Int) := by omega
   go_wp2_with fail
   generalize hWB : wr.alloc (.cells #[.int .i64 NK, .int .i64 mo, .int .i64 uid, .int .i64 gid, .int .i64 ti, .int .i64 sz_, .slice da dl dc, .string tg, .int .i64 dev, .slice aa al ac, .slice ka kl kc, .int .i64 pa, .int .i64 lk] 43) = WB at *
   clear hWB y0 y1 y2 y3 y4 y5 y6 y7 y8 y9 y10 y11 y12
   generalize wr.heap.size = gn at *
   clear wr
   go_loopw [19] (fun v wz => ∃ (j m2 : Nat), j ≤ kl ∧ v = .int .i64 j ∧ Hid (m2 ≤ k * B + j ∧ Sp w wz mp m2 (Gs ns k j))) (fun v _ => kl - (intOf v).toNat)
   case atStart => exact ⟨0, m, Nat.zero_le _, rfl, ⟨by have := HS1.out.1; omega, HS1.out.2⟩⟩
   case round =>
    obtain ⟨j, m2, hj, rfl, HJ⟩ := hrel
    by_cases hlt2 : j < kl
    ·obtain ⟨b2, o2, rfl, hat2⟩ := HX.out.2.2.2.1.at_ (by show 0 < kl; omega)
     obtain ⟨x, hx⟩ : ∃ x, kids[j]? = some x := ⟨_, List.getElem?_eq_getElem (by have := HX.out.2.2.2.2; omega)⟩
     have hst := fun d s => Gs_step HX.out.1 hx HX.out.2.1 d s
     have hsx : (tx x.n).size ≤ 1000000 := by rw [tx_size]; exact HX.out.2.2.1 x (List.mem_of_getElem? hx)
     obtain ⟨lit, hkey⟩ := spot_key k (tx x.n) (by unfold maxLen; omega) (by unfold maxLen; omega)
     have p0 := cell_grown (hat2 j x hx).c0 HJ.out.2.gr
     have p1 := cell_grown (hat2 j x hx).c1 HJ.out.2.gr
     obtain ⟨xn, xi⟩ := x
     simp only at p0 p1 hst hsx hkey
     generalize tx xn = xs at *
     have gC := xga wr (.cells #[.string xs, .int .i64 xi] 47) none
     have bC := Bx.new wr 47 [.string xs, .int .i64 xi]
     have s0 : _ = some _ := bC.c 0
     have s1 : _ = some _ := bC.c 1
     obtain ⟨f, hm, hf⟩ := (HJ.out.2.kept gC).map
     have HP : Hid _ := xai hst (xai hf (xai hm (xai hkey (xai gC (xai HJ.out.1 HJ.out.2)))))
     clear hst hf hm hkey gC bC HJ hat2 hx hsx
     have hlti2 : (j : Int) < (kl : Int) := by omega
     have HW1 : Hid (wrap64 ((j : Int) + 1) = ((j + 1 : Nat) : Int)) := wrapk2 (by have := hd2; rw [HB.out] at this; omega)
     go_wp2_with ((at_mapUpdate; refine wpList_storeF rfl _ rfl _ _ _ 95 rfl 94 3 spotK Tryz.underlying95 mp m2 f rfl HP.out.2.2.1 (by have h1 := HP.out.2.2.2.2.2.1; have h2 := hd2; rw [HB.out] at h1 h2; unfold maxLen; omega) (spv k xs) (.int .i64 xi) lit rfl rfl HP.out.2.2.2.1 (spotK.key HP.out.2.2.2.1) ?_; intro W1 HM1 HG1))
     have hsp := (Sp.put (xgt HP.out.2.2.2.2.2.2.gr HP.out.2.2.2.2.1) HP.out.2.2.2.2.2.2.new HP.out.2.1 HP.out.2.2.2.1 HM1.out HG1.out).eq HP.out.1
     rw [HW1.out]
     refine ⟨⟨j + 1, m2 + 1, hlt2, rfl, ⟨by have := HP.out.2.2.2.2.2.1; omega, hsp⟩⟩, ?_⟩
     ·simp only [intOf, Int.toNat_natCast]
      exact Nat.sub_lt_sub_left hlt2 (Nat.lt_succ_self j)
    ·obtain rfl : j = kl := by omega
     have hlti2 : ¬ (j : Int) < (j : Int) := by omega
     have hsp : Sp w wr mp m2 (Gs ns (k + 1) 0) := HJ.out.2.eq (fun d s => by rw [← HX.out.2.2.2.2]; exact Gs_next HX.out.1 d s)
     have HSP : Hid _ := xai HJ.out.1 hsp
     clear hsp HJ
     go_wp2
     rw [show ((k : Int) + 1) = ((k + 1 : Nat) : Int) by omega]
     refine ⟨⟨k + 1, m2, hlt, rfl, ⟨by have h1 := HSP.out.1; rw [Nat.succ_mul]; omega, HSP.out.2⟩⟩, ?_⟩
     simp only [intOf, Int.toNat_natCast]
     exact Nat.sub_lt_sub_left hlt (Nat.lt_succ_self k)
  ·obtain rfl : k = n := by omega
   have hlti : ¬ (k : Int) < (k : Int) := by omega
   have hsp : Sp w wr mp m (fun d s => (ns[d]?).bind (fun X => fnd X.kids s.toList)) := HS.out.2.eq (fun d s => by rw [← HN.out.2.2]; exact Gs_all d s)
   have HSP : Hid _ := hsp
   clear hsp HS
   go_wp2
   go_ret
   exact ⟨mp, m, rfl, HSP.out⟩
end Go.Proofs.YtlehncfehoelbaaGreatDoor
