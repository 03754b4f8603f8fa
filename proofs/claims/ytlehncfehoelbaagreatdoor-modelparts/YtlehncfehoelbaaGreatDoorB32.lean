/- The program's tree: List. What List tells of the tree of a right list, in all that is asked of it. -/
import Derived.Test.YtlehncfehoelbaaGreatDoorB15
import Derived.Test.YtlehncfehoelbaaGreatDoorB31
namespace Go.Proofs.YtlehncfehoelbaaGreatDoor
open Go.RowKit
set_option maxRecDepth 100000
set_option linter.unusedSimpArgs false
set_option linter.unusedVariables false
/-- an entry whose rows are all in memory of their own -/
structure Xn (W : World) (base : Nat) (X : EnV) : Prop where
 row : OwnB W base X.da X.dl X.dc X.data
 ar : Ar W base (.slice X.aa X.al X.ac) X.attrs
 len : X.al = X.attrs.length
theorem Xn.kept {W W' : World} {base : Nat} {X : EnV} (h : Xn W base X) (g : W.grownBy W' none) : Xn W' base X := ⟨h.row.kept g, h.ar.kept g, h.len⟩
theorem Xn.other {W W' : World} {base b e s n : Nat} {X : EnV} {u : Value} {ys : List Value} (h : Xn W base X) (ho : W.ownsRow b e s u n ys) (h1 : 45 ≠ e) (h2 : 5 ≠ e) (g : W.grownBy W' u.ownBlock) : Xn W' base X := ⟨h.row.other ho h2 g, h.ar.other ho h1 h2 g, h.len⟩
theorem Xn.ok {W : World} {base : Nat} {X : EnV} (h : Xn W base X) : X.ok W := by
 have ho := h.ar.own
 rw [← h.len] at ho
 obtain ⟨a, c, e, hats, hcc, -⟩ := own_ats ho h.len (fun A hA => ⟨(h.ar.rows A hA).row, (h.ar.rows A hA).cap⟩)
 injection e with e1 e2 e3
 subst e1
 exact ⟨h.row.row, h.row.cap, hats, by rw [e3]; exact hcc⟩
/-- a row of entries in memory of its own -/
structure Lw (w W : World) (g c n : Nat) (L : List EnV) : Prop where
 gr : w.grownBy W none
 own : W.ownsRow w.heap.size 30 11 (.slice (some ⟨g, 0, none⟩) n c) n (L.flatMap evc)
theorem Lw.kept {w W W' : World} {g c n : Nat} {L : List EnV} (h : Lw w W g c n L) (k : W.grownBy W' none) : Lw w W' g c n L := ⟨grown_trans h.gr k, owns_kept11 h.own k⟩
theorem Lw.cell {w W : World} {g c n : Nat} {L : List EnV} (h : Lw w W g c n L) (hn : L.length = n) {i f : Nat} {X : EnV} (hX : L[i]? = some X) (hf : f < 11) : W.cell? ⟨g, i * 11 + f, none⟩ = (evc X)[f]? := by
 have hi : i < L.length := (List.getElem?_eq_some_iff.1 hX).1
 rw [h.own.cellAt (i * 11 + f) (by omega), flat_at evc 11 evc_len L i f X hX hf]
theorem Lw.set {w W : World} {g c n : Nat} {L : List EnV} (h : Lw w W g c n L) (hn : L.length = n) {i f : Nat} {X X' : EnV} {u : Value} (hX : L[i]? = some X) (hf : f < 11) (e : evc X' = (evc X).set f u) :
  Lw w (W.setCell ⟨g, i * 11 + f, none⟩ u) g c n (L.set i X') ∧ W.grownBy (W.setCell ⟨g, i * 11 + f, none⟩ u) (some g) := by
 obtain ⟨h1, h2⟩ := h.own.stored (i * 11 + f) u
 rw [flat_set evc 11 evc_len u L i f X X' hX hf e] at h1
 exact ⟨⟨grown_ownB h.gr h.own h2 (Nat.le_refl _), h1⟩, h2⟩
theorem set_id {L : List EnV} {i : Nat} {X : EnV} (h : L[i]? = some X) : L.set i X = L := by
 apply List.ext_getElem?
 intro j
 rw [List.getElem?_set]
 by_cases e : i = j
 ·subst e
  rw [if_pos rfl, if_pos (List.getElem?_eq_some_iff.1 h).1, h]
 ·rw [if_neg e]
theorem app_at {new old : List EnV} {i : Nat} (hl : new.length = i) {X : EnV} (h : old[i]? = some X) : (new ++ old.drop i)[i]? = some X := by
 rw [List.getElem?_append_right (by omega), hl, Nat.sub_self, List.getElem?_drop]
 simpa using h
theorem app_set {new old : List EnV} {i : Nat} (hl : new.length = i) {X X' : EnV} (h : old[i]? = some X) : (new ++ old.drop i).set i X' = (new ++ [X']) ++ old.drop (i + 1) := by
 have hi := (List.getElem?_eq_some_iff.1 h).1
 rw [List.set_append_right _ _ (by omega), hl, Nat.sub_self, List.drop_eq_getElem_cons hi, List.append_assoc]
 rfl
/-- what is asked of an entry that is told -/
structure Xs (X : EnV) : Prop where
 p : X.path.size ≤ 1000000
 t : X.target.size ≤ 1000000
 d : X.dl ≤ 16777216
 a : X.al ≤ 100000
 e : ∀ A ∈ X.attrs, A.n.size ≤ 1000000 ∧ A.len ≤ 16777216
/-- what List answers -/
def LiPost (w : World) (ns : List NoV) (e : Ending) (w' : World) : Prop :=
 (e = .returned (.tuple #[.slice none 0 0, .int .i64 1]) ∧ w.grownBy w' none ∧ ∀ s, ¬ Tells (nos ns) s) ∨
 ∃ s g vc n l, Tells (nos ns) s ∧ e = .returned (.tuple #[.slice (some ⟨g, 0, none⟩) n vc, .int .i64 0]) ∧ Lw w w' g vc n l ∧ l.length = n ∧ n = s.list.length ∧ (∀ X ∈ l, Xn w' w.heap.size X) ∧ ens l = s.list.map (enL (nos ns))
theorem le_nos {ns : List NoV} {s : Wk} (hN : ∃ w a n, Nos w a n ns) (h : Tells (nos ns) s) (hp : ∀ x ∈ s.list, x.path.length ≤ 4096) (hq : ∀ x ∈ s.list, ∀ q, x.src = .inr q → q.length ≤ 4096) : ∀ X ∈ s.list.map (evL ns), Xs X := by
 obtain ⟨w, a, n, hN⟩ := hN
 obtain ⟨c1, c2, ok⟩ := chk_ok.1 h.2.1
 have hsm := canon_sm ok c2
 rw [h.2.2] at hsm
 intro X hX
 obtain ⟨x, hx, rfl⟩ := List.mem_map.1 hX
 have hpx := hp x hx
 refine ⟨by rw [evL_path, tx_size]; omega, ?_, ?_, ?_, ?_⟩
 all_goals
  unfold evL
  cases hs : x.src with
  | inr q => first | (show (tx q).size ≤ _; rw [tx_size]; have := hq x hx q hs; omega) | exact Nat.zero_le _ | (intro A hA; cases hA)
  | inl i =>
   simp only
   cases hn : ns[i]? with
   | none => first | (show (tx []).size ≤ _; rw [tx_size]; simp) | exact Nat.zero_le _ | (intro A hA; cases hA)
   | some N =>
    have hm : N.no ∈ nos ns := List.mem_map.2 ⟨N, List.mem_of_getElem? hn, rfl⟩
    have sm := hsm N.no hm
    have hi := (List.getElem?_eq_some_iff.1 hn).1
    obtain ⟨b, off, -, k⟩ := hN.at_ (by rw [← hN.len_eq]; omega)
    have o := (k i N hn).ok
    first
    | (show N.target.size ≤ _; have := sm.t; rw [show N.no.target = N.target.toList from rfl, tl_len] at this; omega)
    | (show N.dl ≤ _; have := sm.d; rw [show N.no.data = N.data from rfl, o.row.len_eq] at this; omega)
    | (show N.al ≤ _; have := sm.a; rw [show N.no.attrs = N.attrs.map AtV.at from rfl, List.length_map, o.ats.len_eq] at this; omega)
    | (intro A hA
       have hA : A ∈ N.attrs := hA
       have := sm.e A.at (List.mem_map.2 ⟨A, hA, rfl⟩)
       have h2 := this.1
       rw [show A.at.n = A.n.toList from rfl, tl_len] at h2
       obtain ⟨j, hj⟩ := List.mem_iff_getElem?.1 hA
       have hjl := (List.getElem?_eq_some_iff.1 hj).1
       obtain ⟨b2, off2, -, k2⟩ := o.ats.at_ (by rw [← o.ats.len_eq]; omega)
       have h3 := (k2 j A hj).row.len_eq
       have h4 := this.2
       rw [show A.at.v = A.v from rfl, h3] at h4
       exact ⟨by omega, by omega⟩)
set_option maxHeartbeats 16000000 in
theorem plist_any (na : Option Addr) (n nc : Nat) (ns : List NoV) (w : World) (hN : Nos w na n ns) (hc : ∀ N ∈ ns, Ncp N) (hsm : ∀ s, meetP (nos ns) (n + 1) ⟨[], []⟩ 0 [] = some s → s.list.length ≤ 16384) :
  Calls Tryz.prog 15 #[.agg #[.slice na n nc]] w (LiPost w ns) := by
 have g0 := World.grownBy_alloc w (.cells #[.slice na n nc] 33) none
 have hlg := plisting_any na n nc ns _ (hN.grown g0) hc hsm
 have HN : Hid _ := And.intro hN (And.intro hc g0)
 clear hN hc hsm g0
 go_enter Tryz.func15, Tryz.ntmps15
 go_wp2_with fail
 refine hlg.mono ?_
 clear hlg
 rintro e W1 (⟨rfl, g1, hno⟩ | ⟨s, va, vc, hte, rfl, heo⟩)
 ·have HX : Hid _ := And.intro (grown_trans HN.out.2.2 g1) hno
  clear g1 hno
  go_wp2_with fail
  go_ret2
  exact Or.inl ⟨rfl, HX.out⟩
 ·have hnl : (nos ns).length = n := by rw [nos_len, HN.out.1.len_eq]
  have hmt := hte.1
  have hfew := tell_few hmt
  have hok := (meetP_ok _ ⟨[], []⟩ 0 [] s ⟨List.nodup_nil, fun x h => (by cases h), Nat.zero_le _, fun x h => (by cases h), fun x h => (by cases h)⟩ hmt).1
  have hxs := le_nos ⟨w, na, n, HN.out.1⟩ hte hok.pl hok.ql
  have hln := hok.le
  obtain ⟨old, hold⟩ : ∃ old, s.list.map (evL ns) = old := ⟨_, rfl⟩
  obtain ⟨m, hm⟩ : ∃ m, s.list.length = m := ⟨_, rfl⟩
  have hml : old.length = m := by rw [← hold, List.length_map, hm]
  rw [hold] at heo hxs
  rw [hm] at heo hfew hln
  obtain ⟨g, c, hv, -, -, -, -⟩ := heo.form (by intro e; rw [e] at hml; simp at hml; omega)
  injection hv with hv1 hv2 hv3
  subst hv1
  have hg0 := HN.out.2.2
  have hL0 : Lw w W1 g vc m old := ⟨grown_trans hg0 heo.gr, by have := heo.own; rw [hml] at this; exact owns_low11 this hg0.size⟩
  have hold2 : ∀ X ∈ old, X.ok w := fun X hX => by
   rw [← hold] at hX
   obtain ⟨x, -, rfl⟩ := List.mem_map.1 hX
   exact evL_ok HN.out.1 HN.out.2.1 x
  have hen : ens old = s.list.map (enL (nos ns)) := by rw [← hold]; exact ens_evL ns s.list
  have H0 : Hid _ := hL0
  have HO : Hid _ := And.intro hold2 (And.intro hxs (And.intro hml (And.intro hen (And.intro hte hm))))
  rw [hm]
  clear heo hv2 hv3 hL0 hold2 hxs hml hen hte hm hold hok hmt hnl hfew hg0
  obtain ⟨ie, hi, hz0, hz1, hz2⟩ := info_parts Tryz.infoE
  clear hi hz0 hz1 hz2
  go_wp2_with fail
  go_loopw [18] (fun v18 wr => ∃ k : Nat, k ≤ m ∧ v18 = .int .i64 k ∧ Hid (∃ new, new.length = k ∧ Lw w wr g vc m (new ++ old.drop k) ∧ (∀ X ∈ new, Xn wr w.heap.size X) ∧ ens new = ens (old.take k))) (fun v18 _ => m - (intOf v18).toNat)
  case atStart => exact ⟨0, Nat.zero_le _, rfl, [], rfl, by rw [List.nil_append, List.drop_zero]; exact H0.out, fun X h => (by cases h), rfl⟩
  case round =>
   clear H0
   obtain ⟨k, hk, rfl, HI⟩ := hrel
   obtain ⟨new, hnl, hL, hnw, hne⟩ := HI.out
   clear HI
   by_cases hlt : k < m
   ·obtain ⟨X, hX⟩ : ∃ X, old[k]? = some X := ⟨_, List.getElem?_eq_getElem (by rw [HO.out.2.2.1]; exact hlt)⟩
    have hXa := app_at hnl hX
    have hXo := HO.out.1 X (List.mem_of_getElem? hX)
    have hXs := HO.out.2.1 X (List.mem_of_getElem? hX)
    have hll : (new ++ old.drop k).length = m := by rw [List.length_append, hnl, List.length_drop, HO.out.2.2.1]; omega
    have hsetX := fun X' => app_set (X' := X') hnl hX
    have htk : ens (old.take (k + 1)) = ens (old.take k) ++ [X.en] := by
     unfold ens
     rw [take_succ' hX, List.map_append]; rfl
    have hlti : (k : Int) < (m : Int) := by omega
    have HC : Hid _ := And.intro hnl (And.intro hne (And.intro htk (And.intro hXa (And.intro hll hsetX))))
    obtain ⟨L, hLL⟩ : ∃ L, new ++ old.drop k = L := ⟨_, rfl⟩
    rw [hLL] at hL hXa hll HC
    have HLL : Hid _ := hLL
    have HXO : Hid _ := And.intro hXo hXs
    clear hnl hne htk hsetX hLL hX hXo hXs
    obtain ⟨path, KY, mode, uid, gid, time, size, da, dl, dc, data, target, dev, aa, al, ac, attrs⟩ := X
    have HV : Hid _ := And.intro hL (And.intro hnw (And.intro hXa hll))
    clear hL hnw hXa hll
    go_wp2_with fail
    obtain ⟨hL, hnw, hXa, hll⟩ := HV.out
    clear HV
    have gD : wr.grownBy wr.drew none := drewG0 wr
    replace hL := hL.kept gD
    replace hnw := fun Y hY => (hnw Y hY).kept gD
    have hS0 : Lw w wr.drew g vc m L := hL
    refine wp_region_held_drew (S := fun w' => Lw w w' g vc m L) (by kernel_rfl) hL (fun hH => ?_)
    generalize wr.drew = WD at *
    have hps : path.size ≤ 1000000 := HXO.out.2.p
    have hts : target.size ≤ 1000000 := HXO.out.2.t
    have hc0 : ∀ W, Lw w W g vc m L → W.cell? ⟨g, k * 11, none⟩ = some (.string path) := fun W h => by
     have e := h.cell hll hXa (f := 0) (by decide)
     rw [Nat.add_zero] at e
     rw [e]; rfl
    have hc8 : ∀ W, Lw w W g vc m L → W.cell? ⟨g, k * 11 + 8, none⟩ = some (.string target) := fun W h => by
     rw [h.cell hll hXa (f := 8) (by decide)]; rfl
    clear hS0
    refine wpAnyH_take (i := 0) (oi := ⟨some 24, _, _, _, _, _⟩) (v := .pointer (some ⟨g, k * 11, none⟩)) rfl (by kernel_rfl) (by kernel_rfl) (by kernel_rfl) (fun _ _ _ h => h) (Or.inl ⟨by rfl, fun w hSw => by go_simp⟩) hH ?_
    simp only [Act.put, pu]
    refine wpAnyH_take (i := 1) (oi := ⟨some 25, _, _, _, _, _⟩) (v := .pointer (some ⟨g, k * 11, none⟩)) rfl (by kernel_rfl) (by kernel_rfl) (by kernel_rfl) (fun _ _ _ h => h) (Or.inl ⟨by rfl, fun w hSw => by go_simp⟩) hH ?_
    simp only [Act.put, pu]
    refine wpAnyH_take (i := 2) (oi := ⟨some 26, _, _, _, _, _⟩) (v := .pointer (some ⟨g, k * 11, none⟩)) rfl (by kernel_rfl) (by kernel_rfl) (by kernel_rfl) (fun _ _ _ h => h) (Or.inl ⟨by rfl, fun w hSw => by go_simp⟩) hH ?_
    simp only [Act.put, pu]
    refine wpAnyH_take (i := 3) (oi := ⟨some 27, _, _, _, _, _⟩) (v := .pointer (some ⟨g, k * 11, none⟩)) rfl (by kernel_rfl) (by kernel_rfl) (by kernel_rfl) (fun _ _ _ h => h) (Or.inl ⟨by rfl, fun w hSw => by go_simp⟩) hH ?_
    simp only [Act.put, pu]
    refine wpAnyH_take (i := 4) (oi := ⟨some 28, _, _, _, _, _⟩) (v := .pointer (some ⟨g, k * 11, none⟩)) rfl (by kernel_rfl) (by kernel_rfl) (by kernel_rfl) (fun _ _ _ h => h) (Or.inl ⟨by rfl, fun w hSw => by go_simp⟩) hH ?_
    simp only [Act.put, pu]
    refine wpAnyH_take (i := 5) (oi := ⟨some 29, _, _, _, _, _⟩) (v := .string path) rfl (by kernel_rfl) (by kernel_rfl) (by kernel_rfl) (fun _ _ _ h => h) (Or.inl ⟨by rfl, fun w hSw => by have c0 := hc0 _ hSw; go_simp⟩) hH ?_
    simp only [Act.put, pu]
    refine wpAnyH_take (i := 7) (oi := ⟨some 31, _, _, _, _, _⟩) (v := .pointer (some ⟨g, k * 11, none⟩)) rfl (by kernel_rfl) (by kernel_rfl) (by kernel_rfl) (fun _ _ _ h => h) (Or.inl ⟨by rfl, fun w hSw => by go_simp⟩) hH ?_
    simp only [Act.put, pu]
    refine wpAnyH_take (i := 8) (oi := ⟨some 32, _, _, _, _, _⟩) (v := .pointer (some ⟨g, k * 11, none⟩)) rfl (by kernel_rfl) (by kernel_rfl) (by kernel_rfl) (fun _ _ _ h => h) (Or.inl ⟨by rfl, fun w hSw => by go_simp⟩) hH ?_
    simp only [Act.put, pu]
    refine wpAnyH_take (i := 9) (oi := ⟨some 33, _, _, _, _, _⟩) (v := .pointer (some ⟨g, k * 11 + 8, none⟩)) rfl (by kernel_rfl) (by kernel_rfl) (by kernel_rfl) (fun _ _ _ h => h) (Or.inl ⟨by rfl, fun w hSw => by go_simp⟩) hH ?_
    simp only [Act.put, pu]
    refine wpAnyH_take (i := 10) (oi := ⟨some 34, _, _, _, _, _⟩) (v := .string target) rfl (by kernel_rfl) (by kernel_rfl) (by kernel_rfl) (fun _ _ _ h => h) (Or.inl ⟨by rfl, fun w hSw => by have c8 := hc8 _ hSw; go_simp⟩) hH ?_
    simp only [Act.put, pu]
    refine wpAnyH_ready (rs := [6]) (by kernel_rfl) (by simp) ?_
    refine AllReadyH.cons rfl (fun K1 hK => ?_) AllReadyH.nil
    go_simp
    go_wp2_with (go_at_call 43; refine (psclone_any path _ hps).mono ?_; rintro e W2 ⟨rfl, g2⟩)
    replace hL := hL.kept g2
    replace hnw := fun Y hY => (hnw Y hY).kept g2
    replace hH := hL
    clear g2
    refine hK.out _ _ hH (fun _ => ?_)
    clear hK K1
    refine wpAnyH_ready (rs := [11]) (by kernel_rfl) (by simp) ?_
    refine AllReadyH.cons rfl (fun K1 hK => ?_) AllReadyH.nil
    go_simp
    go_wp2_with (go_at_call 43; refine (psclone_any target _ hts).mono ?_; rintro e W3 ⟨rfl, g2⟩)
    replace hL := hL.kept g2
    replace hnw := fun Y hY => (hnw Y hY).kept g2
    replace hH := hL
    clear g2
    refine hK.out _ _ hH (fun _ => ?_)
    clear hK K1
    refine wpAnyH_take (i := 12) (oi := ⟨some 36, _, _, _, _, _⟩) (v := .pointer (some ⟨g, k * 11, none⟩)) rfl (by kernel_rfl) (by kernel_rfl) (by kernel_rfl) (fun _ _ _ h => h) (Or.inl ⟨by rfl, fun w hSw => by go_simp⟩) hH ?_
    simp only [Act.put, pu]
    refine wpAnyH_take (i := 13) (oi := ⟨some 37, _, _, _, _, _⟩) (v := .pointer (some ⟨g, k * 11, none⟩)) rfl (by kernel_rfl) (by kernel_rfl) (by kernel_rfl) (fun _ _ _ h => h) (Or.inl ⟨by rfl, fun w hSw => by go_simp⟩) hH ?_
    simp only [Act.put, pu]
    refine wpAnyH_ready (rs := [14]) (by kernel_rfl) (by simp) ?_
    refine AllReadyH.cons rfl (fun K1 hK => ?_) AllReadyH.nil
    have cc := hc0 _ hL
    have ff : W3.frozen? ⟨g, k * 11, none⟩ = false := hL.own.frozenAt _
    obtain ⟨hL2, hg2⟩ := hL.set hll hXa (f := 0) (X' := ⟨path, KY, mode, uid, gid, time, size, da, dl, dc, data, target, dev, aa, al, ac, attrs⟩) (u := (.string path)) (by decide) rfl
    rw [set_id hXa, Nat.add_zero] at hL2
    rw [Nat.add_zero] at hg2
    replace hnw := fun Y hY => (hnw Y hY).other hL.own (by decide) (by decide) hg2
    go_simp
    refine hK.out _ _ hL2 (fun _ => ?_)
    replace hL := hL2
    replace hH := hL2
    clear hK K1 cc ff hL2 hg2
    generalize W3.setCell ⟨g, k * 11, none⟩ (.string path) = W4 at *
    refine wpAnyH_take (i := 15) (oi := ⟨some 38, _, _, _, _, _⟩) (v := .pointer (some ⟨g, k * 11, none⟩)) rfl (by kernel_rfl) (by kernel_rfl) (by kernel_rfl) (fun _ _ _ h => h) (Or.inl ⟨by rfl, fun w hSw => by go_simp⟩) hH ?_
    simp only [Act.put, pu]
    refine wpAnyH_take (i := 16) (oi := ⟨some 39, _, _, _, _, _⟩) (v := .pointer (some ⟨g, k * 11 + 8, none⟩)) rfl (by kernel_rfl) (by kernel_rfl) (by kernel_rfl) (fun _ _ _ h => h) (Or.inl ⟨by rfl, fun w hSw => by go_simp⟩) hH ?_
    simp only [Act.put, pu]
    refine wpAnyH_ready (rs := [17]) (by kernel_rfl) (by simp) ?_
    refine AllReadyH.cons rfl (fun K1 hK => ?_) AllReadyH.nil
    have cc := hc8 _ hL
    have ff : W4.frozen? ⟨g, k * 11 + 8, none⟩ = false := hL.own.frozenAt _
    obtain ⟨hL2, hg2⟩ := hL.set hll hXa (f := 8) (X' := ⟨path, KY, mode, uid, gid, time, size, da, dl, dc, data, target, dev, aa, al, ac, attrs⟩) (u := (.string target)) (by decide) rfl
    rw [set_id hXa] at hL2
    replace hnw := fun Y hY => (hnw Y hY).other hL.own (by decide) (by decide) hg2
    go_simp
    refine hK.out _ _ hL2 (fun _ => ?_)
    replace hL := hL2
    replace hH := hL2
    clear hK K1 cc ff hL2 hg2
    generalize W4.setCell ⟨g, k * 11 + 8, none⟩ (.string target) = W5 at *
    refine wpAnyH_done (by kernel_rfl) ?_ _
    clear hc0 hc8 hH
    have HV : Hid _ := And.intro hL (And.intro hnw (And.intro hXa hll))
    clear hL hnw hXa hll
    go_wp2_with fail
    obtain ⟨hL, hnw, hXa, hll⟩ := HV.out
    clear HV
    replace hL := hL.kept (drewG0 W5)
    replace hnw := fun Y hY => (hnw Y hY).kept (drewG0 W5)
    refine wp_region_held_drew (S := fun w' => w.grownBy w' none) (by kernel_rfl) hL.gr (fun hH => ?_)
    generalize W5.drew = WD at *
    have hbc := fun W (gq : w.grownBy W none) => pclone_any da dl dc data W (HXO.out.1.row.grown gq) HXO.out.2.d
    have hcp := fun W (gq : w.grownBy W none) => pcopied_any aa al ac attrs W (HXO.out.1.ats.grown gq) HXO.out.2.a HXO.out.2.e
    have HBY : Hid _ := HXO.out.1.row.byt
    have hc7 : ∀ W, Lw w W g vc m L → W.cell? ⟨g, k * 11 + 7, none⟩ = some (.slice da dl dc) := fun W h => by
     rw [h.cell hll hXa (f := 7) (by decide)]; rfl
    have hc10 : ∀ W, Lw w W g vc m L → W.cell? ⟨g, k * 11 + 10, none⟩ = some (.slice aa al ac) := fun W h => by
     rw [h.cell hll hXa (f := 10) (by decide)]; rfl
    refine wpAnyH_take (i := 0) (oi := ⟨some 40, _, _, _, _, _⟩) (v := .pointer (some ⟨g, k * 11, none⟩)) rfl (by kernel_rfl) (by kernel_rfl) (by kernel_rfl) (fun _ _ _ h => h) (Or.inl ⟨by rfl, fun w hSw => by go_simp⟩) hH ?_
    simp only [Act.put, pu]
    refine wpAnyH_take (i := 1) (oi := ⟨some 41, _, _, _, _, _⟩) (v := .pointer (some ⟨g, k * 11, none⟩)) rfl (by kernel_rfl) (by kernel_rfl) (by kernel_rfl) (fun _ _ _ h => h) (Or.inl ⟨by rfl, fun w hSw => by go_simp⟩) hH ?_
    simp only [Act.put, pu]
    refine wpAnyH_take (i := 2) (oi := ⟨some 42, _, _, _, _, _⟩) (v := .pointer (some ⟨g, k * 11, none⟩)) rfl (by kernel_rfl) (by kernel_rfl) (by kernel_rfl) (fun _ _ _ h => h) (Or.inl ⟨by rfl, fun w hSw => by go_simp⟩) hH ?_
    simp only [Act.put, pu]
    refine wpAnyH_take (i := 3) (oi := ⟨some 43, _, _, _, _, _⟩) (v := .pointer (some ⟨g, k * 11, none⟩)) rfl (by kernel_rfl) (by kernel_rfl) (by kernel_rfl) (fun _ _ _ h => h) (Or.inl ⟨by rfl, fun w hSw => by go_simp⟩) hH ?_
    simp only [Act.put, pu]
    refine wpAnyH_take (i := 4) (oi := ⟨some 44, _, _, _, _, _⟩) (v := .pointer (some ⟨g, k * 11 + 7, none⟩)) rfl (by kernel_rfl) (by kernel_rfl) (by kernel_rfl) (fun _ _ _ h => h) (Or.inl ⟨by rfl, fun w hSw => by go_simp⟩) hH ?_
    simp only [Act.put, pu]
    refine wpAnyH_take (i := 7) (oi := ⟨some 47, _, _, _, _, _⟩) (v := .pointer (some ⟨g, k * 11, none⟩)) rfl (by kernel_rfl) (by kernel_rfl) (by kernel_rfl) (fun _ _ _ h => h) (Or.inl ⟨by rfl, fun w hSw => by go_simp⟩) hH ?_
    simp only [Act.put, pu]
    refine wpAnyH_take (i := 8) (oi := ⟨some 48, _, _, _, _, _⟩) (v := .pointer (some ⟨g, k * 11, none⟩)) rfl (by kernel_rfl) (by kernel_rfl) (by kernel_rfl) (fun _ _ _ h => h) (Or.inl ⟨by rfl, fun w hSw => by go_simp⟩) hH ?_
    simp only [Act.put, pu]
    refine wpAnyH_take (i := 9) (oi := ⟨some 49, _, _, _, _, _⟩) (v := .pointer (some ⟨g, k * 11 + 10, none⟩)) rfl (by kernel_rfl) (by kernel_rfl) (by kernel_rfl) (fun _ _ _ h => h) (Or.inl ⟨by rfl, fun w hSw => by go_simp⟩) hH ?_
    simp only [Act.put, pu]
    refine wpAnyH_ready (rs := [5, 10]) (by kernel_rfl) (by simp) ?_
    refine AllReadyH.cons rfl (fun K1 hK => ?_) (AllReadyH.cons rfl (fun K1 hK => ?_) AllReadyH.nil)
    ·skip
     have cx := hc7 _ hL
     go_simp
     refine hK.out _ _ hH (fun _ => ?_)
     clear hK K1 cx
     refine wpAnyH_ready (rs := [6, 10]) (by kernel_rfl) (by simp) ?_
     refine AllReadyH.cons rfl (fun K1 hK => ?_) (AllReadyH.cons rfl (fun K1 hK => ?_) AllReadyH.nil)
     ·skip
      go_simp
      go_wp2_with (go_at_call 44; refine (hbc _ hH).mono ?_; rintro e W6 ⟨v6, rfl, ho6, g6⟩)
      obtain ⟨ca, cc, rfl⟩ := own_shape ho6
      have hob : OwnB W6 w.heap.size ca dl cc data := ⟨owns_low11 ho6 hH.size, HBY.out⟩
      replace hL := hL.kept g6
      replace hnw := fun Y hY => (hnw Y hY).kept g6
      replace hH := hL.gr
      clear g6 ho6
      refine hK.out _ _ hH (fun _ => ?_)
      clear hK K1
      refine wpAnyH_ready (rs := [10]) (by kernel_rfl) (by simp) ?_
      refine AllReadyH.cons rfl (fun K1 hK => ?_) AllReadyH.nil
      have cx := hc10 _ hL
      go_simp
      refine hK.out _ _ hH (fun _ => ?_)
      clear hK K1 cx
      refine wpAnyH_ready (rs := [11]) (by kernel_rfl) (by simp) ?_
      refine AllReadyH.cons rfl (fun K1 hK => ?_) AllReadyH.nil
      go_simp
      have hcp2 := hcp _ hH
      unfold CpPost at hcp2
      go_wp2_with (go_at_call 45; refine hcp2.mono ?_; rintro e W7 ⟨v7, out, rfl, hC7, hat7⟩)
      obtain ⟨a2, c2, rfl⟩ := own_shape hC7.own
      have har : Ar W7 w.heap.size (.slice a2 out.length c2) out := ⟨owns_low11 hC7.own hH.size, fun A hA => (hC7.rows A hA).low hH.size⟩
      have g7 := hC7.gr
      replace hob := hob.kept g7
      replace hL := hL.kept g7
      replace hnw := fun Y hY => (hnw Y hY).kept g7
      replace hH := hL.gr
      clear g7 hC7 hcp2
      refine hK.out _ _ hH (fun _ => ?_)
      clear hK K1
      refine wpAnyH_take (i := 12) (oi := ⟨some 52, _, _, _, _, _⟩) (v := .pointer (some ⟨g, k * 11, none⟩)) rfl (by kernel_rfl) (by kernel_rfl) (by kernel_rfl) (fun _ _ _ h => h) (Or.inl ⟨by rfl, fun w hSw => by go_simp⟩) hH ?_
      simp only [Act.put, pu]
      refine wpAnyH_take (i := 13) (oi := ⟨some 53, _, _, _, _, _⟩) (v := .pointer (some ⟨g, k * 11 + 7, none⟩)) rfl (by kernel_rfl) (by kernel_rfl) (by kernel_rfl) (fun _ _ _ h => h) (Or.inl ⟨by rfl, fun w hSw => by go_simp⟩) hH ?_
      simp only [Act.put, pu]
      refine wpAnyH_ready (rs := [14]) (by kernel_rfl) (by simp) ?_
      refine AllReadyH.cons rfl (fun K1 hK => ?_) AllReadyH.nil
      have cx := hc7 _ hL
      have fx : W7.frozen? ⟨g, k * 11 + 7, none⟩ = false := hL.own.frozenAt _
      obtain ⟨hL2, hg2⟩ := hL.set hll hXa (f := 7) (X' := ⟨path, KY, mode, uid, gid, time, size, ca, dl, cc, data, target, dev, aa, al, ac, attrs⟩) (u := .slice ca dl cc) (by decide) rfl
      replace hnw := fun Y hY => (hnw Y hY).other hL.own (by decide) (by decide) hg2
      replace hob := hob.other hL.own (by decide) hg2
      replace har := har.other hL.own (by decide) (by decide) hg2
      have c10 := hc10 _ hL
      go_simp
      refine hK.out _ _ hL2.gr (fun _ => ?_)
      replace hH := hL2.gr
      clear hK K1 cx fx hL c10
      generalize W7.setCell ⟨g, k * 11 + 7, none⟩ (.slice ca dl cc) = W8 at *
      refine wpAnyH_take (i := 15) (oi := ⟨some 54, _, _, _, _, _⟩) (v := .pointer (some ⟨g, k * 11, none⟩)) rfl (by kernel_rfl) (by kernel_rfl) (by kernel_rfl) (fun _ _ _ h => h) (Or.inl ⟨by rfl, fun w hSw => by go_simp⟩) hH ?_
      simp only [Act.put, pu]
      refine wpAnyH_take (i := 16) (oi := ⟨some 55, _, _, _, _, _⟩) (v := .pointer (some ⟨g, k * 11 + 10, none⟩)) rfl (by kernel_rfl) (by kernel_rfl) (by kernel_rfl) (fun _ _ _ h => h) (Or.inl ⟨by rfl, fun w hSw => by go_simp⟩) hH ?_
      simp only [Act.put, pu]
      refine wpAnyH_ready (rs := [17]) (by kernel_rfl) (by simp) ?_
      refine AllReadyH.cons rfl (fun K1 hK => ?_) AllReadyH.nil
      have hXb : (L.set k ⟨path, KY, mode, uid, gid, time, size, ca, dl, cc, data, target, dev, aa, al, ac, attrs⟩)[k]? = some ⟨path, KY, mode, uid, gid, time, size, ca, dl, cc, data, target, dev, aa, al, ac, attrs⟩ := by rw [List.getElem?_set_self (by rw [hll]; exact hlt)]
      have hlb : (L.set k ⟨path, KY, mode, uid, gid, time, size, ca, dl, cc, data, target, dev, aa, al, ac, attrs⟩).length = m := by rw [List.length_set]; exact hll
      have cx : W8.cell? ⟨g, k * 11 + 10, none⟩ = some (.slice aa al ac) := by rw [hL2.cell hlb hXb (f := 10) (by decide)]; rfl
      have fx : W8.frozen? ⟨g, k * 11 + 10, none⟩ = false := hL2.own.frozenAt _
      obtain ⟨hL3, hg3⟩ := hL2.set hlb hXb (f := 10) (X' := ⟨path, KY, mode, uid, gid, time, size, ca, dl, cc, data, target, dev, a2, out.length, c2, out⟩) (u := .slice a2 out.length c2) (by decide) rfl
      replace hnw := fun Y hY => (hnw Y hY).other hL2.own (by decide) (by decide) hg3
      replace hob := hob.other hL2.own (by decide) hg3
      replace har := har.other hL2.own (by decide) (by decide) hg3
      go_simp
      refine hK.out _ _ hL3.gr (fun _ => ?_)
      clear hK K1 cx fx hL2 hXb hlb
      generalize W8.setCell ⟨g, k * 11 + 10, none⟩ (.slice a2 out.length c2) = W9 at *
      refine wpAnyH_done (by kernel_rfl) ?_ _
      rw [List.set_set, HC.out.2.2.2.2.2] at hL3
      have hI : Hid (∃ new, new.length = k + 1 ∧ Lw w W9 g vc m (new ++ old.drop (k + 1)) ∧ (∀ X ∈ new, Xn W9 w.heap.size X) ∧ ens new = ens (old.take (k + 1))) := by
       refine ⟨new ++ [⟨path, KY, mode, uid, gid, time, size, ca, dl, cc, data, target, dev, a2, out.length, c2, out⟩], by rw [List.length_append, HC.out.1]; rfl, hL3, fun Y hY => ?_, ?_⟩
       ·rcases List.mem_append.1 hY with hY | hY
        ·exact hnw Y hY
        ·rw [List.mem_singleton] at hY
         subst hY
         exact ⟨hob, har, rfl⟩
       ·rw [HC.out.2.2.1, ← HC.out.2.1]
        unfold ens
        rw [List.map_append, List.map_cons, List.map_nil]
        congr 1
        show [EnV.en ⟨path, KY, mode, uid, gid, time, size, ca, dl, cc, data, target, dev, a2, out.length, c2, out⟩] = [EnV.en ⟨path, KY, mode, uid, gid, time, size, da, dl, dc, data, target, dev, aa, al, ac, attrs⟩]
        unfold EnV.en
        simp only [hat7]
      clear hL3 hnw hob har hat7 hH hXa hll
      go_wp2_with fail
      have hk1 : ((k : Int) + 1) = ((k + 1 : Nat) : Int) := by omega
      rw [hk1]
      refine ⟨⟨k + 1, hlt, rfl, hI⟩, ?_⟩
      simp only [intOf, Int.toNat_natCast]
      exact Nat.sub_lt_sub_left hlt (Nat.lt_succ_self k)
     ·skip
      have cx := hc10 _ hL
      go_simp
      refine hK.out _ _ hH (fun _ => ?_)
      clear hK K1 cx
      refine wpAnyH_ready (rs := [6]) (by kernel_rfl) (by simp) ?_
      refine AllReadyH.cons rfl (fun K1 hK => ?_) AllReadyH.nil
      go_simp
      go_wp2_with (go_at_call 44; refine (hbc _ hH).mono ?_; rintro e W6 ⟨v6, rfl, ho6, g6⟩)
      obtain ⟨ca, cc, rfl⟩ := own_shape ho6
      have hob : OwnB W6 w.heap.size ca dl cc data := ⟨owns_low11 ho6 hH.size, HBY.out⟩
      replace hL := hL.kept g6
      replace hnw := fun Y hY => (hnw Y hY).kept g6
      replace hH := hL.gr
      clear g6 ho6
      refine hK.out _ _ hH (fun _ => ?_)
      clear hK K1
      refine wpAnyH_ready (rs := [11]) (by kernel_rfl) (by simp) ?_
      refine AllReadyH.cons rfl (fun K1 hK => ?_) AllReadyH.nil
      go_simp
      have hcp2 := hcp _ hH
      unfold CpPost at hcp2
      go_wp2_with (go_at_call 45; refine hcp2.mono ?_; rintro e W7 ⟨v7, out, rfl, hC7, hat7⟩)
      obtain ⟨a2, c2, rfl⟩ := own_shape hC7.own
      have har : Ar W7 w.heap.size (.slice a2 out.length c2) out := ⟨owns_low11 hC7.own hH.size, fun A hA => (hC7.rows A hA).low hH.size⟩
      have g7 := hC7.gr
      replace hob := hob.kept g7
      replace hL := hL.kept g7
      replace hnw := fun Y hY => (hnw Y hY).kept g7
      replace hH := hL.gr
      clear g7 hC7 hcp2
      refine hK.out _ _ hH (fun _ => ?_)
      clear hK K1
      refine wpAnyH_take (i := 12) (oi := ⟨some 52, _, _, _, _, _⟩) (v := .pointer (some ⟨g, k * 11, none⟩)) rfl (by kernel_rfl) (by kernel_rfl) (by kernel_rfl) (fun _ _ _ h => h) (Or.inl ⟨by rfl, fun w hSw => by go_simp⟩) hH ?_
      simp only [Act.put, pu]
      refine wpAnyH_take (i := 13) (oi := ⟨some 53, _, _, _, _, _⟩) (v := .pointer (some ⟨g, k * 11 + 7, none⟩)) rfl (by kernel_rfl) (by kernel_rfl) (by kernel_rfl) (fun _ _ _ h => h) (Or.inl ⟨by rfl, fun w hSw => by go_simp⟩) hH ?_
      simp only [Act.put, pu]
      refine wpAnyH_ready (rs := [14]) (by kernel_rfl) (by simp) ?_
      refine AllReadyH.cons rfl (fun K1 hK => ?_) AllReadyH.nil
      have cx := hc7 _ hL
      have fx : W7.frozen? ⟨g, k * 11 + 7, none⟩ = false := hL.own.frozenAt _
      obtain ⟨hL2, hg2⟩ := hL.set hll hXa (f := 7) (X' := ⟨path, KY, mode, uid, gid, time, size, ca, dl, cc, data, target, dev, aa, al, ac, attrs⟩) (u := .slice ca dl cc) (by decide) rfl
      replace hnw := fun Y hY => (hnw Y hY).other hL.own (by decide) (by decide) hg2
      replace hob := hob.other hL.own (by decide) hg2
      replace har := har.other hL.own (by decide) (by decide) hg2
      have c10 := hc10 _ hL
      go_simp
      refine hK.out _ _ hL2.gr (fun _ => ?_)
      replace hH := hL2.gr
      clear hK K1 cx fx hL c10
      generalize W7.setCell ⟨g, k * 11 + 7, none⟩ (.slice ca dl cc) = W8 at *
      refine wpAnyH_take (i := 15) (oi := ⟨some 54, _, _, _, _, _⟩) (v := .pointer (some ⟨g, k * 11, none⟩)) rfl (by kernel_rfl) (by kernel_rfl) (by kernel_rfl) (fun _ _ _ h => h) (Or.inl ⟨by rfl, fun w hSw => by go_simp⟩) hH ?_
      simp only [Act.put, pu]
      refine wpAnyH_take (i := 16) (oi := ⟨some 55, _, _, _, _, _⟩) (v := .pointer (some ⟨g, k * 11 + 10, none⟩)) rfl (by kernel_rfl) (by kernel_rfl) (by kernel_rfl) (fun _ _ _ h => h) (Or.inl ⟨by rfl, fun w hSw => by go_simp⟩) hH ?_
      simp only [Act.put, pu]
      refine wpAnyH_ready (rs := [17]) (by kernel_rfl) (by simp) ?_
      refine AllReadyH.cons rfl (fun K1 hK => ?_) AllReadyH.nil
      have hXb : (L.set k ⟨path, KY, mode, uid, gid, time, size, ca, dl, cc, data, target, dev, aa, al, ac, attrs⟩)[k]? = some ⟨path, KY, mode, uid, gid, time, size, ca, dl, cc, data, target, dev, aa, al, ac, attrs⟩ := by rw [List.getElem?_set_self (by rw [hll]; exact hlt)]
      have hlb : (L.set k ⟨path, KY, mode, uid, gid, time, size, ca, dl, cc, data, target, dev, aa, al, ac, attrs⟩).length = m := by rw [List.length_set]; exact hll
      have cx : W8.cell? ⟨g, k * 11 + 10, none⟩ = some (.slice aa al ac) := by rw [hL2.cell hlb hXb (f := 10) (by decide)]; rfl
      have fx : W8.frozen? ⟨g, k * 11 + 10, none⟩ = false := hL2.own.frozenAt _
      obtain ⟨hL3, hg3⟩ := hL2.set hlb hXb (f := 10) (X' := ⟨path, KY, mode, uid, gid, time, size, ca, dl, cc, data, target, dev, a2, out.length, c2, out⟩) (u := .slice a2 out.length c2) (by decide) rfl
      replace hnw := fun Y hY => (hnw Y hY).other hL2.own (by decide) (by decide) hg3
      replace hob := hob.other hL2.own (by decide) hg3
      replace har := har.other hL2.own (by decide) (by decide) hg3
      go_simp
      refine hK.out _ _ hL3.gr (fun _ => ?_)
      clear hK K1 cx fx hL2 hXb hlb
      generalize W8.setCell ⟨g, k * 11 + 10, none⟩ (.slice a2 out.length c2) = W9 at *
      refine wpAnyH_done (by kernel_rfl) ?_ _
      rw [List.set_set, HC.out.2.2.2.2.2] at hL3
      have hI : Hid (∃ new, new.length = k + 1 ∧ Lw w W9 g vc m (new ++ old.drop (k + 1)) ∧ (∀ X ∈ new, Xn W9 w.heap.size X) ∧ ens new = ens (old.take (k + 1))) := by
       refine ⟨new ++ [⟨path, KY, mode, uid, gid, time, size, ca, dl, cc, data, target, dev, a2, out.length, c2, out⟩], by rw [List.length_append, HC.out.1]; rfl, hL3, fun Y hY => ?_, ?_⟩
       ·rcases List.mem_append.1 hY with hY | hY
        ·exact hnw Y hY
        ·rw [List.mem_singleton] at hY
         subst hY
         exact ⟨hob, har, rfl⟩
       ·rw [HC.out.2.2.1, ← HC.out.2.1]
        unfold ens
        rw [List.map_append, List.map_cons, List.map_nil]
        congr 1
        show [EnV.en ⟨path, KY, mode, uid, gid, time, size, ca, dl, cc, data, target, dev, a2, out.length, c2, out⟩] = [EnV.en ⟨path, KY, mode, uid, gid, time, size, da, dl, dc, data, target, dev, aa, al, ac, attrs⟩]
        unfold EnV.en
        simp only [hat7]
      clear hL3 hnw hob har hat7 hH hXa hll
      go_wp2_with fail
      have hk1 : ((k : Int) + 1) = ((k + 1 : Nat) : Int) := by omega
      rw [hk1]
      refine ⟨⟨k + 1, hlt, rfl, hI⟩, ?_⟩
      simp only [intOf, Int.toNat_natCast]
      exact Nat.sub_lt_sub_left hlt (Nat.lt_succ_self k)
    ·skip
     have cx := hc10 _ hL
     go_simp
     refine hK.out _ _ hH (fun _ => ?_)
     clear hK K1 cx
     refine wpAnyH_ready (rs := [5]) (by kernel_rfl) (by simp) ?_
     refine AllReadyH.cons rfl (fun K1 hK => ?_) AllReadyH.nil
     have cx := hc7 _ hL
     go_simp
     refine hK.out _ _ hH (fun _ => ?_)
     clear hK K1 cx
     refine wpAnyH_ready (rs := [6]) (by kernel_rfl) (by simp) ?_
     refine AllReadyH.cons rfl (fun K1 hK => ?_) AllReadyH.nil
     go_simp
     go_wp2_with (go_at_call 44; refine (hbc _ hH).mono ?_; rintro e W6 ⟨v6, rfl, ho6, g6⟩)
     obtain ⟨ca, cc, rfl⟩ := own_shape ho6
     have hob : OwnB W6 w.heap.size ca dl cc data := ⟨owns_low11 ho6 hH.size, HBY.out⟩
     replace hL := hL.kept g6
     replace hnw := fun Y hY => (hnw Y hY).kept g6
     replace hH := hL.gr
     clear g6 ho6
     refine hK.out _ _ hH (fun _ => ?_)
     clear hK K1
     refine wpAnyH_ready (rs := [11]) (by kernel_rfl) (by simp) ?_
     refine AllReadyH.cons rfl (fun K1 hK => ?_) AllReadyH.nil
     go_simp
     have hcp2 := hcp _ hH
     unfold CpPost at hcp2
     go_wp2_with (go_at_call 45; refine hcp2.mono ?_; rintro e W7 ⟨v7, out, rfl, hC7, hat7⟩)
     obtain ⟨a2, c2, rfl⟩ := own_shape hC7.own
     have har : Ar W7 w.heap.size (.slice a2 out.length c2) out := ⟨owns_low11 hC7.own hH.size, fun A hA => (hC7.rows A hA).low hH.size⟩
     have g7 := hC7.gr
     replace hob := hob.kept g7
     replace hL := hL.kept g7
     replace hnw := fun Y hY => (hnw Y hY).kept g7
     replace hH := hL.gr
     clear g7 hC7 hcp2
     refine hK.out _ _ hH (fun _ => ?_)
     clear hK K1
     refine wpAnyH_take (i := 12) (oi := ⟨some 52, _, _, _, _, _⟩) (v := .pointer (some ⟨g, k * 11, none⟩)) rfl (by kernel_rfl) (by kernel_rfl) (by kernel_rfl) (fun _ _ _ h => h) (Or.inl ⟨by rfl, fun w hSw => by go_simp⟩) hH ?_
     simp only [Act.put, pu]
     refine wpAnyH_take (i := 13) (oi := ⟨some 53, _, _, _, _, _⟩) (v := .pointer (some ⟨g, k * 11 + 7, none⟩)) rfl (by kernel_rfl) (by kernel_rfl) (by kernel_rfl) (fun _ _ _ h => h) (Or.inl ⟨by rfl, fun w hSw => by go_simp⟩) hH ?_
     simp only [Act.put, pu]
     refine wpAnyH_ready (rs := [14]) (by kernel_rfl) (by simp) ?_
     refine AllReadyH.cons rfl (fun K1 hK => ?_) AllReadyH.nil
     have cx := hc7 _ hL
     have fx : W7.frozen? ⟨g, k * 11 + 7, none⟩ = false := hL.own.frozenAt _
     obtain ⟨hL2, hg2⟩ := hL.set hll hXa (f := 7) (X' := ⟨path, KY, mode, uid, gid, time, size, ca, dl, cc, data, target, dev, aa, al, ac, attrs⟩) (u := .slice ca dl cc) (by decide) rfl
     replace hnw := fun Y hY => (hnw Y hY).other hL.own (by decide) (by decide) hg2
     replace hob := hob.other hL.own (by decide) hg2
     replace har := har.other hL.own (by decide) (by decide) hg2
     have c10 := hc10 _ hL
     go_simp
     refine hK.out _ _ hL2.gr (fun _ => ?_)
     replace hH := hL2.gr
     clear hK K1 cx fx hL c10
     generalize W7.setCell ⟨g, k * 11 + 7, none⟩ (.slice ca dl cc) = W8 at *
     refine wpAnyH_take (i := 15) (oi := ⟨some 54, _, _, _, _, _⟩) (v := .pointer (some ⟨g, k * 11, none⟩)) rfl (by kernel_rfl) (by kernel_rfl) (by kernel_rfl) (fun _ _ _ h => h) (Or.inl ⟨by rfl, fun w hSw => by go_simp⟩) hH ?_
     simp only [Act.put, pu]
     refine wpAnyH_take (i := 16) (oi := ⟨some 55, _, _, _, _, _⟩) (v := .pointer (some ⟨g, k * 11 + 10, none⟩)) rfl (by kernel_rfl) (by kernel_rfl) (by kernel_rfl) (fun _ _ _ h => h) (Or.inl ⟨by rfl, fun w hSw => by go_simp⟩) hH ?_
     simp only [Act.put, pu]
     refine wpAnyH_ready (rs := [17]) (by kernel_rfl) (by simp) ?_
     refine AllReadyH.cons rfl (fun K1 hK => ?_) AllReadyH.nil
     have hXb : (L.set k ⟨path, KY, mode, uid, gid, time, size, ca, dl, cc, data, target, dev, aa, al, ac, attrs⟩)[k]? = some ⟨path, KY, mode, uid, gid, time, size, ca, dl, cc, data, target, dev, aa, al, ac, attrs⟩ := by rw [List.getElem?_set_self (by rw [hll]; exact hlt)]
     have hlb : (L.set k ⟨path, KY, mode, uid, gid, time, size, ca, dl, cc, data, target, dev, aa, al, ac, attrs⟩).length = m := by rw [List.length_set]; exact hll
     have cx : W8.cell? ⟨g, k * 11 + 10, none⟩ = some (.slice aa al ac) := by rw [hL2.cell hlb hXb (f := 10) (by decide)]; rfl
     have fx : W8.frozen? ⟨g, k * 11 + 10, none⟩ = false := hL2.own.frozenAt _
     obtain ⟨hL3, hg3⟩ := hL2.set hlb hXb (f := 10) (X' := ⟨path, KY, mode, uid, gid, time, size, ca, dl, cc, data, target, dev, a2, out.length, c2, out⟩) (u := .slice a2 out.length c2) (by decide) rfl
     replace hnw := fun Y hY => (hnw Y hY).other hL2.own (by decide) (by decide) hg3
     replace hob := hob.other hL2.own (by decide) hg3
     replace har := har.other hL2.own (by decide) (by decide) hg3
     go_simp
     refine hK.out _ _ hL3.gr (fun _ => ?_)
     clear hK K1 cx fx hL2 hXb hlb
     generalize W8.setCell ⟨g, k * 11 + 10, none⟩ (.slice a2 out.length c2) = W9 at *
     refine wpAnyH_done (by kernel_rfl) ?_ _
     rw [List.set_set, HC.out.2.2.2.2.2] at hL3
     have hI : Hid (∃ new, new.length = k + 1 ∧ Lw w W9 g vc m (new ++ old.drop (k + 1)) ∧ (∀ X ∈ new, Xn W9 w.heap.size X) ∧ ens new = ens (old.take (k + 1))) := by
      refine ⟨new ++ [⟨path, KY, mode, uid, gid, time, size, ca, dl, cc, data, target, dev, a2, out.length, c2, out⟩], by rw [List.length_append, HC.out.1]; rfl, hL3, fun Y hY => ?_, ?_⟩
      ·rcases List.mem_append.1 hY with hY | hY
       ·exact hnw Y hY
       ·rw [List.mem_singleton] at hY
        subst hY
        exact ⟨hob, har, rfl⟩
      ·rw [HC.out.2.2.1, ← HC.out.2.1]
       unfold ens
       rw [List.map_append, List.map_cons, List.map_nil]
       congr 1
       show [EnV.en ⟨path, KY, mode, uid, gid, time, size, ca, dl, cc, data, target, dev, a2, out.length, c2, out⟩] = [EnV.en ⟨path, KY, mode, uid, gid, time, size, da, dl, dc, data, target, dev, aa, al, ac, attrs⟩]
       unfold EnV.en
       simp only [hat7]
     clear hL3 hnw hob har hat7 hH hXa hll
     go_wp2_with fail
     have hk1 : ((k : Int) + 1) = ((k + 1 : Nat) : Int) := by omega
     rw [hk1]
     refine ⟨⟨k + 1, hlt, rfl, hI⟩, ?_⟩
     simp only [intOf, Int.toNat_natCast]
     exact Nat.sub_lt_sub_left hlt (Nat.lt_succ_self k)
   ·obtain rfl : k = m := by omega
    have hlti : ¬ (k : Int) < (k : Int) := by omega
    have hdr : old.drop k = [] := List.drop_eq_nil_of_le (by rw [HO.out.2.2.1]; exact Nat.le_refl _)
    have htk : old.take k = old := List.take_of_length_le (by rw [HO.out.2.2.1]; exact Nat.le_refl _)
    rw [hdr, List.append_nil] at hL
    rw [htk] at hne
    have HF : Hid _ := And.intro hL (And.intro hnl (And.intro hnw hne))
    clear hL hnl hnw hne hdr htk
    go_wp2_with fail
    go_ret2
    exact Or.inr ⟨s, g, vc, k, new, HO.out.2.2.2.2.1, rfl, HF.out.1, HF.out.2.1, HO.out.2.2.2.2.2.symm, HF.out.2.2.1, by rw [HF.out.2.2.2]; exact HO.out.2.2.2.1⟩
end Go.Proofs.YtlehncfehoelbaaGreatDoor
namespace Go.Proofs.YtlehncfehoelbaaGreatDoor
set_option linter.unusedVariables false
set_option linter.unusedSimpArgs false
theorem lastT_short (p : Tx) : (lastT p).length ≤ p.length := by
 unfold lastT
 split
 ·exact Nat.le_refl _
 ·rw [List.length_drop]; omega
theorem kids_small {l : List En} (ok : OkS l) : ∀ n ∈ canon l, ∀ k ∈ n.kids, k.n.length ≤ 4096 := by
 obtain ⟨os, K, hos⟩ := canon_kids ok
 rw [canon_trs]
 unfold bld
 generalize (trs l).foldl bst ⟨[], [{ ndOf (look l []) with links := 2 }]⟩ = z at *
 intro n hn k hk
 obtain ⟨j, hj⟩ := List.mem_iff_getElem?.1 hn
 have hjl := (List.getElem?_eq_some_iff.1 hj).1
 have h := K.kids j (by have := K.len; omega)
 unfold kidsAt at h
 rw [hj] at h
 injection h with h
 have h : n.kids = _ := h
 rw [h] at hk
 obtain ⟨t, ht, rfl⟩ := List.mem_map.1 hk
 have htm := (List.mem_filter.1 ht).1
 obtain ⟨x, hx, hxp, -⟩ := (nm_of ok htm).x
 have := path_form (ok.each x hx).path (by rw [hxp]; exact (nm_of ok htm).ne)
 rw [hxp] at this
 exact Nat.le_trans (lastT_short t.p) this.1
theorem canon_data {l : List En} (ok : OkS l) {D : Nat} (hd : ∀ x ∈ l, x.data.length ≤ D) : ∀ n ∈ canon l, n.data.length ≤ D := by
 have h1 : ∀ x : En, x.data.length ≤ D → (ndOf x).data.length ≤ D := fun x h => by
  show (if x.k = 1 then strip x.data else []).length ≤ D
  split
  ·exact Nat.le_trans (strip_len _) h
  ·exact Nat.zero_le _
 have key : ∀ n ∈ canon l, (coreN n).data.length ≤ D := by
  rw [canon_trs]
  refine core_all (Q := fun n => n.data.length ≤ D) (trs l) _ (fun n hn => ?_) (fun t ht => ?_)
  ·have hn : n ∈ [{ ndOf (look l []) with links := 2 }] := hn
   rw [List.mem_singleton] at hn
   subst hn
   refine h1 _ ?_
   by_cases hin : ([] : Tx) ∈ pths l
   ·obtain ⟨x, hx, e⟩ := List.mem_map.1 hin
    rw [← e, look_mem ok.once hx]; exact hd x hx
   ·rw [look_none hin]; exact Nat.zero_le _
  ·obtain ⟨y, hy, a1, a2, a3, a4⟩ := (nm_of ok ht).y
   show (coreN t.nd).data.length ≤ D
   rw [a3]
   exact h1 y (hd y hy)
 exact key
theorem sums_le {l : List En} {D : Nat} (hd : ∀ x ∈ l, x.data.length ≤ D) : sums l ≤ (l.length * D : Nat) := by
 have key : ∀ (l : List En) (a : Int), (∀ x ∈ l, x.data.length ≤ D) → (l.map fun x => if x.k = 1 then (x.data.length : Int) else 0).foldl (· + ·) a ≤ a + (l.length * D : Nat) := by
  intro l
  induction l with
  | nil => intro a _; simp
  | cons x l ih =>
   intro a h
   have h1 := ih (a + if x.k = 1 then (x.data.length : Int) else 0) (fun y hy => h y (by simp [hy]))
   have h2 := h x (by simp)
   rw [List.map_cons, List.foldl_cons, List.length_cons, Nat.add_mul]
   refine Int.le_trans h1 ?_
   split <;> omega
 have := key l 0 hd
 unfold sums
 omega
theorem lstL_len {l : List En} (ok : OkS l) : (lstL l).length ≤ l.length + 1 ∧ (lstL l).length = (psL (pths l)).length + 1 := by
 have e : (lstL l).length = (psL (pths l)).length + 1 := by
  unfold lstL mkL
  rw [List.length_cons, List.length_map]
  have : (trs l).length = ((trs l).map Tp.p).length := by rw [List.length_map]
  rw [this, trs_paths]
 refine ⟨?_, e⟩
 rw [e]
 have h3 : ((ordL (pths l)).map fun i => (pths l).getD i []).Nodup := pairwise_nodup (psL_sorted ok.rt)
 have : (ordL (pths l)).length ≤ l.length := nodup_le (n := l.length) ((List.pairwise_map.1 h3).imp fun hne e => hne (by rw [e])) fun i hi => by
  obtain ⟨x, hx, -⟩ := ordL_lt ok hi
  exact (List.getElem?_eq_some_iff.1 hx).1
 unfold psL
 rw [List.length_map]
 omega
/-- the walk of the tree of a right list, and what it tells -/
theorem back_tells {l : List En} (ok : OkS l) (hl : l.length ≤ 40) (hd : ∀ x ∈ l, x.data.length ≤ 70000) : ∃ s, meetP (canon l) ((canon l).length + 1) ⟨[], []⟩ 0 [] = some s ∧ s.list.map (enL (canon l)) = lstL l ∧ (chk11 (lstL l)).2 = 0 ∧ canon (lstL l) = canon l := by
 obtain ⟨s, h1, h2⟩ := list_canon ok (by omega) (canon l).length (Nat.le_refl _)
 refine ⟨s, h1, h2, ?_, lstL_canon ok⟩
 have hlen := (lstL_len ok).1
 refine chk_ok.2 ⟨by omega, ?_, lstL_ok ok⟩
 have hda : ∀ x ∈ lstL l, x.data.length ≤ 70000 := fun x hx => by
  rw [← h2] at hx
  obtain ⟨y, hy, rfl⟩ := List.mem_map.1 hx
  unfold enL
  cases y.src with
  | inr q => exact Nat.zero_le _
  | inl i =>
   simp only
   cases hn : (canon l)[i]? with
   | none => exact Nat.zero_le _
   | some n => exact canon_data ok hd n (List.mem_of_getElem? hn)
 have h3 := sums_le hda
 have h4 : (lstL l).length * 70000 ≤ 41 * 70000 := Nat.mul_le_mul_right _ (by omega)
 omega
end Go.Proofs.YtlehncfehoelbaaGreatDoor
