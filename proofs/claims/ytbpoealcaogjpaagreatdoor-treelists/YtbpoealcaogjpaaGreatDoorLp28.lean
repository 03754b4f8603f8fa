/- More nodes than are asked: big. TreeLists. Entries that came in. Nodes that came in. A tree that came in, with its sizes. -/
import Derived.ProofKit
import Derived.OpenShut
import Derived.ChangeOld
import Derived.Lib.SmallJoins
import Derived.Deep.Slices
import Derived.SizedLaws
import Derived.Test.YtbpoealcaogjpaaGreatDoorLp06
import Derived.Test.YtbpoealcaogjpaaGreatDoorLp07
import Derived.Test.YtbpoealcaogjpaaGreatDoorLp11
import Derived.Test.YtbpoealcaogjpaaGreatDoorLp27
namespace Go.Proofs.YtbpoealcaogjpaaGreatDoor
open Go.RowKit
set_option maxRecDepth 100000
set_option linter.unusedSimpArgs false
set_option linter.unusedVariables false

/-- a node that is small -/
structure NoV.sm (X : NoV) : Prop where
  d : X.dl ≤ 70000
  a : X.al ≤ 70
  k : ∀ (i : Nat) (K : Kd), X.kids[i]? = some K → K.n.length ≤ 300
def kidsN (l : List NoV) : Nat := (l.map fun X => X.kl).foldl (· + ·) 0
theorem kidsN_snoc {l : List NoV} {k : Nat} {X : NoV} (h : l[k]? = some X) : kidsN (l.take (k + 1)) = kidsN (l.take k) + X.kl := by
  unfold kidsN
  rw [List.take_add_one, h, List.map_append, List.foldl_append]
  simp
/-- what big answers -/
def BgPost (w : World) (n : Nat) (l : List NoV) (e : Ending) (w' : World) : Prop := (e = .returned (.bool true) ∨ (e = .returned (.bool false) ∧ n ≤ 40 ∧ kidsN l ≤ 60 ∧ ∀ (i : Nat) (X : NoV), l[i]? = some X → X.sm)) ∧ w.grownBy w' none
set_option maxHeartbeats 2000000 in
theorem rbig_any (a : Option Addr) (n c : Nat) (l : List NoV) (w : World) (R : Nos w a n l) (hz : ∀ (i : Nat) (X : NoV), l[i]? = some X → X.kl ≤ 140737488355328) : Calls Tryz.prog 17 #[.agg #[.slice a n c]] w (BgPost w n l) := by
  have hle : n ≤ 9223372036854775807 := R.le
  have gA := World.grownBy_alloc w (.cells #[.slice a n c] 33) none
  have HG : Hid _ := gA
  by_cases h40 : 40 < n
  · have h40i : (40 : Int) < (n : Int) := by omega
    go_enter Tryz.func17, Tryz.ntmps17
    go_wp2
    go_ret
    exact ⟨Or.inl rfl, HG.out⟩
  · have h40i : ¬ (40 : Int) < (n : Int) := by omega
    have HR : Hid _ := R
    have hcell : (w.alloc (.cells #[.slice a n c] 33)).cell? ⟨w.heap.size, 0, none⟩ = some (.slice a n c) := by simp
    clear R gA
    go_enter Tryz.func17, Tryz.ntmps17
    go_wp2
    generalize w.alloc (.cells #[.slice a n c] 33) = W at *
    generalize w.heap.size = gx at *
    go_loop [3, 4] (fun v3 v4 => ∃ i : Nat, v4 = .int .i64 i ∧ i ≤ n ∧ v3 = .int .i64 (kidsN (l.take i)) ∧ Hid (kidsN (l.take i) ≤ 60 ∧ ∀ (j : Nat) (X : NoV), j < i → l[j]? = some X → X.sm)) (fun _ v4 => n - (intOf v4).toNat)
    case atStart => exact ⟨0, rfl, Nat.zero_le _, rfl, Nat.zero_le _, fun j X hj => by omega⟩
    case round =>
      obtain ⟨i, rfl, hi, rfl, HI⟩ := hrel
      rcases Nat.lt_or_ge i n with hlt | hge
      · have hlti : (i : Int) < (n : Int) := by omega
        obtain ⟨X, hX⟩ : ∃ X, l[i]? = some X := ⟨_, List.getElem?_eq_getElem (by have := HR.out.len_eq; omega)⟩
        obtain ⟨b, off, rfl, hat⟩ := HR.out.at_ (by omega)
        have hN := (hat i X hX).grown HG.out
        have c6 := hN.c6
        have c9 := hN.c9
        have c10 := hN.c10
        have hsn := kidsN_snoc hX
        have hk0 := HI.out.1
        have hkle : X.kl ≤ 9223372036854775807 := hN.ok.kds.le
        have hkl := hN.ok.kds.len_eq
        have HX : Hid _ := And.intro hX (And.intro hN.ok.kds hsn)
        clear hat hN hX
        generalize hK : kidsN (l.take i) = K0 at *
        have HK : Hid _ := hK
        clear hK
        have hkz := hz i X HX.out.1
        have hw : IntKind.i64.wrap ((K0 : Int) + (X.kl : Int)) = (K0 : Int) + X.kl := by rw [IntKind.wrap_i64]; omega
        by_cases hbig : 60 < K0 + X.kl
        · have hb : (60 : Int) < (K0 : Int) + X.kl := by omega
          go_wp2
          go_ret
          exact ⟨Or.inl rfl, HG.out⟩
        · have hb : ¬ (60 : Int) < (K0 : Int) + X.kl := by omega
          by_cases hd : 70000 < X.dl
          · have hdi : (70000 : Int) < (X.dl : Int) := by omega
            go_wp2
            go_ret
            exact ⟨Or.inl rfl, HG.out⟩
          · have hdi : ¬ (70000 : Int) < (X.dl : Int) := by omega
            by_cases ha : 70 < X.al
            · have hai : (70 : Int) < (X.al : Int) := by omega
              go_wp2
              go_ret
              exact ⟨Or.inl rfl, HG.out⟩
            · have hai : ¬ (70 : Int) < (X.al : Int) := by omega
              go_wp2
              go_loop [5] (fun v5 => ∃ q : Nat, v5 = .int .i64 q ∧ q ≤ X.kl ∧ Hid (∀ (j : Nat) (K : Kd), j < q → X.kids[j]? = some K → K.n.length ≤ 300)) (fun v5 => X.kl - (intOf v5).toNat)
              case atStart => exact ⟨0, rfl, Nat.zero_le _, fun j K hj => by omega⟩
              case round =>
                obtain ⟨q, rfl, hq, HQ⟩ := hrel
                rcases Nat.lt_or_ge q X.kl with hql | hqg
                · have hqi : (q : Int) < (X.kl : Int) := by omega
                  obtain ⟨K, hK⟩ : ∃ K, X.kids[q]? = some K := ⟨_, List.getElem?_eq_getElem (by omega)⟩
                  obtain ⟨kb, ko, hka, hkat⟩ := HX.out.2.1.at_ (by omega)
                  rw [hka] at c10
                  have k0 := (hkat q K hK).c0
                  have hsz := tx_size K.n
                  have HK2 : Hid _ := hK
                  clear hK hkat
                  generalize hT : tx K.n = T at *
                  by_cases h3 : 300 < K.n.length
                  · have h3i : (300 : Int) < (T.size : Int) := by omega
                    go_wp2
                    go_ret
                    exact ⟨Or.inl rfl, HG.out⟩
                  · have h3i : ¬ (300 : Int) < (T.size : Int) := by omega
                    have HN : Hid (∀ (j : Nat) (K : Kd), j < q + 1 → X.kids[j]? = some K → K.n.length ≤ 300) := by
                      intro j K' hj hK'
                      rcases Nat.lt_or_ge j q with h | h
                      · exact HQ.out j K' h hK'
                      · obtain rfl : j = q := by omega
                        rw [HK2.out] at hK'
                        injection hK' with hK'
                        rw [← hK']
                        omega
                    clear HQ HK2
                    go_wp2
                    go_round
                    case rel => exact ⟨q + 1, by go_num, by omega, HN⟩
                    case measure => simp [intOf]; omega
                · have hqi : ¬ (q : Int) < (X.kl : Int) := by omega
                  have HN : Hid (kidsN (l.take (i + 1)) = K0 + X.kl ∧ ∀ (j : Nat) (Y : NoV), j < i + 1 → l[j]? = some Y → Y.sm) := by
                    refine ⟨HX.out.2.2, fun j Y hj hY => ?_⟩
                    rcases Nat.lt_or_ge j i with h | h
                    · exact HI.out.2 j Y h hY
                    · obtain rfl : j = i := by omega
                      rw [HX.out.1] at hY
                      injection hY with hY
                      subst hY
                      exact ⟨by omega, by omega, fun s K' hs => HQ.out s K' (by have := (List.getElem?_eq_some_iff.1 hs).1; omega) hs⟩
                  clear HQ
                  go_wp2
                  go_round
                  case rel => exact ⟨i + 1, by go_num, by omega, by rw [HN.out.1]; go_num, by rw [HN.out.1]; omega, HN.out.2⟩
                  case measure => simp [intOf]; omega
      · have hgei : ¬ (i : Int) < (n : Int) := by omega
        have HN : Hid (kidsN l ≤ 60 ∧ ∀ (j : Nat) (Y : NoV), l[j]? = some Y → Y.sm) := by
          have hl := HR.out.len_eq
          have h1 := HI.out.1
          rw [List.take_of_length_le (by omega)] at h1
          exact ⟨h1, fun j Y hY => HI.out.2 j Y (by have := (List.getElem?_eq_some_iff.1 hY).1; omega) hY⟩
        generalize kidsN (l.take i) = K0 at *
        go_wp2
        go_ret
        exact ⟨Or.inr ⟨rfl, by omega, HN.out.1, HN.out.2⟩, HG.out⟩
end Go.Proofs.YtbpoealcaogjpaaGreatDoor

namespace Go.Proofs.YtbpoealcaogjpaaGreatDoor
open Go.RowKit
set_option maxRecDepth 100000
set_option linter.unusedSimpArgs false
set_option linter.unusedVariables false

/-- what a tree's reading says of a node besides -/
structure Ncq (N : NoV) : Prop where
  d : N.dl ≤ N.dc
  a : N.al ≤ N.ac
  t : N.target.size ≤ 9223372036854775807
  n : ∀ A ∈ N.attrs, A.n.size ≤ 9223372036854775807
theorem ksum_kids {w : World} {a : Option Addr} {n : Nat} {ns : List NoV} (hN : Nos w a n ns) (m : Nat) (hm : m ≤ ns.length) : ukm (nos ns) ⟨[], []⟩ m = kidsN (ns.take m) := by
  induction m with
  | zero => rfl
  | succ m ih =>
    obtain ⟨X, hX⟩ : ∃ X, ns[m]? = some X := ⟨_, List.getElem?_eq_getElem (by omega)⟩
    rw [kidsN_snoc hX, ← ih (by omega)]
    obtain ⟨b, off, -, k⟩ := hN.at_ (by rw [← hN.len_eq]; omega)
    have hl := (k m X hX).ok.kds.len_eq
    show ukm (nos ns) ⟨[], []⟩ m + (if (⟨[], []⟩ : Wk).at_ m = none then (((nos ns)[m]?).map fun n => n.kids.length).getD 0 else 0) = _
    rw [if_pos (show (⟨[], []⟩ : Wk).at_ m = none from rfl), nos_at hX]
    show _ + X.kids.length = _
    rw [hl]
/-- what is told is small -/
theorem tells_en {ns : List No} {s : Wk} (h : Tells ns s) : ∀ e ∈ s.list.map (enL ns), e.path.length ≤ 4096 ∧ e.target.length ≤ 4096 ∧ e.attrs.length ≤ 64 ∧ ∀ a ∈ e.attrs, a.n.length ≤ 255 := by
  obtain ⟨c1, c2, ok⟩ := chk_ok.1 h.2.1
  have hsm := canon_sm ok c2
  rw [h.2.2] at hsm
  have hok := (meetP_ok _ ⟨[], []⟩ 0 [] s ⟨List.nodup_nil, fun x h => (by cases h), Nat.zero_le _, fun x h => (by cases h), fun x h => (by cases h)⟩ h.1).1
  intro e he
  obtain ⟨x, hx, rfl⟩ := List.mem_map.1 he
  have hp := hok.pl x hx
  unfold enL
  cases hs : x.src with
  | inr q => exact ⟨hp, hok.ql x hx q hs, Nat.zero_le _, fun a ha => by cases ha⟩
  | inl i =>
    simp only
    cases hn : ns[i]? with
    | none => exact ⟨hp, Nat.zero_le _, Nat.zero_le _, fun a ha => by cases ha⟩
    | some n =>
      have sm := hsm n (List.mem_of_getElem? hn)
      exact ⟨hp, sm.t, sm.a, fun a ha => (sm.e a ha).1⟩
theorem told_sml {w' : World} {base : Nat} {l : List EnV} {ns : List No} {s : Wk} (h : Tells ns s) (he : ens l = s.list.map (enL ns)) (hx : ∀ X ∈ l, Xn w' base X) : Sml l ∧ ∀ X ∈ l, X.al ≤ 100000 := by
  have hs := tells_en h
  rw [← he] at hs
  have h1 : ∀ X ∈ l, X.path.size ≤ 4096 ∧ X.target.size ≤ 4096 ∧ X.attrs.length ≤ 64 ∧ ∀ A ∈ X.attrs, A.n.size ≤ 255 := fun X hX => by
    have := hs X.en (List.mem_map.2 ⟨X, hX, rfl⟩)
    refine ⟨by rw [← tl_len]; exact this.1, by rw [← tl_len]; exact this.2.1, ?_, fun A hA => ?_⟩
    · have h2 := this.2.2.1
      rw [show X.en.attrs = X.attrs.map AtV.at from rfl, List.length_map] at h2
      exact h2
    · rw [← tl_len]
      exact this.2.2.2 A.at (List.mem_map.2 ⟨A, hA, rfl⟩)
  refine ⟨fun X hX => ?_, fun X hX => ?_⟩
  · have := h1 X hX
    exact ⟨by omega, by omega, fun A hA => by have := this.2.2.2 A hA; omega⟩
  · rw [(hx X hX).len]
    have := (h1 X hX).2.2.1
    omega
set_option maxHeartbeats 16000000 in
theorem treeLists_walk (na : Option Addr) (n nc : Nat) (ns : List NoV) (w : World) (hN : Nos w na n ns) (hq : ∀ N ∈ ns, Ncq N) (hz : ∀ (i : Nat) (X : NoV), ns[i]? = some X → X.kl ≤ 140737488355328) :
    Calls Tryz.prog 5 #[.agg #[.slice na n nc]] w fun e w' => e = .returned (.bool true) ∧ w.grownBy w' none := by
  have g0 := World.grownBy_alloc w (.cells #[.slice na n nc] 33) none
  have b0 := Bx.new w 33 [.slice na n nc]
  have hbg := rbig_any na n nc ns _ (hN.grown g0) hz
  unfold BgPost at hbg
  have HN : Hid _ := And.intro hN (And.intro hq (And.intro g0 b0))
  clear hN hq g0 b0 hz
  go_enter Tryz.func5, Tryz.ntmps5
  go_wp2_with fail
  refine hbg.mono ?_
  clear hbg
  rintro e W1 ⟨rfl | ⟨rfl, hn40, hk60, hsmall⟩, g1⟩
  · have HG : Hid _ := grown_trans HN.out.2.2.1 g1
    clear g1
    go_wp2_with fail
    refine (live11_any _).mono ?_
    rintro e W2 ⟨rfl, g2⟩
    go_wp2
    go_ret
    exact ⟨rfl, grown_trans HG.out g2⟩
  · have hcp : ∀ N ∈ ns, Ncp N := fun N hNm => by
      obtain ⟨i, hi⟩ := List.mem_iff_getElem?.1 hNm
      have q := HN.out.2.1 N hNm
      exact ⟨q.d, q.a, q.t, q.n, fun k hk => by
        obtain ⟨j, hj⟩ := List.mem_iff_getElem?.1 hk
        have := (hsmall i N hi).k j k hj
        omega⟩
    have hks : ∀ f s, meetP (nos ns) f ⟨[], []⟩ 0 [] = some s → s.list.length ≤ 16384 := fun f s h => by
      have h1 := (tell_few h).2
      have h2 : ksum (nos ns) ≤ 60 := by
        unfold ksum uk
        rw [nos_len, ksum_kids HN.out.1 ns.length (Nat.le_refl _), List.take_length]
        exact hk60
      omega
    have bt1 := HN.out.2.2.2.kept g1
    have gw1 := grown_trans HN.out.2.2.1 g1
    have hls := plist_any na n nc ns W1 (HN.out.1.grown gw1) hcp (hks (n + 1))
    have t1 := bt1.c 0
    have HG1 : Hid _ := And.intro gw1 bt1
    clear g1 bt1 gw1 hcp hks hsmall hk60
    go_wp2_with fail
    refine hls.mono ?_
    clear hls
    rintro e W2 (⟨rfl, g2, -⟩ | ⟨s, g, vc, m, l, hte, rfl, hL, hml, hms, hXn, hen⟩)
    · have HG2 : Hid _ := grown_trans HG1.out.1 g2
      clear g2 t1 HG1
      go_wp2_with (go_at_call 13; refine (num11_any _ _).mono ?_; rintro e w' ⟨rfl, rfl⟩)
      refine (live11_any _).mono ?_
      rintro e W3 ⟨rfl, g3⟩
      go_wp2
      go_ret
      exact ⟨rfl, grown_trans HG2.out g3⟩
    · obtain ⟨a', c', e', hE⟩ := own_ens hL.own hml.symm (fun X hX => (hXn X hX).ok)
      injection e' with e1 e2 e3
      subst e1
      clear e2 e3
      obtain ⟨hsml, hal⟩ := told_sml hte hen hXn
      have hm : m ≤ 100000 := by
        have := (meetP_ok _ ⟨[], []⟩ 0 [] s ⟨List.nodup_nil, fun x h => (by cases h), Nat.zero_le _, fun x h => (by cases h), fun x h => (by cases h)⟩ hte.1).1.le
        omega
      have hck : (chk11 (ens l)).2 = 0 := by rw [hen]; exact hte.2.1
      have hcn : canon (ens l) = nos ns := by rw [hen]; exact hte.2.2
      have hokS := (chk_ok.1 hck).2.2
      have hrc := rcheck_any (some ⟨g, 0, none⟩) m vc l W2 hE hsml hm
      rw [hck] at hrc
      have HS : Hid _ := And.intro hE (And.intro hsml (And.intro hal (And.intro hm (And.intro hokS hcn))))
      have HG2 : Hid _ := And.intro (grown_trans HG1.out.1 hL.gr) (HG1.out.2.kept hL.gr)
      clear hE hsml hal hm hck hcn hokS hL hXn hen hte hml hms HG1 t1
      generalize (chk11 (ens l)).1 = k1 at *
      go_wp2_with (go_at_call 13; refine (num11_any _ _).mono ?_; rintro e w' ⟨rfl, rfl⟩)
      refine hrc.mono ?_
      clear hrc
      rintro e W3 ⟨rfl, g3⟩
      have HG3 : Hid _ := And.intro (grown_trans HG2.out.1 g3) (And.intro (HG2.out.2.kept g3) (HS.out.1.grown g3))
      clear g3 HG2
      go_wp2_with fail
      have hca := rcanon_any (some ⟨g, 0, none⟩) m vc l
      refine wp_region_held_drew (S := fun w' => W3.grownBy w' none) (by kernel_rfl) (drewG0 W3) (fun hH => ?_)
      generalize W3.drew = WD at *
      refine wpAnyH_take (i := 0) (oi := ⟨some 34, _, _, _, _, _⟩) (v := .int .i64 0) rfl (by kernel_rfl) (by kernel_rfl) (by kernel_rfl) (fun _ _ _ h => h) (Or.inl ⟨by rfl, fun w hSw => by go_simp⟩) hH ?_
      simp only [Act.put, List.setIfInBounds_toArray, List.set_cons_zero, List.set_cons_succ]
      refine wpAnyH_take (i := 1) (oi := ⟨some 35, _, _, _, _, _⟩) (v := .bool true) rfl (by kernel_rfl) (by kernel_rfl) (by kernel_rfl) (fun _ _ _ h => h) (Or.inl ⟨by rfl, fun w hSw => by go_simp⟩) hH ?_
      simp only [Act.put, List.setIfInBounds_toArray, List.set_cons_zero, List.set_cons_succ]
      refine wpAnyH_take (i := 2) (oi := ⟨some 36, _, _, _, _, _⟩) (v := .bool true) rfl (by kernel_rfl) (by kernel_rfl) (by kernel_rfl) (fun _ _ _ h => h) (Or.inl ⟨by rfl, fun w hSw => by go_simp⟩) hH ?_
      simp only [Act.put, List.setIfInBounds_toArray, List.set_cons_zero, List.set_cons_succ]
      refine wpAnyH_take (i := 3) (oi := ⟨some 37, _, _, _, _, _⟩) (v := .slice (some ⟨g, 0, none⟩) m vc) rfl (by kernel_rfl) (by kernel_rfl) (by kernel_rfl) (fun _ _ _ h => h) (Or.inl ⟨by rfl, fun w hSw => by go_simp⟩) hH ?_
      simp only [Act.put, List.setIfInBounds_toArray, List.set_cons_zero, List.set_cons_succ]
      refine wpAnyH_take (i := 5) (oi := ⟨some 39, _, _, _, _, _⟩) (v := .agg #[.slice na n nc]) rfl (by kernel_rfl) (by kernel_rfl) (by kernel_rfl) (fun _ _ _ h => h) (Or.inl ⟨by rfl, fun w hSw => by have c0 : _ = some _ := (HG3.out.2.1.kept hSw).c 0; go_simp⟩) hH ?_
      simp only [Act.put, List.setIfInBounds_toArray, List.set_cons_zero, List.set_cons_succ]
      refine wpAnyH_ready (rs := [4]) (by kernel_rfl) (by simp) ?_
      refine AllReadyH.cons rfl (fun K1 hK => ?_) AllReadyH.nil
      go_simp
      have hcb := hca _ (HG3.out.2.2.grown hH) HS.out.2.1 HS.out.2.2.2.1 HS.out.2.2.1 HS.out.2.2.2.2.1
      unfold CaPost at hcb
      refine hcb.mono ?_
      clear hca hcb
      rintro e W5 ⟨b5, n5, c5, ns5, rfl, hT5, hl5, hno5⟩
      replace hH := grown_trans hH hT5.gr
      have hN5 := hT5.nos hl5
      clear hT5
      refine hK.out _ _ hH (fun h0 => ?_)
      clear h0 hK K1
      try simp only [Act.put, List.setIfInBounds_toArray, List.set_cons_zero, List.set_cons_succ]
      refine wpAnyH_ready (rs := [6]) (by kernel_rfl) (by simp) ?_
      refine AllReadyH.cons rfl (fun K1 hK => ?_) AllReadyH.nil
      go_simp
      refine (rsame11_any b5 na n5 c5 n nc ns5 ns W5 hN5 (HN.out.1.grown (grown_trans HG3.out.1 hH))).mono ?_
      rintro e W6 ⟨rfl, g6⟩
      have hsa : sameNos (nos ns5) (nos ns) = true := by rw [hno5, HS.out.2.2.2.2.2]; exact (sameNos_eq _ _).2 rfl
      rw [hsa]
      replace hH := grown_trans hH g6
      clear g6 hN5 hsa hno5
      refine hK.out _ _ hH (fun h0 => ?_)
      clear h0 hK K1
      try simp only [Act.put, List.setIfInBounds_toArray, List.set_cons_zero, List.set_cons_succ]
      refine wpAnyH_take (i := 7) (oi := ⟨some 41, _, _, _, _, _⟩) (v := .bool true) rfl (by kernel_rfl) (by kernel_rfl) (by kernel_rfl) (fun _ _ _ h => h) (Or.inl ⟨by rfl, fun w hSw => by go_simp⟩) hH ?_
      simp only [Act.put, List.setIfInBounds_toArray, List.set_cons_zero, List.set_cons_succ]
      refine wpAnyH_take (i := 8) (oi := ⟨some 42, _, _, _, _, _⟩) (v := .bool true) rfl (by kernel_rfl) (by kernel_rfl) (by kernel_rfl) (fun _ _ _ h => h) (Or.inl ⟨by rfl, fun w hSw => by go_simp⟩) hH ?_
      simp only [Act.put, List.setIfInBounds_toArray, List.set_cons_zero, List.set_cons_succ]
      refine wpAnyH_take (i := 9) (oi := ⟨some 43, _, _, _, _, _⟩) (v := .agg #[.slice na n nc]) rfl (by kernel_rfl) (by kernel_rfl) (by kernel_rfl) (fun _ _ _ h => h) (Or.inl ⟨by rfl, fun w hSw => by have c0 : _ = some _ := (HG3.out.2.1.kept hSw).c 0; go_simp⟩) hH ?_
      simp only [Act.put, List.setIfInBounds_toArray, List.set_cons_zero, List.set_cons_succ]
      refine wpAnyH_take (i := 10) (oi := ⟨some 44, _, _, _, _, _⟩) (v := .agg #[.slice na n nc]) rfl (by kernel_rfl) (by kernel_rfl) (by kernel_rfl) (fun _ _ _ h => h) (Or.inl ⟨by rfl, fun w hSw => by have c0 : _ = some _ := (HG3.out.2.1.kept hSw).c 0; go_simp⟩) hH ?_
      simp only [Act.put, List.setIfInBounds_toArray, List.set_cons_zero, List.set_cons_succ]
      refine wpAnyH_ready (rs := [11]) (by kernel_rfl) (by simp) ?_
      refine AllReadyH.cons rfl (fun K1 hK => ?_) AllReadyH.nil
      go_simp
      refine (psame_any na na n nc n nc ns ns W6 (HN.out.1.grown (grown_trans HG3.out.1 hH)) (HN.out.1.grown (grown_trans HG3.out.1 hH))).mono ?_
      rintro e W7 ⟨rfl, g7⟩
      rw [(sameNos_eq _ _).2 rfl]
      replace hH := grown_trans hH g7
      clear g7
      refine hK.out _ _ hH (fun h0 => ?_)
      clear h0 hK K1
      try simp only [Act.put, List.setIfInBounds_toArray, List.set_cons_zero, List.set_cons_succ]
      refine wpAnyH_take (i := 12) (oi := ⟨some 46, _, _, _, _, _⟩) (v := .bool true) rfl (by kernel_rfl) (by kernel_rfl) (by kernel_rfl) (fun _ _ _ h => h) (Or.inl ⟨by rfl, fun w hSw => by go_simp⟩) hH ?_
      simp only [Act.put, List.setIfInBounds_toArray, List.set_cons_zero, List.set_cons_succ]
      refine wpAnyH_take (i := 13) (oi := ⟨some 47, _, _, _, _, _⟩) (v := .bool true) rfl (by kernel_rfl) (by kernel_rfl) (by kernel_rfl) (fun _ _ _ h => h) (Or.inl ⟨by rfl, fun w hSw => by go_simp⟩) hH ?_
      simp only [Act.put, List.setIfInBounds_toArray, List.set_cons_zero, List.set_cons_succ]
      refine wpAnyH_ready (rs := [14]) (by kernel_rfl) (by simp) ?_
      refine AllReadyH.cons rfl (fun K1 hK => ?_) AllReadyH.nil
      go_simp
      refine (live11_any _).mono ?_
      rintro e W8 ⟨rfl, g8⟩
      replace hH := grown_trans hH g8
      clear g8
      refine hK.out _ _ hH (fun h0 => ?_)
      clear h0 hK K1
      try simp only [Act.put, List.setIfInBounds_toArray, List.set_cons_zero, List.set_cons_succ]
      refine wpAnyH_take (i := 15) (oi := ⟨some 49, _, _, _, _, _⟩) (v := .bool true) rfl (by kernel_rfl) (by kernel_rfl) (by kernel_rfl) (fun _ _ _ h => h) (Or.inl ⟨by rfl, fun w hSw => by go_simp⟩) hH ?_
      simp only [Act.put, List.setIfInBounds_toArray, List.set_cons_zero, List.set_cons_succ]
      refine wpAnyH_take (i := 16) (oi := ⟨some 2, _, _, _, _, _⟩) (v := .bool true) rfl (by kernel_rfl) (by kernel_rfl) (by kernel_rfl) (fun _ _ _ h => h) (Or.inl ⟨by rfl, fun w hSw => by go_simp⟩) hH ?_
      simp only [Act.put, List.setIfInBounds_toArray, List.set_cons_zero, List.set_cons_succ]
      refine wpAnyH_done (by kernel_rfl) ?_ _
      have HF : Hid _ := hH
      clear hH
      go_wp2
      go_ret
      exact ⟨rfl, grown_trans HG3.out.1 HF.out⟩
end Go.Proofs.YtbpoealcaogjpaaGreatDoor

namespace Go.Proofs.YtbpoealcaogjpaaGreatDoor
open Go.ChangeShapes Go.WideShapes Go.RowKit Go.Joins
set_option maxRecDepth 100000
set_option linter.unusedVariables false
set_option linter.unusedSimpArgs false

theorem Tryz.ce3 : Tryz.prog.cellsOf 3 = 1 := by kernel_rfl
theorem Tryz.ce5 : Tryz.prog.cellsOf 5 = 1 := by kernel_rfl
theorem Tryz.ce9 : Tryz.prog.cellsOf 9 = 1 := by kernel_rfl
theorem Tryz.ceB : Tryz.prog.cellsOf 41 = 1 := by kernel_rfl
theorem Tryz.ceA : Tryz.prog.cellsOf 50 = 2 := by kernel_rfl
theorem Tryz.ceAs : Tryz.prog.cellsOf 42 = 1 := by kernel_rfl
theorem row_of_trod11 {H : Type} {enc : TypeId × Value → H} {w : World} {fuel : Nat} {v : Value} {x : DataW H × List MemPlace} (h : DataW.trod enc Tryz.prog w 0 (fun _ => true) true fuel 41 [v] = some x) :
    ∃ a len cap xs, v = .slice a len cap ∧ Row w a len xs ∧ len ≤ cap := by
  rcases open_ints Tryz.underlying41 Tryz.underlying5 Tryz.ce5 h with ⟨hcs, _⟩ | ⟨y, l, c, zs, hcs, _, hl, hm, hz, _, hcell, hwz⟩
  · simp at hcs
    have hr : IsRow .u8 w none 0 0 [] := .inl ⟨rfl, rfl, rfl, rfl⟩
    exact ⟨none, 0, 0, _, hcs, hr.row, Nat.le_refl _⟩
  · simp at hcs
    have hr : IsRow .u8 w (some y) l c zs := .inr ⟨_, rfl, hl, hm, by simpa using hz, hcell, hwz⟩
    exact ⟨some y, l, c, _, hcs, hr.row, hl⟩
theorem list2 {α : Type} {l : List α} (h : l.length = 2) : ∃ x0 x1, l = [x0, x1] := by
  match l, h with
  | [x0, x1], _ => exact ⟨x0, x1, rfl⟩
end Go.Proofs.YtbpoealcaogjpaaGreatDoor

namespace Go.Proofs.YtbpoealcaogjpaaGreatDoor
open Go.ChangeShapes Go.WideShapes Go.RowKit Go.Joins
set_option maxRecDepth 100000
set_option linter.unusedVariables false
set_option linter.unusedSimpArgs false

theorem Tryz.ceK : Tryz.prog.cellsOf 56 = 2 := by kernel_rfl
theorem Tryz.ceKs : Tryz.prog.cellsOf 52 = 1 := by kernel_rfl
theorem Tryz.ceN : Tryz.prog.cellsOf 54 = 13 := by kernel_rfl
theorem list13 {α : Type} {l : List α} (h : l.length = 13) : ∃ x0 x1 x2 x3 x4 x5 x6 x7 x8 x9 x10 x11 x12, l = [x0, x1, x2, x3, x4, x5, x6, x7, x8, x9, x10, x11, x12] := by
  match l, h with
  | [x0, x1, x2, x3, x4, x5, x6, x7, x8, x9, x10, x11, x12], _ => exact ⟨x0, x1, x2, x3, x4, x5, x6, x7, x8, x9, x10, x11, x12, rfl⟩
/-- one kid, out of its reading -/
theorem kd_of_trod {H : Type} {enc : TypeId × Value → H} {w : World} {n : Nat} {cs : List Value} {x : DataW H × List MemPlace} {b o : Nat} (hl : cs.length = 2) (hc : ∀ t, t < 2 → w.cell? ⟨b, o + t, none⟩ = cs[t]?)
    (h : DataW.trod enc Tryz.prog w 0 (fun _ => true) true n 56 cs = some x) : ∃ K : Kd, KdAt w b o K := by
  obtain ⟨x0, x1, rfl⟩ := list2 hl
  obtain ⟨y0, y1, m, _, _, h0, h1⟩ := trod_struct2 Tryz.underlying56 h
  simp only [Tryz.ce9, Tryz.ce3, List.drop_zero, List.drop_succ_cons, List.take_succ_cons, List.take_zero] at h0 h1
  obtain ⟨s, e0, _, _⟩ := DataW.trod_string Tryz.underlying9 h0
  obtain ⟨z1, e1, _, w1⟩ := DataW.trod_int Tryz.underlying3 h1
  simp only [List.cons.injEq, and_true] at e0 e1
  subst e0 e1
  exact ⟨⟨s.toList, z1⟩, by rw [tl_tx]; exact hc 0 (by omega), hc 1 (by omega)⟩
theorem kds_of_trod {H : Type} {enc : TypeId × Value → H} {w : World} {fuel : Nat} {v : Value} {x : DataW H × List MemPlace} (h : DataW.trod enc Tryz.prog w 0 (fun _ => true) true fuel 52 [v] = some x) :
    ∃ a len cap l, v = .slice a len cap ∧ Kds w a len l ∧ len ≤ cap ∧ (a = none → cap = 0) := by
  rcases Deep.open_slice Tryz.underlying52 h with ⟨hcs, _⟩ | ⟨y, len, cap, m, n, D, Pl, hcs, _, hl, hm, hmm, _, hel⟩
  · simp at hcs
    exact ⟨none, 0, 0, [], hcs, ⟨rfl, Nat.zero_le _, fun h => absurd h (by omega)⟩, Nat.le_refl _, fun _ => rfl⟩
  · simp at hcs
    simp only [if_true] at hmm
    subst hmm
    rcases Nat.eq_zero_or_pos len with rfl | h0
    · exact ⟨some y, 0, _, [], hcs, ⟨rfl, Nat.zero_le _, fun h => absurd h (by omega)⟩, hl, fun e => by cases e⟩
    · obtain ⟨b, off, spot⟩ := y
      rw [Tryz.ceK] at hel
      have hspot : spot = none := by
        obtain ⟨cs, h1, _⟩ := hel 0 (by omega)
        obtain ⟨_, hl4, hc⟩ := World.cells?_some h1
        have := hc 0 (by omega)
        obtain ⟨x0, x1, rfl⟩ := list2 hl4
        have h2 : w.cell? ((Addr.add ⟨b, off, spot⟩ (0 * 2)).add 0) = some x0 := this
        simpa [Addr.add] using World.cell?_spot h2
      subst hspot
      have hadd : ∀ i t, ((⟨b, off, none⟩ : Addr).add (i * 2)).add t = ⟨b, off + i * 2 + t, none⟩ := by
        intro i t
        have e : ∀ o k, (⟨b, o, none⟩ : Addr).add k = ⟨b, o + k, none⟩ := by intro o k; unfold Addr.add; split <;> simp_all
        rw [e, e]
      obtain ⟨A, hA⟩ := @Deep.choose_lt Kd ⟨⟨[], 0⟩⟩ len (fun i A => KdAt w b (off + i * 2) A) (fun i hi => by
        obtain ⟨cs, h1, h2⟩ := hel i (by omega)
        obtain ⟨_, hl4, hc⟩ := World.cells?_some h1
        exact kd_of_trod hl4 (fun t ht => by rw [← hadd]; exact hc t ht) h2)
      refine ⟨_, len, _, (List.range len).map A, hcs, ⟨by simp, by omega, fun _ => ⟨b, off, rfl, fun i X hX => ?_⟩⟩, hl, fun e => by cases e⟩
      have hi : i < len := by
        rcases Nat.lt_or_ge i len with h | h
        · exact h
        · rw [List.getElem?_eq_none (by simp; omega)] at hX; cases hX
      rw [List.getElem?_map, List.getElem?_range hi] at hX
      simp at hX
      subst hX
      exact hA i hi
end Go.Proofs.YtbpoealcaogjpaaGreatDoor

namespace Go.Proofs.YtbpoealcaogjpaaGreatDoor
open Go.ChangeShapes Go.WideShapes Go.RowKit Go.Joins
set_option maxRecDepth 100000
set_option linter.unusedVariables false
set_option linter.unusedSimpArgs false

theorem at_sized {H : Type} {enc : TypeId × Value → H} {w : World} {n : Nat} {cs : List Value} {x : DataW H × List MemPlace} {b o : Nat} (hl : cs.length = 2) (hc : ∀ t, t < 2 → w.cell? ⟨b, o + t, none⟩ = cs[t]?)
    (h : DataW.trod enc Tryz.prog w 0 (fun _ => true) true n 50 cs = some x) : ∃ A : AtV, AtAt w b o A ∧ A.n.size ≤ 9223372036854775807 := by
  obtain ⟨x0, x1, rfl⟩ := list2 hl
  obtain ⟨y0, y1, m, _, _, h0, h1⟩ := trod_struct2 Tryz.underlying50 h
  simp only [Tryz.ce9, Tryz.ceB, List.drop_zero, List.drop_succ_cons, List.take_succ_cons, List.take_zero] at h0 h1
  obtain ⟨s, e0, _, hs0⟩ := DataW.trod_string Tryz.underlying9 h0
  obtain ⟨a, len, cap, xs, e1, hr, hcp⟩ := row_of_trod11 h1
  simp only [List.cons.injEq, and_true] at e0
  subst e0 e1
  exact ⟨⟨s, a, len, cap, xs⟩, ⟨hc 0 (by omega), hc 1 (by omega), hr, hcp⟩, by first | exact hs0 | (have := hs0; unfold maxLen at this; exact this)⟩
theorem ats_sized {H : Type} {enc : TypeId × Value → H} {w : World} {fuel : Nat} {v : Value} {x : DataW H × List MemPlace} (h : DataW.trod enc Tryz.prog w 0 (fun _ => true) true fuel 42 [v] = some x) :
    ∃ a len cap l, v = .slice a len cap ∧ Ats w a len l ∧ len ≤ cap ∧ ∀ A ∈ l, A.n.size ≤ 9223372036854775807 := by
  rcases Deep.open_slice Tryz.underlying42 h with ⟨hcs, _⟩ | ⟨y, len, cap, m, n, D, Pl, hcs, _, hl, hm, hmm, _, hel⟩
  · simp at hcs
    exact ⟨none, 0, 0, [], hcs, ⟨rfl, Nat.zero_le _, fun h => absurd h (by omega)⟩, Nat.le_refl _, fun A h => (by cases h)⟩
  · simp at hcs
    simp only [if_true] at hmm
    subst hmm
    rcases Nat.eq_zero_or_pos len with rfl | h0
    · exact ⟨some y, 0, _, [], hcs, ⟨rfl, Nat.zero_le _, fun h => absurd h (by omega)⟩, hl, fun A h => (by cases h)⟩
    · obtain ⟨b, off, spot⟩ := y
      rw [Tryz.ceA] at hel
      have hspot : spot = none := by
        obtain ⟨cs, h1, _⟩ := hel 0 (by omega)
        obtain ⟨_, hl4, hc⟩ := World.cells?_some h1
        have := hc 0 (by omega)
        obtain ⟨x0, x1, rfl⟩ := list2 hl4
        have h2 : w.cell? ((Addr.add ⟨b, off, spot⟩ (0 * 2)).add 0) = some x0 := this
        simpa [Addr.add] using World.cell?_spot h2
      subst hspot
      have hadd : ∀ i t, ((⟨b, off, none⟩ : Addr).add (i * 2)).add t = ⟨b, off + i * 2 + t, none⟩ := by
        intro i t
        have e : ∀ o k, (⟨b, o, none⟩ : Addr).add k = ⟨b, o + k, none⟩ := by intro o k; unfold Addr.add; split <;> simp_all
        rw [e, e]
      obtain ⟨A, hA⟩ := @Deep.choose_lt AtV ⟨⟨⟨#[]⟩, none, 0, 0, []⟩⟩ len (fun i A => AtAt w b (off + i * 2) A ∧ A.n.size ≤ 9223372036854775807) (fun i hi => by
        obtain ⟨cs, h1, h2⟩ := hel i (by omega)
        obtain ⟨_, hl4, hc⟩ := World.cells?_some h1
        exact at_sized hl4 (fun t ht => by rw [← hadd]; exact hc t ht) h2)
      refine ⟨_, len, _, (List.range len).map A, hcs, ⟨by simp, by omega, fun _ => ⟨b, off, rfl, fun i X hX => ?_⟩⟩, hl, fun X hX => by
        obtain ⟨i, hi, rfl⟩ := List.mem_map.1 hX
        exact (hA i (List.mem_range.1 hi)).2⟩
      have hi : i < len := by
        rcases Nat.lt_or_ge i len with h | h
        · exact h
        · rw [List.getElem?_eq_none (by simp; omega)] at hX; cases hX
      rw [List.getElem?_map, List.getElem?_range hi] at hX
      simp at hX
      subst hX
      exact (hA i hi).1
theorem reach47 {n : Nat} (h : n * 24 ≤ reachBytes) : n ≤ 140737488355328 := by
  unfold reachBytes at h
  omega
theorem kids_len {H : Type} {enc : TypeId × Value → H} {w : World} {fuel : Nat} {a : Option Addr} {len cap : Nat} {x : DataW H × List MemPlace} (h : DataW.trod enc Tryz.prog w 0 (fun _ => true) true fuel 52 [.slice a len cap] = some x) (hw : ∀ n ∈ x.1.weights Tryz.prog 52, n ≤ reachBytes) : len ≤ 140737488355328 := by
  rcases Deep.open_slice Tryz.underlying52 h with ⟨hcs, _⟩ | ⟨y, l, c, m, n, D, Pl, hcs, _, hl, hm, hmm, hx, hel⟩
  · simp at hcs
    omega
  · simp at hcs
    obtain ⟨rfl, rfl, rfl⟩ := hcs
    have h1 := hw (((List.range len).map D).length * 24 + ((List.range (m - len)).map fun j => D (len + j)).length * 24) (by
      rw [hx]
      simp only [DataW.weights, Tryz.underlying52]
      rw [show Tryz.prog.bytesOf 56 = 24 by kernel_rfl, Nat.add_mul]
      exact List.mem_cons_self)
    simp only [List.length_map, List.length_range] at h1
    exact reach47 (by omega)
theorem all_mem11 {H : Type} {P : Program} {e : TypeId} : ∀ {l : List (DataW H)} {d : DataW H}, d ∈ l → ∀ n ∈ d.weights P e, n ∈ DataW.weightsAll P e l
  | x :: r, d, hd, n, hn => by
    simp only [DataW.weightsAll, List.mem_append]
    rcases List.mem_cons.1 hd with h | h
    · subst h; exact Or.inl hn
    · exact Or.inr (all_mem11 h n hn)
  | [], d, hd, _, _ => by cases hd
theorem trod_struct13x {H : Type} {P : Program} {enc : TypeId × Value → H} {w : World} {base : Nat} {spare : Nat → Bool} {held : Bool} {t : TypeId} {f0 f1 f2 f3 f4 f5 f6 f7 f8 f9 f10 f11 f12 : Field} {fuel : Nat} {cs : List Value} {x : DataW H × List MemPlace} (ht : P.underlying t = some (.struct #[f0, f1, f2, f3, f4, f5, f6, f7, f8, f9, f10, f11, f12])) (h : DataW.trod enc P w base spare held fuel t cs = some x) :
    ∃ y0 y1 y2 y3 y4 y5 y6 y7 y8 y9 y10 y11 y12 n, x.1 = .agg [y0.1, y1.1, y2.1, y3.1, y4.1, y5.1, y6.1, y7.1, y8.1, y9.1, y10.1, y11.1, y12.1] ∧ cs.length = P.cellsOf t ∧ DataW.trod enc P w base spare held n f0.type ((cs.drop f0.offset).take (P.cellsOf f0.type)) = some y0 ∧
      DataW.trod enc P w base spare held n f1.type ((cs.drop f1.offset).take (P.cellsOf f1.type)) = some y1 ∧
      DataW.trod enc P w base spare held n f2.type ((cs.drop f2.offset).take (P.cellsOf f2.type)) = some y2 ∧
      DataW.trod enc P w base spare held n f3.type ((cs.drop f3.offset).take (P.cellsOf f3.type)) = some y3 ∧
      DataW.trod enc P w base spare held n f4.type ((cs.drop f4.offset).take (P.cellsOf f4.type)) = some y4 ∧
      DataW.trod enc P w base spare held n f5.type ((cs.drop f5.offset).take (P.cellsOf f5.type)) = some y5 ∧
      DataW.trod enc P w base spare held n f6.type ((cs.drop f6.offset).take (P.cellsOf f6.type)) = some y6 ∧
      DataW.trod enc P w base spare held n f7.type ((cs.drop f7.offset).take (P.cellsOf f7.type)) = some y7 ∧
      DataW.trod enc P w base spare held n f8.type ((cs.drop f8.offset).take (P.cellsOf f8.type)) = some y8 ∧
      DataW.trod enc P w base spare held n f9.type ((cs.drop f9.offset).take (P.cellsOf f9.type)) = some y9 ∧
      DataW.trod enc P w base spare held n f10.type ((cs.drop f10.offset).take (P.cellsOf f10.type)) = some y10 ∧
      DataW.trod enc P w base spare held n f11.type ((cs.drop f11.offset).take (P.cellsOf f11.type)) = some y11 ∧
      DataW.trod enc P w base spare held n f12.type ((cs.drop f12.offset).take (P.cellsOf f12.type)) = some y12 := by
  obtain ⟨xs, n, _, rfl, hl, hlen, hf⟩ := DataW.trod_struct ht h
  match xs, hlen with
  | [y0, y1, y2, y3, y4, y5, y6, y7, y8, y9, y10, y11, y12], _ => exact ⟨y0, y1, y2, y3, y4, y5, y6, y7, y8, y9, y10, y11, y12, n, by simp, hl, by simpa using hf 0 f0 rfl, by simpa using hf 1 f1 rfl, by simpa using hf 2 f2 rfl, by simpa using hf 3 f3 rfl, by simpa using hf 4 f4 rfl, by simpa using hf 5 f5 rfl, by simpa using hf 6 f6 rfl, by simpa using hf 7 f7 rfl, by simpa using hf 8 f8 rfl, by simpa using hf 9 f9 rfl, by simpa using hf 10 f10 rfl, by simpa using hf 11 f11 rfl, by simpa using hf 12 f12 rfl⟩
theorem no_sized {H : Type} {enc : TypeId × Value → H} {w : World} {n : Nat} {cs : List Value} {x : DataW H × List MemPlace} {b o : Nat} (hl : cs.length = 13) (hc : ∀ t, t < 13 → w.cell? ⟨b, o + t, none⟩ = cs[t]?)
    (h : DataW.trod enc Tryz.prog w 0 (fun _ => true) true n 54 cs = some x) (hw : ∀ n ∈ x.1.weights Tryz.prog 54, n ≤ reachBytes) : ∃ X : NoV, NoAt w b o X ∧ Ncq X ∧ X.kl ≤ 140737488355328 := by
  obtain ⟨x0, x1, x2, x3, x4, x5, x6, x7, x8, x9, x10, x11, x12, rfl⟩ := list13 hl
  obtain ⟨y0, y1, y2, y3, y4, y5, y6, y7, y8, y9, y10, y11, y12, m, hx, _, h0, h1, h2, h3, h4, h5, h6, h7, h8, h9, h10, h11, h12⟩ := trod_struct13x Tryz.underlying54 h
  simp only [Tryz.ce3, Tryz.ce9, Tryz.ceB, Tryz.ceAs, Tryz.ceKs, List.drop_zero, List.drop_succ_cons, List.take_succ_cons, List.take_zero] at h0 h1 h2 h3 h4 h5 h6 h7 h8 h9 h10 h11 h12
  obtain ⟨z0, e0, _, w0⟩ := DataW.trod_int Tryz.underlying3 h0
  obtain ⟨z1, e1, _, w1⟩ := DataW.trod_int Tryz.underlying3 h1
  obtain ⟨z2, e2, _, w2⟩ := DataW.trod_int Tryz.underlying3 h2
  obtain ⟨z3, e3, _, w3⟩ := DataW.trod_int Tryz.underlying3 h3
  obtain ⟨z4, e4, _, w4⟩ := DataW.trod_int Tryz.underlying3 h4
  obtain ⟨z5, e5, _, w5⟩ := DataW.trod_int Tryz.underlying3 h5
  obtain ⟨da, dl, dc, ds, e6, hr, hcp⟩ := row_of_trod11 h6
  obtain ⟨s7, e7, _, hs7⟩ := DataW.trod_string Tryz.underlying9 h7
  obtain ⟨z8, e8, _, w8⟩ := DataW.trod_int Tryz.underlying3 h8
  obtain ⟨aa, al, ac, tts, e9, ha, hac, hna⟩ := ats_sized h9
  obtain ⟨ka, kl, kc, kds, e10, hk, hkc, _⟩ := kds_of_trod h10
  obtain ⟨z11, e11, _, w11⟩ := DataW.trod_int Tryz.underlying3 h11
  obtain ⟨z12, e12, _, w12⟩ := DataW.trod_int Tryz.underlying3 h12
  simp only [List.cons.injEq, and_true] at e0 e1 e2 e3 e4 e5 e7 e8 e11 e12
  subst e0 e1 e2 e3 e4 e5 e6 e7 e8 e9 e10 e11 e12
  have hkl := kids_len h10 fun k hk => hw k (by
    rw [hx]
    simp only [DataW.weights, Tryz.underlying54]
    exact DataW.weights_mem_each (j := 10) (t := 52) (d := y10.1) rfl rfl k hk)
  refine ⟨⟨z0, z1, z2, z3, z4, z5, da, dl, dc, ds, s7, z8, aa, al, ac, tts, ka, kl, kc, kds, z11, z12⟩, ⟨hc 0 (by omega), hc 1 (by omega), hc 2 (by omega), hc 3 (by omega), hc 4 (by omega), hc 5 (by omega), hc 6 (by omega), hc 7 (by omega), hc 8 (by omega), hc 9 (by omega), hc 10 (by omega), hc 11 (by omega), hc 12 (by omega), hr, ha, hk⟩, ?_, hkl⟩
  exact ⟨hcp, hac, by first | exact hs7 | (have := hs7; unfold maxLen at this; omega), hna⟩
theorem nos_sized {H : Type} {enc : TypeId × Value → H} {w : World} {fuel : Nat} {v : Value} {x : DataW H × List MemPlace} (h : DataW.trod enc Tryz.prog w 0 (fun _ => true) true fuel 31 [v] = some x) (hw : ∀ n ∈ x.1.weights Tryz.prog 31, n ≤ reachBytes) :
    ∃ a len cap l, v = .slice a len cap ∧ Nos w a len l ∧ ∀ X ∈ l, Ncq X ∧ X.kl ≤ 140737488355328 := by
  rcases Deep.open_slice Tryz.underlying31 h with ⟨hcs, _⟩ | ⟨y, len, cap, m, n, D, Pl, hcs, _, hl, hm, hmm, hx, hel⟩
  · simp at hcs
    exact ⟨none, 0, 0, [], hcs, ⟨rfl, Nat.zero_le _, fun h => absurd h (by omega)⟩, fun X h => (by cases h)⟩
  · simp at hcs
    simp only [if_true] at hmm
    subst hmm
    rcases Nat.eq_zero_or_pos len with rfl | h0
    · exact ⟨some y, 0, _, [], hcs, ⟨rfl, Nat.zero_le _, fun h => absurd h (by omega)⟩, fun X h => (by cases h)⟩
    · obtain ⟨b, off, spot⟩ := y
      rw [Tryz.ceN] at hel
      have hspot : spot = none := by
        obtain ⟨cs, h1, _⟩ := hel 0 (by omega)
        obtain ⟨_, hl4, hc⟩ := World.cells?_some h1
        have := hc 0 (by omega)
        obtain ⟨x0, x1, x2, x3, x4, x5, x6, x7, x8, x9, x10, x11, x12, rfl⟩ := list13 hl4
        have h2 : w.cell? ((Addr.add ⟨b, off, spot⟩ (0 * 13)).add 0) = some x0 := this
        simpa [Addr.add] using World.cell?_spot h2
      subst hspot
      have hadd : ∀ i t, ((⟨b, off, none⟩ : Addr).add (i * 13)).add t = ⟨b, off + i * 13 + t, none⟩ := by
        intro i t
        have e : ∀ o k, (⟨b, o, none⟩ : Addr).add k = ⟨b, o + k, none⟩ := by intro o k; unfold Addr.add; split <;> simp_all
        rw [e, e]
      have hwD : ∀ i, i < len → ∀ k ∈ (D i).weights Tryz.prog 54, k ≤ reachBytes := by
        intro i hi k hk
        apply hw
        rw [hx]
        simp only [DataW.weights, Tryz.underlying31]
        refine List.mem_cons_of_mem _ (List.mem_append.2 (Or.inl (all_mem11 (d := D i) ?_ k hk)))
        exact List.mem_map.2 ⟨i, List.mem_range.2 hi, rfl⟩
      obtain ⟨A, hA⟩ := @Deep.choose_lt NoV ⟨⟨0, 0, 0, 0, 0, 0, none, 0, 0, [], ⟨#[]⟩, 0, none, 0, 0, [], none, 0, 0, [], 0, 0⟩⟩ len (fun i A => NoAt w b (off + i * 13) A ∧ Ncq A ∧ A.kl ≤ 140737488355328) (fun i hi => by
        obtain ⟨cs, h1, h2⟩ := hel i (by omega)
        obtain ⟨_, hl4, hc⟩ := World.cells?_some h1
        exact no_sized hl4 (fun t ht => by rw [← hadd]; exact hc t ht) h2 (hwD i hi))
      refine ⟨_, len, _, (List.range len).map A, hcs, ⟨by simp, by omega, fun _ => ⟨b, off, rfl, fun i X hX => ?_⟩⟩, fun X hX => by
        obtain ⟨i, hi, rfl⟩ := List.mem_map.1 hX
        exact (hA i (List.mem_range.1 hi)).2⟩
      have hi : i < len := by
        rcases Nat.lt_or_ge i len with h | h
        · exact h
        · rw [List.getElem?_eq_none (by simp; omega)] at hX; cases hX
      rw [List.getElem?_map, List.getElem?_range hi] at hX
      simp at hX
      subst hX
      exact (hA i hi).1
theorem tree_sized {H : Type} {enc : TypeId × Value → H} {w : World} {fuel : Nat} {cs : List Value} {x : DataW H × List MemPlace} (h : DataW.trod enc Tryz.prog w 0 (fun _ => true) true fuel 33 cs = some x) (hl1 : cs.length = 1) (hw : ∀ n ∈ x.1.weights Tryz.prog 33, n ≤ reachBytes) :
    ∃ a len cap l, cs = [.slice a len cap] ∧ Nos w a len l ∧ ∀ X ∈ l, Ncq X ∧ X.kl ≤ 140737488355328 := by
  obtain ⟨xs, n, _, rfl, hl, hlen, hf⟩ := DataW.trod_struct Tryz.underlying33 h
  match xs, hlen with
  | [y0], _ =>
    match cs, hl1 with
    | [v], _ =>
      have h0 := hf 0 _ rfl
      have h0' : DataW.trod enc Tryz.prog w 0 (fun _ => true) true n 31 [v] = some y0 := by
        have e : Tryz.prog.cellsOf 31 = 1 := by kernel_rfl
        simpa [e] using h0
      obtain ⟨a, len, cap, l, e, r⟩ := nos_sized h0' fun k hk => hw k (by
        simp only [DataW.weights, Tryz.underlying33]
        exact DataW.weights_mem_each (j := 0) (t := 31) (d := y0.1) rfl (by simp) k hk)
      exact ⟨a, len, cap, l, by rw [e], r⟩
end Go.Proofs.YtbpoealcaogjpaaGreatDoor
