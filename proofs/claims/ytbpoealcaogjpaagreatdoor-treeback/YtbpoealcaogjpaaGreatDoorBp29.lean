/- TreeBack. Entries that came in. -/
import Derived.ProofKit
import Derived.OpenShut
import Derived.ChangeOld
import Derived.Lib.SmallJoins
import Derived.Deep.Slices
import Derived.Test.YtbpoealcaogjpaaGreatDoorBp06
import Derived.Test.YtbpoealcaogjpaaGreatDoorBp07
import Derived.Test.YtbpoealcaogjpaaGreatDoorBp11
import Derived.Test.YtbpoealcaogjpaaGreatDoorBp28
namespace Go.Proofs.YtbpoealcaogjpaaGreatDoor
open Go.RowKit
set_option maxRecDepth 100000
set_option linter.unusedSimpArgs false
set_option linter.unusedVariables false

theorem Nk.ncp {w W : World} {base : Nat} {X : NoV} (h : Nk w W base X) (hs : Sm X.no) (hk : ∀ k ∈ X.kids, k.n.length ≤ 4096) : Ncp X := by
  refine ⟨h.dcap, ?_, ?_, fun A hA => ?_, fun k hk2 => by have := hk k hk2; omega⟩
  · rcases h.own.2 with ⟨e, h0⟩ | ⟨g, cap, cur, e, hg, hh, hc, hm, _⟩
    · rw [h0]; exact Nat.zero_le _
    · injection e with e1 e2 e3
      rw [e3]; exact hc
  · have := hs.t
    rw [show X.no.target = X.target.toList from rfl, tl_len] at this
    omega
  · have := (hs.e A.at (List.mem_map.2 ⟨A, hA, rfl⟩)).1
    rw [show A.at.n = A.n.toList from rfl, tl_len] at this
    omega
theorem ens_got {l : List EnV} {L : List En} (h : ens l = L) {i : Nat} {x : En} (hx : L[i]? = some x) : ∃ X, l[i]? = some X ∧ X.en = x := by
  rw [← h] at hx
  unfold ens at hx
  rw [List.getElem?_map] at hx
  cases hX : l[i]? with
  | none => rw [hX] at hx; cases hx
  | some X => rw [hX] at hx; injection hx with hx; exact ⟨X, rfl, hx⟩
theorem told_sml2 {w' : World} {base : Nat} {l : List EnV} {L : List En} (he : ens l = L) (hx : ∀ X ∈ l, Xn w' base X) (hs : ∀ e ∈ L, e.path.length ≤ 4096 ∧ e.target.length ≤ 4096 ∧ e.attrs.length ≤ 64 ∧ ∀ a ∈ e.attrs, a.n.length ≤ 255) : Sml l := by
  rw [← he] at hs
  intro X hX
  have := hs X.en (List.mem_map.2 ⟨X, hX, rfl⟩)
  refine ⟨?_, ?_, fun A hA => ?_⟩
  · have h1 := this.1
    rw [show X.en.path = X.path.toList from rfl, tl_len] at h1
    omega
  · have h1 := this.2.1
    rw [show X.en.target = X.target.toList from rfl, tl_len] at h1
    omega
  · have h1 := this.2.2.2 A.at (List.mem_map.2 ⟨A, hA, rfl⟩)
    rw [show A.at.n = A.n.toList from rfl, tl_len] at h1
    omega
theorem tells_en2 {ns : List No} {s : Wk} (h : Tells ns s) : ∀ e ∈ s.list.map (enL ns), e.path.length ≤ 4096 ∧ e.target.length ≤ 4096 ∧ e.attrs.length ≤ 64 ∧ ∀ a ∈ e.attrs, a.n.length ≤ 255 := by
  obtain ⟨c1, c2, ok⟩ := chk_ok.1 h.2.1
  have hsm := canon_sm ok c2
  rw [h.2.2] at hsm
  have hok := (meetP_ok _ ⟨[], []⟩ 0 [] s ⟨List.nodup_nil, fun x h => (by cases h), Nat.zero_le _, fun x h => (by cases h), fun x h => (by cases h)⟩ h.1).1
  intro e he
  obtain ⟨x, hx, rfl⟩ := List.mem_map.1 he
  have hp := hok.pl x hx
  unfold enL
  cases hs : x.src with
  | inr q => exact ⟨hp, hok.ql x hx q hs, Nat.zero_le _, fun a ha => by cases ha⟩
  | inl i =>
    simp only
    cases hn : ns[i]? with
    | none => exact ⟨hp, Nat.zero_le _, Nat.zero_le _, fun a ha => by cases ha⟩
    | some n =>
      have sm := hsm n (List.mem_of_getElem? hn)
      exact ⟨hp, sm.t, sm.a, fun a ha => (sm.e a ha).1⟩
set_option maxHeartbeats 16000000 in
theorem treeBack_walk (a : Option Addr) (len cap : Nat) (l : List EnV) (w : World) (E : Ens w a len l) : Calls Tryz.prog 6 #[.slice a len cap] w fun e w' => e = .returned (.bool true) ∧ w.grownBy w' none := by
  have hmu := rmuch_any a len cap l w E
  unfold MuPost at hmu
  have HE : Hid _ := And.intro E E.len_eq
  clear E
  go_enter Tryz.func6, Tryz.ntmps6
  go_wp2_with fail
  refine hmu.mono ?_
  clear hmu
  rintro e W1 ⟨rfl | ⟨rfl, hlen, hsm⟩, g1⟩
  · go_wp2_with fail
    refine (live11_any _).mono ?_
    rintro e W2 ⟨rfl, g2⟩
    go_wp2
    go_ret
    exact ⟨rfl, grown_trans g1 g2⟩
  · have hda : ∀ x ∈ ens l, x.data.length ≤ 70000 := fun x hx => by
      obtain ⟨X, hX, rfl⟩ := List.mem_map.1 hx
      obtain ⟨i, hi⟩ := List.mem_iff_getElem?.1 hX
      have h1 := (hsm i X hi).d
      have hil := (List.getElem?_eq_some_iff.1 hi).1
      obtain ⟨b, off, -, k⟩ := HE.out.1.at_ (by rw [← HE.out.2]; omega)
      have h2 := (k i X hi).ok.row.len_eq
      show X.data.length ≤ 70000
      omega
    have hal : ∀ X ∈ l, X.al ≤ 100000 := fun X hX => by
      obtain ⟨i, hi⟩ := List.mem_iff_getElem?.1 hX
      have := (hsm i X hi).a
      omega
    have HS : Hid _ := And.intro hsm.sml (And.intro hlen (And.intro hda hal))
    have HG1 : Hid _ := g1
    clear g1 hsm hda hal
    have hrc := rcheck_any a len cap l W1 (HE.out.1.grown HG1.out) HS.out.1 (by omega)
    generalize hc1 : (chk11 (ens l)).1 = k1 at *
    generalize hc2 : (chk11 (ens l)).2 = k2 at *
    have HK : Hid _ := hc2
    clear hc1 hc2
    go_wp2_with fail
    refine hrc.mono ?_
    clear hrc
    rintro e W2 ⟨rfl, g2⟩
    have HG2 : Hid _ := grown_trans HG1.out g2
    clear g2 HG1
    by_cases hk : k2 = 0
    · subst hk
      have HOK : Hid (OkS (ens l)) := (chk_ok.1 HK.out).2.2
      have hca := rcanon_any a len cap l W2 (HE.out.1.grown HG2.out) HS.out.1 (by omega) HS.out.2.2.2 HOK.out
      unfold CaPost at hca
      go_wp2_with fail
      refine hca.mono ?_
      clear hca
      rintro e W3 ⟨b5, n5, c5, ns, rfl, hT, hn5, hno⟩
      have gA := World.grownBy_alloc W3 (.cells #[.slice b5 n5 c5] 33) none
      have bT := Bx.new W3 33 [.slice b5 n5 c5]
      have hN3 := (hT.nos hn5).grown gA
      have hsmc := canon_sm HOK.out (chk_ok.1 HK.out).2.1
      have hksm := kids_small HOK.out
      rw [← hno] at hsmc hksm
      have hcp : ∀ N ∈ ns, Ncp N := fun N hN => by
        obtain ⟨i, hi⟩ := List.mem_iff_getElem?.1 hN
        have hm : N.no ∈ nos ns := List.mem_map.2 ⟨N, hN, rfl⟩
        exact (hT.each i N hi).ncp (hsmc _ hm) (hksm _ hm)
      obtain ⟨s0, hs1, hs2, hs3, hs4⟩ := back_tells HOK.out (by unfold ens; rw [List.length_map, HE.out.2]; exact HS.out.2.1) HS.out.2.2.1
      rw [← hno] at hs1 hs2 hs4
      have hll := (lstL_len HOK.out).1
      have hel : (ens l).length = len := by unfold ens; rw [List.length_map, HE.out.2]
      have hnl : (nos ns).length = n5 := by rw [nos_len]; exact hn5
      have hs0l : s0.list.length = (lstL (ens l)).length := by rw [← hs2, List.length_map]
      have hpl := plist_any b5 n5 c5 ns _ hN3 hcp (fun s hs => by
        rw [← hnl, hs1] at hs
        injection hs with hs
        subst hs
        have := HS.out.2.1
        omega)
      have hte0 : Tells (nos ns) s0 := ⟨hs1, by rw [hs2]; exact hs3, by rw [hs2]; exact hs4⟩
      have HT0 : Hid _ := And.intro hte0 (And.intro hs2 (And.intro hs3 (And.intro hs4 (And.intro hno hnl))))
      have HG3 : Hid _ := And.intro (grown_trans (grown_trans HG2.out hT.gr) gA) (And.intro bT hN3)
      clear hT hn5 gA bT hN3 hsmc hksm hcp hs1 hs2 hs3 hs4 hs0l hte0 hno hnl HG2
      have t0 := HG3.out.2.1.c 0
      go_wp2_with fail
      generalize W3.alloc (.cells #[.slice b5 n5 c5] 33) = W4 at *
      generalize W3.heap.size = gt at *
      refine hpl.mono ?_
      clear hpl
      rintro e W5 (⟨-, -, hbad⟩ | ⟨s, g, vc, m, q, hte, rfl, hL, hql, hms, hXn, hen⟩)
      · exact absurd HT0.out.1 (hbad s0)
      · obtain rfl : s = s0 := by
          have h1 := hte.1
          rw [HT0.out.1.1] at h1
          injection h1 with h1
          exact h1.symm
        have hsml := told_sml2 hen hXn (tells_en2 hte)
        rw [HT0.out.2.1] at hen
        obtain ⟨a', c', e', hEq⟩ := own_ens hL.own hql.symm (fun X hX => (hXn X hX).ok)
        injection e' with e1 e2 e3
        subst e1
        have hqn : m = (lstL (ens l)).length := by rw [← hen]; unfold ens; rw [List.length_map]; exact hql.symm
        have hm1 : 1 ≤ m := by rw [hqn]; unfold lstL mkL; simp
        have hm41 : m ≤ 41 := by have := HS.out.2.1; omega
        have hord := lstL_order HOK.out
        have hnn : (psL (pths (ens l))).length = m - 1 := by have := (lstL_len HOK.out).2; omega
        rw [hnn] at hord
        obtain ⟨X0, hX0, hX0e⟩ := ens_got hen (show (lstL (ens l))[0]? = some (enOf [] (ndOf (look (ens l) []))) from rfl)
        have hX0p : X0.path = ⟨#[]⟩ := tl_inj (by
          have h1 : X0.en.path = [] := by rw [hX0e]; rfl
          have h2 : X0.path.toList = [] := h1
          rw [h2]; exact (tx_tl []).symm)
        have p0 : W5.cell? ⟨g, 0, none⟩ = some (.string ⟨#[]⟩) := by
          have e := hL.cell hql hX0 (f := 0) (by decide)
          rw [show 0 * 11 + 0 = 0 by rfl] at e
          rw [e, ← hX0p]; rfl
        have HQ : Hid _ := And.intro hL (And.intro hql (And.intro hen (And.intro hsml (And.intro hEq hord))))
        have HG5 : Hid _ := And.intro (grown_trans HG3.out.1 hL.gr) (And.intro (HG3.out.2.1.kept hL.gr) (HG3.out.2.2.grown hL.gr))
        have hm0 : ¬ ((m : Int) = 0) := by omega
        have hm0b : ((m : Int) == 0) = false := by rw [beq_eq_false_iff_ne]; omega
        have hm0i : (0 : Int) < (m : Int) := by omega
        have hro := rorder11_any (some ⟨g, 0, none⟩) m vc q W5 HQ.out.2.2.2.2.1 hsml (by omega)
        unfold IoPost at hro
        rw [hen, hord] at hro
        clear hL hql hen hsml hEq hord hXn hte hX0 hX0e hX0p hms e2 e3 t0 HG3 hqn hnn hll hel hm1
        go_wp2_with (go_at_call 13; refine (num11_any _ _).mono ?_; rintro e w' ⟨rfl, rfl⟩)
        refine hro.mono ?_
        clear hro
        rintro e W6 ⟨v6, rfl, ho6, g6⟩
        rw [List.length_map, List.length_range] at ho6
        obtain ⟨oa, oc, rfl⟩ := own_shape ho6
        have HO6 : Hid _ := And.intro ho6 g6
        clear ho6 g6 p0
        go_wp2_with fail
        go_loopw [9] (fun v9 wr => ∃ i : Nat, i ≤ m - 1 ∧ v9 = .int .i64 i ∧ Hid (W6.grownBy wr none)) (fun v9 _ => (m - 1) - (intOf v9).toNat)
        case atStart => exact ⟨0, Nat.zero_le _, rfl, World.grownBy.refl _ _⟩
        case round =>
          obtain ⟨i, hi, rfl, HR⟩ := hrel
          by_cases hlt : i < m - 1
          · obtain ⟨go_, oc2, hv⟩ : ∃ go_ c2, (Value.slice oa (m - 1) oc) = .slice (some ⟨go_, 0, none⟩) (m - 1) c2 := by
              rcases HO6.out.1.2 with ⟨-, h0⟩ | ⟨q0, cap0, cur, hv, -⟩
              · omega
              · exact ⟨q0, cap0, hv⟩
            injection hv with hv1 hv2 hv3
            subst hv1
            have ho : wr.cell? ⟨go_, i, none⟩ = some (.int .i64 ((i + 1 : Nat) : Int)) := by
              rw [(owns_kept11 HO6.out.1 HR.out).cellAt i (by omega)]
              unfold ivN
              rw [List.getElem?_map, List.getElem?_map, List.getElem?_range hlt]
              rfl
            have hLr := (HQ.out.1.kept HO6.out.2).kept HR.out
            obtain ⟨X1, hX1⟩ : ∃ X1, q[i + 1]? = some X1 := ⟨_, List.getElem?_eq_getElem (by rw [HQ.out.2.1]; omega)⟩
            have x1 : wr.cell? ⟨g, (i + 1) * 11 + 1, none⟩ = some (.int .i64 X1.k) := by rw [hLr.cell HQ.out.2.1 hX1 (by decide)]; rfl
            have HX1 : Hid _ := hX1
            have hlti : (i : Int) < ((m - 1 : Nat) : Int) := by omega
            have hlt2 : (i : Int) + 1 < (m : Int) := by omega
            have hi1 : IntKind.i64.wrap ((i : Int) + 1) = ((i + 1 : Nat) : Int) := by rw [IntKind.wrap_i64]; omega
            have hw1 : wrap64 ((i : Int) + 1) = ((i + 1 : Nat) : Int) := wrapk (by omega)
            clear hLr hX1 hv2 hv3
            by_cases h6 : X1.k = 6
            · rw [h6] at x1
              go_wp2_with fail
              go_loopw [10, 11] (fun v10 v11 wz => ∃ (k : Nat) (b : Bool), 1 ≤ k ∧ k ≤ i + 1 ∧ v11 = .int .i64 k ∧ v10 = .bool b ∧ Hid ((∀ (j : Nat) (Y : EnV), 1 ≤ j → j < k → q[j]? = some Y → Y.path.toList = X1.target.toList → b = true) ∧ W6.grownBy wz none)) (fun _ v11 _ => (i + 1) - (intOf v11).toNat)
              case atStart => exact ⟨1, false, Nat.le_refl _, by omega, rfl, rfl, fun j Y h1 h2 => by omega, HR.out⟩
              case round =>
                obtain ⟨k, b, hk1, hk2, rfl, rfl, HB⟩ := hrel
                by_cases hki : k ≤ i
                · have hkii : (k : Int) ≤ (i : Int) := by omega
                  have hkm : (k : Int) < (m : Int) := by omega
                  have hLz := (HQ.out.1.kept HO6.out.2).kept HB.out.2
                  obtain ⟨Y, hY⟩ : ∃ Y, q[k]? = some Y := ⟨_, List.getElem?_eq_getElem (by rw [HQ.out.2.1]; omega)⟩
                  have y0 : wr.cell? ⟨g, k * 11, none⟩ = some (.string Y.path) := by
                    have e := hLz.cell HQ.out.2.1 hY (f := 0) (by decide)
                    rw [Nat.add_zero] at e
                    rw [e]; rfl
                  have y8 : wr.cell? ⟨g, (i + 1) * 11 + 8, none⟩ = some (.string X1.target) := by rw [hLz.cell HQ.out.2.1 HX1.out (f := 8) (by decide)]; rfl
                  have HY : Hid _ := hY
                  clear hLz hY x1 ho
                  have hkk : ((k : Int) + 1) = ((k + 1 : Nat) : Int) := by omega
                  have HKK : Hid _ := hkk
                  clear hkk
                  have fin : ∀ b' wz, W6.grownBy wz none → (b = true → b' = true) → (Y.path.toList = X1.target.toList → b' = true) → (∃ (k' : Nat) (b'' : Bool), 1 ≤ k' ∧ k' ≤ i + 1 ∧ Value.int .i64 ((k : Int) + 1) = .int .i64 k' ∧ Value.bool b' = .bool b'' ∧ Hid ((∀ (j : Nat) (Y : EnV), 1 ≤ j → j < k' → q[j]? = some Y → Y.path.toList = X1.target.toList → b'' = true) ∧ W6.grownBy wz none)) ∧ (i + 1) - (intOf (Value.int .i64 ((k : Int) + 1))).toNat < (i + 1) - (intOf (Value.int .i64 (k : Int))).toNat := fun b' wz hg h1 h2 => by
                    rw [HKK.out]
                    refine ⟨⟨k + 1, b', by omega, by omega, rfl, rfl, fun j Z hj1 hj2 hZ he => ?_, hg⟩, ?_⟩
                    · rcases Nat.lt_or_ge j k with h | h
                      · exact h1 (HB.out.1 j Z hj1 h hZ he)
                      · obtain rfl : j = k := by omega
                        have h3 := HY.out
                        rw [hZ] at h3
                        injection h3 with h3
                        subst h3
                        exact h2 he
                    · simp only [intOf, Int.toNat_natCast]
                      omega
                  have HFIN : Hid _ := fin
                  clear fin
                  cases b with
                  | true =>
                    go_wp2_with fail
                    go_quiet (fail)
                    go_wp2_with fail
                    exact HFIN.out true _ (drewG11 HB.out.2 _) (fun _ => rfl) (fun _ => rfl)
                  | false =>
                    cases hbb : (Y.path.toList == X1.target.toList) with
                    | true =>
                      go_wp2_with fail
                      go_quiet (fail)
                      go_wp2_with fail
                      exact HFIN.out true _ (drewG11 HB.out.2 _) (fun _ => rfl) (fun _ => rfl)
                    | false =>
                      go_wp2_with fail
                      go_quiet (fail)
                      go_wp2_with fail
                      exact HFIN.out false _ (drewG11 HB.out.2 _) (fun h => h) (fun h => by rw [h] at hbb; simp at hbb)
                · obtain rfl : k = i + 1 := by omega
                  have hkii : ¬ ((i + 1 : Nat) : Int) ≤ (i : Int) := by omega
                  obtain rfl : b = true := by
                    have hx : (lstL (ens l))[i + 1]? = some X1.en := by
                      rw [← HQ.out.2.2.1]
                      unfold ens
                      rw [List.getElem?_map, HX1.out]; rfl
                    obtain ⟨k0, y, a1, a2, a3, a4⟩ := lstL_first HOK.out hx h6
                    obtain ⟨Z, hZ, hZe⟩ := ens_got HQ.out.2.2.1 a3
                    refine HB.out.1 k0 Z a1 (by omega) hZ ?_
                    have h1 : Z.en.path = X1.en.target := by rw [hZe]; exact a4
                    exact h1
                  have HRB : Hid _ := HB.out.2
                  clear HB
                  go_wp2_with fail
                  have hk1 : ((i : Int) + 1) = ((i + 1 : Nat) : Int) := by omega
                  rw [hk1]
                  refine ⟨⟨i + 1, hlt, rfl, HRB.out⟩, ?_⟩
                  simp only [intOf, Int.toNat_natCast]
                  exact Nat.sub_lt_sub_left hlt (Nat.lt_succ_self i)
            · have h6b : (X1.k == 6) = false := by rw [beq_eq_false_iff_ne]; exact h6
              go_wp2_with fail
              have hk1 : ((i : Int) + 1) = ((i + 1 : Nat) : Int) := by omega
              rw [hk1]
              refine ⟨⟨i + 1, hlt, rfl, HR.out⟩, ?_⟩
              simp only [intOf, Int.toNat_natCast]
              exact Nat.sub_lt_sub_left hlt (Nat.lt_succ_self i)
          · obtain rfl : i = m - 1 := by omega
            have hlti : ¬ ((m - 1 : Nat) : Int) < ((m - 1 : Nat) : Int) := by omega
            go_wp2_with fail
            have hpc := pcanon_any (some ⟨g, 0, none⟩) m vc q wr (HQ.out.2.2.2.2.1.grown (grown_trans HO6.out.2 HR.out)) (szs_of HQ.out.2.2.2.1) (by omega)
            unfold CnPost at hpc
            rw [HQ.out.2.2.1, HT0.out.2.2.1, if_pos rfl, HT0.out.2.2.2.1] at hpc
            refine hpc.mono ?_
            clear hpc
            rintro e W8 ⟨g8, b8, n8, c8, ns8, rfl, hN8, -, -, hns8⟩
            have gB := World.grownBy_alloc W8 (.cells #[.slice b8 n8 c8] 33) none
            have bU := Bx.new W8 33 [.slice b8 n8 c8]
            have gall := grown_trans (grown_trans (grown_trans HO6.out.2 HR.out) g8) gB
            have t9 : _ = some _ := (HG5.out.2.1.kept gall).c 0
            have u9 : _ = some _ := bU.c 0
            have hsm := rsame11_any b8 b5 n8 c8 n5 c5 ns8 ns (W8.alloc (.cells #[.slice b8 n8 c8] 33)) (hN8.grown gB) (HG5.out.2.2.grown gall)
            rw [hns8, (sameNos_eq _ _).2 rfl] at hsm
            have HFG : Hid _ := grown_trans HG5.out.1 gall
            clear g8 gB bU gall hN8 hns8
            go_wp2_with (go_at_call 13; refine (num11_any _ _).mono ?_; rintro e w' ⟨rfl, rfl⟩)
            refine hsm.mono ?_
            rintro e W9 ⟨rfl, g9⟩
            go_wp2_with fail
            refine (live11_any _).mono ?_
            rintro e W10 ⟨rfl, g10⟩
            go_wp2
            go_ret
            exact ⟨rfl, grown_trans (grown_trans HFG.out g9) g10⟩
    · have hkb : (k2 == 0) = false := by rw [beq_eq_false_iff_ne]; exact hk
      have hkn : (k2 != 0) = true := by simp [hk]
      go_wp2_with fail
      refine (live11_any _).mono ?_
      rintro e W3 ⟨rfl, g3⟩
      go_wp2
      go_ret
      exact ⟨rfl, grown_trans HG2.out g3⟩
end Go.Proofs.YtbpoealcaogjpaaGreatDoor

namespace Go.Proofs.YtbpoealcaogjpaaGreatDoor
open Go.ChangeShapes Go.WideShapes Go.RowKit Go.Joins
set_option maxRecDepth 100000
set_option linter.unusedVariables false
set_option linter.unusedSimpArgs false

theorem Tryz.ce3 : Tryz.prog.cellsOf 3 = 1 := by kernel_rfl
theorem Tryz.ce5 : Tryz.prog.cellsOf 5 = 1 := by kernel_rfl
theorem Tryz.ce9 : Tryz.prog.cellsOf 9 = 1 := by kernel_rfl
theorem Tryz.ceB : Tryz.prog.cellsOf 41 = 1 := by kernel_rfl
theorem Tryz.ceA : Tryz.prog.cellsOf 50 = 2 := by kernel_rfl
theorem Tryz.ceAs : Tryz.prog.cellsOf 42 = 1 := by kernel_rfl
theorem Tryz.ceE : Tryz.prog.cellsOf 44 = 11 := by kernel_rfl
theorem row_of_trod11 {H : Type} {enc : TypeId × Value → H} {w : World} {fuel : Nat} {v : Value} {x : DataW H × List MemPlace} (h : DataW.trod enc Tryz.prog w 0 (fun _ => true) true fuel 41 [v] = some x) :
    ∃ a len cap xs, v = .slice a len cap ∧ Row w a len xs ∧ len ≤ cap := by
  rcases open_ints Tryz.underlying41 Tryz.underlying5 Tryz.ce5 h with ⟨hcs, _⟩ | ⟨y, l, c, zs, hcs, _, hl, hm, hz, _, hcell, hwz⟩
  · simp at hcs
    have hr : IsRow .u8 w none 0 0 [] := .inl ⟨rfl, rfl, rfl, rfl⟩
    exact ⟨none, 0, 0, _, hcs, hr.row, Nat.le_refl _⟩
  · simp at hcs
    have hr : IsRow .u8 w (some y) l c zs := .inr ⟨_, rfl, hl, hm, by simpa using hz, hcell, hwz⟩
    exact ⟨some y, l, c, _, hcs, hr.row, hl⟩
theorem trod_struct11 {H : Type} {P : Program} {enc : TypeId × Value → H} {w : World} {base : Nat} {spare : Nat → Bool} {held : Bool} {t : TypeId} {f0 f1 f2 f3 f4 f5 f6 f7 f8 f9 f10 : Field} {fuel : Nat} {cs : List Value} {x : DataW H × List MemPlace} (ht : P.underlying t = some (.struct #[f0, f1, f2, f3, f4, f5, f6, f7, f8, f9, f10])) (h : DataW.trod enc P w base spare held fuel t cs = some x) :
    ∃ y0 y1 y2 y3 y4 y5 y6 y7 y8 y9 y10 n, cs.length = P.cellsOf t ∧ DataW.trod enc P w base spare held n f0.type ((cs.drop f0.offset).take (P.cellsOf f0.type)) = some y0 ∧
      DataW.trod enc P w base spare held n f1.type ((cs.drop f1.offset).take (P.cellsOf f1.type)) = some y1 ∧
      DataW.trod enc P w base spare held n f2.type ((cs.drop f2.offset).take (P.cellsOf f2.type)) = some y2 ∧
      DataW.trod enc P w base spare held n f3.type ((cs.drop f3.offset).take (P.cellsOf f3.type)) = some y3 ∧
      DataW.trod enc P w base spare held n f4.type ((cs.drop f4.offset).take (P.cellsOf f4.type)) = some y4 ∧
      DataW.trod enc P w base spare held n f5.type ((cs.drop f5.offset).take (P.cellsOf f5.type)) = some y5 ∧
      DataW.trod enc P w base spare held n f6.type ((cs.drop f6.offset).take (P.cellsOf f6.type)) = some y6 ∧
      DataW.trod enc P w base spare held n f7.type ((cs.drop f7.offset).take (P.cellsOf f7.type)) = some y7 ∧
      DataW.trod enc P w base spare held n f8.type ((cs.drop f8.offset).take (P.cellsOf f8.type)) = some y8 ∧
      DataW.trod enc P w base spare held n f9.type ((cs.drop f9.offset).take (P.cellsOf f9.type)) = some y9 ∧
      DataW.trod enc P w base spare held n f10.type ((cs.drop f10.offset).take (P.cellsOf f10.type)) = some y10 := by
  obtain ⟨xs, n, _, rfl, hl, hlen, hf⟩ := DataW.trod_struct ht h
  match xs, hlen with
  | [y0, y1, y2, y3, y4, y5, y6, y7, y8, y9, y10], _ => exact ⟨y0, y1, y2, y3, y4, y5, y6, y7, y8, y9, y10, n, hl, by simpa using hf 0 f0 rfl, by simpa using hf 1 f1 rfl, by simpa using hf 2 f2 rfl, by simpa using hf 3 f3 rfl, by simpa using hf 4 f4 rfl, by simpa using hf 5 f5 rfl, by simpa using hf 6 f6 rfl, by simpa using hf 7 f7 rfl, by simpa using hf 8 f8 rfl, by simpa using hf 9 f9 rfl, by simpa using hf 10 f10 rfl⟩
theorem list11 {α : Type} {l : List α} (h : l.length = 11) : ∃ x0 x1 x2 x3 x4 x5 x6 x7 x8 x9 x10, l = [x0, x1, x2, x3, x4, x5, x6, x7, x8, x9, x10] := by
  match l, h with
  | [x0, x1, x2, x3, x4, x5, x6, x7, x8, x9, x10], _ => exact ⟨x0, x1, x2, x3, x4, x5, x6, x7, x8, x9, x10, rfl⟩
theorem list2 {α : Type} {l : List α} (h : l.length = 2) : ∃ x0 x1, l = [x0, x1] := by
  match l, h with
  | [x0, x1], _ => exact ⟨x0, x1, rfl⟩
/-- one attribute, out of its reading -/
theorem at_of_trod {H : Type} {enc : TypeId × Value → H} {w : World} {n : Nat} {cs : List Value} {x : DataW H × List MemPlace} {b o : Nat} (hl : cs.length = 2) (hc : ∀ t, t < 2 → w.cell? ⟨b, o + t, none⟩ = cs[t]?)
    (h : DataW.trod enc Tryz.prog w 0 (fun _ => true) true n 50 cs = some x) : ∃ A : AtV, AtAt w b o A := by
  obtain ⟨x0, x1, rfl⟩ := list2 hl
  obtain ⟨y0, y1, m, _, _, h0, h1⟩ := trod_struct2 Tryz.underlying50 h
  simp only [Tryz.ce9, Tryz.ceB, List.drop_zero, List.drop_succ_cons, List.take_succ_cons, List.take_zero] at h0 h1
  obtain ⟨s, e0, _, _⟩ := DataW.trod_string Tryz.underlying9 h0
  obtain ⟨a, len, cap, xs, e1, hr, hcp⟩ := row_of_trod11 h1
  simp only [List.cons.injEq, and_true] at e0
  subst e0 e1
  exact ⟨⟨s, a, len, cap, xs⟩, hc 0 (by omega), hc 1 (by omega), hr, hcp⟩
theorem ats_of_trod {H : Type} {enc : TypeId × Value → H} {w : World} {fuel : Nat} {v : Value} {x : DataW H × List MemPlace} (h : DataW.trod enc Tryz.prog w 0 (fun _ => true) true fuel 42 [v] = some x) :
    ∃ a len cap l, v = .slice a len cap ∧ Ats w a len l ∧ len ≤ cap ∧ (a = none → cap = 0) := by
  rcases Deep.open_slice Tryz.underlying42 h with ⟨hcs, _⟩ | ⟨y, len, cap, m, n, D, Pl, hcs, _, hl, hm, hmm, _, hel⟩
  · simp at hcs
    exact ⟨none, 0, 0, [], hcs, ⟨rfl, Nat.zero_le _, fun h => absurd h (by omega)⟩, Nat.le_refl _, fun _ => rfl⟩
  · simp at hcs
    simp only [if_true] at hmm
    subst hmm
    rcases Nat.eq_zero_or_pos len with rfl | h0
    · exact ⟨some y, 0, _, [], hcs, ⟨rfl, Nat.zero_le _, fun h => absurd h (by omega)⟩, hl, fun e => by cases e⟩
    · obtain ⟨b, off, spot⟩ := y
      rw [Tryz.ceA] at hel
      have hspot : spot = none := by
        obtain ⟨cs, h1, _⟩ := hel 0 (by omega)
        obtain ⟨_, hl4, hc⟩ := World.cells?_some h1
        have := hc 0 (by omega)
        obtain ⟨x0, x1, rfl⟩ := list2 hl4
        have h2 : w.cell? ((Addr.add ⟨b, off, spot⟩ (0 * 2)).add 0) = some x0 := this
        simpa [Addr.add] using World.cell?_spot h2
      subst hspot
      have hadd : ∀ i t, ((⟨b, off, none⟩ : Addr).add (i * 2)).add t = ⟨b, off + i * 2 + t, none⟩ := by
        intro i t
        have e : ∀ o k, (⟨b, o, none⟩ : Addr).add k = ⟨b, o + k, none⟩ := by intro o k; unfold Addr.add; split <;> simp_all
        rw [e, e]
      obtain ⟨A, hA⟩ := @Deep.choose_lt AtV ⟨⟨⟨#[]⟩, none, 0, 0, []⟩⟩ len (fun i A => AtAt w b (off + i * 2) A) (fun i hi => by
        obtain ⟨cs, h1, h2⟩ := hel i (by omega)
        obtain ⟨_, hl4, hc⟩ := World.cells?_some h1
        exact at_of_trod hl4 (fun t ht => by rw [← hadd]; exact hc t ht) h2)
      refine ⟨_, len, _, (List.range len).map A, hcs, ⟨by simp, by omega, fun _ => ⟨b, off, rfl, fun i X hX => ?_⟩⟩, hl, fun e => by cases e⟩
      have hi : i < len := by
        rcases Nat.lt_or_ge i len with h | h
        · exact h
        · rw [List.getElem?_eq_none (by simp; omega)] at hX; cases hX
      rw [List.getElem?_map, List.getElem?_range hi] at hX
      simp at hX
      subst hX
      exact hA i hi
/-- one entry, out of its reading -/
theorem en_of_trod {H : Type} {enc : TypeId × Value → H} {w : World} {n : Nat} {cs : List Value} {x : DataW H × List MemPlace} {b o : Nat} (hl : cs.length = 11) (hc : ∀ t, t < 11 → w.cell? ⟨b, o + t, none⟩ = cs[t]?)
    (h : DataW.trod enc Tryz.prog w 0 (fun _ => true) true n 44 cs = some x) : ∃ X : EnV, EnAt w b o X := by
  obtain ⟨x0, x1, x2, x3, x4, x5, x6, x7, x8, x9, x10, rfl⟩ := list11 hl
  obtain ⟨y0, y1, y2, y3, y4, y5, y6, y7, y8, y9, y10, m, _, h0, h1, h2, h3, h4, h5, h6, h7, h8, h9, h10⟩ := trod_struct11 Tryz.underlying44 h
  simp only [Tryz.ce3, Tryz.ce9, Tryz.ceB, Tryz.ceAs, List.drop_zero, List.drop_succ_cons, List.take_succ_cons, List.take_zero] at h0 h1 h2 h3 h4 h5 h6 h7 h8 h9 h10
  obtain ⟨s0, e0, _, _⟩ := DataW.trod_string Tryz.underlying9 h0
  obtain ⟨z1, e1, _, w1⟩ := DataW.trod_int Tryz.underlying3 h1
  obtain ⟨z2, e2, _, w2⟩ := DataW.trod_int Tryz.underlying3 h2
  obtain ⟨z3, e3, _, w3⟩ := DataW.trod_int Tryz.underlying3 h3
  obtain ⟨z4, e4, _, w4⟩ := DataW.trod_int Tryz.underlying3 h4
  obtain ⟨z5, e5, _, w5⟩ := DataW.trod_int Tryz.underlying3 h5
  obtain ⟨z6, e6, _, w6⟩ := DataW.trod_int Tryz.underlying3 h6
  obtain ⟨da, dl, dc, ds, e7, hr, hcp⟩ := row_of_trod11 h7
  obtain ⟨s8, e8, _, _⟩ := DataW.trod_string Tryz.underlying9 h8
  obtain ⟨z9, e9, _, w9⟩ := DataW.trod_int Tryz.underlying3 h9
  obtain ⟨aa, al, ac, tts, e10, ha, hac, _⟩ := ats_of_trod h10
  simp only [List.cons.injEq, and_true] at e0 e1 e2 e3 e4 e5 e6 e8 e9
  subst e0 e1 e2 e3 e4 e5 e6 e7 e8 e9 e10
  exact ⟨⟨s0, z1, z2, z3, z4, z5, z6, da, dl, dc, ds, s8, z9, aa, al, ac, tts⟩, hc 0 (by omega), hc 1 (by omega), hc 2 (by omega), hc 3 (by omega), hc 4 (by omega), hc 5 (by omega), hc 6 (by omega), hc 7 (by omega), hc 8 (by omega), hc 9 (by omega), hc 10 (by omega), ⟨hr, hcp, ha, hac⟩⟩
theorem ens_of_trod {H : Type} {enc : TypeId × Value → H} {w : World} {fuel : Nat} {v : Value} {x : DataW H × List MemPlace} (h : DataW.trod enc Tryz.prog w 0 (fun _ => true) true fuel 22 [v] = some x) :
    ∃ a len cap l, v = .slice a len cap ∧ Ens w a len l ∧ len ≤ cap ∧ (a = none → cap = 0) := by
  rcases Deep.open_slice Tryz.underlying22 h with ⟨hcs, _⟩ | ⟨y, len, cap, m, n, D, Pl, hcs, _, hl, hm, hmm, _, hel⟩
  · simp at hcs
    exact ⟨none, 0, 0, [], hcs, ⟨rfl, Nat.zero_le _, fun h => absurd h (by omega)⟩, Nat.le_refl _, fun _ => rfl⟩
  · simp at hcs
    simp only [if_true] at hmm
    subst hmm
    rcases Nat.eq_zero_or_pos len with rfl | h0
    · exact ⟨some y, 0, _, [], hcs, ⟨rfl, Nat.zero_le _, fun h => absurd h (by omega)⟩, hl, fun e => by cases e⟩
    · obtain ⟨b, off, spot⟩ := y
      rw [Tryz.ceE] at hel
      have hspot : spot = none := by
        obtain ⟨cs, h1, _⟩ := hel 0 (by omega)
        obtain ⟨_, hl4, hc⟩ := World.cells?_some h1
        have := hc 0 (by omega)
        obtain ⟨x0, x1, x2, x3, x4, x5, x6, x7, x8, x9, x10, rfl⟩ := list11 hl4
        have h2 : w.cell? ((Addr.add ⟨b, off, spot⟩ (0 * 11)).add 0) = some x0 := this
        simpa [Addr.add] using World.cell?_spot h2
      subst hspot
      have hadd : ∀ i t, ((⟨b, off, none⟩ : Addr).add (i * 11)).add t = ⟨b, off + i * 11 + t, none⟩ := by
        intro i t
        have e : ∀ o k, (⟨b, o, none⟩ : Addr).add k = ⟨b, o + k, none⟩ := by intro o k; unfold Addr.add; split <;> simp_all
        rw [e, e]
      obtain ⟨A, hA⟩ := @Deep.choose_lt EnV ⟨⟨⟨#[]⟩, 0, 0, 0, 0, 0, 0, none, 0, 0, [], ⟨#[]⟩, 0, none, 0, 0, []⟩⟩ len (fun i A => EnAt w b (off + i * 11) A) (fun i hi => by
        obtain ⟨cs, h1, h2⟩ := hel i (by omega)
        obtain ⟨_, hl4, hc⟩ := World.cells?_some h1
        exact en_of_trod hl4 (fun t ht => by rw [← hadd]; exact hc t ht) h2)
      refine ⟨_, len, _, (List.range len).map A, hcs, ⟨by simp, by omega, fun _ => ⟨b, off, rfl, fun i X hX => ?_⟩⟩, hl, fun e => by cases e⟩
      have hi : i < len := by
        rcases Nat.lt_or_ge i len with h | h
        · exact h
        · rw [List.getElem?_eq_none (by simp; omega)] at hX; cases hX
      rw [List.getElem?_map, List.getElem?_range hi] at hX
      simp at hX
      subst hX
      exact hA i hi
end Go.Proofs.YtbpoealcaogjpaaGreatDoor
