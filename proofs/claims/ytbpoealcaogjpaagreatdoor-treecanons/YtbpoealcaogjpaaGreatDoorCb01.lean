/- TreeCanons. -/
import Derived.Test.YtbpoealcaogjpaaGreatDoorCk27
namespace Go.Proofs.YtbpoealcaogjpaaGreatDoor
open Go.RowKit
set_option maxRecDepth 100000
set_option linter.unusedSimpArgs false
set_option linter.unusedVariables false

set_option maxHeartbeats 4000000 in
theorem treeCanons_walk (a : Option Addr) (len cap : Nat) (l : List EnV) (w : World) (E : Ens w a len l) : Calls Tryz.prog 4 #[.slice a len cap] w fun e w' => e = .returned (.bool true) ∧ w.grownBy w' none := by
  have hmu := rmuch_any a len cap l w E
  unfold MuPost at hmu
  have HE : Hid _ := E
  clear E
  go_enter Tryz.func4, Tryz.ntmps4
  go_wp2_with fail
  refine hmu.mono ?_
  clear hmu
  rintro e W1 ⟨rfl | ⟨rfl, hlen, hsm⟩, g1⟩
  · go_wp2_with fail
    refine (live11_any _).mono ?_
    rintro e W2 ⟨rfl, g2⟩
    go_wp2
    go_ret
    exact ⟨rfl, grown_trans g1 g2⟩
  · have hal : ∀ X ∈ l, X.al ≤ 70 := fun X hX => by
      obtain ⟨i, hi, rfl⟩ := List.getElem_of_mem hX
      exact (hsm i l[i] (List.getElem?_eq_getElem hi)).a
    have hsml := hsm.sml
    have HG1 : Hid _ := g1
    have hpc := pcanon_any a len cap l W1 (HE.out.grown g1) (szs_of hsml) (by omega)
    unfold CnPost at hpc
    have HS : Hid _ := And.intro hsml (And.intro hlen hal)
    clear g1 hsm hsml hal hlen
    generalize hc2 : (chk11 (ens l)).2 = k2 at *
    have HK : Hid _ := hc2
    clear hc2
    go_wp2_with fail
    refine hpc.mono ?_
    clear hpc
    rintro e W2 ⟨g2, b, n, c, ns, rfl, hN, -, -, hns⟩
    have HN : Hid _ := And.intro hN hns
    have HG2 : Hid _ := grown_trans HG1.out g2
    clear g2 hN hns
    go_wp2_with fail
    have g3 := World.grownBy_alloc W2 (.cells #[.slice b n c] 33) none
    have BT := Bx.new W2 33 [.slice b n c]
    have hrc := rcheck_any a len cap l (W2.alloc (.cells #[.slice b n c] 33)) (HE.out.grown (grown_trans HG2.out g3)) HS.out.1 (by have := HS.out.2.1; omega)
    rw [HK.out] at hrc
    refine hrc.mono ?_
    clear hrc
    rintro e W3 ⟨rfl, g4⟩
    have HG3 : Hid _ := grown_trans (grown_trans HG2.out g3) g4
    have HB3 : Hid _ := And.intro (BT.kept g4) ((HN.out.1.grown g3).grown g4)
    have t3 : _ = some _ := HB3.out.1.c 0
    clear g3 g4 BT HG2 HG1
    generalize W2.heap.size = gt at *
    by_cases hk0 : k2 = 0
    · have HOK : Hid (OkS (ens l)) := by
        have h := chk_ok.1 (show (chk11 (ens l)).2 = 0 by rw [HK.out]; exact hk0)
        exact h.2.2
      have hns := HN.out.2
      rw [if_pos hk0] at hns
      have HNS : Hid _ := hns
      clear hns
      subst hk0
      go_wp2_with (go_at_call 13; refine (num11_any _ _).mono ?_; rintro e w' ⟨rfl, rfl⟩)
      have hrc := fun W (g : W3.grownBy W none) => rcanon_any a len cap l W (HE.out.grown (grown_trans HG3.out g)) HS.out.1 (by have := HS.out.2.1; omega) (fun X hX => by have := HS.out.2.2 X hX; omega) HOK.out
      unfold CaPost at hrc
      refine wp_region_held_drew (S := fun w' => W3.grownBy w' none) (by kernel_rfl) (drewG0 W3) (fun hH => ?_)
      generalize W3.drew = WD at *
      refine wpAnyH_take (i := 0) (oi := ⟨some 33, _, _, _, _, _⟩) (v := .agg #[.slice b n c]) rfl (by kernel_rfl) (by kernel_rfl) (by kernel_rfl) (fun _ _ _ h => h) (Or.inl ⟨by rfl, fun w hSw => by have c0 : _ = some _ := (HB3.out.1.kept hSw).c 0; go_simp⟩) hH ?_
      simp only [Act.put, List.setIfInBounds_toArray, List.set_cons_zero, List.set_cons_succ]
      refine wpAnyH_take (i := 1) (oi := ⟨some 34, _, _, _, _, _⟩) (v := .slice a len cap) rfl (by kernel_rfl) (by kernel_rfl) (by kernel_rfl) (fun _ _ _ h => h) (Or.inl ⟨by rfl, fun w hSw => by go_simp⟩) hH ?_
      simp only [Act.put, List.setIfInBounds_toArray, List.set_cons_zero, List.set_cons_succ]
      refine wpAnyH_ready (rs := [2]) (by kernel_rfl) (by simp) ?_
      refine AllReadyH.cons rfl (fun K1 hK => ?_) AllReadyH.nil
      go_simp
      refine (hrc _ hH).mono ?_
      clear hrc
      rintro e W5 ⟨b5, n5, c5, ns5, rfl, hT5, hl5, hno5⟩
      replace hH := grown_trans hH hT5.gr
      have hN5 := hT5.nos hl5
      clear hT5
      refine hK.out _ _ hH (fun h0 => ?_)
      clear h0 hK K1
      try simp only [Act.put, List.setIfInBounds_toArray, List.set_cons_zero, List.set_cons_succ]
      refine wpAnyH_ready (rs := [3]) (by kernel_rfl) (by simp) ?_
      refine AllReadyH.cons rfl (fun K1 hK => ?_) AllReadyH.nil
      go_simp
      refine (rsame11_any b b5 n c n5 c5 ns ns5 W5 (HB3.out.2.grown hH) hN5).mono ?_
      rintro e W6 ⟨rfl, g6⟩
      have hsa : sameNos (nos ns) (nos ns5) = true := by rw [HNS.out, hno5]; exact (sameNos_eq _ _).2 rfl
      rw [hsa]
      replace hH := grown_trans hH g6
      clear g6 hN5 hsa hno5
      refine hK.out _ _ hH (fun h0 => ?_)
      clear h0 hK K1
      try simp only [Act.put, List.setIfInBounds_toArray, List.set_cons_zero, List.set_cons_succ]
      refine wpAnyH_take (i := 4) (oi := ⟨some 37, _, _, _, _, _⟩) (v := .bool true) rfl (by kernel_rfl) (by kernel_rfl) (by kernel_rfl) (fun _ _ _ h => h) (Or.inl ⟨by rfl, fun w hSw => by go_simp⟩) hH ?_
      simp only [Act.put, List.setIfInBounds_toArray, List.set_cons_zero, List.set_cons_succ]
      refine wpAnyH_ready (rs := [5]) (by kernel_rfl) (by simp) ?_
      refine AllReadyH.cons rfl (fun K1 hK => ?_) AllReadyH.nil
      go_simp
      refine (live11_any _).mono ?_
      rintro e W7 ⟨rfl, g7⟩
      replace hH := grown_trans hH g7
      refine hK.out _ _ hH (fun h0 => ?_)
      clear h0 hK K1
      try simp only [Act.put, List.setIfInBounds_toArray, List.set_cons_zero, List.set_cons_succ]
      refine wpAnyH_take (i := 6) (oi := ⟨some 39, _, _, _, _, _⟩) (v := .bool true) rfl (by kernel_rfl) (by kernel_rfl) (by kernel_rfl) (fun _ _ _ h => h) (Or.inl ⟨by rfl, fun w hSw => by go_simp⟩) hH ?_
      simp only [Act.put, List.setIfInBounds_toArray, List.set_cons_zero, List.set_cons_succ]
      refine wpAnyH_take (i := 7) (oi := ⟨some 2, _, _, _, _, _⟩) (v := .bool true) rfl (by kernel_rfl) (by kernel_rfl) (by kernel_rfl) (fun _ _ _ h => h) (Or.inl ⟨by rfl, fun w hSw => by go_simp⟩) hH ?_
      simp only [Act.put, List.setIfInBounds_toArray, List.set_cons_zero, List.set_cons_succ]
      refine wpAnyH_done (by kernel_rfl) ?_ _
      go_wp2_with fail
      go_ret
      exact ⟨rfl, grown_trans HG3.out hH⟩
    · have hns := HN.out.2
      rw [if_neg hk0] at hns
      have hn0 : n = 0 := by have h1 := congrArg List.length hns; rw [nos_len, HN.out.1.len_eq] at h1; exact h1
      subst hn0
      have hkb : (k2 == 0) = false := by simpa using hk0
      clear hns
      go_wp2_with (go_at_call 13; refine (num11_any _ _).mono ?_; rintro e w' ⟨rfl, rfl⟩)
      refine (live11_any _).mono ?_
      rintro e W4 ⟨rfl, g4⟩
      go_wp2
      go_ret
      exact ⟨rfl, grown_trans HG3.out g4⟩
end Go.Proofs.YtbpoealcaogjpaaGreatDoor
