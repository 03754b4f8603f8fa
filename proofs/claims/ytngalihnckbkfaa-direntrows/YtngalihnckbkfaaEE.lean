/- The document's Right. -/
import Derived.Test.YtngalihnckbkfaaED
import Derived.Test.YtngalihnckbkfaaNF
namespace Go.Proofs.Ytngalihnckbkfaa
open Go.RowKit
set_option maxRecDepth 100000
set_option linter.unusedSimpArgs false
set_option linter.unusedVariables false
theorem quiet_eq16 {P : Program} {f : FuncId} {args : Array Value} {w : World} {n : Nat} {v : Value} (h : Calls P f args (w.drewN n) fun e w' => e = .returned v ∧ w.drewN n = w') : Calls P f args (w.drewN n) fun e w'' => e = .returned v ∧ ∃ m, w'' = w.drewN m :=
  h.mono fun e w'' h => ⟨h.1, n, h.2.symm⟩
theorem grown_drewN16 (w : World) (n : Nat) : w.grownBy (w.drewN n) none := ⟨rfl, rfl, rfl, Nat.le_refl _, fun _ _ _ => rfl⟩
set_option maxHeartbeats 8000000 in
theorem rright16_any (a : Option Addr) (len cap : Nat) (l : List Kx) (w : World) (K : Kxs w a len l) (hz : ∀ k ∈ l, k.nm.size ≤ 5000) :
    Calls Try.prog 10 #[.slice a len cap] w fun e w' => e = .returned (.bool (rgt16 l)) ∧ w.grownBy w' none := by
  have hl := K.len_eq
  have HK : Hid _ := K
  have HZ : Hid _ := hz
  have HR : Hid (∀ i, i < l.length → okAt l i = false → rgt16 l = false) := fun i hi h => rgt_not hi h
  obtain ⟨R, hR⟩ : ∃ R : Bool, R = rgt16 l := ⟨_, rfl⟩
  have HR1 : Hid (rgt16 l = false → R = false) := fun h => by rw [hR, h]
  have HR0 : Hid (rgt16 l = true → R = true) := fun h => by rw [hR, h]
  rw [← hR]
  clear K hz hR
  go_enter Try.func10, Try.ntmps10
  go_wp2
  go_loopw [3] (fun i wr => ∃ j : Nat, i = .int .i64 j ∧ j ≤ len ∧ Hid (w.grownBy wr none ∧ ∀ i, i < j → okAt l i = true)) (fun i _ => len - (intOf i).toNat)
  case atStart => exact ⟨0, rfl, Nat.zero_le _, World.grownBy.refl _ _, fun i hi => absurd hi (Nat.not_lt_zero _)⟩
  case round =>
    obtain ⟨j, rfl, hj, HY⟩ := hrel
    by_cases hlt : j < len
    · have hjl : j < l.length := by omega
      obtain ⟨b, off, rfl, hk⟩ := (HK.out.grown HY.out.1).at_ (by omega)
      have kk := hk j l[j] (List.getElem?_eq_getElem hjl)
      have k0 := kk.c0
      have k1 := kk.c1
      have hji : (j : Int) < (len : Int) := by omega
      have hv := fun W => rvalid_any l[j].nm W (HZ.out _ (List.getElem_mem hjl))
      simp only [val_vld] at hv
      have hlj : l[j]? = some l[j] := List.getElem?_eq_getElem hjl
      have hbk : okk l[j] = false → rgt16 l = false := fun h => HR.out j hjl (okAt_bad' hlj h)
      have HG : Hid _ := HY.out.1
      generalize hX : l[j] = X at *
      cases ht : vld X.nm.toList with
      | false =>
        have HBad : Hid (rgt16 l = false) := hbk (by unfold okk; rw [ht]; rfl)
        rw [ht] at hv
        clear HY hk kk hX hlj hbk ht
        go_wp2_with fail
        go_quiet (first | (go_at_call 24; exact quiet_eq16 (hv _)) | fail)
        go_wp2
        go_returns
        exact ⟨by rw [HR1.out HBad.out]; rfl, grown_trans HG.out (grown_drewN16 _ _)⟩
      | true =>
        rw [ht] at hv
        by_cases c1 : X.io < 0
        · have HBad : Hid (rgt16 l = false) := hbk (by unfold okk; rw [decide_eq_false (by omega : ¬ 0 ≤ X.io)]; simp)
          have e1 : decide (X.io < 0) = true := decide_eq_true c1
          clear HY hk kk hX hlj hbk ht
          go_wp2_with fail
          go_quiet (first | (go_at_call 24; exact quiet_eq16 (hv _)) | fail)
          go_wp2
          go_returns
          exact ⟨by rw [HR1.out HBad.out]; rfl, grown_trans HG.out (grown_drewN16 _ _)⟩
        · have e1 : decide (X.io < 0) = false := decide_eq_false c1
          by_cases c2 : 16384 < X.io
          · have HBad : Hid (rgt16 l = false) := hbk (by unfold okk; rw [decide_eq_false (by omega : ¬ X.io ≤ 16384)]; simp)
            have e2 : decide (16384 < X.io) = true := decide_eq_true c2
            clear HY hk kk hX hlj hbk ht
            go_wp2_with fail
            go_quiet (first | (go_at_call 24; exact quiet_eq16 (hv _)) | fail)
            go_wp2
            go_returns
            exact ⟨by rw [HR1.out HBad.out]; rfl, grown_trans HG.out (grown_drewN16 _ _)⟩
          · have e2 : decide (16384 < X.io) = false := decide_eq_false c2
            have hok : okk X = true := by unfold okk; rw [ht, decide_eq_true (by omega : 0 ≤ X.io), decide_eq_true (by omega : X.io ≤ 16384)]; rfl
            by_cases h0 : j = 0
            · subst h0
              have HN : Hid (∀ i, i < 1 → okAt l i = true) := fun i hi => by
                obtain rfl : i = 0 := by omega
                simp [okAt, hlj, hok]
              simp only [Nat.zero_mul, Nat.add_zero] at k0 k1
              clear HY hk kk hX hlj hbk ht hok
              go_wp2_with fail
              go_quiet (first | (go_at_call 24; exact quiet_eq16 (hv _)) | fail)
              go_wp2
              go_roundw
              case rel => exact ⟨1, rfl, by omega, grown_trans HG.out (grown_drewN16 _ _), HN.out⟩
              case measure => simp [intOf]; omega
            · obtain ⟨m, rfl⟩ : ∃ m, j = m + 1 := ⟨j - 1, by omega⟩
              have hlm : l[m]? = some (l[m]'(by omega)) := List.getElem?_eq_getElem (by omega)
              have kp := (hk m (l[m]'(by omega)) hlm).c0
              generalize l[m]'(by omega) = Y at *
              have hmx := HK.out.le
              have hat : okAt l (m + 1) = !leS X.nm Y.nm := by simp [okAt, hlj, hlm, hok]
              have hbd : leS X.nm Y.nm = true → rgt16 l = false := fun h => HR.out (m + 1) hjl (by rw [hat, h]; rfl)
              have hw3 : IntKind.i64.wrap (m : Int) = (m : Int) := by rw [IntKind.wrap_i64]; unfold maxLen at hmx; omega
              have hw4 : IntKind.i64.wrap ((m : Int) + 1 + 1) = (m : Int) + 1 + 1 := by rw [IntKind.wrap_i64]; unfold maxLen at hmx; clear hw3; omega
              have hml : (m : Int) < (len : Int) := by clear hw3 hw4; omega
              have hmp : (0 : Int) < (m : Int) + 1 := by clear hw3 hw4; omega
              have hLS : leS X.nm Y.nm = (Op.bytesLess X.nm.toList Y.nm.toList || X.nm.toList == Y.nm.toList) := rfl
              have HY2 : Hid _ := HY.out.2
              clear HY hk kk hX hlj hlm hbk ht hok hmx
              cases hs : leS X.nm Y.nm with
              | true =>
                have HBad : Hid (rgt16 l = false) := hbd hs
                have hs2 := hLS.symm.trans hs
                clear hbd hs hLS hat
                go_wp2_with fail
                go_quiet (first | (go_at_call 24; exact quiet_eq16 (hv _)) | fail)
                go_wp2
                go_returns
                exact ⟨by rw [HR1.out HBad.out]; rfl, grown_trans HG.out (grown_drewN16 _ _)⟩
              | false =>
                have HN : Hid (∀ i, i < m + 1 + 1 → okAt l i = true) := fun i hi => by
                  by_cases q : i = m + 1
                  · rw [q, hat, hs]; rfl
                  · exact HY2.out i (by omega)
                have hs2 := hLS.symm.trans hs
                clear hbd hs hLS hat
                go_wp2_with fail
                go_quiet (first | (go_at_call 24; exact quiet_eq16 (hv _)) | fail)
                go_wp2
                go_roundw
                case rel => exact ⟨m + 1 + 1, by go_num, by clear hw3 hw4; omega, grown_trans HG.out (grown_drewN16 _ _), HN.out⟩
                case measure => clear hw3 hw4; simp [intOf]; omega
    · obtain rfl : j = len := by omega
      have HT : Hid (rgt16 l = true) := rgt_of (fun i hi => HY.out.2 i (by omega))
      have HG : Hid _ := HY.out.1
      clear HY
      go_wp2
      go_returns
      exact ⟨by rw [HR0.out HT.out]; rfl, HG.out⟩
end Go.Proofs.Ytngalihnckbkfaa
