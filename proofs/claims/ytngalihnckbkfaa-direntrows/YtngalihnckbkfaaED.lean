/- Check. -/
import Derived.Test.YtngalihnckbkfaaEA
import Derived.Deep.QuietTactic
import Derived.BigQuiet
namespace Go.Proofs.Ytngalihnckbkfaa
open Go.RowKit
set_option maxRecDepth 100000
set_option linter.unusedSimpArgs false
set_option linter.unusedVariables false
/-- may there be such a name, such a number? -/
def okk (k : Kx) : Bool := vld k.nm.toList && (decide (0 ≤ k.io) && decide (k.io ≤ 16384))
/-- not behind? -/
def leS (x y : ByteArray) : Bool := Op.bytesLess x.toList y.toList || x.toList == y.toList
def okAt (l : List Kx) : Nat → Bool
  | 0 => match l[0]? with | some k => okk k | none => true
  | m + 1 => match l[m + 1]?, l[m]? with | some k, some q => okk k && !leS k.nm q.nm | _, _ => true
/-- a right list -/
def rgt16 (l : List Kx) : Bool := (List.range l.length).all (okAt l)
theorem rgt_of {l : List Kx} (h : ∀ i, i < l.length → okAt l i = true) : rgt16 l = true := by
  unfold rgt16
  rw [List.all_eq_true]
  exact fun i hi => h i (List.mem_range.1 hi)
theorem rgt_not {l : List Kx} {i : Nat} (hi : i < l.length) (h : okAt l i = false) : rgt16 l = false := by
  unfold rgt16
  rw [List.all_eq_false]
  exact ⟨i, List.mem_range.2 hi, by simp [h]⟩
theorem rgt_at {l : List Kx} (h : rgt16 l = true) {i : Nat} (hi : i < l.length) : okAt l i = true := by
  unfold rgt16 at h
  exact List.all_eq_true.1 h i (List.mem_range.2 hi)
theorem okAt_bad {l : List Kx} {j : Nat} {X : Kx} (h : l[j]? = some X) (hb : okk X = false) : okAt l j = false ∨ (∃ m, j = m + 1 ∧ l[m]? = none) := by
  cases j with
  | zero => left; simp [okAt, h, hb]
  | succ m =>
    cases hm : l[m]? with
    | none => exact Or.inr ⟨m, rfl, hm⟩
    | some q => left; simp [okAt, h, hm, hb]
theorem okAt_bad' {l : List Kx} {j : Nat} {X : Kx} (h : l[j]? = some X) (hb : okk X = false) : okAt l j = false := by
  rcases okAt_bad h hb with q | ⟨m, rfl, hm⟩
  · exact q
  · have h1 := (List.getElem?_eq_some_iff.1 h).1
    rw [List.getElem?_eq_getElem (by omega)] at hm
    cases hm
set_option maxHeartbeats 8000000 in
theorem pcheck16_any (a : Option Addr) (len cap : Nat) (l : List Kx) (w : World) (K : Kxs w a len l) (hz : ∀ k ∈ l, k.nm.size ≤ 1000000) :
    Calls Try.prog 12 #[.slice a len cap] w fun e w' => e = .returned (.int .i64 (if rgt16 l = true then 0 else 1)) ∧ w.grownBy w' none := by
  have hl := K.len_eq
  have HK : Hid _ := K
  have HZ : Hid _ := hz
  have HR : Hid (∀ i, i < l.length → okAt l i = false → rgt16 l = false) := fun i hi h => rgt_not hi h
  obtain ⟨R, hR⟩ : ∃ R : Int, R = (if rgt16 l = true then 0 else 1) := ⟨_, rfl⟩
  have HR1 : Hid (rgt16 l = false → R = 1) := fun h => by rw [hR, h]; rfl
  have HR0 : Hid (rgt16 l = true → R = 0) := fun h => by rw [hR, h]; rfl
  rw [← hR]
  clear K hz hR
  go_enter Try.func12, Try.ntmps12
  go_wp2
  go_loopw [7] (fun i wr => ∃ j : Nat, i = .int .i64 j ∧ j ≤ len ∧ Hid (w.grownBy wr none ∧ ∀ i, i < j → okAt l i = true)) (fun i _ => len - (intOf i).toNat)
  case atStart => exact ⟨0, rfl, Nat.zero_le _, World.grownBy.refl _ _, fun i hi => absurd hi (Nat.not_lt_zero _)⟩
  case round =>
    obtain ⟨j, rfl, hj, HY⟩ := hrel
    by_cases hlt : j < len
    · have hjl : j < l.length := by omega
      obtain ⟨b, off, rfl, hk⟩ := (HK.out.grown HY.out.1).at_ (by omega)
      have kk := hk j l[j] (List.getElem?_eq_getElem hjl)
      have k0 := kk.c0
      have k1 := kk.c1
      have hji : (j : Int) < (len : Int) := by omega
      have hv := fun W => pvalid_eq l[j].nm W (HZ.out _ (List.getElem_mem hjl))
      have hlj : l[j]? = some l[j] := List.getElem?_eq_getElem hjl
      have hbk : okk l[j] = false → rgt16 l = false := fun h => HR.out j hjl (okAt_bad' hlj h)
      have HG : Hid _ := HY.out.1
      generalize hX : l[j] = X at *
      cases ht : vld X.nm.toList with
      | false =>
        have HBad : Hid (rgt16 l = false) := hbk (by unfold okk; rw [ht]; rfl)
        rw [ht] at hv
        clear HY hk kk hX hlj hbk ht
        go_wp2_with (first | (go_at_call 25; refine (hv _).mono ?_; rintro e wx ⟨rfl, rfl⟩) | fail)
        go_returns
        exact ⟨by rw [HR1.out HBad.out]; rfl, grown_trans HG.out (World.grownBy_alloc _ _ _)⟩
      | true =>
        rw [ht] at hv
        by_cases c1 : X.io < 0
        · have HBad : Hid (rgt16 l = false) := hbk (by unfold okk; rw [decide_eq_false (by omega : ¬ 0 ≤ X.io)]; simp)
          have e1 : decide (X.io < 0) = true := decide_eq_true c1
          clear HY hk kk hX hlj hbk ht
          go_wp2_with (first | (go_at_call 25; refine (hv _).mono ?_; rintro e wx ⟨rfl, rfl⟩) | fail)
          go_returns
          exact ⟨by rw [HR1.out HBad.out]; rfl, grown_trans HG.out (World.grownBy_alloc _ _ _)⟩
        · have e1 : decide (X.io < 0) = false := decide_eq_false c1
          by_cases c2 : 16384 < X.io
          · have HBad : Hid (rgt16 l = false) := hbk (by unfold okk; rw [decide_eq_false (by omega : ¬ X.io ≤ 16384)]; simp)
            have e2 : decide (16384 < X.io) = true := decide_eq_true c2
            clear HY hk kk hX hlj hbk ht
            go_wp2_with (first | (go_at_call 25; refine (hv _).mono ?_; rintro e wx ⟨rfl, rfl⟩) | fail)
            go_returns
            exact ⟨by rw [HR1.out HBad.out]; rfl, grown_trans HG.out (World.grownBy_alloc _ _ _)⟩
          · have e2 : decide (16384 < X.io) = false := decide_eq_false c2
            have hok : okk X = true := by unfold okk; rw [ht, decide_eq_true (by omega : 0 ≤ X.io), decide_eq_true (by omega : X.io ≤ 16384)]; rfl
            by_cases h0 : j = 0
            · subst h0
              have HN : Hid (∀ i, i < 1 → okAt l i = true) := fun i hi => by
                obtain rfl : i = 0 := by omega
                simp [okAt, hlj, hok]
              simp only [Nat.zero_mul, Nat.add_zero] at k0 k1
              clear HY hk kk hX hlj hbk ht hok
              go_wp2_with (first | (go_at_call 25; refine (hv _).mono ?_; rintro e wx ⟨rfl, rfl⟩) | fail)
              go_quiet (fail)
              go_wp2
              refine ⟨⟨1, rfl, by omega, grown_trans (grown_trans HG.out (World.grownBy_alloc _ _ _)) ⟨rfl, rfl, rfl, Nat.le_refl _, fun _ _ _ => rfl⟩, HN.out⟩, ?_⟩
              simp [intOf]; omega
            · obtain ⟨m, rfl⟩ : ∃ m, j = m + 1 := ⟨j - 1, by omega⟩
              have hlm : l[m]? = some (l[m]'(by omega)) := List.getElem?_eq_getElem (by omega)
              have kp := (hk m (l[m]'(by omega)) hlm).c0
              generalize l[m]'(by omega) = Y at *
              have hmx := HK.out.le
              have hat : okAt l (m + 1) = !leS X.nm Y.nm := by
                simp [okAt, hlj, hlm, hok]
              have hbd : leS X.nm Y.nm = true → rgt16 l = false := fun h => HR.out (m + 1) hjl (by rw [hat, h]; rfl)
              have hw3 : IntKind.i64.wrap (m : Int) = (m : Int) := by rw [IntKind.wrap_i64]; unfold maxLen at hmx; omega
              have hw4 : IntKind.i64.wrap ((m : Int) + 1 + 1) = (m : Int) + 1 + 1 := by rw [IntKind.wrap_i64]; unfold maxLen at hmx; clear hw3; omega
              have hml : (m : Int) < (len : Int) := by clear hw3 hw4; omega
              have hmp : (0 : Int) < (m : Int) + 1 := by clear hw3 hw4; omega
              have kq := cell_grown16 kp (World.grownBy_alloc wr (.cells #[.string X.nm, .int .i64 X.io] 41) none)
              have hLS : leS X.nm Y.nm = (Op.bytesLess X.nm.toList Y.nm.toList || X.nm.toList == Y.nm.toList) := rfl
              have HY2 : Hid _ := HY.out.2
              clear HY hk kk hX hlj hlm hbk ht hok hmx
              cases hs : leS X.nm Y.nm with
              | true =>
                have HBad : Hid (rgt16 l = false) := hbd hs
                have hs2 := hLS.symm.trans hs
                clear hbd hs hLS hat
                go_wp2_with (first | (go_at_call 25; refine (hv _).mono ?_; rintro e wx ⟨rfl, rfl⟩) | fail)
                go_quiet (fail)
                go_wp2
                go_returns
                exact ⟨by rw [HR1.out HBad.out]; rfl, grown_trans (grown_trans HG.out (World.grownBy_alloc _ _ _)) ⟨rfl, rfl, rfl, Nat.le_refl _, fun _ _ _ => rfl⟩⟩
              | false =>
                have HN : Hid (∀ i, i < m + 1 + 1 → okAt l i = true) := fun i hi => by
                  by_cases q : i = m + 1
                  · rw [q, hat, hs]; rfl
                  · exact HY2.out i (by omega)
                have hs2 := hLS.symm.trans hs
                clear hbd hs hLS hat
                go_wp2_with (first | (go_at_call 25; refine (hv _).mono ?_; rintro e wx ⟨rfl, rfl⟩) | fail)
                go_quiet (fail)
                go_wp2
                refine ⟨⟨m + 1 + 1, by go_num, by clear hw3 hw4; omega, grown_trans (grown_trans HG.out (World.grownBy_alloc _ _ _)) ⟨rfl, rfl, rfl, Nat.le_refl _, fun _ _ _ => rfl⟩, HN.out⟩, ?_⟩
                clear hw3 hw4
                simp [intOf]; omega
    · obtain rfl : j = len := by omega
      have HT : Hid (rgt16 l = true) := rgt_of (fun i hi => HY.out.2 i (by omega))
      have HG : Hid _ := HY.out.1
      clear HY
      go_wp2
      go_returns
      exact ⟨by rw [HR0.out HT.out]; rfl, HG.out⟩
end Go.Proofs.Ytngalihnckbkfaa
