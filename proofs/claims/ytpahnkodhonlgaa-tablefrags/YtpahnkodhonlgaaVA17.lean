/- Right ids. -/
import Derived.Test.YtpahnkodhonlgaaOA
import Derived.Deep.QuietTactic
import Derived.BigQuiet
namespace Go.Proofs.Ytpahnkodhonlgaa
open Go.RowKit
set_option maxRecDepth 100000
set_option linter.unusedSimpArgs false
set_option linter.unusedVariables false
def ati17 (l : List Int) (i : Nat) : Bool := decide (0 ≤ l.getD i 0) && (decide (l.getD i 0 ≤ 4294967295) && (decide (i = 0) || decide (l.getD (i - 1) 0 < l.getD i 0)))
def rgi17 (l : List Int) : Bool := decide (l.length ≤ 65536) && (List.range l.length).all (ati17 l)
theorem rgi_of {l : List Int} (h1 : l.length ≤ 65536) (h : ∀ i, i < l.length → ati17 l i = true) : rgi17 l = true := by
  unfold rgi17
  rw [decide_eq_true h1, List.all_eq_true.2 fun i hi => h i (List.mem_range.1 hi)]
  rfl
theorem rgi_not {l : List Int} {i : Nat} (hi : i < l.length) (h : ati17 l i = false) : rgi17 l = false := by
  have : (List.range l.length).all (ati17 l) = false := List.all_eq_false.2 ⟨i, List.mem_range.2 hi, by simp [h]⟩
  unfold rgi17
  rw [this]
  simp
theorem rgi_len {l : List Int} (h : 65536 < l.length) : rgi17 l = false := by
  unfold rgi17
  rw [decide_eq_false (by omega : ¬ l.length ≤ 65536)]
  rfl
theorem rgi_at {l : List Int} (h : rgi17 l = true) : l.length ≤ 65536 ∧ ∀ i, i < l.length → 0 ≤ l.getD i 0 ∧ l.getD i 0 ≤ 4294967295 := by
  unfold rgi17 at h
  simp only [Bool.and_eq_true, decide_eq_true_eq] at h
  refine ⟨h.1, fun i hi => ?_⟩
  have := List.all_eq_true.1 h.2 i (List.mem_range.2 hi)
  unfold ati17 at this
  simp only [Bool.and_eq_true, decide_eq_true_eq] at this
  exact ⟨this.1, this.2.1⟩
theorem ati_lo {l : List Int} {i : Nat} (h : ati17 l i = true) : 0 ≤ l.getD i 0 := by
  unfold ati17 at h
  simp only [Bool.and_eq_true, decide_eq_true_eq] at h
  exact h.1
def prvI (l : List Int) (j : Nat) : Int := if j = 0 then -1 else l.getD (j - 1) 0
set_option maxHeartbeats 4000000 in
theorem prightI17_any (a : Option Addr) (len cap : Nat) (l : List Int) (w : World) (R : IRow w a len l) :
    Calls Try.prog 34 #[.slice a len cap] w fun e w' => e = .returned (.bool (rgi17 l)) ∧ w.grownBy w' none := by
  have hlb := R.len_eq
  by_cases h64 : 65536 < len
  · have h64i : (65536 : Int) < (len : Int) := by omega
    rw [rgi_len (by omega)]
    clear R
    go_enter Try.func34, Try.ntmps34
    go_wp2
    go_returns
    exact ⟨rfl, World.grownBy.refl _ _⟩
  have h64i : ¬ (65536 : Int) < (len : Int) := by omega
  have HR : Hid _ := R
  have HB : Hid (∀ i, i < len → ati17 l i = false → rgi17 l = false) := fun i hi h => rgi_not (by omega) h
  have HA : Hid ((∀ i, i < len → ati17 l i = true) → rgi17 l = true) := fun h => rgi_of (by omega) (fun i hi => h i (by omega))
  generalize rgi17 l = D at *
  clear R
  go_enter Try.func34, Try.ntmps34
  go_wp2
  go_loopw [3, 11] (fun v i wr => ∃ j : Nat, i = .int .i64 j ∧ v = .int .i64 (prvI l j) ∧ j ≤ len ∧ Hid (w.grownBy wr none ∧ ∀ i, i < j → ati17 l i = true)) (fun _ i _ => len - (intOf i).toNat)
  case atStart => exact ⟨0, rfl, rfl, Nat.zero_le _, World.grownBy.refl _ _, fun i h => absurd h (Nat.not_lt_zero _)⟩
  case round =>
    obtain ⟨j, rfl, rfl, hj, HC⟩ := hrel
    by_cases hlt : j < len
    · have hlti : (j : Int) < (len : Int) := by omega
      obtain ⟨b, off, rfl, hc⟩ := (HR.out.grown HC.out.1).cells (by omega)
      have x0 := hc j hlt
      have HG : Hid _ := HC.out.1
      have hwj : IntKind.i64.wrap ((j : Int) + 1) = (j : Int) + 1 := by rw [IntKind.wrap_i64]; omega
      have hp1 : -1 ≤ prvI l j := by
        unfold prvI
        split
        · omega
        · have := ati_lo (HC.out.2 (j - 1) (by omega)); omega
      have hps : prvI l (j + 1) = l.getD j 0 := by unfold prvI; rw [if_neg (by omega)]; rfl
      have hat : ∀ q, (decide (0 ≤ l.getD j 0) && (decide (l.getD j 0 ≤ 4294967295) && (decide (j = 0) || decide (l.getD (j - 1) 0 < l.getD j 0)))) = q → ati17 l j = q := fun q h => h
      have hpv : prvI l j = if j = 0 then -1 else l.getD (j - 1) 0 := rfl
      generalize prvI l j = P at *
      generalize hXd : l.getD j 0 = X at *
      generalize l.getD (j - 1) 0 = Z at *
      by_cases c1 : X ≤ P
      · have HBad : Hid (D = false) := HB.out j hlt (hat false (by
          by_cases q : j = 0
          · rw [if_pos q] at hpv
            rw [decide_eq_false (by omega : ¬ 0 ≤ X)]
            rfl
          · rw [if_neg q] at hpv
            rw [decide_eq_false q, decide_eq_false (by omega : ¬ Z < X)]
            simp))
        have c1d : decide (X ≤ P) = true := decide_eq_true c1
        clear HC hc hat hpv c1 hps hp1 hXd
        go_wp2
        go_returns
        exact ⟨by rw [HBad.out]; rfl, HG.out⟩
      · have c1d : decide (X ≤ P) = false := decide_eq_false c1
        by_cases c2 : 4294967295 < X
        · have HBad : Hid (D = false) := HB.out j hlt (hat false (by rw [decide_eq_false (by omega : ¬ X ≤ 4294967295)]; simp))
          have c2d : decide ((4294967295 : Int) < X) = true := decide_eq_true c2
          clear HC hc hat hpv c1 c2 hps hp1 hXd
          go_wp2
          go_returns
          exact ⟨by rw [HBad.out]; rfl, HG.out⟩
        · have c2d : decide ((4294967295 : Int) < X) = false := decide_eq_false c2
          have hok : ati17 l j = true := hat true (by
            rw [decide_eq_true (by omega : 0 ≤ X), decide_eq_true (by omega : X ≤ 4294967295)]
            by_cases q : j = 0
            · rw [decide_eq_true q]; rfl
            · rw [if_neg q] at hpv
              rw [decide_eq_true (by omega : Z < X)]
              simp)
          have HN : Hid (∀ i, i < j + 1 → ati17 l i = true) := fun i hi => by
            by_cases q : i = j
            · rw [q]; exact hok
            · exact HC.out.2 i (by omega)
          have HPS : Hid _ := hps
          clear HC hc hat hpv c1 c2 hok hps hp1 hXd
          go_wp2
          refine ⟨⟨j + 1, by go_num, by rw [HPS.out], by clear hwj; omega, HG.out, HN.out⟩, ?_⟩
          clear hwj
          simp [intOf]; omega
    · have hV := HA.out (fun i hi => HC.out.2 i (by omega))
      have HV : Hid _ := hV
      have HG : Hid _ := HC.out.1
      have hlti : ¬ (j : Int) < (len : Int) := by omega
      clear HC hV
      go_wp2
      go_returns
      exact ⟨by rw [HV.out]; rfl, HG.out⟩
set_option maxHeartbeats 4000000 in
theorem rrightI17_any (a : Option Addr) (len cap : Nat) (l : List Int) (w : World) (R : IRow w a len l) :
    Calls Try.prog 14 #[.slice a len cap] w fun e w' => e = .returned (.bool (rgi17 l)) ∧ w.grownBy w' none := by
  have hlb := R.len_eq
  have hle := R.le
  unfold maxLen at hle
  have HR : Hid _ := R
  have HB : Hid (∀ i, i < len → ati17 l i = false → rgi17 l = false) := fun i hi h => rgi_not (by omega) h
  have HA : Hid (len ≤ 65536 → (∀ i, i < len → ati17 l i = true) → rgi17 l = true) := fun h1 h => rgi_of (by omega) (fun i hi => h i (by omega))
  have HA2 : Hid (65536 < len → rgi17 l = false) := fun h => rgi_len (by omega)
  generalize rgi17 l = D at *
  clear R
  go_enter Try.func14, Try.ntmps14
  go_wp2
  go_loopw [3] (fun i wr => ∃ j : Nat, i = .int .i64 j ∧ j ≤ len ∧ Hid (w.grownBy wr none ∧ ∀ i, i < j → ati17 l i = true)) (fun i _ => len - (intOf i).toNat)
  case atStart => exact ⟨0, rfl, Nat.zero_le _, World.grownBy.refl _ _, fun i h => absurd h (Nat.not_lt_zero _)⟩
  case round =>
    obtain ⟨j, rfl, hj, HC⟩ := hrel
    by_cases hlt : j < len
    · have hlti : (j : Int) < (len : Int) := by omega
      obtain ⟨b, off, rfl, hc⟩ := (HR.out.grown HC.out.1).cells (by omega)
      have x0 := hc j hlt
      have HG : Hid _ := HC.out.1
      have hwj : IntKind.i64.wrap ((j : Int) + 1) = (j : Int) + 1 := by rw [IntKind.wrap_i64]; omega
      have hwk : IntKind.i64.wrap ((j : Int) - 1) = (j : Int) - 1 := by rw [IntKind.wrap_i64]; omega
      have hat : ∀ q, (decide (0 ≤ l.getD j 0) && (decide (l.getD j 0 ≤ 4294967295) && (decide (j = 0) || decide (l.getD (j - 1) 0 < l.getD j 0)))) = q → ati17 l j = q := fun q h => h
      have hz : 0 < j → wr.cell? ⟨b, off + (j - 1), none⟩ = some (.int .i64 (l.getD (j - 1) 0)) := fun h => hc (j - 1) (by omega)
      generalize hXd : l.getD j 0 = X at *
      generalize l.getD (j - 1) 0 = Z at *
      by_cases c0 : X < 0
      · have HBad : Hid (D = false) := HB.out j hlt (hat false (by rw [decide_eq_false (by omega : ¬ 0 ≤ X)]; rfl))
        have c0d : decide (X < 0) = true := decide_eq_true c0
        clear HC hc hat c0 hz hXd
        go_wp2_with fail
        go_quiet (fail)
        go_wp2
        go_returns
        exact ⟨by rw [HBad.out]; rfl, grown_trans HG.out ⟨rfl, rfl, rfl, Nat.le_refl _, fun _ _ _ => rfl⟩⟩
      · have c0d : decide (X < 0) = false := decide_eq_false c0
        by_cases c2 : 4294967295 < X
        · have HBad : Hid (D = false) := HB.out j hlt (hat false (by rw [decide_eq_false (by omega : ¬ X ≤ 4294967295)]; simp))
          have c2d : decide ((4294967295 : Int) < X) = true := decide_eq_true c2
          clear HC hc hat c0 c2 hz hXd
          go_wp2_with fail
          go_quiet (fail)
          go_wp2
          go_returns
          exact ⟨by rw [HBad.out]; rfl, grown_trans HG.out ⟨rfl, rfl, rfl, Nat.le_refl _, fun _ _ _ => rfl⟩⟩
        · have c2d : decide ((4294967295 : Int) < X) = false := decide_eq_false c2
          by_cases cj : j = 0
          · subst cj
            have hok : ati17 l 0 = true := hat true (by rw [decide_eq_true (by omega : 0 ≤ X), decide_eq_true (by omega : X ≤ 4294967295)]; rfl)
            have HN : Hid (∀ i, i < 1 → ati17 l i = true) := fun i hi => by
              obtain rfl : i = 0 := by omega
              exact hok
            clear HC hc hat c0 c2 hz hok hwk hXd
            simp only [Nat.add_zero] at x0
            go_wp2_with fail
            go_quiet (fail)
            go_wp2
            refine ⟨⟨1, by go_num, by clear hwj; omega, grown_trans HG.out ⟨rfl, rfl, rfl, Nat.le_refl _, fun _ _ _ => rfl⟩, HN.out⟩, ?_⟩
            clear hwj
            simp [intOf]; omega
          · have z0 := hz (by omega)
            have hj0 : decide (0 < j) = true := decide_eq_true (by omega)
            have hk1 : (j : Int) - 1 < (len : Int) := by omega
            have hk2 : ¬ (j : Int) - 1 < 0 := by omega
            have hk3 : ((j : Int) - 1).toNat = j - 1 := by omega
            by_cases c3 : X ≤ Z
            · have HBad : Hid (D = false) := HB.out j hlt (hat false (by rw [decide_eq_false cj, decide_eq_false (by omega : ¬ Z < X)]; simp))
              have c3d : decide (X ≤ Z) = true := decide_eq_true c3
              clear HC hc hat c0 c2 c3 hz hXd
              go_wp2_with fail
              go_quiet (fail)
              go_wp2
              go_returns
              exact ⟨by rw [HBad.out]; rfl, grown_trans HG.out ⟨rfl, rfl, rfl, Nat.le_refl _, fun _ _ _ => rfl⟩⟩
            · have c3d : decide (X ≤ Z) = false := decide_eq_false c3
              have hok : ati17 l j = true := hat true (by rw [decide_eq_true (by omega : 0 ≤ X), decide_eq_true (by omega : X ≤ 4294967295), decide_eq_true (by omega : Z < X)]; simp)
              have HN : Hid (∀ i, i < j + 1 → ati17 l i = true) := fun i hi => by
                by_cases q : i = j
                · rw [q]; exact hok
                · exact HC.out.2 i (by omega)
              clear HC hc hat c0 c2 c3 hz hok hXd
              go_wp2_with fail
              go_quiet (fail)
              go_wp2
              refine ⟨⟨j + 1, by go_num, by clear hwj hwk; omega, grown_trans HG.out ⟨rfl, rfl, rfl, Nat.le_refl _, fun _ _ _ => rfl⟩, HN.out⟩, ?_⟩
              clear hwj hwk
              simp [intOf]; omega
    · have hlti : ¬ (j : Int) < (len : Int) := by omega
      by_cases h64 : len ≤ 65536
      · have hV := HA.out h64 (fun i hi => HC.out.2 i (by omega))
        have HV : Hid _ := hV
        have HG : Hid _ := HC.out.1
        have h64d : decide ((len : Int) ≤ 65536) = true := decide_eq_true (by omega)
        clear HC hV
        go_wp2
        go_returns
        exact ⟨by rw [HV.out]; rfl, HG.out⟩
      · have hV := HA2.out (by omega)
        have HV : Hid _ := hV
        have HG : Hid _ := HC.out.1
        have h64d : decide ((len : Int) ≤ 65536) = false := decide_eq_false (by omega)
        clear HC hV
        go_wp2
        go_returns
        exact ⟨by rw [HV.out]; rfl, HG.out⟩
end Go.Proofs.Ytpahnkodhonlgaa
