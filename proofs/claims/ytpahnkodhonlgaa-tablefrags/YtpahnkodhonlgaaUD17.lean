/- The document's SameInts. -/
import Derived.Test.YtpahnkodhonlgaaOA
import Derived.Deep.QuietTactic
import Derived.BigQuiet
namespace Go.Proofs.Ytpahnkodhonlgaa
open Go.RowKit
set_option maxRecDepth 100000
set_option linter.unusedSimpArgs false
set_option linter.unusedVariables false
theorem num17_any (x : Int) (w : World) : Calls Try.prog 15 #[.int .i64 x] w fun e w' => e = .returned (.int .i64 x) ∧ w = w' := by
  go_enter Try.func15, Try.ntmps15
  go_wp2
  go_ret
  exact ⟨rfl, rfl⟩
set_option maxHeartbeats 4000000 in
theorem rsame17_any (a b : Option Addr) (n c m d : Nat) (xs ys : List Int) (w : World) (R : IRow w a n xs) (R2 : IRow w b m ys) :
    Calls Try.prog 10 #[.slice a n c, .slice b m d] w fun e w' => e = .returned (.bool (decide (xs = ys))) ∧ w.grownBy w' none := by
  have hx := R.len_eq
  have hy := R2.len_eq
  have hle1 : n ≤ 9223372036854775807 := R.le
  have hle2 : m ≤ 9223372036854775807 := R2.le
  by_cases hnm : n = m
  · subst hnm
    have HR : Hid _ := And.intro R R2
    have HE : Hid (∀ i, i < n → xs.getD i 0 ≠ ys.getD i 0 → decide (xs = ys) = false) := fun i hi h => decide_eq_false (fun e => h (by rw [e]))
    have HT : Hid ((∀ i, i < n → xs.getD i 0 = ys.getD i 0) → decide (xs = ys) = true) := fun h => decide_eq_true (List.ext_getElem (by omega) (fun i h1 h2 => by
      have := h i (by omega)
      rw [List.getD_eq_getElem?_getD, List.getD_eq_getElem?_getD, List.getElem?_eq_getElem h1, List.getElem?_eq_getElem h2] at this
      exact this))
    generalize decide (xs = ys) = D at *
    have hb : ((n : Int) != (n : Int)) = false := by simp
    clear R R2
    go_enter Try.func10, Try.ntmps10
    go_wp2
    go_loopw [5] (fun i wr => ∃ k : Nat, k ≤ n ∧ i = .int .i64 k ∧ Hid (w.grownBy wr none ∧ ∀ i, i < k → xs.getD i 0 = ys.getD i 0)) (fun i _ => n - (intOf i).toNat)
    case atStart => exact ⟨0, Nat.zero_le _, rfl, World.grownBy.refl _ _, fun i h => absurd h (Nat.not_lt_zero _)⟩
    case round =>
      obtain ⟨k, h1, rfl, HC⟩ := hrel
      by_cases h3 : k < n
      · have h3i : (k : Int) < (n : Int) := by omega
        obtain ⟨b1, o1, rfl, c1⟩ := HR.out.1.cells (by omega)
        obtain ⟨b2, o2, rfl, c2⟩ := HR.out.2.cells (by omega)
        have x0 : wr.cell? ⟨b1, o1 + k, none⟩ = _ := World.grownBy.cell HC.out.1 (c1 k h3) (by simp)
        have y0 : wr.cell? ⟨b2, o2 + k, none⟩ = _ := World.grownBy.cell HC.out.1 (c2 k h3) (by simp)
        have hek := HE.out k h3
        have HG : Hid _ := HC.out.1
        have hwk : IntKind.i64.wrap ((k : Int) + 1) = (k : Int) + 1 := by rw [IntKind.wrap_i64]; omega
        by_cases hq : xs.getD k 0 = ys.getD k 0
        · have HN : Hid (∀ i, i < k + 1 → xs.getD i 0 = ys.getD i 0) := fun i hi => by
            by_cases q : i = k
            · rw [q]; exact hq
            · exact HC.out.2 i (by omega)
          generalize xs.getD k 0 = X at *
          generalize ys.getD k 0 = Y at *
          subst hq
          clear c1 c2 hek HC
          go_wp2_with fail
          go_quiet (fail)
          go_wp2
          refine ⟨⟨k + 1, by clear hwk; omega, by go_num, grown_trans HG.out ⟨rfl, rfl, rfl, Nat.le_refl _, fun _ _ _ => rfl⟩, HN.out⟩, ?_⟩
          clear hwk
          simp [intOf]; omega
        · have HV : Hid (D = false) := hek hq
          generalize xs.getD k 0 = X at *
          generalize ys.getD k 0 = Y at *
          have hb2 : (X != Y) = true := by simpa using hq
          clear c1 c2 hek HC hq
          go_wp2_with fail
          go_quiet (fail)
          go_wp2
          go_returns
          exact ⟨by rw [HV.out]; rfl, grown_trans HG.out ⟨rfl, rfl, rfl, Nat.le_refl _, fun _ _ _ => rfl⟩⟩
      · have hV : D = true := HT.out (fun i hi => HC.out.2 i (by omega))
        have HV : Hid _ := hV
        have HG : Hid _ := HC.out.1
        have h3i : ¬ (k : Int) < (n : Int) := by omega
        clear hV HC
        go_wp2
        go_returns
        exact ⟨by rw [HV.out]; rfl, HG.out⟩
  · have hV : decide (xs = ys) = false := decide_eq_false (fun e => hnm (by rw [← hx, ← hy, e]))
    rw [hV]
    have hb : ((n : Int) != (m : Int)) = true := by simp; omega
    clear R R2 hV
    go_enter Try.func10, Try.ntmps10
    go_wp2
    go_returns
    exact ⟨rfl, World.grownBy.refl _ _⟩
end Go.Proofs.Ytpahnkodhonlgaa
