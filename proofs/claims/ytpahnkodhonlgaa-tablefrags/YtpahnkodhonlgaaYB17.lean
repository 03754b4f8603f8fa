/- The document's SameFrags. -/
import Derived.Test.YtpahnkodhonlgaaWA17
import Derived.Test.YtpahnkodhonlgaaUD17
import Derived.Deep.QuietTactic
import Derived.BigQuiet
namespace Go.Proofs.Ytpahnkodhonlgaa
open Go.RowKit
set_option maxRecDepth 100000
set_option linter.unusedSimpArgs false
set_option linter.unusedVariables false
deriving instance DecidableEq for Fr
theorem frs_ext {xs ys : List Fr} {n : Nat} (hx : xs.length = n) (hy : ys.length = n) (h : ∀ i, i < n → xs[i]? = ys[i]?) : xs = ys := List.ext_getElem? (fun i => by
  by_cases q : i < n
  · exact h i q
  · rw [List.getElem?_eq_none (by omega), List.getElem?_eq_none (by omega)])
set_option maxHeartbeats 4000000 in
theorem rsameF17_any (a b : Option Addr) (n c m d : Nat) (xs ys : List Fr) (w : World) (R : Frs w a n xs) (R2 : Frs w b m ys) :
    Calls Try.prog 29 #[.slice a n c, .slice b m d] w fun e w' => e = .returned (.bool (decide (xs = ys))) ∧ w.grownBy w' none := by
  have hx := R.len_eq
  have hy := R2.len_eq
  have hle1 : n ≤ 9223372036854775807 := R.le
  have hle2 : m ≤ 9223372036854775807 := R2.le
  by_cases hnm : n = m
  · subst hnm
    have HR : Hid _ := And.intro R R2
    have HLE : Hid _ := And.intro hx hy
    have HE : Hid (∀ i, i < n → xs[i]? ≠ ys[i]? → decide (xs = ys) = false) := fun i hi h => decide_eq_false (fun e => h (by rw [e]))
    have HT : Hid ((∀ i, i < n → xs[i]? = ys[i]?) → decide (xs = ys) = true) := fun h => decide_eq_true (frs_ext hx hy h)
    generalize decide (xs = ys) = D at *
    have hb : ((n : Int) != (n : Int)) = false := by simp
    clear R R2 hx hy
    go_enter Try.func29, Try.ntmps29
    go_wp2
    go_loopw [5] (fun i wr => ∃ k : Nat, k ≤ n ∧ i = .int .i64 k ∧ Hid (w.grownBy wr none ∧ ∀ i, i < k → xs[i]? = ys[i]?)) (fun i _ => n - (intOf i).toNat)
    case atStart => exact ⟨0, Nat.zero_le _, rfl, World.grownBy.refl _ _, fun i h => absurd h (Nat.not_lt_zero _)⟩
    case round =>
      obtain ⟨k, h1, rfl, HC⟩ := hrel
      by_cases h3 : k < n
      · have h3i : (k : Int) < (n : Int) := by omega
        obtain ⟨b1, o1, rfl, c1⟩ := HR.out.1.at_ (by omega)
        obtain ⟨b2, o2, rfl, c2⟩ := HR.out.2.at_ (by omega)
        obtain ⟨x, hx⟩ : ∃ x, xs[k]? = some x := ⟨_, List.getElem?_eq_getElem (by rw [HLE.out.1]; exact h3)⟩
        obtain ⟨y, hy⟩ : ∃ y, ys[k]? = some y := ⟨_, List.getElem?_eq_getElem (by rw [HLE.out.2]; exact h3)⟩
        obtain ⟨x0, x1, x2⟩ := (c1 k x hx).grown HC.out.1
        obtain ⟨y0, y1, y2⟩ := (c2 k y hy).grown HC.out.1
        have hek := HE.out k h3
        rw [hx, hy] at hek
        have HG : Hid _ := HC.out.1
        have hwk : IntKind.i64.wrap ((k : Int) + 1) = (k : Int) + 1 := by rw [IntKind.wrap_i64]; omega
        have HNK : Hid (x = y → ∀ i, i < k + 1 → xs[i]? = ys[i]?) := fun he i hi => by
          by_cases q : i = k
          · rw [q, hx, hy, he]
          · exact HC.out.2 i (by omega)
        obtain ⟨xa, xb, xc⟩ := x
        obtain ⟨ya, yb, yc⟩ := y
        simp only at x0 x1 x2 y0 y1 y2
        clear c1 c2 HC hx hy
        by_cases hq : xa = ya ∧ xb = yb ∧ xc = yc
        · obtain ⟨rfl, rfl, rfl⟩ := hq
          have HN := HNK.out rfl
          have HN : Hid _ := HN
          clear hek HNK
          go_wp2_with fail
          go_quiet (fail)
          go_wp2
          refine ⟨⟨k + 1, by clear hwk; omega, by go_num, grown_trans HG.out ⟨rfl, rfl, rfl, Nat.le_refl _, fun _ _ _ => rfl⟩, HN.out⟩, ?_⟩
          clear hwk
          simp [intOf]; omega
        · have HV : Hid (D = false) := hek (fun e => hq (by injection e with e; injection e with e1 e2 e3; exact ⟨e1, e2, e3⟩))
          clear hek HNK
          by_cases ha : xa = ya
          · subst ha
            by_cases hb2 : xb = yb
            · subst hb2
              have hc2 : ¬ xc = yc := fun e => hq ⟨rfl, rfl, e⟩
              clear hq
              go_wp2_with fail
              go_quiet (fail)
              go_wp2
              go_returns
              exact ⟨by rw [HV.out]; rfl, grown_trans HG.out ⟨rfl, rfl, rfl, Nat.le_refl _, fun _ _ _ => rfl⟩⟩
            · clear hq
              go_wp2_with fail
              go_quiet (fail)
              go_wp2
              go_returns
              exact ⟨by rw [HV.out]; rfl, grown_trans HG.out ⟨rfl, rfl, rfl, Nat.le_refl _, fun _ _ _ => rfl⟩⟩
          · clear hq
            go_wp2_with fail
            go_quiet (fail)
            go_wp2
            go_returns
            exact ⟨by rw [HV.out]; rfl, grown_trans HG.out ⟨rfl, rfl, rfl, Nat.le_refl _, fun _ _ _ => rfl⟩⟩
      · have hV : D = true := HT.out (fun i hi => HC.out.2 i (by omega))
        have HV : Hid _ := hV
        have HG : Hid _ := HC.out.1
        have h3i : ¬ (k : Int) < (n : Int) := by omega
        clear hV HC
        go_wp2
        go_returns
        exact ⟨by rw [HV.out]; rfl, HG.out⟩
  · have hV : decide (xs = ys) = false := decide_eq_false (fun e => hnm (by rw [← hx, ← hy, e]))
    rw [hV]
    have hb : ((n : Int) != (m : Int)) = true := by simp; omega
    clear R R2 hV
    go_enter Try.func29, Try.ntmps29
    go_wp2
    go_returns
    exact ⟨rfl, World.grownBy.refl _ _⟩
end Go.Proofs.Ytpahnkodhonlgaa
