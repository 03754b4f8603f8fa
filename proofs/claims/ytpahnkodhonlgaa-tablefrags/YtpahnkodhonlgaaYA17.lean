/- DecodeFrags, the program's. -/
import Derived.Test.YtpahnkodhonlgaaXA17
import Derived.Test.YtpahnkodhonlgaaVD17
namespace Go.Proofs.Ytpahnkodhonlgaa
open Go.RowKit
set_option maxRecDepth 100000
set_option linter.unusedSimpArgs false
set_option linter.unusedVariables false
/-- what bytes tell as fragments -/
def dcF17 (bs : List Int) : List Fr × Int := if bs.length % 12 = 0 ∧ rgf17 (frs17 bs (bs.length / 12)) = true then (frs17 bs (bs.length / 12), 0) else ([], 6)
theorem frs17_len (bs : List Int) (n : Nat) : (frs17 bs n).length = n := by unfold frs17; simp
def FrPost (w : World) (r : List Fr × Int) (e : Ending) (w' : World) : Prop := ∃ a c, e = .returned (.tuple #[.slice a r.1.length c, .int .i64 r.2]) ∧ Frs w' a r.1.length r.1 ∧ w.grownBy w' none
theorem frpost_none {w w' : World} (h : w.grownBy w' none) : FrPost w ([], 6) (.returned (.tuple #[.slice none 0 0, .int .i64 6])) w' := ⟨none, 0, rfl, ⟨rfl, Nat.zero_le _, fun h => absurd h (Nat.lt_irrefl 0)⟩, h⟩
set_option maxHeartbeats 4000000 in
theorem pdecodeF17_any (a : Option Addr) (len cap : Nat) (bs : List Int) (w : World) (R : Row w a len bs) (hl : len ≤ 1000000) :
    Calls Try.prog 27 #[.slice a len cap] w (FrPost w (dcF17 bs)) := by
  have hlb := R.len_eq
  have hro := rows17_any a len cap 12 w (Or.inr rfl) (by omega)
  obtain ⟨A, hA⟩ : ∃ A, dcF17 bs = A := ⟨_, rfl⟩
  rw [hA]
  unfold dcF17 at hA
  rw [hlb] at hA
  have HA : Hid _ := hA
  have HR : Hid _ := R
  clear R hA
  by_cases h1 : len % 12 = 0
  · have hab : ∀ b off, a = some ⟨b, off, none⟩ → 0 < len → b ≠ w.heap.size := fun b off e h0 => by
      obtain ⟨b2, o2, e2, hc⟩ := HR.out.cells h0
      rw [e] at e2
      injection e2 with e2
      injection e2 with e3 e4
      subst e3
      have h5 : b < w.heap.size := cell_lt (hc 0 h0)
      omega
    have B0 := Bx.new w 78 (rdc17 a len cap 0 false)
    have g0 := World.grownBy_alloc w (.cells (rdc17 a len cap 0 false).toArray 78) none
    have hL := plistF17_any w.heap.size a len cap (len / 12) bs _ B0 (HR.out.grown g0) hab (by omega) (by omega)
    have HG0 : Hid _ := g0
    clear B0 g0 hab
    by_cases h65 : len / 12 ≤ 65536
    · rw [decide_eq_true h1, decide_eq_true h65] at hro
      go_enter Try.func27, Try.ntmps27
      go_wp2_with (go_at_call 38; refine hro.mono ?_; rintro e w' ⟨rfl, rfl⟩)
      refine hL.mono ?_
      rintro e w2 ⟨g, rfl, hrow, hg, g2⟩
      have hpr := prightF17_any (some ⟨g, 0, none⟩) (len / 12) (len / 12) _ w2 hrow
      have HG2 : Hid (w.grownBy w2 none) := grown_new HG0.out g2 (Nat.le_refl _)
      have HRW : Hid _ := hrow
      clear hL g2 hro hrow
      cases hr : rgf17 (frs17 bs (len / 12)) with
      | true =>
        rw [hr] at hpr
        go_wp2_with (go_at_call 49; refine hpr.mono ?_; rintro e w3 ⟨rfl, g3⟩)
        go_returns
        have e := HA.out
        rw [if_pos ⟨h1, hr⟩] at e
        rw [← e]
        refine ⟨some ⟨g, 0, none⟩, len / 12, by simp only [frs17_len]; rfl, ?_, grown_trans HG2.out g3⟩
        have h := HRW.out.grown g3
        simp only [frs17_len]
        exact h
      | false =>
        rw [hr] at hpr
        go_wp2_with (go_at_call 49; refine hpr.mono ?_; rintro e w3 ⟨rfl, g3⟩)
        go_returns
        have e := HA.out
        rw [if_neg (fun h => by rw [hr] at h; cases h.2)] at e
        rw [← e]
        exact frpost_none (grown_trans HG2.out g3)
    · rw [decide_eq_true h1, decide_eq_false h65] at hro
      clear hL
      have hrn : rgf17 (frs17 bs (len / 12)) = false := rgf_len (by rw [frs17_len]; omega)
      go_enter Try.func27, Try.ntmps27
      go_wp2_with (go_at_call 38; refine hro.mono ?_; rintro e w' ⟨rfl, rfl⟩)
      go_returns
      have e := HA.out
      rw [if_neg (fun h => by rw [hrn] at h; cases h.2)] at e
      rw [← e]
      exact frpost_none (World.grownBy.refl _ _)
  · rw [decide_eq_false h1] at hro
    go_enter Try.func27, Try.ntmps27
    go_wp2_with (go_at_call 38; refine hro.mono ?_; rintro e w' ⟨rfl, rfl⟩)
    go_returns
    have e := HA.out
    rw [if_neg (fun h => h1 h.1)] at e
    rw [← e]
    exact frpost_none (World.grownBy.refl _ _)
end Go.Proofs.Ytpahnkodhonlgaa
