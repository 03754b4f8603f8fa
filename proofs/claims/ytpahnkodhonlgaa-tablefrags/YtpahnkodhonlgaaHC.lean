/- Contracts of Fits and Store. -/
import Derived.Test.YtpahnkodhonlgaaHB
import Derived.WalkSpells
import Derived.Laws.AppendOwnNone
namespace Go.Proofs.Ytpahnkodhonlgaa
open Go.RowKit
set_option maxRecDepth 100000
set_option linter.unusedSimpArgs false
set_option linter.unusedVariables false

def fits (n : Int) (m : Nat) : Bool := n / 256 ^ m == 0

theorem fits_lg {n : Int} {m : Nat} (hW : isW m = true) (h0 : 0 ≤ n) : fits n m = !decide (lg m < n) := by
  have hm := isW_pos hW
  unfold fits
  rw [Bool.eq_iff_iff]
  obtain rfl | rfl | rfl | rfl : m = 1 ∨ m = 2 ∨ m = 4 ∨ m = 8 := by omega
  · have e : lg ((1 : Nat) : Int) = 255 := by decide
    rw [e]; simp; omega
  · have e : lg ((2 : Nat) : Int) = 65535 := by decide
    rw [e]; simp; omega
  · have e : lg ((4 : Nat) : Int) = 4294967295 := by decide
    rw [e]; simp; omega
  · have e : lg ((8 : Nat) : Int) = 18446744073709551615 := by decide
    rw [e]; simp; omega

theorem ckE_fits {n : Int} {m : Nat} (hW : isW m = true) (h0 : 0 ≤ n) : ckE n m = if fits n m then 0 else 9 := by
  rw [fits_lg hW h0]
  by_cases h : lg m < n <;> simp [ckE, hW, h]

end Go.Proofs.Ytpahnkodhonlgaa
