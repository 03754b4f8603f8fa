/- The document's sum of bytes. -/
import Derived.Test.YtpahnkodhonlgaaProg
import Derived.Test.YtpahnkodhonlgaaSA
import Derived.WalkLawsBesides
import Derived.Deep.QuietTactic
import Derived.BigQuiet
namespace Go.Proofs.Ytpahnkodhonlgaa
open Go.RowKit
set_option maxRecDepth 100000
set_option linter.unusedSimpArgs false
set_option linter.unusedVariables false

theorem half1 {x : Nat} (h : x % 2 = 1) : half x = x / 2 ^^^ 3988292384 := by simp [half, h]
theorem half0 {x : Nat} (h : x % 2 ≠ 1) : half x = x / 2 := by simp [half, h]
theorem xorP {x : Nat} (h : x < 4294967296) : bits .xor .u32 ((x : Int) / 2) 3988292384 = ((x / 2 ^^^ 3988292384 : Nat) : Int) := xor32 (a := x / 2) (b := 3988292384) (by omega) (by decide)

theorem stp_eq {T : Nat → Nat} (hT : Tab T) {x : Nat} {b : Int} (hb : 0 ≤ b ∧ b ≤ 255) (hx : x < 4294967296) : bits .xor .u32 ((x : Int) / 256) (T (x % 256 ^^^ b.toNat)) = ((stp T x b : Nat) : Int) :=
  xor32 (a := x / 256) (by omega) (hT _ (ix_lt hb))
theorem ix_eq {x : Nat} {b : Int} (hb : 0 ≤ b ∧ b ≤ 255) : bits .xor .u32 ((x : Int) % 256) b = ((x % 256 ^^^ b.toNat : Nat) : Int) := by
  obtain ⟨c, rfl⟩ := Int.eq_ofNat_of_zero_le hb.1
  exact xor32 (a := x % 256) (b := c) (by omega) (by omega)

end Go.Proofs.Ytpahnkodhonlgaa
