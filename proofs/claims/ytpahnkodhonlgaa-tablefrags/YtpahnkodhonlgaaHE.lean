/- Contracts of readers. -/
import Derived.Test.YtpahnkodhonlgaaHD
import Derived.Test.YtpahnkodhonlgaaHS
import Derived.Deep.RegionHeld
import Derived.Deep.DrawnRows
import Derived.WalkSmall
namespace Go.Proofs.Ytpahnkodhonlgaa
open Go.RowKit
set_option maxRecDepth 100000
set_option linter.unusedSimpArgs false
set_option linter.unusedVariables false
attribute [local go_sem ↓] Go.wp_at_zero Go.wp_at_succ

def inR (x : Int) : Int := if x = 9 then 6 else x
theorem cast_add (a b : Nat) : ((a + b : Nat) : Int) = (a : Int) + b := by omega
theorem grown_set_drew (w : World) (g i : Nat) (v : Value) : w.grownBy (w.setCell ⟨g, i, none⟩ v).drew (some g) := grown_trans (grown_set w g i v) (grown_drewH _ _)

/-- bytes that a call told: nothing, or a row of their own -/
def Res (w w' : World) (v : Value) (t : List Int) : Prop := (v = .slice none 0 0 ∧ t = []) ∨ ∃ g, v = .slice (some ⟨g, 0, none⟩) t.length t.length ∧ Blk w' g (bv t) ∧ w.heap.size ≤ g

theorem hle_two {bs : List Int} (hb : Byt bs) (k : Nat) : 0 ≤ le ((bs.drop k).take 2) ∧ le ((bs.drop k).take 2) < 65536 := by
  have hB := (hb.drop k).take 2
  have h1 := le_lt_of hB 2 (by simp; omega)
  exact ⟨le_nonneg hB, by have e : (256 : Int) ^ 2 = 65536 := by decide
                          rw [e] at h1; exact h1⟩

end Go.Proofs.Ytpahnkodhonlgaa
