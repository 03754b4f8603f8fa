/- Which of two counts. -/
import Derived.Test.YtaedcblphcfkfaaDC
import Derived.BigRegion
namespace Go.Proofs.Ytaedcblphcfkfaa
open Go.RowKit
set_option linter.unusedSimpArgs false
set_option linter.unusedVariables false

/-- Choose, as a plain function -/
def rch (a b : List Int) : Int × Rc × Int :=
  if (rde a).2 ≠ 0 ∧ (rde b).2 ≠ 0 then (0, rc0, 4) else if (rde a).2 ≠ 0 ∨ ((rde b).2 = 0 ∧ (rde a).1.q < (rde b).1.q) then (1, (rde b).1, 0) else (0, (rde a).1, 0)
theorem rde_err (bs : List Int) : (rde bs).2 = 0 ∨ (rde bs).2 = 6 := by
  unfold rde
  split
  · exact Or.inr rfl
  · split
    · exact Or.inl rfl
    · exact Or.inr rfl
end Go.Proofs.Ytaedcblphcfkfaa
