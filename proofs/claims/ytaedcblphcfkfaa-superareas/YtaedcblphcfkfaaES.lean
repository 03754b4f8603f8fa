/- The program's boot: what bytes say; are bytes the same? -/
import Derived.Test.YtaedcblphcfkfaaEQ
namespace Go.Proofs.Ytaedcblphcfkfaa
open Go.RowKit
set_option linter.unusedSimpArgs false
set_option linter.unusedVariables false

theorem le_one {bs : List Int} (k : Nat) (h : k < bs.length) : le ((bs.drop k).take 1) = bs.getD k 0 := by
  have e : (bs.drop k).take 1 = [bs[k]] := by rw [List.drop_eq_getElem_cons h]; rfl
  rw [e]
  simp [le, List.getD_eq_getElem?_getD, h]

end Go.Proofs.Ytaedcblphcfkfaa
