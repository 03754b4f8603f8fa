/- The page's example (live), num. -/
import Derived.Test.YteghhmnkdmehbaaPD
namespace Go.Proofs.Yteghhmnkdmehbaa
open Go.RowKit
set_option linter.unusedSimpArgs false
set_option linter.unusedVariables false

def ex1 : List Int := [32, 97, 98, 2, 0, 16, 99]
def ex2 : List Int := [16, 97, 0, 0]
theorem byt_ex1 : Byt ex1 := by unfold ex1; intro x hx; simp at hx; omega
theorem byt_ex2 : Byt ex2 := by unfold ex2; intro x hx; simp at hx; omega
theorem pdec_ex1 : pdec ex1 100 = ([97, 98, 97, 98, 97, 98, 99], [([97, 98], 2, 4), ([99], 0, 0)], 0, 7) := by decide
theorem pdec_ex2 : pdec ex2 100 = ([], [], 9, 2) := by decide

end Go.Proofs.Yteghhmnkdmehbaa
