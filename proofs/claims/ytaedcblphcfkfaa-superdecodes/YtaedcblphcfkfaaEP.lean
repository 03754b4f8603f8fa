/- The program's boot: which records are right; the one that follows. -/
import Derived.Test.YtaedcblphcfkfaaDE
namespace Go.Proofs.Ytaedcblphcfkfaa
open Go.RowKit
set_option linter.unusedSimpArgs false
set_option linter.unusedVariables false

theorem rnx_eq (r : Rc) (slot n sum : Int) : rnx r slot n sum = if rrt ⟨r.q, slot, n, sum⟩ = false then (rc0, 1) else if r.q = 4611686018427387904 then (rc0, 2) else (⟨r.q + 1, slot, n, sum⟩, 0) := by
  obtain ⟨q, s, l, u⟩ := r
  unfold rnx rrt
  simp only
  by_cases c1 : 4611686018427387904 < q
  · have : ¬ q ≤ 4611686018427387904 := by omega
    simp [c1, this]
  · have h2 : q ≤ 4611686018427387904 := by omega
    simp [c1, h2]
end Go.Proofs.Ytaedcblphcfkfaa
