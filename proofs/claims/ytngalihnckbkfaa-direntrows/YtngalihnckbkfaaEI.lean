/- Encode of a list that may not be. -/
import Derived.Test.YtngalihnckbkfaaEH
import Derived.Test.YtngalihnckbkfaaED
namespace Go.Proofs.Ytngalihnckbkfaa
open Go.RowKit
set_option maxRecDepth 100000
set_option linter.unusedSimpArgs false
set_option linter.unusedVariables false
set_option maxHeartbeats 2000000 in
theorem pencode16_bad (a : Option Addr) (len cap : Nat) (l : List Kx) (w : World) (K : Kxs w a len l) (hz : ∀ k ∈ l, k.nm.size ≤ 1000000) (hr : rgt16 l = false) :
    Calls Try.prog 9 #[.slice a len cap] w fun e w' => e = .returned (.tuple #[.slice none 0 0, .int .i64 1]) ∧ w.grownBy w' none := by
  have hc := pcheck16_any a len cap l w K hz
  rw [hr, if_neg (by decide)] at hc
  clear K hz hr
  go_enter Try.func9, Try.ntmps9
  go_wp2_with fail
  refine hc.mono ?_
  rintro e w1 ⟨rfl, g1⟩
  have HG : Hid _ := g1
  clear hc g1
  go_wp2_with fail
  go_returns
  exact ⟨rfl, HG.out⟩
end Go.Proofs.Ytngalihnckbkfaa
