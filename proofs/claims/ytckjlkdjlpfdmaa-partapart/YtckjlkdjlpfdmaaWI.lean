/- The walk of PartApart. -/
import Derived.Test.YtckjlkdjlpfdmaaWG
import Derived.Test.YtckjlkdjlpfdmaaWH
namespace Go.Proofs.Ytckjlkdjlpfdmaa
open Go.RowKit
set_option linter.unusedSimpArgs false
set_option linter.unusedVariables false

theorem partApart_walk (s p b slot at_ : Int) (w : World) (hs : bnd64 s) (hp : bnd64 p) (hb : bnd64 b) (hsl : 0 ≤ slot ∧ slot ≤ 255) (ha : bnd64 at_) :
    Calls Try.prog 5 #[.agg #[.int .i64 s, .int .i64 p, .int .i64 b], .int .u8 slot, .int .i64 at_] w fun e w' => e = .returned (.bool true) ∧ Below w.heap.size w w' := by
  by_cases hz : (mk s p b).2 = 0
  · obtain ⟨n, hm, _⟩ := mk_made hz
    by_cases hA : at_ < 0 ∨ n * p * b ≤ at_
    · exact partApart_out s p b slot at_ w hs hp hb hsl ha hz (fun m h => by rw [hm] at h; simp at h; rw [← h]; exact hA)
    · exact partApart_in s p b slot at_ w hs hp hb hsl ha hz (fun m h => by rw [hm] at h; simp at h; rw [← h]; exact hA)
  · exact partApart_none s p b slot at_ w hs hp hb hsl ha hz
end Go.Proofs.Ytckjlkdjlpfdmaa
