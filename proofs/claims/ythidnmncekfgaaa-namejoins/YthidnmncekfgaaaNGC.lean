/- strings.Clone: the same text. -/
import Derived.Shelf.Strconv.Clone
import Derived.Test.YthidnmncekfgaaaNGB
namespace Go.Proofs.Ythidnmncekfgaaa
open Go.RowKit Go.Shelf
set_option maxRecDepth 100000
set_option linter.unusedSimpArgs false
set_option linter.unusedVariables false

/-- the shelf's numbers as this program's -/
def ren10 : Ren := ⟨fun _ => 30, fun k => if k = 37 then 39 else if k = 127 then 50 else k, fun k => k⟩
set_option maxHeartbeats 4000000 in
set_option maxRecDepth 100000 in
theorem lays10 : LaysM.n316 Try.prog ren10 := by
  have h : Lays.n316 Try.prog ren10 := by
    constructor <;> first | kernel_rfl | (intro w; rfl)
  refine LaysM.n316.mk h ?_ ?_ ?_ ?_ ?_ ?_ ?_ ?_ ?_ ?_ ?_ <;> first | kernel_rfl | (intro w; rfl)
theorem lclone_any (s : ByteArray) (w : World) (hs : s.size ≤ 1000000) : Calls Try.prog 30 #[.string s] w fun e w' => e = .returned (.string s) ∧ Below w.heap.size w w' :=
  Any.stringslite_Clone lays10 s w (by omega)
theorem sclone_any (s : ByteArray) (w : World) (hs : s.size ≤ 1000000) : Calls Try.prog 22 #[.string s] w fun e w' => e = .returned (.string s) ∧ Below w.heap.size w w' := by
  go_enter Try.func22, Try.ntmps22
  go_wp2_with (go_at_call 30; refine (lclone_any _ _ hs).mono ?_; rintro e w' ⟨rfl, hb⟩)
  go_ret
  exact ⟨rfl, hb⟩
end Go.Proofs.Ythidnmncekfgaaa
