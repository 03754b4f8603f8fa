/- The page's example (live). -/
import Derived.Test.YtngalihnckbkfaaEM
import Derived.Test.YtngalihnckbkfaaEC
import Derived.Test.YtngalihnckbkfaaEH
namespace Go.Proofs.Ytngalihnckbkfaa
open Go.RowKit Go.Shelf
set_option maxRecDepth 100000
set_option linter.unusedSimpArgs false
set_option linter.unusedVariables false
theorem live16_any (w : World) : Calls Try.prog 8 #[] w fun e w' => e = .returned (.bool true) ∧ w.grownBy w' none := by
  have g0 := World.grownBy_alloc w (.cells #[.string ⟨#[97]⟩, .int .i64 5, .string ⟨#[98]⟩, .int .i64 7, .string ⟨#[99]⟩, .int .i64 2] 41) none
  have B0 := Bx.new w 41 [.string ⟨#[97]⟩, .int .i64 5, .string ⟨#[98]⟩, .int .i64 7, .string ⟨#[99]⟩, .int .i64 2]
  have K0 : Kxs (w.alloc (.cells #[.string ⟨#[97]⟩, .int .i64 5, .string ⟨#[98]⟩, .int .i64 7, .string ⟨#[99]⟩, .int .i64 2] 41)) (some ⟨w.heap.size, 0, none⟩) 3 exK := by
    refine ⟨rfl, by decide, fun _ => ⟨_, _, rfl, fun i X hX => ?_⟩⟩
    match i, hX with
    | 0, hX => injection hX with hX; subst hX; exact ⟨B0.c 0, B0.c 1⟩
    | 1, hX => injection hX with hX; subst hX; exact ⟨B0.c 2, B0.c 3⟩
    | 2, hX => injection hX with hX; subst hX; exact ⟨B0.c 4, B0.c 5⟩
  have h1 := pencode16_ok _ 3 3 exK _ K0 (Nat.le_refl _) (by decide) (by decide) (by decide) ex_rgt
  rw [ex_enb] at h1
  have HB : Hid (Byt [2, 0, 5, 0, 0, 0, 0, 0, 1, 97, 2, 0, 1, 98, 1, 0, 2, 0, 0, 0, 0, 0, 1, 99]) := byt_of _ (by decide)
  clear B0 K0
  go_enter Try.func8, Try.ntmps8
  go_wp2_with fail
  refine h1.mono ?_
  rintro e w1 ⟨g, rfl, b1, hg, g1⟩
  have hR := b1.row HB.out (by decide)
  have hcv : (convert 25 9 (.slice (some ⟨g, 0, none⟩) 24 24)).run Try.prog w1 = .ok (.string (strOfNums [2, 0, 5, 0, 0, 0, 0, 0, 1, 97, 2, 0, 1, 98, 1, 0, 2, 0, 0, 0, 0, 0, 1, 99])) w1 := conv_row (P := Try.prog) hR 24 25 9 Try.underlying25 Try.underlying5 Try.underlying9
  have HG : Hid _ := grown_trans g0 g1
  clear h1 b1 hR g1 g0 HB
  go_wp2_with fail
  refine (num16_any 0 w1).mono ?_
  rintro e w' ⟨rfl, rfl⟩
  have hst : strOfNums [2, 0, 5, 0, 0, 0, 0, 0, 1, 97, 2, 0, 1, 98, 1, 0, 2, 0, 0, 0, 0, 0, 1, 99] = (⟨#[2, 0, 5, 0, 0, 0, 0, 0, 1, 97, 2, 0, 1, 98, 1, 0, 2, 0, 0, 0, 0, 0, 1, 99]⟩ : ByteArray) := by kernel_rfl
  rw [hst] at hcv
  go_wp2
  go_ret
  exact ⟨by first | rfl | decide, HG.out⟩
end Go.Proofs.Ytngalihnckbkfaa
