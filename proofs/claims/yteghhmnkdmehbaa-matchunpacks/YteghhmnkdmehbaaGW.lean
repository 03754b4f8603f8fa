/- Worth, the program's and the document's. -/
import Derived.Test.YteghhmnkdmehbaaProg
import Derived.Test.YteghhmnkdmehbaaGG
import Derived.WalkLawsBesides
import Derived.Laws.FloatArith
import Derived.Laws.Externs
import Derived.Laws.BitsAllLaws
import Derived.Deep.QuietTactic
import Derived.BigQuiet
namespace Go.Proofs.Yteghhmnkdmehbaa
open Go.RowKit
set_option linter.unusedSimpArgs false
set_option linter.unusedVariables false

/-- the float nearest to an int -/
def foi (n : Int) : Nat := floatOfInt .f64 n
theorem foi_lt (n : Int) : foi n < 18446744073709551616 := by
  have := floatOfInt_wf .f64 n
  unfold foi
  simpa [Lit.wf] using this
theorem order_bits (x y : Nat) : Ieee.double.order x (bits64 y) = Ieee.double.order x y := by
  by_cases h : nan64 y = true
  · rw [order_nan (Or.inr h), order_nan (Or.inr (by rw [nan_bits]; exact h))]
  · rw [bits_num (by simpa using h)]
/-- Worth, as a plain function -/
def wrth (plain packed : Int) (limit : Nat) : Bool := Ieee.double.order (foi packed) (fop .mul (foi plain) limit) == some .lt
theorem worth_any (a b : Int) (x : Nat) (w : World) : Calls Try.prog 23 #[.int .i64 a, .int .i64 b, .float .f64 x] w fun e w' => e = .returned (.bool (wrth a b x)) ∧ ∃ n, w' = w.drewN n := by
  obtain ⟨r, n, hr, hb, hl⟩ := run_fop (P := Try.prog) .mul (by simp) 34 (foi a) x w
  unfold wrth
  rw [← hb, order_bits]
  unfold foi at *
  go_enter Try.func23, Try.ntmps23
  go_wp2
  go_ret
  exact ⟨rfl, n, rfl⟩
theorem refworth_any (a b : Int) (x : Nat) (w : World) : Calls Try.prog 25 #[.int .i64 a, .int .i64 b, .float .f64 x] w fun e w' => e = .returned (.bool (wrth a b x)) ∧ ∃ n, w' = w.drewN n := by
  obtain ⟨r, n, hr, hb, hl⟩ := run_fop (P := Try.prog) .mul (by simp) 34 (foi a) x w
  unfold wrth
  rw [← hb, order_bits]
  unfold foi at *
  go_enter Try.func25, Try.ntmps25
  go_wp2
  go_ret
  exact ⟨rfl, n, rfl⟩
theorem mworth_any (a b : Int) (x : Nat) (w : World) : Calls Try.prog 16 #[.int .i64 a, .int .i64 b, .float .f64 x] w fun e w' => e = .returned (.bool (wrth a b x)) ∧ ∃ n, w' = w.drewN n := by
  have h := refworth_any a b x w
  generalize wrth a b x = bw at *
  go_enter Try.func16, Try.ntmps16
  go_wp2_with fail
  refine h.mono ?_
  rintro e w' ⟨rfl, n, rfl⟩
  simp only
  go_wp2
  go_ret
  exact ⟨rfl, n, rfl⟩
end Go.Proofs.Yteghhmnkdmehbaa
