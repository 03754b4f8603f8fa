/- Contracts of Ratio, Worth, Clamp, Smooth, Steps, the program's and the document's; of live. -/
import Derived.Test.YtekblghlaogeaaaA1
import Derived.Test.YtekblghlaogeaaaF3
namespace Go.Proofs.Ytekblghlaogeaaa
open Go.RowKit
set_option linter.unusedSimpArgs false
set_option linter.unusedVariables false

/-- the float nearest to an int -/
def foi (n : Int) : Nat := floatOfInt .f64 n
theorem foi_lt (n : Int) : foi n < 18446744073709551616 := by
  have := floatOfInt_wf .f64 n
  unfold foi
  simpa [Lit.wf] using this
theorem order_bits (x y : Nat) : Ieee.double.order x (bits64 y) = Ieee.double.order x y := by
  by_cases h : nan64 y = true
  · rw [order_nan (Or.inr h), order_nan (Or.inr (by rw [nan_bits]; exact h))]
  · rw [bits_num (by simpa using h)]

theorem ratio_any (a b : Int) (w : World) : Calls Try.prog 17 #[.int .i64 a, .int .i64 b] w fun e w' => e = .returned (.float .f64 (fop .quo (foi a) (foi b))) ∧ ∃ n, w' = w.drewN n := by
  obtain ⟨r, n, hr, hb, hl⟩ := run_fop (P := Try.prog) .quo (by simp) 23 (foi a) (foi b) w
  have h1 := onenan_any r (w.drewN n)
  rw [hb] at h1
  unfold foi at *
  generalize fop .quo (floatOfInt .f64 a) (floatOfInt .f64 b) = q at *
  go_enter Try.func17, Try.ntmps17
  go_wp2_with (go_at_call 33; refine h1.mono ?_; rintro e w' ⟨rfl, rfl⟩)
  go_ret
  exact ⟨rfl, n, rfl⟩
/-- Worth, as a plain function -/
def wrth (plain packed : Int) (limit : Nat) : Bool := Ieee.double.order (foi packed) (fop .mul (foi plain) limit) == some .lt
theorem worth_any (a b : Int) (x : Nat) (w : World) : Calls Try.prog 18 #[.int .i64 a, .int .i64 b, .float .f64 x] w fun e w' => e = .returned (.bool (wrth a b x)) ∧ ∃ n, w' = w.drewN n := by
  obtain ⟨r, n, hr, hb, hl⟩ := run_fop (P := Try.prog) .mul (by simp) 23 (foi a) x w
  unfold wrth
  rw [← hb, order_bits]
  unfold foi at *
  go_enter Try.func18, Try.ntmps18
  go_wp2
  go_ret
  exact ⟨rfl, n, rfl⟩
theorem refworth_any (a b : Int) (x : Nat) (w : World) : Calls Try.prog 19 #[.int .i64 a, .int .i64 b, .float .f64 x] w fun e w' => e = .returned (.bool (wrth a b x)) ∧ ∃ n, w' = w.drewN n := by
  obtain ⟨r, n, hr, hb, hl⟩ := run_fop (P := Try.prog) .mul (by simp) 23 (foi a) x w
  unfold wrth
  rw [← hb, order_bits]
  unfold foi at *
  go_enter Try.func19, Try.ntmps19
  go_wp2
  go_ret
  exact ⟨rfl, n, rfl⟩

/-- Clamp, as a plain function -/
def clp (x lo hi : Nat) : Nat := if nan64 x then lo else if ord x lo = -1 then lo else if ord x hi = 1 then hi else x
theorem ord_cases (x y : Nat) : ord x y = -1 ∨ ord x y = 0 ∨ ord x y = 1 := by
  unfold ord; split
  · exact Or.inl rfl
  · split
    · exact Or.inr (Or.inr rfl)
    · exact Or.inr (Or.inl rfl)
theorem clamp_any (x lo hi : Nat) (w : World) (hx : x < 18446744073709551616) (hl : lo < 18446744073709551616) (hh : hi < 18446744073709551616) : Calls Try.prog 20 #[.float .f64 x, .float .f64 lo, .float .f64 hi] w fun e w' => e = .returned (.float .f64 (clp x lo hi)) ∧ w = w' := by
  have h1 := isnan_any x w
  have h2 := order_any x lo w hx hl
  have h3 := order_any x hi w hx hh
  have c2 := ord_cases x lo
  have c3 := ord_cases x hi
  unfold clp
  generalize nan64 x = nx at *
  generalize ord x lo = o2 at *
  generalize ord x hi = o3 at *
  cases nx
  · rcases c2 with rfl | rfl | rfl <;> rcases c3 with rfl | rfl | rfl <;> (
      go_enter Try.func20, Try.ntmps20
      go_wp2_with (first | (go_at_call 36; refine h1.mono ?_; rintro e w' ⟨rfl, rfl⟩) | (go_at_call 12; first | (with_reducible refine h2.mono ?_; rintro e w' ⟨rfl, rfl⟩) | (with_reducible refine h3.mono ?_; rintro e w' ⟨rfl, rfl⟩)))
      go_ret
      exact ⟨rfl, rfl⟩)
  · go_enter Try.func20, Try.ntmps20
    go_wp2_with (go_at_call 36; refine h1.mono ?_; rintro e w' ⟨rfl, rfl⟩)
    go_ret
    exact ⟨rfl, rfl⟩
theorem refclamp_any (x lo hi : Nat) (w : World) (hx : x < 18446744073709551616) (hl : lo < 18446744073709551616) (hh : hi < 18446744073709551616) : Calls Try.prog 21 #[.float .f64 x, .float .f64 lo, .float .f64 hi] w fun e w' => e = .returned (.float .f64 (clp x lo hi)) ∧ w = w' := by
  have h1 := order_self_ne x
  have h2 := reforder_any x lo w hx hl
  have h3 := reforder_any x hi w hx hh
  have c2 := ord_cases x lo
  have c3 := ord_cases x hi
  unfold clp
  generalize nan64 x = nx at *
  generalize ord x lo = o2 at *
  generalize ord x hi = o3 at *
  cases nx
  · rcases c2 with rfl | rfl | rfl <;> rcases c3 with rfl | rfl | rfl <;> (
      go_enter Try.func21, Try.ntmps21
      go_wp2_with (go_at_call 13; first | (with_reducible refine h2.mono ?_; rintro e w' ⟨rfl, rfl⟩) | (with_reducible refine h3.mono ?_; rintro e w' ⟨rfl, rfl⟩))
      go_ret
      exact ⟨rfl, rfl⟩)
  · go_enter Try.func21, Try.ntmps21
    go_wp2_with fail
    go_ret
    exact ⟨rfl, rfl⟩

theorem fop_left (op : BinOp) (x y : Nat) : fop op (bits64 x) y = fop op x y := by rw [← fop_bits, bits_bits, fop_bits]
theorem fop_right (op : BinOp) (x y : Nat) : fop op x (bits64 y) = fop op x y := by rw [← fop_bits, bits_bits, fop_bits]
theorem rounded_any (x : Nat) (w : World) : Calls Try.prog 37 #[.float .f64 x] w fun e w' => e = .returned (.float .f64 x) ∧ w = w' := by
  go_enter Try.func37, Try.ntmps37
  go_wp2
  go_ret
  exact ⟨rfl, rfl⟩
/-- Smooth, as a plain function, all NaNs as one -/
def smo (was x part : Nat) : Nat := if nan64 was then bits64 x else fop .add was (fop .mul (fop .sub x was) part)
end Go.Proofs.Ytekblghlaogeaaa
