/- Plain facts on the sums, differences, products and quotients of floats: what they give, all NaNs as one. -/
import Derived.Test.YteghhmnkdmehbaaGF
import Derived.Laws.FloatArith
import Derived.Deep.Draws
namespace Go.Proofs.Yteghhmnkdmehbaa
open Ieee

theorem word_nan (s : Bool) {r : Nat} (h : r ≤ 9218868437227405312) : nan64 (double.word s r) = false := by
  have c1 : double.signWeight = 9223372036854775808 := by decide
  unfold nan64 Format.word
  rw [c1]
  simp only [decide_eq_false_iff_not, Nat.not_lt]
  cases s
  · simp only [Bool.false_eq_true, if_false]; omega
  · simp only [if_true]; omega
theorem nearest_nan (s : Bool) (m : Nat) (p : Int) : nan64 (double.nearest s m p) = false := by
  have c3 : double.infRung = 9218868437227405312 := by decide
  unfold Format.nearest
  split
  · exact word_nan s (by decide)
  · exact word_nan s (by rw [c3]; exact Nat.min_le_right _ _)
theorem write_nan {d : Datum} (h : d.isNaN = false) : nan64 (double.write d) = false := by
  have c3 : double.infRung = 9218868437227405312 := by decide
  cases d with
  | number s m p => exact nearest_nan s m p
  | infinity s => exact word_nan s (by rw [c3]; exact Nat.le_refl _)
  | nan s f => cases h
theorem sum_num {a b d : Datum} (h : a.sum b = some d) : d.isNaN = false := by
  cases a <;> cases b <;> simp only [Datum.sum] at h <;> first | (cases h; done) | skip
  all_goals first | (cases h; rfl) | (split at h <;> cases h <;> rfl)
theorem product_num {a b d : Datum} (h : a.product b = some d) : d.isNaN = false := by
  cases a <;> cases b <;> simp only [Datum.product] at h <;> first | (cases h; done) | skip
  all_goals first | (cases h; rfl) | (split at h <;> cases h <;> rfl)
theorem quotient_num {n : Nat} {a b d : Datum} (h : a.quotient n b = some d) : d.isNaN = false := by
  cases a <;> cases b <;> simp only [Datum.quotient] at h <;> first | (cases h; done) | skip
  all_goals first | (cases h; rfl) | skip
  split at h
  · split at h <;> cases h; rfl
  · cases h; rfl
/-- what is told is a number or an infinity -/
theorem fb_num {op : BinOp} {x y r : Nat} (h : floatBits op .f64 x y = some r) : nan64 r = false := by
  unfold floatBits at h
  split at h
  · obtain ⟨d, hd, rfl⟩ := Option.map_eq_some_iff.1 h; exact write_nan (sum_num hd)
  · obtain ⟨d, hd, rfl⟩ := Option.map_eq_some_iff.1 h; exact write_nan (sum_num hd)
  · obtain ⟨d, hd, rfl⟩ := Option.map_eq_some_iff.1 h; exact write_nan (product_num hd)
  · obtain ⟨d, hd, rfl⟩ := Option.map_eq_some_iff.1 h; exact write_nan (quotient_num hd)
  · cases h
theorem fb_lt {op : BinOp} {x y r : Nat} (h : floatBits op .f64 x y = some r) : r < 18446744073709551616 := by
  have := floatBits_wf h
  simpa [Lit.wf] using this
theorem fb_nan {op : BinOp} {x y : Nat} (h : nan64 x = true ∨ nan64 y = true) : floatBits op .f64 x y = none := by
  have key : ∃ s f, double.read x = .nan s f ∨ double.read y = .nan s f := by
    unfold nan64 at h
    simp only [decide_eq_true_eq] at h
    rcases h with h | h
    · obtain ⟨f, e⟩ := read_nan h; exact ⟨_, f, Or.inl e⟩
    · obtain ⟨f, e⟩ := read_nan h; exact ⟨_, f, Or.inr e⟩
  obtain ⟨s, f, e⟩ := key
  unfold floatBits
  split
  · show Option.map _ _ = _
    rcases e with e | e
    · rw [show FloatKind.f64.format.read x = _ from e]; rfl
    · rw [show FloatKind.f64.format.read y = _ from e]; cases FloatKind.f64.format.read x <;> rfl
  · show Option.map _ _ = _
    rcases e with e | e
    · rw [show FloatKind.f64.format.read x = _ from e]; rfl
    · rw [show FloatKind.f64.format.read y = _ from e]; cases FloatKind.f64.format.read x <;> rfl
  · show Option.map _ _ = _
    rcases e with e | e
    · rw [show FloatKind.f64.format.read x = _ from e]; rfl
    · rw [show FloatKind.f64.format.read y = _ from e]; cases FloatKind.f64.format.read x <;> rfl
  · show Option.map _ _ = _
    rcases e with e | e
    · rw [show FloatKind.f64.format.read x = _ from e]; rfl
    · rw [show FloatKind.f64.format.read y = _ from e]; cases FloatKind.f64.format.read x <;> rfl
  · rfl
/-- what an operation gives, all NaNs as one -/
def fop (op : BinOp) (x y : Nat) : Nat := (floatBits op .f64 x y).getD 9221120237041090561
theorem fb_bits (op : BinOp) (x y : Nat) : floatBits op .f64 (bits64 x) (bits64 y) = floatBits op .f64 x y := by
  by_cases hx : nan64 x = true
  · rw [fb_nan (Or.inl hx), fb_nan (Or.inl (by rw [nan_bits]; exact hx))]
  · by_cases hy : nan64 y = true
    · rw [fb_nan (Or.inr hy), fb_nan (Or.inr (by rw [nan_bits]; exact hy))]
    · rw [bits_num (by simpa using hx), bits_num (by simpa using hy)]
theorem fop_bits (op : BinOp) (x y : Nat) : fop op (bits64 x) (bits64 y) = fop op x y := by unfold fop; rw [fb_bits]
theorem bits_bits (x : Nat) : bits64 (bits64 x) = bits64 x := by
  by_cases h : nan64 x = true
  · rw [bits_nan1 h]; decide
  · rw [bits_num (x := x) (by simpa using h), bits_num (x := x) (by simpa using h)]
theorem fop_lt (op : BinOp) (x y : Nat) : fop op x y < 18446744073709551616 := by
  unfold fop
  cases h : floatBits op .f64 x y with
  | none => decide
  | some r => exact fb_lt h
theorem fop_canon (op : BinOp) (x y : Nat) : bits64 (fop op x y) = fop op x y := by
  unfold fop
  cases h : floatBits op .f64 x y with
  | none => decide
  | some r => exact bits_num (fb_num h)

theorem cut_nan (x y t : Nat) : nan64 (Question.cut (.nanBits .f64 x y) t) = true ∧ Question.cut (.nanBits .f64 x y) t < 18446744073709551616 := by
  have e : Question.cut (.nanBits .f64 x y) t = (t % 2) * 9223372036854775808 + 9218868437227405312 + 1 + (t / 2) % 4503599627370495 := rfl
  rw [e]
  unfold nan64
  simp only [decide_eq_true_eq]
  have h2 : t / 2 % 4503599627370495 < 4503599627370495 := Nat.mod_lt _ (by decide)
  generalize t / 2 % 4503599627370495 = q at *
  rcases Nat.mod_two_eq_zero_or_one t with h | h <;> rw [h] <;> omega
/-- AN OPERATION ON FLOATS, RUN: some float, which is what it is to be, all NaNs as one -/
theorem run_fop {P : Program} (op : BinOp) (hop : op = .add ∨ op = .sub ∨ op = .mul ∨ op = .quo) (t : TypeId) (x y : Nat) (w : World) :
    ∃ r n, (binOp op t (.float .f64 x) (.float .f64 y)).run P w = .ok (.float .f64 r) (w.drewN n) ∧ bits64 r = fop op x y ∧ r < 18446744073709551616 := by
  cases h : floatBits op .f64 x y with
  | some r => exact ⟨r, 0, run_float_arith w op t .f64 x y r h, by unfold fop; rw [h, bits_num (fb_num h)]; rfl, fb_lt h⟩
  | none =>
    obtain ⟨hn, hl⟩ := cut_nan x y (w.tape w.drawn (.nanBits .f64 x y))
    refine ⟨_, 1, ?_, by unfold fop; rw [h, bits_nan1 hn]; rfl, hl⟩
    unfold floatBits at h
    rcases hop with rfl | rfl | rfl | rfl <;> simp only at h <;> simp [binOp, Op.floatArith, h, Question.forced] <;> rfl
end Go.Proofs.Yteghhmnkdmehbaa
