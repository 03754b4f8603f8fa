/- Contracts of the functions on single floats: each returns what the plain function of the same shape reckons, and memory stands. -/
import Derived.Test.YtekblghlaogeaaaProg
import Derived.Test.YtekblghlaogeaaaF
import Derived.WalkLawsBesides
import Derived.Laws.FloatArith
import Derived.Laws.Externs
import Derived.Laws.BitsAllLaws
import Derived.Deep.QuietTactic
import Derived.BigQuiet
namespace Go.Proofs.Ytekblghlaogeaaa
open Go.RowKit
set_option linter.unusedSimpArgs false

theorem f64order : FloatKind.f64.format.order = Ieee.double.order := rfl
theorem run_frombits (b : Nat) (w : World) : (callFunc 31 #[.int .u64 b]).run Try.prog w = .ok (.value (.float .f64 b)) w := by
  rw [run_callFunc_extern (P := Try.prog) Try.func31 (by kernel_rfl) (by kernel_rfl) (by kernel_rfl) (e := Extern.MathFloatBits.float64frombits) (by kernel_rfl)]
  rfl
theorem run_bits (b : Nat) (w : World) : (callFunc 32 #[.float .f64 b]).run Try.prog w = .ok (.value (.int .u64 b)) w := by
  rw [run_callFunc_extern (P := Try.prog) Try.func32 (by kernel_rfl) (by kernel_rfl) (by kernel_rfl) (e := Extern.MathFloatBits.float64bits) (by kernel_rfl)]
  rfl

theorem of_any (b : Nat) (w : World) : Calls Try.prog 9 #[.int .u64 b] w fun e w' => e = .returned (.float .f64 b) ∧ w = w' := by
  have h := run_frombits b
  go_enter Try.func9, Try.ntmps9
  go_wp2
  go_ret
  exact ⟨rfl, rfl⟩

theorem order_self_ne (b : Nat) : (FloatKind.f64.format.order b b != some Ordering.eq) = nan64 b := by
  rw [f64order, order_self]
  cases nan64 b <;> rfl
theorem isnan_any (b : Nat) (w : World) : Calls Try.prog 36 #[.float .f64 b] w fun e w' => e = .returned (.bool (nan64 b)) ∧ w = w' := by
  have h := order_self_ne b
  go_enter Try.func36, Try.ntmps36
  go_wp2
  go_ret
  exact ⟨by rw [← h]; rfl, rfl⟩
theorem onenan_any (b : Nat) (w : World) : Calls Try.prog 33 #[.float .f64 b] w fun e w' => e = .returned (.float .f64 (bits64 b)) ∧ w = w' := by
  have h := isnan_any b w
  have h1 : (callFunc 31 #[.int .u64 9221120237041090561]).run Try.prog w = .ok (.value (.float .f64 9221120237041090561)) w := run_frombits 9221120237041090561 w
  unfold bits64
  generalize nan64 b = nb at *
  cases nb
  · go_enter Try.func33, Try.ntmps33
    go_wp2_with (go_at_call 36; refine h.mono ?_; rintro e w' ⟨rfl, rfl⟩)
    go_ret
    exact ⟨rfl, rfl⟩
  · go_enter Try.func33, Try.ntmps33
    go_wp2_with (go_at_call 36; refine h.mono ?_; rintro e w' ⟨rfl, rfl⟩)
    go_ret
    exact ⟨rfl, rfl⟩
theorem bits_any (b : Nat) (w : World) : Calls Try.prog 34 #[.float .f64 b] w fun e w' => e = .returned (.int .u64 (bits64 b)) ∧ w = w' := by
  have h := order_self_ne b
  have h1 := run_bits b w
  unfold bits64
  by_cases k : nan64 b = true
  · rw [k] at h
    rw [if_pos k]
    go_enter Try.func34, Try.ntmps34
    go_wp2
    all_goals first | (go_ret; exact ⟨rfl, rfl⟩) | simp_all
  · rw [if_neg k]
    have k' : nan64 b = false := by simpa using k
    rw [k'] at h
    go_enter Try.func34, Try.ntmps34
    go_wp2
    all_goals first | (go_ret; exact ⟨rfl, rfl⟩) | simp_all
theorem and63 {n : Nat} (h : n < 18446744073709551616) : bits .and .u64 (n : Int) 9223372036854775808 = ((n / 9223372036854775808 * 9223372036854775808 : Nat) : Int) := by
  have := u64_and_nat n 9223372036854775808 h (by decide)
  rw [nat_hi64_63, Nat.mod_eq_of_lt h] at this
  exact this
theorem not64 {x : Nat} (h : x < 18446744073709551616) : bits .xor .u64 IntKind.u64.max (x : Int) = ((18446744073709551615 - x : Nat) : Int) := by
  have h1 := u64_xor_nat 18446744073709551615 x (by decide) h
  have h2 : 18446744073709551615 ^^^ x = 18446744073709551615 - x := by
    have := BitVec.toNat_not (x := BitVec.ofNat 64 x)
    rw [← BitVec.allOnes_xor, BitVec.toNat_xor, BitVec.toNat_allOnes, BitVec.toNat_ofNat, Nat.mod_eq_of_lt (by simpa using h)] at this
    exact this
  rw [h2] at h1
  exact h1
theorem key_any (b : Nat) (w : World) (hb : b < 18446744073709551616) : Calls Try.prog 10 #[.float .f64 b] w fun e w' => e = .returned (.int .u64 (key b)) ∧ w = w' := by
  have h := onenan_any b w
  have hl := bits64_lt hb
  unfold key
  generalize bits64 b = x at *
  have h1 := run_bits x w
  have ha := and63 hl
  by_cases k : x < 9223372036854775808
  · rw [if_pos k]
    have e : x / 9223372036854775808 * 9223372036854775808 = 0 := by omega
    rw [e] at ha
    go_enter Try.func10, Try.ntmps10
    go_wp2_with (go_at_call 33; refine h.mono ?_; rintro e w' ⟨rfl, rfl⟩)
    go_ret
    exact ⟨rfl, rfl⟩
  · rw [if_neg k]
    have e : x / 9223372036854775808 * 9223372036854775808 = 9223372036854775808 := by omega
    rw [e] at ha
    go_enter Try.func10, Try.ntmps10
    go_wp2_with (go_at_call 33; refine h.mono ?_; rintro e w' ⟨rfl, rfl⟩)
    go_ret
    exact ⟨by rw [← not64 hl]; rfl, rfl⟩
set_option maxRecDepth 20000 in
theorem refkey_any (b : Nat) (w : World) (hb : b < 18446744073709551616) : Calls Try.prog 11 #[.float .f64 b] w fun e w' => e = .returned (.int .u64 (key b)) ∧ w = w' := by
  have h := bits_any b w
  have hl := bits64_lt hb
  unfold key
  generalize bits64 b = x at *
  by_cases k : x < 9223372036854775808
  · have k' : (x : Int) < 9223372036854775808 := by omega
    rw [if_pos k]
    go_enter Try.func11, Try.ntmps11
    go_wp2_with (go_at_call 34; refine h.mono ?_; rintro e w' ⟨rfl, rfl⟩)
    go_ret
    exact ⟨rfl, rfl⟩
  · rw [if_neg k]
    have k' : decide ((x : Int) < 9223372036854775808) = false := by simp; omega
    have e1 : Value.int .u64 (18446744073709551615 - (x : Int)) = .int .u64 ((18446744073709551615 - x : Nat) : Int) := congrArg (Value.int .u64) (by omega)
    rw [← e1]
    clear e1 k
    go_enter Try.func11, Try.ntmps11
    go_wp2_with (go_at_call 34; refine h.mono ?_; rintro e w' ⟨rfl, rfl⟩)
    go_ret
    exact ⟨rfl, rfl⟩

/-- Order, as a plain function -/
def ord (x y : Nat) : Int := if key x < key y then -1 else if key y < key x then 1 else 0
theorem cisnan_any (a : Nat) (w : World) : Calls Try.prog 40 #[.int .u64 a] w fun e w' => e = .returned (.bool false) ∧ w = w' := by
  go_enter Try.func40, Try.ntmps40
  go_wp2
  go_ret
  exact ⟨by simp, rfl⟩
theorem compare_any (a b : Nat) (w : World) : Calls Try.prog 35 #[.int .u64 a, .int .u64 b] w fun e w' => e = .returned (.int .i64 (if a < b then -1 else if b < a then 1 else 0)) ∧ w = w' := by
  have h1 := cisnan_any a w
  have h2 := cisnan_any b w
  rcases Nat.lt_trichotomy a b with k | k | k
  · rw [if_pos k]
    go_enter Try.func35, Try.ntmps35
    go_wp2_with (go_at_call 40; first | (refine h1.mono ?_; rintro e w' ⟨rfl, rfl⟩) | (refine h2.mono ?_; rintro e w' ⟨rfl, rfl⟩))
    go_ret
    exact ⟨rfl, rfl⟩
  · subst k
    rw [if_neg (by omega), if_neg (by omega)]
    go_enter Try.func35, Try.ntmps35
    go_wp2_with (go_at_call 40; first | (refine h1.mono ?_; rintro e w' ⟨rfl, rfl⟩) | (refine h2.mono ?_; rintro e w' ⟨rfl, rfl⟩))
    go_ret
    exact ⟨rfl, rfl⟩
  · rw [if_neg (by omega), if_pos k]
    go_enter Try.func35, Try.ntmps35
    go_wp2_with (go_at_call 40; first | (refine h1.mono ?_; rintro e w' ⟨rfl, rfl⟩) | (refine h2.mono ?_; rintro e w' ⟨rfl, rfl⟩))
    go_ret
    exact ⟨rfl, rfl⟩
theorem order_any (x y : Nat) (w : World) (hx : x < 18446744073709551616) (hy : y < 18446744073709551616) : Calls Try.prog 12 #[.float .f64 x, .float .f64 y] w fun e w' => e = .returned (.int .i64 (ord x y)) ∧ w = w' := by
  have h1 := fun v => key_any x v hx
  have h2 := fun v => key_any y v hy
  have h3 := compare_any (key x) (key y)
  unfold ord
  generalize key x = a at *
  generalize key y = b at *
  go_enter Try.func12, Try.ntmps12
  go_wp2_with (first | (go_at_call 10; first | (with_reducible refine (h1 _).mono ?_; rintro e w' ⟨rfl, rfl⟩) | (with_reducible refine (h2 _).mono ?_; rintro e w' ⟨rfl, rfl⟩)) | (go_at_call 35; refine (h3 _).mono ?_; rintro e w' ⟨rfl, rfl⟩))
  all_goals (go_ret; exact ⟨rfl, rfl⟩)
theorem reforder_any (x y : Nat) (w : World) (hx : x < 18446744073709551616) (hy : y < 18446744073709551616) : Calls Try.prog 13 #[.float .f64 x, .float .f64 y] w fun e w' => e = .returned (.int .i64 (ord x y)) ∧ w = w' := by
  have h1 := fun v => refkey_any x v hx
  have h2 := fun v => refkey_any y v hy
  unfold ord
  generalize key x = a at *
  generalize key y = b at *
  rcases Nat.lt_trichotomy a b with k | k | k
  · rw [if_pos k]
    go_enter Try.func13, Try.ntmps13
    go_wp2_with (go_at_call 11; first | (with_reducible refine (h1 _).mono ?_; rintro e w' ⟨rfl, rfl⟩) | (with_reducible refine (h2 _).mono ?_; rintro e w' ⟨rfl, rfl⟩))
    go_ret
    exact ⟨rfl, rfl⟩
  · subst k
    rw [if_neg (by omega), if_neg (by omega)]
    go_enter Try.func13, Try.ntmps13
    go_wp2_with (go_at_call 11; first | (with_reducible refine (h1 _).mono ?_; rintro e w' ⟨rfl, rfl⟩) | (with_reducible refine (h2 _).mono ?_; rintro e w' ⟨rfl, rfl⟩))
    go_ret
    exact ⟨rfl, rfl⟩
  · rw [if_neg (by omega), if_pos k]
    go_enter Try.func13, Try.ntmps13
    go_wp2_with (go_at_call 11; first | (with_reducible refine (h1 _).mono ?_; rintro e w' ⟨rfl, rfl⟩) | (with_reducible refine (h2 _).mono ?_; rintro e w' ⟨rfl, rfl⟩))
    go_ret
    exact ⟨rfl, rfl⟩
theorem same_any (x y : Nat) (w : World) (hx : x < 18446744073709551616) (hy : y < 18446744073709551616) : Calls Try.prog 14 #[.float .f64 x, .float .f64 y] w fun e w' => e = .returned (.bool (decide (ord x y = 0))) ∧ w = w' := by
  have h1 := order_any x y w hx hy
  generalize ord x y = r at *
  go_enter Try.func14, Try.ntmps14
  go_wp2_with (go_at_call 12; refine h1.mono ?_; rintro e w' ⟨rfl, rfl⟩)
  go_ret
  exact ⟨rfl, rfl⟩
theorem like_any (x y : Nat) (w : World) : Calls Try.prog 16 #[.float .f64 x, .float .f64 y] w fun e w' => e = .returned (.bool (decide (bits64 x = bits64 y))) ∧ w = w' := by
  have h1 := bits_any x
  have h2 := bits_any y
  generalize bits64 x = a at *
  generalize bits64 y = b at *
  go_enter Try.func16, Try.ntmps16
  go_wp2_with (go_at_call 34; first | (with_reducible refine (h1 _).mono ?_; rintro e w' ⟨rfl, rfl⟩) | (with_reducible refine (h2 _).mono ?_; rintro e w' ⟨rfl, rfl⟩))
  go_ret
  have e : ((a : Int) == (b : Int)) = decide (a = b) := by
    by_cases k : a = b
    · subst k; simp
    · have : ¬ (a : Int) = b := by omega
      simp [k, this]
  exact ⟨by rw [← e]; rfl, rfl⟩
end Go.Proofs.Ytekblghlaogeaaa
