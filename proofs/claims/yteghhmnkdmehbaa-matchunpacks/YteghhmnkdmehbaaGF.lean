/- Plain facts on floats of 64 bits: the order of IEEE 754 is the order of the signed rungs. -/
import Derived.WalkKit
namespace Go.Proofs.Yteghhmnkdmehbaa
open Ieee

def nan64 (x : Nat) : Bool := decide (9218868437227405312 < x % 9223372036854775808)
def ngv (x : Nat) : Bool := x / 9223372036854775808 % 2 == 1
def rung (x : Nat) : Nat := x % 9223372036854775808
def sg (s : Bool) (n : Nat) : Int := if s then -(n : Int) else n
/-- the signed rung -/
def sr (x : Nat) : Int := sg (ngv x) (rung x)
def mag (r : Nat) : Nat := if r < 4503599627370496 then r else (4503599627370496 + r % 4503599627370496) * 2 ^ (r / 4503599627370496 - 1)

theorem mag_step (r : Nat) : mag r < mag (r + 1) := by
  unfold mag
  by_cases h1 : r + 1 < 4503599627370496
  · rw [if_pos h1, if_pos (by omega)]; omega
  · rw [if_neg h1]
    by_cases h2 : r < 4503599627370496
    · have e : r = 4503599627370495 := by omega
      subst e; decide
    · rw [if_neg h2]
      have hq : 1 ≤ r / 4503599627370496 := by omega
      obtain ⟨e, he⟩ : ∃ e, r / 4503599627370496 = e + 1 := ⟨r / 4503599627370496 - 1, by omega⟩
      by_cases h3 : r % 4503599627370496 + 1 < 4503599627370496
      · have e1 : (r + 1) / 4503599627370496 = e + 1 := by omega
        have e2 : (r + 1) % 4503599627370496 = r % 4503599627370496 + 1 := by omega
        rw [e1, e2, he]
        exact Nat.mul_lt_mul_of_pos_right (by omega) (Nat.two_pow_pos _)
      · have e1 : (r + 1) / 4503599627370496 = e + 2 := by omega
        have e2 : (r + 1) % 4503599627370496 = 0 := by omega
        rw [e1, e2, he, show e + 2 - 1 = e + 1 by omega, show e + 1 - 1 = e by omega, Nat.pow_succ]
        have hp := Nat.two_pow_pos e
        have : (4503599627370496 + 0) * (2 ^ e * 2) = 9007199254740992 * 2 ^ e := by omega
        rw [this]
        exact Nat.mul_lt_mul_of_pos_right (by omega) hp
theorem mag_lt {r s : Nat} (h : r < s) : mag r < mag s := by
  induction s with
  | zero => omega
  | succ s ih =>
    rcases Nat.lt_or_ge r s with h1 | h1
    · exact Nat.lt_trans (ih h1) (mag_step s)
    · have : r = s := by omega
      subst this; exact mag_step r
theorem mag_lt_iff (r s : Nat) : mag r < mag s ↔ r < s := by
  constructor
  · intro h
    rcases Nat.lt_trichotomy r s with h1 | h1 | h1
    · exact h1
    · subst h1; omega
    · have := mag_lt h1; omega
  · exact mag_lt
theorem mag_eq_iff (r s : Nat) : mag r = mag s ↔ r = s := by
  constructor
  · intro h
    rcases Nat.lt_trichotomy r s with h1 | h1 | h1
    · have := mag_lt h1; omega
    · exact h1
    · have := mag_lt h1; omega
  · intro h; rw [h]
theorem mag_zero : mag 0 = 0 := rfl

theorem cmp_congr {a b c d : Int} (h1 : a < b ↔ c < d) (h2 : a = b ↔ c = d) : compare a b = compare c d := by
  show compareOfLessAndEq a b = compareOfLessAndEq c d
  unfold compareOfLessAndEq
  by_cases k1 : c < d
  · rw [if_pos (h1.2 k1), if_pos k1]
  · rw [if_neg (fun h => k1 (h1.1 h)), if_neg k1]
    by_cases k2 : c = d
    · rw [if_pos (h2.2 k2), if_pos k2]
    · rw [if_neg (fun h => k2 (h2.1 h)), if_neg k2]
theorem sg_cmp (s t : Bool) (r q : Nat) : compare (sg s (mag r)) (sg t (mag q)) = compare (sg s r) (sg t q) := by
  have l1 := mag_lt_iff r q
  have l2 := mag_lt_iff q r
  have l3 := mag_eq_iff r q
  have z1 := mag_eq_iff r 0
  have z2 := mag_eq_iff q 0
  rw [mag_zero] at z1 z2
  generalize mag r = a at *
  generalize mag q = b at *
  cases s <;> cases t <;> unfold sg <;> apply cmp_congr <;> simp <;> omega
theorem scale_cmp (a b : Int) (k : Nat) : compare (a * 2 ^ k) (b * 2 ^ k) = compare a b := by
  have hp : (0 : Int) < 2 ^ k := Int.pow_pos (by decide)
  apply cmp_congr
  · exact ⟨fun h => Int.lt_of_mul_lt_mul_right h (Int.le_of_lt hp), fun h => Int.mul_lt_mul_of_pos_right h hp⟩
  · exact ⟨fun h => Int.eq_of_mul_eq_mul_right (Int.ne_of_gt hp) h, fun h => by rw [h]⟩
theorem signed_sg (s : Bool) (m k : Nat) : signed s m k = sg s (m * 2 ^ k) := by
  unfold signed sg
  rw [Nat.shiftLeft_eq]
theorem sg_scale (s : Bool) (m k : Nat) : sg s (m * 2 ^ k) = sg s m * 2 ^ k := by
  unfold sg
  have e : ((m * 2 ^ k : Nat) : Int) = (m : Int) * 2 ^ k := by rw [Int.natCast_mul, Int.natCast_pow]; rfl
  cases s
  · simp [e]
  · simp only [if_true, e, Int.neg_mul]

/-- a number of the format: as units of its least place -/
theorem order_number (s t : Bool) (m n p q : Nat) : (Datum.number s m (-1074 + (p : Int))).order (.number t n (-1074 + (q : Int))) = some (compare (sg s (m * 2 ^ p)) (sg t (n * 2 ^ q))) := by
  unfold Datum.order
  simp only [signed_sg]
  congr 1
  rcases Nat.le_total p q with h | h
  · have e1 : min (-1074 + (p : Int)) (-1074 + (q : Int)) = -1074 + p := by omega
    rw [e1]
    have e2 : (-1074 + (p : Int) - (-1074 + p)).toNat = 0 := by omega
    have e3 : (-1074 + (q : Int) - (-1074 + p)).toNat = q - p := by omega
    rw [e2, e3, ← scale_cmp _ _ p, ← sg_scale, ← sg_scale, Nat.pow_zero, Nat.mul_one, Nat.mul_assoc, ← Nat.pow_add, show q - p + p = q by omega]
  · have e1 : min (-1074 + (p : Int)) (-1074 + (q : Int)) = -1074 + q := by omega
    rw [e1]
    have e2 : (-1074 + (p : Int) - (-1074 + q)).toNat = p - q := by omega
    have e3 : (-1074 + (q : Int) - (-1074 + q)).toNat = 0 := by omega
    rw [e2, e3, ← scale_cmp _ _ q, ← sg_scale, ← sg_scale, Nat.pow_zero, Nat.mul_one, Nat.mul_assoc, ← Nat.pow_add, show p - q + q = p by omega]

theorem read_number {x : Nat} (h : rung x < 9218868437227405312) : ∃ m p : Nat, double.read x = .number (ngv x) m (-1074 + (p : Int)) ∧ m * 2 ^ p = mag (rung x) := by
  have c1 : double.signWeight = 9223372036854775808 := by decide
  have c2 : double.binade = 4503599627370496 := by decide
  have c3 : double.infRung = 9218868437227405312 := by decide
  have c4 : double.leastPlace = -1074 := by decide
  unfold Format.read
  simp only [c1, c2, c3, c4]
  unfold rung at h
  by_cases h1 : x % 9223372036854775808 < 4503599627370496
  · refine ⟨x % 9223372036854775808, 0, ?_, ?_⟩
    · rw [if_pos h1]; rfl
    · unfold mag rung; rw [if_pos h1]; simp
  · refine ⟨4503599627370496 + x % 9223372036854775808 % 4503599627370496, x % 9223372036854775808 / 4503599627370496 - 1, ?_, ?_⟩
    · rw [if_neg h1, if_pos h]; rfl
    · unfold mag rung; rw [if_neg h1]
theorem read_inf {x : Nat} (h : rung x = 9218868437227405312) : double.read x = .infinity (ngv x) := by
  have c1 : double.signWeight = 9223372036854775808 := by decide
  have c2 : double.binade = 4503599627370496 := by decide
  have c3 : double.infRung = 9218868437227405312 := by decide
  unfold Format.read
  unfold rung at h
  simp only [c1, c2, c3]
  rw [if_neg (by omega), if_neg (by omega), if_pos h]; rfl
theorem read_nan {x : Nat} (h : 9218868437227405312 < rung x) : ∃ f, double.read x = .nan (ngv x) f := by
  have c1 : double.signWeight = 9223372036854775808 := by decide
  have c2 : double.binade = 4503599627370496 := by decide
  have c3 : double.infRung = 9218868437227405312 := by decide
  unfold Format.read
  unfold rung at h
  simp only [c1, c2, c3]
  rw [if_neg (by omega), if_neg (by omega), if_neg (by omega)]
  exact ⟨_, rfl⟩

theorem order_nan {x y : Nat} (h : nan64 x = true ∨ nan64 y = true) : double.order x y = none := by
  unfold Format.order
  unfold nan64 at h
  simp only [decide_eq_true_eq] at h
  rcases h with h | h
  · obtain ⟨f, e⟩ := read_nan h
    rw [e]; rfl
  · obtain ⟨f, e⟩ := read_nan h
    rw [e]
    cases double.read x <;> rfl
/-- THE ORDER OF TWO FLOATS, neither of them NaN, IS THE ORDER OF THEIR SIGNED RUNGS -/
theorem order_sr {x y : Nat} (hx : nan64 x = false) (hy : nan64 y = false) : double.order x y = some (compare (sr x) (sr y)) := by
  unfold nan64 at hx hy
  simp only [decide_eq_false_iff_not, Nat.not_lt] at hx hy
  have hx' : rung x ≤ 9218868437227405312 := hx
  have hy' : rung y ≤ 9218868437227405312 := hy
  unfold Format.order sr
  rcases Nat.lt_or_ge (rung x) 9218868437227405312 with k1 | k1
  · obtain ⟨m, p, e1, f1⟩ := read_number k1
    rcases Nat.lt_or_ge (rung y) 9218868437227405312 with k2 | k2
    · obtain ⟨n, q, e2, f2⟩ := read_number k2
      rw [e1, e2, order_number, f1, f2, sg_cmp]
    · rw [e1, read_inf (by omega : rung y = 9218868437227405312)]
      have e : rung y = 9218868437227405312 := by omega
      rw [e]
      show some (if ngv y then Ordering.gt else .lt) = _
      congr 1
      generalize rung x = r at *
      have hlt : ∀ a b : Int, a < b → Ordering.lt = compare a b := fun a b h => by
        show _ = compareOfLessAndEq a b
        unfold compareOfLessAndEq; rw [if_pos h]
      have hgt : ∀ a b : Int, b < a → Ordering.gt = compare a b := fun a b h => by
        show _ = compareOfLessAndEq a b
        unfold compareOfLessAndEq; rw [if_neg (by omega), if_neg (by omega)]
      cases ngv y <;> cases ngv x <;> unfold sg <;> simp only [if_true, Bool.false_eq_true, if_false]
      · exact hlt _ _ (by omega)
      · exact hlt _ _ (by omega)
      · exact hgt _ _ (by omega)
      · exact hgt _ _ (by omega)
  · have ex : rung x = 9218868437227405312 := by omega
    rw [read_inf ex]
    rcases Nat.lt_or_ge (rung y) 9218868437227405312 with k2 | k2
    · obtain ⟨n, q, e2, f2⟩ := read_number k2
      rw [e2, ex]
      show some (if ngv x then Ordering.lt else .gt) = _
      congr 1
      generalize rung y = r at *
      have hlt : ∀ a b : Int, a < b → Ordering.lt = compare a b := fun a b h => by
        show _ = compareOfLessAndEq a b
        unfold compareOfLessAndEq; rw [if_pos h]
      have hgt : ∀ a b : Int, b < a → Ordering.gt = compare a b := fun a b h => by
        show _ = compareOfLessAndEq a b
        unfold compareOfLessAndEq; rw [if_neg (by omega), if_neg (by omega)]
      cases ngv x <;> cases ngv y <;> unfold sg <;> simp only [if_true, Bool.false_eq_true, if_false]
      · exact hgt _ _ (by omega)
      · exact hgt _ _ (by omega)
      · exact hlt _ _ (by omega)
      · exact hlt _ _ (by omega)
    · have ey : rung y = 9218868437227405312 := by omega
      rw [read_inf ey, ex, ey]
      cases ngv x <;> cases ngv y <;> decide

/-- a float's bits, all NaNs as one; its key -/
def bits64 (x : Nat) : Nat := if nan64 x then 9221120237041090561 else x
def key (x : Nat) : Nat := if bits64 x < 9223372036854775808 then bits64 x + 9223372036854775808 else 18446744073709551615 - bits64 x
theorem bits64_lt {x : Nat} (h : x < 18446744073709551616) : bits64 x < 18446744073709551616 := by unfold bits64; split <;> omega
theorem key_lt {x : Nat} (h : x < 18446744073709551616) : key x < 18446744073709551616 := by
  have := bits64_lt h
  unfold key; split <;> omega
theorem bits_of_key {x y : Nat} (hx : x < 18446744073709551616) (hy : y < 18446744073709551616) : key x = key y ↔ bits64 x = bits64 y := by
  have h1 := bits64_lt hx
  have h2 := bits64_lt hy
  unfold key
  generalize bits64 x = a at *
  generalize bits64 y = b at *
  constructor
  · intro h
    split at h <;> split at h <;> omega
  · intro h; rw [h]
theorem nan_bits (x : Nat) : nan64 (bits64 x) = nan64 x := by
  unfold bits64
  by_cases h : nan64 x = true
  · rw [if_pos h, h]; decide
  · rw [if_neg h]
theorem bits_nan {x y : Nat} (h : bits64 x = bits64 y) : nan64 x = nan64 y := by rw [← nan_bits x, ← nan_bits y, h]
theorem bits_num {x : Nat} (h : nan64 x = false) : bits64 x = x := by unfold bits64; rw [if_neg (by rw [h]; decide)]
theorem bits_nan1 {x : Nat} (h : nan64 x = true) : bits64 x = 9221120237041090561 := by unfold bits64; rw [if_pos h]
/-- NaN's key stands above all others -/
theorem key_nan {x : Nat} (h : nan64 x = true) : key x = 18444492273895866369 := by unfold key; rw [bits_nan1 h]; decide
theorem key_num_lt {x : Nat} (hx : x < 18446744073709551616) (h : nan64 x = false) : key x < 18444492273895866369 := by
  unfold key; rw [bits_num h]
  unfold nan64 at h
  simp only [decide_eq_false_iff_not, Nat.not_lt] at h
  split <;> omega
theorem key_sr {x : Nat} (hx : x < 18446744073709551616) (h : nan64 x = false) : (key x : Int) = if ngv x then 9223372036854775807 + sr x else 9223372036854775808 + sr x := by
  unfold key; rw [bits_num h]
  unfold sr sg ngv rung
  by_cases k : x < 9223372036854775808
  · have e : (x / 9223372036854775808 % 2 == 1) = false := by simp; omega
    rw [if_pos k, e]; simp; omega
  · have e : (x / 9223372036854775808 % 2 == 1) = true := by simp; omega
    rw [if_neg k, e]; simp; omega
theorem sr_neg {x : Nat} : ngv x = true → sr x ≤ 0 := by intro h; unfold sr sg; rw [h]; simp <;> omega
theorem sr_pos {x : Nat} : ngv x = false → 0 ≤ sr x := by intro h; unfold sr sg; rw [h]; simp
/-- the keys' order fits the language's, where neither is NaN and not both are noughts -/
theorem key_cmp {x y : Nat} (hx : x < 18446744073709551616) (hy : y < 18446744073709551616) (nx : nan64 x = false) (ny : nan64 y = false) (hz : ¬ (sr x = 0 ∧ sr y = 0)) : double.order x y = some (compare (key x : Int) (key y : Int)) := by
  rw [order_sr nx ny, key_sr hx nx, key_sr hy ny]
  congr 1
  have a1 := @sr_neg x
  have a2 := @sr_pos x
  have b1 := @sr_neg y
  have b2 := @sr_pos y
  generalize sr x = a at *
  generalize sr y = b at *
  cases hs : ngv x <;> cases ht : ngv y <;> rw [hs] at a1 a2 <;> rw [ht] at b1 b2 <;> apply cmp_congr <;> simp at * <;> omega
theorem order_self (x : Nat) : double.order x x = if nan64 x then none else some .eq := by
  by_cases h : nan64 x = true
  · rw [order_nan (Or.inl h), if_pos h]
  · have h' : nan64 x = false := by simpa using h
    rw [order_sr h' h', if_neg h]
    congr 1
    show compareOfLessAndEq _ _ = _
    unfold compareOfLessAndEq; rw [if_neg (by omega), if_pos rfl]
/-- x == 0 -/
theorem order_zero (x : Nat) : (double.order x 0 == some .eq) = (!nan64 x && decide (sr x = 0)) := by
  by_cases h : nan64 x = true
  · rw [order_nan (Or.inl h), h]; rfl
  · have h' : nan64 x = false := by simpa using h
    have z : sr 0 = 0 := by decide
    rw [order_sr h' (by decide), h', z]
    show (some (compareOfLessAndEq (sr x) 0) == some Ordering.eq) = _
    unfold compareOfLessAndEq
    rcases Int.lt_trichotomy (sr x) 0 with k | k | k
    · rw [if_pos k]; simp; omega
    · rw [if_neg (by omega), if_pos k]; simp [k]
    · rw [if_neg (by omega), if_neg (by omega)]; simp; omega
end Go.Proofs.Yteghhmnkdmehbaa
