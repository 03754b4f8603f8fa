/- Plain facts on floats of 64 bits: the order of IEEE 754 is the order of the signed rungs. Plain facts on the sums, differences, products and quotients of floats: what they give, all NaNs as one. Worth, the program's and the document's. The program's Encode, Bound, Pack and Unpack. The program's Pack and Unpack. Contracts of the functions on numbers and bytes: each returns what the plain function of the same shape reckons, and memory stands. A variable of several cells. Contracts of Make, Good, More and Crc: the table lies in a block of 256 cells. -/
import Derived.WalkKit
import Derived.Laws.FloatArith
import Derived.Deep.Draws
import Derived.Test.YtkkigpobhagnfaaProg
import Derived.WalkLawsBesides
import Derived.Laws.Externs
import Derived.Laws.BitsAllLaws
import Derived.Deep.QuietTactic
import Derived.BigQuiet
import Derived.Deep.WholeRow
import Derived.Deep.DeepCutAuto
import Derived.Test.YtkkigpobhagnfaaK01
import Derived.Test.YtkkigpobhagnfaaK08
namespace Go.Proofs.Ytkkigpobhagnfaa
open Ieee
def nan64 (x : Nat) : Bool := decide (9218868437227405312 < x % 9223372036854775808)
def ngv (x : Nat) : Bool := x / 9223372036854775808 % 2 == 1
def rung (x : Nat) : Nat := x % 9223372036854775808
def sg (s : Bool) (n : Nat) : Int := if s then -(n : Int) else n
/-- the signed rung -/
def sr (x : Nat) : Int := sg (ngv x) (rung x)
def mag (r : Nat) : Nat := if r < 4503599627370496 then r else (4503599627370496 + r % 4503599627370496) * 2 ^ (r / 4503599627370496 - 1)

theorem mag_step (r : Nat) : mag r < mag (r + 1) := by
 unfold mag
 by_cases h1 : r + 1 < 4503599627370496
 ·rw [if_pos h1, if_pos (by omega)]; omega
 ·rw [if_neg h1]
  by_cases h2 : r < 4503599627370496
  ·have e : r = 4503599627370495 := by omega
   subst e; decide
  ·rw [if_neg h2]
   have hq : 1 ≤ r / 4503599627370496 := by omega
   obtain ⟨e, he⟩ : ∃ e, r / 4503599627370496 = e + 1 := ⟨r / 4503599627370496 - 1, by omega⟩
   by_cases h3 : r % 4503599627370496 + 1 < 4503599627370496
   ·have e1 : (r + 1) / 4503599627370496 = e + 1 := by omega
    have e2 : (r + 1) % 4503599627370496 = r % 4503599627370496 + 1 := by omega
    rw [e1, e2, he]
    exact Nat.mul_lt_mul_of_pos_right (by omega) (Nat.two_pow_pos _)
   ·have e1 : (r + 1) / 4503599627370496 = e + 2 := by omega
    have e2 : (r + 1) % 4503599627370496 = 0 := by omega
    rw [e1, e2, he, show e + 2 - 1 = e + 1 by omega, show e + 1 - 1 = e by omega, Nat.pow_succ]
    have hp := Nat.two_pow_pos e
    have : (4503599627370496 + 0) * (2 ^ e * 2) = 9007199254740992 * 2 ^ e := by omega
    rw [this]
    exact Nat.mul_lt_mul_of_pos_right (by omega) hp
theorem mag_lt {r s : Nat} (h : r < s) : mag r < mag s := by
 induction s with
 | zero => omega
 | succ s ih =>
  rcases Nat.lt_or_ge r s with h1 | h1
  ·exact Nat.lt_trans (ih h1) (mag_step s)
  ·have : r = s := by omega
   subst this; exact mag_step r
theorem mag_lt_iff (r s : Nat) : mag r < mag s ↔ r < s := by
 constructor
 ·intro h
  rcases Nat.lt_trichotomy r s with h1 | h1 | h1
  ·exact h1
  ·subst h1; omega
  ·have := mag_lt h1; omega
 ·exact mag_lt
theorem mag_eq_iff (r s : Nat) : mag r = mag s ↔ r = s := by
 constructor
 ·intro h
  rcases Nat.lt_trichotomy r s with h1 | h1 | h1
  ·have := mag_lt h1; omega
  ·exact h1
  ·have := mag_lt h1; omega
 ·intro h; rw [h]
theorem mag_zero : mag 0 = 0 := rfl

theorem cmp_congr {a b c d : Int} (h1 : a < b ↔ c < d) (h2 : a = b ↔ c = d) : compare a b = compare c d := by
 show compareOfLessAndEq a b = compareOfLessAndEq c d
 unfold compareOfLessAndEq
 by_cases k1 : c < d
 ·rw [if_pos (h1.2 k1), if_pos k1]
 ·rw [if_neg (fun h => k1 (h1.1 h)), if_neg k1]
  by_cases k2 : c = d
  ·rw [if_pos (h2.2 k2), if_pos k2]
  ·rw [if_neg (fun h => k2 (h2.1 h)), if_neg k2]
theorem sg_cmp (s t : Bool) (r q : Nat) : compare (sg s (mag r)) (sg t (mag q)) = compare (sg s r) (sg t q) := by
 have l1 := mag_lt_iff r q
 have l2 := mag_lt_iff q r
 have l3 := mag_eq_iff r q
 have z1 := mag_eq_iff r 0
 have z2 := mag_eq_iff q 0
 rw [mag_zero] at z1 z2
 generalize mag r = a at *
 generalize mag q = b at *
 cases s <;> cases t <;> unfold sg <;> apply cmp_congr <;> simp <;> omega
theorem scale_cmp (a b : Int) (k : Nat) : compare (a * 2 ^ k) (b * 2 ^ k) = compare a b := by
 have hp : (0 : Int) < 2 ^ k := Int.pow_pos (by decide)
 apply cmp_congr
 ·exact ⟨fun h => Int.lt_of_mul_lt_mul_right h (Int.le_of_lt hp), fun h => Int.mul_lt_mul_of_pos_right h hp⟩
 ·exact ⟨fun h => Int.eq_of_mul_eq_mul_right (Int.ne_of_gt hp) h, fun h => by rw [h]⟩
theorem signed_sg (s : Bool) (m k : Nat) : signed s m k = sg s (m * 2 ^ k) := by
 unfold signed sg
 rw [Nat.shiftLeft_eq]
theorem sg_scale (s : Bool) (m k : Nat) : sg s (m * 2 ^ k) = sg s m * 2 ^ k := by
 unfold sg
 have e : ((m * 2 ^ k : Nat) : Int) = (m : Int) * 2 ^ k := by rw [Int.natCast_mul, Int.natCast_pow]; rfl
 cases s
 ·simp [e]
 ·simp only [if_true, e, Int.neg_mul]

/-- a number of the format: as units of its least place -/
theorem order_number (s t : Bool) (m n p q : Nat) : (Datum.number s m (-1074 + (p : Int))).order (.number t n (-1074 + (q : Int))) = some (compare (sg s (m * 2 ^ p)) (sg t (n * 2 ^ q))) := by
 unfold Datum.order
 simp only [signed_sg]
 congr 1
 rcases Nat.le_total p q with h | h
 ·have e1 : min (-1074 + (p : Int)) (-1074 + (q : Int)) = -1074 + p := by omega
  rw [e1]
  have e2 : (-1074 + (p : Int) - (-1074 + p)).toNat = 0 := by omega
  have e3 : (-1074 + (q : Int) - (-1074 + p)).toNat = q - p := by omega
  rw [e2, e3, ← scale_cmp _ _ p, ← sg_scale, ← sg_scale, Nat.pow_zero, Nat.mul_one, Nat.mul_assoc, ← Nat.pow_add, show q - p + p = q by omega]
 ·have e1 : min (-1074 + (p : Int)) (-1074 + (q : Int)) = -1074 + q := by omega
  rw [e1]
  have e2 : (-1074 + (p : Int) - (-1074 + q)).toNat = p - q := by omega
  have e3 : (-1074 + (q : Int) - (-1074 + q)).toNat = 0 := by omega
  rw [e2, e3, ← scale_cmp _ _ q, ← sg_scale, ← sg_scale, Nat.pow_zero, Nat.mul_one, Nat.mul_assoc, ← Nat.pow_add, show p - q + q = p by omega]

theorem read_number {x : Nat} (h : rung x < 9218868437227405312) : ∃ m p : Nat, double.read x = .number (ngv x) m (-1074 + (p : Int)) ∧ m * 2 ^ p = mag (rung x) := by
 have c1 : double.signWeight = 9223372036854775808 := by decide
 have c2 : double.binade = 4503599627370496 := by decide
 have c3 : double.infRung = 9218868437227405312 := by decide
 have c4 : double.leastPlace = -1074 := by decide
 unfold Format.read
 simp only [c1, c2, c3, c4]
 unfold rung at h
 by_cases h1 : x % 9223372036854775808 < 4503599627370496
 ·refine ⟨x % 9223372036854775808, 0, ?_, ?_⟩
  ·rw [if_pos h1]; rfl
  ·unfold mag rung; rw [if_pos h1]; simp
 ·refine ⟨4503599627370496 + x % 9223372036854775808 % 4503599627370496, x % 9223372036854775808 / 4503599627370496 - 1, ?_, ?_⟩
  ·rw [if_neg h1, if_pos h]; rfl
  ·unfold mag rung; rw [if_neg h1]
theorem read_inf {x : Nat} (h : rung x = 9218868437227405312) : double.read x = .infinity (ngv x) := by
 have c1 : double.signWeight = 9223372036854775808 := by decide
 have c2 : double.binade = 4503599627370496 := by decide
 have c3 : double.infRung = 9218868437227405312 := by decide
 unfold Format.read
 unfold rung at h
 simp only [c1, c2, c3]
 rw [if_neg (by omega), if_neg (by omega), if_pos h]; rfl
theorem read_nan {x : Nat} (h : 9218868437227405312 < rung x) : ∃ f, double.read x = .nan (ngv x) f := by
 have c1 : double.signWeight = 9223372036854775808 := by decide
 have c2 : double.binade = 4503599627370496 := by decide
 have c3 : double.infRung = 9218868437227405312 := by decide
 unfold Format.read
 unfold rung at h
 simp only [c1, c2, c3]
 rw [if_neg (by omega), if_neg (by omega), if_neg (by omega)]
 exact ⟨_, rfl⟩

theorem order_nan {x y : Nat} (h : nan64 x = true ∨ nan64 y = true) : double.order x y = none := by
 unfold Format.order
 unfold nan64 at h
 simp only [decide_eq_true_eq] at h
 rcases h with h | h
 ·obtain ⟨f, e⟩ := read_nan h
  rw [e]; rfl
 ·obtain ⟨f, e⟩ := read_nan h
  rw [e]
  cases double.read x <;> rfl
/-- THE ORDER OF TWO FLOATS, neither of them NaN, IS THE ORDER OF THEIR SIGNED RUNGS -/
theorem order_sr {x y : Nat} (hx : nan64 x = false) (hy : nan64 y = false) : double.order x y = some (compare (sr x) (sr y)) := by
 unfold nan64 at hx hy
 simp only [decide_eq_false_iff_not, Nat.not_lt] at hx hy
 have hx' : rung x ≤ 9218868437227405312 := hx
 have hy' : rung y ≤ 9218868437227405312 := hy
 unfold Format.order sr
 rcases Nat.lt_or_ge (rung x) 9218868437227405312 with k1 | k1
 ·obtain ⟨m, p, e1, f1⟩ := read_number k1
  rcases Nat.lt_or_ge (rung y) 9218868437227405312 with k2 | k2
  ·obtain ⟨n, q, e2, f2⟩ := read_number k2
   rw [e1, e2, order_number, f1, f2, sg_cmp]
  ·rw [e1, read_inf (by omega : rung y = 9218868437227405312)]
   have e : rung y = 9218868437227405312 := by omega
   rw [e]
   show some (if ngv y then Ordering.gt else .lt) = _
   congr 1
   generalize rung x = r at *
   have hlt : ∀ a b : Int, a < b → Ordering.lt = compare a b := fun a b h => by
    show _ = compareOfLessAndEq a b
    unfold compareOfLessAndEq; rw [if_pos h]
   have hgt : ∀ a b : Int, b < a → Ordering.gt = compare a b := fun a b h => by
    show _ = compareOfLessAndEq a b
    unfold compareOfLessAndEq; rw [if_neg (by omega), if_neg (by omega)]
   cases ngv y <;> cases ngv x <;> unfold sg <;> simp only [if_true, Bool.false_eq_true, if_false]
   ·exact hlt _ _ (by omega)
   ·exact hlt _ _ (by omega)
   ·exact hgt _ _ (by omega)
   ·exact hgt _ _ (by omega)
 ·have ex : rung x = 9218868437227405312 := by omega
  rw [read_inf ex]
  rcases Nat.lt_or_ge (rung y) 9218868437227405312 with k2 | k2
  ·obtain ⟨n, q, e2, f2⟩ := read_number k2
   rw [e2, ex]
   show some (if ngv x then Ordering.lt else .gt) = _
   congr 1
   generalize rung y = r at *
   have hlt : ∀ a b : Int, a < b → Ordering.lt = compare a b := fun a b h => by
    show _ = compareOfLessAndEq a b
    unfold compareOfLessAndEq; rw [if_pos h]
   have hgt : ∀ a b : Int, b < a → Ordering.gt = compare a b := fun a b h => by
    show _ = compareOfLessAndEq a b
    unfold compareOfLessAndEq; rw [if_neg (by omega), if_neg (by omega)]
   cases ngv x <;> cases ngv y <;> unfold sg <;> simp only [if_true, Bool.false_eq_true, if_false]
   ·exact hgt _ _ (by omega)
   ·exact hgt _ _ (by omega)
   ·exact hlt _ _ (by omega)
   ·exact hlt _ _ (by omega)
  ·have ey : rung y = 9218868437227405312 := by omega
   rw [read_inf ey, ex, ey]
   cases ngv x <;> cases ngv y <;> decide

/-- a float's bits, all NaNs as one; its key -/
def bits64 (x : Nat) : Nat := if nan64 x then 9221120237041090561 else x
def key (x : Nat) : Nat := if bits64 x < 9223372036854775808 then bits64 x + 9223372036854775808 else 18446744073709551615 - bits64 x
theorem bits64_lt {x : Nat} (h : x < 18446744073709551616) : bits64 x < 18446744073709551616 := by unfold bits64; split <;> omega
theorem key_lt {x : Nat} (h : x < 18446744073709551616) : key x < 18446744073709551616 := by
 have := bits64_lt h
 unfold key; split <;> omega
theorem bits_of_key {x y : Nat} (hx : x < 18446744073709551616) (hy : y < 18446744073709551616) : key x = key y ↔ bits64 x = bits64 y := by
 have h1 := bits64_lt hx
 have h2 := bits64_lt hy
 unfold key
 generalize bits64 x = a at *
 generalize bits64 y = b at *
 constructor
 ·intro h
  split at h <;> split at h <;> omega
 ·intro h; rw [h]
theorem nan_bits (x : Nat) : nan64 (bits64 x) = nan64 x := by
 unfold bits64
 by_cases h : nan64 x = true
 ·rw [if_pos h, h]; decide
 ·rw [if_neg h]
theorem bits_nan {x y : Nat} (h : bits64 x = bits64 y) : nan64 x = nan64 y := by rw [← nan_bits x, ← nan_bits y, h]
theorem bits_num {x : Nat} (h : nan64 x = false) : bits64 x = x := by unfold bits64; rw [if_neg (by rw [h]; decide)]
theorem bits_nan1 {x : Nat} (h : nan64 x = true) : bits64 x = 9221120237041090561 := by unfold bits64; rw [if_pos h]
/-- NaN's key stands above all others -/
theorem key_nan {x : Nat} (h : nan64 x = true) : key x = 18444492273895866369 := by unfold key; rw [bits_nan1 h]; decide
theorem key_num_lt {x : Nat} (hx : x < 18446744073709551616) (h : nan64 x = false) : key x < 18444492273895866369 := by
 unfold key; rw [bits_num h]
 unfold nan64 at h
 simp only [decide_eq_false_iff_not, Nat.not_lt] at h
 split <;> omega
theorem key_sr {x : Nat} (hx : x < 18446744073709551616) (h : nan64 x = false) : (key x : Int) = if ngv x then 9223372036854775807 + sr x else 9223372036854775808 + sr x := by
 unfold key; rw [bits_num h]
 unfold sr sg ngv rung
 by_cases k : x < 9223372036854775808
 ·have e : (x / 9223372036854775808 % 2 == 1) = false := by simp; omega
  rw [if_pos k, e]; simp; omega
 ·have e : (x / 9223372036854775808 % 2 == 1) = true := by simp; omega
  rw [if_neg k, e]; simp; omega
theorem sr_neg {x : Nat} : ngv x = true → sr x ≤ 0 := by intro h; unfold sr sg; rw [h]; simp <;> omega
theorem sr_pos {x : Nat} : ngv x = false → 0 ≤ sr x := by intro h; unfold sr sg; rw [h]; simp
/-- the keys' order fits the language's, where neither is NaN and not both are noughts -/
theorem key_cmp {x y : Nat} (hx : x < 18446744073709551616) (hy : y < 18446744073709551616) (nx : nan64 x = false) (ny : nan64 y = false) (hz : ¬ (sr x = 0 ∧ sr y = 0)) : double.order x y = some (compare (key x : Int) (key y : Int)) := by
 rw [order_sr nx ny, key_sr hx nx, key_sr hy ny]
 congr 1
 have a1 := @sr_neg x
 have a2 := @sr_pos x
 have b1 := @sr_neg y
 have b2 := @sr_pos y
 generalize sr x = a at *
 generalize sr y = b at *
 cases hs : ngv x <;> cases ht : ngv y <;> rw [hs] at a1 a2 <;> rw [ht] at b1 b2 <;> apply cmp_congr <;> simp at * <;> omega
theorem order_self (x : Nat) : double.order x x = if nan64 x then none else some .eq := by
 by_cases h : nan64 x = true
 ·rw [order_nan (Or.inl h), if_pos h]
 ·have h' : nan64 x = false := by simpa using h
  rw [order_sr h' h', if_neg h]
  congr 1
  show compareOfLessAndEq _ _ = _
  unfold compareOfLessAndEq; rw [if_neg (by omega), if_pos rfl]
/-- x == 0 -/
theorem order_zero (x : Nat) : (double.order x 0 == some .eq) = (!nan64 x && decide (sr x = 0)) := by
 by_cases h : nan64 x = true
 ·rw [order_nan (Or.inl h), h]; rfl
 ·have h' : nan64 x = false := by simpa using h
  have z : sr 0 = 0 := by decide
  rw [order_sr h' (by decide), h', z]
  show (some (compareOfLessAndEq (sr x) 0) == some Ordering.eq) = _
  unfold compareOfLessAndEq
  rcases Int.lt_trichotomy (sr x) 0 with k | k | k
  ·rw [if_pos k]; simp; omega
  ·rw [if_neg (by omega), if_pos k]; simp [k]
  ·rw [if_neg (by omega), if_neg (by omega)]; simp; omega
theorem word_nan (s : Bool) {r : Nat} (h : r ≤ 9218868437227405312) : nan64 (double.word s r) = false := by
 have c1 : double.signWeight = 9223372036854775808 := by decide
 unfold nan64 Format.word
 rw [c1]
 simp only [decide_eq_false_iff_not, Nat.not_lt]
 cases s
 ·simp only [Bool.false_eq_true, if_false]; omega
 ·simp only [if_true]; omega
theorem nearest_nan (s : Bool) (m : Nat) (p : Int) : nan64 (double.nearest s m p) = false := by
 have c3 : double.infRung = 9218868437227405312 := by decide
 unfold Format.nearest
 split
 ·exact word_nan s (by decide)
 ·exact word_nan s (by rw [c3]; exact Nat.min_le_right _ _)
theorem write_nan {d : Datum} (h : d.isNaN = false) : nan64 (double.write d) = false := by
 have c3 : double.infRung = 9218868437227405312 := by decide
 cases d with
 | number s m p => exact nearest_nan s m p
 | infinity s => exact word_nan s (by rw [c3]; exact Nat.le_refl _)
 | nan s f => cases h
theorem sum_num {a b d : Datum} (h : a.sum b = some d) : d.isNaN = false := by
 cases a <;> cases b <;> simp only [Datum.sum] at h <;> first | (cases h; done) | skip
 all_goals first | (cases h; rfl) | (split at h <;> cases h <;> rfl)
theorem product_num {a b d : Datum} (h : a.product b = some d) : d.isNaN = false := by
 cases a <;> cases b <;> simp only [Datum.product] at h <;> first | (cases h; done) | skip
 all_goals first | (cases h; rfl) | (split at h <;> cases h <;> rfl)
theorem quotient_num {n : Nat} {a b d : Datum} (h : a.quotient n b = some d) : d.isNaN = false := by
 cases a <;> cases b <;> simp only [Datum.quotient] at h <;> first | (cases h; done) | skip
 all_goals first | (cases h; rfl) | skip
 split at h
 ·split at h <;> cases h; rfl
 ·cases h; rfl
/-- what is told is a number or an infinity -/
theorem fb_num {op : BinOp} {x y r : Nat} (h : floatBits op .f64 x y = some r) : nan64 r = false := by
 unfold floatBits at h
 split at h
 ·obtain ⟨d, hd, rfl⟩ := Option.map_eq_some_iff.1 h; exact write_nan (sum_num hd)
 ·obtain ⟨d, hd, rfl⟩ := Option.map_eq_some_iff.1 h; exact write_nan (sum_num hd)
 ·obtain ⟨d, hd, rfl⟩ := Option.map_eq_some_iff.1 h; exact write_nan (product_num hd)
 ·obtain ⟨d, hd, rfl⟩ := Option.map_eq_some_iff.1 h; exact write_nan (quotient_num hd)
 ·cases h
theorem fb_lt {op : BinOp} {x y r : Nat} (h : floatBits op .f64 x y = some r) : r < 18446744073709551616 := by
 have := floatBits_wf h
 simpa [Lit.wf] using this
theorem fb_nan {op : BinOp} {x y : Nat} (h : nan64 x = true ∨ nan64 y = true) : floatBits op .f64 x y = none := by
 have key : ∃ s f, double.read x = .nan s f ∨ double.read y = .nan s f := by
  unfold nan64 at h
  simp only [decide_eq_true_eq] at h
  rcases h with h | h
  ·obtain ⟨f, e⟩ := read_nan h; exact ⟨_, f, Or.inl e⟩
  ·obtain ⟨f, e⟩ := read_nan h; exact ⟨_, f, Or.inr e⟩
 obtain ⟨s, f, e⟩ := key
 unfold floatBits
 split
 ·show Option.map _ _ = _
  rcases e with e | e
  ·rw [show FloatKind.f64.format.read x = _ from e]; rfl
  ·rw [show FloatKind.f64.format.read y = _ from e]; cases FloatKind.f64.format.read x <;> rfl
 ·show Option.map _ _ = _
  rcases e with e | e
  ·rw [show FloatKind.f64.format.read x = _ from e]; rfl
  ·rw [show FloatKind.f64.format.read y = _ from e]; cases FloatKind.f64.format.read x <;> rfl
 ·show Option.map _ _ = _
  rcases e with e | e
  ·rw [show FloatKind.f64.format.read x = _ from e]; rfl
  ·rw [show FloatKind.f64.format.read y = _ from e]; cases FloatKind.f64.format.read x <;> rfl
 ·show Option.map _ _ = _
  rcases e with e | e
  ·rw [show FloatKind.f64.format.read x = _ from e]; rfl
  ·rw [show FloatKind.f64.format.read y = _ from e]; cases FloatKind.f64.format.read x <;> rfl
 ·rfl
/-- what an operation gives, all NaNs as one -/
def fop (op : BinOp) (x y : Nat) : Nat := (floatBits op .f64 x y).getD 9221120237041090561
theorem fb_bits (op : BinOp) (x y : Nat) : floatBits op .f64 (bits64 x) (bits64 y) = floatBits op .f64 x y := by
 by_cases hx : nan64 x = true
 ·rw [fb_nan (Or.inl hx), fb_nan (Or.inl (by rw [nan_bits]; exact hx))]
 ·by_cases hy : nan64 y = true
  ·rw [fb_nan (Or.inr hy), fb_nan (Or.inr (by rw [nan_bits]; exact hy))]
  ·rw [bits_num (by simpa using hx), bits_num (by simpa using hy)]
theorem fop_bits (op : BinOp) (x y : Nat) : fop op (bits64 x) (bits64 y) = fop op x y := by unfold fop; rw [fb_bits]
theorem bits_bits (x : Nat) : bits64 (bits64 x) = bits64 x := by
 by_cases h : nan64 x = true
 ·rw [bits_nan1 h]; decide
 ·rw [bits_num (x := x) (by simpa using h), bits_num (x := x) (by simpa using h)]
theorem fop_lt (op : BinOp) (x y : Nat) : fop op x y < 18446744073709551616 := by
 unfold fop
 cases h : floatBits op .f64 x y with
 | none => decide
 | some r => exact fb_lt h
theorem fop_canon (op : BinOp) (x y : Nat) : bits64 (fop op x y) = fop op x y := by
 unfold fop
 cases h : floatBits op .f64 x y with
 | none => decide
 | some r => exact bits_num (fb_num h)

theorem cut_nan (x y t : Nat) : nan64 (Question.cut (.nanBits .f64 x y) t) = true ∧ Question.cut (.nanBits .f64 x y) t < 18446744073709551616 := by
 have e : Question.cut (.nanBits .f64 x y) t = (t % 2) * 9223372036854775808 + 9218868437227405312 + 1 + (t / 2) % 4503599627370495 := rfl
 rw [e]
 unfold nan64
 simp only [decide_eq_true_eq]
 have h2 : t / 2 % 4503599627370495 < 4503599627370495 := Nat.mod_lt _ (by decide)
 generalize t / 2 % 4503599627370495 = q at *
 rcases Nat.mod_two_eq_zero_or_one t with h | h <;> rw [h] <;> omega
/-- AN OPERATION ON FLOATS, RUN: some float, which is what it is to be, all NaNs as one -/
theorem run_fop {P : Program} (op : BinOp) (hop : op = .add ∨ op = .sub ∨ op = .mul ∨ op = .quo) (t : TypeId) (x y : Nat) (w : World) :
  ∃ r n, (binOp op t (.float .f64 x) (.float .f64 y)).run P w = .ok (.float .f64 r) (w.drewN n) ∧ bits64 r = fop op x y ∧ r < 18446744073709551616 := by
 cases h : floatBits op .f64 x y with
 | some r => exact ⟨r, 0, run_float_arith w op t .f64 x y r h, by unfold fop; rw [h, bits_num (fb_num h)]; rfl, fb_lt h⟩
 | none =>
  obtain ⟨hn, hl⟩ := cut_nan x y (w.tape w.drawn (.nanBits .f64 x y))
  refine ⟨_, 1, ?_, by unfold fop; rw [h, bits_nan1 hn]; rfl, hl⟩
  unfold floatBits at h
  rcases hop with rfl | rfl | rfl | rfl <;> simp only at h <;> simp [binOp, Op.floatArith, h, Question.forced] <;> rfl
end Go.Proofs.Ytkkigpobhagnfaa
namespace Go.Proofs.Ytkkigpobhagnfaa
open Go.RowKit
set_option maxRecDepth 100000
set_option linter.unusedSimpArgs false
set_option linter.unusedVariables false
/-- the float nearest to an int -/
def foi (n : Int) : Nat := floatOfInt .f64 n
theorem foi_lt (n : Int) : foi n < 18446744073709551616 := by
 have := floatOfInt_wf .f64 n
 unfold foi
 simpa [Lit.wf] using this
theorem order_bits (x y : Nat) : Ieee.double.order x (bits64 y) = Ieee.double.order x y := by
 by_cases h : nan64 y = true
 ·rw [order_nan (Or.inr h), order_nan (Or.inr (by rw [nan_bits]; exact h))]
 ·rw [bits_num (by simpa using h)]
/-- Worth, as a plain function -/
def wrth (plain packed : Int) (limit : Nat) : Bool := Ieee.double.order (foi packed) (fop .mul (foi plain) limit) == some .lt
theorem worth_any (a b : Int) (x : Nat) (w : World) : Calls Try.prog 55 #[.int .i64 a, .int .i64 b, .float .f64 x] w fun e w' => e = .returned (.bool (wrth a b x)) ∧ ∃ n, w' = w.drewN n := by
 obtain ⟨r, n, hr, hb, hl⟩ := run_fop (P := Try.prog) .mul (by simp) 28 (foi a) x w
 unfold wrth
 rw [← hb, order_bits]
 unfold foi at *
 go_enter Try.func55, Try.ntmps55
 go_wp2
 go_ret
 exact ⟨rfl, n, rfl⟩
set_option maxHeartbeats 1000000 in
theorem clone_own (a : Option Addr) (n c : Nat) (xs : List Int) (w : World) (B : Byte w a n c xs) (hn : n ≤ 16777216) :
  Calls Try.prog 56 #[.slice a n c] w fun e w' => ∃ v, e = .returned v ∧ w'.ownsRow w.heap.size 5 1 v n (bv xs) ∧ w.grownBy w' none := by
 obtain ⟨i5, hi, hz0, hz1, hz2⟩ := info_parts Try.info5
 cases a with
 | none =>
  obtain rfl : n = 0 := by
   rcases Nat.eq_zero_or_pos n with h | h
   ·exact h
   ·obtain ⟨_, _, e, _⟩ := B.row.cells h; cases e
  obtain rfl : xs = [] := List.eq_nil_of_length_eq_zero B.row.len_eq
  have hen := eql_nil0 c
  go_enter Try.func56, Try.ntmps56
  go_wp2
  go_ret
  exact ⟨_, rfl, World.ownsRow_nil _ _ _ _, World.grownBy.refl _ _⟩
 | some p =>
  have O0 := World.ownsRow_made (base := w.heap.size) (e := 5) (size := 1) w #[] 0 (Nat.le_refl _) (Nat.zero_le _) (by simp)
  have R0 := B.row.grown (World.grownBy_alloc w (.cells #[] 5) none)
  have HB : Hid _ := B
  have hen := eql_nil p n c
  clear B
  go_enter Try.func56, Try.ntmps56
  go_wp2_with (at_builtin; refine wpList_append8 rfl _ _ 22 rfl w.heap.size i5 Try.underlying22 hi hz0 hz1 hz2 _ 0 [] rfl O0 _ n c _ rfl R0 HB.out.nil (by omega) (by simp) ?_)
  intro v1 w1 o1 g1
  have G1 : w.grownBy w1 none := grown_own (World.grownBy_alloc w (.cells #[] 5) none) O0 g1 (Nat.le_refl _)
  have H1 : Hid (w1.ownsRow w.heap.size 5 1 v1 n (bv xs) ∧ w.grownBy w1 none) := ⟨by simpa using o1, G1⟩
  clear O0 R0 o1 g1 G1
  go_wp2
  go_ret
  exact ⟨_, rfl, H1.out.1, H1.out.2⟩


theorem Sqs.grown6 {w w' : World} {ss : List SqV} {qs : List Sq} (h : Sqs w ss qs) (k : w.grownBy w' none) : Sqs w' ss qs :=
 ⟨h.1, fun i s q h1 h2 => by have j := h.2 i s q h1 h2; exact ⟨j.row.grown k, j.off, j.m, j.nil, j.nc, j.cm⟩⟩
set_option maxHeartbeats 1000000 in
theorem encode_any (a : Option Addr) (len cap : Nat) (bs : List Int) (w : World) (B : Byte w a len cap bs) (hl : len ≤ 1048576) (hq : (enc bs).length ≤ 65536) :
  Calls Try.prog 54 #[.slice a len cap] w (PJoin w (jcat (enc bs), 0)) := by
 have hs := sequences_any a len cap bs w B hl
 have E := enc_ok bs (by rw [B.row.len_eq]; exact hl)
 have hj := join_ok E.ne E.ok
 have hm := jok_mod (Int.le_refl 0) E.ok
 have HE : Hid _ := And.intro hj hm
 generalize enc bs = qs at *
 clear E hj hm B
 go_enter Try.func54, Try.ntmps54
 go_wp2_with fail
 refine hs.mono ?_
 intro e w1 h1
 obtain ⟨a1, n1, c1, ss, rfl, R1, S1, g1⟩ := h1
 have hn := R1.len_eq
 have hsl := S1.len
 have hjn := pjoin_any a1 n1 c1 ss qs w1 ⟨⟨R1, S1.grown6 g1, fun q hq => (HE.out.2 q hq).1⟩, fun q hq => by have := (HE.out.2 q hq).2; omega, by omega⟩ (by omega)
 rw [HE.out.1] at hjn
 clear hs R1 S1 HE hn hsl hq
 generalize jcat qs = J at *
 have HG : Hid _ := g1
 clear g1
 simp only
 go_wp2_with fail
 refine hjn.mono ?_
 intro e w2 h2
 obtain ⟨a2, n2, c2, rfl, B2, g2, nw2⟩ := h2
 have HNW : Hid (∀ b o, a2 = some ⟨b, o, none⟩ → w.heap.size ≤ b) := fun b o e => Nat.le_trans HG.out.size (nw2 b o e)
 have HF : Hid _ := And.intro B2 (grown_trans HG.out g2)
 clear hjn B2 g2 HG nw2
 simp only
 go_wp2
 go_ret2
 exact ⟨_, _, _, rfl, HF.out.1, HF.out.2, HNW.out⟩
theorem encode_long (a : Option Addr) (len cap : Nat) (w : World) (hl : 1048576 < len) (hm : len ≤ 9223372036854775807) :
  Calls Try.prog 54 #[.slice a len cap] w fun e w' => e = .returned (.tuple #[.slice none 0 0, .int .i64 2]) ∧ w = w' := by
 go_enter Try.func54, Try.ntmps54
 go_wp2
 go_ret2
 exact ⟨rfl, rfl⟩
/-- Pack, as a plain function -/
def pck (bs : List Int) (limit : Nat) : List Int × Bool := if wrth bs.length (jcat (enc bs)).length limit then (jcat (enc bs), true) else (bs, false)
def PkPost (w : World) (r : List Int × Bool) (e : Ending) (w' : World) : Prop := ∃ a n c, e = .returned (.tuple #[.slice a n c, .bool r.2, .int .i64 0]) ∧ Byte w' a n c r.1 ∧ w.grownBy w' none ∧ (∀ b o, a = some ⟨b, o, none⟩ → w.heap.size ≤ b)
set_option maxHeartbeats 1000000 in
theorem pack_any (a : Option Addr) (len cap : Nat) (bs : List Int) (limit : Nat) (w : World) (B : Byte w a len cap bs) (hl : len ≤ 1048576) (hq : (enc bs).length ≤ 65536) :
  Calls Try.prog 39 #[.slice a len cap, .float .f64 limit] w (PkPost w (pck bs limit)) := by
 have he := encode_any a len cap bs w B hl hq
 have hlb := B.row.len_eq
 have HB : Hid _ := B
 unfold pck
 rw [hlb]
 have HJ : Hid ((jcat (enc bs)).length ≤ 9223372036854775807) := by
  have E := enc_ok bs (by omega)
  have := jcat_le (Int.le_refl 0) (by omega) E.ok
  show (jcat (enc bs)).length ≤ _
  omega
 generalize jcat (enc bs) = J at *
 clear B hq hlb
 have hw := worth_any (len : Int) (J.length : Int) limit
 generalize wrth (len : Int) (J.length : Int) limit = p at *
 cases p with
 | true =>
  rw [if_pos rfl]
  go_enter Try.func39, Try.ntmps39
  go_wp2_with fail
  refine he.mono ?_
  intro e w1 h1
  obtain ⟨a1, n1, c1, rfl, B1, g1, nw1⟩ := h1
  have HNW : Hid _ := nw1
  clear nw1
  simp only at B1
  have hn1 := HJ.out
  rw [B1.row.len_eq] at hn1 hw
  have HG : Hid _ := And.intro B1 g1
  clear he B1 g1 HJ
  simp only
  go_wp2_with fail
  refine (hw _).mono ?_
  rintro e w2 ⟨rfl, m, rfl⟩
  have HB2 : Hid _ := HB.out.row.grown (grown_trans HG.out.2 (grown_drewN5 (World.grownBy.refl w1 none) m))
  have HF : Hid _ := And.intro (HG.out.1.row.grown (grown_drewN5 (World.grownBy.refl w1 none) m)) (grown_trans HG.out.2 (grown_drewN5 (World.grownBy.refl w1 none) m))
  have HC : Hid _ := And.intro HG.out.1.nil (And.intro HG.out.1.nc HG.out.1.cm)
  clear hw HG
  generalize w1.drewN m = w2 at *
  simp only
  go_wp2
  go_ret3
  exact ⟨_, _, _, rfl, ⟨HF.out.1, HC.out.1, HC.out.2.1, HC.out.2.2⟩, HF.out.2, HNW.out⟩
 | false =>
  rw [if_neg (by decide)]
  go_enter Try.func39, Try.ntmps39
  go_wp2_with fail
  refine he.mono ?_
  intro e w1 h1
  obtain ⟨a1, n1, c1, rfl, B1, g1, nw1⟩ := h1
  have HNW : Hid _ := nw1
  clear nw1
  simp only at B1
  have hn1 := HJ.out
  rw [B1.row.len_eq] at hn1 hw
  have HG : Hid _ := And.intro B1 g1
  clear he B1 g1 HJ
  simp only
  go_wp2_with fail
  refine (hw _).mono ?_
  rintro e w2 ⟨rfl, m, rfl⟩
  have HB2 : Hid _ := HB.out.row.grown (grown_trans HG.out.2 (grown_drewN5 (World.grownBy.refl w1 none) m))
  have HF : Hid _ := And.intro (HG.out.1.row.grown (grown_drewN5 (World.grownBy.refl w1 none) m)) (grown_trans HG.out.2 (grown_drewN5 (World.grownBy.refl w1 none) m))
  have HC : Hid _ := And.intro HG.out.1.nil (And.intro HG.out.1.nc HG.out.1.cm)
  clear hw HG
  generalize w1.drewN m = w2 at *
  simp only
  have hcl := clone_own a len cap bs w2 ⟨HB2.out, HB.out.nil, HB.out.nc, HB.out.cm⟩ (by omega)
  go_wp2_with fail
  refine hcl.mono ?_
  rintro e w3 ⟨v, rfl, o3, g3⟩
  obtain ⟨a3, c3, rfl, B3⟩ := byte_own o3 HB.out.row.byt (by unfold maxLen; omega)
  have HN3 : Hid (∀ b o, a3 = some ⟨b, o, none⟩ → w.heap.size ≤ b) := fun b o e => Nat.le_trans HF.out.2.size (owns_new14 o3 b o e)
  have HR : Hid _ := And.intro B3 (grown_trans HF.out.2 g3)
  clear hcl o3 B3 g3 HF HC HB2
  simp only
  go_wp2
  go_ret3
  exact ⟨_, _, _, rfl, HR.out.1, HR.out.2, HN3.out⟩
/-- an answer that is new memory -/
def UpPost (w : World) (r : List Int × Int) (e : Ending) (w' : World) : Prop := ∃ a n c, e = .returned (.tuple #[.slice a n c, .int .i64 r.2]) ∧ Byte w' a n c r.1 ∧ w.grownBy w' none ∧ w'.ownsRow w.heap.size 5 1 (.slice a n c) n (bv r.1)
theorem up_none {w w' : World} {er : Int} (h : w.grownBy w' none) : UpPost w ([], er) (.returned (.tuple #[.slice none 0 0, .int .i64 er])) w' :=
 ⟨none, 0, 0, rfl, ⟨Row.none0 _, fun _ => rfl, Nat.le_refl _, Nat.zero_le _⟩, h, World.ownsRow_nil _ _ _ _⟩
theorem unpk_pdec (bs : List Int) (most : Int) : unpk bs true most = ((pdec bs most).1, (pdec bs most).2.2.1) := by
 unfold unpk pdec
 split
 ·rfl
 ·rfl
set_option maxHeartbeats 1000000 in
theorem unpack6_any (a : Option Addr) (len cap : Nat) (bs : List Int) (packed : Bool) (most : Int) (w : World) (B : Byte w a len cap bs) (hl : len ≤ 16777216) (hm : -9223372036854775808 ≤ most ∧ most ≤ 9223372036854775807) :
  Calls Try.prog 49 #[.slice a len cap, .bool packed, .int .i64 most] w (UpPost w (unpk bs packed most)) := by
 have hlb := B.row.len_eq
 cases packed with
 | true =>
  have hd := pdecode_own a len cap bs most w B.row hl B.nc B.cm hm
  rw [unpk_pdec]
  generalize pdec bs most = r at *
  obtain ⟨ro, rs, re, rp⟩ := r
  clear B hlb
  go_enter Try.func49, Try.ntmps49
  go_wp2_with fail
  refine hd.mono ?_
  intro e w1 h1
  obtain ⟨a1, n1, c1, rfl, B1, g1, o1⟩ := h1
  have HF : Hid _ := And.intro B1 (And.intro g1 o1)
  clear hd B1 g1 o1
  simp only
  go_wp2
  go_ret2
  exact ⟨_, _, _, rfl, HF.out.1, HF.out.2.1, HF.out.2.2⟩
 | false =>
  by_cases h0 : most < 0 ∨ 1048576 < most
  ·have e : unpk bs false most = ([], 1) := by unfold unpk; rw [if_pos h0]
   rw [e]
   clear e B
   rcases h0 with h0 | h0
   ·go_enter Try.func49, Try.ntmps49
    go_wp2
    go_ret2
    exact up_none (World.grownBy.refl _ _)
   ·have d1 : decide (most < 0) = false := decide_eq_false (by omega)
    go_enter Try.func49, Try.ntmps49
    go_wp2
    go_ret2
    exact up_none (World.grownBy.refl _ _)
  ·have d1 : decide (most < 0) = false := decide_eq_false (by omega)
   have d2 : decide (1048576 < most) = false := decide_eq_false (by omega)
   by_cases h1 : most < len
   ·have e : unpk bs false most = ([], 2) := by unfold unpk; rw [if_neg h0, hlb, if_pos h1]; rfl
    rw [e]
    clear e B
    go_enter Try.func49, Try.ntmps49
    go_wp2
    go_ret2
    exact up_none (World.grownBy.refl _ _)
   ·have e : unpk bs false most = (bs, 0) := by unfold unpk; rw [if_neg h0, hlb, if_neg h1]; rfl
    rw [e]
    have d3 : decide (most < (len : Int)) = false := decide_eq_false h1
    have hcl := clone_own a len cap bs w B hl
    have HB : Hid _ := B
    clear e B
    go_enter Try.func49, Try.ntmps49
    go_wp2_with fail
    refine hcl.mono ?_
    rintro e w3 ⟨v, rfl, o3, g3⟩
    obtain ⟨a3, c3, rfl, B3⟩ := byte_own o3 HB.out.row.byt (by unfold maxLen; omega)
    have HR : Hid _ := And.intro B3 (And.intro g3 o3)
    clear hcl o3 B3 g3
    simp only
    go_wp2
    go_ret2
    exact ⟨_, _, _, rfl, HR.out.1, HR.out.2.1, HR.out.2.2⟩
theorem entry_any (n : Nat) (w : World) (hn : n < 4294967296) : Calls Try.prog 37 #[.int .u32 n] w fun e w' => e = .returned (.int .u32 (ent n)) ∧ w = w' := by
 go_enter Try.func37, Try.ntmps37
 go_wp2
 go_loop [0, 3, 4] (fun v _ i => ∃ j : Nat, j ≤ 8 ∧ i = .int .i64 j ∧ v = .int .u32 (halves j n)) (fun _ _ i => 8 - (intOf i).toNat)
 case atStart => exact ⟨0, Nat.zero_le _, rfl, rfl⟩
 case round =>
  obtain ⟨j, hj, rfl, rfl⟩ := hrel
  by_cases hlt : j < 8
  ·have hx := halves_lt hn j
   have hs : halves (j + 1) n = half (halves j n) := rfl
   generalize halves j n = x at hx hs
   by_cases hp : x % 2 = 1
   ·rw [half1 hp] at hs
    have h1 : bits .and .u32 (x : Int) 1 = 1 := by rw [and1 hx, hp]; rfl
    go_wp2
    go_round
    case rel => exact ⟨j + 1, by omega, by go_num, by rw [hs, xorP hx]⟩
    case measure => simp [intOf]; omega
   ·rw [half0 hp] at hs
    have h1 : bits .and .u32 (x : Int) 1 = 0 := by rw [and1 hx]; omega
    go_wp2
    go_round
    case rel => exact ⟨j + 1, by omega, by go_num, by rw [hs]; rfl⟩
    case measure => simp [intOf]; omega
  ·go_wp2
   go_ret
   have : j = 8 := by omega
   subst this
   exact ⟨rfl, rfl⟩

theorem dig1_eq {x : Nat} {b : Int} (hx : x < 18446744073709551616) (hb : 0 ≤ b ∧ b ≤ 255) : IntKind.u64.wrap (bits .xor .u64 (x : Int) b * 1099511628211) = ((dig1 x b : Nat) : Int) := by
 obtain ⟨c, rfl⟩ := Int.eq_ofNat_of_zero_le hb.1
 rw [xor64 hx (by omega), IntKind.wrap_u64]
 unfold dig1
 rw [Int.natCast_emod, Int.natCast_mul]
 rfl
/-- block p is a row of these cells, of this type, which may be written -/
def SBlk (w : World) (p : Nat) (cs : List Value) (t : TypeId) : Prop := w.heap[p]? = some (.cells cs.toArray t (0, 0))
theorem SBlk.lt {w : World} {p : Nat} {cs : List Value} {t : TypeId} (h : SBlk w p cs t) : p < w.heap.size := (Array.getElem?_eq_some_iff.1 h).1
theorem SBlk.cell {w : World} {p : Nat} {cs : List Value} {t : TypeId} (h : SBlk w p cs t) (i : Nat) : w.cell? ⟨p, i, none⟩ = cs[i]? := by
 unfold SBlk at h; simp [World.cell?, h]
theorem SBlk.c0 {w : World} {p : Nat} {a : Value} {l : List Value} {t : TypeId} (h : SBlk w p (a :: l) t) : w.cell? ⟨p, 0, none⟩ = some a := h.cell 0
theorem SBlk.c1 {w : World} {p : Nat} {a b : Value} {l : List Value} {t : TypeId} (h : SBlk w p (a :: b :: l) t) : w.cell? ⟨p, 1, none⟩ = some b := h.cell 1
theorem SBlk.c2 {w : World} {p : Nat} {a b c : Value} {l : List Value} {t : TypeId} (h : SBlk w p (a :: b :: c :: l) t) : w.cell? ⟨p, 2, none⟩ = some c := h.cell 2
theorem SBlk.frozen {w : World} {p : Nat} {cs : List Value} {t : TypeId} (h : SBlk w p cs t) (i : Nat) : w.frozen? ⟨p, i, none⟩ = false := by
 unfold SBlk at h; simp [World.frozen?, h]
theorem SBlk.set {w : World} {p : Nat} {cs : List Value} {t : TypeId} (h : SBlk w p cs t) (i : Nat) (v : Value) : SBlk (w.setCell ⟨p, i, none⟩ v) p (cs.set i v) t := by
 unfold SBlk at h ⊢
 rw [setCell_eq_setRow w p i _ _ _ v h, setRow_heap w p _ _ _ _ h]
 simp
theorem SBlk.grown {w w' : World} {p : Nat} {cs : List Value} {t : TypeId} {row : Option Nat} (h : SBlk w p cs t) (hg : w.grownBy w' row) (hr : some p ≠ row) : SBlk w' p cs t := by
 unfold SBlk; rw [hg.block p h.lt hr]; exact h
theorem SBlk.below {w w' : World} {p B : Nat} {cs : List Value} {t : TypeId} (h : SBlk w p cs t) (hb : Below B w w') (hr : p < B) : SBlk w' p cs t := by
 unfold SBlk; rw [hb.block p hr]; exact h
theorem alloc_sblk (w : World) (cs : List Value) (t : TypeId) : SBlk (w.alloc (.cells cs.toArray t)) w.heap.size cs t := heap_alloc_new _ _
theorem grown_drewH (w : World) (row : Option Nat) : w.grownBy w.drew row := ⟨rfl, rfl, rfl, Nat.le_refl _, fun _ _ _ => rfl⟩
theorem grown_some {a b : World} (h : a.grownBy b none) (row : Option Nat) : a.grownBy b row := ⟨h.os, h.tape, h.output, h.size, fun k hk _ => h.block k hk (by simp)⟩
/-- the cells of a table -/
def tcs (f : Nat → Nat) : List Value := (List.range 256).map fun i => .int .u32 (f i)
theorem tcs_length (f : Nat → Nat) : (tcs f).length = 256 := by simp [tcs]
theorem tcs_get (f : Nat → Nat) (i : Nat) (h : i < 256) : (tcs f)[i]? = some (.int .u32 (f i)) := by simp [tcs, h]
theorem tcs_one (f : Nat → Nat) : (tcs f).toArray.all (·.oneCell') = true := by simp [tcs, Value.oneCell']
theorem tcs_set (f : Nat → Nat) (j x : Nat) (h : j < 256) : (tcs f).set j (.int .u32 x) = tcs fun i => if i = j then x else f i := by
 apply List.ext_getElem?
 intro i
 rw [List.getElem?_set]
 by_cases hi : i < 256
 ·rw [tcs_get _ i hi, tcs_get _ i hi]
  by_cases e : j = i
  ·subst e; simp [tcs_length, h]
  ·simp [e, Ne.symm e]
 ·have h1 : (tcs f)[i]? = none := List.getElem?_eq_none (by rw [tcs_length]; omega)
  rw [h1, List.getElem?_eq_none (by rw [tcs_length]; omega), if_neg (by omega)]
def upto (j i : Nat) : Nat := if i < j then ent i else 0
theorem upto_step (j : Nat) : (fun i => if i = j then ent j else upto j i) = upto (j + 1) := by
 funext i
 unfold upto
 by_cases h : i = j
 ·subst h; simp
 ·by_cases h2 : i < j
  ·simp [h, h2, show i < j + 1 by omega]
  ·simp [h, h2, show ¬ i < j + 1 by omega]
theorem upto_zero : upto 0 = fun _ => 0 := by funext i; simp [upto]
theorem tcs_upto : tcs (upto 256) = tcs ent := by
 unfold tcs
 apply List.map_congr_left
 intro i hi
 rw [List.mem_range] at hi
 simp [upto, hi]
/-- guards: the next operation is a load, a store of a whole table -/
theorem load24_here {P : Program} {w : World} {ops : Array Oper} {rest : List Oper} {a : Act} {Q : Exit → Act → World → Prop} {dst : Option Nat} {x : Operand} {type : TypeId} {pos : String} {after : Array Edge} {guard : Option (Nat × Bool)}
  (h : wpList P ops Q (⟨dst, .load 55 x, type, pos, after, guard⟩ :: rest) a w) : wpList P ops Q (⟨dst, .load 55 x, type, pos, after, guard⟩ :: rest) a w := h
theorem store24_here {P : Program} {w : World} {ops : Array Oper} {rest : List Oper} {a : Act} {Q : Exit → Act → World → Prop} {dst : Option Nat} {x y : Operand} {type : TypeId} {pos : String} {after : Array Edge} {guard : Option (Nat × Bool)}
  (h : wpList P ops Q (⟨dst, .store 55 x y, type, pos, after, guard⟩ :: rest) a w) : wpList P ops Q (⟨dst, .store 55 x y, type, pos, after, guard⟩ :: rest) a w := h
theorem zero24 : (∀ w, (zeroValue 55).run Try.prog w = .ok (.agg (tcs (upto 0)).toArray) w) ∧ (Try.prog.info? 55).map (·.size) = some 256 := by
 rw [upto_zero]
 exact zero_of_info (by kernel_rfl)

set_option maxHeartbeats 400000 in
theorem make_any (w : World) : Calls Try.prog 22 #[] w fun e w' => e = .returned (.agg (tcs ent).toArray) ∧ w.grownBy w' none := by
 obtain ⟨hz, hs⟩ := zero24
 go_enter Try.func22, Try.ntmps22
 go_wp2
 have h1 : SBlk ((w.alloc (.cells (tcs (upto 0)).toArray 55)).alloc (.cells (tcs (upto 0)).toArray 55)) (w.heap.size + 1) (tcs (upto 0)) 55 := heap_alloc2_new w _ _
 have h2 : SBlk ((w.alloc (.cells (tcs (upto 0)).toArray 55)).alloc (.cells (tcs (upto 0)).toArray 55)) w.heap.size (tcs (upto 0)) 55 := heap_alloc2_old w _ _
 have hg : w.grownBy ((w.alloc (.cells (tcs (upto 0)).toArray 55)).alloc (.cells (tcs (upto 0)).toArray 55)) none := grown_trans (World.grownBy_alloc _ _ _) (World.grownBy_alloc _ _ _)
 go_loopw [2, 3] (fun _ i wr => ∃ j : Nat, j ≤ 256 ∧ i = .int .i64 j ∧ SBlk wr (w.heap.size + 1) (tcs (upto j)) 55 ∧ SBlk wr w.heap.size (tcs (upto 0)) 55 ∧ w.grownBy wr none) (fun _ i _ => 256 - (intOf i).toNat)
 case atStart => exact ⟨0, Nat.zero_le _, rfl, h1, h2, hg⟩
 case round =>
  clear h1 h2 hg hz
  obtain ⟨j, hj, rfl, h1, h2, hg⟩ := hrel
  by_cases hlt : j < 256
  ·have hE := fun w => entry_any j w (by omega)
   have hc := h1.cell j
   rw [tcs_get _ j hlt] at hc
   have hf := h1.frozen j
   have H1 : Hid (SBlk wr (w.heap.size + 1) (tcs (upto j)) 55) := h1
   have H2 : Hid (SBlk wr w.heap.size (tcs (upto 0)) 55) := h2
   have hj1 : (j : Int) < 256 := by omega
   generalize upto j j = y at hc
   clear h1 h2 hs
   go_wp2_with (go_at_call 37; refine (hE _).mono ?_; rintro e w' ⟨rfl, rfl⟩)
   go_roundw
   case rel =>
    refine ⟨j + 1, by omega, by go_num, ?_, SBlk.grown H2.out (grown_set _ _ _ _) (by simp), grown_new hg (grown_set _ _ _ _) (by omega)⟩
    have := SBlk.set H1.out j (.int .u32 (ent j))
    rw [tcs_set _ _ _ hlt, upto_step] at this
    exact this
   case measure => simp [intOf]; omega
  ·have : j = 256 := by omega
   subst this
   rw [tcs_upto] at h1
   have hi : (Try.prog.info? 55).map (·.size) = some (tcs ent).toArray.size := by simp [hs, tcs_length]
   have ho : (tcs (upto 0)).toArray.size = (tcs ent).toArray.size := by simp [tcs_length]
   have h3 := setRow_heap wr w.heap.size (tcs (upto 0)).toArray (tcs ent).toArray 55 (0, 0) h2
   have hg2 : w.grownBy (wr.setRow w.heap.size (tcs ent).toArray) none := ⟨hg.os, hg.tape, hg.output, by simpa using hg.size, fun k hk _ => (setRow_other wr w.heap.size k _ (by omega)).trans (hg.block k hk (by simp))⟩
   have H1 : Hid (wr.heap[w.heap.size + 1]? = some (.cells (tcs ent).toArray 55 (0, 0))) := h1
   have H2 : Hid (wr.heap[w.heap.size]? = some (.cells (tcs (upto 0)).toArray 55 (0, 0))) := h2
   have HI : Hid ((Try.prog.info? 55).map (·.size) = some (tcs ent).toArray.size) := hi
   have HO : Hid ((tcs (upto 0)).toArray.size = (tcs ent).toArray.size) := ho
   have H3 : Hid ((wr.setRow w.heap.size (tcs ent).toArray).heap[w.heap.size]? = some (.cells (tcs ent).toArray 55 (0, 0))) := h3
   have HG : Hid (w.grownBy (wr.setRow w.heap.size (tcs ent).toArray) none) := hg2
   clear h1 h2 hs hi ho h3 hg2 hg
   go_wp2_with (first | (with_reducible refine load24_here ?_; refine wpList_load_row rfl 55 _ rfl (w.heap.size + 1) rfl 55 _ (0, 0) _ H1.out Try.underlying55 rfl HI.out ?_) | (with_reducible refine store24_here ?_; refine wpList_store_row rfl 55 _ _ rfl w.heap.size _ rfl rfl 55 _ H2.out HI.out HO.out (tcs_one _) ?_))
   exact bodyPost_ret (v := .agg (tcs ent).toArray) (results_cell_row rfl _ _ w.heap.size 55 _ (0, 0) _ rfl H3.out Try.underlying55 rfl HI.out) rfl ⟨rfl, HG.out⟩
end Go.Proofs.Ytkkigpobhagnfaa
