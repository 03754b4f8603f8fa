/- Bursts: a byte's step is eight halvings; a turned bit shows in the end as so many halvings of it; a halving loses nothing. -/
import Derived.Test.YtaedcblphcfkfaaSA
namespace Go.Proofs.Ytaedcblphcfkfaa
set_option linter.unusedSimpArgs false
set_option linter.unusedVariables false

theorem xor_div2 (x y : Nat) : (x ^^^ y) / 2 = x / 2 ^^^ y / 2 := by
  have h := Nat.shiftRight_xor_distrib (a := x) (b := y) (i := 1)
  simpa [Nat.shiftRight_eq_div_pow] using h
theorem xor_mod2 (x y : Nat) : (x ^^^ y) % 2 = (x % 2 + y % 2) % 2 := by
  have h := Nat.xor_mod_two_pow (a := x) (b := y) (n := 1)
  simp only [Nat.pow_one] at h
  rw [h]
  rcases Nat.mod_two_eq_zero_or_one x with hx | hx <;> rcases Nat.mod_two_eq_zero_or_one y with hy | hy <;> rw [hx, hy] <;> rfl
theorem half_xor (x y : Nat) : half (x ^^^ y) = half x ^^^ half y := by
  unfold half
  rw [xor_div2, xor_mod2]
  generalize x / 2 = a
  generalize y / 2 = b
  generalize 3988292384 = p
  rcases Nat.mod_two_eq_zero_or_one x with hx | hx <;> rcases Nat.mod_two_eq_zero_or_one y with hy | hy <;> rw [hx, hy]
  · rfl
  · simp [Nat.xor_assoc]
  · simp only [Nat.add_zero, Nat.one_mod, if_true]
    simp
    rw [Nat.xor_assoc, Nat.xor_comm b p, ← Nat.xor_assoc]
  · simp
    have : a ^^^ p ^^^ (b ^^^ p) = a ^^^ b ^^^ (p ^^^ p) := by
      rw [Nat.xor_assoc a p, ← Nat.xor_assoc p b p, Nat.xor_comm p b, Nat.xor_assoc b p p, Nat.xor_assoc a b]
    rw [this, Nat.xor_self, Nat.xor_zero]
theorem halves_xor (k x y : Nat) : halves k (x ^^^ y) = halves k x ^^^ halves k y := by
  induction k with
  | zero => rfl
  | succ k ih => show half (halves k (x ^^^ y)) = half (halves k x) ^^^ half (halves k y); rw [ih, half_xor]
theorem halves_add (a b x : Nat) : halves (a + b) x = halves a (halves b x) := by
  induction a with
  | zero => rw [Nat.zero_add]; rfl
  | succ a ih => rw [Nat.succ_add]; show half (halves (a + b) x) = half (halves a (halves b x)); rw [ih]
theorem half_ne {x : Nat} (h : x < 4294967296) (h0 : x ≠ 0) : half x ≠ 0 := by
  unfold half
  split
  · intro e
    have h2 : x / 2 ^^^ 3988292384 ^^^ 3988292384 = 0 ^^^ 3988292384 := by rw [e]
    rw [Nat.xor_assoc, Nat.xor_self, Nat.xor_zero, Nat.zero_xor] at h2
    omega
  · omega
theorem halves_ne {x : Nat} (h : x < 4294967296) (h0 : x ≠ 0) (k : Nat) : halves k x ≠ 0 := by
  induction k with
  | zero => exact h0
  | succ k ih => exact half_ne (halves_lt h k) ih
theorem half_double (m : Nat) : half (2 * m) = m := by
  unfold half
  rw [if_neg (by omega)]
  omega
theorem halves_mul (k m : Nat) : halves k (2 ^ k * m) = m := by
  induction k with
  | zero => show 2 ^ 0 * m = m; simp
  | succ k ih =>
    rw [halves_add k 1]
    have : halves 1 (2 ^ (k + 1) * m) = 2 ^ k * m := by
      show half (2 ^ (k + 1) * m) = _
      rw [Nat.pow_succ, Nat.mul_comm (2 ^ k) 2, Nat.mul_assoc, half_double]
    rw [this, ih]
theorem halves_pow (k : Nat) : halves k (2 ^ k) = 1 := by
  have := halves_mul k 1
  rwa [Nat.mul_one] at this
theorem low_xork (k q r : Nat) (h : r < 2 ^ k) : 2 ^ k * q ^^^ r = 2 ^ k * q + r := by
  apply Nat.eq_of_testBit_eq
  intro i
  have e := Nat.testBit_two_pow_mul_add q (i := k) (b := r) h i
  have e2 := Nat.testBit_two_pow_mul (a := q) (i := k) (j := i)
  rw [Nat.testBit_xor, e, e2]
  by_cases hi : i < k
  · simp [hi, show ¬ k ≤ i by omega]
  · have : r.testBit i = false := Nat.testBit_lt_two_pow (Nat.lt_of_lt_of_le h (Nat.pow_le_pow_right (n := 2) (by decide) (Nat.le_of_not_lt hi)))
    simp [hi, this, show k ≤ i by omega]
theorem low_xor (q r : Nat) (h : r < 256) : 256 * q ^^^ r = 256 * q + r := low_xork 8 q r h
theorem stp_halves (c : Nat) (b : Int) : stp ent c b = halves 8 (c ^^^ b.toNat) := by
  have hc : c = 256 * (c / 256) ^^^ c % 256 := by rw [low_xor _ _ (Nat.mod_lt _ (by decide))]; omega
  have e : c ^^^ b.toNat = 2 ^ 8 * (c / 256) ^^^ (c % 256 ^^^ b.toNat) := by
    conv => lhs; rw [hc]
    rw [Nat.xor_assoc]
  rw [e, halves_xor, halves_mul]
  rfl
theorem upd_cons (s : Nat) (b : Int) (r : List Int) : upd ent s (b :: r) = upd ent (stp ent s b) r := by unfold upd; rw [List.foldl_cons]
theorem upd_nil (s : Nat) : upd ent s [] = s := by unfold upd; rw [List.foldl_nil]
theorem upd_xor (x y : Nat) {bs : List Int} (hb : Byt bs) : upd ent (x ^^^ y) bs = upd ent x bs ^^^ halves (8 * bs.length) y := by
  induction bs generalizing x y with
  | nil => rw [upd_nil, upd_nil]; rfl
  | cons b r ih =>
    have h0 := hb b (List.mem_cons_self ..)
    rw [upd_cons, upd_cons, stp_halves, stp_halves]
    have e : x ^^^ y ^^^ b.toNat = (x ^^^ b.toNat) ^^^ y := by rw [Nat.xor_assoc, Nat.xor_comm y, ← Nat.xor_assoc]
    rw [e, halves_xor, ih _ _ (fun z hz => hb z (List.mem_cons_of_mem _ hz)), ← halves_add]
    rw [List.length_cons, show 8 * r.length + 8 = 8 * (r.length + 1) by omega]
/-- a bit of a byte turned -/
theorem upd_flip (s j : Nat) (hj : j < 8) {bs : List Int} (hb : Byt bs) (k : Nat) (hk : k < bs.length) :
    upd ent s (bs.set k (((bs.getD k 0).toNat ^^^ 2 ^ j : Nat) : Int)) = upd ent s bs ^^^ halves (8 * (bs.length - k)) (2 ^ j) := by
  induction bs generalizing s k with
  | nil => simp at hk
  | cons b r ih =>
    have h0 := hb b (List.mem_cons_self ..)
    have hr : Byt r := fun z hz => hb z (List.mem_cons_of_mem _ hz)
    cases k with
    | zero =>
      have hj2 : 2 ^ j < 256 := Nat.pow_lt_pow_right (a := 2) (n := 8) (by decide) hj
      have hx : b.toNat ^^^ 2 ^ j < 256 := Nat.xor_lt_two_pow (n := 8) (by omega) hj2
      simp only [List.set_cons_zero, List.getD_cons_zero]
      rw [upd_cons, upd_cons, stp_halves, stp_halves, Int.toNat_natCast, ← Nat.xor_assoc, halves_xor, upd_xor _ _ hr, ← halves_add]
      rw [List.length_cons, show 8 * r.length + 8 = 8 * (r.length + 1 - 0) by omega]
    | succ k =>
      simp only [List.set_cons_succ, List.getD_cons_succ]
      rw [upd_cons, upd_cons, ih _ hr k (by simpa using hk), List.length_cons, show r.length + 1 - (k + 1) = r.length - k by omega]
theorem mod_bit1 {n i : Nat} (h : n / 2 ^ i % 2 = 1) : n % 2 ^ (i + 1) = n % 2 ^ i ^^^ 2 ^ i := by
  have e : n % 2 ^ (i + 1) = 2 ^ i * 1 + n % 2 ^ i := by
    rw [Nat.pow_succ, Nat.mod_mul, h]; omega
  rw [e, ← low_xork i 1 _ (Nat.mod_lt _ (Nat.two_pow_pos i)), Nat.mul_one, Nat.xor_comm]
theorem mod_bit0 {n i : Nat} (h : n / 2 ^ i % 2 = 0) : n % 2 ^ (i + 1) = n % 2 ^ i := by
  rw [Nat.pow_succ, Nat.mod_mul, h]; omega
/-- the burst's bits, one by one -/
theorem halves_bit (N A i : Nat) (k j : Nat) (hN : k < N) (hj : j < 8) (e : 8 * k + j = A + i) : halves (8 * (N - k)) (2 ^ j) = halves (8 * N - A) (2 ^ i) := by
  have e1 : 8 * (N - k) = (8 * (N - k) - j) + j := by omega
  have e2 : 8 * N - A = (8 * (N - k) - j) + i := by omega
  rw [e1, e2, halves_add, halves_add, halves_pow, halves_pow]
end Go.Proofs.Ytaedcblphcfkfaa
