/- Plain facts: a float below 1 times the float nearest to an int is a float that an int can tell. -/
import Derived.Test.YtekblghlaogeaaaF2
set_option linter.unusedSimpArgs false
set_option linter.unusedVariables false
namespace Go.Proofs.Ytekblghlaogeaaa
open Ieee

theorem pw_lt (a b c k : Nat) (h : a + b = c) (hk : k < 2 ^ a) : k * 2 ^ b < 2 ^ c := by
  rw [← h, Nat.pow_add]; exact Nat.mul_lt_mul_of_pos_right hk (Nat.two_pow_pos _)
theorem pw_le {M P c k : Nat} (hv : M * 2 ^ P ≤ k * 2 ^ c) (h : c ≤ P) : M * 2 ^ (P - c) ≤ k := by
  have : M * 2 ^ (P - c) * 2 ^ c ≤ k * 2 ^ c := by
    rw [Nat.mul_assoc, ← Nat.pow_add, show P - c + c = P by omega]; exact hv
  exact Nat.le_of_mul_le_mul_right this (Nat.two_pow_pos _)
theorem pw_le' {M P c k : Nat} (hv : M * 2 ^ P ≤ k * 2 ^ c) (h : P ≤ c) : M ≤ k * 2 ^ (c - P) := by
  have : M * 2 ^ P ≤ k * 2 ^ (c - P) * 2 ^ P := by
    rw [Nat.mul_assoc, ← Nat.pow_add, show c - P + P = c by omega]; exact hv
  exact Nat.le_of_mul_le_mul_right this (Nat.two_pow_pos _)
theorem log_sum {M P c : Nat} (h0 : M ≠ 0) (h1 : M * 2 ^ P < 2 ^ c) : M.log2 + P < c := by
  have h2 : 2 ^ M.log2 ≤ M := Nat.log2_self_le h0
  have h3 : 2 ^ (M.log2 + P) < 2 ^ c := by
    rw [Nat.pow_add]
    exact Nat.lt_of_le_of_lt (Nat.mul_le_mul_right _ h2) h1
  exact (Nat.pow_lt_pow_iff_right (by decide)).1 h3
theorem lt_log (n : Nat) : n < 2 ^ (n.log2 + 1) := Nat.lt_log2_self
theorem even_cut_le (s : Bool) (n d : Nat) : Toward.even.cut s n d ≤ n / 2 ^ (min d (n.log2 + 2)) + 1 := by
  unfold Toward.cut
  simp only [Nat.one_shiftLeft]
  generalize (decide (2 ^ min d (n.log2 + 2) < 2 * (n % 2 ^ min d (n.log2 + 2))) || (2 ^ min d (n.log2 + 2) == 2 * (n % 2 ^ min d (n.log2 + 2)) && n / 2 ^ min d (n.log2 + 2) % 2 == 1)) = b
  cases b <;> simp
theorem even_cut_zero (s : Bool) (n : Nat) : Toward.even.cut s n 0 = n := by
  unfold Toward.cut
  simp [Nat.mod_one]
theorem even_cut_le' (s : Bool) {n d k : Nat} (hd : d ≤ n.log2 + 2) (h : n ≤ k * 2 ^ d) : Toward.even.cut s n d ≤ k := by
  have h1 := even_cut_le s n d
  rw [Nat.min_eq_left hd] at h1
  have hp := Nat.two_pow_pos d
  have hle : n / 2 ^ d ≤ k := by
    rw [Nat.mul_comm] at h
    exact Nat.div_le_of_le_mul h
  rcases Nat.lt_or_ge (n / 2 ^ d) k with h2 | h2
  · omega
  · have e : n / 2 ^ d = k := by omega
    have hm := Nat.div_add_mod n (2 ^ d)
    rw [e, Nat.mul_comm] at hm
    have hz : n % 2 ^ d = 0 := by omega
    unfold Toward.cut
    have hq : (2 ^ d == 0) = false := by simp
    simp only [Nat.one_shiftLeft, Nat.min_eq_left hd, hz, e, Nat.mul_zero, hq]
    simp
/-- the digits that are kept: 53 at most, or the next power -/
theorem kept_le {M : Nat} (s : Bool) {E last : Int} (h1 : E + M.log2 - 52 ≤ last) : Toward.even.cut s (M <<< (E - last).toNat) (last - E).toNat ≤ 9007199254740992 := by
  rcases Int.le_total E last with h | h
  · have e0 : (E - last).toNat = 0 := by omega
    rw [e0, Nat.shiftLeft_zero]
    have h2 := even_cut_le s M (last - E).toNat
    have hM := lt_log M
    have : M / 2 ^ (min (last - E).toNat (M.log2 + 2)) < 2 ^ 53 := by
      rw [Nat.div_lt_iff_lt_mul (Nat.two_pow_pos _), ← Nat.pow_add]
      refine Nat.lt_of_lt_of_le hM (Nat.pow_le_pow_right (by decide) ?_)
      omega
    have e53 : (2 : Nat) ^ 53 = 9007199254740992 := by decide
    omega
  · have e0 : (last - E).toNat = 0 := by omega
    rw [e0, even_cut_zero, Nat.shiftLeft_eq]
    have hM := lt_log M
    have h3 : M * 2 ^ (E - last).toNat < 2 ^ (M.log2 + 1) * 2 ^ (E - last).toNat := Nat.mul_lt_mul_of_pos_right hM (Nat.two_pow_pos _)
    rw [← Nat.pow_add] at h3
    have h4 : (2 : Nat) ^ (M.log2 + 1 + (E - last).toNat) ≤ 2 ^ 53 := Nat.pow_le_pow_right (by decide) (by omega)
    have e53 : (2 : Nat) ^ 53 = 9007199254740992 := by decide
    omega
theorem log_lt {M k : Nat} (h0 : M ≠ 0) (h : M < 2 ^ k) : M.log2 < k := (Nat.log2_lt h0).2 h

/-- the float nearest to an int: at most that of 2^63 -/
theorem near_int {n : Nat} (h : n < 9223372036854775808) : double.nearest false n 0 ≤ 4890909195324358656 := by
  have c2 : double.binade = 4503599627370496 := by decide
  have c4 : double.leastPlace = -1074 := by decide
  have c5 : (double.fractionBits : Int) = 52 := by decide
  unfold Format.nearest
  split
  · decide
  · rename_i h0
    have hl : n.log2 < 63 := log_lt h0 (by simpa using h)
    simp only [c2, c4, c5]
    have hk := kept_le (M := n) false (E := 0) (last := max (0 + (n.log2 : Int) - 52) (-1074)) (by omega)
    have e : max (0 + (n.log2 : Int) - 52) (-1074) = (n.log2 : Int) - 52 := by omega
    rw [e] at hk ⊢
    generalize Toward.even.cut false (n <<< (0 - ((n.log2 : Int) - 52)).toNat) (((n.log2 : Int) - 52) - 0).toNat = K at hk
    unfold Format.word
    simp only [Bool.false_eq_true, if_false]
    have e2 : ((n.log2 : Int) - 52 - -1074).toNat = n.log2 + 1022 := by omega
    rw [e2]
    refine Nat.le_trans (Nat.min_le_left _ _) ?_
    omega

theorem read_small {x : Nat} (h : x < 9218868437227405312) : ∃ m p : Nat, double.read x = .number false m (-1074 + (p : Int)) ∧ m * 2 ^ p = mag x ∧ m < 9007199254740992 := by
  have hr : rung x = x := by unfold rung; omega
  have hn : ngv x = false := by unfold ngv; simp; omega
  have c1 : double.signWeight = 9223372036854775808 := by decide
  have c2 : double.binade = 4503599627370496 := by decide
  have c3 : double.infRung = 9218868437227405312 := by decide
  have c4 : double.leastPlace = -1074 := by decide
  have hx : x % 9223372036854775808 = x := by omega
  unfold Format.read
  simp only [c1, c2, c3, c4, hx]
  have hb : (x / 9223372036854775808 % 2 == 1) = false := hn
  rw [hb]
  by_cases h1 : x < 4503599627370496
  · refine ⟨x, 0, ?_, ?_, by omega⟩
    · rw [if_pos h1]; rfl
    · unfold mag; rw [if_pos h1]; simp
  · refine ⟨4503599627370496 + x % 4503599627370496, x / 4503599627370496 - 1, ?_, ?_, by omega⟩
    · rw [if_neg h1, if_pos h]
    · unfold mag; rw [if_neg h1]
theorem mag_le {a b : Nat} (h : a ≤ b) : mag a ≤ mag b := by
  rcases Nat.lt_or_ge a b with k | k
  · exact Nat.le_of_lt (mag_lt k)
  · have : a = b := by omega
    rw [this]; exact Nat.le_refl _

/-- THE PRODUCT: below 2^63 -/
theorem product_fit {x f : Nat} (hx : x < 4607182418800017408) (hf : f ≤ 4890909195324358656) : ∃ y, floatBits .mul .f64 x f = some y ∧ y < 4890909195324358656 := by
  obtain ⟨m, p, e1, v1, b1⟩ := read_small (x := x) (by omega)
  obtain ⟨n, q, e2, v2, b2⟩ := read_small (x := f) (by omega)
  have g1 : mag x ≤ 9007199254740991 * 2 ^ 1021 := Nat.le_trans (mag_le (b := 4607182418800017407) (by omega)) (Nat.le_of_eq (by decide +kernel))
  have g2 : mag f ≤ 2 ^ 1137 := Nat.le_trans (mag_le hf) (Nat.le_of_eq (by decide +kernel))
  have hv : m * n * 2 ^ (p + q) ≤ 9007199254740991 * 2 ^ 2158 := by
    have : m * n * 2 ^ (p + q) = (m * 2 ^ p) * (n * 2 ^ q) := by
      rw [Nat.pow_add]; simp only [Nat.mul_assoc, Nat.mul_left_comm]
    rw [this, v1, v2]
    have key : ∀ a b c k u v : Nat, a + b = c → u ≤ k * 2 ^ a → v ≤ 2 ^ b → u * v ≤ k * 2 ^ c := fun a b c k u v h h1 h2 => by
      rw [← h, Nat.pow_add, ← Nat.mul_assoc]; exact Nat.mul_le_mul h1 h2
    have fin := key 1021 1137 2158 9007199254740991 (mag x) (mag f) rfl g1 g2
    exact fin
  refine ⟨double.nearest false (m * n) (-1074 + (p : Int) + (-1074 + (q : Int))), ?_, ?_⟩
  · show Option.map _ _ = _
    rw [show FloatKind.f64.format.read x = _ from e1, show FloatKind.f64.format.read f = _ from e2]
    rfl
  · clear e1 e2 v1 v2 g1 g2
    have hE : -1074 + (p : Int) + (-1074 + (q : Int)) = -2148 + ((p + q : Nat) : Int) := by omega
    rw [hE]
    generalize p + q = P at *
    generalize m * n = M at *
    have c2 : double.binade = 4503599627370496 := by decide
    have c4 : double.leastPlace = -1074 := by decide
    have c5 : (double.fractionBits : Int) = 52 := by decide
    unfold Format.nearest
    split
    · decide
    · rename_i h0
      simp only [c2, c4, c5]
      have hlog : M.log2 + P < 2211 := by
        have h1 : M * 2 ^ P < 2 ^ 2211 := by
          refine Nat.lt_of_le_of_lt hv ?_
          have fin := pw_lt 53 2158 2211 9007199254740991 rfl (by decide)
          exact fin
        have fin := log_sum (c := 2211) h0 h1
        exact fin
      have hk := kept_le (M := M) false (E := -2148 + (P : Int)) (last := max (-2148 + (P : Int) + (M.log2 : Int) - 52) (-1074)) (by omega)
      unfold Format.word
      simp only [Bool.false_eq_true, if_false]
      refine Nat.lt_of_le_of_lt (Nat.min_le_left _ _) ?_
      by_cases hc : -2148 + (P : Int) + (M.log2 : Int) ≤ 61
      · have hlast : (max (-2148 + (P : Int) + (M.log2 : Int) - 52) (-1074) - -1074).toNat ≤ 1083 := by omega
        generalize (max (-2148 + (P : Int) + (M.log2 : Int) - 52) (-1074) - -1074).toNat = L at hlast
        generalize Toward.even.cut false (M <<< (-2148 + (P : Int) - max (-2148 + (P : Int) + (M.log2 : Int) - 52) (-1074)).toNat) (max (-2148 + (P : Int) + (M.log2 : Int) - 52) (-1074) - (-2148 + (P : Int))).toNat = K at hk
        omega
      · have e : max (-2148 + (P : Int) + (M.log2 : Int) - 52) (-1074) = 10 := by omega
        rw [e]
        have hK : Toward.even.cut false (M <<< (-2148 + (P : Int) - 10).toNat) (10 - (-2148 + (P : Int))).toNat ≤ 9007199254740991 := by
          rcases Nat.lt_or_ge 2158 P with k | k
          · have e0 : (10 - (-2148 + (P : Int))).toNat = 0 := by omega
            have e1 : (-2148 + (P : Int) - 10).toNat = P - 2158 := by omega
            rw [e0, even_cut_zero, Nat.shiftLeft_eq, e1]
            exact pw_le (c := 2158) hv (by omega)
          · have e0 : (10 - (-2148 + (P : Int))).toNat = 2158 - P := by omega
            have e1 : (-2148 + (P : Int) - 10).toNat = 0 := by omega
            rw [e0, e1, Nat.shiftLeft_zero]
            refine even_cut_le' false (by omega) ?_
            exact pw_le' (c := 2158) hv k
        generalize Toward.even.cut false (M <<< (-2148 + (P : Int) - 10).toNat) (10 - (-2148 + (P : Int))).toNat = K at hK
        have e3 : ((10 : Int) - -1074).toNat = 1084 := by decide
        rw [e3]
        omega

/-- such a float as an int -/
theorem toInt_fit {y : Nat} (h : y < 4890909195324358656) : ∃ k : Int, floatToIntVal .f64 y .i64 = some k ∧ 0 ≤ k ∧ k ≤ 9223372036854775807 := by
  obtain ⟨m, p, e1, v1, b1⟩ := read_small (x := y) (by omega)
  have g1 : mag y < 2 ^ 1137 := Nat.lt_of_lt_of_le (mag_lt h) (Nat.le_of_eq (by decide +kernel))
  rw [← v1] at g1
  have hb : Toward.zero.cut false (m <<< (-1074 + (p : Int)).toNat) (-(-1074 + (p : Int))).toNat ≤ 9223372036854775807 := by
    have hc : ∀ n d, Toward.zero.cut false n d ≤ n := by
      intro n d
      unfold Toward.cut
      simp only [Bool.toNat_false, Nat.add_zero]
      exact Nat.div_le_self _ _
    refine Nat.le_trans (hc _ _) ?_
    rcases Nat.lt_or_ge p 1074 with k | k
    · have e0 : (-1074 + (p : Int)).toNat = 0 := by omega
      rw [e0, Nat.shiftLeft_zero]; omega
    · have e0 : (-1074 + (p : Int)).toNat = p - 1074 := by omega
      rw [e0, Nat.shiftLeft_eq]
      have key : ∀ a b c k : Nat, a + b = c → k * 2 ^ c = k * 2 ^ a * 2 ^ b := fun a b c k h => by rw [Nat.mul_assoc, ← Nat.pow_add, h]
      have key' : ∀ a b c : Nat, a + b = c → 2 ^ c = 2 ^ a * 2 ^ b := fun a b c h => by rw [← Nat.pow_add, h]
      rw [key (p - 1074) 1074 p _ (by omega), key' 63 1074 1137 rfl] at g1
      have := Nat.lt_of_mul_lt_mul_right g1
      have e63 : (2 : Nat) ^ 63 = 9223372036854775808 := by decide
      omega
  refine ⟨(Toward.zero.cut false (m <<< (-1074 + (p : Int)).toNat) (-(-1074 + (p : Int))).toNat : Nat), ?_, by omega, by omega⟩
  unfold floatToIntVal
  have e2 : (FloatKind.f64.decode y).toInt .zero = some ((Toward.zero.cut false (m <<< (-1074 + (p : Int)).toNat) (-(-1074 + (p : Int))).toNat : Nat) : Int) := by
    rw [show FloatKind.f64.decode y = _ from e1]
    unfold Datum.toInt Datum.integral
    simp [signed]
  rw [e2]
  have m1 : IntKind.i64.min = -9223372036854775808 := by decide
  have m2 : IntKind.i64.max = 9223372036854775807 := by decide
  simp only [m1, m2]
  rw [if_pos (by omega)]
end Go.Proofs.Ytekblghlaogeaaa
