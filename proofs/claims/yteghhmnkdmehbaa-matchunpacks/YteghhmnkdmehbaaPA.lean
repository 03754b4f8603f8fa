/- The program's length. -/
import Derived.Test.YteghhmnkdmehbaaRF
namespace Go.Proofs.Yteghhmnkdmehbaa
open Go.RowKit
set_option linter.unusedSimpArgs false
set_option linter.unusedVariables false

theorem i64_or_nat (a b : Nat) (ha : a < 65536) (hb : b < 65536) : bits .or .i64 (a : Int) (b : Int) = ((a ||| b : Nat) : Int) := by
  have hx : a ||| b < 2 ^ 16 := Nat.or_lt_two_pow (by omega) (by omega)
  show IntKind.i64.wrap ((BitVec.ofInt 64 (a : Int) ||| BitVec.ofInt 64 (b : Int)).toNat : Int) = _
  rw [BitVec.toNat_or, BitVec.ofInt_natCast, BitVec.ofInt_natCast, BitVec.toNat_ofNat, BitVec.toNat_ofNat, Nat.mod_eq_of_lt (by omega), Nat.mod_eq_of_lt (by omega)]
  simp only [IntKind.wrap, IntKind.bits, IntKind.signed]
  simp
  omega
theorem off_sum {x y : Int} (hx : 0 ≤ x ∧ x ≤ 255) (hy : 0 ≤ y ∧ y ≤ 255) : bits BinOp.or IntKind.i64 x (y * 256) = x + 256 * y := by
  obtain ⟨m, rfl⟩ := Int.eq_ofNat_of_zero_le hx.1
  obtain ⟨n, rfl⟩ := Int.eq_ofNat_of_zero_le hy.1
  rw [show ((n : Int) * 256) = ((n * 256 : Nat) : Int) by omega, i64_or_nat m (n * 256) (by omega) (by omega), or_low m n 8 (by omega)]
  omega
theorem and15 {x : Int} (hx : 0 ≤ x ∧ x ≤ 255) : bits BinOp.and IntKind.u8 x 15 = x % 16 := by
  obtain ⟨m, rfl⟩ := Int.eq_ofNat_of_zero_le hx.1
  have := u8_and_nat m 15 (by omega) (by decide)
  rw [show (15 : Nat) = 2 ^ 4 - 1 by rfl, Nat.and_two_pow_sub_one_eq_mod] at this
  rw [show (15 : Int) = ((2 ^ 4 - 1 : Nat) : Int) by rfl, this]; omega

theorem lnk_end {r : List Int} {n : Int} {p : Nat} (hb : Byt r) (h0 : 0 ≤ n) (h : (lnk r n p).1 < 0) : (lnk r n p).2 = ((p + r.length : Nat) : Int) := by
  induction r generalizing n p with
  | nil => simp [lnk]
  | cons b r ih =>
    have hb0 := hb b (List.mem_cons_self ..)
    unfold lnk at h ⊢
    by_cases c : b = 255
    · rw [if_pos c] at h ⊢
      have := ih (n := n + 255) (p := p + 1) (fun x hx => hb x (List.mem_cons_of_mem _ hx)) (by omega) (by simpa using h)
      rw [show ((p + 1 : Nat) : Int) = (p : Int) + 1 by omega] at this
      rw [this, List.length_cons]; omega
    · rw [if_neg c] at h; simp only at h; omega
/-- a length, as the program tells it -/
def lenAns (q : Int × Int) : Value := .tuple #[.int .i64 (if q.1 < 0 then 0 else q.1), .int .i64 q.2, .bool (decide (0 ≤ q.1))]

set_option maxHeartbeats 1000000 in
theorem plen_any (a : Option Addr) (len cap : Nat) (bs : List Int) (n : Int) (p : Nat) (w : World) (R : Row w a len bs) (hl : len ≤ 16777216) (hn : 0 ≤ n ∧ n ≤ 15) (hp : p ≤ len) :
    Calls Try.prog 39 #[.slice a len cap, .int .i64 p, .int .u8 n] w fun e w' => e = .returned (lenAns (lng bs n p)) ∧ w' = w := by
  unfold lng
  have hlb := R.len_eq
  by_cases h1 : n < 15
  · rw [if_pos h1]
    unfold lenAns
    rw [if_neg (by simp only; omega), decide_eq_true (by simp only; omega)]
    go_enter Try.func39, Try.ntmps39
    go_wp2
    go_ret3
    exact ⟨rfl, rfl⟩
  · rw [if_neg h1]
    go_enter Try.func39, Try.ntmps39
    go_wp2
    go_loopw [1, 6] (fun vp vn wr => wr = w ∧ ∃ (m : Int) (j : Nat), vn = .int .i64 m ∧ vp = .int .i64 j ∧ j ≤ len ∧ 15 ≤ m ∧ m ≤ 15 + 255 * j ∧ Hid (lnk (bs.drop j) m j = lnk (bs.drop p) n p)) (fun vp _ _ => len - (intOf vp).toNat)
    case atStart => exact ⟨rfl, n, p, rfl, rfl, hp, by omega, by omega, rfl⟩
    case round =>
      obtain ⟨rfl, m, j, rfl, rfl, hj, hm1, hm2, HE⟩ := hrel
      by_cases k1 : j < len
      · obtain ⟨b, off, rfl, hc⟩ := R.cells (by omega)
        have ca := hc j k1
        have hx := R.byt.getD j
        have he := HE.out
        rw [lnk_at (by omega)] at he
        clear hc HE
        generalize bs.getD j 0 = x at ca hx he
        by_cases k2 : x = 255
        · subst k2
          rw [if_pos rfl] at he
          have HE : Hid _ := he
          clear he
          go_wp2
          go_roundw
          case rel => exact ⟨by trivial, m + 255, j + 1, by go_num, by go_num, by omega, by omega, by omega, HE⟩
          case measure => simp [intOf]; omega
        · rw [if_neg k2] at he
          have HE : Hid _ := he
          clear he
          go_wp2
          go_ret3
          rw [← HE.out]
          unfold lenAns
          rw [if_neg (by simp only; omega), decide_eq_true (by simp only; omega)]
          exact ⟨by simp, rfl⟩
      · have he := HE.out
        rw [List.drop_eq_nil_of_le (by omega)] at he
        have HE : Hid _ := he
        clear he
        go_wp2
        go_ret3
        rw [← HE.out]
        exact ⟨rfl, rfl⟩
end Go.Proofs.Yteghhmnkdmehbaa
