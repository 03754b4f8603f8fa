/- Plain facts: a record whose bits are turned is none. -/
import Derived.Test.YtaedcblphcfkfaaSD
import Derived.Test.YtaedcblphcfkfaaDE
namespace Go.Proofs.Ytaedcblphcfkfaa
open Go.RowKit
set_option linter.unusedSimpArgs false
set_option linter.unusedVariables false

theorem upd_sto (k : Nat) : ∀ (c v : Nat), v < 256 ^ k → upd ent c (sto (v : Int) k) = halves (8 * k) (c ^^^ v) := by
  induction k with
  | zero =>
    intro c v hv
    have : v = 0 := by simpa using hv
    subst this
    simp [sto, upd, halves]
  | succ k ih =>
    intro c v hv
    have e1 : sto (v : Int) (k + 1) = ((v % 256 : Nat) : Int) :: sto ((v / 256 : Nat) : Int) k := by rw [sto]; rfl
    have hv2 : v / 256 < 256 ^ k := by rw [Nat.pow_succ] at hv; exact Nat.div_lt_of_lt_mul (by omega)
    have e2 : halves 8 (256 * (v / 256)) = v / 256 := halves_mul 8 (v / 256)
    have e3 : 256 * (v / 256) ^^^ v % 256 = v := by rw [low_xor _ _ (Nat.mod_lt _ (by decide))]; omega
    rw [e1, upd_cons, stp_halves, ih _ _ hv2, Int.toNat_natCast]
    conv => lhs; rw [← e2]
    rw [← halves_xor, ← halves_add]
    have e4 : c ^^^ v % 256 ^^^ 256 * (v / 256) = c ^^^ v := by rw [Nat.xor_assoc, Nat.xor_comm (v % 256), e3]
    rw [e4]
    congr 1
theorem xor_not {c : Nat} (h : c < 4294967296) : c ^^^ (4294967295 - c) = 4294967295 := by
  apply Nat.eq_of_testBit_eq
  intro i
  have e1 : 4294967295 - c = 2 ^ 32 - (c + 1) := by omega
  have e2 : (4294967295 : Nat) = 2 ^ 32 - 1 := by decide
  rw [Nat.testBit_xor, e1, Nat.testBit_two_pow_sub_succ (by omega : c < 2 ^ 32)]
  rw [show (4294967295 : Nat).testBit i = decide (i < 32) from by rw [e2]; exact Nat.testBit_two_pow_sub_one 32 i]
  by_cases hi : i < 32
  · simp [hi]
  · have : c.testBit i = false := Nat.testBit_lt_two_pow (Nat.lt_of_lt_of_le h (by rw [show (4294967296 : Nat) = 2 ^ 32 from rfl]; exact Nat.pow_le_pow_right (by decide) (by omega)))
    simp [hi, this]
/-- whatever the record, its 32 bytes leave the same -/
theorem upd_rby (r : Rc) (h : Byt (rb0 r)) : upd ent 4294967295 (rby r) = halves 32 4294967295 := by
  have hc := upd_lt ent_tab h (c := 4294967295) (by decide)
  unfold rby
  rw [upd_append]
  have e : crc ent 0 (rb0 r) = 4294967295 - upd ent 4294967295 (rb0 r) := rfl
  rw [e]
  generalize upd ent 4294967295 (rb0 r) = c at *
  rw [upd_sto 4 c (4294967295 - c) (by omega), xor_not hc]
theorem rde_bad {bs : List Int} (hl : bs.length = 32) (h : upd ent 4294967295 bs ≠ halves 32 4294967295) : rde bs = (rc0, 6) := by
  unfold rde
  rw [if_neg (by omega)]
  split
  · rename_i k
    exfalso
    have e : bs.take 32 = bs := List.take_of_length_le (by omega)
    rw [e] at k
    rw [← k.2] at h
    exact h (upd_rby _ (rb0_byt k.1))
  · rfl
end Go.Proofs.Ytaedcblphcfkfaa
