/- Contracts of More, Crc and Good. -/
import Derived.Test.YtaedcblphcfkfaaIB
namespace Go.Proofs.Ytaedcblphcfkfaa
open Go.RowKit
set_option linter.unusedSimpArgs false
set_option linter.unusedVariables false

theorem ix8_eq {x : Nat} {b : Int} (hb : 0 ≤ b ∧ b ≤ 255) : bits .xor .u8 ((x : Int) % 256) b = ((x % 256 ^^^ b.toNat : Nat) : Int) := by
  obtain ⟨c, rfl⟩ := Int.eq_ofNat_of_zero_le hb.1
  exact xor8 (a := x % 256) (b := c) (by omega) (by omega)
theorem nat_not32 {c : Nat} (h : c < 4294967296) : 4294967295 ^^^ c = 4294967295 - c := by
  apply Nat.eq_of_testBit_eq
  intro i
  have e : 4294967295 - c = 2 ^ 32 - (c + 1) := by omega
  rw [e, Nat.testBit_xor, Nat.testBit_two_pow_sub_succ (by omega), show (4294967295 : Nat) = 2 ^ 32 - 1 from rfl, Nat.testBit_two_pow_sub_one]
  by_cases hi : i < 32
  · simp [hi]
  · have : c.testBit i = false := Nat.testBit_lt_two_pow (Nat.lt_of_lt_of_le h (Nat.pow_le_pow_right (n := 2) (by decide) (Nat.le_of_not_lt hi)))
    simp [hi, this]
theorem not32 {c : Nat} (h : c < 4294967296) : bits .xor .u32 IntKind.u32.max (c : Int) = ((4294967295 - c : Nat) : Int) := by
  have := xor32 (a := 4294967295) (b := c) (by decide) h
  rw [nat_not32 h] at this
  exact this

set_option maxHeartbeats 400000 in
theorem more_tab (T : Nat → Nat) (hT : Tab T) (q c : Nat) (a : Option Addr) (len cap : Nat) (bs : List Int) (w : World) (B : SBlk w q (tcs T) 84) (R : Row w a len bs) (hc : c < 4294967296) :
    Calls Try.prog 38 #[.pointer (some ⟨q, 0, none⟩), .int .u32 c, .slice a len cap] w fun e w' => e = .returned (.int .u32 (crc T c bs)) ∧ w = w' := by
  have hle := R.le
  unfold maxLen at hle
  unfold crc
  have e1 := not32 hc
  have hd : 4294967295 - c < 4294967296 := by omega
  generalize 4294967295 - c = d at e1 hd
  have HB : Hid (SBlk w q (tcs T) 84) := B
  clear B
  go_enter Try.func38, Try.ntmps38
  go_wp2
  clear e1
  go_loop [1, 9, 17] (fun v _ i => ∃ j : Nat, j ≤ len ∧ i = .int .i64 j ∧ v = .int .u32 (upd T d (bs.take j))) (fun _ _ i => len - (intOf i).toNat)
  case atStart => exact ⟨0, Nat.zero_le _, rfl, rfl⟩
  case round =>
    obtain ⟨j, hj, rfl, rfl⟩ := hrel
    by_cases hlt : j < len
    · obtain ⟨b, off, rfl, hc⟩ := R.cells (by omega)
      have hcell := hc j hlt
      have hr := R.byt.getD j
      have hs := upd_snoc T d bs j (by rw [R.len_eq]; exact hlt)
      have hx := upd_lt hT (R.byt.take j) hd
      generalize bs.getD j 0 = x at hcell hr hs
      generalize upd T d (bs.take j) = y at hs hx
      clear hc
      have hi := ix8_eq (x := y) hr
      have hk := ix_lt (c := y) hr
      have hS := stp_eq hT hr hx
      generalize y % 256 ^^^ x.toNat = k at hi hk hS
      have ht := HB.out.cell k
      rw [tcs_get _ k hk] at ht
      have hw : IntKind.u8.wrap (y : Int) = (y : Int) % 256 := by rw [IntKind.wrap_u8]
      go_wp2
      go_round
      case rel => exact ⟨j + 1, by omega, by go_num, by rw [hs, ← hS]⟩
      case measure => simp [intOf]; omega
    · have hx := upd_lt hT R.byt hd
      have : j = len := by omega
      subst this
      rw [List.take_of_length_le (Nat.le_of_eq R.len_eq)]
      generalize hy : upd T d bs = y at hx
      have e2 := not32 hx
      go_wp2
      go_ret
      exact ⟨rfl, rfl⟩
end Go.Proofs.Ytaedcblphcfkfaa
