/- The document's sum of bytes. -/
import Derived.Test.YtaedcblphcfkfaaProg
import Derived.Test.YtaedcblphcfkfaaSA
import Derived.WalkLawsBesides
import Derived.Deep.QuietTactic
import Derived.BigQuiet
namespace Go.Proofs.Ytaedcblphcfkfaa
open Go.RowKit
set_option linter.unusedSimpArgs false
set_option linter.unusedVariables false

theorem half1 {x : Nat} (h : x % 2 = 1) : half x = x / 2 ^^^ 3988292384 := by simp [half, h]
theorem half0 {x : Nat} (h : x % 2 ≠ 1) : half x = x / 2 := by simp [half, h]
theorem xorP {x : Nat} (h : x < 4294967296) : bits .xor .u32 ((x : Int) / 2) 3988292384 = ((x / 2 ^^^ 3988292384 : Nat) : Int) := xor32 (a := x / 2) (b := 3988292384) (by omega) (by decide)

theorem refentry_any (n : Nat) (w : World) (hn : n < 4294967296) : Calls Try.prog 39 #[.int .u32 n] w fun e w' => e = .returned (.int .u32 (ent n)) ∧ w = w' := by
  go_enter Try.func39, Try.ntmps39
  go_wp2
  go_loop [0, 3] (fun v i => ∃ j : Nat, j ≤ 8 ∧ i = .int .i64 j ∧ v = .int .u32 (halves j n)) (fun _ i => 8 - (intOf i).toNat)
  case atStart => exact ⟨0, Nat.zero_le _, rfl, rfl⟩
  case round =>
    obtain ⟨j, hj, rfl, rfl⟩ := hrel
    by_cases hlt : j < 8
    · have hx := halves_lt hn j
      have hs : halves (j + 1) n = half (halves j n) := rfl
      generalize halves j n = x at hx hs
      by_cases hp : x % 2 = 1
      · rw [half1 hp] at hs
        have hp' : ((x : Int) % 2) = 1 := by omega
        go_wp2
        go_round
        case rel => exact ⟨j + 1, by omega, by go_num, by rw [hs, xorP hx]⟩
        case measure => simp [intOf]; omega
      · rw [half0 hp] at hs
        have hp' : ((x : Int) % 2) = 0 := by omega
        go_wp2
        go_round
        case rel => exact ⟨j + 1, by omega, by go_num, by rw [hs]; rfl⟩
        case measure => simp [intOf]; omega
    · go_wp2
      go_ret
      have : j = 8 := by omega
      subst this
      exact ⟨rfl, rfl⟩

theorem stp_eq {T : Nat → Nat} (hT : Tab T) {x : Nat} {b : Int} (hb : 0 ≤ b ∧ b ≤ 255) (hx : x < 4294967296) : bits .xor .u32 ((x : Int) / 256) (T (x % 256 ^^^ b.toNat)) = ((stp T x b : Nat) : Int) :=
  xor32 (a := x / 256) (by omega) (hT _ (ix_lt hb))
theorem ix_eq {x : Nat} {b : Int} (hb : 0 ≤ b ∧ b ≤ 255) : bits .xor .u32 ((x : Int) % 256) b = ((x % 256 ^^^ b.toNat : Nat) : Int) := by
  obtain ⟨c, rfl⟩ := Int.eq_ofNat_of_zero_le hb.1
  exact xor32 (a := x % 256) (b := c) (by omega) (by omega)

theorem refcrc_any (c : Nat) (a : Option Addr) (len cap : Nat) (bs : List Int) (w : World) (R : Row w a len bs) (hc : c < 4294967296) : Calls Try.prog 27 #[.int .u32 c, .slice a len cap] w fun e w' => e = .returned (.int .u32 (crc ent c bs)) ∧ w = w' := by
  have hle := R.le
  unfold maxLen at hle
  have e1 : (4294967295 - (c : Int)) = ((4294967295 - c : Nat) : Int) := by omega
  have hd : 4294967295 - c < 4294967296 := by omega
  unfold crc
  generalize 4294967295 - c = d at e1 hd
  go_enter Try.func27, Try.ntmps27
  go_wp2
  go_loop [0, 5] (fun v i => ∃ j : Nat, j ≤ len ∧ i = .int .i64 j ∧ v = .int .u32 (upd ent d (bs.take j))) (fun _ i => len - (intOf i).toNat)
  case atStart => exact ⟨0, Nat.zero_le _, rfl, rfl⟩
  case round =>
    obtain ⟨j, hj, rfl, rfl⟩ := hrel
    by_cases hlt : j < len
    · obtain ⟨b, off, rfl, hc⟩ := R.cells (by omega)
      have hcell := hc j hlt
      have hr := R.byt.getD j
      have hs := upd_snoc ent d bs j (by rw [R.len_eq]; exact hlt)
      have hx := upd_lt ent_tab (R.byt.take j) hd
      generalize bs.getD j 0 = x at hcell hr hs
      generalize upd ent d (bs.take j) = y at hs hx
      clear hc
      have hw : IntKind.u32.wrap x = x := by rw [IntKind.wrap_u32]; omega
      have hi := ix_eq (x := y) hr
      have hE := refentry_any (y % 256 ^^^ x.toNat) w (by have := ix_lt (c := y) hr; omega)
      have hS := stp_eq ent_tab hr hx
      go_wp2_with (go_at_call 39; refine hE.mono ?_; rintro e w' ⟨rfl, rfl⟩)
      go_round
      case rel => exact ⟨j + 1, by omega, by go_num, by rw [hs, ← hS]⟩
      case measure => simp [intOf]; omega
    · have hx := upd_lt ent_tab R.byt hd
      have : j = len := by omega
      subst this
      rw [List.take_of_length_le (Nat.le_of_eq R.len_eq)]
      generalize hy : upd ent d bs = y at hx
      have e2 : (4294967295 - (y : Int)) = ((4294967295 - y : Nat) : Int) := by omega
      go_wp2
      go_ret
      exact ⟨rfl, rfl⟩
end Go.Proofs.Ytaedcblphcfkfaa
