/- Contracts of the functions on numbers and bytes: each returns what the plain function of the same shape reckons, and memory stands. -/
import Derived.Test.YtaedcblphcfkfaaSB
import Derived.Test.YtaedcblphcfkfaaRT
namespace Go.Proofs.Ytaedcblphcfkfaa
open Go.RowKit
set_option linter.unusedSimpArgs false
set_option linter.unusedVariables false

theorem entry_any (n : Nat) (w : World) (hn : n < 4294967296) : Calls Try.prog 49 #[.int .u32 n] w fun e w' => e = .returned (.int .u32 (ent n)) ∧ w = w' := by
  go_enter Try.func49, Try.ntmps49
  go_wp2
  go_loop [0, 3, 4] (fun v _ i => ∃ j : Nat, j ≤ 8 ∧ i = .int .i64 j ∧ v = .int .u32 (halves j n)) (fun _ _ i => 8 - (intOf i).toNat)
  case atStart => exact ⟨0, Nat.zero_le _, rfl, rfl⟩
  case round =>
    obtain ⟨j, hj, rfl, rfl⟩ := hrel
    by_cases hlt : j < 8
    · have hx := halves_lt hn j
      have hs : halves (j + 1) n = half (halves j n) := rfl
      generalize halves j n = x at hx hs
      by_cases hp : x % 2 = 1
      · rw [half1 hp] at hs
        have h1 : bits .and .u32 (x : Int) 1 = 1 := by rw [and1 hx, hp]; rfl
        go_wp2
        go_round
        case rel => exact ⟨j + 1, by omega, by go_num, by rw [hs, xorP hx]⟩
        case measure => simp [intOf]; omega
      · rw [half0 hp] at hs
        have h1 : bits .and .u32 (x : Int) 1 = 0 := by rw [and1 hx]; omega
        go_wp2
        go_round
        case rel => exact ⟨j + 1, by omega, by go_num, by rw [hs]; rfl⟩
        case measure => simp [intOf]; omega
    · go_wp2
      go_ret
      have : j = 8 := by omega
      subst this
      exact ⟨rfl, rfl⟩

theorem dig1_eq {x : Nat} {b : Int} (hx : x < 18446744073709551616) (hb : 0 ≤ b ∧ b ≤ 255) : IntKind.u64.wrap (bits .xor .u64 (x : Int) b * 1099511628211) = ((dig1 x b : Nat) : Int) := by
  obtain ⟨c, rfl⟩ := Int.eq_ofNat_of_zero_le hb.1
  rw [xor64 hx (by omega), IntKind.wrap_u64]
  unfold dig1
  rw [Int.natCast_emod, Int.natCast_mul]
  rfl

end Go.Proofs.Ytaedcblphcfkfaa
