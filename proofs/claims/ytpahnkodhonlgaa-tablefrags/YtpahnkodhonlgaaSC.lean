/- The document's numbers as bytes. -/
import Derived.Test.YtpahnkodhonlgaaProg
import Derived.Test.YtpahnkodhonlgaaRT
namespace Go.Proofs.Ytpahnkodhonlgaa
open Go.RowKit
set_option maxRecDepth 100000
set_option linter.unusedSimpArgs false
set_option linter.unusedVariables false

theorem div_step (n : Int) (j : Nat) : n / 256 ^ j / 256 = n / 256 ^ (j + 1) := by
  rw [Int.ediv_ediv_of_nonneg (Int.pow_nonneg (by decide)), Int.pow_succ]
theorem div_bd (n : Int) (j : Nat) (h0 : 0 ≤ n) (h1 : n < 18446744073709551616) : 0 ≤ n / 256 ^ j ∧ n / 256 ^ j < 18446744073709551616 := by
  have hp : (0 : Int) ≤ 256 ^ j := Int.pow_nonneg (by decide)
  exact ⟨Int.ediv_nonneg h0 hp, Int.lt_of_le_of_lt (Int.ediv_le_self _ h0) h1⟩
set_option maxHeartbeats 400000 in
theorem load_in (b off len cap : Nat) (bs : List Int) (k n : Nat) (w : World) (hl : len ≤ maxLen) (hlen : bs.length = len) (hb : Byt bs) (hn8 : n ≤ 8) (hin : k + n ≤ len)
    (hc : ∀ i, i < len → w.cell? ⟨b, off + i, none⟩ = some (.int .u8 (bs.getD i 0))) :
    Calls Try.prog 43 #[.slice (some ⟨b, off, none⟩) len cap, .int .i64 k, .int .i64 n] w fun e w' => e = .returned (.int .u64 (le ((bs.drop k).take n))) ∧ w = w' := by
  unfold maxLen at hl
  go_enter Try.func43, Try.ntmps43
  go_wp2
  go_loop [7, 8] (fun v i => ∃ j : Nat, j ≤ n ∧ i = .int .i64 ((j : Int) - 1) ∧ v = .int .u64 (le ((bs.drop (k + j)).take (n - j)))) (fun _ i => (intOf i + 1).toNat)
  case atStart => exact ⟨n, Nat.le_refl _, rfl, by simp [le]⟩
  case round =>
    obtain ⟨j, hj, rfl, rfl⟩ := hrel
    by_cases hlt : 0 < j
    · obtain ⟨i, rfl⟩ : ∃ i, j = i + 1 := ⟨j - 1, by omega⟩
      have hcell := hc (k + i) (by omega)
      have hr := hb.getD (k + i)
      go_wp2
      go_round
      case rel => exact ⟨i, by omega, rfl, by rw [load_step hb k n i hn8 (by omega) (by omega)]⟩
      case measure => simp [intOf]
    · go_wp2
      go_ret
      have : j = 0 := by omega
      subst this
      exact ⟨rfl, rfl⟩

theorem load_row (a : Option Addr) (len cap : Nat) (bs : List Int) (k n : Nat) (w : World) (R : Row w a len bs) (h0 : 0 < n) (hn8 : n ≤ 8) (hin : k + n ≤ len) :
    Calls Try.prog 43 #[.slice a len cap, .int .i64 k, .int .i64 n] w fun e w' => e = .returned (.int .u64 (le ((bs.drop k).take n))) ∧ w = w' := by
  obtain ⟨b, off, rfl, hc⟩ := R.cells (by omega)
  exact load_in b off len cap bs k n w R.le R.len_eq R.byt hn8 hin hc

set_option maxHeartbeats 400000 in
theorem store_own (n : Int) (m : Nat) (w : World) (hm : m ≤ 8) (h0 : 0 ≤ n) (h1 : n < 18446744073709551616) :
    Calls Try.prog 42 #[.int .u64 n, .int .i64 m] w fun e w' => ∃ v, e = .returned v ∧ w'.ownsRow w.heap.size 5 1 v m (bv (sto n m)) ∧ w.grownBy w' none := by
  obtain ⟨i5, hi, hz0, hz1, hz2⟩ := info_parts Try.info5
  go_enter Try.func42, Try.ntmps42
  go_wp2
  go_loopw [0, 5, 6] (fun x v i wr => ∃ j : Nat, j ≤ m ∧ i = .int .i64 j ∧ x = .int .u64 (n / 256 ^ j) ∧ wr.ownsRow w.heap.size 5 1 v j (bv (sto n j)) ∧ w.grownBy wr none) (fun _ _ i _ => m - (intOf i).toNat)
  case atStart => exact ⟨0, Nat.zero_le _, rfl, by simp, World.ownsRow_nil _ _ _ _, World.grownBy.refl _ _⟩
  case round =>
    obtain ⟨j, hj, rfl, rfl, hown, hgr⟩ := hrel
    have hd := div_bd n j h0 h1
    by_cases hlt : j < m
    · go_wp2_with (at_builtin; (refine wpList_append_own _ rfl _ _ 29 rfl w.heap.size 5 i5 (.int .u8 0) 1 1 Try.underlying29 hi hz0 hz1 hz2 rfl (by decide) _ _ _ rfl (hown.alloc _) ⟨wr.heap.size, 0, none⟩ 1 1 (bv [n / 256 ^ j % 256]) rfl rfl ?c1 (bv_one _) ?c3 ?c4 ?c5 ?_))
      case c1 => exact cell_one_new _ _ _
      case c3 => unfold maxLen; omega
      case c4 => omega
      case c5 => have := hgr.size; simp; omega
      · intro v' w1 hown' hgrow _
        have R : w1.ownsRow w.heap.size 5 1 v' (j + 1) (bv (sto n (j + 1))) := by rw [sto_snoc, bv_append]; exact hown'
        have hg' : w.grownBy w1 none := grown_own (grown_trans hgr (World.grownBy_alloc wr _ none)) (hown.alloc _) hgrow (Nat.le_refl _)
        clear hown' hgrow hown hgr
        go_wp2
        go_roundw
        case rel => exact ⟨j + 1, by omega, by go_num, by rw [← div_step], R, hg'⟩
        case measure => simp [intOf]; omega
    · obtain rfl : j = m := by omega
      go_wp2
      go_ret
      exact ⟨_, rfl, hown, hgr⟩

end Go.Proofs.Ytpahnkodhonlgaa
