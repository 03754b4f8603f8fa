/- Contracts of the functions that make memory, and of the law that holds the examples of the page. -/
import Derived.Test.YtpahnkodhonlgaaHA
import Derived.Test.YtpahnkodhonlgaaSC
namespace Go.Proofs.Ytpahnkodhonlgaa
open Go.RowKit
set_option maxRecDepth 100000
set_option linter.unusedSimpArgs false
set_option linter.unusedVariables false

def ckE (n width : Int) : Int := if isW width then (if lg width < n then 9 else 0) else 1

theorem hcheck_any (n width : Int) (w : World) : Calls Try.prog 56 #[.int .u64 n, .int .i64 width] w fun e w' => e = .returned (.int .i64 (ckE n width)) ∧ w = w' := by
  by_cases hW : isW width = true
  · have hz := lg_ne hW
    by_cases hn : lg width < n
    · go_enter Try.func56, Try.ntmps56
      go_wp2_with (first | (go_at_call 67; refine (largest_any _ _).mono ?_; rintro e w' ⟨rfl, rfl⟩))
      go_ret
      exact ⟨by simp [ckE, hW, hn], rfl⟩
    · go_enter Try.func56, Try.ntmps56
      go_wp2_with (first | (go_at_call 67; refine (largest_any _ _).mono ?_; rintro e w' ⟨rfl, rfl⟩))
      go_ret
      exact ⟨by simp [ckE, hW, hn], rfl⟩
  · have hW' : isW width = false := by simpa using hW
    have hz : lg width = 0 := lg_eq hW'
    go_enter Try.func56, Try.ntmps56
    go_wp2_with (first | (go_at_call 67; refine (largest_any _ _).mono ?_; rintro e w' ⟨rfl, rfl⟩))
    go_ret
    exact ⟨by simp [ckE, hW'], rfl⟩

set_option maxHeartbeats 400000 in
theorem hlay_any (g o len cap : Nat) (n : Int) (cur : List Value) (w : World) (hB : Blk w g cur) (hl : len ≤ 8) (hf : o + len ≤ cur.length) :
    Calls Try.prog 57 #[.slice (some ⟨g, o, none⟩) len cap, .int .u64 n] w fun e w' => e = .returned (.tuple #[]) ∧ Blk w' g (splice cur o (bv (sto n len))) ∧ w.grownBy w' (some g) ∧ w'.heap.size = w.heap.size := by
  go_enter Try.func57, Try.ntmps57
  go_wp2
  go_loopw [7] (fun i wr => ∃ j : Nat, j ≤ len ∧ i = .int .i64 j ∧ Blk wr g (splice cur o (bv (sto n j))) ∧ w.grownBy wr (some g) ∧ wr.heap.size = w.heap.size) (fun i _ => len - (intOf i).toNat)
  case atStart => exact ⟨0, Nat.zero_le _, rfl, by simpa [sto, bv, splice_nil] using hB, World.grownBy.refl _ _, rfl⟩
  case round =>
    obtain ⟨j, hj, rfl, hb, hg, hs⟩ := hrel
    by_cases hlt : j < len
    · obtain ⟨c, hc⟩ : ∃ c, wr.cell? ⟨g, o + j, none⟩ = some c := by
        have hL : o + j < (splice cur o (bv (sto n j))).length := by
          rw [length_splice _ _ _ (by rw [bv_length, sto_length]; omega)]; omega
        exact ⟨_, by rw [hb.cell, List.getElem?_eq_getElem hL]⟩
      have hz := hb.frozen (o + j)
      go_wp2
      go_roundw
      case rel =>
        refine ⟨j + 1, by omega, by go_num, ?_, grown_trans hg (grown_set _ _ _ _), by rw [size_set]; exact hs⟩
        have h1 := hb.set (o + j) (.int .u8 (n / 2 ^ (8 * j) % 256))
        have e : o + j = o + (bv (sto n j)).length := by rw [bv_length, sto_length]
        rw [sto_snoc, bv_append, ← pow8]
        rw [e] at h1
        rw [splice_set _ _ _ _ (by rw [← e]; omega), ← e] at h1
        exact h1
      case measure => simp [intOf]; omega
    · have : j = len := by omega
      subst this
      go_wp2
      go_end0
      exact ⟨rfl, hb, hg, hs⟩

theorem lay_none (a : Option Addr) (cap : Nat) (n : Int) (w : World) :
    Calls Try.prog 57 #[.slice a 0 cap, .int .u64 n] w fun e w' => e = .returned (.tuple #[]) ∧ w = w' := by
  go_enter Try.func57, Try.ntmps57
  go_wp2
  go_loop [7] (fun i => i = .int .i64 0) (fun _ => 0)
  case atStart => rfl
  case round =>
    subst hrel
    go_wp2
    go_end0
    exact ⟨rfl, rfl⟩

theorem Try.size5H : (Try.prog.info? 5).map (·.size) = some 1 := by kernel_rfl

/-- a copy in memory of its own -/
theorem fresh_any (a : Option Addr) (len cap : Nat) (bs : List Int) (w : World) (R : Row w a len bs) (hl : len ≤ 281474976710656) :
    Calls Try.prog 59 #[.slice a len cap] w fun e w' => e = .returned (.slice (some ⟨w.heap.size, 0, none⟩) len len) ∧ Blk w' w.heap.size (bv bs) ∧ w.grownBy w' none ∧ w'.heap.size = w.heap.size + 1 := by
  obtain ⟨i5, hi, hz0, hz1, hz2⟩ := info_parts Try.info5
  go_enter Try.func59, Try.ntmps59
  go_wp2_with (first | (at_make; refine wpList_make8 _ rfl _ _ 29 rfl i5 Try.underlying29 hi hz0 hz1 hz2 _ _ _ _ len rfl rfl rfl rfl hl ?_; intro w1 hb1 hg1 hs1) | ((with_reducible refine copy_here ?_); (refine wpList_copy8 rfl _ _ 29 29 rfl Try.underlying29 Try.size5H _ _ _ _ _ _ rfl rfl w.heap.size 0 _ hb1 (bv bs) (by rw [bv_length, R.len_eq]; exact (Nat.min_self _).symm) (fun h0 => ⟨rfl, (R.grown hg1).src h0⟩) (by rw [bv_length, R.len_eq, List.length_replicate]; omega) (bv_one _) ?_; intro w2 hb2 hg2 hs2)))
  go_ret
  rw [splice_all _ _ (by simp [bv_length, R.len_eq])] at hb2
  exact ⟨rfl, hb2, grown_new hg1 hg2 (Nat.le_refl _), by omega⟩

theorem ckE_ok {n width : Int} (h : ckE n width = 0) : isW width = true ∧ n ≤ lg width := by
  unfold ckE at h
  split at h
  · split at h
    · simp at h
    · exact ⟨by assumption, by omega⟩
  · simp at h

end Go.Proofs.Ytpahnkodhonlgaa
