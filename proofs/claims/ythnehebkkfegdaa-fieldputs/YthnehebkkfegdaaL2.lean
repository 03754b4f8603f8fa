/- The walk of FieldPuts, out of the contracts. -/
import Derived.Test.YthnehebkkfegdaaA3
import Derived.Deep.RegionWith
import Derived.Deep.DrawnRows
namespace Go.Proofs.Ythnehebkkfegdaa
open Go.RowKit
attribute [local go_sem ↓] Go.wp_at_zero Go.wp_at_succ

theorem Row.drew {w : World} {a : Option Addr} {len : Nat} {bs : List Int} (h : Row w a len bs) : Row w.drew a len bs := h.below ((Below.refl _ _).drew)
theorem ckE_W {n a : Int} (h : isW a = false) : ckE n a = 1 := by simp [ckE, h]

theorem below3 {w w1 w2 w3 : World} (hg1 : w.grownBy w1 none) (hg2 : w1.drew.grownBy w2 none) (hb3 : Below w2.heap.size w2 w3) : Below w.heap.size w w3 :=
  ((grown_below hg1).trans (((Below.refl _ w1).drew.trans (grown_below hg2)).mono hg1.size)).trans (hb3.mono (Nat.le_trans hg1.size hg2.size))

set_option maxHeartbeats 800000 in
theorem fieldPuts_walk (a0 : Option Addr) (len0 cap0 : Nat) (z0 : List Int) (a1 : Int) (a2 : Int) (w : World) (w0 : IsRow .u8 w a0 len0 cap0 z0) (w1 : (Lit.int .u64 a1).wf = true) (w2 : (Lit.int .i64 a2).wf = true) :
    Calls Try.prog 4 #[.slice a0 len0 cap0, .int .u64 a1, .int .i64 a2] w fun e w' => e = .returned (.bool true) ∧ Below w.heap.size w w' := by
  obtain ⟨bs, R⟩ : ∃ bs, Row w a0 len0 bs := ⟨_, w0.row⟩
  clear w0
  have hm : len0 ≤ 9223372036854775807 := R.le
  have b1 := wf_u64 w1
  by_cases h : (70000 : Int) < len0
  · go_enter Try.func4, Try.ntmps4
    go_wp2_with (go_at_call 9; refine (live_any _).mono ?_; rintro e w' ⟨rfl, hb⟩)
    go_ret
    exact ⟨rfl, by assumption⟩
  by_cases hW : isW a2 = true
  · obtain ⟨m, rfl⟩ : ∃ m : Nat, a2 = m := ⟨a2.toNat, by have := isW_pos hW; omega⟩
    have hm8 : m ≤ 8 := by have := isW_pos hW; omega
    have hc := ckE_fits hW b1.1
    have hF := fits_any a1 m w hm8 b1.1 b1.2
    by_cases hf : fits a1 m = true
    · rw [hf] at hc
      simp only [if_true] at hc
      have hP := put_ok a0 len0 cap0 _ a1 m w R (by omega) hc
      have hsl := sto_length a1 m
      have hsb := sto_byt a1 m
      have hS := fun w => store_any a1 m w hm8 b1.1 b1.2
      generalize sto a1 m = st at hP hsl hsb hS
      have HS : Hid (∀ w, Calls Try.prog 16 #[.int .u64 a1, .int .i64 m] w fun e w' => ∃ a cap, e = .returned (.slice a m cap) ∧ Row w' a m st ∧ w.grownBy w' none) := hS
      clear hS
      have heq : ((strOfNums (bs ++ st)).toList == (strOfNums bs ++ strOfNums st).toList) = true := by
        rw [ByteArray.toList_eq, ByteArray.toList_eq, ByteArray.data_append]; simp [strOfNums]
      go_enter Try.func4, Try.ntmps4
      go_wp2_with (first | (go_at_call 13; refine hP.mono ?_; rintro e w1 ⟨rfl, hb1, hg1, hs1⟩; clear hs1) | (go_at_call 14; refine (width_any _ _).mono ?_; rintro e w' ⟨rfl, rfl⟩) | (go_at_call 15; refine (fits_any _ _ _ hm8 b1.1 b1.2).mono ?_; rintro e w' ⟨rfl, rfl⟩) | (go_at_call 12; refine (num_any _ _).mono ?_; rintro e w' ⟨rfl, rfl⟩))
      have hb1 : Blk w1 w.heap.size (bv (bs ++ st)) := by assumption
      have hg1 : w.grownBy w1 none := by assumption
      have Rx : Row w1.drew (some ⟨w.heap.size, 0, none⟩) (len0 + m) (bs ++ st) := by
        have := hb1.row (R.byt.append hsb) (by rw [List.length_append, R.len_eq, hsl]; unfold maxLen; omega)
        rw [List.length_append, R.len_eq, hsl] at this
        exact this.drew
      have Rb : Row w1.drew a0 len0 bs := (R.grown hg1).drew
      have kx := conv_row (P := Try.prog) Rx (len0 + m) 22 9 Try.underlying22 Try.underlying5 Try.underlying9
      have kb := conv_row (P := Try.prog) Rb cap0 22 9 Try.underlying22 Try.underlying5 Try.underlying9
      have hcat : (strOfNums bs).size + (strOfNums st).size ≤ 9223372036854775807 := by rw [strOfNums_size, strOfNums_size, R.len_eq, hsl]; omega
      clear hb1
      go_region_with (first | (go_at_call 16; refine (HS.out _).mono ?_; rintro e w2 ⟨sa, cs, rfl, Rs, hg2⟩; have kx2 := conv_row (P := Try.prog) (Rx.grown hg2) (len0 + m) 22 9 Try.underlying22 Try.underlying5 Try.underlying9; have kb2 := conv_row (P := Try.prog) (Rb.grown hg2) cap0 22 9 Try.underlying22 Try.underlying5 Try.underlying9; have ks2 := conv_row (P := Try.prog) Rs cs 22 9 Try.underlying22 Try.underlying5 Try.underlying9) | (go_at_call 9; refine (live_any _).mono ?_; rintro e w3 ⟨rfl, hb3⟩))
      all_goals
        go_wp2
        go_ret
        exact ⟨rfl, below3 hg1 (by assumption) (by assumption)⟩
    · have hf' : fits a1 m = false := by simpa using hf
      rw [hf'] at hc
      have hP := put_no a0 len0 cap0 a1 m w (by rw [hc]; decide)
      rw [hc] at hP
      go_enter Try.func4, Try.ntmps4
      go_wp2_with (first | (go_at_call 13; refine hP.mono ?_; rintro e w1 ⟨rfl, rfl⟩) | (go_at_call 14; refine (width_any _ _).mono ?_; rintro e w' ⟨rfl, rfl⟩) | (go_at_call 15; refine (fits_any _ _ _ hm8 b1.1 b1.2).mono ?_; rintro e w' ⟨rfl, rfl⟩) | (go_at_call 12; refine (num_any _ _).mono ?_; rintro e w' ⟨rfl, rfl⟩) | (go_at_call 9; refine (live_any _).mono ?_; rintro e w' ⟨rfl, hb⟩))
      go_ret
      exact ⟨rfl, by assumption⟩
  · have hW' : isW a2 = false := by simpa using hW
    have hP := put_no a0 len0 cap0 a1 a2 w (by rw [ckE_W hW']; decide)
    rw [ckE_W hW'] at hP
    go_enter Try.func4, Try.ntmps4
    go_wp2_with (first | (go_at_call 13; refine hP.mono ?_; rintro e w1 ⟨rfl, rfl⟩) | (go_at_call 14; refine (width_any _ _).mono ?_; rintro e w' ⟨rfl, rfl⟩) | (go_at_call 12; refine (num_any _ _).mono ?_; rintro e w' ⟨rfl, rfl⟩) | (go_at_call 9; refine (live_any _).mono ?_; rintro e w' ⟨rfl, hb⟩))
    go_ret
    exact ⟨rfl, by assumption⟩
end Go.Proofs.Ythnehebkkfegdaa
