/- Contracts of Set and Part, and of the document's Set. -/
import Derived.Test.YtpahnkodhonlgaaHC
namespace Go.Proofs.Ytpahnkodhonlgaa
open Go.RowKit
set_option maxRecDepth 100000
set_option linter.unusedSimpArgs false
set_option linter.unusedVariables false

theorem Row.cut {w : World} {a : Option Addr} {len : Nat} {bs : List Int} (R : Row w a len bs) (k m : Nat) (h : k + m ≤ len) : Row w (a.map (·.add k)) m ((bs.drop k).take m) := by
  have hl := R.len_eq
  refine ⟨by simp; omega, by have := R.le; omega, (R.byt.drop k).take m, fun h0 => ?_⟩
  obtain ⟨b, off, rfl, hc⟩ := R.cells (by omega)
  have hadd : (⟨b, off, none⟩ : Addr).add k = ⟨b, off + k, none⟩ := by unfold Addr.add; split <;> simp_all
  refine ⟨b, off + k, by simp [hadd], fun i hi => ?_⟩
  rw [Nat.add_assoc, hc (k + i) (by omega), getD_take _ _ _ hi, List.getD_eq_getElem?_getD, List.getD_eq_getElem?_getD, List.getElem?_drop]
theorem Row.zero {w : World} (a : Option Addr) (bs : List Int) (k m : Nat) (h : m = 0) : Row w a m ((bs.drop k).take m) := by
  subst h
  exact ⟨by simp, Nat.zero_le _, fun n hn => by simp at hn, fun h => absurd h (by omega)⟩

set_option maxHeartbeats 400000 in
theorem part_ok (a : Option Addr) (len cap : Nat) (bs : List Int) (k m : Nat) (w : World) (R : Row w a len bs) (hc : len ≤ cap) (hl : len ≤ 140737488355328) (hin : k + m ≤ len) :
    Calls Try.prog 62 #[.slice a len cap, .int .i64 k, .int .i64 m] w fun e w' => e = .returned (.tuple #[.slice (some ⟨w.heap.size, 0, none⟩) m m, .int .i64 0]) ∧ Blk w' w.heap.size (bv ((bs.drop k).take m)) ∧ w.grownBy w' none ∧ w'.heap.size = w.heap.size + 1 := by
  have hH := holds_any a len cap k m w R.le (by omega) (by omega) (by omega)
  have hi : inB len k m = true := by simp [inB]; omega
  go_enter Try.func62, Try.ntmps62
  go_wp2_with (first | (go_at_call 68; refine hH.mono ?_; rintro e w' ⟨rfl, rfl⟩))
  · refine (fresh_any _ m _ _ w (Row.zero a bs k m (by omega)) (by omega)).mono ?_
    rintro e w1 ⟨rfl, hb1, hg1, hs1⟩
    go_wp2
    go_ret2
    exact ⟨rfl, hb1, hg1, hs1⟩
  · refine (fresh_any _ m _ _ w (R.cut k m hin) (by omega)).mono ?_
    rintro e w1 ⟨rfl, hb1, hg1, hs1⟩
    go_wp2
    go_ret2
    exact ⟨rfl, hb1, hg1, hs1⟩

theorem part_no (a : Option Addr) (len cap : Nat) (k m : Int) (w : World) (hl : len ≤ maxLen) (h1 : k ≤ 9223372036854775807) (h2 : m ≤ 9223372036854775807) (hin : inB len k m = false) :
    Calls Try.prog 62 #[.slice a len cap, .int .i64 k, .int .i64 m] w fun e w' => e = .returned (.tuple #[.slice none 0 0, .int .i64 9]) ∧ w = w' := by
  by_cases hm : m < 0
  · go_enter Try.func62, Try.ntmps62
    go_wp2
    go_ret2
    exact ⟨rfl, rfl⟩
  · have hH := holds_any a len cap k m w hl (by omega) h2 h1
    have hd : decide (m < 0) = false := by simpa using hm
    go_enter Try.func62, Try.ntmps62
    go_wp2_with (first | (go_at_call 68; refine hH.mono ?_; rintro e w' ⟨rfl, rfl⟩))
    go_ret2
    exact ⟨rfl, rfl⟩

theorem bv_splice (bs : List Int) (k : Nat) (xs : List Int) : bv (splice bs k xs) = splice (bv bs) k (bv xs) := by
  simp [bv, splice, List.map_take, List.map_drop]

theorem Row.none_of {w : World} (a : Option Addr) {len : Nat} {bs : List Int} (h : len = 0) (hb : bs.length = len) : Row w a len bs := by
  subst h
  obtain rfl : bs = [] := List.eq_nil_of_length_eq_zero hb
  exact ⟨rfl, Nat.zero_le _, fun n hn => by simp at hn, fun h => absurd h (by omega)⟩
theorem map_add (b off k : Nat) : (some ⟨b, off, none⟩ : Option Addr).map (·.add k) = some ⟨b, off + k, none⟩ := by
  have hadd : (⟨b, off, none⟩ : Addr).add k = ⟨b, off + k, none⟩ := by unfold Addr.add; split <;> simp_all
  simp [hadd]

end Go.Proofs.Ytpahnkodhonlgaa
