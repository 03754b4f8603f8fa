/- Names and paths, as plain functions over texts. -/
import Derived.WalkKit
namespace Go.Proofs.Ytpahnkodhonlgaa
open Go.RowKit
set_option maxRecDepth 100000

/-- byte i of a text (0 behind its end) -/
def byt (s : ByteArray) (i : Nat) : Nat := if h : i < s.size then (s[i]'h).toNat else 0
theorem byt_lt (s : ByteArray) (i : Nat) : byt s i < 256 := by
  unfold byt
  split
  · exact UInt8.toNat_lt _
  · decide
theorem byt_in {s : ByteArray} {i : Nat} (h : i < s.size) : (s[i]'h).toNat = byt s i := by unfold byt; rw [dif_pos h]
/-- is there a slash or a 0 among the first k bytes? -/
def bad (s : ByteArray) (k : Nat) : Bool := (List.range k).any fun i => byt s i == 47 || byt s i == 0
/-- is there a 0 among the first k bytes? -/
def nul (s : ByteArray) (k : Nat) : Bool := (List.range k).any fun i => byt s i == 0
theorem bad_succ (s : ByteArray) (k : Nat) : bad s (k + 1) = (bad s k || (byt s k == 47 || byt s k == 0)) := by
  unfold bad; rw [List.range_succ, List.any_append]; simp
theorem nul_succ (s : ByteArray) (k : Nat) : nul s (k + 1) = (nul s k || byt s k == 0) := by
  unfold nul; rw [List.range_succ, List.any_append]; simp
theorem bad_mono {s : ByteArray} {k n : Nat} (h : bad s k = true) (hk : k ≤ n) : bad s n = true := by
  unfold bad at *
  rw [List.any_eq_true] at *
  obtain ⟨i, hi, e⟩ := h
  exact ⟨i, List.mem_range.2 (by have := List.mem_range.1 hi; omega), e⟩
theorem nul_mono {s : ByteArray} {k n : Nat} (h : nul s k = true) (hk : k ≤ n) : nul s n = true := by
  unfold nul at *
  rw [List.any_eq_true] at *
  obtain ⟨i, hi, e⟩ := h
  exact ⟨i, List.mem_range.2 (by have := List.mem_range.1 hi; omega), e⟩
/-- Valid -/
def val (s : ByteArray) : Bool := decide (1 ≤ s.size) && decide (s.size ≤ 255) && !(s.toList == [46]) && !(s.toList == [46, 46]) && !bad s s.size
end Go.Proofs.Ytpahnkodhonlgaa
