/- Plain facts of a flash without memory: what a write, an erasure leaves as it was. -/
import Derived.Test.YtdefcfmnhfeblaaRS
namespace Go.Proofs.Ytdefcfmnhfeblaa
open Go.RowKit
set_option linter.unusedSimpArgs false
set_option linter.unusedVariables false

theorem splice_out {α : Type} (B X : List α) (a n j : Nat) (hX : X.length = n) (hfit : a + n ≤ B.length) (hj : j < a ∨ a + n ≤ j) : (B.take a ++ X ++ B.drop (a + n))[j]? = B[j]? := by
  rcases hj with h | h
  · rw [List.append_assoc, List.getElem?_append_left (by simp; omega), List.getElem?_take, if_pos h]
  · rw [List.getElem?_append_right (by simp; omega), List.getElem?_drop]
    congr 1
    simp
    omega
theorem splice_in {α : Type} (B X : List α) (a n j : Nat) (hX : X.length = n) (hfit : a + n ≤ B.length) (h1 : a ≤ j) (h2 : j < a + n) : (B.take a ++ X ++ B.drop (a + n))[j]? = X[j - a]? := by
  rw [List.getElem?_append_left (by simp; omega), List.getElem?_append_right (by simp; omega)]
  congr 1
  simp
  omega
/-- a write, torn or not, changes no byte of another page -/
theorem Fm.write_keeps {m : Fm} {k : Nat} (h : m.Good k) {i : Nat} {ys : List Int} (hi : i < m.D.length) (hy : ys.length ≤ m.b) (j : Nat) (hj : j < i * m.b ∨ i * m.b + m.b ≤ j) : (m.written i ys).B[j]? = m.B[j]? := by
  have hf := mul_fit (b := m.b) (h.lD ▸ hi)
  exact splice_out _ _ _ _ _ (Fm.page_len hy) (by rw [h.lB]; exact hf) hj
/-- an erasure, torn or not, changes no byte of another sector -/
theorem Fm.erase_keeps {m : Fm} {k : Nat} (h : m.Good k) {i : Nat} (hi : i < m.W.length) (j : Nat) (hj : j < i * (m.p * m.b) ∨ i * (m.p * m.b) + m.p * m.b ≤ j) : (m.erased i).B[j]? = m.B[j]? := by
  have hf := mul_fit (b := m.p * m.b) (h.lW ▸ hi)
  rw [← Nat.mul_assoc m.s, ← h.lB] at hf
  exact splice_out _ _ _ _ _ (Fm.sector_len hf) hf hj
theorem ffs_get {n j : Nat} (h : j < n) : (ffs n)[j]? = some 255 := by unfold ffs; rw [List.getElem?_replicate, if_pos h]
/-- what was written to a new flash is read, and ff all around it -/
theorem Fm.reads_new {s p b : Nat} (hs : 0 < s ∧ s ≤ 16) (hp : 0 < p ∧ p ≤ 16) (hb : 0 < b ∧ b ≤ 64) {i : Nat} {ys : List Int} (hi : i < s * p) (hy : ys.length ≤ b) (j : Nat) (hj : j < s * p * b) : ((Fm.new s p b).written i ys).B[j]? = some (if i * b ≤ j ∧ j - i * b < ys.length then ys.getD (j - i * b) 0 else 255) := by
  have hg := Fm.good_new hs hp hb
  have hD : (Fm.new s p b).D.length = s * p := hg.lD
  by_cases h : j < i * b ∨ i * b + b ≤ j
  · rw [Fm.write_keeps hg (by rw [hD]; exact hi) hy j h, if_neg (by omega)]
    exact ffs_get hj
  · have hf := mul_fit (b := b) hi
    have e : ((Fm.new s p b).written i ys).B[j]? = ((Fm.new s p b).page ys)[j - i * b]? := splice_in _ _ (i * b) b j (Fm.page_len hy) (by rw [hg.lB]; exact hf) (by omega) (by omega)
    rw [e]
    have ep : (Fm.new s p b).page ys = ys ++ ffs (b - ys.length) := by simp [Fm.page, Fm.new]
    rw [ep]
    by_cases h2 : j - i * b < ys.length
    · rw [if_pos ⟨by omega, h2⟩, List.getElem?_append_left h2, List.getD_eq_getElem?_getD, List.getElem?_eq_getElem h2]; rfl
    · rw [if_neg (by omega), List.getElem?_append_right (by omega), ffs_get (by omega)]
end Go.Proofs.Ytdefcfmnhfeblaa
