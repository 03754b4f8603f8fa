/- A flash without memory (Fm), and the document's flash held against it (Rep). -/
import Derived.Test.YtdefcfmnhfeblaaRG
import Derived.Test.YtdefcfmnhfeblaaRJ
import Derived.Test.YtdefcfmnhfeblaaRN
namespace Go.Proofs.Ytdefcfmnhfeblaa
open Go.RowKit
set_option linter.unusedSimpArgs false
set_option linter.unusedVariables false

/-- a flash, without memory -/
structure Fm where
  s : Nat
  p : Nat
  b : Nat
  B : List Int
  D : List Bool
  W : List Int
  ops : Int
  off : Bool
  after : Int
  T : List Int
def Fm.new (s p b : Nat) : Fm := ⟨s, p, b, ffs (s * p * b), List.replicate (s * p) false, List.replicate s 0, 0, false, 0, []⟩
def Fm.left (m : Fm) : Int := if m.after = 0 then 0 else m.after - 1
def Fm.wrE (m : Fm) (page : Int) (ys : List Int) : Int := Proofs.Ytdefcfmnhfeblaa.wrE m.D.length m.b m.off m.D page ys.length
def Fm.erE (m : Fm) (sec : Int) : Int := Proofs.Ytdefcfmnhfeblaa.erE m.W.length m.off sec
def Fm.page (m : Fm) (ys : List Int) : List Int := if m.after = 1 then ovr (ys ++ ffs (m.b - ys.length)) m.T else ys ++ ffs (m.b - ys.length)
def Fm.sector (m : Fm) (i : Nat) : List Int := if m.after = 1 then ovr ((m.B.drop (i * (m.p * m.b))).take (m.p * m.b)) m.T else ffs (m.p * m.b)
def Fm.written (m : Fm) (i : Nat) (ys : List Int) : Fm := { m with B := m.B.take (i * m.b) ++ m.page ys ++ m.B.drop (i * m.b + m.b), D := m.D.set i true, ops := m.ops + 1, off := decide (m.after = 1), after := m.left }
def Fm.erased (m : Fm) (i : Nat) : Fm := { m with B := m.B.take (i * (m.p * m.b)) ++ m.sector i ++ m.B.drop (i * (m.p * m.b) + m.p * m.b), D := drg m.D (i * m.p) (decide (m.after = 1)) m.p, W := m.W.set i (m.W.getD i 0 + 1), ops := m.ops + 1, off := decide (m.after = 1), after := m.left }
def Fm.torn (m : Fm) : Int := if m.after = 1 then 40 else 0
def Fm.write (m : Fm) (page : Int) (ys : List Int) : Fm × Int := if m.wrE page ys = 0 then (m.written page.toNat ys, m.torn) else (m, m.wrE page ys)
def Fm.erase (m : Fm) (sec : Int) : Fm × Int := if m.erE sec = 0 then (m.erased sec.toNat, m.torn) else (m, m.erE sec)
def Fm.arm (m : Fm) (n : Int) (ts : List Int) : Fm × Int := if arE n m.off = 0 then ({ m with after := n, T := ts }, 0) else (m, arE n m.off)
def Fm.boot (m : Fm) : Fm := { m with off := false, after := 0, T := [] }

/-- a flash on which at most k calls were made -/
structure Fm.Good (m : Fm) (k : Nat) : Prop where
  s : 0 < m.s ∧ m.s ≤ 16
  p : 0 < m.p ∧ m.p ≤ 16
  b : 0 < m.b ∧ m.b ≤ 64
  lB : m.B.length = m.s * m.p * m.b
  lD : m.D.length = m.s * m.p
  lW : m.W.length = m.s
  ops : 0 ≤ m.ops ∧ m.ops ≤ k
  after : 0 ≤ m.after ∧ m.after ≤ 9223372036854775807
  W : ∀ x ∈ m.W, 0 ≤ x ∧ x ≤ k
theorem Fm.Good.sp {m : Fm} {k : Nat} (h : m.Good k) : 0 < m.s * m.p ∧ m.s * m.p ≤ 256 := ⟨Nat.mul_pos h.s.1 h.p.1, Nat.mul_le_mul h.s.2 h.p.2⟩
theorem Fm.Good.spb {m : Fm} {k : Nat} (h : m.Good k) : 0 < m.s * m.p * m.b ∧ m.s * m.p * m.b ≤ 16384 := ⟨Nat.mul_pos h.sp.1 h.b.1, Nat.mul_le_mul h.sp.2 h.b.2⟩
theorem Fm.Good.mono {m : Fm} {k k' : Nat} (h : m.Good k) (hk : k ≤ k') : m.Good k' := ⟨h.s, h.p, h.b, h.lB, h.lD, h.lW, ⟨h.ops.1, by have := h.ops.2; omega⟩, h.after, fun x hx => ⟨(h.W x hx).1, by have := (h.W x hx).2; omega⟩⟩
theorem Fm.good_new {s p b : Nat} (hs : 0 < s ∧ s ≤ 16) (hp : 0 < p ∧ p ≤ 16) (hb : 0 < b ∧ b ≤ 64) : (Fm.new s p b).Good 0 :=
  ⟨hs, hp, hb, by simp [Fm.new, ffs], by simp [Fm.new], by simp [Fm.new], by simp [Fm.new], by simp [Fm.new], fun x hx => by rw [(List.mem_replicate.1 hx).2]; simp⟩
theorem Fm.good_boot {m : Fm} {k : Nat} (h : m.Good k) : m.boot.Good k := ⟨h.s, h.p, h.b, h.lB, h.lD, h.lW, h.ops, by simp [Fm.boot], h.W⟩
theorem Fm.good_arm {m : Fm} {k : Nat} (h : m.Good k) (n : Int) (ts : List Int) (hn : n ≤ 9223372036854775807) : (m.arm n ts).1.Good k := by
  unfold Fm.arm
  split
  · rename_i h0
    have hn1 : ¬ n < 1 := by
      intro h1
      unfold arE at h0
      rw [if_pos h1] at h0
      exact absurd h0 (by decide)
    exact ⟨h.s, h.p, h.b, h.lB, h.lD, h.lW, h.ops, ⟨by simp; omega, hn⟩, h.W⟩
  · exact h
theorem Fm.left_in {m : Fm} (h : 0 ≤ m.after ∧ m.after ≤ 9223372036854775807) : 0 ≤ m.left ∧ m.left ≤ 9223372036854775807 := by
  unfold Fm.left
  split <;> omega
theorem Fm.wr_in {m : Fm} {page : Int} {ys : List Int} (h : m.wrE page ys = 0) : ∃ i : Nat, page = i ∧ i < m.D.length ∧ ys.length ≤ m.b ∧ m.off = false ∧ m.D[i]? = some false := by
  unfold Fm.wrE Proofs.Ytdefcfmnhfeblaa.wrE at h
  split at h
  · cases h
  · split at h
    · cases h
    · split at h
      · cases h
      · split at h
        · cases h
        · rename_i h1 h2 h3 h4
          obtain ⟨i, rfl⟩ := Int.eq_ofNat_of_zero_le (by omega : 0 ≤ page)
          refine ⟨i, rfl, by omega, by omega, by simpa using h3, ?_⟩
          have hi : i < m.D.length := by omega
          rw [List.getElem?_eq_getElem hi]
          simp [List.getD_eq_getElem?_getD, List.getElem?_eq_getElem hi] at h4
          rw [h4]
theorem Fm.er_in {m : Fm} {sec : Int} (h : m.erE sec = 0) : ∃ i : Nat, sec = i ∧ i < m.W.length ∧ m.off = false := by
  unfold Fm.erE Proofs.Ytdefcfmnhfeblaa.erE at h
  split at h
  · cases h
  · split at h
    · cases h
    · rename_i h1 h2
      obtain ⟨i, rfl⟩ := Int.eq_ofNat_of_zero_le (by omega : 0 ≤ sec)
      exact ⟨i, rfl, by omega, by simpa using h2⟩
theorem mul_fit {i n b : Nat} (h : i < n) : i * b + b ≤ n * b := by
  have := Nat.mul_le_mul_right b (show i + 1 ≤ n from h)
  rwa [Nat.add_mul, Nat.one_mul] at this
theorem Fm.page_len {m : Fm} {ys : List Int} (h : ys.length ≤ m.b) : (m.page ys).length = m.b := by
  unfold Fm.page
  split
  · rw [ovr_len]; simp [ffs]; omega
  · simp [ffs]; omega
theorem Fm.good_write {m : Fm} {k : Nat} (h : m.Good k) (page : Int) (ys : List Int) : (m.write page ys).1.Good (k + 1) := by
  unfold Fm.write
  split
  · rename_i h0
    obtain ⟨i, rfl, hi, hy, ho, hd⟩ := Fm.wr_in h0
    have hf := mul_fit (b := m.b) (h.lD ▸ hi)
    have hB := h.lB
    refine ⟨h.s, h.p, h.b, ?_, by simp [Fm.written]; exact h.lD, h.lW, ?_, Fm.left_in h.after, fun x hx => ⟨(h.W x hx).1, by have := (h.W x hx).2; omega⟩⟩
    · simp only [Fm.written, Int.toNat_natCast, List.length_append, List.length_take, List.length_drop, Fm.page_len hy]
      omega
    · have := h.ops
      simp only [Fm.written]
      omega
  · exact h.mono (by omega)
theorem Fm.sector_len {m : Fm} {i : Nat} (h : i * (m.p * m.b) + m.p * m.b ≤ m.B.length) : (m.sector i).length = m.p * m.b := by
  unfold Fm.sector
  split
  · rw [ovr_len]; simp; omega
  · simp [ffs]
theorem Fm.good_erase {m : Fm} {k : Nat} (h : m.Good k) (sec : Int) : (m.erase sec).1.Good (k + 1) := by
  unfold Fm.erase
  split
  · rename_i h0
    obtain ⟨i, rfl, hi, ho⟩ := Fm.er_in h0
    have hf := mul_fit (b := m.p * m.b) (h.lW ▸ hi)
    have hfD := mul_fit (b := m.p) (h.lW ▸ hi)
    have hB := h.lB
    rw [Nat.mul_assoc] at hB
    rw [← hB] at hf
    have hD := h.lD
    rw [← hD] at hfD
    have hWi : m.W.getD i 0 ∈ m.W := by
      rw [List.getD_eq_getElem?_getD, List.getElem?_eq_getElem hi]; simp
    refine ⟨h.s, h.p, h.b, ?_, ?_, by simp [Fm.erased]; exact h.lW, ?_, Fm.left_in h.after, ?_⟩
    · simp only [Fm.erased, Int.toNat_natCast, List.length_append, List.length_take, List.length_drop, Fm.sector_len hf]
      rw [Nat.mul_assoc]
      omega
    · simp only [Fm.erased, Int.toNat_natCast]
      rw [drg_len _ hfD]
      exact hD
    · have := h.ops
      simp only [Fm.erased]
      omega
    · intro x hx
      simp only [Fm.erased, Int.toNat_natCast] at hx
      rcases List.mem_or_eq_of_mem_set hx with h1 | h1
      · exact ⟨(h.W x h1).1, by have := (h.W x h1).2; omega⟩
      · have := h.W _ hWi
        subst h1
        omega
  · exact h.mono (by omega)
end Go.Proofs.Ytdefcfmnhfeblaa
