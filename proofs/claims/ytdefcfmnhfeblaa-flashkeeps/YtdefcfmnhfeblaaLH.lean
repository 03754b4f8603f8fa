/- Plain facts for FlashKeeps: a flash on which nothing is armed; what a write, an erasure leaves. -/
import Derived.Test.YtdefcfmnhfeblaaLE
namespace Go.Proofs.Ytdefcfmnhfeblaa
open Go.RowKit

/-- a flash that is on, with nothing armed -/
structure Fm.Plain (m : Fm) (s p b k : Nat) : Prop where
  good : m.Good k
  off : m.off = false
  after : m.after = 0
  s : m.s = s
  p : m.p = p
  b : m.b = b
theorem Fm.Plain.mono {m : Fm} {s p b k k' : Nat} (h : m.Plain s p b k) (hk : k ≤ k') : m.Plain s p b k' := ⟨h.good.mono hk, h.off, h.after, h.s, h.p, h.b⟩
theorem plain_new {s p b : Nat} (hs : 0 < s ∧ s ≤ 16) (hp : 0 < p ∧ p ≤ 16) (hb : 16 ≤ b ∧ b ≤ 64) : (Fm.new s p b).Plain s p b 0 := ⟨Fm.good_new hs hp ⟨by omega, hb.2⟩, rfl, rfl, rfl, rfl, rfl⟩
theorem plain_write {m : Fm} {s p b k : Nat} (h : m.Plain s p b k) (page : Int) (ys : List Int) : (m.write page ys).1.Plain s p b (k + 1) := by
  have hg := Fm.good_write h.good page ys
  refine ⟨hg, ?_, ?_, ?_, ?_, ?_⟩ <;> unfold Fm.write <;> split
  · simp [Fm.written, h.after]
  · exact h.off
  · simp [Fm.written, Fm.left, h.after]
  · exact h.after
  · exact h.s
  · exact h.s
  · exact h.p
  · exact h.p
  · exact h.b
  · exact h.b
theorem plain_erase {m : Fm} {s p b k : Nat} (h : m.Plain s p b k) (sec : Int) : (m.erase sec).1.Plain s p b (k + 1) := by
  have hg := Fm.good_erase h.good sec
  refine ⟨hg, ?_, ?_, ?_, ?_, ?_⟩ <;> unfold Fm.erase <;> split
  · simp [Fm.erased, h.after]
  · exact h.off
  · simp [Fm.erased, Fm.left, h.after]
  · exact h.after
  · exact h.s
  · exact h.s
  · exact h.p
  · exact h.p
  · exact h.b
  · exact h.b
/-- a write: torn or not, or refused -/
theorem keeps_write {m : Fm} {k : Nat} (h : m.Good k) (ho : m.off = false) (page : Int) (ys : List Int) :
    (((m.write page ys).2 = 0 ∨ (m.write page ys).2 = 40) ∧ ∃ i : Nat, page = i ∧ i * m.b + m.b ≤ m.B.length ∧ ∀ j, (j < i * m.b ∨ i * m.b + m.b ≤ j) → (m.write page ys).1.B[j]? = m.B[j]?) ∨
    (((m.write page ys).2 = 9 ∨ (m.write page ys).2 = 2 ∨ (m.write page ys).2 = 41) ∧ (m.write page ys).1.B = m.B) := by
  rcases wrE_cases m page ys with ⟨h1, hE⟩ | ⟨h1, h2, hE⟩ | ⟨i, rfl, hi, hl, ⟨hoff, hE⟩ | ⟨hoff, ⟨hd, hE⟩ | ⟨hd, hE⟩⟩⟩
  · rw [Fm.write, if_neg (by rw [hE]; decide), hE]; exact .inr ⟨.inl rfl, rfl⟩
  · rw [Fm.write, if_neg (by rw [hE]; decide), hE]; exact .inr ⟨.inr (.inl rfl), rfl⟩
  · rw [ho] at hoff; cases hoff
  · rw [Fm.write, if_neg (by rw [hE]; decide), hE]; exact .inr ⟨.inr (.inr rfl), rfl⟩
  · rw [Fm.write, if_pos hE]
    refine .inl ⟨?_, i, rfl, ?_, fun j hj => ?_⟩
    · simp only [Fm.torn]; split <;> simp
    · have := mul_fit (b := m.b) (h.lD ▸ hi); rw [h.lB]; exact this
    · rw [Int.toNat_natCast]; exact Fm.write_keeps h hi hl j hj
theorem keeps_erase {m : Fm} {k : Nat} (h : m.Good k) (ho : m.off = false) (sec : Int) :
    (((m.erase sec).2 = 0 ∨ (m.erase sec).2 = 40) ∧ ∃ i : Nat, sec = i ∧ i * (m.p * m.b) + m.p * m.b ≤ m.B.length ∧ ∀ j, (j < i * (m.p * m.b) ∨ i * (m.p * m.b) + m.p * m.b ≤ j) → (m.erase sec).1.B[j]? = m.B[j]?) ∨
    ((m.erase sec).2 = 9 ∧ (m.erase sec).1.B = m.B) := by
  rcases erE_cases m sec with ⟨h1, hE⟩ | ⟨i, rfl, hi, ⟨hoff, hE⟩ | ⟨hoff, hE⟩⟩
  · rw [Fm.erase, if_neg (by rw [hE]; decide), hE]; exact .inr ⟨rfl, rfl⟩
  · rw [ho] at hoff; cases hoff
  · rw [Fm.erase, if_pos hE]
    refine .inl ⟨?_, i, rfl, ?_, fun j hj => ?_⟩
    · simp only [Fm.torn]; split <;> simp
    · have := mul_fit (b := m.p * m.b) (h.lW ▸ hi); rw [← Nat.mul_assoc m.s, ← h.lB] at this; exact this
    · rw [Int.toNat_natCast]; exact Fm.erase_keeps h hi j hj
theorem write_len {m : Fm} {k : Nat} (h : m.Good k) (page : Int) (ys : List Int) : (m.write page ys).1.B.length = m.B.length := by
  have := (Fm.good_write h page ys).lB
  unfold Fm.write at this ⊢
  split
  · rename_i hE
    rw [if_pos hE] at this
    exact this.trans h.lB.symm
  · rfl
theorem erase_len {m : Fm} {k : Nat} (h : m.Good k) (sec : Int) : (m.erase sec).1.B.length = m.B.length := by
  have := (Fm.good_erase h sec).lB
  unfold Fm.erase at this ⊢
  split
  · rename_i hE
    rw [if_pos hE] at this
    exact this.trans h.lB.symm
  · rfl
end Go.Proofs.Ytdefcfmnhfeblaa
