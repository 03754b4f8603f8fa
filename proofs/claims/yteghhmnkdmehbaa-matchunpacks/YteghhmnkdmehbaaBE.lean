/- Plain facts: a text told by sequences, one more at a time. -/
import Derived.Test.YteghhmnkdmehbaaBR
namespace Go.Proofs.Yteghhmnkdmehbaa
open Go.RowKit
set_option linter.unusedSimpArgs false
set_option linter.unusedVariables false

/-- a copy of what is there already -/
theorem cpy_match {bs : List Int} {pos off m : Nat} (ho : 1 ≤ off ∧ off ≤ pos) (hm : pos + m ≤ bs.length) (h : ∀ i, i < m → bs.getD (pos - off + i) 0 = bs.getD (pos + i) 0) : cpy off m (bs.take pos) = bs.take (pos + m) := by
  induction m generalizing pos with
  | zero => rfl
  | succ m ih =>
    have hl : (bs.take pos).length = pos := by simp; omega
    have h0 := h 0 (by omega)
    rw [Nat.add_zero, Nat.add_zero] at h0
    rw [cpy, hl, getD_take bs pos (pos - off) (by omega), h0, ← take_snocI bs pos (by omega), ih (pos := pos + 1) (by omega) (by omega)]
    · congr 1; omega
    · intro i hi
      have := h (i + 1) (by omega)
      rw [show pos + 1 - off + i = pos - off + (i + 1) by omega, show pos + 1 + i = pos + (i + 1) by omega]
      exact this
/-- sequences none of which is the last -/
def JM : List Sq → Int → Prop
  | [], _ => True
  | q :: r, size => jerr false size q = 0 ∧ JM r (size + q.1.length + q.2.2)
def jcm : List Sq → List Int
  | [] => []
  | q :: r => jbytes false q ++ jcm r
theorem jcm_snoc (qs : List Sq) (q : Sq) : jcm (qs ++ [q]) = jcm qs ++ jbytes false q := by
  induction qs with
  | nil => simp [jcm]
  | cons x r ih => simp only [List.cons_append, jcm, ih, List.append_assoc]
theorem tot_snoc (qs : List Sq) (q : Sq) : tot (qs ++ [q]) = tot qs + (q.1.length + q.2.2) := by
  induction qs with
  | nil => simp [tot]
  | cons x r ih => simp only [List.cons_append, tot, ih]; omega
theorem JM.snoc {qs : List Sq} {q : Sq} {size : Int} (h : JM qs size) (k : jerr false (size + tot qs) q = 0) : JM (qs ++ [q]) size := by
  induction qs generalizing size with
  | nil => exact ⟨by simpa [tot] using k, trivial⟩
  | cons x r ih =>
    refine ⟨h.1, ih h.2 ?_⟩
    rw [tot] at k
    rw [show size + (x.1.length : Int) + x.2.2 + tot r = size + (x.1.length + x.2.2 + tot r) by omega]
    exact k
theorem empty_snoc (qs : List Sq) (q : Sq) : (qs ++ [q]).isEmpty = false := by cases qs <;> rfl
theorem JM.last {qs : List Sq} {q : Sq} {size : Int} (h : JM qs size) (k : jerr true (size + tot qs) q = 0) : Jok (qs ++ [q]) size := by
  induction qs generalizing size with
  | nil => exact ⟨by simpa [tot] using k, trivial⟩
  | cons x r ih =>
    refine ⟨by show jerr (r ++ [q]).isEmpty size x = 0; rw [empty_snoc]; exact h.1, ih h.2 ?_⟩
    rw [tot] at k
    rw [show size + (x.1.length : Int) + x.2.2 + tot r = size + (x.1.length + x.2.2 + tot r) by omega]
    exact k
theorem unp_snoc (qs : List Sq) (q : Sq) (out : List Int) : unp (qs ++ [q]) out = cpy q.2.1.toNat q.2.2.toNat (unp qs out ++ q.1) := by
  induction qs generalizing out with
  | nil => rfl
  | cons x r ih => simp only [List.cons_append, unp, ih]
theorem jcat_snoc (qs : List Sq) (q : Sq) : jcat (qs ++ [q]) = jcm qs ++ jbytes true q := by
  induction qs with
  | nil => simp [jcat, jcm]
  | cons x r ih => simp only [List.cons_append, jcat, jcm, ih, empty_snoc, List.append_assoc]

/-- sequences that tell a text up to a place -/
structure Par (bs : List Int) (qs : List Sq) (p : Nat) : Prop where
  ok : JM qs 0
  un : unp qs [] = bs.take p
  tot : tot qs = p
  le : p ≤ bs.length
theorem Par.nil (bs : List Int) : Par bs [] 0 := ⟨trivial, by simp [unp], rfl, Nat.zero_le _⟩
theorem take_piece (bs : List Int) (p n : Nat) : bs.take p ++ (bs.drop p).take n = bs.take (p + n) := by
  rw [List.take_add]
theorem Par.step {bs : List Int} {qs : List Sq} {p pos off m : Nat} (h : Par bs qs p) (hp : p ≤ pos) (ho : 1 ≤ off ∧ off ≤ pos ∧ off ≤ 65535) (hm : 4 ≤ m ∧ pos + m ≤ bs.length) (hl : bs.length ≤ 1048576)
    (hc : ∀ i, i < m → bs.getD (pos - off + i) 0 = bs.getD (pos + i) 0) : Par bs (qs ++ [((bs.drop p).take (pos - p), (off : Int), (m : Int))]) (pos + m) := by
  have hll : ((bs.drop p).take (pos - p)).length = pos - p := by simp; omega
  refine ⟨h.ok.snoc ?_, ?_, ?_, hm.2⟩
  · unfold jerr
    rw [h.tot]
    rw [if_neg (by simp; omega), if_neg (by simp only [hll]; omega), if_neg (by simp only [hll]; omega)]
  · rw [unp_snoc, h.un]
    simp only [Int.toNat_natCast]
    rw [take_piece, show p + (pos - p) = pos by omega]
    exact cpy_match ⟨ho.1, ho.2.1⟩ hm.2 hc
  · rw [tot_snoc, h.tot]
    simp only [hll]
    omega
theorem Par.fin {bs : List Int} {qs : List Sq} {p : Nat} (h : Par bs qs p) (hl : bs.length ≤ 1048576) : Jok (qs ++ [(bs.drop p, 0, 0)]) 0 ∧ unp (qs ++ [(bs.drop p, 0, 0)]) [] = bs := by
  constructor
  · refine h.ok.last ?_
    unfold jerr
    rw [h.tot]
    have := h.le
    rw [if_neg (by simp), if_neg (by simp only [List.length_drop]; omega), if_neg (by simp only [List.length_drop]; omega)]
  · rw [unp_snoc, h.un]
    simp [cpy]
theorem Par.enc {bs : List Int} {qs : List Sq} {p : Nat} (h : Par bs qs p) (hl : bs.length ≤ 1048576) (he : qs = [] ∨ ∃ pre x, qs = pre ++ [x] ∧ p + 5 ≤ bs.length ∧ 12 ≤ (bs.length : Int) - p + x.2.2) : Enc bs (qs ++ [(bs.drop p, 0, 0)]) := by
  obtain ⟨h1, h2⟩ := h.fin hl
  refine ⟨by simp, h1, h2, ?_⟩
  rcases he with rfl | ⟨pre, x, rfl, k1, k2⟩
  · exact Or.inl rfl
  · refine Or.inr ⟨pre, x, (bs.drop p, 0, 0), by simp, ?_, ?_⟩
    · simp; omega
    · simp only [List.length_drop]; omega
end Go.Proofs.Yteghhmnkdmehbaa
