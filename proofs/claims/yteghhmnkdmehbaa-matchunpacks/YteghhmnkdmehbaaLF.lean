/- Is a list of sequences more than is asked? -/
import Derived.Test.YteghhmnkdmehbaaPI
namespace Go.Proofs.Yteghhmnkdmehbaa
open Go.RowKit
set_option linter.unusedSimpArgs false
set_option linter.unusedVariables false

def BigPost (w : World) (len : Nat) (qs : List Sq) (e : Ending) (w' : World) : Prop := ∃ b, e = .returned (.bool b) ∧ w' = w ∧ (b = true ∨ (b = false ∧ len ≤ 300 ∧ ∀ q ∈ qs, q.1.length ≤ 3000))
theorem jon_ok (qs : List Sq) (size : Int) (b : List Int) (h : Jok qs size) : jon qs size b = (b ++ jcat qs, 0) := by
  induction qs generalizing size b with
  | nil => simp [jon, jcat]
  | cons q r ih =>
    rw [jon, if_pos h.1, ih _ _ h.2]
    simp [jcat]
theorem join_ok {qs : List Sq} (hne : qs ≠ []) (h : Jok qs 0) : join qs = (jcat qs, 0) := by
  unfold join
  rw [if_neg (by rw [List.isEmpty_iff]; exact hne), jon_ok _ _ _ h]
  simp
theorem join_bad {qs : List Sq} (h : (join qs).2 = 0) : qs ≠ [] ∧ Jok qs 0 ∧ join qs = (jcat qs, 0) := by
  unfold join at h ⊢
  split at h
  · simp at h
  · rename_i hne
    rw [if_neg hne]
    rcases jon_split qs 0 [] with ⟨e, k⟩ | ⟨k, _⟩
    · refine ⟨fun e0 => ?_, k, by simpa using e⟩
      rw [e0] at hne; simp at hne
    · exact absurd h k
theorem jok_mod {qs : List Sq} {size : Int} (h0 : 0 ≤ size) (h : Jok qs size) : ∀ q ∈ qs, Bnd q ∧ q.1.length ≤ 1048576 := by
  induction qs generalizing size with
  | nil => intro q hq; cases hq
  | cons x r ih =>
    obtain ⟨h1, h2⟩ := h
    have hf := jerr_facts h0 h1
    intro q hq
    rcases List.mem_cons.1 hq with rfl | hq
    · refine ⟨⟨?_, by omega⟩, hf.1.1⟩
      generalize r.isEmpty = l at h1
      cases l with
      | true => have := jerr_last h1; omega
      | false => have := jerr_more h1; omega
    · exact ih hf.2 h2 q hq
theorem tol_le3 (n : Nat) : (tol n).length ≤ n := by
  unfold tol
  split
  · simp
  · simp; omega
theorem jcat_le {qs : List Sq} {size : Int} (h0 : 0 ≤ size) (h1 : size ≤ 1048576) (h : Jok qs size) : ((jcat qs).length : Int) ≤ 3 * qs.length + 2 * (1048576 - size) := by
  induction qs generalizing size with
  | nil => simp [jcat]; omega
  | cons x r ih =>
    obtain ⟨h2, h3⟩ := h
    have hf := jerr_facts h0 h2
    have t1 := tol_le3 x.1.length
    simp only [jcat, List.length_append, List.length_cons]
    generalize r.isEmpty = l at h2
    cases l with
    | true =>
      have hl := jerr_last h2
      have := ih hf.2 (by omega) h3
      have e : (jbytes true x).length = 1 + (tol x.1.length).length + x.1.length := by unfold jbytes; simp; omega
      omega
    | false =>
      have hl := jerr_more h2
      have := ih hf.2 (by omega) h3
      obtain ⟨m, hm⟩ := Int.eq_ofNat_of_zero_le (by omega : 0 ≤ x.2.2 - 4)
      have t2 := tol_le3 m
      have e : (jbytes false x).length = 3 + (tol x.1.length).length + x.1.length + (tol (x.2.2 - 4)).length := by unfold jbytes; simp; omega
      rw [hm] at e
      omega
end Go.Proofs.Yteghhmnkdmehbaa
