/- Plain facts: what Join makes Cut tells as it was. -/
import Derived.Test.YteghhmnkdmehbaaRM
namespace Go.Proofs.Yteghhmnkdmehbaa
open Go.RowKit
set_option linter.unusedSimpArgs false
set_option linter.unusedVariables false

def jcat : List Sq → List Int
  | [] => []
  | q :: r => jbytes r.isEmpty q ++ jcat r
/-- what sequences unpack to -/
def unp : List Sq → List Int → List Int
  | [], out => out
  | q :: r, out => unp r (cpy q.2.1.toNat q.2.2.toNat (out ++ q.1))
def Jok : List Sq → Int → Prop
  | [], _ => True
  | q :: r, size => jerr r.isEmpty size q = 0 ∧ Jok r (size + q.1.length + q.2.2)
theorem jon_split (qs : List Sq) (size : Int) (b : List Int) : (jon qs size b = (b ++ jcat qs, 0) ∧ Jok qs size) ∨ ((jon qs size b).2 ≠ 0 ∧ (jon qs size b).1 = []) := by
  induction qs generalizing size b with
  | nil => left; simp [jon, jcat, Jok]
  | cons q r ih =>
    rw [jon]
    by_cases h : jerr r.isEmpty size q = 0
    · rw [if_pos h]
      rcases ih (size + q.1.length + q.2.2) (b ++ jbytes r.isEmpty q) with ⟨e, k⟩ | k
      · left; rw [e]; exact ⟨by simp [jcat], h, k⟩
      · right; exact k
    · rw [if_neg h]; right; exact ⟨h, rfl⟩
theorem jerr_last {size : Int} {q : Sq} (h : jerr true size q = 0) : q.2.1 = 0 ∧ q.2.2 = 0 ∧ size + q.1.length ≤ 1048576 := by
  unfold jerr at h
  split at h
  · simp at h
  · split at h
    · simp at h
    · split at h
      · simp at h
      · rename_i h1 h2 h3
        simp at h1
        omega
theorem jerr_more {size : Int} {q : Sq} (h : jerr false size q = 0) : 1 ≤ q.2.1 ∧ q.2.1 ≤ 65535 ∧ 4 ≤ q.2.2 ∧ q.2.1 ≤ size + q.1.length ∧ size + q.1.length + q.2.2 ≤ 1048576 := by
  unfold jerr at h
  split at h
  · simp at h
  · split at h
    · simp at h
    · split at h
      · simp at h
      · rename_i h1 h2 h3
        simp at h1
        omega
theorem jbytes_pos (l : Bool) (q : Sq) : 0 < (jbytes l q).length := by unfold jbytes; split <;> simp
theorem cut_lit (P lit C : List Int) (k : Nat) (h : k = P.length) : ((P ++ (lit ++ C)).drop k).take lit.length = lit := by
  subst h
  rw [List.drop_append_of_le_length (Nat.le_refl _), List.drop_length, List.nil_append, List.take_append_of_le_length (Nat.le_refl _), List.take_length]
theorem dec_join (qs : List Sq) (hne : qs ≠ []) (M : Int) (hM : 1048576 ≤ M) (A out : List Int) (sq : List Sq) (f : Nat) (hf : qs.length ≤ f) (hj : Jok qs out.length) :
    dec (A ++ jcat qs) M f out sq A.length = (unp qs out, sq ++ qs, 0, ((A ++ jcat qs).length : Int)) := by
  induction qs generalizing A out sq f with
  | nil => exact absurd rfl hne
  | cons q r ih =>
    obtain ⟨f, rfl⟩ : ∃ g, f = g + 1 := ⟨f - 1, by simp at hf; omega⟩
    obtain ⟨lit, o, m⟩ := q
    obtain ⟨h1, h2⟩ := hj
    cases r with
    | nil =>
      have hh := jerr_last h1
      simp only at hh
      obtain ⟨rfl, rfl, h3⟩ := hh
      have e : jcat [((lit, 0, 0) : Sq)] = jbytes true (lit, 0, 0) := by simp [jcat]
      rw [e]
      have hd := dst_last A lit out.length M (by omega)
      rw [dec, hd]
      simp only
      have e2 : ((A ++ jbytes true (lit, 0, 0)).drop (A.length + 1 + (tol lit.length).length)).take lit.length = lit := by
        have := cut_lit (A ++ [16 * fou lit.length] ++ tol lit.length) lit [] (A.length + 1 + (tol lit.length).length) (by simp; omega)
        simpa [jbytes] using this
      rw [e2]
      rfl
    | cons q2 r2 =>
      have hh := jerr_more h1
      simp only at hh
      obtain ⟨a1, a2, a3, a4, a5⟩ := hh
      have e : jcat ((lit, o, m) :: q2 :: r2) = jbytes false (lit, o, m) ++ jcat (q2 :: r2) := rfl
      have hC : 0 < (jcat (q2 :: r2)).length := by
        have := jbytes_pos r2.isEmpty q2
        simp only [jcat, List.length_append]; omega
      rw [e]
      have hd := dst_more A (jcat (q2 :: r2)) lit o m out.length M hC ⟨a1, a2⟩ a3 (by omega) (by omega)
      rw [dec, hd]
      simp only
      have e2 : ((A ++ (jbytes false (lit, o, m) ++ jcat (q2 :: r2))).drop (A.length + 1 + (tol lit.length).length)).take lit.length = lit := by
        have := cut_lit (A ++ [16 * fou lit.length + fou (m - 4)] ++ tol lit.length) lit (o % 256 :: o / 256 :: (tol (m - 4) ++ jcat (q2 :: r2))) (A.length + 1 + (tol lit.length).length) (by simp; omega)
        simpa [jbytes] using this
      rw [e2, Int.toNat_of_nonneg (by omega), Int.toNat_of_nonneg (by omega)]
      have hlen : ((cpy o.toNat m.toNat (out ++ lit)).length : Int) = (out.length : Int) + lit.length + m := by
        rw [cpy_len, List.length_append]; omega
      have hx := ih (by simp) (A ++ jbytes false (lit, o, m)) (cpy o.toNat m.toNat (out ++ lit)) (sq ++ [(lit, o, m)]) f (by simp at hf ⊢; omega) (by rw [hlen]; exact h2)
      rw [unp]
      simp only [List.append_assoc, List.length_append] at hx ⊢
      simpa using hx
theorem jcat_len (qs : List Sq) : qs.length ≤ (jcat qs).length := by
  induction qs with
  | nil => exact Nat.le_refl _
  | cons q r ih =>
    have := jbytes_pos r.isEmpty q
    simp only [jcat, List.length_append, List.length_cons]; omega
theorem tol_byt' (n : Int) : Byt (tol n) := tol_byt n
/-- what Join makes, Decode unpacks and Cut tells as it was -/
theorem dec_of_join (qs : List Sq) (hne : qs ≠ []) (hj : Jok qs 0) (M : Int) (hM : 1048576 ≤ M) :
    dec (jcat qs) M ((jcat qs).length + 1) [] [] 0 = (unp qs [], qs, 0, ((jcat qs).length : Int)) := by
  have h := dec_join qs hne M hM [] [] [] ((jcat qs).length + 1) (by have := jcat_len qs; omega) hj
  simpa using h
end Go.Proofs.Yteghhmnkdmehbaa
