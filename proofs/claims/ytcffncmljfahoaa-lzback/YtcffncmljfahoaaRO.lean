/- Plain facts: a block that is cut and joined unpacks to the same. -/
import Derived.Test.YtcffncmljfahoaaRN
namespace Go.Proofs.Ytcffncmljfahoaa
open Go.RowKit
set_option linter.unusedSimpArgs false
set_option linter.unusedVariables false

theorem lnk_spans {r : List Int} {n p : Int} (hb : Byt r) (h0 : 0 ≤ n) (h : 0 ≤ (lnk r n p).1) : n ≤ (lnk r n p).1 ∧ p + ((lnk r n p).1 - n) / 255 + 1 ≤ (lnk r n p).2 := by
  induction r generalizing n p with
  | nil => simp [lnk] at h
  | cons b r ih =>
    have hb0 := hb b (List.mem_cons_self ..)
    rw [lnk] at h ⊢
    by_cases hx : b = 255
    · rw [if_pos hx] at h ⊢
      have := ih (fun x hx => hb x (List.mem_cons_of_mem _ hx)) (by omega) h
      omega
    · rw [if_neg hx] at h ⊢
      simp only at h ⊢
      omega
theorem lng_spans {bs : List Int} {n : Int} {p : Nat} (hb : Byt bs) (h0 : 0 ≤ n ∧ n ≤ 15) (h : 0 ≤ (lng bs n p).1) : ((p + (tol (lng bs n p).1).length : Nat) : Int) ≤ (lng bs n p).2 := by
  unfold lng at h ⊢
  by_cases h1 : n < 15
  · rw [if_pos h1]
    simp only
    have e : tol n = [] := by unfold tol; rw [if_pos h1]
    rw [e]; simp
  · rw [if_neg h1] at h ⊢
    have hs := lnk_spans (hb.drop p) h0.1 h
    have e : n = 15 := by omega
    subst e
    rw [tol_len hs.1]
    omega
/-- what a round finds lies in the block as Join would tell it, or longer -/
def Spans (len ol p : Nat) : DR → Prop
  | .inl (e, _) => e ≠ 0
  | .inr (.inl (k, n)) => p + 1 + (tol n).length ≤ k ∧ k + n = len
  | .inr (.inr (k, n, o, m, q)) => p + 1 + (tol n).length ≤ k ∧ k + n + 2 + (tol ((m : Int) - 4)).length ≤ q ∧ q ≤ len ∧ 1 ≤ o ∧ o ≤ 65535 ∧ o ≤ ol + n ∧ 4 ≤ m
theorem dst_spans (bs : List Int) (hb : Byt bs) (most : Int) (ol p : Nat) : Spans bs.length ol p (dst bs most ol p) := by
  unfold dst
  split
  · simp [Spans]
  · rename_i h1
    have hx := hb.getD p
    have hq := lng_in (n := bs.getD p 0 / 16) (p := p + 1) hb (by omega) (by omega)
    have hs := lng_spans (n := bs.getD p 0 / 16) (p := p + 1) hb (by omega)
    generalize lng bs (bs.getD p 0 / 16) (p + 1) = q at hq hs
    obtain ⟨q1, q2⟩ := q
    simp only at hq hs ⊢
    split
    · simp [Spans]
    · rename_i h2
      have hs := hs (by omega)
      split
      · simp [Spans]
      · split
        · simp [Spans]
        · rename_i h3 h4
          obtain ⟨n, rfl⟩ := Int.eq_ofNat_of_zero_le (by omega : 0 ≤ q1)
          obtain ⟨k, rfl⟩ := Int.eq_ofNat_of_zero_le (by omega : 0 ≤ q2)
          simp only [Int.toNat_natCast]
          unfold dst.dst2
          split
          · simp only [Spans]; omega
          · split
            · simp [Spans]
            · have ha := hb.getD (k + n)
              have hc := hb.getD (k + n + 1)
              rename_i h5 h6
              have hq' := lng_in (n := bs.getD p 0 % 16) (p := k + n + 2) hb (by omega) (by omega)
              have hs' := lng_spans (n := bs.getD p 0 % 16) (p := k + n + 2) hb (by omega)
              generalize lng bs (bs.getD p 0 % 16) (k + n + 2) = r at hq' hs'
              obtain ⟨r1, r2⟩ := r
              simp only at hq' hs' ⊢
              split
              · simp [Spans]
              · split
                · simp [Spans]
                · rename_i h7 h8
                  have hs' := hs' (by omega)
                  split
                  · simp [Spans]
                  · simp only [Spans]
                    rw [show (((r1 + 4).toNat : Nat) : Int) - 4 = r1 by omega]
                    omega

theorem jlen_last (q : Sq) : (jbytes true q).length = 1 + (tol q.1.length).length + q.1.length := by unfold jbytes; simp; omega
theorem jlen_more (q : Sq) : (jbytes false q).length = 3 + (tol q.1.length).length + q.1.length + (tol (q.2.2 - 4)).length := by unfold jbytes; simp; omega
/-- the sequences of a block: they may be joined, and tell what it unpacks to -/
theorem dec_cut (bs : List Int) (hb : Byt bs) (f : Nat) (out : List Int) (sq : List Sq) (p : Nat) (h : (dec bs 1048576 f out sq p).2.2.1 = 0) :
    ∃ qs, qs ≠ [] ∧ (dec bs 1048576 f out sq p).2.1 = sq ++ qs ∧ (dec bs 1048576 f out sq p).1 = unp qs out ∧ Jok qs out.length ∧ p + (jcat qs).length ≤ bs.length ∧ qs.length ≤ f := by
  induction f generalizing out sq p with
  | zero => simp [dec] at h
  | succ f ih =>
    have hs := dst_spans bs hb 1048576 out.length p
    have hw := dst_within bs 1048576 out.length p
    rw [dec] at h ⊢
    rcases DR.any (dst bs 1048576 out.length p) with ⟨e, q, hd⟩ | ⟨k, n, hd⟩ | ⟨k, n, o, m, q, hd⟩
    · try rw [hd]
      rw [hd] at h hs; simp [Spans] at h hs; exact absurd h hs
    · try rw [hd]
      rw [hd] at hs hw
      simp only [Spans, Within] at hs hw ⊢
      have hl : ((bs.drop k).take n).length = n := by simp; omega
      refine ⟨[((bs.drop k).take n, 0, 0)], by simp, rfl, by simp [unp, cpy], ⟨?_, trivial⟩, ?_, by simp⟩
      · simp only [List.isEmpty_nil, jerr, hl]
        rw [if_neg (by simp), if_neg (by omega), if_neg (by omega)]
      · simp only [jcat, List.isEmpty_nil, List.append_nil, jlen_last, hl]; omega
    · try rw [hd]
      rw [hd] at h hs hw
      simp only [Spans, Within] at h hs hw ⊢
      have hl : ((bs.drop k).take n).length = n := by simp; omega
      obtain ⟨qs, q0, q1, q2, q3, q4, q5⟩ := ih _ _ _ h
      have he : qs.isEmpty = false := by cases qs with | nil => exact absurd rfl q0 | cons _ _ => rfl
      refine ⟨((bs.drop k).take n, (o : Int), (m : Int)) :: qs, by simp, by rw [q1]; simp, by rw [q2, unp]; simp, ⟨?_, ?_⟩, ?_, by simp; omega⟩
      · rw [he]
        simp only [jerr, hl]
        rw [if_neg (by simp; omega), if_neg (by omega), if_neg (by omega)]
      · rw [cpy_len, List.length_append, hl] at q3
        simp only [hl]
        have : ((out.length + n + m : Nat) : Int) = (out.length : Int) + n + m := by omega
        rw [← this]; exact q3
      · simp only [jcat, he, List.length_append, jlen_more, hl]; omega
/-- a block that is cut and joined unpacks to the same -/
theorem dec_back (bs : List Int) (hb : Byt bs) (h : (dec bs 1048576 (bs.length + 1) [] [] 0).2.2.1 = 0) :
    ∃ qs, qs ≠ [] ∧ (dec bs 1048576 (bs.length + 1) [] [] 0).2.1 = qs ∧ Jok qs 0 ∧ (jcat qs).length ≤ bs.length ∧
      dec (jcat qs) 1048576 ((jcat qs).length + 1) [] [] 0 = ((dec bs 1048576 (bs.length + 1) [] [] 0).1, qs, 0, ((jcat qs).length : Int)) := by
  obtain ⟨qs, q0, q1, q2, q3, q4, _⟩ := dec_cut bs hb _ _ _ _ h
  exact ⟨qs, q0, by rw [q1]; rfl, q3, by omega, by rw [q2]; exact dec_of_join qs q0 q3 1048576 (Int.le_refl _)⟩
end Go.Proofs.Ytcffncmljfahoaa
