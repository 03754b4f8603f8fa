/- Plain facts of dec: a lower bound. -/
import Derived.Test.YteghhmnkdmehbaaRD
namespace Go.Proofs.Yteghhmnkdmehbaa
open Go.RowKit
set_option linter.unusedSimpArgs false
set_option linter.unusedVariables false

/-- what a round that goes on under a higher bound says of a lower one that stops it -/
def Over (most : Int) (ol : Nat) : DR → Prop
  | .inl (e, _) => e ≠ 0
  | .inr (.inl (_, n)) => most < ((ol + n : Nat) : Int)
  | .inr (.inr (_, n, _, m, _)) => most < ((ol + n + m : Nat) : Int)
theorem over_dst2 (bs : List Int) (most M : Int) (ol p k n : Nat) (h : most < ((ol + n : Nat) : Int)) : Over most ol (dst.dst2 bs M ol p k n) := by
  unfold dst.dst2
  repeat' split
  all_goals simp only [Over]
  all_goals first | decide | omega
theorem dst2_bound (bs : List Int) (most M : Int) (hm : most ≤ M) (ol p k n : Nat) : dst.dst2 bs most ol p k n = dst.dst2 bs M ol p k n ∨ (dst.dst2 bs most ol p k n = .bad 2 p ∧ Over most ol (dst.dst2 bs M ol p k n)) := by
  unfold dst.dst2
  by_cases h1 : k + n = bs.length
  · left; rw [if_pos h1, if_pos h1]
  · rw [if_neg h1, if_neg h1]
    by_cases h2 : k + n + 1 = bs.length
    · left; rw [if_pos h2, if_pos h2]
    · rw [if_neg h2, if_neg h2]
      by_cases h3 : bs.getD (k + n) 0 + 256 * bs.getD (k + n + 1) 0 = 0 ∨ ((ol + n : Nat) : Int) < bs.getD (k + n) 0 + 256 * bs.getD (k + n + 1) 0
      · left; rw [if_pos h3, if_pos h3]
      · rw [if_neg h3, if_neg h3]
        generalize lng bs (bs.getD p 0 % 16) (k + n + 2) = q
        by_cases h4 : q.1 < 0
        · left; rw [if_pos h4, if_pos h4]
        · rw [if_neg h4, if_neg h4]
          by_cases h5 : most - ((ol + n : Nat) : Int) < q.1 + 4
          · right
            rw [if_pos h5]
            refine ⟨rfl, ?_⟩
            split
            · simp [Over]
            · simp only [Over]; omega
          · left
            rw [if_neg h5, if_neg (by omega)]
theorem dst_bound (bs : List Int) (most M : Int) (hm : most ≤ M) (ol p : Nat) : dst bs most ol p = dst bs M ol p ∨ (p < bs.length ∧ dst bs most ol p = .bad 2 p ∧ Over most ol (dst bs M ol p)) := by
  unfold dst
  by_cases h1 : bs.length ≤ p
  · left; rw [if_pos h1, if_pos h1]
  · rw [if_neg h1, if_neg h1]
    generalize lng bs (bs.getD p 0 / 16) (p + 1) = q
    by_cases h2 : q.1 < 0
    · left; rw [if_pos h2, if_pos h2]
    · rw [if_neg h2, if_neg h2]
      by_cases h3 : most - ol < q.1
      · right
        rw [if_pos h3]
        refine ⟨by omega, rfl, ?_⟩
        split
        · simp [Over]
        · split
          · simp [Over]
          · exact over_dst2 _ _ _ _ _ _ _ (by omega)
      · have h3' : ¬ (M - ol < q.1) := by omega
        rw [if_neg h3, if_neg h3']
        by_cases h4 : (bs.length : Int) - q.2 < q.1
        · left; rw [if_pos h4, if_pos h4]
        · rw [if_neg h4, if_neg h4]
          rcases dst2_bound bs most M hm ol p q.2.toNat q.1.toNat with h | h
          · exact Or.inl h
          · exact Or.inr ⟨by omega, h.1, h.2⟩
/-- literals lie within the block -/
def Fits (len : Nat) : DR → Prop
  | .inl (e, _) => e ≠ 0
  | .inr (.inl (k, n)) => k + n ≤ len
  | .inr (.inr (k, n, _, _, _)) => k + n ≤ len
theorem dst_fits (bs : List Int) (hb : Byt bs) (most : Int) (ol p : Nat) : Fits bs.length (dst bs most ol p) := by
  unfold dst
  split
  · simp [Fits]
  · rename_i h1
    have hq := lng_in (n := bs.getD p 0 / 16) (p := p + 1) hb (by have := hb.getD p; omega) (by omega)
    generalize lng bs (bs.getD p 0 / 16) (p + 1) = q at hq
    split
    · simp [Fits]
    · split
      · simp [Fits]
      · split
        · simp [Fits]
        · unfold dst.dst2
          repeat' split
          all_goals simp only [Fits]
          all_goals first | decide | omega
/-- what is unpacked only grows -/
theorem dec_grows (bs : List Int) (hb : Byt bs) (M : Int) (f : Nat) (out : List Int) (sq : List Sq) (p : Nat) (h : (dec bs M f out sq p).2.2.1 = 0) : out.length ≤ (dec bs M f out sq p).1.length := by
  induction f generalizing out sq p with
  | zero => rw [dec] at h; simp at h
  | succ f ih =>
    have hf := dst_fits bs hb M out.length p
    rw [dec] at h ⊢
    rcases DR.any (dst bs M out.length p) with ⟨e, q, hd⟩ | ⟨k, n, hd⟩ | ⟨k, n, o, m, q, hd⟩
    · try rw [hd]
      rw [hd] at h hf; simp [Fits] at h hf; exact absurd h hf
    · try rw [hd]
      simp
    · try rw [hd]
      rw [hd] at h
      simp only at h ⊢
      have := ih _ _ _ h
      rw [cpy_len, List.length_append] at this
      omega
/-- a lower bound: the same, or it is too long -/
theorem dec_bound (bs : List Int) (hb : Byt bs) (most M : Int) (hm : most ≤ M) (f : Nat) (out : List Int) (sq : List Sq) (p : Nat) :
    dec bs most f out sq p = dec bs M f out sq p ∨ ∃ q : Nat, q < bs.length ∧ dec bs most f out sq p = ([], [], 2, (q : Int)) ∧ ((dec bs M f out sq p).2.2.1 = 0 → most < ((dec bs M f out sq p).1.length : Int)) := by
  induction f generalizing out sq p with
  | zero => left; rw [dec, dec]
  | succ f ih =>
    have hf := dst_fits bs hb M out.length p
    rcases dst_bound bs most M hm out.length p with e | ⟨hp, e, ho⟩
    · rw [dec, dec, e]
      rcases DR.any (dst bs M out.length p) with ⟨e, q, hd⟩ | ⟨k, n, hd⟩ | ⟨k, n, o, m, q, hd⟩
      · try rw [hd]
        left; rfl
      · try rw [hd]
        left; rfl
      · try rw [hd]
        exact ih _ _ _
    · right
      refine ⟨p, hp, by rw [dec, e], ?_⟩
      intro h
      rw [dec] at h ⊢
      rcases DR.any (dst bs M out.length p) with ⟨e, q, hd⟩ | ⟨k, n, hd⟩ | ⟨k, n, o, m, q, hd⟩
      · try rw [hd]
        rw [hd] at h ho; simp [Over] at h ho; exact absurd h ho
      · try rw [hd]
        rw [hd] at ho hf
        simp only [Over, Fits] at ho hf ⊢
        rw [List.length_append, List.length_take, List.length_drop]
        omega
      · try rw [hd]
        rw [hd] at h ho hf
        simp only [Over, Fits] at h ho hf ⊢
        have := dec_grows bs hb M f _ _ _ h
        rw [cpy_len, List.length_append, List.length_take, List.length_drop] at this
        omega
/-- a round keeps the bound -/
def Within (most : Int) (ol : Nat) : DR → Prop
  | .inl (_, _) => True
  | .inr (.inl (_, n)) => ((ol + n : Nat) : Int) ≤ most
  | .inr (.inr (_, n, _, m, _)) => ((ol + n + m : Nat) : Int) ≤ most
theorem dst_within (bs : List Int) (most : Int) (ol p : Nat) : Within most ol (dst bs most ol p) := by
  unfold dst
  split
  · trivial
  · generalize lng bs (bs.getD p 0 / 16) (p + 1) = q
    split
    · trivial
    · split
      · trivial
      · split
        · trivial
        · unfold dst.dst2
          generalize lng bs (bs.getD p 0 % 16) (q.2.toNat + q.1.toNat + 2) = r
          repeat' split
          all_goals simp only [Within]
          all_goals omega
/-- what is unpacked keeps the bound -/
theorem dec_keeps (bs : List Int) (most : Int) (f : Nat) (out : List Int) (sq : List Sq) (p : Nat) (h0 : 0 ≤ most) : ((dec bs most f out sq p).1.length : Int) ≤ most := by
  induction f generalizing out sq p with
  | zero => rw [dec]; simpa using h0
  | succ f ih =>
    have hw := dst_within bs most out.length p
    rw [dec]
    rcases DR.any (dst bs most out.length p) with ⟨e, q, hd⟩ | ⟨k, n, hd⟩ | ⟨k, n, o, m, q, hd⟩
    · try rw [hd]
      simpa using h0
    · try rw [hd]
      rw [hd] at hw
      simp only [Within] at hw ⊢
      rw [List.length_append, List.length_take]
      omega
    · try rw [hd]
      exact ih _ _ _
/-- where there is a fault nothing is unpacked -/
theorem dec_nil (bs : List Int) (most : Int) (f : Nat) (out : List Int) (sq : List Sq) (p : Nat) (h : (dec bs most f out sq p).2.2.1 ≠ 0) : (dec bs most f out sq p).1 = [] ∧ (dec bs most f out sq p).2.1 = [] := by
  induction f generalizing out sq p with
  | zero => exact ⟨rfl, rfl⟩
  | succ f ih =>
    rw [dec] at h ⊢
    rcases DR.any (dst bs most out.length p) with ⟨e, q, hd⟩ | ⟨k, n, hd⟩ | ⟨k, n, o, m, q, hd⟩
    · try rw [hd]
      exact ⟨rfl, rfl⟩
    · try rw [hd]
      rw [hd] at h; simp at h
    · try rw [hd]
      rw [hd] at h; exact ih _ _ _ h
/-- what is unpacked are bytes -/
theorem dec_byt (bs : List Int) (hb : Byt bs) (most : Int) (f : Nat) (out : List Int) (sq : List Sq) (p : Nat) (ho : Byt out) : Byt (dec bs most f out sq p).1 := by
  induction f generalizing out sq p with
  | zero => intro x hx; simp [dec] at hx
  | succ f ih =>
    rw [dec]
    rcases DR.any (dst bs most out.length p) with ⟨e, q, hd⟩ | ⟨k, n, hd⟩ | ⟨k, n, o, m, q, hd⟩
    · try rw [hd]
      intro x hx; simp at hx
    · try rw [hd]
      exact ho.append ((hb.drop k).take n)
    · try rw [hd]
      exact ih _ _ _ (cpy_byt _ _ _ (ho.append ((hb.drop k).take n)))
end Go.Proofs.Yteghhmnkdmehbaa
