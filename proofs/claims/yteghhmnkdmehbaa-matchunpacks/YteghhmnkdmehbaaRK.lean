/- Plain facts: a length that is told is read again; literals alone. -/
import Derived.Test.YteghhmnkdmehbaaRJ
namespace Go.Proofs.Yteghhmnkdmehbaa
open Go.RowKit
set_option linter.unusedSimpArgs false
set_option linter.unusedVariables false

theorem lnk_run (j : Nat) (m : Int) (r : List Int) (n p : Int) (hm : m ≠ 255) : lnk (List.replicate j 255 ++ m :: r) n p = (n + 255 * j + m, p + j + 1) := by
  induction j generalizing n p with
  | zero => simp [lnk, hm]
  | succ j ih =>
    rw [List.replicate_succ, List.cons_append, lnk, if_pos rfl, ih]
    ext <;> simp <;> omega
theorem lng_tol (pre post : List Int) (n : Int) (h : 0 ≤ n) : lng (pre ++ (tol n ++ post)) (fou n) pre.length = (n, ((pre.length + (tol n).length : Nat) : Int)) := by
  unfold lng fou
  by_cases h1 : n < 15
  · have e : tol n = [] := by unfold tol; rw [if_pos h1]
    have e2 : (if 15 < n then (15 : Int) else n) = n := by split <;> omega
    rw [e2, if_pos h1, e]; simp
  · have e15 : (if 15 < n then (15 : Int) else n) = 15 := by split <;> omega
    rw [e15, if_neg (by decide), List.drop_append_of_le_length (Nat.le_refl _), List.drop_length, List.nil_append]
    have el := tol_len (n := n) (by omega)
    rw [el]
    unfold tol
    rw [if_neg h1, List.append_assoc, List.singleton_append, lnk_run _ _ _ _ _ (by omega)]
    ext <;> simp <;> omega
theorem fou_in {n : Int} (h : 0 ≤ n) : 0 ≤ fou n ∧ fou n ≤ 15 := by unfold fou; split <;> omega

/-- any text told by literals alone -/
theorem dec_plain (b : List Int) (most : Int) (f : Nat) (hm : (b.length : Int) ≤ most) :
    dec (16 * fou b.length :: (tol b.length ++ b)) most (f + 1) [] [] 0 = (b, [(b, 0, 0)], 0, (((16 * fou b.length :: (tol b.length ++ b) : List Int).length : Nat) : Int)) := by
  have hl := lng_tol [16 * fou b.length] b b.length (by omega)
  have hf := fou_in (n := b.length) (by omega)
  have hd : dst (16 * fou b.length :: (tol b.length ++ b)) most 0 0 = .last (1 + (tol b.length).length) b.length := by
    unfold dst
    have e0 : (16 * fou b.length :: (tol b.length ++ b)).getD 0 0 / 16 = fou b.length := by simp
    have e1 : lng (16 * fou b.length :: (tol b.length ++ b)) (fou b.length) (0 + 1) = ((b.length : Int), ((1 + (tol b.length).length : Nat) : Int)) := by
      simpa using hl
    rw [e0, e1]
    rw [if_neg (by simp), if_neg (by simp only; omega), if_neg (by simp only; omega), if_neg (by simp; omega)]
    unfold dst.dst2
    simp only [Int.toNat_natCast]
    rw [if_pos (by simp; omega)]
  rw [dec]
  simp only [List.length_nil, hd]
  have e2 : (16 * fou b.length :: (tol b.length ++ b)).drop (1 + (tol b.length).length) = b := by
    rw [Nat.add_comm, List.drop_succ_cons, List.drop_append_of_le_length (Nat.le_refl _), List.drop_length, List.nil_append]
  rw [e2]
  simp
end Go.Proofs.Yteghhmnkdmehbaa
