/- Plain facts: copies that overlap; the block of sequences. -/
import Derived.Test.YteghhmnkdmehbaaRK
import Derived.Test.YteghhmnkdmehbaaRF
namespace Go.Proofs.Yteghhmnkdmehbaa
open Go.RowKit
set_option linter.unusedSimpArgs false
set_option linter.unusedVariables false

theorem getD_left (a b : List Int) (i : Nat) (h : i < a.length) : (a ++ b).getD i 0 = a.getD i 0 := by
  rw [List.getD_eq_getElem?_getD, List.getD_eq_getElem?_getD, List.getElem?_append_left h]
/-- a copy from nearer than it is long repeats what is there -/
theorem cpy_per (b : List Int) (hL : 0 < b.length) (n i : Nat) (h : i < b.length + n) : (cpy b.length n b).getD i 0 = b.getD (i % b.length) 0 := by
  induction n generalizing i with
  | zero => rw [cpy, Nat.mod_eq_of_lt (by omega)]
  | succ n ih =>
    have hl := cpy_len b.length n b
    rw [cpy_snoc]
    by_cases c : i < b.length + n
    · rw [getD_left _ _ _ (by omega), ih i c]
    · have e : i = b.length + n := by omega
      have e2 : (cpy b.length n b ++ [(cpy b.length n b).getD ((cpy b.length n b).length - b.length) 0]).getD i 0 = (cpy b.length n b).getD ((cpy b.length n b).length - b.length) 0 := by
        rw [List.getD_eq_getElem?_getD, List.getElem?_append_right (by omega), show i - (cpy b.length n b).length = 0 by omega]; rfl
      rw [e2, hl, show b.length + n - b.length = n by omega, ih n (by omega), e, Nat.add_mod_left]

/-- Join as a plain function: what is wrong with a sequence, in order; its bytes -/
def jerr (last : Bool) (size : Int) (q : Sq) : Int :=
  if (last = true ∧ (q.2.1 ≠ 0 ∨ q.2.2 ≠ 0)) ∨ (last = false ∧ (q.2.1 < 1 ∨ 65535 < q.2.1 ∨ q.2.2 < 4)) then 1
  else if size + q.1.length < q.2.1 then 9
  else if 1048576 - size < q.1.length ∨ 1048576 - size - q.1.length < q.2.2 then 2
  else 0
def jbytes (last : Bool) (q : Sq) : List Int :=
  if last then 16 * fou q.1.length :: (tol q.1.length ++ q.1)
  else (16 * fou q.1.length + fou (q.2.2 - 4)) :: (tol q.1.length ++ (q.1 ++ (q.2.1 % 256 :: q.2.1 / 256 :: tol (q.2.2 - 4))))
def jon : List Sq → Int → List Int → List Int × Int
  | [], _, b => (b, 0)
  | q :: r, size, b => if jerr r.isEmpty size q = 0 then jon r (size + q.1.length + q.2.2) (b ++ jbytes r.isEmpty q) else ([], jerr r.isEmpty size q)
def join (qs : List Sq) : List Int × Int := if qs.isEmpty then ([], 1) else jon qs 0 []
end Go.Proofs.Yteghhmnkdmehbaa
