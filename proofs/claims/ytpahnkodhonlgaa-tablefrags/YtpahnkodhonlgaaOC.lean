/- The program's Check: its parts. -/
import Derived.Lib.Bytealg
import Derived.Lib.Walk
import Derived.Test.YtpahnkodhonlgaaOA
namespace Go.Proofs.Ytpahnkodhonlgaa
open Go.RowKit
set_option maxRecDepth 100000
set_option linter.unusedSimpArgs false
set_option linter.unusedVariables false
/-- the program's way to say it -/
def ptail15 (n : Nd) : Bool := if n.fr == -1 then n.of_ == 0 && n.tl == 0 else inn 0 65535 n.fr && inn 0 1048575 n.of_ && inn 1 1048575 n.tl
theorem ptail_eq (n : Nd) : ptail15 n = tail15 n := by
  unfold ptail15 tail15 inn
  by_cases h : n.fr = -1
  · by_cases h1 : n.of_ = 0
    · by_cases h2 : n.tl = 0 <;> simp [h, h1, h2]
    · simp [h, h1]
  · rw [if_neg (by simpa using h), Bool.eq_iff_iff]
    simp only [Bool.and_eq_true, Bool.or_eq_true, Bool.not_eq_true', decide_eq_true_eq, beq_iff_eq, Bool.not_eq_true, Bool.and_eq_false_iff, beq_eq_false_iff_ne, Bool.or_eq_false_iff, Bool.not_eq_false', ne_eq]
    omega
theorem wok_takeP {ws : List Int} {j : Nat} (h : j < ws.length) : wok (ws.take (j + 1)) = (wok (ws.take j) && inn 0 4294967295 (ws.getD j 0)) := by
  unfold wok
  rw [List.take_succ_eq_append_getElem h, List.all_append]
  simp [List.getD_eq_getElem?_getD, List.getElem?_eq_getElem h]
theorem wok_noP {ws : List Int} {j : Nat} (h : j < ws.length) (hw : inn 0 4294967295 (ws.getD j 0) = false) : wok ws = false := by
  cases e : wok ws with
  | false => rfl
  | true =>
    have := List.all_eq_true.1 e (ws.getD j 0) (by rw [List.getD_eq_getElem?_getD, List.getElem?_eq_getElem h]; exact List.getElem_mem h)
    rw [hw] at this
    cases this
end Go.Proofs.Ytpahnkodhonlgaa
