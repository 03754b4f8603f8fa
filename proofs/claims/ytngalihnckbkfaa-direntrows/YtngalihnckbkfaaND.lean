/- The document's Order, Same. -/
import Derived.Test.YtngalihnckbkfaaNC
namespace Go.Proofs.Ytngalihnckbkfaa
open Go.RowKit
set_option maxRecDepth 100000
set_option linter.unusedSimpArgs false
set_option linter.unusedVariables false

theorem ord_cons (a : Tx) (r : List Tx) (b : Tx) (t : List Tx) : ord (a :: r) (b :: t) = if ctx a b ≠ 0 then ctx a b else ord r t := rfl
theorem ord_len (a b : List Tx) (h : a = [] ∨ b = []) : ord a b = lcp a.length b.length := by
  unfold lcp
  rcases h with rfl | rfl
  · cases b with
    | nil => rfl
    | cons c r => simp only [ord, List.length_cons, List.length_nil]; rw [if_pos (by omega)]
  · cases a with
    | nil => rfl
    | cons c r => simp only [ord, List.length_cons, List.length_nil]; rw [if_neg (by omega), if_pos (by omega)]
/-- no text of the list is greater than this -/
def szs (l : List ByteArray) : Prop := ∀ i, (l.getD i ⟨#[]⟩).size ≤ 1000000
theorem lcp_sub (a b k : Int) : lcp (a - k) (b - k) = lcp a b := by
  unfold lcp
  simp only [Int.sub_lt_sub_right_iff]
theorem same_drop {l r : List ByteArray} {k : Nat} (h1 : k < l.length) (h2 : k < r.length) : (l.drop k = r.drop k) ↔ ((l.getD k ⟨#[]⟩).toList = (r.getD k ⟨#[]⟩).toList ∧ l.drop (k + 1) = r.drop (k + 1)) := by
  rw [List.drop_eq_getElem_cons h1, List.drop_eq_getElem_cons h2]
  simp only [List.cons.injEq, List.getD_eq_getElem?_getD, List.getElem?_eq_getElem h1, List.getElem?_eq_getElem h2, Option.getD_some]
  exact ⟨fun ⟨a, b⟩ => ⟨by rw [a], b⟩, fun ⟨a, b⟩ => ⟨tl_inj a, b⟩⟩
end Go.Proofs.Ytngalihnckbkfaa
