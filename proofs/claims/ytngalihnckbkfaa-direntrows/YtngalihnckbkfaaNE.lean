/- The document's Split. -/
import Derived.Test.YtngalihnckbkfaaND
import Derived.Laws.AppendOwn
namespace Go.Proofs.Ytngalihnckbkfaa
open Go.RowKit
set_option maxRecDepth 100000
set_option linter.unusedSimpArgs false
set_option linter.unusedVariables false

def tx (l : Tx) : ByteArray := ⟨l.toArray⟩
theorem tx_tl (l : Tx) : (tx l).toList = l := ByteArray.toList_mk l
theorem tl_tx (s : ByteArray) : tx s.toList = s := tl_inj (tx_tl _)
def txs (l : List Tx) : List ByteArray := l.map tx
theorem tls_txs (l : List Tx) : tls (txs l) = l := by unfold tls txs; rw [List.map_map]; conv => rhs; rw [← List.map_id l]
                                                      apply List.map_congr_left; intro x _; exact tx_tl x
def sv (l : List ByteArray) : List Value := l.map Value.string
theorem sv_len (l : List ByteArray) : (sv l).length = l.length := by simp [sv]
theorem sv_app (a b : List ByteArray) : sv (a ++ b) = sv a ++ sv b := by simp [sv]
theorem sv_one (l : List ByteArray) : ∀ v ∈ sv l, v.oneCell' = true := by
  intro v hv
  obtain ⟨s, _, rfl⟩ := List.mem_map.1 hv
  rfl
theorem extract_tx (s : ByteArray) (f i : Nat) : s.extract f i = tx ((s.toList.drop f).take (i - f)) := by
  conv => lhs; rw [← tl_tx s]
  exact ByteArray.extract_mk _ _ _
/-- a part of a text behind a slash -/
theorem cutS_cat (a b : Tx) : cutS (a ++ 47 :: b) = cutS a ++ cutS b := by
  induction a with
  | nil => simp [cutS]
  | cons c r ih =>
    rw [List.cons_append, cutS.eq_2, cutS.eq_2, ih]
    by_cases hc : c = 47
    · simp [hc]
    · rw [if_neg hc, if_neg hc]
      cases h : cutS r with
      | nil => exact absurd h (cutS_ne r)
      | cons p ps => simp
theorem cutS_len (l : Tx) : (cutS l).length ≤ l.length + 1 := by
  induction l with
  | nil => simp [cutS]
  | cons c r ih =>
    rw [cutS.eq_2]
    split
    · simp only [List.length_cons]; omega
    · split
      · simp
      · rename_i h
        rw [h] at ih
        simp only [List.length_cons] at *
        omega
theorem cell_one_newV (w : World) (t : TypeId) (v : Value) (j : Nat) (u : Value) (h : ([v])[j]? = some u) : (w.alloc (.cells #[v] t)).cell? ((⟨w.heap.size, 0, none⟩ : Addr).add j) = some u := by
  cases j with
  | zero =>
    simp at h
    subst h
    simp [Addr.add]
  | succ j => simp at h
theorem grown_tr {a b c : World} {row : Option Nat} (h : a.grownBy b row) (k : b.grownBy c row) : a.grownBy c row :=
  ⟨k.os.trans h.os, k.tape.trans h.tape, k.output.trans h.output, Nat.le_trans h.size k.size, fun x hx hr => (k.block x (Nat.lt_of_lt_of_le hx h.size) hr).trans (h.block x hx hr)⟩
theorem grown_own9 {a b c : World} {base t : Nat} {v : Value} {n : Nat} {xs : List Value} (h : a.grownBy b none) (ho : b.ownsRow base t 1 v n xs) (k : b.grownBy c v.ownBlock) (hb : a.heap.size ≤ base) : a.grownBy c none :=
  ⟨k.os.trans h.os, k.tape.trans h.tape, k.output.trans h.output, Nat.le_trans h.size k.size, fun x hx _ => (k.block x (Nat.lt_of_lt_of_le hx h.size) (fun e => by have := (ho.lt x e.symm).1; omega)).trans (h.block x hx (by simp))⟩
theorem filt (ps : List Tx) (q : Tx) : (ps ++ [q]).filter kept = ps.filter kept ++ (if kept q = true then [q] else []) := by
  rw [List.filter_append]
  cases h : kept q <;> simp [h]
theorem keptx {x : ByteArray} {q : Tx} (h : x.toList = q) : kept q = (!(x.toList == []) && !(x.toList == [46])) := by subst h; rfl
theorem owns_srow {w : World} {base : Nat} {v : Value} {n : Nat} {l : List ByteArray} (h : w.ownsRow base 9 1 v n (sv l)) : ∃ a c, v = .slice a n c ∧ SRow w a n l ∧ n ≤ c ∧ c ≤ maxLen := by
  have hn : l.length = n := by have := h.1; rw [sv_len] at this; omega
  rcases h.2 with ⟨rfl, rfl⟩ | ⟨g, cap, cur, rfl, _, hg, hc, hm, hs, ht⟩
  · exact ⟨none, 0, rfl, ⟨hn, fun h => by omega⟩, Nat.le_refl _, Nat.zero_le _⟩
  · refine ⟨_, cap, rfl, ⟨hn, fun _ => ⟨g, 0, rfl, fun i hi => ?_⟩⟩, hc, hm⟩
    have e : w.cell? ⟨g, 0 + i, none⟩ = cur[i]? := by simp [World.cell?, hg]
    have e2 : (sv l)[i]? = some (.string (l.getD i ⟨#[]⟩)) := by simp [sv, List.getElem?_eq_getElem (show i < l.length by omega)]
    rw [e, ← e2, ← ht, List.getElem?_take, if_pos (by omega), Array.getElem?_toList]
theorem Try.info9 : (Try.prog.info? 9).map (fun i => (i.zero, i.size, i.bytes)) = some (some (.string ⟨#[]⟩), 1, 16) := by kernel_rfl
/-- what Split answers -/
def SpPost (w : World) (r : List Tx × Int) (e : Ending) (w' : World) : Prop := ∃ a n c, e = .returned (.tuple #[.slice a n c, .int .i64 r.2]) ∧ w'.ownsRow w.heap.size 9 1 (.slice a n c) n (sv (txs r.1)) ∧ w.grownBy w' none
/-- Split of a text that is not too long and has no 0 -/
def sp2 (L : Tx) : List Tx × Int := if (cutS L).any longP then ([], 1) else if 128 < ((cutS L).filter kept).length then ([], 3) else ((cutS L).filter kept, 0)
/-- between two rounds of Split's second loop -/
def Cu (L : Tx) (sz i f : Nat) (ps : List Tx) : Prop := ((i ≤ sz ∧ f ≤ i ∧ cutS (L.take i) = ps ++ [(L.drop f).take (i - f)]) ∨ (i = sz + 1 ∧ f = i ∧ cutS L = ps)) ∧ ps.any longP = false
end Go.Proofs.Ytngalihnckbkfaa
