/- Texts and lists of texts in memory; the document's Order, Same. -/
import Derived.Test.YtngalihnckbkfaaNB
import Derived.Test.YtngalihnckbkfaaNP
import Derived.Laws.StructEq
import Derived.Deep.QuietTactic
import Derived.BigQuiet
namespace Go.Proofs.Ytngalihnckbkfaa
open Go.RowKit
set_option maxRecDepth 100000
set_option linter.unusedSimpArgs false
set_option linter.unusedVariables false

theorem tl_len (s : ByteArray) : s.toList.length = s.size := by rw [ByteArray.toList_eq]; rfl
theorem tl_get {s : ByteArray} {i : Nat} (h : i < s.size) : s.toList[i]'(by rw [tl_len]; exact h) = s[i] := by
  simp only [ByteArray.toList_eq]
  rfl
theorem drop_get {s : ByteArray} {i : Nat} (h : i < s.size) : s.toList.drop i = s[i] :: s.toList.drop (i + 1) := by
  rw [List.drop_eq_getElem_cons (by rw [tl_len]; exact h), tl_get h]
theorem take_get {s : ByteArray} {i : Nat} (h : i < s.size) : s.toList.take (i + 1) = s.toList.take i ++ [s[i]] := by
  rw [List.take_succ_eq_append_getElem (by rw [tl_len]; exact h), tl_get h]
theorem tl_inj {s t : ByteArray} (h : s.toList = t.toList) : s = t := by
  rw [ByteArray.toList_eq, ByteArray.toList_eq] at h
  cases s; cases t
  simp only at h
  congr 1
  exact Array.toList_inj.1 h
/-- a list of texts in memory -/
structure SRow (w : World) (a : Option Addr) (len : Nat) (l : List ByteArray) : Prop where
  len_eq : l.length = len
  cells : 0 < len → ∃ b off, a = some ⟨b, off, none⟩ ∧ ∀ i, i < len → w.cell? ⟨b, off + i, none⟩ = some (.string (l.getD i ⟨#[]⟩))
theorem SRow.below {w w' : World} {a : Option Addr} {len : Nat} {l : List ByteArray} (h : SRow w a len l) (hb : Below w.heap.size w w') : SRow w' a len l :=
  ⟨h.len_eq, fun h0 => by
    obtain ⟨b, off, e, hc⟩ := h.cells h0
    have hlt : b < w.heap.size := by
      have := hc 0 h0
      rcases Nat.lt_or_ge b w.heap.size with h | h
      · exact h
      · simp [World.cell?, Array.getElem?_eq_none h] at this
    exact ⟨b, off, e, fun i hi => by rw [hb.cell (p := ⟨b, off + i, none⟩) hlt]; exact hc i hi⟩⟩
theorem grown_below0 {a b : World} (h : a.grownBy b none) : Below a.heap.size a b := ⟨h.os, h.tape, h.output, h.size, fun k hk => h.block k hk (by simp)⟩
theorem SRow.grown {w w' : World} {a : Option Addr} {len : Nat} {l : List ByteArray} (h : SRow w a len l) (hg : w.grownBy w' none) : SRow w' a len l := h.below (grown_below0 hg)
def tls (l : List ByteArray) : List Tx := l.map (·.toList)
theorem tls_len (l : List ByteArray) : (tls l).length = l.length := by simp [tls]
theorem tls_drop {l : List ByteArray} {i : Nat} (h : i < l.length) : (tls l).drop i = (l.getD i ⟨#[]⟩).toList :: (tls l).drop (i + 1) := by
  rw [List.drop_eq_getElem_cons (by rw [tls_len]; exact h)]
  simp [tls, List.getD_eq_getElem?_getD, h]
/-- the order of two numbers -/
def lcp (a b : Int) : Int := if a < b then -1 else if b < a then 1 else 0
theorem dd (w : World) (a b : Nat) : (w.drewN a).drewN b = w.drewN (a + b) := by
  induction b with
  | zero => rfl
  | succ b ih => first | (show ((w.drewN a).drewN b).drew = (w.drewN (a + b)).drew; rw [ih]) | (simp [World.drewN, Nat.add_assoc])
theorem ctx_cons (a : UInt8) (r : Tx) (b : UInt8) (t : Tx) : ctx (a :: r) (b :: t) = if a < b then -1 else if b < a then 1 else ctx r t := rfl
theorem ctx_len (a b : Tx) (h : a = [] ∨ b = []) : ctx a b = lcp a.length b.length := by
  unfold lcp
  rcases h with rfl | rfl
  · cases b with
    | nil => rfl
    | cons c r => simp only [ctx, List.length_cons, List.length_nil]; rw [if_pos (by omega)]
  · cases a with
    | nil => rfl
    | cons c r => simp only [ctx, List.length_cons, List.length_nil]; rw [if_neg (by omega), if_pos (by omega)]
end Go.Proofs.Ytngalihnckbkfaa
