/- A variable of several cells. -/
import Derived.Test.YtpahnkodhonlgaaRQ
namespace Go.Proofs.Ytpahnkodhonlgaa
open Go.RowKit
set_option maxRecDepth 100000
set_option linter.unusedSimpArgs false
set_option linter.unusedVariables false

/-- block p is a row of these cells, of this type, which may be written -/
def SBlk (w : World) (p : Nat) (cs : List Value) (t : TypeId) : Prop := w.heap[p]? = some (.cells cs.toArray t (0, 0))
theorem SBlk.lt {w : World} {p : Nat} {cs : List Value} {t : TypeId} (h : SBlk w p cs t) : p < w.heap.size := (Array.getElem?_eq_some_iff.1 h).1
theorem SBlk.cell {w : World} {p : Nat} {cs : List Value} {t : TypeId} (h : SBlk w p cs t) (i : Nat) : w.cell? ⟨p, i, none⟩ = cs[i]? := by
  unfold SBlk at h; simp [World.cell?, h]
theorem SBlk.c0 {w : World} {p : Nat} {a : Value} {l : List Value} {t : TypeId} (h : SBlk w p (a :: l) t) : w.cell? ⟨p, 0, none⟩ = some a := h.cell 0
theorem SBlk.c1 {w : World} {p : Nat} {a b : Value} {l : List Value} {t : TypeId} (h : SBlk w p (a :: b :: l) t) : w.cell? ⟨p, 1, none⟩ = some b := h.cell 1
theorem SBlk.c2 {w : World} {p : Nat} {a b c : Value} {l : List Value} {t : TypeId} (h : SBlk w p (a :: b :: c :: l) t) : w.cell? ⟨p, 2, none⟩ = some c := h.cell 2
theorem SBlk.frozen {w : World} {p : Nat} {cs : List Value} {t : TypeId} (h : SBlk w p cs t) (i : Nat) : w.frozen? ⟨p, i, none⟩ = false := by
  unfold SBlk at h; simp [World.frozen?, h]
theorem SBlk.set {w : World} {p : Nat} {cs : List Value} {t : TypeId} (h : SBlk w p cs t) (i : Nat) (v : Value) : SBlk (w.setCell ⟨p, i, none⟩ v) p (cs.set i v) t := by
  unfold SBlk at h ⊢
  rw [setCell_eq_setRow w p i _ _ _ v h, setRow_heap w p _ _ _ _ h]
  simp
theorem SBlk.grown {w w' : World} {p : Nat} {cs : List Value} {t : TypeId} {row : Option Nat} (h : SBlk w p cs t) (hg : w.grownBy w' row) (hr : some p ≠ row) : SBlk w' p cs t := by
  unfold SBlk; rw [hg.block p h.lt hr]; exact h
theorem SBlk.below {w w' : World} {p B : Nat} {cs : List Value} {t : TypeId} (h : SBlk w p cs t) (hb : Below B w w') (hr : p < B) : SBlk w' p cs t := by
  unfold SBlk; rw [hb.block p hr]; exact h
theorem alloc_sblk (w : World) (cs : List Value) (t : TypeId) : SBlk (w.alloc (.cells cs.toArray t)) w.heap.size cs t := heap_alloc_new _ _
theorem grown_drewH (w : World) (row : Option Nat) : w.grownBy w.drew row := ⟨rfl, rfl, rfl, Nat.le_refl _, fun _ _ _ => rfl⟩
theorem grown_some {a b : World} (h : a.grownBy b none) (row : Option Nat) : a.grownBy b row := ⟨h.os, h.tape, h.output, h.size, fun k hk _ => h.block k hk (by simp)⟩

end Go.Proofs.Ytpahnkodhonlgaa
