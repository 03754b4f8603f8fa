/- A writer takes bytes that lie in a block apart from its own, made behind it or ahead of it. -/
import Derived.Test.YtiafbnpbbjkdbaaHH
namespace Go.Proofs.Ytiafbnpbbjkdbaa
open Go.RowKit
set_option maxRecDepth 100000
set_option linter.unusedSimpArgs false
set_option linter.unusedVariables false

theorem Row.chg {w w' : World} {p n : Nat} {v v' : Value} {a : Option Addr} {xs : List Int} (h : Row w a n xs) (k : Chg w w' p v v') (hlt : ∀ b off, a = some ⟨b, off, none⟩ → 0 < n → b < w.heap.size ∧ b ≠ p ∧ some b ≠ v.ownBlock) : Row w' a n xs := by
  refine ⟨h.len_eq, h.le, h.byt, fun h0 => ?_⟩
  obtain ⟨b, off, e, hc⟩ := h.cells h0
  obtain ⟨k1, k2, k3⟩ := hlt b off e h0
  refine ⟨b, off, e, fun i hi => ?_⟩
  have := hc i hi
  unfold World.cell? at this ⊢
  simp only at this ⊢
  rw [k.block b k1 k2 k3]
  exact this

end Go.Proofs.Ytiafbnpbbjkdbaa
