/- The walk of LzDecodes. -/
import Derived.Test.YteghhmnkdmehbaaLA
namespace Go.Proofs.Yteghhmnkdmehbaa
open Go.RowKit
set_option linter.unusedSimpArgs false
set_option linter.unusedVariables false

theorem IsRow.byte {w : World} {a : Option Addr} {len cap : Nat} {zs : List Int} (h : IsRow .u8 w a len cap zs) : Byte w a len cap (zs.take len) := by
  refine ⟨h.row, h.nilcap, ?_, ?_⟩
  · rcases h with ⟨rfl, rfl, rfl, rfl⟩ | ⟨x, rfl, hl, hm, _⟩
    · exact Nat.le_refl _
    · exact hl
  · rcases h with ⟨rfl, rfl, rfl, rfl⟩ | ⟨x, rfl, hl, hm, _⟩
    · exact Nat.zero_le _
    · exact hm
theorem Byte.grown {w w' : World} {a : Option Addr} {n c : Nat} {xs : List Int} (h : Byte w a n c xs) (hg : w.grownBy w' none) : Byte w' a n c xs := ⟨h.row.grown hg, h.nil, h.nc, h.cm⟩
theorem byte_own {w : World} {base n : Nat} {v : Value} {bs : List Int} (h : w.ownsRow base 5 1 v n (bv bs)) (hb : Byt bs) (hl : n ≤ maxLen) : ∃ a c, v = .slice a n c ∧ Byte w a n c bs := by
  obtain ⟨a, c, e, h1, h2, h3⟩ := owns_form h
  obtain ⟨a', c', e', R⟩ := owns_row h hb hl
  rw [e] at e'
  injection e' with e1 e2 e3
  subst e1 e3
  refine ⟨a, c, e, R, ?_, h1, h2⟩
  intro e0
  rcases h3 with ⟨_, _, h⟩ | ⟨g, h, _⟩
  · exact h
  · rw [h] at e0; cases e0
theorem pdec_byt {bs : List Int} (hb : Byt bs) (most : Int) : Byt (pdec bs most).1 := by
  unfold pdec
  split
  · intro x hx; simp at hx
  · exact dec_byt bs hb _ _ _ _ _ (fun x hx => by simp at hx)
end Go.Proofs.Yteghhmnkdmehbaa
