/- While Encode goes through the rows: what is kept. -/
import Derived.Test.YtngalihnckbkfaaEJ
namespace Go.Proofs.Ytngalihnckbkfaa
open Go.RowKit Go.Shelf
set_option maxRecDepth 100000
set_option linter.unusedSimpArgs false
set_option linter.unusedVariables false
theorem cntR_ge (f : Int) : ∀ (n : Nat) (l : List Kx) (k : Kx), k ∈ l.take (cntR f n l) → f ≤ k.io
  | 0, l, k, h => by rw [cntR, List.take_zero] at h; cases h
  | n + 1, [], k, h => by rw [List.take_nil] at h; cases h
  | n + 1, q :: r, k, h => by
    rw [cntR] at h
    by_cases c : q.io < f
    · rw [if_pos c, List.take_zero] at h; cases h
    · rw [if_neg c, List.take_succ_cons] at h
      rcases List.mem_cons.1 h with rfl | h
      · omega
      · exact cntR_ge f n r k h
/-- each row lies in the list, has a name, and none of its numbers is below its first -/
theorem rwp_mem (l : List Kx) : ∀ (n k : Nat) (x : Nat × Nat), x ∈ rwp n k (l.drop k) → k ≤ x.1 ∧ x.1 + x.2 ≤ l.length ∧ 1 ≤ x.2 ∧ x.2 ≤ 256 ∧ ∃ F, l[x.1]? = some F ∧ ∀ K ∈ rowAt l x, F.io ≤ K.io
  | 0, k, x, h => by rw [rwp] at h; cases h
  | n + 1, k, x, h => by
    rw [rwp] at h
    by_cases h0 : (l.drop k).length = 0
    · rw [if_pos h0] at h; cases h
    · rw [if_neg h0, List.drop_drop] at h
      have hp := inr16_pos (l := l.drop k) (fun e => h0 (by rw [e]; rfl))
      have hq := inr16_le (l.drop k)
      have hl : (l.drop k).length = l.length - k := List.length_drop
      rcases List.mem_cons.1 h with rfl | h
      · have hk : k < l.length := by omega
        refine ⟨Nat.le_refl _, by simp only; omega, hp, hq.1, l[k], List.getElem?_eq_getElem hk, fun K hK => ?_⟩
        unfold rowAt at hK
        simp only at hK
        have e : l.drop k = l[k] :: l.drop (k + 1) := by rw [List.getElem_cons_drop]
        rw [e] at hK
        unfold inr16 at hK
        exact cntR_ge _ 256 _ K hK
      · have := rwp_mem l n (k + inr16 (l.drop k)) x h
        exact ⟨by omega, this.2⟩
theorem WInv.turn16 {W W' : World} {row : Option Nat} {p : Nat} {v : Value} {bs : List Int} {most e : Int} (h : WInv W p v bs most e) (hg : W.grownBy W' row) (hr : ∀ r, row = some r → ∃ o : Obj, W.heap[r]? = some o ∧ o.isCells = false) : WInv W' p v bs most e := by
  have hp : some p ≠ row := fun q => by
    obtain ⟨o, ho, hc⟩ := hr p q.symm
    have := h.blk
    unfold SBlk at this
    rw [this] at ho
    cases ho
    cases hc
  have hv : v.ownBlock = none ∨ v.ownBlock ≠ row := by
    rcases h.own.2 with ⟨rfl, _⟩ | ⟨g, cap, cur, rfl, _, hgb, _⟩
    · exact .inl rfl
    · refine .inr fun e' => ?_
      obtain ⟨o, ho, hc⟩ := hr g e'.symm
      rw [hgb] at ho
      cases ho
      cases hc
  exact ⟨by have := h.blk; unfold SBlk at this ⊢; rw [hg.block p (Array.getElem?_eq_some_iff.1 this).1 hp]; exact this, h.own.kept hg hv, h.byt⟩
end Go.Proofs.Ytngalihnckbkfaa
