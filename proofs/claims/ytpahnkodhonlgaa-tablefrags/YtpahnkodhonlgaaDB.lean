/- A record's bytes. -/
import Derived.Test.YtpahnkodhonlgaaDA
import Derived.Test.YtpahnkodhonlgaaRF
import Derived.Laws.OwnMore
namespace Go.Proofs.Ytpahnkodhonlgaa
open Go.RowKit
set_option maxRecDepth 100000
set_option linter.unusedSimpArgs false
set_option linter.unusedVariables false

/-- what a call made: its bytes -/
theorem own_bytes {W : World} {base n : Nat} {v : Value} {bs : List Int} (h : W.ownsRow base 5 1 v n (bv bs)) (hb : Byt bs) (hl : n ≤ maxLen) : ∃ a c, v = .slice a n c ∧ Row W a n bs ∧ (a = none → c = 0) ∧ n ≤ c ∧ c ≤ maxLen := by
  have hn : bs.length = n := by have := h.1; rw [bv_length] at this; omega
  rcases h.2 with ⟨rfl, rfl⟩ | ⟨g, cap, cur, rfl, _, hg, hc, hm, hs, ht⟩
  · exact ⟨none, 0, rfl, ⟨hn, Nat.zero_le _, hb, fun h => by omega⟩, fun _ => rfl, Nat.le_refl _, Nat.zero_le _⟩
  · refine ⟨_, cap, rfl, ⟨hn, hl, hb, fun _ => ⟨g, 0, rfl, fun i hi => ?_⟩⟩, (fun e => by cases e), hc, hm⟩
    have e : W.cell? ⟨g, 0 + i, none⟩ = cur[i]? := by simp [World.cell?, hg]
    rw [e, ← bv_getElem? bs i (by omega), ← ht, List.getElem?_take, if_pos (by omega), Array.getElem?_toList]
theorem own_bx {W : World} {base e e' s n g : Nat} {v : Value} {xs cs : List Value} (h : W.ownsRow base e s v n xs) (h' : Bx W g e' cs) (hne : e ≠ e') : some g ≠ v.ownBlock := by
  intro k
  rcases h.2 with ⟨rfl, _⟩ | ⟨g', cap, cur, rfl, hb, hgg, _⟩
  · simp [Value.ownBlock] at k
  · simp [Value.ownBlock] at k
    subst k
    rw [h'.blk] at hgg
    injection hgg with e1
    injection e1 with e1 e2 e3
    exact hne e2.symm
/-- all bytes of a record but the last four -/
def rb0 (r : Rc) : List Int := [80, 77, 66, 49] ++ sto r.q 8 ++ [r.s, 0, 0, 0] ++ sto r.l 4 ++ sto r.u 8
def rby (r : Rc) : List Int := rb0 r ++ sto (crc ent 0 (rb0 r) : Nat) 4
theorem sto_len (n : Int) (k : Nat) : (sto n k).length = k := by
  induction k generalizing n with
  | zero => rfl
  | succ k ih => rw [sto_snoc, List.length_append, ih]; rfl
theorem rb0_len (r : Rc) : (rb0 r).length = 28 := by unfold rb0; simp [sto_len]
theorem rby_len (r : Rc) : (rby r).length = 32 := by unfold rby; rw [List.length_append, rb0_len, sto_len]
theorem rb0_byt {r : Rc} (h : rrt r = true) : Byt (rb0 r) := by
  have := rrt_iff.1 h
  unfold rb0
  refine (((Byt.append (Byt.append ?_ (sto_byt _ _)) ?_).append (sto_byt _ _)).append (sto_byt _ _))
  · intro x hx; simp at hx; omega
  · intro x hx; simp at hx; omega
theorem rby_byt {r : Rc} (h : rrt r = true) : Byt (rby r) := by unfold rby; exact (rb0_byt h).append (sto_byt _ _)
end Go.Proofs.Ytpahnkodhonlgaa
