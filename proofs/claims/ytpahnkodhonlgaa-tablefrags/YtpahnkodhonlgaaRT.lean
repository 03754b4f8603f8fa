/- The document's lz: the bytes that tell a length. -/
import Derived.Test.YtpahnkodhonlgaaRA
namespace Go.Proofs.Ytpahnkodhonlgaa
open Go.RowKit
set_option maxRecDepth 100000
set_option linter.unusedSimpArgs false
set_option linter.unusedVariables false

theorem info_parts {P : Program} {t : TypeId} {z : Option Value} {s b : Nat} (h : (P.info? t).map (fun i => (i.zero, i.size, i.bytes)) = some (z, s, b)) : ∃ i, P.info? t = some i ∧ i.zero = z ∧ i.size = s ∧ i.bytes = b := by
  cases e : P.info? t with
  | none => rw [e] at h; simp at h
  | some i => rw [e] at h; simp at h; exact ⟨i, rfl, h.1, h.2.1, h.2.2⟩
theorem cell_one (w : World) (t : TypeId) (v : Value) (j : Nat) (u : Value) (h : ([v])[j]? = some u) : (w.alloc (.cells #[v] t)).cell? ((⟨w.heap.size, 0, none⟩ : Addr).add j) = some u := by
  cases j with
  | zero =>
    simp at h
    subst h
    simp [Addr.add]
  | succ j => simp at h
theorem grown_own {a b c : World} {base t s n : Nat} {v : Value} {xs : List Value} (h : a.grownBy b none) (ho : b.ownsRow base t s v n xs) (k : b.grownBy c v.ownBlock) (hb : a.heap.size ≤ base) : a.grownBy c none :=
  ⟨k.os.trans h.os, k.tape.trans h.tape, k.output.trans h.output, Nat.le_trans h.size k.size, fun i hi hr => (k.block i (Nat.lt_of_lt_of_le hi h.size) (fun e => by have := (ho.lt i e.symm).1; omega)).trans (h.block i hi hr)⟩

/-- the bytes that tell a length behind its four bits -/
def tol (n : Int) : List Int := if n < 15 then [] else List.replicate ((n - 15) / 255).toNat 255 ++ [(n - 15) % 255]
theorem tol_byt (n : Int) : Byt (tol n) := by
  unfold tol
  split
  · intro x hx; simp at hx
  · intro x hx
    rw [List.mem_append] at hx
    rcases hx with hx | hx
    · rw [List.eq_of_mem_replicate hx]; decide
    · simp at hx; omega
theorem tol_len {n : Int} (h : 15 ≤ n) : (tol n).length = ((n - 15) / 255).toNat + 1 := by
  unfold tol; rw [if_neg (by omega)]; simp

end Go.Proofs.Ytpahnkodhonlgaa
