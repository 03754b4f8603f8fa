/- Rows, plain: where they begin; how many bytes they have. -/
import Derived.Test.YtngalihnckbkfaaEH
import Derived.Test.YtngalihnckbkfaaED
namespace Go.Proofs.Ytngalihnckbkfaa
open Go.RowKit
set_option maxRecDepth 100000
set_option linter.unusedSimpArgs false
set_option linter.unusedVariables false
/-- the row that begins at a place -/
def rowAt (l : List Kx) (x : Nat × Nat) : List Kx := (l.drop x.1).take x.2
theorem rwp_rws (l : List Kx) : ∀ (n k : Nat), (rwp n k (l.drop k)).map (rowAt l) = rws16 n (l.drop k)
  | 0, k => rfl
  | n + 1, k => by
    rw [rwp, rws16]
    by_cases h : (l.drop k).length = 0
    · rw [if_pos h, if_pos h]; rfl
    · rw [if_neg h, if_neg h, List.map_cons, List.drop_drop, rwp_rws l n (k + inr16 (l.drop k))]; rfl
theorem enb_rwp (l : List Kx) : enb16 l = (((rwp l.length 0 l).map (rowAt l)).map rowB).flatten := by
  have := rwp_rws l l.length 0
  rw [List.drop_zero] at this
  rw [this]; rfl
theorem kidB_len (f : Int) (k : Kx) : (kidB f k).length = 3 + k.nm.size := by
  unfold kidB
  rw [List.length_append, sto_length, List.length_cons, nums_len]
  omega
theorem kids_len (f : Int) : ∀ (r : List Kx), (∀ k ∈ r, k.nm.size ≤ 255) → ((r.map (kidB f)).flatten).length ≤ 258 * r.length
  | [], _ => by simp
  | k :: r, h => by
    have h1 := kids_len f r (fun k hk => h k (List.mem_cons_of_mem _ hk))
    have h2 := h k (List.mem_cons_self ..)
    rw [List.map_cons, List.flatten_cons, List.length_append, kidB_len, List.length_cons]
    omega
theorem rowB_len {r : List Kx} (h : ∀ k ∈ r, k.nm.size ≤ 255) : (rowB r).length ≤ 264 * r.length := by
  cases r with
  | nil => exact Nat.zero_le _
  | cons k r =>
    have h1 := kids_len k.io (k :: r) h
    unfold rowB
    rw [List.length_append, List.length_append, sto_length, sto_length, List.length_cons]
    rw [List.length_cons] at h1
    omega
theorem rows_len : ∀ (n : Nat) (l : List Kx), (∀ k ∈ l, k.nm.size ≤ 255) → (((rws16 n l).map rowB).flatten).length ≤ 264 * l.length
  | 0, l, _ => by rw [rws16]; simp
  | n + 1, l, h => by
    rw [rws16]
    by_cases h0 : l.length = 0
    · rw [if_pos h0]; simp
    · have hp := inr16_le l
      have h1 := rowB_len (r := l.take (inr16 l)) (fun k hk => h k (List.mem_of_mem_take hk))
      have h2 := rows_len n (l.drop (inr16 l)) (fun k hk => h k (List.mem_of_mem_drop hk))
      rw [if_neg h0, List.map_cons, List.flatten_cons, List.length_append]
      rw [List.length_take] at h1
      rw [List.length_drop] at h2
      have e1 : min (inr16 l) l.length = inr16 l := Nat.min_eq_left hp.2
      rw [e1] at h1
      omega
theorem enb16_len {l : List Kx} (h : ∀ k ∈ l, k.nm.size ≤ 255) : (enb16 l).length ≤ 264 * l.length := rows_len l.length l h
theorem kidB_byt {f : Int} {k : Kx} (h : k.nm.size ≤ 255) : Byt (kidB f k) := by
  unfold kidB
  refine (sto_byt _ _).append fun x hx => ?_
  rcases List.mem_cons.1 hx with rfl | hx
  · omega
  · exact nums_byt _ x hx
theorem rowB_byt {r : List Kx} (h : ∀ k ∈ r, k.nm.size ≤ 255) : Byt (rowB r) := by
  cases r with
  | nil => exact fun x hx => by cases hx
  | cons k r =>
    unfold rowB
    refine (sto_byt _ _).append ((sto_byt _ _).append fun x hx => ?_)
    obtain ⟨b, hb, hxb⟩ := List.mem_flatten.1 hx
    obtain ⟨q, hq, rfl⟩ := List.mem_map.1 hb
    exact kidB_byt (h q hq) x hxb
theorem enb16_byt {l : List Kx} (h : ∀ k ∈ l, k.nm.size ≤ 255) : Byt (enb16 l) := fun x hx => by
  obtain ⟨b, hb, hxb⟩ := List.mem_flatten.1 hx
  obtain ⟨r, hr, rfl⟩ := List.mem_map.1 hb
  refine rowB_byt (fun k hk => h k ?_) x hxb
  have := rws16_all l.length l (Nat.le_refl _)
  rw [← this]
  exact List.mem_flatten.2 ⟨r, hr, hk⟩
end Go.Proofs.Ytngalihnckbkfaa
