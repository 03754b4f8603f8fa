/- A folder's names as bytes, plain: rows. -/
import Derived.Test.YtngalihnckbkfaaEA
import Derived.Test.YtngalihnckbkfaaOF
namespace Go.Proofs.Ytngalihnckbkfaa
open Go.RowKit
set_option maxRecDepth 100000
set_option linter.unusedSimpArgs false
set_option linter.unusedVariables false
/-- how many names, at most n, are not below f -/
def cntR (f : Int) : Nat → List Kx → Nat
  | 0, _ => 0
  | _ + 1, [] => 0
  | n + 1, k :: r => if k.io < f then 0 else cntR f n r + 1
/-- how many names the row has that begins with the first -/
def inr16 : List Kx → Nat
  | [] => 0
  | k :: r => cntR k.io 256 (k :: r)
theorem cntR_le (f : Int) : ∀ (n : Nat) (l : List Kx), cntR f n l ≤ n ∧ cntR f n l ≤ l.length
  | 0, l => ⟨Nat.le_refl _, Nat.zero_le _⟩
  | n + 1, [] => ⟨Nat.zero_le _, Nat.le_refl _⟩
  | n + 1, k :: r => by
    have := cntR_le f n r
    rw [cntR]
    split
    · exact ⟨Nat.zero_le _, Nat.zero_le _⟩
    · rw [List.length_cons]; omega
theorem cntR_eq (f : Int) : ∀ (n : Nat) (l : List Kx) (j : Nat), j ≤ n → j ≤ l.length → (∀ i k, i < j → l[i]? = some k → ¬ k.io < f) → (j = n ∨ j = l.length ∨ ∃ k, l[j]? = some k ∧ k.io < f) → cntR f n l = j
  | 0, l, j, h1, _, _, _ => by rw [cntR]; omega
  | n + 1, [], j, _, h2, _, _ => by rw [cntR]; simp at h2; omega
  | n + 1, k :: r, 0, _, _, _, h4 => by
    rcases h4 with h | h | ⟨k', h, hk⟩
    · omega
    · simp at h
    · rw [List.getElem?_cons_zero] at h
      injection h with h
      subst h
      rw [cntR, if_pos hk]
  | n + 1, k :: r, j + 1, h1, h2, h3, h4 => by
    rw [cntR, if_neg (h3 0 k (by omega) rfl), cntR_eq f n r j (by omega) (by simpa using h2) (fun i k' hi hk => h3 (i + 1) k' (by omega) (by rw [List.getElem?_cons_succ]; exact hk)) (by
      rcases h4 with h | h | ⟨k', h, hk⟩
      · exact Or.inl (by omega)
      · exact Or.inr (Or.inl (by simpa using h))
      · exact Or.inr (Or.inr ⟨k', by rwa [List.getElem?_cons_succ] at h, hk⟩))]
theorem inr16_le (l : List Kx) : inr16 l ≤ 256 ∧ inr16 l ≤ l.length := by
  cases l with
  | nil => exact ⟨Nat.zero_le _, Nat.le_refl _⟩
  | cons k r => exact cntR_le k.io 256 (k :: r)
theorem inr16_pos {l : List Kx} (h : l ≠ []) : 1 ≤ inr16 l := by
  cases l with
  | nil => exact absurd rfl h
  | cons k r =>
    show 1 ≤ cntR k.io (255 + 1) (k :: r)
    rw [cntR, if_neg (by omega)]
    omega
theorem inr16_eq {l : List Kx} {K : Kx} (h0 : l[0]? = some K) {j : Nat} (h1 : j ≤ 256) (h2 : j ≤ l.length) (h3 : ∀ i k, i < j → l[i]? = some k → ¬ k.io < K.io) (h4 : j = 256 ∨ j = l.length ∨ ∃ k, l[j]? = some k ∧ k.io < K.io) : inr16 l = j := by
  cases l with
  | nil => cases h0
  | cons k r =>
    rw [List.getElem?_cons_zero] at h0
    injection h0 with h0
    subst h0
    exact cntR_eq k.io 256 (k :: r) j h1 h2 h3 h4
/-- the rows of a list -/
def rws16 : Nat → List Kx → List (List Kx)
  | 0, _ => []
  | n + 1, l => if l.length = 0 then [] else l.take (inr16 l) :: rws16 n (l.drop (inr16 l))
/-- a name's bytes in a row whose first number is f; a row's bytes; a list's -/
def kidB (f : Int) (k : Kx) : List Int := sto (k.io - f) 2 ++ (((k.nm.size : Nat) : Int) :: nums k.nm)
def rowB (r : List Kx) : List Int := match r with | [] => [] | k :: _ => sto ((r.length : Nat) : Int) 2 ++ (sto k.io 4 ++ (r.map (kidB k.io)).flatten)
def enb16 (l : List Kx) : List Int := ((rws16 l.length l).map rowB).flatten
theorem rws16_all : ∀ (n : Nat) (l : List Kx), l.length ≤ n → (rws16 n l).flatten = l
  | 0, l, h => by rw [rws16, List.eq_nil_of_length_eq_zero (by omega : l.length = 0)]; rfl
  | n + 1, l, h => by
    rw [rws16]
    by_cases h0 : l.length = 0
    · rw [if_pos h0, List.eq_nil_of_length_eq_zero h0]; rfl
    · have hp := inr16_pos (l := l) (fun e => h0 (by rw [e]; rfl))
      rw [if_neg h0, List.flatten_cons, rws16_all n _ (by rw [List.length_drop]; omega), List.take_append_drop]
end Go.Proofs.Ytngalihnckbkfaa
