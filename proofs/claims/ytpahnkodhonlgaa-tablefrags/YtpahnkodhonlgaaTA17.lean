/- Numbers, each once, in order: plain. -/
import Derived.Test.YtpahnkodhonlgaaOA
import Derived.Lib.SlKeysI
namespace Go.Proofs.Ytpahnkodhonlgaa
open Go.RowKit
set_option maxRecDepth 100000
set_option linter.unusedSimpArgs false
set_option linter.unusedVariables false
def ins17 (x : Int) : List Int → List Int
  | [] => [x]
  | y :: r => if x < y then x :: y :: r else if x = y then y :: r else y :: ins17 x r
/-- a list's numbers, each once, in order -/
def srt17 : List Int → List Int
  | [] => []
  | x :: r => ins17 x (srt17 r)
theorem mem_ins (x z : Int) : ∀ l : List Int, z ∈ ins17 x l ↔ z = x ∨ z ∈ l
  | [] => by simp [ins17]
  | y :: r => by
    rw [ins17]
    split
    · simp
    · split
      · rename_i h
        subst h
        simp
      · rw [List.mem_cons, mem_ins x z r, List.mem_cons]
        constructor
        · rintro (h | h | h)
          · exact Or.inr (Or.inl h)
          · exact Or.inl h
          · exact Or.inr (Or.inr h)
        · rintro (h | h | h)
          · exact Or.inr (Or.inl h)
          · exact Or.inl h
          · exact Or.inr (Or.inr h)
theorem pw_ins (x : Int) : ∀ l : List Int, l.Pairwise (· < ·) → (ins17 x l).Pairwise (· < ·)
  | [], _ => by simp [ins17]
  | y :: r, h => by
    obtain ⟨h1, h2⟩ := List.pairwise_cons.1 h
    rw [ins17]
    split
    · rename_i c
      refine List.pairwise_cons.2 ⟨fun z hz => ?_, h⟩
      rcases List.mem_cons.1 hz with rfl | hz
      · exact c
      · have := h1 z hz; omega
    · split
      · exact h
      · refine List.pairwise_cons.2 ⟨fun z hz => ?_, pw_ins x r h2⟩
        rcases (mem_ins x z r).1 hz with rfl | hz
        · omega
        · exact h1 z hz
theorem srt_mem : ∀ (l : List Int) (z : Int), z ∈ srt17 l ↔ z ∈ l
  | [], z => Iff.rfl
  | x :: r, z => by rw [srt17, mem_ins, srt_mem r z, List.mem_cons]
theorem srt_pw : ∀ l : List Int, (srt17 l).Pairwise (· < ·)
  | [] => List.Pairwise.nil
  | x :: r => pw_ins x _ (srt_pw r)
theorem srt_nodup (l : List Int) : (srt17 l).Nodup := (srt_pw l).imp (fun h e => by omega)
/-- whatever holds these numbers, each once, is sorted into them -/
theorem srt_of_perm {l ss : List Int} (h : ss.Perm (srt17 l)) : ss.mergeSort (fun x y => decide (x ≤ y)) = srt17 l := by
  have e := mergeSort_of_perm_i h
  have e2 : (srt17 l).mergeSort leI = srt17 l := List.mergeSort_of_pairwise ((srt_pw l).imp (fun h => by simp only [leI, decide_eq_true_eq]; omega))
  exact e.trans e2
/-- two lists that go up and have the same numbers are the same -/
theorem up_ext : ∀ (l m : List Int), l.Pairwise (· < ·) → m.Pairwise (· < ·) → (∀ z, z ∈ l ↔ z ∈ m) → l = m := by
  intro l m h1 h2 h
  have hp : l.Perm m := (List.perm_ext_iff_of_nodup (h1.imp (fun h e => by omega)) (h2.imp (fun h e => by omega))).2 h
  exact List.Perm.eq_of_pairwise (le := fun a b => a < b) (fun a b _ _ h1 h2 => by omega) h1 h2 hp
theorem ins_len (x : Int) : ∀ l : List Int, (ins17 x l).length ≤ l.length + 1
  | [] => Nat.le_refl _
  | y :: r => by
    rw [ins17]
    split
    · exact Nat.le_refl _
    · split
      · exact Nat.le_succ _
      · have := ins_len x r
        simp only [List.length_cons]
        omega
theorem srt_len : ∀ l : List Int, (srt17 l).length ≤ l.length
  | [] => Nat.le_refl _
  | x :: r => by
    have h1 := ins_len x (srt17 r)
    have h2 := srt_len r
    rw [srt17, List.length_cons]
    omega
end Go.Proofs.Ytpahnkodhonlgaa
