/- Attributes in memory; what a right set is. -/
import Derived.Test.YtpahnkodhonlgaaOD
import Derived.Test.YtpahnkodhonlgaaOA
namespace Go.Proofs.Ytpahnkodhonlgaa
open Go.RowKit
set_option maxRecDepth 100000
set_option linter.unusedSimpArgs false
set_option linter.unusedVariables false
/-- an attribute with its place in memory -/
structure AtV where
  n : ByteArray
  a : Option Addr
  len : Nat
  cap : Nat
  v : List Int
structure AtAt (w : World) (b o : Nat) (A : AtV) : Prop where
  c0 : w.cell? ⟨b, o, none⟩ = some (.string A.n)
  c1 : w.cell? ⟨b, o + 1, none⟩ = some (.slice A.a A.len A.cap)
  row : Row w A.a A.len A.v
  cap : A.len ≤ A.cap
/-- attributes in memory -/
structure Ats (w : World) (a : Option Addr) (len : Nat) (l : List AtV) : Prop where
  len_eq : l.length = len
  le : len ≤ maxLen
  at_ : 0 < len → ∃ b off, a = some ⟨b, off, none⟩ ∧ ∀ i A, l[i]? = some A → AtAt w b (off + i * 2) A
theorem cell_grown17' {w w' : World} {p : Addr} {v : Value} (h : w.cell? p = some v) (g : w.grownBy w' none) : w'.cell? p = some v := World.grownBy.cell g h (by simp)
theorem AtAt.grown {w w' : World} {b o : Nat} {A : AtV} (h : AtAt w b o A) (g : w.grownBy w' none) : AtAt w' b o A := ⟨cell_grown17' h.c0 g, cell_grown17' h.c1 g, h.row.grown g, h.cap⟩
theorem Ats.grown {w w' : World} {a : Option Addr} {len : Nat} {l : List AtV} (h : Ats w a len l) (g : w.grownBy w' none) : Ats w' a len l :=
  ⟨h.len_eq, h.le, fun h0 => by obtain ⟨b, off, e, k⟩ := h.at_ h0; exact ⟨b, off, e, fun i A hA => (k i A hA).grown g⟩⟩
/-- not behind? -/
def leS17 (x y : ByteArray) : Bool := Op.bytesLess x.toList y.toList || x.toList == y.toList
def prv17 (l : List AtV) : Nat → ByteArray
  | 0 => ⟨#[]⟩
  | m + 1 => match l[m]? with | some k => k.n | none => ⟨#[]⟩
def at17 (l : List AtV) (i : Nat) : Bool := match l[i]? with | some k => !leS17 k.n (prv17 l i) && (decide (k.n.size ≤ 255) && (!has0 k.n && decide (k.len ≤ 4096))) | none => true
/-- a right set -/
def rga17 (l : List AtV) : Bool := decide (1 ≤ l.length) && (decide (l.length ≤ 64) && (List.range l.length).all (at17 l))
theorem rga_of {l : List AtV} (h1 : 1 ≤ l.length) (h2 : l.length ≤ 64) (h : ∀ i, i < l.length → at17 l i = true) : rga17 l = true := by
  unfold rga17
  rw [decide_eq_true h1, decide_eq_true h2, List.all_eq_true.2 fun i hi => h i (List.mem_range.1 hi)]
  rfl
theorem rga_not {l : List AtV} {i : Nat} (hi : i < l.length) (h : at17 l i = false) : rga17 l = false := by
  have : (List.range l.length).all (at17 l) = false := List.all_eq_false.2 ⟨i, List.mem_range.2 hi, by simp [h]⟩
  unfold rga17
  rw [this]
  simp
theorem rga_len {l : List AtV} (h : l.length = 0 ∨ 64 < l.length) : rga17 l = false := by
  unfold rga17
  rcases h with h | h
  · rw [decide_eq_false (by omega : ¬ 1 ≤ l.length)]; rfl
  · rw [decide_eq_false (by omega : ¬ l.length ≤ 64)]; simp
theorem rga_at {l : List AtV} (h : rga17 l = true) : 1 ≤ l.length ∧ l.length ≤ 64 ∧ ∀ k ∈ l, k.n.size ≤ 255 ∧ k.len ≤ 4096 := by
  unfold rga17 at h
  simp only [Bool.and_eq_true, decide_eq_true_eq] at h
  refine ⟨h.1, h.2.1, fun k hk => ?_⟩
  obtain ⟨i, hi⟩ := List.getElem?_of_mem hk
  have h3 := List.all_eq_true.1 h.2.2 i (List.mem_range.2 (List.getElem?_eq_some_iff.1 hi).1)
  unfold at17 at h3
  rw [hi] at h3
  simp only [Bool.and_eq_true, decide_eq_true_eq] at h3
  exact ⟨h3.2.1, h3.2.2.2⟩
theorem prv_succ {l : List AtV} {j : Nat} {X : AtV} (h : l[j]? = some X) : prv17 l (j + 1) = X.n := by
  show (match l[j]? with | some k => k.n | none => ⟨#[]⟩) = X.n
  rw [h]
end Go.Proofs.Ytpahnkodhonlgaa
