/- The document's Decode as a plain function. -/
import Derived.Test.YtpahnkodhonlgaaRT
namespace Go.Proofs.Ytpahnkodhonlgaa
open Go.RowKit
set_option maxRecDepth 100000
set_option linter.unusedSimpArgs false
set_option linter.unusedVariables false

/-- what one round finds: a fault; the last sequence; another one -/
abbrev DR := (Int × Int) ⊕ (Nat × Nat) ⊕ (Nat × Nat × Nat × Nat × Nat)
abbrev DR.bad (e p : Int) : DR := .inl (e, p)
abbrev DR.last (k n : Nat) : DR := .inr (.inl (k, n))
abbrev DR.more (k n off m p : Nat) : DR := .inr (.inr (k, n, off, m, p))
theorem DR.any (d : DR) : (∃ e q, d = .bad e q) ∨ (∃ k n, d = .last k n) ∨ (∃ k n o m q, d = .more k n o m q) := by
  rcases d with ⟨e, q⟩ | ⟨k, n⟩ | ⟨k, n, o, m, q⟩
  · exact Or.inl ⟨e, q, rfl⟩
  · exact Or.inr (Or.inl ⟨k, n, rfl⟩)
  · exact Or.inr (Or.inr ⟨k, n, o, m, q, rfl⟩)
def dst.dst2 (bs : List Int) (most : Int) (ol p k n : Nat) : DR :=
  if k + n = bs.length then .last k n
  else if k + n + 1 = bs.length then .bad 6 bs.length
  else if bs.getD (k + n) 0 + 256 * bs.getD (k + n + 1) 0 = 0 ∨ ((ol + n : Nat) : Int) < bs.getD (k + n) 0 + 256 * bs.getD (k + n + 1) 0 then .bad 9 ((k + n : Nat) : Int)
  else if (lng bs (bs.getD p 0 % 16) (k + n + 2)).1 < 0 then .bad 6 bs.length
  else if most - ((ol + n : Nat) : Int) < (lng bs (bs.getD p 0 % 16) (k + n + 2)).1 + 4 then .bad 2 p
  else .more k n (bs.getD (k + n) 0 + 256 * bs.getD (k + n + 1) 0).toNat ((lng bs (bs.getD p 0 % 16) (k + n + 2)).1 + 4).toNat (lng bs (bs.getD p 0 % 16) (k + n + 2)).2.toNat
def dst (bs : List Int) (most : Int) (ol : Nat) (p : Nat) : DR :=
  if bs.length ≤ p then .bad 6 bs.length
  else if (lng bs (bs.getD p 0 / 16) (p + 1)).1 < 0 then .bad 6 bs.length
  else if most - ol < (lng bs (bs.getD p 0 / 16) (p + 1)).1 then .bad 2 p
  else if (bs.length : Int) - (lng bs (bs.getD p 0 / 16) (p + 1)).2 < (lng bs (bs.getD p 0 / 16) (p + 1)).1 then .bad 6 bs.length
  else dst.dst2 bs most ol p (lng bs (bs.getD p 0 / 16) (p + 1)).2.toNat (lng bs (bs.getD p 0 / 16) (p + 1)).1.toNat

/-- a copy out of what is unpacked -/
def cpy (off : Nat) : Nat → List Int → List Int
  | 0, out => out
  | n + 1, out => cpy off n (out ++ [out.getD (out.length - off) 0])
theorem cpy_len (off n : Nat) (out : List Int) : (cpy off n out).length = out.length + n := by
  induction n generalizing out with
  | zero => rfl
  | succ n ih => rw [cpy, ih]; simp; omega
theorem cpy_byt (off n : Nat) (out : List Int) (h : Byt out) : Byt (cpy off n out) := by
  induction n generalizing out with
  | zero => exact h
  | succ n ih => rw [cpy]; exact ih _ (h.append (fun x hx => by simp at hx; subst hx; rw [← List.getD_eq_getElem?_getD]; exact h.getD _))

/-- sequences: literals, offset, length -/
abbrev Sq := List Int × Int × Int
def dec (bs : List Int) (most : Int) : Nat → List Int → List Sq → Nat → List Int × List Sq × Int × Int
  | 0, _, _, _ => ([], [], 6, bs.length)
  | f + 1, out, sq, p =>
    match dst bs most out.length p with
    | .inl (e, q) => ([], [], e, q)
    | .inr (.inl (k, n)) => (out ++ (bs.drop k).take n, sq ++ [((bs.drop k).take n, 0, 0)], 0, bs.length)
    | .inr (.inr (k, n, off, m, q)) => dec bs most f (cpy off m (out ++ (bs.drop k).take n)) (sq ++ [((bs.drop k).take n, (off : Int), (m : Int))]) q

/-- a length: bounds -/
theorem lnk_in {r : List Int} {n p : Int} (hb : Byt r) (h0 : 0 ≤ n) : (lnk r n p).1 = -1 ∨ (n ≤ (lnk r n p).1 ∧ (lnk r n p).1 ≤ n + 255 * r.length ∧ p + 1 ≤ (lnk r n p).2 ∧ (lnk r n p).2 ≤ p + r.length) := by
  induction r generalizing n p with
  | nil => left; rfl
  | cons b r ih =>
    have hb0 := hb b (List.mem_cons_self ..)
    unfold lnk
    by_cases h : b = 255
    · rw [if_pos h]
      rcases ih (n := n + 255) (p := p + 1) (fun x hx => hb x (List.mem_cons_of_mem _ hx)) (by omega) with h | h
      · exact Or.inl h
      · right; simp only [List.length_cons]; omega
    · rw [if_neg h]
      right
      simp only [List.length_cons]; omega
theorem lng_in {bs : List Int} {n : Int} {p : Nat} (hb : Byt bs) (h0 : 0 ≤ n ∧ n ≤ 15) (hp : p ≤ bs.length) : (lng bs n p).1 = -1 ∨ (0 ≤ (lng bs n p).1 ∧ (lng bs n p).1 ≤ 15 + 255 * bs.length ∧ p ≤ (lng bs n p).2 ∧ (lng bs n p).2 ≤ bs.length) := by
  unfold lng
  split
  · right; simp only; omega
  · rcases lnk_in (r := bs.drop p) (n := n) (p := p) (hb.drop p) h0.1 with h | h
    · exact Or.inl h
    · right
      rw [List.length_drop] at h
      omega

/-- sequences in memory: three cells each -/
structure SqV where
  a : Option Addr
  n : Nat
  c : Nat
  off : Int
  m : Int
def SqV.cells (s : SqV) : List Value := [.slice s.a s.n s.c, .int .i64 s.off, .int .i64 s.m]
def sqv (ss : List SqV) : List Value := ss.flatMap SqV.cells
theorem sqv_len (ss : List SqV) : (sqv ss).length = ss.length * 3 := by
  induction ss with
  | nil => rfl
  | cons s r ih => simp [sqv, SqV.cells] at ih ⊢; omega
theorem sqv_append (a b : List SqV) : sqv (a ++ b) = sqv a ++ sqv b := by simp [sqv]
structure SqOk (w : World) (s : SqV) (q : Sq) : Prop where
  row : Row w s.a s.n q.1
  off : s.off = q.2.1
  m : s.m = q.2.2
  nil : s.a = none → s.c = 0
  nc : s.n ≤ s.c
  cm : s.c ≤ maxLen
def Sqs (w : World) (ss : List SqV) (qs : List Sq) : Prop := ss.length = qs.length ∧ ∀ (i : Nat) (s : SqV) (q : Sq), ss[i]? = some s → qs[i]? = some q → SqOk w s q
theorem Sqs.nil {w : World} : Sqs w [] [] := ⟨rfl, fun i s q h => by simp at h⟩
theorem get_snoc {α : Type} {l : List α} {a x : α} {i : Nat} (h : (l ++ [a])[i]? = some x) : l[i]? = some x ∨ (i = l.length ∧ x = a) := by
  rw [List.getElem?_append] at h
  split at h
  · exact Or.inl h
  · rename_i k
    have hi : i - l.length = 0 := by
      rcases Nat.eq_zero_or_pos (i - l.length) with h0 | h0
      · exact h0
      · rw [List.getElem?_eq_none (by simp; omega)] at h; cases h
    rw [hi] at h
    simp at h
    exact Or.inr ⟨by omega, h.symm⟩
theorem Sqs.snoc {w : World} {ss : List SqV} {qs : List Sq} {s : SqV} {q : Sq} (h : Sqs w ss qs) (k : SqOk w s q) : Sqs w (ss ++ [s]) (qs ++ [q]) := by
  refine ⟨by simp [h.1], fun i s' q' h1 h2 => ?_⟩
  rcases get_snoc h1 with h1 | ⟨e1, rfl⟩
  · rcases get_snoc h2 with h2 | ⟨e2, rfl⟩
    · exact h.2 i s' q' h1 h2
    · have := (List.getElem?_eq_some_iff.1 h1).1
      have := h.1
      omega
  · rcases get_snoc h2 with h2 | ⟨e2, rfl⟩
    · have := (List.getElem?_eq_some_iff.1 h2).1
      have := h.1
      omega
    · exact k
theorem Sqs.grown {w w' : World} {ss : List SqV} {qs : List Sq} (h : Sqs w ss qs) (hg : w.grownBy w' none) : Sqs w' ss qs :=
  ⟨h.1, fun i s q h1 h2 => by have k := h.2 i s q h1 h2; exact ⟨k.row.grown hg, k.off, k.m, k.nil, k.nc, k.cm⟩⟩
theorem Sqs.len {w : World} {ss : List SqV} {qs : List Sq} (h : Sqs w ss qs) : ss.length = qs.length := h.1
end Go.Proofs.Ytpahnkodhonlgaa
