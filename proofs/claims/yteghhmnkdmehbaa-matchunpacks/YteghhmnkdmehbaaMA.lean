/- The packer, as plain functions. -/
import Derived.Test.YteghhmnkdmehbaaBE
namespace Go.Proofs.Yteghhmnkdmehbaa
open Go.RowKit
set_option linter.unusedSimpArgs false
set_option linter.unusedVariables false

/-- which chain four bytes go into -/
def hsh (a b c d : Int) : Int := bits .or .u32 (bits .or .u32 (bits .or .u32 a (b * 256)) (c * 65536)) (d * 16777216) * 2654435761 % 4294967296 / 524288
theorem hsh_lt (a b c d : Int) : 0 ≤ hsh a b c d ∧ hsh a b c d < 8192 := by
  unfold hsh
  generalize bits .or .u32 (bits .or .u32 (bits .or .u32 a (b * 256)) (c * 65536)) (d * 16777216) = x
  omega
def slt (bs : List Int) (p : Nat) : Nat := (hsh (bs.getD p 0) (bs.getD (p + 1) 0) (bs.getD (p + 2) 0) (bs.getD (p + 3) 0)).toNat
theorem slt_lt (bs : List Int) (p : Nat) : slt bs p < 8192 := by have := hsh_lt (bs.getD p 0) (bs.getD (p + 1) 0) (bs.getD (p + 2) 0) (bs.getD (p + 3) 0); unfold slt; omega
theorem slt_eq (bs : List Int) (p : Nat) : hsh (bs.getD p 0) (bs.getD (p + 1) 0) (bs.getD (p + 2) 0) (bs.getD (p + 3) 0) = (slt bs p : Int) := by have := hsh_lt (bs.getD p 0) (bs.getD (p + 1) 0) (bs.getD (p + 2) 0) (bs.getD (p + 3) 0); unfold slt; omega
/-- one more than the last place ahead of p that goes into chain s; 0: there is none -/
def las (bs : List Int) (s : Nat) : Nat → Nat
  | 0 => 0
  | p + 1 => if slt bs p = s then p + 1 else las bs s p
theorem las_le (bs : List Int) (s p : Nat) : las bs s p ≤ p := by
  induction p with
  | zero => exact Nat.le_refl _
  | succ p ih => rw [las]; split <;> omega
theorem las_ge {bs : List Int} {s q : Nat} (p : Nat) (h : q < p) (hs : slt bs q = s) : q + 1 ≤ las bs s p := by
  induction p with
  | zero => omega
  | succ p ih =>
    rw [las]
    split
    · omega
    · rename_i k
      by_cases e : q = p
      · subst e; exact absurd hs k
      · exact ih (by omega)
theorem las_slt {bs : List Int} {s : Nat} (p : Nat) (h : 0 < las bs s p) : slt bs (las bs s p - 1) = s := by
  induction p with
  | zero => simp [las] at h
  | succ p ih =>
    rw [las] at h ⊢
    split
    · rename_i k; simpa using k
    · rename_i k
      rw [if_neg k] at h
      exact ih h
/-- how many bytes two texts begin with that are the same -/
def alk : List Int → List Int → Nat
  | x :: r, y :: t => if x = y then alk r t + 1 else 0
  | _, _ => 0
theorem alk_le (xs ys : List Int) : alk xs ys ≤ xs.length := by
  induction xs generalizing ys with
  | nil => simp [alk]
  | cons x r ih =>
    cases ys with
    | nil => simp [alk]
    | cons y t =>
      rw [alk]
      split
      · have := ih t; simp; omega
      · simp
theorem alk_eq {xs ys : List Int} {i : Nat} (h : i < alk xs ys) : xs.getD i 0 = ys.getD i 0 := by
  induction xs generalizing ys i with
  | nil => simp [alk] at h
  | cons x r ih =>
    cases ys with
    | nil => simp [alk] at h
    | cons y t =>
      rw [alk] at h
      split at h
      · rename_i e
        cases i with
        | zero => simpa using e
        | succ i => simpa using ih (ys := t) (i := i) (by omega)
      · omega
theorem alk_at {xs ys : List Int} {j : Nat} (h : ∀ i, i < j → xs.getD i 0 = ys.getD i 0) (hj : j < xs.length) (hy : j < ys.length) (hne : xs.getD j 0 ≠ ys.getD j 0) : alk xs ys = j := by
  induction xs generalizing ys j with
  | nil => simp at hj
  | cons x r ih =>
    cases ys with
    | nil => simp at hy
    | cons y t =>
      rw [alk]
      cases j with
      | zero => rw [if_neg (by simpa using hne)]
      | succ j =>
        rw [if_pos (by simpa using h 0 (by omega)), ih (ys := t) (j := j) (fun i hi => by simpa using h (i + 1) (by omega)) (by simpa using hj) (by simpa using hy) (by simpa using hne)]
theorem alk_all {xs ys : List Int} (h : ∀ i, i < xs.length → xs.getD i 0 = ys.getD i 0) (hy : xs.length ≤ ys.length) : alk xs ys = xs.length := by
  induction xs generalizing ys with
  | nil => simp [alk]
  | cons x r ih =>
    cases ys with
    | nil => simp at hy
    | cons y t =>
      rw [alk, if_pos (by simpa using h 0 (by simp)), ih (ys := t) (fun i hi => by simpa using h (i + 1) (by simp; omega)) (by simpa using hy)]
      simp
/-- what may be copied at a place: all up to the last five bytes -/
def her (bs : List Int) (p : Nat) : List Int := (bs.drop p).take (bs.length - 5 - p)
theorem her_len (bs : List Int) (p : Nat) : (her bs p).length = bs.length - 5 - p := by unfold her; simp; omega
theorem her_get {bs : List Int} {p i : Nat} (h : i < bs.length - 5 - p) : (her bs p).getD i 0 = bs.getD (p + i) 0 := by
  unfold her
  rw [List.getD_eq_getElem?_getD, List.getD_eq_getElem?_getD, List.getElem?_take, if_pos h, List.getElem?_drop]
theorem drop_get (bs : List Int) (p i : Nat) : (bs.drop p).getD i 0 = bs.getD (p + i) 0 := by
  rw [List.getD_eq_getElem?_getD, List.getD_eq_getElem?_getD, List.getElem?_drop]
/-- the search along a chain: how far back, how long -/
def lon (bs : List Int) (p : Nat) : Nat → Nat → Nat → Nat → Nat × Nat
  | 0, _, off, n => (off, n)
  | t + 1, f, off, n =>
    if f = 0 ∨ 65535 < p + 1 - f ∨ n = bs.length - 5 - p then (off, n)
    else if 4 ≤ alk (her bs p) (bs.drop (f - 1)) ∧ n < alk (her bs p) (bs.drop (f - 1)) then lon bs p t (las bs (slt bs (f - 1)) (f - 1)) (p + 1 - f) (alk (her bs p) (bs.drop (f - 1)))
    else lon bs p t (las bs (slt bs (f - 1)) (f - 1)) off n
def lng6 (bs : List Int) (p : Nat) : Nat × Nat := lon bs p 64 (las bs (slt bs p) p) 0 0
/-- may this be copied? -/
structure Gd (bs : List Int) (p off n : Nat) : Prop where
  go : 1 ≤ off ∧ off ≤ p ∧ off ≤ 65535
  gn : 4 ≤ n ∧ p + n + 5 ≤ bs.length
  ge : ∀ i, i < n → bs.getD (p - off + i) 0 = bs.getD (p + i) 0
theorem lon_ok (bs : List Int) (p : Nat) (hp : p + 12 ≤ bs.length) (t f off n : Nat) (hf : f ≤ p) (h : n = 0 ∨ Gd bs p off n) : (lon bs p t f off n).2 = 0 ∨ Gd bs p (lon bs p t f off n).1 (lon bs p t f off n).2 := by
  induction t generalizing f off n with
  | zero => exact h
  | succ t ih =>
    rw [lon]
    split
    · exact h
    · rename_i k
      have hl := las_le bs (slt bs (f - 1)) (f - 1)
      split
      · rename_i k2
        refine ih _ _ _ (by omega) (Or.inr ?_)
        have h1 := alk_le (her bs p) (bs.drop (f - 1))
        rw [her_len] at h1
        refine ⟨by omega, by omega, fun i hi => ?_⟩
        have := alk_eq hi
        rw [her_get (by omega), drop_get] at this
        rw [this]
        congr 1
        omega
      · exact ih _ _ _ (by omega) h
theorem lng6_ok (bs : List Int) (p : Nat) (hp : p + 12 ≤ bs.length) : (lng6 bs p).2 = 0 ∨ Gd bs p (lng6 bs p).1 (lng6 bs p).2 := lon_ok bs p hp 64 _ 0 0 (las_le _ _ _) (Or.inl rfl)
/-- a text's sequences, from a place on; told: what has been told -/
def sqs (bs : List Int) : Nat → Nat → Nat → List Sq
  | 0, told, _ => [(bs.drop told, 0, 0)]
  | f + 1, told, p =>
    if p + 12 ≤ bs.length then
      if 0 < (lng6 bs p).2 then ((bs.drop told).take (p - told), ((lng6 bs p).1 : Int), ((lng6 bs p).2 : Int)) :: sqs bs f (p + (lng6 bs p).2) (p + (lng6 bs p).2)
      else sqs bs f told (p + 1)
    else [(bs.drop told, 0, 0)]
def enc (bs : List Int) : List Sq := sqs bs (bs.length + 1) 0 0
theorem sqs_enc (bs : List Int) (hl : bs.length ≤ 1048576) (f : Nat) : ∀ (qs : List Sq) (told p : Nat), Par bs qs told → told ≤ p → (qs = [] ∨ ∃ pre x, qs = pre ++ [x] ∧ told + 5 ≤ bs.length ∧ 12 ≤ (bs.length : Int) - told + x.2.2) → Enc bs (qs ++ sqs bs f told p) := by
  induction f with
  | zero => intro qs told p P ht he; exact P.enc hl he
  | succ f ih =>
    intro qs told p P ht he
    rw [sqs]
    split
    · rename_i hp
      split
      · rename_i h0
        rcases lng6_ok bs p hp with h | G
        · omega
        · have S := P.step ht G.go ⟨G.gn.1, by have := G.gn.2; omega⟩ hl G.ge
          have := ih _ _ _ S (Nat.le_refl _) (Or.inr ⟨qs, _, rfl, by have := G.gn.2; omega, by have := G.gn.2; simp only; omega⟩)
          simpa using this
      · exact ih _ _ _ P (by omega) he
    · exact P.enc hl he
theorem enc_ok (bs : List Int) (hl : bs.length ≤ 1048576) : Enc bs (enc bs) := by
  have := sqs_enc bs hl (bs.length + 1) [] 0 0 (Par.nil bs) (Nat.le_refl _) (Or.inl rfl)
  unfold enc
  simpa using this
theorem sqs_len (bs : List Int) (f : Nat) : ∀ told p, (sqs bs f told p).length ≤ f + 1 := by
  induction f with
  | zero => intro told p; simp [sqs]
  | succ f ih =>
    intro told p
    rw [sqs]
    split
    · split
      · have := ih (p + (lng6 bs p).2) (p + (lng6 bs p).2); simp; omega
      · have := ih told (p + 1); omega
    · simp
theorem enc_len (bs : List Int) : (enc bs).length ≤ bs.length + 2 := by have := sqs_len bs (bs.length + 1) 0 0; unfold enc; omega
end Go.Proofs.Yteghhmnkdmehbaa
