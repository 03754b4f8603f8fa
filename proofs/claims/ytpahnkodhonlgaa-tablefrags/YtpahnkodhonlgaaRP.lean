/- Plain facts: bytes as lists of numbers, numbers out of bytes, the lowest first. -/
import Derived.WalkKit
namespace Go.Proofs.Ytpahnkodhonlgaa
open Go.RowKit
set_option maxRecDepth 100000

/-- the greatest number of a width, or 0 -/
def lg (n : Int) : Int := if n = 1 then 255 else if n = 2 then 65535 else if n = 4 then 4294967295 else if n = 8 then 18446744073709551615 else 0
def isW (n : Int) : Bool := n == 1 || n == 2 || n == 4 || n == 8
def inB (len : Nat) (at_ n : Int) : Bool := decide (0 ≤ at_ ∧ 0 ≤ n ∧ at_ + n ≤ len)
/-- the number that bytes spell, the lowest first -/
def le : List Int → Int
  | [] => 0
  | b :: r => b + 256 * le r
def seg (bs : List Int) (at_ n : Int) : List Int := (bs.drop at_.toNat).take n.toNat
def getV (bs : List Int) (at_ n : Int) : Int := if isW n && inB bs.length at_ n then le (seg bs at_ n) else 0
def getE (len : Nat) (at_ n : Int) : Int := if isW n then (if inB len at_ n then 0 else 9) else 1

theorem isW_pos {n : Int} (h : isW n = true) : n = 1 ∨ n = 2 ∨ n = 4 ∨ n = 8 := by
  simp [isW] at h; omega
theorem isW_neg {n : Int} (h : isW n = false) : n ≠ 1 ∧ n ≠ 2 ∧ n ≠ 4 ∧ n ≠ 8 := by
  simp [isW] at h; omega
theorem lg_ne {n : Int} (h : isW n = true) : (lg n == 0) = false := by
  rcases isW_pos h with rfl | rfl | rfl | rfl <;> decide
theorem lg_eq {n : Int} (h : isW n = false) : lg n = 0 := by
  have := isW_neg h; simp [lg, this]

def Byt (bs : List Int) : Prop := ∀ n ∈ bs, 0 ≤ n ∧ n ≤ 255
theorem byt_of (bs : List Int) (h : (bs.all fun n => decide (0 ≤ n) && decide (n ≤ 255)) = true) : Byt bs := by
  intro n hn
  have := List.all_eq_true.1 h n hn
  simpa using this
theorem Byt.getD {bs : List Int} (h : Byt bs) (i : Nat) : 0 ≤ bs.getD i 0 ∧ bs.getD i 0 ≤ 255 := by
  rcases Nat.lt_or_ge i bs.length with hi | hi
  · rw [List.getD_eq_getElem?_getD, List.getElem?_eq_getElem hi]; exact h _ (List.getElem_mem hi)
  · rw [List.getD_eq_getElem?_getD, List.getElem?_eq_none hi]; decide
theorem Byt.seg {bs : List Int} (h : Byt bs) (a n : Int) : Byt (seg bs a n) := fun x hx => h x (List.mem_of_mem_drop (List.mem_of_mem_take hx))
theorem Byt.take {bs : List Int} (h : Byt bs) (n : Nat) : Byt (bs.take n) := fun x hx => h x (List.mem_of_mem_take hx)
theorem Byt.drop {bs : List Int} (h : Byt bs) (n : Nat) : Byt (bs.drop n) := fun x hx => h x (List.mem_of_mem_drop hx)
theorem Byt.append {a b : List Int} (h : Byt a) (k : Byt b) : Byt (a ++ b) := fun x hx => (List.mem_append.1 hx).elim (h x) (k x)

theorem le_nonneg {bs : List Int} (h : Byt bs) : 0 ≤ le bs := by
  induction bs with
  | nil => simp [le]
  | cons b r ih =>
    have := ih (fun x hx => h x (List.mem_cons_of_mem _ hx)); have := h b (List.mem_cons_self ..)
    simp only [le]; omega
theorem le_lt {bs : List Int} (h : Byt bs) : le bs < 256 ^ bs.length := by
  induction bs with
  | nil => simp [le]
  | cons b r ih =>
    have := ih (fun x hx => h x (List.mem_cons_of_mem _ hx)); have := h b (List.mem_cons_self ..)
    simp only [le, List.length_cons, Int.pow_succ]; omega
theorem le_append (a b : List Int) : le (a ++ b) = le a + 256 ^ a.length * le b := by
  induction a with
  | nil => simp [le]
  | cons x r ih => simp only [List.cons_append, le, ih, List.length_cons, Int.pow_succ]; rw [Int.mul_comm (256 ^ r.length) 256, Int.mul_assoc]; omega
theorem le_snoc (a : List Int) (b : Int) : le (a ++ [b]) = le a + b * 256 ^ a.length := by
  rw [le_append]; simp [le, Int.mul_comm]

theorem or_low (n b : Nat) (k : Nat) (h : n < 2 ^ k) : n ||| (b * 2 ^ k) = n + b * 2 ^ k := by
  rw [Nat.or_comm, Nat.mul_comm, ← Nat.two_pow_add_eq_or_of_lt h, Nat.add_comm]

theorem u64_wrap_in (n : Int) (h0 : 0 ≤ n) (h1 : n < 18446744073709551616) : IntKind.u64.wrap n = n := by
  rw [IntKind.wrap_u64]; omega

theorem cast_mul_pow (b x j : Nat) : ((b * x ^ j : Nat) : Int) = (b : Int) * (x : Int) ^ j := by
  rw [Int.natCast_mul, Int.natCast_pow]

/-- one byte more, at its place: 'or' is the sum where no place is taken twice -/
theorem or_step (y b : Int) (j : Nat) (hj : j < 8) (h0 : 0 ≤ y) (h1 : y < 256 ^ j) (hb : 0 ≤ b ∧ b ≤ 255) :
    bits .or .u64 y (IntKind.u64.wrap (IntKind.u64.wrap b * 2 ^ (8 * j))) = y + b * 256 ^ j := by
  obtain ⟨y', rfl⟩ := Int.eq_ofNat_of_zero_le h0
  obtain ⟨b', rfl⟩ := Int.eq_ofNat_of_zero_le hb.1
  have hp : (2 : Nat) ^ (8 * j) = 256 ^ j := by rw [Nat.pow_mul]
  have h1' : y' < 256 ^ j := by
    have e := Int.natCast_pow 256 j
    have : ((256 : Nat) : Int) = 256 := rfl
    rw [this] at e; rw [← e] at h1; exact Int.ofNat_lt.1 h1
  have hq : (256 : Nat) ^ j ≤ 256 ^ 7 := Nat.pow_le_pow_right (by decide) (by omega)
  have hm : b' * 256 ^ j ≤ 255 * 256 ^ 7 := Nat.mul_le_mul (by omega) hq
  have hm' : b' * 256 ^ j < 18446744073709551616 := Nat.lt_of_le_of_lt hm (by decide)
  have hy' : y' < 18446744073709551616 := Nat.lt_of_lt_of_le h1' (Nat.le_trans hq (by decide))
  have e0 : IntKind.u64.wrap (b' : Int) = b' := u64_wrap_in _ (by omega) (by omega)
  have e1 : IntKind.u64.wrap (IntKind.u64.wrap (b' : Int) * 2 ^ (8 * j)) = ((b' * 256 ^ j : Nat) : Int) := by
    have e2 : ((b' : Int) * 2 ^ (8 * j)) = ((b' * 256 ^ j : Nat) : Int) := by
      rw [← hp, cast_mul_pow]; rfl
    rw [e0, e2, u64_wrap_in _ (Int.natCast_nonneg _) (by exact Int.ofNat_lt.2 hm')]
  rw [e1, u64_or_nat _ _ hy' hm', ← hp, or_low _ _ _ (by rw [hp]; exact h1'), hp, Int.natCast_add, cast_mul_pow]
  rfl

theorem take_snocI (l : List Int) (j : Nat) (h : j < l.length) : l.take (j + 1) = l.take j ++ [l.getD j 0] := by
  rw [List.take_succ_eq_append_getElem h, List.getD_eq_getElem?_getD, List.getElem?_eq_getElem h]; rfl

theorem le_step {bs : List Int} (hb : Byt bs) (k j : Nat) (hj : j < 8) (h : k + j < bs.length) :
    bits .or .u64 (le ((bs.drop k).take j)) (IntKind.u64.wrap (IntKind.u64.wrap (bs[k + j]?.getD 0) * 2 ^ (8 * j))) = le ((bs.drop k).take (j + 1)) := by
  have hl : ((bs.drop k).take j).length = j := by simp; omega
  have hB := (hb.drop k).take j
  have h1 := le_lt hB
  rw [hl] at h1
  have hg := hb.getD (k + j)
  rw [List.getD_eq_getElem?_getD] at hg
  rw [or_step _ _ _ hj (le_nonneg hB) h1 hg, take_snocI _ _ (by simp; omega), le_snoc, hl]
  congr 2
  rw [List.getD_eq_getElem?_getD, List.getElem?_drop]

/-- one byte more in front -/
theorem le_front {bs : List Int} (k n j : Nat) (hj : j < n) (h : k + n ≤ bs.length) :
    le ((bs.drop (k + j + 1)).take (n - (j + 1))) * 256 + bs.getD (k + j) 0 = le ((bs.drop (k + j)).take (n - j)) := by
  have e : bs.drop (k + j) = bs.getD (k + j) 0 :: bs.drop (k + j + 1) := by
    rw [List.drop_eq_getElem_cons (by omega), List.getD_eq_getElem?_getD, List.getElem?_eq_getElem (by omega)]; rfl
  rw [e]
  have : n - j = (n - (j + 1)) + 1 := by omega
  rw [this, List.take_succ_cons]
  simp only [le]
  omega

theorem le_lt_of {bs : List Int} (h : Byt bs) (n : Nat) (hn : bs.length ≤ n) : le bs < 256 ^ n := by
  have h1 := le_lt h
  have h2 : (256 : Nat) ^ bs.length ≤ 256 ^ n := Nat.pow_le_pow_right (by decide) hn
  have h3 : ((256 ^ bs.length : Nat) : Int) ≤ ((256 ^ n : Nat) : Int) := Int.ofNat_le.2 h2
  rw [Int.natCast_pow, Int.natCast_pow] at h3
  exact Int.lt_of_lt_of_le h1 h3

theorem load_step {bs : List Int} (hb : Byt bs) (k n i : Nat) (hn8 : n ≤ 8) (hi : i + 1 ≤ n) (h : k + n ≤ bs.length) :
    IntKind.u64.wrap (IntKind.u64.wrap (le ((bs.drop (k + (i + 1))).take (n - (i + 1))) * 256) + IntKind.u64.wrap (bs[k + i]?.getD 0)) = le ((bs.drop (k + i)).take (n - i)) := by
  have hB := (hb.drop (k + (i + 1))).take (n - (i + 1))
  have h0 := le_nonneg hB
  have h1 := le_lt_of hB 7 (by simp; omega)
  have e7 : (256 : Int) ^ 7 = 72057594037927936 := by decide
  rw [e7] at h1
  have hg := hb.getD (k + i)
  have hf := le_front (bs := bs) k n i (by omega) h
  rw [List.getD_eq_getElem?_getD] at hg hf
  rw [← hf, show k + i + 1 = k + (i + 1) from rfl]
  rw [u64_wrap_in (bs[k + i]?.getD 0) (by omega) (by omega), u64_wrap_in (le _ * 256) (by omega) (by omega), u64_wrap_in _ (by omega) (by omega)]

theorem seg_nat (bs : List Int) (k n : Nat) : seg bs k n = (bs.drop k).take n := by simp [seg]
theorem getV_in {bs : List Int} {k n : Nat} (hW : isW n = true) (hin : k + n ≤ bs.length) : getV bs k n = le ((bs.drop k).take n) := by
  have : inB bs.length k n = true := by simp [inB]; omega
  simp [getV, hW, this, seg_nat]
theorem getE_in {len k n : Nat} (hW : isW n = true) (hin : k + n ≤ len) : getE len k n = 0 := by
  have : inB len k n = true := by simp [inB]; omega
  simp [getE, hW, this]
theorem getV_no {bs : List Int} {a n : Int} (h : isW n = false) : getV bs a n = 0 := by simp [getV, h]
theorem getE_no {len : Nat} {a n : Int} (h : isW n = false) : getE len a n = 1 := by simp [getE, h]
theorem getV_out {bs : List Int} {a n : Int} (h : inB bs.length a n = false) : getV bs a n = 0 := by simp [getV, h]
theorem getE_out {len : Nat} {a n : Int} (hW : isW n = true) (h : inB len a n = false) : getE len a n = 9 := by simp [getE, hW, h]

/-- what is told of bytes that a slice leads to -/
structure Row (w : World) (a : Option Addr) (len : Nat) (bs : List Int) : Prop where
  len_eq : bs.length = len
  le : len ≤ maxLen
  byt : Byt bs
  cells : 0 < len → ∃ b off, a = some ⟨b, off, none⟩ ∧ ∀ i, i < len → w.cell? ⟨b, off + i, none⟩ = some (.int .u8 (bs.getD i 0))

theorem cell_lt {w : World} {b o : Nat} {v : Value} (h : w.cell? ⟨b, o, none⟩ = some v) : b < w.heap.size := by
  rcases Nat.lt_or_ge b w.heap.size with h1 | h1
  · exact h1
  · simp [World.cell?, Array.getElem?_eq_none h1] at h

theorem Row.below {w w' : World} {a : Option Addr} {len : Nat} {bs : List Int} (h : Row w a len bs) (hb : Below w.heap.size w w') : Row w' a len bs := by
  refine ⟨h.len_eq, h.le, h.byt, fun h0 => ?_⟩
  obtain ⟨b, off, e, hc⟩ := h.cells h0
  exact ⟨b, off, e, fun i hi => by rw [hb.cell (p := ⟨b, off + i, none⟩) (cell_lt (hc i hi))]; exact hc i hi⟩
end Go.Proofs.Ytpahnkodhonlgaa
