/- Contracts of Fits and Store. -/
import Derived.Test.YthnehebkkfegdabA2
import Derived.WalkSpells
namespace Go.Proofs.Ythnehebkkfegdab
open Go.RowKit

def fits (n : Int) (m : Nat) : Bool := n / 256 ^ m == 0

theorem div_step (n : Int) (j : Nat) : n / 256 ^ j / 256 = n / 256 ^ (j + 1) := by
  rw [Int.ediv_ediv_of_nonneg (Int.pow_nonneg (by decide)), Int.pow_succ]
theorem div_bd (n : Int) (j : Nat) (h0 : 0 ≤ n) (h1 : n < 18446744073709551616) : 0 ≤ n / 256 ^ j ∧ n / 256 ^ j < 18446744073709551616 := by
  have hp : (0 : Int) ≤ 256 ^ j := Int.pow_nonneg (by decide)
  exact ⟨Int.ediv_nonneg h0 hp, Int.lt_of_le_of_lt (Int.ediv_le_self _ h0) h1⟩

theorem fits_lg {n : Int} {m : Nat} (hW : isW m = true) (h0 : 0 ≤ n) : fits n m = !decide (lg m < n) := by
  have hm := isW_pos hW
  unfold fits
  rw [Bool.eq_iff_iff]
  obtain rfl | rfl | rfl | rfl : m = 1 ∨ m = 2 ∨ m = 4 ∨ m = 8 := by omega
  · have e : lg ((1 : Nat) : Int) = 255 := by decide
    rw [e]; simp; omega
  · have e : lg ((2 : Nat) : Int) = 65535 := by decide
    rw [e]; simp; omega
  · have e : lg ((4 : Nat) : Int) = 4294967295 := by decide
    rw [e]; simp; omega
  · have e : lg ((8 : Nat) : Int) = 18446744073709551615 := by decide
    rw [e]; simp; omega

theorem ckE_fits {n : Int} {m : Nat} (hW : isW m = true) (h0 : 0 ≤ n) : ckE n m = if fits n m then 0 else 9 := by
  rw [fits_lg hW h0]
  by_cases h : lg m < n <;> simp [ckE, hW, h]

theorem owns_row {w : World} {base : Nat} {v : Value} {n : Nat} {bs : List Int} (h : w.ownsRow base 5 1 v n (bv bs)) (hb : Byt bs) (hl : n ≤ maxLen) : ∃ a cap, v = .slice a n cap ∧ Row w a n bs := by
  obtain ⟨h1, h2⟩ := h
  rw [bv_length, Nat.mul_one] at h1
  rcases h2 with ⟨rfl, rfl⟩ | ⟨g, cap, cur, rfl, _, hg, hc, hm, hs, ht⟩
  · exact ⟨none, 0, rfl, h1, hl, hb, fun h => absurd h (by omega)⟩
  · refine ⟨_, cap, rfl, h1, hl, hb, fun _ => ⟨g, 0, rfl, fun i hi => ?_⟩⟩
    have e : w.cell? ⟨g, 0 + i, none⟩ = cur[i]? := by simp [World.cell?, hg]
    rw [e, ← bv_getElem? _ _ (by omega), ← ht, Nat.mul_one, List.getElem?_take, if_pos hi, Array.getElem?_toList]

theorem grown_own {a b c : World} {base : Nat} {v : Value} {n : Nat} {xs : List Value} (h : a.grownBy b none) (ho : b.ownsRow base 5 1 v n xs) (k : b.grownBy c v.ownBlock) (hb : a.heap.size ≤ base) : a.grownBy c none :=
  ⟨k.os.trans h.os, k.tape.trans h.tape, k.output.trans h.output, Nat.le_trans h.size k.size, fun i hi _ => (k.block i (Nat.lt_of_lt_of_le hi h.size) (fun e => by have := (ho.lt i e.symm).1; omega)).trans (h.block i hi (by simp))⟩

end Go.Proofs.Ythnehebkkfegdab
