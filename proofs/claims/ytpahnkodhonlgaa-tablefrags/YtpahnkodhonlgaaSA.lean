/- The sums, as functions of numbers. -/
import Derived.Test.YtpahnkodhonlgaaRQ
import Derived.Laws.BitsAllLaws
namespace Go.Proofs.Ytpahnkodhonlgaa
open Go.RowKit
set_option maxRecDepth 100000
set_option linter.unusedSimpArgs false
set_option linter.unusedVariables false

def half (n : Nat) : Nat := if n % 2 = 1 then n / 2 ^^^ 3988292384 else n / 2
def halves : Nat → Nat → Nat
  | 0, n => n
  | k + 1, n => half (halves k n)
/-- an entry of the table -/
def ent (n : Nat) : Nat := halves 8 n
theorem half_lt {n : Nat} (h : n < 4294967296) : half n < 4294967296 := by
  unfold half
  split
  · exact Nat.xor_lt_two_pow (n := 32) (by omega) (by decide)
  · omega
theorem halves_lt {n : Nat} (h : n < 4294967296) (k : Nat) : halves k n < 4294967296 := by
  induction k with
  | zero => exact h
  | succ k ih => exact half_lt ih
theorem ent_lt {n : Nat} (h : n < 4294967296) : ent n < 4294967296 := halves_lt h 8

/-- a byte more, by a table -/
def stp (T : Nat → Nat) (c : Nat) (b : Int) : Nat := c / 256 ^^^ T (c % 256 ^^^ b.toNat)
def upd (T : Nat → Nat) (c : Nat) (bs : List Int) : Nat := bs.foldl (stp T) c
def crc (T : Nat → Nat) (c : Nat) (bs : List Int) : Nat := 4294967295 - upd T (4294967295 - c) bs
def Tab (T : Nat → Nat) : Prop := ∀ i, i < 256 → T i < 4294967296
theorem ent_tab : Tab ent := fun i h => ent_lt (by omega)

theorem ix_lt {c : Nat} {b : Int} (hb : 0 ≤ b ∧ b ≤ 255) : c % 256 ^^^ b.toNat < 256 := Nat.xor_lt_two_pow (n := 8) (by omega) (by omega)
theorem stp_lt {T : Nat → Nat} (hT : Tab T) {c : Nat} {b : Int} (hc : c < 4294967296) (hb : 0 ≤ b ∧ b ≤ 255) : stp T c b < 4294967296 :=
  Nat.xor_lt_two_pow (n := 32) (by omega) (hT _ (ix_lt hb))
theorem fold_lt {M : Nat} {f : Nat → Int → Nat} {bs : List Int} (hf : ∀ c b, c < M → b ∈ bs → f c b < M) {c : Nat} (hc : c < M) : bs.foldl f c < M := by
  induction bs generalizing c with
  | nil => exact hc
  | cons b r ih =>
    rw [List.foldl_cons]
    exact ih (fun c x hc hx => hf c x hc (List.mem_cons_of_mem _ hx)) (hf c b hc (List.mem_cons_self ..))
theorem upd_lt {T : Nat → Nat} (hT : Tab T) {bs : List Int} (hb : Byt bs) {c : Nat} (hc : c < 4294967296) : upd T c bs < 4294967296 :=
  fold_lt (fun _ b hc hx => stp_lt hT hc (hb b hx)) hc
theorem fold_snoc (f : Nat → Int → Nat) (c : Nat) (bs : List Int) (j : Nat) (h : j < bs.length) : (bs.take (j + 1)).foldl f c = f ((bs.take j).foldl f c) (bs.getD j 0) := by
  rw [take_snocI _ _ h, List.foldl_append, List.foldl_cons, List.foldl_nil]
theorem upd_snoc (T : Nat → Nat) (c : Nat) (bs : List Int) (j : Nat) (h : j < bs.length) : upd T c (bs.take (j + 1)) = stp T (upd T c (bs.take j)) (bs.getD j 0) := by
  unfold upd; rw [fold_snoc _ _ _ _ h]
theorem upd_append (T : Nat → Nat) (c : Nat) (a b : List Int) : upd T c (a ++ b) = upd T (upd T c a) b := by unfold upd; rw [List.foldl_append]
theorem crc_lt (T : Nat → Nat) (c : Nat) (bs : List Int) : crc T c bs < 4294967296 := by unfold crc; omega
theorem crc_append {T : Nat → Nat} (hT : Tab T) (c : Nat) {a : List Int} (b : List Int) (ha : Byt a) : crc T c (a ++ b) = crc T (crc T c a) b := by
  have := upd_lt hT ha (c := 4294967295 - c) (by omega)
  unfold crc
  rw [upd_append]
  congr 2
  omega

/-- the digest of 64 bits -/
def dig1 (d : Nat) (b : Int) : Nat := (d ^^^ b.toNat) * 1099511628211 % 18446744073709551616
def dig (d : Nat) (bs : List Int) : Nat := bs.foldl dig1 d
theorem dig1_lt (d : Nat) (b : Int) : dig1 d b < 18446744073709551616 := Nat.mod_lt _ (by decide)
theorem dig_lt {d : Nat} (h : d < 18446744073709551616) (bs : List Int) : dig d bs < 18446744073709551616 :=
  fold_lt (fun d b _ _ => dig1_lt d b) h
theorem dig_snoc (d : Nat) (bs : List Int) (j : Nat) (h : j < bs.length) : dig d (bs.take (j + 1)) = dig1 (dig d (bs.take j)) (bs.getD j 0) := by
  unfold dig; rw [fold_snoc _ _ _ _ h]
theorem dig_append (d : Nat) (a b : List Int) : dig d (a ++ b) = dig (dig d a) b := by unfold dig; rw [List.foldl_append]

/-! the numbers of the model -/
theorem and1 {n : Nat} (h : n < 4294967296) : bits .and .u32 (n : Int) 1 = ((n % 2 : Nat) : Int) := by
  have := u32_and_nat n 1 h (by decide)
  rw [Nat.and_one_is_mod] at this
  exact this
theorem xor32 {a b : Nat} (ha : a < 4294967296) (hb : b < 4294967296) : bits .xor .u32 (a : Int) (b : Int) = ((a ^^^ b : Nat) : Int) := u32_xor_nat a b ha hb
theorem xor64 {a b : Nat} (ha : a < 18446744073709551616) (hb : b < 18446744073709551616) : bits .xor .u64 (a : Int) (b : Int) = ((a ^^^ b : Nat) : Int) := u64_xor_nat a b ha hb
theorem xor8 {a b : Nat} (ha : a < 256) (hb : b < 256) : bits .xor .u8 (a : Int) (b : Int) = ((a ^^^ b : Nat) : Int) := u8_xor_nat a b ha hb
end Go.Proofs.Ytpahnkodhonlgaa
