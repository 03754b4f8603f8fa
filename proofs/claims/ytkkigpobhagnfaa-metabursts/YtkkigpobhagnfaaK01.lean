/- Plain facts: bytes as lists of numbers, numbers out of bytes, the lowest first. Plain facts on memory: rows of bytes that a call made, and what became of the rest. The sums, as functions of numbers. The document's sum of bytes. Rows of bytes that a call made by append. The document's lz: a length and its four bits. The document's lz: the bytes that tell a length. -/
import Derived.WalkKit
import Derived.Laws.CopyOwn
import Derived.Laws.BytesArg
import Derived.OpenShut
import Derived.Laws.BitsAllLaws
import Derived.Test.YtkkigpobhagnfaaProg
import Derived.WalkLawsBesides
import Derived.Deep.QuietTactic
import Derived.BigQuiet
import Derived.OwnWalk
import Derived.Laws.AppendOwnNone
import Derived.WalkSpells
import Derived.Below
import Derived.BigRegion
namespace Go.Proofs.Ytkkigpobhagnfaa
open Go.RowKit
set_option maxRecDepth 100000
/-- the greatest number of a width, or 0 -/
def lg (n : Int) : Int := if n = 1 then 255 else if n = 2 then 65535 else if n = 4 then 4294967295 else if n = 8 then 18446744073709551615 else 0
def isW (n : Int) : Bool := n == 1 || n == 2 || n == 4 || n == 8
def inB (len : Nat) (at_ n : Int) : Bool := decide (0 ≤ at_ ∧ 0 ≤ n ∧ at_ + n ≤ len)
/-- the number that bytes spell, the lowest first -/
def le : List Int → Int
 | [] => 0
 | b :: r => b + 256 * le r
def seg (bs : List Int) (at_ n : Int) : List Int := (bs.drop at_.toNat).take n.toNat
def getV (bs : List Int) (at_ n : Int) : Int := if isW n && inB bs.length at_ n then le (seg bs at_ n) else 0
def getE (len : Nat) (at_ n : Int) : Int := if isW n then (if inB len at_ n then 0 else 9) else 1

theorem isW_pos {n : Int} (h : isW n = true) : n = 1 ∨ n = 2 ∨ n = 4 ∨ n = 8 := by
 simp [isW] at h; omega
theorem isW_neg {n : Int} (h : isW n = false) : n ≠ 1 ∧ n ≠ 2 ∧ n ≠ 4 ∧ n ≠ 8 := by
 simp [isW] at h; omega
theorem lg_ne {n : Int} (h : isW n = true) : (lg n == 0) = false := by
 rcases isW_pos h with rfl | rfl | rfl | rfl <;> decide
theorem lg_eq {n : Int} (h : isW n = false) : lg n = 0 := by
 have := isW_neg h; simp [lg, this]

def Byt (bs : List Int) : Prop := ∀ n ∈ bs, 0 ≤ n ∧ n ≤ 255
theorem byt_of (bs : List Int) (h : (bs.all fun n => decide (0 ≤ n) && decide (n ≤ 255)) = true) : Byt bs := by
 intro n hn
 have := List.all_eq_true.1 h n hn
 simpa using this
theorem Byt.getD {bs : List Int} (h : Byt bs) (i : Nat) : 0 ≤ bs.getD i 0 ∧ bs.getD i 0 ≤ 255 := by
 rcases Nat.lt_or_ge i bs.length with hi | hi
 ·rw [List.getD_eq_getElem?_getD, List.getElem?_eq_getElem hi]; exact h _ (List.getElem_mem hi)
 ·rw [List.getD_eq_getElem?_getD, List.getElem?_eq_none hi]; decide
theorem Byt.seg {bs : List Int} (h : Byt bs) (a n : Int) : Byt (seg bs a n) := fun x hx => h x (List.mem_of_mem_drop (List.mem_of_mem_take hx))
theorem Byt.take {bs : List Int} (h : Byt bs) (n : Nat) : Byt (bs.take n) := fun x hx => h x (List.mem_of_mem_take hx)
theorem Byt.drop {bs : List Int} (h : Byt bs) (n : Nat) : Byt (bs.drop n) := fun x hx => h x (List.mem_of_mem_drop hx)
theorem Byt.append {a b : List Int} (h : Byt a) (k : Byt b) : Byt (a ++ b) := fun x hx => (List.mem_append.1 hx).elim (h x) (k x)

theorem le_nonneg {bs : List Int} (h : Byt bs) : 0 ≤ le bs := by
 induction bs with
 | nil => simp [le]
 | cons b r ih =>
  have := ih (fun x hx => h x (List.mem_cons_of_mem _ hx)); have := h b (List.mem_cons_self ..)
  simp only [le]; omega
theorem le_lt {bs : List Int} (h : Byt bs) : le bs < 256 ^ bs.length := by
 induction bs with
 | nil => simp [le]
 | cons b r ih =>
  have := ih (fun x hx => h x (List.mem_cons_of_mem _ hx)); have := h b (List.mem_cons_self ..)
  simp only [le, List.length_cons, Int.pow_succ]; omega
theorem le_append (a b : List Int) : le (a ++ b) = le a + 256 ^ a.length * le b := by
 induction a with
 | nil => simp [le]
 | cons x r ih => simp only [List.cons_append, le, ih, List.length_cons, Int.pow_succ]; rw [Int.mul_comm (256 ^ r.length) 256, Int.mul_assoc]; omega
theorem le_snoc (a : List Int) (b : Int) : le (a ++ [b]) = le a + b * 256 ^ a.length := by
 rw [le_append]; simp [le, Int.mul_comm]

theorem or_low (n b : Nat) (k : Nat) (h : n < 2 ^ k) : n ||| (b * 2 ^ k) = n + b * 2 ^ k := by
 rw [Nat.or_comm, Nat.mul_comm, ← Nat.two_pow_add_eq_or_of_lt h, Nat.add_comm]

theorem u64_wrap_in (n : Int) (h0 : 0 ≤ n) (h1 : n < 18446744073709551616) : IntKind.u64.wrap n = n := by
 rw [IntKind.wrap_u64]; omega

theorem cast_mul_pow (b x j : Nat) : ((b * x ^ j : Nat) : Int) = (b : Int) * (x : Int) ^ j := by
 rw [Int.natCast_mul, Int.natCast_pow]

/-- one byte more, at its place: 'or' is the sum where no place is taken twice -/
theorem or_step (y b : Int) (j : Nat) (hj : j < 8) (h0 : 0 ≤ y) (h1 : y < 256 ^ j) (hb : 0 ≤ b ∧ b ≤ 255) :
  bits .or .u64 y (IntKind.u64.wrap (IntKind.u64.wrap b * 2 ^ (8 * j))) = y + b * 256 ^ j := by
 obtain ⟨y', rfl⟩ := Int.eq_ofNat_of_zero_le h0
 obtain ⟨b', rfl⟩ := Int.eq_ofNat_of_zero_le hb.1
 have hp : (2 : Nat) ^ (8 * j) = 256 ^ j := by rw [Nat.pow_mul]
 have h1' : y' < 256 ^ j := by
  have e := Int.natCast_pow 256 j
  have : ((256 : Nat) : Int) = 256 := rfl
  rw [this] at e; rw [← e] at h1; exact Int.ofNat_lt.1 h1
 have hq : (256 : Nat) ^ j ≤ 256 ^ 7 := Nat.pow_le_pow_right (by decide) (by omega)
 have hm : b' * 256 ^ j ≤ 255 * 256 ^ 7 := Nat.mul_le_mul (by omega) hq
 have hm' : b' * 256 ^ j < 18446744073709551616 := Nat.lt_of_le_of_lt hm (by decide)
 have hy' : y' < 18446744073709551616 := Nat.lt_of_lt_of_le h1' (Nat.le_trans hq (by decide))
 have e0 : IntKind.u64.wrap (b' : Int) = b' := u64_wrap_in _ (by omega) (by omega)
 have e1 : IntKind.u64.wrap (IntKind.u64.wrap (b' : Int) * 2 ^ (8 * j)) = ((b' * 256 ^ j : Nat) : Int) := by
  have e2 : ((b' : Int) * 2 ^ (8 * j)) = ((b' * 256 ^ j : Nat) : Int) := by
   rw [← hp, cast_mul_pow]; rfl
  rw [e0, e2, u64_wrap_in _ (Int.natCast_nonneg _) (by exact Int.ofNat_lt.2 hm')]
 rw [e1, u64_or_nat _ _ hy' hm', ← hp, or_low _ _ _ (by rw [hp]; exact h1'), hp, Int.natCast_add, cast_mul_pow]
 rfl

theorem take_snocI (l : List Int) (j : Nat) (h : j < l.length) : l.take (j + 1) = l.take j ++ [l.getD j 0] := by
 rw [List.take_succ_eq_append_getElem h, List.getD_eq_getElem?_getD, List.getElem?_eq_getElem h]; rfl

theorem le_step {bs : List Int} (hb : Byt bs) (k j : Nat) (hj : j < 8) (h : k + j < bs.length) :
  bits .or .u64 (le ((bs.drop k).take j)) (IntKind.u64.wrap (IntKind.u64.wrap (bs[k + j]?.getD 0) * 2 ^ (8 * j))) = le ((bs.drop k).take (j + 1)) := by
 have hl : ((bs.drop k).take j).length = j := by simp; omega
 have hB := (hb.drop k).take j
 have h1 := le_lt hB
 rw [hl] at h1
 have hg := hb.getD (k + j)
 rw [List.getD_eq_getElem?_getD] at hg
 rw [or_step _ _ _ hj (le_nonneg hB) h1 hg, take_snocI _ _ (by simp; omega), le_snoc, hl]
 congr 2
 rw [List.getD_eq_getElem?_getD, List.getElem?_drop]

/-- one byte more in front -/
theorem le_front {bs : List Int} (k n j : Nat) (hj : j < n) (h : k + n ≤ bs.length) :
  le ((bs.drop (k + j + 1)).take (n - (j + 1))) * 256 + bs.getD (k + j) 0 = le ((bs.drop (k + j)).take (n - j)) := by
 have e : bs.drop (k + j) = bs.getD (k + j) 0 :: bs.drop (k + j + 1) := by
  rw [List.drop_eq_getElem_cons (by omega), List.getD_eq_getElem?_getD, List.getElem?_eq_getElem (by omega)]; rfl
 rw [e]
 have : n - j = (n - (j + 1)) + 1 := by omega
 rw [this, List.take_succ_cons]
 simp only [le]
 omega

theorem le_lt_of {bs : List Int} (h : Byt bs) (n : Nat) (hn : bs.length ≤ n) : le bs < 256 ^ n := by
 have h1 := le_lt h
 have h2 : (256 : Nat) ^ bs.length ≤ 256 ^ n := Nat.pow_le_pow_right (by decide) hn
 have h3 : ((256 ^ bs.length : Nat) : Int) ≤ ((256 ^ n : Nat) : Int) := Int.ofNat_le.2 h2
 rw [Int.natCast_pow, Int.natCast_pow] at h3
 exact Int.lt_of_lt_of_le h1 h3

theorem load_step {bs : List Int} (hb : Byt bs) (k n i : Nat) (hn8 : n ≤ 8) (hi : i + 1 ≤ n) (h : k + n ≤ bs.length) :
  IntKind.u64.wrap (IntKind.u64.wrap (le ((bs.drop (k + (i + 1))).take (n - (i + 1))) * 256) + IntKind.u64.wrap (bs[k + i]?.getD 0)) = le ((bs.drop (k + i)).take (n - i)) := by
 have hB := (hb.drop (k + (i + 1))).take (n - (i + 1))
 have h0 := le_nonneg hB
 have h1 := le_lt_of hB 7 (by simp; omega)
 have e7 : (256 : Int) ^ 7 = 72057594037927936 := by decide
 rw [e7] at h1
 have hg := hb.getD (k + i)
 have hf := le_front (bs := bs) k n i (by omega) h
 rw [List.getD_eq_getElem?_getD] at hg hf
 rw [← hf, show k + i + 1 = k + (i + 1) from rfl]
 rw [u64_wrap_in (bs[k + i]?.getD 0) (by omega) (by omega), u64_wrap_in (le _ * 256) (by omega) (by omega), u64_wrap_in _ (by omega) (by omega)]

theorem seg_nat (bs : List Int) (k n : Nat) : seg bs k n = (bs.drop k).take n := by simp [seg]
theorem getV_in {bs : List Int} {k n : Nat} (hW : isW n = true) (hin : k + n ≤ bs.length) : getV bs k n = le ((bs.drop k).take n) := by
 have : inB bs.length k n = true := by simp [inB]; omega
 simp [getV, hW, this, seg_nat]
theorem getE_in {len k n : Nat} (hW : isW n = true) (hin : k + n ≤ len) : getE len k n = 0 := by
 have : inB len k n = true := by simp [inB]; omega
 simp [getE, hW, this]
theorem getV_no {bs : List Int} {a n : Int} (h : isW n = false) : getV bs a n = 0 := by simp [getV, h]
theorem getE_no {len : Nat} {a n : Int} (h : isW n = false) : getE len a n = 1 := by simp [getE, h]
theorem getV_out {bs : List Int} {a n : Int} (h : inB bs.length a n = false) : getV bs a n = 0 := by simp [getV, h]
theorem getE_out {len : Nat} {a n : Int} (hW : isW n = true) (h : inB len a n = false) : getE len a n = 9 := by simp [getE, hW, h]

/-- what is told of bytes that a slice leads to -/
structure Row (w : World) (a : Option Addr) (len : Nat) (bs : List Int) : Prop where
 len_eq : bs.length = len
 le : len ≤ maxLen
 byt : Byt bs
 cells : 0 < len → ∃ b off, a = some ⟨b, off, none⟩ ∧ ∀ i, i < len → w.cell? ⟨b, off + i, none⟩ = some (.int .u8 (bs.getD i 0))

theorem cell_lt {w : World} {b o : Nat} {v : Value} (h : w.cell? ⟨b, o, none⟩ = some v) : b < w.heap.size := by
 rcases Nat.lt_or_ge b w.heap.size with h1 | h1
 ·exact h1
 ·simp [World.cell?, Array.getElem?_eq_none h1] at h

theorem Row.below {w w' : World} {a : Option Addr} {len : Nat} {bs : List Int} (h : Row w a len bs) (hb : Below w.heap.size w w') : Row w' a len bs := by
 refine ⟨h.len_eq, h.le, h.byt, fun h0 => ?_⟩
 obtain ⟨b, off, e, hc⟩ := h.cells h0
 exact ⟨b, off, e, fun i hi => by rw [hb.cell (p := ⟨b, off + i, none⟩) (cell_lt (hc i hi))]; exact hc i hi⟩
/-- a number's bytes, the lowest first -/
def sto (n : Int) : Nat → List Int
 | 0 => []
 | k + 1 => n % 256 :: sto (n / 256) k
theorem sto_length (n : Int) (k : Nat) : (sto n k).length = k := by
 induction k generalizing n with
 | zero => rfl
 | succ k ih => simp [sto, ih]
theorem sto_byt (n : Int) (k : Nat) : Byt (sto n k) := by
 induction k generalizing n with
 | zero => intro x hx; simp [sto] at hx
 | succ k ih =>
  intro x hx
  simp only [sto, List.mem_cons] at hx
  rcases hx with rfl | hx
  ·omega
  ·exact ih _ x hx
theorem sto_snoc (n : Int) (k : Nat) : sto n (k + 1) = sto n k ++ [n / 256 ^ k % 256] := by
 induction k generalizing n with
 | zero => simp [sto]
 | succ k ih =>
  rw [sto, ih, sto, List.cons_append, Int.ediv_ediv_of_nonneg (by decide), Int.pow_succ, Int.mul_comm]
theorem emod_mul' (n a b : Int) (ha : 0 ≤ a) : n % (a * b) = n % a + a * (n / a % b) := by
 rw [Int.emod_def n (a * b), Int.emod_def n a, Int.emod_def (n / a) b, Int.ediv_ediv_of_nonneg ha, Int.mul_sub, Int.mul_assoc]; omega
theorem le_sto (n : Int) (k : Nat) : le (sto n k) = n % 256 ^ k := by
 induction k generalizing n with
 | zero => simp [sto, le, Int.emod_one]
 | succ k ih =>
  simp only [sto, le, ih, Int.pow_succ]
  rw [Int.mul_comm (256 ^ k) 256, emod_mul' n 256 (256 ^ k) (by decide)]

/-- bytes as cells -/
def bv (bs : List Int) : List Value := bs.map (Value.int .u8)
theorem bv_length (bs : List Int) : (bv bs).length = bs.length := by simp [bv]
theorem bv_append (a b : List Int) : bv (a ++ b) = bv a ++ bv b := by simp [bv]
theorem bv_getElem? (bs : List Int) (i : Nat) (h : i < bs.length) : (bv bs)[i]? = some (.int .u8 (bs.getD i 0)) := by
 simp [bv, List.getElem?_eq_getElem h]
theorem bv_one (bs : List Int) : ∀ v ∈ bv bs, v.oneCell' = true := ints_oneCell _ _

/-- block g is a row of these cells, which may be written -/
def Blk (w : World) (g : Nat) (cur : List Value) : Prop := w.heap[g]? = some (.cells cur.toArray 5 (0, 0))

theorem Blk.lt {w : World} {g : Nat} {cur : List Value} (h : Blk w g cur) : g < w.heap.size := (Array.getElem?_eq_some_iff.1 h).1
theorem Blk.cell {w : World} {g : Nat} {cur : List Value} (h : Blk w g cur) (i : Nat) : w.cell? ⟨g, i, none⟩ = cur[i]? := by
 unfold Blk at h; simp [World.cell?, h]
theorem Blk.frozen {w : World} {g : Nat} {cur : List Value} (h : Blk w g cur) (i : Nat) : w.frozen? ⟨g, i, none⟩ = false := by
 unfold Blk at h; simp [World.frozen?, h]
theorem Blk.set {w : World} {g : Nat} {cur : List Value} (h : Blk w g cur) (i : Nat) (v : Value) : Blk (w.setCell ⟨g, i, none⟩ v) g (cur.set i v) := by
 unfold Blk at h ⊢
 rw [setCell_eq_setRow w g i _ _ _ v h, setRow_heap w g _ _ _ _ h]
 simp
theorem Blk.grown {w w' : World} {g : Nat} {cur : List Value} {row : Option Nat} (h : Blk w g cur) (hg : w.grownBy w' row) (hr : some g ≠ row) : Blk w' g cur := by
 unfold Blk; rw [hg.block g h.lt hr]; exact h
theorem Blk.below {w w' : World} {g B : Nat} {cur : List Value} (h : Blk w g cur) (hb : Below B w w') (hr : g < B) : Blk w' g cur := by
 unfold Blk; rw [hb.block g hr]; exact h
theorem Blk.row {w : World} {g : Nat} {bs : List Int} (h : Blk w g (bv bs)) (hb : Byt bs) (hl : bs.length ≤ maxLen) : Row w (some ⟨g, 0, none⟩) bs.length bs :=
 ⟨rfl, hl, hb, fun _ => ⟨g, 0, rfl, fun i hi => by rw [h.cell, Nat.zero_add, bv_getElem? _ _ hi]⟩⟩
theorem Blk.rowAt {w : World} {g : Nat} {cs : List Value} {bs : List Int} (o : Nat) (h : Blk w g cs) (he : (cs.drop o).take bs.length = bv bs) (hb : Byt bs) (hl : bs.length ≤ maxLen) : Row w (some ⟨g, o, none⟩) bs.length bs := by
 refine ⟨rfl, hl, hb, fun _ => ⟨g, o, rfl, fun i hi => ?_⟩⟩
 rw [h.cell, ← bv_getElem? _ _ hi, ← he, List.getElem?_take, if_pos hi, List.getElem?_drop]

theorem grown_trans {a b c : World} {row : Option Nat} (h : a.grownBy b row) (k : b.grownBy c row) : a.grownBy c row :=
 ⟨k.os.trans h.os, k.tape.trans h.tape, k.output.trans h.output, Nat.le_trans h.size k.size, fun i hi hr => (k.block i (Nat.lt_of_lt_of_le hi h.size) hr).trans (h.block i hi hr)⟩
theorem grown_set (w : World) (g i : Nat) (v : Value) : w.grownBy (w.setCell ⟨g, i, none⟩ v) (some g) :=
 ⟨rfl, rfl, rfl, by simp [World.setCell], fun k _ hr => Below.heap_setCell _ _ _ _ (fun e => hr (by rw [e]))⟩
theorem size_set (w : World) (p : Addr) (v : Value) : (w.setCell p v).heap.size = w.heap.size := by simp [World.setCell]

theorem splice_set (cur : List Value) (o : Nat) (cs : List Value) (v : Value) (h : o + cs.length < cur.length) : (splice cur o cs).set (o + cs.length) v = splice cur o (cs ++ [v]) := by
 unfold splice
 rw [List.set_append_right _ _ (by simp; omega), List.length_take, Nat.min_eq_left (by omega), Nat.add_sub_cancel_left, List.set_append_right _ _ (Nat.le_refl _), Nat.sub_self]
 rw [List.drop_eq_getElem_cons h]
 simp [Nat.add_assoc]
theorem splice_nil (cur : List Value) (o : Nat) : splice cur o [] = cur := by simp [splice]

theorem Row.grown {w w' : World} {a : Option Addr} {len : Nat} {bs : List Int} (h : Row w a len bs) (hg : w.grownBy w' none) : Row w' a len bs :=
 h.below ⟨hg.os, hg.tape, hg.output, hg.size, fun k hk => hg.block k hk (by simp)⟩
theorem Row.src {w : World} {a : Option Addr} {len : Nat} {bs : List Int} (h : Row w a len bs) (h0 : 0 < (bv bs).length) : ∃ ad, a = some ad ∧ ∀ j v, (bv bs)[j]? = some v → w.cell? (ad.add j) = some v := by
 rw [bv_length, h.len_eq] at h0
 obtain ⟨b, off, e, hc⟩ := h.cells h0
 refine ⟨_, e, fun j v hj => ?_⟩
 have hjl : j < bs.length := by
  rcases Nat.lt_or_ge j bs.length with h | h
  ·exact h
  ·rw [List.getElem?_eq_none (by rw [bv_length]; exact h)] at hj; cases hj
 have hadd : (⟨b, off, none⟩ : Addr).add j = ⟨b, off + j, none⟩ := by unfold Addr.add; split <;> simp_all
 rw [hadd, hc j (by rw [← h.len_eq]; exact hjl), ← bv_getElem? _ _ hjl]
 exact hj

/-- 'make([]byte, n)' -/
theorem wpList_make8 {P : Program} (w : World) {ops : Array Oper} {rest : List Oper} {o : Oper} {a : Act} {Q : Exit → Act → World → Prop}
  (hg : o.guard = none) (l c : Operand) (t : TypeId) (hop : o.op = Op.makeSlice t l c)
  (i : TypeInfo) (h1 : P.underlying t = some (.slice 5)) (h2 : P.info? 5 = some i) (h3 : i.zero = some (.int .u8 0)) (_h4 : i.size = 1) (h5 : i.bytes = 1)
  (kl kc : IntKind) (L C : Int) (n : Nat) (hl : a.eval l = .int kl L) (hc : a.eval c = .int kc C) (hL : L = (n : Int)) (hC : C = (n : Int)) (b2 : n ≤ 281474976710656)
  (hK : ∀ w', Blk w' w.heap.size (List.replicate n (.int .u8 0)) → w.grownBy w' none → w'.heap.size = w.heap.size + 1 → wpList P ops Q rest (a.put o.dst (.slice (some ⟨w.heap.size, 0, none⟩) n n)) w') :
  wpList P ops Q (o :: rest) a w := by
 refine wpList_plain hg fun K hK' => ?_
 have hr := run_make (P := P) w t 5 i _ h1 h2 h3 kl kc n n (by omega) (Int.le_refl _) (by rw [h5]; omega) (by omega)
 simp only [Int.toNat_natCast] at hr
 subst hL
 subst hC
 unfold Oper.wp
 simp [execOp, hop, hl, hc, hr, Result.andThen]
 refine hK' _ _ (hK _ ?_ (World.grownBy_alloc w _ none) (by simp))
 unfold Blk
 rw [heap_alloc_new]
 have e := toList_madeCells_one (.int .u8 0) n
 have : (madeCells (Value.int IntKind.u8 0).cells (n * i.size)) = (List.replicate n (Value.int .u8 0)).toArray := by
  rw [_h4, Nat.mul_one, ← e]; simp [Value.cells]
 simp [this]

/-- 'copy' into a row that the call made -/
theorem wpList_copy8 {P : Program} {w : World} {ops : Array Oper} {rest : List Oper} {o : Oper} {a : Act} {Q : Exit → Act → World → Prop} (hgd : o.guard = none) (d s : Operand) (dT sT : TypeId)
  (ho : o.op = .call { callee := .builtin .copy, args := #[d, s], argTypes := #[dT, sT] }) (hu : P.underlying dT = some (.slice 5)) (hsz : (P.info? 5).map (·.size) = some 1)
  (dp sp : Option Addr) (dLen dCap sLen sCap : Nat) (hd : a.eval d = .slice dp dLen dCap) (hs : a.eval s = .slice sp sLen sCap)
  (g off : Nat) (cur : List Value) (hg : Blk w g cur) (cs : List Value) (hn : cs.length = Nat.min sLen dLen)
  (hpos : 0 < cs.length → dp = some ⟨g, off, none⟩ ∧ ∃ ad, sp = some ad ∧ ∀ j v, cs[j]? = some v → w.cell? (ad.add j) = some v)
  (hfit : off + cs.length ≤ cur.length) (h1 : ∀ v ∈ cs, v.oneCell' = true)
  (h : ∀ w', Blk w' g (splice cur off cs) → w.grownBy w' (some g) → w'.heap.size = w.heap.size → wpList P ops Q rest (a.put o.dst (goInt cs.length)) w') :
  wpList P ops Q (o :: rest) a w := by
 by_cases h0 : cs.length = 0
 ·obtain rfl : cs = [] := List.eq_nil_of_length_eq_zero h0
  refine wpList_copy_nothing hgd d s dT sT ho 5 hu hsz dp sp dLen dCap sLen sCap hd hs (by simpa using hn.symm) ?_
  exact h w (by rw [splice_nil]; exact hg) (World.grownBy.refl _ _) rfl
 ·obtain ⟨rfl, ad, rfl, hsrc⟩ := hpos (by omega)
  refine wpList_copy_own hgd d s dT sT ho 5 hu hsz g off dLen dCap ad sLen sCap hd hs cur.toArray 5 hg cs hn hsrc (by simpa using hfit) h1 ?_
  refine h _ ?_ ⟨rfl, rfl, rfl, by simp [World.setRow], fun k _ hk => setRow_other w g k _ (fun e => hk (by rw [e]))⟩ (by simp [World.setRow])
  unfold Blk
  simpa [splice] using setRow_heap w g _ _ 5 _ hg
/-- a guard: the next operation is a copy -/
theorem copy_here {P : Program} {w : World} {ops : Array Oper} {rest : List Oper} {a : Act} {Q : Exit → Act → World → Prop} {dst : Option Nat} {args : Array Operand} {argTypes : Array TypeId} {type : TypeId} {pos : String} {after : Array Edge} {guard : Option (Nat × Bool)}
  (h : wpList P ops Q (⟨dst, .call { callee := .builtin .copy, args := args, argTypes := argTypes }, type, pos, after, guard⟩ :: rest) a w) : wpList P ops Q (⟨dst, .call { callee := .builtin .copy, args := args, argTypes := argTypes }, type, pos, after, guard⟩ :: rest) a w := h
/-- writes to a block that is new are no writes to what was there -/
theorem grown_new {a b c : World} {g : Nat} (h : a.grownBy b none) (k : b.grownBy c (some g)) (hg : a.heap.size ≤ g) : a.grownBy c none :=
 ⟨k.os.trans h.os, k.tape.trans h.tape, k.output.trans h.output, Nat.le_trans h.size k.size, fun i hi _ => (k.block i (Nat.lt_of_lt_of_le hi h.size) (fun e => by injection e; omega)).trans (h.block i hi (by simp))⟩
theorem grown_below {a b : World} (h : a.grownBy b none) : Below a.heap.size a b := ⟨h.os, h.tape, h.output, h.size, fun k hk => h.block k hk (by simp)⟩
theorem below_grown {a b : World} (h : Below a.heap.size a b) : a.grownBy b none := ⟨h.os, h.tape, h.output, h.size, fun k hk _ => h.block k hk⟩
theorem splice_two (z x y : List Value) (h : z.length = x.length + y.length) : splice (splice z 0 x) x.length y = x ++ y := by
 unfold splice
 rw [List.take_zero, List.nil_append, Nat.zero_add, List.take_append_of_le_length (by simp), List.take_of_length_le (by simp)]
 rw [List.drop_eq_nil_of_le (by simp; omega), List.append_nil]
theorem alloc_blk (w : World) (cs : List Value) : Blk (w.alloc (.cells cs.toArray 5)) w.heap.size cs := heap_alloc_new _ _
theorem alloc_row (w : World) (bs : List Int) (hb : Byt bs) (hl : bs.length ≤ maxLen) : Row (w.alloc (.cells (bv bs).toArray 5)) (some ⟨w.heap.size, 0, none⟩) bs.length bs := (alloc_blk w (bv bs)).row hb hl

/-- bytes as a text -/
theorem conv_row {P : Program} {w : World} {a : Option Addr} {len : Nat} {bs : List Int} (R : Row w a len bs) (cap : Nat) (src dst : TypeId) (hs : P.underlying src = some (.slice 5)) (he : P.underlying 5 = some (.int .u8)) (hd : P.underlying dst = some .string) :
  (convert src dst (.slice a len cap)).run P w = .ok (.string (strOfNums bs)) w := by
 by_cases h0 : 0 < len
 ·obtain ⟨b, off, rfl, hc⟩ := R.cells h0
  exact run_convert_bytes_arg w src 5 hs he b off len cap bs R.len_eq hc dst hd
 ·obtain rfl : len = 0 := by omega
  obtain rfl : bs = [] := List.eq_nil_of_length_eq_zero R.len_eq
  cases a with
  | none => exact run_convert_bytes_nil w src 5 hs he 0 cap dst hd
  | some x =>
   have hl : (loadCells x 0).run P w = .ok (([] : List Int).map (Value.int .u8)).toArray w := by
    have := run_loadCells_list (P := P) w x [] (fun j v hj => by simp at hj)
    simpa using this
   rw [run_convert_bytes_string w src dst 5 _ 0 cap hs he hd, run_bytesToString w x 0 cap [] hl, foldl_push_bytes]
   rfl
theorem str_toList (bs : List Int) : (strOfNums bs).toList = bs.map fun n => UInt8.ofNat n.toNat := by rw [ByteArray.toList_eq]; rfl
theorem str_eq (a b : List Int) (ha : Byt a) (hb : Byt b) : ((strOfNums a).toList == (strOfNums b).toList) = decide (a = b) := by
 rw [str_toList, str_toList]
 by_cases h : a = b
 ·subst h; simp
 ·have : (a.map fun n : Int => UInt8.ofNat n.toNat) ≠ b.map fun n : Int => UInt8.ofNat n.toNat := by
   intro e
   apply h
   have key : ∀ (l : List Int), Byt l → (l.map fun n : Int => UInt8.ofNat n.toNat).map (fun u : UInt8 => (u.toNat : Int)) = l := by
    intro l hl
    rw [List.map_map]
    have : ∀ x ∈ l, ((fun u : UInt8 => (u.toNat : Int)) ∘ fun n : Int => UInt8.ofNat n.toNat) x = x := by
     intro x hx
     have := hl x hx
     simp only [Function.comp, UInt8.toNat_ofNat']
     omega
    rw [List.map_congr_left this, List.map_id']
   rw [← key a ha, ← key b hb, e]
  simp [h, this]
/-- what is known of a slice of numbers that came in -/
def IsRow (k : IntKind) (w : World) (a : Option Addr) (len cap : Nat) (zs : List Int) : Prop :=
 (a = none ∧ len = 0 ∧ cap = 0 ∧ zs = []) ∨
 ∃ x, a = some x ∧ len ≤ cap ∧ cap ≤ maxLen ∧ zs.length = cap ∧ (∀ i, i < zs.length → w.cell? (x.add i) = some (.int k (zs.getD i 0))) ∧ ∀ n ∈ zs, (Lit.int k n).wf = true
theorem getD_take (l : List Int) (n i : Nat) (h : i < n) : (l.take n).getD i 0 = l.getD i 0 := by
 rw [List.getD_eq_getElem?_getD, List.getD_eq_getElem?_getD, List.getElem?_take, if_pos h]
theorem wf_u8 {n : Int} (h : (Lit.int .u8 n).wf = true) : 0 ≤ n ∧ n ≤ 255 := by
 have := bounds_u8 h; omega
theorem wf_i64 {n : Int} (h : (Lit.int .i64 n).wf = true) : -9223372036854775808 ≤ n ∧ n ≤ 9223372036854775807 := by
 have := bounds_i64 h; omega
theorem wf_u64 {n : Int} (h : (Lit.int .u64 n).wf = true) : 0 ≤ n ∧ n < 18446744073709551616 := by
 have := bounds_u64 h; omega
theorem IsRow.row {w : World} {a : Option Addr} {len cap : Nat} {zs : List Int} (h : IsRow .u8 w a len cap zs) : Row w a len (zs.take len) := by
 rcases h with ⟨rfl, rfl, rfl, rfl⟩ | ⟨x, rfl, hl, hm, hz, hcell, hwz⟩
 ·exact ⟨rfl, Nat.zero_le _, fun n hn => by simp at hn, fun h => absurd h (by omega)⟩
 ·refine ⟨by simp; omega, by omega, fun n hn => wf_u8 (hwz n (List.mem_of_mem_take hn)), fun h0 => ?_⟩
  obtain ⟨b, off, spot⟩ := x
  have hc := hcell 0 (by omega)
  have hspot : spot = none := by simpa [Addr.add] using World.cell?_spot hc
  subst hspot
  refine ⟨b, off, rfl, fun i hi => ?_⟩
  have hadd : (⟨b, off, none⟩ : Addr).add i = ⟨b, off + i, none⟩ := by unfold Addr.add; split <;> simp_all
  rw [← hadd, hcell i (by omega), getD_take _ _ _ hi]
theorem splice_all (z cs : List Value) (h : z.length = cs.length) : splice z 0 cs = cs := by
 unfold splice
 rw [List.take_zero, List.nil_append, List.drop_eq_nil_of_le (by omega), List.append_nil]
theorem pow8 (j : Nat) : (2 : Int) ^ (8 * j) = 256 ^ j := by rw [Int.pow_mul]; rfl
theorem pu : (∀ (l : List Value) (i : Nat) (v : Value), l.toArray.setIfInBounds i v = (l.set i v).toArray) ∧ (∀ (x : Value) (l : List Value) (v : Value), (x :: l).set 0 v = v :: l) ∧ (∀ (x : Value) (l : List Value) (n : Nat) (v : Value), (x :: l).set (n + 1) v = x :: l.set n v) :=
 ⟨fun _ _ _ => List.setIfInBounds_toArray .., fun _ _ _ => rfl, fun _ _ _ _ => rfl⟩
end Go.Proofs.Ytkkigpobhagnfaa
namespace Go.Proofs.Ytkkigpobhagnfaa
open Go.RowKit
set_option maxRecDepth 100000
set_option linter.unusedSimpArgs false
set_option linter.unusedVariables false
def half (n : Nat) : Nat := if n % 2 = 1 then n / 2 ^^^ 3988292384 else n / 2
def halves : Nat → Nat → Nat
 | 0, n => n
 | k + 1, n => half (halves k n)
/-- an entry of the table -/
def ent (n : Nat) : Nat := halves 8 n
theorem half_lt {n : Nat} (h : n < 4294967296) : half n < 4294967296 := by
 unfold half
 split
 ·exact Nat.xor_lt_two_pow (n := 32) (by omega) (by decide)
 ·omega
theorem halves_lt {n : Nat} (h : n < 4294967296) (k : Nat) : halves k n < 4294967296 := by
 induction k with
 | zero => exact h
 | succ k ih => exact half_lt ih
theorem ent_lt {n : Nat} (h : n < 4294967296) : ent n < 4294967296 := halves_lt h 8

/-- a byte more, by a table -/
def stp (T : Nat → Nat) (c : Nat) (b : Int) : Nat := c / 256 ^^^ T (c % 256 ^^^ b.toNat)
def upd (T : Nat → Nat) (c : Nat) (bs : List Int) : Nat := bs.foldl (stp T) c
def crc (T : Nat → Nat) (c : Nat) (bs : List Int) : Nat := 4294967295 - upd T (4294967295 - c) bs
def Tab (T : Nat → Nat) : Prop := ∀ i, i < 256 → T i < 4294967296
theorem ent_tab : Tab ent := fun i h => ent_lt (by omega)

theorem ix_lt {c : Nat} {b : Int} (hb : 0 ≤ b ∧ b ≤ 255) : c % 256 ^^^ b.toNat < 256 := Nat.xor_lt_two_pow (n := 8) (by omega) (by omega)
theorem stp_lt {T : Nat → Nat} (hT : Tab T) {c : Nat} {b : Int} (hc : c < 4294967296) (hb : 0 ≤ b ∧ b ≤ 255) : stp T c b < 4294967296 :=
 Nat.xor_lt_two_pow (n := 32) (by omega) (hT _ (ix_lt hb))
theorem fold_lt {M : Nat} {f : Nat → Int → Nat} {bs : List Int} (hf : ∀ c b, c < M → b ∈ bs → f c b < M) {c : Nat} (hc : c < M) : bs.foldl f c < M := by
 induction bs generalizing c with
 | nil => exact hc
 | cons b r ih =>
  rw [List.foldl_cons]
  exact ih (fun c x hc hx => hf c x hc (List.mem_cons_of_mem _ hx)) (hf c b hc (List.mem_cons_self ..))
theorem upd_lt {T : Nat → Nat} (hT : Tab T) {bs : List Int} (hb : Byt bs) {c : Nat} (hc : c < 4294967296) : upd T c bs < 4294967296 :=
 fold_lt (fun _ b hc hx => stp_lt hT hc (hb b hx)) hc
theorem fold_snoc (f : Nat → Int → Nat) (c : Nat) (bs : List Int) (j : Nat) (h : j < bs.length) : (bs.take (j + 1)).foldl f c = f ((bs.take j).foldl f c) (bs.getD j 0) := by
 rw [take_snocI _ _ h, List.foldl_append, List.foldl_cons, List.foldl_nil]
theorem upd_snoc (T : Nat → Nat) (c : Nat) (bs : List Int) (j : Nat) (h : j < bs.length) : upd T c (bs.take (j + 1)) = stp T (upd T c (bs.take j)) (bs.getD j 0) := by
 unfold upd; rw [fold_snoc _ _ _ _ h]
theorem upd_append (T : Nat → Nat) (c : Nat) (a b : List Int) : upd T c (a ++ b) = upd T (upd T c a) b := by unfold upd; rw [List.foldl_append]
theorem crc_lt (T : Nat → Nat) (c : Nat) (bs : List Int) : crc T c bs < 4294967296 := by unfold crc; omega
theorem crc_append {T : Nat → Nat} (hT : Tab T) (c : Nat) {a : List Int} (b : List Int) (ha : Byt a) : crc T c (a ++ b) = crc T (crc T c a) b := by
 have := upd_lt hT ha (c := 4294967295 - c) (by omega)
 unfold crc
 rw [upd_append]
 congr 2
 omega

/-- the digest of 64 bits -/
def dig1 (d : Nat) (b : Int) : Nat := (d ^^^ b.toNat) * 1099511628211 % 18446744073709551616
def dig (d : Nat) (bs : List Int) : Nat := bs.foldl dig1 d
theorem dig1_lt (d : Nat) (b : Int) : dig1 d b < 18446744073709551616 := Nat.mod_lt _ (by decide)
theorem dig_lt {d : Nat} (h : d < 18446744073709551616) (bs : List Int) : dig d bs < 18446744073709551616 :=
 fold_lt (fun d b _ _ => dig1_lt d b) h
theorem dig_snoc (d : Nat) (bs : List Int) (j : Nat) (h : j < bs.length) : dig d (bs.take (j + 1)) = dig1 (dig d (bs.take j)) (bs.getD j 0) := by
 unfold dig; rw [fold_snoc _ _ _ _ h]
theorem dig_append (d : Nat) (a b : List Int) : dig d (a ++ b) = dig (dig d a) b := by unfold dig; rw [List.foldl_append]

/-! the numbers of the model -/
theorem and1 {n : Nat} (h : n < 4294967296) : bits .and .u32 (n : Int) 1 = ((n % 2 : Nat) : Int) := by
 have := u32_and_nat n 1 h (by decide)
 rw [Nat.and_one_is_mod] at this
 exact this
theorem xor32 {a b : Nat} (ha : a < 4294967296) (hb : b < 4294967296) : bits .xor .u32 (a : Int) (b : Int) = ((a ^^^ b : Nat) : Int) := u32_xor_nat a b ha hb
theorem xor64 {a b : Nat} (ha : a < 18446744073709551616) (hb : b < 18446744073709551616) : bits .xor .u64 (a : Int) (b : Int) = ((a ^^^ b : Nat) : Int) := u64_xor_nat a b ha hb
theorem xor8 {a b : Nat} (ha : a < 256) (hb : b < 256) : bits .xor .u8 (a : Int) (b : Int) = ((a ^^^ b : Nat) : Int) := u8_xor_nat a b ha hb
theorem half1 {x : Nat} (h : x % 2 = 1) : half x = x / 2 ^^^ 3988292384 := by simp [half, h]
theorem half0 {x : Nat} (h : x % 2 ≠ 1) : half x = x / 2 := by simp [half, h]
theorem xorP {x : Nat} (h : x < 4294967296) : bits .xor .u32 ((x : Int) / 2) 3988292384 = ((x / 2 ^^^ 3988292384 : Nat) : Int) := xor32 (a := x / 2) (b := 3988292384) (by omega) (by decide)

theorem refentry_any (n : Nat) (w : World) (hn : n < 4294967296) : Calls Try.prog 50 #[.int .u32 n] w fun e w' => e = .returned (.int .u32 (ent n)) ∧ w = w' := by
 go_enter Try.func50, Try.ntmps50
 go_wp2
 go_loop [0, 3] (fun v i => ∃ j : Nat, j ≤ 8 ∧ i = .int .i64 j ∧ v = .int .u32 (halves j n)) (fun _ i => 8 - (intOf i).toNat)
 case atStart => exact ⟨0, Nat.zero_le _, rfl, rfl⟩
 case round =>
  obtain ⟨j, hj, rfl, rfl⟩ := hrel
  by_cases hlt : j < 8
  ·have hx := halves_lt hn j
   have hs : halves (j + 1) n = half (halves j n) := rfl
   generalize halves j n = x at hx hs
   by_cases hp : x % 2 = 1
   ·rw [half1 hp] at hs
    have hp' : ((x : Int) % 2) = 1 := by omega
    go_wp2
    go_round
    case rel => exact ⟨j + 1, by omega, by go_num, by rw [hs, xorP hx]⟩
    case measure => simp [intOf]; omega
   ·rw [half0 hp] at hs
    have hp' : ((x : Int) % 2) = 0 := by omega
    go_wp2
    go_round
    case rel => exact ⟨j + 1, by omega, by go_num, by rw [hs]; rfl⟩
    case measure => simp [intOf]; omega
  ·go_wp2
   go_ret
   have : j = 8 := by omega
   subst this
   exact ⟨rfl, rfl⟩

theorem stp_eq {T : Nat → Nat} (hT : Tab T) {x : Nat} {b : Int} (hb : 0 ≤ b ∧ b ≤ 255) (hx : x < 4294967296) : bits .xor .u32 ((x : Int) / 256) (T (x % 256 ^^^ b.toNat)) = ((stp T x b : Nat) : Int) :=
 xor32 (a := x / 256) (by omega) (hT _ (ix_lt hb))
theorem ix_eq {x : Nat} {b : Int} (hb : 0 ≤ b ∧ b ≤ 255) : bits .xor .u32 ((x : Int) % 256) b = ((x % 256 ^^^ b.toNat : Nat) : Int) := by
 obtain ⟨c, rfl⟩ := Int.eq_ofNat_of_zero_le hb.1
 exact xor32 (a := x % 256) (b := c) (by omega) (by omega)

theorem refcrc_any (c : Nat) (a : Option Addr) (len cap : Nat) (bs : List Int) (w : World) (R : Row w a len bs) (hc : c < 4294967296) : Calls Try.prog 32 #[.int .u32 c, .slice a len cap] w fun e w' => e = .returned (.int .u32 (crc ent c bs)) ∧ w = w' := by
 have hle := R.le
 unfold maxLen at hle
 have e1 : (4294967295 - (c : Int)) = ((4294967295 - c : Nat) : Int) := by omega
 have hd : 4294967295 - c < 4294967296 := by omega
 unfold crc
 generalize 4294967295 - c = d at e1 hd
 go_enter Try.func32, Try.ntmps32
 go_wp2
 go_loop [0, 5] (fun v i => ∃ j : Nat, j ≤ len ∧ i = .int .i64 j ∧ v = .int .u32 (upd ent d (bs.take j))) (fun _ i => len - (intOf i).toNat)
 case atStart => exact ⟨0, Nat.zero_le _, rfl, rfl⟩
 case round =>
  obtain ⟨j, hj, rfl, rfl⟩ := hrel
  by_cases hlt : j < len
  ·obtain ⟨b, off, rfl, hc⟩ := R.cells (by omega)
   have hcell := hc j hlt
   have hr := R.byt.getD j
   have hs := upd_snoc ent d bs j (by rw [R.len_eq]; exact hlt)
   have hx := upd_lt ent_tab (R.byt.take j) hd
   generalize bs.getD j 0 = x at hcell hr hs
   generalize upd ent d (bs.take j) = y at hs hx
   clear hc
   have hw : IntKind.u32.wrap x = x := by rw [IntKind.wrap_u32]; omega
   have hi := ix_eq (x := y) hr
   have hE := refentry_any (y % 256 ^^^ x.toNat) w (by have := ix_lt (c := y) hr; omega)
   have hS := stp_eq ent_tab hr hx
   go_wp2_with (go_at_call 50; refine hE.mono ?_; rintro e w' ⟨rfl, rfl⟩)
   go_round
   case rel => exact ⟨j + 1, by omega, by go_num, by rw [hs, ← hS]⟩
   case measure => simp [intOf]; omega
  ·have hx := upd_lt ent_tab R.byt hd
   have : j = len := by omega
   subst this
   rw [List.take_of_length_le (Nat.le_of_eq R.len_eq)]
   generalize hy : upd ent d bs = y at hx
   have e2 : (4294967295 - (y : Int)) = ((4294967295 - y : Nat) : Int) := by omega
   go_wp2
   go_ret
   exact ⟨rfl, rfl⟩
end Go.Proofs.Ytkkigpobhagnfaa
namespace Go.Proofs.Ytkkigpobhagnfaa
open Go.RowKit
set_option maxRecDepth 100000
theorem owns_row {w : World} {base : Nat} {v : Value} {n : Nat} {bs : List Int} (h : w.ownsRow base 5 1 v n (bv bs)) (hb : Byt bs) (hl : n ≤ maxLen) : ∃ a cap, v = .slice a n cap ∧ Row w a n bs := by
 obtain ⟨h1, h2⟩ := h
 rw [bv_length, Nat.mul_one] at h1
 rcases h2 with ⟨rfl, rfl⟩ | ⟨g, cap, cur, rfl, _, hg, hc, hm, hs, ht⟩
 ·exact ⟨none, 0, rfl, h1, hl, hb, fun h => absurd h (by omega)⟩
 ·refine ⟨_, cap, rfl, h1, hl, hb, fun _ => ⟨g, 0, rfl, fun i hi => ?_⟩⟩
  have e : w.cell? ⟨g, 0 + i, none⟩ = cur[i]? := by simp [World.cell?, hg]
  rw [e, ← bv_getElem? _ _ (by omega), ← ht, Nat.mul_one, List.getElem?_take, if_pos hi, Array.getElem?_toList]

/-- 'append' of bytes to a row of the call's own -/
theorem wpList_append8 {P : Program} {w : World} {ops : Array Oper} {rest : List Oper} {o : Oper} {a : Act} {Q : Exit → Act → World → Prop} (hgd : o.guard = none) (s x : Operand) (t : TypeId)
  (ho : o.op = .call { callee := .builtin .append, args := #[s, x], argTypes := #[t, t] })
  (base : Nat) (i : TypeInfo) (ht : P.underlying t = some (.slice 5)) (hi : P.info? 5 = some i) (hz : i.zero = some (.int .u8 0)) (hsize : i.size = 1) (hby : i.bytes = 1)
  (v : Value) (n : Nat) (xs : List Value) (hs : a.eval s = v) (hown : w.ownsRow base 5 1 v n xs)
  (sa : Option Addr) (m c : Nat) (bs : List Int) (hx : a.eval x = .slice sa m c) (R : Row w sa m bs) (hnil : sa = none → c = 0)
  (hb : n + m ≤ 140737488355328) (hbase : base ≤ w.heap.size)
  (h : ∀ v' w', w'.ownsRow base 5 1 v' (n + m) (xs ++ bv bs) → w.grownBy w' v.ownBlock → wpList P ops Q rest (a.put o.dst v') w') : wpList P ops Q (o :: rest) a w := by
 cases sa with
 | none =>
  have hm : m = 0 := by
   rcases Nat.eq_zero_or_pos m with h0 | h0
   ·exact h0
   ·obtain ⟨_, _, e, _⟩ := R.cells h0; cases e
  subst hm
  obtain rfl : bs = [] := List.eq_nil_of_length_eq_zero R.len_eq
  obtain rfl := hnil rfl
  refine wpList_append_own_none hgd s x t ho base 5 i 1 ht hi v n xs hs hown hx ?_
  exact h v w (by simpa [bv] using hown) (World.grownBy.refl _ _)
 | some ad =>
  refine wpList_append_own w hgd s x t ho base 5 i (.int .u8 0) 1 1 ht hi hz hsize hby rfl (by decide) v n xs hs hown ad m c (bv bs) hx (by rw [bv_length, R.len_eq]; omega) ?_ (bv_one _) (by unfold maxLen; omega) (by omega) hbase (fun v' w' h1 h2 _ => h v' w' h1 h2)
  intro j u hj
  have h0 : 0 < (bv bs).length := by
   rcases Nat.eq_zero_or_pos (bv bs).length with h0 | h0
   ·rw [List.eq_nil_of_length_eq_zero h0] at hj; simp at hj
   ·exact h0
  obtain ⟨ad', e, hc⟩ := R.src h0
  injection e with e
  subst e
  exact hc j u hj
theorem owns_form {w : World} {base n : Nat} {v : Value} {xs : List Value} (h : w.ownsRow base 5 1 v n xs) : ∃ a c, v = .slice a n c ∧ n ≤ c ∧ c ≤ maxLen ∧ ((a = none ∧ n = 0 ∧ c = 0) ∨ ∃ g, a = some ⟨g, 0, none⟩ ∧ base ≤ g) := by
 rcases h.2 with ⟨rfl, rfl⟩ | ⟨g, cap, cur, rfl, hb, _, hn, hm, _, _⟩
 ·exact ⟨none, 0, rfl, Nat.le_refl _, Nat.zero_le _, Or.inl ⟨rfl, rfl, rfl⟩⟩
 ·exact ⟨_, cap, rfl, hn, hm, Or.inr ⟨g, rfl, hb⟩⟩
theorem below_own {w w' : World} {base : Nat} {v : Value} {n : Nat} {xs : List Value} (hg : w.grownBy w' v.ownBlock) (ho : w.ownsRow base 5 1 v n xs) (hb : base ≤ w.heap.size) : Below base w w' :=
 ⟨hg.os, hg.tape, hg.output, hg.size, fun k hk => hg.block k (by omega) (fun e => by have := (ho.lt k e.symm).1; omega)⟩
theorem Try.info5 : (Try.prog.info? 5).map (fun i => (i.zero, i.size, i.bytes)) = some (some (.int .u8 0), 1, 1) := by kernel_rfl
theorem IsRow.nilcap {k : IntKind} {w : World} {a : Option Addr} {len cap : Nat} {zs : List Int} (h : IsRow k w a len cap zs) : a = none → cap = 0 := by
 rcases h with ⟨rfl, rfl, rfl, rfl⟩ | ⟨x, rfl, _⟩
 ·intro _; rfl
 ·intro e; cases e
end Go.Proofs.Ytkkigpobhagnfaa
namespace Go.Proofs.Ytkkigpobhagnfaa
open Go.RowKit
set_option maxRecDepth 100000
set_option linter.unusedSimpArgs false
set_option linter.unusedVariables false
/-- a length whose further bytes follow: it, the place behind; -1: it ends too early -/
def lnk : List Int → Int → Int → Int × Int
 | [], _, p => (-1, p)
 | b :: r, n, p => if b = 255 then lnk r (n + 255) (p + 1) else (n + b, p + 1)
def lng (bs : List Int) (n : Int) (p : Nat) : Int × Int := if n < 15 then (n, (p : Int)) else lnk (bs.drop p) n p
def fou (n : Int) : Int := if 15 < n then 15 else n

theorem lnk_at {bs : List Int} {p : Nat} (h : p < bs.length) (n : Int) : lnk (bs.drop p) n p = if bs.getD p 0 = 255 then lnk (bs.drop (p + 1)) (n + 255) ((p + 1 : Nat) : Int) else (n + bs.getD p 0, ((p + 1 : Nat) : Int)) := by
 rw [List.drop_eq_getElem_cons h, lnk]
 simp [List.getD_eq_getElem?_getD, List.getElem?_eq_getElem h]

set_option maxHeartbeats 1000000 in
theorem length_any (a : Option Addr) (len cap : Nat) (bs : List Int) (n : Int) (p : Nat) (w : World) (R : Row w a len bs) (hl : len ≤ 16777216) (hn : 0 ≤ n ∧ n ≤ 15) (hp : p ≤ len) :
  Calls Try.prog 65 #[.slice a len cap, .int .i64 n, .int .i64 p] w fun e w' => e = .returned (.tuple #[.int .i64 (lng bs n p).1, .int .i64 (lng bs n p).2]) ∧ w' = w := by
 unfold lng
 have hlb := R.len_eq
 by_cases h1 : n < 15
 ·rw [if_pos h1]
  go_enter Try.func65, Try.ntmps65
  go_wp2
  go_ret2
  exact ⟨rfl, rfl⟩
 ·rw [if_neg h1]
  go_enter Try.func65, Try.ntmps65
  go_wp2
  go_loopw [1, 2] (fun vn vp wr => wr = w ∧ ∃ (m : Int) (j : Nat), vn = .int .i64 m ∧ vp = .int .i64 j ∧ j ≤ len ∧ 15 ≤ m ∧ m ≤ 15 + 255 * j ∧ Hid (lnk (bs.drop j) m j = lnk (bs.drop p) n p)) (fun _ vp _ => len - (intOf vp).toNat)
  case atStart => exact ⟨rfl, n, p, rfl, rfl, hp, by omega, by omega, rfl⟩
  case round =>
   obtain ⟨rfl, m, j, rfl, rfl, hj, hm1, hm2, HE⟩ := hrel
   by_cases k1 : j < len
   ·obtain ⟨b, off, rfl, hc⟩ := R.cells (by omega)
    have ca := hc j k1
    have hx := R.byt.getD j
    have he := HE.out
    rw [lnk_at (by omega)] at he
    clear hc HE
    generalize bs.getD j 0 = x at ca hx he
    by_cases k2 : x = 255
    ·subst k2
     rw [if_pos rfl] at he
     have HE : Hid _ := he
     clear he
     go_wp2
     go_roundw
     case rel => exact ⟨by trivial, m + 255, j + 1, by go_num, by go_num, by omega, by omega, by omega, HE⟩
     case measure => simp [intOf]; omega
    ·rw [if_neg k2] at he
     have HE : Hid _ := he
     clear he
     go_wp2
     go_ret2
     rw [← HE.out]
     exact ⟨by simp, rfl⟩
   ·have he := HE.out
    rw [List.drop_eq_nil_of_le (by omega)] at he
    have HE : Hid _ := he
    clear he
    go_wp2
    go_ret2
    rw [← HE.out]
    exact ⟨rfl, rfl⟩
theorem info_parts {P : Program} {t : TypeId} {z : Option Value} {s b : Nat} (h : (P.info? t).map (fun i => (i.zero, i.size, i.bytes)) = some (z, s, b)) : ∃ i, P.info? t = some i ∧ i.zero = z ∧ i.size = s ∧ i.bytes = b := by
 cases e : P.info? t with
 | none => rw [e] at h; simp at h
 | some i => rw [e] at h; simp at h; exact ⟨i, rfl, h.1, h.2.1, h.2.2⟩
theorem cell_one (w : World) (t : TypeId) (v : Value) (j : Nat) (u : Value) (h : ([v])[j]? = some u) : (w.alloc (.cells #[v] t)).cell? ((⟨w.heap.size, 0, none⟩ : Addr).add j) = some u := by
 cases j with
 | zero =>
  simp at h
  subst h
  simp [Addr.add]
 | succ j => simp at h
theorem grown_own {a b c : World} {base t s n : Nat} {v : Value} {xs : List Value} (h : a.grownBy b none) (ho : b.ownsRow base t s v n xs) (k : b.grownBy c v.ownBlock) (hb : a.heap.size ≤ base) : a.grownBy c none :=
 ⟨k.os.trans h.os, k.tape.trans h.tape, k.output.trans h.output, Nat.le_trans h.size k.size, fun i hi hr => (k.block i (Nat.lt_of_lt_of_le hi h.size) (fun e => by have := (ho.lt i e.symm).1; omega)).trans (h.block i hi hr)⟩

/-- the bytes that tell a length behind its four bits -/
def tol (n : Int) : List Int := if n < 15 then [] else List.replicate ((n - 15) / 255).toNat 255 ++ [(n - 15) % 255]
theorem tol_byt (n : Int) : Byt (tol n) := by
 unfold tol
 split
 ·intro x hx; simp at hx
 ·intro x hx
  rw [List.mem_append] at hx
  rcases hx with hx | hx
  ·rw [List.eq_of_mem_replicate hx]; decide
  ·simp at hx; omega
theorem tol_len {n : Int} (h : 15 ≤ n) : (tol n).length = ((n - 15) / 255).toNat + 1 := by
 unfold tol; rw [if_neg (by omega)]; simp
end Go.Proofs.Ytkkigpobhagnfaa
