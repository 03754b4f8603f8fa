/- Bursts: a byte's step is eight halvings; a turned bit shows in the end as so many halvings of it; a halving loses nothing. Plain: a stream one of whose chunks' bytes were turned. The walk of MetaBursts. Small numbers that came in. -/
import Derived.BigRegion
import Derived.Test.YtkkigpobhagnfaaD03
import Derived.Test.YtkkigpobhagnfaaG01
import Derived.Test.YtkkigpobhagnfaaK01
import Derived.Test.YtkkigpobhagnfaaK05
import Derived.Test.YtkkigpobhagnfaaK10
import Derived.Test.YtkkigpobhagnfaaK16
namespace Go.Proofs.Ytkkigpobhagnfaa
set_option linter.unusedSimpArgs false
set_option linter.unusedVariables false
theorem xor_div2 (x y : Nat) : (x ^^^ y) / 2 = x / 2 ^^^ y / 2 := by
 have h := Nat.shiftRight_xor_distrib (a := x) (b := y) (i := 1)
 simpa [Nat.shiftRight_eq_div_pow] using h
theorem xor_mod2 (x y : Nat) : (x ^^^ y) % 2 = (x % 2 + y % 2) % 2 := by
 have h := Nat.xor_mod_two_pow (a := x) (b := y) (n := 1)
 simp only [Nat.pow_one] at h
 rw [h]
 rcases Nat.mod_two_eq_zero_or_one x with hx | hx <;> rcases Nat.mod_two_eq_zero_or_one y with hy | hy <;> rw [hx, hy] <;> rfl
theorem half_xor (x y : Nat) : half (x ^^^ y) = half x ^^^ half y := by
 unfold half
 rw [xor_div2, xor_mod2]
 generalize x / 2 = a
 generalize y / 2 = b
 generalize 3988292384 = p
 rcases Nat.mod_two_eq_zero_or_one x with hx | hx <;> rcases Nat.mod_two_eq_zero_or_one y with hy | hy <;> rw [hx, hy]
 ·rfl
 ·simp [Nat.xor_assoc]
 ·simp only [Nat.add_zero, Nat.one_mod, if_true]
  simp
  rw [Nat.xor_assoc, Nat.xor_comm b p, ← Nat.xor_assoc]
 ·simp
  have : a ^^^ p ^^^ (b ^^^ p) = a ^^^ b ^^^ (p ^^^ p) := by
   rw [Nat.xor_assoc a p, ← Nat.xor_assoc p b p, Nat.xor_comm p b, Nat.xor_assoc b p p, Nat.xor_assoc a b]
  rw [this, Nat.xor_self, Nat.xor_zero]
theorem halves_xor (k x y : Nat) : halves k (x ^^^ y) = halves k x ^^^ halves k y := by
 induction k with
 | zero => rfl
 | succ k ih => show half (halves k (x ^^^ y)) = half (halves k x) ^^^ half (halves k y); rw [ih, half_xor]
theorem halves_add (a b x : Nat) : halves (a + b) x = halves a (halves b x) := by
 induction a with
 | zero => rw [Nat.zero_add]; rfl
 | succ a ih => rw [Nat.succ_add]; show half (halves (a + b) x) = half (halves a (halves b x)); rw [ih]
theorem half_ne {x : Nat} (h : x < 4294967296) (h0 : x ≠ 0) : half x ≠ 0 := by
 unfold half
 split
 ·intro e
  have h2 : x / 2 ^^^ 3988292384 ^^^ 3988292384 = 0 ^^^ 3988292384 := by rw [e]
  rw [Nat.xor_assoc, Nat.xor_self, Nat.xor_zero, Nat.zero_xor] at h2
  omega
 ·omega
theorem halves_ne {x : Nat} (h : x < 4294967296) (h0 : x ≠ 0) (k : Nat) : halves k x ≠ 0 := by
 induction k with
 | zero => exact h0
 | succ k ih => exact half_ne (halves_lt h k) ih
theorem half_double (m : Nat) : half (2 * m) = m := by
 unfold half
 rw [if_neg (by omega)]
 omega
theorem halves_mul (k m : Nat) : halves k (2 ^ k * m) = m := by
 induction k with
 | zero => show 2 ^ 0 * m = m; simp
 | succ k ih =>
  rw [halves_add k 1]
  have : halves 1 (2 ^ (k + 1) * m) = 2 ^ k * m := by
   show half (2 ^ (k + 1) * m) = _
   rw [Nat.pow_succ, Nat.mul_comm (2 ^ k) 2, Nat.mul_assoc, half_double]
  rw [this, ih]
theorem halves_pow (k : Nat) : halves k (2 ^ k) = 1 := by
 have := halves_mul k 1
 rwa [Nat.mul_one] at this
theorem low_xork (k q r : Nat) (h : r < 2 ^ k) : 2 ^ k * q ^^^ r = 2 ^ k * q + r := by
 apply Nat.eq_of_testBit_eq
 intro i
 have e := Nat.testBit_two_pow_mul_add q (i := k) (b := r) h i
 have e2 := Nat.testBit_two_pow_mul (a := q) (i := k) (j := i)
 rw [Nat.testBit_xor, e, e2]
 by_cases hi : i < k
 ·simp [hi, show ¬ k ≤ i by omega]
 ·have : r.testBit i = false := Nat.testBit_lt_two_pow (Nat.lt_of_lt_of_le h (Nat.pow_le_pow_right (n := 2) (by decide) (Nat.le_of_not_lt hi)))
  simp [hi, this, show k ≤ i by omega]
theorem low_xor (q r : Nat) (h : r < 256) : 256 * q ^^^ r = 256 * q + r := low_xork 8 q r h
theorem stp_halves (c : Nat) (b : Int) : stp ent c b = halves 8 (c ^^^ b.toNat) := by
 have hc : c = 256 * (c / 256) ^^^ c % 256 := by rw [low_xor _ _ (Nat.mod_lt _ (by decide))]; omega
 have e : c ^^^ b.toNat = 2 ^ 8 * (c / 256) ^^^ (c % 256 ^^^ b.toNat) := by
  conv => lhs; rw [hc]
  rw [Nat.xor_assoc]
 rw [e, halves_xor, halves_mul]
 rfl
theorem upd_cons (s : Nat) (b : Int) (r : List Int) : upd ent s (b :: r) = upd ent (stp ent s b) r := by unfold upd; rw [List.foldl_cons]
theorem upd_nil (s : Nat) : upd ent s [] = s := by unfold upd; rw [List.foldl_nil]
theorem upd_xor (x y : Nat) {bs : List Int} (hb : Byt bs) : upd ent (x ^^^ y) bs = upd ent x bs ^^^ halves (8 * bs.length) y := by
 induction bs generalizing x y with
 | nil => rw [upd_nil, upd_nil]; rfl
 | cons b r ih =>
  have h0 := hb b (List.mem_cons_self ..)
  rw [upd_cons, upd_cons, stp_halves, stp_halves]
  have e : x ^^^ y ^^^ b.toNat = (x ^^^ b.toNat) ^^^ y := by rw [Nat.xor_assoc, Nat.xor_comm y, ← Nat.xor_assoc]
  rw [e, halves_xor, ih _ _ (fun z hz => hb z (List.mem_cons_of_mem _ hz)), ← halves_add]
  rw [List.length_cons, show 8 * r.length + 8 = 8 * (r.length + 1) by omega]
/-- a bit of a byte turned -/
theorem upd_flip (s j : Nat) (hj : j < 8) {bs : List Int} (hb : Byt bs) (k : Nat) (hk : k < bs.length) :
  upd ent s (bs.set k (((bs.getD k 0).toNat ^^^ 2 ^ j : Nat) : Int)) = upd ent s bs ^^^ halves (8 * (bs.length - k)) (2 ^ j) := by
 induction bs generalizing s k with
 | nil => simp at hk
 | cons b r ih =>
  have h0 := hb b (List.mem_cons_self ..)
  have hr : Byt r := fun z hz => hb z (List.mem_cons_of_mem _ hz)
  cases k with
  | zero =>
   have hj2 : 2 ^ j < 256 := Nat.pow_lt_pow_right (a := 2) (n := 8) (by decide) hj
   have hx : b.toNat ^^^ 2 ^ j < 256 := Nat.xor_lt_two_pow (n := 8) (by omega) hj2
   simp only [List.set_cons_zero, List.getD_cons_zero]
   rw [upd_cons, upd_cons, stp_halves, stp_halves, Int.toNat_natCast, ← Nat.xor_assoc, halves_xor, upd_xor _ _ hr, ← halves_add]
   rw [List.length_cons, show 8 * r.length + 8 = 8 * (r.length + 1 - 0) by omega]
  | succ k =>
   simp only [List.set_cons_succ, List.getD_cons_succ]
   rw [upd_cons, upd_cons, ih _ hr k (by simpa using hk), List.length_cons, show r.length + 1 - (k + 1) = r.length - k by omega]
theorem mod_bit1 {n i : Nat} (h : n / 2 ^ i % 2 = 1) : n % 2 ^ (i + 1) = n % 2 ^ i ^^^ 2 ^ i := by
 have e : n % 2 ^ (i + 1) = 2 ^ i * 1 + n % 2 ^ i := by
  rw [Nat.pow_succ, Nat.mod_mul, h]; omega
 rw [e, ← low_xork i 1 _ (Nat.mod_lt _ (Nat.two_pow_pos i)), Nat.mul_one, Nat.xor_comm]
theorem mod_bit0 {n i : Nat} (h : n / 2 ^ i % 2 = 0) : n % 2 ^ (i + 1) = n % 2 ^ i := by
 rw [Nat.pow_succ, Nat.mod_mul, h]; omega
/-- the burst's bits, one by one -/
theorem halves_bit (N A i : Nat) (k j : Nat) (hN : k < N) (hj : j < 8) (e : 8 * k + j = A + i) : halves (8 * (N - k)) (2 ^ j) = halves (8 * N - A) (2 ^ i) := by
 have e1 : 8 * (N - k) = (8 * (N - k) - j) + j := by omega
 have e2 : 8 * N - A = (8 * (N - k) - j) + i := by omega
 rw [e1, e2, halves_add, halves_add, halves_pow, halves_pow]
end Go.Proofs.Ytkkigpobhagnfaa
namespace Go.Proofs.Ytkkigpobhagnfaa
open Go.RowKit
set_option maxRecDepth 100000
set_option linter.unusedSimpArgs false
set_option linter.unusedVariables false
theorem head_any14 {E pc X Y : List Int} {limit pos : Nat} (hE : E.drop pos = hdb (ckE14 pc limit) ++ (X ++ Y)) (hX : X.length = (pk14 pc limit).1.length) (hb : Byt pc) (h1 : 1 ≤ pc.length) (h2 : pc.length ≤ 8192) :
  cAt E pos (pc.length : Int) = (ckP pc limit pos, true) ∧ rgt (ckP pc limit pos) = true ∧ wthn E.length (ckP pc limit pos) = true ∧ stoC E (ckP pc limit pos) = X ∧ E.drop (pos + 8 + (pk14 pc limit).1.length) = Y ∧ pos + 8 + (pk14 pc limit).1.length + Y.length = E.length := by
 obtain ⟨f1, f2, f3, f4, f5, f6⟩ := pk_facts limit hb h1 h2
 have hcl := crc_lt ent 0 (pk14 pc limit).1
 have hl8 := hdb_len (ckE14 pc limit)
 have e2 : E.drop (pos + 2) = (E.drop pos).drop 2 := by rw [List.drop_drop]
 have e4 : E.drop (pos + 4) = ((E.drop pos).drop 2).drop 2 := by rw [List.drop_drop, List.drop_drop]
 have e8 : E.drop (pos + 8) = X ++ Y := by
  rw [← List.drop_drop, hE, List.drop_append_of_le_length (by omega), List.drop_of_length_le (by omega)]; rfl
 have hlen : E.length = pos + 8 + X.length + Y.length := by
  have := congrArg List.length hE
  rw [List.length_drop, List.length_append, List.length_append, hl8] at this
  omega
 have hlast : E.drop (pos + 8 + X.length) = Y := by
  rw [← List.drop_drop, e8, List.drop_append_of_le_length (Nat.le_refl _), List.drop_length]; rfl
 have hX2 : E.drop pos = sto (pc.length : Int) 2 ++ (sto (if (pk14 pc limit).2 then ((pk14 pc limit).1.length : Int) else ((pk14 pc limit).1.length : Int) + 32768) 2 ++ (sto ((crc ent 0 (pk14 pc limit).1 : Nat) : Int) 4 ++ (X ++ Y))) := by
  rw [hE]; unfold hdb ckE14; simp only [List.append_assoc]
 have hd : hdC E pos = ckP pc limit pos := by
  unfold hdC ckP ckE14
  rw [e2, e4, hX2, sto2_take14, sto2_drop14, sto2_take14, sto2_drop14, sto4_take14]
  simp only [le_sto]
  have q1 : (pc.length : Int) % 256 ^ 2 = pc.length := by clear hX2 e8 hlast hlen; omega
  rw [q1, hd_crc14 _ hcl, (hd_word14 _ f3 _).1, (hd_word14 _ f3 _).2]
 have hrg : rgt (ckP pc limit pos) = true := rgt_iff.2 ⟨by unfold ckP; simp, ⟨by unfold ckP ckE14; simp only; omega, by unfold ckP ckE14; simp only; omega⟩, ⟨by unfold ckP ckE14; simp only; omega, by unfold ckP ckE14; simp only; omega⟩, by
  unfold ckP ckE14; simp only
  rcases f5 with h | h
  ·exact Or.inl h
  ·exact Or.inr (by rw [h])⟩
 have hwt : wthn E.length (ckP pc limit pos) = true := by unfold wthn ckP ckE14; exact decide_eq_true (by simp only; omega)
 have hst : stoC E (ckP pc limit pos) = X := by
  unfold stoC ckP ckE14
  simp only [Int.toNat_natCast]
  rw [e8, ← hX, List.take_append_of_le_length (Nat.le_refl _), List.take_length]
 refine ⟨?_, hrg, hwt, hst, by rw [← hX]; exact hlast, by rw [← hX]; omega⟩
 unfold cAt
 rw [if_neg (by omega), hd, if_pos ⟨rfl, hrg, hwt⟩]
theorem chk_bad14 {E : List Int} {c : Ck} (h1 : rgt c = true) (h2 : wthn E.length c = true) (h3 : crc ent 0 (stoC E c) ≠ c.cr) : chk E c = ([], 140) := by
 unfold chk
 rw [if_neg (by rw [h1]; decide), if_neg (by rw [h2]; decide), if_pos h3]
theorem chk_ok14 {E pc : List Int} {limit pos : Nat} (hb : Byt pc) (h1 : 1 ≤ pc.length) (h2 : pc.length ≤ 8192) (hr : rgt (ckP pc limit pos) = true) (hw : wthn E.length (ckP pc limit pos) = true) (hs : stoC E (ckP pc limit pos) = (pk14 pc limit).1) : chk E (ckP pc limit pos) = (pc, 0) := by
 obtain ⟨f1, f2, f3, f4, f5, f6⟩ := pk_facts limit hb h1 h2
 unfold chk
 have e1 : (ckP pc limit pos).pk = (pk14 pc limit).2 := rfl
 have e2 : (ckP pc limit pos).pl = (pc.length : Int) := rfl
 rw [hs, if_neg (by rw [hr]; decide), if_neg (by rw [hw]; decide), if_neg (by unfold ckP ckE14; simp), if_neg (by rw [e1, e2, f6]; simp), e1, e2, f6]
/-- m pieces from the k-th on, the i-th one's stored bytes turned into X -/
def enX (bs : List Int) (limit i : Nat) (X : List Int) : Nat → Nat → List Int
 | 0, _ => []
 | m + 1, k => hdb (ckE14 (pcB bs k) limit) ++ ((if k = i then X else (pk14 (pcB bs k) limit).1) ++ enX bs limit i X m (k + 1))
theorem enX_past (bs : List Int) (limit i : Nat) (X : List Int) : ∀ (m k : Nat), i < k → enX bs limit i X m k = enR bs limit m k
 | 0, _, _ => rfl
 | m + 1, k, h => by rw [enX, enR, if_neg (by omega), enX_past bs limit i X m (k + 1) (by omega)]
theorem enX_at (bs : List Int) (limit i : Nat) (X : List Int) : ∀ (d k m : Nat), k + d = i →
  enX bs limit i X (d + (m + 1)) k = enR bs limit d k ++ (hdb (ckE14 (pcB bs i) limit) ++ (X ++ enR bs limit m (i + 1)))
 | 0, k, m, h => by
  obtain rfl : k = i := by omega
  rw [Nat.zero_add, enX, if_pos rfl, enR, enX_past bs limit k X m (k + 1) (by omega)]; rfl
 | d + 1, k, m, h => by
  rw [show d + 1 + (m + 1) = (d + (m + 1)) + 1 by omega, enX, if_neg (by omega), enX_at bs limit i X d (k + 1) m (by omega), enR]
  simp only [List.append_assoc]
theorem enX_self (bs : List Int) (limit i : Nat) : ∀ (m k : Nat), enX bs limit i (pk14 (pcB bs i) limit).1 m k = enR bs limit m k
 | 0, _ => rfl
 | m + 1, k => by
  rw [enX, enR, enX_self bs limit i m (k + 1)]
  by_cases h : k = i
  ·subst h; rw [if_pos rfl]
  ·rw [if_neg h]
theorem ckR_get (bs : List Int) (limit : Nat) : ∀ (m k pos j : Nat), j < m → (ckR bs limit m k pos)[j]? = some (ckP (pcB bs (k + j)) limit (pos + (enR bs limit j k).length))
 | 0, _, _, j, h => by omega
 | m + 1, k, pos, 0, _ => by rw [ckR, List.getElem?_cons_zero, enR]; rfl
 | m + 1, k, pos, j + 1, h => by
  rw [ckR, List.getElem?_cons_succ, ckR_get bs limit m (k + 1) _ j (by omega), enR]
  rw [List.length_append, List.length_append, hdb_len, show k + 1 + j = k + (j + 1) by omega]
  congr 2
  omega
theorem lyg_turn {bs : List Int} (limit i : Nat) (X : List Int) (hb : Byt bs) (hX : X.length = (pk14 (pcB bs i) limit).1.length) (hc : crc ent 0 X ≠ crc ent 0 (pk14 (pcB bs i) limit).1) (E : List Int) : ∀ (m k pos : Nat), m = cnt (bs.length - 8192 * k) → E.drop pos = enX bs limit i X m k → pos ≤ E.length →
  lyg E m pos (bs.length - 8192 * k) = (ckR bs limit m k pos).map (fun c => (c, true)) ∧ (k ≤ i → i < k + m → ∀ out, tellA E (ckR bs limit m k pos) out = ([], 140))
 | 0, k, pos, hm, hE, hp => by
  have h0 : bs.length - 8192 * k = 0 := by unfold cnt at hm; omega
  have hl := congrArg List.length hE
  rw [List.length_drop, enX] at hl
  simp at hl
  exact ⟨by rw [lyg, if_neg (by omega)]; rfl, fun h1 h2 => by omega⟩
 | m + 1, k, pos, hm, hE, hp => by
  have hpos : 0 < bs.length - 8192 * k := by
   rcases Nat.eq_zero_or_pos (bs.length - 8192 * k) with h | h
   ·rw [h] at hm; exact absurd hm (by rw [cnt_zero]; omega)
   ·exact h
  have hpl : (pcB bs k).length = min (bs.length - 8192 * k) 8192 := by rw [pcB_len, Nat.min_comm]
  have hpb : Byt (pcB bs k) := fun x hx => hb x (List.mem_of_mem_drop (List.mem_of_mem_take hx))
  rw [enX] at hE
  obtain ⟨a1, a2, a3, a4, a5, a6⟩ := head_any14 hE (by by_cases q : k = i; subst q; rw [if_pos rfl]; exact hX; rw [if_neg q]) hpb (by omega) (by omega)
  have hm2 : m = cnt (bs.length - 8192 * (k + 1)) := by
   rw [cnt_pos hpos] at hm
   have : bs.length - 8192 * k - min (bs.length - 8192 * k) 8192 = bs.length - 8192 * (k + 1) := by omega
   rw [this] at hm; omega
  obtain ⟨b1, b2⟩ := lyg_turn limit i X hb hX hc E m (k + 1) _ hm2 a5 (by omega)
  have hst : (ckP (pcB bs k) limit pos).st.toNat = (pk14 (pcB bs k) limit).1.length := by unfold ckP ckE14; simp
  have hsz : bs.length - 8192 * k - min (bs.length - 8192 * k) 8192 = bs.length - 8192 * (k + 1) := by omega
  refine ⟨?_, fun h1 h2 out => ?_⟩
  ·rw [lyg, ← hpl, a1, if_pos rfl, hpl, hsz]
   simp only [hst]
   rw [b1, ckR, List.map_cons]
  ·rw [ckR, tellA]
   by_cases q : k = i
   ·subst q
    rw [if_pos rfl] at a4
    rw [chk_bad14 a2 a3 (by rw [a4]; exact hc), if_pos (by simp)]
   ·rw [if_neg q] at a4
    rw [chk_ok14 hpb (by omega) (by omega) a2 a3 a4, if_neg (by simp)]
    exact b2 (by omega) (by omega) _
/-- what lies ahead of the i-th chunk's bytes, and behind them -/
def ahd (bs : List Int) (limit i : Nat) : List Int := enR bs limit i 0 ++ hdb (ckE14 (pcB bs i) limit)
def bhd (bs : List Int) (limit i : Nat) : List Int := enR bs limit (cnt bs.length - i - 1) (i + 1)
theorem turn_facts {bs : List Int} (limit i : Nat) (hb : Byt bs) (hl : bs.length ≤ 16777216) (hi : i < cnt bs.length) :
  enM bs limit = ahd bs limit i ++ ((pk14 (pcB bs i) limit).1 ++ bhd bs limit i) ∧ Byt (ahd bs limit i) ∧ Byt (bhd bs limit i) ∧ Byt (pk14 (pcB bs i) limit).1 ∧ 1 ≤ (pk14 (pcB bs i) limit).1.length ∧ (pk14 (pcB bs i) limit).1.length ≤ 8192 ∧
  ∃ c, (ckR bs limit (cnt bs.length) 0 0)[i]? = some c ∧ c.at_ + 8 = ((ahd bs limit i).length : Int) ∧ c.st = ((pk14 (pcB bs i) limit).1.length : Int) ∧
  ∀ X : List Int, X.length = (pk14 (pcB bs i) limit).1.length → crc ent 0 X ≠ crc ent 0 (pk14 (pcB bs i) limit).1 →
   chk (ahd bs limit i ++ (X ++ bhd bs limit i)) c = ([], 140) ∧ dcd (ahd bs limit i ++ (X ++ bhd bs limit i)) 0 (enM bs limit).length bs.length = ([], 140) := by
 have hsplit : ∀ X, enX bs limit i X (cnt bs.length) 0 = ahd bs limit i ++ (X ++ bhd bs limit i) := fun X => by
  have := enX_at bs limit i X i 0 (cnt bs.length - i - 1) (by omega)
  rw [show i + (cnt bs.length - i - 1 + 1) = cnt bs.length by omega] at this
  rw [this]; unfold ahd bhd; simp only [List.append_assoc]
 have hE : enM bs limit = ahd bs limit i ++ ((pk14 (pcB bs i) limit).1 ++ bhd bs limit i) := by rw [← hsplit, enX_self, enM_enR]
 have hB := (en_back limit hb hl).1
 have hcl : 8192 * i < bs.length := by unfold cnt at hi; omega
 have hpb : Byt (pcB bs i) := fun x hx => hb x (List.mem_of_mem_drop (List.mem_of_mem_take hx))
 have hpl : (pcB bs i).length = min 8192 (bs.length - 8192 * i) := pcB_len
 obtain ⟨f1, f2, f3, f4, f5, f6⟩ := pk_facts limit hpb (by omega) (by omega)
 have hg := ckR_get bs limit _ 0 0 i hi
 rw [Nat.zero_add, Nat.zero_add] at hg
 rw [hE] at hB
 refine ⟨hE, fun x hx => hB x (List.mem_append_left _ hx), fun x hx => hB x (List.mem_append_right _ (List.mem_append_right _ hx)), f1, f2, f3, _, hg, ?_, rfl, ?_⟩
 ·have e : (ckP (pcB bs i) limit (enR bs limit i 0).length).at_ = (((enR bs limit i 0).length : Nat) : Int) := rfl
  rw [e]; unfold ahd; rw [List.length_append, hdb_len]; omega
 ·intro X hX hc
  have hdr : (ahd bs limit i ++ (X ++ bhd bs limit i)).drop (0 + (enR bs limit i 0).length) = hdb (ckE14 (pcB bs i) limit) ++ (X ++ bhd bs limit i) := by
   unfold ahd
   rw [Nat.zero_add, List.append_assoc, List.drop_append_of_le_length (Nat.le_refl _), List.drop_length]; rfl
  obtain ⟨a1, a2, a3, a4, a5, a6⟩ := head_any14 hdr hX hpb (by omega) (by omega)
  rw [Nat.zero_add] at a2 a3 a4
  have hck : chk (ahd bs limit i ++ (X ++ bhd bs limit i)) (ckP (pcB bs i) limit (enR bs limit i 0).length) = ([], 140) := chk_bad14 a2 a3 (by rw [a4]; exact hc)
  refine ⟨hck, ?_⟩
  have hlen : (ahd bs limit i ++ (X ++ bhd bs limit i)).length = (enM bs limit).length := by rw [hE]; simp only [List.length_append, hX]
  obtain ⟨b1, b2⟩ := lyg_turn limit i X hb hX hc (ahd bs limit i ++ (X ++ bhd bs limit i)) (cnt bs.length) 0 0 rfl (by rw [List.drop_zero, hsplit]) (Nat.zero_le _)
  rw [Nat.mul_zero, Nat.sub_zero] at b1
  have hcs : cks (ahd bs limit i ++ (X ++ bhd bs limit i)) 0 (enM bs limit).length bs.length = (ckR bs limit (cnt bs.length) 0 0, 0) := by
   unfold cks
   rw [if_neg (by rw [hlen]; omega)]
   have e : lygs (ahd bs limit i ++ (X ++ bhd bs limit i)) 0 ((enM bs limit).length : Int) (bs.length : Int) = (ckR bs limit (cnt bs.length) 0 0).map (fun c => (c, true)) := by
    unfold lygs
    rw [Int.toNat_natCast, Int.toNat_natCast, ← hlen, List.take_length]
    exact b1
   rw [e, if_pos (by simp), List.map_map]
   have e2 : ((fun x : Ck × Bool => x.1) ∘ fun c => (c, true)) = id := rfl
   rw [e2, List.map_id]
  rw [dcd_tell (by rw [hcs]), hcs]
  exact b2 (Nat.zero_le _) (by omega) []
theorem crc_ne14 {X r : List Int} (hx : Byt X) (hr : Byt r) (h : upd ent 4294967295 X ≠ upd ent 4294967295 r) : crc ent 0 X ≠ crc ent 0 r := by
 intro e
 have h1 := upd_lt ent_tab hx (c := 4294967295) (by decide)
 have h2 := upd_lt ent_tab hr (c := 4294967295) (by decide)
 unfold crc at e
 rw [show 4294967295 - 0 = 4294967295 from rfl] at e
 omega
/-- a row of bytes of the call's own, which may be written -/
structure Cst (w : World) (g n : Nat) (cs : List Int) : Prop where
 len : cs.length = n
 byt : Byt cs
 blk : ∃ cur : List Value, Blk w g cur ∧ cur.take n = bv cs
theorem Cst.cell {w : World} {g n : Nat} {cs : List Int} (h : Cst w g n cs) (k : Nat) (hk : k < n) : w.cell? ⟨g, k, none⟩ = some (.int .u8 (cs.getD k 0)) ∧ w.frozen? ⟨g, k, none⟩ = false := by
 obtain ⟨cur, hb, ht⟩ := h.blk
 refine ⟨?_, hb.frozen k⟩
 rw [hb.cell, ← bv_getElem? _ _ (by rw [h.len]; exact hk), ← ht, List.getElem?_take, if_pos hk]
theorem Cst.set {w : World} {g n : Nat} {cs : List Int} (h : Cst w g n cs) (k : Nat) (x : Int) (hx : 0 ≤ x ∧ x ≤ 255) : Cst (w.setCell ⟨g, k, none⟩ (.int .u8 x)) g n (cs.set k x) := by
 obtain ⟨cur, hb, ht⟩ := h.blk
 refine ⟨by rw [List.length_set]; exact h.len, ?_, _, hb.set k _, ?_⟩
 ·intro z hz
  rcases List.mem_or_eq_of_mem_set hz with h1 | h1
  ·exact h.byt z h1
  ·subst h1; exact hx
 ·rw [List.take_set, ht]; unfold bv; rw [List.map_set]
theorem Cst.row {w : World} {g n : Nat} {cs : List Int} (h : Cst w g n cs) (hn : n ≤ maxLen) : Row w (some ⟨g, 0, none⟩) n cs :=
 ⟨h.len, hn, h.byt, fun _ => ⟨g, 0, rfl, fun i hi => by rw [Nat.zero_add]; exact (h.cell i hi).1⟩⟩
theorem owns_cst {w : World} {base n c : Nat} {a : Option Addr} {bs : List Int} (h : w.ownsRow base 5 1 (.slice a n c) n (bv bs)) (hb : Byt bs) (h0 : 0 < n) : ∃ g, a = some ⟨g, 0, none⟩ ∧ base ≤ g ∧ g < w.heap.size ∧ Cst w g n bs := by
 obtain ⟨h1, h2⟩ := h
 rw [bv_length, Nat.mul_one] at h1
 rcases h2 with ⟨e, rfl⟩ | ⟨g, cap, cur, e, hbg, hg, hc, hm, hs, ht⟩
 ·omega
 ·injection e with e1 e2 e3
  refine ⟨g, e1, hbg, (Array.getElem?_eq_some_iff.1 hg).1, h1, hb, cur.toList, by simpa [Blk] using hg, ?_⟩
  rw [← ht, Nat.mul_one]

theorem halves_zero (k : Nat) : halves k 0 = 0 := by
 have := halves_mul k 0
 rwa [Nat.mul_zero] at this
theorem and_bit (t j : Nat) (ht : t < 4294967296) : bits .and .u32 ((t : Int) / 2 ^ j) 1 = ((t / 2 ^ j % 2 : Nat) : Int) := by
 have h := and1 (n := t / 2 ^ j) (Nat.lt_of_le_of_lt (Nat.div_le_self _ _) ht)
 rw [Int.natCast_ediv, Int.natCast_pow] at h
 exact h
theorem shl8 (j : Nat) (h : j < 8) : (2 : Nat) ^ j < 256 := Nat.pow_lt_pow_right (a := 2) (n := 8) (by decide) h
theorem flip8 {x : Int} (hx : 0 ≤ x ∧ x ≤ 255) {j : Nat} (h : j < 8) : bits .xor .u8 x ((2 : Int) ^ j % 256) = ((x.toNat ^^^ 2 ^ j : Nat) : Int) ∧ x.toNat ^^^ 2 ^ j < 256 := by
 obtain ⟨n, rfl⟩ := Int.eq_ofNat_of_zero_le hx.1
 have e : (2 : Int) ^ j % 256 = ((2 ^ j : Nat) : Int) := by
  have h1 := shl8 j h
  have h2 : (2 : Int) ^ j = ((2 ^ j : Nat) : Int) := by rw [Int.natCast_pow]; rfl
  rw [h2]
  generalize 2 ^ j = p at h1
  omega
 rw [e]
 exact ⟨xor8 (by omega) (shl8 j h), Nat.xor_lt_two_pow (n := 8) (by omega) (shl8 j h)⟩
theorem Cst.drew {w : World} {g n : Nat} {cs : List Int} (h : Cst w g n cs) : Cst w.drew g n cs := ⟨h.len, h.byt, h.blk⟩
theorem Cst.grown {w w' : World} {g n : Nat} {cs : List Int} (h : Cst w g n cs) (hg : w.grownBy w' none) : Cst w' g n cs := by
 obtain ⟨cur, hb, ht⟩ := h.blk
 exact ⟨h.len, h.byt, cur, hb.grown hg (by simp), ht⟩

theorem own_cap {w : World} {base n c : Nat} {a : Option Addr} {xs : List Value} (h : w.ownsRow base 5 1 (.slice a n c) n xs) : n ≤ c ∧ c ≤ maxLen := by
 rcases h.2 with ⟨e, _⟩ | ⟨g, cap, cur, e, _, _, h1, h2, _⟩
 ·injection e with _ e2 e3
  subst e2 e3
  exact ⟨Nat.le_refl _, Nat.zero_le _⟩
 ·injection e with _ _ e3
  subst e3
  exact ⟨h1, h2⟩
theorem ckStore {P : Program} {w : World} {ops : Array Oper} {rest : List Oper} {a : Act} {Q : Exit → Act → World → Prop} {dst : Option Nat} {x y : Operand} {type : TypeId} {pos : String} {after : Array Edge} {guard : Option (Nat × Bool)}
  (h : wpList P ops Q (⟨dst, .store 39 x y, type, pos, after, guard⟩ :: rest) a w) : wpList P ops Q (⟨dst, .store 39 x y, type, pos, after, guard⟩ :: rest) a w := h
theorem infoCk5 : (Try.prog.info? 39).map (·.size) = some 5 := by kernel_rfl
theorem stopHere14 {p : Prop} (h : Hid p) : p := h
/-- the stream's row while bits are turned, the chunk's variable -/
structure Mb14 (w W : World) (g N h : Nat) (c : Ck) (P cs Q : List Int) : Prop where
 row : Cst W g N (P ++ (cs ++ Q))
 box : Bx W h 39 c.cells
 gr : w.grownBy W none
 ne : g ≠ h
 hg : w.heap.size ≤ g
theorem Mb14.grown {w W W' : World} {g N h : Nat} {c : Ck} {P cs Q : List Int} (m : Mb14 w W g N h c P cs Q) (k : W.grownBy W' none) : Mb14 w W' g N h c P cs Q := ⟨m.row.grown k, m.box.kept k, grown_trans m.gr k, m.ne, m.hg⟩
theorem set_mid14 {P cs Q : List Int} {k : Nat} (h : k < cs.length) (x : Int) : (P ++ (cs ++ Q)).set (P.length + k) x = P ++ (cs.set k x ++ Q) := by
 rw [List.set_append_right _ _ (by omega), Nat.add_sub_cancel_left, List.set_append_left _ _ h]
theorem get_mid14 {P cs Q : List Int} {k : Nat} (h : k < cs.length) : (P ++ (cs ++ Q)).getD (P.length + k) 0 = cs.getD k 0 := by
 rw [List.getD_eq_getElem?_getD, List.getD_eq_getElem?_getD, List.getElem?_append_right (by omega), Nat.add_sub_cancel_left, List.getElem?_append_left h]
theorem Mb14.set {w W : World} {g N h : Nat} {c : Ck} {P cs Q : List Int} (m : Mb14 w W g N h c P cs Q) {k : Nat} (hk : k < cs.length) (x : Int) (hx : 0 ≤ x ∧ x ≤ 255) : Mb14 w (W.setCell ⟨g, P.length + k, none⟩ (.int .u8 x)) g N h c P (cs.set k x) Q := by
 have hs := m.row.set (P.length + k) x hx
 rw [set_mid14 hk] at hs
 have hg := grown_set W g (P.length + k) (.int .u8 x)
 exact ⟨hs, ⟨by rw [hg.block _ m.box.lt (by simp; exact Ne.symm m.ne)]; exact m.box.blk⟩, grown_new m.gr hg m.hg, m.ne, m.hg⟩
theorem Mb14.byt {w W : World} {g N h : Nat} {c : Ck} {P cs Q : List Int} (m : Mb14 w W g N h c P cs Q) : Byt cs := fun x hx => m.row.byt x (List.mem_append_right _ (List.mem_append_left _ hx))
set_option maxHeartbeats 40000000 in
theorem metaBursts_walk (a : Option Addr) (len cap : Nat) (zs : List Int) (limit : Int) (B8 A t : Nat) (w : World) (hz : IsRow .u8 w a len cap zs) (hn : 0 ≤ limit ∧ limit < 18446744073709551616) (hB8 : B8 ≤ 255) (hA : A ≤ 65535) (ht : t < 4294967296) :
  Calls Try.prog 8 #[.slice a len cap, .int .u64 limit, .int .u8 B8, .int .u16 A, .int .u32 t] w fun e w' => e = .returned (.bool true) ∧ Below w.heap.size w w' := by
 by_cases h1 : (40000 : Int) < (len : Int)
 ·clear hz
  go_enter Try.func8, Try.ntmps8
  go_wp2_with (first | (go_at_call 9; refine (live14_any _).mono ?_; rintro e wl ⟨rfl, gl⟩; have HF : Hid _ := grown_trans (World.grownBy.refl w none) gl; clear gl) | fail)
  go_ret
  exact ⟨rfl, grown_below HF.out⟩
 by_cases ht0 : t = 0
 ·subst ht0
  clear hz
  go_enter Try.func8, Try.ntmps8
  go_wp2_with (first | (go_at_call 9; refine (live14_any _).mono ?_; rintro e wl ⟨rfl, gl⟩; have HF : Hid _ := grown_trans (World.grownBy.refl w none) gl; clear gl) | fail)
  go_ret
  exact ⟨rfl, grown_below HF.out⟩
 have hte : ((t : Int) == 0) = false := by simp; omega
 have HT : Hid (t ≠ 0 ∧ t < 4294967296) := ⟨ht0, ht⟩
 obtain ⟨L, rfl⟩ := Int.eq_ofNat_of_zero_le hn.1
 have B := hz.byte
 generalize zs.take len = bs at B
 clear hz hn ht0 ht
 have hlen : len ≤ 40000 := by omega
 have hlb := B.row.len_eq
 have hfb := run_fb14 L
 obtain ⟨hEb, hEl, hck, _⟩ := en_back L B.row.byt (by omega)
 have hen := pencode14_any a len cap bs L w B (by omega)
 have hcn : cnt len ≤ 5 := by unfold cnt; omega
 have hrc := fun a' n c' W (B' : Byte W a' n c' (enM bs L)) (h : n ≤ 16777216) => rchunks14_any a' n c' (enM bs L) 0 ((enM bs L).length : Int) (len : Int) W B' h
 rw [hlb] at hEl hck
 rw [hck] at hrc
 have hE2 : (enM bs L).length ≤ 40240 := by omega
 have hcl := ckR_len bs L (cnt len) 0 0
 have HRC : Hid _ := hrc
 have HEB : Hid (Byt (enM bs L)) := hEb
 by_cases hl0 : len = 0
 ·subst hl0
  obtain rfl : bs = [] := List.eq_nil_of_length_eq_zero hlb
  have hcl0 : (ckR [] L (cnt 0) 0 0).length = 0 := hcl
  have HN : Hid ((enM [] L).length ≤ 40240) := hE2
  clear hrc hck hEb hEl hcl B hcn hE2 hlb
  generalize ckR [] L (cnt 0) 0 0 = cl at *
  generalize enM [] L = E at *
  go_enter Try.func8, Try.ntmps8
  go_wp2_with fail
  refine hen.mono ?_
  clear hen
  intro e w2 k2
  obtain ⟨g, rfl, b2, hgl, g2⟩ := k2
  have B2 := b2.byte14 HEB.out (by have := HN.out; unfold maxLen; omega)
  have hd := HRC.out _ _ _ w2 B2 (by have := HN.out; omega)
  have H2 : Hid _ := g2
  clear b2 g2 B2
  simp only
  go_wp2_with fail
  refine hd.mono ?_
  clear hd
  intro e w3 k3
  obtain ⟨a3, n3, c3, rfl, K3, nc3, g3⟩ := k3
  obtain rfl : n3 = 0 := by have := K3.len_eq; simp only at this; omega
  have H3 : Hid _ := grown_trans H2.out g3
  clear K3 g3 H2 HRC
  simp only
  go_wp2_with (first | (go_at_call 9; refine (live14_any _).mono ?_; rintro e wl ⟨rfl, gl⟩; have HF : Hid _ := grown_trans H3.out gl; clear gl) | fail)
  go_ret
  exact ⟨rfl, grown_below HF.out⟩
 ·have hc0 : 0 < cnt len := by unfold cnt; omega
  obtain ⟨q, hq⟩ : ∃ q, q = B8 % cnt len := ⟨_, rfl⟩
  have hqn : q < cnt len := by rw [hq]; exact Nat.mod_lt _ hc0
  obtain ⟨u1, u2, u3, u4, u5, u6, c, u7, u8, u9, u10⟩ := turn_facts L q B.row.byt (by omega) (by rw [hlb]; exact hqn)
  rw [hlb] at u7 u10
  have hdc := fun a' n c' W X (B' : Byte W a' n c' X) (h : n ≤ 16777216) => pdecode14_any a' n c' X 0 ((enM bs L).length : Int) (len : Int) W B' h (by omega)
  have hcok := cks_ok hEb (by omega) 0 ((enM bs L).length : Int) (len : Int)
  rw [hck] at hcok
  have hok : c.ok := hcok c (List.mem_of_getElem? u7)
  have HDC : Hid _ := hdc
  have hqi : Int.tmod ((B8 : Nat) : Int) ((cnt len : Nat) : Int) = ((q : Nat) : Int) := by rw [Int.tmod_eq_emod_of_nonneg (by omega)]; omega
  have hqj : ((B8 : Nat) : Int) % ((cnt len : Nat) : Int) = ((q : Nat) : Int) := by omega
  have hql : ((q : Nat) : Int) < ((cnt len : Nat) : Int) := by omega
  clear hrc hck hEb hEl hcn hdc hcok hq
  generalize ckR bs L (cnt len) 0 0 = cl at *
  have HTB : Hid (∀ X : List Int, X.length = (pk14 (pcB bs q) L).1.length → Byt X → upd ent 4294967295 X ≠ upd ent 4294967295 (pk14 (pcB bs q) L).1 → chk (ahd bs L q ++ (X ++ bhd bs L q)) c = ([], 140) ∧ dcd (ahd bs L q ++ (X ++ bhd bs L q)) 0 (enM bs L).length len = ([], 140)) := fun X h1 h2 h3 => u10 X h1 (crc_ne14 h2 u4 h3)
  have HU1 : Hid _ := u1
  have HPQ : Hid (Byt (ahd bs L q) ∧ Byt (bhd bs L q)) := ⟨u2, u3⟩
  have hP8 : 8 ≤ (ahd bs L q).length := by unfold ahd; rw [List.length_append, hdb_len]; omega
  clear u10 u2 u3
  generalize ahd bs L q = P at *
  generalize bhd bs L q = Q at *
  generalize (pk14 (pcB bs q) L).1 = r at *
  generalize hE : enM bs L = E at *
  clear hE
  have hNl : E.length = P.length + (r.length + Q.length) := by rw [HU1.out]; simp only [List.length_append]
  obtain ⟨ca, cp, cs_, ck_, cr_⟩ := c
  simp only at u8 u9
  obtain ⟨pa, rfl⟩ : ∃ pa : Nat, ca = (pa : Int) := ⟨ca.toNat, by omega⟩
  subst u9
  have HCO : Hid _ := hok
  have HN : Hid (E.length ≤ 40240 ∧ E.length = P.length + (r.length + Q.length) ∧ pa + 8 = P.length ∧ 1 ≤ r.length ∧ r.length ≤ 8192 ∧ len ≤ 40000 ∧ 0 < len) := ⟨hE2, hNl, by omega, u5, u6, hlen, by omega⟩
  have HCL : Hid (cl.length = cnt len ∧ cl[q]? = some ⟨(pa : Int), cp, (r.length : Int), ck_, cr_⟩) := ⟨hcl, u7⟩
  have HR4 : Hid (Byt r) := u4
  clear hok hE2 hNl u8 u5 u6 u1 u4 u7 hcl hl0 hlen B hlb
  generalize cnt len = nk at *
  go_enter Try.func8, Try.ntmps8
  go_wp2_with fail
  refine hen.mono ?_
  clear hen
  intro e w2 k2
  obtain ⟨g, rfl, b2, hgl, g2⟩ := k2
  have B2 := b2.byte14 HEB.out (by have := HN.out; unfold maxLen; omega)
  have hd := HRC.out _ _ _ w2 B2 (by have := HN.out; omega)
  have H2 : Hid (Cst w2 g E.length E ∧ w.grownBy w2 none ∧ w.heap.size ≤ g ∧ g < w2.heap.size) := ⟨⟨rfl, HEB.out, bv E, b2, by rw [List.take_of_length_le (by rw [bv_length]; omega)]⟩, g2, hgl, (Array.getElem?_eq_some_iff.1 b2).1⟩
  clear b2 g2 B2 hgl
  simp only
  go_wp2_with fail
  refine hd.mono ?_
  clear hd
  intro e w3 k3
  obtain ⟨a3, n3, c3, rfl, K3, nc3, g3⟩ := k3
  obtain rfl : nk = n3 := by have := K3.len_eq; simp only at this; have := HCL.out.1; omega
  obtain ⟨bb, oo, rfl, hcc⟩ := K3.cells hc0
  obtain ⟨y0, y1, y2, y3, y4⟩ := hcc q _ HCL.out.2
  simp only at y0 y1 y2 y3 y4
  have H3 : Hid (Cst w3 g E.length E ∧ w.grownBy w3 none ∧ w.heap.size ≤ g ∧ g < w3.heap.size) := ⟨H2.out.1.grown g3, grown_trans H2.out.2.1 g3, H2.out.2.2.1, Nat.lt_of_lt_of_le H2.out.2.2.2 g3.size⟩
  clear K3 g3 H2 HRC hcc
  have hE0 : ((E.length : Int) == 0) = false := by have := HN.out; rw [beq_eq_false_iff_ne]; omega
  have hn0 : ((nk : Int) == 0) = false := by rw [beq_eq_false_iff_ne]; omega
  have hn1 : ¬ ((nk : Nat) : Int) = 0 := by omega
  have HBN : Hid _ := Bx.new w3 39 [.int .i64 0, .int .i64 0, .int .i64 0, .bool false, .int .u32 0]
  simp only
  go_wp2_with (first | ((with_reducible refine ckStore ?_); refine wpList_storeB rfl 39 _ _ rfl w3.heap.size [.int .i64 (pa : Int), .int .i64 cp, .int .i64 (r.length : Int), .bool ck_, .int .u32 (cr_ : Int)] rfl rfl HBN.out infoCk5 rfl rfl ?_; intro W4 b4 g4; refine stopHere14 ?_) | fail)
  show wpList _ _ _ _ _ _
  have g34 : w3.grownBy W4 none := grown_new (World.grownBy_alloc w3 _ none) g4 (Nat.le_refl _)
  have HY0 : Hid (Mb14 w W4 g E.length w3.heap.size ⟨(pa : Int), cp, (r.length : Int), ck_, cr_⟩ P r Q) := ⟨by rw [← HU1.out]; exact H3.out.1.grown g34, b4, grown_trans H3.out.2.1 g34, by have := H3.out.2.2.2; omega, H3.out.2.2.1⟩
  clear g34 b4 g4 HBN H3 y0 y1 y2 y3 y4
  have HW : Hid _ := hqi
  clear hqi hqj hql hE0 hn0 hn1 hte
  generalize w3.heap.size = hb at *
  go_wp2_with fail
  go_loopw [16, 17] (fun i _ wr => ∃ (j : Nat) (cs : List Int), i = .int .i64 j ∧ j ≤ 32 ∧ Hid (Mb14 w wr g E.length hb ⟨(pa : Int), cp, (r.length : Int), ck_, cr_⟩ P cs Q ∧ cs.length = r.length ∧ upd ent 4294967295 cs = upd ent 4294967295 r ^^^ halves (8 * r.length - A) (t % 2 ^ j))) (fun i _ _ => 32 - (intOf i).toNat)
  case atStart => exact ⟨0, r, rfl, Nat.zero_le _, HY0.out, rfl, by rw [Nat.pow_zero, Nat.mod_one, halves_zero, Nat.xor_zero]⟩
  case round =>
   clear HY0
   obtain ⟨j, cs, rfl, hj, HY⟩ := hrel
   by_cases hlt : j < 32
   ·have hj1 : (j : Int) < 32 := by omega
    have hbit := and_bit t j HT.out.2
    by_cases hb1 : t / 2 ^ j % 2 = 0
    ·rw [hb1] at hbit
     have HY2 : Hid (Mb14 w wr g E.length hb ⟨(pa : Int), cp, (r.length : Int), ck_, cr_⟩ P cs Q ∧ cs.length = r.length ∧ upd ent 4294967295 cs = upd ent 4294967295 r ^^^ halves (8 * r.length - A) (t % 2 ^ (j + 1))) := by
      show _ ∧ _ ∧ _
      rw [mod_bit0 hb1]; exact HY.out
     clear hb1 HY
     go_wp2_with fail
     go_roundw
     case rel => exact ⟨j + 1, cs, by go_num, by omega, HY2⟩
     case measure => simp [intOf]; omega
    ·have hb2 : t / 2 ^ j % 2 = 1 := by omega
     rw [hb2] at hbit
     have d0 := HY.out.1.box.c 0
     have d2 := HY.out.1.box.c 2
     simp only [Ck.cells, List.getElem?_cons_zero, List.getElem?_cons_succ] at d0 d2
     have hw8 : IntKind.i64.wrap (8 * (r.length : Int)) = 8 * (r.length : Int) := by rw [IntKind.wrap_i64]; have := HN.out; omega
     by_cases ho : A + j < 8 * r.length
     ·have hoi : ¬ 8 * (r.length : Int) ≤ (A : Int) + j := by clear hw8; omega
      obtain ⟨k, hk⟩ : ∃ k : Nat, k = (A + j) / 8 := ⟨_, rfl⟩
      obtain ⟨m, hm⟩ : ∃ m : Nat, m = (A + j) % 8 := ⟨_, rfl⟩
      have hkI : ((A : Int) + j) / 8 = (k : Int) := by clear hw8; omega
      have hmI : ((A : Int) + j) % 8 = (m : Int) := by clear hw8; omega
      have hm8 : m < 8 := by clear hw8; omega
      have hkn : k < r.length := by clear hw8; omega
      have hkm : 8 * k + m = A + j := by clear hw8; omega
      have hkc : k < cs.length := by rw [HY.out.2.1]; exact hkn
      obtain ⟨hcell, hfr⟩ := HY.out.1.row.cell (P.length + k) (by have := HN.out; clear hw8; omega)
      rw [get_mid14 hkc] at hcell
      have hy := HY.out.1.byt.getD k
      obtain ⟨hfl, hfl2⟩ := flip8 hy hm8
      have hS := HY.out.1.set hkc (((cs.getD k 0).toNat ^^^ 2 ^ m : Nat) : Int) ⟨by clear hw8; omega, by clear hw8; omega⟩
      have hF := upd_flip 4294967295 m hm8 HY.out.1.byt k hkc
      have hU2 : upd ent 4294967295 (cs.set k (((cs.getD k 0).toNat ^^^ 2 ^ m : Nat) : Int)) = upd ent 4294967295 r ^^^ halves (8 * r.length - A) (t % 2 ^ (j + 1)) := by
       rw [hF, HY.out.2.1, halves_bit r.length A j k m hkn hm8 hkm, HY.out.2.2, mod_bit1 hb2, halves_xor, Nat.xor_assoc]
      have hLs : (cs.set k (((cs.getD k 0).toNat ^^^ 2 ^ m : Nat) : Int)).length = r.length := by rw [List.length_set]; exact HY.out.2.1
      have HNX : Hid _ := And.intro hS (And.intro hLs hU2)
      have hx1 : (pa : Int) + 8 + (k : Int) < (E.length : Int) := by have := HN.out; clear hw8; omega
      have hx2 : ((pa : Int) + 8 + (k : Int)).toNat = P.length + k := by have := HN.out; clear hw8; omega
      have hx3 : IntKind.i64.wrap ((pa : Int) + 8) = (pa : Int) + 8 := by rw [IntKind.wrap_i64]; have := HN.out; clear hw8; omega
      have hx4 : (0 : Int) ≤ (pa : Int) + 8 + (k : Int) := by clear hw8 hx3; omega
      have hx5 : IntKind.i64.wrap ((pa : Int) + 8 + (k : Int)) = (pa : Int) + 8 + (k : Int) := by rw [IntKind.wrap_i64]; have := HN.out; clear hw8 hx3; omega
      clear hS hU2 hLs hF HY hb1 hb2 ho hk hm hkm hkc
      generalize cs.set k (((cs.getD k 0).toNat ^^^ 2 ^ m : Nat) : Int) = cs2 at HNX
      generalize (cs.getD k 0).toNat ^^^ 2 ^ m = z2 at HNX hfl hfl2
      generalize cs.getD k 0 = z at hcell hy hfl
      go_wp2_with fail
      go_region
      go_wp2_with fail
      go_roundw
      case rel => exact ⟨j + 1, cs2, by go_num, by omega, HNX.out.1.grown ⟨rfl, rfl, rfl, Nat.le_refl _, fun _ _ _ => rfl⟩, HNX.out.2⟩
      case measure => simp [intOf]; omega
     ·have hoi : 8 * (r.length : Int) ≤ (A : Int) + j := by clear hw8; omega
      have HG : Hid _ := HY.out.1.gr
      clear HY hb1 hb2 ho
      go_wp2_with (first | (go_at_call 9; refine (live14_any _).mono ?_; rintro e wl ⟨rfl, gl⟩; have HF : Hid _ := grown_trans HG.out gl; clear gl) | fail)
      go_ret
      exact ⟨rfl, grown_below HF.out⟩
   ·obtain rfl : j = 32 := by omega
    have hbad := HTB.out cs HY.out.2.1 HY.out.1.byt (by
     intro e
     have h2 := HY.out.2.2
     rw [e, Nat.mod_eq_of_lt HT.out.2] at h2
     have h3 := halves_ne HT.out.2 HT.out.1 (8 * r.length - A)
     have h4 : upd ent 4294967295 r ^^^ upd ent 4294967295 r = upd ent 4294967295 r ^^^ (upd ent 4294967295 r ^^^ halves (8 * r.length - A) t) := congrArg _ h2
     rw [Nat.xor_self, ← Nat.xor_assoc, Nat.xor_self, Nat.zero_xor] at h4
     exact h3 h4.symm)
    have hBr : Byte wr (some ⟨g, 0, none⟩) E.length E.length (P ++ (cs ++ Q)) := ⟨HY.out.1.row.row (by have := HN.out; unfold maxLen; omega), (fun e => nomatch e), Nat.le_refl _, by have := HN.out; unfold maxLen; omega⟩
    have k9 := pchunk14_any _ E.length E.length (P ++ (cs ++ Q)) ⟨(pa : Int), cp, (r.length : Int), ck_, cr_⟩ wr hBr (by have := HN.out; omega) HCO.out
    have HDD : Hid (∀ W, wr.grownBy W none → Calls Try.prog 19 #[.slice (some ⟨g, 0, none⟩) E.length E.length, .int .i64 0, .int .i64 (E.length : Int), .int .i64 (len : Int)] W (UPostB W ([], 140))) := fun W k => by
     have := HDC.out _ E.length E.length W (P ++ (cs ++ Q)) (hBr.grown k) (by have := HN.out; omega)
     rw [hbad.2] at this
     exact this
    rw [hbad.1] at k9
    have HG : Hid _ := HY.out.1.gr
    have d0 := HY.out.1.box.c 0
    have d1 := HY.out.1.box.c 1
    have d2 := HY.out.1.box.c 2
    have d3 := HY.out.1.box.c 3
    have d4 := HY.out.1.box.c 4
    simp only [Ck.cells, List.getElem?_cons_zero, List.getElem?_cons_succ] at d0 d1 d2 d3 d4
    unfold Ck.val at k9
    simp only at k9
    clear HY hbad hBr
    go_wp2_with fail
    refine k9.mono ?_
    clear k9
    intro e w9 k
    obtain ⟨a9, n9, c9, rfl, B9, g9⟩ := k
    obtain rfl : n9 = 0 := by have := B9.row.len_eq; simpa using this.symm
    have k10 := HDD.out w9 g9
    have H9 : Hid _ := grown_trans HG.out g9
    clear B9 g9 HG d0 d1 d2 d3 d4
    simp only
    go_wp2_with fail
    refine k10.mono ?_
    clear k10
    intro e w10 k
    obtain ⟨a10, n10, c10, rfl, B10, g10, _⟩ := k
    obtain rfl : n10 = 0 := by have := B10.row.len_eq; simpa using this.symm
    have H10 : Hid _ := grown_trans H9.out g10
    clear B10 g10 H9
    simp only
    go_wp2_with (first | (go_at_call 14; (with_reducible refine (num14_any _ _).mono ?_); rintro e w' ⟨rfl, rfl⟩) | (go_at_call 9; refine (live14_any _).mono ?_; rintro e wl ⟨rfl, gl⟩; have HF : Hid _ := grown_trans H10.out gl; clear gl))
    go_ret
    exact ⟨rfl, grown_below HF.out⟩
end Go.Proofs.Ytkkigpobhagnfaa
namespace Go.Proofs.Ytkkigpobhagnfaa
theorem nat_u8 {x : Int} (h : (Lit.int .u8 x).wf = true) : ∃ n : Nat, x = n ∧ n ≤ 255 := by
 have h1 : 0 ≤ x ∧ x ≤ 255 := by
  simp [Lit.wf, IntKind.min, IntKind.max, IntKind.signed, IntKind.bits] at h
  omega
 obtain ⟨n, rfl⟩ := Int.eq_ofNat_of_zero_le h1.1
 exact ⟨n, rfl, by omega⟩
theorem nat_u16 {x : Int} (h : (Lit.int .u16 x).wf = true) : ∃ n : Nat, x = n ∧ n ≤ 65535 := by
 have h1 : 0 ≤ x ∧ x ≤ 65535 := by
  simp [Lit.wf, IntKind.min, IntKind.max, IntKind.signed, IntKind.bits] at h
  omega
 obtain ⟨n, rfl⟩ := Int.eq_ofNat_of_zero_le h1.1
 exact ⟨n, rfl, by omega⟩
theorem nat_u32 {x : Int} (h : (Lit.int .u32 x).wf = true) : ∃ n : Nat, x = n ∧ n < 4294967296 := by
 have h1 : 0 ≤ x ∧ x < 4294967296 := by
  simp [Lit.wf, IntKind.min, IntKind.max, IntKind.signed, IntKind.bits] at h
  omega
 obtain ⟨n, rfl⟩ := Int.eq_ofNat_of_zero_le h1.1
 exact ⟨n, rfl, by omega⟩
end Go.Proofs.Ytkkigpobhagnfaa
