/- Plain facts: a length that is told is read again; literals alone. Plain facts: copies that overlap; the block of sequences. Plain facts: what Join makes, Decode's rounds find again. Plain facts: what Join makes Cut tells as it was. How long a block may be; no block of sequences is longer. The document's Decode. The document's Same. -/
import Derived.Deep.Draws
import Derived.Deep.QuietTactic
import Derived.Test.YtkkigpobhagnfaaK02
namespace Go.Proofs.Ytkkigpobhagnfaa
open Go.RowKit
set_option maxRecDepth 100000
set_option linter.unusedSimpArgs false
set_option linter.unusedVariables false
theorem lnk_run (j : Nat) (m : Int) (r : List Int) (n p : Int) (hm : m ≠ 255) : lnk (List.replicate j 255 ++ m :: r) n p = (n + 255 * j + m, p + j + 1) := by
 induction j generalizing n p with
 | zero => simp [lnk, hm]
 | succ j ih =>
  rw [List.replicate_succ, List.cons_append, lnk, if_pos rfl, ih]
  ext <;> simp <;> omega
theorem lng_tol (pre post : List Int) (n : Int) (h : 0 ≤ n) : lng (pre ++ (tol n ++ post)) (fou n) pre.length = (n, ((pre.length + (tol n).length : Nat) : Int)) := by
 unfold lng fou
 by_cases h1 : n < 15
 ·have e : tol n = [] := by unfold tol; rw [if_pos h1]
  have e2 : (if 15 < n then (15 : Int) else n) = n := by split <;> omega
  rw [e2, if_pos h1, e]; simp
 ·have e15 : (if 15 < n then (15 : Int) else n) = 15 := by split <;> omega
  rw [e15, if_neg (by decide), List.drop_append_of_le_length (Nat.le_refl _), List.drop_length, List.nil_append]
  have el := tol_len (n := n) (by omega)
  rw [el]
  unfold tol
  rw [if_neg h1, List.append_assoc, List.singleton_append, lnk_run _ _ _ _ _ (by omega)]
  ext <;> simp <;> omega
theorem fou_in {n : Int} (h : 0 ≤ n) : 0 ≤ fou n ∧ fou n ≤ 15 := by unfold fou; split <;> omega

/-- any text told by literals alone -/
theorem dec_plain (b : List Int) (most : Int) (f : Nat) (hm : (b.length : Int) ≤ most) :
  dec (16 * fou b.length :: (tol b.length ++ b)) most (f + 1) [] [] 0 = (b, [(b, 0, 0)], 0, (((16 * fou b.length :: (tol b.length ++ b) : List Int).length : Nat) : Int)) := by
 have hl := lng_tol [16 * fou b.length] b b.length (by omega)
 have hf := fou_in (n := b.length) (by omega)
 have hd : dst (16 * fou b.length :: (tol b.length ++ b)) most 0 0 = .last (1 + (tol b.length).length) b.length := by
  unfold dst
  have e0 : (16 * fou b.length :: (tol b.length ++ b)).getD 0 0 / 16 = fou b.length := by simp
  have e1 : lng (16 * fou b.length :: (tol b.length ++ b)) (fou b.length) (0 + 1) = ((b.length : Int), ((1 + (tol b.length).length : Nat) : Int)) := by
   simpa using hl
  rw [e0, e1]
  rw [if_neg (by simp), if_neg (by simp only; omega), if_neg (by simp only; omega), if_neg (by simp; omega)]
  unfold dst.dst2
  simp only [Int.toNat_natCast]
  rw [if_pos (by simp; omega)]
 rw [dec]
 simp only [List.length_nil, hd]
 have e2 : (16 * fou b.length :: (tol b.length ++ b)).drop (1 + (tol b.length).length) = b := by
  rw [Nat.add_comm, List.drop_succ_cons, List.drop_append_of_le_length (Nat.le_refl _), List.drop_length, List.nil_append]
 rw [e2]
 simp
theorem getD_left (a b : List Int) (i : Nat) (h : i < a.length) : (a ++ b).getD i 0 = a.getD i 0 := by
 rw [List.getD_eq_getElem?_getD, List.getD_eq_getElem?_getD, List.getElem?_append_left h]
/-- a copy from nearer than it is long repeats what is there -/
theorem cpy_per (b : List Int) (hL : 0 < b.length) (n i : Nat) (h : i < b.length + n) : (cpy b.length n b).getD i 0 = b.getD (i % b.length) 0 := by
 induction n generalizing i with
 | zero => rw [cpy, Nat.mod_eq_of_lt (by omega)]
 | succ n ih =>
  have hl := cpy_len b.length n b
  rw [cpy_snoc]
  by_cases c : i < b.length + n
  ·rw [getD_left _ _ _ (by omega), ih i c]
  ·have e : i = b.length + n := by omega
   have e2 : (cpy b.length n b ++ [(cpy b.length n b).getD ((cpy b.length n b).length - b.length) 0]).getD i 0 = (cpy b.length n b).getD ((cpy b.length n b).length - b.length) 0 := by
    rw [List.getD_eq_getElem?_getD, List.getElem?_append_right (by omega), show i - (cpy b.length n b).length = 0 by omega]; rfl
   rw [e2, hl, show b.length + n - b.length = n by omega, ih n (by omega), e, Nat.add_mod_left]

/-- Join as a plain function: what is wrong with a sequence, in order; its bytes -/
def jerr (last : Bool) (size : Int) (q : Sq) : Int :=
 if (last = true ∧ (q.2.1 ≠ 0 ∨ q.2.2 ≠ 0)) ∨ (last = false ∧ (q.2.1 < 1 ∨ 65535 < q.2.1 ∨ q.2.2 < 4)) then 1
 else if size + q.1.length < q.2.1 then 9
 else if 1048576 - size < q.1.length ∨ 1048576 - size - q.1.length < q.2.2 then 2
 else 0
def jbytes (last : Bool) (q : Sq) : List Int :=
 if last then 16 * fou q.1.length :: (tol q.1.length ++ q.1)
 else (16 * fou q.1.length + fou (q.2.2 - 4)) :: (tol q.1.length ++ (q.1 ++ (q.2.1 % 256 :: q.2.1 / 256 :: tol (q.2.2 - 4))))
def jon : List Sq → Int → List Int → List Int × Int
 | [], _, b => (b, 0)
 | q :: r, size, b => if jerr r.isEmpty size q = 0 then jon r (size + q.1.length + q.2.2) (b ++ jbytes r.isEmpty q) else ([], jerr r.isEmpty size q)
def join (qs : List Sq) : List Int × Int := if qs.isEmpty then ([], 1) else jon qs 0 []
theorem getD_at (A C : List Int) (x : Int) : (A ++ x :: C).getD A.length 0 = x := by
 rw [List.getD_eq_getElem?_getD, List.getElem?_append_right (Nat.le_refl _), Nat.sub_self]; rfl
theorem getD_at' (A C : List Int) (x : Int) (i : Nat) (h : i = A.length) : (A ++ x :: C).getD i 0 = x := by subst h; exact getD_at A C x
theorem lng_tol' (bs pre post : List Int) (n t : Int) (i : Nat) (h : 0 ≤ n) (hb : bs = pre ++ (tol n ++ post)) (ht : t = fou n) (hi : i = pre.length) : lng bs t i = (n, ((pre.length + (tol n).length : Nat) : Int)) := by
 subst hb ht hi; exact lng_tol pre post n h
theorem dst_last (A lit : List Int) (ol : Nat) (M : Int) (h4 : ((ol + lit.length : Nat) : Int) ≤ M) :
  dst (A ++ jbytes true (lit, 0, 0)) M ol A.length = .last (A.length + 1 + (tol lit.length).length) lit.length := by
 have hf := fou_in (n := lit.length) (by omega)
 have ej : jbytes true (lit, 0, 0) = 16 * fou lit.length :: (tol lit.length ++ lit) := rfl
 rw [ej]
 generalize hbs : A ++ 16 * fou lit.length :: (tol lit.length ++ lit) = bs
 have hlen : bs.length = A.length + 1 + (tol lit.length).length + lit.length := by rw [← hbs]; simp; omega
 have hx : bs.getD A.length 0 = 16 * fou lit.length := by rw [← hbs]; exact getD_at _ _ _
 have hl := lng_tol' bs (A ++ [16 * fou lit.length]) lit lit.length (bs.getD A.length 0 / 16) (A.length + 1) (by omega) (by rw [← hbs]; simp) (by rw [hx]; omega) (by simp)
 unfold dst
 rw [if_neg (by omega), hl]
 simp only [List.length_append, List.length_singleton, Int.toNat_natCast]
 rw [if_neg (by omega), if_neg (by omega), if_neg (by omega)]
 unfold dst.dst2
 rw [if_pos (by omega)]
theorem dst_more (A C lit : List Int) (o m : Int) (ol : Nat) (M : Int) (hC : 0 < C.length) (h1 : 1 ≤ o ∧ o ≤ 65535) (h2 : 4 ≤ m) (h3 : o ≤ ((ol + lit.length : Nat) : Int)) (h4 : ((ol + lit.length : Nat) : Int) + m ≤ M) :
  dst (A ++ (jbytes false (lit, o, m) ++ C)) M ol A.length = .more (A.length + 1 + (tol lit.length).length) lit.length o.toNat m.toNat (A.length + (jbytes false (lit, o, m)).length) := by
 have hf := fou_in (n := lit.length) (by omega)
 have hg := fou_in (n := m - 4) (by omega)
 have ej : jbytes false (lit, o, m) = (16 * fou lit.length + fou (m - 4)) :: (tol lit.length ++ (lit ++ (o % 256 :: o / 256 :: tol (m - 4)))) := rfl
 rw [ej]
 generalize hT : 16 * fou lit.length + fou (m - 4) = T
 generalize hbs : A ++ (T :: (tol lit.length ++ (lit ++ (o % 256 :: o / 256 :: tol (m - 4)))) ++ C) = bs
 have hlen : bs.length = A.length + 1 + (tol lit.length).length + lit.length + 2 + (tol (m - 4)).length + C.length := by rw [← hbs]; simp; omega
 have hx : bs.getD A.length 0 = T := by rw [← hbs, List.cons_append]; exact getD_at _ _ _
 have hl := lng_tol' bs (A ++ [T]) (lit ++ (o % 256 :: o / 256 :: (tol (m - 4) ++ C))) lit.length (bs.getD A.length 0 / 16) (A.length + 1) (by omega) (by rw [← hbs]; simp) (by rw [hx]; omega) (by simp)
 have hl2 := lng_tol' bs (A ++ [T] ++ tol lit.length ++ lit ++ [o % 256, o / 256]) C (m - 4) (bs.getD A.length 0 % 16) (A.length + 1 + (tol lit.length).length + lit.length + 2) (by omega) (by rw [← hbs]; simp) (by rw [hx]; omega) (by simp; omega)
 have ho1 : bs.getD (A.length + 1 + (tol lit.length).length + lit.length) 0 = o % 256 := by
  rw [← hbs, show A ++ (T :: (tol lit.length ++ (lit ++ (o % 256 :: o / 256 :: tol (m - 4)))) ++ C) = (A ++ [T] ++ tol lit.length ++ lit) ++ o % 256 :: (o / 256 :: (tol (m - 4) ++ C)) by simp]
  exact getD_at' _ _ _ _ (by simp; omega)
 have ho2 : bs.getD (A.length + 1 + (tol lit.length).length + lit.length + 1) 0 = o / 256 := by
  rw [← hbs, show A ++ (T :: (tol lit.length ++ (lit ++ (o % 256 :: o / 256 :: tol (m - 4)))) ++ C) = (A ++ [T] ++ tol lit.length ++ lit ++ [o % 256]) ++ o / 256 :: (tol (m - 4) ++ C) by simp]
  exact getD_at' _ _ _ _ (by simp; omega)
 unfold dst
 rw [if_neg (by omega), hl]
 simp only [List.length_append, List.length_singleton, Int.toNat_natCast]
 rw [if_neg (by omega), if_neg (by omega), if_neg (by omega)]
 unfold dst.dst2
 rw [if_neg (by omega), if_neg (by omega), ho1, ho2, hl2, show o % 256 + 256 * (o / 256) = o by omega, if_neg (by omega)]
 simp only [List.length_append, List.length_singleton, List.length_cons, List.length_nil, Int.toNat_natCast]
 rw [if_neg (by omega), if_neg (by omega), show m - 4 + 4 = m by omega]
 congr 1
 omega
def jcat : List Sq → List Int
 | [] => []
 | q :: r => jbytes r.isEmpty q ++ jcat r
/-- what sequences unpack to -/
def unp : List Sq → List Int → List Int
 | [], out => out
 | q :: r, out => unp r (cpy q.2.1.toNat q.2.2.toNat (out ++ q.1))
def Jok : List Sq → Int → Prop
 | [], _ => True
 | q :: r, size => jerr r.isEmpty size q = 0 ∧ Jok r (size + q.1.length + q.2.2)
theorem jon_split (qs : List Sq) (size : Int) (b : List Int) : (jon qs size b = (b ++ jcat qs, 0) ∧ Jok qs size) ∨ ((jon qs size b).2 ≠ 0 ∧ (jon qs size b).1 = []) := by
 induction qs generalizing size b with
 | nil => left; simp [jon, jcat, Jok]
 | cons q r ih =>
  rw [jon]
  by_cases h : jerr r.isEmpty size q = 0
  ·rw [if_pos h]
   rcases ih (size + q.1.length + q.2.2) (b ++ jbytes r.isEmpty q) with ⟨e, k⟩ | k
   ·left; rw [e]; exact ⟨by simp [jcat], h, k⟩
   ·right; exact k
  ·rw [if_neg h]; right; exact ⟨h, rfl⟩
theorem jerr_last {size : Int} {q : Sq} (h : jerr true size q = 0) : q.2.1 = 0 ∧ q.2.2 = 0 ∧ size + q.1.length ≤ 1048576 := by
 unfold jerr at h
 split at h
 ·simp at h
 ·split at h
  ·simp at h
  ·split at h
   ·simp at h
   ·rename_i h1 h2 h3
    simp at h1
    omega
theorem jerr_more {size : Int} {q : Sq} (h : jerr false size q = 0) : 1 ≤ q.2.1 ∧ q.2.1 ≤ 65535 ∧ 4 ≤ q.2.2 ∧ q.2.1 ≤ size + q.1.length ∧ size + q.1.length + q.2.2 ≤ 1048576 := by
 unfold jerr at h
 split at h
 ·simp at h
 ·split at h
  ·simp at h
  ·split at h
   ·simp at h
   ·rename_i h1 h2 h3
    simp at h1
    omega
theorem jbytes_pos (l : Bool) (q : Sq) : 0 < (jbytes l q).length := by unfold jbytes; split <;> simp
theorem cut_lit (P lit C : List Int) (k : Nat) (h : k = P.length) : ((P ++ (lit ++ C)).drop k).take lit.length = lit := by
 subst h
 rw [List.drop_append_of_le_length (Nat.le_refl _), List.drop_length, List.nil_append, List.take_append_of_le_length (Nat.le_refl _), List.take_length]
theorem dec_join (qs : List Sq) (hne : qs ≠ []) (M : Int) (hM : 1048576 ≤ M) (A out : List Int) (sq : List Sq) (f : Nat) (hf : qs.length ≤ f) (hj : Jok qs out.length) :
  dec (A ++ jcat qs) M f out sq A.length = (unp qs out, sq ++ qs, 0, ((A ++ jcat qs).length : Int)) := by
 induction qs generalizing A out sq f with
 | nil => exact absurd rfl hne
 | cons q r ih =>
  obtain ⟨f, rfl⟩ : ∃ g, f = g + 1 := ⟨f - 1, by simp at hf; omega⟩
  obtain ⟨lit, o, m⟩ := q
  obtain ⟨h1, h2⟩ := hj
  cases r with
  | nil =>
   have hh := jerr_last h1
   simp only at hh
   obtain ⟨rfl, rfl, h3⟩ := hh
   have e : jcat [((lit, 0, 0) : Sq)] = jbytes true (lit, 0, 0) := by simp [jcat]
   rw [e]
   have hd := dst_last A lit out.length M (by omega)
   rw [dec, hd]
   simp only
   have e2 : ((A ++ jbytes true (lit, 0, 0)).drop (A.length + 1 + (tol lit.length).length)).take lit.length = lit := by
    have := cut_lit (A ++ [16 * fou lit.length] ++ tol lit.length) lit [] (A.length + 1 + (tol lit.length).length) (by simp; omega)
    simpa [jbytes] using this
   rw [e2]
   rfl
  | cons q2 r2 =>
   have hh := jerr_more h1
   simp only at hh
   obtain ⟨a1, a2, a3, a4, a5⟩ := hh
   have e : jcat ((lit, o, m) :: q2 :: r2) = jbytes false (lit, o, m) ++ jcat (q2 :: r2) := rfl
   have hC : 0 < (jcat (q2 :: r2)).length := by
    have := jbytes_pos r2.isEmpty q2
    simp only [jcat, List.length_append]; omega
   rw [e]
   have hd := dst_more A (jcat (q2 :: r2)) lit o m out.length M hC ⟨a1, a2⟩ a3 (by omega) (by omega)
   rw [dec, hd]
   simp only
   have e2 : ((A ++ (jbytes false (lit, o, m) ++ jcat (q2 :: r2))).drop (A.length + 1 + (tol lit.length).length)).take lit.length = lit := by
    have := cut_lit (A ++ [16 * fou lit.length + fou (m - 4)] ++ tol lit.length) lit (o % 256 :: o / 256 :: (tol (m - 4) ++ jcat (q2 :: r2))) (A.length + 1 + (tol lit.length).length) (by simp; omega)
    simpa [jbytes] using this
   rw [e2, Int.toNat_of_nonneg (by omega), Int.toNat_of_nonneg (by omega)]
   have hlen : ((cpy o.toNat m.toNat (out ++ lit)).length : Int) = (out.length : Int) + lit.length + m := by
    rw [cpy_len, List.length_append]; omega
   have hx := ih (by simp) (A ++ jbytes false (lit, o, m)) (cpy o.toNat m.toNat (out ++ lit)) (sq ++ [(lit, o, m)]) f (by simp at hf ⊢; omega) (by rw [hlen]; exact h2)
   rw [unp]
   simp only [List.append_assoc, List.length_append] at hx ⊢
   simpa using hx
theorem jcat_len (qs : List Sq) : qs.length ≤ (jcat qs).length := by
 induction qs with
 | nil => exact Nat.le_refl _
 | cons q r ih =>
  have := jbytes_pos r.isEmpty q
  simp only [jcat, List.length_append, List.length_cons]; omega
theorem tol_byt' (n : Int) : Byt (tol n) := tol_byt n
/-- what Join makes, Decode unpacks and Cut tells as it was -/
theorem dec_of_join (qs : List Sq) (hne : qs ≠ []) (hj : Jok qs 0) (M : Int) (hM : 1048576 ≤ M) :
  dec (jcat qs) M ((jcat qs).length + 1) [] [] 0 = (unp qs [], qs, 0, ((jcat qs).length : Int)) := by
 have h := dec_join qs hne M hM [] [] [] ((jcat qs).length + 1) (by have := jcat_len qs; omega) hj
 simpa using h
/-- Bound, as a plain function -/
def bnd (n : Int) : Int := if n < 0 ∨ 1048576 < n then 0 else n + 1 + (tol n).length
theorem tol_big {n : Int} (h : 15 ≤ n) : ((tol n).length : Int) = (n - 15) / 255 + 1 := by
 rw [tol_len h]; omega
theorem tol_none {n : Int} (h : n < 15) : (tol n).length = 0 := by
 unfold tol; rw [if_pos h]; rfl

/-- what sequences unpack to, how long -/
def tot : List Sq → Int
 | [] => 0
 | q :: r => q.1.length + q.2.2 + tot r
theorem unp_len (qs : List Sq) (size : Int) (out : List Int) (h0 : 0 ≤ size) (h : Jok qs size) : ((unp qs out).length : Int) = out.length + tot qs ∧ 0 ≤ tot qs := by
 induction qs generalizing size out with
 | nil => simp [unp, tot]
 | cons q r ih =>
  obtain ⟨h1, h2⟩ := h
  have hm : 0 ≤ q.2.2 ∧ 0 ≤ size + q.1.length + q.2.2 := by
   generalize r.isEmpty = l at h1
   cases l with
   | true => have := jerr_last h1; omega
   | false => have := jerr_more h1; omega
  have := ih (size + q.1.length + q.2.2) (cpy q.2.1.toNat q.2.2.toNat (out ++ q.1)) hm.2 h2
  rw [unp, tot]
  rw [cpy_len, List.length_append] at this
  omega
theorem tol_sum (n m T : Int) (hn : 0 ≤ n) (hm : 4 ≤ m) (hT : 0 ≤ T) : (3 : Int) + (tol n).length + (tol (m - 4)).length + (tol T).length ≤ m + (tol (n + m + T)).length := by
 by_cases a : n < 15 <;> by_cases b : m - 4 < 15 <;> by_cases c : T < 15 <;> by_cases d : n + m + T < 15
 all_goals
  first | rw [tol_none a] | rw [tol_big (by omega)]
  first | rw [tol_none b] | rw [tol_big (by omega)]
  first | rw [tol_none c] | rw [tol_big (by omega)]
  first | rw [tol_none d] | rw [tol_big (by omega)]
  omega
/-- no block of sequences is longer than its text told by literals alone -/
theorem jcat_tot (qs : List Sq) (size : Int) (hne : qs ≠ []) (h0 : 0 ≤ size) (h : Jok qs size) : ((jcat qs).length : Int) ≤ 1 + tot qs + (tol (tot qs)).length := by
 induction qs generalizing size with
 | nil => exact absurd rfl hne
 | cons q r ih =>
  obtain ⟨h1, h2⟩ := h
  cases r with
  | nil =>
   have hl := jerr_last h1
   simp only [jcat, tot, List.isEmpty_nil, List.append_nil]
   have e : (jbytes true q).length = 1 + (tol q.1.length).length + q.1.length := by unfold jbytes; simp; omega
   rw [e, hl.2.1]
   simp only [Int.add_zero]
   omega
  | cons q2 r2 =>
   have hl := jerr_more h1
   have hi := ih (size + q.1.length + q.2.2) (by simp) (by omega) h2
   have hT := (unp_len (q2 :: r2) _ [] (by omega) h2).2
   have e : (jbytes false q).length = 3 + (tol q.1.length).length + q.1.length + (tol (q.2.2 - 4)).length := by unfold jbytes; simp; omega
   have ej : (jcat (q :: q2 :: r2)).length = (jbytes false q).length + (jcat (q2 :: r2)).length := by rw [jcat]; simp
   have hk := tol_sum q.1.length q.2.2 (tot (q2 :: r2)) (by omega) hl.2.2.1 hT
   rw [ej, e, show tot (q :: q2 :: r2) = q.1.length + q.2.2 + tot (q2 :: r2) from rfl]
   omega
theorem jcat_bnd {qs : List Sq} (hne : qs ≠ []) (h : Jok qs 0) (hl : (unp qs []).length ≤ 1048576) : ((jcat qs).length : Int) ≤ bnd (unp qs []).length := by
 have h1 := jcat_tot qs 0 hne (Int.le_refl 0) h
 have h2 := unp_len qs 0 [] (Int.le_refl 0) h
 have e : ((unp qs []).length : Int) = tot qs := by rw [h2.1]; simp
 unfold bnd
 rw [if_neg (by omega), e]
 omega
def DecPost (w : World) (r : List Int × List Sq × Int × Int) (e : Ending) (w' : World) : Prop :=
 ∃ vo vl ss, e = .returned (.tuple #[vo, vl, .int .i64 r.2.2.1, .int .i64 r.2.2.2]) ∧ St w w' vo vl r.1 ss r.2.1
theorem dec_bad (w wr : World) (er q : Int) (h : w.grownBy wr none) : DecPost w ([], [], er, q) (.returned (.tuple #[.slice none 0 0, .slice none 0 0, .int .i64 er, .int .i64 q])) wr :=
 ⟨_, _, [], rfl, World.ownsRow_nil _ _ _ _, World.ownsRow_nil _ _ _ _, h, fun x hx => by simp at hx, .nil⟩
theorem dec_succ_bad {bs : List Int} {most : Int} {f : Nat} {out : List Int} {sq : List Sq} {p : Nat} {e q : Int} (h : dst bs most out.length p = .bad e q) : dec bs most (f + 1) out sq p = ([], [], e, q) := by
 rw [dec, h]
/-- the first length's four bits -/
theorem tok_hi {x : Int} (h : 0 ≤ x ∧ x ≤ 255) : 0 ≤ x / 16 ∧ x / 16 ≤ 15 := by omega
theorem Try.infoSeq : (Try.prog.info? 116).map (fun i => (i.zero, i.size, i.bytes)) = some (some (.agg #[.slice none 0 0, .int .i64 0, .int .i64 0]), 3, 40) := by kernel_rfl
theorem cell_three (w : World) (t : TypeId) (a b c : Value) (j : Nat) (u : Value) (h : ([a, b, c])[j]? = some u) : (w.alloc (.cells #[a, b, c] t)).cell? ((⟨w.heap.size, 0, none⟩ : Addr).add j) = some u := by
 match j, h with
 | 0, h => simp at h; subst h; simp [Addr.add]
 | 1, h => simp at h; subst h; simp [Addr.add]
 | 2, h => simp at h; subst h; simp [Addr.add]
 | j + 3, h => simp at h
theorem sq_one (s : SqV) : ∀ u ∈ s.cells, u.oneCell' = true := by
 intro u hu
 simp [SqV.cells] at hu
 rcases hu with rfl | rfl | rfl <;> rfl
theorem Box.c3 {W : World} {g : Nat} {T : TypeId} {a b c : Value} (h : Box W g T [a, b, c]) : W.cell? ⟨g, 0, none⟩ = some a ∧ W.cell? ⟨g, 1, none⟩ = some b ∧ W.cell? ⟨g, 2, none⟩ = some c := ⟨h.c 0, h.c 1, h.c 2⟩
theorem dec_succ_last {bs : List Int} {most : Int} {f : Nat} {out : List Int} {sq : List Sq} {p k n : Nat} (h : dst bs most out.length p = .last k n) : dec bs most (f + 1) out sq p = (out ++ (bs.drop k).take n, sq ++ [((bs.drop k).take n, 0, 0)], 0, (bs.length : Int)) := by
 rw [dec, h]
theorem dec_succ_more {bs : List Int} {most : Int} {f : Nat} {out : List Int} {sq : List Sq} {p k n o m q : Nat} (h : dst bs most out.length p = .more k n o m q) : dec bs most (f + 1) out sq p = dec bs most f (cpy o m (out ++ (bs.drop k).take n)) (sq ++ [((bs.drop k).take n, (o : Int), (m : Int))]) q := by
 rw [dec, h]
theorem tok_lo {x : Int} (h : 0 ≤ x ∧ x ≤ 255) : 0 ≤ x % 16 ∧ x % 16 ≤ 15 := by omega

set_option maxRecDepth 4000 in
set_option maxHeartbeats 2000000 in
theorem decode_any (a : Option Addr) (len cap : Nat) (bs : List Int) (most : Int) (w : World) (R : Row w a len bs) (hl : len ≤ 16777216) (hc : len ≤ cap) (hcm : cap ≤ 9223372036854775807) (hm : 0 ≤ most ∧ most ≤ 1048576) :
  Calls Try.prog 51 #[.slice a len cap, .int .i64 most] w (DecPost w (dec bs most (len + 1) [] [] 0)) := by
 obtain ⟨i5, hi, hz0, hz1, hz2⟩ := info_parts Try.info5
 obtain ⟨i6, hi6, hy0, hy1, hy2⟩ := info_parts Try.infoSeq
 have hlb := R.len_eq
 generalize hres : dec bs most (len + 1) [] [] 0 = res
 go_enter Try.func51, Try.ntmps51
 go_wp2
 go_loopw [8, 9, 10] (fun vo vl vp wr => ∃ (p f : Nat) (out : List Int) (sq : List Sq) (ss : List SqV), vp = .int .i64 p ∧ p ≤ len ∧ ss.length ≤ p ∧ len ≤ f + p ∧ (out.length : Int) ≤ most ∧ Hid (St w wr vo vl out ss sq) ∧ Hid (dec bs most (f + 1) out sq p = res)) (fun _ _ vp _ => len + 1 - (intOf vp).toNat)
 case atStart => exact ⟨0, len, [], [], [], rfl, Nat.zero_le _, Nat.le_refl _, Nat.le_refl _, hm.1, ⟨World.ownsRow_nil _ _ _ _, World.ownsRow_nil _ _ _ _, World.grownBy.refl _ _, fun x hx => by simp at hx, .nil⟩, hres⟩
 case round =>
  clear hres
  obtain ⟨p, f, out, sq, ss, rfl, hp, hss, hf, ho, HS, HD⟩ := hrel
  by_cases k1 : p < len
  ·obtain ⟨b, off, rfl, hcl⟩ := (R.grown HS.out.g).cells (by omega)
   have ca := hcl p k1
   have hx := R.byt.getD p
   have hlen := length_any (some ⟨b, off, none⟩) len cap bs (bs.getD p 0 / 16) (p + 1) wr (R.grown HS.out.g) hl (tok_hi hx) (by omega)
   rw [show ((p + 1 : Nat) : Int) = (p : Int) + 1 by omega] at hlen
   have hq := lng_in (n := bs.getD p 0 / 16) (p := p + 1) R.byt (tok_hi hx) (by omega)
   obtain ⟨oa, oc, rfl, oo1, oo2, oo3⟩ := owns_form HS.out.oo
   have HC : Hid _ := hcl
   clear hcl
   have hdst : dst bs most out.length p = (if (lng bs (bs.getD p 0 / 16) (p + 1)).1 < 0 then .bad 6 bs.length
    else if most - out.length < (lng bs (bs.getD p 0 / 16) (p + 1)).1 then .bad 2 p
    else if (bs.length : Int) - (lng bs (bs.getD p 0 / 16) (p + 1)).2 < (lng bs (bs.getD p 0 / 16) (p + 1)).1 then .bad 6 bs.length
    else dst.dst2 bs most out.length p (lng bs (bs.getD p 0 / 16) (p + 1)).2.toNat (lng bs (bs.getD p 0 / 16) (p + 1)).1.toNat) := by
    conv => lhs; unfold dst
    rw [if_neg (by omega)]
   rw [hlb] at hdst
   generalize lng bs (bs.getD p 0 / 16) (p + 1) = q at hlen hq hdst
   obtain ⟨q1, q2⟩ := q
   simp only at hlen hq hdst
   have HQ : Hid _ := hdst
   have HX : Hid _ := hx
   clear hdst
   generalize hxe : bs.getD p 0 = x at ca hx hlen
   have HXE : Hid _ := hxe
   clear hxe
   go_wp2_with fail
   refine hlen.mono ?_
   rintro e w' ⟨rfl, rfl⟩
   clear hlen
   by_cases k2 : q1 < 0
   ·have e := HQ.out
    rw [if_pos k2] at e
    have hd := HD.out
    rw [dec_succ_bad e] at hd
    subst hd
    have hg := HS.out.g
    clear HS HD HQ e
    go_wp2
    try simp only [Exit.inBlock, Exit.then]
    refine bodyPost_ret (results_tmp4 rfl _ _ _) rfl ?_
    exact dec_bad _ _ _ _ hg
   ·by_cases k3 : most - out.length < q1
    ·have e := HQ.out
     rw [if_neg k2, if_pos k3] at e
     have hd := HD.out
     rw [dec_succ_bad e] at hd
     subst hd
     have hg := HS.out.g
     clear HS HD HQ e
     go_wp2
     try simp only [Exit.inBlock, Exit.then]
     refine bodyPost_ret (results_tmp4 rfl _ _ _) rfl ?_
     exact dec_bad _ _ _ _ hg
    ·by_cases k4 : (len : Int) - q2 < q1
     ·have e := HQ.out
      rw [if_neg k2, if_neg k3, if_pos k4] at e
      have hd := HD.out
      rw [dec_succ_bad e] at hd
      subst hd
      have hg := HS.out.g
      clear HS HD HQ e
      go_wp2
      try simp only [Exit.inBlock, Exit.then]
      refine bodyPost_ret (results_tmp4 rfl _ _ _) rfl ?_
      exact dec_bad _ _ _ _ hg
     ·have hq' : 0 ≤ q1 ∧ p + 1 ≤ q2 ∧ q2 + q1 ≤ len := by omega
      clear hq
      obtain ⟨n, rfl⟩ := Int.eq_ofNat_of_zero_le (by omega : 0 ≤ q1)
      obtain ⟨k, rfl⟩ := Int.eq_ofNat_of_zero_le (by omega : 0 ≤ q2)
      have e := HQ.out
      rw [if_neg k2, if_neg k3, if_neg k4, Int.toNat_natCast, Int.toNat_natCast] at e
      have HE : Hid _ := e
      clear HQ e
      have k5 : p + 1 ≤ k := by omega
      have k6 : k + n ≤ len := by omega
      have k7 : (out.length : Int) + n ≤ most := by omega
      clear k2 k3 k4 hq'
      go_wp2_with (refine slice_here ?_; refine wpList_cut8 rfl _ _ _ 22 rfl Try.underlying22 i5 hi hz1 b off len cap k n _ _ rfl rfl rfl (by go_num) (by go_num) (by omega) ?_)
      intro o' ho'
      have RL := R.piece k n o' k6 ho'
      have M0 := HS.out.mi [.slice (some ⟨b, o', none⟩) n (cap - k), .int .i64 0, .int .i64 0]
      have RW := (RL.grown HS.out.g).grown (World.grownBy_alloc w' (.cells #[.slice (some ⟨b, o', none⟩) n (cap - k), .int .i64 0, .int .i64 0] 116) none)
      have HL : Hid _ := RL
      have HM : Hid _ := M0
      have ho1 := M0.st.oo
      have hsz := M0.st.g.size
      clear M0 RL ho' HS
      go_wp2_with (at_builtin; refine wpList_append8 rfl _ _ 22 rfl w.heap.size i5 Try.underlying22 hi hz0 hz1 hz2 _ out.length (bv out) rfl ho1 _ n _ _ rfl RW (fun e => by cases e) (by omega) hsz ?_)
      intro v1 w1 o1 g1
      have hll : ((bs.drop k).take n).length = n := by simp; omega
      have M1 := HM.out.out o1 ((R.byt.drop k).take n) hll g1
      obtain ⟨a1, c1, rfl, f1, f2, f3⟩ := owns_form o1
      have HLL : Hid _ := hll
      clear HM o1 g1 ho1 hsz RW hll ca oo1 oo2 oo3
      generalize w'.heap.size = g0 at M1 ⊢
      by_cases k8 : k + n = len
      ·have e := HE.out
       unfold dst.dst2 at e
       rw [if_pos (by omega)] at e
       have hd := HD.out
       rw [dec_succ_last e] at hd
       have hol := M1.st.ol.alloc (.cells #[.slice (some ⟨b, o', none⟩) n (cap - k), .int .i64 0, .int .i64 0] 116)
       have hsz := (M1.alloc (.cells #[.slice (some ⟨b, o', none⟩) n (cap - k), .int .i64 0, .int .i64 0] 116)).st.g.size
       obtain ⟨b0, b1, b2⟩ := M1.bx.c3
       have HM : Hid _ := M1
       have HD2 : Hid _ := hd
       have hb1 : (ss.length + 1) * 40 ≤ 140737488355328 := by omega
       have hb2 : ss.length + 1 ≤ maxLen := by unfold maxLen; omega
       clear M1 HE HD e hd
       go_wp2_with (at_builtin; (refine wpList_append_own _ rfl _ _ 96 rfl w.heap.size 116 i6 _ 3 40 Try.underlying96 hi6 hy0 hy1 hy2 rfl (by decide) _ ss.length (sqv ss) rfl hol ⟨w1.heap.size, 0, none⟩ 1 1 (SqV.cells ⟨some ⟨b, o', none⟩, n, cap - k, 0, 0⟩) rfl rfl (cell_three _ _ _ _ _) (sq_one _) hb2 hb1 hsz ?_))
       intro v2 w2 o2 g2 _
       have hok : SqOk w ⟨some ⟨b, o', none⟩, n, cap - k, 0, 0⟩ ((bs.drop k).take n, 0, 0) := ⟨HL.out, rfl, rfl, (fun e => by cases e), (by show n ≤ cap - k; omega), (by show cap - k ≤ maxLen; unfold maxLen; omega)⟩
       have S2 := (HM.out.alloc _).st.seq o2 hok g2
       have HS : Hid _ := S2
       clear S2 hok o2 g2 HM hol hsz b0 b1 b2 hb1 hb2
       go_wp2
       try simp only [Exit.inBlock, Exit.then]
       refine bodyPost_ret (results_tmp4 rfl _ _ _) rfl ?_
       rw [← HD2.out]
       exact ⟨_, _, _, by rw [hlb]; rfl, HS.out⟩
      ·by_cases k9 : k + n + 1 = len
       ·have e := HE.out
        unfold dst.dst2 at e
        rw [if_neg (by omega), if_pos (by omega), hlb] at e
        have hd := HD.out
        rw [dec_succ_bad e] at hd
        subst hd
        have hg := M1.st.g
        clear M1 HE HD e
        go_wp2
        try simp only [Exit.inBlock, Exit.then]
        refine bodyPost_ret (results_tmp4 rfl _ _ _) rfl ?_
        exact dec_bad _ _ _ _ hg
       ·have RW := R.grown M1.st.g
        obtain ⟨b', off', e, hcl⟩ := RW.cells (by omega)
        injection e with e
        injection e with e1 e2
        subst e1 e2
        have k10 : k + n + 1 < len := by omega
        have ca := hcl (k + n) (by omega)
        have cb := hcl (k + n + 1) (by omega)
        have hxa := R.byt.getD (k + n)
        have hxb := R.byt.getD (k + n + 1)
        have ct := hcl p k1
        rw [HXE.out] at ct
        obtain ⟨b0, b1, b2⟩ := M1.bx.c3
        have fr := M1.bx.f 1
        have HM : Hid _ := M1
        clear hcl RW M1
        go_wp2_with fail
        obtain ⟨r, hr⟩ : ∃ r : Nat, r = k + n := ⟨_, rfl⟩
        rw [show (k : Int) + n = (r : Int) by omega]
        rw [← hr] at ca cb hxa hxb k10
        have HR : Hid _ := hr
        clear hr k8 k9
        generalize hya : bs.getD r 0 = ya at ca hxa
        generalize hyb : bs.getD (r + 1) 0 = yb at cb hxb
        have HYA : Hid _ := hya
        have HYB : Hid _ := hyb
        clear hya hyb
        go_region
        have M2 := (HM.out.set 1 (.int .i64 (ya + 256 * yb))).drew
        simp only [List.set_cons_succ, List.set_cons_zero] at M2
        clear HM b0 b1 b2 fr ca cb ct
        generalize (w1.setCell ⟨g0, 1, none⟩ (.int .i64 (ya + 256 * yb))).drew = w2 at M2 ⊢
        obtain ⟨y, hy⟩ := Int.eq_ofNat_of_zero_le (by omega : 0 ≤ ya + 256 * yb)
        rw [hy] at M2
        have hyy : y ≤ 65535 := by omega
        have e3 := HE.out
        unfold dst.dst2 at e3
        rw [if_neg (by have := HR.out; omega), if_neg (by have := HR.out; omega), ← HR.out, HYA.out, HYB.out, hy, hlb] at e3
        have HE2 : Hid _ := e3
        clear e3 HE hy HYA HYB
        obtain ⟨b0, b1, b2⟩ := M2.bx.c3
        have hg := M2.st.g
        by_cases z1 : y = 0
        ·subst z1
         have e3 := HE2.out
         rw [if_pos (by omega)] at e3
         have hd := HD.out
         rw [dec_succ_bad e3] at hd
         subst hd
         clear M2 HE2 HD e3
         go_wp2
         try simp only [Exit.inBlock, Exit.then]
         refine bodyPost_ret (results_tmp4 rfl _ _ _) rfl ?_
         exact dec_bad _ _ _ _ hg
        ·by_cases z2 : ((out.length + n : Nat) : Int) < y
         ·have e3 := HE2.out
          rw [if_pos (Or.inr z2)] at e3
          have hd := HD.out
          rw [dec_succ_bad e3] at hd
          subst hd
          clear M2 HE2 HD e3
          go_wp2
          try simp only [Exit.inBlock, Exit.then]
          refine bodyPost_ret (results_tmp4 rfl _ _ _) rfl ?_
          exact dec_bad _ _ _ _ hg
         ·have e3 := HE2.out
          rw [if_neg (by omega)] at e3
          have RW := R.grown hg
          have hlen := length_any (some ⟨b, off, none⟩) len cap bs (x % 16) (r + 2) w2 RW hl (tok_lo hx) (by omega)
          have hq := lng_in (n := x % 16) (p := r + 2) R.byt (tok_lo hx) (by omega)
          rw [show ((r + 2 : Nat) : Int) = (r : Int) + 2 by omega] at hlen
          rw [HXE.out] at e3
          obtain ⟨b', off', e, hcl⟩ := RW.cells (by omega)
          injection e with e
          injection e with e1 e2
          subst e1 e2
          have ct := hcl p k1
          rw [HXE.out] at ct
          generalize lng bs (x % 16) (r + 2) = q at hlen hq e3
          obtain ⟨q1, q2⟩ := q
          simp only at hlen hq e3
          have HE3 : Hid _ := e3
          have HM : Hid _ := M2
          have z2' : y ≤ out.length + n := by omega
          clear e3 HE2 M2 hcl RW z2
          go_wp2_with fail
          ·exfalso
           rename_i h _
           rcases h with h | h
           ·simp at h; omega
           ·omega
          refine hlen.mono ?_
          rintro e w3 ⟨rfl, rfl⟩
          clear hlen ct
          by_cases z3 : q1 < 0
          ·have e3 := HE3.out
           rw [if_pos z3] at e3
           have hd := HD.out
           rw [dec_succ_bad e3] at hd
           subst hd
           clear HE3 HD e3 HM
           go_wp2
           try simp only [Exit.inBlock, Exit.then]
           refine bodyPost_ret (results_tmp4 rfl _ _ _) rfl ?_
           exact dec_bad _ _ _ _ hg
          ·have f0 := HM.out.bx.f 2
           have M3 := HM.out.set 2 (.int .i64 (q1 + 4))
           simp only [List.set_cons_succ, List.set_cons_zero] at M3
           have hq' : 0 ≤ q1 ∧ q1 ≤ 15 + 255 * len ∧ r + 2 ≤ q2 ∧ q2 ≤ len := by omega
           clear hq HM
           have hg3 := M3.st.g
           have HM3 : Hid _ := M3
           clear M3
           by_cases z4 : most - ((out.length + n : Nat) : Int) < q1 + 4
           ·have e3 := HE3.out
            rw [if_neg z3, if_pos z4] at e3
            have hd := HD.out
            rw [dec_succ_bad e3] at hd
            subst hd
            clear HE3 HD e3 HM3
            go_wp2
            try simp only [Exit.inBlock, Exit.then]
            refine bodyPost_ret (results_tmp4 rfl _ _ _) rfl ?_
            exact dec_bad _ _ _ _ hg3
           ·have e3 := HE3.out
            rw [if_neg z3, if_neg z4] at e3
            obtain ⟨m, hm'⟩ := Int.eq_ofNat_of_zero_le (by omega : 0 ≤ q1 + 4)
            obtain ⟨s', rfl⟩ := Int.eq_ofNat_of_zero_le (by omega : 0 ≤ q2)
            obtain rfl : q1 = (m : Int) - 4 := by omega
            rw [show (m : Int) - 4 + 4 = m by omega, Int.toNat_natCast, Int.toNat_natCast, Int.toNat_natCast] at e3
            have hd := HD.out
            rw [dec_succ_more e3] at hd
            have HD2 : Hid _ := hd
            have M3 := HM3.out
            rw [show (m : Int) - 4 + 4 = m by omega] at M3
            have k11 : r + 2 ≤ s' := by omega
            have k12 : s' ≤ len := by omega
            have k13 : ((out.length + n + m : Nat) : Int) ≤ most := by omega
            have k14 : 4 ≤ m := by omega
            clear hd e3 HE3 HD hm' hq' z3 z4 hg3 HM3
            have HM3 : Hid _ := M3
            clear M3
            have HLn : Hid (∀ j, (cpy y j (out ++ (bs.drop k).take n)).length = out.length + n + j) := by
             intro j; rw [cpy_len, List.length_append, HLL.out]
            obtain ⟨f', rfl⟩ : ∃ f', f = f' + 1 := ⟨f - 1, by omega⟩
            go_wp2_with fail
            clear b0 b1 b2 f0
            go_loopw [8, 16] (fun vo vi wr => ∃ j : Nat, vi = .int .i64 j ∧ j ≤ m ∧ Hid (Mi w wr vo u9 (cpy y j (out ++ (bs.drop k).take n)) ss sq g0 [.slice (some ⟨b, o', none⟩) n (cap - k), .int .i64 y, .int .i64 m])) (fun _ vi _ => m - (intOf vi).toNat)
            case atStart => exact ⟨0, rfl, Nat.zero_le _, HM3⟩
            case round =>
             clear HM3
             obtain ⟨j, rfl, hj, HM⟩ := hrel
             obtain ⟨b0, b1, b2⟩ := HM.out.bx.c3
             have hoo := HM.out.st.oo
             have hbo := HM.out.st.b
             rw [HLn.out j] at hoo
             obtain ⟨oa', oc', rfl, w1', w2', w3'⟩ := owns_form hoo
             by_cases hjm : j < m
             ·obtain ⟨ga, rfl, hga⟩ : ∃ g, oa' = some ⟨g, 0, none⟩ ∧ w.heap.size ≤ g := by
               rcases w3' with ⟨_, h, _⟩ | h
               ·omega
               ·exact h
              obtain ⟨d, hd⟩ : ∃ d, out.length + n + j = d + y := ⟨out.length + n + j - y, by omega⟩
              obtain ⟨a7, c7, e7, R7⟩ := owns_row hoo hbo (by unfold maxLen; omega)
              injection e7 with e7 _ _
              subst e7
              obtain ⟨b8, o8, e8, hc8⟩ := R7.cells (by omega)
              injection e8 with e8
              injection e8 with e8 e9
              subst e8 e9
              have cz := hc8 d (by omega)
              have hzb := hbo.getD d
              have hsn := cpy_snoc y j (out ++ (bs.drop k).take n)
              rw [HLn.out j, hd, show d + y - y = d by omega] at hsn
              generalize (cpy y j (out ++ (bs.drop k).take n)).getD d 0 = z at cz hzb hsn
              rw [Nat.zero_add] at cz
              have HSN : Hid _ := hsn
              have hb1 : (d + y + 1) * 1 ≤ 140737488355328 := by omega
              have hb2 : d + y + 1 ≤ maxLen := by unfold maxLen; omega
              have hsz := (HM.out.alloc (.cells #[.int .u8 z] 5)).st.g.size
              rw [hd] at HM hoo w1' ⊢
              have hown := hoo.alloc (.cells #[.int .u8 z] 5)
              have HDY : Hid _ := hd
              clear hsn hd hc8 R7 hoo hbo w3' hga
              unfold maxLen at w2'
              go_wp2_with (at_builtin; (refine wpList_append_own _ rfl _ _ 22 rfl w.heap.size 5 i5 (.int .u8 0) 1 1 Try.underlying22 hi hz0 hz1 hz2 rfl (by decide) _ (d + y) _ rfl hown ⟨wr.heap.size, 0, none⟩ 1 1 [.int .u8 z] rfl rfl (cell_one _ _ _) (by simp [Value.oneCell']) hb2 hb1 hsz ?_))
              intro v' w5 o5 g5 _
              have M5 := (HM.out.alloc _).out (n := 1) (x := [z]) (by rw [HLn.out j, HDY.out]; exact o5) (fun t ht => by simp at ht; subst ht; exact hzb) rfl g5
              rw [← HSN.out] at M5
              have HM5 : Hid _ := M5
              clear M5 o5 g5 HM hown hsz hb1 hb2 cz b0 b1 b2 HSN
              go_wp2
              go_roundw
              case rel => exact ⟨j + 1, by go_num, by omega, HM5⟩
              case measure => simp [intOf]; omega
             ·obtain rfl : j = m := by omega
              have hol := HM.out.st.ol.alloc (.cells #[.slice (some ⟨b, o', none⟩) n (cap - k), .int .i64 y, .int .i64 j] 116)
              have hsz := (HM.out.alloc (.cells #[.slice (some ⟨b, o', none⟩) n (cap - k), .int .i64 y, .int .i64 j] 116)).st.g.size
              have hb1 : (ss.length + 1) * 40 ≤ 140737488355328 := by omega
              have hb2 : ss.length + 1 ≤ maxLen := by unfold maxLen; omega
              clear hoo hbo w1' w2' w3'
              go_wp2_with (at_builtin; (refine wpList_append_own _ rfl _ _ 96 rfl w.heap.size 116 i6 _ 3 40 Try.underlying96 hi6 hy0 hy1 hy2 rfl (by decide) _ ss.length (sqv ss) rfl hol ⟨wr.heap.size, 0, none⟩ 1 1 (SqV.cells ⟨some ⟨b, o', none⟩, n, cap - k, y, j⟩) rfl rfl (cell_three _ _ _ _ _) (sq_one _) hb2 hb1 hsz ?_))
              intro v2 w5 o2 g2 _
              have hok : SqOk w ⟨some ⟨b, o', none⟩, n, cap - k, y, j⟩ ((bs.drop k).take n, (y : Int), (j : Int)) := ⟨HL.out, rfl, rfl, (fun e => by cases e), (by show n ≤ cap - k; omega), (by show cap - k ≤ maxLen; unfold maxLen; omega)⟩
              have S2 := (HM.out.alloc _).st.seq o2 hok g2
              have HS : Hid _ := S2
              have hln := HLn.out j
              have HLJ : Hid _ := hln
              have k15 : p + 3 ≤ s' := by have := HR.out; omega
              clear S2 hok o2 g2 HM hol hsz b0 b1 b2 hb1 hb2 hln
              go_wp2
              go_roundw
              case rel => exact ⟨s', f', _, _, _, by go_num, k12, by simp; omega, by omega, by rw [HLJ.out]; omega, HS, HD2⟩
              case measure => simp [intOf]; omega
  ·have e : dst bs most out.length p = .bad 6 len := by unfold dst; rw [if_pos (by omega), hlb]
   have hd := HD.out
   rw [dec_succ_bad e] at hd
   subst hd
   have hg := HS.out.g
   clear HS HD e
   go_wp2
   try simp only [Exit.inBlock, Exit.then]
   refine bodyPost_ret (results_tmp4 rfl _ _ _) rfl ?_
   exact dec_bad _ _ _ _ hg
/-- sequences as a slice -/
structure SRow (w : World) (a : Option Addr) (len : Nat) (ss : List SqV) : Prop where
 len_eq : ss.length = len
 le : len ≤ maxLen
 cells : 0 < len → ∃ b off, a = some ⟨b, off, none⟩ ∧ ∀ i s, ss[i]? = some s → w.cell? ⟨b, off + i * 3, none⟩ = some (.slice s.a s.n s.c) ∧ w.cell? ⟨b, off + i * 3 + 1, none⟩ = some (.int .i64 s.off) ∧ w.cell? ⟨b, off + i * 3 + 2, none⟩ = some (.int .i64 s.m)
theorem sqv_get (ss : List SqV) (i : Nat) (s : SqV) (h : ss[i]? = some s) : (sqv ss)[i * 3]? = some (.slice s.a s.n s.c) ∧ (sqv ss)[i * 3 + 1]? = some (.int .i64 s.off) ∧ (sqv ss)[i * 3 + 2]? = some (.int .i64 s.m) := by
 induction ss generalizing i with
 | nil => simp at h
 | cons x r ih =>
  cases i with
  | zero => simp at h; subst h; exact ⟨rfl, rfl, rfl⟩
  | succ i =>
   simp at h
   obtain ⟨h1, h2, h3⟩ := ih i h
   have e : sqv (x :: r) = x.cells ++ sqv r := by simp [sqv]
   have l : x.cells.length = 3 := rfl
   rw [e]
   refine ⟨?_, ?_, ?_⟩
   ·rw [List.getElem?_append_right (by omega), l, ← h1]; congr 1; omega
   ·rw [List.getElem?_append_right (by omega), l, ← h2]; congr 1; omega
   ·rw [List.getElem?_append_right (by omega), l, ← h3]; congr 1; omega
theorem owns_srow {w : World} {base : Nat} {v : Value} {n : Nat} {ss : List SqV} (h : w.ownsRow base 116 3 v n (sqv ss)) (hl : n ≤ maxLen) : ∃ a cap, v = .slice a n cap ∧ SRow w a n ss := by
 obtain ⟨h1, h2⟩ := h
 rw [sqv_len] at h1
 have hn : ss.length = n := by omega
 rcases h2 with ⟨rfl, rfl⟩ | ⟨g, cap, cur, rfl, _, hg, hc, hm, hs, ht⟩
 ·exact ⟨none, 0, rfl, hn, hl, fun h => absurd h (by omega)⟩
 ·refine ⟨_, cap, rfl, hn, hl, fun _ => ⟨g, 0, rfl, fun i s hi => ?_⟩⟩
  have hil : i < ss.length := (List.getElem?_eq_some_iff.1 hi).1
  obtain ⟨c1, c2, c3⟩ := sqv_get ss i s hi
  have key : ∀ t, t < n * 3 → w.cell? ⟨g, 0 + t, none⟩ = (sqv ss)[t]? := by
   intro t htl
   have e : w.cell? ⟨g, 0 + t, none⟩ = cur[t]? := by simp [World.cell?, hg]
   rw [e, ← ht, List.getElem?_take, if_pos htl, Array.getElem?_toList]
  refine ⟨?_, ?_, ?_⟩
  ·rw [key _ (by omega)]; exact c1
  ·rw [Nat.add_assoc, key _ (by omega)]; exact c2
  ·rw [Nat.add_assoc, key _ (by omega)]; exact c3
theorem Sqs.get {w : World} {ss : List SqV} {qs : List Sq} (h : Sqs w ss qs) (i : Nat) (hi : i < ss.length) : ∃ s q, ss[i]? = some s ∧ qs[i]? = some q ∧ SqOk w s q := by
 have h1 : ss[i]? = some ss[i] := List.getElem?_eq_getElem hi
 have h2 : qs[i]? = some (qs[i]'(by rw [← h.1]; exact hi)) := List.getElem?_eq_getElem _
 exact ⟨_, _, h1, h2, h.2 i _ _ h1 h2⟩
theorem SRow.grown {w w' : World} {a : Option Addr} {n : Nat} {ss : List SqV} (h : SRow w a n ss) (hg : w.grownBy w' none) : SRow w' a n ss := by
 refine ⟨h.len_eq, h.le, fun h0 => ?_⟩
 obtain ⟨b, off, e, hc⟩ := h.cells h0
 have hb := grown_below hg
 refine ⟨b, off, e, fun i s hi => ?_⟩
 obtain ⟨h1, h2, h3⟩ := hc i s hi
 exact ⟨by rw [hb.cell (p := ⟨b, off + i * 3, none⟩) (cell_lt h1)]; exact h1, by rw [hb.cell (p := ⟨b, off + i * 3 + 1, none⟩) (cell_lt h2)]; exact h2, by rw [hb.cell (p := ⟨b, off + i * 3 + 2, none⟩) (cell_lt h3)]; exact h3⟩
theorem grown_drewN5 {w w' : World} (h : w.grownBy w' none) (n : Nat) : w.grownBy (w'.drewN n) none := ⟨h.os, h.tape, h.output, h.size, h.block⟩
theorem take_snocQ {qs : List Sq} {j : Nat} {q : Sq} (h : qs[j]? = some q) : qs.take (j + 1) = qs.take j ++ [q] := by
 obtain ⟨h1, h2⟩ := List.getElem?_eq_some_iff.1 h
 rw [List.take_succ_eq_append_getElem h1, h2]
end Go.Proofs.Ytkkigpobhagnfaa
