/- Plain facts: texts that repeat themselves; the page's example. The page's examples (many, live), num. The walk of MatchEncodes. The walk of MatchPacks. Plain: a stream's chunks tell the stream. The walk of MetaEncodes. -/
import Derived.KernelRfl
import Derived.Test.YtkkigpobhagnfaaD03
import Derived.Test.YtkkigpobhagnfaaD04
import Derived.Test.YtkkigpobhagnfaaK05
import Derived.Test.YtkkigpobhagnfaaK09
import Derived.Test.YtkkigpobhagnfaaK15
namespace Go.Proofs.Ytkkigpobhagnfaa
open Go.RowKit
set_option maxRecDepth 100000
set_option linter.unusedSimpArgs false
set_option linter.unusedVariables false
theorem enc_ex : (jcat (enc (List.replicate 100 97))).length = 11 := by kernel_rfl
theorem wrth_yes : wrth 100 11 4602678819172646912 = true := by kernel_rfl
theorem wrth_no : wrth 100 11 0 = false := by kernel_rfl

/-- a text that repeats itself from p on -/
def Rep6 (bs : List Int) (p : Nat) : Prop := ∀ i, i + p < bs.length → bs.getD (i + p) 0 = bs.getD i 0
theorem lon_stop (bs : List Int) (p t f off n : Nat) (h : n = bs.length - 5 - p) : lon bs p t f off n = (off, n) := by
 cases t with
 | zero => rfl
 | succ t => rw [lon, if_pos (Or.inr (Or.inr h))]
theorem lon_full {bs : List Int} {p q : Nat} (hq : q < p) (hm : p - q ≤ 65535) (ha : alk (her bs p) (bs.drop q) = bs.length - 5 - p) (h4 : 4 ≤ bs.length - 5 - p) (t : Nat) :
  ∀ f off n, q < f → f ≤ q + t → f ≤ p → slt bs (f - 1) = slt bs q → n ≤ bs.length - 5 - p → (lon bs p t f off n).2 = bs.length - 5 - p := by
 induction t with
 | zero => intro f off n h1 h2; omega
 | succ t ih =>
  intro f off n h1 h2 h3 hs hn
  by_cases e : n = bs.length - 5 - p
  ·rw [lon_stop _ _ _ _ _ _ e]; exact e
  ·rw [lon, if_neg (by omega)]
   have hk := alk_le (her bs p) (bs.drop (f - 1))
   rw [her_len] at hk
   by_cases hf : f = q + 1
   ·subst hf
    rw [Nat.add_sub_cancel, ha, if_pos ⟨h4, by omega⟩, lon_stop _ _ _ _ _ _ rfl]
   ·have g1 := las_ge (f - 1) (by omega : q < f - 1) hs.symm
    have g2 := las_le bs (slt bs (f - 1)) (f - 1)
    have g3 := las_slt (bs := bs) (s := slt bs (f - 1)) (f - 1) (by omega)
    split
    ·exact ih _ _ _ (by omega) (by omega) (by omega) (g3.trans hs) hk
    ·exact ih _ _ _ (by omega) (by omega) (by omega) (g3.trans hs) hn
theorem lng6_rep {bs : List Int} {per : Nat} (R : Rep6 bs per) (h0 : 0 < per) (hp : per ≤ 64) (p : Nat) (h1 : per ≤ p) (h2 : p + 12 ≤ bs.length) : (lng6 bs p).2 = bs.length - 5 - p := by
 have hq : ∀ i, p + i < bs.length → bs.getD (p + i) 0 = bs.getD (p - per + i) 0 := by
  intro i hi
  have := R (p - per + i) (by omega)
  rwa [show p - per + i + per = p + i by omega] at this
 have hs : slt bs (p - per) = slt bs p := by
  unfold slt
  have a0 := hq 0 (by omega)
  have a1 := hq 1 (by omega)
  have a2 := hq 2 (by omega)
  have a3 := hq 3 (by omega)
  rw [Nat.add_zero, Nat.add_zero] at a0
  rw [a0, a1, a2, a3]
 have ha : alk (her bs p) (bs.drop (p - per)) = bs.length - 5 - p := by
  rw [alk_all, her_len]
  ·intro i hi
   rw [her_len] at hi
   rw [her_get hi, drop_get]
   exact hq i (by omega)
  ·rw [her_len]; simp; omega
 have g1 := las_ge p (by omega : p - per < p) hs
 have g2 := las_le bs (slt bs p) p
 have g3 := las_slt (bs := bs) (s := slt bs p) p (by omega)
 unfold lng6
 exact lon_full (by omega) (by omega) ha (by omega) 64 _ _ _ (by omega) (by omega) g2 (g3.trans hs.symm) (by omega)
theorem tol_one {n : Nat} (h : n ≤ 269) : (tol n).length ≤ 1 := by
 by_cases h1 : (n : Int) < 15
 ·rw [tol_none h1]; omega
 ·have := tol_big (n := n) (by omega); omega
theorem tol_copy {m : Nat} (h : 4 ≤ m) : ((tol ((m : Int) - 4)).length : Int) ≤ m / 255 + 1 := by
 by_cases h1 : (m : Int) - 4 < 15
 ·rw [tol_none h1]; omega
 ·have := tol_big (n := (m : Int) - 4) (by omega); omega
theorem div255 (a b : Nat) : a / 255 + b / 255 ≤ (a + b) / 255 := by omega
theorem jlen_last (l : List Int) : (jbytes true (l, 0, 0)).length = 1 + (tol l.length).length + l.length := by unfold jbytes; simp; omega
theorem jlen_more (l : List Int) (o : Int) (m : Nat) : (jbytes false (l, o, (m : Int))).length = 3 + (tol l.length).length + l.length + (tol ((m : Int) - 4)).length := by unfold jbytes; simp; omega
theorem jcat_cons (q : Sq) (r : List Sq) (h : r ≠ []) : (jcat (q :: r)).length = (jbytes false q).length + (jcat r).length := by
 cases r with
 | nil => exact absurd rfl h
 | cons x r => rw [jcat]; simp
theorem sqs_ne (bs : List Int) (f told p : Nat) : sqs bs f told p ≠ [] := by
 induction f generalizing told p with
 | zero => simp [sqs]
 | succ f ih =>
  rw [sqs]
  split
  ·split
   ·simp
   ·exact ih _ _
  ·simp
theorem jcat_one (q : Sq) : jcat [q] = jbytes true q := by simp [jcat]
/-- how long the block of a text that repeats itself may be, and how many sequences -/
theorem sqs_rep {bs : List Int} {per : Nat} (R : Rep6 bs per) (h0 : 0 < per) (hp : per ≤ 64) (f : Nat) : ∀ told p, told ≤ p → p ≤ told + 64 → bs.length ≤ p + f → 
  (jcat (sqs bs f told p)).length ≤ (p - told) + 2 * (per - p) + 13 + (bs.length - p) / 255 + (if p < per then 5 else 0) ∧ (sqs bs f told p).length ≤ per - p + 2 := by
 have fin : ∀ told p, told ≤ p → p ≤ told + 64 → bs.length < p + 12 → (jcat [(bs.drop told, (0 : Int), (0 : Int))]).length ≤ (p - told) + 13 := by
  intro told p h1 h2 h3
  rw [jcat_one, jlen_last]
  have := tol_one (n := (bs.drop told).length) (by simp; omega)
  have e : (bs.drop told).length = bs.length - told := by simp
  omega
 induction f with
 | zero =>
  intro told p h1 h2 h3
  have := fin told p h1 h2 (by omega)
  rw [sqs]
  refine ⟨by omega, by simp⟩
 | succ f ih =>
  intro told p h1 h2 h3
  rw [sqs]
  by_cases hp12 : p + 12 ≤ bs.length
  ·rw [if_pos hp12]
   have hok := lng6_ok bs p hp12
   have hrep := fun h => lng6_rep R h0 hp p h hp12
   generalize lng6 bs p = r at *
   obtain ⟨ro, m⟩ := r
   simp only at *
   by_cases hm : 0 < m
   ·rw [if_pos hm]
    have G : Gd bs p ro m := by
     rcases hok with h | h
     ·omega
     ·exact h
    have hg := G.gn
    obtain ⟨i1, i2⟩ := ih (p + m) (p + m) (Nat.le_refl _) (by omega) (by omega)
    have hl : ((bs.drop told).take (p - told)).length = p - told := by simp; omega
    have t1 := tol_one (n := p - told) (by omega)
    have t2 := tol_copy hg.1
    have d1 := div255 m (bs.length - (p + m))
    rw [show m + (bs.length - (p + m)) = bs.length - p by omega] at d1
    have e1 := jcat_cons ((bs.drop told).take (p - told), (ro : Int), (m : Int)) (sqs bs f (p + m) (p + m)) (sqs_ne _ _ _ _)
    rw [jlen_more, hl] at e1
    constructor
    ·rw [e1]
     by_cases c1 : p < per
     ·rw [if_pos c1]
      by_cases c2 : p + m < per
      ·rw [if_pos c2] at i1; omega
      ·rw [if_neg c2] at i1; omega
     ·rw [if_neg c1]
      have hH := hrep (by omega)
      have hlast : sqs bs f (p + m) (p + m) = [(bs.drop (p + m), 0, 0)] := by
       cases f with
       | zero => rfl
       | succ f => rw [sqs, if_neg (by omega)]
      rw [hlast, jcat_one, jlen_last]
      have t3 := tol_none (n := ((bs.drop (p + m)).length : Int)) (by simp; omega)
      have e : (bs.drop (p + m)).length = bs.length - (p + m) := by simp
      omega
    ·by_cases c1 : p < per
     ·simp only [List.length_cons]; omega
     ·have hH := hrep (by omega)
      have hlast : sqs bs f (p + m) (p + m) = [(bs.drop (p + m), 0, 0)] := by
       cases f with
       | zero => rfl
       | succ f => rw [sqs, if_neg (by omega)]
      rw [hlast]; simp
   ·rw [if_neg hm]
    have c1 : p < per := by
     rcases Nat.lt_or_ge p per with h | h
     ·exact h
     ·have := hrep h; omega
    obtain ⟨i1, i2⟩ := ih told (p + 1) (by omega) (by omega) (by omega)
    rw [if_pos c1]
    refine ⟨?_, by omega⟩
    have : (bs.length - (p + 1)) / 255 ≤ (bs.length - p) / 255 := Nat.div_le_div_right (by omega)
    split at i1 <;> omega
  ·rw [if_neg hp12]
   have := fin told p h1 h2 (by omega)
   refine ⟨by omega, by simp⟩
theorem enc_rep {bs : List Int} {per : Nat} (R : Rep6 bs per) (h0 : 0 < per) (hp : per ≤ 64) : (jcat (enc bs)).length ≤ 256 + bs.length / 255 ∧ (enc bs).length ≤ 66 := by
 obtain ⟨h1, h2⟩ := sqs_rep R h0 hp (bs.length + 1) 0 0 (Nat.le_refl _) (by omega) (by omega)
 rw [if_pos h0] at h1
 unfold enc
 constructor
 ·omega
 ·omega
theorem rep_set (n j : Nat) (x : Int) (h : j < n) : (bv (List.replicate j x) ++ List.replicate (n - j) (Value.int .u8 0)).set j (.int .u8 x) = bv (List.replicate (j + 1) x) ++ List.replicate (n - (j + 1)) (Value.int .u8 0) := by
 have hl : (bv (List.replicate j x)).length = j := by rw [bv_length, List.length_replicate]
 rw [List.set_append_right _ _ (by omega), hl, Nat.sub_self, show n - j = (n - (j + 1)) + 1 by omega, List.replicate_succ (n := n - (j + 1)), List.set_cons_zero, List.replicate_succ' (n := j), bv_append, List.append_assoc]
 rfl
theorem pck_yes : ∃ J, pck (List.replicate 100 97) 4602678819172646912 = (J, true) := by
 unfold pck
 rw [enc_ex, List.length_replicate]
 exact ⟨_, if_pos wrth_yes⟩
theorem pck_no : ∃ J, pck (List.replicate 100 97) 0 = (J, false) := by
 unfold pck
 rw [enc_ex, List.length_replicate]
 exact ⟨_, if_neg (by rw [show wrth ((100 : Nat) : Int) ((11 : Nat) : Int) 0 = false from wrth_no]; decide)⟩
theorem bnd14 : bnd 14 = 15 := by decide
theorem bnd15 : bnd 15 = 17 := by decide
theorem bnd270 : bnd 270 = 273 := by decide
theorem jcat_small {bs : List Int} (hl : bs.length ≤ 1048576) : (jcat (enc bs)).length ≤ 2097153 := by
 have h := (enc_ok bs hl).le hl
 unfold bnd at h
 have := tol_lin (n := bs.length) (by omega)
 split at h <;> omega
theorem unpk_packed {bs : List Int} (hl : bs.length ≤ 1048576) (hb : Byt (jcat (enc bs))) : unpk (jcat (enc bs)) true bs.length = (bs, 0) := by
 have h := (enc_ok bs hl).dec hb
 unfold unpk
 rw [if_neg (by omega), if_pos rfl, h]
theorem unpk_plain {bs : List Int} (hl : bs.length ≤ 1048576) : unpk bs false bs.length = (bs, 0) := by
 unfold unpk
 rw [if_neg (by omega), if_neg (by decide), if_neg (by omega)]
theorem mem_cpy14 {x : Int} (off n : Nat) : ∀ (out : List Int), x ∈ out → x ∈ cpy off n out := by
 induction n with
 | zero => intro out h; exact h
 | succ n ih => intro out h; rw [cpy]; exact ih _ (List.mem_append_left _ h)
theorem mem_unp14 {x : Int} : ∀ (qs : List Sq) (out : List Int), x ∈ out → x ∈ unp qs out
 | [], out, h => h
 | q :: r, out, h => by rw [unp]; exact mem_unp14 r _ (mem_cpy14 _ _ _ (List.mem_append_left _ h))
theorem fou_in14 {n : Int} (h : 0 ≤ n) : 0 ≤ fou n ∧ fou n ≤ 15 := by unfold fou; split <;> omega
theorem jcat_byt14 : ∀ (qs : List Sq) (size : Int) (out : List Int), Jok qs size → Byt (unp qs out) → Byt (jcat qs)
 | [], _, _, _, _ => fun x hx => by cases hx
 | q :: r, size, out, h, hb => by
  obtain ⟨h1, h2⟩ := h
  have hq : Byt q.1 := fun x hx => hb x (by rw [unp]; exact mem_unp14 r _ (mem_cpy14 _ _ _ (List.mem_append_right _ hx)))
  have hr := jcat_byt14 r _ _ h2 (by rw [unp] at hb; exact hb)
  have f1 := fou_in14 (n := (q.1.length : Int)) (by omega)
  rw [jcat]
  refine Byt.append ?_ hr
  unfold jbytes
  cases hl : r.isEmpty with
  | true =>
   rw [if_pos rfl]
   intro x hx
   rcases List.mem_cons.1 hx with rfl | hx
   ·omega
   ·exact ((tol_byt _).append hq) x hx
  | false =>
   rw [if_neg (by decide)]
   rw [hl] at h1
   unfold jerr at h1
   have hj : 1 ≤ q.2.1 ∧ q.2.1 ≤ 65535 ∧ 4 ≤ q.2.2 := by
    by_cases k : (false = true ∧ (q.2.1 ≠ 0 ∨ q.2.2 ≠ 0)) ∨ (false = false ∧ (q.2.1 < 1 ∨ 65535 < q.2.1 ∨ q.2.2 < 4))
    ·rw [if_pos k] at h1; omega
    ·have : ¬ (q.2.1 < 1 ∨ 65535 < q.2.1 ∨ q.2.2 < 4) := fun e => k (Or.inr ⟨rfl, e⟩)
     omega
   have f2 := fou_in14 (n := q.2.2 - 4) (by omega)
   intro x hx
   rcases List.mem_cons.1 hx with rfl | hx
   ·omega
   ·rcases List.mem_append.1 hx with hx | hx
    ·exact tol_byt _ x hx
    ·rcases List.mem_append.1 hx with hx | hx
     ·exact hq x hx
     ·rcases List.mem_cons.1 hx with rfl | hx
      ·omega
      ·rcases List.mem_cons.1 hx with rfl | hx
       ·omega
       ·exact tol_byt _ x hx
theorem jcat_pos14 {qs : List Sq} (h : qs ≠ []) : 1 ≤ (jcat qs).length := by
 cases qs with
 | nil => exact absurd rfl h
 | cons q r => rw [jcat]; unfold jbytes; cases r.isEmpty <;> simp <;> omega
/-- a piece as it is stored: its bytes, their number, what they tell -/
theorem pk_facts {p : List Int} (limit : Nat) (hb : Byt p) (h1 : 1 ≤ p.length) (h2 : p.length ≤ 8192) :
  Byt (pk14 p limit).1 ∧ 1 ≤ (pk14 p limit).1.length ∧ (pk14 p limit).1.length ≤ 8192 ∧ (pk14 p limit).1.length ≤ p.length + 40 ∧ ((pk14 p limit).2 = true ∨ (pk14 p limit).1.length = p.length) ∧ unpk (pk14 p limit).1 (pk14 p limit).2 p.length = (p, 0) := by
 have hJ := (enc_ok p (by omega)).le (by omega)
 have hT : ((tol (p.length : Int)).length : Int) ≤ 33 := by
  by_cases h : (p.length : Int) < 15
  ·rw [tol_none h]; omega
  ·rw [tol_big (by omega)]; omega
 unfold bnd at hJ
 rw [if_neg (by omega)] at hJ
 have hB : Byt (jcat (enc p)) := jcat_byt14 (enc p) 0 [] (enc_ok p (by omega)).ok (by rw [(enc_ok p (by omega)).un]; exact hb)
 have hP := jcat_pos14 (enc_ok p (by omega)).ne
 have hpl : unpk p false p.length = (p, 0) := unpk_plain (by omega)
 unfold pk14
 by_cases h : 8192 < (pck p limit).1.length
 ·rw [if_pos h]
  exact ⟨hb, h1, h2, by simp, Or.inr rfl, hpl⟩
 ·rw [if_neg h]
  unfold pck at h ⊢
  by_cases hw : wrth p.length (jcat (enc p)).length limit = true
  ·rw [if_pos hw] at h ⊢
   exact ⟨hB, hP, by omega, by simp only; omega, Or.inl rfl, unpk_packed (by omega) hB⟩
  ·rw [if_neg hw]
   exact ⟨hb, h1, h2, by simp, Or.inr rfl, hpl⟩
theorem sto2_take14 (a : Int) (Y : List Int) : (sto a 2 ++ Y).take 2 = sto a 2 := by
 rw [List.take_append_of_le_length (by rw [sto_length]; omega), List.take_of_length_le (by rw [sto_length]; omega)]
theorem sto2_drop14 (a : Int) (Y : List Int) : (sto a 2 ++ Y).drop 2 = Y := by
 rw [List.drop_append_of_le_length (by rw [sto_length]; omega), List.drop_of_length_le (by rw [sto_length]; omega)]; rfl
theorem sto4_take14 (a : Int) (Y : List Int) : (sto a 4 ++ Y).take 4 = sto a 4 := by
 rw [List.take_append_of_le_length (by rw [sto_length]; omega), List.take_of_length_le (by rw [sto_length]; omega)]
theorem hd_word14 (n : Nat) (h : n ≤ 8192) (pk : Bool) : ((if pk = true then (n : Int) else (n : Int) + 32768) % 256 ^ 2) % 32768 = (n : Int) ∧ decide (((if pk = true then (n : Int) else (n : Int) + 32768) % 256 ^ 2) < 32768) = pk := by
 cases pk with
 | true => rw [if_pos rfl]; exact ⟨by omega, decide_eq_true (by omega)⟩
 | false => rw [if_neg (by decide)]; exact ⟨by omega, decide_eq_false (by omega)⟩
theorem hd_crc14 (C : Nat) (h : C < 4294967296) : ((C : Int) % 256 ^ 4).toNat = C := by omega
/-- the chunk of a piece that begins at a place -/
def ckP (p : List Int) (limit pos : Nat) : Ck := { ckE14 p limit with at_ := (pos : Int) }
theorem head_facts {E pc Y : List Int} {limit pos : Nat} (hE : E.drop pos = hdb (ckE14 pc limit) ++ ((pk14 pc limit).1 ++ Y)) (hb : Byt pc) (h1 : 1 ≤ pc.length) (h2 : pc.length ≤ 8192) :
  hdC E pos = ckP pc limit pos ∧ cAt E pos (pc.length : Int) = (ckP pc limit pos, true) ∧ chk E (ckP pc limit pos) = (pc, 0) ∧ E.drop (pos + 8 + (pk14 pc limit).1.length) = Y ∧ pos + 8 + (pk14 pc limit).1.length + Y.length = E.length := by
 obtain ⟨f1, f2, f3, f4, f5, f6⟩ := pk_facts limit hb h1 h2
 have hcl := crc_lt ent 0 (pk14 pc limit).1
 have hl8 := hdb_len (ckE14 pc limit)
 have e2 : E.drop (pos + 2) = (E.drop pos).drop 2 := by rw [List.drop_drop]
 have e4 : E.drop (pos + 4) = ((E.drop pos).drop 2).drop 2 := by rw [List.drop_drop, List.drop_drop]
 have e8 : E.drop (pos + 8) = (pk14 pc limit).1 ++ Y := by
  rw [← List.drop_drop, hE, List.drop_append_of_le_length (by omega), List.drop_of_length_le (by omega)]; rfl
 have hlen : E.length = pos + 8 + (pk14 pc limit).1.length + Y.length := by
  have := congrArg List.length hE
  rw [List.length_drop, List.length_append, List.length_append, hl8] at this
  omega
 have hlast : E.drop (pos + 8 + (pk14 pc limit).1.length) = Y := by
  rw [← List.drop_drop, e8, List.drop_append_of_le_length (Nat.le_refl _), List.drop_length]; rfl
 have hX : E.drop pos = sto (pc.length : Int) 2 ++ (sto (if (pk14 pc limit).2 then ((pk14 pc limit).1.length : Int) else ((pk14 pc limit).1.length : Int) + 32768) 2 ++ (sto ((crc ent 0 (pk14 pc limit).1 : Nat) : Int) 4 ++ ((pk14 pc limit).1 ++ Y))) := by
  rw [hE]; unfold hdb ckE14; simp only [List.append_assoc]
 have hd : hdC E pos = ckP pc limit pos := by
  unfold hdC ckP ckE14
  rw [e2, e4, hX, sto2_take14, sto2_drop14, sto2_take14, sto2_drop14, sto4_take14]
  simp only [le_sto]
  have q1 : (pc.length : Int) % 256 ^ 2 = pc.length := by clear hX e8 hlast hlen; omega
  rw [q1, hd_crc14 _ hcl, (hd_word14 _ f3 _).1, (hd_word14 _ f3 _).2]
 have hrg : rgt (ckP pc limit pos) = true := rgt_iff.2 ⟨by unfold ckP; simp, ⟨by unfold ckP ckE14; simp only; omega, by unfold ckP ckE14; simp only; omega⟩, ⟨by unfold ckP ckE14; simp only; omega, by unfold ckP ckE14; simp only; omega⟩, by
  unfold ckP ckE14; simp only
  rcases f5 with h | h
  ·exact Or.inl h
  ·exact Or.inr (by rw [h])⟩
 have hwt : wthn E.length (ckP pc limit pos) = true := by unfold wthn ckP ckE14; exact decide_eq_true (by simp only; omega)
 have hst : stoC E (ckP pc limit pos) = (pk14 pc limit).1 := by
  unfold stoC ckP ckE14
  simp only [Int.toNat_natCast]
  rw [e8, List.take_append_of_le_length (Nat.le_refl _), List.take_length]
 refine ⟨hd, ?_, ?_, hlast, hlen.symm⟩
 ·unfold cAt
  rw [if_neg (by omega), hd, if_pos ⟨rfl, hrg, hwt⟩]
 ·unfold chk
  rw [hst, if_neg (by rw [hrg]; decide), if_neg (by rw [hwt]; decide), if_neg (by unfold ckP ckE14; simp), if_neg (by
   have e1 : (ckP pc limit pos).pk = (pk14 pc limit).2 := rfl
   have e2 : (ckP pc limit pos).pl = (pc.length : Int) := rfl
   rw [e1, e2, f6]; simp)]
  have e1 : (ckP pc limit pos).pk = (pk14 pc limit).2 := rfl
  have e2 : (ckP pc limit pos).pl = (pc.length : Int) := rfl
  rw [e1, e2, f6]
/-- what comes of m pieces from the k-th on -/
def enR (bs : List Int) (limit : Nat) : Nat → Nat → List Int
 | 0, _ => []
 | m + 1, k => hdb (ckE14 (pcB bs k) limit) ++ ((pk14 (pcB bs k) limit).1 ++ enR bs limit m (k + 1))
theorem enP_enR (bs : List Int) (limit : Nat) : ∀ (m k : Nat), (enP bs limit (k + m)).flatten = (enP bs limit k).flatten ++ enR bs limit m k
 | 0, k => by rw [enR, List.append_nil]; rfl
 | m + 1, k => by
  rw [show k + (m + 1) = (k + 1) + m by omega, enP_enR bs limit m (k + 1), enP, enR]
  simp only [List.flatten_append, List.flatten_cons, List.flatten_nil, List.append_nil, List.append_assoc]
theorem enM_enR (bs : List Int) (limit : Nat) : enM bs limit = enR bs limit (cnt bs.length) 0 := by
 have := enP_enR bs limit (cnt bs.length) 0
 rw [Nat.zero_add] at this
 unfold enM
 rw [this]; rfl
/-- the chunks of m pieces -/
def ckR (bs : List Int) (limit : Nat) : Nat → Nat → Nat → List Ck
 | 0, _, _ => []
 | m + 1, k, pos => ckP (pcB bs k) limit pos :: ckR bs limit m (k + 1) (pos + 8 + (pk14 (pcB bs k) limit).1.length)
theorem ckR_len (bs : List Int) (limit : Nat) : ∀ (m k pos : Nat), (ckR bs limit m k pos).length = m
 | 0, _, _ => rfl
 | m + 1, k, pos => by rw [ckR, List.length_cons, ckR_len]
theorem pcB_len {bs : List Int} {k : Nat} : (pcB bs k).length = min 8192 (bs.length - 8192 * k) := by unfold pcB; rw [List.length_take, List.length_drop]
theorem lyg_all {bs : List Int} (limit : Nat) (hb : Byt bs) (E : List Int) : ∀ (m k pos : Nat), m = cnt (bs.length - 8192 * k) → E.drop pos = enR bs limit m k → pos ≤ E.length →
  lyg E m pos (bs.length - 8192 * k) = (ckR bs limit m k pos).map (fun c => (c, true)) ∧ (∀ out, tellA E (ckR bs limit m k pos) out = (out ++ bs.drop (8192 * k), 0))
 | 0, k, pos, hm, hE, hp => by
  have h0 : bs.length - 8192 * k = 0 := by unfold cnt at hm; omega
  have hl := congrArg List.length hE
  rw [List.length_drop, enR] at hl
  simp at hl
  refine ⟨by rw [lyg, if_neg (by omega)]; rfl, fun out => ?_⟩
  rw [ckR, tellA, List.drop_of_length_le (by omega), List.append_nil]
 | m + 1, k, pos, hm, hE, hp => by
  have hpos : 0 < bs.length - 8192 * k := by
   rcases Nat.eq_zero_or_pos (bs.length - 8192 * k) with h | h
   ·rw [h] at hm; exact absurd hm (by rw [cnt_zero]; omega)
   ·exact h
  have hpl : (pcB bs k).length = min (bs.length - 8192 * k) 8192 := by rw [pcB_len, Nat.min_comm]
  have hpb : Byt (pcB bs k) := fun x hx => hb x (List.mem_of_mem_drop (List.mem_of_mem_take hx))
  rw [enR] at hE
  obtain ⟨a1, a2, a3, a4, a5⟩ := head_facts hE hpb (by omega) (by omega)
  have hm2 : m = cnt (bs.length - 8192 * (k + 1)) := by rw [cnt_pos hpos] at hm; have : bs.length - 8192 * k - min (bs.length - 8192 * k) 8192 = bs.length - 8192 * (k + 1) := by omega
                                                        rw [this] at hm; omega
  obtain ⟨b1, b2⟩ := lyg_all limit hb E m (k + 1) _ hm2 a4 (by omega)
  have hst : (ckP (pcB bs k) limit pos).st.toNat = (pk14 (pcB bs k) limit).1.length := by unfold ckP ckE14; simp
  have hsz : bs.length - 8192 * k - min (bs.length - 8192 * k) 8192 = bs.length - 8192 * (k + 1) := by omega
  refine ⟨?_, fun out => ?_⟩
  ·rw [lyg, ← hpl, a2, if_pos rfl, hpl, hsz]
   simp only [hst]
   rw [b1, ckR, List.map_cons]
  ·rw [ckR, tellA, a3, if_neg (by simp), b2]
   have : bs.drop (8192 * k) = pcB bs k ++ bs.drop (8192 * (k + 1)) := by
    unfold pcB
    rw [show 8192 * (k + 1) = 8192 * k + 8192 by omega, ← List.drop_drop, List.take_append_drop]
   rw [this, List.append_assoc]
theorem enR_byt {bs : List Int} (limit : Nat) (hb : Byt bs) : ∀ (m k : Nat), m = cnt (bs.length - 8192 * k) → Byt (enR bs limit m k) ∧ (enR bs limit m k).length ≤ (bs.length - 8192 * k) + 48 * m
 | 0, k, _ => ⟨fun x hx => (by cases hx), by simp [enR]⟩
 | m + 1, k, hm => by
  have hpos : 0 < bs.length - 8192 * k := by
   rcases Nat.eq_zero_or_pos (bs.length - 8192 * k) with h | h
   ·rw [h] at hm; exact absurd hm (by rw [cnt_zero]; omega)
   ·exact h
  have hpl : (pcB bs k).length = min (bs.length - 8192 * k) 8192 := by rw [pcB_len, Nat.min_comm]
  have hpb : Byt (pcB bs k) := fun x hx => hb x (List.mem_of_mem_drop (List.mem_of_mem_take hx))
  obtain ⟨f1, f2, f3, f4, f5, f6⟩ := pk_facts limit hpb (by omega) (by omega)
  have hm2 : m = cnt (bs.length - 8192 * (k + 1)) := by rw [cnt_pos hpos] at hm; have : bs.length - 8192 * k - min (bs.length - 8192 * k) 8192 = bs.length - 8192 * (k + 1) := by omega
                                                        rw [this] at hm; omega
  obtain ⟨b1, b2⟩ := enR_byt limit hb m (k + 1) hm2
  rw [enR]
  refine ⟨(hdb_byt _).append (f1.append b1), ?_⟩
  rw [List.length_append, List.length_append, hdb_len]
  omega
/-- there and back -/
theorem en_back {bs : List Int} (limit : Nat) (hb : Byt bs) (hl : bs.length ≤ 16777216) :
  Byt (enM bs limit) ∧ (enM bs limit).length ≤ bs.length + 48 * cnt bs.length ∧ cks (enM bs limit) 0 (enM bs limit).length bs.length = (ckR bs limit (cnt bs.length) 0 0, 0) ∧ tellA (enM bs limit) (ckR bs limit (cnt bs.length) 0 0) [] = (bs, 0) := by
 obtain ⟨h1, h2⟩ := enR_byt limit hb (cnt bs.length) 0 rfl
 obtain ⟨h3, h4⟩ := lyg_all limit hb (enM bs limit) (cnt bs.length) 0 0 rfl (by rw [List.drop_zero, enM_enR]) (Nat.zero_le _)
 rw [← enM_enR] at h1 h2
 have h5 := h4 []
 rw [Nat.mul_zero, Nat.sub_zero] at h3
 rw [Nat.mul_zero, List.drop_zero, List.nil_append] at h5
 refine ⟨h1, by simpa using h2, ?_, h5⟩
 unfold cks
 rw [if_neg (by omega)]
 have e : lygs (enM bs limit) 0 ((enM bs limit).length : Int) (bs.length : Int) = (ckR bs limit (cnt bs.length) 0 0).map (fun c => (c, true)) := by
  unfold lygs
  rw [Int.toNat_natCast, Int.toNat_natCast, List.take_length]
  exact h3
 rw [e, if_pos (by simp), List.map_map]
 have e2 : ((fun x : Ck × Bool => x.1) ∘ fun c => (c, true)) = id := rfl
 rw [e2, List.map_id]
theorem run_fb14 (b : Nat) (w : World) : (callFunc 11 #[.int .u64 b]).run Try.prog w = .ok (.value (.float .f64 b)) w := by
 rw [run_callFunc_extern (P := Try.prog) Try.func11 (by kernel_rfl) (by kernel_rfl) (by kernel_rfl) (e := Extern.MathFloatBits.float64frombits) (by kernel_rfl)]
 rfl
theorem dcd_back {bs : List Int} (limit : Nat) (hb : Byt bs) (hl : bs.length ≤ 16777216) : dcd (enM bs limit) 0 (enM bs limit).length bs.length = (bs, 0) := by
 obtain ⟨h1, h2, h3, h4⟩ := en_back limit hb hl
 rw [dcd_tell (by rw [h3]), h3]
 exact h4
theorem Blk.byte14 {W : World} {g : Nat} {xs : List Int} (h : Blk W g (bv xs)) (hb : Byt xs) (hl : xs.length ≤ maxLen) : Byte W (some ⟨g, 0, none⟩) xs.length xs.length xs := ⟨h.row hb hl, (fun e => nomatch e), Nat.le_refl _, hl⟩
set_option maxHeartbeats 4000000 in
theorem metaEncodes_walk (a : Option Addr) (len cap : Nat) (zs : List Int) (limit : Int) (w : World) (hz : IsRow .u8 w a len cap zs) (hn : 0 ≤ limit ∧ limit < 18446744073709551616) :
  Calls Try.prog 3 #[.slice a len cap, .int .u64 limit] w fun e w' => e = .returned (.bool true) ∧ Below w.heap.size w w' := by
 obtain ⟨i5, hi, hz0, hz1, hz2⟩ := info_parts Try.info5
 obtain ⟨L, rfl⟩ := Int.eq_ofNat_of_zero_le hn.1
 have B := hz.byte
 generalize zs.take len = bs at B
 clear hz hn
 have hcm : cap ≤ 9223372036854775807 := B.cm
 have hnc := B.nc
 have hlb := B.row.len_eq
 by_cases hl : 40000 < len
 ·go_enter Try.func3, Try.ntmps3
  go_wp2_with fail
  refine (live14_any _).mono ?_
  rintro e w1 ⟨rfl, g1⟩
  have H1 : Hid _ := g1
  clear g1
  go_wp2
  go_ret
  exact ⟨rfl, grown_below H1.out⟩
 ·have hfb := run_fb14 L
  obtain ⟨hEb, hEl, hck, _⟩ := en_back L B.row.byt (by omega)
  have hdc := dcd_back L B.row.byt (by omega)
  rw [hlb] at hEl hck hdc
  have hcn : cnt len ≤ 5 := by unfold cnt; omega
  have hen := fun a' c' W (B' : Byte W a' len c' bs) => pencode14_any a' len c' bs L W B' (by omega)
  have hcl := ckR_len bs L (cnt len) 0 0
  have hrd := fun a' n c' W (B' : Byte W a' n c' (enM bs L)) (h : n ≤ 16777216) => rdecode14_any a' n c' (enM bs L) 0 ((enM bs L).length : Int) (len : Int) W B' h
  have hrc := fun a' n c' W (B' : Byte W a' n c' (enM bs L)) (h : n ≤ 16777216) => rchunks14_any a' n c' (enM bs L) 0 ((enM bs L).length : Int) (len : Int) W B' h
  rw [hdc] at hrd
  rw [hck] at hrc
  clear hdc hck
  generalize ckR bs L (cnt len) 0 0 = cl at *
  generalize enM bs L = E at *
  have HC : Hid _ := And.intro hen (And.intro hrd hrc)
  have HEB : Hid _ := hEb
  have HB : Hid _ := B
  have O0 := World.ownsRow_made (base := w.heap.size) (e := 5) (size := 1) w #[] 0 (Nat.le_refl _) (Nat.zero_le _) (by simp)
  have R0 := B.row.grown (World.grownBy_alloc w (.cells #[] 5) none)
  have hE2 : E.length ≤ 40240 := by omega
  have hq0 : (((len : Int) + 8192 - 1).tdiv 8192) = ((cnt len : Nat) : Int) := by unfold cnt; rw [Int.tdiv_eq_ediv_of_nonneg (by omega)]; omega
  have hq1 : (((len : Int) + 8191).tdiv 8192) = ((cnt len : Nat) : Int) := by unfold cnt; rw [Int.tdiv_eq_ediv_of_nonneg (by omega)]; omega
  have hq2 : (E.length : Int) ≤ (len : Int) + 48 * ((cnt len : Nat) : Int) := by omega
  have hq3 : IntKind.i64.wrap ((cnt len : Nat) : Int) = ((cnt len : Nat) : Int) := by rw [IntKind.wrap_i64]; omega
  have HQ : Hid _ := And.intro hq0 (And.intro hq1 (And.intro hq2 (And.intro hq3 hcn)))
  clear B hen hrd hrc hlb hEb hq0 hq1 hq2 hq3 hEl hcn
  generalize cnt len = nk at *
  go_enter Try.func3, Try.ntmps3
  go_wp2_with (at_builtin; refine wpList_append8 rfl _ _ 22 rfl w.heap.size i5 Try.underlying22 hi hz0 hz1 hz2 _ 0 [] rfl O0 _ len cap _ rfl R0 HB.out.nil (by omega) (by simp) ?_)
  intro v1 w1 o1 g1
  have G1 : w.grownBy w1 none := grown_own (World.grownBy_alloc w (.cells #[] 5) none) O0 g1 (Nat.le_refl _)
  obtain ⟨a1, c1, rfl, B1⟩ := byte_own (bs := bs) (by simpa using o1) HB.out.row.byt (by unfold maxLen; omega)
  have hd := HC.out.1 a1 c1 w1 B1
  have H1 : Hid _ := And.intro G1 B1
  clear O0 R0 o1 g1 G1 B1
  go_wp2_with fail
  refine hd.mono ?_
  clear hd
  intro e w2 k2
  obtain ⟨g, rfl, b2, _, g2⟩ := k2
  have B2 := b2.byte14 HEB.out (by unfold maxLen; omega)
  have hd := HC.out.2.1 _ _ _ w2 B2 (by omega)
  have H2 : Hid _ := And.intro (grown_trans H1.out.1 g2) (And.intro B2 (H1.out.2.grown g2))
  clear b2 g2 B2 H1
  simp only
  go_wp2_with fail
  refine hd.mono ?_
  clear hd
  intro e w3 k3
  obtain ⟨a3, n3, c3, rfl, B3, g3⟩ := k3
  have hd := HC.out.2.2 _ _ _ w3 (H2.out.2.1.grown g3) (by omega)
  have H3 : Hid _ := And.intro (grown_trans H2.out.1 g3) (And.intro B3 (H2.out.2.2.grown g3))
  clear B3 g3 H2 HC
  simp only
  go_wp2_with fail
  refine hd.mono ?_
  clear hd
  intro e w4 k4
  obtain ⟨a4, n4, c4, rfl, K4, _, g4⟩ := k4
  have hn4 : cl.length = n4 := K4.len_eq
  obtain rfl : nk = n4 := by omega
  have B3 := H3.out.2.1.grown g4
  have B1 := H3.out.2.2.grown g4
  have B0 := HB.out.grown (grown_trans H3.out.1 g4)
  have cx := conv_row (P := Try.prog) B3.row c3 22 9 Try.underlying22 Try.underlying5 Try.underlying9
  have cy := conv_row (P := Try.prog) B1.row c1 22 9 Try.underlying22 Try.underlying5 Try.underlying9
  have cz := conv_row (P := Try.prog) B0.row cap 22 9 Try.underlying22 Try.underlying5 Try.underlying9
  have H4 : Hid _ := grown_trans H3.out.1 g4
  generalize strOfNums bs = sb at *
  obtain ⟨q0, q1, q2, q3, q4⟩ := HQ.out
  clear B3 B1 B0 K4 g4 H3 hn4 hcl HQ
  simp only at cx cy cz ⊢
  go_wp2_with (first | (go_at_call 14; with_reducible refine (num14_any _ _).mono ?_; rintro e w' ⟨rfl, rfl⟩) | (go_at_call 9; refine (live14_any _).mono ?_; rintro e w5 ⟨rfl, g5⟩; have H5 : Hid _ := grown_trans H4.out g5; clear g5))
  go_ret
  exact ⟨rfl, grown_below H5.out⟩
end Go.Proofs.Ytkkigpobhagnfaa
