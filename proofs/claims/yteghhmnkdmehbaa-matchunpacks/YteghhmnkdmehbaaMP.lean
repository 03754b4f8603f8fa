/- Plain facts: texts that repeat themselves; the page's example. -/
import Derived.Test.YteghhmnkdmehbaaMA
import Derived.Test.YteghhmnkdmehbaaGW
import Derived.KernelRfl
namespace Go.Proofs.Yteghhmnkdmehbaa
open Go.RowKit
set_option linter.unusedSimpArgs false
set_option linter.unusedVariables false

theorem enc_ex : (jcat (enc (List.replicate 100 97))).length = 11 := by kernel_rfl
theorem wrth_yes : wrth 100 11 4602678819172646912 = true := by kernel_rfl
theorem wrth_no : wrth 100 11 0 = false := by kernel_rfl

/-- a text that repeats itself from p on -/
def Rep6 (bs : List Int) (p : Nat) : Prop := ∀ i, i + p < bs.length → bs.getD (i + p) 0 = bs.getD i 0
theorem lon_stop (bs : List Int) (p t f off n : Nat) (h : n = bs.length - 5 - p) : lon bs p t f off n = (off, n) := by
  cases t with
  | zero => rfl
  | succ t => rw [lon, if_pos (Or.inr (Or.inr h))]
theorem lon_full {bs : List Int} {p q : Nat} (hq : q < p) (hm : p - q ≤ 65535) (ha : alk (her bs p) (bs.drop q) = bs.length - 5 - p) (h4 : 4 ≤ bs.length - 5 - p) (t : Nat) :
    ∀ f off n, q < f → f ≤ q + t → f ≤ p → slt bs (f - 1) = slt bs q → n ≤ bs.length - 5 - p → (lon bs p t f off n).2 = bs.length - 5 - p := by
  induction t with
  | zero => intro f off n h1 h2; omega
  | succ t ih =>
    intro f off n h1 h2 h3 hs hn
    by_cases e : n = bs.length - 5 - p
    · rw [lon_stop _ _ _ _ _ _ e]; exact e
    · rw [lon, if_neg (by omega)]
      have hk := alk_le (her bs p) (bs.drop (f - 1))
      rw [her_len] at hk
      by_cases hf : f = q + 1
      · subst hf
        rw [Nat.add_sub_cancel, ha, if_pos ⟨h4, by omega⟩, lon_stop _ _ _ _ _ _ rfl]
      · have g1 := las_ge (f - 1) (by omega : q < f - 1) hs.symm
        have g2 := las_le bs (slt bs (f - 1)) (f - 1)
        have g3 := las_slt (bs := bs) (s := slt bs (f - 1)) (f - 1) (by omega)
        split
        · exact ih _ _ _ (by omega) (by omega) (by omega) (g3.trans hs) hk
        · exact ih _ _ _ (by omega) (by omega) (by omega) (g3.trans hs) hn
theorem lng6_rep {bs : List Int} {per : Nat} (R : Rep6 bs per) (h0 : 0 < per) (hp : per ≤ 64) (p : Nat) (h1 : per ≤ p) (h2 : p + 12 ≤ bs.length) : (lng6 bs p).2 = bs.length - 5 - p := by
  have hq : ∀ i, p + i < bs.length → bs.getD (p + i) 0 = bs.getD (p - per + i) 0 := by
    intro i hi
    have := R (p - per + i) (by omega)
    rwa [show p - per + i + per = p + i by omega] at this
  have hs : slt bs (p - per) = slt bs p := by
    unfold slt
    have a0 := hq 0 (by omega)
    have a1 := hq 1 (by omega)
    have a2 := hq 2 (by omega)
    have a3 := hq 3 (by omega)
    rw [Nat.add_zero, Nat.add_zero] at a0
    rw [a0, a1, a2, a3]
  have ha : alk (her bs p) (bs.drop (p - per)) = bs.length - 5 - p := by
    rw [alk_all, her_len]
    · intro i hi
      rw [her_len] at hi
      rw [her_get hi, drop_get]
      exact hq i (by omega)
    · rw [her_len]; simp; omega
  have g1 := las_ge p (by omega : p - per < p) hs
  have g2 := las_le bs (slt bs p) p
  have g3 := las_slt (bs := bs) (s := slt bs p) p (by omega)
  unfold lng6
  exact lon_full (by omega) (by omega) ha (by omega) 64 _ _ _ (by omega) (by omega) g2 (g3.trans hs.symm) (by omega)
theorem tol_one {n : Nat} (h : n ≤ 269) : (tol n).length ≤ 1 := by
  by_cases h1 : (n : Int) < 15
  · rw [tol_none h1]; omega
  · have := tol_big (n := n) (by omega); omega
theorem tol_copy {m : Nat} (h : 4 ≤ m) : ((tol ((m : Int) - 4)).length : Int) ≤ m / 255 + 1 := by
  by_cases h1 : (m : Int) - 4 < 15
  · rw [tol_none h1]; omega
  · have := tol_big (n := (m : Int) - 4) (by omega); omega
theorem div255 (a b : Nat) : a / 255 + b / 255 ≤ (a + b) / 255 := by omega
theorem jlen_last (l : List Int) : (jbytes true (l, 0, 0)).length = 1 + (tol l.length).length + l.length := by unfold jbytes; simp; omega
theorem jlen_more (l : List Int) (o : Int) (m : Nat) : (jbytes false (l, o, (m : Int))).length = 3 + (tol l.length).length + l.length + (tol ((m : Int) - 4)).length := by unfold jbytes; simp; omega
theorem jcat_cons (q : Sq) (r : List Sq) (h : r ≠ []) : (jcat (q :: r)).length = (jbytes false q).length + (jcat r).length := by
  cases r with
  | nil => exact absurd rfl h
  | cons x r => rw [jcat]; simp
theorem sqs_ne (bs : List Int) (f told p : Nat) : sqs bs f told p ≠ [] := by
  induction f generalizing told p with
  | zero => simp [sqs]
  | succ f ih =>
    rw [sqs]
    split
    · split
      · simp
      · exact ih _ _
    · simp
theorem jcat_one (q : Sq) : jcat [q] = jbytes true q := by simp [jcat]
/-- how long the block of a text that repeats itself may be, and how many sequences -/
theorem sqs_rep {bs : List Int} {per : Nat} (R : Rep6 bs per) (h0 : 0 < per) (hp : per ≤ 64) (f : Nat) : ∀ told p, told ≤ p → p ≤ told + 64 → bs.length ≤ p + f → 
    (jcat (sqs bs f told p)).length ≤ (p - told) + 2 * (per - p) + 13 + (bs.length - p) / 255 + (if p < per then 5 else 0) ∧ (sqs bs f told p).length ≤ per - p + 2 := by
  have fin : ∀ told p, told ≤ p → p ≤ told + 64 → bs.length < p + 12 → (jcat [(bs.drop told, (0 : Int), (0 : Int))]).length ≤ (p - told) + 13 := by
    intro told p h1 h2 h3
    rw [jcat_one, jlen_last]
    have := tol_one (n := (bs.drop told).length) (by simp; omega)
    have e : (bs.drop told).length = bs.length - told := by simp
    omega
  induction f with
  | zero =>
    intro told p h1 h2 h3
    have := fin told p h1 h2 (by omega)
    rw [sqs]
    refine ⟨by omega, by simp⟩
  | succ f ih =>
    intro told p h1 h2 h3
    rw [sqs]
    by_cases hp12 : p + 12 ≤ bs.length
    · rw [if_pos hp12]
      have hok := lng6_ok bs p hp12
      have hrep := fun h => lng6_rep R h0 hp p h hp12
      generalize lng6 bs p = r at *
      obtain ⟨ro, m⟩ := r
      simp only at *
      by_cases hm : 0 < m
      · rw [if_pos hm]
        have G : Gd bs p ro m := by
          rcases hok with h | h
          · omega
          · exact h
        have hg := G.gn
        obtain ⟨i1, i2⟩ := ih (p + m) (p + m) (Nat.le_refl _) (by omega) (by omega)
        have hl : ((bs.drop told).take (p - told)).length = p - told := by simp; omega
        have t1 := tol_one (n := p - told) (by omega)
        have t2 := tol_copy hg.1
        have d1 := div255 m (bs.length - (p + m))
        rw [show m + (bs.length - (p + m)) = bs.length - p by omega] at d1
        have e1 := jcat_cons ((bs.drop told).take (p - told), (ro : Int), (m : Int)) (sqs bs f (p + m) (p + m)) (sqs_ne _ _ _ _)
        rw [jlen_more, hl] at e1
        constructor
        · rw [e1]
          by_cases c1 : p < per
          · rw [if_pos c1]
            by_cases c2 : p + m < per
            · rw [if_pos c2] at i1; omega
            · rw [if_neg c2] at i1; omega
          · rw [if_neg c1]
            have hH := hrep (by omega)
            have hlast : sqs bs f (p + m) (p + m) = [(bs.drop (p + m), 0, 0)] := by
              cases f with
              | zero => rfl
              | succ f => rw [sqs, if_neg (by omega)]
            rw [hlast, jcat_one, jlen_last]
            have t3 := tol_none (n := ((bs.drop (p + m)).length : Int)) (by simp; omega)
            have e : (bs.drop (p + m)).length = bs.length - (p + m) := by simp
            omega
        · by_cases c1 : p < per
          · simp only [List.length_cons]; omega
          · have hH := hrep (by omega)
            have hlast : sqs bs f (p + m) (p + m) = [(bs.drop (p + m), 0, 0)] := by
              cases f with
              | zero => rfl
              | succ f => rw [sqs, if_neg (by omega)]
            rw [hlast]; simp
      · rw [if_neg hm]
        have c1 : p < per := by
          rcases Nat.lt_or_ge p per with h | h
          · exact h
          · have := hrep h; omega
        obtain ⟨i1, i2⟩ := ih told (p + 1) (by omega) (by omega) (by omega)
        rw [if_pos c1]
        refine ⟨?_, by omega⟩
        have : (bs.length - (p + 1)) / 255 ≤ (bs.length - p) / 255 := Nat.div_le_div_right (by omega)
        split at i1 <;> omega
    · rw [if_neg hp12]
      have := fin told p h1 h2 (by omega)
      refine ⟨by omega, by simp⟩
theorem enc_rep {bs : List Int} {per : Nat} (R : Rep6 bs per) (h0 : 0 < per) (hp : per ≤ 64) : (jcat (enc bs)).length ≤ 256 + bs.length / 255 ∧ (enc bs).length ≤ 66 := by
  obtain ⟨h1, h2⟩ := sqs_rep R h0 hp (bs.length + 1) 0 0 (Nat.le_refl _) (by omega) (by omega)
  rw [if_pos h0] at h1
  unfold enc
  constructor
  · omega
  · omega
end Go.Proofs.Yteghhmnkdmehbaa
