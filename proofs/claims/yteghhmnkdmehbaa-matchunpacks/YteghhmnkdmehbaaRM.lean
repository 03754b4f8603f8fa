/- Plain facts: what Join makes, Decode's rounds find again. -/
import Derived.Test.YteghhmnkdmehbaaRL
namespace Go.Proofs.Yteghhmnkdmehbaa
open Go.RowKit
set_option linter.unusedSimpArgs false
set_option linter.unusedVariables false

theorem getD_at (A C : List Int) (x : Int) : (A ++ x :: C).getD A.length 0 = x := by
  rw [List.getD_eq_getElem?_getD, List.getElem?_append_right (Nat.le_refl _), Nat.sub_self]; rfl
theorem getD_at' (A C : List Int) (x : Int) (i : Nat) (h : i = A.length) : (A ++ x :: C).getD i 0 = x := by subst h; exact getD_at A C x
theorem lng_tol' (bs pre post : List Int) (n t : Int) (i : Nat) (h : 0 ≤ n) (hb : bs = pre ++ (tol n ++ post)) (ht : t = fou n) (hi : i = pre.length) : lng bs t i = (n, ((pre.length + (tol n).length : Nat) : Int)) := by
  subst hb ht hi; exact lng_tol pre post n h
theorem dst_last (A lit : List Int) (ol : Nat) (M : Int) (h4 : ((ol + lit.length : Nat) : Int) ≤ M) :
    dst (A ++ jbytes true (lit, 0, 0)) M ol A.length = .last (A.length + 1 + (tol lit.length).length) lit.length := by
  have hf := fou_in (n := lit.length) (by omega)
  have ej : jbytes true (lit, 0, 0) = 16 * fou lit.length :: (tol lit.length ++ lit) := rfl
  rw [ej]
  generalize hbs : A ++ 16 * fou lit.length :: (tol lit.length ++ lit) = bs
  have hlen : bs.length = A.length + 1 + (tol lit.length).length + lit.length := by rw [← hbs]; simp; omega
  have hx : bs.getD A.length 0 = 16 * fou lit.length := by rw [← hbs]; exact getD_at _ _ _
  have hl := lng_tol' bs (A ++ [16 * fou lit.length]) lit lit.length (bs.getD A.length 0 / 16) (A.length + 1) (by omega) (by rw [← hbs]; simp) (by rw [hx]; omega) (by simp)
  unfold dst
  rw [if_neg (by omega), hl]
  simp only [List.length_append, List.length_singleton, Int.toNat_natCast]
  rw [if_neg (by omega), if_neg (by omega), if_neg (by omega)]
  unfold dst.dst2
  rw [if_pos (by omega)]
theorem dst_more (A C lit : List Int) (o m : Int) (ol : Nat) (M : Int) (hC : 0 < C.length) (h1 : 1 ≤ o ∧ o ≤ 65535) (h2 : 4 ≤ m) (h3 : o ≤ ((ol + lit.length : Nat) : Int)) (h4 : ((ol + lit.length : Nat) : Int) + m ≤ M) :
    dst (A ++ (jbytes false (lit, o, m) ++ C)) M ol A.length = .more (A.length + 1 + (tol lit.length).length) lit.length o.toNat m.toNat (A.length + (jbytes false (lit, o, m)).length) := by
  have hf := fou_in (n := lit.length) (by omega)
  have hg := fou_in (n := m - 4) (by omega)
  have ej : jbytes false (lit, o, m) = (16 * fou lit.length + fou (m - 4)) :: (tol lit.length ++ (lit ++ (o % 256 :: o / 256 :: tol (m - 4)))) := rfl
  rw [ej]
  generalize hT : 16 * fou lit.length + fou (m - 4) = T
  generalize hbs : A ++ (T :: (tol lit.length ++ (lit ++ (o % 256 :: o / 256 :: tol (m - 4)))) ++ C) = bs
  have hlen : bs.length = A.length + 1 + (tol lit.length).length + lit.length + 2 + (tol (m - 4)).length + C.length := by rw [← hbs]; simp; omega
  have hx : bs.getD A.length 0 = T := by rw [← hbs, List.cons_append]; exact getD_at _ _ _
  have hl := lng_tol' bs (A ++ [T]) (lit ++ (o % 256 :: o / 256 :: (tol (m - 4) ++ C))) lit.length (bs.getD A.length 0 / 16) (A.length + 1) (by omega) (by rw [← hbs]; simp) (by rw [hx]; omega) (by simp)
  have hl2 := lng_tol' bs (A ++ [T] ++ tol lit.length ++ lit ++ [o % 256, o / 256]) C (m - 4) (bs.getD A.length 0 % 16) (A.length + 1 + (tol lit.length).length + lit.length + 2) (by omega) (by rw [← hbs]; simp) (by rw [hx]; omega) (by simp; omega)
  have ho1 : bs.getD (A.length + 1 + (tol lit.length).length + lit.length) 0 = o % 256 := by
    rw [← hbs, show A ++ (T :: (tol lit.length ++ (lit ++ (o % 256 :: o / 256 :: tol (m - 4)))) ++ C) = (A ++ [T] ++ tol lit.length ++ lit) ++ o % 256 :: (o / 256 :: (tol (m - 4) ++ C)) by simp]
    exact getD_at' _ _ _ _ (by simp; omega)
  have ho2 : bs.getD (A.length + 1 + (tol lit.length).length + lit.length + 1) 0 = o / 256 := by
    rw [← hbs, show A ++ (T :: (tol lit.length ++ (lit ++ (o % 256 :: o / 256 :: tol (m - 4)))) ++ C) = (A ++ [T] ++ tol lit.length ++ lit ++ [o % 256]) ++ o / 256 :: (tol (m - 4) ++ C) by simp]
    exact getD_at' _ _ _ _ (by simp; omega)
  unfold dst
  rw [if_neg (by omega), hl]
  simp only [List.length_append, List.length_singleton, Int.toNat_natCast]
  rw [if_neg (by omega), if_neg (by omega), if_neg (by omega)]
  unfold dst.dst2
  rw [if_neg (by omega), if_neg (by omega), ho1, ho2, hl2, show o % 256 + 256 * (o / 256) = o by omega, if_neg (by omega)]
  simp only [List.length_append, List.length_singleton, List.length_cons, List.length_nil, Int.toNat_natCast]
  rw [if_neg (by omega), if_neg (by omega), show m - 4 + 4 = m by omega]
  congr 1
  omega
end Go.Proofs.Yteghhmnkdmehbaa
