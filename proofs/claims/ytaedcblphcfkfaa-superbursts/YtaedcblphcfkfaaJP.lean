/- Plain facts: what is encoded is decoded as it was; a head whose bits are turned is none. -/
import Derived.Test.YtaedcblphcfkfaaJE
import Derived.Test.YtaedcblphcfkfaaDF
namespace Go.Proofs.Ytaedcblphcfkfaa
open Go.RowKit
set_option linter.unusedSimpArgs false
set_option linter.unusedVariables false

theorem chunk (R : List Int) : ∀ (Ls : List (List Int)) (k : Nat), (∀ L ∈ Ls, L.length = 4) → k < Ls.length → ((Ls.flatten ++ R).drop (4 * k)).take 4 = Ls.getD k []
  | [], k, _, hk => by simp at hk
  | L :: Ls, 0, h, _ => by
    have hL := h L (List.mem_cons_self ..)
    rw [List.flatten_cons, Nat.mul_zero, List.drop_zero, List.append_assoc, List.take_append_of_le_length (by omega), List.take_of_length_le (by omega)]
    rfl
  | L :: Ls, k + 1, h, hk => by
    have hL := h L (List.mem_cons_self ..)
    have ih := chunk R Ls k (fun M hM => h M (List.mem_cons_of_mem _ hM)) (by simpa using hk)
    have e : (L :: Ls).flatten ++ R = L ++ (Ls.flatten ++ R) := by rw [List.flatten_cons, List.append_assoc]
    rw [e, show 4 * (k + 1) = L.length + 4 * k by omega, List.drop_append, List.drop_of_length_le (by omega : L.length ≤ L.length + 4 * k), List.nil_append, Nat.add_sub_cancel_left, ih]
    rfl
def spl (s : Sp) : List (List Int) := [[80, 77, 83, 49], [1, 0, s.lg, 0], sto s.no 4, sto s.ln 4, sto s.a0 4, sto s.z0 4, sto s.a1 4, sto s.z1 4, sto s.a2 4, sto s.z2 4, sto s.a3 4, sto s.z3 4, sto s.a4 4, sto s.z4 4, sto s.a5 4, sto s.z5 4]
theorem spl_len (s : Sp) : ∀ L ∈ spl s, L.length = 4 := by
  intro L h
  simp only [spl, List.mem_cons, List.not_mem_nil, or_false] at h
  rcases h with rfl | rfl | rfl | rfl | rfl | rfl | rfl | rfl | rfl | rfl | rfl | rfl | rfl | rfl | rfl | rfl
  · rfl
  · rfl
  all_goals exact sto_len _ _
theorem spl_form (s : Sp) (more : List Int) : spb s ++ more = (spl s).flatten ++ (sto (crc ent 0 (spc s 6) : Nat) 4 ++ more) := by
  unfold spb
  generalize sto (crc ent 0 (spc s 6) : Nat) 4 = C
  rw [show spc s 6 = spc s 5 ++ sto s.a5 4 ++ sto s.z5 4 from rfl, show spc s 5 = spc s 4 ++ sto s.a4 4 ++ sto s.z4 4 from rfl, show spc s 4 = spc s 3 ++ sto s.a3 4 ++ sto s.z3 4 from rfl, show spc s 3 = spc s 2 ++ sto s.a2 4 ++ sto s.z2 4 from rfl, show spc s 2 = spc s 1 ++ sto s.a1 4 ++ sto s.z1 4 from rfl, show spc s 1 = spc s 0 ++ sto s.a0 4 ++ sto s.z0 4 from rfl, show spc s 0 = [80, 77, 83, 49] ++ [1, 0, s.lg, 0] ++ sto s.no 4 ++ sto s.ln 4 from rfl]
  simp only [spl, List.flatten_cons, List.flatten_nil, List.append_assoc, List.append_nil]
theorem spb_f (s : Sp) (more : List Int) (k : Nat) (h : k < 16) : ((spb s ++ more).drop (4 * k)).take 4 = (spl s).getD k [] := by
  rw [spl_form]
  exact chunk _ _ k (spl_len s) h
theorem spb_8 (s : Sp) (more : List Int) : (spb s ++ more).take 8 = [80, 77, 83, 49, 1, 0, s.lg, 0] := by
  rw [spl_form]
  simp only [spl, List.flatten_cons, List.append_assoc]
  generalize sto s.no 4 ++ _ = X
  rfl
theorem spb_lg (s : Sp) (more : List Int) : (spb s ++ more).getD 6 0 = s.lg := by
  have h := spb_8 s more
  have e : ((spb s ++ more).take 8).getD 6 0 = (spb s ++ more).getD 6 0 := by rw [List.getD_eq_getElem?_getD, List.getD_eq_getElem?_getD, List.getElem?_take, if_pos (by decide)]
  rw [← e, h]
  rfl
theorem spb_f1 (s : Sp) (more : List Int) : ((spb s ++ more).drop 8).take 4 = sto s.no 4 := spb_f s more 2 (by decide)
theorem spb_f2 (s : Sp) (more : List Int) : ((spb s ++ more).drop 12).take 4 = sto s.ln 4 := spb_f s more 3 (by decide)
theorem spb_f3 (s : Sp) (more : List Int) : ((spb s ++ more).drop 16).take 4 = sto s.a0 4 := spb_f s more 4 (by decide)
theorem spb_f4 (s : Sp) (more : List Int) : ((spb s ++ more).drop 20).take 4 = sto s.z0 4 := spb_f s more 5 (by decide)
theorem spb_f5 (s : Sp) (more : List Int) : ((spb s ++ more).drop 24).take 4 = sto s.a1 4 := spb_f s more 6 (by decide)
theorem spb_f6 (s : Sp) (more : List Int) : ((spb s ++ more).drop 28).take 4 = sto s.z1 4 := spb_f s more 7 (by decide)
theorem spb_f7 (s : Sp) (more : List Int) : ((spb s ++ more).drop 32).take 4 = sto s.a2 4 := spb_f s more 8 (by decide)
theorem spb_f8 (s : Sp) (more : List Int) : ((spb s ++ more).drop 36).take 4 = sto s.z2 4 := spb_f s more 9 (by decide)
theorem spb_f9 (s : Sp) (more : List Int) : ((spb s ++ more).drop 40).take 4 = sto s.a3 4 := spb_f s more 10 (by decide)
theorem spb_f10 (s : Sp) (more : List Int) : ((spb s ++ more).drop 44).take 4 = sto s.z3 4 := spb_f s more 11 (by decide)
theorem spb_f11 (s : Sp) (more : List Int) : ((spb s ++ more).drop 48).take 4 = sto s.a4 4 := spb_f s more 12 (by decide)
theorem spb_f12 (s : Sp) (more : List Int) : ((spb s ++ more).drop 52).take 4 = sto s.z4 4 := spb_f s more 13 (by decide)
theorem spb_f13 (s : Sp) (more : List Int) : ((spb s ++ more).drop 56).take 4 = sto s.a5 4 := spb_f s more 14 (by decide)
theorem spb_f14 (s : Sp) (more : List Int) : ((spb s ++ more).drop 60).take 4 = sto s.z5 4 := spb_f s more 15 (by decide)
theorem spb_64 (s : Sp) (more : List Int) : (spb s ++ more).take 64 = spc s 6 := by
  have h := spc_len s 6
  unfold spb
  rw [List.append_assoc, List.take_append_of_le_length (by omega), List.take_of_length_le (by omega)]
theorem spb_crc (s : Sp) (more : List Int) : ((spb s ++ more).drop 64).take 4 = sto (crc ent 0 (spc s 6) : Nat) 4 := by
  have h := spc_len s 6
  have e : spb s ++ more = spc s 6 ++ (sto (crc ent 0 (spc s 6) : Nat) 4 ++ more) := by unfold spb; rw [List.append_assoc]
  rw [e, List.drop_append_of_le_length (by omega), List.drop_of_length_le (by omega), List.nil_append, List.take_append_of_le_length (by rw [sto_len]; exact Nat.le_refl _), List.take_of_length_le (by rw [sto_len]; exact Nat.le_refl _)]
theorem srd_spb {s : Sp} (more : List Int) (h : srt s = true) : srd (spb s ++ more) = s := by
  obtain ⟨hh, hk⟩ := srt_iff.1 h
  unfold Hok at hh
  unfold Sok at hk
  unfold srd
  rw [spb_lg, spb_f1, spb_f2, spb_f3, spb_f4, spb_f5, spb_f6, spb_f7, spb_f8, spb_f9, spb_f10, spb_f11, spb_f12, spb_f13, spb_f14, le_sto8 s.no 4 (by omega) (by omega), le_sto8 s.ln 4 (by omega) (by omega), le_sto8 s.a0 4 (by omega) (by omega), le_sto8 s.z0 4 (by omega) (by omega), le_sto8 s.a1 4 (by omega) (by omega), le_sto8 s.z1 4 (by omega) (by omega), le_sto8 s.a2 4 (by omega) (by omega), le_sto8 s.z2 4 (by omega) (by omega), le_sto8 s.a3 4 (by omega) (by omega), le_sto8 s.z3 4 (by omega) (by omega), le_sto8 s.a4 4 (by omega) (by omega), le_sto8 s.z4 4 (by omega) (by omega), le_sto8 s.a5 4 (by omega) (by omega), le_sto8 s.z5 4 (by omega) (by omega)]
theorem sde_spb {s : Sp} (more : List Int) (h : srt s = true) : sde (spb s ++ more) = (s, 0) := by
  have hh := (srt_iff.1 h).1
  unfold Hok at hh
  have hl := spb_len s
  have hc := crc_lt ent 0 (spc s 6)
  have ho : opn (spb s ++ more) = true := by
    unfold opn
    rw [spb_lg, spb_8, decide_eq_true (by omega), decide_eq_true (by omega), decide_eq_true rfl]
    rfl
  unfold sde
  rw [if_neg (by rw [List.length_append]; omega), ho, if_neg (by decide), spb_crc, spb_64, le_sto8 _ 4 (by omega) (by omega), if_pos rfl, srd_spb more h, if_pos h]
theorem sto_le13 : ∀ {xs : List Int}, Byt xs → sto (le xs) xs.length = xs
  | [], _ => rfl
  | x :: r, h => by
    have h0 := h x (List.mem_cons_self ..)
    have ih := sto_le13 (xs := r) (fun z hz => h z (List.mem_cons_of_mem _ hz))
    rw [List.length_cons, sto, le]
    have e1 : (x + 256 * le r) % 256 = x := by omega
    have e2 : (x + 256 * le r) / 256 = le r := by omega
    rw [e1, e2, ih]
/-- whatever the head, its 68 bytes leave the same -/
theorem upd_sum {bs : List Int} (hb : Byt bs) (x : Int) (hx : x = (crc ent 0 bs : Nat)) : upd ent 4294967295 (bs ++ sto x 4) = halves 32 4294967295 := by
  have hc := upd_lt ent_tab hb (c := 4294967295) (by decide)
  subst hx
  rw [upd_append]
  have e : crc ent 0 bs = 4294967295 - upd ent 4294967295 bs := rfl
  rw [e]
  generalize upd ent 4294967295 bs = c at *
  rw [upd_sto 4 c (4294967295 - c) (by omega), xor_not hc]
theorem upd_spb {s : Sp} (h : 0 ≤ s.lg ∧ s.lg ≤ 255) : upd ent 4294967295 (spb s) = halves 32 4294967295 := by
  unfold spb
  exact upd_sum (spc_byt h 6) _ rfl
theorem sde_bad {bs : List Int} (hl : bs.length = 68) (hb : Byt bs) (h : upd ent 4294967295 bs ≠ halves 32 4294967295) : sde bs = (sp0, 6) ∨ sde bs = (sp0, 140) := by
  unfold sde
  rw [if_neg (by omega)]
  split
  · exact Or.inl rfl
  · split
    · rename_i k
      exfalso
      have e : bs = bs.take 64 ++ sto (le ((bs.drop 64).take 4)) 4 := by
        have e1 : (bs.drop 64).take 4 = bs.drop 64 := List.take_of_length_le (by simp; omega)
        have e2 := sto_le13 (hb.drop 64)
        rw [show (bs.drop 64).length = 4 by simp; omega] at e2
        rw [e1, e2, List.take_append_drop]
      have := upd_sum (hb.take 64) _ k
      rw [← e] at this
      exact h this
    · exact Or.inr rfl
end Go.Proofs.Ytaedcblphcfkfaa
