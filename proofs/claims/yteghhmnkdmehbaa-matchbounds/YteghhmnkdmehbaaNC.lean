/- The walk of MatchBounds. -/
import Derived.Test.YteghhmnkdmehbaaNB
namespace Go.Proofs.Yteghhmnkdmehbaa
open Go.RowKit
set_option linter.unusedSimpArgs false
set_option linter.unusedVariables false

theorem rep_rep (n : Nat) (x : Int) : Rep6 (List.replicate n x) 1 := by
  intro i hi
  rw [List.length_replicate] at hi
  rw [List.getD_eq_getElem?_getD, List.getD_eq_getElem?_getD, List.getElem?_replicate, List.getElem?_replicate, if_pos hi, if_pos (by omega)]
set_option maxHeartbeats 1000000 in
theorem matchBounds_walk (n : Int) (w : World) (hn : (Lit.int .i64 n).wf = true) :
    Calls Try.prog 4 #[.int .i64 n] w fun e w' => e = .returned (.bool true) ∧ Below w.heap.size w w' := by
  obtain ⟨i5, hi, hz0, hz1, hz2⟩ := info_parts Try.info5
  have hnr := wf_i64 hn
  clear hn
  have h1 := fun W => pbound_any n W hnr
  have h2 := fun W => (bound_any n W hnr).mono (R' := fun e w' => e = .returned (.int .i64 (bnd n)) ∧ W = w') (fun e w' h => ⟨h.1, h.2.symm⟩)
  generalize bnd n = bn at *
  by_cases hl : n < 1048574 ∨ 1048578 < n
  · rcases hl with hl | hl
    all_goals
      go_enter Try.func4, Try.ntmps4
      go_wp2_with (first | (go_at_call 12; refine (h1 _).mono ?_; rintro e w' ⟨rfl, rfl⟩) | (go_at_call 13; refine (h2 _).mono ?_; rintro e w' ⟨rfl, rfl⟩) | (go_at_call 8; refine (live6_any _).mono ?_; rintro e w4 ⟨rfl, g3⟩; have H4 : Hid _ := g3; clear g3))
      go_ret
      exact ⟨rfl, grown_below (Hid.out (by assumption))⟩
  · obtain ⟨k, rfl⟩ := Int.eq_ofNat_of_zero_le (by omega : 0 ≤ n)
    have d1 : decide ((k : Int) < 1048574) = false := decide_eq_false (by omega)
    have d2 : decide ((1048578 : Int) < (k : Int)) = false := decide_eq_false (by omega)
    have hk1 : k ≤ 1048578 := by omega
    have hk0 : 1048574 ≤ k := by omega
    clear hl
    go_enter Try.func4, Try.ntmps4
    go_wp2_with (first | (go_at_call 12; refine (h1 _).mono ?_; rintro e w' ⟨rfl, rfl⟩) | (go_at_call 13; refine (h2 _).mono ?_; rintro e w' ⟨rfl, rfl⟩) | (at_make; refine wpList_make8 _ rfl _ _ 22 rfl i5 Try.underlying22 hi hz0 hz1 hz2 _ _ _ _ k rfl rfl rfl rfl (by omega) ?_))
    intro w1 b1 g1 s1
    clear h1 h2 d1 d2
    by_cases hk : 1048576 < k
    · have he := encode_long (some ⟨w.heap.size, 0, none⟩) k k w1 hk (by omega)
      have HG : Hid _ := g1
      clear b1 g1 s1
      go_wp2_with fail
      refine he.mono ?_
      rintro e w2 ⟨rfl, rfl⟩
      clear he
      go_wp2_with (first | (go_at_call 10; with_reducible refine (num_any _ _).mono ?_; rintro e w' ⟨rfl, rfl⟩) | (go_at_call 8; refine (live6_any _).mono ?_; rintro e w4 ⟨rfl, g3⟩; have H4 : Hid _ := grown_trans HG.out g3; clear g3))
      go_ret
      exact ⟨rfl, grown_below H4.out⟩
    · have hby : Byt (List.replicate k (0 : Int)) := fun y hy => by rw [List.eq_of_mem_replicate hy]; omega
      have b2 : Blk w1 w.heap.size (bv (List.replicate k (0 : Int))) := by
        have e : bv (List.replicate k (0 : Int)) = List.replicate k (Value.int .u8 0) := by simp [bv]
        rw [e]; exact b1
      have hr := Blk.row b2 hby (by rw [List.length_replicate]; unfold maxLen; omega)
      rw [List.length_replicate] at hr
      obtain ⟨e1, e2⟩ := enc_rep (rep_rep k 0) (by omega) (by omega)
      rw [List.length_replicate] at e1
      have he := encode_any (some ⟨w.heap.size, 0, none⟩) k k (List.replicate k 0) w1 ⟨hr, (fun e => by cases e), Nat.le_refl _, (by unfold maxLen; omega)⟩ (by omega) (by omega)
      have HG : Hid _ := g1
      generalize jcat (enc (List.replicate k 0)) = J at *
      clear b1 b2 g1 s1 hr hby e2
      go_wp2_with fail
      refine he.mono ?_
      intro e w2 k2
      obtain ⟨a2, n2, c2, rfl, B2, g2⟩ := k2
      have hn2 : J.length = n2 := B2.row.len_eq
      have HG2 : Hid _ := grown_trans HG.out g2
      have hle : (n2 : Int) ≤ 256 + (k : Int) / 255 := by omega
      clear he B2 g2 HG hn2 e1
      simp only
      go_wp2_with (first | (go_at_call 10; with_reducible refine (num_any _ _).mono ?_; rintro e w' ⟨rfl, rfl⟩) | (go_at_call 8; refine (live6_any _).mono ?_; rintro e w4 ⟨rfl, g3⟩; have H4 : Hid _ := grown_trans HG2.out g3; clear g3))
      go_ret
      exact ⟨rfl, grown_below H4.out⟩
end Go.Proofs.Yteghhmnkdmehbaa
