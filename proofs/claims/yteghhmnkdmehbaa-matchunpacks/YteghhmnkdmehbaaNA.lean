/- The page's examples (many, live), num. -/
import Derived.Test.YteghhmnkdmehbaaMJ
import Derived.Test.YteghhmnkdmehbaaMP
namespace Go.Proofs.Yteghhmnkdmehbaa
open Go.RowKit
set_option linter.unusedSimpArgs false
set_option linter.unusedVariables false

theorem num_any (x : Int) (w : World) : Calls Try.prog 10 #[.int .i64 x] w fun e w' => e = .returned (.int .i64 x) ∧ w = w' := by
  go_enter Try.func10, Try.ntmps10
  go_wp2
  go_ret
  exact ⟨rfl, rfl⟩
theorem rep_set (n j : Nat) (x : Int) (h : j < n) : (bv (List.replicate j x) ++ List.replicate (n - j) (Value.int .u8 0)).set j (.int .u8 x) = bv (List.replicate (j + 1) x) ++ List.replicate (n - (j + 1)) (Value.int .u8 0) := by
  have hl : (bv (List.replicate j x)).length = j := by rw [bv_length, List.length_replicate]
  rw [List.set_append_right _ _ (by omega), hl, Nat.sub_self, show n - j = (n - (j + 1)) + 1 by omega, List.replicate_succ (n := n - (j + 1)), List.set_cons_zero, List.replicate_succ' (n := j), bv_append, List.append_assoc]
  rfl
set_option maxHeartbeats 1000000 in
theorem many_any (n : Nat) (x : Int) (w : World) (hn : n ≤ 1048576) (hx : 0 ≤ x ∧ x < 256) :
    Calls Try.prog 19 #[.int .i64 n, .int .u8 x] w fun e w' => ∃ a, e = .returned (.slice a n n) ∧ Byte w' a n n (List.replicate n x) ∧ w.grownBy w' none := by
  obtain ⟨i5, hi, hz0, hz1, hz2⟩ := info_parts Try.info5
  go_enter Try.func19, Try.ntmps19
  go_wp2_with (at_make; refine wpList_make8 _ rfl _ _ 22 rfl i5 Try.underlying22 hi hz0 hz1 hz2 _ _ _ _ n rfl rfl rfl rfl (by omega) ?_)
  intro w1 b1 g1 s1
  have HB : Hid (Blk w1 w.heap.size (bv (List.replicate 0 x) ++ List.replicate (n - 0) (.int .u8 0))) := by show Blk _ _ _; simpa [bv] using b1
  have HG : Hid _ := g1
  clear b1 g1 s1
  go_wp2
  go_loopw [6] (fun vi wr => ∃ (j : Nat), vi = .int .i64 j ∧ j ≤ n ∧ Hid (Blk wr w.heap.size (bv (List.replicate j x) ++ List.replicate (n - j) (.int .u8 0)) ∧ w.grownBy wr none)) (fun vi _ => n - (intOf vi).toNat)
  case atStart => exact ⟨0, rfl, Nat.zero_le _, HB.out, HG.out⟩
  case round =>
    clear HB HG
    obtain ⟨j, rfl, hj, HY⟩ := hrel
    by_cases c1 : j < n
    · have c0 := HY.out.1.cell j
      have hl : (bv (List.replicate j x)).length = j := by rw [bv_length, List.length_replicate]
      rw [List.getElem?_append_right (by omega), hl, Nat.sub_self, show n - j = (n - (j + 1)) + 1 by omega, List.replicate_succ, List.getElem?_cons_zero] at c0
      have f0 := HY.out.1.frozen j
      have hs := HY.out.1.set j (.int .u8 x)
      rw [rep_set n j x c1] at hs
      have HY2 : Hid _ := And.intro hs (grown_new HY.out.2 (grown_set wr w.heap.size j (.int .u8 x)) (Nat.le_refl _))
      have c2 : (j : Int) < (n : Int) := by omega
      clear hs hl HY
      go_wp2
      go_roundw
      case rel => exact ⟨j + 1, by go_num, by omega, HY2⟩
      case measure => simp [intOf]; omega
    · obtain rfl : j = n := by omega
      have hb := HY.out.1
      rw [Nat.sub_self, List.replicate_zero, List.append_nil] at hb
      have hby : Byt (List.replicate j x) := fun y hy => by rw [List.eq_of_mem_replicate hy]; omega
      have hr := Blk.row hb hby (by unfold maxLen; simp; omega)
      rw [List.length_replicate] at hr
      have HF : Hid _ := And.intro hr HY.out.2
      clear hr hb hby HY
      go_wp2
      go_ret
      exact ⟨_, rfl, ⟨HF.out.1, (fun e => by cases e), Nat.le_refl _, (by unfold maxLen; omega)⟩, HF.out.2⟩
theorem pck_yes : ∃ J, pck (List.replicate 100 97) 4602678819172646912 = (J, true) := by
  unfold pck
  rw [enc_ex, List.length_replicate]
  exact ⟨_, if_pos wrth_yes⟩
theorem pck_no : ∃ J, pck (List.replicate 100 97) 0 = (J, false) := by
  unfold pck
  rw [enc_ex, List.length_replicate]
  exact ⟨_, if_neg (by rw [show wrth ((100 : Nat) : Int) ((11 : Nat) : Int) 0 = false from wrth_no]; decide)⟩
theorem bnd14 : bnd 14 = 15 := by decide
theorem bnd15 : bnd 15 = 17 := by decide
theorem bnd270 : bnd 270 = 273 := by decide
set_option maxHeartbeats 1000000 in
theorem live6_any (w : World) : Calls Try.prog 8 #[] w fun e w' => e = .returned (.bool true) ∧ w.grownBy w' none := by
  have hm := fun w => many_any 100 97 w (by omega) (by omega)
  have hq : (enc (List.replicate 100 97)).length ≤ 65536 := by have := enc_len (List.replicate 100 97); rw [List.length_replicate] at this; omega
  have hp := fun a w B L => pack_any a 100 100 (List.replicate 100 97) L w B (by omega) hq
  obtain ⟨J1, e1⟩ := pck_yes
  obtain ⟨J2, e2⟩ := pck_no
  have p1 := fun a w B => hp a w B 4602678819172646912
  have p2 := fun a w B => hp a w B 0
  rw [e1] at p1
  rw [e2] at p2
  have b1 := fun w => pbound_any 14 w (by omega)
  have b2 := fun w => pbound_any 15 w (by omega)
  have b3 := fun w => pbound_any 270 w (by omega)
  rw [bnd14] at b1
  rw [bnd15] at b2
  rw [bnd270] at b3
  have HP : Hid _ := And.intro hm (And.intro p1 p2)
  clear hp p1 p2 e1 e2 hq hm
  go_enter Try.func8, Try.ntmps8
  go_wp2_with fail
  refine (HP.out.1 _).mono ?_
  rintro e w1 ⟨a1, rfl, B1, g1⟩
  have k1 := HP.out.2.1 a1 w1 B1
  have HG : Hid _ := g1
  clear B1 g1
  simp only
  go_wp2_with fail
  refine k1.mono ?_
  intro e w2 h2
  obtain ⟨a2, n2, c2, rfl, _, g2⟩ := h2
  have HG2 : Hid _ := grown_trans HG.out g2
  clear g2 HG k1
  simp only
  go_wp2_with fail
  refine (HP.out.1 _).mono ?_
  rintro e w3 ⟨a3, rfl, B3, g3⟩
  have k3 := HP.out.2.2 a3 w3 B3
  have HG3 : Hid _ := grown_trans HG2.out g3
  clear B3 g3 HG2
  simp only
  go_wp2_with fail
  refine k3.mono ?_
  intro e w4 h4
  obtain ⟨a4, n4, c4, rfl, _, g4⟩ := h4
  have HG4 : Hid _ := grown_trans HG3.out g4
  clear g4 HG3 k3 HP
  simp only
  go_wp2_with (first | (go_at_call 10; with_reducible refine (num_any _ _).mono ?_; rintro e w' ⟨rfl, rfl⟩) | (go_at_call 12; first | (with_reducible refine (b1 _).mono ?_; rintro e w' ⟨rfl, rfl⟩) | (with_reducible refine (b2 _).mono ?_; rintro e w' ⟨rfl, rfl⟩) | (with_reducible refine (b3 _).mono ?_; rintro e w' ⟨rfl, rfl⟩)))
  go_ret
  exact ⟨rfl, HG4.out⟩
end Go.Proofs.Yteghhmnkdmehbaa
