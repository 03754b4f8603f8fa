/- TableIdBytes' walk. -/
import Derived.Test.YtpahnkodhonlgaaVD17
import Derived.Test.YtpahnkodhonlgaaUE17
import Derived.Test.YtpahnkodhonlgaaUH17
import Derived.Test.YtpahnkodhonlgaaAC
namespace Go.Proofs.Ytpahnkodhonlgaa
open Go.RowKit Go.Shelf
set_option maxRecDepth 100000
set_option linter.unusedSimpArgs false
set_option linter.unusedVariables false
theorem rdw_enI : ∀ (l : List Int) (pre post : List Int), (∀ x ∈ l, 0 ≤ x ∧ x ≤ 4294967295) → rdw17 (pre ++ (enI17 l ++ post)) pre.length l.length = l
  | [], pre, post, _ => rfl
  | x :: l, pre, post, h => by
    obtain ⟨h1, h2⟩ := h x (List.mem_cons_self ..)
    have e : enI17 (x :: l) = sto x 4 ++ enI17 l := rfl
    have e2 := rdw_enI l (pre ++ sto x 4) post (fun y hy => h y (List.mem_cons_of_mem _ hy))
    rw [List.length_append, sto_length] at e2
    have e3 : ((pre ++ (enI17 (x :: l) ++ post)).drop pre.length).take 4 = sto x 4 := by
      rw [List.drop_left, e, List.append_assoc, List.take_append_of_le_length (by rw [sto_length]; exact Nat.le_refl _), List.take_of_length_le (by rw [sto_length]; exact Nat.le_refl _)]
    have e4 : rdw17 (pre ++ (enI17 (x :: l) ++ post)) pre.length (x :: l).length = le (((pre ++ (enI17 (x :: l) ++ post)).drop pre.length).take 4) :: rdw17 (pre ++ (enI17 (x :: l) ++ post)) (pre.length + 4) l.length := by
      unfold rdw17
      rw [List.length_cons, List.range_succ_eq_map, List.map_cons, List.map_map]
      congr 1
      refine List.map_congr_left fun i _ => ?_
      simp only [Function.comp]
      rw [show pre.length + 4 * (i + 1) = pre.length + 4 + 4 * i by omega]
    rw [e4, e3, le_sto]
    have e5 : x % 256 ^ 4 = x := by omega
    rw [e5]
    congr 1
    have e6 : pre ++ (enI17 (x :: l) ++ post) = (pre ++ sto x 4) ++ (enI17 l ++ post) := by rw [e]; simp only [List.append_assoc]
    rw [e6]
    exact e2
theorem dcI_enI {l : List Int} (h : rgi17 l = true) : dcI17 (enI17 l) = (l, 0) := by
  have hz := (rgi_at h).2
  have e := rdw_enI l [] [] (fun x hx => by
    obtain ⟨i, hi⟩ := List.getElem?_of_mem hx
    obtain ⟨h1, h2⟩ := List.getElem?_eq_some_iff.1 hi
    have := hz i h1
    rw [List.getD_eq_getElem?_getD, hi] at this
    exact this)
  rw [List.nil_append, List.append_nil, List.length_nil] at e
  unfold dcI17
  rw [enI_len, show 4 * l.length / 4 = l.length by omega, e, if_pos ⟨by omega, h⟩]
set_option maxHeartbeats 8000000 in
theorem tableIdBytes_walk (a : Option Addr) (len cap : Nat) (l : List Int) (a2 : Option Addr) (len2 cap2 : Nat) (zs : List Int) (w : World) (R : IRow w a len l) (hnil : a = none → cap = 0) (hz : IsRow .u8 w a2 len2 cap2 zs) :
    Calls Try.prog 4 #[.slice a len cap, .slice a2 len2 cap2] w fun e w' => e = .returned (.bool true) ∧ Below w.heap.size w w' := by
  have hlb := R.len_eq
  have hle := R.le
  unfold maxLen at hle
  have R2 := hz.row
  generalize zs.take len2 = bs at R2
  have hle2 := R2.le
  unfold maxLen at hle2
  have HL : Hid (∀ W : World, Calls Try.prog 8 #[] W fun e w' => e = .returned (.bool true) ∧ Below W.heap.size W w') := fun W => live17_any W
  clear hz hnil
  by_cases hg1 : 1000 < len ∧ len ≤ 65536
  · have h1 : (1000 : Int) < (len : Int) := by omega
    have h2 : (len : Int) ≤ 65536 := by omega
    clear R R2 hg1
    go_enter Try.func4, Try.ntmps4
    go_wp2_with (go_at_call 8; refine (HL.out _).mono ?_; rintro e w1 ⟨rfl, g1⟩)
    go_ret
    exact ⟨rfl, g1⟩
  by_cases hg2 : 3000 < len2
  · have h3 : (3000 : Int) < (len2 : Int) := by omega
    by_cases h1 : (1000 : Int) < (len : Int)
    · have h2 : ¬ (len : Int) ≤ 65536 := by omega
      clear R R2 hg1
      go_enter Try.func4, Try.ntmps4
      go_wp2_with (go_at_call 8; refine (HL.out _).mono ?_; rintro e w1 ⟨rfl, g1⟩)
      go_ret
      exact ⟨rfl, g1⟩
    · clear R R2 hg1
      go_enter Try.func4, Try.ntmps4
      go_wp2_with (go_at_call 8; refine (HL.out _).mono ?_; rintro e w1 ⟨rfl, g1⟩)
      go_ret
      exact ⟨rfl, g1⟩
  have h3 : ¬ (3000 : Int) < (len2 : Int) := by omega
  have HR : Hid _ := R
  have HR2 : Hid _ := R2
  have HRR : Hid (∀ W, w.grownBy W none → Calls Try.prog 14 #[.slice a len cap] W fun e w' => e = .returned (.bool (rgi17 l)) ∧ W.grownBy w' none) := fun W g => rrightI17_any a len cap l W (R.grown g)
  have HPD : Hid (∀ W, w.grownBy W none → Calls Try.prog 16 #[.slice a2 len2 cap2] W (IdPost W (dcI17 bs))) := fun W g => pdecodeI17_any a2 len2 cap2 bs W (R2.grown g) (by omega)
  have HRD : Hid (∀ W, w.grownBy W none → Calls Try.prog 18 #[.slice a2 len2 cap2] W (IdPost W (dcI17 bs))) := fun W g => rdecodeI17_any a2 len2 cap2 bs W (R2.grown g) (by omega)
  generalize dcI17 bs = DD at *
  obtain ⟨dl, de⟩ := DD
  have HPD : Hid (∀ W, w.grownBy W none → Calls Try.prog 16 #[.slice a2 len2 cap2] W fun e w' => ∃ b c, e = .returned (.tuple #[.slice b dl.length c, .int .i64 de]) ∧ IRow w' b dl.length dl ∧ W.grownBy w' none) := HPD
  have HRD : Hid (∀ W, w.grownBy W none → Calls Try.prog 18 #[.slice a2 len2 cap2] W fun e w' => ∃ b c, e = .returned (.tuple #[.slice b dl.length c, .int .i64 de]) ∧ IRow w' b dl.length dl ∧ W.grownBy w' none) := HRD
  cases hr : rgi17 l with
  | false =>
    have hE := pencodeI17_bad a len cap l w R hr
    rw [hr] at HRR
    have hg3 : (¬ (1000 : Int) < (len : Int)) ∨ ((1000 : Int) < (len : Int) ∧ ¬ (len : Int) ≤ 65536) := by omega
    clear R R2 hr hg1
    rcases hg3 with h1 | ⟨h1, h2⟩
    · skip
      go_enter Try.func4, Try.ntmps4
      go_wp2_with (go_at_call 13; refine hE.mono ?_; rintro e W1 ⟨rfl, g1⟩)
      go_wp2_with (go_at_call 14; refine (HRR.out _ g1).mono ?_; rintro e W2 ⟨rfl, g2⟩)
      have HGW : Hid _ := grown_trans g1 g2
      clear g1 g2 hE HRR
      go_wp2_with (first | (go_at_call 15; refine (num17_any _ _).mono ?_; rintro e wx ⟨rfl, rfl⟩) | fail)
      refine (HPD.out _ HGW.out).mono ?_
      rintro e W6 ⟨b6, c6, rfl, R6, g6⟩
      have HG6 : Hid _ := grown_trans HGW.out g6
      have HR6 : Hid _ := R6
      clear g6 R6 HGW
      go_wp2_with (go_at_call 18; refine (HRD.out _ HG6.out).mono ?_; rintro e W7 ⟨b7, c7, rfl, R7, g7⟩)
      have HG7 : Hid _ := grown_trans HG6.out g7
      have hsm := rsame17_any b6 b7 _ c6 _ c7 _ _ W7 (HR6.out.grown g7) R7
      rw [decide_eq_true rfl] at hsm
      clear g7 R7 HG6 HR6
      go_wp2_with fail
      refine hsm.mono ?_
      rintro e W8 ⟨rfl, g8⟩
      have HG8 : Hid _ := grown_trans HG7.out g8
      clear hsm g8 HG7
      go_wp2_with (first | (go_at_call 15; refine (num17_any _ _).mono ?_; rintro e wx ⟨rfl, rfl⟩) | (go_at_call 8; refine (HL.out _).mono ?_; rintro e w9 ⟨rfl, g9⟩) | fail)
      go_ret
      exact ⟨rfl, below_two17 (grown_below HG8.out) g9⟩
    · skip
      go_enter Try.func4, Try.ntmps4
      go_wp2_with (go_at_call 13; refine hE.mono ?_; rintro e W1 ⟨rfl, g1⟩)
      go_wp2_with (go_at_call 14; refine (HRR.out _ g1).mono ?_; rintro e W2 ⟨rfl, g2⟩)
      have HGW : Hid _ := grown_trans g1 g2
      clear g1 g2 hE HRR
      go_wp2_with (first | (go_at_call 15; refine (num17_any _ _).mono ?_; rintro e wx ⟨rfl, rfl⟩) | fail)
      refine (HPD.out _ HGW.out).mono ?_
      rintro e W6 ⟨b6, c6, rfl, R6, g6⟩
      have HG6 : Hid _ := grown_trans HGW.out g6
      have HR6 : Hid _ := R6
      clear g6 R6 HGW
      go_wp2_with (go_at_call 18; refine (HRD.out _ HG6.out).mono ?_; rintro e W7 ⟨b7, c7, rfl, R7, g7⟩)
      have HG7 : Hid _ := grown_trans HG6.out g7
      have hsm := rsame17_any b6 b7 _ c6 _ c7 _ _ W7 (HR6.out.grown g7) R7
      rw [decide_eq_true rfl] at hsm
      clear g7 R7 HG6 HR6
      go_wp2_with fail
      refine hsm.mono ?_
      rintro e W8 ⟨rfl, g8⟩
      have HG8 : Hid _ := grown_trans HG7.out g8
      clear hsm g8 HG7
      go_wp2_with (first | (go_at_call 15; refine (num17_any _ _).mono ?_; rintro e wx ⟨rfl, rfl⟩) | (go_at_call 8; refine (HL.out _).mono ?_; rintro e w9 ⟨rfl, g9⟩) | fail)
      go_ret
      exact ⟨rfl, below_two17 (grown_below HG8.out) g9⟩
  | true =>
    have hE := pencodeI17_ok a len cap l w R hr
    rw [hr] at HRR
    obtain ⟨h64, _⟩ := rgi_at hr
    have h1 : ¬ (1000 : Int) < (len : Int) := by omega
    have hel := enI_len l
    have hby := enI_byt l
    have hdc := dcI_enI hr
    have HDC : Hid (∀ W (b : Option Addr) (c : Nat), Row W b (enI17 l).length (enI17 l) → Calls Try.prog 16 #[.slice b (enI17 l).length c] W fun e w' => ∃ b5 c5, e = .returned (.tuple #[.slice b5 len c5, .int .i64 0]) ∧ IRow w' b5 len l ∧ W.grownBy w' none) := fun W b c R => by
      have h := pdecodeI17_any b (enI17 l).length c (enI17 l) W R (by omega)
      rw [hdc] at h
      refine h.mono ?_
      rintro e w' ⟨b5, c5, q1, q2, q3⟩
      simp only [hlb] at q1 q2
      exact ⟨b5, c5, q1, q2, q3⟩
    have HRB : Hid (∀ W, w.grownBy W none → Calls Try.prog 17 #[.slice a len cap] W fun e w' => ∃ b c, e = .returned (.slice b (enI17 l).length c) ∧ Row w' b (enI17 l).length (enI17 l) ∧ W.grownBy w' none) := fun W g => rbytesI17_any a len cap l W (R.grown g) hr
    have hlx : (enI17 l).length ≤ 100000 := by omega
    clear R R2 hr hdc hel hg1 h64
    generalize enI17 l = X at *
    have HBY : Hid _ := hby
    clear hby
    go_enter Try.func4, Try.ntmps4
    go_wp2_with (go_at_call 13; refine hE.mono ?_; rintro e W1 ⟨b, rfl, bb, hbw, g1⟩)
    have HR1 : Hid (Row W1 (some ⟨b, 0, none⟩) X.length X) := bb.row HBY.out (by unfold maxLen; omega)
    have hG1 := g1
    clear bb hE
    go_wp2_with (go_at_call 14; refine (HRR.out _ hG1).mono ?_; rintro e W2 ⟨rfl, g2⟩)
    have HG2 : Hid _ := grown_trans hG1 g2
    have HR1b : Hid _ := HR1.out.grown g2
    have hdd := HDC.out W2 _ X.length HR1b.out
    clear g1 hG1 g2 HRR HR1 HDC
    go_wp2_with fail
    refine hdd.mono ?_
    rintro e W3 ⟨b5, c5, rfl, R5, g3⟩
    have HG3 : Hid _ := grown_trans HG2.out g3
    have HRX : Hid _ := HR1b.out.grown g3
    have HR5 : Hid _ := R5
    clear hdd g3 R5 HG2 HR1b
    go_wp2_with fail
    obtain ⟨sb, hsb⟩ : ∃ sb, strOfNums X = sb := ⟨_, rfl⟩
    have HSB : Hid _ := hsb
    clear hsb
    have cvE : ∀ W, W3.grownBy W none → (convert 29 9 (.slice (some ⟨b, 0, none⟩) X.length X.length)).run Try.prog W = .ok (.string sb) W := by
      intro W h
      rw [← HSB.out]
      exact conv_row (P := Try.prog) (HRX.out.grown h) X.length 29 9 Try.underlying29 Try.underlying5 Try.underlying9
    have HCV : Hid _ := cvE
    clear cvE
    refine wp_region_held_drew (S := fun W => World.grownBy W3 W none) (by kernel_rfl) ⟨rfl, rfl, rfl, Nat.le_refl _, fun _ _ _ => rfl⟩ (fun hH => ?_)
    have hw00 : IntKind.i64.wrap 0 = 0 := by decide
    refine wpAnyH_take (i := 0) (oi := ⟨some 48, _, _, _, _, _⟩) (v := .int .i64 0) rfl (by kernel_rfl) (by kernel_rfl) (by kernel_rfl) (fun _ _ _ h => h) (Or.inl ⟨by rfl, fun w hSw => by go_simp⟩) hH ?_
    simp only [Act.put, List.setIfInBounds_toArray, List.set_cons_zero, List.set_cons_succ]
    refine wpAnyH_take (i := 2) (oi := ⟨some 50, _, _, _, _, _⟩) (v := .int .i64 0) rfl (by kernel_rfl) (by kernel_rfl) (by kernel_rfl) (fun _ _ _ h => h) (Or.inl ⟨by rfl, fun w hSw => by go_simp⟩) hH ?_
    simp only [Act.put, List.setIfInBounds_toArray, List.set_cons_zero, List.set_cons_succ]
    refine wpAnyH_ready (rs := [1]) (by kernel_rfl) (by simp) ?_
    refine AllReadyH.cons rfl (fun K hK => ?_) AllReadyH.nil
    go_simp
    go_wp2_with (go_at_call 15; refine (num17_any _ _).mono ?_; rintro e wx ⟨rfl, rfl⟩)
    refine hK.out _ _ hH (fun _ => ?_)
    clear hK K
    refine wpAnyH_ready (rs := [3]) (by kernel_rfl) (by simp) ?_
    refine AllReadyH.cons rfl (fun K hK => ?_) AllReadyH.nil
    go_simp
    go_wp2_with (go_at_call 15; refine (num17_any _ _).mono ?_; rintro e wx ⟨rfl, rfl⟩)
    refine hK.out _ _ hH (fun _ => ?_)
    clear hK K
    refine wpAnyH_take (i := 4) (oi := ⟨some 52, _, _, _, _, _⟩) (v := .int .i64 0) rfl (by kernel_rfl) (by kernel_rfl) (by kernel_rfl) (fun _ _ _ h => h) (Or.inl ⟨by rfl, fun w hSw => by go_simp⟩) hH ?_
    simp only [Act.put, List.setIfInBounds_toArray, List.set_cons_zero, List.set_cons_succ]
    refine wpAnyH_take (i := 5) (oi := ⟨some 53, _, _, _, _, _⟩) (v := .bool false) rfl (by kernel_rfl) (by kernel_rfl) (by kernel_rfl) (fun _ _ _ h => h) (Or.inl ⟨by rfl, fun w hSw => by go_simp⟩) hH ?_
    simp only [Act.put, List.setIfInBounds_toArray, List.set_cons_zero, List.set_cons_succ]
    refine wpAnyH_take (i := 6) (oi := ⟨some 54, _, _, _, _, _⟩) (v := .bool false) rfl (by kernel_rfl) (by kernel_rfl) (by kernel_rfl) (fun _ _ _ h => h) (Or.inl ⟨by rfl, fun w hSw => by go_simp⟩) hH ?_
    simp only [Act.put, List.setIfInBounds_toArray, List.set_cons_zero, List.set_cons_succ]
    refine wpAnyH_take (i := 7) (oi := ⟨some 55, _, _, _, _, _⟩) (v := .slice (some ⟨b, 0, none⟩) X.length X.length) rfl (by kernel_rfl) (by kernel_rfl) (by kernel_rfl) (fun _ _ _ h => h) (Or.inl ⟨by rfl, fun w hSw => by go_simp⟩) hH ?_
    simp only [Act.put, List.setIfInBounds_toArray, List.set_cons_zero, List.set_cons_succ]
    refine wpAnyH_take (i := 8) (oi := ⟨some 56, _, _, _, _, _⟩) (v := .string sb) rfl (by kernel_rfl) (by kernel_rfl) (by kernel_rfl) (fun _ _ _ h => h) (Or.inl ⟨by rfl, fun w hSw => by have cq := HCV.out _ hSw; go_simp⟩) hH ?_
    simp only [Act.put, List.setIfInBounds_toArray, List.set_cons_zero, List.set_cons_succ]
    refine wpAnyH_take (i := 9) (oi := ⟨some 57, _, _, _, _, _⟩) (v := .slice a len cap) rfl (by kernel_rfl) (by kernel_rfl) (by kernel_rfl) (fun _ _ _ h => h) (Or.inl ⟨by rfl, fun w hSw => by go_simp⟩) hH ?_
    simp only [Act.put, List.setIfInBounds_toArray, List.set_cons_zero, List.set_cons_succ]
    refine wpAnyH_ready (rs := [10]) (by kernel_rfl) (by simp) ?_
    refine AllReadyH.cons rfl (fun K hK => ?_) AllReadyH.nil
    rw [if_pos (by rfl)]
    go_wp2_with (go_at_call 17; refine (HRB.out _ (grown_trans HG3.out hH)).mono ?_; rintro e wx ⟨a4, c4, rfl, R4, gx⟩)
    have cx := conv_row (P := Try.prog) R4 c4 29 9 Try.underlying29 Try.underlying5 Try.underlying9
    rw [HSB.out] at cx
    replace hH := grown_trans hH gx
    refine hK.out _ _ hH (fun _ => ?_)
    clear hK K gx R4
    refine wpAnyH_ready (rs := [11]) (by kernel_rfl) (by simp) ?_
    refine AllReadyH.cons rfl (fun K hK => ?_) AllReadyH.nil
    rw [if_pos (by rfl)]
    go_wp2_with fail
    refine hK.out _ _ hH (fun _ => ?_)
    clear hK K cx
    refine wpAnyH_take (i := 12) (oi := ⟨some 60, _, _, _, _, _⟩) (v := .bool false) rfl (by kernel_rfl) (by kernel_rfl) (by kernel_rfl) (fun _ _ _ h => h) (Or.inl ⟨by rfl, fun w hSw => by go_simp⟩) hH ?_
    simp only [Act.put, List.setIfInBounds_toArray, List.set_cons_zero, List.set_cons_succ]
    refine wpAnyH_take (i := 13) (oi := ⟨some 61, _, _, _, _, _⟩) (v := .bool false) rfl (by kernel_rfl) (by kernel_rfl) (by kernel_rfl) (fun _ _ _ h => h) (Or.inl ⟨by rfl, fun w hSw => by go_simp⟩) hH ?_
    simp only [Act.put, List.setIfInBounds_toArray, List.set_cons_zero, List.set_cons_succ]
    refine wpAnyH_take (i := 14) (oi := ⟨some 62, _, _, _, _, _⟩) (v := .bool false) rfl (by kernel_rfl) (by kernel_rfl) (by kernel_rfl) (fun _ _ _ h => h) (Or.inl ⟨by rfl, fun w hSw => by go_simp⟩) hH ?_
    simp only [Act.put, List.setIfInBounds_toArray, List.set_cons_zero, List.set_cons_succ]
    refine wpAnyH_take (i := 15) (oi := ⟨some 63, _, _, _, _, _⟩) (v := .slice b5 len c5) rfl (by kernel_rfl) (by kernel_rfl) (by kernel_rfl) (fun _ _ _ h => h) (Or.inl ⟨by rfl, fun w hSw => by go_simp⟩) hH ?_
    simp only [Act.put, List.setIfInBounds_toArray, List.set_cons_zero, List.set_cons_succ]
    refine wpAnyH_take (i := 16) (oi := ⟨some 64, _, _, _, _, _⟩) (v := .slice a len cap) rfl (by kernel_rfl) (by kernel_rfl) (by kernel_rfl) (fun _ _ _ h => h) (Or.inl ⟨by rfl, fun w hSw => by go_simp⟩) hH ?_
    simp only [Act.put, List.setIfInBounds_toArray, List.set_cons_zero, List.set_cons_succ]
    have hsm : ∀ W, W3.grownBy W none → Calls Try.prog 10 #[.slice b5 len c5, .slice a len cap] W fun e w' => e = .returned (.bool true) ∧ W.grownBy w' none := fun W k => by
      have h := rsame17_any b5 a len c5 len cap l l W (HR5.out.grown k) (HR.out.grown (grown_trans HG3.out k))
      rw [decide_eq_true rfl] at h
      exact h
    refine wpAnyH_ready (rs := [17]) (by kernel_rfl) (by simp) ?_
    refine AllReadyH.cons rfl (fun K hK => ?_) AllReadyH.nil
    rw [if_pos (by rfl)]
    go_wp2_with (go_at_call 10; refine (hsm _ hH).mono ?_; rintro e wx ⟨rfl, gx⟩)
    replace hH := grown_trans hH gx
    refine hK.out _ _ hH (fun _ => ?_)
    clear hK K gx hsm
    refine wpAnyH_take (i := 18) (oi := ⟨some 66, _, _, _, _, _⟩) (v := .bool false) rfl (by kernel_rfl) (by kernel_rfl) (by kernel_rfl) (fun _ _ _ h => h) (Or.inl ⟨by rfl, fun w hSw => by go_simp⟩) hH ?_
    simp only [Act.put, List.setIfInBounds_toArray, List.set_cons_zero, List.set_cons_succ]
    refine wpAnyH_ready (rs := [19]) (by kernel_rfl) (by simp) ?_
    refine AllReadyH.cons rfl (fun K hK => ?_) AllReadyH.nil
    rw [if_pos (by rfl)]
    go_wp2_with fail
    refine hK.out _ _ hH (fun _ => ?_)
    clear hK K
    refine wpAnyH_done (by kernel_rfl) ?_ _
    have HGW : Hid _ := grown_trans HG3.out hH
    clear hH HG3 HRX HR5 HCV HRB
    go_wp2_with (go_at_call 16; refine (HPD.out _ HGW.out).mono ?_; rintro e W6 ⟨b6, c6, rfl, R6, g6⟩)
    have HG6 : Hid _ := grown_trans HGW.out g6
    have HR6 : Hid _ := R6
    clear g6 R6 HGW
    go_wp2_with (go_at_call 18; refine (HRD.out _ HG6.out).mono ?_; rintro e W7 ⟨b7, c7, rfl, R7, g7⟩)
    have HG7 : Hid _ := grown_trans HG6.out g7
    have hsm := rsame17_any b6 b7 _ c6 _ c7 _ _ W7 (HR6.out.grown g7) R7
    rw [decide_eq_true rfl] at hsm
    clear g7 R7 HG6 HR6
    go_wp2_with fail
    refine hsm.mono ?_
    rintro e W8 ⟨rfl, g8⟩
    have HG8 : Hid _ := grown_trans HG7.out g8
    clear hsm g8 HG7
    go_wp2_with (first | (go_at_call 15; refine (num17_any _ _).mono ?_; rintro e wx ⟨rfl, rfl⟩) | (go_at_call 8; refine (HL.out _).mono ?_; rintro e w9 ⟨rfl, g9⟩) | fail)
    go_ret
    exact ⟨rfl, below_two17 (grown_below HG8.out) g9⟩
end Go.Proofs.Ytpahnkodhonlgaa
