/- TableFrags' walk. -/
import Derived.Test.YtpahnkodhonlgaaZA17
import Derived.Test.YtpahnkodhonlgaaYB17
import Derived.Test.YtpahnkodhonlgaaWC17
import Derived.Test.YtpahnkodhonlgaaUE17
import Derived.Test.YtpahnkodhonlgaaUH17
import Derived.Test.YtpahnkodhonlgaaAC
namespace Go.Proofs.Ytpahnkodhonlgaa
open Go.RowKit Go.Shelf
set_option maxRecDepth 100000
set_option linter.unusedSimpArgs false
set_option linter.unusedVariables false
theorem enF_app (a b : List Fr) : enF17 (a ++ b) = enF17 a ++ enF17 b := by unfold enF17; simp
theorem enF_split {l : List Fr} {i : Nat} {F : Fr} (h : l[i]? = some F) : enF17 l = enF17 (l.take i) ++ (sto F.at_ 4 ++ (sto F.wd 4 ++ (sto F.pl 4 ++ enF17 (l.drop (i + 1))))) := by
  obtain ⟨h1, h2⟩ := List.getElem?_eq_some_iff.1 h
  have e : l = l.take i ++ (F :: l.drop (i + 1)) := by
    have := List.take_append_drop i l
    rw [List.drop_eq_getElem_cons h1, h2] at this
    exact this.symm
  have e2 : enF17 (F :: l.drop (i + 1)) = sto F.at_ 4 ++ (sto F.wd 4 ++ (sto F.pl 4 ++ enF17 (l.drop (i + 1)))) := by
    unfold enF17 frB17
    rw [List.map_cons, List.flatten_cons]
    simp only [List.append_assoc]
  have e3 := enF_app (l.take i) (F :: l.drop (i + 1))
  rw [← e, e2] at e3
  exact e3
theorem take_sto4 (x : Int) (r : List Int) (h0 : 0 ≤ x) (h1 : x ≤ 4294967295) : le ((sto x 4 ++ r).take 4) = x := by
  rw [List.take_append_of_le_length (by rw [sto_length]; exact Nat.le_refl _), List.take_of_length_le (by rw [sto_length]; exact Nat.le_refl _), le_sto]
  omega
theorem drop_sto4 (x : Int) (r : List Int) : (sto x 4 ++ r).drop 4 = r := List.drop_left' (by rw [sto_length])
theorem frT_enF {l : List Fr} {i : Nat} {F : Fr} (h : l[i]? = some F) (ha : 0 ≤ F.at_ ∧ F.at_ ≤ 4294967295) (hw : 0 ≤ F.wd ∧ F.wd ≤ 4294967295) (hp : 0 ≤ F.pl ∧ F.pl ≤ 4294967295) : frT17 (enF17 l) (12 * i) = F := by
  have hi : i < l.length := (List.getElem?_eq_some_iff.1 h).1
  have hd : (enF17 l).drop (12 * i) = sto F.at_ 4 ++ (sto F.wd 4 ++ (sto F.pl 4 ++ enF17 (l.drop (i + 1)))) := by
    rw [enF_split h]
    exact List.drop_left' (by rw [enF_len, List.length_take]; omega)
  have hd4 : (enF17 l).drop (12 * i + 4) = sto F.wd 4 ++ (sto F.pl 4 ++ enF17 (l.drop (i + 1))) := by
    rw [← List.drop_drop, hd, drop_sto4]
  have hd8 : (enF17 l).drop (12 * i + 8) = sto F.pl 4 ++ enF17 (l.drop (i + 1)) := by
    rw [(by omega : 12 * i + 8 = 12 * i + 4 + 4), ← List.drop_drop, hd4, drop_sto4]
  unfold frT17
  rw [hd, hd4, hd8, take_sto4 _ _ ha.1 ha.2, take_sto4 _ _ hw.1 hw.2, take_sto4 _ _ hp.1 hp.2]
theorem dcF_enF {l : List Fr} (h : rgf17 l = true) : dcF17 (enF17 l) = (l, 0) := by
  have hz := (rgf_at h).2
  have e : frs17 (enF17 l) l.length = l := by
    refine List.ext_getElem? fun i => ?_
    by_cases hi : i < l.length
    · have hg : l[i]? = some l[i] := List.getElem?_eq_getElem hi
      obtain ⟨k1, k2, k3⟩ := hz l[i] (List.getElem_mem hi)
      unfold frs17
      rw [List.getElem?_map, List.getElem?_range hi, hg]
      exact congrArg some (frT_enF hg ⟨k1.1, by omega⟩ ⟨by omega, by omega⟩ ⟨by omega, by omega⟩)
    · rw [List.getElem?_eq_none (by rw [frs17_len]; omega), List.getElem?_eq_none (by omega)]
  unfold dcF17
  rw [enF_len, show 12 * l.length / 12 = l.length by omega, e, if_pos ⟨by omega, h⟩]
set_option maxHeartbeats 8000000 in
theorem tableFrags_walk (a : Option Addr) (len cap : Nat) (l : List Fr) (a2 : Option Addr) (len2 cap2 : Nat) (zs : List Int) (w : World) (R : Frs w a len l) (hz : IsRow .u8 w a2 len2 cap2 zs) :
    Calls Try.prog 7 #[.slice a len cap, .slice a2 len2 cap2] w fun e w' => e = .returned (.bool true) ∧ Below w.heap.size w w' := by
  have hlb := R.len_eq
  have hle := R.le
  unfold maxLen at hle
  have R2 := hz.row
  generalize zs.take len2 = bs at R2
  have hle2 := R2.le
  unfold maxLen at hle2
  have HL : Hid (∀ W : World, Calls Try.prog 8 #[] W fun e w' => e = .returned (.bool true) ∧ Below W.heap.size W w') := fun W => live17_any W
  clear hz
  by_cases hg1 : 1000 < len ∧ len ≤ 65536
  · have h1 : (1000 : Int) < (len : Int) := by omega
    have h2 : (len : Int) ≤ 65536 := by omega
    clear R R2 hg1
    go_enter Try.func7, Try.ntmps7
    go_wp2_with (go_at_call 8; refine (HL.out _).mono ?_; rintro e w1 ⟨rfl, g1⟩)
    go_ret
    exact ⟨rfl, g1⟩
  by_cases hg2 : 3000 < len2
  · have h3 : (3000 : Int) < (len2 : Int) := by omega
    by_cases h1 : (1000 : Int) < (len : Int)
    · have h2 : ¬ (len : Int) ≤ 65536 := by omega
      clear R R2 hg1
      go_enter Try.func7, Try.ntmps7
      go_wp2_with (go_at_call 8; refine (HL.out _).mono ?_; rintro e w1 ⟨rfl, g1⟩)
      go_ret
      exact ⟨rfl, g1⟩
    · clear R R2 hg1
      go_enter Try.func7, Try.ntmps7
      go_wp2_with (go_at_call 8; refine (HL.out _).mono ?_; rintro e w1 ⟨rfl, g1⟩)
      go_ret
      exact ⟨rfl, g1⟩
  have h3 : ¬ (3000 : Int) < (len2 : Int) := by omega
  have HR : Hid _ := R
  have HR2 : Hid _ := R2
  have HRR : Hid (∀ W, w.grownBy W none → Calls Try.prog 26 #[.slice a len cap] W fun e w' => e = .returned (.bool (rgf17 l)) ∧ W.grownBy w' none) := fun W g => rrightF17_any a len cap l W (R.grown g)
  have HPD : Hid (∀ W, w.grownBy W none → Calls Try.prog 27 #[.slice a2 len2 cap2] W (FrPost W (dcF17 bs))) := fun W g => pdecodeF17_any a2 len2 cap2 bs W (R2.grown g) (by omega)
  have HRD : Hid (∀ W, w.grownBy W none → Calls Try.prog 30 #[.slice a2 len2 cap2] W (FrPost W (dcF17 bs))) := fun W g => rdecodeF17_any a2 len2 cap2 bs W (R2.grown g) (by omega)
  generalize dcF17 bs = DD at *
  obtain ⟨dl, de⟩ := DD
  have HPD : Hid (∀ W, w.grownBy W none → Calls Try.prog 27 #[.slice a2 len2 cap2] W fun e w' => ∃ b c, e = .returned (.tuple #[.slice b dl.length c, .int .i64 de]) ∧ Frs w' b dl.length dl ∧ W.grownBy w' none) := HPD
  have HRD : Hid (∀ W, w.grownBy W none → Calls Try.prog 30 #[.slice a2 len2 cap2] W fun e w' => ∃ b c, e = .returned (.tuple #[.slice b dl.length c, .int .i64 de]) ∧ Frs w' b dl.length dl ∧ W.grownBy w' none) := HRD
  cases hr : rgf17 l with
  | false =>
    have hE := pencodeF17_bad a len cap l w R hr
    rw [hr] at HRR
    have hg3 : (¬ (1000 : Int) < (len : Int)) ∨ ((1000 : Int) < (len : Int) ∧ ¬ (len : Int) ≤ 65536) := by omega
    clear R R2 hr hg1
    rcases hg3 with h1 | ⟨h1, h2⟩
    · skip
      go_enter Try.func7, Try.ntmps7
      go_wp2_with (go_at_call 25; refine hE.mono ?_; rintro e W1 ⟨rfl, g1⟩)
      go_wp2_with (go_at_call 26; refine (HRR.out _ g1).mono ?_; rintro e W2 ⟨rfl, g2⟩)
      have HGW : Hid _ := grown_trans g1 g2
      clear g1 g2 hE HRR
      go_wp2_with (first | (go_at_call 15; refine (num17_any _ _).mono ?_; rintro e wx ⟨rfl, rfl⟩) | fail)
      refine (HPD.out _ HGW.out).mono ?_
      rintro e W6 ⟨b6, c6, rfl, R6, g6⟩
      have HG6 : Hid _ := grown_trans HGW.out g6
      have HR6 : Hid _ := R6
      clear g6 R6 HGW
      go_wp2_with (go_at_call 30; refine (HRD.out _ HG6.out).mono ?_; rintro e W7 ⟨b7, c7, rfl, R7, g7⟩)
      have HG7 : Hid _ := grown_trans HG6.out g7
      have hsm := rsameF17_any b6 b7 _ c6 _ c7 _ _ W7 (HR6.out.grown g7) R7
      rw [decide_eq_true rfl] at hsm
      clear g7 R7 HG6 HR6
      go_wp2_with fail
      refine hsm.mono ?_
      rintro e W8 ⟨rfl, g8⟩
      have HG8 : Hid _ := grown_trans HG7.out g8
      clear hsm g8 HG7
      go_wp2_with (first | (go_at_call 15; refine (num17_any _ _).mono ?_; rintro e wx ⟨rfl, rfl⟩) | (go_at_call 8; refine (HL.out _).mono ?_; rintro e w9 ⟨rfl, g9⟩) | fail)
      go_ret
      exact ⟨rfl, below_two17 (grown_below HG8.out) g9⟩
    · skip
      go_enter Try.func7, Try.ntmps7
      go_wp2_with (go_at_call 25; refine hE.mono ?_; rintro e W1 ⟨rfl, g1⟩)
      go_wp2_with (go_at_call 26; refine (HRR.out _ g1).mono ?_; rintro e W2 ⟨rfl, g2⟩)
      have HGW : Hid _ := grown_trans g1 g2
      clear g1 g2 hE HRR
      go_wp2_with (first | (go_at_call 15; refine (num17_any _ _).mono ?_; rintro e wx ⟨rfl, rfl⟩) | fail)
      refine (HPD.out _ HGW.out).mono ?_
      rintro e W6 ⟨b6, c6, rfl, R6, g6⟩
      have HG6 : Hid _ := grown_trans HGW.out g6
      have HR6 : Hid _ := R6
      clear g6 R6 HGW
      go_wp2_with (go_at_call 30; refine (HRD.out _ HG6.out).mono ?_; rintro e W7 ⟨b7, c7, rfl, R7, g7⟩)
      have HG7 : Hid _ := grown_trans HG6.out g7
      have hsm := rsameF17_any b6 b7 _ c6 _ c7 _ _ W7 (HR6.out.grown g7) R7
      rw [decide_eq_true rfl] at hsm
      clear g7 R7 HG6 HR6
      go_wp2_with fail
      refine hsm.mono ?_
      rintro e W8 ⟨rfl, g8⟩
      have HG8 : Hid _ := grown_trans HG7.out g8
      clear hsm g8 HG7
      go_wp2_with (first | (go_at_call 15; refine (num17_any _ _).mono ?_; rintro e wx ⟨rfl, rfl⟩) | (go_at_call 8; refine (HL.out _).mono ?_; rintro e w9 ⟨rfl, g9⟩) | fail)
      go_ret
      exact ⟨rfl, below_two17 (grown_below HG8.out) g9⟩
  | true =>
    have hE := pencodeF17_ok a len cap l w R hr
    rw [hr] at HRR
    obtain ⟨h64, _⟩ := rgf_at hr
    have h1 : ¬ (1000 : Int) < (len : Int) := by omega
    have hel := enF_len l
    have hby := enF_byt l
    have hdc := dcF_enF hr
    have HDC : Hid (∀ W (b : Option Addr) (c : Nat), Row W b (enF17 l).length (enF17 l) → Calls Try.prog 27 #[.slice b (enF17 l).length c] W fun e w' => ∃ b5 c5, e = .returned (.tuple #[.slice b5 len c5, .int .i64 0]) ∧ Frs w' b5 len l ∧ W.grownBy w' none) := fun W b c R => by
      have h := pdecodeF17_any b (enF17 l).length c (enF17 l) W R (by omega)
      rw [hdc] at h
      refine h.mono ?_
      rintro e w' ⟨b5, c5, q1, q2, q3⟩
      simp only [hlb] at q1 q2
      exact ⟨b5, c5, q1, q2, q3⟩
    have HRB : Hid (∀ W, w.grownBy W none → Calls Try.prog 28 #[.slice a len cap] W fun e w' => ∃ b c, e = .returned (.slice b (enF17 l).length c) ∧ Row w' b (enF17 l).length (enF17 l) ∧ W.grownBy w' none) := fun W g => rbytesF17_any a len cap l W (R.grown g) hr
    have hlx : (enF17 l).length ≤ 100000 := by omega
    clear R R2 hr hdc hel hg1 h64
    generalize enF17 l = X at *
    have HBY : Hid _ := hby
    clear hby
    go_enter Try.func7, Try.ntmps7
    go_wp2_with (go_at_call 25; refine hE.mono ?_; rintro e W1 ⟨b, rfl, bb, hbw, g1⟩)
    have HR1 : Hid (Row W1 (some ⟨b, 0, none⟩) X.length X) := bb.row HBY.out (by unfold maxLen; omega)
    have hG1 := g1
    clear bb hE
    go_wp2_with (go_at_call 26; refine (HRR.out _ hG1).mono ?_; rintro e W2 ⟨rfl, g2⟩)
    have HG2 : Hid _ := grown_trans hG1 g2
    have HR1b : Hid _ := HR1.out.grown g2
    have hdd := HDC.out W2 _ X.length HR1b.out
    clear g1 hG1 g2 HRR HR1 HDC
    go_wp2_with fail
    refine hdd.mono ?_
    rintro e W3 ⟨b5, c5, rfl, R5, g3⟩
    have HG3 : Hid _ := grown_trans HG2.out g3
    have HRX : Hid _ := HR1b.out.grown g3
    have HR5 : Hid _ := R5
    clear hdd g3 R5 HG2 HR1b
    go_wp2_with fail
    obtain ⟨sb, hsb⟩ : ∃ sb, strOfNums X = sb := ⟨_, rfl⟩
    have HSB : Hid _ := hsb
    clear hsb
    have cvE : ∀ W, W3.grownBy W none → (convert 29 9 (.slice (some ⟨b, 0, none⟩) X.length X.length)).run Try.prog W = .ok (.string sb) W := by
      intro W h
      rw [← HSB.out]
      exact conv_row (P := Try.prog) (HRX.out.grown h) X.length 29 9 Try.underlying29 Try.underlying5 Try.underlying9
    have HCV : Hid _ := cvE
    clear cvE
    refine wp_region_held_drew (S := fun W => World.grownBy W3 W none) (by kernel_rfl) ⟨rfl, rfl, rfl, Nat.le_refl _, fun _ _ _ => rfl⟩ (fun hH => ?_)
    have hw00 : IntKind.i64.wrap 0 = 0 := by decide
    refine wpAnyH_take (i := 0) (oi := ⟨some 48, _, _, _, _, _⟩) (v := .int .i64 0) rfl (by kernel_rfl) (by kernel_rfl) (by kernel_rfl) (fun _ _ _ h => h) (Or.inl ⟨by rfl, fun w hSw => by go_simp⟩) hH ?_
    simp only [Act.put, List.setIfInBounds_toArray, List.set_cons_zero, List.set_cons_succ]
    refine wpAnyH_take (i := 2) (oi := ⟨some 50, _, _, _, _, _⟩) (v := .int .i64 0) rfl (by kernel_rfl) (by kernel_rfl) (by kernel_rfl) (fun _ _ _ h => h) (Or.inl ⟨by rfl, fun w hSw => by go_simp⟩) hH ?_
    simp only [Act.put, List.setIfInBounds_toArray, List.set_cons_zero, List.set_cons_succ]
    refine wpAnyH_ready (rs := [1]) (by kernel_rfl) (by simp) ?_
    refine AllReadyH.cons rfl (fun K hK => ?_) AllReadyH.nil
    go_simp
    go_wp2_with (go_at_call 15; refine (num17_any _ _).mono ?_; rintro e wx ⟨rfl, rfl⟩)
    refine hK.out _ _ hH (fun _ => ?_)
    clear hK K
    refine wpAnyH_ready (rs := [3]) (by kernel_rfl) (by simp) ?_
    refine AllReadyH.cons rfl (fun K hK => ?_) AllReadyH.nil
    go_simp
    go_wp2_with (go_at_call 15; refine (num17_any _ _).mono ?_; rintro e wx ⟨rfl, rfl⟩)
    refine hK.out _ _ hH (fun _ => ?_)
    clear hK K
    refine wpAnyH_take (i := 4) (oi := ⟨some 52, _, _, _, _, _⟩) (v := .int .i64 0) rfl (by kernel_rfl) (by kernel_rfl) (by kernel_rfl) (fun _ _ _ h => h) (Or.inl ⟨by rfl, fun w hSw => by go_simp⟩) hH ?_
    simp only [Act.put, List.setIfInBounds_toArray, List.set_cons_zero, List.set_cons_succ]
    refine wpAnyH_take (i := 5) (oi := ⟨some 53, _, _, _, _, _⟩) (v := .bool false) rfl (by kernel_rfl) (by kernel_rfl) (by kernel_rfl) (fun _ _ _ h => h) (Or.inl ⟨by rfl, fun w hSw => by go_simp⟩) hH ?_
    simp only [Act.put, List.setIfInBounds_toArray, List.set_cons_zero, List.set_cons_succ]
    refine wpAnyH_take (i := 6) (oi := ⟨some 54, _, _, _, _, _⟩) (v := .bool false) rfl (by kernel_rfl) (by kernel_rfl) (by kernel_rfl) (fun _ _ _ h => h) (Or.inl ⟨by rfl, fun w hSw => by go_simp⟩) hH ?_
    simp only [Act.put, List.setIfInBounds_toArray, List.set_cons_zero, List.set_cons_succ]
    refine wpAnyH_take (i := 7) (oi := ⟨some 55, _, _, _, _, _⟩) (v := .slice (some ⟨b, 0, none⟩) X.length X.length) rfl (by kernel_rfl) (by kernel_rfl) (by kernel_rfl) (fun _ _ _ h => h) (Or.inl ⟨by rfl, fun w hSw => by go_simp⟩) hH ?_
    simp only [Act.put, List.setIfInBounds_toArray, List.set_cons_zero, List.set_cons_succ]
    refine wpAnyH_take (i := 8) (oi := ⟨some 56, _, _, _, _, _⟩) (v := .string sb) rfl (by kernel_rfl) (by kernel_rfl) (by kernel_rfl) (fun _ _ _ h => h) (Or.inl ⟨by rfl, fun w hSw => by have cq := HCV.out _ hSw; go_simp⟩) hH ?_
    simp only [Act.put, List.setIfInBounds_toArray, List.set_cons_zero, List.set_cons_succ]
    refine wpAnyH_take (i := 9) (oi := ⟨some 57, _, _, _, _, _⟩) (v := .slice a len cap) rfl (by kernel_rfl) (by kernel_rfl) (by kernel_rfl) (fun _ _ _ h => h) (Or.inl ⟨by rfl, fun w hSw => by go_simp⟩) hH ?_
    simp only [Act.put, List.setIfInBounds_toArray, List.set_cons_zero, List.set_cons_succ]
    refine wpAnyH_ready (rs := [10]) (by kernel_rfl) (by simp) ?_
    refine AllReadyH.cons rfl (fun K hK => ?_) AllReadyH.nil
    rw [if_pos (by rfl)]
    go_wp2_with (go_at_call 28; refine (HRB.out _ (grown_trans HG3.out hH)).mono ?_; rintro e wx ⟨a4, c4, rfl, R4, gx⟩)
    have cx := conv_row (P := Try.prog) R4 c4 29 9 Try.underlying29 Try.underlying5 Try.underlying9
    rw [HSB.out] at cx
    replace hH := grown_trans hH gx
    refine hK.out _ _ hH (fun _ => ?_)
    clear hK K gx R4
    refine wpAnyH_ready (rs := [11]) (by kernel_rfl) (by simp) ?_
    refine AllReadyH.cons rfl (fun K hK => ?_) AllReadyH.nil
    rw [if_pos (by rfl)]
    go_wp2_with fail
    refine hK.out _ _ hH (fun _ => ?_)
    clear hK K cx
    refine wpAnyH_take (i := 12) (oi := ⟨some 60, _, _, _, _, _⟩) (v := .bool false) rfl (by kernel_rfl) (by kernel_rfl) (by kernel_rfl) (fun _ _ _ h => h) (Or.inl ⟨by rfl, fun w hSw => by go_simp⟩) hH ?_
    simp only [Act.put, List.setIfInBounds_toArray, List.set_cons_zero, List.set_cons_succ]
    refine wpAnyH_take (i := 13) (oi := ⟨some 61, _, _, _, _, _⟩) (v := .bool false) rfl (by kernel_rfl) (by kernel_rfl) (by kernel_rfl) (fun _ _ _ h => h) (Or.inl ⟨by rfl, fun w hSw => by go_simp⟩) hH ?_
    simp only [Act.put, List.setIfInBounds_toArray, List.set_cons_zero, List.set_cons_succ]
    refine wpAnyH_take (i := 14) (oi := ⟨some 62, _, _, _, _, _⟩) (v := .bool false) rfl (by kernel_rfl) (by kernel_rfl) (by kernel_rfl) (fun _ _ _ h => h) (Or.inl ⟨by rfl, fun w hSw => by go_simp⟩) hH ?_
    simp only [Act.put, List.setIfInBounds_toArray, List.set_cons_zero, List.set_cons_succ]
    refine wpAnyH_take (i := 15) (oi := ⟨some 63, _, _, _, _, _⟩) (v := .slice b5 len c5) rfl (by kernel_rfl) (by kernel_rfl) (by kernel_rfl) (fun _ _ _ h => h) (Or.inl ⟨by rfl, fun w hSw => by go_simp⟩) hH ?_
    simp only [Act.put, List.setIfInBounds_toArray, List.set_cons_zero, List.set_cons_succ]
    refine wpAnyH_take (i := 16) (oi := ⟨some 64, _, _, _, _, _⟩) (v := .slice a len cap) rfl (by kernel_rfl) (by kernel_rfl) (by kernel_rfl) (fun _ _ _ h => h) (Or.inl ⟨by rfl, fun w hSw => by go_simp⟩) hH ?_
    simp only [Act.put, List.setIfInBounds_toArray, List.set_cons_zero, List.set_cons_succ]
    have hsm : ∀ W, W3.grownBy W none → Calls Try.prog 29 #[.slice b5 len c5, .slice a len cap] W fun e w' => e = .returned (.bool true) ∧ W.grownBy w' none := fun W k => by
      have h := rsameF17_any b5 a len c5 len cap l l W (HR5.out.grown k) (HR.out.grown (grown_trans HG3.out k))
      rw [decide_eq_true rfl] at h
      exact h
    refine wpAnyH_ready (rs := [17]) (by kernel_rfl) (by simp) ?_
    refine AllReadyH.cons rfl (fun K hK => ?_) AllReadyH.nil
    rw [if_pos (by rfl)]
    go_wp2_with (go_at_call 29; refine (hsm _ hH).mono ?_; rintro e wx ⟨rfl, gx⟩)
    replace hH := grown_trans hH gx
    refine hK.out _ _ hH (fun _ => ?_)
    clear hK K gx hsm
    refine wpAnyH_take (i := 18) (oi := ⟨some 66, _, _, _, _, _⟩) (v := .bool false) rfl (by kernel_rfl) (by kernel_rfl) (by kernel_rfl) (fun _ _ _ h => h) (Or.inl ⟨by rfl, fun w hSw => by go_simp⟩) hH ?_
    simp only [Act.put, List.setIfInBounds_toArray, List.set_cons_zero, List.set_cons_succ]
    refine wpAnyH_ready (rs := [19]) (by kernel_rfl) (by simp) ?_
    refine AllReadyH.cons rfl (fun K hK => ?_) AllReadyH.nil
    rw [if_pos (by rfl)]
    go_wp2_with fail
    refine hK.out _ _ hH (fun _ => ?_)
    clear hK K
    refine wpAnyH_done (by kernel_rfl) ?_ _
    have HGW : Hid _ := grown_trans HG3.out hH
    clear hH HG3 HRX HR5 HCV HRB
    go_wp2_with (go_at_call 27; refine (HPD.out _ HGW.out).mono ?_; rintro e W6 ⟨b6, c6, rfl, R6, g6⟩)
    have HG6 : Hid _ := grown_trans HGW.out g6
    have HR6 : Hid _ := R6
    clear g6 R6 HGW
    go_wp2_with (go_at_call 30; refine (HRD.out _ HG6.out).mono ?_; rintro e W7 ⟨b7, c7, rfl, R7, g7⟩)
    have HG7 : Hid _ := grown_trans HG6.out g7
    have hsm := rsameF17_any b6 b7 _ c6 _ c7 _ _ W7 (HR6.out.grown g7) R7
    rw [decide_eq_true rfl] at hsm
    clear g7 R7 HG6 HR6
    go_wp2_with fail
    refine hsm.mono ?_
    rintro e W8 ⟨rfl, g8⟩
    have HG8 : Hid _ := grown_trans HG7.out g8
    clear hsm g8 HG7
    go_wp2_with (first | (go_at_call 15; refine (num17_any _ _).mono ?_; rintro e wx ⟨rfl, rfl⟩) | (go_at_call 8; refine (HL.out _).mono ?_; rintro e w9 ⟨rfl, g9⟩) | fail)
    go_ret
    exact ⟨rfl, below_two17 (grown_below HG8.out) g9⟩
end Go.Proofs.Ytpahnkodhonlgaa
