/- The walk of SuperEncodes. -/
import Derived.Test.YtaedcblphcfkfaaJH
import Derived.Test.YtaedcblphcfkfaaJP
import Derived.Test.YtaedcblphcfkfaaJI
namespace Go.Proofs.Ytaedcblphcfkfaa
open Go.RowKit
set_option linter.unusedSimpArgs false
set_option linter.unusedVariables false

theorem owns_low13 {w : World} {b b' e s n : Nat} {v : Value} {xs : List Value} (h : w.ownsRow b e s v n xs) (hb : b' ≤ b) : w.ownsRow b' e s v n xs := by
  refine ⟨h.1, ?_⟩
  rcases h.2 with h | ⟨g, cap, cur, h1, h2, h3⟩
  · exact Or.inl h
  · exact Or.inr ⟨g, cap, cur, h1, by omega, h3⟩
/-- a head's variable, its bytes -/
structure Ve13 (w W : World) (gr : Nat) (cr : List Value) (v : Value) (xs : List Int) : Prop where
  r : Bx W gr 26 cr
  own : W.ownsRow w.heap.size 5 1 v 68 (bv xs)
  gr' : w.grownBy W none
theorem Ve13.keep {w W W' : World} {gr : Nat} {cr : List Value} {v : Value} {xs : List Int} (h : Ve13 w W gr cr v xs) (k : W.grownBy W' none) : Ve13 w W' gr cr v xs := ⟨h.r.kept k, h.own.kept k (by cases v.ownBlock <;> simp), grown_trans h.gr' k⟩
theorem shl13 {lg : Int} (h : 12 ≤ lg ∧ lg ≤ 20) (w : World) : (Op.shift BinOp.shl IntKind.i64 1 IntKind.i64 lg).run Try.prog w = .ok (.int .i64 (2 ^ lg.toNat)) w := by
  obtain ⟨k, rfl, k0, k1⟩ := pow_lg h
  rcases (by omega : k = 12 ∨ k = 13 ∨ k = 14 ∨ k = 15 ∨ k = 16 ∨ k = 17 ∨ k = 18 ∨ k = 19 ∨ k = 20) with rfl | rfl | rfl | rfl | rfl | rfl | rfl | rfl | rfl
  all_goals (simp [Op.shift, go_sem]; try rfl)
set_option maxHeartbeats 8000000 in
theorem superEncodes_walk (s : Sp) (a : Option Addr) (len cap : Nat) (zs : List Int) (w : World) (hs : s.ok) (hz : IsRow .u8 w a len cap zs) :
    Calls Try.prog 3 #[s.val, .slice a len cap] w fun e w' => e = .returned (.bool true) ∧ Below w.heap.size w w' := by
  obtain ⟨i5, hi, hz0, hz1, hz2⟩ := info_parts Try.info5
  have B := hz.byte13
  generalize zs.take len = bs at B
  clear hz
  have hcm : cap ≤ 9223372036854775807 := B.cm
  have hnc := B.nc
  have HL : Hid (∀ W : World, Calls Try.prog 7 #[] W fun e w' => e = .returned (.bool true) ∧ W.grownBy w' none) := fun W => live13_any W
  have h3 := fun W => rright13_any s W
  have h4 := fun W => pencode13 s W
  have hK := fun W => pcheck13_any s W
  have hB := fun W => pblock_any s W
  have h6 := fun W hrr => rbytes13 s W hrr
  have HD : Hid (srt s = true → ∀ more, sde (spb s ++ more) = (s, 0)) := fun h more => sde_spb more h
  have heq := fun W => sup_eql s W hs
  have H0 : Hid _ := And.intro (Bx.new w 26 s.cells) (World.grownBy_alloc w (.cells s.cells.toArray 26) none)
  by_cases hl : 300 < len
  · clear h3 h4 hK hB h6 HD heq
    obtain ⟨lg, no, ln, a0, z0, a1, z1, a2, z2, a3, z3, a4, z4, a5, z5⟩ := s
    simp only [Sp.val, Sp.cells] at *
    go_enter Try.func3, Try.ntmps3
    go_wp2_with (first | (go_at_call 7; refine (HL.out _).mono ?_; rintro e wl ⟨rfl, gl⟩; have HF : Hid _ := grown_trans H0.out.2 gl; clear gl))
    go_ret
    exact ⟨rfl, grown_below HF.out⟩
  · unfold pck at hK
    unfold blk13 at hB
    cases hrr : srt s with
    | false =>
      have hen : sen s = ([], 1) := by unfold sen; rw [if_neg (by rw [hrr]; decide)]
      rw [hen] at h4
      rw [hrr] at h3
      rw [hrr, if_neg (by decide)] at hK hB
      clear hen hrr h6 HD B heq
      obtain ⟨lg, no, ln, a0, z0, a1, z1, a2, z2, a3, z3, a4, z4, a5, z5⟩ := s
      simp only [Sp.val, Sp.cells] at *
      go_enter Try.func3, Try.ntmps3
      go_wp2_with ((with_reducible refine loadS_here ?_); refine wpList_loadB rfl 26 _ rfl w.heap.size rfl H0.out.1 Try.underlying26 rfl infoS ?_)
      refine (h4 _).mono ?_
      intro e w4 k4
      obtain ⟨b4, m4, c4, rfl, o4, g4⟩ := k4
      obtain rfl : m4 = 0 := by have h := o4.1; simp [bv] at h; omega
      have H4 : Hid _ := And.intro (H0.out.1.kept g4) (grown_trans H0.out.2 g4)
      clear g4 o4 H0 h4
      simp only
      go_wp2_with ((with_reducible refine loadS_here ?_); refine wpList_loadB rfl 26 _ rfl w.heap.size rfl H4.out.1 Try.underlying26 rfl infoS ?_)
      refine (h3 _).mono ?_
      rintro e w5 ⟨rfl, g5⟩
      have H5 : Hid _ := And.intro (H4.out.1.kept g5) (grown_trans H4.out.2 g5)
      clear g5 H4 h3
      obtain ⟨d0, d1, d2, d3, d4, d5, d6, d7, d8, d9, d10, d11, d12, d13, d14⟩ := bx15 H5.out.1
      simp only
      go_wp2_with (first | (go_at_call 10; (with_reducible refine (num13_any _ _).mono ?_); rintro e w' ⟨rfl, rfl⟩))
      refine (hK _).mono ?_
      rintro e w6 ⟨rfl, g6⟩
      have H6 : Hid _ := And.intro (H5.out.1.kept g6) (grown_trans H5.out.2 g6)
      clear g6 H5 hK d0 d1 d2 d3 d4 d5 d6 d7 d8 d9 d10 d11 d12 d13 d14
      obtain ⟨d0, d1, d2, d3, d4, d5, d6, d7, d8, d9, d10, d11, d12, d13, d14⟩ := bx15 H6.out.1
      go_wp2_with (first | (go_at_call 10; (with_reducible refine (num13_any _ _).mono ?_); rintro e w' ⟨rfl, rfl⟩))
      refine (hB _).mono ?_
      rintro e w7 ⟨rfl, g7⟩
      have H7 : Hid _ := grown_trans H6.out.2 g7
      clear g7 H6 hB d0 d1 d2 d3 d4 d5 d6 d7 d8 d9 d10 d11 d12 d13 d14
      go_wp2_with (first | (go_at_call 10; (with_reducible refine (num13_any _ _).mono ?_); rintro e w' ⟨rfl, rfl⟩) | (go_at_call 7; refine (HL.out _).mono ?_; rintro e wl ⟨rfl, gl⟩; have HF : Hid _ := grown_trans H7.out gl; clear gl))
      go_ret
      exact ⟨rfl, grown_below HF.out⟩
    | true =>
      have hlg := (srt_iff.1 hrr).1
      have hlg2 : 12 ≤ s.lg ∧ s.lg ≤ 20 := by unfold Hok at hlg; omega
      have hsh := fun W => shl13 hlg2 W
      rw [sen_right hrr] at h4
      rw [hrr] at h3
      rw [hrr, if_pos rfl] at hK hB
      have h6 := fun W => h6 W hrr
      have HDE : Hid _ := HD.out hrr
      have HB : Hid _ := And.intro (spb_byt (s := s) ⟨by omega, by omega⟩) (And.intro (spb_len s) B)
      have HSB : Hid (∃ sb, strOfNums (spb s) = sb) := ⟨_, rfl⟩
      obtain ⟨sb, hsb⟩ := HSB.out
      have HSB : Hid _ := hsb
      have hK1 := hK
      clear hsb HD hrr B hlg hlg2 hs hK
      generalize spb s = b1 at *
      obtain ⟨lg, no, ln, a0, z0, a1, z1, a2, z2, a3, z3, a4, z4, a5, z5⟩ := s
      simp only [Sp.val, Sp.cells] at *
      generalize (2 : Int) ^ lg.toNat = BB at *
      go_enter Try.func3, Try.ntmps3
      go_wp2_with ((with_reducible refine loadS_here ?_); refine wpList_loadB rfl 26 _ rfl w.heap.size rfl H0.out.1 Try.underlying26 rfl infoS ?_)
      refine (h4 _).mono ?_
      intro e w4 k4
      obtain ⟨b4, m4, c4, rfl, o4, g4⟩ := k4
      obtain rfl : m4 = 68 := by have h := o4.1; simp only [bv_length] at h; have := HB.out.2.1; omega
      have o4' : w4.ownsRow w.heap.size 5 1 (.slice b4 68 c4) 68 (bv b1) := owns_low13 o4 (by simp)
      have H4 : Hid (Ve13 w w4 w.heap.size [.int .i64 lg, .int .i64 no, .int .i64 ln, .int .i64 a0, .int .i64 z0, .int .i64 a1, .int .i64 z1, .int .i64 a2, .int .i64 z2, .int .i64 a3, .int .i64 z3, .int .i64 a4, .int .i64 z4, .int .i64 a5, .int .i64 z5] (.slice b4 68 c4) b1) := ⟨H0.out.1.kept g4, o4', grown_trans H0.out.2 g4⟩
      clear g4 o4 o4' H0 h4
      simp only
      go_wp2_with ((with_reducible refine loadS_here ?_); refine wpList_loadB rfl 26 _ rfl w.heap.size rfl H4.out.r Try.underlying26 rfl infoS ?_)
      refine (h3 _).mono ?_
      rintro e w5 ⟨rfl, g5⟩
      have H5 : Hid _ := H4.out.keep g5
      clear g5 H4 h3
      have cvE : ∀ W, Ve13 w W w.heap.size [.int .i64 lg, .int .i64 no, .int .i64 ln, .int .i64 a0, .int .i64 z0, .int .i64 a1, .int .i64 z1, .int .i64 a2, .int .i64 z2, .int .i64 a3, .int .i64 z3, .int .i64 a4, .int .i64 z4, .int .i64 a5, .int .i64 z5] (.slice b4 68 c4) b1 → (convert 27 9 (.slice b4 68 c4)).run Try.prog W = .ok (.string sb) W := by
        intro W h
        obtain ⟨a', c', e', R', _, _, _⟩ := own_bytes h.own HB.out.1 (by unfold maxLen; omega)
        injection e' with e1 e2 e3
        subst e1 e3
        rw [← HSB.out]
        exact conv_row (P := Try.prog) R' c4 27 9 Try.underlying27 Try.underlying5 Try.underlying9
      simp only
      go_wp2_with fail
      refine wp_region_held_drew (S := fun w' => Ve13 w w' w.heap.size [.int .i64 lg, .int .i64 no, .int .i64 ln, .int .i64 a0, .int .i64 z0, .int .i64 a1, .int .i64 z1, .int .i64 a2, .int .i64 z2, .int .i64 a3, .int .i64 z3, .int .i64 a4, .int .i64 z4, .int .i64 a5, .int .i64 z5] (.slice b4 68 c4) b1) (by kernel_rfl) (H5.out.keep ⟨rfl, rfl, rfl, Nat.le_refl _, fun _ _ _ => rfl⟩) (fun hH => ?_)
      refine wpAnyH_take (i := 0) (oi := ⟨some 43, _, _, _, _, _⟩) (v := .int .i64 0) rfl (by kernel_rfl) (by kernel_rfl) (by kernel_rfl) (fun _ _ _ h => h) (Or.inl ⟨by rfl, fun w hSw => by go_simp⟩) hH ?_
      simp only [Act.put, List.setIfInBounds_toArray, List.set_cons_zero, List.set_cons_succ]
      refine wpAnyH_ready (rs := [1]) (by kernel_rfl) (by simp) ?_
      refine AllReadyH.cons rfl (fun K hK => ?_) AllReadyH.nil
      go_simp
      go_wp2_with (go_at_call 10; refine (num13_any _ _).mono ?_; rintro e wx ⟨rfl, rfl⟩)
      refine hK.out _ _ hH (fun _ => ?_)
      clear hK K
      refine wpAnyH_take (i := 2) (oi := ⟨some 45, _, _, _, _, _⟩) (v := .bool false) rfl (by kernel_rfl) (by kernel_rfl) (by kernel_rfl) (fun _ _ _ h => h) (Or.inl ⟨by rfl, fun w hSw => by go_simp⟩) hH ?_
      simp only [Act.put, List.setIfInBounds_toArray, List.set_cons_zero, List.set_cons_succ]
      refine wpAnyH_take (i := 3) (oi := ⟨some 46, _, _, _, _, _⟩) (v := .bool false) rfl (by kernel_rfl) (by kernel_rfl) (by kernel_rfl) (fun _ _ _ h => h) (Or.inl ⟨by rfl, fun w hSw => by go_simp⟩) hH ?_
      simp only [Act.put, List.setIfInBounds_toArray, List.set_cons_zero, List.set_cons_succ]
      refine wpAnyH_take (i := 4) (oi := ⟨some 47, _, _, _, _, _⟩) (v := .slice b4 68 c4) rfl (by kernel_rfl) (by kernel_rfl) (by kernel_rfl) (fun _ _ _ h => h) (Or.inl ⟨by rfl, fun w hSw => by go_simp⟩) hH ?_
      simp only [Act.put, List.setIfInBounds_toArray, List.set_cons_zero, List.set_cons_succ]
      refine wpAnyH_take (i := 5) (oi := ⟨some 48, _, _, _, _, _⟩) (v := .string sb) rfl (by kernel_rfl) (by kernel_rfl) (by kernel_rfl) (fun _ _ _ h => h) (Or.inl ⟨by rfl, fun w hSw => by have cq := cvE w hSw; go_simp⟩) hH ?_
      simp only [Act.put, List.setIfInBounds_toArray, List.set_cons_zero, List.set_cons_succ]
      refine wpAnyH_take (i := 6) (oi := ⟨some 49, _, _, _, _, _⟩) (v := .agg #[.int .i64 lg, .int .i64 no, .int .i64 ln, .int .i64 a0, .int .i64 z0, .int .i64 a1, .int .i64 z1, .int .i64 a2, .int .i64 z2, .int .i64 a3, .int .i64 z3, .int .i64 a4, .int .i64 z4, .int .i64 a5, .int .i64 z5]) rfl (by kernel_rfl) (by kernel_rfl) (by kernel_rfl) (fun _ _ _ h => h) (Or.inl ⟨by rfl, fun w hSw => by obtain ⟨d0, d1, d2, d3, d4, d5, d6, d7, d8, d9, d10, d11, d12, d13, d14⟩ := bx15 hSw.r; go_simp⟩) hH ?_
      simp only [Act.put, List.setIfInBounds_toArray, List.set_cons_zero, List.set_cons_succ]
      refine wpAnyH_ready (rs := [7]) (by kernel_rfl) (by simp) ?_
      refine AllReadyH.cons rfl (fun K hK => ?_) AllReadyH.nil
      go_simp
      go_wp2_with (go_at_call 13; refine (h6 _).mono ?_; rintro e wx ⟨v7, rfl, o7, hgx⟩)
      obtain ⟨b7, c7, rfl, R7, _, _, _⟩ := own_bytes o7 HB.out.1 (by unfold maxLen; omega)
      have cx := conv_row (P := Try.prog) R7 c7 27 9 Try.underlying27 Try.underlying5 Try.underlying9
      rw [HSB.out] at cx
      replace hH := hH.keep hgx
      refine hK.out _ _ hH (fun _ => ?_)
      clear hK K hgx o7 R7
      refine wpAnyH_ready (rs := [8]) (by kernel_rfl) (by simp) ?_
      refine AllReadyH.cons rfl (fun K hK => ?_) AllReadyH.nil
      go_simp
      refine hK.out _ _ hH (fun _ => ?_)
      clear hK K cx
      refine wpAnyH_take (i := 9) (oi := ⟨some 52, _, _, _, _, _⟩) (v := .bool false) rfl (by kernel_rfl) (by kernel_rfl) (by kernel_rfl) (fun _ _ _ h => h) (Or.inl ⟨by rfl, fun w hSw => by go_simp⟩) hH ?_
      simp only [Act.put, List.setIfInBounds_toArray, List.set_cons_zero, List.set_cons_succ]
      refine wpAnyH_take (i := 10) (oi := ⟨some 53, _, _, _, _, _⟩) (v := .bool false) rfl (by kernel_rfl) (by kernel_rfl) (by kernel_rfl) (fun _ _ _ h => h) (Or.inl ⟨by rfl, fun w hSw => by go_simp⟩) hH ?_
      simp only [Act.put, List.setIfInBounds_toArray, List.set_cons_zero, List.set_cons_succ]
      refine wpAnyH_take (i := 11) (oi := ⟨some 54, _, _, _, _, _⟩) (v := .bool false) rfl (by kernel_rfl) (by kernel_rfl) (by kernel_rfl) (fun _ _ _ h => h) (Or.inl ⟨by rfl, fun w hSw => by go_simp⟩) hH ?_
      simp only [Act.put, List.setIfInBounds_toArray, List.set_cons_zero, List.set_cons_succ]
      refine wpAnyH_take (i := 12) (oi := ⟨some 55, _, _, _, _, _⟩) (v := .agg #[.int .i64 lg, .int .i64 no, .int .i64 ln, .int .i64 a0, .int .i64 z0, .int .i64 a1, .int .i64 z1, .int .i64 a2, .int .i64 z2, .int .i64 a3, .int .i64 z3, .int .i64 a4, .int .i64 z4, .int .i64 a5, .int .i64 z5]) rfl (by kernel_rfl) (by kernel_rfl) (by kernel_rfl) (fun _ _ _ h => h) (Or.inl ⟨by rfl, fun w hSw => by obtain ⟨d0, d1, d2, d3, d4, d5, d6, d7, d8, d9, d10, d11, d12, d13, d14⟩ := bx15 hSw.r; go_simp⟩) hH ?_
      simp only [Act.put, List.setIfInBounds_toArray, List.set_cons_zero, List.set_cons_succ]
      refine wpAnyH_ready (rs := [13]) (by kernel_rfl) (by simp) ?_
      refine AllReadyH.cons rfl (fun K hK => ?_) AllReadyH.nil
      go_simp
      go_wp2_with (go_at_call 11; refine (hK1 _).mono ?_; rintro e wx ⟨rfl, hgx⟩)
      replace hH := hH.keep hgx
      refine hK.out _ _ hH (fun _ => ?_)
      clear hK K hgx
      refine wpAnyH_ready (rs := [14]) (by kernel_rfl) (by simp) ?_
      refine AllReadyH.cons rfl (fun K hK => ?_) AllReadyH.nil
      go_simp
      go_wp2_with (go_at_call 10; refine (num13_any _ _).mono ?_; rintro e wx ⟨rfl, rfl⟩)
      refine hK.out _ _ hH (fun _ => ?_)
      clear hK K
      refine wpAnyH_take (i := 15) (oi := ⟨some 58, _, _, _, _, _⟩) (v := .bool false) rfl (by kernel_rfl) (by kernel_rfl) (by kernel_rfl) (fun _ _ _ h => h) (Or.inl ⟨by rfl, fun w hSw => by go_simp⟩) hH ?_
      simp only [Act.put, List.setIfInBounds_toArray, List.set_cons_zero, List.set_cons_succ]
      refine wpAnyH_take (i := 16) (oi := ⟨some 59, _, _, _, _, _⟩) (v := .bool false) rfl (by kernel_rfl) (by kernel_rfl) (by kernel_rfl) (fun _ _ _ h => h) (Or.inl ⟨by rfl, fun w hSw => by go_simp⟩) hH ?_
      simp only [Act.put, List.setIfInBounds_toArray, List.set_cons_zero, List.set_cons_succ]
      refine wpAnyH_take (i := 17) (oi := ⟨some 60, _, _, _, _, _⟩) (v := .bool false) rfl (by kernel_rfl) (by kernel_rfl) (by kernel_rfl) (fun _ _ _ h => h) (Or.inl ⟨by rfl, fun w hSw => by go_simp⟩) hH ?_
      simp only [Act.put, List.setIfInBounds_toArray, List.set_cons_zero, List.set_cons_succ]
      refine wpAnyH_take (i := 18) (oi := ⟨some 61, _, _, _, _, _⟩) (v := .agg #[.int .i64 lg, .int .i64 no, .int .i64 ln, .int .i64 a0, .int .i64 z0, .int .i64 a1, .int .i64 z1, .int .i64 a2, .int .i64 z2, .int .i64 a3, .int .i64 z3, .int .i64 a4, .int .i64 z4, .int .i64 a5, .int .i64 z5]) rfl (by kernel_rfl) (by kernel_rfl) (by kernel_rfl) (fun _ _ _ h => h) (Or.inl ⟨by rfl, fun w hSw => by obtain ⟨d0, d1, d2, d3, d4, d5, d6, d7, d8, d9, d10, d11, d12, d13, d14⟩ := bx15 hSw.r; go_simp⟩) hH ?_
      simp only [Act.put, List.setIfInBounds_toArray, List.set_cons_zero, List.set_cons_succ]
      refine wpAnyH_take (i := 20) (oi := ⟨some 63, _, _, _, _, _⟩) (v := .pointer (some ⟨w.heap.size, 0, none⟩)) rfl (by kernel_rfl) (by kernel_rfl) (by kernel_rfl) (fun _ _ _ h => h) (Or.inl ⟨by rfl, fun w hSw => by go_simp⟩) hH ?_
      simp only [Act.put, List.setIfInBounds_toArray, List.set_cons_zero, List.set_cons_succ]
      refine wpAnyH_take (i := 21) (oi := ⟨some 64, _, _, _, _, _⟩) (v := .int .i64 lg) rfl (by kernel_rfl) (by kernel_rfl) (by kernel_rfl) (fun _ _ _ h => h) (Or.inl ⟨by rfl, fun w hSw => by obtain ⟨d0, d1, d2, d3, d4, d5, d6, d7, d8, d9, d10, d11, d12, d13, d14⟩ := bx15 hSw.r; go_simp⟩) hH ?_
      simp only [Act.put, List.setIfInBounds_toArray, List.set_cons_zero, List.set_cons_succ]
      refine wpAnyH_take (i := 22) (oi := ⟨some 65, _, _, _, _, _⟩) (v := .int .i64 BB) rfl (by kernel_rfl) (by kernel_rfl) (by kernel_rfl) (fun _ _ _ h => h) (Or.inl ⟨by rfl, fun w hSw => by have cq := hsh w; go_simp⟩) hH ?_
      simp only [Act.put, List.setIfInBounds_toArray, List.set_cons_zero, List.set_cons_succ]
      refine wpAnyH_ready (rs := [19]) (by kernel_rfl) (by simp) ?_
      refine AllReadyH.cons rfl (fun K hK => ?_) AllReadyH.nil
      go_simp
      go_wp2_with (go_at_call 12; refine (hB _).mono ?_; rintro e wx ⟨rfl, hgx⟩)
      replace hH := hH.keep hgx
      refine hK.out _ _ hH (fun _ => ?_)
      clear hK K hgx
      refine wpAnyH_take (i := 23) (oi := ⟨some 66, _, _, _, _, _⟩) (v := .bool false) rfl (by kernel_rfl) (by kernel_rfl) (by kernel_rfl) (fun _ _ _ h => h) (Or.inl ⟨by rfl, fun w hSw => by go_simp⟩) hH ?_
      simp only [Act.put, List.setIfInBounds_toArray, List.set_cons_zero, List.set_cons_succ]
      refine wpAnyH_take (i := 24) (oi := ⟨some 67, _, _, _, _, _⟩) (v := .bool false) rfl (by kernel_rfl) (by kernel_rfl) (by kernel_rfl) (fun _ _ _ h => h) (Or.inl ⟨by rfl, fun w hSw => by go_simp⟩) hH ?_
      simp only [Act.put, List.setIfInBounds_toArray, List.set_cons_zero, List.set_cons_succ]
      refine wpAnyH_done (by kernel_rfl) ?_ _
      have RM := HB.out.2.2.row.grown hH.gr'
      have hnil := HB.out.2.2.nil
      have hsz := hH.gr'.size
      have HX : Hid _ := hH
      clear hH cvE h6 hK1 hB hsh
      go_wp2_with (at_builtin; refine wpList_append8 rfl _ _ 27 rfl w.heap.size i5 Try.underlying27 hi hz0 hz1 hz2 _ 68 _ rfl HX.out.own _ len cap bs rfl RM hnil (by omega) hsz ?_)
      intro v8 w8 o8 g8
      have o8' : w8.ownsRow w.heap.size 5 1 v8 (68 + len) (bv (b1 ++ bs)) := by rw [bv_append]; exact o8
      obtain ⟨b8, c8, rfl, R8, _, nc8, cm8⟩ := own_bytes o8' (HB.out.1.append HB.out.2.2.row.byt) (by unfold maxLen; omega)
      have BR : Bx w8 w.heap.size 26 [.int .i64 lg, .int .i64 no, .int .i64 ln, .int .i64 a0, .int .i64 z0, .int .i64 a1, .int .i64 z1, .int .i64 a2, .int .i64 z2, .int .i64 a3, .int .i64 z3, .int .i64 a4, .int .i64 z4, .int .i64 a5, .int .i64 z5] := ⟨by rw [g8.block _ HX.out.r.lt (own_bx HX.out.own HX.out.r (by decide))]; exact HX.out.r.blk⟩
      have k9 := pdecode13 b8 (68 + len) c8 (b1 ++ bs) w8 R8 nc8 cm8
      rw [HDE.out] at k9
      simp only [Sp.val] at k9
      have H8 : Hid _ := And.intro BR (grown_own HX.out.gr' HX.out.own g8 (Nat.le_refl _))
      clear o8 o8' g8 R8 nc8 cm8 BR HX RM hnil hsz
      go_wp2_with fail
      refine k9.mono ?_
      rintro e w9 ⟨rfl, g9⟩
      have A9 := World.grownBy_alloc w9 (.cells #[.int .i64 lg, .int .i64 no, .int .i64 ln, .int .i64 a0, .int .i64 z0, .int .i64 a1, .int .i64 z1, .int .i64 a2, .int .i64 z2, .int .i64 a3, .int .i64 z3, .int .i64 a4, .int .i64 z4, .int .i64 a5, .int .i64 z5] 26) none
      have X9 := Bx.new w9 26 [.int .i64 lg, .int .i64 no, .int .i64 ln, .int .i64 a0, .int .i64 z0, .int .i64 a1, .int .i64 z1, .int .i64 a2, .int .i64 z2, .int .i64 a3, .int .i64 z3, .int .i64 a4, .int .i64 z4, .int .i64 a5, .int .i64 z5]
      have R9 := (H8.out.1.kept g9).kept A9
      obtain ⟨x0, x1, x2, x3, x4, x5, x6, x7, x8, x9, x10, x11, x12, x13, x14⟩ := bx15 X9
      obtain ⟨d0, d1, d2, d3, d4, d5, d6, d7, d8, d9, d10, d11, d12, d13, d14⟩ := bx15 R9
      have H9 : Hid _ := grown_trans (grown_trans H8.out.2 g9) A9
      clear X9 R9 A9 g9 k9 H8
      simp only
      go_wp2_with (first | (go_at_call 10; (with_reducible refine (num13_any _ _).mono ?_); rintro e w' ⟨rfl, rfl⟩) | (go_at_call 7; refine (HL.out _).mono ?_; rintro e wl ⟨rfl, gl⟩; have HF : Hid _ := grown_trans H9.out gl; clear gl))
      go_ret
      exact ⟨rfl, grown_below HF.out⟩
end Go.Proofs.Ytaedcblphcfkfaa
