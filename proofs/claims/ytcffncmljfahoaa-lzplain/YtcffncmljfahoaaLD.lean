/- The walk of LzPlain. -/
import Derived.Test.YtcffncmljfahoaaLB
import Derived.Test.YtcffncmljfahoaaRK
namespace Go.Proofs.Ytcffncmljfahoaa
open Go.RowKit
set_option linter.unusedSimpArgs false
set_option linter.unusedVariables false

set_option maxHeartbeats 2000000 in
theorem lzPlain_walk (a : Option Addr) (len cap : Nat) (zs : List Int) (w : World) (hz : IsRow .u8 w a len cap zs) :
    Calls Try.prog 7 #[.slice a len cap] w fun e w' => e = .returned (.bool true) ∧ Below w.heap.size w w' := by
  obtain ⟨i5, hi, hz0, hz1, hz2⟩ := info_parts Try.info5
  have B := hz.byte
  generalize zs.take len = bs at B
  clear hz
  have hcm : cap ≤ 9223372036854775807 := B.cm
  have hnc := B.nc
  have hlb := B.row.len_eq
  by_cases hl : 3000 < len
  · go_enter Try.func7, Try.ntmps7
    go_wp2_with (first | (go_at_call 9; refine (live_any _).mono ?_; rintro e w4 ⟨rfl, g3⟩; have H4 : Hid _ := g3; clear g3))
    go_ret
    exact ⟨rfl, grown_below H4.out⟩
  · have HB : Hid _ := B
    have hpl : dec (16 * fou len :: (tol len ++ bs)) len ((16 * fou len :: (tol len ++ bs)).length + 1) [] [] 0 = (bs, [(bs, 0, 0)], 0, ((16 * fou len :: (tol len ++ bs)).length : Int)) := by
      have := dec_plain bs len ((16 * fou len :: (tol len ++ bs)).length) (by omega)
      rw [hlb] at this
      exact this
    have HPL : Hid _ := hpl
    clear B hpl
    by_cases h15 : len < 15
    · have ef : fou len = len := by unfold fou; rw [if_neg (by omega)]
      have et : tol len = [] := by unfold tol; rw [if_pos (by omega)]
      have O0 := World.ownsRow_lit (base := w.heap.size) (e := 5) (size := 1) w #[.int .u8 (16 * (len : Int))] 1 (Nat.le_refl _) (by decide) (by simp)
      have HG : Hid (w.grownBy (w.alloc (.cells #[.int .u8 (16 * (len : Int))] 5)) none) := World.grownBy_alloc _ _ _
      have HT : Hid _ := And.intro ef et
      clear ef et
      go_enter Try.func7, Try.ntmps7
      go_wp2_with (at_builtin; refine wpList_append8 rfl _ _ 22 rfl w.heap.size i5 Try.underlying22 hi hz0 hz1 hz2 _ 1 _ rfl O0 _ len cap _ rfl (HB.out.row.grown HG.out) HB.out.nil (by omega) HG.out.size ?_)
      intro v1 w1 o1 g1
      have G1 : w.grownBy w1 none := grown_own HG.out O0 g1 (Nat.le_refl _)
      have hbyt : Byt (16 * fou len :: (tol len ++ bs)) := by
        intro x hx
        rw [List.mem_cons, List.mem_append] at hx
        rcases hx with rfl | hx | hx
        · have := fou_in (n := len) (by omega); omega
        · exact tol_byt _ x hx
        · exact HB.out.row.byt x hx
      obtain ⟨a1, c1, rfl, B1⟩ := byte_own (n := 1 + len) (bs := 16 * fou len :: (tol len ++ bs)) (by rw [HT.out.1, HT.out.2]; simpa [bv] using o1) hbyt (by unfold maxLen; omega)
      have hd := pdecode_any a1 (1 + len) c1 _ len w1 B1.row (by omega) B1.nc B1.cm (by omega)
      have hpl := HPL.out
      unfold pdec at hd
      rw [if_neg (by omega)] at hd
      rw [hpl] at hd
      have hll : ((16 * fou len :: (tol len ++ bs)).length : Int) = ((1 + len : Nat) : Int) := by rw [B1.row.len_eq]
      rw [hll] at hd
      have H1 : Hid _ := G1
      clear o1 g1 G1 B1 hpl hbyt HG hll O0
      go_wp2_with fail
      refine hd.mono ?_
      intro e w2 k2
      obtain ⟨a2, n2, c2, rfl, B2, g2⟩ := k2
      have hn2 : bs.length = n2 := B2.row.len_eq
      have G2 := grown_trans H1.out g2
      have cx := conv_row (P := Try.prog) B2.row c2 22 9 Try.underlying22 Try.underlying5 Try.underlying9
      have cy := conv_row (P := Try.prog) (HB.out.row.grown G2) cap 22 9 Try.underlying22 Try.underlying5 Try.underlying9
      simp only at cx cy
      generalize strOfNums bs = sx at cx cy
      have HG2 : Hid _ := G2
      clear hd B2 g2 G2 H1 hn2 HB hlb HPL
      simp only
      go_wp2_with (first | (go_at_call 11; with_reducible refine (num_any _ _).mono ?_; rintro e w' ⟨rfl, rfl⟩) | (go_at_call 9; refine (live_any _).mono ?_; rintro e w4 ⟨rfl, g3⟩; have H4 : Hid _ := grown_trans HG2.out g3; clear g3 HG2))
      go_ret
      exact ⟨rfl, grown_below H4.out⟩
    · have ef : fou len = 15 := by unfold fou; split <;> omega
      have hwr : IntKind.u8.wrap (16 * (len : Int)) = (16 * (len : Int)) % 256 := IntKind.wrap_u8' _
      go_enter Try.func7, Try.ntmps7
      have O0 := World.ownsRow_lit (base := w.heap.size) (e := 5) (size := 1) w #[.int .u8 240] 1 (Nat.le_refl _) (by decide) (by simp)
      have HS0 : Hid ((w.alloc (.cells #[.int .u8 240] 5)).ownsRow w.heap.size 5 1 (.slice (some ⟨w.heap.size, 0, none⟩) 1 1) (1 + 0) (bv (240 :: List.replicate 0 255)) ∧ w.grownBy (w.alloc (.cells #[.int .u8 240] 5)) none) := And.intro O0 (World.grownBy_alloc _ _ _)
      have HT : Hid _ := ef
      clear O0 ef
      go_wp2_with fail
      rw [show decide ((15 : Int) ≤ (len : Int)) = true from decide_eq_true (by omega)]
      go_loopw [3, 4] (fun v vn wr => ∃ (j : Nat) (m : Int), vn = .int .i64 m ∧ 0 ≤ m ∧ m + 255 * j + 15 = len ∧ Hid (wr.ownsRow w.heap.size 5 1 v (1 + j) (bv (240 :: List.replicate j 255)) ∧ w.grownBy wr none)) (fun _ vn _ => (intOf vn).toNat)
      case atStart => exact ⟨0, len - 15, by go_num, by omega, by omega, HS0⟩
      case round =>
        clear HS0
        obtain ⟨j, m, rfl, hm0, hm1, HO⟩ := hrel
        have hsz : w.heap.size ≤ wr.heap.size := HO.out.2.size
        have hjb : j ≤ 3000 := by omega
        have hb1 : (1 + j + 1) * 1 ≤ 140737488355328 := by omega
        have hb2 : 1 + j + 1 ≤ maxLen := by unfold maxLen; omega
        have HM : Hid (m + 255 * j + 15 = (len : Int)) := hm1
        have hmn : m ≤ 3000 := by omega
        clear hm1
        by_cases k1 : 255 ≤ m
        · have hown := HO.out.1
          go_wp2_with (at_builtin; (refine wpList_append_own _ rfl _ _ 22 rfl w.heap.size 5 i5 (.int .u8 0) 1 1 Try.underlying22 hi hz0 hz1 hz2 rfl (by decide) _ (1 + j) _ rfl (hown.alloc _) ⟨wr.heap.size, 0, none⟩ 1 1 [.int .u8 255] rfl rfl (cell_one _ _ _) (by simp [Value.oneCell']) hb2 hb1 (by simp; omega) ?_))
          intro v' w1 o1 g1 _
          have hg' : w.grownBy w1 none := grown_own (grown_trans HO.out.2 (World.grownBy_alloc wr _ none)) (hown.alloc _) g1 (Nat.le_refl _)
          have o2 : w1.ownsRow w.heap.size 5 1 v' (1 + (j + 1)) (bv (240 :: List.replicate (j + 1) 255)) := by
            rw [List.replicate_succ', ← List.cons_append, bv_append]; exact o1
          have HN : Hid (w1.ownsRow w.heap.size 5 1 v' (1 + (j + 1)) (bv (240 :: List.replicate (j + 1) 255)) ∧ w.grownBy w1 none) := ⟨o2, hg'⟩
          clear o1 o2 g1 hg' hown HO hb1 hb2
          go_wp2
          go_roundw
          case rel => exact ⟨j + 1, m - 255, by go_num, by omega, by have := HM.out; omega, HN⟩
          case measure => simp [intOf]; omega
        · have hown := HO.out.1
          have hq := HM.out
          have e1 : ((len : Int) - 15) / 255 = j := by omega
          have e2 : ((len : Int) - 15) % 255 = m := by omega
          have et : tol len = List.replicate j 255 ++ [m] := by unfold tol; rw [if_neg (by omega), e1, e2]; simp
          have HT2 : Hid (tol len = List.replicate j 255 ++ [m]) := et
          clear hq e1 e2 et
          go_wp2_with (at_builtin; (refine wpList_append_own _ rfl _ _ 22 rfl w.heap.size 5 i5 (.int .u8 0) 1 1 Try.underlying22 hi hz0 hz1 hz2 rfl (by decide) _ (1 + j) _ rfl (hown.alloc _) ⟨wr.heap.size, 0, none⟩ 1 1 [.int .u8 m] rfl rfl (cell_one _ _ _) (by simp [Value.oneCell']) hb2 hb1 (by simp; omega) ?_))
          intro v3 w3 o3 g3 _
          have HG : Hid (w.grownBy w3 none) := grown_own (grown_trans HO.out.2 (World.grownBy_alloc wr _ none)) (hown.alloc _) g3 (Nat.le_refl _)
          clear g3 hown HO hb1 hb2
          go_wp2_with (at_builtin; refine wpList_append8 rfl _ _ 22 rfl w.heap.size i5 Try.underlying22 hi hz0 hz1 hz2 _ (1 + j + 1) _ rfl o3 _ len cap _ rfl (HB.out.row.grown HG.out) HB.out.nil (by omega) HG.out.size ?_)
          intro v1 w1 o1 g1
          have G1 : w.grownBy w1 none := grown_own HG.out o3 g1 (Nat.le_refl _)
          have hbyt : Byt (16 * fou len :: (tol len ++ bs)) := by
            intro x hx
            rw [List.mem_cons, List.mem_append] at hx
            rcases hx with rfl | hx | hx
            · have := fou_in (n := len) (by omega); omega
            · exact tol_byt _ x hx
            · exact HB.out.row.byt x hx
          obtain ⟨a1, c1, rfl, B1⟩ := byte_own (n := (1 + j + 1) + len) (bs := 16 * fou len :: (tol len ++ bs)) (by rw [HT.out, HT2.out, show (16 * 15 : Int) = 240 by rfl]; simpa [bv, List.map_append] using o1) hbyt (by unfold maxLen; omega)
          have hd := pdecode_any a1 ((1 + j + 1) + len) c1 _ len w1 B1.row (by omega) B1.nc B1.cm (by omega)
          have hpl := HPL.out
          unfold pdec at hd
          rw [if_neg (by omega)] at hd
          rw [hpl] at hd
          have hll : ((16 * fou len :: (tol len ++ bs)).length : Int) = (((1 + j + 1) + len : Nat) : Int) := by rw [B1.row.len_eq]
          rw [hll] at hd
          have H1 : Hid _ := G1
          clear o1 g1 G1 B1 hpl hbyt HG hll o3
          go_wp2_with fail
          refine hd.mono ?_
          intro e w2 k2
          obtain ⟨a2, n2, c2, rfl, B2, g2⟩ := k2
          have hn2 : bs.length = n2 := B2.row.len_eq
          have G2 := grown_trans H1.out g2
          have cx := conv_row (P := Try.prog) B2.row c2 22 9 Try.underlying22 Try.underlying5 Try.underlying9
          have cy := conv_row (P := Try.prog) (HB.out.row.grown G2) cap 22 9 Try.underlying22 Try.underlying5 Try.underlying9
          simp only at cx cy
          generalize strOfNums bs = sx at cx cy
          have HG2 : Hid _ := G2
          clear hd B2 g2 G2 H1 hn2 HB hlb HPL
          simp only
          go_wp2_with (first | (go_at_call 11; with_reducible refine (num_any _ _).mono ?_; rintro e w' ⟨rfl, rfl⟩) | (go_at_call 9; refine (live_any _).mono ?_; rintro e w4 ⟨rfl, g3⟩; have H4 : Hid _ := grown_trans HG2.out g3; clear g3 HG2))
          go_ret
          exact ⟨rfl, grown_below H4.out⟩
end Go.Proofs.Ytcffncmljfahoaa
