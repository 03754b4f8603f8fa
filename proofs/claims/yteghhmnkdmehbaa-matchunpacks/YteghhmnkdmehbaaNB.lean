/- The walk of MatchEncodes. -/
import Derived.Test.YteghhmnkdmehbaaNA
namespace Go.Proofs.Yteghhmnkdmehbaa
open Go.RowKit
set_option linter.unusedSimpArgs false
set_option linter.unusedVariables false

theorem jcat_small {bs : List Int} (hl : bs.length ≤ 1048576) : (jcat (enc bs)).length ≤ 2097153 := by
  have h := (enc_ok bs hl).le hl
  unfold bnd at h
  have := tol_lin (n := bs.length) (by omega)
  split at h <;> omega
set_option maxHeartbeats 1000000 in
theorem matchEncodes_walk (a : Option Addr) (len cap : Nat) (zs : List Int) (w : World) (hz : IsRow .u8 w a len cap zs) :
    Calls Try.prog 3 #[.slice a len cap] w fun e w' => e = .returned (.bool true) ∧ Below w.heap.size w w' := by
  obtain ⟨i5, hi, hz0, hz1, hz2⟩ := info_parts Try.info5
  have B := hz.byte
  generalize zs.take len = bs at B
  clear hz
  have hcm : cap ≤ 9223372036854775807 := B.cm
  have hnc := B.nc
  have hlb := B.row.len_eq
  by_cases hl : 5000 < len
  · go_enter Try.func3, Try.ntmps3
    go_wp2_with fail
    refine (live6_any _).mono ?_
    rintro e w1 ⟨rfl, g1⟩
    have H1 : Hid _ := g1
    clear g1
    go_wp2
    go_ret
    exact ⟨rfl, grown_below H1.out⟩
  · have hq : (enc bs).length ≤ 65536 := by have := enc_len bs; omega
    have hJ := jcat_small (bs := bs) (by omega)
    have E := enc_ok bs (by omega)
    have O0 := World.ownsRow_made (base := w.heap.size) (e := 5) (size := 1) w #[] 0 (Nat.le_refl _) (Nat.zero_le _) (by simp)
    have R0 := B.row.grown (World.grownBy_alloc w (.cells #[] 5) none)
    have HB : Hid _ := B
    have hen := fun a n c W B h => encode_any a n c bs W B h hq
    have hri := fun a1 l1 c1 W B C => right_any a len cap bs a1 l1 c1 (enc bs) W B C E (by omega)
    have HE : Hid _ := And.intro hen hri
    clear B hen hri hq E
    generalize jcat (enc bs) = J at *
    go_enter Try.func3, Try.ntmps3
    go_wp2_with (at_builtin; refine wpList_append8 rfl _ _ 22 rfl w.heap.size i5 Try.underlying22 hi hz0 hz1 hz2 _ 0 [] rfl O0 _ len cap _ rfl R0 HB.out.nil (by omega) (by simp) ?_)
    intro v1 w1 o1 g1
    have G1 : w.grownBy w1 none := grown_own (World.grownBy_alloc w (.cells #[] 5) none) O0 g1 (Nat.le_refl _)
    obtain ⟨a1, c1, rfl, B1⟩ := byte_own (bs := bs) (by simpa using o1) HB.out.row.byt (by unfold maxLen; omega)
    have hd := HE.out.1 a1 len c1 w1 B1 (by omega)
    have H1 : Hid _ := And.intro G1 B1
    clear O0 R0 o1 g1 G1 B1
    go_wp2_with fail
    refine hd.mono ?_
    intro e w2 k2
    obtain ⟨a2, n2, c2, rfl, B2, g2⟩ := k2
    have hn2 := B2.row.len_eq
    have H2 : Hid _ := And.intro (grown_trans H1.out.1 g2) (And.intro (H1.out.2.grown g2) B2)
    clear hd g2 B2 H1
    have hd := HE.out.1 a len cap w2 (HB.out.grown H2.out.1) (by omega)
    simp only at hn2 ⊢
    go_wp2_with fail
    refine hd.mono ?_
    intro e w3 k3
    obtain ⟨a3, n3, c3, rfl, B3, g3⟩ := k3
    have H3 : Hid _ := And.intro (grown_trans H2.out.1 g3) (And.intro (H2.out.2.1.grown g3) (And.intro (H2.out.2.2.grown g3) B3))
    clear hd g3 B3 H2
    have cx := conv_row (P := Try.prog) H3.out.2.1.row c1 22 9 Try.underlying22 Try.underlying5 Try.underlying9
    have cy := conv_row (P := Try.prog) (HB.out.row.grown H3.out.1) cap 22 9 Try.underlying22 Try.underlying5 Try.underlying9
    have cz := conv_row (P := Try.prog) H3.out.2.2.1.row c2 22 9 Try.underlying22 Try.underlying5 Try.underlying9
    have cw := conv_row (P := Try.prog) H3.out.2.2.2.row c3 22 9 Try.underlying22 Try.underlying5 Try.underlying9
    have hr := HE.out.2 a2 n2 c2 w3 (HB.out.grown H3.out.1) H3.out.2.2.1
    generalize strOfNums bs = s1 at *
    generalize strOfNums J = s2 at *
    simp only at cz cw ⊢
    have H4 : Hid _ := H3.out.1
    clear HE HB H3 hJ hn2
    go_wp2_with (first | (go_at_call 10; with_reducible refine (num_any _ _).mono ?_; rintro e w' ⟨rfl, rfl⟩))
    refine hr.mono ?_
    rintro e w4 ⟨rfl, g4⟩
    have H5 : Hid _ := grown_trans H4.out g4
    clear hr g4 H4
    go_wp2_with fail
    refine (live6_any _).mono ?_
    rintro e w5 ⟨rfl, g5⟩
    have H6 : Hid _ := grown_trans H5.out g5
    clear g5 H5
    go_wp2
    go_ret
    exact ⟨rfl, grown_below H6.out⟩
end Go.Proofs.Yteghhmnkdmehbaa
