/- The walk of MatchPacks. -/
import Derived.Test.YteghhmnkdmehbaaNB
namespace Go.Proofs.Yteghhmnkdmehbaa
open Go.RowKit
set_option linter.unusedSimpArgs false
set_option linter.unusedVariables false

theorem run_frombits (b : Nat) (w : World) : (callFunc 14 #[.int .u64 b]).run Try.prog w = .ok (.value (.float .f64 b)) w := by
  rw [run_callFunc_extern (P := Try.prog) Try.func14 (by kernel_rfl) (by kernel_rfl) (by kernel_rfl) (e := Extern.MathFloatBits.float64frombits) (by kernel_rfl)]
  rfl
theorem unpk_packed {bs : List Int} (hl : bs.length ≤ 1048576) (hb : Byt (jcat (enc bs))) : unpk (jcat (enc bs)) true bs.length = (bs, 0) := by
  have h := (enc_ok bs hl).dec hb
  unfold unpk
  rw [if_neg (by omega), if_pos rfl, h]
theorem unpk_plain {bs : List Int} (hl : bs.length ≤ 1048576) : unpk bs false bs.length = (bs, 0) := by
  unfold unpk
  rw [if_neg (by omega), if_neg (by decide), if_neg (by omega)]
set_option maxHeartbeats 2000000 in
theorem matchPacks_walk (a : Option Addr) (len cap : Nat) (zs : List Int) (limit : Int) (w : World) (hz : IsRow .u8 w a len cap zs) (hn : (Lit.int .u64 limit).wf = true) :
    Calls Try.prog 6 #[.slice a len cap, .int .u64 limit] w fun e w' => e = .returned (.bool true) ∧ Below w.heap.size w w' := by
  have hlim : 0 ≤ limit := (wf_u64 hn).1
  obtain ⟨L, rfl⟩ := Int.eq_ofNat_of_zero_le hlim
  have B := hz.byte
  generalize zs.take len = bs at B
  clear hz hn hlim
  have hcm : cap ≤ 9223372036854775807 := B.cm
  have hnc := B.nc
  have hlb := B.row.len_eq
  by_cases hl : 5000 < len
  · go_enter Try.func6, Try.ntmps6
    go_wp2_with fail
    refine (live6_any _).mono ?_
    rintro e w1 ⟨rfl, g1⟩
    have H1 : Hid _ := g1
    clear g1
    go_wp2
    go_ret
    exact ⟨rfl, grown_below H1.out⟩
  · have hq : (enc bs).length ≤ 65536 := by have := enc_len bs; omega
    have hJ := jcat_small (bs := bs) (by omega)
    have hen := fun W B => encode_any a len cap bs W B (by omega) hq
    have hpa := fun W B => pack_any a len cap bs L W B (by omega) hq
    have hup := fun hb => unpk_packed (bs := bs) (by omega) hb
    have hpl := unpk_plain (bs := bs) (by omega)
    unfold pck at hpa
    rw [hlb] at hpa hup hpl
    have hfb := run_frombits L
    generalize jcat (enc bs) = J at *
    have hmw := fun W => mworth_any (len : Int) (J.length : Int) L W
    have HB : Hid _ := B
    clear B hq
    generalize wrth (len : Int) (J.length : Int) L = p at *
    cases p with
    | true =>
      rw [if_pos rfl] at hpa
      have HE : Hid _ := And.intro hen (And.intro hpa hup)
      clear hen hpa hup hpl
      go_enter Try.func6, Try.ntmps6
      go_wp2_with fail
      refine (HE.out.1 _ HB.out).mono ?_
      intro e w1 k1
      obtain ⟨a1, n1, c1, rfl, B1, g1⟩ := k1
      have hn1 : J.length = n1 := B1.row.len_eq
      have hk2 := HE.out.2.1 w1 (HB.out.grown g1)
      have H1 : Hid _ := And.intro g1 B1
      clear B1 g1
      simp only
      go_wp2_with fail
      refine hk2.mono ?_
      intro e w2 k2
      obtain ⟨a2, n2, c2, rfl, B2, g2⟩ := k2
      have hn2 : J.length = n2 := B2.row.len_eq
      have H2 : Hid _ := And.intro (grown_trans H1.out.1 g2) (And.intro (H1.out.2.grown g2) B2)
      rw [hn1] at hmw hJ
      obtain rfl : n1 = n2 := by omega
      clear hk2 B2 g2 H1 hn1 hn2
      simp only
      go_wp2_with (first | (go_at_call 10; with_reducible refine (num_any _ _).mono ?_; rintro e w' ⟨rfl, rfl⟩))
      refine (hmw _).mono ?_
      rintro e w3 ⟨rfl, m, rfl⟩
      have gm := grown_drewN5 (World.grownBy.refl w2 none) m
      have H3 : Hid _ := And.intro (grown_trans H2.out.1 gm) (And.intro (H2.out.2.1.grown gm) (H2.out.2.2.grown gm))
      clear H2 gm hmw
      generalize w2.drewN m = w3 at *
      have cx := conv_row (P := Try.prog) H3.out.2.1.row c1 22 9 Try.underlying22 Try.underlying5 Try.underlying9
      have cy := conv_row (P := Try.prog) H3.out.2.2.row c2 22 9 Try.underlying22 Try.underlying5 Try.underlying9
      have hu := unpack6_any a2 n1 c2 J true len w3 H3.out.2.2 (by omega) (by omega)
      rw [HE.out.2.2 H3.out.2.2.row.byt] at hu
      generalize strOfNums J = s1 at *
      clear HE
      go_wp2_with fail
      refine hu.mono ?_
      intro e w4 k4
      obtain ⟨a4, n4, c4, rfl, B4, g4, _⟩ := k4
      have cz := conv_row (P := Try.prog) B4.row c4 22 9 Try.underlying22 Try.underlying5 Try.underlying9
      have cw := conv_row (P := Try.prog) (HB.out.row.grown (grown_trans H3.out.1 g4)) cap 22 9 Try.underlying22 Try.underlying5 Try.underlying9
      generalize strOfNums bs = s2 at *
      have H4 : Hid _ := grown_trans H3.out.1 g4
      clear B4 g4 H3 hu HB cx cy
      simp only
      go_wp2_with (first | (go_at_call 10; with_reducible refine (num_any _ _).mono ?_; rintro e w' ⟨rfl, rfl⟩) | (go_at_call 8; refine (live6_any _).mono ?_; rintro e w5 ⟨rfl, g5⟩; have H5 : Hid _ := grown_trans H4.out g5; clear g5))
      go_ret
      exact ⟨rfl, grown_below H5.out⟩
    | false =>
      rw [if_neg (by decide)] at hpa
      have HE : Hid _ := And.intro hen (And.intro hpa hpl)
      clear hen hpa hup hpl
      go_enter Try.func6, Try.ntmps6
      go_wp2_with fail
      refine (HE.out.1 _ HB.out).mono ?_
      intro e w1 k1
      obtain ⟨a1, n1, c1, rfl, B1, g1⟩ := k1
      have hn1 : J.length = n1 := B1.row.len_eq
      have hk2 := HE.out.2.1 w1 (HB.out.grown g1)
      have HG1 : Hid _ := g1
      clear B1 g1
      simp only
      go_wp2_with fail
      refine hk2.mono ?_
      intro e w2 k2
      obtain ⟨a2, n2, c2, rfl, B2, g2⟩ := k2
      have hn2 : bs.length = n2 := B2.row.len_eq
      have H2 : Hid _ := And.intro (grown_trans HG1.out g2) B2
      rw [hn1] at hmw hJ
      obtain rfl : len = n2 := by omega
      clear hk2 B2 g2 HG1 hn1 hn2 hlb
      simp only
      go_wp2_with (first | (go_at_call 10; with_reducible refine (num_any _ _).mono ?_; rintro e w' ⟨rfl, rfl⟩))
      refine (hmw _).mono ?_
      rintro e w3 ⟨rfl, m, rfl⟩
      have gm := grown_drewN5 (World.grownBy.refl w2 none) m
      have H3 : Hid _ := And.intro (grown_trans H2.out.1 gm) (H2.out.2.grown gm)
      clear H2 gm hmw
      generalize w2.drewN m = w3 at *
      have cx := conv_row (P := Try.prog) (HB.out.row.grown H3.out.1) cap 22 9 Try.underlying22 Try.underlying5 Try.underlying9
      have cy := conv_row (P := Try.prog) H3.out.2.row c2 22 9 Try.underlying22 Try.underlying5 Try.underlying9
      have hu := unpack6_any a2 len c2 bs false len w3 H3.out.2 (by omega) (by omega)
      rw [HE.out.2.2] at hu
      generalize hs1 : strOfNums bs = s1 at *
      have HS1 : Hid _ := hs1
      clear HE hs1
      go_wp2_with fail
      refine hu.mono ?_
      intro e w4 k4
      obtain ⟨a4, n4, c4, rfl, B4, g4, _⟩ := k4
      have cz := conv_row (P := Try.prog) B4.row c4 22 9 Try.underlying22 Try.underlying5 Try.underlying9
      have cw := conv_row (P := Try.prog) (HB.out.row.grown (grown_trans H3.out.1 g4)) cap 22 9 Try.underlying22 Try.underlying5 Try.underlying9
      rw [HS1.out] at cz cw
      have H4 : Hid _ := grown_trans H3.out.1 g4
      clear B4 g4 H3 hu HB cx cy
      simp only
      go_wp2_with (first | (go_at_call 10; with_reducible refine (num_any _ _).mono ?_; rintro e w' ⟨rfl, rfl⟩) | (go_at_call 8; refine (live6_any _).mono ?_; rintro e w5 ⟨rfl, g5⟩; have H5 : Hid _ := grown_trans H4.out g5; clear g5))
      go_ret
      exact ⟨rfl, grown_below H5.out⟩
end Go.Proofs.Yteghhmnkdmehbaa
