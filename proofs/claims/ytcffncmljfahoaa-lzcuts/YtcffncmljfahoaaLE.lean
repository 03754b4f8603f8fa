/- The walk of LzCuts. -/
import Derived.Test.YtcffncmljfahoaaPE
import Derived.Test.YtcffncmljfahoaaRH
namespace Go.Proofs.Ytcffncmljfahoaa
open Go.RowKit
set_option linter.unusedSimpArgs false
set_option linter.unusedVariables false

set_option maxHeartbeats 2000000 in
theorem lzCuts_walk (a : Option Addr) (len cap : Nat) (zs : List Int) (w : World) (hz : IsRow .u8 w a len cap zs) :
    Calls Try.prog 4 #[.slice a len cap] w fun e w' => e = .returned (.bool true) ∧ Below w.heap.size w w' := by
  have B := hz.byte
  generalize zs.take len = bs at B
  clear hz
  have hcm : cap ≤ 9223372036854775807 := B.cm
  have hnc := B.nc
  by_cases hl : 3000 < len
  · go_enter Try.func4, Try.ntmps4
    go_wp2_with (first | (go_at_call 9; refine (live_any _).mono ?_; rintro e w4 ⟨rfl, g3⟩; have H4 : Hid _ := g3; clear g3))
    go_ret
    exact ⟨rfl, grown_below H4.out⟩
  · have h1 := psize_any a len cap bs w B.row (by omega) hnc hcm
    have h2 := fun W (R : Row W a len bs) => pcut_any a len cap bs W R (by omega) hnc hcm
    have h3 := fun W (R : Row W a len bs) => decode_any a len cap bs 1048576 W R (by omega) hnc hcm (by omega)
    have hkp := dec_keeps bs 1048576 (len + 1) [] [] 0 (by omega)
    have hsl := dec_seqs bs 1048576 (len + 1) [] [] 0
    have hby := dec_byt bs B.row.byt 1048576 (len + 1) [] [] 0 (fun x hx => by simp at hx)
    generalize dec bs 1048576 (len + 1) [] [] 0 = r at h1 h2 h3 hkp hsl hby
    obtain ⟨ro, rs, re, rp⟩ := r
    simp only [List.length_nil] at h1 hkp hsl hby
    have HR : Hid _ := B.row
    clear B
    go_enter Try.func4, Try.ntmps4
    go_wp2_with fail
    refine h1.mono ?_
    rintro e w1 ⟨rfl, g1⟩
    have hd := h2 w1 (HR.out.grown g1)
    have H1 : Hid _ := g1
    clear h1 h2 g1
    simp only
    go_wp2_with fail
    refine hd.mono ?_
    intro e w2 k2
    obtain ⟨a2, n2, c2, ss2, rfl, R2, S2, hn2, g2⟩ := k2
    have hr := h3 w2 (HR.out.grown (grown_trans H1.out g2))
    have H2 : Hid _ := And.intro (grown_trans H1.out g2) (And.intro R2 S2.sqs)
    clear hd h3 R2 S2 hn2 g2 H1
    simp only
    go_wp2_with fail
    refine hr.mono ?_
    intro e w3 k3
    obtain ⟨vo, vl, ss3, rfl, S3⟩ := k3
    obtain ⟨a3, c3, rfl, B3⟩ := byte_own (n := ro.length) (bs := ro) S3.oo hby (by unfold maxLen; omega)
    have hl3 : ss3.length = rs.length := S3.s.len
    have hl2 : ss2.length = rs.length := H2.out.2.2.len
    obtain ⟨a4, c4, rfl, R4⟩ := owns_srow S3.ol (by unfold maxLen; omega)
    have R2 := H2.out.2.1.grown S3.g
    have e2 := R2.len_eq
    have hsm := same_any a2 a4 n2 c2 ss3.length c4 ss2 ss3 rs rs w3 R2 R4 (H2.out.2.2.grown S3.g) (S3.s.grown S3.g) (by omega)
    have H3 : Hid _ := grown_trans H2.out.1 S3.g
    clear hr S3 B3 R4 R2 H2 hl3 hl2 e2 hkp hsl hby HR
    simp only
    go_wp2_with (first | (go_at_call 11; with_reducible refine (num_any _ _).mono ?_; rintro e w' ⟨rfl, rfl⟩) | (go_at_call 15; refine hsm.mono ?_; rintro e w5 ⟨rfl, g5⟩; have H5 : Hid _ := grown_trans H3.out g5; clear g5 H3 hsm) | (go_at_call 9; refine (live_any _).mono ?_; rintro e w4 ⟨rfl, g3⟩; have H4 : Hid _ := grown_trans H5.out g3; clear g3 H5))
    go_ret
    exact ⟨rfl, grown_below H4.out⟩
end Go.Proofs.Ytcffncmljfahoaa
