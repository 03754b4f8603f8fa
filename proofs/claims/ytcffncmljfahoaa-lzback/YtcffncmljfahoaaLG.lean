/- The walk of LzBack. -/
import Derived.Test.YtcffncmljfahoaaLF
import Derived.Test.YtcffncmljfahoaaPE
import Derived.Test.YtcffncmljfahoaaRH
import Derived.Test.YtcffncmljfahoaaRO
namespace Go.Proofs.Ytcffncmljfahoaa
open Go.RowKit
set_option linter.unusedSimpArgs false
set_option linter.unusedVariables false

theorem SArg.grown {w w' : World} {a : Option Addr} {len : Nat} {ss : List SqV} {qs : List Sq} (h : SArg w a len ss qs) (g : w.grownBy w' none) : SArg w' a len ss qs := ⟨h.row.grown g, h.sqs.grown g, h.bnd⟩
theorem pdec_max (bs : List Int) : pdec bs 1048576 = dec bs 1048576 (bs.length + 1) [] [] 0 := by unfold pdec; rw [if_neg (by omega)]

/-- the second half: a block that is cut and joined -/
def Back2 (w W : World) (a : Option Addr) (len cap : Nat) (bs : List Int) : Prop := Byte w a len cap bs ∧ w.grownBy W none ∧ len ≤ 3000

set_option maxHeartbeats 4000000 in
theorem lzBack_walk (a0 : Option Addr) (len0 cap0 : Nat) (ss : List SqV) (qs : List Sq) (a : Option Addr) (len cap : Nat) (zs : List Int) (w : World) (M : SArg w a0 len0 ss qs) (hz : IsRow .u8 w a len cap zs) :
    Calls Try.prog 6 #[.slice a0 len0 cap0, .slice a len cap] w fun e w' => e = .returned (.bool true) ∧ Below w.heap.size w w' := by
  have B := hz.byte
  generalize zs.take len = bs at B
  clear hz
  have hcm : cap ≤ 9223372036854775807 := B.cm
  have hnc := B.nc
  have hlm : len ≤ 9223372036854775807 := by omega
  have hbg := big_any a0 len0 cap0 ss qs w M
  go_enter Try.func6, Try.ntmps6
  go_wp2_with fail
  refine hbg.mono ?_
  intro e w1 k1
  obtain ⟨bb, rfl, rfl, hb⟩ := k1
  clear hbg
  simp only
  by_cases hsm : bb = true ∨ 3000 < len
  · have HL : Hid (∀ W, Calls Try.prog 9 #[] W fun e w' => e = .returned (.bool true) ∧ W.grownBy w' none) := fun W => live_any W
    have hsm' : (bb || decide (3000 < (len : Int))) = true := by
      rcases hsm with rfl | h
      · simp
      · simp; right; omega
    clear hb M
    cases bb
    · have h3 : 3000 < len := by simpa using hsm
      clear hsm hsm'
      go_wp2_with (first | (go_at_call 9; refine (HL.out _).mono ?_; rintro e w4 ⟨rfl, g3⟩; have H4 : Hid _ := g3; clear g3))
      go_ret
      exact ⟨rfl, grown_below H4.out⟩
    · clear hsm hsm'
      go_wp2_with (first | (go_at_call 9; refine (HL.out _).mono ?_; rintro e w4 ⟨rfl, g3⟩; have H4 : Hid _ := g3; clear g3))
      go_ret
      exact ⟨rfl, grown_below H4.out⟩
  · obtain ⟨rfl, h300, hlit⟩ : bb = false ∧ len0 ≤ 300 ∧ ∀ q ∈ qs, q.1.length ≤ 3000 := by
      rcases hb with h | h
      · exact absurd (Or.inl h) hsm
      · exact h
    have hl3 : len ≤ 3000 := by
      rcases Nat.lt_or_ge 3000 len with h | h
      · exact absurd (Or.inr h) hsm
      · exact h
    clear hb hsm
    have hj := pjoin_any a0 len0 cap0 ss qs w1 ⟨M, fun q hq => by have := hlit q hq; omega, by omega⟩ (by omega)
    have HM : Hid _ := M
    have HB : Hid _ := B
    clear hlit M B
    go_wp2_with fail
    refine hj.mono ?_
    intro e w2 k2
    obtain ⟨a2, n2, c2, rfl, B2, g2⟩ := k2
    clear hj
    simp only
    by_cases hje : (join qs).2 = 0
    · obtain ⟨hne, hJ, ej⟩ := join_bad hje
      rw [ej] at B2 ⊢
      simp only at B2 ⊢
      have hl2 : (jcat qs).length = n2 := B2.row.len_eq
      have hjc := jcat_le (Int.le_refl 0) (by omega) hJ
      have hq0 : qs.length = len0 := by have h1 := HM.out.row.len_eq; have h2 := HM.out.sqs.len; omega
      have hc2 := pcut_any a2 n2 c2 (jcat qs) w2 B2.row (by omega) B2.nc B2.cm
      have hdj := dec_of_join qs hne hJ 1048576 (Int.le_refl _)
      rw [hl2] at hdj
      rw [hdj] at hc2
      have H2 : Hid _ := g2
      have HL0 : Hid _ := And.intro hl2 hq0
      clear g2 hdj hJ hne ej hje B2
      go_wp2_with (first | (go_at_call 11; with_reducible refine (num_any _ _).mono ?_; rintro e w' ⟨rfl, rfl⟩))
      refine hc2.mono ?_
      intro e w3 k3
      obtain ⟨a3, n3, c3, ss3, rfl, R3, S3, hn3, g3⟩ := k3
      clear hc2
      simp only
      have hl3' := R3.len_eq
      have hl4 := sqsO_len S3
      simp only at hl4
      have hsm := same_any a3 a0 n3 c3 len0 cap0 ss3 ss qs qs w3 R3 (HM.out.row.grown (grown_trans H2.out g3)) S3.sqs (HM.out.sqs.grown (grown_trans H2.out g3)) (by omega)
      rw [decide_eq_true rfl] at hsm
      have H3 : Hid _ := grown_trans H2.out g3
      clear R3 S3 g3 H2 hn3 hl3' hl4 hjc hl2 hq0
      go_wp2_with (first | (go_at_call 11; with_reducible refine (num_any _ _).mono ?_; rintro e w' ⟨rfl, rfl⟩) | (go_at_call 15; refine hsm.mono ?_; rintro e w4 ⟨rfl, g4⟩; have HG : Hid _ := grown_trans H3.out g4; clear g4 H3 hsm) | fail)
      have hcu := pcut_any a len cap bs w4 (HB.out.row.grown HG.out) (by omega) hnc hcm
      have hlb := HB.out.row.len_eq
      rw [← hlb] at hcu
      have hnil := dec_nil bs 1048576 (bs.length + 1) [] [] 0
      have hbk := dec_back bs HB.out.row.byt
      have hkp := dec_keeps bs 1048576 (bs.length + 1) [] [] 0 (by omega)
      have hsl := dec_seqs bs 1048576 (bs.length + 1) [] [] 0
      have hbt := dec_byt bs HB.out.row.byt 1048576 (bs.length + 1) [] [] 0 (fun x hx => by simp at hx)
      have hpd := fun W (R : Row W a len bs) => pdecode_any a len cap bs 1048576 W R (by omega) hnc hcm (by omega)
      rw [pdec_max] at hpd
      generalize dec bs 1048576 (bs.length + 1) [] [] 0 = r at hcu hnil hbk hkp hsl hbt hpd
      obtain ⟨ro, rs, re, rp⟩ := r
      simp only [List.length_nil] at hnil hbk hkp hsl hbt
      have HR : Hid _ := And.intro hnil (And.intro hbk (And.intro hbt hpd))
      have HLB : Hid _ := hlb
      clear hnil hbk hbt hpd
      rw [hlb] at hcu
      rw [hlb] at hsl
      clear hlb
      refine hcu.mono ?_
      intro e w5 k5
      obtain ⟨a5, n5, c5, ss5, rfl, R5, S5, hn5, g5⟩ := k5
      clear hcu
      simp only
      have hl5 := R5.len_eq
      have hl6 := sqsO_len S5
      have H5 : Hid _ := And.intro (grown_trans HG.out g5) (And.intro R5 S5)
      clear R5 S5 g5 hn5 HG
      by_cases he : re = 0
      · subst he
        obtain ⟨qs5, hne, hqe, hJ, hjl, hdj⟩ := HR.out.2.1 rfl
        subst hqe
        have hpd := HR.out.2.2.2 w5 (HB.out.row.grown H5.out.1)
        have hle5 : n5 ≤ 3001 := by simp only at hl6; omega
        have HJ : Hid _ := And.intro hne (And.intro hJ (And.intro hjl hdj))
        have HBT : Hid _ := HR.out.2.2.1
        clear hne hJ hjl hdj HR
        go_wp2_with (first | (go_at_call 11; with_reducible refine (num_any _ _).mono ?_; rintro e w' ⟨rfl, rfl⟩))
        refine hpd.mono ?_
        intro e w6 k6
        obtain ⟨a6, n6, c6, rfl, B6, g6⟩ := k6
        clear hpd
        simp only
        have hmo := jok_mod (Int.le_refl 0) HJ.out.2.1
        have hjn := pjoin_any a5 n5 c5 ss5 rs w6 ⟨⟨H5.out.2.1.grown g6, (H5.out.2.2.sqs).grown g6, fun q hq => (hmo q hq).1⟩, fun q hq => by have := (hmo q hq).2; omega, by omega⟩ (by omega)
        rw [join_ok HJ.out.1 HJ.out.2.1] at hjn
        have H6 : Hid _ := And.intro (grown_trans H5.out.1 g6) B6
        clear g6 B6 hmo
        go_wp2_with (first | (go_at_call 11; with_reducible refine (num_any _ _).mono ?_; rintro e w' ⟨rfl, rfl⟩))
        refine hjn.mono ?_
        intro e w7 k7
        obtain ⟨a7, n7, c7, rfl, B7, g7⟩ := k7
        clear hjn
        simp only
        have hl7 : (jcat rs).length = n7 := B7.row.len_eq
        have hjl := HJ.out.2.2.1
        have hle7 : n7 ≤ len := by have := HLB.out; omega
        have hd7 := pdecode_any a7 n7 c7 (jcat rs) 1048576 w7 B7.row (by omega) B7.nc B7.cm (by omega)
        rw [pdec_max, HJ.out.2.2.2] at hd7
        have H7 : Hid _ := And.intro (grown_trans H6.out.1 g7) (H6.out.2.grown g7)
        clear g7 B7 H6 hjl hl7
        go_wp2_with (first | (go_at_call 11; with_reducible refine (num_any _ _).mono ?_; rintro e w' ⟨rfl, rfl⟩))
        refine hd7.mono ?_
        intro e w8 k8
        obtain ⟨a8, n8, c8, rfl, B8, g8⟩ := k8
        clear hd7
        simp only
        have cx := conv_row (P := Try.prog) (H7.out.2.row.grown g8) c6 22 9 Try.underlying22 Try.underlying5 Try.underlying9
        have cy := conv_row (P := Try.prog) B8.row c8 22 9 Try.underlying22 Try.underlying5 Try.underlying9
        simp only at cx cy
        generalize strOfNums ro = sx at cx cy
        have HG8 : Hid _ := grown_trans H7.out.1 g8
        clear B8 g8 H7 HJ HBT H5 HLB hl5 hl6 hsl hkp hle5
        go_wp2_with (first | (go_at_call 11; with_reducible refine (num_any _ _).mono ?_; rintro e w' ⟨rfl, rfl⟩) | (go_at_call 9; refine (live_any _).mono ?_; rintro e w9 ⟨rfl, g3⟩; have H9 : Hid _ := grown_trans HG8.out g3; clear g3 HG8))
        go_ret
        exact ⟨rfl, grown_below H9.out⟩
      · have he' : (re == 0) = false := by simp [he]
        obtain ⟨e1, e2⟩ := HR.out.1 he
        subst e1 e2
        have hn0 : n5 = 0 := by simp only [List.length_nil] at hl6; omega
        subst hn0
        have HG5 : Hid _ := H5.out.1
        clear HR H5 HLB hl5 hl6 hsl hkp
        go_wp2_with (first | (go_at_call 11; with_reducible refine (num_any _ _).mono ?_; rintro e w' ⟨rfl, rfl⟩) | (go_at_call 9; refine (live_any _).mono ?_; rintro e w9 ⟨rfl, g3⟩; have H9 : Hid _ := grown_trans HG5.out g3; clear g3 HG5))
        go_ret
        exact ⟨rfl, grown_below H9.out⟩
    · have hje' : ((join qs).2 == 0) = false := by simp [hje]
      generalize (join qs).2 = je at hje hje' ⊢
      have HG : Hid _ := g2
      clear B2 g2
      have hcu := pcut_any a len cap bs w2 (HB.out.row.grown HG.out) (by omega) hnc hcm
      have hlb := HB.out.row.len_eq
      rw [← hlb] at hcu
      have hnil := dec_nil bs 1048576 (bs.length + 1) [] [] 0
      have hbk := dec_back bs HB.out.row.byt
      have hkp := dec_keeps bs 1048576 (bs.length + 1) [] [] 0 (by omega)
      have hsl := dec_seqs bs 1048576 (bs.length + 1) [] [] 0
      have hbt := dec_byt bs HB.out.row.byt 1048576 (bs.length + 1) [] [] 0 (fun x hx => by simp at hx)
      have hpd := fun W (R : Row W a len bs) => pdecode_any a len cap bs 1048576 W R (by omega) hnc hcm (by omega)
      rw [pdec_max] at hpd
      generalize dec bs 1048576 (bs.length + 1) [] [] 0 = r at hcu hnil hbk hkp hsl hbt hpd
      obtain ⟨ro, rs, re, rp⟩ := r
      simp only [List.length_nil] at hnil hbk hkp hsl hbt
      have HR : Hid _ := And.intro hnil (And.intro hbk (And.intro hbt hpd))
      have HLB : Hid _ := hlb
      clear hnil hbk hbt hpd
      go_wp2_with (first | (go_at_call 11; with_reducible refine (num_any _ _).mono ?_; rintro e w' ⟨rfl, rfl⟩))
      rw [hlb] at hcu
      rw [hlb] at hsl
      clear hlb
      refine hcu.mono ?_
      intro e w5 k5
      obtain ⟨a5, n5, c5, ss5, rfl, R5, S5, hn5, g5⟩ := k5
      clear hcu
      simp only
      have hl5 := R5.len_eq
      have hl6 := sqsO_len S5
      have H5 : Hid _ := And.intro (grown_trans HG.out g5) (And.intro R5 S5)
      clear R5 S5 g5 hn5 HG
      by_cases he : re = 0
      · subst he
        obtain ⟨qs5, hne, hqe, hJ, hjl, hdj⟩ := HR.out.2.1 rfl
        subst hqe
        have hpd := HR.out.2.2.2 w5 (HB.out.row.grown H5.out.1)
        have hle5 : n5 ≤ 3001 := by simp only at hl6; omega
        have HJ : Hid _ := And.intro hne (And.intro hJ (And.intro hjl hdj))
        have HBT : Hid _ := HR.out.2.2.1
        clear hne hJ hjl hdj HR
        go_wp2_with (first | (go_at_call 11; with_reducible refine (num_any _ _).mono ?_; rintro e w' ⟨rfl, rfl⟩))
        refine hpd.mono ?_
        intro e w6 k6
        obtain ⟨a6, n6, c6, rfl, B6, g6⟩ := k6
        clear hpd
        simp only
        have hmo := jok_mod (Int.le_refl 0) HJ.out.2.1
        have hjn := pjoin_any a5 n5 c5 ss5 rs w6 ⟨⟨H5.out.2.1.grown g6, (H5.out.2.2.sqs).grown g6, fun q hq => (hmo q hq).1⟩, fun q hq => by have := (hmo q hq).2; omega, by omega⟩ (by omega)
        rw [join_ok HJ.out.1 HJ.out.2.1] at hjn
        have H6 : Hid _ := And.intro (grown_trans H5.out.1 g6) B6
        clear g6 B6 hmo
        go_wp2_with (first | (go_at_call 11; with_reducible refine (num_any _ _).mono ?_; rintro e w' ⟨rfl, rfl⟩))
        refine hjn.mono ?_
        intro e w7 k7
        obtain ⟨a7, n7, c7, rfl, B7, g7⟩ := k7
        clear hjn
        simp only
        have hl7 : (jcat rs).length = n7 := B7.row.len_eq
        have hjl := HJ.out.2.2.1
        have hle7 : n7 ≤ len := by have := HLB.out; omega
        have hd7 := pdecode_any a7 n7 c7 (jcat rs) 1048576 w7 B7.row (by omega) B7.nc B7.cm (by omega)
        rw [pdec_max, HJ.out.2.2.2] at hd7
        have H7 : Hid _ := And.intro (grown_trans H6.out.1 g7) (H6.out.2.grown g7)
        clear g7 B7 H6 hjl hl7
        go_wp2_with (first | (go_at_call 11; with_reducible refine (num_any _ _).mono ?_; rintro e w' ⟨rfl, rfl⟩))
        refine hd7.mono ?_
        intro e w8 k8
        obtain ⟨a8, n8, c8, rfl, B8, g8⟩ := k8
        clear hd7
        simp only
        have cx := conv_row (P := Try.prog) (H7.out.2.row.grown g8) c6 22 9 Try.underlying22 Try.underlying5 Try.underlying9
        have cy := conv_row (P := Try.prog) B8.row c8 22 9 Try.underlying22 Try.underlying5 Try.underlying9
        simp only at cx cy
        generalize strOfNums ro = sx at cx cy
        have HG8 : Hid _ := grown_trans H7.out.1 g8
        clear B8 g8 H7 HJ HBT H5 HLB hl5 hl6 hsl hkp hle5
        go_wp2_with (first | (go_at_call 11; with_reducible refine (num_any _ _).mono ?_; rintro e w' ⟨rfl, rfl⟩) | (go_at_call 9; refine (live_any _).mono ?_; rintro e w9 ⟨rfl, g3⟩; have H9 : Hid _ := grown_trans HG8.out g3; clear g3 HG8))
        go_ret
        exact ⟨rfl, grown_below H9.out⟩
      · have he' : (re == 0) = false := by simp [he]
        obtain ⟨e1, e2⟩ := HR.out.1 he
        subst e1 e2
        have hn0 : n5 = 0 := by simp only [List.length_nil] at hl6; omega
        subst hn0
        have HG5 : Hid _ := H5.out.1
        clear HR H5 HLB hl5 hl6 hsl hkp
        go_wp2_with (first | (go_at_call 11; with_reducible refine (num_any _ _).mono ?_; rintro e w' ⟨rfl, rfl⟩) | (go_at_call 9; refine (live_any _).mono ?_; rintro e w9 ⟨rfl, g3⟩; have H9 : Hid _ := grown_trans HG5.out g3; clear g3 HG5))
        go_ret
        exact ⟨rfl, grown_below H9.out⟩
end Go.Proofs.Ytcffncmljfahoaa
