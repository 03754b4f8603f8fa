/- The walk of LzDecodes. -/
import Derived.Test.YtcffncmljfahoaaLA
namespace Go.Proofs.Ytcffncmljfahoaa
open Go.RowKit
set_option linter.unusedSimpArgs false
set_option linter.unusedVariables false

theorem IsRow.byte {w : World} {a : Option Addr} {len cap : Nat} {zs : List Int} (h : IsRow .u8 w a len cap zs) : Byte w a len cap (zs.take len) := by
  refine ⟨h.row, h.nilcap, ?_, ?_⟩
  · rcases h with ⟨rfl, rfl, rfl, rfl⟩ | ⟨x, rfl, hl, hm, _⟩
    · exact Nat.le_refl _
    · exact hl
  · rcases h with ⟨rfl, rfl, rfl, rfl⟩ | ⟨x, rfl, hl, hm, _⟩
    · exact Nat.zero_le _
    · exact hm
theorem Byte.grown {w w' : World} {a : Option Addr} {n c : Nat} {xs : List Int} (h : Byte w a n c xs) (hg : w.grownBy w' none) : Byte w' a n c xs := ⟨h.row.grown hg, h.nil, h.nc, h.cm⟩
theorem byte_own {w : World} {base n : Nat} {v : Value} {bs : List Int} (h : w.ownsRow base 5 1 v n (bv bs)) (hb : Byt bs) (hl : n ≤ maxLen) : ∃ a c, v = .slice a n c ∧ Byte w a n c bs := by
  obtain ⟨a, c, e, h1, h2, h3⟩ := owns_form h
  obtain ⟨a', c', e', R⟩ := owns_row h hb hl
  rw [e] at e'
  injection e' with e1 e2 e3
  subst e1 e3
  refine ⟨a, c, e, R, ?_, h1, h2⟩
  intro e0
  rcases h3 with ⟨_, _, h⟩ | ⟨g, h, _⟩
  · exact h
  · rw [h] at e0; cases e0
theorem pdec_byt {bs : List Int} (hb : Byt bs) (most : Int) : Byt (pdec bs most).1 := by
  unfold pdec
  split
  · intro x hx; simp at hx
  · exact dec_byt bs hb _ _ _ _ _ (fun x hx => by simp at hx)
set_option maxHeartbeats 1000000 in
theorem lzDecodes_walk (a : Option Addr) (len cap : Nat) (zs : List Int) (most : Int) (w : World) (hz : IsRow .u8 w a len cap zs) (hm : (Lit.int .i64 most).wf = true) :
    Calls Try.prog 3 #[.slice a len cap, .int .i64 most] w fun e w' => e = .returned (.bool true) ∧ Below w.heap.size w w' := by
  obtain ⟨i5, hi, hz0, hz1, hz2⟩ := info_parts Try.info5
  have hmr := wf_i64 hm
  have B := hz.byte
  generalize zs.take len = bs at B
  clear hz hm
  have hcm : cap ≤ 9223372036854775807 := B.cm
  have hnc := B.nc
  have hlb := B.row.len_eq
  by_cases hl : 3000 < len
  · go_enter Try.func3, Try.ntmps3
    go_wp2_with fail
    refine (live_any _).mono ?_
    rintro e w1 ⟨rfl, g1⟩
    have H1 : Hid _ := g1
    clear g1
    go_wp2
    go_ret
    exact ⟨rfl, grown_below H1.out⟩
  · have O0 := World.ownsRow_made (base := w.heap.size) (e := 5) (size := 1) w #[] 0 (Nat.le_refl _) (Nat.zero_le _) (by simp)
    have R0 := B.row.grown (World.grownBy_alloc w (.cells #[] 5) none)
    have HB : Hid _ := B
    clear B
    go_enter Try.func3, Try.ntmps3
    go_wp2_with (at_builtin; refine wpList_append8 rfl _ _ 22 rfl w.heap.size i5 Try.underlying22 hi hz0 hz1 hz2 _ 0 [] rfl O0 _ len cap _ rfl R0 HB.out.nil (by omega) (by simp) ?_)
    intro v1 w1 o1 g1
    have G1 : w.grownBy w1 none := grown_own (World.grownBy_alloc w (.cells #[] 5) none) O0 g1 (Nat.le_refl _)
    obtain ⟨a1, c1, rfl, B1⟩ := byte_own (bs := bs) (by simpa using o1) HB.out.row.byt (by unfold maxLen; omega)
    have hd := pdecode_any a1 len c1 bs most w1 B1.row (by omega) B1.nc B1.cm hmr
    have H1 : Hid _ := And.intro G1 B1
    clear O0 R0 o1 g1 G1 B1
    go_wp2_with fail
    refine hd.mono ?_
    intro e w2 k2
    obtain ⟨a2, n2, c2, rfl, B2, g2⟩ := k2
    have hn2 := B2.row.len_eq
    have H2 : Hid _ := And.intro (grown_trans H1.out.1 g2) (And.intro (H1.out.2.grown g2) B2)
    clear hd g2 B2 H1
    by_cases hr : most < 0 ∨ 1048576 < most
    · have e : pdec bs most = ([], [], 1, 0) := by unfold pdec; rw [if_pos hr]
      rw [e] at hn2 ⊢
      simp only [List.length_nil] at hn2
      subst hn2
      have H3 : Hid _ := H2.out.1
      clear H2 e
      simp only
      rcases hr with hr | hr
      all_goals
        go_wp2_with (first | (go_at_call 11; with_reducible refine (num_any _ _).mono ?_; rintro e w' ⟨rfl, rfl⟩) | (go_at_call 9; refine (live_any _).mono ?_; rintro e w3 ⟨rfl, g3⟩; have H4 : Hid _ := grown_trans H3.out g3; clear g3 H3))
        go_ret
        exact ⟨rfl, grown_below H4.out⟩
    · have e : pdec bs most = dec bs most (len + 1) [] [] 0 := by unfold pdec; rw [if_neg hr, hlb]
      have hpb := pdec_byt HB.out.row.byt most
      have hkp := dec_keeps bs most (len + 1) [] [] 0 (by omega)
      rw [e] at hn2 H2 hpb ⊢
      have hrd := decode_any a len cap bs most w2 (HB.out.row.grown H2.out.1) (by omega) hnc hcm (by omega)
      generalize dec bs most (len + 1) [] [] 0 = r at *
      obtain ⟨ro, rs, re, rp⟩ := r
      simp only at hn2 H2 hpb hkp ⊢
      clear e
      subst hn2
      go_wp2_with fail
      refine hrd.mono ?_
      intro e w3 k3
      obtain ⟨vo, vl, ss, rfl, S3⟩ := k3
      obtain ⟨a3, c3, rfl, B3⟩ := byte_own (n := ro.length) (bs := ro) S3.oo hpb (by unfold maxLen; omega)
      have cx := conv_row (P := Try.prog) (H2.out.2.2.row.grown S3.g) c2 22 9 Try.underlying22 Try.underlying5 Try.underlying9
      have cy := conv_row (P := Try.prog) B3.row c3 22 9 Try.underlying22 Try.underlying5 Try.underlying9
      have cz := conv_row (P := Try.prog) (H2.out.2.1.row.grown S3.g) c1 22 9 Try.underlying22 Try.underlying5 Try.underlying9
      have cw := conv_row (P := Try.prog) ((HB.out.row.grown H2.out.1).grown S3.g) cap 22 9 Try.underlying22 Try.underlying5 Try.underlying9
      generalize strOfNums ro = s1 at cx cy
      generalize strOfNums bs = s2 at cz cw
      have H3 : Hid _ := grown_trans H2.out.1 S3.g
      simp only at cx cy ⊢
      clear hrd S3 B3 H2 HB hpb hkp hlb
      go_wp2_with (first | (go_at_call 11; with_reducible refine (num_any _ _).mono ?_; rintro e w' ⟨rfl, rfl⟩) | (go_at_call 9; refine (live_any _).mono ?_; rintro e w4 ⟨rfl, g3⟩; have H4 : Hid _ := grown_trans H3.out g3; clear g3 H3))
      go_ret
      exact ⟨rfl, grown_below H4.out⟩
end Go.Proofs.Ytcffncmljfahoaa
