/- The walk of LzBounds. -/
import Derived.Test.YtcffncmljfahoaaLB
namespace Go.Proofs.Ytcffncmljfahoaa
open Go.RowKit
set_option linter.unusedSimpArgs false
set_option linter.unusedVariables false

/-- the end of a law: its page's example -/
theorem bounds_plain {bs : List Int} (hb : Byt bs) {most : Int} (hm : 0 ≤ most ∧ most ≤ 1048576) :
    (pdec bs most = pdec bs 1048576 ∧ ((pdec bs 1048576).1.length : Int) ≤ most) ∨ ∃ q : Int, q < bs.length ∧ pdec bs most = ([], [], 2, q) ∧ ((pdec bs 1048576).2.2.1 = 0 → most < ((pdec bs 1048576).1.length : Int)) := by
  unfold pdec
  rw [if_neg (by omega), if_neg (by omega)]
  rcases dec_bound bs hb most 1048576 hm.2 (bs.length + 1) [] [] 0 with h | ⟨q, h1, h2, h3⟩
  · left
    refine ⟨h, ?_⟩
    rw [← h]
    exact dec_keeps _ _ _ _ _ _ hm.1
  · exact Or.inr ⟨q, by omega, h2, h3⟩

set_option maxHeartbeats 2000000 in
theorem lzBounds_walk (a : Option Addr) (len cap : Nat) (zs : List Int) (most : Int) (w : World) (hz : IsRow .u8 w a len cap zs) (hm : (Lit.int .i64 most).wf = true) :
    Calls Try.prog 8 #[.slice a len cap, .int .i64 most] w fun e w' => e = .returned (.bool true) ∧ Below w.heap.size w w' := by
  have hmr := wf_i64 hm
  have B := hz.byte
  generalize zs.take len = bs at B
  clear hz hm
  have hcm : cap ≤ 9223372036854775807 := B.cm
  have hnc := B.nc
  have hlb := B.row.len_eq
  by_cases hl : 3000 < len ∨ most < 0 ∨ 1048576 < most
  · rcases hl with hl | hl | hl
    all_goals
      go_enter Try.func8, Try.ntmps8
      go_wp2_with (first | (go_at_call 9; refine (live_any _).mono ?_; rintro e w4 ⟨rfl, g3⟩; have H4 : Hid _ := g3; clear g3))
      all_goals
        go_ret
        exact ⟨rfl, grown_below (Hid.out (by assumption))⟩
  · have hp := bounds_plain B.row.byt (most := most) (by omega)
    have hy := dec_nil bs 1048576 (bs.length + 1) [] [] 0
    have h1 := pdecode_any a len cap bs 1048576 w B.row (by omega) hnc hcm (by omega)
    have h2 := fun W (R : Row W a len bs) => pdecode_any a len cap bs most W R (by omega) hnc hcm hmr
    have e0 : pdec bs 1048576 = dec bs 1048576 (bs.length + 1) [] [] 0 := by unfold pdec; rw [if_neg (by omega)]
    have hkp := dec_keeps bs 1048576 (bs.length + 1) [] [] 0 (by omega)
    rw [← e0] at hy hkp
    clear e0
    generalize pdec bs 1048576 = r1 at h1 hp hy hkp
    generalize pdec bs most = r2 at h2 hp
    obtain ⟨o1, s1, e1, p1⟩ := r1
    obtain ⟨o2, s2, e2, p2⟩ := r2
    simp only [Prod.mk.injEq] at hp hy hkp
    have HP : Hid _ := And.intro hp hy
    rw [hlb] at HP
    clear hp hy hlb
    go_enter Try.func8, Try.ntmps8
    go_wp2_with fail
    all_goals try (exfalso; rename_i h _; omega)
    refine h1.mono ?_
    intro e w1 k1
    obtain ⟨a1, n1, c1, rfl, B1, g1⟩ := k1
    have hn1 : o1.length = n1 := B1.row.len_eq
    subst hn1
    have hd := h2 w1 (B.row.grown g1)
    have H1 : Hid _ := And.intro g1 B1
    clear h1 h2 B1 g1
    simp only
    go_wp2_with fail
    refine hd.mono ?_
    intro e w2 k2
    obtain ⟨a2, n2, c2, rfl, B2, g2⟩ := k2
    have hn2 : o2.length = n2 := B2.row.len_eq
    subst hn2
    have H2 : Hid _ := And.intro (grown_trans H1.out.1 g2) (And.intro (H1.out.2.grown g2) B2)
    clear hd B2 g2 H1 B
    simp only
    have HG : Hid _ := H2.out.1
    obtain ⟨hp, hy⟩ := HP.out
    by_cases he : e1 = 0
    · subst he
      rcases hp with ⟨⟨rfl, rfl, rfl, rfl⟩, hle⟩ | ⟨q, hq, ⟨rfl, rfl, rfl, rfl⟩, hlt⟩
      · have cx := conv_row (P := Try.prog) H2.out.2.1.row c1 22 9 Try.underlying22 Try.underlying5 Try.underlying9
        have cy := conv_row (P := Try.prog) H2.out.2.2.row c2 22 9 Try.underlying22 Try.underlying5 Try.underlying9
        simp only at cx cy
        generalize strOfNums o2 = sx at cx cy
        clear HP hy H2
        go_wp2_with (first | (go_at_call 11; with_reducible refine (num_any _ _).mono ?_; rintro e w' ⟨rfl, rfl⟩) | (go_at_call 9; refine (live_any _).mono ?_; rintro e w4 ⟨rfl, g3⟩; have H4 : Hid _ := grown_trans HG.out g3; clear g3 HG))
        go_ret
        exact ⟨rfl, grown_below H4.out⟩
      · have hlt' := hlt rfl
        clear HP hy H2 hlt
        simp only [List.length_nil]
        go_wp2_with (first | (go_at_call 11; with_reducible refine (num_any _ _).mono ?_; rintro e w' ⟨rfl, rfl⟩) | (go_at_call 9; refine (live_any _).mono ?_; rintro e w4 ⟨rfl, g3⟩; have H4 : Hid _ := grown_trans HG.out g3; clear g3 HG))
        go_ret
        exact ⟨rfl, grown_below H4.out⟩
    · obtain ⟨rfl, rfl⟩ := hy he
      have he' : (e1 == 0) = false := by simp [he]
      rcases hp with ⟨⟨rfl, rfl, rfl, rfl⟩, hle⟩ | ⟨q, hq, ⟨rfl, rfl, rfl, rfl⟩, hlt⟩
      · clear HP hy H2
        simp only [List.length_nil]
        go_wp2_with (first | (go_at_call 11; with_reducible refine (num_any _ _).mono ?_; rintro e w' ⟨rfl, rfl⟩) | (go_at_call 9; refine (live_any _).mono ?_; rintro e w4 ⟨rfl, g3⟩; have H4 : Hid _ := grown_trans HG.out g3; clear g3 HG))
        go_ret
        exact ⟨rfl, grown_below H4.out⟩
      · clear HP hy H2 hlt
        simp only [List.length_nil]
        go_wp2_with (first | (go_at_call 11; with_reducible refine (num_any _ _).mono ?_; rintro e w' ⟨rfl, rfl⟩) | (go_at_call 9; refine (live_any _).mono ?_; rintro e w4 ⟨rfl, g3⟩; have H4 : Hid _ := grown_trans HG.out g3; clear g3 HG))
        all_goals
          go_ret
          exact ⟨rfl, grown_below (Hid.out (by assumption))⟩
end Go.Proofs.Ytcffncmljfahoaa
