/- The document's writer: a number that is taken; a text. -/
import Derived.Test.YthnehebkkfegdaaB1
namespace Go.Proofs.Ythnehebkkfegdaa
open Go.RowKit
attribute [local go_sem ↓] Go.wp_at_zero Go.wp_at_succ

set_option maxHeartbeats 1600000 in
theorem refwrite_nok (ra : Option Addr) (rl rc : Nat) (bs : List Int) (most v : Int) (m : Nat) (a : Option Addr) (len cap : Nat) (w : World) (Rr : Row w ra rl bs) (hrn : ra = none → rc = 0) (hW : isW m = true) (hft : fits v m = true) (h0 : 0 ≤ v) (h1 : v < 18446744073709551616) (hrl : rl ≤ 100000000) (hm : most ≤ 9223372036854775807) (hf : (m : Int) ≤ cut0 most - rl) :
    Calls Try.prog 29 #[.agg #[.slice ra rl rc, .int .i64 most, .int .i64 0], .agg #[.int .i64 0, .int .i64 m, .int .u64 v, .slice a len cap]] w fun r w' => ∃ a' c', r = .returned (.agg #[.slice a' (rl + m) c', .int .i64 most, .int .i64 0]) ∧ Row w' a' (rl + m) (bs ++ sto v m) ∧ Fr w a' c' ∧ w.grownBy w' none := by
  obtain ⟨i5, hi, hz0, hz1, hz2⟩ := info_parts Try.info5
  have hm8 := isW_pos hW
  unfold cut0 at hf
  have bel3 : Below w.heap.size w (((w.alloc (.cells #[.slice ra rl rc, .int .i64 most, .int .i64 0] 63)).alloc (.cells #[.int .i64 0, .int .i64 m, .int .u64 v, .slice a len cap] 53)).alloc (.cells #[.slice none 0 0, .int .i64 0, .int .i64 0] 63)) :=
    (((Below.refl _ w).alloc (Nat.le_refl _) _).alloc (by simp) _).alloc (by simp; omega) _
  have sb0 : SBlk (((w.alloc (.cells #[.slice ra rl rc, .int .i64 most, .int .i64 0] 63)).alloc (.cells #[.int .i64 0, .int .i64 m, .int .u64 v, .slice a len cap] 53)).alloc (.cells #[.slice none 0 0, .int .i64 0, .int .i64 0] 63)) w.heap.size [.slice ra rl rc, .int .i64 most, .int .i64 0] 63 :=
    (alloc_sblk w [.slice ra rl rc, .int .i64 most, .int .i64 0] 63).below (((Below.refl (w.heap.size + 1) _).alloc (by simp) _).alloc (by simp) _) (by omega)
  have sb2 : SBlk (((w.alloc (.cells #[.slice ra rl rc, .int .i64 most, .int .i64 0] 63)).alloc (.cells #[.int .i64 0, .int .i64 m, .int .u64 v, .slice a len cap] 53)).alloc (.cells #[.slice none 0 0, .int .i64 0, .int .i64 0] 63)) (w.heap.size + 1 + 1) [.slice none 0 0, .int .i64 0, .int .i64 0] 63 := by
    have := alloc_sblk ((w.alloc (.cells #[.slice ra rl rc, .int .i64 most, .int .i64 0] 63)).alloc (.cells #[.int .i64 0, .int .i64 m, .int .u64 v, .slice a len cap] 53)) [.slice none 0 0, .int .i64 0, .int .i64 0] 63
    simp only [World.size_alloc] at this
    exact this
  by_cases h : most < 0
  · rw [if_pos h] at hf
    omega
  · rw [if_neg h] at hf
    go_enter Try.func29, Try.ntmps29
    go_wp2_with (first | (go_at_call 14; refine (width_any _ _).mono ?_; rintro e w' ⟨rfl, rfl⟩) | (go_at_call 15; refine (fits_any _ _ _ (by omega) h0 h1).mono ?_; rintro e w' ⟨rfl, rfl⟩))
    refine (store_any v m _ (by omega) h0 h1).mono ?_
    rintro e ws ⟨sa, sc, rfl, Rs, hgs⟩
    obtain ⟨sb, so, rfl, _⟩ := Rs.cells (by omega)
    have bels : Below (w.heap.size + 1 + 1 + 1) _ ws := (grown_below hgs).mono (by simp)
    have hss := bels.size
    simp only [World.size_alloc] at hss
    have t0 := sb0.below bels (by omega)
    have t2 := sb2.below bels (by omega)
    have hmade : (ws.alloc (.cells #[] 5)).ownsRow ws.heap.size 5 1 (.slice (some ⟨ws.heap.size, 0, none⟩) 0 0) 0 [] := World.ownsRow_made ws #[] 0 (Nat.le_refl _) (Nat.zero_le _) rfl
    have belw : Below w.heap.size w ws := bel3.trans (bels.mono (by omega))
    have c00 := t0.c0
    have c01 := t0.c1
    have cfz := t0.frozen 0
    have bel4 : Below ws.heap.size ws (ws.alloc (.cells #[] 5)) := (Below.refl _ _).alloc (Nat.le_refl _) _
    have b0 : Row (ws.alloc (.cells #[] 5)) ra rl bs := (Rr.below belw).below bel4
    have Rs4 : Row (ws.alloc (.cells #[] 5)) (some ⟨sb, so, none⟩) m (sto v m) := Rs.below bel4
    have d00 := (t0.below bel4 (by omega)).c0
    clear bels hgs
    go_wp2_with (first | (at_builtin; (refine wpList_append8 rfl (.tmp 66) (.tmp 68) 22 rfl ws.heap.size i5 Try.underlying22 hi hz0 hz1 hz2 _ 0 [] rfl hmade _ rl _ bs rfl b0 hrn (by omega) (by simp) ?_); intro v1 w1 ho1 hg1; have bel1 : Below ws.heap.size ws w1 := bel4.trans (below_own hg1 hmade (by simp)); have hs1 := bel1.size) | (at_builtin; (refine wpList_append8 rfl (.tmp 69) (.tmp 70) 22 rfl ws.heap.size i5 Try.underlying22 hi hz0 hz1 hz2 _ (0 + rl) _ rfl ho1 _ m _ (sto v m) rfl (Rs.below bel1) (by intro h; cases h) (by omega) (by omega) ?_); intro v2 w2 ho2 hg2; have bel2 : Below ws.heap.size ws w2 := bel1.trans (below_own hg2 ho1 (by omega)); have s0 := t0.below bel2 (by omega); have s2 := t2.below bel2 (by omega); have q0 := s0.c0; have q1 := s0.c1; have q2 := s0.c2; have g0 := s0.frozen 0; have z0 := s2.c0; have z1 := s2.c1; have z2 := s2.c2; have y0 := s2.frozen 0; have y1 := s2.frozen 1; have y2 := s2.frozen 2; obtain ⟨a', c', hv2, hform⟩ := owns_form ho2; rw [hv2]; clear s0 s2))
    have hF := fin_blk (t2.below bel2 (by omega)) (q := w.heap.size) (by omega) (.slice a' (0 + rl + m) c') (.slice a' (0 + rl + m) c') (.int .i64 most) (.int .i64 0)
    have hO := fin_own (q := w.heap.size) (z := w.heap.size + 1 + 1) ho2 (by omega) (by omega) (.slice a' (0 + rl + m) c') (.slice a' (0 + rl + m) c') (.int .i64 most) (.int .i64 0)
    have hB := fin_below (q := w.heap.size) (z := w.heap.size + 1 + 1) (belw.trans (bel2.mono (by omega))) (Nat.le_refl _) (by omega) (.slice a' (0 + rl + m) c') (.slice a' (0 + rl + m) c') (.int .i64 most) (.int .i64 0)
    simp only [Nat.zero_add, List.nil_append, ← bv_append] at hF hO hB hv2
    have f0 := hF.c0
    have f1 := hF.c1
    have f2 := hF.c2
    have hnil : Fr w a' c' := by
      rcases hform.2.2 with ⟨e, _, h⟩ | ⟨g, e, hg⟩
      · exact ⟨fun _ => h, fun b off e2 => (by rw [e] at e2; cases e2)⟩
      · refine ⟨fun e2 => (by rw [e2] at e; cases e), fun b off e2 => ?_⟩
        rw [e] at e2
        injection e2 with e2
        injection e2 with e3 e4
        omega
    obtain ⟨a2, c2, e2, R2⟩ := owns_row hO (Rr.byt.append (sto_byt _ _)) (by unfold maxLen; omega)
    rw [hv2] at e2
    injection e2 with e3 e4 e5
    subst e3
    exact bodyPost_ret (v := .agg #[.slice a' (rl + m) c', .int .i64 most, .int .i64 0]) (by simp [results, Try.results29, go_sem, f0, f1, f2]) rfl ⟨a', c', rfl, R2, hnil, below_grown hB⟩
end Go.Proofs.Ythnehebkkfegdaa
