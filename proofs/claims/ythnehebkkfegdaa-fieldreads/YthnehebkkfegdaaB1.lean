/- Contracts of the document's writer. -/
import Derived.Test.YthnehebkkfegdaaA8
import Derived.WalkSpells
import Derived.Deep.RegionHeldLaw
namespace Go.Proofs.Ythnehebkkfegdaa
open Go.RowKit
attribute [local go_sem ↓] Go.wp_at_zero Go.wp_at_succ

/-- nil without room, or in memory that is new -/
def Fr (w : World) (a : Option Addr) (c : Nat) : Prop := (a = none → c = 0) ∧ ∀ b off, a = some ⟨b, off, none⟩ → w.heap.size ≤ b

theorem grown3 (w : World) (o1 o2 o3 : Obj) : w.grownBy (((w.alloc o1).alloc o2).alloc o3) none :=
  grown_trans (grown_trans (World.grownBy_alloc w o1 none) (World.grownBy_alloc _ o2 none)) (World.grownBy_alloc _ o3 none)

theorem refwrite_stop (ra : Option Addr) (rl rc : Nat) (most e d n v : Int) (a : Option Addr) (len cap : Nat) (w : World) (he : (e != 0) = true) :
    Calls Try.prog 29 #[.agg #[.slice ra rl rc, .int .i64 most, .int .i64 e], .agg #[.int .i64 d, .int .i64 n, .int .u64 v, .slice a len cap]] w fun r w' => r = .returned (.agg #[.slice ra rl rc, .int .i64 most, .int .i64 e]) ∧ w.grownBy w' none := by
  go_enter Try.func29, Try.ntmps29
  go_wp2
  exact bodyPost_ret (v := .agg #[.slice ra rl rc, .int .i64 most, .int .i64 e]) (by simp [results, Try.results29, go_sem]) rfl ⟨rfl, grown3 _ _ _ _⟩

theorem refwrite_width (ra : Option Addr) (rl rc : Nat) (most n v : Int) (a : Option Addr) (len cap : Nat) (w : World) (hW : isW n = false) :
    Calls Try.prog 29 #[.agg #[.slice ra rl rc, .int .i64 most, .int .i64 0], .agg #[.int .i64 0, .int .i64 n, .int .u64 v, .slice a len cap]] w fun r w' => r = .returned (.agg #[.slice ra rl rc, .int .i64 most, .int .i64 1]) ∧ w.grownBy w' none := by
  go_enter Try.func29, Try.ntmps29
  go_wp2_with (go_at_call 14; refine (width_any _ _).mono ?_; rintro e w' ⟨rfl, rfl⟩)
  exact bodyPost_ret (v := .agg #[.slice ra rl rc, .int .i64 most, .int .i64 1]) (by simp [results, Try.results29, go_sem]) rfl ⟨rfl, grown3 _ _ _ _⟩

theorem refwrite_wide (ra : Option Addr) (rl rc : Nat) (most v : Int) (m : Nat) (a : Option Addr) (len cap : Nat) (w : World) (hW : isW m = true) (hf : fits v m = false) (h0 : 0 ≤ v) (h1 : v < 18446744073709551616) :
    Calls Try.prog 29 #[.agg #[.slice ra rl rc, .int .i64 most, .int .i64 0], .agg #[.int .i64 0, .int .i64 m, .int .u64 v, .slice a len cap]] w fun r w' => r = .returned (.agg #[.slice ra rl rc, .int .i64 most, .int .i64 9]) ∧ w.grownBy w' none := by
  have hm := isW_pos hW
  go_enter Try.func29, Try.ntmps29
  go_wp2_with (first | (go_at_call 14; refine (width_any _ _).mono ?_; rintro e w' ⟨rfl, rfl⟩) | (go_at_call 15; refine (fits_any _ _ _ (by omega) h0 h1).mono ?_; rintro e w' ⟨rfl, rfl⟩))
  exact bodyPost_ret (v := .agg #[.slice ra rl rc, .int .i64 most, .int .i64 9]) (by simp [results, Try.results29, go_sem]) rfl ⟨rfl, grown3 _ _ _ _⟩

theorem refwrite_long (ra : Option Addr) (rl rc : Nat) (most d n v : Int) (a : Option Addr) (len cap : Nat) (w : World) (hd0 : (d == 0) = false) (hd1 : (d == 1) = false) (hl : (65535 : Int) < len) :
    Calls Try.prog 29 #[.agg #[.slice ra rl rc, .int .i64 most, .int .i64 0], .agg #[.int .i64 d, .int .i64 n, .int .u64 v, .slice a len cap]] w fun r w' => r = .returned (.agg #[.slice ra rl rc, .int .i64 most, .int .i64 9]) ∧ w.grownBy w' none := by
  go_enter Try.func29, Try.ntmps29
  go_wp2
  exact bodyPost_ret (v := .agg #[.slice ra rl rc, .int .i64 most, .int .i64 9]) (by simp [results, Try.results29, go_sem]) rfl ⟨rfl, grown3 _ _ _ _⟩

def cut0 (m : Int) : Int := if m < 0 then 0 else m

theorem refwrite_bfull (ra : Option Addr) (rl rc : Nat) (most n v : Int) (a : Option Addr) (len cap : Nat) (w : World) (hrl : rl ≤ 100000000) (hm : most ≤ 9223372036854775807) (hf : cut0 most - rl < len) :
    Calls Try.prog 29 #[.agg #[.slice ra rl rc, .int .i64 most, .int .i64 0], .agg #[.int .i64 1, .int .i64 n, .int .u64 v, .slice a len cap]] w fun r w' => r = .returned (.agg #[.slice ra rl rc, .int .i64 most, .int .i64 2]) ∧ w.grownBy w' none := by
  unfold cut0 at hf
  by_cases h0 : most < 0
  · rw [if_pos h0] at hf
    go_enter Try.func29, Try.ntmps29
    go_wp2
    exact bodyPost_ret (v := .agg #[.slice ra rl rc, .int .i64 most, .int .i64 2]) (by simp [results, Try.results29, go_sem]) rfl ⟨rfl, grown3 _ _ _ _⟩
  · rw [if_neg h0] at hf
    go_enter Try.func29, Try.ntmps29
    go_wp2
    exact bodyPost_ret (v := .agg #[.slice ra rl rc, .int .i64 most, .int .i64 2]) (by simp [results, Try.results29, go_sem]) rfl ⟨rfl, grown3 _ _ _ _⟩

theorem below_own {w w' : World} {base : Nat} {v : Value} {n : Nat} {xs : List Value} (hg : w.grownBy w' v.ownBlock) (ho : w.ownsRow base 5 1 v n xs) (hb : base ≤ w.heap.size) : Below base w w' :=
  ⟨hg.os, hg.tape, hg.output, hg.size, fun k hk => hg.block k (by omega) (fun e => by have := (ho.lt k e.symm).1; omega)⟩
theorem own_far {w : World} {base q : Nat} {v : Value} {n : Nat} {xs : List Value} (ho : w.ownsRow base 5 1 v n xs) (hq : q < base) (i : Nat) (u : Value) : (w.setCell ⟨q, i, none⟩ u).ownsRow base 5 1 v n xs :=
  ho.kept (grown_set w q i u) (Or.inr (fun e => by have := (ho.lt q e).1; omega))

/-- what the last statements leave: the struct with its new bytes, once in its box and once in the result's -/
theorem fin_own {w2 : World} {base q z : Nat} {v : Value} {n : Nat} {xs : List Value} (ho : w2.ownsRow base 5 1 v n xs) (hq : q < base) (hz : z < base) (x0 x1 x2 x3 : Value) :
    ((((w2.setCell ⟨q, 0, none⟩ x0).setCell ⟨z, 0, none⟩ x1).setCell ⟨z, 1, none⟩ x2).setCell ⟨z, 2, none⟩ x3).ownsRow base 5 1 v n xs :=
  own_far (own_far (own_far (own_far ho hq 0 x0) hz 0 x1) hz 1 x2) hz 2 x3
theorem fin_below {w w2 : World} {q z B : Nat} (h : Below B w w2) (hq : B ≤ q) (hz : B ≤ z) (x0 x1 x2 x3 : Value) :
    Below B w ((((w2.setCell ⟨q, 0, none⟩ x0).setCell ⟨z, 0, none⟩ x1).setCell ⟨z, 1, none⟩ x2).setCell ⟨z, 2, none⟩ x3) :=
  (((h.setCell (p := ⟨q, 0, none⟩) hq x0).setCell (p := ⟨z, 0, none⟩) hz x1).setCell (p := ⟨z, 1, none⟩) hz x2).setCell (p := ⟨z, 2, none⟩) hz x3

theorem fin_blk {w2 : World} {q z : Nat} {y0 y1 y2 : Value} (h : SBlk w2 z [y0, y1, y2] 63) (hne : z ≠ q) (x0 x1 x2 x3 : Value) :
    SBlk ((((w2.setCell ⟨q, 0, none⟩ x0).setCell ⟨z, 0, none⟩ x1).setCell ⟨z, 1, none⟩ x2).setCell ⟨z, 2, none⟩ x3) z [x1, x2, x3] 63 :=
  (((h.grown (grown_set w2 q 0 x0) (by simpa using hne)).set 0 x1).set 1 x2).set 2 x3

theorem fin_blk2 {w2 : World} {q z : Nat} {y0 y1 y2 : Value} (h : SBlk w2 z [y0, y1, y2] 63) (hne : z ≠ q) (x0 x1 x2 x3 : Value) :
    SBlk ((((w2.setCell ⟨q, 2, none⟩ x0).setCell ⟨z, 0, none⟩ x1).setCell ⟨z, 1, none⟩ x2).setCell ⟨z, 2, none⟩ x3) z [x1, x2, x3] 63 :=
  (((h.grown (grown_set w2 q 2 x0) (by simpa using hne)).set 0 x1).set 1 x2).set 2 x3
theorem fin_below2 {w w2 : World} {q z B : Nat} (h : Below B w w2) (hq : B ≤ q) (hz : B ≤ z) (x0 x1 x2 x3 : Value) :
    Below B w ((((w2.setCell ⟨q, 2, none⟩ x0).setCell ⟨z, 0, none⟩ x1).setCell ⟨z, 1, none⟩ x2).setCell ⟨z, 2, none⟩ x3) :=
  (((h.setCell (p := ⟨q, 2, none⟩) hq x0).setCell (p := ⟨z, 0, none⟩) hz x1).setCell (p := ⟨z, 1, none⟩) hz x2).setCell (p := ⟨z, 2, none⟩) hz x3

set_option maxHeartbeats 1600000 in
theorem refwrite_bok (ra : Option Addr) (rl rc : Nat) (bs : List Int) (most n v : Int) (a : Option Addr) (len cap : Nat) (xs : List Int) (w : World) (Rr : Row w ra rl bs) (hrn : ra = none → rc = 0) (R : Row w a len xs) (hn : a = none → cap = 0) (hrl : rl ≤ 100000000) (hll : len ≤ 100000000) (hm : most ≤ 9223372036854775807) (hf : (len : Int) ≤ cut0 most - rl) :
    Calls Try.prog 29 #[.agg #[.slice ra rl rc, .int .i64 most, .int .i64 0], .agg #[.int .i64 1, .int .i64 n, .int .u64 v, .slice a len cap]] w fun r w' => ∃ a' c', r = .returned (.agg #[.slice a' (rl + len) c', .int .i64 most, .int .i64 0]) ∧ Row w' a' (rl + len) (bs ++ xs) ∧ Fr w a' c' ∧ w.grownBy w' none := by
  obtain ⟨i5, hi, hz0, hz1, hz2⟩ := info_parts Try.info5
  unfold cut0 at hf
  have hmade : ((((w.alloc (.cells #[.slice ra rl rc, .int .i64 most, .int .i64 0] 63)).alloc (.cells #[.int .i64 1, .int .i64 n, .int .u64 v, .slice a len cap] 53)).alloc (.cells #[.slice none 0 0, .int .i64 0, .int .i64 0] 63)).alloc (.cells #[] 5)).ownsRow (w.heap.size + 1 + 1 + 1) 5 1 (.slice (some ⟨w.heap.size + 1 + 1 + 1, 0, none⟩) 0 0) 0 [] := by
    have := World.ownsRow_made (base := w.heap.size + 1 + 1 + 1) (e := 5) (size := 1) (((w.alloc (.cells #[.slice ra rl rc, .int .i64 most, .int .i64 0] 63)).alloc (.cells #[.int .i64 1, .int .i64 n, .int .u64 v, .slice a len cap] 53)).alloc (.cells #[.slice none 0 0, .int .i64 0, .int .i64 0] 63)) #[] 0 (by simp) (Nat.zero_le _) rfl
    simpa using this
  have bel4 : Below w.heap.size w ((((w.alloc (.cells #[.slice ra rl rc, .int .i64 most, .int .i64 0] 63)).alloc (.cells #[.int .i64 1, .int .i64 n, .int .u64 v, .slice a len cap] 53)).alloc (.cells #[.slice none 0 0, .int .i64 0, .int .i64 0] 63)).alloc (.cells #[] 5)) :=
    ((((Below.refl _ w).alloc (Nat.le_refl _) _).alloc (by simp) _).alloc (by simp; omega) _).alloc (by simp; omega) _
  have sb0 : SBlk ((((w.alloc (.cells #[.slice ra rl rc, .int .i64 most, .int .i64 0] 63)).alloc (.cells #[.int .i64 1, .int .i64 n, .int .u64 v, .slice a len cap] 53)).alloc (.cells #[.slice none 0 0, .int .i64 0, .int .i64 0] 63)).alloc (.cells #[] 5)) w.heap.size [.slice ra rl rc, .int .i64 most, .int .i64 0] 63 :=
    (alloc_sblk w [.slice ra rl rc, .int .i64 most, .int .i64 0] 63).below ((((Below.refl (w.heap.size + 1) _).alloc (by simp) _).alloc (by simp) _).alloc (by simp) _) (by omega)
  have sb2 : SBlk ((((w.alloc (.cells #[.slice ra rl rc, .int .i64 most, .int .i64 0] 63)).alloc (.cells #[.int .i64 1, .int .i64 n, .int .u64 v, .slice a len cap] 53)).alloc (.cells #[.slice none 0 0, .int .i64 0, .int .i64 0] 63)).alloc (.cells #[] 5)) (w.heap.size + 1 + 1) [.slice none 0 0, .int .i64 0, .int .i64 0] 63 := by
    have := alloc_sblk ((w.alloc (.cells #[.slice ra rl rc, .int .i64 most, .int .i64 0] 63)).alloc (.cells #[.int .i64 1, .int .i64 n, .int .u64 v, .slice a len cap] 53)) [.slice none 0 0, .int .i64 0, .int .i64 0] 63
    simp only [World.size_alloc] at this
    exact this.below ((Below.refl (w.heap.size + 1 + 1 + 1) _).alloc (by simp) _) (by omega)
  by_cases h : most < 0
  · rw [if_pos h] at hf
    go_enter Try.func29, Try.ntmps29
    go_wp2_with (first | (at_builtin; refine wpList_append8 rfl (.tmp 66) (.tmp 68) 22 rfl (w.heap.size + 1 + 1 + 1) i5 Try.underlying22 hi hz0 hz1 hz2 _ 0 [] rfl hmade _ rl _ bs rfl (Rr.below bel4) hrn (by omega) (by simp) ?_; intro v1 w1 ho1 hg1; have bel1 : Below (w.heap.size + 1 + 1 + 1) _ w1 := below_own hg1 hmade (by simp); have hs1 := bel1.size; simp only [World.size_alloc] at hs1) | (at_builtin; refine wpList_append8 rfl (.tmp 69) (.tmp 70) 22 rfl (w.heap.size + 1 + 1 + 1) i5 Try.underlying22 hi hz0 hz1 hz2 _ (0 + rl) _ rfl ho1 _ len _ xs rfl (R.below (bel4.trans (bel1.mono (by omega)))) hn (by omega) (by omega) ?_; intro v2 w2 ho2 hg2; have bel2 : Below (w.heap.size + 1 + 1 + 1) _ w2 := bel1.trans (below_own hg2 ho1 (by omega)); have t0 := sb0.below bel2 (by omega); have t2 := sb2.below bel2 (by omega); have q0 := t0.c0; have q1 := t0.c1; have q2 := t0.c2; have g0 := t0.frozen 0; have z0 := t2.c0; have z1 := t2.c1; have z2 := t2.c2; have y0 := t2.frozen 0; have y1 := t2.frozen 1; have y2 := t2.frozen 2; obtain ⟨a', c', hv2, _⟩ := owns_form ho2; rw [hv2]; clear t0 t2))
    have hF := fin_blk (sb2.below bel2 (by omega)) (q := w.heap.size) (by omega) (.slice a' (0 + rl + len) c') (.slice a' (0 + rl + len) c') (.int .i64 most) (.int .i64 0)
    have hO := fin_own (q := w.heap.size) (z := w.heap.size + 1 + 1) ho2 (by omega) (by omega) (.slice a' (0 + rl + len) c') (.slice a' (0 + rl + len) c') (.int .i64 most) (.int .i64 0)
    have hB := fin_below (q := w.heap.size) (z := w.heap.size + 1 + 1) (bel4.trans (bel2.mono (by omega))) (Nat.le_refl _) (by omega) (.slice a' (0 + rl + len) c') (.slice a' (0 + rl + len) c') (.int .i64 most) (.int .i64 0)
    simp only [Nat.zero_add, List.nil_append, ← bv_append] at hF hO hB hv2
    have f0 := hF.c0
    have f1 := hF.c1
    have f2 := hF.c2
    have hnil : Fr w a' c' := by
      rename_i hform
      rcases hform.2.2 with ⟨e, _, h⟩ | ⟨g, e, hg⟩
      · exact ⟨fun _ => h, fun b off e2 => (by rw [e] at e2; cases e2)⟩
      · refine ⟨fun e2 => (by rw [e2] at e; cases e), fun b off e2 => ?_⟩
        rw [e] at e2
        injection e2 with e2
        injection e2 with e3 e4
        omega
    obtain ⟨a2, c2, e2, R2⟩ := owns_row hO (Rr.byt.append R.byt) (by unfold maxLen; omega)
    rw [hv2] at e2
    injection e2 with e3 e4 e5
    subst e3
    exact bodyPost_ret (v := .agg #[.slice a' (rl + len) c', .int .i64 most, .int .i64 0]) (by simp [results, Try.results29, go_sem, f0, f1, f2]) rfl ⟨a', c', rfl, R2, hnil, below_grown hB⟩
  · rw [if_neg h] at hf
    go_enter Try.func29, Try.ntmps29
    go_wp2_with (first | (at_builtin; refine wpList_append8 rfl (.tmp 66) (.tmp 68) 22 rfl (w.heap.size + 1 + 1 + 1) i5 Try.underlying22 hi hz0 hz1 hz2 _ 0 [] rfl hmade _ rl _ bs rfl (Rr.below bel4) hrn (by omega) (by simp) ?_; intro v1 w1 ho1 hg1; have bel1 : Below (w.heap.size + 1 + 1 + 1) _ w1 := below_own hg1 hmade (by simp); have hs1 := bel1.size; simp only [World.size_alloc] at hs1) | (at_builtin; refine wpList_append8 rfl (.tmp 69) (.tmp 70) 22 rfl (w.heap.size + 1 + 1 + 1) i5 Try.underlying22 hi hz0 hz1 hz2 _ (0 + rl) _ rfl ho1 _ len _ xs rfl (R.below (bel4.trans (bel1.mono (by omega)))) hn (by omega) (by omega) ?_; intro v2 w2 ho2 hg2; have bel2 : Below (w.heap.size + 1 + 1 + 1) _ w2 := bel1.trans (below_own hg2 ho1 (by omega)); have t0 := sb0.below bel2 (by omega); have t2 := sb2.below bel2 (by omega); have q0 := t0.c0; have q1 := t0.c1; have q2 := t0.c2; have g0 := t0.frozen 0; have z0 := t2.c0; have z1 := t2.c1; have z2 := t2.c2; have y0 := t2.frozen 0; have y1 := t2.frozen 1; have y2 := t2.frozen 2; obtain ⟨a', c', hv2, _⟩ := owns_form ho2; rw [hv2]; clear t0 t2))
    have hF := fin_blk (sb2.below bel2 (by omega)) (q := w.heap.size) (by omega) (.slice a' (0 + rl + len) c') (.slice a' (0 + rl + len) c') (.int .i64 most) (.int .i64 0)
    have hO := fin_own (q := w.heap.size) (z := w.heap.size + 1 + 1) ho2 (by omega) (by omega) (.slice a' (0 + rl + len) c') (.slice a' (0 + rl + len) c') (.int .i64 most) (.int .i64 0)
    have hB := fin_below (q := w.heap.size) (z := w.heap.size + 1 + 1) (bel4.trans (bel2.mono (by omega))) (Nat.le_refl _) (by omega) (.slice a' (0 + rl + len) c') (.slice a' (0 + rl + len) c') (.int .i64 most) (.int .i64 0)
    simp only [Nat.zero_add, List.nil_append, ← bv_append] at hF hO hB hv2
    have f0 := hF.c0
    have f1 := hF.c1
    have f2 := hF.c2
    have hnil : Fr w a' c' := by
      rename_i hform
      rcases hform.2.2 with ⟨e, _, h⟩ | ⟨g, e, hg⟩
      · exact ⟨fun _ => h, fun b off e2 => (by rw [e] at e2; cases e2)⟩
      · refine ⟨fun e2 => (by rw [e2] at e; cases e), fun b off e2 => ?_⟩
        rw [e] at e2
        injection e2 with e2
        injection e2 with e3 e4
        omega
    obtain ⟨a2, c2, e2, R2⟩ := owns_row hO (Rr.byt.append R.byt) (by unfold maxLen; omega)
    rw [hv2] at e2
    injection e2 with e3 e4 e5
    subst e3
    exact bodyPost_ret (v := .agg #[.slice a' (rl + len) c', .int .i64 most, .int .i64 0]) (by simp [results, Try.results29, go_sem, f0, f1, f2]) rfl ⟨a', c', rfl, R2, hnil, below_grown hB⟩

set_option maxHeartbeats 1600000 in
theorem refwrite_nfull (ra : Option Addr) (rl rc : Nat) (most v : Int) (m : Nat) (a : Option Addr) (len cap : Nat) (w : World) (hW : isW m = true) (hft : fits v m = true) (h0 : 0 ≤ v) (h1 : v < 18446744073709551616) (hrl : rl ≤ 100000000) (hm : most ≤ 9223372036854775807) (hf : cut0 most - rl < m) :
    Calls Try.prog 29 #[.agg #[.slice ra rl rc, .int .i64 most, .int .i64 0], .agg #[.int .i64 0, .int .i64 m, .int .u64 v, .slice a len cap]] w fun r w' => r = .returned (.agg #[.slice ra rl rc, .int .i64 most, .int .i64 2]) ∧ w.grownBy w' none := by
  have hm8 := isW_pos hW
  unfold cut0 at hf
  have bel3 : Below w.heap.size w (((w.alloc (.cells #[.slice ra rl rc, .int .i64 most, .int .i64 0] 63)).alloc (.cells #[.int .i64 0, .int .i64 m, .int .u64 v, .slice a len cap] 53)).alloc (.cells #[.slice none 0 0, .int .i64 0, .int .i64 0] 63)) :=
    (((Below.refl _ w).alloc (Nat.le_refl _) _).alloc (by simp) _).alloc (by simp; omega) _
  have sb0 : SBlk (((w.alloc (.cells #[.slice ra rl rc, .int .i64 most, .int .i64 0] 63)).alloc (.cells #[.int .i64 0, .int .i64 m, .int .u64 v, .slice a len cap] 53)).alloc (.cells #[.slice none 0 0, .int .i64 0, .int .i64 0] 63)) w.heap.size [.slice ra rl rc, .int .i64 most, .int .i64 0] 63 :=
    (alloc_sblk w [.slice ra rl rc, .int .i64 most, .int .i64 0] 63).below (((Below.refl (w.heap.size + 1) _).alloc (by simp) _).alloc (by simp) _) (by omega)
  have sb2 : SBlk (((w.alloc (.cells #[.slice ra rl rc, .int .i64 most, .int .i64 0] 63)).alloc (.cells #[.int .i64 0, .int .i64 m, .int .u64 v, .slice a len cap] 53)).alloc (.cells #[.slice none 0 0, .int .i64 0, .int .i64 0] 63)) (w.heap.size + 1 + 1) [.slice none 0 0, .int .i64 0, .int .i64 0] 63 := by
    have := alloc_sblk ((w.alloc (.cells #[.slice ra rl rc, .int .i64 most, .int .i64 0] 63)).alloc (.cells #[.int .i64 0, .int .i64 m, .int .u64 v, .slice a len cap] 53)) [.slice none 0 0, .int .i64 0, .int .i64 0] 63
    simp only [World.size_alloc] at this
    exact this
  by_cases h : most < 0
  · rw [if_pos h] at hf
    go_enter Try.func29, Try.ntmps29
    go_wp2_with (first | (go_at_call 14; refine (width_any _ _).mono ?_; rintro e w' ⟨rfl, rfl⟩) | (go_at_call 15; refine (fits_any _ _ _ (by omega) h0 h1).mono ?_; rintro e w' ⟨rfl, rfl⟩))
    refine (store_any v m _ (by omega) h0 h1).mono ?_
    rintro e ws ⟨sa, sc, rfl, Rs, hgs⟩
    obtain ⟨sb, so, rfl, _⟩ := Rs.cells (by omega)
    have bels : Below (w.heap.size + 1 + 1 + 1) _ ws := (grown_below hgs).mono (by simp)
    have hss := bels.size
    simp only [World.size_alloc] at hss
    have t0 := sb0.below bels (by omega)
    have t2 := sb2.below bels (by omega)
    have q0 := t0.c0
    have q1 := t0.c1
    have q2 := t0.c2
    have g2 := t0.frozen 2
    have z0 := t2.c0
    have z1 := t2.c1
    have z2 := t2.c2
    have y0 := t2.frozen 0
    have y1 := t2.frozen 1
    have y2 := t2.frozen 2
    have hF := fin_blk2 t2 (q := w.heap.size) (by omega) (.int .i64 2) (.slice ra rl rc) (.int .i64 most) (.int .i64 2)
    have hB := fin_below2 (q := w.heap.size) (z := w.heap.size + 1 + 1) (bel3.trans (bels.mono (by omega))) (Nat.le_refl _) (by omega) (.int .i64 2) (.slice ra rl rc) (.int .i64 most) (.int .i64 2)
    have f0 := hF.c0
    have f1 := hF.c1
    have f2 := hF.c2
    clear t0 t2 bels sb0 sb2 hgs
    go_wp2
    exact bodyPost_ret (v := .agg #[.slice ra rl rc, .int .i64 most, .int .i64 2]) (by simp [results, Try.results29, go_sem, f0, f1, f2]) rfl ⟨rfl, below_grown hB⟩
  · rw [if_neg h] at hf
    go_enter Try.func29, Try.ntmps29
    go_wp2_with (first | (go_at_call 14; refine (width_any _ _).mono ?_; rintro e w' ⟨rfl, rfl⟩) | (go_at_call 15; refine (fits_any _ _ _ (by omega) h0 h1).mono ?_; rintro e w' ⟨rfl, rfl⟩))
    refine (store_any v m _ (by omega) h0 h1).mono ?_
    rintro e ws ⟨sa, sc, rfl, Rs, hgs⟩
    obtain ⟨sb, so, rfl, _⟩ := Rs.cells (by omega)
    have bels : Below (w.heap.size + 1 + 1 + 1) _ ws := (grown_below hgs).mono (by simp)
    have hss := bels.size
    simp only [World.size_alloc] at hss
    have t0 := sb0.below bels (by omega)
    have t2 := sb2.below bels (by omega)
    have q0 := t0.c0
    have q1 := t0.c1
    have q2 := t0.c2
    have g2 := t0.frozen 2
    have z0 := t2.c0
    have z1 := t2.c1
    have z2 := t2.c2
    have y0 := t2.frozen 0
    have y1 := t2.frozen 1
    have y2 := t2.frozen 2
    have hF := fin_blk2 t2 (q := w.heap.size) (by omega) (.int .i64 2) (.slice ra rl rc) (.int .i64 most) (.int .i64 2)
    have hB := fin_below2 (q := w.heap.size) (z := w.heap.size + 1 + 1) (bel3.trans (bels.mono (by omega))) (Nat.le_refl _) (by omega) (.int .i64 2) (.slice ra rl rc) (.int .i64 most) (.int .i64 2)
    have f0 := hF.c0
    have f1 := hF.c1
    have f2 := hF.c2
    clear t0 t2 bels sb0 sb2 hgs
    go_wp2
    exact bodyPost_ret (v := .agg #[.slice ra rl rc, .int .i64 most, .int .i64 2]) (by simp [results, Try.results29, go_sem, f0, f1, f2]) rfl ⟨rfl, below_grown hB⟩
end Go.Proofs.Ythnehebkkfegdaa
