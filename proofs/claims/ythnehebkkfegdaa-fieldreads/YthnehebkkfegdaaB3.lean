/- The document's writer: a text. -/
import Derived.Test.YthnehebkkfegdaaB2
namespace Go.Proofs.Ythnehebkkfegdaa
open Go.RowKit
attribute [local go_sem ↓] Go.wp_at_zero Go.wp_at_succ

theorem SBlk.c3 {w : World} {p : Nat} {a b c d : Value} {l : List Value} {t : TypeId} (h : SBlk w p (a :: b :: c :: d :: l) t) : w.cell? ⟨p, 3, none⟩ = some d := h.cell 3

/-- 'append' of bytes to a row of the call's own, as one step of a region that draws its order -/
theorem step_append8 {P : Program} {ops : Array Oper} {o : Oper} {a : Act} {w : World} {K : Act → World → Prop} {Q : Exit → Act → World → Prop} {E : Prop} (hgd : o.guard = none) (s x : Operand) (t : TypeId)
    (ho : o.op = .call { callee := .builtin .append, args := #[s, x], argTypes := #[t, t] })
    (base : Nat) (i : TypeInfo) (ht : P.underlying t = some (.slice 5)) (hi : P.info? 5 = some i) (hz : i.zero = some (.int .u8 0)) (hsize : i.size = 1) (hby : i.bytes = 1)
    (v : Value) (n : Nat) (xs : List Value) (hs : a.eval s = v) (hown : w.ownsRow base 5 1 v n xs)
    (sa : Option Addr) (m c : Nat) (bs : List Int) (hx : a.eval x = .slice sa m c) (R : Row w sa m bs) (hnil : sa = none → c = 0)
    (hb : n + m ≤ 140737488355328) (hbase : base ≤ w.heap.size)
    (h : ∀ v' w', w'.ownsRow base 5 1 v' (n + m) (xs ++ bv bs) → w.grownBy w' v.ownBlock → K (a.put o.dst v') w') :
    if Region.wanted o (yielded ops a.tmps) = true then Oper.wp P o a w K Q else E := by
  have hw : Region.wanted o (yielded ops a.tmps) = true := by simp [Region.wanted, hgd]
  rw [if_pos hw]
  cases sa with
  | none =>
    have hm : m = 0 := by
      rcases Nat.eq_zero_or_pos m with h0 | h0
      · exact h0
      · obtain ⟨_, _, e, _⟩ := R.cells h0; cases e
    subst hm
    obtain rfl : bs = [] := List.eq_nil_of_length_eq_zero R.len_eq
    obtain rfl := hnil rfl
    have hrun := run_append_owned_none (P := P) (w := w) base t o.type 5 i 1 ht hi v n xs hown
    unfold Oper.wp
    simp [execOp, ho, resolve, invoke, builtin, hs, hx, hrun, Result.andThen]
    exact h v w (by simpa [bv] using hown) (World.grownBy.refl _ _)
  | some ad =>
    refine wp_append_own w s x t ho base 5 i (.int .u8 0) 1 1 ht hi hz hsize hby rfl (by decide) v n xs hs hown ad m c (bv bs) hx (by rw [bv_length, R.len_eq]; omega) ?_ (bv_one _) (by unfold maxLen; omega) (by omega) hbase (fun v' w' h1 h2 _ => h v' w' h1 h2)
    intro j u hj
    have h0 : 0 < (bv bs).length := by
      rcases Nat.eq_zero_or_pos (bv bs).length with h0 | h0
      · rw [List.eq_nil_of_length_eq_zero h0] at hj; simp at hj
      · exact h0
    obtain ⟨ad', e, hc⟩ := R.src h0
    injection e with e
    subst e
    exact hc j u hj

set_option maxHeartbeats 400000 in
theorem store_own (n : Int) (m : Nat) (w : World) (hm : m ≤ 8) (h0 : 0 ≤ n) (h1 : n < 18446744073709551616) :
    Calls Try.prog 16 #[.int .u64 n, .int .i64 m] w fun e w' => ∃ v, e = .returned v ∧ w'.ownsRow w.heap.size 5 1 v m (bv (sto n m)) ∧ w.grownBy w' none := by
  obtain ⟨i5, hi, hz0, hz1, hz2⟩ := info_parts Try.info5
  go_enter Try.func16, Try.ntmps16
  go_wp2
  go_loopw [0, 5, 6] (fun x v i wr => ∃ j : Nat, j ≤ m ∧ i = .int .i64 j ∧ x = .int .u64 (n / 256 ^ j) ∧ wr.ownsRow w.heap.size 5 1 v j (bv (sto n j)) ∧ w.grownBy wr none) (fun _ _ i _ => m - (intOf i).toNat)
  case atStart => exact ⟨0, Nat.zero_le _, rfl, by simp, World.ownsRow_nil _ _ _ _, World.grownBy.refl _ _⟩
  case round =>
    obtain ⟨j, hj, rfl, rfl, hown, hgr⟩ := hrel
    have hd := div_bd n j h0 h1
    by_cases hlt : j < m
    · go_wp2_with (at_builtin; (refine wpList_append_own _ rfl _ _ 22 rfl w.heap.size 5 i5 (.int .u8 0) 1 1 Try.underlying22 hi hz0 hz1 hz2 rfl (by decide) _ _ _ rfl (hown.alloc _) ⟨wr.heap.size, 0, none⟩ 1 1 (bv [n / 256 ^ j % 256]) rfl rfl ?c1 (bv_one _) ?c3 ?c4 ?c5 ?_))
      case c1 => exact cell_one_new _ _ _
      case c3 => unfold maxLen; omega
      case c4 => omega
      case c5 => have := hgr.size; simp; omega
      · intro v' w1 hown' hgrow _
        have R : w1.ownsRow w.heap.size 5 1 v' (j + 1) (bv (sto n (j + 1))) := by rw [sto_snoc, bv_append]; exact hown'
        have hg' : w.grownBy w1 none := grown_own (grown_trans hgr (World.grownBy_alloc wr _ none)) (hown.alloc _) hgrow (Nat.le_refl _)
        clear hown' hgrow hown hgr
        go_wp2
        go_roundw
        case rel => exact ⟨j + 1, by omega, by go_num, by rw [← div_step], R, hg'⟩
        case measure => simp [intOf]; omega
    · obtain rfl : j = m := by omega
      go_wp2
      go_ret
      exact ⟨_, rfl, hown, hgr⟩

set_option maxHeartbeats 1600000 in
theorem refwrite_tok (ra : Option Addr) (rl rc : Nat) (bs : List Int) (most d n v : Int) (a : Option Addr) (len cap : Nat) (xs : List Int) (w : World) (Rr : Row w ra rl bs) (hrn : ra = none → rc = 0) (R : Row w a len xs) (hn : a = none → cap = 0) (hd0 : (d == 0) = false) (hd1 : (d == 1) = false) (hrl : rl ≤ 100000000) (hll : ¬ (65535 : Int) < len) (hm : most ≤ 9223372036854775807) (hf : (2 : Int) + len ≤ cut0 most - rl) :
    Calls Try.prog 29 #[.agg #[.slice ra rl rc, .int .i64 most, .int .i64 0], .agg #[.int .i64 d, .int .i64 n, .int .u64 v, .slice a len cap]] w fun r w' => ∃ a' c', r = .returned (.agg #[.slice a' (rl + (2 + len)) c', .int .i64 most, .int .i64 0]) ∧ Row w' a' (rl + (2 + len)) (bs ++ (sto len 2 ++ xs)) ∧ Fr w a' c' ∧ w.grownBy w' none := by
  obtain ⟨i5, hi, hz0, hz1, hz2⟩ := info_parts Try.info5
  unfold cut0 at hf
  have h : ¬ most < 0 := by
    intro h; rw [if_pos h] at hf; omega
  rw [if_neg h] at hf
  have hwr : IntKind.u64.wrap (len : Int) = len := u64_wrap_in _ (by omega) (by omega)
  have bel3 : Below w.heap.size w (((w.alloc (.cells #[.slice ra rl rc, .int .i64 most, .int .i64 0] 63)).alloc (.cells #[.int .i64 d, .int .i64 n, .int .u64 v, .slice a len cap] 53)).alloc (.cells #[.slice none 0 0, .int .i64 0, .int .i64 0] 63)) :=
    (((Below.refl _ w).alloc (Nat.le_refl _) _).alloc (by simp) _).alloc (by simp; omega) _
  have sb0 : SBlk (((w.alloc (.cells #[.slice ra rl rc, .int .i64 most, .int .i64 0] 63)).alloc (.cells #[.int .i64 d, .int .i64 n, .int .u64 v, .slice a len cap] 53)).alloc (.cells #[.slice none 0 0, .int .i64 0, .int .i64 0] 63)) w.heap.size [.slice ra rl rc, .int .i64 most, .int .i64 0] 63 :=
    (alloc_sblk w [.slice ra rl rc, .int .i64 most, .int .i64 0] 63).below (((Below.refl (w.heap.size + 1) _).alloc (by simp) _).alloc (by simp) _) (by omega)
  have sb1 : SBlk (((w.alloc (.cells #[.slice ra rl rc, .int .i64 most, .int .i64 0] 63)).alloc (.cells #[.int .i64 d, .int .i64 n, .int .u64 v, .slice a len cap] 53)).alloc (.cells #[.slice none 0 0, .int .i64 0, .int .i64 0] 63)) (w.heap.size + 1) [.int .i64 d, .int .i64 n, .int .u64 v, .slice a len cap] 53 := by
    have := alloc_sblk (w.alloc (.cells #[.slice ra rl rc, .int .i64 most, .int .i64 0] 63)) [.int .i64 d, .int .i64 n, .int .u64 v, .slice a len cap] 53
    simp only [World.size_alloc] at this
    exact this.below ((Below.refl (w.heap.size + 1 + 1) _).alloc (by simp) _) (by omega)
  have sb2 : SBlk (((w.alloc (.cells #[.slice ra rl rc, .int .i64 most, .int .i64 0] 63)).alloc (.cells #[.int .i64 d, .int .i64 n, .int .u64 v, .slice a len cap] 53)).alloc (.cells #[.slice none 0 0, .int .i64 0, .int .i64 0] 63)) (w.heap.size + 1 + 1) [.slice none 0 0, .int .i64 0, .int .i64 0] 63 := by
    have := alloc_sblk ((w.alloc (.cells #[.slice ra rl rc, .int .i64 most, .int .i64 0] 63)).alloc (.cells #[.int .i64 d, .int .i64 n, .int .u64 v, .slice a len cap] 53)) [.slice none 0 0, .int .i64 0, .int .i64 0] 63
    simp only [World.size_alloc] at this
    exact this
  have hsz : w.heap.size + 1 + 1 + 1 ≤ (((w.alloc (.cells #[.slice ra rl rc, .int .i64 most, .int .i64 0] 63)).alloc (.cells #[.int .i64 d, .int .i64 n, .int .u64 v, .slice a len cap] 53)).alloc (.cells #[.slice none 0 0, .int .i64 0, .int .i64 0] 63)).heap.size := by simp
  go_enter Try.func29, Try.ntmps29
  go_wp2
  obtain ⟨wz, hwz⟩ : ∃ wz, wz = (((w.alloc (.cells #[.slice ra rl rc, .int .i64 most, .int .i64 0] 63)).alloc (.cells #[.int .i64 d, .int .i64 n, .int .u64 v, .slice a len cap] 53)).alloc (.cells #[.slice none 0 0, .int .i64 0, .int .i64 0] 63)) := ⟨_, rfl⟩
  rw [← hwz] at bel3 sb0 sb1 sb2 hsz ⊢
  clear hwz
  have cB := sb1.c3
  have hSt := store_own len 2 wz.drew (by omega) (by omega) (by omega)
  have Rz := (R.below bel3).drew'
  go_region_held_law (fun w' => w'.cell? ⟨w.heap.size + 1, 3, none⟩ = some (.slice a len cap)) (first | go_keep | assumption) ((first | (go_at_call 16; refine hSt.mono ?_; rintro e ws ⟨v1, rfl, ho1, hg1⟩; have ho1' : ws.ownsRow wz.heap.size 5 1 v1 2 (bv (sto len 2)) := ho1; have bel1 : Below wz.heap.size wz ws := (Below.refl _ wz).drew.trans (grown_below hg1); have hs1 := bel1.size; have cB1 := (sb1.below bel1 (by omega)).c3; have Rx := (R.below bel3).below bel1; clear hg1 ho1) | (refine step_append8 (by rfl) (.tmp 23) (.tmp 25) 22 (by rfl) wz.heap.size i5 Try.underlying22 hi hz0 hz1 hz2 _ 2 _ (by rfl) ho1' _ len _ xs (by rfl) Rx hn (by omega) hs1 ?_; intro v2 w2 ho2 hg2; have bel2 : Below wz.heap.size wz w2 := bel1.trans (below_own hg2 ho1' hs1); have cB2 := (sb1.below bel2 (by omega)).c3; obtain ⟨a2, c2, hv2, hform2⟩ := owns_form ho2; rw [hv2])))
  have hb2 : Below w.heap.size w w2 := bel3.trans (bel2.mono (by omega))
  have hs2 := bel2.size
  have t0 := sb0.below bel2 (by omega)
  have t2 := sb2.below bel2 (by omega)
  have RX : Row w2 a2 (2 + len) (sto len 2 ++ xs) := by
    rw [← bv_append] at ho2
    obtain ⟨a3, c3, e3, R3⟩ := owns_row ho2 ((sto_byt _ _).append R.byt) (by unfold maxLen; omega)
    rw [hv2] at e3
    injection e3 with e4 e5 e6
    rw [e4]; exact R3
  have hnX : a2 = none → c2 = 0 := by
    rcases hform2.2.2 with ⟨_, _, h⟩ | ⟨g, e, _⟩
    · exact fun _ => h
    · intro e2; rw [e2] at e; cases e
  clear ho2 hg2 hv2 hform2 hSt Rz ho1' Rx hs1 bel1 cB cB1 cB2 sb0 sb1 sb2 bel2
  have hmade : (w2.alloc (.cells #[] 5)).ownsRow w2.heap.size 5 1 (.slice (some ⟨w2.heap.size, 0, none⟩) 0 0) 0 [] := World.ownsRow_made w2 #[] 0 (Nat.le_refl _) (Nat.zero_le _) rfl
  have c00 := t0.c0
  have c01 := t0.c1
  have bel4 : Below w2.heap.size w2 (w2.alloc (.cells #[] 5)) := (Below.refl _ _).alloc (Nat.le_refl _) _
  have b0 : Row (w2.alloc (.cells #[] 5)) ra rl bs := (Rr.below hb2).below bel4
  have d00 := (t0.below bel4 (by omega)).c0
  go_wp2_with (first | (at_builtin; refine wpList_append8 rfl (.tmp 66) (.tmp 68) 22 rfl w2.heap.size i5 Try.underlying22 hi hz0 hz1 hz2 _ 0 [] rfl hmade _ rl _ bs rfl b0 hrn (by omega) (by simp) ?_; intro v3 w3 ho3 hg3; have bel5 : Below w2.heap.size w2 w3 := bel4.trans (below_own hg3 hmade (by simp)); have hs3 := bel5.size) | (at_builtin; refine wpList_append8 rfl (.tmp 69) (.tmp 70) 22 rfl w2.heap.size i5 Try.underlying22 hi hz0 hz1 hz2 _ (0 + rl) _ rfl ho3 _ (2 + len) _ (sto len 2 ++ xs) rfl (RX.below bel5) hnX (by omega) (by omega) ?_; intro v4 w4 ho4 hg4; have bel6 : Below w2.heap.size w2 w4 := bel5.trans (below_own hg4 ho3 (by omega)); have s0 := t0.below bel6 (by omega); have s2 := t2.below bel6 (by omega); have q0 := s0.c0; have q1 := s0.c1; have q2 := s0.c2; have g0 := s0.frozen 0; have z0 := s2.c0; have z1 := s2.c1; have z2 := s2.c2; have y0 := s2.frozen 0; have y1 := s2.frozen 1; have y2 := s2.frozen 2; obtain ⟨a', c', hv4, hform⟩ := owns_form ho4; rw [hv4]; clear s0 s2))
  have hF := fin_blk (t2.below bel6 (by omega)) (q := w.heap.size) (by omega) (.slice a' (0 + rl + (2 + len)) c') (.slice a' (0 + rl + (2 + len)) c') (.int .i64 most) (.int .i64 0)
  have hO := fin_own (q := w.heap.size) (z := w.heap.size + 1 + 1) ho4 (by omega) (by omega) (.slice a' (0 + rl + (2 + len)) c') (.slice a' (0 + rl + (2 + len)) c') (.int .i64 most) (.int .i64 0)
  have hB := fin_below (q := w.heap.size) (z := w.heap.size + 1 + 1) (hb2.trans (bel6.mono (by omega))) (Nat.le_refl _) (by omega) (.slice a' (0 + rl + (2 + len)) c') (.slice a' (0 + rl + (2 + len)) c') (.int .i64 most) (.int .i64 0)
  rw [Nat.zero_add] at hF hO hB hv4
  rw [List.nil_append, ← bv_append] at hO
  have f0 := hF.c0
  have f1 := hF.c1
  have f2 := hF.c2
  have hnil : Fr w a' c' := by
    rcases hform.2.2 with ⟨e, _, h⟩ | ⟨g, e, hg⟩
    · exact ⟨fun _ => h, fun b off e2 => (by rw [e] at e2; cases e2)⟩
    · refine ⟨fun e2 => (by rw [e2] at e; cases e), fun b off e2 => ?_⟩
      rw [e] at e2
      injection e2 with e2
      injection e2 with e3 e4
      omega
  obtain ⟨a5, c5, e5, R5⟩ := owns_row hO (Rr.byt.append ((sto_byt _ _).append R.byt)) (by unfold maxLen; omega)
  rw [hv4] at e5
  injection e5 with e6 e7 e8
  subst e6
  exact bodyPost_ret (v := .agg #[.slice a' (rl + (2 + len)) c', .int .i64 most, .int .i64 0]) (by simp [results, Try.results29, go_sem, f0, f1, f2]) rfl ⟨a', c', rfl, R5, hnil, below_grown hB⟩

set_option maxHeartbeats 1600000 in
theorem refwrite_tfull (ra : Option Addr) (rl rc : Nat) (most d n v : Int) (a : Option Addr) (len cap : Nat) (xs : List Int) (w : World) (R : Row w a len xs) (hn : a = none → cap = 0) (hd0 : (d == 0) = false) (hd1 : (d == 1) = false) (hrl : rl ≤ 100000000) (hll : ¬ (65535 : Int) < len) (hm : most ≤ 9223372036854775807) (hf : cut0 most - rl < (2 : Int) + len) :
    Calls Try.prog 29 #[.agg #[.slice ra rl rc, .int .i64 most, .int .i64 0], .agg #[.int .i64 d, .int .i64 n, .int .u64 v, .slice a len cap]] w fun r w' => r = .returned (.agg #[.slice ra rl rc, .int .i64 most, .int .i64 2]) ∧ w.grownBy w' none := by
  obtain ⟨i5, hi, hz0, hz1, hz2⟩ := info_parts Try.info5
  unfold cut0 at hf
  have hwr : IntKind.u64.wrap (len : Int) = len := u64_wrap_in _ (by omega) (by omega)
  have bel3 : Below w.heap.size w (((w.alloc (.cells #[.slice ra rl rc, .int .i64 most, .int .i64 0] 63)).alloc (.cells #[.int .i64 d, .int .i64 n, .int .u64 v, .slice a len cap] 53)).alloc (.cells #[.slice none 0 0, .int .i64 0, .int .i64 0] 63)) :=
    (((Below.refl _ w).alloc (Nat.le_refl _) _).alloc (by simp) _).alloc (by simp; omega) _
  have sb0 : SBlk (((w.alloc (.cells #[.slice ra rl rc, .int .i64 most, .int .i64 0] 63)).alloc (.cells #[.int .i64 d, .int .i64 n, .int .u64 v, .slice a len cap] 53)).alloc (.cells #[.slice none 0 0, .int .i64 0, .int .i64 0] 63)) w.heap.size [.slice ra rl rc, .int .i64 most, .int .i64 0] 63 :=
    (alloc_sblk w [.slice ra rl rc, .int .i64 most, .int .i64 0] 63).below (((Below.refl (w.heap.size + 1) _).alloc (by simp) _).alloc (by simp) _) (by omega)
  have sb1 : SBlk (((w.alloc (.cells #[.slice ra rl rc, .int .i64 most, .int .i64 0] 63)).alloc (.cells #[.int .i64 d, .int .i64 n, .int .u64 v, .slice a len cap] 53)).alloc (.cells #[.slice none 0 0, .int .i64 0, .int .i64 0] 63)) (w.heap.size + 1) [.int .i64 d, .int .i64 n, .int .u64 v, .slice a len cap] 53 := by
    have := alloc_sblk (w.alloc (.cells #[.slice ra rl rc, .int .i64 most, .int .i64 0] 63)) [.int .i64 d, .int .i64 n, .int .u64 v, .slice a len cap] 53
    simp only [World.size_alloc] at this
    exact this.below ((Below.refl (w.heap.size + 1 + 1) _).alloc (by simp) _) (by omega)
  have sb2 : SBlk (((w.alloc (.cells #[.slice ra rl rc, .int .i64 most, .int .i64 0] 63)).alloc (.cells #[.int .i64 d, .int .i64 n, .int .u64 v, .slice a len cap] 53)).alloc (.cells #[.slice none 0 0, .int .i64 0, .int .i64 0] 63)) (w.heap.size + 1 + 1) [.slice none 0 0, .int .i64 0, .int .i64 0] 63 := by
    have := alloc_sblk ((w.alloc (.cells #[.slice ra rl rc, .int .i64 most, .int .i64 0] 63)).alloc (.cells #[.int .i64 d, .int .i64 n, .int .u64 v, .slice a len cap] 53)) [.slice none 0 0, .int .i64 0, .int .i64 0] 63
    simp only [World.size_alloc] at this
    exact this
  have hsz : w.heap.size + 1 + 1 + 1 ≤ (((w.alloc (.cells #[.slice ra rl rc, .int .i64 most, .int .i64 0] 63)).alloc (.cells #[.int .i64 d, .int .i64 n, .int .u64 v, .slice a len cap] 53)).alloc (.cells #[.slice none 0 0, .int .i64 0, .int .i64 0] 63)).heap.size := by simp
  by_cases h : most < 0
  · rw [if_pos h] at hf
    go_enter Try.func29, Try.ntmps29
    go_wp2
    obtain ⟨wz, hwz⟩ : ∃ wz, wz = (((w.alloc (.cells #[.slice ra rl rc, .int .i64 most, .int .i64 0] 63)).alloc (.cells #[.int .i64 d, .int .i64 n, .int .u64 v, .slice a len cap] 53)).alloc (.cells #[.slice none 0 0, .int .i64 0, .int .i64 0] 63)) := ⟨_, rfl⟩
    rw [← hwz] at bel3 sb0 sb1 sb2 hsz ⊢
    clear hwz
    have cB := sb1.c3
    have hSt := store_own len 2 wz.drew (by omega) (by omega) (by omega)
    have Rz := (R.below bel3).drew'
    go_region_held_law (fun w' => w'.cell? ⟨w.heap.size + 1, 3, none⟩ = some (.slice a len cap)) (first | go_keep | assumption) ((first | (go_at_call 16; refine hSt.mono ?_; rintro e ws ⟨v1, rfl, ho1, hg1⟩; have ho1' : ws.ownsRow wz.heap.size 5 1 v1 2 (bv (sto len 2)) := ho1; have bel1 : Below wz.heap.size wz ws := (Below.refl _ wz).drew.trans (grown_below hg1); have hs1 := bel1.size; have cB1 := (sb1.below bel1 (by omega)).c3; have Rx := (R.below bel3).below bel1; clear hg1 ho1) | (refine step_append8 (by rfl) (.tmp 23) (.tmp 25) 22 (by rfl) wz.heap.size i5 Try.underlying22 hi hz0 hz1 hz2 _ 2 _ (by rfl) ho1' _ len _ xs (by rfl) Rx hn (by omega) hs1 ?_; intro v2 w2 ho2 hg2; have bel2 : Below wz.heap.size wz w2 := bel1.trans (below_own hg2 ho1' hs1); have cB2 := (sb1.below bel2 (by omega)).c3; obtain ⟨a2, c2, hv2, hform2⟩ := owns_form ho2; rw [hv2])))
    have hb2 : Below w.heap.size w w2 := bel3.trans (bel2.mono (by omega))
    have hs2 := bel2.size
    have t0 := sb0.below bel2 (by omega)
    have t2 := sb2.below bel2 (by omega)
    have RX : Row w2 a2 (2 + len) (sto len 2 ++ xs) := by
      rw [← bv_append] at ho2
      obtain ⟨a3, c3, e3, R3⟩ := owns_row ho2 ((sto_byt _ _).append R.byt) (by unfold maxLen; omega)
      rw [hv2] at e3
      injection e3 with e4 e5 e6
      rw [e4]; exact R3
    have hnX : a2 = none → c2 = 0 := by
      rcases hform2.2.2 with ⟨_, _, h⟩ | ⟨g, e, _⟩
      · exact fun _ => h
      · intro e2; rw [e2] at e; cases e
    clear ho2 hg2 hv2 hform2 hSt Rz ho1' Rx hs1 bel1 cB cB1 cB2 sb0 sb1 sb2 bel2
    have q0 := t0.c0
    have q1 := t0.c1
    have q2 := t0.c2
    have g2 := t0.frozen 2
    have z0 := t2.c0
    have z1 := t2.c1
    have z2 := t2.c2
    have y0 := t2.frozen 0
    have y1 := t2.frozen 1
    have y2 := t2.frozen 2
    have hF := fin_blk2 t2 (q := w.heap.size) (by omega) (.int .i64 2) (.slice ra rl rc) (.int .i64 most) (.int .i64 2)
    have hB := fin_below2 (q := w.heap.size) (z := w.heap.size + 1 + 1) hb2 (Nat.le_refl _) (by omega) (.int .i64 2) (.slice ra rl rc) (.int .i64 most) (.int .i64 2)
    have f0 := hF.c0
    have f1 := hF.c1
    have f2 := hF.c2
    clear t0 t2
    go_wp2
    exact bodyPost_ret (v := .agg #[.slice ra rl rc, .int .i64 most, .int .i64 2]) (by simp [results, Try.results29, go_sem, f0, f1, f2]) rfl ⟨rfl, below_grown hB⟩
  · rw [if_neg h] at hf
    go_enter Try.func29, Try.ntmps29
    go_wp2
    obtain ⟨wz, hwz⟩ : ∃ wz, wz = (((w.alloc (.cells #[.slice ra rl rc, .int .i64 most, .int .i64 0] 63)).alloc (.cells #[.int .i64 d, .int .i64 n, .int .u64 v, .slice a len cap] 53)).alloc (.cells #[.slice none 0 0, .int .i64 0, .int .i64 0] 63)) := ⟨_, rfl⟩
    rw [← hwz] at bel3 sb0 sb1 sb2 hsz ⊢
    clear hwz
    have cB := sb1.c3
    have hSt := store_own len 2 wz.drew (by omega) (by omega) (by omega)
    have Rz := (R.below bel3).drew'
    go_region_held_law (fun w' => w'.cell? ⟨w.heap.size + 1, 3, none⟩ = some (.slice a len cap)) (first | go_keep | assumption) ((first | (go_at_call 16; refine hSt.mono ?_; rintro e ws ⟨v1, rfl, ho1, hg1⟩; have ho1' : ws.ownsRow wz.heap.size 5 1 v1 2 (bv (sto len 2)) := ho1; have bel1 : Below wz.heap.size wz ws := (Below.refl _ wz).drew.trans (grown_below hg1); have hs1 := bel1.size; have cB1 := (sb1.below bel1 (by omega)).c3; have Rx := (R.below bel3).below bel1; clear hg1 ho1) | (refine step_append8 (by rfl) (.tmp 23) (.tmp 25) 22 (by rfl) wz.heap.size i5 Try.underlying22 hi hz0 hz1 hz2 _ 2 _ (by rfl) ho1' _ len _ xs (by rfl) Rx hn (by omega) hs1 ?_; intro v2 w2 ho2 hg2; have bel2 : Below wz.heap.size wz w2 := bel1.trans (below_own hg2 ho1' hs1); have cB2 := (sb1.below bel2 (by omega)).c3; obtain ⟨a2, c2, hv2, hform2⟩ := owns_form ho2; rw [hv2])))
    have hb2 : Below w.heap.size w w2 := bel3.trans (bel2.mono (by omega))
    have hs2 := bel2.size
    have t0 := sb0.below bel2 (by omega)
    have t2 := sb2.below bel2 (by omega)
    have RX : Row w2 a2 (2 + len) (sto len 2 ++ xs) := by
      rw [← bv_append] at ho2
      obtain ⟨a3, c3, e3, R3⟩ := owns_row ho2 ((sto_byt _ _).append R.byt) (by unfold maxLen; omega)
      rw [hv2] at e3
      injection e3 with e4 e5 e6
      rw [e4]; exact R3
    have hnX : a2 = none → c2 = 0 := by
      rcases hform2.2.2 with ⟨_, _, h⟩ | ⟨g, e, _⟩
      · exact fun _ => h
      · intro e2; rw [e2] at e; cases e
    clear ho2 hg2 hv2 hform2 hSt Rz ho1' Rx hs1 bel1 cB cB1 cB2 sb0 sb1 sb2 bel2
    have q0 := t0.c0
    have q1 := t0.c1
    have q2 := t0.c2
    have g2 := t0.frozen 2
    have z0 := t2.c0
    have z1 := t2.c1
    have z2 := t2.c2
    have y0 := t2.frozen 0
    have y1 := t2.frozen 1
    have y2 := t2.frozen 2
    have hF := fin_blk2 t2 (q := w.heap.size) (by omega) (.int .i64 2) (.slice ra rl rc) (.int .i64 most) (.int .i64 2)
    have hB := fin_below2 (q := w.heap.size) (z := w.heap.size + 1 + 1) hb2 (Nat.le_refl _) (by omega) (.int .i64 2) (.slice ra rl rc) (.int .i64 most) (.int .i64 2)
    have f0 := hF.c0
    have f1 := hF.c1
    have f2 := hF.c2
    clear t0 t2
    go_wp2
    exact bodyPost_ret (v := .agg #[.slice ra rl rc, .int .i64 most, .int .i64 2]) (by simp [results, Try.results29, go_sem, f0, f1, f2]) rfl ⟨rfl, below_grown hB⟩

end Go.Proofs.Ythnehebkkfegdaa
