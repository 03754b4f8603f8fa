/- The program's lay: a sequence's bytes. -/
import Derived.Test.YteghhmnkdmehbaaPF
import Derived.Test.YteghhmnkdmehbaaRK
namespace Go.Proofs.Yteghhmnkdmehbaa
open Go.RowKit
set_option linter.unusedSimpArgs false
set_option linter.unusedVariables false

theorem or16 {a b : Nat} (ha : a ≤ 15) (hb : b ≤ 15) : bits BinOp.or IntKind.i64 ((a : Int) * 16) (b : Int) = (16 * a + b : Int) := by
  rw [show ((a : Int) * 16) = ((a * 16 : Nat) : Int) by omega, i64_or_nat _ _ (by omega) (by omega), Nat.or_comm, or_low b a 4 (by omega)]
  omega
theorem or_tok (x y : Int) {A B : Nat} {T : Int} (ex : x = (A : Int) * 16) (ey : y = (B : Int)) (ha : A ≤ 15) (hb : B ≤ 15) (hT : T = 16 * (A : Int) + B) : ∃ t, bits BinOp.or IntKind.i64 x y = t ∧ (0 ≤ t ∧ t ≤ 255) ∧ Hid (t = T) := by
  subst ex ey hT
  exact ⟨_, or16 ha hb, by omega, rfl⟩
theorem fou_big {n : Int} (h : 15 < n) : fou n = 15 := by unfold fou; rw [if_pos h]
theorem fou_small {n : Int} (h : ¬ 15 < n) : fou n = n := by unfold fou; rw [if_neg h]
theorem tol_le {n : Nat} (h : n ≤ 16777216) : (tol n).length ≤ 16777216 := by
  unfold tol
  split
  · simp
  · simp; omega

set_option maxHeartbeats 1000000 in
theorem lay_last (w W : World) (v : Value) (bts : List Int) (s : SqV) (q : Sq) (J : Jn w W v bts) (S : SqOk w s q) (hn : q.1.length ≤ 1048576) (h1 : q.2.1 = 0) (h2 : q.2.2 = 0) (hb : bts.length ≤ 549755813888) :
    Calls Try.prog 28 #[v, .agg #[.slice s.a s.n s.c, .int .i64 s.off, .int .i64 s.m]] W fun e W' => ∃ v', e = .returned v' ∧ Jn w W' v' (bts ++ jbytes true q) := by
  obtain ⟨i5, hi, hz0, hz1, hz2⟩ := info_parts Try.info5
  obtain ⟨lit, o, m⟩ := q
  obtain ⟨sa, n, sc, so, sm⟩ := s
  have e1 := S.off
  have e2 := S.m
  have hll := S.row.len_eq
  simp only at e1 e2 hll hn h1 h2
  subst h1 h2
  subst e1 e2
  rw [hll] at hn
  have HJ : Hid _ := And.intro J S
  have B0 := Box.new W 51 [.slice sa n sc, .int .i64 0, .int .i64 0]
  have G0 := World.grownBy_alloc W (.cells #[.slice sa n sc, .int .i64 0, .int .i64 0] 51) none
  clear J S
  by_cases h15 : 15 < (n : Int)
  · obtain ⟨T, hor, hTb, HT⟩ := or_tok 240 0 (A := 15) (B := 0) (T := 16 * fou n) rfl rfl (by omega) (by omega) (by rw [fou_big h15]; rfl)
    go_enter Try.func28, Try.ntmps28
    go_wp2
    go_region
    have hnews : ∀ j u, ([Value.int .u8 T])[j]? = some u → ((W.alloc (.cells #[.slice sa n sc, .int .i64 0, .int .i64 0] 51)).alloc (.cells #[.int .u8 T] 5)).drew.cell? ((⟨W.heap.size + 1, 0, none⟩ : Addr).add j) = some u := by
      intro j u h
      have := cell_one (W.alloc (.cells #[.slice sa n sc, .int .i64 0, .int .i64 0] 51)) 5 (.int .u8 T) j u h
      simpa using this
    have J1 := (HJ.out.1.keep G0).keep (grown_trans (World.grownBy_alloc _ (.cells #[.int .u8 T] 5) none) (grown_drew _))
    have B1 := (B0.kept (World.grownBy_alloc _ (.cells #[.int .u8 T] 5) none) (by simp)).kept (grown_drew _) (by simp)
    have hown := J1.own
    have hszz := J1.g.size
    have HN : Hid _ := hnews
    have HJ1 : Hid _ := And.intro J1 B1
    have hb1 : (bts.length + 1) * 1 ≤ 140737488355328 := by omega
    have hb2 : bts.length + 1 ≤ maxLen := by unfold maxLen; omega
    clear hnews J1 B1 B0 G0
    go_wp2_with (at_builtin; (refine wpList_append_own _ rfl _ _ 22 rfl w.heap.size 5 i5 (.int .u8 0) 1 1 Try.underlying22 hi hz0 hz1 hz2 rfl (by decide) _ bts.length _ rfl hown ⟨W.heap.size + 1, 0, none⟩ 1 1 [.int .u8 T] rfl rfl HN.out (by simp [Value.oneCell']) hb2 hb1 hszz ?_))
    intro v2 w2 o2 g2 _
    have J2 := HJ1.out.1.app (xs := [T]) (n := 1) o2 (by intro x hx; simp at hx; omega) rfl g2
    have K2 := HJ1.out.1.kb g2
    have B2 := K2 _ _ HJ1.out.2
    have ht := tell_any w w2 v2 (bts ++ [T]) n J2 (by omega) (by simp; omega)
    obtain ⟨b0, b1, b2⟩ := B2.c3
    have H2 : Hid _ := B2
    clear o2 g2 J2 K2 B2 hown hszz HN HJ1 hb1 hb2
    generalize W.heap.size = g0 at *
    go_wp2_with fail
    refine ht.mono ?_
    rintro e w3 ⟨v3, rfl, J3, K3⟩
    have B3 := K3 _ _ H2.out
    obtain ⟨d0, d1, d2⟩ := B3.c3
    have hown := J3.own
    have hlen3 : (bts ++ [T] ++ tol n).length ≤ 549755813889 + 16777216 := by
      rw [List.length_append, List.length_append, List.length_singleton]
      have := tol_le (n := n) (by omega)
      omega
    have RL := HJ.out.2.row.grown J3.g
    have hsz3 := J3.g.size
    have H3 : Hid _ := And.intro J3 B3
    generalize hP : bts ++ [T] ++ tol n = P at *
    have HP : Hid _ := hP
    clear ht J3 K3 B3 H2 hP b0 b1 b2
    simp only
    go_wp2_with (at_builtin; refine wpList_append8 rfl _ _ 22 rfl w.heap.size i5 Try.underlying22 hi hz0 hz1 hz2 _ P.length (bv P) rfl hown _ n sc _ rfl RL HJ.out.2.nil (by omega) hsz3 ?_)
    intro v4 w4 o4 g4
    have J4 := H3.out.1.app o4 HJ.out.2.row.byt hll g4
    have B4 := (H3.out.1.kb g4) _ _ H3.out.2
    obtain ⟨b0, b1, b2⟩ := B4.c3
    have H4 : Hid _ := And.intro J4 B4
    clear o4 g4 J4 B4 hown RL hsz3 H3 d0 d1 d2
    go_wp2
    go_ret
    refine ⟨_, rfl, ?_⟩
    have := H4.out.1
    rw [← HP.out, HT.out] at this
    unfold jbytes
    simpa [List.append_assoc, hll] using this
  · obtain ⟨T, hor, hTb, HT⟩ := or_tok ((n : Int) * 16) 0 (A := n) (B := 0) (T := 16 * fou n) rfl rfl (by omega) (by omega) (by rw [fou_small h15]; omega)
    go_enter Try.func28, Try.ntmps28
    go_wp2
    go_region
    have hnews : ∀ j u, ([Value.int .u8 T])[j]? = some u → ((W.alloc (.cells #[.slice sa n sc, .int .i64 0, .int .i64 0] 51)).alloc (.cells #[.int .u8 T] 5)).drew.cell? ((⟨W.heap.size + 1, 0, none⟩ : Addr).add j) = some u := by
      intro j u h
      have := cell_one (W.alloc (.cells #[.slice sa n sc, .int .i64 0, .int .i64 0] 51)) 5 (.int .u8 T) j u h
      simpa using this
    have J1 := (HJ.out.1.keep G0).keep (grown_trans (World.grownBy_alloc _ (.cells #[.int .u8 T] 5) none) (grown_drew _))
    have B1 := (B0.kept (World.grownBy_alloc _ (.cells #[.int .u8 T] 5) none) (by simp)).kept (grown_drew _) (by simp)
    have hown := J1.own
    have hszz := J1.g.size
    have HN : Hid _ := hnews
    have HJ1 : Hid _ := And.intro J1 B1
    have hb1 : (bts.length + 1) * 1 ≤ 140737488355328 := by omega
    have hb2 : bts.length + 1 ≤ maxLen := by unfold maxLen; omega
    clear hnews J1 B1 B0 G0
    go_wp2_with (at_builtin; (refine wpList_append_own _ rfl _ _ 22 rfl w.heap.size 5 i5 (.int .u8 0) 1 1 Try.underlying22 hi hz0 hz1 hz2 rfl (by decide) _ bts.length _ rfl hown ⟨W.heap.size + 1, 0, none⟩ 1 1 [.int .u8 T] rfl rfl HN.out (by simp [Value.oneCell']) hb2 hb1 hszz ?_))
    intro v2 w2 o2 g2 _
    have J2 := HJ1.out.1.app (xs := [T]) (n := 1) o2 (by intro x hx; simp at hx; omega) rfl g2
    have K2 := HJ1.out.1.kb g2
    have B2 := K2 _ _ HJ1.out.2
    have ht := tell_any w w2 v2 (bts ++ [T]) n J2 (by omega) (by simp; omega)
    obtain ⟨b0, b1, b2⟩ := B2.c3
    have H2 : Hid _ := B2
    clear o2 g2 J2 K2 B2 hown hszz HN HJ1 hb1 hb2
    generalize W.heap.size = g0 at *
    go_wp2_with fail
    refine ht.mono ?_
    rintro e w3 ⟨v3, rfl, J3, K3⟩
    have B3 := K3 _ _ H2.out
    obtain ⟨d0, d1, d2⟩ := B3.c3
    have hown := J3.own
    have hlen3 : (bts ++ [T] ++ tol n).length ≤ 549755813889 + 16777216 := by
      rw [List.length_append, List.length_append, List.length_singleton]
      have := tol_le (n := n) (by omega)
      omega
    have RL := HJ.out.2.row.grown J3.g
    have hsz3 := J3.g.size
    have H3 : Hid _ := And.intro J3 B3
    generalize hP : bts ++ [T] ++ tol n = P at *
    have HP : Hid _ := hP
    clear ht J3 K3 B3 H2 hP b0 b1 b2
    simp only
    go_wp2_with (at_builtin; refine wpList_append8 rfl _ _ 22 rfl w.heap.size i5 Try.underlying22 hi hz0 hz1 hz2 _ P.length (bv P) rfl hown _ n sc _ rfl RL HJ.out.2.nil (by omega) hsz3 ?_)
    intro v4 w4 o4 g4
    have J4 := H3.out.1.app o4 HJ.out.2.row.byt hll g4
    have B4 := (H3.out.1.kb g4) _ _ H3.out.2
    obtain ⟨b0, b1, b2⟩ := B4.c3
    have H4 : Hid _ := And.intro J4 B4
    clear o4 g4 J4 B4 hown RL hsz3 H3 d0 d1 d2
    go_wp2
    go_ret
    refine ⟨_, rfl, ?_⟩
    have := H4.out.1
    rw [← HP.out, HT.out] at this
    unfold jbytes
    simpa [List.append_assoc, hll] using this
theorem cell_two (w : World) (t : TypeId) (a b : Value) (j : Nat) (u : Value) (h : ([a, b])[j]? = some u) : (w.alloc (.cells #[a, b] t)).cell? ((⟨w.heap.size, 0, none⟩ : Addr).add j) = some u := by
  match j, h with
  | 0, h => simp at h; subst h; simp [Addr.add]
  | 1, h => simp at h; subst h; simp [Addr.add]
  | j + 2, h => simp at h
set_option maxHeartbeats 2000000 in
theorem lay_more (w W : World) (v : Value) (bts : List Int) (s : SqV) (q : Sq) (J : Jn w W v bts) (S : SqOk w s q) (hn : q.1.length ≤ 1048576) (h1 : 1 ≤ q.2.1 ∧ q.2.1 ≤ 65535) (h2 : 4 ≤ q.2.2 ∧ q.2.2 ≤ 1048576) (hb : bts.length ≤ 549755813888) :
    Calls Try.prog 28 #[v, .agg #[.slice s.a s.n s.c, .int .i64 s.off, .int .i64 s.m]] W fun e W' => ∃ v', e = .returned v' ∧ Jn w W' v' (bts ++ jbytes false q) := by
  obtain ⟨i5, hi, hz0, hz1, hz2⟩ := info_parts Try.info5
  obtain ⟨lit, o, m⟩ := q
  obtain ⟨sa, n, sc, so, sm⟩ := s
  have e1 := S.off
  have e2 := S.m
  have hll := S.row.len_eq
  simp only at e1 e2 hll hn h1 h2
  subst e1 e2
  obtain ⟨y, rfl⟩ := Int.eq_ofNat_of_zero_le (by omega : 0 ≤ so)
  obtain ⟨m, rfl⟩ := Int.eq_ofNat_of_zero_le (by omega : 0 ≤ sm)
  rw [hll] at hn
  have HJ : Hid _ := And.intro J S
  have B0 := Box.new W 51 [.slice sa n sc, .int .i64 (y : Int), .int .i64 (m : Int)]
  have G0 := World.grownBy_alloc W (.cells #[.slice sa n sc, .int .i64 (y : Int), .int .i64 (m : Int)] 51) none
  have hy0 : ((y : Int) == 0) = false := by simp; omega
  clear J S
  by_cases h15 : 15 < (n : Int)
  · by_cases k15 : 15 < (m : Int) - 4
    · obtain ⟨T, hor, hTb, HT⟩ := or_tok 240 15 (A := 15) (B := 15) (T := 16 * fou n + fou ((m : Int) - 4)) rfl rfl (by omega) (by omega) (by rw [fou_big h15, fou_big k15]; rfl)
      go_enter Try.func28, Try.ntmps28
      go_wp2
      go_region
      have hnews : ∀ j u, ([Value.int .u8 T])[j]? = some u → ((W.alloc (.cells #[.slice sa n sc, .int .i64 (y : Int), .int .i64 (m : Int)] 51)).alloc (.cells #[.int .u8 T] 5)).drew.cell? ((⟨W.heap.size + 1, 0, none⟩ : Addr).add j) = some u := by
        intro j u h
        have := cell_one (W.alloc (.cells #[.slice sa n sc, .int .i64 (y : Int), .int .i64 (m : Int)] 51)) 5 (.int .u8 T) j u h
        simpa using this
      have J1 := (HJ.out.1.keep G0).keep (grown_trans (World.grownBy_alloc _ (.cells #[.int .u8 T] 5) none) (grown_drew _))
      have B1 := (B0.kept (World.grownBy_alloc _ (.cells #[.int .u8 T] 5) none) (by simp)).kept (grown_drew _) (by simp)
      have hown := J1.own
      have hszz := J1.g.size
      have HN : Hid _ := hnews
      have HJ1 : Hid _ := And.intro J1 B1
      have hb1 : (bts.length + 1) * 1 ≤ 140737488355328 := by omega
      have hb2 : bts.length + 1 ≤ maxLen := by unfold maxLen; omega
      clear hnews J1 B1 B0 G0
      go_wp2_with (at_builtin; (refine wpList_append_own _ rfl _ _ 22 rfl w.heap.size 5 i5 (.int .u8 0) 1 1 Try.underlying22 hi hz0 hz1 hz2 rfl (by decide) _ bts.length _ rfl hown ⟨W.heap.size + 1, 0, none⟩ 1 1 [.int .u8 T] rfl rfl HN.out (by simp [Value.oneCell']) hb2 hb1 hszz ?_))
      intro v2 w2 o2 g2 _
      have J2 := HJ1.out.1.app (xs := [T]) (n := 1) o2 (by intro x hx; simp at hx; omega) rfl g2
      have K2 := HJ1.out.1.kb g2
      have B2 := K2 _ _ HJ1.out.2
      have ht := tell_any w w2 v2 (bts ++ [T]) n J2 (by omega) (by simp; omega)
      obtain ⟨b0, b1, b2⟩ := B2.c3
      have H2 : Hid _ := B2
      clear o2 g2 J2 K2 B2 hown hszz HN HJ1 hb1 hb2
      generalize W.heap.size = g0 at *
      go_wp2_with fail
      refine ht.mono ?_
      rintro e w3 ⟨v3, rfl, J3, K3⟩
      have B3 := K3 _ _ H2.out
      obtain ⟨d0, d1, d2⟩ := B3.c3
      have hown := J3.own
      have hlen3 : (bts ++ [T] ++ tol n).length ≤ 549755813889 + 16777216 := by
        rw [List.length_append, List.length_append, List.length_singleton]
        have := tol_le (n := n) (by omega)
        omega
      have RL := HJ.out.2.row.grown J3.g
      have hsz3 := J3.g.size
      have H3 : Hid _ := And.intro J3 B3
      generalize hP : bts ++ [T] ++ tol n = P at *
      have HP : Hid _ := hP
      clear ht J3 K3 B3 H2 hP b0 b1 b2
      simp only
      go_wp2_with (at_builtin; refine wpList_append8 rfl _ _ 22 rfl w.heap.size i5 Try.underlying22 hi hz0 hz1 hz2 _ P.length (bv P) rfl hown _ n sc _ rfl RL HJ.out.2.nil (by omega) hsz3 ?_)
      intro v4 w4 o4 g4
      have J4 := H3.out.1.app o4 HJ.out.2.row.byt hll g4
      have B4 := (H3.out.1.kb g4) _ _ H3.out.2
      obtain ⟨b0, b1, b2⟩ := B4.c3
      have H4 : Hid _ := And.intro J4 B4
      clear o4 g4 J4 B4 hown RL hsz3 H3 d0 d1 d2
      generalize hP4 : P ++ lit = P4 at *
      have hl4 : P4.length ≤ 549755813889 + 16777216 + 1048576 := by
        rw [← hP4, List.length_append, hll]; omega
      have HP4 : Hid _ := hP4
      clear hP4
      have J5 := H4.out.1.keep (World.grownBy_alloc w4 (.cells #[.int .u8 ((y : Int) % 256), .int .u8 ((y : Int) / 256)] 5) none)
      have hown := J5.own
      have hsz5 := J5.g.size
      have hb1 : (P4.length + 2) * 1 ≤ 140737488355328 := by omega
      have hb2 : P4.length + 2 ≤ maxLen := by unfold maxLen; omega
      have HJ5 : Hid _ := J5
      clear J5
      go_wp2_with (at_builtin; (refine wpList_append_own _ rfl _ _ 22 rfl w.heap.size 5 i5 (.int .u8 0) 1 1 Try.underlying22 hi hz0 hz1 hz2 rfl (by decide) _ P4.length _ rfl hown ⟨w4.heap.size, 0, none⟩ 2 2 [.int .u8 ((y : Int) % 256), .int .u8 ((y : Int) / 256)] rfl rfl (cell_two _ _ _ _) (by simp [Value.oneCell']) hb2 hb1 hsz5 ?_))
      intro v6 w6 o6 g6 _
      have J6 := HJ5.out.app (xs := [(y : Int) % 256, (y : Int) / 256]) (n := 2) o6 (by intro x hx; simp at hx; omega) rfl g6
      have ht6 := tell_any w w6 v6 _ ((m : Int) - 4) J6 (by omega) (by rw [List.length_append]; simp; omega)
      clear J6 o6 g6 hown hsz5 HJ5 H4 b0 b1 b2
      go_wp2_with fail
      refine ht6.mono ?_
      rintro e w7 ⟨v7, rfl, J7, K7⟩
      have HJ7 : Hid _ := J7
      clear ht6 J7 K7
      simp only
      go_wp2
      go_ret
      refine ⟨_, rfl, ?_⟩
      have := HJ7.out
      rw [← HP4.out, ← HP.out, HT.out] at this
      unfold jbytes
      simpa [List.append_assoc, hll] using this
    · obtain ⟨T, hor, hTb, HT⟩ := or_tok 240 ((m : Int) - 4) (A := 15) (B := m - 4) (T := 16 * fou n + fou ((m : Int) - 4)) rfl (by omega) (by omega) (by omega) (by rw [fou_big h15, fou_small k15]; omega)
      go_enter Try.func28, Try.ntmps28
      go_wp2
      go_region
      have hnews : ∀ j u, ([Value.int .u8 T])[j]? = some u → ((W.alloc (.cells #[.slice sa n sc, .int .i64 (y : Int), .int .i64 (m : Int)] 51)).alloc (.cells #[.int .u8 T] 5)).drew.cell? ((⟨W.heap.size + 1, 0, none⟩ : Addr).add j) = some u := by
        intro j u h
        have := cell_one (W.alloc (.cells #[.slice sa n sc, .int .i64 (y : Int), .int .i64 (m : Int)] 51)) 5 (.int .u8 T) j u h
        simpa using this
      have J1 := (HJ.out.1.keep G0).keep (grown_trans (World.grownBy_alloc _ (.cells #[.int .u8 T] 5) none) (grown_drew _))
      have B1 := (B0.kept (World.grownBy_alloc _ (.cells #[.int .u8 T] 5) none) (by simp)).kept (grown_drew _) (by simp)
      have hown := J1.own
      have hszz := J1.g.size
      have HN : Hid _ := hnews
      have HJ1 : Hid _ := And.intro J1 B1
      have hb1 : (bts.length + 1) * 1 ≤ 140737488355328 := by omega
      have hb2 : bts.length + 1 ≤ maxLen := by unfold maxLen; omega
      clear hnews J1 B1 B0 G0
      go_wp2_with (at_builtin; (refine wpList_append_own _ rfl _ _ 22 rfl w.heap.size 5 i5 (.int .u8 0) 1 1 Try.underlying22 hi hz0 hz1 hz2 rfl (by decide) _ bts.length _ rfl hown ⟨W.heap.size + 1, 0, none⟩ 1 1 [.int .u8 T] rfl rfl HN.out (by simp [Value.oneCell']) hb2 hb1 hszz ?_))
      intro v2 w2 o2 g2 _
      have J2 := HJ1.out.1.app (xs := [T]) (n := 1) o2 (by intro x hx; simp at hx; omega) rfl g2
      have K2 := HJ1.out.1.kb g2
      have B2 := K2 _ _ HJ1.out.2
      have ht := tell_any w w2 v2 (bts ++ [T]) n J2 (by omega) (by simp; omega)
      obtain ⟨b0, b1, b2⟩ := B2.c3
      have H2 : Hid _ := B2
      clear o2 g2 J2 K2 B2 hown hszz HN HJ1 hb1 hb2
      generalize W.heap.size = g0 at *
      go_wp2_with fail
      refine ht.mono ?_
      rintro e w3 ⟨v3, rfl, J3, K3⟩
      have B3 := K3 _ _ H2.out
      obtain ⟨d0, d1, d2⟩ := B3.c3
      have hown := J3.own
      have hlen3 : (bts ++ [T] ++ tol n).length ≤ 549755813889 + 16777216 := by
        rw [List.length_append, List.length_append, List.length_singleton]
        have := tol_le (n := n) (by omega)
        omega
      have RL := HJ.out.2.row.grown J3.g
      have hsz3 := J3.g.size
      have H3 : Hid _ := And.intro J3 B3
      generalize hP : bts ++ [T] ++ tol n = P at *
      have HP : Hid _ := hP
      clear ht J3 K3 B3 H2 hP b0 b1 b2
      simp only
      go_wp2_with (at_builtin; refine wpList_append8 rfl _ _ 22 rfl w.heap.size i5 Try.underlying22 hi hz0 hz1 hz2 _ P.length (bv P) rfl hown _ n sc _ rfl RL HJ.out.2.nil (by omega) hsz3 ?_)
      intro v4 w4 o4 g4
      have J4 := H3.out.1.app o4 HJ.out.2.row.byt hll g4
      have B4 := (H3.out.1.kb g4) _ _ H3.out.2
      obtain ⟨b0, b1, b2⟩ := B4.c3
      have H4 : Hid _ := And.intro J4 B4
      clear o4 g4 J4 B4 hown RL hsz3 H3 d0 d1 d2
      generalize hP4 : P ++ lit = P4 at *
      have hl4 : P4.length ≤ 549755813889 + 16777216 + 1048576 := by
        rw [← hP4, List.length_append, hll]; omega
      have HP4 : Hid _ := hP4
      clear hP4
      have J5 := H4.out.1.keep (World.grownBy_alloc w4 (.cells #[.int .u8 ((y : Int) % 256), .int .u8 ((y : Int) / 256)] 5) none)
      have hown := J5.own
      have hsz5 := J5.g.size
      have hb1 : (P4.length + 2) * 1 ≤ 140737488355328 := by omega
      have hb2 : P4.length + 2 ≤ maxLen := by unfold maxLen; omega
      have HJ5 : Hid _ := J5
      clear J5
      go_wp2_with (at_builtin; (refine wpList_append_own _ rfl _ _ 22 rfl w.heap.size 5 i5 (.int .u8 0) 1 1 Try.underlying22 hi hz0 hz1 hz2 rfl (by decide) _ P4.length _ rfl hown ⟨w4.heap.size, 0, none⟩ 2 2 [.int .u8 ((y : Int) % 256), .int .u8 ((y : Int) / 256)] rfl rfl (cell_two _ _ _ _) (by simp [Value.oneCell']) hb2 hb1 hsz5 ?_))
      intro v6 w6 o6 g6 _
      have J6 := HJ5.out.app (xs := [(y : Int) % 256, (y : Int) / 256]) (n := 2) o6 (by intro x hx; simp at hx; omega) rfl g6
      have ht6 := tell_any w w6 v6 _ ((m : Int) - 4) J6 (by omega) (by rw [List.length_append]; simp; omega)
      clear J6 o6 g6 hown hsz5 HJ5 H4 b0 b1 b2
      go_wp2_with fail
      refine ht6.mono ?_
      rintro e w7 ⟨v7, rfl, J7, K7⟩
      have HJ7 : Hid _ := J7
      clear ht6 J7 K7
      simp only
      go_wp2
      go_ret
      refine ⟨_, rfl, ?_⟩
      have := HJ7.out
      rw [← HP4.out, ← HP.out, HT.out] at this
      unfold jbytes
      simpa [List.append_assoc, hll] using this
  · by_cases k15 : 15 < (m : Int) - 4
    · obtain ⟨T, hor, hTb, HT⟩ := or_tok ((n : Int) * 16) 15 (A := n) (B := 15) (T := 16 * fou n + fou ((m : Int) - 4)) rfl rfl (by omega) (by omega) (by rw [fou_small h15, fou_big k15]; omega)
      go_enter Try.func28, Try.ntmps28
      go_wp2
      go_region
      have hnews : ∀ j u, ([Value.int .u8 T])[j]? = some u → ((W.alloc (.cells #[.slice sa n sc, .int .i64 (y : Int), .int .i64 (m : Int)] 51)).alloc (.cells #[.int .u8 T] 5)).drew.cell? ((⟨W.heap.size + 1, 0, none⟩ : Addr).add j) = some u := by
        intro j u h
        have := cell_one (W.alloc (.cells #[.slice sa n sc, .int .i64 (y : Int), .int .i64 (m : Int)] 51)) 5 (.int .u8 T) j u h
        simpa using this
      have J1 := (HJ.out.1.keep G0).keep (grown_trans (World.grownBy_alloc _ (.cells #[.int .u8 T] 5) none) (grown_drew _))
      have B1 := (B0.kept (World.grownBy_alloc _ (.cells #[.int .u8 T] 5) none) (by simp)).kept (grown_drew _) (by simp)
      have hown := J1.own
      have hszz := J1.g.size
      have HN : Hid _ := hnews
      have HJ1 : Hid _ := And.intro J1 B1
      have hb1 : (bts.length + 1) * 1 ≤ 140737488355328 := by omega
      have hb2 : bts.length + 1 ≤ maxLen := by unfold maxLen; omega
      clear hnews J1 B1 B0 G0
      go_wp2_with (at_builtin; (refine wpList_append_own _ rfl _ _ 22 rfl w.heap.size 5 i5 (.int .u8 0) 1 1 Try.underlying22 hi hz0 hz1 hz2 rfl (by decide) _ bts.length _ rfl hown ⟨W.heap.size + 1, 0, none⟩ 1 1 [.int .u8 T] rfl rfl HN.out (by simp [Value.oneCell']) hb2 hb1 hszz ?_))
      intro v2 w2 o2 g2 _
      have J2 := HJ1.out.1.app (xs := [T]) (n := 1) o2 (by intro x hx; simp at hx; omega) rfl g2
      have K2 := HJ1.out.1.kb g2
      have B2 := K2 _ _ HJ1.out.2
      have ht := tell_any w w2 v2 (bts ++ [T]) n J2 (by omega) (by simp; omega)
      obtain ⟨b0, b1, b2⟩ := B2.c3
      have H2 : Hid _ := B2
      clear o2 g2 J2 K2 B2 hown hszz HN HJ1 hb1 hb2
      generalize W.heap.size = g0 at *
      go_wp2_with fail
      refine ht.mono ?_
      rintro e w3 ⟨v3, rfl, J3, K3⟩
      have B3 := K3 _ _ H2.out
      obtain ⟨d0, d1, d2⟩ := B3.c3
      have hown := J3.own
      have hlen3 : (bts ++ [T] ++ tol n).length ≤ 549755813889 + 16777216 := by
        rw [List.length_append, List.length_append, List.length_singleton]
        have := tol_le (n := n) (by omega)
        omega
      have RL := HJ.out.2.row.grown J3.g
      have hsz3 := J3.g.size
      have H3 : Hid _ := And.intro J3 B3
      generalize hP : bts ++ [T] ++ tol n = P at *
      have HP : Hid _ := hP
      clear ht J3 K3 B3 H2 hP b0 b1 b2
      simp only
      go_wp2_with (at_builtin; refine wpList_append8 rfl _ _ 22 rfl w.heap.size i5 Try.underlying22 hi hz0 hz1 hz2 _ P.length (bv P) rfl hown _ n sc _ rfl RL HJ.out.2.nil (by omega) hsz3 ?_)
      intro v4 w4 o4 g4
      have J4 := H3.out.1.app o4 HJ.out.2.row.byt hll g4
      have B4 := (H3.out.1.kb g4) _ _ H3.out.2
      obtain ⟨b0, b1, b2⟩ := B4.c3
      have H4 : Hid _ := And.intro J4 B4
      clear o4 g4 J4 B4 hown RL hsz3 H3 d0 d1 d2
      generalize hP4 : P ++ lit = P4 at *
      have hl4 : P4.length ≤ 549755813889 + 16777216 + 1048576 := by
        rw [← hP4, List.length_append, hll]; omega
      have HP4 : Hid _ := hP4
      clear hP4
      have J5 := H4.out.1.keep (World.grownBy_alloc w4 (.cells #[.int .u8 ((y : Int) % 256), .int .u8 ((y : Int) / 256)] 5) none)
      have hown := J5.own
      have hsz5 := J5.g.size
      have hb1 : (P4.length + 2) * 1 ≤ 140737488355328 := by omega
      have hb2 : P4.length + 2 ≤ maxLen := by unfold maxLen; omega
      have HJ5 : Hid _ := J5
      clear J5
      go_wp2_with (at_builtin; (refine wpList_append_own _ rfl _ _ 22 rfl w.heap.size 5 i5 (.int .u8 0) 1 1 Try.underlying22 hi hz0 hz1 hz2 rfl (by decide) _ P4.length _ rfl hown ⟨w4.heap.size, 0, none⟩ 2 2 [.int .u8 ((y : Int) % 256), .int .u8 ((y : Int) / 256)] rfl rfl (cell_two _ _ _ _) (by simp [Value.oneCell']) hb2 hb1 hsz5 ?_))
      intro v6 w6 o6 g6 _
      have J6 := HJ5.out.app (xs := [(y : Int) % 256, (y : Int) / 256]) (n := 2) o6 (by intro x hx; simp at hx; omega) rfl g6
      have ht6 := tell_any w w6 v6 _ ((m : Int) - 4) J6 (by omega) (by rw [List.length_append]; simp; omega)
      clear J6 o6 g6 hown hsz5 HJ5 H4 b0 b1 b2
      go_wp2_with fail
      refine ht6.mono ?_
      rintro e w7 ⟨v7, rfl, J7, K7⟩
      have HJ7 : Hid _ := J7
      clear ht6 J7 K7
      simp only
      go_wp2
      go_ret
      refine ⟨_, rfl, ?_⟩
      have := HJ7.out
      rw [← HP4.out, ← HP.out, HT.out] at this
      unfold jbytes
      simpa [List.append_assoc, hll] using this
    · obtain ⟨T, hor, hTb, HT⟩ := or_tok ((n : Int) * 16) ((m : Int) - 4) (A := n) (B := m - 4) (T := 16 * fou n + fou ((m : Int) - 4)) rfl (by omega) (by omega) (by omega) (by rw [fou_small h15, fou_small k15]; omega)
      go_enter Try.func28, Try.ntmps28
      go_wp2
      go_region
      have hnews : ∀ j u, ([Value.int .u8 T])[j]? = some u → ((W.alloc (.cells #[.slice sa n sc, .int .i64 (y : Int), .int .i64 (m : Int)] 51)).alloc (.cells #[.int .u8 T] 5)).drew.cell? ((⟨W.heap.size + 1, 0, none⟩ : Addr).add j) = some u := by
        intro j u h
        have := cell_one (W.alloc (.cells #[.slice sa n sc, .int .i64 (y : Int), .int .i64 (m : Int)] 51)) 5 (.int .u8 T) j u h
        simpa using this
      have J1 := (HJ.out.1.keep G0).keep (grown_trans (World.grownBy_alloc _ (.cells #[.int .u8 T] 5) none) (grown_drew _))
      have B1 := (B0.kept (World.grownBy_alloc _ (.cells #[.int .u8 T] 5) none) (by simp)).kept (grown_drew _) (by simp)
      have hown := J1.own
      have hszz := J1.g.size
      have HN : Hid _ := hnews
      have HJ1 : Hid _ := And.intro J1 B1
      have hb1 : (bts.length + 1) * 1 ≤ 140737488355328 := by omega
      have hb2 : bts.length + 1 ≤ maxLen := by unfold maxLen; omega
      clear hnews J1 B1 B0 G0
      go_wp2_with (at_builtin; (refine wpList_append_own _ rfl _ _ 22 rfl w.heap.size 5 i5 (.int .u8 0) 1 1 Try.underlying22 hi hz0 hz1 hz2 rfl (by decide) _ bts.length _ rfl hown ⟨W.heap.size + 1, 0, none⟩ 1 1 [.int .u8 T] rfl rfl HN.out (by simp [Value.oneCell']) hb2 hb1 hszz ?_))
      intro v2 w2 o2 g2 _
      have J2 := HJ1.out.1.app (xs := [T]) (n := 1) o2 (by intro x hx; simp at hx; omega) rfl g2
      have K2 := HJ1.out.1.kb g2
      have B2 := K2 _ _ HJ1.out.2
      have ht := tell_any w w2 v2 (bts ++ [T]) n J2 (by omega) (by simp; omega)
      obtain ⟨b0, b1, b2⟩ := B2.c3
      have H2 : Hid _ := B2
      clear o2 g2 J2 K2 B2 hown hszz HN HJ1 hb1 hb2
      generalize W.heap.size = g0 at *
      go_wp2_with fail
      refine ht.mono ?_
      rintro e w3 ⟨v3, rfl, J3, K3⟩
      have B3 := K3 _ _ H2.out
      obtain ⟨d0, d1, d2⟩ := B3.c3
      have hown := J3.own
      have hlen3 : (bts ++ [T] ++ tol n).length ≤ 549755813889 + 16777216 := by
        rw [List.length_append, List.length_append, List.length_singleton]
        have := tol_le (n := n) (by omega)
        omega
      have RL := HJ.out.2.row.grown J3.g
      have hsz3 := J3.g.size
      have H3 : Hid _ := And.intro J3 B3
      generalize hP : bts ++ [T] ++ tol n = P at *
      have HP : Hid _ := hP
      clear ht J3 K3 B3 H2 hP b0 b1 b2
      simp only
      go_wp2_with (at_builtin; refine wpList_append8 rfl _ _ 22 rfl w.heap.size i5 Try.underlying22 hi hz0 hz1 hz2 _ P.length (bv P) rfl hown _ n sc _ rfl RL HJ.out.2.nil (by omega) hsz3 ?_)
      intro v4 w4 o4 g4
      have J4 := H3.out.1.app o4 HJ.out.2.row.byt hll g4
      have B4 := (H3.out.1.kb g4) _ _ H3.out.2
      obtain ⟨b0, b1, b2⟩ := B4.c3
      have H4 : Hid _ := And.intro J4 B4
      clear o4 g4 J4 B4 hown RL hsz3 H3 d0 d1 d2
      generalize hP4 : P ++ lit = P4 at *
      have hl4 : P4.length ≤ 549755813889 + 16777216 + 1048576 := by
        rw [← hP4, List.length_append, hll]; omega
      have HP4 : Hid _ := hP4
      clear hP4
      have J5 := H4.out.1.keep (World.grownBy_alloc w4 (.cells #[.int .u8 ((y : Int) % 256), .int .u8 ((y : Int) / 256)] 5) none)
      have hown := J5.own
      have hsz5 := J5.g.size
      have hb1 : (P4.length + 2) * 1 ≤ 140737488355328 := by omega
      have hb2 : P4.length + 2 ≤ maxLen := by unfold maxLen; omega
      have HJ5 : Hid _ := J5
      clear J5
      go_wp2_with (at_builtin; (refine wpList_append_own _ rfl _ _ 22 rfl w.heap.size 5 i5 (.int .u8 0) 1 1 Try.underlying22 hi hz0 hz1 hz2 rfl (by decide) _ P4.length _ rfl hown ⟨w4.heap.size, 0, none⟩ 2 2 [.int .u8 ((y : Int) % 256), .int .u8 ((y : Int) / 256)] rfl rfl (cell_two _ _ _ _) (by simp [Value.oneCell']) hb2 hb1 hsz5 ?_))
      intro v6 w6 o6 g6 _
      have J6 := HJ5.out.app (xs := [(y : Int) % 256, (y : Int) / 256]) (n := 2) o6 (by intro x hx; simp at hx; omega) rfl g6
      have ht6 := tell_any w w6 v6 _ ((m : Int) - 4) J6 (by omega) (by rw [List.length_append]; simp; omega)
      clear J6 o6 g6 hown hsz5 HJ5 H4 b0 b1 b2
      go_wp2_with fail
      refine ht6.mono ?_
      rintro e w7 ⟨v7, rfl, J7, K7⟩
      have HJ7 : Hid _ := J7
      clear ht6 J7 K7
      simp only
      go_wp2
      go_ret
      refine ⟨_, rfl, ?_⟩
      have := HJ7.out
      rw [← HP4.out, ← HP.out, HT.out] at this
      unfold jbytes
      simpa [List.append_assoc, hll] using this
end Go.Proofs.Yteghhmnkdmehbaa
