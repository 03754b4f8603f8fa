/- The program's lay: a sequence's bytes. A slice of bytes, out of its reading. Sequences, out of their reading. The program's check. -/
import Derived.ProofKit
import Derived.OpenShut
import Derived.ChangeOld
import Derived.Lib.SmallJoins
import Derived.Deep.Slices
import Derived.Test.YtkkigpobhagnfaaK01
import Derived.Test.YtkkigpobhagnfaaK03
import Derived.Test.YtkkigpobhagnfaaK06
namespace Go.Proofs.Ytkkigpobhagnfaa
open Go.RowKit
set_option maxRecDepth 100000
set_option linter.unusedSimpArgs false
set_option linter.unusedVariables false
theorem or16 {a b : Nat} (ha : a ≤ 15) (hb : b ≤ 15) : bits BinOp.or IntKind.i64 ((a : Int) * 16) (b : Int) = (16 * a + b : Int) := by
 rw [show ((a : Int) * 16) = ((a * 16 : Nat) : Int) by omega, i64_or_nat _ _ (by omega) (by omega), Nat.or_comm, or_low b a 4 (by omega)]
 omega
theorem or_tok (x y : Int) {A B : Nat} {T : Int} (ex : x = (A : Int) * 16) (ey : y = (B : Int)) (ha : A ≤ 15) (hb : B ≤ 15) (hT : T = 16 * (A : Int) + B) : ∃ t, bits BinOp.or IntKind.i64 x y = t ∧ (0 ≤ t ∧ t ≤ 255) ∧ Hid (t = T) := by
 subst ex ey hT
 exact ⟨_, or16 ha hb, by omega, rfl⟩
theorem fou_big {n : Int} (h : 15 < n) : fou n = 15 := by unfold fou; rw [if_pos h]
theorem fou_small {n : Int} (h : ¬ 15 < n) : fou n = n := by unfold fou; rw [if_neg h]
theorem tol_le {n : Nat} (h : n ≤ 16777216) : (tol n).length ≤ 16777216 := by
 unfold tol
 split
 ·simp
 ·simp; omega

set_option maxHeartbeats 1000000 in
theorem lay_last (w W : World) (v : Value) (bts : List Int) (s : SqV) (q : Sq) (J : Jn w W v bts) (S : SqOk w s q) (hn : q.1.length ≤ 1048576) (h1 : q.2.1 = 0) (h2 : q.2.2 = 0) (hb : bts.length ≤ 549755813888) :
  Calls Try.prog 76 #[v, .agg #[.slice s.a s.n s.c, .int .i64 s.off, .int .i64 s.m]] W fun e W' => ∃ v', e = .returned v' ∧ Jn w W' v' (bts ++ jbytes true q) := by
 obtain ⟨i5, hi, hz0, hz1, hz2⟩ := info_parts Try.info5
 obtain ⟨lit, o, m⟩ := q
 obtain ⟨sa, n, sc, so, sm⟩ := s
 have e1 := S.off
 have e2 := S.m
 have hll := S.row.len_eq
 simp only at e1 e2 hll hn h1 h2
 subst h1 h2
 subst e1 e2
 rw [hll] at hn
 have HJ : Hid _ := And.intro J S
 have B0 := Box.new W 116 [.slice sa n sc, .int .i64 0, .int .i64 0]
 have G0 := World.grownBy_alloc W (.cells #[.slice sa n sc, .int .i64 0, .int .i64 0] 116) none
 clear J S
 by_cases h15 : 15 < (n : Int)
 ·obtain ⟨T, hor, hTb, HT⟩ := or_tok 240 0 (A := 15) (B := 0) (T := 16 * fou n) rfl rfl (by omega) (by omega) (by rw [fou_big h15]; rfl)
  go_enter Try.func76, Try.ntmps76
  go_wp2
  go_region
  have hnews : ∀ j u, ([Value.int .u8 T])[j]? = some u → ((W.alloc (.cells #[.slice sa n sc, .int .i64 0, .int .i64 0] 116)).alloc (.cells #[.int .u8 T] 5)).drew.cell? ((⟨W.heap.size + 1, 0, none⟩ : Addr).add j) = some u := by
   intro j u h
   have := cell_one (W.alloc (.cells #[.slice sa n sc, .int .i64 0, .int .i64 0] 116)) 5 (.int .u8 T) j u h
   simpa using this
  have J1 := (HJ.out.1.keep G0).keep (grown_trans (World.grownBy_alloc _ (.cells #[.int .u8 T] 5) none) (grown_drew _))
  have B1 := (B0.kept (World.grownBy_alloc _ (.cells #[.int .u8 T] 5) none) (by simp)).kept (grown_drew _) (by simp)
  have hown := J1.own
  have hszz := J1.g.size
  have HN : Hid _ := hnews
  have HJ1 : Hid _ := And.intro J1 B1
  have hb1 : (bts.length + 1) * 1 ≤ 140737488355328 := by omega
  have hb2 : bts.length + 1 ≤ maxLen := by unfold maxLen; omega
  clear hnews J1 B1 B0 G0
  go_wp2_with (at_builtin; (refine wpList_append_own _ rfl _ _ 22 rfl w.heap.size 5 i5 (.int .u8 0) 1 1 Try.underlying22 hi hz0 hz1 hz2 rfl (by decide) _ bts.length _ rfl hown ⟨W.heap.size + 1, 0, none⟩ 1 1 [.int .u8 T] rfl rfl HN.out (by simp [Value.oneCell']) hb2 hb1 hszz ?_))
  intro v2 w2 o2 g2 _
  have J2 := HJ1.out.1.app (xs := [T]) (n := 1) o2 (by intro x hx; simp at hx; omega) rfl g2
  have K2 := HJ1.out.1.kb g2
  have B2 := K2 _ _ HJ1.out.2
  have ht := tell_any w w2 v2 (bts ++ [T]) n J2 (by omega) (by simp; omega)
  obtain ⟨b0, b1, b2⟩ := B2.c3
  have H2 : Hid _ := B2
  clear o2 g2 J2 K2 B2 hown hszz HN HJ1 hb1 hb2
  generalize W.heap.size = g0 at *
  go_wp2_with fail
  refine ht.mono ?_
  rintro e w3 ⟨v3, rfl, J3, K3⟩
  have B3 := K3 _ _ H2.out
  obtain ⟨d0, d1, d2⟩ := B3.c3
  have hown := J3.own
  have hlen3 : (bts ++ [T] ++ tol n).length ≤ 549755813889 + 16777216 := by
   rw [List.length_append, List.length_append, List.length_singleton]
   have := tol_le (n := n) (by omega)
   omega
  have RL := HJ.out.2.row.grown J3.g
  have hsz3 := J3.g.size
  have H3 : Hid _ := And.intro J3 B3
  generalize hP : bts ++ [T] ++ tol n = P at *
  have HP : Hid _ := hP
  clear ht J3 K3 B3 H2 hP b0 b1 b2
  simp only
  go_wp2_with (at_builtin; refine wpList_append8 rfl _ _ 22 rfl w.heap.size i5 Try.underlying22 hi hz0 hz1 hz2 _ P.length (bv P) rfl hown _ n sc _ rfl RL HJ.out.2.nil (by omega) hsz3 ?_)
  intro v4 w4 o4 g4
  have J4 := H3.out.1.app o4 HJ.out.2.row.byt hll g4
  have B4 := (H3.out.1.kb g4) _ _ H3.out.2
  obtain ⟨b0, b1, b2⟩ := B4.c3
  have H4 : Hid _ := And.intro J4 B4
  clear o4 g4 J4 B4 hown RL hsz3 H3 d0 d1 d2
  go_wp2
  go_ret
  refine ⟨_, rfl, ?_⟩
  have := H4.out.1
  rw [← HP.out, HT.out] at this
  unfold jbytes
  simpa [List.append_assoc, hll] using this
 ·obtain ⟨T, hor, hTb, HT⟩ := or_tok ((n : Int) * 16) 0 (A := n) (B := 0) (T := 16 * fou n) rfl rfl (by omega) (by omega) (by rw [fou_small h15]; omega)
  go_enter Try.func76, Try.ntmps76
  go_wp2
  go_region
  have hnews : ∀ j u, ([Value.int .u8 T])[j]? = some u → ((W.alloc (.cells #[.slice sa n sc, .int .i64 0, .int .i64 0] 116)).alloc (.cells #[.int .u8 T] 5)).drew.cell? ((⟨W.heap.size + 1, 0, none⟩ : Addr).add j) = some u := by
   intro j u h
   have := cell_one (W.alloc (.cells #[.slice sa n sc, .int .i64 0, .int .i64 0] 116)) 5 (.int .u8 T) j u h
   simpa using this
  have J1 := (HJ.out.1.keep G0).keep (grown_trans (World.grownBy_alloc _ (.cells #[.int .u8 T] 5) none) (grown_drew _))
  have B1 := (B0.kept (World.grownBy_alloc _ (.cells #[.int .u8 T] 5) none) (by simp)).kept (grown_drew _) (by simp)
  have hown := J1.own
  have hszz := J1.g.size
  have HN : Hid _ := hnews
  have HJ1 : Hid _ := And.intro J1 B1
  have hb1 : (bts.length + 1) * 1 ≤ 140737488355328 := by omega
  have hb2 : bts.length + 1 ≤ maxLen := by unfold maxLen; omega
  clear hnews J1 B1 B0 G0
  go_wp2_with (at_builtin; (refine wpList_append_own _ rfl _ _ 22 rfl w.heap.size 5 i5 (.int .u8 0) 1 1 Try.underlying22 hi hz0 hz1 hz2 rfl (by decide) _ bts.length _ rfl hown ⟨W.heap.size + 1, 0, none⟩ 1 1 [.int .u8 T] rfl rfl HN.out (by simp [Value.oneCell']) hb2 hb1 hszz ?_))
  intro v2 w2 o2 g2 _
  have J2 := HJ1.out.1.app (xs := [T]) (n := 1) o2 (by intro x hx; simp at hx; omega) rfl g2
  have K2 := HJ1.out.1.kb g2
  have B2 := K2 _ _ HJ1.out.2
  have ht := tell_any w w2 v2 (bts ++ [T]) n J2 (by omega) (by simp; omega)
  obtain ⟨b0, b1, b2⟩ := B2.c3
  have H2 : Hid _ := B2
  clear o2 g2 J2 K2 B2 hown hszz HN HJ1 hb1 hb2
  generalize W.heap.size = g0 at *
  go_wp2_with fail
  refine ht.mono ?_
  rintro e w3 ⟨v3, rfl, J3, K3⟩
  have B3 := K3 _ _ H2.out
  obtain ⟨d0, d1, d2⟩ := B3.c3
  have hown := J3.own
  have hlen3 : (bts ++ [T] ++ tol n).length ≤ 549755813889 + 16777216 := by
   rw [List.length_append, List.length_append, List.length_singleton]
   have := tol_le (n := n) (by omega)
   omega
  have RL := HJ.out.2.row.grown J3.g
  have hsz3 := J3.g.size
  have H3 : Hid _ := And.intro J3 B3
  generalize hP : bts ++ [T] ++ tol n = P at *
  have HP : Hid _ := hP
  clear ht J3 K3 B3 H2 hP b0 b1 b2
  simp only
  go_wp2_with (at_builtin; refine wpList_append8 rfl _ _ 22 rfl w.heap.size i5 Try.underlying22 hi hz0 hz1 hz2 _ P.length (bv P) rfl hown _ n sc _ rfl RL HJ.out.2.nil (by omega) hsz3 ?_)
  intro v4 w4 o4 g4
  have J4 := H3.out.1.app o4 HJ.out.2.row.byt hll g4
  have B4 := (H3.out.1.kb g4) _ _ H3.out.2
  obtain ⟨b0, b1, b2⟩ := B4.c3
  have H4 : Hid _ := And.intro J4 B4
  clear o4 g4 J4 B4 hown RL hsz3 H3 d0 d1 d2
  go_wp2
  go_ret
  refine ⟨_, rfl, ?_⟩
  have := H4.out.1
  rw [← HP.out, HT.out] at this
  unfold jbytes
  simpa [List.append_assoc, hll] using this
theorem cell_two (w : World) (t : TypeId) (a b : Value) (j : Nat) (u : Value) (h : ([a, b])[j]? = some u) : (w.alloc (.cells #[a, b] t)).cell? ((⟨w.heap.size, 0, none⟩ : Addr).add j) = some u := by
 match j, h with
 | 0, h => simp at h; subst h; simp [Addr.add]
 | 1, h => simp at h; subst h; simp [Addr.add]
 | j + 2, h => simp at h
set_option maxHeartbeats 2000000 in
theorem lay_more (w W : World) (v : Value) (bts : List Int) (s : SqV) (q : Sq) (J : Jn w W v bts) (S : SqOk w s q) (hn : q.1.length ≤ 1048576) (h1 : 1 ≤ q.2.1 ∧ q.2.1 ≤ 65535) (h2 : 4 ≤ q.2.2 ∧ q.2.2 ≤ 1048576) (hb : bts.length ≤ 549755813888) :
  Calls Try.prog 76 #[v, .agg #[.slice s.a s.n s.c, .int .i64 s.off, .int .i64 s.m]] W fun e W' => ∃ v', e = .returned v' ∧ Jn w W' v' (bts ++ jbytes false q) := by
 obtain ⟨i5, hi, hz0, hz1, hz2⟩ := info_parts Try.info5
 obtain ⟨lit, o, m⟩ := q
 obtain ⟨sa, n, sc, so, sm⟩ := s
 have e1 := S.off
 have e2 := S.m
 have hll := S.row.len_eq
 simp only at e1 e2 hll hn h1 h2
 subst e1 e2
 obtain ⟨y, rfl⟩ := Int.eq_ofNat_of_zero_le (by omega : 0 ≤ so)
 obtain ⟨m, rfl⟩ := Int.eq_ofNat_of_zero_le (by omega : 0 ≤ sm)
 rw [hll] at hn
 have HJ : Hid _ := And.intro J S
 have B0 := Box.new W 116 [.slice sa n sc, .int .i64 (y : Int), .int .i64 (m : Int)]
 have G0 := World.grownBy_alloc W (.cells #[.slice sa n sc, .int .i64 (y : Int), .int .i64 (m : Int)] 116) none
 have hy0 : ((y : Int) == 0) = false := by simp; omega
 clear J S
 by_cases h15 : 15 < (n : Int)
 ·by_cases k15 : 15 < (m : Int) - 4
  ·obtain ⟨T, hor, hTb, HT⟩ := or_tok 240 15 (A := 15) (B := 15) (T := 16 * fou n + fou ((m : Int) - 4)) rfl rfl (by omega) (by omega) (by rw [fou_big h15, fou_big k15]; rfl)
   go_enter Try.func76, Try.ntmps76
   go_wp2
   go_region
   have hnews : ∀ j u, ([Value.int .u8 T])[j]? = some u → ((W.alloc (.cells #[.slice sa n sc, .int .i64 (y : Int), .int .i64 (m : Int)] 116)).alloc (.cells #[.int .u8 T] 5)).drew.cell? ((⟨W.heap.size + 1, 0, none⟩ : Addr).add j) = some u := by
    intro j u h
    have := cell_one (W.alloc (.cells #[.slice sa n sc, .int .i64 (y : Int), .int .i64 (m : Int)] 116)) 5 (.int .u8 T) j u h
    simpa using this
   have J1 := (HJ.out.1.keep G0).keep (grown_trans (World.grownBy_alloc _ (.cells #[.int .u8 T] 5) none) (grown_drew _))
   have B1 := (B0.kept (World.grownBy_alloc _ (.cells #[.int .u8 T] 5) none) (by simp)).kept (grown_drew _) (by simp)
   have hown := J1.own
   have hszz := J1.g.size
   have HN : Hid _ := hnews
   have HJ1 : Hid _ := And.intro J1 B1
   have hb1 : (bts.length + 1) * 1 ≤ 140737488355328 := by omega
   have hb2 : bts.length + 1 ≤ maxLen := by unfold maxLen; omega
   clear hnews J1 B1 B0 G0
   go_wp2_with (at_builtin; (refine wpList_append_own _ rfl _ _ 22 rfl w.heap.size 5 i5 (.int .u8 0) 1 1 Try.underlying22 hi hz0 hz1 hz2 rfl (by decide) _ bts.length _ rfl hown ⟨W.heap.size + 1, 0, none⟩ 1 1 [.int .u8 T] rfl rfl HN.out (by simp [Value.oneCell']) hb2 hb1 hszz ?_))
   intro v2 w2 o2 g2 _
   have J2 := HJ1.out.1.app (xs := [T]) (n := 1) o2 (by intro x hx; simp at hx; omega) rfl g2
   have K2 := HJ1.out.1.kb g2
   have B2 := K2 _ _ HJ1.out.2
   have ht := tell_any w w2 v2 (bts ++ [T]) n J2 (by omega) (by simp; omega)
   obtain ⟨b0, b1, b2⟩ := B2.c3
   have H2 : Hid _ := B2
   clear o2 g2 J2 K2 B2 hown hszz HN HJ1 hb1 hb2
   generalize W.heap.size = g0 at *
   go_wp2_with fail
   refine ht.mono ?_
   rintro e w3 ⟨v3, rfl, J3, K3⟩
   have B3 := K3 _ _ H2.out
   obtain ⟨d0, d1, d2⟩ := B3.c3
   have hown := J3.own
   have hlen3 : (bts ++ [T] ++ tol n).length ≤ 549755813889 + 16777216 := by
    rw [List.length_append, List.length_append, List.length_singleton]
    have := tol_le (n := n) (by omega)
    omega
   have RL := HJ.out.2.row.grown J3.g
   have hsz3 := J3.g.size
   have H3 : Hid _ := And.intro J3 B3
   generalize hP : bts ++ [T] ++ tol n = P at *
   have HP : Hid _ := hP
   clear ht J3 K3 B3 H2 hP b0 b1 b2
   simp only
   go_wp2_with (at_builtin; refine wpList_append8 rfl _ _ 22 rfl w.heap.size i5 Try.underlying22 hi hz0 hz1 hz2 _ P.length (bv P) rfl hown _ n sc _ rfl RL HJ.out.2.nil (by omega) hsz3 ?_)
   intro v4 w4 o4 g4
   have J4 := H3.out.1.app o4 HJ.out.2.row.byt hll g4
   have B4 := (H3.out.1.kb g4) _ _ H3.out.2
   obtain ⟨b0, b1, b2⟩ := B4.c3
   have H4 : Hid _ := And.intro J4 B4
   clear o4 g4 J4 B4 hown RL hsz3 H3 d0 d1 d2
   generalize hP4 : P ++ lit = P4 at *
   have hl4 : P4.length ≤ 549755813889 + 16777216 + 1048576 := by
    rw [← hP4, List.length_append, hll]; omega
   have HP4 : Hid _ := hP4
   clear hP4
   have J5 := H4.out.1.keep (World.grownBy_alloc w4 (.cells #[.int .u8 ((y : Int) % 256), .int .u8 ((y : Int) / 256)] 5) none)
   have hown := J5.own
   have hsz5 := J5.g.size
   have hb1 : (P4.length + 2) * 1 ≤ 140737488355328 := by omega
   have hb2 : P4.length + 2 ≤ maxLen := by unfold maxLen; omega
   have HJ5 : Hid _ := J5
   clear J5
   go_wp2_with (at_builtin; (refine wpList_append_own _ rfl _ _ 22 rfl w.heap.size 5 i5 (.int .u8 0) 1 1 Try.underlying22 hi hz0 hz1 hz2 rfl (by decide) _ P4.length _ rfl hown ⟨w4.heap.size, 0, none⟩ 2 2 [.int .u8 ((y : Int) % 256), .int .u8 ((y : Int) / 256)] rfl rfl (cell_two _ _ _ _) (by simp [Value.oneCell']) hb2 hb1 hsz5 ?_))
   intro v6 w6 o6 g6 _
   have J6 := HJ5.out.app (xs := [(y : Int) % 256, (y : Int) / 256]) (n := 2) o6 (by intro x hx; simp at hx; omega) rfl g6
   have ht6 := tell_any w w6 v6 _ ((m : Int) - 4) J6 (by omega) (by rw [List.length_append]; simp; omega)
   clear J6 o6 g6 hown hsz5 HJ5 H4 b0 b1 b2
   go_wp2_with fail
   refine ht6.mono ?_
   rintro e w7 ⟨v7, rfl, J7, K7⟩
   have HJ7 : Hid _ := J7
   clear ht6 J7 K7
   simp only
   go_wp2
   go_ret
   refine ⟨_, rfl, ?_⟩
   have := HJ7.out
   rw [← HP4.out, ← HP.out, HT.out] at this
   unfold jbytes
   simpa [List.append_assoc, hll] using this
  ·obtain ⟨T, hor, hTb, HT⟩ := or_tok 240 ((m : Int) - 4) (A := 15) (B := m - 4) (T := 16 * fou n + fou ((m : Int) - 4)) rfl (by omega) (by omega) (by omega) (by rw [fou_big h15, fou_small k15]; omega)
   go_enter Try.func76, Try.ntmps76
   go_wp2
   go_region
   have hnews : ∀ j u, ([Value.int .u8 T])[j]? = some u → ((W.alloc (.cells #[.slice sa n sc, .int .i64 (y : Int), .int .i64 (m : Int)] 116)).alloc (.cells #[.int .u8 T] 5)).drew.cell? ((⟨W.heap.size + 1, 0, none⟩ : Addr).add j) = some u := by
    intro j u h
    have := cell_one (W.alloc (.cells #[.slice sa n sc, .int .i64 (y : Int), .int .i64 (m : Int)] 116)) 5 (.int .u8 T) j u h
    simpa using this
   have J1 := (HJ.out.1.keep G0).keep (grown_trans (World.grownBy_alloc _ (.cells #[.int .u8 T] 5) none) (grown_drew _))
   have B1 := (B0.kept (World.grownBy_alloc _ (.cells #[.int .u8 T] 5) none) (by simp)).kept (grown_drew _) (by simp)
   have hown := J1.own
   have hszz := J1.g.size
   have HN : Hid _ := hnews
   have HJ1 : Hid _ := And.intro J1 B1
   have hb1 : (bts.length + 1) * 1 ≤ 140737488355328 := by omega
   have hb2 : bts.length + 1 ≤ maxLen := by unfold maxLen; omega
   clear hnews J1 B1 B0 G0
   go_wp2_with (at_builtin; (refine wpList_append_own _ rfl _ _ 22 rfl w.heap.size 5 i5 (.int .u8 0) 1 1 Try.underlying22 hi hz0 hz1 hz2 rfl (by decide) _ bts.length _ rfl hown ⟨W.heap.size + 1, 0, none⟩ 1 1 [.int .u8 T] rfl rfl HN.out (by simp [Value.oneCell']) hb2 hb1 hszz ?_))
   intro v2 w2 o2 g2 _
   have J2 := HJ1.out.1.app (xs := [T]) (n := 1) o2 (by intro x hx; simp at hx; omega) rfl g2
   have K2 := HJ1.out.1.kb g2
   have B2 := K2 _ _ HJ1.out.2
   have ht := tell_any w w2 v2 (bts ++ [T]) n J2 (by omega) (by simp; omega)
   obtain ⟨b0, b1, b2⟩ := B2.c3
   have H2 : Hid _ := B2
   clear o2 g2 J2 K2 B2 hown hszz HN HJ1 hb1 hb2
   generalize W.heap.size = g0 at *
   go_wp2_with fail
   refine ht.mono ?_
   rintro e w3 ⟨v3, rfl, J3, K3⟩
   have B3 := K3 _ _ H2.out
   obtain ⟨d0, d1, d2⟩ := B3.c3
   have hown := J3.own
   have hlen3 : (bts ++ [T] ++ tol n).length ≤ 549755813889 + 16777216 := by
    rw [List.length_append, List.length_append, List.length_singleton]
    have := tol_le (n := n) (by omega)
    omega
   have RL := HJ.out.2.row.grown J3.g
   have hsz3 := J3.g.size
   have H3 : Hid _ := And.intro J3 B3
   generalize hP : bts ++ [T] ++ tol n = P at *
   have HP : Hid _ := hP
   clear ht J3 K3 B3 H2 hP b0 b1 b2
   simp only
   go_wp2_with (at_builtin; refine wpList_append8 rfl _ _ 22 rfl w.heap.size i5 Try.underlying22 hi hz0 hz1 hz2 _ P.length (bv P) rfl hown _ n sc _ rfl RL HJ.out.2.nil (by omega) hsz3 ?_)
   intro v4 w4 o4 g4
   have J4 := H3.out.1.app o4 HJ.out.2.row.byt hll g4
   have B4 := (H3.out.1.kb g4) _ _ H3.out.2
   obtain ⟨b0, b1, b2⟩ := B4.c3
   have H4 : Hid _ := And.intro J4 B4
   clear o4 g4 J4 B4 hown RL hsz3 H3 d0 d1 d2
   generalize hP4 : P ++ lit = P4 at *
   have hl4 : P4.length ≤ 549755813889 + 16777216 + 1048576 := by
    rw [← hP4, List.length_append, hll]; omega
   have HP4 : Hid _ := hP4
   clear hP4
   have J5 := H4.out.1.keep (World.grownBy_alloc w4 (.cells #[.int .u8 ((y : Int) % 256), .int .u8 ((y : Int) / 256)] 5) none)
   have hown := J5.own
   have hsz5 := J5.g.size
   have hb1 : (P4.length + 2) * 1 ≤ 140737488355328 := by omega
   have hb2 : P4.length + 2 ≤ maxLen := by unfold maxLen; omega
   have HJ5 : Hid _ := J5
   clear J5
   go_wp2_with (at_builtin; (refine wpList_append_own _ rfl _ _ 22 rfl w.heap.size 5 i5 (.int .u8 0) 1 1 Try.underlying22 hi hz0 hz1 hz2 rfl (by decide) _ P4.length _ rfl hown ⟨w4.heap.size, 0, none⟩ 2 2 [.int .u8 ((y : Int) % 256), .int .u8 ((y : Int) / 256)] rfl rfl (cell_two _ _ _ _) (by simp [Value.oneCell']) hb2 hb1 hsz5 ?_))
   intro v6 w6 o6 g6 _
   have J6 := HJ5.out.app (xs := [(y : Int) % 256, (y : Int) / 256]) (n := 2) o6 (by intro x hx; simp at hx; omega) rfl g6
   have ht6 := tell_any w w6 v6 _ ((m : Int) - 4) J6 (by omega) (by rw [List.length_append]; simp; omega)
   clear J6 o6 g6 hown hsz5 HJ5 H4 b0 b1 b2
   go_wp2_with fail
   refine ht6.mono ?_
   rintro e w7 ⟨v7, rfl, J7, K7⟩
   have HJ7 : Hid _ := J7
   clear ht6 J7 K7
   simp only
   go_wp2
   go_ret
   refine ⟨_, rfl, ?_⟩
   have := HJ7.out
   rw [← HP4.out, ← HP.out, HT.out] at this
   unfold jbytes
   simpa [List.append_assoc, hll] using this
 ·by_cases k15 : 15 < (m : Int) - 4
  ·obtain ⟨T, hor, hTb, HT⟩ := or_tok ((n : Int) * 16) 15 (A := n) (B := 15) (T := 16 * fou n + fou ((m : Int) - 4)) rfl rfl (by omega) (by omega) (by rw [fou_small h15, fou_big k15]; omega)
   go_enter Try.func76, Try.ntmps76
   go_wp2
   go_region
   have hnews : ∀ j u, ([Value.int .u8 T])[j]? = some u → ((W.alloc (.cells #[.slice sa n sc, .int .i64 (y : Int), .int .i64 (m : Int)] 116)).alloc (.cells #[.int .u8 T] 5)).drew.cell? ((⟨W.heap.size + 1, 0, none⟩ : Addr).add j) = some u := by
    intro j u h
    have := cell_one (W.alloc (.cells #[.slice sa n sc, .int .i64 (y : Int), .int .i64 (m : Int)] 116)) 5 (.int .u8 T) j u h
    simpa using this
   have J1 := (HJ.out.1.keep G0).keep (grown_trans (World.grownBy_alloc _ (.cells #[.int .u8 T] 5) none) (grown_drew _))
   have B1 := (B0.kept (World.grownBy_alloc _ (.cells #[.int .u8 T] 5) none) (by simp)).kept (grown_drew _) (by simp)
   have hown := J1.own
   have hszz := J1.g.size
   have HN : Hid _ := hnews
   have HJ1 : Hid _ := And.intro J1 B1
   have hb1 : (bts.length + 1) * 1 ≤ 140737488355328 := by omega
   have hb2 : bts.length + 1 ≤ maxLen := by unfold maxLen; omega
   clear hnews J1 B1 B0 G0
   go_wp2_with (at_builtin; (refine wpList_append_own _ rfl _ _ 22 rfl w.heap.size 5 i5 (.int .u8 0) 1 1 Try.underlying22 hi hz0 hz1 hz2 rfl (by decide) _ bts.length _ rfl hown ⟨W.heap.size + 1, 0, none⟩ 1 1 [.int .u8 T] rfl rfl HN.out (by simp [Value.oneCell']) hb2 hb1 hszz ?_))
   intro v2 w2 o2 g2 _
   have J2 := HJ1.out.1.app (xs := [T]) (n := 1) o2 (by intro x hx; simp at hx; omega) rfl g2
   have K2 := HJ1.out.1.kb g2
   have B2 := K2 _ _ HJ1.out.2
   have ht := tell_any w w2 v2 (bts ++ [T]) n J2 (by omega) (by simp; omega)
   obtain ⟨b0, b1, b2⟩ := B2.c3
   have H2 : Hid _ := B2
   clear o2 g2 J2 K2 B2 hown hszz HN HJ1 hb1 hb2
   generalize W.heap.size = g0 at *
   go_wp2_with fail
   refine ht.mono ?_
   rintro e w3 ⟨v3, rfl, J3, K3⟩
   have B3 := K3 _ _ H2.out
   obtain ⟨d0, d1, d2⟩ := B3.c3
   have hown := J3.own
   have hlen3 : (bts ++ [T] ++ tol n).length ≤ 549755813889 + 16777216 := by
    rw [List.length_append, List.length_append, List.length_singleton]
    have := tol_le (n := n) (by omega)
    omega
   have RL := HJ.out.2.row.grown J3.g
   have hsz3 := J3.g.size
   have H3 : Hid _ := And.intro J3 B3
   generalize hP : bts ++ [T] ++ tol n = P at *
   have HP : Hid _ := hP
   clear ht J3 K3 B3 H2 hP b0 b1 b2
   simp only
   go_wp2_with (at_builtin; refine wpList_append8 rfl _ _ 22 rfl w.heap.size i5 Try.underlying22 hi hz0 hz1 hz2 _ P.length (bv P) rfl hown _ n sc _ rfl RL HJ.out.2.nil (by omega) hsz3 ?_)
   intro v4 w4 o4 g4
   have J4 := H3.out.1.app o4 HJ.out.2.row.byt hll g4
   have B4 := (H3.out.1.kb g4) _ _ H3.out.2
   obtain ⟨b0, b1, b2⟩ := B4.c3
   have H4 : Hid _ := And.intro J4 B4
   clear o4 g4 J4 B4 hown RL hsz3 H3 d0 d1 d2
   generalize hP4 : P ++ lit = P4 at *
   have hl4 : P4.length ≤ 549755813889 + 16777216 + 1048576 := by
    rw [← hP4, List.length_append, hll]; omega
   have HP4 : Hid _ := hP4
   clear hP4
   have J5 := H4.out.1.keep (World.grownBy_alloc w4 (.cells #[.int .u8 ((y : Int) % 256), .int .u8 ((y : Int) / 256)] 5) none)
   have hown := J5.own
   have hsz5 := J5.g.size
   have hb1 : (P4.length + 2) * 1 ≤ 140737488355328 := by omega
   have hb2 : P4.length + 2 ≤ maxLen := by unfold maxLen; omega
   have HJ5 : Hid _ := J5
   clear J5
   go_wp2_with (at_builtin; (refine wpList_append_own _ rfl _ _ 22 rfl w.heap.size 5 i5 (.int .u8 0) 1 1 Try.underlying22 hi hz0 hz1 hz2 rfl (by decide) _ P4.length _ rfl hown ⟨w4.heap.size, 0, none⟩ 2 2 [.int .u8 ((y : Int) % 256), .int .u8 ((y : Int) / 256)] rfl rfl (cell_two _ _ _ _) (by simp [Value.oneCell']) hb2 hb1 hsz5 ?_))
   intro v6 w6 o6 g6 _
   have J6 := HJ5.out.app (xs := [(y : Int) % 256, (y : Int) / 256]) (n := 2) o6 (by intro x hx; simp at hx; omega) rfl g6
   have ht6 := tell_any w w6 v6 _ ((m : Int) - 4) J6 (by omega) (by rw [List.length_append]; simp; omega)
   clear J6 o6 g6 hown hsz5 HJ5 H4 b0 b1 b2
   go_wp2_with fail
   refine ht6.mono ?_
   rintro e w7 ⟨v7, rfl, J7, K7⟩
   have HJ7 : Hid _ := J7
   clear ht6 J7 K7
   simp only
   go_wp2
   go_ret
   refine ⟨_, rfl, ?_⟩
   have := HJ7.out
   rw [← HP4.out, ← HP.out, HT.out] at this
   unfold jbytes
   simpa [List.append_assoc, hll] using this
  ·obtain ⟨T, hor, hTb, HT⟩ := or_tok ((n : Int) * 16) ((m : Int) - 4) (A := n) (B := m - 4) (T := 16 * fou n + fou ((m : Int) - 4)) rfl (by omega) (by omega) (by omega) (by rw [fou_small h15, fou_small k15]; omega)
   go_enter Try.func76, Try.ntmps76
   go_wp2
   go_region
   have hnews : ∀ j u, ([Value.int .u8 T])[j]? = some u → ((W.alloc (.cells #[.slice sa n sc, .int .i64 (y : Int), .int .i64 (m : Int)] 116)).alloc (.cells #[.int .u8 T] 5)).drew.cell? ((⟨W.heap.size + 1, 0, none⟩ : Addr).add j) = some u := by
    intro j u h
    have := cell_one (W.alloc (.cells #[.slice sa n sc, .int .i64 (y : Int), .int .i64 (m : Int)] 116)) 5 (.int .u8 T) j u h
    simpa using this
   have J1 := (HJ.out.1.keep G0).keep (grown_trans (World.grownBy_alloc _ (.cells #[.int .u8 T] 5) none) (grown_drew _))
   have B1 := (B0.kept (World.grownBy_alloc _ (.cells #[.int .u8 T] 5) none) (by simp)).kept (grown_drew _) (by simp)
   have hown := J1.own
   have hszz := J1.g.size
   have HN : Hid _ := hnews
   have HJ1 : Hid _ := And.intro J1 B1
   have hb1 : (bts.length + 1) * 1 ≤ 140737488355328 := by omega
   have hb2 : bts.length + 1 ≤ maxLen := by unfold maxLen; omega
   clear hnews J1 B1 B0 G0
   go_wp2_with (at_builtin; (refine wpList_append_own _ rfl _ _ 22 rfl w.heap.size 5 i5 (.int .u8 0) 1 1 Try.underlying22 hi hz0 hz1 hz2 rfl (by decide) _ bts.length _ rfl hown ⟨W.heap.size + 1, 0, none⟩ 1 1 [.int .u8 T] rfl rfl HN.out (by simp [Value.oneCell']) hb2 hb1 hszz ?_))
   intro v2 w2 o2 g2 _
   have J2 := HJ1.out.1.app (xs := [T]) (n := 1) o2 (by intro x hx; simp at hx; omega) rfl g2
   have K2 := HJ1.out.1.kb g2
   have B2 := K2 _ _ HJ1.out.2
   have ht := tell_any w w2 v2 (bts ++ [T]) n J2 (by omega) (by simp; omega)
   obtain ⟨b0, b1, b2⟩ := B2.c3
   have H2 : Hid _ := B2
   clear o2 g2 J2 K2 B2 hown hszz HN HJ1 hb1 hb2
   generalize W.heap.size = g0 at *
   go_wp2_with fail
   refine ht.mono ?_
   rintro e w3 ⟨v3, rfl, J3, K3⟩
   have B3 := K3 _ _ H2.out
   obtain ⟨d0, d1, d2⟩ := B3.c3
   have hown := J3.own
   have hlen3 : (bts ++ [T] ++ tol n).length ≤ 549755813889 + 16777216 := by
    rw [List.length_append, List.length_append, List.length_singleton]
    have := tol_le (n := n) (by omega)
    omega
   have RL := HJ.out.2.row.grown J3.g
   have hsz3 := J3.g.size
   have H3 : Hid _ := And.intro J3 B3
   generalize hP : bts ++ [T] ++ tol n = P at *
   have HP : Hid _ := hP
   clear ht J3 K3 B3 H2 hP b0 b1 b2
   simp only
   go_wp2_with (at_builtin; refine wpList_append8 rfl _ _ 22 rfl w.heap.size i5 Try.underlying22 hi hz0 hz1 hz2 _ P.length (bv P) rfl hown _ n sc _ rfl RL HJ.out.2.nil (by omega) hsz3 ?_)
   intro v4 w4 o4 g4
   have J4 := H3.out.1.app o4 HJ.out.2.row.byt hll g4
   have B4 := (H3.out.1.kb g4) _ _ H3.out.2
   obtain ⟨b0, b1, b2⟩ := B4.c3
   have H4 : Hid _ := And.intro J4 B4
   clear o4 g4 J4 B4 hown RL hsz3 H3 d0 d1 d2
   generalize hP4 : P ++ lit = P4 at *
   have hl4 : P4.length ≤ 549755813889 + 16777216 + 1048576 := by
    rw [← hP4, List.length_append, hll]; omega
   have HP4 : Hid _ := hP4
   clear hP4
   have J5 := H4.out.1.keep (World.grownBy_alloc w4 (.cells #[.int .u8 ((y : Int) % 256), .int .u8 ((y : Int) / 256)] 5) none)
   have hown := J5.own
   have hsz5 := J5.g.size
   have hb1 : (P4.length + 2) * 1 ≤ 140737488355328 := by omega
   have hb2 : P4.length + 2 ≤ maxLen := by unfold maxLen; omega
   have HJ5 : Hid _ := J5
   clear J5
   go_wp2_with (at_builtin; (refine wpList_append_own _ rfl _ _ 22 rfl w.heap.size 5 i5 (.int .u8 0) 1 1 Try.underlying22 hi hz0 hz1 hz2 rfl (by decide) _ P4.length _ rfl hown ⟨w4.heap.size, 0, none⟩ 2 2 [.int .u8 ((y : Int) % 256), .int .u8 ((y : Int) / 256)] rfl rfl (cell_two _ _ _ _) (by simp [Value.oneCell']) hb2 hb1 hsz5 ?_))
   intro v6 w6 o6 g6 _
   have J6 := HJ5.out.app (xs := [(y : Int) % 256, (y : Int) / 256]) (n := 2) o6 (by intro x hx; simp at hx; omega) rfl g6
   have ht6 := tell_any w w6 v6 _ ((m : Int) - 4) J6 (by omega) (by rw [List.length_append]; simp; omega)
   clear J6 o6 g6 hown hsz5 HJ5 H4 b0 b1 b2
   go_wp2_with fail
   refine ht6.mono ?_
   rintro e w7 ⟨v7, rfl, J7, K7⟩
   have HJ7 : Hid _ := J7
   clear ht6 J7 K7
   simp only
   go_wp2
   go_ret
   refine ⟨_, rfl, ?_⟩
   have := HJ7.out
   rw [← HP4.out, ← HP.out, HT.out] at this
   unfold jbytes
   simpa [List.append_assoc, hll] using this
end Go.Proofs.Ytkkigpobhagnfaa
namespace Go.Proofs.Ytkkigpobhagnfaa
open Go.ChangeShapes Go.WideShapes Go.RowKit Go.Joins
set_option maxRecDepth 100000
set_option linter.unusedVariables false
theorem Try.cells3 : Try.prog.cellsOf 3 = 1 := by kernel_rfl
theorem Try.cellsBs : Try.prog.cellsOf 22 = 1 := by kernel_rfl
theorem Try.cells5 : Try.prog.cellsOf 5 = 1 := by kernel_rfl
theorem row_of_trod {H : Type} {enc : TypeId × Value → H} {w : World} {fuel : Nat} {v : Value} {x : DataW H × List MemPlace} (h : DataW.trod enc Try.prog w 0 (fun _ => true) true fuel 22 [v] = some x) :
  ∃ a len cap zs, v = .slice a len cap ∧ IsRow .u8 w a len cap zs := by
 rcases open_ints Try.underlying22 Try.underlying5 Try.cells5 h with ⟨hcs, _⟩ | ⟨y, l, c, zs, hcs, _, hl, hm, hz, _, hcell, hwz⟩
 ·simp at hcs
  exact ⟨none, 0, 0, [], hcs, .inl ⟨rfl, rfl, rfl, rfl⟩⟩
 ·simp at hcs
  exact ⟨some y, l, c, zs, hcs, .inr ⟨_, rfl, hl, hm, by simpa using hz, hcell, hwz⟩⟩
theorem Try.cellsSeq : Try.prog.cellsOf 116 = 3 := by kernel_rfl
theorem list3 {α : Type} {l : List α} (h : l.length = 3) : ∃ a b c, l = [a, b, c] := by
 match l, h with
 | [a, b, c], _ => exact ⟨a, b, c, rfl⟩
theorem trod_three {H : Type} {enc : TypeId × Value → H} {w : World} {t : TypeId} {f0 f1 f2 : Field} {fuel : Nat} {cs : List Value} {x : DataW H × List MemPlace} (ht : Try.prog.underlying t = some (.struct #[f0, f1, f2])) (h : DataW.trod enc Try.prog w 0 (fun _ => true) true fuel t cs = some x) :
  ∃ y0 y1 y2 n, DataW.trod enc Try.prog w 0 (fun _ => true) true n f0.type ((cs.drop f0.offset).take (Try.prog.cellsOf f0.type)) = some y0 ∧ DataW.trod enc Try.prog w 0 (fun _ => true) true n f1.type ((cs.drop f1.offset).take (Try.prog.cellsOf f1.type)) = some y1 ∧
   DataW.trod enc Try.prog w 0 (fun _ => true) true n f2.type ((cs.drop f2.offset).take (Try.prog.cellsOf f2.type)) = some y2 := by
 obtain ⟨xs, n, _, rfl, hl, hlen, hf⟩ := DataW.trod_struct ht h
 match xs, hlen with
 | [y0, y1, y2], _ => exact ⟨y0, y1, y2, n, by simpa using hf 0 f0 rfl, by simpa using hf 1 f1 rfl, by simpa using hf 2 f2 rfl⟩
def Bnd (q : Sq) : Prop := (-9223372036854775808 ≤ q.2.1 ∧ q.2.1 ≤ 9223372036854775807) ∧ (-9223372036854775808 ≤ q.2.2 ∧ q.2.2 ≤ 9223372036854775807)
structure SqAt (w : World) (b off i : Nat) (s : SqV × Sq) : Prop where
 c0 : w.cell? ⟨b, off + i * 3, none⟩ = some (.slice s.1.a s.1.n s.1.c)
 c1 : w.cell? ⟨b, off + i * 3 + 1, none⟩ = some (.int .i64 s.1.off)
 c2 : w.cell? ⟨b, off + i * 3 + 2, none⟩ = some (.int .i64 s.1.m)
 ok : SqOk w s.1 s.2
 bnd : Bnd s.2
theorem sq_of_trod {H : Type} {enc : TypeId × Value → H} {w : World} {n : Nat} {cs : List Value} {x : DataW H × List MemPlace} {b off i : Nat} (hl : cs.length = 3) (hc : ∀ t, t < 3 → w.cell? ⟨b, off + i * 3 + t, none⟩ = cs[t]?)
  (h : DataW.trod enc Try.prog w 0 (fun _ => true) true n 116 cs = some x) : ∃ s : SqV × Sq, SqAt w b off i s := by
 obtain ⟨x0, x1, x2, rfl⟩ := list3 hl
 obtain ⟨y0, y1, y2, m, h0, h1, h2⟩ := trod_three Try.underlying116 h
 simp only [Try.cells3, Try.cellsBs, List.drop_zero, List.drop_succ_cons, List.take_succ_cons, List.take_zero] at h0 h1 h2
 obtain ⟨a, len, cap, zs, e0, hr⟩ := row_of_trod h0
 obtain ⟨d, e1, _, w1⟩ := DataW.trod_int Try.underlying3 h1
 obtain ⟨k, e2, _, w2⟩ := DataW.trod_int Try.underlying3 h2
 simp only [List.cons.injEq, and_true] at e1 e2
 subst e0 e1 e2
 refine ⟨(⟨a, len, cap, d, k⟩, (zs.take len, d, k)), hc 0 (by omega), hc 1 (by omega), hc 2 (by omega), ⟨hr.row, rfl, rfl, hr.nilcap, ?_, ?_⟩, wf_i64 w1, wf_i64 w2⟩
 ·rcases hr with ⟨rfl, rfl, rfl, rfl⟩ | ⟨y, rfl, h, _⟩
  ·exact Nat.le_refl _
  ·exact h
 ·rcases hr with ⟨rfl, rfl, rfl, rfl⟩ | ⟨y, rfl, _, h, _⟩
  ·exact Nat.zero_le _
  ·exact h
theorem sqs_range {w : World} (f : Nat → SqV × Sq) (n : Nat) (h : ∀ i, i < n → SqOk w (f i).1 (f i).2) : Sqs w ((List.range n).map fun i => (f i).1) ((List.range n).map fun i => (f i).2) := by
 induction n with
 | zero => exact .nil
 | succ n ih =>
  rw [List.range_succ, List.map_append, List.map_append]
  exact .snoc (ih fun i hi => h i (by omega)) (h n (by omega))
/-- sequences that came in -/
structure SArg (w : World) (a : Option Addr) (len : Nat) (ss : List SqV) (qs : List Sq) : Prop where
 row : SRow w a len ss
 sqs : Sqs w ss qs
 bnd : ∀ q ∈ qs, Bnd q
theorem seqs_of_trod {H : Type} {enc : TypeId × Value → H} {w : World} {fuel : Nat} {a : Option Addr} {len cap : Nat} {x : DataW H × List MemPlace} (h : DataW.trod enc Try.prog w 0 (fun _ => true) true fuel 96 [.slice a len cap] = some x) :
  ∃ ss qs, SArg w a len ss qs := by
 rcases Deep.open_slice Try.underlying96 h with ⟨hcs, _⟩ | ⟨y, l, c, m, n, D, Pl, hcs, _, hl, hm, hmm, _, hel⟩
 ·simp at hcs
  obtain ⟨rfl, rfl, rfl⟩ := hcs
  exact ⟨[], [], ⟨rfl, Nat.zero_le _, fun h => absurd h (by omega)⟩, .nil, fun q hq => by cases hq⟩
 ·simp at hcs
  obtain ⟨rfl, rfl, rfl⟩ := hcs
  simp only [if_true] at hmm
  subst hmm
  rcases Nat.eq_zero_or_pos len with rfl | h0
  ·exact ⟨[], [], ⟨rfl, Nat.zero_le _, fun h => absurd h (by omega)⟩, .nil, fun q hq => by cases hq⟩
  ·obtain ⟨b, off, spot⟩ := y
   rw [Try.cellsSeq] at hel
   have hspot : spot = none := by
    obtain ⟨cs, h1, _⟩ := hel 0 (by omega)
    obtain ⟨_, hl4, hc⟩ := World.cells?_some h1
    have := hc 0 (by omega)
    obtain ⟨x0, x1, x2, rfl⟩ := list3 hl4
    have h2 : w.cell? ((Addr.add ⟨b, off, spot⟩ (0 * 3)).add 0) = some x0 := this
    simpa [Addr.add] using World.cell?_spot h2
   subst hspot
   have hadd : ∀ i t, ((⟨b, off, none⟩ : Addr).add (i * 3)).add t = ⟨b, off + i * 3 + t, none⟩ := by
    intro i t
    have e : ∀ o k, (⟨b, o, none⟩ : Addr).add k = ⟨b, o + k, none⟩ := by intro o k; unfold Addr.add; split <;> simp_all
    rw [e, e]
   obtain ⟨A, hA⟩ := @Deep.choose_lt (SqV × Sq) ⟨(⟨none, 0, 0, 0, 0⟩, ([], 0, 0))⟩ len (fun i A => SqAt w b off i A) (fun i hi => by
    obtain ⟨cs, h1, h2⟩ := hel i (by omega)
    obtain ⟨_, hl4, hc⟩ := World.cells?_some h1
    exact sq_of_trod hl4 (fun t ht => by rw [← hadd]; exact hc t ht) h2)
   refine ⟨(List.range len).map fun i => (A i).1, (List.range len).map fun i => (A i).2, ⟨by simp, by omega, fun _ => ⟨b, off, rfl, fun i s hi => ?_⟩⟩, sqs_range A len (fun i hi => (hA i hi).ok), fun q hq => ?_⟩
   ·have hil : i < len := by have := (List.getElem?_eq_some_iff.1 hi).1; simpa using this
    simp [hil] at hi
    subst hi
    exact ⟨(hA i hil).c0, (hA i hil).c1, (hA i hil).c2⟩
   ·simp at hq
    obtain ⟨i, hi, rfl⟩ := hq
    exact (hA i hi).bnd
end Go.Proofs.Ytkkigpobhagnfaa
namespace Go.Proofs.Ytkkigpobhagnfaa
open Go.RowKit
set_option maxRecDepth 100000
set_option linter.unusedSimpArgs false
set_option linter.unusedVariables false
/-- what is wrong with the first of sequences -/
def jonE : List Sq → Int → Int
 | [], _ => 0
 | q :: r, size => if jerr r.isEmpty size q = 0 then jonE r (size + q.1.length + q.2.2) else jerr r.isEmpty size q
theorem jon_err (qs : List Sq) (size : Int) (b : List Int) : (jon qs size b).2 = jonE qs size := by
 induction qs generalizing size b with
 | nil => rfl
 | cons q r ih =>
  rw [jon, jonE]
  split
  ·exact ih _ _
  ·rfl
/-- sequences of moderate literals -/
structure SMod (w : World) (a : Option Addr) (len : Nat) (ss : List SqV) (qs : List Sq) : Prop where
 arg : SArg w a len ss qs
 lit : ∀ q ∈ qs, q.1.length ≤ 16777216
 le : len ≤ 16777216
theorem drop_at {qs : List Sq} {j : Nat} {q : Sq} (h : qs[j]? = some q) : qs.drop j = q :: qs.drop (j + 1) := by
 obtain ⟨h1, h2⟩ := List.getElem?_eq_some_iff.1 h
 rw [List.drop_eq_getElem_cons h1, h2]
theorem empty_at (qs : List Sq) (j : Nat) : (qs.drop (j + 1)).isEmpty = decide (qs.length ≤ j + 1) := by
 by_cases h : qs.length ≤ j + 1
 ·rw [List.drop_eq_nil_of_le h, decide_eq_true h]; rfl
 ·rw [decide_eq_false h, List.drop_eq_getElem_cons (by omega)]; rfl

set_option maxRecDepth 4000 in
set_option maxHeartbeats 2000000 in
theorem check_any (a : Option Addr) (len cap : Nat) (ss : List SqV) (qs : List Sq) (w : World) (M : SMod w a len ss qs) :
  Calls Try.prog 75 #[.slice a len cap] w fun e w' => e = .returned (.int .i64 (join qs).2) ∧ w.grownBy w' none := by
 have hsl := M.arg.row.len_eq
 have hql := M.arg.sqs.len
 have hle := M.le
 by_cases h0 : len = 0
 ·subst h0
  obtain rfl : qs = [] := List.eq_nil_of_length_eq_zero (by omega)
  go_enter Try.func75, Try.ntmps75
  go_wp2
  go_ret
  exact ⟨rfl, World.grownBy.refl _ _⟩
 ·have hj0 : (join qs).2 = jonE qs 0 := by
   unfold join
   rw [if_neg (by rw [List.isEmpty_iff]; intro e; have := congrArg List.length e; simp only [List.length_nil] at this; omega), jon_err]
  rw [hj0]
  have HQ : Hid (qs.length = len) := by show qs.length = len; omega
  have HM : Hid _ := M
  clear M hj0 hql hsl
  go_enter Try.func75, Try.ntmps75
  go_wp2_with fail
  go_loopw [3, 12] (fun vl vi wr => ∃ (j : Nat) (size : Int), vi = .int .i64 j ∧ vl = .int .i64 (1048576 - size) ∧ 0 ≤ size ∧ size ≤ 1048576 ∧ j ≤ len ∧ Hid (w.grownBy wr none) ∧ Hid (jonE (qs.drop j) size = jonE qs 0)) (fun _ vi _ => len - (intOf vi).toNat)
  case atStart => exact ⟨0, 0, rfl, rfl, by omega, by omega, by omega, World.grownBy.refl _ _, rfl⟩
  case round =>
   obtain ⟨j, size, rfl, rfl, hs0, hs1, hj, HG, HE⟩ := hrel
   by_cases k1 : j < len
   ·obtain ⟨s, q, hs, hq, ok⟩ := (HM.out.arg.sqs.grown HG.out).get j (by rw [HM.out.arg.row.len_eq]; exact k1)
    obtain ⟨ba, oa, rfl, ha⟩ := (HM.out.arg.row.grown HG.out).cells (by omega)
    obtain ⟨x0, x1, x2⟩ := ha j s hs
    have hqm : q ∈ qs := List.mem_of_getElem? hq
    have hbnd := HM.out.arg.bnd q hqm
    have hlit := HM.out.lit q hqm
    have hd := drop_at hq
    have hem := empty_at qs j
    have he := HE.out
    rw [hd] at he
    clear HE
    obtain ⟨lit, o0, m0⟩ := q
    obtain ⟨sa, n, sc, o, m⟩ := s
    have e1 := ok.off
    have e2 := ok.m
    have hll := ok.row.len_eq
    simp only at e1 e2 hll hlit x0 x1 x2
    subst e1 e2
    rw [HQ.out] at hem
    obtain ⟨hb1, hb2⟩ := hbnd
    simp only at hb1 hb2
    have HE : Hid _ := he
    rw [hll] at hlit
    clear hd he ok hs hq hqm ha
    by_cases hlast : j + 1 = len
    ·rw [decide_eq_true (by omega)] at hem
     have hnl : ((j : Int) == (len : Int) - 1) = true := by simp; omega
     have HEm : Hid _ := hem
     clear hem
     by_cases c1 : o = 0
     ·subst c1
      by_cases c2 : m = 0
      ·subst c2
       by_cases c3 : 1048576 - size < n
       ·have ej : jerr true size (lit, 0, 0) = 2 := by
         unfold jerr
         rw [if_neg (by simp), if_neg (by simp only; omega), if_pos (by left; simp only [hll]; omega)]
        have he := HE.out
        rw [jonE, HEm.out, ej, if_neg (by decide)] at he
        have HF : Hid _ := he
        clear he HE ej
        go_wp2
        go_ret
        refine ⟨?_, grown_trans HG.out (World.grownBy_alloc _ _ _)⟩
        rw [← HF.out]
        rfl
       ·have ej : jerr true size (lit, 0, 0) = 0 := by
         unfold jerr
         rw [if_neg (by simp), if_neg (by simp only; omega), if_neg (by simp only [hll]; omega)]
        have he := HE.out
        rw [jonE, HEm.out, ej, if_pos rfl] at he
        simp only [hll] at he
        have HF : Hid _ := he
        have HG2 : Hid (w.grownBy (wr.alloc (.cells #[.slice sa n sc, .int .i64 0, .int .i64 0] 116)) none) := grown_trans HG.out (World.grownBy_alloc _ _ _)
        clear he HE ej HG
        go_wp2
        go_roundw
        case rel => exact ⟨j + 1, size + n + 0, by go_num, by go_num, by omega, by omega, by omega, HG2, HF⟩
        case measure => simp [intOf]; omega
      ·have c2' : (m == 0) = false := by simp [c2]
       have ej : jerr true size (lit, 0, m) = 1 := by
        unfold jerr
        rw [if_pos (by left; exact ⟨rfl, Or.inr c2⟩)]
       have he := HE.out
       rw [jonE, HEm.out, ej, if_neg (by decide)] at he
       have HF : Hid _ := he
       clear he HE ej
       go_wp2
       go_ret
       refine ⟨?_, grown_trans HG.out (World.grownBy_alloc _ _ _)⟩
       rw [← HF.out]
       rfl
     ·have c1' : (o == 0) = false := by simp [c1]
      have ej : jerr true size (lit, o, m) = 1 := by
       unfold jerr
       rw [if_pos (by left; exact ⟨rfl, Or.inl c1⟩)]
      have he := HE.out
      rw [jonE, HEm.out, ej, if_neg (by decide)] at he
      have HF : Hid _ := he
      clear he HE ej
      go_wp2
      go_ret
      refine ⟨?_, grown_trans HG.out (World.grownBy_alloc _ _ _)⟩
      rw [← HF.out]
      rfl
    ·rw [decide_eq_false (by omega)] at hem
     have hnl : ((j : Int) == (len : Int) - 1) = false := by simp; omega
     have HEm : Hid _ := hem
     clear hem
     by_cases c1 : o < 1
     ·have ej : jerr false size (lit, o, m) = 1 := by
       unfold jerr
       rw [if_pos (by right; exact ⟨rfl, Or.inl c1⟩)]
      have he := HE.out
      rw [jonE, HEm.out, ej, if_neg (by decide)] at he
      have HF : Hid _ := he
      clear he HE ej
      go_wp2
      go_ret
      refine ⟨?_, grown_trans HG.out (World.grownBy_alloc _ _ _)⟩
      rw [← HF.out]
      rfl
     ·by_cases c2 : 65535 < o
      ·have ej : jerr false size (lit, o, m) = 1 := by
        unfold jerr
        rw [if_pos (by right; exact ⟨rfl, Or.inr (Or.inl c2)⟩)]
       have he := HE.out
       rw [jonE, HEm.out, ej, if_neg (by decide)] at he
       have HF : Hid _ := he
       clear he HE ej
       go_wp2
       go_ret
       refine ⟨?_, grown_trans HG.out (World.grownBy_alloc _ _ _)⟩
       rw [← HF.out]
       rfl
      ·by_cases c3 : m < 4
       ·have ej : jerr false size (lit, o, m) = 1 := by
         unfold jerr
         rw [if_pos (by right; exact ⟨rfl, Or.inr (Or.inr c3)⟩)]
        have he := HE.out
        rw [jonE, HEm.out, ej, if_neg (by decide)] at he
        have HF : Hid _ := he
        clear he HE ej
        go_wp2
        go_ret
        refine ⟨?_, grown_trans HG.out (World.grownBy_alloc _ _ _)⟩
        rw [← HF.out]
        rfl
       ·by_cases c4 : size + n < o
        ·have ej : jerr false size (lit, o, m) = 9 := by
          unfold jerr
          rw [if_neg (by simp; omega), if_pos (by simp only [hll]; omega)]
         have he := HE.out
         rw [jonE, HEm.out, ej, if_neg (by decide)] at he
         have HF : Hid _ := he
         clear he HE ej
         go_wp2
         go_ret
         refine ⟨?_, grown_trans HG.out (World.grownBy_alloc _ _ _)⟩
         rw [← HF.out]
         rfl
        ·by_cases c5 : 1048576 - size - n < m
         ·have ej : jerr false size (lit, o, m) = 2 := by
           unfold jerr
           rw [if_neg (by simp; omega), if_neg (by simp only [hll]; omega), if_pos (by right; simp only [hll]; omega)]
          have he := HE.out
          rw [jonE, HEm.out, ej, if_neg (by decide)] at he
          have HF : Hid _ := he
          clear he HE ej
          go_wp2
          go_ret
          refine ⟨?_, grown_trans HG.out (World.grownBy_alloc _ _ _)⟩
          rw [← HF.out]
          rfl
         ·have ej : jerr false size (lit, o, m) = 0 := by
           unfold jerr
           rw [if_neg (by simp; omega), if_neg (by simp only [hll]; omega), if_neg (by simp only [hll]; omega)]
          have he := HE.out
          rw [jonE, HEm.out, ej, if_pos rfl] at he
          simp only [hll] at he
          have HF : Hid _ := he
          have HG2 : Hid (w.grownBy (wr.alloc (.cells #[.slice sa n sc, .int .i64 o, .int .i64 m] 116)) none) := grown_trans HG.out (World.grownBy_alloc _ _ _)
          clear he HE ej HG
          go_wp2
          go_roundw
          case rel => exact ⟨j + 1, size + n + m, by go_num, by go_num, by omega, by omega, by omega, HG2, HF⟩
          case measure => simp [intOf]; omega
   ·obtain rfl : j = len := by omega
    have he := HE.out
    rw [List.drop_eq_nil_of_le (by rw [HQ.out]; exact Nat.le_refl _)] at he
    have HF : Hid _ := he
    have hg := HG.out
    clear he HE HM
    go_wp2
    go_ret
    exact ⟨by rw [← HF.out]; rfl, hg⟩
end Go.Proofs.Ytkkigpobhagnfaa
