/- The walk of PartMakes. -/
import Derived.Test.YtckjlkdjlpfdmaaWB
namespace Go.Proofs.Ytckjlkdjlpfdmaa
open Go.RowKit
set_option linter.unusedSimpArgs false
set_option linter.unusedVariables false

theorem bx3 {W : World} {g : Nat} {T : TypeId} {x y z : Value} (h : Bx W g T [x, y, z]) : W.cell? ⟨g, 0, none⟩ = some x ∧ W.cell? ⟨g, 1, none⟩ = some y ∧ W.cell? ⟨g, 2, none⟩ = some z := ⟨h.c 0, h.c 1, h.c 2⟩
theorem bx8 {W : World} {g : Nat} {T : TypeId} {a b c d e f i j : Value} (h : Bx W g T [a, b, c, d, e, f, i, j]) : W.cell? ⟨g, 0, none⟩ = some a ∧ W.cell? ⟨g, 1, none⟩ = some b ∧ W.cell? ⟨g, 2, none⟩ = some c ∧ W.cell? ⟨g, 3, none⟩ = some d ∧ W.cell? ⟨g, 4, none⟩ = some e ∧ W.cell? ⟨g, 5, none⟩ = some f ∧ W.cell? ⟨g, 6, none⟩ = some i ∧ W.cell? ⟨g, 7, none⟩ = some j := ⟨h.c 0, h.c 1, h.c 2, h.c 3, h.c 4, h.c 5, h.c 6, h.c 7⟩
set_option maxHeartbeats 2000000 in
theorem partMakes_walk (s p b : Int) (Q : Pl) (w : World) (hs : bnd64 s) (hp : bnd64 p) (hb : bnd64 b) (hQ : Q.ok) :
    Calls Try.prog 3 #[.agg #[.int .i64 s, .int .i64 p, .int .i64 b], Q.val] w fun e w' => e = .returned (.bool true) ∧ Below w.heap.size w w' := by
  have h1 := fun W => pmake_any s p b W hs hp hb
  have h2 := fun W => make_any s p b W hs hp hb
  have h3 := fun W => right_any Q W hQ
  have h4 := fun W => pcheck_any Q W hQ
  obtain ⟨m1, m2, m3⟩ := mk_ok s p b
  have h5 := fun W => pcheck_any (mk s p b).1 W m1
  have h6 := fun W => plan_ne (mk s p b).1 (mk s p b).1 W m1 m1
  rw [Pl.same_self] at h6
  have HL : Hid (∀ W : World, Calls Try.prog 11 #[] W fun e w' => e = .returned (.bool true) ∧ W.grownBy w' none) := fun W => live_any W
  have hq : pchk Q = if rgt Q = true then 0 else 1 := rfl
  have hq5 : pchk (mk s p b).1 = if (mk s p b).2 = 0 then 0 else 1 := by
    unfold pchk
    by_cases c : (mk s p b).2 = 0
    · rw [if_pos c, if_pos (m3.2 c)]
    · rw [if_neg c, if_neg (fun k => c (m3.1 k))]
  rw [hq] at h4
  rw [hq5] at h5
  obtain ⟨qs, qp, qb, q0, q1, q2, q3, qn⟩ := Q
  generalize hM : mk s p b = M at *
  obtain ⟨⟨ps, pp, pb, p0, p1, p2, p3, pn⟩, pe⟩ := M
  simp only [Pl.val] at *
  generalize rgt ⟨qs, qp, qb, q0, q1, q2, q3, qn⟩ = rq at *
  have A0 := (Bx.new w 23 [.int .i64 s, .int .i64 p, .int .i64 b]).kept (World.grownBy_alloc _ (.cells #[.int .i64 qs, .int .i64 qp, .int .i64 qb, .int .i64 q0, .int .i64 q1, .int .i64 q2, .int .i64 q3, .int .i64 qn] 26) none)
  have B0 := Bx.new (w.alloc (.cells #[.int .i64 s, .int .i64 p, .int .i64 b] 23)) 26 [.int .i64 qs, .int .i64 qp, .int .i64 qb, .int .i64 q0, .int .i64 q1, .int .i64 q2, .int .i64 q3, .int .i64 qn]
  have G0 := grown_trans (World.grownBy_alloc w (.cells #[.int .i64 s, .int .i64 p, .int .i64 b] 23) none) (World.grownBy_alloc _ (.cells #[.int .i64 qs, .int .i64 qp, .int .i64 qb, .int .i64 q0, .int .i64 q1, .int .i64 q2, .int .i64 q3, .int .i64 qn] 26) none)
  rw [show (w.alloc (.cells #[.int .i64 s, .int .i64 p, .int .i64 b] 23)).heap.size = w.heap.size + 1 by simp] at B0
  have H0 : Hid _ := And.intro A0 (And.intro B0 G0)
  have hp0 : bnd64 pe := m2
  have HM : Hid _ := m3
  clear A0 B0 G0 m1 m2 m3 hq hq5 hM hQ hs hp hb
  go_enter Try.func3, Try.ntmps3
  go_wp2_with fail
  refine (h1 _).mono ?_
  rintro e w1 ⟨rfl, g1⟩
  have A1 := (H0.out.1.kept g1).kept (World.grownBy_alloc _ (.cells #[.int .i64 ps, .int .i64 pp, .int .i64 pb, .int .i64 p0, .int .i64 p1, .int .i64 p2, .int .i64 p3, .int .i64 pn] 26) none)
  have B1 := (H0.out.2.1.kept g1).kept (World.grownBy_alloc _ (.cells #[.int .i64 ps, .int .i64 pp, .int .i64 pb, .int .i64 p0, .int .i64 p1, .int .i64 p2, .int .i64 p3, .int .i64 pn] 26) none)
  have P1 := Bx.new w1 26 [.int .i64 ps, .int .i64 pp, .int .i64 pb, .int .i64 p0, .int .i64 p1, .int .i64 p2, .int .i64 p3, .int .i64 pn]
  have G1 := grown_trans (grown_trans H0.out.2.2 g1) (World.grownBy_alloc _ (.cells #[.int .i64 ps, .int .i64 pp, .int .i64 pb, .int .i64 p0, .int .i64 p1, .int .i64 p2, .int .i64 p3, .int .i64 pn] 26) none)
  obtain ⟨a0, a1, a2⟩ := bx3 A1
  have H1 : Hid _ := And.intro B1 (And.intro P1 G1)
  clear A1 B1 P1 G1 g1 h1 H0
  simp only
  go_wp2_with fail
  refine (h2 _).mono ?_
  rintro e w2 ⟨rfl, g2⟩
  have B2 := (H1.out.1.kept g2).kept (World.grownBy_alloc _ (.cells #[.int .i64 ps, .int .i64 pp, .int .i64 pb, .int .i64 p0, .int .i64 p1, .int .i64 p2, .int .i64 p3, .int .i64 pn] 26) none)
  have P2 := (H1.out.2.1.kept g2).kept (World.grownBy_alloc _ (.cells #[.int .i64 ps, .int .i64 pp, .int .i64 pb, .int .i64 p0, .int .i64 p1, .int .i64 p2, .int .i64 p3, .int .i64 pn] 26) none)
  have R2 := Bx.new w2 26 [.int .i64 ps, .int .i64 pp, .int .i64 pb, .int .i64 p0, .int .i64 p1, .int .i64 p2, .int .i64 p3, .int .i64 pn]
  have G2 := grown_trans (grown_trans H1.out.2.2 g2) (World.grownBy_alloc _ (.cells #[.int .i64 ps, .int .i64 pp, .int .i64 pb, .int .i64 p0, .int .i64 p1, .int .i64 p2, .int .i64 p3, .int .i64 pn] 26) none)
  obtain ⟨b0, b1, b2, b3, b4, b5, b6, b7⟩ := bx8 B2
  obtain ⟨c0, c1, c2, c3, c4, c5, c6, c7⟩ := bx8 P2
  obtain ⟨d0, d1, d2, d3, d4, d5, d6, d7⟩ := bx8 R2
  have H2 : Hid _ := And.intro B2 (And.intro P2 G2)
  have HN : Hid _ := h6
  clear B2 P2 R2 G2 g2 h2 H1 a0 a1 a2 h6
  simp only
  have hnn : ∀ W, (binOp .neq 26 (Value.agg #[.int .i64 ps, .int .i64 pp, .int .i64 pb, .int .i64 p0, .int .i64 p1, .int .i64 p2, .int .i64 p3, .int .i64 pn]) (Value.agg #[.int .i64 ps, .int .i64 pp, .int .i64 pb, .int .i64 p0, .int .i64 p1, .int .i64 p2, .int .i64 p3, .int .i64 pn])).run Try.prog W = .ok (.bool false) W := fun W => HN.out W
  go_wp2_with (first | (go_at_call 8; with_reducible refine (num_any _ _).mono ?_; rintro e w' ⟨rfl, rfl⟩))
  refine (h3 _).mono ?_
  rintro e w3 ⟨rfl, g3⟩
  have B3 := H2.out.1.kept g3
  have P3 := H2.out.2.1.kept g3
  have G3 := grown_trans H2.out.2.2 g3
  have H3 : Hid _ := And.intro P3 G3
  clear b0 b1 b2 b3 b4 b5 b6 b7 c0 c1 c2 c3 c4 c5 c6 c7 d0 d1 d2 d3 d4 d5 d6 d7 hnn HN H2 P3 G3 g3 h3
  obtain ⟨b0, b1, b2, b3, b4, b5, b6, b7⟩ := bx8 B3
  clear B3
  generalize w.heap.size = gg at *
  generalize w1.heap.size = gp at *
  have hpb : -9223372036854775808 ≤ pe ∧ pe ≤ 9223372036854775807 := hp0
  cases rq
  all_goals
    simp only [if_true, if_false, Bool.false_eq_true, reduceIte] at h4
    simp only
    go_wp2_with fail
    refine (h4 _).mono ?_
    rintro e w4 ⟨rfl, g4⟩
    have P4 := H3.out.1.kept g4
    have H4 : Hid _ := grown_trans H3.out.2 g4
    obtain ⟨c0, c1, c2, c3, c4, c5, c6, c7⟩ := bx8 P4
    clear b0 b1 b2 b3 b4 b5 b6 b7 P4 g4 h4 H3
    simp only
    by_cases k : pe = 0
    · subst k
      simp only [if_true, reduceIte] at h5
      go_wp2_with (first | (go_at_call 8; with_reducible refine (num_any _ _).mono ?_; rintro e w' ⟨rfl, rfl⟩))
      refine (h5 _).mono ?_
      rintro e w5 ⟨rfl, g5⟩
      have H5 : Hid _ := grown_trans H4.out g5
      clear c0 c1 c2 c3 c4 c5 c6 c7 g5 h5 H4
      simp only
      go_wp2_with (first | (go_at_call 8; with_reducible refine (num_any _ _).mono ?_; rintro e w' ⟨rfl, rfl⟩) | (go_at_call 11; refine (HL.out _).mono ?_; rintro e w6 ⟨rfl, g6⟩; have H6 : Hid _ := grown_trans H5.out g6; clear g6))
      go_ret
      exact ⟨rfl, grown_below H6.out⟩
    · rw [if_neg k] at h5
      have k' : (pe == 0) = false := by simpa using k
      go_wp2_with (first | (go_at_call 8; with_reducible refine (num_any _ _).mono ?_; rintro e w' ⟨rfl, rfl⟩))
      refine (h5 _).mono ?_
      rintro e w5 ⟨rfl, g5⟩
      have H5 : Hid _ := grown_trans H4.out g5
      clear c0 c1 c2 c3 c4 c5 c6 c7 g5 h5 H4
      simp only
      go_wp2_with (first | (go_at_call 8; with_reducible refine (num_any _ _).mono ?_; rintro e w' ⟨rfl, rfl⟩) | (go_at_call 11; refine (HL.out _).mono ?_; rintro e w6 ⟨rfl, g6⟩; have H6 : Hid _ := grown_trans H5.out g6; clear g6))
      go_ret
      exact ⟨rfl, grown_below H6.out⟩
end Go.Proofs.Ytckjlkdjlpfdmaa
