/- The walk of BootFollows. -/
import Derived.Test.YtlbilpjlfelgdaaEC
namespace Go.Proofs.Ytlbilpjlfelgdaa
open Go.RowKit
set_option linter.unusedSimpArgs false
set_option linter.unusedVariables false

theorem rnx_ok {r : Rc} {slot n sum : Int} (hr : r.ok) (hs : in64 slot) (hn : in64 n) (hu : inU sum) : (rnx r slot n sum).1.ok ∧ ((rnx r slot n sum).2 = 0 ∧ (rnx r slot n sum).1.q = r.q + 1 ∧ rrt (rnx r slot n sum).1 = true ∨ (rnx r slot n sum).2 = 1 ∨ (rnx r slot n sum).2 = 2) := by
  have h0 : rc0.ok := by unfold Rc.ok rc0 inU in64; simp
  unfold rnx
  split
  · exact ⟨h0, Or.inr (Or.inl rfl)⟩
  · split
    · exact ⟨h0, Or.inr (Or.inl rfl)⟩
    · split
      · exact ⟨h0, Or.inr (Or.inr rfl)⟩
      · rename_i h1 h2 h3
        have h2' : rrt ⟨0, slot, n, sum⟩ = true := by simpa using h2
        have hk := rrt_iff.1 h2'
        have hq := hr.1
        unfold inU at hq
        refine ⟨⟨by unfold inU; simp only; omega, hs, hn, hu⟩, Or.inl ⟨rfl, rfl, ?_⟩⟩
        rw [rrt_iff]
        simp only at hk ⊢
        omega
/-- the three variables of the walk -/
structure Vs (w W : World) (gr gx : Nat) (cr cx : List Value) : Prop where
  r : Bx W gr 24 cr
  x : Bx W gx 24 cx
  gr' : w.grownBy W none
theorem Vs.keep {w W W' : World} {gr gx : Nat} {cr cx : List Value} (h : Vs w W gr gx cr cx) (k : W.grownBy W' none) : Vs w W' gr gx cr cx := ⟨h.r.kept k, h.x.kept k, grown_trans h.gr' k⟩
set_option maxHeartbeats 4000000 in
theorem bootFollows_walk (r : Rc) (slot n sum : Int) (w : World) (hr : r.ok) (hs : in64 slot) (hn : in64 n) (hu : inU sum) :
    Calls Try.prog 6 #[r.val, .int .i64 slot, .int .i64 n, .int .u64 sum] w fun e w' => e = .returned (.bool true) ∧ Below w.heap.size w w' := by
  have HL : Hid (∀ W : World, Calls Try.prog 8 #[] W fun e w' => e = .returned (.bool true) ∧ W.grownBy w' none) := fun W => live_any W
  have h1 := fun W => pnext_any r slot n sum W hr.1
  have h2 := fun W => rnext_any r slot n sum W hr.1
  have h3 := fun W => rright_any r W
  have h4 := fun W => pencode_any r W hr
  obtain ⟨ok1, ok2⟩ := rnx_ok hr hs hn hu
  have h5 := fun W => pencode_any (rnx r slot n sum).1 W ok1
  have HC : Hid (∀ r t : Rc, rrt r = true → rrt t = true → r.ok → t.ok → rch (rby r) (rby t) = if r.q < t.q then (1, t, 0) else (0, r, 0)) := fun r t a b c d => rch_two a b c.1.1 d.1.1 c.2.2.2 d.2.2.2
  generalize rnx r slot n sum = X at *
  obtain ⟨⟨xq, xs, xl, xu⟩, xe⟩ := X
  obtain ⟨q, s, l, u⟩ := r
  have hne := rec_ne_self ok1
  have heq := rec_eql_self ok1
  have HO : Hid _ := And.intro hr ok1
  simp only at ok2
  have hxe : 0 ≤ xe ∧ xe ≤ 2 := by omega
  simp only [Rc.val] at h1 h2 h3 h4 h5 ⊢
  have A0 := Bx.new w 24 [.int .u64 q, .int .i64 s, .int .i64 l, .int .u64 u]
  have G0 := World.grownBy_alloc w (.cells #[.int .u64 q, .int .i64 s, .int .i64 l, .int .u64 u] 24) none
  have H0 : Hid _ := And.intro A0 G0
  obtain ⟨r0, r1, r2, r3⟩ := bx4 A0
  clear A0 G0 hr hs hn hu ok1
  go_enter Try.func6, Try.ntmps6
  go_wp2_with fail
  refine (h1 _).mono ?_
  rintro e w1 ⟨rfl, g1⟩
  have A1 := World.grownBy_alloc w1 (.cells #[.int .u64 xq, .int .i64 xs, .int .i64 xl, .int .u64 xu] 24) none
  have H1 : Hid (Vs w (w1.alloc (.cells #[.int .u64 xq, .int .i64 xs, .int .i64 xl, .int .u64 xu] 24)) w.heap.size w1.heap.size [.int .u64 q, .int .i64 s, .int .i64 l, .int .u64 u] [.int .u64 xq, .int .i64 xs, .int .i64 xl, .int .u64 xu]) := ⟨(H0.out.1.kept g1).kept A1, Bx.new w1 24 _, grown_trans (grown_trans H0.out.2 g1) A1⟩
  clear A1 g1 h1 H0 r0 r1 r2 r3
  obtain ⟨r0, r1, r2, r3⟩ := bx4 H1.out.r
  simp only
  go_wp2_with fail
  refine (h2 _).mono ?_
  rintro e w2 ⟨rfl, g2⟩
  have A2 := World.grownBy_alloc w2 (.cells #[.int .u64 xq, .int .i64 xs, .int .i64 xl, .int .u64 xu] 24) none
  have H2 : Hid _ := (H1.out.keep g2).keep A2
  have Y2 := Bx.new w2 24 [.int .u64 xq, .int .i64 xs, .int .i64 xl, .int .u64 xu]
  obtain ⟨y0, y1, y2, y3⟩ := bx4 Y2
  clear A2 g2 h2 H1 r0 r1 r2 r3 Y2
  obtain ⟨r0, r1, r2, r3⟩ := bx4 H2.out.r
  obtain ⟨x0, x1, x2, x3⟩ := bx4 H2.out.x
  simp only
  rcases ok2 with ⟨rfl, o2', o3'⟩ | ok2
  · have o2 : Hid _ := o2'
    have HO3 : Hid _ := o3'
    clear o2' o3'
    go_wp2_with (first | (go_at_call 11; with_reducible refine (num_any _ _).mono ?_; rintro e w' ⟨rfl, rfl⟩))
    refine (h3 _).mono ?_
    rintro e w3 ⟨rfl, g3⟩
    have H3 : Hid _ := H2.out.keep g3
    clear g3 h3 H2 r0 r1 r2 r3 x0 x1 x2 x3 y0 y1 y2 y3 hne
    obtain ⟨r0, r1, r2, r3⟩ := bx4 H3.out.r
    obtain ⟨x0, x1, x2, x3⟩ := bx4 H3.out.x
    cases hrr : rrt ⟨q, s, l, u⟩ with
    | false =>
      simp only
      go_wp2_with (first | (go_at_call 8; refine (HL.out _).mono ?_; rintro e wl ⟨rfl, gl⟩; have HF : Hid _ := grown_trans H3.out.gr' gl; clear gl))
      go_ret
      exact ⟨rfl, grown_below HF.out⟩
    | true =>
      have o3 := HO3.out
      have o2' := o2.out
      rw [ren_right hrr] at h4
      rw [ren_right o3] at h5
      have c1 := HC.out _ _ hrr o3 HO.out.1 HO.out.2
      have c2 := HC.out _ _ o3 hrr HO.out.2 HO.out.1
      rw [if_pos (by simp only at o2' ⊢; omega)] at c1
      rw [if_neg (by simp only at o2' ⊢; omega)] at c2
      have hc1 := fun a n c b m d W R e1 e2 e3 R2 e4 e5 e6 => pchoose_any a n c (rby ⟨q, s, l, u⟩) b m d (rby ⟨xq, xs, xl, xu⟩) W R e1 e2 e3 R2 e4 e5 e6
      have hc2 := fun a n c b m d W R e1 e2 e3 R2 e4 e5 e6 => pchoose_any a n c (rby ⟨xq, xs, xl, xu⟩) b m d (rby ⟨q, s, l, u⟩) W R e1 e2 e3 R2 e4 e5 e6
      rw [c1] at hc1
      rw [c2] at hc2
      simp only [Rc.val] at hc1 hc2
      have HH : Hid _ := And.intro hc1 (And.intro hc2 (And.intro (rby_byt hrr) (And.intro (rby_byt o3) (And.intro (rby_len ⟨q, s, l, u⟩) (rby_len ⟨xq, xs, xl, xu⟩)))))
      clear hc1 hc2 c1 c2 hrr o2 o2' o3 HO3 HC HO
      generalize rby ⟨q, s, l, u⟩ = b1 at *
      generalize rby ⟨xq, xs, xl, xu⟩ = b2 at *
      simp only
      go_wp2_with fail
      refine (h4 _).mono ?_
      intro e w4 k4
      obtain ⟨a4, m4, c4, rfl, o4, g4⟩ := k4
      have H4 : Hid _ := And.intro (H3.out.keep g4) o4
      obtain rfl : m4 = 32 := by have h := o4.1; simp only [bv_length] at h; have := HH.out.2.2.2.2.1; omega
      clear g4 h4 H3 r0 r1 r2 r3 x0 x1 x2 x3 o4
      obtain ⟨r0, r1, r2, r3⟩ := bx4 H4.out.1.r
      obtain ⟨x0, x1, x2, x3⟩ := bx4 H4.out.1.x
      simp only
      go_wp2_with fail
      refine (h5 _).mono ?_
      intro e w5 k5
      obtain ⟨a5, m5, c5, rfl, o5, g5⟩ := k5
      obtain rfl : m5 = 32 := by have h := o5.1; simp only [bv_length] at h; have := HH.out.2.2.2.2.2; omega
      obtain ⟨b1', d1, e1, R1, _, nc1, cm1⟩ := own_bytes (H4.out.2.kept g5 (by cases (Value.slice a4 32 c4).ownBlock <;> simp)) HH.out.2.2.1 (by unfold maxLen; omega)
      injection e1 with e1 _ e1'
      subst e1 e1'
      obtain ⟨b2', d2, e2, R2, _, nc2, cm2⟩ := own_bytes o5 HH.out.2.2.2.1 (by unfold maxLen; omega)
      injection e2 with e2 _ e2'
      subst e2 e2'
      have H5 : Hid _ := And.intro (H4.out.1.keep g5) (And.intro (And.intro R1 R2) (And.intro (And.intro nc1 cm1) (And.intro nc2 cm2)))
      clear g5 h5 H4 r0 r1 r2 r3 x0 x1 x2 x3 o5 R1 R2 nc1 nc2 cm1 cm2
      have k6 := HH.out.1 _ _ _ _ _ _ w5 H5.out.2.1.1 H5.out.2.2.1.1 H5.out.2.2.1.2 (by omega) H5.out.2.1.2 H5.out.2.2.2.1 H5.out.2.2.2.2 (by omega)
      simp only
      go_wp2_with fail
      refine k6.mono ?_
      rintro e w6 ⟨rfl, g6⟩
      have A6 := World.grownBy_alloc w6 (.cells #[.int .u64 xq, .int .i64 xs, .int .i64 xl, .int .u64 xu] 24) none
      have S6 := Bx.new w6 24 [.int .u64 xq, .int .i64 xs, .int .i64 xl, .int .u64 xu]
      have k7 := HH.out.2.1 _ _ _ _ _ _ _ ((H5.out.2.1.2.grown g6).grown A6) H5.out.2.2.2.1 H5.out.2.2.2.2 (by omega) ((H5.out.2.1.1.grown g6).grown A6) H5.out.2.2.1.1 H5.out.2.2.1.2 (by omega)
      have H6 : Hid _ := And.intro ((H5.out.1.keep g6).keep A6) S6
      clear k6 g6 A6 S6 H5 HH
      simp only
      go_wp2_with fail
      refine k7.mono ?_
      rintro e w7 ⟨rfl, g7⟩
      have A7 := World.grownBy_alloc w7 (.cells #[.int .u64 xq, .int .i64 xs, .int .i64 xl, .int .u64 xu] 24) none
      have T7 := Bx.new w7 24 [.int .u64 xq, .int .i64 xs, .int .i64 xl, .int .u64 xu]
      have S7 := (H6.out.2.kept g7).kept A7
      have V7 := (H6.out.1.keep g7).keep A7
      obtain ⟨t0, t1, t2, t3⟩ := bx4 T7
      obtain ⟨s0, s1, s2, s3⟩ := bx4 S7
      obtain ⟨x0, x1, x2, x3⟩ := bx4 V7.x
      have H7 : Hid _ := V7.gr'
      clear k7 g7 A7 T7 S7 V7 H6
      simp only
      go_wp2_with (first | (go_at_call 11; with_reducible refine (num_any _ _).mono ?_; rintro e w' ⟨rfl, rfl⟩) | (go_at_call 8; refine (HL.out _).mono ?_; rintro e wl ⟨rfl, gl⟩; have HF : Hid _ := grown_trans H7.out gl; clear gl))
      go_ret
      exact ⟨rfl, grown_below HF.out⟩
  · have hx0 : (xe == 0) = false := by rcases ok2 with rfl | rfl <;> rfl
    go_wp2_with (first | (go_at_call 11; with_reducible refine (num_any _ _).mono ?_; rintro e w' ⟨rfl, rfl⟩) | (go_at_call 8; refine (HL.out _).mono ?_; rintro e wl ⟨rfl, gl⟩; have HF : Hid _ := grown_trans H2.out.gr' gl; clear gl))
    go_ret
    exact ⟨rfl, grown_below HF.out⟩
end Go.Proofs.Ytlbilpjlfelgdaa
