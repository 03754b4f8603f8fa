/- The walk of FlashKeeps. -/
import Derived.Test.YtdefcfmnhfeblaaLH
import Derived.Test.YtdefcfmnhfeblaaAC
namespace Go.Proofs.Ytdefcfmnhfeblaa
open Go.RowKit
set_option linter.unusedSimpArgs false
set_option linter.unusedVariables false
attribute [local go_sem ↓] Go.wp_at_zero Go.wp_at_succ

set_option maxRecDepth 100000 in
set_option maxHeartbeats 2000000 in
theorem keeps_live (s p b : Int) (a1 : Option Addr) (len1 cap1 : Nat) (A : Ac) (a3 : Option Addr) (len3 cap3 : Nat) (w : World) (hs : -9223372036854775808 ≤ s ∧ s ≤ 9223372036854775807) (hp : -9223372036854775808 ≤ p ∧ p ≤ 9223372036854775807) (hb : -9223372036854775808 ≤ b ∧ b ≤ 9223372036854775807) (hl : len1 ≤ maxLen) (hC : ¬ (sml s p b = true ∧ chk s p b = 0 ∧ len1 ≤ 60)) :
    Calls Try.prog 5 #[.agg #[.int .i64 s, .int .i64 p, .int .i64 b], .slice a1 len1 cap1, A.val, .slice a3 len3 cap3] w fun e w' => e = .returned (.bool true) ∧ Below w.heap.size w w' := by
  have hsm : ∀ W, _ := fun W => small_any s p b W hs hp hb
  have hck : ∀ W, _ := fun W => check_any s p b W hs hp hb
  obtain ⟨d, at_, n, a, len, cap, xs⟩ := A
  unfold Ac.val
  simp only
  have h0 := (Box.new w 23 [.int .i64 s, .int .i64 p, .int .i64 b]).grown (World.grownBy_alloc _ (.cells #[.int .i64 d, .int .i64 at_, .int .i64 n, .slice a len cap] 45) none)
  have HG : Hid (w.grownBy ((w.alloc (.cells #[.int .i64 s, .int .i64 p, .int .i64 b] 23)).alloc (.cells #[.int .i64 d, .int .i64 at_, .int .i64 n, .slice a len cap] 45)) none) := grown2 _ _ _
  have H0 : Hid _ := h0
  unfold maxLen at hl
  clear h0 hs hp hb
  generalize sml s p b = S at *
  generalize chk s p b = E at *
  cases S with
  | false =>
    go_enter Try.func5, Try.ntmps5
    go_wp2_with fail
    refine (hsm _).mono ?_
    rintro e W1 ⟨rfl, hg1⟩
    have H1 : Hid _ := grown_trans HG.out hg1
    clear hg1 HG H0 hsm hck
    go_wp2_with (first | (go_at_call 9; refine (live_any _).mono ?_; rintro e w' ⟨rfl, hg'⟩; have s4 := hidG H1 hg'; clear hg'))
    go_ret
    exact ⟨rfl, grown_below s4.out⟩
  | true =>
    go_enter Try.func5, Try.ntmps5
    go_wp2_with fail
    refine (hsm _).mono ?_
    rintro e W1 ⟨rfl, hg1⟩
    have H1 : Hid _ := And.intro (grown_trans HG.out hg1) (H0.out.grown hg1)
    generalize hgg : w.heap.size = g at *
    have c0 : W1.cell? ⟨g, 0, none⟩ = some (.int .i64 s) := H1.out.2.c 0
    have c1 : W1.cell? ⟨g, 1, none⟩ = some (.int .i64 p) := H1.out.2.c 1
    have c2 : W1.cell? ⟨g, 2, none⟩ = some (.int .i64 b) := H1.out.2.c 2
    clear hg1 HG H0 hsm
    go_wp2_with fail
    refine (hck _).mono ?_
    rintro e W2 ⟨rfl, hw2⟩
    have H2 : Hid (w.grownBy W2 none) := grown_trans H1.out.1 (by rw [hw2]; exact World.grownBy_alloc _ _ _)
    clear hw2 hck H1 c0 c1 c2
    by_cases hE : E = 0
    · subst hE
      have hl2 : (60 : Int) < (len1 : Int) := by
        simp at hC
        omega
      go_wp2_with (first | (go_at_call 9; refine (live_any _).mono ?_; rintro e w' ⟨rfl, hg'⟩; have s4 := hidG H2 hg'; clear hg'))
      go_ret
      exact ⟨rfl, grown_below s4.out⟩
    · have hEb : (E != 0) = true := by simpa using hE
      clear hC
      go_wp2_with (first | (go_at_call 9; refine (live_any _).mono ?_; rintro e w' ⟨rfl, hg'⟩; have s4 := hidG H2 hg'; clear hg'))
      go_ret
      exact ⟨rfl, grown_below s4.out⟩
/-- behind the making of the flash in FlashKeeps -/
structure KS (w W : World) (g fb bb db wb : Nat) (s p b : Nat) (A : Ac) : Prop where
  bg : Box W g 23 [.int .i64 s, .int .i64 p, .int .i64 b]
  ba : Box W (g + 1) 45 [.int .i64 A.d, .int .i64 A.at_, .int .i64 A.n, .slice A.a A.len A.cap]
  ch : Chg (fun k => w.heap.size ≤ k) w W
  ft : ∀ k, foot fb bb db wb k → g + 1 < k
  eg : w.heap.size = g
theorem KS.step {w W W' : World} {g fb bb db wb : Nat} {s p b : Nat} {A : Ac} (h : KS w W g fb bb db wb s p b A) (hc : Chg (foot fb bb db wb) W W') : KS w W' g fb bb db wb s p b A := by
  have he := h.eg
  refine ⟨hc.box h.bg fun x => by have := h.ft _ x; omega, hc.box h.ba fun x => by have := h.ft _ x; omega, h.ch.trans (hc.mono fun k x => by have := h.ft _ x; omega), h.ft, he⟩
theorem KS.grown {w W W' : World} {g fb bb db wb : Nat} {s p b : Nat} {A : Ac} (h : KS w W g fb bb db wb s p b A) (hg : W.grownBy W' none) : KS w W' g fb bb db wb s p b A := h.step (Chg.of_none hg _)
theorem KS.below {w W : World} {g fb bb db wb : Nat} {s p b : Nat} {A : Ac} (h : KS w W g fb bb db wb s p b A) : Below w.heap.size w W := h.ch.below (Nat.le_refl _) fun k x => x
theorem KS.away {w W : World} {g fb bb db wb : Nat} {s p b : Nat} {A : Ac} (h : KS w W g fb bb db wb s p b A) {a : Option Addr} {xs : List Int} (R : Row w a xs.length xs) : ∀ b' o, a = some ⟨b', o, none⟩ → 0 < xs.length → ¬ foot fb bb db wb b' := by
  intro b' o e h0 x
  obtain ⟨b'', o'', e', hc⟩ := R.cells h0
  rw [e] at e'
  injection e' with e'
  injection e' with e1 e2
  subst e1
  have := cell_lt (hc 0 h0)
  have := h.ft _ x
  have := h.eg
  omega
set_option maxRecDepth 100000 in
set_option maxHeartbeats 80000000 in
theorem keeps_main (s p b : Nat) (a1 : Option Addr) (len1 cap1 : Nat) (Al : Nat → Ac) (A : Ac) (a3 : Option Addr) (cap3 : Nat) (ts : List Int) (w : World) (hs : 0 < s ∧ s ≤ 16) (hp : 0 < p ∧ p ≤ 16) (hb : 16 ≤ b ∧ b ≤ 64) (hck0 : chk s p b = 0) (hl : len1 ≤ 60) (hA : Acts w a1 len1 Al) (hA2 : A.ok w) (RT : Row w a3 ts.length ts) :
    Calls Try.prog 5 #[.agg #[.int .i64 s, .int .i64 p, .int .i64 b], .slice a1 len1 cap1, A.val, .slice a3 ts.length cap3] w fun e w' => e = .returned (.bool true) ∧ Below w.heap.size w w' := by
  have hsml : sml s p b = true := decide_eq_true (Or.inr (by omega))
  have hsm : ∀ W, _ := fun W => small_any s p b W (by omega) (by omega) (by omega)
  have hck : ∀ W, _ := fun W => check_any s p b W (by omega) (by omega) (by omega)
  rw [hsml] at hsm
  rw [hck0] at hck
  have h0 := (Box.new w 23 [.int .i64 s, .int .i64 p, .int .i64 b]).grown (World.grownBy_alloc _ (.cells #[.int .i64 A.d, .int .i64 A.at_, .int .i64 A.n, .slice A.a A.len A.cap] 45) none)
  have h00 : Box ((w.alloc (.cells #[.int .i64 s, .int .i64 p, .int .i64 b] 23)).alloc (.cells #[.int .i64 A.d, .int .i64 A.at_, .int .i64 A.n, .slice A.a A.len A.cap] 45)) (w.heap.size + 1) 45 [.int .i64 A.d, .int .i64 A.at_, .int .i64 A.n, .slice A.a A.len A.cap] := by
    have := Box.new (w.alloc (.cells #[.int .i64 s, .int .i64 p, .int .i64 b] 23)) 45 [.int .i64 A.d, .int .i64 A.at_, .int .i64 A.n, .slice A.a A.len A.cap]
    rw [show (w.alloc (.cells #[.int .i64 s, .int .i64 p, .int .i64 b] 23)).heap.size = w.heap.size + 1 by simp] at this
    exact this
  have hG : w.grownBy ((w.alloc (.cells #[.int .i64 s, .int .i64 p, .int .i64 b] 23)).alloc (.cells #[.int .i64 A.d, .int .i64 A.at_, .int .i64 A.n, .slice A.a A.len A.cap] 45)) none := grown2 _ _ _
  have H0 : Hid _ := And.intro h0 (And.intro h00 hG)
  have HA : Hid _ := And.intro hA (And.intro hA2 RT)
  have htl := RT.le
  unfold maxLen at htl
  clear h0 h00 hG hsml hA hA2 RT
  unfold Ac.val
  go_enter Try.func5, Try.ntmps5
  go_wp2_with fail
  refine (hsm _).mono ?_
  rintro e W1 ⟨rfl, hg1⟩
  have H1 : Hid _ := And.intro (H0.out.1.grown hg1) (And.intro (H0.out.2.1.grown hg1) (grown_trans H0.out.2.2 hg1))
  clear H0 hg1 hsm
  generalize hgg : w.heap.size = g at *
  have c0 : W1.cell? ⟨g, 0, none⟩ = some (.int .i64 s) := H1.out.1.c 0
  have c1 : W1.cell? ⟨g, 1, none⟩ = some (.int .i64 p) := H1.out.1.c 1
  have c2 : W1.cell? ⟨g, 2, none⟩ = some (.int .i64 b) := H1.out.1.c 2
  go_wp2_with fail
  refine (hck _).mono ?_
  rintro e W2 ⟨rfl, hw2⟩
  have hg2 : W1.grownBy W2 none := by rw [hw2]; exact World.grownBy_alloc _ _ _
  have H2 : Hid _ := And.intro (H1.out.1.grown hg2) (And.intro (H1.out.2.1.grown hg2) (grown_trans H1.out.2.2 hg2))
  clear c0 c1 c2 H1 hw2 hck hg2
  have c0 : W2.cell? ⟨g, 0, none⟩ = some (.int .i64 s) := H2.out.1.c 0
  have c1 : W2.cell? ⟨g, 1, none⟩ = some (.int .i64 p) := H2.out.1.c 1
  have c2 : W2.cell? ⟨g, 2, none⟩ = some (.int .i64 b) := H2.out.1.c 2
  go_wp2_with fail
  refine (prep_new s p b W2 (fun _ => False) hs hp hb).mono ?_
  rintro e W3 ⟨fb, bb, db, wb, rfl, hg3, hP3, hF3⟩
  have h3 : KS w W3 g fb bb db wb s p b A := by
    obtain ⟨b0, b1, gr⟩ := H2.out
    have := b1.lt
    exact ⟨b0.grown hg3, b1.grown hg3, Chg.of_none (grown_trans gr hg3) _, fun k x => by have := hF3 _ x; omega, hgg⟩
  have hn0 : ∀ W, _ := fun W => num_any 0 W (by decide)
  have HP : Hid _ := And.intro h3 hP3
  have HL : Hid _ := plain_new hs hp hb
  clear c0 c1 c2 H2 hg3 hP3 hF3 h3
  go_wp2_with (first | (go_at_call 11; with_reducible refine (hn0 _).mono ?_; rintro e w' ⟨rfl, rfl⟩))
  go_loopw [11] (fun vj wr => ∃ (j : Nat) (m : Fm), vj = .int .i64 j ∧ j ≤ len1 ∧ Hid (KS w wr g fb bb db wb s p b A ∧ PRep wr fb bb db wb m (fun _ => False) ∧ m.Plain s p b j)) (fun vj _ => len1 - (intOf vj).toNat)
  case atStart => exact ⟨0, _, rfl, Nat.zero_le _, HP.out.1, HP.out.2, HL.out⟩
  case round =>
    clear HP HL
    obtain ⟨j, m, rfl, j1, HI⟩ := hrel
    by_cases hj : j < len1
    · obtain ⟨lb, lo, rfl, hat⟩ := HA.out.1.at_ (by omega)
      have hact := (hat j hj).below HI.out.1.below
      have d0 := hact.c0
      have d1 := hact.c1
      have d3 := hact.c3
      have hd := (hat j hj).ok
      have HD : Hid _ := hd
      have HAT : Hid _ := hat j hj
      clear hat hact hd
      generalize hAj : Al j = B at *
      by_cases e1 : B.d = 1
      · rw [e1] at d0
        have q0 := HD.out.row
        have hxl := q0.len_eq
        have hW : ∀ W', (∃ k, W' = wr.drewN k) → Calls Try.prog 19 #[.pointer (some ⟨fb, 0, none⟩), .int .i64 B.at_, .slice B.a B.len B.cap] W' fun e w' => e = .returned (.int .i64 (m.write B.at_ B.xs).2) ∧ KS w w' g fb bb db wb s p b A ∧ PRep w' fb bb db wb (m.write B.at_ B.xs).1 (fun _ => False) := by
          rintro W' ⟨k, rfl⟩
          obtain ⟨hK, hP, hL⟩ := HI.out
          have hgk : wr.grownBy (wr.drewN k) none := grown_drewN (World.grownBy.refl _ _) k
          have hK' := hK.grown hgk
          have R0 := HD.out.row
          rw [← hxl] at R0 ⊢
          refine (prep_write (hP.grown hgk) hL.good (by omega) B.at_ B.a B.cap B.xs (R0.below hK'.below) (hK'.away R0)).mono ?_
          rintro e w' ⟨rfl, hc, hp'⟩
          exact ⟨rfl, hK'.step hc, hp'⟩
        have HW : Hid _ := hW
        clear hW q0 hxl
        go_wp2_with fail
        have hj' : (j : Int) < (len1 : Int) := by omega
        go_region_held3 (fun w' => w'.cell? ⟨lb, lo + j * 4 + 1, none⟩ = some (.int .i64 B.at_) ∧ w'.cell? ⟨lb, lo + j * 4 + 3, none⟩ = some (.slice B.a B.len B.cap)) (go_keep) (first | (go_at_call 19; refine (HW.out _ ⟨1, rfl⟩).mono ?_; rintro e W5 ⟨rfl, hK5, hP5⟩; have r1 := (HAT.out.below hK5.below).c1; have r3 := (HAT.out.below hK5.below).c3))
        go_wp2_with fail
        go_roundw
        case rel => exact ⟨j + 1, _, by go_num, by omega, hK5, hP5, plain_write HI.out.2.2 _ _⟩
        case measure => simp [intOf]; omega
      · by_cases e2 : B.d = 2
        · rw [e2] at d0
          obtain ⟨hK, hP, hL⟩ := HI.out
          have hE := prep_erase hP hL.good (by omega) B.at_
          clear hK hP hL
          go_wp2_with (first | (go_at_call 20; refine hE.mono ?_; rintro e W5 ⟨rfl, hc5, hP5⟩))
          have hK5 := HI.out.1.step hc5
          clear hc5
          go_wp2_with fail
          go_roundw
          case rel => exact ⟨j + 1, _, by go_num, by omega, hK5, hP5, plain_erase HI.out.2.2 _⟩
          case measure => simp [intOf]; omega
        · have e1' : (B.d == 1) = false := by simpa using e1
          have e2' : (B.d == 2) = false := by simpa using e2
          go_wp2_with fail
          go_roundw
          case rel => exact ⟨j + 1, m, by go_num, by omega, HI.out.1, HI.out.2.1, HI.out.2.2.mono (by omega)⟩
          case measure => simp [intOf]; omega
    · have ej : j = len1 := by omega
      subst ej
      obtain ⟨hK, hP, hL⟩ := HI.out
      have hL2 : m.B.length ≤ 16384 := by have := hL.good.spb; have := hL.good.lB; omega
      have hS4 := hP.size
      have hR4 := prep_read hP hL.good 0 (m.B.length : Int) (by decide) (by omega)
      have er0 : rdE m.B.length m.off 0 (m.B.length : Int) = 0 := by unfold rdE; rw [hL.off, if_neg (by omega), if_neg (by simp)]
      unfold PdPost at hR4
      rw [er0] at hR4
      clear er0 hK hP hL
      go_wp2_with (first | (go_at_call 22; refine hS4.mono ?_; rintro e w' ⟨rfl, rfl⟩))
      refine hR4.mono ?_
      rintro e W5 ⟨v5, rfl, hg5, ⟨x, _⟩ | ⟨_, ga, rfl, hga, hb5, _⟩⟩
      · exact absurd rfl x
      have eB : (m.B.drop (Int.toNat 0)).take (Int.toNat (m.B.length : Int)) = m.B := by simp
      rw [eB] at hb5
      simp only [Int.toNat_natCast]
      have hgf : ¬ foot fb bb db wb ga := fun x => by have := HI.out.2.1.lt _ x; omega
      have h5 : KS w W5 g fb bb db wb s p b A ∧ PRep W5 fb bb db wb m (fun _ => False) := ⟨HI.out.1.grown hg5, HI.out.2.1.grown hg5⟩
      have H5 : Hid _ := And.intro h5 (And.intro hb5 (And.intro HI.out.2.2 hgf))
      have n2 : W5.cell? ⟨g + 1, 2, none⟩ = some (.int .i64 A.n) := h5.1.ba.c 2
      clear hg5 hga hb5 eB hR4 hS4 h5 HI hgf
      have hbn := HA.out.2.1.bn
      have hn40 : ∀ W, _ := fun W => num_any 40 W (by decide)
      by_cases hN : (0 : Int) < A.n
      · have hn' : (0 : Int) < A.n := hN
        obtain ⟨⟨hK, hP⟩, hb5, hL, hgf⟩ := H5.out
        have hArm : Calls Try.prog 23 #[.pointer (some ⟨fb, 0, none⟩), .agg #[.int .i64 1, .slice a3 ts.length cap3]] W5 fun e w' => e = .returned (.int .i64 (m.arm 1 ts).2) ∧ Chg (foot fb bb db wb) W5 w' ∧ PRep w' fb bb db wb (m.arm 1 ts).1 (fun _ => False) := prep_arm hP hL.good (fun _ x => x.elim) 1 a3 cap3 ts (HA.out.2.2.below hK.below) (hK.away HA.out.2.2)
        clear hK hP hb5 hL hgf
        go_wp2_with fail
        with_reducible refine hArm.mono ?_
        rintro e W6 ⟨rfl, hc6, hP6⟩
        have H6 : Hid (KS w W6 g fb bb db wb s p b A ∧ PRep W6 fb bb db wb (m.arm 1 ts).1 (fun _ => False) ∧ Box W6 ga 5 (bv m.B) ∧ ¬ foot fb bb db wb ga ∧ (m.arm 1 ts).1.Good j ∧ (m.arm 1 ts).1.off = false ∧ (m.arm 1 ts).1.B = m.B ∧ (m.arm 1 ts).1.p = p ∧ (m.arm 1 ts).1.b = b) := by
          obtain ⟨⟨hK, hP⟩, hb5, hL, hgf⟩ := H5.out
          have ea : (m.arm 1 ts).1 = { m with after := 1, T := ts } := by
            unfold Fm.arm
            rw [if_pos (by unfold arE; rw [if_neg (by decide), hL.off]; rfl)]
          exact ⟨hK.step hc6, hP6, hc6.box hb5 hgf, hgf, Fm.good_arm hL.good 1 ts (by decide), by rw [ea]; exact hL.off, by rw [ea], by rw [ea]; exact hL.p, by rw [ea]; exact hL.b⟩
        clear hc6 hP6 H5 n2 hArm hn'
        generalize (m.arm 1 ts).1 = m1 at *
        generalize (m.arm 1 ts).2 = ea at *
        have n0 : W6.cell? ⟨g + 1, 0, none⟩ = some (.int .i64 A.d) := H6.out.1.ba.c 0
        have n1 : W6.cell? ⟨g + 1, 1, none⟩ = some (.int .i64 A.at_) := H6.out.1.ba.c 1
        have n3 : W6.cell? ⟨g + 1, 3, none⟩ = some (.slice A.a A.len A.cap) := H6.out.1.ba.c 3
        by_cases e1 : A.d = 1
        · rw [e1] at n0
          have hxl := HA.out.2.1.row.len_eq
          have hW : Calls Try.prog 19 #[.pointer (some ⟨fb, 0, none⟩), .int .i64 A.at_, .slice A.a A.len A.cap] W6 fun e w' => e = .returned (.int .i64 (m1.write A.at_ A.xs).2) ∧ Chg (foot fb bb db wb) W6 w' ∧ PRep w' fb bb db wb (m1.write A.at_ A.xs).1 (fun _ => False) := by
            have R0 := HA.out.2.1.row
            rw [← hxl] at R0 ⊢
            exact prep_write H6.out.2.1 H6.out.2.2.2.2.1 (by omega) A.at_ A.a A.cap A.xs (R0.below H6.out.1.below) (H6.out.1.away R0)
          have hkw := keeps_write H6.out.2.2.2.2.1 H6.out.2.2.2.2.2.1 A.at_ A.xs
          have hgw := Fm.good_write H6.out.2.2.2.2.1 A.at_ A.xs
          have HK : Hid _ := And.intro hkw (And.intro hgw (write_len H6.out.2.2.2.2.1 A.at_ A.xs))
          clear hxl hkw hgw
          go_wp2_with fail
          with_reducible refine hW.mono ?_
          rintro e W7 ⟨rfl, hc7, hP7⟩
          generalize (m1.write A.at_ A.xs).1 = m2 at *
          generalize (m1.write A.at_ A.xs).2 = E at *
          have h7 : KS w W7 g fb bb db wb s p b A ∧ PRep W7 fb bb db wb m2 (fun _ => False) ∧ Box W7 ga 5 (bv m.B) ∧ ¬ foot fb bb db wb ga := ⟨H6.out.1.step hc7, hP7, hc7.box H6.out.2.2.1 H6.out.2.2.2.1, H6.out.2.2.2.1⟩
          have H7 : Hid _ := h7
          have k1 : W7.cell? ⟨g + 1, 1, none⟩ = some (.int .i64 A.at_) := h7.1.ba.c 1
          have kp : W7.cell? ⟨g, 1, none⟩ = some (.int .i64 p) := h7.1.bg.c 1
          have kb : W7.cell? ⟨g, 2, none⟩ = some (.int .i64 b) := h7.1.bg.c 2
          clear h7 hc7 hP7 hW n0 n1 n3
          have HLN : Hid (m2.boot.B.length = m.B.length) := by
            show m2.B.length = m.B.length
            rw [HK.out.2.2, H6.out.2.2.2.2.2.2.1]
          rcases HK.out.1 with ⟨hE0 | hE0, i, hat, hfit, hkeep⟩ | ⟨hbad, hsame⟩
          · rw [hat] at k1
            clear hat
            obtain ⟨lo, hlo⟩ : ∃ lo, i * b = lo := ⟨_, rfl⟩
            obtain ⟨hi', hhi⟩ : ∃ hi', lo + b = hi' := ⟨_, rfl⟩
            have e6 := H6.out.2.2.2.2.2.2
            rw [e6.1, e6.2.2, hlo, hhi] at hfit hkeep
            have hlm : lo ≤ 16384 := by omega
            have hw1 : IntKind.i64.wrap ((i : Int) * (b : Int)) = (lo : Int) := by rw [← Int.natCast_mul, hlo, IntKind.wrap_i64]; omega
            have hw2 : IntKind.i64.wrap ((lo : Int) + (b : Int)) = (hi' : Int) := by rw [IntKind.wrap_i64]; omega
            have HKP : Hid (∀ j, (j < lo ∨ hi' ≤ j) → m2.B[j]? = m.B[j]?) := hkeep
            clear hkeep hfit e6 hlo hhi
            subst hE0
            go_wp2_with (first | (go_at_call 11; with_reducible refine (hn0 _).mono ?_; rintro e w' ⟨rfl, rfl⟩))
            go_quiet (fail)
            have HX : Hid _ := And.intro (H7.out.1.grown (grown_drewN (World.grownBy.refl _ _) nq)) (And.intro (H7.out.2.1.grown (grown_drewN (World.grownBy.refl _ _) nq)) (And.intro (H7.out.2.2.1.grown (grown_drewN (World.grownBy.refl _ _) nq)) H7.out.2.2.2))
            generalize W7.drewN nq = WX at *
            clear H7 k1 kp kb
            have hB8 := prep_boot HX.out.2.1
            go_wp2_with fail
            with_reducible refine hB8.mono ?_
            rintro e W8 ⟨rfl, hc8, hP8⟩
            have hlen : m2.boot.B.length = m.B.length := HLN.out
            have gb := Fm.good_boot HK.out.2.1
            have hS8 := hP8.size
            have hR8 := prep_read hP8 gb 0 (m2.boot.B.length : Int) (by decide) (by rw [hlen]; omega)
            have er8 : rdE m2.boot.B.length m2.boot.off 0 (m2.boot.B.length : Int) = 0 := by unfold rdE; rw [if_neg (by omega), if_neg (by simp [Fm.boot])]
            unfold PdPost at hR8
            rw [er8] at hR8
            rw [hlen] at hS8 hR8
            have hK8 := HX.out.1.step hc8
            have hb8 := hc8.box HX.out.2.2.1 HX.out.2.2.2
            have H8 : Hid _ := And.intro hK8 hb8
            clear hc8 hP8 hB8 hlen gb er8 hK8 hb8
            go_wp2_with (first | (go_at_call 22; with_reducible refine hS8.mono ?_; rintro e w' ⟨rfl, rfl⟩))
            refine hR8.mono ?_
            rintro e W9 ⟨v9, rfl, hg9, ⟨x, _⟩ | ⟨_, gn, rfl, hgn, hb9, _⟩⟩
            · exact absurd rfl x
            have eB9 : (m2.boot.B.drop (Int.toNat 0)).take (Int.toNat (m.B.length : Int)) = m2.B := by
              have := HLN.out
              show (m2.B.drop 0).take m.B.length = m2.B
              rw [List.drop_zero, ← this]; exact List.take_of_length_le (Nat.le_refl _)
            rw [eB9] at hb9
            simp only [Int.toNat_natCast]
            have H9 : Hid _ := And.intro (H8.out.1.grown hg9) (And.intro (H8.out.2.grown hg9) hb9)
            clear hg9 hgn hb9 eB9 H8 HX hR8 hS8
            go_wp2_with (first | (go_at_call 11; with_reducible refine (hn0 _).mono ?_; rintro e w' ⟨rfl, rfl⟩))
            go_loopw [20] (fun vj wr => ∃ j : Nat, vj = .int .i64 j ∧ j ≤ m.B.length ∧ Hid (∃ k, wr = W9.drewN k)) (fun vj _ => m.B.length - (intOf vj).toNat)
            case atStart => exact ⟨0, rfl, Nat.zero_le _, 0, rfl⟩
            case round =>
              obtain ⟨j, rfl, j1, HE⟩ := hrel
              by_cases hj : j < m.B.length
              · have h9 : KS w wr g fb bb db wb s p b A ∧ Box wr ga 5 (bv m.B) ∧ Box wr gn 5 (bv m2.B) := by
                  obtain ⟨k, rfl⟩ := HE.out
                  have hgk : W9.grownBy (W9.drewN k) none := grown_drewN (World.grownBy.refl _ _) k
                  exact ⟨H9.out.1.grown hgk, H9.out.2.1.grown hgk, H9.out.2.2.grown hgk⟩
                have hj2 : j < m2.B.length := by have := HLN.out; show j < m2.boot.B.length; omega
                have ca : wr.cell? ⟨ga, j, none⟩ = some (.int .u8 (m.B.getD j 0)) := by rw [h9.2.1.c j, bv_getElem? _ _ hj]
                have cn : wr.cell? ⟨gn, j, none⟩ = some (.int .u8 (m2.B.getD j 0)) := by rw [h9.2.2.c j, bv_getElem? _ _ hj2]
                clear h9
                have hj' : (j : Int) < (m.B.length : Int) := by omega
                by_cases ho : j < lo ∨ hi' ≤ j
                · have he : m2.B.getD j 0 = m.B.getD j 0 := by rw [List.getD_eq_getElem?_getD, HKP.out j ho, ← List.getD_eq_getElem?_getD]
                  rw [he] at cn
                  generalize m.B.getD j 0 = u at ca cn
                  clear he
                  by_cases h1 : j < lo
                  · have h1' : (j : Int) < (lo : Int) := by omega
                    go_wp2_with fail
                    go_quiet (fail)
                    go_wp2_with fail
                    go_roundw
                    case rel => obtain ⟨k, rfl⟩ := HE.out; exact ⟨j + 1, by go_num, by omega, k + nq, by rw [World.drewN_drewN]⟩
                    case measure => simp [intOf]; omega
                  · have h1' : decide ((j : Int) < (lo : Int)) = false := decide_eq_false (by omega)
                    have h1'' : ¬ ((j : Int) < (lo : Int)) := by omega
                    have h2' : (hi' : Int) ≤ (j : Int) := by omega
                    go_wp2_with fail
                    go_quiet (fail)
                    go_wp2_with fail
                    go_roundw
                    case rel => obtain ⟨k, rfl⟩ := HE.out; exact ⟨j + 1, by go_num, by omega, k + nq, by rw [World.drewN_drewN]⟩
                    case measure => simp [intOf]; omega
                · have h1' : decide ((j : Int) < (lo : Int)) = false := decide_eq_false (by omega)
                  have h1'' : ¬ ((j : Int) < (lo : Int)) := by omega
                  have h2' : decide ((hi' : Int) ≤ (j : Int)) = false := decide_eq_false (by omega)
                  have h2'' : ¬ ((hi' : Int) ≤ (j : Int)) := by omega
                  have h1n : ¬ (j < lo) := by omega
                  have h2n : ¬ (hi' ≤ j) := by omega
                  clear ho
                  go_wp2_with fail
                  go_quiet (fail)
                  go_wp2_with fail
                  go_roundw
                  case rel => obtain ⟨k, rfl⟩ := HE.out; exact ⟨j + 1, by go_num, by omega, k + nq, by rw [World.drewN_drewN]⟩
                  case measure => simp [intOf]; omega
              · have ej : j = m.B.length := by omega
                subst ej
                go_wp2_with (first | (go_at_call 9; refine (live_any _).mono ?_; rintro e W10 ⟨rfl, hg10⟩))
                go_ret
                obtain ⟨k, rfl⟩ := HE.out
                have hgk : W9.grownBy (W9.drewN k) none := grown_drewN (World.grownBy.refl _ _) k
                have hbk := (H9.out.1.grown hgk).below
                exact ⟨rfl, hbk.trans ((grown_below hg10).mono hbk.size)⟩
          · rw [hat] at k1
            clear hat
            obtain ⟨lo, hlo⟩ : ∃ lo, i * b = lo := ⟨_, rfl⟩
            obtain ⟨hi', hhi⟩ : ∃ hi', lo + b = hi' := ⟨_, rfl⟩
            have e6 := H6.out.2.2.2.2.2.2
            rw [e6.1, e6.2.2, hlo, hhi] at hfit hkeep
            have hlm : lo ≤ 16384 := by omega
            have hw1 : IntKind.i64.wrap ((i : Int) * (b : Int)) = (lo : Int) := by rw [← Int.natCast_mul, hlo, IntKind.wrap_i64]; omega
            have hw2 : IntKind.i64.wrap ((lo : Int) + (b : Int)) = (hi' : Int) := by rw [IntKind.wrap_i64]; omega
            have HKP : Hid (∀ j, (j < lo ∨ hi' ≤ j) → m2.B[j]? = m.B[j]?) := hkeep
            clear hkeep hfit e6 hlo hhi
            subst hE0
            go_wp2_with (first | (go_at_call 11; with_reducible refine (hn40 _).mono ?_; rintro e w' ⟨rfl, rfl⟩))
            go_quiet (fail)
            have HX : Hid _ := And.intro (H7.out.1.grown (grown_drewN (World.grownBy.refl _ _) nq)) (And.intro (H7.out.2.1.grown (grown_drewN (World.grownBy.refl _ _) nq)) (And.intro (H7.out.2.2.1.grown (grown_drewN (World.grownBy.refl _ _) nq)) H7.out.2.2.2))
            generalize W7.drewN nq = WX at *
            clear H7 k1 kp kb
            have hB8 := prep_boot HX.out.2.1
            go_wp2_with fail
            with_reducible refine hB8.mono ?_
            rintro e W8 ⟨rfl, hc8, hP8⟩
            have hlen : m2.boot.B.length = m.B.length := HLN.out
            have gb := Fm.good_boot HK.out.2.1
            have hS8 := hP8.size
            have hR8 := prep_read hP8 gb 0 (m2.boot.B.length : Int) (by decide) (by rw [hlen]; omega)
            have er8 : rdE m2.boot.B.length m2.boot.off 0 (m2.boot.B.length : Int) = 0 := by unfold rdE; rw [if_neg (by omega), if_neg (by simp [Fm.boot])]
            unfold PdPost at hR8
            rw [er8] at hR8
            rw [hlen] at hS8 hR8
            have hK8 := HX.out.1.step hc8
            have hb8 := hc8.box HX.out.2.2.1 HX.out.2.2.2
            have H8 : Hid _ := And.intro hK8 hb8
            clear hc8 hP8 hB8 hlen gb er8 hK8 hb8
            go_wp2_with (first | (go_at_call 22; with_reducible refine hS8.mono ?_; rintro e w' ⟨rfl, rfl⟩))
            refine hR8.mono ?_
            rintro e W9 ⟨v9, rfl, hg9, ⟨x, _⟩ | ⟨_, gn, rfl, hgn, hb9, _⟩⟩
            · exact absurd rfl x
            have eB9 : (m2.boot.B.drop (Int.toNat 0)).take (Int.toNat (m.B.length : Int)) = m2.B := by
              have := HLN.out
              show (m2.B.drop 0).take m.B.length = m2.B
              rw [List.drop_zero, ← this]; exact List.take_of_length_le (Nat.le_refl _)
            rw [eB9] at hb9
            simp only [Int.toNat_natCast]
            have H9 : Hid _ := And.intro (H8.out.1.grown hg9) (And.intro (H8.out.2.grown hg9) hb9)
            clear hg9 hgn hb9 eB9 H8 HX hR8 hS8
            go_wp2_with (first | (go_at_call 11; with_reducible refine (hn0 _).mono ?_; rintro e w' ⟨rfl, rfl⟩))
            go_loopw [20] (fun vj wr => ∃ j : Nat, vj = .int .i64 j ∧ j ≤ m.B.length ∧ Hid (∃ k, wr = W9.drewN k)) (fun vj _ => m.B.length - (intOf vj).toNat)
            case atStart => exact ⟨0, rfl, Nat.zero_le _, 0, rfl⟩
            case round =>
              obtain ⟨j, rfl, j1, HE⟩ := hrel
              by_cases hj : j < m.B.length
              · have h9 : KS w wr g fb bb db wb s p b A ∧ Box wr ga 5 (bv m.B) ∧ Box wr gn 5 (bv m2.B) := by
                  obtain ⟨k, rfl⟩ := HE.out
                  have hgk : W9.grownBy (W9.drewN k) none := grown_drewN (World.grownBy.refl _ _) k
                  exact ⟨H9.out.1.grown hgk, H9.out.2.1.grown hgk, H9.out.2.2.grown hgk⟩
                have hj2 : j < m2.B.length := by have := HLN.out; show j < m2.boot.B.length; omega
                have ca : wr.cell? ⟨ga, j, none⟩ = some (.int .u8 (m.B.getD j 0)) := by rw [h9.2.1.c j, bv_getElem? _ _ hj]
                have cn : wr.cell? ⟨gn, j, none⟩ = some (.int .u8 (m2.B.getD j 0)) := by rw [h9.2.2.c j, bv_getElem? _ _ hj2]
                clear h9
                have hj' : (j : Int) < (m.B.length : Int) := by omega
                by_cases ho : j < lo ∨ hi' ≤ j
                · have he : m2.B.getD j 0 = m.B.getD j 0 := by rw [List.getD_eq_getElem?_getD, HKP.out j ho, ← List.getD_eq_getElem?_getD]
                  rw [he] at cn
                  generalize m.B.getD j 0 = u at ca cn
                  clear he
                  by_cases h1 : j < lo
                  · have h1' : (j : Int) < (lo : Int) := by omega
                    go_wp2_with fail
                    go_quiet (fail)
                    go_wp2_with fail
                    go_roundw
                    case rel => obtain ⟨k, rfl⟩ := HE.out; exact ⟨j + 1, by go_num, by omega, k + nq, by rw [World.drewN_drewN]⟩
                    case measure => simp [intOf]; omega
                  · have h1' : decide ((j : Int) < (lo : Int)) = false := decide_eq_false (by omega)
                    have h1'' : ¬ ((j : Int) < (lo : Int)) := by omega
                    have h2' : (hi' : Int) ≤ (j : Int) := by omega
                    go_wp2_with fail
                    go_quiet (fail)
                    go_wp2_with fail
                    go_roundw
                    case rel => obtain ⟨k, rfl⟩ := HE.out; exact ⟨j + 1, by go_num, by omega, k + nq, by rw [World.drewN_drewN]⟩
                    case measure => simp [intOf]; omega
                · have h1' : decide ((j : Int) < (lo : Int)) = false := decide_eq_false (by omega)
                  have h1'' : ¬ ((j : Int) < (lo : Int)) := by omega
                  have h2' : decide ((hi' : Int) ≤ (j : Int)) = false := decide_eq_false (by omega)
                  have h2'' : ¬ ((hi' : Int) ≤ (j : Int)) := by omega
                  have h1n : ¬ (j < lo) := by omega
                  have h2n : ¬ (hi' ≤ j) := by omega
                  clear ho
                  go_wp2_with fail
                  go_quiet (fail)
                  go_wp2_with fail
                  go_roundw
                  case rel => obtain ⟨k, rfl⟩ := HE.out; exact ⟨j + 1, by go_num, by omega, k + nq, by rw [World.drewN_drewN]⟩
                  case measure => simp [intOf]; omega
              · have ej : j = m.B.length := by omega
                subst ej
                go_wp2_with (first | (go_at_call 9; refine (live_any _).mono ?_; rintro e W10 ⟨rfl, hg10⟩))
                go_ret
                obtain ⟨k, rfl⟩ := HE.out
                have hgk : W9.grownBy (W9.drewN k) none := grown_drewN (World.grownBy.refl _ _) k
                have hbk := (H9.out.1.grown hgk).below
                exact ⟨rfl, hbk.trans ((grown_below hg10).mono hbk.size)⟩
          · have hE0 : (E == 0) = false := by rcases hbad with rfl | rfl | rfl <;> rfl
            have hE40 : (E == 40) = false := by rcases hbad with rfl | rfl | rfl <;> rfl
            have hnE : ∀ W, _ := fun W => num_any E W (by omega)
            have HX : Hid _ := H7.out
            have HKP : Hid (∀ j : Nat, m2.B[j]? = m.B[j]?) := fun j => by rw [hsame, H6.out.2.2.2.2.2.2.1]
            clear hbad hsame
            go_wp2_with (first | (go_at_call 11; with_reducible refine (hnE _).mono ?_; rintro e w' ⟨rfl, rfl⟩))
            clear H7 k1 kp kb
            have hB8 := prep_boot HX.out.2.1
            go_wp2_with fail
            with_reducible refine hB8.mono ?_
            rintro e W8 ⟨rfl, hc8, hP8⟩
            have hlen : m2.boot.B.length = m.B.length := HLN.out
            have gb := Fm.good_boot HK.out.2.1
            have hS8 := hP8.size
            have hR8 := prep_read hP8 gb 0 (m2.boot.B.length : Int) (by decide) (by rw [hlen]; omega)
            have er8 : rdE m2.boot.B.length m2.boot.off 0 (m2.boot.B.length : Int) = 0 := by unfold rdE; rw [if_neg (by omega), if_neg (by simp [Fm.boot])]
            unfold PdPost at hR8
            rw [er8] at hR8
            rw [hlen] at hS8 hR8
            have hK8 := HX.out.1.step hc8
            have hb8 := hc8.box HX.out.2.2.1 HX.out.2.2.2
            have H8 : Hid _ := And.intro hK8 hb8
            clear hc8 hP8 hB8 hlen gb er8 hK8 hb8
            go_wp2_with (first | (go_at_call 22; with_reducible refine hS8.mono ?_; rintro e w' ⟨rfl, rfl⟩))
            refine hR8.mono ?_
            rintro e W9 ⟨v9, rfl, hg9, ⟨x, _⟩ | ⟨_, gn, rfl, hgn, hb9, _⟩⟩
            · exact absurd rfl x
            have eB9 : (m2.boot.B.drop (Int.toNat 0)).take (Int.toNat (m.B.length : Int)) = m2.B := by
              have := HLN.out
              show (m2.B.drop 0).take m.B.length = m2.B
              rw [List.drop_zero, ← this]; exact List.take_of_length_le (Nat.le_refl _)
            rw [eB9] at hb9
            simp only [Int.toNat_natCast]
            have H9 : Hid _ := And.intro (H8.out.1.grown hg9) (And.intro (H8.out.2.grown hg9) hb9)
            clear hg9 hgn hb9 eB9 H8 HX hR8 hS8
            go_wp2_with (first | (go_at_call 11; with_reducible refine (hn0 _).mono ?_; rintro e w' ⟨rfl, rfl⟩))
            go_loopw [20] (fun vj wr => ∃ j : Nat, vj = .int .i64 j ∧ j ≤ m.B.length ∧ Hid (∃ k, wr = W9.drewN k)) (fun vj _ => m.B.length - (intOf vj).toNat)
            case atStart => exact ⟨0, rfl, Nat.zero_le _, 0, rfl⟩
            case round =>
              obtain ⟨j, rfl, j1, HE⟩ := hrel
              by_cases hj : j < m.B.length
              · have h9 : KS w wr g fb bb db wb s p b A ∧ Box wr ga 5 (bv m.B) ∧ Box wr gn 5 (bv m2.B) := by
                  obtain ⟨k, rfl⟩ := HE.out
                  have hgk : W9.grownBy (W9.drewN k) none := grown_drewN (World.grownBy.refl _ _) k
                  exact ⟨H9.out.1.grown hgk, H9.out.2.1.grown hgk, H9.out.2.2.grown hgk⟩
                have hj2 : j < m2.B.length := by have := HLN.out; show j < m2.boot.B.length; omega
                have ca : wr.cell? ⟨ga, j, none⟩ = some (.int .u8 (m.B.getD j 0)) := by rw [h9.2.1.c j, bv_getElem? _ _ hj]
                have cn : wr.cell? ⟨gn, j, none⟩ = some (.int .u8 (m2.B.getD j 0)) := by rw [h9.2.2.c j, bv_getElem? _ _ hj2]
                clear h9
                have hj' : (j : Int) < (m.B.length : Int) := by omega
                have he : m2.B.getD j 0 = m.B.getD j 0 := by rw [List.getD_eq_getElem?_getD, HKP.out j, ← List.getD_eq_getElem?_getD]
                rw [he] at cn
                generalize m.B.getD j 0 = u at ca cn
                clear he
                have h1' : decide ((j : Int) < 0) = false := decide_eq_false (by omega)
                have h1'' : ¬ ((j : Int) < 0) := by omega
                have h2' : (0 : Int) ≤ (j : Int) := by omega
                go_wp2_with fail
                go_quiet (fail)
                go_wp2_with fail
                go_roundw
                case rel => obtain ⟨k, rfl⟩ := HE.out; exact ⟨j + 1, by go_num, by omega, k + nq, by rw [World.drewN_drewN]⟩
                case measure => simp [intOf]; omega
              · have ej : j = m.B.length := by omega
                subst ej
                go_wp2_with (first | (go_at_call 9; refine (live_any _).mono ?_; rintro e W10 ⟨rfl, hg10⟩))
                go_ret
                obtain ⟨k, rfl⟩ := HE.out
                have hgk : W9.grownBy (W9.drewN k) none := grown_drewN (World.grownBy.refl _ _) k
                have hbk := (H9.out.1.grown hgk).below
                exact ⟨rfl, hbk.trans ((grown_below hg10).mono hbk.size)⟩
        · have e1' : (A.d == 1) = false := by simpa using e1
          have hW := prep_erase H6.out.2.1 H6.out.2.2.2.2.1 (by omega) A.at_
          have hkw := keeps_erase H6.out.2.2.2.2.1 H6.out.2.2.2.2.2.1 A.at_
          have hgw := Fm.good_erase H6.out.2.2.2.2.1 A.at_
          have HK : Hid _ := And.intro hkw (And.intro hgw (erase_len H6.out.2.2.2.2.1 A.at_))
          clear hkw hgw
          go_wp2_with fail
          with_reducible refine hW.mono ?_
          rintro e W7 ⟨rfl, hc7, hP7⟩
          generalize (m1.erase A.at_).1 = m2 at *
          generalize (m1.erase A.at_).2 = E at *
          have h7 : KS w W7 g fb bb db wb s p b A ∧ PRep W7 fb bb db wb m2 (fun _ => False) ∧ Box W7 ga 5 (bv m.B) ∧ ¬ foot fb bb db wb ga := ⟨H6.out.1.step hc7, hP7, hc7.box H6.out.2.2.1 H6.out.2.2.2.1, H6.out.2.2.2.1⟩
          have H7 : Hid _ := h7
          have k1 : W7.cell? ⟨g + 1, 1, none⟩ = some (.int .i64 A.at_) := h7.1.ba.c 1
          have kp : W7.cell? ⟨g, 1, none⟩ = some (.int .i64 p) := h7.1.bg.c 1
          have kb : W7.cell? ⟨g, 2, none⟩ = some (.int .i64 b) := h7.1.bg.c 2
          clear h7 hc7 hP7 hW n0 n1 n3
          have HLN : Hid (m2.boot.B.length = m.B.length) := by
            show m2.B.length = m.B.length
            rw [HK.out.2.2, H6.out.2.2.2.2.2.2.1]
          rcases HK.out.1 with ⟨hE0 | hE0, i, hat, hfit, hkeep⟩ | ⟨hbad, hsame⟩
          · rw [hat] at k1
            clear hat
            obtain ⟨q1, hq1⟩ : ∃ q1, i * p = q1 := ⟨_, rfl⟩
            obtain ⟨lo, hlo⟩ : ∃ lo, q1 * b = lo := ⟨_, rfl⟩
            obtain ⟨q2, hq2⟩ : ∃ q2, (i + 1) * p = q2 := ⟨_, rfl⟩
            obtain ⟨hi', hhi⟩ : ∃ hi', q2 * b = hi' := ⟨_, rfl⟩
            have e6 := H6.out.2.2.2.2.2.2
            have elo : i * (p * b) = lo := by rw [← Nat.mul_assoc, hq1, hlo]
            have ehi : lo + p * b = hi' := by rw [← hhi, ← hq2, ← elo, Nat.add_mul, Nat.add_mul, Nat.one_mul, Nat.mul_assoc]
            rw [e6.1, e6.2.1, e6.2.2, elo, ehi] at hfit hkeep
            have hb0 : 0 < b := by omega
            have hq2m : q2 ≤ hi' := by rw [← hhi]; exact Nat.le_mul_of_pos_right _ hb0
            have hq1m : q1 ≤ q2 := by rw [← hq1, ← hq2]; exact Nat.mul_le_mul_right _ (by omega)
            have him : i ≤ q1 := by rw [← hq1]; exact Nat.le_mul_of_pos_right _ hp.1
            have hlm : lo ≤ hi' := by omega
            have hw1 : IntKind.i64.wrap ((i : Int) * (p : Int)) = (q1 : Int) := by rw [← Int.natCast_mul, hq1, IntKind.wrap_i64]; omega
            have hw2 : IntKind.i64.wrap ((q1 : Int) * (b : Int)) = (lo : Int) := by rw [← Int.natCast_mul, hlo, IntKind.wrap_i64]; omega
            have hw3 : IntKind.i64.wrap ((i : Int) + 1) = (i : Int) + 1 := by rw [IntKind.wrap_i64]; omega
            have hw4 : IntKind.i64.wrap (((i : Int) + 1) * (p : Int)) = (q2 : Int) := by rw [show ((i : Int) + 1) = ((i + 1 : Nat) : Int) by omega, ← Int.natCast_mul, hq2, IntKind.wrap_i64]; omega
            have hw5 : IntKind.i64.wrap ((q2 : Int) * (b : Int)) = (hi' : Int) := by rw [← Int.natCast_mul, hhi, IntKind.wrap_i64]; omega
            have HKP : Hid (∀ j, (j < lo ∨ hi' ≤ j) → m2.B[j]? = m.B[j]?) := hkeep
            clear hkeep hfit e6 hlo hhi hq1 hq2 elo ehi hq2m hq1m him
            subst hE0
            go_wp2_with (first | (go_at_call 11; with_reducible refine (hn0 _).mono ?_; rintro e w' ⟨rfl, rfl⟩))
            go_quiet (fail)
            have HX : Hid _ := And.intro (H7.out.1.grown (grown_drewN (World.grownBy.refl _ _) nq)) (And.intro (H7.out.2.1.grown (grown_drewN (World.grownBy.refl _ _) nq)) (And.intro (H7.out.2.2.1.grown (grown_drewN (World.grownBy.refl _ _) nq)) H7.out.2.2.2))
            generalize W7.drewN nq = WX at *
            clear H7 k1 kp kb
            have hB8 := prep_boot HX.out.2.1
            go_wp2_with fail
            with_reducible refine hB8.mono ?_
            rintro e W8 ⟨rfl, hc8, hP8⟩
            have hlen : m2.boot.B.length = m.B.length := HLN.out
            have gb := Fm.good_boot HK.out.2.1
            have hS8 := hP8.size
            have hR8 := prep_read hP8 gb 0 (m2.boot.B.length : Int) (by decide) (by rw [hlen]; omega)
            have er8 : rdE m2.boot.B.length m2.boot.off 0 (m2.boot.B.length : Int) = 0 := by unfold rdE; rw [if_neg (by omega), if_neg (by simp [Fm.boot])]
            unfold PdPost at hR8
            rw [er8] at hR8
            rw [hlen] at hS8 hR8
            have hK8 := HX.out.1.step hc8
            have hb8 := hc8.box HX.out.2.2.1 HX.out.2.2.2
            have H8 : Hid _ := And.intro hK8 hb8
            clear hc8 hP8 hB8 hlen gb er8 hK8 hb8
            go_wp2_with (first | (go_at_call 22; with_reducible refine hS8.mono ?_; rintro e w' ⟨rfl, rfl⟩))
            refine hR8.mono ?_
            rintro e W9 ⟨v9, rfl, hg9, ⟨x, _⟩ | ⟨_, gn, rfl, hgn, hb9, _⟩⟩
            · exact absurd rfl x
            have eB9 : (m2.boot.B.drop (Int.toNat 0)).take (Int.toNat (m.B.length : Int)) = m2.B := by
              have := HLN.out
              show (m2.B.drop 0).take m.B.length = m2.B
              rw [List.drop_zero, ← this]; exact List.take_of_length_le (Nat.le_refl _)
            rw [eB9] at hb9
            simp only [Int.toNat_natCast]
            have H9 : Hid _ := And.intro (H8.out.1.grown hg9) (And.intro (H8.out.2.grown hg9) hb9)
            clear hg9 hgn hb9 eB9 H8 HX hR8 hS8
            go_wp2_with (first | (go_at_call 11; with_reducible refine (hn0 _).mono ?_; rintro e w' ⟨rfl, rfl⟩))
            go_loopw [20] (fun vj wr => ∃ j : Nat, vj = .int .i64 j ∧ j ≤ m.B.length ∧ Hid (∃ k, wr = W9.drewN k)) (fun vj _ => m.B.length - (intOf vj).toNat)
            case atStart => exact ⟨0, rfl, Nat.zero_le _, 0, rfl⟩
            case round =>
              obtain ⟨j, rfl, j1, HE⟩ := hrel
              by_cases hj : j < m.B.length
              · have h9 : KS w wr g fb bb db wb s p b A ∧ Box wr ga 5 (bv m.B) ∧ Box wr gn 5 (bv m2.B) := by
                  obtain ⟨k, rfl⟩ := HE.out
                  have hgk : W9.grownBy (W9.drewN k) none := grown_drewN (World.grownBy.refl _ _) k
                  exact ⟨H9.out.1.grown hgk, H9.out.2.1.grown hgk, H9.out.2.2.grown hgk⟩
                have hj2 : j < m2.B.length := by have := HLN.out; show j < m2.boot.B.length; omega
                have ca : wr.cell? ⟨ga, j, none⟩ = some (.int .u8 (m.B.getD j 0)) := by rw [h9.2.1.c j, bv_getElem? _ _ hj]
                have cn : wr.cell? ⟨gn, j, none⟩ = some (.int .u8 (m2.B.getD j 0)) := by rw [h9.2.2.c j, bv_getElem? _ _ hj2]
                clear h9
                have hj' : (j : Int) < (m.B.length : Int) := by omega
                by_cases ho : j < lo ∨ hi' ≤ j
                · have he : m2.B.getD j 0 = m.B.getD j 0 := by rw [List.getD_eq_getElem?_getD, HKP.out j ho, ← List.getD_eq_getElem?_getD]
                  rw [he] at cn
                  generalize m.B.getD j 0 = u at ca cn
                  clear he
                  by_cases h1 : j < lo
                  · have h1' : (j : Int) < (lo : Int) := by omega
                    go_wp2_with fail
                    go_quiet (fail)
                    go_wp2_with fail
                    go_roundw
                    case rel => obtain ⟨k, rfl⟩ := HE.out; exact ⟨j + 1, by go_num, by omega, k + nq, by rw [World.drewN_drewN]⟩
                    case measure => simp [intOf]; omega
                  · have h1' : decide ((j : Int) < (lo : Int)) = false := decide_eq_false (by omega)
                    have h1'' : ¬ ((j : Int) < (lo : Int)) := by omega
                    have h2' : (hi' : Int) ≤ (j : Int) := by omega
                    go_wp2_with fail
                    go_quiet (fail)
                    go_wp2_with fail
                    go_roundw
                    case rel => obtain ⟨k, rfl⟩ := HE.out; exact ⟨j + 1, by go_num, by omega, k + nq, by rw [World.drewN_drewN]⟩
                    case measure => simp [intOf]; omega
                · have h1' : decide ((j : Int) < (lo : Int)) = false := decide_eq_false (by omega)
                  have h1'' : ¬ ((j : Int) < (lo : Int)) := by omega
                  have h2' : decide ((hi' : Int) ≤ (j : Int)) = false := decide_eq_false (by omega)
                  have h2'' : ¬ ((hi' : Int) ≤ (j : Int)) := by omega
                  have h1n : ¬ (j < lo) := by omega
                  have h2n : ¬ (hi' ≤ j) := by omega
                  clear ho
                  go_wp2_with fail
                  go_quiet (fail)
                  go_wp2_with fail
                  go_roundw
                  case rel => obtain ⟨k, rfl⟩ := HE.out; exact ⟨j + 1, by go_num, by omega, k + nq, by rw [World.drewN_drewN]⟩
                  case measure => simp [intOf]; omega
              · have ej : j = m.B.length := by omega
                subst ej
                go_wp2_with (first | (go_at_call 9; refine (live_any _).mono ?_; rintro e W10 ⟨rfl, hg10⟩))
                go_ret
                obtain ⟨k, rfl⟩ := HE.out
                have hgk : W9.grownBy (W9.drewN k) none := grown_drewN (World.grownBy.refl _ _) k
                have hbk := (H9.out.1.grown hgk).below
                exact ⟨rfl, hbk.trans ((grown_below hg10).mono hbk.size)⟩
          · rw [hat] at k1
            clear hat
            obtain ⟨q1, hq1⟩ : ∃ q1, i * p = q1 := ⟨_, rfl⟩
            obtain ⟨lo, hlo⟩ : ∃ lo, q1 * b = lo := ⟨_, rfl⟩
            obtain ⟨q2, hq2⟩ : ∃ q2, (i + 1) * p = q2 := ⟨_, rfl⟩
            obtain ⟨hi', hhi⟩ : ∃ hi', q2 * b = hi' := ⟨_, rfl⟩
            have e6 := H6.out.2.2.2.2.2.2
            have elo : i * (p * b) = lo := by rw [← Nat.mul_assoc, hq1, hlo]
            have ehi : lo + p * b = hi' := by rw [← hhi, ← hq2, ← elo, Nat.add_mul, Nat.add_mul, Nat.one_mul, Nat.mul_assoc]
            rw [e6.1, e6.2.1, e6.2.2, elo, ehi] at hfit hkeep
            have hb0 : 0 < b := by omega
            have hq2m : q2 ≤ hi' := by rw [← hhi]; exact Nat.le_mul_of_pos_right _ hb0
            have hq1m : q1 ≤ q2 := by rw [← hq1, ← hq2]; exact Nat.mul_le_mul_right _ (by omega)
            have him : i ≤ q1 := by rw [← hq1]; exact Nat.le_mul_of_pos_right _ hp.1
            have hlm : lo ≤ hi' := by omega
            have hw1 : IntKind.i64.wrap ((i : Int) * (p : Int)) = (q1 : Int) := by rw [← Int.natCast_mul, hq1, IntKind.wrap_i64]; omega
            have hw2 : IntKind.i64.wrap ((q1 : Int) * (b : Int)) = (lo : Int) := by rw [← Int.natCast_mul, hlo, IntKind.wrap_i64]; omega
            have hw3 : IntKind.i64.wrap ((i : Int) + 1) = (i : Int) + 1 := by rw [IntKind.wrap_i64]; omega
            have hw4 : IntKind.i64.wrap (((i : Int) + 1) * (p : Int)) = (q2 : Int) := by rw [show ((i : Int) + 1) = ((i + 1 : Nat) : Int) by omega, ← Int.natCast_mul, hq2, IntKind.wrap_i64]; omega
            have hw5 : IntKind.i64.wrap ((q2 : Int) * (b : Int)) = (hi' : Int) := by rw [← Int.natCast_mul, hhi, IntKind.wrap_i64]; omega
            have HKP : Hid (∀ j, (j < lo ∨ hi' ≤ j) → m2.B[j]? = m.B[j]?) := hkeep
            clear hkeep hfit e6 hlo hhi hq1 hq2 elo ehi hq2m hq1m him
            subst hE0
            go_wp2_with (first | (go_at_call 11; with_reducible refine (hn40 _).mono ?_; rintro e w' ⟨rfl, rfl⟩))
            go_quiet (fail)
            have HX : Hid _ := And.intro (H7.out.1.grown (grown_drewN (World.grownBy.refl _ _) nq)) (And.intro (H7.out.2.1.grown (grown_drewN (World.grownBy.refl _ _) nq)) (And.intro (H7.out.2.2.1.grown (grown_drewN (World.grownBy.refl _ _) nq)) H7.out.2.2.2))
            generalize W7.drewN nq = WX at *
            clear H7 k1 kp kb
            have hB8 := prep_boot HX.out.2.1
            go_wp2_with fail
            with_reducible refine hB8.mono ?_
            rintro e W8 ⟨rfl, hc8, hP8⟩
            have hlen : m2.boot.B.length = m.B.length := HLN.out
            have gb := Fm.good_boot HK.out.2.1
            have hS8 := hP8.size
            have hR8 := prep_read hP8 gb 0 (m2.boot.B.length : Int) (by decide) (by rw [hlen]; omega)
            have er8 : rdE m2.boot.B.length m2.boot.off 0 (m2.boot.B.length : Int) = 0 := by unfold rdE; rw [if_neg (by omega), if_neg (by simp [Fm.boot])]
            unfold PdPost at hR8
            rw [er8] at hR8
            rw [hlen] at hS8 hR8
            have hK8 := HX.out.1.step hc8
            have hb8 := hc8.box HX.out.2.2.1 HX.out.2.2.2
            have H8 : Hid _ := And.intro hK8 hb8
            clear hc8 hP8 hB8 hlen gb er8 hK8 hb8
            go_wp2_with (first | (go_at_call 22; with_reducible refine hS8.mono ?_; rintro e w' ⟨rfl, rfl⟩))
            refine hR8.mono ?_
            rintro e W9 ⟨v9, rfl, hg9, ⟨x, _⟩ | ⟨_, gn, rfl, hgn, hb9, _⟩⟩
            · exact absurd rfl x
            have eB9 : (m2.boot.B.drop (Int.toNat 0)).take (Int.toNat (m.B.length : Int)) = m2.B := by
              have := HLN.out
              show (m2.B.drop 0).take m.B.length = m2.B
              rw [List.drop_zero, ← this]; exact List.take_of_length_le (Nat.le_refl _)
            rw [eB9] at hb9
            simp only [Int.toNat_natCast]
            have H9 : Hid _ := And.intro (H8.out.1.grown hg9) (And.intro (H8.out.2.grown hg9) hb9)
            clear hg9 hgn hb9 eB9 H8 HX hR8 hS8
            go_wp2_with (first | (go_at_call 11; with_reducible refine (hn0 _).mono ?_; rintro e w' ⟨rfl, rfl⟩))
            go_loopw [20] (fun vj wr => ∃ j : Nat, vj = .int .i64 j ∧ j ≤ m.B.length ∧ Hid (∃ k, wr = W9.drewN k)) (fun vj _ => m.B.length - (intOf vj).toNat)
            case atStart => exact ⟨0, rfl, Nat.zero_le _, 0, rfl⟩
            case round =>
              obtain ⟨j, rfl, j1, HE⟩ := hrel
              by_cases hj : j < m.B.length
              · have h9 : KS w wr g fb bb db wb s p b A ∧ Box wr ga 5 (bv m.B) ∧ Box wr gn 5 (bv m2.B) := by
                  obtain ⟨k, rfl⟩ := HE.out
                  have hgk : W9.grownBy (W9.drewN k) none := grown_drewN (World.grownBy.refl _ _) k
                  exact ⟨H9.out.1.grown hgk, H9.out.2.1.grown hgk, H9.out.2.2.grown hgk⟩
                have hj2 : j < m2.B.length := by have := HLN.out; show j < m2.boot.B.length; omega
                have ca : wr.cell? ⟨ga, j, none⟩ = some (.int .u8 (m.B.getD j 0)) := by rw [h9.2.1.c j, bv_getElem? _ _ hj]
                have cn : wr.cell? ⟨gn, j, none⟩ = some (.int .u8 (m2.B.getD j 0)) := by rw [h9.2.2.c j, bv_getElem? _ _ hj2]
                clear h9
                have hj' : (j : Int) < (m.B.length : Int) := by omega
                by_cases ho : j < lo ∨ hi' ≤ j
                · have he : m2.B.getD j 0 = m.B.getD j 0 := by rw [List.getD_eq_getElem?_getD, HKP.out j ho, ← List.getD_eq_getElem?_getD]
                  rw [he] at cn
                  generalize m.B.getD j 0 = u at ca cn
                  clear he
                  by_cases h1 : j < lo
                  · have h1' : (j : Int) < (lo : Int) := by omega
                    go_wp2_with fail
                    go_quiet (fail)
                    go_wp2_with fail
                    go_roundw
                    case rel => obtain ⟨k, rfl⟩ := HE.out; exact ⟨j + 1, by go_num, by omega, k + nq, by rw [World.drewN_drewN]⟩
                    case measure => simp [intOf]; omega
                  · have h1' : decide ((j : Int) < (lo : Int)) = false := decide_eq_false (by omega)
                    have h1'' : ¬ ((j : Int) < (lo : Int)) := by omega
                    have h2' : (hi' : Int) ≤ (j : Int) := by omega
                    go_wp2_with fail
                    go_quiet (fail)
                    go_wp2_with fail
                    go_roundw
                    case rel => obtain ⟨k, rfl⟩ := HE.out; exact ⟨j + 1, by go_num, by omega, k + nq, by rw [World.drewN_drewN]⟩
                    case measure => simp [intOf]; omega
                · have h1' : decide ((j : Int) < (lo : Int)) = false := decide_eq_false (by omega)
                  have h1'' : ¬ ((j : Int) < (lo : Int)) := by omega
                  have h2' : decide ((hi' : Int) ≤ (j : Int)) = false := decide_eq_false (by omega)
                  have h2'' : ¬ ((hi' : Int) ≤ (j : Int)) := by omega
                  have h1n : ¬ (j < lo) := by omega
                  have h2n : ¬ (hi' ≤ j) := by omega
                  clear ho
                  go_wp2_with fail
                  go_quiet (fail)
                  go_wp2_with fail
                  go_roundw
                  case rel => obtain ⟨k, rfl⟩ := HE.out; exact ⟨j + 1, by go_num, by omega, k + nq, by rw [World.drewN_drewN]⟩
                  case measure => simp [intOf]; omega
              · have ej : j = m.B.length := by omega
                subst ej
                go_wp2_with (first | (go_at_call 9; refine (live_any _).mono ?_; rintro e W10 ⟨rfl, hg10⟩))
                go_ret
                obtain ⟨k, rfl⟩ := HE.out
                have hgk : W9.grownBy (W9.drewN k) none := grown_drewN (World.grownBy.refl _ _) k
                have hbk := (H9.out.1.grown hgk).below
                exact ⟨rfl, hbk.trans ((grown_below hg10).mono hbk.size)⟩
          · have hE0 : (E == 0) = false := by rw [hbad]; rfl
            have hE40 : (E == 40) = false := by rw [hbad]; rfl
            have hnE : ∀ W, _ := fun W => num_any E W (by omega)
            have HX : Hid _ := H7.out
            have HKP : Hid (∀ j : Nat, m2.B[j]? = m.B[j]?) := fun j => by rw [hsame, H6.out.2.2.2.2.2.2.1]
            clear hbad hsame
            go_wp2_with (first | (go_at_call 11; with_reducible refine (hnE _).mono ?_; rintro e w' ⟨rfl, rfl⟩))
            clear H7 k1 kp kb
            have hB8 := prep_boot HX.out.2.1
            go_wp2_with fail
            with_reducible refine hB8.mono ?_
            rintro e W8 ⟨rfl, hc8, hP8⟩
            have hlen : m2.boot.B.length = m.B.length := HLN.out
            have gb := Fm.good_boot HK.out.2.1
            have hS8 := hP8.size
            have hR8 := prep_read hP8 gb 0 (m2.boot.B.length : Int) (by decide) (by rw [hlen]; omega)
            have er8 : rdE m2.boot.B.length m2.boot.off 0 (m2.boot.B.length : Int) = 0 := by unfold rdE; rw [if_neg (by omega), if_neg (by simp [Fm.boot])]
            unfold PdPost at hR8
            rw [er8] at hR8
            rw [hlen] at hS8 hR8
            have hK8 := HX.out.1.step hc8
            have hb8 := hc8.box HX.out.2.2.1 HX.out.2.2.2
            have H8 : Hid _ := And.intro hK8 hb8
            clear hc8 hP8 hB8 hlen gb er8 hK8 hb8
            go_wp2_with (first | (go_at_call 22; with_reducible refine hS8.mono ?_; rintro e w' ⟨rfl, rfl⟩))
            refine hR8.mono ?_
            rintro e W9 ⟨v9, rfl, hg9, ⟨x, _⟩ | ⟨_, gn, rfl, hgn, hb9, _⟩⟩
            · exact absurd rfl x
            have eB9 : (m2.boot.B.drop (Int.toNat 0)).take (Int.toNat (m.B.length : Int)) = m2.B := by
              have := HLN.out
              show (m2.B.drop 0).take m.B.length = m2.B
              rw [List.drop_zero, ← this]; exact List.take_of_length_le (Nat.le_refl _)
            rw [eB9] at hb9
            simp only [Int.toNat_natCast]
            have H9 : Hid _ := And.intro (H8.out.1.grown hg9) (And.intro (H8.out.2.grown hg9) hb9)
            clear hg9 hgn hb9 eB9 H8 HX hR8 hS8
            go_wp2_with (first | (go_at_call 11; with_reducible refine (hn0 _).mono ?_; rintro e w' ⟨rfl, rfl⟩))
            go_loopw [20] (fun vj wr => ∃ j : Nat, vj = .int .i64 j ∧ j ≤ m.B.length ∧ Hid (∃ k, wr = W9.drewN k)) (fun vj _ => m.B.length - (intOf vj).toNat)
            case atStart => exact ⟨0, rfl, Nat.zero_le _, 0, rfl⟩
            case round =>
              obtain ⟨j, rfl, j1, HE⟩ := hrel
              by_cases hj : j < m.B.length
              · have h9 : KS w wr g fb bb db wb s p b A ∧ Box wr ga 5 (bv m.B) ∧ Box wr gn 5 (bv m2.B) := by
                  obtain ⟨k, rfl⟩ := HE.out
                  have hgk : W9.grownBy (W9.drewN k) none := grown_drewN (World.grownBy.refl _ _) k
                  exact ⟨H9.out.1.grown hgk, H9.out.2.1.grown hgk, H9.out.2.2.grown hgk⟩
                have hj2 : j < m2.B.length := by have := HLN.out; show j < m2.boot.B.length; omega
                have ca : wr.cell? ⟨ga, j, none⟩ = some (.int .u8 (m.B.getD j 0)) := by rw [h9.2.1.c j, bv_getElem? _ _ hj]
                have cn : wr.cell? ⟨gn, j, none⟩ = some (.int .u8 (m2.B.getD j 0)) := by rw [h9.2.2.c j, bv_getElem? _ _ hj2]
                clear h9
                have hj' : (j : Int) < (m.B.length : Int) := by omega
                have he : m2.B.getD j 0 = m.B.getD j 0 := by rw [List.getD_eq_getElem?_getD, HKP.out j, ← List.getD_eq_getElem?_getD]
                rw [he] at cn
                generalize m.B.getD j 0 = u at ca cn
                clear he
                have h1' : decide ((j : Int) < 0) = false := decide_eq_false (by omega)
                have h1'' : ¬ ((j : Int) < 0) := by omega
                have h2' : (0 : Int) ≤ (j : Int) := by omega
                go_wp2_with fail
                go_quiet (fail)
                go_wp2_with fail
                go_roundw
                case rel => obtain ⟨k, rfl⟩ := HE.out; exact ⟨j + 1, by go_num, by omega, k + nq, by rw [World.drewN_drewN]⟩
                case measure => simp [intOf]; omega
              · have ej : j = m.B.length := by omega
                subst ej
                go_wp2_with (first | (go_at_call 9; refine (live_any _).mono ?_; rintro e W10 ⟨rfl, hg10⟩))
                go_ret
                obtain ⟨k, rfl⟩ := HE.out
                have hgk : W9.grownBy (W9.drewN k) none := grown_drewN (World.grownBy.refl _ _) k
                have hbk := (H9.out.1.grown hgk).below
                exact ⟨rfl, hbk.trans ((grown_below hg10).mono hbk.size)⟩
      · have hn' : ¬ ((0 : Int) < A.n) := hN
        obtain ⟨m1, em1⟩ : ∃ m1 : Fm, m1 = m := ⟨_, rfl⟩
        have H6 : Hid (KS w W5 g fb bb db wb s p b A ∧ PRep W5 fb bb db wb m1 (fun _ => False) ∧ Box W5 ga 5 (bv m.B) ∧ ¬ foot fb bb db wb ga ∧ m1.Good j ∧ m1.off = false ∧ m1.B = m.B ∧ m1.p = p ∧ m1.b = b) := by
          obtain ⟨⟨hK, hP⟩, hb5, hL, hgf⟩ := H5.out
          subst em1
          exact ⟨hK, hP, hb5, hgf, hL.good, hL.off, rfl, hL.p, hL.b⟩
        have n0 : W5.cell? ⟨g + 1, 0, none⟩ = some (.int .i64 A.d) := H6.out.1.ba.c 0
        have n1 : W5.cell? ⟨g + 1, 1, none⟩ = some (.int .i64 A.at_) := H6.out.1.ba.c 1
        have n3 : W5.cell? ⟨g + 1, 3, none⟩ = some (.slice A.a A.len A.cap) := H6.out.1.ba.c 3
        clear H5 em1
        by_cases e1 : A.d = 1
        · rw [e1] at n0
          have hxl := HA.out.2.1.row.len_eq
          have hW : Calls Try.prog 19 #[.pointer (some ⟨fb, 0, none⟩), .int .i64 A.at_, .slice A.a A.len A.cap] W5 fun e w' => e = .returned (.int .i64 (m1.write A.at_ A.xs).2) ∧ Chg (foot fb bb db wb) W5 w' ∧ PRep w' fb bb db wb (m1.write A.at_ A.xs).1 (fun _ => False) := by
            have R0 := HA.out.2.1.row
            rw [← hxl] at R0 ⊢
            exact prep_write H6.out.2.1 H6.out.2.2.2.2.1 (by omega) A.at_ A.a A.cap A.xs (R0.below H6.out.1.below) (H6.out.1.away R0)
          have hkw := keeps_write H6.out.2.2.2.2.1 H6.out.2.2.2.2.2.1 A.at_ A.xs
          have hgw := Fm.good_write H6.out.2.2.2.2.1 A.at_ A.xs
          have HK : Hid _ := And.intro hkw (And.intro hgw (write_len H6.out.2.2.2.2.1 A.at_ A.xs))
          clear hxl hkw hgw
          go_wp2_with fail
          with_reducible refine hW.mono ?_
          rintro e W7 ⟨rfl, hc7, hP7⟩
          generalize (m1.write A.at_ A.xs).1 = m2 at *
          generalize (m1.write A.at_ A.xs).2 = E at *
          have h7 : KS w W7 g fb bb db wb s p b A ∧ PRep W7 fb bb db wb m2 (fun _ => False) ∧ Box W7 ga 5 (bv m.B) ∧ ¬ foot fb bb db wb ga := ⟨H6.out.1.step hc7, hP7, hc7.box H6.out.2.2.1 H6.out.2.2.2.1, H6.out.2.2.2.1⟩
          have H7 : Hid _ := h7
          have k1 : W7.cell? ⟨g + 1, 1, none⟩ = some (.int .i64 A.at_) := h7.1.ba.c 1
          have kp : W7.cell? ⟨g, 1, none⟩ = some (.int .i64 p) := h7.1.bg.c 1
          have kb : W7.cell? ⟨g, 2, none⟩ = some (.int .i64 b) := h7.1.bg.c 2
          clear h7 hc7 hP7 hW n0 n1 n3
          have HLN : Hid (m2.boot.B.length = m.B.length) := by
            show m2.B.length = m.B.length
            rw [HK.out.2.2, H6.out.2.2.2.2.2.2.1]
          rcases HK.out.1 with ⟨hE0 | hE0, i, hat, hfit, hkeep⟩ | ⟨hbad, hsame⟩
          · rw [hat] at k1
            clear hat
            obtain ⟨lo, hlo⟩ : ∃ lo, i * b = lo := ⟨_, rfl⟩
            obtain ⟨hi', hhi⟩ : ∃ hi', lo + b = hi' := ⟨_, rfl⟩
            have e6 := H6.out.2.2.2.2.2.2
            rw [e6.1, e6.2.2, hlo, hhi] at hfit hkeep
            have hlm : lo ≤ 16384 := by omega
            have hw1 : IntKind.i64.wrap ((i : Int) * (b : Int)) = (lo : Int) := by rw [← Int.natCast_mul, hlo, IntKind.wrap_i64]; omega
            have hw2 : IntKind.i64.wrap ((lo : Int) + (b : Int)) = (hi' : Int) := by rw [IntKind.wrap_i64]; omega
            have HKP : Hid (∀ j, (j < lo ∨ hi' ≤ j) → m2.B[j]? = m.B[j]?) := hkeep
            clear hkeep hfit e6 hlo hhi
            subst hE0
            go_wp2_with (first | (go_at_call 11; with_reducible refine (hn0 _).mono ?_; rintro e w' ⟨rfl, rfl⟩))
            go_quiet (fail)
            have HX : Hid _ := And.intro (H7.out.1.grown (grown_drewN (World.grownBy.refl _ _) nq)) (And.intro (H7.out.2.1.grown (grown_drewN (World.grownBy.refl _ _) nq)) (And.intro (H7.out.2.2.1.grown (grown_drewN (World.grownBy.refl _ _) nq)) H7.out.2.2.2))
            generalize W7.drewN nq = WX at *
            clear H7 k1 kp kb
            have hB8 := prep_boot HX.out.2.1
            go_wp2_with fail
            with_reducible refine hB8.mono ?_
            rintro e W8 ⟨rfl, hc8, hP8⟩
            have hlen : m2.boot.B.length = m.B.length := HLN.out
            have gb := Fm.good_boot HK.out.2.1
            have hS8 := hP8.size
            have hR8 := prep_read hP8 gb 0 (m2.boot.B.length : Int) (by decide) (by rw [hlen]; omega)
            have er8 : rdE m2.boot.B.length m2.boot.off 0 (m2.boot.B.length : Int) = 0 := by unfold rdE; rw [if_neg (by omega), if_neg (by simp [Fm.boot])]
            unfold PdPost at hR8
            rw [er8] at hR8
            rw [hlen] at hS8 hR8
            have hK8 := HX.out.1.step hc8
            have hb8 := hc8.box HX.out.2.2.1 HX.out.2.2.2
            have H8 : Hid _ := And.intro hK8 hb8
            clear hc8 hP8 hB8 hlen gb er8 hK8 hb8
            go_wp2_with (first | (go_at_call 22; with_reducible refine hS8.mono ?_; rintro e w' ⟨rfl, rfl⟩))
            refine hR8.mono ?_
            rintro e W9 ⟨v9, rfl, hg9, ⟨x, _⟩ | ⟨_, gn, rfl, hgn, hb9, _⟩⟩
            · exact absurd rfl x
            have eB9 : (m2.boot.B.drop (Int.toNat 0)).take (Int.toNat (m.B.length : Int)) = m2.B := by
              have := HLN.out
              show (m2.B.drop 0).take m.B.length = m2.B
              rw [List.drop_zero, ← this]; exact List.take_of_length_le (Nat.le_refl _)
            rw [eB9] at hb9
            simp only [Int.toNat_natCast]
            have H9 : Hid _ := And.intro (H8.out.1.grown hg9) (And.intro (H8.out.2.grown hg9) hb9)
            clear hg9 hgn hb9 eB9 H8 HX hR8 hS8
            go_wp2_with (first | (go_at_call 11; with_reducible refine (hn0 _).mono ?_; rintro e w' ⟨rfl, rfl⟩))
            go_loopw [20] (fun vj wr => ∃ j : Nat, vj = .int .i64 j ∧ j ≤ m.B.length ∧ Hid (∃ k, wr = W9.drewN k)) (fun vj _ => m.B.length - (intOf vj).toNat)
            case atStart => exact ⟨0, rfl, Nat.zero_le _, 0, rfl⟩
            case round =>
              obtain ⟨j, rfl, j1, HE⟩ := hrel
              by_cases hj : j < m.B.length
              · have h9 : KS w wr g fb bb db wb s p b A ∧ Box wr ga 5 (bv m.B) ∧ Box wr gn 5 (bv m2.B) := by
                  obtain ⟨k, rfl⟩ := HE.out
                  have hgk : W9.grownBy (W9.drewN k) none := grown_drewN (World.grownBy.refl _ _) k
                  exact ⟨H9.out.1.grown hgk, H9.out.2.1.grown hgk, H9.out.2.2.grown hgk⟩
                have hj2 : j < m2.B.length := by have := HLN.out; show j < m2.boot.B.length; omega
                have ca : wr.cell? ⟨ga, j, none⟩ = some (.int .u8 (m.B.getD j 0)) := by rw [h9.2.1.c j, bv_getElem? _ _ hj]
                have cn : wr.cell? ⟨gn, j, none⟩ = some (.int .u8 (m2.B.getD j 0)) := by rw [h9.2.2.c j, bv_getElem? _ _ hj2]
                clear h9
                have hj' : (j : Int) < (m.B.length : Int) := by omega
                by_cases ho : j < lo ∨ hi' ≤ j
                · have he : m2.B.getD j 0 = m.B.getD j 0 := by rw [List.getD_eq_getElem?_getD, HKP.out j ho, ← List.getD_eq_getElem?_getD]
                  rw [he] at cn
                  generalize m.B.getD j 0 = u at ca cn
                  clear he
                  by_cases h1 : j < lo
                  · have h1' : (j : Int) < (lo : Int) := by omega
                    go_wp2_with fail
                    go_quiet (fail)
                    go_wp2_with fail
                    go_roundw
                    case rel => obtain ⟨k, rfl⟩ := HE.out; exact ⟨j + 1, by go_num, by omega, k + nq, by rw [World.drewN_drewN]⟩
                    case measure => simp [intOf]; omega
                  · have h1' : decide ((j : Int) < (lo : Int)) = false := decide_eq_false (by omega)
                    have h1'' : ¬ ((j : Int) < (lo : Int)) := by omega
                    have h2' : (hi' : Int) ≤ (j : Int) := by omega
                    go_wp2_with fail
                    go_quiet (fail)
                    go_wp2_with fail
                    go_roundw
                    case rel => obtain ⟨k, rfl⟩ := HE.out; exact ⟨j + 1, by go_num, by omega, k + nq, by rw [World.drewN_drewN]⟩
                    case measure => simp [intOf]; omega
                · have h1' : decide ((j : Int) < (lo : Int)) = false := decide_eq_false (by omega)
                  have h1'' : ¬ ((j : Int) < (lo : Int)) := by omega
                  have h2' : decide ((hi' : Int) ≤ (j : Int)) = false := decide_eq_false (by omega)
                  have h2'' : ¬ ((hi' : Int) ≤ (j : Int)) := by omega
                  have h1n : ¬ (j < lo) := by omega
                  have h2n : ¬ (hi' ≤ j) := by omega
                  clear ho
                  go_wp2_with fail
                  go_quiet (fail)
                  go_wp2_with fail
                  go_roundw
                  case rel => obtain ⟨k, rfl⟩ := HE.out; exact ⟨j + 1, by go_num, by omega, k + nq, by rw [World.drewN_drewN]⟩
                  case measure => simp [intOf]; omega
              · have ej : j = m.B.length := by omega
                subst ej
                go_wp2_with (first | (go_at_call 9; refine (live_any _).mono ?_; rintro e W10 ⟨rfl, hg10⟩))
                go_ret
                obtain ⟨k, rfl⟩ := HE.out
                have hgk : W9.grownBy (W9.drewN k) none := grown_drewN (World.grownBy.refl _ _) k
                have hbk := (H9.out.1.grown hgk).below
                exact ⟨rfl, hbk.trans ((grown_below hg10).mono hbk.size)⟩
          · rw [hat] at k1
            clear hat
            obtain ⟨lo, hlo⟩ : ∃ lo, i * b = lo := ⟨_, rfl⟩
            obtain ⟨hi', hhi⟩ : ∃ hi', lo + b = hi' := ⟨_, rfl⟩
            have e6 := H6.out.2.2.2.2.2.2
            rw [e6.1, e6.2.2, hlo, hhi] at hfit hkeep
            have hlm : lo ≤ 16384 := by omega
            have hw1 : IntKind.i64.wrap ((i : Int) * (b : Int)) = (lo : Int) := by rw [← Int.natCast_mul, hlo, IntKind.wrap_i64]; omega
            have hw2 : IntKind.i64.wrap ((lo : Int) + (b : Int)) = (hi' : Int) := by rw [IntKind.wrap_i64]; omega
            have HKP : Hid (∀ j, (j < lo ∨ hi' ≤ j) → m2.B[j]? = m.B[j]?) := hkeep
            clear hkeep hfit e6 hlo hhi
            subst hE0
            go_wp2_with (first | (go_at_call 11; with_reducible refine (hn40 _).mono ?_; rintro e w' ⟨rfl, rfl⟩))
            go_quiet (fail)
            have HX : Hid _ := And.intro (H7.out.1.grown (grown_drewN (World.grownBy.refl _ _) nq)) (And.intro (H7.out.2.1.grown (grown_drewN (World.grownBy.refl _ _) nq)) (And.intro (H7.out.2.2.1.grown (grown_drewN (World.grownBy.refl _ _) nq)) H7.out.2.2.2))
            generalize W7.drewN nq = WX at *
            clear H7 k1 kp kb
            have hB8 := prep_boot HX.out.2.1
            go_wp2_with fail
            with_reducible refine hB8.mono ?_
            rintro e W8 ⟨rfl, hc8, hP8⟩
            have hlen : m2.boot.B.length = m.B.length := HLN.out
            have gb := Fm.good_boot HK.out.2.1
            have hS8 := hP8.size
            have hR8 := prep_read hP8 gb 0 (m2.boot.B.length : Int) (by decide) (by rw [hlen]; omega)
            have er8 : rdE m2.boot.B.length m2.boot.off 0 (m2.boot.B.length : Int) = 0 := by unfold rdE; rw [if_neg (by omega), if_neg (by simp [Fm.boot])]
            unfold PdPost at hR8
            rw [er8] at hR8
            rw [hlen] at hS8 hR8
            have hK8 := HX.out.1.step hc8
            have hb8 := hc8.box HX.out.2.2.1 HX.out.2.2.2
            have H8 : Hid _ := And.intro hK8 hb8
            clear hc8 hP8 hB8 hlen gb er8 hK8 hb8
            go_wp2_with (first | (go_at_call 22; with_reducible refine hS8.mono ?_; rintro e w' ⟨rfl, rfl⟩))
            refine hR8.mono ?_
            rintro e W9 ⟨v9, rfl, hg9, ⟨x, _⟩ | ⟨_, gn, rfl, hgn, hb9, _⟩⟩
            · exact absurd rfl x
            have eB9 : (m2.boot.B.drop (Int.toNat 0)).take (Int.toNat (m.B.length : Int)) = m2.B := by
              have := HLN.out
              show (m2.B.drop 0).take m.B.length = m2.B
              rw [List.drop_zero, ← this]; exact List.take_of_length_le (Nat.le_refl _)
            rw [eB9] at hb9
            simp only [Int.toNat_natCast]
            have H9 : Hid _ := And.intro (H8.out.1.grown hg9) (And.intro (H8.out.2.grown hg9) hb9)
            clear hg9 hgn hb9 eB9 H8 HX hR8 hS8
            go_wp2_with (first | (go_at_call 11; with_reducible refine (hn0 _).mono ?_; rintro e w' ⟨rfl, rfl⟩))
            go_loopw [20] (fun vj wr => ∃ j : Nat, vj = .int .i64 j ∧ j ≤ m.B.length ∧ Hid (∃ k, wr = W9.drewN k)) (fun vj _ => m.B.length - (intOf vj).toNat)
            case atStart => exact ⟨0, rfl, Nat.zero_le _, 0, rfl⟩
            case round =>
              obtain ⟨j, rfl, j1, HE⟩ := hrel
              by_cases hj : j < m.B.length
              · have h9 : KS w wr g fb bb db wb s p b A ∧ Box wr ga 5 (bv m.B) ∧ Box wr gn 5 (bv m2.B) := by
                  obtain ⟨k, rfl⟩ := HE.out
                  have hgk : W9.grownBy (W9.drewN k) none := grown_drewN (World.grownBy.refl _ _) k
                  exact ⟨H9.out.1.grown hgk, H9.out.2.1.grown hgk, H9.out.2.2.grown hgk⟩
                have hj2 : j < m2.B.length := by have := HLN.out; show j < m2.boot.B.length; omega
                have ca : wr.cell? ⟨ga, j, none⟩ = some (.int .u8 (m.B.getD j 0)) := by rw [h9.2.1.c j, bv_getElem? _ _ hj]
                have cn : wr.cell? ⟨gn, j, none⟩ = some (.int .u8 (m2.B.getD j 0)) := by rw [h9.2.2.c j, bv_getElem? _ _ hj2]
                clear h9
                have hj' : (j : Int) < (m.B.length : Int) := by omega
                by_cases ho : j < lo ∨ hi' ≤ j
                · have he : m2.B.getD j 0 = m.B.getD j 0 := by rw [List.getD_eq_getElem?_getD, HKP.out j ho, ← List.getD_eq_getElem?_getD]
                  rw [he] at cn
                  generalize m.B.getD j 0 = u at ca cn
                  clear he
                  by_cases h1 : j < lo
                  · have h1' : (j : Int) < (lo : Int) := by omega
                    go_wp2_with fail
                    go_quiet (fail)
                    go_wp2_with fail
                    go_roundw
                    case rel => obtain ⟨k, rfl⟩ := HE.out; exact ⟨j + 1, by go_num, by omega, k + nq, by rw [World.drewN_drewN]⟩
                    case measure => simp [intOf]; omega
                  · have h1' : decide ((j : Int) < (lo : Int)) = false := decide_eq_false (by omega)
                    have h1'' : ¬ ((j : Int) < (lo : Int)) := by omega
                    have h2' : (hi' : Int) ≤ (j : Int) := by omega
                    go_wp2_with fail
                    go_quiet (fail)
                    go_wp2_with fail
                    go_roundw
                    case rel => obtain ⟨k, rfl⟩ := HE.out; exact ⟨j + 1, by go_num, by omega, k + nq, by rw [World.drewN_drewN]⟩
                    case measure => simp [intOf]; omega
                · have h1' : decide ((j : Int) < (lo : Int)) = false := decide_eq_false (by omega)
                  have h1'' : ¬ ((j : Int) < (lo : Int)) := by omega
                  have h2' : decide ((hi' : Int) ≤ (j : Int)) = false := decide_eq_false (by omega)
                  have h2'' : ¬ ((hi' : Int) ≤ (j : Int)) := by omega
                  have h1n : ¬ (j < lo) := by omega
                  have h2n : ¬ (hi' ≤ j) := by omega
                  clear ho
                  go_wp2_with fail
                  go_quiet (fail)
                  go_wp2_with fail
                  go_roundw
                  case rel => obtain ⟨k, rfl⟩ := HE.out; exact ⟨j + 1, by go_num, by omega, k + nq, by rw [World.drewN_drewN]⟩
                  case measure => simp [intOf]; omega
              · have ej : j = m.B.length := by omega
                subst ej
                go_wp2_with (first | (go_at_call 9; refine (live_any _).mono ?_; rintro e W10 ⟨rfl, hg10⟩))
                go_ret
                obtain ⟨k, rfl⟩ := HE.out
                have hgk : W9.grownBy (W9.drewN k) none := grown_drewN (World.grownBy.refl _ _) k
                have hbk := (H9.out.1.grown hgk).below
                exact ⟨rfl, hbk.trans ((grown_below hg10).mono hbk.size)⟩
          · have hE0 : (E == 0) = false := by rcases hbad with rfl | rfl | rfl <;> rfl
            have hE40 : (E == 40) = false := by rcases hbad with rfl | rfl | rfl <;> rfl
            have hnE : ∀ W, _ := fun W => num_any E W (by omega)
            have HX : Hid _ := H7.out
            have HKP : Hid (∀ j : Nat, m2.B[j]? = m.B[j]?) := fun j => by rw [hsame, H6.out.2.2.2.2.2.2.1]
            clear hbad hsame
            go_wp2_with (first | (go_at_call 11; with_reducible refine (hnE _).mono ?_; rintro e w' ⟨rfl, rfl⟩))
            clear H7 k1 kp kb
            have hB8 := prep_boot HX.out.2.1
            go_wp2_with fail
            with_reducible refine hB8.mono ?_
            rintro e W8 ⟨rfl, hc8, hP8⟩
            have hlen : m2.boot.B.length = m.B.length := HLN.out
            have gb := Fm.good_boot HK.out.2.1
            have hS8 := hP8.size
            have hR8 := prep_read hP8 gb 0 (m2.boot.B.length : Int) (by decide) (by rw [hlen]; omega)
            have er8 : rdE m2.boot.B.length m2.boot.off 0 (m2.boot.B.length : Int) = 0 := by unfold rdE; rw [if_neg (by omega), if_neg (by simp [Fm.boot])]
            unfold PdPost at hR8
            rw [er8] at hR8
            rw [hlen] at hS8 hR8
            have hK8 := HX.out.1.step hc8
            have hb8 := hc8.box HX.out.2.2.1 HX.out.2.2.2
            have H8 : Hid _ := And.intro hK8 hb8
            clear hc8 hP8 hB8 hlen gb er8 hK8 hb8
            go_wp2_with (first | (go_at_call 22; with_reducible refine hS8.mono ?_; rintro e w' ⟨rfl, rfl⟩))
            refine hR8.mono ?_
            rintro e W9 ⟨v9, rfl, hg9, ⟨x, _⟩ | ⟨_, gn, rfl, hgn, hb9, _⟩⟩
            · exact absurd rfl x
            have eB9 : (m2.boot.B.drop (Int.toNat 0)).take (Int.toNat (m.B.length : Int)) = m2.B := by
              have := HLN.out
              show (m2.B.drop 0).take m.B.length = m2.B
              rw [List.drop_zero, ← this]; exact List.take_of_length_le (Nat.le_refl _)
            rw [eB9] at hb9
            simp only [Int.toNat_natCast]
            have H9 : Hid _ := And.intro (H8.out.1.grown hg9) (And.intro (H8.out.2.grown hg9) hb9)
            clear hg9 hgn hb9 eB9 H8 HX hR8 hS8
            go_wp2_with (first | (go_at_call 11; with_reducible refine (hn0 _).mono ?_; rintro e w' ⟨rfl, rfl⟩))
            go_loopw [20] (fun vj wr => ∃ j : Nat, vj = .int .i64 j ∧ j ≤ m.B.length ∧ Hid (∃ k, wr = W9.drewN k)) (fun vj _ => m.B.length - (intOf vj).toNat)
            case atStart => exact ⟨0, rfl, Nat.zero_le _, 0, rfl⟩
            case round =>
              obtain ⟨j, rfl, j1, HE⟩ := hrel
              by_cases hj : j < m.B.length
              · have h9 : KS w wr g fb bb db wb s p b A ∧ Box wr ga 5 (bv m.B) ∧ Box wr gn 5 (bv m2.B) := by
                  obtain ⟨k, rfl⟩ := HE.out
                  have hgk : W9.grownBy (W9.drewN k) none := grown_drewN (World.grownBy.refl _ _) k
                  exact ⟨H9.out.1.grown hgk, H9.out.2.1.grown hgk, H9.out.2.2.grown hgk⟩
                have hj2 : j < m2.B.length := by have := HLN.out; show j < m2.boot.B.length; omega
                have ca : wr.cell? ⟨ga, j, none⟩ = some (.int .u8 (m.B.getD j 0)) := by rw [h9.2.1.c j, bv_getElem? _ _ hj]
                have cn : wr.cell? ⟨gn, j, none⟩ = some (.int .u8 (m2.B.getD j 0)) := by rw [h9.2.2.c j, bv_getElem? _ _ hj2]
                clear h9
                have hj' : (j : Int) < (m.B.length : Int) := by omega
                have he : m2.B.getD j 0 = m.B.getD j 0 := by rw [List.getD_eq_getElem?_getD, HKP.out j, ← List.getD_eq_getElem?_getD]
                rw [he] at cn
                generalize m.B.getD j 0 = u at ca cn
                clear he
                have h1' : decide ((j : Int) < 0) = false := decide_eq_false (by omega)
                have h1'' : ¬ ((j : Int) < 0) := by omega
                have h2' : (0 : Int) ≤ (j : Int) := by omega
                go_wp2_with fail
                go_quiet (fail)
                go_wp2_with fail
                go_roundw
                case rel => obtain ⟨k, rfl⟩ := HE.out; exact ⟨j + 1, by go_num, by omega, k + nq, by rw [World.drewN_drewN]⟩
                case measure => simp [intOf]; omega
              · have ej : j = m.B.length := by omega
                subst ej
                go_wp2_with (first | (go_at_call 9; refine (live_any _).mono ?_; rintro e W10 ⟨rfl, hg10⟩))
                go_ret
                obtain ⟨k, rfl⟩ := HE.out
                have hgk : W9.grownBy (W9.drewN k) none := grown_drewN (World.grownBy.refl _ _) k
                have hbk := (H9.out.1.grown hgk).below
                exact ⟨rfl, hbk.trans ((grown_below hg10).mono hbk.size)⟩
        · have e1' : (A.d == 1) = false := by simpa using e1
          have hW := prep_erase H6.out.2.1 H6.out.2.2.2.2.1 (by omega) A.at_
          have hkw := keeps_erase H6.out.2.2.2.2.1 H6.out.2.2.2.2.2.1 A.at_
          have hgw := Fm.good_erase H6.out.2.2.2.2.1 A.at_
          have HK : Hid _ := And.intro hkw (And.intro hgw (erase_len H6.out.2.2.2.2.1 A.at_))
          clear hkw hgw
          go_wp2_with fail
          with_reducible refine hW.mono ?_
          rintro e W7 ⟨rfl, hc7, hP7⟩
          generalize (m1.erase A.at_).1 = m2 at *
          generalize (m1.erase A.at_).2 = E at *
          have h7 : KS w W7 g fb bb db wb s p b A ∧ PRep W7 fb bb db wb m2 (fun _ => False) ∧ Box W7 ga 5 (bv m.B) ∧ ¬ foot fb bb db wb ga := ⟨H6.out.1.step hc7, hP7, hc7.box H6.out.2.2.1 H6.out.2.2.2.1, H6.out.2.2.2.1⟩
          have H7 : Hid _ := h7
          have k1 : W7.cell? ⟨g + 1, 1, none⟩ = some (.int .i64 A.at_) := h7.1.ba.c 1
          have kp : W7.cell? ⟨g, 1, none⟩ = some (.int .i64 p) := h7.1.bg.c 1
          have kb : W7.cell? ⟨g, 2, none⟩ = some (.int .i64 b) := h7.1.bg.c 2
          clear h7 hc7 hP7 hW n0 n1 n3
          have HLN : Hid (m2.boot.B.length = m.B.length) := by
            show m2.B.length = m.B.length
            rw [HK.out.2.2, H6.out.2.2.2.2.2.2.1]
          rcases HK.out.1 with ⟨hE0 | hE0, i, hat, hfit, hkeep⟩ | ⟨hbad, hsame⟩
          · rw [hat] at k1
            clear hat
            obtain ⟨q1, hq1⟩ : ∃ q1, i * p = q1 := ⟨_, rfl⟩
            obtain ⟨lo, hlo⟩ : ∃ lo, q1 * b = lo := ⟨_, rfl⟩
            obtain ⟨q2, hq2⟩ : ∃ q2, (i + 1) * p = q2 := ⟨_, rfl⟩
            obtain ⟨hi', hhi⟩ : ∃ hi', q2 * b = hi' := ⟨_, rfl⟩
            have e6 := H6.out.2.2.2.2.2.2
            have elo : i * (p * b) = lo := by rw [← Nat.mul_assoc, hq1, hlo]
            have ehi : lo + p * b = hi' := by rw [← hhi, ← hq2, ← elo, Nat.add_mul, Nat.add_mul, Nat.one_mul, Nat.mul_assoc]
            rw [e6.1, e6.2.1, e6.2.2, elo, ehi] at hfit hkeep
            have hb0 : 0 < b := by omega
            have hq2m : q2 ≤ hi' := by rw [← hhi]; exact Nat.le_mul_of_pos_right _ hb0
            have hq1m : q1 ≤ q2 := by rw [← hq1, ← hq2]; exact Nat.mul_le_mul_right _ (by omega)
            have him : i ≤ q1 := by rw [← hq1]; exact Nat.le_mul_of_pos_right _ hp.1
            have hlm : lo ≤ hi' := by omega
            have hw1 : IntKind.i64.wrap ((i : Int) * (p : Int)) = (q1 : Int) := by rw [← Int.natCast_mul, hq1, IntKind.wrap_i64]; omega
            have hw2 : IntKind.i64.wrap ((q1 : Int) * (b : Int)) = (lo : Int) := by rw [← Int.natCast_mul, hlo, IntKind.wrap_i64]; omega
            have hw3 : IntKind.i64.wrap ((i : Int) + 1) = (i : Int) + 1 := by rw [IntKind.wrap_i64]; omega
            have hw4 : IntKind.i64.wrap (((i : Int) + 1) * (p : Int)) = (q2 : Int) := by rw [show ((i : Int) + 1) = ((i + 1 : Nat) : Int) by omega, ← Int.natCast_mul, hq2, IntKind.wrap_i64]; omega
            have hw5 : IntKind.i64.wrap ((q2 : Int) * (b : Int)) = (hi' : Int) := by rw [← Int.natCast_mul, hhi, IntKind.wrap_i64]; omega
            have HKP : Hid (∀ j, (j < lo ∨ hi' ≤ j) → m2.B[j]? = m.B[j]?) := hkeep
            clear hkeep hfit e6 hlo hhi hq1 hq2 elo ehi hq2m hq1m him
            subst hE0
            go_wp2_with (first | (go_at_call 11; with_reducible refine (hn0 _).mono ?_; rintro e w' ⟨rfl, rfl⟩))
            go_quiet (fail)
            have HX : Hid _ := And.intro (H7.out.1.grown (grown_drewN (World.grownBy.refl _ _) nq)) (And.intro (H7.out.2.1.grown (grown_drewN (World.grownBy.refl _ _) nq)) (And.intro (H7.out.2.2.1.grown (grown_drewN (World.grownBy.refl _ _) nq)) H7.out.2.2.2))
            generalize W7.drewN nq = WX at *
            clear H7 k1 kp kb
            have hB8 := prep_boot HX.out.2.1
            go_wp2_with fail
            with_reducible refine hB8.mono ?_
            rintro e W8 ⟨rfl, hc8, hP8⟩
            have hlen : m2.boot.B.length = m.B.length := HLN.out
            have gb := Fm.good_boot HK.out.2.1
            have hS8 := hP8.size
            have hR8 := prep_read hP8 gb 0 (m2.boot.B.length : Int) (by decide) (by rw [hlen]; omega)
            have er8 : rdE m2.boot.B.length m2.boot.off 0 (m2.boot.B.length : Int) = 0 := by unfold rdE; rw [if_neg (by omega), if_neg (by simp [Fm.boot])]
            unfold PdPost at hR8
            rw [er8] at hR8
            rw [hlen] at hS8 hR8
            have hK8 := HX.out.1.step hc8
            have hb8 := hc8.box HX.out.2.2.1 HX.out.2.2.2
            have H8 : Hid _ := And.intro hK8 hb8
            clear hc8 hP8 hB8 hlen gb er8 hK8 hb8
            go_wp2_with (first | (go_at_call 22; with_reducible refine hS8.mono ?_; rintro e w' ⟨rfl, rfl⟩))
            refine hR8.mono ?_
            rintro e W9 ⟨v9, rfl, hg9, ⟨x, _⟩ | ⟨_, gn, rfl, hgn, hb9, _⟩⟩
            · exact absurd rfl x
            have eB9 : (m2.boot.B.drop (Int.toNat 0)).take (Int.toNat (m.B.length : Int)) = m2.B := by
              have := HLN.out
              show (m2.B.drop 0).take m.B.length = m2.B
              rw [List.drop_zero, ← this]; exact List.take_of_length_le (Nat.le_refl _)
            rw [eB9] at hb9
            simp only [Int.toNat_natCast]
            have H9 : Hid _ := And.intro (H8.out.1.grown hg9) (And.intro (H8.out.2.grown hg9) hb9)
            clear hg9 hgn hb9 eB9 H8 HX hR8 hS8
            go_wp2_with (first | (go_at_call 11; with_reducible refine (hn0 _).mono ?_; rintro e w' ⟨rfl, rfl⟩))
            go_loopw [20] (fun vj wr => ∃ j : Nat, vj = .int .i64 j ∧ j ≤ m.B.length ∧ Hid (∃ k, wr = W9.drewN k)) (fun vj _ => m.B.length - (intOf vj).toNat)
            case atStart => exact ⟨0, rfl, Nat.zero_le _, 0, rfl⟩
            case round =>
              obtain ⟨j, rfl, j1, HE⟩ := hrel
              by_cases hj : j < m.B.length
              · have h9 : KS w wr g fb bb db wb s p b A ∧ Box wr ga 5 (bv m.B) ∧ Box wr gn 5 (bv m2.B) := by
                  obtain ⟨k, rfl⟩ := HE.out
                  have hgk : W9.grownBy (W9.drewN k) none := grown_drewN (World.grownBy.refl _ _) k
                  exact ⟨H9.out.1.grown hgk, H9.out.2.1.grown hgk, H9.out.2.2.grown hgk⟩
                have hj2 : j < m2.B.length := by have := HLN.out; show j < m2.boot.B.length; omega
                have ca : wr.cell? ⟨ga, j, none⟩ = some (.int .u8 (m.B.getD j 0)) := by rw [h9.2.1.c j, bv_getElem? _ _ hj]
                have cn : wr.cell? ⟨gn, j, none⟩ = some (.int .u8 (m2.B.getD j 0)) := by rw [h9.2.2.c j, bv_getElem? _ _ hj2]
                clear h9
                have hj' : (j : Int) < (m.B.length : Int) := by omega
                by_cases ho : j < lo ∨ hi' ≤ j
                · have he : m2.B.getD j 0 = m.B.getD j 0 := by rw [List.getD_eq_getElem?_getD, HKP.out j ho, ← List.getD_eq_getElem?_getD]
                  rw [he] at cn
                  generalize m.B.getD j 0 = u at ca cn
                  clear he
                  by_cases h1 : j < lo
                  · have h1' : (j : Int) < (lo : Int) := by omega
                    go_wp2_with fail
                    go_quiet (fail)
                    go_wp2_with fail
                    go_roundw
                    case rel => obtain ⟨k, rfl⟩ := HE.out; exact ⟨j + 1, by go_num, by omega, k + nq, by rw [World.drewN_drewN]⟩
                    case measure => simp [intOf]; omega
                  · have h1' : decide ((j : Int) < (lo : Int)) = false := decide_eq_false (by omega)
                    have h1'' : ¬ ((j : Int) < (lo : Int)) := by omega
                    have h2' : (hi' : Int) ≤ (j : Int) := by omega
                    go_wp2_with fail
                    go_quiet (fail)
                    go_wp2_with fail
                    go_roundw
                    case rel => obtain ⟨k, rfl⟩ := HE.out; exact ⟨j + 1, by go_num, by omega, k + nq, by rw [World.drewN_drewN]⟩
                    case measure => simp [intOf]; omega
                · have h1' : decide ((j : Int) < (lo : Int)) = false := decide_eq_false (by omega)
                  have h1'' : ¬ ((j : Int) < (lo : Int)) := by omega
                  have h2' : decide ((hi' : Int) ≤ (j : Int)) = false := decide_eq_false (by omega)
                  have h2'' : ¬ ((hi' : Int) ≤ (j : Int)) := by omega
                  have h1n : ¬ (j < lo) := by omega
                  have h2n : ¬ (hi' ≤ j) := by omega
                  clear ho
                  go_wp2_with fail
                  go_quiet (fail)
                  go_wp2_with fail
                  go_roundw
                  case rel => obtain ⟨k, rfl⟩ := HE.out; exact ⟨j + 1, by go_num, by omega, k + nq, by rw [World.drewN_drewN]⟩
                  case measure => simp [intOf]; omega
              · have ej : j = m.B.length := by omega
                subst ej
                go_wp2_with (first | (go_at_call 9; refine (live_any _).mono ?_; rintro e W10 ⟨rfl, hg10⟩))
                go_ret
                obtain ⟨k, rfl⟩ := HE.out
                have hgk : W9.grownBy (W9.drewN k) none := grown_drewN (World.grownBy.refl _ _) k
                have hbk := (H9.out.1.grown hgk).below
                exact ⟨rfl, hbk.trans ((grown_below hg10).mono hbk.size)⟩
          · rw [hat] at k1
            clear hat
            obtain ⟨q1, hq1⟩ : ∃ q1, i * p = q1 := ⟨_, rfl⟩
            obtain ⟨lo, hlo⟩ : ∃ lo, q1 * b = lo := ⟨_, rfl⟩
            obtain ⟨q2, hq2⟩ : ∃ q2, (i + 1) * p = q2 := ⟨_, rfl⟩
            obtain ⟨hi', hhi⟩ : ∃ hi', q2 * b = hi' := ⟨_, rfl⟩
            have e6 := H6.out.2.2.2.2.2.2
            have elo : i * (p * b) = lo := by rw [← Nat.mul_assoc, hq1, hlo]
            have ehi : lo + p * b = hi' := by rw [← hhi, ← hq2, ← elo, Nat.add_mul, Nat.add_mul, Nat.one_mul, Nat.mul_assoc]
            rw [e6.1, e6.2.1, e6.2.2, elo, ehi] at hfit hkeep
            have hb0 : 0 < b := by omega
            have hq2m : q2 ≤ hi' := by rw [← hhi]; exact Nat.le_mul_of_pos_right _ hb0
            have hq1m : q1 ≤ q2 := by rw [← hq1, ← hq2]; exact Nat.mul_le_mul_right _ (by omega)
            have him : i ≤ q1 := by rw [← hq1]; exact Nat.le_mul_of_pos_right _ hp.1
            have hlm : lo ≤ hi' := by omega
            have hw1 : IntKind.i64.wrap ((i : Int) * (p : Int)) = (q1 : Int) := by rw [← Int.natCast_mul, hq1, IntKind.wrap_i64]; omega
            have hw2 : IntKind.i64.wrap ((q1 : Int) * (b : Int)) = (lo : Int) := by rw [← Int.natCast_mul, hlo, IntKind.wrap_i64]; omega
            have hw3 : IntKind.i64.wrap ((i : Int) + 1) = (i : Int) + 1 := by rw [IntKind.wrap_i64]; omega
            have hw4 : IntKind.i64.wrap (((i : Int) + 1) * (p : Int)) = (q2 : Int) := by rw [show ((i : Int) + 1) = ((i + 1 : Nat) : Int) by omega, ← Int.natCast_mul, hq2, IntKind.wrap_i64]; omega
            have hw5 : IntKind.i64.wrap ((q2 : Int) * (b : Int)) = (hi' : Int) := by rw [← Int.natCast_mul, hhi, IntKind.wrap_i64]; omega
            have HKP : Hid (∀ j, (j < lo ∨ hi' ≤ j) → m2.B[j]? = m.B[j]?) := hkeep
            clear hkeep hfit e6 hlo hhi hq1 hq2 elo ehi hq2m hq1m him
            subst hE0
            go_wp2_with (first | (go_at_call 11; with_reducible refine (hn40 _).mono ?_; rintro e w' ⟨rfl, rfl⟩))
            go_quiet (fail)
            have HX : Hid _ := And.intro (H7.out.1.grown (grown_drewN (World.grownBy.refl _ _) nq)) (And.intro (H7.out.2.1.grown (grown_drewN (World.grownBy.refl _ _) nq)) (And.intro (H7.out.2.2.1.grown (grown_drewN (World.grownBy.refl _ _) nq)) H7.out.2.2.2))
            generalize W7.drewN nq = WX at *
            clear H7 k1 kp kb
            have hB8 := prep_boot HX.out.2.1
            go_wp2_with fail
            with_reducible refine hB8.mono ?_
            rintro e W8 ⟨rfl, hc8, hP8⟩
            have hlen : m2.boot.B.length = m.B.length := HLN.out
            have gb := Fm.good_boot HK.out.2.1
            have hS8 := hP8.size
            have hR8 := prep_read hP8 gb 0 (m2.boot.B.length : Int) (by decide) (by rw [hlen]; omega)
            have er8 : rdE m2.boot.B.length m2.boot.off 0 (m2.boot.B.length : Int) = 0 := by unfold rdE; rw [if_neg (by omega), if_neg (by simp [Fm.boot])]
            unfold PdPost at hR8
            rw [er8] at hR8
            rw [hlen] at hS8 hR8
            have hK8 := HX.out.1.step hc8
            have hb8 := hc8.box HX.out.2.2.1 HX.out.2.2.2
            have H8 : Hid _ := And.intro hK8 hb8
            clear hc8 hP8 hB8 hlen gb er8 hK8 hb8
            go_wp2_with (first | (go_at_call 22; with_reducible refine hS8.mono ?_; rintro e w' ⟨rfl, rfl⟩))
            refine hR8.mono ?_
            rintro e W9 ⟨v9, rfl, hg9, ⟨x, _⟩ | ⟨_, gn, rfl, hgn, hb9, _⟩⟩
            · exact absurd rfl x
            have eB9 : (m2.boot.B.drop (Int.toNat 0)).take (Int.toNat (m.B.length : Int)) = m2.B := by
              have := HLN.out
              show (m2.B.drop 0).take m.B.length = m2.B
              rw [List.drop_zero, ← this]; exact List.take_of_length_le (Nat.le_refl _)
            rw [eB9] at hb9
            simp only [Int.toNat_natCast]
            have H9 : Hid _ := And.intro (H8.out.1.grown hg9) (And.intro (H8.out.2.grown hg9) hb9)
            clear hg9 hgn hb9 eB9 H8 HX hR8 hS8
            go_wp2_with (first | (go_at_call 11; with_reducible refine (hn0 _).mono ?_; rintro e w' ⟨rfl, rfl⟩))
            go_loopw [20] (fun vj wr => ∃ j : Nat, vj = .int .i64 j ∧ j ≤ m.B.length ∧ Hid (∃ k, wr = W9.drewN k)) (fun vj _ => m.B.length - (intOf vj).toNat)
            case atStart => exact ⟨0, rfl, Nat.zero_le _, 0, rfl⟩
            case round =>
              obtain ⟨j, rfl, j1, HE⟩ := hrel
              by_cases hj : j < m.B.length
              · have h9 : KS w wr g fb bb db wb s p b A ∧ Box wr ga 5 (bv m.B) ∧ Box wr gn 5 (bv m2.B) := by
                  obtain ⟨k, rfl⟩ := HE.out
                  have hgk : W9.grownBy (W9.drewN k) none := grown_drewN (World.grownBy.refl _ _) k
                  exact ⟨H9.out.1.grown hgk, H9.out.2.1.grown hgk, H9.out.2.2.grown hgk⟩
                have hj2 : j < m2.B.length := by have := HLN.out; show j < m2.boot.B.length; omega
                have ca : wr.cell? ⟨ga, j, none⟩ = some (.int .u8 (m.B.getD j 0)) := by rw [h9.2.1.c j, bv_getElem? _ _ hj]
                have cn : wr.cell? ⟨gn, j, none⟩ = some (.int .u8 (m2.B.getD j 0)) := by rw [h9.2.2.c j, bv_getElem? _ _ hj2]
                clear h9
                have hj' : (j : Int) < (m.B.length : Int) := by omega
                by_cases ho : j < lo ∨ hi' ≤ j
                · have he : m2.B.getD j 0 = m.B.getD j 0 := by rw [List.getD_eq_getElem?_getD, HKP.out j ho, ← List.getD_eq_getElem?_getD]
                  rw [he] at cn
                  generalize m.B.getD j 0 = u at ca cn
                  clear he
                  by_cases h1 : j < lo
                  · have h1' : (j : Int) < (lo : Int) := by omega
                    go_wp2_with fail
                    go_quiet (fail)
                    go_wp2_with fail
                    go_roundw
                    case rel => obtain ⟨k, rfl⟩ := HE.out; exact ⟨j + 1, by go_num, by omega, k + nq, by rw [World.drewN_drewN]⟩
                    case measure => simp [intOf]; omega
                  · have h1' : decide ((j : Int) < (lo : Int)) = false := decide_eq_false (by omega)
                    have h1'' : ¬ ((j : Int) < (lo : Int)) := by omega
                    have h2' : (hi' : Int) ≤ (j : Int) := by omega
                    go_wp2_with fail
                    go_quiet (fail)
                    go_wp2_with fail
                    go_roundw
                    case rel => obtain ⟨k, rfl⟩ := HE.out; exact ⟨j + 1, by go_num, by omega, k + nq, by rw [World.drewN_drewN]⟩
                    case measure => simp [intOf]; omega
                · have h1' : decide ((j : Int) < (lo : Int)) = false := decide_eq_false (by omega)
                  have h1'' : ¬ ((j : Int) < (lo : Int)) := by omega
                  have h2' : decide ((hi' : Int) ≤ (j : Int)) = false := decide_eq_false (by omega)
                  have h2'' : ¬ ((hi' : Int) ≤ (j : Int)) := by omega
                  have h1n : ¬ (j < lo) := by omega
                  have h2n : ¬ (hi' ≤ j) := by omega
                  clear ho
                  go_wp2_with fail
                  go_quiet (fail)
                  go_wp2_with fail
                  go_roundw
                  case rel => obtain ⟨k, rfl⟩ := HE.out; exact ⟨j + 1, by go_num, by omega, k + nq, by rw [World.drewN_drewN]⟩
                  case measure => simp [intOf]; omega
              · have ej : j = m.B.length := by omega
                subst ej
                go_wp2_with (first | (go_at_call 9; refine (live_any _).mono ?_; rintro e W10 ⟨rfl, hg10⟩))
                go_ret
                obtain ⟨k, rfl⟩ := HE.out
                have hgk : W9.grownBy (W9.drewN k) none := grown_drewN (World.grownBy.refl _ _) k
                have hbk := (H9.out.1.grown hgk).below
                exact ⟨rfl, hbk.trans ((grown_below hg10).mono hbk.size)⟩
          · have hE0 : (E == 0) = false := by rw [hbad]; rfl
            have hE40 : (E == 40) = false := by rw [hbad]; rfl
            have hnE : ∀ W, _ := fun W => num_any E W (by omega)
            have HX : Hid _ := H7.out
            have HKP : Hid (∀ j : Nat, m2.B[j]? = m.B[j]?) := fun j => by rw [hsame, H6.out.2.2.2.2.2.2.1]
            clear hbad hsame
            go_wp2_with (first | (go_at_call 11; with_reducible refine (hnE _).mono ?_; rintro e w' ⟨rfl, rfl⟩))
            clear H7 k1 kp kb
            have hB8 := prep_boot HX.out.2.1
            go_wp2_with fail
            with_reducible refine hB8.mono ?_
            rintro e W8 ⟨rfl, hc8, hP8⟩
            have hlen : m2.boot.B.length = m.B.length := HLN.out
            have gb := Fm.good_boot HK.out.2.1
            have hS8 := hP8.size
            have hR8 := prep_read hP8 gb 0 (m2.boot.B.length : Int) (by decide) (by rw [hlen]; omega)
            have er8 : rdE m2.boot.B.length m2.boot.off 0 (m2.boot.B.length : Int) = 0 := by unfold rdE; rw [if_neg (by omega), if_neg (by simp [Fm.boot])]
            unfold PdPost at hR8
            rw [er8] at hR8
            rw [hlen] at hS8 hR8
            have hK8 := HX.out.1.step hc8
            have hb8 := hc8.box HX.out.2.2.1 HX.out.2.2.2
            have H8 : Hid _ := And.intro hK8 hb8
            clear hc8 hP8 hB8 hlen gb er8 hK8 hb8
            go_wp2_with (first | (go_at_call 22; with_reducible refine hS8.mono ?_; rintro e w' ⟨rfl, rfl⟩))
            refine hR8.mono ?_
            rintro e W9 ⟨v9, rfl, hg9, ⟨x, _⟩ | ⟨_, gn, rfl, hgn, hb9, _⟩⟩
            · exact absurd rfl x
            have eB9 : (m2.boot.B.drop (Int.toNat 0)).take (Int.toNat (m.B.length : Int)) = m2.B := by
              have := HLN.out
              show (m2.B.drop 0).take m.B.length = m2.B
              rw [List.drop_zero, ← this]; exact List.take_of_length_le (Nat.le_refl _)
            rw [eB9] at hb9
            simp only [Int.toNat_natCast]
            have H9 : Hid _ := And.intro (H8.out.1.grown hg9) (And.intro (H8.out.2.grown hg9) hb9)
            clear hg9 hgn hb9 eB9 H8 HX hR8 hS8
            go_wp2_with (first | (go_at_call 11; with_reducible refine (hn0 _).mono ?_; rintro e w' ⟨rfl, rfl⟩))
            go_loopw [20] (fun vj wr => ∃ j : Nat, vj = .int .i64 j ∧ j ≤ m.B.length ∧ Hid (∃ k, wr = W9.drewN k)) (fun vj _ => m.B.length - (intOf vj).toNat)
            case atStart => exact ⟨0, rfl, Nat.zero_le _, 0, rfl⟩
            case round =>
              obtain ⟨j, rfl, j1, HE⟩ := hrel
              by_cases hj : j < m.B.length
              · have h9 : KS w wr g fb bb db wb s p b A ∧ Box wr ga 5 (bv m.B) ∧ Box wr gn 5 (bv m2.B) := by
                  obtain ⟨k, rfl⟩ := HE.out
                  have hgk : W9.grownBy (W9.drewN k) none := grown_drewN (World.grownBy.refl _ _) k
                  exact ⟨H9.out.1.grown hgk, H9.out.2.1.grown hgk, H9.out.2.2.grown hgk⟩
                have hj2 : j < m2.B.length := by have := HLN.out; show j < m2.boot.B.length; omega
                have ca : wr.cell? ⟨ga, j, none⟩ = some (.int .u8 (m.B.getD j 0)) := by rw [h9.2.1.c j, bv_getElem? _ _ hj]
                have cn : wr.cell? ⟨gn, j, none⟩ = some (.int .u8 (m2.B.getD j 0)) := by rw [h9.2.2.c j, bv_getElem? _ _ hj2]
                clear h9
                have hj' : (j : Int) < (m.B.length : Int) := by omega
                have he : m2.B.getD j 0 = m.B.getD j 0 := by rw [List.getD_eq_getElem?_getD, HKP.out j, ← List.getD_eq_getElem?_getD]
                rw [he] at cn
                generalize m.B.getD j 0 = u at ca cn
                clear he
                have h1' : decide ((j : Int) < 0) = false := decide_eq_false (by omega)
                have h1'' : ¬ ((j : Int) < 0) := by omega
                have h2' : (0 : Int) ≤ (j : Int) := by omega
                go_wp2_with fail
                go_quiet (fail)
                go_wp2_with fail
                go_roundw
                case rel => obtain ⟨k, rfl⟩ := HE.out; exact ⟨j + 1, by go_num, by omega, k + nq, by rw [World.drewN_drewN]⟩
                case measure => simp [intOf]; omega
              · have ej : j = m.B.length := by omega
                subst ej
                go_wp2_with (first | (go_at_call 9; refine (live_any _).mono ?_; rintro e W10 ⟨rfl, hg10⟩))
                go_ret
                obtain ⟨k, rfl⟩ := HE.out
                have hgk : W9.grownBy (W9.drewN k) none := grown_drewN (World.grownBy.refl _ _) k
                have hbk := (H9.out.1.grown hgk).below
                exact ⟨rfl, hbk.trans ((grown_below hg10).mono hbk.size)⟩
end Go.Proofs.Ytdefcfmnhfeblaa
