/- The walk of FlashReads. -/
import Derived.Test.YtdefcfmnhfeblaaLE
namespace Go.Proofs.Ytdefcfmnhfeblaa
open Go.RowKit
set_option linter.unusedSimpArgs false
set_option linter.unusedVariables false
attribute [local go_sem ↓] Go.wp_at_zero Go.wp_at_succ

/-- behind the calls of FlashReads -/
structure RS6 (w W : World) (g fb bb db wb ga : Nat) (m : Fm) (s p b : Nat) (a2 : Option Addr) (xs : List Int) (va : Value) (er : Int) (i q : Nat) : Prop where
  bx : Box W g 23 [.int .i64 s, .int .i64 p, .int .i64 b]
  pr : PRep W fb bb db wb m (fun _ => False)
  al : Box W ga 5 (bv m.B)
  rx : Row W a2 xs.length xs
  ch : Chg (fun k => w.heap.size ≤ k) w W
  vx : (er ≠ 0 ∧ va = .slice none 0 0) ∨ (er = 0 ∧ i + q ≤ m.B.length ∧ ∃ gx, va = .slice (some ⟨gx, 0, none⟩) q q ∧ Box W gx 5 (bv ((m.B.drop i).take q)))
theorem RS6.drewN {w W : World} {g fb bb db wb ga : Nat} {m : Fm} {s p b : Nat} {a2 : Option Addr} {xs : List Int} {va : Value} {er : Int} {i q : Nat} (h : RS6 w W g fb bb db wb ga m s p b a2 xs va er i q) (n : Nat) : RS6 w (W.drewN n) g fb bb db wb ga m s p b a2 xs va er i q := by
  have hg : W.grownBy (W.drewN n) none := grown_drewN (World.grownBy.refl _ _) n
  refine ⟨h.bx.grown hg, h.pr.grown hg, h.al.grown hg, h.rx.grown hg, h.ch.trans (Chg.of_none hg _), ?_⟩
  rcases h.vx with h | ⟨h1, h2, gx, h3, h4⟩
  · exact .inl h
  · exact .inr ⟨h1, h2, gx, h3, h4.grown hg⟩
theorem rd_in {L : Nat} {at_ n : Int} : (at_ < 0 ∧ rdE L false at_ n = 9) ∨ (0 ≤ at_ ∧ n < 0 ∧ rdE L false at_ n = 9) ∨ (0 ≤ at_ ∧ 0 ≤ n ∧ (L : Int) < at_ ∧ rdE L false at_ n = 9) ∨ (0 ≤ at_ ∧ 0 ≤ n ∧ at_ ≤ L ∧ (L : Int) - at_ < n ∧ rdE L false at_ n = 9) ∨ (∃ i q : Nat, at_ = i ∧ n = q ∧ i + q ≤ L ∧ rdE L false at_ n = 0) := by
  unfold rdE
  by_cases h1 : at_ < 0
  · exact .inl ⟨h1, by rw [if_pos (by omega)]⟩
  by_cases h2 : n < 0
  · exact .inr (.inl ⟨by omega, h2, by rw [if_pos (by omega)]⟩)
  by_cases h3 : (L : Int) < at_
  · exact .inr (.inr (.inl ⟨by omega, by omega, h3, by rw [if_pos (by omega)]⟩))
  by_cases h4 : (L : Int) - at_ < n
  · exact .inr (.inr (.inr (.inl ⟨by omega, by omega, by omega, h4, by rw [if_pos (by omega)]⟩)))
  · exact .inr (.inr (.inr (.inr ⟨at_.toNat, n.toNat, by omega, by omega, by omega, by rw [if_neg (by omega), if_neg (by simp)]⟩)))
set_option maxRecDepth 100000 in
set_option maxHeartbeats 20000000 in
theorem reads_main (s p b : Nat) (page : Int) (a2 : Option Addr) (cap : Nat) (xs : List Int) (at_ n : Int) (w : World) (hs : 0 < s ∧ s ≤ 16) (hp : 0 < p ∧ p ≤ 16) (hb : 16 ≤ b ∧ b ≤ 64) (hck0 : chk s p b = 0) (RX : Row w a2 xs.length xs) (ha : -9223372036854775808 ≤ at_ ∧ at_ ≤ 9223372036854775807) (hn : -9223372036854775808 ≤ n ∧ n ≤ 9223372036854775807) :
    Calls Try.prog 6 #[.agg #[.int .i64 s, .int .i64 p, .int .i64 b], .int .i64 page, .slice a2 xs.length cap, .int .i64 at_, .int .i64 n] w fun e w' => e = .returned (.bool true) ∧ Below w.heap.size w w' := by
  have hsml : sml s p b = true := decide_eq_true (Or.inr (by omega))
  have hsm : ∀ W, _ := fun W => small_any s p b W (by omega) (by omega) (by omega)
  have hck : ∀ W, _ := fun W => check_any s p b W (by omega) (by omega) (by omega)
  rw [hsml] at hsm
  rw [hck0] at hck
  have h0 := Box.new w 23 [.int .i64 s, .int .i64 p, .int .i64 b]
  have hG := World.grownBy_alloc w (.cells #[.int .i64 s, .int .i64 p, .int .i64 b] 23) none
  have c0 : (w.alloc (.cells #[.int .i64 s, .int .i64 p, .int .i64 b] 23)).cell? ⟨w.heap.size, 0, none⟩ = some (.int .i64 s) := h0.c 0
  have c1 : (w.alloc (.cells #[.int .i64 s, .int .i64 p, .int .i64 b] 23)).cell? ⟨w.heap.size, 1, none⟩ = some (.int .i64 p) := h0.c 1
  have c2 : (w.alloc (.cells #[.int .i64 s, .int .i64 p, .int .i64 b] 23)).cell? ⟨w.heap.size, 2, none⟩ = some (.int .i64 b) := h0.c 2
  have H0 : Hid _ := And.intro h0 hG
  have HR : Hid _ := RX
  have hxl := RX.le
  unfold maxLen at hxl
  clear h0 hG hsml RX
  go_enter Try.func6, Try.ntmps6
  go_wp2_with fail
  refine (hsm _).mono ?_
  rintro e W1 ⟨rfl, hg1⟩
  obtain ⟨h0, hG⟩ := H0.out
  have b1 := h0.grown hg1
  have gr1 := grown_trans hG hg1
  clear c0 c1 c2 H0 h0 hG hg1 hsm
  generalize hgg : w.heap.size = g at *
  have c0 : W1.cell? ⟨g, 0, none⟩ = some (.int .i64 s) := b1.c 0
  have c1 : W1.cell? ⟨g, 1, none⟩ = some (.int .i64 p) := b1.c 1
  have c2 : W1.cell? ⟨g, 2, none⟩ = some (.int .i64 b) := b1.c 2
  have H1 : Hid _ := And.intro b1 gr1
  clear b1 gr1
  go_wp2_with fail
  refine (hck _).mono ?_
  rintro e W2 ⟨rfl, hw2⟩
  have b2 := H1.out.1.grown (by rw [hw2]; exact World.grownBy_alloc _ _ _ : W1.grownBy W2 none)
  have gr2 := grown_trans H1.out.2 (by rw [hw2]; exact World.grownBy_alloc _ _ _ : W1.grownBy W2 none)
  clear c0 c1 c2 H1 hw2 hck
  have c0 : W2.cell? ⟨g, 0, none⟩ = some (.int .i64 s) := b2.c 0
  have c1 : W2.cell? ⟨g, 1, none⟩ = some (.int .i64 p) := b2.c 1
  have c2 : W2.cell? ⟨g, 2, none⟩ = some (.int .i64 b) := b2.c 2
  have H2 : Hid _ := And.intro b2 gr2
  clear b2 gr2
  go_wp2_with fail
  refine (prep_new s p b W2 (fun _ => False) hs hp hb).mono ?_
  rintro e W3 ⟨fb, bb, db, wb, rfl, hg3, hP3, hF3⟩
  have b3 := H2.out.1.grown hg3
  have gr3 := grown_trans H2.out.2 hg3
  have RX3 := HR.out.grown gr3
  have gd0 : (Fm.new s p b).Good 0 := Fm.good_new hs hp (by omega)
  have gsz := H2.out.2.size
  rw [hgg] at gsz
  have glt := H2.out.1.lt
  have hY3 : ∀ b o, a2 = some ⟨b, o, none⟩ → 0 < xs.length → ¬ foot fb bb db wb b := by
    intro b' o e h0 x
    obtain ⟨b'', o'', e', hc⟩ := HR.out.cells h0
    rw [e] at e'
    injection e' with e'
    injection e' with e1 e2
    subst e1
    have := cell_lt (hc 0 h0)
    have := hF3 _ x
    omega
  have g1 := Fm.good_write gd0 page xs
  obtain ⟨ho1, hL1, hE1, hE2, hfin⟩ := new_write hs hp hb page xs
  have hW := prep_write hP3 gd0 (by decide) page a2 cap xs RX3 hY3
  generalize ((Fm.new s p b).write page xs).2 = E at *
  generalize ((Fm.new s p b).write page xs).1 = m1 at *
  have hL2 : m1.B.length ≤ 16384 := by have := g1.spb; have := g1.lB; omega
  have hn0 : ∀ W, _ := fun W => num_any 0 W (by decide)
  have H3 : Hid _ := And.intro b3 (And.intro gr3 (And.intro RX3 (And.intro hF3 (And.intro gsz (And.intro hY3 glt)))))
  have HF : Hid _ := hfin
  have HG1 : Hid _ := And.intro g1 (And.intro ho1 (And.intro hE1 (And.intro hE2 hL1)))
  clear b3 gr3 RX3 gd0 gsz glt hY3 c0 c1 c2 H2 hg3 hP3 hF3 hfin g1 ho1 hE1 hE2 hL1
  go_wp2_with (first | (go_at_call 11; with_reducible refine (hn0 _).mono ?_; rintro e w' ⟨rfl, rfl⟩))
  refine hW.mono ?_
  rintro e W4 ⟨rfl, hC4, hP4⟩
  have hS4 := hP4.size
  have hR4 := prep_read hP4 HG1.out.1 0 (m1.B.length : Int) (by decide) (by omega)
  have er0 : rdE m1.B.length m1.off 0 (m1.B.length : Int) = 0 := by unfold rdE; rw [HG1.out.2.1, if_neg (by omega), if_neg (by simp)]
  unfold PdPost at hR4
  rw [er0] at hR4
  have H4 : Hid _ := And.intro hC4 hP4
  clear hC4 hP4 hW er0
  go_wp2_with (first | (go_at_call 22; refine hS4.mono ?_; rintro e w' ⟨rfl, rfl⟩))
  refine hR4.mono ?_
  rintro e W5 ⟨v5, rfl, hg5, ⟨x, _⟩ | ⟨_, ga, rfl, hga, hb5, _⟩⟩
  · exact absurd rfl x
  have hP5 := H4.out.2.grown hg5
  have hR5 := prep_read hP5 HG1.out.1 at_ n ha hn
  unfold PdPost at hR5
  rw [HG1.out.2.1] at hR5
  have eB : (m1.B.drop (Int.toNat 0)).take (Int.toNat (m1.B.length : Int)) = m1.B := by simp
  rw [eB] at hb5
  simp only [Int.toNat_natCast]
  have H5 : Hid _ := And.intro hg5 (And.intro hga (And.intro hb5 hP5))
  clear hg5 hga hb5 hP5 eB hR4
  go_wp2_with fail
  refine hR5.mono ?_
  rintro e W6 ⟨v6, rfl, hg6, hv6⟩
  have h6 : RS6 w W6 g fb bb db wb ga m1 s p b a2 xs v6 (rdE m1.B.length false at_ n) at_.toNat n.toNat := by
    obtain ⟨b3, gr3, RX3, hF3, gsz, hY3, glt⟩ := H3.out
    obtain ⟨hC4, hP4⟩ := H4.out
    obtain ⟨hg5, hga, hb5, hP5⟩ := H5.out
    have hgf : ¬ foot fb bb db wb g := fun x => by have := hF3 _ x; omega
    refine ⟨((hC4.box b3 hgf).grown hg5).grown hg6, hP5.grown hg6, hb5.grown hg6, (((hC4.row' RX3 hY3).grown hg5)).grown hg6, ?_, ?_⟩
    · have a1 : Chg (fun k => w.heap.size ≤ k) w W4 := (Chg.of_none gr3 _).trans (hC4.mono fun k x => by have := hF3 k x; omega)
      exact (a1.trans (Chg.of_none hg5 _)).trans (Chg.of_none hg6 _)
    · rcases hv6 with h | ⟨h1, gx, rfl, _, hbx, hle⟩
      · exact .inl h
      · exact .inr ⟨h1, hle, gx, rfl, hbx⟩
  clear hv6 hg6 H3 H4 H5 hR5
  have H6 : Hid _ := h6
  have hnE : ∀ W, _ := fun W => num_any E W (by have := HG1.out.2.2; omega)
  have hn9 : ∀ W, _ := fun W => num_any 9 W (by decide)
  have hS6 := h6.pr.size
  clear h6 hS4
  have hbad : rdE m1.B.length false at_ n = 9 → v6 = .slice none 0 0 := by
    intro e9
    rcases H6.out.vx with ⟨_, h⟩ | ⟨h, _⟩
    · exact h
    · rw [e9] at h; cases h
  rcases rd_in (L := m1.B.length) (at_ := at_) (n := n) with ⟨k1, er⟩ | ⟨k1, k2, er⟩ | ⟨k1, k2, k3, er⟩ | ⟨k1, k2, k3, k4, er⟩ | ⟨i, q, rfl, rfl, hiq, er⟩
  · obtain rfl := hbad er
    rw [er]
    clear er hbad
    go_wp2_with (first | (go_at_call 11; with_reducible refine (hn0 _).mono ?_; rintro e w' ⟨rfl, rfl⟩) | (go_at_call 22; with_reducible refine hS6.mono ?_; rintro e w' ⟨rfl, rfl⟩))
    go_quiet (first | (go_at_call 11; exact quiet_eq (hn9 _)))
    have H7 : Hid _ := H6.out.drewN nq
    generalize W6.drewN nq = W7 at *
    clear H6 hS6
    go_wp2_with fail
    refine (hnE _).mono ?_
    rintro e w' ⟨rfl, rfl⟩
    have hD7 := H7.out.pr.dirty HG1.out.1 page
    have hO7 := H7.out.pr.ops
    rcases HF.out with ⟨e0, hdr, hops⟩ | ⟨e0, pg, rfl, hpg, hxb, hdr, hops, hB⟩
    · have hEb : (E != 0) = true := by simpa using e0
      rw [hdr] at hD7
      rw [hops] at hO7
      clear e0 hdr hops
      go_wp2_with (first | (go_at_call 24; with_reducible refine hD7.mono ?_; rintro e w' ⟨rfl, rfl⟩) | (go_at_call 25; with_reducible refine hO7.mono ?_; rintro e w' ⟨rfl, rfl⟩) | (go_at_call 9; refine (live_any _).mono ?_; rintro e W8 ⟨rfl, hg8⟩))
      go_ret
      exact ⟨rfl, (H7.out.ch.below (Nat.le_refl _) fun k x => x).trans ((grown_below hg8).mono H7.out.ch.size)⟩
    · subst e0
      rw [hdr] at hD7
      rw [hops] at hO7
      obtain ⟨lo, hlo⟩ : ∃ lo, pg * b = lo := ⟨_, rfl⟩
      have hlo1 : lo ≤ 16384 := by
        have h1 := mul_fit (b := b) hpg
        have h2 := HG1.out.2.2.2.2
        omega
      have hw1 : IntKind.i64.wrap ((pg : Int) * (b : Int)) = (lo : Int) := by rw [← Int.natCast_mul, hlo, IntKind.wrap_i64]; omega
      have HBs : Hid (∀ j, j < m1.B.length → m1.B[j]? = some (if lo ≤ j ∧ j - lo < xs.length then xs.getD (j - lo) 0 else 255)) := by
        have h2 := HG1.out.2.2.2.2
        rw [h2, ← hlo]; exact hB
      have c2 : W7.cell? ⟨g, 2, none⟩ = some (.int .i64 b) := H7.out.bx.c 2
      clear hdr hops hB hlo hpg hxb HF hnE
      go_wp2_with fail
      go_loopw [19] (fun vj wr => ∃ j : Nat, vj = .int .i64 j ∧ j ≤ m1.B.length ∧ Hid (wr = W7)) (fun vj _ => m1.B.length - (intOf vj).toNat)
      case atStart => exact ⟨0, rfl, Nat.zero_le _, rfl⟩
      case round =>
        obtain ⟨j, rfl, j1, HE⟩ := hrel
        obtain rfl := HE.out
        clear HE
        by_cases hj : j < m1.B.length
        · have cj : wr.cell? ⟨ga, j, none⟩ = some (.int .u8 (if lo ≤ j ∧ j - lo < xs.length then xs.getD (j - lo) 0 else 255)) := by
            rw [H7.out.al.c j]; unfold bv; rw [List.getElem?_map, HBs.out j hj]; rfl
          by_cases hlj : lo ≤ j
          · obtain ⟨t, ht⟩ : ∃ t, j - lo = t := ⟨_, rfl⟩
            have hwt : IntKind.i64.wrap ((j : Int) - (lo : Int)) = (t : Int) := by rw [IntKind.wrap_i64]; omega
            have hlj' : (lo : Int) ≤ (j : Int) := by omega
            by_cases htx : t < xs.length
            · obtain ⟨xb, xo, rfl, hxc⟩ := H7.out.rx.cells (by omega)
              have ct := hxc t htx
              rw [if_pos ⟨hlj, by omega⟩, ht] at cj
              have htx' : (t : Int) < (xs.length : Int) := by omega
              generalize xs.getD t 0 = u at cj ct
              clear hxc hlj ht htx
              go_wp2_with fail
              go_roundw
              case rel => exact ⟨j + 1, by go_num, by omega, by first | exact rfl | exact True.intro⟩
              case measure => simp [intOf]; omega
            · rw [if_neg (by omega)] at cj
              have htx' : decide ((t : Int) < (xs.length : Int)) = false := decide_eq_false (by omega)
              have htx2 : ¬ ((t : Int) < (xs.length : Int)) := by omega
              clear hlj ht htx
              go_wp2_with fail
              go_roundw
              case rel => exact ⟨j + 1, by go_num, by omega, by first | exact rfl | exact True.intro⟩
              case measure => simp [intOf]; omega
          · rw [if_neg (by omega)] at cj
            have hlj' : decide ((lo : Int) ≤ (j : Int)) = false := decide_eq_false (by omega)
            have hlj2 : ¬ ((lo : Int) ≤ (j : Int)) := by omega
            go_wp2_with fail
            go_roundw
            case rel => exact ⟨j + 1, by go_num, by omega, by first | exact rfl | exact True.intro⟩
            case measure => simp [intOf]; omega
        · have ej : j = m1.B.length := by omega
          subst ej
          go_wp2_with (first | (go_at_call 24; with_reducible refine hD7.mono ?_; rintro e w' ⟨rfl, rfl⟩) | (go_at_call 25; with_reducible refine hO7.mono ?_; rintro e w' ⟨rfl, rfl⟩) | (go_at_call 9; refine (live_any _).mono ?_; rintro e W8 ⟨rfl, hg8⟩))
          go_ret
          exact ⟨rfl, (H7.out.ch.below (Nat.le_refl _) fun k x => x).trans ((grown_below hg8).mono H7.out.ch.size)⟩
  · obtain rfl := hbad er
    rw [er]
    clear er hbad
    go_wp2_with (first | (go_at_call 11; with_reducible refine (hn0 _).mono ?_; rintro e w' ⟨rfl, rfl⟩) | (go_at_call 22; with_reducible refine hS6.mono ?_; rintro e w' ⟨rfl, rfl⟩))
    go_quiet (first | (go_at_call 11; exact quiet_eq (hn9 _)))
    have H7 : Hid _ := H6.out.drewN nq
    generalize W6.drewN nq = W7 at *
    clear H6 hS6
    go_wp2_with fail
    refine (hnE _).mono ?_
    rintro e w' ⟨rfl, rfl⟩
    have hD7 := H7.out.pr.dirty HG1.out.1 page
    have hO7 := H7.out.pr.ops
    rcases HF.out with ⟨e0, hdr, hops⟩ | ⟨e0, pg, rfl, hpg, hxb, hdr, hops, hB⟩
    · have hEb : (E != 0) = true := by simpa using e0
      rw [hdr] at hD7
      rw [hops] at hO7
      clear e0 hdr hops
      go_wp2_with (first | (go_at_call 24; with_reducible refine hD7.mono ?_; rintro e w' ⟨rfl, rfl⟩) | (go_at_call 25; with_reducible refine hO7.mono ?_; rintro e w' ⟨rfl, rfl⟩) | (go_at_call 9; refine (live_any _).mono ?_; rintro e W8 ⟨rfl, hg8⟩))
      go_ret
      exact ⟨rfl, (H7.out.ch.below (Nat.le_refl _) fun k x => x).trans ((grown_below hg8).mono H7.out.ch.size)⟩
    · subst e0
      rw [hdr] at hD7
      rw [hops] at hO7
      obtain ⟨lo, hlo⟩ : ∃ lo, pg * b = lo := ⟨_, rfl⟩
      have hlo1 : lo ≤ 16384 := by
        have h1 := mul_fit (b := b) hpg
        have h2 := HG1.out.2.2.2.2
        omega
      have hw1 : IntKind.i64.wrap ((pg : Int) * (b : Int)) = (lo : Int) := by rw [← Int.natCast_mul, hlo, IntKind.wrap_i64]; omega
      have HBs : Hid (∀ j, j < m1.B.length → m1.B[j]? = some (if lo ≤ j ∧ j - lo < xs.length then xs.getD (j - lo) 0 else 255)) := by
        have h2 := HG1.out.2.2.2.2
        rw [h2, ← hlo]; exact hB
      have c2 : W7.cell? ⟨g, 2, none⟩ = some (.int .i64 b) := H7.out.bx.c 2
      clear hdr hops hB hlo hpg hxb HF hnE
      go_wp2_with fail
      go_loopw [19] (fun vj wr => ∃ j : Nat, vj = .int .i64 j ∧ j ≤ m1.B.length ∧ Hid (wr = W7)) (fun vj _ => m1.B.length - (intOf vj).toNat)
      case atStart => exact ⟨0, rfl, Nat.zero_le _, rfl⟩
      case round =>
        obtain ⟨j, rfl, j1, HE⟩ := hrel
        obtain rfl := HE.out
        clear HE
        by_cases hj : j < m1.B.length
        · have cj : wr.cell? ⟨ga, j, none⟩ = some (.int .u8 (if lo ≤ j ∧ j - lo < xs.length then xs.getD (j - lo) 0 else 255)) := by
            rw [H7.out.al.c j]; unfold bv; rw [List.getElem?_map, HBs.out j hj]; rfl
          by_cases hlj : lo ≤ j
          · obtain ⟨t, ht⟩ : ∃ t, j - lo = t := ⟨_, rfl⟩
            have hwt : IntKind.i64.wrap ((j : Int) - (lo : Int)) = (t : Int) := by rw [IntKind.wrap_i64]; omega
            have hlj' : (lo : Int) ≤ (j : Int) := by omega
            by_cases htx : t < xs.length
            · obtain ⟨xb, xo, rfl, hxc⟩ := H7.out.rx.cells (by omega)
              have ct := hxc t htx
              rw [if_pos ⟨hlj, by omega⟩, ht] at cj
              have htx' : (t : Int) < (xs.length : Int) := by omega
              generalize xs.getD t 0 = u at cj ct
              clear hxc hlj ht htx
              go_wp2_with fail
              go_roundw
              case rel => exact ⟨j + 1, by go_num, by omega, by first | exact rfl | exact True.intro⟩
              case measure => simp [intOf]; omega
            · rw [if_neg (by omega)] at cj
              have htx' : decide ((t : Int) < (xs.length : Int)) = false := decide_eq_false (by omega)
              have htx2 : ¬ ((t : Int) < (xs.length : Int)) := by omega
              clear hlj ht htx
              go_wp2_with fail
              go_roundw
              case rel => exact ⟨j + 1, by go_num, by omega, by first | exact rfl | exact True.intro⟩
              case measure => simp [intOf]; omega
          · rw [if_neg (by omega)] at cj
            have hlj' : decide ((lo : Int) ≤ (j : Int)) = false := decide_eq_false (by omega)
            have hlj2 : ¬ ((lo : Int) ≤ (j : Int)) := by omega
            go_wp2_with fail
            go_roundw
            case rel => exact ⟨j + 1, by go_num, by omega, by first | exact rfl | exact True.intro⟩
            case measure => simp [intOf]; omega
        · have ej : j = m1.B.length := by omega
          subst ej
          go_wp2_with (first | (go_at_call 24; with_reducible refine hD7.mono ?_; rintro e w' ⟨rfl, rfl⟩) | (go_at_call 25; with_reducible refine hO7.mono ?_; rintro e w' ⟨rfl, rfl⟩) | (go_at_call 9; refine (live_any _).mono ?_; rintro e W8 ⟨rfl, hg8⟩))
          go_ret
          exact ⟨rfl, (H7.out.ch.below (Nat.le_refl _) fun k x => x).trans ((grown_below hg8).mono H7.out.ch.size)⟩
  · obtain rfl := hbad er
    rw [er]
    clear er hbad
    go_wp2_with (first | (go_at_call 11; with_reducible refine (hn0 _).mono ?_; rintro e w' ⟨rfl, rfl⟩) | (go_at_call 22; with_reducible refine hS6.mono ?_; rintro e w' ⟨rfl, rfl⟩))
    go_quiet (first | (go_at_call 11; exact quiet_eq (hn9 _)))
    have H7 : Hid _ := H6.out.drewN nq
    generalize W6.drewN nq = W7 at *
    clear H6 hS6
    go_wp2_with fail
    refine (hnE _).mono ?_
    rintro e w' ⟨rfl, rfl⟩
    have hD7 := H7.out.pr.dirty HG1.out.1 page
    have hO7 := H7.out.pr.ops
    rcases HF.out with ⟨e0, hdr, hops⟩ | ⟨e0, pg, rfl, hpg, hxb, hdr, hops, hB⟩
    · have hEb : (E != 0) = true := by simpa using e0
      rw [hdr] at hD7
      rw [hops] at hO7
      clear e0 hdr hops
      go_wp2_with (first | (go_at_call 24; with_reducible refine hD7.mono ?_; rintro e w' ⟨rfl, rfl⟩) | (go_at_call 25; with_reducible refine hO7.mono ?_; rintro e w' ⟨rfl, rfl⟩) | (go_at_call 9; refine (live_any _).mono ?_; rintro e W8 ⟨rfl, hg8⟩))
      go_ret
      exact ⟨rfl, (H7.out.ch.below (Nat.le_refl _) fun k x => x).trans ((grown_below hg8).mono H7.out.ch.size)⟩
    · subst e0
      rw [hdr] at hD7
      rw [hops] at hO7
      obtain ⟨lo, hlo⟩ : ∃ lo, pg * b = lo := ⟨_, rfl⟩
      have hlo1 : lo ≤ 16384 := by
        have h1 := mul_fit (b := b) hpg
        have h2 := HG1.out.2.2.2.2
        omega
      have hw1 : IntKind.i64.wrap ((pg : Int) * (b : Int)) = (lo : Int) := by rw [← Int.natCast_mul, hlo, IntKind.wrap_i64]; omega
      have HBs : Hid (∀ j, j < m1.B.length → m1.B[j]? = some (if lo ≤ j ∧ j - lo < xs.length then xs.getD (j - lo) 0 else 255)) := by
        have h2 := HG1.out.2.2.2.2
        rw [h2, ← hlo]; exact hB
      have c2 : W7.cell? ⟨g, 2, none⟩ = some (.int .i64 b) := H7.out.bx.c 2
      clear hdr hops hB hlo hpg hxb HF hnE
      go_wp2_with fail
      go_loopw [19] (fun vj wr => ∃ j : Nat, vj = .int .i64 j ∧ j ≤ m1.B.length ∧ Hid (wr = W7)) (fun vj _ => m1.B.length - (intOf vj).toNat)
      case atStart => exact ⟨0, rfl, Nat.zero_le _, rfl⟩
      case round =>
        obtain ⟨j, rfl, j1, HE⟩ := hrel
        obtain rfl := HE.out
        clear HE
        by_cases hj : j < m1.B.length
        · have cj : wr.cell? ⟨ga, j, none⟩ = some (.int .u8 (if lo ≤ j ∧ j - lo < xs.length then xs.getD (j - lo) 0 else 255)) := by
            rw [H7.out.al.c j]; unfold bv; rw [List.getElem?_map, HBs.out j hj]; rfl
          by_cases hlj : lo ≤ j
          · obtain ⟨t, ht⟩ : ∃ t, j - lo = t := ⟨_, rfl⟩
            have hwt : IntKind.i64.wrap ((j : Int) - (lo : Int)) = (t : Int) := by rw [IntKind.wrap_i64]; omega
            have hlj' : (lo : Int) ≤ (j : Int) := by omega
            by_cases htx : t < xs.length
            · obtain ⟨xb, xo, rfl, hxc⟩ := H7.out.rx.cells (by omega)
              have ct := hxc t htx
              rw [if_pos ⟨hlj, by omega⟩, ht] at cj
              have htx' : (t : Int) < (xs.length : Int) := by omega
              generalize xs.getD t 0 = u at cj ct
              clear hxc hlj ht htx
              go_wp2_with fail
              go_roundw
              case rel => exact ⟨j + 1, by go_num, by omega, by first | exact rfl | exact True.intro⟩
              case measure => simp [intOf]; omega
            · rw [if_neg (by omega)] at cj
              have htx' : decide ((t : Int) < (xs.length : Int)) = false := decide_eq_false (by omega)
              have htx2 : ¬ ((t : Int) < (xs.length : Int)) := by omega
              clear hlj ht htx
              go_wp2_with fail
              go_roundw
              case rel => exact ⟨j + 1, by go_num, by omega, by first | exact rfl | exact True.intro⟩
              case measure => simp [intOf]; omega
          · rw [if_neg (by omega)] at cj
            have hlj' : decide ((lo : Int) ≤ (j : Int)) = false := decide_eq_false (by omega)
            have hlj2 : ¬ ((lo : Int) ≤ (j : Int)) := by omega
            go_wp2_with fail
            go_roundw
            case rel => exact ⟨j + 1, by go_num, by omega, by first | exact rfl | exact True.intro⟩
            case measure => simp [intOf]; omega
        · have ej : j = m1.B.length := by omega
          subst ej
          go_wp2_with (first | (go_at_call 24; with_reducible refine hD7.mono ?_; rintro e w' ⟨rfl, rfl⟩) | (go_at_call 25; with_reducible refine hO7.mono ?_; rintro e w' ⟨rfl, rfl⟩) | (go_at_call 9; refine (live_any _).mono ?_; rintro e W8 ⟨rfl, hg8⟩))
          go_ret
          exact ⟨rfl, (H7.out.ch.below (Nat.le_refl _) fun k x => x).trans ((grown_below hg8).mono H7.out.ch.size)⟩
  · obtain rfl := hbad er
    rw [er]
    clear er hbad
    have hwr : IntKind.i64.wrap ((m1.B.length : Int) - at_) = (m1.B.length : Int) - at_ := by rw [IntKind.wrap_i64]; omega
    have k5 : decide (n ≤ (m1.B.length : Int) - at_) = false := decide_eq_false (by omega)
    have k6 : ¬ (n ≤ (m1.B.length : Int) - at_) := by omega
    go_wp2_with (first | (go_at_call 11; with_reducible refine (hn0 _).mono ?_; rintro e w' ⟨rfl, rfl⟩) | (go_at_call 22; with_reducible refine hS6.mono ?_; rintro e w' ⟨rfl, rfl⟩))
    go_quiet (first | (go_at_call 11; exact quiet_eq (hn9 _)))
    have H7 : Hid _ := H6.out.drewN nq
    generalize W6.drewN nq = W7 at *
    clear H6 hS6
    go_wp2_with fail
    refine (hnE _).mono ?_
    rintro e w' ⟨rfl, rfl⟩
    have hD7 := H7.out.pr.dirty HG1.out.1 page
    have hO7 := H7.out.pr.ops
    rcases HF.out with ⟨e0, hdr, hops⟩ | ⟨e0, pg, rfl, hpg, hxb, hdr, hops, hB⟩
    · have hEb : (E != 0) = true := by simpa using e0
      rw [hdr] at hD7
      rw [hops] at hO7
      clear e0 hdr hops
      go_wp2_with (first | (go_at_call 24; with_reducible refine hD7.mono ?_; rintro e w' ⟨rfl, rfl⟩) | (go_at_call 25; with_reducible refine hO7.mono ?_; rintro e w' ⟨rfl, rfl⟩) | (go_at_call 9; refine (live_any _).mono ?_; rintro e W8 ⟨rfl, hg8⟩))
      go_ret
      exact ⟨rfl, (H7.out.ch.below (Nat.le_refl _) fun k x => x).trans ((grown_below hg8).mono H7.out.ch.size)⟩
    · subst e0
      rw [hdr] at hD7
      rw [hops] at hO7
      obtain ⟨lo, hlo⟩ : ∃ lo, pg * b = lo := ⟨_, rfl⟩
      have hlo1 : lo ≤ 16384 := by
        have h1 := mul_fit (b := b) hpg
        have h2 := HG1.out.2.2.2.2
        omega
      have hw1 : IntKind.i64.wrap ((pg : Int) * (b : Int)) = (lo : Int) := by rw [← Int.natCast_mul, hlo, IntKind.wrap_i64]; omega
      have HBs : Hid (∀ j, j < m1.B.length → m1.B[j]? = some (if lo ≤ j ∧ j - lo < xs.length then xs.getD (j - lo) 0 else 255)) := by
        have h2 := HG1.out.2.2.2.2
        rw [h2, ← hlo]; exact hB
      have c2 : W7.cell? ⟨g, 2, none⟩ = some (.int .i64 b) := H7.out.bx.c 2
      clear hdr hops hB hlo hpg hxb HF hnE
      go_wp2_with fail
      go_loopw [19] (fun vj wr => ∃ j : Nat, vj = .int .i64 j ∧ j ≤ m1.B.length ∧ Hid (wr = W7)) (fun vj _ => m1.B.length - (intOf vj).toNat)
      case atStart => exact ⟨0, rfl, Nat.zero_le _, rfl⟩
      case round =>
        obtain ⟨j, rfl, j1, HE⟩ := hrel
        obtain rfl := HE.out
        clear HE
        by_cases hj : j < m1.B.length
        · have cj : wr.cell? ⟨ga, j, none⟩ = some (.int .u8 (if lo ≤ j ∧ j - lo < xs.length then xs.getD (j - lo) 0 else 255)) := by
            rw [H7.out.al.c j]; unfold bv; rw [List.getElem?_map, HBs.out j hj]; rfl
          by_cases hlj : lo ≤ j
          · obtain ⟨t, ht⟩ : ∃ t, j - lo = t := ⟨_, rfl⟩
            have hwt : IntKind.i64.wrap ((j : Int) - (lo : Int)) = (t : Int) := by rw [IntKind.wrap_i64]; omega
            have hlj' : (lo : Int) ≤ (j : Int) := by omega
            by_cases htx : t < xs.length
            · obtain ⟨xb, xo, rfl, hxc⟩ := H7.out.rx.cells (by omega)
              have ct := hxc t htx
              rw [if_pos ⟨hlj, by omega⟩, ht] at cj
              have htx' : (t : Int) < (xs.length : Int) := by omega
              generalize xs.getD t 0 = u at cj ct
              clear hxc hlj ht htx
              go_wp2_with fail
              go_roundw
              case rel => exact ⟨j + 1, by go_num, by omega, by first | exact rfl | exact True.intro⟩
              case measure => simp [intOf]; omega
            · rw [if_neg (by omega)] at cj
              have htx' : decide ((t : Int) < (xs.length : Int)) = false := decide_eq_false (by omega)
              have htx2 : ¬ ((t : Int) < (xs.length : Int)) := by omega
              clear hlj ht htx
              go_wp2_with fail
              go_roundw
              case rel => exact ⟨j + 1, by go_num, by omega, by first | exact rfl | exact True.intro⟩
              case measure => simp [intOf]; omega
          · rw [if_neg (by omega)] at cj
            have hlj' : decide ((lo : Int) ≤ (j : Int)) = false := decide_eq_false (by omega)
            have hlj2 : ¬ ((lo : Int) ≤ (j : Int)) := by omega
            go_wp2_with fail
            go_roundw
            case rel => exact ⟨j + 1, by go_num, by omega, by first | exact rfl | exact True.intro⟩
            case measure => simp [intOf]; omega
        · have ej : j = m1.B.length := by omega
          subst ej
          go_wp2_with (first | (go_at_call 24; with_reducible refine hD7.mono ?_; rintro e w' ⟨rfl, rfl⟩) | (go_at_call 25; with_reducible refine hO7.mono ?_; rintro e w' ⟨rfl, rfl⟩) | (go_at_call 9; refine (live_any _).mono ?_; rintro e W8 ⟨rfl, hg8⟩))
          go_ret
          exact ⟨rfl, (H7.out.ch.below (Nat.le_refl _) fun k x => x).trans ((grown_below hg8).mono H7.out.ch.size)⟩
  · obtain ⟨gx, rfl, hbx⟩ : ∃ gx, v6 = .slice (some ⟨gx, 0, none⟩) q q ∧ Hid (Box W6 gx 5 (bv ((m1.B.drop i).take q))) := by
      rcases H6.out.vx with ⟨h, _⟩ | ⟨_, _, gx, h3, h4⟩
      · exact absurd er h
      · exact ⟨gx, h3, h4⟩
    rw [er]
    have hXB : Byt ((m1.B.drop i).take q) := (H6.out.pr.byt.drop _).take _
    have hXl : ((m1.B.drop i).take q).length = q := by simp; omega
    have cx : ∀ k, (convert 34 9 (.slice (some ⟨gx, 0, none⟩) q q)).run Try.prog (W6.drewN k) = .ok (.string (strOfNums ((m1.B.drop i).take q))) (W6.drewN k) := by
      intro k
      have hR := Blk.row (show Blk (W6.drewN k) gx (bv ((m1.B.drop i).take q)) from ((hbx.out).grown (grown_drewN (World.grownBy.refl _ _) k)).blk) hXB (by rw [hXl]; unfold maxLen; omega)
      rw [hXl] at hR
      exact conv_row (P := Try.prog) hR q 34 9 Try.underlying34 Try.underlying5 Try.underlying9
    have hal : ∀ k, Row (W6.drewN k) (some ⟨ga, i, none⟩) q ((m1.B.drop i).take q) := by
      intro k
      have hA := Blk.row (show Blk (W6.drewN k) ga (bv m1.B) from (H6.out.drewN k).al.blk) H6.out.pr.byt (by unfold maxLen; omega)
      have := hA.part i q hiq
      rwa [Nat.zero_add] at this
    have hwq : IntKind.i64.wrap ((i : Int) + (q : Int)) = ((i + q : Nat) : Int) := by rw [IntKind.wrap_i64]; omega
    have hiqd : i + q - i = q := by omega
    have hwr : IntKind.i64.wrap ((m1.B.length : Int) - (i : Int)) = (m1.B.length : Int) - (i : Int) := by rw [IntKind.wrap_i64]; omega
    have k1 : (i : Int) ≤ (m1.B.length : Int) := by omega
    have k2 : (q : Int) ≤ (m1.B.length : Int) - (i : Int) := by omega
    by_cases hcc : m1.B.length = i
    · have eq0 : q = 0 := by omega
      subst eq0
      subst hcc
      have hwz : IntKind.i64.wrap ((m1.B.length : Int)) = (m1.B.length : Int) := by rw [IntKind.wrap_i64]; omega
      have cy : ∀ k, (convert 34 9 (.slice (some ⟨ga, 0, none⟩) 0 0)).run Try.prog (W6.drewN k) = .ok (.string (strOfNums ((m1.B.drop m1.B.length).take 0))) (W6.drewN k) := fun k => by
        have h0 : Row (W6.drewN k) (some ⟨ga, 0, none⟩) 0 ((m1.B.drop m1.B.length).take 0) := by rw [List.take_zero]; exact Row.none0 _
        exact conv_row (P := Try.prog) h0 0 34 9 Try.underlying34 Try.underlying5 Try.underlying9
      generalize strOfNums ((m1.B.drop m1.B.length).take 0) = Sx at cx cy
      clear hbad er hXB hXl hal hbx
      go_wp2_with (first | (go_at_call 11; with_reducible refine (hn0 _).mono ?_; rintro e w' ⟨rfl, rfl⟩) | (go_at_call 22; with_reducible refine hS6.mono ?_; rintro e w' ⟨rfl, rfl⟩))
      go_quiet (first | (go_at_call 11; exact quiet_eq (hn0 _)))
      have H7 : Hid _ := H6.out.drewN nq
      generalize W6.drewN nq = W7 at *
      clear H6 hS6
      go_wp2_with fail
      refine (hnE _).mono ?_
      rintro e w' ⟨rfl, rfl⟩
      have hD7 := H7.out.pr.dirty HG1.out.1 page
      have hO7 := H7.out.pr.ops
      rcases HF.out with ⟨e0, hdr, hops⟩ | ⟨e0, pg, rfl, hpg, hxb, hdr, hops, hB⟩
      · have hEb : (E != 0) = true := by simpa using e0
        rw [hdr] at hD7
        rw [hops] at hO7
        clear e0 hdr hops
        go_wp2_with (first | (go_at_call 24; with_reducible refine hD7.mono ?_; rintro e w' ⟨rfl, rfl⟩) | (go_at_call 25; with_reducible refine hO7.mono ?_; rintro e w' ⟨rfl, rfl⟩) | (go_at_call 9; refine (live_any _).mono ?_; rintro e W8 ⟨rfl, hg8⟩))
        go_ret
        exact ⟨rfl, (H7.out.ch.below (Nat.le_refl _) fun k x => x).trans ((grown_below hg8).mono H7.out.ch.size)⟩
      · subst e0
        rw [hdr] at hD7
        rw [hops] at hO7
        obtain ⟨lo, hlo⟩ : ∃ lo, pg * b = lo := ⟨_, rfl⟩
        have hlo1 : lo ≤ 16384 := by
          have h1 := mul_fit (b := b) hpg
          have h2 := HG1.out.2.2.2.2
          omega
        have hw1 : IntKind.i64.wrap ((pg : Int) * (b : Int)) = (lo : Int) := by rw [← Int.natCast_mul, hlo, IntKind.wrap_i64]; omega
        have HBs : Hid (∀ j, j < m1.B.length → m1.B[j]? = some (if lo ≤ j ∧ j - lo < xs.length then xs.getD (j - lo) 0 else 255)) := by
          have h2 := HG1.out.2.2.2.2
          rw [h2, ← hlo]; exact hB
        have c2 : W7.cell? ⟨g, 2, none⟩ = some (.int .i64 b) := H7.out.bx.c 2
        clear hdr hops hB hlo hpg hxb HF hnE
        go_wp2_with fail
        go_loopw [19] (fun vj wr => ∃ j : Nat, vj = .int .i64 j ∧ j ≤ m1.B.length ∧ Hid (wr = W7)) (fun vj _ => m1.B.length - (intOf vj).toNat)
        case atStart => exact ⟨0, rfl, Nat.zero_le _, rfl⟩
        case round =>
          obtain ⟨j, rfl, j1, HE⟩ := hrel
          obtain rfl := HE.out
          clear HE
          by_cases hj : j < m1.B.length
          · have cj : wr.cell? ⟨ga, j, none⟩ = some (.int .u8 (if lo ≤ j ∧ j - lo < xs.length then xs.getD (j - lo) 0 else 255)) := by
              rw [H7.out.al.c j]; unfold bv; rw [List.getElem?_map, HBs.out j hj]; rfl
            by_cases hlj : lo ≤ j
            · obtain ⟨t, ht⟩ : ∃ t, j - lo = t := ⟨_, rfl⟩
              have hwt : IntKind.i64.wrap ((j : Int) - (lo : Int)) = (t : Int) := by rw [IntKind.wrap_i64]; omega
              have hlj' : (lo : Int) ≤ (j : Int) := by omega
              by_cases htx : t < xs.length
              · obtain ⟨xb, xo, rfl, hxc⟩ := H7.out.rx.cells (by omega)
                have ct := hxc t htx
                rw [if_pos ⟨hlj, by omega⟩, ht] at cj
                have htx' : (t : Int) < (xs.length : Int) := by omega
                generalize xs.getD t 0 = u at cj ct
                clear hxc hlj ht htx
                go_wp2_with fail
                go_roundw
                case rel => exact ⟨j + 1, by go_num, by omega, by first | exact rfl | exact True.intro⟩
                case measure => simp [intOf]; omega
              · rw [if_neg (by omega)] at cj
                have htx' : decide ((t : Int) < (xs.length : Int)) = false := decide_eq_false (by omega)
                have htx2 : ¬ ((t : Int) < (xs.length : Int)) := by omega
                clear hlj ht htx
                go_wp2_with fail
                go_roundw
                case rel => exact ⟨j + 1, by go_num, by omega, by first | exact rfl | exact True.intro⟩
                case measure => simp [intOf]; omega
            · rw [if_neg (by omega)] at cj
              have hlj' : decide ((lo : Int) ≤ (j : Int)) = false := decide_eq_false (by omega)
              have hlj2 : ¬ ((lo : Int) ≤ (j : Int)) := by omega
              go_wp2_with fail
              go_roundw
              case rel => exact ⟨j + 1, by go_num, by omega, by first | exact rfl | exact True.intro⟩
              case measure => simp [intOf]; omega
          · have ej : j = m1.B.length := by omega
            subst ej
            go_wp2_with (first | (go_at_call 24; with_reducible refine hD7.mono ?_; rintro e w' ⟨rfl, rfl⟩) | (go_at_call 25; with_reducible refine hO7.mono ?_; rintro e w' ⟨rfl, rfl⟩) | (go_at_call 9; refine (live_any _).mono ?_; rintro e W8 ⟨rfl, hg8⟩))
            go_ret
            exact ⟨rfl, (H7.out.ch.below (Nat.le_refl _) fun k x => x).trans ((grown_below hg8).mono H7.out.ch.size)⟩
    have cy : ∀ k, (convert 34 9 (.slice (some ⟨ga, i, none⟩) q (m1.B.length - i))).run Try.prog (W6.drewN k) = .ok (.string (strOfNums ((m1.B.drop i).take q))) (W6.drewN k) := fun k => conv_row (P := Try.prog) (hal k) (m1.B.length - i) 34 9 Try.underlying34 Try.underlying5 Try.underlying9
    generalize strOfNums ((m1.B.drop i).take q) = Sx at cx cy
    clear hbad er hXB hXl hal hbx
    generalize hiqe : i + q = iq at *
    have hle1 : i ≤ iq := by omega
    clear hiqe
    go_wp2_with (first | (go_at_call 11; with_reducible refine (hn0 _).mono ?_; rintro e w' ⟨rfl, rfl⟩) | (go_at_call 22; with_reducible refine hS6.mono ?_; rintro e w' ⟨rfl, rfl⟩))
    go_quiet (first | (go_at_call 11; exact quiet_eq (hn0 _)))
    have H7 : Hid _ := H6.out.drewN nq
    generalize W6.drewN nq = W7 at *
    clear H6 hS6
    go_wp2_with fail
    refine (hnE _).mono ?_
    rintro e w' ⟨rfl, rfl⟩
    have hD7 := H7.out.pr.dirty HG1.out.1 page
    have hO7 := H7.out.pr.ops
    rcases HF.out with ⟨e0, hdr, hops⟩ | ⟨e0, pg, rfl, hpg, hxb, hdr, hops, hB⟩
    · have hEb : (E != 0) = true := by simpa using e0
      rw [hdr] at hD7
      rw [hops] at hO7
      clear e0 hdr hops
      go_wp2_with (first | (go_at_call 24; with_reducible refine hD7.mono ?_; rintro e w' ⟨rfl, rfl⟩) | (go_at_call 25; with_reducible refine hO7.mono ?_; rintro e w' ⟨rfl, rfl⟩) | (go_at_call 9; refine (live_any _).mono ?_; rintro e W8 ⟨rfl, hg8⟩))
      go_ret
      exact ⟨rfl, (H7.out.ch.below (Nat.le_refl _) fun k x => x).trans ((grown_below hg8).mono H7.out.ch.size)⟩
    · subst e0
      rw [hdr] at hD7
      rw [hops] at hO7
      obtain ⟨lo, hlo⟩ : ∃ lo, pg * b = lo := ⟨_, rfl⟩
      have hlo1 : lo ≤ 16384 := by
        have h1 := mul_fit (b := b) hpg
        have h2 := HG1.out.2.2.2.2
        omega
      have hw1 : IntKind.i64.wrap ((pg : Int) * (b : Int)) = (lo : Int) := by rw [← Int.natCast_mul, hlo, IntKind.wrap_i64]; omega
      have HBs : Hid (∀ j, j < m1.B.length → m1.B[j]? = some (if lo ≤ j ∧ j - lo < xs.length then xs.getD (j - lo) 0 else 255)) := by
        have h2 := HG1.out.2.2.2.2
        rw [h2, ← hlo]; exact hB
      have c2 : W7.cell? ⟨g, 2, none⟩ = some (.int .i64 b) := H7.out.bx.c 2
      clear hdr hops hB hlo hpg hxb HF hnE
      go_wp2_with fail
      go_loopw [19] (fun vj wr => ∃ j : Nat, vj = .int .i64 j ∧ j ≤ m1.B.length ∧ Hid (wr = W7)) (fun vj _ => m1.B.length - (intOf vj).toNat)
      case atStart => exact ⟨0, rfl, Nat.zero_le _, rfl⟩
      case round =>
        obtain ⟨j, rfl, j1, HE⟩ := hrel
        obtain rfl := HE.out
        clear HE
        by_cases hj : j < m1.B.length
        · have cj : wr.cell? ⟨ga, j, none⟩ = some (.int .u8 (if lo ≤ j ∧ j - lo < xs.length then xs.getD (j - lo) 0 else 255)) := by
            rw [H7.out.al.c j]; unfold bv; rw [List.getElem?_map, HBs.out j hj]; rfl
          by_cases hlj : lo ≤ j
          · obtain ⟨t, ht⟩ : ∃ t, j - lo = t := ⟨_, rfl⟩
            have hwt : IntKind.i64.wrap ((j : Int) - (lo : Int)) = (t : Int) := by rw [IntKind.wrap_i64]; omega
            have hlj' : (lo : Int) ≤ (j : Int) := by omega
            by_cases htx : t < xs.length
            · obtain ⟨xb, xo, rfl, hxc⟩ := H7.out.rx.cells (by omega)
              have ct := hxc t htx
              rw [if_pos ⟨hlj, by omega⟩, ht] at cj
              have htx' : (t : Int) < (xs.length : Int) := by omega
              generalize xs.getD t 0 = u at cj ct
              clear hxc hlj ht htx
              go_wp2_with fail
              go_roundw
              case rel => exact ⟨j + 1, by go_num, by omega, by first | exact rfl | exact True.intro⟩
              case measure => simp [intOf]; omega
            · rw [if_neg (by omega)] at cj
              have htx' : decide ((t : Int) < (xs.length : Int)) = false := decide_eq_false (by omega)
              have htx2 : ¬ ((t : Int) < (xs.length : Int)) := by omega
              clear hlj ht htx
              go_wp2_with fail
              go_roundw
              case rel => exact ⟨j + 1, by go_num, by omega, by first | exact rfl | exact True.intro⟩
              case measure => simp [intOf]; omega
          · rw [if_neg (by omega)] at cj
            have hlj' : decide ((lo : Int) ≤ (j : Int)) = false := decide_eq_false (by omega)
            have hlj2 : ¬ ((lo : Int) ≤ (j : Int)) := by omega
            go_wp2_with fail
            go_roundw
            case rel => exact ⟨j + 1, by go_num, by omega, by first | exact rfl | exact True.intro⟩
            case measure => simp [intOf]; omega
        · have ej : j = m1.B.length := by omega
          subst ej
          go_wp2_with (first | (go_at_call 24; with_reducible refine hD7.mono ?_; rintro e w' ⟨rfl, rfl⟩) | (go_at_call 25; with_reducible refine hO7.mono ?_; rintro e w' ⟨rfl, rfl⟩) | (go_at_call 9; refine (live_any _).mono ?_; rintro e W8 ⟨rfl, hg8⟩))
          go_ret
          exact ⟨rfl, (H7.out.ch.below (Nat.le_refl _) fun k x => x).trans ((grown_below hg8).mono H7.out.ch.size)⟩
end Go.Proofs.Ytdefcfmnhfeblaa
