/- Same: the program's flash held against the document's. -/
import Derived.Test.YtdefcfmnhfeblaaLE
namespace Go.Proofs.Ytdefcfmnhfeblaa
open Go.RowKit
set_option linter.unusedSimpArgs false
set_option linter.unusedVariables false
attribute [local go_sem ↓] Go.wp_at_zero Go.wp_at_succ

theorem PRep.geometry {w : World} {fb bb db wb : Nat} {m : Fm} {G : Nat → Prop} (h : PRep w fb bb db wb m G) : Calls Try.prog 27 #[.pointer (some ⟨fb, 0, none⟩)] w fun e w' => e = .returned (.agg #[.int .i64 m.s, .int .i64 m.p, .int .i64 m.b]) ∧ w.grownBy w' none := by
  obtain ⟨pw, left, aT, cT, T, hp, hw, hg⟩ := h
  exact geometry_any fb _ _ _ w (hp.box.c 0) (hp.box.c 1) (hp.box.c 2)
theorem PRep.on {w : World} {fb bb db wb : Nat} {m : Fm} {G : Nat → Prop} (h : PRep w fb bb db wb m G) : Calls Try.prog 28 #[.pointer (some ⟨fb, 0, none⟩)] w fun e w' => e = .returned (.bool (!m.off)) ∧ w = w' := by
  obtain ⟨pw, left, aT, cT, T, hp, hw, hg⟩ := h
  have := on_any fb pw w (hp.box.c 7)
  rw [hw.on] at this
  exact this
theorem PRep.worn {w : World} {fb bb db wb : Nat} {m : Fm} {G : Nat → Prop} {k : Nat} (h : PRep w fb bb db wb m G) (hg : m.Good k) (sec : Int) : Calls Try.prog 26 #[.pointer (some ⟨fb, 0, none⟩), .int .i64 sec] w fun e w' => e = .returned (.int .i64 (wrn m.W sec)) ∧ w = w' := by
  obtain ⟨pw, left, aT, cT, T, hp, hw, hg'⟩ := h
  have := hg.s
  have := hg.lW
  exact worn_any fb wb m.W _ sec w (hp.box.c 5) hp.ws (by omega)
theorem cells10 {w : World} {T : TypeId} (x0 x1 x2 x3 x4 x5 x6 x7 x8 x9 : Value) : Box (w.alloc (.cells #[x0, x1, x2, x3, x4, x5, x6, x7, x8, x9] T)) w.heap.size T [x0, x1, x2, x3, x4, x5, x6, x7, x8, x9] := Box.new w T [x0, x1, x2, x3, x4, x5, x6, x7, x8, x9]
set_option maxRecDepth 100000 in
set_option maxHeartbeats 4000000 in
theorem same_any {w : World} {fb bb db wb : Nat} {m : Fm} {G : Nat → Prop} {v : Value} {F : Nat → Prop} {k : Nat} (hP : PRep w fb bb db wb m G) (hR : Rep w v m F) (hg : m.Good k) :
    Calls Try.prog 16 #[.pointer (some ⟨fb, 0, none⟩), v] w fun e w' => e = .returned (.bool true) ∧ w.grownBy w' none := by
  obtain ⟨rb, ro, cB, rd, rdo, cD, rw_, rwo, cW, aT, cT, rfl, h1, h2, h3, h4, h5, h6, _⟩ := hR
  have hsp := hg.sp
  have hspb := hg.spb
  have hlB : m.B.length ≤ 16384 := by have := hg.lB; omega
  have hlD : m.D.length ≤ 256 ∧ 0 < m.D.length := by have := hg.lD; omega
  have hlW : m.W.length ≤ 16 ∧ 0 < m.W.length := by have := hg.lW; have := hg.s; omega
  have hB0 := cells10 (w := w) (T := 40) (.int .i64 m.s) (.int .i64 m.p) (.int .i64 m.b) (.slice (some ⟨rb, ro, none⟩) m.B.length cB) (.slice (some ⟨rd, rdo, none⟩) m.D.length cD) (.slice (some ⟨rw_, rwo, none⟩) m.W.length cW) (.int .i64 m.ops) (.bool m.off) (.int .i64 m.after) (.slice aT m.T.length cT)
  have hG0 := World.grownBy_alloc w (.cells #[.int .i64 m.s, .int .i64 m.p, .int .i64 m.b, .slice (some ⟨rb, ro, none⟩) m.B.length cB, .slice (some ⟨rd, rdo, none⟩) m.D.length cD, .slice (some ⟨rw_, rwo, none⟩) m.W.length cW, .int .i64 m.ops, .bool m.off, .int .i64 m.after, .slice aT m.T.length cT] 40) none
  have HP : Hid _ := And.intro hP (And.intro h1 (And.intro h4 (And.intro h5 hg)))
  clear hP h1 h4 h5 h6 hsp hspb hg
  go_enter Try.func16, Try.ntmps16
  go_wp2_with fail
  generalize (w.alloc (.cells #[.int .i64 m.s, .int .i64 m.p, .int .i64 m.b, .slice (some ⟨rb, ro, none⟩) m.B.length cB, .slice (some ⟨rd, rdo, none⟩) m.D.length cD, .slice (some ⟨rw_, rwo, none⟩) m.W.length cW, .int .i64 m.ops, .bool m.off, .int .i64 m.after, .slice aT m.T.length cT] 40)) = W at *
  generalize hgg : w.heap.size = g at *
  have key : ∀ W', W.grownBy W' none → w.grownBy W' none ∧ Box W' g 40 [.int .i64 m.s, .int .i64 m.p, .int .i64 m.b, .slice (some ⟨rb, ro, none⟩) m.B.length cB, .slice (some ⟨rd, rdo, none⟩) m.D.length cD, .slice (some ⟨rw_, rwo, none⟩) m.W.length cW, .int .i64 m.ops, .bool m.off, .int .i64 m.after, .slice aT m.T.length cT] ∧ PRep W' fb bb db wb m G ∧ Row W' (some ⟨rb, ro, none⟩) m.B.length m.B ∧ RowE Value.bool W' (some ⟨rd, rdo, none⟩) m.D.length m.D ∧ RowE (Value.int .i64) W' (some ⟨rw_, rwo, none⟩) m.W.length m.W := by
    intro W' hW
    have hw := grown_trans hG0 hW
    exact ⟨hw, hB0.grown hW, HP.out.1.grown hw, HP.out.2.1.grown hw, HP.out.2.2.1.grown hw, HP.out.2.2.2.1.grown hw⟩
  have HK : Hid _ := key
  have c0 : W.cell? ⟨g, 0, none⟩ = some (.int .i64 m.s) := hB0.c 0
  have c1 : W.cell? ⟨g, 1, none⟩ = some (.int .i64 m.p) := hB0.c 1
  have c2 : W.cell? ⟨g, 2, none⟩ = some (.int .i64 m.b) := hB0.c 2
  have c3 : W.cell? ⟨g, 3, none⟩ = some (.slice (some ⟨rb, ro, none⟩) m.B.length cB) := hB0.c 3
  have c6 : W.cell? ⟨g, 6, none⟩ = some (.int .i64 m.ops) := hB0.c 6
  have c7 : W.cell? ⟨g, 7, none⟩ = some (.bool m.off) := hB0.c 7
  have HG : Hid (W.grownBy W.drew none) := grown_drewN (World.grownBy.refl _ _) 1
  clear key hB0 hG0
  go_region_held3 (fun w' => w'.cell? ⟨g, 0, none⟩ = some (.int .i64 m.s) ∧ w'.cell? ⟨g, 1, none⟩ = some (.int .i64 m.p) ∧ w'.cell? ⟨g, 2, none⟩ = some (.int .i64 m.b) ∧ w'.cell? ⟨g, 3, none⟩ = some (.slice (some ⟨rb, ro, none⟩) m.B.length cB) ∧ w'.cell? ⟨g, 6, none⟩ = some (.int .i64 m.ops) ∧ w'.cell? ⟨g, 7, none⟩ = some (.bool m.off) ∧ Hid (W.grownBy w' none)) (first | (refine ⟨?_, ?_, ?_, ?_, ?_, ?_, ?_⟩ <;> assumption) | go_keep)
    (first
     | (go_at_call 27; refine (HK.out _ (Hid.out (by assumption))).2.2.1.geometry.mono ?_; rintro e W3 ⟨rfl, hg'⟩; have q6 : Hid (W.grownBy W3 none) := grown_trans (Hid.out (by assumption)) hg'; clear hg'; have q0 : W3.cell? ⟨g, 0, none⟩ = some (.int .i64 m.s) := (HK.out _ q6.out).2.1.c 0; have q1 : W3.cell? ⟨g, 1, none⟩ = some (.int .i64 m.p) := (HK.out _ q6.out).2.1.c 1; have q2 : W3.cell? ⟨g, 2, none⟩ = some (.int .i64 m.b) := (HK.out _ q6.out).2.1.c 2; have q3 : W3.cell? ⟨g, 3, none⟩ = some (.slice (some ⟨rb, ro, none⟩) m.B.length cB) := (HK.out _ q6.out).2.1.c 3; have q4 : W3.cell? ⟨g, 6, none⟩ = some (.int .i64 m.ops) := (HK.out _ q6.out).2.1.c 6; have q5 : W3.cell? ⟨g, 7, none⟩ = some (.bool m.off) := (HK.out _ q6.out).2.1.c 7)
     | (go_at_call 22; refine (HK.out _ (Hid.out (by assumption))).2.2.1.size.mono ?_; rintro e w' ⟨rfl, rfl⟩)
     | (go_at_call 25; refine (HK.out _ (Hid.out (by assumption))).2.2.1.ops.mono ?_; rintro e w' ⟨rfl, rfl⟩)
     | (go_at_call 28; refine (HK.out _ (Hid.out (by assumption))).2.2.1.on.mono ?_; rintro e w' ⟨rfl, rfl⟩))
  have H3 : Hid _ := q6
  clear c0 c1 c2 c3 c6 c7 HG q0 q1 q2 q3 q4 q5 q6
  have c4 : W3.cell? ⟨g, 4, none⟩ = some (.slice (some ⟨rd, rdo, none⟩) m.D.length cD) := (HK.out _ H3.out).2.1.c 4
  go_wp2_with fail
  clear c4
  go_loopw [5] (fun vi wr => ∃ j : Nat, vi = .int .i64 ((j : Int) - 1) ∧ j ≤ m.D.length + 2 ∧ Hid (W.grownBy wr none)) (fun vi _ => m.D.length + 2 - (intOf vi + 1).toNat)
  case atStart => exact ⟨0, rfl, Nat.zero_le _, H3⟩
  case round =>
    clear H3
    obtain ⟨j, rfl, j1, HI⟩ := hrel
    have c4 : wr.cell? ⟨g, 4, none⟩ = some (.slice (some ⟨rd, rdo, none⟩) m.D.length cD) := (HK.out _ HI.out).2.1.c 4
    have hwj : IntKind.i64.wrap ((j : Int) - 1 + 1) = (j : Int) := by rw [IntKind.wrap_i64]; omega
    by_cases hj : j < m.D.length + 2
    · have hle : (j : Int) - 1 ≤ (m.D.length : Int) := by omega
      have hdd := (HK.out _ HI.out).2.2.1.dirty HP.out.2.2.2.2 ((j : Int) - 1)
      rcases Nat.eq_zero_or_pos j with h0 | h0
      · have e0 : drt m.D ((j : Int) - 1) = false := by
          unfold drt inL; rw [decide_eq_false (by omega)]; rfl
        rw [e0] at hdd
        have hn : ¬ (0 ≤ (j : Int) - 1) := by omega
        have hn' : decide (0 ≤ (j : Int) - 1) = false := decide_eq_false hn
        clear e0 h0
        go_wp2_with (first | (go_at_call 24; with_reducible refine hdd.mono ?_; rintro e w' ⟨rfl, rfl⟩))
        go_roundw
        case rel => exact ⟨j + 1, by simp, by omega, HI⟩
        case measure => simp [intOf]; omega
      · obtain ⟨t, rfl⟩ : ∃ t, j = t + 1 := ⟨j - 1, by omega⟩
        have et : ((t + 1 : Nat) : Int) - 1 = (t : Int) := by omega
        rw [et] at hle hdd hwj ⊢
        by_cases ht : t < m.D.length
        · have e0 : drt m.D (t : Int) = m.D.getD t false := by
            unfold drt; rw [inL_nat ht, Int.toNat_natCast, Bool.true_and]
          rw [e0] at hdd
          obtain ⟨db', do', ed, hcD⟩ := (HK.out _ HI.out).2.2.2.2.1.cells hlD.2
          injection ed with ed
          injection ed with ed1 ed2
          subst ed1 ed2
          have ct := hcD t (m.D.getD t false) (by rw [List.getD_eq_getElem?_getD, List.getElem?_eq_getElem ht]; rfl)
          have ht' : (t : Int) < (m.D.length : Int) := by omega
          have ht0 : (0 : Int) ≤ (t : Int) := by omega
          generalize m.D.getD t false = u at hdd ct
          clear e0 hcD et
          go_wp2_with (first | (go_at_call 24; with_reducible refine hdd.mono ?_; rintro e w' ⟨rfl, rfl⟩))
          go_roundw
          case rel => exact ⟨t + 1 + 1, by simp, by omega, HI⟩
          case measure => simp [intOf]; omega
        · have e0 : drt m.D (t : Int) = false := by
            unfold drt inL; rw [decide_eq_false (by omega)]; rfl
          rw [e0] at hdd
          have ht0 : (0 : Int) ≤ (t : Int) := by omega
          have htn : ¬ ((t : Int) < (m.D.length : Int)) := by omega
          have htn' : decide ((t : Int) < (m.D.length : Int)) = false := decide_eq_false htn
          clear e0 et
          go_wp2_with (first | (go_at_call 24; with_reducible refine hdd.mono ?_; rintro e w' ⟨rfl, rfl⟩))
          go_roundw
          case rel => exact ⟨t + 1 + 1, by simp, by omega, HI⟩
          case measure => simp [intOf]; omega
    · have hle : ¬ ((j : Int) - 1 ≤ (m.D.length : Int)) := by omega
      have hle' : decide ((j : Int) - 1 ≤ (m.D.length : Int)) = false := decide_eq_false hle
      have c5 : wr.cell? ⟨g, 5, none⟩ = some (.slice (some ⟨rw_, rwo, none⟩) m.W.length cW) := (HK.out _ HI.out).2.1.c 5
      go_wp2_with fail
      clear hle hle' hwj hj c4 c5 j1
      go_loopw [7] (fun vi wr => ∃ j : Nat, vi = .int .i64 ((j : Int) - 1) ∧ j ≤ m.W.length + 2 ∧ Hid (W.grownBy wr none)) (fun vi _ => m.W.length + 2 - (intOf vi + 1).toNat)
      case atStart => exact ⟨0, rfl, Nat.zero_le _, HI⟩
      case round =>
        clear HI
        obtain ⟨j, rfl, j1, HI⟩ := hrel
        have c5 : wr.cell? ⟨g, 5, none⟩ = some (.slice (some ⟨rw_, rwo, none⟩) m.W.length cW) := (HK.out _ HI.out).2.1.c 5
        have hwj : IntKind.i64.wrap ((j : Int) - 1 + 1) = (j : Int) := by rw [IntKind.wrap_i64]; omega
        by_cases hj : j < m.W.length + 2
        · have hle : (j : Int) - 1 ≤ (m.W.length : Int) := by omega
          have hdd : ∀ n, _ := fun n => ((HK.out _ HI.out).2.2.1.grown (grown_drewN (World.grownBy.refl _ _) n)).worn HP.out.2.2.2.2 ((j : Int) - 1)
          rcases Nat.eq_zero_or_pos j with h0 | h0
          · have e0 : wrn m.W ((j : Int) - 1) = 0 := by
              unfold wrn inL; rw [decide_eq_false (by omega)]; rfl
            rw [e0] at hdd
            have hn : ¬ (0 ≤ (j : Int) - 1) := by omega
            have hn' : decide (0 ≤ (j : Int) - 1) = false := decide_eq_false hn
            clear e0 h0
            go_wp2_with fail
            go_quiet (first | (go_at_call 26; exact quiet_eq (hdd _)))
            go_wp2_with fail
            go_roundw
            case rel => exact ⟨j + 1, by simp, by omega, grown_drewN HI.out _⟩
            case measure => simp [intOf]; omega
          · obtain ⟨t, rfl⟩ : ∃ t, j = t + 1 := ⟨j - 1, by omega⟩
            have et : ((t + 1 : Nat) : Int) - 1 = (t : Int) := by omega
            rw [et] at hle hdd hwj ⊢
            by_cases ht : t < m.W.length
            · have e0 : wrn m.W (t : Int) = m.W.getD t 0 := by
                unfold wrn; rw [inL_nat ht, Int.toNat_natCast]; rfl
              rw [e0] at hdd
              obtain ⟨db', do', ed, hcD⟩ := (HK.out _ HI.out).2.2.2.2.2.cells hlW.2
              injection ed with ed
              injection ed with ed1 ed2
              subst ed1 ed2
              have ct := hcD t (m.W.getD t 0) (by rw [List.getD_eq_getElem?_getD, List.getElem?_eq_getElem ht]; rfl)
              have ht' : (t : Int) < (m.W.length : Int) := by omega
              have ht0 : (0 : Int) ≤ (t : Int) := by omega
              generalize m.W.getD t 0 = u at hdd ct
              clear e0 hcD et
              go_wp2_with fail
              go_quiet (first | (go_at_call 26; exact quiet_eq (hdd _)))
              go_wp2_with fail
              go_roundw
              case rel => exact ⟨t + 1 + 1, by simp, by omega, grown_drewN HI.out _⟩
              case measure => simp [intOf]; omega
            · have e0 : wrn m.W (t : Int) = 0 := by
                unfold wrn inL; rw [decide_eq_false (by omega)]; rfl
              rw [e0] at hdd
              have ht0 : (0 : Int) ≤ (t : Int) := by omega
              have htn : ¬ ((t : Int) < (m.W.length : Int)) := by omega
              have htn' : decide ((t : Int) < (m.W.length : Int)) = false := decide_eq_false htn
              clear e0 et
              go_wp2_with fail
              go_quiet (first | (go_at_call 26; exact quiet_eq (hdd _)))
              go_wp2_with fail
              go_roundw
              case rel => exact ⟨t + 1 + 1, by simp, by omega, grown_drewN HI.out _⟩
              case measure => simp [intOf]; omega
        · have hle : ¬ ((j : Int) - 1 ≤ (m.W.length : Int)) := by omega
          have hle' : decide ((j : Int) - 1 ≤ (m.W.length : Int)) = false := decide_eq_false hle
          have c3 : wr.cell? ⟨g, 3, none⟩ = some (.slice (some ⟨rb, ro, none⟩) m.B.length cB) := (HK.out _ HI.out).2.1.c 3
          have c7 : wr.cell? ⟨g, 7, none⟩ = some (.bool m.off) := (HK.out _ HI.out).2.1.c 7
          have hRd := prep_read (HK.out _ HI.out).2.2.1 HP.out.2.2.2.2 0 (m.B.length : Int) (by decide) (by omega)
          have hn0 : ∀ W, _ := fun W => num_any 0 W (by decide)
          cases hoff : m.off with
          | true =>
            rw [hoff] at c7
            clear hRd
            go_wp2_with fail
            go_ret
            exact ⟨rfl, (HK.out _ HI.out).1⟩
          | false =>
            rw [hoff] at c7
            have er0 : rdE m.B.length m.off 0 (m.B.length : Int) = 0 := by unfold rdE; rw [hoff, if_neg (by omega), if_neg (by simp)]
            unfold PdPost at hRd
            rw [er0] at hRd
            clear er0 hoff
            go_wp2_with fail
            refine hRd.mono ?_
            rintro e W5 ⟨v5, rfl, hg5, ⟨x, _⟩ | ⟨_, ga, rfl, hga, hb5, _⟩⟩
            · exact absurd rfl x
            have eB : (m.B.drop (Int.toNat 0)).take (Int.toNat (m.B.length : Int)) = m.B := by simp
            rw [eB] at hb5
            simp only [Int.toNat_natCast]
            obtain ⟨k1, k2, k3, k4, _⟩ := HK.out _ (grown_trans HI.out hg5)
            have d3 : W5.cell? ⟨g, 3, none⟩ = some (.slice (some ⟨rb, ro, none⟩) m.B.length cB) := k2.c 3
            have C1 := conv_row (P := Try.prog) (Blk.row hb5.blk k3.byt (by unfold maxLen; omega)) m.B.length 34 9 Try.underlying34 Try.underlying5 Try.underlying9
            have C2 := conv_row (P := Try.prog) k4 cB 34 9 Try.underlying34 Try.underlying5 Try.underlying9
            have H5 : Hid _ := k1
            generalize strOfNums m.B = Sx at C1 C2
            clear k1 k2 k3 k4 hb5 hg5 hga eB c3 c7 hRd HI hle hle' hwj hj c5 j1
            go_wp2_with (first | (go_at_call 11; with_reducible refine (hn0 _).mono ?_; rintro e w' ⟨rfl, rfl⟩))
            go_ret
            exact ⟨rfl, H5.out⟩
end Go.Proofs.Ytdefcfmnhfeblaa
