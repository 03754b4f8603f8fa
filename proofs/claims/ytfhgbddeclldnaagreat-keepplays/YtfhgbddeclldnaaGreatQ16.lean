/- Same: the program's flash held against the document's. What the program's Make calls: flash's Check, how many sectors each slot has, how many bytes a sector. The program's part: what each call answers. -/
import Derived.Deep.DrawnRows
import Derived.BigRegion
import Derived.Deep.RegionHeld3
import Derived.Test.YtfhgbddeclldnaaGreatQ09
import Derived.Test.YtfhgbddeclldnaaGreatQ15
namespace Go.Proofs.YtfhgbddeclldnaaGreat
open Go.RowKit
set_option maxRecDepth 100000
set_option linter.unusedSimpArgs false
set_option linter.unusedVariables false
attribute [local go_sem ↓] Go.wp_at_zero Go.wp_at_succ

theorem PRep.geometry {w : World} {fb bb db wb : Nat} {m : Fm} {G : Nat → Prop} (h : PRep w fb bb db wb m G) : Calls Tryz.prog 31 #[.pointer (some ⟨fb, 0, none⟩)] w fun e w' => e = .returned (.agg #[.int .i64 m.s, .int .i64 m.p, .int .i64 m.b]) ∧ w.grownBy w' none := by
  obtain ⟨pw, left, aT, cT, T, hp, hw, hg⟩ := h
  exact geometry_any fb _ _ _ w (hp.box.c 0) (hp.box.c 1) (hp.box.c 2)
theorem PRep.on {w : World} {fb bb db wb : Nat} {m : Fm} {G : Nat → Prop} (h : PRep w fb bb db wb m G) : Calls Tryz.prog 34 #[.pointer (some ⟨fb, 0, none⟩)] w fun e w' => e = .returned (.bool (!m.off)) ∧ w = w' := by
  obtain ⟨pw, left, aT, cT, T, hp, hw, hg⟩ := h
  have := on_any fb pw w (hp.box.c 7)
  rw [hw.on] at this
  exact this
theorem PRep.worn {w : World} {fb bb db wb : Nat} {m : Fm} {G : Nat → Prop} {k : Nat} (h : PRep w fb bb db wb m G) (hg : m.Good k) (sec : Int) : Calls Tryz.prog 36 #[.pointer (some ⟨fb, 0, none⟩), .int .i64 sec] w fun e w' => e = .returned (.int .i64 (wrn m.W sec)) ∧ w = w' := by
  obtain ⟨pw, left, aT, cT, T, hp, hw, hg'⟩ := h
  have := hg.s
  have := hg.lW
  exact worn_any fb wb m.W _ sec w (hp.box.c 5) hp.ws (by omega)
theorem cells10 {w : World} {T : TypeId} (x0 x1 x2 x3 x4 x5 x6 x7 x8 x9 : Value) : Box (w.alloc (.cells #[x0, x1, x2, x3, x4, x5, x6, x7, x8, x9] T)) w.heap.size T [x0, x1, x2, x3, x4, x5, x6, x7, x8, x9] := Box.new w T [x0, x1, x2, x3, x4, x5, x6, x7, x8, x9]
set_option maxRecDepth 100000 in
set_option maxHeartbeats 4000000 in
theorem same_any {w : World} {fb bb db wb : Nat} {m : Fm} {G : Nat → Prop} {v : Value} {F : Nat → Prop} {k : Nat} (hP : PRep w fb bb db wb m G) (hR : Rep w v m F) (hg : m.Good k) :
    Calls Tryz.prog 11 #[.pointer (some ⟨fb, 0, none⟩), v] w fun e w' => e = .returned (.bool true) ∧ w.grownBy w' none := by
  obtain ⟨rb, ro, cB, rd, rdo, cD, rw_, rwo, cW, aT, cT, rfl, h1, h2, h3, h4, h5, h6, _⟩ := hR
  have hsp := hg.sp
  have hspb := hg.spb
  have hlB : m.B.length ≤ 16384 := by have := hg.lB; omega
  have hlD : m.D.length ≤ 256 ∧ 0 < m.D.length := by have := hg.lD; omega
  have hlW : m.W.length ≤ 16 ∧ 0 < m.W.length := by have := hg.lW; have := hg.s; omega
  have hB0 := cells10 (w := w) (T := 42) (.int .i64 m.s) (.int .i64 m.p) (.int .i64 m.b) (.slice (some ⟨rb, ro, none⟩) m.B.length cB) (.slice (some ⟨rd, rdo, none⟩) m.D.length cD) (.slice (some ⟨rw_, rwo, none⟩) m.W.length cW) (.int .i64 m.ops) (.bool m.off) (.int .i64 m.after) (.slice aT m.T.length cT)
  have hG0 := World.grownBy_alloc w (.cells #[.int .i64 m.s, .int .i64 m.p, .int .i64 m.b, .slice (some ⟨rb, ro, none⟩) m.B.length cB, .slice (some ⟨rd, rdo, none⟩) m.D.length cD, .slice (some ⟨rw_, rwo, none⟩) m.W.length cW, .int .i64 m.ops, .bool m.off, .int .i64 m.after, .slice aT m.T.length cT] 42) none
  have HP : Hid _ := And.intro hP (And.intro h1 (And.intro h4 (And.intro h5 hg)))
  clear hP h1 h4 h5 h6 hsp hspb hg
  go_enter Tryz.func11, Tryz.ntmps11
  go_wp2_with fail
  generalize (w.alloc (.cells #[.int .i64 m.s, .int .i64 m.p, .int .i64 m.b, .slice (some ⟨rb, ro, none⟩) m.B.length cB, .slice (some ⟨rd, rdo, none⟩) m.D.length cD, .slice (some ⟨rw_, rwo, none⟩) m.W.length cW, .int .i64 m.ops, .bool m.off, .int .i64 m.after, .slice aT m.T.length cT] 42)) = W at *
  generalize hgg : w.heap.size = g at *
  have key : ∀ W', W.grownBy W' none → w.grownBy W' none ∧ Box W' g 42 [.int .i64 m.s, .int .i64 m.p, .int .i64 m.b, .slice (some ⟨rb, ro, none⟩) m.B.length cB, .slice (some ⟨rd, rdo, none⟩) m.D.length cD, .slice (some ⟨rw_, rwo, none⟩) m.W.length cW, .int .i64 m.ops, .bool m.off, .int .i64 m.after, .slice aT m.T.length cT] ∧ PRep W' fb bb db wb m G ∧ Row W' (some ⟨rb, ro, none⟩) m.B.length m.B ∧ RowE Value.bool W' (some ⟨rd, rdo, none⟩) m.D.length m.D ∧ RowE (Value.int .i64) W' (some ⟨rw_, rwo, none⟩) m.W.length m.W := by
    intro W' hW
    have hw := grown_trans hG0 hW
    exact ⟨hw, hB0.grown hW, HP.out.1.grown hw, HP.out.2.1.grown hw, HP.out.2.2.1.grown hw, HP.out.2.2.2.1.grown hw⟩
  have HK : Hid _ := key
  have c0 : W.cell? ⟨g, 0, none⟩ = some (.int .i64 m.s) := hB0.c 0
  have c1 : W.cell? ⟨g, 1, none⟩ = some (.int .i64 m.p) := hB0.c 1
  have c2 : W.cell? ⟨g, 2, none⟩ = some (.int .i64 m.b) := hB0.c 2
  have c3 : W.cell? ⟨g, 3, none⟩ = some (.slice (some ⟨rb, ro, none⟩) m.B.length cB) := hB0.c 3
  have c6 : W.cell? ⟨g, 6, none⟩ = some (.int .i64 m.ops) := hB0.c 6
  have c7 : W.cell? ⟨g, 7, none⟩ = some (.bool m.off) := hB0.c 7
  have HG : Hid (W.grownBy W.drew none) := grown_drewN (World.grownBy.refl _ _) 1
  clear key hB0 hG0
  go_region_held3 (fun w' => w'.cell? ⟨g, 0, none⟩ = some (.int .i64 m.s) ∧ w'.cell? ⟨g, 1, none⟩ = some (.int .i64 m.p) ∧ w'.cell? ⟨g, 2, none⟩ = some (.int .i64 m.b) ∧ w'.cell? ⟨g, 3, none⟩ = some (.slice (some ⟨rb, ro, none⟩) m.B.length cB) ∧ w'.cell? ⟨g, 6, none⟩ = some (.int .i64 m.ops) ∧ w'.cell? ⟨g, 7, none⟩ = some (.bool m.off) ∧ Hid (W.grownBy w' none)) (first | (refine ⟨?_, ?_, ?_, ?_, ?_, ?_, ?_⟩ <;> assumption) | go_keep)
    (first
     | (go_at_call 31; refine (HK.out _ (Hid.out (by assumption))).2.2.1.geometry.mono ?_; rintro e W3 ⟨rfl, hg'⟩; have q6 : Hid (W.grownBy W3 none) := grown_trans (Hid.out (by assumption)) hg'; clear hg'; have q0 : W3.cell? ⟨g, 0, none⟩ = some (.int .i64 m.s) := (HK.out _ q6.out).2.1.c 0; have q1 : W3.cell? ⟨g, 1, none⟩ = some (.int .i64 m.p) := (HK.out _ q6.out).2.1.c 1; have q2 : W3.cell? ⟨g, 2, none⟩ = some (.int .i64 m.b) := (HK.out _ q6.out).2.1.c 2; have q3 : W3.cell? ⟨g, 3, none⟩ = some (.slice (some ⟨rb, ro, none⟩) m.B.length cB) := (HK.out _ q6.out).2.1.c 3; have q4 : W3.cell? ⟨g, 6, none⟩ = some (.int .i64 m.ops) := (HK.out _ q6.out).2.1.c 6; have q5 : W3.cell? ⟨g, 7, none⟩ = some (.bool m.off) := (HK.out _ q6.out).2.1.c 7)
     | (go_at_call 32; refine (HK.out _ (Hid.out (by assumption))).2.2.1.size.mono ?_; rintro e w' ⟨rfl, rfl⟩)
     | (go_at_call 33; refine (HK.out _ (Hid.out (by assumption))).2.2.1.ops.mono ?_; rintro e w' ⟨rfl, rfl⟩)
     | (go_at_call 34; refine (HK.out _ (Hid.out (by assumption))).2.2.1.on.mono ?_; rintro e w' ⟨rfl, rfl⟩))
  have H3 : Hid _ := q6
  clear c0 c1 c2 c3 c6 c7 HG q0 q1 q2 q3 q4 q5 q6
  have c4 : W3.cell? ⟨g, 4, none⟩ = some (.slice (some ⟨rd, rdo, none⟩) m.D.length cD) := (HK.out _ H3.out).2.1.c 4
  go_wp2_with fail
  clear c4
  go_loopw [5] (fun vi wr => ∃ j : Nat, vi = .int .i64 ((j : Int) - 1) ∧ j ≤ m.D.length + 2 ∧ Hid (W.grownBy wr none)) (fun vi _ => m.D.length + 2 - (intOf vi + 1).toNat)
  case atStart => exact ⟨0, rfl, Nat.zero_le _, H3⟩
  case round =>
    clear H3
    obtain ⟨j, rfl, j1, HI⟩ := hrel
    have c4 : wr.cell? ⟨g, 4, none⟩ = some (.slice (some ⟨rd, rdo, none⟩) m.D.length cD) := (HK.out _ HI.out).2.1.c 4
    have hwj : IntKind.i64.wrap ((j : Int) - 1 + 1) = (j : Int) := by rw [IntKind.wrap_i64]; omega
    by_cases hj : j < m.D.length + 2
    · have hle : (j : Int) - 1 ≤ (m.D.length : Int) := by omega
      have hdd := (HK.out _ HI.out).2.2.1.dirty HP.out.2.2.2.2 ((j : Int) - 1)
      rcases Nat.eq_zero_or_pos j with h0 | h0
      · have e0 : drt m.D ((j : Int) - 1) = false := by
          unfold drt inL; rw [decide_eq_false (by omega)]; rfl
        rw [e0] at hdd
        have hn : ¬ (0 ≤ (j : Int) - 1) := by omega
        have hn' : decide (0 ≤ (j : Int) - 1) = false := decide_eq_false hn
        clear e0 h0
        go_wp2_with (first | (go_at_call 35; with_reducible refine hdd.mono ?_; rintro e w' ⟨rfl, rfl⟩))
        go_roundw
        case rel => exact ⟨j + 1, by simp, by omega, HI⟩
        case measure => simp [intOf]; omega
      · obtain ⟨t, rfl⟩ : ∃ t, j = t + 1 := ⟨j - 1, by omega⟩
        have et : ((t + 1 : Nat) : Int) - 1 = (t : Int) := by omega
        rw [et] at hle hdd hwj ⊢
        by_cases ht : t < m.D.length
        · have e0 : drt m.D (t : Int) = m.D.getD t false := by
            unfold drt; rw [inL_nat ht, Int.toNat_natCast, Bool.true_and]
          rw [e0] at hdd
          obtain ⟨db', do', ed, hcD⟩ := (HK.out _ HI.out).2.2.2.2.1.cells hlD.2
          injection ed with ed
          injection ed with ed1 ed2
          subst ed1 ed2
          have ct := hcD t (m.D.getD t false) (by rw [List.getD_eq_getElem?_getD, List.getElem?_eq_getElem ht]; rfl)
          have ht' : (t : Int) < (m.D.length : Int) := by omega
          have ht0 : (0 : Int) ≤ (t : Int) := by omega
          generalize m.D.getD t false = u at hdd ct
          clear e0 hcD et
          go_wp2_with (first | (go_at_call 35; with_reducible refine hdd.mono ?_; rintro e w' ⟨rfl, rfl⟩))
          go_roundw
          case rel => exact ⟨t + 1 + 1, by simp, by omega, HI⟩
          case measure => simp [intOf]; omega
        · have e0 : drt m.D (t : Int) = false := by
            unfold drt inL; rw [decide_eq_false (by omega)]; rfl
          rw [e0] at hdd
          have ht0 : (0 : Int) ≤ (t : Int) := by omega
          have htn : ¬ ((t : Int) < (m.D.length : Int)) := by omega
          have htn' : decide ((t : Int) < (m.D.length : Int)) = false := decide_eq_false htn
          clear e0 et
          go_wp2_with (first | (go_at_call 35; with_reducible refine hdd.mono ?_; rintro e w' ⟨rfl, rfl⟩))
          go_roundw
          case rel => exact ⟨t + 1 + 1, by simp, by omega, HI⟩
          case measure => simp [intOf]; omega
    · have hle : ¬ ((j : Int) - 1 ≤ (m.D.length : Int)) := by omega
      have hle' : decide ((j : Int) - 1 ≤ (m.D.length : Int)) = false := decide_eq_false hle
      have c5 : wr.cell? ⟨g, 5, none⟩ = some (.slice (some ⟨rw_, rwo, none⟩) m.W.length cW) := (HK.out _ HI.out).2.1.c 5
      go_wp2_with fail
      clear hle hle' hwj hj c4 c5 j1
      go_loopw [7] (fun vi wr => ∃ j : Nat, vi = .int .i64 ((j : Int) - 1) ∧ j ≤ m.W.length + 2 ∧ Hid (W.grownBy wr none)) (fun vi _ => m.W.length + 2 - (intOf vi + 1).toNat)
      case atStart => exact ⟨0, rfl, Nat.zero_le _, HI⟩
      case round =>
        clear HI
        obtain ⟨j, rfl, j1, HI⟩ := hrel
        have c5 : wr.cell? ⟨g, 5, none⟩ = some (.slice (some ⟨rw_, rwo, none⟩) m.W.length cW) := (HK.out _ HI.out).2.1.c 5
        have hwj : IntKind.i64.wrap ((j : Int) - 1 + 1) = (j : Int) := by rw [IntKind.wrap_i64]; omega
        by_cases hj : j < m.W.length + 2
        · have hle : (j : Int) - 1 ≤ (m.W.length : Int) := by omega
          have hdd : ∀ n, _ := fun n => ((HK.out _ HI.out).2.2.1.grown (grown_drewN (World.grownBy.refl _ _) n)).worn HP.out.2.2.2.2 ((j : Int) - 1)
          rcases Nat.eq_zero_or_pos j with h0 | h0
          · have e0 : wrn m.W ((j : Int) - 1) = 0 := by
              unfold wrn inL; rw [decide_eq_false (by omega)]; rfl
            rw [e0] at hdd
            have hn : ¬ (0 ≤ (j : Int) - 1) := by omega
            have hn' : decide (0 ≤ (j : Int) - 1) = false := decide_eq_false hn
            clear e0 h0
            go_wp2_with fail
            go_quiet (first | (go_at_call 36; exact quiet_eq (hdd _)))
            go_wp2_with fail
            go_roundw
            case rel => exact ⟨j + 1, by simp, by omega, grown_drewN HI.out _⟩
            case measure => simp [intOf]; omega
          · obtain ⟨t, rfl⟩ : ∃ t, j = t + 1 := ⟨j - 1, by omega⟩
            have et : ((t + 1 : Nat) : Int) - 1 = (t : Int) := by omega
            rw [et] at hle hdd hwj ⊢
            by_cases ht : t < m.W.length
            · have e0 : wrn m.W (t : Int) = m.W.getD t 0 := by
                unfold wrn; rw [inL_nat ht, Int.toNat_natCast]; rfl
              rw [e0] at hdd
              obtain ⟨db', do', ed, hcD⟩ := (HK.out _ HI.out).2.2.2.2.2.cells hlW.2
              injection ed with ed
              injection ed with ed1 ed2
              subst ed1 ed2
              have ct := hcD t (m.W.getD t 0) (by rw [List.getD_eq_getElem?_getD, List.getElem?_eq_getElem ht]; rfl)
              have ht' : (t : Int) < (m.W.length : Int) := by omega
              have ht0 : (0 : Int) ≤ (t : Int) := by omega
              generalize m.W.getD t 0 = u at hdd ct
              clear e0 hcD et
              go_wp2_with fail
              go_quiet (first | (go_at_call 36; exact quiet_eq (hdd _)))
              go_wp2_with fail
              go_roundw
              case rel => exact ⟨t + 1 + 1, by simp, by omega, grown_drewN HI.out _⟩
              case measure => simp [intOf]; omega
            · have e0 : wrn m.W (t : Int) = 0 := by
                unfold wrn inL; rw [decide_eq_false (by omega)]; rfl
              rw [e0] at hdd
              have ht0 : (0 : Int) ≤ (t : Int) := by omega
              have htn : ¬ ((t : Int) < (m.W.length : Int)) := by omega
              have htn' : decide ((t : Int) < (m.W.length : Int)) = false := decide_eq_false htn
              clear e0 et
              go_wp2_with fail
              go_quiet (first | (go_at_call 36; exact quiet_eq (hdd _)))
              go_wp2_with fail
              go_roundw
              case rel => exact ⟨t + 1 + 1, by simp, by omega, grown_drewN HI.out _⟩
              case measure => simp [intOf]; omega
        · have hle : ¬ ((j : Int) - 1 ≤ (m.W.length : Int)) := by omega
          have hle' : decide ((j : Int) - 1 ≤ (m.W.length : Int)) = false := decide_eq_false hle
          have c3 : wr.cell? ⟨g, 3, none⟩ = some (.slice (some ⟨rb, ro, none⟩) m.B.length cB) := (HK.out _ HI.out).2.1.c 3
          have c7 : wr.cell? ⟨g, 7, none⟩ = some (.bool m.off) := (HK.out _ HI.out).2.1.c 7
          have hRd := prep_read (HK.out _ HI.out).2.2.1 HP.out.2.2.2.2 0 (m.B.length : Int) (by decide) (by omega)
          have hn0 : ∀ W, _ := fun W => num_any 0 W (by decide)
          cases hoff : m.off with
          | true =>
            rw [hoff] at c7
            clear hRd
            go_wp2_with fail
            go_ret
            exact ⟨rfl, (HK.out _ HI.out).1⟩
          | false =>
            rw [hoff] at c7
            have er0 : rdE m.B.length m.off 0 (m.B.length : Int) = 0 := by unfold rdE; rw [hoff, if_neg (by omega), if_neg (by simp)]
            unfold PdPost at hRd
            rw [er0] at hRd
            clear er0 hoff
            go_wp2_with fail
            refine hRd.mono ?_
            rintro e W5 ⟨v5, rfl, hg5, ⟨x, _⟩ | ⟨_, ga, rfl, hga, hb5, _⟩⟩
            · exact absurd rfl x
            have eB : (m.B.drop (Int.toNat 0)).take (Int.toNat (m.B.length : Int)) = m.B := by simp
            rw [eB] at hb5
            simp only [Int.toNat_natCast]
            obtain ⟨k1, k2, k3, k4, _⟩ := HK.out _ (grown_trans HI.out hg5)
            have d3 : W5.cell? ⟨g, 3, none⟩ = some (.slice (some ⟨rb, ro, none⟩) m.B.length cB) := k2.c 3
            have C1 := conv_row (P := Tryz.prog) (Blk.row hb5.blk k3.byt (by unfold maxLen; omega)) m.B.length 36 9 Tryz.underlying36 Tryz.underlying5 Tryz.underlying9
            have C2 := conv_row (P := Tryz.prog) k4 cB 36 9 Tryz.underlying36 Tryz.underlying5 Tryz.underlying9
            have H5 : Hid _ := k1
            generalize strOfNums m.B = Sx at C1 C2
            clear k1 k2 k3 k4 hb5 hg5 hga eB c3 c7 hRd HI hle hle' hwj hj c5 j1
            go_wp2_with (first | (go_at_call 38; with_reducible refine (hn0 _).mono ?_; rintro e w' ⟨rfl, rfl⟩))
            go_ret
            exact ⟨rfl, H5.out⟩
end Go.Proofs.YtfhgbddeclldnaaGreat

namespace Go.Proofs.YtfhgbddeclldnaaGreat.Pa
open Go.RowKit
set_option maxRecDepth 100000
set_option linter.unusedSimpArgs false
set_option linter.unusedVariables false

theorem within_any (n lo hi : Int) (w : World) : Calls Tryz.prog 45 #[.int .i64 n, .int .i64 lo, .int .i64 hi] w fun e w' => e = .returned (.bool (decide (lo ≤ n ∧ n ≤ hi))) ∧ w = w' := by
  by_cases h1 : lo ≤ n
  · have hd : decide (lo ≤ n ∧ n ≤ hi) = decide (n ≤ hi) := by simp [h1]
    rw [hd]
    go_enter Tryz.func45, Tryz.ntmps45
    go_wp2
    go_ret
    exact ⟨rfl, rfl⟩
  · have hd : decide (lo ≤ n ∧ n ≤ hi) = false := by simp [h1]
    rw [hd]
    go_enter Tryz.func45, Tryz.ntmps45
    go_wp2
    go_ret
    exact ⟨rfl, rfl⟩
theorem quo_iff {q b : Int} (hb : 0 < b) : Int.tdiv 16777216 b < q ↔ 16777216 < q * b := by
  rw [Int.tdiv_eq_ediv_of_nonneg (by decide)]
  exact Int.ediv_lt_iff_lt_mul hb
theorem drewNG (w : World) (n : Nat) : w.grownBy (w.drewN n) none := ⟨by simp [World.drewN], by simp [World.drewN], by simp [World.drewN], by simp [World.drewN], fun _ _ _ => by simp [World.drewN]⟩
theorem grown_drewN {w w' : World} (h : w.grownBy w' none) (n : Nat) : w.grownBy (w'.drewN n) none := grown_trans h (drewNG w' n)
set_option maxHeartbeats 1000000 in
theorem fcheck_any (s p b : Int) (w : World) :
    Calls Tryz.prog 15 #[.agg #[.int .i64 s, .int .i64 p, .int .i64 b]] w fun e w' => e = .returned (.int .i64 (chk s p b)) ∧ w.grownBy w' none := by
  have hs : ∀ W, _ := fun W => within_any s 1 4096 W
  have hp : ∀ W, _ := fun W => within_any p 1 1024 W
  have hb : ∀ W, _ := fun W => within_any b 16 65536 W
  by_cases h1 : 1 ≤ s ∧ s ≤ 4096
  · rw [decide_eq_true h1] at hs
    by_cases h2 : 1 ≤ p ∧ p ≤ 1024
    · rw [decide_eq_true h2] at hp
      by_cases h3 : 16 ≤ b ∧ b ≤ 65536
      · rw [decide_eq_true h3] at hb
        obtain ⟨q1, q2, q3⟩ := prod_in (s := s) (p := p) (b := b) (by omega) (by omega) (by omega) (by omega) (by omega) (by omega)
        have hq := quo_iff (q := s * p) (b := b) (by omega)
        have hb0 : ¬ b = 0 := by omega
        have hb1 : (b == 0) = false := by simpa using hb0
        have e : chk s p b = if 16777216 < s * p * b then 2 else 0 := by unfold chk; rw [if_neg (by omega)]
        rw [e]
        clear e q2
        have hdv : 0 ≤ Int.tdiv 16777216 b ∧ Int.tdiv 16777216 b ≤ 16777216 := ⟨Int.tdiv_nonneg (by decide) (by omega), by
          rw [Int.tdiv_eq_ediv_of_nonneg (by decide)]; exact Int.ediv_le_self _ (by decide)⟩
        have hw4 : IntKind.i64.wrap (Int.tdiv 16777216 b) = Int.tdiv 16777216 b := by rw [IntKind.wrap_i64]; omega
        by_cases h4 : 16777216 < s * p * b
        · rw [if_pos h4]
          have h5 := hq.2 h4
          clear hq h4
          go_enter Tryz.func15, Tryz.ntmps15
          go_wp2_with (first | (go_at_call 45; with_reducible refine (hs _).mono ?_; rintro e w' ⟨rfl, rfl⟩) | (go_at_call 45; with_reducible refine (hp _).mono ?_; rintro e w' ⟨rfl, rfl⟩) | (go_at_call 45; with_reducible refine (hb _).mono ?_; rintro e w' ⟨rfl, rfl⟩))
          go_quiet (fail)
          go_wp2
          go_ret
          exact ⟨rfl, grown_drewN (World.grownBy_alloc _ _ _) _⟩
        · rw [if_neg h4]
          have h5 : ¬ Int.tdiv 16777216 b < s * p := fun x => h4 (hq.1 x)
          clear hq h4
          go_enter Tryz.func15, Tryz.ntmps15
          go_wp2_with (first | (go_at_call 45; with_reducible refine (hs _).mono ?_; rintro e w' ⟨rfl, rfl⟩) | (go_at_call 45; with_reducible refine (hp _).mono ?_; rintro e w' ⟨rfl, rfl⟩) | (go_at_call 45; with_reducible refine (hb _).mono ?_; rintro e w' ⟨rfl, rfl⟩))
          go_quiet (fail)
          go_wp2
          go_ret
          exact ⟨rfl, grown_drewN (World.grownBy_alloc _ _ _) _⟩
      · rw [decide_eq_false h3] at hb
        have e : chk s p b = 1 := by unfold chk; rw [if_pos (by omega)]
        rw [e]
        go_enter Tryz.func15, Tryz.ntmps15
        go_wp2_with (first | (go_at_call 45; with_reducible refine (hs _).mono ?_; rintro e w' ⟨rfl, rfl⟩) | (go_at_call 45; with_reducible refine (hp _).mono ?_; rintro e w' ⟨rfl, rfl⟩) | (go_at_call 45; with_reducible refine (hb _).mono ?_; rintro e w' ⟨rfl, rfl⟩))
        go_ret
        exact ⟨rfl, World.grownBy_alloc _ _ _⟩
    · rw [decide_eq_false h2] at hp
      have e : chk s p b = 1 := by unfold chk; rw [if_pos (by omega)]
      rw [e]
      go_enter Tryz.func15, Tryz.ntmps15
      go_wp2_with (first | (go_at_call 45; with_reducible refine (hs _).mono ?_; rintro e w' ⟨rfl, rfl⟩) | (go_at_call 45; with_reducible refine (hp _).mono ?_; rintro e w' ⟨rfl, rfl⟩))
      go_ret
      exact ⟨rfl, World.grownBy_alloc _ _ _⟩
  · rw [decide_eq_false h1] at hs
    have e : chk s p b = 1 := by unfold chk; rw [if_pos (by omega)]
    rw [e]
    go_enter Tryz.func15, Tryz.ntmps15
    go_wp2_with (first | (go_at_call 45; with_reducible refine (hs _).mono ?_; rintro e w' ⟨rfl, rfl⟩))
    go_ret
    exact ⟨rfl, World.grownBy_alloc _ _ _⟩
theorem psb_any (s p b : Int) (w : World) (h2 : 1 ≤ p ∧ p ≤ 1024) (h3 : 16 ≤ b ∧ b ≤ 65536) : Calls Tryz.prog 99 #[.agg #[.int .i64 s, .int .i64 p, .int .i64 b]] w fun e w' => e = .returned (.int .i64 (p * b)) ∧ w.grownBy w' none := by
  have e1 : p * b ≤ 1024 * 65536 := Int.mul_le_mul h2.2 h3.2 (by omega) (by omega)
  have e0 : 0 ≤ p * b := Int.mul_nonneg (by omega) (by omega)
  have w1 : IntKind.i64.wrap (p * b) = p * b := by rw [IntKind.wrap_i64]; omega
  go_enter Tryz.func99, Tryz.ntmps99
  go_wp2
  go_ret
  exact ⟨rfl, World.grownBy_alloc _ _ _⟩
theorem pshare_any (s z : Int) (w : World) (hs : 2 ≤ s ∧ s ≤ 4096) (hz : 1 ≤ z ∧ z ≤ 67108864) : Calls Tryz.prog 98 #[.int .i64 s, .int .i64 z] w fun e w' => e = .returned (.int .i64 (max 1 (min (s / 2) (8388608 / z)))) ∧ w.grownBy w' none := by
  have hq : Int.tdiv 8388608 z = 8388608 / z := Int.tdiv_eq_ediv_of_nonneg (by decide)
  have hd : Int.tdiv s 2 = s / 2 := Int.tdiv_eq_ediv_of_nonneg (by omega)
  have hqb : 0 ≤ 8388608 / z ∧ 8388608 / z ≤ 8388608 := ⟨Int.ediv_nonneg (by decide) (by omega), Int.ediv_le_self _ (by decide)⟩
  have hz0 : (z == 0) = false := by simp; omega
  generalize 8388608 / z = D at *
  go_enter Tryz.func98, Tryz.ntmps98
  go_wp2
  all_goals
    go_ret
    refine ⟨congrArg (fun x => Ending.returned (Value.int IntKind.i64 x)) (?_ : _ = max 1 (min (s / 2) D)), ⟨rfl, rfl, rfl, Nat.le_refl _, fun _ _ _ => rfl⟩⟩
    rename_i k
    clear hq hd hz0
    omega
end Go.Proofs.YtfhgbddeclldnaaGreat.Pa

namespace Go.Proofs.YtfhgbddeclldnaaGreat.Pa
open Go.RowKit
set_option maxRecDepth 100000
set_option linter.unusedSimpArgs false
set_option linter.unusedVariables false

def pchk (P : Pl) : Int := if rgt P = true then 0 else 1
def psz (P : Pl) : Int := if rgt P = true then sze P else 0
def pbs (P : Pl) (slot : Int) : Int × Int := if rgt P = false ∨ slot < 0 ∨ 1 < slot then (0, 1) else ((if slot = 0 then P.y0 else P.y1) * P.p * P.b, 0)
def psc (P : Pl) (slot i : Int) : Int × Int := if rgt P = false ∨ slot < 0 ∨ 1 < slot then (0, 1) else if i < 0 ∨ P.n ≤ i then (0, 9) else ((if slot = 0 then P.y0 else P.y1) + i, 0)
def oth (slot : Int) : Int := if slot = 0 then 1 else 0
/-- a guard: the next operation stores a plan -/
theorem plan_here {P : Program} {w : World} {ops : Array Oper} {rest : List Oper} {a : Act} {Q : Exit → Act → World → Prop} {dst : Option Nat} {x y : Operand} {type : TypeId} {pos : String} {after : Array Edge} {guard : Option (Nat × Bool)}
    (h : wpList P ops Q (⟨dst, .store 26 x y, type, pos, after, guard⟩ :: rest) a w) : wpList P ops Q (⟨dst, .store 26 x y, type, pos, after, guard⟩ :: rest) a w := h
theorem setRow_grown (w : World) (g : Nat) (cs : Array Value) : w.grownBy (w.setRow g cs) (some g) := ⟨rfl, rfl, rfl, by simp [World.setRow], fun k _ hk => setRow_other w g k _ (fun e => hk (by rw [e]))⟩
/-- a variable of several cells, stored whole -/
theorem wpList_store_bx {P : Program} {ops : Array Oper} {rest : List Oper} {o : Oper} {a : Act} {w : World} {Q : Exit → Act → World → Prop} (hgd : o.guard = none) (ty : TypeId) (x y : Operand) (ho : o.op = .store ty x y)
    (g : Nat) (cs : List Value) (hx : a.eval x = .pointer (some ⟨g, 0, none⟩)) (hy : a.eval y = .agg cs.toArray) {T : TypeId} {old : List Value} (hb : Bx w g T old) (hi : (P.info? ty).map (·.size) = some cs.length)
    (hl : old.length = cs.length) (h1 : cs.all (·.oneCell') = true)
    (h : ∀ W', Bx W' g T cs → w.grownBy W' (some g) → wpList P ops Q rest (a.put o.dst undef) W') : wpList P ops Q (o :: rest) a w :=
  wpList_store_row hgd ty x y ho g cs.toArray hx hy T old.toArray hb.blk (by rw [List.size_toArray]; exact hi) (by simp [hl]) (by rw [List.all_toArray]; exact h1) (h _ ⟨setRow_heap _ _ _ _ _ _ hb.blk⟩ (setRow_grown w g cs.toArray))
theorem plan_size : (Tryz.prog.info? 26).map (·.size) = some 8 := by kernel_rfl
theorem bc8 {W : World} {g : Nat} {T : TypeId} {a b c d e f i j : Value} (h : Bx W g T [a, b, c, d, e, f, i, j]) : W.cell? ⟨g, 0, none⟩ = some a ∧ W.cell? ⟨g, 1, none⟩ = some b ∧ W.cell? ⟨g, 2, none⟩ = some c ∧ W.cell? ⟨g, 3, none⟩ = some d ∧ W.cell? ⟨g, 4, none⟩ = some e ∧ W.cell? ⟨g, 5, none⟩ = some f ∧ W.cell? ⟨g, 6, none⟩ = some i ∧ W.cell? ⟨g, 7, none⟩ = some j := ⟨h.c 0, h.c 1, h.c 2, h.c 3, h.c 4, h.c 5, h.c 6, h.c 7⟩
theorem bc3 {W : World} {g : Nat} {T : TypeId} {x y z : Value} (h : Bx W g T [x, y, z]) : W.cell? ⟨g, 0, none⟩ = some x ∧ W.cell? ⟨g, 1, none⟩ = some y ∧ W.cell? ⟨g, 2, none⟩ = some z := ⟨h.c 0, h.c 1, h.c 2⟩
theorem bc2 {W : World} {g : Nat} {T : TypeId} {x y : Value} (h : Bx W g T [x, y]) : W.cell? ⟨g, 0, none⟩ = some x ∧ W.cell? ⟨g, 1, none⟩ = some y := ⟨h.c 0, h.c 1⟩
/-- Make's variables: the geometry, the answer, the boot records -/
structure MkH (s p b : Int) (w w' : World) (g gz gb : Nat) : Prop where
  gr : w.grownBy w' none
  ge : Bx w' g 23 [.int .i64 s, .int .i64 p, .int .i64 b]
  z : Bx w' gz 26 [.int .i64 0, .int .i64 0, .int .i64 0, .int .i64 0, .int .i64 0, .int .i64 0, .int .i64 0, .int .i64 0]
  two : Bx w' gb 24 [.int .i64 0, .int .i64 1]
theorem MkH.kept {s p b : Int} {w w' w2 : World} {g gz gb : Nat} (h : MkH s p b w w' g gz gb) (k : w'.grownBy w2 none) : MkH s p b w w2 g gz gb := ⟨grown_trans h.gr k, h.ge.kept k, h.z.kept k, h.two.kept k⟩
theorem hidM {s p b : Int} {w w' w2 : World} {g gz gb : Nat} (h : Hid (MkH s p b w w' g gz gb)) (k : w'.grownBy w2 none) : Hid (MkH s p b w w2 g gz gb) := h.out.kept k
set_option maxHeartbeats 2000000 in
theorem pmake_any (s p b : Int) (w : World) (hs : bnd64 s) (hp : bnd64 p) (hb : bnd64 b) : Calls Tryz.prog 87 #[.agg #[.int .i64 s, .int .i64 p, .int .i64 b]] w fun e w' => e = .returned (.tuple #[(mk s p b).1.val, .int .i64 (mk s p b).2]) ∧ w.grownBy w' none := by
  have hc := fun W => fcheck_any s p b W
  have A0 := (Bx.new w 23 [.int .i64 s, .int .i64 p, .int .i64 b]).kept (World.grownBy_alloc _ (.cells #[.int .i64 0, .int .i64 0, .int .i64 0, .int .i64 0, .int .i64 0, .int .i64 0, .int .i64 0, .int .i64 0] 26) none)
  have G0 := grown_trans (World.grownBy_alloc w (.cells #[.int .i64 s, .int .i64 p, .int .i64 b] 23) none) (World.grownBy_alloc _ (.cells #[.int .i64 0, .int .i64 0, .int .i64 0, .int .i64 0, .int .i64 0, .int .i64 0, .int .i64 0, .int .i64 0] 26) none)
  have Z0 := Bx.new (w.alloc (.cells #[.int .i64 s, .int .i64 p, .int .i64 b] 23)) 26 [.int .i64 0, .int .i64 0, .int .i64 0, .int .i64 0, .int .i64 0, .int .i64 0, .int .i64 0, .int .i64 0]
  simp only [World.size_alloc] at Z0
  have HA : Hid _ := And.intro A0 (And.intro G0 Z0)
  clear A0 G0 Z0
  by_cases h0 : chk s p b = 0
  · have hg := chk_zero h0
    rw [h0] at hc
    by_cases h1 : s < 4 ∨ b < 64
    · have e : mk s p b = (pl0, 1) := by unfold mk; rw [if_neg (by simp [h0]), if_pos h1]
      rw [e]
      have hgs : 1 ≤ s ∧ s ≤ 4096 := by omega
      have hgb : 16 ≤ b ∧ b ≤ 65536 := by omega
      clear hg h0 e
      go_enter Tryz.func87, Tryz.ntmps87
      go_wp2_with fail
      refine (hc _).mono ?_
      rintro e w1 ⟨rfl, g1⟩
      have A1 := HA.out.1.kept g1
      have HZ : Hid _ := HA.out.2.2.kept g1
      have HG : Hid _ := grown_trans HA.out.2.1 g1
      obtain ⟨c0, -, c2⟩ := bc3 A1
      clear g1 A1 HA hc
      generalize hgw : w.heap.size = g at *
      have HH : Hid (w.heap.size ≤ g + 1) := by show _ ≤ _; omega
      clear hgw
      simp only
      rcases h1 with h1 | h1
      all_goals
        go_wp2_with ((with_reducible refine plan_here ?_); refine wpList_store_bx rfl 26 _ _ rfl (g + 1) [.int .i64 0, .int .i64 0, .int .i64 0, .int .i64 0, .int .i64 0, .int .i64 0, .int .i64 0, .int .i64 0] rfl rfl HZ.out plan_size rfl rfl ?_; intro W' hb hg; obtain ⟨d0, d1, d2, d3, d4, d5, d6, d7⟩ := bc8 hb; have HF : Hid _ := grown_new (Hid.out HG) hg (Hid.out HH); clear hb hg HZ)
        all_goals
          refine bodyPost_ret (by simp [results, Tryz.results87, go_sem, d0, d1, d2, d3, d4, d5, d6, d7]; try rfl) rfl ?_
          exact ⟨rfl, HF.out⟩
    · have e : mk s p b = (⟨s, p, b, 0, 1, 2, 2 + slots s p b, slots s p b⟩, 0) := by unfold mk; rw [if_neg (by simp [h0]), if_neg h1]
      rw [e]
      have hpb : 1 ≤ p * b ∧ p * b ≤ 67108864 := by
        have e1 : p * b ≤ 1024 * 65536 := Int.mul_le_mul (by omega) (by omega) (by omega) (by omega)
        have e0 : 1 * 1 ≤ p * b := Int.mul_le_mul (by omega) (by omega) (by omega) (by omega)
        omega
      have hsb := fun W => psb_any s p b W (by omega) (by omega)
      have hsh := fun W => pshare_any (s - 2) (p * b) W (by omega) hpb
      have hsl : slots s p b = max 1 (min ((s - 2) / 2) (8388608 / (p * b))) := rfl
      have hN : 1 ≤ slots s p b ∧ slots s p b ≤ 4096 := by
        rw [hsl]
        have : 0 ≤ (s - 2) / 2 ∧ (s - 2) / 2 ≤ 4096 := by omega
        generalize (s - 2) / 2 = X at *
        generalize 8388608 / (p * b) = Y at *
        omega
      rw [← hsl] at hsh
      clear e hsl
      generalize slots s p b = N at *
      generalize p * b = Z at *
      have d1 : decide (s < 4) = false := decide_eq_false (by omega)
      have d2 : decide (b < 64) = false := decide_eq_false (by omega)
      have hg4 : 4 ≤ s ∧ s ≤ 4096 := by omega
      have hgb : 64 ≤ b ∧ b ≤ 65536 := by omega
      clear hg h1 h0
      go_enter Tryz.func87, Tryz.ntmps87
      go_wp2_with fail
      refine (hc _).mono ?_
      rintro e w1 ⟨rfl, g1⟩
      obtain ⟨c0, c1, c2⟩ := bc3 (HA.out.1.kept g1)
      have a2 := World.grownBy_alloc w1 (.cells #[.int .i64 0, .int .i64 1] 24) none
      have M0 : Hid (MkH s p b w (w1.alloc (.cells #[.int .i64 0, .int .i64 1] 24)) w.heap.size (w.heap.size + 1) w1.heap.size) := ⟨grown_trans (grown_trans HA.out.2.1 g1) a2, (HA.out.1.kept g1).kept a2, (HA.out.2.2.kept g1).kept a2, Bx.new w1 24 [.int .i64 0, .int .i64 1]⟩
      clear g1 HA hc a2
      generalize hgw : w.heap.size = g at *
      have HH : Hid (w.heap.size ≤ g + 1) := by show _ ≤ _; omega
      clear hgw
      simp only
      go_wp2_with fail
      clear c0 c1 c2
      obtain ⟨c0, c1, c2⟩ := bc3 M0.out.ge
      generalize w1.alloc (.cells #[.int .i64 0, .int .i64 1] 24) = w2 at *
      generalize w1.heap.size = gb at *
      have hw : IntKind.i64.wrap (s - 2) = s - 2 := by rw [IntKind.wrap_i64]; omega
      clear w1
      have M1 := hidM M0 (drewG w2)
      clear M0
      go_region_held3 (fun w' => w'.cell? ⟨g, 0, none⟩ = some (.int .i64 s) ∧ w'.cell? ⟨g, 1, none⟩ = some (.int .i64 p) ∧ w'.cell? ⟨g, 2, none⟩ = some (.int .i64 b) ∧ Hid (MkH s p b w w' g (g + 1) gb)) (first | (refine ⟨?_, ?_, ?_, ?_⟩ <;> assumption) | (refine ⟨?_, ?_, ?_, ?_⟩ <;> first | assumption | go_keep)) (first | (go_at_call 99; refine (hsb _).mono ?_; rintro e w' ⟨rfl, hg'⟩; have q8 := hidM (by assumption) hg'; have q0 := (bc3 q8.out.ge).1; have q1 := (bc3 q8.out.ge).2.1; have q2 := (bc3 q8.out.ge).2.2; clear hg') | (go_at_call 98; refine (hsh _).mono ?_; rintro e w' ⟨rfl, hg'⟩; have q8 := hidM (by assumption) hg'; have q0 := (bc3 q8.out.ge).1; have q1 := (bc3 q8.out.ge).2.1; have q2 := (bc3 q8.out.ge).2.2; clear hg'))
      all_goals
        have M1 := q8
        clear q8 q0 q1 q2 c0 c1 c2
        try rename_i M9
        try clear M9
        have hw2 : IntKind.i64.wrap (2 + N) = 2 + N := by rw [IntKind.wrap_i64]; omega
        have HZ : Hid _ := M1.out.z
        have HG : Hid _ := M1.out.gr
        obtain ⟨c0, c1, c2⟩ := bc3 M1.out.ge
        obtain ⟨t0, t1⟩ := bc2 M1.out.two
        clear M1
        go_wp2_with ((with_reducible refine plan_here ?_); refine wpList_store_bx rfl 26 _ _ rfl (g + 1) [.int .i64 s, .int .i64 p, .int .i64 b, .int .i64 0, .int .i64 1, .int .i64 2, .int .i64 (2 + N), .int .i64 N] rfl rfl HZ.out plan_size rfl rfl ?_; intro W' hb hg; obtain ⟨d0, d1, d2, d3, d4, d5, d6, d7⟩ := bc8 hb; have HF : Hid _ := grown_new (Hid.out HG) hg (Hid.out HH); clear hb hg HZ)
        refine bodyPost_ret (by simp [results, Tryz.results87, go_sem, d0, d1, d2, d3, d4, d5, d6, d7]; try rfl) rfl ?_
        exact ⟨rfl, HF.out⟩
  · have e : mk s p b = (pl0, chk s p b) := by unfold mk; rw [if_pos h0]
    rw [e]
    generalize chk s p b = E at *
    have h0' : (E == 0) = false := by simp [h0]
    go_enter Tryz.func87, Tryz.ntmps87
    go_wp2_with fail
    refine (hc _).mono ?_
    rintro e w1 ⟨rfl, g1⟩
    have HZ : Hid _ := HA.out.2.2.kept g1
    have HG : Hid _ := grown_trans HA.out.2.1 g1
    clear g1 HA hc
    generalize hgw : w.heap.size = g at *
    have HH : Hid (w.heap.size ≤ g + 1) := by show _ ≤ _; omega
    clear hgw
    simp only
    go_wp2_with ((with_reducible refine plan_here ?_); refine wpList_store_bx rfl 26 _ _ rfl (g + 1) [.int .i64 0, .int .i64 0, .int .i64 0, .int .i64 0, .int .i64 0, .int .i64 0, .int .i64 0, .int .i64 0] rfl rfl HZ.out plan_size rfl rfl ?_; intro W' hb hg; obtain ⟨d0, d1, d2, d3, d4, d5, d6, d7⟩ := bc8 hb; have HF : Hid _ := grown_new (Hid.out HG) hg (Hid.out HH); clear hb hg HZ)
    refine bodyPost_ret (by simp [results, Tryz.results87, go_sem, d0, d1, d2, d3, d4, d5, d6, d7]; try rfl) rfl ?_
    exact ⟨rfl, HF.out⟩
theorem slots_in {s p b : Int} (h : 4 ≤ s ∧ s ≤ 4096) : 1 ≤ slots s p b ∧ 2 + 2 * slots s p b ≤ s := by
  unfold slots
  rw [Int.max_def, Int.min_def]
  split <;> split <;> omega
theorem mk_ok (s p b : Int) : (mk s p b).1.ok ∧ bnd64 (mk s p b).2 ∧ (rgt (mk s p b).1 = true ↔ (mk s p b).2 = 0) := by
  have hr : (mk s p b).2 = 0 → rgt (mk s p b).1 = true := by
    intro h
    obtain ⟨h1, h2, h3⟩ := mk_geo h
    rw [rgt_iff, h1, h2, h3]
    exact Prod.ext rfl h
  have h0 : rgt pl0 = false := by kernel_rfl
  unfold mk at hr ⊢
  split
  · rename_i k
    refine ⟨by unfold pl0 Pl.ok bnd64; simp, ?_, ?_⟩
    · show bnd64 (chk s p b)
      unfold chk bnd64; split
      · decide
      · split <;> decide
    · show rgt pl0 = true ↔ chk s p b = 0
      rw [h0]
      simpa using k
  · rename_i k0
    rw [if_neg k0] at hr
    split
    · refine ⟨by unfold pl0 Pl.ok bnd64; simp, by unfold bnd64; simp, ?_⟩
      show rgt pl0 = true ↔ _
      rw [h0]; simp
    · rename_i k1
      rw [if_neg k1] at hr
      have hg := chk_zero (by simpa using k0)
      have hn := slots_in (s := s) (p := p) (b := b) (by omega)
      generalize slots s p b = N at *
      refine ⟨?_, by unfold bnd64; simp, fun _ => rfl, fun h => hr h⟩
      unfold Pl.ok bnd64
      simp only
      omega
set_option maxHeartbeats 2000000 in
theorem pcheck_any (P : Pl) (w : World) (h : P.ok) : Calls Tryz.prog 68 #[P.val] w fun e w' => e = .returned (.int .i64 (pchk P)) ∧ w.grownBy w' none := by
  have hm := fun W => pmake_any P.s P.p P.b W h.1 h.2.1 h.2.2.1
  obtain ⟨m1, m2, -⟩ := mk_ok P.s P.p P.b
  have hn := fun W => plan_ne P (mk P.s P.p P.b).1 W h m1
  have hr : pchk P = if (mk P.s P.p P.b).2 = 0 then (if P.same (mk P.s P.p P.b).1 = true then 0 else 1) else 1 := by
    unfold pchk rgt
    by_cases k : (mk P.s P.p P.b).2 = 0
    · rw [if_pos k]
      by_cases k2 : P.same (mk P.s P.p P.b).1 = true
      · have := Pl.same_iff.1 k2
        rw [if_pos k2, if_pos (by rw [k, ← this, Pl.same_self]; rfl)]
      · rw [if_neg k2, if_neg]
        intro x
        rw [Bool.and_eq_true, Pl.same_iff] at x
        exact k2 (Pl.same_iff.2 x.1.symm)
    · rw [if_neg k, if_neg]
      intro x
      rw [Bool.and_eq_true, decide_eq_true_iff] at x
      exact k x.2
  rw [hr]
  clear hr
  generalize P.same (mk P.s P.p P.b).1 = r at hn ⊢
  generalize mk P.s P.p P.b = M at hm hn m2 ⊢
  obtain ⟨⟨qs, qp, qb, q0, q1, q2, q3, qn⟩, qe⟩ := M
  obtain ⟨s, p, b, x0, x1, y0, y1, n⟩ := P
  have B0 := Bx.new w 26 [.int .i64 s, .int .i64 p, .int .i64 b, .int .i64 x0, .int .i64 x1, .int .i64 y0, .int .i64 y1, .int .i64 n]
  have G0 := World.grownBy_alloc w (.cells #[.int .i64 s, .int .i64 p, .int .i64 b, .int .i64 x0, .int .i64 x1, .int .i64 y0, .int .i64 y1, .int .i64 n] 26) none
  simp only [Pl.val] at *
  have HB : Hid _ := And.intro B0 G0
  clear B0 G0 m1 h
  go_enter Tryz.func68, Tryz.ntmps68
  go_wp2_with fail
  refine (hm _).mono ?_
  rintro e w1 ⟨rfl, g1⟩
  have a1 := World.grownBy_alloc w1 (.cells #[.int .i64 qs, .int .i64 qp, .int .i64 qb, .int .i64 q0, .int .i64 q1, .int .i64 q2, .int .i64 q3, .int .i64 qn] 26) none
  have B2 := (HB.out.1.kept g1).kept a1
  have C2 := Bx.new w1 26 [.int .i64 qs, .int .i64 qp, .int .i64 qb, .int .i64 q0, .int .i64 q1, .int .i64 q2, .int .i64 q3, .int .i64 qn]
  have HG : Hid _ := grown_trans (grown_trans HB.out.2 g1) a1
  obtain ⟨c0, c1, c2, c3, c4, c5, c6, c7⟩ := bc8 B2
  clear B2 C2 a1 g1 HB hm
  simp only
  by_cases k : qe = 0
  · subst k
    cases r
    all_goals
      go_wp2
      go_ret
      exact ⟨rfl, HG.out⟩
  · have k' : (qe == 0) = false := by simp [k]
    go_wp2
    go_ret
    exact ⟨rfl, HG.out⟩
end Go.Proofs.YtfhgbddeclldnaaGreat.Pa
