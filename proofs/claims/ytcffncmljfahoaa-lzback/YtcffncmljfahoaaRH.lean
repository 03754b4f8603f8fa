/- The document's Same. -/
import Derived.Test.YtcffncmljfahoaaRG
import Derived.Deep.Draws
import Derived.Deep.QuietTactic
namespace Go.Proofs.Ytcffncmljfahoaa
open Go.RowKit
set_option linter.unusedSimpArgs false
set_option linter.unusedVariables false

set_option maxHeartbeats 1000000 in
theorem same_any (a1 a2 : Option Addr) (l1 c1 l2 c2 : Nat) (s1 s2 : List SqV) (q1 q2 : List Sq) (w : World) (R1 : SRow w a1 l1 s1) (R2 : SRow w a2 l2 s2) (S1 : Sqs w s1 q1) (S2 : Sqs w s2 q2) (hl1 : l1 ≤ 16777216) :
    Calls Try.prog 15 #[.slice a1 l1 c1, .slice a2 l2 c2] w fun e w' => e = .returned (.bool (decide (q1 = q2))) ∧ w.grownBy w' none := by
  have e1 := R1.len_eq
  have e2 := R2.len_eq
  have e3 := S1.len
  have e4 := S2.len
  have hl2 : l2 ≤ 9223372036854775807 := R2.le
  by_cases h : l1 = l2
  · subst h
    have HA : Hid _ := e1
    have HB : Hid _ := e2
    have HC : Hid _ := e3
    have HD : Hid _ := e4
    clear e1 e2 e3 e4
    go_enter Try.func15, Try.ntmps15
    go_wp2_with fail
    go_loopw [5] (fun vi wr => ∃ j : Nat, vi = .int .i64 j ∧ j ≤ l1 ∧ Hid (w.grownBy wr none) ∧ Hid (q1.take j = q2.take j)) (fun vi _ => l1 - (intOf vi).toNat)
    case atStart => exact ⟨0, rfl, Nat.zero_le _, World.grownBy.refl _ _, by rw [List.take_zero, List.take_zero]; exact (rfl : ([] : List Sq) = [])⟩
    case round =>
      obtain ⟨j, rfl, hj, HG, HT⟩ := hrel
      by_cases k1 : j < l1
      · obtain ⟨s, q, hs, hq, ok⟩ := (S1.grown HG.out).get j (by rw [HA.out]; exact k1)
        obtain ⟨t, u, ht, hu, ok2⟩ := (S2.grown HG.out).get j (by rw [HB.out]; exact k1)
        obtain ⟨ba, oa, rfl, ha⟩ := (R1.grown HG.out).cells (by omega)
        obtain ⟨bb, ob, rfl, hb⟩ := (R2.grown HG.out).cells (by omega)
        obtain ⟨x0, x1, x2⟩ := ha j s hs
        obtain ⟨y0, y1, y2⟩ := hb j t ht
        rw [ok.off] at x1
        rw [ok.m] at x2
        rw [ok2.off] at y1
        rw [ok2.m] at y2
        have cx : ∀ k, (convert 22 9 (.slice s.a s.n s.c)).run Try.prog (wr.drewN k) = .ok (.string (strOfNums q.1)) (wr.drewN k) := fun k => conv_row (P := Try.prog) (ok.row.grown (grown_drewN5 (World.grownBy.refl _ _) k)) s.c 22 9 Try.underlying22 Try.underlying5 Try.underlying9
        have cy : ∀ k, (convert 22 9 (.slice t.a t.n t.c)).run Try.prog (wr.drewN k) = .ok (.string (strOfNums u.1)) (wr.drewN k) := fun k => conv_row (P := Try.prog) (ok2.row.grown (grown_drewN5 (World.grownBy.refl _ _) k)) t.c 22 9 Try.underlying22 Try.underlying5 Try.underlying9
        have hse := str_eq q.1 u.1 ok.row.byt ok2.row.byt
        have hsq := take_snocQ hq
        have hsu := take_snocQ hu
        have HQ : Hid _ := And.intro hsq hsu
        obtain ⟨qa, qb, qc⟩ := q
        obtain ⟨ua, ub, uc⟩ := u
        simp only at x1 x2 y1 y2 cx cy hse
        obtain ⟨sa, sn, sc, so, sm⟩ := s
        obtain ⟨ta, tn, tc, to, tm⟩ := t
        simp only at x0 y0 cx cy
        have HQQ : Hid _ := And.intro hq hu
        clear ha hb hs ht hq hu hsq hsu ok ok2
        generalize hsa : strOfNums qa = Sa at cx hse
        generalize hsb : strOfNums ua = Sb at cy hse
        have HSA : Hid _ := And.intro hsa hsb
        clear hsa hsb
        by_cases d1 : qa = ua
        · rw [decide_eq_true d1] at hse
          by_cases d2 : qb = ub
          · by_cases d3 : qc = uc
            · have HE : Hid (q1.take (j + 1) = q2.take (j + 1)) := by
                rw [HQ.out.1, HQ.out.2, HT.out, d1, d2, d3]; exact (rfl : _ = _)
              subst d2 d3
              go_wp2_with fail
              go_quiet (fail)
              have HG2 : Hid _ := grown_drewN5 HG.out nq
              generalize wr.drewN nq = w5 at HG2 ⊢
              clear cx cy x0 x1 x2 y0 y1 y2
              go_wp2
              go_roundw
              case rel => exact ⟨j + 1, by go_num, by omega, HG2, HE⟩
              case measure => simp [intOf]; omega
            · subst d2
              have HN : Hid (q1 ≠ q2) := by
                intro e
                have h1 := HQQ.out.1
                rw [e, HQQ.out.2] at h1
                injection h1 with h1
                injection h1 with h1 h2
                injection h2 with h2 h3
                first | exact absurd h1.symm (by assumption) | exact absurd h2.symm (by assumption) | exact absurd h3.symm (by assumption)
              go_wp2_with fail
              go_quiet (fail)
              have HG2 : Hid _ := grown_drewN5 HG.out nq
              generalize wr.drewN nq = w5 at HG2 ⊢
              clear cx cy x0 x1 x2 y0 y1 y2
              go_wp2
              go_ret
              exact ⟨by rw [decide_eq_false HN.out]; rfl, HG2.out⟩
          · skip
            have HN : Hid (q1 ≠ q2) := by
              intro e
              have h1 := HQQ.out.1
              rw [e, HQQ.out.2] at h1
              injection h1 with h1
              injection h1 with h1 h2
              injection h2 with h2 h3
              first | exact absurd h1.symm (by assumption) | exact absurd h2.symm (by assumption) | exact absurd h3.symm (by assumption)
            go_wp2_with fail
            go_quiet (fail)
            have HG2 : Hid _ := grown_drewN5 HG.out nq
            generalize wr.drewN nq = w5 at HG2 ⊢
            clear cx cy x0 x1 x2 y0 y1 y2
            go_wp2
            go_ret
            exact ⟨by rw [decide_eq_false HN.out]; rfl, HG2.out⟩
        · rw [decide_eq_false d1] at hse
          skip
          have HN : Hid (q1 ≠ q2) := by
            intro e
            have h1 := HQQ.out.1
            rw [e, HQQ.out.2] at h1
            injection h1 with h1
            injection h1 with h1 h2
            injection h2 with h2 h3
            first | exact absurd h1.symm (by assumption) | exact absurd h2.symm (by assumption) | exact absurd h3.symm (by assumption)
          go_wp2_with fail
          have cx1 : (convert 22 9 (.slice sa sn sc)).run Try.prog wr.drew = .ok (.string Sa) wr.drew := cx 1
          have cy1 : (convert 22 9 (.slice ta tn tc)).run Try.prog wr.drew = .ok (.string Sb) wr.drew := cy 1
          clear cx cy
          go_region
          have HG2 : Hid _ := grown_trans HG.out (grown_drew wr)
          clear cx1 cy1 x0 x1 x2 y0 y1 y2
          generalize wr.drew = w5 at HG2 ⊢
          go_wp2
          go_ret
          exact ⟨by rw [decide_eq_false HN.out]; rfl, HG2.out⟩
      · have HE : Hid (q1 = q2) := by
          have h1 := HT.out
          rw [List.take_of_length_le (by have := HA.out; have := HC.out; omega), List.take_of_length_le (by have := HB.out; have := HD.out; omega)] at h1
          exact h1
        have hg := HG.out
        go_wp2
        go_ret
        exact ⟨by rw [decide_eq_true HE.out]; rfl, hg⟩
  · have hne : q1 ≠ q2 := by intro e; apply h; rw [← e1, ← e2, e3, e4, e]
    rw [decide_eq_false hne]
    clear e1 e2 e3 e4 hne
    go_enter Try.func15, Try.ntmps15
    go_wp2
    go_ret
    exact ⟨rfl, World.grownBy.refl _ _⟩
end Go.Proofs.Ytcffncmljfahoaa
