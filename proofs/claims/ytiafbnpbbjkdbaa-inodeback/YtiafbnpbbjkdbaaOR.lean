/- Two inodes that are the same. -/
import Derived.Test.YtiafbnpbbjkdbaaOP
namespace Go.Proofs.Ytiafbnpbbjkdbaa
open Go.RowKit
set_option maxRecDepth 100000
set_option linter.unusedSimpArgs false
set_option linter.unusedVariables false
set_option maxHeartbeats 4000000 in
theorem rsame15_eq (n m : Nd) (w : World) (hn : n.ok w) (hm : m.ok w) (h : Same15 n m) : Calls Try.prog 16 #[n.val, m.val] w fun e w' => e = .returned (.bool true) ∧ w.grownBy w' none := by
  have h1 := hn.row
  have h2 := hm.row
  obtain ⟨h_kd, h_md, h_ui, h_gi, h_tm, h_ln, h_at_, h_sz, h_st, h_fr, h_of_, h_tl, h_dr, h_by_, h_pr, h_dv, hws, htg⟩ := h
  have hwl : n.wl = m.wl := by rw [← h1.len_eq, ← h2.len_eq, hws]
  clear hn hm
  obtain ⟨kd, md, ui, gi, tm, ln, at_, sz, st, wa, wl, wc, ws, fr, of_, tl, dr, by_, pr, tg, dv⟩ := n
  obtain ⟨kd', md', ui', gi', tm', ln', at_', sz', st', wa', wl', wc', ws', fr', of_', tl', dr', by_', pr', tg', dv'⟩ := m
  simp only at *
  subst h_kd h_md h_ui h_gi h_tm h_ln h_at_ h_sz h_st h_fr h_of_ h_tl h_dr h_by_ h_pr h_dv hws htg hwl
  have H1 : Hid (∀ W, w.grownBy W none → IRow W wa wl ws) := fun W g => h1.grown g
  have H2 : Hid (∀ W, w.grownBy W none → IRow W wa' wl ws) := fun W g => h2.grown g
  have HL : Hid (wl ≤ maxLen) := h1.le
  have hle := h1.le
  unfold maxLen at hle
  clear h1 h2
  unfold Nd.val
  simp only
  go_enter Try.func16, Try.ntmps16
  go_wp2
  have HS : Hid (w.grownBy ((w.alloc (.cells #[.int .i64 kd, .int .i64 md, .int .i64 ui, .int .i64 gi, .int .i64 tm, .int .i64 ln, .int .i64 at_, .int .i64 sz, .int .i64 st, .slice wa wl wc, .int .i64 fr, .int .i64 of_, .int .i64 tl, .int .i64 dr, .int .i64 by_, .int .i64 pr, .string tg, .int .i64 dv] 24)).alloc (.cells #[.int .i64 kd, .int .i64 md, .int .i64 ui, .int .i64 gi, .int .i64 tm, .int .i64 ln, .int .i64 at_, .int .i64 sz, .int .i64 st, .slice wa' wl wc', .int .i64 fr, .int .i64 of_, .int .i64 tl, .int .i64 dr, .int .i64 by_, .int .i64 pr, .string tg, .int .i64 dv] 24)) none ∧ Bx ((w.alloc (.cells #[.int .i64 kd, .int .i64 md, .int .i64 ui, .int .i64 gi, .int .i64 tm, .int .i64 ln, .int .i64 at_, .int .i64 sz, .int .i64 st, .slice wa wl wc, .int .i64 fr, .int .i64 of_, .int .i64 tl, .int .i64 dr, .int .i64 by_, .int .i64 pr, .string tg, .int .i64 dv] 24)).alloc (.cells #[.int .i64 kd, .int .i64 md, .int .i64 ui, .int .i64 gi, .int .i64 tm, .int .i64 ln, .int .i64 at_, .int .i64 sz, .int .i64 st, .slice wa' wl wc', .int .i64 fr, .int .i64 of_, .int .i64 tl, .int .i64 dr, .int .i64 by_, .int .i64 pr, .string tg, .int .i64 dv] 24)) w.heap.size 24 [.int .i64 kd, .int .i64 md, .int .i64 ui, .int .i64 gi, .int .i64 tm, .int .i64 ln, .int .i64 at_, .int .i64 sz, .int .i64 st, .slice wa wl wc, .int .i64 fr, .int .i64 of_, .int .i64 tl, .int .i64 dr, .int .i64 by_, .int .i64 pr, .string tg, .int .i64 dv] ∧ Bx ((w.alloc (.cells #[.int .i64 kd, .int .i64 md, .int .i64 ui, .int .i64 gi, .int .i64 tm, .int .i64 ln, .int .i64 at_, .int .i64 sz, .int .i64 st, .slice wa wl wc, .int .i64 fr, .int .i64 of_, .int .i64 tl, .int .i64 dr, .int .i64 by_, .int .i64 pr, .string tg, .int .i64 dv] 24)).alloc (.cells #[.int .i64 kd, .int .i64 md, .int .i64 ui, .int .i64 gi, .int .i64 tm, .int .i64 ln, .int .i64 at_, .int .i64 sz, .int .i64 st, .slice wa' wl wc', .int .i64 fr, .int .i64 of_, .int .i64 tl, .int .i64 dr, .int .i64 by_, .int .i64 pr, .string tg, .int .i64 dv] 24)) (w.heap.size + 1) 24 [.int .i64 kd, .int .i64 md, .int .i64 ui, .int .i64 gi, .int .i64 tm, .int .i64 ln, .int .i64 at_, .int .i64 sz, .int .i64 st, .slice wa' wl wc', .int .i64 fr, .int .i64 of_, .int .i64 tl, .int .i64 dr, .int .i64 by_, .int .i64 pr, .string tg, .int .i64 dv]) := by
    refine ⟨grown_trans (World.grownBy_alloc _ _ _) (World.grownBy_alloc _ _ _), (Bx.new w 24 _).kept (World.grownBy_alloc _ _ _), ?_⟩
    have e : ((w.alloc (.cells #[.int .i64 kd, .int .i64 md, .int .i64 ui, .int .i64 gi, .int .i64 tm, .int .i64 ln, .int .i64 at_, .int .i64 sz, .int .i64 st, .slice wa wl wc, .int .i64 fr, .int .i64 of_, .int .i64 tl, .int .i64 dr, .int .i64 by_, .int .i64 pr, .string tg, .int .i64 dv] 24))).heap.size = w.heap.size + 1 := by show (w.heap.push _).size = _; simp
    rw [← e]
    exact Bx.new _ _ _
  generalize ((w.alloc (.cells #[.int .i64 kd, .int .i64 md, .int .i64 ui, .int .i64 gi, .int .i64 tm, .int .i64 ln, .int .i64 at_, .int .i64 sz, .int .i64 st, .slice wa wl wc, .int .i64 fr, .int .i64 of_, .int .i64 tl, .int .i64 dr, .int .i64 by_, .int .i64 pr, .string tg, .int .i64 dv] 24)).alloc (.cells #[.int .i64 kd, .int .i64 md, .int .i64 ui, .int .i64 gi, .int .i64 tm, .int .i64 ln, .int .i64 at_, .int .i64 sz, .int .i64 st, .slice wa' wl wc', .int .i64 fr, .int .i64 of_, .int .i64 tl, .int .i64 dr, .int .i64 by_, .int .i64 pr, .string tg, .int .i64 dv] 24)) = W0 at *
  go_loopw [5] (fun i wr => ∃ j : Nat, j ≤ wl ∧ i = .int .i64 j ∧ Hid (w.grownBy wr none ∧ Bx wr w.heap.size 24 [.int .i64 kd, .int .i64 md, .int .i64 ui, .int .i64 gi, .int .i64 tm, .int .i64 ln, .int .i64 at_, .int .i64 sz, .int .i64 st, .slice wa wl wc, .int .i64 fr, .int .i64 of_, .int .i64 tl, .int .i64 dr, .int .i64 by_, .int .i64 pr, .string tg, .int .i64 dv] ∧ Bx wr (w.heap.size + 1) 24 [.int .i64 kd, .int .i64 md, .int .i64 ui, .int .i64 gi, .int .i64 tm, .int .i64 ln, .int .i64 at_, .int .i64 sz, .int .i64 st, .slice wa' wl wc', .int .i64 fr, .int .i64 of_, .int .i64 tl, .int .i64 dr, .int .i64 by_, .int .i64 pr, .string tg, .int .i64 dv])) (fun i _ => wl - (intOf i).toNat)
  case atStart => exact ⟨0, Nat.zero_le _, rfl, HS⟩
  case round =>
    obtain ⟨j, hj, rfl, HJ⟩ := hrel
    clear HS
    have b1 := HJ.out.2.1.c 9
    have b2 := HJ.out.2.2.c 9
    simp only [List.getElem?_cons_zero, List.getElem?_cons_succ] at b1 b2
    by_cases hlt : j < wl
    · obtain ⟨b, off, e, hc⟩ := (H1.out _ HJ.out.1).cells (by omega)
      obtain ⟨b', off', e', hc'⟩ := (H2.out _ HJ.out.1).cells (by omega)
      subst e e'
      have c1 := hc j hlt
      have c2 := hc' j hlt
      clear hc hc'
      generalize ws.getD j 0 = x at *
      go_wp2_with fail
      go_quiet (fail)
      have HJ2 : Hid (w.grownBy (wr.drewN nq) none ∧ Bx (wr.drewN nq) w.heap.size 24 [.int .i64 kd, .int .i64 md, .int .i64 ui, .int .i64 gi, .int .i64 tm, .int .i64 ln, .int .i64 at_, .int .i64 sz, .int .i64 st, .slice (some ⟨b, off, none⟩) wl wc, .int .i64 fr, .int .i64 of_, .int .i64 tl, .int .i64 dr, .int .i64 by_, .int .i64 pr, .string tg, .int .i64 dv] ∧ Bx (wr.drewN nq) (w.heap.size + 1) 24 [.int .i64 kd, .int .i64 md, .int .i64 ui, .int .i64 gi, .int .i64 tm, .int .i64 ln, .int .i64 at_, .int .i64 sz, .int .i64 st, .slice (some ⟨b', off', none⟩) wl wc', .int .i64 fr, .int .i64 of_, .int .i64 tl, .int .i64 dr, .int .i64 by_, .int .i64 pr, .string tg, .int .i64 dv]) := by
        have g : wr.grownBy (wr.drewN nq) none := ⟨rfl, rfl, rfl, Nat.le_refl _, fun _ _ _ => rfl⟩
        exact ⟨grown_trans HJ.out.1 g, HJ.out.2.1.kept g, HJ.out.2.2.kept g⟩
      clear HJ b1 b2 c1 c2
      go_wp2
      go_roundw
      case rel => exact ⟨j + 1, by omega, by go_num, HJ2⟩
      case measure => simp [intOf]; omega
    · obtain rfl : j = wl := by omega
      go_wp2
      go_ret
      exact ⟨rfl, HJ.out.1⟩
end Go.Proofs.Ytiafbnpbbjkdbaa
