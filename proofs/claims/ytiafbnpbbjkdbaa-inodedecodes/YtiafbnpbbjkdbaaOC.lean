/- The program's Check: its parts. -/
import Derived.Lib.Bytealg
import Derived.Lib.Walk
import Derived.Test.YtiafbnpbbjkdbaaOA
namespace Go.Proofs.Ytiafbnpbbjkdbaa
open Go.RowKit
set_option maxRecDepth 100000
set_option linter.unusedSimpArgs false
set_option linter.unusedVariables false
theorem between_any (x lo hi : Int) (w : World) : Calls Try.prog 25 #[.int .i64 x, .int .i64 lo, .int .i64 hi] w fun e w' => e = .returned (.bool (inn lo hi x)) ∧ w = w' := by
  cases h : decide (lo ≤ x) with
  | true =>
    have e : inn lo hi x = decide (x ≤ hi) := by simp [inn, h]
    rw [e]
    clear e
    go_enter Try.func25, Try.ntmps25
    go_wp2
    go_ret
    exact ⟨rfl, rfl⟩
  | false =>
    have e : inn lo hi x = false := by simp [inn, h]
    rw [e]
    clear e
    go_enter Try.func25, Try.ntmps25
    go_wp2
    go_ret
    exact ⟨rfl, rfl⟩
set_option maxHeartbeats 1000000 in
theorem nofile_any (n : Nd) (w : World) : Calls Try.prog 39 #[n.val] w fun e w' => e = .returned (.bool (nofile15 n)) ∧ w.grownBy w' none := by
  obtain ⟨kd, md, ui, gi, tm, ln, at_, sz, st, wa, wl, wc, ws, fr, of_, tl, dr, by_, pr, tg, dv⟩ := n
  unfold Nd.val
  simp only
  go_enter Try.func39, Try.ntmps39
  go_wp2
  all_goals go_ret
  all_goals refine ⟨?_, World.grownBy_alloc _ _ _⟩
  all_goals simp [nofile15, *]
set_option maxHeartbeats 1000000 in
theorem nofolder_any (n : Nd) (w : World) : Calls Try.prog 40 #[n.val] w fun e w' => e = .returned (.bool (nodir15 n)) ∧ w.grownBy w' none := by
  obtain ⟨kd, md, ui, gi, tm, ln, at_, sz, st, wa, wl, wc, ws, fr, of_, tl, dr, by_, pr, tg, dv⟩ := n
  unfold Nd.val
  simp only
  go_enter Try.func40, Try.ntmps40
  go_wp2
  all_goals go_ret
  all_goals refine ⟨?_, World.grownBy_alloc _ _ _⟩
  all_goals simp [nodir15, *]
set_option maxHeartbeats 1000000 in
theorem folder_any (n : Nd) (w : World) : Calls Try.prog 42 #[n.val] w fun e w' => e = .returned (.bool (dir15 n)) ∧ w.grownBy w' none := by
  obtain ⟨kd, md, ui, gi, tm, ln, at_, sz, st, wa, wl, wc, ws, fr, of_, tl, dr, by_, pr, tg, dv⟩ := n
  unfold Nd.val
  simp only
  go_enter Try.func42, Try.ntmps42
  go_wp2_with (go_at_call 25; refine (between_any _ _ _ _).mono ?_; rintro e w' ⟨rfl, rfl⟩)
  all_goals go_ret
  all_goals refine ⟨?_, World.grownBy_alloc _ _ _⟩
  all_goals simp [dir15, *]
set_option maxHeartbeats 1000000 in
theorem head_any (n : Nd) (w : World) : Calls Try.prog 26 #[n.val] w fun e w' => e = .returned (.bool (hd15 n)) ∧ w.grownBy w' none := by
  obtain ⟨kd, md, ui, gi, tm, ln, at_, sz, st, wa, wl, wc, ws, fr, of_, tl, dr, by_, pr, tg, dv⟩ := n
  unfold Nd.val
  simp only
  go_enter Try.func26, Try.ntmps26
  go_wp2_with (go_at_call 25; refine (between_any _ _ _ _).mono ?_; rintro e w' ⟨rfl, rfl⟩)
  all_goals go_ret
  all_goals refine ⟨?_, World.grownBy_alloc _ _ _⟩
  all_goals simp [hd15, *]
/-- the program's way to say it -/
def ptail15 (n : Nd) : Bool := if n.fr == -1 then n.of_ == 0 && n.tl == 0 else inn 0 65535 n.fr && inn 0 1048575 n.of_ && inn 1 1048575 n.tl
theorem ptail_eq (n : Nd) : ptail15 n = tail15 n := by
  unfold ptail15 tail15 inn
  by_cases h : n.fr = -1
  · by_cases h1 : n.of_ = 0
    · by_cases h2 : n.tl = 0 <;> simp [h, h1, h2]
    · simp [h, h1]
  · rw [if_neg (by simpa using h), Bool.eq_iff_iff]
    simp only [Bool.and_eq_true, Bool.or_eq_true, Bool.not_eq_true', decide_eq_true_eq, beq_iff_eq, Bool.not_eq_true, Bool.and_eq_false_iff, beq_eq_false_iff_ne, Bool.or_eq_false_iff, Bool.not_eq_false', ne_eq]
    omega
set_option maxHeartbeats 1000000 in
theorem tail_any (n : Nd) (w : World) : Calls Try.prog 53 #[n.val] w fun e w' => e = .returned (.bool (tail15 n)) ∧ w.grownBy w' none := by
  rw [← ptail_eq]
  obtain ⟨kd, md, ui, gi, tm, ln, at_, sz, st, wa, wl, wc, ws, fr, of_, tl, dr, by_, pr, tg, dv⟩ := n
  unfold Nd.val
  simp only
  go_enter Try.func53, Try.ntmps53
  go_wp2_with (go_at_call 25; refine (between_any _ _ _ _).mono ?_; rintro e w' ⟨rfl, rfl⟩)
  all_goals go_ret
  all_goals refine ⟨?_, World.grownBy_alloc _ _ _⟩
  all_goals simp [ptail15, *]
theorem wok_takeP {ws : List Int} {j : Nat} (h : j < ws.length) : wok (ws.take (j + 1)) = (wok (ws.take j) && inn 0 4294967295 (ws.getD j 0)) := by
  unfold wok
  rw [List.take_succ_eq_append_getElem h, List.all_append]
  simp [List.getD_eq_getElem?_getD, List.getElem?_eq_getElem h]
theorem wok_noP {ws : List Int} {j : Nat} (h : j < ws.length) (hw : inn 0 4294967295 (ws.getD j 0) = false) : wok ws = false := by
  cases e : wok ws with
  | false => rfl
  | true =>
    have := List.all_eq_true.1 e (ws.getD j 0) (by rw [List.getD_eq_getElem?_getD, List.getElem?_eq_getElem h]; exact List.getElem_mem h)
    rw [hw] at this
    cases this
set_option maxHeartbeats 1000000 in
theorem words_any (wa : Option Addr) (wl wc : Nat) (ws : List Int) (w : World) (HR : IRow w wa wl ws) : Calls Try.prog 52 #[.slice wa wl wc] w fun e w' => e = .returned (.bool (!decide ((65536 : Int) < wl) && wok ws)) ∧ w = w' := by
  have hlen := HR.len_eq
  by_cases hb : (65536 : Int) < wl
  · rw [decide_eq_true hb]
    go_enter Try.func52, Try.ntmps52
    go_wp2
    go_ret
    exact ⟨rfl, rfl⟩
  · rw [decide_eq_false hb, Bool.not_false, Bool.true_and]
    have HL : Hid _ := hlen
    clear hlen
    go_enter Try.func52, Try.ntmps52
    go_wp2
    go_loop [4, 10] (fun v i => ∃ j : Nat, j ≤ wl ∧ i = .int .i64 j ∧ Hid (wok (ws.take j) = true)) (fun v i => wl - (intOf i).toNat)
    case atStart => exact ⟨0, Nat.zero_le _, rfl, rfl⟩
    case round =>
      obtain ⟨j, hj, rfl, hw⟩ := hrel
      by_cases hlt : j < wl
      · obtain ⟨b, off, rfl, hc⟩ := HR.cells (by omega)
        have hcell := hc j hlt
        have hjl : j < ws.length := by rw [HL.out]; exact hlt
        cases hx : inn 0 4294967295 (ws.getD j 0) with
        | false =>
          have hwo := wok_noP hjl hx
          clear hc hjl
          generalize ws.getD j 0 = x at *
          go_wp2_with (go_at_call 25; refine (between_any _ _ _ _).mono ?_; rintro e w' ⟨rfl, rfl⟩)
          go_ret
          exact ⟨by first | rfl | (rw [hwo]; rfl), rfl⟩
        | true =>
          have HW : Hid (wok (ws.take (j + 1)) = true) := by rw [wok_takeP hjl, hw.out, hx]; rfl
          clear hc hw hjl
          generalize ws.getD j 0 = x at *
          go_wp2_with (go_at_call 25; refine (between_any _ _ _ _).mono ?_; rintro e w' ⟨rfl, rfl⟩)
          go_round
          case rel => exact ⟨j + 1, by omega, by go_num, HW⟩
          case measure => simp [intOf]; omega
      · obtain rfl : j = wl := by omega
        have hwo := hw.out
        rw [List.take_of_length_le (by rw [HL.out]; exact Nat.le_refl _)] at hwo
        clear hw
        go_wp2
        go_ret
        exact ⟨by first | rfl | (rw [hwo]; rfl), rfl⟩
set_option maxHeartbeats 1000000 in
theorem file_any (n : Nd) (w : World) (hok : n.ok w) : Calls Try.prog 41 #[n.val] w fun e w' => e = .returned (.bool (file15 n)) ∧ w.grownBy w' none := by
  have ht := fun W => tail_any n W
  have e15 : file15 n = (inn 0 1099511627775 n.sz && inn 0 8388608 n.st && (!decide ((65536 : Int) < n.wl) && wok n.ws) && tail15 n) := by
    unfold file15
    cases tail15 n <;> cases wok n.ws <;> simp
  rw [e15]
  clear e15
  generalize tail15 n = tt at *
  have HR : Hid _ := hok.row
  clear hok
  obtain ⟨kd, md, ui, gi, tm, ln, at_, sz, st, wa, wl, wc, ws, fr, of_, tl, dr, by_, pr, tg, dv⟩ := n
  have hw := fun W (k : w.grownBy W none) => words_any wa wl wc ws W (HR.out.grown k)
  clear HR
  generalize (!decide ((65536 : Int) < wl) && wok ws) = ww at *
  simp only [Nd.val] at *
  go_enter Try.func41, Try.ntmps41
  go_wp2_with (first | (go_at_call 25; refine (between_any _ _ _ _).mono ?_; rintro e w' ⟨rfl, rfl⟩) | (go_at_call 52; refine (hw _ (World.grownBy_alloc _ _ _)).mono ?_; rintro e w' ⟨rfl, rfl⟩) | (go_at_call 53; refine (ht _).mono ?_; rintro e w' ⟨rfl, hg⟩))
  all_goals go_ret
  all_goals first | refine ⟨?_, World.grownBy_alloc _ _ _⟩ | refine ⟨?_, grown_trans (World.grownBy_alloc _ _ _) (by assumption)⟩
  all_goals simp [*]
end Go.Proofs.Ytiafbnpbbjkdbaa
