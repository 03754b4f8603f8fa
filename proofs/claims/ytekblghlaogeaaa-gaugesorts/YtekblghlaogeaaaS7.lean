/- Contract of the library's merge of two sorted neighbours. -/
import Derived.Test.YtekblghlaogeaaaS5
import Derived.Test.YtekblghlaogeaaaS6
namespace Go.Proofs.Ytekblghlaogeaaa
open Go.RowKit
set_option linter.unusedSimpArgs false
set_option linter.unusedVariables false

set_option maxRecDepth 100000 in
set_option maxHeartbeats 16000000 in
theorem merge_gt (k : Nat) (g N cap a m b mid P : Nat) (xs : List Nat) (w0 w : World)
    (ih : ∀ k', k' < k → ∀ (g N cap a m b : Nat) (xs : List Nat) (w0 w : World), FB w0 w g xs → Bd xs → xs.length = N → N ≤ 1000 → a < m → m < b → b ≤ N → b - a ≤ k' → Srt a m xs → Srt m b xs →
      Calls Try.prog 43 #[.slice (some ⟨g, 0, none⟩) N cap, .int .i64 a, .int .i64 m, .int .i64 b, .func (.func 39) #[] #[]] w fun e w' => e = .returned (.tuple #[]) ∧ ∃ ys, FB w0 w' g ys ∧ Mv a b xs ys ∧ Srt a b ys)
    (F : FB w0 w g xs) (hB : Bd xs) (hl : xs.length = N) (hN : N ≤ 1000) (h1 : a < m) (h2 : m < b) (h3 : b ≤ N) (hk : b - a ≤ k) (h1s : Srt a m xs) (h2s : Srt m b xs)
    (h4 : a + 2 ≤ m) (h5 : m + 2 ≤ b) (emid : mid = (a + b) / 2) (eP : mid + m - 1 = P) (hcond : mid < m) :
    Calls Try.prog 43 #[.slice (some ⟨g, 0, none⟩) N cap, .int .i64 a, .int .i64 m, .int .i64 b, .func (.func 39) #[] #[]] w fun e w' => e = .returned (.tuple #[]) ∧ ∃ ys, FB w0 w' g ys ∧ Mv a b xs ys ∧ Srt a b ys := by
  have BdOf : ∀ ys, Mv a b xs ys → Bd ys := fun ys M => M.bd hB
  have eI : Hid (((a : Int) + (b : Int)) / 2 = (mid : Int)) := by show _ = _; omega
  have ePI : Hid ((mid : Int) + (m : Int) - 1 = (P : Int)) := by show _ = _; omega
  have n1 : ((m : Int) - (a : Int) == 1) = false := by simp; omega
  have n2 : ((b : Int) - (m : Int) == 1) = false := by simp; omega
  go_enter Try.func43, Try.ntmps43
  have Rg : Hid (Rng a m b (mid + m - b) mid P) := ⟨by omega, by omega, by omega, fun c c1 c2 => ⟨by omega, by omega, by omega⟩⟩
  go_wp2
  rw [eI.out, ePI.out]
  go_loopw [20, 21, 23] (fun vs vr _ wr => ∃ (s r : Nat), vs = .int .i64 s ∧ vr = .int .i64 r ∧ FB w0 wr g xs ∧ Hid (Cut (mid + m - b) mid P s r xs)) (fun vs vr _ _ => (intOf vr).toNat - (intOf vs).toNat)
  case atStart => exact ⟨(mid + m - b), mid, by go_num, by go_num, F, Nat.le_refl _, by omega, Nat.le_refl _, fun c _ _ => by omega, fun c _ _ => by omega⟩
  case round =>
    clear F
    obtain ⟨s, r, rfl, rfl, FX, C⟩ := hrel
    have s1 := C.out.s1; have sr := C.out.sr; have r1 := C.out.r1
    by_cases hlt : s < r
    · go_wp2_with fail
      obtain ⟨c, ec, hc1, hc2⟩ : ∃ c : Nat, ((s : Int) + (r : Int)) / 2 = (c : Int) ∧ s ≤ c ∧ c < r := ⟨(s + r) / 2, by omega, by omega, by omega⟩
      rw [ec]
      clear ec
      obtain ⟨x1, x2, x3⟩ := Rg.out.r1 c (by omega) (by omega)
      obtain ⟨d, ed⟩ : ∃ d, P - c = d := ⟨_, rfl⟩
      rw [ed] at x1 x2
      have edI : (P : Int) - (c : Int) = (d : Int) := by omega
      have cm := fun w => meth_q (gt xs d) (gt xs c) w (hB.gt _) (hB.gt _)
      have ca := FX.cell (i := d) (by omega)
      have cb := FX.cell (i := c) (by omega)
      have FN := fun n => FX.drewN n
      by_cases hk : kt xs d < kt xs c
      · have ho : ord (gt xs d) (gt xs c) < 0 := (ord_neg_iff _ _).2 hk
        generalize ord (gt xs d) (gt xs c) = o at cm ho
        have ho' : decide (o < 0) = true := decide_eq_true ho
        have C2 : Hid (Cut (mid + m - b) mid P s c xs) := C.out.down Rg.out h1s h2s hc1 hc2 (by rw [ed]; exact hk)
        clear C hk ed
        generalize gt xs d = x at ca cm
        generalize gt xs c = y at cb cm
        go_quiet ((go_at_call 39; exact Calls.quiet_of_same (cm _)))
        have FQ := FN nq
        clear ca cb cm FX FN
        generalize wr.drewN nq = wq at FQ ⊢
        clear edI
        go_wp2
        go_roundw
        case rel => exact ⟨s, c, rfl, rfl, FQ, C2⟩
        case measure => simp [intOf]; omega
      · have ho : ¬ ord (gt xs d) (gt xs c) < 0 := fun e => hk ((ord_neg_iff _ _).1 e)
        generalize ord (gt xs d) (gt xs c) = o at cm ho
        have ho' : decide (o < 0) = false := decide_eq_false ho
        have C2 : Hid (Cut (mid + m - b) mid P (c + 1) r xs) := C.out.up Rg.out h1s h2s hc1 hc2 (by rw [ed]; omega)
        clear C hk ho ed
        generalize gt xs d = x at ca cm
        generalize gt xs c = y at cb cm
        go_quiet ((go_at_call 39; exact Calls.quiet_of_same (cm _)))
        have FQ := FN nq
        clear ca cb cm FX FN
        generalize wr.drewN nq = wq at FQ ⊢
        clear edI
        go_wp2
        go_roundw
        case rel => exact ⟨c + 1, r, by go_num, rfl, FQ, C2⟩
        case measure => simp [intOf]; omega
    · have esr : s = r := by omega
      subst esr
      have Fo : Hid (Fours a s m (mid + m - s) b mid xs) := by
        have C' := C.out
        rw [← eP] at C'
        exact Cut.fours (by omega) C' h1s h2s h1 h2 emid (Or.inl ⟨hcond, rfl, rfl⟩)
      clear C Rg
      obtain ⟨e, ee⟩ : ∃ e, mid + m - s = e := ⟨_, rfl⟩
      rw [ee] at Fo
      have eeI : (mid : Int) + (m : Int) - (s : Int) = (e : Int) := by omega
      have f1 := Fo.out.a_s; have f2 := Fo.out.sm; have f3 := Fo.out.me; have f4 := Fo.out.eb; have f5 := Fo.out.sum
      have f6 : s ≤ mid := by omega
      have f7 : mid ≤ e := by omega
      have g1 : a < mid := by omega
      have g2 : mid < b := by omega
      clear ee f5 emid eP s1 r1 sr hlt eI ePI
      by_cases c1 : s < m ∧ m < e
      · first
          | omega
          | have hc := rotate_any g N cap s m e (.func (.func 39) #[] #[]) xs w0 wr FX hl hN c1.1 c1.2 (by omega)
            have hpr := fun ys => pairs_rot (ys := ys) Fo.out h1s h2s c1.1 c1.2
            obtain ⟨c4c, c5c⟩ := c1
            clear FX Fo
            go_wp2_with fail
            refine hc.mono ?_
            rintro _ wb ⟨rfl, ys, FY, Ro⟩
            clear eeI
            have PR := hpr ys Ro
            have M : Hid (Mv a b xs ys) := Ro.mv.widen (by omega) (by omega)
            clear hc hpr Ro
            have bel : Hid (∀ p q, a ≤ p → p < mid → mid ≤ q → q < b → kt ys p ≤ kt ys q) := PR.below
            by_cases c2 : a < s ∧ s < mid
            · first
                | omega
                | have hc := ih (mid - a) (by omega) g N cap a s mid ys w0 _ FY (BdOf _ M.out) (by rw [M.out.len, hl]) hN c2.1 c2.2 (by omega) (Nat.le_refl _) PR.l1 PR.l2
                  have PRr : Hid (Srt mid e ys ∧ Srt e b ys) := ⟨PR.r1, PR.r2⟩
                  obtain ⟨c4a, c5a⟩ := c2
                  clear FY PR
                  go_wp2_with fail
                  refine hc.mono ?_
                  rintro _ wc ⟨rfl, zs, FZ, M1a, S1a⟩
                  have R : Hid (Srt mid e zs ∧ Srt e b zs) := ⟨PRr.out.1.mv M1a (Or.inr (Nat.le_refl _)), PRr.out.2.mv M1a (Or.inr (by omega))⟩
                  have M1 : Hid (Mv a mid ys zs ∧ Srt a mid zs) := ⟨M1a, S1a⟩
                  clear hc PRr M1a S1a
                  by_cases c3 : mid < e ∧ e < b
                  · first
                      | omega
                      | have hc := ih (b - mid) (by omega) g N cap mid e b zs w0 _ FZ (BdOf _ (M.out.trans (M1.out.1.widen (Nat.le_refl _) (by omega)))) (by rw [M1.out.1.len, M.out.len, hl]) hN c3.1 c3.2 h3 (Nat.le_refl _) R.out.1 R.out.2
                        obtain ⟨c4, c5⟩ := c3
                        clear FZ R
                        go_wp2_with fail
                        refine hc.mono ?_
                        rintro _ wd ⟨rfl, us, FU, M2a, S2a⟩
                        clear hc
                        have M2 := And.intro M2a S2a
                        clear M2a S2a
                        have hfin := merged bel.out M1.out.1 M1.out.2 M2.1 M2.2 (by omega) (by omega)
                        have hmv := M.out.trans hfin.2
                        have hsrt := hfin.1
                        clear hfin bel M M2
                        go_wp2_with fail
                        go_end0
                        exact ⟨rfl, _, FU, hmv, hsrt⟩
                  · first
                      | omega
                      | have M2 : Mv mid b zs zs ∧ Srt mid b zs := ⟨Mv.refl _ _ _, Srt.two R.out.1 R.out.2 (by omega) (by omega) c3⟩
                        have c4 : ¬ mid < e ∨ ¬ e < b := by omega
                        clear R
                        rcases c4 with c4 | c4
                        · first
                            | omega
                            | have hfin := merged bel.out M1.out.1 M1.out.2 M2.1 M2.2 (by omega) (by omega)
                              have hmv := M.out.trans hfin.2
                              have hsrt := hfin.1
                              clear hfin bel M M2
                              go_wp2_with fail
                              go_end0
                              exact ⟨rfl, _, FZ, hmv, hsrt⟩
                        · first
                            | omega
                            | have hfin := merged bel.out M1.out.1 M1.out.2 M2.1 M2.2 (by omega) (by omega)
                              have hmv := M.out.trans hfin.2
                              have hsrt := hfin.1
                              clear hfin bel M M2
                              go_wp2_with fail
                              go_end0
                              exact ⟨rfl, _, FZ, hmv, hsrt⟩
            · first
                | omega
                | have M1 : Hid (Mv a mid ys ys ∧ Srt a mid ys) := ⟨Mv.refl _ _ _, Srt.two PR.l1 PR.l2 (by omega) (by omega) c2⟩
                  have R : Hid (Srt mid e ys ∧ Srt e b ys) := ⟨PR.r1, PR.r2⟩
                  have c4b : ¬ a < s ∨ ¬ s < mid := by omega
                  clear PR
                  rcases c4b with c4b | c4b
                  · first
                      | omega
                      | by_cases c3 : mid < e ∧ e < b
                        · first
                            | omega
                            | have hc := ih (b - mid) (by omega) g N cap mid e b ys w0 _ FY (BdOf _ (M.out.trans (M1.out.1.widen (Nat.le_refl _) (by omega)))) (by rw [M1.out.1.len, M.out.len, hl]) hN c3.1 c3.2 h3 (Nat.le_refl _) R.out.1 R.out.2
                              obtain ⟨c4, c5⟩ := c3
                              clear FY R
                              go_wp2_with fail
                              refine hc.mono ?_
                              rintro _ wd ⟨rfl, us, FU, M2a, S2a⟩
                              clear hc
                              have M2 := And.intro M2a S2a
                              clear M2a S2a
                              have hfin := merged bel.out M1.out.1 M1.out.2 M2.1 M2.2 (by omega) (by omega)
                              have hmv := M.out.trans hfin.2
                              have hsrt := hfin.1
                              clear hfin bel M M2
                              go_wp2_with fail
                              go_end0
                              exact ⟨rfl, _, FU, hmv, hsrt⟩
                        · first
                            | omega
                            | have M2 : Mv mid b ys ys ∧ Srt mid b ys := ⟨Mv.refl _ _ _, Srt.two R.out.1 R.out.2 (by omega) (by omega) c3⟩
                              have c4 : ¬ mid < e ∨ ¬ e < b := by omega
                              clear R
                              rcases c4 with c4 | c4
                              · first
                                  | omega
                                  | have hfin := merged bel.out M1.out.1 M1.out.2 M2.1 M2.2 (by omega) (by omega)
                                    have hmv := M.out.trans hfin.2
                                    have hsrt := hfin.1
                                    clear hfin bel M M2
                                    go_wp2_with fail
                                    go_end0
                                    exact ⟨rfl, _, FY, hmv, hsrt⟩
                              · first
                                  | omega
                                  | have hfin := merged bel.out M1.out.1 M1.out.2 M2.1 M2.2 (by omega) (by omega)
                                    have hmv := M.out.trans hfin.2
                                    have hsrt := hfin.1
                                    clear hfin bel M M2
                                    go_wp2_with fail
                                    go_end0
                                    exact ⟨rfl, _, FY, hmv, hsrt⟩
                  · first
                      | omega
                      | by_cases c3 : mid < e ∧ e < b
                        · first
                            | omega
                            | have hc := ih (b - mid) (by omega) g N cap mid e b ys w0 _ FY (BdOf _ (M.out.trans (M1.out.1.widen (Nat.le_refl _) (by omega)))) (by rw [M1.out.1.len, M.out.len, hl]) hN c3.1 c3.2 h3 (Nat.le_refl _) R.out.1 R.out.2
                              obtain ⟨c4, c5⟩ := c3
                              clear FY R
                              go_wp2_with fail
                              refine hc.mono ?_
                              rintro _ wd ⟨rfl, us, FU, M2a, S2a⟩
                              clear hc
                              have M2 := And.intro M2a S2a
                              clear M2a S2a
                              have hfin := merged bel.out M1.out.1 M1.out.2 M2.1 M2.2 (by omega) (by omega)
                              have hmv := M.out.trans hfin.2
                              have hsrt := hfin.1
                              clear hfin bel M M2
                              go_wp2_with fail
                              go_end0
                              exact ⟨rfl, _, FU, hmv, hsrt⟩
                        · first
                            | omega
                            | have M2 : Mv mid b ys ys ∧ Srt mid b ys := ⟨Mv.refl _ _ _, Srt.two R.out.1 R.out.2 (by omega) (by omega) c3⟩
                              have c4 : ¬ mid < e ∨ ¬ e < b := by omega
                              clear R
                              rcases c4 with c4 | c4
                              · first
                                  | omega
                                  | have hfin := merged bel.out M1.out.1 M1.out.2 M2.1 M2.2 (by omega) (by omega)
                                    have hmv := M.out.trans hfin.2
                                    have hsrt := hfin.1
                                    clear hfin bel M M2
                                    go_wp2_with fail
                                    go_end0
                                    exact ⟨rfl, _, FY, hmv, hsrt⟩
                              · first
                                  | omega
                                  | have hfin := merged bel.out M1.out.1 M1.out.2 M2.1 M2.2 (by omega) (by omega)
                                    have hmv := M.out.trans hfin.2
                                    have hsrt := hfin.1
                                    clear hfin bel M M2
                                    go_wp2_with fail
                                    go_end0
                                    exact ⟨rfl, _, FY, hmv, hsrt⟩
      · first
          | omega
          | have PR := pairs_same Fo.out h1s h2s c1
            have M : Hid (Mv a b xs xs) := Mv.refl _ _ _
            have c4d : ¬ s < m ∨ ¬ m < e := by omega
            clear Fo
            rcases c4d with c4d | c4d
            · first
                | omega
                | have bel : Hid (∀ p q, a ≤ p → p < mid → mid ≤ q → q < b → kt xs p ≤ kt xs q) := PR.below
                  by_cases c2 : a < s ∧ s < mid
                  · first
                      | omega
                      | have hc := ih (mid - a) (by omega) g N cap a s mid xs w0 _ FX (BdOf _ M.out) (by rw [M.out.len, hl]) hN c2.1 c2.2 (by omega) (Nat.le_refl _) PR.l1 PR.l2
                        have PRr : Hid (Srt mid e xs ∧ Srt e b xs) := ⟨PR.r1, PR.r2⟩
                        obtain ⟨c4a, c5a⟩ := c2
                        clear FX PR
                        go_wp2_with fail
                        refine hc.mono ?_
                        rintro _ wc ⟨rfl, zs, FZ, M1a, S1a⟩
                        have R : Hid (Srt mid e zs ∧ Srt e b zs) := ⟨PRr.out.1.mv M1a (Or.inr (Nat.le_refl _)), PRr.out.2.mv M1a (Or.inr (by omega))⟩
                        have M1 : Hid (Mv a mid xs zs ∧ Srt a mid zs) := ⟨M1a, S1a⟩
                        clear hc PRr M1a S1a
                        by_cases c3 : mid < e ∧ e < b
                        · first
                            | omega
                            | have hc := ih (b - mid) (by omega) g N cap mid e b zs w0 _ FZ (BdOf _ (M.out.trans (M1.out.1.widen (Nat.le_refl _) (by omega)))) (by rw [M1.out.1.len, M.out.len, hl]) hN c3.1 c3.2 h3 (Nat.le_refl _) R.out.1 R.out.2
                              obtain ⟨c4, c5⟩ := c3
                              clear FZ R
                              go_wp2_with fail
                              refine hc.mono ?_
                              rintro _ wd ⟨rfl, us, FU, M2a, S2a⟩
                              clear hc
                              have M2 := And.intro M2a S2a
                              clear M2a S2a
                              have hfin := merged bel.out M1.out.1 M1.out.2 M2.1 M2.2 (by omega) (by omega)
                              have hmv := M.out.trans hfin.2
                              have hsrt := hfin.1
                              clear hfin bel M M2
                              go_wp2_with fail
                              go_end0
                              exact ⟨rfl, _, FU, hmv, hsrt⟩
                        · first
                            | omega
                            | have M2 : Mv mid b zs zs ∧ Srt mid b zs := ⟨Mv.refl _ _ _, Srt.two R.out.1 R.out.2 (by omega) (by omega) c3⟩
                              have c4 : ¬ mid < e ∨ ¬ e < b := by omega
                              clear R
                              rcases c4 with c4 | c4
                              · first
                                  | omega
                                  | have hfin := merged bel.out M1.out.1 M1.out.2 M2.1 M2.2 (by omega) (by omega)
                                    have hmv := M.out.trans hfin.2
                                    have hsrt := hfin.1
                                    clear hfin bel M M2
                                    go_wp2_with fail
                                    go_end0
                                    exact ⟨rfl, _, FZ, hmv, hsrt⟩
                              · first
                                  | omega
                                  | have hfin := merged bel.out M1.out.1 M1.out.2 M2.1 M2.2 (by omega) (by omega)
                                    have hmv := M.out.trans hfin.2
                                    have hsrt := hfin.1
                                    clear hfin bel M M2
                                    go_wp2_with fail
                                    go_end0
                                    exact ⟨rfl, _, FZ, hmv, hsrt⟩
                  · first
                      | omega
                      | have M1 : Hid (Mv a mid xs xs ∧ Srt a mid xs) := ⟨Mv.refl _ _ _, Srt.two PR.l1 PR.l2 (by omega) (by omega) c2⟩
                        have R : Hid (Srt mid e xs ∧ Srt e b xs) := ⟨PR.r1, PR.r2⟩
                        have c4b : ¬ a < s ∨ ¬ s < mid := by omega
                        clear PR
                        rcases c4b with c4b | c4b
                        · first
                            | omega
                            | by_cases c3 : mid < e ∧ e < b
                              · first
                                  | omega
                                  | have hc := ih (b - mid) (by omega) g N cap mid e b xs w0 _ FX (BdOf _ (M.out.trans (M1.out.1.widen (Nat.le_refl _) (by omega)))) (by rw [M1.out.1.len, M.out.len, hl]) hN c3.1 c3.2 h3 (Nat.le_refl _) R.out.1 R.out.2
                                    obtain ⟨c4, c5⟩ := c3
                                    clear FX R
                                    go_wp2_with fail
                                    refine hc.mono ?_
                                    rintro _ wd ⟨rfl, us, FU, M2a, S2a⟩
                                    clear hc
                                    have M2 := And.intro M2a S2a
                                    clear M2a S2a
                                    have hfin := merged bel.out M1.out.1 M1.out.2 M2.1 M2.2 (by omega) (by omega)
                                    have hmv := M.out.trans hfin.2
                                    have hsrt := hfin.1
                                    clear hfin bel M M2
                                    go_wp2_with fail
                                    go_end0
                                    exact ⟨rfl, _, FU, hmv, hsrt⟩
                              · first
                                  | omega
                                  | have M2 : Mv mid b xs xs ∧ Srt mid b xs := ⟨Mv.refl _ _ _, Srt.two R.out.1 R.out.2 (by omega) (by omega) c3⟩
                                    have c4 : ¬ mid < e ∨ ¬ e < b := by omega
                                    clear R
                                    rcases c4 with c4 | c4
                                    · first
                                        | omega
                                        | have hfin := merged bel.out M1.out.1 M1.out.2 M2.1 M2.2 (by omega) (by omega)
                                          have hmv := M.out.trans hfin.2
                                          have hsrt := hfin.1
                                          clear hfin bel M M2
                                          go_wp2_with fail
                                          go_end0
                                          exact ⟨rfl, _, FX, hmv, hsrt⟩
                                    · first
                                        | omega
                                        | have hfin := merged bel.out M1.out.1 M1.out.2 M2.1 M2.2 (by omega) (by omega)
                                          have hmv := M.out.trans hfin.2
                                          have hsrt := hfin.1
                                          clear hfin bel M M2
                                          go_wp2_with fail
                                          go_end0
                                          exact ⟨rfl, _, FX, hmv, hsrt⟩
                        · first
                            | omega
                            | by_cases c3 : mid < e ∧ e < b
                              · first
                                  | omega
                                  | have hc := ih (b - mid) (by omega) g N cap mid e b xs w0 _ FX (BdOf _ (M.out.trans (M1.out.1.widen (Nat.le_refl _) (by omega)))) (by rw [M1.out.1.len, M.out.len, hl]) hN c3.1 c3.2 h3 (Nat.le_refl _) R.out.1 R.out.2
                                    obtain ⟨c4, c5⟩ := c3
                                    clear FX R
                                    go_wp2_with fail
                                    refine hc.mono ?_
                                    rintro _ wd ⟨rfl, us, FU, M2a, S2a⟩
                                    clear hc
                                    have M2 := And.intro M2a S2a
                                    clear M2a S2a
                                    have hfin := merged bel.out M1.out.1 M1.out.2 M2.1 M2.2 (by omega) (by omega)
                                    have hmv := M.out.trans hfin.2
                                    have hsrt := hfin.1
                                    clear hfin bel M M2
                                    go_wp2_with fail
                                    go_end0
                                    exact ⟨rfl, _, FU, hmv, hsrt⟩
                              · first
                                  | omega
                                  | have M2 : Mv mid b xs xs ∧ Srt mid b xs := ⟨Mv.refl _ _ _, Srt.two R.out.1 R.out.2 (by omega) (by omega) c3⟩
                                    have c4 : ¬ mid < e ∨ ¬ e < b := by omega
                                    clear R
                                    rcases c4 with c4 | c4
                                    · first
                                        | omega
                                        | have hfin := merged bel.out M1.out.1 M1.out.2 M2.1 M2.2 (by omega) (by omega)
                                          have hmv := M.out.trans hfin.2
                                          have hsrt := hfin.1
                                          clear hfin bel M M2
                                          go_wp2_with fail
                                          go_end0
                                          exact ⟨rfl, _, FX, hmv, hsrt⟩
                                    · first
                                        | omega
                                        | have hfin := merged bel.out M1.out.1 M1.out.2 M2.1 M2.2 (by omega) (by omega)
                                          have hmv := M.out.trans hfin.2
                                          have hsrt := hfin.1
                                          clear hfin bel M M2
                                          go_wp2_with fail
                                          go_end0
                                          exact ⟨rfl, _, FX, hmv, hsrt⟩
            · first
                | omega
                | have bel : Hid (∀ p q, a ≤ p → p < mid → mid ≤ q → q < b → kt xs p ≤ kt xs q) := PR.below
                  by_cases c2 : a < s ∧ s < mid
                  · first
                      | omega
                      | have hc := ih (mid - a) (by omega) g N cap a s mid xs w0 _ FX (BdOf _ M.out) (by rw [M.out.len, hl]) hN c2.1 c2.2 (by omega) (Nat.le_refl _) PR.l1 PR.l2
                        have PRr : Hid (Srt mid e xs ∧ Srt e b xs) := ⟨PR.r1, PR.r2⟩
                        obtain ⟨c4a, c5a⟩ := c2
                        clear FX PR
                        go_wp2_with fail
                        refine hc.mono ?_
                        rintro _ wc ⟨rfl, zs, FZ, M1a, S1a⟩
                        have R : Hid (Srt mid e zs ∧ Srt e b zs) := ⟨PRr.out.1.mv M1a (Or.inr (Nat.le_refl _)), PRr.out.2.mv M1a (Or.inr (by omega))⟩
                        have M1 : Hid (Mv a mid xs zs ∧ Srt a mid zs) := ⟨M1a, S1a⟩
                        clear hc PRr M1a S1a
                        by_cases c3 : mid < e ∧ e < b
                        · first
                            | omega
                            | have hc := ih (b - mid) (by omega) g N cap mid e b zs w0 _ FZ (BdOf _ (M.out.trans (M1.out.1.widen (Nat.le_refl _) (by omega)))) (by rw [M1.out.1.len, M.out.len, hl]) hN c3.1 c3.2 h3 (Nat.le_refl _) R.out.1 R.out.2
                              obtain ⟨c4, c5⟩ := c3
                              clear FZ R
                              go_wp2_with fail
                              refine hc.mono ?_
                              rintro _ wd ⟨rfl, us, FU, M2a, S2a⟩
                              clear hc
                              have M2 := And.intro M2a S2a
                              clear M2a S2a
                              have hfin := merged bel.out M1.out.1 M1.out.2 M2.1 M2.2 (by omega) (by omega)
                              have hmv := M.out.trans hfin.2
                              have hsrt := hfin.1
                              clear hfin bel M M2
                              go_wp2_with fail
                              go_end0
                              exact ⟨rfl, _, FU, hmv, hsrt⟩
                        · first
                            | omega
                            | have M2 : Mv mid b zs zs ∧ Srt mid b zs := ⟨Mv.refl _ _ _, Srt.two R.out.1 R.out.2 (by omega) (by omega) c3⟩
                              have c4 : ¬ mid < e ∨ ¬ e < b := by omega
                              clear R
                              rcases c4 with c4 | c4
                              · first
                                  | omega
                                  | have hfin := merged bel.out M1.out.1 M1.out.2 M2.1 M2.2 (by omega) (by omega)
                                    have hmv := M.out.trans hfin.2
                                    have hsrt := hfin.1
                                    clear hfin bel M M2
                                    go_wp2_with fail
                                    go_end0
                                    exact ⟨rfl, _, FZ, hmv, hsrt⟩
                              · first
                                  | omega
                                  | have hfin := merged bel.out M1.out.1 M1.out.2 M2.1 M2.2 (by omega) (by omega)
                                    have hmv := M.out.trans hfin.2
                                    have hsrt := hfin.1
                                    clear hfin bel M M2
                                    go_wp2_with fail
                                    go_end0
                                    exact ⟨rfl, _, FZ, hmv, hsrt⟩
                  · first
                      | omega
                      | have M1 : Hid (Mv a mid xs xs ∧ Srt a mid xs) := ⟨Mv.refl _ _ _, Srt.two PR.l1 PR.l2 (by omega) (by omega) c2⟩
                        have R : Hid (Srt mid e xs ∧ Srt e b xs) := ⟨PR.r1, PR.r2⟩
                        have c4b : ¬ a < s ∨ ¬ s < mid := by omega
                        clear PR
                        rcases c4b with c4b | c4b
                        · first
                            | omega
                            | by_cases c3 : mid < e ∧ e < b
                              · first
                                  | omega
                                  | have hc := ih (b - mid) (by omega) g N cap mid e b xs w0 _ FX (BdOf _ (M.out.trans (M1.out.1.widen (Nat.le_refl _) (by omega)))) (by rw [M1.out.1.len, M.out.len, hl]) hN c3.1 c3.2 h3 (Nat.le_refl _) R.out.1 R.out.2
                                    obtain ⟨c4, c5⟩ := c3
                                    clear FX R
                                    go_wp2_with fail
                                    refine hc.mono ?_
                                    rintro _ wd ⟨rfl, us, FU, M2a, S2a⟩
                                    clear hc
                                    have M2 := And.intro M2a S2a
                                    clear M2a S2a
                                    have hfin := merged bel.out M1.out.1 M1.out.2 M2.1 M2.2 (by omega) (by omega)
                                    have hmv := M.out.trans hfin.2
                                    have hsrt := hfin.1
                                    clear hfin bel M M2
                                    go_wp2_with fail
                                    go_end0
                                    exact ⟨rfl, _, FU, hmv, hsrt⟩
                              · first
                                  | omega
                                  | have M2 : Mv mid b xs xs ∧ Srt mid b xs := ⟨Mv.refl _ _ _, Srt.two R.out.1 R.out.2 (by omega) (by omega) c3⟩
                                    have c4 : ¬ mid < e ∨ ¬ e < b := by omega
                                    clear R
                                    rcases c4 with c4 | c4
                                    · first
                                        | omega
                                        | have hfin := merged bel.out M1.out.1 M1.out.2 M2.1 M2.2 (by omega) (by omega)
                                          have hmv := M.out.trans hfin.2
                                          have hsrt := hfin.1
                                          clear hfin bel M M2
                                          go_wp2_with fail
                                          go_end0
                                          exact ⟨rfl, _, FX, hmv, hsrt⟩
                                    · first
                                        | omega
                                        | have hfin := merged bel.out M1.out.1 M1.out.2 M2.1 M2.2 (by omega) (by omega)
                                          have hmv := M.out.trans hfin.2
                                          have hsrt := hfin.1
                                          clear hfin bel M M2
                                          go_wp2_with fail
                                          go_end0
                                          exact ⟨rfl, _, FX, hmv, hsrt⟩
                        · first
                            | omega
                            | by_cases c3 : mid < e ∧ e < b
                              · first
                                  | omega
                                  | have hc := ih (b - mid) (by omega) g N cap mid e b xs w0 _ FX (BdOf _ (M.out.trans (M1.out.1.widen (Nat.le_refl _) (by omega)))) (by rw [M1.out.1.len, M.out.len, hl]) hN c3.1 c3.2 h3 (Nat.le_refl _) R.out.1 R.out.2
                                    obtain ⟨c4, c5⟩ := c3
                                    clear FX R
                                    go_wp2_with fail
                                    refine hc.mono ?_
                                    rintro _ wd ⟨rfl, us, FU, M2a, S2a⟩
                                    clear hc
                                    have M2 := And.intro M2a S2a
                                    clear M2a S2a
                                    have hfin := merged bel.out M1.out.1 M1.out.2 M2.1 M2.2 (by omega) (by omega)
                                    have hmv := M.out.trans hfin.2
                                    have hsrt := hfin.1
                                    clear hfin bel M M2
                                    go_wp2_with fail
                                    go_end0
                                    exact ⟨rfl, _, FU, hmv, hsrt⟩
                              · first
                                  | omega
                                  | have M2 : Mv mid b xs xs ∧ Srt mid b xs := ⟨Mv.refl _ _ _, Srt.two R.out.1 R.out.2 (by omega) (by omega) c3⟩
                                    have c4 : ¬ mid < e ∨ ¬ e < b := by omega
                                    clear R
                                    rcases c4 with c4 | c4
                                    · first
                                        | omega
                                        | have hfin := merged bel.out M1.out.1 M1.out.2 M2.1 M2.2 (by omega) (by omega)
                                          have hmv := M.out.trans hfin.2
                                          have hsrt := hfin.1
                                          clear hfin bel M M2
                                          go_wp2_with fail
                                          go_end0
                                          exact ⟨rfl, _, FX, hmv, hsrt⟩
                                    · first
                                        | omega
                                        | have hfin := merged bel.out M1.out.1 M1.out.2 M2.1 M2.2 (by omega) (by omega)
                                          have hmv := M.out.trans hfin.2
                                          have hsrt := hfin.1
                                          clear hfin bel M M2
                                          go_wp2_with fail
                                          go_end0
                                          exact ⟨rfl, _, FX, hmv, hsrt⟩

end Go.Proofs.Ytekblghlaogeaaa
