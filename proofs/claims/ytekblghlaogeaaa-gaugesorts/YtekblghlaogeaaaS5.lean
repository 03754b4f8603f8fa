/- Contract of the library's merge of two sorted neighbours: where the left one has one float. -/
import Derived.Test.YtekblghlaogeaaaS4
namespace Go.Proofs.Ytekblghlaogeaaa
open Go.RowKit
set_option linter.unusedSimpArgs false
set_option linter.unusedVariables false

set_option maxRecDepth 100000 in
set_option maxHeartbeats 8000000 in
theorem mergeL_any (g N cap a b : Nat) (xs : List Nat) (w0 w : World) (F : FB w0 w g xs) (hB : Bd xs) (hl : xs.length = N) (hN : N ≤ 1000) (h1 : a + 1 < b) (h2 : b ≤ N) (hs : Srt (a + 1) b xs) :
    Calls Try.prog 43 #[.slice (some ⟨g, 0, none⟩) N cap, .int .i64 a, .int .i64 (a + 1 : Nat), .int .i64 b, .func (.func 39) #[] #[]] w fun e w' => e = .returned (.tuple #[]) ∧ ∃ ys, FB w0 w' g ys ∧ Mv a b xs ys ∧ Srt a b ys := by
  go_enter Try.func43, Try.ntmps43
  go_wp2
  go_loopw [10, 11, 12] (fun vi vj _ wr => ∃ (i j : Nat), vi = .int .i64 i ∧ vj = .int .i64 j ∧ a + 1 ≤ i ∧ i ≤ j ∧ j ≤ b ∧ FB w0 wr g xs ∧ Hid ((∀ p, a + 1 ≤ p → p < i → kt xs p < kt xs a) ∧ (∀ p, j ≤ p → p < b → kt xs a ≤ kt xs p))) (fun vi vj _ _ => (intOf vj).toNat - (intOf vi).toNat)
  case atStart => exact ⟨a + 1, b, rfl, rfl, by omega, by omega, by omega, F, fun p _ _ => by omega, fun p _ _ => by omega⟩
  case round =>
    clear F
    obtain ⟨i, j, rfl, rfl, i1, ij, j2, FX, H⟩ := hrel
    by_cases hlt : i < j
    · go_wp2_with fail
      obtain ⟨h, eh, hi, hj⟩ : ∃ h : Nat, ((i : Int) + (j : Int)) / 2 = (h : Int) ∧ i ≤ h ∧ h < j := ⟨(i + j) / 2, by omega, by omega, by omega⟩
      rw [eh]
      clear eh
      have cm := fun w => meth_q (gt xs h) (gt xs a) w (hB.gt _) (hB.gt _)
      have ca := FX.cell (i := h) (by omega)
      have cb := FX.cell (i := a) (by omega)
      have FN := fun n => FX.drewN n
      by_cases hk : kt xs h < kt xs a
      · have ho : ord (gt xs h) (gt xs a) < 0 := (ord_neg_iff _ _).2 hk
        generalize ord (gt xs h) (gt xs a) = o at cm ho
        have ho' : decide (o < 0) = true := decide_eq_true ho
        have H2 : Hid ((∀ p, a + 1 ≤ p → p < h + 1 → kt xs p < kt xs a) ∧ (∀ p, j ≤ p → p < b → kt xs a ≤ kt xs p)) := by
          refine ⟨fun p p1 p2 => ?_, H.out.2⟩
          have := hs p h p1 (by omega) (by omega)
          omega
        clear H hk
        generalize gt xs h = x at ca cm
        generalize gt xs a = y at cb cm
        go_quiet ((go_at_call 39; exact Calls.quiet_of_same (cm _)))
        have FQ := FN nq
        clear ca cb cm FX FN
        generalize wr.drewN nq = wq at FQ ⊢
        go_wp2
        go_roundw
        case rel => exact ⟨h + 1, j, by go_num, rfl, by omega, by omega, j2, FQ, H2⟩
        case measure => simp [intOf]; omega
      · have ho : ¬ ord (gt xs h) (gt xs a) < 0 := fun e => hk ((ord_neg_iff _ _).1 e)
        generalize ord (gt xs h) (gt xs a) = o at cm ho
        have ho' : decide (o < 0) = false := decide_eq_false ho
        have H2 : Hid ((∀ p, a + 1 ≤ p → p < i → kt xs p < kt xs a) ∧ (∀ p, h ≤ p → p < b → kt xs a ≤ kt xs p)) := by
          refine ⟨H.out.1, fun p p1 p2 => ?_⟩
          have := hs h p (by omega) p1 p2
          omega
        clear H hk ho
        generalize gt xs h = x at ca cm
        generalize gt xs a = y at cb cm
        go_quiet ((go_at_call 39; exact Calls.quiet_of_same (cm _)))
        have FQ := FN nq
        clear ca cb cm FX FN
        generalize wr.drewN nq = wq at FQ ⊢
        go_wp2
        go_roundw
        case rel => exact ⟨i, h, rfl, rfl, i1, hi, by omega, FQ, H2⟩
        case measure => simp [intOf]; omega
    · have eij : i = j := by omega
      subst eij
      go_wp2_with fail
      go_loopw [13] (fun vk w2 => ∃ (k : Nat) (ys : List Nat), vk = .int .i64 k ∧ a ≤ k ∧ k + 1 ≤ i ∧ FB w0 w2 g ys ∧ Hid (Mv a b xs ys ∧ BubU a k xs ys)) (fun vk _ => i - (intOf vk).toNat)
      case atStart => exact ⟨a, xs, rfl, Nat.le_refl _, i1, FX, Mv.refl _ _ _, BubU.start a xs⟩
      case round =>
        clear FX
        obtain ⟨k, ys, rfl, k1, k2, FY, HB⟩ := hrel
        have HB1 := HB.out
        have hly : ys.length = N := by rw [HB1.1.len, hl]
        by_cases hk : k + 1 < i
        · have ca := FY.cell (i := k) (by omega)
          have cb := FY.cell (i := k + 1) (by omega)
          have fa := FY.frozen k
          have fb := FY.frozen (k + 1)
          obtain ⟨u, cc⟩ := FY.cell2 (i := k) (j := k + 1) (by omega) (gt ys (k + 1))
          have hS : Hid (FB w0 ((wr.setCell ⟨g, k, none⟩ (.float .f64 (gt ys (k + 1)))).setCell ⟨g, k + 1, none⟩ (.float .f64 (gt ys k))).drew g (sw ys k (k + 1))) := FY.swap k (k + 1)
          have HB2 : Hid (Mv a b xs (sw ys k (k + 1)) ∧ BubU a (k + 1) xs (sw ys k (k + 1))) := ⟨HB1.1.trans (Mv.sw (by omega) (by omega) (by omega) (by omega) (by omega)), HB1.2.step k1 (by omega)⟩
          have hst := store_f
          generalize gt ys k = x at ca hS
          generalize gt ys (k + 1) = y at cb cc hS
          clear HB HB1 FY
          go_wp2_with fail
          go_region
          have hS' := hS.out
          clear ca cb cc fa fb hS hst
          generalize ((wr.setCell ⟨g, k, none⟩ (.float .f64 y)).setCell ⟨g, k + 1, none⟩ (.float .f64 x)).drew = w2 at hS' ⊢
          go_wp2
          go_roundw
          case rel => exact ⟨k + 1, _, by go_num, by omega, by omega, hS', HB2⟩
          case measure => simp [intOf]; omega
        · have ek : k = i - 1 := by omega
          have hfin : Srt a b ys := by
            rw [ek] at HB1
            exact HB1.2.sorted hs i1 j2 H.out.1 H.out.2
          have hmv := HB1.1
          clear HB HB1 H ek
          go_wp2
          refine bodyPost_ret (results_none rfl _ _ _) rfl ?_
          exact ⟨rfl, ys, FY, hmv, hfin⟩
end Go.Proofs.Ytekblghlaogeaaa
