/- Contract of the library's merge of two sorted neighbours: where the right one has one float. -/
import Derived.Test.YtekblghlaogeaaaS4
namespace Go.Proofs.Ytekblghlaogeaaa
open Go.RowKit
set_option linter.unusedSimpArgs false
set_option linter.unusedVariables false

set_option maxRecDepth 100000 in
set_option maxHeartbeats 8000000 in
theorem mergeR_any (g N cap a m : Nat) (xs : List Nat) (w0 w : World) (F : FB w0 w g xs) (hB : Bd xs) (hl : xs.length = N) (hN : N ≤ 1000) (h1 : a + 1 < m) (h2 : m + 1 ≤ N) (hs : Srt a m xs) :
    Calls Try.prog 43 #[.slice (some ⟨g, 0, none⟩) N cap, .int .i64 a, .int .i64 m, .int .i64 (m + 1 : Nat), .func (.func 39) #[] #[]] w fun e w' => e = .returned (.tuple #[]) ∧ ∃ ys, FB w0 w' g ys ∧ Mv a (m + 1) xs ys ∧ Srt a (m + 1) ys := by
  go_enter Try.func43, Try.ntmps43
  go_wp2
  go_loopw [14, 15, 16] (fun vi vj _ wr => ∃ (i j : Nat), vi = .int .i64 i ∧ vj = .int .i64 j ∧ a ≤ i ∧ i ≤ j ∧ j ≤ m ∧ FB w0 wr g xs ∧ Hid ((∀ p, a ≤ p → p < i → kt xs p ≤ kt xs m) ∧ (∀ p, j ≤ p → p < m → kt xs m < kt xs p))) (fun vi vj _ _ => (intOf vj).toNat - (intOf vi).toNat)
  case atStart => exact ⟨a, m, rfl, rfl, by omega, by omega, by omega, F, fun p _ _ => by omega, fun p _ _ => by omega⟩
  case round =>
    clear F
    obtain ⟨i, j, rfl, rfl, i1, ij, j2, FX, H⟩ := hrel
    by_cases hlt : i < j
    · go_wp2_with fail
      obtain ⟨h, eh, hi, hj⟩ : ∃ h : Nat, ((i : Int) + (j : Int)) / 2 = (h : Int) ∧ i ≤ h ∧ h < j := ⟨(i + j) / 2, by omega, by omega, by omega⟩
      rw [eh]
      clear eh
      have cm := fun w => meth_q (gt xs m) (gt xs h) w (hB.gt _) (hB.gt _)
      have ca := FX.cell (i := m) (by omega)
      have cb := FX.cell (i := h) (by omega)
      have FN := fun n => FX.drewN n
      by_cases hk : kt xs m < kt xs h
      · have ho : ord (gt xs m) (gt xs h) < 0 := (ord_neg_iff _ _).2 hk
        generalize ord (gt xs m) (gt xs h) = o at cm ho
        have ho' : decide (o < 0) = true := decide_eq_true ho
        have H2 : Hid ((∀ p, a ≤ p → p < i → kt xs p ≤ kt xs m) ∧ (∀ p, h ≤ p → p < m → kt xs m < kt xs p)) := by
          refine ⟨H.out.1, fun p p1 p2 => ?_⟩
          have := hs h p (by omega) p1 p2
          omega
        clear H hk
        generalize gt xs m = x at ca cm
        generalize gt xs h = y at cb cm
        go_quiet ((go_at_call 39; exact Calls.quiet_of_same (cm _)))
        have FQ := FN nq
        clear ca cb cm FX FN
        generalize wr.drewN nq = wq at FQ ⊢
        go_wp2
        go_roundw
        case rel => exact ⟨i, h, rfl, rfl, i1, hi, by omega, FQ, H2⟩
        case measure => simp [intOf]; omega
      · have ho : ¬ ord (gt xs m) (gt xs h) < 0 := fun e => hk ((ord_neg_iff _ _).1 e)
        generalize ord (gt xs m) (gt xs h) = o at cm ho
        have ho' : decide (o < 0) = false := decide_eq_false ho
        have H2 : Hid ((∀ p, a ≤ p → p < h + 1 → kt xs p ≤ kt xs m) ∧ (∀ p, j ≤ p → p < m → kt xs m < kt xs p)) := by
          refine ⟨fun p p1 p2 => ?_, H.out.2⟩
          have := hs p h p1 (by omega) (by omega)
          omega
        clear H hk ho
        generalize gt xs m = x at ca cm
        generalize gt xs h = y at cb cm
        go_quiet ((go_at_call 39; exact Calls.quiet_of_same (cm _)))
        have FQ := FN nq
        clear ca cb cm FX FN
        generalize wr.drewN nq = wq at FQ ⊢
        go_wp2
        go_roundw
        case rel => exact ⟨h + 1, j, by go_num, rfl, by omega, by omega, j2, FQ, H2⟩
        case measure => simp [intOf]; omega
    · have eij : i = j := by omega
      subst eij
      go_wp2_with fail
      go_loopw [17] (fun vk w2 => ∃ (k : Nat) (ys : List Nat), vk = .int .i64 k ∧ i ≤ k ∧ k ≤ m ∧ FB w0 w2 g ys ∧ Hid (Mv a (m + 1) xs ys ∧ BubD m k xs ys)) (fun vk _ => (intOf vk).toNat)
      case atStart => exact ⟨m, xs, rfl, j2, Nat.le_refl _, FX, Mv.refl _ _ _, BubD.start m xs⟩
      case round =>
        clear FX
        obtain ⟨k', ys, rfl, k1, k2, FY, HB⟩ := hrel
        have HB1 := HB.out
        have hly : ys.length = N := by rw [HB1.1.len, hl]
        by_cases hk : i < k'
        · obtain ⟨k, rfl⟩ : ∃ k, k' = k + 1 := ⟨k' - 1, by omega⟩
          have ca := FY.cell (i := k + 1) (by omega)
          have cb := FY.cell (i := k) (by omega)
          have fa := FY.frozen (k + 1)
          have fb := FY.frozen k
          obtain ⟨u, cc⟩ := FY.cell2 (i := k + 1) (j := k) (by omega) (gt ys k)
          have hS : Hid (FB w0 ((wr.setCell ⟨g, k + 1, none⟩ (.float .f64 (gt ys k))).setCell ⟨g, k, none⟩ (.float .f64 (gt ys (k + 1)))).drew g (sw ys (k + 1) k)) := FY.swap (k + 1) k
          have HB2 : Hid (Mv a (m + 1) xs (sw ys (k + 1) k) ∧ BubD m k xs (sw ys (k + 1) k)) := ⟨HB1.1.trans (Mv.sw (by omega) (by omega) (by omega) (by omega) (by omega)), HB1.2.step k2 (by omega)⟩
          have hst := store_f
          generalize gt ys (k + 1) = x at ca hS
          generalize gt ys k = y at cb cc hS
          have pa : (0 : Int) ≤ (k : Int) + 1 := by omega
          have ba : (k : Int) + 1 < (N : Int) := by omega
          have ea : ((k : Int) + 1).toNat = k + 1 := by omega
          have ra : IntKind.i64.wrap ((k : Int) + 1) = (k : Int) + 1 := by rw [IntKind.wrap_i64]; omega
          have pc : (0 : Int) ≤ (k : Int) := by omega
          have bc : (k : Int) < (N : Int) := by omega
          have rc : IntKind.i64.wrap (k : Int) = (k : Int) := by rw [IntKind.wrap_i64]; omega
          clear HB HB1 FY
          go_wp2_with fail
          go_region
          have hS' := hS.out
          clear ca cb cc fa fb hS hst
          generalize ((wr.setCell ⟨g, k + 1, none⟩ (.float .f64 y)).setCell ⟨g, k, none⟩ (.float .f64 x)).drew = w2 at hS' ⊢
          clear pa ba ea ra pc bc rc
          go_wp2
          go_roundw
          case rel => exact ⟨k, _, by go_num, by omega, by omega, hS', HB2⟩
          case measure => simp [intOf]
        · have ek : k' = i := by omega
          subst ek
          have hfin : Srt a (m + 1) ys := HB1.2.sorted hs i1 j2 H.out.1 H.out.2
          have hmv := HB1.1
          clear HB HB1 H
          go_wp2
          refine bodyPost_ret (results_none rfl _ _ _) rfl ?_
          exact ⟨rfl, ys, FY, hmv, hfin⟩
end Go.Proofs.Ytekblghlaogeaaa
