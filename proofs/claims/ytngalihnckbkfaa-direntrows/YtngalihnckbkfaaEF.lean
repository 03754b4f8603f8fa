/- inRow. -/
import Derived.Test.YtngalihnckbkfaaEB
import Derived.Test.YtngalihnckbkfaaEE
namespace Go.Proofs.Ytngalihnckbkfaa
open Go.RowKit
set_option maxRecDepth 100000
set_option linter.unusedSimpArgs false
set_option linter.unusedVariables false
set_option maxHeartbeats 8000000 in
theorem pinrow_any (b off len cap : Nat) (l : List Kx) (w : World) (K : Kxs w (some ⟨b, off, none⟩) len l) (h0 : 0 < len) :
    Calls Try.prog 35 #[.slice (some ⟨b, off, none⟩) len cap] w fun e w' => e = .returned (.int .i64 (inr16 l : Nat)) ∧ w.grownBy w' none := by
  have hl := K.len_eq
  have HK : Hid _ := K
  obtain ⟨F, hF⟩ : ∃ F, l[0]? = some F := ⟨_, List.getElem?_eq_getElem (by omega)⟩
  have HQ : Hid (∀ j : Nat, j ≤ 256 → j ≤ len → (∀ i k, i < j → l[i]? = some k → F.io ≤ k.io) → (j = 256 ∨ j = len ∨ ∃ k, l[j]? = some k ∧ k.io < F.io) → inr16 l = j) := fun j h1 h2 h3 h4 => inr16_eq hF h1 (by omega) (fun i k hi hk => Int.not_lt.2 (h3 i k hi hk)) (by rw [hl]; exact h4)
  have HF : Hid _ := hF
  generalize inr16 l = N at *
  clear K hF
  go_enter Try.func35, Try.ntmps35
  go_wp2
  go_loopw [7] (fun i wr => ∃ j : Nat, i = .int .i64 j ∧ j ≤ len ∧ j ≤ 256 ∧ Hid (w.grownBy wr none ∧ ∀ i k, i < j → l[i]? = some k → F.io ≤ k.io)) (fun i _ => len - (intOf i).toNat)
  case atStart => exact ⟨0, rfl, Nat.zero_le _, Nat.zero_le _, World.grownBy.refl _ _, fun i k hi => absurd hi (Nat.not_lt_zero _)⟩
  case round =>
    obtain ⟨j, rfl, hj, hj2, HY⟩ := hrel
    by_cases hlt : j < len
    · have hjl : j < l.length := by omega
      obtain ⟨b', off', e, hk⟩ := (HK.out.grown HY.out.1).at_ (by omega)
      injection e with e
      injection e with e1 e2
      subst e1 e2
      have hlj : l[j]? = some l[j] := List.getElem?_eq_getElem hjl
      have kk := hk j l[j] hlj
      have k0 := kk.c0
      have k1 := kk.c1
      have f1 := (hk 0 F HF.out).c1
      simp only [Nat.zero_mul, Nat.add_zero] at f1
      have hji : (j : Int) < (len : Int) := by omega
      have h0i : (0 : Int) < (len : Int) := by omega
      have HG : Hid _ := HY.out.1
      generalize hX : l[j] = X at *
      have fq := cell_grown16 f1 (World.grownBy_alloc wr (.cells #[.string X.nm, .int .i64 X.io] 41) none)
      by_cases c1 : j = 256
      · have HN : Hid (N = j) := HQ.out j hj2 hj HY.out.2 (Or.inl c1)
        subst c1
        clear HY hk kk hX hlj
        go_wp2_with fail
        go_quiet (fail)
        go_wp2
        go_returns
        exact ⟨by rw [HN.out]; rfl, grown_trans (grown_trans HG.out (World.grownBy_alloc _ _ _)) (grown_drewN16 _ _)⟩
      · have c2 : ((j : Int) == 256) = false := by rw [beq_eq_false_iff_ne]; omega
        have hw1 : IntKind.i64.wrap ((j : Int) + 1) = (j : Int) + 1 := by rw [IntKind.wrap_i64]; omega
        by_cases c3 : X.io < F.io
        · have HN : Hid (N = j) := HQ.out j hj2 hj HY.out.2 (Or.inr (Or.inr ⟨X, hlj, c3⟩))
          have e3 : decide (X.io < F.io) = true := decide_eq_true c3
          clear HY hk kk hX hlj
          go_wp2_with fail
          go_quiet (fail)
          go_wp2
          go_returns
          exact ⟨by rw [HN.out]; rfl, grown_trans (grown_trans HG.out (World.grownBy_alloc _ _ _)) (grown_drewN16 _ _)⟩
        · have e3 : decide (X.io < F.io) = false := decide_eq_false c3
          have HN : Hid (∀ i k, i < j + 1 → l[i]? = some k → F.io ≤ k.io) := fun i k hi hk2 => by
            by_cases q : i = j
            · subst q
              rw [hlj] at hk2
              injection hk2 with hk2
              rw [← hk2]
              exact Int.not_lt.1 c3
            · exact HY.out.2 i k (by omega) hk2
          clear HY hk kk hX hlj
          go_wp2_with fail
          go_quiet (fail)
          go_wp2
          refine ⟨⟨j + 1, by go_num, by clear hw1; omega, by clear hw1; omega, grown_trans (grown_trans HG.out (World.grownBy_alloc _ _ _)) (grown_drewN16 _ _), HN.out⟩, ?_⟩
          clear hw1
          simp [intOf]; omega
    · obtain rfl : j = len := by omega
      have HN : Hid (N = j) := HQ.out j hj2 hj HY.out.2 (Or.inr (Or.inl rfl))
      have HG : Hid _ := HY.out.1
      clear HY
      go_wp2
      go_returns
      exact ⟨by rw [HN.out]; rfl, HG.out⟩
end Go.Proofs.Ytngalihnckbkfaa
