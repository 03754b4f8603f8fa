/- rightAttrs. -/
import Derived.Test.YtpahnkodhonlgaaUA17
namespace Go.Proofs.Ytpahnkodhonlgaa
open Go.RowKit
set_option maxRecDepth 100000
set_option linter.unusedSimpArgs false
set_option linter.unusedVariables false
set_option maxHeartbeats 8000000 in
theorem pright17_any (a : Option Addr) (len cap : Nat) (l : List AtV) (w : World) (K : Ats w a len l) :
    Calls Try.prog 44 #[.slice a len cap] w fun e w' => e = .returned (.bool (rga17 l)) ∧ w.grownBy w' none := by
  have hl := K.len_eq
  by_cases h0 : len = 0
  · have hr := rga_len (l := l) (Or.inl (by omega))
    subst h0
    rw [hr]
    clear K
    go_enter Try.func44, Try.ntmps44
    go_wp2_with fail
    go_returns
    exact ⟨rfl, World.grownBy.refl _ _⟩
  by_cases h64 : 64 < len
  · have hr := rga_len (l := l) (Or.inr (by omega))
    have h64i : (64 : Int) < (len : Int) := by omega
    have hb : ((len : Int) == 0) = false := by rw [beq_eq_false_iff_ne]; omega
    rw [hr]
    clear K
    go_enter Try.func44, Try.ntmps44
    go_wp2_with fail
    go_returns
    exact ⟨rfl, World.grownBy.refl _ _⟩
  have h64i : ¬ (64 : Int) < (len : Int) := by omega
  have hb : ((len : Int) == 0) = false := by rw [beq_eq_false_iff_ne]; omega
  have HK : Hid _ := K
  have HR : Hid (∀ i, i < l.length → at17 l i = false → rga17 l = false) := fun i hi h => rga_not hi h
  have HR1 : Hid ((∀ i, i < l.length → at17 l i = true) → rga17 l = true) := fun h => rga_of (by omega) (by omega) h
  generalize rga17 l = R at *
  clear K
  go_enter Try.func44, Try.ntmps44
  go_wp2
  go_loopw [3, 16] (fun v i wr => ∃ j : Nat, i = .int .i64 j ∧ v = .string (prv17 l j) ∧ j ≤ len ∧ Hid (w.grownBy wr none ∧ ∀ i, i < j → at17 l i = true)) (fun _ i _ => len - (intOf i).toNat)
  case atStart => exact ⟨0, rfl, rfl, Nat.zero_le _, World.grownBy.refl _ _, fun i hi => absurd hi (Nat.not_lt_zero _)⟩
  case round =>
    obtain ⟨j, rfl, rfl, hj, HY⟩ := hrel
    by_cases hlt : j < len
    · have hjl : j < l.length := by omega
      obtain ⟨b, off, rfl, hk⟩ := (HK.out.grown HY.out.1).at_ (by omega)
      have kk := hk j l[j] (List.getElem?_eq_getElem hjl)
      have k0 := kk.c0
      have k1 := kk.c1
      have hji : (j : Int) < (len : Int) := by omega
      have hlj : l[j]? = some l[j] := List.getElem?_eq_getElem hjl
      have HG : Hid _ := HY.out.1
      generalize hX : l[j] = X at *
      have hbk : ∀ q, (!leS17 X.n (prv17 l j) && (decide (X.n.size ≤ 255) && (!has0 X.n && decide (X.len ≤ 4096)))) = q → at17 l j = q := fun q h => by rw [← h]; unfold at17; rw [hlj]
      have HPS : Hid _ := prv_succ hlj
      generalize hP : prv17 l j = P at *
      cases ht : (Op.bytesLess X.n.toList P.toList || X.n.toList == P.toList) with
      | true =>
        have HBad : Hid (R = false) := HR.out j hjl (hbk false (by unfold leS17; rw [ht]; simp))
        clear HY hk kk hX hlj hbk
        go_wp2_with (first | (go_at_call 61; refine (contains15_any _ _).mono ?_; rintro e wx ⟨rfl, rfl⟩) | fail)
        go_returns
        exact ⟨by rw [HBad.out]; rfl, grown_trans HG.out (World.grownBy_alloc _ _ _)⟩
      | false =>
        by_cases c2 : 255 < X.n.size
        · have c2i : (255 : Int) < ((X.n.size : Nat) : Int) := by omega
          have HBad : Hid (R = false) := HR.out j hjl (hbk false (by unfold leS17; rw [decide_eq_false (by omega : ¬ X.n.size ≤ 255)]; simp))
          clear HY hk kk hX hlj hbk
          go_wp2_with (first | (go_at_call 61; refine (contains15_any _ _).mono ?_; rintro e wx ⟨rfl, rfl⟩) | fail)
          go_returns
          exact ⟨by rw [HBad.out]; rfl, grown_trans HG.out (World.grownBy_alloc _ _ _)⟩
        · have c2i : ¬ (255 : Int) < ((X.n.size : Nat) : Int) := by omega
          cases h3 : has0 X.n with
          | true =>
            have hcc := fun W => contains15_any X.n W
            rw [h3] at hcc
            have HBad : Hid (R = false) := HR.out j hjl (hbk false (by unfold leS17; rw [h3]; simp))
            clear HY hk kk hX hlj hbk
            go_wp2_with (first | (go_at_call 61; refine (hcc _).mono ?_; rintro e wx ⟨rfl, rfl⟩) | fail)
            go_returns
            exact ⟨by rw [HBad.out]; rfl, grown_trans HG.out (World.grownBy_alloc _ _ _)⟩
          | false =>
            by_cases c4 : 4096 < X.len
            · have c4i : (4096 : Int) < ((X.len : Nat) : Int) := by omega
              have hcc := fun W => contains15_any X.n W
              rw [h3] at hcc
              have HBad : Hid (R = false) := HR.out j hjl (hbk false (by unfold leS17; rw [decide_eq_false (by omega : ¬ X.len ≤ 4096)]; simp))
              clear HY hk kk hX hlj hbk
              go_wp2_with (first | (go_at_call 61; refine (hcc _).mono ?_; rintro e wx ⟨rfl, rfl⟩) | fail)
              go_returns
              exact ⟨by rw [HBad.out]; rfl, grown_trans HG.out (World.grownBy_alloc _ _ _)⟩
            · have c4i : ¬ (4096 : Int) < ((X.len : Nat) : Int) := by omega
              have hok : at17 l j = true := hbk true (by unfold leS17; rw [ht, h3, decide_eq_true (by omega : X.n.size ≤ 255), decide_eq_true (by omega : X.len ≤ 4096)]; rfl)
              have HN : Hid (∀ i, i < j + 1 → at17 l i = true) := fun i hi => by
                by_cases q : i = j
                · rw [q]; exact hok
                · exact HY.out.2 i (by omega)
              have hcc := fun W => contains15_any X.n W
              rw [h3] at hcc
              have hwj : IntKind.i64.wrap ((j : Int) + 1) = (j : Int) + 1 := by have := HK.out.le; unfold maxLen at this; rw [IntKind.wrap_i64]; omega
              clear HY hk kk hX hlj hbk hok hP
              go_wp2_with (first | (go_at_call 61; refine (hcc _).mono ?_; rintro e wx ⟨rfl, rfl⟩) | fail)
              refine ⟨⟨j + 1, by go_num, by rw [HPS.out], by clear hwj; omega, grown_trans HG.out (World.grownBy_alloc _ _ _), HN.out⟩, ?_⟩
              clear hwj
              simp [intOf]; omega
    · obtain rfl : j = len := by omega
      have HN : Hid (R = true) := HR1.out (fun i hi => HY.out.2 i (by omega))
      have HG : Hid _ := HY.out.1
      have hji : ¬ (j : Int) < (j : Int) := by omega
      clear HY
      go_wp2
      go_returns
      exact ⟨by rw [HN.out]; rfl, HG.out⟩
end Go.Proofs.Ytpahnkodhonlgaa
