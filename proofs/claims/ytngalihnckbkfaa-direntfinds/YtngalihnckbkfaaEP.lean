/- DirentFinds' walk. -/
import Derived.Test.YtngalihnckbkfaaEO
namespace Go.Proofs.Ytngalihnckbkfaa
open Go.RowKit Go.Shelf
set_option maxRecDepth 100000
set_option linter.unusedSimpArgs false
set_option linter.unusedVariables false
theorem direntFinds_walk (a : Option Addr) (len cap : Nat) (l : List Kx) (s : ByteArray) (w : World) (K : Kxs w a len l) :
    Calls Try.prog 5 #[.slice a len cap, .string s] w fun e w' => e = .returned (.bool true) ∧ w.grownBy w' none := by
  have hl := K.len_eq
  have HK : Hid _ := K
  have hM := much16_any a len cap l w K
  have HF : Hid (∀ W, w.grownBy W none → _) := fun W g => pfind_any a len cap l s W (K.grown g)
  have HL : Hid (∀ W, w.grownBy W none → Calls Try.prog 8 #[] W fun e w' => e = .returned (.bool true) ∧ w.grownBy w' none) := fun W g => (live16_any W).mono (fun e w' h => ⟨h.1, grown_trans g h.2⟩)
  clear K
  go_enter Try.func5, Try.ntmps5
  go_wp2_with fail
  refine hM.mono ?_
  rintro e w1 ⟨rfl, rfl⟩
  clear hM
  by_cases hm : mch16 l = true
  · rw [hm]
    have hv := HL.out w (World.grownBy.refl _ _)
    go_wp2_with fail
    refine hv.mono ?_
    rintro e w2 ⟨rfl, g2⟩
    clear hv
    go_wp2
    go_ret
    exact ⟨rfl, g2⟩
  · rw [Bool.not_eq_true] at hm
    rw [hm]
    by_cases h3 : (300 : Int) < ((s.size : Nat) : Int)
    · have hv := HL.out w (World.grownBy.refl _ _)
      go_wp2_with fail
      refine hv.mono ?_
      rintro e w2 ⟨rfl, g2⟩
      clear hv
      go_wp2
      go_ret
      exact ⟨rfl, g2⟩
    · have hf := HF.out w (World.grownBy.refl _ _)
      go_wp2_with fail
      refine hf.mono ?_
      rintro e w2 ⟨rfl, g2⟩
      clear hf HF
      have HK2 : Hid _ := HK.out.grown g2
      have hv := HL.out w2 g2
      clear HL HK
      obtain ⟨fx, hfx⟩ : ∃ fx, fx = fnd16 l s := ⟨_, rfl⟩
      have HFX : Hid (fx = fnd16 l s) := hfx
      rw [← hfx]
      clear hfx
      go_wp2
      go_loop [7] (fun i => ∃ j : Nat, i = .int .i64 j ∧ j ≤ len ∧ Hid ((l.take j).find? (fun k => k.nm.toList == s.toList) = none)) (fun i => len - (intOf i).toNat)
      case atStart => exact ⟨0, rfl, Nat.zero_le _, by show (l.take 0).find? _ = none; simp⟩
      case round =>
        obtain ⟨j, rfl, hj, HY⟩ := hrel
        by_cases hlt : j < len
        · have hjl : j < l.length := by omega
          obtain ⟨b, off, rfl, hk⟩ := HK2.out.at_ (by omega)
          have kk := hk j l[j] (List.getElem?_eq_getElem hjl)
          have k0 := kk.c0
          have k1 := kk.c1
          have hji : (j : Int) < (len : Int) := by omega
          have htk : l.take (j + 1) = l.take j ++ [l[j]] := by rw [List.take_succ_eq_append_getElem hjl]
          have hsp : l = l.take j ++ (l[j] :: l.drop (j + 1)) := by rw [List.getElem_cons_drop, List.take_append_drop]
          generalize hX : l[j] = X at *
          by_cases hq : X.nm = s
          · have hR : fx = (X.io, true) := by
              rw [HFX.out]
              unfold fnd16
              rw [hsp, List.find?_append, HY.out, List.find?_cons]
              simp [hq]
            subst hR
            clear HY hk kk htk hsp hX HFX
            go_wp2_with fail
            refine hv.mono ?_
            rintro e w3 ⟨rfl, g3⟩
            clear hv
            go_wp2
            go_ret
            exact ⟨rfl, g3⟩
          · have hne : ¬ X.nm.toList = s.toList := fun e => hq (by
              rw [ByteArray.toList_eq, ByteArray.toList_eq] at e
              exact ByteArray.ext (Array.toList_inj.1 e))
            have q2 : (X.nm.toList == s.toList) = false := beq_eq_false_iff_ne.2 hne
            have hN : Hid ((l.take (j + 1)).find? (fun k => k.nm.toList == s.toList) = none) := by
              show (l.take (j + 1)).find? (fun k => k.nm.toList == s.toList) = none
              rw [htk, List.find?_append, HY.out]
              simp [List.find?_cons, beq_eq_false_iff_ne.2 hne]
            have hmx := HK2.out.le
            have hwj : IntKind.i64.wrap ((j : Int) + 1) = (j : Int) + 1 := by rw [IntKind.wrap_i64]; unfold maxLen at hmx; omega
            clear HY hk kk htk hsp hX hmx
            go_wp2
            go_round
            case rel => exact ⟨j + 1, by go_num, by omega, hN⟩
            case measure => simp [intOf]; omega
        · obtain rfl : j = len := by omega
          have hR : fx = (0, false) := by
            rw [HFX.out]
            unfold fnd16
            have := HY.out
            rw [List.take_of_length_le (by omega)] at this
            rw [this]
          subst hR
          clear HY HFX
          go_wp2_with fail
          refine hv.mono ?_
          rintro e w3 ⟨rfl, g3⟩
          clear hv
          go_wp2
          go_ret
          exact ⟨rfl, g3⟩
end Go.Proofs.Ytngalihnckbkfaa
