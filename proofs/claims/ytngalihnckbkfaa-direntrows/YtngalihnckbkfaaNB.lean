/- The document's Valid. -/
import Derived.Test.YtngalihnckbkfaaProg
import Derived.Test.YtngalihnckbkfaaNA
namespace Go.Proofs.Ytngalihnckbkfaa
open Go.RowKit
set_option maxRecDepth 100000
set_option linter.unusedSimpArgs false
set_option linter.unusedVariables false

set_option maxHeartbeats 1000000 in
theorem rvalid_any (s : ByteArray) (w : World) (hs : s.size ≤ 5000) : Calls Try.prog 24 #[.string s] w fun e w' => e = .returned (.bool (val s)) ∧ w = w' := by
  by_cases h1 : s.size < 1
  · have e : val s = false := by unfold val; have : ¬ 1 ≤ s.size := by omega
                                 simp [this]
    rw [e]
    go_enter Try.func24, Try.ntmps24
    go_wp2
    go_ret
    exact ⟨rfl, rfl⟩
  · by_cases h2 : 255 < s.size
    · have e : val s = false := by unfold val; have : ¬ s.size ≤ 255 := by omega
                                   simp [this]
      rw [e]
      have g1 : ¬ (s.size : Int) < 1 := by omega
      have g2 : (255 : Int) < s.size := by omega
      go_enter Try.func24, Try.ntmps24
      go_wp2
      go_ret
      exact ⟨rfl, rfl⟩
    · have g1 : ¬ (s.size : Int) < 1 := by omega
      have g2 : ¬ (255 : Int) < s.size := by omega
      cases h3 : (s.toList == [46]) with
      | true =>
        have e : val s = false := by unfold val; simp [h3]
        rw [e]
        clear e
        go_enter Try.func24, Try.ntmps24
        go_wp2
        go_ret
        exact ⟨rfl, rfl⟩
      | false =>
        cases h4 : (s.toList == [46, 46]) with
        | true =>
          have e : val s = false := by unfold val; simp [h4]
          rw [e]
          clear e
          go_enter Try.func24, Try.ntmps24
          go_wp2
          go_ret
          exact ⟨rfl, rfl⟩
        | false =>
          have HE : Hid (val s = !bad s s.size) := by
            show val s = !bad s s.size
            unfold val
            have : 1 ≤ s.size := by omega
            have : s.size ≤ 255 := by omega
            simp [*]
          go_enter Try.func24, Try.ntmps24
          go_wp2
          go_loop [3] (fun i => ∃ k : Nat, k ≤ s.size ∧ i = .int .i64 k ∧ Hid (bad s k = false)) (fun i => s.size - (intOf i).toNat)
          case atStart => exact ⟨0, Nat.zero_le _, rfl, rfl⟩
          case round =>
            obtain ⟨k, hk, rfl, HB⟩ := hrel
            by_cases hlt : k < s.size
            · have hbn := bad_succ s k
              rw [HB.out, ← byt_in hlt] at hbn
              have HN : Hid _ := hbn
              clear hbn
              cases h5 : ((s[k].toNat : Int) == 47) with
              | true =>
                have e5 : s[k].toNat = 47 := by have h5' : (s[k].toNat : Int) = 47 := eq_of_beq h5; omega
                have HV : Hid (val s = false) := by
                  show val s = false
                  rw [HE.out, bad_mono (k := k + 1) (by rw [HN.out]; simp [e5]) (by omega)]; rfl
                clear e5
                go_wp2
                go_ret
                exact ⟨by rw [HV.out]; rfl, rfl⟩
              | false =>
                cases h6 : ((s[k].toNat : Int) == 0) with
                | true =>
                  have e5 : s[k].toNat = 0 := by have h5' : (s[k].toNat : Int) = 0 := eq_of_beq h6; omega
                  have HV : Hid (val s = false) := by
                    show val s = false
                    rw [HE.out, bad_mono (k := k + 1) (by rw [HN.out]; simp [e5]) (by omega)]; rfl
                  clear e5
                  go_wp2
                  go_ret
                  exact ⟨by rw [HV.out]; rfl, rfl⟩
                | false =>
                  have e5 : s[k].toNat ≠ 47 := by intro e; rw [e] at h5; simp at h5
                  have e6 : s[k].toNat ≠ 0 := by intro e; rw [e] at h6; simp at h6
                  have HV : Hid (bad s (k + 1) = false) := by
                    show bad s (k + 1) = false
                    rw [HN.out]; simp [e5, e6]
                  clear e5 e6
                  go_wp2
                  go_round
                  case rel => exact ⟨k + 1, by omega, by go_num, HV⟩
                  case measure => simp [intOf]; omega
            · obtain rfl : k = s.size := by omega
              go_wp2
              go_ret
              exact ⟨by rw [HE.out, HB.out]; rfl, rfl⟩
end Go.Proofs.Ytngalihnckbkfaa
