/- The page's example (live), num; two records held against each other. -/
import Derived.Test.YtlbilpjlfelgdaaEA
import Derived.DeepKeys
import Derived.Laws.StructEq
namespace Go.Proofs.Ytlbilpjlfelgdaa
open Go.RowKit
set_option linter.unusedSimpArgs false
set_option linter.unusedVariables false

theorem num_any (x : Int) (w : World) : Calls Try.prog 11 #[.int .i64 x] w fun e w' => e = .returned (.int .i64 x) ∧ w = w' := by
  go_enter Try.func11, Try.ntmps11
  go_wp2
  go_ret
  exact ⟨rfl, rfl⟩
def rx1 : Rc := ⟨7, 1, 300, 9⟩
def rx2 : Rc := ⟨8, 0, 200, 5⟩
theorem rx1_rt : rrt rx1 = true := by decide
theorem rx2_rt : rrt rx2 = true := by decide
theorem rx1_ok : rx1.ok := by unfold rx1 Rc.ok inU in64; simp
theorem rx2_ok : rx2.ok := by unfold rx2 Rc.ok inU in64; simp
theorem rx_ch : rch (rby rx1) (rby rx2) = (1, rx2, 0) := by
  rw [rch_two rx1_rt rx2_rt (by decide) (by decide) rx1_ok.2.2.2 rx2_ok.2.2.2]
  rfl
theorem ren_right {r : Rc} (h : rrt r = true) : ren r = (rby r, 0) := by unfold ren; rw [if_pos h]
set_option maxHeartbeats 1000000 in
theorem live_any (w : World) : Calls Try.prog 8 #[] w fun e w' => e = .returned (.bool true) ∧ w.grownBy w' none := by
  have h1 := fun W => pencode_any rx1 W rx1_ok
  have h2 := fun W => pencode_any rx2 W rx2_ok
  have h3 := fun a n c b m d W R e1 e2 e3 R2 e4 e5 e6 => pchoose_any a n c (rby rx1) b m d (rby rx2) W R e1 e2 e3 R2 e4 e5 e6
  rw [ren_right rx1_rt] at h1
  rw [ren_right rx2_rt] at h2
  rw [rx_ch] at h3
  have y1 := rby_byt rx1_rt
  have y2 := rby_byt rx2_rt
  have n1 := rby_len rx1
  have n2 := rby_len rx2
  simp only [rx1, rx2, Rc.val] at h1 h2 h3
  have HH : Hid _ := And.intro y1 (And.intro y2 (And.intro n1 (And.intro n2 h3)))
  clear y1 y2 n1 n2 h3
  go_enter Try.func8, Try.ntmps8
  go_wp2_with fail
  refine (h1 _).mono ?_
  intro e w1 k1
  obtain ⟨a1, m1, c1, rfl, o1, g1⟩ := k1
  obtain rfl : m1 = 32 := by have := o1.1; have := HH.out.2.2.1; rw [bv_length] at *; simp only [rx1] at *; omega
  have H1 : Hid _ := And.intro o1 g1
  clear o1 g1 h1
  simp only
  go_wp2_with fail
  refine (h2 _).mono ?_
  intro e w2 k2
  obtain ⟨a2, m2, c2, rfl, o2, g2⟩ := k2
  obtain rfl : m2 = 32 := by have := o2.1; have := HH.out.2.2.2.1; rw [bv_length] at *; simp only [rx2] at *; omega
  obtain ⟨b1, d1, e1, R1, _, nc1, cm1⟩ := own_bytes (H1.out.1.kept g2 (by cases (Value.slice a1 32 c1).ownBlock <;> simp)) HH.out.1 (by unfold maxLen; omega)
  injection e1 with e1 _ e1'
  subst e1 e1'
  obtain ⟨b2, d2, e2, R2, _, nc2, cm2⟩ := own_bytes o2 HH.out.2.1 (by unfold maxLen; omega)
  injection e2 with e2 _ e2'
  subst e2 e2'
  have k3 := HH.out.2.2.2.2 _ _ _ _ _ _ w2 R1 nc1 cm1 (by omega) R2 nc2 cm2 (by omega)
  have HG : Hid _ := grown_trans H1.out.2 g2
  clear o2 g2 h2 H1 R1 R2 HH
  simp only
  go_wp2_with fail
  refine k3.mono ?_
  rintro e w3 ⟨rfl, g3⟩
  have A3 := World.grownBy_alloc w3 (.cells #[.int .u64 8, .int .i64 0, .int .i64 200, .int .u64 5] 24) none
  have HG3 : Hid _ := grown_trans (grown_trans HG.out g3) A3
  clear A3 g3 k3 HG
  simp only
  go_wp2_with (first | (go_at_call 11; with_reducible refine (num_any _ _).mono ?_; rintro e w' ⟨rfl, rfl⟩))
  go_ret
  exact ⟨rfl, HG3.out⟩
end Go.Proofs.Ytlbilpjlfelgdaa
