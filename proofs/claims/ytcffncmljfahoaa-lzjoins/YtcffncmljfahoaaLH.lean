/- The walk of LzJoins. -/
import Derived.Test.YtcffncmljfahoaaLF
import Derived.Test.YtcffncmljfahoaaRS
namespace Go.Proofs.Ytcffncmljfahoaa
open Go.RowKit
set_option linter.unusedSimpArgs false
set_option linter.unusedVariables false

theorem SArg.grown {w w' : World} {a : Option Addr} {len : Nat} {ss : List SqV} {qs : List Sq} (h : SArg w a len ss qs) (g : w.grownBy w' none) : SArg w' a len ss qs := ⟨h.row.grown g, h.sqs.grown g, h.bnd⟩
set_option maxHeartbeats 4000000 in
theorem lzJoins_walk (a0 : Option Addr) (len0 cap0 : Nat) (ss : List SqV) (qs : List Sq) (w : World) (M : SArg w a0 len0 ss qs) :
    Calls Try.prog 5 #[.slice a0 len0 cap0] w fun e w' => e = .returned (.bool true) ∧ Below w.heap.size w w' := by
  have hbg := big_any a0 len0 cap0 ss qs w M
  go_enter Try.func5, Try.ntmps5
  go_wp2_with fail
  refine hbg.mono ?_
  intro e w1 k1
  obtain ⟨bb, rfl, rfl, hb⟩ := k1
  clear hbg
  simp only
  rcases hb with rfl | ⟨rfl, h300, hlit⟩
  · clear M
    go_wp2_with (first | (go_at_call 9; refine (live_any _).mono ?_; rintro e w4 ⟨rfl, g3⟩; have H4 : Hid _ := g3; clear g3))
    go_ret
    exact ⟨rfl, grown_below H4.out⟩
  · have hj := pjoin_any a0 len0 cap0 ss qs w1 ⟨M, fun q hq => by have := hlit q hq; omega, by omega⟩ (by omega)
    have hr := fun W (g : w1.grownBy W none) => join_any a0 len0 cap0 ss qs W ⟨M.grown g, fun q hq => by have := hlit q hq; omega, by omega⟩ (by omega)
    generalize join qs = r at hj hr
    obtain ⟨ro, re⟩ := r
    clear hlit M
    go_wp2_with fail
    refine hj.mono ?_
    intro e w2 k2
    obtain ⟨a2, n2, c2, rfl, B2, g2⟩ := k2
    have hr2 := hr w2 g2
    have H2 : Hid _ := And.intro g2 B2
    clear hj hr g2 B2
    simp only
    go_wp2_with fail
    refine hr2.mono ?_
    intro e w3 k3
    obtain ⟨a3, n3, c3, rfl, B3, g3⟩ := k3
    have cx := conv_row (P := Try.prog) (H2.out.2.row.grown g3) c2 22 9 Try.underlying22 Try.underlying5 Try.underlying9
    have cy := conv_row (P := Try.prog) B3.row c3 22 9 Try.underlying22 Try.underlying5 Try.underlying9
    simp only at cx cy
    generalize strOfNums ro = sx at cx cy
    have H3 : Hid _ := grown_trans H2.out.1 g3
    clear hr2 g3 B3 H2
    simp only
    go_wp2_with (first | (go_at_call 11; with_reducible refine (num_any _ _).mono ?_; rintro e w' ⟨rfl, rfl⟩) | (go_at_call 9; refine (live_any _).mono ?_; rintro e w9 ⟨rfl, g3⟩; have H9 : Hid _ := grown_trans H3.out g3; clear g3 H3))
    go_ret
    exact ⟨rfl, grown_below H9.out⟩
end Go.Proofs.Ytcffncmljfahoaa
