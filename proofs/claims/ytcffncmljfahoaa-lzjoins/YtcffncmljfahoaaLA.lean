/- The page's example (live), num. -/
import Derived.Test.YtcffncmljfahoaaPD
namespace Go.Proofs.Ytcffncmljfahoaa
open Go.RowKit
set_option linter.unusedSimpArgs false
set_option linter.unusedVariables false

theorem num_any (x : Int) (w : World) : Calls Try.prog 11 #[.int .i64 x] w fun e w' => e = .returned (.int .i64 x) ∧ w = w' := by
  go_enter Try.func11, Try.ntmps11
  go_wp2
  go_ret
  exact ⟨rfl, rfl⟩
def ex1 : List Int := [32, 97, 98, 2, 0, 16, 99]
def ex2 : List Int := [16, 97, 0, 0]
theorem byt_ex1 : Byt ex1 := by unfold ex1; intro x hx; simp at hx; omega
theorem byt_ex2 : Byt ex2 := by unfold ex2; intro x hx; simp at hx; omega
theorem pdec_ex1 : pdec ex1 100 = ([97, 98, 97, 98, 97, 98, 99], [([97, 98], 2, 4), ([99], 0, 0)], 0, 7) := by decide
theorem pdec_ex2 : pdec ex2 100 = ([], [], 9, 2) := by decide

set_option maxHeartbeats 1000000 in
theorem live_any (w : World) : Calls Try.prog 9 #[] w fun e w' => e = .returned (.bool true) ∧ w.grownBy w' none := by
  have h1 := pdecode_any (some ⟨w.heap.size, 0, none⟩) 7 7 ex1 100 (w.alloc (.cells #[.int .u8 32, .int .u8 97, .int .u8 98, .int .u8 2, .int .u8 0, .int .u8 16, .int .u8 99] 5)) (alloc_row w ex1 byt_ex1 (by decide)) (by decide) (by decide) (by decide) (by decide)
  rw [pdec_ex1] at h1
  go_enter Try.func9, Try.ntmps9
  go_wp2_with fail
  refine h1.mono ?_
  intro e w1 k1
  obtain ⟨a1, n1, c1, rfl, b1, g1⟩ := k1
  have G1 := grown_trans (World.grownBy_alloc w (.cells #[.int .u8 32, .int .u8 97, .int .u8 98, .int .u8 2, .int .u8 0, .int .u8 16, .int .u8 99] 5) none) g1
  have h2 := pdecode_any (some ⟨w1.heap.size, 0, none⟩) 4 4 ex2 100 (w1.alloc (.cells #[.int .u8 16, .int .u8 97, .int .u8 0, .int .u8 0] 5)) (alloc_row w1 ex2 byt_ex2 (by decide)) (by decide) (by decide) (by decide) (by decide)
  rw [pdec_ex2] at h2
  have H1 : Hid _ := And.intro G1 b1
  clear h1 G1 b1 g1
  simp only
  go_wp2_with fail
  refine h2.mono ?_
  intro e w2 k2
  obtain ⟨a2, n2, c2, rfl, b2, g2⟩ := k2
  have G2 := grown_trans (grown_trans H1.out.1 (World.grownBy_alloc w1 (.cells #[.int .u8 16, .int .u8 97, .int .u8 0, .int .u8 0] 5) none)) g2
  have R1 := (H1.out.2.row.grown (World.grownBy_alloc w1 (.cells #[.int .u8 16, .int .u8 97, .int .u8 0, .int .u8 0] 5) none)).grown g2
  have cx := conv_row (P := Try.prog) R1 c1 22 9 Try.underlying22 Try.underlying5 Try.underlying9
  have hse : ((strOfNums [97, 98, 97, 98, 97, 98, 99]).toList == ([97, 98, 97, 98, 97, 98, 99] : List UInt8)) = true := by rw [str_toList]; rfl
  generalize strOfNums [97, 98, 97, 98, 97, 98, 99] = sx at cx hse
  have H2 : Hid _ := G2
  clear h2 b2 g2 G2 H1 R1
  simp only
  go_wp2_with (first | (go_at_call 11; with_reducible refine (num_any _ _).mono ?_; rintro e w' ⟨rfl, rfl⟩))
  go_ret
  exact ⟨rfl, H2.out⟩
end Go.Proofs.Ytcffncmljfahoaa
