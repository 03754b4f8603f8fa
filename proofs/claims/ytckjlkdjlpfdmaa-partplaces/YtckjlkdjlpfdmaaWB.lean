/- The page's example (live), num. -/
import Derived.Test.YtckjlkdjlpfdmaaWA
namespace Go.Proofs.Ytckjlkdjlpfdmaa
open Go.RowKit
set_option linter.unusedSimpArgs false
set_option linter.unusedVariables false

theorem num_any (x : Int) (w : World) : Calls Try.prog 8 #[.int .i64 x] w fun e w' => e = .returned (.int .i64 x) ∧ w = w' := by
  go_enter Try.func8, Try.ntmps8
  go_wp2
  go_ret
  exact ⟨rfl, rfl⟩
def plx : Pl := ⟨7, 4, 64, 0, 1, 2, 4, 2⟩
theorem mk_ex : mk 7 4 64 = (plx, 0) := by kernel_rfl
theorem pge_ex : pge plx 1 300 = (20, 44, 0) := by kernel_rfl
theorem psz_ex : psz plx = 512 := by kernel_rfl
theorem plx_ok : plx.ok := by unfold plx Pl.ok bnd64; simp
set_option maxHeartbeats 1000000 in
theorem live_any (w : World) : Calls Try.prog 11 #[] w fun e w' => e = .returned (.bool true) ∧ w.grownBy w' none := by
  have h1 := fun W => pmake_any 7 4 64 W (by unfold bnd64; omega) (by unfold bnd64; omega) (by unfold bnd64; omega)
  have h2 := fun W => ppage_any plx 1 300 W plx_ok (by unfold bnd64; omega) (by unfold bnd64; omega)
  have h3 := fun W => psize_any plx W plx_ok
  rw [mk_ex] at h1
  rw [pge_ex] at h2
  rw [psz_ex] at h3
  simp only [plx, Pl.val] at h1 h2 h3
  go_enter Try.func11, Try.ntmps11
  go_wp2_with fail
  refine (h1 _).mono ?_
  rintro e w1 ⟨rfl, g1⟩
  have B1 := Bx.new w1 26 [.int .i64 7, .int .i64 4, .int .i64 64, .int .i64 0, .int .i64 1, .int .i64 2, .int .i64 4, .int .i64 2]
  have HG : Hid _ := And.intro B1 (grown_trans g1 (World.grownBy_alloc w1 (.cells #[.int .i64 7, .int .i64 4, .int .i64 64, .int .i64 0, .int .i64 1, .int .i64 2, .int .i64 4, .int .i64 2] 26) none))
  clear g1 B1 h1
  simp only
  go_wp2_with fail
  refine (h2 _).mono ?_
  rintro e w2 ⟨rfl, g2⟩
  have B2 := HG.out.1.kept g2
  have HG2 : Hid _ := And.intro B2 (grown_trans HG.out.2 g2)
  have c0 := B2.c 0
  have c1 := B2.c 1
  have c2 := B2.c 2
  have c3 := B2.c 3
  have c4 := B2.c 4
  have c5 := B2.c 5
  have c6 := B2.c 6
  have c7 := B2.c 7
  simp only [List.getElem?_cons_succ, List.getElem?_cons_zero] at c0 c1 c2 c3 c4 c5 c6 c7
  clear g2 B2 h2 HG
  generalize w1.heap.size = g at *
  simp only
  go_wp2_with (first | (go_at_call 8; with_reducible refine (num_any _ _).mono ?_; rintro e w' ⟨rfl, rfl⟩))
  refine (h3 _).mono ?_
  rintro e w3 ⟨rfl, g3⟩
  have HG3 : Hid _ := grown_trans HG2.out.2 g3
  clear g3 h3 HG2 c0 c1 c2 c3 c4 c5 c6 c7
  go_wp2
  go_ret
  exact ⟨rfl, HG3.out⟩
end Go.Proofs.Ytckjlkdjlpfdmaa
