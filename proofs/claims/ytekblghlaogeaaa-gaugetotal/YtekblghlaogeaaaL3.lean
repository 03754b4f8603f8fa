/- The walk of GaugeTotal, out of the contracts. -/
import Derived.Test.YtekblghlaogeaaaL2
namespace Go.Proofs.Ytekblghlaogeaaa
open Go.RowKit
set_option linter.unusedSimpArgs false
set_option linter.unusedVariables false

theorem eq_zero (x : Nat) : (FloatKind.f64.format.order x 0 == some Ordering.eq) = (!nan64 x && decide (sr x = 0)) := order_zero x

set_option maxHeartbeats 8000000 in
theorem total_walk (x y z : Nat) (r s t : Int) (nx ny zx zy : Bool) (w : World)
    (hof : ∀ b w, Calls Try.prog 9 #[.int .u64 (b : Nat)] w fun e w' => e = .returned (.float .f64 b) ∧ w = w')
    (hL : ∀ w, Calls Try.prog 15 #[] w fun e w' => e = .returned (.bool true) ∧ ∃ n, w' = w.drewN n)
    (hxy : ∀ w, Calls Try.prog 12 #[.float .f64 x, .float .f64 y] w fun e w' => e = .returned (.int .i64 r) ∧ w = w')
    (hyx : ∀ w, Calls Try.prog 12 #[.float .f64 y, .float .f64 x] w fun e w' => e = .returned (.int .i64 (-r)) ∧ w = w')
    (hxx : ∀ w, Calls Try.prog 12 #[.float .f64 x, .float .f64 x] w fun e w' => e = .returned (.int .i64 0) ∧ w = w')
    (hyz : ∀ w, Calls Try.prog 12 #[.float .f64 y, .float .f64 z] w fun e w' => e = .returned (.int .i64 s) ∧ w = w')
    (hxz : ∀ w, Calls Try.prog 12 #[.float .f64 x, .float .f64 z] w fun e w' => e = .returned (.int .i64 t) ∧ w = w')
    (ex : (FloatKind.f64.format.order x x != some Ordering.eq) = nx) (ey : (FloatKind.f64.format.order y y != some Ordering.eq) = ny)
    (fx : (FloatKind.f64.format.order x 0 == some Ordering.eq) = zx) (fy : (FloatKind.f64.format.order y 0 == some Ordering.eq) = zy)
    (hr : r = -1 ∨ r = 0 ∨ r = 1) (hs : s = -1 ∨ s = 0 ∨ s = 1) (ht : r = -1 → s = -1 → t = -1)
    (hn : nx = true ∨ ny = true → (r = 0 ↔ (nx = true ∧ ny = true)))
    (hlt : nx = false → ny = false → (zx = false ∨ zy = false) → (FloatKind.f64.format.order x y == some Ordering.lt) = decide (r < 0))
    (hgt : nx = false → ny = false → (zx = false ∨ zy = false) → (FloatKind.f64.format.order x y == some Ordering.gt) = decide (0 < r)) :
    Calls Try.prog 8 #[.int .u64 x, .int .u64 y, .int .u64 z] w fun e w' => e = .returned (.bool true) ∧ Below w.heap.size w w' := by
  rcases hr with rfl | rfl | rfl
  · have hlt' : nx = false → ny = false → (zx = false ∨ zy = false) → (FloatKind.f64.format.order x y == some Ordering.lt) = true := fun h1 h2 h3 => by rw [hlt h1 h2 h3]; rfl
    have hgt' : nx = false → ny = false → (zx = false ∨ zy = false) → (FloatKind.f64.format.order x y == some Ordering.gt) = false := fun h1 h2 h3 => by rw [hgt h1 h2 h3]; rfl
    clear hlt hgt
    rcases hs with rfl | rfl | rfl
    · obtain rfl := ht rfl rfl
      clear ht
      cases nx <;> cases ny
      · clear hn
        cases zx <;> cases zy
        · have g1 := hlt' rfl rfl (Or.inl rfl)
          have g2 := hgt' rfl rfl (Or.inl rfl)
          clear hlt' hgt'
          go_enter Try.func8, Try.ntmps8
          go_wp2_with (first | (go_at_call 9; refine (hof _ _).mono ?_; rintro e w' ⟨rfl, rfl⟩) | (go_at_call 12; first | (with_reducible refine (hxy _).mono ?_; rintro e w' ⟨rfl, rfl⟩) | (with_reducible refine (hyx _).mono ?_; rintro e w' ⟨rfl, rfl⟩) | (with_reducible refine (hxx _).mono ?_; rintro e w' ⟨rfl, rfl⟩) | (with_reducible refine (hyz _).mono ?_; rintro e w' ⟨rfl, rfl⟩) | (with_reducible refine (hxz _).mono ?_; rintro e w' ⟨rfl, rfl⟩)) | (go_at_call 15; refine (hL _).mono ?_; rintro e w' ⟨rfl, n5, rfl⟩))
          go_ret
          exact ⟨rfl, below_drewN w _⟩
        · have g1 := hlt' rfl rfl (Or.inl rfl)
          have g2 := hgt' rfl rfl (Or.inl rfl)
          clear hlt' hgt'
          go_enter Try.func8, Try.ntmps8
          go_wp2_with (first | (go_at_call 9; refine (hof _ _).mono ?_; rintro e w' ⟨rfl, rfl⟩) | (go_at_call 12; first | (with_reducible refine (hxy _).mono ?_; rintro e w' ⟨rfl, rfl⟩) | (with_reducible refine (hyx _).mono ?_; rintro e w' ⟨rfl, rfl⟩) | (with_reducible refine (hxx _).mono ?_; rintro e w' ⟨rfl, rfl⟩) | (with_reducible refine (hyz _).mono ?_; rintro e w' ⟨rfl, rfl⟩) | (with_reducible refine (hxz _).mono ?_; rintro e w' ⟨rfl, rfl⟩)) | (go_at_call 15; refine (hL _).mono ?_; rintro e w' ⟨rfl, n5, rfl⟩))
          go_ret
          exact ⟨rfl, below_drewN w _⟩
        · have g1 := hlt' rfl rfl (Or.inr rfl)
          have g2 := hgt' rfl rfl (Or.inr rfl)
          clear hlt' hgt'
          go_enter Try.func8, Try.ntmps8
          go_wp2_with (first | (go_at_call 9; refine (hof _ _).mono ?_; rintro e w' ⟨rfl, rfl⟩) | (go_at_call 12; first | (with_reducible refine (hxy _).mono ?_; rintro e w' ⟨rfl, rfl⟩) | (with_reducible refine (hyx _).mono ?_; rintro e w' ⟨rfl, rfl⟩) | (with_reducible refine (hxx _).mono ?_; rintro e w' ⟨rfl, rfl⟩) | (with_reducible refine (hyz _).mono ?_; rintro e w' ⟨rfl, rfl⟩) | (with_reducible refine (hxz _).mono ?_; rintro e w' ⟨rfl, rfl⟩)) | (go_at_call 15; refine (hL _).mono ?_; rintro e w' ⟨rfl, n5, rfl⟩))
          go_ret
          exact ⟨rfl, below_drewN w _⟩
        · clear hlt' hgt'
          go_enter Try.func8, Try.ntmps8
          go_wp2_with (first | (go_at_call 9; refine (hof _ _).mono ?_; rintro e w' ⟨rfl, rfl⟩) | (go_at_call 12; first | (with_reducible refine (hxy _).mono ?_; rintro e w' ⟨rfl, rfl⟩) | (with_reducible refine (hyx _).mono ?_; rintro e w' ⟨rfl, rfl⟩) | (with_reducible refine (hxx _).mono ?_; rintro e w' ⟨rfl, rfl⟩) | (with_reducible refine (hyz _).mono ?_; rintro e w' ⟨rfl, rfl⟩) | (with_reducible refine (hxz _).mono ?_; rintro e w' ⟨rfl, rfl⟩)) | (go_at_call 15; refine (hL _).mono ?_; rintro e w' ⟨rfl, n5, rfl⟩))
          go_ret
          exact ⟨rfl, below_drewN w _⟩
      · clear hn hlt' hgt'
        go_enter Try.func8, Try.ntmps8
        go_wp2_with (first | (go_at_call 9; refine (hof _ _).mono ?_; rintro e w' ⟨rfl, rfl⟩) | (go_at_call 12; first | (with_reducible refine (hxy _).mono ?_; rintro e w' ⟨rfl, rfl⟩) | (with_reducible refine (hyx _).mono ?_; rintro e w' ⟨rfl, rfl⟩) | (with_reducible refine (hxx _).mono ?_; rintro e w' ⟨rfl, rfl⟩) | (with_reducible refine (hyz _).mono ?_; rintro e w' ⟨rfl, rfl⟩) | (with_reducible refine (hxz _).mono ?_; rintro e w' ⟨rfl, rfl⟩)) | (go_at_call 15; refine (hL _).mono ?_; rintro e w' ⟨rfl, n5, rfl⟩))
        go_ret
        exact ⟨rfl, below_drewN w _⟩
      · clear hn hlt' hgt'
        go_enter Try.func8, Try.ntmps8
        go_wp2_with (first | (go_at_call 9; refine (hof _ _).mono ?_; rintro e w' ⟨rfl, rfl⟩) | (go_at_call 12; first | (with_reducible refine (hxy _).mono ?_; rintro e w' ⟨rfl, rfl⟩) | (with_reducible refine (hyx _).mono ?_; rintro e w' ⟨rfl, rfl⟩) | (with_reducible refine (hxx _).mono ?_; rintro e w' ⟨rfl, rfl⟩) | (with_reducible refine (hyz _).mono ?_; rintro e w' ⟨rfl, rfl⟩) | (with_reducible refine (hxz _).mono ?_; rintro e w' ⟨rfl, rfl⟩)) | (go_at_call 15; refine (hL _).mono ?_; rintro e w' ⟨rfl, n5, rfl⟩))
        go_ret
        exact ⟨rfl, below_drewN w _⟩
      · exact absurd (hn (by simp)) (by simp)
    · clear ht
      cases nx <;> cases ny
      · clear hn
        cases zx <;> cases zy
        · have g1 := hlt' rfl rfl (Or.inl rfl)
          have g2 := hgt' rfl rfl (Or.inl rfl)
          clear hlt' hgt'
          go_enter Try.func8, Try.ntmps8
          go_wp2_with (first | (go_at_call 9; refine (hof _ _).mono ?_; rintro e w' ⟨rfl, rfl⟩) | (go_at_call 12; first | (with_reducible refine (hxy _).mono ?_; rintro e w' ⟨rfl, rfl⟩) | (with_reducible refine (hyx _).mono ?_; rintro e w' ⟨rfl, rfl⟩) | (with_reducible refine (hxx _).mono ?_; rintro e w' ⟨rfl, rfl⟩) | (with_reducible refine (hyz _).mono ?_; rintro e w' ⟨rfl, rfl⟩) | (with_reducible refine (hxz _).mono ?_; rintro e w' ⟨rfl, rfl⟩)) | (go_at_call 15; refine (hL _).mono ?_; rintro e w' ⟨rfl, n5, rfl⟩))
          go_ret
          exact ⟨rfl, below_drewN w _⟩
        · have g1 := hlt' rfl rfl (Or.inl rfl)
          have g2 := hgt' rfl rfl (Or.inl rfl)
          clear hlt' hgt'
          go_enter Try.func8, Try.ntmps8
          go_wp2_with (first | (go_at_call 9; refine (hof _ _).mono ?_; rintro e w' ⟨rfl, rfl⟩) | (go_at_call 12; first | (with_reducible refine (hxy _).mono ?_; rintro e w' ⟨rfl, rfl⟩) | (with_reducible refine (hyx _).mono ?_; rintro e w' ⟨rfl, rfl⟩) | (with_reducible refine (hxx _).mono ?_; rintro e w' ⟨rfl, rfl⟩) | (with_reducible refine (hyz _).mono ?_; rintro e w' ⟨rfl, rfl⟩) | (with_reducible refine (hxz _).mono ?_; rintro e w' ⟨rfl, rfl⟩)) | (go_at_call 15; refine (hL _).mono ?_; rintro e w' ⟨rfl, n5, rfl⟩))
          go_ret
          exact ⟨rfl, below_drewN w _⟩
        · have g1 := hlt' rfl rfl (Or.inr rfl)
          have g2 := hgt' rfl rfl (Or.inr rfl)
          clear hlt' hgt'
          go_enter Try.func8, Try.ntmps8
          go_wp2_with (first | (go_at_call 9; refine (hof _ _).mono ?_; rintro e w' ⟨rfl, rfl⟩) | (go_at_call 12; first | (with_reducible refine (hxy _).mono ?_; rintro e w' ⟨rfl, rfl⟩) | (with_reducible refine (hyx _).mono ?_; rintro e w' ⟨rfl, rfl⟩) | (with_reducible refine (hxx _).mono ?_; rintro e w' ⟨rfl, rfl⟩) | (with_reducible refine (hyz _).mono ?_; rintro e w' ⟨rfl, rfl⟩) | (with_reducible refine (hxz _).mono ?_; rintro e w' ⟨rfl, rfl⟩)) | (go_at_call 15; refine (hL _).mono ?_; rintro e w' ⟨rfl, n5, rfl⟩))
          go_ret
          exact ⟨rfl, below_drewN w _⟩
        · clear hlt' hgt'
          go_enter Try.func8, Try.ntmps8
          go_wp2_with (first | (go_at_call 9; refine (hof _ _).mono ?_; rintro e w' ⟨rfl, rfl⟩) | (go_at_call 12; first | (with_reducible refine (hxy _).mono ?_; rintro e w' ⟨rfl, rfl⟩) | (with_reducible refine (hyx _).mono ?_; rintro e w' ⟨rfl, rfl⟩) | (with_reducible refine (hxx _).mono ?_; rintro e w' ⟨rfl, rfl⟩) | (with_reducible refine (hyz _).mono ?_; rintro e w' ⟨rfl, rfl⟩) | (with_reducible refine (hxz _).mono ?_; rintro e w' ⟨rfl, rfl⟩)) | (go_at_call 15; refine (hL _).mono ?_; rintro e w' ⟨rfl, n5, rfl⟩))
          go_ret
          exact ⟨rfl, below_drewN w _⟩
      · clear hn hlt' hgt'
        go_enter Try.func8, Try.ntmps8
        go_wp2_with (first | (go_at_call 9; refine (hof _ _).mono ?_; rintro e w' ⟨rfl, rfl⟩) | (go_at_call 12; first | (with_reducible refine (hxy _).mono ?_; rintro e w' ⟨rfl, rfl⟩) | (with_reducible refine (hyx _).mono ?_; rintro e w' ⟨rfl, rfl⟩) | (with_reducible refine (hxx _).mono ?_; rintro e w' ⟨rfl, rfl⟩) | (with_reducible refine (hyz _).mono ?_; rintro e w' ⟨rfl, rfl⟩) | (with_reducible refine (hxz _).mono ?_; rintro e w' ⟨rfl, rfl⟩)) | (go_at_call 15; refine (hL _).mono ?_; rintro e w' ⟨rfl, n5, rfl⟩))
        go_ret
        exact ⟨rfl, below_drewN w _⟩
      · clear hn hlt' hgt'
        go_enter Try.func8, Try.ntmps8
        go_wp2_with (first | (go_at_call 9; refine (hof _ _).mono ?_; rintro e w' ⟨rfl, rfl⟩) | (go_at_call 12; first | (with_reducible refine (hxy _).mono ?_; rintro e w' ⟨rfl, rfl⟩) | (with_reducible refine (hyx _).mono ?_; rintro e w' ⟨rfl, rfl⟩) | (with_reducible refine (hxx _).mono ?_; rintro e w' ⟨rfl, rfl⟩) | (with_reducible refine (hyz _).mono ?_; rintro e w' ⟨rfl, rfl⟩) | (with_reducible refine (hxz _).mono ?_; rintro e w' ⟨rfl, rfl⟩)) | (go_at_call 15; refine (hL _).mono ?_; rintro e w' ⟨rfl, n5, rfl⟩))
        go_ret
        exact ⟨rfl, below_drewN w _⟩
      · exact absurd (hn (by simp)) (by simp)
    · clear ht
      cases nx <;> cases ny
      · clear hn
        cases zx <;> cases zy
        · have g1 := hlt' rfl rfl (Or.inl rfl)
          have g2 := hgt' rfl rfl (Or.inl rfl)
          clear hlt' hgt'
          go_enter Try.func8, Try.ntmps8
          go_wp2_with (first | (go_at_call 9; refine (hof _ _).mono ?_; rintro e w' ⟨rfl, rfl⟩) | (go_at_call 12; first | (with_reducible refine (hxy _).mono ?_; rintro e w' ⟨rfl, rfl⟩) | (with_reducible refine (hyx _).mono ?_; rintro e w' ⟨rfl, rfl⟩) | (with_reducible refine (hxx _).mono ?_; rintro e w' ⟨rfl, rfl⟩) | (with_reducible refine (hyz _).mono ?_; rintro e w' ⟨rfl, rfl⟩) | (with_reducible refine (hxz _).mono ?_; rintro e w' ⟨rfl, rfl⟩)) | (go_at_call 15; refine (hL _).mono ?_; rintro e w' ⟨rfl, n5, rfl⟩))
          go_ret
          exact ⟨rfl, below_drewN w _⟩
        · have g1 := hlt' rfl rfl (Or.inl rfl)
          have g2 := hgt' rfl rfl (Or.inl rfl)
          clear hlt' hgt'
          go_enter Try.func8, Try.ntmps8
          go_wp2_with (first | (go_at_call 9; refine (hof _ _).mono ?_; rintro e w' ⟨rfl, rfl⟩) | (go_at_call 12; first | (with_reducible refine (hxy _).mono ?_; rintro e w' ⟨rfl, rfl⟩) | (with_reducible refine (hyx _).mono ?_; rintro e w' ⟨rfl, rfl⟩) | (with_reducible refine (hxx _).mono ?_; rintro e w' ⟨rfl, rfl⟩) | (with_reducible refine (hyz _).mono ?_; rintro e w' ⟨rfl, rfl⟩) | (with_reducible refine (hxz _).mono ?_; rintro e w' ⟨rfl, rfl⟩)) | (go_at_call 15; refine (hL _).mono ?_; rintro e w' ⟨rfl, n5, rfl⟩))
          go_ret
          exact ⟨rfl, below_drewN w _⟩
        · have g1 := hlt' rfl rfl (Or.inr rfl)
          have g2 := hgt' rfl rfl (Or.inr rfl)
          clear hlt' hgt'
          go_enter Try.func8, Try.ntmps8
          go_wp2_with (first | (go_at_call 9; refine (hof _ _).mono ?_; rintro e w' ⟨rfl, rfl⟩) | (go_at_call 12; first | (with_reducible refine (hxy _).mono ?_; rintro e w' ⟨rfl, rfl⟩) | (with_reducible refine (hyx _).mono ?_; rintro e w' ⟨rfl, rfl⟩) | (with_reducible refine (hxx _).mono ?_; rintro e w' ⟨rfl, rfl⟩) | (with_reducible refine (hyz _).mono ?_; rintro e w' ⟨rfl, rfl⟩) | (with_reducible refine (hxz _).mono ?_; rintro e w' ⟨rfl, rfl⟩)) | (go_at_call 15; refine (hL _).mono ?_; rintro e w' ⟨rfl, n5, rfl⟩))
          go_ret
          exact ⟨rfl, below_drewN w _⟩
        · clear hlt' hgt'
          go_enter Try.func8, Try.ntmps8
          go_wp2_with (first | (go_at_call 9; refine (hof _ _).mono ?_; rintro e w' ⟨rfl, rfl⟩) | (go_at_call 12; first | (with_reducible refine (hxy _).mono ?_; rintro e w' ⟨rfl, rfl⟩) | (with_reducible refine (hyx _).mono ?_; rintro e w' ⟨rfl, rfl⟩) | (with_reducible refine (hxx _).mono ?_; rintro e w' ⟨rfl, rfl⟩) | (with_reducible refine (hyz _).mono ?_; rintro e w' ⟨rfl, rfl⟩) | (with_reducible refine (hxz _).mono ?_; rintro e w' ⟨rfl, rfl⟩)) | (go_at_call 15; refine (hL _).mono ?_; rintro e w' ⟨rfl, n5, rfl⟩))
          go_ret
          exact ⟨rfl, below_drewN w _⟩
      · clear hn hlt' hgt'
        go_enter Try.func8, Try.ntmps8
        go_wp2_with (first | (go_at_call 9; refine (hof _ _).mono ?_; rintro e w' ⟨rfl, rfl⟩) | (go_at_call 12; first | (with_reducible refine (hxy _).mono ?_; rintro e w' ⟨rfl, rfl⟩) | (with_reducible refine (hyx _).mono ?_; rintro e w' ⟨rfl, rfl⟩) | (with_reducible refine (hxx _).mono ?_; rintro e w' ⟨rfl, rfl⟩) | (with_reducible refine (hyz _).mono ?_; rintro e w' ⟨rfl, rfl⟩) | (with_reducible refine (hxz _).mono ?_; rintro e w' ⟨rfl, rfl⟩)) | (go_at_call 15; refine (hL _).mono ?_; rintro e w' ⟨rfl, n5, rfl⟩))
        go_ret
        exact ⟨rfl, below_drewN w _⟩
      · clear hn hlt' hgt'
        go_enter Try.func8, Try.ntmps8
        go_wp2_with (first | (go_at_call 9; refine (hof _ _).mono ?_; rintro e w' ⟨rfl, rfl⟩) | (go_at_call 12; first | (with_reducible refine (hxy _).mono ?_; rintro e w' ⟨rfl, rfl⟩) | (with_reducible refine (hyx _).mono ?_; rintro e w' ⟨rfl, rfl⟩) | (with_reducible refine (hxx _).mono ?_; rintro e w' ⟨rfl, rfl⟩) | (with_reducible refine (hyz _).mono ?_; rintro e w' ⟨rfl, rfl⟩) | (with_reducible refine (hxz _).mono ?_; rintro e w' ⟨rfl, rfl⟩)) | (go_at_call 15; refine (hL _).mono ?_; rintro e w' ⟨rfl, n5, rfl⟩))
        go_ret
        exact ⟨rfl, below_drewN w _⟩
      · exact absurd (hn (by simp)) (by simp)
  · have hlt' : nx = false → ny = false → (zx = false ∨ zy = false) → (FloatKind.f64.format.order x y == some Ordering.lt) = false := fun h1 h2 h3 => by rw [hlt h1 h2 h3]; rfl
    have hgt' : nx = false → ny = false → (zx = false ∨ zy = false) → (FloatKind.f64.format.order x y == some Ordering.gt) = false := fun h1 h2 h3 => by rw [hgt h1 h2 h3]; rfl
    clear hlt hgt
    clear ht hs
    cases nx <;> cases ny
    · clear hn
      cases zx <;> cases zy
      · have g1 := hlt' rfl rfl (Or.inl rfl)
        have g2 := hgt' rfl rfl (Or.inl rfl)
        clear hlt' hgt'
        go_enter Try.func8, Try.ntmps8
        go_wp2_with (first | (go_at_call 9; refine (hof _ _).mono ?_; rintro e w' ⟨rfl, rfl⟩) | (go_at_call 12; first | (with_reducible refine (hxy _).mono ?_; rintro e w' ⟨rfl, rfl⟩) | (with_reducible refine (hyx _).mono ?_; rintro e w' ⟨rfl, rfl⟩) | (with_reducible refine (hxx _).mono ?_; rintro e w' ⟨rfl, rfl⟩) | (with_reducible refine (hyz _).mono ?_; rintro e w' ⟨rfl, rfl⟩) | (with_reducible refine (hxz _).mono ?_; rintro e w' ⟨rfl, rfl⟩)) | (go_at_call 15; refine (hL _).mono ?_; rintro e w' ⟨rfl, n5, rfl⟩))
        go_ret
        exact ⟨rfl, below_drewN w _⟩
      · have g1 := hlt' rfl rfl (Or.inl rfl)
        have g2 := hgt' rfl rfl (Or.inl rfl)
        clear hlt' hgt'
        go_enter Try.func8, Try.ntmps8
        go_wp2_with (first | (go_at_call 9; refine (hof _ _).mono ?_; rintro e w' ⟨rfl, rfl⟩) | (go_at_call 12; first | (with_reducible refine (hxy _).mono ?_; rintro e w' ⟨rfl, rfl⟩) | (with_reducible refine (hyx _).mono ?_; rintro e w' ⟨rfl, rfl⟩) | (with_reducible refine (hxx _).mono ?_; rintro e w' ⟨rfl, rfl⟩) | (with_reducible refine (hyz _).mono ?_; rintro e w' ⟨rfl, rfl⟩) | (with_reducible refine (hxz _).mono ?_; rintro e w' ⟨rfl, rfl⟩)) | (go_at_call 15; refine (hL _).mono ?_; rintro e w' ⟨rfl, n5, rfl⟩))
        go_ret
        exact ⟨rfl, below_drewN w _⟩
      · have g1 := hlt' rfl rfl (Or.inr rfl)
        have g2 := hgt' rfl rfl (Or.inr rfl)
        clear hlt' hgt'
        go_enter Try.func8, Try.ntmps8
        go_wp2_with (first | (go_at_call 9; refine (hof _ _).mono ?_; rintro e w' ⟨rfl, rfl⟩) | (go_at_call 12; first | (with_reducible refine (hxy _).mono ?_; rintro e w' ⟨rfl, rfl⟩) | (with_reducible refine (hyx _).mono ?_; rintro e w' ⟨rfl, rfl⟩) | (with_reducible refine (hxx _).mono ?_; rintro e w' ⟨rfl, rfl⟩) | (with_reducible refine (hyz _).mono ?_; rintro e w' ⟨rfl, rfl⟩) | (with_reducible refine (hxz _).mono ?_; rintro e w' ⟨rfl, rfl⟩)) | (go_at_call 15; refine (hL _).mono ?_; rintro e w' ⟨rfl, n5, rfl⟩))
        go_ret
        exact ⟨rfl, below_drewN w _⟩
      · clear hlt' hgt'
        go_enter Try.func8, Try.ntmps8
        go_wp2_with (first | (go_at_call 9; refine (hof _ _).mono ?_; rintro e w' ⟨rfl, rfl⟩) | (go_at_call 12; first | (with_reducible refine (hxy _).mono ?_; rintro e w' ⟨rfl, rfl⟩) | (with_reducible refine (hyx _).mono ?_; rintro e w' ⟨rfl, rfl⟩) | (with_reducible refine (hxx _).mono ?_; rintro e w' ⟨rfl, rfl⟩) | (with_reducible refine (hyz _).mono ?_; rintro e w' ⟨rfl, rfl⟩) | (with_reducible refine (hxz _).mono ?_; rintro e w' ⟨rfl, rfl⟩)) | (go_at_call 15; refine (hL _).mono ?_; rintro e w' ⟨rfl, n5, rfl⟩))
        go_ret
        exact ⟨rfl, below_drewN w _⟩
    · exact absurd (hn (by simp)) (by simp)
    · exact absurd (hn (by simp)) (by simp)
    · clear hn hlt' hgt'
      go_enter Try.func8, Try.ntmps8
      go_wp2_with (first | (go_at_call 9; refine (hof _ _).mono ?_; rintro e w' ⟨rfl, rfl⟩) | (go_at_call 12; first | (with_reducible refine (hxy _).mono ?_; rintro e w' ⟨rfl, rfl⟩) | (with_reducible refine (hyx _).mono ?_; rintro e w' ⟨rfl, rfl⟩) | (with_reducible refine (hxx _).mono ?_; rintro e w' ⟨rfl, rfl⟩) | (with_reducible refine (hyz _).mono ?_; rintro e w' ⟨rfl, rfl⟩) | (with_reducible refine (hxz _).mono ?_; rintro e w' ⟨rfl, rfl⟩)) | (go_at_call 15; refine (hL _).mono ?_; rintro e w' ⟨rfl, n5, rfl⟩))
      go_ret
      exact ⟨rfl, below_drewN w _⟩
  · have hlt' : nx = false → ny = false → (zx = false ∨ zy = false) → (FloatKind.f64.format.order x y == some Ordering.lt) = false := fun h1 h2 h3 => by rw [hlt h1 h2 h3]; rfl
    have hgt' : nx = false → ny = false → (zx = false ∨ zy = false) → (FloatKind.f64.format.order x y == some Ordering.gt) = true := fun h1 h2 h3 => by rw [hgt h1 h2 h3]; rfl
    clear hlt hgt
    clear ht hs
    cases nx <;> cases ny
    · clear hn
      cases zx <;> cases zy
      · have g1 := hlt' rfl rfl (Or.inl rfl)
        have g2 := hgt' rfl rfl (Or.inl rfl)
        clear hlt' hgt'
        go_enter Try.func8, Try.ntmps8
        go_wp2_with (first | (go_at_call 9; refine (hof _ _).mono ?_; rintro e w' ⟨rfl, rfl⟩) | (go_at_call 12; first | (with_reducible refine (hxy _).mono ?_; rintro e w' ⟨rfl, rfl⟩) | (with_reducible refine (hyx _).mono ?_; rintro e w' ⟨rfl, rfl⟩) | (with_reducible refine (hxx _).mono ?_; rintro e w' ⟨rfl, rfl⟩) | (with_reducible refine (hyz _).mono ?_; rintro e w' ⟨rfl, rfl⟩) | (with_reducible refine (hxz _).mono ?_; rintro e w' ⟨rfl, rfl⟩)) | (go_at_call 15; refine (hL _).mono ?_; rintro e w' ⟨rfl, n5, rfl⟩))
        go_ret
        exact ⟨rfl, below_drewN w _⟩
      · have g1 := hlt' rfl rfl (Or.inl rfl)
        have g2 := hgt' rfl rfl (Or.inl rfl)
        clear hlt' hgt'
        go_enter Try.func8, Try.ntmps8
        go_wp2_with (first | (go_at_call 9; refine (hof _ _).mono ?_; rintro e w' ⟨rfl, rfl⟩) | (go_at_call 12; first | (with_reducible refine (hxy _).mono ?_; rintro e w' ⟨rfl, rfl⟩) | (with_reducible refine (hyx _).mono ?_; rintro e w' ⟨rfl, rfl⟩) | (with_reducible refine (hxx _).mono ?_; rintro e w' ⟨rfl, rfl⟩) | (with_reducible refine (hyz _).mono ?_; rintro e w' ⟨rfl, rfl⟩) | (with_reducible refine (hxz _).mono ?_; rintro e w' ⟨rfl, rfl⟩)) | (go_at_call 15; refine (hL _).mono ?_; rintro e w' ⟨rfl, n5, rfl⟩))
        go_ret
        exact ⟨rfl, below_drewN w _⟩
      · have g1 := hlt' rfl rfl (Or.inr rfl)
        have g2 := hgt' rfl rfl (Or.inr rfl)
        clear hlt' hgt'
        go_enter Try.func8, Try.ntmps8
        go_wp2_with (first | (go_at_call 9; refine (hof _ _).mono ?_; rintro e w' ⟨rfl, rfl⟩) | (go_at_call 12; first | (with_reducible refine (hxy _).mono ?_; rintro e w' ⟨rfl, rfl⟩) | (with_reducible refine (hyx _).mono ?_; rintro e w' ⟨rfl, rfl⟩) | (with_reducible refine (hxx _).mono ?_; rintro e w' ⟨rfl, rfl⟩) | (with_reducible refine (hyz _).mono ?_; rintro e w' ⟨rfl, rfl⟩) | (with_reducible refine (hxz _).mono ?_; rintro e w' ⟨rfl, rfl⟩)) | (go_at_call 15; refine (hL _).mono ?_; rintro e w' ⟨rfl, n5, rfl⟩))
        go_ret
        exact ⟨rfl, below_drewN w _⟩
      · clear hlt' hgt'
        go_enter Try.func8, Try.ntmps8
        go_wp2_with (first | (go_at_call 9; refine (hof _ _).mono ?_; rintro e w' ⟨rfl, rfl⟩) | (go_at_call 12; first | (with_reducible refine (hxy _).mono ?_; rintro e w' ⟨rfl, rfl⟩) | (with_reducible refine (hyx _).mono ?_; rintro e w' ⟨rfl, rfl⟩) | (with_reducible refine (hxx _).mono ?_; rintro e w' ⟨rfl, rfl⟩) | (with_reducible refine (hyz _).mono ?_; rintro e w' ⟨rfl, rfl⟩) | (with_reducible refine (hxz _).mono ?_; rintro e w' ⟨rfl, rfl⟩)) | (go_at_call 15; refine (hL _).mono ?_; rintro e w' ⟨rfl, n5, rfl⟩))
        go_ret
        exact ⟨rfl, below_drewN w _⟩
    · clear hn hlt' hgt'
      go_enter Try.func8, Try.ntmps8
      go_wp2_with (first | (go_at_call 9; refine (hof _ _).mono ?_; rintro e w' ⟨rfl, rfl⟩) | (go_at_call 12; first | (with_reducible refine (hxy _).mono ?_; rintro e w' ⟨rfl, rfl⟩) | (with_reducible refine (hyx _).mono ?_; rintro e w' ⟨rfl, rfl⟩) | (with_reducible refine (hxx _).mono ?_; rintro e w' ⟨rfl, rfl⟩) | (with_reducible refine (hyz _).mono ?_; rintro e w' ⟨rfl, rfl⟩) | (with_reducible refine (hxz _).mono ?_; rintro e w' ⟨rfl, rfl⟩)) | (go_at_call 15; refine (hL _).mono ?_; rintro e w' ⟨rfl, n5, rfl⟩))
      go_ret
      exact ⟨rfl, below_drewN w _⟩
    · clear hn hlt' hgt'
      go_enter Try.func8, Try.ntmps8
      go_wp2_with (first | (go_at_call 9; refine (hof _ _).mono ?_; rintro e w' ⟨rfl, rfl⟩) | (go_at_call 12; first | (with_reducible refine (hxy _).mono ?_; rintro e w' ⟨rfl, rfl⟩) | (with_reducible refine (hyx _).mono ?_; rintro e w' ⟨rfl, rfl⟩) | (with_reducible refine (hxx _).mono ?_; rintro e w' ⟨rfl, rfl⟩) | (with_reducible refine (hyz _).mono ?_; rintro e w' ⟨rfl, rfl⟩) | (with_reducible refine (hxz _).mono ?_; rintro e w' ⟨rfl, rfl⟩)) | (go_at_call 15; refine (hL _).mono ?_; rintro e w' ⟨rfl, n5, rfl⟩))
      go_ret
      exact ⟨rfl, below_drewN w _⟩
    · exact absurd (hn (by simp)) (by simp)
theorem gaugeTotal_walk (a0 a1 a2 : Int) (w : World) (w0 : (Lit.int .u64 a0).wf = true) (w1 : (Lit.int .u64 a1).wf = true) (w2 : (Lit.int .u64 a2).wf = true) :
    Calls Try.prog 8 #[.int .u64 a0, .int .u64 a1, .int .u64 a2] w fun e w' => e = .returned (.bool true) ∧ Below w.heap.size w w' := by
  obtain ⟨x, rfl, hx⟩ := nat_of_u64 w0
  obtain ⟨y, rfl, hy⟩ := nat_of_u64 w1
  obtain ⟨z, rfl, hz⟩ := nat_of_u64 w2
  have hz' : nan64 x = false → nan64 y = false → ((!nan64 x && decide (sr x = 0)) = false ∨ (!nan64 y && decide (sr y = 0)) = false) → ¬ (sr x = 0 ∧ sr y = 0) := by
    intro h1 h2 h3 ⟨h4, h5⟩
    simp [h1, h2, h4, h5] at h3
  refine total_walk x y z (ord x y) (ord y z) (ord x z) (nan64 x) (nan64 y) (!nan64 x && decide (sr x = 0)) (!nan64 y && decide (sr y = 0)) w of_any live_any
    (fun w => order_any x y w hx hy) (fun w => by rw [← ord_neg]; exact order_any y x w hy hx) (fun w => by have := order_any x x w hx hx; rw [ord_self] at this; exact this)
    (fun w => order_any y z w hy hz) (fun w => order_any x z w hx hz) (order_self_ne x) (order_self_ne y) (eq_zero x) (eq_zero y) (ord_cases x y) (ord_cases y z) (fun h1 h2 => ord_trans h1 h2)
    (fun h => ord_nan hx hy h) (fun h1 h2 h3 => (ord_fits hx hy h1 h2 (hz' h1 h2 h3)).1) (fun h1 h2 h3 => (ord_fits hx hy h1 h2 (hz' h1 h2 h3)).2)
end Go.Proofs.Ytekblghlaogeaaa
