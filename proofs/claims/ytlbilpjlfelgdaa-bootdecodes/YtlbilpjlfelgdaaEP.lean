/- The program's boot: which records are right; the one that follows. -/
import Derived.Test.YtlbilpjlfelgdaaDE
namespace Go.Proofs.Ytlbilpjlfelgdaa
open Go.RowKit
set_option linter.unusedSimpArgs false
set_option linter.unusedVariables false

set_option maxHeartbeats 1000000 in
theorem pright_any (r : Rc) (w : World) : Calls Try.prog 20 #[r.val] w fun e w' => e = .returned (.bool (rrt r)) ∧ w.grownBy w' none := by
  obtain ⟨q, s, l, u⟩ := r
  unfold Rc.val
  by_cases h1 : q ≤ 4611686018427387904
  · by_cases h2 : s = 0
    · by_cases h3 : 1 ≤ l
      · have e : rrt ⟨q, s, l, u⟩ = decide (l ≤ 8388608) := by unfold rrt; subst h2; simp [h1, h3]
        rw [e]
        subst h2
        have d1 : decide (q ≤ 4611686018427387904) = true := decide_eq_true h1
        have d3 : decide (1 ≤ l) = true := decide_eq_true h3
        go_enter Try.func20, Try.ntmps20
        go_wp2
        go_ret
        exact ⟨rfl, World.grownBy_alloc _ _ _⟩
      · have e : rrt ⟨q, s, l, u⟩ = false := by unfold rrt; simp [h3]
        rw [e]
        subst h2
        have d1 : decide (q ≤ 4611686018427387904) = true := decide_eq_true h1
        have d3 : decide (1 ≤ l) = false := decide_eq_false h3
        go_enter Try.func20, Try.ntmps20
        go_wp2
        go_ret
        exact ⟨rfl, World.grownBy_alloc _ _ _⟩
    · by_cases h4 : s = 1
      · by_cases h3 : 1 ≤ l
        · have e : rrt ⟨q, s, l, u⟩ = decide (l ≤ 8388608) := by unfold rrt; subst h4; simp [h1, h3]
          rw [e]
          subst h4
          have d1 : decide (q ≤ 4611686018427387904) = true := decide_eq_true h1
          have d3 : decide (1 ≤ l) = true := decide_eq_true h3
          clear h2
          go_enter Try.func20, Try.ntmps20
          go_wp2
          go_ret
          exact ⟨rfl, World.grownBy_alloc _ _ _⟩
        · have e : rrt ⟨q, s, l, u⟩ = false := by unfold rrt; simp [h3]
          rw [e]
          subst h4
          have d1 : decide (q ≤ 4611686018427387904) = true := decide_eq_true h1
          have d3 : decide (1 ≤ l) = false := decide_eq_false h3
          clear h2
          go_enter Try.func20, Try.ntmps20
          go_wp2
          go_ret
          exact ⟨rfl, World.grownBy_alloc _ _ _⟩
      · have e : rrt ⟨q, s, l, u⟩ = false := by
          unfold rrt
          have : (decide (0 ≤ s) && decide (s ≤ 1)) = false := by simp; omega
          rw [Bool.and_assoc (decide (q ≤ 4611686018427387904)), this]; simp
        rw [e]
        have d1 : decide (q ≤ 4611686018427387904) = true := decide_eq_true h1
        have d2 : (s == 0) = false := by simpa using h2
        have d4 : (s == 1) = false := by simpa using h4
        go_enter Try.func20, Try.ntmps20
        go_wp2
        go_ret
        exact ⟨rfl, World.grownBy_alloc _ _ _⟩
  · have e : rrt ⟨q, s, l, u⟩ = false := by unfold rrt; simp [h1]
    rw [e]
    have d1 : decide (q ≤ 4611686018427387904) = false := decide_eq_false h1
    go_enter Try.func20, Try.ntmps20
    go_wp2
    go_ret
    exact ⟨rfl, World.grownBy_alloc _ _ _⟩
theorem rnx_eq (r : Rc) (slot n sum : Int) : rnx r slot n sum = if rrt ⟨r.q, slot, n, sum⟩ = false then (rc0, 1) else if r.q = 4611686018427387904 then (rc0, 2) else (⟨r.q + 1, slot, n, sum⟩, 0) := by
  obtain ⟨q, s, l, u⟩ := r
  unfold rnx rrt
  simp only
  by_cases c1 : 4611686018427387904 < q
  · have : ¬ q ≤ 4611686018427387904 := by omega
    simp [c1, this]
  · have h2 : q ≤ 4611686018427387904 := by omega
    simp [c1, h2]
set_option maxHeartbeats 2000000 in
theorem pnext_any (r : Rc) (slot n sum : Int) (w : World) (hr : inU r.q) : Calls Try.prog 18 #[r.val, .int .i64 slot, .int .i64 n, .int .u64 sum] w fun e w' => e = .returned (.tuple #[(rnx r slot n sum).1.val, .int .i64 (rnx r slot n sum).2]) ∧ w.grownBy w' none := by
  obtain ⟨q, s, l, u⟩ := r
  have h1 := fun W => pright_any ⟨q, slot, n, sum⟩ W
  have hq9 : rrt ⟨q, slot, n, sum⟩ = true → q ≤ 4611686018427387904 := fun h => (rrt_iff.1 h).1
  unfold inU at hr
  rw [rnx_eq]
  simp only
  generalize rrt ⟨q, slot, n, sum⟩ = rq at *
  simp only [Rc.val] at *
  have A0 := ((Bx.new w 24 [.int .u64 q, .int .i64 s, .int .i64 l, .int .u64 u]).kept (World.grownBy_alloc _ (.cells #[.int .u64 0, .int .i64 0, .int .i64 0, .int .u64 0] 24) none)).kept (World.grownBy_alloc _ (.cells #[.int .u64 q, .int .i64 slot, .int .i64 n, .int .u64 sum] 24) none)
  have B0 := (Bx.new (w.alloc (.cells #[.int .u64 q, .int .i64 s, .int .i64 l, .int .u64 u] 24)) 24 [.int .u64 0, .int .i64 0, .int .i64 0, .int .u64 0]).kept (World.grownBy_alloc _ (.cells #[.int .u64 q, .int .i64 slot, .int .i64 n, .int .u64 sum] 24) none)
  have C0 := Bx.new ((w.alloc (.cells #[.int .u64 q, .int .i64 s, .int .i64 l, .int .u64 u] 24)).alloc (.cells #[.int .u64 0, .int .i64 0, .int .i64 0, .int .u64 0] 24)) 24 [.int .u64 q, .int .i64 slot, .int .i64 n, .int .u64 sum]
  have G0 := grown_trans (grown_trans (World.grownBy_alloc w (.cells #[.int .u64 q, .int .i64 s, .int .i64 l, .int .u64 u] 24) none) (World.grownBy_alloc _ (.cells #[.int .u64 0, .int .i64 0, .int .i64 0, .int .u64 0] 24) none)) (World.grownBy_alloc _ (.cells #[.int .u64 q, .int .i64 slot, .int .i64 n, .int .u64 sum] 24) none)
  simp only [World.size_alloc] at B0 C0
  have H0 : Hid _ := And.intro A0 (And.intro B0 (And.intro C0 G0))
  clear A0 B0 C0 G0
  have hq0 : rq = false ∨ (rq = true ∧ q = 4611686018427387904) ∨ (rq = true ∧ q < 4611686018427387904) := by
    cases rq
    · exact Or.inl rfl
    · have hq9 := hq9 rfl
      exact Or.inr ((by omega : q = 4611686018427387904 ∨ q < 4611686018427387904).elim (fun h => Or.inl ⟨rfl, h⟩) (fun h => Or.inr ⟨rfl, h⟩))
  clear hq9
  rcases hq0 with rfl | ⟨rfl, rfl⟩ | ⟨rfl, hq⟩
  · rw [if_pos rfl]
    simp only [rc0] at *
    go_enter Try.func18, Try.ntmps18
    go_wp2_with fail
    refine (h1 _).mono ?_
    rintro e w1 ⟨rfl, g1⟩
    have H1 : Hid _ := And.intro (H0.out.2.1.kept g1) (And.intro (And.intro (H0.out.1.kept g1) (H0.out.2.2.1.kept g1)) (grown_trans H0.out.2.2.2 g1))
    clear g1 H0 h1
    obtain ⟨b0, b1, b2, b3⟩ := bx4 H1.out.1
    obtain ⟨a0, a1, a2, a3⟩ := bx4 H1.out.2.1.1
    have f0 := H1.out.1.f 0
    have f1 := H1.out.1.f 1
    have f2 := H1.out.1.f 2
    have f3 := H1.out.1.f 3
    have R4 := H1.out.1.set4 (.int .u64 0) (.int .i64 0) (.int .i64 0) (.int .u64 0)
    have HG : Hid _ := grown_new H1.out.2.2 (grown_set4 w1 (w.heap.size + 1) (.int .u64 0) (.int .i64 0) (.int .i64 0) (.int .u64 0)) (by omega)
    obtain ⟨d0, d1, d2, d3⟩ := bx4 R4
    unfold set4 at d0 d1 d2 d3
    clear R4
    simp only
    go_wp2
    refine bodyPost_ret (by simp [results, Try.results18, go_sem, d0, d1, d2, d3]; try rfl) rfl ?_
    exact ⟨rfl, HG.out⟩
  · rw [if_neg (by decide), if_pos rfl]
    simp only [rc0] at *
    go_enter Try.func18, Try.ntmps18
    go_wp2_with fail
    refine (h1 _).mono ?_
    rintro e w1 ⟨rfl, g1⟩
    have H1 : Hid _ := And.intro (H0.out.2.1.kept g1) (And.intro (And.intro (H0.out.1.kept g1) (H0.out.2.2.1.kept g1)) (grown_trans H0.out.2.2.2 g1))
    clear g1 H0 h1
    obtain ⟨b0, b1, b2, b3⟩ := bx4 H1.out.1
    obtain ⟨a0, a1, a2, a3⟩ := bx4 H1.out.2.1.1
    have f0 := H1.out.1.f 0
    have f1 := H1.out.1.f 1
    have f2 := H1.out.1.f 2
    have f3 := H1.out.1.f 3
    have R4 := H1.out.1.set4 (.int .u64 0) (.int .i64 0) (.int .i64 0) (.int .u64 0)
    have HG : Hid _ := grown_new H1.out.2.2 (grown_set4 w1 (w.heap.size + 1) (.int .u64 0) (.int .i64 0) (.int .i64 0) (.int .u64 0)) (by omega)
    obtain ⟨d0, d1, d2, d3⟩ := bx4 R4
    unfold set4 at d0 d1 d2 d3
    clear R4
    simp only
    go_wp2
    refine bodyPost_ret (by simp [results, Try.results18, go_sem, d0, d1, d2, d3]; try rfl) rfl ?_
    exact ⟨rfl, HG.out⟩
  · rw [if_neg (by decide), if_neg (by omega)]
    simp only [rc0] at *
    go_enter Try.func18, Try.ntmps18
    go_wp2_with fail
    refine (h1 _).mono ?_
    rintro e w1 ⟨rfl, g1⟩
    have H1 : Hid _ := And.intro (H0.out.2.1.kept g1) (And.intro (And.intro (H0.out.1.kept g1) (H0.out.2.2.1.kept g1)) (grown_trans H0.out.2.2.2 g1))
    clear g1 H0 h1
    obtain ⟨b0, b1, b2, b3⟩ := bx4 H1.out.1
    obtain ⟨a0, a1, a2, a3⟩ := bx4 H1.out.2.1.1
    have f0 := H1.out.1.f 0
    have f1 := H1.out.1.f 1
    have f2 := H1.out.1.f 2
    have f3 := H1.out.1.f 3
    obtain ⟨c0, c1, c2, c3⟩ := bx4 H1.out.2.1.2
    have h0 := H1.out.2.1.2.f 0
    have hwq : IntKind.u64.wrap (q + 1) = q + 1 := by rw [IntKind.wrap_u64]; omega
    have X := H1.out.2.1.2.set 0 (.int .u64 (q + 1))
    simp only [List.set_cons_zero] at X
    have gx := grown_set w1 (w.heap.size + 1 + 1) 0 (.int .u64 (q + 1))
    have Y : Bx (w1.setCell ⟨w.heap.size + 1 + 1, 0, none⟩ (.int .u64 (q + 1))) (w.heap.size + 1) 24 [.int .u64 0, .int .i64 0, .int .i64 0, .int .u64 0] := ⟨by rw [gx.block _ H1.out.1.lt (by simp)]; exact H1.out.1.blk⟩
    obtain ⟨x0, x1, x2, x3⟩ := bx4 X
    obtain ⟨y0, y1, y2, y3⟩ := bx4 Y
    have fy0 := Y.f 0
    have fy1 := Y.f 1
    have fy2 := Y.f 2
    have fy3 := Y.f 3
    have R4 := Y.set4 (.int .u64 (q + 1)) (.int .i64 slot) (.int .i64 n) (.int .u64 sum)
    have HG : Hid _ := grown_new (grown_new H1.out.2.2 gx (by omega)) (grown_set4 _ (w.heap.size + 1) (.int .u64 (q + 1)) (.int .i64 slot) (.int .i64 n) (.int .u64 sum)) (by omega)
    obtain ⟨d0, d1, d2, d3⟩ := bx4 R4
    unfold set4 at d0 d1 d2 d3
    clear R4 X Y gx
    simp only
    go_wp2
    refine bodyPost_ret (by simp [results, Try.results18, go_sem, d0, d1, d2, d3]; try rfl) rfl ?_
    exact ⟨rfl, HG.out⟩
end Go.Proofs.Ytlbilpjlfelgdaa
