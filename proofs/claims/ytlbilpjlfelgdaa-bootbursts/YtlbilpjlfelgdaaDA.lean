/- A record; is it right? The one that follows. -/
import Derived.Test.YtlbilpjlfelgdaaSB
import Derived.Test.YtlbilpjlfelgdaaSC
import Derived.Handy
namespace Go.Proofs.Ytlbilpjlfelgdaa
open Go.RowKit
set_option linter.unusedSimpArgs false
set_option linter.unusedVariables false

structure Rc where
  q : Int
  s : Int
  l : Int
  u : Int
def Rc.cells (r : Rc) : List Value := [.int .u64 r.q, .int .i64 r.s, .int .i64 r.l, .int .u64 r.u]
def Rc.val (r : Rc) : Value := .agg #[.int .u64 r.q, .int .i64 r.s, .int .i64 r.l, .int .u64 r.u]
def in64 (x : Int) : Prop := -9223372036854775808 ≤ x ∧ x ≤ 9223372036854775807
def inU (x : Int) : Prop := 0 ≤ x ∧ x < 18446744073709551616
def Rc.ok (r : Rc) : Prop := inU r.q ∧ in64 r.s ∧ in64 r.l ∧ inU r.u
def rc0 : Rc := ⟨0, 0, 0, 0⟩
/-- is a record right? -/
def rrt (r : Rc) : Bool := decide (r.q ≤ 4611686018427387904) && decide (0 ≤ r.s) && decide (r.s ≤ 1) && decide (1 ≤ r.l) && decide (r.l ≤ 8388608)
theorem rrt_iff {r : Rc} : rrt r = true ↔ r.q ≤ 4611686018427387904 ∧ (r.s = 0 ∨ r.s = 1) ∧ 1 ≤ r.l ∧ r.l ≤ 8388608 := by
  unfold rrt
  simp only [Bool.and_eq_true, decide_eq_true_eq]
  omega
set_option maxHeartbeats 1000000 in
theorem rright_any (r : Rc) (w : World) : Calls Try.prog 10 #[r.val] w fun e w' => e = .returned (.bool (rrt r)) ∧ w.grownBy w' none := by
  obtain ⟨q, s, l, u⟩ := r
  unfold rrt Rc.val
  simp only
  cases h1 : decide (q ≤ 4611686018427387904) <;> cases h2 : decide (0 ≤ s) <;> cases h3 : decide (s ≤ 1) <;> cases h4 : decide (1 ≤ l)
  all_goals
    go_enter Try.func10, Try.ntmps10
    go_wp2
    go_ret
    exact ⟨rfl, World.grownBy_alloc _ _ _⟩
/-- Next, as a plain function -/
def rnx (r : Rc) (slot n sum : Int) : Rc × Int :=
  if 4611686018427387904 < r.q then (rc0, 1) else if rrt ⟨0, slot, n, sum⟩ = false then (rc0, 1) else if r.q = 4611686018427387904 then (rc0, 2) else (⟨r.q + 1, slot, n, sum⟩, 0)
/-- a variable of several cells -/
structure Bx (W : World) (g : Nat) (T : TypeId) (cs : List Value) : Prop where
  blk : W.heap[g]? = some (.cells cs.toArray T (0, 0))
theorem Bx.lt {W : World} {g : Nat} {T : TypeId} {cs : List Value} (h : Bx W g T cs) : g < W.heap.size := (Array.getElem?_eq_some_iff.1 h.blk).1
theorem Bx.c {W : World} {g : Nat} {T : TypeId} {cs : List Value} (h : Bx W g T cs) (i : Nat) : W.cell? ⟨g, i, none⟩ = cs[i]? := by simp [World.cell?, h.blk]
theorem Bx.f {W : World} {g : Nat} {T : TypeId} {cs : List Value} (h : Bx W g T cs) (i : Nat) : W.frozen? ⟨g, i, none⟩ = false := by simp [World.frozen?, h.blk]
theorem Bx.kept {W W' : World} {g : Nat} {T : TypeId} {cs : List Value} (h : Bx W g T cs) (hg : W.grownBy W' none) : Bx W' g T cs := ⟨by rw [hg.block g h.lt (by simp)]; exact h.blk⟩
theorem Bx.new (w : World) (T : TypeId) (cs : List Value) : Bx (w.alloc (.cells cs.toArray T)) w.heap.size T cs := ⟨heap_alloc_new _ _⟩
theorem Bx.set {W : World} {g : Nat} {T : TypeId} {cs : List Value} (h : Bx W g T cs) (i : Nat) (v : Value) : Bx (W.setCell ⟨g, i, none⟩ v) g T (cs.set i v) := by
  constructor
  rw [setCell_eq_setRow W g i _ _ _ _ h.blk, setRow_heap W g _ _ _ _ h.blk]
  simp
/-- a record stored whole -/
def set4 (W : World) (g : Nat) (a b c d : Value) : World := (((W.setCell ⟨g, 0, none⟩ a).setCell ⟨g, 1, none⟩ b).setCell ⟨g, 2, none⟩ c).setCell ⟨g, 3, none⟩ d
theorem Bx.set4 {W : World} {g : Nat} {T : TypeId} {x y z t : Value} (h : Bx W g T [x, y, z, t]) (a b c d : Value) : Bx (set4 W g a b c d) g T [a, b, c, d] := (((h.set 0 a).set 1 b).set 2 c).set 3 d
theorem grown_set4 (W : World) (g : Nat) (a b c d : Value) : W.grownBy (set4 W g a b c d) (some g) := grown_trans (grown_trans (grown_trans (grown_set _ _ _ _) (grown_set _ _ _ _)) (grown_set _ _ _ _)) (grown_set _ _ _ _)
theorem bx4 {W : World} {g : Nat} {T : TypeId} {a b c d : Value} (h : Bx W g T [a, b, c, d]) : W.cell? ⟨g, 0, none⟩ = some a ∧ W.cell? ⟨g, 1, none⟩ = some b ∧ W.cell? ⟨g, 2, none⟩ = some c ∧ W.cell? ⟨g, 3, none⟩ = some d := ⟨h.c 0, h.c 1, h.c 2, h.c 3⟩
set_option maxHeartbeats 2000000 in
theorem rnext_any (r : Rc) (slot n sum : Int) (w : World) (hr : inU r.q) : Calls Try.prog 19 #[r.val, .int .i64 slot, .int .i64 n, .int .u64 sum] w fun e w' => e = .returned (.tuple #[(rnx r slot n sum).1.val, .int .i64 (rnx r slot n sum).2]) ∧ w.grownBy w' none := by
  have h1 := fun W => rright_any ⟨0, slot, n, sum⟩ W
  obtain ⟨q, s, l, u⟩ := r
  unfold inU at hr
  by_cases c1 : 4611686018427387904 < q
  · have e : rnx ⟨q, s, l, u⟩ slot n sum = (rc0, 1) := by unfold rnx; rw [if_pos c1]
    rw [e]
    simp only [Rc.val, rc0] at *
    go_enter Try.func19, Try.ntmps19
    go_wp2
    go_returns
    exact ⟨rfl, grown_trans (World.grownBy_alloc _ _ _) (World.grownBy_alloc _ _ _)⟩
  · have hd1 : decide (4611686018427387904 < q) = false := decide_eq_false c1
    have e : rnx ⟨q, s, l, u⟩ slot n sum = if rrt ⟨0, slot, n, sum⟩ = false then (rc0, 1) else if q = 4611686018427387904 then (rc0, 2) else (⟨q + 1, slot, n, sum⟩, 0) := by unfold rnx; rw [if_neg c1]
    rw [e]
    generalize rrt ⟨0, slot, n, sum⟩ = rq at *
    simp only [Rc.val] at *
    have A0 := ((Bx.new w 24 [.int .u64 q, .int .i64 s, .int .i64 l, .int .u64 u]).kept (World.grownBy_alloc _ (.cells #[.int .u64 0, .int .i64 0, .int .i64 0, .int .u64 0] 24) none)).kept (World.grownBy_alloc _ (.cells #[.int .u64 0, .int .i64 slot, .int .i64 n, .int .u64 sum] 24) none)
    have B0 := (Bx.new (w.alloc (.cells #[.int .u64 q, .int .i64 s, .int .i64 l, .int .u64 u] 24)) 24 [.int .u64 0, .int .i64 0, .int .i64 0, .int .u64 0]).kept (World.grownBy_alloc _ (.cells #[.int .u64 0, .int .i64 slot, .int .i64 n, .int .u64 sum] 24) none)
    have C0 := Bx.new ((w.alloc (.cells #[.int .u64 q, .int .i64 s, .int .i64 l, .int .u64 u] 24)).alloc (.cells #[.int .u64 0, .int .i64 0, .int .i64 0, .int .u64 0] 24)) 24 [.int .u64 0, .int .i64 slot, .int .i64 n, .int .u64 sum]
    have G0 := grown_trans (grown_trans (World.grownBy_alloc w (.cells #[.int .u64 q, .int .i64 s, .int .i64 l, .int .u64 u] 24) none) (World.grownBy_alloc _ (.cells #[.int .u64 0, .int .i64 0, .int .i64 0, .int .u64 0] 24) none)) (World.grownBy_alloc _ (.cells #[.int .u64 0, .int .i64 slot, .int .i64 n, .int .u64 sum] 24) none)
    simp only [World.size_alloc] at B0 C0
    have H0 : Hid _ := And.intro A0 (And.intro B0 (And.intro C0 G0))
    clear A0 B0 C0 G0 e
    have hq0 : rq = false ∨ (rq = true ∧ q = 4611686018427387904) ∨ (rq = true ∧ q < 4611686018427387904) := by
      cases rq
      · exact Or.inl rfl
      · exact Or.inr ((by omega : q = 4611686018427387904 ∨ q < 4611686018427387904).elim (fun h => Or.inl ⟨rfl, h⟩) (fun h => Or.inr ⟨rfl, h⟩))
    rcases hq0 with rfl | ⟨rfl, rfl⟩ | ⟨rfl, hq⟩
    · rw [if_pos rfl]
      simp only [rc0] at *
      go_enter Try.func19, Try.ntmps19
      go_wp2_with fail
      refine (h1 _).mono ?_
      rintro e w1 ⟨rfl, g1⟩
      have H1 : Hid _ := And.intro (H0.out.2.1.kept g1) (And.intro (And.intro (H0.out.1.kept g1) (H0.out.2.2.1.kept g1)) (grown_trans H0.out.2.2.2 g1))
      clear g1 H0 h1
      obtain ⟨b0, b1, b2, b3⟩ := bx4 H1.out.1
      obtain ⟨a0, a1, a2, a3⟩ := bx4 H1.out.2.1.1
      have f0 := H1.out.1.f 0
      have f1 := H1.out.1.f 1
      have f2 := H1.out.1.f 2
      have f3 := H1.out.1.f 3
      have R4 := H1.out.1.set4 (.int .u64 0) (.int .i64 0) (.int .i64 0) (.int .u64 0)
      have HG : Hid _ := grown_new H1.out.2.2 (grown_set4 w1 (w.heap.size + 1) (.int .u64 0) (.int .i64 0) (.int .i64 0) (.int .u64 0)) (by omega)
      obtain ⟨d0, d1, d2, d3⟩ := bx4 R4
      unfold set4 at d0 d1 d2 d3
      clear R4
      simp only
      go_wp2
      refine bodyPost_ret (by simp [results, Try.results19, go_sem, d0, d1, d2, d3]; try rfl) rfl ?_
      exact ⟨rfl, HG.out⟩
    · rw [if_neg (by decide), if_pos rfl]
      simp only [rc0] at *
      go_enter Try.func19, Try.ntmps19
      go_wp2_with fail
      refine (h1 _).mono ?_
      rintro e w1 ⟨rfl, g1⟩
      have H1 : Hid _ := And.intro (H0.out.2.1.kept g1) (And.intro (And.intro (H0.out.1.kept g1) (H0.out.2.2.1.kept g1)) (grown_trans H0.out.2.2.2 g1))
      clear g1 H0 h1
      obtain ⟨b0, b1, b2, b3⟩ := bx4 H1.out.1
      obtain ⟨a0, a1, a2, a3⟩ := bx4 H1.out.2.1.1
      have f0 := H1.out.1.f 0
      have f1 := H1.out.1.f 1
      have f2 := H1.out.1.f 2
      have f3 := H1.out.1.f 3
      have R4 := H1.out.1.set4 (.int .u64 0) (.int .i64 0) (.int .i64 0) (.int .u64 0)
      have HG : Hid _ := grown_new H1.out.2.2 (grown_set4 w1 (w.heap.size + 1) (.int .u64 0) (.int .i64 0) (.int .i64 0) (.int .u64 0)) (by omega)
      obtain ⟨d0, d1, d2, d3⟩ := bx4 R4
      unfold set4 at d0 d1 d2 d3
      clear R4
      simp only
      go_wp2
      refine bodyPost_ret (by simp [results, Try.results19, go_sem, d0, d1, d2, d3]; try rfl) rfl ?_
      exact ⟨rfl, HG.out⟩
    · rw [if_neg (by decide), if_neg (by omega)]
      simp only [rc0] at *
      go_enter Try.func19, Try.ntmps19
      go_wp2_with fail
      refine (h1 _).mono ?_
      rintro e w1 ⟨rfl, g1⟩
      have H1 : Hid _ := And.intro (H0.out.2.1.kept g1) (And.intro (And.intro (H0.out.1.kept g1) (H0.out.2.2.1.kept g1)) (grown_trans H0.out.2.2.2 g1))
      clear g1 H0 h1
      obtain ⟨b0, b1, b2, b3⟩ := bx4 H1.out.1
      obtain ⟨a0, a1, a2, a3⟩ := bx4 H1.out.2.1.1
      have f0 := H1.out.1.f 0
      have f1 := H1.out.1.f 1
      have f2 := H1.out.1.f 2
      have f3 := H1.out.1.f 3
      obtain ⟨c0, c1, c2, c3⟩ := bx4 H1.out.2.1.2
      have h0 := H1.out.2.1.2.f 0
      have hwq : IntKind.u64.wrap (q + 1) = q + 1 := by rw [IntKind.wrap_u64]; omega
      have X := H1.out.2.1.2.set 0 (.int .u64 (q + 1))
      simp only [List.set_cons_zero] at X
      have gx := grown_set w1 (w.heap.size + 1 + 1) 0 (.int .u64 (q + 1))
      have Y : Bx (w1.setCell ⟨w.heap.size + 1 + 1, 0, none⟩ (.int .u64 (q + 1))) (w.heap.size + 1) 24 [.int .u64 0, .int .i64 0, .int .i64 0, .int .u64 0] := ⟨by rw [gx.block _ H1.out.1.lt (by simp)]; exact H1.out.1.blk⟩
      obtain ⟨x0, x1, x2, x3⟩ := bx4 X
      obtain ⟨y0, y1, y2, y3⟩ := bx4 Y
      have fy0 := Y.f 0
      have fy1 := Y.f 1
      have fy2 := Y.f 2
      have fy3 := Y.f 3
      have R4 := Y.set4 (.int .u64 (q + 1)) (.int .i64 slot) (.int .i64 n) (.int .u64 sum)
      have HG : Hid _ := grown_new (grown_new H1.out.2.2 gx (by omega)) (grown_set4 _ (w.heap.size + 1) (.int .u64 (q + 1)) (.int .i64 slot) (.int .i64 n) (.int .u64 sum)) (by omega)
      obtain ⟨d0, d1, d2, d3⟩ := bx4 R4
      unfold set4 at d0 d1 d2 d3
      clear R4 X Y gx
      simp only
      go_wp2
      refine bodyPost_ret (by simp [results, Try.results19, go_sem, d0, d1, d2, d3]; try rfl) rfl ?_
      exact ⟨rfl, HG.out⟩
end Go.Proofs.Ytlbilpjlfelgdaa
