/- A record; is it right? The one that follows. -/
import Derived.Test.YtpahnkodhonlgaaSB
import Derived.Test.YtpahnkodhonlgaaSC
import Derived.Handy
namespace Go.Proofs.Ytpahnkodhonlgaa
open Go.RowKit
set_option maxRecDepth 100000
set_option linter.unusedSimpArgs false
set_option linter.unusedVariables false

structure Rc where
  q : Int
  s : Int
  l : Int
  u : Int
def Rc.cells (r : Rc) : List Value := [.int .u64 r.q, .int .i64 r.s, .int .i64 r.l, .int .u64 r.u]
def Rc.val (r : Rc) : Value := .agg #[.int .u64 r.q, .int .i64 r.s, .int .i64 r.l, .int .u64 r.u]
def in64 (x : Int) : Prop := -9223372036854775808 ≤ x ∧ x ≤ 9223372036854775807
def inU (x : Int) : Prop := 0 ≤ x ∧ x < 18446744073709551616
def Rc.ok (r : Rc) : Prop := inU r.q ∧ in64 r.s ∧ in64 r.l ∧ inU r.u
def rc0 : Rc := ⟨0, 0, 0, 0⟩
/-- is a record right? -/
def rrt (r : Rc) : Bool := decide (r.q ≤ 4611686018427387904) && decide (0 ≤ r.s) && decide (r.s ≤ 1) && decide (1 ≤ r.l) && decide (r.l ≤ 8388608)
theorem rrt_iff {r : Rc} : rrt r = true ↔ r.q ≤ 4611686018427387904 ∧ (r.s = 0 ∨ r.s = 1) ∧ 1 ≤ r.l ∧ r.l ≤ 8388608 := by
  unfold rrt
  simp only [Bool.and_eq_true, decide_eq_true_eq]
  omega
/-- Next, as a plain function -/
def rnx (r : Rc) (slot n sum : Int) : Rc × Int :=
  if 4611686018427387904 < r.q then (rc0, 1) else if rrt ⟨0, slot, n, sum⟩ = false then (rc0, 1) else if r.q = 4611686018427387904 then (rc0, 2) else (⟨r.q + 1, slot, n, sum⟩, 0)
/-- a variable of several cells -/
structure Bx (W : World) (g : Nat) (T : TypeId) (cs : List Value) : Prop where
  blk : W.heap[g]? = some (.cells cs.toArray T (0, 0))
theorem Bx.lt {W : World} {g : Nat} {T : TypeId} {cs : List Value} (h : Bx W g T cs) : g < W.heap.size := (Array.getElem?_eq_some_iff.1 h.blk).1
theorem Bx.c {W : World} {g : Nat} {T : TypeId} {cs : List Value} (h : Bx W g T cs) (i : Nat) : W.cell? ⟨g, i, none⟩ = cs[i]? := by simp [World.cell?, h.blk]
theorem Bx.f {W : World} {g : Nat} {T : TypeId} {cs : List Value} (h : Bx W g T cs) (i : Nat) : W.frozen? ⟨g, i, none⟩ = false := by simp [World.frozen?, h.blk]
theorem Bx.kept {W W' : World} {g : Nat} {T : TypeId} {cs : List Value} (h : Bx W g T cs) (hg : W.grownBy W' none) : Bx W' g T cs := ⟨by rw [hg.block g h.lt (by simp)]; exact h.blk⟩
theorem Bx.new (w : World) (T : TypeId) (cs : List Value) : Bx (w.alloc (.cells cs.toArray T)) w.heap.size T cs := ⟨heap_alloc_new _ _⟩
theorem Bx.set {W : World} {g : Nat} {T : TypeId} {cs : List Value} (h : Bx W g T cs) (i : Nat) (v : Value) : Bx (W.setCell ⟨g, i, none⟩ v) g T (cs.set i v) := by
  constructor
  rw [setCell_eq_setRow W g i _ _ _ _ h.blk, setRow_heap W g _ _ _ _ h.blk]
  simp
/-- a record stored whole -/
def set4 (W : World) (g : Nat) (a b c d : Value) : World := (((W.setCell ⟨g, 0, none⟩ a).setCell ⟨g, 1, none⟩ b).setCell ⟨g, 2, none⟩ c).setCell ⟨g, 3, none⟩ d
theorem Bx.set4 {W : World} {g : Nat} {T : TypeId} {x y z t : Value} (h : Bx W g T [x, y, z, t]) (a b c d : Value) : Bx (set4 W g a b c d) g T [a, b, c, d] := (((h.set 0 a).set 1 b).set 2 c).set 3 d
theorem grown_set4 (W : World) (g : Nat) (a b c d : Value) : W.grownBy (set4 W g a b c d) (some g) := grown_trans (grown_trans (grown_trans (grown_set _ _ _ _) (grown_set _ _ _ _)) (grown_set _ _ _ _)) (grown_set _ _ _ _)
theorem bx4 {W : World} {g : Nat} {T : TypeId} {a b c d : Value} (h : Bx W g T [a, b, c, d]) : W.cell? ⟨g, 0, none⟩ = some a ∧ W.cell? ⟨g, 1, none⟩ = some b ∧ W.cell? ⟨g, 2, none⟩ = some c ∧ W.cell? ⟨g, 3, none⟩ = some d := ⟨h.c 0, h.c 1, h.c 2, h.c 3⟩
end Go.Proofs.Ytpahnkodhonlgaa
