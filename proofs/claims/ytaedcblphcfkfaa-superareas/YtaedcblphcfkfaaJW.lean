/- Variables of several cells, loaded and stored whole. -/
import Derived.Test.YtaedcblphcfkfaaDB
import Derived.Deep.WholeRow
namespace Go.Proofs.Ytaedcblphcfkfaa
open Go.RowKit
set_option linter.unusedSimpArgs false
set_option linter.unusedVariables false

theorem grown_setRow (w : World) (g : Nat) (cs : Array Value) : w.grownBy (w.setRow g cs) (some g) := ⟨rfl, rfl, rfl, by simp, fun k hk hne => setRow_other w g k _ (fun e => hne (by rw [e]))⟩
theorem wpList_loadB {P : Program} {ops : Array Oper} {rest : List Oper} {o : Oper} {a : Act} {w : World} {Q : Exit → Act → World → Prop} (hgd : o.guard = none) (ty : TypeId) (x : Operand) (ho : o.op = .load ty x)
    (g : Nat) (hx : a.eval x = .pointer (some ⟨g, 0, none⟩)) {T : TypeId} {cs : List Value} (hb : Bx w g T cs) {d : TypeDesc} (hu : P.underlying ty = some d) (hd : (match d with | .struct _ | .array _ _ => true | _ => false) = true) (hi : (P.info? ty).map (·.size) = some cs.toArray.size)
    (h : wpList P ops Q rest (a.put o.dst (.agg cs.toArray)) w) : wpList P ops Q (o :: rest) a w :=
  wpList_load_row hgd ty x ho g hx T cs.toArray (0, 0) d hb.blk hu hd hi h
theorem wpList_storeB {P : Program} {ops : Array Oper} {rest : List Oper} {o : Oper} {a : Act} {w : World} {Q : Exit → Act → World → Prop} (hgd : o.guard = none) (ty : TypeId) (x y : Operand) (ho : o.op = .store ty x y)
    (g : Nat) (cs : List Value) (hx : a.eval x = .pointer (some ⟨g, 0, none⟩)) (hy : a.eval y = .agg cs.toArray) {T : TypeId} {old : List Value} (hb : Bx w g T old) (hi : (P.info? ty).map (·.size) = some cs.toArray.size)
    (hl : old.length = cs.length) (h1 : cs.all (·.oneCell') = true)
    (h : ∀ W', Bx W' g T cs → w.grownBy W' (some g) → wpList P ops Q rest (a.put o.dst undef) W') : wpList P ops Q (o :: rest) a w :=
  wpList_store_row hgd ty x y ho g cs.toArray hx hy T old.toArray hb.blk hi (by simp [hl]) (by rw [List.all_toArray]; exact h1) (h _ ⟨setRow_heap _ _ _ _ _ _ hb.blk⟩ (grown_setRow w g cs.toArray))
/-- guards: the next operation is a load, a store of a whole head, of bounds -/
theorem loadS_here {P : Program} {w : World} {ops : Array Oper} {rest : List Oper} {a : Act} {Q : Exit → Act → World → Prop} {dst : Option Nat} {x : Operand} {type : TypeId} {pos : String} {after : Array Edge} {guard : Option (Nat × Bool)}
    (h : wpList P ops Q (⟨dst, .load 26 x, type, pos, after, guard⟩ :: rest) a w) : wpList P ops Q (⟨dst, .load 26 x, type, pos, after, guard⟩ :: rest) a w := h
theorem storeS_here {P : Program} {w : World} {ops : Array Oper} {rest : List Oper} {a : Act} {Q : Exit → Act → World → Prop} {dst : Option Nat} {x y : Operand} {type : TypeId} {pos : String} {after : Array Edge} {guard : Option (Nat × Bool)}
    (h : wpList P ops Q (⟨dst, .store 26 x y, type, pos, after, guard⟩ :: rest) a w) : wpList P ops Q (⟨dst, .store 26 x y, type, pos, after, guard⟩ :: rest) a w := h
theorem load7_here {P : Program} {w : World} {ops : Array Oper} {rest : List Oper} {a : Act} {Q : Exit → Act → World → Prop} {dst : Option Nat} {x : Operand} {type : TypeId} {pos : String} {after : Array Edge} {guard : Option (Nat × Bool)}
    (h : wpList P ops Q (⟨dst, .load 58 x, type, pos, after, guard⟩ :: rest) a w) : wpList P ops Q (⟨dst, .load 58 x, type, pos, after, guard⟩ :: rest) a w := h
theorem store7_here {P : Program} {w : World} {ops : Array Oper} {rest : List Oper} {a : Act} {Q : Exit → Act → World → Prop} {dst : Option Nat} {x y : Operand} {type : TypeId} {pos : String} {after : Array Edge} {guard : Option (Nat × Bool)}
    (h : wpList P ops Q (⟨dst, .store 58 x y, type, pos, after, guard⟩ :: rest) a w) : wpList P ops Q (⟨dst, .store 58 x y, type, pos, after, guard⟩ :: rest) a w := h
theorem info7 : (Try.prog.info? 58).map (·.size) = some 7 := by kernel_rfl
theorem infoS : (Try.prog.info? 26).map (·.size) = some 15 := by kernel_rfl
theorem ix7_here {P : Program} {w : World} {ops : Array Oper} {rest : List Oper} {a : Act} {Q : Exit → Act → World → Prop} {dst : Option Nat} {x y : Operand} {type : TypeId} {pos : String} {after : Array Edge} {guard : Option (Nat × Bool)}
    (h : wpList P ops Q (⟨dst, .index 58 x y, type, pos, after, guard⟩ :: rest) a w) : wpList P ops Q (⟨dst, .index 58 x y, type, pos, after, guard⟩ :: rest) a w := h
theorem ix6_here {P : Program} {w : World} {ops : Array Oper} {rest : List Oper} {a : Act} {Q : Exit → Act → World → Prop} {dst : Option Nat} {x y : Operand} {type : TypeId} {pos : String} {after : Array Edge} {guard : Option (Nat × Bool)}
    (h : wpList P ops Q (⟨dst, .index 24 x y, type, pos, after, guard⟩ :: rest) a w) : wpList P ops Q (⟨dst, .index 24 x y, type, pos, after, guard⟩ :: rest) a w := h
theorem wpList_index {P : Program} {w : World} {ops : Array Oper} {rest : List Oper} {o : Oper} {a : Act} {Q : Exit → Act → World → Prop} (hg : o.guard = none) (t : TypeId) (x y : Operand) (ho : o.op = .index t x y)
    (u v r : Value) (hx : a.eval x = u) (hy : a.eval y = v) (hr : (Instr.index t u v).run P w = .ok r w)
    (hk : wpList P ops Q rest (a.put o.dst r) w) : wpList P ops Q (o :: rest) a w := by
  refine wpList_plain hg fun K' hK' => ?_
  unfold Oper.wp
  simp only [execOp, ho, hx, hy, Sem.run_bind, hr, Result.andThen]
  exact hK' _ _ hk
theorem run_ix7_0 (b0 b1 b2 b3 b4 b5 b6 : Int) (w : World) : (Instr.index 58 (.agg #[.int .i64 b0, .int .i64 b1, .int .i64 b2, .int .i64 b3, .int .i64 b4, .int .i64 b5, .int .i64 b6]) (.int .i64 0)).run Try.prog w = .ok (.int .i64 b0) w := by simp [Instr.index, go_sem]; try rfl
theorem run_ix7_1 (b0 b1 b2 b3 b4 b5 b6 : Int) (w : World) : (Instr.index 58 (.agg #[.int .i64 b0, .int .i64 b1, .int .i64 b2, .int .i64 b3, .int .i64 b4, .int .i64 b5, .int .i64 b6]) (.int .i64 1)).run Try.prog w = .ok (.int .i64 b1) w := by simp [Instr.index, go_sem]; try rfl
theorem run_ix7_2 (b0 b1 b2 b3 b4 b5 b6 : Int) (w : World) : (Instr.index 58 (.agg #[.int .i64 b0, .int .i64 b1, .int .i64 b2, .int .i64 b3, .int .i64 b4, .int .i64 b5, .int .i64 b6]) (.int .i64 2)).run Try.prog w = .ok (.int .i64 b2) w := by simp [Instr.index, go_sem]; try rfl
theorem run_ix7_3 (b0 b1 b2 b3 b4 b5 b6 : Int) (w : World) : (Instr.index 58 (.agg #[.int .i64 b0, .int .i64 b1, .int .i64 b2, .int .i64 b3, .int .i64 b4, .int .i64 b5, .int .i64 b6]) (.int .i64 3)).run Try.prog w = .ok (.int .i64 b3) w := by simp [Instr.index, go_sem]; try rfl
theorem run_ix7_4 (b0 b1 b2 b3 b4 b5 b6 : Int) (w : World) : (Instr.index 58 (.agg #[.int .i64 b0, .int .i64 b1, .int .i64 b2, .int .i64 b3, .int .i64 b4, .int .i64 b5, .int .i64 b6]) (.int .i64 4)).run Try.prog w = .ok (.int .i64 b4) w := by simp [Instr.index, go_sem]; try rfl
theorem run_ix7_5 (b0 b1 b2 b3 b4 b5 b6 : Int) (w : World) : (Instr.index 58 (.agg #[.int .i64 b0, .int .i64 b1, .int .i64 b2, .int .i64 b3, .int .i64 b4, .int .i64 b5, .int .i64 b6]) (.int .i64 5)).run Try.prog w = .ok (.int .i64 b5) w := by simp [Instr.index, go_sem]; try rfl
theorem run_ix7_6 (b0 b1 b2 b3 b4 b5 b6 : Int) (w : World) : (Instr.index 58 (.agg #[.int .i64 b0, .int .i64 b1, .int .i64 b2, .int .i64 b3, .int .i64 b4, .int .i64 b5, .int .i64 b6]) (.int .i64 6)).run Try.prog w = .ok (.int .i64 b6) w := by simp [Instr.index, go_sem]; try rfl
theorem run_ix6_0 (a0 z0 a1 z1 a2 z2 a3 z3 a4 z4 a5 z5 : Int) (w : World) : (Instr.index 24 (.agg #[.int .i64 a0, .int .i64 z0, .int .i64 a1, .int .i64 z1, .int .i64 a2, .int .i64 z2, .int .i64 a3, .int .i64 z3, .int .i64 a4, .int .i64 z4, .int .i64 a5, .int .i64 z5]) (.int .i64 0)).run Try.prog w = .ok (.agg #[.int .i64 a0, .int .i64 z0]) w := by simp [Instr.index, go_sem]; try rfl
theorem run_ix6_1 (a0 z0 a1 z1 a2 z2 a3 z3 a4 z4 a5 z5 : Int) (w : World) : (Instr.index 24 (.agg #[.int .i64 a0, .int .i64 z0, .int .i64 a1, .int .i64 z1, .int .i64 a2, .int .i64 z2, .int .i64 a3, .int .i64 z3, .int .i64 a4, .int .i64 z4, .int .i64 a5, .int .i64 z5]) (.int .i64 1)).run Try.prog w = .ok (.agg #[.int .i64 a1, .int .i64 z1]) w := by simp [Instr.index, go_sem]; try rfl
theorem run_ix6_2 (a0 z0 a1 z1 a2 z2 a3 z3 a4 z4 a5 z5 : Int) (w : World) : (Instr.index 24 (.agg #[.int .i64 a0, .int .i64 z0, .int .i64 a1, .int .i64 z1, .int .i64 a2, .int .i64 z2, .int .i64 a3, .int .i64 z3, .int .i64 a4, .int .i64 z4, .int .i64 a5, .int .i64 z5]) (.int .i64 2)).run Try.prog w = .ok (.agg #[.int .i64 a2, .int .i64 z2]) w := by simp [Instr.index, go_sem]; try rfl
theorem run_ix6_3 (a0 z0 a1 z1 a2 z2 a3 z3 a4 z4 a5 z5 : Int) (w : World) : (Instr.index 24 (.agg #[.int .i64 a0, .int .i64 z0, .int .i64 a1, .int .i64 z1, .int .i64 a2, .int .i64 z2, .int .i64 a3, .int .i64 z3, .int .i64 a4, .int .i64 z4, .int .i64 a5, .int .i64 z5]) (.int .i64 3)).run Try.prog w = .ok (.agg #[.int .i64 a3, .int .i64 z3]) w := by simp [Instr.index, go_sem]; try rfl
theorem run_ix6_4 (a0 z0 a1 z1 a2 z2 a3 z3 a4 z4 a5 z5 : Int) (w : World) : (Instr.index 24 (.agg #[.int .i64 a0, .int .i64 z0, .int .i64 a1, .int .i64 z1, .int .i64 a2, .int .i64 z2, .int .i64 a3, .int .i64 z3, .int .i64 a4, .int .i64 z4, .int .i64 a5, .int .i64 z5]) (.int .i64 4)).run Try.prog w = .ok (.agg #[.int .i64 a4, .int .i64 z4]) w := by simp [Instr.index, go_sem]; try rfl
theorem run_ix6_5 (a0 z0 a1 z1 a2 z2 a3 z3 a4 z4 a5 z5 : Int) (w : World) : (Instr.index 24 (.agg #[.int .i64 a0, .int .i64 z0, .int .i64 a1, .int .i64 z1, .int .i64 a2, .int .i64 z2, .int .i64 a3, .int .i64 z3, .int .i64 a4, .int .i64 z4, .int .i64 a5, .int .i64 z5]) (.int .i64 5)).run Try.prog w = .ok (.agg #[.int .i64 a5, .int .i64 z5]) w := by simp [Instr.index, go_sem]; try rfl
end Go.Proofs.Ytaedcblphcfkfaa
