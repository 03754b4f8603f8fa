/- Two plans held against each other. -/
import Derived.Test.YtckjlkdjlpfdmaaVC
import Derived.DeepKeys
import Derived.Laws.StructEq
namespace Go.Proofs.Ytckjlkdjlpfdmaa
open Go.RowKit
set_option linter.unusedSimpArgs false
set_option linter.unusedVariables false
theorem wf64 {x : Int} (h : bnd64 x) : (Lit.int .i64 x).wf = true := by
  unfold bnd64 at h
  simp [Lit.wf, IntKind.min, IntKind.max, IntKind.signed, IntKind.bits]
  omega
theorem kl_int (d : Nat) {x : Int} (h : bnd64 x) : Try.prog.keyLits (d + 1) 3 [.int .i64 x] = some [.int .i64 x] := by
  simp [Program.keyLits, Try.underlying3, wf64 h]
theorem Try.cz3 : Try.prog.cellsOf 3 = 1 := by kernel_rfl
theorem Try.cz2 : Try.prog.cellsOf 24 = 2 := by kernel_rfl
theorem Try.czG : Try.prog.cellsOf 23 = 3 := by kernel_rfl
theorem Try.czP : Try.prog.cellsOf 26 = 8 := by kernel_rfl
theorem kl_two (d : Nat) {x y : Int} (h : bnd64 x) (k : bnd64 y) : Try.prog.keyLits (d + 2) 24 [.int .i64 x, .int .i64 y] = some [.int .i64 x, .int .i64 y] := by
  unfold Program.keyLits
  simp [Try.underlying24, Try.cz3, Try.cz2, List.range, List.range.loop, kl_int d h, kl_int d k]
theorem kl_geo (d : Nat) {x y z : Int} (h : bnd64 x) (k : bnd64 y) (l : bnd64 z) : Try.prog.keyLits (d + 2) 23 [.int .i64 x, .int .i64 y, .int .i64 z] = some [.int .i64 x, .int .i64 y, .int .i64 z] := by
  unfold Program.keyLits
  simp [Try.underlying23, Try.cz3, Try.czG, kl_int d h, kl_int d k, kl_int d l]
theorem kl_plan {P : Pl} (h : P.ok) : Try.prog.keyLits 8 26 P.val.cells.toList = some [.int .i64 P.s, .int .i64 P.p, .int .i64 P.b, .int .i64 P.x0, .int .i64 P.x1, .int .i64 P.y0, .int .i64 P.y1, .int .i64 P.n] := by
  obtain ⟨h1, h2, h3, h4, h5, h6, h7, h8⟩ := h
  rw [show P.val.cells.toList = P.cells from rfl]
  unfold Program.keyLits
  simp [Try.underlying26, Pl.cells, Try.cz3, Try.cz2, Try.czG, Try.czP, kl_geo 5 h1 h2 h3, kl_two 5 h4 h5, kl_two 5 h6 h7, kl_int 6 h8]
theorem plan_eq (P Q : Pl) (w : World) (hP : P.ok) (hQ : Q.ok) : (Op.equalIn 10000 26 P.val Q.val).run Try.prog w = .ok (P.same Q) w := by
  obtain ⟨r, h1, h2⟩ := run_equalIn_deep (P := Try.prog) 9990 10 26 (by kernel_rfl) w 8 8 P.val Q.val _ _ (by rfl) (by rfl) (kl_plan hP) (kl_plan hQ)
  rw [show (9990 + 10) = 10000 from rfl] at h1
  rw [h1]
  congr 1
  by_cases h : P = Q
  · rw [Pl.same_iff.2 h]
    exact h2.2 (by rw [h])
  · rw [show P.same Q = false by cases k : P.same Q with | false => rfl | true => exact absurd (Pl.same_iff.1 k) h]
    cases r with
    | false => rfl
    | true =>
      exfalso
      have := h2.1 rfl
      obtain ⟨s, p, b, x0, x1, y0, y1, n⟩ := P
      obtain ⟨s', p', b', x0', x1', y0', y1', n'⟩ := Q
      simp at this
      obtain ⟨rfl, rfl, rfl, rfl, rfl, rfl, rfl, rfl⟩ := this
      exact h rfl
theorem plan_ne (P Q : Pl) (w : World) (hP : P.ok) (hQ : Q.ok) : (binOp .neq 26 P.val Q.val).run Try.prog w = .ok (.bool (!P.same Q)) w := by
  have := plan_eq P Q w hP hQ
  unfold Pl.val at *
  rw [run_neq_struct, this]; rfl
end Go.Proofs.Ytckjlkdjlpfdmaa
