/- Two records held against each other. -/
import Derived.Test.YtlbilpjlfelgdaaDA
import Derived.DeepKeys
import Derived.Laws.StructEq
namespace Go.Proofs.Ytlbilpjlfelgdaa
open Go.RowKit
set_option linter.unusedSimpArgs false
set_option linter.unusedVariables false

/-- are two records the same? -/
def Rc.same (P Q : Rc) : Bool := decide (P.q = Q.q ∧ P.s = Q.s ∧ P.l = Q.l ∧ P.u = Q.u)
theorem Rc.same_iff {P Q : Rc} : P.same Q = true ↔ P = Q := by
  unfold Rc.same
  rw [decide_eq_true_iff]
  constructor
  · rintro ⟨h1, h2, h3, h4⟩
    cases P; cases Q
    simp only at h1 h2 h3 h4
    subst h1 h2 h3 h4
    rfl
  · rintro rfl; simp
theorem Rc.same_self (P : Rc) : P.same P = true := Rc.same_iff.2 rfl
theorem wfI {x : Int} (h : in64 x) : (Lit.int .i64 x).wf = true := by
  unfold in64 at h
  simp [Lit.wf, IntKind.min, IntKind.max, IntKind.signed, IntKind.bits]
  omega
theorem wfU {x : Int} (h : inU x) : (Lit.int .u64 x).wf = true := by
  unfold inU at h
  simp [Lit.wf, IntKind.min, IntKind.max, IntKind.signed, IntKind.bits]
  omega
theorem kl_i (d : Nat) {x : Int} (h : in64 x) : Try.prog.keyLits (d + 1) 3 [.int .i64 x] = some [.int .i64 x] := by
  simp [Program.keyLits, Try.underlying3, wfI h]
theorem kl_u (d : Nat) {x : Int} (h : inU x) : Try.prog.keyLits (d + 1) 22 [.int .u64 x] = some [.int .u64 x] := by
  simp [Program.keyLits, Try.underlying22, wfU h]
theorem Try.cz3 : Try.prog.cellsOf 3 = 1 := by kernel_rfl
theorem Try.czU : Try.prog.cellsOf 22 = 1 := by kernel_rfl
theorem Try.czR : Try.prog.cellsOf 24 = 4 := by kernel_rfl
theorem kl_rec {P : Rc} (h : P.ok) : Try.prog.keyLits 8 24 P.val.cells.toList = some [.int .u64 P.q, .int .i64 P.s, .int .i64 P.l, .int .u64 P.u] := by
  obtain ⟨h1, h2, h3, h4⟩ := h
  rw [show P.val.cells.toList = P.cells from rfl]
  unfold Program.keyLits
  simp [Try.underlying24, Rc.cells, Try.cz3, Try.czU, Try.czR, kl_u 6 h1, kl_i 6 h2, kl_i 6 h3, kl_u 6 h4]
set_option maxRecDepth 100000 in
theorem rec_eq (P Q : Rc) (w : World) (hP : P.ok) (hQ : Q.ok) : (Op.equalIn 10000 24 P.val Q.val).run Try.prog w = .ok (P.same Q) w := by
  obtain ⟨r, h1, h2⟩ := run_equalIn_deep (P := Try.prog) 9990 10 24 (by kernel_rfl) w 8 8 P.val Q.val _ _ (by rfl) (by rfl) (kl_rec hP) (kl_rec hQ)
  rw [show (9990 + 10) = 10000 from rfl] at h1
  rw [h1]
  congr 1
  by_cases h : P = Q
  · rw [Rc.same_iff.2 h]
    exact h2.2 (by rw [h])
  · rw [show P.same Q = false by cases k : P.same Q with | false => rfl | true => exact absurd (Rc.same_iff.1 k) h]
    cases r with
    | false => rfl
    | true =>
      exfalso
      have := h2.1 rfl
      obtain ⟨q, s, l, u⟩ := P
      obtain ⟨q', s', l', u'⟩ := Q
      simp at this
      obtain ⟨rfl, rfl, rfl, rfl⟩ := this
      exact h rfl
theorem rec_ne (P Q : Rc) (w : World) (hP : P.ok) (hQ : Q.ok) : (binOp .neq 24 P.val Q.val).run Try.prog w = .ok (.bool (!P.same Q)) w := by
  have := rec_eq P Q w hP hQ
  unfold Rc.val at *
  rw [run_neq_struct, this]; rfl
theorem rec_eql (P Q : Rc) (w : World) (hP : P.ok) (hQ : Q.ok) : (binOp .eql 24 P.val Q.val).run Try.prog w = .ok (.bool (P.same Q)) w := by
  have := rec_eq P Q w hP hQ
  unfold Rc.val at *
  rw [run_eql_struct, this]; rfl
end Go.Proofs.Ytlbilpjlfelgdaa
