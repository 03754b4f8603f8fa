/- For every call's data: the law FlashNils of the program answers true (a nil flash tells zeros, ErrNil, false; the page's example holds), and its argument reads behind the call as before it. No condition. -/
import Derived.Test.YtdefcfmnhfeblaaRows
import Derived.WalkKit
import Derived.ProofKit
import Derived.OpenShut
import Derived.ShutString
import Derived.ChangeOld
import Derived.Below
import Derived.Lib.SmallJoins
import Derived.Test.YtdefcfmnhfeblaaAC
import Derived.Test.YtdefcfmnhfeblaaLC
namespace Go.Proofs.Ytdefcfmnhfeblaa.flashNils
open Go.ChangeShapes Go.WideShapes Go.ChangeAt Go.RowKit Go.Joins
set_option linter.unusedVariables false

theorem own : ownKnob Try.prog.godebug = none := by kernel_rfl
theorem laidOut : laidOutB Try.prog = true := by kernel_rfl
theorem cellsGe : Try.prog.cellsOf 23 = 3 := by kernel_rfl

set_option maxRecDepth 100000 in
theorem lifted (os : Os) (started : os.Started) (H : Type) (enc : TypeId × Value → H) :
    ReturnsInHanded {} Try.checked os 7 .any (Rows.flashNilsSpec.pre6 enc Try.prog Try.f7 Rows.flashNilsRow.domain false) (Rows.flashNilsSpec.post enc Try.prog Try.f7 false true false false) := by
  refine returnsInHanded_of_change (C := Try.checked) own started (by kernel_rfl) Try.func7
    (ChangeSpec.witness6 (enc := enc) (C := Try.checked) false ⟨#[], #[.agg #[.int .i64 0, .int .i64 0, .int .i64 0, .slice none 0 0]], []⟩ 8 (by kernel_rfl) (by kernel_rfl) (by kernel_rfl) (by kernel_rfl)) ?_
  intro W base args ds gs before hval0 hW hcnd _
  have hval : ∀ (j : Nat) t v, Try.f7.params[j]? = some t → args[j]? = some v → Value.okWide Try.prog W .any base t v := hval0
  have hW' := hW
  obtain ⟨p, q, hA0, hV, rfl, hfz, hnd⟩ := hW
  have hA : DataW.TrodAll enc Try.prog W 0 (fun _ => true) true Try.f7.params.toList args.toList ds p := hA0
  rw [Try.params7] at hA hval
  obtain ⟨v0, vs0, d0, ds0, p0, q0, hargs, rfl, rfl, h0, r0⟩ := trodAll_cons hA
  obtain ⟨rfl, rfl, rfl⟩ := trodAll_nil r0
  obtain rfl : args = #[v0] := by cases args; simp_all
  obtain ⟨rfl, rfl⟩ := trodVars_none hV
  have k0 := h0
  have lt0 : ∀ x ∈ p0, x.block < W.heap.size := by obtain ⟨m, hm⟩ := k0; exact DataW.trod_lt m _ _ _ hm
  obtain ⟨A0, rfl, w0⟩ : ∃ A : Ac, v0 = A.val ∧ A.ok W := by
    obtain ⟨c0, c1, c2, c3, y0, y1, y2, y3, m, rfl, hd, hp, hy0, hy1, hy2, hy3⟩ := open_agg4 Try.underlying45 (by kernel_rfl) Try.cellsAct (hval 0 45 v0 rfl rfl) h0
    obtain ⟨x0, e0, _, wx0⟩ := DataW.trod_int Try.underlying3 hy0
    obtain ⟨x1, e1, _, wx1⟩ := DataW.trod_int Try.underlying3 hy1
    obtain ⟨x2, e2, _, wx2⟩ := DataW.trod_int Try.underlying3 hy2
    obtain ⟨a, len, cap, zs, e3, hr⟩ := row_of_trod hy3
    simp at e0 e1 e2
    subst e0 e1 e2 e3
    exact ⟨⟨x0, x1, x2, a, len, cap, zs.take len⟩, rfl, ok_of hr wx0 wx1 wx2⟩
  clear hA0 hval0
  refine (flashNils_walk A0 W w0).mono fun e W' ⟨he, bel⟩ => ?_
  subst he
  exact ⟨_, rfl, _, _, _, [], _, [], hW', trodAll_mk1 (shut_bool Try.underlying4 _), (trodAll_cons_mk (Below.trod laidOut (by kernel_rfl) (of_decide_eq_true (by kernel_rfl)) k0 bel lt0) trodAll_mk0), rfl, bel.frame _, fun h => by cases h⟩

theorem over : Rows.flashNilsRow.holds Try.pinned (OpenSpec.ofChange Rows.flashNilsSpec) :=
  OpenClaim.holds_of_wide 7 Try.f7 rfl rfl rfl rfl rfl rfl rfl ⟨rfl, rfl, rfl, rfl, rfl⟩ rfl rfl rfl rfl rfl (by kernel_rfl) Try.func7 (by kernel_rfl)
    (of_decide_eq_true (by kernel_rfl)) (by unfold Func.isWrapper; first | (rw [if_pos (by decide +kernel)]; kernel_rfl) | (rw [if_neg (by decide +kernel)]; exact ⟨rfl, rfl⟩))
    (fun os started H enc _ => lifted os started H enc)

end Go.Proofs.Ytdefcfmnhfeblaa.flashNils
namespace Go.Proofs.Ytdefcfmnhfeblaa
theorem flashNils_holds : Rows.FlashNilsSaid := flashNils.over
#print axioms flashNils_holds
end Go.Proofs.Ytdefcfmnhfeblaa
