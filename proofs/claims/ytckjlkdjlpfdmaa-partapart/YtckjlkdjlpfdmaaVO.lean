/- A plan, a geometry that came in. -/
import Derived.Test.YtckjlkdjlpfdmaaVD
import Derived.OpenShut
import Derived.ChangeSame
import Derived.Lib.SmallJoins
namespace Go.Proofs.Ytckjlkdjlpfdmaa
open Go.RowKit Go.ChangeShapes Go.WideShapes Go.ChangeAt Go.Joins
set_option linter.unusedSimpArgs false
set_option linter.unusedVariables false

theorem bnd_wf {x : Int} (h : (Lit.int .i64 x).wf = true) : bnd64 x := wf_i64 h
theorem trod_two {H : Type} {enc : TypeId × Value → H} {w : World} {base : Nat} {spare : Nat → Bool} {held : Bool} {fuel : Nat} {cs : List Value} {x : DataW H × List MemPlace} (h : DataW.trod enc Try.prog w base spare held fuel 24 cs = some x) :
    ∃ a b, cs = [.int .i64 a, .int .i64 b] ∧ bnd64 a ∧ bnd64 b := by
  obtain ⟨xs, m, _, _, hl, hn, hi⟩ := DataW.trod_array Try.underlying24 h
  rw [Try.cz2] at hl
  match cs, hl with
  | [c, d], _ =>
    have h0 := hi 0 (by decide)
    have h1 := hi 1 (by decide)
    rw [Try.cz3] at h0 h1
    obtain ⟨y0, e0⟩ : ∃ y, xs[0]? = some y := ⟨_, List.getElem?_eq_getElem (by omega)⟩
    obtain ⟨y1, e1⟩ : ∃ y, xs[1]? = some y := ⟨_, List.getElem?_eq_getElem (by omega)⟩
    rw [e0] at h0
    rw [e1] at h1
    simp at h0 h1
    obtain ⟨a, ea, _, wa⟩ := DataW.trod_int Try.underlying3 h0
    obtain ⟨b, eb, _, wb⟩ := DataW.trod_int Try.underlying3 h1
    simp at ea eb
    subst ea eb
    exact ⟨a, b, rfl, bnd_wf wa, bnd_wf wb⟩
theorem trod_geo {H : Type} {enc : TypeId × Value → H} {w : World} {base : Nat} {spare : Nat → Bool} {held : Bool} {fuel : Nat} {cs : List Value} {x : DataW H × List MemPlace} (h : DataW.trod enc Try.prog w base spare held fuel 23 cs = some x) :
    ∃ s p b, cs = [.int .i64 s, .int .i64 p, .int .i64 b] ∧ bnd64 s ∧ bnd64 p ∧ bnd64 b := by
  obtain ⟨y0, y1, y2, n, _, hl, h0, h1, h2⟩ := Deep.trod_struct3 Try.underlying23 h
  rw [Try.czG] at hl
  match cs, hl with
  | [c, d, e], _ =>
    simp [Try.cz3] at h0 h1 h2
    obtain ⟨a, ea, _, wa⟩ := DataW.trod_int Try.underlying3 h0
    obtain ⟨b, eb, _, wb⟩ := DataW.trod_int Try.underlying3 h1
    obtain ⟨g, eg, _, wg⟩ := DataW.trod_int Try.underlying3 h2
    simp at ea eb eg
    subst ea eb eg
    exact ⟨a, b, g, rfl, bnd_wf wa, bnd_wf wb, bnd_wf wg⟩
theorem trod_plan {H : Type} {enc : TypeId × Value → H} {w : World} {base : Nat} {spare : Nat → Bool} {held : Bool} {fuel : Nat} {cs : List Value} {x : DataW H × List MemPlace} (h : DataW.trod enc Try.prog w base spare held fuel 26 cs = some x) :
    ∃ P : Pl, cs = P.cells ∧ P.ok := by
  obtain ⟨y0, y1, y2, y3, n, _, hl, h0, h1, h2, h3⟩ := trod_struct4 Try.underlying26 h
  rw [Try.czP] at hl
  match cs, hl with
  | [c0, c1, c2, c3, c4, c5, c6, c7], _ =>
    simp [Try.cz3, Try.cz2, Try.czG] at h0 h1 h2 h3
    obtain ⟨s, p, b, e0, k0, k1, k2⟩ := trod_geo h0
    obtain ⟨x0, x1, e1, k3, k4⟩ := trod_two h1
    obtain ⟨z0, z1, e2, k5, k6⟩ := trod_two h2
    obtain ⟨n, e3, _, k7⟩ := DataW.trod_int Try.underlying3 h3
    simp at e0 e1 e2 e3
    obtain ⟨rfl, rfl, rfl⟩ := e0
    obtain ⟨rfl, rfl⟩ := e1
    obtain ⟨rfl, rfl⟩ := e2
    subst e3
    exact ⟨⟨s, p, b, x0, x1, z0, z1, n⟩, rfl, k0, k1, k2, k3, k4, k5, k6, bnd_wf k7⟩
theorem open_plan {H : Type} {enc : TypeId × Value → H} {w : World} {base : Nat} {spare : Nat → Bool} {held : Bool} {r : Reach} {b0 : Nat} {v : Value} {d : DataW H} {ps : List MemPlace} (hv : Value.okWide Try.prog w r b0 26 v) (h : DataW.Trod enc Try.prog w base spare held 26 v d ps) :
    ∃ P : Pl, v = P.val ∧ P.ok := by
  obtain ⟨cs, rfl, hsz⟩ := okWide_struct Try.underlying26 hv
  obtain ⟨fuel, hf⟩ := h
  obtain ⟨P, e, k⟩ := trod_plan hf
  refine ⟨P, ?_, k⟩
  have e' : cs = P.cells.toArray := by
    apply Array.ext'
    simpa [Value.cells] using e
  rw [e']
  rfl
theorem open_geo {H : Type} {enc : TypeId × Value → H} {w : World} {base : Nat} {spare : Nat → Bool} {held : Bool} {r : Reach} {b0 : Nat} {v : Value} {d : DataW H} {ps : List MemPlace} (hv : Value.okWide Try.prog w r b0 23 v) (h : DataW.Trod enc Try.prog w base spare held 23 v d ps) :
    ∃ s p b, v = .agg #[.int .i64 s, .int .i64 p, .int .i64 b] ∧ bnd64 s ∧ bnd64 p ∧ bnd64 b := by
  obtain ⟨cs, rfl, hsz⟩ := okWide_struct Try.underlying23 hv
  obtain ⟨fuel, hf⟩ := h
  obtain ⟨s, p, b, e, k⟩ := trod_geo hf
  refine ⟨s, p, b, ?_, k⟩
  have e' : cs = #[.int .i64 s, .int .i64 p, .int .i64 b] := by
    apply Array.ext'
    simpa [Value.cells] using e
  rw [e']
end Go.Proofs.Ytckjlkdjlpfdmaa
