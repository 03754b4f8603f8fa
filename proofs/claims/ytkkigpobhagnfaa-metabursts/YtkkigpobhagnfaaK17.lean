/- A chunk that came in. -/
import Derived.OpenShut
import Derived.ChangeSame
import Derived.Lib.SmallJoins
import Derived.Test.YtkkigpobhagnfaaK16
namespace Go.Proofs.Ytkkigpobhagnfaa
open Go.RowKit Go.ChangeShapes Go.WideShapes Go.ChangeAt Go.Joins
set_option maxRecDepth 100000
set_option linter.unusedSimpArgs false
set_option linter.unusedVariables false
theorem nat_u32q {x : Int} (h : (Lit.int .u32 x).wf = true) : ∃ n : Nat, x = n ∧ n < 4294967296 := by
 have h1 : 0 ≤ x ∧ x < 4294967296 := by
  simp [Lit.wf, IntKind.min, IntKind.max, IntKind.signed, IntKind.bits] at h
  omega
 obtain ⟨n, rfl⟩ := Int.eq_ofNat_of_zero_le h1.1
 exact ⟨n, rfl, by omega⟩
theorem trod_ck {H : Type} {enc : TypeId × Value → H} {w : World} {base : Nat} {spare : Nat → Bool} {held : Bool} {fuel : Nat} {cs : List Value} {x : DataW H × List MemPlace} (h : DataW.trod enc Try.prog w base spare held fuel 39 cs = some x) :
  ∃ c : Ck, cs = c.cells ∧ c.ok := by
 obtain ⟨xs, n, _, _, hl, hlen, hf⟩ := DataW.trod_struct Try.underlying39 h
 have h0 := hf 0 _ rfl
 have h1 := hf 1 _ rfl
 have h2 := hf 2 _ rfl
 have h3 := hf 3 _ rfl
 have h4 := hf 4 _ rfl
 rw [Try.c14c] at hl
 match xs, hlen, cs, hl with
 | [y0, y1, y2, y3, y4], _, [c0, c1, c2, c3, c4], _ =>
  simp [Try.c14, Try.c14b, Try.c14u] at h0 h1 h2 h3 h4
  obtain ⟨a, e0, _, k0⟩ := DataW.trod_int Try.underlying3 h0
  obtain ⟨p, e1, _, k1⟩ := DataW.trod_int Try.underlying3 h1
  obtain ⟨s, e2, _, k2⟩ := DataW.trod_int Try.underlying3 h2
  obtain ⟨b, e3, _⟩ := DataW.trod_bool Try.underlying4 h3
  obtain ⟨r, e4, _, k4⟩ := DataW.trod_int Try.underlying37 h4
  simp at e0 e1 e2 e3 e4
  subst e0 e1 e2 e3 e4
  obtain ⟨n, rfl, hn⟩ := nat_u32q k4
  exact ⟨⟨a, p, s, b, n⟩, rfl, wf_i64 k0, wf_i64 k1, wf_i64 k2, hn⟩
theorem open_ck {H : Type} {enc : TypeId × Value → H} {w : World} {base : Nat} {spare : Nat → Bool} {held : Bool} {r : Reach} {b0 : Nat} {v : Value} {d : DataW H} {ps : List MemPlace} (hv : Value.okWide Try.prog w r b0 39 v) (h : DataW.Trod enc Try.prog w base spare held 39 v d ps) :
  ∃ c : Ck, v = c.val ∧ c.ok := by
 obtain ⟨cs, rfl, hsz⟩ := okWide_struct Try.underlying39 hv
 obtain ⟨fuel, hf⟩ := h
 obtain ⟨c, e, k⟩ := trod_ck hf
 refine ⟨c, ?_, k⟩
 have e' : cs = c.cells.toArray := by
  apply Array.ext'
  simpa [Value.cells] using e
 rw [e']
 rfl
end Go.Proofs.Ytkkigpobhagnfaa
