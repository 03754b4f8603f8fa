/- A head that came in. -/
import Derived.Test.YtaedcblphcfkfaaJH
import Derived.OpenShut
import Derived.ChangeSame
import Derived.Lib.SmallJoins
namespace Go.Proofs.Ytaedcblphcfkfaa
open Go.RowKit Go.ChangeShapes Go.WideShapes Go.ChangeAt Go.Joins
set_option linter.unusedSimpArgs false
set_option linter.unusedVariables false

theorem in64_wf {x : Int} (h : (Lit.int .i64 x).wf = true) : in64 x := wf_i64 h
theorem trod_span {H : Type} {enc : TypeId × Value → H} {w : World} {base : Nat} {spare : Nat → Bool} {held : Bool} {fuel : Nat} {cs : List Value} {x : DataW H × List MemPlace} (h : DataW.trod enc Try.prog w base spare held fuel 23 cs = some x) :
    ∃ a b, cs = [.int .i64 a, .int .i64 b] ∧ in64 a ∧ in64 b := by
  obtain ⟨y0, y1, n, _, hl, h0, h1⟩ := trod_struct2 Try.underlying23 h
  rw [Try.c13p] at hl
  match cs, hl with
  | [c, d], _ =>
    simp [Try.c13] at h0 h1
    obtain ⟨a, ea, _, wa⟩ := DataW.trod_int Try.underlying3 h0
    obtain ⟨b, eb, _, wb⟩ := DataW.trod_int Try.underlying3 h1
    simp at ea eb
    subst ea eb
    exact ⟨a, b, rfl, in64_wf wa, in64_wf wb⟩
theorem trod_arr6 {H : Type} {enc : TypeId × Value → H} {w : World} {base : Nat} {spare : Nat → Bool} {held : Bool} {fuel : Nat} {cs : List Value} {x : DataW H × List MemPlace} (h : DataW.trod enc Try.prog w base spare held fuel 24 cs = some x) :
    ∃ a0 z0 a1 z1 a2 z2 a3 z3 a4 z4 a5 z5 : Int, cs = [.int .i64 a0, .int .i64 z0, .int .i64 a1, .int .i64 z1, .int .i64 a2, .int .i64 z2, .int .i64 a3, .int .i64 z3, .int .i64 a4, .int .i64 z4, .int .i64 a5, .int .i64 z5] ∧ in64 a0 ∧ in64 z0 ∧ in64 a1 ∧ in64 z1 ∧ in64 a2 ∧ in64 z2 ∧ in64 a3 ∧ in64 z3 ∧ in64 a4 ∧ in64 z4 ∧ in64 a5 ∧ in64 z5 := by
  obtain ⟨xs, m, _, _, hl, hn, hi⟩ := DataW.trod_array Try.underlying24 h
  rw [Try.c13a] at hl
  match cs, hl with
  | [c0, c1, c2, c3, c4, c5, c6, c7, c8, c9, c10, c11], _ =>
    have h0 := hi 0 (by decide)
    obtain ⟨y0, e0⟩ : ∃ y, xs[0]? = some y := ⟨_, List.getElem?_eq_getElem (by omega)⟩
    rw [Try.c13p, e0] at h0
    simp at h0
    obtain ⟨a0, z0, q0, ka0, kz0⟩ := trod_span h0
    simp at q0
    obtain ⟨rfl, rfl⟩ := q0
    have h1 := hi 1 (by decide)
    obtain ⟨y1, e1⟩ : ∃ y, xs[1]? = some y := ⟨_, List.getElem?_eq_getElem (by omega)⟩
    rw [Try.c13p, e1] at h1
    simp at h1
    obtain ⟨a1, z1, q1, ka1, kz1⟩ := trod_span h1
    simp at q1
    obtain ⟨rfl, rfl⟩ := q1
    have h2 := hi 2 (by decide)
    obtain ⟨y2, e2⟩ : ∃ y, xs[2]? = some y := ⟨_, List.getElem?_eq_getElem (by omega)⟩
    rw [Try.c13p, e2] at h2
    simp at h2
    obtain ⟨a2, z2, q2, ka2, kz2⟩ := trod_span h2
    simp at q2
    obtain ⟨rfl, rfl⟩ := q2
    have h3 := hi 3 (by decide)
    obtain ⟨y3, e3⟩ : ∃ y, xs[3]? = some y := ⟨_, List.getElem?_eq_getElem (by omega)⟩
    rw [Try.c13p, e3] at h3
    simp at h3
    obtain ⟨a3, z3, q3, ka3, kz3⟩ := trod_span h3
    simp at q3
    obtain ⟨rfl, rfl⟩ := q3
    have h4 := hi 4 (by decide)
    obtain ⟨y4, e4⟩ : ∃ y, xs[4]? = some y := ⟨_, List.getElem?_eq_getElem (by omega)⟩
    rw [Try.c13p, e4] at h4
    simp at h4
    obtain ⟨a4, z4, q4, ka4, kz4⟩ := trod_span h4
    simp at q4
    obtain ⟨rfl, rfl⟩ := q4
    have h5 := hi 5 (by decide)
    obtain ⟨y5, e5⟩ : ∃ y, xs[5]? = some y := ⟨_, List.getElem?_eq_getElem (by omega)⟩
    rw [Try.c13p, e5] at h5
    simp at h5
    obtain ⟨a5, z5, q5, ka5, kz5⟩ := trod_span h5
    simp at q5
    obtain ⟨rfl, rfl⟩ := q5
    exact ⟨a0, z0, a1, z1, a2, z2, a3, z3, a4, z4, a5, z5, rfl, ka0, kz0, ka1, kz1, ka2, kz2, ka3, kz3, ka4, kz4, ka5, kz5⟩
theorem trod_sup {H : Type} {enc : TypeId × Value → H} {w : World} {base : Nat} {spare : Nat → Bool} {held : Bool} {fuel : Nat} {cs : List Value} {x : DataW H × List MemPlace} (h : DataW.trod enc Try.prog w base spare held fuel 26 cs = some x) :
    ∃ s : Sp, cs = s.cells ∧ s.ok := by
  obtain ⟨y0, y1, y2, y3, n, _, hl, h0, h1, h2, h3⟩ := trod_struct4 Try.underlying26 h
  rw [Try.c13s] at hl
  match cs, hl with
  | [c0, c1, c2, c3, c4, c5, c6, c7, c8, c9, c10, c11, c12, c13, c14], _ =>
    simp [Try.c13, Try.c13a] at h0 h1 h2 h3
    obtain ⟨lg, e0, _, k0⟩ := DataW.trod_int Try.underlying3 h0
    obtain ⟨no, e1, _, k1⟩ := DataW.trod_int Try.underlying3 h1
    obtain ⟨ln, e2, _, k2⟩ := DataW.trod_int Try.underlying3 h2
    obtain ⟨a0, z0, a1, z1, a2, z2, a3, z3, a4, z4, a5, z5, e3, k3⟩ := trod_arr6 h3
    simp at e0 e1 e2 e3
    subst e0 e1 e2
    obtain ⟨rfl, rfl, rfl, rfl, rfl, rfl, rfl, rfl, rfl, rfl, rfl, rfl⟩ := e3
    exact ⟨⟨lg, no, ln, a0, z0, a1, z1, a2, z2, a3, z3, a4, z4, a5, z5⟩, rfl, in64_wf k0, in64_wf k1, in64_wf k2, k3⟩
theorem open_sup {H : Type} {enc : TypeId × Value → H} {w : World} {base : Nat} {spare : Nat → Bool} {held : Bool} {r : Reach} {b0 : Nat} {v : Value} {d : DataW H} {ps : List MemPlace} (hv : Value.okWide Try.prog w r b0 26 v) (h : DataW.Trod enc Try.prog w base spare held 26 v d ps) :
    ∃ s : Sp, v = s.val ∧ s.ok := by
  obtain ⟨cs, rfl, hsz⟩ := okWide_struct Try.underlying26 hv
  obtain ⟨fuel, hf⟩ := h
  obtain ⟨r, e, k⟩ := trod_sup hf
  refine ⟨r, ?_, k⟩
  have e' : cs = r.cells.toArray := by
    apply Array.ext'
    simpa [Value.cells] using e
  rw [e']
  rfl
theorem nat_u16 {x : Int} (h : (Lit.int .u16 x).wf = true) : ∃ n : Nat, x = n ∧ n ≤ 65535 := by
  have h1 : 0 ≤ x ∧ x ≤ 65535 := by
    simp [Lit.wf, IntKind.min, IntKind.max, IntKind.signed, IntKind.bits] at h
    omega
  obtain ⟨n, rfl⟩ := Int.eq_ofNat_of_zero_le h1.1
  exact ⟨n, rfl, by omega⟩
theorem nat_u32 {x : Int} (h : (Lit.int .u32 x).wf = true) : ∃ n : Nat, x = n ∧ n < 4294967296 := by
  have h1 : 0 ≤ x ∧ x < 4294967296 := by
    simp [Lit.wf, IntKind.min, IntKind.max, IntKind.signed, IntKind.bits] at h
    omega
  obtain ⟨n, rfl⟩ := Int.eq_ofNat_of_zero_le h1.1
  exact ⟨n, rfl, by omega⟩
end Go.Proofs.Ytaedcblphcfkfaa
