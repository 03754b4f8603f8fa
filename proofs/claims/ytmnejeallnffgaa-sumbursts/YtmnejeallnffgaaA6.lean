/- A table that came in by value: 256 numbers. -/
import Derived.Test.YtmnejeallnffgaaA5
import Derived.Test.YtmnejeallnffgaaL1
import Derived.ProofKit
import Derived.OpenShut
namespace Go.Proofs.Ytmnejeallnffgaa
open Go.ChangeShapes Go.WideShapes Go.ChangeAt Go.RowKit

theorem open_table {H : Type} {enc : TypeId × Value → H} {W : World} {r : Reach} {base : Nat} {spare : Nat → Bool} {held : Bool} {v : Value} {d : DataW H} {p : List MemPlace}
    (hv : Value.okWide Try.prog W r base 24 v) (h : DataW.Trod enc Try.prog W 0 spare held 24 v d p) : ∃ f : Nat → Nat, v = .agg (tcs f).toArray ∧ Tab f := by
  obtain ⟨cs, rfl, hsz, _⟩ : ∃ cs, v = .agg cs ∧ cs.size = Try.prog.cellsOf 24 ∧ Row.okWide Try.prog W r base 24 cs := by
    simpa [Value.okWide, Try.underlying24] using hv
  have c24 : Try.prog.cellsOf 24 = 256 := by kernel_rfl
  have c22 : Try.prog.cellsOf 22 = 1 := by kernel_rfl
  rw [c24] at hsz
  obtain ⟨fuel, hf⟩ := h
  obtain ⟨xs, m, _, _, _, hl, hel⟩ := DataW.trod_array Try.underlying24 hf
  have key : ∀ i, i < 256 → ∃ z : Nat, cs[i]? = some (.int .u32 z) ∧ z < 4294967296 := fun i hi => by
    have hE := hel i hi
    rw [c22, Nat.mul_one, List.getElem?_eq_getElem (by omega)] at hE
    obtain ⟨z, e1, _, hw⟩ := DataW.trod_int Try.underlying22 hE
    have hb := wf_u32 hw
    obtain ⟨n, rfl⟩ := Int.eq_ofNat_of_zero_le hb.1
    refine ⟨n, ?_, by omega⟩
    have h0 : ((cs.toList.drop i).take 1)[0]? = some (.int .u32 n) := by
      have e1' : (cs.toList.drop i).take 1 = [.int .u32 n] := e1
      rw [e1']; rfl
    simpa using h0
  refine ⟨fun i => (intOf (cs.getD i undef)).toNat, ?_, fun i hi => ?_⟩
  · congr 1
    apply Array.ext_getElem?
    intro i
    by_cases hi : i < 256
    · obtain ⟨z, hz, _⟩ := key i hi
      have hg : cs.getD i undef = .int .u32 z := by simp [hz]
      rw [hz, List.getElem?_toArray, tcs_get _ i hi, hg]
      simp [intOf]
    · rw [Array.getElem?_eq_none (by omega), Array.getElem?_eq_none (by simp [tcs_length]; omega)]
  · obtain ⟨z, hz, hlt⟩ := key i hi
    have hg : cs.getD i undef = .int .u32 z := by simp [hz]
    show (intOf (cs.getD i undef)).toNat < 4294967296
    rw [hg]
    simpa [intOf] using hlt
end Go.Proofs.Ytmnejeallnffgaa
