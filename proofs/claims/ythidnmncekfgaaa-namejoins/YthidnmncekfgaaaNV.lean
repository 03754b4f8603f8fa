/- A list of texts that came in. -/
import Derived.Test.YthidnmncekfgaaaNK
import Derived.SliceStrings
import Derived.ChangeMaps5
import Derived.ProofKit
import Derived.OpenShut
namespace Go.Proofs.Ythidnmncekfgaaa
open Go.ChangeShapes Go.WideShapes Go.RowKit
set_option linter.unusedVariables false

theorem Try.cs9 : Try.prog.cellsOf 9 = 1 := by kernel_rfl
theorem strs_of_trod {H : Type} {enc : TypeId × Value → H} {w : World} {fuel : Nat} {a : Option Addr} {len cap : Nat} {x : DataW H × List MemPlace} (h : DataW.trod enc Try.prog w 0 (fun _ => true) true fuel 23 [.slice a len cap] = some x) :
    ∃ l, SArg w a len cap l := by
  rcases open_strings Try.underlying23 Try.underlying9 Try.cs9 h with ⟨hcs, _⟩ | ⟨y, l', c', ss, hcs, _, hl, hm, hz, _, hcell, _⟩
  · simp at hcs
    obtain ⟨rfl, rfl, rfl⟩ := hcs
    exact ⟨[], ⟨⟨rfl, fun h => absurd h (by omega)⟩, Nat.le_refl _, Nat.zero_le _, fun _ => rfl⟩⟩
  · simp at hcs hz
    obtain ⟨rfl, rfl, rfl⟩ := hcs
    refine ⟨ss.take len, ⟨⟨by rw [List.length_take]; omega, fun h0 => ?_⟩, hl, hm, fun e => by cases e⟩⟩
    obtain ⟨b, off, spot⟩ := y
    have hspot : spot = none := by
      have := hcell 0 (by omega)
      simpa [Addr.add] using World.cell?_spot this
    subst hspot
    refine ⟨b, off, rfl, fun i hi => ?_⟩
    have e3 : (⟨b, off, none⟩ : Addr).add i = ⟨b, off + i, none⟩ := by unfold Addr.add; split <;> simp_all
    rw [← e3, hcell i (by omega)]
    congr 2
    rw [List.getD_eq_getElem?_getD, List.getD_eq_getElem?_getD, List.getElem?_take, if_pos hi, List.getElem?_eq_getElem (by omega)]
    rfl
theorem nameJoins_arg (a : Option Addr) (n c : Nat) (l : List ByteArray) (w : World) (R : SArg w a n c l) :
    Calls Try.prog 4 #[.slice a n c] w fun e w' => e = .returned (.bool true) ∧ Below w.heap.size w w' := nameJoins_walk a n c l w R.row R.nc (Nat.le_trans R.nc R.cm)
end Go.Proofs.Ythidnmncekfgaaa
