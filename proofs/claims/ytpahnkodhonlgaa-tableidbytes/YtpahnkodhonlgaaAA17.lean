/- Lists of numbers that came in. -/
import Derived.Test.YtpahnkodhonlgaaOA
import Derived.ProofKit
import Derived.OpenShut
import Derived.ChangeOld
import Derived.Lib.SmallJoins
import Derived.Deep.Slices
namespace Go.Proofs.Ytpahnkodhonlgaa
open Go.ChangeShapes Go.WideShapes Go.RowKit Go.Joins
set_option maxRecDepth 100000
set_option linter.unusedVariables false
set_option linter.unusedSimpArgs false
theorem Try.c17i : Try.prog.cellsOf 3 = 1 := by kernel_rfl
theorem in64_of17 {z : Int} (h : (Lit.int .i64 z).wf = true) : in64 z := by
  simp [Lit.wf, IntKind.min, IntKind.max, IntKind.signed, IntKind.bits] at h
  unfold in64
  omega
theorem irow_of_trod17 {H : Type} {enc : TypeId × Value → H} {w : World} {fuel : Nat} {v : Value} {x : DataW H × List MemPlace} (h : DataW.trod enc Try.prog w 0 (fun _ => true) true fuel 22 [v] = some x) :
    ∃ a len cap xs, v = .slice a len cap ∧ IRow w a len xs ∧ (a = none → cap = 0) ∧ len ≤ cap ∧ cap ≤ maxLen := by
  rcases open_ints Try.underlying22 Try.underlying3 Try.c17i h with ⟨hcs, _⟩ | ⟨y, l, c, zs, hcs, _, hl, hm, hz, _, hcell, hwz⟩
  · simp at hcs
    have hr : IRow w none 0 [] := ⟨rfl, Nat.zero_le _, (fun x hx => (by cases hx)), fun h => absurd h (Nat.lt_irrefl 0)⟩
    exact ⟨none, 0, 0, [], hcs, hr, fun _ => rfl, Nat.le_refl _, Nat.zero_le _⟩
  · simp at hcs
    have hz' : zs.length = c := by simpa using hz
    have hzl : (zs.take l).length = l := by rw [List.length_take, hz']; omega
    refine ⟨some y, l, c, zs.take l, hcs, ⟨hzl, by omega, fun x hx => in64_of17 (hwz x (List.mem_of_mem_take hx)), fun h0 => ?_⟩, fun e => (by cases e), hl, hm⟩
    obtain ⟨b, off, spot⟩ := y
    have hc := hcell 0 (by omega)
    have hspot : spot = none := by simpa [Addr.add] using World.cell?_spot hc
    subst hspot
    refine ⟨b, off, rfl, fun i hi => ?_⟩
    have hadd : (⟨b, off, none⟩ : Addr).add i = ⟨b, off + i, none⟩ := by unfold Addr.add; split <;> simp_all
    rw [← hadd, hcell i (by omega), getD_take _ _ _ hi]
end Go.Proofs.Ytpahnkodhonlgaa
