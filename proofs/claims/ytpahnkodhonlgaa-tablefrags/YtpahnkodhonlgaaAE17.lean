/- Fragments that came in. -/
import Derived.Test.YtpahnkodhonlgaaWA17
import Derived.ProofKit
import Derived.OpenShut
import Derived.ChangeOld
import Derived.Lib.SmallJoins
import Derived.Deep.Slices
import Derived.Deep.Strs
namespace Go.Proofs.Ytpahnkodhonlgaa
open Go.ChangeShapes Go.WideShapes Go.RowKit Go.Joins Go.Deep
set_option maxRecDepth 100000
set_option linter.unusedVariables false
set_option linter.unusedSimpArgs false
theorem Try.cf3 : Try.prog.cellsOf 3 = 1 := by kernel_rfl
theorem Try.cfF : Try.prog.cellsOf 89 = 3 := by kernel_rfl
theorem list3f {α : Type} {l : List α} (h : l.length = 3) : ∃ x0 x1 x2, l = [x0, x1, x2] := by
  match l, h with
  | [x0, x1, x2], _ => exact ⟨x0, x1, x2, rfl⟩
/-- one fragment, out of its reading -/
theorem fr_of_trod {H : Type} {enc : TypeId × Value → H} {w : World} {n : Nat} {cs : List Value} {x : DataW H × List MemPlace} {b o : Nat} (hl : cs.length = 3) (hc : ∀ t, t < 3 → w.cell? ⟨b, o + t, none⟩ = cs[t]?)
    (h : DataW.trod enc Try.prog w 0 (fun _ => true) true n 89 cs = some x) : ∃ A : Fr, FrAt w b o A := by
  obtain ⟨x0, x1, x2, rfl⟩ := list3f hl
  obtain ⟨y0, y1, y2, m, _, _, h0, h1, h2⟩ := trod_struct3 Try.underlying89 h
  simp only [Try.cf3, List.drop_zero, List.drop_succ_cons, List.take_succ_cons, List.take_zero] at h0 h1 h2
  obtain ⟨a0, e0, _⟩ := DataW.trod_int Try.underlying3 h0
  obtain ⟨a1, e1, _⟩ := DataW.trod_int Try.underlying3 h1
  obtain ⟨a2, e2, _⟩ := DataW.trod_int Try.underlying3 h2
  simp only [List.cons.injEq, and_true] at e0 e1 e2
  subst e0 e1 e2
  exact ⟨⟨a0, a1, a2⟩, hc 0 (by omega), hc 1 (by omega), hc 2 (by omega)⟩
theorem frs_of_trod {H : Type} {enc : TypeId × Value → H} {w : World} {fuel : Nat} {v : Value} {x : DataW H × List MemPlace} (h : DataW.trod enc Try.prog w 0 (fun _ => true) true fuel 54 [v] = some x) :
    ∃ a len cap l, v = .slice a len cap ∧ Frs w a len l ∧ len ≤ cap ∧ (a = none → cap = 0) := by
  rcases Deep.open_slice Try.underlying54 h with ⟨hcs, _⟩ | ⟨y, len, cap, m, n, D, Pl, hcs, _, hl, hm, hmm, _, hel⟩
  · simp at hcs
    exact ⟨none, 0, 0, [], hcs, ⟨rfl, Nat.zero_le _, fun h => absurd h (by omega)⟩, Nat.le_refl _, fun _ => rfl⟩
  · simp at hcs
    simp only [if_true] at hmm
    subst hmm
    rcases Nat.eq_zero_or_pos len with rfl | h0
    · exact ⟨some y, 0, _, [], hcs, ⟨rfl, Nat.zero_le _, fun h => absurd h (by omega)⟩, hl, fun e => by cases e⟩
    · obtain ⟨b, off, spot⟩ := y
      rw [Try.cfF] at hel
      have hspot : spot = none := by
        obtain ⟨cs, h1, _⟩ := hel 0 (by omega)
        obtain ⟨_, hl4, hc⟩ := World.cells?_some h1
        have := hc 0 (by omega)
        obtain ⟨x0, x1, x2, rfl⟩ := list3f hl4
        have h2 : w.cell? ((Addr.add ⟨b, off, spot⟩ (0 * 3)).add 0) = some x0 := this
        simpa [Addr.add] using World.cell?_spot h2
      subst hspot
      have hadd : ∀ i t, ((⟨b, off, none⟩ : Addr).add (i * 3)).add t = ⟨b, off + i * 3 + t, none⟩ := by
        intro i t
        have e : ∀ o k, (⟨b, o, none⟩ : Addr).add k = ⟨b, o + k, none⟩ := by intro o k; unfold Addr.add; split <;> simp_all
        rw [e, e]
      obtain ⟨A, hA⟩ := @Deep.choose_lt Fr ⟨⟨0, 0, 0⟩⟩ len (fun i A => FrAt w b (off + i * 3) A) (fun i hi => by
        obtain ⟨cs, h1, h2⟩ := hel i (by omega)
        obtain ⟨_, hl4, hc⟩ := World.cells?_some h1
        exact fr_of_trod hl4 (fun t ht => by rw [← hadd]; exact hc t ht) h2)
      refine ⟨_, len, _, (List.range len).map A, hcs, ⟨by simp, by omega, fun _ => ⟨b, off, rfl, fun i X hX => ?_⟩⟩, hl, fun e => by cases e⟩
      have hi : i < len := by
        rcases Nat.lt_or_ge i len with h | h
        · exact h
        · rw [List.getElem?_eq_none (by simp; omega)] at hX; cases hX
      rw [List.getElem?_map, List.getElem?_range hi] at hX
      simp at hX
      subst hX
      exact hA i hi
end Go.Proofs.Ytpahnkodhonlgaa
