/- A list of names that came in. -/
import Derived.Test.YtngalihnckbkfaaEA
import Derived.ProofKit
import Derived.ChangeMaps5
import Derived.ChangeOld
import Derived.Lib.SmallJoins
import Derived.Deep.Slices
namespace Go.Proofs.Ytngalihnckbkfaa
open Go.RowKit Go.ChangeShapes Go.WideShapes Go.ChangeAt Go.Joins
set_option maxRecDepth 100000
set_option linter.unusedSimpArgs false
set_option linter.unusedVariables false
theorem Try.c16s : Try.prog.cellsOf 9 = 1 := by kernel_rfl
theorem Try.c16i : Try.prog.cellsOf 3 = 1 := by kernel_rfl
theorem Try.c16k : Try.prog.cellsOf 41 = 2 := by kernel_rfl
def kx0 : Kx := ⟨⟨#[]⟩, 0⟩
theorem kxs_none (w : World) (a : Option Addr) : Kxs w a 0 [] := ⟨rfl, Nat.zero_le _, fun h => absurd h (Nat.lt_irrefl 0)⟩
theorem wf16 {x : Int} (h : (Lit.int .i64 x).wf = true) : -9223372036854775808 ≤ x ∧ x ≤ 9223372036854775807 := by
  simp [Lit.wf, IntKind.min, IntKind.max, IntKind.signed, IntKind.bits] at h
  omega
theorem trod_kid {H : Type} {enc : TypeId × Value → H} {w : World} {base : Nat} {spare : Nat → Bool} {held : Bool} {fuel : Nat} {cs : List Value} {x : DataW H × List MemPlace} (h : DataW.trod enc Try.prog w base spare held fuel 41 cs = some x) :
    ∃ c : Kx, cs = [.string c.nm, .int .i64 c.io] ∧ (-9223372036854775808 ≤ c.io ∧ c.io ≤ 9223372036854775807) := by
  obtain ⟨xs, n, _, _, hl, hlen, hf⟩ := DataW.trod_struct Try.underlying41 h
  have h0 := hf 0 _ rfl
  have h1 := hf 1 _ rfl
  rw [Try.c16k] at hl
  match xs, hlen, cs, hl with
  | [y0, y1], _, [c0, c1], _ =>
    simp [Try.c16s, Try.c16i] at h0 h1
    obtain ⟨a, e0, _, k0⟩ := DataW.trod_string Try.underlying9 h0
    obtain ⟨p, e1, _, k1⟩ := DataW.trod_int Try.underlying3 h1
    simp at e0 e1
    subst e0 e1
    exact ⟨⟨a, p⟩, rfl, wf16 k1⟩
structure KidAt (w : World) (b o : Nat) (c : Kx) : Prop where
  ok : -9223372036854775808 ≤ c.io ∧ c.io ≤ 9223372036854775807
  at_ : KxAt w b o c
theorem kxs_of_trod {H : Type} {enc : TypeId × Value → H} {w : World} {fuel : Nat} {v : Value} {x : DataW H × List MemPlace} (h : DataW.trod enc Try.prog w 0 (fun _ => true) true fuel 22 [v] = some x) :
    ∃ a len cap l, v = .slice a len cap ∧ Kxs w a len l ∧ len ≤ cap ∧ cap ≤ maxLen ∧ ∀ c ∈ l, -9223372036854775808 ≤ c.io ∧ c.io ≤ 9223372036854775807 := by
  rcases Deep.open_slice Try.underlying22 h with ⟨hcs, _⟩ | ⟨y, len, cap, m, n, D, Pl, hcs, _, hl, hm, hmm, _, hel⟩
  · simp at hcs
    exact ⟨none, 0, 0, [], hcs, kxs_none _ _, Nat.le_refl _, Nat.zero_le _, fun c hc => by cases hc⟩
  · simp at hcs
    simp only [if_true] at hmm
    subst hmm
    rcases Nat.eq_zero_or_pos len with rfl | h0
    · exact ⟨some y, 0, _, [], hcs, kxs_none _ _, by omega, by omega, fun c hc => by cases hc⟩
    · obtain ⟨b, off, spot⟩ := y
      rw [Try.c16k] at hel
      have hspot : spot = none := by
        obtain ⟨cs, h1, h2⟩ := hel 0 (by omega)
        obtain ⟨_, hl4, hc⟩ := World.cells?_some h1
        have := hc 0 (by omega)
        obtain ⟨c, hcc, _⟩ := trod_kid h2
        rw [hcc] at this
        have h2 : w.cell? ((Addr.add ⟨b, off, spot⟩ (0 * 2)).add 0) = some (.string c.nm) := this
        simpa [Addr.add] using World.cell?_spot h2
      subst hspot
      have hadd : ∀ i t, ((⟨b, off, none⟩ : Addr).add (i * 2)).add t = ⟨b, off + i * 2 + t, none⟩ := by
        intro i t
        have e : ∀ o k, (⟨b, o, none⟩ : Addr).add k = ⟨b, o + k, none⟩ := by intro o k; unfold Addr.add; split <;> simp_all
        rw [e, e]
      obtain ⟨A, hA⟩ := @Deep.choose_lt Kx ⟨kx0⟩ len (fun i A => KidAt w b (off + i * 2) A) (fun i hi => by
        obtain ⟨cs, h1, h2⟩ := hel i (by omega)
        obtain ⟨_, hl4, hc⟩ := World.cells?_some h1
        obtain ⟨c, hcc, hok⟩ := trod_kid h2
        have q : ∀ t, t < 2 → w.cell? ⟨b, off + i * 2 + t, none⟩ = [Value.string c.nm, .int .i64 c.io][t]? := fun t ht => by rw [← hadd, ← hcc]; exact hc t (by omega)
        exact ⟨c, hok, q 0 (by omega), q 1 (by omega)⟩)
      refine ⟨_, len, _, (List.range len).map A, hcs, ⟨by simp, by omega, fun _ => ⟨b, off, rfl, fun i X hX => ?_⟩⟩, by omega, by omega, fun c hc => ?_⟩
      · have hi : i < len := by
          rcases Nat.lt_or_ge i len with h | h
          · exact h
          · rw [List.getElem?_eq_none (by simp; omega)] at hX; cases hX
        rw [List.getElem?_map, List.getElem?_range hi] at hX
        simp at hX
        subst hX
        exact (hA i hi).at_
      · obtain ⟨i, hi, rfl⟩ := List.mem_map.1 hc
        exact (hA i (List.mem_range.1 hi)).ok
end Go.Proofs.Ytngalihnckbkfaa
