/- From the reading of a list of calls, as it came in, to what the walks are told. -/
import Derived.Test.YthnehebkkfegdaaA8
import Derived.ProofKit
import Derived.OpenShut
import Derived.ChangeOld
import Derived.Lib.SmallJoins
import Derived.Deep.Slices
namespace Go.Proofs.Ythnehebkkfegdaa
open Go.ChangeShapes Go.WideShapes Go.RowKit Go.Joins

theorem Try.cells53 : Try.prog.cellsOf 53 = 4 := by kernel_rfl
theorem Try.cells3 : Try.prog.cellsOf 3 = 1 := by kernel_rfl
theorem Try.cells24 : Try.prog.cellsOf 24 = 1 := by kernel_rfl
theorem Try.cells22 : Try.prog.cellsOf 22 = 1 := by kernel_rfl
theorem Try.cells5 : Try.prog.cellsOf 5 = 1 := by kernel_rfl

/-- a slice of bytes, out of its reading -/
theorem row_of_trod {H : Type} {enc : TypeId × Value → H} {w : World} {fuel : Nat} {v : Value} {x : DataW H × List MemPlace} (h : DataW.trod enc Try.prog w 0 (fun _ => true) true fuel 22 [v] = some x) :
    ∃ a len cap zs, v = .slice a len cap ∧ IsRow .u8 w a len cap zs := by
  rcases open_ints Try.underlying22 Try.underlying5 Try.cells5 h with ⟨hcs, _⟩ | ⟨y, l, c, zs, hcs, _, hl, hm, hz, _, hcell, hwz⟩
  · simp at hcs
    exact ⟨none, 0, 0, [], hcs, .inl ⟨rfl, rfl, rfl, rfl⟩⟩
  · simp at hcs
    exact ⟨some y, l, c, zs, hcs, .inr ⟨_, rfl, hl, hm, by simpa using hz, hcell, hwz⟩⟩

theorem list4 {α : Type} {l : List α} (h : l.length = 4) : ∃ a b c d, l = [a, b, c, d] := by
  match l, h with
  | [a, b, c, d], _ => exact ⟨a, b, c, d, rfl⟩

/-- one call, out of its reading -/
theorem act_of_trod {H : Type} {enc : TypeId × Value → H} {w : World} {n : Nat} {cs : List Value} {x : DataW H × List MemPlace} {b off i : Nat} (hl : cs.length = 4) (hc : ∀ t, t < 4 → w.cell? ⟨b, off + i * 4 + t, none⟩ = cs[t]?)
    (h : DataW.trod enc Try.prog w 0 (fun _ => true) true n 53 cs = some x) : ∃ A : Ac, ActAt w b off i A := by
  obtain ⟨x0, x1, x2, x3, rfl⟩ := list4 hl
  obtain ⟨y0, y1, y2, y3, m, _, _, h0, h1, h2, h3⟩ := trod_struct4 Try.underlying53 h
  simp only [Try.cells3, Try.cells24, Try.cells22, List.drop_zero, List.drop_succ_cons, List.take_succ_cons, List.take_zero] at h0 h1 h2 h3
  obtain ⟨d, e0, _, w0⟩ := DataW.trod_int Try.underlying3 h0
  obtain ⟨k, e1, _, w1⟩ := DataW.trod_int Try.underlying3 h1
  obtain ⟨v, e2, _, w2⟩ := DataW.trod_int Try.underlying24 h2
  obtain ⟨a, len, cap, zs, e3, hr⟩ := row_of_trod h3
  simp only [List.cons.injEq, and_true] at e0 e1 e2
  subst e0 e1 e2 e3
  refine ⟨⟨d, k, v, a, len, cap, zs.take len⟩, hc 0 (by omega), hc 1 (by omega), hc 2 (by omega), hc 3 (by omega), hr.row, ?_, ?_, wf_i64 w1, wf_u64 w2⟩
  · rcases hr with ⟨_, _, h, _⟩ | ⟨y, e, _⟩
    · exact fun _ => h
    · intro e2; simp only at e2; rw [e2] at e; cases e
  · rcases hr with ⟨_, h1, h2, _⟩ | ⟨y, _, h, _⟩
    · simp only; omega
    · exact h

theorem acts_of_trod {H : Type} {enc : TypeId × Value → H} {w : World} {fuel : Nat} {a : Option Addr} {len cap : Nat} {x : DataW H × List MemPlace} (h : DataW.trod enc Try.prog w 0 (fun _ => true) true fuel 43 [.slice a len cap] = some x) :
    ∃ A, Acts w a len A := by
  rcases Deep.open_slice Try.underlying43 h with ⟨hcs, _⟩ | ⟨y, l, c, m, n, D, Pl, hcs, _, hl, hm, hmm, _, hel⟩
  · simp at hcs
    obtain ⟨rfl, rfl, rfl⟩ := hcs
    exact ⟨fun _ => ⟨0, 0, 0, none, 0, 0, []⟩, Nat.zero_le _, fun h => absurd h (by omega)⟩
  · simp at hcs
    obtain ⟨rfl, rfl, rfl⟩ := hcs
    simp only [if_true] at hmm
    subst hmm
    rcases Nat.eq_zero_or_pos len with rfl | h0
    · exact ⟨fun _ => ⟨0, 0, 0, none, 0, 0, []⟩, Nat.zero_le _, fun h => absurd h (by omega)⟩
    · obtain ⟨b, off, spot⟩ := y
      rw [Try.cells53] at hel
      have hspot : spot = none := by
        obtain ⟨cs, h1, _⟩ := hel 0 (by omega)
        obtain ⟨_, hl4, hc⟩ := World.cells?_some h1
        have := hc 0 (by omega)
        obtain ⟨x0, x1, x2, x3, rfl⟩ := list4 hl4
        have h2 : w.cell? ((Addr.add ⟨b, off, spot⟩ (0 * 4)).add 0) = some x0 := this
        simpa [Addr.add] using World.cell?_spot h2
      subst hspot
      have hadd : ∀ i t, ((⟨b, off, none⟩ : Addr).add (i * 4)).add t = ⟨b, off + i * 4 + t, none⟩ := by
        intro i t
        have e : ∀ o k, (⟨b, o, none⟩ : Addr).add k = ⟨b, o + k, none⟩ := by intro o k; unfold Addr.add; split <;> simp_all
        rw [e, e]
      obtain ⟨A, hA⟩ := @Deep.choose_lt Ac ⟨⟨0, 0, 0, none, 0, 0, []⟩⟩ len (fun i A => ActAt w b off i A) (fun i hi => by
        obtain ⟨cs, h1, h2⟩ := hel i (by omega)
        obtain ⟨_, hl4, hc⟩ := World.cells?_some h1
        exact act_of_trod hl4 (fun t ht => by rw [← hadd]; exact hc t ht) h2)
      exact ⟨A, by omega, fun _ => ⟨b, off, rfl, hA⟩⟩
end Go.Proofs.Ythnehebkkfegdaa
