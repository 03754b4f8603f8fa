/- Sequences, out of their reading. -/
import Derived.Test.YteghhmnkdmehbaaAC
import Derived.Test.YteghhmnkdmehbaaRG
namespace Go.Proofs.Yteghhmnkdmehbaa
open Go.ChangeShapes Go.WideShapes Go.RowKit Go.Joins
set_option linter.unusedVariables false

theorem Try.cellsSeq : Try.prog.cellsOf 51 = 3 := by kernel_rfl
theorem list3 {α : Type} {l : List α} (h : l.length = 3) : ∃ a b c, l = [a, b, c] := by
  match l, h with
  | [a, b, c], _ => exact ⟨a, b, c, rfl⟩
theorem trod_three {H : Type} {enc : TypeId × Value → H} {w : World} {t : TypeId} {f0 f1 f2 : Field} {fuel : Nat} {cs : List Value} {x : DataW H × List MemPlace} (ht : Try.prog.underlying t = some (.struct #[f0, f1, f2])) (h : DataW.trod enc Try.prog w 0 (fun _ => true) true fuel t cs = some x) :
    ∃ y0 y1 y2 n, DataW.trod enc Try.prog w 0 (fun _ => true) true n f0.type ((cs.drop f0.offset).take (Try.prog.cellsOf f0.type)) = some y0 ∧ DataW.trod enc Try.prog w 0 (fun _ => true) true n f1.type ((cs.drop f1.offset).take (Try.prog.cellsOf f1.type)) = some y1 ∧
      DataW.trod enc Try.prog w 0 (fun _ => true) true n f2.type ((cs.drop f2.offset).take (Try.prog.cellsOf f2.type)) = some y2 := by
  obtain ⟨xs, n, _, rfl, hl, hlen, hf⟩ := DataW.trod_struct ht h
  match xs, hlen with
  | [y0, y1, y2], _ => exact ⟨y0, y1, y2, n, by simpa using hf 0 f0 rfl, by simpa using hf 1 f1 rfl, by simpa using hf 2 f2 rfl⟩
def Bnd (q : Sq) : Prop := (-9223372036854775808 ≤ q.2.1 ∧ q.2.1 ≤ 9223372036854775807) ∧ (-9223372036854775808 ≤ q.2.2 ∧ q.2.2 ≤ 9223372036854775807)
structure SqAt (w : World) (b off i : Nat) (s : SqV × Sq) : Prop where
  c0 : w.cell? ⟨b, off + i * 3, none⟩ = some (.slice s.1.a s.1.n s.1.c)
  c1 : w.cell? ⟨b, off + i * 3 + 1, none⟩ = some (.int .i64 s.1.off)
  c2 : w.cell? ⟨b, off + i * 3 + 2, none⟩ = some (.int .i64 s.1.m)
  ok : SqOk w s.1 s.2
  bnd : Bnd s.2
theorem sq_of_trod {H : Type} {enc : TypeId × Value → H} {w : World} {n : Nat} {cs : List Value} {x : DataW H × List MemPlace} {b off i : Nat} (hl : cs.length = 3) (hc : ∀ t, t < 3 → w.cell? ⟨b, off + i * 3 + t, none⟩ = cs[t]?)
    (h : DataW.trod enc Try.prog w 0 (fun _ => true) true n 51 cs = some x) : ∃ s : SqV × Sq, SqAt w b off i s := by
  obtain ⟨x0, x1, x2, rfl⟩ := list3 hl
  obtain ⟨y0, y1, y2, m, h0, h1, h2⟩ := trod_three Try.underlying51 h
  simp only [Try.cells3, Try.cellsBs, List.drop_zero, List.drop_succ_cons, List.take_succ_cons, List.take_zero] at h0 h1 h2
  obtain ⟨a, len, cap, zs, e0, hr⟩ := row_of_trod h0
  obtain ⟨d, e1, _, w1⟩ := DataW.trod_int Try.underlying3 h1
  obtain ⟨k, e2, _, w2⟩ := DataW.trod_int Try.underlying3 h2
  simp only [List.cons.injEq, and_true] at e1 e2
  subst e0 e1 e2
  refine ⟨(⟨a, len, cap, d, k⟩, (zs.take len, d, k)), hc 0 (by omega), hc 1 (by omega), hc 2 (by omega), ⟨hr.row, rfl, rfl, hr.nilcap, ?_, ?_⟩, wf_i64 w1, wf_i64 w2⟩
  · rcases hr with ⟨rfl, rfl, rfl, rfl⟩ | ⟨y, rfl, h, _⟩
    · exact Nat.le_refl _
    · exact h
  · rcases hr with ⟨rfl, rfl, rfl, rfl⟩ | ⟨y, rfl, _, h, _⟩
    · exact Nat.zero_le _
    · exact h
theorem sqs_range {w : World} (f : Nat → SqV × Sq) (n : Nat) (h : ∀ i, i < n → SqOk w (f i).1 (f i).2) : Sqs w ((List.range n).map fun i => (f i).1) ((List.range n).map fun i => (f i).2) := by
  induction n with
  | zero => exact .nil
  | succ n ih =>
    rw [List.range_succ, List.map_append, List.map_append]
    exact .snoc (ih fun i hi => h i (by omega)) (h n (by omega))
/-- sequences that came in -/
structure SArg (w : World) (a : Option Addr) (len : Nat) (ss : List SqV) (qs : List Sq) : Prop where
  row : SRow w a len ss
  sqs : Sqs w ss qs
  bnd : ∀ q ∈ qs, Bnd q
theorem seqs_of_trod {H : Type} {enc : TypeId × Value → H} {w : World} {fuel : Nat} {a : Option Addr} {len cap : Nat} {x : DataW H × List MemPlace} (h : DataW.trod enc Try.prog w 0 (fun _ => true) true fuel 46 [.slice a len cap] = some x) :
    ∃ ss qs, SArg w a len ss qs := by
  rcases Deep.open_slice Try.underlying46 h with ⟨hcs, _⟩ | ⟨y, l, c, m, n, D, Pl, hcs, _, hl, hm, hmm, _, hel⟩
  · simp at hcs
    obtain ⟨rfl, rfl, rfl⟩ := hcs
    exact ⟨[], [], ⟨rfl, Nat.zero_le _, fun h => absurd h (by omega)⟩, .nil, fun q hq => by cases hq⟩
  · simp at hcs
    obtain ⟨rfl, rfl, rfl⟩ := hcs
    simp only [if_true] at hmm
    subst hmm
    rcases Nat.eq_zero_or_pos len with rfl | h0
    · exact ⟨[], [], ⟨rfl, Nat.zero_le _, fun h => absurd h (by omega)⟩, .nil, fun q hq => by cases hq⟩
    · obtain ⟨b, off, spot⟩ := y
      rw [Try.cellsSeq] at hel
      have hspot : spot = none := by
        obtain ⟨cs, h1, _⟩ := hel 0 (by omega)
        obtain ⟨_, hl4, hc⟩ := World.cells?_some h1
        have := hc 0 (by omega)
        obtain ⟨x0, x1, x2, rfl⟩ := list3 hl4
        have h2 : w.cell? ((Addr.add ⟨b, off, spot⟩ (0 * 3)).add 0) = some x0 := this
        simpa [Addr.add] using World.cell?_spot h2
      subst hspot
      have hadd : ∀ i t, ((⟨b, off, none⟩ : Addr).add (i * 3)).add t = ⟨b, off + i * 3 + t, none⟩ := by
        intro i t
        have e : ∀ o k, (⟨b, o, none⟩ : Addr).add k = ⟨b, o + k, none⟩ := by intro o k; unfold Addr.add; split <;> simp_all
        rw [e, e]
      obtain ⟨A, hA⟩ := @Deep.choose_lt (SqV × Sq) ⟨(⟨none, 0, 0, 0, 0⟩, ([], 0, 0))⟩ len (fun i A => SqAt w b off i A) (fun i hi => by
        obtain ⟨cs, h1, h2⟩ := hel i (by omega)
        obtain ⟨_, hl4, hc⟩ := World.cells?_some h1
        exact sq_of_trod hl4 (fun t ht => by rw [← hadd]; exact hc t ht) h2)
      refine ⟨(List.range len).map fun i => (A i).1, (List.range len).map fun i => (A i).2, ⟨by simp, by omega, fun _ => ⟨b, off, rfl, fun i s hi => ?_⟩⟩, sqs_range A len (fun i hi => (hA i hi).ok), fun q hq => ?_⟩
      · have hil : i < len := by have := (List.getElem?_eq_some_iff.1 hi).1; simpa using this
        simp [hil] at hi
        subst hi
        exact ⟨(hA i hil).c0, (hA i hil).c1, (hA i hil).c2⟩
      · simp at hq
        obtain ⟨i, hi, rfl⟩ := hq
        exact (hA i hi).bnd
end Go.Proofs.Yteghhmnkdmehbaa
