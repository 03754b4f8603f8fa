/- A list of calls: as plain data, in memory, out of its reading. -/
import Derived.Test.YtdefcfmnhfeblaaPK
import Derived.ProofKit
import Derived.OpenShut
import Derived.ChangeOld
import Derived.Lib.SmallJoins
import Derived.Deep.Slices
namespace Go.Proofs.Ytdefcfmnhfeblaa
open Go.ChangeShapes Go.WideShapes Go.RowKit Go.Joins
set_option linter.unusedVariables false

/-- a call, as plain data: what it does, its place, its number, its bytes and where they lie -/
structure Ac where
  d : Int
  at_ : Int
  n : Int
  a : Option Addr
  len : Nat
  cap : Nat
  xs : List Int
def Ac.val (A : Ac) : Value := .agg #[.int .i64 A.d, .int .i64 A.at_, .int .i64 A.n, .slice A.a A.len A.cap]
structure Ac.ok (A : Ac) (w : World) : Prop where
  row : Row w A.a A.len A.xs
  nil : A.a = none → A.cap = 0
  le : A.len ≤ A.cap
  ba : -9223372036854775808 ≤ A.at_ ∧ A.at_ ≤ 9223372036854775807
  bn : -9223372036854775808 ≤ A.n ∧ A.n ≤ 9223372036854775807
structure ActAt (w : World) (b off i : Nat) (A : Ac) : Prop where
  c0 : w.cell? ⟨b, off + i * 4, none⟩ = some (.int .i64 A.d)
  c1 : w.cell? ⟨b, off + i * 4 + 1, none⟩ = some (.int .i64 A.at_)
  c2 : w.cell? ⟨b, off + i * 4 + 2, none⟩ = some (.int .i64 A.n)
  c3 : w.cell? ⟨b, off + i * 4 + 3, none⟩ = some (.slice A.a A.len A.cap)
  ok : A.ok w
structure Acts (w : World) (a : Option Addr) (len : Nat) (A : Nat → Ac) : Prop where
  le : len ≤ maxLen
  at_ : 0 < len → ∃ b off, a = some ⟨b, off, none⟩ ∧ ∀ i, i < len → ActAt w b off i (A i)
theorem ActAt.lt {w : World} {b off i : Nat} {A : Ac} (h : ActAt w b off i A) : b < w.heap.size := cell_lt h.c0
theorem Ac.ok.below {w w' : World} {A : Ac} (h : A.ok w) (hb : Below w.heap.size w w') : A.ok w' := ⟨h.row.below hb, h.nil, h.le, h.ba, h.bn⟩
theorem ActAt.below {w w' : World} {b off i : Nat} {A : Ac} (h : ActAt w b off i A) (hb : Below w.heap.size w w') : ActAt w' b off i A := by
  have hl := h.lt
  refine ⟨?_, ?_, ?_, ?_, h.ok.below hb⟩
  · rw [hb.cell (p := ⟨b, _, none⟩) hl]; exact h.c0
  · rw [hb.cell (p := ⟨b, _, none⟩) hl]; exact h.c1
  · rw [hb.cell (p := ⟨b, _, none⟩) hl]; exact h.c2
  · rw [hb.cell (p := ⟨b, _, none⟩) hl]; exact h.c3

theorem Try.cellsAct : Try.prog.cellsOf 45 = 4 := by kernel_rfl
theorem Try.cells3 : Try.prog.cellsOf 3 = 1 := by kernel_rfl
theorem Try.cellsBs : Try.prog.cellsOf 34 = 1 := by kernel_rfl
theorem Try.cells5 : Try.prog.cellsOf 5 = 1 := by kernel_rfl
/-- a slice of bytes, out of its reading -/
theorem row_of_trod {H : Type} {enc : TypeId × Value → H} {w : World} {fuel : Nat} {v : Value} {x : DataW H × List MemPlace} (h : DataW.trod enc Try.prog w 0 (fun _ => true) true fuel 34 [v] = some x) :
    ∃ a len cap zs, v = .slice a len cap ∧ IsRow .u8 w a len cap zs := by
  rcases open_ints Try.underlying34 Try.underlying5 Try.cells5 h with ⟨hcs, _⟩ | ⟨y, l, c, zs, hcs, _, hl, hm, hz, _, hcell, hwz⟩
  · simp at hcs
    exact ⟨none, 0, 0, [], hcs, .inl ⟨rfl, rfl, rfl, rfl⟩⟩
  · simp at hcs
    exact ⟨some y, l, c, zs, hcs, .inr ⟨_, rfl, hl, hm, by simpa using hz, hcell, hwz⟩⟩
theorem ok_of {w : World} {d k n : Int} {a : Option Addr} {len cap : Nat} {zs : List Int} (hr : IsRow .u8 w a len cap zs) (w0 : (Lit.int .i64 d).wf = true) (w1 : (Lit.int .i64 k).wf = true) (w2 : (Lit.int .i64 n).wf = true) : Ac.ok ⟨d, k, n, a, len, cap, zs.take len⟩ w := by
  refine ⟨hr.row, ?_, ?_, wf_i64 w1, wf_i64 w2⟩
  · rcases hr with ⟨_, _, h, _⟩ | ⟨y, e, _⟩
    · exact fun _ => h
    · intro e2; simp only at e2; rw [e2] at e; cases e
  · rcases hr with ⟨_, h1, h2, _⟩ | ⟨y, _, h, _⟩
    · simp only; omega
    · exact h
theorem list4 {α : Type} {l : List α} (h : l.length = 4) : ∃ a b c d, l = [a, b, c, d] := by
  match l, h with
  | [a, b, c, d], _ => exact ⟨a, b, c, d, rfl⟩
/-- one call, out of its reading -/
theorem act_of_trod {H : Type} {enc : TypeId × Value → H} {w : World} {n : Nat} {cs : List Value} {x : DataW H × List MemPlace} {b off i : Nat} (hl : cs.length = 4) (hc : ∀ t, t < 4 → w.cell? ⟨b, off + i * 4 + t, none⟩ = cs[t]?)
    (h : DataW.trod enc Try.prog w 0 (fun _ => true) true n 45 cs = some x) : ∃ A : Ac, ActAt w b off i A := by
  obtain ⟨x0, x1, x2, x3, rfl⟩ := list4 hl
  obtain ⟨y0, y1, y2, y3, m, _, _, h0, h1, h2, h3⟩ := trod_struct4 Try.underlying45 h
  simp only [Try.cells3, Try.cellsBs, List.drop_zero, List.drop_succ_cons, List.take_succ_cons, List.take_zero] at h0 h1 h2 h3
  obtain ⟨d, e0, _, w0⟩ := DataW.trod_int Try.underlying3 h0
  obtain ⟨k, e1, _, w1⟩ := DataW.trod_int Try.underlying3 h1
  obtain ⟨v, e2, _, w2⟩ := DataW.trod_int Try.underlying3 h2
  obtain ⟨a, len, cap, zs, e3, hr⟩ := row_of_trod h3
  simp only [List.cons.injEq, and_true] at e0 e1 e2
  subst e0 e1 e2 e3
  exact ⟨⟨d, k, v, a, len, cap, zs.take len⟩, hc 0 (by omega), hc 1 (by omega), hc 2 (by omega), hc 3 (by omega), ok_of hr w0 w1 w2⟩
theorem acts_of_trod {H : Type} {enc : TypeId × Value → H} {w : World} {fuel : Nat} {a : Option Addr} {len cap : Nat} {x : DataW H × List MemPlace} (h : DataW.trod enc Try.prog w 0 (fun _ => true) true fuel 24 [.slice a len cap] = some x) :
    ∃ A, Acts w a len A := by
  rcases Deep.open_slice Try.underlying24 h with ⟨hcs, _⟩ | ⟨y, l, c, m, n, D, Pl, hcs, _, hl, hm, hmm, _, hel⟩
  · simp at hcs
    obtain ⟨rfl, rfl, rfl⟩ := hcs
    exact ⟨fun _ => ⟨0, 0, 0, none, 0, 0, []⟩, Nat.zero_le _, fun h => absurd h (by omega)⟩
  · simp at hcs
    obtain ⟨rfl, rfl, rfl⟩ := hcs
    simp only [if_true] at hmm
    subst hmm
    rcases Nat.eq_zero_or_pos len with rfl | h0
    · exact ⟨fun _ => ⟨0, 0, 0, none, 0, 0, []⟩, Nat.zero_le _, fun h => absurd h (by omega)⟩
    · obtain ⟨b, off, spot⟩ := y
      rw [Try.cellsAct] at hel
      have hspot : spot = none := by
        obtain ⟨cs, h1, _⟩ := hel 0 (by omega)
        obtain ⟨_, hl4, hc⟩ := World.cells?_some h1
        have := hc 0 (by omega)
        obtain ⟨x0, x1, x2, x3, rfl⟩ := list4 hl4
        have h2 : w.cell? ((Addr.add ⟨b, off, spot⟩ (0 * 4)).add 0) = some x0 := this
        simpa [Addr.add] using World.cell?_spot h2
      subst hspot
      have hadd : ∀ i t, ((⟨b, off, none⟩ : Addr).add (i * 4)).add t = ⟨b, off + i * 4 + t, none⟩ := by
        intro i t
        have e : ∀ o k, (⟨b, o, none⟩ : Addr).add k = ⟨b, o + k, none⟩ := by intro o k; unfold Addr.add; split <;> simp_all
        rw [e, e]
      obtain ⟨A, hA⟩ := @Deep.choose_lt Ac ⟨⟨0, 0, 0, none, 0, 0, []⟩⟩ len (fun i A => ActAt w b off i A) (fun i hi => by
        obtain ⟨cs, h1, h2⟩ := hel i (by omega)
        obtain ⟨_, hl4, hc⟩ := World.cells?_some h1
        exact act_of_trod hl4 (fun t ht => by rw [← hadd]; exact hc t ht) h2)
      exact ⟨A, by omega, fun _ => ⟨b, off, rfl, hA⟩⟩
end Go.Proofs.Ytdefcfmnhfeblaa
