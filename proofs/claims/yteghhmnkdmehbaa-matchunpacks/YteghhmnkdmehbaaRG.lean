/- The document's Same. -/
import Derived.Test.YteghhmnkdmehbaaRE
import Derived.Deep.Draws
import Derived.Deep.QuietTactic
namespace Go.Proofs.Yteghhmnkdmehbaa
open Go.RowKit
set_option linter.unusedSimpArgs false
set_option linter.unusedVariables false

/-- sequences as a slice -/
structure SRow (w : World) (a : Option Addr) (len : Nat) (ss : List SqV) : Prop where
  len_eq : ss.length = len
  le : len ≤ maxLen
  cells : 0 < len → ∃ b off, a = some ⟨b, off, none⟩ ∧ ∀ i s, ss[i]? = some s → w.cell? ⟨b, off + i * 3, none⟩ = some (.slice s.a s.n s.c) ∧ w.cell? ⟨b, off + i * 3 + 1, none⟩ = some (.int .i64 s.off) ∧ w.cell? ⟨b, off + i * 3 + 2, none⟩ = some (.int .i64 s.m)
theorem sqv_get (ss : List SqV) (i : Nat) (s : SqV) (h : ss[i]? = some s) : (sqv ss)[i * 3]? = some (.slice s.a s.n s.c) ∧ (sqv ss)[i * 3 + 1]? = some (.int .i64 s.off) ∧ (sqv ss)[i * 3 + 2]? = some (.int .i64 s.m) := by
  induction ss generalizing i with
  | nil => simp at h
  | cons x r ih =>
    cases i with
    | zero => simp at h; subst h; exact ⟨rfl, rfl, rfl⟩
    | succ i =>
      simp at h
      obtain ⟨h1, h2, h3⟩ := ih i h
      have e : sqv (x :: r) = x.cells ++ sqv r := by simp [sqv]
      have l : x.cells.length = 3 := rfl
      rw [e]
      refine ⟨?_, ?_, ?_⟩
      · rw [List.getElem?_append_right (by omega), l, ← h1]; congr 1; omega
      · rw [List.getElem?_append_right (by omega), l, ← h2]; congr 1; omega
      · rw [List.getElem?_append_right (by omega), l, ← h3]; congr 1; omega
theorem owns_srow {w : World} {base : Nat} {v : Value} {n : Nat} {ss : List SqV} (h : w.ownsRow base 51 3 v n (sqv ss)) (hl : n ≤ maxLen) : ∃ a cap, v = .slice a n cap ∧ SRow w a n ss := by
  obtain ⟨h1, h2⟩ := h
  rw [sqv_len] at h1
  have hn : ss.length = n := by omega
  rcases h2 with ⟨rfl, rfl⟩ | ⟨g, cap, cur, rfl, _, hg, hc, hm, hs, ht⟩
  · exact ⟨none, 0, rfl, hn, hl, fun h => absurd h (by omega)⟩
  · refine ⟨_, cap, rfl, hn, hl, fun _ => ⟨g, 0, rfl, fun i s hi => ?_⟩⟩
    have hil : i < ss.length := (List.getElem?_eq_some_iff.1 hi).1
    obtain ⟨c1, c2, c3⟩ := sqv_get ss i s hi
    have key : ∀ t, t < n * 3 → w.cell? ⟨g, 0 + t, none⟩ = (sqv ss)[t]? := by
      intro t htl
      have e : w.cell? ⟨g, 0 + t, none⟩ = cur[t]? := by simp [World.cell?, hg]
      rw [e, ← ht, List.getElem?_take, if_pos htl, Array.getElem?_toList]
    refine ⟨?_, ?_, ?_⟩
    · rw [key _ (by omega)]; exact c1
    · rw [Nat.add_assoc, key _ (by omega)]; exact c2
    · rw [Nat.add_assoc, key _ (by omega)]; exact c3
theorem Sqs.get {w : World} {ss : List SqV} {qs : List Sq} (h : Sqs w ss qs) (i : Nat) (hi : i < ss.length) : ∃ s q, ss[i]? = some s ∧ qs[i]? = some q ∧ SqOk w s q := by
  have h1 : ss[i]? = some ss[i] := List.getElem?_eq_getElem hi
  have h2 : qs[i]? = some (qs[i]'(by rw [← h.1]; exact hi)) := List.getElem?_eq_getElem _
  exact ⟨_, _, h1, h2, h.2 i _ _ h1 h2⟩
theorem SRow.grown {w w' : World} {a : Option Addr} {n : Nat} {ss : List SqV} (h : SRow w a n ss) (hg : w.grownBy w' none) : SRow w' a n ss := by
  refine ⟨h.len_eq, h.le, fun h0 => ?_⟩
  obtain ⟨b, off, e, hc⟩ := h.cells h0
  have hb := grown_below hg
  refine ⟨b, off, e, fun i s hi => ?_⟩
  obtain ⟨h1, h2, h3⟩ := hc i s hi
  exact ⟨by rw [hb.cell (p := ⟨b, off + i * 3, none⟩) (cell_lt h1)]; exact h1, by rw [hb.cell (p := ⟨b, off + i * 3 + 1, none⟩) (cell_lt h2)]; exact h2, by rw [hb.cell (p := ⟨b, off + i * 3 + 2, none⟩) (cell_lt h3)]; exact h3⟩
theorem grown_drewN5 {w w' : World} (h : w.grownBy w' none) (n : Nat) : w.grownBy (w'.drewN n) none := ⟨h.os, h.tape, h.output, h.size, h.block⟩
theorem take_snocQ {qs : List Sq} {j : Nat} {q : Sq} (h : qs[j]? = some q) : qs.take (j + 1) = qs.take j ++ [q] := by
  obtain ⟨h1, h2⟩ := List.getElem?_eq_some_iff.1 h
  rw [List.take_succ_eq_append_getElem h1, h2]
end Go.Proofs.Yteghhmnkdmehbaa
