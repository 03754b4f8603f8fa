/- Plain facts on memory: rows of numbers and of floats, handed in or made by a call. -/
import Derived.Test.YtekblghlaogeaaaL1
import Derived.Laws.CopyOwn
import Derived.OwnWalk
import Derived.Laws.AppendOwnNone
import Derived.WalkSpells
namespace Go.Proofs.Ytekblghlaogeaaa
open Go.RowKit
set_option linter.unusedVariables false

def encU (n : Nat) : Value := .int .u64 n
def encF (n : Nat) : Value := .float .f64 n
/-- what is told of cells that a slice leads to -/
structure Row (enc : Nat → Value) (w : World) (a : Option Addr) (len : Nat) (xs : List Nat) : Prop where
  len_eq : xs.length = len
  le : len ≤ maxLen
  bd : ∀ x ∈ xs, x < 18446744073709551616
  cells : 0 < len → ∃ b off, a = some ⟨b, off, none⟩ ∧ ∀ i, i < len → w.cell? ⟨b, off + i, none⟩ = some (enc (xs.getD i 0))
theorem cell_lt {w : World} {b o : Nat} {v : Value} (h : w.cell? ⟨b, o, none⟩ = some v) : b < w.heap.size := by
  rcases Nat.lt_or_ge b w.heap.size with h1 | h1
  · exact h1
  · simp [World.cell?, Array.getElem?_eq_none h1] at h
theorem Row.below {enc : Nat → Value} {w w' : World} {a : Option Addr} {len : Nat} {xs : List Nat} (h : Row enc w a len xs) (hb : Below w.heap.size w w') : Row enc w' a len xs := by
  refine ⟨h.len_eq, h.le, h.bd, fun h0 => ?_⟩
  obtain ⟨b, off, e, hc⟩ := h.cells h0
  exact ⟨b, off, e, fun i hi => by rw [hb.cell (p := ⟨b, off + i, none⟩) (cell_lt (hc i hi))]; exact hc i hi⟩
theorem Row.grown {enc : Nat → Value} {w w' : World} {a : Option Addr} {len : Nat} {xs : List Nat} (h : Row enc w a len xs) (hg : w.grownBy w' none) : Row enc w' a len xs :=
  h.below ⟨hg.os, hg.tape, hg.output, hg.size, fun k hk => hg.block k hk (by simp)⟩
theorem Row.drewN {enc : Nat → Value} {w : World} {a : Option Addr} {len : Nat} {xs : List Nat} (h : Row enc w a len xs) (n : Nat) : Row enc (w.drewN n) a len xs := h.below (below_drewN w n)
theorem getD_bd {xs : List Nat} (h : ∀ x ∈ xs, x < 18446744073709551616) (i : Nat) : xs.getD i 0 < 18446744073709551616 := by
  rcases Nat.lt_or_ge i xs.length with hi | hi
  · rw [List.getD_eq_getElem?_getD, List.getElem?_eq_getElem hi]; exact h _ (List.getElem_mem hi)
  · rw [List.getD_eq_getElem?_getD, List.getElem?_eq_none hi]; decide
theorem grown_trans {a b c : World} {row : Option Nat} (h : a.grownBy b row) (k : b.grownBy c row) : a.grownBy c row :=
  ⟨k.os.trans h.os, k.tape.trans h.tape, k.output.trans h.output, Nat.le_trans h.size k.size, fun i hi hr => (k.block i (Nat.lt_of_lt_of_le hi h.size) hr).trans (h.block i hi hr)⟩
theorem grown_below {a b : World} (h : a.grownBy b none) : Below a.heap.size a b := ⟨h.os, h.tape, h.output, h.size, fun k hk => h.block k hk (by simp)⟩
theorem grown_drewN (w : World) (n : Nat) : w.grownBy (w.drewN n) none := ⟨rfl, rfl, rfl, Nat.le_refl _, fun _ _ _ => rfl⟩
theorem grown_own {a b c : World} {base t : Nat} {v : Value} {n : Nat} {xs : List Value} (h : a.grownBy b none) (ho : b.ownsRow base t 1 v n xs) (k : b.grownBy c v.ownBlock) (hb : a.heap.size ≤ base) : a.grownBy c none :=
  ⟨k.os.trans h.os, k.tape.trans h.tape, k.output.trans h.output, Nat.le_trans h.size k.size, fun i hi _ => (k.block i (Nat.lt_of_lt_of_le hi h.size) (fun e => by have := (ho.lt i e.symm).1; omega)).trans (h.block i hi (by simp))⟩

/-- floats as cells -/
def fv (xs : List Nat) : List Value := xs.map encF
theorem fv_length (xs : List Nat) : (fv xs).length = xs.length := by simp [fv]
theorem fv_append (a b : List Nat) : fv (a ++ b) = fv a ++ fv b := by simp [fv]
theorem fv_getElem? (xs : List Nat) (i : Nat) (h : i < xs.length) : (fv xs)[i]? = some (encF (xs.getD i 0)) := by
  simp [fv, List.getElem?_eq_getElem h]
theorem fv_one (xs : List Nat) : ∀ v ∈ fv xs, v.oneCell' = true := by
  intro v hv
  simp only [fv, List.mem_map] at hv
  obtain ⟨x, _, rfl⟩ := hv
  rfl
theorem owns_row {w : World} {base : Nat} {v : Value} {n : Nat} {xs : List Nat} (h : w.ownsRow base 23 1 v n (fv xs)) (hb : ∀ x ∈ xs, x < 18446744073709551616) (hl : n ≤ maxLen) : ∃ a cap, v = .slice a n cap ∧ n ≤ cap ∧ cap ≤ maxLen ∧ Row encF w a n xs := by
  obtain ⟨h1, h2⟩ := h
  rw [fv_length, Nat.mul_one] at h1
  rcases h2 with ⟨rfl, rfl⟩ | ⟨g, cap, cur, rfl, _, hg, hc, hm, hs, ht⟩
  · exact ⟨none, 0, rfl, Nat.le_refl _, Nat.zero_le _, h1, hl, hb, fun h => absurd h (by omega)⟩
  · refine ⟨_, cap, rfl, hc, hm, h1, hl, hb, fun _ => ⟨g, 0, rfl, fun i hi => ?_⟩⟩
    have e : w.cell? ⟨g, 0 + i, none⟩ = cur[i]? := by simp [World.cell?, hg]
    rw [e, ← fv_getElem? _ _ (by omega), ← ht, Nat.mul_one, List.getElem?_take, if_pos hi, Array.getElem?_toList]
theorem Try.info23 : (Try.prog.info? 23).map (fun i => (i.zero, i.size, i.bytes)) = some (some (.float .f64 0), 1, 8) := by kernel_rfl
theorem Try.info48 : (Try.prog.info? 48).map (fun i => (i.zero, i.size, i.bytes)) = some (some (.float .f64 0), 1, 8) := by kernel_rfl

/-- what is known of a slice of numbers that came in -/
def IsRow (k : IntKind) (w : World) (a : Option Addr) (len cap : Nat) (zs : List Int) : Prop :=
  (a = none ∧ len = 0 ∧ cap = 0 ∧ zs = []) ∨
  ∃ x, a = some x ∧ len ≤ cap ∧ cap ≤ maxLen ∧ zs.length = cap ∧ (∀ i, i < zs.length → w.cell? (x.add i) = some (.int k (zs.getD i 0))) ∧ ∀ n ∈ zs, (Lit.int k n).wf = true
theorem IsRow.row {w : World} {a : Option Addr} {len cap : Nat} {zs : List Int} (h : IsRow .u64 w a len cap zs) : Row encU w a len ((zs.take len).map Int.toNat) := by
  rcases h with ⟨rfl, rfl, rfl, rfl⟩ | ⟨x, rfl, hl, hm, hz, hcell, hwz⟩
  · exact ⟨rfl, Nat.zero_le _, fun n hn => by simp at hn, fun h => absurd h (by omega)⟩
  · refine ⟨by simp; omega, by omega, fun n hn => ?_, fun h0 => ?_⟩
    · obtain ⟨z, hz, rfl⟩ := List.mem_map.1 hn
      have := wf_u64 (hwz z (List.mem_of_mem_take hz))
      omega
    obtain ⟨b, off, spot⟩ := x
    have hc := hcell 0 (by omega)
    have hspot : spot = none := by simpa [Addr.add] using World.cell?_spot hc
    subst hspot
    refine ⟨b, off, rfl, fun i hi => ?_⟩
    have hadd : (⟨b, off, none⟩ : Addr).add i = ⟨b, off + i, none⟩ := by unfold Addr.add; split <;> simp_all
    have hi' : i < zs.length := by omega
    have hw := wf_u64 (hwz _ (List.getElem_mem hi'))
    rw [← hadd, hcell i hi']
    have e1 : zs.getD i 0 = zs[i] := by rw [List.getD_eq_getElem?_getD, List.getElem?_eq_getElem hi']; rfl
    have e2 : ((zs.take len).map Int.toNat).getD i 0 = zs[i].toNat := by
      rw [List.getD_eq_getElem?_getD, List.getElem?_map, List.getElem?_take, if_pos hi, List.getElem?_eq_getElem hi']; rfl
    rw [e1, e2]
    unfold encU
    congr 2
    omega
end Go.Proofs.Ytekblghlaogeaaa
