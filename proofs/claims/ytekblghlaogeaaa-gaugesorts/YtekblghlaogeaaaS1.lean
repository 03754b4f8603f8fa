/- Plain facts on lists that are sorted by exchanges: what an exchange changes, what stays. -/
import Derived.Test.YtekblghlaogeaaaQ
namespace Go.Proofs.Ytekblghlaogeaaa
open Go.RowKit

def gt (xs : List Nat) (i : Nat) : Nat := xs.getD i 0
def kt (xs : List Nat) (i : Nat) : Nat := key (gt xs i)
/-- an exchange -/
def sw (xs : List Nat) (i j : Nat) : List Nat := (xs.set i (gt xs j)).set j (gt xs i)
theorem sw_length (xs : List Nat) (i j : Nat) : (sw xs i j).length = xs.length := by simp [sw]
theorem gt_sw {xs : List Nat} {i j : Nat} (hi : i < xs.length) (hj : j < xs.length) (t : Nat) : gt (sw xs i j) t = if t = j then gt xs i else if t = i then gt xs j else gt xs t := by
  unfold sw
  have e1 : gt ((xs.set i (gt xs j)).set j (gt xs i)) t = (((xs.set i (gt xs j)).set j (gt xs i))[t]?).getD 0 := by unfold gt; rw [List.getD_eq_getElem?_getD]
  rw [e1]
  by_cases h1 : t = j
  · subst h1; rw [if_pos rfl, List.getElem?_set_self (by simpa using hj)]; rfl
  · rw [if_neg h1, List.getElem?_set_ne (fun e => h1 e.symm)]
    by_cases h2 : t = i
    · subst h2; rw [if_pos rfl, List.getElem?_set_self hi]; rfl
    · rw [if_neg h2, List.getElem?_set_ne (fun e => h2 e.symm)]; unfold gt; rw [List.getD_eq_getElem?_getD]
theorem sw_perm {xs : List Nat} {i j : Nat} (hi : i < xs.length) (hj : j < xs.length) : (sw xs i j).Perm xs := by
  have h := Array.swap_perm (xs := xs.toArray) (i := i) (j := j) (by simpa using hi) (by simpa using hj)
  have h2 := Array.perm_iff_toList_perm.1 h
  rw [Array.toList_swap] at h2
  have e1 : gt xs j = xs[j] := by unfold gt; rw [List.getD_eq_getElem?_getD, List.getElem?_eq_getElem hj]; rfl
  have e2 : gt xs i = xs[i] := by unfold gt; rw [List.getD_eq_getElem?_getD, List.getElem?_eq_getElem hi]; rfl
  unfold sw
  rw [e1, e2]
  simpa using h2

/-- moved about between lo and hi -/
structure Mv (lo hi : Nat) (xs ys : List Nat) : Prop where
  perm : ys.Perm xs
  out : ∀ i, (i < lo ∨ hi ≤ i) → gt ys i = gt xs i
  inn : ∀ i, lo ≤ i → i < hi → ∃ k, lo ≤ k ∧ k < hi ∧ gt ys i = gt xs k
theorem Mv.len {lo hi : Nat} {xs ys : List Nat} (h : Mv lo hi xs ys) : ys.length = xs.length := h.perm.length_eq
theorem Mv.refl (lo hi : Nat) (xs : List Nat) : Mv lo hi xs xs := ⟨List.Perm.refl _, fun _ _ => rfl, fun i h1 h2 => ⟨i, h1, h2, rfl⟩⟩
theorem Mv.trans {lo hi : Nat} {xs ys zs : List Nat} (h : Mv lo hi xs ys) (k : Mv lo hi ys zs) : Mv lo hi xs zs :=
  ⟨k.perm.trans h.perm, fun i hi' => (k.out i hi').trans (h.out i hi'), fun i h1 h2 => by
    obtain ⟨a, a1, a2, a3⟩ := k.inn i h1 h2
    obtain ⟨b, b1, b2, b3⟩ := h.inn a a1 a2
    exact ⟨b, b1, b2, a3.trans b3⟩⟩
theorem Mv.widen {lo hi lo' hi' : Nat} {xs ys : List Nat} (h : Mv lo hi xs ys) (h1 : lo' ≤ lo) (h2 : hi ≤ hi') : Mv lo' hi' xs ys :=
  ⟨h.perm, fun i hh => h.out i (by omega), fun i k1 k2 => by
    by_cases c : lo ≤ i ∧ i < hi
    · obtain ⟨k, a1, a2, a3⟩ := h.inn i c.1 c.2
      exact ⟨k, by omega, by omega, a3⟩
    · exact ⟨i, k1, k2, h.out i (by omega)⟩⟩
theorem Mv.sw {lo hi i j : Nat} {xs : List Nat} (h1 : lo ≤ i) (h2 : i < hi) (h3 : lo ≤ j) (h4 : j < hi) (h5 : hi ≤ xs.length) : Mv lo hi xs (sw xs i j) := by
  refine ⟨sw_perm (by omega) (by omega), fun t ht => ?_, fun t t1 t2 => ?_⟩
  · rw [gt_sw (by omega) (by omega), if_neg (by omega), if_neg (by omega)]
  · rw [gt_sw (by omega) (by omega)]
    by_cases c1 : t = j
    · rw [if_pos c1]; exact ⟨i, h1, h2, rfl⟩
    · rw [if_neg c1]
      by_cases c2 : t = i
      · rw [if_pos c2]; exact ⟨j, h3, h4, rfl⟩
      · rw [if_neg c2]; exact ⟨t, t1, t2, rfl⟩
/-- in order between lo and hi -/
def Srt (lo hi : Nat) (xs : List Nat) : Prop := ∀ i j, lo ≤ i → i ≤ j → j < hi → kt xs i ≤ kt xs j
theorem Srt.one (lo hi : Nat) (xs : List Nat) (h : hi ≤ lo + 1) : Srt lo hi xs := fun i j h1 h2 h3 => by
  have : i = j := by omega
  rw [this]; exact Nat.le_refl _

/-- the row in memory: block g, made behind w0 -/
structure FB (w0 W : World) (g : Nat) (xs : List Nat) : Prop where
  blk : W.heap[g]? = some (.cells (fv xs).toArray 48 (0, 0))
  grown : w0.grownBy W none
  new : w0.heap.size ≤ g
theorem FB.cell {w0 W : World} {g : Nat} {xs : List Nat} (h : FB w0 W g xs) {i : Nat} (hi : i < xs.length) : W.cell? ⟨g, i, none⟩ = some (.float .f64 (gt xs i)) := by
  simp [World.cell?, h.blk]
  have := fv_getElem? xs i hi
  unfold gt
  exact this
theorem FB.frozen {w0 W : World} {g : Nat} {xs : List Nat} (h : FB w0 W g xs) (i : Nat) : W.frozen? ⟨g, i, none⟩ = false := by
  simp [World.frozen?, h.blk]
theorem FB.drewN {w0 W : World} {g : Nat} {xs : List Nat} (h : FB w0 W g xs) (n : Nat) : FB w0 (W.drewN n) g xs := ⟨h.blk, grown_trans h.grown (grown_drewN W n), h.new⟩
theorem FB.drew {w0 W : World} {g : Nat} {xs : List Nat} (h : FB w0 W g xs) : FB w0 W.drew g xs := h.drewN 1
theorem FB.set {w0 W : World} {g : Nat} {xs : List Nat} (h : FB w0 W g xs) (i x : Nat) : FB w0 (W.setCell ⟨g, i, none⟩ (.float .f64 x)) g (xs.set i x) := by
  refine ⟨?_, ?_, h.new⟩
  · rw [setCell_eq_setRow W g i _ _ _ _ h.blk, setRow_heap W g _ _ _ _ h.blk]
    simp [fv, List.map_set, encF]
  · refine ⟨h.grown.os, h.grown.tape, h.grown.output, ?_, fun k hk hr => ?_⟩
    · simpa [World.setCell] using h.grown.size
    · have hne : k ≠ g := by have := h.new; omega
      rw [← h.grown.block k hk hr]
      exact Below.heap_setCell _ _ _ _ hne
theorem FB.swap {w0 W : World} {g : Nat} {xs : List Nat} (h : FB w0 W g xs) (i j : Nat) : FB w0 ((W.setCell ⟨g, i, none⟩ (.float .f64 (gt xs j))).setCell ⟨g, j, none⟩ (.float .f64 (gt xs i))).drew g (sw xs i j) :=
  ((h.set i _).set j _).drew
/-- behind the exchange's first store the second place still holds something -/
theorem FB.cell2 {w0 W : World} {g : Nat} {xs : List Nat} (h : FB w0 W g xs) {i j : Nat} (hj : j < xs.length) (x : Nat) : ∃ u, (W.setCell ⟨g, i, none⟩ (.float .f64 x)).cell? ⟨g, j, none⟩ = some u :=
  ⟨_, (h.set i x).cell (by simpa using hj)⟩
end Go.Proofs.Ytekblghlaogeaaa
