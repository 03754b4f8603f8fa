/- The program's chains: a place more. -/
import Derived.Test.YteghhmnkdmehbaaMB
import Derived.Deep.RegionHeld3
namespace Go.Proofs.Yteghhmnkdmehbaa
open Go.RowKit
set_option linter.unusedSimpArgs false
set_option linter.unusedVariables false

def hcs (bs : List Int) (p : Nat) : List Value := (List.range 8192).map fun s => Value.int .i64 (las bs s p)
def bcs (bs : List Int) (p : Nat) : List Value := (List.range bs.length).map fun j => Value.int .i64 (if j < p then (las bs (slt bs j) j : Int) - 1 else 0)
theorem hcs_len (bs : List Int) (p : Nat) : (hcs bs p).length = 8192 := by unfold hcs; rw [List.length_map, List.length_range]
theorem bcs_len (bs : List Int) (p : Nat) : (bcs bs p).length = bs.length := by unfold bcs; rw [List.length_map, List.length_range]
theorem map_range_get {α : Type} (f : Nat → α) (n i : Nat) (h : i < n) : ((List.range n).map f)[i]? = some (f i) := by simp [h]
theorem map_range_set {α : Type} (f f' : Nat → α) (n j : Nat) (x : α) (hx : f' j = x) (h : ∀ i, i ≠ j → f' i = f i) : ((List.range n).map f).set j x = (List.range n).map f' := by
  apply List.ext_getElem?
  intro i
  rw [List.getElem?_set]
  by_cases hi : i < n
  · rw [map_range_get _ _ _ hi, map_range_get _ _ _ hi]
    by_cases e : j = i
    · subst e; simp [hi, hx]
    · rw [if_neg e, h i (fun k => e k.symm)]
  · rw [List.getElem?_eq_none (l := (List.range n).map f) (by simp; omega), List.getElem?_eq_none (l := (List.range n).map f') (by simp; omega)]
    split
    · simp; omega
    · rfl
theorem hcs_set (bs : List Int) (p : Nat) : (hcs bs p).set (slt bs p) (.int .i64 ((p : Int) + 1)) = hcs bs (p + 1) := by
  unfold hcs
  refine map_range_set _ _ _ _ _ ?_ ?_
  · show Value.int .i64 (las bs (slt bs p) (p + 1) : Nat) = _; rw [las, if_pos rfl]; rfl
  · intro i hi; show Value.int .i64 (las bs i (p + 1) : Nat) = Value.int .i64 (las bs i p : Nat); rw [las, if_neg (fun e => hi e.symm)]
theorem bcs_set (bs : List Int) (p : Nat) : (bcs bs p).set p (.int .i64 ((las bs (slt bs p) p : Int) - 1)) = bcs bs (p + 1) := by
  unfold bcs
  refine map_range_set _ _ _ _ _ ?_ ?_
  · rw [if_pos (by omega)]
  · intro i hi
    by_cases h : i < p
    · rw [if_pos h, if_pos (by omega)]
    · rw [if_neg h, if_neg (by omega)]
/-- the chains of the places ahead of p, in two blocks -/
structure Chn (W : World) (g gb : Nat) (bs : List Int) (p : Nat) : Prop where
  hd : Box W g 60 (hcs bs p ++ [.slice (some ⟨gb, 0, none⟩) bs.length bs.length])
  bf : Box W gb 3 (bcs bs p)
theorem Chn.ne {W : World} {g gb : Nat} {bs : List Int} {p : Nat} (h : Chn W g gb bs p) : g ≠ gb := by
  intro e
  have h1 := h.hd.blk
  have h2 := h.bf.blk
  rw [e, h2] at h1
  injection h1 with h1
  injection h1 with e1 e2 e3
  exact absurd e2 (by decide)
theorem Chn.head {W : World} {g gb : Nat} {bs : List Int} {p : Nat} (h : Chn W g gb bs p) (s : Nat) (hs : s < 8192) : W.cell? ⟨g, s, none⟩ = some (.int .i64 (las bs s p)) := by
  rw [h.hd.c, List.getElem?_append_left (by rw [hcs_len]; exact hs)]
  unfold hcs
  rw [map_range_get _ _ _ hs]
theorem Chn.row {W : World} {g gb : Nat} {bs : List Int} {p : Nat} (h : Chn W g gb bs p) : W.cell? ⟨g, 8192, none⟩ = some (.slice (some ⟨gb, 0, none⟩) bs.length bs.length) := by
  rw [h.hd.c, List.getElem?_append_right (by rw [hcs_len]; exact Nat.le_refl _), hcs_len]
  rfl
theorem Chn.bef {W : World} {g gb : Nat} {bs : List Int} {p : Nat} (h : Chn W g gb bs p) (j : Nat) (hj : j < p) (hl : j < bs.length) : W.cell? ⟨gb, j, none⟩ = some (.int .i64 ((las bs (slt bs j) j : Int) - 1)) := by
  rw [h.bf.c]
  unfold bcs
  rw [map_range_get _ _ _ hl, if_pos hj]
theorem Chn.any {W : World} {g gb : Nat} {bs : List Int} {p : Nat} (h : Chn W g gb bs p) (j : Nat) (hl : j < bs.length) : ∃ x : Int, W.cell? ⟨gb, j, none⟩ = some (.int .i64 x) := by
  rw [h.bf.c]
  unfold bcs
  rw [map_range_get _ _ _ hl]
  exact ⟨_, rfl⟩
theorem Chn.kept {W W' : World} {g gb : Nat} {bs : List Int} {p : Nat} (h : Chn W g gb bs p) (k : W.grownBy W' none) : Chn W' g gb bs p := ⟨h.hd.kept k (by simp), h.bf.kept k (by simp)⟩
theorem Chn.step {W : World} {g gb : Nat} {bs : List Int} {p : Nat} (h : Chn W g gb bs p) : Chn ((W.setCell ⟨gb, p, none⟩ (.int .i64 ((las bs (slt bs p) p : Int) - 1))).setCell ⟨g, slt bs p, none⟩ (.int .i64 ((p : Int) + 1))) g gb bs (p + 1) := by
  have b1 := h.bf.set p (.int .i64 ((las bs (slt bs p) p : Int) - 1))
  rw [bcs_set] at b1
  have h1 := h.hd.kept (grown_set W gb p (.int .i64 ((las bs (slt bs p) p : Int) - 1))) (by simp [h.ne])
  have h3 := h1.set (slt bs p) (.int .i64 ((p : Int) + 1))
  rw [List.set_append_left _ _ (by rw [hcs_len]; exact slt_lt _ _), hcs_set] at h3
  exact ⟨h3, b1.kept (grown_set _ _ _ _) (by simp [h.ne.symm])⟩
theorem slot_take {bs : List Int} (p n : Nat) (h : 4 ≤ n) : hsh (((bs.drop p).take n).getD 0 0) (((bs.drop p).take n).getD 1 0) (((bs.drop p).take n).getD 2 0) (((bs.drop p).take n).getD 3 0) = (slt bs p : Int) := by
  rw [← slt_eq]
  have e : ∀ i, i < 4 → ((bs.drop p).take n).getD i 0 = bs.getD (p + i) 0 := by
    intro i hi
    rw [List.getD_eq_getElem?_getD, List.getD_eq_getElem?_getD, List.getElem?_take, if_pos (by omega), List.getElem?_drop]
  rw [e 0 (by omega), e 1 (by omega), e 2 (by omega), e 3 (by omega)]
  rfl
theorem index_head (g s : Nat) (hs : s < 8192) (w : World) : (Instr.indexAt 58 (.pointer (some ⟨g, 0, none⟩)) (.int .u32 (s : Int))).run Try.prog w = .ok (.pointer (some ⟨g, s, none⟩)) w := by
  have h0 : (0 : Int) ≤ (s : Int) := by omega
  have h1 : (s : Int) < 8192 := by omega
  simp [go_sem, h0, h1]
/-- a guard: the next operation is a place in the heads -/
theorem head_here {P : Program} {w : World} {ops : Array Oper} {rest : List Oper} {a : Act} {Q : Exit → Act → World → Prop} {dst : Option Nat} {x y : Operand} {type : TypeId} {pos : String} {after : Array Edge} {guard : Option (Nat × Bool)}
    (k : wpList P ops Q (⟨dst, .indexAddr 58 x y, type, pos, after, guard⟩ :: rest) a w) : wpList P ops Q (⟨dst, .indexAddr 58 x y, type, pos, after, guard⟩ :: rest) a w := k
theorem wpList_head {P : Program} {w : World} {ops : Array Oper} {rest : List Oper} {o : Oper} {a : Act} {Q : Exit → Act → World → Prop} (hg : o.guard = none) (t : TypeId) (x y : Operand) (ho : o.op = .indexAddr t x y)
    (u v r : Value) (hx : a.eval x = u) (hy : a.eval y = v) (hr : (Instr.indexAt t u v).run P w = .ok r w)
    (hk : wpList P ops Q rest (a.put o.dst r) w) : wpList P ops Q (o :: rest) a w := by
  refine wpList_plain hg fun K' hK' => ?_
  unfold Oper.wp
  simp only [execOp, ho, hx, hy, Sem.run_bind, hr, Result.andThen]
  exact hK' _ _ hk
/-- only these two blocks were written -/
def Two (g gb : Nat) (W W' : World) : Prop := ∃ W1, W.grownBy W1 (some gb) ∧ W1.grownBy W' (some g)

end Go.Proofs.Yteghhmnkdmehbaa
