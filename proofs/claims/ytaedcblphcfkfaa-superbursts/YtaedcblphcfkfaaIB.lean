/- Contracts of Make, Good, More and Crc: the table lies in a block of 256 cells. -/
import Derived.Test.YtaedcblphcfkfaaIA
import Derived.Test.YtaedcblphcfkfaaHS
import Derived.Deep.WholeRow
import Derived.Deep.DeepCutAuto
namespace Go.Proofs.Ytaedcblphcfkfaa
open Go.RowKit
set_option linter.unusedSimpArgs false
set_option linter.unusedVariables false

/-- the cells of a table -/
def tcs (f : Nat → Nat) : List Value := (List.range 256).map fun i => .int .u32 (f i)
theorem tcs_length (f : Nat → Nat) : (tcs f).length = 256 := by simp [tcs]
theorem tcs_get (f : Nat → Nat) (i : Nat) (h : i < 256) : (tcs f)[i]? = some (.int .u32 (f i)) := by simp [tcs, h]
theorem tcs_one (f : Nat → Nat) : (tcs f).toArray.all (·.oneCell') = true := by simp [tcs, Value.oneCell']
theorem tcs_set (f : Nat → Nat) (j x : Nat) (h : j < 256) : (tcs f).set j (.int .u32 x) = tcs fun i => if i = j then x else f i := by
  apply List.ext_getElem?
  intro i
  rw [List.getElem?_set]
  by_cases hi : i < 256
  · rw [tcs_get _ i hi, tcs_get _ i hi]
    by_cases e : j = i
    · subst e; simp [tcs_length, h]
    · simp [e, Ne.symm e]
  · have h1 : (tcs f)[i]? = none := List.getElem?_eq_none (by rw [tcs_length]; omega)
    rw [h1, List.getElem?_eq_none (by rw [tcs_length]; omega), if_neg (by omega)]
def upto (j i : Nat) : Nat := if i < j then ent i else 0
theorem upto_step (j : Nat) : (fun i => if i = j then ent j else upto j i) = upto (j + 1) := by
  funext i
  unfold upto
  by_cases h : i = j
  · subst h; simp
  · by_cases h2 : i < j
    · simp [h, h2, show i < j + 1 by omega]
    · simp [h, h2, show ¬ i < j + 1 by omega]
theorem upto_zero : upto 0 = fun _ => 0 := by funext i; simp [upto]
theorem tcs_upto : tcs (upto 256) = tcs ent := by
  unfold tcs
  apply List.map_congr_left
  intro i hi
  rw [List.mem_range] at hi
  simp [upto, hi]
/-- guards: the next operation is a load, a store of a whole table -/
theorem load24_here {P : Program} {w : World} {ops : Array Oper} {rest : List Oper} {a : Act} {Q : Exit → Act → World → Prop} {dst : Option Nat} {x : Operand} {type : TypeId} {pos : String} {after : Array Edge} {guard : Option (Nat × Bool)}
    (h : wpList P ops Q (⟨dst, .load 84 x, type, pos, after, guard⟩ :: rest) a w) : wpList P ops Q (⟨dst, .load 84 x, type, pos, after, guard⟩ :: rest) a w := h
theorem store24_here {P : Program} {w : World} {ops : Array Oper} {rest : List Oper} {a : Act} {Q : Exit → Act → World → Prop} {dst : Option Nat} {x y : Operand} {type : TypeId} {pos : String} {after : Array Edge} {guard : Option (Nat × Bool)}
    (h : wpList P ops Q (⟨dst, .store 84 x y, type, pos, after, guard⟩ :: rest) a w) : wpList P ops Q (⟨dst, .store 84 x y, type, pos, after, guard⟩ :: rest) a w := h
theorem zero24 : (∀ w, (zeroValue 84).run Try.prog w = .ok (.agg (tcs (upto 0)).toArray) w) ∧ (Try.prog.info? 84).map (·.size) = some 256 := by
  rw [upto_zero]
  exact zero_of_info (by kernel_rfl)

set_option maxHeartbeats 400000 in
theorem make_any (w : World) : Calls Try.prog 46 #[] w fun e w' => e = .returned (.agg (tcs ent).toArray) ∧ w.grownBy w' none := by
  obtain ⟨hz, hs⟩ := zero24
  go_enter Try.func46, Try.ntmps46
  go_wp2
  have h1 : SBlk ((w.alloc (.cells (tcs (upto 0)).toArray 84)).alloc (.cells (tcs (upto 0)).toArray 84)) (w.heap.size + 1) (tcs (upto 0)) 84 := heap_alloc2_new w _ _
  have h2 : SBlk ((w.alloc (.cells (tcs (upto 0)).toArray 84)).alloc (.cells (tcs (upto 0)).toArray 84)) w.heap.size (tcs (upto 0)) 84 := heap_alloc2_old w _ _
  have hg : w.grownBy ((w.alloc (.cells (tcs (upto 0)).toArray 84)).alloc (.cells (tcs (upto 0)).toArray 84)) none := grown_trans (World.grownBy_alloc _ _ _) (World.grownBy_alloc _ _ _)
  go_loopw [2, 3] (fun _ i wr => ∃ j : Nat, j ≤ 256 ∧ i = .int .i64 j ∧ SBlk wr (w.heap.size + 1) (tcs (upto j)) 84 ∧ SBlk wr w.heap.size (tcs (upto 0)) 84 ∧ w.grownBy wr none) (fun _ i _ => 256 - (intOf i).toNat)
  case atStart => exact ⟨0, Nat.zero_le _, rfl, h1, h2, hg⟩
  case round =>
    clear h1 h2 hg hz
    obtain ⟨j, hj, rfl, h1, h2, hg⟩ := hrel
    by_cases hlt : j < 256
    · have hE := fun w => entry_any j w (by omega)
      have hc := h1.cell j
      rw [tcs_get _ j hlt] at hc
      have hf := h1.frozen j
      have H1 : Hid (SBlk wr (w.heap.size + 1) (tcs (upto j)) 84) := h1
      have H2 : Hid (SBlk wr w.heap.size (tcs (upto 0)) 84) := h2
      have hj1 : (j : Int) < 256 := by omega
      generalize upto j j = y at hc
      clear h1 h2 hs
      go_wp2_with (go_at_call 49; refine (hE _).mono ?_; rintro e w' ⟨rfl, rfl⟩)
      go_roundw
      case rel =>
        refine ⟨j + 1, by omega, by go_num, ?_, SBlk.grown H2.out (grown_set _ _ _ _) (by simp), grown_new hg (grown_set _ _ _ _) (by omega)⟩
        have := SBlk.set H1.out j (.int .u32 (ent j))
        rw [tcs_set _ _ _ hlt, upto_step] at this
        exact this
      case measure => simp [intOf]; omega
    · have : j = 256 := by omega
      subst this
      rw [tcs_upto] at h1
      have hi : (Try.prog.info? 84).map (·.size) = some (tcs ent).toArray.size := by simp [hs, tcs_length]
      have ho : (tcs (upto 0)).toArray.size = (tcs ent).toArray.size := by simp [tcs_length]
      have h3 := setRow_heap wr w.heap.size (tcs (upto 0)).toArray (tcs ent).toArray 84 (0, 0) h2
      have hg2 : w.grownBy (wr.setRow w.heap.size (tcs ent).toArray) none := ⟨hg.os, hg.tape, hg.output, by simpa using hg.size, fun k hk _ => (setRow_other wr w.heap.size k _ (by omega)).trans (hg.block k hk (by simp))⟩
      have H1 : Hid (wr.heap[w.heap.size + 1]? = some (.cells (tcs ent).toArray 84 (0, 0))) := h1
      have H2 : Hid (wr.heap[w.heap.size]? = some (.cells (tcs (upto 0)).toArray 84 (0, 0))) := h2
      have HI : Hid ((Try.prog.info? 84).map (·.size) = some (tcs ent).toArray.size) := hi
      have HO : Hid ((tcs (upto 0)).toArray.size = (tcs ent).toArray.size) := ho
      have H3 : Hid ((wr.setRow w.heap.size (tcs ent).toArray).heap[w.heap.size]? = some (.cells (tcs ent).toArray 84 (0, 0))) := h3
      have HG : Hid (w.grownBy (wr.setRow w.heap.size (tcs ent).toArray) none) := hg2
      clear h1 h2 hs hi ho h3 hg2 hg
      go_wp2_with (first | (with_reducible refine load24_here ?_; refine wpList_load_row rfl 84 _ rfl (w.heap.size + 1) rfl 84 _ (0, 0) _ H1.out Try.underlying84 rfl HI.out ?_) | (with_reducible refine store24_here ?_; refine wpList_store_row rfl 84 _ _ rfl w.heap.size _ rfl rfl 84 _ H2.out HI.out HO.out (tcs_one _) ?_))
      exact bodyPost_ret (v := .agg (tcs ent).toArray) (results_cell_row rfl _ _ w.heap.size 84 _ (0, 0) _ rfl H3.out Try.underlying84 rfl HI.out) rfl ⟨rfl, HG.out⟩
end Go.Proofs.Ytaedcblphcfkfaa
