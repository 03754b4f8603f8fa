/- The program's boot: a record's bytes. -/
import Derived.Test.YtaedcblphcfkfaaEP
import Derived.Test.YtaedcblphcfkfaaHI
import Derived.Test.YtaedcblphcfkfaaID
namespace Go.Proofs.Ytaedcblphcfkfaa
open Go.RowKit
set_option linter.unusedSimpArgs false
set_option linter.unusedVariables false

/-- Encode, as a plain function -/
def ren (r : Rc) : List Int × Int := if rrt r = true then (rby r, 0) else ([], 1)
/-- an answer of bytes, in new memory -/
def EnPost (w : World) (r : List Int × Int) (e : Ending) (w' : World) : Prop := ∃ a n c, e = .returned (.tuple #[.slice a n c, .int .i64 r.2]) ∧ w'.ownsRow w.heap.size 5 1 (.slice a n c) n (bv r.1) ∧ w.grownBy w' none
theorem sto_one {s : Int} (h0 : 0 ≤ s) (h1 : s ≤ 255) : sto s 1 = [s] := by
  have e : s % 256 = s := by omega
  first | (simp [sto, e]; done) | (unfold sto; simp [e]; done) | (rw [sto_snoc]; simp [sto, e])
theorem ckE0 {n : Int} {m : Int} (hw : isW m = true) (h : n ≤ lg m) : ckE n m = 0 := by
  unfold ckE; rw [if_pos hw, if_neg (by omega)]

theorem marked_row (w : World) (bs : List Int) (m : Nat × Nat) (hb : Byt bs) (hl : bs.length ≤ maxLen) : Row (w.alloc (.cells (bv bs).toArray 5 m)) (some ⟨w.heap.size, 0, none⟩) bs.length bs := by
  refine ⟨rfl, hl, hb, fun h0 => ⟨_, 0, rfl, fun i hi => ?_⟩⟩
  have e : (w.alloc (.cells (bv bs).toArray 5 m)).heap[w.heap.size]? = some (.cells (bv bs).toArray 5 m) := heap_alloc_new _ _
  unfold World.cell?
  simp only [e, Nat.zero_add]
  rw [List.getElem?_toArray, bv_getElem? bs i hi]
  rfl
end Go.Proofs.Ytaedcblphcfkfaa
