/- The writer of inodes. -/
import Derived.Test.YtpahnkodhonlgaaHI
import Derived.Test.YtpahnkodhonlgaaOA
import Derived.Deep.RegionHeld3
import Derived.Lib.ConvBytes
namespace Go.Proofs.Ytpahnkodhonlgaa
open Go.RowKit
set_option maxRecDepth 100000
set_option linter.unusedSimpArgs false
set_option linter.unusedVariables false
def wr15 (p : Nat) : Value := .agg #[.pointer (some ⟨p, 0, none⟩)]
theorem Row.grownS {w w' : World} {g n : Nat} {a : Option Addr} {xs : List Int} (h : Row w a n xs) (k : w.grownBy w' (some g)) (hlt : ∀ b off, a = some ⟨b, off, none⟩ → 0 < n → b ≠ g) : Row w' a n xs := by
  refine ⟨h.len_eq, h.le, h.byt, fun h0 => ?_⟩
  obtain ⟨b, off, e, hc⟩ := h.cells h0
  refine ⟨b, off, e, fun i hi => ?_⟩
  have h1 := hc i hi
  have h2 := cell_lt h1
  unfold World.cell? at h1 ⊢
  simp only at h1 ⊢
  rw [k.block b h2 (fun e2 => hlt b off e h0 (by injection e2))]
  exact h1
theorem Chg.cellC {w w' : World} {p : Nat} {v v' : Value} (h : Chg w w' p v v') {b k : Nat} {c : Value} (hc : w.cell? ⟨b, k, none⟩ = some c) (hp : b ≠ p) (hv : some b ≠ v.ownBlock) : w'.cell? ⟨b, k, none⟩ = some c := by
  unfold World.cell? at hc ⊢
  simp only at hc ⊢
  rw [h.block b (cell_lt (o := k) (v := c) hc) hp hv]
  exact hc
theorem own_lt15 {w : World} {p : Nat} {v : Value} {bs : List Int} {most e : Int} (h : WInv w p v bs most e) : some w.heap.size ≠ v.ownBlock := fun q => by have := (h.own.lt w.heap.size q.symm).2; omega
def nums (s : ByteArray) : List Int := s.data.toList.map fun c => (c.toNat : Int)
theorem nums_len (s : ByteArray) : (nums s).length = s.size := by simp [nums]
theorem nums_byt (s : ByteArray) : Byt (nums s) := by
  intro x hx
  obtain ⟨c, _, rfl⟩ := List.mem_map.1 hx
  exact ⟨by omega, by have := c.toNat_lt; omega⟩
/-- a text as bytes -/
theorem conv15 (s : ByteArray) (w : World) (hs : s.size ≤ maxLen) : ∃ cap W, (convert 9 29 (.string s)).run Try.prog w = .ok (.slice (some ⟨w.heap.size, 0, none⟩) s.size cap) W ∧ w.grownBy W none ∧ Row W (some ⟨w.heap.size, 0, none⟩) s.size (nums s) ∧ w.heap.size < W.heap.size := by
  refine ⟨_, _, Lib.run_convert_string_bytes w 9 29 5 s Try.underlying9 Try.underlying29 Try.underlying5, ?_, ?_, ?_⟩
  · refine ⟨rfl, rfl, rfl, by rw [Lib.bytesWorld_size]; omega, fun k hk _ => Lib.bytesWorld_at_old w 5 s k hk⟩
  · refine ⟨nums_len s, hs, nums_byt s, fun _ => ⟨_, _, rfl, fun i hi => ?_⟩⟩
    rw [Nat.zero_add, Lib.bytesWorld_cell w 5 s i hi]
    congr 2
    have h2 : i < s.data.toList.length := by simpa using hi
    simp [nums, List.getD_eq_getElem?_getD, List.getElem?_eq_getElem h2]
  · rw [Lib.bytesWorld_size]; omega
end Go.Proofs.Ytpahnkodhonlgaa
