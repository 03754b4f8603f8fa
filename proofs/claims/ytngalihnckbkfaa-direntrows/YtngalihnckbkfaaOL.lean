/- The reader of inodes: a number. -/
import Derived.Test.YtngalihnckbkfaaHD
import Derived.Test.YtngalihnckbkfaaOA
import Derived.Deep.RegionHeld3
namespace Go.Proofs.Ytngalihnckbkfaa
open Go.RowKit
set_option maxRecDepth 100000
set_option linter.unusedSimpArgs false
set_option linter.unusedVariables false
/-- from W to W' the reader's block q and the block b alone have turned -/
structure Ch2 (W W' : World) (q b : Nat) : Prop where
  os : W'.os = W.os
  tape : W'.tape = W.tape
  output : W'.output = W.output
  size : W.heap.size ≤ W'.heap.size
  block : ∀ k, k < W.heap.size → k ≠ q → k ≠ b → W'.heap[k]? = W.heap[k]?
theorem Ch2.bx {W W' : World} {q b g : Nat} {T : TypeId} {cs : List Value} (h : Ch2 W W' q b) (k : Bx W g T cs) (h1 : g ≠ q) (h2 : g ≠ b) : Bx W' g T cs := ⟨by rw [h.block g k.lt h1 h2]; exact k.blk⟩
theorem Ch2.of_grown {W W' : World} {q b : Nat} (h : W.grownBy W' none) : Ch2 W W' q b := ⟨h.os, h.tape, h.output, h.size, fun k hk _ _ => h.block k hk (by simp)⟩
theorem Ch2.of_q {W W' : World} {q b : Nat} (h : W.grownBy W' (some q)) : Ch2 W W' q b := ⟨h.os, h.tape, h.output, h.size, fun k hk hq _ => h.block k hk (by simpa using hq)⟩
theorem Ch2.of_b {W W' : World} {q b : Nat} (h : W.grownBy W' (some b)) : Ch2 W W' q b := ⟨h.os, h.tape, h.output, h.size, fun k hk _ hb => h.block k hk (by simpa using hb)⟩
theorem Ch2.trans {a b c : World} {q k : Nat} (h : Ch2 a b q k) (l : Ch2 b c q k) : Ch2 a c q k := ⟨l.os.trans h.os, l.tape.trans h.tape, l.output.trans h.output, Nat.le_trans h.size l.size, fun j hj h1 h2 => (l.block j (Nat.lt_of_lt_of_le hj h.size) h1 h2).trans (h.block j hj h1 h2)⟩
/-- the reader's variable -/
def rdc (a : Option Addr) (len cap : Nat) (at_ : Nat) (bad : Bool) : List Value := [.slice a len cap, .int .i64 (at_ : Int), .bool bad]
end Go.Proofs.Ytngalihnckbkfaa
