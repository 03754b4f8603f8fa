/-
  No cell of these rows narrows 'for every input' (looked for: loops, veiled, ifaces, maps, wideKeys, modest, calm, conditions, laid).
  DERIVED. THE GIVEN ROWS OF THIS SEAT. 2 by the template 'for every input the law returns true; each argument reads behind the call as it read before'; 0 by the template 'total and deterministic' (their statements: YtfhgbddeclldnaaTotals.lean).
  GIVEN WITH THE SEED: the statements are not yours to turn. If you find one false, say at which input.
  Laid BY PROGRAM, IN A SANDBOX (cutbox-rows.mjs): the forced cells as the released guide's own fill.sh prints them over the translation f6fd526a3a11dc46… (all of the seat's roots in one cut). By AI agents, Wed Nov 11 2026. No macro, syntax, notation, axiom, sorry.
-/
import Derived.Test.YtfhgbddeclldnaaChecked
import GoSem.Claim
import GoSem.ClaimJoined
import GoSem.ClaimMapViews
import Derived.JoinedTies
import Derived.KernelRfl
namespace Go.Proofs.Ytfhgbddeclldnaa
/- THE CELL 'sum', in the pinned program and in every row, IS THE sha256 OF THE DUMP (.gsa) THAT YtfhgbddeclldnaaProg.lean LOADS. Nothing in Lean hashes anything: it is a label: what it is worth is what the hold of that sum in a sandbox is worth. -/
noncomputable def Try.pinned : Pinned := { name := "ytfhgbddeclldnaa", sum := "f6fd526a3a11dc46b9790ac854c0d9ba76f1161ed1a4ff0d684a87b5ee1aa37c", checked := Try.checked }
namespace Rows
def none {H : Type} : Left H := { results := [], args := [] }

/-- 'portmanteaulaw09.KeepSafe': WHATEVER THE INPUT: true; the input reads as it did. -/
def keepSafeSpec : ChangeSpec := { name := "keepSafe", fn := fun _ => fun
  | [d1, d2, d3, d4, d5] => { results := [.lit (.bool true)], args := [d1, d2, d3, d4, d5] }
  | _ => none }
def keepSafeRow : OpenClaim := { program := "ytfhgbddeclldnaa", sum := "f6fd526a3a11dc46b9790ac854c0d9ba76f1161ed1a4ff0d684a87b5ee1aa37c", func := "portmanteau/portmanteaulaw09.KeepSafe", spec := "keepSafe", unfollowed := true, recurses := true, apart := false }
def KeepSafeSaid : Prop := keepSafeRow.holds Try.pinned (OpenSpec.ofChange keepSafeSpec)

/-- ITS FALSE NEIGHBOUR: 'it returns false'. Refute it at one input. -/
def keepSafeWrong : ChangeSpec := { name := "keepSafe", fn := fun _ => fun
  | [d1, d2, d3, d4, d5] => { results := [.lit (.bool false)], args := [d1, d2, d3, d4, d5] }
  | _ => none }
def KeepSafeWrongFalsely : Prop := keepSafeRow.holds Try.pinned (OpenSpec.ofChange keepSafeWrong)

/-- 'portmanteaulaw09.KeepNils': WHATEVER THE INPUT: true; the input reads as it did. -/
def keepNilsSpec : ChangeSpec := { name := "keepNils", fn := fun _ => fun
  | [d1, d2, d3, d4] => { results := [.lit (.bool true)], args := [d1, d2, d3, d4] }
  | _ => none }
def keepNilsRow : OpenClaim := { program := "ytfhgbddeclldnaa", sum := "f6fd526a3a11dc46b9790ac854c0d9ba76f1161ed1a4ff0d684a87b5ee1aa37c", func := "portmanteau/portmanteaulaw09.KeepNils", spec := "keepNils", unfollowed := true, recurses := true, apart := false }
def KeepNilsSaid : Prop := keepNilsRow.holds Try.pinned (OpenSpec.ofChange keepNilsSpec)

/-- ITS FALSE NEIGHBOUR: 'it returns false'. Refute it at one input. -/
def keepNilsWrong : ChangeSpec := { name := "keepNils", fn := fun _ => fun
  | [d1, d2, d3, d4] => { results := [.lit (.bool false)], args := [d1, d2, d3, d4] }
  | _ => none }
def KeepNilsWrongFalsely : Prop := keepNilsRow.holds Try.pinned (OpenSpec.ofChange keepNilsWrong)

/- THE SECOND FORM. 'bulk': how many values and letters a reading holds, each counted each time it is reached (what is shared counts as often as it is met; a slice's spare places count too). A statement '..UptoSaid' is the law's where the arguments, and the package variables that the reading takes, are together of bulk at most 1048576: NARROWER than '..Said'. Prove '..Said' where nothing that the law and all that it calls make is longer than what came in: it says more and counts as full. Else prove '..UptoSaid'. A law counts once. -/
mutual
def uptoBulk {H : Type} : DataW H → Nat
  | .lit (.string bytes) => bytes.length + 1
  | .lit _ => 1
  | .nil => 1
  | .ptr d => uptoBulk d + 1
  | .slice elems spare => uptoBulkAll elems + uptoBulkAll spare + 1
  | .agg parts => uptoBulkAll parts + 1
  | .iface _ d => uptoBulk d + 1
  | .map entries => uptoBulkEntries entries + 1
  | .held _ => 1
def uptoBulkAll {H : Type} : List (DataW H) → Nat
  | [] => 0
  | d :: r => uptoBulk d + uptoBulkAll r
def uptoBulkEntries {H : Type} : List (Lit × DataW H) → Nat
  | [] => 0
  | x :: r => uptoBulkEntry x + uptoBulkEntries r
def uptoBulkEntry {H : Type} : Lit × DataW H → Nat
  | (.string bytes, d) => bytes.length + uptoBulk d + 1
  | (_, d) => uptoBulk d + 1
 end
def uptoSmall : (H : Type) → List (DataW H) → Bool := fun _ ds => decide (uptoBulkAll ds ≤ 1048576)
def OpenSpec.upto (s : _root_.Go.ChangeSpec) : _root_.Go.OpenSpec := { _root_.Go.OpenSpec.ofChange s with cond := some uptoSmall }

/-- 'portmanteaulaw09.KeepSafe', WHERE WHAT IT READS IS OF BULK AT MOST 1048576: true; the input reads as it did. -/
def keepSafeUptoRow : OpenClaim := { program := "ytfhgbddeclldnaa", sum := "f6fd526a3a11dc46b9790ac854c0d9ba76f1161ed1a4ff0d684a87b5ee1aa37c", func := "portmanteau/portmanteaulaw09.KeepSafe", spec := "keepSafe", unfollowed := true, recurses := true, apart := false, narrowed := true }
def KeepSafeUptoSaid : Prop := keepSafeUptoRow.holds Try.pinned (OpenSpec.upto keepSafeSpec)

/-- 'portmanteaulaw09.KeepNils', WHERE WHAT IT READS IS OF BULK AT MOST 1048576: true; the input reads as it did. -/
def keepNilsUptoRow : OpenClaim := { program := "ytfhgbddeclldnaa", sum := "f6fd526a3a11dc46b9790ac854c0d9ba76f1161ed1a4ff0d684a87b5ee1aa37c", func := "portmanteau/portmanteaulaw09.KeepNils", spec := "keepNils", unfollowed := true, recurses := true, apart := false, narrowed := true }
def KeepNilsUptoSaid : Prop := keepNilsUptoRow.holds Try.pinned (OpenSpec.upto keepNilsSpec)

end Rows
end Go.Proofs.Ytfhgbddeclldnaa
