/-
  No cell of these rows narrows 'for every input' (looked for: loops, veiled, ifaces, maps, wideKeys, modest, calm, conditions, laid).
  DERIVED. THE GIVEN ROWS OF THIS SEAT. 3 by the template 'for every input the law returns true; each argument reads behind the call as it read before'; 0 by the template 'total and deterministic' (their statements: YtckjlkdjlpfdmaaTotals.lean).
  GIVEN WITH THE SEED: the statements are not yours to turn. If you find one false, say at which input.
  Laid BY PROGRAM, IN A SANDBOX (cutbox-rows.mjs): the forced cells as the released guide's own fill.sh prints them over the translation a6d5981c9cb683e5… (all of the seat's roots in one cut). By AI agents, Wed Nov 11 2026. No macro, syntax, notation, axiom, sorry.
-/
import Derived.Test.YtckjlkdjlpfdmaaChecked
import GoSem.Claim
import GoSem.ClaimJoined
import GoSem.ClaimMapViews
import Derived.JoinedTies
import Derived.KernelRfl
namespace Go.Proofs.Ytckjlkdjlpfdmaa
/- THE CELL 'sum', in the pinned program and in every row, IS THE sha256 OF THE DUMP (.gsa) THAT YtckjlkdjlpfdmaaProg.lean LOADS. Nothing in Lean hashes anything: it is a label: what it is worth is what the hold of that sum in a sandbox is worth. -/
noncomputable def Try.pinned : Pinned := { name := "ytckjlkdjlpfdmaa", sum := "a6d5981c9cb683e53e4e64affa86336eb1a4bcd2d5195196d25c06968e2ec904", checked := Try.checked }
namespace Rows
def none {H : Type} : Left H := { results := [], args := [] }

/-- 'portmanteaulaw07.PartMakes': WHATEVER THE INPUT: true; the input reads as it did. -/
def partMakesSpec : ChangeSpec := { name := "partMakes", fn := fun _ => fun
  | [d1, d2] => { results := [.lit (.bool true)], args := [d1, d2] }
  | _ => none }
def partMakesRow : OpenClaim := { program := "ytckjlkdjlpfdmaa", sum := "a6d5981c9cb683e53e4e64affa86336eb1a4bcd2d5195196d25c06968e2ec904", func := "portmanteau/portmanteaulaw07.PartMakes", spec := "partMakes", apart := false }
def PartMakesSaid : Prop := partMakesRow.holds Try.pinned (OpenSpec.ofChange partMakesSpec)

/-- ITS FALSE NEIGHBOUR: 'it returns false'. Refute it at one input. -/
def partMakesWrong : ChangeSpec := { name := "partMakes", fn := fun _ => fun
  | [d1, d2] => { results := [.lit (.bool false)], args := [d1, d2] }
  | _ => none }
def PartMakesWrongFalsely : Prop := partMakesRow.holds Try.pinned (OpenSpec.ofChange partMakesWrong)

/-- 'portmanteaulaw07.PartPlaces': WHATEVER THE INPUT: true; the input reads as it did. -/
def partPlacesSpec : ChangeSpec := { name := "partPlaces", fn := fun _ => fun
  | [d1, d2, d3] => { results := [.lit (.bool true)], args := [d1, d2, d3] }
  | _ => none }
def partPlacesRow : OpenClaim := { program := "ytckjlkdjlpfdmaa", sum := "a6d5981c9cb683e53e4e64affa86336eb1a4bcd2d5195196d25c06968e2ec904", func := "portmanteau/portmanteaulaw07.PartPlaces", spec := "partPlaces", apart := false }
def PartPlacesSaid : Prop := partPlacesRow.holds Try.pinned (OpenSpec.ofChange partPlacesSpec)

/-- ITS FALSE NEIGHBOUR: 'it returns false'. Refute it at one input. -/
def partPlacesWrong : ChangeSpec := { name := "partPlaces", fn := fun _ => fun
  | [d1, d2, d3] => { results := [.lit (.bool false)], args := [d1, d2, d3] }
  | _ => none }
def PartPlacesWrongFalsely : Prop := partPlacesRow.holds Try.pinned (OpenSpec.ofChange partPlacesWrong)

/-- 'portmanteaulaw07.PartApart': WHATEVER THE INPUT: true; the input reads as it did. -/
def partApartSpec : ChangeSpec := { name := "partApart", fn := fun _ => fun
  | [d1, d2, d3] => { results := [.lit (.bool true)], args := [d1, d2, d3] }
  | _ => none }
def partApartRow : OpenClaim := { program := "ytckjlkdjlpfdmaa", sum := "a6d5981c9cb683e53e4e64affa86336eb1a4bcd2d5195196d25c06968e2ec904", func := "portmanteau/portmanteaulaw07.PartApart", spec := "partApart", apart := false }
def PartApartSaid : Prop := partApartRow.holds Try.pinned (OpenSpec.ofChange partApartSpec)

/-- ITS FALSE NEIGHBOUR: 'it returns false'. Refute it at one input. -/
def partApartWrong : ChangeSpec := { name := "partApart", fn := fun _ => fun
  | [d1, d2, d3] => { results := [.lit (.bool false)], args := [d1, d2, d3] }
  | _ => none }
def PartApartWrongFalsely : Prop := partApartRow.holds Try.pinned (OpenSpec.ofChange partApartWrong)

/- THE SECOND FORM. 'bulk': how many values and letters a reading holds, each counted each time it is reached (what is shared counts as often as it is met; a slice's spare places count too). A statement '..UptoSaid' is the law's where the arguments, and the package variables that the reading takes, are together of bulk at most 1048576: NARROWER than '..Said'. Prove '..Said' where nothing that the law and all that it calls make is longer than what came in: it says more and counts as full. Else prove '..UptoSaid'. A law counts once. -/
mutual
def uptoBulk {H : Type} : DataW H → Nat
  | .lit (.string bytes) => bytes.length + 1
  | .lit _ => 1
  | .nil => 1
  | .ptr d => uptoBulk d + 1
  | .slice elems spare => uptoBulkAll elems + uptoBulkAll spare + 1
  | .agg parts => uptoBulkAll parts + 1
  | .iface _ d => uptoBulk d + 1
  | .map entries => uptoBulkEntries entries + 1
  | .held _ => 1
def uptoBulkAll {H : Type} : List (DataW H) → Nat
  | [] => 0
  | d :: r => uptoBulk d + uptoBulkAll r
def uptoBulkEntries {H : Type} : List (Lit × DataW H) → Nat
  | [] => 0
  | x :: r => uptoBulkEntry x + uptoBulkEntries r
def uptoBulkEntry {H : Type} : Lit × DataW H → Nat
  | (.string bytes, d) => bytes.length + uptoBulk d + 1
  | (_, d) => uptoBulk d + 1
 end
def uptoSmall : (H : Type) → List (DataW H) → Bool := fun _ ds => decide (uptoBulkAll ds ≤ 1048576)
def OpenSpec.upto (s : _root_.Go.ChangeSpec) : _root_.Go.OpenSpec := { _root_.Go.OpenSpec.ofChange s with cond := some uptoSmall }

/-- 'portmanteaulaw07.PartMakes', WHERE WHAT IT READS IS OF BULK AT MOST 1048576: true; the input reads as it did. -/
def partMakesUptoRow : OpenClaim := { program := "ytckjlkdjlpfdmaa", sum := "a6d5981c9cb683e53e4e64affa86336eb1a4bcd2d5195196d25c06968e2ec904", func := "portmanteau/portmanteaulaw07.PartMakes", spec := "partMakes", apart := false, narrowed := true }
def PartMakesUptoSaid : Prop := partMakesUptoRow.holds Try.pinned (OpenSpec.upto partMakesSpec)

/-- 'portmanteaulaw07.PartPlaces', WHERE WHAT IT READS IS OF BULK AT MOST 1048576: true; the input reads as it did. -/
def partPlacesUptoRow : OpenClaim := { program := "ytckjlkdjlpfdmaa", sum := "a6d5981c9cb683e53e4e64affa86336eb1a4bcd2d5195196d25c06968e2ec904", func := "portmanteau/portmanteaulaw07.PartPlaces", spec := "partPlaces", apart := false, narrowed := true }
def PartPlacesUptoSaid : Prop := partPlacesUptoRow.holds Try.pinned (OpenSpec.upto partPlacesSpec)

/-- 'portmanteaulaw07.PartApart', WHERE WHAT IT READS IS OF BULK AT MOST 1048576: true; the input reads as it did. -/
def partApartUptoRow : OpenClaim := { program := "ytckjlkdjlpfdmaa", sum := "a6d5981c9cb683e53e4e64affa86336eb1a4bcd2d5195196d25c06968e2ec904", func := "portmanteau/portmanteaulaw07.PartApart", spec := "partApart", apart := false, narrowed := true }
def PartApartUptoSaid : Prop := partApartUptoRow.holds Try.pinned (OpenSpec.upto partApartSpec)

end Rows
end Go.Proofs.Ytckjlkdjlpfdmaa
