/-
  No cell of these rows narrows 'for every input' (looked for: loops, veiled, ifaces, maps, wideKeys, modest, calm, conditions, laid).
  DERIVED. THE GIVEN ROWS OF THIS SEAT. 5 by the template 'for every input the law returns true; each argument reads behind the call as it read before'; 0 by the template 'total and deterministic' (their statements: YtlbilpjlfelgdaaTotals.lean).
  GIVEN WITH THE SEED: the statements are not yours to turn. If you find one false, say at which input.
  Laid BY PROGRAM, IN A SANDBOX (cutbox-rows.mjs): the forced cells as the released guide's own fill.sh prints them over the translation d10cca0e0f5255e3… (all of the seat's roots in one cut). By AI agents, Wed Nov 11 2026. No macro, syntax, notation, axiom, sorry.
-/
import Derived.Test.YtlbilpjlfelgdaaChecked
import GoSem.Claim
import GoSem.ClaimJoined
import GoSem.ClaimMapViews
import Derived.JoinedTies
import Derived.KernelRfl
namespace Go.Proofs.Ytlbilpjlfelgdaa
/- THE CELL 'sum', in the pinned program and in every row, IS THE sha256 OF THE DUMP (.gsa) THAT YtlbilpjlfelgdaaProg.lean LOADS. Nothing in Lean hashes anything: it is a label: what it is worth is what the hold of that sum in a sandbox is worth. -/
noncomputable def Try.pinned : Pinned := { name := "ytlbilpjlfelgdaa", sum := "d10cca0e0f5255e3a7558588f3a87b1b0f9b075b6afb4ba4491f0925c9b3e40b", checked := Try.checked }
namespace Rows
def none {H : Type} : Left H := { results := [], args := [] }

/-- 'portmanteaulaw08.BootEncodes': WHATEVER THE INPUT: true; the input reads as it did. -/
def bootEncodesSpec : ChangeSpec := { name := "bootEncodes", fn := fun _ => fun
  | [d1, d2] => { results := [.lit (.bool true)], args := [d1, d2] }
  | _ => none }
def bootEncodesRow : OpenClaim := { program := "ytlbilpjlfelgdaa", sum := "d10cca0e0f5255e3a7558588f3a87b1b0f9b075b6afb4ba4491f0925c9b3e40b", func := "portmanteau/portmanteaulaw08.BootEncodes", spec := "bootEncodes", unfollowed := true, recurses := true, apart := false }
def BootEncodesSaid : Prop := bootEncodesRow.holds Try.pinned (OpenSpec.ofChange bootEncodesSpec)

/-- ITS FALSE NEIGHBOUR: 'it returns false'. Refute it at one input. -/
def bootEncodesWrong : ChangeSpec := { name := "bootEncodes", fn := fun _ => fun
  | [d1, d2] => { results := [.lit (.bool false)], args := [d1, d2] }
  | _ => none }
def BootEncodesWrongFalsely : Prop := bootEncodesRow.holds Try.pinned (OpenSpec.ofChange bootEncodesWrong)

/-- 'portmanteaulaw08.BootDecodes': WHATEVER THE INPUT: true; the input reads as it did. -/
def bootDecodesSpec : ChangeSpec := { name := "bootDecodes", fn := fun _ => fun
  | [d] => { results := [.lit (.bool true)], args := [d] }
  | _ => none }
def bootDecodesRow : OpenClaim := { program := "ytlbilpjlfelgdaa", sum := "d10cca0e0f5255e3a7558588f3a87b1b0f9b075b6afb4ba4491f0925c9b3e40b", func := "portmanteau/portmanteaulaw08.BootDecodes", spec := "bootDecodes", unfollowed := true, recurses := true, apart := false }
def BootDecodesSaid : Prop := bootDecodesRow.holds Try.pinned (OpenSpec.ofChange bootDecodesSpec)

/-- ITS FALSE NEIGHBOUR: 'it returns false'. Refute it at one input. -/
def bootDecodesWrong : ChangeSpec := { name := "bootDecodes", fn := fun _ => fun
  | [d] => { results := [.lit (.bool false)], args := [d] }
  | _ => none }
def BootDecodesWrongFalsely : Prop := bootDecodesRow.holds Try.pinned (OpenSpec.ofChange bootDecodesWrong)

/-- 'portmanteaulaw08.BootChooses': WHATEVER THE INPUT: true; the input reads as it did. -/
def bootChoosesSpec : ChangeSpec := { name := "bootChooses", fn := fun _ => fun
  | [d1, d2] => { results := [.lit (.bool true)], args := [d1, d2] }
  | _ => none }
def bootChoosesRow : OpenClaim := { program := "ytlbilpjlfelgdaa", sum := "d10cca0e0f5255e3a7558588f3a87b1b0f9b075b6afb4ba4491f0925c9b3e40b", func := "portmanteau/portmanteaulaw08.BootChooses", spec := "bootChooses", unfollowed := true, recurses := true, apart := false }
def BootChoosesSaid : Prop := bootChoosesRow.holds Try.pinned (OpenSpec.ofChange bootChoosesSpec)

/-- ITS FALSE NEIGHBOUR: 'it returns false'. Refute it at one input. -/
def bootChoosesWrong : ChangeSpec := { name := "bootChooses", fn := fun _ => fun
  | [d1, d2] => { results := [.lit (.bool false)], args := [d1, d2] }
  | _ => none }
def BootChoosesWrongFalsely : Prop := bootChoosesRow.holds Try.pinned (OpenSpec.ofChange bootChoosesWrong)

/-- 'portmanteaulaw08.BootFollows': WHATEVER THE INPUT: true; the input reads as it did. -/
def bootFollowsSpec : ChangeSpec := { name := "bootFollows", fn := fun _ => fun
  | [d1, d2, d3, d4] => { results := [.lit (.bool true)], args := [d1, d2, d3, d4] }
  | _ => none }
def bootFollowsRow : OpenClaim := { program := "ytlbilpjlfelgdaa", sum := "d10cca0e0f5255e3a7558588f3a87b1b0f9b075b6afb4ba4491f0925c9b3e40b", func := "portmanteau/portmanteaulaw08.BootFollows", spec := "bootFollows", unfollowed := true, recurses := true, apart := false }
def BootFollowsSaid : Prop := bootFollowsRow.holds Try.pinned (OpenSpec.ofChange bootFollowsSpec)

/-- ITS FALSE NEIGHBOUR: 'it returns false'. Refute it at one input. -/
def bootFollowsWrong : ChangeSpec := { name := "bootFollows", fn := fun _ => fun
  | [d1, d2, d3, d4] => { results := [.lit (.bool false)], args := [d1, d2, d3, d4] }
  | _ => none }
def BootFollowsWrongFalsely : Prop := bootFollowsRow.holds Try.pinned (OpenSpec.ofChange bootFollowsWrong)

/-- 'portmanteaulaw08.BootBursts': WHATEVER THE INPUT: true; the input reads as it did. -/
def bootBurstsSpec : ChangeSpec := { name := "bootBursts", fn := fun _ => fun
  | [d1, d2, d3] => { results := [.lit (.bool true)], args := [d1, d2, d3] }
  | _ => none }
def bootBurstsRow : OpenClaim := { program := "ytlbilpjlfelgdaa", sum := "d10cca0e0f5255e3a7558588f3a87b1b0f9b075b6afb4ba4491f0925c9b3e40b", func := "portmanteau/portmanteaulaw08.BootBursts", spec := "bootBursts", unfollowed := true, recurses := true, apart := false }
def BootBurstsSaid : Prop := bootBurstsRow.holds Try.pinned (OpenSpec.ofChange bootBurstsSpec)

/-- ITS FALSE NEIGHBOUR: 'it returns false'. Refute it at one input. -/
def bootBurstsWrong : ChangeSpec := { name := "bootBursts", fn := fun _ => fun
  | [d1, d2, d3] => { results := [.lit (.bool false)], args := [d1, d2, d3] }
  | _ => none }
def BootBurstsWrongFalsely : Prop := bootBurstsRow.holds Try.pinned (OpenSpec.ofChange bootBurstsWrong)

/- THE SECOND FORM. 'bulk': how many values and letters a reading holds, each counted each time it is reached (what is shared counts as often as it is met; a slice's spare places count too). A statement '..UptoSaid' is the law's where the arguments, and the package variables that the reading takes, are together of bulk at most 1048576: NARROWER than '..Said'. Prove '..Said' where nothing that the law and all that it calls make is longer than what came in: it says more and counts as full. Else prove '..UptoSaid'. A law counts once. -/
mutual
def uptoBulk {H : Type} : DataW H → Nat
  | .lit (.string bytes) => bytes.length + 1
  | .lit _ => 1
  | .nil => 1
  | .ptr d => uptoBulk d + 1
  | .slice elems spare => uptoBulkAll elems + uptoBulkAll spare + 1
  | .agg parts => uptoBulkAll parts + 1
  | .iface _ d => uptoBulk d + 1
  | .map entries => uptoBulkEntries entries + 1
  | .held _ => 1
def uptoBulkAll {H : Type} : List (DataW H) → Nat
  | [] => 0
  | d :: r => uptoBulk d + uptoBulkAll r
def uptoBulkEntries {H : Type} : List (Lit × DataW H) → Nat
  | [] => 0
  | x :: r => uptoBulkEntry x + uptoBulkEntries r
def uptoBulkEntry {H : Type} : Lit × DataW H → Nat
  | (.string bytes, d) => bytes.length + uptoBulk d + 1
  | (_, d) => uptoBulk d + 1
 end
def uptoSmall : (H : Type) → List (DataW H) → Bool := fun _ ds => decide (uptoBulkAll ds ≤ 1048576)
def OpenSpec.upto (s : _root_.Go.ChangeSpec) : _root_.Go.OpenSpec := { _root_.Go.OpenSpec.ofChange s with cond := some uptoSmall }

/-- 'portmanteaulaw08.BootEncodes', WHERE WHAT IT READS IS OF BULK AT MOST 1048576: true; the input reads as it did. -/
def bootEncodesUptoRow : OpenClaim := { program := "ytlbilpjlfelgdaa", sum := "d10cca0e0f5255e3a7558588f3a87b1b0f9b075b6afb4ba4491f0925c9b3e40b", func := "portmanteau/portmanteaulaw08.BootEncodes", spec := "bootEncodes", unfollowed := true, recurses := true, apart := false, narrowed := true }
def BootEncodesUptoSaid : Prop := bootEncodesUptoRow.holds Try.pinned (OpenSpec.upto bootEncodesSpec)

/-- 'portmanteaulaw08.BootDecodes', WHERE WHAT IT READS IS OF BULK AT MOST 1048576: true; the input reads as it did. -/
def bootDecodesUptoRow : OpenClaim := { program := "ytlbilpjlfelgdaa", sum := "d10cca0e0f5255e3a7558588f3a87b1b0f9b075b6afb4ba4491f0925c9b3e40b", func := "portmanteau/portmanteaulaw08.BootDecodes", spec := "bootDecodes", unfollowed := true, recurses := true, apart := false, narrowed := true }
def BootDecodesUptoSaid : Prop := bootDecodesUptoRow.holds Try.pinned (OpenSpec.upto bootDecodesSpec)

/-- 'portmanteaulaw08.BootChooses', WHERE WHAT IT READS IS OF BULK AT MOST 1048576: true; the input reads as it did. -/
def bootChoosesUptoRow : OpenClaim := { program := "ytlbilpjlfelgdaa", sum := "d10cca0e0f5255e3a7558588f3a87b1b0f9b075b6afb4ba4491f0925c9b3e40b", func := "portmanteau/portmanteaulaw08.BootChooses", spec := "bootChooses", unfollowed := true, recurses := true, apart := false, narrowed := true }
def BootChoosesUptoSaid : Prop := bootChoosesUptoRow.holds Try.pinned (OpenSpec.upto bootChoosesSpec)

/-- 'portmanteaulaw08.BootFollows', WHERE WHAT IT READS IS OF BULK AT MOST 1048576: true; the input reads as it did. -/
def bootFollowsUptoRow : OpenClaim := { program := "ytlbilpjlfelgdaa", sum := "d10cca0e0f5255e3a7558588f3a87b1b0f9b075b6afb4ba4491f0925c9b3e40b", func := "portmanteau/portmanteaulaw08.BootFollows", spec := "bootFollows", unfollowed := true, recurses := true, apart := false, narrowed := true }
def BootFollowsUptoSaid : Prop := bootFollowsUptoRow.holds Try.pinned (OpenSpec.upto bootFollowsSpec)

/-- 'portmanteaulaw08.BootBursts', WHERE WHAT IT READS IS OF BULK AT MOST 1048576: true; the input reads as it did. -/
def bootBurstsUptoRow : OpenClaim := { program := "ytlbilpjlfelgdaa", sum := "d10cca0e0f5255e3a7558588f3a87b1b0f9b075b6afb4ba4491f0925c9b3e40b", func := "portmanteau/portmanteaulaw08.BootBursts", spec := "bootBursts", unfollowed := true, recurses := true, apart := false, narrowed := true }
def BootBurstsUptoSaid : Prop := bootBurstsUptoRow.holds Try.pinned (OpenSpec.upto bootBurstsSpec)

end Rows
end Go.Proofs.Ytlbilpjlfelgdaa
