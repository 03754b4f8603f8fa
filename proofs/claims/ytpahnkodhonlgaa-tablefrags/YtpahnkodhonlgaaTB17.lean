/- slices.Sorted over maps.Keys: the shelf's contracts at this program's numbers. -/
import Derived.Shelf.SlIterI.Nil
import Derived.Shelf.SortM.Plain
import Derived.Shelf.SortM.SortNone
import Derived.Test.YtpahnkodhonlgaaTA17
namespace Go.Proofs.Ytpahnkodhonlgaa
open Go.RowKit Go.Maps Go.Sort Go.Shelf
set_option maxRecDepth 100000
set_option linter.unusedSimpArgs false
set_option linter.unusedVariables false
def renM17 : Ren := ⟨fun k => if k = 5 then 53 else if k = 7 then 65 else if k = 8 then 66 else if k = 10 then 70 else if k = 11 then 71 else if k = 12 then 72 else if k = 13 then 73 else if k = 14 then 74 else if k = 15 then 75 else if k = 16 then 76 else if k = 17 then 77 else if k = 18 then 78 else if k = 19 then 79 else if k = 20 then 80 else if k = 30 then 82 else if k = 31 then 83 else if k = 32 then 84 else if k = 33 then 85 else if k = 34 then 86 else if k = 35 then 87 else if k = 40 then 92 else k, fun k => if k = 0 then 0 else if k = 3 then 3 else if k = 4 then 4 else if k = 5 then 5 else if k = 9 then 9 else if k = 22 then 22 else if k = 23 then 22 else if k = 25 then 3 else if k = 32 then 108 else if k = 35 then 113 else if k = 36 then 114 else if k = 41 then 26 else if k = 44 then 121 else if k = 46 then 74 else if k = 53 then 123 else if k = 57 then 127 else if k = 63 then 130 else if k = 64 then 131 else k, fun k => k⟩
def renZ17 : Ren := ⟨fun k => if k = 6 then 31 else if k = 7 then 32 else if k = 8 then 52 else if k = 9 then 53 else if k = 10 then 54 else if k = 11 then 64 else k, fun k => if k = 0 then 0 else if k = 3 then 65 else if k = 4 then 4 else if k = 23 then 64 else if k = 24 then 22 else if k = 26 then 3 else if k = 27 then 67 else if k = 28 then 68 else if k = 33 then 93 else k, fun k => k⟩
set_option maxHeartbeats 8000000 in
set_option maxRecDepth 100000 in
theorem laysM17 : SlLaysM.n5 Try.prog renM17 := by
  constructor
  · kernel_rfl
  · exact ⟨Try.f53.name, by kernel_rfl, by kernel_rfl⟩
  · exact ⟨Try.f65.name, by kernel_rfl, by kernel_rfl⟩
  · kernel_rfl
  · exact ⟨Try.f70.name, by kernel_rfl, by kernel_rfl⟩
  · exact ⟨Try.f71.name, by kernel_rfl, by kernel_rfl⟩
  · exact ⟨Try.f72.name, by kernel_rfl, by kernel_rfl⟩
  · exact ⟨Try.f73.name, by kernel_rfl, by kernel_rfl⟩
  · exact ⟨Try.f74.name, by kernel_rfl, by kernel_rfl⟩
  · exact ⟨Try.f75.name, by kernel_rfl, by kernel_rfl⟩
  · exact ⟨Try.f76.name, by kernel_rfl, by kernel_rfl⟩
  · exact ⟨Try.f77.name, by kernel_rfl, by kernel_rfl⟩
  · exact ⟨Try.f78.name, by kernel_rfl, by kernel_rfl⟩
  · kernel_rfl
  · kernel_rfl
  · exact ⟨Try.f82.name, by kernel_rfl, by kernel_rfl⟩
  · kernel_rfl
  · kernel_rfl
  · exact ⟨Try.f85.name, by kernel_rfl, by kernel_rfl⟩
  · exact ⟨Try.f86.name, by kernel_rfl, by kernel_rfl⟩
  · exact ⟨Try.f87.name, by kernel_rfl, by kernel_rfl⟩
  · exact ⟨Try.f92.name, by kernel_rfl, by kernel_rfl⟩
  · kernel_rfl
  · intro w; kernel_rfl
  · intro w; kernel_rfl
  · intro w; kernel_rfl
  · kernel_rfl
  · intro w; kernel_rfl
  · intro w; kernel_rfl
  · intro w; kernel_rfl
  · kernel_rfl
  · intro w; kernel_rfl
  · intro w; kernel_rfl
  · intro w; kernel_rfl
  · kernel_rfl
  · intro w; kernel_rfl
  · intro w; kernel_rfl
  · intro w; kernel_rfl
  · kernel_rfl
  · intro w; kernel_rfl
  · intro w; kernel_rfl
  · intro w; kernel_rfl
  · kernel_rfl
  · intro w; kernel_rfl
  · intro w; kernel_rfl
  · intro w; kernel_rfl
  · kernel_rfl
  · intro w; kernel_rfl
  · intro w; kernel_rfl
  · intro w; kernel_rfl
  · kernel_rfl
  · intro w; kernel_rfl
  · intro w; kernel_rfl
  · intro w; kernel_rfl
  · kernel_rfl
  · intro w; kernel_rfl
  · intro w; kernel_rfl
  · intro w; kernel_rfl
  · kernel_rfl
  · intro w; kernel_rfl
  · intro w; kernel_rfl
  · intro w; kernel_rfl
  · kernel_rfl
  · intro w; kernel_rfl
  · intro w; kernel_rfl
  · intro w; kernel_rfl
  · kernel_rfl
  · intro w; kernel_rfl
  · intro w; kernel_rfl
  · intro w; kernel_rfl
  · kernel_rfl
  · intro w; kernel_rfl
  · intro w; kernel_rfl
  · intro w; kernel_rfl
  · kernel_rfl
  · intro w; kernel_rfl
  · intro w; kernel_rfl
  · intro w; kernel_rfl
  · kernel_rfl
  · intro w; kernel_rfl
  · intro w; kernel_rfl
  · intro w; kernel_rfl
  · kernel_rfl
  · intro w; kernel_rfl
  · intro w; kernel_rfl
  · intro w; kernel_rfl
  · kernel_rfl
  · intro w; kernel_rfl
  · intro w; kernel_rfl
  · intro w; kernel_rfl
  · kernel_rfl
  · intro w; kernel_rfl
  · intro w; kernel_rfl
  · intro w; kernel_rfl
set_option maxHeartbeats 8000000 in
set_option maxRecDepth 100000 in
theorem laysS17 : SlLaysZI.n6 Try.prog renZ17 := by
  constructor
  · kernel_rfl
  · exact ⟨Try.f31.name, by kernel_rfl, by kernel_rfl⟩
  · exact ⟨Try.f52.name, by kernel_rfl, by kernel_rfl⟩
  · exact ⟨Try.f64.name, by kernel_rfl, by kernel_rfl⟩
  · kernel_rfl
  · intro w; kernel_rfl
  · intro w; kernel_rfl
  · intro w; kernel_rfl
  · kernel_rfl
  · intro w; kernel_rfl
  · intro w; kernel_rfl
  · intro w; kernel_rfl
  · kernel_rfl
  · intro w; kernel_rfl
  · intro w; kernel_rfl
  · intro w; kernel_rfl
  · kernel_rfl
  · intro w; kernel_rfl
  · intro w; kernel_rfl
  · intro w; kernel_rfl
  · kernel_rfl
set_option maxHeartbeats 8000000 in
set_option maxRecDepth 100000 in
theorem laysK17 : SlLaysZI.n7 Try.prog renZ17 := by
  constructor
  · kernel_rfl
  · exact ⟨Try.f32.name, by kernel_rfl, by kernel_rfl⟩
  · exact ⟨Try.f54.name, by kernel_rfl, by kernel_rfl⟩
  · kernel_rfl
  · intro w; kernel_rfl
  · intro w; kernel_rfl
  · intro w; kernel_rfl
  · kernel_rfl
  · intro w; kernel_rfl
  · intro w; kernel_rfl
  · intro w; kernel_rfl
  · kernel_rfl
  · intro w; kernel_rfl
  · intro w; kernel_rfl
  · intro w; kernel_rfl
  · kernel_rfl
  · intro w; kernel_rfl
  · intro w; kernel_rfl
  · intro w; kernel_rfl
  · kernel_rfl
  · intro w; kernel_rfl
  · intro w; kernel_rfl
  · intro w; kernel_rfl
  · kernel_rfl
  · intro w; kernel_rfl
  · intro w; kernel_rfl
  · intro w; kernel_rfl
  · kernel_rfl
  · intro w; kernel_rfl
  · intro w; kernel_rfl
  · intro w; kernel_rfl
theorem sorts17 (m : Nat) : AnyZI.SortsIn Try.prog renZ17 Fence.wide m :=
  ⟨fun blk off cap ss W hH hblk hsz => callsIn_wide.2 (AnyM.slices_Sort_int laysM17 blk off cap ss W hH hblk hsz),
   fun p cap W => callsIn_wide.2 (AnyM.slices_Sort_int_none laysM17 p cap W)⟩
end Go.Proofs.Ytpahnkodhonlgaa
