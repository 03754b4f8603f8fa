/- The program's Ids. -/
import Derived.Test.YtpahnkodhonlgaaTB17
import Derived.Maps.OwnSet
namespace Go.Proofs.Ytpahnkodhonlgaa
open Go.RowKit Go.Shelf
set_option maxRecDepth 100000
open Go.Maps (Keyed)
set_option linter.unusedSimpArgs false
set_option linter.unusedVariables false
def hv17 (v : Value) : Option (DataW Value × List MemPlace) := some (.held v, [])
theorem key3_17 : Keyed Try.prog 3 := Maps.int_keyed Try.underlying3
theorem keyi17 {x : Int} (h : in64 x) : keyOf Try.prog 3 (.int .i64 x) = some (.int .i64 x) := by
  have e : ∀ v, keyOf Try.prog 3 v = mapKey Try.prog 3 v := fun v => by simp [keyOf, Try.underlying3]
  rw [e]
  unfold in64 at h
  have hw : (Lit.int .i64 x).wf = true := by
    simp [Lit.wf, IntKind.wrap, IntKind.bits, IntKind.signed, IntKind.min, IntKind.max]
    omega
  simp [mapKey, Try.underlying3, hw]
/-- the first numbers of a list as a set -/
def IntK (w : World) (B k : Nat) (l : List Int) : Prop := ∃ D, w.ownsMap Try.prog 3 hv17 B k D ∧ ∀ x : Int, Maps.has D (.int .i64 x) = decide (x ∈ l.take k)
theorem IntK.made (w : World) (l : List Int) : IntK (w.alloc (.map #[] 0)) w.heap.size 0 l := ⟨_, World.ownsMap_made w Try.prog 3 hv17, fun s => by simp [Maps.has]⟩
theorem IntK.kept {w w' : World} {B k : Nat} {l : List Int} {row : Option Nat} (h : IntK w B k l) (g : w.grownBy w' row) (hne : some B ≠ row) : IntK w' B k l := by
  obtain ⟨D, o, r⟩ := h
  exact ⟨D, o.kept g hne, r⟩
theorem IntK.store {w : World} {t e : TypeId} {B k : Nat} {l : List Int} (h : IntK w B k l) (ht : Try.prog.underlying t = some (.map 3 e)) (hn : k < maxLen) {val : Value} {x : Int} (hx : l[k]? = some x) (hs : in64 x) :
    ∃ w', (Instr.mapUpdate t (.map (some B)) (.int .i64 x) val).run Try.prog w = .ok () w' ∧ IntK w' B (k + 1) l ∧ w.grownBy w' (some B) := by
  obtain ⟨D, o, r⟩ := h
  obtain ⟨w', hrun, o', g⟩ := o.update key3_17 ht hn (d := .held val) (ps := []) (keyi17 hs) rfl
  have hk : WideAt.IsKeyLit (Lit.int .i64 x) := by simp [WideAt.IsKeyLit]
  refine ⟨w', hrun, ⟨_, o', fun y => ?_⟩, g⟩
  have e : l.take (k + 1) = l.take k ++ [x] := by rw [List.take_add_one, hx]; rfl
  rw [e]
  by_cases hy : y = x
  · subst hy
    rw [Maps.has_put_same o.isMap hk]
    simp
  · rw [Maps.has_put_other (by intro e; injection e with _ e; exact hy e), r y]
    simp [hy]
theorem wpList_storeI17 {P : Program} (hP : P = Try.prog) (w : World) {ops : Array Oper} {rest : List Oper} {o : Oper} {a : Act} {Q : Exit → Act → World → Prop}
    (hg : o.guard = none) (m x v : Operand) (t : TypeId) (hop : o.op = Op.mapUpdate t m x v) (e : TypeId) (ht : Try.prog.underlying t = some (.map 3 e)) (B k : Nat) (l : List Int)
    (hm : a.eval m = .map (some B)) (h : IntK w B k l) (hn : k < maxLen) (s : Int) (hx : a.eval x = .int .i64 s) (hX : l[k]? = some s) (hs : in64 s)
    (hK : ∀ w', Hid (IntK w' B (k + 1) l) → Hid (w.grownBy w' (some B)) → wpList P ops Q rest (a.put o.dst undef) w') : wpList P ops Q (o :: rest) a w := by
  subst hP
  refine wpList_plain hg fun K' hK' => ?_
  obtain ⟨w', hrun, r1, r2⟩ := h.store (val := a.eval v) ht hn hX hs
  unfold Oper.wp
  simp [execOp, hop, hm, hx, hrun, Result.andThen]
  exact hK' _ _ (hK w' r1 r2)
theorem keys17 (mb : Option Nat) (W : World) : Calls Try.prog 32 #[.map mb] W fun e w' => e = .returned (.func (.func 54) #[] #[.pointer (some ⟨W.heap.size, 0, none⟩)]) ∧ w' = W.alloc (.cells #[.map mb] 64) :=
  (callsIn_wide (n := 5)).1 (AnyZI.keys_in laysK17 Fence.wide 5 trivial rfl mb W)
theorem sorted17 (b nn : Nat) (l : List Int) (w : World) (h : IntK w b nn l) (hl : l.length ≤ nn) (hn : nn ≤ 1000000) :
    Calls Try.prog 31 #[.func (.func 54) #[] #[.pointer (some ⟨w.heap.size, 0, none⟩)]] (w.alloc (.cells #[.map (some b)] 64)) fun e w' => ∃ v, e = .returned v ∧
      w'.ownsRow (w.heap.size + 1) 3 1 v (srt17 l).length ((srt17 l).map (Value.int .i64)) ∧ Below (w.heap.size + 1) (w.alloc (.cells #[.map (some b)] 64)) w' := by
  obtain ⟨D, hown, hr⟩ := h
  have hbl := hown.lt
  have hsz := hown.size_le
  have hseq : SeqGives Fence.wide 2 Try.prog 54 #[.pointer (some ⟨w.heap.size, 0, none⟩)] encZ (fun ss => ss.Perm (intKeys D)) (Maps.size D) (w.alloc (.cells #[.map (some b)] 64)) :=
    AnyZI.keys_gives (ρ := renZ17) { laysK17 with } Fence.wide _ trivial rfl (by omega) w.heap.size b nn D _ (by simp) (by simp) (hown.kept (World.grownBy_alloc w _ none) (by simp))
  have cS := AnyZI.sorted_in laysS17 Fence.wide 5 trivial trivial trivial trivial rfl (by omega) (sorts17 _) (enters_of Try.func53 (by kernel_rfl) rfl) 54 #[.pointer (some ⟨w.heap.size, 0, none⟩)] trivial (enters_of Try.func54 (by kernel_rfl) rfl) _ _ (by unfold maxLen; omega) (by omega) _ hseq
  change CallsIn _ _ Try.prog 31 _ _ _ at cS
  refine ((callsIn_wide (n := 5)).1 cS).mono ?_
  rintro e w' ⟨v, ss, rfl, hS, hrow, _, hb⟩
  have hp : (srt17 l).Perm (intKeys D) := CollectedI.perm (left := fun _ => false) ⟨srt_nodup l, fun x => by rw [srt_mem, hr x, List.take_of_length_le hl]; simp⟩ hown key3_17 Try.underlying3 (fun _ => rfl)
  have hp2 : ss.Perm (srt17 l) := List.Perm.trans hS hp.symm
  have e1 := srt_of_perm hp2
  have e2 := hp2.length_eq
  rw [e1, e2] at hrow
  have hs1 : (w.alloc (.cells #[.map (some b)] 64)).heap.size = w.heap.size + 1 := by simp
  have hrow2 : w'.ownsRow (w.alloc (.cells #[.map (some b)] 64)).heap.size 3 1 v (srt17 l).length ((srt17 l).map (Value.int .i64)) := hrow
  rw [hs1] at hrow2 hb
  exact ⟨v, rfl, hrow2, hb⟩
end Go.Proofs.Ytpahnkodhonlgaa
