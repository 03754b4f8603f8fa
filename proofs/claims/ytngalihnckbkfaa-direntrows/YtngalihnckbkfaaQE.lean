/- A range over an iterator that lays boxes of its own in each round (a law of the walk's own kind). -/
import Derived.RangeFuncNested
import Derived.RangeFuncBound
import Derived.RangeFuncCalls
import Derived.RangeFuncLeaves
import Derived.RangeFuncBox
import Derived.Shelf.Abstract
import Derived.Shelf.RegionOpen
import Derived.WalkKit
import Derived.OwnWalkIn
import Derived.TacticsInMore
import Derived.LoopNIn
import Derived.LoopIn
import Derived.Maps.AppendAt
import Derived.Test.YtngalihnckbkfaaRQ
namespace Go.Proofs.Ytngalihnckbkfaa
open Go.RowKit Go.Shelf
set_option maxRecDepth 100000
set_option linter.unusedSimpArgs false
set_option linter.unusedVariables false

/-- what lies from lo on, below m, lies as it lay -/
def KeptO (lo m : Nat) (W W' : World) : Prop := ∀ k, lo ≤ k → k < m → W'.heap[k]? = W.heap[k]?
theorem KeptO.refl (lo m : Nat) (W : World) : KeptO lo m W W := fun _ _ _ => rfl
theorem KeptO.trans {lo m : Nat} {A B C : World} (h : KeptO lo m A B) (k : KeptO lo m B C) : KeptO lo m A C := fun i h1 h2 => (k i h1 h2).trans (h i h1 h2)
theorem KeptO.put {lo m l : Nat} {W : World} (o : Obj) (h : l < lo) : KeptO lo m W (W.putObj l o) := fun k h1 _ => World.putObj_heap_other (by omega)
theorem KeptO.cut {lo m m' : Nat} {A B : World} (h : KeptO lo m A B) (hm : m' ≤ m) : KeptO lo m' A B := fun i h1 h2 => h i h1 (by omega)
theorem KeptO.grown {lo m : Nat} {A B : World} (g : A.grownBy B none) (hm : m ≤ A.heap.size) : KeptO lo m A B := fun k _ h2 => g.block k (by omega) (by simp)
/-- but for one block that lies elsewhere -/
theorem KeptO.grownR {lo m : Nat} {A B : World} {row : Option Nat} (g : A.grownBy B row) (hm : m ≤ A.heap.size) (hr : ∀ r, row = some r → r < lo ∨ m ≤ r) : KeptO lo m A B := fun k h1 h2 => g.block k (by omega) (fun e => by have := hr k e.symm; omega)
theorem round_depth14 {m : Nat} (m' : Nat) {P : Program} {l : Nat} {f : FuncId} {tmps : Array Value} {assign body : Code} {w : World} {R : Ending → World → Prop} (h : RoundIn Fence.wide m P l f tmps assign body w R) : RoundIn Fence.wide m' P l f tmps assign body w R :=
  ⟨h.1, fun c cs _ => h.2 c cs (fun d hd => by cases hd)⟩
theorem grown_put {A B : World} {r : Nat} (o : Obj) (g : A.grownBy B none) (hr : r < A.heap.size) : (A.putObj r o).grownBy (B.putObj r o) none :=
  ⟨g.os, g.tape, g.output, by simpa using g.size, fun k hk _ => by
    have hk' : k < A.heap.size := by simpa using hk
    by_cases e : k = r
    · subst e; rw [World.putObj_heap_same (Nat.lt_of_lt_of_le hr g.size), World.putObj_heap_same hr]
    · rw [World.putObj_heap_other e, World.putObj_heap_other e]; exact g.block k hk' (by simp)⟩
/-- an iterator that may lay boxes of its own ahead of each round, and finds them there behind it -/
def SeqB {α : Type} (P : Program) (g : Nat) (lb : Array Value) (encs : α → Array Value) (Kp : World → World → Prop) (S Sp : List α → Prop) (w : World) : Prop :=
  ∀ (d l : Nat) (J Jx : List α → World → Prop) (W : World), Below w.heap.size w W → OwnFrom W.heap.size J → OwnFrom W.heap.size Jx →
    (∀ d' pre x W0 W1, J pre W0 → W0.grownBy W1 none → Sp (pre ++ [x]) → YieldAt Fence.wide d' P l (encs x) W1 fun e W' =>
      (e = .returned (.bool true) ∧ J (pre ++ [x]) W' ∧ Kp W1 W' ∧ KeptO W0.heap.size W1.heap.size W1 W') ∨ (e = .returned (.bool false) ∧ Jx (pre ++ [x]) W')) →
    J [] W →
    CallsIn Fence.wide d P g (#[.func (.yield l) #[] #[]] ++ lb) W fun e W' => (∃ v, e = .returned v) ∧ ((∃ xs, S xs ∧ J xs W') ∨ (∃ pre, Sp pre ∧ Jx pre W'))
def ownPostB {α : Type} (B : Nat) (Kp : World → World → Prop) (I : List α → World → Prop) (Ix : Code → List α → World → Prop) (xs : List α) (W0 W : World) : Exit → Act → World → Prop
  | .normal, _, W' => KeepsFrom B W W' ∧ Kp W W' ∧ KeptO W0.heap.size W.heap.size W W' ∧ I xs W'
  | .ret, _, W' => KeepsFrom B W W' ∧ Ix .ret xs W'
  | .exit id, _, W' => KeepsFrom B W W' ∧ Ix (.exit id) xs W'
  | .goto t, _, W' => KeepsFrom B W W' ∧ Ix (.goto t) xs W'
  | .panic _, _, _ => False
  | .outgrown, _, _ => False
set_option maxHeartbeats 1000000 in
/-- the loop over such an iterator -/
theorem rangeB {α : Type} {P : Program} {n : Nat} {g : Operand} {ps : Array Tmp} {assign body : Code} {Q : Exit → Act → World → Prop} {a : Act} {w : World}
    {gf : Nat} {lb : Array Value} (hg : a.eval g = .func (.func gf) #[] lb) (eg : ∀ args w, (callFunc gf args).run P w = .ok (.enter gf args) w)
    {encs : α → Array Value} {Kp : World → World → Prop} {S Sp : List α → Prop} {w0 : World} (hseq : SeqB P gf lb encs Kp S Sp w0) (hb0 : Below w0.heap.size w0 w) (hps : ∀ x, (encs x).size = ps.size)
    (hKt : ∀ {A B C : World}, Kp A B → Kp B C → Kp A C) (hKb : ∀ (W : World) (o : Obj), Kp W (W.putObj (w.heap.size + 1) o)) (hKg : ∀ (A B : World), A.grownBy B none → Kp A B)
    (I : List α → World → Prop) (Ix : Code → List α → World → Prop) (hI : OwnFrom w.heap.size I) (hIx : ∀ c, OwnFrom w.heap.size (Ix c))
    (h0 : I [] w) (Ax : α → Act → Nat → World → Prop) (hAx : ∀ x a' m, OwnFrom w.heap.size (fun (_ : Unit) W => Ax x a' m W))
    (hassign : ∀ (l d : Nat) (x : α) (W : World) (K : Act → World → Prop), (∀ a' W', W.grownBy W' none → Ax x a' W.heap.size W' → K a' W') →
      assign.wpIn (Fence.wide.inRound l) d P (Exit.then K (fun _ _ _ => False)) { tmps := (ps.zip (encs x)).foldl (fun t (p, v) => t.setIfInBounds p v) a.tmps, defers := [] } W)
    (hbody : ∀ (l d m : Nat) (pre : List α) (x : α) (a' : Act) (W0 W : World), w.heap.size + 2 ≤ W0.heap.size → W0.heap.size ≤ m → I pre W0 → W0.grownBy W none → Ax x a' m W → Sp (pre ++ [x]) →
      body.wpIn (Fence.wide.inRound l) d P (ownPostB w.heap.size Kp I Ix (pre ++ [x]) W0 W) a' W)
    (hdone : ∀ (D : Nat) (xs : List α) (W : World), w.heap.size ≤ D → S xs → I xs W → W.heap[D]? = some (.deferred (some [])) → Q .normal { a with defers := { target := .collected D, args := #[] } :: a.defers } W)
    (hstop : ∀ (D : Nat) (c : Code) (pre : List α) (W : World), w.heap.size ≤ D → Sp pre → Ix c pre W → W.heap[D]? = some (.deferred (some [])) → c.wpIn Fence.wide n P Q { a with defers := { target := .collected D, args := #[] } :: a.defers } W) :
    (Code.rangeFunc g ps assign body).wpIn Fence.wide n P Q a w := by
  refine wpIn_rangeFunc fun fn hfn => ?_
  obtain ⟨rc, hrc⟩ : ∃ rc : LoopState → Option Code → Loop, rc = fun st pe => { state := st, pending := pe, fn, tmps := a.tmps, params := ps, assign, body, defers := w.heap.size } := ⟨_, rfl⟩
  have hen := run_enterLoop_outer (P := P) (w := w) fn a.tmps ps assign body
  have hrr : ({ state := .ready, pending := none, fn, tmps := a.tmps, params := ps, assign, body, defers := w.heap.size } : Loop) = rc .ready none := by rw [hrc]
  rw [hrr] at hen
  generalize hW1 : (w.alloc (.deferred (some []))).alloc (.loop (rc .ready none)) = W1 at hen
  have hsz : W1.heap.size = w.heap.size + 2 := by rw [← hW1]; simp
  have hL1 : W1.heap[w.heap.size + 1]? = some (.loop (rc .ready none)) := by
    have := World.alloc_heap_new (w.alloc (.deferred (some []))) (.loop (rc .ready none))
    rw [World.size_alloc, hW1] at this; exact this
  have hK1 : W1.heap[w.heap.size]? = some (.deferred (some [])) := by
    rw [← hW1]; exact (Below.heap_alloc _ _ _ (by simp)).trans (World.alloc_heap_new w _)
  have hb1 : Below w0.heap.size w0 W1 := by
    rw [← hW1]; exact hb0.trans ((((Below.refl _ w).alloc (Nat.le_refl _) _).alloc (by simp) _).mono hb0.size)
  refine ⟨w.heap.size + 1, [{ target := .collected w.heap.size, args := #[] }], W1, { target := .fn (.func gf) lb, args := #[.func (.yield (w.heap.size + 1)) #[] #[]] }, W1, gf,
    #[.func (.yield (w.heap.size + 1)) #[] #[]] ++ lb, W1, hen, ?_, fun _ _ => trivial, ?_, (fun h => by cases h), ?_⟩
  · simp only [resolve, hg]
    simp [go_sem]
  · simp [invoke, go_sem, eg]
  have hJ : OwnFrom W1.heap.size (fun (pre : List α) W => I pre W ∧ W.heap[w.heap.size + 1]? = some (.loop (rc .ready none)) ∧ W.heap[w.heap.size]? = some (.deferred (some []))) := by
    rintro s A B row ⟨h1, h2, h3⟩ hgr hr
    have hne : ∀ k, k < w.heap.size + 2 → some k ≠ row := fun k hk e => by have := (hr k e.symm).1; omega
    exact ⟨hI s A B row h1 hgr (fun r e => ⟨by have := (hr r e).1; omega, (hr r e).2⟩), (hgr.block _ (Array.getElem?_eq_some_iff.1 h2).1 (hne _ (by omega))).trans h2, (hgr.block _ (Array.getElem?_eq_some_iff.1 h3).1 (hne _ (by omega))).trans h3⟩
  have hJx : OwnFrom W1.heap.size (fun (pre : List α) W => ∃ c, Ix c pre W ∧ W.heap[w.heap.size + 1]? = some (.loop (rc .done (some c))) ∧ W.heap[w.heap.size]? = some (.deferred (some []))) := by
    rintro s A B row ⟨c, h1, h2, h3⟩ hgr hr
    have hne : ∀ k, k < w.heap.size + 2 → some k ≠ row := fun k hk e => by have := (hr k e.symm).1; omega
    exact ⟨c, hIx c s A B row h1 hgr (fun r e => ⟨by have := (hr r e).1; omega, (hr r e).2⟩), (hgr.block _ (Array.getElem?_eq_some_iff.1 h2).1 (hne _ (by omega))).trans h2, (hgr.block _ (Array.getElem?_eq_some_iff.1 h3).1 (hne _ (by omega))).trans h3⟩
  refine (hseq _ (w.heap.size + 1) _ _ W1 hb1 hJ hJx ?_ ?_).mono ?_
  · -- one round
    rintro d' pre x V0 V ⟨hi, hl0, hk0⟩ hV hsp
    have hlt0 : w.heap.size + 1 < V0.heap.size := (Array.getElem?_eq_some_iff.1 hl0).1
    have hl : V.heap[w.heap.size + 1]? = some (.loop (rc .ready none)) := (hV.block _ hlt0 (by simp)).trans hl0
    have hk : V.heap[w.heap.size]? = some (.deferred (some [])) := (hV.block _ (by omega) (by simp)).trans hk0
    have hy := run_yield (P := P) (args := encs x) hl (by rw [hrc]; exact hps x)
    rw [hrc] at hy
    refine ⟨fn, _, assign, body, hy, roundIn_of_wpIn hfn (hassign _ d' x V _ ?_)⟩
    intro a' Va hVa hax
    have hla : Va.heap[w.heap.size + 1]? = some (.loop (rc .ready none)) := (hVa.block _ (Nat.lt_of_lt_of_le hlt0 hV.size) (by simp)).trans hl
    have hka : Va.heap[w.heap.size]? = some (.deferred (some [])) := (hVa.block _ (by have := hV.size; omega) (by simp)).trans hk
    have hlta : w.heap.size + 1 < Va.heap.size := (Array.getElem?_eq_some_iff.1 hla).1
    refine ⟨_, run_beginRound hla (by rw [hrc]), ?_⟩
    have hg2 := grown_put (.loop { rc .ready none with state := .busy }) (grown_trans hV hVa) hlt0
    have hi2 : I pre (V0.putObj (w.heap.size + 1) (.loop { rc .ready none with state := .busy })) := hI.putObj _ hi (by omega) hl0 rfl
    have hax2 : Ax x a' V.heap.size (Va.putObj (w.heap.size + 1) (.loop { rc .ready none with state := .busy })) := (hAx x a' _).putObj (s := ()) _ hax (by omega) hla rfl
    have hs0 : (V0.putObj (w.heap.size + 1) (.loop { rc .ready none with state := .busy })).heap.size = V0.heap.size := by simp
    have hkpa : Kp V (Va.putObj (w.heap.size + 1) (.loop { rc .ready none with state := .busy })) := hKt (hKg _ _ hVa) (hKb _ _)
    have hkoa : KeptO V0.heap.size V.heap.size V (Va.putObj (w.heap.size + 1) (.loop { rc .ready none with state := .busy })) := (KeptO.grown hVa (Nat.le_refl _)).trans (KeptO.put _ hlt0)
    generalize hB2 : Va.putObj (w.heap.size + 1) (.loop { rc .ready none with state := .busy }) = B2 at hg2 hax2 hkpa hkoa ⊢
    generalize hB0 : V0.putObj (w.heap.size + 1) (.loop { rc .ready none with state := .busy }) = B0 at hg2 hi2 hs0
    have hl2 : B2.heap[w.heap.size + 1]? = some (.loop { rc .ready none with state := .busy }) := by rw [← hB2]; exact World.putObj_heap_same hlta
    have hk2 : B2.heap[w.heap.size]? = some (.deferred (some [])) := by rw [← hB2]; exact (World.putObj_heap_other (by omega)).trans hka
    have hs2 : V.heap.size ≤ B2.heap.size := by rw [← hB2]; simpa using hVa.size
    refine wpIn_mono (hbody _ _ V.heap.size pre x a' B0 B2 (by omega) (by have := hV.size; omega) hi2 hg2 hax2 hsp) ?_
    have fin : ∀ (jump : Option Code) (W3 : World), KeepsFrom w.heap.size B2 W3 →
        ∃ W4, (Instr.endRound (w.heap.size + 1) jump).run P W3 = .ok (.bool jump.isNone) W4 ∧ W4 = W3.putObj (w.heap.size + 1) (.loop (rc (if jump.isNone then .ready else .done) jump)) ∧
        W3.heap[w.heap.size + 1]? = some (.loop { rc .ready none with state := .busy }) ∧ W4.heap[w.heap.size + 1]? = some (.loop (rc (if jump.isNone then .ready else .done) jump)) ∧
        W4.heap[w.heap.size]? = some (.deferred (some [])) := by
      intro jump W3 hk3
      have hl3 := hk3.same _ _ (by omega) hl2 rfl
      have hr := run_endRound (P := P) jump hl3
      have hre : ({ ({ rc .ready none with state := .busy } : Loop) with state := if jump.isNone then .ready else .done, pending := jump } : Loop) = rc (if jump.isNone then .ready else .done) jump := by rw [hrc]
      rw [hre] at hr
      exact ⟨_, hr, rfl, hl3, World.putObj_heap_same (Array.getElem?_eq_some_iff.1 hl3).1, (World.putObj_heap_other (by omega)).trans (hk3.same _ _ (Nat.le_refl _) hk2 rfl)⟩
    have left : ∀ (c : Code) (W3 : World), KeepsFrom w.heap.size B2 W3 → Ix c (pre ++ [x]) W3 → ∃ v W4, (Instr.endRound (w.heap.size + 1) (some c)).run P W3 = .ok v W4 ∧
        ((Ending.returned v = .returned (.bool true) ∧ (I (pre ++ [x]) W4 ∧ W4.heap[w.heap.size + 1]? = some (.loop (rc .ready none)) ∧ W4.heap[w.heap.size]? = some (.deferred (some []))) ∧ Kp V W4 ∧ KeptO V0.heap.size V.heap.size V W4) ∨
         (Ending.returned v = .returned (.bool false) ∧ ∃ c, Ix c (pre ++ [x]) W4 ∧ W4.heap[w.heap.size + 1]? = some (.loop (rc .done (some c))) ∧ W4.heap[w.heap.size]? = some (.deferred (some [])))) := by
      intro c W3 hk3 hi3
      obtain ⟨W4, hr, rfl, hl3, hl4, hk4⟩ := fin (some c) W3 hk3
      exact ⟨_, _, hr, .inr ⟨rfl, c, (hIx c).putObj _ hi3 (by omega) hl3 rfl, hl4, hk4⟩⟩
    rintro e a3 W3 hp
    cases e with
    | normal =>
      obtain ⟨hk3, hkp3, hko3, hi3⟩ := hp
      obtain ⟨W4, hr, rfl, hl3, hl4, hk4⟩ := fin none W3 hk3
      rw [hs0] at hko3
      exact ⟨_, _, hr, .inl ⟨rfl, ⟨hI.putObj _ hi3 (by omega) hl3 rfl, hl4, hk4⟩, hKt (hKt hkpa hkp3) (hKb _ _), (hkoa.trans (hko3.cut hs2)).trans (KeptO.put _ hlt0)⟩⟩
    | ret => exact left .ret W3 hp.1 hp.2
    | exit id => exact left (.exit id) W3 hp.1 hp.2
    | goto t => exact left (.goto t) W3 hp.1 hp.2
    | panic ch => exact hp.elim
    | outgrown => exact hp.elim
  · refine ⟨?_, hL1, hK1⟩
    rw [← hW1]
    exact hI.alloc _ (hI.alloc _ h0)
  · rintro e W2 ⟨⟨v, rfl⟩, (⟨xs, hS, hi, hl, hk⟩ | ⟨pre, hSp, c, hi, hl, hk⟩)⟩
    · have he := run_endLoop (P := P) hl (by rw [hrc]; simp)
      exact ⟨none, _, by rw [he, hrc], hdone _ xs _ (Nat.le_refl _) hS (hI.putObj _ hi (by omega) hl rfl) ((World.putObj_heap_other (by omega)).trans hk)⟩
    · have he := run_endLoop (P := P) hl (by rw [hrc]; simp)
      exact ⟨some c, _, by rw [he, hrc], hstop _ c pre _ (Nat.le_refl _) hSp ((hIx c).putObj _ hi (by omega) hl rfl) ((World.putObj_heap_other (by omega)).trans hk)⟩
end Go.Proofs.Ytngalihnckbkfaa
