/- A range over an iterator that itself goes through another iterator (a law of the walk's own kind, for texts). -/
import Derived.RangeFuncNested
import Derived.RangeFuncBound
import Derived.RangeFuncCalls
import Derived.RangeFuncLeaves
import Derived.RangeFuncBox
import Derived.Shelf.Abstract
import Derived.Shelf.RegionOpen
import Derived.WalkKit
import Derived.OwnWalkIn
import Derived.TacticsInMore
import Derived.LoopNIn
import Derived.LoopIn
import Derived.Maps.AppendAt
import Derived.Test.YthidnmncekfgaaaNGD
namespace Go.Proofs.Ythidnmncekfgaaa
open Go.RowKit Go.Shelf
set_option maxRecDepth 100000
set_option linter.unusedSimpArgs false
set_option linter.unusedVariables false

/-- what lies from lo on, below m, lies as it lay -/
def KeptO (lo m : Nat) (W W' : World) : Prop := ∀ k, lo ≤ k → k < m → W'.heap[k]? = W.heap[k]?
theorem KeptO.refl (lo m : Nat) (W : World) : KeptO lo m W W := fun _ _ _ => rfl
theorem KeptO.trans {lo m : Nat} {A B C : World} (h : KeptO lo m A B) (k : KeptO lo m B C) : KeptO lo m A C := fun i h1 h2 => (k i h1 h2).trans (h i h1 h2)
theorem KeptO.put {lo m l : Nat} {W : World} (o : Obj) (h : l < lo) : KeptO lo m W (W.putObj l o) := fun k h1 _ => World.putObj_heap_other (by omega)
theorem keepsFrom_up {B C : Nat} {X Y : World} (h : KeepsFrom B X Y) (hBC : B ≤ C) : KeepsFrom C X Y := ⟨h.size, fun k o hk => h.same k o (by omega)⟩
theorem keepsFrom_put {B l : Nat} {W : World} (o : Obj) (h : l < B) : KeepsFrom B W (W.putObj l o) := ⟨by simp, fun k o' hk hs _ => (World.putObj_heap_other (by omega)).trans hs⟩
theorem own_up {β : Type} {B C : Nat} {I : β → World → Prop} (h : OwnFrom B I) (hBC : B ≤ C) : OwnFrom C I := fun s W W' row hs hg hr => h s W W' row hs hg (fun r e => ⟨Nat.le_trans hBC (hr r e).1, (hr r e).2⟩)
theorem round_depth {m : Nat} (m' : Nat) {P : Program} {l : Nat} {f : FuncId} {tmps : Array Value} {assign body : Code} {w : World} {R : Ending → World → Prop} (h : RoundIn Fence.wide m P l f tmps assign body w R) : RoundIn Fence.wide m' P l f tmps assign body w R :=
  ⟨h.1, fun c cs _ => h.2 c cs (fun d hd => by cases hd)⟩
/-- an iterator over texts whose rounds keep what it has laid itself -/
def SeqO (d : Nat) (P : Program) (g : Nat) (lb : Array Value) (S Sp : List ByteArray → Prop) (N : Nat) (w : World) : Prop :=
  ∀ (l : Nat) (J : Nat → List ByteArray → World → Prop) (Jx : List ByteArray → World → Prop) (W : World), Below w.heap.size w W → (∀ m, OwnFrom W.heap.size (J m)) → OwnFrom W.heap.size Jx →
    (∀ d' m pre x W1, W.heap.size ≤ m → m ≤ W1.heap.size → J m pre W1 → pre.length < N → YieldAt Fence.wide d' P l #[.string x] W1 fun e W' =>
      KeepsFrom W.heap.size W1 W' ∧ ((e = .returned (.bool true) ∧ J m (pre ++ [x]) W' ∧ KeptO W.heap.size m W1 W') ∨ (e = .returned (.bool false) ∧ Jx (pre ++ [x]) W'))) →
    (∀ m, W.heap.size ≤ m → J m [] W) →
    CallsIn Fence.wide d P g (#[.func (.yield l) #[] #[]] ++ lb) W fun e W' => (∃ v, e = .returned v) ∧ ((∃ m xs, S xs ∧ J m xs W') ∨ (∃ pre, Sp pre ∧ Jx pre W'))
set_option maxHeartbeats 1000000 in
/-- the loop over such an iterator -/
theorem rangeO {P : Program} {n : Nat} {g : Operand} {ps : Array Tmp} {assign body : Code} {Q : Exit → Act → World → Prop} {a : Act} {w : World}
    {gf : Nat} {lb : Array Value} (hg : a.eval g = .func (.func gf) #[] lb) (eg : ∀ args w, (callFunc gf args).run P w = .ok (.enter gf args) w)
    {S Sp : List ByteArray → Prop} {N : Nat} {w0 : World} (hseq : SeqO (n - 1) P gf lb S Sp N w0) (hb0 : Below w0.heap.size w0 w) (hps : ps.size = 1)
    (I : Nat → List ByteArray → World → Prop) (Ix : Code → List ByteArray → World → Prop) (hI : ∀ m, OwnFrom w.heap.size (I m)) (hIx : ∀ c, OwnFrom w.heap.size (Ix c))
    (h0 : ∀ m, w.heap.size + 2 ≤ m → I m [] w) (a₁ : ByteArray → Act)
    (hassign : ∀ (l d : Nat) (x : ByteArray) (W : World) (K : Act → World → Prop), K (a₁ x) W →
      assign.wpIn (Fence.wide.inRound l) d P (Exit.then K (fun _ _ _ => False)) { tmps := (ps.zip #[.string x]).foldl (fun t (p, v) => t.setIfInBounds p v) a.tmps, defers := [] } W)
    (hbody : ∀ (l d m : Nat) (pre : List ByteArray) (x : ByteArray) (W : World), w.heap.size + 2 ≤ m → m ≤ W.heap.size → I m pre W → pre.length < N →
      body.wpIn (Fence.wide.inRound l) d P (ownPostG w.heap.size (KeptO (w.heap.size + 2) m) (I m) Ix (pre ++ [x]) W) (a₁ x) W)
    (hdone : ∀ (D m : Nat) (xs : List ByteArray) (W : World), w.heap.size ≤ D → S xs → I m xs W → W.heap[D]? = some (.deferred (some [])) → Q .normal { a with defers := { target := .collected D, args := #[] } :: a.defers } W)
    (hstop : ∀ (D : Nat) (c : Code) (pre : List ByteArray) (W : World), w.heap.size ≤ D → Sp pre → Ix c pre W → W.heap[D]? = some (.deferred (some [])) → c.wpIn Fence.wide n P Q { a with defers := { target := .collected D, args := #[] } :: a.defers } W) :
    (Code.rangeFunc g ps assign body).wpIn Fence.wide n P Q a w := by
  refine wpIn_rangeFunc fun fn hfn => ?_
  -- the loop's record, as it is from the first round on
  obtain ⟨rc, hrc⟩ : ∃ rc : LoopState → Option Code → Loop, rc = fun st pe => { state := st, pending := pe, fn, tmps := a.tmps, params := ps, assign, body, defers := w.heap.size } := ⟨_, rfl⟩
  have hen := run_enterLoop_outer (P := P) (w := w) fn a.tmps ps assign body
  have hrr : ({ state := .ready, pending := none, fn, tmps := a.tmps, params := ps, assign, body, defers := w.heap.size } : Loop) = rc .ready none := by rw [hrc]
  rw [hrr] at hen
  generalize hW1 : (w.alloc (.deferred (some []))).alloc (.loop (rc .ready none)) = W1 at hen
  have hsz : W1.heap.size = w.heap.size + 2 := by rw [← hW1]; simp
  have hL1 : W1.heap[w.heap.size + 1]? = some (.loop (rc .ready none)) := by
    have := World.alloc_heap_new (w.alloc (.deferred (some []))) (.loop (rc .ready none))
    rw [World.size_alloc, hW1] at this; exact this
  have hK1 : W1.heap[w.heap.size]? = some (.deferred (some [])) := by
    rw [← hW1]; exact (Below.heap_alloc _ _ _ (by simp)).trans (World.alloc_heap_new w _)
  have hb1 : Below w0.heap.size w0 W1 := by
    rw [← hW1]; exact hb0.trans ((((Below.refl _ w).alloc (Nat.le_refl _) _).alloc (by simp) _).mono hb0.size)
  refine ⟨w.heap.size + 1, [{ target := .collected w.heap.size, args := #[] }], W1, { target := .fn (.func gf) lb, args := #[.func (.yield (w.heap.size + 1)) #[] #[]] }, W1, gf,
    #[.func (.yield (w.heap.size + 1)) #[] #[]] ++ lb, W1, hen, ?_, fun _ _ => trivial, ?_, (fun h => by cases h), ?_⟩
  · simp only [resolve, hg]
    simp [go_sem]
  · simp [invoke, go_sem, eg]
  -- the iterator, at what the loop's own variables hold and the record beside it
  have hJ : ∀ m, OwnFrom W1.heap.size (fun (pre : List ByteArray) W => I m pre W ∧ W.heap[w.heap.size + 1]? = some (.loop (rc .ready none)) ∧ W.heap[w.heap.size]? = some (.deferred (some []))) := by
    rintro m s A B row ⟨h1, h2, h3⟩ hgr hr
    have hne : ∀ k, k < w.heap.size + 2 → some k ≠ row := fun k hk e => by have := (hr k e.symm).1; omega
    exact ⟨hI m s A B row h1 hgr (fun r e => ⟨by have := (hr r e).1; omega, (hr r e).2⟩), (hgr.block _ (Array.getElem?_eq_some_iff.1 h2).1 (hne _ (by omega))).trans h2, (hgr.block _ (Array.getElem?_eq_some_iff.1 h3).1 (hne _ (by omega))).trans h3⟩
  have hJx : OwnFrom W1.heap.size (fun (pre : List ByteArray) W => ∃ c, Ix c pre W ∧ W.heap[w.heap.size + 1]? = some (.loop (rc .done (some c))) ∧ W.heap[w.heap.size]? = some (.deferred (some []))) := by
    rintro s A B row ⟨c, h1, h2, h3⟩ hgr hr
    have hne : ∀ k, k < w.heap.size + 2 → some k ≠ row := fun k hk e => by have := (hr k e.symm).1; omega
    exact ⟨c, hIx c s A B row h1 hgr (fun r e => ⟨by have := (hr r e).1; omega, (hr r e).2⟩), (hgr.block _ (Array.getElem?_eq_some_iff.1 h2).1 (hne _ (by omega))).trans h2, (hgr.block _ (Array.getElem?_eq_some_iff.1 h3).1 (hne _ (by omega))).trans h3⟩
  refine (hseq (w.heap.size + 1) _ _ W1 hb1 hJ hJx ?_ ?_).mono ?_
  · -- one round
    rintro d' m pre x W hm1 hm2 ⟨hi, hl, hk⟩ hlen
    have hlt : w.heap.size + 1 < W.heap.size := (Array.getElem?_eq_some_iff.1 hl).1
    have hy := run_yield (P := P) (args := #[.string x]) hl (by rw [hrc]; exact hps.symm)
    rw [hrc] at hy
    refine ⟨fn, _, assign, body, hy, roundIn_of_wpIn hfn (hassign _ d' x W _ ⟨_, run_beginRound hl (by rw [hrc]), ?_⟩)⟩
    generalize hB2 : W.putObj (w.heap.size + 1) (.loop { rc .ready none with state := .busy }) = B2
    have hl2 : B2.heap[w.heap.size + 1]? = some (.loop { rc .ready none with state := .busy }) := by rw [← hB2]; exact World.putObj_heap_same hlt
    have hk2 : B2.heap[w.heap.size]? = some (.deferred (some [])) := by rw [← hB2]; exact (World.putObj_heap_other (by omega)).trans hk
    have hi2 : I m pre B2 := by rw [← hB2]; exact (hI m).putObj _ hi (by omega) hl rfl
    have hs2 : B2.heap.size = W.heap.size := by rw [← hB2]; simp
    have hkp2 : KeptO W1.heap.size m W B2 := by rw [← hB2]; exact KeptO.put _ (by omega)
    have hkf2 : KeepsFrom W1.heap.size W B2 := by rw [← hB2]; exact keepsFrom_put _ (by omega)
    refine wpIn_mono (hbody _ _ m pre x B2 (by omega) (by omega) hi2 hlen) ?_
    have fin : ∀ (jump : Option Code) (W3 : World), KeepsFrom w.heap.size B2 W3 →
        ∃ W4, (Instr.endRound (w.heap.size + 1) jump).run P W3 = .ok (.bool jump.isNone) W4 ∧ W4 = W3.putObj (w.heap.size + 1) (.loop (rc (if jump.isNone then .ready else .done) jump)) ∧
        W3.heap[w.heap.size + 1]? = some (.loop { rc .ready none with state := .busy }) ∧ W4.heap[w.heap.size + 1]? = some (.loop (rc (if jump.isNone then .ready else .done) jump)) ∧
        W4.heap[w.heap.size]? = some (.deferred (some [])) ∧ KeepsFrom W1.heap.size W W4 := by
      intro jump W3 hk3
      have hl3 := hk3.same _ _ (by omega) hl2 rfl
      have hr := run_endRound (P := P) jump hl3
      have hre : ({ ({ rc .ready none with state := .busy } : Loop) with state := if jump.isNone then .ready else .done, pending := jump } : Loop) = rc (if jump.isNone then .ready else .done) jump := by rw [hrc]
      rw [hre] at hr
      exact ⟨_, hr, rfl, hl3, World.putObj_heap_same (Array.getElem?_eq_some_iff.1 hl3).1, (World.putObj_heap_other (by omega)).trans (hk3.same _ _ (Nat.le_refl _) hk2 rfl), (hkf2.trans (keepsFrom_up hk3 (by omega))).trans (keepsFrom_put _ (by omega))⟩
    have left : ∀ (c : Code) (W3 : World), KeepsFrom w.heap.size B2 W3 → Ix c (pre ++ [x]) W3 → ∃ v W4, (Instr.endRound (w.heap.size + 1) (some c)).run P W3 = .ok v W4 ∧ (KeepsFrom W1.heap.size W W4 ∧
        ((Ending.returned v = .returned (.bool true) ∧ (I m (pre ++ [x]) W4 ∧ W4.heap[w.heap.size + 1]? = some (.loop (rc .ready none)) ∧ W4.heap[w.heap.size]? = some (.deferred (some []))) ∧ KeptO W1.heap.size m W W4) ∨
         (Ending.returned v = .returned (.bool false) ∧ ∃ c, Ix c (pre ++ [x]) W4 ∧ W4.heap[w.heap.size + 1]? = some (.loop (rc .done (some c))) ∧ W4.heap[w.heap.size]? = some (.deferred (some []))))) := by
      intro c W3 hk3 hi3
      obtain ⟨W4, hr, rfl, hl3, hl4, hk4, hkf⟩ := fin (some c) W3 hk3
      exact ⟨_, _, hr, hkf, .inr ⟨rfl, c, (hIx c).putObj _ hi3 (by omega) hl3 rfl, hl4, hk4⟩⟩
    rintro e a3 W3 hp
    cases e with
    | normal =>
      obtain ⟨hk3, hkp3, hi3⟩ := hp
      obtain ⟨W4, hr, rfl, hl3, hl4, hk4, hkf⟩ := fin none W3 hk3
      refine ⟨_, _, hr, hkf, .inl ⟨rfl, ⟨(hI m).putObj _ hi3 (by omega) hl3 rfl, hl4, hk4⟩, ?_⟩⟩
      rw [← hsz] at hkp3
      exact (hkp2.trans hkp3).trans (KeptO.put _ (by omega))
    | ret => exact left .ret W3 hp.1 hp.2
    | exit id => exact left (.exit id) W3 hp.1 hp.2
    | goto t => exact left (.goto t) W3 hp.1 hp.2
    | panic ch => exact hp.elim
    | outgrown => exact hp.elim
  · intro m hm
    refine ⟨?_, hL1, hK1⟩
    rw [← hW1]
    exact (hI m).alloc _ ((hI m).alloc _ (h0 m (by omega)))
  · -- behind the iterator
    rintro e W2 ⟨⟨v, rfl⟩, (⟨m, xs, hS, hi, hl, hk⟩ | ⟨pre, hSp, c, hi, hl, hk⟩)⟩
    · have he := run_endLoop (P := P) hl (by rw [hrc]; simp)
      exact ⟨none, _, by rw [he, hrc], hdone _ m xs _ (Nat.le_refl _) hS ((hI m).putObj _ hi (by omega) hl rfl) ((World.putObj_heap_other (by omega)).trans hk)⟩
    · have he := run_endLoop (P := P) hl (by rw [hrc]; simp)
      exact ⟨some c, _, by rw [he, hrc], hstop _ c pre _ (Nat.le_refl _) hSp ((hIx c).putObj _ hi (by omega) hl rfl) ((World.putObj_heap_other (by omega)).trans hk)⟩
end Go.Proofs.Ythidnmncekfgaaa
