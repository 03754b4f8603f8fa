/- A range over an iterator that itself goes through another iterator (a law of the walk's own kind, for texts). The program's pieces, as landed: an iterator over what stands between the slashes of a text. The program's parts, as landed: an iterator that goes through pieces and hands on what leads somewhere. -/
import Derived.RangeFuncNested
import Derived.RangeFuncBound
import Derived.RangeFuncCalls
import Derived.RangeFuncLeaves
import Derived.RangeFuncBox
import Derived.Shelf.Abstract
import Derived.Shelf.RegionOpen
import Derived.WalkKit
import Derived.OwnWalkIn
import Derived.TacticsInMore
import Derived.LoopNIn
import Derived.LoopIn
import Derived.Maps.AppendAt
import Derived.Test.YtlehncfehoelbaaGreatDoorB19
namespace Go.Proofs.YtlehncfehoelbaaGreatDoor
open Go.RowKit Go.Shelf
set_option maxRecDepth 100000
set_option linter.unusedSimpArgs false
set_option linter.unusedVariables false
/-- what lies from lo on, below m, lies as it lay -/
def KeptO (lo m : Nat) (W W' : World) : Prop := ∀ k, lo ≤ k → k < m → W'.heap[k]? = W.heap[k]?
theorem KeptO.refl (lo m : Nat) (W : World) : KeptO lo m W W := fun _ _ _ => rfl
theorem KeptO.trans {lo m : Nat} {A B C : World} (h : KeptO lo m A B) (k : KeptO lo m B C) : KeptO lo m A C := fun i h1 h2 => (k i h1 h2).trans (h i h1 h2)
theorem KeptO.put {lo m l : Nat} {W : World} (o : Obj) (h : l < lo) : KeptO lo m W (W.putObj l o) := fun k h1 _ => World.putObj_heap_other (by omega)
theorem keepsFrom_up {B C : Nat} {X Y : World} (h : KeepsFrom B X Y) (hBC : B ≤ C) : KeepsFrom C X Y := ⟨h.size, fun k o hk => h.same k o (by omega)⟩
theorem keepsFrom_put {B l : Nat} {W : World} (o : Obj) (h : l < B) : KeepsFrom B W (W.putObj l o) := ⟨by simp, fun k o' hk hs _ => (World.putObj_heap_other (by omega)).trans hs⟩
theorem own_up {β : Type} {B C : Nat} {I : β → World → Prop} (h : OwnFrom B I) (hBC : B ≤ C) : OwnFrom C I := fun s W W' row hs hg hr => h s W W' row hs hg (fun r e => ⟨Nat.le_trans hBC (hr r e).1, (hr r e).2⟩)
theorem round_depth {m : Nat} (m' : Nat) {P : Program} {l : Nat} {f : FuncId} {tmps : Array Value} {assign body : Code} {w : World} {R : Ending → World → Prop} (h : RoundIn Fence.wide m P l f tmps assign body w R) : RoundIn Fence.wide m' P l f tmps assign body w R :=
 ⟨h.1, fun c cs _ => h.2 c cs (fun d hd => by cases hd)⟩
/-- an iterator over texts whose rounds keep what it has laid itself -/
def SeqO (d : Nat) (P : Program) (g : Nat) (lb : Array Value) (S Sp : List ByteArray → Prop) (N : Nat) (w : World) : Prop :=
 ∀ (l : Nat) (J : Nat → List ByteArray → World → Prop) (Jx : List ByteArray → World → Prop) (W : World), Below w.heap.size w W → (∀ m, OwnFrom W.heap.size (J m)) → OwnFrom W.heap.size Jx →
  (∀ d' m pre x W1, W.heap.size ≤ m → m ≤ W1.heap.size → J m pre W1 → pre.length < N → YieldAt Fence.wide d' P l #[.string x] W1 fun e W' =>
   KeepsFrom W.heap.size W1 W' ∧ ((e = .returned (.bool true) ∧ J m (pre ++ [x]) W' ∧ KeptO W.heap.size m W1 W') ∨ (e = .returned (.bool false) ∧ Jx (pre ++ [x]) W'))) →
  (∀ m, W.heap.size ≤ m → J m [] W) →
  CallsIn Fence.wide d P g (#[.func (.yield l) #[] #[]] ++ lb) W fun e W' => (∃ v, e = .returned v) ∧ ((∃ m xs, S xs ∧ J m xs W') ∨ (∃ pre, Sp pre ∧ Jx pre W'))
set_option maxHeartbeats 1000000 in
/-- the loop over such an iterator -/
theorem rangeO {P : Program} {n : Nat} {g : Operand} {ps : Array Tmp} {assign body : Code} {Q : Exit → Act → World → Prop} {a : Act} {w : World}
  {gf : Nat} {lb : Array Value} (hg : a.eval g = .func (.func gf) #[] lb) (eg : ∀ args w, (callFunc gf args).run P w = .ok (.enter gf args) w)
  {S Sp : List ByteArray → Prop} {N : Nat} {w0 : World} (hseq : SeqO (n - 1) P gf lb S Sp N w0) (hb0 : Below w0.heap.size w0 w) (hps : ps.size = 1)
  (I : Nat → List ByteArray → World → Prop) (Ix : Code → List ByteArray → World → Prop) (hI : ∀ m, OwnFrom w.heap.size (I m)) (hIx : ∀ c, OwnFrom w.heap.size (Ix c))
  (h0 : ∀ m, w.heap.size + 2 ≤ m → I m [] w) (a₁ : ByteArray → Act)
  (hassign : ∀ (l d : Nat) (x : ByteArray) (W : World) (K : Act → World → Prop), K (a₁ x) W →
   assign.wpIn (Fence.wide.inRound l) d P (Exit.then K (fun _ _ _ => False)) { tmps := (ps.zip #[.string x]).foldl (fun t (p, v) => t.setIfInBounds p v) a.tmps, defers := [] } W)
  (hbody : ∀ (l d m : Nat) (pre : List ByteArray) (x : ByteArray) (W : World), w.heap.size + 2 ≤ m → m ≤ W.heap.size → I m pre W → pre.length < N →
   body.wpIn (Fence.wide.inRound l) d P (ownPostG w.heap.size (KeptO (w.heap.size + 2) m) (I m) Ix (pre ++ [x]) W) (a₁ x) W)
  (hdone : ∀ (D m : Nat) (xs : List ByteArray) (W : World), w.heap.size ≤ D → S xs → I m xs W → W.heap[D]? = some (.deferred (some [])) → Q .normal { a with defers := { target := .collected D, args := #[] } :: a.defers } W)
  (hstop : ∀ (D : Nat) (c : Code) (pre : List ByteArray) (W : World), w.heap.size ≤ D → Sp pre → Ix c pre W → W.heap[D]? = some (.deferred (some [])) → c.wpIn Fence.wide n P Q { a with defers := { target := .collected D, args := #[] } :: a.defers } W) :
  (Code.rangeFunc g ps assign body).wpIn Fence.wide n P Q a w := by
 refine wpIn_rangeFunc fun fn hfn => ?_
 -- the loop's record, as it is from the first round on
 obtain ⟨rc, hrc⟩ : ∃ rc : LoopState → Option Code → Loop, rc = fun st pe => { state := st, pending := pe, fn, tmps := a.tmps, params := ps, assign, body, defers := w.heap.size } := ⟨_, rfl⟩
 have hen := run_enterLoop_outer (P := P) (w := w) fn a.tmps ps assign body
 have hrr : ({ state := .ready, pending := none, fn, tmps := a.tmps, params := ps, assign, body, defers := w.heap.size } : Loop) = rc .ready none := by rw [hrc]
 rw [hrr] at hen
 generalize hW1 : (w.alloc (.deferred (some []))).alloc (.loop (rc .ready none)) = W1 at hen
 have hsz : W1.heap.size = w.heap.size + 2 := by rw [← hW1]; simp
 have hL1 : W1.heap[w.heap.size + 1]? = some (.loop (rc .ready none)) := by
  have := World.alloc_heap_new (w.alloc (.deferred (some []))) (.loop (rc .ready none))
  rw [World.size_alloc, hW1] at this; exact this
 have hK1 : W1.heap[w.heap.size]? = some (.deferred (some [])) := by
  rw [← hW1]; exact (Below.heap_alloc _ _ _ (by simp)).trans (World.alloc_heap_new w _)
 have hb1 : Below w0.heap.size w0 W1 := by
  rw [← hW1]; exact hb0.trans ((((Below.refl _ w).alloc (Nat.le_refl _) _).alloc (by simp) _).mono hb0.size)
 refine ⟨w.heap.size + 1, [{ target := .collected w.heap.size, args := #[] }], W1, { target := .fn (.func gf) lb, args := #[.func (.yield (w.heap.size + 1)) #[] #[]] }, W1, gf,
  #[.func (.yield (w.heap.size + 1)) #[] #[]] ++ lb, W1, hen, ?_, fun _ _ => trivial, ?_, (fun h => by cases h), ?_⟩
 ·simp only [resolve, hg]
  simp [go_sem]
 ·simp [invoke, go_sem, eg]
 -- the iterator, at what the loop's own variables hold and the record beside it
 have hJ : ∀ m, OwnFrom W1.heap.size (fun (pre : List ByteArray) W => I m pre W ∧ W.heap[w.heap.size + 1]? = some (.loop (rc .ready none)) ∧ W.heap[w.heap.size]? = some (.deferred (some []))) := by
  rintro m s A B row ⟨h1, h2, h3⟩ hgr hr
  have hne : ∀ k, k < w.heap.size + 2 → some k ≠ row := fun k hk e => by have := (hr k e.symm).1; omega
  exact ⟨hI m s A B row h1 hgr (fun r e => ⟨by have := (hr r e).1; omega, (hr r e).2⟩), (hgr.block _ (Array.getElem?_eq_some_iff.1 h2).1 (hne _ (by omega))).trans h2, (hgr.block _ (Array.getElem?_eq_some_iff.1 h3).1 (hne _ (by omega))).trans h3⟩
 have hJx : OwnFrom W1.heap.size (fun (pre : List ByteArray) W => ∃ c, Ix c pre W ∧ W.heap[w.heap.size + 1]? = some (.loop (rc .done (some c))) ∧ W.heap[w.heap.size]? = some (.deferred (some []))) := by
  rintro s A B row ⟨c, h1, h2, h3⟩ hgr hr
  have hne : ∀ k, k < w.heap.size + 2 → some k ≠ row := fun k hk e => by have := (hr k e.symm).1; omega
  exact ⟨c, hIx c s A B row h1 hgr (fun r e => ⟨by have := (hr r e).1; omega, (hr r e).2⟩), (hgr.block _ (Array.getElem?_eq_some_iff.1 h2).1 (hne _ (by omega))).trans h2, (hgr.block _ (Array.getElem?_eq_some_iff.1 h3).1 (hne _ (by omega))).trans h3⟩
 refine (hseq (w.heap.size + 1) _ _ W1 hb1 hJ hJx ?_ ?_).mono ?_
 ·-- one round
  rintro d' m pre x W hm1 hm2 ⟨hi, hl, hk⟩ hlen
  have hlt : w.heap.size + 1 < W.heap.size := (Array.getElem?_eq_some_iff.1 hl).1
  have hy := run_yield (P := P) (args := #[.string x]) hl (by rw [hrc]; exact hps.symm)
  rw [hrc] at hy
  refine ⟨fn, _, assign, body, hy, roundIn_of_wpIn hfn (hassign _ d' x W _ ⟨_, run_beginRound hl (by rw [hrc]), ?_⟩)⟩
  generalize hB2 : W.putObj (w.heap.size + 1) (.loop { rc .ready none with state := .busy }) = B2
  have hl2 : B2.heap[w.heap.size + 1]? = some (.loop { rc .ready none with state := .busy }) := by rw [← hB2]; exact World.putObj_heap_same hlt
  have hk2 : B2.heap[w.heap.size]? = some (.deferred (some [])) := by rw [← hB2]; exact (World.putObj_heap_other (by omega)).trans hk
  have hi2 : I m pre B2 := by rw [← hB2]; exact (hI m).putObj _ hi (by omega) hl rfl
  have hs2 : B2.heap.size = W.heap.size := by rw [← hB2]; simp
  have hkp2 : KeptO W1.heap.size m W B2 := by rw [← hB2]; exact KeptO.put _ (by omega)
  have hkf2 : KeepsFrom W1.heap.size W B2 := by rw [← hB2]; exact keepsFrom_put _ (by omega)
  refine wpIn_mono (hbody _ _ m pre x B2 (by omega) (by omega) hi2 hlen) ?_
  have fin : ∀ (jump : Option Code) (W3 : World), KeepsFrom w.heap.size B2 W3 →
    ∃ W4, (Instr.endRound (w.heap.size + 1) jump).run P W3 = .ok (.bool jump.isNone) W4 ∧ W4 = W3.putObj (w.heap.size + 1) (.loop (rc (if jump.isNone then .ready else .done) jump)) ∧
    W3.heap[w.heap.size + 1]? = some (.loop { rc .ready none with state := .busy }) ∧ W4.heap[w.heap.size + 1]? = some (.loop (rc (if jump.isNone then .ready else .done) jump)) ∧
    W4.heap[w.heap.size]? = some (.deferred (some [])) ∧ KeepsFrom W1.heap.size W W4 := by
   intro jump W3 hk3
   have hl3 := hk3.same _ _ (by omega) hl2 rfl
   have hr := run_endRound (P := P) jump hl3
   have hre : ({ ({ rc .ready none with state := .busy } : Loop) with state := if jump.isNone then .ready else .done, pending := jump } : Loop) = rc (if jump.isNone then .ready else .done) jump := by rw [hrc]
   rw [hre] at hr
   exact ⟨_, hr, rfl, hl3, World.putObj_heap_same (Array.getElem?_eq_some_iff.1 hl3).1, (World.putObj_heap_other (by omega)).trans (hk3.same _ _ (Nat.le_refl _) hk2 rfl), (hkf2.trans (keepsFrom_up hk3 (by omega))).trans (keepsFrom_put _ (by omega))⟩
  have left : ∀ (c : Code) (W3 : World), KeepsFrom w.heap.size B2 W3 → Ix c (pre ++ [x]) W3 → ∃ v W4, (Instr.endRound (w.heap.size + 1) (some c)).run P W3 = .ok v W4 ∧ (KeepsFrom W1.heap.size W W4 ∧
    ((Ending.returned v = .returned (.bool true) ∧ (I m (pre ++ [x]) W4 ∧ W4.heap[w.heap.size + 1]? = some (.loop (rc .ready none)) ∧ W4.heap[w.heap.size]? = some (.deferred (some []))) ∧ KeptO W1.heap.size m W W4) ∨
     (Ending.returned v = .returned (.bool false) ∧ ∃ c, Ix c (pre ++ [x]) W4 ∧ W4.heap[w.heap.size + 1]? = some (.loop (rc .done (some c))) ∧ W4.heap[w.heap.size]? = some (.deferred (some []))))) := by
   intro c W3 hk3 hi3
   obtain ⟨W4, hr, rfl, hl3, hl4, hk4, hkf⟩ := fin (some c) W3 hk3
   exact ⟨_, _, hr, hkf, .inr ⟨rfl, c, (hIx c).putObj _ hi3 (by omega) hl3 rfl, hl4, hk4⟩⟩
  rintro e a3 W3 hp
  cases e with
  | normal =>
   obtain ⟨hk3, hkp3, hi3⟩ := hp
   obtain ⟨W4, hr, rfl, hl3, hl4, hk4, hkf⟩ := fin none W3 hk3
   refine ⟨_, _, hr, hkf, .inl ⟨rfl, ⟨(hI m).putObj _ hi3 (by omega) hl3 rfl, hl4, hk4⟩, ?_⟩⟩
   rw [← hsz] at hkp3
   exact (hkp2.trans hkp3).trans (KeptO.put _ (by omega))
  | ret => exact left .ret W3 hp.1 hp.2
  | exit id => exact left (.exit id) W3 hp.1 hp.2
  | goto t => exact left (.goto t) W3 hp.1 hp.2
  | panic ch => exact hp.elim
  | outgrown => exact hp.elim
 ·intro m hm
  refine ⟨?_, hL1, hK1⟩
  rw [← hW1]
  exact (hI m).alloc _ ((hI m).alloc _ (h0 m (by omega)))
 ·-- behind the iterator
  rintro e W2 ⟨⟨v, rfl⟩, (⟨m, xs, hS, hi, hl, hk⟩ | ⟨pre, hSp, c, hi, hl, hk⟩)⟩
  ·have he := run_endLoop (P := P) hl (by rw [hrc]; simp)
   exact ⟨none, _, by rw [he, hrc], hdone _ m xs _ (Nat.le_refl _) hS ((hI m).putObj _ hi (by omega) hl rfl) ((World.putObj_heap_other (by omega)).trans hk)⟩
  ·have he := run_endLoop (P := P) hl (by rw [hrc]; simp)
   exact ⟨some c, _, by rw [he, hrc], hstop _ c pre _ (Nat.le_refl _) hSp ((hIx c).putObj _ hi (by omega) hl rfl) ((World.putObj_heap_other (by omega)).trans hk)⟩
attribute [local go_sem] Oper.semAt_some

/-- the pieces of a text -/
def pcs (s : ByteArray) : List ByteArray := txs (cutS s.toList)
/-- a round keeps the text in its box -/
def Kpt (Bn : Nat) (s : ByteArray) (W W' : World) : Prop := W.cell? ⟨Bn, 0, none⟩ = some (.string s) → W'.cell? ⟨Bn, 0, none⟩ = some (.string s)
/-- between two rounds of the iterator -/
def Cv (L : Tx) (i f : Nat) (ps : List Tx) : Prop := i ≤ L.length ∧ f ≤ i ∧ cutS (L.take i) = ps ++ [(L.drop f).take (i - f)]
/-- a byte that is no slash -/
theorem cv_byte {s : ByteArray} {i f : Nat} {ps : List Tx} (h : Cv s.toList i f ps) (hi : i < s.size) (hne : s[i] ≠ 47) : Cv s.toList (i + 1) f ps := by
 obtain ⟨h1, h2, h3⟩ := h
 refine ⟨by rw [tl_len]; omega, by omega, ?_⟩
 rw [take_get hi, cutS_byte hne h3, show i + 1 - f = i - f + 1 by omega]
 congr 2
 have hlen : i - f < (s.toList.drop f).length := by rw [List.length_drop, tl_len]; omega
 rw [List.take_succ_eq_append_getElem hlen, List.getElem_drop]
 congr 2
 rw [← tl_get hi]
 congr 1
 omega
/-- a slash: a piece more -/
theorem cv_slash {s : ByteArray} {i f : Nat} {ps : List Tx} (h : Cv s.toList i f ps) (hi : i < s.size) (he : s[i] = 47) : Cv s.toList (i + 1) (i + 1) (ps ++ [(s.toList.drop f).take (i - f)]) ∧ ∃ r, cutS s.toList = ps ++ [(s.toList.drop f).take (i - f)] ++ r ∧ r ≠ [] := by
 obtain ⟨h1, h2, h3⟩ := h
 refine ⟨⟨by rw [tl_len]; omega, Nat.le_refl _, ?_⟩, cutS (s.toList.drop (i + 1)), ?_, cutS_ne _⟩
 ·rw [take_get hi, he, cutS_slash h3, Nat.sub_self, List.take_zero]
 ·have e2 : s.toList = s.toList.take i ++ 47 :: s.toList.drop (i + 1) := by
   conv => lhs; rw [← List.take_append_drop i s.toList, drop_get hi, he]
  have e3 := congrArg cutS e2
  rw [cutS_cat, h3] at e3
  exact e3
/-- the last piece -/
theorem cv_end {s : ByteArray} {f : Nat} {ps : List Tx} (h : Cv s.toList s.size f ps) : cutS s.toList = ps ++ [(s.toList.drop f).take (s.size - f)] := by
 obtain ⟨h1, h2, h3⟩ := h
 rw [List.take_of_length_le (by rw [tl_len]; omega)] at h3
 exact h3
set_option maxRecDepth 100000 in
set_option maxHeartbeats 2000000 in
theorem pieces1_in (F : Fence) (n : Nat) (hf : F.fn 153) (hro : F.round = none) (hn : 1 ≤ n) (l Bn : Nat) (s : ByteArray) (hs : s.size ≤ 1000000) (J Jx : List ByteArray → World → Prop)
  (hY : ∀ pre x W, J pre W → pre.length < (pcs s).length → YieldAt F (n - 1) Tryz.prog l #[.string x] W fun e W' =>
   (e = .returned (.bool true) ∧ J (pre ++ [x]) W' ∧ Kpt Bn s W W') ∨ (e = .returned (.bool false) ∧ Jx (pre ++ [x]) W'))
  (W : World) (hBn : W.cell? ⟨Bn, 0, none⟩ = some (.string s)) (h0 : J [] W) :
  CallsIn F n Tryz.prog 153 #[.func (.yield l) #[] #[], .pointer (some ⟨Bn, 0, none⟩)] W fun e W' => (∃ v, e = .returned v) ∧
   ((∃ ys, ys = pcs s ∧ J ys W') ∨ (∃ pre, pre <+: pcs s ∧ Jx pre W')) := by
 refine callsIn_of_wp Tryz.func153 rfl hf ?_ hro
 simp only [Tryz.ntmps153, List.size_toArray, List.length_cons, List.length_nil, Nat.reduceAdd, Nat.reduceSub, Array.replicate_succ, Array.replicate_zero, List.push_toArray, List.append_toArray, List.nil_append, List.cons_append]
 gi_wp2
 gi_loopw [3, 7] (fun vf vi wr => ∃ (i f : Nat) (ps : List Tx), vi = .int .i64 i ∧ vf = .int .i64 f ∧ i ≤ s.size ∧ Hid (Cv s.toList i f ps) ∧ wr.cell? ⟨Bn, 0, none⟩ = some (.string s) ∧ J (txs ps) wr) (fun _ vi _ => s.size - (intOf vi).toNat)
 case atStart => exact ⟨0, 0, [], rfl, rfl, by omega, ⟨Nat.zero_le _, Nat.le_refl _, by simp [cutS]⟩, hBn, h0⟩
 case round =>
  obtain ⟨i, f, ps, rfl, rfl, hi1, HC, hb, hJ⟩ := hrel
  have hfi : f ≤ i := HC.out.2.1
  by_cases hlt : i < s.size
  ·have hlti : (i : Int) < s.size := by omega
   have hfii : (f : Int) ≤ (i : Int) := by omega
   by_cases hne : s[i] = 47
   ·obtain ⟨hn2, r, hr, _⟩ := cv_slash HC.out hlt hne
    have hbb : ((s[i].toNat : Int) == 47) = true := by rw [hne]; rfl
    have hex := extract_tx s f i
    generalize (s.toList.drop f).take (i - f) = q at *
    have hlen : (txs ps).length < (pcs s).length := by unfold pcs txs; rw [hr]; simp
    have hpre : txs ps ++ [tx q] <+: pcs s := ⟨txs r, by unfold pcs; rw [hr]; unfold txs; simp⟩
    have HN : Hid _ := And.intro hn2 hpre
    obtain ⟨fn, tmps, assign, body, hy, hR⟩ := hY (txs ps) (tx q) wr hJ hlen
    clear hn2 hpre hr HC hlen hne
    gi_wp2
    refine hR.mono ?_
    rintro e W3 (⟨rfl, hJ3, hk3⟩ | ⟨rfl, hJx3⟩)
    ·have hb3 : W3.cell? ⟨Bn, 0, none⟩ = some (.string s) := hk3 hb
     gi_wp2
     go_roundw
     case rel => exact ⟨i + 1, i + 1, ps ++ [q], by go_num, by go_num, by omega, HN.out.1, hb3, by unfold txs at hJ3 ⊢; rw [List.map_append]; exact hJ3⟩
     case measure => simp [intOf]; omega
    ·gi_wp2
     refine bodyPost_ret (results_none rfl _ _ _) rfl ?_
     exact ⟨⟨_, rfl⟩, .inr ⟨txs ps ++ [tx q], HN.out.2, hJx3⟩⟩
   ·have hbb : ((s[i].toNat : Int) == 47) = false := by
     rw [beq_eq_false_iff_ne]
     intro e
     exact hne (by apply UInt8.toNat_inj.1; show s[i].toNat = 47; omega)
    have HN : Hid _ := cv_byte HC.out hlt hne
    clear hne HC
    gi_wp2
    go_roundw
    case rel => exact ⟨i + 1, f, ps, by go_num, rfl, by omega, HN, hb, hJ⟩
    case measure => simp [intOf]; omega
  ·obtain rfl : i = s.size := by omega
   have hlti : ¬ (s.size : Int) < s.size := by omega
   have hfii : (f : Int) ≤ (s.size : Int) := by omega
   have hr := cv_end HC.out
   have hex := extract_tx s f s.size
   generalize (s.toList.drop f).take (s.size - f) = q at *
   have hlen : (txs ps).length < (pcs s).length := by unfold pcs txs; rw [hr]; simp
   have hps : txs ps ++ [tx q] = pcs s := by unfold pcs; rw [hr]; unfold txs; simp
   have HN : Hid _ := hps
   obtain ⟨fn, tmps, assign, body, hy, hR⟩ := hY (txs ps) (tx q) wr hJ hlen
   clear hr HC hlen hps
   gi_wp2
   refine hR.mono ?_
   rintro e W3 (⟨rfl, hJ3, hk3⟩ | ⟨rfl, hJx3⟩)
   ·gi_wp2
    go_end0
    have hJ2 : J (pcs s) W3 := by rw [← HN.out]; exact hJ3
    exact ⟨⟨_, rfl⟩, .inl (by first | exact hJ2 | exact ⟨_, rfl, hJ2⟩)⟩
   ·gi_wp2
    go_end0
    exact ⟨⟨_, rfl⟩, .inr ⟨txs ps ++ [tx q], by rw [HN.out]; exact List.prefix_refl _, hJx3⟩⟩
theorem pieces_in (F : Fence) (n : Nat) (hf : F.fn 129) (hro : F.round = none) (s : ByteArray) (w : World) :
  CallsIn F n Tryz.prog 129 #[.string s] w fun e w' => e = .returned (.func (.func 153) #[] #[.pointer (some ⟨w.heap.size, 0, none⟩)]) ∧ w' = w.alloc (.cells #[.string s] 9) := by
 refine callsIn_of_wp Tryz.func129 rfl hf ?_ hro
 simp only [Tryz.ntmps129, List.size_toArray, List.length_cons, List.length_nil, Nat.reduceAdd, Nat.reduceSub, Array.replicate_succ, Array.replicate_zero, List.push_toArray, List.append_toArray, List.nil_append, List.cons_append]
 gi_wp2
 go_ret
 exact ⟨rfl, rfl⟩
theorem pieces_stops (F : Fence) (n : Nat) (hf : F.fn 153) (hro : F.round = none) (hn : 1 ≤ n) (Bn : Nat) (s : ByteArray) (hs : s.size ≤ 1000000) (w : World) (hBn : Bn < w.heap.size) (hc : w.cell? ⟨Bn, 0, none⟩ = some (.string s)) :
  SeqStopsK F n Tryz.prog 153 #[.pointer (some ⟨Bn, 0, none⟩)] (fun x : ByteArray => #[Value.string x]) (Kpt Bn s) (fun ys => ys = pcs s) (fun pre => pre <+: pcs s) (pcs s).length w := fun l J Jx W hW _ _ hY h0 =>
 pieces1_in F n hf hro hn l Bn s hs J Jx hY W ((hW.cell (p := ⟨Bn, 0, none⟩) hBn).trans hc) h0
attribute [local go_sem] Oper.semAt_some

/-- the texts that are kept -/
def kps (l : List ByteArray) : List ByteArray := l.filter fun x => kept x.toList
theorem kps_snoc (l : List ByteArray) (x : ByteArray) : kps (l ++ [x]) = kps l ++ (if kept x.toList = true then [x] else []) := by
 unfold kps
 rw [List.filter_append]
 cases h : kept x.toList <;> simp [h]
theorem kps_txs (l : List Tx) : kps (txs l) = txs (l.filter kept) := by
 unfold kps txs
 rw [List.filter_map]
 congr 1
 apply List.filter_congr
 intro x _
 simp [Function.comp, tx_tl]
theorem kps_le (l : List ByteArray) : (kps l).length ≤ l.length := List.length_filter_le _ _
theorem kps_prefix {a b : List ByteArray} (h : a <+: b) : kps a <+: kps b := by
 obtain ⟨r, rfl⟩ := h
 exact ⟨kps r, by unfold kps; rw [List.filter_append]⟩
theorem kpt_b {Bn : Nat} {s : ByteArray} {w : World} (h : Bn < w.heap.size) (W : World) (l : Nat) (o o' : Obj) (hl : w.heap.size ≤ l) (ho : W.heap[l]? = some o) (hc : o.isCells = false) : Kpt Bn s W (W.putObj l o') := fun hb =>
 cell_kept hb (grownBy_putObj' W l o') (fun r e => by cases e; exact ⟨o, ho, hc⟩)
theorem cell_same {W W' : World} {B : Nat} (h : W'.heap[B]? = W.heap[B]?) (o : Nat) : W'.cell? ⟨B, o, none⟩ = W.cell? ⟨B, o, none⟩ := by
 unfold World.cell?
 rw [h]
theorem boxed_same {W W' : World} {B : Nat} {t : TypeId} {v : Value} (h : W'.heap[B]? = W.heap[B]?) (b : Boxed W B t v) : Boxed W' B t v := h.trans b
/-- what parts' variables hold between two rounds -/
structure PI (lo yb m l : Nat) (J : Nat → List ByteArray → World → Prop) (pre : List ByteArray) (W : World) : Prop where
 b : Boxed W yb 134 (.func (.yield l) #[] #[])
 j : J m (kps pre) W
 sz : m ≤ W.heap.size
theorem pi_own {lo yb m l B : Nat} {J : Nat → List ByteArray → World → Prop} (h : ∀ m, OwnFrom lo (J m)) (hB : lo ≤ B) : OwnFrom B (PI lo yb m l J) := by
 rintro pre X Y row ⟨h0, h1, h2⟩ hgr hrow
 refine ⟨h0.kept hgr (fun e => ?_), own_up (h m) hB _ X Y row h1 hgr hrow, Nat.le_trans h2 hgr.size⟩
 obtain ⟨o, ho, hc⟩ := (hrow _ e.symm).2
 rw [show X.heap[_]? = _ from h0] at ho; cases ho; cases hc
set_option maxRecDepth 100000 in
set_option maxHeartbeats 4000000 in
theorem parts1_in (l Bn : Nat) (s : ByteArray) (hs : s.size ≤ 1000000) (J : Nat → List ByteArray → World → Prop) (Jx : List ByteArray → World → Prop) (W : World) (hJo : ∀ m, OwnFrom W.heap.size (J m)) (hJxo : OwnFrom W.heap.size Jx)
  (hY : ∀ d' m pre x W1, W.heap.size ≤ m → m ≤ W1.heap.size → J m pre W1 → pre.length < (pcs s).length → YieldAt Fence.wide d' Tryz.prog l #[.string x] W1 fun e W' =>
   KeepsFrom W.heap.size W1 W' ∧ ((e = .returned (.bool true) ∧ J m (pre ++ [x]) W' ∧ KeptO W.heap.size m W1 W') ∨ (e = .returned (.bool false) ∧ Jx (pre ++ [x]) W')))
  (h0 : ∀ m, W.heap.size ≤ m → J m [] W) (hBn : W.cell? ⟨Bn, 0, none⟩ = some (.string s)) :
  CallsIn Fence.wide 4 Tryz.prog 128 #[.func (.yield l) #[] #[], .pointer (some ⟨Bn, 0, none⟩)] W fun e W' => (∃ v, e = .returned v) ∧
   ((∃ m ys, ys = kps (pcs s) ∧ J m ys W') ∨ (∃ pre, pre <+: kps (pcs s) ∧ Jx pre W')) := by
 refine callsIn_of_wp_marks Tryz.func128 rfl trivial ?_ rfl
 simp only [Tryz.ntmps128, List.size_toArray, List.length_cons, List.length_nil, Nat.reduceAdd, Nat.reduceSub, Array.replicate_succ, Array.replicate_zero, List.push_toArray, List.append_toArray, List.nil_append, List.cons_append]
 have hBl : Bn < W.heap.size := by
  rcases Nat.lt_or_ge Bn W.heap.size with h | h
  ·exact h
  ·simp [World.cell?, Array.getElem?_eq_none h] at hBn
 have hBn2 : (W.alloc (.cells #[.func (.yield l) #[] #[]] 134)).cell? ⟨Bn, 0, none⟩ = some (.string s) := (((Below.refl _ W).alloc (Nat.le_refl _) _).cell (p := ⟨Bn, 0, none⟩) hBl).trans hBn
 gi_wp2_with (refine ⟨trivial, ?_⟩; gi_at_call 129; refine (pieces_in Fence.wide 3 trivial rfl _ _).mono ?_; rintro e w' ⟨rfl, rfl⟩)
 have b0 := Boxed.new W 134 (.func (.yield l) #[] #[])
 have b1 := Boxed.new (W.alloc (.cells #[.func (.yield l) #[] #[]] 134)) 9 (.string s)
 rw [World.size_alloc] at b1
 have hB0 : Below W.heap.size W ((W.alloc (.cells #[.func (.yield l) #[] #[]] 134)).alloc (.cells #[.string s] 9)) := ((Below.refl _ W).alloc (Nat.le_refl _) _).alloc (by simp) _
 have hJ0 : ∀ m, W.heap.size ≤ m → J m [] ((W.alloc (.cells #[.func (.yield l) #[] #[]] 134)).alloc (.cells #[.string s] 9)) := fun m hm => (hJo m).alloc _ ((hJo m).alloc _ (h0 m hm))
 have b0' := b0.alloc (.cells #[.string s] 9)
 have hsz : ((W.alloc (.cells #[.func (.yield l) #[] #[]] 134)).alloc (.cells #[.string s] 9)).heap.size = W.heap.size + 2 := by simp
 obtain ⟨W2, hW2⟩ : ∃ W2, (W.alloc (.cells #[.func (.yield l) #[] #[]] 134)).alloc (.cells #[.string s] 9) = W2 := ⟨_, rfl⟩
 rw [hW2] at b1 hB0 hJ0 b0' hsz ⊢
 clear b0 hBn2 hW2 h0
 refine wpIn_rangeFunc_ownG rfl (by decide) (gf := 153) (lb := #[.pointer (some ⟨W.heap.size + 1, 0, none⟩)]) rfl trivial (enters_of Tryz.func153 (by kernel_rfl) rfl)
  (pieces_stops Fence.wide 3 trivial rfl (by decide) (W.heap.size + 1) s hs W2 (by omega) b1.cell) (fun h k hb => k (h hb)) (fun W l o o' hl ho hc _ => kpt_b (by omega) W l o o' hl ho hc) (Below.refl _ _) (fun _ => rfl)
  (PI W.heap.size W.heap.size W2.heap.size l J) (fun c pre W' => c = .ret ∧ Jx (kps pre) W') (pi_own hJo (by omega)) (fun c => OwnFrom.and (ownFrom_pure _ _) (fun s A B row h hg hr => hJxo _ A B row h hg (fun r e => ⟨by have := (hr r e).1; omega, (hr r e).2⟩))) ⟨b0', hJ0 _ (by omega), Nat.le_refl _⟩
  (fun x => { tmps := #[.func (.yield l) #[] #[], .pointer (some ⟨Bn, 0, none⟩), .pointer (some ⟨W.heap.size, 0, none⟩), .string x, .string s, .func (.func 153) #[] #[.pointer (some ⟨W.heap.size + 1, 0, none⟩)], .string x, undef, undef, undef, undef, undef, undef, undef, undef, undef, undef, undef, undef], defers := [] }) ?assign ?body ?done ?stop
 case assign =>
  intro l x W K hK
  gi_wp2
  exact hK
 case body =>
  rintro l2 pre x W3 ⟨hb, hj, hsz3⟩ hlt9
  have hc := hb.cell
  have hks := kps_snoc pre x
  have hkx := keptx (x := x) rfl
  cases hke : kept x.toList with
  | true =>
   rw [hke] at hkx
   rw [if_pos hke] at hks
   have hx1 : (x.toList == []) = false := by cases h : (x.toList == []) <;> simp [h] at hkx ⊢
   have hx2 : (x.toList == [46]) = false := by cases h : (x.toList == [46]) <;> simp [h] at hkx ⊢
   obtain ⟨fn, tmps, assign, body, hy, hR⟩ := hY 1 W2.heap.size (kps pre) x W3 (by omega) hsz3 hj (Nat.lt_of_le_of_lt (kps_le _) hlt9)
   have HK : Hid _ := hks
   clear hkx hks hke
   gi_wp2
   refine (round_depth _ hR).mono ?_
   rintro e W4 ⟨hkf, (⟨rfl, hj4, hko⟩ | ⟨rfl, hjx⟩)⟩
   ·gi_wp2
    refine ⟨keepsFrom_up hkf (by omega), fun h => (cell_same (hko (W.heap.size + 1) (by omega) (by omega)) 0).trans h, boxed_same (hko W.heap.size (Nat.le_refl _) (by omega)) hb, ?_, Nat.le_trans hsz3 hkf.size⟩
    rw [HK.out]; exact hj4
   ·gi_wp2
    refine ⟨keepsFrom_up hkf (by omega), rfl, ?_⟩
    rw [HK.out]; exact hjx
  | false =>
   rw [hke] at hkx
   rw [if_neg (by rw [hke]; decide), List.append_nil] at hks
   have HP : Hid (PI W.heap.size W.heap.size W2.heap.size l J (pre ++ [x]) W3) := ⟨hb, by rw [hks]; exact hj, hsz3⟩
   clear hks hke
   cases hx1 : (x.toList == []) with
   | true =>
    clear hkx
    gi_wp2
    refine ⟨fun _ h => (by cases h), ?_⟩
    gi_wp2
    exact ⟨KeepsFrom.refl _ _, fun h => h, HP.out⟩
   | false =>
    have hx2 : (x.toList == [46]) = true := by cases h : (x.toList == [46]) <;> simp [hx1, h] at hkx ⊢
    clear hkx
    gi_wp2
    refine ⟨fun _ h => (by cases h), ?_⟩
    gi_wp2
    exact ⟨KeepsFrom.refl _ _, fun h => h, HP.out⟩
 case done =>
  rintro D ys W3 hD rfl ⟨hb, hj, hsz3⟩ hK
  gi_wp2
  refine ⟨by simp, .inl ⟨_, _, rfl, run_takeDeferred hK, ?_⟩⟩
  exact ⟨_, results_none rfl _ _ _, ⟨_, rfl⟩, .inl ⟨W2.heap.size, _, rfl, (hJo _).putObj _ hj (by omega) hK rfl⟩⟩
 case stop =>
  rintro D c pre W3 hD hpre ⟨rfl, hjx⟩ hK
  gi_wp2
  refine ⟨by simp, .inl ⟨_, _, rfl, run_takeDeferred hK, ?_⟩⟩
  exact ⟨_, results_none rfl _ _ _, ⟨_, rfl⟩, .inr ⟨_, kps_prefix hpre, hJxo.putObj _ hjx (by omega) hK rfl⟩⟩
theorem parts_in (d : Nat) (s : ByteArray) (w : World) :
  CallsIn Fence.wide d Tryz.prog 111 #[.string s] w fun e w' => e = .returned (.func (.func 128) #[] #[.pointer (some ⟨w.heap.size, 0, none⟩)]) ∧ w' = w.alloc (.cells #[.string s] 9) := by
 refine callsIn_of_wp Tryz.func111 rfl trivial ?_ rfl
 simp only [Tryz.ntmps111, List.size_toArray, List.length_cons, List.length_nil, Nat.reduceAdd, Nat.reduceSub, Array.replicate_succ, Array.replicate_zero, List.push_toArray, List.append_toArray, List.nil_append, List.cons_append]
 gi_wp2
 go_ret
 exact ⟨rfl, rfl⟩
theorem parts_stops (Bn : Nat) (s : ByteArray) (hs : s.size ≤ 1000000) (w : World) (hBn : Bn < w.heap.size) (hc : w.cell? ⟨Bn, 0, none⟩ = some (.string s)) :
  SeqO 4 Tryz.prog 128 #[.pointer (some ⟨Bn, 0, none⟩)] (fun ys => ys = kps (pcs s)) (fun pre => pre <+: kps (pcs s)) (pcs s).length w := fun l J Jx W hW hJo hJxo hY h0 =>
 parts1_in l Bn s hs J Jx W hJo hJxo hY h0 ((hW.cell (p := ⟨Bn, 0, none⟩) hBn).trans hc)
end Go.Proofs.YtlehncfehoelbaaGreatDoor
