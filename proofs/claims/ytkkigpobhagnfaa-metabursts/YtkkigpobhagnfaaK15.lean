/- The program's Encode. -/
import Derived.Test.YtkkigpobhagnfaaK14
namespace Go.Proofs.Ytkkigpobhagnfaa
open Go.RowKit Go.Shelf
set_option maxRecDepth 100000
attribute [local go_sem] Oper.semAt_some
set_option linter.unusedSimpArgs false
set_option linter.unusedVariables false

/-- the pieces of a stream -/
def pcB (bs : List Int) (k : Nat) : List Int := (bs.drop (8192 * k)).take 8192
/-- the chunk of a piece, as it is stored -/
def ckE14 (p : List Int) (limit : Nat) : Ck := ⟨0, (p.length : Int), ((pk14 p limit).1.length : Int), (pk14 p limit).2, crc ent 0 (pk14 p limit).1⟩
/-- what comes of the first k pieces -/
def enP (bs : List Int) (limit : Nat) : Nat → List (List Int)
 | 0 => []
 | k + 1 => enP bs limit k ++ [hdb (ckE14 (pcB bs k) limit), (pk14 (pcB bs k) limit).1]
def enM (bs : List Int) (limit : Nat) : List Int := (enP bs limit (cnt bs.length)).flatten
def EnPost14 (w : World) (bs : List Int) (e : Ending) (w' : World) : Prop := ∃ g, e = .returned (.tuple #[.slice (some ⟨g, 0, none⟩) bs.length bs.length, .int .i64 0]) ∧ Blk w' g (bv bs) ∧ w.heap.size ≤ g ∧ w.grownBy w' none
/-- between two rounds of Encode's loop -/
structure Ei (w : World) (h qt : Nat) (bs : List Int) (limit : Nat) (pre : List Nat) (W : World) : Prop where
 lim : Bx W h 28 [.float .f64 limit]
 tab : SBlk W qt (tcs ent) 55
 lb : ∃ v ss, Bx W (qt + 1) 57 [v] ∧ W.ownsRow (qt + 4) 22 1 v (2 * pre.length) (ss.map Sv.val) ∧ Pcs W ss (enP bs limit pre.length) ∧ (∀ s ∈ ss, ∀ b o, s.a = some ⟨b, o, none⟩ → 0 < s.n → some b ≠ v.ownBlock)
 gr : w.grownBy W none
/-- what the rounds keep of what the pieces' iterator reads -/
def Kt (q1 q2 : Nat) (W W' : World) : Prop := (∀ k, k = q1 ∨ k = q2 → k < W.heap.size → W'.heap[k]? = W.heap[k]?) ∧ W.heap.size ≤ W'.heap.size
theorem Kt.trans {q1 q2 : Nat} {A B C : World} (h1 : Kt q1 q2 A B) (h2 : Kt q1 q2 B C) : Kt q1 q2 A C := ⟨fun k hk hs => (h2.1 k hk (Nat.lt_of_lt_of_le hs h1.2)).trans (h1.1 k hk hs), Nat.le_trans h1.2 h2.2⟩
theorem Kt.put {q1 q2 l : Nat} (W : World) (o : Obj) (h1 : q1 ≠ l) (h2 : q2 ≠ l) : Kt q1 q2 W (W.putObj l o) := ⟨fun k hk _ => World.putObj_heap_other (by omega), by simp⟩
theorem Kt.grown {q1 q2 : Nat} {A B : World} (g : A.grownBy B none) : Kt q1 q2 A B := ⟨fun k _ hs => g.block k hs (by simp), g.size⟩
theorem kt_cell {q1 q2 : Nat} {W W' : World} (k : Kt q1 q2 W W') {p : Addr} {v : Value} (hv : W.cell? p = some v) (hp : p.block = q1 ∨ p.block = q2) : W'.cell? p = some v := by
 have hb : p.block < W.heap.size := by
  rcases Nat.lt_or_ge p.block W.heap.size with h1 | h1
  ·exact h1
  ·simp [World.cell?, Array.getElem?_eq_none h1] at hv
 unfold World.cell? at hv ⊢
 rw [k.1 _ hp hb]
 exact hv
theorem ls_kept {q1 q2 : Nat} {a : Option Addr} {len cap : Nat} {W W' : World} (k : Kt q1 q2 W W') (H : Ls q1 q2 a len cap W) : Ls q1 q2 a len cap W' := ⟨kt_cell k H.1 (.inl rfl), kt_cell k H.2 (.inr rfl)⟩
theorem SBlk.turn14 {W W' : World} {row : Option Nat} {g : Nat} {T : TypeId} {cs : List Value} (h : SBlk W g cs T) (hg : W.grownBy W' row) (hne : some g ≠ row) : SBlk W' g cs T := by
 unfold SBlk at h ⊢; rw [hg.block g (Array.getElem?_eq_some_iff.1 h).1 hne]; exact h
theorem Pcs.turn {W W' : World} {row : Option Nat} (hg : W.grownBy W' row) : ∀ {ss : List Sv} {bs : List (List Int)}, Pcs W ss bs → (∀ s ∈ ss, ∀ b o, s.a = some ⟨b, o, none⟩ → 0 < s.n → some b ≠ row) → Pcs W' ss bs
 | [], [], _, _ => trivial
 | s :: r, b :: t, h, hn => by
  refine ⟨⟨⟨h.1.row.len_eq, h.1.row.le, h.1.row.byt, fun h0 => ?_⟩, h.1.nil, h.1.nc, h.1.cm⟩, h.2.turn hg (fun s' hs' => hn s' (List.mem_cons_of_mem _ hs'))⟩
  obtain ⟨bb, off, e, hc⟩ := h.1.row.cells h0
  refine ⟨bb, off, e, fun i hi => ?_⟩
  have hne := hn s (List.mem_cons_self ..) bb off e h0
  have hv := hc i hi
  unfold World.cell? at hv ⊢
  rw [hg.block bb (cell_lt (hc i hi)) hne]
  exact hv
theorem nd14 {ops : Array Oper} (h : ops.toList.all (fun o => match o.op with | .defer _ => false | _ => true) = true) : ∀ (i : Nat) (o : Oper), ops[i]? = some o → ∀ c, o.op ≠ .defer c := by
 intro i o ho c hc
 have hm : o ∈ ops.toList := by
  rw [← Array.getElem?_toList] at ho
  exact List.mem_of_getElem? ho
 have := List.all_eq_true.1 h o hm
 rw [hc] at this
 cases this
theorem Row.lt14 {w : World} {b o n : Nat} {xs : List Int} (R : Row w (some ⟨b, o, none⟩) n xs) (h : 0 < n) : b < w.heap.size := by
 obtain ⟨b', o', e, hc⟩ := R.cells h
 injection e with e
 injection e with e1 e2
 subst e1
 exact cell_lt (hc 0 h)
theorem pcs_ne14 {W : World} {g : Nat} {T : TypeId} {v : Value} (hB : Bx W g T [v]) (hv : ∀ k n, v ≠ .int k n) {s : Sv} {bs : List Int} (h : Byte W s.a s.n s.c bs) : ∀ b o, s.a = some ⟨b, o, none⟩ → 0 < s.n → b ≠ g := by
 intro b o e h0 e'
 subst e'
 obtain ⟨b', o', e2, hc⟩ := h.row.cells h0
 rw [e] at e2
 injection e2 with e2
 injection e2 with e3 e4
 subst e3
 have hcell := hc 0 h0
 rw [hB.c] at hcell
 cases hq : o' + 0 with
 | zero => rw [hq] at hcell; simp at hcell; exact hv _ _ hcell
 | succ q => rw [hq] at hcell; simp at hcell
theorem own_notint {W : World} {base e sz n : Nat} {v : Value} {xs : List Value} (h : W.ownsRow base e sz v n xs) : ∀ k m, v ≠ .int k m := by
 rcases h.2 with ⟨rfl, _⟩ | ⟨g, cap, cur, rfl, _⟩ <;> intro k m e <;> cases e
set_option maxHeartbeats 1000000 in
/-- the end of a round of Encode's loop -/
theorem en_end {w w1 A4 W0 W w5 w7 w8 : World} {bs pc rb : List Int} {limit g : Nat} {pre : List Nat} {v v' : Value} {ss : List Sv} {a5 : Option Addr} {n5 c5 : Nat} (hw1 : w.heap.size + 1 ≤ w1.heap.size) (s4 : A4.heap.size = w1.heap.size + 4) (hs0 : A4.heap.size + 2 ≤ W0.heap.size)
  (rL : Bx W0 w.heap.size 28 [.float .f64 limit]) (hgr : w.grownBy W0 none) (rl : Bx W0 (w1.heap.size + 1) 57 [v]) (hown : W0.ownsRow (w1.heap.size + 4) 22 1 v (2 * pre.length) (ss.map Sv.val)) (hP : Pcs W0 ss (enP bs limit pre.length))
  (hne : ∀ s ∈ ss, ∀ b o, s.a = some ⟨b, o, none⟩ → 0 < s.n → some b ≠ v.ownBlock) (hg : W0.grownBy W none) (hT : SBlk W0 w1.heap.size (tcs ent) 55) (hPC : pcB bs pre.length = pc) (hRR : (pk14 pc limit).1 = rb) (g5 : W.grownBy w5 none) (B5 : Byte w5 a5 n5 c5 rb)
  (hN5 : ∀ b' o, a5 = some ⟨b', o, none⟩ → 0 < n5 → some b' ≠ v.ownBlock) (g7 : w5.grownBy w7 none) (bg : Blk w7 g (bv (hdb (ckE14 pc limit)))) (hgn : w5.heap.size ≤ g)
  (hown' : w8.ownsRow (w1.heap.size + 4) 22 1 v' (2 * pre.length + 2) (ss.map Sv.val ++ [.slice (some ⟨g, 0, none⟩) 8 8, .slice a5 n5 c5])) (hgrow : (w7.alloc (.cells #[.slice (some ⟨g, 0, none⟩) 8 8, .slice a5 n5 c5] 22)).grownBy w8 v.ownBlock)
  (hat : v'.ownBlock = v.ownBlock ∨ v'.ownBlock = some (w7.heap.size + 1)) (act : Act) :
  ownPostB A4.heap.size (Kt (w1.heap.size + 2) (w1.heap.size + 2 + 1)) (Ei w w.heap.size w1.heap.size bs limit) (fun _ _ _ => False) (pre ++ [pre.length]) W0 W .normal act (w8.setCell ⟨w1.heap.size + 1, 0, none⟩ v') := by
 have g07 := grown_trans (grown_trans hg g5) g7
 obtain ⟨t1, t2, t3, t4, t5⟩ := turned14 (b := w1.heap.size + 1) (B := w1.heap.size + 4) (by omega) (by omega) rl hown g07 hown' hgrow
 have gW7 := grown_trans g5 g7
 have hob := fun k (e : v.ownBlock = some k) => (hown.lt k e)
 have hk : ∀ k, k < w1.heap.size + 4 → k ≠ w1.heap.size + 1 → k < W0.heap.size → (w8.setCell ⟨w1.heap.size + 1, 0, none⟩ v').heap[k]? = W0.heap[k]? := fun k h1 h2 h3 =>
  (t2 k (Nat.lt_of_lt_of_le h3 g07.size) h2 (fun e => by have := hob k e.symm; omega)).trans (g07.block k h3 (by simp))
 refine ⟨⟨Nat.le_trans gW7.size t3, fun k o hkb hs ho => ?_⟩, ⟨fun k hkk hs => ?_, Nat.le_trans gW7.size t3⟩, (KeptO.grown gW7 (Nat.le_refl _)).trans (t4.cut gW7.size), ?_, ?_, ⟨v', ss ++ [⟨some ⟨g, 0, none⟩, 8, 8⟩] ++ [⟨a5, n5, c5⟩], ?_, ?_, ?_, ?_⟩, ?_⟩
 ·exact t1.same k o (by omega) ((gW7.block k (Array.getElem?_eq_some_iff.1 hs).1 (by simp)).trans hs) ho
 ·rw [t2 k (Nat.lt_of_lt_of_le hs gW7.size) (by omega) (fun e => by have := hob k e.symm; omega)]
  exact gW7.block k hs (by simp)
 ·exact ⟨by rw [hk _ (by omega) (by omega) rL.lt]; exact rL.blk⟩
 ·unfold SBlk at hT ⊢
  rw [hk _ (by omega) (by omega) (Array.getElem?_eq_some_iff.1 hT).1]; exact hT
 ·exact (((rl.kept g07).kept (World.grownBy_alloc w7 (.cells #[.slice (some ⟨g, 0, none⟩) 8 8, .slice a5 n5 c5] 22) none)).keptR hgrow (fun e => by have := hob _ e.symm; omega)).set 0 v'
 ·simp only [List.length_append, List.length_cons, List.length_nil, List.map_append, List.map_cons, List.map_nil, List.append_assoc, List.cons_append, List.nil_append]
  exact t5
 ·have hlen : (pre ++ [pre.length]).length = pre.length + 1 := by simp
  rw [hlen, enP, hPC, hRR]
  have hb8 : Byte w7 (some ⟨g, 0, none⟩) 8 8 (hdb (ckE14 pc limit)) := by
   have h := bg.row (hdb_byt _) (by rw [hdb_len]; unfold maxLen; omega)
   rw [hdb_len] at h
   exact ⟨h, (fun h => by cases h), Nat.le_refl _, (by unfold maxLen; omega)⟩
  have hP7 : Pcs w7 (ss ++ [⟨some ⟨g, 0, none⟩, 8, 8⟩] ++ [⟨a5, n5, c5⟩]) (enP bs limit pre.length ++ [hdb (ckE14 pc limit)] ++ [rb]) := ((hP.grown g07).snoc hb8).snoc (B5.grown g7)
  have e9 : enP bs limit pre.length ++ [hdb (ckE14 pc limit)] ++ [rb] = enP bs limit pre.length ++ [hdb (ckE14 pc limit), rb] := by rw [List.append_assoc]; rfl
  rw [e9] at hP7
  have hne7 : ∀ s ∈ ss ++ [⟨some ⟨g, 0, none⟩, 8, 8⟩] ++ [⟨a5, n5, c5⟩], ∀ b o, s.a = some ⟨b, o, none⟩ → 0 < s.n → some b ≠ v.ownBlock := by
   intro s hs b o e h0
   rcases List.mem_append.1 hs with hs | hs
   ·rcases List.mem_append.1 hs with hs | hs
    ·exact hne s hs b o e h0
    ·obtain rfl : s = _ := List.mem_singleton.1 hs
     injection e with e; injection e with e1 e2
     intro e'; have := hob b e'.symm; have := hg.size; have := g5.size; omega
   ·obtain rfl : s = _ := List.mem_singleton.1 hs
    exact hN5 b o e h0
  have hP8 := (hP7.grown (World.grownBy_alloc w7 (.cells #[.slice (some ⟨g, 0, none⟩) 8 8, .slice a5 n5 c5] 22) none)).turn hgrow hne7
  have hbx8 := ((rl.kept g07).kept (World.grownBy_alloc w7 (.cells #[.slice (some ⟨g, 0, none⟩) 8 8, .slice a5 n5 c5] 22) none)).keptR hgrow (fun e => by have := hob _ e.symm; omega)
  refine hP8.turn (grown_set w8 (w1.heap.size + 1) 0 v') (fun s hs b o e h0 e' => ?_)
  injection e' with e'
  obtain ⟨i, hi⟩ := List.getElem?_of_mem hs
  obtain ⟨bb, _, hB⟩ := hP8.get i s hi
  exact pcs_ne14 hbx8 (own_notint hown) hB b o e h0 e'
 ·intro s hs b o e h0 e'
  have hlt7 : b < w7.heap.size ∧ some b ≠ v.ownBlock := by
   rcases List.mem_append.1 hs with hs | hs
   ·rcases List.mem_append.1 hs with hs | hs
    ·obtain ⟨i, hi⟩ := List.getElem?_of_mem hs
     obtain ⟨bb, _, hB⟩ := (hP.grown g07).get i s hi
     have hR := hB.row
     rw [e] at hR
     obtain ⟨b2, o2, e2, hc⟩ := hR.cells h0
     injection e2 with e2; injection e2 with e3 e4
     subst e3
     exact ⟨cell_lt (hc 0 h0), hne s hs b o e h0⟩
    ·obtain rfl : s = _ := List.mem_singleton.1 hs
     injection e with e; injection e with e1 e2
     subst e1
     exact ⟨bg.lt, fun e' => by have := hob _ e'.symm; have := hg.size; have := g5.size; omega⟩
   ·obtain rfl : s = _ := List.mem_singleton.1 hs
    have hR := (B5.grown g7).row
    simp only at e
    rw [e] at hR
    obtain ⟨b2, o2, e2, hc⟩ := hR.cells h0
    injection e2 with e2; injection e2 with e3 e4
    subst e3
    exact ⟨cell_lt (hc 0 h0), hN5 b o e h0⟩
  rcases hat with h | h
  ·rw [h] at e'; exact hlt7.2 e'
  ·rw [h] at e'; injection e' with e'; omega
 ·have gw7 := grown_trans hgr g07
  exact ⟨hgrow.os.trans gw7.os, hgrow.tape.trans gw7.tape, hgrow.output.trans gw7.output, Nat.le_trans gw7.size t3, fun k hkk _ => (t2 k (Nat.lt_of_lt_of_le hkk gw7.size) (by omega) (fun e => by have := hob k e.symm; omega)).trans (gw7.block k hkk (by simp))⟩
theorem wpIn_append {F : Fence} {n : Nat} {P : Program} {o : Oper} {a : Act} {w w' : World} {K : Act → World → Prop} {Q : Exit → Act → World → Prop} {s x : Operand} {t : TypeId} {v u v' : Value} (hop : o.op = .call { callee := .builtin .append, args := #[s, x], argTypes := #[t, t] })
  (hs : a.eval s = v) (hx : a.eval x = u) (hrun : (Builtin.append_ #[t, t] o.type #[v, u]).run P w = .ok v' w') (hK : K (a.put o.dst v') w') : Oper.wpIn F n P o a w K Q := by
 unfold Oper.wpIn
 refine ⟨by simp [Oper.about, hop, resolve, Target.leads, Sem.run_pure], ?_⟩
 rw [Oper.semAt_plain F _ _ (by rw [hop]; intro c hc'; cases hc')]
 simp [execOp, hop, resolve, invoke, builtin, hs, hx, hrun, Result.andThen]
 exact hK
theorem own_sls {W : World} {base n : Nat} {v : Value} {ss : List Sv} (h : W.ownsRow base 22 1 v n (ss.map Sv.val)) : ∃ a c, v = .slice a n c ∧ Sls W a n ss := by
 have hl := h.1
 rw [List.length_map, Nat.mul_one] at hl
 rcases h.2 with ⟨rfl, h0⟩ | ⟨g, cap, cur, rfl, _, hg, _, _, _, ht⟩
 ·exact ⟨none, 0, by rw [h0], hl, fun h => by omega⟩
 ·refine ⟨_, cap, rfl, hl, fun _ => ⟨g, 0, rfl, fun i s hs => ?_⟩⟩
  have hi : i < ss.length := (List.getElem?_eq_some_iff.1 hs).1
  have e : W.cell? ⟨g, 0 + i, none⟩ = cur[0 + i]? := by simp [World.cell?, hg]
  have e2 : (ss.map Sv.val)[i]? = some (.slice s.a s.n s.c) := by rw [List.getElem?_map, hs]; rfl
  rw [e, Nat.zero_add, ← e2, ← ht, Nat.mul_one, List.getElem?_take, if_pos (by omega), Array.getElem?_toList]
theorem enP_len (bs : List Int) (limit k : Nat) : (enP bs limit k).flatten.length ≤ k * 8200 := by
 induction k with
 | zero => simp [enP]
 | succ k ih =>
  have h1 := hdb_len (ckE14 (pcB bs k) limit)
  have h2 : (pk14 (pcB bs k) limit).1.length ≤ 8192 := by
   have hp : (pcB bs k).length ≤ 8192 := by unfold pcB; rw [List.length_take]; exact Nat.min_le_left _ _
   unfold pk14
   split
   ·exact hp
   ·omega
  rw [enP, List.flatten_append, List.length_append]
  simp only [List.flatten_cons, List.flatten_nil, List.append_nil, List.length_append]
  omega
theorem Try.infoBs : (Try.prog.info? 22).map (fun i => (i.zero, i.size, i.bytes)) = some (some (.slice none 0 0), 1, 24) := by kernel_rfl
theorem own_kept14 {W W' : World} {base e sz n : Nat} {v : Value} {xs : List Value} (h : W.ownsRow base e sz v n xs) (g : W.grownBy W' none) : W'.ownsRow base e sz v n xs := own_turn14 h g (fun r e => by cases e)
theorem cells2_new (w : World) (x y : Value) (t : TypeId) : ∀ j u, ([x, y])[j]? = some u → (w.alloc (.cells #[x, y] t)).cell? ((⟨w.heap.size, 0, none⟩ : Addr).add j) = some u := by
 intro j u hj
 have hB := Bx.new w t [x, y]
 have hadd : (⟨w.heap.size, 0, none⟩ : Addr).add j = ⟨w.heap.size, j, none⟩ := by unfold Addr.add; split <;> simp_all
 rw [hadd]
 exact (hB.c j).trans hj
theorem pfx_range {pre : List Nat} {x N : Nat} (h : (pre ++ [x]) <+: List.range N) : pre = List.range pre.length ∧ x = pre.length ∧ x < N := by
 have hl := h.length_le
 simp at hl
 have e := List.prefix_iff_eq_take.1 h
 rw [List.take_range, Nat.min_eq_left (by simpa using hl)] at e
 simp only [List.length_append, List.length_cons, List.length_nil, Nat.zero_add] at e
 rw [List.range_succ] at e
 have e2 := List.append_inj e (by simp)
 refine ⟨e2.1, ?_, ?_⟩
 ·simpa using e2.2
 ·have : x = pre.length := by simpa using e2.2
  omega
theorem ei_own (w : World) (qt : Nat) (hw : w.heap.size ≤ qt) (bs : List Int) (limit : Nat) : OwnFrom (qt + 4) (Ei w w.heap.size qt bs limit) := by
 rintro s W W' row ⟨hl, ht, ⟨v, ss, hb, ho, hp, hn⟩, hgr⟩ hg hr
 have hne : ∀ k, k < qt + 4 → some k ≠ row := fun k hk e => by have := (hr k e.symm).1; omega
 refine ⟨hl.keptR hg (hne _ (by omega)), ht.turn14 hg (hne _ (by omega)), ⟨v, ss, hb.keptR hg (hne _ (by omega)), own_turn14 ho hg (fun r e => (hr r e).2), ?_, hn⟩, grown_turn14 hgr hg (by omega) (fun r e => (hr r e).1)⟩
 refine hp.turn hg (fun s' hs' b o e h0 e' => ?_)
 obtain ⟨ob, ho2, hc⟩ := (hr b e'.symm).2
 obtain ⟨i, hi⟩ := List.getElem?_of_mem hs'
 obtain ⟨bb, hbb, hB⟩ := hp.get i s' hi
 obtain ⟨b2, o2, e2, hc2⟩ := hB.row.cells h0
 rw [e] at e2
 injection e2 with e2
 injection e2 with e3 e4
 subst e3
 have hcell := hc2 0 h0
 unfold World.cell? at hcell
 rw [ho2] at hcell
 cases ob <;> simp [Obj.isCells] at hc hcell
set_option maxHeartbeats 4000000 in
theorem pencode14_any (a : Option Addr) (len cap : Nat) (bs : List Int) (limit : Nat) (w : World) (B : Byte w a len cap bs) (hl : len ≤ 16777216) :
  Calls Try.prog 10 #[.slice a len cap, .float .f64 limit] w (EnPost14 w (enM bs limit)) := by
 have hlb := B.row.len_eq
 have hnc := B.nc
 have hcm := B.cm
 have hli : ¬ (16777216 : Int) < (len : Int) := by omega
 have hM := fun W => make_any W
 obtain ⟨hz, hs⟩ := zero24
 have HI : Hid ((Try.prog.info? 55).map (·.size) = some (tcs ent).toArray.size) := by show _ = _; simp [hs, tcs_length]
 clear hs hz
 refine (callsIn_wide (n := 5)).1 ?_
 refine callsIn_of_wp_marks Try.func10 rfl trivial ?_ rfl
 simp only [Try.ntmps10, List.size_toArray, List.length_cons, List.length_nil, Nat.reduceAdd, Nat.reduceSub, Array.replicate_succ, Array.replicate_zero, List.push_toArray, List.append_toArray, List.nil_append, List.cons_append]
 gi_wp2
 refine ⟨trivial, ?_⟩
 refine CallsIn.mono (callsIn_wide.2 (hM _)) ?_
 rintro e w1 ⟨rfl, g1⟩
 obtain ⟨hz, hs⟩ := zero24
 gi_wp2_with (with_reducible refine storeT_in ?_; refine wpListIn_store_row14 rfl 55 _ _ rfl w1.heap.size _ rfl rfl 55 _ (heap_alloc_new w1 _) HI.out (by simp [tcs_length]) (tcs_one _) ?_)
 rw [World.setRow_alloc_new]
 generalize htv : Value.agg (tcs ent).toArray = tv
 clear htv
 refine ⟨trivial, ?_⟩
 refine CallsIn.mono (callsIn_wide.2 (schunk_any a len cap _)) ?_
 rintro e w' ⟨rfl, rfl⟩
 have gL := World.grownBy_alloc w (.cells #[.float .f64 limit] 28) none
 have rL := (Bx.new w 28 [.float .f64 limit]).kept g1
 have gw1 := grown_trans gL g1
 have hw1 : w.heap.size + 1 ≤ w1.heap.size := by have := g1.size; simpa using this
 have rT : SBlk (w1.alloc (.cells (tcs ent).toArray 55)) w1.heap.size (tcs ent) 55 := alloc_sblk _ _ _
 have gT := World.grownBy_alloc w1 (.cells (tcs ent).toArray 55) none
 generalize hA1 : w1.alloc (.cells (tcs ent).toArray 55) = A1 at rT gT ⊢
 have s1 : A1.heap.size = w1.heap.size + 1 := by rw [← hA1]; simp
 have rl := Bx.new A1 57 [.slice none 0 0]
 have gl := World.grownBy_alloc A1 (.cells #[.slice none 0 0] 57) none
 generalize hA2 : A1.alloc (.cells #[.slice none 0 0] 57) = A2 at rl gl ⊢
 have s2 : A2.heap.size = w1.heap.size + 2 := by rw [← hA2]; simp; omega
 have rs := Bx.new A2 22 [.slice a len cap]
 have gs := World.grownBy_alloc A2 (.cells #[.slice a len cap] 22) none
 generalize hA3 : A2.alloc (.cells #[.slice a len cap] 22) = A3 at rs gs ⊢
 have s3 : A3.heap.size = w1.heap.size + 3 := by rw [← hA3]; simp; omega
 have rn := Bx.new A3 3 [.int .i64 8192]
 have gn := World.grownBy_alloc A3 (.cells #[.int .i64 8192] 3) none
 generalize hA4 : A3.alloc (.cells #[.int .i64 8192] 3) = A4 at rn gn ⊢
 have s4 : A4.heap.size = w1.heap.size + 4 := by rw [← hA4]; simp; omega
 rw [s1] at rl
 rw [s2] at rs ⊢
 rw [s3] at rn
 have gA : w.grownBy A4 none := grown_trans (grown_trans (grown_trans (grown_trans gw1 gT) gl) gs) gn
 have hEi : Ei w w.heap.size w1.heap.size bs limit [] A4 := ⟨((((rL.kept gT).kept gl).kept gs).kept gn), ((((rT.turn14 gl (by simp)).turn14 gs (by simp)).turn14 gn (by simp))), ⟨_, [], ((rl.kept gs).kept gn), World.ownsRow_nil _ _ _ _, trivial, fun s hs => by simp at hs⟩, gA⟩
 have hLs : Ls (w1.heap.size + 2) (w1.heap.size + 2 + 1) a len cap A4 := ⟨(rs.kept gn).c 0, rn.c 0⟩
 clear rL rT rl rs rn gL gw1 gT gl gs gn hA1 hA2 hA3 hA4 s1 s2 s3 hM hz hs HI g1
 clear A1 A2 A3
 obtain ⟨b, off, hab⟩ : ∃ b off, 0 < len → a = some ⟨b, off, none⟩ := by
  rcases Nat.eq_zero_or_pos len with h0 | h0
  ·exact ⟨0, 0, fun h => by omega⟩
  ·obtain ⟨b, off, e, _⟩ := B.row.cells h0
   exact ⟨b, off, fun _ => e⟩
 have hseq := chunk_seq (Kt (w1.heap.size + 2) (w1.heap.size + 2 + 1)) (w1.heap.size + 2) (w1.heap.size + 2 + 1) b off len cap a hl hnc hcm hab (fun W W' => ls_kept) A4 hLs
 have hcn : cnt len ≤ 2048 := by unfold cnt; omega
 simp only
 gi_wp2
 refine rangeB (gf := 38) (lb := #[.pointer (some ⟨w1.heap.size + 2, 0, none⟩), .pointer (some ⟨w1.heap.size + 2 + 1, 0, none⟩)]) rfl (enters_of Try.func38 (by kernel_rfl) rfl) hseq (Below.refl _ _) (fun x => rfl)
  Kt.trans (fun W o => Kt.put W o (by omega) (by omega)) (fun A B g => Kt.grown g) (Ei w w.heap.size w1.heap.size bs limit) (fun _ _ _ => False) (by rw [s4]; exact ei_own w _ (by omega) bs limit) (fun c => fun s A B row h _ _ => h) hEi
  (fun x a' m W => a' = { tmps := #[.slice a len cap, .float .f64 limit, undef, .pointer (some ⟨w.heap.size, 0, none⟩), .slice none 0 0, .int .i64 0, .pointer (some ⟨w1.heap.size, 0, none⟩), .pointer (some ⟨w1.heap.size + 1, 0, none⟩), pcv b off len x, undef, undef, .slice a len cap, .int .i64 (len : Int), .bool false, tv, .slice a len cap, .func (.func 38) #[] #[.pointer (some ⟨w1.heap.size + 2, 0, none⟩), .pointer (some ⟨w1.heap.size + 2 + 1, 0, none⟩)], pcv b off len x, undef, undef, undef, undef, undef, undef, undef, undef, undef, undef, undef, undef, undef, undef, undef, undef, undef, undef, undef, undef, undef], defers := [] })
  (fun x a' m s W W' row h _ _ => h) ?assign ?body ?done ?stop
 case assign =>
  intro l d x W K hK
  gi_wp2
  exact hK _ _ (World.grownBy.refl _ _) rfl
 case body =>
  rintro l d m pre x a' W0 W hs0 hm ⟨rL, rT, ⟨v, ss, rl, hown, hP, hne⟩, hgr⟩ hg rfl hsp
  obtain ⟨hpr, rfl, hxN⟩ := pfx_range hsp
  clear hpr
  have HRT : Hid (SBlk W0 w1.heap.size (tcs ent) 55) := rT
  clear rT
  have hx8 : 8192 * pre.length < len := by unfold cnt at hxN; omega
  obtain rfl := hab (by omega)
  have cL := (rL.kept hg).c 0
  have cl := (rl.kept hg).c 0
  have fl := (rl.kept hg).f 0
  simp only [List.getElem?_cons_zero] at cL cl
  have hBW := (B.grown hgr).grown hg
  have BP : Byte W (some ⟨b, off + 8192 * pre.length, none⟩) (min 8192 (len - 8192 * pre.length)) (min 8192 (len - 8192 * pre.length)) (pcB bs pre.length) := by
   have h := hBW.row.part (8192 * pre.length) (min 8192 (len - 8192 * pre.length)) (by omega)
   have e : (bs.drop (8192 * pre.length)).take (min 8192 (len - 8192 * pre.length)) = pcB bs pre.length := by
    unfold pcB
    rw [List.take_eq_take_iff, List.length_drop, hlb]; omega
   rw [e] at h
   exact ⟨h, (fun h => by cases h), Nat.le_refl _, (by unfold maxLen; omega)⟩
  unfold pcv
  have hPk := fun W G => ppack14_any _ _ _ (pcB bs pre.length) limit W (BP.grown G) (by omega) (by have := enc_len (pcB bs pre.length); have := BP.row.len_eq; omega)
  have hpl := BP.row.len_eq
  have hm8 : min 8192 (len - 8192 * pre.length) ≤ 8192 := Nat.min_le_left _ _
  have hm1 : 1 ≤ min 8192 (len - 8192 * pre.length) := by omega
  generalize min 8192 (len - 8192 * pre.length) = m8 at BP hPk hpl hm8 hm1 ⊢
  generalize hPC : pcB bs pre.length = pc at BP hPk hpl
  have HPC : Hid _ := hPC
  clear hPC
  have hpk := hPk W (World.grownBy.refl _ _)
  have hst : (pk14 pc limit).1.length ≤ 8192 := by
   unfold pk14
   split
   ·show pc.length ≤ 8192; omega
   ·omega
  have HCK : Hid (ckE14 pc limit = ⟨0, (pc.length : Int), ((pk14 pc limit).1.length : Int), (pk14 pc limit).2, crc ent 0 (pk14 pc limit).1⟩) := rfl
  have HST : Hid (∀ G : List Int, G = (pk14 pc limit).1 → True) := fun _ _ => trivial
  gi_wp2
  refine ⟨trivial, (fun h => by cases h), ?_⟩
  refine CallsIn.mono (CallsIn.inRound l (callsIn_wide.2 hpk)) ?_
  rintro e w5 ⟨a5, n5, c5, rfl, B5, g5, nw5⟩
  have HNW5 : Hid (∀ b' o, a5 = some ⟨b', o, none⟩ → 0 < n5 → some b' ≠ v.ownBlock) := by
   intro b' o e h0 e'
   have hov := hown.lt b' e'.symm
   rcases nw5 with h | h
   ·rw [h] at e
    injection e with e
    injection e with e1 e2
    have := B.row.lt14 (by omega)
    have := hgr.size
    omega
   ·have := h b' o e
    have := hg.size
    omega
  clear nw5
  have rl5 := (rl.kept hg).kept g5
  have HT5 : Hid (SBlk w5 w1.heap.size (tcs ent) 55) := SBlk.turn14 (SBlk.turn14 HRT.out hg (by simp)) g5 (by simp)
  have hown5 : w5.ownsRow (w1.heap.size + 4) 22 1 v (2 * pre.length) (ss.map Sv.val) := own_turn14 (own_turn14 hown hg (fun r e => by cases e)) g5 (fun r e => by cases e)
  have cl5 := rl5.c 0
  have fl5 := rl5.f 0
  simp only [List.getElem?_cons_zero] at cl5
  have hn5 := B5.row.len_eq
  have hcrc := fun W (G : w5.grownBy W none) => crc_tab ent ent_tab w1.heap.size a5 n5 c5 (pk14 pc limit).1 W (SBlk.turn14 HT5.out G (by simp)) (B5.row.grown G)
  have hcr := crc_lt ent 0 (pk14 pc limit).1
  generalize hRR : pk14 pc limit = rr at *
  obtain ⟨rb, rk⟩ := rr
  simp only at *
  gi_wp2
  refine wpIn_region_any (by kernel_rfl) ?_
  refine wpAnyIn_round14 rfl (nd14 (by rfl)) _ _ _ _ ?_
  clear hPk hpk BP hBW cL cl fl hab hLs hseq
  have fin := fun w7 w8 g v' => en_end (w := w) (w1 := w1) (A4 := A4) (W0 := W0) (W := W) (w5 := w5) (w7 := w7) (w8 := w8) (g := g) (v' := v') hw1 s4 hs0 rL hgr rl hown hP hne hg HRT.out HPC.out (by rw [hRR]) g5 B5 HNW5.out
  have HFIN : Hid _ := fin
  have HCKe : Hid (hdb (ckE14 pc limit) = hdb ⟨0, (m8 : Int), (n5 : Int), rk, crc ent 0 rb⟩) := by
   show _ = _
   rw [HCK.out, hpl, hn5]
  have hPL : Hid (pre.length ≤ 2048) := by show _ ≤ _; omega
  have hbase : w1.heap.size + 4 ≤ w5.heap.size := by have := hg.size; have := g5.size; omega
  clear fin hRR HCK HST rL hgr rl hown hP hne hg HRT HPC B5 HNW5 hsp hxN
  obtain ⟨i5, hi, hz0, hz1, hz2⟩ := info_parts Try.infoBs
  have HI : Hid _ := And.intro hi (And.intro hz0 (And.intro hz1 hz2))
  clear hi hz0 hz1 hz2
  have g6 : w5.grownBy w5.drew none := grown_drew _
  have cl6 : w5.drew.cell? ⟨w1.heap.size + 1, 0, none⟩ = some v := cl5
  have hown6 := own_kept14 hown5 g6
  have rl6 := rl5.kept g6
  have hcrc6 := hcrc w5.drew g6
  have hhd := fun W => phead14_any 0 m8 n5 rk (crc ent 0 rb) W hm8 (by omega) hcr
  change wpAnyIn _ _ _ _ _ _ _ _ _ (World.drew w5)
  have G56 : Hid _ := g6
  clear cl5 fl5 rl5 hown5 hcrc g6 HT5 hst hcr
  generalize w5.drew = w6 at *
  refine wpAnyIn_take (i := 1) (oi := ⟨some 25, _, _, _, _, _⟩) (v := .slice (some ⟨b, off + 8192 * pre.length, none⟩) m8 m8) rfl rfl (by kernel_rfl) (by kernel_rfl) (by kernel_rfl) (fun _ _ _ h => h) ⟨Or.inl ⟨by rfl, fun w => by go_simp⟩, fun w => by go_simp⟩ ?_
  simp only [Act.put, pu]
  refine wpAnyIn_take (i := 2) (oi := ⟨some 26, _, _, _, _, _⟩) (v := .int .i64 (m8 : Int)) rfl rfl (by kernel_rfl) (by kernel_rfl) (by kernel_rfl) (fun _ _ _ h => h) ⟨Or.inl ⟨by rfl, fun w => by go_simp⟩, fun w => by go_simp⟩ ?_
  simp only [Act.put, pu]
  refine wpAnyIn_take (i := 3) (oi := ⟨some 27, _, _, _, _, _⟩) (v := .slice a5 n5 c5) rfl rfl (by kernel_rfl) (by kernel_rfl) (by kernel_rfl) (fun _ _ _ h => h) ⟨Or.inl ⟨by rfl, fun w => by go_simp⟩, fun w => by go_simp⟩ ?_
  simp only [Act.put, pu]
  refine wpAnyIn_take (i := 4) (oi := ⟨some 28, _, _, _, _, _⟩) (v := .int .i64 (n5 : Int)) rfl rfl (by kernel_rfl) (by kernel_rfl) (by kernel_rfl) (fun _ _ _ h => h) ⟨Or.inl ⟨by rfl, fun w => by go_simp⟩, fun w => by go_simp⟩ ?_
  simp only [Act.put, pu]
  refine wpAnyIn_take (i := 5) (oi := ⟨some 29, _, _, _, _, _⟩) (v := .bool rk) rfl rfl (by kernel_rfl) (by kernel_rfl) (by kernel_rfl) (fun _ _ _ h => h) ⟨Or.inl ⟨by rfl, fun w => by go_simp⟩, fun w => by go_simp⟩ ?_
  simp only [Act.put, pu]
  refine wpAnyIn_take (i := 6) (oi := ⟨some 30, _, _, _, _, _⟩) (v := .slice a5 n5 c5) rfl rfl (by kernel_rfl) (by kernel_rfl) (by kernel_rfl) (fun _ _ _ h => h) ⟨Or.inl ⟨by rfl, fun w => by go_simp⟩, fun w => by go_simp⟩ ?_
  simp only [Act.put, pu]
  refine wpAnyIn_take (i := 10) (oi := ⟨some 34, _, _, _, _, _⟩) (v := .slice a5 n5 c5) rfl rfl (by kernel_rfl) (by kernel_rfl) (by kernel_rfl) (fun _ _ _ h => h) ⟨Or.inl ⟨by rfl, fun w => by go_simp⟩, fun w => by go_simp⟩ ?_
  simp only [Act.put, pu]
  refine wpAnyIn_ready (rs := [0, 7]) (by kernel_rfl) (by simp) ?_
  refine AllReadyIn.cons rfl (fun K1 hK => ?_) (AllReadyIn.cons rfl (fun K1 hK => ?_) AllReadyIn.nil)
  ·skip
   go_simp
   refine hK _ _ ?_
   clear hK K1
   refine wpAnyIn_ready (rs := [7]) (by kernel_rfl) (by simp) ?_
   refine AllReadyIn.cons rfl (fun K1 hK => ?_) AllReadyIn.nil
   go_simp
   refine ⟨trivial, (fun h => by cases h), ?_⟩
   refine CallsIn.mono (callsIn_wide.2 hcrc6) ?_
   rintro e w' ⟨rfl, rfl⟩
   refine hK _ _ ?_
   clear hK K1
   refine wpAnyIn_take (i := 8) (oi := ⟨some 32, _, _, _, _, _⟩) (v := .agg #[.int .i64 0, .int .i64 (m8 : Int), .int .i64 (n5 : Int), .bool rk, .int .u32 ((crc ent 0 rb : Nat) : Int)]) rfl rfl (by kernel_rfl) (by kernel_rfl) (by kernel_rfl) (fun _ _ _ h => h) ⟨Or.inl ⟨by rfl, fun w => by go_simp⟩, fun w => by go_simp⟩ ?_
   simp only [Act.put, pu]
   refine wpAnyIn_ready (rs := [9]) (by kernel_rfl) (by simp) ?_
   refine AllReadyIn.cons rfl (fun K1 hK => ?_) AllReadyIn.nil
   go_simp
   refine ⟨trivial, (fun h => by cases h), ?_⟩
   refine CallsIn.mono (callsIn_wide.2 (hhd w6)) ?_
   rintro e w7 ⟨g, rfl, bg, hgn, g7⟩
   have cl7 := gcell14 cl6 g7
   have hown7 := own_kept14 hown6 g7
   have rl7 := rl6.kept g7
   refine hK _ _ ?_
   clear hK K1
   refine wpAnyIn_ready (rs := [11]) (by kernel_rfl) (by simp) ?_
   refine AllReadyIn.cons rfl (fun K1 hK => ?_) AllReadyIn.nil
   go_simp
   have cl8 := gcell14 cl7 (World.grownBy_alloc w7 (.cells #[.slice (some ⟨g, 0, none⟩) 8 8, .slice a5 n5 c5] 22) none)
   refine hK _ _ ?_
   clear hK K1
   refine wpAnyIn_ready (rs := [12]) (by kernel_rfl) (by simp) ?_
   refine AllReadyIn.cons rfl (fun K1 hK => ?_) AllReadyIn.nil
   obtain ⟨hi, hz0, hz1, hz2⟩ := HI.out
   obtain ⟨v', w8, hrun, hown', hgrow, _, hat⟩ := run_append_own_at (P := Try.prog) (w7.alloc (.cells #[.slice (some ⟨g, 0, none⟩) 8 8, .slice a5 n5 c5] 22)) (w1.heap.size + 4) 57 57 22 i5 (.slice none 0 0) 1 24 Try.underlying57 hi hz0 hz1 hz2 rfl (by decide) v (2 * pre.length) (ss.map Sv.val) (hown7.alloc _) ⟨w7.heap.size, 0, none⟩ 2 2 [.slice (some ⟨g, 0, none⟩) 8 8, .slice a5 n5 c5] rfl (cells2_new _ _ _ _) (by simp [Value.oneCell']) (by have := hPL.out; unfold maxLen; omega) (by have := hPL.out; omega) (by have := g7.size; have := G56.out.size; simp; omega)
   obtain ⟨g', cap', rfl⟩ := ownsRow_succ hown'
   have k8 := (rl7.kept (World.grownBy_alloc w7 (.cells #[.slice (some ⟨g, 0, none⟩) 8 8, .slice a5 n5 c5] 22) none)).keptR hgrow (fun e => by have := (hown7.lt _ e.symm).1; omega)
   have hc8 := k8.c 0
   have hf8 := k8.f 0
   rw [if_pos (by rfl)]
   refine wpIn_append (v := v) (u := .slice (some ⟨w7.heap.size, 0, none⟩) 2 2) rfl rfl rfl hrun (hK _ _ ?_)
   clear hK K1 hrun
   refine wpAnyIn_ready (rs := [13]) (by kernel_rfl) (by simp) ?_
   refine AllReadyIn.cons rfl (fun K1 hK => ?_) AllReadyIn.nil
   go_simp
   refine hK _ _ ?_
   clear hK K1
   refine wpAnyIn_done (by kernel_rfl) ?_ _
   exact HFIN.out w7 w8 g _ (grown_trans G56.out g7) (by rw [HCKe.out]; exact bg) (Nat.le_trans G56.out.size hgn) hown' hgrow (by rw [World.size_alloc] at hat; exact hat) { tmps := #[], defers := [] }
  ·skip
   go_simp
   refine ⟨trivial, (fun h => by cases h), ?_⟩
   refine CallsIn.mono (callsIn_wide.2 hcrc6) ?_
   rintro e w' ⟨rfl, rfl⟩
   refine hK _ _ ?_
   clear hK K1
   refine wpAnyIn_take (i := 8) (oi := ⟨some 32, _, _, _, _, _⟩) (v := .agg #[.int .i64 0, .int .i64 (m8 : Int), .int .i64 (n5 : Int), .bool rk, .int .u32 ((crc ent 0 rb : Nat) : Int)]) rfl rfl (by kernel_rfl) (by kernel_rfl) (by kernel_rfl) (fun _ _ _ h => h) ⟨Or.inl ⟨by rfl, fun w => by go_simp⟩, fun w => by go_simp⟩ ?_
   simp only [Act.put, pu]
   refine wpAnyIn_ready (rs := [0, 9]) (by kernel_rfl) (by simp) ?_
   refine AllReadyIn.cons rfl (fun K1 hK => ?_) (AllReadyIn.cons rfl (fun K1 hK => ?_) AllReadyIn.nil)
   ·skip
    go_simp
    refine hK _ _ ?_
    clear hK K1
    refine wpAnyIn_ready (rs := [9]) (by kernel_rfl) (by simp) ?_
    refine AllReadyIn.cons rfl (fun K1 hK => ?_) AllReadyIn.nil
    go_simp
    refine ⟨trivial, (fun h => by cases h), ?_⟩
    refine CallsIn.mono (callsIn_wide.2 (hhd w6)) ?_
    rintro e w7 ⟨g, rfl, bg, hgn, g7⟩
    have cl7 := gcell14 cl6 g7
    have hown7 := own_kept14 hown6 g7
    have rl7 := rl6.kept g7
    refine hK _ _ ?_
    clear hK K1
    refine wpAnyIn_ready (rs := [11]) (by kernel_rfl) (by simp) ?_
    refine AllReadyIn.cons rfl (fun K1 hK => ?_) AllReadyIn.nil
    go_simp
    have cl8 := gcell14 cl7 (World.grownBy_alloc w7 (.cells #[.slice (some ⟨g, 0, none⟩) 8 8, .slice a5 n5 c5] 22) none)
    refine hK _ _ ?_
    clear hK K1
    refine wpAnyIn_ready (rs := [12]) (by kernel_rfl) (by simp) ?_
    refine AllReadyIn.cons rfl (fun K1 hK => ?_) AllReadyIn.nil
    obtain ⟨hi, hz0, hz1, hz2⟩ := HI.out
    obtain ⟨v', w8, hrun, hown', hgrow, _, hat⟩ := run_append_own_at (P := Try.prog) (w7.alloc (.cells #[.slice (some ⟨g, 0, none⟩) 8 8, .slice a5 n5 c5] 22)) (w1.heap.size + 4) 57 57 22 i5 (.slice none 0 0) 1 24 Try.underlying57 hi hz0 hz1 hz2 rfl (by decide) v (2 * pre.length) (ss.map Sv.val) (hown7.alloc _) ⟨w7.heap.size, 0, none⟩ 2 2 [.slice (some ⟨g, 0, none⟩) 8 8, .slice a5 n5 c5] rfl (cells2_new _ _ _ _) (by simp [Value.oneCell']) (by have := hPL.out; unfold maxLen; omega) (by have := hPL.out; omega) (by have := g7.size; have := G56.out.size; simp; omega)
    obtain ⟨g', cap', rfl⟩ := ownsRow_succ hown'
    have k8 := (rl7.kept (World.grownBy_alloc w7 (.cells #[.slice (some ⟨g, 0, none⟩) 8 8, .slice a5 n5 c5] 22) none)).keptR hgrow (fun e => by have := (hown7.lt _ e.symm).1; omega)
    have hc8 := k8.c 0
    have hf8 := k8.f 0
    rw [if_pos (by rfl)]
    refine wpIn_append (v := v) (u := .slice (some ⟨w7.heap.size, 0, none⟩) 2 2) rfl rfl rfl hrun (hK _ _ ?_)
    clear hK K1 hrun
    refine wpAnyIn_ready (rs := [13]) (by kernel_rfl) (by simp) ?_
    refine AllReadyIn.cons rfl (fun K1 hK => ?_) AllReadyIn.nil
    go_simp
    refine hK _ _ ?_
    clear hK K1
    refine wpAnyIn_done (by kernel_rfl) ?_ _
    exact HFIN.out w7 w8 g _ (grown_trans G56.out g7) (by rw [HCKe.out]; exact bg) (Nat.le_trans G56.out.size hgn) hown' hgrow (by rw [World.size_alloc] at hat; exact hat) { tmps := #[], defers := [] }
   ·skip
    go_simp
    refine ⟨trivial, (fun h => by cases h), ?_⟩
    refine CallsIn.mono (callsIn_wide.2 (hhd w6)) ?_
    rintro e w7 ⟨g, rfl, bg, hgn, g7⟩
    have cl7 := gcell14 cl6 g7
    have hown7 := own_kept14 hown6 g7
    have rl7 := rl6.kept g7
    refine hK _ _ ?_
    clear hK K1
    refine wpAnyIn_ready (rs := [0, 11]) (by kernel_rfl) (by simp) ?_
    refine AllReadyIn.cons rfl (fun K1 hK => ?_) (AllReadyIn.cons rfl (fun K1 hK => ?_) AllReadyIn.nil)
    ·skip
     go_simp
     refine hK _ _ ?_
     clear hK K1
     refine wpAnyIn_ready (rs := [11]) (by kernel_rfl) (by simp) ?_
     refine AllReadyIn.cons rfl (fun K1 hK => ?_) AllReadyIn.nil
     go_simp
     have cl8 := gcell14 cl7 (World.grownBy_alloc w7 (.cells #[.slice (some ⟨g, 0, none⟩) 8 8, .slice a5 n5 c5] 22) none)
     refine hK _ _ ?_
     clear hK K1
     refine wpAnyIn_ready (rs := [12]) (by kernel_rfl) (by simp) ?_
     refine AllReadyIn.cons rfl (fun K1 hK => ?_) AllReadyIn.nil
     obtain ⟨hi, hz0, hz1, hz2⟩ := HI.out
     obtain ⟨v', w8, hrun, hown', hgrow, _, hat⟩ := run_append_own_at (P := Try.prog) (w7.alloc (.cells #[.slice (some ⟨g, 0, none⟩) 8 8, .slice a5 n5 c5] 22)) (w1.heap.size + 4) 57 57 22 i5 (.slice none 0 0) 1 24 Try.underlying57 hi hz0 hz1 hz2 rfl (by decide) v (2 * pre.length) (ss.map Sv.val) (hown7.alloc _) ⟨w7.heap.size, 0, none⟩ 2 2 [.slice (some ⟨g, 0, none⟩) 8 8, .slice a5 n5 c5] rfl (cells2_new _ _ _ _) (by simp [Value.oneCell']) (by have := hPL.out; unfold maxLen; omega) (by have := hPL.out; omega) (by have := g7.size; have := G56.out.size; simp; omega)
     obtain ⟨g', cap', rfl⟩ := ownsRow_succ hown'
     have k8 := (rl7.kept (World.grownBy_alloc w7 (.cells #[.slice (some ⟨g, 0, none⟩) 8 8, .slice a5 n5 c5] 22) none)).keptR hgrow (fun e => by have := (hown7.lt _ e.symm).1; omega)
     have hc8 := k8.c 0
     have hf8 := k8.f 0
     rw [if_pos (by rfl)]
     refine wpIn_append (v := v) (u := .slice (some ⟨w7.heap.size, 0, none⟩) 2 2) rfl rfl rfl hrun (hK _ _ ?_)
     clear hK K1 hrun
     refine wpAnyIn_ready (rs := [13]) (by kernel_rfl) (by simp) ?_
     refine AllReadyIn.cons rfl (fun K1 hK => ?_) AllReadyIn.nil
     go_simp
     refine hK _ _ ?_
     clear hK K1
     refine wpAnyIn_done (by kernel_rfl) ?_ _
     exact HFIN.out w7 w8 g _ (grown_trans G56.out g7) (by rw [HCKe.out]; exact bg) (Nat.le_trans G56.out.size hgn) hown' hgrow (by rw [World.size_alloc] at hat; exact hat) { tmps := #[], defers := [] }
    ·skip
     go_simp
     have cl8 := gcell14 cl7 (World.grownBy_alloc w7 (.cells #[.slice (some ⟨g, 0, none⟩) 8 8, .slice a5 n5 c5] 22) none)
     refine hK _ _ ?_
     clear hK K1
     refine wpAnyIn_ready (rs := [0]) (by kernel_rfl) (by simp) ?_
     refine AllReadyIn.cons rfl (fun K1 hK => ?_) AllReadyIn.nil
     go_simp
     refine hK _ _ ?_
     clear hK K1
     refine wpAnyIn_ready (rs := [12]) (by kernel_rfl) (by simp) ?_
     refine AllReadyIn.cons rfl (fun K1 hK => ?_) AllReadyIn.nil
     obtain ⟨hi, hz0, hz1, hz2⟩ := HI.out
     obtain ⟨v', w8, hrun, hown', hgrow, _, hat⟩ := run_append_own_at (P := Try.prog) (w7.alloc (.cells #[.slice (some ⟨g, 0, none⟩) 8 8, .slice a5 n5 c5] 22)) (w1.heap.size + 4) 57 57 22 i5 (.slice none 0 0) 1 24 Try.underlying57 hi hz0 hz1 hz2 rfl (by decide) v (2 * pre.length) (ss.map Sv.val) (hown7.alloc _) ⟨w7.heap.size, 0, none⟩ 2 2 [.slice (some ⟨g, 0, none⟩) 8 8, .slice a5 n5 c5] rfl (cells2_new _ _ _ _) (by simp [Value.oneCell']) (by have := hPL.out; unfold maxLen; omega) (by have := hPL.out; omega) (by have := g7.size; have := G56.out.size; simp; omega)
     obtain ⟨g', cap', rfl⟩ := ownsRow_succ hown'
     have k8 := (rl7.kept (World.grownBy_alloc w7 (.cells #[.slice (some ⟨g, 0, none⟩) 8 8, .slice a5 n5 c5] 22) none)).keptR hgrow (fun e => by have := (hown7.lt _ e.symm).1; omega)
     have hc8 := k8.c 0
     have hf8 := k8.f 0
     rw [if_pos (by rfl)]
     refine wpIn_append (v := v) (u := .slice (some ⟨w7.heap.size, 0, none⟩) 2 2) rfl rfl rfl hrun (hK _ _ ?_)
     clear hK K1 hrun
     refine wpAnyIn_ready (rs := [13]) (by kernel_rfl) (by simp) ?_
     refine AllReadyIn.cons rfl (fun K1 hK => ?_) AllReadyIn.nil
     go_simp
     refine hK _ _ ?_
     clear hK K1
     refine wpAnyIn_done (by kernel_rfl) ?_ _
     exact HFIN.out w7 w8 g _ (grown_trans G56.out g7) (by rw [HCKe.out]; exact bg) (Nat.le_trans G56.out.size hgn) hown' hgrow (by rw [World.size_alloc] at hat; exact hat) { tmps := #[], defers := [] }
 case done =>
  rintro D ys W hD rfl ⟨rL, rT, ⟨v, ss, rl, hown, hP, hne⟩, hgr⟩ hK
  rw [List.length_range] at hown hP
  obtain ⟨al, cl, rfl, hS⟩ := own_sls hown
  have cl7 := rl.c 0
  simp only [List.getElem?_cons_zero] at cl7
  have hflat := enP_len bs limit (cnt len)
  have hE : (enP bs limit (cnt len)).flatten = enM bs limit := by unfold enM; rw [hlb]
  have htg := ptogether_any al (2 * cnt len) cl ss _ W hS hP (by omega) (by omega)
  rw [hE] at htg
  clear hE hflat hS hP hne hown rT rL hseq B
  gi_wp2
  refine ⟨trivial, ?_⟩
  refine CallsIn.mono (callsIn_wide.2 htg) ?_
  rintro e w9 ⟨rfl, b9, g9⟩
  have hK9 : w9.heap[D]? = some (.deferred (some [])) := (g9.block D (Array.getElem?_eq_some_iff.1 hK).1 (by simp)).trans hK
  have g09 := grown_trans hgr g9
  have hszW := hgr.size
  gi_wp2
  refine ⟨by simp, .inl ⟨_, _, rfl, run_takeDeferred hK9, ?_⟩⟩
  refine ⟨_, results_tmp2 rfl _ _ _, ?_⟩
  have gF := grown_turn14 g09 (grownBy_putObj' w9 D (.deferred none)) (Nat.le_trans (by omega) hD) (fun r e => by cases e; exact Nat.le_refl _)
  refine ⟨W.heap.size, rfl, ?_, hszW, gF⟩
  unfold Blk at b9 ⊢
  rw [World.putObj_heap_other (by have hlt := (Array.getElem?_eq_some_iff.1 hK).1; omega)]
  exact b9
 case stop =>
  rintro D c pre W hD hpre h hK
  exact h.elim
end Go.Proofs.Ytkkigpobhagnfaa
