/- The program's Split, as landed. The program's name, as landed: what each call answers. -/
import Derived.Test.YtlehncfehoelbaaGreatDoorB19
import Derived.Test.YtlehncfehoelbaaGreatDoorB20
namespace Go.Proofs.YtlehncfehoelbaaGreatDoor
open Go.RowKit Go.Shelf
set_option maxRecDepth 100000
set_option linter.unusedSimpArgs false
set_option linter.unusedVariables false
attribute [local go_sem] Oper.semAt_some

theorem kps_pcs (s : ByteArray) : (kps (pcs s)).length = ((cutS s.toList).filter kept).length := by
 unfold pcs
 rw [kps_txs]
 simp [txs]
theorem long_kept {p : Tx} (h : longP p = true) : kept p = true := by
 unfold longP at h
 have h : 255 < p.length := by simpa using h
 unfold kept
 have h1 : (p == []) = false := by rw [beq_eq_false_iff_ne]; rintro rfl; simp at h
 have h2 : (p == [46]) = false := by rw [beq_eq_false_iff_ne]; rintro rfl; simp at h
 rw [h1, h2]; rfl
/-- is one of the texts too long? -/
def lgs (l : List ByteArray) : Bool := l.any fun x => longP x.toList
theorem lgs_pcs (s : ByteArray) : lgs (kps (pcs s)) = (cutS s.toList).any longP := by
 unfold pcs lgs
 rw [kps_txs]
 unfold txs
 rw [List.any_map, List.any_filter]
 congr 1
 funext x
 simp only [Function.comp, tx_tl]
 cases h : longP x with
 | false => simp
 | true => rw [long_kept h]; rfl
/-- what Split's variables hold between two rounds -/
structure SI (w : World) (g m : Nat) (pre : List ByteArray) (W : World) : Prop where
 b0 : Boxed W g 104 (.slice none 0 0)
 b1 : Boxed W (g + 1) 34 (.int .i64 0)
 b2 : ∃ v, Boxed W (g + 1 + 1) 104 v ∧ W.ownsRow m 9 1 v pre.length (sv pre)
 sh : lgs pre = false
 bl : Below w.heap.size w W
 lm : w.heap.size ≤ m
theorem si_own {w : World} {g m B : Nat} (hg : w.heap.size ≤ g) (hB : g ≤ B) : OwnFrom B (SI w g m) := by
 rintro pre X Y row ⟨h0, h1, ⟨v, h2, hr⟩, hs, hb, hlm⟩ hgr hrow
 have hne : ∀ {B : Nat} {t : TypeId} {u : Value}, Boxed X B t u → some B ≠ row := fun hB e => by
  obtain ⟨o, ho, hc⟩ := (hrow _ e.symm).2
  rw [show X.heap[_]? = _ from hB] at ho; cases ho; cases hc
 refine ⟨h0.kept hgr (hne h0), h1.kept hgr (hne h1), ⟨v, h2.kept hgr (hne h2), hr.kept hgr ?_⟩, hs, hb.grown hgr hb.size (fun k e => by have := (hrow k e).1; omega), hlm⟩
 rcases hr.2 with ⟨rfl, _⟩ | ⟨gg, cap, cur, rfl, _, hgb, _⟩
 ·exact .inl rfl
 ·refine .inr fun e => ?_
  obtain ⟨o, ho, hc⟩ := (hrow gg (by rw [← e]; rfl)).2
  rw [hgb] at ho; cases ho; cases hc
/-- how Split's loop may be left early -/
structure SX (w : World) (g : Nat) (c : Code) (pre : List ByteArray) (W : World) : Prop where
 c : c = .ret
 lg : lgs pre = true
 b0 : Boxed W g 104 (.slice none 0 0)
 b1 : Boxed W (g + 1) 34 (.int .i64 1)
 bl : Below w.heap.size w W
theorem sx_own {w : World} {g B : Nat} (hg : w.heap.size ≤ g) (hB : g ≤ B) (c : Code) : OwnFrom B (SX w g c) := by
 rintro pre X Y row ⟨hc, hl, h0, h1, hb⟩ hgr hrow
 have hne : ∀ {B : Nat} {t : TypeId} {u : Value}, Boxed X B t u → some B ≠ row := fun hB e => by
  obtain ⟨o, ho, hc⟩ := (hrow _ e.symm).2
  rw [show X.heap[_]? = _ from hB] at ho; cases ho; cases hc
 exact ⟨hc, hl, h0.kept hgr (hne h0), h1.kept hgr (hne h1), hb.grown hgr hb.size (fun k e => by have := (hrow k e).1; omega)⟩
theorem boxed_drewn {W : World} {B : Nat} {t : TypeId} {v : Value} (h : Boxed W B t v) : Boxed W.drew B t v := h
theorem below_others {X Y : World} (h : Below X.heap.size X Y) : KeepsOthers X Y := ⟨h.size, fun k o hk _ => (h.block k (Array.getElem?_eq_some_iff.1 hk).1).trans hk⟩
theorem wpIn_append {F : Fence} {n : Nat} {P : Program} {o : Oper} {a : Act} {w w' : World} {K : Act → World → Prop} {Q : Exit → Act → World → Prop} {s x : Operand} {t : TypeId} {v u v' : Value} (hop : o.op = .call { callee := .builtin .append, args := #[s, x], argTypes := #[t, t] })
  (hs : a.eval s = v) (hx : a.eval x = u) (hrun : (Builtin.append_ #[t, t] o.type #[v, u]).run P w = .ok v' w') (hK : K (a.put o.dst v') w') : Oper.wpIn F n P o a w K Q := by
 unfold Oper.wpIn
 refine ⟨by simp [Oper.about, hop, resolve, Target.leads, Sem.run_pure], ?_⟩
 rw [Oper.semAt_plain F _ _ (by rw [hop]; intro c hc'; cases hc')]
 simp [execOp, hop, resolve, invoke, builtin, hs, hx, hrun, Result.andThen]
 exact hK
theorem owns_below {W W' : World} {m t n : Nat} {v : Value} {xs : List Value} (hb : Below W.heap.size W W') (hr : W.ownsRow m t 1 v n xs) : W'.ownsRow m t 1 v n xs := by
 refine hr.kept (below_grown hb) ?_
 rcases hr.2 with ⟨rfl, _⟩ | ⟨gg, cap, cur, rfl, _, hgb, _⟩
 ·exact .inl rfl
 ·exact .inr fun e => by simp [Value.ownBlock] at e
/-- a round that goes on -/
theorem si_end {w W w5 w1 : World} {g m : Nat} {pre : List ByteArray} {x : ByteArray} {v v' : Value} (hgw : w.heap.size ≤ g) (hm1 : g + 4 + 2 ≤ m) (hm2 : m ≤ W.heap.size) (h0 : Boxed W g 104 (.slice none 0 0)) (h1 : Boxed W (g + 1) 34 (.int .i64 0))
  (h2 : Boxed W (g + 1 + 1) 104 v) (hr : W.ownsRow m 9 1 v pre.length (sv pre)) (hshx : lgs (pre ++ [x]) = false) (hbl : Below w.heap.size w W) (hb5 : Below W.heap.size W w5)
  (hown' : w1.ownsRow m 9 1 v' (pre.length + 1) (sv pre ++ [.string x])) (hgrow : (w5.alloc (.cells #[.string x] 9)).grownBy w1 v.ownBlock) :
  KeepsFrom (g + 4) W (w1.setCell ⟨g + 1 + 1, 0, none⟩ v') ∧ KeptO (g + 4 + 2) m W (w1.setCell ⟨g + 1 + 1, 0, none⟩ v') ∧ SI w g m (pre ++ [x]) (w1.setCell ⟨g + 1 + 1, 0, none⟩ v') := by
 have hob : ∀ j, some j = v.ownBlock → m ≤ j := fun j ej => by
  rcases hr.2 with ⟨rfl, _⟩ | ⟨gg, cap, cur, rfl, hb9, _, _⟩
  ·simp [Value.ownBlock] at ej
  ·obtain rfl : j = gg := by simpa [Value.ownBlock] using ej
   exact hb9
 have hr5 := owns_below hb5 hr
 have hblk : ∀ k, k < W.heap.size → some k ≠ v.ownBlock → w1.heap[k]? = W.heap[k]? := fun k hk hne => by
  rw [hgrow.block k (by have := hb5.size; simp; omega) hne, Below.heap_alloc _ _ _ (by have := hb5.size; omega), hb5.block k hk]
 have k0 : Boxed w1 g 104 (.slice none 0 0) := boxed_same (hblk g h0.lt (fun e => by have := hob _ e; omega)) h0
 have k1 : Boxed w1 (g + 1) 34 (.int .i64 0) := boxed_same (hblk _ h1.lt (fun e => by have := hob _ e; omega)) h1
 have k2 : Boxed w1 (g + 1 + 1) 104 v := boxed_same (hblk _ h2.lt (fun e => by have := hob _ e; omega)) h2
 refine ⟨KeepsOthers.from (((below_others hb5).trans ((KeepsOthers.alloc w5 _).trans (KeepsOthers.of_grownBy hgrow fun j o ej hj => ?_))).trans (KeepsOthers.setCell _ _ _)) _, fun k hk1 hk2 => ?_, k0.kept (grownBy_setCell' w1 (g + 1 + 1) _) (by simp; omega), k1.kept (grownBy_setCell' w1 (g + 1 + 1) _) (by simp), ⟨_, k2.set _, ?_⟩, hshx, ?_, by omega⟩
 ·rcases (hr5.alloc (.cells #[.string x] 9)).2 with ⟨rfl, _⟩ | ⟨gg, cap, cur, rfl, _, hgb, _⟩
  ·simp [Value.ownBlock] at ej
  ·obtain rfl : gg = j := by simpa [Value.ownBlock] using ej
   rw [hgb] at hj; cases hj; rfl
 ·have h := (grownBy_setCell' w1 (g + 1 + 1) v').block k (by have h3 := hgrow.size; have h4 := hb5.size; rw [World.size_alloc] at h3; omega) (by simp; omega)
  rw [h, hblk k (by omega) (fun e => by have := hob _ e; omega)]
 ·have e1 : (pre ++ [x]).length = pre.length + 1 := by simp
  have e2 : sv (pre ++ [x]) = sv pre ++ [.string x] := by unfold sv; simp
  rw [e1, e2]
  exact hown'.kept (grownBy_setCell' w1 (g + 1 + 1) _) (.inr (k2.not_row (by decide) hown').symm)
 ·have hbW : Below w.heap.size w w5 := hbl.trans (hb5.mono hbl.size)
  exact ((hbW.alloc hbW.size _).grown hgrow (by have := hbW.size; simp; omega) (fun j ej => by have := hob j ej.symm; omega)).setCell (p := ⟨g + 1 + 1, 0, none⟩) (by simp; omega) _
set_option maxRecDepth 100000 in
set_option maxHeartbeats 4000000 in
theorem psplit_main (s : ByteArray) (w : World) (hs : s.size ≤ 4096) (h0 : s.toList.any (· == 0) = false) : Calls Tryz.prog 85 #[.string s] w (SpPost w (sp2 s.toList)) := by
 refine (callsIn_wide (n := 5)).1 ?_
 obtain ⟨i9, hi, hz0, hz1, hz2⟩ := info_parts Tryz.info9
 have g1 : ¬ (4096 : Int) < s.size := by omega
 have hho := fun W => pholds_any s 0 W
 have e0 : hasB s.toList ((0 : Int).toNat.toUInt8) = false := h0
 rw [e0] at hho
 clear h0 e0
 refine callsIn_of_wp_marks Tryz.func85 rfl trivial ?_ rfl
 simp only [Tryz.ntmps85, List.size_toArray, List.length_cons, List.length_nil, Nat.reduceAdd, Nat.reduceSub, Array.replicate_succ, Array.replicate_zero, List.push_toArray, List.append_toArray, List.nil_append, List.cons_append]
 gi_wp2_with (refine ⟨trivial, ?_⟩; first | (gi_at_call 110; refine (callsIn_wide.2 (hho _)).mono ?_; rintro e w' ⟨rfl, rfl⟩) | (gi_at_call 111; refine (parts_in 4 _ _).mono ?_; rintro e w' ⟨rfl, rfl⟩))
 have b0 := Boxed.new w 104 (.slice none 0 0)
 have b1 := Boxed.new (w.alloc (.cells #[.slice none 0 0] 104)) 34 (.int .i64 0)
 have b2 := Boxed.new ((w.alloc (.cells #[.slice none 0 0] 104)).alloc (.cells #[.int .i64 0] 34)) 104 (.slice none 0 0)
 have b3 := Boxed.new (((w.alloc (.cells #[.slice none 0 0] 104)).alloc (.cells #[.int .i64 0] 34)).alloc (.cells #[.slice none 0 0] 104)) 9 (.string s)
 simp only [World.size_alloc] at b1 b2 b3
 have hB0 : Below w.heap.size w ((((w.alloc (.cells #[.slice none 0 0] 104)).alloc (.cells #[.int .i64 0] 34)).alloc (.cells #[.slice none 0 0] 104)).alloc (.cells #[.string s] 9)) := ((((Below.refl _ w).alloc (Nat.le_refl _) _).alloc (by simp) _).alloc (by simp; omega) _).alloc (by simp; omega) _
 have hsz : ((((w.alloc (.cells #[.slice none 0 0] 104)).alloc (.cells #[.int .i64 0] 34)).alloc (.cells #[.slice none 0 0] 104)).alloc (.cells #[.string s] 9)).heap.size = w.heap.size + 4 := by simp
 have hSI : ∀ m, w.heap.size ≤ m → SI w w.heap.size m [] ((((w.alloc (.cells #[.slice none 0 0] 104)).alloc (.cells #[.int .i64 0] 34)).alloc (.cells #[.slice none 0 0] 104)).alloc (.cells #[.string s] 9)) := fun m hm => ⟨((b0.alloc _).alloc _).alloc _, (b1.alloc _).alloc _, ⟨_, b2.alloc _, World.ownsRow_nil _ _ _ _⟩, rfl, hB0, hm⟩
 have hN : (pcs s).length ≤ 4097 := by unfold pcs txs; rw [List.length_map]; have := cutS_len s.toList; rw [tl_len] at this; omega
 generalize (((w.alloc (.cells #[.slice none 0 0] 104)).alloc (.cells #[.int .i64 0] 34)).alloc (.cells #[.slice none 0 0] 104)).alloc (.cells #[.string s] 9) = WL at *
 clear b0 b1 b2 hB0
 refine rangeO (gf := 128) (lb := #[.pointer (some ⟨w.heap.size + 1 + 1 + 1, 0, none⟩)]) rfl (enters_of Tryz.func128 (by kernel_rfl) rfl)
  (parts_stops (w.heap.size + 1 + 1 + 1) s (by omega) WL (by omega) b3.cell) (Below.refl _ _) rfl
  (SI w w.heap.size) (SX w w.heap.size) (fun m => si_own (Nat.le_refl _) (by omega)) (fun c => sx_own (Nat.le_refl _) (by omega) c) (fun m hm => hSI m (by omega))
  (fun x => { tmps := #[.string s, undef, .pointer (some ⟨w.heap.size, 0, none⟩), .pointer (some ⟨w.heap.size + 1, 0, none⟩), .pointer (some ⟨w.heap.size + 1 + 1, 0, none⟩), .string x, .bool false, .string s, .int .i64 s.size, .bool false, .bool false, .string s, .bool false, .string s, .func (.func 128) #[] #[.pointer (some ⟨w.heap.size + 1 + 1 + 1, 0, none⟩)], .string x, undef, undef, undef, undef, undef, undef, undef, undef, undef, undef, undef, undef], defers := [] }) ?assign ?body ?done ?stop
 case assign =>
  intro l d x W K hK
  gi_wp2
  exact hK
 case body =>
  rintro l d m pre x W hm1 hm2 ⟨h0, h1, ⟨v, h2, hr⟩, hsh, hbl, hlm⟩ hlt9
  have hc2 := h2.cell
  have hc0 := h0.cell
  have hc1 := h1.cell
  have hf0 := h0.frozen
  have hf1 := h1.frozen
  have hf2 := h2.frozen
  by_cases hlg : 255 < x.size
  ·have hlgi : (255 : Int) < x.size := by omega
   gi_wp2
   refine ⟨((KeepsOthers.setCell _ _ _).trans (KeepsOthers.setCell _ _ _)).from _, rfl, ?_, ?_, ?_, ?_⟩
   ·unfold lgs; rw [List.any_append, Bool.or_eq_true]; right; simp [longP]; rw [tl_len]; exact hlg
   ·exact (h0.set (.slice none 0 0)).kept (grownBy_setCell' _ (w.heap.size + 1) _) (by simp)
   ·exact (h1.kept (grownBy_setCell' W w.heap.size (.slice none 0 0)) (by simp)).set (.int .i64 1)
   ·exact (hbl.setCell (p := ⟨w.heap.size, 0, none⟩) (Nat.le_refl _) _).setCell (p := ⟨w.heap.size + 1, 0, none⟩) (by simp) _
  ·have hlgi : ¬ (255 : Int) < x.size := by omega
   have hshx : lgs (pre ++ [x]) = false := by unfold lgs at hsh ⊢; rw [List.any_append, hsh]; simp [longP]; rw [tl_len]; omega
   have hcd := (boxed_drewn h2).cell
   gi_wp2
   refine wpIn_region_any (by kernel_rfl) ?_
   change wpAnyIn _ _ _ _ _ _ _ _ _ (World.drew _)
   refine wpAnyIn_ready (rs := [0, 1]) (by kernel_rfl) (by simp) ?_
   refine AllReadyIn.cons rfl (fun K hK => ?_) (AllReadyIn.cons rfl (fun K hK => ?_) AllReadyIn.nil)
   ·skip
    go_simp
    refine hK _ _ ?_
    clear hK K
    refine wpAnyIn_ready (rs := [1]) (by kernel_rfl) (by simp) ?_
    refine AllReadyIn.cons rfl (fun K hK => ?_) AllReadyIn.nil
    go_simp
    refine hK _ _ ?_
    clear hK K
    refine wpAnyIn_ready (rs := [2]) (by kernel_rfl) (by simp) ?_
    refine AllReadyIn.cons rfl (fun K hK => ?_) AllReadyIn.nil
    go_simp
    refine ⟨trivial, (fun h => by cases h), ?_⟩
    gi_at_call 43
    refine (CallsIn.inRound l (callsIn_wide.2 (sclone_any x _ (by omega)))).mono ?_
    rintro e w5 ⟨rfl, hb⟩
    have hb5 : Below W.heap.size W w5 := ((Below.refl _ W).drew).trans hb
    have k5 : Boxed w5 (w.heap.size + 1 + 1) 104 v := boxed_same (hb5.block _ h2.lt) h2
    have hc5 := k5.cell
    have hc6 := (k5.alloc (.cells #[.string x] 9)).cell
    have hr5 : w5.ownsRow m 9 1 v pre.length (sv pre) := owns_below hb5 hr
    clear hb
    refine hK _ _ ?_
    clear hK K
    refine wpAnyIn_ready (rs := [3]) (by kernel_rfl) (by simp) ?_
    refine AllReadyIn.cons rfl (fun K hK => ?_) AllReadyIn.nil
    go_simp
    refine hK _ _ ?_
    clear hK K
    refine wpAnyIn_ready (rs := [4]) (by kernel_rfl) (by simp) ?_
    refine AllReadyIn.cons rfl (fun K hK => ?_) AllReadyIn.nil
    obtain ⟨v', w1, hrun, hown', hgrow, _⟩ := run_append_own (P := Tryz.prog) (w5.alloc (.cells #[.string x] 9)) m 104 104 9 i9 (.string ⟨#[]⟩) 1 16 Tryz.underlying104 hi hz0 hz1 hz2 rfl (by decide) v pre.length (sv pre) (hr5.alloc _) ⟨w5.heap.size, 0, none⟩ 1 1 [.string x] rfl (cell_one_new _ _ _) (by simp [Value.oneCell']) (by unfold maxLen; omega) (by omega) (by have := hb5.size; simp; omega)
    obtain ⟨g', cap', rfl⟩ := ownsRow_succ hown'
    have k1 : Boxed w1 (w.heap.size + 1 + 1) 104 v := (k5.alloc _).kept hgrow (k5.not_row (by decide) hr5)
    have hc7 := k1.cell
    have hf7 := k1.frozen
    rw [if_pos (by rfl)]
    refine wpIn_append (v := v) (u := .slice (some ⟨w5.heap.size, 0, none⟩) 1 1) rfl rfl rfl hrun (hK _ _ ?_)
    clear hK K hrun
    refine wpAnyIn_ready (rs := [5]) (by kernel_rfl) (by simp) ?_
    refine AllReadyIn.cons rfl (fun K hK => ?_) AllReadyIn.nil
    go_simp
    refine hK _ _ ?_
    clear hK K
    refine wpAnyIn_done (by kernel_rfl) ?_ _
    exact si_end (Nat.le_refl _) (by omega) hm2 h0 h1 h2 hr hshx hbl hb5 hown' hgrow
   ·skip
    go_simp
    refine hK _ _ ?_
    clear hK K
    refine wpAnyIn_ready (rs := [0, 2]) (by kernel_rfl) (by simp) ?_
    refine AllReadyIn.cons rfl (fun K hK => ?_) (AllReadyIn.cons rfl (fun K hK => ?_) AllReadyIn.nil)
    ·skip
     go_simp
     refine hK _ _ ?_
     clear hK K
     refine wpAnyIn_ready (rs := [2]) (by kernel_rfl) (by simp) ?_
     refine AllReadyIn.cons rfl (fun K hK => ?_) AllReadyIn.nil
     go_simp
     refine ⟨trivial, (fun h => by cases h), ?_⟩
     gi_at_call 43
     refine (CallsIn.inRound l (callsIn_wide.2 (sclone_any x _ (by omega)))).mono ?_
     rintro e w5 ⟨rfl, hb⟩
     have hb5 : Below W.heap.size W w5 := ((Below.refl _ W).drew).trans hb
     have k5 : Boxed w5 (w.heap.size + 1 + 1) 104 v := boxed_same (hb5.block _ h2.lt) h2
     have hc5 := k5.cell
     have hc6 := (k5.alloc (.cells #[.string x] 9)).cell
     have hr5 : w5.ownsRow m 9 1 v pre.length (sv pre) := owns_below hb5 hr
     clear hb
     refine hK _ _ ?_
     clear hK K
     refine wpAnyIn_ready (rs := [3]) (by kernel_rfl) (by simp) ?_
     refine AllReadyIn.cons rfl (fun K hK => ?_) AllReadyIn.nil
     go_simp
     refine hK _ _ ?_
     clear hK K
     refine wpAnyIn_ready (rs := [4]) (by kernel_rfl) (by simp) ?_
     refine AllReadyIn.cons rfl (fun K hK => ?_) AllReadyIn.nil
     obtain ⟨v', w1, hrun, hown', hgrow, _⟩ := run_append_own (P := Tryz.prog) (w5.alloc (.cells #[.string x] 9)) m 104 104 9 i9 (.string ⟨#[]⟩) 1 16 Tryz.underlying104 hi hz0 hz1 hz2 rfl (by decide) v pre.length (sv pre) (hr5.alloc _) ⟨w5.heap.size, 0, none⟩ 1 1 [.string x] rfl (cell_one_new _ _ _) (by simp [Value.oneCell']) (by unfold maxLen; omega) (by omega) (by have := hb5.size; simp; omega)
     obtain ⟨g', cap', rfl⟩ := ownsRow_succ hown'
     have k1 : Boxed w1 (w.heap.size + 1 + 1) 104 v := (k5.alloc _).kept hgrow (k5.not_row (by decide) hr5)
     have hc7 := k1.cell
     have hf7 := k1.frozen
     rw [if_pos (by rfl)]
     refine wpIn_append (v := v) (u := .slice (some ⟨w5.heap.size, 0, none⟩) 1 1) rfl rfl rfl hrun (hK _ _ ?_)
     clear hK K hrun
     refine wpAnyIn_ready (rs := [5]) (by kernel_rfl) (by simp) ?_
     refine AllReadyIn.cons rfl (fun K hK => ?_) AllReadyIn.nil
     go_simp
     refine hK _ _ ?_
     clear hK K
     refine wpAnyIn_done (by kernel_rfl) ?_ _
     exact si_end (Nat.le_refl _) (by omega) hm2 h0 h1 h2 hr hshx hbl hb5 hown' hgrow
    ·skip
     go_simp
     refine ⟨trivial, (fun h => by cases h), ?_⟩
     gi_at_call 43
     refine (CallsIn.inRound l (callsIn_wide.2 (sclone_any x _ (by omega)))).mono ?_
     rintro e w5 ⟨rfl, hb⟩
     have hb5 : Below W.heap.size W w5 := ((Below.refl _ W).drew).trans hb
     have k5 : Boxed w5 (w.heap.size + 1 + 1) 104 v := boxed_same (hb5.block _ h2.lt) h2
     have hc5 := k5.cell
     have hc6 := (k5.alloc (.cells #[.string x] 9)).cell
     have hr5 : w5.ownsRow m 9 1 v pre.length (sv pre) := owns_below hb5 hr
     clear hb
     refine hK _ _ ?_
     clear hK K
     refine wpAnyIn_ready (rs := [0, 3]) (by kernel_rfl) (by simp) ?_
     refine AllReadyIn.cons rfl (fun K hK => ?_) (AllReadyIn.cons rfl (fun K hK => ?_) AllReadyIn.nil)
     ·skip
      go_simp
      refine hK _ _ ?_
      clear hK K
      refine wpAnyIn_ready (rs := [3]) (by kernel_rfl) (by simp) ?_
      refine AllReadyIn.cons rfl (fun K hK => ?_) AllReadyIn.nil
      go_simp
      refine hK _ _ ?_
      clear hK K
      refine wpAnyIn_ready (rs := [4]) (by kernel_rfl) (by simp) ?_
      refine AllReadyIn.cons rfl (fun K hK => ?_) AllReadyIn.nil
      obtain ⟨v', w1, hrun, hown', hgrow, _⟩ := run_append_own (P := Tryz.prog) (w5.alloc (.cells #[.string x] 9)) m 104 104 9 i9 (.string ⟨#[]⟩) 1 16 Tryz.underlying104 hi hz0 hz1 hz2 rfl (by decide) v pre.length (sv pre) (hr5.alloc _) ⟨w5.heap.size, 0, none⟩ 1 1 [.string x] rfl (cell_one_new _ _ _) (by simp [Value.oneCell']) (by unfold maxLen; omega) (by omega) (by have := hb5.size; simp; omega)
      obtain ⟨g', cap', rfl⟩ := ownsRow_succ hown'
      have k1 : Boxed w1 (w.heap.size + 1 + 1) 104 v := (k5.alloc _).kept hgrow (k5.not_row (by decide) hr5)
      have hc7 := k1.cell
      have hf7 := k1.frozen
      rw [if_pos (by rfl)]
      refine wpIn_append (v := v) (u := .slice (some ⟨w5.heap.size, 0, none⟩) 1 1) rfl rfl rfl hrun (hK _ _ ?_)
      clear hK K hrun
      refine wpAnyIn_ready (rs := [5]) (by kernel_rfl) (by simp) ?_
      refine AllReadyIn.cons rfl (fun K hK => ?_) AllReadyIn.nil
      go_simp
      refine hK _ _ ?_
      clear hK K
      refine wpAnyIn_done (by kernel_rfl) ?_ _
      exact si_end (Nat.le_refl _) (by omega) hm2 h0 h1 h2 hr hshx hbl hb5 hown' hgrow
     ·skip
      go_simp
      refine hK _ _ ?_
      clear hK K
      refine wpAnyIn_ready (rs := [0]) (by kernel_rfl) (by simp) ?_
      refine AllReadyIn.cons rfl (fun K hK => ?_) AllReadyIn.nil
      go_simp
      refine hK _ _ ?_
      clear hK K
      refine wpAnyIn_ready (rs := [4]) (by kernel_rfl) (by simp) ?_
      refine AllReadyIn.cons rfl (fun K hK => ?_) AllReadyIn.nil
      obtain ⟨v', w1, hrun, hown', hgrow, _⟩ := run_append_own (P := Tryz.prog) (w5.alloc (.cells #[.string x] 9)) m 104 104 9 i9 (.string ⟨#[]⟩) 1 16 Tryz.underlying104 hi hz0 hz1 hz2 rfl (by decide) v pre.length (sv pre) (hr5.alloc _) ⟨w5.heap.size, 0, none⟩ 1 1 [.string x] rfl (cell_one_new _ _ _) (by simp [Value.oneCell']) (by unfold maxLen; omega) (by omega) (by have := hb5.size; simp; omega)
      obtain ⟨g', cap', rfl⟩ := ownsRow_succ hown'
      have k1 : Boxed w1 (w.heap.size + 1 + 1) 104 v := (k5.alloc _).kept hgrow (k5.not_row (by decide) hr5)
      have hc7 := k1.cell
      have hf7 := k1.frozen
      rw [if_pos (by rfl)]
      refine wpIn_append (v := v) (u := .slice (some ⟨w5.heap.size, 0, none⟩) 1 1) rfl rfl rfl hrun (hK _ _ ?_)
      clear hK K hrun
      refine wpAnyIn_ready (rs := [5]) (by kernel_rfl) (by simp) ?_
      refine AllReadyIn.cons rfl (fun K hK => ?_) AllReadyIn.nil
      go_simp
      refine hK _ _ ?_
      clear hK K
      refine wpAnyIn_done (by kernel_rfl) ?_ _
      exact si_end (Nat.le_refl _) (by omega) hm2 h0 h1 h2 hr hshx hbl hb5 hown' hgrow
 case done =>
  rintro D m ys W hD rfl ⟨h0, h1, ⟨v, h2, hr⟩, hsh, hbl, hlm⟩ hK
  have hc2 := h2.cell
  have hc0 := h0.cell
  have hc1 := h1.cell
  have hf0 := h0.frozen
  have hf1 := h1.frozen
  have hf2 := h2.frozen
  have hkl : (kps (pcs s)).length ≤ 4097 := Nat.le_trans (kps_le _) hN
  obtain ⟨a, cap, rfl⟩ : ∃ a cap, v = .slice a (kps (pcs s)).length cap := by
   rcases hr.2 with ⟨rfl, h⟩ | ⟨gg, cap, cur, rfl, _⟩
   ·exact ⟨none, 0, by rw [h]⟩
   ·exact ⟨_, _, rfl⟩
  by_cases hlg : 128 < (kps (pcs s)).length
  ·have hlgi : (128 : Int) < (kps (pcs s)).length := by omega
   gi_wp2
   have hK' := ((KeepsOthers.setCell W ⟨w.heap.size, 0, none⟩ (.slice none 0 0)).trans (KeepsOthers.setCell _ ⟨w.heap.size + 1, 0, none⟩ (.int .i64 3))).same D _ hK rfl
   have k0 := (h0.set (.slice none 0 0)).kept (grownBy_setCell' _ (w.heap.size + 1) (.int .i64 3)) (by simp)
   have k1 := (h1.kept (grownBy_setCell' W w.heap.size (.slice none 0 0)) (by simp)).set (.int .i64 3)
   have hB2 := (hbl.setCell (p := ⟨w.heap.size, 0, none⟩) (Nat.le_refl _) (.slice none 0 0)).setCell (p := ⟨w.heap.size + 1, 0, none⟩) (by simp) (.int .i64 3)
   refine ⟨by simp, .inl ⟨_, _, rfl, run_takeDeferred hK', ?_⟩⟩
   have c0 := cell_kept k0.cell (grownBy_putObj' _ D (.deferred none)) (fun r e => by cases e; exact ⟨_, hK', rfl⟩)
   have c1 := cell_kept k1.cell (grownBy_putObj' _ D (.deferred none)) (fun r e => by cases e; exact ⟨_, hK', rfl⟩)
   refine ⟨.tuple #[.slice none 0 0, .int .i64 3], by simp [results, Tryz.f85, go_sem, c0, c1], ?_⟩
   have HV : sp2 s.toList = ([], 3) := by
    unfold sp2
    rw [if_neg (by rw [← lgs_pcs, hsh]; decide), if_pos (by rw [kps_pcs] at hlg; exact hlg)]
   rw [HV]
   exact ⟨none, 0, 0, rfl, World.ownsRow_nil _ _ _ _, below_grown (hB2.trans (belowK_b (w := w) (Nat.le_refl _) _ D _ _ (by omega) hK' rfl rfl))⟩
  ·have hlgi : ¬ (128 : Int) < (kps (pcs s)).length := by omega
   gi_wp2
   have hK' := ((KeepsOthers.setCell W ⟨w.heap.size, 0, none⟩ (.slice a (kps (pcs s)).length cap)).trans (KeepsOthers.setCell _ ⟨w.heap.size + 1, 0, none⟩ (.int .i64 0))).same D _ hK rfl
   have k0 := (h0.set (.slice a (kps (pcs s)).length cap)).kept (grownBy_setCell' _ (w.heap.size + 1) (.int .i64 0)) (by simp)
   have k1 := (h1.kept (grownBy_setCell' W w.heap.size (.slice a (kps (pcs s)).length cap)) (by simp)).set (.int .i64 0)
   have hB2 := (hbl.setCell (p := ⟨w.heap.size, 0, none⟩) (Nat.le_refl _) (.slice a (kps (pcs s)).length cap)).setCell (p := ⟨w.heap.size + 1, 0, none⟩) (by simp) (.int .i64 0)
   have hr2 := ownsRow_putObj ((hr.kept (grownBy_setCell' W w.heap.size (.slice a (kps (pcs s)).length cap)) (.inr (h0.not_row (by decide) hr).symm)).kept (grownBy_setCell' _ (w.heap.size + 1) (.int .i64 0)) (.inr (h1.not_row (by decide) hr).symm)) (.deferred none) hK' rfl
   refine ⟨by simp, .inl ⟨_, _, rfl, run_takeDeferred hK', ?_⟩⟩
   have c0 := cell_kept k0.cell (grownBy_putObj' _ D (.deferred none)) (fun r e => by cases e; exact ⟨_, hK', rfl⟩)
   have c1 := cell_kept k1.cell (grownBy_putObj' _ D (.deferred none)) (fun r e => by cases e; exact ⟨_, hK', rfl⟩)
   refine ⟨.tuple #[.slice a (kps (pcs s)).length cap, .int .i64 0], by simp [results, Tryz.f85, go_sem, c0, c1], ?_⟩
   have HV : sp2 s.toList = ((cutS s.toList).filter kept, 0) := by
    unfold sp2
    rw [if_neg (by rw [← lgs_pcs, hsh]; decide), if_neg (by rw [kps_pcs] at hlg; exact hlg)]
   rw [HV]
   refine ⟨a, _, cap, rfl, ?_, below_grown (hB2.trans (belowK_b (w := w) (Nat.le_refl _) _ D _ _ (by omega) hK' rfl rfl))⟩
   have e9 : kps (pcs s) = txs ((cutS s.toList).filter kept) := kps_txs _
   show World.ownsRow _ _ _ _ _ _ (sv (txs ((cutS s.toList).filter kept)))
   rw [← e9]
   exact ⟨hr2.1, hr2.2.imp id (fun ⟨gg, cp, cu, e1, e2, e3⟩ => ⟨gg, cp, cu, e1, by omega, e3⟩)⟩
 case stop =>
  rintro D c pre W hD hpre ⟨rfl, hlg, h0, h1, hbl⟩ hK
  have hc0 := h0.cell
  have hc1 := h1.cell
  gi_wp2
  refine ⟨by simp, .inl ⟨_, _, rfl, run_takeDeferred hK, ?_⟩⟩
  have c0 := cell_kept hc0 (grownBy_putObj' _ D (.deferred none)) (fun r e => by cases e; exact ⟨_, hK, rfl⟩)
  have c1 := cell_kept hc1 (grownBy_putObj' _ D (.deferred none)) (fun r e => by cases e; exact ⟨_, hK, rfl⟩)
  refine ⟨.tuple #[.slice none 0 0, .int .i64 1], by simp [results, Tryz.f85, go_sem, c0, c1], ?_⟩
  have HV : sp2 s.toList = ([], 1) := by
   unfold sp2
   rw [if_pos]
   rw [← lgs_pcs]
   obtain ⟨r, hr⟩ := hpre
   unfold lgs at hlg ⊢
   rw [← hr, List.any_append, hlg, Bool.true_or]
  rw [HV]
  exact ⟨none, 0, 0, rfl, World.ownsRow_nil _ _ _ _, below_grown (hbl.trans (belowK_b (w := w) (Nat.le_refl _) _ D _ _ (by omega) hK rfl rfl))⟩
theorem psplit_any (s : ByteArray) (w : World) (hs : s.size ≤ 1000000) : Calls Tryz.prog 85 #[.string s] w (SpPost w (spl s.toList)) := by
 by_cases h1 : 4096 < s.size
 ·have e : spl s.toList = ([], 2) := by unfold spl; rw [if_pos (by rw [tl_len]; exact h1)]
  rw [e]
  have g1 : (4096 : Int) < s.size := by omega
  go_enter Tryz.func85, Tryz.ntmps85
  go_wp2
  refine bodyPost_ret (by simp [results, Tryz.f85, go_sem]; try rfl) rfl ?_
  exact ⟨none, 0, 0, rfl, World.ownsRow_nil _ _ _ _, grown_tr (World.grownBy_alloc w _ none) (World.grownBy_alloc _ _ none)⟩
 ·cases h0 : s.toList.any (· == 0) with
  | false =>
   have e : spl s.toList = sp2 s.toList := by unfold spl sp2; rw [if_neg (by rw [tl_len]; exact h1), h0, if_neg (by decide)]
   rw [e]
   exact psplit_main s w (by omega) h0
  | true =>
   have e : spl s.toList = ([], 6) := by unfold spl; rw [if_neg (by rw [tl_len]; exact h1), h0, if_pos rfl]
   rw [e]
   clear e
   have g1 : ¬ (4096 : Int) < s.size := by omega
   have hho := fun W => pholds_any s 0 W
   have e0 : hasB s.toList ((0 : Int).toNat.toUInt8) = true := h0
   rw [e0] at hho
   clear h0 e0
   go_enter Tryz.func85, Tryz.ntmps85
   go_wp2_with (go_at_call 110; refine (hho _).mono ?_; rintro e w' ⟨rfl, rfl⟩)
   refine bodyPost_ret (by simp [results, Tryz.f85, go_sem]; try rfl) rfl ?_
   exact ⟨none, 0, 0, rfl, World.ownsRow_nil _ _ _ _, grown_tr (World.grownBy_alloc w _ none) (World.grownBy_alloc _ _ none)⟩
end Go.Proofs.YtlehncfehoelbaaGreatDoor
