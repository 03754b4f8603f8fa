/- The program's Check, whole. -/
import Derived.Test.YtiafbnpbbjkdbaaOD
import Derived.Test.YtiafbnpbbjkdbaaJW
import Derived.Lib.QuietBelow
namespace Go.Proofs.Ytiafbnpbbjkdbaa
open Go.RowKit Go.Sort
set_option maxRecDepth 100000
set_option linter.unusedSimpArgs false
set_option linter.unusedVariables false
/-- a contract, met in a world of the class -/
theorem met_of {f : FuncId} {args : Array Value} {w : World} {v : Value} (h : ∀ W, w.grownBy W none → Calls Try.prog f args W fun e w' => e = .returned v ∧ W.grownBy w' none) (d : Nat) (os : Array Obj) :
    Calls Try.prog f args (grow (redrawn w d) os) fun e w'' => e = .returned v ∧ ∃ p : Regrown, w'' = grow (redrawn w p.d) p.os :=
  Calls.regrown_of ((h _ (below_grown (below_regrown w d os))).mono fun e w' k => ⟨k.1, grown_below k.2⟩)
theorem inoHere {P : Program} {w : World} {ops : Array Oper} {rest : List Oper} {a : Act} {Q : Exit → Act → World → Prop} {dst : Option Nat} {x : Operand} {type : TypeId} {pos : String} {after : Array Edge} {guard : Option (Nat × Bool)}
    (h : wpList P ops Q (⟨dst, .load 24 x, type, pos, after, guard⟩ :: rest) a w) : wpList P ops Q (⟨dst, .load 24 x, type, pos, after, guard⟩ :: rest) a w := h
theorem wpQuiet_load {P : Program} {ops : Array Oper} {C : World → Prop} {Q : Act → Prop} {a : Act} {o : Oper} {rest : List Oper} (hgd : o.guard = none) (ty : TypeId) (x : Operand) (ho : o.op = .load ty x)
    (g : Nat) (hx : a.eval x = .pointer (some ⟨g, 0, none⟩)) (t : TypeId) (cs : Array Value) (d : TypeDesc) (hg : ∀ w, C w → w.heap[g]? = some (.cells cs t (0, 0)))
    (hu : P.underlying ty = some d) (hd : (match d with | .struct _ | .array _ _ => true | _ => false) = true) (hi : (P.info? ty).map (·.size) = some cs.size)
    (h : wpQuiet P ops C Q rest (a.put o.dst (.agg cs))) : wpQuiet P ops C Q (o :: rest) a := by
  refine wpQuiet_step fun K hK => ?_
  rw [if_pos (by unfold Region.wanted; rw [hgd])]
  refine ⟨.agg cs, fun w hw => ?_, hK _ h⟩
  unfold Oper.quietAt execOp
  simp only [ho, hx, Instr.loadAt, Instr.sureAddr, Sem.run_bind, Sem.run_pure, Result.andThen_ok, run_loadVar_row w g t ty cs (0, 0) d (hg w hw) hu hd hi]
  exact ⟨rfl, rfl⟩
theorem infoI : (Try.prog.info? 24).map (·.size) = some 18 := by kernel_rfl
set_option maxHeartbeats 4000000 in
theorem rest15_1 (n : Nd) (w : World) (hok : n.ok w) (hk : n.kd = 1) : Calls Try.prog 27 #[n.val] w fun e w' => e = .returned (.bool (rest15 n)) ∧ w.grownBy w' none := by
  have h1 := fun W => nofile_any n W
  have h2 := fun W => nofolder_any n W
  have h3 : Hid (∀ W, w.grownBy W none → Calls Try.prog 41 #[n.val] W fun e w' => e = .returned (.bool (file15 n)) ∧ W.grownBy w' none) := fun W g => file_any n W (hok.kept g)
  have h4 : Hid (∀ W, Calls Try.prog 42 #[n.val] W fun e w' => e = .returned (.bool (dir15 n)) ∧ W.grownBy w' none) := fun W => folder_any n W
  have h5 : Hid (∀ W, Calls Try.prog 43 #[.string n.tg] W fun e w' => e = .returned (.bool (link15 n)) ∧ W = w') := fun W => target_any n.tg W
  have hr : Hid (rest15 n = ((if n.kd == 1 then file15 n else nofile15 n) && (if n.kd == 2 then dir15 n else nodir15 n) && (if n.kd == 3 then link15 n else nolink15 n) && (if decide (3 < n.kd) then dev15 n else n.dv == 0))) := rfl
  have h6 : Hid (nolink15 n = (n.tg.toList == []) ∧ dev15 n = inn 0 4294967295 n.dv) := ⟨rfl, rfl⟩
  clear hok
  generalize nofile15 n = bnf at *
  generalize nodir15 n = bnd at *
  generalize file15 n = bfi at *
  generalize dir15 n = bdi at *
  generalize link15 n = bli at *
  generalize rest15 n = bre at *
  generalize nolink15 n = bnl at *
  generalize dev15 n = bdv at *
  obtain ⟨kd, md, ui, gi, tm, ln, at_, sz, st, wa, wl, wc, ws, fr, of_, tl, dr, by_, pr, tg, dv⟩ := n
  simp only at hk
  subst hk
  simp only [Nd.val] at *
  go_enter Try.func27, Try.ntmps27
  go_wp2_with fail
  have hB : Bx (w.alloc (.cells #[.int .i64 1, .int .i64 md, .int .i64 ui, .int .i64 gi, .int .i64 tm, .int .i64 ln, .int .i64 at_, .int .i64 sz, .int .i64 st, .slice wa wl wc, .int .i64 fr, .int .i64 of_, .int .i64 tl, .int .i64 dr, .int .i64 by_, .int .i64 pr, .string tg, .int .i64 dv] 24)) w.heap.size 24 [.int .i64 1, .int .i64 md, .int .i64 ui, .int .i64 gi, .int .i64 tm, .int .i64 ln, .int .i64 at_, .int .i64 sz, .int .i64 st, .slice wa wl wc, .int .i64 fr, .int .i64 of_, .int .i64 tl, .int .i64 dr, .int .i64 by_, .int .i64 pr, .string tg, .int .i64 dv] := Bx.new w _ _
  have hG : Hid (w.grownBy (w.alloc (.cells #[.int .i64 1, .int .i64 md, .int .i64 ui, .int .i64 gi, .int .i64 tm, .int .i64 ln, .int .i64 at_, .int .i64 sz, .int .i64 st, .slice wa wl wc, .int .i64 fr, .int .i64 of_, .int .i64 tl, .int .i64 dr, .int .i64 by_, .int .i64 pr, .string tg, .int .i64 dv] 24)) none) := World.grownBy_alloc _ _ _
  generalize w.alloc (.cells #[.int .i64 1, .int .i64 md, .int .i64 ui, .int .i64 gi, .int .i64 tm, .int .i64 ln, .int .i64 at_, .int .i64 sz, .int .i64 st, .slice wa wl wc, .int .i64 fr, .int .i64 of_, .int .i64 tl, .int .i64 dr, .int .i64 by_, .int .i64 pr, .string tg, .int .i64 dv] 24) = W at *
  generalize w.heap.size = g at *
  have q0 := fun d os => cell_regrown (hB.c 0) d os
  have q1 := fun d os => cell_regrown (hB.c 1) d os
  have q2 := fun d os => cell_regrown (hB.c 2) d os
  have q3 := fun d os => cell_regrown (hB.c 3) d os
  have q4 := fun d os => cell_regrown (hB.c 4) d os
  have q5 := fun d os => cell_regrown (hB.c 5) d os
  have q6 := fun d os => cell_regrown (hB.c 6) d os
  have q7 := fun d os => cell_regrown (hB.c 7) d os
  have q8 := fun d os => cell_regrown (hB.c 8) d os
  have q9 := fun d os => cell_regrown (hB.c 9) d os
  have q10 := fun d os => cell_regrown (hB.c 10) d os
  have q11 := fun d os => cell_regrown (hB.c 11) d os
  have q12 := fun d os => cell_regrown (hB.c 12) d os
  have q13 := fun d os => cell_regrown (hB.c 13) d os
  have q14 := fun d os => cell_regrown (hB.c 14) d os
  have q15 := fun d os => cell_regrown (hB.c 15) d os
  have q16 := fun d os => cell_regrown (hB.c 16) d os
  have q17 := fun d os => cell_regrown (hB.c 17) d os
  have k1 := met_of (w := W) (fun W' _ => h1 W')
  have k2 := met_of (w := W) (fun W' _ => h2 W')
  have hBB : Hid (∀ w', (∃ p : Regrown, w' = grow (redrawn W p.d) p.os) → w'.heap[g]? = some (.cells #[.int .i64 1, .int .i64 md, .int .i64 ui, .int .i64 gi, .int .i64 tm, .int .i64 ln, .int .i64 at_, .int .i64 sz, .int .i64 st, .slice wa wl wc, .int .i64 fr, .int .i64 of_, .int .i64 tl, .int .i64 dr, .int .i64 by_, .int .i64 pr, .string tg, .int .i64 dv] 24 (0, 0))) := fun w' ⟨p, e⟩ => by rw [e, (below_regrown W p.d p.os).block g hB.lt]; exact hB.blk
  clear h1 h2 hB
  refine wp_region_quiet_below (by kernel_rfl) (by kernel_rfl) ?_
  refine wpQuiet_load rfl 24 _ rfl g rfl 24 _ _ (fun w' h => hBB.out w' h) Try.underlying24 rfl infoI ?_
  simp only [Act.put, List.setIfInBounds_toArray, List.set_cons_zero, List.set_cons_succ]
  quiet_step (exact k1 _ _)
  refine wpQuiet_load rfl 24 _ rfl g rfl 24 _ _ (fun w' h => hBB.out w' h) Try.underlying24 rfl infoI ?_
  simp only [Act.put, List.setIfInBounds_toArray, List.set_cons_zero, List.set_cons_succ]
  quiet_step (exact k2 _ _)
  repeat (quiet_step (fail))
  refine wpQuiet_nil ?_
  intro _ hw1
  obtain ⟨⟨d, os⟩, hw2⟩ := hw1
  subst hw2
  have HG : Hid (w.grownBy (grow (redrawn W d) os) none) := grown_trans hG.out (below_grown (below_regrown W d os))
  have HBV : Hid (Bx (grow (redrawn W d) os) g 24 [.int .i64 1, .int .i64 md, .int .i64 ui, .int .i64 gi, .int .i64 tm, .int .i64 ln, .int .i64 at_, .int .i64 sz, .int .i64 st, .slice wa wl wc, .int .i64 fr, .int .i64 of_, .int .i64 tl, .int .i64 dr, .int .i64 by_, .int .i64 pr, .string tg, .int .i64 dv]) := ⟨hBB.out _ ⟨⟨d, os⟩, rfl⟩⟩
  clear k1 k2 hG hBB
  have q0 := q0 d os
  have q16 := q16 d os
  have q17 := q17 d os
  have q1 := q1 d os
  have q2 := q2 d os
  have q3 := q3 d os
  have q4 := q4 d os
  have q5 := q5 d os
  have q6 := q6 d os
  have q7 := q7 d os
  have q8 := q8 d os
  have q9 := q9 d os
  have q10 := q10 d os
  have q11 := q11 d os
  have q12 := q12 d os
  have q13 := q13 d os
  have q14 := q14 d os
  have q15 := q15 d os
  generalize grow (redrawn W d) os = V at *
  go_wp2_with (first | ((with_reducible refine inoHere ?_); refine wpList_loadB rfl 24 _ rfl g rfl HBV.out Try.underlying24 rfl infoI ?_) | (go_at_call 41; refine (h3.out _ HG.out).mono ?_; rintro e w' ⟨rfl, hg⟩) | (go_at_call 42; refine (h4.out _).mono ?_; rintro e w' ⟨rfl, hg⟩) | (go_at_call 43; refine (h5.out _).mono ?_; rintro e w' ⟨rfl, rfl⟩) | (go_at_call 25; refine (between_any _ _ _ _).mono ?_; rintro e w' ⟨rfl, rfl⟩))
  all_goals go_ret
  all_goals first | refine ⟨?_, HG.out⟩ | refine ⟨?_, grown_trans HG.out (by assumption)⟩
  all_goals rw [hr.out]
  all_goals simp [h6.out.1, h6.out.2, *]
set_option maxHeartbeats 4000000 in
theorem rest15_2 (n : Nd) (w : World) (hok : n.ok w) (hk : n.kd = 2) : Calls Try.prog 27 #[n.val] w fun e w' => e = .returned (.bool (rest15 n)) ∧ w.grownBy w' none := by
  have h1 := fun W => nofile_any n W
  have h2 := fun W => nofolder_any n W
  have h3 : Hid (∀ W, w.grownBy W none → Calls Try.prog 41 #[n.val] W fun e w' => e = .returned (.bool (file15 n)) ∧ W.grownBy w' none) := fun W g => file_any n W (hok.kept g)
  have h4 : Hid (∀ W, Calls Try.prog 42 #[n.val] W fun e w' => e = .returned (.bool (dir15 n)) ∧ W.grownBy w' none) := fun W => folder_any n W
  have h5 : Hid (∀ W, Calls Try.prog 43 #[.string n.tg] W fun e w' => e = .returned (.bool (link15 n)) ∧ W = w') := fun W => target_any n.tg W
  have hr : Hid (rest15 n = ((if n.kd == 1 then file15 n else nofile15 n) && (if n.kd == 2 then dir15 n else nodir15 n) && (if n.kd == 3 then link15 n else nolink15 n) && (if decide (3 < n.kd) then dev15 n else n.dv == 0))) := rfl
  have h6 : Hid (nolink15 n = (n.tg.toList == []) ∧ dev15 n = inn 0 4294967295 n.dv) := ⟨rfl, rfl⟩
  clear hok
  generalize nofile15 n = bnf at *
  generalize nodir15 n = bnd at *
  generalize file15 n = bfi at *
  generalize dir15 n = bdi at *
  generalize link15 n = bli at *
  generalize rest15 n = bre at *
  generalize nolink15 n = bnl at *
  generalize dev15 n = bdv at *
  obtain ⟨kd, md, ui, gi, tm, ln, at_, sz, st, wa, wl, wc, ws, fr, of_, tl, dr, by_, pr, tg, dv⟩ := n
  simp only at hk
  subst hk
  simp only [Nd.val] at *
  go_enter Try.func27, Try.ntmps27
  go_wp2_with fail
  have hB : Bx (w.alloc (.cells #[.int .i64 2, .int .i64 md, .int .i64 ui, .int .i64 gi, .int .i64 tm, .int .i64 ln, .int .i64 at_, .int .i64 sz, .int .i64 st, .slice wa wl wc, .int .i64 fr, .int .i64 of_, .int .i64 tl, .int .i64 dr, .int .i64 by_, .int .i64 pr, .string tg, .int .i64 dv] 24)) w.heap.size 24 [.int .i64 2, .int .i64 md, .int .i64 ui, .int .i64 gi, .int .i64 tm, .int .i64 ln, .int .i64 at_, .int .i64 sz, .int .i64 st, .slice wa wl wc, .int .i64 fr, .int .i64 of_, .int .i64 tl, .int .i64 dr, .int .i64 by_, .int .i64 pr, .string tg, .int .i64 dv] := Bx.new w _ _
  have hG : Hid (w.grownBy (w.alloc (.cells #[.int .i64 2, .int .i64 md, .int .i64 ui, .int .i64 gi, .int .i64 tm, .int .i64 ln, .int .i64 at_, .int .i64 sz, .int .i64 st, .slice wa wl wc, .int .i64 fr, .int .i64 of_, .int .i64 tl, .int .i64 dr, .int .i64 by_, .int .i64 pr, .string tg, .int .i64 dv] 24)) none) := World.grownBy_alloc _ _ _
  generalize w.alloc (.cells #[.int .i64 2, .int .i64 md, .int .i64 ui, .int .i64 gi, .int .i64 tm, .int .i64 ln, .int .i64 at_, .int .i64 sz, .int .i64 st, .slice wa wl wc, .int .i64 fr, .int .i64 of_, .int .i64 tl, .int .i64 dr, .int .i64 by_, .int .i64 pr, .string tg, .int .i64 dv] 24) = W at *
  generalize w.heap.size = g at *
  have q0 := fun d os => cell_regrown (hB.c 0) d os
  have q1 := fun d os => cell_regrown (hB.c 1) d os
  have q2 := fun d os => cell_regrown (hB.c 2) d os
  have q3 := fun d os => cell_regrown (hB.c 3) d os
  have q4 := fun d os => cell_regrown (hB.c 4) d os
  have q5 := fun d os => cell_regrown (hB.c 5) d os
  have q6 := fun d os => cell_regrown (hB.c 6) d os
  have q7 := fun d os => cell_regrown (hB.c 7) d os
  have q8 := fun d os => cell_regrown (hB.c 8) d os
  have q9 := fun d os => cell_regrown (hB.c 9) d os
  have q10 := fun d os => cell_regrown (hB.c 10) d os
  have q11 := fun d os => cell_regrown (hB.c 11) d os
  have q12 := fun d os => cell_regrown (hB.c 12) d os
  have q13 := fun d os => cell_regrown (hB.c 13) d os
  have q14 := fun d os => cell_regrown (hB.c 14) d os
  have q15 := fun d os => cell_regrown (hB.c 15) d os
  have q16 := fun d os => cell_regrown (hB.c 16) d os
  have q17 := fun d os => cell_regrown (hB.c 17) d os
  have k1 := met_of (w := W) (fun W' _ => h1 W')
  have k2 := met_of (w := W) (fun W' _ => h2 W')
  have hBB : Hid (∀ w', (∃ p : Regrown, w' = grow (redrawn W p.d) p.os) → w'.heap[g]? = some (.cells #[.int .i64 2, .int .i64 md, .int .i64 ui, .int .i64 gi, .int .i64 tm, .int .i64 ln, .int .i64 at_, .int .i64 sz, .int .i64 st, .slice wa wl wc, .int .i64 fr, .int .i64 of_, .int .i64 tl, .int .i64 dr, .int .i64 by_, .int .i64 pr, .string tg, .int .i64 dv] 24 (0, 0))) := fun w' ⟨p, e⟩ => by rw [e, (below_regrown W p.d p.os).block g hB.lt]; exact hB.blk
  clear h1 h2 hB
  refine wp_region_quiet_below (by kernel_rfl) (by kernel_rfl) ?_
  refine wpQuiet_load rfl 24 _ rfl g rfl 24 _ _ (fun w' h => hBB.out w' h) Try.underlying24 rfl infoI ?_
  simp only [Act.put, List.setIfInBounds_toArray, List.set_cons_zero, List.set_cons_succ]
  quiet_step (exact k1 _ _)
  refine wpQuiet_load rfl 24 _ rfl g rfl 24 _ _ (fun w' h => hBB.out w' h) Try.underlying24 rfl infoI ?_
  simp only [Act.put, List.setIfInBounds_toArray, List.set_cons_zero, List.set_cons_succ]
  quiet_step (exact k2 _ _)
  repeat (quiet_step (fail))
  refine wpQuiet_nil ?_
  intro _ hw1
  obtain ⟨⟨d, os⟩, hw2⟩ := hw1
  subst hw2
  have HG : Hid (w.grownBy (grow (redrawn W d) os) none) := grown_trans hG.out (below_grown (below_regrown W d os))
  have HBV : Hid (Bx (grow (redrawn W d) os) g 24 [.int .i64 2, .int .i64 md, .int .i64 ui, .int .i64 gi, .int .i64 tm, .int .i64 ln, .int .i64 at_, .int .i64 sz, .int .i64 st, .slice wa wl wc, .int .i64 fr, .int .i64 of_, .int .i64 tl, .int .i64 dr, .int .i64 by_, .int .i64 pr, .string tg, .int .i64 dv]) := ⟨hBB.out _ ⟨⟨d, os⟩, rfl⟩⟩
  clear k1 k2 hG hBB
  have q0 := q0 d os
  have q16 := q16 d os
  have q17 := q17 d os
  have q1 := q1 d os
  have q2 := q2 d os
  have q3 := q3 d os
  have q4 := q4 d os
  have q5 := q5 d os
  have q6 := q6 d os
  have q7 := q7 d os
  have q8 := q8 d os
  have q9 := q9 d os
  have q10 := q10 d os
  have q11 := q11 d os
  have q12 := q12 d os
  have q13 := q13 d os
  have q14 := q14 d os
  have q15 := q15 d os
  generalize grow (redrawn W d) os = V at *
  go_wp2_with (first | ((with_reducible refine inoHere ?_); refine wpList_loadB rfl 24 _ rfl g rfl HBV.out Try.underlying24 rfl infoI ?_) | (go_at_call 41; refine (h3.out _ HG.out).mono ?_; rintro e w' ⟨rfl, hg⟩) | (go_at_call 42; refine (h4.out _).mono ?_; rintro e w' ⟨rfl, hg⟩) | (go_at_call 43; refine (h5.out _).mono ?_; rintro e w' ⟨rfl, rfl⟩) | (go_at_call 25; refine (between_any _ _ _ _).mono ?_; rintro e w' ⟨rfl, rfl⟩))
  all_goals go_ret
  all_goals first | refine ⟨?_, HG.out⟩ | refine ⟨?_, grown_trans HG.out (by assumption)⟩
  all_goals rw [hr.out]
  all_goals simp [h6.out.1, h6.out.2, *]
set_option maxHeartbeats 4000000 in
theorem rest15_3 (n : Nd) (w : World) (hok : n.ok w) (hk : n.kd = 3) : Calls Try.prog 27 #[n.val] w fun e w' => e = .returned (.bool (rest15 n)) ∧ w.grownBy w' none := by
  have h1 := fun W => nofile_any n W
  have h2 := fun W => nofolder_any n W
  have h3 : Hid (∀ W, w.grownBy W none → Calls Try.prog 41 #[n.val] W fun e w' => e = .returned (.bool (file15 n)) ∧ W.grownBy w' none) := fun W g => file_any n W (hok.kept g)
  have h4 : Hid (∀ W, Calls Try.prog 42 #[n.val] W fun e w' => e = .returned (.bool (dir15 n)) ∧ W.grownBy w' none) := fun W => folder_any n W
  have h5 : Hid (∀ W, Calls Try.prog 43 #[.string n.tg] W fun e w' => e = .returned (.bool (link15 n)) ∧ W = w') := fun W => target_any n.tg W
  have hr : Hid (rest15 n = ((if n.kd == 1 then file15 n else nofile15 n) && (if n.kd == 2 then dir15 n else nodir15 n) && (if n.kd == 3 then link15 n else nolink15 n) && (if decide (3 < n.kd) then dev15 n else n.dv == 0))) := rfl
  have h6 : Hid (nolink15 n = (n.tg.toList == []) ∧ dev15 n = inn 0 4294967295 n.dv) := ⟨rfl, rfl⟩
  clear hok
  generalize nofile15 n = bnf at *
  generalize nodir15 n = bnd at *
  generalize file15 n = bfi at *
  generalize dir15 n = bdi at *
  generalize link15 n = bli at *
  generalize rest15 n = bre at *
  generalize nolink15 n = bnl at *
  generalize dev15 n = bdv at *
  obtain ⟨kd, md, ui, gi, tm, ln, at_, sz, st, wa, wl, wc, ws, fr, of_, tl, dr, by_, pr, tg, dv⟩ := n
  simp only at hk
  subst hk
  simp only [Nd.val] at *
  go_enter Try.func27, Try.ntmps27
  go_wp2_with fail
  have hB : Bx (w.alloc (.cells #[.int .i64 3, .int .i64 md, .int .i64 ui, .int .i64 gi, .int .i64 tm, .int .i64 ln, .int .i64 at_, .int .i64 sz, .int .i64 st, .slice wa wl wc, .int .i64 fr, .int .i64 of_, .int .i64 tl, .int .i64 dr, .int .i64 by_, .int .i64 pr, .string tg, .int .i64 dv] 24)) w.heap.size 24 [.int .i64 3, .int .i64 md, .int .i64 ui, .int .i64 gi, .int .i64 tm, .int .i64 ln, .int .i64 at_, .int .i64 sz, .int .i64 st, .slice wa wl wc, .int .i64 fr, .int .i64 of_, .int .i64 tl, .int .i64 dr, .int .i64 by_, .int .i64 pr, .string tg, .int .i64 dv] := Bx.new w _ _
  have hG : Hid (w.grownBy (w.alloc (.cells #[.int .i64 3, .int .i64 md, .int .i64 ui, .int .i64 gi, .int .i64 tm, .int .i64 ln, .int .i64 at_, .int .i64 sz, .int .i64 st, .slice wa wl wc, .int .i64 fr, .int .i64 of_, .int .i64 tl, .int .i64 dr, .int .i64 by_, .int .i64 pr, .string tg, .int .i64 dv] 24)) none) := World.grownBy_alloc _ _ _
  generalize w.alloc (.cells #[.int .i64 3, .int .i64 md, .int .i64 ui, .int .i64 gi, .int .i64 tm, .int .i64 ln, .int .i64 at_, .int .i64 sz, .int .i64 st, .slice wa wl wc, .int .i64 fr, .int .i64 of_, .int .i64 tl, .int .i64 dr, .int .i64 by_, .int .i64 pr, .string tg, .int .i64 dv] 24) = W at *
  generalize w.heap.size = g at *
  have q0 := fun d os => cell_regrown (hB.c 0) d os
  have q1 := fun d os => cell_regrown (hB.c 1) d os
  have q2 := fun d os => cell_regrown (hB.c 2) d os
  have q3 := fun d os => cell_regrown (hB.c 3) d os
  have q4 := fun d os => cell_regrown (hB.c 4) d os
  have q5 := fun d os => cell_regrown (hB.c 5) d os
  have q6 := fun d os => cell_regrown (hB.c 6) d os
  have q7 := fun d os => cell_regrown (hB.c 7) d os
  have q8 := fun d os => cell_regrown (hB.c 8) d os
  have q9 := fun d os => cell_regrown (hB.c 9) d os
  have q10 := fun d os => cell_regrown (hB.c 10) d os
  have q11 := fun d os => cell_regrown (hB.c 11) d os
  have q12 := fun d os => cell_regrown (hB.c 12) d os
  have q13 := fun d os => cell_regrown (hB.c 13) d os
  have q14 := fun d os => cell_regrown (hB.c 14) d os
  have q15 := fun d os => cell_regrown (hB.c 15) d os
  have q16 := fun d os => cell_regrown (hB.c 16) d os
  have q17 := fun d os => cell_regrown (hB.c 17) d os
  have k1 := met_of (w := W) (fun W' _ => h1 W')
  have k2 := met_of (w := W) (fun W' _ => h2 W')
  have hBB : Hid (∀ w', (∃ p : Regrown, w' = grow (redrawn W p.d) p.os) → w'.heap[g]? = some (.cells #[.int .i64 3, .int .i64 md, .int .i64 ui, .int .i64 gi, .int .i64 tm, .int .i64 ln, .int .i64 at_, .int .i64 sz, .int .i64 st, .slice wa wl wc, .int .i64 fr, .int .i64 of_, .int .i64 tl, .int .i64 dr, .int .i64 by_, .int .i64 pr, .string tg, .int .i64 dv] 24 (0, 0))) := fun w' ⟨p, e⟩ => by rw [e, (below_regrown W p.d p.os).block g hB.lt]; exact hB.blk
  clear h1 h2 hB
  refine wp_region_quiet_below (by kernel_rfl) (by kernel_rfl) ?_
  refine wpQuiet_load rfl 24 _ rfl g rfl 24 _ _ (fun w' h => hBB.out w' h) Try.underlying24 rfl infoI ?_
  simp only [Act.put, List.setIfInBounds_toArray, List.set_cons_zero, List.set_cons_succ]
  quiet_step (exact k1 _ _)
  refine wpQuiet_load rfl 24 _ rfl g rfl 24 _ _ (fun w' h => hBB.out w' h) Try.underlying24 rfl infoI ?_
  simp only [Act.put, List.setIfInBounds_toArray, List.set_cons_zero, List.set_cons_succ]
  quiet_step (exact k2 _ _)
  repeat (quiet_step (fail))
  refine wpQuiet_nil ?_
  intro _ hw1
  obtain ⟨⟨d, os⟩, hw2⟩ := hw1
  subst hw2
  have HG : Hid (w.grownBy (grow (redrawn W d) os) none) := grown_trans hG.out (below_grown (below_regrown W d os))
  have HBV : Hid (Bx (grow (redrawn W d) os) g 24 [.int .i64 3, .int .i64 md, .int .i64 ui, .int .i64 gi, .int .i64 tm, .int .i64 ln, .int .i64 at_, .int .i64 sz, .int .i64 st, .slice wa wl wc, .int .i64 fr, .int .i64 of_, .int .i64 tl, .int .i64 dr, .int .i64 by_, .int .i64 pr, .string tg, .int .i64 dv]) := ⟨hBB.out _ ⟨⟨d, os⟩, rfl⟩⟩
  clear k1 k2 hG hBB
  have q0 := q0 d os
  have q16 := q16 d os
  have q17 := q17 d os
  have q1 := q1 d os
  have q2 := q2 d os
  have q3 := q3 d os
  have q4 := q4 d os
  have q5 := q5 d os
  have q6 := q6 d os
  have q7 := q7 d os
  have q8 := q8 d os
  have q9 := q9 d os
  have q10 := q10 d os
  have q11 := q11 d os
  have q12 := q12 d os
  have q13 := q13 d os
  have q14 := q14 d os
  have q15 := q15 d os
  generalize grow (redrawn W d) os = V at *
  go_wp2_with (first | ((with_reducible refine inoHere ?_); refine wpList_loadB rfl 24 _ rfl g rfl HBV.out Try.underlying24 rfl infoI ?_) | (go_at_call 41; refine (h3.out _ HG.out).mono ?_; rintro e w' ⟨rfl, hg⟩) | (go_at_call 42; refine (h4.out _).mono ?_; rintro e w' ⟨rfl, hg⟩) | (go_at_call 43; refine (h5.out _).mono ?_; rintro e w' ⟨rfl, rfl⟩) | (go_at_call 25; refine (between_any _ _ _ _).mono ?_; rintro e w' ⟨rfl, rfl⟩))
  all_goals go_ret
  all_goals first | refine ⟨?_, HG.out⟩ | refine ⟨?_, grown_trans HG.out (by assumption)⟩
  all_goals rw [hr.out]
  all_goals simp [h6.out.1, h6.out.2, *]
set_option maxHeartbeats 4000000 in
theorem rest15_4 (n : Nd) (w : World) (hok : n.ok w) (hk : n.kd = 4) : Calls Try.prog 27 #[n.val] w fun e w' => e = .returned (.bool (rest15 n)) ∧ w.grownBy w' none := by
  have h1 := fun W => nofile_any n W
  have h2 := fun W => nofolder_any n W
  have h3 : Hid (∀ W, w.grownBy W none → Calls Try.prog 41 #[n.val] W fun e w' => e = .returned (.bool (file15 n)) ∧ W.grownBy w' none) := fun W g => file_any n W (hok.kept g)
  have h4 : Hid (∀ W, Calls Try.prog 42 #[n.val] W fun e w' => e = .returned (.bool (dir15 n)) ∧ W.grownBy w' none) := fun W => folder_any n W
  have h5 : Hid (∀ W, Calls Try.prog 43 #[.string n.tg] W fun e w' => e = .returned (.bool (link15 n)) ∧ W = w') := fun W => target_any n.tg W
  have hr : Hid (rest15 n = ((if n.kd == 1 then file15 n else nofile15 n) && (if n.kd == 2 then dir15 n else nodir15 n) && (if n.kd == 3 then link15 n else nolink15 n) && (if decide (3 < n.kd) then dev15 n else n.dv == 0))) := rfl
  have h6 : Hid (nolink15 n = (n.tg.toList == []) ∧ dev15 n = inn 0 4294967295 n.dv) := ⟨rfl, rfl⟩
  clear hok
  generalize nofile15 n = bnf at *
  generalize nodir15 n = bnd at *
  generalize file15 n = bfi at *
  generalize dir15 n = bdi at *
  generalize link15 n = bli at *
  generalize rest15 n = bre at *
  generalize nolink15 n = bnl at *
  generalize dev15 n = bdv at *
  obtain ⟨kd, md, ui, gi, tm, ln, at_, sz, st, wa, wl, wc, ws, fr, of_, tl, dr, by_, pr, tg, dv⟩ := n
  simp only at hk
  subst hk
  simp only [Nd.val] at *
  go_enter Try.func27, Try.ntmps27
  go_wp2_with fail
  have hB : Bx (w.alloc (.cells #[.int .i64 4, .int .i64 md, .int .i64 ui, .int .i64 gi, .int .i64 tm, .int .i64 ln, .int .i64 at_, .int .i64 sz, .int .i64 st, .slice wa wl wc, .int .i64 fr, .int .i64 of_, .int .i64 tl, .int .i64 dr, .int .i64 by_, .int .i64 pr, .string tg, .int .i64 dv] 24)) w.heap.size 24 [.int .i64 4, .int .i64 md, .int .i64 ui, .int .i64 gi, .int .i64 tm, .int .i64 ln, .int .i64 at_, .int .i64 sz, .int .i64 st, .slice wa wl wc, .int .i64 fr, .int .i64 of_, .int .i64 tl, .int .i64 dr, .int .i64 by_, .int .i64 pr, .string tg, .int .i64 dv] := Bx.new w _ _
  have hG : Hid (w.grownBy (w.alloc (.cells #[.int .i64 4, .int .i64 md, .int .i64 ui, .int .i64 gi, .int .i64 tm, .int .i64 ln, .int .i64 at_, .int .i64 sz, .int .i64 st, .slice wa wl wc, .int .i64 fr, .int .i64 of_, .int .i64 tl, .int .i64 dr, .int .i64 by_, .int .i64 pr, .string tg, .int .i64 dv] 24)) none) := World.grownBy_alloc _ _ _
  generalize w.alloc (.cells #[.int .i64 4, .int .i64 md, .int .i64 ui, .int .i64 gi, .int .i64 tm, .int .i64 ln, .int .i64 at_, .int .i64 sz, .int .i64 st, .slice wa wl wc, .int .i64 fr, .int .i64 of_, .int .i64 tl, .int .i64 dr, .int .i64 by_, .int .i64 pr, .string tg, .int .i64 dv] 24) = W at *
  generalize w.heap.size = g at *
  have q0 := fun d os => cell_regrown (hB.c 0) d os
  have q1 := fun d os => cell_regrown (hB.c 1) d os
  have q2 := fun d os => cell_regrown (hB.c 2) d os
  have q3 := fun d os => cell_regrown (hB.c 3) d os
  have q4 := fun d os => cell_regrown (hB.c 4) d os
  have q5 := fun d os => cell_regrown (hB.c 5) d os
  have q6 := fun d os => cell_regrown (hB.c 6) d os
  have q7 := fun d os => cell_regrown (hB.c 7) d os
  have q8 := fun d os => cell_regrown (hB.c 8) d os
  have q9 := fun d os => cell_regrown (hB.c 9) d os
  have q10 := fun d os => cell_regrown (hB.c 10) d os
  have q11 := fun d os => cell_regrown (hB.c 11) d os
  have q12 := fun d os => cell_regrown (hB.c 12) d os
  have q13 := fun d os => cell_regrown (hB.c 13) d os
  have q14 := fun d os => cell_regrown (hB.c 14) d os
  have q15 := fun d os => cell_regrown (hB.c 15) d os
  have q16 := fun d os => cell_regrown (hB.c 16) d os
  have q17 := fun d os => cell_regrown (hB.c 17) d os
  have k1 := met_of (w := W) (fun W' _ => h1 W')
  have k2 := met_of (w := W) (fun W' _ => h2 W')
  have hBB : Hid (∀ w', (∃ p : Regrown, w' = grow (redrawn W p.d) p.os) → w'.heap[g]? = some (.cells #[.int .i64 4, .int .i64 md, .int .i64 ui, .int .i64 gi, .int .i64 tm, .int .i64 ln, .int .i64 at_, .int .i64 sz, .int .i64 st, .slice wa wl wc, .int .i64 fr, .int .i64 of_, .int .i64 tl, .int .i64 dr, .int .i64 by_, .int .i64 pr, .string tg, .int .i64 dv] 24 (0, 0))) := fun w' ⟨p, e⟩ => by rw [e, (below_regrown W p.d p.os).block g hB.lt]; exact hB.blk
  clear h1 h2 hB
  refine wp_region_quiet_below (by kernel_rfl) (by kernel_rfl) ?_
  refine wpQuiet_load rfl 24 _ rfl g rfl 24 _ _ (fun w' h => hBB.out w' h) Try.underlying24 rfl infoI ?_
  simp only [Act.put, List.setIfInBounds_toArray, List.set_cons_zero, List.set_cons_succ]
  quiet_step (exact k1 _ _)
  refine wpQuiet_load rfl 24 _ rfl g rfl 24 _ _ (fun w' h => hBB.out w' h) Try.underlying24 rfl infoI ?_
  simp only [Act.put, List.setIfInBounds_toArray, List.set_cons_zero, List.set_cons_succ]
  quiet_step (exact k2 _ _)
  repeat (quiet_step (fail))
  refine wpQuiet_nil ?_
  intro _ hw1
  obtain ⟨⟨d, os⟩, hw2⟩ := hw1
  subst hw2
  have HG : Hid (w.grownBy (grow (redrawn W d) os) none) := grown_trans hG.out (below_grown (below_regrown W d os))
  have HBV : Hid (Bx (grow (redrawn W d) os) g 24 [.int .i64 4, .int .i64 md, .int .i64 ui, .int .i64 gi, .int .i64 tm, .int .i64 ln, .int .i64 at_, .int .i64 sz, .int .i64 st, .slice wa wl wc, .int .i64 fr, .int .i64 of_, .int .i64 tl, .int .i64 dr, .int .i64 by_, .int .i64 pr, .string tg, .int .i64 dv]) := ⟨hBB.out _ ⟨⟨d, os⟩, rfl⟩⟩
  clear k1 k2 hG hBB
  have q0 := q0 d os
  have q16 := q16 d os
  have q17 := q17 d os
  have q1 := q1 d os
  have q2 := q2 d os
  have q3 := q3 d os
  have q4 := q4 d os
  have q5 := q5 d os
  have q6 := q6 d os
  have q7 := q7 d os
  have q8 := q8 d os
  have q9 := q9 d os
  have q10 := q10 d os
  have q11 := q11 d os
  have q12 := q12 d os
  have q13 := q13 d os
  have q14 := q14 d os
  have q15 := q15 d os
  generalize grow (redrawn W d) os = V at *
  go_wp2_with (first | ((with_reducible refine inoHere ?_); refine wpList_loadB rfl 24 _ rfl g rfl HBV.out Try.underlying24 rfl infoI ?_) | (go_at_call 41; refine (h3.out _ HG.out).mono ?_; rintro e w' ⟨rfl, hg⟩) | (go_at_call 42; refine (h4.out _).mono ?_; rintro e w' ⟨rfl, hg⟩) | (go_at_call 43; refine (h5.out _).mono ?_; rintro e w' ⟨rfl, rfl⟩) | (go_at_call 25; refine (between_any _ _ _ _).mono ?_; rintro e w' ⟨rfl, rfl⟩))
  all_goals go_ret
  all_goals first | refine ⟨?_, HG.out⟩ | refine ⟨?_, grown_trans HG.out (by assumption)⟩
  all_goals rw [hr.out]
  all_goals simp [h6.out.1, h6.out.2, *]
set_option maxHeartbeats 4000000 in
theorem rest15_5 (n : Nd) (w : World) (hok : n.ok w) (hk : n.kd = 5) : Calls Try.prog 27 #[n.val] w fun e w' => e = .returned (.bool (rest15 n)) ∧ w.grownBy w' none := by
  have h1 := fun W => nofile_any n W
  have h2 := fun W => nofolder_any n W
  have h3 : Hid (∀ W, w.grownBy W none → Calls Try.prog 41 #[n.val] W fun e w' => e = .returned (.bool (file15 n)) ∧ W.grownBy w' none) := fun W g => file_any n W (hok.kept g)
  have h4 : Hid (∀ W, Calls Try.prog 42 #[n.val] W fun e w' => e = .returned (.bool (dir15 n)) ∧ W.grownBy w' none) := fun W => folder_any n W
  have h5 : Hid (∀ W, Calls Try.prog 43 #[.string n.tg] W fun e w' => e = .returned (.bool (link15 n)) ∧ W = w') := fun W => target_any n.tg W
  have hr : Hid (rest15 n = ((if n.kd == 1 then file15 n else nofile15 n) && (if n.kd == 2 then dir15 n else nodir15 n) && (if n.kd == 3 then link15 n else nolink15 n) && (if decide (3 < n.kd) then dev15 n else n.dv == 0))) := rfl
  have h6 : Hid (nolink15 n = (n.tg.toList == []) ∧ dev15 n = inn 0 4294967295 n.dv) := ⟨rfl, rfl⟩
  clear hok
  generalize nofile15 n = bnf at *
  generalize nodir15 n = bnd at *
  generalize file15 n = bfi at *
  generalize dir15 n = bdi at *
  generalize link15 n = bli at *
  generalize rest15 n = bre at *
  generalize nolink15 n = bnl at *
  generalize dev15 n = bdv at *
  obtain ⟨kd, md, ui, gi, tm, ln, at_, sz, st, wa, wl, wc, ws, fr, of_, tl, dr, by_, pr, tg, dv⟩ := n
  simp only at hk
  subst hk
  simp only [Nd.val] at *
  go_enter Try.func27, Try.ntmps27
  go_wp2_with fail
  have hB : Bx (w.alloc (.cells #[.int .i64 5, .int .i64 md, .int .i64 ui, .int .i64 gi, .int .i64 tm, .int .i64 ln, .int .i64 at_, .int .i64 sz, .int .i64 st, .slice wa wl wc, .int .i64 fr, .int .i64 of_, .int .i64 tl, .int .i64 dr, .int .i64 by_, .int .i64 pr, .string tg, .int .i64 dv] 24)) w.heap.size 24 [.int .i64 5, .int .i64 md, .int .i64 ui, .int .i64 gi, .int .i64 tm, .int .i64 ln, .int .i64 at_, .int .i64 sz, .int .i64 st, .slice wa wl wc, .int .i64 fr, .int .i64 of_, .int .i64 tl, .int .i64 dr, .int .i64 by_, .int .i64 pr, .string tg, .int .i64 dv] := Bx.new w _ _
  have hG : Hid (w.grownBy (w.alloc (.cells #[.int .i64 5, .int .i64 md, .int .i64 ui, .int .i64 gi, .int .i64 tm, .int .i64 ln, .int .i64 at_, .int .i64 sz, .int .i64 st, .slice wa wl wc, .int .i64 fr, .int .i64 of_, .int .i64 tl, .int .i64 dr, .int .i64 by_, .int .i64 pr, .string tg, .int .i64 dv] 24)) none) := World.grownBy_alloc _ _ _
  generalize w.alloc (.cells #[.int .i64 5, .int .i64 md, .int .i64 ui, .int .i64 gi, .int .i64 tm, .int .i64 ln, .int .i64 at_, .int .i64 sz, .int .i64 st, .slice wa wl wc, .int .i64 fr, .int .i64 of_, .int .i64 tl, .int .i64 dr, .int .i64 by_, .int .i64 pr, .string tg, .int .i64 dv] 24) = W at *
  generalize w.heap.size = g at *
  have q0 := fun d os => cell_regrown (hB.c 0) d os
  have q1 := fun d os => cell_regrown (hB.c 1) d os
  have q2 := fun d os => cell_regrown (hB.c 2) d os
  have q3 := fun d os => cell_regrown (hB.c 3) d os
  have q4 := fun d os => cell_regrown (hB.c 4) d os
  have q5 := fun d os => cell_regrown (hB.c 5) d os
  have q6 := fun d os => cell_regrown (hB.c 6) d os
  have q7 := fun d os => cell_regrown (hB.c 7) d os
  have q8 := fun d os => cell_regrown (hB.c 8) d os
  have q9 := fun d os => cell_regrown (hB.c 9) d os
  have q10 := fun d os => cell_regrown (hB.c 10) d os
  have q11 := fun d os => cell_regrown (hB.c 11) d os
  have q12 := fun d os => cell_regrown (hB.c 12) d os
  have q13 := fun d os => cell_regrown (hB.c 13) d os
  have q14 := fun d os => cell_regrown (hB.c 14) d os
  have q15 := fun d os => cell_regrown (hB.c 15) d os
  have q16 := fun d os => cell_regrown (hB.c 16) d os
  have q17 := fun d os => cell_regrown (hB.c 17) d os
  have k1 := met_of (w := W) (fun W' _ => h1 W')
  have k2 := met_of (w := W) (fun W' _ => h2 W')
  have hBB : Hid (∀ w', (∃ p : Regrown, w' = grow (redrawn W p.d) p.os) → w'.heap[g]? = some (.cells #[.int .i64 5, .int .i64 md, .int .i64 ui, .int .i64 gi, .int .i64 tm, .int .i64 ln, .int .i64 at_, .int .i64 sz, .int .i64 st, .slice wa wl wc, .int .i64 fr, .int .i64 of_, .int .i64 tl, .int .i64 dr, .int .i64 by_, .int .i64 pr, .string tg, .int .i64 dv] 24 (0, 0))) := fun w' ⟨p, e⟩ => by rw [e, (below_regrown W p.d p.os).block g hB.lt]; exact hB.blk
  clear h1 h2 hB
  refine wp_region_quiet_below (by kernel_rfl) (by kernel_rfl) ?_
  refine wpQuiet_load rfl 24 _ rfl g rfl 24 _ _ (fun w' h => hBB.out w' h) Try.underlying24 rfl infoI ?_
  simp only [Act.put, List.setIfInBounds_toArray, List.set_cons_zero, List.set_cons_succ]
  quiet_step (exact k1 _ _)
  refine wpQuiet_load rfl 24 _ rfl g rfl 24 _ _ (fun w' h => hBB.out w' h) Try.underlying24 rfl infoI ?_
  simp only [Act.put, List.setIfInBounds_toArray, List.set_cons_zero, List.set_cons_succ]
  quiet_step (exact k2 _ _)
  repeat (quiet_step (fail))
  refine wpQuiet_nil ?_
  intro _ hw1
  obtain ⟨⟨d, os⟩, hw2⟩ := hw1
  subst hw2
  have HG : Hid (w.grownBy (grow (redrawn W d) os) none) := grown_trans hG.out (below_grown (below_regrown W d os))
  have HBV : Hid (Bx (grow (redrawn W d) os) g 24 [.int .i64 5, .int .i64 md, .int .i64 ui, .int .i64 gi, .int .i64 tm, .int .i64 ln, .int .i64 at_, .int .i64 sz, .int .i64 st, .slice wa wl wc, .int .i64 fr, .int .i64 of_, .int .i64 tl, .int .i64 dr, .int .i64 by_, .int .i64 pr, .string tg, .int .i64 dv]) := ⟨hBB.out _ ⟨⟨d, os⟩, rfl⟩⟩
  clear k1 k2 hG hBB
  have q0 := q0 d os
  have q16 := q16 d os
  have q17 := q17 d os
  have q1 := q1 d os
  have q2 := q2 d os
  have q3 := q3 d os
  have q4 := q4 d os
  have q5 := q5 d os
  have q6 := q6 d os
  have q7 := q7 d os
  have q8 := q8 d os
  have q9 := q9 d os
  have q10 := q10 d os
  have q11 := q11 d os
  have q12 := q12 d os
  have q13 := q13 d os
  have q14 := q14 d os
  have q15 := q15 d os
  generalize grow (redrawn W d) os = V at *
  go_wp2_with (first | ((with_reducible refine inoHere ?_); refine wpList_loadB rfl 24 _ rfl g rfl HBV.out Try.underlying24 rfl infoI ?_) | (go_at_call 41; refine (h3.out _ HG.out).mono ?_; rintro e w' ⟨rfl, hg⟩) | (go_at_call 42; refine (h4.out _).mono ?_; rintro e w' ⟨rfl, hg⟩) | (go_at_call 43; refine (h5.out _).mono ?_; rintro e w' ⟨rfl, rfl⟩) | (go_at_call 25; refine (between_any _ _ _ _).mono ?_; rintro e w' ⟨rfl, rfl⟩))
  all_goals go_ret
  all_goals first | refine ⟨?_, HG.out⟩ | refine ⟨?_, grown_trans HG.out (by assumption)⟩
  all_goals rw [hr.out]
  all_goals simp [h6.out.1, h6.out.2, *]
theorem wpList_loadG {P : Program} {ops : Array Oper} {rest : List Oper} {o : Oper} {a : Act} {w : World} {Q : Exit → Act → World → Prop} (hgd : Region.wanted o (yielded ops a.tmps) = true) (ty : TypeId) (x : Operand) (ho : o.op = .load ty x)
    (g : Nat) (hx : a.eval x = .pointer (some ⟨g, 0, none⟩)) {T : TypeId} {cs : List Value} (hb : Bx w g T cs) {d : TypeDesc} (hu : P.underlying ty = some d) (hd : (match d with | .struct _ | .array _ _ => true | _ => false) = true) (hi : (P.info? ty).map (·.size) = some cs.toArray.size)
    (h : wpList P ops Q rest (a.put o.dst (.agg cs.toArray)) w) : wpList P ops Q (o :: rest) a w :=
  wpList_step fun K hK => by rw [if_pos hgd]; exact wp_load_row ty x ho g hx T cs.toArray (0, 0) d hb.blk hu hd hi (hK _ _ h)
theorem rest15_any (n : Nd) (w : World) (hok : n.ok w) (hk : inn 1 5 n.kd = true) : Calls Try.prog 27 #[n.val] w fun e w' => e = .returned (.bool (rest15 n)) ∧ w.grownBy w' none := by
  have h' := inn_iff.1 hk
  rcases (by omega : n.kd = 1 ∨ n.kd = 2 ∨ n.kd = 3 ∨ n.kd = 4 ∨ n.kd = 5) with e | e | e | e | e
  · exact rest15_1 n w hok e
  · exact rest15_2 n w hok e
  · exact rest15_3 n w hok e
  · exact rest15_4 n w hok e
  · exact rest15_5 n w hok e
set_option maxHeartbeats 4000000 in
theorem pcheck15_any (n : Nd) (w : World) (hok : n.ok w) : Calls Try.prog 11 #[n.val] w fun e w' => e = .returned (.int .i64 (chk15 n)) ∧ w.grownBy w' none := by
  have h1 := fun W => head_any n W
  have h2 : Hid (∀ W, w.grownBy W none → inn 1 5 n.kd = true → Calls Try.prog 27 #[n.val] W fun e w' => e = .returned (.bool (rest15 n)) ∧ W.grownBy w' none) := fun W g h => rest15_any n W (hok.kept g) h
  have HC : Hid (chk15 n = if inn 1 5 n.kd then (if hd15 n && rest15 n then 0 else 1) else 8) := rfl
  generalize chk15 n = C at *
  generalize hd15 n = bhd at *
  generalize rest15 n = bre at *
  clear hok
  obtain ⟨kd, md, ui, gi, tm, ln, at_, sz, st, wa, wl, wc, ws, fr, of_, tl, dr, by_, pr, tg, dv⟩ := n
  simp only [Nd.val] at *
  have HB : Hid (Bx (w.alloc (.cells #[.int .i64 kd, .int .i64 md, .int .i64 ui, .int .i64 gi, .int .i64 tm, .int .i64 ln, .int .i64 at_, .int .i64 sz, .int .i64 st, .slice wa wl wc, .int .i64 fr, .int .i64 of_, .int .i64 tl, .int .i64 dr, .int .i64 by_, .int .i64 pr, .string tg, .int .i64 dv] 24)) w.heap.size 24 [.int .i64 kd, .int .i64 md, .int .i64 ui, .int .i64 gi, .int .i64 tm, .int .i64 ln, .int .i64 at_, .int .i64 sz, .int .i64 st, .slice wa wl wc, .int .i64 fr, .int .i64 of_, .int .i64 tl, .int .i64 dr, .int .i64 by_, .int .i64 pr, .string tg, .int .i64 dv]) := Bx.new w _ _
  cases hin : inn 1 5 kd <;> cases bhd
  all_goals
   go_enter Try.func11, Try.ntmps11
   go_wp2_with (first | (go_at_call 25; refine (between_any _ _ _ _).mono ?_; rintro e w' ⟨rfl, rfl⟩) | (go_at_call 26; refine (h1 _).mono ?_; rintro e w' ⟨rfl, hg⟩; have HB2 : Hid _ := HB.out.kept hg; have HG2 : Hid _ := grown_trans (World.grownBy_alloc w (.cells #[.int .i64 kd, .int .i64 md, .int .i64 ui, .int .i64 gi, .int .i64 tm, .int .i64 ln, .int .i64 at_, .int .i64 sz, .int .i64 st, .slice wa wl wc, .int .i64 fr, .int .i64 of_, .int .i64 tl, .int .i64 dr, .int .i64 by_, .int .i64 pr, .string tg, .int .i64 dv] 24) none) hg; clear hg) | (go_at_call 27; refine (h2.out _ HG2.out hin).mono ?_; rintro e w' ⟨rfl, hg⟩; have HG3 : Hid _ := grown_trans HG2.out hg; clear hg) | ((with_reducible refine inoHere ?_); first | refine wpList_loadG (by first | rfl | fail) 24 _ rfl w.heap.size rfl HB2.out Try.underlying24 rfl infoI ?_ | refine wpList_loadB rfl 24 _ rfl w.heap.size rfl HB.out Try.underlying24 rfl infoI ?_))
   all_goals go_ret
   all_goals first | refine ⟨?_, World.grownBy_alloc _ _ _⟩ | refine ⟨?_, HG3.out⟩ | refine ⟨?_, HG2.out⟩
   all_goals rw [HC.out]
   all_goals (try simp only [Bool.not_eq_true', Bool.not_eq_false'] at *)
   all_goals simp [*]
end Go.Proofs.Ytiafbnpbbjkdbaa
