/- The program's Same: two nodes. -/
import Derived.Test.YtlehncfehoelbaaGreatDoorB14
import Derived.Test.YtlehncfehoelbaaGreatDoorB26
namespace Go.Proofs.YtlehncfehoelbaaGreatDoor
open Go.RowKit
set_option maxRecDepth 100000
set_option linter.unusedSimpArgs false
set_option linter.unusedVariables false
/-- what an operation that only hands on yields; what is passed over -/
def sim2 (ops : Array Oper) (o : Oper) (a : Act) : Option Act :=
 if Region.wanted o (yielded ops a.tmps) = true then
  match o.op with
  | .move x => some (a.put o.dst (a.eval x))
  | .assign x => some (a.put o.dst (a.eval x))
  | .pick c x y => match a.eval c with
   | .bool b => some (a.put o.dst (if b = true then a.eval x else a.eval y))
   | _ => none
  | _ => none
 else some (a.put o.dst undef)
def simM (ops : Array Oper) : List Oper → Act → Option Act
 | [], a => some a
 | o :: r, a => (sim2 ops o a).bind (simM ops r)
theorem wpL_simA {P : Program} {ops : Array Oper} {Q : Exit → Act → World → Prop} {w : World} : ∀ (rest : List Oper) (a a' : Act), simM ops rest a = some a' → Q .normal a' w → wpList P ops Q rest a w
 | [], a, a', h, k => by
  simp only [simM, Option.some.injEq] at h
  rw [h]
  exact k
 | o :: r, a, a', h, k => by
  rw [simM] at h
  cases hs : sim2 ops o a with
  | none => rw [hs] at h; cases h
  | some b =>
   rw [hs, Option.bind_some] at h
   have ih := wpL_simA (P := P) r b a' h k
   unfold sim2 at hs
   by_cases hw : Region.wanted o (yielded ops a.tmps) = true
   ·rw [if_pos hw] at hs
    split at hs
    ·rename_i x ho
     injection hs with hs
     refine wpL_take (a.eval x) hw ?_ (by rw [hs]; exact ih)
     simp [execOp, ho, Sem.run_pure]
    ·rename_i x ho
     injection hs with hs
     refine wpL_take (a.eval x) hw ?_ (by rw [hs]; exact ih)
     simp [execOp, ho, Sem.run_pure]
    ·rename_i c x y ho
     split at hs
     ·rename_i b' hb
      injection hs with hs
      refine wpL_take (if b' = true then a.eval x else a.eval y) hw ?_ (by rw [hs]; exact ih)
      simp [execOp, ho, hb, asBool, Sem.run_bind, Sem.run_pure, Result.andThen]
     ·cases hs
    ·cases hs
   ·rw [if_neg hw] at hs
    injection hs with hs
    refine wpL_skip (by simpa using hw) (by rw [hs]; exact ih)
theorem no_nf {x y : No} (h : x ≠ y) : sameNo x y = false := by
 rw [Bool.eq_false_iff]
 exact fun e => h ((sameNo_eq _ _).1 e)
set_option maxRecDepth 100000 in
set_option maxHeartbeats 40000000 in
theorem psnode_any (X Y : NoV) (w : World) (R : X.ok w) (R2 : Y.ok w) :
  Calls Tryz.prog 35 #[X.val, Y.val] w fun e w' => e = .returned (.bool (sameNo X.no Y.no)) ∧ w.grownBy w' none := by
 obtain ⟨xk, xm, xu, xg, xi, xz, xda, xdl, xdc, xd, xt, xv, xaa, xal, xac, xat, xka, xkl, xkc, xki, xp, xl⟩ := X
 obtain ⟨yk, ym, yu, yg, yi, yz, yda, ydl, ydc, yd, yt, yv, yaa, yal, yac, yat, yka, ykl, ykc, yki, yp, yl⟩ := Y
 simp only [NoV.val]
 have HO0 : Hid _ := And.intro R R2
 clear R R2
 generalize HSS : sameNo (NoV.no ⟨xk, xm, xu, xg, xi, xz, xda, xdl, xdc, xd, xt, xv, xaa, xal, xac, xat, xka, xkl, xkc, xki, xp, xl⟩) (NoV.no ⟨yk, ym, yu, yg, yi, yz, yda, ydl, ydc, yd, yt, yv, yaa, yal, yac, yat, yka, ykl, ykc, yki, yp, yl⟩) = SS
 have HS : Hid _ := HSS
 clear HSS
 have hX : Bx ((w.alloc (.cells #[.int .i64 xk, .int .i64 xm, .int .i64 xu, .int .i64 xg, .int .i64 xi, .int .i64 xz, .slice xda xdl xdc, .string xt, .int .i64 xv, .slice xaa xal xac, .slice xka xkl xkc, .int .i64 xp, .int .i64 xl] 43)).alloc (.cells #[.int .i64 yk, .int .i64 ym, .int .i64 yu, .int .i64 yg, .int .i64 yi, .int .i64 yz, .slice yda ydl ydc, .string yt, .int .i64 yv, .slice yaa yal yac, .slice yka ykl ykc, .int .i64 yp, .int .i64 yl] 43)) w.heap.size 43 [.int .i64 xk, .int .i64 xm, .int .i64 xu, .int .i64 xg, .int .i64 xi, .int .i64 xz, .slice xda xdl xdc, .string xt, .int .i64 xv, .slice xaa xal xac, .slice xka xkl xkc, .int .i64 xp, .int .i64 xl] := (Bx.new w _ _).kept (World.grownBy_alloc _ _ none)
 have hY : Bx ((w.alloc (.cells #[.int .i64 xk, .int .i64 xm, .int .i64 xu, .int .i64 xg, .int .i64 xi, .int .i64 xz, .slice xda xdl xdc, .string xt, .int .i64 xv, .slice xaa xal xac, .slice xka xkl xkc, .int .i64 xp, .int .i64 xl] 43)).alloc (.cells #[.int .i64 yk, .int .i64 ym, .int .i64 yu, .int .i64 yg, .int .i64 yi, .int .i64 yz, .slice yda ydl ydc, .string yt, .int .i64 yv, .slice yaa yal yac, .slice yka ykl ykc, .int .i64 yp, .int .i64 yl] 43)) (w.heap.size + 1) 43 [.int .i64 yk, .int .i64 ym, .int .i64 yu, .int .i64 yg, .int .i64 yi, .int .i64 yz, .slice yda ydl ydc, .string yt, .int .i64 yv, .slice yaa yal yac, .slice yka ykl ykc, .int .i64 yp, .int .i64 yl] := by
  have := Bx.new (w.alloc (.cells #[.int .i64 xk, .int .i64 xm, .int .i64 xu, .int .i64 xg, .int .i64 xi, .int .i64 xz, .slice xda xdl xdc, .string xt, .int .i64 xv, .slice xaa xal xac, .slice xka xkl xkc, .int .i64 xp, .int .i64 xl] 43)) 43 [.int .i64 yk, .int .i64 ym, .int .i64 yu, .int .i64 yg, .int .i64 yi, .int .i64 yz, .slice yda ydl ydc, .string yt, .int .i64 yv, .slice yaa yal yac, .slice yka ykl ykc, .int .i64 yp, .int .i64 yl]
  simpa using this
 have HG2 : Hid (w.grownBy ((w.alloc (.cells #[.int .i64 xk, .int .i64 xm, .int .i64 xu, .int .i64 xg, .int .i64 xi, .int .i64 xz, .slice xda xdl xdc, .string xt, .int .i64 xv, .slice xaa xal xac, .slice xka xkl xkc, .int .i64 xp, .int .i64 xl] 43)).alloc (.cells #[.int .i64 yk, .int .i64 ym, .int .i64 yu, .int .i64 yg, .int .i64 yi, .int .i64 yz, .slice yda ydl ydc, .string yt, .int .i64 yv, .slice yaa yal yac, .slice yka ykl ykc, .int .i64 yp, .int .i64 yl] 43)) none) := grown_trans (World.grownBy_alloc _ _ none) (World.grownBy_alloc _ _ none)
 have HB : Hid _ := And.intro hX hY
 clear hX hY
 go_enter Tryz.func35, Tryz.ntmps35
 refine wp_seq_k (fun K2 hK2 => ?_)
 have HK2 : Hid _ := hK2
 clear hK2
 go_wp2_with fail
 refine HK2.out _ _ ?_
 clear HK2 K2
 refine wp_seq_k (fun K5 hK5 => ?_)
 refine wp_region_lit ?_
 have HK5 : Hid _ := hK5
 clear hK5
 generalize (w.alloc (.cells #[.int .i64 xk, .int .i64 xm, .int .i64 xu, .int .i64 xg, .int .i64 xi, .int .i64 xz, .slice xda xdl xdc, .string xt, .int .i64 xv, .slice xaa xal xac, .slice xka xkl xkc, .int .i64 xp, .int .i64 xl] 43)).alloc (.cells #[.int .i64 yk, .int .i64 ym, .int .i64 yu, .int .i64 yg, .int .i64 yi, .int .i64 yz, .slice yda ydl ydc, .string yt, .int .i64 yv, .slice yaa yal yac, .slice yka ykl ykc, .int .i64 yp, .int .i64 yl] 43) = WE at *
 generalize w.heap.size = q at *
 obtain ⟨X0, X1, X2, X3, X4, X5, X6, X7, X8, X9, X10, X11, X12⟩ := bx13 HB.out.1
 obtain ⟨Y0, Y1, Y2, Y3, Y4, Y5, Y6, Y7, Y8, Y9, Y10, Y11, Y12⟩ := bx13 HB.out.2
 have HO : Hid _ := And.intro (HO0.out.1.grown HG2.out) (HO0.out.2.grown HG2.out)
 clear HO0
 refine wpL_take (.pointer (some ⟨q, 0, none⟩)) (by rfl) (by go_simp) ?_
 simp only [Act.put, pu]
 refine wpL_take (.int .i64 xk) (by rfl) (by go_simp) ?_
 simp only [Act.put, pu]
 refine wpL_take (.pointer (some ⟨q + 1, 0, none⟩)) (by rfl) (by go_simp) ?_
 simp only [Act.put, pu]
 refine wpL_take (.int .i64 yk) (by rfl) (by go_simp) ?_
 simp only [Act.put, pu]
 by_cases e0 : xk = yk
 rotate_left
 ·have eb : (xk == yk) = false := by simpa using e0
  have HV : Hid (SS = false) := by
   show SS = false
   rw [← HS.out]
   exact no_nf (fun h => e0 (congrArg No.k h))
  refine wpL_take (.bool false) (by rfl) (by go_simp; try first | exact e0 | simp [eb]) ?_
  simp only [Act.put, pu]
  clear e0
  refine wpL_simA _ _ { tmps := #[.agg #[.int .i64 xk, .int .i64 xm, .int .i64 xu, .int .i64 xg, .int .i64 xi, .int .i64 xz, .slice xda xdl xdc, .string xt, .int .i64 xv, .slice xaa xal xac, .slice xka xkl xkc, .int .i64 xp, .int .i64 xl], .agg #[.int .i64 yk, .int .i64 ym, .int .i64 yu, .int .i64 yg, .int .i64 yi, .int .i64 yz, .slice yda ydl ydc, .string yt, .int .i64 yv, .slice yaa yal yac, .slice yka ykl ykc, .int .i64 yp, .int .i64 yl], .pointer (some ⟨q, 0, none⟩), .pointer (some ⟨q + 1, 0, none⟩), .bool false, .pointer (some ⟨q, 0, none⟩), .int .i64 xk, .pointer (some ⟨q + 1, 0, none⟩), .int .i64 yk, .bool false, .bool false, undef, undef, undef, undef, undef, .bool false, .bool false, undef, undef, undef, undef, undef, .bool false, .bool false, undef, undef, undef, undef, undef, .bool false, .bool false, undef, undef, undef, undef, undef, .bool false, .bool false, undef, undef, undef, undef, undef, .bool false, .bool false, undef, undef, undef, undef, undef, .bool false, .bool false, undef, undef, undef, undef, undef, .bool false, .bool false, undef, undef, undef, undef, undef, .bool false, .bool false, undef, undef, undef, undef, undef, .bool false, .bool false, undef, undef, undef, undef, undef, .bool false, .bool false, undef, undef, undef, undef, undef, .bool false, .bool false, undef, undef, undef, undef, undef, .bool false], defers := [] } (by kernel_rfl) ?_
  refine HK5.out _ _ ?_
  clear HK5
  go_wp2_with fail
  go_ret
  exact ⟨by rw [HV.out]; rfl, HG2.out⟩
 have eb0 : (xk == yk) = true := by simpa using e0
 refine wpL_take (.bool true) (by rfl) (by go_simp; try first | exact e0 | simp [eb0]) ?_
 simp only [Act.put, pu]
 refine wpL_take (.bool true) (by rfl) (by go_simp) ?_
 simp only [Act.put, pu]
 clear eb0
 have HQ0 : Hid _ := e0
 clear e0
 refine wpL_take (.pointer (some ⟨q, 1, none⟩)) (by rfl) (by go_simp) ?_
 simp only [Act.put, pu]
 refine wpL_take (.int .i64 xm) (by rfl) (by go_simp) ?_
 simp only [Act.put, pu]
 refine wpL_take (.pointer (some ⟨q + 1, 1, none⟩)) (by rfl) (by go_simp) ?_
 simp only [Act.put, pu]
 refine wpL_take (.int .i64 ym) (by rfl) (by go_simp) ?_
 simp only [Act.put, pu]
 by_cases e1 : xm = ym
 rotate_left
 ·have eb : (xm == ym) = false := by simpa using e1
  have HV : Hid (SS = false) := by
   show SS = false
   rw [← HS.out]
   exact no_nf (fun h => e1 (congrArg No.mode h))
  refine wpL_take (.bool false) (by rfl) (by go_simp; try first | exact e1 | simp [eb]) ?_
  simp only [Act.put, pu]
  clear e1
  refine wpL_simA _ _ { tmps := #[.agg #[.int .i64 xk, .int .i64 xm, .int .i64 xu, .int .i64 xg, .int .i64 xi, .int .i64 xz, .slice xda xdl xdc, .string xt, .int .i64 xv, .slice xaa xal xac, .slice xka xkl xkc, .int .i64 xp, .int .i64 xl], .agg #[.int .i64 yk, .int .i64 ym, .int .i64 yu, .int .i64 yg, .int .i64 yi, .int .i64 yz, .slice yda ydl ydc, .string yt, .int .i64 yv, .slice yaa yal yac, .slice yka ykl ykc, .int .i64 yp, .int .i64 yl], .pointer (some ⟨q, 0, none⟩), .pointer (some ⟨q + 1, 0, none⟩), .bool false, .pointer (some ⟨q, 0, none⟩), .int .i64 xk, .pointer (some ⟨q + 1, 0, none⟩), .int .i64 yk, .bool true, .bool true, .pointer (some ⟨q, 1, none⟩), .int .i64 xm, .pointer (some ⟨q + 1, 1, none⟩), .int .i64 ym, .bool false, .bool false, .bool false, undef, undef, undef, undef, undef, .bool false, .bool false, undef, undef, undef, undef, undef, .bool false, .bool false, undef, undef, undef, undef, undef, .bool false, .bool false, undef, undef, undef, undef, undef, .bool false, .bool false, undef, undef, undef, undef, undef, .bool false, .bool false, undef, undef, undef, undef, undef, .bool false, .bool false, undef, undef, undef, undef, undef, .bool false, .bool false, undef, undef, undef, undef, undef, .bool false, .bool false, undef, undef, undef, undef, undef, .bool false, .bool false, undef, undef, undef, undef, undef, .bool false, .bool false, undef, undef, undef, undef, undef, .bool false], defers := [] } (by kernel_rfl) ?_
  refine HK5.out _ _ ?_
  clear HK5
  go_wp2_with fail
  go_ret
  exact ⟨by rw [HV.out]; rfl, HG2.out⟩
 have eb1 : (xm == ym) = true := by simpa using e1
 refine wpL_take (.bool true) (by rfl) (by go_simp; try first | exact e1 | simp [eb1]) ?_
 simp only [Act.put, pu]
 refine wpL_take (.bool true) (by rfl) (by go_simp) ?_
 simp only [Act.put, pu]
 refine wpL_take (.bool true) (by rfl) (by go_simp) ?_
 simp only [Act.put, pu]
 clear eb1
 have HQ1 : Hid _ := e1
 clear e1
 refine wpL_take (.pointer (some ⟨q, 2, none⟩)) (by rfl) (by go_simp) ?_
 simp only [Act.put, pu]
 refine wpL_take (.int .i64 xu) (by rfl) (by go_simp) ?_
 simp only [Act.put, pu]
 refine wpL_take (.pointer (some ⟨q + 1, 2, none⟩)) (by rfl) (by go_simp) ?_
 simp only [Act.put, pu]
 refine wpL_take (.int .i64 yu) (by rfl) (by go_simp) ?_
 simp only [Act.put, pu]
 by_cases e2 : xu = yu
 rotate_left
 ·have eb : (xu == yu) = false := by simpa using e2
  have HV : Hid (SS = false) := by
   show SS = false
   rw [← HS.out]
   exact no_nf (fun h => e2 (congrArg No.uid h))
  refine wpL_take (.bool false) (by rfl) (by go_simp; try first | exact e2 | simp [eb]) ?_
  simp only [Act.put, pu]
  clear e2
  refine wpL_simA _ _ { tmps := #[.agg #[.int .i64 xk, .int .i64 xm, .int .i64 xu, .int .i64 xg, .int .i64 xi, .int .i64 xz, .slice xda xdl xdc, .string xt, .int .i64 xv, .slice xaa xal xac, .slice xka xkl xkc, .int .i64 xp, .int .i64 xl], .agg #[.int .i64 yk, .int .i64 ym, .int .i64 yu, .int .i64 yg, .int .i64 yi, .int .i64 yz, .slice yda ydl ydc, .string yt, .int .i64 yv, .slice yaa yal yac, .slice yka ykl ykc, .int .i64 yp, .int .i64 yl], .pointer (some ⟨q, 0, none⟩), .pointer (some ⟨q + 1, 0, none⟩), .bool false, .pointer (some ⟨q, 0, none⟩), .int .i64 xk, .pointer (some ⟨q + 1, 0, none⟩), .int .i64 yk, .bool true, .bool true, .pointer (some ⟨q, 1, none⟩), .int .i64 xm, .pointer (some ⟨q + 1, 1, none⟩), .int .i64 ym, .bool true, .bool true, .bool true, .pointer (some ⟨q, 2, none⟩), .int .i64 xu, .pointer (some ⟨q + 1, 2, none⟩), .int .i64 yu, .bool false, .bool false, .bool false, undef, undef, undef, undef, undef, .bool false, .bool false, undef, undef, undef, undef, undef, .bool false, .bool false, undef, undef, undef, undef, undef, .bool false, .bool false, undef, undef, undef, undef, undef, .bool false, .bool false, undef, undef, undef, undef, undef, .bool false, .bool false, undef, undef, undef, undef, undef, .bool false, .bool false, undef, undef, undef, undef, undef, .bool false, .bool false, undef, undef, undef, undef, undef, .bool false, .bool false, undef, undef, undef, undef, undef, .bool false, .bool false, undef, undef, undef, undef, undef, .bool false], defers := [] } (by kernel_rfl) ?_
  refine HK5.out _ _ ?_
  clear HK5
  go_wp2_with fail
  go_ret
  exact ⟨by rw [HV.out]; rfl, HG2.out⟩
 have eb2 : (xu == yu) = true := by simpa using e2
 refine wpL_take (.bool true) (by rfl) (by go_simp; try first | exact e2 | simp [eb2]) ?_
 simp only [Act.put, pu]
 refine wpL_take (.bool true) (by rfl) (by go_simp) ?_
 simp only [Act.put, pu]
 refine wpL_take (.bool true) (by rfl) (by go_simp) ?_
 simp only [Act.put, pu]
 clear eb2
 have HQ2 : Hid _ := e2
 clear e2
 refine wpL_take (.pointer (some ⟨q, 3, none⟩)) (by rfl) (by go_simp) ?_
 simp only [Act.put, pu]
 refine wpL_take (.int .i64 xg) (by rfl) (by go_simp) ?_
 simp only [Act.put, pu]
 refine wpL_take (.pointer (some ⟨q + 1, 3, none⟩)) (by rfl) (by go_simp) ?_
 simp only [Act.put, pu]
 refine wpL_take (.int .i64 yg) (by rfl) (by go_simp) ?_
 simp only [Act.put, pu]
 by_cases e3 : xg = yg
 rotate_left
 ·have eb : (xg == yg) = false := by simpa using e3
  have HV : Hid (SS = false) := by
   show SS = false
   rw [← HS.out]
   exact no_nf (fun h => e3 (congrArg No.gid h))
  refine wpL_take (.bool false) (by rfl) (by go_simp; try first | exact e3 | simp [eb]) ?_
  simp only [Act.put, pu]
  clear e3
  refine wpL_simA _ _ { tmps := #[.agg #[.int .i64 xk, .int .i64 xm, .int .i64 xu, .int .i64 xg, .int .i64 xi, .int .i64 xz, .slice xda xdl xdc, .string xt, .int .i64 xv, .slice xaa xal xac, .slice xka xkl xkc, .int .i64 xp, .int .i64 xl], .agg #[.int .i64 yk, .int .i64 ym, .int .i64 yu, .int .i64 yg, .int .i64 yi, .int .i64 yz, .slice yda ydl ydc, .string yt, .int .i64 yv, .slice yaa yal yac, .slice yka ykl ykc, .int .i64 yp, .int .i64 yl], .pointer (some ⟨q, 0, none⟩), .pointer (some ⟨q + 1, 0, none⟩), .bool false, .pointer (some ⟨q, 0, none⟩), .int .i64 xk, .pointer (some ⟨q + 1, 0, none⟩), .int .i64 yk, .bool true, .bool true, .pointer (some ⟨q, 1, none⟩), .int .i64 xm, .pointer (some ⟨q + 1, 1, none⟩), .int .i64 ym, .bool true, .bool true, .bool true, .pointer (some ⟨q, 2, none⟩), .int .i64 xu, .pointer (some ⟨q + 1, 2, none⟩), .int .i64 yu, .bool true, .bool true, .bool true, .pointer (some ⟨q, 3, none⟩), .int .i64 xg, .pointer (some ⟨q + 1, 3, none⟩), .int .i64 yg, .bool false, .bool false, .bool false, undef, undef, undef, undef, undef, .bool false, .bool false, undef, undef, undef, undef, undef, .bool false, .bool false, undef, undef, undef, undef, undef, .bool false, .bool false, undef, undef, undef, undef, undef, .bool false, .bool false, undef, undef, undef, undef, undef, .bool false, .bool false, undef, undef, undef, undef, undef, .bool false, .bool false, undef, undef, undef, undef, undef, .bool false, .bool false, undef, undef, undef, undef, undef, .bool false, .bool false, undef, undef, undef, undef, undef, .bool false], defers := [] } (by kernel_rfl) ?_
  refine HK5.out _ _ ?_
  clear HK5
  go_wp2_with fail
  go_ret
  exact ⟨by rw [HV.out]; rfl, HG2.out⟩
 have eb3 : (xg == yg) = true := by simpa using e3
 refine wpL_take (.bool true) (by rfl) (by go_simp; try first | exact e3 | simp [eb3]) ?_
 simp only [Act.put, pu]
 refine wpL_take (.bool true) (by rfl) (by go_simp) ?_
 simp only [Act.put, pu]
 refine wpL_take (.bool true) (by rfl) (by go_simp) ?_
 simp only [Act.put, pu]
 clear eb3
 have HQ3 : Hid _ := e3
 clear e3
 refine wpL_take (.pointer (some ⟨q, 4, none⟩)) (by rfl) (by go_simp) ?_
 simp only [Act.put, pu]
 refine wpL_take (.int .i64 xi) (by rfl) (by go_simp) ?_
 simp only [Act.put, pu]
 refine wpL_take (.pointer (some ⟨q + 1, 4, none⟩)) (by rfl) (by go_simp) ?_
 simp only [Act.put, pu]
 refine wpL_take (.int .i64 yi) (by rfl) (by go_simp) ?_
 simp only [Act.put, pu]
 by_cases e4 : xi = yi
 rotate_left
 ·have eb : (xi == yi) = false := by simpa using e4
  have HV : Hid (SS = false) := by
   show SS = false
   rw [← HS.out]
   exact no_nf (fun h => e4 (congrArg No.time h))
  refine wpL_take (.bool false) (by rfl) (by go_simp; try first | exact e4 | simp [eb]) ?_
  simp only [Act.put, pu]
  clear e4
  refine wpL_simA _ _ { tmps := #[.agg #[.int .i64 xk, .int .i64 xm, .int .i64 xu, .int .i64 xg, .int .i64 xi, .int .i64 xz, .slice xda xdl xdc, .string xt, .int .i64 xv, .slice xaa xal xac, .slice xka xkl xkc, .int .i64 xp, .int .i64 xl], .agg #[.int .i64 yk, .int .i64 ym, .int .i64 yu, .int .i64 yg, .int .i64 yi, .int .i64 yz, .slice yda ydl ydc, .string yt, .int .i64 yv, .slice yaa yal yac, .slice yka ykl ykc, .int .i64 yp, .int .i64 yl], .pointer (some ⟨q, 0, none⟩), .pointer (some ⟨q + 1, 0, none⟩), .bool false, .pointer (some ⟨q, 0, none⟩), .int .i64 xk, .pointer (some ⟨q + 1, 0, none⟩), .int .i64 yk, .bool true, .bool true, .pointer (some ⟨q, 1, none⟩), .int .i64 xm, .pointer (some ⟨q + 1, 1, none⟩), .int .i64 ym, .bool true, .bool true, .bool true, .pointer (some ⟨q, 2, none⟩), .int .i64 xu, .pointer (some ⟨q + 1, 2, none⟩), .int .i64 yu, .bool true, .bool true, .bool true, .pointer (some ⟨q, 3, none⟩), .int .i64 xg, .pointer (some ⟨q + 1, 3, none⟩), .int .i64 yg, .bool true, .bool true, .bool true, .pointer (some ⟨q, 4, none⟩), .int .i64 xi, .pointer (some ⟨q + 1, 4, none⟩), .int .i64 yi, .bool false, .bool false, .bool false, undef, undef, undef, undef, undef, .bool false, .bool false, undef, undef, undef, undef, undef, .bool false, .bool false, undef, undef, undef, undef, undef, .bool false, .bool false, undef, undef, undef, undef, undef, .bool false, .bool false, undef, undef, undef, undef, undef, .bool false, .bool false, undef, undef, undef, undef, undef, .bool false, .bool false, undef, undef, undef, undef, undef, .bool false, .bool false, undef, undef, undef, undef, undef, .bool false], defers := [] } (by kernel_rfl) ?_
  refine HK5.out _ _ ?_
  clear HK5
  go_wp2_with fail
  go_ret
  exact ⟨by rw [HV.out]; rfl, HG2.out⟩
 have eb4 : (xi == yi) = true := by simpa using e4
 refine wpL_take (.bool true) (by rfl) (by go_simp; try first | exact e4 | simp [eb4]) ?_
 simp only [Act.put, pu]
 refine wpL_take (.bool true) (by rfl) (by go_simp) ?_
 simp only [Act.put, pu]
 refine wpL_take (.bool true) (by rfl) (by go_simp) ?_
 simp only [Act.put, pu]
 clear eb4
 have HQ4 : Hid _ := e4
 clear e4
 refine wpL_take (.pointer (some ⟨q, 5, none⟩)) (by rfl) (by go_simp) ?_
 simp only [Act.put, pu]
 refine wpL_take (.int .i64 xz) (by rfl) (by go_simp) ?_
 simp only [Act.put, pu]
 refine wpL_take (.pointer (some ⟨q + 1, 5, none⟩)) (by rfl) (by go_simp) ?_
 simp only [Act.put, pu]
 refine wpL_take (.int .i64 yz) (by rfl) (by go_simp) ?_
 simp only [Act.put, pu]
 by_cases e5 : xz = yz
 rotate_left
 ·have eb : (xz == yz) = false := by simpa using e5
  have HV : Hid (SS = false) := by
   show SS = false
   rw [← HS.out]
   exact no_nf (fun h => e5 (congrArg No.size h))
  refine wpL_take (.bool false) (by rfl) (by go_simp; try first | exact e5 | simp [eb]) ?_
  simp only [Act.put, pu]
  clear e5
  refine wpL_simA _ _ { tmps := #[.agg #[.int .i64 xk, .int .i64 xm, .int .i64 xu, .int .i64 xg, .int .i64 xi, .int .i64 xz, .slice xda xdl xdc, .string xt, .int .i64 xv, .slice xaa xal xac, .slice xka xkl xkc, .int .i64 xp, .int .i64 xl], .agg #[.int .i64 yk, .int .i64 ym, .int .i64 yu, .int .i64 yg, .int .i64 yi, .int .i64 yz, .slice yda ydl ydc, .string yt, .int .i64 yv, .slice yaa yal yac, .slice yka ykl ykc, .int .i64 yp, .int .i64 yl], .pointer (some ⟨q, 0, none⟩), .pointer (some ⟨q + 1, 0, none⟩), .bool false, .pointer (some ⟨q, 0, none⟩), .int .i64 xk, .pointer (some ⟨q + 1, 0, none⟩), .int .i64 yk, .bool true, .bool true, .pointer (some ⟨q, 1, none⟩), .int .i64 xm, .pointer (some ⟨q + 1, 1, none⟩), .int .i64 ym, .bool true, .bool true, .bool true, .pointer (some ⟨q, 2, none⟩), .int .i64 xu, .pointer (some ⟨q + 1, 2, none⟩), .int .i64 yu, .bool true, .bool true, .bool true, .pointer (some ⟨q, 3, none⟩), .int .i64 xg, .pointer (some ⟨q + 1, 3, none⟩), .int .i64 yg, .bool true, .bool true, .bool true, .pointer (some ⟨q, 4, none⟩), .int .i64 xi, .pointer (some ⟨q + 1, 4, none⟩), .int .i64 yi, .bool true, .bool true, .bool true, .pointer (some ⟨q, 5, none⟩), .int .i64 xz, .pointer (some ⟨q + 1, 5, none⟩), .int .i64 yz, .bool false, .bool false, .bool false, undef, undef, undef, undef, undef, .bool false, .bool false, undef, undef, undef, undef, undef, .bool false, .bool false, undef, undef, undef, undef, undef, .bool false, .bool false, undef, undef, undef, undef, undef, .bool false, .bool false, undef, undef, undef, undef, undef, .bool false, .bool false, undef, undef, undef, undef, undef, .bool false, .bool false, undef, undef, undef, undef, undef, .bool false], defers := [] } (by kernel_rfl) ?_
  refine HK5.out _ _ ?_
  clear HK5
  go_wp2_with fail
  go_ret
  exact ⟨by rw [HV.out]; rfl, HG2.out⟩
 have eb5 : (xz == yz) = true := by simpa using e5
 refine wpL_take (.bool true) (by rfl) (by go_simp; try first | exact e5 | simp [eb5]) ?_
 simp only [Act.put, pu]
 refine wpL_take (.bool true) (by rfl) (by go_simp) ?_
 simp only [Act.put, pu]
 refine wpL_take (.bool true) (by rfl) (by go_simp) ?_
 simp only [Act.put, pu]
 clear eb5
 have HQ5 : Hid _ := e5
 clear e5
 refine wpL_take (.pointer (some ⟨q, 6, none⟩)) (by rfl) (by go_simp) ?_
 simp only [Act.put, pu]
 refine wpL_take (.slice xda xdl xdc) (by rfl) (by go_simp) ?_
 simp only [Act.put, pu]
 refine wpL_take (.pointer (some ⟨q + 1, 6, none⟩)) (by rfl) (by go_simp) ?_
 simp only [Act.put, pu]
 refine wpL_take (.slice yda ydl ydc) (by rfl) (by go_simp) ?_
 simp only [Act.put, pu]
 have hcall := pequal11_any xda yda xdl xdc ydl ydc xd yd WE HO.out.1.row HO.out.2.row
 generalize hsb : decide (xd = yd) = sb at hcall
 have HQ6 : Hid _ := hsb
 clear hsb
 refine BigFrame.wpList_want (by rfl) (fun K3 hK3 => ?_)
 unfold Oper.wp
 go_simp
 refine hcall.mono ?_
 clear hcall
 rintro e W6 ⟨rfl, rfl⟩
 refine hK3 _ _ ?_
 clear hK3 K3
 cases sb with
 | false =>
  have HV : Hid (SS = false) := by
   show SS = false
   rw [← HS.out]
   refine no_nf (fun h => ?_)
   have h2 := HQ6.out
   have h3 : decide (xd = yd) = true := decide_eq_true (congrArg No.data h)
   rw [h3] at h2
   cases h2
  refine wpL_simA _ _ { tmps := #[.agg #[.int .i64 xk, .int .i64 xm, .int .i64 xu, .int .i64 xg, .int .i64 xi, .int .i64 xz, .slice xda xdl xdc, .string xt, .int .i64 xv, .slice xaa xal xac, .slice xka xkl xkc, .int .i64 xp, .int .i64 xl], .agg #[.int .i64 yk, .int .i64 ym, .int .i64 yu, .int .i64 yg, .int .i64 yi, .int .i64 yz, .slice yda ydl ydc, .string yt, .int .i64 yv, .slice yaa yal yac, .slice yka ykl ykc, .int .i64 yp, .int .i64 yl], .pointer (some ⟨q, 0, none⟩), .pointer (some ⟨q + 1, 0, none⟩), .bool false, .pointer (some ⟨q, 0, none⟩), .int .i64 xk, .pointer (some ⟨q + 1, 0, none⟩), .int .i64 yk, .bool true, .bool true, .pointer (some ⟨q, 1, none⟩), .int .i64 xm, .pointer (some ⟨q + 1, 1, none⟩), .int .i64 ym, .bool true, .bool true, .bool true, .pointer (some ⟨q, 2, none⟩), .int .i64 xu, .pointer (some ⟨q + 1, 2, none⟩), .int .i64 yu, .bool true, .bool true, .bool true, .pointer (some ⟨q, 3, none⟩), .int .i64 xg, .pointer (some ⟨q + 1, 3, none⟩), .int .i64 yg, .bool true, .bool true, .bool true, .pointer (some ⟨q, 4, none⟩), .int .i64 xi, .pointer (some ⟨q + 1, 4, none⟩), .int .i64 yi, .bool true, .bool true, .bool true, .pointer (some ⟨q, 5, none⟩), .int .i64 xz, .pointer (some ⟨q + 1, 5, none⟩), .int .i64 yz, .bool true, .bool true, .bool true, .pointer (some ⟨q, 6, none⟩), .slice xda xdl xdc, .pointer (some ⟨q + 1, 6, none⟩), .slice yda ydl ydc, .bool false, .bool false, .bool false, undef, undef, undef, undef, undef, .bool false, .bool false, undef, undef, undef, undef, undef, .bool false, .bool false, undef, undef, undef, undef, undef, .bool false, .bool false, undef, undef, undef, undef, undef, .bool false, .bool false, undef, undef, undef, undef, undef, .bool false, .bool false, undef, undef, undef, undef, undef, .bool false], defers := [] } (by kernel_rfl) ?_
  refine HK5.out _ _ ?_
  clear HK5
  go_wp2_with fail
  go_ret
  exact ⟨by rw [HV.out]; rfl, HG2.out⟩
 | true =>
  refine wpL_take (.bool true) (by rfl) (by go_simp) ?_
  simp only [Act.put, pu]
  refine wpL_take (.bool true) (by rfl) (by go_simp) ?_
  simp only [Act.put, pu]
  refine wpL_take (.pointer (some ⟨q, 7, none⟩)) (by rfl) (by go_simp) ?_
  simp only [Act.put, pu]
  refine wpL_take (.string xt) (by rfl) (by go_simp) ?_
  simp only [Act.put, pu]
  refine wpL_take (.pointer (some ⟨q + 1, 7, none⟩)) (by rfl) (by go_simp) ?_
  simp only [Act.put, pu]
  refine wpL_take (.string yt) (by rfl) (by go_simp) ?_
  simp only [Act.put, pu]
  by_cases e7 : xt.toList = yt.toList
  rotate_left
  ·have eb : (xt.toList == yt.toList) = false := by simpa using e7
   have HV : Hid (SS = false) := by
    show SS = false
    rw [← HS.out]
    exact no_nf (fun h => e7 (congrArg No.target h))
   refine wpL_take (.bool false) (by rfl) (by go_simp; try first | exact e7 | simp [eb]) ?_
   simp only [Act.put, pu]
   clear e7
   refine wpL_simA _ _ { tmps := #[.agg #[.int .i64 xk, .int .i64 xm, .int .i64 xu, .int .i64 xg, .int .i64 xi, .int .i64 xz, .slice xda xdl xdc, .string xt, .int .i64 xv, .slice xaa xal xac, .slice xka xkl xkc, .int .i64 xp, .int .i64 xl], .agg #[.int .i64 yk, .int .i64 ym, .int .i64 yu, .int .i64 yg, .int .i64 yi, .int .i64 yz, .slice yda ydl ydc, .string yt, .int .i64 yv, .slice yaa yal yac, .slice yka ykl ykc, .int .i64 yp, .int .i64 yl], .pointer (some ⟨q, 0, none⟩), .pointer (some ⟨q + 1, 0, none⟩), .bool false, .pointer (some ⟨q, 0, none⟩), .int .i64 xk, .pointer (some ⟨q + 1, 0, none⟩), .int .i64 yk, .bool true, .bool true, .pointer (some ⟨q, 1, none⟩), .int .i64 xm, .pointer (some ⟨q + 1, 1, none⟩), .int .i64 ym, .bool true, .bool true, .bool true, .pointer (some ⟨q, 2, none⟩), .int .i64 xu, .pointer (some ⟨q + 1, 2, none⟩), .int .i64 yu, .bool true, .bool true, .bool true, .pointer (some ⟨q, 3, none⟩), .int .i64 xg, .pointer (some ⟨q + 1, 3, none⟩), .int .i64 yg, .bool true, .bool true, .bool true, .pointer (some ⟨q, 4, none⟩), .int .i64 xi, .pointer (some ⟨q + 1, 4, none⟩), .int .i64 yi, .bool true, .bool true, .bool true, .pointer (some ⟨q, 5, none⟩), .int .i64 xz, .pointer (some ⟨q + 1, 5, none⟩), .int .i64 yz, .bool true, .bool true, .bool true, .pointer (some ⟨q, 6, none⟩), .slice xda xdl xdc, .pointer (some ⟨q + 1, 6, none⟩), .slice yda ydl ydc, .bool true, .bool true, .bool true, .pointer (some ⟨q, 7, none⟩), .string xt, .pointer (some ⟨q + 1, 7, none⟩), .string yt, .bool false, .bool false, .bool false, undef, undef, undef, undef, undef, .bool false, .bool false, undef, undef, undef, undef, undef, .bool false, .bool false, undef, undef, undef, undef, undef, .bool false, .bool false, undef, undef, undef, undef, undef, .bool false, .bool false, undef, undef, undef, undef, undef, .bool false], defers := [] } (by kernel_rfl) ?_
   refine HK5.out _ _ ?_
   clear HK5
   go_wp2_with fail
   go_ret
   exact ⟨by rw [HV.out]; rfl, HG2.out⟩
  have eb7 : (xt.toList == yt.toList) = true := by simpa using e7
  refine wpL_take (.bool true) (by rfl) (by go_simp; try first | exact e7 | simp [eb7]) ?_
  simp only [Act.put, pu]
  refine wpL_take (.bool true) (by rfl) (by go_simp) ?_
  simp only [Act.put, pu]
  refine wpL_take (.bool true) (by rfl) (by go_simp) ?_
  simp only [Act.put, pu]
  clear eb7
  have HQ7 : Hid _ := e7
  clear e7
  refine wpL_take (.pointer (some ⟨q, 8, none⟩)) (by rfl) (by go_simp) ?_
  simp only [Act.put, pu]
  refine wpL_take (.int .i64 xv) (by rfl) (by go_simp) ?_
  simp only [Act.put, pu]
  refine wpL_take (.pointer (some ⟨q + 1, 8, none⟩)) (by rfl) (by go_simp) ?_
  simp only [Act.put, pu]
  refine wpL_take (.int .i64 yv) (by rfl) (by go_simp) ?_
  simp only [Act.put, pu]
  by_cases e8 : xv = yv
  rotate_left
  ·have eb : (xv == yv) = false := by simpa using e8
   have HV : Hid (SS = false) := by
    show SS = false
    rw [← HS.out]
    exact no_nf (fun h => e8 (congrArg No.dev h))
   refine wpL_take (.bool false) (by rfl) (by go_simp; try first | exact e8 | simp [eb]) ?_
   simp only [Act.put, pu]
   clear e8
   refine wpL_simA _ _ { tmps := #[.agg #[.int .i64 xk, .int .i64 xm, .int .i64 xu, .int .i64 xg, .int .i64 xi, .int .i64 xz, .slice xda xdl xdc, .string xt, .int .i64 xv, .slice xaa xal xac, .slice xka xkl xkc, .int .i64 xp, .int .i64 xl], .agg #[.int .i64 yk, .int .i64 ym, .int .i64 yu, .int .i64 yg, .int .i64 yi, .int .i64 yz, .slice yda ydl ydc, .string yt, .int .i64 yv, .slice yaa yal yac, .slice yka ykl ykc, .int .i64 yp, .int .i64 yl], .pointer (some ⟨q, 0, none⟩), .pointer (some ⟨q + 1, 0, none⟩), .bool false, .pointer (some ⟨q, 0, none⟩), .int .i64 xk, .pointer (some ⟨q + 1, 0, none⟩), .int .i64 yk, .bool true, .bool true, .pointer (some ⟨q, 1, none⟩), .int .i64 xm, .pointer (some ⟨q + 1, 1, none⟩), .int .i64 ym, .bool true, .bool true, .bool true, .pointer (some ⟨q, 2, none⟩), .int .i64 xu, .pointer (some ⟨q + 1, 2, none⟩), .int .i64 yu, .bool true, .bool true, .bool true, .pointer (some ⟨q, 3, none⟩), .int .i64 xg, .pointer (some ⟨q + 1, 3, none⟩), .int .i64 yg, .bool true, .bool true, .bool true, .pointer (some ⟨q, 4, none⟩), .int .i64 xi, .pointer (some ⟨q + 1, 4, none⟩), .int .i64 yi, .bool true, .bool true, .bool true, .pointer (some ⟨q, 5, none⟩), .int .i64 xz, .pointer (some ⟨q + 1, 5, none⟩), .int .i64 yz, .bool true, .bool true, .bool true, .pointer (some ⟨q, 6, none⟩), .slice xda xdl xdc, .pointer (some ⟨q + 1, 6, none⟩), .slice yda ydl ydc, .bool true, .bool true, .bool true, .pointer (some ⟨q, 7, none⟩), .string xt, .pointer (some ⟨q + 1, 7, none⟩), .string yt, .bool true, .bool true, .bool true, .pointer (some ⟨q, 8, none⟩), .int .i64 xv, .pointer (some ⟨q + 1, 8, none⟩), .int .i64 yv, .bool false, .bool false, .bool false, undef, undef, undef, undef, undef, .bool false, .bool false, undef, undef, undef, undef, undef, .bool false, .bool false, undef, undef, undef, undef, undef, .bool false, .bool false, undef, undef, undef, undef, undef, .bool false], defers := [] } (by kernel_rfl) ?_
   refine HK5.out _ _ ?_
   clear HK5
   go_wp2_with fail
   go_ret
   exact ⟨by rw [HV.out]; rfl, HG2.out⟩
  have eb8 : (xv == yv) = true := by simpa using e8
  refine wpL_take (.bool true) (by rfl) (by go_simp; try first | exact e8 | simp [eb8]) ?_
  simp only [Act.put, pu]
  refine wpL_take (.bool true) (by rfl) (by go_simp) ?_
  simp only [Act.put, pu]
  refine wpL_take (.bool true) (by rfl) (by go_simp) ?_
  simp only [Act.put, pu]
  clear eb8
  have HQ8 : Hid _ := e8
  clear e8
  refine wpL_take (.pointer (some ⟨q, 9, none⟩)) (by rfl) (by go_simp) ?_
  simp only [Act.put, pu]
  refine wpL_take (.slice xaa xal xac) (by rfl) (by go_simp) ?_
  simp only [Act.put, pu]
  refine wpL_take (.pointer (some ⟨q + 1, 9, none⟩)) (by rfl) (by go_simp) ?_
  simp only [Act.put, pu]
  refine wpL_take (.slice yaa yal yac) (by rfl) (by go_simp) ?_
  simp only [Act.put, pu]
  have hcall := peqa_any xaa yaa xal xac yal yac xat yat WE HO.out.1.ats HO.out.2.ats
  generalize hsb : sameAts (xat.map AtV.at) (yat.map AtV.at) = sb at hcall
  have HQ9 : Hid _ := hsb
  clear hsb
  refine BigFrame.wpList_want (by rfl) (fun K3 hK3 => ?_)
  unfold Oper.wp
  go_simp
  refine hcall.mono ?_
  clear hcall
  rintro e W6 ⟨rfl, hg6⟩
  refine hK3 _ _ ?_
  clear hK3 K3
  have HB2 : Hid _ := And.intro (HB.out.1.kept hg6) (HB.out.2.kept hg6)
  have HG3 : Hid _ := grown_trans HG2.out hg6
  have HO2 : Hid _ := And.intro (HO.out.1.grown hg6) (HO.out.2.grown hg6)
  clear HB HG2 HO hg6 X0 X1 X2 X3 X4 X5 X6 X7 X8 X9 X10 X11 X12 Y0 Y1 Y2 Y3 Y4 Y5 Y6 Y7 Y8 Y9 Y10 Y11 Y12
  obtain ⟨-, -, -, -, -, -, -, -, -, -, X10, X11, X12⟩ := bx13 HB2.out.1
  obtain ⟨-, -, -, -, -, -, -, -, -, -, Y10, Y11, Y12⟩ := bx13 HB2.out.2
  have HB : Hid _ := HB2.out
  have HG2 : Hid _ := HG3.out
  have HO : Hid _ := HO2.out
  clear HB2 HG3 HO2
  cases sb with
  | false =>
   have HV : Hid (SS = false) := by
    show SS = false
    rw [← HS.out]
    refine no_nf (fun h => ?_)
    have h2 := HQ9.out
    have h3 : sameAts (xat.map AtV.at) (yat.map AtV.at) = true := (sameAts_eq _ _).2 (congrArg No.attrs h)
    rw [h3] at h2
    cases h2
   refine wpL_simA _ _ { tmps := #[.agg #[.int .i64 xk, .int .i64 xm, .int .i64 xu, .int .i64 xg, .int .i64 xi, .int .i64 xz, .slice xda xdl xdc, .string xt, .int .i64 xv, .slice xaa xal xac, .slice xka xkl xkc, .int .i64 xp, .int .i64 xl], .agg #[.int .i64 yk, .int .i64 ym, .int .i64 yu, .int .i64 yg, .int .i64 yi, .int .i64 yz, .slice yda ydl ydc, .string yt, .int .i64 yv, .slice yaa yal yac, .slice yka ykl ykc, .int .i64 yp, .int .i64 yl], .pointer (some ⟨q, 0, none⟩), .pointer (some ⟨q + 1, 0, none⟩), .bool false, .pointer (some ⟨q, 0, none⟩), .int .i64 xk, .pointer (some ⟨q + 1, 0, none⟩), .int .i64 yk, .bool true, .bool true, .pointer (some ⟨q, 1, none⟩), .int .i64 xm, .pointer (some ⟨q + 1, 1, none⟩), .int .i64 ym, .bool true, .bool true, .bool true, .pointer (some ⟨q, 2, none⟩), .int .i64 xu, .pointer (some ⟨q + 1, 2, none⟩), .int .i64 yu, .bool true, .bool true, .bool true, .pointer (some ⟨q, 3, none⟩), .int .i64 xg, .pointer (some ⟨q + 1, 3, none⟩), .int .i64 yg, .bool true, .bool true, .bool true, .pointer (some ⟨q, 4, none⟩), .int .i64 xi, .pointer (some ⟨q + 1, 4, none⟩), .int .i64 yi, .bool true, .bool true, .bool true, .pointer (some ⟨q, 5, none⟩), .int .i64 xz, .pointer (some ⟨q + 1, 5, none⟩), .int .i64 yz, .bool true, .bool true, .bool true, .pointer (some ⟨q, 6, none⟩), .slice xda xdl xdc, .pointer (some ⟨q + 1, 6, none⟩), .slice yda ydl ydc, .bool true, .bool true, .bool true, .pointer (some ⟨q, 7, none⟩), .string xt, .pointer (some ⟨q + 1, 7, none⟩), .string yt, .bool true, .bool true, .bool true, .pointer (some ⟨q, 8, none⟩), .int .i64 xv, .pointer (some ⟨q + 1, 8, none⟩), .int .i64 yv, .bool true, .bool true, .bool true, .pointer (some ⟨q, 9, none⟩), .slice xaa xal xac, .pointer (some ⟨q + 1, 9, none⟩), .slice yaa yal yac, .bool false, .bool false, .bool false, undef, undef, undef, undef, undef, .bool false, .bool false, undef, undef, undef, undef, undef, .bool false, .bool false, undef, undef, undef, undef, undef, .bool false], defers := [] } (by kernel_rfl) ?_
   refine HK5.out _ _ ?_
   clear HK5
   go_wp2_with fail
   go_ret
   exact ⟨by rw [HV.out]; rfl, HG2.out⟩
  | true =>
   refine wpL_take (.bool true) (by rfl) (by go_simp) ?_
   simp only [Act.put, pu]
   refine wpL_take (.bool true) (by rfl) (by go_simp) ?_
   simp only [Act.put, pu]
   refine wpL_take (.pointer (some ⟨q, 10, none⟩)) (by rfl) (by go_simp) ?_
   simp only [Act.put, pu]
   refine wpL_take (.slice xka xkl xkc) (by rfl) (by go_simp) ?_
   simp only [Act.put, pu]
   refine wpL_take (.pointer (some ⟨q + 1, 10, none⟩)) (by rfl) (by go_simp) ?_
   simp only [Act.put, pu]
   refine wpL_take (.slice yka ykl ykc) (by rfl) (by go_simp) ?_
   simp only [Act.put, pu]
   have hcall := peqk_any xka yka xkl xkc ykl ykc xki yki W6 HO.out.1.kds HO.out.2.kds
   generalize hsb : sameKds xki yki = sb at hcall
   have HQ10 : Hid _ := hsb
   clear hsb
   refine BigFrame.wpList_want (by rfl) (fun K3 hK3 => ?_)
   unfold Oper.wp
   go_simp
   refine hcall.mono ?_
   clear hcall
   rintro e W6 ⟨rfl, t6, rfl⟩
   refine hK3 _ _ ?_
   clear hK3 K3
   have HB2 : Hid _ := And.intro (HB.out.1.kept (drewG11 (World.grownBy.refl _ _) t6)) (HB.out.2.kept (drewG11 (World.grownBy.refl _ _) t6))
   have HG3 : Hid _ := drewG11 HG2.out t6
   generalize W6.drewN t6 = W7 at *
   clear HB HG2 HO X10 X11 X12 Y10 Y11 Y12
   obtain ⟨-, -, -, -, -, -, -, -, -, -, -, X11, X12⟩ := bx13 HB2.out.1
   obtain ⟨-, -, -, -, -, -, -, -, -, -, -, Y11, Y12⟩ := bx13 HB2.out.2
   have HG2 : Hid _ := HG3.out
   clear HB2 HG3
   cases sb with
   | false =>
    have HV : Hid (SS = false) := by
     show SS = false
     rw [← HS.out]
     refine no_nf (fun h => ?_)
     have h2 := HQ10.out
     have h3 : sameKds xki yki = true := (sameKds_eq _ _).2 (congrArg No.kids h)
     rw [h3] at h2
     cases h2
    refine wpL_simA _ _ { tmps := #[.agg #[.int .i64 xk, .int .i64 xm, .int .i64 xu, .int .i64 xg, .int .i64 xi, .int .i64 xz, .slice xda xdl xdc, .string xt, .int .i64 xv, .slice xaa xal xac, .slice xka xkl xkc, .int .i64 xp, .int .i64 xl], .agg #[.int .i64 yk, .int .i64 ym, .int .i64 yu, .int .i64 yg, .int .i64 yi, .int .i64 yz, .slice yda ydl ydc, .string yt, .int .i64 yv, .slice yaa yal yac, .slice yka ykl ykc, .int .i64 yp, .int .i64 yl], .pointer (some ⟨q, 0, none⟩), .pointer (some ⟨q + 1, 0, none⟩), .bool false, .pointer (some ⟨q, 0, none⟩), .int .i64 xk, .pointer (some ⟨q + 1, 0, none⟩), .int .i64 yk, .bool true, .bool true, .pointer (some ⟨q, 1, none⟩), .int .i64 xm, .pointer (some ⟨q + 1, 1, none⟩), .int .i64 ym, .bool true, .bool true, .bool true, .pointer (some ⟨q, 2, none⟩), .int .i64 xu, .pointer (some ⟨q + 1, 2, none⟩), .int .i64 yu, .bool true, .bool true, .bool true, .pointer (some ⟨q, 3, none⟩), .int .i64 xg, .pointer (some ⟨q + 1, 3, none⟩), .int .i64 yg, .bool true, .bool true, .bool true, .pointer (some ⟨q, 4, none⟩), .int .i64 xi, .pointer (some ⟨q + 1, 4, none⟩), .int .i64 yi, .bool true, .bool true, .bool true, .pointer (some ⟨q, 5, none⟩), .int .i64 xz, .pointer (some ⟨q + 1, 5, none⟩), .int .i64 yz, .bool true, .bool true, .bool true, .pointer (some ⟨q, 6, none⟩), .slice xda xdl xdc, .pointer (some ⟨q + 1, 6, none⟩), .slice yda ydl ydc, .bool true, .bool true, .bool true, .pointer (some ⟨q, 7, none⟩), .string xt, .pointer (some ⟨q + 1, 7, none⟩), .string yt, .bool true, .bool true, .bool true, .pointer (some ⟨q, 8, none⟩), .int .i64 xv, .pointer (some ⟨q + 1, 8, none⟩), .int .i64 yv, .bool true, .bool true, .bool true, .pointer (some ⟨q, 9, none⟩), .slice xaa xal xac, .pointer (some ⟨q + 1, 9, none⟩), .slice yaa yal yac, .bool true, .bool true, .bool true, .pointer (some ⟨q, 10, none⟩), .slice xka xkl xkc, .pointer (some ⟨q + 1, 10, none⟩), .slice yka ykl ykc, .bool false, .bool false, .bool false, undef, undef, undef, undef, undef, .bool false, .bool false, undef, undef, undef, undef, undef, .bool false], defers := [] } (by kernel_rfl) ?_
    refine HK5.out _ _ ?_
    clear HK5
    go_wp2_with fail
    go_ret
    exact ⟨by rw [HV.out]; rfl, HG2.out⟩
   | true =>
    refine wpL_take (.bool true) (by rfl) (by go_simp) ?_
    simp only [Act.put, pu]
    refine wpL_take (.bool true) (by rfl) (by go_simp) ?_
    simp only [Act.put, pu]
    refine wpL_take (.pointer (some ⟨q, 11, none⟩)) (by rfl) (by go_simp) ?_
    simp only [Act.put, pu]
    refine wpL_take (.int .i64 xp) (by rfl) (by go_simp) ?_
    simp only [Act.put, pu]
    refine wpL_take (.pointer (some ⟨q + 1, 11, none⟩)) (by rfl) (by go_simp) ?_
    simp only [Act.put, pu]
    refine wpL_take (.int .i64 yp) (by rfl) (by go_simp) ?_
    simp only [Act.put, pu]
    by_cases e11 : xp = yp
    rotate_left
    ·have eb : (xp == yp) = false := by simpa using e11
     have HV : Hid (SS = false) := by
      show SS = false
      rw [← HS.out]
      exact no_nf (fun h => e11 (congrArg No.parent h))
     refine wpL_take (.bool false) (by rfl) (by go_simp; try first | exact e11 | simp [eb]) ?_
     simp only [Act.put, pu]
     clear e11
     refine wpL_simA _ _ { tmps := #[.agg #[.int .i64 xk, .int .i64 xm, .int .i64 xu, .int .i64 xg, .int .i64 xi, .int .i64 xz, .slice xda xdl xdc, .string xt, .int .i64 xv, .slice xaa xal xac, .slice xka xkl xkc, .int .i64 xp, .int .i64 xl], .agg #[.int .i64 yk, .int .i64 ym, .int .i64 yu, .int .i64 yg, .int .i64 yi, .int .i64 yz, .slice yda ydl ydc, .string yt, .int .i64 yv, .slice yaa yal yac, .slice yka ykl ykc, .int .i64 yp, .int .i64 yl], .pointer (some ⟨q, 0, none⟩), .pointer (some ⟨q + 1, 0, none⟩), .bool false, .pointer (some ⟨q, 0, none⟩), .int .i64 xk, .pointer (some ⟨q + 1, 0, none⟩), .int .i64 yk, .bool true, .bool true, .pointer (some ⟨q, 1, none⟩), .int .i64 xm, .pointer (some ⟨q + 1, 1, none⟩), .int .i64 ym, .bool true, .bool true, .bool true, .pointer (some ⟨q, 2, none⟩), .int .i64 xu, .pointer (some ⟨q + 1, 2, none⟩), .int .i64 yu, .bool true, .bool true, .bool true, .pointer (some ⟨q, 3, none⟩), .int .i64 xg, .pointer (some ⟨q + 1, 3, none⟩), .int .i64 yg, .bool true, .bool true, .bool true, .pointer (some ⟨q, 4, none⟩), .int .i64 xi, .pointer (some ⟨q + 1, 4, none⟩), .int .i64 yi, .bool true, .bool true, .bool true, .pointer (some ⟨q, 5, none⟩), .int .i64 xz, .pointer (some ⟨q + 1, 5, none⟩), .int .i64 yz, .bool true, .bool true, .bool true, .pointer (some ⟨q, 6, none⟩), .slice xda xdl xdc, .pointer (some ⟨q + 1, 6, none⟩), .slice yda ydl ydc, .bool true, .bool true, .bool true, .pointer (some ⟨q, 7, none⟩), .string xt, .pointer (some ⟨q + 1, 7, none⟩), .string yt, .bool true, .bool true, .bool true, .pointer (some ⟨q, 8, none⟩), .int .i64 xv, .pointer (some ⟨q + 1, 8, none⟩), .int .i64 yv, .bool true, .bool true, .bool true, .pointer (some ⟨q, 9, none⟩), .slice xaa xal xac, .pointer (some ⟨q + 1, 9, none⟩), .slice yaa yal yac, .bool true, .bool true, .bool true, .pointer (some ⟨q, 10, none⟩), .slice xka xkl xkc, .pointer (some ⟨q + 1, 10, none⟩), .slice yka ykl ykc, .bool true, .bool true, .bool true, .pointer (some ⟨q, 11, none⟩), .int .i64 xp, .pointer (some ⟨q + 1, 11, none⟩), .int .i64 yp, .bool false, .bool false, .bool false, undef, undef, undef, undef, undef, .bool false], defers := [] } (by kernel_rfl) ?_
     refine HK5.out _ _ ?_
     clear HK5
     go_wp2_with fail
     go_ret
     exact ⟨by rw [HV.out]; rfl, HG2.out⟩
    have eb11 : (xp == yp) = true := by simpa using e11
    refine wpL_take (.bool true) (by rfl) (by go_simp; try first | exact e11 | simp [eb11]) ?_
    simp only [Act.put, pu]
    refine wpL_take (.bool true) (by rfl) (by go_simp) ?_
    simp only [Act.put, pu]
    refine wpL_take (.bool true) (by rfl) (by go_simp) ?_
    simp only [Act.put, pu]
    clear eb11
    have HQ11 : Hid _ := e11
    clear e11
    refine wpL_take (.pointer (some ⟨q, 12, none⟩)) (by rfl) (by go_simp) ?_
    simp only [Act.put, pu]
    refine wpL_take (.int .i64 xl) (by rfl) (by go_simp) ?_
    simp only [Act.put, pu]
    refine wpL_take (.pointer (some ⟨q + 1, 12, none⟩)) (by rfl) (by go_simp) ?_
    simp only [Act.put, pu]
    refine wpL_take (.int .i64 yl) (by rfl) (by go_simp) ?_
    simp only [Act.put, pu]
    by_cases e12 : xl = yl
    rotate_left
    ·have eb : (xl == yl) = false := by simpa using e12
     have HV : Hid (SS = false) := by
      show SS = false
      rw [← HS.out]
      exact no_nf (fun h => e12 (congrArg No.links h))
     refine wpL_take (.bool false) (by rfl) (by go_simp; try first | exact e12 | simp [eb]) ?_
     simp only [Act.put, pu]
     clear e12
     refine wpL_simA _ _ { tmps := #[.agg #[.int .i64 xk, .int .i64 xm, .int .i64 xu, .int .i64 xg, .int .i64 xi, .int .i64 xz, .slice xda xdl xdc, .string xt, .int .i64 xv, .slice xaa xal xac, .slice xka xkl xkc, .int .i64 xp, .int .i64 xl], .agg #[.int .i64 yk, .int .i64 ym, .int .i64 yu, .int .i64 yg, .int .i64 yi, .int .i64 yz, .slice yda ydl ydc, .string yt, .int .i64 yv, .slice yaa yal yac, .slice yka ykl ykc, .int .i64 yp, .int .i64 yl], .pointer (some ⟨q, 0, none⟩), .pointer (some ⟨q + 1, 0, none⟩), .bool false, .pointer (some ⟨q, 0, none⟩), .int .i64 xk, .pointer (some ⟨q + 1, 0, none⟩), .int .i64 yk, .bool true, .bool true, .pointer (some ⟨q, 1, none⟩), .int .i64 xm, .pointer (some ⟨q + 1, 1, none⟩), .int .i64 ym, .bool true, .bool true, .bool true, .pointer (some ⟨q, 2, none⟩), .int .i64 xu, .pointer (some ⟨q + 1, 2, none⟩), .int .i64 yu, .bool true, .bool true, .bool true, .pointer (some ⟨q, 3, none⟩), .int .i64 xg, .pointer (some ⟨q + 1, 3, none⟩), .int .i64 yg, .bool true, .bool true, .bool true, .pointer (some ⟨q, 4, none⟩), .int .i64 xi, .pointer (some ⟨q + 1, 4, none⟩), .int .i64 yi, .bool true, .bool true, .bool true, .pointer (some ⟨q, 5, none⟩), .int .i64 xz, .pointer (some ⟨q + 1, 5, none⟩), .int .i64 yz, .bool true, .bool true, .bool true, .pointer (some ⟨q, 6, none⟩), .slice xda xdl xdc, .pointer (some ⟨q + 1, 6, none⟩), .slice yda ydl ydc, .bool true, .bool true, .bool true, .pointer (some ⟨q, 7, none⟩), .string xt, .pointer (some ⟨q + 1, 7, none⟩), .string yt, .bool true, .bool true, .bool true, .pointer (some ⟨q, 8, none⟩), .int .i64 xv, .pointer (some ⟨q + 1, 8, none⟩), .int .i64 yv, .bool true, .bool true, .bool true, .pointer (some ⟨q, 9, none⟩), .slice xaa xal xac, .pointer (some ⟨q + 1, 9, none⟩), .slice yaa yal yac, .bool true, .bool true, .bool true, .pointer (some ⟨q, 10, none⟩), .slice xka xkl xkc, .pointer (some ⟨q + 1, 10, none⟩), .slice yka ykl ykc, .bool true, .bool true, .bool true, .pointer (some ⟨q, 11, none⟩), .int .i64 xp, .pointer (some ⟨q + 1, 11, none⟩), .int .i64 yp, .bool true, .bool true, .bool true, .pointer (some ⟨q, 12, none⟩), .int .i64 xl, .pointer (some ⟨q + 1, 12, none⟩), .int .i64 yl, .bool false, .bool false], defers := [] } (by kernel_rfl) ?_
     refine HK5.out _ _ ?_
     clear HK5
     go_wp2_with fail
     go_ret
     exact ⟨by rw [HV.out]; rfl, HG2.out⟩
    have eb12 : (xl == yl) = true := by simpa using e12
    refine wpL_take (.bool true) (by rfl) (by go_simp; try first | exact e12 | simp [eb12]) ?_
    simp only [Act.put, pu]
    refine wpL_take (.bool true) (by rfl) (by go_simp) ?_
    simp only [Act.put, pu]
    clear eb12
    have HQ12 : Hid _ := e12
    clear e12
    have HV : Hid (SS = true) := by
     show SS = true
     rw [← HS.out, sameNo_eq]
     have a1 := (sameAts_eq _ _).1 HQ9.out
     have a2 := (sameKds_eq _ _).1 HQ10.out
     have a3 := of_decide_eq_true HQ6.out
     have q0 := HQ0.out; have q1 := HQ1.out; have q2 := HQ2.out; have q3 := HQ3.out; have q4 := HQ4.out; have q5 := HQ5.out; have q7 := HQ7.out; have q8 := HQ8.out; have q11 := HQ11.out; have q12 := HQ12.out
     unfold NoV.no
     simp only [q0, q1, q2, q3, q4, q5, q7, q8, q11, q12, a1, a2, a3]
    refine wpL_take (.bool true) (by rfl) (by go_simp) ?_
    simp only [Act.put, pu]
    refine HK5.out _ _ ?_
    clear HK5
    go_wp2_with fail
    go_ret
    exact ⟨by rw [HV.out]; rfl, HG2.out⟩
end Go.Proofs.YtlehncfehoelbaaGreatDoor
