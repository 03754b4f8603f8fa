/- The program's Same: two nodes. -/
import Derived.Test.YtlehncfehoelbaaGreatDoorCq06
import Derived.Test.YtlehncfehoelbaaGreatDoorCq13
import Derived.Test.YtlehncfehoelbaaGreatDoorCq14
import Derived.Test.YtlehncfehoelbaaGreatDoorCq22
namespace Go.Proofs.YtlehncfehoelbaaGreatDoor
open Go.RowKit
set_option maxRecDepth 100000
set_option linter.unusedSimpArgs false
set_option linter.unusedVariables false
def sim2 (ops : Array Oper) (o : Oper) (a : Act) : Option Act :=
 if Region.wanted o (yielded ops a.tmps) = true then
  match o.op with
  | .move x => some (a.put o.dst (a.eval x))
  | .assign x => some (a.put o.dst (a.eval x))
  | .pick c x y => match a.eval c with
   | .bool b => some (a.put o.dst (if b = true then a.eval x else a.eval y))
   | _ => none
  | _ => none
 else some (a.put o.dst undef)
def simM (ops : Array Oper) : List Oper → Act → Option Act
 | [], a => some a
 | o :: r, a => (sim2 ops o a).bind (simM ops r)
theorem wpL_simA {P : Program} {ops : Array Oper} {Q : Exit → Act → World → Prop} {w : World} : ∀ (rest : List Oper) (a a' : Act), simM ops rest a = some a' → Q .normal a' w → wpList P ops Q rest a w
 | [], a, a', h, k => by
  simp only [simM, Option.some.injEq] at h
  rw [h]
  exact k
 | o :: r, a, a', h, k => by
  rw [simM] at h
  cases hs : sim2 ops o a with
  | none => rw [hs] at h; cases h
  | some b =>
   rw [hs, Option.bind_some] at h
   have ih := wpL_simA (P := P) r b a' h k
   unfold sim2 at hs
   by_cases hw : Region.wanted o (yielded ops a.tmps) = true
   ·rw [if_pos hw] at hs
    split at hs
    ·rename_i x ho
     injection hs with hs
     refine wpL_take (a.eval x) hw ?_ (by rw [hs]; exact ih)
     simp [execOp, ho, Sem.run_pure]
    ·rename_i x ho
     injection hs with hs
     refine wpL_take (a.eval x) hw ?_ (by rw [hs]; exact ih)
     simp [execOp, ho, Sem.run_pure]
    ·rename_i c x y ho
     split at hs
     ·rename_i b' hb
      injection hs with hs
      refine wpL_take (if b' = true then a.eval x else a.eval y) hw ?_ (by rw [hs]; exact ih)
      simp [execOp, ho, hb, asBool, Sem.run_bind, Sem.run_pure, Result.andThen]
     ·cases hs
    ·cases hs
   ·rw [if_neg hw] at hs
    injection hs with hs
    refine wpL_skip (by simpa using hw) (by rw [hs]; exact ih)
theorem no_nf {x y : No} (h : x ≠ y) : sameNo x y = false := by
 rw [Bool.eq_false_iff]
 exact fun e => h ((sameNo_eq _ _).1 e)
set_option maxRecDepth 100000 in
set_option maxHeartbeats 40000000 in
theorem psnode_any (X Y : NoV) (w : World) (R : X.ok w) (R2 : Y.ok w) :
  Calls Tryz.prog 35 #[X.val, Y.val] w fun e w' => e = .returned (.bool (sameNo X.no Y.no)) ∧ w.grownBy w' none := by
 obtain ⟨xk, xm, xu, xg, xi, xz, xda, xdl, xdc, xd, xt, xv, xaa, xal, xac, xat, xka, xkl, xkc, xki, xp, xl⟩ := X
 obtain ⟨yk, ym, yu, yg, yi, yz, yda, ydl, ydc, yd, yt, yv, yaa, yal, yac, yat, yka, ykl, ykc, yki, yp, yl⟩ := Y
 simp only [NoV.val]
 have HO0 : Hid _ := xai R R2
 clear R R2
 generalize HSS : sameNo (NoV.no ⟨xk, xm, xu, xg, xi, xz, xda, xdl, xdc, xd, xt, xv, xaa, xal, xac, xat, xka, xkl, xkc, xki, xp, xl⟩) (NoV.no ⟨yk, ym, yu, yg, yi, yz, yda, ydl, ydc, yd, yt, yv, yaa, yal, yac, yat, yka, ykl, ykc, yki, yp, yl⟩) = SS
 have HS : Hid _ := HSS
 clear HSS
 have hX : Bx ((w.alloc (.cells #[.int .i64 xk, .int .i64 xm, .int .i64 xu, .int .i64 xg, .int .i64 xi, .int .i64 xz, .slice xda xdl xdc, .string xt, .int .i64 xv, .slice xaa xal xac, .slice xka xkl xkc, .int .i64 xp, .int .i64 xl] 43)).alloc (.cells #[.int .i64 yk, .int .i64 ym, .int .i64 yu, .int .i64 yg, .int .i64 yi, .int .i64 yz, .slice yda ydl ydc, .string yt, .int .i64 yv, .slice yaa yal yac, .slice yka ykl ykc, .int .i64 yp, .int .i64 yl] 43)) w.heap.size 43 [.int .i64 xk, .int .i64 xm, .int .i64 xu, .int .i64 xg, .int .i64 xi, .int .i64 xz, .slice xda xdl xdc, .string xt, .int .i64 xv, .slice xaa xal xac, .slice xka xkl xkc, .int .i64 xp, .int .i64 xl] := (Bx.new w _ _).kept (xga _ _ none)
 have hY : Bx ((w.alloc (.cells #[.int .i64 xk, .int .i64 xm, .int .i64 xu, .int .i64 xg, .int .i64 xi, .int .i64 xz, .slice xda xdl xdc, .string xt, .int .i64 xv, .slice xaa xal xac, .slice xka xkl xkc, .int .i64 xp, .int .i64 xl] 43)).alloc (.cells #[.int .i64 yk, .int .i64 ym, .int .i64 yu, .int .i64 yg, .int .i64 yi, .int .i64 yz, .slice yda ydl ydc, .string yt, .int .i64 yv, .slice yaa yal yac, .slice yka ykl ykc, .int .i64 yp, .int .i64 yl] 43)) (w.heap.size + 1) 43 [.int .i64 yk, .int .i64 ym, .int .i64 yu, .int .i64 yg, .int .i64 yi, .int .i64 yz, .slice yda ydl ydc, .string yt, .int .i64 yv, .slice yaa yal yac, .slice yka ykl ykc, .int .i64 yp, .int .i64 yl] := by
  have := Bx.new (w.alloc (.cells #[.int .i64 xk, .int .i64 xm, .int .i64 xu, .int .i64 xg, .int .i64 xi, .int .i64 xz, .slice xda xdl xdc, .string xt, .int .i64 xv, .slice xaa xal xac, .slice xka xkl xkc, .int .i64 xp, .int .i64 xl] 43)) 43 [.int .i64 yk, .int .i64 ym, .int .i64 yu, .int .i64 yg, .int .i64 yi, .int .i64 yz, .slice yda ydl ydc, .string yt, .int .i64 yv, .slice yaa yal yac, .slice yka ykl ykc, .int .i64 yp, .int .i64 yl]
  simpa using this
 have HG2 : Hid (w.grownBy ((w.alloc (.cells #[.int .i64 xk, .int .i64 xm, .int .i64 xu, .int .i64 xg, .int .i64 xi, .int .i64 xz, .slice xda xdl xdc, .string xt, .int .i64 xv, .slice xaa xal xac, .slice xka xkl xkc, .int .i64 xp, .int .i64 xl] 43)).alloc (.cells #[.int .i64 yk, .int .i64 ym, .int .i64 yu, .int .i64 yg, .int .i64 yi, .int .i64 yz, .slice yda ydl ydc, .string yt, .int .i64 yv, .slice yaa yal yac, .slice yka ykl ykc, .int .i64 yp, .int .i64 yl] 43)) none) := xgt (xga _ _ none) (xga _ _ none)
 have HB : Hid _ := xai hX hY
 clear hX hY
 go_enter Tryz.func35, Tryz.ntmps35
 refine wp_seq_k (fun K2 hK2 => ?_)
 have HK2 : Hid _ := hK2
 clear hK2
 go_wp2_with fail
 refine HK2.out _ _ ?_
 clear HK2 K2
 refine wp_seq_k (fun K5 hK5 => ?_)
 refine wp_region_lit ?_
 have HK5 : Hid _ := hK5
 clear hK5
 generalize (w.alloc (.cells #[.int .i64 xk, .int .i64 xm, .int .i64 xu, .int .i64 xg, .int .i64 xi, .int .i64 xz, .slice xda xdl xdc, .string xt, .int .i64 xv, .slice xaa xal xac, .slice xka xkl xkc, .int .i64 xp, .int .i64 xl] 43)).alloc (.cells #[.int .i64 yk, .int .i64 ym, .int .i64 yu, .int .i64 yg, .int .i64 yi, .int .i64 yz, .slice yda ydl ydc, .string yt, .int .i64 yv, .slice yaa yal yac, .slice yka ykl ykc, .int .i64 yp, .int .i64 yl] 43) = WE at *
 generalize w.heap.size = q at *
 obtain ⟨X0, X1, X2, X3, X4, X5, X6, X7, X8, X9, X10, X11, X12⟩ := bx13 HB.out.1
 obtain ⟨Y0, Y1, Y2, Y3, Y4, Y5, Y6, Y7, Y8, Y9, Y10, Y11, Y12⟩ := bx13 HB.out.2
 have HO : Hid _ := xai (HO0.out.1.grown HG2.out) (HO0.out.2.grown HG2.out)
 clear HO0
 refine wpL_take (.pointer (some ⟨q, 0, none⟩)) (by rfl) (by go_simp) ?_
 simp only [Act.put, pu]
 refine wpL_take (.int .i64 xk) (by rfl) (by go_simp) ?_
 simp only [Act.put, pu]
 refine wpL_take (.pointer (some ⟨q + 1, 0, none⟩)) (by rfl) (by go_simp) ?_
 simp only [Act.put, pu]
 refine wpL_take (.int .i64 yk) (by rfl) (by go_simp) ?_
 simp only [Act.put, pu]
 by_cases e0 : xk = yk
 rotate_left
 ·have eb : (xk == yk) = false := by simpa using e0
  have HV : Hid (SS = false) := by
   show SS = false
   rw [← HS.out]
   exact no_nf (fun h => e0 (congrArg No.k h))
  refine wpL_take (.bool false) (by rfl) (by go_simp; try first | exact e0 | simp [eb]) ?_
  simp only [Act.put, pu]
  clear e0
  refine wpL_simA _ _ { tmps := #[.agg #[.int .i64 xk, .int .i64 xm, .int .i64 xu, .int .i64 xg, .int .i64 xi, .int .i64 xz, .slice xda xdl xdc, .string xt, .int .i64 xv, .slice xaa xal xac, .slice xka xkl xkc, .int .i64 xp, .int .i64 xl], .agg #[.int .i64 yk, .int .i64 ym, .int .i64 yu, .int .i64 yg, .int .i64 yi, .int .i64 yz, .slice yda ydl ydc, .string yt, .int .i64 yv, .slice yaa yal yac, .slice yka ykl ykc, .int .i64 yp, .int .i64 yl], .pointer (some ⟨q, 0, none⟩), .pointer (some ⟨q + 1, 0, none⟩), .bool false, .pointer (some ⟨q, 0, none⟩), .int .i64 xk, .pointer (some ⟨q + 1, 0, none⟩), .int .i64 yk, .bool false, .bool false, undef, undef, undef, undef, undef, .bool false, .bool false, undef, undef, undef, undef, undef, .bool false, .bool false, undef, undef, undef, undef, undef, .bool false, .bool false, undef, undef, undef, undef, undef, .bool false, .bool false, undef, undef, undef, undef, undef, .bool false, .bool false, undef, undef, undef, undef, undef, .bool false, .bool false, undef, undef, undef, undef, undef, .bool false, .bool false, undef, undef, undef, undef, undef, .bool false, .bool false, undef, undef, undef, undef, undef, .bool false, .bool false, undef, undef, undef, undef, undef, .bool false, .bool false, undef, undef, undef, undef, undef, .bool false, .bool false, undef, undef, undef, undef, undef, .bool false], defers := [] } (by kernel_rfl) ?_
  refine HK5.out _ _ ?_
  clear HK5
  go_wp2_with fail
  go_ret
  exact ⟨by rw [HV.out]; rfl, HG2.out⟩
 have eb0 : (xk == yk) = true := by simpa using e0
 refine wpL_take (.bool true) (by rfl) (by go_simp; try first | exact e0 | simp [eb0]) ?_
 simp only [Act.put, pu]
 refine wpL_take (.bool true) (by rfl) (by go_simp) ?_
 simp only [Act.put, pu]
 clear eb0
 have HQ0 : Hid _ := e0
 clear e0
 refine wpL_take (.pointer (some ⟨q, 1, none⟩)) (by rfl) (by go_simp) ?_
 simp only [Act.put, pu]
 refine wpL_take (.int .i64 xm) (by rfl) (by go_simp) ?_
 simp only [Act.put, pu]
 refine wpL_take (.pointer (some ⟨q + 1, 1, none⟩)) (by rfl) (by go_simp) ?_
 simp only [Act.put, pu]
 refine wpL_take (.int .i64 ym) (by rfl) (by go_simp) ?_
 simp only [Act.put, pu]
 by_cases e1 : xm = ym
 rotate_left
 ·have eb : (xm == ym) = false := by simpa using e1
  have HV : Hid (SS = false) := by
   show SS = false
   rw [← HS.out]
   exact no_nf (fun h => e1 (congrArg No.mode h))
  refine wpL_take (.bool false) (by rfl) (by go_simp; try first | exact e1 | simp [eb]) ?_
  simp only [Act.put, pu]
  clear e1
  refine wpL_simA _ _ { tmps := #[.agg #[.int .i64 xk, .int .i64 xm, .int .i64 xu, .int .i64 xg, .int .i64 xi, .int .i64 xz, .slice xda xdl xdc, .string xt, .int .i64 xv, .slice xaa xal xac, .slice xka xkl xkc, .int .i64 xp, .int .i64 xl], .agg #[.int .i64 yk, .int .i64 ym, .int .i64 yu, .int .i64 yg, .int .i64 yi, .int .i64 yz, .slice yda ydl ydc, .string yt, .int .i64 yv, .slice yaa yal yac, .slice yka ykl ykc, .int .i64 yp, .int .i64 yl], .pointer (some ⟨q, 0, none⟩), .pointer (some ⟨q + 1, 0, none⟩), .bool false, .pointer (some ⟨q, 0, none⟩), .int .i64 xk, .pointer (some ⟨q + 1, 0, none⟩), .int .i64 yk, .bool true, .bool true, .pointer (some ⟨q, 1, none⟩), .int .i64 xm, .pointer (some ⟨q + 1, 1, none⟩), .int .i64 ym, .bool false, .bool false, .bool false, undef, undef, undef, undef, undef, .bool false, .bool false, undef, undef, undef, undef, undef, .bool false, .bool false, undef, undef, undef, undef, undef, .bool false, .bool false, undef, undef, undef, undef, undef, .bool false, .bool false, undef, undef, undef, undef, undef, .bool false, .bool false, undef, undef, undef, undef, undef, .bool false, .bool false, undef, undef, undef, undef, undef, .bool false, .bool false, undef, undef, undef, undef, undef, .bool false, .bool false, undef, undef, undef, undef, undef, .bool false, .bool false, undef, undef, undef, undef, undef, .bool false, .bool false, undef, undef, undef, undef, undef, .bool false], defers := [] } (by kernel_rfl) ?_
  refine HK5.out _ _ ?_
  clear HK5
  go_wp2_with fail
  go_ret
  exact ⟨by rw [HV.out]; rfl, HG2.out⟩
 have eb1 : (xm == ym) = true := by simpa using e1
 refine wpL_take (.bool true) (by rfl) (by go_simp; try first | exact e1 | simp [eb1]) ?_
 simp only [Act.put, pu]
 refine wpL_take (.bool true) (by rfl) (by go_simp) ?_
 simp only [Act.put, pu]
 refine wpL_take (.bool true) (by rfl) (by go_simp) ?_
 simp only [Act.put, pu]
 clear eb1
 have HQ1 : Hid _ := e1
 clear e1
 refine wpL_take (.pointer (some ⟨q, 2, none⟩)) (by rfl) (by go_simp) ?_
 simp only [Act.put, pu]
 refine wpL_take (.int .i64 xu) (by rfl) (by go_simp) ?_
 simp only [Act.put, pu]
 refine wpL_take (.pointer (some ⟨q + 1, 2, none⟩)) (by rfl) (by go_simp) ?_
 simp only [Act.put, pu]
 refine wpL_take (.int .i64 yu) (by rfl) (by go_simp) ?_
 simp only [Act.put, pu]
 by_cases e2 : xu = yu
 rotate_left
 ·have eb : (xu == yu) = false := by simpa using e2
  have HV : Hid (SS = false) := by
   show SS = false
   rw [← HS.out]
   exact no_nf (fun h => e2 (congrArg No.uid h))
  refine wpL_take (.bool false) (by rfl) (by go_simp; try first | exact e2 | simp [eb]) ?_
  simp only [Act.put, pu]
  clear e2
  refine wpL_simA _ _ { tmps := #[.agg #[.int .i64 xk, .int .i64 xm, .int .i64 xu, .int .i64 xg, .int .i64 xi, .int .i64 xz, .slice xda xdl xdc, .string xt, .int .i64 xv, .slice xaa xal xac, .slice xka xkl xkc, .int .i64 xp, .int .i64 xl], .agg #[.int .i64 yk, .int .i64 ym, .int .i64 yu, .int .i64 yg, .int .i64 yi, .int .i64 yz, .slice yda ydl ydc, .string yt, .int .i64 yv, .slice yaa yal yac, .slice yka ykl ykc, .int .i64 yp, .int .i64 yl], .pointer (some ⟨q, 0, none⟩), .pointer (some ⟨q + 1, 0, none⟩), .bool false, .pointer (some ⟨q, 0, none⟩), .int .i64 xk, .pointer (some ⟨q + 1, 0, none⟩), .int .i64 yk, .bool true, .bool true, .pointer (some ⟨q, 1, none⟩), .int .i64 xm, .pointer (some ⟨q + 1, 1, none⟩), .int .i64 ym, .bool true, .bool true, .bool true, .pointer (some ⟨q, 2, none⟩), .int .i64 xu, .pointer (some ⟨q + 1, 2, none⟩), .int .i64 yu, .bool false, .bool false, .bool false, undef, undef, undef, undef, undef, .bool false, .bool false, undef, undef, undef, undef, undef, .bool false, .bool false, undef, undef, undef, undef, undef, .bool false, .bool false, undef, undef, undef, undef, undef, .bool false, .bool false, undef, undef, undef, undef, undef, .bool false, .bool false, undef, undef, undef, undef, undef, .bool false, .bool false, undef, undef, undef, undef, undef, .bool false, .bool false, undef, undef, undef, undef, undef, .bool false, .bool false, undef, undef, undef, undef, undef, .bool false, .bool false, undef, undef, undef, undef, undef, .bool false], defers := [] } (by kernel_rfl) ?_
  refine HK5.out _ _ ?_
  clear HK5
  go_wp2_with fail
  go_ret
  exact ⟨by rw [HV.out]; rfl, HG2.out⟩
 have eb2 : (xu == yu) = true := by simpa using e2
 refine wpL_take (.bool true) (by rfl) (by go_simp; try first | exact e2 | simp [eb2]) ?_
 simp only [Act.put, pu]
 refine wpL_take (.bool true) (by rfl) (by go_simp) ?_
 simp only [Act.put, pu]
 refine wpL_take (.bool true) (by rfl) (by go_simp) ?_
 simp only [Act.put, pu]
 clear eb2
 have HQ2 : Hid _ := e2
 clear e2
 refine wpL_take (.pointer (some ⟨q, 3, none⟩)) (by rfl) (by go_simp) ?_
 simp only [Act.put, pu]
 refine wpL_take (.int .i64 xg) (by rfl) (by go_simp) ?_
 simp only [Act.put, pu]
 refine wpL_take (.pointer (some ⟨q + 1, 3, none⟩)) (by rfl) (by go_simp) ?_
 simp only [Act.put, pu]
 refine wpL_take (.int .i64 yg) (by rfl) (by go_simp) ?_
 simp only [Act.put, pu]
 by_cases e3 : xg = yg
 rotate_left
 ·have eb : (xg == yg) = false := by simpa using e3
  have HV : Hid (SS = false) := by
   show SS = false
   rw [← HS.out]
   exact no_nf (fun h => e3 (congrArg No.gid h))
  refine wpL_take (.bool false) (by rfl) (by go_simp; try first | exact e3 | simp [eb]) ?_
  simp only [Act.put, pu]
  clear e3
  refine wpL_simA _ _ { tmps := #[.agg #[.int .i64 xk, .int .i64 xm, .int .i64 xu, .int .i64 xg, .int .i64 xi, .int .i64 xz, .slice xda xdl xdc, .string xt, .int .i64 xv, .slice xaa xal xac, .slice xka xkl xkc, .int .i64 xp, .int .i64 xl], .agg #[.int .i64 yk, .int .i64 ym, .int .i64 yu, .int .i64 yg, .int .i64 yi, .int .i64 yz, .slice yda ydl ydc, .string yt, .int .i64 yv, .slice yaa yal yac, .slice yka ykl ykc, .int .i64 yp, .int .i64 yl], .pointer (some ⟨q, 0, none⟩), .pointer (some ⟨q + 1, 0, none⟩), .bool false, .pointer (some ⟨q, 0, none⟩), .int .i64 xk, .pointer (some ⟨q + 1, 0, none⟩), .int .i64 yk, .bool true, .bool true, .pointer (some ⟨q, 1, none⟩), .int .i64 xm, .pointer (some ⟨q + 1, 1, none⟩), .int .i64 ym, .bool true, .bool true, .bool true, .pointer (some ⟨q, 2, none⟩), .int .i64 xu, .pointer (some ⟨q + 1, 2, none⟩), .int .i64 yu, .bool true, .bool true, .bool true, .pointer (some ⟨q, 3, none⟩), .int .i64 xg, .pointer (some ⟨q + 1, 3, none⟩), .int .i64 yg, .bool false, .bool false, .bool false, undef, undef, undef, undef, undef, .bool false, .bool false, undef, undef, undef, undef, undef, .bool false, .bool false, undef, undef, undef, undef, undef, .bool false, .bool false, undef, undef, undef, undef, undef, .bool false, .bool false, undef, undef, undef, undef, undef, .bool false, .bool false, undef, undef, undef, undef, undef, .bool false, .bool false, undef, undef, undef, undef, undef, .bool false, .bool false, undef, undef, undef, undef, undef, .bool false, .bool false, undef, undef, undef, undef, undef, .bool false], defers := [] } (by kernel_rfl) ?_
  refine HK5.out _ _ ?_
  clear HK5
  go_wp2_with fail
  go_ret
  exact ⟨by rw [HV.out]; rfl, HG2.out⟩
 have eb3 : (xg == yg) = true := by simpa using e3
 refine wpL_take (.bool true) (by rfl) (by go_simp; try first | exact e3 | simp [eb3]) ?_
 simp only [Act.put, pu]
 refine wpL_take (.bool true) (by rfl) (by go_simp) ?_
 simp only [Act.put, pu]
 refine wpL_take (.bool true) (by rfl) (by go_simp) ?_
 simp only [Act.put, pu]
 clear eb3
 have HQ3 : Hid _ := e3
 clear e3
 refine wpL_take (.pointer (some ⟨q, 4, none⟩)) (by rfl) (by go_simp) ?_
 simp only [Act.put, pu]
 refine wpL_take (.int .i64 xi) (by rfl) (by go_simp) ?_
 simp only [Act.put, pu]
 refine wpL_take (.pointer (some ⟨q + 1, 4, none⟩)) (by rfl) (by go_simp) ?_
 simp only [Act.put, pu]
 refine wpL_take (.int .i64 yi) (by rfl) (by go_simp) ?_
 simp only [Act.put, pu]
 by_cases e4 : xi = yi
 rotate_left
 ·have eb : (xi == yi) = false := by simpa using e4
  have HV : Hid (SS = false) := by
   show SS = false
   rw [← HS.out]
   exact no_nf (fun h => e4 (congrArg No.time h))
  refine wpL_take (.bool false) (by rfl) (by go_simp; try first | exact e4 | simp [eb]) ?_
  simp only [Act.put, pu]
  clear e4
  refine wpL_simA _ _ { tmps := #[.agg #[.int .i64 xk, .int .i64 xm, .int .i64 xu, .int .i64 xg, .int .i64 xi, .int .i64 xz, .slice xda xdl xdc, .string xt, .int .i64 xv, .slice xaa xal xac, .slice xka xkl xkc, .int .i64 xp, .int .i64 xl], .agg #[.int .i64 yk, .int .i64 ym, .int .i64 yu, .int .i64 yg, .int .i64 yi, .int .i64 yz, .slice yda ydl ydc, .string yt, .int .i64 yv, .slice yaa yal yac, .slice yka ykl ykc, .int .i64 yp, .int .i64 yl], .pointer (some ⟨q, 0, none⟩), .pointer (some ⟨q + 1, 0, none⟩), .bool false, .pointer (some ⟨q, 0, none⟩), .int .i64 xk, .pointer (some ⟨q + 1, 0, none⟩), .int .i64 yk, .bool true, .bool true, .pointer (some ⟨q, 1, none⟩), .int .i64 xm, .pointer (some ⟨q + 1, 1, none⟩), .int .i64 ym, .bool true, .bool true, .bool true, .pointer (some ⟨q, 2, none⟩), .int .i64 xu, .pointer (some ⟨q + 1, 2, none⟩), .int .i64 yu, .bool true, .bool true, .bool true, .pointer (some ⟨q, 3, none⟩), .int .i64 xg, .pointer (some ⟨q + 1, 3, none⟩), .int .i64 yg, .bool true, .bool true, .bool true, .pointer (some ⟨q, 4, none⟩), .int .i64 xi, .pointer (some ⟨q + 1, 4, none⟩), .int .i64 yi, .bool false, .bool false, .bool false, undef, undef, undef, undef, undef, .bool false, .bool false, undef, undef, undef, undef, undef, .bool false, .bool false, undef, undef, undef, undef, undef, .bool false, .bool false, undef, undef, undef, undef, undef, .bool false, .bool false, undef, undef, undef, undef, undef, .bool false, .bool false, undef, undef, undef, undef, undef, .bool false, .bool false, undef, undef, undef, undef, undef, .bool false, .bool false, undef, undef, undef, undef, undef, .bool false], defers := [] } (by kernel_rfl) ?_
  refine HK5.out _ _ ?_
  clear HK5
  go_wp2_with fail
  go_ret
  exact ⟨by rw [HV.out]; rfl, HG2.out⟩
 have eb4 : (xi == yi) = true := by simpa using e4
 refine wpL_take (.bool true) (by rfl) (by go_simp; try first | exact e4 | simp [eb4]) ?_
 simp only [Act.put, pu]
 refine wpL_take (.bool true) (by rfl) (by go_simp) ?_
 simp only [Act.put, pu]
 refine wpL_take (.bool true) (by rfl) (by go_simp) ?_
 simp only [Act.put, pu]
 clear eb4
 have HQ4 : Hid _ := e4
 clear e4
 refine wpL_take (.pointer (some ⟨q, 5, none⟩)) (by rfl) (by go_simp) ?_
 simp only [Act.put, pu]
 refine wpL_take (.int .i64 xz) (by rfl) (by go_simp) ?_
 simp only [Act.put, pu]
 refine wpL_take (.pointer (some ⟨q + 1, 5, none⟩)) (by rfl) (by go_simp) ?_
 simp only [Act.put, pu]
 refine wpL_take (.int .i64 yz) (by rfl) (by go_simp) ?_
 simp only [Act.put, pu]
 by_cases e5 : xz = yz
 rotate_left
 ·have eb : (xz == yz) = false := by simpa using e5
  have HV : Hid (SS = false) := by
   show SS = false
   rw [← HS.out]
   exact no_nf (fun h => e5 (congrArg No.size h))
  refine wpL_take (.bool false) (by rfl) (by go_simp; try first | exact e5 | simp [eb]) ?_
  simp only [Act.put, pu]
  clear e5
  refine wpL_simA _ _ { tmps := #[.agg #[.int .i64 xk, .int .i64 xm, .int .i64 xu, .int .i64 xg, .int .i64 xi, .int .i64 xz, .slice xda xdl xdc, .string xt, .int .i64 xv, .slice xaa xal xac, .slice xka xkl xkc, .int .i64 xp, .int .i64 xl], .agg #[.int .i64 yk, .int .i64 ym, .int .i64 yu, .int .i64 yg, .int .i64 yi, .int .i64 yz, .slice yda ydl ydc, .string yt, .int .i64 yv, .slice yaa yal yac, .slice yka ykl ykc, .int .i64 yp, .int .i64 yl], .pointer (some ⟨q, 0, none⟩), .pointer (some ⟨q + 1, 0, none⟩), .bool false, .pointer (some ⟨q, 0, none⟩), .int .i64 xk, .pointer (some ⟨q + 1, 0, none⟩), .int .i64 yk, .bool true, .bool true, .pointer (some ⟨q, 1, none⟩), .int .i64 xm, .pointer (some ⟨q + 1, 1, none⟩), .int .i64 ym, .bool true, .bool true, .bool true, .pointer (some ⟨q, 2, none⟩), .int .i64 xu, .pointer (some ⟨q + 1, 2, none⟩), .int .i64 yu, .bool true, .bool true, .bool true, .pointer (some ⟨q, 3, none⟩), .int .i64 xg, .pointer (some ⟨q + 1, 3, none⟩), .int .i64 yg, .bool true, .bool true, .bool true, .pointer (some ⟨q, 4, none⟩), .int .i64 xi, .pointer (some ⟨q + 1, 4, none⟩), .int .i64 yi, .bool true, .bool true, .bool true, .pointer (some ⟨q, 5, none⟩), .int .i64 xz, .pointer (some ⟨q + 1, 5, none⟩), .int .i64 yz, .bool false, .bool false, .bool false, undef, undef, undef, undef, undef, .bool false, .bool false, undef, undef, undef, undef, undef, .bool false, .bool false, undef, undef, undef, undef, undef, .bool false, .bool false, undef, undef, undef, undef, undef, .bool false, .bool false, undef, undef, undef, undef, undef, .bool false, .bool false, undef, undef, undef, undef, undef, .bool false, .bool false, undef, undef, undef, undef, undef, .bool false], defers := [] } (by kernel_rfl) ?_
  refine HK5.out _ _ ?_
  clear HK5
  go_wp2_with fail
  go_ret
  exact ⟨by rw [HV.out]; rfl, HG2.out⟩
 have eb5 : (xz == yz) = true := by simpa using e5
 refine wpL_take (.bool true) (by rfl) (by go_simp; try first | exact e5 | simp [eb5]) ?_
 simp only [Act.put, pu]
 refine wpL_take (.bool true) (by rfl) (by go_simp) ?_
 simp only [Act.put, pu]
 refine wpL_take (.bool true) (by rfl) (by go_simp) ?_
 simp only [Act.put, pu]
 clear eb5
 have HQ5 : Hid _ := e5
 clear e5
 refine wpL_take (.pointer (some ⟨q, 6, none⟩)) (by rfl) (by go_simp) ?_
 simp only [Act.put, pu]
 refine wpL_take (.slice xda xdl xdc) (by rfl) (by go_simp) ?_
 simp only [Act.put, pu]
 refine wpL_take (.pointer (some ⟨q + 1, 6, none⟩)) (by rfl) (by go_simp) ?_
 simp only [Act.put, pu]
 refine wpL_take (.slice yda ydl ydc) (by rfl) (by go_simp) ?_
 simp only [Act.put, pu]
 have hcall := pequal11_any xda yda xdl xdc ydl ydc xd yd WE HO.out.1.row HO.out.2.row
 generalize hsb : decide (xd = yd) = sb at hcall
 have HQ6 : Hid _ := hsb
 clear hsb
 refine BigFrame.wpList_want (by rfl) (fun K3 hK3 => ?_)
 unfold Oper.wp
 go_simp
 refine hcall.mono ?_
 clear hcall
 rintro e W6 ⟨rfl, rfl⟩
 refine hK3 _ _ ?_
 clear hK3 K3
 cases sb with
 | false =>
  have HV : Hid (SS = false) := by
   show SS = false
   rw [← HS.out]
   refine no_nf (fun h => ?_)
   have h2 := HQ6.out
   have h3 : decide (xd = yd) = true := decide_eq_true (congrArg No.data h)
   rw [h3] at h2
   cases h2
  refine wpL_simA _ _ { tmps := #[.agg #[.int .i64 xk, .int .i64 xm, .int .i64 xu, .int .i64 xg, .int .i64 xi, .int .i64 xz, .slice xda xdl xdc, .string xt, .int .i64 xv, .slice xaa xal xac, .slice xka xkl xkc, .int .i64 xp, .int .i64 xl], .agg #[.int .i64 yk, .int .i64 ym, .int .i64 yu, .int .i64 yg, .int .i64 yi, .int .i64 yz, .slice yda ydl ydc, .string yt, .int .i64 yv, .slice yaa yal yac, .slice yka ykl ykc, .int .i64 yp, .int .i64 yl], .pointer (some ⟨q, 0, none⟩), .pointer (some ⟨q + 1, 0, none⟩), .bool false, .pointer (some ⟨q, 0, none⟩), .int .i64 xk, .pointer (some ⟨q + 1, 0, none⟩), .int .i64 yk, .bool true, .bool true, .pointer (some ⟨q, 1, none⟩), .int .i64 xm, .pointer (some ⟨q + 1, 1, none⟩), .int .i64 ym, .bool true, .bool true, .bool true, .pointer (some ⟨q, 2, none⟩), .int .i64 xu, .pointer (some ⟨q + 1, 2, none⟩), .int .i64 yu, .bool true, .bool true, .bool true, .pointer (some ⟨q, 3, none⟩), .int .i64 xg, .pointer (some ⟨q + 1, 3, none⟩), .int .i64 yg, .bool true, .bool true, .bool true, .pointer (some ⟨q, 4, none⟩), .int .i64 xi, .pointer (some ⟨q + 1, 4, none⟩), .int .i64 yi, .bool true, .bool true, .bool true, .pointer (some ⟨q, 5, none⟩), .int .i64 xz, .pointer (some ⟨q + 1, 5, none⟩), .int .i64 yz, .bool true, .bool true, .bool true, .pointer (some ⟨q, 6, none⟩), .slice xda xdl xdc, .pointer (some ⟨q + 1, 6, none⟩), .slice yda ydl ydc, .bool false, .bool false, .bool false, undef, undef, undef, undef, undef, .bool false, .bool false, undef, undef, undef, undef, undef, .bool false, .bool false, undef, undef, undef, undef, undef, .bool false, .bool false, undef, undef, undef, undef, undef, .bool false, .bool false, undef, undef, undef, undef, undef, .bool false, .bool false, undef, undef, undef, undef, undef, .bool false], defers := [] } (by kernel_rfl) ?_
  refine HK5.out _ _ ?_
  clear HK5
  go_wp2_with fail
  go_ret
  exact ⟨by rw [HV.out]; rfl, HG2.out⟩
 | true =>
  refine wpL_take (.bool true) (by rfl) (by go_simp) ?_
  simp only [Act.put, pu]
  refine wpL_take (.bool true) (by rfl) (by go_simp) ?_
  simp only [Act.put, pu]
  refine wpL_take (.pointer (some ⟨q, 7, none⟩)) (by rfl) (by go_simp) ?_
  simp only [Act.put, pu]
  refine wpL_take (.string xt) (by rfl) (by go_simp) ?_
  simp only [Act.put, pu]
  refine wpL_take (.pointer (some ⟨q + 1, 7, none⟩)) (by rfl) (by go_simp) ?_
  simp only [Act.put, pu]
  refine wpL_take (.string yt) (by rfl) (by go_simp) ?_
  simp only [Act.put, pu]
  by_cases e7 : xt.toList = yt.toList
  rotate_left
  ·have eb : (xt.toList == yt.toList) = false := by simpa using e7
   have HV : Hid (SS = false) := by
    show SS = false
    rw [← HS.out]
    exact no_nf (fun h => e7 (congrArg No.target h))
   refine wpL_take (.bool false) (by rfl) (by go_simp; try first | exact e7 | simp [eb]) ?_
   simp only [Act.put, pu]
   clear e7
   refine wpL_simA _ _ { tmps := #[.agg #[.int .i64 xk, .int .i64 xm, .int .i64 xu, .int .i64 xg, .int .i64 xi, .int .i64 xz, .slice xda xdl xdc, .string xt, .int .i64 xv, .slice xaa xal xac, .slice xka xkl xkc, .int .i64 xp, .int .i64 xl], .agg #[.int .i64 yk, .int .i64 ym, .int .i64 yu, .int .i64 yg, .int .i64 yi, .int .i64 yz, .slice yda ydl ydc, .string yt, .int .i64 yv, .slice yaa yal yac, .slice yka ykl ykc, .int .i64 yp, .int .i64 yl], .pointer (some ⟨q, 0, none⟩), .pointer (some ⟨q + 1, 0, none⟩), .bool false, .pointer (some ⟨q, 0, none⟩), .int .i64 xk, .pointer (some ⟨q + 1, 0, none⟩), .int .i64 yk, .bool true, .bool true, .pointer (some ⟨q, 1, none⟩), .int .i64 xm, .pointer (some ⟨q + 1, 1, none⟩), .int .i64 ym, .bool true, .bool true, .bool true, .pointer (some ⟨q, 2, none⟩), .int .i64 xu, .pointer (some ⟨q + 1, 2, none⟩), .int .i64 yu, .bool true, .bool true, .bool true, .pointer (some ⟨q, 3, none⟩), .int .i64 xg, .pointer (some ⟨q + 1, 3, none⟩), .int .i64 yg, .bool true, .bool true, .bool true, .pointer (some ⟨q, 4, none⟩), .int .i64 xi, .pointer (some ⟨q + 1, 4, none⟩), .int .i64 yi, .bool true, .bool true, .bool true, .pointer (some ⟨q, 5, none⟩), .int .i64 xz, .pointer (some ⟨q + 1, 5, none⟩), .int .i64 yz, .bool true, .bool true, .bool true, .pointer (some ⟨q, 6, none⟩), .slice xda xdl xdc, .pointer (some ⟨q + 1, 6, none⟩), .slice yda ydl ydc, .bool true, .bool true, .bool true, .pointer (some ⟨q, 7, none⟩), .string xt, .pointer (some ⟨q + 1, 7, none⟩), .string yt, .bool false, .bool false, .bool false, undef, undef, undef, undef, undef, .bool false, .bool false, undef, undef, undef, undef, undef, .bool false, .bool false, undef, undef, undef, undef, undef, .bool false, .bool false, undef, undef, undef, undef, undef, .bool false, .bool false, undef, undef, undef, undef, undef, .bool false], defers := [] } (by kernel_rfl) ?_
   refine HK5.out _ _ ?_
   clear HK5
   go_wp2_with fail
   go_ret
   exact ⟨by rw [HV.out]; rfl, HG2.out⟩
  have eb7 : (xt.toList == yt.toList) = true := by simpa using e7
  refine wpL_take (.bool true) (by rfl) (by go_simp; try first | exact e7 | simp [eb7]) ?_
  simp only [Act.put, pu]
  refine wpL_take (.bool true) (by rfl) (by go_simp) ?_
  simp only [Act.put, pu]
  refine wpL_take (.bool true) (by rfl) (by go_simp) ?_
  simp only [Act.put, pu]
  clear eb7
  have HQ7 : Hid _ := e7
  clear e7
  refine wpL_take (.pointer (some ⟨q, 8, none⟩)) (by rfl) (by go_simp) ?_
  simp only [Act.put, pu]
  refine wpL_take (.int .i64 xv) (by rfl) (by go_simp) ?_
  simp only [Act.put, pu]
  refine wpL_take (.pointer (some ⟨q + 1, 8, none⟩)) (by rfl) (by go_simp) ?_
  simp only [Act.put, pu]
  refine wpL_take (.int .i64 yv) (by rfl) (by go_simp) ?_
  simp only [Act.put, pu]
  by_cases e8 : xv = yv
  rotate_left
  ·have eb : (xv == yv) = false := by simpa using e8
   have HV : Hid (SS = false) := by
    show SS = false
    rw [← HS.out]
    exact no_nf (fun h => e8 (congrArg No.dev h))
   refine wpL_take (.bool false) (by rfl) (by go_simp; try first | exact e8 | simp [eb]) ?_
   simp only [Act.put, pu]
   clear e8
   refine wpL_simA _ _ { tmps := #[.agg #[.int .i64 xk, .int .i64 xm, .int .i64 xu, .int .i64 xg, .int .i64 xi, .int .i64 xz, .slice xda xdl xdc, .string xt, .int .i64 xv, .slice xaa xal xac, .slice xka xkl xkc, .int .i64 xp, .int .i64 xl], .agg #[.int .i64 yk, .int .i64 ym, .int .i64 yu, .int .i64 yg, .int .i64 yi, .int .i64 yz, .slice yda ydl ydc, .string yt, .int .i64 yv, .slice yaa yal yac, .slice yka ykl ykc, .int .i64 yp, .int .i64 yl], .pointer (some ⟨q, 0, none⟩), .pointer (some ⟨q + 1, 0, none⟩), .bool false, .pointer (some ⟨q, 0, none⟩), .int .i64 xk, .pointer (some ⟨q + 1, 0, none⟩), .int .i64 yk, .bool true, .bool true, .pointer (some ⟨q, 1, none⟩), .int .i64 xm, .pointer (some ⟨q + 1, 1, none⟩), .int .i64 ym, .bool true, .bool true, .bool true, .pointer (some ⟨q, 2, none⟩), .int .i64 xu, .pointer (some ⟨q + 1, 2, none⟩), .int .i64 yu, .bool true, .bool true, .bool true, .pointer (some ⟨q, 3, none⟩), .int .i64 xg, .pointer (some ⟨q + 1, 3, none⟩), .int .i64 yg, .bool true, .bool true, .bool true, .pointer (some ⟨q, 4, none⟩), .int .i64 xi, .pointer (some ⟨q + 1, 4, none⟩), .int .i64 yi, .bool true, .bool true, .bool true, .pointer (some ⟨q, 5, none⟩), .int .i64 xz, .pointer (some ⟨q + 1, 5, none⟩), .int .i64 yz, .bool true, .bool true, .bool true, .pointer (some ⟨q, 6, none⟩), .slice xda xdl xdc, .pointer (some ⟨q + 1, 6, none⟩), .slice yda ydl ydc, .bool true, .bool true, .bool true, .pointer (some ⟨q, 7, none⟩), .string xt, .pointer (some ⟨q + 1, 7, none⟩), .string yt, .bool true, .bool true, .bool true, .pointer (some ⟨q, 8, none⟩), .int .i64 xv, .pointer (some ⟨q + 1, 8, none⟩), .int .i64 yv, .bool false, .bool false, .bool false, undef, undef, undef, undef, undef, .bool false, .bool false, undef, undef, undef, undef, undef, .bool false, .bool false, undef, undef, undef, undef, undef, .bool false, .bool false, undef, undef, undef, undef, undef, .bool false], defers := [] } (by kernel_rfl) ?_
   refine HK5.out _ _ ?_
   clear HK5
   go_wp2_with fail
   go_ret
   exact ⟨by rw [HV.out]; rfl, HG2.out⟩
  have eb8 : (xv == yv) = true := by simpa using e8
  refine wpL_take (.bool true) (by rfl) (by go_simp; try first | exact e8 | simp [eb8]) ?_
  simp only [Act.put, pu]
  refine wpL_take (.bool true) (by rfl) (by go_simp) ?_
  simp only [Act.put, pu]
  refine wpL_take (.bool true) (by rfl) (by go_simp) ?_
  simp only [Act.put, pu]
  clear eb8
  have HQ8 : Hid _ := e8
  clear e8
  refine wpL_take (.pointer (some ⟨q, 9, none⟩)) (by rfl) (by go_simp) ?_
  simp only [Act.put, pu]
  refine wpL_take (.slice xaa xal xac) (by rfl) (by go_simp) ?_
  simp only [Act.put, pu]
  refine wpL_take (.pointer (some ⟨q + 1, 9, none⟩)) (by rfl) (by go_simp) ?_
  simp only [Act.put, pu]
  refine wpL_take (.slice yaa yal yac) (by rfl) (by go_simp) ?_
  simp only [Act.put, pu]
  have hcall := peqa_any xaa yaa xal xac yal yac xat yat WE HO.out.1.ats HO.out.2.ats
  generalize hsb : sameAts (xat.map AtV.at) (yat.map AtV.at) = sb at hcall
  have HQ9 : Hid _ := hsb
  clear hsb
  refine BigFrame.wpList_want (by rfl) (fun K3 hK3 => ?_)
  unfold Oper.wp
  go_simp
  refine hcall.mono ?_
  clear hcall
  rintro e W6 ⟨rfl, hg6⟩
  refine hK3 _ _ ?_
  clear hK3 K3
  have HB2 : Hid _ := xai (HB.out.1.kept hg6) (HB.out.2.kept hg6)
  have HG3 : Hid _ := xgt HG2.out hg6
  have HO2 : Hid _ := xai (HO.out.1.grown hg6) (HO.out.2.grown hg6)
  clear HB HG2 HO hg6 X0 X1 X2 X3 X4 X5 X6 X7 X8 X9 X10 X11 X12 Y0 Y1 Y2 Y3 Y4 Y5 Y6 Y7 Y8 Y9 Y10 Y11 Y12
  obtain ⟨-, -, -, -, -, -, -, -, -, -, X10, X11, X12⟩ := bx13 HB2.out.1
  obtain ⟨-, -, -, -, -, -, -, -, -, -, Y10, Y11, Y12⟩ := bx13 HB2.out.2
  have HB : Hid _ := HB2.out
  have HG2 : Hid _ := HG3.out
  have HO : Hid _ := HO2.out
  clear HB2 HG3 HO2
  cases sb with
  | false =>
   have HV : Hid (SS = false) := by
    show SS = false
    rw [← HS.out]
    refine no_nf (fun h => ?_)
    have h2 := HQ9.out
    have h3 : sameAts (xat.map AtV.at) (yat.map AtV.at) = true := (sameAts_eq _ _).2 (congrArg No.attrs h)
    rw [h3] at h2
    cases h2
   refine wpL_simA _ _ { tmps := #[.agg #[.int .i64 xk, .int .i64 xm, .int .i64 xu, .int .i64 xg, .int .i64 xi, .int .i64 xz, .slice xda xdl xdc, .string xt, .int .i64 xv, .slice xaa xal xac, .slice xka xkl xkc, .int .i64 xp, .int .i64 xl], .agg #[.int .i64 yk, .int .i64 ym, .int .i64 yu, .int .i64 yg, .int .i64 yi, .int .i64 yz, .slice yda ydl ydc, .string yt, .int .i64 yv, .slice yaa yal yac, .slice yka ykl ykc, .int .i64 yp, .int .i64 yl], .pointer (some ⟨q, 0, none⟩), .pointer (some ⟨q + 1, 0, none⟩), .bool false, .pointer (some ⟨q, 0, none⟩), .int .i64 xk, .pointer (some ⟨q + 1, 0, none⟩), .int .i64 yk, .bool true, .bool true, .pointer (some ⟨q, 1, none⟩), .int .i64 xm, .pointer (some ⟨q + 1, 1, none⟩), .int .i64 ym, .bool true, .bool true, .bool true, .pointer (some ⟨q, 2, none⟩), .int .i64 xu, .pointer (some ⟨q + 1, 2, none⟩), .int .i64 yu, .bool true, .bool true, .bool true, .pointer (some ⟨q, 3, none⟩), .int .i64 xg, .pointer (some ⟨q + 1, 3, none⟩), .int .i64 yg, .bool true, .bool true, .bool true, .pointer (some ⟨q, 4, none⟩), .int .i64 xi, .pointer (some ⟨q + 1, 4, none⟩), .int .i64 yi, .bool true, .bool true, .bool true, .pointer (some ⟨q, 5, none⟩), .int .i64 xz, .pointer (some ⟨q + 1, 5, none⟩), .int .i64 yz, .bool true, .bool true, .bool true, .pointer (some ⟨q, 6, none⟩), .slice xda xdl xdc, .pointer (some ⟨q + 1, 6, none⟩), .slice yda ydl ydc, .bool true, .bool true, .bool true, .pointer (some ⟨q, 7, none⟩), .string xt, .pointer (some ⟨q + 1, 7, none⟩), .string yt, .bool true, .bool true, .bool true, .pointer (some ⟨q, 8, none⟩), .int .i64 xv, .pointer (some ⟨q + 1, 8, none⟩), .int .i64 yv, .bool true, .bool true, .bool true, .pointer (some ⟨q, 9, none⟩), .slice xaa xal xac, .pointer (some ⟨q + 1, 9, none⟩), .slice yaa yal yac, .bool false, .bool false, .bool false, undef, undef, undef, undef, undef, .bool false, .bool false, undef, undef, undef, undef, undef, .bool false, .bool false, undef, undef, undef, undef, undef, .bool false], defers := [] } (by kernel_rfl) ?_
   refine HK5.out _ _ ?_
   clear HK5
   go_wp2_with fail
   go_ret
   exact ⟨by rw [HV.out]; rfl, HG2.out⟩
  | true =>
   refine wpL_take (.bool true) (by rfl) (by go_simp) ?_
   simp only [Act.put, pu]
   refine wpL_take (.bool true) (by rfl) (by go_simp) ?_
   simp only [Act.put, pu]
   refine wpL_take (.pointer (some ⟨q, 10, none⟩)) (by rfl) (by go_simp) ?_
   simp only [Act.put, pu]
   refine wpL_take (.slice xka xkl xkc) (by rfl) (by go_simp) ?_
   simp only [Act.put, pu]
   refine wpL_take (.pointer (some ⟨q + 1, 10, none⟩)) (by rfl) (by go_simp) ?_
   simp only [Act.put, pu]
   refine wpL_take (.slice yka ykl ykc) (by rfl) (by go_simp) ?_
   simp only [Act.put, pu]
   have hcall := peqk_any xka yka xkl xkc ykl ykc xki yki W6 HO.out.1.kds HO.out.2.kds
   generalize hsb : sameKds xki yki = sb at hcall
   have HQ10 : Hid _ := hsb
   clear hsb
   refine BigFrame.wpList_want (by rfl) (fun K3 hK3 => ?_)
   unfold Oper.wp
   go_simp
   refine hcall.mono ?_
   clear hcall
   rintro e W6 ⟨rfl, t6, rfl⟩
   refine hK3 _ _ ?_
   clear hK3 K3
   have HB2 : Hid _ := xai (HB.out.1.kept (drewG11 (World.grownBy.refl _ _) t6)) (HB.out.2.kept (drewG11 (World.grownBy.refl _ _) t6))
   have HG3 : Hid _ := drewG11 HG2.out t6
   generalize W6.drewN t6 = W7 at *
   clear HB HG2 HO X10 X11 X12 Y10 Y11 Y12
   obtain ⟨-, -, -, -, -, -, -, -, -, -, -, X11, X12⟩ := bx13 HB2.out.1
   obtain ⟨-, -, -, -, -, -, -, -, -, -, -, Y11, Y12⟩ := bx13 HB2.out.2
   have HG2 : Hid _ := HG3.out
   clear HB2 HG3
   cases sb with
   | false =>
    have HV : Hid (SS = false) := by
     show SS = false
     rw [← HS.out]
     refine no_nf (fun h => ?_)
     have h2 := HQ10.out
     have h3 : sameKds xki yki = true := (sameKds_eq _ _).2 (congrArg No.kids h)
     rw [h3] at h2
     cases h2
    refine wpL_simA _ _ { tmps := #[.agg #[.int .i64 xk, .int .i64 xm, .int .i64 xu, .int .i64 xg, .int .i64 xi, .int .i64 xz, .slice xda xdl xdc, .string xt, .int .i64 xv, .slice xaa xal xac, .slice xka xkl xkc, .int .i64 xp, .int .i64 xl], .agg #[.int .i64 yk, .int .i64 ym, .int .i64 yu, .int .i64 yg, .int .i64 yi, .int .i64 yz, .slice yda ydl ydc, .string yt, .int .i64 yv, .slice yaa yal yac, .slice yka ykl ykc, .int .i64 yp, .int .i64 yl], .pointer (some ⟨q, 0, none⟩), .pointer (some ⟨q + 1, 0, none⟩), .bool false, .pointer (some ⟨q, 0, none⟩), .int .i64 xk, .pointer (some ⟨q + 1, 0, none⟩), .int .i64 yk, .bool true, .bool true, .pointer (some ⟨q, 1, none⟩), .int .i64 xm, .pointer (some ⟨q + 1, 1, none⟩), .int .i64 ym, .bool true, .bool true, .bool true, .pointer (some ⟨q, 2, none⟩), .int .i64 xu, .pointer (some ⟨q + 1, 2, none⟩), .int .i64 yu, .bool true, .bool true, .bool true, .pointer (some ⟨q, 3, none⟩), .int .i64 xg, .pointer (some ⟨q + 1, 3, none⟩), .int .i64 yg, .bool true, .bool true, .bool true, .pointer (some ⟨q, 4, none⟩), .int .i64 xi, .pointer (some ⟨q + 1, 4, none⟩), .int .i64 yi, .bool true, .bool true, .bool true, .pointer (some ⟨q, 5, none⟩), .int .i64 xz, .pointer (some ⟨q + 1, 5, none⟩), .int .i64 yz, .bool true, .bool true, .bool true, .pointer (some ⟨q, 6, none⟩), .slice xda xdl xdc, .pointer (some ⟨q + 1, 6, none⟩), .slice yda ydl ydc, .bool true, .bool true, .bool true, .pointer (some ⟨q, 7, none⟩), .string xt, .pointer (some ⟨q + 1, 7, none⟩), .string yt, .bool true, .bool true, .bool true, .pointer (some ⟨q, 8, none⟩), .int .i64 xv, .pointer (some ⟨q + 1, 8, none⟩), .int .i64 yv, .bool true, .bool true, .bool true, .pointer (some ⟨q, 9, none⟩), .slice xaa xal xac, .pointer (some ⟨q + 1, 9, none⟩), .slice yaa yal yac, .bool true, .bool true, .bool true, .pointer (some ⟨q, 10, none⟩), .slice xka xkl xkc, .pointer (some ⟨q + 1, 10, none⟩), .slice yka ykl ykc, .bool false, .bool false, .bool false, undef, undef, undef, undef, undef, .bool false, .bool false, undef, undef, undef, undef, undef, .bool false], defers := [] } (by kernel_rfl) ?_
    refine HK5.out _ _ ?_
    clear HK5
    go_wp2_with fail
    go_ret
    exact ⟨by rw [HV.out]; rfl, HG2.out⟩
   | true =>
    refine wpL_take (.bool true) (by rfl) (by go_simp) ?_
    simp only [Act.put, pu]
    refine wpL_take (.bool true) (by rfl) (by go_simp) ?_
    simp only [Act.put, pu]
    refine wpL_take (.pointer (some ⟨q, 11, none⟩)) (by rfl) (by go_simp) ?_
    simp only [Act.put, pu]
    refine wpL_take (.int .i64 xp) (by rfl) (by go_simp) ?_
    simp only [Act.put, pu]
    refine wpL_take (.pointer (some ⟨q + 1, 11, none⟩)) (by rfl) (by go_simp) ?_
    simp only [Act.put, pu]
    refine wpL_take (.int .i64 yp) (by rfl) (by go_simp) ?_
    simp only [Act.put, pu]
    by_cases e11 : xp = yp
    rotate_left
    ·have eb : (xp == yp) = false := by simpa using e11
     have HV : Hid (SS = false) := by
      show SS = false
      rw [← HS.out]
      exact no_nf (fun h => e11 (congrArg No.parent h))
     refine wpL_take (.bool false) (by rfl) (by go_simp; try first | exact e11 | simp [eb]) ?_
     simp only [Act.put, pu]
     clear e11
     refine wpL_simA _ _ { tmps := #[.agg #[.int .i64 xk, .int .i64 xm, .int .i64 xu, .int .i64 xg, .int .i64 xi, .int .i64 xz, .slice xda xdl xdc, .string xt, .int .i64 xv, .slice xaa xal xac, .slice xka xkl xkc, .int .i64 xp, .int .i64 xl], .agg #[.int .i64 yk, .int .i64 ym, .int .i64 yu, .int .i64 yg, .int .i64 yi, .int .i64 yz, .slice yda ydl ydc, .string yt, .int .i64 yv, .slice yaa yal yac, .slice yka ykl ykc, .int .i64 yp, .int .i64 yl], .pointer (some ⟨q, 0, none⟩), .pointer (some ⟨q + 1, 0, none⟩), .bool false, .pointer (some ⟨q, 0, none⟩), .int .i64 xk, .pointer (some ⟨q + 1, 0, none⟩), .int .i64 yk, .bool true, .bool true, .pointer (some ⟨q, 1, none⟩), .int .i64 xm, .pointer (some ⟨q + 1, 1, none⟩), .int .i64 ym, .bool true, .bool true, .bool true, .pointer (some ⟨q, 2, none⟩), .int .i64 xu, .pointer (some ⟨q + 1, 2, none⟩), .int .i64 yu, .bool true, .bool true, .bool true, .pointer (some ⟨q, 3, none⟩), .int .i64 xg, .pointer (some ⟨q + 1, 3, none⟩), .int .i64 yg, .bool true, .bool true, .bool true, .pointer (some ⟨q, 4, none⟩), .int .i64 xi, .pointer (some ⟨q + 1, 4, none⟩), .int .i64 yi, .bool true, .bool true, .bool true, .pointer (some ⟨q, 5, none⟩), .int .i64 xz, .pointer (some ⟨q + 1, 5, none⟩), .int .i64 yz, .bool true, .bool true, .bool true, .pointer (some ⟨q, 6, none⟩), .slice xda xdl xdc, .pointer (some ⟨q + 1, 6, none⟩), .slice yda ydl ydc, .bool true, .bool true, .bool true, .pointer (some ⟨q, 7, none⟩), .string xt, .pointer (some ⟨q + 1, 7, none⟩), .string yt, .bool true, .bool true, .bool true, .pointer (some ⟨q, 8, none⟩), .int .i64 xv, .pointer (some ⟨q + 1, 8, none⟩), .int .i64 yv, .bool true, .bool true, .bool true, .pointer (some ⟨q, 9, none⟩), .slice xaa xal xac, .pointer (some ⟨q + 1, 9, none⟩), .slice yaa yal yac, .bool true, .bool true, .bool true, .pointer (some ⟨q, 10, none⟩), .slice xka xkl xkc, .pointer (some ⟨q + 1, 10, none⟩), .slice yka ykl ykc, .bool true, .bool true, .bool true, .pointer (some ⟨q, 11, none⟩), .int .i64 xp, .pointer (some ⟨q + 1, 11, none⟩), .int .i64 yp, .bool false, .bool false, .bool false, undef, undef, undef, undef, undef, .bool false], defers := [] } (by kernel_rfl) ?_
     refine HK5.out _ _ ?_
     clear HK5
     go_wp2_with fail
     go_ret
     exact ⟨by rw [HV.out]; rfl, HG2.out⟩
    have eb11 : (xp == yp) = true := by simpa using e11
    refine wpL_take (.bool true) (by rfl) (by go_simp; try first | exact e11 | simp [eb11]) ?_
    simp only [Act.put, pu]
    refine wpL_take (.bool true) (by rfl) (by go_simp) ?_
    simp only [Act.put, pu]
    refine wpL_take (.bool true) (by rfl) (by go_simp) ?_
    simp only [Act.put, pu]
    clear eb11
    have HQ11 : Hid _ := e11
    clear e11
    refine wpL_take (.pointer (some ⟨q, 12, none⟩)) (by rfl) (by go_simp) ?_
    simp only [Act.put, pu]
    refine wpL_take (.int .i64 xl) (by rfl) (by go_simp) ?_
    simp only [Act.put, pu]
    refine wpL_take (.pointer (some ⟨q + 1, 12, none⟩)) (by rfl) (by go_simp) ?_
    simp only [Act.put, pu]
    refine wpL_take (.int .i64 yl) (by rfl) (by go_simp) ?_
    simp only [Act.put, pu]
    by_cases e12 : xl = yl
    rotate_left
    ·have eb : (xl == yl) = false := by simpa using e12
     have HV : Hid (SS = false) := by
      show SS = false
      rw [← HS.out]
      exact no_nf (fun h => e12 (congrArg No.links h))
     refine wpL_take (.bool false) (by rfl) (by go_simp; try first | exact e12 | simp [eb]) ?_
     simp only [Act.put, pu]
     clear e12
     refine wpL_simA _ _ { tmps := #[.agg #[.int .i64 xk, .int .i64 xm, .int .i64 xu, .int .i64 xg, .int .i64 xi, .int .i64 xz, .slice xda xdl xdc, .string xt, .int .i64 xv, .slice xaa xal xac, .slice xka xkl xkc, .int .i64 xp, .int .i64 xl], .agg #[.int .i64 yk, .int .i64 ym, .int .i64 yu, .int .i64 yg, .int .i64 yi, .int .i64 yz, .slice yda ydl ydc, .string yt, .int .i64 yv, .slice yaa yal yac, .slice yka ykl ykc, .int .i64 yp, .int .i64 yl], .pointer (some ⟨q, 0, none⟩), .pointer (some ⟨q + 1, 0, none⟩), .bool false, .pointer (some ⟨q, 0, none⟩), .int .i64 xk, .pointer (some ⟨q + 1, 0, none⟩), .int .i64 yk, .bool true, .bool true, .pointer (some ⟨q, 1, none⟩), .int .i64 xm, .pointer (some ⟨q + 1, 1, none⟩), .int .i64 ym, .bool true, .bool true, .bool true, .pointer (some ⟨q, 2, none⟩), .int .i64 xu, .pointer (some ⟨q + 1, 2, none⟩), .int .i64 yu, .bool true, .bool true, .bool true, .pointer (some ⟨q, 3, none⟩), .int .i64 xg, .pointer (some ⟨q + 1, 3, none⟩), .int .i64 yg, .bool true, .bool true, .bool true, .pointer (some ⟨q, 4, none⟩), .int .i64 xi, .pointer (some ⟨q + 1, 4, none⟩), .int .i64 yi, .bool true, .bool true, .bool true, .pointer (some ⟨q, 5, none⟩), .int .i64 xz, .pointer (some ⟨q + 1, 5, none⟩), .int .i64 yz, .bool true, .bool true, .bool true, .pointer (some ⟨q, 6, none⟩), .slice xda xdl xdc, .pointer (some ⟨q + 1, 6, none⟩), .slice yda ydl ydc, .bool true, .bool true, .bool true, .pointer (some ⟨q, 7, none⟩), .string xt, .pointer (some ⟨q + 1, 7, none⟩), .string yt, .bool true, .bool true, .bool true, .pointer (some ⟨q, 8, none⟩), .int .i64 xv, .pointer (some ⟨q + 1, 8, none⟩), .int .i64 yv, .bool true, .bool true, .bool true, .pointer (some ⟨q, 9, none⟩), .slice xaa xal xac, .pointer (some ⟨q + 1, 9, none⟩), .slice yaa yal yac, .bool true, .bool true, .bool true, .pointer (some ⟨q, 10, none⟩), .slice xka xkl xkc, .pointer (some ⟨q + 1, 10, none⟩), .slice yka ykl ykc, .bool true, .bool true, .bool true, .pointer (some ⟨q, 11, none⟩), .int .i64 xp, .pointer (some ⟨q + 1, 11, none⟩), .int .i64 yp, .bool true, .bool true, .bool true, .pointer (some ⟨q, 12, none⟩), .int .i64 xl, .pointer (some ⟨q + 1, 12, none⟩), .int .i64 yl, .bool false, .bool false], defers := [] } (by kernel_rfl) ?_
     refine HK5.out _ _ ?_
     clear HK5
     go_wp2_with fail
     go_ret
     exact ⟨by rw [HV.out]; rfl, HG2.out⟩
    have eb12 : (xl == yl) = true := by simpa using e12
    refine wpL_take (.bool true) (by rfl) (by go_simp; try first | exact e12 | simp [eb12]) ?_
    simp only [Act.put, pu]
    refine wpL_take (.bool true) (by rfl) (by go_simp) ?_
    simp only [Act.put, pu]
    clear eb12
    have HQ12 : Hid _ := e12
    clear e12
    have HV : Hid (SS = true) := by
     show SS = true
     rw [← HS.out, sameNo_eq]
     have a1 := (sameAts_eq _ _).1 HQ9.out
     have a2 := (sameKds_eq _ _).1 HQ10.out
     have a3 := of_decide_eq_true HQ6.out
     have q0 := HQ0.out; have q1 := HQ1.out; have q2 := HQ2.out; have q3 := HQ3.out; have q4 := HQ4.out; have q5 := HQ5.out; have q7 := HQ7.out; have q8 := HQ8.out; have q11 := HQ11.out; have q12 := HQ12.out
     unfold NoV.no
     simp only [q0, q1, q2, q3, q4, q5, q7, q8, q11, q12, a1, a2, a3]
    refine wpL_take (.bool true) (by rfl) (by go_simp) ?_
    simp only [Act.put, pu]
    refine HK5.out _ _ ?_
    clear HK5
    go_wp2_with fail
    go_ret
    exact ⟨by rw [HV.out]; rfl, HG2.out⟩
set_option maxHeartbeats 8000000 in
theorem peqn_any (a b : Option Addr) (n c m d : Nat) (l r : List NoV) (w : World) (R : Nos w a n l) (R2 : Nos w b m r) :
  Calls Tryz.prog 34 #[.slice a n c, .slice b m d, .func (.func 35) #[] #[]] w fun e w' => e = .returned (.bool (sameNos (nos l) (nos r))) ∧ w.grownBy w' none := by
 have hle1 : n ≤ 9223372036854775807 := R.le
 have hle2 : m ≤ 9223372036854775807 := R2.le
 by_cases hnm : n = m
 ·subst hnm
  have HE : Hid _ := xai R.len_eq R2.len_eq
  have HR : Hid _ := xai R R2
  clear R R2
  have hb : (n != n) = false := by simp
  go_enter Tryz.func34, Tryz.ntmps34
  go_wp2_with fail
  go_loopw [17] (fun i wr => ∃ k : Nat, k ≤ n ∧ i = .int .i64 k ∧ Hid (sameNos (nos l) (nos r) = sameNos ((nos l).drop k) ((nos r).drop k)) ∧ Hid (w.grownBy wr none)) (fun i _ => n - (intOf i).toNat)
  case atStart => exact ⟨0, Nat.zero_le _, rfl, rfl, World.grownBy.refl _ _⟩
  case round =>
   obtain ⟨k, h1, rfl, HC, HG⟩ := hrel
   by_cases h3 : k < n
   ·obtain ⟨b1, o1, rfl, c1⟩ := (HR.out.1.grown HG.out).at_ (by omega)
    obtain ⟨b2, o2, rfl, c2⟩ := (HR.out.2.grown HG.out).at_ (by omega)
    obtain ⟨x, hx⟩ : ∃ x, l[k]? = some x := ⟨_, List.getElem?_eq_getElem (by rw [HE.out.1]; exact h3)⟩
    obtain ⟨y, hy⟩ : ∃ y, r[k]? = some y := ⟨_, List.getElem?_eq_getElem (by rw [HE.out.2]; exact h3)⟩
    obtain ⟨p0, p1, p2, p3, p4, p5, p6, p7, p8, p9, p10, p11, p12, pok⟩ := c1 k x hx
    obtain ⟨q0, q1, q2, q3, q4, q5, q6, q7, q8, q9, q10, q11, q12, qok⟩ := c2 k y hy
    have hst := sameNos_step hx hy
    rw [← HC.out] at hst
    have hcall := fun W (g : wr.grownBy W none) => psnode_any x y W (pok.grown g) (qok.grown g)
    generalize sameNo x.no y.no = B at *
    obtain ⟨xk, xm, xu, xg, xi, xz, xda, xdl, xdc, xd, xt, xv, xaa, xal, xac, xat, xka, xkl, xkc, xki, xp, xl⟩ := x
    obtain ⟨yk, ym, yu, yg, yi, yz, yda, ydl, ydc, yd, yt, yv, yaa, yal, yac, yat, yka, ykl, ykc, yki, yp, yl⟩ := y
    simp only [NoV.val] at hcall
    simp only at p0 p1 p2 p3 p4 p5 p6 p7 p8 p9 p10 p11 p12 q0 q1 q2 q3 q4 q5 q6 q7 q8 q9 q10 q11 q12
    have HD : Hid _ := hst
    have hb1 := cell_lt11 p0
    have hb2 := cell_lt11 q0
    clear hst c1 c2 pok qok hx hy
    have h3i : (k : Int) < n := by omega
    cases B with
    | true =>
     go_wp2_with (go_at_call 35; refine (hcall _ (xgt (xga _ _ none) (xga _ _ none))).mono ?_; rintro e w' ⟨rfl, hg⟩)
     exact ⟨⟨k + 1, by omega, by go_num, by show _ = _; rw [HD.out]; rfl, xgt HG.out (xgt (xgt (xga _ _ none) (xga _ _ none)) hg)⟩, by simp [intOf]; omega⟩
    | false =>
     go_wp2_with (go_at_call 35; refine (hcall _ (xgt (xga _ _ none) (xga _ _ none))).mono ?_; rintro e w' ⟨rfl, hg⟩)
     go_ret
     exact ⟨by rw [HD.out]; rfl, xgt HG.out (xgt (xgt (xga _ _ none) (xga _ _ none)) hg)⟩
   ·have HV : Hid (sameNos (nos l) (nos r) = true) := by
     show _ = _
     rw [HC.out, List.drop_eq_nil_of_le (by rw [nos_len, HE.out.1]; omega), List.drop_eq_nil_of_le (by rw [nos_len, HE.out.2]; omega)]
     rfl
    clear HC
    go_wp2_with fail
    go_ret
    exact ⟨by rw [HV.out]; rfl, HG.out⟩
 ·have HV : Hid (sameNos (nos l) (nos r) = false) := by
   show _ = _
   exact sameNos_len (by rw [nos_len, nos_len, R.len_eq, R2.len_eq]; exact hnm)
  have hb : ((n : Int) == (m : Int)) = false := by rw [beq_eq_false_iff_ne]; omega
  clear R R2
  go_enter Tryz.func34, Tryz.ntmps34
  go_wp2_with fail
  go_ret
  exact ⟨by rw [HV.out]; rfl, World.grownBy.refl _ _⟩
theorem psame_any (a b : Option Addr) (n c m d : Nat) (l r : List NoV) (w : World) (R : Nos w a n l) (R2 : Nos w b m r) : Calls Tryz.prog 12 #[.agg #[.slice a n c], .agg #[.slice b m d]] w fun e w' => e = .returned (.bool (sameNos (nos l) (nos r))) ∧ w.grownBy w' none := by
 have hq := fun W (g : w.grownBy W none) => peqn_any a b n c m d l r W (R.grown g) (R2.grown g)
 generalize sameNos (nos l) (nos r) = B at *
 clear R R2
 go_enter Tryz.func12, Tryz.ntmps12
 go_wp2_with (go_at_call 34; refine (hq _ (xgt (xga _ _ none) (xga _ _ none))).mono ?_; rintro e w' ⟨rfl, hg⟩)
 go_ret
 exact ⟨rfl, xgt (xgt (xga _ _ none) (xga _ _ none)) hg⟩
theorem szs_of {l : List EnV} (h : Sml l) : Szs l := fun X hX => ⟨(h X hX).1, by have := (h X hX).2.1; omega, fun A hA => by have := (h X hX).2.2 A hA; omega⟩
structure Eo (w W : World) (base : Nat) (v : Value) (l : List EnV) : Prop where
 gr : w.grownBy W none
 low : w.heap.size ≤ base
 own : W.ownsRow base 30 11 v l.length (l.flatMap evc)
 each : ∀ X ∈ l, X.ok w
theorem Eo.kept {w W W' : World} {base : Nat} {v : Value} {l : List EnV} (h : Eo w W base v l) (g : W.grownBy W' none) : Eo w W' base v l := ⟨xgt h.gr g, h.low, owns_kept11 h.own g, h.each⟩
theorem Eo.ens {w W : World} {base n c : Nat} {a : Option Addr} {l : List EnV} (h : Eo w W base (.slice a n c) l) (hn : l.length = n) : Ens W a n l := by
 obtain ⟨a', c', e, k⟩ := own_ens h.own rfl (fun X hX => (h.each X hX).grown h.gr)
 injection e with e1 e2 e3
 rw [e1, ← hn]; exact k
theorem Eo.cell {w W : World} {base g c n : Nat} {l : List EnV} (h : Eo w W base (.slice (some ⟨g, 0, none⟩) n c) l) (hn : l.length = n) {i f : Nat} {X : EnV} (hX : l[i]? = some X) (hf : f < 11) : W.cell? ⟨g, i * 11 + f, none⟩ = (evc X)[f]? := by
 have hi : i < l.length := (List.getElem?_eq_some_iff.1 hX).1
 have ho := h.own
 rw [← hn] at ho
 rw [ho.cellAt (i * 11 + f) (by omega), flat_at evc 11 evc_len l i f X hX hf]
theorem Eo.froz {w W : World} {base g c n : Nat} {l : List EnV} (h : Eo w W base (.slice (some ⟨g, 0, none⟩) n c) l) (hn : l.length = n) (j : Nat) : W.frozen? ⟨g, j, none⟩ = false := by
 have ho := h.own
 rw [← hn] at ho
 exact ho.frozenAt j
theorem Eo.set {w W : World} {base g c n : Nat} {l : List EnV} (h : Eo w W base (.slice (some ⟨g, 0, none⟩) n c) l) (hn : l.length = n) {i f : Nat} {X X' : EnV} {u : Value} (hX : l[i]? = some X) (hf : f < 11) (e : evc X' = (evc X).set f u) (ho' : X'.ok w) :
  Eo w (W.setCell ⟨g, i * 11 + f, none⟩ u) base (.slice (some ⟨g, 0, none⟩) n c) (l.set i X') ∧ W.grownBy (W.setCell ⟨g, i * 11 + f, none⟩ u) (some g) := by
 have ho := h.own
 rw [hn] at ho
 obtain ⟨h1, h2⟩ := ho.stored (i * 11 + f) u
 rw [flat_set evc 11 evc_len u l i f X X' hX hf e] at h1
 refine ⟨⟨grown_ownB h.gr h.own h2 h.low, h.low, by rw [List.length_set, hn]; exact h1, fun Y hY => ?_⟩, h2⟩
 rcases List.mem_or_eq_of_mem_set hY with hY' | rfl
 ·exact h.each Y hY'
 ·exact ho'
theorem Eo.form {w W : World} {base : Nat} {v : Value} {l : List EnV} (h : Eo w W base v l) (h0 : l ≠ []) : ∃ g c, v = .slice (some ⟨g, 0, none⟩) l.length c ∧ base ≤ g ∧ l.length ≤ c ∧ c ≤ maxLen ∧ W.heap.size > g := by
 rcases h.own.2 with ⟨_, hn⟩ | ⟨g, cap, cur, hv, hb, hq, hc, hm, _⟩
 ·exact absurd (List.eq_nil_of_length_eq_zero hn) h0
 ·exact ⟨g, cap, hv, hb, hc, hm, by
   have := (Array.getElem?_eq_some_iff.1 hq).1
   exact this⟩
def NoV.ent (N : NoV) (p : ByteArray) : EnV := ⟨p, N.k, N.mode, N.uid, N.gid, N.time, N.size, N.da, N.dl, N.dc, N.data, N.target, N.dev, N.aa, N.al, N.ac, N.attrs⟩
set_option maxHeartbeats 4000000 in
theorem pentry_any (N : NoV) (p : ByteArray) (w : World) : Calls Tryz.prog 108 #[N.val, .string p] w fun e w' => e = .returned (N.ent p).val ∧ w.grownBy w' none := by
 have g0 : ∀ cs ds, w.grownBy ((w.alloc (.cells cs 43)).alloc (.cells ds 30)) none := fun cs ds => xgt (xga _ _ none) (xga _ _ none)
 have HG : Hid _ := g0
 clear g0
 simp only [NoV.val, NoV.ent, EnV.val]
 go_enter Tryz.func108, Tryz.ntmps108
 go_wp2_with fail
 refine bodyPost_ret (v := .agg #[.string p, .int .i64 N.k, .int .i64 N.mode, .int .i64 N.uid, .int .i64 N.gid, .int .i64 N.time, .int .i64 N.size, .slice N.da N.dl N.dc, .string N.target, .int .i64 N.dev, .slice N.aa N.al N.ac]) (by simp [results, Tryz.results108, go_sem]) rfl ?_
 exact ⟨rfl, HG.out _ _⟩
end Go.Proofs.YtlehncfehoelbaaGreatDoor
