/- The document's Same. -/
import Derived.Test.YtbpoealcaogjpaaGreatDoorBp07
namespace Go.Proofs.YtbpoealcaogjpaaGreatDoor
open Go.RowKit
set_option maxRecDepth 100000
set_option linter.unusedSimpArgs false
set_option linter.unusedVariables false

theorem wpL_take {P : Program} {ops : Array Oper} {Q : Exit → Act → World → Prop} {a : Act} {w : World} {rest : List Oper} {o : Oper} (v : Value) (hw : Region.wanted o (yielded ops a.tmps) = true) (hr : (execOp a.eval o).run P w = .ok (.value v) w)
    (h : wpList P ops Q rest (a.put o.dst v) w) : wpList P ops Q (o :: rest) a w :=
  BigFrame.wpList_want hw fun K hK => by unfold Oper.wp; rw [hr, Oper.upon_value]; exact hK _ _ h
theorem wpL_skip {P : Program} {ops : Array Oper} {Q : Exit → Act → World → Prop} {a : Act} {w : World} {rest : List Oper} {o : Oper} (hw : Region.wanted o (yielded ops a.tmps) = false)
    (h : wpList P ops Q rest (a.put o.dst undef) w) : wpList P ops Q (o :: rest) a w := by
  unfold wpList
  rw [if_neg (by rw [hw]; simp)]
  exact h
/-- what an operation that only hands on yields; what is passed over -/
def sim1 (ops : Array Oper) (o : Oper) (a : Act) : Option Act :=
  if Region.wanted o (yielded ops a.tmps) = true then
    match o.op with
    | .move x => some (a.put o.dst (a.eval x))
    | .pick c x y => match a.eval c with
      | .bool b => some (a.put o.dst (if b = true then a.eval x else a.eval y))
      | _ => none
    | _ => none
  else some (a.put o.dst undef)
def simL (ops : Array Oper) : List Oper → Act → Option Act
  | [], a => some a
  | o :: r, a => (sim1 ops o a).bind (simL ops r)
theorem wpL_sim {P : Program} {ops : Array Oper} {Q : Exit → Act → World → Prop} {w : World} : ∀ (rest : List Oper) (a a' : Act), simL ops rest a = some a' → Q .normal a' w → wpList P ops Q rest a w
  | [], a, a', h, k => by
    simp only [simL, Option.some.injEq] at h
    rw [h]
    exact k
  | o :: r, a, a', h, k => by
    rw [simL] at h
    cases hs : sim1 ops o a with
    | none => rw [hs] at h; cases h
    | some b =>
      rw [hs, Option.bind_some] at h
      have ih := wpL_sim (P := P) r b a' h k
      unfold sim1 at hs
      by_cases hw : Region.wanted o (yielded ops a.tmps) = true
      · rw [if_pos hw] at hs
        split at hs
        · rename_i x ho
          injection hs with hs
          refine wpL_take (a.eval x) hw ?_ (by rw [hs]; exact ih)
          simp [execOp, ho, Sem.run_pure]
        · rename_i c x y ho
          split at hs
          · rename_i b' hb
            injection hs with hs
            refine wpL_take (if b' = true then a.eval x else a.eval y) hw ?_ (by rw [hs]; exact ih)
            simp [execOp, ho, hb, asBool, Sem.run_bind, Sem.run_pure, Result.andThen]
          · cases hs
        · cases hs
      · rw [if_neg hw] at hs
        injection hs with hs
        refine wpL_skip (by simpa using hw) (by rw [hs]; exact ih)
theorem no_ne {x y : No} (h : x ≠ y) (b : Bool) : (sameNo x y && b) = false := by
  have : sameNo x y = false := by
    rw [Bool.eq_false_iff]
    exact fun e => h ((sameNo_eq _ _).1 e)
  rw [this, Bool.false_and]
set_option maxRecDepth 100000 in
set_option maxHeartbeats 40000000 in
theorem rsame11_any (a b : Option Addr) (n c m d : Nat) (l r : List NoV) (w : World) (R : Nos w a n l) (R2 : Nos w b m r) :
    Calls Tryz.prog 15 #[.agg #[.slice a n c], .agg #[.slice b m d]] w fun e w' => e = .returned (.bool (sameNos (nos l) (nos r))) ∧ w.grownBy w' none := by
  have hle1 : n ≤ 9223372036854775807 := R.le
  have hle2 : m ≤ 9223372036854775807 := R2.le
  by_cases hnm : n = m
  · subst hnm
    have HE : Hid _ := And.intro R.len_eq R2.len_eq
    have HR : Hid _ := And.intro R R2
    clear R R2
    have hb : (n != n) = false := by simp
    have hA : ((w.alloc (.cells #[.slice a n c] 33)).alloc (.cells #[.slice b n d] 33)).cell? ⟨w.heap.size, 0, none⟩ = some (.slice a n c) := by simp
    have hB : ((w.alloc (.cells #[.slice a n c] 33)).alloc (.cells #[.slice b n d] 33)).cell? ⟨w.heap.size + 1, 0, none⟩ = some (.slice b n d) := by simp
    have hG : w.grownBy ((w.alloc (.cells #[.slice a n c] 33)).alloc (.cells #[.slice b n d] 33)) none := grown_trans (World.grownBy_alloc _ _ none) (World.grownBy_alloc _ _ none)
    have HG : Hid _ := hG
    have HR2 : Hid _ := And.intro (HR.out.1.grown hG) (HR.out.2.grown hG)
    clear hG HR
    go_enter Tryz.func15, Tryz.ntmps15
    go_wp2
    generalize (w.alloc (.cells #[.slice a n c] 33)).alloc (.cells #[.slice b n d] 33) = W1 at *
    generalize w.heap.size = ga at *
    go_loopw [5] (fun i wr => ∃ k : Nat, k ≤ n ∧ i = .int .i64 k ∧ Hid (sameNos (nos l) (nos r) = sameNos ((nos l).drop k) ((nos r).drop k)) ∧ Hid (W1.grownBy wr none)) (fun i _ => n - (intOf i).toNat)
    case atStart => exact ⟨0, Nat.zero_le _, rfl, rfl, World.grownBy.refl _ _⟩
    case round =>
      obtain ⟨k, h1, rfl, HC, HW⟩ := hrel
      have hA2 := cell_grown hA HW.out
      have hB2 := cell_grown hB HW.out
      by_cases h3 : k < n
      · obtain ⟨b1, o1, rfl, c1⟩ := HR2.out.1.at_ (by omega)
        obtain ⟨b2, o2, rfl, c2⟩ := HR2.out.2.at_ (by omega)
        obtain ⟨x, hx⟩ : ∃ x, l[k]? = some x := ⟨_, List.getElem?_eq_getElem (by rw [HE.out.1]; exact h3)⟩
        obtain ⟨y, hy⟩ : ∃ y, r[k]? = some y := ⟨_, List.getElem?_eq_getElem (by rw [HE.out.2]; exact h3)⟩
        have HX : Hid _ := And.intro ((c1 k x hx).grown HW.out) ((c2 k y hy).grown HW.out)
        have hst := sameNos_step hx hy
        have HST : Hid _ := HC.out.trans hst
        clear hA hB c1 c2 hst hx hy HC
        obtain ⟨xk, xm, xu, xg, xi, xz, xda, xdl, xdc, xd, xt, xv, xaa, xal, xac, xat, xka, xkl, xkc, xki, xp, xl⟩ := x
        obtain ⟨yk, ym, yu, yg, yi, yz, yda, ydl, ydc, yd, yt, yv, yaa, yal, yac, yat, yka, ykl, ykc, yki, yp, yl⟩ := y
        have h3i : (k : Int) < n := by omega
        go_wp2_with fail
        rename_i KK hnext
        have tail : ∀ (qX qY : Nat) (WE : World), Bx WE qX 54 [.int .i64 xk, .int .i64 xm, .int .i64 xu, .int .i64 xg, .int .i64 xi, .int .i64 xz, .slice xda xdl xdc, .string xt, .int .i64 xv, .slice xaa xal xac, .slice xka xkl xkc, .int .i64 xp, .int .i64 xl] → Bx WE qY 54 [.int .i64 yk, .int .i64 ym, .int .i64 yu, .int .i64 yg, .int .i64 yi, .int .i64 yz, .slice yda ydl ydc, .string yt, .int .i64 yv, .slice yaa yal yac, .slice yka ykl ykc, .int .i64 yp, .int .i64 yl] → wr.grownBy WE none → KK { tmps := #[.agg #[.slice (some ⟨b1, o1, none⟩) n c], .agg #[.slice (some ⟨b2, o2, none⟩) n d], .pointer (some ⟨ga, 0, none⟩), .pointer (some ⟨ga + 1, 0, none⟩), u4, .int .i64 k, .pointer (some ⟨qX, 0, none⟩), .pointer (some ⟨qY, 0, none⟩), .pointer (some ⟨ga, 0, none⟩), .slice (some ⟨b1, o1, none⟩) n c, .int .i64 n, .pointer (some ⟨ga + 1, 0, none⟩), .slice (some ⟨b2, o2, none⟩) n d, .int .i64 n, .bool false, .int .i64 k, .pointer (some ⟨ga, 0, none⟩), .slice (some ⟨b1, o1, none⟩) n c, .int .i64 n, .bool true, u20, u21, .pointer (some ⟨ga, 0, none⟩), .slice (some ⟨b1, o1, none⟩) n c, .int .i64 k, .pointer (some ⟨b1, o1 + k * 13, none⟩), .agg #[.int .i64 xk, .int .i64 xm, .int .i64 xu, .int .i64 xg, .int .i64 xi, .int .i64 xz, .slice xda xdl xdc, .string xt, .int .i64 xv, .slice xaa xal xac, .slice xka xkl xkc, .int .i64 xp, .int .i64 xl], .pointer (some ⟨ga + 1, 0, none⟩), .slice (some ⟨b2, o2, none⟩) n d, .int .i64 k, .pointer (some ⟨b2, o2 + k * 13, none⟩), .agg #[.int .i64 yk, .int .i64 ym, .int .i64 yu, .int .i64 yg, .int .i64 yi, .int .i64 yz, .slice yda ydl ydc, .string yt, .int .i64 yv, .slice yaa yal yac, .slice yka ykl ykc, .int .i64 yp, .int .i64 yl], u32, u33, u34, u35, u36, u37, u38, u39, u40, u41, u42, u43, u44, u45, u46, u47, u48, u49, u50, u51, u52, u53, u54, u55, u56, u57, u58, u59, u60, u61, u62, u63, u64, u65, u66, u67, u68, u69, u70, u71, u72, u73, u74, u75, u76, u77, u78, u79, u80, u81, u82, u83, u84, u85, u86, u87, u88, u89, u90, u91, u92, u93, u94, u95, u96, u97, u98, u99, u100, u101, u102, u103, u104, u105, u106, u107, u108, u109, u110, u111, u112, u113, u114, u115, u116, u117, u118, u119, u120, u121, u122, u123, u124], defers := [] } WE := by
          intro qX qY WE hX hY hH
          have HB : Hid _ := And.intro hX (And.intro hY hH)
          clear hX hY hH
          refine hnext _ _ ?_
          clear hnext
          refine wp_seq_k (fun K2 hK2 => ?_)
          refine wp_region_lit ?_
          obtain ⟨X0, X1, X2, X3, X4, X5, X6, X7, X8, X9, X10, X11, X12⟩ := bx13 HB.out.1
          obtain ⟨Y0, Y1, Y2, Y3, Y4, Y5, Y6, Y7, Y8, Y9, Y10, Y11, Y12⟩ := bx13 HB.out.2.1
          have HO : Hid _ := And.intro (HX.out.1.ok.grown HB.out.2.2) (HX.out.2.ok.grown HB.out.2.2)
          have HG2 : Hid _ := grown_trans (grown_trans HG.out HW.out) HB.out.2.2
          have CX := conv_row (P := Tryz.prog) HO.out.1.row xdc 41 9 Tryz.underlying41 Tryz.underlying5 Tryz.underlying9
          have CY := conv_row (P := Tryz.prog) HO.out.2.row ydc 41 9 Tryz.underlying41 Tryz.underlying5 Tryz.underlying9
          have hse := str_eq xd yd HO.out.1.row.byt HO.out.2.row.byt
          simp only at CX CY
          have HSE : Hid _ := hse
          clear hse
          refine wpL_take (.pointer (some ⟨qX, 0, none⟩)) (by rfl) (by go_simp) ?_
          simp only [Act.put, pu]
          refine wpL_take (.int .i64 xk) (by rfl) (by go_simp) ?_
          simp only [Act.put, pu]
          refine wpL_take (.pointer (some ⟨qY, 0, none⟩)) (by rfl) (by go_simp) ?_
          simp only [Act.put, pu]
          refine wpL_take (.int .i64 yk) (by rfl) (by go_simp) ?_
          simp only [Act.put, pu]
          by_cases e0 : xk = yk
          rotate_left
          · have eb : (xk == yk) = false := by simpa using e0
            have HV : Hid (sameNos (nos l) (nos r) = false) := by
              show sameNos (nos l) (nos r) = false
              rw [HST.out]
              exact no_ne (fun h => e0 (congrArg No.k h)) _
            refine wpL_take (.bool true) (by rfl) (by go_simp; try first | exact e0 | simp [eb]) ?_
            simp only [Act.put, pu]
            clear e0
            refine wpL_sim _ _ { tmps := #[.agg #[.slice (some ⟨b1, o1, none⟩) n c], .agg #[.slice (some ⟨b2, o2, none⟩) n d], .pointer (some ⟨ga, 0, none⟩), .pointer (some ⟨ga + 1, 0, none⟩), u4, .int .i64 k, .pointer (some ⟨qX, 0, none⟩), .pointer (some ⟨qY, 0, none⟩), .pointer (some ⟨ga, 0, none⟩), .slice (some ⟨b1, o1, none⟩) n c, .int .i64 n, .pointer (some ⟨ga + 1, 0, none⟩), .slice (some ⟨b2, o2, none⟩) n d, .int .i64 n, .bool false, .int .i64 k, .pointer (some ⟨ga, 0, none⟩), .slice (some ⟨b1, o1, none⟩) n c, .int .i64 n, .bool true, u20, u21, .pointer (some ⟨ga, 0, none⟩), .slice (some ⟨b1, o1, none⟩) n c, .int .i64 k, .pointer (some ⟨b1, o1 + k * 13, none⟩), .agg #[.int .i64 xk, .int .i64 xm, .int .i64 xu, .int .i64 xg, .int .i64 xi, .int .i64 xz, .slice xda xdl xdc, .string xt, .int .i64 xv, .slice xaa xal xac, .slice xka xkl xkc, .int .i64 xp, .int .i64 xl], .pointer (some ⟨ga + 1, 0, none⟩), .slice (some ⟨b2, o2, none⟩) n d, .int .i64 k, .pointer (some ⟨b2, o2 + k * 13, none⟩), .agg #[.int .i64 yk, .int .i64 ym, .int .i64 yu, .int .i64 yg, .int .i64 yi, .int .i64 yz, .slice yda ydl ydc, .string yt, .int .i64 yv, .slice yaa yal yac, .slice yka ykl ykc, .int .i64 yp, .int .i64 yl], .pointer (some ⟨qX, 0, none⟩), .int .i64 xk, .pointer (some ⟨qY, 0, none⟩), .int .i64 yk, .bool true, .bool true, undef, undef, undef, undef, undef, .bool true, .bool true, undef, undef, undef, undef, undef, .bool true, .bool true, undef, undef, undef, undef, undef, .bool true, .bool true, undef, undef, undef, undef, undef, .bool true, .bool true, undef, undef, undef, undef, undef, .bool true, .bool true, undef, undef, undef, undef, undef, undef, undef, .bool true, .bool true, undef, undef, undef, undef, undef, .bool true, .bool true, undef, undef, undef, undef, undef, .bool true, .bool true, undef, undef, undef, undef, undef, .bool true, .bool true, undef, undef, undef, undef, undef, .bool true, .bool true, undef, undef, undef, undef, undef, undef, .bool true, .bool true, undef, undef, undef, undef, undef, undef, .bool true], defers := [] } (by kernel_rfl) ?_
            clear X0 X1 X2 X3 X4 X5 X6 X7 X8 X9 X10 X11 X12 Y0 Y1 Y2 Y3 Y4 Y5 Y6 Y7 Y8 Y9 Y10 Y11 Y12 CX CY
            refine hK2 _ _ ?_
            clear hK2
            go_wp2
            go_ret
            exact ⟨by rw [HV.out]; rfl, HG2.out⟩
          have eb0 : (xk == yk) = true := by simpa using e0
          refine wpL_take (.bool false) (by rfl) (by go_simp; try first | exact e0 | simp [eb0]) ?_
          simp only [Act.put, pu]
          refine wpL_take (.bool false) (by rfl) (by go_simp) ?_
          simp only [Act.put, pu]
          clear eb0
          have HQ0 : Hid _ := e0
          clear e0
          refine wpL_take (.pointer (some ⟨qX, 1, none⟩)) (by rfl) (by go_simp) ?_
          simp only [Act.put, pu]
          refine wpL_take (.int .i64 xm) (by rfl) (by go_simp) ?_
          simp only [Act.put, pu]
          refine wpL_take (.pointer (some ⟨qY, 1, none⟩)) (by rfl) (by go_simp) ?_
          simp only [Act.put, pu]
          refine wpL_take (.int .i64 ym) (by rfl) (by go_simp) ?_
          simp only [Act.put, pu]
          by_cases e1 : xm = ym
          rotate_left
          · have eb : (xm == ym) = false := by simpa using e1
            have HV : Hid (sameNos (nos l) (nos r) = false) := by
              show sameNos (nos l) (nos r) = false
              rw [HST.out]
              exact no_ne (fun h => e1 (congrArg No.mode h)) _
            refine wpL_take (.bool true) (by rfl) (by go_simp; try first | exact e1 | simp [eb]) ?_
            simp only [Act.put, pu]
            clear e1
            refine wpL_sim _ _ { tmps := #[.agg #[.slice (some ⟨b1, o1, none⟩) n c], .agg #[.slice (some ⟨b2, o2, none⟩) n d], .pointer (some ⟨ga, 0, none⟩), .pointer (some ⟨ga + 1, 0, none⟩), u4, .int .i64 k, .pointer (some ⟨qX, 0, none⟩), .pointer (some ⟨qY, 0, none⟩), .pointer (some ⟨ga, 0, none⟩), .slice (some ⟨b1, o1, none⟩) n c, .int .i64 n, .pointer (some ⟨ga + 1, 0, none⟩), .slice (some ⟨b2, o2, none⟩) n d, .int .i64 n, .bool false, .int .i64 k, .pointer (some ⟨ga, 0, none⟩), .slice (some ⟨b1, o1, none⟩) n c, .int .i64 n, .bool true, u20, u21, .pointer (some ⟨ga, 0, none⟩), .slice (some ⟨b1, o1, none⟩) n c, .int .i64 k, .pointer (some ⟨b1, o1 + k * 13, none⟩), .agg #[.int .i64 xk, .int .i64 xm, .int .i64 xu, .int .i64 xg, .int .i64 xi, .int .i64 xz, .slice xda xdl xdc, .string xt, .int .i64 xv, .slice xaa xal xac, .slice xka xkl xkc, .int .i64 xp, .int .i64 xl], .pointer (some ⟨ga + 1, 0, none⟩), .slice (some ⟨b2, o2, none⟩) n d, .int .i64 k, .pointer (some ⟨b2, o2 + k * 13, none⟩), .agg #[.int .i64 yk, .int .i64 ym, .int .i64 yu, .int .i64 yg, .int .i64 yi, .int .i64 yz, .slice yda ydl ydc, .string yt, .int .i64 yv, .slice yaa yal yac, .slice yka ykl ykc, .int .i64 yp, .int .i64 yl], .pointer (some ⟨qX, 0, none⟩), .int .i64 xk, .pointer (some ⟨qY, 0, none⟩), .int .i64 yk, .bool false, .bool false, .pointer (some ⟨qX, 1, none⟩), .int .i64 xm, .pointer (some ⟨qY, 1, none⟩), .int .i64 ym, .bool true, .bool true, .bool true, undef, undef, undef, undef, undef, .bool true, .bool true, undef, undef, undef, undef, undef, .bool true, .bool true, undef, undef, undef, undef, undef, .bool true, .bool true, undef, undef, undef, undef, undef, .bool true, .bool true, undef, undef, undef, undef, undef, undef, undef, .bool true, .bool true, undef, undef, undef, undef, undef, .bool true, .bool true, undef, undef, undef, undef, undef, .bool true, .bool true, undef, undef, undef, undef, undef, .bool true, .bool true, undef, undef, undef, undef, undef, .bool true, .bool true, undef, undef, undef, undef, undef, undef, .bool true, .bool true, undef, undef, undef, undef, undef, undef, .bool true], defers := [] } (by kernel_rfl) ?_
            clear X0 X1 X2 X3 X4 X5 X6 X7 X8 X9 X10 X11 X12 Y0 Y1 Y2 Y3 Y4 Y5 Y6 Y7 Y8 Y9 Y10 Y11 Y12 CX CY
            refine hK2 _ _ ?_
            clear hK2
            go_wp2
            go_ret
            exact ⟨by rw [HV.out]; rfl, HG2.out⟩
          have eb1 : (xm == ym) = true := by simpa using e1
          refine wpL_take (.bool false) (by rfl) (by go_simp; try first | exact e1 | simp [eb1]) ?_
          simp only [Act.put, pu]
          refine wpL_take (.bool false) (by rfl) (by go_simp) ?_
          simp only [Act.put, pu]
          refine wpL_take (.bool false) (by rfl) (by go_simp) ?_
          simp only [Act.put, pu]
          clear eb1
          have HQ1 : Hid _ := e1
          clear e1
          refine wpL_take (.pointer (some ⟨qX, 2, none⟩)) (by rfl) (by go_simp) ?_
          simp only [Act.put, pu]
          refine wpL_take (.int .i64 xu) (by rfl) (by go_simp) ?_
          simp only [Act.put, pu]
          refine wpL_take (.pointer (some ⟨qY, 2, none⟩)) (by rfl) (by go_simp) ?_
          simp only [Act.put, pu]
          refine wpL_take (.int .i64 yu) (by rfl) (by go_simp) ?_
          simp only [Act.put, pu]
          by_cases e2 : xu = yu
          rotate_left
          · have eb : (xu == yu) = false := by simpa using e2
            have HV : Hid (sameNos (nos l) (nos r) = false) := by
              show sameNos (nos l) (nos r) = false
              rw [HST.out]
              exact no_ne (fun h => e2 (congrArg No.uid h)) _
            refine wpL_take (.bool true) (by rfl) (by go_simp; try first | exact e2 | simp [eb]) ?_
            simp only [Act.put, pu]
            clear e2
            refine wpL_sim _ _ { tmps := #[.agg #[.slice (some ⟨b1, o1, none⟩) n c], .agg #[.slice (some ⟨b2, o2, none⟩) n d], .pointer (some ⟨ga, 0, none⟩), .pointer (some ⟨ga + 1, 0, none⟩), u4, .int .i64 k, .pointer (some ⟨qX, 0, none⟩), .pointer (some ⟨qY, 0, none⟩), .pointer (some ⟨ga, 0, none⟩), .slice (some ⟨b1, o1, none⟩) n c, .int .i64 n, .pointer (some ⟨ga + 1, 0, none⟩), .slice (some ⟨b2, o2, none⟩) n d, .int .i64 n, .bool false, .int .i64 k, .pointer (some ⟨ga, 0, none⟩), .slice (some ⟨b1, o1, none⟩) n c, .int .i64 n, .bool true, u20, u21, .pointer (some ⟨ga, 0, none⟩), .slice (some ⟨b1, o1, none⟩) n c, .int .i64 k, .pointer (some ⟨b1, o1 + k * 13, none⟩), .agg #[.int .i64 xk, .int .i64 xm, .int .i64 xu, .int .i64 xg, .int .i64 xi, .int .i64 xz, .slice xda xdl xdc, .string xt, .int .i64 xv, .slice xaa xal xac, .slice xka xkl xkc, .int .i64 xp, .int .i64 xl], .pointer (some ⟨ga + 1, 0, none⟩), .slice (some ⟨b2, o2, none⟩) n d, .int .i64 k, .pointer (some ⟨b2, o2 + k * 13, none⟩), .agg #[.int .i64 yk, .int .i64 ym, .int .i64 yu, .int .i64 yg, .int .i64 yi, .int .i64 yz, .slice yda ydl ydc, .string yt, .int .i64 yv, .slice yaa yal yac, .slice yka ykl ykc, .int .i64 yp, .int .i64 yl], .pointer (some ⟨qX, 0, none⟩), .int .i64 xk, .pointer (some ⟨qY, 0, none⟩), .int .i64 yk, .bool false, .bool false, .pointer (some ⟨qX, 1, none⟩), .int .i64 xm, .pointer (some ⟨qY, 1, none⟩), .int .i64 ym, .bool false, .bool false, .bool false, .pointer (some ⟨qX, 2, none⟩), .int .i64 xu, .pointer (some ⟨qY, 2, none⟩), .int .i64 yu, .bool true, .bool true, .bool true, undef, undef, undef, undef, undef, .bool true, .bool true, undef, undef, undef, undef, undef, .bool true, .bool true, undef, undef, undef, undef, undef, .bool true, .bool true, undef, undef, undef, undef, undef, undef, undef, .bool true, .bool true, undef, undef, undef, undef, undef, .bool true, .bool true, undef, undef, undef, undef, undef, .bool true, .bool true, undef, undef, undef, undef, undef, .bool true, .bool true, undef, undef, undef, undef, undef, .bool true, .bool true, undef, undef, undef, undef, undef, undef, .bool true, .bool true, undef, undef, undef, undef, undef, undef, .bool true], defers := [] } (by kernel_rfl) ?_
            clear X0 X1 X2 X3 X4 X5 X6 X7 X8 X9 X10 X11 X12 Y0 Y1 Y2 Y3 Y4 Y5 Y6 Y7 Y8 Y9 Y10 Y11 Y12 CX CY
            refine hK2 _ _ ?_
            clear hK2
            go_wp2
            go_ret
            exact ⟨by rw [HV.out]; rfl, HG2.out⟩
          have eb2 : (xu == yu) = true := by simpa using e2
          refine wpL_take (.bool false) (by rfl) (by go_simp; try first | exact e2 | simp [eb2]) ?_
          simp only [Act.put, pu]
          refine wpL_take (.bool false) (by rfl) (by go_simp) ?_
          simp only [Act.put, pu]
          refine wpL_take (.bool false) (by rfl) (by go_simp) ?_
          simp only [Act.put, pu]
          clear eb2
          have HQ2 : Hid _ := e2
          clear e2
          refine wpL_take (.pointer (some ⟨qX, 3, none⟩)) (by rfl) (by go_simp) ?_
          simp only [Act.put, pu]
          refine wpL_take (.int .i64 xg) (by rfl) (by go_simp) ?_
          simp only [Act.put, pu]
          refine wpL_take (.pointer (some ⟨qY, 3, none⟩)) (by rfl) (by go_simp) ?_
          simp only [Act.put, pu]
          refine wpL_take (.int .i64 yg) (by rfl) (by go_simp) ?_
          simp only [Act.put, pu]
          by_cases e3 : xg = yg
          rotate_left
          · have eb : (xg == yg) = false := by simpa using e3
            have HV : Hid (sameNos (nos l) (nos r) = false) := by
              show sameNos (nos l) (nos r) = false
              rw [HST.out]
              exact no_ne (fun h => e3 (congrArg No.gid h)) _
            refine wpL_take (.bool true) (by rfl) (by go_simp; try first | exact e3 | simp [eb]) ?_
            simp only [Act.put, pu]
            clear e3
            refine wpL_sim _ _ { tmps := #[.agg #[.slice (some ⟨b1, o1, none⟩) n c], .agg #[.slice (some ⟨b2, o2, none⟩) n d], .pointer (some ⟨ga, 0, none⟩), .pointer (some ⟨ga + 1, 0, none⟩), u4, .int .i64 k, .pointer (some ⟨qX, 0, none⟩), .pointer (some ⟨qY, 0, none⟩), .pointer (some ⟨ga, 0, none⟩), .slice (some ⟨b1, o1, none⟩) n c, .int .i64 n, .pointer (some ⟨ga + 1, 0, none⟩), .slice (some ⟨b2, o2, none⟩) n d, .int .i64 n, .bool false, .int .i64 k, .pointer (some ⟨ga, 0, none⟩), .slice (some ⟨b1, o1, none⟩) n c, .int .i64 n, .bool true, u20, u21, .pointer (some ⟨ga, 0, none⟩), .slice (some ⟨b1, o1, none⟩) n c, .int .i64 k, .pointer (some ⟨b1, o1 + k * 13, none⟩), .agg #[.int .i64 xk, .int .i64 xm, .int .i64 xu, .int .i64 xg, .int .i64 xi, .int .i64 xz, .slice xda xdl xdc, .string xt, .int .i64 xv, .slice xaa xal xac, .slice xka xkl xkc, .int .i64 xp, .int .i64 xl], .pointer (some ⟨ga + 1, 0, none⟩), .slice (some ⟨b2, o2, none⟩) n d, .int .i64 k, .pointer (some ⟨b2, o2 + k * 13, none⟩), .agg #[.int .i64 yk, .int .i64 ym, .int .i64 yu, .int .i64 yg, .int .i64 yi, .int .i64 yz, .slice yda ydl ydc, .string yt, .int .i64 yv, .slice yaa yal yac, .slice yka ykl ykc, .int .i64 yp, .int .i64 yl], .pointer (some ⟨qX, 0, none⟩), .int .i64 xk, .pointer (some ⟨qY, 0, none⟩), .int .i64 yk, .bool false, .bool false, .pointer (some ⟨qX, 1, none⟩), .int .i64 xm, .pointer (some ⟨qY, 1, none⟩), .int .i64 ym, .bool false, .bool false, .bool false, .pointer (some ⟨qX, 2, none⟩), .int .i64 xu, .pointer (some ⟨qY, 2, none⟩), .int .i64 yu, .bool false, .bool false, .bool false, .pointer (some ⟨qX, 3, none⟩), .int .i64 xg, .pointer (some ⟨qY, 3, none⟩), .int .i64 yg, .bool true, .bool true, .bool true, undef, undef, undef, undef, undef, .bool true, .bool true, undef, undef, undef, undef, undef, .bool true, .bool true, undef, undef, undef, undef, undef, undef, undef, .bool true, .bool true, undef, undef, undef, undef, undef, .bool true, .bool true, undef, undef, undef, undef, undef, .bool true, .bool true, undef, undef, undef, undef, undef, .bool true, .bool true, undef, undef, undef, undef, undef, .bool true, .bool true, undef, undef, undef, undef, undef, undef, .bool true, .bool true, undef, undef, undef, undef, undef, undef, .bool true], defers := [] } (by kernel_rfl) ?_
            clear X0 X1 X2 X3 X4 X5 X6 X7 X8 X9 X10 X11 X12 Y0 Y1 Y2 Y3 Y4 Y5 Y6 Y7 Y8 Y9 Y10 Y11 Y12 CX CY
            refine hK2 _ _ ?_
            clear hK2
            go_wp2
            go_ret
            exact ⟨by rw [HV.out]; rfl, HG2.out⟩
          have eb3 : (xg == yg) = true := by simpa using e3
          refine wpL_take (.bool false) (by rfl) (by go_simp; try first | exact e3 | simp [eb3]) ?_
          simp only [Act.put, pu]
          refine wpL_take (.bool false) (by rfl) (by go_simp) ?_
          simp only [Act.put, pu]
          refine wpL_take (.bool false) (by rfl) (by go_simp) ?_
          simp only [Act.put, pu]
          clear eb3
          have HQ3 : Hid _ := e3
          clear e3
          refine wpL_take (.pointer (some ⟨qX, 4, none⟩)) (by rfl) (by go_simp) ?_
          simp only [Act.put, pu]
          refine wpL_take (.int .i64 xi) (by rfl) (by go_simp) ?_
          simp only [Act.put, pu]
          refine wpL_take (.pointer (some ⟨qY, 4, none⟩)) (by rfl) (by go_simp) ?_
          simp only [Act.put, pu]
          refine wpL_take (.int .i64 yi) (by rfl) (by go_simp) ?_
          simp only [Act.put, pu]
          by_cases e4 : xi = yi
          rotate_left
          · have eb : (xi == yi) = false := by simpa using e4
            have HV : Hid (sameNos (nos l) (nos r) = false) := by
              show sameNos (nos l) (nos r) = false
              rw [HST.out]
              exact no_ne (fun h => e4 (congrArg No.time h)) _
            refine wpL_take (.bool true) (by rfl) (by go_simp; try first | exact e4 | simp [eb]) ?_
            simp only [Act.put, pu]
            clear e4
            refine wpL_sim _ _ { tmps := #[.agg #[.slice (some ⟨b1, o1, none⟩) n c], .agg #[.slice (some ⟨b2, o2, none⟩) n d], .pointer (some ⟨ga, 0, none⟩), .pointer (some ⟨ga + 1, 0, none⟩), u4, .int .i64 k, .pointer (some ⟨qX, 0, none⟩), .pointer (some ⟨qY, 0, none⟩), .pointer (some ⟨ga, 0, none⟩), .slice (some ⟨b1, o1, none⟩) n c, .int .i64 n, .pointer (some ⟨ga + 1, 0, none⟩), .slice (some ⟨b2, o2, none⟩) n d, .int .i64 n, .bool false, .int .i64 k, .pointer (some ⟨ga, 0, none⟩), .slice (some ⟨b1, o1, none⟩) n c, .int .i64 n, .bool true, u20, u21, .pointer (some ⟨ga, 0, none⟩), .slice (some ⟨b1, o1, none⟩) n c, .int .i64 k, .pointer (some ⟨b1, o1 + k * 13, none⟩), .agg #[.int .i64 xk, .int .i64 xm, .int .i64 xu, .int .i64 xg, .int .i64 xi, .int .i64 xz, .slice xda xdl xdc, .string xt, .int .i64 xv, .slice xaa xal xac, .slice xka xkl xkc, .int .i64 xp, .int .i64 xl], .pointer (some ⟨ga + 1, 0, none⟩), .slice (some ⟨b2, o2, none⟩) n d, .int .i64 k, .pointer (some ⟨b2, o2 + k * 13, none⟩), .agg #[.int .i64 yk, .int .i64 ym, .int .i64 yu, .int .i64 yg, .int .i64 yi, .int .i64 yz, .slice yda ydl ydc, .string yt, .int .i64 yv, .slice yaa yal yac, .slice yka ykl ykc, .int .i64 yp, .int .i64 yl], .pointer (some ⟨qX, 0, none⟩), .int .i64 xk, .pointer (some ⟨qY, 0, none⟩), .int .i64 yk, .bool false, .bool false, .pointer (some ⟨qX, 1, none⟩), .int .i64 xm, .pointer (some ⟨qY, 1, none⟩), .int .i64 ym, .bool false, .bool false, .bool false, .pointer (some ⟨qX, 2, none⟩), .int .i64 xu, .pointer (some ⟨qY, 2, none⟩), .int .i64 yu, .bool false, .bool false, .bool false, .pointer (some ⟨qX, 3, none⟩), .int .i64 xg, .pointer (some ⟨qY, 3, none⟩), .int .i64 yg, .bool false, .bool false, .bool false, .pointer (some ⟨qX, 4, none⟩), .int .i64 xi, .pointer (some ⟨qY, 4, none⟩), .int .i64 yi, .bool true, .bool true, .bool true, undef, undef, undef, undef, undef, .bool true, .bool true, undef, undef, undef, undef, undef, undef, undef, .bool true, .bool true, undef, undef, undef, undef, undef, .bool true, .bool true, undef, undef, undef, undef, undef, .bool true, .bool true, undef, undef, undef, undef, undef, .bool true, .bool true, undef, undef, undef, undef, undef, .bool true, .bool true, undef, undef, undef, undef, undef, undef, .bool true, .bool true, undef, undef, undef, undef, undef, undef, .bool true], defers := [] } (by kernel_rfl) ?_
            clear X0 X1 X2 X3 X4 X5 X6 X7 X8 X9 X10 X11 X12 Y0 Y1 Y2 Y3 Y4 Y5 Y6 Y7 Y8 Y9 Y10 Y11 Y12 CX CY
            refine hK2 _ _ ?_
            clear hK2
            go_wp2
            go_ret
            exact ⟨by rw [HV.out]; rfl, HG2.out⟩
          have eb4 : (xi == yi) = true := by simpa using e4
          refine wpL_take (.bool false) (by rfl) (by go_simp; try first | exact e4 | simp [eb4]) ?_
          simp only [Act.put, pu]
          refine wpL_take (.bool false) (by rfl) (by go_simp) ?_
          simp only [Act.put, pu]
          refine wpL_take (.bool false) (by rfl) (by go_simp) ?_
          simp only [Act.put, pu]
          clear eb4
          have HQ4 : Hid _ := e4
          clear e4
          refine wpL_take (.pointer (some ⟨qX, 5, none⟩)) (by rfl) (by go_simp) ?_
          simp only [Act.put, pu]
          refine wpL_take (.int .i64 xz) (by rfl) (by go_simp) ?_
          simp only [Act.put, pu]
          refine wpL_take (.pointer (some ⟨qY, 5, none⟩)) (by rfl) (by go_simp) ?_
          simp only [Act.put, pu]
          refine wpL_take (.int .i64 yz) (by rfl) (by go_simp) ?_
          simp only [Act.put, pu]
          by_cases e5 : xz = yz
          rotate_left
          · have eb : (xz == yz) = false := by simpa using e5
            have HV : Hid (sameNos (nos l) (nos r) = false) := by
              show sameNos (nos l) (nos r) = false
              rw [HST.out]
              exact no_ne (fun h => e5 (congrArg No.size h)) _
            refine wpL_take (.bool true) (by rfl) (by go_simp; try first | exact e5 | simp [eb]) ?_
            simp only [Act.put, pu]
            clear e5
            refine wpL_sim _ _ { tmps := #[.agg #[.slice (some ⟨b1, o1, none⟩) n c], .agg #[.slice (some ⟨b2, o2, none⟩) n d], .pointer (some ⟨ga, 0, none⟩), .pointer (some ⟨ga + 1, 0, none⟩), u4, .int .i64 k, .pointer (some ⟨qX, 0, none⟩), .pointer (some ⟨qY, 0, none⟩), .pointer (some ⟨ga, 0, none⟩), .slice (some ⟨b1, o1, none⟩) n c, .int .i64 n, .pointer (some ⟨ga + 1, 0, none⟩), .slice (some ⟨b2, o2, none⟩) n d, .int .i64 n, .bool false, .int .i64 k, .pointer (some ⟨ga, 0, none⟩), .slice (some ⟨b1, o1, none⟩) n c, .int .i64 n, .bool true, u20, u21, .pointer (some ⟨ga, 0, none⟩), .slice (some ⟨b1, o1, none⟩) n c, .int .i64 k, .pointer (some ⟨b1, o1 + k * 13, none⟩), .agg #[.int .i64 xk, .int .i64 xm, .int .i64 xu, .int .i64 xg, .int .i64 xi, .int .i64 xz, .slice xda xdl xdc, .string xt, .int .i64 xv, .slice xaa xal xac, .slice xka xkl xkc, .int .i64 xp, .int .i64 xl], .pointer (some ⟨ga + 1, 0, none⟩), .slice (some ⟨b2, o2, none⟩) n d, .int .i64 k, .pointer (some ⟨b2, o2 + k * 13, none⟩), .agg #[.int .i64 yk, .int .i64 ym, .int .i64 yu, .int .i64 yg, .int .i64 yi, .int .i64 yz, .slice yda ydl ydc, .string yt, .int .i64 yv, .slice yaa yal yac, .slice yka ykl ykc, .int .i64 yp, .int .i64 yl], .pointer (some ⟨qX, 0, none⟩), .int .i64 xk, .pointer (some ⟨qY, 0, none⟩), .int .i64 yk, .bool false, .bool false, .pointer (some ⟨qX, 1, none⟩), .int .i64 xm, .pointer (some ⟨qY, 1, none⟩), .int .i64 ym, .bool false, .bool false, .bool false, .pointer (some ⟨qX, 2, none⟩), .int .i64 xu, .pointer (some ⟨qY, 2, none⟩), .int .i64 yu, .bool false, .bool false, .bool false, .pointer (some ⟨qX, 3, none⟩), .int .i64 xg, .pointer (some ⟨qY, 3, none⟩), .int .i64 yg, .bool false, .bool false, .bool false, .pointer (some ⟨qX, 4, none⟩), .int .i64 xi, .pointer (some ⟨qY, 4, none⟩), .int .i64 yi, .bool false, .bool false, .bool false, .pointer (some ⟨qX, 5, none⟩), .int .i64 xz, .pointer (some ⟨qY, 5, none⟩), .int .i64 yz, .bool true, .bool true, .bool true, undef, undef, undef, undef, undef, undef, undef, .bool true, .bool true, undef, undef, undef, undef, undef, .bool true, .bool true, undef, undef, undef, undef, undef, .bool true, .bool true, undef, undef, undef, undef, undef, .bool true, .bool true, undef, undef, undef, undef, undef, .bool true, .bool true, undef, undef, undef, undef, undef, undef, .bool true, .bool true, undef, undef, undef, undef, undef, undef, .bool true], defers := [] } (by kernel_rfl) ?_
            clear X0 X1 X2 X3 X4 X5 X6 X7 X8 X9 X10 X11 X12 Y0 Y1 Y2 Y3 Y4 Y5 Y6 Y7 Y8 Y9 Y10 Y11 Y12 CX CY
            refine hK2 _ _ ?_
            clear hK2
            go_wp2
            go_ret
            exact ⟨by rw [HV.out]; rfl, HG2.out⟩
          have eb5 : (xz == yz) = true := by simpa using e5
          refine wpL_take (.bool false) (by rfl) (by go_simp; try first | exact e5 | simp [eb5]) ?_
          simp only [Act.put, pu]
          refine wpL_take (.bool false) (by rfl) (by go_simp) ?_
          simp only [Act.put, pu]
          refine wpL_take (.bool false) (by rfl) (by go_simp) ?_
          simp only [Act.put, pu]
          clear eb5
          have HQ5 : Hid _ := e5
          clear e5
          refine wpL_take (.pointer (some ⟨qX, 6, none⟩)) (by rfl) (by go_simp) ?_
          simp only [Act.put, pu]
          refine wpL_take (.slice xda xdl xdc) (by rfl) (by go_simp) ?_
          simp only [Act.put, pu]
          refine wpL_take (.string (strOfNums xd)) (by rfl) (by go_simp) ?_
          simp only [Act.put, pu]
          refine wpL_take (.pointer (some ⟨qY, 6, none⟩)) (by rfl) (by go_simp) ?_
          simp only [Act.put, pu]
          refine wpL_take (.slice yda ydl ydc) (by rfl) (by go_simp) ?_
          simp only [Act.put, pu]
          refine wpL_take (.string (strOfNums yd)) (by rfl) (by go_simp) ?_
          simp only [Act.put, pu]
          by_cases e6 : xd = yd
          rotate_left
          · have eb : ((strOfNums xd).toList == (strOfNums yd).toList) = false := by rw [HSE.out]; exact decide_eq_false e6
            have HV : Hid (sameNos (nos l) (nos r) = false) := by
              show sameNos (nos l) (nos r) = false
              rw [HST.out]
              exact no_ne (fun h => e6 (congrArg No.data h)) _
            refine wpL_take (.bool true) (by rfl) (by go_simp; try first | exact e6 | simp [eb]) ?_
            simp only [Act.put, pu]
            clear e6
            refine wpL_sim _ _ { tmps := #[.agg #[.slice (some ⟨b1, o1, none⟩) n c], .agg #[.slice (some ⟨b2, o2, none⟩) n d], .pointer (some ⟨ga, 0, none⟩), .pointer (some ⟨ga + 1, 0, none⟩), u4, .int .i64 k, .pointer (some ⟨qX, 0, none⟩), .pointer (some ⟨qY, 0, none⟩), .pointer (some ⟨ga, 0, none⟩), .slice (some ⟨b1, o1, none⟩) n c, .int .i64 n, .pointer (some ⟨ga + 1, 0, none⟩), .slice (some ⟨b2, o2, none⟩) n d, .int .i64 n, .bool false, .int .i64 k, .pointer (some ⟨ga, 0, none⟩), .slice (some ⟨b1, o1, none⟩) n c, .int .i64 n, .bool true, u20, u21, .pointer (some ⟨ga, 0, none⟩), .slice (some ⟨b1, o1, none⟩) n c, .int .i64 k, .pointer (some ⟨b1, o1 + k * 13, none⟩), .agg #[.int .i64 xk, .int .i64 xm, .int .i64 xu, .int .i64 xg, .int .i64 xi, .int .i64 xz, .slice xda xdl xdc, .string xt, .int .i64 xv, .slice xaa xal xac, .slice xka xkl xkc, .int .i64 xp, .int .i64 xl], .pointer (some ⟨ga + 1, 0, none⟩), .slice (some ⟨b2, o2, none⟩) n d, .int .i64 k, .pointer (some ⟨b2, o2 + k * 13, none⟩), .agg #[.int .i64 yk, .int .i64 ym, .int .i64 yu, .int .i64 yg, .int .i64 yi, .int .i64 yz, .slice yda ydl ydc, .string yt, .int .i64 yv, .slice yaa yal yac, .slice yka ykl ykc, .int .i64 yp, .int .i64 yl], .pointer (some ⟨qX, 0, none⟩), .int .i64 xk, .pointer (some ⟨qY, 0, none⟩), .int .i64 yk, .bool false, .bool false, .pointer (some ⟨qX, 1, none⟩), .int .i64 xm, .pointer (some ⟨qY, 1, none⟩), .int .i64 ym, .bool false, .bool false, .bool false, .pointer (some ⟨qX, 2, none⟩), .int .i64 xu, .pointer (some ⟨qY, 2, none⟩), .int .i64 yu, .bool false, .bool false, .bool false, .pointer (some ⟨qX, 3, none⟩), .int .i64 xg, .pointer (some ⟨qY, 3, none⟩), .int .i64 yg, .bool false, .bool false, .bool false, .pointer (some ⟨qX, 4, none⟩), .int .i64 xi, .pointer (some ⟨qY, 4, none⟩), .int .i64 yi, .bool false, .bool false, .bool false, .pointer (some ⟨qX, 5, none⟩), .int .i64 xz, .pointer (some ⟨qY, 5, none⟩), .int .i64 yz, .bool false, .bool false, .bool false, .pointer (some ⟨qX, 6, none⟩), .slice xda xdl xdc, .string (strOfNums xd), .pointer (some ⟨qY, 6, none⟩), .slice yda ydl ydc, .string (strOfNums yd), .bool true, .bool true, .bool true, undef, undef, undef, undef, undef, .bool true, .bool true, undef, undef, undef, undef, undef, .bool true, .bool true, undef, undef, undef, undef, undef, .bool true, .bool true, undef, undef, undef, undef, undef, .bool true, .bool true, undef, undef, undef, undef, undef, undef, .bool true, .bool true, undef, undef, undef, undef, undef, undef, .bool true], defers := [] } (by kernel_rfl) ?_
            clear X0 X1 X2 X3 X4 X5 X6 X7 X8 X9 X10 X11 X12 Y0 Y1 Y2 Y3 Y4 Y5 Y6 Y7 Y8 Y9 Y10 Y11 Y12 CX CY
            refine hK2 _ _ ?_
            clear hK2
            go_wp2
            go_ret
            exact ⟨by rw [HV.out]; rfl, HG2.out⟩
          have eb6 : ((strOfNums xd).toList == (strOfNums yd).toList) = true := by rw [HSE.out]; exact decide_eq_true e6
          refine wpL_take (.bool false) (by rfl) (by go_simp; try first | exact e6 | simp [eb6]) ?_
          simp only [Act.put, pu]
          refine wpL_take (.bool false) (by rfl) (by go_simp) ?_
          simp only [Act.put, pu]
          refine wpL_take (.bool false) (by rfl) (by go_simp) ?_
          simp only [Act.put, pu]
          clear eb6
          have HQ6 : Hid _ := e6
          clear e6
          refine wpL_take (.pointer (some ⟨qX, 7, none⟩)) (by rfl) (by go_simp) ?_
          simp only [Act.put, pu]
          refine wpL_take (.string xt) (by rfl) (by go_simp) ?_
          simp only [Act.put, pu]
          refine wpL_take (.pointer (some ⟨qY, 7, none⟩)) (by rfl) (by go_simp) ?_
          simp only [Act.put, pu]
          refine wpL_take (.string yt) (by rfl) (by go_simp) ?_
          simp only [Act.put, pu]
          by_cases e7 : xt.toList = yt.toList
          rotate_left
          · have eb : (xt.toList == yt.toList) = false := by simpa using e7
            have HV : Hid (sameNos (nos l) (nos r) = false) := by
              show sameNos (nos l) (nos r) = false
              rw [HST.out]
              exact no_ne (fun h => e7 (congrArg No.target h)) _
            refine wpL_take (.bool true) (by rfl) (by go_simp; try first | exact e7 | simp [eb]) ?_
            simp only [Act.put, pu]
            clear e7
            refine wpL_sim _ _ { tmps := #[.agg #[.slice (some ⟨b1, o1, none⟩) n c], .agg #[.slice (some ⟨b2, o2, none⟩) n d], .pointer (some ⟨ga, 0, none⟩), .pointer (some ⟨ga + 1, 0, none⟩), u4, .int .i64 k, .pointer (some ⟨qX, 0, none⟩), .pointer (some ⟨qY, 0, none⟩), .pointer (some ⟨ga, 0, none⟩), .slice (some ⟨b1, o1, none⟩) n c, .int .i64 n, .pointer (some ⟨ga + 1, 0, none⟩), .slice (some ⟨b2, o2, none⟩) n d, .int .i64 n, .bool false, .int .i64 k, .pointer (some ⟨ga, 0, none⟩), .slice (some ⟨b1, o1, none⟩) n c, .int .i64 n, .bool true, u20, u21, .pointer (some ⟨ga, 0, none⟩), .slice (some ⟨b1, o1, none⟩) n c, .int .i64 k, .pointer (some ⟨b1, o1 + k * 13, none⟩), .agg #[.int .i64 xk, .int .i64 xm, .int .i64 xu, .int .i64 xg, .int .i64 xi, .int .i64 xz, .slice xda xdl xdc, .string xt, .int .i64 xv, .slice xaa xal xac, .slice xka xkl xkc, .int .i64 xp, .int .i64 xl], .pointer (some ⟨ga + 1, 0, none⟩), .slice (some ⟨b2, o2, none⟩) n d, .int .i64 k, .pointer (some ⟨b2, o2 + k * 13, none⟩), .agg #[.int .i64 yk, .int .i64 ym, .int .i64 yu, .int .i64 yg, .int .i64 yi, .int .i64 yz, .slice yda ydl ydc, .string yt, .int .i64 yv, .slice yaa yal yac, .slice yka ykl ykc, .int .i64 yp, .int .i64 yl], .pointer (some ⟨qX, 0, none⟩), .int .i64 xk, .pointer (some ⟨qY, 0, none⟩), .int .i64 yk, .bool false, .bool false, .pointer (some ⟨qX, 1, none⟩), .int .i64 xm, .pointer (some ⟨qY, 1, none⟩), .int .i64 ym, .bool false, .bool false, .bool false, .pointer (some ⟨qX, 2, none⟩), .int .i64 xu, .pointer (some ⟨qY, 2, none⟩), .int .i64 yu, .bool false, .bool false, .bool false, .pointer (some ⟨qX, 3, none⟩), .int .i64 xg, .pointer (some ⟨qY, 3, none⟩), .int .i64 yg, .bool false, .bool false, .bool false, .pointer (some ⟨qX, 4, none⟩), .int .i64 xi, .pointer (some ⟨qY, 4, none⟩), .int .i64 yi, .bool false, .bool false, .bool false, .pointer (some ⟨qX, 5, none⟩), .int .i64 xz, .pointer (some ⟨qY, 5, none⟩), .int .i64 yz, .bool false, .bool false, .bool false, .pointer (some ⟨qX, 6, none⟩), .slice xda xdl xdc, .string (strOfNums xd), .pointer (some ⟨qY, 6, none⟩), .slice yda ydl ydc, .string (strOfNums yd), .bool false, .bool false, .bool false, .pointer (some ⟨qX, 7, none⟩), .string xt, .pointer (some ⟨qY, 7, none⟩), .string yt, .bool true, .bool true, .bool true, undef, undef, undef, undef, undef, .bool true, .bool true, undef, undef, undef, undef, undef, .bool true, .bool true, undef, undef, undef, undef, undef, .bool true, .bool true, undef, undef, undef, undef, undef, undef, .bool true, .bool true, undef, undef, undef, undef, undef, undef, .bool true], defers := [] } (by kernel_rfl) ?_
            clear X0 X1 X2 X3 X4 X5 X6 X7 X8 X9 X10 X11 X12 Y0 Y1 Y2 Y3 Y4 Y5 Y6 Y7 Y8 Y9 Y10 Y11 Y12 CX CY
            refine hK2 _ _ ?_
            clear hK2
            go_wp2
            go_ret
            exact ⟨by rw [HV.out]; rfl, HG2.out⟩
          have eb7 : (xt.toList == yt.toList) = true := by simpa using e7
          refine wpL_take (.bool false) (by rfl) (by go_simp; try first | exact e7 | simp [eb7]) ?_
          simp only [Act.put, pu]
          refine wpL_take (.bool false) (by rfl) (by go_simp) ?_
          simp only [Act.put, pu]
          refine wpL_take (.bool false) (by rfl) (by go_simp) ?_
          simp only [Act.put, pu]
          clear eb7
          have HQ7 : Hid _ := e7
          clear e7
          refine wpL_take (.pointer (some ⟨qX, 8, none⟩)) (by rfl) (by go_simp) ?_
          simp only [Act.put, pu]
          refine wpL_take (.int .i64 xv) (by rfl) (by go_simp) ?_
          simp only [Act.put, pu]
          refine wpL_take (.pointer (some ⟨qY, 8, none⟩)) (by rfl) (by go_simp) ?_
          simp only [Act.put, pu]
          refine wpL_take (.int .i64 yv) (by rfl) (by go_simp) ?_
          simp only [Act.put, pu]
          by_cases e8 : xv = yv
          rotate_left
          · have eb : (xv == yv) = false := by simpa using e8
            have HV : Hid (sameNos (nos l) (nos r) = false) := by
              show sameNos (nos l) (nos r) = false
              rw [HST.out]
              exact no_ne (fun h => e8 (congrArg No.dev h)) _
            refine wpL_take (.bool true) (by rfl) (by go_simp; try first | exact e8 | simp [eb]) ?_
            simp only [Act.put, pu]
            clear e8
            refine wpL_sim _ _ { tmps := #[.agg #[.slice (some ⟨b1, o1, none⟩) n c], .agg #[.slice (some ⟨b2, o2, none⟩) n d], .pointer (some ⟨ga, 0, none⟩), .pointer (some ⟨ga + 1, 0, none⟩), u4, .int .i64 k, .pointer (some ⟨qX, 0, none⟩), .pointer (some ⟨qY, 0, none⟩), .pointer (some ⟨ga, 0, none⟩), .slice (some ⟨b1, o1, none⟩) n c, .int .i64 n, .pointer (some ⟨ga + 1, 0, none⟩), .slice (some ⟨b2, o2, none⟩) n d, .int .i64 n, .bool false, .int .i64 k, .pointer (some ⟨ga, 0, none⟩), .slice (some ⟨b1, o1, none⟩) n c, .int .i64 n, .bool true, u20, u21, .pointer (some ⟨ga, 0, none⟩), .slice (some ⟨b1, o1, none⟩) n c, .int .i64 k, .pointer (some ⟨b1, o1 + k * 13, none⟩), .agg #[.int .i64 xk, .int .i64 xm, .int .i64 xu, .int .i64 xg, .int .i64 xi, .int .i64 xz, .slice xda xdl xdc, .string xt, .int .i64 xv, .slice xaa xal xac, .slice xka xkl xkc, .int .i64 xp, .int .i64 xl], .pointer (some ⟨ga + 1, 0, none⟩), .slice (some ⟨b2, o2, none⟩) n d, .int .i64 k, .pointer (some ⟨b2, o2 + k * 13, none⟩), .agg #[.int .i64 yk, .int .i64 ym, .int .i64 yu, .int .i64 yg, .int .i64 yi, .int .i64 yz, .slice yda ydl ydc, .string yt, .int .i64 yv, .slice yaa yal yac, .slice yka ykl ykc, .int .i64 yp, .int .i64 yl], .pointer (some ⟨qX, 0, none⟩), .int .i64 xk, .pointer (some ⟨qY, 0, none⟩), .int .i64 yk, .bool false, .bool false, .pointer (some ⟨qX, 1, none⟩), .int .i64 xm, .pointer (some ⟨qY, 1, none⟩), .int .i64 ym, .bool false, .bool false, .bool false, .pointer (some ⟨qX, 2, none⟩), .int .i64 xu, .pointer (some ⟨qY, 2, none⟩), .int .i64 yu, .bool false, .bool false, .bool false, .pointer (some ⟨qX, 3, none⟩), .int .i64 xg, .pointer (some ⟨qY, 3, none⟩), .int .i64 yg, .bool false, .bool false, .bool false, .pointer (some ⟨qX, 4, none⟩), .int .i64 xi, .pointer (some ⟨qY, 4, none⟩), .int .i64 yi, .bool false, .bool false, .bool false, .pointer (some ⟨qX, 5, none⟩), .int .i64 xz, .pointer (some ⟨qY, 5, none⟩), .int .i64 yz, .bool false, .bool false, .bool false, .pointer (some ⟨qX, 6, none⟩), .slice xda xdl xdc, .string (strOfNums xd), .pointer (some ⟨qY, 6, none⟩), .slice yda ydl ydc, .string (strOfNums yd), .bool false, .bool false, .bool false, .pointer (some ⟨qX, 7, none⟩), .string xt, .pointer (some ⟨qY, 7, none⟩), .string yt, .bool false, .bool false, .bool false, .pointer (some ⟨qX, 8, none⟩), .int .i64 xv, .pointer (some ⟨qY, 8, none⟩), .int .i64 yv, .bool true, .bool true, .bool true, undef, undef, undef, undef, undef, .bool true, .bool true, undef, undef, undef, undef, undef, .bool true, .bool true, undef, undef, undef, undef, undef, undef, .bool true, .bool true, undef, undef, undef, undef, undef, undef, .bool true], defers := [] } (by kernel_rfl) ?_
            clear X0 X1 X2 X3 X4 X5 X6 X7 X8 X9 X10 X11 X12 Y0 Y1 Y2 Y3 Y4 Y5 Y6 Y7 Y8 Y9 Y10 Y11 Y12 CX CY
            refine hK2 _ _ ?_
            clear hK2
            go_wp2
            go_ret
            exact ⟨by rw [HV.out]; rfl, HG2.out⟩
          have eb8 : (xv == yv) = true := by simpa using e8
          refine wpL_take (.bool false) (by rfl) (by go_simp; try first | exact e8 | simp [eb8]) ?_
          simp only [Act.put, pu]
          refine wpL_take (.bool false) (by rfl) (by go_simp) ?_
          simp only [Act.put, pu]
          refine wpL_take (.bool false) (by rfl) (by go_simp) ?_
          simp only [Act.put, pu]
          clear eb8
          have HQ8 : Hid _ := e8
          clear e8
          refine wpL_take (.pointer (some ⟨qX, 11, none⟩)) (by rfl) (by go_simp) ?_
          simp only [Act.put, pu]
          refine wpL_take (.int .i64 xp) (by rfl) (by go_simp) ?_
          simp only [Act.put, pu]
          refine wpL_take (.pointer (some ⟨qY, 11, none⟩)) (by rfl) (by go_simp) ?_
          simp only [Act.put, pu]
          refine wpL_take (.int .i64 yp) (by rfl) (by go_simp) ?_
          simp only [Act.put, pu]
          by_cases e9 : xp = yp
          rotate_left
          · have eb : (xp == yp) = false := by simpa using e9
            have HV : Hid (sameNos (nos l) (nos r) = false) := by
              show sameNos (nos l) (nos r) = false
              rw [HST.out]
              exact no_ne (fun h => e9 (congrArg No.parent h)) _
            refine wpL_take (.bool true) (by rfl) (by go_simp; try first | exact e9 | simp [eb]) ?_
            simp only [Act.put, pu]
            clear e9
            refine wpL_sim _ _ { tmps := #[.agg #[.slice (some ⟨b1, o1, none⟩) n c], .agg #[.slice (some ⟨b2, o2, none⟩) n d], .pointer (some ⟨ga, 0, none⟩), .pointer (some ⟨ga + 1, 0, none⟩), u4, .int .i64 k, .pointer (some ⟨qX, 0, none⟩), .pointer (some ⟨qY, 0, none⟩), .pointer (some ⟨ga, 0, none⟩), .slice (some ⟨b1, o1, none⟩) n c, .int .i64 n, .pointer (some ⟨ga + 1, 0, none⟩), .slice (some ⟨b2, o2, none⟩) n d, .int .i64 n, .bool false, .int .i64 k, .pointer (some ⟨ga, 0, none⟩), .slice (some ⟨b1, o1, none⟩) n c, .int .i64 n, .bool true, u20, u21, .pointer (some ⟨ga, 0, none⟩), .slice (some ⟨b1, o1, none⟩) n c, .int .i64 k, .pointer (some ⟨b1, o1 + k * 13, none⟩), .agg #[.int .i64 xk, .int .i64 xm, .int .i64 xu, .int .i64 xg, .int .i64 xi, .int .i64 xz, .slice xda xdl xdc, .string xt, .int .i64 xv, .slice xaa xal xac, .slice xka xkl xkc, .int .i64 xp, .int .i64 xl], .pointer (some ⟨ga + 1, 0, none⟩), .slice (some ⟨b2, o2, none⟩) n d, .int .i64 k, .pointer (some ⟨b2, o2 + k * 13, none⟩), .agg #[.int .i64 yk, .int .i64 ym, .int .i64 yu, .int .i64 yg, .int .i64 yi, .int .i64 yz, .slice yda ydl ydc, .string yt, .int .i64 yv, .slice yaa yal yac, .slice yka ykl ykc, .int .i64 yp, .int .i64 yl], .pointer (some ⟨qX, 0, none⟩), .int .i64 xk, .pointer (some ⟨qY, 0, none⟩), .int .i64 yk, .bool false, .bool false, .pointer (some ⟨qX, 1, none⟩), .int .i64 xm, .pointer (some ⟨qY, 1, none⟩), .int .i64 ym, .bool false, .bool false, .bool false, .pointer (some ⟨qX, 2, none⟩), .int .i64 xu, .pointer (some ⟨qY, 2, none⟩), .int .i64 yu, .bool false, .bool false, .bool false, .pointer (some ⟨qX, 3, none⟩), .int .i64 xg, .pointer (some ⟨qY, 3, none⟩), .int .i64 yg, .bool false, .bool false, .bool false, .pointer (some ⟨qX, 4, none⟩), .int .i64 xi, .pointer (some ⟨qY, 4, none⟩), .int .i64 yi, .bool false, .bool false, .bool false, .pointer (some ⟨qX, 5, none⟩), .int .i64 xz, .pointer (some ⟨qY, 5, none⟩), .int .i64 yz, .bool false, .bool false, .bool false, .pointer (some ⟨qX, 6, none⟩), .slice xda xdl xdc, .string (strOfNums xd), .pointer (some ⟨qY, 6, none⟩), .slice yda ydl ydc, .string (strOfNums yd), .bool false, .bool false, .bool false, .pointer (some ⟨qX, 7, none⟩), .string xt, .pointer (some ⟨qY, 7, none⟩), .string yt, .bool false, .bool false, .bool false, .pointer (some ⟨qX, 8, none⟩), .int .i64 xv, .pointer (some ⟨qY, 8, none⟩), .int .i64 yv, .bool false, .bool false, .bool false, .pointer (some ⟨qX, 11, none⟩), .int .i64 xp, .pointer (some ⟨qY, 11, none⟩), .int .i64 yp, .bool true, .bool true, .bool true, undef, undef, undef, undef, undef, .bool true, .bool true, undef, undef, undef, undef, undef, undef, .bool true, .bool true, undef, undef, undef, undef, undef, undef, .bool true], defers := [] } (by kernel_rfl) ?_
            clear X0 X1 X2 X3 X4 X5 X6 X7 X8 X9 X10 X11 X12 Y0 Y1 Y2 Y3 Y4 Y5 Y6 Y7 Y8 Y9 Y10 Y11 Y12 CX CY
            refine hK2 _ _ ?_
            clear hK2
            go_wp2
            go_ret
            exact ⟨by rw [HV.out]; rfl, HG2.out⟩
          have eb9 : (xp == yp) = true := by simpa using e9
          refine wpL_take (.bool false) (by rfl) (by go_simp; try first | exact e9 | simp [eb9]) ?_
          simp only [Act.put, pu]
          refine wpL_take (.bool false) (by rfl) (by go_simp) ?_
          simp only [Act.put, pu]
          refine wpL_take (.bool false) (by rfl) (by go_simp) ?_
          simp only [Act.put, pu]
          clear eb9
          have HQ9 : Hid _ := e9
          clear e9
          refine wpL_take (.pointer (some ⟨qX, 12, none⟩)) (by rfl) (by go_simp) ?_
          simp only [Act.put, pu]
          refine wpL_take (.int .i64 xl) (by rfl) (by go_simp) ?_
          simp only [Act.put, pu]
          refine wpL_take (.pointer (some ⟨qY, 12, none⟩)) (by rfl) (by go_simp) ?_
          simp only [Act.put, pu]
          refine wpL_take (.int .i64 yl) (by rfl) (by go_simp) ?_
          simp only [Act.put, pu]
          by_cases e10 : xl = yl
          rotate_left
          · have eb : (xl == yl) = false := by simpa using e10
            have HV : Hid (sameNos (nos l) (nos r) = false) := by
              show sameNos (nos l) (nos r) = false
              rw [HST.out]
              exact no_ne (fun h => e10 (congrArg No.links h)) _
            refine wpL_take (.bool true) (by rfl) (by go_simp; try first | exact e10 | simp [eb]) ?_
            simp only [Act.put, pu]
            clear e10
            refine wpL_sim _ _ { tmps := #[.agg #[.slice (some ⟨b1, o1, none⟩) n c], .agg #[.slice (some ⟨b2, o2, none⟩) n d], .pointer (some ⟨ga, 0, none⟩), .pointer (some ⟨ga + 1, 0, none⟩), u4, .int .i64 k, .pointer (some ⟨qX, 0, none⟩), .pointer (some ⟨qY, 0, none⟩), .pointer (some ⟨ga, 0, none⟩), .slice (some ⟨b1, o1, none⟩) n c, .int .i64 n, .pointer (some ⟨ga + 1, 0, none⟩), .slice (some ⟨b2, o2, none⟩) n d, .int .i64 n, .bool false, .int .i64 k, .pointer (some ⟨ga, 0, none⟩), .slice (some ⟨b1, o1, none⟩) n c, .int .i64 n, .bool true, u20, u21, .pointer (some ⟨ga, 0, none⟩), .slice (some ⟨b1, o1, none⟩) n c, .int .i64 k, .pointer (some ⟨b1, o1 + k * 13, none⟩), .agg #[.int .i64 xk, .int .i64 xm, .int .i64 xu, .int .i64 xg, .int .i64 xi, .int .i64 xz, .slice xda xdl xdc, .string xt, .int .i64 xv, .slice xaa xal xac, .slice xka xkl xkc, .int .i64 xp, .int .i64 xl], .pointer (some ⟨ga + 1, 0, none⟩), .slice (some ⟨b2, o2, none⟩) n d, .int .i64 k, .pointer (some ⟨b2, o2 + k * 13, none⟩), .agg #[.int .i64 yk, .int .i64 ym, .int .i64 yu, .int .i64 yg, .int .i64 yi, .int .i64 yz, .slice yda ydl ydc, .string yt, .int .i64 yv, .slice yaa yal yac, .slice yka ykl ykc, .int .i64 yp, .int .i64 yl], .pointer (some ⟨qX, 0, none⟩), .int .i64 xk, .pointer (some ⟨qY, 0, none⟩), .int .i64 yk, .bool false, .bool false, .pointer (some ⟨qX, 1, none⟩), .int .i64 xm, .pointer (some ⟨qY, 1, none⟩), .int .i64 ym, .bool false, .bool false, .bool false, .pointer (some ⟨qX, 2, none⟩), .int .i64 xu, .pointer (some ⟨qY, 2, none⟩), .int .i64 yu, .bool false, .bool false, .bool false, .pointer (some ⟨qX, 3, none⟩), .int .i64 xg, .pointer (some ⟨qY, 3, none⟩), .int .i64 yg, .bool false, .bool false, .bool false, .pointer (some ⟨qX, 4, none⟩), .int .i64 xi, .pointer (some ⟨qY, 4, none⟩), .int .i64 yi, .bool false, .bool false, .bool false, .pointer (some ⟨qX, 5, none⟩), .int .i64 xz, .pointer (some ⟨qY, 5, none⟩), .int .i64 yz, .bool false, .bool false, .bool false, .pointer (some ⟨qX, 6, none⟩), .slice xda xdl xdc, .string (strOfNums xd), .pointer (some ⟨qY, 6, none⟩), .slice yda ydl ydc, .string (strOfNums yd), .bool false, .bool false, .bool false, .pointer (some ⟨qX, 7, none⟩), .string xt, .pointer (some ⟨qY, 7, none⟩), .string yt, .bool false, .bool false, .bool false, .pointer (some ⟨qX, 8, none⟩), .int .i64 xv, .pointer (some ⟨qY, 8, none⟩), .int .i64 yv, .bool false, .bool false, .bool false, .pointer (some ⟨qX, 11, none⟩), .int .i64 xp, .pointer (some ⟨qY, 11, none⟩), .int .i64 yp, .bool false, .bool false, .bool false, .pointer (some ⟨qX, 12, none⟩), .int .i64 xl, .pointer (some ⟨qY, 12, none⟩), .int .i64 yl, .bool true, .bool true, .bool true, undef, undef, undef, undef, undef, undef, .bool true, .bool true, undef, undef, undef, undef, undef, undef, .bool true], defers := [] } (by kernel_rfl) ?_
            clear X0 X1 X2 X3 X4 X5 X6 X7 X8 X9 X10 X11 X12 Y0 Y1 Y2 Y3 Y4 Y5 Y6 Y7 Y8 Y9 Y10 Y11 Y12 CX CY
            refine hK2 _ _ ?_
            clear hK2
            go_wp2
            go_ret
            exact ⟨by rw [HV.out]; rfl, HG2.out⟩
          have eb10 : (xl == yl) = true := by simpa using e10
          refine wpL_take (.bool false) (by rfl) (by go_simp; try first | exact e10 | simp [eb10]) ?_
          simp only [Act.put, pu]
          refine wpL_take (.bool false) (by rfl) (by go_simp) ?_
          simp only [Act.put, pu]
          refine wpL_take (.bool false) (by rfl) (by go_simp) ?_
          simp only [Act.put, pu]
          clear eb10
          have HQ10 : Hid _ := e10
          clear e10
          clear X0 X1 X2 X3 X4 X5 X6 X7 X8 X11 X12 Y0 Y1 Y2 Y3 Y4 Y5 Y6 Y7 Y8 Y11 Y12 CX CY
          refine wpL_take (.pointer (some ⟨qX, 9, none⟩)) (by rfl) (by go_simp) ?_
          simp only [Act.put, pu]
          refine wpL_take (.slice xaa xal xac) (by rfl) (by go_simp) ?_
          simp only [Act.put, pu]
          refine wpL_take (.pointer (some ⟨qY, 9, none⟩)) (by rfl) (by go_simp) ?_
          simp only [Act.put, pu]
          refine wpL_take (.slice yaa yal yac) (by rfl) (by go_simp) ?_
          simp only [Act.put, pu]
          have hcall := rsameattrs_any xaa yaa xal xac yal yac xat yat WE HO.out.1.ats HO.out.2.ats
          generalize hsb : sameAts (xat.map AtV.at) (yat.map AtV.at) = sb at hcall
          have HSB : Hid _ := hsb
          clear hsb
          refine BigFrame.wpList_want (by rfl) (fun K3 hK3 => ?_)
          unfold Oper.wp
          go_simp
          refine hcall.mono ?_
          clear hcall
          rintro e W6 ⟨rfl, t6, rfl⟩
          refine hK3 _ _ ?_
          clear hK3 K3
          have HB2 : Hid _ := And.intro (HB.out.1.kept (drewG11 (World.grownBy.refl _ _) t6)) (And.intro (HB.out.2.1.kept (drewG11 (World.grownBy.refl _ _) t6)) (drewG11 HB.out.2.2 t6))
          have HG3 : Hid _ := drewG11 HG2.out t6
          have HW3 : Hid _ := drewG11 HB.out.2.2 t6
          generalize WE.drewN t6 = WF at *
          cases sb with
          | false =>
            have HV : Hid (sameNos (nos l) (nos r) = false) := by
              show sameNos (nos l) (nos r) = false
              rw [HST.out]
              refine no_ne (fun h => ?_) _
              have h2 := HSB.out
              have h3 : sameAts (xat.map AtV.at) (yat.map AtV.at) = true := (sameAts_eq _ _).2 (congrArg No.attrs h)
              rw [h3] at h2
              cases h2
            refine wpL_take (.bool true) (by rfl) (by go_simp) ?_
            simp only [Act.put, pu]
            refine wpL_sim _ _ { tmps := #[.agg #[.slice (some ⟨b1, o1, none⟩) n c], .agg #[.slice (some ⟨b2, o2, none⟩) n d], .pointer (some ⟨ga, 0, none⟩), .pointer (some ⟨ga + 1, 0, none⟩), u4, .int .i64 k, .pointer (some ⟨qX, 0, none⟩), .pointer (some ⟨qY, 0, none⟩), .pointer (some ⟨ga, 0, none⟩), .slice (some ⟨b1, o1, none⟩) n c, .int .i64 n, .pointer (some ⟨ga + 1, 0, none⟩), .slice (some ⟨b2, o2, none⟩) n d, .int .i64 n, .bool false, .int .i64 k, .pointer (some ⟨ga, 0, none⟩), .slice (some ⟨b1, o1, none⟩) n c, .int .i64 n, .bool true, u20, u21, .pointer (some ⟨ga, 0, none⟩), .slice (some ⟨b1, o1, none⟩) n c, .int .i64 k, .pointer (some ⟨b1, o1 + k * 13, none⟩), .agg #[.int .i64 xk, .int .i64 xm, .int .i64 xu, .int .i64 xg, .int .i64 xi, .int .i64 xz, .slice xda xdl xdc, .string xt, .int .i64 xv, .slice xaa xal xac, .slice xka xkl xkc, .int .i64 xp, .int .i64 xl], .pointer (some ⟨ga + 1, 0, none⟩), .slice (some ⟨b2, o2, none⟩) n d, .int .i64 k, .pointer (some ⟨b2, o2 + k * 13, none⟩), .agg #[.int .i64 yk, .int .i64 ym, .int .i64 yu, .int .i64 yg, .int .i64 yi, .int .i64 yz, .slice yda ydl ydc, .string yt, .int .i64 yv, .slice yaa yal yac, .slice yka ykl ykc, .int .i64 yp, .int .i64 yl], .pointer (some ⟨qX, 0, none⟩), .int .i64 xk, .pointer (some ⟨qY, 0, none⟩), .int .i64 yk, .bool false, .bool false, .pointer (some ⟨qX, 1, none⟩), .int .i64 xm, .pointer (some ⟨qY, 1, none⟩), .int .i64 ym, .bool false, .bool false, .bool false, .pointer (some ⟨qX, 2, none⟩), .int .i64 xu, .pointer (some ⟨qY, 2, none⟩), .int .i64 yu, .bool false, .bool false, .bool false, .pointer (some ⟨qX, 3, none⟩), .int .i64 xg, .pointer (some ⟨qY, 3, none⟩), .int .i64 yg, .bool false, .bool false, .bool false, .pointer (some ⟨qX, 4, none⟩), .int .i64 xi, .pointer (some ⟨qY, 4, none⟩), .int .i64 yi, .bool false, .bool false, .bool false, .pointer (some ⟨qX, 5, none⟩), .int .i64 xz, .pointer (some ⟨qY, 5, none⟩), .int .i64 yz, .bool false, .bool false, .bool false, .pointer (some ⟨qX, 6, none⟩), .slice xda xdl xdc, .string (strOfNums xd), .pointer (some ⟨qY, 6, none⟩), .slice yda ydl ydc, .string (strOfNums yd), .bool false, .bool false, .bool false, .pointer (some ⟨qX, 7, none⟩), .string xt, .pointer (some ⟨qY, 7, none⟩), .string yt, .bool false, .bool false, .bool false, .pointer (some ⟨qX, 8, none⟩), .int .i64 xv, .pointer (some ⟨qY, 8, none⟩), .int .i64 yv, .bool false, .bool false, .bool false, .pointer (some ⟨qX, 11, none⟩), .int .i64 xp, .pointer (some ⟨qY, 11, none⟩), .int .i64 yp, .bool false, .bool false, .bool false, .pointer (some ⟨qX, 12, none⟩), .int .i64 xl, .pointer (some ⟨qY, 12, none⟩), .int .i64 yl, .bool false, .bool false, .bool false, .pointer (some ⟨qX, 9, none⟩), .slice xaa xal xac, .pointer (some ⟨qY, 9, none⟩), .slice yaa yal yac, .bool false, .bool true, .bool true, .bool true, undef, undef, undef, undef, undef, undef, .bool true], defers := [] } (by kernel_rfl) ?_
            refine hK2 _ _ ?_
            clear hK2
            go_wp2
            go_ret
            exact ⟨by rw [HV.out]; rfl, HG3.out⟩
          | true =>
            refine wpL_take (.bool false) (by rfl) (by go_simp) ?_
            simp only [Act.put, pu]
            refine wpL_take (.bool false) (by rfl) (by go_simp) ?_
            simp only [Act.put, pu]
            refine wpL_take (.bool false) (by rfl) (by go_simp) ?_
            simp only [Act.put, pu]
            clear X9 X10 Y9 Y10
            have HO2 : Hid _ := And.intro (HX.out.1.ok.grown HB2.out.2.2) (HX.out.2.ok.grown HB2.out.2.2)
            obtain ⟨-, -, -, -, -, -, -, -, -, -, X10, -, -⟩ := bx13 HB2.out.1
            obtain ⟨-, -, -, -, -, -, -, -, -, -, Y10, -, -⟩ := bx13 HB2.out.2.1
            have HSA : Hid _ := HSB.out
            clear HSB HB HO HG2 HW3
            have HG2 : Hid _ := HG3.out
            have HB : Hid _ := HB2.out
            clear HG3 HB2
            refine wpL_take (.pointer (some ⟨qX, 10, none⟩)) (by rfl) (by go_simp) ?_
            simp only [Act.put, pu]
            refine wpL_take (.slice xka xkl xkc) (by rfl) (by go_simp) ?_
            simp only [Act.put, pu]
            refine wpL_take (.pointer (some ⟨qY, 10, none⟩)) (by rfl) (by go_simp) ?_
            simp only [Act.put, pu]
            refine wpL_take (.slice yka ykl ykc) (by rfl) (by go_simp) ?_
            simp only [Act.put, pu]
            have hcall := rsamekids_any xka yka xkl xkc ykl ykc xki yki WF HO2.out.1.kds HO2.out.2.kds
            generalize hsb : sameKds xki yki = sb at hcall
            have HSB : Hid _ := hsb
            clear hsb
            refine BigFrame.wpList_want (by rfl) (fun K3 hK3 => ?_)
            unfold Oper.wp
            go_simp
            refine hcall.mono ?_
            clear hcall
            rintro e W6 ⟨rfl, t6, rfl⟩
            refine hK3 _ _ ?_
            clear hK3 K3
            skip
            have HG3 : Hid _ := drewG11 HG2.out t6
            have HW3 : Hid _ := drewG11 HB.out.2.2 t6
            generalize WF.drewN t6 = WH at *
            cases sb with
            | false =>
              have HV : Hid (sameNos (nos l) (nos r) = false) := by
                show sameNos (nos l) (nos r) = false
                rw [HST.out]
                refine no_ne (fun h => ?_) _
                have h2 := HSB.out
                have h3 : sameKds xki yki = true := (sameKds_eq _ _).2 (congrArg No.kids h)
                rw [h3] at h2
                cases h2
              refine wpL_take (.bool true) (by rfl) (by go_simp) ?_
              simp only [Act.put, pu]
              refine wpL_sim _ _ { tmps := #[.agg #[.slice (some ⟨b1, o1, none⟩) n c], .agg #[.slice (some ⟨b2, o2, none⟩) n d], .pointer (some ⟨ga, 0, none⟩), .pointer (some ⟨ga + 1, 0, none⟩), u4, .int .i64 k, .pointer (some ⟨qX, 0, none⟩), .pointer (some ⟨qY, 0, none⟩), .pointer (some ⟨ga, 0, none⟩), .slice (some ⟨b1, o1, none⟩) n c, .int .i64 n, .pointer (some ⟨ga + 1, 0, none⟩), .slice (some ⟨b2, o2, none⟩) n d, .int .i64 n, .bool false, .int .i64 k, .pointer (some ⟨ga, 0, none⟩), .slice (some ⟨b1, o1, none⟩) n c, .int .i64 n, .bool true, u20, u21, .pointer (some ⟨ga, 0, none⟩), .slice (some ⟨b1, o1, none⟩) n c, .int .i64 k, .pointer (some ⟨b1, o1 + k * 13, none⟩), .agg #[.int .i64 xk, .int .i64 xm, .int .i64 xu, .int .i64 xg, .int .i64 xi, .int .i64 xz, .slice xda xdl xdc, .string xt, .int .i64 xv, .slice xaa xal xac, .slice xka xkl xkc, .int .i64 xp, .int .i64 xl], .pointer (some ⟨ga + 1, 0, none⟩), .slice (some ⟨b2, o2, none⟩) n d, .int .i64 k, .pointer (some ⟨b2, o2 + k * 13, none⟩), .agg #[.int .i64 yk, .int .i64 ym, .int .i64 yu, .int .i64 yg, .int .i64 yi, .int .i64 yz, .slice yda ydl ydc, .string yt, .int .i64 yv, .slice yaa yal yac, .slice yka ykl ykc, .int .i64 yp, .int .i64 yl], .pointer (some ⟨qX, 0, none⟩), .int .i64 xk, .pointer (some ⟨qY, 0, none⟩), .int .i64 yk, .bool false, .bool false, .pointer (some ⟨qX, 1, none⟩), .int .i64 xm, .pointer (some ⟨qY, 1, none⟩), .int .i64 ym, .bool false, .bool false, .bool false, .pointer (some ⟨qX, 2, none⟩), .int .i64 xu, .pointer (some ⟨qY, 2, none⟩), .int .i64 yu, .bool false, .bool false, .bool false, .pointer (some ⟨qX, 3, none⟩), .int .i64 xg, .pointer (some ⟨qY, 3, none⟩), .int .i64 yg, .bool false, .bool false, .bool false, .pointer (some ⟨qX, 4, none⟩), .int .i64 xi, .pointer (some ⟨qY, 4, none⟩), .int .i64 yi, .bool false, .bool false, .bool false, .pointer (some ⟨qX, 5, none⟩), .int .i64 xz, .pointer (some ⟨qY, 5, none⟩), .int .i64 yz, .bool false, .bool false, .bool false, .pointer (some ⟨qX, 6, none⟩), .slice xda xdl xdc, .string (strOfNums xd), .pointer (some ⟨qY, 6, none⟩), .slice yda ydl ydc, .string (strOfNums yd), .bool false, .bool false, .bool false, .pointer (some ⟨qX, 7, none⟩), .string xt, .pointer (some ⟨qY, 7, none⟩), .string yt, .bool false, .bool false, .bool false, .pointer (some ⟨qX, 8, none⟩), .int .i64 xv, .pointer (some ⟨qY, 8, none⟩), .int .i64 yv, .bool false, .bool false, .bool false, .pointer (some ⟨qX, 11, none⟩), .int .i64 xp, .pointer (some ⟨qY, 11, none⟩), .int .i64 yp, .bool false, .bool false, .bool false, .pointer (some ⟨qX, 12, none⟩), .int .i64 xl, .pointer (some ⟨qY, 12, none⟩), .int .i64 yl, .bool false, .bool false, .bool false, .pointer (some ⟨qX, 9, none⟩), .slice xaa xal xac, .pointer (some ⟨qY, 9, none⟩), .slice yaa yal yac, .bool true, .bool false, .bool false, .bool false, .pointer (some ⟨qX, 10, none⟩), .slice xka xkl xkc, .pointer (some ⟨qY, 10, none⟩), .slice yka ykl ykc, .bool false, .bool true, .bool true], defers := [] } (by kernel_rfl) ?_
              refine hK2 _ _ ?_
              clear hK2
              go_wp2
              go_ret
              exact ⟨by rw [HV.out]; rfl, HG3.out⟩
            | true =>
              refine wpL_take (.bool false) (by rfl) (by go_simp) ?_
              simp only [Act.put, pu]
              refine wpL_take (.bool false) (by rfl) (by go_simp) ?_
              simp only [Act.put, pu]
              have HVE : Hid (sameNos (nos l) (nos r) = sameNos ((nos l).drop (k + 1)) ((nos r).drop (k + 1))) := by
                show sameNos (nos l) (nos r) = _
                rw [HST.out]
                have hq : sameNo (NoV.no ⟨xk, xm, xu, xg, xi, xz, xda, xdl, xdc, xd, xt, xv, xaa, xal, xac, xat, xka, xkl, xkc, xki, xp, xl⟩) (NoV.no ⟨yk, ym, yu, yg, yi, yz, yda, ydl, ydc, yd, yt, yv, yaa, yal, yac, yat, yka, ykl, ykc, yki, yp, yl⟩) = true := by
                  rw [sameNo_eq]
                  have a1 := (sameAts_eq _ _).1 HSA.out
                  have a2 := (sameKds_eq _ _).1 HSB.out
                  have q0 := HQ0.out; have q1 := HQ1.out; have q2 := HQ2.out; have q3 := HQ3.out; have q4 := HQ4.out; have q5 := HQ5.out; have q6 := HQ6.out; have q7 := HQ7.out; have q8 := HQ8.out; have q9 := HQ9.out; have q10 := HQ10.out
                  unfold NoV.no
                  simp only [q0, q1, q2, q3, q4, q5, q6, q7, q8, q9, q10, a1, a2]
                rw [hq, Bool.true_and]
              refine hK2 _ _ ?_
              clear hK2
              go_wp2
              exact ⟨⟨k + 1, by omega, by go_num, HVE, grown_trans HW.out HW3.out⟩, by simp [intOf]; omega⟩
        refine wp_region_held_drew (S := fun w' => wr.grownBy w' none) (by kernel_rfl) (drewG0 wr) (fun hH => ?_)
        generalize wr.drew = WD at *
        refine wpAnyH_take (i := 0) (oi := ⟨some 22, _, _, _, _, _⟩) (v := .pointer (some ⟨ga, 0, none⟩)) rfl (by kernel_rfl) (by kernel_rfl) (by kernel_rfl) (fun _ _ _ h => h) (Or.inl ⟨by rfl, fun w hSw => by go_simp⟩) hH ?_
        simp only [Act.put, pu]
        refine wpAnyH_take (i := 1) (oi := ⟨some 23, _, _, _, _, _⟩) (v := .slice (some ⟨b1, o1, none⟩) n c) rfl (by kernel_rfl) (by kernel_rfl) (by kernel_rfl) (fun _ _ _ h => h) (Or.inl ⟨by rfl, fun w hSw => by have e1 := cell_grown hA2 hSw; go_simp⟩) hH ?_
        simp only [Act.put, pu]
        refine wpAnyH_take (i := 2) (oi := ⟨some 24, _, _, _, _, _⟩) (v := .int .i64 k) rfl (by kernel_rfl) (by kernel_rfl) (by kernel_rfl) (fun _ _ _ h => h) (Or.inl ⟨by rfl, fun w hSw => by go_simp⟩) hH ?_
        simp only [Act.put, pu]
        refine wpAnyH_take (i := 3) (oi := ⟨some 25, _, _, _, _, _⟩) (v := .pointer (some ⟨b1, o1 + k * 13, none⟩)) rfl (by kernel_rfl) (by kernel_rfl) (by kernel_rfl) (fun _ _ _ h => h) (Or.inl ⟨by rfl, fun w hSw => by go_simp⟩) hH ?_
        simp only [Act.put, pu]
        refine wpAnyH_take (i := 4) (oi := ⟨some 26, _, _, _, _, _⟩) (v := .agg #[.int .i64 xk, .int .i64 xm, .int .i64 xu, .int .i64 xg, .int .i64 xi, .int .i64 xz, .slice xda xdl xdc, .string xt, .int .i64 xv, .slice xaa xal xac, .slice xka xkl xkc, .int .i64 xp, .int .i64 xl]) rfl (by kernel_rfl) (by kernel_rfl) (by kernel_rfl) (fun _ _ _ h => h) (Or.inl ⟨by rfl, fun w hSw => by obtain ⟨p0, p1, p2, p3, p4, p5, p6, p7, p8, p9, p10, p11, p12, -⟩ := HX.out.1.grown hSw; simp only at p0 p1 p2 p3 p4 p5 p6 p7 p8 p9 p10 p11 p12; go_simp⟩) hH ?_
        simp only [Act.put, pu]
        refine wpAnyH_take (i := 5) (oi := ⟨some 27, _, _, _, _, _⟩) (v := .pointer (some ⟨ga + 1, 0, none⟩)) rfl (by kernel_rfl) (by kernel_rfl) (by kernel_rfl) (fun _ _ _ h => h) (Or.inl ⟨by rfl, fun w hSw => by go_simp⟩) hH ?_
        simp only [Act.put, pu]
        refine wpAnyH_take (i := 6) (oi := ⟨some 28, _, _, _, _, _⟩) (v := .slice (some ⟨b2, o2, none⟩) n d) rfl (by kernel_rfl) (by kernel_rfl) (by kernel_rfl) (fun _ _ _ h => h) (Or.inl ⟨by rfl, fun w hSw => by have e1 := cell_grown hB2 hSw; go_simp⟩) hH ?_
        simp only [Act.put, pu]
        refine wpAnyH_take (i := 7) (oi := ⟨some 29, _, _, _, _, _⟩) (v := .int .i64 k) rfl (by kernel_rfl) (by kernel_rfl) (by kernel_rfl) (fun _ _ _ h => h) (Or.inl ⟨by rfl, fun w hSw => by go_simp⟩) hH ?_
        simp only [Act.put, pu]
        refine wpAnyH_take (i := 8) (oi := ⟨some 30, _, _, _, _, _⟩) (v := .pointer (some ⟨b2, o2 + k * 13, none⟩)) rfl (by kernel_rfl) (by kernel_rfl) (by kernel_rfl) (fun _ _ _ h => h) (Or.inl ⟨by rfl, fun w hSw => by go_simp⟩) hH ?_
        simp only [Act.put, pu]
        refine wpAnyH_take (i := 9) (oi := ⟨some 31, _, _, _, _, _⟩) (v := .agg #[.int .i64 yk, .int .i64 ym, .int .i64 yu, .int .i64 yg, .int .i64 yi, .int .i64 yz, .slice yda ydl ydc, .string yt, .int .i64 yv, .slice yaa yal yac, .slice yka ykl ykc, .int .i64 yp, .int .i64 yl]) rfl (by kernel_rfl) (by kernel_rfl) (by kernel_rfl) (fun _ _ _ h => h) (Or.inl ⟨by rfl, fun w hSw => by obtain ⟨p0, p1, p2, p3, p4, p5, p6, p7, p8, p9, p10, p11, p12, -⟩ := HX.out.2.grown hSw; simp only at p0 p1 p2 p3 p4 p5 p6 p7 p8 p9 p10 p11 p12; go_simp⟩) hH ?_
        simp only [Act.put, pu]
        refine wpAnyH_ready (rs := [10, 11]) (by kernel_rfl) (by simp) ?_
        refine AllReadyH.cons rfl (fun K1 hK => ?_) (AllReadyH.cons rfl (fun K1 hK => ?_) AllReadyH.nil)
        · go_simp
          have gX := World.grownBy_alloc WD (.cells #[.int .i64 0, .int .i64 0, .int .i64 0, .int .i64 0, .int .i64 0, .int .i64 0, .slice none 0 0, .string ⟨#[]⟩, .int .i64 0, .slice none 0 0, .slice none 0 0, .int .i64 0, .int .i64 0] 54) none
          have hX := Bx.new WD 54 [.int .i64 0, .int .i64 0, .int .i64 0, .int .i64 0, .int .i64 0, .int .i64 0, .slice none 0 0, .string ⟨#[]⟩, .int .i64 0, .slice none 0 0, .slice none 0 0, .int .i64 0, .int .i64 0]
          have lX := hH.size
          replace hH := grown_trans hH gX
          generalize WD.alloc (.cells #[.int .i64 0, .int .i64 0, .int .i64 0, .int .i64 0, .int .i64 0, .int .i64 0, .slice none 0 0, .string ⟨#[]⟩, .int .i64 0, .slice none 0 0, .slice none 0 0, .int .i64 0, .int .i64 0] 54) = WA at *
          generalize WD.heap.size = qX at *
          refine hK.out _ _ hH (fun h0 => ?_)
          clear h0 hK K1
          have hlq := hX.lt
          refine wpAnyH_ready (rs := [11]) (by kernel_rfl) (by simp) ?_
          refine AllReadyH.cons rfl (fun K1 hK => ?_) AllReadyH.nil
          go_simp
          have gY := World.grownBy_alloc WA (.cells #[.int .i64 0, .int .i64 0, .int .i64 0, .int .i64 0, .int .i64 0, .int .i64 0, .slice none 0 0, .string ⟨#[]⟩, .int .i64 0, .slice none 0 0, .slice none 0 0, .int .i64 0, .int .i64 0] 54) none
          have hY := Bx.new WA 54 [.int .i64 0, .int .i64 0, .int .i64 0, .int .i64 0, .int .i64 0, .int .i64 0, .slice none 0 0, .string ⟨#[]⟩, .int .i64 0, .slice none 0 0, .slice none 0 0, .int .i64 0, .int .i64 0]
          have lY := hH.size
          replace hH := grown_trans hH gY
          generalize WA.alloc (.cells #[.int .i64 0, .int .i64 0, .int .i64 0, .int .i64 0, .int .i64 0, .int .i64 0, .slice none 0 0, .string ⟨#[]⟩, .int .i64 0, .slice none 0 0, .slice none 0 0, .int .i64 0, .int .i64 0] 54) = WB at *
          generalize WA.heap.size = qY at *
          refine hK.out _ _ hH (fun h0 => ?_)
          clear h0 hK K1
          replace hX := hX.kept gY
          refine wpAnyH_ready (rs := [12]) (by kernel_rfl) (by simp) ?_
          refine AllReadyH.cons rfl (fun K1 hK => ?_) AllReadyH.nil
          refine step_store_bx (by rfl) 54 _ _ (by rfl) qX [.int .i64 xk, .int .i64 xm, .int .i64 xu, .int .i64 xg, .int .i64 xi, .int .i64 xz, .slice xda xdl xdc, .string xt, .int .i64 xv, .slice xaa xal xac, .slice xka xkl xkc, .int .i64 xp, .int .i64 xl] (by rfl) (by rfl) hX node_size rfl rfl ?_
          intro WC hn gn
          replace hY := hY.but gn (by intro e; injection e with e; omega)
          replace hX := hn
          replace hH := grown_new hH gn lX
          clear hn gn
          refine hK.out _ _ hH (fun h0 => ?_)
          clear h0 hK K1
          refine wpAnyH_ready (rs := [13]) (by kernel_rfl) (by simp) ?_
          refine AllReadyH.cons rfl (fun K1 hK => ?_) AllReadyH.nil
          refine step_store_bx (by rfl) 54 _ _ (by rfl) qY [.int .i64 yk, .int .i64 ym, .int .i64 yu, .int .i64 yg, .int .i64 yi, .int .i64 yz, .slice yda ydl ydc, .string yt, .int .i64 yv, .slice yaa yal yac, .slice yka ykl ykc, .int .i64 yp, .int .i64 yl] (by rfl) (by rfl) hY node_size rfl rfl ?_
          intro WE hn gn
          replace hX := hX.but gn (by intro e; injection e with e; omega)
          replace hY := hn
          replace hH := grown_new hH gn lY
          clear hn gn
          refine hK.out _ _ hH (fun h0 => ?_)
          clear h0 hK K1
          refine wpAnyH_done (by kernel_rfl) ?_ _
          exact tail qX qY WE hX hY hH
        · go_simp
          have gY := World.grownBy_alloc WD (.cells #[.int .i64 0, .int .i64 0, .int .i64 0, .int .i64 0, .int .i64 0, .int .i64 0, .slice none 0 0, .string ⟨#[]⟩, .int .i64 0, .slice none 0 0, .slice none 0 0, .int .i64 0, .int .i64 0] 54) none
          have hY := Bx.new WD 54 [.int .i64 0, .int .i64 0, .int .i64 0, .int .i64 0, .int .i64 0, .int .i64 0, .slice none 0 0, .string ⟨#[]⟩, .int .i64 0, .slice none 0 0, .slice none 0 0, .int .i64 0, .int .i64 0]
          have lY := hH.size
          replace hH := grown_trans hH gY
          generalize WD.alloc (.cells #[.int .i64 0, .int .i64 0, .int .i64 0, .int .i64 0, .int .i64 0, .int .i64 0, .slice none 0 0, .string ⟨#[]⟩, .int .i64 0, .slice none 0 0, .slice none 0 0, .int .i64 0, .int .i64 0] 54) = WA at *
          generalize WD.heap.size = qY at *
          refine hK.out _ _ hH (fun h0 => ?_)
          clear h0 hK K1
          have hlq := hY.lt
          refine wpAnyH_ready (rs := [10]) (by kernel_rfl) (by simp) ?_
          refine AllReadyH.cons rfl (fun K1 hK => ?_) AllReadyH.nil
          go_simp
          have gX := World.grownBy_alloc WA (.cells #[.int .i64 0, .int .i64 0, .int .i64 0, .int .i64 0, .int .i64 0, .int .i64 0, .slice none 0 0, .string ⟨#[]⟩, .int .i64 0, .slice none 0 0, .slice none 0 0, .int .i64 0, .int .i64 0] 54) none
          have hX := Bx.new WA 54 [.int .i64 0, .int .i64 0, .int .i64 0, .int .i64 0, .int .i64 0, .int .i64 0, .slice none 0 0, .string ⟨#[]⟩, .int .i64 0, .slice none 0 0, .slice none 0 0, .int .i64 0, .int .i64 0]
          have lX := hH.size
          replace hH := grown_trans hH gX
          generalize WA.alloc (.cells #[.int .i64 0, .int .i64 0, .int .i64 0, .int .i64 0, .int .i64 0, .int .i64 0, .slice none 0 0, .string ⟨#[]⟩, .int .i64 0, .slice none 0 0, .slice none 0 0, .int .i64 0, .int .i64 0] 54) = WB at *
          generalize WA.heap.size = qX at *
          refine hK.out _ _ hH (fun h0 => ?_)
          clear h0 hK K1
          replace hY := hY.kept gX
          refine wpAnyH_ready (rs := [12]) (by kernel_rfl) (by simp) ?_
          refine AllReadyH.cons rfl (fun K1 hK => ?_) AllReadyH.nil
          refine step_store_bx (by rfl) 54 _ _ (by rfl) qX [.int .i64 xk, .int .i64 xm, .int .i64 xu, .int .i64 xg, .int .i64 xi, .int .i64 xz, .slice xda xdl xdc, .string xt, .int .i64 xv, .slice xaa xal xac, .slice xka xkl xkc, .int .i64 xp, .int .i64 xl] (by rfl) (by rfl) hX node_size rfl rfl ?_
          intro WC hn gn
          replace hY := hY.but gn (by intro e; injection e with e; omega)
          replace hX := hn
          replace hH := grown_new hH gn lX
          clear hn gn
          refine hK.out _ _ hH (fun h0 => ?_)
          clear h0 hK K1
          refine wpAnyH_ready (rs := [13]) (by kernel_rfl) (by simp) ?_
          refine AllReadyH.cons rfl (fun K1 hK => ?_) AllReadyH.nil
          refine step_store_bx (by rfl) 54 _ _ (by rfl) qY [.int .i64 yk, .int .i64 ym, .int .i64 yu, .int .i64 yg, .int .i64 yi, .int .i64 yz, .slice yda ydl ydc, .string yt, .int .i64 yv, .slice yaa yal yac, .slice yka ykl ykc, .int .i64 yp, .int .i64 yl] (by rfl) (by rfl) hY node_size rfl rfl ?_
          intro WE hn gn
          replace hX := hX.but gn (by intro e; injection e with e; omega)
          replace hY := hn
          replace hH := grown_new hH gn lY
          clear hn gn
          refine hK.out _ _ hH (fun h0 => ?_)
          clear h0 hK K1
          refine wpAnyH_done (by kernel_rfl) ?_ _
          exact tail qX qY WE hX hY hH
      · have h3i : ¬ (k : Int) < n := by omega
        have HV : Hid (sameNos (nos l) (nos r) = true) := by
          show sameNos (nos l) (nos r) = true
          rw [HC.out, List.drop_eq_nil_of_le (by rw [nos_len, HE.out.1]; omega), List.drop_eq_nil_of_le (by rw [nos_len, HE.out.2]; omega)]
          rfl
        clear HC
        go_wp2
        go_ret
        exact ⟨by rw [HV.out]; rfl, grown_trans HG.out HW.out⟩
  · have HV : Hid (sameNos (nos l) (nos r) = false) := sameNos_len (by rw [nos_len, nos_len, R.len_eq, R2.len_eq]; exact hnm)
    have hb : ((n : Int) == (m : Int)) = false := by rw [beq_eq_false_iff_ne]; omega
    clear R R2
    go_enter Tryz.func15, Tryz.ntmps15
    go_wp2
    go_ret
    exact ⟨by rw [HV.out]; rfl, grown_trans (World.grownBy_alloc _ _ none) (World.grownBy_alloc _ _ none)⟩
end Go.Proofs.YtbpoealcaogjpaaGreatDoor
