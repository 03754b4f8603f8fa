/- The document's Bytes of links. -/
import Derived.Test.YtiafbnpbbjkdbaaPC15
import Derived.Lib.AppendStr
namespace Go.Proofs.Ytiafbnpbbjkdbaa
open Go.RowKit
set_option maxRecDepth 100000
set_option linter.unusedSimpArgs false
set_option linter.unusedVariables false
theorem bv_nums (s : ByteArray) : bv (nums s) = Lib.strCells s := by
  unfold bv nums Lib.strCells
  simp
/-- append of a text as a step of a drawn region -/
theorem step_appendS15 {P : Program} {w : World} {ops : Array Oper} {o : Oper} {a : Act} {K : Act → World → Prop} {Q : Exit → Act → World → Prop} {E : Prop} (hgd : o.guard = none) (s x : Operand) (t u : TypeId)
    (ho : o.op = .call { callee := .builtin .append, args := #[s, x], argTypes := #[t, u] })
    (base : Nat) (i : TypeInfo) (ht : P.underlying t = some (.slice 5)) (hu : P.underlying u = some .string) (hi : P.info? 5 = some i) (hz : i.zero = some (.int .u8 0)) (hsize : i.size = 1) (hby : i.bytes = 1)
    (v : Value) (n : Nat) (xs : List Int) (hs : a.eval s = v) (hown : w.ownsRow base 5 1 v n (bv xs)) (st : ByteArray) (hx : a.eval x = .string st)
    (hb : n + st.size ≤ 140737488355328) (hbase : base ≤ w.heap.size)
    (h : ∀ v' w', w'.ownsRow base 5 1 v' (n + st.size) (bv (xs ++ nums st)) → w.grownBy w' v.ownBlock → K (a.put o.dst v') w') : if Region.wanted o (yielded ops a.tmps) = true then Oper.wp P o a w K Q else E := by
  rw [if_pos (by simp [Region.wanted, hgd])]
  obtain ⟨v', w', hrun, r1, r2, _⟩ := Lib.run_append_own_string (P := P) w base t u o.type 5 i ht hu hi hz hsize hby v n (bv xs) hown st (by unfold maxLen; omega) (by omega) hbase
  unfold Oper.wp
  simp [execOp, ho, resolve, invoke, builtin, hs, hx, hrun, Result.andThen]
  exact h v' w' (by rw [bv_append, bv_nums]; exact r1) r2
set_option maxHeartbeats 8000000 in
theorem rbytes15_3 (n : Nd) (w : World) (hr : Rt15 n) (hk : n.kd = 3) : Calls Try.prog 13 #[n.val] w fun e w' => ∃ a c, e = .returned (.slice a (enb15 n).length c) ∧ Row w' a (enb15 n).length (enb15 n) ∧ (a = none → c = 0) ∧ w.grownBy w' none := by
  obtain ⟨i5, hi, hz0, hz1, hz2⟩ := info_parts Try.info5
  have wk : IntKind.u8.wrap n.kd = n.kd := by have := hr.kd; rw [IntKind.wrap_u8]; omega
  have wm : IntKind.u64.wrap n.md = n.md := u64_wrap_in _ (by have := hr.md; omega) (by have := hr.md; omega)
  have wu : IntKind.u64.wrap n.ui = n.ui := u64_wrap_in _ (by have := hr.ui; omega) (by have := hr.ui; omega)
  have wg : IntKind.u64.wrap n.gi = n.gi := u64_wrap_in _ (by have := hr.gi; omega) (by have := hr.gi; omega)
  have HR : Hid _ := hr
  have HKK : Hid _ := hk
  clear hr hk
  have hsk : sto n.kd 2 = [n.kd, 0] := by
    have := HR.out.kd
    have e : ∀ y : Int, sto y 2 = [y % 256, y / 256 % 256] := fun y => by simp [sto]
    have e1 : n.kd % 256 = n.kd := by omega
    have e2 : n.kd / 256 % 256 = 0 := by omega
    rw [e, e1, e2]
  have O0 := World.ownsRow_lit (base := w.heap.size) (e := 5) (size := 1) (w.alloc (.cells #[.int .i64 n.kd, .int .i64 n.md, .int .i64 n.ui, .int .i64 n.gi, .int .i64 n.tm, .int .i64 n.ln, .int .i64 n.at_, .int .i64 n.sz, .int .i64 n.st, .slice n.wa n.wl n.wc, .int .i64 n.fr, .int .i64 n.of_, .int .i64 n.tl, .int .i64 n.dr, .int .i64 n.by_, .int .i64 n.pr, .string n.tg, .int .i64 n.dv] 24)) #[.int .u8 n.kd, .int .u8 0] 2 (by simp) (by unfold maxLen; omega) rfl
  have H0 : Hid (Bs15 w ((w.alloc (.cells #[.int .i64 n.kd, .int .i64 n.md, .int .i64 n.ui, .int .i64 n.gi, .int .i64 n.tm, .int .i64 n.ln, .int .i64 n.at_, .int .i64 n.sz, .int .i64 n.st, .slice n.wa n.wl n.wc, .int .i64 n.fr, .int .i64 n.of_, .int .i64 n.tl, .int .i64 n.dr, .int .i64 n.by_, .int .i64 n.pr, .string n.tg, .int .i64 n.dv] 24)).alloc (.cells #[.int .u8 n.kd, .int .u8 0] 5)) w.heap.size n (.slice (some ⟨w.heap.size + 1, 0, none⟩) 2 2) 2 ([] ++ sto n.kd 2)) := ⟨(Bx.new w 24 _).kept (World.grownBy_alloc _ _ none), by rw [hsk]; simpa [bv] using O0, grown_trans (World.grownBy_alloc _ _ none) (World.grownBy_alloc _ _ none)⟩
  clear O0 hsk
  go_enter Try.func13, Try.ntmps13
  unfold Nd.val
  go_wp2_with fail
  refine (store_own n.md 2 _ (by decide) (by have := HR.out.md; omega) (by have := HR.out.md; omega)).mono ?_
  rintro e V1 ⟨u, rfl, ou, gu⟩
  obtain ⟨a0, c0, rfl, R0, n0, _, _⟩ := own_bytes ou (sto_byt _ _) (by unfold maxLen; omega)
  have H1 : Hid _ := H0.out.keep gu
  clear gu ou H0
  simp only
  go_wp2_with (at_builtin; refine wpList_append8 rfl _ _ 26 rfl w.heap.size i5 Try.underlying26 hi hz0 hz1 hz2 _ 2 _ rfl H1.out.own _ 2 c0 (sto n.md 2) rfl R0 n0 (by omega) H1.out.gr'.size ?_)
  intro x0 V2 o0 g0
  have H2 : Hid (Bs15 w V2 w.heap.size n x0 4 ((([] : List Int) ++ sto n.kd 2) ++ sto n.md 2)) := H1.out.app (by rw [bv_append]; exact o0) g0
  clear o0 g0 H1 R0 n0
  have d1 := H2.out.bx.c 2
  simp only [Nd.cells, List.getElem?_cons_zero, List.getElem?_cons_succ] at d1
  go_wp2_with fail
  refine (store_own n.ui 2 _ (by decide) (by have := HR.out.ui; omega) (by have := HR.out.ui; omega)).mono ?_
  rintro e V3 ⟨u, rfl, ou, gu⟩
  obtain ⟨a1, c1, rfl, R1, n1, _, _⟩ := own_bytes ou (sto_byt _ _) (by unfold maxLen; omega)
  have H3 : Hid _ := H2.out.keep gu
  clear gu ou H2 d1
  simp only
  go_wp2_with (at_builtin; refine wpList_append8 rfl _ _ 26 rfl w.heap.size i5 Try.underlying26 hi hz0 hz1 hz2 _ 4 _ rfl H3.out.own _ 2 c1 (sto n.ui 2) rfl R1 n1 (by omega) H3.out.gr'.size ?_)
  intro x1 V4 o1 g1
  have H4 : Hid (Bs15 w V4 w.heap.size n x1 6 (((([] : List Int) ++ sto n.kd 2) ++ sto n.md 2) ++ sto n.ui 2)) := H3.out.app (by rw [bv_append]; exact o1) g1
  clear o1 g1 H3 R1 n1
  have d2 := H4.out.bx.c 3
  simp only [Nd.cells, List.getElem?_cons_zero, List.getElem?_cons_succ] at d2
  go_wp2_with fail
  refine (store_own n.gi 2 _ (by decide) (by have := HR.out.gi; omega) (by have := HR.out.gi; omega)).mono ?_
  rintro e V5 ⟨u, rfl, ou, gu⟩
  obtain ⟨a2, c2, rfl, R2, n2, _, _⟩ := own_bytes ou (sto_byt _ _) (by unfold maxLen; omega)
  have H5 : Hid _ := H4.out.keep gu
  clear gu ou H4 d2
  simp only
  go_wp2_with (at_builtin; refine wpList_append8 rfl _ _ 26 rfl w.heap.size i5 Try.underlying26 hi hz0 hz1 hz2 _ 6 _ rfl H5.out.own _ 2 c2 (sto n.gi 2) rfl R2 n2 (by omega) H5.out.gr'.size ?_)
  intro x2 V6 o2 g2
  have H6 : Hid (Bs15 w V6 w.heap.size n x2 8 ((((([] : List Int) ++ sto n.kd 2) ++ sto n.md 2) ++ sto n.ui 2) ++ sto n.gi 2)) := H5.out.app (by rw [bv_append]; exact o2) g2
  clear o2 g2 H5 R2 n2
  have wb : Hid (∀ V x, (x = n.tm ∨ x = n.ln ∨ x = n.at_) → Calls Try.prog 29 #[.int .i64 x] V fun e w' => ∃ v, e = .returned v ∧ w'.ownsRow V.heap.size 5 1 v 4 (bv (sto x 4)) ∧ V.grownBy w' none) := fun V x hx => four15_any x V (by have := HR.out.tm; have := HR.out.ln; have := HR.out.at_; omega) (by have := HR.out.tm; have := HR.out.ln; have := HR.out.at_; omega)
  go_wp2_with fail
  have HD : Hid _ := H6.out.keep (show World.grownBy V6 V6.drew none from ⟨rfl, rfl, rfl, Nat.le_refl _, fun _ _ _ => rfl⟩)
  clear H6
  refine wp_region_held_drew (S := fun w' => w'.cell? ⟨w.heap.size, 4, none⟩ = some (.int .i64 n.tm) ∧ w'.cell? ⟨w.heap.size, 5, none⟩ = some (.int .i64 n.ln) ∧ w'.cell? ⟨w.heap.size, 6, none⟩ = some (.int .i64 n.at_)) (by kernel_rfl) ⟨HD.out.bx.c 4, HD.out.bx.c 5, HD.out.bx.c 6⟩ (fun hH => ?_)
  refine wpAnyH_take (i := 0) (oi := ⟨some 27, _, _, _, _, _⟩) (v := x2) rfl (by kernel_rfl) (by kernel_rfl) (by kernel_rfl) (fun _ _ _ h => h) (Or.inl ⟨by rfl, fun w hSw => by go_simp⟩) hH ?_
  simp only [Act.put, List.setIfInBounds_toArray, List.set_cons_zero, List.set_cons_succ]
  refine wpAnyH_take (i := 1) (oi := ⟨some 28, _, _, _, _, _⟩) (v := .pointer (some ⟨w.heap.size, 4, none⟩)) rfl (by kernel_rfl) (by kernel_rfl) (by kernel_rfl) (fun _ _ _ h => h) (Or.inl ⟨by rfl, fun w hSw => by go_simp⟩) hH ?_
  simp only [Act.put, List.setIfInBounds_toArray, List.set_cons_zero, List.set_cons_succ]
  refine wpAnyH_take (i := 2) (oi := ⟨some 29, _, _, _, _, _⟩) (v := .int .i64 n.tm) rfl (by kernel_rfl) (by kernel_rfl) (by kernel_rfl) (fun _ _ _ h => h) (Or.inl ⟨by rfl, fun w hSw => by obtain ⟨q0, q1, q2⟩ := hSw; go_simp⟩) hH ?_
  simp only [Act.put, List.setIfInBounds_toArray, List.set_cons_zero, List.set_cons_succ]
  refine wpAnyH_take (i := 5) (oi := ⟨some 32, _, _, _, _, _⟩) (v := .pointer (some ⟨w.heap.size, 5, none⟩)) rfl (by kernel_rfl) (by kernel_rfl) (by kernel_rfl) (fun _ _ _ h => h) (Or.inl ⟨by rfl, fun w hSw => by go_simp⟩) hH ?_
  simp only [Act.put, List.setIfInBounds_toArray, List.set_cons_zero, List.set_cons_succ]
  refine wpAnyH_take (i := 6) (oi := ⟨some 33, _, _, _, _, _⟩) (v := .int .i64 n.ln) rfl (by kernel_rfl) (by kernel_rfl) (by kernel_rfl) (fun _ _ _ h => h) (Or.inl ⟨by rfl, fun w hSw => by obtain ⟨q0, q1, q2⟩ := hSw; go_simp⟩) hH ?_
  simp only [Act.put, List.setIfInBounds_toArray, List.set_cons_zero, List.set_cons_succ]
  refine wpAnyH_take (i := 9) (oi := ⟨some 36, _, _, _, _, _⟩) (v := .pointer (some ⟨w.heap.size, 6, none⟩)) rfl (by kernel_rfl) (by kernel_rfl) (by kernel_rfl) (fun _ _ _ h => h) (Or.inl ⟨by rfl, fun w hSw => by go_simp⟩) hH ?_
  simp only [Act.put, List.setIfInBounds_toArray, List.set_cons_zero, List.set_cons_succ]
  refine wpAnyH_take (i := 10) (oi := ⟨some 37, _, _, _, _, _⟩) (v := .int .i64 n.at_) rfl (by kernel_rfl) (by kernel_rfl) (by kernel_rfl) (fun _ _ _ h => h) (Or.inl ⟨by rfl, fun w hSw => by obtain ⟨q0, q1, q2⟩ := hSw; go_simp⟩) hH ?_
  simp only [Act.put, List.setIfInBounds_toArray, List.set_cons_zero, List.set_cons_succ]
  refine wpAnyH_ready (rs := [3]) (by kernel_rfl) (by simp) ?_
  refine AllReadyH.cons rfl (fun K hK => ?_) AllReadyH.nil
  go_simp
  have hw := wb.out (V6.drew) n.tm (by simp)
  go_wp2_with (go_at_call 29; (with_reducible refine hw.mono ?_); rintro e Y0 ⟨u, rfl, ou, gu⟩; obtain ⟨b0, k0, rfl, P0⟩ := Pd15.new ou (sto_byt _ _) (by unfold maxLen; omega) HD.out.own; have HC0 : Hid _ := HD.out.keep gu; clear ou gu)
  clear hw
  refine hK.out _ _ ⟨HC0.out.bx.c 4, HC0.out.bx.c 5, HC0.out.bx.c 6⟩ (fun _ => ?_)
  clear hK K HD
  refine wpAnyH_ready (rs := [4]) (by kernel_rfl) (by simp) ?_
  refine AllReadyH.cons rfl (fun K hK => ?_) AllReadyH.nil
  refine step_append15 (by rfl) _ _ 26 (by rfl) w.heap.size i5 Try.underlying26 hi hz0 hz1 hz2 x2 8 _ (by rfl) HC0.out.own b0 4 k0 _ (by rfl) P0 (by decide) (by omega) HC0.out.gr'.size ?_
  intro y0 Z0 oo gg _
  have HA0 : Hid (Bs15 w Z0 w.heap.size n y0 12 (((((([] : List Int) ++ sto n.kd 2) ++ sto n.md 2) ++ sto n.ui 2) ++ sto n.gi 2) ++ sto n.tm 4)) := HC0.out.app oo gg
  clear oo gg P0
  refine hK.out _ _ ⟨HA0.out.bx.c 4, HA0.out.bx.c 5, HA0.out.bx.c 6⟩ (fun _ => ?_)
  clear hK K HC0
  simp only [Act.put, List.setIfInBounds_toArray, List.set_cons_zero, List.set_cons_succ]
  refine wpAnyH_ready (rs := [7]) (by kernel_rfl) (by simp) ?_
  refine AllReadyH.cons rfl (fun K hK => ?_) AllReadyH.nil
  go_simp
  have hw := wb.out (Z0) n.ln (by simp)
  go_wp2_with (go_at_call 29; (with_reducible refine hw.mono ?_); rintro e Y1 ⟨u, rfl, ou, gu⟩; obtain ⟨b1, k1, rfl, P1⟩ := Pd15.new ou (sto_byt _ _) (by unfold maxLen; omega) HA0.out.own; have HC1 : Hid _ := HA0.out.keep gu; clear ou gu)
  clear hw
  refine hK.out _ _ ⟨HC1.out.bx.c 4, HC1.out.bx.c 5, HC1.out.bx.c 6⟩ (fun _ => ?_)
  clear hK K HA0
  refine wpAnyH_ready (rs := [8]) (by kernel_rfl) (by simp) ?_
  refine AllReadyH.cons rfl (fun K hK => ?_) AllReadyH.nil
  refine step_append15 (by rfl) _ _ 26 (by rfl) w.heap.size i5 Try.underlying26 hi hz0 hz1 hz2 y0 12 _ (by rfl) HC1.out.own b1 4 k1 _ (by rfl) P1 (by decide) (by omega) HC1.out.gr'.size ?_
  intro y1 Z1 oo gg _
  have HA1 : Hid (Bs15 w Z1 w.heap.size n y1 16 ((((((([] : List Int) ++ sto n.kd 2) ++ sto n.md 2) ++ sto n.ui 2) ++ sto n.gi 2) ++ sto n.tm 4) ++ sto n.ln 4)) := HC1.out.app oo gg
  clear oo gg P1
  refine hK.out _ _ ⟨HA1.out.bx.c 4, HA1.out.bx.c 5, HA1.out.bx.c 6⟩ (fun _ => ?_)
  clear hK K HC1
  simp only [Act.put, List.setIfInBounds_toArray, List.set_cons_zero, List.set_cons_succ]
  refine wpAnyH_ready (rs := [11]) (by kernel_rfl) (by simp) ?_
  refine AllReadyH.cons rfl (fun K hK => ?_) AllReadyH.nil
  go_simp
  have hw := wb.out (Z1) n.at_ (by simp)
  go_wp2_with (go_at_call 29; (with_reducible refine hw.mono ?_); rintro e Y2 ⟨u, rfl, ou, gu⟩; obtain ⟨b2, k2, rfl, P2⟩ := Pd15.new ou (sto_byt _ _) (by unfold maxLen; omega) HA1.out.own; have HC2 : Hid _ := HA1.out.keep gu; clear ou gu)
  clear hw
  refine hK.out _ _ ⟨HC2.out.bx.c 4, HC2.out.bx.c 5, HC2.out.bx.c 6⟩ (fun _ => ?_)
  clear hK K HA1
  refine wpAnyH_ready (rs := [12]) (by kernel_rfl) (by simp) ?_
  refine AllReadyH.cons rfl (fun K hK => ?_) AllReadyH.nil
  refine step_append15 (by rfl) _ _ 26 (by rfl) w.heap.size i5 Try.underlying26 hi hz0 hz1 hz2 y1 16 _ (by rfl) HC2.out.own b2 4 k2 _ (by rfl) P2 (by decide) (by omega) HC2.out.gr'.size ?_
  intro y2 Z2 oo gg _
  have HA2 : Hid (Bs15 w Z2 w.heap.size n y2 20 (((((((([] : List Int) ++ sto n.kd 2) ++ sto n.md 2) ++ sto n.ui 2) ++ sto n.gi 2) ++ sto n.tm 4) ++ sto n.ln 4) ++ sto n.at_ 4)) := HC2.out.app oo gg
  clear oo gg P2
  refine hK.out _ _ ⟨HA2.out.bx.c 4, HA2.out.bx.c 5, HA2.out.bx.c 6⟩ (fun _ => ?_)
  clear hK K HC2
  simp only [Act.put, List.setIfInBounds_toArray, List.set_cons_zero, List.set_cons_succ]
  refine wpAnyH_ready (rs := [13]) (by kernel_rfl) (by simp) ?_
  refine AllReadyH.cons rfl (fun K hK => ?_) AllReadyH.nil
  go_simp
  refine hK.out _ _ ⟨HA2.out.bx.c 4, HA2.out.bx.c 5, HA2.out.bx.c 6⟩ (fun _ => ?_)
  clear hK K
  refine wpAnyH_done (by kernel_rfl) ?_ _
  have c0 := HA2.out.bx.c 0
  simp only [Nd.cells, List.getElem?_cons_zero] at c0
  rw [HKK.out] at c0
  have hts := (HR.out.k3 HKK.out).2.1
  have wts : IntKind.u64.wrap (n.tg.size : Int) = (n.tg.size : Int) := u64_wrap_in _ (by omega) (by omega)
  go_wp2_with fail
  have HDf : Hid _ := HA2.out.keep (show World.grownBy Z2 Z2.drew none from ⟨rfl, rfl, rfl, Nat.le_refl _, fun _ _ _ => rfl⟩)
  clear HA2
  refine wp_region_held_drew (S := fun w' => w'.cell? ⟨w.heap.size, 16, none⟩ = some (.string n.tg)) (by kernel_rfl) (HDf.out.bx.c 16) (fun hH => ?_)
  refine wpAnyH_take (i := 0) (oi := ⟨some 109, _, _, _, _, _⟩) (v := y2) rfl (by kernel_rfl) (by kernel_rfl) (by kernel_rfl) (fun _ _ _ h => h) (Or.inl ⟨by rfl, fun w hSw => by go_simp⟩) hH ?_
  simp only [Act.put, List.setIfInBounds_toArray, List.set_cons_zero, List.set_cons_succ]
  refine wpAnyH_take (i := 1) (oi := ⟨some 110, _, _, _, _, _⟩) (v := .pointer (some ⟨w.heap.size, 16, none⟩)) rfl (by kernel_rfl) (by kernel_rfl) (by kernel_rfl) (fun _ _ _ h => h) (Or.inl ⟨by rfl, fun w hSw => by go_simp⟩) hH ?_
  simp only [Act.put, List.setIfInBounds_toArray, List.set_cons_zero, List.set_cons_succ]
  refine wpAnyH_take (i := 2) (oi := ⟨some 111, _, _, _, _, _⟩) (v := .string n.tg) rfl (by kernel_rfl) (by kernel_rfl) (by kernel_rfl) (fun _ _ _ h => h) (Or.inl ⟨by rfl, fun w hSw => by go_simp⟩) hH ?_
  simp only [Act.put, List.setIfInBounds_toArray, List.set_cons_zero, List.set_cons_succ]
  refine wpAnyH_take (i := 3) (oi := ⟨some 112, _, _, _, _, _⟩) (v := .int .i64 (n.tg.size : Int)) rfl (by kernel_rfl) (by kernel_rfl) (by kernel_rfl) (fun _ _ _ h => h) (Or.inl ⟨by rfl, fun w hSw => by go_simp⟩) hH ?_
  simp only [Act.put, List.setIfInBounds_toArray, List.set_cons_zero, List.set_cons_succ]
  refine wpAnyH_take (i := 4) (oi := ⟨some 113, _, _, _, _, _⟩) (v := .int .u64 (n.tg.size : Int)) rfl (by kernel_rfl) (by kernel_rfl) (by kernel_rfl) (fun _ _ _ h => h) (Or.inl ⟨by rfl, fun w hSw => by go_simp⟩) hH ?_
  simp only [Act.put, List.setIfInBounds_toArray, List.set_cons_zero, List.set_cons_succ]
  refine wpAnyH_take (i := 7) (oi := ⟨some 116, _, _, _, _, _⟩) (v := .pointer (some ⟨w.heap.size, 16, none⟩)) rfl (by kernel_rfl) (by kernel_rfl) (by kernel_rfl) (fun _ _ _ h => h) (Or.inl ⟨by rfl, fun w hSw => by go_simp⟩) hH ?_
  simp only [Act.put, List.setIfInBounds_toArray, List.set_cons_zero, List.set_cons_succ]
  refine wpAnyH_take (i := 8) (oi := ⟨some 117, _, _, _, _, _⟩) (v := .string n.tg) rfl (by kernel_rfl) (by kernel_rfl) (by kernel_rfl) (fun _ _ _ h => h) (Or.inl ⟨by rfl, fun w hSw => by go_simp⟩) hH ?_
  simp only [Act.put, List.setIfInBounds_toArray, List.set_cons_zero, List.set_cons_succ]
  refine wpAnyH_ready (rs := [5]) (by kernel_rfl) (by simp) ?_
  refine AllReadyH.cons rfl (fun K hK => ?_) AllReadyH.nil
  go_simp
  have hw := store_own (n.tg.size : Int) 2 Z2.drew (by decide) (by omega) (by omega)
  go_wp2_with (go_at_call 28; (refine hw.mono ?_); rintro e Yt ⟨u, rfl, ou, gu⟩; obtain ⟨bt, kt, rfl, Pt⟩ := Pd15.new ou (sto_byt _ _) (by unfold maxLen; omega) HDf.out.own; have HCt : Hid _ := HDf.out.keep gu; clear ou gu)
  clear hw
  refine hK.out _ _ (HCt.out.bx.c 16) (fun _ => ?_)
  clear hK K HDf
  refine wpAnyH_ready (rs := [6]) (by kernel_rfl) (by simp) ?_
  refine AllReadyH.cons rfl (fun K hK => ?_) AllReadyH.nil
  refine step_append15 (by rfl) _ _ 26 (by rfl) w.heap.size i5 Try.underlying26 hi hz0 hz1 hz2 y2 20 _ (by rfl) HCt.out.own bt 2 kt _ (by rfl) Pt (by decide) (by omega) HCt.out.gr'.size ?_
  intro yt Zt oo gg _
  have HAt : Hid (Bs15 w Zt w.heap.size n yt 22 ((((((((([] : List Int) ++ sto n.kd 2) ++ sto n.md 2) ++ sto n.ui 2) ++ sto n.gi 2) ++ sto n.tm 4) ++ sto n.ln 4) ++ sto n.at_ 4) ++ sto n.tg.size 2)) := HCt.out.app oo gg
  clear oo gg Pt
  refine hK.out _ _ (HAt.out.bx.c 16) (fun _ => ?_)
  clear hK K HCt
  simp only [Act.put, List.setIfInBounds_toArray, List.set_cons_zero, List.set_cons_succ]
  refine wpAnyH_ready (rs := [9]) (by kernel_rfl) (by simp) ?_
  refine AllReadyH.cons rfl (fun K hK => ?_) AllReadyH.nil
  refine step_appendS15 (by rfl) _ _ 26 9 (by rfl) w.heap.size i5 Try.underlying26 Try.underlying9 hi hz0 hz1 hz2 yt 22 _ (by rfl) HAt.out.own n.tg (by rfl) (by omega) HAt.out.gr'.size ?_
  intro ys Zs oo gg
  have HAs : Hid (Bs15 w Zs w.heap.size n ys (22 + n.tg.size) (((((((((([] : List Int) ++ sto n.kd 2) ++ sto n.md 2) ++ sto n.ui 2) ++ sto n.gi 2) ++ sto n.tm 4) ++ sto n.ln 4) ++ sto n.at_ 4) ++ sto n.tg.size 2) ++ nums n.tg)) := HAt.out.app oo gg
  clear oo gg
  refine hK.out _ _ (HAs.out.bx.c 16) (fun _ => ?_)
  clear hK K HAt
  simp only [Act.put, List.setIfInBounds_toArray, List.set_cons_zero, List.set_cons_succ]
  refine wpAnyH_ready (rs := [10]) (by kernel_rfl) (by simp) ?_
  refine AllReadyH.cons rfl (fun K hK => ?_) AllReadyH.nil
  go_simp
  refine hK.out _ _ (HAs.out.bx.c 16) (fun _ => ?_)
  clear hK K
  refine wpAnyH_done (by kernel_rfl) ?_ _
  have hE : enb15 n = (((((((((([] : List Int) ++ sto n.kd 2) ++ sto n.md 2) ++ sto n.ui 2) ++ sto n.gi 2) ++ sto n.tm 4) ++ sto n.ln 4) ++ sto n.at_ 4) ++ sto n.tg.size 2) ++ nums n.tg) := by unfold enb15; rw [if_neg (by have := HKK.out; omega), if_neg (by have := HKK.out; omega), if_pos HKK.out]; unfold kb3 hdb15; simp only [List.append_assoc]
  have hLn : ((((((((((([] : List Int) ++ sto n.kd 2) ++ sto n.md 2) ++ sto n.ui 2) ++ sto n.gi 2) ++ sto n.tm 4) ++ sto n.ln 4) ++ sto n.at_ 4) ++ sto n.tg.size 2) ++ nums n.tg)).length = 22 + n.tg.size := by simp only [List.length_append, sto_length, List.length_nil, nums_len]
  have HEE : Hid _ := And.intro hE hLn
  clear hE hLn
  go_wp2
  go_ret
  obtain ⟨af, cff, ef, Rf, nf, _, _⟩ := own_bytes HAs.out.own (by rw [← HEE.out.1]; exact enb15_byt n) (by unfold maxLen; omega)
  rw [HEE.out.1, HEE.out.2]
  exact ⟨af, cff, by rw [← ef]; rfl, Rf, nf, HAs.out.gr'⟩
theorem rbytes15_any (n : Nd) (w : World) (hn : n.ok w) (hr : Rt15 n) : Calls Try.prog 13 #[n.val] w fun e w' => ∃ a c, e = .returned (.slice a (enb15 n).length c) ∧ Row w' a (enb15 n).length (enb15 n) ∧ (a = none → c = 0) ∧ w.grownBy w' none := by
  have h' := hr.kd
  rcases (by omega : n.kd = 1 ∨ n.kd = 2 ∨ n.kd = 3 ∨ 3 < n.kd) with e | e | e | e
  · exact rbytes15_1 n w hn hr e
  · exact rbytes15_2 n w hr e
  · exact rbytes15_3 n w hr e
  · exact rbytes15_4 n w hr e
end Go.Proofs.Ytiafbnpbbjkdbaa
