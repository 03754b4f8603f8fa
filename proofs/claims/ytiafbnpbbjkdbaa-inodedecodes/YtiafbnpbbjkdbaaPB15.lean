/- The document's Bytes. -/
import Derived.Test.YtiafbnpbbjkdbaaPA15
namespace Go.Proofs.Ytiafbnpbbjkdbaa
open Go.RowKit
set_option maxRecDepth 100000
set_option linter.unusedSimpArgs false
set_option linter.unusedVariables false
/-- while the bytes are laid: the inode's variable, the bytes so far -/
structure Bs15 (w V : World) (gr : Nat) (n : Nd) (v : Value) (len : Nat) (xs : List Int) : Prop where
  bx : Bx V gr 24 n.cells
  own : V.ownsRow w.heap.size 5 1 v len (bv xs)
  gr' : w.grownBy V none
theorem Bs15.keep {w V V' : World} {gr : Nat} {n : Nd} {v : Value} {len : Nat} {xs : List Int} (h : Bs15 w V gr n v len xs) (k : V.grownBy V' none) : Bs15 w V' gr n v len xs := ⟨h.bx.kept k, h.own.kept k (by cases v.ownBlock <;> simp), grown_trans h.gr' k⟩
theorem Bs15.app {w V V' : World} {gr : Nat} {n : Nd} {v v' : Value} {len len' : Nat} {xs ys : List Int} (h : Bs15 w V gr n v len xs) (o : V'.ownsRow w.heap.size 5 1 v' len' (bv ys)) (k : V.grownBy V' v.ownBlock) : Bs15 w V' gr n v' len' ys := by
  refine ⟨⟨?_⟩, o, ?_⟩
  · rw [k.block gr h.bx.lt (own_bx h.own h.bx (by decide))]; exact h.bx.blk
  · exact ⟨k.os.trans h.gr'.os, k.tape.trans h.gr'.tape, k.output.trans h.gr'.output, Nat.le_trans h.gr'.size k.size, fun j hj _ => by
      rw [k.block j (Nat.lt_of_lt_of_le hj h.gr'.size) (fun q => by have := (h.own.lt j q.symm).1; omega)]
      exact h.gr'.block j hj (by simp)⟩
set_option maxHeartbeats 8000000 in
theorem rbytes15_4 (n : Nd) (w : World) (hr : Rt15 n) (hk : 3 < n.kd) : Calls Try.prog 13 #[n.val] w fun e w' => ∃ a c, e = .returned (.slice a (enb15 n).length c) ∧ Row w' a (enb15 n).length (enb15 n) ∧ (a = none → c = 0) ∧ w.grownBy w' none := by
  obtain ⟨i5, hi, hz0, hz1, hz2⟩ := info_parts Try.info5
  have wk : IntKind.u8.wrap n.kd = n.kd := by have := hr.kd; rw [IntKind.wrap_u8]; omega
  have wm : IntKind.u64.wrap n.md = n.md := u64_wrap_in _ (by have := hr.md; omega) (by have := hr.md; omega)
  have wu : IntKind.u64.wrap n.ui = n.ui := u64_wrap_in _ (by have := hr.ui; omega) (by have := hr.ui; omega)
  have wg : IntKind.u64.wrap n.gi = n.gi := u64_wrap_in _ (by have := hr.gi; omega) (by have := hr.gi; omega)
  have HR : Hid _ := hr
  have HKK : Hid _ := hk
  clear hr hk
  have hsk : sto n.kd 2 = [n.kd, 0] := by
    have := HR.out.kd
    have e : ∀ y : Int, sto y 2 = [y % 256, y / 256 % 256] := fun y => by simp [sto]
    have e1 : n.kd % 256 = n.kd := by omega
    have e2 : n.kd / 256 % 256 = 0 := by omega
    rw [e, e1, e2]
  have O0 := World.ownsRow_lit (base := w.heap.size) (e := 5) (size := 1) (w.alloc (.cells #[.int .i64 n.kd, .int .i64 n.md, .int .i64 n.ui, .int .i64 n.gi, .int .i64 n.tm, .int .i64 n.ln, .int .i64 n.at_, .int .i64 n.sz, .int .i64 n.st, .slice n.wa n.wl n.wc, .int .i64 n.fr, .int .i64 n.of_, .int .i64 n.tl, .int .i64 n.dr, .int .i64 n.by_, .int .i64 n.pr, .string n.tg, .int .i64 n.dv] 24)) #[.int .u8 n.kd, .int .u8 0] 2 (by simp) (by unfold maxLen; omega) rfl
  have H0 : Hid (Bs15 w ((w.alloc (.cells #[.int .i64 n.kd, .int .i64 n.md, .int .i64 n.ui, .int .i64 n.gi, .int .i64 n.tm, .int .i64 n.ln, .int .i64 n.at_, .int .i64 n.sz, .int .i64 n.st, .slice n.wa n.wl n.wc, .int .i64 n.fr, .int .i64 n.of_, .int .i64 n.tl, .int .i64 n.dr, .int .i64 n.by_, .int .i64 n.pr, .string n.tg, .int .i64 n.dv] 24)).alloc (.cells #[.int .u8 n.kd, .int .u8 0] 5)) w.heap.size n (.slice (some ⟨w.heap.size + 1, 0, none⟩) 2 2) 2 ([] ++ sto n.kd 2)) := ⟨(Bx.new w 24 _).kept (World.grownBy_alloc _ _ none), by rw [hsk]; simpa [bv] using O0, grown_trans (World.grownBy_alloc _ _ none) (World.grownBy_alloc _ _ none)⟩
  clear O0 hsk
  go_enter Try.func13, Try.ntmps13
  unfold Nd.val
  go_wp2_with fail
  refine (store_own n.md 2 _ (by decide) (by have := HR.out.md; omega) (by have := HR.out.md; omega)).mono ?_
  rintro e V1 ⟨u, rfl, ou, gu⟩
  obtain ⟨a0, c0, rfl, R0, n0, _, _⟩ := own_bytes ou (sto_byt _ _) (by unfold maxLen; omega)
  have H1 : Hid _ := H0.out.keep gu
  clear gu ou H0
  simp only
  go_wp2_with (at_builtin; refine wpList_append8 rfl _ _ 26 rfl w.heap.size i5 Try.underlying26 hi hz0 hz1 hz2 _ 2 _ rfl H1.out.own _ 2 c0 (sto n.md 2) rfl R0 n0 (by omega) H1.out.gr'.size ?_)
  intro x0 V2 o0 g0
  have H2 : Hid (Bs15 w V2 w.heap.size n x0 4 ((([] : List Int) ++ sto n.kd 2) ++ sto n.md 2)) := H1.out.app (by rw [bv_append]; exact o0) g0
  clear o0 g0 H1 R0 n0
  have d1 := H2.out.bx.c 2
  simp only [Nd.cells, List.getElem?_cons_zero, List.getElem?_cons_succ] at d1
  go_wp2_with fail
  refine (store_own n.ui 2 _ (by decide) (by have := HR.out.ui; omega) (by have := HR.out.ui; omega)).mono ?_
  rintro e V3 ⟨u, rfl, ou, gu⟩
  obtain ⟨a1, c1, rfl, R1, n1, _, _⟩ := own_bytes ou (sto_byt _ _) (by unfold maxLen; omega)
  have H3 : Hid _ := H2.out.keep gu
  clear gu ou H2 d1
  simp only
  go_wp2_with (at_builtin; refine wpList_append8 rfl _ _ 26 rfl w.heap.size i5 Try.underlying26 hi hz0 hz1 hz2 _ 4 _ rfl H3.out.own _ 2 c1 (sto n.ui 2) rfl R1 n1 (by omega) H3.out.gr'.size ?_)
  intro x1 V4 o1 g1
  have H4 : Hid (Bs15 w V4 w.heap.size n x1 6 (((([] : List Int) ++ sto n.kd 2) ++ sto n.md 2) ++ sto n.ui 2)) := H3.out.app (by rw [bv_append]; exact o1) g1
  clear o1 g1 H3 R1 n1
  have d2 := H4.out.bx.c 3
  simp only [Nd.cells, List.getElem?_cons_zero, List.getElem?_cons_succ] at d2
  go_wp2_with fail
  refine (store_own n.gi 2 _ (by decide) (by have := HR.out.gi; omega) (by have := HR.out.gi; omega)).mono ?_
  rintro e V5 ⟨u, rfl, ou, gu⟩
  obtain ⟨a2, c2, rfl, R2, n2, _, _⟩ := own_bytes ou (sto_byt _ _) (by unfold maxLen; omega)
  have H5 : Hid _ := H4.out.keep gu
  clear gu ou H4 d2
  simp only
  go_wp2_with (at_builtin; refine wpList_append8 rfl _ _ 26 rfl w.heap.size i5 Try.underlying26 hi hz0 hz1 hz2 _ 6 _ rfl H5.out.own _ 2 c2 (sto n.gi 2) rfl R2 n2 (by omega) H5.out.gr'.size ?_)
  intro x2 V6 o2 g2
  have H6 : Hid (Bs15 w V6 w.heap.size n x2 8 ((((([] : List Int) ++ sto n.kd 2) ++ sto n.md 2) ++ sto n.ui 2) ++ sto n.gi 2)) := H5.out.app (by rw [bv_append]; exact o2) g2
  clear o2 g2 H5 R2 n2
  have wb : Hid (∀ V x, (x = n.tm ∨ x = n.ln ∨ x = n.at_) → Calls Try.prog 29 #[.int .i64 x] V fun e w' => ∃ v, e = .returned v ∧ w'.ownsRow V.heap.size 5 1 v 4 (bv (sto x 4)) ∧ V.grownBy w' none) := fun V x hx => four15_any x V (by have := HR.out.tm; have := HR.out.ln; have := HR.out.at_; omega) (by have := HR.out.tm; have := HR.out.ln; have := HR.out.at_; omega)
  go_wp2_with fail
  have HD : Hid _ := H6.out.keep (show World.grownBy V6 V6.drew none from ⟨rfl, rfl, rfl, Nat.le_refl _, fun _ _ _ => rfl⟩)
  clear H6
  refine wp_region_held_drew (S := fun w' => w'.cell? ⟨w.heap.size, 4, none⟩ = some (.int .i64 n.tm) ∧ w'.cell? ⟨w.heap.size, 5, none⟩ = some (.int .i64 n.ln) ∧ w'.cell? ⟨w.heap.size, 6, none⟩ = some (.int .i64 n.at_)) (by kernel_rfl) ⟨HD.out.bx.c 4, HD.out.bx.c 5, HD.out.bx.c 6⟩ (fun hH => ?_)
  refine wpAnyH_take (i := 0) (oi := ⟨some 27, _, _, _, _, _⟩) (v := x2) rfl (by kernel_rfl) (by kernel_rfl) (by kernel_rfl) (fun _ _ _ h => h) (Or.inl ⟨by rfl, fun w hSw => by go_simp⟩) hH ?_
  simp only [Act.put, List.setIfInBounds_toArray, List.set_cons_zero, List.set_cons_succ]
  refine wpAnyH_take (i := 1) (oi := ⟨some 28, _, _, _, _, _⟩) (v := .pointer (some ⟨w.heap.size, 4, none⟩)) rfl (by kernel_rfl) (by kernel_rfl) (by kernel_rfl) (fun _ _ _ h => h) (Or.inl ⟨by rfl, fun w hSw => by go_simp⟩) hH ?_
  simp only [Act.put, List.setIfInBounds_toArray, List.set_cons_zero, List.set_cons_succ]
  refine wpAnyH_take (i := 2) (oi := ⟨some 29, _, _, _, _, _⟩) (v := .int .i64 n.tm) rfl (by kernel_rfl) (by kernel_rfl) (by kernel_rfl) (fun _ _ _ h => h) (Or.inl ⟨by rfl, fun w hSw => by obtain ⟨q0, q1, q2⟩ := hSw; go_simp⟩) hH ?_
  simp only [Act.put, List.setIfInBounds_toArray, List.set_cons_zero, List.set_cons_succ]
  refine wpAnyH_take (i := 5) (oi := ⟨some 32, _, _, _, _, _⟩) (v := .pointer (some ⟨w.heap.size, 5, none⟩)) rfl (by kernel_rfl) (by kernel_rfl) (by kernel_rfl) (fun _ _ _ h => h) (Or.inl ⟨by rfl, fun w hSw => by go_simp⟩) hH ?_
  simp only [Act.put, List.setIfInBounds_toArray, List.set_cons_zero, List.set_cons_succ]
  refine wpAnyH_take (i := 6) (oi := ⟨some 33, _, _, _, _, _⟩) (v := .int .i64 n.ln) rfl (by kernel_rfl) (by kernel_rfl) (by kernel_rfl) (fun _ _ _ h => h) (Or.inl ⟨by rfl, fun w hSw => by obtain ⟨q0, q1, q2⟩ := hSw; go_simp⟩) hH ?_
  simp only [Act.put, List.setIfInBounds_toArray, List.set_cons_zero, List.set_cons_succ]
  refine wpAnyH_take (i := 9) (oi := ⟨some 36, _, _, _, _, _⟩) (v := .pointer (some ⟨w.heap.size, 6, none⟩)) rfl (by kernel_rfl) (by kernel_rfl) (by kernel_rfl) (fun _ _ _ h => h) (Or.inl ⟨by rfl, fun w hSw => by go_simp⟩) hH ?_
  simp only [Act.put, List.setIfInBounds_toArray, List.set_cons_zero, List.set_cons_succ]
  refine wpAnyH_take (i := 10) (oi := ⟨some 37, _, _, _, _, _⟩) (v := .int .i64 n.at_) rfl (by kernel_rfl) (by kernel_rfl) (by kernel_rfl) (fun _ _ _ h => h) (Or.inl ⟨by rfl, fun w hSw => by obtain ⟨q0, q1, q2⟩ := hSw; go_simp⟩) hH ?_
  simp only [Act.put, List.setIfInBounds_toArray, List.set_cons_zero, List.set_cons_succ]
  refine wpAnyH_ready (rs := [3]) (by kernel_rfl) (by simp) ?_
  refine AllReadyH.cons rfl (fun K hK => ?_) AllReadyH.nil
  go_simp
  have hw := wb.out (V6.drew) n.tm (by simp)
  go_wp2_with (go_at_call 29; (with_reducible refine hw.mono ?_); rintro e Y0 ⟨u, rfl, ou, gu⟩; obtain ⟨b0, k0, rfl, P0⟩ := Pd15.new ou (sto_byt _ _) (by unfold maxLen; omega) HD.out.own; have HC0 : Hid _ := HD.out.keep gu; clear ou gu)
  clear hw
  refine hK.out _ _ ⟨HC0.out.bx.c 4, HC0.out.bx.c 5, HC0.out.bx.c 6⟩ (fun _ => ?_)
  clear hK K HD
  refine wpAnyH_ready (rs := [4]) (by kernel_rfl) (by simp) ?_
  refine AllReadyH.cons rfl (fun K hK => ?_) AllReadyH.nil
  refine step_append15 (by rfl) _ _ 26 (by rfl) w.heap.size i5 Try.underlying26 hi hz0 hz1 hz2 x2 8 _ (by rfl) HC0.out.own b0 4 k0 _ (by rfl) P0 (by decide) (by omega) HC0.out.gr'.size ?_
  intro y0 Z0 oo gg _
  have HA0 : Hid (Bs15 w Z0 w.heap.size n y0 12 (((((([] : List Int) ++ sto n.kd 2) ++ sto n.md 2) ++ sto n.ui 2) ++ sto n.gi 2) ++ sto n.tm 4)) := HC0.out.app oo gg
  clear oo gg P0
  refine hK.out _ _ ⟨HA0.out.bx.c 4, HA0.out.bx.c 5, HA0.out.bx.c 6⟩ (fun _ => ?_)
  clear hK K HC0
  simp only [Act.put, List.setIfInBounds_toArray, List.set_cons_zero, List.set_cons_succ]
  refine wpAnyH_ready (rs := [7]) (by kernel_rfl) (by simp) ?_
  refine AllReadyH.cons rfl (fun K hK => ?_) AllReadyH.nil
  go_simp
  have hw := wb.out (Z0) n.ln (by simp)
  go_wp2_with (go_at_call 29; (with_reducible refine hw.mono ?_); rintro e Y1 ⟨u, rfl, ou, gu⟩; obtain ⟨b1, k1, rfl, P1⟩ := Pd15.new ou (sto_byt _ _) (by unfold maxLen; omega) HA0.out.own; have HC1 : Hid _ := HA0.out.keep gu; clear ou gu)
  clear hw
  refine hK.out _ _ ⟨HC1.out.bx.c 4, HC1.out.bx.c 5, HC1.out.bx.c 6⟩ (fun _ => ?_)
  clear hK K HA0
  refine wpAnyH_ready (rs := [8]) (by kernel_rfl) (by simp) ?_
  refine AllReadyH.cons rfl (fun K hK => ?_) AllReadyH.nil
  refine step_append15 (by rfl) _ _ 26 (by rfl) w.heap.size i5 Try.underlying26 hi hz0 hz1 hz2 y0 12 _ (by rfl) HC1.out.own b1 4 k1 _ (by rfl) P1 (by decide) (by omega) HC1.out.gr'.size ?_
  intro y1 Z1 oo gg _
  have HA1 : Hid (Bs15 w Z1 w.heap.size n y1 16 ((((((([] : List Int) ++ sto n.kd 2) ++ sto n.md 2) ++ sto n.ui 2) ++ sto n.gi 2) ++ sto n.tm 4) ++ sto n.ln 4)) := HC1.out.app oo gg
  clear oo gg P1
  refine hK.out _ _ ⟨HA1.out.bx.c 4, HA1.out.bx.c 5, HA1.out.bx.c 6⟩ (fun _ => ?_)
  clear hK K HC1
  simp only [Act.put, List.setIfInBounds_toArray, List.set_cons_zero, List.set_cons_succ]
  refine wpAnyH_ready (rs := [11]) (by kernel_rfl) (by simp) ?_
  refine AllReadyH.cons rfl (fun K hK => ?_) AllReadyH.nil
  go_simp
  have hw := wb.out (Z1) n.at_ (by simp)
  go_wp2_with (go_at_call 29; (with_reducible refine hw.mono ?_); rintro e Y2 ⟨u, rfl, ou, gu⟩; obtain ⟨b2, k2, rfl, P2⟩ := Pd15.new ou (sto_byt _ _) (by unfold maxLen; omega) HA1.out.own; have HC2 : Hid _ := HA1.out.keep gu; clear ou gu)
  clear hw
  refine hK.out _ _ ⟨HC2.out.bx.c 4, HC2.out.bx.c 5, HC2.out.bx.c 6⟩ (fun _ => ?_)
  clear hK K HA1
  refine wpAnyH_ready (rs := [12]) (by kernel_rfl) (by simp) ?_
  refine AllReadyH.cons rfl (fun K hK => ?_) AllReadyH.nil
  refine step_append15 (by rfl) _ _ 26 (by rfl) w.heap.size i5 Try.underlying26 hi hz0 hz1 hz2 y1 16 _ (by rfl) HC2.out.own b2 4 k2 _ (by rfl) P2 (by decide) (by omega) HC2.out.gr'.size ?_
  intro y2 Z2 oo gg _
  have HA2 : Hid (Bs15 w Z2 w.heap.size n y2 20 (((((((([] : List Int) ++ sto n.kd 2) ++ sto n.md 2) ++ sto n.ui 2) ++ sto n.gi 2) ++ sto n.tm 4) ++ sto n.ln 4) ++ sto n.at_ 4)) := HC2.out.app oo gg
  clear oo gg P2
  refine hK.out _ _ ⟨HA2.out.bx.c 4, HA2.out.bx.c 5, HA2.out.bx.c 6⟩ (fun _ => ?_)
  clear hK K HC2
  simp only [Act.put, List.setIfInBounds_toArray, List.set_cons_zero, List.set_cons_succ]
  refine wpAnyH_ready (rs := [13]) (by kernel_rfl) (by simp) ?_
  refine AllReadyH.cons rfl (fun K hK => ?_) AllReadyH.nil
  go_simp
  refine hK.out _ _ ⟨HA2.out.bx.c 4, HA2.out.bx.c 5, HA2.out.bx.c 6⟩ (fun _ => ?_)
  clear hK K
  refine wpAnyH_done (by kernel_rfl) ?_ _
  have c0 := HA2.out.bx.c 0
  have c17 := HA2.out.bx.c 17
  simp only [Nd.cells, List.getElem?_cons_zero, List.getElem?_cons_succ] at c0 c17
  have z1 : ¬ n.kd = 1 := by have := HKK.out; omega
  have z2 : ¬ n.kd = 2 := by have := HKK.out; omega
  have z3 : ¬ n.kd = 3 := by have := HKK.out; omega
  go_wp2_with fail
  refine (four15_any n.dv _ (by have := HR.out.k4 HKK.out; omega) (by have := HR.out.k4 HKK.out; omega)).mono ?_
  rintro e Vq ⟨u, rfl, ou, gu⟩
  obtain ⟨aq, cq, rfl, Rq, nq, _, _⟩ := own_bytes ou (sto_byt _ _) (by unfold maxLen; omega)
  have Hq : Hid _ := HA2.out.keep gu
  clear gu ou HA2
  simp only
  go_wp2_with (at_builtin; refine wpList_append8 rfl _ _ 26 rfl w.heap.size i5 Try.underlying26 hi hz0 hz1 hz2 _ 20 _ rfl Hq.out.own _ 4 cq (sto n.dv 4) rfl Rq nq (by omega) Hq.out.gr'.size ?_)
  intro xq Wq oq gq
  have HHq : Hid (Bs15 w Wq w.heap.size n xq 24 ((((((((([] : List Int) ++ sto n.kd 2) ++ sto n.md 2) ++ sto n.ui 2) ++ sto n.gi 2) ++ sto n.tm 4) ++ sto n.ln 4) ++ sto n.at_ 4) ++ sto n.dv 4)) := Hq.out.app (by rw [bv_append]; exact oq) gq
  clear oq gq Hq Rq nq
  go_wp2
  go_ret
  have hE : enb15 n = ((((((((([] : List Int) ++ sto n.kd 2) ++ sto n.md 2) ++ sto n.ui 2) ++ sto n.gi 2) ++ sto n.tm 4) ++ sto n.ln 4) ++ sto n.at_ 4) ++ sto n.dv 4) := by unfold enb15; rw [if_neg z1, if_neg z2, if_neg z3]; rfl
  have hLn : (((((((((([] : List Int) ++ sto n.kd 2) ++ sto n.md 2) ++ sto n.ui 2) ++ sto n.gi 2) ++ sto n.tm 4) ++ sto n.ln 4) ++ sto n.at_ 4) ++ sto n.dv 4)).length = 24 := by simp only [List.length_append, sto_length, List.length_nil]
  obtain ⟨af, cf, ef, Rf, nf, _, _⟩ := own_bytes HHq.out.own (by rw [← hE]; exact enb15_byt n) (by unfold maxLen; omega)
  rw [hE, hLn]
  exact ⟨af, cf, by rw [← ef]; rfl, Rf, nf, HHq.out.gr'⟩
set_option maxHeartbeats 8000000 in
theorem rbytes15_2 (n : Nd) (w : World) (hr : Rt15 n) (hk : n.kd = 2) : Calls Try.prog 13 #[n.val] w fun e w' => ∃ a c, e = .returned (.slice a (enb15 n).length c) ∧ Row w' a (enb15 n).length (enb15 n) ∧ (a = none → c = 0) ∧ w.grownBy w' none := by
  obtain ⟨i5, hi, hz0, hz1, hz2⟩ := info_parts Try.info5
  have wk : IntKind.u8.wrap n.kd = n.kd := by have := hr.kd; rw [IntKind.wrap_u8]; omega
  have wm : IntKind.u64.wrap n.md = n.md := u64_wrap_in _ (by have := hr.md; omega) (by have := hr.md; omega)
  have wu : IntKind.u64.wrap n.ui = n.ui := u64_wrap_in _ (by have := hr.ui; omega) (by have := hr.ui; omega)
  have wg : IntKind.u64.wrap n.gi = n.gi := u64_wrap_in _ (by have := hr.gi; omega) (by have := hr.gi; omega)
  have HR : Hid _ := hr
  have HKK : Hid _ := hk
  clear hr hk
  have hsk : sto n.kd 2 = [n.kd, 0] := by
    have := HR.out.kd
    have e : ∀ y : Int, sto y 2 = [y % 256, y / 256 % 256] := fun y => by simp [sto]
    have e1 : n.kd % 256 = n.kd := by omega
    have e2 : n.kd / 256 % 256 = 0 := by omega
    rw [e, e1, e2]
  have O0 := World.ownsRow_lit (base := w.heap.size) (e := 5) (size := 1) (w.alloc (.cells #[.int .i64 n.kd, .int .i64 n.md, .int .i64 n.ui, .int .i64 n.gi, .int .i64 n.tm, .int .i64 n.ln, .int .i64 n.at_, .int .i64 n.sz, .int .i64 n.st, .slice n.wa n.wl n.wc, .int .i64 n.fr, .int .i64 n.of_, .int .i64 n.tl, .int .i64 n.dr, .int .i64 n.by_, .int .i64 n.pr, .string n.tg, .int .i64 n.dv] 24)) #[.int .u8 n.kd, .int .u8 0] 2 (by simp) (by unfold maxLen; omega) rfl
  have H0 : Hid (Bs15 w ((w.alloc (.cells #[.int .i64 n.kd, .int .i64 n.md, .int .i64 n.ui, .int .i64 n.gi, .int .i64 n.tm, .int .i64 n.ln, .int .i64 n.at_, .int .i64 n.sz, .int .i64 n.st, .slice n.wa n.wl n.wc, .int .i64 n.fr, .int .i64 n.of_, .int .i64 n.tl, .int .i64 n.dr, .int .i64 n.by_, .int .i64 n.pr, .string n.tg, .int .i64 n.dv] 24)).alloc (.cells #[.int .u8 n.kd, .int .u8 0] 5)) w.heap.size n (.slice (some ⟨w.heap.size + 1, 0, none⟩) 2 2) 2 ([] ++ sto n.kd 2)) := ⟨(Bx.new w 24 _).kept (World.grownBy_alloc _ _ none), by rw [hsk]; simpa [bv] using O0, grown_trans (World.grownBy_alloc _ _ none) (World.grownBy_alloc _ _ none)⟩
  clear O0 hsk
  go_enter Try.func13, Try.ntmps13
  unfold Nd.val
  go_wp2_with fail
  refine (store_own n.md 2 _ (by decide) (by have := HR.out.md; omega) (by have := HR.out.md; omega)).mono ?_
  rintro e V1 ⟨u, rfl, ou, gu⟩
  obtain ⟨a0, c0, rfl, R0, n0, _, _⟩ := own_bytes ou (sto_byt _ _) (by unfold maxLen; omega)
  have H1 : Hid _ := H0.out.keep gu
  clear gu ou H0
  simp only
  go_wp2_with (at_builtin; refine wpList_append8 rfl _ _ 26 rfl w.heap.size i5 Try.underlying26 hi hz0 hz1 hz2 _ 2 _ rfl H1.out.own _ 2 c0 (sto n.md 2) rfl R0 n0 (by omega) H1.out.gr'.size ?_)
  intro x0 V2 o0 g0
  have H2 : Hid (Bs15 w V2 w.heap.size n x0 4 ((([] : List Int) ++ sto n.kd 2) ++ sto n.md 2)) := H1.out.app (by rw [bv_append]; exact o0) g0
  clear o0 g0 H1 R0 n0
  have d1 := H2.out.bx.c 2
  simp only [Nd.cells, List.getElem?_cons_zero, List.getElem?_cons_succ] at d1
  go_wp2_with fail
  refine (store_own n.ui 2 _ (by decide) (by have := HR.out.ui; omega) (by have := HR.out.ui; omega)).mono ?_
  rintro e V3 ⟨u, rfl, ou, gu⟩
  obtain ⟨a1, c1, rfl, R1, n1, _, _⟩ := own_bytes ou (sto_byt _ _) (by unfold maxLen; omega)
  have H3 : Hid _ := H2.out.keep gu
  clear gu ou H2 d1
  simp only
  go_wp2_with (at_builtin; refine wpList_append8 rfl _ _ 26 rfl w.heap.size i5 Try.underlying26 hi hz0 hz1 hz2 _ 4 _ rfl H3.out.own _ 2 c1 (sto n.ui 2) rfl R1 n1 (by omega) H3.out.gr'.size ?_)
  intro x1 V4 o1 g1
  have H4 : Hid (Bs15 w V4 w.heap.size n x1 6 (((([] : List Int) ++ sto n.kd 2) ++ sto n.md 2) ++ sto n.ui 2)) := H3.out.app (by rw [bv_append]; exact o1) g1
  clear o1 g1 H3 R1 n1
  have d2 := H4.out.bx.c 3
  simp only [Nd.cells, List.getElem?_cons_zero, List.getElem?_cons_succ] at d2
  go_wp2_with fail
  refine (store_own n.gi 2 _ (by decide) (by have := HR.out.gi; omega) (by have := HR.out.gi; omega)).mono ?_
  rintro e V5 ⟨u, rfl, ou, gu⟩
  obtain ⟨a2, c2, rfl, R2, n2, _, _⟩ := own_bytes ou (sto_byt _ _) (by unfold maxLen; omega)
  have H5 : Hid _ := H4.out.keep gu
  clear gu ou H4 d2
  simp only
  go_wp2_with (at_builtin; refine wpList_append8 rfl _ _ 26 rfl w.heap.size i5 Try.underlying26 hi hz0 hz1 hz2 _ 6 _ rfl H5.out.own _ 2 c2 (sto n.gi 2) rfl R2 n2 (by omega) H5.out.gr'.size ?_)
  intro x2 V6 o2 g2
  have H6 : Hid (Bs15 w V6 w.heap.size n x2 8 ((((([] : List Int) ++ sto n.kd 2) ++ sto n.md 2) ++ sto n.ui 2) ++ sto n.gi 2)) := H5.out.app (by rw [bv_append]; exact o2) g2
  clear o2 g2 H5 R2 n2
  have wb : Hid (∀ V x, (x = n.tm ∨ x = n.ln ∨ x = n.at_) → Calls Try.prog 29 #[.int .i64 x] V fun e w' => ∃ v, e = .returned v ∧ w'.ownsRow V.heap.size 5 1 v 4 (bv (sto x 4)) ∧ V.grownBy w' none) := fun V x hx => four15_any x V (by have := HR.out.tm; have := HR.out.ln; have := HR.out.at_; omega) (by have := HR.out.tm; have := HR.out.ln; have := HR.out.at_; omega)
  go_wp2_with fail
  have HD : Hid _ := H6.out.keep (show World.grownBy V6 V6.drew none from ⟨rfl, rfl, rfl, Nat.le_refl _, fun _ _ _ => rfl⟩)
  clear H6
  refine wp_region_held_drew (S := fun w' => w'.cell? ⟨w.heap.size, 4, none⟩ = some (.int .i64 n.tm) ∧ w'.cell? ⟨w.heap.size, 5, none⟩ = some (.int .i64 n.ln) ∧ w'.cell? ⟨w.heap.size, 6, none⟩ = some (.int .i64 n.at_)) (by kernel_rfl) ⟨HD.out.bx.c 4, HD.out.bx.c 5, HD.out.bx.c 6⟩ (fun hH => ?_)
  refine wpAnyH_take (i := 0) (oi := ⟨some 27, _, _, _, _, _⟩) (v := x2) rfl (by kernel_rfl) (by kernel_rfl) (by kernel_rfl) (fun _ _ _ h => h) (Or.inl ⟨by rfl, fun w hSw => by go_simp⟩) hH ?_
  simp only [Act.put, List.setIfInBounds_toArray, List.set_cons_zero, List.set_cons_succ]
  refine wpAnyH_take (i := 1) (oi := ⟨some 28, _, _, _, _, _⟩) (v := .pointer (some ⟨w.heap.size, 4, none⟩)) rfl (by kernel_rfl) (by kernel_rfl) (by kernel_rfl) (fun _ _ _ h => h) (Or.inl ⟨by rfl, fun w hSw => by go_simp⟩) hH ?_
  simp only [Act.put, List.setIfInBounds_toArray, List.set_cons_zero, List.set_cons_succ]
  refine wpAnyH_take (i := 2) (oi := ⟨some 29, _, _, _, _, _⟩) (v := .int .i64 n.tm) rfl (by kernel_rfl) (by kernel_rfl) (by kernel_rfl) (fun _ _ _ h => h) (Or.inl ⟨by rfl, fun w hSw => by obtain ⟨q0, q1, q2⟩ := hSw; go_simp⟩) hH ?_
  simp only [Act.put, List.setIfInBounds_toArray, List.set_cons_zero, List.set_cons_succ]
  refine wpAnyH_take (i := 5) (oi := ⟨some 32, _, _, _, _, _⟩) (v := .pointer (some ⟨w.heap.size, 5, none⟩)) rfl (by kernel_rfl) (by kernel_rfl) (by kernel_rfl) (fun _ _ _ h => h) (Or.inl ⟨by rfl, fun w hSw => by go_simp⟩) hH ?_
  simp only [Act.put, List.setIfInBounds_toArray, List.set_cons_zero, List.set_cons_succ]
  refine wpAnyH_take (i := 6) (oi := ⟨some 33, _, _, _, _, _⟩) (v := .int .i64 n.ln) rfl (by kernel_rfl) (by kernel_rfl) (by kernel_rfl) (fun _ _ _ h => h) (Or.inl ⟨by rfl, fun w hSw => by obtain ⟨q0, q1, q2⟩ := hSw; go_simp⟩) hH ?_
  simp only [Act.put, List.setIfInBounds_toArray, List.set_cons_zero, List.set_cons_succ]
  refine wpAnyH_take (i := 9) (oi := ⟨some 36, _, _, _, _, _⟩) (v := .pointer (some ⟨w.heap.size, 6, none⟩)) rfl (by kernel_rfl) (by kernel_rfl) (by kernel_rfl) (fun _ _ _ h => h) (Or.inl ⟨by rfl, fun w hSw => by go_simp⟩) hH ?_
  simp only [Act.put, List.setIfInBounds_toArray, List.set_cons_zero, List.set_cons_succ]
  refine wpAnyH_take (i := 10) (oi := ⟨some 37, _, _, _, _, _⟩) (v := .int .i64 n.at_) rfl (by kernel_rfl) (by kernel_rfl) (by kernel_rfl) (fun _ _ _ h => h) (Or.inl ⟨by rfl, fun w hSw => by obtain ⟨q0, q1, q2⟩ := hSw; go_simp⟩) hH ?_
  simp only [Act.put, List.setIfInBounds_toArray, List.set_cons_zero, List.set_cons_succ]
  refine wpAnyH_ready (rs := [3]) (by kernel_rfl) (by simp) ?_
  refine AllReadyH.cons rfl (fun K hK => ?_) AllReadyH.nil
  go_simp
  have hw := wb.out (V6.drew) n.tm (by simp)
  go_wp2_with (go_at_call 29; (with_reducible refine hw.mono ?_); rintro e Y0 ⟨u, rfl, ou, gu⟩; obtain ⟨b0, k0, rfl, P0⟩ := Pd15.new ou (sto_byt _ _) (by unfold maxLen; omega) HD.out.own; have HC0 : Hid _ := HD.out.keep gu; clear ou gu)
  clear hw
  refine hK.out _ _ ⟨HC0.out.bx.c 4, HC0.out.bx.c 5, HC0.out.bx.c 6⟩ (fun _ => ?_)
  clear hK K HD
  refine wpAnyH_ready (rs := [4]) (by kernel_rfl) (by simp) ?_
  refine AllReadyH.cons rfl (fun K hK => ?_) AllReadyH.nil
  refine step_append15 (by rfl) _ _ 26 (by rfl) w.heap.size i5 Try.underlying26 hi hz0 hz1 hz2 x2 8 _ (by rfl) HC0.out.own b0 4 k0 _ (by rfl) P0 (by decide) (by omega) HC0.out.gr'.size ?_
  intro y0 Z0 oo gg _
  have HA0 : Hid (Bs15 w Z0 w.heap.size n y0 12 (((((([] : List Int) ++ sto n.kd 2) ++ sto n.md 2) ++ sto n.ui 2) ++ sto n.gi 2) ++ sto n.tm 4)) := HC0.out.app oo gg
  clear oo gg P0
  refine hK.out _ _ ⟨HA0.out.bx.c 4, HA0.out.bx.c 5, HA0.out.bx.c 6⟩ (fun _ => ?_)
  clear hK K HC0
  simp only [Act.put, List.setIfInBounds_toArray, List.set_cons_zero, List.set_cons_succ]
  refine wpAnyH_ready (rs := [7]) (by kernel_rfl) (by simp) ?_
  refine AllReadyH.cons rfl (fun K hK => ?_) AllReadyH.nil
  go_simp
  have hw := wb.out (Z0) n.ln (by simp)
  go_wp2_with (go_at_call 29; (with_reducible refine hw.mono ?_); rintro e Y1 ⟨u, rfl, ou, gu⟩; obtain ⟨b1, k1, rfl, P1⟩ := Pd15.new ou (sto_byt _ _) (by unfold maxLen; omega) HA0.out.own; have HC1 : Hid _ := HA0.out.keep gu; clear ou gu)
  clear hw
  refine hK.out _ _ ⟨HC1.out.bx.c 4, HC1.out.bx.c 5, HC1.out.bx.c 6⟩ (fun _ => ?_)
  clear hK K HA0
  refine wpAnyH_ready (rs := [8]) (by kernel_rfl) (by simp) ?_
  refine AllReadyH.cons rfl (fun K hK => ?_) AllReadyH.nil
  refine step_append15 (by rfl) _ _ 26 (by rfl) w.heap.size i5 Try.underlying26 hi hz0 hz1 hz2 y0 12 _ (by rfl) HC1.out.own b1 4 k1 _ (by rfl) P1 (by decide) (by omega) HC1.out.gr'.size ?_
  intro y1 Z1 oo gg _
  have HA1 : Hid (Bs15 w Z1 w.heap.size n y1 16 ((((((([] : List Int) ++ sto n.kd 2) ++ sto n.md 2) ++ sto n.ui 2) ++ sto n.gi 2) ++ sto n.tm 4) ++ sto n.ln 4)) := HC1.out.app oo gg
  clear oo gg P1
  refine hK.out _ _ ⟨HA1.out.bx.c 4, HA1.out.bx.c 5, HA1.out.bx.c 6⟩ (fun _ => ?_)
  clear hK K HC1
  simp only [Act.put, List.setIfInBounds_toArray, List.set_cons_zero, List.set_cons_succ]
  refine wpAnyH_ready (rs := [11]) (by kernel_rfl) (by simp) ?_
  refine AllReadyH.cons rfl (fun K hK => ?_) AllReadyH.nil
  go_simp
  have hw := wb.out (Z1) n.at_ (by simp)
  go_wp2_with (go_at_call 29; (with_reducible refine hw.mono ?_); rintro e Y2 ⟨u, rfl, ou, gu⟩; obtain ⟨b2, k2, rfl, P2⟩ := Pd15.new ou (sto_byt _ _) (by unfold maxLen; omega) HA1.out.own; have HC2 : Hid _ := HA1.out.keep gu; clear ou gu)
  clear hw
  refine hK.out _ _ ⟨HC2.out.bx.c 4, HC2.out.bx.c 5, HC2.out.bx.c 6⟩ (fun _ => ?_)
  clear hK K HA1
  refine wpAnyH_ready (rs := [12]) (by kernel_rfl) (by simp) ?_
  refine AllReadyH.cons rfl (fun K hK => ?_) AllReadyH.nil
  refine step_append15 (by rfl) _ _ 26 (by rfl) w.heap.size i5 Try.underlying26 hi hz0 hz1 hz2 y1 16 _ (by rfl) HC2.out.own b2 4 k2 _ (by rfl) P2 (by decide) (by omega) HC2.out.gr'.size ?_
  intro y2 Z2 oo gg _
  have HA2 : Hid (Bs15 w Z2 w.heap.size n y2 20 (((((((([] : List Int) ++ sto n.kd 2) ++ sto n.md 2) ++ sto n.ui 2) ++ sto n.gi 2) ++ sto n.tm 4) ++ sto n.ln 4) ++ sto n.at_ 4)) := HC2.out.app oo gg
  clear oo gg P2
  refine hK.out _ _ ⟨HA2.out.bx.c 4, HA2.out.bx.c 5, HA2.out.bx.c 6⟩ (fun _ => ?_)
  clear hK K HC2
  simp only [Act.put, List.setIfInBounds_toArray, List.set_cons_zero, List.set_cons_succ]
  refine wpAnyH_ready (rs := [13]) (by kernel_rfl) (by simp) ?_
  refine AllReadyH.cons rfl (fun K hK => ?_) AllReadyH.nil
  go_simp
  refine hK.out _ _ ⟨HA2.out.bx.c 4, HA2.out.bx.c 5, HA2.out.bx.c 6⟩ (fun _ => ?_)
  clear hK K
  refine wpAnyH_done (by kernel_rfl) ?_ _
  have c0 := HA2.out.bx.c 0
  simp only [Nd.cells, List.getElem?_cons_zero] at c0
  rw [HKK.out] at c0
  go_wp2_with fail
  have wbt : Hid (∀ V x, (x = n.dr ∨ x = n.by_ ∨ x = n.pr) → Calls Try.prog 29 #[.int .i64 x] V fun e w' => ∃ v, e = .returned v ∧ w'.ownsRow V.heap.size 5 1 v 4 (bv (sto x 4)) ∧ V.grownBy w' none) := fun V x hx => four15_any x V (by have := HR.out.k2 HKK.out; omega) (by have := HR.out.k2 HKK.out; omega)
  have HDt : Hid _ := HA2.out.keep (show World.grownBy Z2 Z2.drew none from ⟨rfl, rfl, rfl, Nat.le_refl _, fun _ _ _ => rfl⟩)
  clear HA2
  refine wp_region_held_drew (S := fun w' => w'.cell? ⟨w.heap.size, 13, none⟩ = some (.int .i64 n.dr) ∧ w'.cell? ⟨w.heap.size, 14, none⟩ = some (.int .i64 n.by_) ∧ w'.cell? ⟨w.heap.size, 15, none⟩ = some (.int .i64 n.pr)) (by kernel_rfl) ⟨HDt.out.bx.c 13, HDt.out.bx.c 14, HDt.out.bx.c 15⟩ (fun hH => ?_)
  refine wpAnyH_take (i := 0) (oi := ⟨some 94, _, _, _, _, _⟩) (v := y2) rfl (by kernel_rfl) (by kernel_rfl) (by kernel_rfl) (fun _ _ _ h => h) (Or.inl ⟨by rfl, fun w hSw => by go_simp⟩) hH ?_
  simp only [Act.put, List.setIfInBounds_toArray, List.set_cons_zero, List.set_cons_succ]
  refine wpAnyH_take (i := 1) (oi := ⟨some 95, _, _, _, _, _⟩) (v := .pointer (some ⟨w.heap.size, 13, none⟩)) rfl (by kernel_rfl) (by kernel_rfl) (by kernel_rfl) (fun _ _ _ h => h) (Or.inl ⟨by rfl, fun w hSw => by go_simp⟩) hH ?_
  simp only [Act.put, List.setIfInBounds_toArray, List.set_cons_zero, List.set_cons_succ]
  refine wpAnyH_take (i := 2) (oi := ⟨some 96, _, _, _, _, _⟩) (v := .int .i64 n.dr) rfl (by kernel_rfl) (by kernel_rfl) (by kernel_rfl) (fun _ _ _ h => h) (Or.inl ⟨by rfl, fun w hSw => by obtain ⟨q0, q1, q2⟩ := hSw; go_simp⟩) hH ?_
  simp only [Act.put, List.setIfInBounds_toArray, List.set_cons_zero, List.set_cons_succ]
  refine wpAnyH_take (i := 5) (oi := ⟨some 99, _, _, _, _, _⟩) (v := .pointer (some ⟨w.heap.size, 14, none⟩)) rfl (by kernel_rfl) (by kernel_rfl) (by kernel_rfl) (fun _ _ _ h => h) (Or.inl ⟨by rfl, fun w hSw => by go_simp⟩) hH ?_
  simp only [Act.put, List.setIfInBounds_toArray, List.set_cons_zero, List.set_cons_succ]
  refine wpAnyH_take (i := 6) (oi := ⟨some 100, _, _, _, _, _⟩) (v := .int .i64 n.by_) rfl (by kernel_rfl) (by kernel_rfl) (by kernel_rfl) (fun _ _ _ h => h) (Or.inl ⟨by rfl, fun w hSw => by obtain ⟨q0, q1, q2⟩ := hSw; go_simp⟩) hH ?_
  simp only [Act.put, List.setIfInBounds_toArray, List.set_cons_zero, List.set_cons_succ]
  refine wpAnyH_take (i := 9) (oi := ⟨some 103, _, _, _, _, _⟩) (v := .pointer (some ⟨w.heap.size, 15, none⟩)) rfl (by kernel_rfl) (by kernel_rfl) (by kernel_rfl) (fun _ _ _ h => h) (Or.inl ⟨by rfl, fun w hSw => by go_simp⟩) hH ?_
  simp only [Act.put, List.setIfInBounds_toArray, List.set_cons_zero, List.set_cons_succ]
  refine wpAnyH_take (i := 10) (oi := ⟨some 104, _, _, _, _, _⟩) (v := .int .i64 n.pr) rfl (by kernel_rfl) (by kernel_rfl) (by kernel_rfl) (fun _ _ _ h => h) (Or.inl ⟨by rfl, fun w hSw => by obtain ⟨q0, q1, q2⟩ := hSw; go_simp⟩) hH ?_
  simp only [Act.put, List.setIfInBounds_toArray, List.set_cons_zero, List.set_cons_succ]
  refine wpAnyH_ready (rs := [3]) (by kernel_rfl) (by simp) ?_
  refine AllReadyH.cons rfl (fun K hK => ?_) AllReadyH.nil
  go_simp
  have hw := wbt.out (Z2.drew) n.dr (by simp)
  go_wp2_with (go_at_call 29; (with_reducible refine hw.mono ?_); rintro e Yt0 ⟨u, rfl, ou, gu⟩; obtain ⟨bt0, kt0, rfl, Pt0⟩ := Pd15.new ou (sto_byt _ _) (by unfold maxLen; omega) HDt.out.own; have HCt0 : Hid _ := HDt.out.keep gu; clear ou gu)
  clear hw
  refine hK.out _ _ ⟨HCt0.out.bx.c 13, HCt0.out.bx.c 14, HCt0.out.bx.c 15⟩ (fun _ => ?_)
  clear hK K HDt
  refine wpAnyH_ready (rs := [4]) (by kernel_rfl) (by simp) ?_
  refine AllReadyH.cons rfl (fun K hK => ?_) AllReadyH.nil
  refine step_append15 (by rfl) _ _ 26 (by rfl) w.heap.size i5 Try.underlying26 hi hz0 hz1 hz2 y2 20 _ (by rfl) HCt0.out.own bt0 4 kt0 _ (by rfl) Pt0 (by decide) (by omega) HCt0.out.gr'.size ?_
  intro yt0 Zt0 oo gg _
  have HAt0 : Hid (Bs15 w Zt0 w.heap.size n yt0 24 ((((((((([] : List Int) ++ sto n.kd 2) ++ sto n.md 2) ++ sto n.ui 2) ++ sto n.gi 2) ++ sto n.tm 4) ++ sto n.ln 4) ++ sto n.at_ 4) ++ sto n.dr 4)) := HCt0.out.app oo gg
  clear oo gg Pt0
  refine hK.out _ _ ⟨HAt0.out.bx.c 13, HAt0.out.bx.c 14, HAt0.out.bx.c 15⟩ (fun _ => ?_)
  clear hK K HCt0
  simp only [Act.put, List.setIfInBounds_toArray, List.set_cons_zero, List.set_cons_succ]
  refine wpAnyH_ready (rs := [7]) (by kernel_rfl) (by simp) ?_
  refine AllReadyH.cons rfl (fun K hK => ?_) AllReadyH.nil
  go_simp
  have hw := wbt.out (Zt0) n.by_ (by simp)
  go_wp2_with (go_at_call 29; (with_reducible refine hw.mono ?_); rintro e Yt1 ⟨u, rfl, ou, gu⟩; obtain ⟨bt1, kt1, rfl, Pt1⟩ := Pd15.new ou (sto_byt _ _) (by unfold maxLen; omega) HAt0.out.own; have HCt1 : Hid _ := HAt0.out.keep gu; clear ou gu)
  clear hw
  refine hK.out _ _ ⟨HCt1.out.bx.c 13, HCt1.out.bx.c 14, HCt1.out.bx.c 15⟩ (fun _ => ?_)
  clear hK K HAt0
  refine wpAnyH_ready (rs := [8]) (by kernel_rfl) (by simp) ?_
  refine AllReadyH.cons rfl (fun K hK => ?_) AllReadyH.nil
  refine step_append15 (by rfl) _ _ 26 (by rfl) w.heap.size i5 Try.underlying26 hi hz0 hz1 hz2 yt0 24 _ (by rfl) HCt1.out.own bt1 4 kt1 _ (by rfl) Pt1 (by decide) (by omega) HCt1.out.gr'.size ?_
  intro yt1 Zt1 oo gg _
  have HAt1 : Hid (Bs15 w Zt1 w.heap.size n yt1 28 (((((((((([] : List Int) ++ sto n.kd 2) ++ sto n.md 2) ++ sto n.ui 2) ++ sto n.gi 2) ++ sto n.tm 4) ++ sto n.ln 4) ++ sto n.at_ 4) ++ sto n.dr 4) ++ sto n.by_ 4)) := HCt1.out.app oo gg
  clear oo gg Pt1
  refine hK.out _ _ ⟨HAt1.out.bx.c 13, HAt1.out.bx.c 14, HAt1.out.bx.c 15⟩ (fun _ => ?_)
  clear hK K HCt1
  simp only [Act.put, List.setIfInBounds_toArray, List.set_cons_zero, List.set_cons_succ]
  refine wpAnyH_ready (rs := [11]) (by kernel_rfl) (by simp) ?_
  refine AllReadyH.cons rfl (fun K hK => ?_) AllReadyH.nil
  go_simp
  have hw := wbt.out (Zt1) n.pr (by simp)
  go_wp2_with (go_at_call 29; (with_reducible refine hw.mono ?_); rintro e Yt2 ⟨u, rfl, ou, gu⟩; obtain ⟨bt2, kt2, rfl, Pt2⟩ := Pd15.new ou (sto_byt _ _) (by unfold maxLen; omega) HAt1.out.own; have HCt2 : Hid _ := HAt1.out.keep gu; clear ou gu)
  clear hw
  refine hK.out _ _ ⟨HCt2.out.bx.c 13, HCt2.out.bx.c 14, HCt2.out.bx.c 15⟩ (fun _ => ?_)
  clear hK K HAt1
  refine wpAnyH_ready (rs := [12]) (by kernel_rfl) (by simp) ?_
  refine AllReadyH.cons rfl (fun K hK => ?_) AllReadyH.nil
  refine step_append15 (by rfl) _ _ 26 (by rfl) w.heap.size i5 Try.underlying26 hi hz0 hz1 hz2 yt1 28 _ (by rfl) HCt2.out.own bt2 4 kt2 _ (by rfl) Pt2 (by decide) (by omega) HCt2.out.gr'.size ?_
  intro yt2 Zt2 oo gg _
  have HAt2 : Hid (Bs15 w Zt2 w.heap.size n yt2 32 ((((((((((([] : List Int) ++ sto n.kd 2) ++ sto n.md 2) ++ sto n.ui 2) ++ sto n.gi 2) ++ sto n.tm 4) ++ sto n.ln 4) ++ sto n.at_ 4) ++ sto n.dr 4) ++ sto n.by_ 4) ++ sto n.pr 4)) := HCt2.out.app oo gg
  clear oo gg Pt2
  refine hK.out _ _ ⟨HAt2.out.bx.c 13, HAt2.out.bx.c 14, HAt2.out.bx.c 15⟩ (fun _ => ?_)
  clear hK K HCt2
  simp only [Act.put, List.setIfInBounds_toArray, List.set_cons_zero, List.set_cons_succ]
  refine wpAnyH_ready (rs := [13]) (by kernel_rfl) (by simp) ?_
  refine AllReadyH.cons rfl (fun K hK => ?_) AllReadyH.nil
  go_simp
  refine hK.out _ _ ⟨HAt2.out.bx.c 13, HAt2.out.bx.c 14, HAt2.out.bx.c 15⟩ (fun _ => ?_)
  clear hK K
  refine wpAnyH_done (by kernel_rfl) ?_ _
  go_wp2
  go_ret
  have hE : enb15 n = ((((((((((([] : List Int) ++ sto n.kd 2) ++ sto n.md 2) ++ sto n.ui 2) ++ sto n.gi 2) ++ sto n.tm 4) ++ sto n.ln 4) ++ sto n.at_ 4) ++ sto n.dr 4) ++ sto n.by_ 4) ++ sto n.pr 4) := by unfold enb15; rw [if_neg (by have := HKK.out; omega), if_pos HKK.out]; rfl
  have hLn : (((((((((((([] : List Int) ++ sto n.kd 2) ++ sto n.md 2) ++ sto n.ui 2) ++ sto n.gi 2) ++ sto n.tm 4) ++ sto n.ln 4) ++ sto n.at_ 4) ++ sto n.dr 4) ++ sto n.by_ 4) ++ sto n.pr 4)).length = 32 := by simp only [List.length_append, sto_length, List.length_nil]
  obtain ⟨af, cf, ef, Rf, nf, _, _⟩ := own_bytes HAt2.out.own (by rw [← hE]; exact enb15_byt n) (by unfold maxLen; omega)
  rw [hE, hLn]
  exact ⟨af, cf, by rw [← ef]; rfl, Rf, nf, HAt2.out.gr'⟩
end Go.Proofs.Ytiafbnpbbjkdbaa
