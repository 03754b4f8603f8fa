/- The document's Bytes of files. -/
import Derived.Test.YtiafbnpbbjkdbaaPB15
namespace Go.Proofs.Ytiafbnpbbjkdbaa
open Go.RowKit
set_option maxRecDepth 100000
set_option linter.unusedSimpArgs false
set_option linter.unusedVariables false
set_option maxHeartbeats 8000000 in
theorem rbytes15_1 (n : Nd) (w : World) (hn : n.ok w) (hr : Rt15 n) (hk : n.kd = 1) : Calls Try.prog 13 #[n.val] w fun e w' => ∃ a c, e = .returned (.slice a (enb15 n).length c) ∧ Row w' a (enb15 n).length (enb15 n) ∧ (a = none → c = 0) ∧ w.grownBy w' none := by
  obtain ⟨i5, hi, hz0, hz1, hz2⟩ := info_parts Try.info5
  have wk : IntKind.u8.wrap n.kd = n.kd := by have := hr.kd; rw [IntKind.wrap_u8]; omega
  have wm : IntKind.u64.wrap n.md = n.md := u64_wrap_in _ (by have := hr.md; omega) (by have := hr.md; omega)
  have wu : IntKind.u64.wrap n.ui = n.ui := u64_wrap_in _ (by have := hr.ui; omega) (by have := hr.ui; omega)
  have wg : IntKind.u64.wrap n.gi = n.gi := u64_wrap_in _ (by have := hr.gi; omega) (by have := hr.gi; omega)
  have HR : Hid _ := hr
  have HKK : Hid _ := hk
  have HRW : Hid _ := hn.row
  clear hr hk hn
  have hsk : sto n.kd 2 = [n.kd, 0] := by
    have := HR.out.kd
    have e : ∀ y : Int, sto y 2 = [y % 256, y / 256 % 256] := fun y => by simp [sto]
    have e1 : n.kd % 256 = n.kd := by omega
    have e2 : n.kd / 256 % 256 = 0 := by omega
    rw [e, e1, e2]
  have O0 := World.ownsRow_lit (base := w.heap.size) (e := 5) (size := 1) (w.alloc (.cells #[.int .i64 n.kd, .int .i64 n.md, .int .i64 n.ui, .int .i64 n.gi, .int .i64 n.tm, .int .i64 n.ln, .int .i64 n.at_, .int .i64 n.sz, .int .i64 n.st, .slice n.wa n.wl n.wc, .int .i64 n.fr, .int .i64 n.of_, .int .i64 n.tl, .int .i64 n.dr, .int .i64 n.by_, .int .i64 n.pr, .string n.tg, .int .i64 n.dv] 24)) #[.int .u8 n.kd, .int .u8 0] 2 (by simp) (by unfold maxLen; omega) rfl
  have H0 : Hid (Bs15 w ((w.alloc (.cells #[.int .i64 n.kd, .int .i64 n.md, .int .i64 n.ui, .int .i64 n.gi, .int .i64 n.tm, .int .i64 n.ln, .int .i64 n.at_, .int .i64 n.sz, .int .i64 n.st, .slice n.wa n.wl n.wc, .int .i64 n.fr, .int .i64 n.of_, .int .i64 n.tl, .int .i64 n.dr, .int .i64 n.by_, .int .i64 n.pr, .string n.tg, .int .i64 n.dv] 24)).alloc (.cells #[.int .u8 n.kd, .int .u8 0] 5)) w.heap.size n (.slice (some ⟨w.heap.size + 1, 0, none⟩) 2 2) 2 ([] ++ sto n.kd 2)) := ⟨(Bx.new w 24 _).kept (World.grownBy_alloc _ _ none), by rw [hsk]; simpa [bv] using O0, grown_trans (World.grownBy_alloc _ _ none) (World.grownBy_alloc _ _ none)⟩
  clear O0 hsk
  go_enter Try.func13, Try.ntmps13
  unfold Nd.val
  go_wp2_with fail
  refine (store_own n.md 2 _ (by decide) (by have := HR.out.md; omega) (by have := HR.out.md; omega)).mono ?_
  rintro e V1 ⟨u, rfl, ou, gu⟩
  obtain ⟨a0, c0, rfl, R0, n0, _, _⟩ := own_bytes ou (sto_byt _ _) (by unfold maxLen; omega)
  have H1 : Hid _ := H0.out.keep gu
  clear gu ou H0
  simp only
  go_wp2_with (at_builtin; refine wpList_append8 rfl _ _ 26 rfl w.heap.size i5 Try.underlying26 hi hz0 hz1 hz2 _ 2 _ rfl H1.out.own _ 2 c0 (sto n.md 2) rfl R0 n0 (by omega) H1.out.gr'.size ?_)
  intro x0 V2 o0 g0
  have H2 : Hid (Bs15 w V2 w.heap.size n x0 4 ((([] : List Int) ++ sto n.kd 2) ++ sto n.md 2)) := H1.out.app (by rw [bv_append]; exact o0) g0
  clear o0 g0 H1 R0 n0
  have d1 := H2.out.bx.c 2
  simp only [Nd.cells, List.getElem?_cons_zero, List.getElem?_cons_succ] at d1
  go_wp2_with fail
  refine (store_own n.ui 2 _ (by decide) (by have := HR.out.ui; omega) (by have := HR.out.ui; omega)).mono ?_
  rintro e V3 ⟨u, rfl, ou, gu⟩
  obtain ⟨a1, c1, rfl, R1, n1, _, _⟩ := own_bytes ou (sto_byt _ _) (by unfold maxLen; omega)
  have H3 : Hid _ := H2.out.keep gu
  clear gu ou H2 d1
  simp only
  go_wp2_with (at_builtin; refine wpList_append8 rfl _ _ 26 rfl w.heap.size i5 Try.underlying26 hi hz0 hz1 hz2 _ 4 _ rfl H3.out.own _ 2 c1 (sto n.ui 2) rfl R1 n1 (by omega) H3.out.gr'.size ?_)
  intro x1 V4 o1 g1
  have H4 : Hid (Bs15 w V4 w.heap.size n x1 6 (((([] : List Int) ++ sto n.kd 2) ++ sto n.md 2) ++ sto n.ui 2)) := H3.out.app (by rw [bv_append]; exact o1) g1
  clear o1 g1 H3 R1 n1
  have d2 := H4.out.bx.c 3
  simp only [Nd.cells, List.getElem?_cons_zero, List.getElem?_cons_succ] at d2
  go_wp2_with fail
  refine (store_own n.gi 2 _ (by decide) (by have := HR.out.gi; omega) (by have := HR.out.gi; omega)).mono ?_
  rintro e V5 ⟨u, rfl, ou, gu⟩
  obtain ⟨a2, c2, rfl, R2, n2, _, _⟩ := own_bytes ou (sto_byt _ _) (by unfold maxLen; omega)
  have H5 : Hid _ := H4.out.keep gu
  clear gu ou H4 d2
  simp only
  go_wp2_with (at_builtin; refine wpList_append8 rfl _ _ 26 rfl w.heap.size i5 Try.underlying26 hi hz0 hz1 hz2 _ 6 _ rfl H5.out.own _ 2 c2 (sto n.gi 2) rfl R2 n2 (by omega) H5.out.gr'.size ?_)
  intro x2 V6 o2 g2
  have H6 : Hid (Bs15 w V6 w.heap.size n x2 8 ((((([] : List Int) ++ sto n.kd 2) ++ sto n.md 2) ++ sto n.ui 2) ++ sto n.gi 2)) := H5.out.app (by rw [bv_append]; exact o2) g2
  clear o2 g2 H5 R2 n2
  have wb : Hid (∀ V x, (x = n.tm ∨ x = n.ln ∨ x = n.at_) → Calls Try.prog 29 #[.int .i64 x] V fun e w' => ∃ v, e = .returned v ∧ w'.ownsRow V.heap.size 5 1 v 4 (bv (sto x 4)) ∧ V.grownBy w' none) := fun V x hx => four15_any x V (by have := HR.out.tm; have := HR.out.ln; have := HR.out.at_; omega) (by have := HR.out.tm; have := HR.out.ln; have := HR.out.at_; omega)
  go_wp2_with fail
  have HD : Hid _ := H6.out.keep (show World.grownBy V6 V6.drew none from ⟨rfl, rfl, rfl, Nat.le_refl _, fun _ _ _ => rfl⟩)
  clear H6
  refine wp_region_held_drew (S := fun w' => w'.cell? ⟨w.heap.size, 4, none⟩ = some (.int .i64 n.tm) ∧ w'.cell? ⟨w.heap.size, 5, none⟩ = some (.int .i64 n.ln) ∧ w'.cell? ⟨w.heap.size, 6, none⟩ = some (.int .i64 n.at_)) (by kernel_rfl) ⟨HD.out.bx.c 4, HD.out.bx.c 5, HD.out.bx.c 6⟩ (fun hH => ?_)
  refine wpAnyH_take (i := 0) (oi := ⟨some 27, _, _, _, _, _⟩) (v := x2) rfl (by kernel_rfl) (by kernel_rfl) (by kernel_rfl) (fun _ _ _ h => h) (Or.inl ⟨by rfl, fun w hSw => by go_simp⟩) hH ?_
  simp only [Act.put, List.setIfInBounds_toArray, List.set_cons_zero, List.set_cons_succ]
  refine wpAnyH_take (i := 1) (oi := ⟨some 28, _, _, _, _, _⟩) (v := .pointer (some ⟨w.heap.size, 4, none⟩)) rfl (by kernel_rfl) (by kernel_rfl) (by kernel_rfl) (fun _ _ _ h => h) (Or.inl ⟨by rfl, fun w hSw => by go_simp⟩) hH ?_
  simp only [Act.put, List.setIfInBounds_toArray, List.set_cons_zero, List.set_cons_succ]
  refine wpAnyH_take (i := 2) (oi := ⟨some 29, _, _, _, _, _⟩) (v := .int .i64 n.tm) rfl (by kernel_rfl) (by kernel_rfl) (by kernel_rfl) (fun _ _ _ h => h) (Or.inl ⟨by rfl, fun w hSw => by obtain ⟨q0, q1, q2⟩ := hSw; go_simp⟩) hH ?_
  simp only [Act.put, List.setIfInBounds_toArray, List.set_cons_zero, List.set_cons_succ]
  refine wpAnyH_take (i := 5) (oi := ⟨some 32, _, _, _, _, _⟩) (v := .pointer (some ⟨w.heap.size, 5, none⟩)) rfl (by kernel_rfl) (by kernel_rfl) (by kernel_rfl) (fun _ _ _ h => h) (Or.inl ⟨by rfl, fun w hSw => by go_simp⟩) hH ?_
  simp only [Act.put, List.setIfInBounds_toArray, List.set_cons_zero, List.set_cons_succ]
  refine wpAnyH_take (i := 6) (oi := ⟨some 33, _, _, _, _, _⟩) (v := .int .i64 n.ln) rfl (by kernel_rfl) (by kernel_rfl) (by kernel_rfl) (fun _ _ _ h => h) (Or.inl ⟨by rfl, fun w hSw => by obtain ⟨q0, q1, q2⟩ := hSw; go_simp⟩) hH ?_
  simp only [Act.put, List.setIfInBounds_toArray, List.set_cons_zero, List.set_cons_succ]
  refine wpAnyH_take (i := 9) (oi := ⟨some 36, _, _, _, _, _⟩) (v := .pointer (some ⟨w.heap.size, 6, none⟩)) rfl (by kernel_rfl) (by kernel_rfl) (by kernel_rfl) (fun _ _ _ h => h) (Or.inl ⟨by rfl, fun w hSw => by go_simp⟩) hH ?_
  simp only [Act.put, List.setIfInBounds_toArray, List.set_cons_zero, List.set_cons_succ]
  refine wpAnyH_take (i := 10) (oi := ⟨some 37, _, _, _, _, _⟩) (v := .int .i64 n.at_) rfl (by kernel_rfl) (by kernel_rfl) (by kernel_rfl) (fun _ _ _ h => h) (Or.inl ⟨by rfl, fun w hSw => by obtain ⟨q0, q1, q2⟩ := hSw; go_simp⟩) hH ?_
  simp only [Act.put, List.setIfInBounds_toArray, List.set_cons_zero, List.set_cons_succ]
  refine wpAnyH_ready (rs := [3]) (by kernel_rfl) (by simp) ?_
  refine AllReadyH.cons rfl (fun K hK => ?_) AllReadyH.nil
  go_simp
  have hw := wb.out (V6.drew) n.tm (by simp)
  go_wp2_with (go_at_call 29; (with_reducible refine hw.mono ?_); rintro e Y0 ⟨u, rfl, ou, gu⟩; obtain ⟨b0, k0, rfl, P0⟩ := Pd15.new ou (sto_byt _ _) (by unfold maxLen; omega) HD.out.own; have HC0 : Hid _ := HD.out.keep gu; clear ou gu)
  clear hw
  refine hK.out _ _ ⟨HC0.out.bx.c 4, HC0.out.bx.c 5, HC0.out.bx.c 6⟩ (fun _ => ?_)
  clear hK K HD
  refine wpAnyH_ready (rs := [4]) (by kernel_rfl) (by simp) ?_
  refine AllReadyH.cons rfl (fun K hK => ?_) AllReadyH.nil
  refine step_append15 (by rfl) _ _ 26 (by rfl) w.heap.size i5 Try.underlying26 hi hz0 hz1 hz2 x2 8 _ (by rfl) HC0.out.own b0 4 k0 _ (by rfl) P0 (by decide) (by omega) HC0.out.gr'.size ?_
  intro y0 Z0 oo gg _
  have HA0 : Hid (Bs15 w Z0 w.heap.size n y0 12 (((((([] : List Int) ++ sto n.kd 2) ++ sto n.md 2) ++ sto n.ui 2) ++ sto n.gi 2) ++ sto n.tm 4)) := HC0.out.app oo gg
  clear oo gg P0
  refine hK.out _ _ ⟨HA0.out.bx.c 4, HA0.out.bx.c 5, HA0.out.bx.c 6⟩ (fun _ => ?_)
  clear hK K HC0
  simp only [Act.put, List.setIfInBounds_toArray, List.set_cons_zero, List.set_cons_succ]
  refine wpAnyH_ready (rs := [7]) (by kernel_rfl) (by simp) ?_
  refine AllReadyH.cons rfl (fun K hK => ?_) AllReadyH.nil
  go_simp
  have hw := wb.out (Z0) n.ln (by simp)
  go_wp2_with (go_at_call 29; (with_reducible refine hw.mono ?_); rintro e Y1 ⟨u, rfl, ou, gu⟩; obtain ⟨b1, k1, rfl, P1⟩ := Pd15.new ou (sto_byt _ _) (by unfold maxLen; omega) HA0.out.own; have HC1 : Hid _ := HA0.out.keep gu; clear ou gu)
  clear hw
  refine hK.out _ _ ⟨HC1.out.bx.c 4, HC1.out.bx.c 5, HC1.out.bx.c 6⟩ (fun _ => ?_)
  clear hK K HA0
  refine wpAnyH_ready (rs := [8]) (by kernel_rfl) (by simp) ?_
  refine AllReadyH.cons rfl (fun K hK => ?_) AllReadyH.nil
  refine step_append15 (by rfl) _ _ 26 (by rfl) w.heap.size i5 Try.underlying26 hi hz0 hz1 hz2 y0 12 _ (by rfl) HC1.out.own b1 4 k1 _ (by rfl) P1 (by decide) (by omega) HC1.out.gr'.size ?_
  intro y1 Z1 oo gg _
  have HA1 : Hid (Bs15 w Z1 w.heap.size n y1 16 ((((((([] : List Int) ++ sto n.kd 2) ++ sto n.md 2) ++ sto n.ui 2) ++ sto n.gi 2) ++ sto n.tm 4) ++ sto n.ln 4)) := HC1.out.app oo gg
  clear oo gg P1
  refine hK.out _ _ ⟨HA1.out.bx.c 4, HA1.out.bx.c 5, HA1.out.bx.c 6⟩ (fun _ => ?_)
  clear hK K HC1
  simp only [Act.put, List.setIfInBounds_toArray, List.set_cons_zero, List.set_cons_succ]
  refine wpAnyH_ready (rs := [11]) (by kernel_rfl) (by simp) ?_
  refine AllReadyH.cons rfl (fun K hK => ?_) AllReadyH.nil
  go_simp
  have hw := wb.out (Z1) n.at_ (by simp)
  go_wp2_with (go_at_call 29; (with_reducible refine hw.mono ?_); rintro e Y2 ⟨u, rfl, ou, gu⟩; obtain ⟨b2, k2, rfl, P2⟩ := Pd15.new ou (sto_byt _ _) (by unfold maxLen; omega) HA1.out.own; have HC2 : Hid _ := HA1.out.keep gu; clear ou gu)
  clear hw
  refine hK.out _ _ ⟨HC2.out.bx.c 4, HC2.out.bx.c 5, HC2.out.bx.c 6⟩ (fun _ => ?_)
  clear hK K HA1
  refine wpAnyH_ready (rs := [12]) (by kernel_rfl) (by simp) ?_
  refine AllReadyH.cons rfl (fun K hK => ?_) AllReadyH.nil
  refine step_append15 (by rfl) _ _ 26 (by rfl) w.heap.size i5 Try.underlying26 hi hz0 hz1 hz2 y1 16 _ (by rfl) HC2.out.own b2 4 k2 _ (by rfl) P2 (by decide) (by omega) HC2.out.gr'.size ?_
  intro y2 Z2 oo gg _
  have HA2 : Hid (Bs15 w Z2 w.heap.size n y2 20 (((((((([] : List Int) ++ sto n.kd 2) ++ sto n.md 2) ++ sto n.ui 2) ++ sto n.gi 2) ++ sto n.tm 4) ++ sto n.ln 4) ++ sto n.at_ 4)) := HC2.out.app oo gg
  clear oo gg P2
  refine hK.out _ _ ⟨HA2.out.bx.c 4, HA2.out.bx.c 5, HA2.out.bx.c 6⟩ (fun _ => ?_)
  clear hK K HC2
  simp only [Act.put, List.setIfInBounds_toArray, List.set_cons_zero, List.set_cons_succ]
  refine wpAnyH_ready (rs := [13]) (by kernel_rfl) (by simp) ?_
  refine AllReadyH.cons rfl (fun K hK => ?_) AllReadyH.nil
  go_simp
  refine hK.out _ _ ⟨HA2.out.bx.c 4, HA2.out.bx.c 5, HA2.out.bx.c 6⟩ (fun _ => ?_)
  clear hK K
  refine wpAnyH_done (by kernel_rfl) ?_ _
  have c0 := HA2.out.bx.c 0
  have c7 := HA2.out.bx.c 7
  simp only [Nd.cells, List.getElem?_cons_zero, List.getElem?_cons_succ] at c0 c7
  rw [HKK.out] at c0
  have wsz : IntKind.u64.wrap n.sz = n.sz := u64_wrap_in _ (by have := (HR.out.k1 HKK.out).1; omega) (by have := (HR.out.k1 HKK.out).1; omega)
  go_wp2_with fail
  refine (store_own n.sz 8 _ (by decide) (by have := (HR.out.k1 HKK.out).1; omega) (by have := (HR.out.k1 HKK.out).1; omega)).mono ?_
  rintro e Vs ⟨u, rfl, ou, gu⟩
  obtain ⟨as_, cs_, rfl, Rs, ns, _, _⟩ := own_bytes ou (sto_byt _ _) (by unfold maxLen; omega)
  have Hs : Hid _ := HA2.out.keep gu
  clear gu ou HA2 c0 c7
  simp only
  go_wp2_with (at_builtin; refine wpList_append8 rfl _ _ 26 rfl w.heap.size i5 Try.underlying26 hi hz0 hz1 hz2 _ 20 _ rfl Hs.out.own _ 8 cs_ (sto n.sz 8) rfl Rs ns (by omega) Hs.out.gr'.size ?_)
  intro xs Ws os gs
  have HHs : Hid (Bs15 w Ws w.heap.size n xs 28 ((((((((([] : List Int) ++ sto n.kd 2) ++ sto n.md 2) ++ sto n.ui 2) ++ sto n.gi 2) ++ sto n.tm 4) ++ sto n.ln 4) ++ sto n.at_ 4) ++ sto n.sz 8)) := Hs.out.app (by rw [bv_append]; exact os) gs
  clear os gs Hs Rs ns
  go_wp2_with fail
  have wbf : Hid (∀ V x, (x = n.st ∨ x = n.fr ∨ x = n.of_ ∨ x = n.tl ∨ x = (n.wl : Int)) → Calls Try.prog 29 #[.int .i64 x] V fun e w' => ∃ v, e = .returned v ∧ w'.ownsRow V.heap.size 5 1 v 4 (bv (sto x 4)) ∧ V.grownBy w' none) := fun V x hx => four15_any x V (by have hq := HR.out.k1 HKK.out; obtain ⟨_, h1, h2, h3, h4, h5, _⟩ := hq; omega) (by have hq := HR.out.k1 HKK.out; obtain ⟨_, h1, h2, h3, h4, h5, _⟩ := hq; omega)
  have HDf : Hid _ := HHs.out.keep (show World.grownBy Ws Ws.drew none from ⟨rfl, rfl, rfl, Nat.le_refl _, fun _ _ _ => rfl⟩)
  clear HHs
  refine wp_region_held_drew (S := fun w' => w'.cell? ⟨w.heap.size, 8, none⟩ = some (.int .i64 n.st) ∧ w'.cell? ⟨w.heap.size, 10, none⟩ = some (.int .i64 n.fr) ∧ w'.cell? ⟨w.heap.size, 11, none⟩ = some (.int .i64 n.of_) ∧ w'.cell? ⟨w.heap.size, 12, none⟩ = some (.int .i64 n.tl) ∧ w'.cell? ⟨w.heap.size, 9, none⟩ = some (.slice n.wa n.wl n.wc)) (by kernel_rfl) ⟨HDf.out.bx.c 8, HDf.out.bx.c 10, HDf.out.bx.c 11, HDf.out.bx.c 12, HDf.out.bx.c 9⟩ (fun hH => ?_)
  refine wpAnyH_take (i := 0) (oi := ⟨some 55, _, _, _, _, _⟩) (v := xs) rfl (by kernel_rfl) (by kernel_rfl) (by kernel_rfl) (fun _ _ _ h => h) (Or.inl ⟨by rfl, fun w hSw => by go_simp⟩) hH ?_
  simp only [Act.put, List.setIfInBounds_toArray, List.set_cons_zero, List.set_cons_succ]
  refine wpAnyH_take (i := 1) (oi := ⟨some 56, _, _, _, _, _⟩) (v := .pointer (some ⟨w.heap.size, 8, none⟩)) rfl (by kernel_rfl) (by kernel_rfl) (by kernel_rfl) (fun _ _ _ h => h) (Or.inl ⟨by rfl, fun w hSw => by go_simp⟩) hH ?_
  simp only [Act.put, List.setIfInBounds_toArray, List.set_cons_zero, List.set_cons_succ]
  refine wpAnyH_take (i := 2) (oi := ⟨some 57, _, _, _, _, _⟩) (v := .int .i64 n.st) rfl (by kernel_rfl) (by kernel_rfl) (by kernel_rfl) (fun _ _ _ h => h) (Or.inl ⟨by rfl, fun w hSw => by obtain ⟨q0, q1, q2, q3, q4⟩ := hSw; go_simp⟩) hH ?_
  simp only [Act.put, List.setIfInBounds_toArray, List.set_cons_zero, List.set_cons_succ]
  refine wpAnyH_take (i := 5) (oi := ⟨some 60, _, _, _, _, _⟩) (v := .pointer (some ⟨w.heap.size, 10, none⟩)) rfl (by kernel_rfl) (by kernel_rfl) (by kernel_rfl) (fun _ _ _ h => h) (Or.inl ⟨by rfl, fun w hSw => by go_simp⟩) hH ?_
  simp only [Act.put, List.setIfInBounds_toArray, List.set_cons_zero, List.set_cons_succ]
  refine wpAnyH_take (i := 6) (oi := ⟨some 61, _, _, _, _, _⟩) (v := .int .i64 n.fr) rfl (by kernel_rfl) (by kernel_rfl) (by kernel_rfl) (fun _ _ _ h => h) (Or.inl ⟨by rfl, fun w hSw => by obtain ⟨q0, q1, q2, q3, q4⟩ := hSw; go_simp⟩) hH ?_
  simp only [Act.put, List.setIfInBounds_toArray, List.set_cons_zero, List.set_cons_succ]
  refine wpAnyH_take (i := 9) (oi := ⟨some 64, _, _, _, _, _⟩) (v := .pointer (some ⟨w.heap.size, 11, none⟩)) rfl (by kernel_rfl) (by kernel_rfl) (by kernel_rfl) (fun _ _ _ h => h) (Or.inl ⟨by rfl, fun w hSw => by go_simp⟩) hH ?_
  simp only [Act.put, List.setIfInBounds_toArray, List.set_cons_zero, List.set_cons_succ]
  refine wpAnyH_take (i := 10) (oi := ⟨some 65, _, _, _, _, _⟩) (v := .int .i64 n.of_) rfl (by kernel_rfl) (by kernel_rfl) (by kernel_rfl) (fun _ _ _ h => h) (Or.inl ⟨by rfl, fun w hSw => by obtain ⟨q0, q1, q2, q3, q4⟩ := hSw; go_simp⟩) hH ?_
  simp only [Act.put, List.setIfInBounds_toArray, List.set_cons_zero, List.set_cons_succ]
  refine wpAnyH_take (i := 13) (oi := ⟨some 68, _, _, _, _, _⟩) (v := .pointer (some ⟨w.heap.size, 12, none⟩)) rfl (by kernel_rfl) (by kernel_rfl) (by kernel_rfl) (fun _ _ _ h => h) (Or.inl ⟨by rfl, fun w hSw => by go_simp⟩) hH ?_
  simp only [Act.put, List.setIfInBounds_toArray, List.set_cons_zero, List.set_cons_succ]
  refine wpAnyH_take (i := 14) (oi := ⟨some 69, _, _, _, _, _⟩) (v := .int .i64 n.tl) rfl (by kernel_rfl) (by kernel_rfl) (by kernel_rfl) (fun _ _ _ h => h) (Or.inl ⟨by rfl, fun w hSw => by obtain ⟨q0, q1, q2, q3, q4⟩ := hSw; go_simp⟩) hH ?_
  simp only [Act.put, List.setIfInBounds_toArray, List.set_cons_zero, List.set_cons_succ]
  refine wpAnyH_take (i := 17) (oi := ⟨some 72, _, _, _, _, _⟩) (v := .pointer (some ⟨w.heap.size, 9, none⟩)) rfl (by kernel_rfl) (by kernel_rfl) (by kernel_rfl) (fun _ _ _ h => h) (Or.inl ⟨by rfl, fun w hSw => by go_simp⟩) hH ?_
  simp only [Act.put, List.setIfInBounds_toArray, List.set_cons_zero, List.set_cons_succ]
  refine wpAnyH_take (i := 18) (oi := ⟨some 73, _, _, _, _, _⟩) (v := .slice n.wa n.wl n.wc) rfl (by kernel_rfl) (by kernel_rfl) (by kernel_rfl) (fun _ _ _ h => h) (Or.inl ⟨by rfl, fun w hSw => by obtain ⟨q0, q1, q2, q3, q4⟩ := hSw; go_simp⟩) hH ?_
  simp only [Act.put, List.setIfInBounds_toArray, List.set_cons_zero, List.set_cons_succ]
  refine wpAnyH_take (i := 19) (oi := ⟨some 74, _, _, _, _, _⟩) (v := .int .i64 (n.wl : Int)) rfl (by kernel_rfl) (by kernel_rfl) (by kernel_rfl) (fun _ _ _ h => h) (Or.inl ⟨by rfl, fun w hSw => by go_simp⟩) hH ?_
  simp only [Act.put, List.setIfInBounds_toArray, List.set_cons_zero, List.set_cons_succ]
  refine wpAnyH_ready (rs := [3]) (by kernel_rfl) (by simp) ?_
  refine AllReadyH.cons rfl (fun K hK => ?_) AllReadyH.nil
  go_simp
  have hw := wbf.out (Ws.drew) n.st (by simp)
  go_wp2_with (go_at_call 29; (with_reducible refine hw.mono ?_); rintro e Yf0 ⟨u, rfl, ou, gu⟩; obtain ⟨bf0, kf0, rfl, Pf0⟩ := Pd15.new ou (sto_byt _ _) (by unfold maxLen; omega) HDf.out.own; have HCf0 : Hid _ := HDf.out.keep gu; clear ou gu)
  clear hw
  refine hK.out _ _ ⟨HCf0.out.bx.c 8, HCf0.out.bx.c 10, HCf0.out.bx.c 11, HCf0.out.bx.c 12, HCf0.out.bx.c 9⟩ (fun _ => ?_)
  clear hK K HDf
  refine wpAnyH_ready (rs := [4]) (by kernel_rfl) (by simp) ?_
  refine AllReadyH.cons rfl (fun K hK => ?_) AllReadyH.nil
  refine step_append15 (by rfl) _ _ 26 (by rfl) w.heap.size i5 Try.underlying26 hi hz0 hz1 hz2 xs 28 _ (by rfl) HCf0.out.own bf0 4 kf0 _ (by rfl) Pf0 (by decide) (by omega) HCf0.out.gr'.size ?_
  intro yf0 Zf0 oo gg _
  have HAf0 : Hid (Bs15 w Zf0 w.heap.size n yf0 32 (((((((((([] : List Int) ++ sto n.kd 2) ++ sto n.md 2) ++ sto n.ui 2) ++ sto n.gi 2) ++ sto n.tm 4) ++ sto n.ln 4) ++ sto n.at_ 4) ++ sto n.sz 8) ++ sto n.st 4)) := HCf0.out.app oo gg
  clear oo gg Pf0
  refine hK.out _ _ ⟨HAf0.out.bx.c 8, HAf0.out.bx.c 10, HAf0.out.bx.c 11, HAf0.out.bx.c 12, HAf0.out.bx.c 9⟩ (fun _ => ?_)
  clear hK K HCf0
  simp only [Act.put, List.setIfInBounds_toArray, List.set_cons_zero, List.set_cons_succ]
  refine wpAnyH_ready (rs := [7]) (by kernel_rfl) (by simp) ?_
  refine AllReadyH.cons rfl (fun K hK => ?_) AllReadyH.nil
  go_simp
  have hw := wbf.out (Zf0) n.fr (by simp)
  go_wp2_with (go_at_call 29; (with_reducible refine hw.mono ?_); rintro e Yf1 ⟨u, rfl, ou, gu⟩; obtain ⟨bf1, kf1, rfl, Pf1⟩ := Pd15.new ou (sto_byt _ _) (by unfold maxLen; omega) HAf0.out.own; have HCf1 : Hid _ := HAf0.out.keep gu; clear ou gu)
  clear hw
  refine hK.out _ _ ⟨HCf1.out.bx.c 8, HCf1.out.bx.c 10, HCf1.out.bx.c 11, HCf1.out.bx.c 12, HCf1.out.bx.c 9⟩ (fun _ => ?_)
  clear hK K HAf0
  refine wpAnyH_ready (rs := [8]) (by kernel_rfl) (by simp) ?_
  refine AllReadyH.cons rfl (fun K hK => ?_) AllReadyH.nil
  refine step_append15 (by rfl) _ _ 26 (by rfl) w.heap.size i5 Try.underlying26 hi hz0 hz1 hz2 yf0 32 _ (by rfl) HCf1.out.own bf1 4 kf1 _ (by rfl) Pf1 (by decide) (by omega) HCf1.out.gr'.size ?_
  intro yf1 Zf1 oo gg _
  have HAf1 : Hid (Bs15 w Zf1 w.heap.size n yf1 36 ((((((((((([] : List Int) ++ sto n.kd 2) ++ sto n.md 2) ++ sto n.ui 2) ++ sto n.gi 2) ++ sto n.tm 4) ++ sto n.ln 4) ++ sto n.at_ 4) ++ sto n.sz 8) ++ sto n.st 4) ++ sto n.fr 4)) := HCf1.out.app oo gg
  clear oo gg Pf1
  refine hK.out _ _ ⟨HAf1.out.bx.c 8, HAf1.out.bx.c 10, HAf1.out.bx.c 11, HAf1.out.bx.c 12, HAf1.out.bx.c 9⟩ (fun _ => ?_)
  clear hK K HCf1
  simp only [Act.put, List.setIfInBounds_toArray, List.set_cons_zero, List.set_cons_succ]
  refine wpAnyH_ready (rs := [11]) (by kernel_rfl) (by simp) ?_
  refine AllReadyH.cons rfl (fun K hK => ?_) AllReadyH.nil
  go_simp
  have hw := wbf.out (Zf1) n.of_ (by simp)
  go_wp2_with (go_at_call 29; (with_reducible refine hw.mono ?_); rintro e Yf2 ⟨u, rfl, ou, gu⟩; obtain ⟨bf2, kf2, rfl, Pf2⟩ := Pd15.new ou (sto_byt _ _) (by unfold maxLen; omega) HAf1.out.own; have HCf2 : Hid _ := HAf1.out.keep gu; clear ou gu)
  clear hw
  refine hK.out _ _ ⟨HCf2.out.bx.c 8, HCf2.out.bx.c 10, HCf2.out.bx.c 11, HCf2.out.bx.c 12, HCf2.out.bx.c 9⟩ (fun _ => ?_)
  clear hK K HAf1
  refine wpAnyH_ready (rs := [12]) (by kernel_rfl) (by simp) ?_
  refine AllReadyH.cons rfl (fun K hK => ?_) AllReadyH.nil
  refine step_append15 (by rfl) _ _ 26 (by rfl) w.heap.size i5 Try.underlying26 hi hz0 hz1 hz2 yf1 36 _ (by rfl) HCf2.out.own bf2 4 kf2 _ (by rfl) Pf2 (by decide) (by omega) HCf2.out.gr'.size ?_
  intro yf2 Zf2 oo gg _
  have HAf2 : Hid (Bs15 w Zf2 w.heap.size n yf2 40 (((((((((((([] : List Int) ++ sto n.kd 2) ++ sto n.md 2) ++ sto n.ui 2) ++ sto n.gi 2) ++ sto n.tm 4) ++ sto n.ln 4) ++ sto n.at_ 4) ++ sto n.sz 8) ++ sto n.st 4) ++ sto n.fr 4) ++ sto n.of_ 4)) := HCf2.out.app oo gg
  clear oo gg Pf2
  refine hK.out _ _ ⟨HAf2.out.bx.c 8, HAf2.out.bx.c 10, HAf2.out.bx.c 11, HAf2.out.bx.c 12, HAf2.out.bx.c 9⟩ (fun _ => ?_)
  clear hK K HCf2
  simp only [Act.put, List.setIfInBounds_toArray, List.set_cons_zero, List.set_cons_succ]
  refine wpAnyH_ready (rs := [15]) (by kernel_rfl) (by simp) ?_
  refine AllReadyH.cons rfl (fun K hK => ?_) AllReadyH.nil
  go_simp
  have hw := wbf.out (Zf2) n.tl (by simp)
  go_wp2_with (go_at_call 29; (with_reducible refine hw.mono ?_); rintro e Yf3 ⟨u, rfl, ou, gu⟩; obtain ⟨bf3, kf3, rfl, Pf3⟩ := Pd15.new ou (sto_byt _ _) (by unfold maxLen; omega) HAf2.out.own; have HCf3 : Hid _ := HAf2.out.keep gu; clear ou gu)
  clear hw
  refine hK.out _ _ ⟨HCf3.out.bx.c 8, HCf3.out.bx.c 10, HCf3.out.bx.c 11, HCf3.out.bx.c 12, HCf3.out.bx.c 9⟩ (fun _ => ?_)
  clear hK K HAf2
  refine wpAnyH_ready (rs := [16]) (by kernel_rfl) (by simp) ?_
  refine AllReadyH.cons rfl (fun K hK => ?_) AllReadyH.nil
  refine step_append15 (by rfl) _ _ 26 (by rfl) w.heap.size i5 Try.underlying26 hi hz0 hz1 hz2 yf2 40 _ (by rfl) HCf3.out.own bf3 4 kf3 _ (by rfl) Pf3 (by decide) (by omega) HCf3.out.gr'.size ?_
  intro yf3 Zf3 oo gg _
  have HAf3 : Hid (Bs15 w Zf3 w.heap.size n yf3 44 ((((((((((((([] : List Int) ++ sto n.kd 2) ++ sto n.md 2) ++ sto n.ui 2) ++ sto n.gi 2) ++ sto n.tm 4) ++ sto n.ln 4) ++ sto n.at_ 4) ++ sto n.sz 8) ++ sto n.st 4) ++ sto n.fr 4) ++ sto n.of_ 4) ++ sto n.tl 4)) := HCf3.out.app oo gg
  clear oo gg Pf3
  refine hK.out _ _ ⟨HAf3.out.bx.c 8, HAf3.out.bx.c 10, HAf3.out.bx.c 11, HAf3.out.bx.c 12, HAf3.out.bx.c 9⟩ (fun _ => ?_)
  clear hK K HCf3
  simp only [Act.put, List.setIfInBounds_toArray, List.set_cons_zero, List.set_cons_succ]
  refine wpAnyH_ready (rs := [20]) (by kernel_rfl) (by simp) ?_
  refine AllReadyH.cons rfl (fun K hK => ?_) AllReadyH.nil
  go_simp
  have hw := wbf.out (Zf3) (n.wl : Int) (by simp)
  go_wp2_with (go_at_call 29; (with_reducible refine hw.mono ?_); rintro e Yf4 ⟨u, rfl, ou, gu⟩; obtain ⟨bf4, kf4, rfl, Pf4⟩ := Pd15.new ou (sto_byt _ _) (by unfold maxLen; omega) HAf3.out.own; have HCf4 : Hid _ := HAf3.out.keep gu; clear ou gu)
  clear hw
  refine hK.out _ _ ⟨HCf4.out.bx.c 8, HCf4.out.bx.c 10, HCf4.out.bx.c 11, HCf4.out.bx.c 12, HCf4.out.bx.c 9⟩ (fun _ => ?_)
  clear hK K HAf3
  refine wpAnyH_ready (rs := [21]) (by kernel_rfl) (by simp) ?_
  refine AllReadyH.cons rfl (fun K hK => ?_) AllReadyH.nil
  refine step_append15 (by rfl) _ _ 26 (by rfl) w.heap.size i5 Try.underlying26 hi hz0 hz1 hz2 yf3 44 _ (by rfl) HCf4.out.own bf4 4 kf4 _ (by rfl) Pf4 (by decide) (by omega) HCf4.out.gr'.size ?_
  intro yf4 Zf4 oo gg _
  have HAf4 : Hid (Bs15 w Zf4 w.heap.size n yf4 48 (((((((((((((([] : List Int) ++ sto n.kd 2) ++ sto n.md 2) ++ sto n.ui 2) ++ sto n.gi 2) ++ sto n.tm 4) ++ sto n.ln 4) ++ sto n.at_ 4) ++ sto n.sz 8) ++ sto n.st 4) ++ sto n.fr 4) ++ sto n.of_ 4) ++ sto n.tl 4) ++ sto n.wl 4)) := HCf4.out.app oo gg
  clear oo gg Pf4
  refine hK.out _ _ ⟨HAf4.out.bx.c 8, HAf4.out.bx.c 10, HAf4.out.bx.c 11, HAf4.out.bx.c 12, HAf4.out.bx.c 9⟩ (fun _ => ?_)
  clear hK K HCf4
  simp only [Act.put, List.setIfInBounds_toArray, List.set_cons_zero, List.set_cons_succ]
  refine wpAnyH_ready (rs := [22]) (by kernel_rfl) (by simp) ?_
  refine AllReadyH.cons rfl (fun K hK => ?_) AllReadyH.nil
  go_simp
  refine hK.out _ _ ⟨HAf4.out.bx.c 8, HAf4.out.bx.c 10, HAf4.out.bx.c 11, HAf4.out.bx.c 12, HAf4.out.bx.c 9⟩ (fun _ => ?_)
  clear hK K
  refine wpAnyH_done (by kernel_rfl) ?_ _
  have hwl : n.wl ≤ 65536 := (HR.out.k1 HKK.out).2.2.2.2.2.1
  go_wp2
  go_loopw [3, 4] (fun bv_ i wr => ∃ j : Nat, j ≤ n.wl ∧ i = .int .i64 j ∧ Hid (Bs15 w wr w.heap.size n bv_ (48 + 4 * j) ((((((((((((((([] : List Int) ++ sto n.kd 2) ++ sto n.md 2) ++ sto n.ui 2) ++ sto n.gi 2) ++ sto n.tm 4) ++ sto n.ln 4) ++ sto n.at_ 4) ++ sto n.sz 8) ++ sto n.st 4) ++ sto n.fr 4) ++ sto n.of_ 4) ++ sto n.tl 4) ++ sto n.wl 4) ++ wds (n.ws.take j)))) (fun bv_ i _ => n.wl - (intOf i).toNat)
  case atStart => exact ⟨0, Nat.zero_le _, rfl, by simpa [wds] using HAf4⟩
  case round =>
    obtain ⟨j, hj, rfl, HJ⟩ := hrel
    clear HAf4
    have c9 := HJ.out.bx.c 9
    simp only [Nd.cells, List.getElem?_cons_zero, List.getElem?_cons_succ] at c9
    by_cases hlt : j < n.wl
    · have hx := HRW.out.len_eq
      obtain ⟨bw, off, hwa, hcw⟩ := (HRW.out.grown HJ.out.gr').cells (by omega)
      have hcj := hcw j hlt
      have hjl : j < n.ws.length := by omega
      have hxj := (HR.out.k1 HKK.out).2.2.2.2.2.2 (n.ws.getD j 0) (by rw [List.getD_eq_getElem?_getD, List.getElem?_eq_getElem hjl]; exact List.getElem_mem hjl)
      have htk : wds (n.ws.take (j + 1)) = wds (n.ws.take j) ++ sto (n.ws.getD j 0) 4 := by
        rw [List.take_succ_eq_append_getElem hjl, wds_snoc]
        simp [List.getD_eq_getElem?_getD, List.getElem?_eq_getElem hjl]
      have HT : Hid _ := htk
      rw [hwa] at c9
      clear hwa
      clear hcw hx hjl htk
      generalize n.ws.getD j 0 = x at *
      go_wp2_with fail
      refine (four15_any x _ (by omega) (by omega)).mono ?_
      rintro e Vr ⟨u, rfl, ou, gu⟩
      obtain ⟨ar, cr, rfl, Rr, nr, _, _⟩ := own_bytes ou (sto_byt _ _) (by unfold maxLen; omega)
      have Hr : Hid _ := HJ.out.keep gu
      clear gu ou HJ c9 hcj hxj
      simp only
      go_wp2_with (at_builtin; refine wpList_append8 rfl _ _ 26 rfl w.heap.size i5 Try.underlying26 hi hz0 hz1 hz2 _ (48 + 4 * j) _ rfl Hr.out.own _ 4 cr (sto x 4) rfl Rr nr (by omega) Hr.out.gr'.size ?_)
      intro xr Wr orr gr
      have HJ2 : Hid (Bs15 w Wr w.heap.size n xr (48 + 4 * (j + 1)) ((((((((((((((([] : List Int) ++ sto n.kd 2) ++ sto n.md 2) ++ sto n.ui 2) ++ sto n.gi 2) ++ sto n.tm 4) ++ sto n.ln 4) ++ sto n.at_ 4) ++ sto n.sz 8) ++ sto n.st 4) ++ sto n.fr 4) ++ sto n.of_ 4) ++ sto n.tl 4) ++ sto n.wl 4) ++ wds (n.ws.take (j + 1)))) := by
        have h9 : Bs15 w Wr w.heap.size n xr (48 + 4 * j + 4) ((((((((((((((([] : List Int) ++ sto n.kd 2) ++ sto n.md 2) ++ sto n.ui 2) ++ sto n.gi 2) ++ sto n.tm 4) ++ sto n.ln 4) ++ sto n.at_ 4) ++ sto n.sz 8) ++ sto n.st 4) ++ sto n.fr 4) ++ sto n.of_ 4) ++ sto n.tl 4) ++ sto n.wl 4) ++ wds (n.ws.take j) ++ sto x 4) := Hr.out.app (by rw [bv_append]; exact orr) gr
        rw [HT.out, ← List.append_assoc]
        exact h9
      clear orr gr Hr Rr nr
      go_wp2
      go_roundw
      case rel => first | exact ⟨j + 1, by omega, by go_num, HJ2⟩ | exact ⟨_, j + 1, by omega, by go_num, HJ2⟩ | exact ⟨_, _, rfl, j + 1, by omega, by go_num, HJ2⟩ | (trace_state; fail)
      case measure => simp [intOf]; omega
    · obtain rfl : j = n.wl := by omega
      have hx := HRW.out.len_eq
      have h9 := HJ.out
      rw [List.take_of_length_le (by omega)] at h9
      have HJ3 : Hid _ := h9
      clear h9
      clear HJ
      have hE : enb15 n = (((((((((((((([] : List Int) ++ sto n.kd 2) ++ sto n.md 2) ++ sto n.ui 2) ++ sto n.gi 2) ++ sto n.tm 4) ++ sto n.ln 4) ++ sto n.at_ 4) ++ sto n.sz 8) ++ sto n.st 4) ++ sto n.fr 4) ++ sto n.of_ 4) ++ sto n.tl 4) ++ sto n.wl 4) ++ wds n.ws := by unfold enb15; rw [if_pos HKK.out]; unfold kb1 hdb15; simp only [List.append_assoc]
      have hLn : ((((((((((((((([] : List Int) ++ sto n.kd 2) ++ sto n.md 2) ++ sto n.ui 2) ++ sto n.gi 2) ++ sto n.tm 4) ++ sto n.ln 4) ++ sto n.at_ 4) ++ sto n.sz 8) ++ sto n.st 4) ++ sto n.fr 4) ++ sto n.of_ 4) ++ sto n.tl 4) ++ sto n.wl 4) ++ wds n.ws).length = 48 + 4 * n.wl := by simp only [List.length_append, sto_length, List.length_nil, wds_len]; omega
      have HEE : Hid _ := And.intro hE hLn
      clear hE hLn hx
      go_wp2
      go_ret
      obtain ⟨af, cff, ef, Rf, nf, _, _⟩ := own_bytes HJ3.out.own (by rw [← HEE.out.1]; exact enb15_byt n) (by unfold maxLen; omega)
      rw [HEE.out.1, HEE.out.2]
      exact ⟨af, cff, by rw [← ef]; rfl, Rf, nf, HJ3.out.gr'⟩
end Go.Proofs.Ytiafbnpbbjkdbaa
