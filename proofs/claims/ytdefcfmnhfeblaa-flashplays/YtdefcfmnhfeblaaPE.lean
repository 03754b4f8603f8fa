/- The program's Erase. -/
import Derived.Test.YtdefcfmnhfeblaaPD
namespace Go.Proofs.Ytdefcfmnhfeblaa
open Go.RowKit
set_option linter.unusedSimpArgs false
set_option linter.unusedVariables false

set_option maxHeartbeats 1000000 in
theorem perase_range {w : World} {fb bb db wb : Nat} {m : Fm} {pw left : Int} {aT : Option Addr} {cT : Nat} {T : List Int} {k : Nat} (h : PF w fb bb db wb m pw left aT cT T) (hg : m.Good k) (sec : Int) (hp : inL m.W.length sec = false) :
    Calls Try.prog 20 #[.pointer (some ⟨fb, 0, none⟩), .int .i64 sec] w fun e w' => e = .returned (.int .i64 9) ∧ ∃ n, w' = w.drewN n := by
  have hs := hg.s
  have hlW := hg.lW
  have c5 : w.cell? ⟨fb, 5, none⟩ = some (.slice (some ⟨wb, 0, none⟩) m.W.length m.W.length) := h.box.c 5
  have hc := hassector_any fb _ _ _ sec w c5 (by omega)
  rw [hp] at hc
  clear h hlW hg hs
  go_enter Try.func20, Try.ntmps20
  go_wp2_with (go_at_call 40; refine hc.mono ?_; rintro e w' ⟨rfl, rfl⟩)
  go_ret
  exact ⟨rfl, 0, rfl⟩
set_option maxHeartbeats 2000000 in
theorem perase_off {w : World} {fb bb db wb : Nat} {m : Fm} {left : Int} {aT : Option Addr} {cT : Nat} {T : List Int} {k : Nat} (h : PF w fb bb db wb m 0 left aT cT T) (hg : m.Good k) (i : Nat) (hi : i < m.W.length) :
    Calls Try.prog 20 #[.pointer (some ⟨fb, 0, none⟩), .int .i64 i] w fun e w' => e = .returned (.int .i64 40) ∧ ∃ n, w' = w.drewN n := by
  obtain ⟨N, hN⟩ : ∃ N, m.p * m.b = N := ⟨_, rfl⟩
  have hN0 : 0 < N := hN ▸ Nat.mul_pos hg.p.1 hg.b.1
  have hs := hg.s
  have hp := hg.p
  have hsp := hg.sp
  have hspb := hg.spb
  have hlW := hg.lW
  have hlB := hg.lB
  have hlD := hg.lD
  have hfB := mul_fit (b := N) (show i < m.s from hlW ▸ hi)
  rw [← hN, ← Nat.mul_assoc m.s, ← hlB, hN] at hfB
  have hfD := mul_fit (b := m.p) (show i < m.s from hlW ▸ hi)
  rw [← hlD] at hfD
  have c1 : w.cell? ⟨fb, 1, none⟩ = some (.int .i64 m.p) := h.box.c 1
  have c3 : w.cell? ⟨fb, 3, none⟩ = some (.slice (some ⟨bb, 0, none⟩) m.B.length m.B.length) := h.box.c 3
  have c4 : w.cell? ⟨fb, 4, none⟩ = some (.slice (some ⟨db, 0, none⟩) m.D.length m.D.length) := h.box.c 4
  have c5 : w.cell? ⟨fb, 5, none⟩ = some (.slice (some ⟨wb, 0, none⟩) m.W.length m.W.length) := h.box.c 5
  have hc := hassector_any fb _ _ _ (i : Int) w c5 (by omega)
  rw [inL_nat hi] at hc
  have hP : ∀ W, _ := fun W => pieceb_any bb m.B.length i N (i * N) W rfl (by omega) hN0 (by omega) (by omega)
  have hQ : ∀ W, _ := fun W => pieced_any db m.D.length i m.p (i * m.p) W rfl (by omega) hp.1 (by omega) (by omega)
  have hR : ∀ n, _ := fun n => sectorbytes_any fb m.p m.b N (w.drewN n) ((h.drewN n).box.c 1) ((h.drewN n).box.c 2) hN (by omega)
  have HP : Hid _ := And.intro hP (And.intro hQ hR)
  have HH : Hid _ := h
  clear h hlD hg hsp hspb hlB hP hQ hR hN hfB hfD hlW c5
  go_enter Try.func20, Try.ntmps20
  go_wp2_with (go_at_call 40; refine hc.mono ?_; rintro e w' ⟨rfl, rfl⟩)
  go_quiet (first | (go_at_call 36; exact quiet_eq (HP.out.1 _)) | (go_at_call 42; exact quiet_eq (HP.out.2.1 _)) | (go_at_call 41; exact Calls.quiet_of (HP.out.2.2 _)))
  go_wp2_with fail
  refine (step_off fb _ _ _ _ _ _ _ _ _ _ (HH.out.drewN _).box).mono ?_
  rintro e w1 ⟨rfl, rfl⟩
  go_wp2
  go_ret
  exact ⟨rfl, _, rfl⟩
theorem splice_ffs (B : List Int) (lo n : Nat) : splice (bv B) lo (List.replicate n (.int .u8 255)) = bv (B.take lo ++ ffs n ++ B.drop (lo + n)) := by
  have e : List.replicate n (Value.int .u8 255) = bv (ffs n) := by unfold bv ffs; simp
  rw [e, splice_bv]
  simp [ffs]
theorem splice_drg (D : List Bool) (a : Nat) (b : Bool) (k : Nat) : splice (D.map Value.bool) a (List.replicate k (.bool b)) = (drg D a b k).map Value.bool := by
  unfold splice drg; simp [List.map_take, List.map_drop]
theorem cut3 (B : List Int) (lo n : Nat) : B.take lo ++ (B.drop lo).take n ++ B.drop (lo + n) = B := by
  rw [List.append_assoc, ← List.drop_drop, List.take_append_drop, List.take_append_drop]
set_option maxHeartbeats 2000000 in
theorem perase_done {w : World} {fb bb db wb : Nat} {m : Fm} {pw left pw' left' : Int} {aT : Option Addr} {cT : Nat} {T : List Int} {k : Nat} (h : PF w fb bb db wb m pw left aT cT T) (hg : m.Good k) (hk : k < 1000000) (i : Nat) (hi : i < m.W.length)
    (hS : ∀ W x0 x1 x2 x3 x4 x5 x9, Box W fb 63 [x0, x1, x2, x3, x4, x5, .int .i64 m.ops, .int .i64 pw, .int .i64 left, x9] → Calls Try.prog 37 #[.pointer (some ⟨fb, 0, none⟩)] W fun e w' => e = .returned (.int .i64 1) ∧ Fd W w' fb 63 [x0, x1, x2, x3, x4, x5, .int .i64 (m.ops + 1), .int .i64 pw', .int .i64 left', x9]) :
    Calls Try.prog 20 #[.pointer (some ⟨fb, 0, none⟩), .int .i64 i] w fun e w' => e = .returned (.int .i64 0) ∧ Chg (foot fb bb db wb) w w' ∧ PF w' fb bb db wb { m with B := m.B.take (i * (m.p * m.b)) ++ ffs (m.p * m.b) ++ m.B.drop (i * (m.p * m.b) + m.p * m.b), D := drg m.D (i * m.p) false m.p, W := m.W.set i (m.W.getD i 0 + 1), ops := m.ops + 1 } pw' left' aT cT T := by
  obtain ⟨N, hN⟩ : ∃ N, m.p * m.b = N := ⟨_, rfl⟩
  have hN0 : 0 < N := hN ▸ Nat.mul_pos hg.p.1 hg.b.1
  have hs := hg.s
  have hp := hg.p
  have hsp := hg.sp
  have hspb := hg.spb
  have hlW := hg.lW
  have hlB := hg.lB
  have hlD := hg.lD
  have hfB := mul_fit (b := N) (show i < m.s from hlW ▸ hi)
  rw [← hN, ← Nat.mul_assoc m.s, ← hlB, hN] at hfB
  have hfD := mul_fit (b := m.p) (show i < m.s from hlW ▸ hi)
  rw [← hlD] at hfD
  have c1 : w.cell? ⟨fb, 1, none⟩ = some (.int .i64 m.p) := h.box.c 1
  have c3 : w.cell? ⟨fb, 3, none⟩ = some (.slice (some ⟨bb, 0, none⟩) m.B.length m.B.length) := h.box.c 3
  have c4 : w.cell? ⟨fb, 4, none⟩ = some (.slice (some ⟨db, 0, none⟩) m.D.length m.D.length) := h.box.c 4
  have c5 : w.cell? ⟨fb, 5, none⟩ = some (.slice (some ⟨wb, 0, none⟩) m.W.length m.W.length) := h.box.c 5
  have hc := hassector_any fb _ _ _ (i : Int) w c5 (by omega)
  rw [inL_nat hi] at hc
  have hP : ∀ W, _ := fun W => pieceb_any bb m.B.length i N (i * N) W rfl (by omega) hN0 (by omega) (by omega)
  have hQ : ∀ W, _ := fun W => pieced_any db m.D.length i m.p (i * m.p) W rfl (by omega) hp.1 (by omega) (by omega)
  have hR : ∀ n, _ := fun n => sectorbytes_any fb m.p m.b N (w.drewN n) ((h.drewN n).box.c 1) ((h.drewN n).box.c 2) hN (by omega)
  have HP : Hid _ := And.intro hP (And.intro hQ hR)
  have HH : Hid _ := h
  have HS : Hid _ := hS
  have hWi : m.W.getD i 0 ∈ m.W := by
    rw [List.getD_eq_getElem?_getD, List.getElem?_eq_getElem hi]; simp
  have hWb := hg.W _ hWi
  have cw : (m.W.map (Value.int .i64))[i]? = some (.int .i64 (m.W.getD i 0)) := by
    rw [List.getElem?_map, List.getD_eq_getElem?_getD, List.getElem?_eq_getElem hi]; rfl
  rw [hN]
  generalize m.W.getD i 0 = wi at hWb cw ⊢
  have hww : IntKind.i64.wrap (wi + 1) = wi + 1 := by rw [IntKind.wrap_i64]; omega
  have HD : Hid _ := And.intro hg (And.intro hN (And.intro hsp (And.intro hspb (And.intro hlB (And.intro hfB (And.intro hfD (And.intro hlD cw)))))))
  clear h hlD hg hsp hspb hlB hP hQ hR hN hfB hfD hlW c5 hS hWi cw hWb
  go_enter Try.func20, Try.ntmps20
  go_wp2_with (go_at_call 40; refine hc.mono ?_; rintro e w' ⟨rfl, rfl⟩)
  go_quiet (first | (go_at_call 36; exact quiet_eq (HP.out.1 _)) | (go_at_call 42; exact quiet_eq (HP.out.2.1 _)) | (go_at_call 41; exact Calls.quiet_of (HP.out.2.2 _)))
  go_wp2_with fail
  have h0 := HH.out.drewN nq
  refine (HS.out _ _ _ _ _ _ _ _ h0.box).mono ?_
  rintro e w1 ⟨rfl, hF1⟩
  have hC1 : Chg (fun k => k = fb) (w.drewN nq) w1 := hF1.chg rfl
  have hCd : Chg (fun k => k = fb) w (w.drewN nq) := (Chg.refl _ w).drewN nq
  obtain ⟨hg, hN, hsp, hspb, hlB, hfB, hfD, hlD, cwi⟩ := HD.out
  have hws := hC1.box h0.ws (Ne.symm h0.n3)
  have d5 : w1.cell? ⟨fb, 5, none⟩ = some (.slice (some ⟨wb, 0, none⟩) m.W.length m.W.length) := hF1.box.c 5
  have cw : w1.cell? ⟨wb, i, none⟩ = some (.int .i64 wi) := by rw [hws.c i]; exact cwi
  have fw := hws.f i
  have hC2 : Chg (fun k => k = wb) w1 (w1.setCell ⟨wb, i, none⟩ (.int .i64 (wi + 1))) := Chg.set rfl
  have hw2 := hws.set i (.int .i64 (wi + 1))
  rw [← List.map_set] at hw2
  have hb2 := hC2.box (hC1.box h0.bs (Ne.symm h0.n1)) h0.n5
  have hd2 := hC2.box (hC1.box h0.ds (Ne.symm h0.n2)) h0.n6
  have hf2 := hC2.box hF1.box h0.n3
  have hr2 := hC2.row (hC1.row h0.row fun b o e => (h0.nT b o e).1) (fun b o e => (h0.nT b o e).2.2.2)
  have hL := fillb_any (some ⟨bb, i * N, none⟩) bb (i * N) N (m.B.length - i * N) _ 255 _ hb2 (fun _ => rfl) (by rw [bv_length]; omega) (by omega)
  have HL : Hid _ := And.intro h0 (And.intro hCd (And.intro hC1 (And.intro hC2 (And.intro hw2 (And.intro hd2 (And.intro hf2 hr2))))))
  clear h0 hCd hC1 hF1 hg hN hsp hspb hlB hfB hfD hlD hws hC2 hw2 hb2 hd2 hf2 hr2 c1 c3 c4 hc HP HS cwi
  go_wp2_with fail
  with_reducible refine hL.mono ?_
  rintro e w3 ⟨rfl, hF3⟩
  obtain ⟨h0, hCd, hC1, hC2, hw2, hd2, hf2, hr2⟩ := HL.out
  obtain ⟨hg, hN, hsp, hspb, hlB, hfB, hfD, hlD, cwi⟩ := HD.out
  have hd3 := hF3.box' hd2 (Ne.symm h0.n4)
  have hM := filld_any (some ⟨db, i * m.p, none⟩) db (i * m.p) m.p (m.D.length - i * m.p) _ false _ hd3 (fun _ => rfl) (by rw [List.length_map]; omega) (by omega)
  have H3 : Hid _ := hF3
  clear h0 hCd hC1 hC2 hw2 hd2 hf2 hr2 hg hN hsp hspb hlB hfB hfD hlD hd3 hF3 hL cwi d5 cw fw
  go_wp2_with fail
  with_reducible refine hM.mono ?_
  rintro e w4 ⟨rfl, hF4⟩
  go_wp2
  go_ret
  obtain ⟨h0, hCd, hC1, hC2, hw2, hd2, hf2, hr2⟩ := HL.out
  obtain ⟨hg, hN, hsp, hspb, hlB, hfB, hfD, hlD, cwi⟩ := HD.out
  have hF3 := H3.out
  have hb4 := hF4.box' hF3.box h0.n4
  rw [splice_ffs] at hb4
  have hd4 := hF4.box
  rw [splice_drg] at hd4
  have hlen : (m.B.take (i * N) ++ ffs N ++ m.B.drop (i * N + N)).length = m.B.length := by simp [ffs]; omega
  have hw4 := hF4.box' (hF3.box' hw2 (Ne.symm h0.n5)) (Ne.symm h0.n6)
  have hf4 := hF4.box' (hF3.box' hf2 h0.n1) h0.n2
  have hr4 := (hF4.chg (F := fun k => k = db) rfl).row ((hF3.chg (F := fun k => k = bb) rfl).row hr2 fun b o e => (h0.nT b o e).2.1) fun b o e => (h0.nT b o e).2.2.1
  refine ⟨rfl, ((((hCd.mono fun k e => Or.inl e).trans (hC1.mono fun k e => Or.inl e)).trans (hC2.mono fun k e => Or.inr (Or.inr (Or.inr e)))).trans (hF3.chg (F := foot fb bb db wb) (Or.inr (Or.inl rfl)))).trans (hF4.chg (F := foot fb bb db wb) (Or.inr (Or.inr (Or.inl rfl)))), ⟨?_, hb4, hd4, hw4, byt_lay h0.byt (ffs_byt _), hr4, h0.n1, h0.n2, h0.n3, h0.n4, h0.n5, h0.n6, h0.nT⟩⟩
  simp only [hlen, List.length_set, drg_len _ hfD]
  exact hf4
set_option maxHeartbeats 2000000 in
theorem perase_torn {w : World} {fb bb db wb : Nat} {m : Fm} {pw left : Int} {aT : Option Addr} {cT : Nat} {T : List Int} {k : Nat} (h : PF w fb bb db wb m pw left aT cT T) (hg : m.Good k) (hk : k < 1000000) (i : Nat) (hi : i < m.W.length)
    (hS : ∀ W x0 x1 x2 x3 x4 x5 x9, Box W fb 63 [x0, x1, x2, x3, x4, x5, .int .i64 m.ops, .int .i64 pw, .int .i64 left, x9] → Calls Try.prog 37 #[.pointer (some ⟨fb, 0, none⟩)] W fun e w' => e = .returned (.int .i64 2) ∧ Fd W w' fb 63 [x0, x1, x2, x3, x4, x5, .int .i64 (m.ops + 1), .int .i64 0, .int .i64 0, x9]) :
    Calls Try.prog 20 #[.pointer (some ⟨fb, 0, none⟩), .int .i64 i] w fun e w' => e = .returned (.int .i64 40) ∧ Chg (foot fb bb db wb) w w' ∧ PF w' fb bb db wb { m with B := m.B.take (i * (m.p * m.b)) ++ ovr ((m.B.drop (i * (m.p * m.b))).take (m.p * m.b)) T ++ m.B.drop (i * (m.p * m.b) + m.p * m.b), D := drg m.D (i * m.p) true m.p, W := m.W.set i (m.W.getD i 0 + 1), ops := m.ops + 1 } 0 0 none 0 [] := by
  obtain ⟨N, hN⟩ : ∃ N, m.p * m.b = N := ⟨_, rfl⟩
  have hN0 : 0 < N := hN ▸ Nat.mul_pos hg.p.1 hg.b.1
  have hs := hg.s
  have hp := hg.p
  have hsp := hg.sp
  have hspb := hg.spb
  have hlW := hg.lW
  have hlB := hg.lB
  have hlD := hg.lD
  have hfB := mul_fit (b := N) (show i < m.s from hlW ▸ hi)
  rw [← hN, ← Nat.mul_assoc m.s, ← hlB, hN] at hfB
  have hfD := mul_fit (b := m.p) (show i < m.s from hlW ▸ hi)
  rw [← hlD] at hfD
  have c1 : w.cell? ⟨fb, 1, none⟩ = some (.int .i64 m.p) := h.box.c 1
  have c3 : w.cell? ⟨fb, 3, none⟩ = some (.slice (some ⟨bb, 0, none⟩) m.B.length m.B.length) := h.box.c 3
  have c4 : w.cell? ⟨fb, 4, none⟩ = some (.slice (some ⟨db, 0, none⟩) m.D.length m.D.length) := h.box.c 4
  have c5 : w.cell? ⟨fb, 5, none⟩ = some (.slice (some ⟨wb, 0, none⟩) m.W.length m.W.length) := h.box.c 5
  have hc := hassector_any fb _ _ _ (i : Int) w c5 (by omega)
  rw [inL_nat hi] at hc
  have hP : ∀ W, _ := fun W => pieceb_any bb m.B.length i N (i * N) W rfl (by omega) hN0 (by omega) (by omega)
  have hQ : ∀ W, _ := fun W => pieced_any db m.D.length i m.p (i * m.p) W rfl (by omega) hp.1 (by omega) (by omega)
  have hR : ∀ n, _ := fun n => sectorbytes_any fb m.p m.b N (w.drewN n) ((h.drewN n).box.c 1) ((h.drewN n).box.c 2) hN (by omega)
  have HP : Hid _ := And.intro hP (And.intro hQ hR)
  have HH : Hid _ := h
  have HS : Hid _ := hS
  have hWi : m.W.getD i 0 ∈ m.W := by
    rw [List.getD_eq_getElem?_getD, List.getElem?_eq_getElem hi]; simp
  have hWb := hg.W _ hWi
  have cw : (m.W.map (Value.int .i64))[i]? = some (.int .i64 (m.W.getD i 0)) := by
    rw [List.getElem?_map, List.getD_eq_getElem?_getD, List.getElem?_eq_getElem hi]; rfl
  rw [hN]
  generalize m.W.getD i 0 = wi at hWb cw ⊢
  have hww : IntKind.i64.wrap (wi + 1) = wi + 1 := by rw [IntKind.wrap_i64]; omega
  have HD : Hid _ := And.intro hg (And.intro hN (And.intro hsp (And.intro hspb (And.intro hlB (And.intro hfB (And.intro hfD (And.intro hlD cw)))))))
  clear h hlD hg hsp hspb hlB hP hQ hR hN hfB hfD hlW c5 hS hWi cw hWb
  go_enter Try.func20, Try.ntmps20
  go_wp2_with (go_at_call 40; refine hc.mono ?_; rintro e w' ⟨rfl, rfl⟩)
  go_quiet (first | (go_at_call 36; exact quiet_eq (HP.out.1 _)) | (go_at_call 42; exact quiet_eq (HP.out.2.1 _)) | (go_at_call 41; exact Calls.quiet_of (HP.out.2.2 _)))
  go_wp2_with fail
  have h0 := HH.out.drewN nq
  refine (HS.out _ _ _ _ _ _ _ _ h0.box).mono ?_
  rintro e w1 ⟨rfl, hF1⟩
  have hC1 : Chg (fun k => k = fb) (w.drewN nq) w1 := hF1.chg rfl
  have hCd : Chg (fun k => k = fb) w (w.drewN nq) := (Chg.refl _ w).drewN nq
  obtain ⟨hg, hN, hsp, hspb, hlB, hfB, hfD, hlD, cwi⟩ := HD.out
  have hws := hC1.box h0.ws (Ne.symm h0.n3)
  have d5 : w1.cell? ⟨fb, 5, none⟩ = some (.slice (some ⟨wb, 0, none⟩) m.W.length m.W.length) := hF1.box.c 5
  have cw : w1.cell? ⟨wb, i, none⟩ = some (.int .i64 wi) := by rw [hws.c i]; exact cwi
  have fw := hws.f i
  have hC2 : Chg (fun k => k = wb) w1 (w1.setCell ⟨wb, i, none⟩ (.int .i64 (wi + 1))) := Chg.set rfl
  have hw2 := hws.set i (.int .i64 (wi + 1))
  rw [← List.map_set] at hw2
  have hb2 := hC2.box (hC1.box h0.bs (Ne.symm h0.n1)) h0.n5
  have hd2 := hC2.box (hC1.box h0.ds (Ne.symm h0.n2)) h0.n6
  have hf2 := hC2.box hF1.box h0.n3
  have hr2 := hC2.row (hC1.row h0.row fun b o e => (h0.nT b o e).1) (fun b o e => (h0.nT b o e).2.2.2)
  have hL := tear_any fb bb (i * N) N (m.B.length - i * N) _ _ _ _ _ _ _ _ _ _ aT cT T _ hf2 hb2 h0.n1 hr2 (by omega)
  have HL : Hid _ := And.intro h0 (And.intro hCd (And.intro hC1 (And.intro hC2 (And.intro hw2 hd2))))
  clear h0 hCd hC1 hF1 hg hN hsp hspb hlB hfB hfD hlD hws hC2 hw2 hb2 hd2 hf2 hr2 c1 c3 c4 hc HP HS cwi
  go_wp2_with fail
  with_reducible refine hL.mono ?_
  rintro e w3 ⟨rfl, hf3, hb3, hC3⟩
  obtain ⟨h0, hCd, hC1, hC2, hw2, hd2⟩ := HL.out
  obtain ⟨hg, hN, hsp, hspb, hlB, hfB, hfD, hlD, cwi⟩ := HD.out
  have hd3 := hC3.box hd2 (by simp only [not_or]; exact ⟨Ne.symm h0.n2, Ne.symm h0.n4⟩)
  have hM := filld_any (some ⟨db, i * m.p, none⟩) db (i * m.p) m.p (m.D.length - i * m.p) _ true _ hd3 (fun _ => rfl) (by rw [List.length_map]; omega) (by omega)
  have H3 : Hid _ := And.intro hf3 (And.intro hb3 hC3)
  clear h0 hCd hC1 hC2 hw2 hd2 hg hN hsp hspb hlB hfB hfD hlD hd3 hf3 hb3 hC3 hL cwi d5 cw fw
  go_wp2_with fail
  with_reducible refine hM.mono ?_
  rintro e w4 ⟨rfl, hF4⟩
  go_wp2
  go_ret
  obtain ⟨h0, hCd, hC1, hC2, hw2, hd2⟩ := HL.out
  obtain ⟨hg, hN, hsp, hspb, hlB, hfB, hfD, hlD, cwi⟩ := HD.out
  obtain ⟨hf3, hb3, hC3⟩ := H3.out
  have hb4 := hF4.box' hb3 h0.n4
  have ht := tear_page (B := m.B) (X := (m.B.drop (i * N)).take N) (T := T) (lo := i * N) (n := N) (by simp; omega) (by omega)
  rw [cut3] at ht
  rw [ht] at hb4
  have hd4 := hF4.box
  rw [splice_drg] at hd4
  have hlen : (m.B.take (i * N) ++ ovr ((m.B.drop (i * N)).take N) T ++ m.B.drop (i * N + N)).length = m.B.length := by simp only [List.length_append, ovr_len, List.length_take, List.length_drop]; omega
  have hw4 := hF4.box' (hC3.box hw2 (by simp only [not_or]; exact ⟨Ne.symm h0.n3, Ne.symm h0.n5⟩)) (Ne.symm h0.n6)
  have hf4 := hF4.box' hf3 h0.n2
  refine ⟨rfl, ((((hCd.mono fun k e => Or.inl e).trans (hC1.mono fun k e => Or.inl e)).trans (hC2.mono fun k e => Or.inr (Or.inr (Or.inr e)))).trans (hC3.mono fun k e => match e with | .inl x => .inl x | .inr x => .inr (.inl x))).trans (hF4.chg (F := foot fb bb db wb) (Or.inr (Or.inr (Or.inl rfl)))), ⟨?_, hb4, hd4, hw4, byt_lay h0.byt (ovr_byt ((h0.byt.drop _).take _) h0.row.byt), Row.none0 _, h0.n1, h0.n2, h0.n3, h0.n4, h0.n5, h0.n6, fun _ _ e => by cases e⟩⟩
  simp only [hlen, List.length_set, drg_len _ hfD]
  exact hf4
end Go.Proofs.Ytdefcfmnhfeblaa
