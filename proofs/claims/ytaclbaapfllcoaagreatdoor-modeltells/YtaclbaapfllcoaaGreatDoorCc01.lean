/- A node's fields, a link's tg: the program's. A node's fields: the document's. The program's walks, where nothing is wrong. -/
import Derived.Test.YtaclbaapfllcoaaGreatDoorB10
import Derived.Test.YtaclbaapfllcoaaGreatDoorB21
import Derived.Test.YtaclbaapfllcoaaGreatDoorB33
import Derived.Test.YtaclbaapfllcoaaGreatDoorB34
namespace Go.Proofs.YtaclbaapfllcoaaGreatDoor
open Go.RowKit
set_option maxRecDepth 100000
set_option linter.unusedSimpArgs false
set_option linter.unusedVariables false
theorem tk {P : Program} {md : Region.Mode} {ops : Array Oper} {Q : Exit → Act → World → Prop} {S : World → Prop} {i : Nat} {oi : Oper} {v : Value} {fuel : Nat} {listed : Array Bool} {a : Act} {w : World} (hi : ops[i]? = some oi) (hy : YieldsIf P ops S oi v a) (hS : S w)
 (h : wpAnyH P md ops Q S fuel (listed.setIfInBounds i true) (a.put oi.dst v) w) (hs : Region.noSelect ops = true := by kernel_rfl) (hf : Region.free md ops listed i = true := by kernel_rfl) (hr : (Region.ready md ops listed).contains i = true := by kernel_rfl)
 (hQ : ∀ c a w, Q (.panic c) (a.put oi.dst v) w → Q (.panic c) a w := by exact fun _ _ _ h => h) : wpAnyH P md ops Q S (fuel + 1) listed a w := wpAnyH_take hi hs hf hr hQ hy hS h
theorem xga (w : World) (o : Obj) (r : Option Nat) : w.grownBy (w.alloc o) r := World.grownBy_alloc w o r
theorem xai {a b : Prop} (h : a) (k : b) : a ∧ b := ⟨h, k⟩
theorem xgt {a b c : World} {r : Option Nat} (h : a.grownBy b r) (k : b.grownBy c r) : a.grownBy c r := grown_trans h k

theorem stat_size : (Tryz.prog.info? 57).map (·.size) = some 9 := by kernel_rfl
theorem stat_here {P : Program} {w : World} {ops : Array Oper} {rest : List Oper} {a : Act} {Q : Exit → Act → World → Prop} {dst : Option Nat} {x y : Operand} {type : TypeId} {pos : String} {after : Array Edge} {guard : Option (Nat × Bool)}
  (h : wpList P ops Q (⟨dst, .store 57 x y, type, pos, after, guard⟩ :: rest) a w) : wpList P ops Q (⟨dst, .store 57 x y, type, pos, after, guard⟩ :: rest) a w := h
theorem bx9 {W : World} {g : Nat} {T : TypeId} {x0 x1 x2 x3 x4 x5 x6 x7 x8 : Value} (h : Bx W g T [x0, x1, x2, x3, x4, x5, x6, x7, x8]) : W.cell? ⟨g, 0, none⟩ = some x0 ∧ W.cell? ⟨g, 1, none⟩ = some x1 ∧ W.cell? ⟨g, 2, none⟩ = some x2 ∧ W.cell? ⟨g, 3, none⟩ = some x3 ∧ W.cell? ⟨g, 4, none⟩ = some x4 ∧ W.cell? ⟨g, 5, none⟩ = some x5 ∧ W.cell? ⟨g, 6, none⟩ = some x6 ∧ W.cell? ⟨g, 7, none⟩ = some x7 ∧ W.cell? ⟨g, 8, none⟩ = some x8 := ⟨h.c 0, h.c 1, h.c 2, h.c 3, h.c 4, h.c 5, h.c 6, h.c 7, h.c 8⟩
/-- what sz_ tells -/
def szP (X : NoV) : Int := if X.k = 2 then (X.kl : Int) else if X.k = 3 then (X.target.size : Int) else X.size
/-- a stat, as a value -/
def stV (i k mo uid gid ti sz_ dev lk : Int) : Value := .agg #[.int .i64 i, .int .i64 k, .int .i64 mo, .int .i64 uid, .int .i64 gid, .int .i64 ti, .int .i64 sz_, .int .i64 dev, .int .i64 lk]
set_option maxHeartbeats 2000000 in
theorem psize_any (X : NoV) (w : World) : Calls Tryz.prog 61 #[X.val] w fun e w' => e = .returned (.int .i64 (szP X)) ∧ w.grownBy w' none := by
 obtain ⟨NK, mo, uid, gid, ti, sz_, da, dl, dc, data, tg, dev, aa, al, ac, attrs, ka, kl, kc, kids, pa, lk⟩ := X
 simp only [NoV.val]
 have gB := xga w (.cells #[.int .i64 NK, .int .i64 mo, .int .i64 uid, .int .i64 gid, .int .i64 ti, .int .i64 sz_, .slice da dl dc, .string tg, .int .i64 dev, .slice aa al ac, .slice ka kl kc, .int .i64 pa, .int .i64 lk] 43) none
 have bB := Bx.new w 43 [.int .i64 NK, .int .i64 mo, .int .i64 uid, .int .i64 gid, .int .i64 ti, .int .i64 sz_, .slice da dl dc, .string tg, .int .i64 dev, .slice aa al ac, .slice ka kl kc, .int .i64 pa, .int .i64 lk]
 obtain ⟨z0, z1, z2, z3, z4, z5, z6, z7, z8, z9, z10, z11, z12⟩ := bx13 bB
 have HG : Hid _ := gB
 clear gB bB
 obtain ⟨R, hR⟩ : ∃ R, R = szP ⟨NK, mo, uid, gid, ti, sz_, da, dl, dc, data, tg, dev, aa, al, ac, attrs, ka, kl, kc, kids, pa, lk⟩ := ⟨_, rfl⟩
 rw [← hR]
 unfold szP at hR
 simp only at hR
 have HR : Hid _ := hR
 clear hR
 by_cases h2 : NK = 2
 ·subst h2
  have HV : Hid (R = (kl : Int)) := by show _ = _; rw [HR.out, if_pos rfl]
  clear HR
  go_enter Tryz.func61, Tryz.ntmps61
  go_wp2
  go_ret
  exact ⟨by rw [HV.out]; rfl, HG.out⟩
 ·have h2b : (NK == 2) = false := by rw [beq_eq_false_iff_ne]; exact h2
  by_cases h3 : NK = 3
  ·subst h3
   have HV : Hid (R = (tg.size : Int)) := by show _ = _; rw [HR.out, if_neg h2, if_pos rfl]
   clear HR h2
   go_enter Tryz.func61, Tryz.ntmps61
   go_wp2
   go_ret
   exact ⟨by rw [HV.out]; rfl, HG.out⟩
  ·have h3b : (NK == 3) = false := by rw [beq_eq_false_iff_ne]; exact h3
   have HV : Hid (R = sz_) := by show _ = _; rw [HR.out, if_neg h2, if_neg h3]
   clear HR h2 h3
   go_enter Tryz.func61, Tryz.ntmps61
   go_wp2
   go_ret
   exact ⟨by rw [HV.out]; rfl, HG.out⟩
theorem grown_weak {a b : World} (h : a.grownBy b none) (r : Option Nat) : a.grownBy b r := ⟨h.os, h.tape, h.output, h.size, fun k hk _ => h.block k hk (by simp)⟩
/-- what Stat tells, by the program -/
def StPost12 (w : World) (ns : List NoV) (i : Int) (e : Ending) (w' : World) : Prop := w.grownBy w' none ∧ ((knd (nos ns) i 0 ≠ 0 ∧ e = .returned (.tuple #[stV 0 0 0 0 0 0 0 0 0, .int .i64 (knd (nos ns) i 0)])) ∨
 ∃ X : NoV, knd (nos ns) i 0 = 0 ∧ 0 ≤ i ∧ ns[i.toNat]? = some X ∧ e = .returned (.tuple #[stV i X.k X.mode X.uid X.gid X.time (szP X) X.dev X.links, .int .i64 0]))
set_option maxHeartbeats 8000000 in
theorem pstat_any (w : World) (mb : Nat) (a : Option Addr) (n c mp : Nat) (ns : List NoV) (h : Md w mb a n c mp ns) (i : Int) :
  Calls Tryz.prog 23 #[.pointer (some ⟨mb, 0, none⟩), .int .i64 i] w (StPost12 w ns i) := by
 have gR := xga w (.cells #[.int .i64 0, .int .i64 0, .int .i64 0, .int .i64 0, .int .i64 0, .int .i64 0, .int .i64 0, .int .i64 0, .int .i64 0] 57) none
 have bR := Bx.new w 57 [.int .i64 0, .int .i64 0, .int .i64 0, .int .i64 0, .int .i64 0, .int .i64 0, .int .i64 0, .int .i64 0, .int .i64 0]
 have hok := pnode12_any _ mb a n c (.map (some mp)) ns (h.kept gR).box (h.kept gR).nos i
 have HM : Hid _ := xai bR gR
 clear h gR bR
 go_enter Tryz.func23, Tryz.ntmps23
 go_wp2_with fail
 generalize hWR : w.alloc (.cells #[.int .i64 0, .int .i64 0, .int .i64 0, .int .i64 0, .int .i64 0, .int .i64 0, .int .i64 0, .int .i64 0, .int .i64 0] 57) = WR at *
 clear hWR
 refine hok.mono ?_
 clear hok
 rintro e W0 ⟨X, rfl, h0, h1, g0⟩
 have HX : Hid _ := xai h0 (xai h1 (xai (xgt HM.out.2 g0) (HM.out.1.kept g0)))
 clear h0 h1 g0 HM
 by_cases hz : knd (nos ns) i 0 = 0
 ·have hX := HX.out.1 hz
  have HZ : Hid _ := xai hz hX
  rw [hz]
  have hps := fun W => psize_any X W
  obtain ⟨R, hR⟩ : ∃ R, R = szP X := ⟨_, rfl⟩
  rw [← hR] at hps
  have HR : Hid _ := hR
  clear hR hX hz
  obtain ⟨NK, mo, uid, gid, ti, sz_, da, dl, dc, data, tg, dev, aa, al, ac, attrs, ka, kl, kc, kids, pa, lk⟩ := X
  simp only [NoV.val]
  simp only [NoV.val] at hps
  have gB := xga W0 (.cells #[.int .i64 NK, .int .i64 mo, .int .i64 uid, .int .i64 gid, .int .i64 ti, .int .i64 sz_, .slice da dl dc, .string tg, .int .i64 dev, .slice aa al ac, .slice ka kl kc, .int .i64 pa, .int .i64 lk] 43) none
  have bB := Bx.new W0 43 [.int .i64 NK, .int .i64 mo, .int .i64 uid, .int .i64 gid, .int .i64 ti, .int .i64 sz_, .slice da dl dc, .string tg, .int .i64 dev, .slice aa al ac, .slice ka kl kc, .int .i64 pa, .int .i64 lk]
  have H5 : Hid _ := xai (xgt HX.out.2.2.1 gB) (xai (HX.out.2.2.2.kept gB) (xai bB HX.out.2.2.2.lt))
  clear gB bB HX
  go_wp2_with fail
  generalize hWB : W0.alloc (.cells #[.int .i64 NK, .int .i64 mo, .int .i64 uid, .int .i64 gid, .int .i64 ti, .int .i64 sz_, .slice da dl dc, .string tg, .int .i64 dev, .slice aa al ac, .slice ka kl kc, .int .i64 pa, .int .i64 lk] 43) = W5 at *
  generalize hgb : W0.heap.size = gb at *
  clear hWB hgb
  have HNE : Hid (gb ≠ w.heap.size) := by have := H5.out.2.2.2; exact (by omega : gb ≠ w.heap.size)
  refine wp_region_held_drew (S := fun w' => W5.grownBy w' (some w.heap.size)) (by kernel_rfl) ⟨rfl, rfl, rfl, Nat.le_refl _, fun _ _ _ => rfl⟩ (fun hH => ?_)
  have HRD : Hid (Bx W5.drew w.heap.size 57 [.int .i64 0, .int .i64 0, .int .i64 0, .int .i64 0, .int .i64 0, .int .i64 0, .int .i64 0, .int .i64 0, .int .i64 0]) := H5.out.2.1.kept (drewG0 W5)
  generalize W5.drew = WD at *
  refine tk (i := 0) (oi := ⟨some 18, _, _, _, _, _⟩) (v := .int .i64 i) rfl (Or.inl ⟨by rfl, fun w hSw => by go_simp⟩) hH ?_
  simp only [Act.put, pu]
  refine tk (i := 1) (oi := ⟨some 19, _, _, _, _, _⟩) (v := .pointer (some ⟨gb, 0, none⟩)) rfl (Or.inl ⟨by rfl, fun w hSw => by go_simp⟩) hH ?_
  simp only [Act.put, pu]
  refine tk (i := 2) (oi := ⟨some 20, _, _, _, _, _⟩) (v := .int .i64 NK) rfl (Or.inl ⟨by rfl, fun w hSw => by have c0 : _ = some _ := (H5.out.2.2.1.but hSw (by simpa using HNE.out)).c 0; go_simp⟩) hH ?_
  simp only [Act.put, pu]
  refine tk (i := 3) (oi := ⟨some 21, _, _, _, _, _⟩) (v := .pointer (some ⟨gb, 1, none⟩)) rfl (Or.inl ⟨by rfl, fun w hSw => by go_simp⟩) hH ?_
  simp only [Act.put, pu]
  refine tk (i := 4) (oi := ⟨some 22, _, _, _, _, _⟩) (v := .int .i64 mo) rfl (Or.inl ⟨by rfl, fun w hSw => by have c1 : _ = some _ := (H5.out.2.2.1.but hSw (by simpa using HNE.out)).c 1; go_simp⟩) hH ?_
  simp only [Act.put, pu]
  refine tk (i := 5) (oi := ⟨some 23, _, _, _, _, _⟩) (v := .pointer (some ⟨gb, 2, none⟩)) rfl (Or.inl ⟨by rfl, fun w hSw => by go_simp⟩) hH ?_
  simp only [Act.put, pu]
  refine tk (i := 6) (oi := ⟨some 24, _, _, _, _, _⟩) (v := .int .i64 uid) rfl (Or.inl ⟨by rfl, fun w hSw => by have c2 : _ = some _ := (H5.out.2.2.1.but hSw (by simpa using HNE.out)).c 2; go_simp⟩) hH ?_
  simp only [Act.put, pu]
  refine tk (i := 7) (oi := ⟨some 25, _, _, _, _, _⟩) (v := .pointer (some ⟨gb, 3, none⟩)) rfl (Or.inl ⟨by rfl, fun w hSw => by go_simp⟩) hH ?_
  simp only [Act.put, pu]
  refine tk (i := 8) (oi := ⟨some 26, _, _, _, _, _⟩) (v := .int .i64 gid) rfl (Or.inl ⟨by rfl, fun w hSw => by have c3 : _ = some _ := (H5.out.2.2.1.but hSw (by simpa using HNE.out)).c 3; go_simp⟩) hH ?_
  simp only [Act.put, pu]
  refine tk (i := 9) (oi := ⟨some 27, _, _, _, _, _⟩) (v := .pointer (some ⟨gb, 4, none⟩)) rfl (Or.inl ⟨by rfl, fun w hSw => by go_simp⟩) hH ?_
  simp only [Act.put, pu]
  refine tk (i := 10) (oi := ⟨some 28, _, _, _, _, _⟩) (v := .int .i64 ti) rfl (Or.inl ⟨by rfl, fun w hSw => by have c4 : _ = some _ := (H5.out.2.2.1.but hSw (by simpa using HNE.out)).c 4; go_simp⟩) hH ?_
  simp only [Act.put, pu]
  refine tk (i := 11) (oi := ⟨some 29, _, _, _, _, _⟩) (v := .agg #[.int .i64 NK, .int .i64 mo, .int .i64 uid, .int .i64 gid, .int .i64 ti, .int .i64 sz_, .slice da dl dc, .string tg, .int .i64 dev, .slice aa al ac, .slice ka kl kc, .int .i64 pa, .int .i64 lk]) rfl (Or.inl ⟨by rfl, fun w hSw => by obtain ⟨c0, c1, c2, c3, c4, c5, c6, c7, c8, c9, c10, c11, c12⟩ := bx13 (H5.out.2.2.1.but hSw (by simpa using HNE.out)); go_simp⟩) hH ?_
  simp only [Act.put, pu]
  refine tk (i := 13) (oi := ⟨some 31, _, _, _, _, _⟩) (v := .pointer (some ⟨gb, 8, none⟩)) rfl (Or.inl ⟨by rfl, fun w hSw => by go_simp⟩) hH ?_
  simp only [Act.put, pu]
  refine tk (i := 14) (oi := ⟨some 32, _, _, _, _, _⟩) (v := .int .i64 dev) rfl (Or.inl ⟨by rfl, fun w hSw => by have c8 : _ = some _ := (H5.out.2.2.1.but hSw (by simpa using HNE.out)).c 8; go_simp⟩) hH ?_
  simp only [Act.put, pu]
  refine tk (i := 15) (oi := ⟨some 33, _, _, _, _, _⟩) (v := .pointer (some ⟨gb, 12, none⟩)) rfl (Or.inl ⟨by rfl, fun w hSw => by go_simp⟩) hH ?_
  simp only [Act.put, pu]
  refine tk (i := 16) (oi := ⟨some 34, _, _, _, _, _⟩) (v := .int .i64 lk) rfl (Or.inl ⟨by rfl, fun w hSw => by have c12 : _ = some _ := (H5.out.2.2.1.but hSw (by simpa using HNE.out)).c 12; go_simp⟩) hH ?_
  simp only [Act.put, pu]
  refine wpAnyH_ready (rs := [12]) (by kernel_rfl) (by simp) ?_
  refine AllReadyH.cons rfl (fun K1 hK => ?_) AllReadyH.nil
  go_simp
  refine (hps _).mono ?_
  rintro e W6 ⟨rfl, g6⟩
  have HR6 : Hid _ := HRD.out.kept g6
  replace hH := xgt hH (grown_weak g6 (some w.heap.size))
  clear g6 hps HRD
  refine hK.out _ _ hH (fun h0 => ?_)
  clear h0 hK K1
  try simp only [Act.put, pu]
  refine tk (i := 17) (oi := ⟨some 35, _, _, _, _, _⟩) (v := .agg #[.int .i64 i, .int .i64 NK, .int .i64 mo, .int .i64 uid, .int .i64 gid, .int .i64 ti, .int .i64 R, .int .i64 dev, .int .i64 lk]) rfl (Or.inl ⟨by rfl, fun w hSw => by go_simp⟩) hH ?_
  simp only [Act.put, pu]
  refine wpAnyH_ready (rs := [18]) (by kernel_rfl) (by simp) ?_
  refine AllReadyH.cons rfl (fun K1 hK => ?_) AllReadyH.nil
  refine step_store_bx (by rfl) 57 _ _ (by rfl) w.heap.size [.int .i64 i, .int .i64 NK, .int .i64 mo, .int .i64 uid, .int .i64 gid, .int .i64 ti, .int .i64 R, .int .i64 dev, .int .i64 lk] (by rfl) (by rfl) HR6.out stat_size rfl rfl ?_
  intro W7 hB7 g7
  replace hH := xgt hH g7
  have HB7 : Hid _ := hB7
  clear hB7 g7 HR6
  refine hK.out _ _ hH (fun h0 => ?_)
  clear h0 hK K1
  try simp only [Act.put, pu]
  refine tk (i := 19) (oi := ⟨some 5, _, _, _, _, _⟩) (v := .int .i64 0) rfl (Or.inl ⟨by rfl, fun w hSw => by go_simp⟩) hH ?_
  simp only [Act.put, pu]
  refine wpAnyH_done (by kernel_rfl) ?_ _
  have HF : Hid _ := grown_new H5.out.1 hH (Nat.le_refl _)
  clear hH
  obtain ⟨z0, z1, z2, z3, z4, z5, z6, z7, z8⟩ := bx9 HB7.out
  go_wp2_with fail
  refine bodyPost_ret (v := .tuple #[stV i NK mo uid gid ti R dev lk, .int .i64 0]) (by simp [results, Tryz.results23, go_sem, stV, *]) rfl ?_
  refine ⟨HF.out, Or.inr ⟨⟨NK, mo, uid, gid, ti, sz_, da, dl, dc, data, tg, dev, aa, al, ac, attrs, ka, kl, kc, kids, pa, lk⟩, HZ.out.1, HZ.out.2.1, HZ.out.2.2, ?_⟩⟩
  rw [← HR.out]
 ·obtain rfl := HX.out.2.1 hz
  have HZ : Hid _ := hz
  generalize hK : knd (nos ns) i 0 = K at *
  have HKK : Hid _ := hK
  clear hK
  have hzb : (K == 0) = false := by rw [beq_eq_false_iff_ne]; exact hz
  have hzb2 : (K != 0) = true := by simp [hz]
  have HRB : Hid _ := HX.out.2.2.2
  have gB := xga W0 (.cells #[.int .i64 0, .int .i64 0, .int .i64 0, .int .i64 0, .int .i64 0, .int .i64 0, .slice none 0 0, .string ⟨#[]⟩, .int .i64 0, .slice none 0 0, .slice none 0 0, .int .i64 0, .int .i64 0] 43) none
  have HB2 : Hid _ := xai (HRB.out.kept gB) (xgt HX.out.2.2.1 gB)
  clear HX gB HRB
  simp only [NoV.val, nz12]
  go_wp2_with ((with_reducible refine stat_here ?_); refine wpList_store_bx13 rfl 57 _ _ rfl w.heap.size [.int .i64 0, .int .i64 0, .int .i64 0, .int .i64 0, .int .i64 0, .int .i64 0, .int .i64 0, .int .i64 0, .int .i64 0] rfl rfl HB2.out.1 stat_size rfl rfl ?_; intro W9 hz9 g9)
  obtain ⟨z0, z1, z2, z3, z4, z5, z6, z7, z8⟩ := bx9 hz9
  have HF : Hid _ := grown_new HB2.out.2 g9 (Nat.le_refl _)
  refine bodyPost_ret (v := .tuple #[stV 0 0 0 0 0 0 0 0 0, .int .i64 K]) (by simp [results, Tryz.results23, go_sem, stV, *]) rfl ?_
  exact ⟨HF.out, Or.inl ⟨by rw [HKK.out]; exact HZ.out, by rw [HKK.out]⟩⟩
/-- what Readlink answers -/
def lnP (L : List No) (i : Int) : Tx × Int := if knd L i 3 ≠ 0 then ([], knd L i 3) else (((L[i.toNat]?).map No.target).getD [], 0)
theorem lnP_bad {L : List No} {i : Int} (h : knd L i 3 ≠ 0) : lnP L i = ([], knd L i 3) := by unfold lnP; rw [if_pos h]
theorem lnP_at {ns : List NoV} {j : Nat} {X : NoV} (hX : ns[j]? = some X) (h : knd (nos ns) j 3 = 0) : lnP (nos ns) (j : Int) = (X.target.toList, 0) := by
 unfold lnP
 rw [if_neg (by rw [h]; simp), Int.toNat_natCast, nos_get12 hX]
 rfl
theorem tx_tl2 (s : ByteArray) : tx s.toList = s := tl_inj (by rw [tx_tl])
set_option maxHeartbeats 4000000 in
theorem preadlink_any (w : World) (mb : Nat) (a : Option Addr) (n c mp : Nat) (ns : List NoV) (h : Md w mb a n c mp ns) (i : Int) :
  Calls Tryz.prog 25 #[.pointer (some ⟨mb, 0, none⟩), .int .i64 i] w fun e w' => e = .returned (.tuple #[.string (tx (lnP (nos ns) i).1), .int .i64 (lnP (nos ns) i).2]) ∧ w.grownBy w' none := by
 have hok := pofkind_any w mb a n c (.map (some mp)) ns h.box h.nos i 3 (by decide)
 clear h
 obtain ⟨R, hR⟩ : ∃ R, R = lnP (nos ns) i := ⟨_, rfl⟩
 rw [← hR]
 have HR : Hid _ := hR
 clear hR
 go_enter Tryz.func25, Tryz.ntmps25
 go_wp2_with fail
 refine hok.mono ?_
 clear hok
 rintro e W1 ⟨X, rfl, h0, h1, g1⟩
 have hV : R = (X.target.toList, knd (nos ns) i 3) := by
  by_cases hz : knd (nos ns) i 3 = 0
  ·obtain ⟨hi0, hX, -⟩ := h0 hz
   obtain ⟨j, rfl⟩ : ∃ j : Nat, i = (j : Int) := ⟨i.toNat, by omega⟩
   rw [Int.toNat_natCast] at hX
   rw [HR.out, lnP_at hX hz, hz]
  ·rw [HR.out, lnP_bad hz, h1 hz]
   show _ = (ByteArray.toList ⟨#[]⟩, _)
   rw [tl_nil]
 generalize knd (nos ns) i 3 = K at *
 have HV : Hid _ := xai hV g1
 clear hV g1 h0 h1 HR
 obtain ⟨NK, mo, uid, gid, ti, sz_, da, dl, dc, data, tg, dev, aa, al, ac, attrs, ka, kl, kc, kids, pa, lk⟩ := X
 simp only [NoV.val]
 have gB := xga W1 (.cells #[.int .i64 NK, .int .i64 mo, .int .i64 uid, .int .i64 gid, .int .i64 ti, .int .i64 sz_, .slice da dl dc, .string tg, .int .i64 dev, .slice aa al ac, .slice ka kl kc, .int .i64 pa, .int .i64 lk] 43) none
 have bB := Bx.new W1 43 [.int .i64 NK, .int .i64 mo, .int .i64 uid, .int .i64 gid, .int .i64 ti, .int .i64 sz_, .slice da dl dc, .string tg, .int .i64 dev, .slice aa al ac, .slice ka kl kc, .int .i64 pa, .int .i64 lk]
 have v7 : _ = some _ := bB.c 7
 have HB : Hid _ := xgt HV.out.2 gB
 clear gB bB
 go_wp2
 go_ret2
 refine ⟨?_, HB.out⟩
 rw [HV.out.1]
 show _ = Ending.returned (.tuple #[.string (tx tg.toList), .int .i64 K])
 rw [tx_tl2]
 rfl
set_option maxHeartbeats 4000000 in
theorem rreadlink_any (w : World) (a : Option Addr) (n c : Nat) (ns : List NoV) (hN : Nos w a n ns) (i : Int) :
  Calls Tryz.prog 26 #[.agg #[.slice a n c], .int .i64 i] w fun e w' => e = .returned (.tuple #[.string (tx (lnP (nos ns) i).1), .int .i64 (lnP (nos ns) i).2]) ∧ w.grownBy w' none := by
 have gA := xga w (.cells #[.slice a n c] 33) none
 have bA := Bx.new w 33 [.slice a n c]
 have hok := rkind_any _ a n c ns (hN.grown gA) i 3
 have t0 : _ = some _ := bA.c 0
 have HM : Hid _ := xai (hN.grown gA) (xai bA gA)
 clear hN bA gA
 obtain ⟨R, hR⟩ : ∃ R, R = lnP (nos ns) i := ⟨_, rfl⟩
 rw [← hR]
 have HR : Hid _ := hR
 clear hR
 go_enter Tryz.func26, Tryz.ntmps26
 go_wp2_with fail
 generalize hWA : w.alloc (.cells #[.slice a n c] 33) = WA at *
 clear hWA
 refine hok.mono ?_
 clear hok
 rintro e W1 ⟨rfl, g1⟩
 have HG1 : Hid _ := xai (xgt HM.out.2.2 g1) (xai (HM.out.1.grown g1) (HM.out.2.1.kept g1))
 clear g1 HM t0
 have t0 : _ = some _ := HG1.out.2.2.c 0
 by_cases hz : knd (nos ns) i 3 = 0
 ·obtain ⟨j, X, rfl, hX, -⟩ := knd_zero hz
  have hV : R = (X.target.toList, 0) := by rw [HR.out, lnP_at hX hz]
  rw [hz]
  have hj : j < n := by rw [← HG1.out.2.1.len_eq]; exact (List.getElem?_eq_some_iff.1 hX).1
  have hle := HG1.out.2.1.le
  obtain ⟨b, o0, rfl, hat⟩ := HG1.out.2.1.at_ (by omega)
  have y7 := (hat j X hX).c7
  have h2 : (j : Int) < (n : Int) := by omega
  have HV : Hid _ := hV
  clear hV hat hX hz HR
  generalize X.target = T at *
  go_wp2
  go_ret2
  refine ⟨?_, HG1.out.1⟩
  rw [HV.out]
  show _ = Ending.returned (.tuple #[.string (tx T.toList), .int .i64 0])
  rw [tx_tl2]
  rfl
 ·have hV := lnP_bad hz
  rw [← HR.out] at hV
  have HV : Hid _ := hV
  clear hV HR
  generalize knd (nos ns) i 3 = K at *
  have hzb : (K == 0) = false := by rw [beq_eq_false_iff_ne]; exact hz
  have hzb2 : (K != 0) = true := by simp [hz]
  go_wp2
  go_ret2
  refine ⟨?_, HG1.out.1⟩
  rw [HV.out]
  rfl
def rsz (X : NoV) : Int := if X.k = 1 then X.size else if X.k = 2 then (X.kl : Int) else if X.k = 3 then (X.target.size : Int) else 0
def rdv (X : NoV) : Int := if X.k = 1 ∨ X.k = 2 ∨ X.k = 3 then 0 else X.dev
def RsPost (w : World) (ns : List NoV) (i : Int) (e : Ending) (w' : World) : Prop := w.grownBy w' none ∧ ((knd (nos ns) i 0 ≠ 0 ∧ e = .returned (.tuple #[stV 0 0 0 0 0 0 0 0 0, .int .i64 (knd (nos ns) i 0)])) ∨
 ∃ X : NoV, knd (nos ns) i 0 = 0 ∧ 0 ≤ i ∧ ns[i.toNat]? = some X ∧ e = .returned (.tuple #[stV i X.k X.mode X.uid X.gid X.time (rsz X) (rdv X) X.links, .int .i64 0]))
theorem rs_new {w W : World} {g : Nat} {Z : List Value} (hg : w.grownBy W none) (hb : Bx W g 57 Z) (cs : List Value) : Bx (W.alloc (.cells cs.toArray 57)) W.heap.size 57 cs ∧ Hid (Bx (W.alloc (.cells cs.toArray 57)) g 57 Z ∧ w.grownBy (W.alloc (.cells cs.toArray 57)) none) :=
 ⟨Bx.new W 57 cs, hb.kept (xga _ _ none), xgt hg (xga _ _ none)⟩
/-- both tell the same of a node of a tree in the one way -/
theorem sz_same {X : NoV} (h : Dv X.no) : szP X = rsz X ∧ X.dev = rdv X := by
 unfold szP rsz rdv
 have h1 : X.k = 1 ∨ X.k = 2 ∨ X.k = 3 → X.dev = 0 := h.dev
 have h2 : X.k ≠ 1 → X.size = 0 := h.size
 constructor
 ·by_cases e1 : X.k = 1
  ·rw [if_pos e1, if_neg (by omega), if_neg (by omega)]
  ·rw [if_neg e1]
   by_cases e2 : X.k = 2
   ·rw [if_pos e2, if_pos e2]
   ·rw [if_neg e2, if_neg e2]
    by_cases e3 : X.k = 3
    ·rw [if_pos e3, if_pos e3]
    ·rw [if_neg e3, if_neg e3]; exact h2 e1
 ·by_cases e : X.k = 1 ∨ X.k = 2 ∨ X.k = 3
  ·rw [if_pos e]; exact h1 e
  ·rw [if_neg e]
set_option maxHeartbeats 8000000 in
theorem rstat_any (w : World) (a : Option Addr) (n c : Nat) (ns : List NoV) (hN : Nos w a n ns) (i : Int) : Calls Tryz.prog 24 #[.agg #[.slice a n c], .int .i64 i] w (RsPost w ns i) := by
 have gA0 := xga w (.cells #[.slice a n c] 33) none
 have bA0 := Bx.new w 33 [.slice a n c]
 have gA := xga (w.alloc (.cells #[.slice a n c] 33)) (.cells #[.int .i64 0, .int .i64 0, .int .i64 0, .int .i64 0, .int .i64 0, .int .i64 0, .int .i64 0, .int .i64 0, .int .i64 0] 57) none
 have bR := Bx.new (w.alloc (.cells #[.slice a n c] 33)) 57 [.int .i64 0, .int .i64 0, .int .i64 0, .int .i64 0, .int .i64 0, .int .i64 0, .int .i64 0, .int .i64 0, .int .i64 0]
 have hsz : (w.alloc (.cells #[.slice a n c] 33)).heap.size = w.heap.size + 1 := by simp
 rw [hsz] at bR
 have hok := rkind_any _ a n c ns ((hN.grown gA0).grown gA) i 0
 have t0 : _ = some _ := (bA0.kept gA).c 0
 have HM : Hid _ := xai ((hN.grown gA0).grown gA) (xai (bA0.kept gA) (xai (xgt gA0 gA) bR))
 clear hN bA0 gA gA0 bR hsz
 go_enter Tryz.func24, Tryz.ntmps24
 go_wp2_with fail
 generalize hWA : (w.alloc (.cells #[.slice a n c] 33)).alloc (.cells #[.int .i64 0, .int .i64 0, .int .i64 0, .int .i64 0, .int .i64 0, .int .i64 0, .int .i64 0, .int .i64 0, .int .i64 0] 57) = WA at *
 clear hWA
 refine hok.mono ?_
 clear hok
 rintro e W1 ⟨rfl, g1⟩
 have HG1 : Hid _ := xai (xgt HM.out.2.2.1 g1) (xai (HM.out.1.grown g1) (xai (HM.out.2.1.kept g1) (HM.out.2.2.2.kept g1)))
 clear g1 HM t0
 have t0 : _ = some _ := HG1.out.2.2.1.c 0
 by_cases hz : knd (nos ns) i 0 = 0
 ·obtain ⟨j, X, rfl, hX, -⟩ := knd_zero hz
  have HZ : Hid _ := xai hz hX
  rw [hz]
  have hj : j < n := by rw [← HG1.out.2.1.len_eq]; exact (List.getElem?_eq_some_iff.1 hX).1
  have hle := HG1.out.2.1.le
  obtain ⟨b, o0, rfl, hat⟩ := HG1.out.2.1.at_ (by omega)
  obtain ⟨y0, y1, y2, y3, y4, y5, y6, y7, y8, y9, y10, y11, y12, -⟩ := hat j X hX
  have h2 : (j : Int) < (n : Int) := by omega
  obtain ⟨R1, hR1⟩ : ∃ R1, R1 = rsz X := ⟨_, rfl⟩
  obtain ⟨R2, hR2⟩ : ∃ R2, R2 = rdv X := ⟨_, rfl⟩
  unfold rsz at hR1
  unfold rdv at hR2
  have HR : Hid _ := xai hR1 hR2
  clear hR1 hR2 hat hX hz
  obtain ⟨NK, mo, uid, gid, ti, sz_, da, dl, dc, data, tg, dev, aa, al, ac, attrs, ka, kl, kc, kids, pa, lk⟩ := X
  simp only at y0 y1 y2 y3 y4 y5 y6 y7 y8 y9 y10 y11 y12 HR
  have gB := xga W1 (.cells #[.int .i64 NK, .int .i64 mo, .int .i64 uid, .int .i64 gid, .int .i64 ti, .int .i64 sz_, .slice da dl dc, .string tg, .int .i64 dev, .slice aa al ac, .slice ka kl kc, .int .i64 pa, .int .i64 lk] 43) none
  have bB := Bx.new W1 43 [.int .i64 NK, .int .i64 mo, .int .i64 uid, .int .i64 gid, .int .i64 ti, .int .i64 sz_, .slice da dl dc, .string tg, .int .i64 dev, .slice aa al ac, .slice ka kl kc, .int .i64 pa, .int .i64 lk]
  have gC := xga (W1.alloc (.cells #[.int .i64 NK, .int .i64 mo, .int .i64 uid, .int .i64 gid, .int .i64 ti, .int .i64 sz_, .slice da dl dc, .string tg, .int .i64 dev, .slice aa al ac, .slice ka kl kc, .int .i64 pa, .int .i64 lk] 43)) (.cells #[.int .i64 j, .int .i64 NK, .int .i64 mo, .int .i64 uid, .int .i64 gid, .int .i64 ti, .int .i64 0, .int .i64 0, .int .i64 lk] 57) none
  have bC := Bx.new (W1.alloc (.cells #[.int .i64 NK, .int .i64 mo, .int .i64 uid, .int .i64 gid, .int .i64 ti, .int .i64 sz_, .slice da dl dc, .string tg, .int .i64 dev, .slice aa al ac, .slice ka kl kc, .int .i64 pa, .int .i64 lk] 43)) 57 [.int .i64 j, .int .i64 NK, .int .i64 mo, .int .i64 uid, .int .i64 gid, .int .i64 ti, .int .i64 0, .int .i64 0, .int .i64 lk]
  have hsz1 : (W1.alloc (.cells #[.int .i64 NK, .int .i64 mo, .int .i64 uid, .int .i64 gid, .int .i64 ti, .int .i64 sz_, .slice da dl dc, .string tg, .int .i64 dev, .slice aa al ac, .slice ka kl kc, .int .i64 pa, .int .i64 lk] 43)).heap.size = W1.heap.size + 1 := by simp
  rw [hsz1] at bC
  obtain ⟨v0, v1, v2, v3, v4, v5, v6, v7, v8, v9, v10, v11, v12⟩ := bx13 bB
  have hrlt := HG1.out.2.2.2.lt
  have H5 : Hid _ := xai (xgt HG1.out.1 gB) (xai (bB.kept gC) (xai bC (xai (HG1.out.2.2.2.kept gB) hrlt)))
  have HSZ1 : Hid _ := hsz1
  clear gB gC bB bC hsz1 HG1 hrlt
  have fin : ∀ (sz dv : Int) (W : World), Hid (Bx W (W1.heap.size + 1) 57 [.int .i64 j, .int .i64 NK, .int .i64 mo, .int .i64 uid, .int .i64 gid, .int .i64 ti, .int .i64 sz, .int .i64 dv, .int .i64 lk] ∧ Bx W (w.heap.size + 1) 57 [.int .i64 0, .int .i64 0, .int .i64 0, .int .i64 0, .int .i64 0, .int .i64 0, .int .i64 0, .int .i64 0, .int .i64 0] ∧ w.grownBy W none) → True := fun _ _ _ _ => trivial
  clear fin
  have HRR : Hid (R1 = rsz ⟨NK, mo, uid, gid, ti, sz_, da, dl, dc, data, tg, dev, aa, al, ac, attrs, ka, kl, kc, kids, pa, lk⟩ ∧ R2 = rdv ⟨NK, mo, uid, gid, ti, sz_, da, dl, dc, data, tg, dev, aa, al, ac, attrs, ka, kl, kc, kids, pa, lk⟩) := HR.out
  by_cases e1 : NK = 1
  ·subst e1
   have HV : Hid (R1 = sz_ ∧ R2 = 0) := by
    have h1 := HR.out
    refine ⟨?_, ?_⟩
    ·rw [h1.1]; rw [if_pos rfl]
    ·rw [h1.2]; rw [if_pos (Or.inl rfl)]
   clear HR
   obtain ⟨u0, u1, u2, u3, u4, u5, u6, u7, u8, u9, u10, u11, u12⟩ := bx13 H5.out.2.1
   have q6 : _ = some _ := H5.out.2.2.1.c 6
   have f6 := H5.out.2.2.1.f 6
   obtain ⟨bS, H6⟩ := rs_new H5.out.1 H5.out.2.2.2.1 [.int .i64 j, .int .i64 1, .int .i64 mo, .int .i64 uid, .int .i64 gid, .int .i64 ti, .int .i64 (sz_), .int .i64 (0), .int .i64 lk]
   rw [HSZ1.out] at bS
   obtain ⟨r0, r1, r2, r3, r4, r5, r6, r7, r8⟩ := bx9 bS
   clear bS H5
   go_wp2_with ((with_reducible refine stat_here ?_); refine wpList_store_bx13 rfl 57 _ _ rfl (w.heap.size + 1) [.int .i64 j, .int .i64 1, .int .i64 mo, .int .i64 uid, .int .i64 gid, .int .i64 ti, .int .i64 (sz_), .int .i64 (0), .int .i64 lk] rfl rfl H6.out.1 stat_size rfl rfl ?_; intro W9 hz9 g9)
   obtain ⟨z0, z1, z2, z3, z4, z5, z6, z7, z8⟩ := bx9 hz9
   have HF : Hid _ := grown_new H6.out.2 g9 (by omega)
   refine bodyPost_ret (v := .tuple #[stV j 1 mo uid gid ti (sz_) (0) lk, .int .i64 0]) (by simp [results, Tryz.results24, go_sem, stV, *]) rfl ?_
   refine ⟨HF.out, Or.inr ⟨⟨1, mo, uid, gid, ti, sz_, da, dl, dc, data, tg, dev, aa, al, ac, attrs, ka, kl, kc, kids, pa, lk⟩, HZ.out.1, by omega, by rw [Int.toNat_natCast]; exact HZ.out.2, ?_⟩⟩
   show _ = Ending.returned (.tuple #[stV j 1 mo uid gid ti (rsz ⟨1, mo, uid, gid, ti, sz_, da, dl, dc, data, tg, dev, aa, al, ac, attrs, ka, kl, kc, kids, pa, lk⟩) (rdv ⟨1, mo, uid, gid, ti, sz_, da, dl, dc, data, tg, dev, aa, al, ac, attrs, ka, kl, kc, kids, pa, lk⟩) lk, .int .i64 0])
   rw [show rsz ⟨1, mo, uid, gid, ti, sz_, da, dl, dc, data, tg, dev, aa, al, ac, attrs, ka, kl, kc, kids, pa, lk⟩ = (sz_) from HV.out.1 ▸ HRR.out.1.symm, show rdv ⟨1, mo, uid, gid, ti, sz_, da, dl, dc, data, tg, dev, aa, al, ac, attrs, ka, kl, kc, kids, pa, lk⟩ = (0) from HV.out.2 ▸ HRR.out.2.symm]
  ·have e1b : (NK == 1) = false := by rw [beq_eq_false_iff_ne]; exact e1
   by_cases e2 : NK = 2
   ·subst e2
    have HV : Hid (R1 = (kl : Int) ∧ R2 = 0) := by
     have h1 := HR.out
     refine ⟨?_, ?_⟩
     ·rw [h1.1]; rw [if_neg (by decide), if_pos rfl]
     ·rw [h1.2]; rw [if_pos (Or.inr (Or.inl rfl))]
    clear HR
    obtain ⟨u0, u1, u2, u3, u4, u5, u6, u7, u8, u9, u10, u11, u12⟩ := bx13 H5.out.2.1
    have q6 : _ = some _ := H5.out.2.2.1.c 6
    have f6 := H5.out.2.2.1.f 6
    obtain ⟨bS, H6⟩ := rs_new H5.out.1 H5.out.2.2.2.1 [.int .i64 j, .int .i64 2, .int .i64 mo, .int .i64 uid, .int .i64 gid, .int .i64 ti, .int .i64 ((kl : Int)), .int .i64 (0), .int .i64 lk]
    rw [HSZ1.out] at bS
    obtain ⟨r0, r1, r2, r3, r4, r5, r6, r7, r8⟩ := bx9 bS
    clear bS H5
    go_wp2_with ((with_reducible refine stat_here ?_); refine wpList_store_bx13 rfl 57 _ _ rfl (w.heap.size + 1) [.int .i64 j, .int .i64 2, .int .i64 mo, .int .i64 uid, .int .i64 gid, .int .i64 ti, .int .i64 ((kl : Int)), .int .i64 (0), .int .i64 lk] rfl rfl H6.out.1 stat_size rfl rfl ?_; intro W9 hz9 g9)
    obtain ⟨z0, z1, z2, z3, z4, z5, z6, z7, z8⟩ := bx9 hz9
    have HF : Hid _ := grown_new H6.out.2 g9 (by omega)
    refine bodyPost_ret (v := .tuple #[stV j 2 mo uid gid ti ((kl : Int)) (0) lk, .int .i64 0]) (by simp [results, Tryz.results24, go_sem, stV, *]) rfl ?_
    refine ⟨HF.out, Or.inr ⟨⟨2, mo, uid, gid, ti, sz_, da, dl, dc, data, tg, dev, aa, al, ac, attrs, ka, kl, kc, kids, pa, lk⟩, HZ.out.1, by omega, by rw [Int.toNat_natCast]; exact HZ.out.2, ?_⟩⟩
    show _ = Ending.returned (.tuple #[stV j 2 mo uid gid ti (rsz ⟨2, mo, uid, gid, ti, sz_, da, dl, dc, data, tg, dev, aa, al, ac, attrs, ka, kl, kc, kids, pa, lk⟩) (rdv ⟨2, mo, uid, gid, ti, sz_, da, dl, dc, data, tg, dev, aa, al, ac, attrs, ka, kl, kc, kids, pa, lk⟩) lk, .int .i64 0])
    rw [show rsz ⟨2, mo, uid, gid, ti, sz_, da, dl, dc, data, tg, dev, aa, al, ac, attrs, ka, kl, kc, kids, pa, lk⟩ = ((kl : Int)) from HV.out.1 ▸ HRR.out.1.symm, show rdv ⟨2, mo, uid, gid, ti, sz_, da, dl, dc, data, tg, dev, aa, al, ac, attrs, ka, kl, kc, kids, pa, lk⟩ = (0) from HV.out.2 ▸ HRR.out.2.symm]
   ·have e2b : (NK == 2) = false := by rw [beq_eq_false_iff_ne]; exact e2
    by_cases e3 : NK = 3
    ·subst e3
     have HV : Hid (R1 = (tg.size : Int) ∧ R2 = 0) := by
      have h1 := HR.out
      refine ⟨?_, ?_⟩
      ·rw [h1.1]; rw [if_neg (by decide), if_neg (by decide), if_pos rfl]
      ·rw [h1.2]; rw [if_pos (Or.inr (Or.inr rfl))]
     clear HR
     obtain ⟨u0, u1, u2, u3, u4, u5, u6, u7, u8, u9, u10, u11, u12⟩ := bx13 H5.out.2.1
     have q6 : _ = some _ := H5.out.2.2.1.c 6
     have f6 := H5.out.2.2.1.f 6
     obtain ⟨bS, H6⟩ := rs_new H5.out.1 H5.out.2.2.2.1 [.int .i64 j, .int .i64 3, .int .i64 mo, .int .i64 uid, .int .i64 gid, .int .i64 ti, .int .i64 ((tg.size : Int)), .int .i64 (0), .int .i64 lk]
     rw [HSZ1.out] at bS
     obtain ⟨r0, r1, r2, r3, r4, r5, r6, r7, r8⟩ := bx9 bS
     clear bS H5
     go_wp2_with ((with_reducible refine stat_here ?_); refine wpList_store_bx13 rfl 57 _ _ rfl (w.heap.size + 1) [.int .i64 j, .int .i64 3, .int .i64 mo, .int .i64 uid, .int .i64 gid, .int .i64 ti, .int .i64 ((tg.size : Int)), .int .i64 (0), .int .i64 lk] rfl rfl H6.out.1 stat_size rfl rfl ?_; intro W9 hz9 g9)
     obtain ⟨z0, z1, z2, z3, z4, z5, z6, z7, z8⟩ := bx9 hz9
     have HF : Hid _ := grown_new H6.out.2 g9 (by omega)
     refine bodyPost_ret (v := .tuple #[stV j 3 mo uid gid ti ((tg.size : Int)) (0) lk, .int .i64 0]) (by simp [results, Tryz.results24, go_sem, stV, *]) rfl ?_
     refine ⟨HF.out, Or.inr ⟨⟨3, mo, uid, gid, ti, sz_, da, dl, dc, data, tg, dev, aa, al, ac, attrs, ka, kl, kc, kids, pa, lk⟩, HZ.out.1, by omega, by rw [Int.toNat_natCast]; exact HZ.out.2, ?_⟩⟩
     show _ = Ending.returned (.tuple #[stV j 3 mo uid gid ti (rsz ⟨3, mo, uid, gid, ti, sz_, da, dl, dc, data, tg, dev, aa, al, ac, attrs, ka, kl, kc, kids, pa, lk⟩) (rdv ⟨3, mo, uid, gid, ti, sz_, da, dl, dc, data, tg, dev, aa, al, ac, attrs, ka, kl, kc, kids, pa, lk⟩) lk, .int .i64 0])
     rw [show rsz ⟨3, mo, uid, gid, ti, sz_, da, dl, dc, data, tg, dev, aa, al, ac, attrs, ka, kl, kc, kids, pa, lk⟩ = ((tg.size : Int)) from HV.out.1 ▸ HRR.out.1.symm, show rdv ⟨3, mo, uid, gid, ti, sz_, da, dl, dc, data, tg, dev, aa, al, ac, attrs, ka, kl, kc, kids, pa, lk⟩ = (0) from HV.out.2 ▸ HRR.out.2.symm]
    ·have e3b : (NK == 3) = false := by rw [beq_eq_false_iff_ne]; exact e3
     have HV : Hid (R1 = 0 ∧ R2 = dev) := by
      have h1 := HR.out
      refine ⟨?_, ?_⟩
      ·rw [h1.1]; rw [if_neg e1, if_neg e2, if_neg e3]
      ·rw [h1.2]; rw [if_neg (by omega)]
     clear HR
     obtain ⟨u0, u1, u2, u3, u4, u5, u6, u7, u8, u9, u10, u11, u12⟩ := bx13 H5.out.2.1
     have q6 : _ = some _ := H5.out.2.2.1.c 7
     have f6 := H5.out.2.2.1.f 7
     obtain ⟨bS, H6⟩ := rs_new H5.out.1 H5.out.2.2.2.1 [.int .i64 j, .int .i64 NK, .int .i64 mo, .int .i64 uid, .int .i64 gid, .int .i64 ti, .int .i64 (0), .int .i64 (dev), .int .i64 lk]
     rw [HSZ1.out] at bS
     obtain ⟨r0, r1, r2, r3, r4, r5, r6, r7, r8⟩ := bx9 bS
     clear bS H5
     go_wp2_with ((with_reducible refine stat_here ?_); refine wpList_store_bx13 rfl 57 _ _ rfl (w.heap.size + 1) [.int .i64 j, .int .i64 NK, .int .i64 mo, .int .i64 uid, .int .i64 gid, .int .i64 ti, .int .i64 (0), .int .i64 (dev), .int .i64 lk] rfl rfl H6.out.1 stat_size rfl rfl ?_; intro W9 hz9 g9)
     obtain ⟨z0, z1, z2, z3, z4, z5, z6, z7, z8⟩ := bx9 hz9
     have HF : Hid _ := grown_new H6.out.2 g9 (by omega)
     refine bodyPost_ret (v := .tuple #[stV j NK mo uid gid ti (0) (dev) lk, .int .i64 0]) (by simp [results, Tryz.results24, go_sem, stV, *]) rfl ?_
     refine ⟨HF.out, Or.inr ⟨⟨NK, mo, uid, gid, ti, sz_, da, dl, dc, data, tg, dev, aa, al, ac, attrs, ka, kl, kc, kids, pa, lk⟩, HZ.out.1, by omega, by rw [Int.toNat_natCast]; exact HZ.out.2, ?_⟩⟩
     show _ = Ending.returned (.tuple #[stV j NK mo uid gid ti (rsz ⟨NK, mo, uid, gid, ti, sz_, da, dl, dc, data, tg, dev, aa, al, ac, attrs, ka, kl, kc, kids, pa, lk⟩) (rdv ⟨NK, mo, uid, gid, ti, sz_, da, dl, dc, data, tg, dev, aa, al, ac, attrs, ka, kl, kc, kids, pa, lk⟩) lk, .int .i64 0])
     rw [show rsz ⟨NK, mo, uid, gid, ti, sz_, da, dl, dc, data, tg, dev, aa, al, ac, attrs, ka, kl, kc, kids, pa, lk⟩ = (0) from HV.out.1 ▸ HRR.out.1.symm, show rdv ⟨NK, mo, uid, gid, ti, sz_, da, dl, dc, data, tg, dev, aa, al, ac, attrs, ka, kl, kc, kids, pa, lk⟩ = (dev) from HV.out.2 ▸ HRR.out.2.symm]
 ·have HZ : Hid _ := hz
  generalize hK : knd (nos ns) i 0 = K at *
  have HKK : Hid _ := hK
  clear hK
  have hzb : (K == 0) = false := by rw [beq_eq_false_iff_ne]; exact hz
  have hzb2 : (K != 0) = true := by simp [hz]
  go_wp2_with ((with_reducible refine stat_here ?_); refine wpList_store_bx13 rfl 57 _ _ rfl (w.heap.size + 1) [.int .i64 0, .int .i64 0, .int .i64 0, .int .i64 0, .int .i64 0, .int .i64 0, .int .i64 0, .int .i64 0, .int .i64 0] rfl rfl HG1.out.2.2.2 stat_size rfl rfl ?_; intro W9 hz9 g9)
  obtain ⟨z0, z1, z2, z3, z4, z5, z6, z7, z8⟩ := bx9 hz9
  have HF : Hid _ := grown_new HG1.out.1 g9 (by omega)
  refine bodyPost_ret (v := .tuple #[stV 0 0 0 0 0 0 0 0 0, .int .i64 K]) (by simp [results, Tryz.results24, go_sem, stV, *]) rfl ?_
  exact ⟨HF.out, Or.inl ⟨by rw [HKK.out]; exact HZ.out, by rw [HKK.out]⟩⟩
theorem need_ok (w : World) : Calls Tryz.prog 91 #[.int .i64 0] w fun e w' => e = .returned (.tuple #[]) ∧ w = w' := by
 go_enter Tryz.func91, Tryz.ntmps91
 go_wp2
 refine bodyPost_end (results_none rfl _ _ _) rfl ?_
 exact ⟨rfl, rfl⟩
/-- a walk on its way, in memory -/
structure Wl (w W : World) (gw mb : Nat) (p : Int) (left : List ByteArray) (lk : Int) (la : Option Addr) (lc : Nat) : Prop where
 gr : w.grownBy W none
 new : w.heap.size ≤ gw
 box : Bx W gw 142 [.pointer (some ⟨mb, 0, none⟩), .int .i64 p, .slice la left.length lc, .int .i64 lk]
 row : SRow W la left.length left
 cap : left.length ≤ lc
theorem srow_kept {w w' : World} {a : Option Addr} {n : Nat} {l : List ByteArray} (h : SRow w a n l) (g : w.grownBy w' none) : SRow w' a n l :=
 ⟨h.len_eq, fun h0 => by obtain ⟨b, off, e, k⟩ := h.cells h0; exact ⟨b, off, e, fun i hi => cell_grown (k i hi) g⟩⟩
theorem Wl.kept {w W W' : World} {gw mb : Nat} {p lk : Int} {left : List ByteArray} {la : Option Addr} {lc : Nat} (h : Wl w W gw mb p left lk la lc) (g : W.grownBy W' none) : Wl w W' gw mb p left lk la lc :=
 ⟨xgt h.gr g, h.new, h.box.kept g, srow_kept h.row g, h.cap⟩
/-- the parts that are left are laid anew -/
theorem Wl.lay {w W : World} {gw mb base : Nat} {p lk : Int} {left X : List ByteArray} {la : Option Addr} {lc m : Nat} {a : Option Addr} {c : Nat} (hg : w.grownBy W none) (hn : w.heap.size ≤ gw)
  (hb : Bx W gw 142 [.pointer (some ⟨mb, 0, none⟩), .int .i64 p, .slice la left.length lc, .int .i64 lk]) (ho : W.ownsRow base 9 1 (.slice a m c) m (sv X)) (hlt : gw < base) :
  Wl w (W.setCell ⟨gw, 2, none⟩ (.slice a m c)) gw mb p X lk a c := by
 have ho2 := ho.kept (grown_set W gw 2 (.slice a m c)) (Or.inr (fun e => by have := (ho.lt _ e).1; omega))
 obtain ⟨a', c', e, hr, hc, -⟩ := owns_srow ho2
 injection e with e1 e2 e3
 subst e1 e3
 have hm : X.length = m := hr.len_eq
 subst hm
 exact ⟨grown_new hg (grown_set _ _ _ _) hn, hn, hb.set 2 _, hr, hc⟩
theorem srow_src {w : World} {ad : Addr} {n : Nat} {l : List ByteArray} (R : SRow w (some ad) n l) : ∀ j u, (sv l)[j]? = some u → w.cell? (ad.add j) = some u := by
 intro j u h
 have hj : j < l.length := by
  rcases Nat.lt_or_ge j l.length with k | k
  ·exact k
  ·rw [List.getElem?_eq_none (by rw [sv_len]; exact k)] at h; cases h
 have hn := R.len_eq
 obtain ⟨b, off, e, hc⟩ := R.cells (by omega)
 injection e with e
 subst e
 have hadd : (⟨b, off, none⟩ : Addr).add j = ⟨b, off + j, none⟩ := by unfold Addr.add; split <;> simp_all
 rw [hadd, hc j (by omega)]
 unfold sv at h
 rw [List.getElem?_map, List.getElem?_eq_getElem hj] at h
 rw [List.getD_eq_getElem?_getD, List.getElem?_eq_getElem hj]
 exact h
set_option maxHeartbeats 8000000 in
theorem pturn_ok (w W : World) (gw mb : Nat) (p lk : Int) (left : List ByteArray) (la : Option Addr) (lc : Nat) (h : Wl w W gw mb p left lk la lc) (a : Option Addr) (n c mp : Nat) (ns : List NoV) (M : Md w mb a n c mp ns)
  (path : ByteArray) (hp : path.size ≤ 4096) (habs : Calls Tryz.prog 118 #[.string path] W fun e w' => e = .returned (.bool false) ∧ W = w') (hk : knd (nos ns) p 2 = 0) (L : List Tx) (hsp : spl path.toList = (L, 0)) (hlen : L.length + left.length ≤ 256) (hle : (left = [] ∧ la = none ∧ lc = 0) ∨ 0 < left.length) :
  Calls Tryz.prog 92 #[.pointer (some ⟨gw, 0, none⟩), .string path] W fun e W' => e = .returned (.tuple #[]) ∧ ∃ la' lc', Wl w W' gw mb p (txs L ++ left) lk la' lc' ∧ W.heap.size ≤ W'.heap.size := by
 have hok := fun W' g => pofkind_any W' mb a n c (.map (some mp)) ns (M.kept g).box (M.kept g).nos p 2 (by decide)
 have x0 : _ = some _ := h.box.c 0
 have x1 : _ = some _ := h.box.c 1
 have hspl := fun W => psplit_any path W (by omega)
 unfold SpPost at hspl
 rw [hsp] at hspl
 simp only at hspl
 obtain ⟨i9, hi9, hz0, hz1, hz2⟩ := info_parts Tryz.info9
 have HW : Hid _ := h
 have HLE : Hid _ := xai hle hlen
 clear h hsp hle hlen
 go_enter Tryz.func92, Tryz.ntmps92
 go_wp2_with (go_at_call 118; refine habs.mono ?_; rintro e w' ⟨rfl, rfl⟩)
 clear x0 x1 habs
 refine wp_region_held_drew (S := fun w' => W.grownBy w' none) (by kernel_rfl) (drewG0 W) (fun hH => ?_)
 generalize W.drew = WD at *
 refine tk (i := 0) (oi := ⟨some 13, _, _, _, _, _⟩) (v := .pointer (some ⟨gw, 0, none⟩)) rfl (Or.inl ⟨by rfl, fun w hSw => by go_simp⟩) hH ?_
 simp only [Act.put, pu]
 refine tk (i := 1) (oi := ⟨some 14, _, _, _, _, _⟩) (v := .pointer (some ⟨gw, 0, none⟩)) rfl (Or.inl ⟨by rfl, fun w hSw => by go_simp⟩) hH ?_
 simp only [Act.put, pu]
 refine tk (i := 2) (oi := ⟨some 15, _, _, _, _, _⟩) (v := .pointer (some ⟨gw, 0, none⟩)) rfl (Or.inl ⟨by rfl, fun w hSw => by go_simp⟩) hH ?_
 simp only [Act.put, pu]
 refine tk (i := 3) (oi := ⟨some 16, _, _, _, _, _⟩) (v := .pointer (some ⟨mb, 0, none⟩)) rfl (Or.inl ⟨by rfl, fun w hSw => by have c0 : _ = some _ := (HW.out.box.kept hSw).c 0; go_simp⟩) hH ?_
 simp only [Act.put, pu]
 refine tk (i := 4) (oi := ⟨some 17, _, _, _, _, _⟩) (v := .pointer (some ⟨gw, 0, none⟩)) rfl (Or.inl ⟨by rfl, fun w hSw => by go_simp⟩) hH ?_
 simp only [Act.put, pu]
 refine tk (i := 5) (oi := ⟨some 18, _, _, _, _, _⟩) (v := .pointer (some ⟨gw, 0, none⟩)) rfl (Or.inl ⟨by rfl, fun w hSw => by go_simp⟩) hH ?_
 simp only [Act.put, pu]
 refine tk (i := 6) (oi := ⟨some 19, _, _, _, _, _⟩) (v := .pointer (some ⟨gw, 1, none⟩)) rfl (Or.inl ⟨by rfl, fun w hSw => by go_simp⟩) hH ?_
 simp only [Act.put, pu]
 refine tk (i := 7) (oi := ⟨some 20, _, _, _, _, _⟩) (v := .int .i64 p) rfl (Or.inl ⟨by rfl, fun w hSw => by have c1 : _ = some _ := (HW.out.box.kept hSw).c 1; go_simp⟩) hH ?_
 simp only [Act.put, pu]
 refine wpAnyH_ready (rs := [8, 12]) (by kernel_rfl) (by simp) ?_
 refine AllReadyH.cons rfl (fun K1 hK => ?_) (AllReadyH.cons rfl (fun K1 hK => ?_) AllReadyH.nil)
 ·skip
  go_simp
  refine (hok _ (xgt HW.out.gr hH)).mono ?_
  rintro e W2 ⟨X, rfl, -, -, g2⟩
  rw [hk]
  obtain ⟨NK, mo, uid, gid, ti, sz_, da, dl, dc, data, tg, dev, aa, al, ac, attrs, ka, kl, kc, kids, pa, links0⟩ := X
  simp only [NoV.val]
  replace hH := xgt hH g2
  clear g2
  refine hK.out _ _ hH (fun h0 => ?_)
  clear h0 hK K1
  try simp only [Act.put, pu]
  refine tk (i := 9) (oi := ⟨some 12, _, _, _, _, _⟩) (v := .tuple #[.agg #[.int .i64 NK, .int .i64 mo, .int .i64 uid, .int .i64 gid, .int .i64 ti, .int .i64 sz_, .slice da dl dc, .string tg, .int .i64 dev, .slice aa al ac, .slice ka kl kc, .int .i64 pa, .int .i64 links0], .int .i64 0]) rfl (Or.inl ⟨by rfl, fun w hSw => by go_simp⟩) hH ?_
  simp only [Act.put, pu]
  refine tk (i := 10) (oi := ⟨some 22, _, _, _, _, _⟩) (v := .agg #[.int .i64 NK, .int .i64 mo, .int .i64 uid, .int .i64 gid, .int .i64 ti, .int .i64 sz_, .slice da dl dc, .string tg, .int .i64 dev, .slice aa al ac, .slice ka kl kc, .int .i64 pa, .int .i64 links0]) rfl (Or.inl ⟨by rfl, fun w hSw => by go_simp⟩) hH ?_
  simp only [Act.put, pu]
  refine tk (i := 11) (oi := ⟨some 23, _, _, _, _, _⟩) (v := .int .i64 0) rfl (Or.inl ⟨by rfl, fun w hSw => by go_simp⟩) hH ?_
  simp only [Act.put, pu]
  refine wpAnyH_ready (rs := [12]) (by kernel_rfl) (by simp) ?_
  refine AllReadyH.cons rfl (fun K1 hK => ?_) AllReadyH.nil
  go_simp
  have gA := xga W2 (.cells #[.int .i64 0, .int .i64 0, .int .i64 0, .int .i64 0, .int .i64 0, .int .i64 0, .slice none 0 0, .string ⟨#[]⟩, .int .i64 0, .slice none 0 0, .slice none 0 0, .int .i64 0, .int .i64 0] 43) none
  have hZ := Bx.new W2 43 [.int .i64 0, .int .i64 0, .int .i64 0, .int .i64 0, .int .i64 0, .int .i64 0, .slice none 0 0, .string ⟨#[]⟩, .int .i64 0, .slice none 0 0, .slice none 0 0, .int .i64 0, .int .i64 0]
  have hnz : W.heap.size ≤ W2.heap.size := hH.size
  replace hH := xgt hH gA
  clear gA
  generalize W2.alloc (.cells #[.int .i64 0, .int .i64 0, .int .i64 0, .int .i64 0, .int .i64 0, .int .i64 0, .slice none 0 0, .string ⟨#[]⟩, .int .i64 0, .slice none 0 0, .slice none 0 0, .int .i64 0, .int .i64 0] 43) = W3 at *
  generalize W2.heap.size = gz at *
  refine hK.out _ _ hH (fun h0 => ?_)
  clear h0 hK K1
  try simp only [Act.put, pu]
  refine wpAnyH_ready (rs := [13]) (by kernel_rfl) (by simp) ?_
  refine AllReadyH.cons rfl (fun K1 hK => ?_) AllReadyH.nil
  refine step_store_bx (by rfl) 43 _ _ (by rfl) gz [.int .i64 NK, .int .i64 mo, .int .i64 uid, .int .i64 gid, .int .i64 ti, .int .i64 sz_, .slice da dl dc, .string tg, .int .i64 dev, .slice aa al ac, .slice ka kl kc, .int .i64 pa, .int .i64 links0] (by rfl) (by rfl) hZ node_size rfl rfl ?_
  intro W4 hN g4
  replace hH := grown_new hH g4 hnz
  clear hN g4 hZ
  refine hK.out _ _ hH (fun h0 => ?_)
  clear h0 hK K1
  try simp only [Act.put, pu]
  refine tk (i := 14) (oi := ⟨some 5, _, _, _, _, _⟩) (v := .int .i64 0) rfl (Or.inl ⟨by rfl, fun w hSw => by go_simp⟩) hH ?_
  simp only [Act.put, pu]
  refine wpAnyH_done (by kernel_rfl) ?_ _
  have HW4 : Hid _ := HW.out.kept hH
  have HS4 : Hid _ := hH.size
  have HGW4 : Hid (gw < W4.heap.size) := HW4.out.box.lt
  have HGW4b : Hid (w.heap.size ≤ W4.heap.size) := HW4.out.gr.size
  clear hH hnz
  go_wp2_with (go_at_call 91; refine (need_ok _).mono ?_; rintro e w' ⟨rfl, rfl⟩)
  refine (hspl _).mono ?_
  rintro e W5 ⟨a1, n1, c1, rfl, hown, g5⟩
  have HW5 : Hid _ := xai (HW4.out.kept g5) (xai hown (xai g5.size (Nat.le_trans HS4.out g5.size)))
  have c2 : _ = some _ := HW5.out.1.box.c 2
  have hn1 : n1 = L.length := by
   have := hown.1
   rw [sv_len] at this
   unfold txs at this
   rw [List.length_map] at this
   omega
  have hll : n1 + left.length ≤ 256 := by rw [hn1]; exact HLE.out.2
  have HN1 : Hid _ := hn1
  clear hown g5 hspl hn1 HW4
  generalize hlf : left.length = ll at *
  have HLF : Hid _ := hlf
  clear hlf
  have hcmp : ¬ (256 : Int) < (n1 : Int) + (ll : Int) := by omega
  have f2 := HW5.out.1.box.f 2
  have hgw : gw < W4.heap.size := HGW4.out
  rcases HLE.out.1 with ⟨hl0, rfl, rfl⟩ | hl0
  ·have hll0 : ll = 0 := by rw [← HLF.out, hl0]; rfl
   subst hll0
   have HL0 : Hid _ := hl0
   clear hl0
   go_wp2_with (first | (go_at_call 91; refine (need_ok _).mono ?_; rintro e w' ⟨rfl, rfl⟩) | (at_builtin; refine wpList_append_own_none rfl _ _ 77 rfl W4.heap.size 9 i9 1 Tryz.underlying77 hi9 _ n1 _ rfl HW5.out.2.1 rfl ?_) | fail)
   refine bodyPost_end (results_none rfl _ _ _) rfl ?_
   refine ⟨rfl, a1, c1, ?_, by rw [size_set]; exact HW5.out.2.2.2⟩
   rw [HL0.out, List.append_nil]
   have hbx := HW5.out.1.box
   exact Wl.lay HW5.out.1.gr HW5.out.1.new hbx HW5.out.2.1 hgw
  ·obtain ⟨lb, lo, rfl, -⟩ := HW5.out.1.row.cells (by have h1 := HLF.out; omega)
   clear hl0
   go_wp2_with (first | (go_at_call 91; refine (need_ok _).mono ?_; rintro e w' ⟨rfl, rfl⟩) | (at_builtin; refine wpList_append_own _ rfl _ _ 77 rfl W4.heap.size 9 i9 (.string ⟨#[]⟩) 1 16 Tryz.underlying77 hi9 hz0 hz1 hz2 rfl (by decide) _ n1 _ rfl HW5.out.2.1 ⟨lb, lo, none⟩ ll lc (sv left) rfl (by rw [sv_len, HLF.out, Nat.mul_one]) (srow_src HW5.out.1.row) (sv_one _) (by unfold maxLen; omega) (by omega) HW5.out.2.2.1 ?_; intro v6 W6 own6 grow6 h6; obtain ⟨a6, c6, rfl⟩ := own_shape own6; have hbne : some gw ≠ (Value.slice a1 n1 c1).ownBlock := (fun e => by have := (HW5.out.2.1.lt _ e.symm).1; omega); have HW6 : Hid _ := xai own6 (xai (HW5.out.1.box.but grow6 hbne) (xai (grown_own9 HW5.out.1.gr HW5.out.2.1 grow6 HGW4b.out) (Nat.le_trans HW5.out.2.2.2 grow6.size))); have d2 : _ = some _ := HW6.out.2.1.c 2; have e2 := HW6.out.2.1.f 2; clear own6 grow6 h6 hbne) | fail)
   refine bodyPost_end (results_none rfl _ _ _) rfl ?_
   refine ⟨rfl, a6, c6, ?_, by rw [size_set]; exact HW6.out.2.2.2⟩
   have ho := HW6.out.1
   rw [← sv_app] at ho
   exact Wl.lay HW6.out.2.2.1 HW5.out.1.new HW6.out.2.1 ho hgw
 ·skip
  go_simp
  have gA := xga WD (.cells #[.int .i64 0, .int .i64 0, .int .i64 0, .int .i64 0, .int .i64 0, .int .i64 0, .slice none 0 0, .string ⟨#[]⟩, .int .i64 0, .slice none 0 0, .slice none 0 0, .int .i64 0, .int .i64 0] 43) none
  have hZ := Bx.new WD 43 [.int .i64 0, .int .i64 0, .int .i64 0, .int .i64 0, .int .i64 0, .int .i64 0, .slice none 0 0, .string ⟨#[]⟩, .int .i64 0, .slice none 0 0, .slice none 0 0, .int .i64 0, .int .i64 0]
  have hnz : W.heap.size ≤ WD.heap.size := hH.size
  replace hH := xgt hH gA
  clear gA
  generalize WD.alloc (.cells #[.int .i64 0, .int .i64 0, .int .i64 0, .int .i64 0, .int .i64 0, .int .i64 0, .slice none 0 0, .string ⟨#[]⟩, .int .i64 0, .slice none 0 0, .slice none 0 0, .int .i64 0, .int .i64 0] 43) = W3 at *
  generalize WD.heap.size = gz at *
  refine hK.out _ _ hH (fun h0 => ?_)
  clear h0 hK K1
  try simp only [Act.put, pu]
  refine wpAnyH_ready (rs := [8]) (by kernel_rfl) (by simp) ?_
  refine AllReadyH.cons rfl (fun K1 hK => ?_) AllReadyH.nil
  go_simp
  refine (hok _ (xgt HW.out.gr hH)).mono ?_
  rintro e W2 ⟨X, rfl, -, -, g2⟩
  rw [hk]
  obtain ⟨NK, mo, uid, gid, ti, sz_, da, dl, dc, data, tg, dev, aa, al, ac, attrs, ka, kl, kc, kids, pa, links0⟩ := X
  simp only [NoV.val]
  replace hZ := hZ.kept g2
  replace hH := xgt hH g2
  clear g2
  refine hK.out _ _ hH (fun h0 => ?_)
  clear h0 hK K1
  try simp only [Act.put, pu]
  refine tk (i := 9) (oi := ⟨some 12, _, _, _, _, _⟩) (v := .tuple #[.agg #[.int .i64 NK, .int .i64 mo, .int .i64 uid, .int .i64 gid, .int .i64 ti, .int .i64 sz_, .slice da dl dc, .string tg, .int .i64 dev, .slice aa al ac, .slice ka kl kc, .int .i64 pa, .int .i64 links0], .int .i64 0]) rfl (Or.inl ⟨by rfl, fun w hSw => by go_simp⟩) hH ?_
  simp only [Act.put, pu]
  refine tk (i := 10) (oi := ⟨some 22, _, _, _, _, _⟩) (v := .agg #[.int .i64 NK, .int .i64 mo, .int .i64 uid, .int .i64 gid, .int .i64 ti, .int .i64 sz_, .slice da dl dc, .string tg, .int .i64 dev, .slice aa al ac, .slice ka kl kc, .int .i64 pa, .int .i64 links0]) rfl (Or.inl ⟨by rfl, fun w hSw => by go_simp⟩) hH ?_
  simp only [Act.put, pu]
  refine tk (i := 11) (oi := ⟨some 23, _, _, _, _, _⟩) (v := .int .i64 0) rfl (Or.inl ⟨by rfl, fun w hSw => by go_simp⟩) hH ?_
  simp only [Act.put, pu]
  refine wpAnyH_ready (rs := [13]) (by kernel_rfl) (by simp) ?_
  refine AllReadyH.cons rfl (fun K1 hK => ?_) AllReadyH.nil
  refine step_store_bx (by rfl) 43 _ _ (by rfl) gz [.int .i64 NK, .int .i64 mo, .int .i64 uid, .int .i64 gid, .int .i64 ti, .int .i64 sz_, .slice da dl dc, .string tg, .int .i64 dev, .slice aa al ac, .slice ka kl kc, .int .i64 pa, .int .i64 links0] (by rfl) (by rfl) hZ node_size rfl rfl ?_
  intro W4 hN g4
  replace hH := grown_new hH g4 hnz
  clear hN g4 hZ
  refine hK.out _ _ hH (fun h0 => ?_)
  clear h0 hK K1
  try simp only [Act.put, pu]
  refine tk (i := 14) (oi := ⟨some 5, _, _, _, _, _⟩) (v := .int .i64 0) rfl (Or.inl ⟨by rfl, fun w hSw => by go_simp⟩) hH ?_
  simp only [Act.put, pu]
  refine wpAnyH_done (by kernel_rfl) ?_ _
  have HW4 : Hid _ := HW.out.kept hH
  have HS4 : Hid _ := hH.size
  have HGW4 : Hid (gw < W4.heap.size) := HW4.out.box.lt
  have HGW4b : Hid (w.heap.size ≤ W4.heap.size) := HW4.out.gr.size
  clear hH hnz
  go_wp2_with (go_at_call 91; refine (need_ok _).mono ?_; rintro e w' ⟨rfl, rfl⟩)
  refine (hspl _).mono ?_
  rintro e W5 ⟨a1, n1, c1, rfl, hown, g5⟩
  have HW5 : Hid _ := xai (HW4.out.kept g5) (xai hown (xai g5.size (Nat.le_trans HS4.out g5.size)))
  have c2 : _ = some _ := HW5.out.1.box.c 2
  have hn1 : n1 = L.length := by
   have := hown.1
   rw [sv_len] at this
   unfold txs at this
   rw [List.length_map] at this
   omega
  have hll : n1 + left.length ≤ 256 := by rw [hn1]; exact HLE.out.2
  have HN1 : Hid _ := hn1
  clear hown g5 hspl hn1 HW4
  generalize hlf : left.length = ll at *
  have HLF : Hid _ := hlf
  clear hlf
  have hcmp : ¬ (256 : Int) < (n1 : Int) + (ll : Int) := by omega
  have f2 := HW5.out.1.box.f 2
  have hgw : gw < W4.heap.size := HGW4.out
  rcases HLE.out.1 with ⟨hl0, rfl, rfl⟩ | hl0
  ·have hll0 : ll = 0 := by rw [← HLF.out, hl0]; rfl
   subst hll0
   have HL0 : Hid _ := hl0
   clear hl0
   go_wp2_with (first | (go_at_call 91; refine (need_ok _).mono ?_; rintro e w' ⟨rfl, rfl⟩) | (at_builtin; refine wpList_append_own_none rfl _ _ 77 rfl W4.heap.size 9 i9 1 Tryz.underlying77 hi9 _ n1 _ rfl HW5.out.2.1 rfl ?_) | fail)
   refine bodyPost_end (results_none rfl _ _ _) rfl ?_
   refine ⟨rfl, a1, c1, ?_, by rw [size_set]; exact HW5.out.2.2.2⟩
   rw [HL0.out, List.append_nil]
   have hbx := HW5.out.1.box
   exact Wl.lay HW5.out.1.gr HW5.out.1.new hbx HW5.out.2.1 hgw
  ·obtain ⟨lb, lo, rfl, -⟩ := HW5.out.1.row.cells (by have h1 := HLF.out; omega)
   clear hl0
   go_wp2_with (first | (go_at_call 91; refine (need_ok _).mono ?_; rintro e w' ⟨rfl, rfl⟩) | (at_builtin; refine wpList_append_own _ rfl _ _ 77 rfl W4.heap.size 9 i9 (.string ⟨#[]⟩) 1 16 Tryz.underlying77 hi9 hz0 hz1 hz2 rfl (by decide) _ n1 _ rfl HW5.out.2.1 ⟨lb, lo, none⟩ ll lc (sv left) rfl (by rw [sv_len, HLF.out, Nat.mul_one]) (srow_src HW5.out.1.row) (sv_one _) (by unfold maxLen; omega) (by omega) HW5.out.2.2.1 ?_; intro v6 W6 own6 grow6 h6; obtain ⟨a6, c6, rfl⟩ := own_shape own6; have hbne : some gw ≠ (Value.slice a1 n1 c1).ownBlock := (fun e => by have := (HW5.out.2.1.lt _ e.symm).1; omega); have HW6 : Hid _ := xai own6 (xai (HW5.out.1.box.but grow6 hbne) (xai (grown_own9 HW5.out.1.gr HW5.out.2.1 grow6 HGW4b.out) (Nat.le_trans HW5.out.2.2.2 grow6.size))); have d2 : _ = some _ := HW6.out.2.1.c 2; have e2 := HW6.out.2.1.f 2; clear own6 grow6 h6 hbne) | fail)
   refine bodyPost_end (results_none rfl _ _ _) rfl ?_
   refine ⟨rfl, a6, c6, ?_, by rw [size_set]; exact HW6.out.2.2.2⟩
   have ho := HW6.out.1
   rw [← sv_app] at ho
   exact Wl.lay HW6.out.2.2.1 HW5.out.1.new HW6.out.2.1 ho hgw
end Go.Proofs.YtaclbaapfllcoaaGreatDoor
