/- A node's fields, a link's tg: the program's. -/
import Derived.Test.YtlehncfehoelbaaGreatDoorProg
import Derived.OwnWalk
import Derived.Laws.AppendOwnNone
import Derived.WalkSpells
import Derived.WalkLawsBesides
import Derived.WalkKit
import Derived.Below
import Derived.BigRegion
import Derived.Deep.QuietTactic
import Derived.Shelf.Strconv.Clone
import Derived.Lib.AppendStr
import Derived.RangeFuncNested
import Derived.RangeFuncBound
import Derived.RangeFuncCalls
import Derived.RangeFuncLeaves
import Derived.RangeFuncBox
import Derived.Shelf.Abstract
import Derived.Shelf.RegionOpen
import Derived.OwnWalkIn
import Derived.TacticsInMore
import Derived.LoopNIn
import Derived.LoopIn
import Derived.Maps.AppendAt
import Derived.Test.YtlehncfehoelbaaGreatDoorCq02
import Derived.Test.YtlehncfehoelbaaGreatDoorCq07
namespace Go.Proofs.YtlehncfehoelbaaGreatDoor
open Go.RowKit
set_option maxRecDepth 100000
set_option linter.unusedSimpArgs false
set_option linter.unusedVariables false
theorem stat_size : (Tryz.prog.info? 68).map (·.size) = some 9 := by kernel_rfl
theorem stat_here {P : Program} {w : World} {ops : Array Oper} {rest : List Oper} {a : Act} {Q : Exit → Act → World → Prop} {dst : Option Nat} {x y : Operand} {type : TypeId} {pos : String} {after : Array Edge} {guard : Option (Nat × Bool)}
  (h : wpList P ops Q (⟨dst, .store 68 x y, type, pos, after, guard⟩ :: rest) a w) : wpList P ops Q (⟨dst, .store 68 x y, type, pos, after, guard⟩ :: rest) a w := h
theorem bx9 {W : World} {g : Nat} {T : TypeId} {x0 x1 x2 x3 x4 x5 x6 x7 x8 : Value} (h : Bx W g T [x0, x1, x2, x3, x4, x5, x6, x7, x8]) : W.cell? ⟨g, 0, none⟩ = some x0 ∧ W.cell? ⟨g, 1, none⟩ = some x1 ∧ W.cell? ⟨g, 2, none⟩ = some x2 ∧ W.cell? ⟨g, 3, none⟩ = some x3 ∧ W.cell? ⟨g, 4, none⟩ = some x4 ∧ W.cell? ⟨g, 5, none⟩ = some x5 ∧ W.cell? ⟨g, 6, none⟩ = some x6 ∧ W.cell? ⟨g, 7, none⟩ = some x7 ∧ W.cell? ⟨g, 8, none⟩ = some x8 := ⟨h.c 0, h.c 1, h.c 2, h.c 3, h.c 4, h.c 5, h.c 6, h.c 7, h.c 8⟩
def szP (X : NoV) : Int := if X.k = 2 then (X.kl : Int) else if X.k = 3 then (X.target.size : Int) else X.size
def stV (i k mo uid gid ti sz_ dev lk : Int) : Value := .agg #[.int .i64 i, .int .i64 k, .int .i64 mo, .int .i64 uid, .int .i64 gid, .int .i64 ti, .int .i64 sz_, .int .i64 dev, .int .i64 lk]
set_option maxHeartbeats 2000000 in
theorem psize_any (X : NoV) (w : World) : Calls Tryz.prog 52 #[X.val] w fun e w' => e = .returned (.int .i64 (szP X)) ∧ w.grownBy w' none := by
 obtain ⟨NK, mo, uid, gid, ti, sz_, da, dl, dc, data, tg, dev, aa, al, ac, attrs, ka, kl, kc, kids, pa, lk⟩ := X
 simp only [NoV.val]
 have gB := xga w (.cells #[.int .i64 NK, .int .i64 mo, .int .i64 uid, .int .i64 gid, .int .i64 ti, .int .i64 sz_, .slice da dl dc, .string tg, .int .i64 dev, .slice aa al ac, .slice ka kl kc, .int .i64 pa, .int .i64 lk] 43) none
 have bB := Bx.new w 43 [.int .i64 NK, .int .i64 mo, .int .i64 uid, .int .i64 gid, .int .i64 ti, .int .i64 sz_, .slice da dl dc, .string tg, .int .i64 dev, .slice aa al ac, .slice ka kl kc, .int .i64 pa, .int .i64 lk]
 obtain ⟨z0, z1, z2, z3, z4, z5, z6, z7, z8, z9, z10, z11, z12⟩ := bx13 bB
 have HG : Hid _ := gB
 clear gB bB
 obtain ⟨R, hR⟩ : ∃ R, R = szP ⟨NK, mo, uid, gid, ti, sz_, da, dl, dc, data, tg, dev, aa, al, ac, attrs, ka, kl, kc, kids, pa, lk⟩ := ⟨_, rfl⟩
 rw [← hR]
 unfold szP at hR
 simp only at hR
 have HR : Hid _ := hR
 clear hR
 by_cases h2 : NK = 2
 ·subst h2
  have HV : Hid (R = (kl : Int)) := by show _ = _; rw [HR.out, if_pos rfl]
  clear HR
  go_enter Tryz.func52, Tryz.ntmps52
  go_wp2
  go_ret
  exact ⟨by rw [HV.out]; rfl, HG.out⟩
 ·have h2b : (NK == 2) = false := by rw [beq_eq_false_iff_ne]; exact h2
  by_cases h3 : NK = 3
  ·subst h3
   have HV : Hid (R = (tg.size : Int)) := by show _ = _; rw [HR.out, if_neg h2, if_pos rfl]
   clear HR h2
   go_enter Tryz.func52, Tryz.ntmps52
   go_wp2
   go_ret
   exact ⟨by rw [HV.out]; rfl, HG.out⟩
  ·have h3b : (NK == 3) = false := by rw [beq_eq_false_iff_ne]; exact h3
   have HV : Hid (R = sz_) := by show _ = _; rw [HR.out, if_neg h2, if_neg h3]
   clear HR h2 h3
   go_enter Tryz.func52, Tryz.ntmps52
   go_wp2
   go_ret
   exact ⟨by rw [HV.out]; rfl, HG.out⟩
theorem grown_weak {a b : World} (h : a.grownBy b none) (r : Option Nat) : a.grownBy b r := ⟨h.os, h.tape, h.output, h.size, fun k hk _ => h.block k hk (by simp)⟩
def StPost12 (w : World) (ns : List NoV) (i : Int) (e : Ending) (w' : World) : Prop := w.grownBy w' none ∧ ((knd (nos ns) i 0 ≠ 0 ∧ e = .returned (.tuple #[stV 0 0 0 0 0 0 0 0 0, .int .i64 (knd (nos ns) i 0)])) ∨
 ∃ X : NoV, knd (nos ns) i 0 = 0 ∧ 0 ≤ i ∧ ns[i.toNat]? = some X ∧ e = .returned (.tuple #[stV i X.k X.mode X.uid X.gid X.time (szP X) X.dev X.links, .int .i64 0]))
set_option maxHeartbeats 8000000 in
theorem pstat_any (w : World) (mb : Nat) (a : Option Addr) (n c mp : Nat) (ns : List NoV) (h : Md w mb a n c mp ns) (i : Int) :
  Calls Tryz.prog 26 #[.pointer (some ⟨mb, 0, none⟩), .int .i64 i] w (StPost12 w ns i) := by
 have gR := xga w (.cells #[.int .i64 0, .int .i64 0, .int .i64 0, .int .i64 0, .int .i64 0, .int .i64 0, .int .i64 0, .int .i64 0, .int .i64 0] 68) none
 have bR := Bx.new w 68 [.int .i64 0, .int .i64 0, .int .i64 0, .int .i64 0, .int .i64 0, .int .i64 0, .int .i64 0, .int .i64 0, .int .i64 0]
 have hok := pnode12_any _ mb a n c (.map (some mp)) ns (h.kept gR).box (h.kept gR).nos i
 have HM : Hid _ := xai bR gR
 clear h gR bR
 go_enter Tryz.func26, Tryz.ntmps26
 go_wp2_with fail
 generalize hWR : w.alloc (.cells #[.int .i64 0, .int .i64 0, .int .i64 0, .int .i64 0, .int .i64 0, .int .i64 0, .int .i64 0, .int .i64 0, .int .i64 0] 68) = WR at *
 clear hWR
 refine hok.mono ?_
 clear hok
 rintro e W0 ⟨X, rfl, h0, h1, g0⟩
 have HX : Hid _ := xai h0 (xai h1 (xai (xgt HM.out.2 g0) (HM.out.1.kept g0)))
 clear h0 h1 g0 HM
 by_cases hz : knd (nos ns) i 0 = 0
 ·have hX := HX.out.1 hz
  have HZ : Hid _ := xai hz hX
  rw [hz]
  have hps := fun W => psize_any X W
  obtain ⟨R, hR⟩ : ∃ R, R = szP X := ⟨_, rfl⟩
  rw [← hR] at hps
  have HR : Hid _ := hR
  clear hR hX hz
  obtain ⟨NK, mo, uid, gid, ti, sz_, da, dl, dc, data, tg, dev, aa, al, ac, attrs, ka, kl, kc, kids, pa, lk⟩ := X
  simp only [NoV.val]
  simp only [NoV.val] at hps
  have gB := xga W0 (.cells #[.int .i64 NK, .int .i64 mo, .int .i64 uid, .int .i64 gid, .int .i64 ti, .int .i64 sz_, .slice da dl dc, .string tg, .int .i64 dev, .slice aa al ac, .slice ka kl kc, .int .i64 pa, .int .i64 lk] 43) none
  have bB := Bx.new W0 43 [.int .i64 NK, .int .i64 mo, .int .i64 uid, .int .i64 gid, .int .i64 ti, .int .i64 sz_, .slice da dl dc, .string tg, .int .i64 dev, .slice aa al ac, .slice ka kl kc, .int .i64 pa, .int .i64 lk]
  have H5 : Hid _ := xai (xgt HX.out.2.2.1 gB) (xai (HX.out.2.2.2.kept gB) (xai bB HX.out.2.2.2.lt))
  clear gB bB HX
  go_wp2_with fail
  generalize hWB : W0.alloc (.cells #[.int .i64 NK, .int .i64 mo, .int .i64 uid, .int .i64 gid, .int .i64 ti, .int .i64 sz_, .slice da dl dc, .string tg, .int .i64 dev, .slice aa al ac, .slice ka kl kc, .int .i64 pa, .int .i64 lk] 43) = W5 at *
  generalize hgb : W0.heap.size = gb at *
  clear hWB hgb
  have HNE : Hid (gb ≠ w.heap.size) := by have := H5.out.2.2.2; exact (by omega : gb ≠ w.heap.size)
  refine wp_region_held_drew (S := fun w' => W5.grownBy w' (some w.heap.size)) (by kernel_rfl) ⟨rfl, rfl, rfl, Nat.le_refl _, fun _ _ _ => rfl⟩ (fun hH => ?_)
  have HRD : Hid (Bx W5.drew w.heap.size 68 [.int .i64 0, .int .i64 0, .int .i64 0, .int .i64 0, .int .i64 0, .int .i64 0, .int .i64 0, .int .i64 0, .int .i64 0]) := H5.out.2.1.kept (drewG0 W5)
  generalize W5.drew = WD at *
  refine tk (i := 0) (oi := ⟨some 18, _, _, _, _, _⟩) (v := .int .i64 i) rfl (Or.inl ⟨by rfl, fun w hSw => by go_simp⟩) hH ?_
  simp only [Act.put, pu]
  refine tk (i := 1) (oi := ⟨some 19, _, _, _, _, _⟩) (v := .pointer (some ⟨gb, 0, none⟩)) rfl (Or.inl ⟨by rfl, fun w hSw => by go_simp⟩) hH ?_
  simp only [Act.put, pu]
  refine tk (i := 2) (oi := ⟨some 20, _, _, _, _, _⟩) (v := .int .i64 NK) rfl (Or.inl ⟨by rfl, fun w hSw => by have c0 : _ = some _ := (H5.out.2.2.1.but hSw (by simpa using HNE.out)).c 0; go_simp⟩) hH ?_
  simp only [Act.put, pu]
  refine tk (i := 3) (oi := ⟨some 21, _, _, _, _, _⟩) (v := .pointer (some ⟨gb, 1, none⟩)) rfl (Or.inl ⟨by rfl, fun w hSw => by go_simp⟩) hH ?_
  simp only [Act.put, pu]
  refine tk (i := 4) (oi := ⟨some 22, _, _, _, _, _⟩) (v := .int .i64 mo) rfl (Or.inl ⟨by rfl, fun w hSw => by have c1 : _ = some _ := (H5.out.2.2.1.but hSw (by simpa using HNE.out)).c 1; go_simp⟩) hH ?_
  simp only [Act.put, pu]
  refine tk (i := 5) (oi := ⟨some 23, _, _, _, _, _⟩) (v := .pointer (some ⟨gb, 2, none⟩)) rfl (Or.inl ⟨by rfl, fun w hSw => by go_simp⟩) hH ?_
  simp only [Act.put, pu]
  refine tk (i := 6) (oi := ⟨some 24, _, _, _, _, _⟩) (v := .int .i64 uid) rfl (Or.inl ⟨by rfl, fun w hSw => by have c2 : _ = some _ := (H5.out.2.2.1.but hSw (by simpa using HNE.out)).c 2; go_simp⟩) hH ?_
  simp only [Act.put, pu]
  refine tk (i := 7) (oi := ⟨some 25, _, _, _, _, _⟩) (v := .pointer (some ⟨gb, 3, none⟩)) rfl (Or.inl ⟨by rfl, fun w hSw => by go_simp⟩) hH ?_
  simp only [Act.put, pu]
  refine tk (i := 8) (oi := ⟨some 26, _, _, _, _, _⟩) (v := .int .i64 gid) rfl (Or.inl ⟨by rfl, fun w hSw => by have c3 : _ = some _ := (H5.out.2.2.1.but hSw (by simpa using HNE.out)).c 3; go_simp⟩) hH ?_
  simp only [Act.put, pu]
  refine tk (i := 9) (oi := ⟨some 27, _, _, _, _, _⟩) (v := .pointer (some ⟨gb, 4, none⟩)) rfl (Or.inl ⟨by rfl, fun w hSw => by go_simp⟩) hH ?_
  simp only [Act.put, pu]
  refine tk (i := 10) (oi := ⟨some 28, _, _, _, _, _⟩) (v := .int .i64 ti) rfl (Or.inl ⟨by rfl, fun w hSw => by have c4 : _ = some _ := (H5.out.2.2.1.but hSw (by simpa using HNE.out)).c 4; go_simp⟩) hH ?_
  simp only [Act.put, pu]
  refine tk (i := 11) (oi := ⟨some 29, _, _, _, _, _⟩) (v := .agg #[.int .i64 NK, .int .i64 mo, .int .i64 uid, .int .i64 gid, .int .i64 ti, .int .i64 sz_, .slice da dl dc, .string tg, .int .i64 dev, .slice aa al ac, .slice ka kl kc, .int .i64 pa, .int .i64 lk]) rfl (Or.inl ⟨by rfl, fun w hSw => by obtain ⟨c0, c1, c2, c3, c4, c5, c6, c7, c8, c9, c10, c11, c12⟩ := bx13 (H5.out.2.2.1.but hSw (by simpa using HNE.out)); go_simp⟩) hH ?_
  simp only [Act.put, pu]
  refine tk (i := 13) (oi := ⟨some 31, _, _, _, _, _⟩) (v := .pointer (some ⟨gb, 8, none⟩)) rfl (Or.inl ⟨by rfl, fun w hSw => by go_simp⟩) hH ?_
  simp only [Act.put, pu]
  refine tk (i := 14) (oi := ⟨some 32, _, _, _, _, _⟩) (v := .int .i64 dev) rfl (Or.inl ⟨by rfl, fun w hSw => by have c8 : _ = some _ := (H5.out.2.2.1.but hSw (by simpa using HNE.out)).c 8; go_simp⟩) hH ?_
  simp only [Act.put, pu]
  refine tk (i := 15) (oi := ⟨some 33, _, _, _, _, _⟩) (v := .pointer (some ⟨gb, 12, none⟩)) rfl (Or.inl ⟨by rfl, fun w hSw => by go_simp⟩) hH ?_
  simp only [Act.put, pu]
  refine tk (i := 16) (oi := ⟨some 34, _, _, _, _, _⟩) (v := .int .i64 lk) rfl (Or.inl ⟨by rfl, fun w hSw => by have c12 : _ = some _ := (H5.out.2.2.1.but hSw (by simpa using HNE.out)).c 12; go_simp⟩) hH ?_
  simp only [Act.put, pu]
  refine wpAnyH_ready (rs := [12]) (by kernel_rfl) (by simp) ?_
  refine AllReadyH.cons rfl (fun K1 hK => ?_) AllReadyH.nil
  go_simp
  refine (hps _).mono ?_
  rintro e W6 ⟨rfl, g6⟩
  have HR6 : Hid _ := HRD.out.kept g6
  replace hH := xgt hH (grown_weak g6 (some w.heap.size))
  clear g6 hps HRD
  refine hK.out _ _ hH (fun h0 => ?_)
  clear h0 hK K1
  try simp only [Act.put, pu]
  refine tk (i := 17) (oi := ⟨some 35, _, _, _, _, _⟩) (v := .agg #[.int .i64 i, .int .i64 NK, .int .i64 mo, .int .i64 uid, .int .i64 gid, .int .i64 ti, .int .i64 R, .int .i64 dev, .int .i64 lk]) rfl (Or.inl ⟨by rfl, fun w hSw => by go_simp⟩) hH ?_
  simp only [Act.put, pu]
  refine wpAnyH_ready (rs := [18]) (by kernel_rfl) (by simp) ?_
  refine AllReadyH.cons rfl (fun K1 hK => ?_) AllReadyH.nil
  refine step_store_bx (by rfl) 68 _ _ (by rfl) w.heap.size [.int .i64 i, .int .i64 NK, .int .i64 mo, .int .i64 uid, .int .i64 gid, .int .i64 ti, .int .i64 R, .int .i64 dev, .int .i64 lk] (by rfl) (by rfl) HR6.out stat_size rfl rfl ?_
  intro W7 hB7 g7
  replace hH := xgt hH g7
  have HB7 : Hid _ := hB7
  clear hB7 g7 HR6
  refine hK.out _ _ hH (fun h0 => ?_)
  clear h0 hK K1
  try simp only [Act.put, pu]
  refine tk (i := 19) (oi := ⟨some 5, _, _, _, _, _⟩) (v := .int .i64 0) rfl (Or.inl ⟨by rfl, fun w hSw => by go_simp⟩) hH ?_
  simp only [Act.put, pu]
  refine wpAnyH_done (by kernel_rfl) ?_ _
  have HF : Hid _ := grown_new H5.out.1 hH (Nat.le_refl _)
  clear hH
  obtain ⟨z0, z1, z2, z3, z4, z5, z6, z7, z8⟩ := bx9 HB7.out
  go_wp2_with fail
  refine bodyPost_ret (v := .tuple #[stV i NK mo uid gid ti R dev lk, .int .i64 0]) (by simp [results, Tryz.results26, go_sem, stV, *]) rfl ?_
  refine ⟨HF.out, Or.inr ⟨⟨NK, mo, uid, gid, ti, sz_, da, dl, dc, data, tg, dev, aa, al, ac, attrs, ka, kl, kc, kids, pa, lk⟩, HZ.out.1, HZ.out.2.1, HZ.out.2.2, ?_⟩⟩
  rw [← HR.out]
 ·obtain rfl := HX.out.2.1 hz
  have HZ : Hid _ := hz
  generalize hK : knd (nos ns) i 0 = K at *
  have HKK : Hid _ := hK
  clear hK
  have hzb : (K == 0) = false := by rw [beq_eq_false_iff_ne]; exact hz
  have hzb2 : (K != 0) = true := by simp [hz]
  have HRB : Hid _ := HX.out.2.2.2
  have gB := xga W0 (.cells #[.int .i64 0, .int .i64 0, .int .i64 0, .int .i64 0, .int .i64 0, .int .i64 0, .slice none 0 0, .string ⟨#[]⟩, .int .i64 0, .slice none 0 0, .slice none 0 0, .int .i64 0, .int .i64 0] 43) none
  have HB2 : Hid _ := xai (HRB.out.kept gB) (xgt HX.out.2.2.1 gB)
  clear HX gB HRB
  simp only [NoV.val, nz12]
  go_wp2_with ((with_reducible refine stat_here ?_); refine wpList_store_bx13 rfl 68 _ _ rfl w.heap.size [.int .i64 0, .int .i64 0, .int .i64 0, .int .i64 0, .int .i64 0, .int .i64 0, .int .i64 0, .int .i64 0, .int .i64 0] rfl rfl HB2.out.1 stat_size rfl rfl ?_; intro W9 hz9 g9)
  obtain ⟨z0, z1, z2, z3, z4, z5, z6, z7, z8⟩ := bx9 hz9
  have HF : Hid _ := grown_new HB2.out.2 g9 (Nat.le_refl _)
  refine bodyPost_ret (v := .tuple #[stV 0 0 0 0 0 0 0 0 0, .int .i64 K]) (by simp [results, Tryz.results26, go_sem, stV, *]) rfl ?_
  exact ⟨HF.out, Or.inl ⟨by rw [HKK.out]; exact HZ.out, by rw [HKK.out]⟩⟩
theorem lkp_bad {L : List No} {d : Int} {s : Tx} (h : knd L d 2 ≠ 0) : lkp L d s = (0, knd L d 2) := by unfold lkp; rw [if_pos h]
theorem lkp_at {ns : List NoV} {d : Nat} {X : NoV} (hX : ns[d]? = some X) (h : knd (nos ns) d 2 = 0) (s : Tx) : lkp (nos ns) (d : Int) s = if s = [46] then ((d : Int), (0 : Int)) else if s = [46, 46] then (X.parent, 0) else if vld s = false then (0, 6) else
  match fnd X.kids s with | some i => (i, 0) | none => (0, 4) := by
 unfold lkp
 rw [if_neg (by rw [h]; simp), Int.toNat_natCast, nos_get12 hX]
 rfl
set_option maxHeartbeats 4000000 in
theorem plookup_any (w : World) (mb : Nat) (a : Option Addr) (n c mp : Nat) (ns : List NoV) (h : Md w mb a n c mp ns) (d : Int) (s : ByteArray) (hs : s.size ≤ 1000000) :
  Calls Tryz.prog 22 #[.pointer (some ⟨mb, 0, none⟩), .int .i64 d, .string s] w fun e w' => e = .returned (.tuple #[.int .i64 (lkp (nos ns) d s.toList).1, .int .i64 (lkp (nos ns) d s.toList).2]) ∧ w.grownBy w' none := by
 have hok := pofkind_any w mb a n c (.map (some mp)) ns h.box h.nos d 2 (by decide)
 have HM : Hid _ := h
 clear h
 obtain ⟨R, hR⟩ : ∃ R, R = lkp (nos ns) d s.toList := ⟨_, rfl⟩
 rw [← hR]
 have HR : Hid _ := hR
 clear hR
 go_enter Tryz.func22, Tryz.ntmps22
 go_wp2_with fail
 refine hok.mono ?_
 clear hok
 rintro e W1 ⟨X, rfl, h0, h1, g1⟩
 have HX : Hid _ := xai h0 (xai h1 g1)
 clear h0 h1 g1
 by_cases hz : knd (nos ns) d 2 = 0
 ·obtain ⟨hd0, hX, hXk⟩ := HX.out.1 hz
  obtain ⟨j, rfl⟩ : ∃ j : Nat, d = (j : Int) := ⟨d.toNat, by omega⟩
  rw [Int.toNat_natCast] at hX
  have hl := lkp_at hX hz s.toList
  rw [hz]
  have hfi := fun W g => pfind_any W mb a n c mp ns (HM.out.kept g) j X hX s hs
  have HG1 : Hid _ := HX.out.2.2
  obtain ⟨NK, mo, uid, gid, ti, sz_, da, dl, dc, data, tg, dev, aa, al, ac, attrs, ka, kl, kc, kids, pa, lk⟩ := X
  simp only [NoV.val]
  simp only at hl hfi
  rw [← HR.out] at hl
  have HL : Hid _ := hl
  clear hl hd0 hX hXk HX hz HR
  have gB := xga W1 (.cells #[.int .i64 NK, .int .i64 mo, .int .i64 uid, .int .i64 gid, .int .i64 ti, .int .i64 sz_, .slice da dl dc, .string tg, .int .i64 dev, .slice aa al ac, .slice ka kl kc, .int .i64 pa, .int .i64 lk] 43) none
  have bB := Bx.new W1 43 [.int .i64 NK, .int .i64 mo, .int .i64 uid, .int .i64 gid, .int .i64 ti, .int .i64 sz_, .slice da dl dc, .string tg, .int .i64 dev, .slice aa al ac, .slice ka kl kc, .int .i64 pa, .int .i64 lk]
  have v11 : _ = some _ := bB.c 11
  have HB : Hid _ := xgt HG1.out gB
  have hf := hfi _ HB.out
  clear gB bB hfi
  cases q1 : (s.toList == [46]) with
  | true =>
   have HV : Hid (R = ((j : Int), 0)) := by show _ = _; rw [HL.out, if_pos (eq_of_beq q1)]
   clear HL hf
   go_wp2
   go_ret2
   exact ⟨(by rw [HV.out]; try rfl), HB.out⟩
  | false =>
   have n1 : s.toList ≠ [46] := by intro e; rw [e] at q1; simp at q1
   cases q2 : (s.toList == [46, 46]) with
   | true =>
    have HV : Hid (R = (pa, 0)) := by show _ = _; rw [HL.out, if_neg n1, if_pos (eq_of_beq q2)]
    clear HL hf n1
    go_wp2
    go_ret2
    exact ⟨(by rw [HV.out]; try rfl), HB.out⟩
   | false =>
    have n2 : s.toList ≠ [46, 46] := by intro e; rw [e] at q2; simp at q2
    have HV : Hid (R = (if vld s.toList = false then 0 else (fnd kids s.toList).getD 0, if vld s.toList = false then 6 else if (fnd kids s.toList).isSome then 0 else 4)) := by
     show _ = _
     rw [HL.out, if_neg n1, if_neg n2]
     cases vld s.toList with
     | false => rfl
     | true =>
      rw [if_neg (by simp), if_neg (by simp), if_neg (by simp)]
      cases fnd kids s.toList <;> rfl
    clear HL n1 n2
    go_wp2_with fail
    generalize (if vld s.toList = false then (0 : Int) else (fnd kids s.toList).getD 0) = r1 at *
    generalize (if vld s.toList = false then (6 : Int) else if (fnd kids s.toList).isSome then 0 else 4) = r2 at *
    refine hf.mono ?_
    rintro e W2 ⟨rfl, g2⟩
    go_wp2
    go_ret2
    exact ⟨(by rw [HV.out]; try rfl), xgt HB.out g2⟩
 ·have hl := lkp_bad (s := s.toList) hz
  rw [← HR.out] at hl
  have HL : Hid _ := hl
  obtain rfl := HX.out.2.1 hz
  have HG1 : Hid _ := HX.out.2.2
  clear HX hl HR
  generalize knd (nos ns) d 2 = K at *
  have hzb : (K == 0) = false := by rw [beq_eq_false_iff_ne]; exact hz
  have hzb2 : (K != 0) = true := by simp [hz]
  simp only [NoV.val, nz12]
  go_wp2
  go_ret2
  exact ⟨(by rw [HL.out]; try rfl), xgt HG1.out (xga _ _ none)⟩
end Go.Proofs.YtlehncfehoelbaaGreatDoor
namespace Go.Proofs.YtlehncfehoelbaaGreatDoor
open Go.RowKit
set_option maxRecDepth 100000
theorem owns_row {w : World} {base : Nat} {v : Value} {n : Nat} {bs : List Int} (h : w.ownsRow base 5 1 v n (bv bs)) (hb : Byt bs) (hl : n ≤ maxLen) : ∃ a cap, v = .slice a n cap ∧ Row w a n bs := by
 obtain ⟨h1, h2⟩ := h
 rw [bv_length, Nat.mul_one] at h1
 rcases h2 with ⟨rfl, rfl⟩ | ⟨g, cap, cur, rfl, _, hg, hc, hm, hs, ht⟩
 ·exact ⟨none, 0, rfl, h1, hl, hb, fun h => absurd h (by omega)⟩
 ·refine ⟨_, cap, rfl, h1, hl, hb, fun _ => ⟨g, 0, rfl, fun i hi => ?_⟩⟩
  have e : w.cell? ⟨g, 0 + i, none⟩ = cur[i]? := by simp [World.cell?, hg]
  rw [e, ← bv_getElem? _ _ (by omega), ← ht, Nat.mul_one, List.getElem?_take, if_pos hi, Array.getElem?_toList]

theorem wpList_append8 {P : Program} {w : World} {ops : Array Oper} {rest : List Oper} {o : Oper} {a : Act} {Q : Exit → Act → World → Prop} (hgd : o.guard = none) (s x : Operand) (t : TypeId)
  (ho : o.op = .call { callee := .builtin .append, args := #[s, x], argTypes := #[t, t] })
  (base : Nat) (i : TypeInfo) (ht : P.underlying t = some (.slice 5)) (hi : P.info? 5 = some i) (hz : i.zero = some (.int .u8 0)) (hsize : i.size = 1) (hby : i.bytes = 1)
  (v : Value) (n : Nat) (xs : List Value) (hs : a.eval s = v) (hown : w.ownsRow base 5 1 v n xs)
  (sa : Option Addr) (m c : Nat) (bs : List Int) (hx : a.eval x = .slice sa m c) (R : Row w sa m bs) (hnil : sa = none → c = 0)
  (hb : n + m ≤ 140737488355328) (hbase : base ≤ w.heap.size)
  (h : ∀ v' w', w'.ownsRow base 5 1 v' (n + m) (xs ++ bv bs) → w.grownBy w' v.ownBlock → wpList P ops Q rest (a.put o.dst v') w') : wpList P ops Q (o :: rest) a w := by
 cases sa with
 | none =>
  have hm : m = 0 := by
   rcases Nat.eq_zero_or_pos m with h0 | h0
   ·exact h0
   ·obtain ⟨_, _, e, _⟩ := R.cells h0; cases e
  subst hm
  obtain rfl : bs = [] := List.eq_nil_of_length_eq_zero R.len_eq
  obtain rfl := hnil rfl
  refine wpList_append_own_none hgd s x t ho base 5 i 1 ht hi v n xs hs hown hx ?_
  exact h v w (by simpa [bv] using hown) (World.grownBy.refl _ _)
 | some ad =>
  refine wpList_append_own w hgd s x t ho base 5 i (.int .u8 0) 1 1 ht hi hz hsize hby rfl (by decide) v n xs hs hown ad m c (bv bs) hx (by rw [bv_length, R.len_eq]; omega) ?_ (bv_one _) (by unfold maxLen; omega) (by omega) hbase (fun v' w' h1 h2 _ => h v' w' h1 h2)
  intro j u hj
  have h0 : 0 < (bv bs).length := by
   rcases Nat.eq_zero_or_pos (bv bs).length with h0 | h0
   ·rw [List.eq_nil_of_length_eq_zero h0] at hj; simp at hj
   ·exact h0
  obtain ⟨ad', e, hc⟩ := R.src h0
  injection e with e
  subst e
  exact hc j u hj
theorem Tryz.info5 : (Tryz.prog.info? 5).map (fun i => (i.zero, i.size, i.bytes)) = some (some (.int .u8 0), 1, 1) := by kernel_rfl
end Go.Proofs.YtlehncfehoelbaaGreatDoor
namespace Go.Proofs.YtlehncfehoelbaaGreatDoor
open Go.RowKit
set_option maxRecDepth 100000
set_option linter.unusedSimpArgs false
set_option linter.unusedVariables false
theorem info_parts {P : Program} {t : TypeId} {z : Option Value} {s b : Nat} (h : (P.info? t).map (fun i => (i.zero, i.size, i.bytes)) = some (z, s, b)) : ∃ i, P.info? t = some i ∧ i.zero = z ∧ i.size = s ∧ i.bytes = b := by
 cases e : P.info? t with
 | none => rw [e] at h; simp at h
 | some i => rw [e] at h; simp at h; exact ⟨i, rfl, h.1, h.2.1, h.2.2⟩
theorem cell_one (w : World) (t : TypeId) (v : Value) (j : Nat) (u : Value) (h : ([v])[j]? = some u) : (w.alloc (.cells #[v] t)).cell? ((⟨w.heap.size, 0, none⟩ : Addr).add j) = some u := by
 cases j with
 | zero =>
  simp at h
  subst h
  simp [Addr.add]
 | succ j => simp at h
theorem grown_own {a b c : World} {base t s n : Nat} {v : Value} {xs : List Value} (h : a.grownBy b none) (ho : b.ownsRow base t s v n xs) (k : b.grownBy c v.ownBlock) (hb : a.heap.size ≤ base) : a.grownBy c none :=
 ⟨k.os.trans h.os, k.tape.trans h.tape, k.output.trans h.output, Nat.le_trans h.size k.size, fun i hi hr => (k.block i (Nat.lt_of_lt_of_le hi h.size) (fun e => by have := (ho.lt i e.symm).1; omega)).trans (h.block i hi hr)⟩
theorem cmp_ctx : ∀ a b : Tx, Lib.compareBytes a b = ctx a b
 | [], [] => rfl
 | [], _ :: _ => rfl
 | _ :: _, [] => rfl
 | a :: r, b :: t => by
  show (if a < b then -1 else if b < a then 1 else Lib.compareBytes r t) = (if a < b then -1 else if b < a then 1 else ctx r t)
  rw [cmp_ctx r t]
set_option maxHeartbeats 1000000 in
set_option maxRecDepth 100000 in
theorem bcompare_any (a b : ByteArray) (w : World) : Calls Tryz.prog 121 #[.string a, .string b] w fun e w' => e = .returned (.int .i64 (ctx a.toList b.toList)) ∧ w = w' := by
 rw [ByteArray.toList_eq, ByteArray.toList_eq, ← cmp_ctx]
 go_enter Tryz.func121, Tryz.ntmps121
 go_wp2
 rw [run_callFunc_extern Tryz.func148 (by kernel_rfl) (by kernel_rfl) (by kernel_rfl) (e := Extern.BytealgCompare.compare) (by kernel_rfl), Lib.run_compareString]
 simp only [Result.andThen]
 rw [Oper.upon_value]
 go_wp2
 go_ret
 exact ⟨rfl, rfl⟩
theorem scompare_any (a b : ByteArray) (w : World) : Calls Tryz.prog 101 #[.string a, .string b] w fun e w' => e = .returned (.int .i64 (ctx a.toList b.toList)) ∧ w = w' := by
 go_enter Tryz.func101, Tryz.ntmps101
 go_wp2_with (go_at_call 121; refine (bcompare_any _ _ _).mono ?_; rintro e w' ⟨rfl, rfl⟩)
 go_ret
 exact ⟨rfl, rfl⟩
set_option maxHeartbeats 2000000 in
theorem pcomparefunc_any (a b : Option Addr) (n c m d : Nat) (l r : List ByteArray) (w : World) (R : SRow w a n l) (R2 : SRow w b m r) (hn : n ≤ 1000000) (hm : m ≤ 1000000) :
  Calls Tryz.prog 119 #[.slice a n c, .slice b m d, .func (.func 101) #[] #[]] w fun e w' => e = .returned (.int .i64 (ord (tls l) (tls r))) ∧ ∃ n, w' = w.drewN n := by
 have HR : Hid _ := And.intro R R2
 have HE : Hid _ := And.intro R.len_eq R2.len_eq
 clear R R2
 go_enter Tryz.func119, Tryz.ntmps119
 go_wp2
 go_loopw [13] (fun i wr => ∃ k : Nat, k ≤ n ∧ k ≤ m ∧ i = .int .i64 k ∧ Hid (ord (tls l) (tls r) = ord ((tls l).drop k) ((tls r).drop k)) ∧ ∃ t, wr = w.drewN t) (fun i _ => n - (intOf i).toNat)
 case atStart => exact ⟨0, Nat.zero_le _, Nat.zero_le _, rfl, rfl, 0, rfl⟩
 case round =>
  obtain ⟨k, h1, h2, rfl, HC, t, rfl⟩ := hrel
  by_cases h3 : k < n
  ·by_cases h4 : k < m
   ·obtain ⟨b1, o1, rfl, c1⟩ := HR.out.1.cells (by omega)
    obtain ⟨b2, o2, rfl, c2⟩ := HR.out.2.cells (by omega)
    have hx := c1 k h3
    have hy := c2 k h4
    have hc := HC.out
    rw [tls_drop (l := l) (by rw [HE.out.1]; exact h3), tls_drop (l := r) (by rw [HE.out.2]; exact h4), ord_cons] at hc
    generalize l.getD k ⟨#[]⟩ = x at *
    generalize r.getD k ⟨#[]⟩ = y at *
    generalize hC : ctx x.toList y.toList = C at *
    have hsc := fun W => scompare_any x y W
    rw [hC] at hsc
    have HD : Hid _ := hc
    clear hc HC c1 c2 hC
    have h3i : (k : Int) < n := by omega
    have h4i : ¬ (m : Int) ≤ k := by omega
    by_cases hC0 : C = 0
    ·subst hC0
     have HV : Hid (ord (tls l) (tls r) = ord ((tls l).drop (k + 1)) ((tls r).drop (k + 1))) := by
      show ord (tls l) (tls r) = _
      rw [HD.out, if_neg (by simp)]
     clear HD
     go_wp2_with (go_at_call 101; refine (hsc _).mono ?_; rintro e w' ⟨rfl, rfl⟩)
     exact ⟨⟨k + 1, by omega, by omega, by go_num, HV, _, rfl⟩, by simp [intOf]; omega⟩
    ·have HV : Hid (ord (tls l) (tls r) = C) := by
      show ord (tls l) (tls r) = _
      rw [HD.out, if_pos hC0]
     have hC2 : (C == 0) = false := by simpa using hC0
     clear HD hC0
     go_wp2_with (go_at_call 101; refine (hsc _).mono ?_; rintro e w' ⟨rfl, rfl⟩)
     go_ret
     exact ⟨by rw [HV.out]; rfl, _, rfl⟩
   ·have h4i : (m : Int) ≤ k := by omega
    have h3i : (k : Int) < n := by omega
    have HV : Hid (ord (tls l) (tls r) = 1) := by
     show ord (tls l) (tls r) = _
     have e5 : (tls r).drop k = [] := List.drop_eq_nil_of_le (by rw [tls_len, HE.out.2]; omega)
     rw [HC.out, ord_len _ _ (Or.inr e5), List.length_drop, List.length_drop, tls_len, tls_len, HE.out.1, HE.out.2]
     unfold lcp
     rw [if_neg (by omega), if_pos (by omega)]
    clear HC
    obtain ⟨b1, o1, rfl, c1⟩ := HR.out.1.cells (by omega)
    have hx := c1 k h3
    generalize l.getD k ⟨#[]⟩ = x at *
    clear c1
    go_wp2
    go_ret
    exact ⟨by rw [HV.out]; rfl, _, rfl⟩
  ·have h3i : ¬ (k : Int) < n := by omega
   have hkn : k = n := by omega
   by_cases h4 : n < m
   ·have h4i : (n : Int) < m := by omega
    have HV : Hid (ord (tls l) (tls r) = -1) := by
     show ord (tls l) (tls r) = _
     have e5 : (tls l).drop k = [] := List.drop_eq_nil_of_le (by rw [tls_len, HE.out.1]; omega)
     rw [HC.out, ord_len _ _ (Or.inl e5), List.length_drop, List.length_drop, tls_len, tls_len, HE.out.1, HE.out.2]
     unfold lcp
     rw [if_pos (by omega)]
    clear HC hkn
    go_wp2
    go_ret
    exact ⟨by rw [HV.out]; rfl, _, rfl⟩
   ·have h4i : ¬ (n : Int) < m := by omega
    have HV : Hid (ord (tls l) (tls r) = 0) := by
     show ord (tls l) (tls r) = _
     have e5 : (tls l).drop k = [] := List.drop_eq_nil_of_le (by rw [tls_len, HE.out.1]; omega)
     rw [HC.out, ord_len _ _ (Or.inl e5), List.length_drop, List.length_drop, tls_len, tls_len, HE.out.1, HE.out.2]
     unfold lcp
     rw [if_neg (by omega), if_neg (by omega)]
    clear HC hkn
    go_wp2
    go_ret
    exact ⟨by rw [HV.out]; rfl, _, rfl⟩
end Go.Proofs.YtlehncfehoelbaaGreatDoor
namespace Go.Proofs.YtlehncfehoelbaaGreatDoor
open Go.RowKit Go.Shelf
set_option maxRecDepth 100000
set_option linter.unusedSimpArgs false
set_option linter.unusedVariables false
def ren10 : Ren := ⟨fun _ => 82, fun k => if k = 37 then 23 else if k = 127 then 165 else k, fun k => k⟩
set_option maxHeartbeats 4000000 in
set_option maxRecDepth 100000 in
theorem lays10 : LaysM.n316 Tryz.prog ren10 := by
 have h : Lays.n316 Tryz.prog ren10 := by
  constructor <;> first | kernel_rfl | (intro w; rfl)
 refine LaysM.n316.mk h ?_ ?_ ?_ ?_ ?_ ?_ ?_ ?_ ?_ ?_ ?_ <;> first | kernel_rfl | (intro w; rfl)
theorem lclone_any (s : ByteArray) (w : World) (hs : s.size ≤ 1000000) : Calls Tryz.prog 82 #[.string s] w fun e w' => e = .returned (.string s) ∧ Below w.heap.size w w' :=
 Any.stringslite_Clone lays10 s w (by omega)
theorem sclone_any (s : ByteArray) (w : World) (hs : s.size ≤ 1000000) : Calls Tryz.prog 43 #[.string s] w fun e w' => e = .returned (.string s) ∧ Below w.heap.size w w' := by
 go_enter Tryz.func43, Tryz.ntmps43
 go_wp2_with (go_at_call 82; refine (lclone_any _ _ hs).mono ?_; rintro e w' ⟨rfl, hb⟩)
 go_ret
 exact ⟨rfl, hb⟩
end Go.Proofs.YtlehncfehoelbaaGreatDoor
namespace Go.Proofs.YtlehncfehoelbaaGreatDoor
open Go.RowKit
set_option maxRecDepth 100000
set_option linter.unusedSimpArgs false
set_option linter.unusedVariables false
def nus (l : Tx) : List Int := l.map fun b => (b.toNat : Int)
theorem nus_app (a b : Tx) : nus (a ++ b) = nus a ++ nus b := by simp [nus]
theorem nus_byt (l : Tx) : Byt (nus l) := fun n hn => by
 obtain ⟨b, _, rfl⟩ := List.mem_map.1 hn
 have := UInt8.toNat_lt b
 omega
theorem nus_cells (s : ByteArray) : Lib.strCells s = bv (nus s.toList) := by
 unfold Lib.strCells bv nus
 rw [ByteArray.toList_eq, List.map_map]
 rfl
theorem nus_str (l : Tx) : strOfNums (nus l) = tx l := by
 apply tl_inj
 rw [str_toList, tx_tl]
 unfold nus
 rw [List.map_map]
 conv => rhs; rw [← List.map_id l]
 apply List.map_congr_left
 intro b _
 simp
set_option maxHeartbeats 2000000 in
theorem pjoin_any (a : Option Addr) (n c : Nat) (l : List ByteArray) (w : World) (R : SRow w a n l) (hnc : n ≤ c) (hn : n ≤ 1000000) (hl : ∀ i, (l.getD i ⟨#[]⟩).size ≤ 5000) :
  Calls Tryz.prog 112 #[.slice a n c] w fun e w' => e = .returned (.tuple #[.string (tx (jnp (tls l)).1), .int .i64 (jnp (tls l)).2]) ∧ w.grownBy w' none := by
 have hln : (tls l).length = n := by rw [tls_len]; exact R.len_eq
 by_cases hm : 128 < n
 ·have e : jnp (tls l) = ([], 3) := by unfold jnp; rw [hln, if_pos hm]
  rw [e]
  have hmi : (128 : Int) < n := by omega
  go_enter Tryz.func112, Tryz.ntmps112
  go_wp2
  go_ret2
  exact ⟨rfl, World.grownBy.refl _ _⟩
 ·have hmi : ¬ (128 : Int) < n := by omega
  have HJ : Hid (jnp (tls l) = if (tls l).any (fun p => !prt p) then ([], 1) else if 4096 < (joi (tls l)).length then ([], 2) else (joi (tls l), 0)) := by
   show jnp (tls l) = _
   unfold jnp; rw [hln, if_neg hm]
  have HB : Hid (∀ p ∈ tls l, p.length ≤ 5000) := by
   intro p hp
   obtain ⟨x, hx, rfl⟩ := List.mem_map.1 hp
   obtain ⟨i, hi, rfl⟩ := List.getElem_of_mem hx
   have := hl i
   rw [tl_len]
   simpa [List.getD_eq_getElem?_getD, hi] using this
  generalize hT : tls l = T at *
  have HT : Hid _ := xai hT hln
  have HR : Hid _ := xai R hl
  have HTK : Hid (∀ k, k < n → T.take (k + 1) = T.take k ++ [(l.getD k ⟨#[]⟩).toList]) := by
   intro k hlt
   rw [List.take_succ_eq_append_getElem (by rw [HT.out.2]; exact hlt)]
   congr 2
   have hkl : k < l.length := by rw [HR.out.1.len_eq]; exact hlt
   simp only [← HT.out.1, tls, List.getElem_map, List.getD_eq_getElem?_getD, List.getElem?_eq_getElem hkl, Option.getD_some]
  clear R hl hT hln
  go_enter Tryz.func112, Tryz.ntmps112
  go_wp2
  go_loopw [14] (fun vi wr => ∃ k : Nat, k ≤ n ∧ vi = .int .i64 k ∧ Hid ((T.take k).any (fun p => !prt p) = false) ∧ w = wr) (fun vi _ => n - (intOf vi).toNat)
  case atStart => exact ⟨0, Nat.zero_le _, rfl, rfl, rfl⟩
  case round =>
   obtain ⟨k, hk, rfl, HP, rfl⟩ := hrel
   by_cases hlt : k < n
   ·obtain ⟨b1, o1, rfl, c1⟩ := HR.out.1.cells (by omega)
    have hx := c1 k hlt
    have hsz := HR.out.2 k
    have hTk := HTK.out k hlt
    generalize l.getD k ⟨#[]⟩ = x at *
    have hv := fun W => pvalid_eq x W (by omega)
    have HTk : Hid _ := hTk
    clear hTk c1
    have hlti : (k : Int) < n := by omega
    cases hpr : prt x.toList with
    | false =>
     have HV : Hid (jnp T = ([], 1)) := by
      show jnp T = ([], 1)
      rw [HJ.out, if_pos]
      rw [List.any_eq_true]
      refine ⟨x.toList, List.mem_of_mem_take (i := k + 1) ?_, by rw [hpr]; rfl⟩
      rw [HTk.out]; simp
     have hp2 : (x.toList == [46, 46]) = false ∧ vld x.toList = false := by unfold prt at hpr; rwa [Bool.or_eq_false_iff] at hpr
     obtain ⟨hx2, hvv⟩ := hp2
     rw [hvv] at hv
     clear hpr hvv HTk HP
     go_wp2_with (go_at_call 83; refine (hv _).mono ?_; rintro e w' ⟨rfl, rfl⟩)
     go_ret2
     exact ⟨by rw [HV.out]; rfl, World.grownBy.refl _ _⟩
    | true =>
     have HP2 : Hid ((T.take (k + 1)).any (fun p => !prt p) = false) := by
      show (T.take (k + 1)).any (fun p => !prt p) = false
      rw [HTk.out, List.any_append, HP.out]; simp [hpr]
     have hp2 : (x.toList == [46, 46]) = true ∨ ((x.toList == [46, 46]) = false ∧ vld x.toList = true) := by
      unfold prt at hpr
      cases h : (x.toList == [46, 46]) with
      | true => exact Or.inl rfl
      | false => rw [h, Bool.false_or] at hpr; exact Or.inr ⟨rfl, hpr⟩
     clear hpr HP HTk
     rcases hp2 with hx2 | ⟨hx2, hvv⟩
     ·go_wp2_with (go_at_call 83; refine (hv _).mono ?_; rintro e w' ⟨rfl, rfl⟩)
      go_roundw
      case rel => exact ⟨k + 1, by omega, by go_num, HP2, by first | rfl | trivial⟩
      case measure => simp [intOf]; omega
     ·rw [hvv] at hv
      go_wp2_with (go_at_call 83; refine (hv _).mono ?_; rintro e w' ⟨rfl, rfl⟩)
      go_roundw
      case rel => exact ⟨k + 1, by omega, by go_num, HP2, by first | rfl | trivial⟩
      case measure => simp [intOf]; omega
   ·obtain rfl : k = n := by omega
    have hnl : ¬ (k : Int) < k := by omega
    have HJ2 : Hid (jnp T = if 4096 < (joi T).length then ([], 2) else (joi T, 0)) := by
     show jnp T = _
     have hTT : T.take k = T := List.take_of_length_le (by rw [HT.out.2]; exact Nat.le_refl _)
     have := HP.out
     rw [hTT] at this
     rw [HJ.out, this, if_neg (by decide)]
    clear HJ HP
    go_wp2
    obtain ⟨i5, hi, hz0, hz1, hz2⟩ := info_parts Tryz.info5
    go_loopw [6, 28] (fun vp vi wr => ∃ j : Nat, j ≤ k ∧ vi = .int .i64 j ∧ wr.ownsRow w.heap.size 5 1 vp (joi (T.take j)).length (bv (nus (joi (T.take j)))) ∧ w.grownBy wr none) (fun _ vi _ => k - (intOf vi).toNat)
    case atStart => exact ⟨0, Nat.zero_le _, rfl, World.ownsRow_nil _ _ _ _, World.grownBy.refl _ _⟩
    case round =>
     obtain ⟨j, hj, rfl, hown, hgr⟩ := hrel
     have hJl : (joi (T.take j)).length ≤ 640128 := by
      have h1 := joi_len (T.take j) 5000 (fun p hp => HB.out p (List.mem_of_mem_take hp))
      have h2 : (T.take j).length ≤ 128 := by rw [List.length_take]; omega
      exact Nat.le_trans h1 (Nat.le_trans (Nat.mul_le_mul_right _ h2) (by decide))
     by_cases hlt : j < k
     ·obtain ⟨b1, o1, rfl, c1⟩ := HR.out.1.cells (by omega)
      have hx := ((HR.out.1.grown hgr).cells (by omega))
      obtain ⟨b2, o2, he2, c2⟩ := hx
      obtain ⟨rfl, rfl⟩ : b1 = b2 ∧ o1 = o2 := by injection he2 with he2; injection he2 with h1 h2; exact ⟨h1, h2⟩
      have hx := c2 j hlt
      have hsz := HR.out.2 j
      have hTk := HTK.out j hlt
      generalize l.getD j ⟨#[]⟩ = x at *
      clear c1 c2 he2
      have hlti : (j : Int) < k := by omega
      by_cases hj0 : j = 0
      ·have hs1 : joi (T.take (j + 1)) = joi (T.take j) ++ x.toList := by
        rw [hTk, hj0]
        simp [joi]
       have HS : Hid _ := hs1
       have hji : ¬ (0 : Int) < j := by omega
       clear hs1 hTk hj0
       generalize hq : joi (T.take j) = q at *
       have HQ : Hid _ := hq
       clear hq
       go_wp2_with (at_builtin; refine Lib.wpList_append_own_string _ rfl _ _ 23 9 rfl w.heap.size 5 i5 Tryz.underlying23 Tryz.underlying9 hi hz0 hz1 hz2 _ _ _ rfl hown x rfl (by unfold maxLen; omega) (by omega) hgr.size ?_; intro v' w1 hown' hgrow _)
       have hj1 : joi (T.take (j + 1)) = q ++ x.toList := by rw [HS.out]
       have R : w1.ownsRow w.heap.size 5 1 v' (joi (T.take (j + 1))).length (bv (nus (joi (T.take (j + 1))))) := by
        rw [hj1, List.length_append, tl_len, nus_app, bv_append, ← nus_cells]
        exact hown'
       exact ⟨⟨j + 1, by omega, by go_num, R, grown_own hgr hown hgrow (Nat.le_refl _)⟩, by simp [intOf]; omega⟩
      ·have hs1 : joi (T.take (j + 1)) = joi (T.take j) ++ [47] ++ x.toList := by
        rw [hTk, joi_snoc _ _ (by intro e; have := congrArg List.length e; rw [List.length_take, HT.out.2] at this; simp at this; omega)]
        simp
       have HS : Hid _ := hs1
       have hji : (0 : Int) < j := by omega
       clear hs1 hTk hj0
       generalize hq : joi (T.take j) = q at *
       have HQ : Hid _ := hq
       clear hq
       go_wp2_with (at_builtin; (refine wpList_append_own _ rfl _ _ 23 rfl w.heap.size 5 i5 (.int .u8 0) 1 1 Tryz.underlying23 hi hz0 hz1 hz2 rfl (by decide) _ _ _ rfl (hown.alloc _) ⟨wr.heap.size, 0, none⟩ 1 1 (bv [47]) rfl rfl ?c1 (bv_one _) ?c3 ?c4 ?c5 ?_))
       case c1 => first | exact cell_one _ _ _ | exact fun j u h => h
       case c3 => unfold maxLen; omega
       case c4 => omega
       case c5 => have := hgr.size; simp; omega
       ·intro v2 w2 hown2 hgrow2 _
        have hgr2 : w.grownBy w2 none := grown_own (grown_tr hgr (xga wr _ none)) (hown.alloc _) hgrow2 (Nat.le_refl _)
        clear hgrow2 hown hgr hx
        go_wp2_with (at_builtin; refine Lib.wpList_append_own_string _ rfl _ _ 23 9 rfl w.heap.size 5 i5 Tryz.underlying23 Tryz.underlying9 hi hz0 hz1 hz2 _ _ _ rfl hown2 x rfl (by unfold maxLen; omega) (by omega) hgr2.size ?_; intro v' w1 hown' hgrow _)
        have hj1 : joi (T.take (j + 1)) = q ++ [47] ++ x.toList := by rw [HS.out]
        have R : w1.ownsRow w.heap.size 5 1 v' (joi (T.take (j + 1))).length (bv (nus (joi (T.take (j + 1))))) := by
         rw [hj1, List.length_append, List.length_append, tl_len, nus_app, nus_app, bv_append, bv_append, ← nus_cells]
         exact hown'
        exact ⟨⟨j + 1, by omega, by go_num, R, grown_own hgr2 hown2 hgrow (Nat.le_refl _)⟩, by simp [intOf]; omega⟩
     ·obtain rfl : j = k := by omega
      have hnl2 : ¬ (j : Int) < j := by omega
      have hTT : T.take j = T := List.take_of_length_le (by rw [HT.out.2]; exact Nat.le_refl _)
      rw [hTT] at hown hJl
      obtain ⟨a', c', rfl, RR⟩ := owns_row hown (nus_byt _) (by unfold maxLen; omega)
      have hconv := conv_row (P := Tryz.prog) RR c' 23 9 Tryz.underlying23 Tryz.underlying5 Tryz.underlying9
      rw [nus_str] at hconv
      generalize (joi T).length = len at *
      by_cases h4 : 4096 < len
      ·have HV : Hid (jnp T = ([], 2)) := by
        show jnp T = _
        rw [HJ2.out, if_pos h4]
       have h4i : (4096 : Int) < len := by omega
       clear HJ2 RR hown
       go_wp2
       go_ret2
       exact ⟨by rw [HV.out]; rfl, hgr⟩
      ·have HV : Hid (jnp T = (joi T, 0)) := by
        show jnp T = _
        rw [HJ2.out, if_neg h4]
       have h4i : ¬ (4096 : Int) < len := by omega
       have HV1 : Hid (tx (jnp T).1 = tx (joi T)) := by
        show tx (jnp T).1 = tx (joi T)
        rw [HV.out]
       have HV2 : Hid ((jnp T).2 = 0) := by
        show (jnp T).2 = 0
        rw [HV.out]
       clear HJ2 RR hown
       generalize tx (joi T) = S0 at *
       go_wp2
       go_ret2
       exact ⟨by rw [HV1.out, HV2.out]; rfl, hgr⟩
end Go.Proofs.YtlehncfehoelbaaGreatDoor
namespace Go.Proofs.YtlehncfehoelbaaGreatDoor
open Go.RowKit Go.Shelf
set_option maxRecDepth 100000
set_option linter.unusedSimpArgs false
set_option linter.unusedVariables false
def KeptO (lo m : Nat) (W W' : World) : Prop := ∀ k, lo ≤ k → k < m → W'.heap[k]? = W.heap[k]?
theorem KeptO.refl (lo m : Nat) (W : World) : KeptO lo m W W := fun _ _ _ => rfl
theorem KeptO.trans {lo m : Nat} {A B C : World} (h : KeptO lo m A B) (k : KeptO lo m B C) : KeptO lo m A C := fun i h1 h2 => (k i h1 h2).trans (h i h1 h2)
theorem KeptO.put {lo m l : Nat} {W : World} (o : Obj) (h : l < lo) : KeptO lo m W (W.putObj l o) := fun k h1 _ => World.putObj_heap_other (by omega)
theorem keepsFrom_up {B C : Nat} {X Y : World} (h : KeepsFrom B X Y) (hBC : B ≤ C) : KeepsFrom C X Y := ⟨h.size, fun k o hk => h.same k o (by omega)⟩
theorem keepsFrom_put {B l : Nat} {W : World} (o : Obj) (h : l < B) : KeepsFrom B W (W.putObj l o) := ⟨by simp, fun k o' hk hs _ => (World.putObj_heap_other (by omega)).trans hs⟩
theorem own_up {β : Type} {B C : Nat} {I : β → World → Prop} (h : OwnFrom B I) (hBC : B ≤ C) : OwnFrom C I := fun s W W' row hs hg hr => h s W W' row hs hg (fun r e => ⟨Nat.le_trans hBC (hr r e).1, (hr r e).2⟩)
theorem round_depth {m : Nat} (m' : Nat) {P : Program} {l : Nat} {f : FuncId} {tmps : Array Value} {assign body : Code} {w : World} {R : Ending → World → Prop} (h : RoundIn Fence.wide m P l f tmps assign body w R) : RoundIn Fence.wide m' P l f tmps assign body w R :=
 ⟨h.1, fun c cs _ => h.2 c cs (fun d hd => by cases hd)⟩
def SeqO (d : Nat) (P : Program) (g : Nat) (lb : Array Value) (S Sp : List ByteArray → Prop) (N : Nat) (w : World) : Prop :=
 ∀ (l : Nat) (J : Nat → List ByteArray → World → Prop) (Jx : List ByteArray → World → Prop) (W : World), Below w.heap.size w W → (∀ m, OwnFrom W.heap.size (J m)) → OwnFrom W.heap.size Jx →
  (∀ d' m pre x W1, W.heap.size ≤ m → m ≤ W1.heap.size → J m pre W1 → pre.length < N → YieldAt Fence.wide d' P l #[.string x] W1 fun e W' =>
   KeepsFrom W.heap.size W1 W' ∧ ((e = .returned (.bool true) ∧ J m (pre ++ [x]) W' ∧ KeptO W.heap.size m W1 W') ∨ (e = .returned (.bool false) ∧ Jx (pre ++ [x]) W'))) →
  (∀ m, W.heap.size ≤ m → J m [] W) →
  CallsIn Fence.wide d P g (#[.func (.yield l) #[] #[]] ++ lb) W fun e W' => (∃ v, e = .returned v) ∧ ((∃ m xs, S xs ∧ J m xs W') ∨ (∃ pre, Sp pre ∧ Jx pre W'))
set_option maxHeartbeats 1000000 in
theorem rangeO {P : Program} {n : Nat} {g : Operand} {ps : Array Tmp} {assign body : Code} {Q : Exit → Act → World → Prop} {a : Act} {w : World}
  {gf : Nat} {lb : Array Value} (hg : a.eval g = .func (.func gf) #[] lb) (eg : ∀ args w, (callFunc gf args).run P w = .ok (.enter gf args) w)
  {S Sp : List ByteArray → Prop} {N : Nat} {w0 : World} (hseq : SeqO (n - 1) P gf lb S Sp N w0) (hb0 : Below w0.heap.size w0 w) (hps : ps.size = 1)
  (I : Nat → List ByteArray → World → Prop) (Ix : Code → List ByteArray → World → Prop) (hI : ∀ m, OwnFrom w.heap.size (I m)) (hIx : ∀ c, OwnFrom w.heap.size (Ix c))
  (h0 : ∀ m, w.heap.size + 2 ≤ m → I m [] w) (a₁ : ByteArray → Act)
  (hassign : ∀ (l d : Nat) (x : ByteArray) (W : World) (K : Act → World → Prop), K (a₁ x) W →
   assign.wpIn (Fence.wide.inRound l) d P (Exit.then K (fun _ _ _ => False)) { tmps := (ps.zip #[.string x]).foldl (fun t (p, v) => t.setIfInBounds p v) a.tmps, defers := [] } W)
  (hbody : ∀ (l d m : Nat) (pre : List ByteArray) (x : ByteArray) (W : World), w.heap.size + 2 ≤ m → m ≤ W.heap.size → I m pre W → pre.length < N →
   body.wpIn (Fence.wide.inRound l) d P (ownPostG w.heap.size (KeptO (w.heap.size + 2) m) (I m) Ix (pre ++ [x]) W) (a₁ x) W)
  (hdone : ∀ (D m : Nat) (xs : List ByteArray) (W : World), w.heap.size ≤ D → S xs → I m xs W → W.heap[D]? = some (.deferred (some [])) → Q .normal { a with defers := { target := .collected D, args := #[] } :: a.defers } W)
  (hstop : ∀ (D : Nat) (c : Code) (pre : List ByteArray) (W : World), w.heap.size ≤ D → Sp pre → Ix c pre W → W.heap[D]? = some (.deferred (some [])) → c.wpIn Fence.wide n P Q { a with defers := { target := .collected D, args := #[] } :: a.defers } W) :
  (Code.rangeFunc g ps assign body).wpIn Fence.wide n P Q a w := by
 refine wpIn_rangeFunc fun fn hfn => ?_
 -- the loop's record, as it is from the first round on
 obtain ⟨rc, hrc⟩ : ∃ rc : LoopState → Option Code → Loop, rc = fun st pe => { state := st, pending := pe, fn, tmps := a.tmps, params := ps, assign, body, defers := w.heap.size } := ⟨_, rfl⟩
 have hen := run_enterLoop_outer (P := P) (w := w) fn a.tmps ps assign body
 have hrr : ({ state := .ready, pending := none, fn, tmps := a.tmps, params := ps, assign, body, defers := w.heap.size } : Loop) = rc .ready none := by rw [hrc]
 rw [hrr] at hen
 generalize hW1 : (w.alloc (.deferred (some []))).alloc (.loop (rc .ready none)) = W1 at hen
 have hsz : W1.heap.size = w.heap.size + 2 := by rw [← hW1]; simp
 have hL1 : W1.heap[w.heap.size + 1]? = some (.loop (rc .ready none)) := by
  have := World.alloc_heap_new (w.alloc (.deferred (some []))) (.loop (rc .ready none))
  rw [World.size_alloc, hW1] at this; exact this
 have hK1 : W1.heap[w.heap.size]? = some (.deferred (some [])) := by
  rw [← hW1]; exact (Below.heap_alloc _ _ _ (by simp)).trans (World.alloc_heap_new w _)
 have hb1 : Below w0.heap.size w0 W1 := by
  rw [← hW1]; exact hb0.trans ((((Below.refl _ w).alloc (Nat.le_refl _) _).alloc (by simp) _).mono hb0.size)
 refine ⟨w.heap.size + 1, [{ target := .collected w.heap.size, args := #[] }], W1, { target := .fn (.func gf) lb, args := #[.func (.yield (w.heap.size + 1)) #[] #[]] }, W1, gf,
  #[.func (.yield (w.heap.size + 1)) #[] #[]] ++ lb, W1, hen, ?_, fun _ _ => trivial, ?_, (fun h => by cases h), ?_⟩
 ·simp only [resolve, hg]
  simp [go_sem]
 ·simp [invoke, go_sem, eg]
 -- the iterator, at what the loop's own variables hold and the record beside it
 have hJ : ∀ m, OwnFrom W1.heap.size (fun (pre : List ByteArray) W => I m pre W ∧ W.heap[w.heap.size + 1]? = some (.loop (rc .ready none)) ∧ W.heap[w.heap.size]? = some (.deferred (some []))) := by
  rintro m s A B row ⟨h1, h2, h3⟩ hgr hr
  have hne : ∀ k, k < w.heap.size + 2 → some k ≠ row := fun k hk e => by have := (hr k e.symm).1; omega
  exact ⟨hI m s A B row h1 hgr (fun r e => ⟨by have := (hr r e).1; omega, (hr r e).2⟩), (hgr.block _ (Array.getElem?_eq_some_iff.1 h2).1 (hne _ (by omega))).trans h2, (hgr.block _ (Array.getElem?_eq_some_iff.1 h3).1 (hne _ (by omega))).trans h3⟩
 have hJx : OwnFrom W1.heap.size (fun (pre : List ByteArray) W => ∃ c, Ix c pre W ∧ W.heap[w.heap.size + 1]? = some (.loop (rc .done (some c))) ∧ W.heap[w.heap.size]? = some (.deferred (some []))) := by
  rintro s A B row ⟨c, h1, h2, h3⟩ hgr hr
  have hne : ∀ k, k < w.heap.size + 2 → some k ≠ row := fun k hk e => by have := (hr k e.symm).1; omega
  exact ⟨c, hIx c s A B row h1 hgr (fun r e => ⟨by have := (hr r e).1; omega, (hr r e).2⟩), (hgr.block _ (Array.getElem?_eq_some_iff.1 h2).1 (hne _ (by omega))).trans h2, (hgr.block _ (Array.getElem?_eq_some_iff.1 h3).1 (hne _ (by omega))).trans h3⟩
 refine (hseq (w.heap.size + 1) _ _ W1 hb1 hJ hJx ?_ ?_).mono ?_
 ·-- one round
  rintro d' m pre x W hm1 hm2 ⟨hi, hl, hk⟩ hlen
  have hlt : w.heap.size + 1 < W.heap.size := (Array.getElem?_eq_some_iff.1 hl).1
  have hy := run_yield (P := P) (args := #[.string x]) hl (by rw [hrc]; exact hps.symm)
  rw [hrc] at hy
  refine ⟨fn, _, assign, body, hy, roundIn_of_wpIn hfn (hassign _ d' x W _ ⟨_, run_beginRound hl (by rw [hrc]), ?_⟩)⟩
  generalize hB2 : W.putObj (w.heap.size + 1) (.loop { rc .ready none with state := .busy }) = B2
  have hl2 : B2.heap[w.heap.size + 1]? = some (.loop { rc .ready none with state := .busy }) := by rw [← hB2]; exact World.putObj_heap_same hlt
  have hk2 : B2.heap[w.heap.size]? = some (.deferred (some [])) := by rw [← hB2]; exact (World.putObj_heap_other (by omega)).trans hk
  have hi2 : I m pre B2 := by rw [← hB2]; exact (hI m).putObj _ hi (by omega) hl rfl
  have hs2 : B2.heap.size = W.heap.size := by rw [← hB2]; simp
  have hkp2 : KeptO W1.heap.size m W B2 := by rw [← hB2]; exact KeptO.put _ (by omega)
  have hkf2 : KeepsFrom W1.heap.size W B2 := by rw [← hB2]; exact keepsFrom_put _ (by omega)
  refine wpIn_mono (hbody _ _ m pre x B2 (by omega) (by omega) hi2 hlen) ?_
  have fin : ∀ (jump : Option Code) (W3 : World), KeepsFrom w.heap.size B2 W3 →
    ∃ W4, (Instr.endRound (w.heap.size + 1) jump).run P W3 = .ok (.bool jump.isNone) W4 ∧ W4 = W3.putObj (w.heap.size + 1) (.loop (rc (if jump.isNone then .ready else .done) jump)) ∧
    W3.heap[w.heap.size + 1]? = some (.loop { rc .ready none with state := .busy }) ∧ W4.heap[w.heap.size + 1]? = some (.loop (rc (if jump.isNone then .ready else .done) jump)) ∧
    W4.heap[w.heap.size]? = some (.deferred (some [])) ∧ KeepsFrom W1.heap.size W W4 := by
   intro jump W3 hk3
   have hl3 := hk3.same _ _ (by omega) hl2 rfl
   have hr := run_endRound (P := P) jump hl3
   have hre : ({ ({ rc .ready none with state := .busy } : Loop) with state := if jump.isNone then .ready else .done, pending := jump } : Loop) = rc (if jump.isNone then .ready else .done) jump := by rw [hrc]
   rw [hre] at hr
   exact ⟨_, hr, rfl, hl3, World.putObj_heap_same (Array.getElem?_eq_some_iff.1 hl3).1, (World.putObj_heap_other (by omega)).trans (hk3.same _ _ (Nat.le_refl _) hk2 rfl), (hkf2.trans (keepsFrom_up hk3 (by omega))).trans (keepsFrom_put _ (by omega))⟩
  have left : ∀ (c : Code) (W3 : World), KeepsFrom w.heap.size B2 W3 → Ix c (pre ++ [x]) W3 → ∃ v W4, (Instr.endRound (w.heap.size + 1) (some c)).run P W3 = .ok v W4 ∧ (KeepsFrom W1.heap.size W W4 ∧
    ((Ending.returned v = .returned (.bool true) ∧ (I m (pre ++ [x]) W4 ∧ W4.heap[w.heap.size + 1]? = some (.loop (rc .ready none)) ∧ W4.heap[w.heap.size]? = some (.deferred (some []))) ∧ KeptO W1.heap.size m W W4) ∨
     (Ending.returned v = .returned (.bool false) ∧ ∃ c, Ix c (pre ++ [x]) W4 ∧ W4.heap[w.heap.size + 1]? = some (.loop (rc .done (some c))) ∧ W4.heap[w.heap.size]? = some (.deferred (some []))))) := by
   intro c W3 hk3 hi3
   obtain ⟨W4, hr, rfl, hl3, hl4, hk4, hkf⟩ := fin (some c) W3 hk3
   exact ⟨_, _, hr, hkf, .inr ⟨rfl, c, (hIx c).putObj _ hi3 (by omega) hl3 rfl, hl4, hk4⟩⟩
  rintro e a3 W3 hp
  cases e with
  | normal =>
   obtain ⟨hk3, hkp3, hi3⟩ := hp
   obtain ⟨W4, hr, rfl, hl3, hl4, hk4, hkf⟩ := fin none W3 hk3
   refine ⟨_, _, hr, hkf, .inl ⟨rfl, ⟨(hI m).putObj _ hi3 (by omega) hl3 rfl, hl4, hk4⟩, ?_⟩⟩
   rw [← hsz] at hkp3
   exact (hkp2.trans hkp3).trans (KeptO.put _ (by omega))
  | ret => exact left .ret W3 hp.1 hp.2
  | exit id => exact left (.exit id) W3 hp.1 hp.2
  | goto t => exact left (.goto t) W3 hp.1 hp.2
  | panic ch => exact hp.elim
  | outgrown => exact hp.elim
 ·intro m hm
  refine ⟨?_, hL1, hK1⟩
  rw [← hW1]
  exact (hI m).alloc _ ((hI m).alloc _ (h0 m (by omega)))
 ·-- behind the iterator
  rintro e W2 ⟨⟨v, rfl⟩, (⟨m, xs, hS, hi, hl, hk⟩ | ⟨pre, hSp, c, hi, hl, hk⟩)⟩
  ·have he := run_endLoop (P := P) hl (by rw [hrc]; simp)
   exact ⟨none, _, by rw [he, hrc], hdone _ m xs _ (Nat.le_refl _) hS ((hI m).putObj _ hi (by omega) hl rfl) ((World.putObj_heap_other (by omega)).trans hk)⟩
  ·have he := run_endLoop (P := P) hl (by rw [hrc]; simp)
   exact ⟨some c, _, by rw [he, hrc], hstop _ c pre _ (Nat.le_refl _) hSp ((hIx c).putObj _ hi (by omega) hl rfl) ((World.putObj_heap_other (by omega)).trans hk)⟩
end Go.Proofs.YtlehncfehoelbaaGreatDoor
