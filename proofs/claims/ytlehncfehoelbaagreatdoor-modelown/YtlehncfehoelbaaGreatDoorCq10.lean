/- The program's walks, where nothing is wrong. -/
import Derived.Maps.AppendAt
import Derived.Laws.OwnMore
import Derived.Test.YtlehncfehoelbaaGreatDoorCq07
import Derived.Test.YtlehncfehoelbaaGreatDoorCq08
import Derived.Test.YtlehncfehoelbaaGreatDoorCq09
namespace Go.Proofs.YtlehncfehoelbaaGreatDoor
open Go.RowKit
set_option maxRecDepth 100000
set_option linter.unusedSimpArgs false
set_option linter.unusedVariables false
theorem need_ok (w : World) : Calls Tryz.prog 55 #[.int .i64 0] w fun e w' => e = .returned (.tuple #[]) ∧ w = w' := by
 go_enter Tryz.func55, Tryz.ntmps55
 go_wp2
 refine bodyPost_end (results_none rfl _ _ _) rfl ?_
 exact ⟨rfl, rfl⟩
structure Wl (w W : World) (gw mb : Nat) (p : Int) (left : List ByteArray) (lk : Int) (la : Option Addr) (lc : Nat) : Prop where
 gr : w.grownBy W none
 new : w.heap.size ≤ gw
 box : Bx W gw 106 [.pointer (some ⟨mb, 0, none⟩), .int .i64 p, .slice la left.length lc, .int .i64 lk]
 row : SRow W la left.length left
 cap : left.length ≤ lc
theorem srow_kept {w w' : World} {a : Option Addr} {n : Nat} {l : List ByteArray} (h : SRow w a n l) (g : w.grownBy w' none) : SRow w' a n l :=
 ⟨h.len_eq, fun h0 => by obtain ⟨b, off, e, k⟩ := h.cells h0; exact ⟨b, off, e, fun i hi => cell_grown (k i hi) g⟩⟩
theorem Wl.kept {w W W' : World} {gw mb : Nat} {p lk : Int} {left : List ByteArray} {la : Option Addr} {lc : Nat} (h : Wl w W gw mb p left lk la lc) (g : W.grownBy W' none) : Wl w W' gw mb p left lk la lc :=
 ⟨xgt h.gr g, h.new, h.box.kept g, srow_kept h.row g, h.cap⟩
theorem Wl.lay {w W : World} {gw mb base : Nat} {p lk : Int} {left X : List ByteArray} {la : Option Addr} {lc m : Nat} {a : Option Addr} {c : Nat} (hg : w.grownBy W none) (hn : w.heap.size ≤ gw)
  (hb : Bx W gw 106 [.pointer (some ⟨mb, 0, none⟩), .int .i64 p, .slice la left.length lc, .int .i64 lk]) (ho : W.ownsRow base 9 1 (.slice a m c) m (sv X)) (hlt : gw < base) :
  Wl w (W.setCell ⟨gw, 2, none⟩ (.slice a m c)) gw mb p X lk a c := by
 have ho2 := ho.kept (grown_set W gw 2 (.slice a m c)) (Or.inr (fun e => by have := (ho.lt _ e).1; omega))
 obtain ⟨a', c', e, hr, hc, -⟩ := owns_srow ho2
 injection e with e1 e2 e3
 subst e1 e3
 have hm : X.length = m := hr.len_eq
 subst hm
 exact ⟨grown_new hg (grown_set _ _ _ _) hn, hn, hb.set 2 _, hr, hc⟩
theorem srow_src {w : World} {ad : Addr} {n : Nat} {l : List ByteArray} (R : SRow w (some ad) n l) : ∀ j u, (sv l)[j]? = some u → w.cell? (ad.add j) = some u := by
 intro j u h
 have hj : j < l.length := by
  rcases Nat.lt_or_ge j l.length with k | k
  ·exact k
  ·rw [List.getElem?_eq_none (by rw [sv_len]; exact k)] at h; cases h
 have hn := R.len_eq
 obtain ⟨b, off, e, hc⟩ := R.cells (by omega)
 injection e with e
 subst e
 have hadd : (⟨b, off, none⟩ : Addr).add j = ⟨b, off + j, none⟩ := by unfold Addr.add; split <;> simp_all
 rw [hadd, hc j (by omega)]
 unfold sv at h
 rw [List.getElem?_map, List.getElem?_eq_getElem hj] at h
 rw [List.getD_eq_getElem?_getD, List.getElem?_eq_getElem hj]
 exact h
set_option maxHeartbeats 8000000 in
theorem pturn_ok (w W : World) (gw mb : Nat) (p lk : Int) (left : List ByteArray) (la : Option Addr) (lc : Nat) (h : Wl w W gw mb p left lk la lc) (a : Option Addr) (n c mp : Nat) (ns : List NoV) (M : Md w mb a n c mp ns)
  (path : ByteArray) (hp : path.size ≤ 4096) (habs : Calls Tryz.prog 84 #[.string path] W fun e w' => e = .returned (.bool false) ∧ W = w') (hk : knd (nos ns) p 2 = 0) (L : List Tx) (hsp : spl path.toList = (L, 0)) (hlen : L.length + left.length ≤ 256) (hle : (left = [] ∧ la = none ∧ lc = 0) ∨ 0 < left.length) :
  Calls Tryz.prog 56 #[.pointer (some ⟨gw, 0, none⟩), .string path] W fun e W' => e = .returned (.tuple #[]) ∧ ∃ la' lc', Wl w W' gw mb p (txs L ++ left) lk la' lc' ∧ W.heap.size ≤ W'.heap.size := by
 have hok := fun W' g => pofkind_any W' mb a n c (.map (some mp)) ns (M.kept g).box (M.kept g).nos p 2 (by decide)
 have x0 : _ = some _ := h.box.c 0
 have x1 : _ = some _ := h.box.c 1
 have hspl := fun W => psplit_any path W (by omega)
 unfold SpPost at hspl
 rw [hsp] at hspl
 simp only at hspl
 obtain ⟨i9, hi9, hz0, hz1, hz2⟩ := info_parts Tryz.info9
 have HW : Hid _ := h
 have HLE : Hid _ := xai hle hlen
 clear h hsp hle hlen
 go_enter Tryz.func56, Tryz.ntmps56
 go_wp2_with (go_at_call 84; refine habs.mono ?_; rintro e w' ⟨rfl, rfl⟩)
 clear x0 x1 habs
 refine wp_region_held_drew (S := fun w' => W.grownBy w' none) (by kernel_rfl) (drewG0 W) (fun hH => ?_)
 generalize W.drew = WD at *
 refine tk (i := 0) (oi := ⟨some 13, _, _, _, _, _⟩) (v := .pointer (some ⟨gw, 0, none⟩)) rfl (Or.inl ⟨by rfl, fun w hSw => by go_simp⟩) hH ?_
 simp only [Act.put, pu]
 refine tk (i := 1) (oi := ⟨some 14, _, _, _, _, _⟩) (v := .pointer (some ⟨gw, 0, none⟩)) rfl (Or.inl ⟨by rfl, fun w hSw => by go_simp⟩) hH ?_
 simp only [Act.put, pu]
 refine tk (i := 2) (oi := ⟨some 15, _, _, _, _, _⟩) (v := .pointer (some ⟨gw, 0, none⟩)) rfl (Or.inl ⟨by rfl, fun w hSw => by go_simp⟩) hH ?_
 simp only [Act.put, pu]
 refine tk (i := 3) (oi := ⟨some 16, _, _, _, _, _⟩) (v := .pointer (some ⟨mb, 0, none⟩)) rfl (Or.inl ⟨by rfl, fun w hSw => by have c0 : _ = some _ := (HW.out.box.kept hSw).c 0; go_simp⟩) hH ?_
 simp only [Act.put, pu]
 refine tk (i := 4) (oi := ⟨some 17, _, _, _, _, _⟩) (v := .pointer (some ⟨gw, 0, none⟩)) rfl (Or.inl ⟨by rfl, fun w hSw => by go_simp⟩) hH ?_
 simp only [Act.put, pu]
 refine tk (i := 5) (oi := ⟨some 18, _, _, _, _, _⟩) (v := .pointer (some ⟨gw, 0, none⟩)) rfl (Or.inl ⟨by rfl, fun w hSw => by go_simp⟩) hH ?_
 simp only [Act.put, pu]
 refine tk (i := 6) (oi := ⟨some 19, _, _, _, _, _⟩) (v := .pointer (some ⟨gw, 1, none⟩)) rfl (Or.inl ⟨by rfl, fun w hSw => by go_simp⟩) hH ?_
 simp only [Act.put, pu]
 refine tk (i := 7) (oi := ⟨some 20, _, _, _, _, _⟩) (v := .int .i64 p) rfl (Or.inl ⟨by rfl, fun w hSw => by have c1 : _ = some _ := (HW.out.box.kept hSw).c 1; go_simp⟩) hH ?_
 simp only [Act.put, pu]
 refine wpAnyH_ready (rs := [8, 12]) (by kernel_rfl) (by simp) ?_
 refine AllReadyH.cons rfl (fun K1 hK => ?_) (AllReadyH.cons rfl (fun K1 hK => ?_) AllReadyH.nil)
 ·skip
  go_simp
  refine (hok _ (xgt HW.out.gr hH)).mono ?_
  rintro e W2 ⟨X, rfl, -, -, g2⟩
  rw [hk]
  obtain ⟨NK, mo, uid, gid, ti, sz_, da, dl, dc, data, tg, dev, aa, al, ac, attrs, ka, kl, kc, kids, pa, links0⟩ := X
  simp only [NoV.val]
  replace hH := xgt hH g2
  clear g2
  refine hK.out _ _ hH (fun h0 => ?_)
  clear h0 hK K1
  try simp only [Act.put, pu]
  refine tk (i := 9) (oi := ⟨some 12, _, _, _, _, _⟩) (v := .tuple #[.agg #[.int .i64 NK, .int .i64 mo, .int .i64 uid, .int .i64 gid, .int .i64 ti, .int .i64 sz_, .slice da dl dc, .string tg, .int .i64 dev, .slice aa al ac, .slice ka kl kc, .int .i64 pa, .int .i64 links0], .int .i64 0]) rfl (Or.inl ⟨by rfl, fun w hSw => by go_simp⟩) hH ?_
  simp only [Act.put, pu]
  refine tk (i := 10) (oi := ⟨some 22, _, _, _, _, _⟩) (v := .agg #[.int .i64 NK, .int .i64 mo, .int .i64 uid, .int .i64 gid, .int .i64 ti, .int .i64 sz_, .slice da dl dc, .string tg, .int .i64 dev, .slice aa al ac, .slice ka kl kc, .int .i64 pa, .int .i64 links0]) rfl (Or.inl ⟨by rfl, fun w hSw => by go_simp⟩) hH ?_
  simp only [Act.put, pu]
  refine tk (i := 11) (oi := ⟨some 23, _, _, _, _, _⟩) (v := .int .i64 0) rfl (Or.inl ⟨by rfl, fun w hSw => by go_simp⟩) hH ?_
  simp only [Act.put, pu]
  refine wpAnyH_ready (rs := [12]) (by kernel_rfl) (by simp) ?_
  refine AllReadyH.cons rfl (fun K1 hK => ?_) AllReadyH.nil
  go_simp
  have gA := xga W2 (.cells #[.int .i64 0, .int .i64 0, .int .i64 0, .int .i64 0, .int .i64 0, .int .i64 0, .slice none 0 0, .string ⟨#[]⟩, .int .i64 0, .slice none 0 0, .slice none 0 0, .int .i64 0, .int .i64 0] 43) none
  have hZ := Bx.new W2 43 [.int .i64 0, .int .i64 0, .int .i64 0, .int .i64 0, .int .i64 0, .int .i64 0, .slice none 0 0, .string ⟨#[]⟩, .int .i64 0, .slice none 0 0, .slice none 0 0, .int .i64 0, .int .i64 0]
  have hnz : W.heap.size ≤ W2.heap.size := hH.size
  replace hH := xgt hH gA
  clear gA
  generalize W2.alloc (.cells #[.int .i64 0, .int .i64 0, .int .i64 0, .int .i64 0, .int .i64 0, .int .i64 0, .slice none 0 0, .string ⟨#[]⟩, .int .i64 0, .slice none 0 0, .slice none 0 0, .int .i64 0, .int .i64 0] 43) = W3 at *
  generalize W2.heap.size = gz at *
  refine hK.out _ _ hH (fun h0 => ?_)
  clear h0 hK K1
  try simp only [Act.put, pu]
  refine wpAnyH_ready (rs := [13]) (by kernel_rfl) (by simp) ?_
  refine AllReadyH.cons rfl (fun K1 hK => ?_) AllReadyH.nil
  refine step_store_bx (by rfl) 43 _ _ (by rfl) gz [.int .i64 NK, .int .i64 mo, .int .i64 uid, .int .i64 gid, .int .i64 ti, .int .i64 sz_, .slice da dl dc, .string tg, .int .i64 dev, .slice aa al ac, .slice ka kl kc, .int .i64 pa, .int .i64 links0] (by rfl) (by rfl) hZ node_size rfl rfl ?_
  intro W4 hN g4
  replace hH := grown_new hH g4 hnz
  clear hN g4 hZ
  refine hK.out _ _ hH (fun h0 => ?_)
  clear h0 hK K1
  try simp only [Act.put, pu]
  refine tk (i := 14) (oi := ⟨some 5, _, _, _, _, _⟩) (v := .int .i64 0) rfl (Or.inl ⟨by rfl, fun w hSw => by go_simp⟩) hH ?_
  simp only [Act.put, pu]
  refine wpAnyH_done (by kernel_rfl) ?_ _
  have HW4 : Hid _ := HW.out.kept hH
  have HS4 : Hid _ := hH.size
  have HGW4 : Hid (gw < W4.heap.size) := HW4.out.box.lt
  have HGW4b : Hid (w.heap.size ≤ W4.heap.size) := HW4.out.gr.size
  clear hH hnz
  go_wp2_with (go_at_call 55; refine (need_ok _).mono ?_; rintro e w' ⟨rfl, rfl⟩)
  refine (hspl _).mono ?_
  rintro e W5 ⟨a1, n1, c1, rfl, hown, g5⟩
  have HW5 : Hid _ := xai (HW4.out.kept g5) (xai hown (xai g5.size (Nat.le_trans HS4.out g5.size)))
  have c2 : _ = some _ := HW5.out.1.box.c 2
  have hn1 : n1 = L.length := by
   have := hown.1
   rw [sv_len] at this
   unfold txs at this
   rw [List.length_map] at this
   omega
  have hll : n1 + left.length ≤ 256 := by rw [hn1]; exact HLE.out.2
  have HN1 : Hid _ := hn1
  clear hown g5 hspl hn1 HW4
  generalize hlf : left.length = ll at *
  have HLF : Hid _ := hlf
  clear hlf
  have hcmp : ¬ (256 : Int) < (n1 : Int) + (ll : Int) := by omega
  have f2 := HW5.out.1.box.f 2
  have hgw : gw < W4.heap.size := HGW4.out
  rcases HLE.out.1 with ⟨hl0, rfl, rfl⟩ | hl0
  ·have hll0 : ll = 0 := by rw [← HLF.out, hl0]; rfl
   subst hll0
   have HL0 : Hid _ := hl0
   clear hl0
   go_wp2_with (first | (go_at_call 55; refine (need_ok _).mono ?_; rintro e w' ⟨rfl, rfl⟩) | (at_builtin; refine wpList_append_own_none rfl _ _ 104 rfl W4.heap.size 9 i9 1 Tryz.underlying104 hi9 _ n1 _ rfl HW5.out.2.1 rfl ?_) | fail)
   refine bodyPost_end (results_none rfl _ _ _) rfl ?_
   refine ⟨rfl, a1, c1, ?_, by rw [size_set]; exact HW5.out.2.2.2⟩
   rw [HL0.out, List.append_nil]
   have hbx := HW5.out.1.box
   exact Wl.lay HW5.out.1.gr HW5.out.1.new hbx HW5.out.2.1 hgw
  ·obtain ⟨lb, lo, rfl, -⟩ := HW5.out.1.row.cells (by have h1 := HLF.out; omega)
   clear hl0
   go_wp2_with (first | (go_at_call 55; refine (need_ok _).mono ?_; rintro e w' ⟨rfl, rfl⟩) | (at_builtin; refine wpList_append_own _ rfl _ _ 104 rfl W4.heap.size 9 i9 (.string ⟨#[]⟩) 1 16 Tryz.underlying104 hi9 hz0 hz1 hz2 rfl (by decide) _ n1 _ rfl HW5.out.2.1 ⟨lb, lo, none⟩ ll lc (sv left) rfl (by rw [sv_len, HLF.out, Nat.mul_one]) (srow_src HW5.out.1.row) (sv_one _) (by unfold maxLen; omega) (by omega) HW5.out.2.2.1 ?_; intro v6 W6 own6 grow6 h6; obtain ⟨a6, c6, rfl⟩ := own_shape own6; have hbne : some gw ≠ (Value.slice a1 n1 c1).ownBlock := (fun e => by have := (HW5.out.2.1.lt _ e.symm).1; omega); have HW6 : Hid _ := xai own6 (xai (HW5.out.1.box.but grow6 hbne) (xai (grown_own9 HW5.out.1.gr HW5.out.2.1 grow6 HGW4b.out) (Nat.le_trans HW5.out.2.2.2 grow6.size))); have d2 : _ = some _ := HW6.out.2.1.c 2; have e2 := HW6.out.2.1.f 2; clear own6 grow6 h6 hbne) | fail)
   refine bodyPost_end (results_none rfl _ _ _) rfl ?_
   refine ⟨rfl, a6, c6, ?_, by rw [size_set]; exact HW6.out.2.2.2⟩
   have ho := HW6.out.1
   rw [← sv_app] at ho
   exact Wl.lay HW6.out.2.2.1 HW5.out.1.new HW6.out.2.1 ho hgw
 ·skip
  go_simp
  have gA := xga WD (.cells #[.int .i64 0, .int .i64 0, .int .i64 0, .int .i64 0, .int .i64 0, .int .i64 0, .slice none 0 0, .string ⟨#[]⟩, .int .i64 0, .slice none 0 0, .slice none 0 0, .int .i64 0, .int .i64 0] 43) none
  have hZ := Bx.new WD 43 [.int .i64 0, .int .i64 0, .int .i64 0, .int .i64 0, .int .i64 0, .int .i64 0, .slice none 0 0, .string ⟨#[]⟩, .int .i64 0, .slice none 0 0, .slice none 0 0, .int .i64 0, .int .i64 0]
  have hnz : W.heap.size ≤ WD.heap.size := hH.size
  replace hH := xgt hH gA
  clear gA
  generalize WD.alloc (.cells #[.int .i64 0, .int .i64 0, .int .i64 0, .int .i64 0, .int .i64 0, .int .i64 0, .slice none 0 0, .string ⟨#[]⟩, .int .i64 0, .slice none 0 0, .slice none 0 0, .int .i64 0, .int .i64 0] 43) = W3 at *
  generalize WD.heap.size = gz at *
  refine hK.out _ _ hH (fun h0 => ?_)
  clear h0 hK K1
  try simp only [Act.put, pu]
  refine wpAnyH_ready (rs := [8]) (by kernel_rfl) (by simp) ?_
  refine AllReadyH.cons rfl (fun K1 hK => ?_) AllReadyH.nil
  go_simp
  refine (hok _ (xgt HW.out.gr hH)).mono ?_
  rintro e W2 ⟨X, rfl, -, -, g2⟩
  rw [hk]
  obtain ⟨NK, mo, uid, gid, ti, sz_, da, dl, dc, data, tg, dev, aa, al, ac, attrs, ka, kl, kc, kids, pa, links0⟩ := X
  simp only [NoV.val]
  replace hZ := hZ.kept g2
  replace hH := xgt hH g2
  clear g2
  refine hK.out _ _ hH (fun h0 => ?_)
  clear h0 hK K1
  try simp only [Act.put, pu]
  refine tk (i := 9) (oi := ⟨some 12, _, _, _, _, _⟩) (v := .tuple #[.agg #[.int .i64 NK, .int .i64 mo, .int .i64 uid, .int .i64 gid, .int .i64 ti, .int .i64 sz_, .slice da dl dc, .string tg, .int .i64 dev, .slice aa al ac, .slice ka kl kc, .int .i64 pa, .int .i64 links0], .int .i64 0]) rfl (Or.inl ⟨by rfl, fun w hSw => by go_simp⟩) hH ?_
  simp only [Act.put, pu]
  refine tk (i := 10) (oi := ⟨some 22, _, _, _, _, _⟩) (v := .agg #[.int .i64 NK, .int .i64 mo, .int .i64 uid, .int .i64 gid, .int .i64 ti, .int .i64 sz_, .slice da dl dc, .string tg, .int .i64 dev, .slice aa al ac, .slice ka kl kc, .int .i64 pa, .int .i64 links0]) rfl (Or.inl ⟨by rfl, fun w hSw => by go_simp⟩) hH ?_
  simp only [Act.put, pu]
  refine tk (i := 11) (oi := ⟨some 23, _, _, _, _, _⟩) (v := .int .i64 0) rfl (Or.inl ⟨by rfl, fun w hSw => by go_simp⟩) hH ?_
  simp only [Act.put, pu]
  refine wpAnyH_ready (rs := [13]) (by kernel_rfl) (by simp) ?_
  refine AllReadyH.cons rfl (fun K1 hK => ?_) AllReadyH.nil
  refine step_store_bx (by rfl) 43 _ _ (by rfl) gz [.int .i64 NK, .int .i64 mo, .int .i64 uid, .int .i64 gid, .int .i64 ti, .int .i64 sz_, .slice da dl dc, .string tg, .int .i64 dev, .slice aa al ac, .slice ka kl kc, .int .i64 pa, .int .i64 links0] (by rfl) (by rfl) hZ node_size rfl rfl ?_
  intro W4 hN g4
  replace hH := grown_new hH g4 hnz
  clear hN g4 hZ
  refine hK.out _ _ hH (fun h0 => ?_)
  clear h0 hK K1
  try simp only [Act.put, pu]
  refine tk (i := 14) (oi := ⟨some 5, _, _, _, _, _⟩) (v := .int .i64 0) rfl (Or.inl ⟨by rfl, fun w hSw => by go_simp⟩) hH ?_
  simp only [Act.put, pu]
  refine wpAnyH_done (by kernel_rfl) ?_ _
  have HW4 : Hid _ := HW.out.kept hH
  have HS4 : Hid _ := hH.size
  have HGW4 : Hid (gw < W4.heap.size) := HW4.out.box.lt
  have HGW4b : Hid (w.heap.size ≤ W4.heap.size) := HW4.out.gr.size
  clear hH hnz
  go_wp2_with (go_at_call 55; refine (need_ok _).mono ?_; rintro e w' ⟨rfl, rfl⟩)
  refine (hspl _).mono ?_
  rintro e W5 ⟨a1, n1, c1, rfl, hown, g5⟩
  have HW5 : Hid _ := xai (HW4.out.kept g5) (xai hown (xai g5.size (Nat.le_trans HS4.out g5.size)))
  have c2 : _ = some _ := HW5.out.1.box.c 2
  have hn1 : n1 = L.length := by
   have := hown.1
   rw [sv_len] at this
   unfold txs at this
   rw [List.length_map] at this
   omega
  have hll : n1 + left.length ≤ 256 := by rw [hn1]; exact HLE.out.2
  have HN1 : Hid _ := hn1
  clear hown g5 hspl hn1 HW4
  generalize hlf : left.length = ll at *
  have HLF : Hid _ := hlf
  clear hlf
  have hcmp : ¬ (256 : Int) < (n1 : Int) + (ll : Int) := by omega
  have f2 := HW5.out.1.box.f 2
  have hgw : gw < W4.heap.size := HGW4.out
  rcases HLE.out.1 with ⟨hl0, rfl, rfl⟩ | hl0
  ·have hll0 : ll = 0 := by rw [← HLF.out, hl0]; rfl
   subst hll0
   have HL0 : Hid _ := hl0
   clear hl0
   go_wp2_with (first | (go_at_call 55; refine (need_ok _).mono ?_; rintro e w' ⟨rfl, rfl⟩) | (at_builtin; refine wpList_append_own_none rfl _ _ 104 rfl W4.heap.size 9 i9 1 Tryz.underlying104 hi9 _ n1 _ rfl HW5.out.2.1 rfl ?_) | fail)
   refine bodyPost_end (results_none rfl _ _ _) rfl ?_
   refine ⟨rfl, a1, c1, ?_, by rw [size_set]; exact HW5.out.2.2.2⟩
   rw [HL0.out, List.append_nil]
   have hbx := HW5.out.1.box
   exact Wl.lay HW5.out.1.gr HW5.out.1.new hbx HW5.out.2.1 hgw
  ·obtain ⟨lb, lo, rfl, -⟩ := HW5.out.1.row.cells (by have h1 := HLF.out; omega)
   clear hl0
   go_wp2_with (first | (go_at_call 55; refine (need_ok _).mono ?_; rintro e w' ⟨rfl, rfl⟩) | (at_builtin; refine wpList_append_own _ rfl _ _ 104 rfl W4.heap.size 9 i9 (.string ⟨#[]⟩) 1 16 Tryz.underlying104 hi9 hz0 hz1 hz2 rfl (by decide) _ n1 _ rfl HW5.out.2.1 ⟨lb, lo, none⟩ ll lc (sv left) rfl (by rw [sv_len, HLF.out, Nat.mul_one]) (srow_src HW5.out.1.row) (sv_one _) (by unfold maxLen; omega) (by omega) HW5.out.2.2.1 ?_; intro v6 W6 own6 grow6 h6; obtain ⟨a6, c6, rfl⟩ := own_shape own6; have hbne : some gw ≠ (Value.slice a1 n1 c1).ownBlock := (fun e => by have := (HW5.out.2.1.lt _ e.symm).1; omega); have HW6 : Hid _ := xai own6 (xai (HW5.out.1.box.but grow6 hbne) (xai (grown_own9 HW5.out.1.gr HW5.out.2.1 grow6 HGW4b.out) (Nat.le_trans HW5.out.2.2.2 grow6.size))); have d2 : _ = some _ := HW6.out.2.1.c 2; have e2 := HW6.out.2.1.f 2; clear own6 grow6 h6 hbne) | fail)
   refine bodyPost_end (results_none rfl _ _ _) rfl ?_
   refine ⟨rfl, a6, c6, ?_, by rw [size_set]; exact HW6.out.2.2.2⟩
   have ho := HW6.out.1
   rw [← sv_app] at ho
   exact Wl.lay HW6.out.2.2.1 HW5.out.1.new HW6.out.2.1 ho hgw
structure Tn (path : ByteArray) (L : List Tx) : Prop where
 sz : path.size ≤ 4096
 abs : ∀ W, Calls Tryz.prog 84 #[.string path] W fun e w' => e = .returned (.bool false) ∧ W = w'
 spl : spl path.toList = (L, 0)
theorem srow_set {W : World} {gw k : Nat} {v : Value} {p l3 : Int} {a x x3 : Option Addr} {n m c : Nat} {l : List ByteArray} (h : SRow W a n l) (hb : Bx W gw 106 [.pointer x, .int .i64 p, .slice x3 m c, .int .i64 l3]) : SRow (W.setCell ⟨gw, k, none⟩ v) a n l := by
 refine ⟨h.len_eq, fun h0 => ?_⟩
 obtain ⟨b, off, e, q⟩ := h.cells h0
 refine ⟨b, off, e, fun i hi => ?_⟩
 have hc := q i hi
 have hne : b ≠ gw := fun e => by
  subst e
  have := hb.c (off + i)
  rw [hc] at this
  match off + i, this with
  | 0, t => cases t
  | 1, t => cases t
  | 2, t => cases t
  | 3, t => cases t
  | m + 4, t => cases t
 exact (grown_set W gw k v).cell hc (by simpa using hne)
theorem Wl.tail {w W : World} {gw mb : Nat} {p lk : Int} {s : ByteArray} {xs : List ByteArray} {la a' : Option Addr} {lc : Nat} (h : Wl w W gw mb p (s :: xs) lk la lc) (hr : SRow W a' xs.length xs) :
  Wl w (W.setCell ⟨gw, 2, none⟩ (.slice a' xs.length (lc - 1))) gw mb p xs lk a' (lc - 1) :=
 ⟨grown_new h.gr (grown_set _ _ _ _) h.new, h.new, h.box.set 2 _, srow_set hr h.box, by have := h.cap; rw [List.length_cons] at this; omega⟩
theorem Wl.go {w W : World} {gw mb : Nat} {p q lk : Int} {xs : List ByteArray} {la : Option Addr} {lc : Nat} (h : Wl w W gw mb p xs lk la lc) : Wl w (W.setCell ⟨gw, 1, none⟩ (.int .i64 q)) gw mb q xs lk la lc :=
 ⟨grown_new h.gr (grown_set _ _ _ _) h.new, h.new, h.box.set 1 _, srow_set h.row h.box, h.cap⟩
set_option maxHeartbeats 4000000 in
theorem pthrough_ok (w W : World) (gw mb : Nat) (p lk : Int) (left : List ByteArray) (la : Option Addr) (lc : Nat) (h : Wl w W gw mb p left lk la lc) (a : Option Addr) (n c mp : Nat) (ns : List NoV) (M : Md w mb a n c mp ns)
  (path : ByteArray) (L : List Tx) (T : Tn path L) (hk : knd (nos ns) p 2 = 0) (hlen : L.length + left.length ≤ 256) (hle : 0 < left.length) (hl0 : 0 ≤ lk) (hl1 : lk < 40) :
  Calls Tryz.prog 86 #[.pointer (some ⟨gw, 0, none⟩), .string path] W fun e W' => e = .returned (.tuple #[]) ∧ ∃ la' lc', Wl w W' gw mb p (txs L ++ left) (lk + 1) la' lc' ∧ W.heap.size ≤ W'.heap.size := by
 have x3 : _ = some _ := h.box.c 3
 have f3 := h.box.f 3
 have hW2 : Wl w (W.setCell ⟨gw, 3, none⟩ (.int .i64 (lk + 1))) gw mb p left (lk + 1) la lc := by
  exact ⟨grown_new h.gr (grown_set _ _ _ _) h.new, h.new, h.box.set 3 _, srow_set h.row h.box, h.cap⟩
 have y3 : _ = some _ := hW2.box.c 3
 have htu := pturn_ok w _ gw mb p (lk + 1) left la lc hW2 a n c mp ns M path T.sz (T.abs _) hk L T.spl hlen (Or.inr hle)
 have hsz : (W.setCell ⟨gw, 3, none⟩ (.int .i64 (lk + 1))).heap.size = W.heap.size := size_set _ _ _
 have HS : Hid _ := hsz
 clear hW2 h hsz M T hk
 have hw : wrap64 (lk + 1) = lk + 1 := by unfold wrap64; omega
 have hc40 : ¬ (40 : Int) < lk + 1 := by omega
 go_enter Tryz.func86, Tryz.ntmps86
 go_wp2_with fail
 refine htu.mono ?_
 rintro e W2 ⟨rfl, la', lc', hw2, hs2⟩
 have HW2 : Hid _ := xai hw2 hs2
 clear hw2 hs2 htu
 go_wp2
 refine bodyPost_end (results_none rfl _ _ _) rfl ?_
 exact ⟨rfl, la', lc', HW2.out.1, by have := HW2.out.2; rw [HS.out] at this; exact this⟩
theorem wpList_lowS {P : Program} {w : World} {ops : Array Oper} {rest : List Oper} {o : Oper} {a : Act} {Q : Exit → Act → World → Prop} (hg : o.guard = none) (x l : Operand) (t : TypeId)
  (ho : o.op = .slice t x (some l) none none) (ht : P.underlying t = some (.slice 9)) (i : TypeInfo) (hi : P.info? 9 = some i) (hsz : i.size = 1)
  (b off len cap : Nat) (hx : a.eval x = .slice (some ⟨b, off, none⟩) len cap) (hl : a.eval l = .int .i64 1) (h1 : 1 ≤ len) (h2 : len ≤ cap) (s : ByteArray) (xs : List ByteArray) (R : SRow w (some ⟨b, off, none⟩) len (s :: xs))
  (hk : ∀ a', Hid (SRow w a' (len - 1) xs) → wpList P ops Q rest (a.put o.dst (.slice a' (len - 1) (cap - 1))) w) : wpList P ops Q (o :: rest) a w := by
 refine wpList_plain hg fun K' hK' => ?_
 have he : P.elem t = 9 := by simp [Program.elem, ht]
 have ht' : P.underlying t = some (.slice (P.elem t)) := by rw [he]; exact ht
 have hs : (sizeOf 9).run P w = .ok 1 w := by rw [run_sizeOf w hi]; simp [Program.cellsOf, hi, hsz]
 have hr := run_slice_l (P := P) (w := w) (a := some ⟨b, off, none⟩) (len := len) (cap := cap) (t := t) ht' .i64 1 (by omega) (by omega)
 rw [he, hs] at hr
 simp only [Result.andThen] at hr
 have hv : ∃ a', sliced (some ⟨b, off, none⟩) 1 len cap 1 = .slice a' (len - 1) (cap - 1) ∧ SRow w a' (len - 1) xs := by
  have hlen := R.len_eq
  rw [List.length_cons] at hlen
  unfold sliced
  by_cases c : cap = 1
  ·rw [if_pos c]
   exact ⟨_, rfl, by omega, fun h => by omega⟩
  ·rw [if_neg c]
   have hadd : (⟨b, off, none⟩ : Addr).add (1 * 1) = ⟨b, off + 1, none⟩ := by unfold Addr.add; split <;> simp_all
   refine ⟨some ⟨b, off + 1, none⟩, by simp only [Option.map_some, hadd], by omega, fun h => ⟨b, off + 1, rfl, fun j hj => ?_⟩⟩
   obtain ⟨b', off', e, hc⟩ := R.cells (by omega)
   injection e with e
   injection e with e1 e2
   subst e1 e2
   have := hc (j + 1) (by omega)
   rw [List.getD_cons_succ] at this
   rw [show off + 1 + j = off + (j + 1) by omega]
   exact this
 obtain ⟨a', hv, h3⟩ := hv
 have hr2 : (1 : Int).toNat = 1 := rfl
 rw [hr2, hv] at hr
 unfold Oper.wp
 simp [execOp, ho, hx, hl, hr, Result.andThen, run_sliceAt_slice (P := P) (w := w) t _ _ _ _ ht']
 exact hK' _ _ (hk _ h3)
theorem low9_here {P : Program} {w : World} {ops : Array Oper} {rest : List Oper} {a : Act} {Q : Exit → Act → World → Prop} {dst : Option Nat} {t : TypeId} {x l : Operand} {type : TypeId} {pos : String} {after : Array Edge} {guard : Option (Nat × Bool)}
  (k : wpList P ops Q (⟨dst, .slice t x (some l) none none, type, pos, after, guard⟩ :: rest) a w) : wpList P ops Q (⟨dst, .slice t x (some l) none none, type, pos, after, guard⟩ :: rest) a w := k
def StPost (w W : World) (gw mb : Nat) (X : NoV) (q : Nat) (p lk : Int) (xs : List ByteArray) (e : Ending) (W' : World) : Prop := e = .returned (.tuple #[]) ∧ ∃ la' lc', W.heap.size ≤ W'.heap.size ∧
 ((X.k ≠ 3 ∧ Wl w W' gw mb q xs lk la' lc') ∨ (X.k = 3 ∧ ∃ L, Tn X.target L ∧ Wl w W' gw mb p (txs L ++ xs) (lk + 1) la' lc'))
set_option maxHeartbeats 8000000 in
theorem pstep_ok (w W : World) (gw mb : Nat) (p lk : Int) (s : ByteArray) (xs : List ByteArray) (la : Option Addr) (lc : Nat) (h : Wl w W gw mb p (s :: xs) lk la lc) (a : Option Addr) (n c mp : Nat) (ns : List NoV) (M : Md w mb a n c mp ns)
  (hs : s.size ≤ 1000000) (q : Nat) (hq : lkp (nos ns) p s.toList = ((q : Int), 0)) (X : NoV) (hX : ns[q]? = some X) (hlen : xs.length ≤ 256)
  (hth : X.k = 3 → (∃ L, Tn X.target L ∧ L.length + xs.length ≤ 256) ∧ 0 < xs.length ∧ knd (nos ns) p 2 = 0 ∧ 0 ≤ lk ∧ lk < 40) :
  Calls Tryz.prog 57 #[.pointer (some ⟨gw, 0, none⟩), .bool true] W (StPost w W gw mb X q p lk xs) := by
 obtain ⟨i9, hi9, hz0, hz1, hz2⟩ := info_parts Tryz.info9
 obtain ⟨lb, lo, rfl, hcl⟩ := h.row.cells (by simp)
 have hlk := fun W' g => plookup_any W' mb a n c mp ns (M.kept g) p s hs
 rw [hq] at hlk
 simp only at hlk
 have hnd := fun W' g => pnode_ok W' mb a n c (.map (some mp)) ns (M.kept g).box (M.kept g).nos q X hX
 have hc0 : W.cell? ⟨lb, lo, none⟩ = some (.string s) := hcl 0 (by simp)
 have HW : Hid _ := xai h (xai hth (xai M hc0))
 clear hc0
 clear h M hcl hth hX hq
 go_enter Tryz.func57, Tryz.ntmps57
 go_wp2_with fail
 refine wp_region_held_drew (S := fun w' => W.grownBy w' none) (by kernel_rfl) (drewG0 W) (fun hH => ?_)
 generalize W.drew = WD at *
 refine tk (i := 0) (oi := ⟨some 8, _, _, _, _, _⟩) (v := .pointer (some ⟨gw, 0, none⟩)) rfl (Or.inl ⟨by rfl, fun w hSw => by go_simp⟩) hH ?_
 simp only [Act.put, pu]
 refine tk (i := 1) (oi := ⟨some 9, _, _, _, _, _⟩) (v := .pointer (some ⟨gw, 0, none⟩)) rfl (Or.inl ⟨by rfl, fun w hSw => by go_simp⟩) hH ?_
 simp only [Act.put, pu]
 refine tk (i := 2) (oi := ⟨some 10, _, _, _, _, _⟩) (v := .pointer (some ⟨gw, 0, none⟩)) rfl (Or.inl ⟨by rfl, fun w hSw => by go_simp⟩) hH ?_
 simp only [Act.put, pu]
 refine tk (i := 3) (oi := ⟨some 11, _, _, _, _, _⟩) (v := .pointer (some ⟨mb, 0, none⟩)) rfl (Or.inl ⟨by rfl, fun w hSw => by have c0 : _ = some _ := (HW.out.1.box.kept hSw).c 0; go_simp⟩) hH ?_
 simp only [Act.put, pu]
 refine tk (i := 4) (oi := ⟨some 12, _, _, _, _, _⟩) (v := .pointer (some ⟨gw, 0, none⟩)) rfl (Or.inl ⟨by rfl, fun w hSw => by go_simp⟩) hH ?_
 simp only [Act.put, pu]
 refine tk (i := 5) (oi := ⟨some 13, _, _, _, _, _⟩) (v := .pointer (some ⟨gw, 0, none⟩)) rfl (Or.inl ⟨by rfl, fun w hSw => by go_simp⟩) hH ?_
 simp only [Act.put, pu]
 refine tk (i := 6) (oi := ⟨some 14, _, _, _, _, _⟩) (v := .pointer (some ⟨gw, 1, none⟩)) rfl (Or.inl ⟨by rfl, fun w hSw => by go_simp⟩) hH ?_
 simp only [Act.put, pu]
 refine tk (i := 7) (oi := ⟨some 15, _, _, _, _, _⟩) (v := .int .i64 p) rfl (Or.inl ⟨by rfl, fun w hSw => by have c1 : _ = some _ := (HW.out.1.box.kept hSw).c 1; go_simp⟩) hH ?_
 simp only [Act.put, pu]
 refine tk (i := 8) (oi := ⟨some 16, _, _, _, _, _⟩) (v := .pointer (some ⟨gw, 0, none⟩)) rfl (Or.inl ⟨by rfl, fun w hSw => by go_simp⟩) hH ?_
 simp only [Act.put, pu]
 refine tk (i := 9) (oi := ⟨some 17, _, _, _, _, _⟩) (v := .pointer (some ⟨gw, 0, none⟩)) rfl (Or.inl ⟨by rfl, fun w hSw => by go_simp⟩) hH ?_
 simp only [Act.put, pu]
 refine tk (i := 10) (oi := ⟨some 18, _, _, _, _, _⟩) (v := .pointer (some ⟨gw, 2, none⟩)) rfl (Or.inl ⟨by rfl, fun w hSw => by go_simp⟩) hH ?_
 simp only [Act.put, pu]
 refine tk (i := 11) (oi := ⟨some 19, _, _, _, _, _⟩) (v := .slice (some ⟨lb, lo, none⟩) (s :: xs).length lc) rfl (Or.inl ⟨by rfl, fun w hSw => by have c2 : _ = some _ := (HW.out.1.box.kept hSw).c 2; go_simp⟩) hH ?_
 simp only [Act.put, pu]
 refine tk (i := 12) (oi := ⟨some 20, _, _, _, _, _⟩) (v := .pointer (some ⟨lb, lo, none⟩)) rfl (Or.inl ⟨by rfl, fun w hSw => by go_simp⟩) hH ?_
 simp only [Act.put, pu]
 refine tk (i := 13) (oi := ⟨some 21, _, _, _, _, _⟩) (v := .string s) rfl (Or.inl ⟨by rfl, fun w hSw => by have c9 := cell_grown HW.out.2.2.2 hSw; go_simp⟩) hH ?_
 simp only [Act.put, pu]
 refine wpAnyH_ready (rs := [14]) (by kernel_rfl) (by simp) ?_
 refine AllReadyH.cons rfl (fun K1 hK => ?_) AllReadyH.nil
 go_simp
 refine (hlk _ (xgt HW.out.1.gr hH)).mono ?_
 rintro e W2 ⟨rfl, g2⟩
 replace hH := xgt hH g2
 clear g2 hlk
 refine hK.out _ _ hH (fun h0 => ?_)
 clear h0 hK K1
 try simp only [Act.put, pu]
 refine tk (i := 15) (oi := ⟨some 7, _, _, _, _, _⟩) (v := .tuple #[.int .i64 q, .int .i64 0]) rfl (Or.inl ⟨by rfl, fun w hSw => by go_simp⟩) hH ?_
 simp only [Act.put, pu]
 refine tk (i := 16) (oi := ⟨some 23, _, _, _, _, _⟩) (v := .int .i64 q) rfl (Or.inl ⟨by rfl, fun w hSw => by go_simp⟩) hH ?_
 simp only [Act.put, pu]
 refine tk (i := 17) (oi := ⟨some 24, _, _, _, _, _⟩) (v := .int .i64 0) rfl (Or.inl ⟨by rfl, fun w hSw => by go_simp⟩) hH ?_
 simp only [Act.put, pu]
 refine tk (i := 18) (oi := ⟨some 4, _, _, _, _, _⟩) (v := .int .i64 q) rfl (Or.inl ⟨by rfl, fun w hSw => by go_simp⟩) hH ?_
 simp only [Act.put, pu]
 refine tk (i := 19) (oi := ⟨some 5, _, _, _, _, _⟩) (v := .int .i64 0) rfl (Or.inl ⟨by rfl, fun w hSw => by go_simp⟩) hH ?_
 simp only [Act.put, pu]
 refine wpAnyH_done (by kernel_rfl) ?_ _
 have HW2 : Hid _ := xai (HW.out.1.kept hH) hH.size
 clear hH
 have c2 : _ = some _ := HW2.out.1.box.c 2
 have f2 := HW2.out.1.box.f 2
 have hxl : (s :: xs).length = xs.length + 1 := rfl
 rw [hxl] at c2
 go_wp2_with (first | (go_at_call 55; refine (need_ok _).mono ?_; rintro e w' ⟨rfl, rfl⟩) | ((with_reducible refine low9_here ?_); refine wpList_lowS rfl _ _ 104 rfl Tryz.underlying104 i9 hi9 hz1 lb lo (xs.length + 1) lc rfl rfl (by omega) (by have := HW2.out.1.cap; rw [hxl] at this; exact this) s xs (by have := HW2.out.1.row; rw [hxl] at this; exact this) ?_; intro a' HA; have HW3 : Hid _ := xai (HW2.out.1.tail HA.out) (show W.heap.size ≤ (W2.setCell ⟨gw, 2, none⟩ (.slice a' xs.length (lc - 1))).heap.size by rw [size_set]; exact HW2.out.2); have d0 : _ = some _ := HW3.out.1.box.c 0; have d2 : _ = some _ := HW3.out.1.box.c 2) | fail)
 generalize W2.setCell ⟨gw, 2, none⟩ (.slice a' xs.length (lc - 1)) = W3 at *
 refine (hnd _ HW3.out.1.gr).mono ?_
 rintro e W4 ⟨rfl, g4⟩
 have HTH : Hid _ := HW.out.2.1
 have HM : Hid _ := HW.out.2.2.1
 obtain ⟨NK, mo, uid, gid, ti, sz_, da, dl, dc, data, tg, dev, aa, al, ac, attrs, ka, kl, kc, kids, pa, links0⟩ := X
 simp only [NoV.val]
 have gB := xga W4 (.cells #[.int .i64 NK, .int .i64 mo, .int .i64 uid, .int .i64 gid, .int .i64 ti, .int .i64 sz_, .slice da dl dc, .string tg, .int .i64 dev, .slice aa al ac, .slice ka kl kc, .int .i64 pa, .int .i64 links0] 43) none
 have bB := Bx.new W4 43 [.int .i64 NK, .int .i64 mo, .int .i64 uid, .int .i64 gid, .int .i64 ti, .int .i64 sz_, .slice da dl dc, .string tg, .int .i64 dev, .slice aa al ac, .slice ka kl kc, .int .i64 pa, .int .i64 links0]
 have HW5 : Hid _ := xai ((HW3.out.1.kept g4).kept gB) (Nat.le_trans HW3.out.2 (Nat.le_trans g4.size gB.size))
 have e0 : _ = some _ := bB.c 0
 have e7 : _ = some _ := bB.c 7
 have k1 : _ = some _ := HW5.out.1.box.c 1
 have f1 := HW5.out.1.box.f 1
 clear g4 gB bB HW3 HW2 d0 d2 c2 f2 hnd HA HW
 by_cases h3 : NK = 3
 ·subst h3
  obtain ⟨⟨L, hT, hLl⟩, hxs, hk, hl0, hl1⟩ := HTH.out rfl
  have hpt := pthrough_ok w _ gw mb p lk xs a' (lc - 1) HW5.out.1 a n c mp ns HM.out tg L hT hk hLl hxs hl0 hl1
  have HT : Hid _ := hT
  clear hT hLl hxs hk hl0 hl1
  go_wp2_with (go_at_call 55; refine (need_ok _).mono ?_; rintro e w' ⟨rfl, rfl⟩)
  refine hpt.mono ?_
  rintro e W6 ⟨rfl, la6, lc6, hw6, hs6⟩
  have H6 : Hid _ := xai hw6 (Nat.le_trans HW5.out.2 hs6)
  clear hw6 hs6 hpt
  go_wp2
  refine bodyPost_ret (results_none rfl _ _ _) rfl ?_
  unfold StPost
  exact ⟨rfl, la6, lc6, H6.out.2, Or.inr ⟨rfl, L, HT.out, H6.out.1⟩⟩
 ·have h3b : (NK == 3) = false := by rw [beq_eq_false_iff_ne]; exact h3
  have HG : Hid _ := HW5.out.1.go (q := (q : Int))
  go_wp2_with (go_at_call 55; refine (need_ok _).mono ?_; rintro e w' ⟨rfl, rfl⟩)
  refine bodyPost_end (results_none rfl _ _ _) rfl ?_
  unfold StPost
  exact ⟨rfl, a', lc - 1, by rw [size_set]; exact HW5.out.2, Or.inl ⟨h3, HG.out⟩⟩
theorem eqlnil (p : Addr) (n c : Nat) (W : World) : (binOp .eql 23 (.slice (some p) n c) (.slice none 0 0)).run Tryz.prog W = .ok (.bool false) W := by kernel_rfl
theorem eqlnil0 (c : Nat) (W : World) : (binOp .eql 23 (.slice none 0 c) (.slice none 0 0)).run Tryz.prog W = .ok (.bool true) W := by kernel_rfl
set_option maxHeartbeats 1000000 in
theorem pclone_any (a : Option Addr) (n c : Nat) (xs : List Int) (w : World) (R : Row w a n xs) (hn : n ≤ 16777216) :
  Calls Tryz.prog 44 #[.slice a n c] w fun e w' => ∃ v, e = .returned v ∧ w'.ownsRow w.heap.size 5 1 v n (bv xs) ∧ w.grownBy w' none := by
 obtain ⟨i5, hi, hz0, hz1, hz2⟩ := info_parts Tryz.info5
 cases a with
 | none =>
  obtain rfl : n = 0 := by
   rcases Nat.eq_zero_or_pos n with h | h
   ·exact h
   ·obtain ⟨_, _, e, _⟩ := R.cells h; cases e
  obtain rfl : xs = [] := List.eq_nil_of_length_eq_zero R.len_eq
  have hen := eqlnil0 c
  go_enter Tryz.func44, Tryz.ntmps44
  go_wp2_with fail
  go_ret
  exact ⟨_, rfl, World.ownsRow_nil _ _ _ _, World.grownBy.refl _ _⟩
 | some p =>
  have O0 := World.ownsRow_made (base := w.heap.size) (e := 5) (size := 1) w #[] 0 (Nat.le_refl _) (Nat.zero_le _) (by simp)
  have R0 := R.grown (xga w (.cells #[] 5) none)
  have hen := eqlnil p n c
  clear R
  go_enter Tryz.func44, Tryz.ntmps44
  go_wp2_with (at_builtin; refine wpList_append8 rfl _ _ 23 rfl w.heap.size i5 Tryz.underlying23 hi hz0 hz1 hz2 _ 0 [] rfl O0 _ n c _ rfl R0 (fun h => by cases h) (by omega) (by simp) ?_)
  intro v1 w1 o1 g1
  have G1 : w.grownBy w1 none := grown_own11 (xga w (.cells #[] 5) none) O0 g1
  have H1 : Hid (w1.ownsRow w.heap.size 5 1 v1 n (bv xs) ∧ w.grownBy w1 none) := ⟨by simpa using o1, G1⟩
  clear O0 R0 o1 g1 G1
  go_wp2_with fail
  go_ret
  exact ⟨_, rfl, H1.out.1, H1.out.2⟩
set_option maxHeartbeats 1000000 in
theorem ptrimb_any (a : Option Addr) (n c : Nat) (xs : List Int) (w : World) (R : Row w a n xs) (hc : n ≤ c) :
  Calls Tryz.prog 122 #[.slice a n c, .int .u8 0] w fun e w' => e = .returned (.slice a (strip xs).length c) ∧ w = w' := by
 have hle : n ≤ 9223372036854775807 := R.le
 have HR : Hid _ := R
 have hxn : xs.take n = xs := List.take_of_length_le (by rw [R.len_eq]; exact Nat.le_refl _)
 have HX : Hid _ := xai R.len_eq hxn
 clear R hxn
 go_enter Tryz.func122, Tryz.ntmps122
 go_wp2_with fail
 go_loop [0] (fun v => ∃ k : Nat, k ≤ n ∧ v = .slice a k c ∧ Hid (strip xs = strip (xs.take k))) (fun v => match v with | .slice _ k _ => k | _ => 0)
 case atStart => exact ⟨n, Nat.le_refl _, rfl, by show _ = _; rw [HX.out.2]⟩
 case round =>
  obtain ⟨k, hk, rfl, HB⟩ := hrel
  cases k with
  | zero =>
   have HV : Hid ((strip xs).length = 0) := by
    show _ = _
    rw [HB.out]; rfl
   go_wp2_with fail
   go_ret
   exact ⟨by rw [HV.out]; rfl, rfl⟩
  | succ k =>
   obtain ⟨b, o, rfl, hcell⟩ := HR.out.cells (by omega)
   have hck := hcell k (by omega)
   clear hcell
   have hki : ((k + 1 : Nat) : Int) - 1 = k := by omega
   have hkx : k < xs.length := by rw [HX.out.1]; omega
   have h1 := @strip_zero xs k hkx
   have h2 := @strip_stop xs k hkx
   generalize xs.getD k 0 = B at *
   by_cases hB : B = 0
   ·have HV : Hid (strip xs = strip (xs.take k)) := by
     show _ = _
     rw [HB.out, h1 hB]
    subst hB
    clear h1 h2 HB hkx
    go_wp2_with fail
    go_round
    case rel => exact ⟨k, by omega, by simp, HV⟩
    case measure => simp
   ·have HV : Hid ((strip xs).length = k + 1) := by
     show _ = _
     rw [HB.out, h2 hB, List.length_take]; omega
    have hBb : (B == 0) = false := by rw [beq_eq_false_iff_ne]; exact hB
    clear h1 h2 HB hkx
    go_wp2_with fail
    go_ret
    exact ⟨by rw [HV.out]; rfl, rfl⟩
set_option maxHeartbeats 1000000 in
theorem ptrim_any (a : Option Addr) (n c : Nat) (xs : List Int) (w : World) (R : Row w a n xs) (hc : n ≤ c) :
  Calls Tryz.prog 102 #[.slice a n c, .string ⟨#[0]⟩] w fun e w' => e = .returned (.slice a (strip xs).length c) ∧ w = w' := by
 have hle : n ≤ 9223372036854775807 := R.le
 have hb := ptrimb_any a n c xs w R hc
 by_cases h0 : n = 0
 ·subst h0
  obtain rfl : xs = [] := List.eq_nil_of_length_eq_zero R.len_eq
  clear hb R
  go_enter Tryz.func102, Tryz.ntmps102
  go_wp2_with fail
  go_ret
  exact ⟨rfl, rfl⟩
 ·have h0b : ((n : Int) == 0) = false := by rw [beq_eq_false_iff_ne]; omega
  generalize (strip xs).length = m at *
  clear R
  go_enter Tryz.func102, Tryz.ntmps102
  go_wp2_with (go_at_call 122; refine hb.mono ?_; rintro e w' ⟨rfl, rfl⟩)
  go_ret
  exact ⟨rfl, rfl⟩
theorem psclone_any (s : ByteArray) (w : World) (hs : s.size ≤ 1000000) : Calls Tryz.prog 43 #[.string s] w fun e w' => e = .returned (.string s) ∧ w.grownBy w' none :=
 (sclone_any s w hs).mono fun e w' ⟨h1, h2⟩ => ⟨h1, ⟨h2.os, h2.tape, h2.output, h2.size, fun k hk _ => h2.block k hk⟩⟩
theorem row_strip {w : World} {a : Option Addr} {n : Nat} {xs : List Int} (R : Row w a n xs) : Row w a (strip xs).length (strip xs) := by
 have h : (strip xs).length ≤ n := by have := strip_len xs; rw [R.len_eq] at this; exact this
 have e2 : xs = strip xs ++ (xs.reverse.takeWhile (· == 0)).reverse := by
  unfold strip
  rw [← List.reverse_append, List.takeWhile_append_dropWhile, List.reverse_reverse]
 have e : xs.take (strip xs).length = strip xs := by
  generalize strip xs = S at *
  rw [e2]
  exact List.take_left' rfl
 have := row_take R h
 rw [e] at this
 exact this
theorem flat_len {α : Type} (f : α → List Value) (c : Nat) (hf : ∀ x, (f x).length = c) (l : List α) : (l.flatMap f).length = l.length * c := by
 induction l with
 | nil => simp
 | cons x l ih => rw [List.flatMap_cons, List.length_append, ih, hf, List.length_cons, Nat.succ_mul, Nat.add_comm]
theorem flat_at {α : Type} (f : α → List Value) (c : Nat) (hf : ∀ x, (f x).length = c) : ∀ (l : List α) (i j : Nat) (X : α), l[i]? = some X → j < c → (l.flatMap f)[i * c + j]? = (f X)[j]?
 | [], i, j, X, h, _ => by simp at h
 | x :: l, 0, j, X, h, hj => by
  simp at h
  subst h
  rw [List.flatMap_cons, Nat.zero_mul, Nat.zero_add, List.getElem?_append_left (by rw [hf]; exact hj)]
 | x :: l, i + 1, j, X, h, hj => by
  rw [List.flatMap_cons, List.getElem?_append_right (by rw [hf, Nat.succ_mul]; omega), hf, show (i + 1) * c + j - c = i * c + j by rw [Nat.succ_mul]; omega]
  exact flat_at f c hf l i j X (by simpa using h) hj
theorem flat_set {α : Type} (f : α → List Value) (c : Nat) (hf : ∀ x, (f x).length = c) (u : Value) : ∀ (l : List α) (i j : Nat) (X X' : α), l[i]? = some X → j < c → f X' = (f X).set j u → (l.flatMap f).set (i * c + j) u = (l.set i X').flatMap f
 | [], i, j, X, X', h, _, _ => by simp at h
 | x :: l, 0, j, X, X', h, hj, e => by
  simp at h
  subst h
  rw [List.flatMap_cons, Nat.zero_mul, Nat.zero_add, List.set_append_left _ _ (by rw [hf]; exact hj), List.set_cons_zero, List.flatMap_cons, e]
 | x :: l, i + 1, j, X, X', h, hj, e => by
  rw [List.flatMap_cons, List.set_append_right _ _ (by rw [hf, Nat.succ_mul]; omega), hf, show (i + 1) * c + j - c = i * c + j by rw [Nat.succ_mul]; omega, flat_set f c hf u l i j X X' (by simpa using h) hj e, List.set_cons_succ, List.flatMap_cons]
def nvc (X : NoV) : List Value := [.int .i64 X.k, .int .i64 X.mode, .int .i64 X.uid, .int .i64 X.gid, .int .i64 X.time, .int .i64 X.size, .slice X.da X.dl X.dc, .string X.target, .int .i64 X.dev, .slice X.aa X.al X.ac, .slice X.ka X.kl X.kc, .int .i64 X.parent, .int .i64 X.links]
theorem nvc_len (X : NoV) : (nvc X).length = 13 := rfl
def kdc (c : Kd) : List Value := [.string (tx c.n), .int .i64 c.i]
theorem kdc_len (c : Kd) : (kdc c).length = 2 := rfl
theorem owns_ne {W : World} {b1 b2 e1 e2 s1 s2 n1 n2 : Nat} {v1 v2 : Value} {x1 x2 : List Value} (h1 : W.ownsRow b1 e1 s1 v1 n1 x1) (h2 : W.ownsRow b2 e2 s2 v2 n2 x2) (he : e1 ≠ e2) : v1.ownBlock = none ∨ v1.ownBlock ≠ v2.ownBlock := by
 rcases h1.2 with ⟨rfl, _⟩ | ⟨g, cap, cur, rfl, _, hg, _⟩
 ·exact .inl rfl
 ·right
  rcases h2.2 with ⟨rfl, _⟩ | ⟨g', cap', cur', rfl, _, hg', _⟩
  ·simp [Value.ownBlock]
  ·intro e
   simp only [Value.ownBlock, Option.some.injEq] at e
   subst e
   rw [hg] at hg'
   injection hg' with hg'
   injection hg' with _ hg'
   exact he hg'
theorem grown_ownB {a b c : World} {base t s n : Nat} {v : Value} {xs : List Value} (h : a.grownBy b none) (ho : b.ownsRow base t s v n xs) (k : b.grownBy c v.ownBlock) (hb : a.heap.size ≤ base) : a.grownBy c none := by
 rcases ho.2 with ⟨rfl, _⟩ | ⟨g, cap, cur, rfl, hg, _⟩
 ·exact xgt h k
 ·exact grown_new h k (show a.heap.size ≤ g by omega)
structure Nk (w W : World) (base : Nat) (X : NoV) : Prop where
 row : Row w X.da X.dl X.data
 own : W.ownsRow base 45 2 (.slice X.aa X.al X.ac) X.al (X.attrs.flatMap avc)
 len : X.al = X.attrs.length
 rows : ∀ A ∈ X.attrs, Row w A.a A.len A.v ∧ A.len ≤ A.cap
 kid : W.ownsRow base 47 2 (.slice X.ka X.kl X.kc) X.kl (X.kids.flatMap kdc)
 klen : X.kl = X.kids.length
 dcap : X.dl ≤ X.dc
def NoV.kv (X : NoV) : Value := .slice X.ka X.kl X.kc
structure Td (w W : World) (base : Nat) (v : Value) (l : List NoV) : Prop where
 gr : w.grownBy W none
 low : w.heap.size ≤ base
 own : W.ownsRow base 43 13 v l.length (l.flatMap nvc)
 each : ∀ (i : Nat) (X : NoV), l[i]? = some X → Nk w W base X
 apart : ∀ (i j : Nat) (X Y : NoV), l[i]? = some X → l[j]? = some Y → i ≠ j → ∀ b, X.kv.ownBlock = some b → Y.kv.ownBlock = some b → False
theorem Nk.but {w W W' : World} {base : Nat} {X : NoV} {r : Option Nat} (h : Nk w W base X) (g : W.grownBy W' r) (h1 : (Value.slice X.aa X.al X.ac).ownBlock = none ∨ (Value.slice X.aa X.al X.ac).ownBlock ≠ r) (h2 : X.kv.ownBlock = none ∨ X.kv.ownBlock ≠ r) : Nk w W' base X :=
 ⟨h.row, h.own.kept g h1, h.len, h.rows, h.kid.kept g h2, h.klen, h.dcap⟩
theorem ne_none (o : Option Nat) : o = none ∨ o ≠ none := by cases o <;> simp
theorem Td.kept {w W W' : World} {base : Nat} {v : Value} {l : List NoV} (h : Td w W base v l) (g : W.grownBy W' none) : Td w W' base v l :=
 ⟨xgt h.gr g, h.low, h.own.kept g (ne_none _), fun i X hX => (h.each i X hX).but g (ne_none _) (ne_none _), h.apart⟩
theorem Td.other {w W W' : World} {base : Nat} {v : Value} {l : List NoV} {e s n : Nat} {u : Value} {xs : List Value} (h : Td w W base v l) (ho : W.ownsRow base e s u n xs) (hN : 43 ≠ e) (hA : 45 ≠ e) (hK : 47 ≠ e) (g : W.grownBy W' u.ownBlock) : Td w W' base v l := by
 refine ⟨?_, h.low, h.own.kept g (owns_ne h.own ho hN), fun i X hX => (h.each i X hX).but g (owns_ne (h.each i X hX).own ho hA) (owns_ne (h.each i X hX).kid ho hK), h.apart⟩
 exact grown_ownB h.gr ho g h.low
theorem Td.ahead {w W W' : World} {base b : Nat} {v : Value} {l : List NoV} (h : Td w W base v l) (hb : b < base) (hw : w.heap.size ≤ b) (g : W.grownBy W' (some b)) : Td w W' base v l := by
 have hlt : ∀ {e s n : Nat} {u : Value} {xs : List Value}, W.ownsRow base e s u n xs → u.ownBlock = none ∨ u.ownBlock ≠ some b := fun {e s n u xs} ho => by
  right
  intro e
  have := (ho.lt _ e).1
  omega
 exact ⟨grown_new h.gr g hw, h.low, h.own.kept g (hlt h.own), fun i X hX => (h.each i X hX).but g (hlt (h.each i X hX).own) (hlt (h.each i X hX).kid), h.apart⟩
theorem Td.form {w W : World} {base : Nat} {v : Value} {l : List NoV} (h : Td w W base v l) (h0 : l ≠ []) : ∃ g c, v = .slice (some ⟨g, 0, none⟩) l.length c ∧ base ≤ g ∧ l.length ≤ c ∧ c ≤ maxLen ∧ W.heap.size > g := by
 rcases h.own.2 with ⟨rfl, h1⟩ | ⟨g, c, cur, rfl, hg, hh, hc, hm, _⟩
 ·exact absurd (List.eq_nil_of_length_eq_zero h1) h0
 ·exact ⟨g, c, rfl, hg, hc, hm, (Array.getElem?_eq_some_iff.1 hh).1⟩
theorem Td.cell {w W : World} {base g c n : Nat} {l : List NoV} (h : Td w W base (.slice (some ⟨g, 0, none⟩) n c) l) (hn : l.length = n) {i f : Nat} {X : NoV} (hX : l[i]? = some X) (hf : f < 13) : W.cell? ⟨g, i * 13 + f, none⟩ = (nvc X)[f]? := by
 have hi : i < l.length := (List.getElem?_eq_some_iff.1 hX).1
 have ho := h.own
 rw [← hn] at ho
 rw [ho.cellAt (i * 13 + f) (by omega), flat_at nvc 13 nvc_len l i f X hX hf]
theorem Td.froz {w W : World} {base g c n : Nat} {l : List NoV} (h : Td w W base (.slice (some ⟨g, 0, none⟩) n c) l) (hn : l.length = n) (j : Nat) : W.frozen? ⟨g, j, none⟩ = false := by
 have ho := h.own
 rw [← hn] at ho
 exact ho.frozenAt j
theorem get_set {l : List NoV} {i j : Nat} {X' Y : NoV} (h : (l.set i X')[j]? = some Y) : (j = i ∧ Y = X') ∨ (j ≠ i ∧ l[j]? = some Y) := by
 rw [List.getElem?_set] at h
 by_cases e : i = j
 ·subst e
  left
  simp at h
  exact ⟨rfl, h.2.symm⟩
 ·right
  rw [if_neg e] at h
  exact ⟨fun q => e q.symm, h⟩
theorem Td.set {w W : World} {base g c n : Nat} {l : List NoV} (h : Td w W base (.slice (some ⟨g, 0, none⟩) n c) l) (hn : l.length = n) {i f : Nat} {X X' : NoV} {u : Value} (hX : l[i]? = some X) (hf : f < 13) (e : nvc X' = (nvc X).set f u)
  (hk : X'.da = X.da ∧ X'.dl = X.dl ∧ X'.data = X.data ∧ X'.aa = X.aa ∧ X'.al = X.al ∧ X'.ac = X.ac ∧ X'.attrs = X.attrs ∧ X'.ka = X.ka ∧ X'.kl = X.kl ∧ X'.kc = X.kc ∧ X'.kids = X.kids) (hf6 : f ≠ 6 := by decide) :
  Td w (W.setCell ⟨g, i * 13 + f, none⟩ u) base (.slice (some ⟨g, 0, none⟩) n c) (l.set i X') := by
 have ho := h.own
 rw [hn] at ho
 obtain ⟨h1, h2⟩ := ho.stored (i * 13 + f) u
 rw [flat_set nvc 13 nvc_len u l i f X X' hX hf e] at h1
 have hsame : X'.kv = X.kv := by unfold NoV.kv; rw [hk.2.2.2.2.2.2.2.1, hk.2.2.2.2.2.2.2.2.1, hk.2.2.2.2.2.2.2.2.2.1]
 have hnk : ∀ (j : Nat) (Y : NoV), l[j]? = some Y → Nk w (W.setCell ⟨g, i * 13 + f, none⟩ u) base Y := fun j Y hY =>
  (h.each j Y hY).but h2 (owns_ne (h.each j Y hY).own h.own (by decide)) (owns_ne (h.each j Y hY).kid h.own (by decide))
 refine ⟨grown_ownB h.gr h.own h2 h.low, h.low, by rw [List.length_set, hn]; exact h1, fun j Y hY => ?_, fun a b A B hA hB hab k hA2 hB2 => ?_⟩
 ·rcases get_set hY with ⟨rfl, rfl⟩ | ⟨_, hY⟩
  ·have := hnk j X hX
   obtain ⟨k1, k2, k3, k4, k5, k6, k7, k8, k9, k10, k11⟩ := hk
   exact ⟨by rw [k1, k2, k3]; exact this.row, by rw [k4, k5, k6, k7]; exact this.own, by rw [k5, k7]; exact this.len, by rw [k7]; exact this.rows, by rw [k8, k9, k10, k11]; exact this.kid, by rw [k9, k11]; exact this.klen, by
    have e6 : (nvc Y)[6]? = (nvc X)[6]? := by rw [e, List.getElem?_set_ne hf6]
    have e7 : some (Value.slice Y.da Y.dl Y.dc) = some (Value.slice X.da X.dl X.dc) := e6
    injection e7 with e7
    injection e7 with _ e8 e9
    rw [e8, e9]
    exact this.dcap⟩
  ·exact hnk j Y hY
 ·rcases get_set hA with ⟨ea, eA⟩ | ⟨ha, hA'⟩
  ·rcases get_set hB with ⟨eb, eB⟩ | ⟨hb, hB'⟩
   ·omega
   ·rw [ea] at hab
    exact h.apart i b X B hX hB' hab k (by rw [← hsame, ← eA]; exact hA2) hB2
  ·rcases get_set hB with ⟨eb, eB⟩ | ⟨hb, hB'⟩
   ·rw [eb] at hab
    exact h.apart a i A X hA' hX hab k hA2 (by rw [← hsame, ← eB]; exact hB2)
   ·exact h.apart a b A B hA' hB' hab k hA2 hB2
theorem Td.add {w W W' : World} {base : Nat} {v v' : Value} {l : List NoV} {N : NoV} (h : Td w W base v l) (hN : Nk w W base N) (hk : N.ka = none) (hown : W'.ownsRow base 43 13 v' (l.length + 1) (l.flatMap nvc ++ nvc N)) (g : W.grownBy W' v.ownBlock) : Td w W' base v' (l ++ [N]) := by
 have hkv : N.kv.ownBlock = none := by unfold NoV.kv; rw [hk]; rfl
 have hnk : ∀ (Y : NoV), Nk w W base Y → Nk w W' base Y := fun Y hY => hY.but g (owns_ne hY.own h.own (by decide)) (owns_ne hY.kid h.own (by decide))
 have hget : ∀ (j : Nat) (Y : NoV), (l ++ [N])[j]? = some Y → l[j]? = some Y ∨ (j = l.length ∧ Y = N) := fun j Y hY => by
  rcases Nat.lt_or_ge j l.length with hj | hj
  ·left; rwa [List.getElem?_append_left hj] at hY
  ·right
   rw [List.getElem?_append_right hj] at hY
   cases hjj : j - l.length with
   | zero => rw [hjj] at hY; simp at hY; exact ⟨by omega, hY.symm⟩
   | succ q => rw [hjj] at hY; simp at hY
 refine ⟨grown_ownB h.gr h.own g h.low, h.low, by rw [List.length_append, List.flatMap_append]; simpa using hown, fun j Y hY => ?_, fun a b A B hA hB hab k hA2 hB2 => ?_⟩
 ·rcases hget j Y hY with hY | ⟨_, rfl⟩
  ·exact hnk Y (h.each j Y hY)
  ·exact hnk Y hN
 ·rcases hget a A hA with hA | ⟨ha, rfl⟩
  ·rcases hget b B hB with hB | ⟨hb, rfl⟩
   ·exact h.apart a b A B hA hB hab k hA2 hB2
   ·rw [hkv] at hB2; cases hB2
  ·rw [hkv] at hA2; cases hA2
theorem Td.kid {w W W1 : World} {base g c n : Nat} {l : List NoV} (h : Td w W base (.slice (some ⟨g, 0, none⟩) n c) l) (hn : l.length = n) {i : Nat} {X : NoV} (hX : l[i]? = some X) {K : Kd} {ka : Option Addr} {kl kc : Nat}
  (hown : W1.ownsRow base 47 2 (.slice ka kl kc) (X.kl + 1) (X.kids.flatMap kdc ++ kdc K)) (hkl : kl = X.kl + 1) (g1 : W.grownBy W1 X.kv.ownBlock) (hat : (Value.slice ka kl kc).ownBlock = X.kv.ownBlock ∨ (∃ q, (Value.slice ka kl kc).ownBlock = some q ∧ W.heap.size ≤ q)) :
  Td w (W1.setCell ⟨g, i * 13 + 10, none⟩ (.slice ka kl kc)) base (.slice (some ⟨g, 0, none⟩) n c) (l.set i { X with ka := ka, kl := kl, kc := kc, kids := X.kids ++ [K] }) := by
 have hkX := (h.each i X hX).kid
 -- all but the kids' row that grew
 have hno : W1.ownsRow base 43 13 (.slice (some ⟨g, 0, none⟩) n c) n (l.flatMap nvc) := by
  have := h.own.kept g1 (owns_ne h.own hkX (by decide))
  rwa [hn] at this
 have hat1 : ∀ (j : Nat) (Y : NoV), l[j]? = some Y → W1.ownsRow base 45 2 (.slice Y.aa Y.al Y.ac) Y.al (Y.attrs.flatMap avc) := fun j Y hY => (h.each j Y hY).own.kept g1 (owns_ne (h.each j Y hY).own hkX (by decide))
 have hkd1 : ∀ (j : Nat) (Y : NoV), l[j]? = some Y → j ≠ i → W1.ownsRow base 47 2 (.slice Y.ka Y.kl Y.kc) Y.kl (Y.kids.flatMap kdc) := fun j Y hY hji => (h.each j Y hY).kid.kept g1 (by
  show Y.kv.ownBlock = none ∨ Y.kv.ownBlock ≠ X.kv.ownBlock
  cases hb : Y.kv.ownBlock with
  | none => exact .inl rfl
  | some b => exact .inr fun e => h.apart j i Y X hY hX hji b hb e.symm)
 obtain ⟨s1, s2⟩ := hno.stored (i * 13 + 10) (.slice ka kl kc)
 rw [flat_set nvc 13 nvc_len (.slice ka kl kc) l i 10 X { X with ka := ka, kl := kl, kc := kc, kids := X.kids ++ [K] } hX (by decide) rfl] at s1
 have hgr1 : w.grownBy W1 none := grown_ownB h.gr hkX g1 h.low
 refine ⟨grown_ownB hgr1 hno s2 h.low, h.low, by rw [List.length_set, hn]; exact s1, fun j Y hY => ?_, fun a b A B hA hB hab k hA2 hB2 => ?_⟩
 ·rcases get_set hY with ⟨rfl, rfl⟩ | ⟨hji, hY'⟩
  ·have hx := h.each j X hX
   refine ⟨hx.row, (hat1 j X hX).kept s2 (owns_ne (hat1 j X hX) hno (by decide)), hx.len, hx.rows, ?_, ?_, hx.dcap⟩
   ·show World.ownsRow _ base 47 2 (.slice ka kl kc) kl ((X.kids ++ [K]).flatMap kdc)
    have e : (X.kids ++ [K]).flatMap kdc = X.kids.flatMap kdc ++ kdc K := by rw [List.flatMap_append]; simp
    rw [e]
    have hown2 : W1.ownsRow base 47 2 (.slice ka kl kc) kl (X.kids.flatMap kdc ++ kdc K) := by rw [hkl] at hown ⊢; exact hown
    exact hown2.kept s2 (owns_ne hown2 hno (by decide))
   ·show kl = (X.kids ++ [K]).length
    rw [hkl, List.length_append, hx.klen]; rfl
  ·have hy := h.each j Y hY'
   exact ⟨hy.row, (hat1 j Y hY').kept s2 (owns_ne (hat1 j Y hY') hno (by decide)), hy.len, hy.rows, (hkd1 j Y hY' hji).kept s2 (owns_ne (hkd1 j Y hY' hji) hno (by decide)), hy.klen, hy.dcap⟩
 ·have hnew : ∀ (j : Nat) (Y : NoV), l[j]? = some Y → j ≠ i → ∀ b, (Value.slice ka kl kc).ownBlock = some b → Y.kv.ownBlock = some b → False := fun j Y hY hji b hb hy => by
   rcases hat with e | ⟨q, e, hq⟩
   ·exact h.apart j i Y X hY hX hji b hy (by rw [← e]; exact hb)
   ·rw [e] at hb
    injection hb with hb
    have := ((h.each j Y hY).kid.lt b hy).2
    omega
  rcases get_set hA with ⟨ea, eA⟩ | ⟨ha, hA'⟩
  ·rcases get_set hB with ⟨eb, eB⟩ | ⟨hb, hB'⟩
   ·omega
   ·exact hnew b B hB' hb k (by rw [eA] at hA2; exact hA2) hB2
  ·rcases get_set hB with ⟨eb, eB⟩ | ⟨hb, hB'⟩
   ·exact hnew a A hA' ha k (by rw [eB] at hB2; exact hB2) hA2
   ·exact h.apart a b A B hA' hB' hab k hA2 hB2
theorem own_kds {w : World} {base t n : Nat} {a : Option Addr} {c : Nat} {l : List Kd} (h : w.ownsRow base t 2 (.slice a n c) n (l.flatMap kdc)) (hn : n = l.length) : Kds w a n l := by
 rcases h.2 with ⟨e, h0⟩ | ⟨g, cap, cur, e, hg, hh, hc, hm, hs, ht⟩
 ·subst h0
  exact ⟨by omega, Nat.zero_le _, fun h => by omega⟩
 ·injection e with e1 e2 e3
  subst e1 e3
  refine ⟨hn.symm, Nat.le_trans hc hm, fun _ => ⟨g, 0, rfl, fun i K hK => ?_⟩⟩
  have hi : i < l.length := (List.getElem?_eq_some_iff.1 hK).1
  constructor
  ·have h1 := h.cellAt (i * 2 + 0) (by omega)
   rw [flat_at kdc 2 kdc_len l i 0 K hK (by decide)] at h1
   simpa [kdc] using h1
  ·have h1 := h.cellAt (i * 2 + 1) (by omega)
   rw [flat_at kdc 2 kdc_len l i 1 K hK (by decide)] at h1
   simpa [kdc] using h1
theorem Nk.ok {w W : World} {base : Nat} {X : NoV} (h : Nk w W base X) (g : w.grownBy W none) : X.ok W := by
 obtain ⟨a, c, e, hats, -, -⟩ := own_ats h.own h.len (fun A hA => ⟨((h.rows A hA).1).grown g, (h.rows A hA).2⟩)
 injection e with e1 e2 e3
 subst e1
 exact ⟨h.row.grown g, hats, own_kds h.kid h.klen⟩
theorem Td.nos {w W : World} {base n c : Nat} {a : Option Addr} {l : List NoV} (h : Td w W base (.slice a n c) l) (hn : l.length = n) : Nos W a n l := by
 have ho := h.own
 rw [hn] at ho
 rcases ho.2 with ⟨e, h0⟩ | ⟨g, cap, cur, e, hg, hh, hc, hm, hs, ht⟩
 ·exact ⟨hn, by omega, fun h => by omega⟩
 ·injection e with e1 e2 e3
  subst e1 e3
  refine ⟨hn, Nat.le_trans hc hm, fun _ => ⟨g, 0, rfl, fun i X hX => ?_⟩⟩
  have k := fun f (hf : f < 13) => h.cell hn hX hf
  rw [Nat.zero_add]
  exact ⟨k 0 (by decide), k 1 (by decide), k 2 (by decide), k 3 (by decide), k 4 (by decide), k 5 (by decide), k 6 (by decide), k 7 (by decide), k 8 (by decide), k 9 (by decide), k 10 (by decide), k 11 (by decide), k 12 (by decide), (h.each i X hX).ok h.gr⟩
end Go.Proofs.YtlehncfehoelbaaGreatDoor
