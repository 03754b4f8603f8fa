/- New of a tree in the one way; fails. The statements' made: a model of a list of entries. Names in folders: the program's. Plain facts: names in folders are few and right, each is found; what is read in parts is what is read at once. Names in folders: the document's. Bytes of files read: the document's. The program's walks, where nothing is wrong. -/
import Derived.Test.YtlehncfehoelbaaGreatDoorB10
import Derived.Test.YtlehncfehoelbaaGreatDoorB13
import Derived.Test.YtlehncfehoelbaaGreatDoorB19
import Derived.Test.YtlehncfehoelbaaGreatDoorB21
import Derived.Test.YtlehncfehoelbaaGreatDoorB33
import Derived.Test.YtlehncfehoelbaaGreatDoorB34
namespace Go.Proofs.YtlehncfehoelbaaGreatDoor
open Go.RowKit
set_option maxRecDepth 100000
set_option linter.unusedSimpArgs false
set_option linter.unusedVariables false
theorem tk {P : Program} {md : Region.Mode} {ops : Array Oper} {Q : Exit → Act → World → Prop} {S : World → Prop} {i : Nat} {oi : Oper} {v : Value} {fuel : Nat} {listed : Array Bool} {a : Act} {w : World} (hi : ops[i]? = some oi) (hy : YieldsIf P ops S oi v a) (hS : S w)
 (h : wpAnyH P md ops Q S fuel (listed.setIfInBounds i true) (a.put oi.dst v) w) (hs : Region.noSelect ops = true := by kernel_rfl) (hf : Region.free md ops listed i = true := by kernel_rfl) (hr : (Region.ready md ops listed).contains i = true := by kernel_rfl)
 (hQ : ∀ c a w, Q (.panic c) (a.put oi.dst v) w → Q (.panic c) a w := by exact fun _ _ _ h => h) : wpAnyH P md ops Q S (fuel + 1) listed a w := wpAnyH_take hi hs hf hr hQ hy hS h
theorem xga (w : World) (o : Obj) (r : Option Nat) : w.grownBy (w.alloc o) r := World.grownBy_alloc w o r
theorem xai {a b : Prop} (h : a) (k : b) : a ∧ b := ⟨h, k⟩
theorem xgt {a b c : World} {r : Option Nat} (h : a.grownBy b r) (k : b.grownBy c r) : a.grownBy c r := grown_trans h k

theorem bst_len12 (s : Bs Tx) (t : Tp Tx) : (bst s t).ns.length ≤ s.ns.length + 1 := by
 have h : (newO s t).ns.length ≤ s.ns.length + 1 := by
  unfold newO
  split
  ·exact Nat.le_succ _
  ·simp
 unfold bst
 simp only
 split <;> simp only [addLink, setUp, addKid, List.length_modify] <;> exact h
theorem fold_len12 : ∀ (ts : List (Tp Tx)) (s : Bs Tx), (ts.foldl bst s).ns.length ≤ s.ns.length + ts.length
 | [], s => Nat.le_refl _
 | t :: ts, s => by
  rw [List.foldl_cons, List.length_cons]
  have h1 := fold_len12 ts (bst s t)
  have h2 := bst_len12 s t
  omega
theorem canon_len {l : List En} (ok : OkS l) (hl : l.length ≤ 16384) : (canon l).length ≤ 16385 := by
 have h1 := (canon_wt ok hl).len
 rw [canon_trs]
 unfold bld
 have h2 := fold_len12 (trs l) ⟨[], [{ ndOf (look l []) with links := 2 }]⟩
 have h3 : ((⟨[], [{ ndOf (look l []) with links := 2 }]⟩ : Bs Tx)).ns.length = 1 := rfl
 refine Nat.le_trans h2 ?_
 rw [h3]
 omega
theorem pnew_canon {L : List En} (hc : (chk11 L).2 = 0) (hll : L.length ≤ 40) (hda : ∀ x ∈ L, x.data.length ≤ 70000) {w W : World} {base : Nat} {b5 : Option Addr} {n5 c5 : Nat} {ns : List NoV} (hT : Td w W base (.slice b5 n5 c5) ns) (hn5 : ns.length = n5) (hno : nos ns = canon L)
  (W' : World) (g : W.grownBy W' none) : Calls Tryz.prog 23 #[.agg #[.slice b5 n5 c5]] W' (NwPost W' ns) := by
 obtain ⟨-, hsum, ok⟩ := chk_ok.1 hc
 have hsmc := canon_sm ok hsum
 have hksm := kids_small ok
 have hkap := kids_apart ok (by omega)
 have hcl := canon_len ok (by omega)
 rw [← hno] at hsmc hksm hkap hcl
 obtain ⟨s0, hs1, hs2, hs3, hs4⟩ := back_tells ok hll hda
 rw [← hno] at hs1 hs2 hs4
 have hs0l : s0.list.length = (lstL L).length := by rw [← hs2, List.length_map]
 have hll2 := (lstL_len ok).1
 rw [nos_len, hn5] at hcl
 refine pnew_any b5 n5 c5 ns W' ((hT.nos hn5).grown g) (fun N hN => ?_) s0 ⟨hs1, by rw [hs2]; exact hs3, by rw [hs2]; exact hs4⟩ (by omega) (by omega) (fun N hN => ⟨(hkap N hN).1, Nat.le_trans (hkap N hN).2 (by decide), fun k hk => Nat.le_trans (hksm N hN k hk) (by decide)⟩)
 obtain ⟨i, hi⟩ := List.mem_iff_getElem?.1 hN
 have hm : N.no ∈ nos ns := List.mem_map.2 ⟨N, hN, rfl⟩
 exact (hT.each i N hi).ncp12 (hsmc _ hm) (hksm _ hm)
theorem num12_any (n : Int) (w : World) : Calls Tryz.prog 20 #[.int .i64 n] w fun e w' => e = .returned (.int .i64 n) ∧ w = w' := by
 go_enter Tryz.func20, Tryz.ntmps20
 go_wp2
 go_ret
 exact ⟨rfl, rfl⟩
theorem Gd.szs {len : Nat} {l : List EnV} (h : Gd len l) : Sml l := fun X hX => by
 obtain ⟨i, hi, rfl⟩ := List.getElem_of_mem hX
 have k := h.2.1 i l[i] (List.getElem?_eq_getElem hi)
 refine ⟨k.p, k.t, fun A hA => ?_⟩
 obtain ⟨j, hj, rfl⟩ := List.getElem_of_mem hA
 have := (k.at_ j _ (List.getElem?_eq_getElem hj)).1
 omega
set_option maxHeartbeats 2000000 in
theorem fails_bad (a : Option Addr) (len cap : Nat) (l : List EnV) (w : World) (E : Ens w a len l) (hb : Gd len l → (chk11 (ens l)).2 ≠ 0) : Calls Tryz.prog 17 #[.slice a len cap] w fun e w' => e = .returned (.bool false) ∧ w.grownBy w' none := by
 have hmu := rmuch_two a len cap l w E
 unfold MuPost2 at hmu
 have HE : Hid _ := xai E hb
 clear E hb
 go_enter Tryz.func17, Tryz.ntmps17
 go_wp2_with fail
 refine hmu.mono ?_
 clear hmu
 rintro e W1 ⟨⟨rfl, -⟩ | ⟨rfl, hG⟩, g1⟩
 ·have HG : Hid _ := g1
  clear g1
  go_wp2
  go_ret
  exact ⟨rfl, HG.out⟩
 ·have hrc := rcheck_any a len cap l W1 (HE.out.1.grown g1) hG.szs (by have := hG.1; omega)
  have hne := HE.out.2 hG
  have HG : Hid _ := g1
  clear g1 hG
  generalize (chk11 (ens l)).1 = k1 at *
  generalize (chk11 (ens l)).2 = k2 at *
  have hkb : (k2 == 0) = false := by rw [beq_eq_false_iff_ne]; exact hne
  go_wp2_with fail
  refine hrc.mono ?_
  clear hrc
  rintro e W2 ⟨rfl, g2⟩
  have HG2 : Hid _ := xgt HG.out g2
  clear g2
  go_wp2
  go_ret
  exact ⟨rfl, HG2.out⟩
theorem tree_size : (Tryz.prog.info? 33).map (·.size) = some 1 := by kernel_rfl
/-- what made makes -/
def MkPost (w : World) (len : Nat) (l : List EnV) (e : Ending) (w' : World) : Prop := w.grownBy w' none ∧
 ((e = .returned (.tuple #[.pointer none, .agg #[.slice none 0 0], .bool false]) ∧ (Gd len l → (chk11 (ens l)).2 ≠ 0)) ∨
  (Gd len l ∧ (chk11 (ens l)).2 = 0 ∧ ∃ (mb mp : Nat) (a : Option Addr) (n c : Nat) (ns2 : List NoV) (b5 : Option Addr) (n5 c5 : Nat) (ns : List NoV), e = .returned (.tuple #[.pointer (some ⟨mb, 0, none⟩), .agg #[.slice b5 n5 c5], .bool true]) ∧ Md w' mb a n c mp ns2 ∧ Nos w' b5 n5 ns ∧ nos ns2 = nos ns ∧ nos ns = canon (ens l)))
theorem ne_cell {W : World} {r : Nat} {T : TypeId} {x : Value} (hb : Bx W r T [x]) {b o : Nat} {v : Value} (h : W.cell? ⟨b, o, none⟩ = some v) (hv : v ≠ x) : b ≠ r := fun e => by
 subst e
 have := hb.c o
 rw [h] at this
 match o, this with
 | 0, t => injection t with t; exact hv t
 | o + 1, t => cases t
theorem cell_but12 {W W' : World} {r : Nat} (g : W.grownBy W' (some r)) {b o : Nat} {v : Value} (h : W.cell? ⟨b, o, none⟩ = some v) (hne : b ≠ r) : W'.cell? ⟨b, o, none⟩ = some v := g.cell h (by simpa using hne)
theorem Row.but12 {W W' : World} {r : Nat} {T : TypeId} {a : Option Addr} {n : Nat} {xs : List Int} (h : Row W a n xs) {y : Option Addr} {u v : Nat} (hb : Bx W r T [.slice y u v]) (g : W.grownBy W' (some r)) : Row W' a n xs :=
 ⟨h.len_eq, h.le, h.byt, fun h0 => by
  obtain ⟨b, off, e, k⟩ := h.cells h0
  exact ⟨b, off, e, fun i hi => cell_but12 g (k i hi) (ne_cell hb (k i hi) (by simp))⟩⟩
theorem Nos.but12 {W W' : World} {r : Nat} {T : TypeId} {a : Option Addr} {n : Nat} {ns : List NoV} (h : Nos W a n ns) {y : Option Addr} {u v : Nat} (hb : Bx W r T [.slice y u v]) (g : W.grownBy W' (some r)) : Nos W' a n ns :=
 ⟨h.len_eq, h.le, fun h0 => by
  obtain ⟨b, off, e, k⟩ := h.at_ h0
  refine ⟨b, off, e, fun i X hX => ?_⟩
  have q := k i X hX
  have hne : b ≠ r := ne_cell hb q.c0 (by simp)
  refine ⟨cell_but12 g q.c0 hne, cell_but12 g q.c1 hne, cell_but12 g q.c2 hne, cell_but12 g q.c3 hne, cell_but12 g q.c4 hne, cell_but12 g q.c5 hne, cell_but12 g q.c6 hne, cell_but12 g q.c7 hne, cell_but12 g q.c8 hne, cell_but12 g q.c9 hne, cell_but12 g q.c10 hne, cell_but12 g q.c11 hne, cell_but12 g q.c12 hne, q.ok.row.but12 hb g, ?_, ?_⟩
  ·exact ⟨q.ok.ats.len_eq, q.ok.ats.le, fun h1 => by
    obtain ⟨b2, o2, e2, k2⟩ := q.ok.ats.at_ h1
    refine ⟨b2, o2, e2, fun j A hA => ?_⟩
    have z := k2 j A hA
    have hz : b2 ≠ r := ne_cell hb z.c0 (by simp)
    exact ⟨cell_but12 g z.c0 hz, cell_but12 g z.c1 hz, z.row.but12 hb g, z.cap⟩⟩
  ·exact ⟨q.ok.kds.len_eq, q.ok.kds.le, fun h1 => by
    obtain ⟨b2, o2, e2, k2⟩ := q.ok.kds.at_ h1
    refine ⟨b2, o2, e2, fun j A hA => ?_⟩
    have z := k2 j A hA
    have hz : b2 ≠ r := ne_cell hb z.c0 (by simp)
    exact ⟨cell_but12 g z.c0 hz, cell_but12 g z.c1 hz⟩⟩⟩
theorem Md.but12 {W W' : World} {r : Nat} {T : TypeId} {mb : Nat} {a : Option Addr} {n c mp : Nat} {ns : List NoV} (h : Md W mb a n c mp ns) {y : Option Addr} {u v : Nat} (hb : Bx W r T [.slice y u v]) (g : W.grownBy W' (some r)) (h1 : mb ≠ r) (h2 : mp ≠ r) : Md W' mb a n c mp ns := by
 obtain ⟨m, f, h3, h4⟩ := h.map
 exact ⟨h.box.but g (by simpa using h1), h.nos.but12 hb g, h.caps, m, f, h3.kept g (by simpa using h2), h4⟩
theorem gd_data {w : World} {a : Option Addr} {len : Nat} {l : List EnV} (E : Ens w a len l) (h : Gd len l) : ∀ x ∈ ens l, x.data.length ≤ 70000 := fun x hx => by
 obtain ⟨X, hX, rfl⟩ := List.mem_map.1 hx
 obtain ⟨i, hi⟩ := List.mem_iff_getElem?.1 hX
 have h1 := (h.2.1 i X hi).d
 have hil := (List.getElem?_eq_some_iff.1 hi).1
 obtain ⟨b, off, -, k⟩ := E.at_ (by rw [← E.len_eq]; omega)
 have h2 := (k i X hi).ok.row.len_eq
 show X.data.length ≤ 70000
 omega
theorem gd_al {len : Nat} {l : List EnV} (h : Gd len l) : ∀ X ∈ l, X.al ≤ 100000 := fun X hX => by
 obtain ⟨i, hi⟩ := List.mem_iff_getElem?.1 hX
 have := (h.2.1 i X hi).a
 omega
set_option maxHeartbeats 8000000 in
theorem made_any (a : Option Addr) (len cap : Nat) (l : List EnV) (w : World) (E : Ens w a len l) : Calls Tryz.prog 16 #[.slice a len cap] w (MkPost w len l) := by
 have bR := Bx.new w 33 [.slice none 0 0]
 have gR := xga w (.cells #[.slice none 0 0] 33) none
 have hmu := rmuch_two a len cap l _ (E.grown gR)
 unfold MuPost2 at hmu
 have HE : Hid _ := xai E (xai bR gR)
 clear E bR gR
 go_enter Tryz.func16, Tryz.ntmps16
 go_wp2_with fail
 refine hmu.mono ?_
 clear hmu
 rintro e W1 ⟨⟨rfl, hbad⟩ | ⟨rfl, hG⟩, g1⟩
 ·have bR := HE.out.2.1.kept g1
  have c0 : _ = some _ := bR.c 0
  have f0 := bR.f 0
  have b2 := bR.set 0 (.slice none 0 0)
  have d0 : _ = some _ := b2.c 0
  have HF : Hid _ := xai (grown_new (xgt HE.out.2.2 g1) (grown_set W1 w.heap.size 0 (.slice none 0 0)) (Nat.le_refl _)) hbad
  clear bR b2 g1 hbad
  go_wp2_with fail
  refine bodyPost_ret (v := .tuple #[.pointer none, .agg #[.slice none 0 0], .bool false]) (by simp [results, Tryz.results16, go_sem, *]) rfl ?_
  exact ⟨HF.out.1, Or.inl ⟨rfl, fun h => absurd h HF.out.2⟩⟩
 ·have hrc := rcheck_any a len cap l W1 (HE.out.1.grown (xgt HE.out.2.2 g1)) hG.szs (by have := hG.1; omega)
  have HG : Hid _ := xai hG (xai (xgt HE.out.2.2 g1) (HE.out.2.1.kept g1))
  clear g1 hG
  generalize hk1 : (chk11 (ens l)).1 = k1 at *
  generalize hk2 : (chk11 (ens l)).2 = k2 at *
  have HK : Hid _ := hk2
  clear hk1 hk2
  go_wp2_with fail
  refine hrc.mono ?_
  clear hrc
  rintro e W2 ⟨rfl, g2⟩
  have HG2 : Hid _ := xai (xgt HG.out.2.1 g2) (HG.out.2.2.kept g2)
  clear g2
  by_cases hz : k2 = 0
  ·subst hz
   have hca := rcanon_any a len cap l W2 (HE.out.1.grown HG2.out.1) HG.out.1.szs (by have := HG.out.1.1; omega) (gd_al HG.out.1) (chk_ok.1 HK.out).2.2
   unfold CaPost at hca
   go_wp2_with fail
   refine hca.mono ?_
   clear hca
   rintro e W3 ⟨b5, n5, c5, ns, rfl, hT, hn5, hno⟩
   have gA := xga W3 (.cells #[.slice b5 n5 c5] 33) none
   have bT := Bx.new W3 33 [.slice b5 n5 c5]
   have t0 : _ = some _ := bT.c 0
   have hnw := pnew_canon HK.out (by unfold ens; rw [List.length_map, HE.out.1.len_eq]; exact HG.out.1.1) (gd_data HE.out.1 HG.out.1) hT hn5 hno _ gA
   have H3 : Hid _ := xai (xgt (xgt HG2.out.1 hT.gr) gA) (xai ((hT.nos hn5).grown gA) (xai hno (xai ((HG2.out.2.kept hT.gr).kept gA) bT)))
   have hgt : w.heap.size < W3.heap.size := (HG2.out.2.kept hT.gr).lt
   have hgt4 := gA.size
   have HGT : Hid _ := xai hgt hgt4
   clear gA bT hT hn5 hno HG2 hgt hgt4
   go_wp2_with fail
   generalize W3.alloc (.cells #[.slice b5 n5 c5] 33) = W4 at *
   generalize W3.heap.size = gt at *
   refine hnw.mono ?_
   clear hnw t0
   rintro e W5 ⟨mb, mp, a1, n1, c1, ns2, rfl, g5, hM, hn2, hmb, hmp, -, -⟩
   have H5 : Hid _ := xai (xgt H3.out.1 g5) (xai (H3.out.2.1.grown g5) (xai hM (xai hn2 (xai (H3.out.2.2.2.1.kept g5) (H3.out.2.2.2.2.kept g5)))))
   have HNO : Hid _ := H3.out.2.2.1
   have HNE : Hid (mb ≠ w.heap.size ∧ mp ≠ w.heap.size ∧ gt ≠ w.heap.size) := by have h1 := HGT.out; exact ⟨by omega, by omega, by omega⟩
   clear g5 hM hn2 H3 hmb hmp HGT
   go_wp2_with fail
   refine wp_region_held_drew (S := fun w' => W5.grownBy w' (some w.heap.size)) (by kernel_rfl) ⟨rfl, rfl, rfl, Nat.le_refl _, fun _ _ _ => rfl⟩ (fun hH => ?_)
   have HRD : Hid (Bx W5.drew w.heap.size 33 [.slice none 0 0]) := H5.out.2.2.2.2.1.kept (drewG0 W5)
   generalize W5.drew = WD at *
   refine tk (i := 0) (oi := ⟨some 28, _, _, _, _, _⟩) (v := .pointer (some ⟨mb, 0, none⟩)) rfl (Or.inl ⟨by rfl, fun w hSw => by go_simp⟩) hH ?_
   simp only [Act.put, pu]
   refine tk (i := 1) (oi := ⟨some 29, _, _, _, _, _⟩) (v := .agg #[.slice b5 n5 c5]) rfl (Or.inl ⟨by rfl, fun w hSw => by have c0 : _ = some _ := (H5.out.2.2.2.2.2.but hSw (by simpa using HNE.out.2.2)).c 0; go_simp⟩) hH ?_
   simp only [Act.put, pu]
   refine tk (i := 2) (oi := ⟨some 30, _, _, _, _, _⟩) (v := .int .i64 0) rfl (Or.inl ⟨by rfl, fun w hSw => by go_simp⟩) hH ?_
   simp only [Act.put, pu]
   refine wpAnyH_ready (rs := [3]) (by kernel_rfl) (by simp) ?_
   refine AllReadyH.cons rfl (fun K1 hK => ?_) AllReadyH.nil
   go_simp
   refine (num12_any _ _).mono ?_
   rintro e w' ⟨rfl, rfl⟩
   refine hK.out _ _ hH (fun h0 => ?_)
   clear h0 hK K1
   try simp only [Act.put, pu]
   refine tk (i := 4) (oi := ⟨some 32, _, _, _, _, _⟩) (v := .bool true) rfl (Or.inl ⟨by rfl, fun w hSw => by go_simp⟩) hH ?_
   simp only [Act.put, pu]
   refine tk (i := 5) (oi := ⟨some 2, _, _, _, _, _⟩) (v := .pointer (some ⟨mb, 0, none⟩)) rfl (Or.inl ⟨by rfl, fun w hSw => by go_simp⟩) hH ?_
   simp only [Act.put, pu]
   refine wpAnyH_ready (rs := [6]) (by kernel_rfl) (by simp) ?_
   refine AllReadyH.cons rfl (fun K1 hK => ?_) AllReadyH.nil
   refine step_store_bx (by rfl) 33 _ _ (by rfl) w.heap.size [.slice b5 n5 c5] (by rfl) (by rfl) (old := [.slice none 0 0]) HRD.out tree_size rfl rfl ?_
   intro W6 hB6 g6
   replace hH := xgt hH g6
   have HB6 : Hid _ := hB6
   clear hB6 g6
   refine hK.out _ _ hH (fun h0 => ?_)
   clear h0 hK K1
   try simp only [Act.put, pu]
   refine tk (i := 7) (oi := ⟨some 4, _, _, _, _, _⟩) (v := .bool true) rfl (Or.inl ⟨by rfl, fun w hSw => by go_simp⟩) hH ?_
   simp only [Act.put, pu]
   refine wpAnyH_done (by kernel_rfl) ?_ _
   have HF : Hid _ := xai (grown_new H5.out.1 hH (Nat.le_refl _)) (xai (H5.out.2.2.1.but12 H5.out.2.2.2.2.1 hH HNE.out.1 HNE.out.2.1) (H5.out.2.1.but12 H5.out.2.2.2.2.1 hH))
   clear hH
   have d0 : _ = some _ := HB6.out.c 0
   go_wp2_with fail
   refine bodyPost_ret (v := .tuple #[.pointer (some ⟨mb, 0, none⟩), .agg #[.slice b5 n5 c5], .bool true]) (by simp [results, Tryz.results16, go_sem, *]) rfl ?_
   exact ⟨HF.out.1, Or.inr ⟨HG.out.1, HK.out, mb, mp, a1, n1, c1, ns2, b5, n5, c5, ns, rfl, HF.out.2.1, HF.out.2.2, H5.out.2.2.2.1, HNO.out⟩⟩
  ·have hkb : (k2 == 0) = false := by rw [beq_eq_false_iff_ne]; exact hz
   have hkn : (k2 != 0) = true := by simp [hz]
   have c0 : _ = some _ := HG2.out.2.c 0
   have f0 := HG2.out.2.f 0
   have b2 := HG2.out.2.set 0 (.slice none 0 0)
   have d0 : _ = some _ := b2.c 0
   have HF : Hid _ := grown_new HG2.out.1 (grown_set W2 w.heap.size 0 (.slice none 0 0)) (Nat.le_refl _)
   clear b2
   go_wp2_with fail
   refine bodyPost_ret (v := .tuple #[.pointer none, .agg #[.slice none 0 0], .bool false]) (by simp [results, Tryz.results16, go_sem, *]) rfl ?_
   exact ⟨HF.out, Or.inl ⟨rfl, fun _ => by rw [HK.out]; exact hz⟩⟩
theorem infoK : (Tryz.prog.info? 47).map (fun i => (i.zero, i.size, i.bytes)) = some (some (.agg #[.string ⟨#[]⟩, .int .i64 0]), 2, 24) := by kernel_rfl
/-- what Readdir answers -/
def rdr (L : List No) (i cur n : Int) : List Kd × Int × Int :=
 if knd L i 2 ≠ 0 then ([], 0, knd L i 2) else if cur < 0 ∨ n < 0 then ([], 0, 1) else
  (((((L[i.toNat]?).map No.kids).getD []).drop cur.toNat).take n.toNat, cur + ((((((L[i.toNat]?).map No.kids).getD []).drop cur.toNat).take n.toNat).length : Nat), 0)
theorem rdr_bad {L : List No} {i cur n : Int} (h : knd L i 2 ≠ 0) : rdr L i cur n = ([], 0, knd L i 2) := by unfold rdr; rw [if_pos h]
theorem rdr_at {ns : List NoV} {j : Nat} {X : NoV} (hX : ns[j]? = some X) (h : knd (nos ns) j 2 = 0) (cur n : Int) : rdr (nos ns) (j : Int) cur n = if cur < 0 ∨ n < 0 then ([], (0 : Int), (1 : Int)) else ((X.kids.drop cur.toNat).take n.toNat, cur + (((X.kids.drop cur.toNat).take n.toNat).length : Nat), 0) := by
 unfold rdr
 rw [if_neg (by rw [h]; simp), Int.toNat_natCast, nos_get12 hX]
 rfl
def RkPost (w : World) (A : List Kd × Int × Int) (e : Ending) (w' : World) : Prop := ∃ (a : Option Addr) (m c : Nat), e = .returned (.tuple #[.slice a m c, .int .i64 A.2.1, .int .i64 A.2.2]) ∧ w.grownBy w' none ∧ Kds w' a m A.1
theorem kds_nil (w : World) (a : Option Addr) : Kds w a 0 [] := ⟨rfl, Nat.zero_le _, fun h => absurd h (Nat.lt_irrefl 0)⟩
/-- names from a place on -/
theorem wpList_lowK {P : Program} {w : World} {ops : Array Oper} {rest : List Oper} {o : Oper} {a : Act} {Q : Exit → Act → World → Prop} (hg : o.guard = none) (x l : Operand) (t : TypeId)
  (ho : o.op = .slice t x (some l) none none) (ht : P.underlying t = some (.slice 47)) (i : TypeInfo) (hi : P.info? 47 = some i) (hsz : i.size = 2)
  (da : Option Addr) (len cap k : Nat) (K : Int) (hx : a.eval x = .slice da len cap) (hl : a.eval l = .int .i64 K) (hK : K = (k : Int)) (h1 : k ≤ len) (h2 : len ≤ cap) (xs : List Kd) (R : Kds w da len xs)
  (hk : ∀ a', Hid (Kds w a' (len - k) (xs.drop k)) → wpList P ops Q rest (a.put o.dst (.slice a' (len - k) (cap - k))) w) : wpList P ops Q (o :: rest) a w := by
 refine wpList_plain hg fun K' hK' => ?_
 have he : P.elem t = 47 := by simp [Program.elem, ht]
 have ht' : P.underlying t = some (.slice (P.elem t)) := by rw [he]; exact ht
 have hs : (sizeOf 47).run P w = .ok 2 w := by rw [run_sizeOf w hi]; simp [Program.cellsOf, hi, hsz]
 subst hK
 have hr := run_slice_l (P := P) (w := w) (a := da) (len := len) (cap := cap) (t := t) ht' .i64 (k : Int) (by omega) (by omega)
 rw [he, hs] at hr
 simp only [Result.andThen, Int.toNat_natCast] at hr
 have hlen := R.len_eq
 have hv : ∃ a', sliced da k len cap 2 = .slice a' (len - k) (cap - k) ∧ Kds w a' (len - k) (xs.drop k) := by
  unfold sliced
  by_cases c : cap = k
  ·rw [if_pos c]
   refine ⟨da, rfl, ?_⟩
   rw [show len - k = 0 by omega, List.drop_eq_nil_of_le (by omega)]
   exact kds_nil w da
  ·rw [if_neg c]
   refine ⟨_, rfl, by rw [List.length_drop, hlen], by have := R.le; omega, fun h => ?_⟩
   obtain ⟨b, off, rfl, hc⟩ := R.at_ (by omega)
   have hadd : (⟨b, off, none⟩ : Addr).add (k * 2) = ⟨b, off + k * 2, none⟩ := by unfold Addr.add; split <;> simp_all
   refine ⟨b, off + k * 2, by rw [Option.map_some, hadd], fun j x hj => ?_⟩
   rw [List.getElem?_drop] at hj
   have z := hc (k + j) x hj
   rw [show off + k * 2 + j * 2 = off + (k + j) * 2 by omega]
   exact z
 obtain ⟨a', hv, h3⟩ := hv
 rw [hv] at hr
 unfold Oper.wp
 simp [execOp, ho, hx, hl, hr, Result.andThen, run_sliceAt_slice (P := P) (w := w) t _ _ _ _ ht']
 exact hK' _ _ (hk _ h3)
/-- the first names -/
theorem wpList_highK {P : Program} {w : World} {ops : Array Oper} {rest : List Oper} {o : Oper} {a : Act} {Q : Exit → Act → World → Prop} (hg : o.guard = none) (x l : Operand) (t : TypeId)
  (ho : o.op = .slice t x none (some l) none) (ht : P.underlying t = some (.slice 47)) (i : TypeInfo) (hi : P.info? 47 = some i) (hsz : i.size = 2)
  (da : Option Addr) (len cap k : Nat) (K : Int) (hx : a.eval x = .slice da len cap) (hl : a.eval l = .int .i64 K) (hK : K = (k : Int)) (h1 : k ≤ cap)
  (hk : wpList P ops Q rest (a.put o.dst (.slice da k cap)) w) : wpList P ops Q (o :: rest) a w := by
 refine wpList_plain hg fun K' hK' => ?_
 have he : P.elem t = 47 := by simp [Program.elem, ht]
 have ht' : P.underlying t = some (.slice (P.elem t)) := by rw [he]; exact ht
 have hs : (sizeOf 47).run P w = .ok 2 w := by rw [run_sizeOf w hi]; simp [Program.cellsOf, hi, hsz]
 subst hK
 have hr := run_slice_h (P := P) (w := w) (a := da) (len := len) (cap := cap) (t := t) ht' .i64 (k : Int) (by omega) (by omega)
 rw [he, hs] at hr
 simp only [Result.andThen, Int.toNat_natCast] at hr
 have hv : sliced da 0 k cap 2 = .slice da k cap := by
  unfold sliced
  have e : da.map (·.add (0 * 2)) = da := by
   cases da with
   | none => rfl
   | some p => simp [Addr.add]
  rw [e]
  split <;> simp
 rw [hv] at hr
 unfold Oper.wp
 simp [execOp, ho, hx, hl, hr, Result.andThen, run_sliceAt_slice (P := P) (w := w) t _ _ _ _ ht']
 exact hK' _ _ hk
theorem lowK_here {P : Program} {w : World} {ops : Array Oper} {rest : List Oper} {a : Act} {Q : Exit → Act → World → Prop} {dst : Option Nat} {t : TypeId} {x l : Operand} {type : TypeId} {pos : String} {after : Array Edge} {guard : Option (Nat × Bool)}
  (k : wpList P ops Q (⟨dst, .slice t x (some l) none none, type, pos, after, guard⟩ :: rest) a w) : wpList P ops Q (⟨dst, .slice t x (some l) none none, type, pos, after, guard⟩ :: rest) a w := k
theorem highK_here {P : Program} {w : World} {ops : Array Oper} {rest : List Oper} {a : Act} {Q : Exit → Act → World → Prop} {dst : Option Nat} {t : TypeId} {x l : Operand} {type : TypeId} {pos : String} {after : Array Edge} {guard : Option (Nat × Bool)}
  (k : wpList P ops Q (⟨dst, .slice t x none (some l) none, type, pos, after, guard⟩ :: rest) a w) : wpList P ops Q (⟨dst, .slice t x none (some l) none, type, pos, after, guard⟩ :: rest) a w := k
theorem kds_take {w : World} {a : Option Addr} {n m : Nat} {l : List Kd} (h : Kds w a n l) (hm : m ≤ n) : Kds w a m (l.take m) :=
 ⟨by rw [List.length_take, h.len_eq]; omega, Nat.le_trans hm h.le, fun h0 => by
  obtain ⟨b, off, e, k⟩ := h.at_ (by omega)
  exact ⟨b, off, e, fun i K hK => k i K (by rw [List.getElem?_take] at hK; split at hK; exact hK; cases hK)⟩⟩
theorem kds_src {w : World} {ad : Addr} {n : Nat} {l : List Kd} (h : Kds w (some ad) n l) : ∀ j u, (l.flatMap kdc)[j]? = some u → w.cell? (ad.add j) = some u := by
 intro j u hj
 have hlen : j < l.length * 2 := by
  rcases Nat.lt_or_ge j (l.length * 2) with k | k
  ·exact k
  ·rw [List.getElem?_eq_none (by rw [flat_len kdc 2 kdc_len]; exact k)] at hj; cases hj
 have hn := h.len_eq
 obtain ⟨b, off, e, k⟩ := h.at_ (by omega)
 injection e with e
 subst e
 obtain ⟨x, hx⟩ : ∃ x, l[j / 2]? = some x := ⟨_, List.getElem?_eq_getElem (by omega)⟩
 have hf := flat_at kdc 2 kdc_len l (j / 2) (j % 2) x hx (Nat.mod_lt _ (by decide))
 rw [show j / 2 * 2 + j % 2 = j by omega, hj] at hf
 have z := k (j / 2) x hx
 have hadd : (⟨b, off, none⟩ : Addr).add j = ⟨b, off + j, none⟩ := by unfold Addr.add; split <;> simp_all
 rw [hadd]
 rcases Nat.mod_two_eq_zero_or_one j with e | e
 ·rw [e] at hf
  rw [show off + j = off + j / 2 * 2 by omega, z.c0, hf]; rfl
 ·rw [e] at hf
  rw [show off + j = off + j / 2 * 2 + 1 by omega, z.c1, hf]; rfl
theorem kdc_one (l : List Kd) : ∀ u ∈ l.flatMap kdc, u.oneCell' = true := by
 intro u hu
 obtain ⟨x, -, hx⟩ := List.mem_flatMap.1 hu
 unfold kdc at hx
 simp at hx
 rcases hx with rfl | rfl <;> rfl
theorem eqlnilK (p : Addr) (n c : Nat) (W : World) : (binOp .eql 41 (.slice (some p) n c) (.slice none 0 0)).run Tryz.prog W = .ok (.bool false) W := by kernel_rfl
theorem eqlnilK0 (c : Nat) (W : World) : (binOp .eql 41 (.slice none 0 c) (.slice none 0 0)).run Tryz.prog W = .ok (.bool true) W := by kernel_rfl
set_option maxHeartbeats 2000000 in
theorem pcloneK_any (a : Option Addr) (n c : Nat) (l : List Kd) (w : World) (R : Kds w a n l) (hn : n ≤ 100000) :
  Calls Tryz.prog 47 #[.slice a n c] w fun e w' => ∃ a' c', e = .returned (.slice a' n c') ∧ Kds w' a' n l ∧ w.grownBy w' none := by
 obtain ⟨ik, hi, hz0, hz1, hz2⟩ := info_parts infoK
 cases a with
 | none =>
  obtain rfl : n = 0 := by
   rcases Nat.eq_zero_or_pos n with h | h
   ·exact h
   ·obtain ⟨_, _, e, _⟩ := R.at_ h; cases e
  obtain rfl : l = [] := List.eq_nil_of_length_eq_zero R.len_eq
  have hen := eqlnilK0 c
  go_enter Tryz.func47, Tryz.ntmps47
  go_wp2_with fail
  go_ret
  exact ⟨none, 0, rfl, kds_nil _ _, World.grownBy.refl _ _⟩
 | some p =>
  have O0 := World.ownsRow_made (base := w.heap.size) (e := 47) (size := 2) w #[] 0 (Nat.le_refl _) (Nat.zero_le _) (by simp)
  have R0 := R.grown (xga w (.cells #[] 47) none)
  have hen := eqlnilK p n c
  have HL : Hid _ := R.len_eq
  clear R
  go_enter Tryz.func47, Tryz.ntmps47
  go_wp2_with (at_builtin; refine wpList_append_own _ rfl _ _ 41 rfl w.heap.size 47 ik (.agg #[.string ⟨#[]⟩, .int .i64 0]) 2 24 Tryz.underlying41 hi hz0 hz1 hz2 rfl (by decide) _ 0 [] rfl O0 p n c (l.flatMap kdc) rfl (by rw [flat_len kdc 2 kdc_len, HL.out]) (kds_src R0) (kdc_one l) (by unfold maxLen; omega) (by omega) (by simp) ?_)
  intro v1 w1 o1 g1 _
  obtain ⟨a1, c1, rfl⟩ := own_shape o1
  have G1 : w.grownBy w1 none := grown_own (xga w (.cells #[] 47) none) O0 g1 (Nat.le_refl _)
  try rw [Nat.zero_add, List.nil_append] at o1
  have H1 : Hid _ := xai (own_kds o1 HL.out.symm) G1
  clear O0 R0 o1 g1 G1
  go_wp2_with fail
  go_ret
  refine ⟨a1, c1, ?_, H1.out.1, H1.out.2⟩
  first | rfl | (rw [Nat.zero_add]; rfl)
set_option maxHeartbeats 8000000 in
theorem preaddir_any (w : World) (mb : Nat) (a : Option Addr) (n c mp : Nat) (ns : List NoV) (h : Md w mb a n c mp ns) (i cur m : Int) (hkl : ∀ X ∈ ns, X.kids.length ≤ 100000) (hc : cur ≤ 9223372036854775807) :
  Calls Tryz.prog 21 #[.pointer (some ⟨mb, 0, none⟩), .int .i64 i, .int .i64 cur, .int .i64 m] w (RkPost w (rdr (nos ns) i cur m)) := by
 have hok := pofkind_any w mb a n c (.map (some mp)) ns h.box h.nos i 2 (by decide)
 have HM : Hid _ := xai h (xai hkl hc)
 clear h hkl hc
 obtain ⟨R, hR⟩ : ∃ R, R = rdr (nos ns) i cur m := ⟨_, rfl⟩
 rw [← hR]
 have HR : Hid _ := hR
 clear hR
 obtain ⟨ik, hi, hz0, hz1, hz2⟩ := info_parts infoK
 go_enter Tryz.func21, Tryz.ntmps21
 go_wp2_with fail
 refine hok.mono ?_
 clear hok
 rintro e W1 ⟨X, rfl, h0, h1, g1⟩
 have HX : Hid _ := xai h0 (xai h1 g1)
 clear h0 h1 g1
 by_cases hz : knd (nos ns) i 2 = 0
 ·obtain ⟨hd0, hX, -⟩ := HX.out.1 hz
  obtain ⟨j, rfl⟩ : ∃ j : Nat, i = (j : Int) := ⟨i.toNat, by omega⟩
  rw [Int.toNat_natCast] at hX
  have hl := rdr_at hX hz cur m
  rw [hz]
  have hmem := List.mem_of_getElem? hX
  have hcap := (HM.out.1.caps X hmem).2
  have hkl := HM.out.2.1 X hmem
  have hkd : Kds w X.ka X.kl X.kids := by
   have hj := (List.getElem?_eq_some_iff.1 hX).1
   obtain ⟨b, o, -, k⟩ := HM.out.1.nos.at_ (by rw [← HM.out.1.nos.len_eq]; omega)
   exact (k j X hX).ok.kds
  have HG1 : Hid _ := HX.out.2.2
  have HCU : Hid _ := HM.out.2.2
  obtain ⟨NK, mo, uid, gid, ti, sz_, da, dl, dc, data, tg, dev, aa, al, ac, attrs, ka, kl, kc, kids, pa, lk⟩ := X
  simp only [NoV.val]
  simp only at hl hcap hkl hkd
  rw [← HR.out] at hl
  have HL : Hid _ := hl
  have hlen : kids.length = kl := hkd.len_eq
  rw [hlen] at hkl
  clear hl hd0 hX HX hz HR hmem HM
  have gB := xga W1 (.cells #[.int .i64 NK, .int .i64 mo, .int .i64 uid, .int .i64 gid, .int .i64 ti, .int .i64 sz_, .slice da dl dc, .string tg, .int .i64 dev, .slice aa al ac, .slice ka kl kc, .int .i64 pa, .int .i64 lk] 43) none
  have bB := Bx.new W1 43 [.int .i64 NK, .int .i64 mo, .int .i64 uid, .int .i64 gid, .int .i64 ti, .int .i64 sz_, .slice da dl dc, .string tg, .int .i64 dev, .slice aa al ac, .slice ka kl kc, .int .i64 pa, .int .i64 lk]
  have v10 : _ = some _ := bB.c 10
  have HB : Hid _ := xai (xgt HG1.out gB) (xai (hkd.grown (xgt HG1.out gB)) hlen)
  clear gB bB hkd hlen HG1
  by_cases q1 : cur < 0
  ·have HV : Hid (R = ([], 0, 1)) := by show _ = _; rw [HL.out, if_pos (Or.inl q1)]
   clear HL
   go_wp2_with fail
   refine bodyPost_ret (v := .tuple #[.slice none 0 0, .int .i64 0, .int .i64 1]) (by simp [results, Tryz.f21, go_sem]) rfl ?_
   unfold RkPost
   rw [HV.out]
   exact ⟨none, 0, 0, rfl, HB.out.1, kds_nil _ _⟩
  by_cases q2 : m < 0
  ·have HV : Hid (R = ([], 0, 1)) := by show _ = _; rw [HL.out, if_pos (Or.inr q2)]
   clear HL
   go_wp2_with fail
   refine bodyPost_ret (v := .tuple #[.slice none 0 0, .int .i64 0, .int .i64 1]) (by simp [results, Tryz.f21, go_sem]) rfl ?_
   unfold RkPost
   rw [HV.out]
   exact ⟨none, 0, 0, rfl, HB.out.1, kds_nil _ _⟩
  obtain ⟨k, hk⟩ : ∃ k : Nat, min cur (kl : Int) = (k : Int) := ⟨(min cur (kl : Int)).toNat, by omega⟩
  have hkk : k ≤ kl := by omega
  obtain ⟨t, ht⟩ : ∃ t : Nat, min m ((kl - k : Nat) : Int) = (t : Int) := ⟨(min m ((kl - k : Nat) : Int)).toNat, by omega⟩
  have htk : t ≤ kl - k := by omega
  have hl1 : (kids.drop k).take t = (kids.drop cur.toNat).take m.toNat := by
   rcases Nat.le_total cur.toNat kl with h | h
   ·have e1 : k = cur.toNat := by omega
    rw [e1] at ht htk ⊢
    have e2 : t = min m.toNat (kids.drop cur.toNat).length := by rw [List.length_drop, HB.out.2.2]; omega
    rw [e2]
    rcases Nat.le_total m.toNat (kids.drop cur.toNat).length with h3 | h3
    ·rw [Nat.min_eq_left h3]
    ·rw [Nat.min_eq_right h3, List.take_length, List.take_of_length_le h3]
   ·rw [List.drop_eq_nil_of_le (by rw [HB.out.2.2]; omega), List.drop_eq_nil_of_le (by rw [HB.out.2.2]; omega), List.take_nil, List.take_nil]
  have hl2 : ((kids.drop k).take t).length = t := by rw [List.length_take, List.length_drop, HB.out.2.2]; omega
  have HV : Hid (R = ((kids.drop k).take t, cur + (t : Int), 0)) := by
   show _ = _
   rw [HL.out, if_neg (by omega), ← hl1, hl2]
  have hwr : wrap64 (cur + (t : Int)) = cur + (t : Int) := by
   have h3 := HCU.out
   unfold wrap64
   rcases Int.lt_or_le cur (kl : Int) with h | h
   ·omega
   ·have : t = 0 := by omega
    subst this
    omega
  have HK : Hid _ := xai hkk (xai htk hcap)
  clear HL hl1 hl2 q1 q2 hkk htk hcap
  have q1 : ¬ cur < 0 := by omega
  have q2 : ¬ m < 0 := by omega
  go_wp2_with (first
   | ((with_reducible refine lowK_here ?_); refine wpList_lowK rfl _ _ 41 rfl Tryz.underlying41 ik hi hz1 ka kl kc k _ rfl rfl rfl HK.out.1 HK.out.2.2 kids HB.out.2.1 ?_; intro a' HA)
   | ((with_reducible refine highK_here ?_); refine wpList_highK rfl _ _ 41 rfl Tryz.underlying41 ik hi hz1 a' (kl - k) (kc - k) t _ rfl rfl rfl (by have h1 := HK.out; omega) ?_)
   | fail)
  refine (pcloneK_any a' t (kc - k) ((kids.drop k).take t) _ (kds_take HA.out HK.out.2.1) (by have h1 := HK.out; omega)).mono ?_
  rintro e W2 ⟨a2, c2, rfl, hk2, g2⟩
  have H2 : Hid _ := xai hk2 (xgt HB.out.1 g2)
  clear hk2 g2 HA HB
  go_wp2_with fail
  refine bodyPost_ret (v := .tuple #[.slice a2 t c2, .int .i64 (cur + (t : Int)), .int .i64 0]) (by simp [results, Tryz.f21, go_sem, hwr]) rfl ?_
  unfold RkPost
  rw [HV.out]
  exact ⟨a2, t, c2, rfl, H2.out.2, H2.out.1⟩
 ·have hl := rdr_bad (cur := cur) (n := m) hz
  rw [← HR.out] at hl
  have HL : Hid _ := hl
  obtain rfl := HX.out.2.1 hz
  have HG1 : Hid _ := HX.out.2.2
  clear HX hl HR
  generalize knd (nos ns) i 2 = K at *
  have hzb : (K == 0) = false := by rw [beq_eq_false_iff_ne]; exact hz
  have hzb2 : (K != 0) = true := by simp [hz]
  simp only [NoV.val, nz12]
  go_wp2_with fail
  refine bodyPost_ret (v := .tuple #[.slice none 0 0, .int .i64 0, .int .i64 K]) (by simp [results, Tryz.f21, go_sem]) rfl ?_
  unfold RkPost
  rw [HL.out]
  exact ⟨none, 0, 0, rfl, xgt HG1.out (xga _ _ none), kds_nil _ _⟩
end Go.Proofs.YtlehncfehoelbaaGreatDoor
namespace Go.Proofs.YtlehncfehoelbaaGreatDoor
open Go.RowKit
set_option maxRecDepth 100000
set_option linter.unusedVariables false
set_option linter.unusedSimpArgs false
theorem trs_few {l : List En} (ok : OkS l) : (trs l).length ≤ l.length := by
 have h := (lstL_len ok)
 have : (trs l).length = ((trs l).map Tp.p).length := by rw [List.length_map]
 rw [this, trs_paths]
 omega
theorem kids_good {l : List En} (ok : OkS l) : ∀ n ∈ canon l, n.kids.length ≤ l.length ∧ ∀ k ∈ n.kids, vld k.n = true ∧ k.n.length ≤ 4096 := by
 have hf := trs_few ok
 obtain ⟨os, K, hos⟩ := canon_kids ok
 rw [canon_trs]
 unfold bld
 generalize (trs l).foldl bst ⟨[], [{ ndOf (look l []) with links := 2 }]⟩ = z at *
 intro n hn
 obtain ⟨j, hj⟩ := List.mem_iff_getElem?.1 hn
 have hjl := (List.getElem?_eq_some_iff.1 hj).1
 have h := K.kids j (by have := K.len; omega)
 unfold kidsAt at h
 rw [hj] at h
 injection h with h
 have h : n.kids = _ := h
 rw [h]
 refine ⟨by rw [List.length_map]; exact Nat.le_trans (List.length_filter_le _ _) hf, fun k hk => ?_⟩
 obtain ⟨t, ht, rfl⟩ := List.mem_map.1 hk
 have htm := (List.mem_filter.1 ht).1
 obtain ⟨x, hx, hxp, -⟩ := (nm_of ok htm).x
 have := path_form (ok.each x hx).path (by rw [hxp]; exact (nm_of ok htm).ne)
 rw [hxp] at this
 exact ⟨this.2.2, Nat.le_trans (lastT_short t.p) this.1⟩
theorem fnd_kid : ∀ {l : List Kd} (_ : l.Pairwise (fun a b => a.n ≠ b.n)) {k : Kd} (_ : k ∈ l), fnd l k.n = some k.i
 | x :: r, h, k, hk => by
  unfold fnd
  rw [List.find?_cons]
  rcases List.mem_cons.1 hk with rfl | hr
  ·simp
  ·have hne : x.n ≠ k.n := (List.pairwise_cons.1 h).1 k hr
   have : (x.n == k.n) = false := by simpa using hne
   rw [this]
   exact fnd_kid (List.pairwise_cons.1 h).2 hr
theorem vld_dots {s : Tx} (h : vld s = true) : s ≠ [46] ∧ s ≠ [46, 46] := by
 constructor
 ·rintro rfl; revert h; decide
 ·rintro rfl; revert h; decide
theorem lkp_kid {L : List No} {d : Nat} {n : No} (hn : L[d]? = some n) (h2 : knd L d 2 = 0) (hp : n.kids.Pairwise (fun a b => a.n ≠ b.n)) {k : Kd} (hk : k ∈ n.kids) (hv : vld k.n = true) : lkp L (d : Int) k.n = (k.i, 0) := by
 obtain ⟨h3, h4⟩ := vld_dots hv
 unfold lkp
 rw [if_neg (by rw [h2]; simp), if_neg h3, if_neg h4, hv, if_neg (by decide), Int.toNat_natCast, hn]
 simp only [Option.map_some, Option.getD_some, fnd_kid hp hk]
theorem rdb_parts (data : List Int) (sz_ off n k : Int) (h0 : 0 ≤ off) (h1 : 0 ≤ n) (h2 : 0 ≤ k) : rdb data sz_ off n ++ rdb data sz_ (off + n) k = rdb data sz_ off (n + k) := by
 by_cases hs : off + n ≤ sz_
 ·have e1 : rdn sz_ off n = n.toNat := by unfold rdn; omega
  have e2 : rdn sz_ off (n + k) = n.toNat + rdn sz_ (off + n) k := by unfold rdn; omega
  have e3 : (off + n).toNat = off.toNat + n.toNat := by omega
  unfold rdb
  rw [e1, e2, e3, List.range_add, List.map_append, List.map_map]
  congr 1
  apply List.map_congr_left
  intro i _
  simp only [Function.comp]
  rw [Nat.add_assoc]
 ·have e1 : rdn sz_ (off + n) k = 0 := by unfold rdn; omega
  have e2 : rdn sz_ off (n + k) = rdn sz_ off n := by unfold rdn; omega
  unfold rdb
  rw [e1, e2]
  simp
end Go.Proofs.YtlehncfehoelbaaGreatDoor
namespace Go.Proofs.YtlehncfehoelbaaGreatDoor
open Go.RowKit
set_option maxRecDepth 100000
set_option linter.unusedSimpArgs false
set_option linter.unusedVariables false
theorem need_ok (w : World) : Calls Tryz.prog 55 #[.int .i64 0] w fun e w' => e = .returned (.tuple #[]) ∧ w = w' := by
 go_enter Tryz.func55, Tryz.ntmps55
 go_wp2
 refine bodyPost_end (results_none rfl _ _ _) rfl ?_
 exact ⟨rfl, rfl⟩
/-- a walk on its way, in memory -/
structure Wl (w W : World) (gw mb : Nat) (p : Int) (left : List ByteArray) (lk : Int) (la : Option Addr) (lc : Nat) : Prop where
 gr : w.grownBy W none
 new : w.heap.size ≤ gw
 box : Bx W gw 106 [.pointer (some ⟨mb, 0, none⟩), .int .i64 p, .slice la left.length lc, .int .i64 lk]
 row : SRow W la left.length left
 cap : left.length ≤ lc
theorem srow_kept {w w' : World} {a : Option Addr} {n : Nat} {l : List ByteArray} (h : SRow w a n l) (g : w.grownBy w' none) : SRow w' a n l :=
 ⟨h.len_eq, fun h0 => by obtain ⟨b, off, e, k⟩ := h.cells h0; exact ⟨b, off, e, fun i hi => cell_grown (k i hi) g⟩⟩
theorem Wl.kept {w W W' : World} {gw mb : Nat} {p lk : Int} {left : List ByteArray} {la : Option Addr} {lc : Nat} (h : Wl w W gw mb p left lk la lc) (g : W.grownBy W' none) : Wl w W' gw mb p left lk la lc :=
 ⟨xgt h.gr g, h.new, h.box.kept g, srow_kept h.row g, h.cap⟩
/-- the parts that are left are laid anew -/
theorem Wl.lay {w W : World} {gw mb base : Nat} {p lk : Int} {left X : List ByteArray} {la : Option Addr} {lc m : Nat} {a : Option Addr} {c : Nat} (hg : w.grownBy W none) (hn : w.heap.size ≤ gw)
  (hb : Bx W gw 106 [.pointer (some ⟨mb, 0, none⟩), .int .i64 p, .slice la left.length lc, .int .i64 lk]) (ho : W.ownsRow base 9 1 (.slice a m c) m (sv X)) (hlt : gw < base) :
  Wl w (W.setCell ⟨gw, 2, none⟩ (.slice a m c)) gw mb p X lk a c := by
 have ho2 := ho.kept (grown_set W gw 2 (.slice a m c)) (Or.inr (fun e => by have := (ho.lt _ e).1; omega))
 obtain ⟨a', c', e, hr, hc, -⟩ := owns_srow ho2
 injection e with e1 e2 e3
 subst e1 e3
 have hm : X.length = m := hr.len_eq
 subst hm
 exact ⟨grown_new hg (grown_set _ _ _ _) hn, hn, hb.set 2 _, hr, hc⟩
theorem srow_src {w : World} {ad : Addr} {n : Nat} {l : List ByteArray} (R : SRow w (some ad) n l) : ∀ j u, (sv l)[j]? = some u → w.cell? (ad.add j) = some u := by
 intro j u h
 have hj : j < l.length := by
  rcases Nat.lt_or_ge j l.length with k | k
  ·exact k
  ·rw [List.getElem?_eq_none (by rw [sv_len]; exact k)] at h; cases h
 have hn := R.len_eq
 obtain ⟨b, off, e, hc⟩ := R.cells (by omega)
 injection e with e
 subst e
 have hadd : (⟨b, off, none⟩ : Addr).add j = ⟨b, off + j, none⟩ := by unfold Addr.add; split <;> simp_all
 rw [hadd, hc j (by omega)]
 unfold sv at h
 rw [List.getElem?_map, List.getElem?_eq_getElem hj] at h
 rw [List.getD_eq_getElem?_getD, List.getElem?_eq_getElem hj]
 exact h
set_option maxHeartbeats 8000000 in
theorem pturn_ok (w W : World) (gw mb : Nat) (p lk : Int) (left : List ByteArray) (la : Option Addr) (lc : Nat) (h : Wl w W gw mb p left lk la lc) (a : Option Addr) (n c mp : Nat) (ns : List NoV) (M : Md w mb a n c mp ns)
  (path : ByteArray) (hp : path.size ≤ 4096) (habs : Calls Tryz.prog 84 #[.string path] W fun e w' => e = .returned (.bool false) ∧ W = w') (hk : knd (nos ns) p 2 = 0) (L : List Tx) (hsp : spl path.toList = (L, 0)) (hlen : L.length + left.length ≤ 256) (hle : (left = [] ∧ la = none ∧ lc = 0) ∨ 0 < left.length) :
  Calls Tryz.prog 56 #[.pointer (some ⟨gw, 0, none⟩), .string path] W fun e W' => e = .returned (.tuple #[]) ∧ ∃ la' lc', Wl w W' gw mb p (txs L ++ left) lk la' lc' ∧ W.heap.size ≤ W'.heap.size := by
 have hok := fun W' g => pofkind_any W' mb a n c (.map (some mp)) ns (M.kept g).box (M.kept g).nos p 2 (by decide)
 have x0 : _ = some _ := h.box.c 0
 have x1 : _ = some _ := h.box.c 1
 have hspl := fun W => psplit_any path W (by omega)
 unfold SpPost at hspl
 rw [hsp] at hspl
 simp only at hspl
 obtain ⟨i9, hi9, hz0, hz1, hz2⟩ := info_parts Tryz.info9
 have HW : Hid _ := h
 have HLE : Hid _ := xai hle hlen
 clear h hsp hle hlen
 go_enter Tryz.func56, Tryz.ntmps56
 go_wp2_with (go_at_call 84; refine habs.mono ?_; rintro e w' ⟨rfl, rfl⟩)
 clear x0 x1 habs
 refine wp_region_held_drew (S := fun w' => W.grownBy w' none) (by kernel_rfl) (drewG0 W) (fun hH => ?_)
 generalize W.drew = WD at *
 refine tk (i := 0) (oi := ⟨some 13, _, _, _, _, _⟩) (v := .pointer (some ⟨gw, 0, none⟩)) rfl (Or.inl ⟨by rfl, fun w hSw => by go_simp⟩) hH ?_
 simp only [Act.put, pu]
 refine tk (i := 1) (oi := ⟨some 14, _, _, _, _, _⟩) (v := .pointer (some ⟨gw, 0, none⟩)) rfl (Or.inl ⟨by rfl, fun w hSw => by go_simp⟩) hH ?_
 simp only [Act.put, pu]
 refine tk (i := 2) (oi := ⟨some 15, _, _, _, _, _⟩) (v := .pointer (some ⟨gw, 0, none⟩)) rfl (Or.inl ⟨by rfl, fun w hSw => by go_simp⟩) hH ?_
 simp only [Act.put, pu]
 refine tk (i := 3) (oi := ⟨some 16, _, _, _, _, _⟩) (v := .pointer (some ⟨mb, 0, none⟩)) rfl (Or.inl ⟨by rfl, fun w hSw => by have c0 : _ = some _ := (HW.out.box.kept hSw).c 0; go_simp⟩) hH ?_
 simp only [Act.put, pu]
 refine tk (i := 4) (oi := ⟨some 17, _, _, _, _, _⟩) (v := .pointer (some ⟨gw, 0, none⟩)) rfl (Or.inl ⟨by rfl, fun w hSw => by go_simp⟩) hH ?_
 simp only [Act.put, pu]
 refine tk (i := 5) (oi := ⟨some 18, _, _, _, _, _⟩) (v := .pointer (some ⟨gw, 0, none⟩)) rfl (Or.inl ⟨by rfl, fun w hSw => by go_simp⟩) hH ?_
 simp only [Act.put, pu]
 refine tk (i := 6) (oi := ⟨some 19, _, _, _, _, _⟩) (v := .pointer (some ⟨gw, 1, none⟩)) rfl (Or.inl ⟨by rfl, fun w hSw => by go_simp⟩) hH ?_
 simp only [Act.put, pu]
 refine tk (i := 7) (oi := ⟨some 20, _, _, _, _, _⟩) (v := .int .i64 p) rfl (Or.inl ⟨by rfl, fun w hSw => by have c1 : _ = some _ := (HW.out.box.kept hSw).c 1; go_simp⟩) hH ?_
 simp only [Act.put, pu]
 refine wpAnyH_ready (rs := [8, 12]) (by kernel_rfl) (by simp) ?_
 refine AllReadyH.cons rfl (fun K1 hK => ?_) (AllReadyH.cons rfl (fun K1 hK => ?_) AllReadyH.nil)
 ·skip
  go_simp
  refine (hok _ (xgt HW.out.gr hH)).mono ?_
  rintro e W2 ⟨X, rfl, -, -, g2⟩
  rw [hk]
  obtain ⟨NK, mo, uid, gid, ti, sz_, da, dl, dc, data, tg, dev, aa, al, ac, attrs, ka, kl, kc, kids, pa, links0⟩ := X
  simp only [NoV.val]
  replace hH := xgt hH g2
  clear g2
  refine hK.out _ _ hH (fun h0 => ?_)
  clear h0 hK K1
  try simp only [Act.put, pu]
  refine tk (i := 9) (oi := ⟨some 12, _, _, _, _, _⟩) (v := .tuple #[.agg #[.int .i64 NK, .int .i64 mo, .int .i64 uid, .int .i64 gid, .int .i64 ti, .int .i64 sz_, .slice da dl dc, .string tg, .int .i64 dev, .slice aa al ac, .slice ka kl kc, .int .i64 pa, .int .i64 links0], .int .i64 0]) rfl (Or.inl ⟨by rfl, fun w hSw => by go_simp⟩) hH ?_
  simp only [Act.put, pu]
  refine tk (i := 10) (oi := ⟨some 22, _, _, _, _, _⟩) (v := .agg #[.int .i64 NK, .int .i64 mo, .int .i64 uid, .int .i64 gid, .int .i64 ti, .int .i64 sz_, .slice da dl dc, .string tg, .int .i64 dev, .slice aa al ac, .slice ka kl kc, .int .i64 pa, .int .i64 links0]) rfl (Or.inl ⟨by rfl, fun w hSw => by go_simp⟩) hH ?_
  simp only [Act.put, pu]
  refine tk (i := 11) (oi := ⟨some 23, _, _, _, _, _⟩) (v := .int .i64 0) rfl (Or.inl ⟨by rfl, fun w hSw => by go_simp⟩) hH ?_
  simp only [Act.put, pu]
  refine wpAnyH_ready (rs := [12]) (by kernel_rfl) (by simp) ?_
  refine AllReadyH.cons rfl (fun K1 hK => ?_) AllReadyH.nil
  go_simp
  have gA := xga W2 (.cells #[.int .i64 0, .int .i64 0, .int .i64 0, .int .i64 0, .int .i64 0, .int .i64 0, .slice none 0 0, .string ⟨#[]⟩, .int .i64 0, .slice none 0 0, .slice none 0 0, .int .i64 0, .int .i64 0] 43) none
  have hZ := Bx.new W2 43 [.int .i64 0, .int .i64 0, .int .i64 0, .int .i64 0, .int .i64 0, .int .i64 0, .slice none 0 0, .string ⟨#[]⟩, .int .i64 0, .slice none 0 0, .slice none 0 0, .int .i64 0, .int .i64 0]
  have hnz : W.heap.size ≤ W2.heap.size := hH.size
  replace hH := xgt hH gA
  clear gA
  generalize W2.alloc (.cells #[.int .i64 0, .int .i64 0, .int .i64 0, .int .i64 0, .int .i64 0, .int .i64 0, .slice none 0 0, .string ⟨#[]⟩, .int .i64 0, .slice none 0 0, .slice none 0 0, .int .i64 0, .int .i64 0] 43) = W3 at *
  generalize W2.heap.size = gz at *
  refine hK.out _ _ hH (fun h0 => ?_)
  clear h0 hK K1
  try simp only [Act.put, pu]
  refine wpAnyH_ready (rs := [13]) (by kernel_rfl) (by simp) ?_
  refine AllReadyH.cons rfl (fun K1 hK => ?_) AllReadyH.nil
  refine step_store_bx (by rfl) 43 _ _ (by rfl) gz [.int .i64 NK, .int .i64 mo, .int .i64 uid, .int .i64 gid, .int .i64 ti, .int .i64 sz_, .slice da dl dc, .string tg, .int .i64 dev, .slice aa al ac, .slice ka kl kc, .int .i64 pa, .int .i64 links0] (by rfl) (by rfl) hZ node_size rfl rfl ?_
  intro W4 hN g4
  replace hH := grown_new hH g4 hnz
  clear hN g4 hZ
  refine hK.out _ _ hH (fun h0 => ?_)
  clear h0 hK K1
  try simp only [Act.put, pu]
  refine tk (i := 14) (oi := ⟨some 5, _, _, _, _, _⟩) (v := .int .i64 0) rfl (Or.inl ⟨by rfl, fun w hSw => by go_simp⟩) hH ?_
  simp only [Act.put, pu]
  refine wpAnyH_done (by kernel_rfl) ?_ _
  have HW4 : Hid _ := HW.out.kept hH
  have HS4 : Hid _ := hH.size
  have HGW4 : Hid (gw < W4.heap.size) := HW4.out.box.lt
  have HGW4b : Hid (w.heap.size ≤ W4.heap.size) := HW4.out.gr.size
  clear hH hnz
  go_wp2_with (go_at_call 55; refine (need_ok _).mono ?_; rintro e w' ⟨rfl, rfl⟩)
  refine (hspl _).mono ?_
  rintro e W5 ⟨a1, n1, c1, rfl, hown, g5⟩
  have HW5 : Hid _ := xai (HW4.out.kept g5) (xai hown (xai g5.size (Nat.le_trans HS4.out g5.size)))
  have c2 : _ = some _ := HW5.out.1.box.c 2
  have hn1 : n1 = L.length := by
   have := hown.1
   rw [sv_len] at this
   unfold txs at this
   rw [List.length_map] at this
   omega
  have hll : n1 + left.length ≤ 256 := by rw [hn1]; exact HLE.out.2
  have HN1 : Hid _ := hn1
  clear hown g5 hspl hn1 HW4
  generalize hlf : left.length = ll at *
  have HLF : Hid _ := hlf
  clear hlf
  have hcmp : ¬ (256 : Int) < (n1 : Int) + (ll : Int) := by omega
  have f2 := HW5.out.1.box.f 2
  have hgw : gw < W4.heap.size := HGW4.out
  rcases HLE.out.1 with ⟨hl0, rfl, rfl⟩ | hl0
  ·have hll0 : ll = 0 := by rw [← HLF.out, hl0]; rfl
   subst hll0
   have HL0 : Hid _ := hl0
   clear hl0
   go_wp2_with (first | (go_at_call 55; refine (need_ok _).mono ?_; rintro e w' ⟨rfl, rfl⟩) | (at_builtin; refine wpList_append_own_none rfl _ _ 104 rfl W4.heap.size 9 i9 1 Tryz.underlying104 hi9 _ n1 _ rfl HW5.out.2.1 rfl ?_) | fail)
   refine bodyPost_end (results_none rfl _ _ _) rfl ?_
   refine ⟨rfl, a1, c1, ?_, by rw [size_set]; exact HW5.out.2.2.2⟩
   rw [HL0.out, List.append_nil]
   have hbx := HW5.out.1.box
   exact Wl.lay HW5.out.1.gr HW5.out.1.new hbx HW5.out.2.1 hgw
  ·obtain ⟨lb, lo, rfl, -⟩ := HW5.out.1.row.cells (by have h1 := HLF.out; omega)
   clear hl0
   go_wp2_with (first | (go_at_call 55; refine (need_ok _).mono ?_; rintro e w' ⟨rfl, rfl⟩) | (at_builtin; refine wpList_append_own _ rfl _ _ 104 rfl W4.heap.size 9 i9 (.string ⟨#[]⟩) 1 16 Tryz.underlying104 hi9 hz0 hz1 hz2 rfl (by decide) _ n1 _ rfl HW5.out.2.1 ⟨lb, lo, none⟩ ll lc (sv left) rfl (by rw [sv_len, HLF.out, Nat.mul_one]) (srow_src HW5.out.1.row) (sv_one _) (by unfold maxLen; omega) (by omega) HW5.out.2.2.1 ?_; intro v6 W6 own6 grow6 h6; obtain ⟨a6, c6, rfl⟩ := own_shape own6; have hbne : some gw ≠ (Value.slice a1 n1 c1).ownBlock := (fun e => by have := (HW5.out.2.1.lt _ e.symm).1; omega); have HW6 : Hid _ := xai own6 (xai (HW5.out.1.box.but grow6 hbne) (xai (grown_own9 HW5.out.1.gr HW5.out.2.1 grow6 HGW4b.out) (Nat.le_trans HW5.out.2.2.2 grow6.size))); have d2 : _ = some _ := HW6.out.2.1.c 2; have e2 := HW6.out.2.1.f 2; clear own6 grow6 h6 hbne) | fail)
   refine bodyPost_end (results_none rfl _ _ _) rfl ?_
   refine ⟨rfl, a6, c6, ?_, by rw [size_set]; exact HW6.out.2.2.2⟩
   have ho := HW6.out.1
   rw [← sv_app] at ho
   exact Wl.lay HW6.out.2.2.1 HW5.out.1.new HW6.out.2.1 ho hgw
 ·skip
  go_simp
  have gA := xga WD (.cells #[.int .i64 0, .int .i64 0, .int .i64 0, .int .i64 0, .int .i64 0, .int .i64 0, .slice none 0 0, .string ⟨#[]⟩, .int .i64 0, .slice none 0 0, .slice none 0 0, .int .i64 0, .int .i64 0] 43) none
  have hZ := Bx.new WD 43 [.int .i64 0, .int .i64 0, .int .i64 0, .int .i64 0, .int .i64 0, .int .i64 0, .slice none 0 0, .string ⟨#[]⟩, .int .i64 0, .slice none 0 0, .slice none 0 0, .int .i64 0, .int .i64 0]
  have hnz : W.heap.size ≤ WD.heap.size := hH.size
  replace hH := xgt hH gA
  clear gA
  generalize WD.alloc (.cells #[.int .i64 0, .int .i64 0, .int .i64 0, .int .i64 0, .int .i64 0, .int .i64 0, .slice none 0 0, .string ⟨#[]⟩, .int .i64 0, .slice none 0 0, .slice none 0 0, .int .i64 0, .int .i64 0] 43) = W3 at *
  generalize WD.heap.size = gz at *
  refine hK.out _ _ hH (fun h0 => ?_)
  clear h0 hK K1
  try simp only [Act.put, pu]
  refine wpAnyH_ready (rs := [8]) (by kernel_rfl) (by simp) ?_
  refine AllReadyH.cons rfl (fun K1 hK => ?_) AllReadyH.nil
  go_simp
  refine (hok _ (xgt HW.out.gr hH)).mono ?_
  rintro e W2 ⟨X, rfl, -, -, g2⟩
  rw [hk]
  obtain ⟨NK, mo, uid, gid, ti, sz_, da, dl, dc, data, tg, dev, aa, al, ac, attrs, ka, kl, kc, kids, pa, links0⟩ := X
  simp only [NoV.val]
  replace hZ := hZ.kept g2
  replace hH := xgt hH g2
  clear g2
  refine hK.out _ _ hH (fun h0 => ?_)
  clear h0 hK K1
  try simp only [Act.put, pu]
  refine tk (i := 9) (oi := ⟨some 12, _, _, _, _, _⟩) (v := .tuple #[.agg #[.int .i64 NK, .int .i64 mo, .int .i64 uid, .int .i64 gid, .int .i64 ti, .int .i64 sz_, .slice da dl dc, .string tg, .int .i64 dev, .slice aa al ac, .slice ka kl kc, .int .i64 pa, .int .i64 links0], .int .i64 0]) rfl (Or.inl ⟨by rfl, fun w hSw => by go_simp⟩) hH ?_
  simp only [Act.put, pu]
  refine tk (i := 10) (oi := ⟨some 22, _, _, _, _, _⟩) (v := .agg #[.int .i64 NK, .int .i64 mo, .int .i64 uid, .int .i64 gid, .int .i64 ti, .int .i64 sz_, .slice da dl dc, .string tg, .int .i64 dev, .slice aa al ac, .slice ka kl kc, .int .i64 pa, .int .i64 links0]) rfl (Or.inl ⟨by rfl, fun w hSw => by go_simp⟩) hH ?_
  simp only [Act.put, pu]
  refine tk (i := 11) (oi := ⟨some 23, _, _, _, _, _⟩) (v := .int .i64 0) rfl (Or.inl ⟨by rfl, fun w hSw => by go_simp⟩) hH ?_
  simp only [Act.put, pu]
  refine wpAnyH_ready (rs := [13]) (by kernel_rfl) (by simp) ?_
  refine AllReadyH.cons rfl (fun K1 hK => ?_) AllReadyH.nil
  refine step_store_bx (by rfl) 43 _ _ (by rfl) gz [.int .i64 NK, .int .i64 mo, .int .i64 uid, .int .i64 gid, .int .i64 ti, .int .i64 sz_, .slice da dl dc, .string tg, .int .i64 dev, .slice aa al ac, .slice ka kl kc, .int .i64 pa, .int .i64 links0] (by rfl) (by rfl) hZ node_size rfl rfl ?_
  intro W4 hN g4
  replace hH := grown_new hH g4 hnz
  clear hN g4 hZ
  refine hK.out _ _ hH (fun h0 => ?_)
  clear h0 hK K1
  try simp only [Act.put, pu]
  refine tk (i := 14) (oi := ⟨some 5, _, _, _, _, _⟩) (v := .int .i64 0) rfl (Or.inl ⟨by rfl, fun w hSw => by go_simp⟩) hH ?_
  simp only [Act.put, pu]
  refine wpAnyH_done (by kernel_rfl) ?_ _
  have HW4 : Hid _ := HW.out.kept hH
  have HS4 : Hid _ := hH.size
  have HGW4 : Hid (gw < W4.heap.size) := HW4.out.box.lt
  have HGW4b : Hid (w.heap.size ≤ W4.heap.size) := HW4.out.gr.size
  clear hH hnz
  go_wp2_with (go_at_call 55; refine (need_ok _).mono ?_; rintro e w' ⟨rfl, rfl⟩)
  refine (hspl _).mono ?_
  rintro e W5 ⟨a1, n1, c1, rfl, hown, g5⟩
  have HW5 : Hid _ := xai (HW4.out.kept g5) (xai hown (xai g5.size (Nat.le_trans HS4.out g5.size)))
  have c2 : _ = some _ := HW5.out.1.box.c 2
  have hn1 : n1 = L.length := by
   have := hown.1
   rw [sv_len] at this
   unfold txs at this
   rw [List.length_map] at this
   omega
  have hll : n1 + left.length ≤ 256 := by rw [hn1]; exact HLE.out.2
  have HN1 : Hid _ := hn1
  clear hown g5 hspl hn1 HW4
  generalize hlf : left.length = ll at *
  have HLF : Hid _ := hlf
  clear hlf
  have hcmp : ¬ (256 : Int) < (n1 : Int) + (ll : Int) := by omega
  have f2 := HW5.out.1.box.f 2
  have hgw : gw < W4.heap.size := HGW4.out
  rcases HLE.out.1 with ⟨hl0, rfl, rfl⟩ | hl0
  ·have hll0 : ll = 0 := by rw [← HLF.out, hl0]; rfl
   subst hll0
   have HL0 : Hid _ := hl0
   clear hl0
   go_wp2_with (first | (go_at_call 55; refine (need_ok _).mono ?_; rintro e w' ⟨rfl, rfl⟩) | (at_builtin; refine wpList_append_own_none rfl _ _ 104 rfl W4.heap.size 9 i9 1 Tryz.underlying104 hi9 _ n1 _ rfl HW5.out.2.1 rfl ?_) | fail)
   refine bodyPost_end (results_none rfl _ _ _) rfl ?_
   refine ⟨rfl, a1, c1, ?_, by rw [size_set]; exact HW5.out.2.2.2⟩
   rw [HL0.out, List.append_nil]
   have hbx := HW5.out.1.box
   exact Wl.lay HW5.out.1.gr HW5.out.1.new hbx HW5.out.2.1 hgw
  ·obtain ⟨lb, lo, rfl, -⟩ := HW5.out.1.row.cells (by have h1 := HLF.out; omega)
   clear hl0
   go_wp2_with (first | (go_at_call 55; refine (need_ok _).mono ?_; rintro e w' ⟨rfl, rfl⟩) | (at_builtin; refine wpList_append_own _ rfl _ _ 104 rfl W4.heap.size 9 i9 (.string ⟨#[]⟩) 1 16 Tryz.underlying104 hi9 hz0 hz1 hz2 rfl (by decide) _ n1 _ rfl HW5.out.2.1 ⟨lb, lo, none⟩ ll lc (sv left) rfl (by rw [sv_len, HLF.out, Nat.mul_one]) (srow_src HW5.out.1.row) (sv_one _) (by unfold maxLen; omega) (by omega) HW5.out.2.2.1 ?_; intro v6 W6 own6 grow6 h6; obtain ⟨a6, c6, rfl⟩ := own_shape own6; have hbne : some gw ≠ (Value.slice a1 n1 c1).ownBlock := (fun e => by have := (HW5.out.2.1.lt _ e.symm).1; omega); have HW6 : Hid _ := xai own6 (xai (HW5.out.1.box.but grow6 hbne) (xai (grown_own9 HW5.out.1.gr HW5.out.2.1 grow6 HGW4b.out) (Nat.le_trans HW5.out.2.2.2 grow6.size))); have d2 : _ = some _ := HW6.out.2.1.c 2; have e2 := HW6.out.2.1.f 2; clear own6 grow6 h6 hbne) | fail)
   refine bodyPost_end (results_none rfl _ _ _) rfl ?_
   refine ⟨rfl, a6, c6, ?_, by rw [size_set]; exact HW6.out.2.2.2⟩
   have ho := HW6.out.1
   rw [← sv_app] at ho
   exact Wl.lay HW6.out.2.2.1 HW5.out.1.new HW6.out.2.1 ho hgw
end Go.Proofs.YtlehncfehoelbaaGreatDoor
