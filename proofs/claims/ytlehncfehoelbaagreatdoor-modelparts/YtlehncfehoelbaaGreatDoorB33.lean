/- What a tree out of the one way, and a list that was told, are besides. The program's Canon: besides, that rows have room for what they hold. The program's New. Names looked up: the document's and the program's. Names looked up: the document's and the program's. Bytes of files read: the program's. The document's Much: it tells that nothing is much, and only then. -/
import Derived.Test.YtlehncfehoelbaaGreatDoorB08
import Derived.Test.YtlehncfehoelbaaGreatDoorB10
import Derived.Test.YtlehncfehoelbaaGreatDoorB14
import Derived.Test.YtlehncfehoelbaaGreatDoorB26
import Derived.Test.YtlehncfehoelbaaGreatDoorB32
namespace Go.Proofs.YtlehncfehoelbaaGreatDoor
open Go.RowKit
set_option maxRecDepth 100000
set_option linter.unusedSimpArgs false
set_option linter.unusedVariables false
theorem Nk.ncp12 {w W : World} {base : Nat} {X : NoV} (h : Nk w W base X) (hs : Sm X.no) (hk : ∀ k ∈ X.kids, k.n.length ≤ 4096) : Ncp X := by
 refine ⟨h.dcap, ?_, ?_, fun A hA => ?_, fun k hk2 => by have := hk k hk2; omega⟩
 ·rcases h.own.2 with ⟨e, h0⟩ | ⟨g, cap, cur, e, hg, hh, hc, hm, _⟩
  ·rw [h0]; exact Nat.zero_le _
  ·injection e with e1 e2 e3
   rw [e3]; exact hc
 ·have := hs.t
  rw [show X.no.target = X.target.toList from rfl, tl_len] at this
  omega
 ·have := (hs.e A.at (List.mem_map.2 ⟨A, hA, rfl⟩)).1
  rw [show A.at.n = A.n.toList from rfl, tl_len] at this
  omega
theorem ens_got12 {l : List EnV} {L : List En} (h : ens l = L) {i : Nat} {x : En} (hx : L[i]? = some x) : ∃ X, l[i]? = some X ∧ X.en = x := by
 rw [← h] at hx
 unfold ens at hx
 rw [List.getElem?_map] at hx
 cases hX : l[i]? with
 | none => rw [hX] at hx; cases hx
 | some X => rw [hX] at hx; injection hx with hx; exact ⟨X, rfl, hx⟩
theorem told_sml12 {w' : World} {base : Nat} {l : List EnV} {L : List En} (he : ens l = L) (hx : ∀ X ∈ l, Xn w' base X) (hs : ∀ e ∈ L, e.path.length ≤ 4096 ∧ e.target.length ≤ 4096 ∧ e.attrs.length ≤ 64 ∧ ∀ a ∈ e.attrs, a.n.length ≤ 255) : Sml l := by
 rw [← he] at hs
 intro X hX
 have := hs X.en (List.mem_map.2 ⟨X, hX, rfl⟩)
 refine ⟨?_, ?_, fun A hA => ?_⟩
 ·have h1 := this.1
  rw [show X.en.path = X.path.toList from rfl, tl_len] at h1
  omega
 ·have h1 := this.2.1
  rw [show X.en.target = X.target.toList from rfl, tl_len] at h1
  omega
 ·have h1 := this.2.2.2 A.at (List.mem_map.2 ⟨A, hA, rfl⟩)
  rw [show A.at.n = A.n.toList from rfl, tl_len] at h1
  omega
theorem tells_en12 {ns : List No} {s : Wk} (h : Tells ns s) : ∀ e ∈ s.list.map (enL ns), e.path.length ≤ 4096 ∧ e.target.length ≤ 4096 ∧ e.attrs.length ≤ 64 ∧ ∀ a ∈ e.attrs, a.n.length ≤ 255 := by
 obtain ⟨c1, c2, ok⟩ := chk_ok.1 h.2.1
 have hsm := canon_sm ok c2
 rw [h.2.2] at hsm
 have hok := (meetP_ok _ ⟨[], []⟩ 0 [] s ⟨List.nodup_nil, fun x h => (by cases h), Nat.zero_le _, fun x h => (by cases h), fun x h => (by cases h)⟩ h.1).1
 intro e he
 obtain ⟨x, hx, rfl⟩ := List.mem_map.1 he
 have hp := hok.pl x hx
 unfold enL
 cases hs : x.src with
 | inr q => exact ⟨hp, hok.ql x hx q hs, Nat.zero_le _, fun a ha => by cases ha⟩
 | inl i =>
  simp only
  cases hn : ns[i]? with
  | none => exact ⟨hp, Nat.zero_le _, Nat.zero_le _, fun a ha => by cases ha⟩
  | some n =>
   have sm := hsm n (List.mem_of_getElem? hn)
   exact ⟨hp, sm.t, sm.a, fun a ha => (sm.e a ha).1⟩
theorem own_cap {W : World} {b e s n c m : Nat} {a : Option Addr} {xs : List Value} (h : W.ownsRow b e s (.slice a n c) m xs) : n ≤ c := by
 rcases h.2 with ⟨e, h0⟩ | ⟨g, cap, cur, e, hg, hh, hc, hm, _⟩
 ·injection e with e1 e2 e3
  omega
 ·injection e with e1 e2 e3
  rw [e3, e2]; exact hc
def CnPost2 (w : World) (l : List En) (e : Ending) (w' : World) : Prop := w.grownBy w' none ∧ ∃ (b : Option Addr) (n c : Nat) (ns : List NoV), e = .returned (.tuple #[.agg #[.slice b n c], .int .i64 (chk11 l).2]) ∧ Nos w' b n ns ∧ newA w.heap.size b n ∧ (∀ X ∈ ns, NoFr w.heap.size X ∧ X.dl ≤ X.dc ∧ X.kl ≤ X.kc) ∧ nos ns = if (chk11 l).2 = 0 then canon l else []
set_option maxHeartbeats 4000000 in
theorem pcanon_two (a : Option Addr) (len cap : Nat) (l : List EnV) (w : World) (E : Ens w a len l) (hs : Szs l) (hlen : len ≤ 100000) :
  Calls Tryz.prog 10 #[.slice a len cap] w (CnPost2 w (ens l)) := by
 have hck := fun W g => pcheck_any a len cap l W (E.grown g) hs hlen
 have HI : Hid _ := And.intro E hs
 clear E hs
 have B0 : Hid _ := Bx.new w 33 [.slice none 0 0]
 have G0 : Hid _ := World.grownBy_alloc w (.cells #[.slice none 0 0] 33) none
 go_enter Tryz.func10, Tryz.ntmps10
 go_wp2_with fail
 refine (hck _ G0.out).mono ?_
 clear hck
 rintro e W1 ⟨rfl, g1⟩
 have HP1 : Hid _ := And.intro (B0.out.kept g1) (grown_trans G0.out g1)
 clear B0 G0 g1
 generalize hC1 : (chk11 (ens l)).1 = C1 at *
 generalize hC2 : (chk11 (ens l)).2 = C2 at *
 have HC : Hid _ := hC2
 clear hC1 hC2
 generalize hB : w.heap.size = B at *
 have HB : Hid _ := hB
 clear hB
 by_cases hc : C2 = 0
 ·subst hc
  go_wp2_with fail
  refine (pwithroot_any a len cap l W1 (HI.out.1.grown HP1.out.2) hlen).mono ?_
  rintro e W2 ⟨a', n', c', rfl, E', g2⟩
  obtain ⟨k1, k2, k3, k4, k5, r, x, k6, k7⟩ := wroot_ok HI.out.1 HI.out.2 HC.out
  have hn' := E'.len_eq
  have hl := play_any a' n' c' (wRoot l) W2 E' (by have := (List.getElem?_eq_some_iff.1 k6).1; omega) (by omega) k2 r x k6 k7 k4
  unfold LyPost at hl
  rw [k3] at hl
  have HP2 : Hid _ := And.intro (HP1.out.1.kept g2) (grown_trans HP1.out.2 g2)
  clear E' HP1 g2 k1 k2 k3 k4 k5 k6 k7 hn'
  go_wp2_with fail
  refine hl.mono ?_
  rintro e W3 ⟨v, ns, rfl, hT, hno⟩
  have b3 := HP2.out.1.kept hT.gr
  obtain ⟨va, vc, rfl⟩ := own_shape hT.own
  have hT2 := hT.up HP2.out.2
  have ho := bx_own (base := B) b3 (Nat.le_refl _) rfl (by decide)
  obtain ⟨s1, s2⟩ := ho.stored 0 (.slice va ns.length vc)
  have hT3 := hT2.other ho (by rw [HB.out]; exact Nat.le_refl _) (by decide) (by decide) (by decide) (by decide) s2
  have c2 := b3.c 0
  have f2 : W3.frozen? ⟨B, 0, none⟩ = false := by simp [World.frozen?, b3.blk]
  have cR := s1.cellAt 0 (by decide)
  have HT : Hid _ := And.intro hT3 hno
  have HCR : Hid _ := cR
  have HW2 : Hid _ := HP2.out.2.size
  clear hT hT2 hT3 ho s1 s2 cR b3 HP2 hno hl
  go_wp2_with fail
  have cR := HCR.out
  refine bodyPost_ret (v := .tuple #[.agg #[.slice va ns.length vc], .int .i64 0]) (by simp [results, Tryz.results10, go_sem, *]) rfl ?_
  have hT := HT.out.1
  refine ⟨hT.gr, va, ns.length, vc, ns, by rw [HC.out], hT.nos rfl, newA_low (newA_of hT.own) HW2.out, fun X hX => ?_, by rw [HC.out, if_pos rfl]; exact HT.out.2⟩
  obtain ⟨i, hi⟩ := List.mem_iff_getElem?.1 hX
  exact ⟨((hT.each i X hi).low HW2.out).nofr, own_cap (hT.each i X hi).row.own, own_cap (hT.each i X hi).kid⟩
 ·have hb : (C2 == 0) = false := by rw [beq_eq_false_iff_ne]; exact hc
  have hb2 : (C2 != 0) = true := by simp [hc]
  have c2 := HP1.out.1.c 0
  have f2 : W1.frozen? ⟨B, 0, none⟩ = false := by simp [World.frozen?, HP1.out.1.blk]
  have ho := bx_own (base := B) HP1.out.1 (Nat.le_refl _) rfl (by decide)
  obtain ⟨s1, s2⟩ := ho.stored 0 (.slice none 0 0)
  have HCR : Hid _ := s1.cellAt 0 (by decide)
  have HG : Hid _ := grown_ownB HP1.out.2 ho s2 (by rw [HB.out]; exact Nat.le_refl _)
  clear ho s1 s2
  go_wp2_with fail
  have cR := HCR.out
  refine bodyPost_ret (v := .tuple #[.agg #[.slice none 0 0], .int .i64 C2]) (by simp [results, Tryz.results10, go_sem, *]) rfl ?_
  refine ⟨HG.out, none, 0, 0, [], by rw [HC.out], ⟨rfl, by decide, fun h => absurd h (by decide)⟩, fun h => absurd h (by decide), fun X hX => (by cases hX), by rw [HC.out, if_neg hc]; rfl⟩
/-- what New makes of a tree in the one way -/
def NwPost (w : World) (ns : List NoV) (e : Ending) (w' : World) : Prop := ∃ (mb mp : Nat) (a : Option Addr) (n c : Nat) (ns2 : List NoV), e = .returned (.tuple #[.pointer (some ⟨mb, 0, none⟩), .int .i64 0]) ∧ w.grownBy w' none ∧ Md w' mb a n c mp ns2 ∧ nos ns2 = nos ns ∧
 w.heap.size ≤ mb ∧ w.heap.size ≤ mp ∧ newA w.heap.size a n ∧ ∀ X ∈ ns2, NoFr w.heap.size X
theorem newA_up {b b' : Nat} {a : Option Addr} {n : Nat} (h : newA b' a n) (hb : b ≤ b') : newA b a n := fun h0 => by
 obtain ⟨g, o, e, k⟩ := h h0
 exact ⟨g, o, e, Nat.le_trans hb k⟩
theorem NoFr.up {b b' : Nat} {X : NoV} (h : NoFr b' X) (hb : b ≤ b') : NoFr b X := ⟨newA_up h.data hb, newA_up h.ats hb, fun A hA => newA_up (h.vals A hA) hb, newA_up h.kids hb⟩
set_option maxHeartbeats 8000000 in
theorem pnew_any (b5 : Option Addr) (n5 c5 : Nat) (ns : List NoV) (w : World) (hN : Nos w b5 n5 ns) (hcp : ∀ N ∈ ns, Ncp N) (s0 : Wk) (hte0 : Tells (nos ns) s0) (hlen : s0.list.length ≤ 16384) (hn5 : n5 ≤ 100000)
  (hk : ∀ N ∈ nos ns, N.kids.Pairwise (fun a b => a.n ≠ b.n) ∧ N.kids.length ≤ 100000 ∧ ∀ k ∈ N.kids, k.n.length ≤ 1000000) :
  Calls Tryz.prog 23 #[.agg #[.slice b5 n5 c5]] w (NwPost w ns) := by
 have hnl : (nos ns).length = n5 := by rw [nos_len]; exact hN.len_eq
 have gA := World.grownBy_alloc w (.cells #[.slice b5 n5 c5] 33) none
 have bT := Bx.new w 33 [.slice b5 n5 c5]
 have t0 : _ = some _ := bT.c 0
 have hpl := plist_any b5 n5 c5 ns _ (hN.grown gA) hcp (fun s hs => by
  rw [← hnl, hte0.1] at hs
  injection hs with hs
  subst hs
  exact hlen)
 have HI : Hid _ := And.intro hte0 (And.intro hlen (And.intro hk (And.intro hnl gA)))
 clear hN hcp hte0 hlen hk hnl gA bT
 go_enter Tryz.func23, Tryz.ntmps23
 go_wp2_with fail
 generalize hWA : w.alloc (.cells #[.slice b5 n5 c5] 33) = WA at *
 clear hWA t0
 refine hpl.mono ?_
 clear hpl
 rintro e W1 (⟨-, -, hbad⟩ | ⟨s, g, vc, m, q, hte, rfl, hL, hql, hms, hXn, hen⟩)
 ·exact absurd HI.out.1 (hbad s0)
 ·obtain rfl : s = s0 := by
   have h1 := hte.1
   rw [HI.out.1.1] at h1
   injection h1 with h1
   exact h1.symm
  have hsml := told_sml12 hen hXn (tells_en12 hte)
  obtain ⟨a', c', e', hEq⟩ := own_ens hL.own hql.symm (fun X hX => (hXn X hX).ok)
  injection e' with e1 e2 e3
  subst e1
  have hm : m ≤ 16384 := by rw [hms]; exact HI.out.2.1
  have hpc := pcanon_two (some ⟨g, 0, none⟩) m vc q W1 hEq (szs_of hsml) (by omega)
  unfold CnPost2 at hpc
  rw [hen, HI.out.1.2.1, if_pos rfl, HI.out.1.2.2] at hpc
  have HG1 : Hid _ := grown_trans HI.out.2.2.2.2 hL.gr
  clear hsml hEq e2 e3 hen hXn hL hql hms hte hm
  go_wp2_with fail
  refine hpc.mono ?_
  clear hpc
  rintro e W8 ⟨g8, b8, n8, c8, ns8, rfl, hN8, hnew8, hfr8, hns8⟩
  have gB := World.grownBy_alloc W8 (.cells #[.slice b8 n8 c8] 33) none
  have bU := Bx.new W8 33 [.slice b8 n8 c8]
  have hsz := HG1.out.size
  have hn8 : n8 ≤ 100000 := by
   have h1 := hN8.len_eq
   have h2 := nos_len ns8
   rw [hns8, HI.out.2.2.2.1] at h2
   omega
  have hsp := fun W g => pspots_any W b8 n8 c8 ns8 (hN8.grown g) hn8 (fun X hX => by
   have := HI.out.2.2.1 X.no (by rw [← hns8]; exact List.mem_map.2 ⟨X, hX, rfl⟩)
   exact this)
  have H8 : Hid _ := And.intro (grown_trans (grown_trans HG1.out g8) gB) (And.intro (hN8.grown gB) (And.intro (newA_up hnew8 hsz) (And.intro (fun X hX => (hfr8 X hX).1.up hsz) (And.intro hns8 (And.intro bU (And.intro gB (fun X hX => (hfr8 X hX).2)))))))
  clear HG1 g8 hN8 hnew8 hfr8 hns8 hsz hn8 HI bU gB
  go_wp2_with fail
  generalize hWB : W8.alloc (.cells #[.slice b8 n8 c8] 33) = WB at *
  clear hWB
  have hszw := H8.out.1.size
  refine wp_region_held_drew (S := fun w' => WB.grownBy w' none) (by kernel_rfl) (drewG0 WB) (fun hH => ?_)
  generalize WB.drew = WD at *
  refine wpAnyH_take (i := 0) (oi := ⟨some 20, _, _, _, _, _⟩) (v := .pointer (some ⟨W8.heap.size, 0, none⟩)) rfl (by kernel_rfl) (by kernel_rfl) (by kernel_rfl) (fun _ _ _ h => h) (Or.inl ⟨by rfl, fun w hSw => by go_simp⟩) hH ?_
  simp only [Act.put, pu]
  refine wpAnyH_take (i := 1) (oi := ⟨some 21, _, _, _, _, _⟩) (v := .slice b8 n8 c8) rfl (by kernel_rfl) (by kernel_rfl) (by kernel_rfl) (fun _ _ _ h => h) (Or.inl ⟨by rfl, fun w hSw => by have c0 : _ = some _ := (H8.out.2.2.2.2.2.1.kept hSw).c 0; go_simp⟩) hH ?_
  simp only [Act.put, pu]
  refine wpAnyH_take (i := 2) (oi := ⟨some 22, _, _, _, _, _⟩) (v := .pointer (some ⟨W8.heap.size, 0, none⟩)) rfl (by kernel_rfl) (by kernel_rfl) (by kernel_rfl) (fun _ _ _ h => h) (Or.inl ⟨by rfl, fun w hSw => by go_simp⟩) hH ?_
  simp only [Act.put, pu]
  refine wpAnyH_take (i := 3) (oi := ⟨some 23, _, _, _, _, _⟩) (v := .slice b8 n8 c8) rfl (by kernel_rfl) (by kernel_rfl) (by kernel_rfl) (fun _ _ _ h => h) (Or.inl ⟨by rfl, fun w hSw => by have c0 : _ = some _ := (H8.out.2.2.2.2.2.1.kept hSw).c 0; go_simp⟩) hH ?_
  simp only [Act.put, pu]
  refine wpAnyH_ready (rs := [4]) (by kernel_rfl) (by simp) ?_
  refine AllReadyH.cons rfl (fun K1 hK => ?_) AllReadyH.nil
  go_simp
  have hsq := hsp _ (grown_trans H8.out.2.2.2.2.2.2.1 hH)
  unfold SpPost12 at hsq
  refine hsq.mono ?_
  clear hsp hsq
  rintro e W9 ⟨mp, mm, rfl, hS⟩
  have hsz9 := hH.size
  replace hH := grown_trans hH hS.gr
  refine hK.out _ _ hH (fun h0 => ?_)
  clear h0 hK K1
  try simp only [Act.put, pu]
  refine wpAnyH_take (i := 5) (oi := ⟨some 25, _, _, _, _, _⟩) (v := .agg #[.slice b8 n8 c8, .map (some mp)]) rfl (by kernel_rfl) (by kernel_rfl) (by kernel_rfl) (fun _ _ _ h => h) (Or.inl ⟨by rfl, fun w hSw => by go_simp⟩) hH ?_
  simp only [Act.put, pu]
  refine wpAnyH_ready (rs := [6]) (by kernel_rfl) (by simp) ?_
  refine AllReadyH.cons rfl (fun K1 hK => ?_) AllReadyH.nil
  go_simp
  have gE := World.grownBy_alloc W9 (.cells #[.slice b8 n8 c8, .map (some mp)] 98) none
  have bE := Bx.new W9 98 [.slice b8 n8 c8, .map (some mp)]
  have hszh := hH.size
  replace hH := grown_trans hH gE
  refine hK.out _ _ hH (fun h0 => ?_)
  clear h0 hK K1
  try simp only [Act.put, pu]
  have HE : Hid (Md (W9.alloc (.cells #[.slice b8 n8 c8, .map (some mp)] 98)) W9.heap.size b8 n8 c8 mp ns8) := ⟨bE, H8.out.2.1.grown hH, H8.out.2.2.2.2.2.2.2, ⟨mm, (hS.kept gE).map⟩⟩
  refine wpAnyH_take (i := 7) (oi := ⟨some 2, _, _, _, _, _⟩) (v := .pointer (some ⟨W9.heap.size, 0, none⟩)) rfl (by kernel_rfl) (by kernel_rfl) (by kernel_rfl) (fun _ _ _ h => h) (Or.inl ⟨by rfl, fun w hSw => by go_simp⟩) hH ?_
  simp only [Act.put, pu]
  refine wpAnyH_take (i := 8) (oi := ⟨some 3, _, _, _, _, _⟩) (v := .int .i64 0) rfl (by kernel_rfl) (by kernel_rfl) (by kernel_rfl) (fun _ _ _ h => h) (Or.inl ⟨by rfl, fun w hSw => by go_simp⟩) hH ?_
  simp only [Act.put, pu]
  refine wpAnyH_done (by kernel_rfl) ?_ _
  have hnw : w.heap.size ≤ W9.heap.size := by omega
  have HF : Hid _ := And.intro (grown_trans H8.out.1 hH) (And.intro hnw (show w.heap.size ≤ mp from Nat.le_trans (Nat.le_trans hszw hsz9) hS.new))
  clear hH gE bE hS
  go_wp2
  go_ret2
  exact ⟨W9.heap.size, mp, b8, n8, c8, ns8, rfl, HF.out.1, HE.out, H8.out.2.2.2.2.1, HF.out.2.1, HF.out.2.2, H8.out.2.2.1, H8.out.2.2.2.1⟩
theorem lkp_bad {L : List No} {d : Int} {s : Tx} (h : knd L d 2 ≠ 0) : lkp L d s = (0, knd L d 2) := by unfold lkp; rw [if_pos h]
theorem lkp_at {ns : List NoV} {d : Nat} {X : NoV} (hX : ns[d]? = some X) (h : knd (nos ns) d 2 = 0) (s : Tx) : lkp (nos ns) (d : Int) s = if s = [46] then ((d : Int), (0 : Int)) else if s = [46, 46] then (X.parent, 0) else if vld s = false then (0, 6) else
  match fnd X.kids s with | some i => (i, 0) | none => (0, 4) := by
 unfold lkp
 rw [if_neg (by rw [h]; simp), Int.toNat_natCast, nos_get12 hX]
 rfl
set_option maxHeartbeats 4000000 in
theorem plookup_any (w : World) (mb : Nat) (a : Option Addr) (n c mp : Nat) (ns : List NoV) (h : Md w mb a n c mp ns) (d : Int) (s : ByteArray) (hs : s.size ≤ 1000000) :
  Calls Tryz.prog 22 #[.pointer (some ⟨mb, 0, none⟩), .int .i64 d, .string s] w fun e w' => e = .returned (.tuple #[.int .i64 (lkp (nos ns) d s.toList).1, .int .i64 (lkp (nos ns) d s.toList).2]) ∧ w.grownBy w' none := by
 have hok := pofkind_any w mb a n c (.map (some mp)) ns h.box h.nos d 2 (by decide)
 have HM : Hid _ := h
 clear h
 obtain ⟨R, hR⟩ : ∃ R, R = lkp (nos ns) d s.toList := ⟨_, rfl⟩
 rw [← hR]
 have HR : Hid _ := hR
 clear hR
 go_enter Tryz.func22, Tryz.ntmps22
 go_wp2_with fail
 refine hok.mono ?_
 clear hok
 rintro e W1 ⟨X, rfl, h0, h1, g1⟩
 have HX : Hid _ := And.intro h0 (And.intro h1 g1)
 clear h0 h1 g1
 by_cases hz : knd (nos ns) d 2 = 0
 ·obtain ⟨hd0, hX, hXk⟩ := HX.out.1 hz
  obtain ⟨j, rfl⟩ : ∃ j : Nat, d = (j : Int) := ⟨d.toNat, by omega⟩
  rw [Int.toNat_natCast] at hX
  have hl := lkp_at hX hz s.toList
  rw [hz]
  have hfi := fun W g => pfind_any W mb a n c mp ns (HM.out.kept g) j X hX s hs
  have HG1 : Hid _ := HX.out.2.2
  obtain ⟨NK, mode, uid, gid, time, size, da, dl, dc, data, target, dev, aa, al, ac, attrs, ka, kl, kc, kids, parent, links⟩ := X
  simp only [NoV.val]
  simp only at hl hfi
  rw [← HR.out] at hl
  have HL : Hid _ := hl
  clear hl hd0 hX hXk HX hz HR
  have gB := World.grownBy_alloc W1 (.cells #[.int .i64 NK, .int .i64 mode, .int .i64 uid, .int .i64 gid, .int .i64 time, .int .i64 size, .slice da dl dc, .string target, .int .i64 dev, .slice aa al ac, .slice ka kl kc, .int .i64 parent, .int .i64 links] 43) none
  have bB := Bx.new W1 43 [.int .i64 NK, .int .i64 mode, .int .i64 uid, .int .i64 gid, .int .i64 time, .int .i64 size, .slice da dl dc, .string target, .int .i64 dev, .slice aa al ac, .slice ka kl kc, .int .i64 parent, .int .i64 links]
  have v11 : _ = some _ := bB.c 11
  have HB : Hid _ := grown_trans HG1.out gB
  have hf := hfi _ HB.out
  clear gB bB hfi
  cases q1 : (s.toList == [46]) with
  | true =>
   have HV : Hid (R = ((j : Int), 0)) := by show _ = _; rw [HL.out, if_pos (eq_of_beq q1)]
   clear HL hf
   go_wp2
   go_ret2
   exact ⟨(by rw [HV.out]; try rfl), HB.out⟩
  | false =>
   have n1 : s.toList ≠ [46] := by intro e; rw [e] at q1; simp at q1
   cases q2 : (s.toList == [46, 46]) with
   | true =>
    have HV : Hid (R = (parent, 0)) := by show _ = _; rw [HL.out, if_neg n1, if_pos (eq_of_beq q2)]
    clear HL hf n1
    go_wp2
    go_ret2
    exact ⟨(by rw [HV.out]; try rfl), HB.out⟩
   | false =>
    have n2 : s.toList ≠ [46, 46] := by intro e; rw [e] at q2; simp at q2
    have HV : Hid (R = (if vld s.toList = false then 0 else (fnd kids s.toList).getD 0, if vld s.toList = false then 6 else if (fnd kids s.toList).isSome then 0 else 4)) := by
     show _ = _
     rw [HL.out, if_neg n1, if_neg n2]
     cases vld s.toList with
     | false => rfl
     | true =>
      rw [if_neg (by simp), if_neg (by simp), if_neg (by simp)]
      cases fnd kids s.toList <;> rfl
    clear HL n1 n2
    go_wp2_with fail
    generalize (if vld s.toList = false then (0 : Int) else (fnd kids s.toList).getD 0) = r1 at *
    generalize (if vld s.toList = false then (6 : Int) else if (fnd kids s.toList).isSome then 0 else 4) = r2 at *
    refine hf.mono ?_
    rintro e W2 ⟨rfl, g2⟩
    go_wp2
    go_ret2
    exact ⟨(by rw [HV.out]; try rfl), grown_trans HB.out g2⟩
 ·have hl := lkp_bad (s := s.toList) hz
  rw [← HR.out] at hl
  have HL : Hid _ := hl
  obtain rfl := HX.out.2.1 hz
  have HG1 : Hid _ := HX.out.2.2
  clear HX hl HR
  generalize knd (nos ns) d 2 = K at *
  have hzb : (K == 0) = false := by rw [beq_eq_false_iff_ne]; exact hz
  have hzb2 : (K != 0) = true := by simp [hz]
  simp only [NoV.val, nz12]
  go_wp2
  go_ret2
  exact ⟨(by rw [HL.out]; try rfl), grown_trans HG1.out (World.grownBy_alloc _ _ none)⟩
theorem fnd_step12 {l : List Kd} {k : Nat} {x : Kd} {s : Tx} (hx : l[k]? = some x) : fnd (l.drop k) s = if x.n = s then some x.i else fnd (l.drop (k + 1)) s := by
 obtain ⟨h1, h2⟩ := List.getElem?_eq_some_iff.1 hx
 rw [List.drop_eq_getElem_cons h1, h2]
 unfold fnd
 rw [List.find?_cons]
 by_cases e : x.n = s
 ·rw [if_pos e, show (x.n == s) = true by rw [beq_iff_eq]; exact e]; rfl
 ·rw [if_neg e, show (x.n == s) = false by rw [beq_eq_false_iff_ne]; exact e]
/-- how many bytes are read -/
def rdn (size off n : Int) : Nat := (min n (size - off)).toNat
/-- the bytes that are read -/
def rdb (data : List Int) (size off n : Int) : List Int := (List.range (rdn size off n)).map (fun i => data.getD (off.toNat + i) 0)
/-- what Read answers -/
def rda (L : List No) (i off n : Int) : List Int × Int :=
 if knd L i 1 ≠ 0 then ([], knd L i 1) else if off < 0 ∨ n < 0 then ([], 1) else if 1048576 < n then ([], 2) else
  (rdb (((L[i.toNat]?).map No.data).getD []) (((L[i.toNat]?).map No.size).getD 0) off n, 0)
theorem rda_bad {L : List No} {i off n : Int} (h : knd L i 1 ≠ 0) : rda L i off n = ([], knd L i 1) := by unfold rda; rw [if_pos h]
theorem rda_at {ns : List NoV} {i : Nat} {X : NoV} (hX : ns[i]? = some X) (h : knd (nos ns) i 1 = 0) (off n : Int) : rda (nos ns) (i : Int) off n = if off < 0 ∨ n < 0 then ([], (1 : Int)) else if 1048576 < n then ([], 2) else (rdb X.data X.size off n, 0) := by
 unfold rda
 rw [if_neg (by rw [h]; simp), Int.toNat_natCast, nos_get12 hX]
 rfl
theorem rdb_len (data : List Int) (size off n : Int) : (rdb data size off n).length = rdn size off n := by unfold rdb; simp
theorem rdb_byt {data : List Int} (h : Byt data) (size off n : Int) : Byt (rdb data size off n) := by
 intro x hx
 obtain ⟨i, -, rfl⟩ := List.mem_map.1 hx
 rw [List.getD_eq_getElem?_getD]
 cases hq : data[off.toNat + i]? with
 | none => exact ⟨Int.le_refl _, by decide⟩
 | some y => exact h y (List.mem_of_getElem? hq)
/-- what is copied into noughts -/
theorem rdb_splice (data : List Int) (size off n : Int) (k : Nat) (hk : k = min off.toNat data.length) : splice (List.replicate (rdn size off n) (Value.int .u8 0)) 0 (bv ((data.drop k).take (rdn size off n))) = bv (rdb data size off n) := by
 generalize hc : rdn size off n = c
 have e : bv (rdb data size off n) = (List.range c).map (fun i => Value.int .u8 (data.getD (off.toNat + i) 0)) := by unfold bv rdb; rw [hc, List.map_map]; rfl
 rw [e]
 unfold splice
 rw [List.take_zero, List.nil_append, Nat.zero_add]
 apply List.ext_getElem?
 intro i
 rw [List.getElem?_append, bv_length, List.getElem?_drop]
 by_cases hi : i < c
 ·rw [List.getElem?_map, List.getElem?_range hi]
  simp only [Option.map_some]
  by_cases h1 : i < ((data.drop k).take c).length
  ·rw [if_pos h1, bv_getElem? _ _ h1, List.getD_eq_getElem?_getD, List.getElem?_take, if_pos hi, List.getElem?_drop]
   rw [List.length_take, List.length_drop] at h1
   rw [show k = off.toNat by omega, List.getD_eq_getElem?_getD]
  ·rw [if_neg h1]
   rw [List.length_take, List.length_drop] at h1 ⊢
   rw [show min c (data.length - k) + (i - min c (data.length - k)) = i by omega, List.getElem?_replicate, if_pos hi, List.getD_eq_getElem?_getD, List.getElem?_eq_none (by omega)]
   rfl
 ·have h0 : ¬ i < ((data.drop k).take c).length := by rw [List.length_take]; omega
  rw [if_neg h0, List.getElem?_eq_none (by simp; omega), List.getElem?_eq_none (by simp; omega)]
/-- what Read tells, in memory -/
def RdPost12 (w : World) (A : List Int × Int) (e : Ending) (w' : World) : Prop := ∃ (a : Option Addr) (c : Nat), e = .returned (.tuple #[.slice a A.1.length c, .int .i64 A.2]) ∧ w.grownBy w' none ∧ Byt A.1 ∧ A.1.length ≤ c ∧ (0 < A.1.length → ∃ g, a = some ⟨g, 0, none⟩ ∧ w.heap.size ≤ g ∧ Blk w' g (bv A.1))
/-- a piece of bytes, from a place on -/
theorem wpList_lowB {P : Program} {w : World} {ops : Array Oper} {rest : List Oper} {o : Oper} {a : Act} {Q : Exit → Act → World → Prop} (hg : o.guard = none) (x l : Operand) (t : TypeId)
  (ho : o.op = .slice t x (some l) none none) (ht : P.underlying t = some (.slice 5)) (i : TypeInfo) (hi : P.info? 5 = some i) (hsz : i.size = 1)
  (da : Option Addr) (len cap k : Nat) (K : Int) (hx : a.eval x = .slice da len cap) (hl : a.eval l = .int .i64 K) (hK : K = (k : Int)) (h1 : k ≤ len) (h2 : len ≤ cap) (xs : List Int) (R : Row w da len xs)
  (hk : ∀ a', Hid (Row w a' (len - k) (xs.drop k)) → wpList P ops Q rest (a.put o.dst (.slice a' (len - k) (cap - k))) w) : wpList P ops Q (o :: rest) a w := by
 refine wpList_plain hg fun K' hK' => ?_
 have he : P.elem t = 5 := by simp [Program.elem, ht]
 have ht' : P.underlying t = some (.slice (P.elem t)) := by rw [he]; exact ht
 have hs : (sizeOf 5).run P w = .ok 1 w := by rw [run_sizeOf w hi]; simp [Program.cellsOf, hi, hsz]
 subst hK
 have hr := run_slice_l (P := P) (w := w) (a := da) (len := len) (cap := cap) (t := t) ht' .i64 (k : Int) (by omega) (by omega)
 rw [he, hs] at hr
 simp only [Result.andThen, Int.toNat_natCast] at hr
 have hlen := R.len_eq
 have hv : ∃ a', sliced da k len cap 1 = .slice a' (len - k) (cap - k) ∧ Row w a' (len - k) (xs.drop k) := by
  unfold sliced
  by_cases c : cap = k
  ·rw [if_pos c]
   refine ⟨da, rfl, ?_⟩
   rw [show len - k = 0 by omega, List.drop_eq_nil_of_le (by omega)]
   exact ⟨rfl, Nat.zero_le _, fun x h => (by cases h), fun h => by omega⟩
  ·rw [if_neg c]
   refine ⟨_, rfl, by rw [List.length_drop, hlen], by have := R.le; omega, fun x h => R.byt x (List.mem_of_mem_drop h), fun h => ?_⟩
   obtain ⟨b, off, rfl, hc⟩ := R.cells (by omega)
   have hadd : (⟨b, off, none⟩ : Addr).add (k * 1) = ⟨b, off + k, none⟩ := by unfold Addr.add; split <;> simp_all
   refine ⟨b, off + k, by rw [Option.map_some, hadd], fun j hj => ?_⟩
   rw [Nat.add_assoc, hc (k + j) (by omega), List.getD_eq_getElem?_getD, List.getD_eq_getElem?_getD, List.getElem?_drop]
 obtain ⟨a', hv, h3⟩ := hv
 rw [hv] at hr
 unfold Oper.wp
 simp [execOp, ho, hx, hl, hr, Result.andThen, run_sliceAt_slice (P := P) (w := w) t _ _ _ _ ht']
 exact hK' _ _ (hk _ h3)
/-- a guard: the next operation is a piece from a place on -/
theorem low12_here {P : Program} {w : World} {ops : Array Oper} {rest : List Oper} {a : Act} {Q : Exit → Act → World → Prop} {dst : Option Nat} {t : TypeId} {x l : Operand} {type : TypeId} {pos : String} {after : Array Edge} {guard : Option (Nat × Bool)}
  (k : wpList P ops Q (⟨dst, .slice t x (some l) none none, type, pos, after, guard⟩ :: rest) a w) : wpList P ops Q (⟨dst, .slice t x (some l) none none, type, pos, after, guard⟩ :: rest) a w := k
set_option maxHeartbeats 4000000 in
theorem pread_any (w : World) (mb : Nat) (a : Option Addr) (n c mp : Nat) (ns : List NoV) (h : Md w mb a n c mp ns) (i off m : Int) (hdv : ∀ X ∈ ns, (X.data.length : Int) ≤ X.size ∧ X.size ≤ 1099511627775) (ho : off ≤ 9223372036854775807) :
  Calls Tryz.prog 19 #[.pointer (some ⟨mb, 0, none⟩), .int .i64 i, .int .i64 off, .int .i64 m] w (RdPost12 w (rda (nos ns) i off m)) := by
 have hok := pofkind_any w mb a n c (.map (some mp)) ns h.box h.nos i 1 (by decide)
 have HM : Hid _ := And.intro h hdv
 clear h hdv
 obtain ⟨R, hR⟩ : ∃ R, R = rda (nos ns) i off m := ⟨_, rfl⟩
 rw [← hR]
 have HR : Hid _ := hR
 clear hR
 obtain ⟨i5, hi, hz0, hz1, hz2⟩ := info_parts Tryz.info5
 go_enter Tryz.func19, Tryz.ntmps19
 go_wp2_with fail
 refine hok.mono ?_
 clear hok
 rintro e W1 ⟨X, rfl, h0, h1, g1⟩
 have HX : Hid _ := And.intro h0 (And.intro h1 g1)
 clear h0 h1 g1
 by_cases hz : knd (nos ns) i 1 = 0
 ·obtain ⟨hd0, hX, hXk⟩ := HX.out.1 hz
  obtain ⟨j, rfl⟩ : ∃ j : Nat, i = (j : Int) := ⟨i.toNat, by omega⟩
  rw [Int.toNat_natCast] at hX
  have hl := rda_at hX hz off m
  rw [hz]
  have hmem := List.mem_of_getElem? hX
  obtain ⟨hs1, hs2⟩ := HM.out.2 X hmem
  have hcap := (HM.out.1.caps X hmem).1
  have hrow : Row w X.da X.dl X.data := by
   have hj := (List.getElem?_eq_some_iff.1 hX).1
   obtain ⟨b, o, -, k⟩ := HM.out.1.nos.at_ (by rw [← HM.out.1.nos.len_eq]; omega)
   exact (k j X hX).ok.row
  have HG1 : Hid _ := HX.out.2.2
  obtain ⟨NK, mode, uid, gid, time, size, da, dl, dc, data, target, dev, aa, al, ac, attrs, ka, kl, kc, kids, parent, links⟩ := X
  simp only [NoV.val]
  simp only at hl hs1 hs2 hcap hrow
  rw [← HR.out] at hl
  have HL : Hid _ := hl
  clear hl hd0 hX hXk HX hz HR hmem HM
  have gB := World.grownBy_alloc W1 (.cells #[.int .i64 NK, .int .i64 mode, .int .i64 uid, .int .i64 gid, .int .i64 time, .int .i64 size, .slice da dl dc, .string target, .int .i64 dev, .slice aa al ac, .slice ka kl kc, .int .i64 parent, .int .i64 links] 43) none
  have bB := Bx.new W1 43 [.int .i64 NK, .int .i64 mode, .int .i64 uid, .int .i64 gid, .int .i64 time, .int .i64 size, .slice da dl dc, .string target, .int .i64 dev, .slice aa al ac, .slice ka kl kc, .int .i64 parent, .int .i64 links]
  have v5 : _ = some _ := bB.c 5
  have v6 : _ = some _ := bB.c 6
  have HB : Hid _ := And.intro (grown_trans HG1.out gB) (And.intro (hrow.grown (grown_trans HG1.out gB)) bB)
  have hrl := hrow.len_eq
  have HRL : Hid _ := And.intro hrl (And.intro hs1 hrow.byt)
  rw [hrl] at hs1
  clear gB bB hrow hrl HG1
  by_cases q1 : off < 0
  ·have HV : Hid (R = ([], 1)) := by show _ = _; rw [HL.out, if_pos (Or.inl q1)]
   clear HL
   go_wp2
   go_ret2
   unfold RdPost12
   rw [HV.out]
   exact ⟨none, 0, rfl, HB.out.1, fun x h => (by cases h), Nat.le_refl _, fun h => absurd h (by decide)⟩
  by_cases q2 : m < 0
  ·have HV : Hid (R = ([], 1)) := by show _ = _; rw [HL.out, if_pos (Or.inr q2)]
   clear HL
   go_wp2
   go_ret2
   unfold RdPost12
   rw [HV.out]
   exact ⟨none, 0, rfl, HB.out.1, fun x h => (by cases h), Nat.le_refl _, fun h => absurd h (by decide)⟩
  by_cases q3 : 1048576 < m
  ·have HV : Hid (R = ([], 2)) := by show _ = _; rw [HL.out, if_neg (by omega), if_pos q3]
   clear HL
   go_wp2
   go_ret2
   unfold RdPost12
   rw [HV.out]
   exact ⟨none, 0, rfl, HB.out.1, fun x h => (by cases h), Nat.le_refl _, fun h => absurd h (by decide)⟩
  have HV : Hid (R = (rdb data size off m, 0)) := by show _ = _; rw [HL.out, if_neg (by omega), if_neg q3]
  clear HL
  have hwr : wrap64 (size - min off size) = size - min off size := by unfold wrap64; omega
  obtain ⟨q, hq⟩ : ∃ q : Nat, min m (size - min off size) = (q : Int) := ⟨(min m (size - min off size)).toNat, by omega⟩
  obtain ⟨k, hk⟩ : ∃ k : Nat, min (min off size) (dl : Int) = (k : Int) := ⟨(min (min off size) (dl : Int)).toNat, by omega⟩
  have hqn : q = rdn size off m := by unfold rdn; omega
  have hkn : k = min off.toNat data.length := by rw [HRL.out.1]; omega
  have hkd : k ≤ dl := by omega
  have hq48 : q ≤ 281474976710656 := by omega
  obtain ⟨t, ht⟩ : ∃ t, t = min q (dl - k) := ⟨_, rfl⟩
  have hspl := rdb_splice data size off m k hkn
  rw [← hqn] at hspl
  have hts : (data.drop k).take q = (data.drop k).take t := by
   have e : dl - k = (data.drop k).length := by rw [List.length_drop, HRL.out.1]
   rw [ht, e]
   rcases Nat.le_total q (data.drop k).length with h | h
   ·rw [Nat.min_eq_left h]
   ·rw [Nat.min_eq_right h, List.take_length, List.take_of_length_le h]
  rw [hts] at hspl
  have htl : (bv ((data.drop k).take t)).length = t := by rw [bv_length, List.length_take, List.length_drop, HRL.out.1]; omega
  have HQ : Hid _ := And.intro hqn (And.intro hspl (And.intro htl (And.intro ht hcap)))
  clear hqn hkn hspl hts htl ht hs1 hs2 hcap
  have hgw : (W1.alloc (.cells #[.int .i64 NK, .int .i64 mode, .int .i64 uid, .int .i64 gid, .int .i64 time, .int .i64 size, .slice da dl dc, .string target, .int .i64 dev, .slice aa al ac, .slice ka kl kc, .int .i64 parent, .int .i64 links] 43)).heap.size = W1.heap.size + 1 := by simp
  have HGW : Hid _ := And.intro hgw (show w.heap.size ≤ W1.heap.size + 1 by rw [← hgw]; exact HB.out.1.size)
  clear hgw
  go_wp2_with (first
   | (at_make; refine wpList_make8 _ rfl _ _ 23 rfl i5 Tryz.underlying23 hi hz0 hz1 hz2 _ _ _ _ q rfl rfl rfl rfl hq48 ?_; intro w1 hb1 hg1 hs1; rw [HGW.out.1] at hb1; have x6 : _ = some _ := (HB.out.2.2.kept hg1).c 6; have HW : Hid _ := And.intro hb1 (And.intro (grown_trans HB.out.1 hg1) (And.intro HGW.out.2 (HB.out.2.1.grown hg1))); clear hb1 hg1 hs1)
   | ((with_reducible refine low12_here ?_); refine wpList_lowB rfl _ _ 23 rfl Tryz.underlying23 i5 hi hz1 da dl dc k _ rfl rfl rfl hkd HQ.out.2.2.2.2 data HW.out.2.2.2 ?_; intro a' HA)
   | ((with_reducible refine copy_here ?_); go_loud (refine wpList_copy8 rfl _ _ 23 23 rfl Tryz.underlying23 (by rw [hi]; simp [hz1]) _ _ _ _ _ _ rfl rfl (W1.heap.size + 1) 0 _ HW.out.1 (bv ((data.drop k).take t)) (by have h1 := HQ.out.2.2.1; have h2 := HQ.out.2.2.2.1; rw [h1, h2]; exact Nat.min_comm _ _) (fun h0 => ⟨rfl, (row_take HA.out (m := t) (by have := HQ.out.2.2.2.1; omega)).src h0⟩) (by have h1 := HQ.out.2.2.1; have h2 := HQ.out.2.2.2.1; rw [h1, List.length_replicate]; omega) (bv_one _) ?_; intro w2 hb2 hg2 hs2; have HW2 : Hid _ := And.intro hb2 hg2; clear hb2 hg2 hs2))
   | fail)
  go_ret2
  unfold RdPost12
  rw [HV.out]
  have hb2 := HW2.out.1
  rw [HQ.out.2.1] at hb2
  have e : (rdb data size off m).length = q := by rw [rdb_len, HQ.out.1]
  refine ⟨some ⟨W1.heap.size + 1, 0, none⟩, q, ?_, grown_new HW.out.2.1 HW2.out.2 HW.out.2.2.1, rdb_byt HRL.out.2.2 _ _ _, ?_, fun _ => ⟨W1.heap.size + 1, rfl, HW.out.2.2.1, hb2⟩⟩
  ·simp only [e]; rfl
  ·simp only [e]; exact Nat.le_refl _
 ·have hl := rda_bad (off := off) (n := m) hz
  rw [← HR.out] at hl
  have HL : Hid _ := hl
  obtain rfl := HX.out.2.1 hz
  have HG1 : Hid _ := HX.out.2.2
  clear HX hl HR
  generalize knd (nos ns) i 1 = K at *
  have hzb : (K == 0) = false := by rw [beq_eq_false_iff_ne]; exact hz
  have hzb2 : (K != 0) = true := by simp [hz]
  simp only [NoV.val, nz12]
  go_wp2
  go_ret2
  unfold RdPost12
  rw [HL.out]
  exact ⟨none, 0, rfl, grown_trans HG1.out (World.grownBy_alloc _ _ none), fun x h => (by cases h), Nat.le_refl _, fun h => absurd h (Nat.lt_irrefl 0)⟩
def asum (l : List AtV) : Nat := (l.map (fun A => A.n.size + A.len)).sum
def esum (l : List EnV) : Nat := (l.map (fun X => asum X.attrs)).sum
/-- entries that are not much -/
def Gd (len : Nat) (l : List EnV) : Prop := len ≤ 40 ∧ Smal l ∧ esum l ≤ 1000000
theorem asum_step {l : List AtV} {j : Nat} {B : AtV} (h : l[j]? = some B) : asum (l.take (j + 1)) = asum (l.take j) + (B.n.size + B.len) := by
 unfold asum
 rw [List.take_add_one, h]
 simp
theorem esum_step {l : List EnV} {k : Nat} {Y : EnV} (h : l[k]? = some Y) : esum (l.take (k + 1)) = esum (l.take k) + asum Y.attrs := by
 unfold esum
 rw [List.take_add_one, h]
 simp
theorem asum_app (a b : List AtV) : asum (a ++ b) = asum a + asum b := by unfold asum; simp
theorem esum_app (a b : List EnV) : esum (a ++ b) = esum a + esum b := by unfold esum; simp
theorem esum_le {l : List EnV} {k j : Nat} {Y : EnV} (h : l[k]? = some Y) : esum (l.take k) + asum (Y.attrs.take j) ≤ esum l := by
 have h1 := esum_step h
 have h2 := esum_app (l.take (k + 1)) (l.drop (k + 1))
 rw [List.take_append_drop] at h2
 have h3 := asum_app (Y.attrs.take j) (Y.attrs.drop j)
 rw [List.take_append_drop] at h3
 omega
/-- what Much tells -/
def MuPost2 (w : World) (len : Nat) (l : List EnV) (e : Ending) (w' : World) : Prop := ((e = .returned (.bool true) ∧ ¬ Gd len l) ∨ (e = .returned (.bool false) ∧ Gd len l)) ∧ w.grownBy w' none
set_option maxHeartbeats 4000000 in
theorem rmuch_two (a : Option Addr) (len cap : Nat) (l : List EnV) (w : World) (E : Ens w a len l) : Calls Tryz.prog 7 #[.slice a len cap] w (MuPost2 w len l) := by
 have hll := E.len_eq
 by_cases h1 : 40 < len
 ·have h1i : (40 : Int) < (len : Int) := by omega
  clear E hll
  go_enter Tryz.func7, Tryz.ntmps7
  go_wp2
  go_ret
  exact ⟨Or.inl ⟨rfl, fun h => by have := h.1; omega⟩, World.grownBy.refl _ _⟩
 ·have h1i : ¬ (40 : Int) < (len : Int) := by omega
  have HI : Hid _ := And.intro E hll
  clear E hll
  go_enter Tryz.func7, Tryz.ntmps7
  go_wp2
  go_loopw [3, 4] (fun vs vi wr => ∃ (k : Nat) (sm : Int), k ≤ len ∧ vi = .int .i64 k ∧ vs = .int .i64 sm ∧ 0 ≤ sm ∧ sm ≤ 1000000 ∧ Hid ((∀ (i : Nat) (X : EnV), i < k → l[i]? = some X → EnV.sm X) ∧ sm = ((esum (l.take k) : Nat) : Int)) ∧ ∃ t, wr = w.drewN t) (fun _ vi _ => len - (intOf vi).toNat)
  case atStart => exact ⟨0, 0, Nat.zero_le _, rfl, rfl, by omega, by omega, ⟨fun i X h => by omega, by rw [List.take_zero]; rfl⟩, 0, rfl⟩
  case round =>
   obtain ⟨k, sm, hk, rfl, rfl, hs0, hs1, HS, t, rfl⟩ := hrel
   by_cases hlt : k < len
   ·obtain ⟨Y, hY⟩ : ∃ Y, l[k]? = some Y := ⟨_, List.getElem?_eq_getElem (by have := HI.out.2; omega)⟩
    obtain ⟨b, off, rfl, hat⟩ := HI.out.1.at_ (by omega)
    have hy := hat k Y hY
    have y0 := hy.c0
    have y7 := hy.c7
    have y8 := hy.c8
    have y10 := hy.c10
    have HY : Hid _ := And.intro hY hy.ok
    have hle1 := hy.ok.row.le
    have hle2 := hy.ok.ats.le
    clear hat hy hY
    have hlti : (k : Int) < (len : Int) := by omega
    by_cases q1 : 70000 < Y.dl
    ·have q1i : (70000 : Int) < (Y.dl : Int) := by omega
     go_wp2
     go_ret
     exact ⟨Or.inl ⟨rfl, fun h => by have := (h.2.1 k Y HY.out.1).d; omega⟩, drewG11 (World.grownBy.refl _ _) _⟩
    have q1i : ¬ (70000 : Int) < (Y.dl : Int) := by omega
    by_cases q2 : 5000 < Y.path.size
    ·have q2i : (5000 : Int) < (Y.path.size : Int) := by omega
     go_wp2
     go_ret
     exact ⟨Or.inl ⟨rfl, fun h => by have := (h.2.1 k Y HY.out.1).p; omega⟩, drewG11 (World.grownBy.refl _ _) _⟩
    have q2i : ¬ (5000 : Int) < (Y.path.size : Int) := by omega
    by_cases q3 : 5000 < Y.target.size
    ·have q3i : (5000 : Int) < (Y.target.size : Int) := by omega
     go_wp2
     go_ret
     exact ⟨Or.inl ⟨rfl, fun h => by have := (h.2.1 k Y HY.out.1).t; omega⟩, drewG11 (World.grownBy.refl _ _) _⟩
    have q3i : ¬ (5000 : Int) < (Y.target.size : Int) := by omega
    by_cases q4 : 70 < Y.al
    ·have q4i : (70 : Int) < (Y.al : Int) := by omega
     go_wp2
     go_ret
     exact ⟨Or.inl ⟨rfl, fun h => by have := (h.2.1 k Y HY.out.1).a; omega⟩, drewG11 (World.grownBy.refl _ _) _⟩
    have q4i : ¬ (70 : Int) < (Y.al : Int) := by omega
    have HQ : Hid _ := And.intro q1 (And.intro q2 (And.intro q3 q4))
    clear q1 q2 q3
    go_wp2
    go_loopw [3, 5] (fun vs vj wr => ∃ (j : Nat) (sm : Int), j ≤ Y.al ∧ vj = .int .i64 j ∧ vs = .int .i64 sm ∧ 0 ≤ sm ∧ sm ≤ 1000000 ∧ Hid ((∀ (i : Nat) (A : AtV), i < j → Y.attrs[i]? = some A → AtV.sm A) ∧ sm = ((esum (l.take k) + asum (Y.attrs.take j) : Nat) : Int)) ∧ ∃ t, wr = w.drewN t) (fun _ vj _ => Y.al - (intOf vj).toNat)
    case atStart => exact ⟨0, sm, Nat.zero_le _, rfl, rfl, hs0, hs1, ⟨fun i A h => by omega, by rw [List.take_zero]; exact HS.out.2⟩, t, rfl⟩
    case round =>
     obtain ⟨j, s2, hj, rfl, rfl, hs2, hs3, HJ, t2, rfl⟩ := hrel
     by_cases hlt2 : j < Y.al
     ·obtain ⟨b2, o2, hb2, hat2⟩ := HY.out.2.ats.at_ (by omega)
      obtain ⟨B, hB⟩ : ∃ B, Y.attrs[j]? = some B := ⟨_, List.getElem?_eq_getElem (by have := HY.out.2.ats.len_eq; omega)⟩
      obtain ⟨d0, d1, hr1, hcp⟩ := hat2 j B hB
      have hle3 := hr1.le
      have HB : Hid _ := hB
      rw [hb2] at y10
      clear hat2 hr1 hB hb2 hcp
      have hlt2i : (j : Int) < (Y.al : Int) := by omega
      generalize Y.al = yl at *
      by_cases r1 : B.n.size ≤ 300 ∧ B.len ≤ 5000
      ·obtain ⟨r1a, r1b⟩ := r1
       have HJ2 : Hid (∀ (i : Nat) (A : AtV), i < j + 1 → Y.attrs[i]? = some A → AtV.sm A) := by
        intro i A hi hA
        rcases Nat.lt_or_ge i j with h | h
        ·exact HJ.out.1 i A h hA
        ·have : i = j := by omega
         subst this
         rw [HB.out] at hA
         injection hA with hA
         subst hA
         exact ⟨r1a, r1b⟩
       have g1 : ¬ (300 : Int) < (B.n.size : Int) := by omega
       have g2 : ¬ (5000 : Int) < (B.len : Int) := by omega
       by_cases r3 : 1000000 < s2 + B.n.size + B.len
       ·have r3i := r3
        go_wp2
        go_quiet (fail)
        go_wp2
        go_ret
        exact ⟨Or.inl ⟨rfl, fun h => by have h2 := esum_le HY.out.1 (j := j + 1); have h3 := h.2.2; have h4 := HJ.out.2; rw [asum_step HB.out] at h2; omega⟩, drewG11 (World.grownBy.refl _ _) _⟩
       ·go_wp2
        go_quiet (fail)
        go_wp2
        go_roundw
        case rel => exact ⟨j + 1, s2 + B.n.size + B.len, by omega, by go_num, by go_num, by omega, by omega, ⟨HJ2.out, by have h4 := HJ.out.2; rw [asum_step HB.out]; omega⟩, _, rfl⟩
        case measure => simp [intOf]; omega
      ·by_cases r2 : 300 < B.n.size
       ·have g1 : (300 : Int) < (B.n.size : Int) := by omega
        go_wp2
        go_quiet (fail)
        go_wp2
        go_ret
        exact ⟨Or.inl ⟨rfl, fun h => by have := ((h.2.1 k Y HY.out.1).at_ j B HB.out).1; omega⟩, drewG11 (World.grownBy.refl _ _) _⟩
       ·have g1 : ¬ (300 : Int) < (B.n.size : Int) := by omega
        have g2 : (5000 : Int) < (B.len : Int) := by omega
        go_wp2
        go_quiet (fail)
        go_wp2
        go_ret
        exact ⟨Or.inl ⟨rfl, fun h => by have := ((h.2.1 k Y HY.out.1).at_ j B HB.out).2; omega⟩, drewG11 (World.grownBy.refl _ _) _⟩
     ·have hlt2i : ¬ (j : Int) < (Y.al : Int) := by omega
      have HS2 : Hid (∀ (i : Nat) (X : EnV), i < k + 1 → l[i]? = some X → EnV.sm X) := by
       intro i X hi hX
       rcases Nat.lt_or_ge i k with h | h
       ·exact HS.out.1 i X h hX
       ·have : i = k := by omega
        subst this
        rw [HY.out.1] at hX
        injection hX with hX
        subst hX
        have q := HQ.out
        exact ⟨by omega, by omega, by omega, by omega, fun i A hA => HJ.out.1 i A (by
         rcases Nat.lt_or_ge i Y.attrs.length with h | h
         ·have := HY.out.2.ats.len_eq; omega
         ·rw [List.getElem?_eq_none h] at hA; simp at hA) hA⟩
      go_wp2
      go_roundw
      case rel => exact ⟨k + 1, s2, by omega, by go_num, rfl, hs2, hs3, ⟨HS2.out, by have h4 := HJ.out.2; rw [esum_step HY.out.1]; rw [List.take_of_length_le (l := Y.attrs) (i := j) (by have := HY.out.2.ats.len_eq; omega)] at h4; exact h4⟩, _, rfl⟩
      case measure => simp [intOf]; omega
   ·have hk9 : k = len := by omega
    subst hk9
    have hlti : ¬ (k : Int) < (k : Int) := by omega
    have HF : Hid (Smal l) := by
     intro i X hX
     refine HS.out.1 i X ?_ hX
     rcases Nat.lt_or_ge i l.length with h | h
     ·have := HI.out.2; omega
     ·rw [List.getElem?_eq_none h] at hX; simp at hX
    go_wp2
    go_ret
    exact ⟨Or.inr ⟨rfl, by omega, HF.out, by have h4 := HS.out.2; rw [List.take_of_length_le (by rw [HI.out.2]; exact Nat.le_refl _)] at h4; omega⟩, drewG11 (World.grownBy.refl _ _) _⟩
end Go.Proofs.YtlehncfehoelbaaGreatDoor
