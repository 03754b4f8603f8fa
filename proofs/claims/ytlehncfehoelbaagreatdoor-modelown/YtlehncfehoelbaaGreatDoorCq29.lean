/- What List tells of the tree of a right list, in all that is asked of i. -/
import Derived.Test.YtlehncfehoelbaaGreatDoorCq06
import Derived.Test.YtlehncfehoelbaaGreatDoorCq07
import Derived.Test.YtlehncfehoelbaaGreatDoorCq10
import Derived.Test.YtlehncfehoelbaaGreatDoorCq13
import Derived.Test.YtlehncfehoelbaaGreatDoorCq22
import Derived.Test.YtlehncfehoelbaaGreatDoorCq27
import Derived.Test.YtlehncfehoelbaaGreatDoorCq28
namespace Go.Proofs.YtlehncfehoelbaaGreatDoor
set_option linter.unusedVariables false
set_option linter.unusedSimpArgs false
theorem lastT_short (p : Tx) : (lastT p).length ≤ p.length := by
 unfold lastT
 split
 ·exact Nat.le_refl _
 ·rw [List.length_drop]; omega
theorem kids_small {l : List En} (ok : OkS l) : ∀ n ∈ canon l, ∀ k ∈ n.kids, k.n.length ≤ 4096 := by
 obtain ⟨os, K, hos⟩ := canon_kids ok
 rw [canon_trs]
 unfold bld
 generalize (trs l).foldl bst ⟨[], [{ ndOf (look l []) with links := 2 }]⟩ = z at *
 intro n hn k hk
 obtain ⟨j, hj⟩ := List.mem_iff_getElem?.1 hn
 have hjl := (List.getElem?_eq_some_iff.1 hj).1
 have h := K.kids j (by have := K.len; omega)
 unfold kidsAt at h
 rw [hj] at h
 injection h with h
 have h : n.kids = _ := h
 rw [h] at hk
 obtain ⟨t, ht, rfl⟩ := List.mem_map.1 hk
 have htm := (List.mem_filter.1 ht).1
 obtain ⟨x, hx, hxp, -⟩ := (nm_of ok htm).x
 have := path_form (ok.each x hx).path (by rw [hxp]; exact (nm_of ok htm).ne)
 rw [hxp] at this
 exact Nat.le_trans (lastT_short t.p) this.1
theorem canon_data {l : List En} (ok : OkS l) {D : Nat} (hd : ∀ x ∈ l, x.data.length ≤ D) : ∀ n ∈ canon l, n.data.length ≤ D := by
 have h1 : ∀ x : En, x.data.length ≤ D → (ndOf x).data.length ≤ D := fun x h => by
  show (if x.k = 1 then strip x.data else []).length ≤ D
  split
  ·exact Nat.le_trans (strip_len _) h
  ·exact Nat.zero_le _
 have key : ∀ n ∈ canon l, (coreN n).data.length ≤ D := by
  rw [canon_trs]
  refine core_all (Q := fun n => n.data.length ≤ D) (trs l) _ (fun n hn => ?_) (fun t ht => ?_)
  ·have hn : n ∈ [{ ndOf (look l []) with links := 2 }] := hn
   rw [List.mem_singleton] at hn
   subst hn
   refine h1 _ ?_
   by_cases hin : ([] : Tx) ∈ pths l
   ·obtain ⟨x, hx, e⟩ := List.mem_map.1 hin
    rw [← e, look_mem ok.once hx]; exact hd x hx
   ·rw [look_none hin]; exact Nat.zero_le _
  ·obtain ⟨y, hy, a1, a2, a3, a4⟩ := (nm_of ok ht).y
   show (coreN t.nd).data.length ≤ D
   rw [a3]
   exact h1 y (hd y hy)
 exact key
theorem sums_le {l : List En} {D : Nat} (hd : ∀ x ∈ l, x.data.length ≤ D) : sums l ≤ (l.length * D : Nat) := by
 have key : ∀ (l : List En) (a : Int), (∀ x ∈ l, x.data.length ≤ D) → (l.map fun x => if x.k = 1 then (x.data.length : Int) else 0).foldl (· + ·) a ≤ a + (l.length * D : Nat) := by
  intro l
  induction l with
  | nil => intro a _; simp
  | cons x l ih =>
   intro a h
   have h1 := ih (a + if x.k = 1 then (x.data.length : Int) else 0) (fun y hy => h y (by simp [hy]))
   have h2 := h x (by simp)
   rw [List.map_cons, List.foldl_cons, List.length_cons, Nat.add_mul]
   refine Int.le_trans h1 ?_
   split <;> omega
 have := key l 0 hd
 unfold sums
 omega
theorem lstL_len {l : List En} (ok : OkS l) : (lstL l).length ≤ l.length + 1 ∧ (lstL l).length = (psL (pths l)).length + 1 := by
 have e : (lstL l).length = (psL (pths l)).length + 1 := by
  unfold lstL mkL
  rw [List.length_cons, List.length_map]
  have : (trs l).length = ((trs l).map Tp.p).length := by rw [List.length_map]
  rw [this, trs_paths]
 refine ⟨?_, e⟩
 rw [e]
 have h3 : ((ordL (pths l)).map fun i => (pths l).getD i []).Nodup := pairwise_nodup (psL_sorted ok.rt)
 have : (ordL (pths l)).length ≤ l.length := nodup_le (n := l.length) ((List.pairwise_map.1 h3).imp fun hne e => hne (by rw [e])) fun i hi => by
  obtain ⟨x, hx, -⟩ := ordL_lt ok hi
  exact (List.getElem?_eq_some_iff.1 hx).1
 unfold psL
 rw [List.length_map]
 omega
theorem back_tells {l : List En} (ok : OkS l) (hl : l.length ≤ 40) (hd : ∀ x ∈ l, x.data.length ≤ 70000) : ∃ s, meetP (canon l) ((canon l).length + 1) ⟨[], []⟩ 0 [] = some s ∧ s.list.map (enL (canon l)) = lstL l ∧ (chk11 (lstL l)).2 = 0 ∧ canon (lstL l) = canon l := by
 obtain ⟨s, h1, h2⟩ := list_canon ok (by omega) (canon l).length (Nat.le_refl _)
 refine ⟨s, h1, h2, ?_, lstL_canon ok⟩
 have hlen := (lstL_len ok).1
 refine chk_ok.2 ⟨by omega, ?_, lstL_ok ok⟩
 have hda : ∀ x ∈ lstL l, x.data.length ≤ 70000 := fun x hx => by
  rw [← h2] at hx
  obtain ⟨y, hy, rfl⟩ := List.mem_map.1 hx
  unfold enL
  cases y.src with
  | inr q => exact Nat.zero_le _
  | inl i =>
   simp only
   cases hn : (canon l)[i]? with
   | none => exact Nat.zero_le _
   | some n => exact canon_data ok hd n (List.mem_of_getElem? hn)
 have h3 := sums_le hda
 have h4 : (lstL l).length * 70000 ≤ 41 * 70000 := Nat.mul_le_mul_right _ (by omega)
 omega
end Go.Proofs.YtlehncfehoelbaaGreatDoor
namespace Go.Proofs.YtlehncfehoelbaaGreatDoor
open Go.RowKit
set_option maxRecDepth 100000
set_option linter.unusedSimpArgs false
set_option linter.unusedVariables false
theorem Nk.ncp12 {w W : World} {base : Nat} {X : NoV} (h : Nk w W base X) (hs : Sm X.no) (hk : ∀ k ∈ X.kids, k.n.length ≤ 4096) : Ncp X := by
 refine ⟨h.dcap, ?_, ?_, fun A hA => ?_, fun k hk2 => by have := hk k hk2; omega⟩
 ·rcases h.own.2 with ⟨e, h0⟩ | ⟨g, cap, cur, e, hg, hh, hc, hm, _⟩
  ·rw [h0]; exact Nat.zero_le _
  ·injection e with e1 e2 e3
   rw [e3]; exact hc
 ·have := hs.t
  rw [show X.no.target = X.target.toList from rfl, tl_len] at this
  omega
 ·have := (hs.e A.at (List.mem_map.2 ⟨A, hA, rfl⟩)).1
  rw [show A.at.n = A.n.toList from rfl, tl_len] at this
  omega
theorem told_sml12 {w' : World} {base : Nat} {l : List EnV} {L : List En} (he : ens l = L) (hx : ∀ X ∈ l, Xn w' base X) (hs : ∀ e ∈ L, e.path.length ≤ 4096 ∧ e.target.length ≤ 4096 ∧ e.attrs.length ≤ 64 ∧ ∀ a ∈ e.attrs, a.n.length ≤ 255) : Sml l := by
 rw [← he] at hs
 intro X hX
 have := hs X.en (List.mem_map.2 ⟨X, hX, rfl⟩)
 refine ⟨?_, ?_, fun A hA => ?_⟩
 ·have h1 := this.1
  rw [show X.en.path = X.path.toList from rfl, tl_len] at h1
  omega
 ·have h1 := this.2.1
  rw [show X.en.target = X.target.toList from rfl, tl_len] at h1
  omega
 ·have h1 := this.2.2.2 A.at (List.mem_map.2 ⟨A, hA, rfl⟩)
  rw [show A.at.n = A.n.toList from rfl, tl_len] at h1
  omega
theorem tells_en12 {ns : List No} {s : Wk} (h : Tells ns s) : ∀ e ∈ s.list.map (enL ns), e.path.length ≤ 4096 ∧ e.target.length ≤ 4096 ∧ e.attrs.length ≤ 64 ∧ ∀ a ∈ e.attrs, a.n.length ≤ 255 := by
 obtain ⟨c1, c2, ok⟩ := chk_ok.1 h.2.1
 have hsm := canon_sm ok c2
 rw [h.2.2] at hsm
 have hok := (meetP_ok _ ⟨[], []⟩ 0 [] s ⟨List.nodup_nil, fun x h => (by cases h), Nat.zero_le _, fun x h => (by cases h), fun x h => (by cases h)⟩ h.1).1
 intro e he
 obtain ⟨x, hx, rfl⟩ := List.mem_map.1 he
 have hp := hok.pl x hx
 unfold enL
 cases hs : x.src with
 | inr q => exact ⟨hp, hok.ql x hx q hs, Nat.zero_le _, fun a ha => by cases ha⟩
 | inl i =>
  simp only
  cases hn : ns[i]? with
  | none => exact ⟨hp, Nat.zero_le _, Nat.zero_le _, fun a ha => by cases ha⟩
  | some n =>
   have sm := hsm n (List.mem_of_getElem? hn)
   exact ⟨hp, sm.t, sm.a, fun a ha => (sm.e a ha).1⟩
theorem own_cap {W : World} {b e s n c m : Nat} {a : Option Addr} {xs : List Value} (h : W.ownsRow b e s (.slice a n c) m xs) : n ≤ c := by
 rcases h.2 with ⟨e, h0⟩ | ⟨g, cap, cur, e, hg, hh, hc, hm, _⟩
 ·injection e with e1 e2 e3
  omega
 ·injection e with e1 e2 e3
  rw [e3, e2]; exact hc
def CnPost2 (w : World) (l : List En) (e : Ending) (w' : World) : Prop := w.grownBy w' none ∧ ∃ (b : Option Addr) (n c : Nat) (ns : List NoV), e = .returned (.tuple #[.agg #[.slice b n c], .int .i64 (chk11 l).2]) ∧ Nos w' b n ns ∧ newA w.heap.size b n ∧ (∀ X ∈ ns, NoFr w.heap.size X ∧ X.dl ≤ X.dc ∧ X.kl ≤ X.kc) ∧ nos ns = if (chk11 l).2 = 0 then canon l else []
set_option maxHeartbeats 4000000 in
theorem pcanon_two (a : Option Addr) (len cap : Nat) (l : List EnV) (w : World) (E : Ens w a len l) (hs : Szs l) (hlen : len ≤ 100000) :
  Calls Tryz.prog 10 #[.slice a len cap] w (CnPost2 w (ens l)) := by
 have hck := fun W g => pcheck_any a len cap l W (E.grown g) hs hlen
 have HI : Hid _ := xai E hs
 clear E hs
 have B0 : Hid _ := Bx.new w 33 [.slice none 0 0]
 have G0 : Hid _ := xga w (.cells #[.slice none 0 0] 33) none
 go_enter Tryz.func10, Tryz.ntmps10
 go_wp2_with fail
 refine (hck _ G0.out).mono ?_
 clear hck
 rintro e W1 ⟨rfl, g1⟩
 have HP1 : Hid _ := xai (B0.out.kept g1) (xgt G0.out g1)
 clear B0 G0 g1
 generalize hC1 : (chk11 (ens l)).1 = C1 at *
 generalize hC2 : (chk11 (ens l)).2 = C2 at *
 have HC : Hid _ := hC2
 clear hC1 hC2
 generalize hB : w.heap.size = B at *
 have HB : Hid _ := hB
 clear hB
 by_cases hc : C2 = 0
 ·subst hc
  go_wp2_with fail
  refine (pwithroot_any a len cap l W1 (HI.out.1.grown HP1.out.2) hlen).mono ?_
  rintro e W2 ⟨a', n', c', rfl, E', g2⟩
  obtain ⟨k1, k2, k3, k4, k5, r, x, k6, k7⟩ := wroot_ok HI.out.1 HI.out.2 HC.out
  have hn' := E'.len_eq
  have hl := play_any a' n' c' (wRoot l) W2 E' (by have := (List.getElem?_eq_some_iff.1 k6).1; omega) (by omega) k2 r x k6 k7 k4
  unfold LyPost at hl
  rw [k3] at hl
  have HP2 : Hid _ := xai (HP1.out.1.kept g2) (xgt HP1.out.2 g2)
  clear E' HP1 g2 k1 k2 k3 k4 k5 k6 k7 hn'
  go_wp2_with fail
  refine hl.mono ?_
  rintro e W3 ⟨v, ns, rfl, hT, hno⟩
  have b3 := HP2.out.1.kept hT.gr
  obtain ⟨va, vc, rfl⟩ := own_shape hT.own
  have hT2 := hT.up HP2.out.2
  have ho := bx_own (base := B) b3 (Nat.le_refl _) rfl (by decide)
  obtain ⟨s1, s2⟩ := ho.stored 0 (.slice va ns.length vc)
  have hT3 := hT2.other ho (by rw [HB.out]; exact Nat.le_refl _) (by decide) (by decide) (by decide) (by decide) s2
  have c2 := b3.c 0
  have f2 : W3.frozen? ⟨B, 0, none⟩ = false := by simp [World.frozen?, b3.blk]
  have cR := s1.cellAt 0 (by decide)
  have HT : Hid _ := xai hT3 hno
  have HCR : Hid _ := cR
  have HW2 : Hid _ := HP2.out.2.size
  clear hT hT2 hT3 ho s1 s2 cR b3 HP2 hno hl
  go_wp2_with fail
  have cR := HCR.out
  refine bodyPost_ret (v := .tuple #[.agg #[.slice va ns.length vc], .int .i64 0]) (by simp [results, Tryz.results10, go_sem, *]) rfl ?_
  have hT := HT.out.1
  refine ⟨hT.gr, va, ns.length, vc, ns, by rw [HC.out], hT.nos rfl, newA_low (newA_of hT.own) HW2.out, fun X hX => ?_, by rw [HC.out, if_pos rfl]; exact HT.out.2⟩
  obtain ⟨i, hi⟩ := List.mem_iff_getElem?.1 hX
  exact ⟨((hT.each i X hi).low HW2.out).nofr, own_cap (hT.each i X hi).row.own, own_cap (hT.each i X hi).kid⟩
 ·have hb : (C2 == 0) = false := by rw [beq_eq_false_iff_ne]; exact hc
  have hb2 : (C2 != 0) = true := by simp [hc]
  have c2 := HP1.out.1.c 0
  have f2 : W1.frozen? ⟨B, 0, none⟩ = false := by simp [World.frozen?, HP1.out.1.blk]
  have ho := bx_own (base := B) HP1.out.1 (Nat.le_refl _) rfl (by decide)
  obtain ⟨s1, s2⟩ := ho.stored 0 (.slice none 0 0)
  have HCR : Hid _ := s1.cellAt 0 (by decide)
  have HG : Hid _ := grown_ownB HP1.out.2 ho s2 (by rw [HB.out]; exact Nat.le_refl _)
  clear ho s1 s2
  go_wp2_with fail
  have cR := HCR.out
  refine bodyPost_ret (v := .tuple #[.agg #[.slice none 0 0], .int .i64 C2]) (by simp [results, Tryz.results10, go_sem, *]) rfl ?_
  refine ⟨HG.out, none, 0, 0, [], by rw [HC.out], ⟨rfl, by decide, fun h => absurd h (by decide)⟩, fun h => absurd h (by decide), fun X hX => (by cases hX), by rw [HC.out, if_neg hc]; rfl⟩
def NwPost (w : World) (ns : List NoV) (e : Ending) (w' : World) : Prop := ∃ (mb mp : Nat) (a : Option Addr) (n c : Nat) (ns2 : List NoV), e = .returned (.tuple #[.pointer (some ⟨mb, 0, none⟩), .int .i64 0]) ∧ w.grownBy w' none ∧ Md w' mb a n c mp ns2 ∧ nos ns2 = nos ns ∧
 w.heap.size ≤ mb ∧ w.heap.size ≤ mp ∧ newA w.heap.size a n ∧ ∀ X ∈ ns2, NoFr w.heap.size X
theorem newA_up {b b' : Nat} {a : Option Addr} {n : Nat} (h : newA b' a n) (hb : b ≤ b') : newA b a n := fun h0 => by
 obtain ⟨g, o, e, k⟩ := h h0
 exact ⟨g, o, e, Nat.le_trans hb k⟩
theorem NoFr.up {b b' : Nat} {X : NoV} (h : NoFr b' X) (hb : b ≤ b') : NoFr b X := ⟨newA_up h.data hb, newA_up h.ats hb, fun A hA => newA_up (h.vals A hA) hb, newA_up h.kids hb⟩
set_option maxHeartbeats 8000000 in
theorem pnew_any (b5 : Option Addr) (n5 c5 : Nat) (ns : List NoV) (w : World) (hN : Nos w b5 n5 ns) (hcp : ∀ N ∈ ns, Ncp N) (s0 : Wk) (hte0 : Tells (nos ns) s0) (hlen : s0.list.length ≤ 16384) (hn5 : n5 ≤ 100000)
  (hk : ∀ N ∈ nos ns, N.kids.Pairwise (fun a b => a.n ≠ b.n) ∧ N.kids.length ≤ 100000 ∧ ∀ k ∈ N.kids, k.n.length ≤ 1000000) :
  Calls Tryz.prog 23 #[.agg #[.slice b5 n5 c5]] w (NwPost w ns) := by
 have hnl : (nos ns).length = n5 := by rw [nos_len]; exact hN.len_eq
 have gA := xga w (.cells #[.slice b5 n5 c5] 33) none
 have bT := Bx.new w 33 [.slice b5 n5 c5]
 have t0 : _ = some _ := bT.c 0
 have hpl := plist_any b5 n5 c5 ns _ (hN.grown gA) hcp (fun s hs => by
  rw [← hnl, hte0.1] at hs
  injection hs with hs
  subst hs
  exact hlen)
 have HI : Hid _ := xai hte0 (xai hlen (xai hk (xai hnl gA)))
 clear hN hcp hte0 hlen hk hnl gA bT
 go_enter Tryz.func23, Tryz.ntmps23
 go_wp2_with fail
 generalize hWA : w.alloc (.cells #[.slice b5 n5 c5] 33) = WA at *
 clear hWA t0
 refine hpl.mono ?_
 clear hpl
 rintro e W1 (⟨-, -, hbad⟩ | ⟨s, g, vc, m, q, hte, rfl, hL, hql, hms, hXn, hen⟩)
 ·exact absurd HI.out.1 (hbad s0)
 ·obtain rfl : s = s0 := by
   have h1 := hte.1
   rw [HI.out.1.1] at h1
   injection h1 with h1
   exact h1.symm
  have hsml := told_sml12 hen hXn (tells_en12 hte)
  obtain ⟨a', c', e', hEq⟩ := own_ens hL.own hql.symm (fun X hX => (hXn X hX).ok)
  injection e' with e1 e2 e3
  subst e1
  have hm : m ≤ 16384 := by rw [hms]; exact HI.out.2.1
  have hpc := pcanon_two (some ⟨g, 0, none⟩) m vc q W1 hEq (szs_of hsml) (by omega)
  unfold CnPost2 at hpc
  rw [hen, HI.out.1.2.1, if_pos rfl, HI.out.1.2.2] at hpc
  have HG1 : Hid _ := xgt HI.out.2.2.2.2 hL.gr
  clear hsml hEq e2 e3 hen hXn hL hql hms hte hm
  go_wp2_with fail
  refine hpc.mono ?_
  clear hpc
  rintro e W8 ⟨g8, b8, n8, c8, ns8, rfl, hN8, hnew8, hfr8, hns8⟩
  have gB := xga W8 (.cells #[.slice b8 n8 c8] 33) none
  have bU := Bx.new W8 33 [.slice b8 n8 c8]
  have hsz := HG1.out.size
  have hn8 : n8 ≤ 100000 := by
   have h1 := hN8.len_eq
   have h2 := nos_len ns8
   rw [hns8, HI.out.2.2.2.1] at h2
   omega
  have hsp := fun W g => pspots_any W b8 n8 c8 ns8 (hN8.grown g) hn8 (fun X hX => by
   have := HI.out.2.2.1 X.no (by rw [← hns8]; exact List.mem_map.2 ⟨X, hX, rfl⟩)
   exact this)
  have H8 : Hid _ := xai (xgt (xgt HG1.out g8) gB) (xai (hN8.grown gB) (xai (newA_up hnew8 hsz) (xai (fun X hX => (hfr8 X hX).1.up hsz) (xai hns8 (xai bU (xai gB (fun X hX => (hfr8 X hX).2)))))))
  clear HG1 g8 hN8 hnew8 hfr8 hns8 hsz hn8 HI bU gB
  go_wp2_with fail
  generalize hWB : W8.alloc (.cells #[.slice b8 n8 c8] 33) = WB at *
  clear hWB
  have hszw := H8.out.1.size
  refine wp_region_held_drew (S := fun w' => WB.grownBy w' none) (by kernel_rfl) (drewG0 WB) (fun hH => ?_)
  generalize WB.drew = WD at *
  refine tk (i := 0) (oi := ⟨some 20, _, _, _, _, _⟩) (v := .pointer (some ⟨W8.heap.size, 0, none⟩)) rfl (Or.inl ⟨by rfl, fun w hSw => by go_simp⟩) hH ?_
  simp only [Act.put, pu]
  refine tk (i := 1) (oi := ⟨some 21, _, _, _, _, _⟩) (v := .slice b8 n8 c8) rfl (Or.inl ⟨by rfl, fun w hSw => by have c0 : _ = some _ := (H8.out.2.2.2.2.2.1.kept hSw).c 0; go_simp⟩) hH ?_
  simp only [Act.put, pu]
  refine tk (i := 2) (oi := ⟨some 22, _, _, _, _, _⟩) (v := .pointer (some ⟨W8.heap.size, 0, none⟩)) rfl (Or.inl ⟨by rfl, fun w hSw => by go_simp⟩) hH ?_
  simp only [Act.put, pu]
  refine tk (i := 3) (oi := ⟨some 23, _, _, _, _, _⟩) (v := .slice b8 n8 c8) rfl (Or.inl ⟨by rfl, fun w hSw => by have c0 : _ = some _ := (H8.out.2.2.2.2.2.1.kept hSw).c 0; go_simp⟩) hH ?_
  simp only [Act.put, pu]
  refine wpAnyH_ready (rs := [4]) (by kernel_rfl) (by simp) ?_
  refine AllReadyH.cons rfl (fun K1 hK => ?_) AllReadyH.nil
  go_simp
  have hsq := hsp _ (xgt H8.out.2.2.2.2.2.2.1 hH)
  unfold SpPost12 at hsq
  refine hsq.mono ?_
  clear hsp hsq
  rintro e W9 ⟨mp, mm, rfl, hS⟩
  have hsz9 := hH.size
  replace hH := xgt hH hS.gr
  refine hK.out _ _ hH (fun h0 => ?_)
  clear h0 hK K1
  try simp only [Act.put, pu]
  refine tk (i := 5) (oi := ⟨some 25, _, _, _, _, _⟩) (v := .agg #[.slice b8 n8 c8, .map (some mp)]) rfl (Or.inl ⟨by rfl, fun w hSw => by go_simp⟩) hH ?_
  simp only [Act.put, pu]
  refine wpAnyH_ready (rs := [6]) (by kernel_rfl) (by simp) ?_
  refine AllReadyH.cons rfl (fun K1 hK => ?_) AllReadyH.nil
  go_simp
  have gE := xga W9 (.cells #[.slice b8 n8 c8, .map (some mp)] 98) none
  have bE := Bx.new W9 98 [.slice b8 n8 c8, .map (some mp)]
  have hszh := hH.size
  replace hH := xgt hH gE
  refine hK.out _ _ hH (fun h0 => ?_)
  clear h0 hK K1
  try simp only [Act.put, pu]
  have HE : Hid (Md (W9.alloc (.cells #[.slice b8 n8 c8, .map (some mp)] 98)) W9.heap.size b8 n8 c8 mp ns8) := ⟨bE, H8.out.2.1.grown hH, H8.out.2.2.2.2.2.2.2, ⟨mm, (hS.kept gE).map⟩⟩
  refine tk (i := 7) (oi := ⟨some 2, _, _, _, _, _⟩) (v := .pointer (some ⟨W9.heap.size, 0, none⟩)) rfl (Or.inl ⟨by rfl, fun w hSw => by go_simp⟩) hH ?_
  simp only [Act.put, pu]
  refine tk (i := 8) (oi := ⟨some 3, _, _, _, _, _⟩) (v := .int .i64 0) rfl (Or.inl ⟨by rfl, fun w hSw => by go_simp⟩) hH ?_
  simp only [Act.put, pu]
  refine wpAnyH_done (by kernel_rfl) ?_ _
  have hnw : w.heap.size ≤ W9.heap.size := by omega
  have HF : Hid _ := xai (xgt H8.out.1 hH) (xai hnw (show w.heap.size ≤ mp from Nat.le_trans (Nat.le_trans hszw hsz9) hS.new))
  clear hH gE bE hS
  go_wp2
  go_ret2
  exact ⟨W9.heap.size, mp, b8, n8, c8, ns8, rfl, HF.out.1, HE.out, H8.out.2.2.2.2.1, HF.out.2.1, HF.out.2.2, H8.out.2.2.1, H8.out.2.2.2.1⟩
end Go.Proofs.YtlehncfehoelbaaGreatDoor
namespace Go.Proofs.YtlehncfehoelbaaGreatDoor
set_option linter.unusedVariables false
set_option linter.unusedSimpArgs false
theorem upOf_inj {os : List (Tx × Option Tx)} {p q : Tx} (h : upOf os p = upOf os q) (h0 : upOf os p ≠ 0) : p = q := by
 unfold upOf at h h0
 cases hp : os.findIdx? (fun x => decide (x.2 = some p)) with
 | none => rw [hp] at h0; exact absurd rfl h0
 | some i =>
  rw [hp] at h
  cases hq : os.findIdx? (fun x => decide (x.2 = some q)) with
  | none => rw [hq] at h; simp at h
  | some j =>
   rw [hq] at h
   simp at h
   subst h
   obtain ⟨h1, h2, -⟩ := List.findIdx?_eq_some_iff_getElem.1 hp
   obtain ⟨h3, h4, -⟩ := List.findIdx?_eq_some_iff_getElem.1 hq
   simp at h2 h4
   rw [h2] at h4
   injection h4
theorem names_apart {ts : List (Tp Tx)} (hs : ts.Pairwise fun a b => plt a.p b.p) (hp : ∀ t ∈ ts, ahd (upT t.p) ++ lastT t.p = t.p) (P : Tp Tx → Bool) (hP : ∀ u ∈ ts, ∀ v ∈ ts, P u = true → P v = true → upT u.p = upT v.p) (f : Tp Tx → Kd) (hf : ∀ t, (f t).n = lastT t.p) :
  ((ts.filter P).map f).Pairwise (fun a b => a.n ≠ b.n) := by
 rw [List.pairwise_map]
 have h2 : (ts.filter P).Pairwise (fun a b => (a ∈ ts ∧ P a = true) ∧ (b ∈ ts ∧ P b = true) ∧ plt a.p b.p) := by
  refine List.Pairwise.imp_of_mem ?_ (hs.filter P)
  intro a b ha hb h
  exact ⟨List.mem_filter.1 ha, List.mem_filter.1 hb, h⟩
 refine h2.imp ?_
 rintro a b ⟨⟨a1, a2⟩, ⟨b1, b2⟩, hlt⟩ e
 rw [hf, hf] at e
 have := hP a a1 b b1 a2 b2
 rw [← hp a a1, ← hp b b1, this, e] at hlt
 exact plt_irrefl _ hlt
theorem kids_apart {l : List En} (ok : OkS l) (hl : l.length ≤ 16384) : ∀ n ∈ canon l, n.kids.Pairwise (fun a b => a.n ≠ b.n) ∧ n.kids.length ≤ 16384 := by
 have W := canon_wt ok hl
 have hpa : ∀ t ∈ trs l, ahd (upT t.p) ++ lastT t.p = t.p := fun t ht => (W.path t ht).2.2.1
 obtain ⟨os, K, hos⟩ := canon_kids ok
 intro n hn
 obtain ⟨j, hj⟩ := List.mem_iff_getElem?.1 hn
 by_cases h0 : j = 0
 ·subst h0
  obtain ⟨m, h1, h2, h3⟩ := W.root
  rw [hj] at h1
  injection h1 with h1
  subst h1
  rw [h3]
  refine ⟨names_apart W.srt hpa _ (fun u hu v hv a b => ?_) _ (fun t => rfl), ?_⟩
  ·simp at a b; rw [a, b]
  ·rw [List.length_map]; exact Nat.le_trans (List.length_filter_le _ _) W.len
 ·rw [canon_trs] at hj
  unfold bld at hj
  generalize (trs l).foldl bst ⟨[], [{ ndOf (look l []) with links := 2 }]⟩ = z at *
  have hjl := (List.getElem?_eq_some_iff.1 hj).1
  have h := K.kids j (by have := K.len; omega)
  unfold kidsAt at h
  rw [hj] at h
  injection h with h
  have h : n.kids = _ := h
  rw [h]
  refine ⟨names_apart W.srt hpa _ (fun u hu v hv a b => ?_) _ (fun t => rfl), ?_⟩
  ·simp at a b
   exact upOf_inj (by rw [a, b]) (by rw [a]; exact h0)
  ·rw [List.length_map]; exact Nat.le_trans (List.length_filter_le _ _) W.len
structure Dv (n : No) : Prop where
 dev : n.k = 1 ∨ n.k = 2 ∨ n.k = 3 → n.dev = 0
 size : n.k ≠ 1 → n.size = 0
 data : (n.data.length : Int) ≤ n.size
 le : n.size ≤ 1099511627775
theorem fld_size {x : En} (h : fld x = 0) (hk : x.k = 1) : (x.data.length : Int) ≤ x.size ∧ x.size ≤ 1099511627775 := by
 unfold fld at h
 split at h
 ·cases h
 ·split at h
  ·cases h
  ·rename_i h2
   have e : inI x.size x.data.length 1099511627775 = true := by
    cases hq : inI x.size x.data.length 1099511627775 with
    | true => rfl
    | false => exact absurd (by simp [hk, hq]) h2
   unfold inI at e
   rw [Bool.and_eq_true, decide_eq_true_eq, decide_eq_true_eq] at e
   exact e
theorem nd_dv {x : En} (h : fld x = 0) : Dv (ndOf x) := by
 refine ⟨fun hk => ?_, fun hk => ?_, ?_, ?_⟩
 ·have hk : x.k = 1 ∨ x.k = 2 ∨ x.k = 3 := hk
  show (if x.k = 4 ∨ x.k = 5 then x.dev else 0) = 0
  rw [if_neg (by omega)]
 ·have hk : x.k ≠ 1 := hk
  show (if x.k = 1 then x.size else 0) = 0
  rw [if_neg hk]
 ·show (((if x.k = 1 then strip x.data else []).length : Nat) : Int) ≤ (if x.k = 1 then x.size else 0)
  by_cases hk : x.k = 1
  ·rw [if_pos hk, if_pos hk]
   have h1 := (fld_size h hk).1
   have h2 := strip_len x.data
   omega
  ·rw [if_neg hk, if_neg hk]; simp
 ·show (if x.k = 1 then x.size else 0) ≤ 1099511627775
  by_cases hk : x.k = 1
  ·rw [if_pos hk]; exact (fld_size h hk).2
  ·rw [if_neg hk]; decide
theorem canon_dv {l : List En} (ok : OkS l) : ∀ n ∈ canon l, Dv n := by
 have key : ∀ n ∈ canon l, Dv (coreN n) := by
  rw [canon_trs]
  refine core_all (Q := Dv) (trs l) _ (fun n hn => ?_) (fun t ht => ?_)
  ·have hn : n ∈ [{ ndOf (look l []) with links := 2 }] := hn
   rw [List.mem_singleton] at hn
   subst hn
   have hr : Dv (ndOf (look l [])) := nd_dv (root_ok ok).2
   exact ⟨hr.dev, hr.size, hr.data, hr.le⟩
  ·obtain ⟨y, hy, a1, a2, a3, a4⟩ := (nm_of ok ht).y
   have hy2 := nd_dv ((ok.each y hy).fld a2)
   rw [← a3] at hy2
   exact ⟨hy2.dev, hy2.size, hy2.data, hy2.le⟩
 intro n hn
 have := key n hn
 exact ⟨this.dev, this.size, this.data, this.le⟩
end Go.Proofs.YtlehncfehoelbaaGreatDoor
namespace Go.Proofs.YtlehncfehoelbaaGreatDoor
open Go.RowKit
set_option maxRecDepth 100000
set_option linter.unusedSimpArgs false
set_option linter.unusedVariables false
def asum (l : List AtV) : Nat := (l.map (fun A => A.n.size + A.len)).sum
def esum (l : List EnV) : Nat := (l.map (fun X => asum X.attrs)).sum
def Gd (len : Nat) (l : List EnV) : Prop := len ≤ 40 ∧ Smal l ∧ esum l ≤ 1000000
theorem asum_step {l : List AtV} {j : Nat} {B : AtV} (h : l[j]? = some B) : asum (l.take (j + 1)) = asum (l.take j) + (B.n.size + B.len) := by
 unfold asum
 rw [List.take_add_one, h]
 simp
theorem esum_step {l : List EnV} {k : Nat} {Y : EnV} (h : l[k]? = some Y) : esum (l.take (k + 1)) = esum (l.take k) + asum Y.attrs := by
 unfold esum
 rw [List.take_add_one, h]
 simp
theorem asum_app (a b : List AtV) : asum (a ++ b) = asum a + asum b := by unfold asum; simp
theorem esum_app (a b : List EnV) : esum (a ++ b) = esum a + esum b := by unfold esum; simp
theorem esum_le {l : List EnV} {k j : Nat} {Y : EnV} (h : l[k]? = some Y) : esum (l.take k) + asum (Y.attrs.take j) ≤ esum l := by
 have h1 := esum_step h
 have h2 := esum_app (l.take (k + 1)) (l.drop (k + 1))
 rw [List.take_append_drop] at h2
 have h3 := asum_app (Y.attrs.take j) (Y.attrs.drop j)
 rw [List.take_append_drop] at h3
 omega
def MuPost2 (w : World) (len : Nat) (l : List EnV) (e : Ending) (w' : World) : Prop := ((e = .returned (.bool true) ∧ ¬ Gd len l) ∨ (e = .returned (.bool false) ∧ Gd len l)) ∧ w.grownBy w' none
set_option maxHeartbeats 4000000 in
theorem rmuch_two (a : Option Addr) (len cap : Nat) (l : List EnV) (w : World) (E : Ens w a len l) : Calls Tryz.prog 7 #[.slice a len cap] w (MuPost2 w len l) := by
 have hll := E.len_eq
 by_cases h1 : 40 < len
 ·have h1i : (40 : Int) < (len : Int) := by omega
  clear E hll
  go_enter Tryz.func7, Tryz.ntmps7
  go_wp2
  go_ret
  exact ⟨Or.inl ⟨rfl, fun h => by have := h.1; omega⟩, World.grownBy.refl _ _⟩
 ·have h1i : ¬ (40 : Int) < (len : Int) := by omega
  have HI : Hid _ := xai E hll
  clear E hll
  go_enter Tryz.func7, Tryz.ntmps7
  go_wp2
  go_loopw [3, 4] (fun vs vi wr => ∃ (k : Nat) (sm : Int), k ≤ len ∧ vi = .int .i64 k ∧ vs = .int .i64 sm ∧ 0 ≤ sm ∧ sm ≤ 1000000 ∧ Hid ((∀ (i : Nat) (X : EnV), i < k → l[i]? = some X → EnV.sm X) ∧ sm = ((esum (l.take k) : Nat) : Int)) ∧ ∃ t, wr = w.drewN t) (fun _ vi _ => len - (intOf vi).toNat)
  case atStart => exact ⟨0, 0, Nat.zero_le _, rfl, rfl, by omega, by omega, ⟨fun i X h => by omega, by rw [List.take_zero]; rfl⟩, 0, rfl⟩
  case round =>
   obtain ⟨k, sm, hk, rfl, rfl, hs0, hs1, HS, t, rfl⟩ := hrel
   by_cases hlt : k < len
   ·obtain ⟨Y, hY⟩ : ∃ Y, l[k]? = some Y := ⟨_, List.getElem?_eq_getElem (by have := HI.out.2; omega)⟩
    obtain ⟨b, off, rfl, hat⟩ := HI.out.1.at_ (by omega)
    have hy := hat k Y hY
    have y0 := hy.c0
    have y7 := hy.c7
    have y8 := hy.c8
    have y10 := hy.c10
    have HY : Hid _ := xai hY hy.ok
    have hle1 := hy.ok.row.le
    have hle2 := hy.ok.ats.le
    clear hat hy hY
    have hlti : (k : Int) < (len : Int) := by omega
    by_cases q1 : 70000 < Y.dl
    ·have q1i : (70000 : Int) < (Y.dl : Int) := by omega
     go_wp2
     go_ret
     exact ⟨Or.inl ⟨rfl, fun h => by have := (h.2.1 k Y HY.out.1).d; omega⟩, drewG11 (World.grownBy.refl _ _) _⟩
    have q1i : ¬ (70000 : Int) < (Y.dl : Int) := by omega
    by_cases q2 : 5000 < Y.path.size
    ·have q2i : (5000 : Int) < (Y.path.size : Int) := by omega
     go_wp2
     go_ret
     exact ⟨Or.inl ⟨rfl, fun h => by have := (h.2.1 k Y HY.out.1).p; omega⟩, drewG11 (World.grownBy.refl _ _) _⟩
    have q2i : ¬ (5000 : Int) < (Y.path.size : Int) := by omega
    by_cases q3 : 5000 < Y.target.size
    ·have q3i : (5000 : Int) < (Y.target.size : Int) := by omega
     go_wp2
     go_ret
     exact ⟨Or.inl ⟨rfl, fun h => by have := (h.2.1 k Y HY.out.1).t; omega⟩, drewG11 (World.grownBy.refl _ _) _⟩
    have q3i : ¬ (5000 : Int) < (Y.target.size : Int) := by omega
    by_cases q4 : 70 < Y.al
    ·have q4i : (70 : Int) < (Y.al : Int) := by omega
     go_wp2
     go_ret
     exact ⟨Or.inl ⟨rfl, fun h => by have := (h.2.1 k Y HY.out.1).a; omega⟩, drewG11 (World.grownBy.refl _ _) _⟩
    have q4i : ¬ (70 : Int) < (Y.al : Int) := by omega
    have HQ : Hid _ := xai q1 (xai q2 (xai q3 q4))
    clear q1 q2 q3
    go_wp2
    go_loopw [3, 5] (fun vs vj wr => ∃ (j : Nat) (sm : Int), j ≤ Y.al ∧ vj = .int .i64 j ∧ vs = .int .i64 sm ∧ 0 ≤ sm ∧ sm ≤ 1000000 ∧ Hid ((∀ (i : Nat) (A : AtV), i < j → Y.attrs[i]? = some A → AtV.sm A) ∧ sm = ((esum (l.take k) + asum (Y.attrs.take j) : Nat) : Int)) ∧ ∃ t, wr = w.drewN t) (fun _ vj _ => Y.al - (intOf vj).toNat)
    case atStart => exact ⟨0, sm, Nat.zero_le _, rfl, rfl, hs0, hs1, ⟨fun i A h => by omega, by rw [List.take_zero]; exact HS.out.2⟩, t, rfl⟩
    case round =>
     obtain ⟨j, s2, hj, rfl, rfl, hs2, hs3, HJ, t2, rfl⟩ := hrel
     by_cases hlt2 : j < Y.al
     ·obtain ⟨b2, o2, hb2, hat2⟩ := HY.out.2.ats.at_ (by omega)
      obtain ⟨B, hB⟩ : ∃ B, Y.attrs[j]? = some B := ⟨_, List.getElem?_eq_getElem (by have := HY.out.2.ats.len_eq; omega)⟩
      obtain ⟨d0, d1, hr1, hcp⟩ := hat2 j B hB
      have hle3 := hr1.le
      have HB : Hid _ := hB
      rw [hb2] at y10
      clear hat2 hr1 hB hb2 hcp
      have hlt2i : (j : Int) < (Y.al : Int) := by omega
      generalize Y.al = yl at *
      by_cases r1 : B.n.size ≤ 300 ∧ B.len ≤ 5000
      ·obtain ⟨r1a, r1b⟩ := r1
       have HJ2 : Hid (∀ (i : Nat) (A : AtV), i < j + 1 → Y.attrs[i]? = some A → AtV.sm A) := by
        intro i A hi hA
        rcases Nat.lt_or_ge i j with h | h
        ·exact HJ.out.1 i A h hA
        ·have : i = j := by omega
         subst this
         rw [HB.out] at hA
         injection hA with hA
         subst hA
         exact ⟨r1a, r1b⟩
       have g1 : ¬ (300 : Int) < (B.n.size : Int) := by omega
       have g2 : ¬ (5000 : Int) < (B.len : Int) := by omega
       by_cases r3 : 1000000 < s2 + B.n.size + B.len
       ·have r3i := r3
        go_wp2
        go_quiet (fail)
        go_wp2
        go_ret
        exact ⟨Or.inl ⟨rfl, fun h => by have h2 := esum_le HY.out.1 (j := j + 1); have h3 := h.2.2; have h4 := HJ.out.2; rw [asum_step HB.out] at h2; omega⟩, drewG11 (World.grownBy.refl _ _) _⟩
       ·go_wp2
        go_quiet (fail)
        go_wp2
        go_roundw
        case rel => exact ⟨j + 1, s2 + B.n.size + B.len, by omega, by go_num, by go_num, by omega, by omega, ⟨HJ2.out, by have h4 := HJ.out.2; rw [asum_step HB.out]; omega⟩, _, rfl⟩
        case measure => simp [intOf]; omega
      ·by_cases r2 : 300 < B.n.size
       ·have g1 : (300 : Int) < (B.n.size : Int) := by omega
        go_wp2
        go_quiet (fail)
        go_wp2
        go_ret
        exact ⟨Or.inl ⟨rfl, fun h => by have := ((h.2.1 k Y HY.out.1).at_ j B HB.out).1; omega⟩, drewG11 (World.grownBy.refl _ _) _⟩
       ·have g1 : ¬ (300 : Int) < (B.n.size : Int) := by omega
        have g2 : (5000 : Int) < (B.len : Int) := by omega
        go_wp2
        go_quiet (fail)
        go_wp2
        go_ret
        exact ⟨Or.inl ⟨rfl, fun h => by have := ((h.2.1 k Y HY.out.1).at_ j B HB.out).2; omega⟩, drewG11 (World.grownBy.refl _ _) _⟩
     ·have hlt2i : ¬ (j : Int) < (Y.al : Int) := by omega
      have HS2 : Hid (∀ (i : Nat) (X : EnV), i < k + 1 → l[i]? = some X → EnV.sm X) := by
       intro i X hi hX
       rcases Nat.lt_or_ge i k with h | h
       ·exact HS.out.1 i X h hX
       ·have : i = k := by omega
        subst this
        rw [HY.out.1] at hX
        injection hX with hX
        subst hX
        have q := HQ.out
        exact ⟨by omega, by omega, by omega, by omega, fun i A hA => HJ.out.1 i A (by
         rcases Nat.lt_or_ge i Y.attrs.length with h | h
         ·have := HY.out.2.ats.len_eq; omega
         ·rw [List.getElem?_eq_none h] at hA; simp at hA) hA⟩
      go_wp2
      go_roundw
      case rel => exact ⟨k + 1, s2, by omega, by go_num, rfl, hs2, hs3, ⟨HS2.out, by have h4 := HJ.out.2; rw [esum_step HY.out.1]; rw [List.take_of_length_le (l := Y.attrs) (i := j) (by have := HY.out.2.ats.len_eq; omega)] at h4; exact h4⟩, _, rfl⟩
      case measure => simp [intOf]; omega
   ·have hk9 : k = len := by omega
    subst hk9
    have hlti : ¬ (k : Int) < (k : Int) := by omega
    have HF : Hid (Smal l) := by
     intro i X hX
     refine HS.out.1 i X ?_ hX
     rcases Nat.lt_or_ge i l.length with h | h
     ·have := HI.out.2; omega
     ·rw [List.getElem?_eq_none h] at hX; simp at hX
    go_wp2
    go_ret
    exact ⟨Or.inr ⟨rfl, by omega, HF.out, by have h4 := HS.out.2; rw [List.take_of_length_le (by rw [HI.out.2]; exact Nat.le_refl _)] at h4; omega⟩, drewG11 (World.grownBy.refl _ _) _⟩
theorem bst_len12 (s : Bs Tx) (t : Tp Tx) : (bst s t).ns.length ≤ s.ns.length + 1 := by
 have h : (newO s t).ns.length ≤ s.ns.length + 1 := by
  unfold newO
  split
  ·exact Nat.le_succ _
  ·simp
 unfold bst
 simp only
 split <;> simp only [addLink, setUp, addKid, List.length_modify] <;> exact h
theorem fold_len12 : ∀ (ts : List (Tp Tx)) (s : Bs Tx), (ts.foldl bst s).ns.length ≤ s.ns.length + ts.length
 | [], s => Nat.le_refl _
 | t :: ts, s => by
  rw [List.foldl_cons, List.length_cons]
  have h1 := fold_len12 ts (bst s t)
  have h2 := bst_len12 s t
  omega
theorem canon_len {l : List En} (ok : OkS l) (hl : l.length ≤ 16384) : (canon l).length ≤ 16385 := by
 have h1 := (canon_wt ok hl).len
 rw [canon_trs]
 unfold bld
 have h2 := fold_len12 (trs l) ⟨[], [{ ndOf (look l []) with links := 2 }]⟩
 have h3 : ((⟨[], [{ ndOf (look l []) with links := 2 }]⟩ : Bs Tx)).ns.length = 1 := rfl
 refine Nat.le_trans h2 ?_
 rw [h3]
 omega
theorem pnew_canon {L : List En} (hc : (chk11 L).2 = 0) (hll : L.length ≤ 40) (hda : ∀ x ∈ L, x.data.length ≤ 70000) {w W : World} {base : Nat} {b5 : Option Addr} {n5 c5 : Nat} {ns : List NoV} (hT : Td w W base (.slice b5 n5 c5) ns) (hn5 : ns.length = n5) (hno : nos ns = canon L)
  (W' : World) (g : W.grownBy W' none) : Calls Tryz.prog 23 #[.agg #[.slice b5 n5 c5]] W' (NwPost W' ns) := by
 obtain ⟨-, hsum, ok⟩ := chk_ok.1 hc
 have hsmc := canon_sm ok hsum
 have hksm := kids_small ok
 have hkap := kids_apart ok (by omega)
 have hcl := canon_len ok (by omega)
 rw [← hno] at hsmc hksm hkap hcl
 obtain ⟨s0, hs1, hs2, hs3, hs4⟩ := back_tells ok hll hda
 rw [← hno] at hs1 hs2 hs4
 have hs0l : s0.list.length = (lstL L).length := by rw [← hs2, List.length_map]
 have hll2 := (lstL_len ok).1
 rw [nos_len, hn5] at hcl
 refine pnew_any b5 n5 c5 ns W' ((hT.nos hn5).grown g) (fun N hN => ?_) s0 ⟨hs1, by rw [hs2]; exact hs3, by rw [hs2]; exact hs4⟩ (by omega) (by omega) (fun N hN => ⟨(hkap N hN).1, Nat.le_trans (hkap N hN).2 (by decide), fun k hk => Nat.le_trans (hksm N hN k hk) (by decide)⟩)
 obtain ⟨i, hi⟩ := List.mem_iff_getElem?.1 hN
 have hm : N.no ∈ nos ns := List.mem_map.2 ⟨N, hN, rfl⟩
 exact (hT.each i N hi).ncp12 (hsmc _ hm) (hksm _ hm)
theorem num12_any (n : Int) (w : World) : Calls Tryz.prog 20 #[.int .i64 n] w fun e w' => e = .returned (.int .i64 n) ∧ w = w' := by
 go_enter Tryz.func20, Tryz.ntmps20
 go_wp2
 go_ret
 exact ⟨rfl, rfl⟩
theorem Gd.szs {len : Nat} {l : List EnV} (h : Gd len l) : Sml l := fun X hX => by
 obtain ⟨i, hi, rfl⟩ := List.getElem_of_mem hX
 have k := h.2.1 i l[i] (List.getElem?_eq_getElem hi)
 refine ⟨k.p, k.t, fun A hA => ?_⟩
 obtain ⟨j, hj, rfl⟩ := List.getElem_of_mem hA
 have := (k.at_ j _ (List.getElem?_eq_getElem hj)).1
 omega
theorem cell_but12 {W W' : World} {r : Nat} (g : W.grownBy W' (some r)) {b o : Nat} {v : Value} (h : W.cell? ⟨b, o, none⟩ = some v) (hne : b ≠ r) : W'.cell? ⟨b, o, none⟩ = some v := g.cell h (by simpa using hne)
theorem gd_data {w : World} {a : Option Addr} {len : Nat} {l : List EnV} (E : Ens w a len l) (h : Gd len l) : ∀ x ∈ ens l, x.data.length ≤ 70000 := fun x hx => by
 obtain ⟨X, hX, rfl⟩ := List.mem_map.1 hx
 obtain ⟨i, hi⟩ := List.mem_iff_getElem?.1 hX
 have h1 := (h.2.1 i X hi).d
 have hil := (List.getElem?_eq_some_iff.1 hi).1
 obtain ⟨b, off, -, k⟩ := E.at_ (by rw [← E.len_eq]; omega)
 have h2 := (k i X hi).ok.row.len_eq
 show X.data.length ≤ 70000
 omega
theorem gd_al {len : Nat} {l : List EnV} (h : Gd len l) : ∀ X ∈ l, X.al ≤ 100000 := fun X hX => by
 obtain ⟨i, hi⟩ := List.mem_iff_getElem?.1 hX
 have := (h.2.1 i X hi).a
 omega
theorem infoK : (Tryz.prog.info? 47).map (fun i => (i.zero, i.size, i.bytes)) = some (some (.agg #[.string ⟨#[]⟩, .int .i64 0]), 2, 24) := by kernel_rfl
def rdr (L : List No) (i cur n : Int) : List Kd × Int × Int :=
 if knd L i 2 ≠ 0 then ([], 0, knd L i 2) else if cur < 0 ∨ n < 0 then ([], 0, 1) else
  (((((L[i.toNat]?).map No.kids).getD []).drop cur.toNat).take n.toNat, cur + ((((((L[i.toNat]?).map No.kids).getD []).drop cur.toNat).take n.toNat).length : Nat), 0)
theorem rdr_bad {L : List No} {i cur n : Int} (h : knd L i 2 ≠ 0) : rdr L i cur n = ([], 0, knd L i 2) := by unfold rdr; rw [if_pos h]
theorem rdr_at {ns : List NoV} {j : Nat} {X : NoV} (hX : ns[j]? = some X) (h : knd (nos ns) j 2 = 0) (cur n : Int) : rdr (nos ns) (j : Int) cur n = if cur < 0 ∨ n < 0 then ([], (0 : Int), (1 : Int)) else ((X.kids.drop cur.toNat).take n.toNat, cur + (((X.kids.drop cur.toNat).take n.toNat).length : Nat), 0) := by
 unfold rdr
 rw [if_neg (by rw [h]; simp), Int.toNat_natCast, nos_get12 hX]
 rfl
def RkPost (w : World) (A : List Kd × Int × Int) (e : Ending) (w' : World) : Prop := ∃ (a : Option Addr) (m c : Nat), e = .returned (.tuple #[.slice a m c, .int .i64 A.2.1, .int .i64 A.2.2]) ∧ w.grownBy w' none ∧ Kds w' a m A.1
theorem kds_nil (w : World) (a : Option Addr) : Kds w a 0 [] := ⟨rfl, Nat.zero_le _, fun h => absurd h (Nat.lt_irrefl 0)⟩
theorem wpList_lowK {P : Program} {w : World} {ops : Array Oper} {rest : List Oper} {o : Oper} {a : Act} {Q : Exit → Act → World → Prop} (hg : o.guard = none) (x l : Operand) (t : TypeId)
  (ho : o.op = .slice t x (some l) none none) (ht : P.underlying t = some (.slice 47)) (i : TypeInfo) (hi : P.info? 47 = some i) (hsz : i.size = 2)
  (da : Option Addr) (len cap k : Nat) (K : Int) (hx : a.eval x = .slice da len cap) (hl : a.eval l = .int .i64 K) (hK : K = (k : Int)) (h1 : k ≤ len) (h2 : len ≤ cap) (xs : List Kd) (R : Kds w da len xs)
  (hk : ∀ a', Hid (Kds w a' (len - k) (xs.drop k)) → wpList P ops Q rest (a.put o.dst (.slice a' (len - k) (cap - k))) w) : wpList P ops Q (o :: rest) a w := by
 refine wpList_plain hg fun K' hK' => ?_
 have he : P.elem t = 47 := by simp [Program.elem, ht]
 have ht' : P.underlying t = some (.slice (P.elem t)) := by rw [he]; exact ht
 have hs : (sizeOf 47).run P w = .ok 2 w := by rw [run_sizeOf w hi]; simp [Program.cellsOf, hi, hsz]
 subst hK
 have hr := run_slice_l (P := P) (w := w) (a := da) (len := len) (cap := cap) (t := t) ht' .i64 (k : Int) (by omega) (by omega)
 rw [he, hs] at hr
 simp only [Result.andThen, Int.toNat_natCast] at hr
 have hlen := R.len_eq
 have hv : ∃ a', sliced da k len cap 2 = .slice a' (len - k) (cap - k) ∧ Kds w a' (len - k) (xs.drop k) := by
  unfold sliced
  by_cases c : cap = k
  ·rw [if_pos c]
   refine ⟨da, rfl, ?_⟩
   rw [show len - k = 0 by omega, List.drop_eq_nil_of_le (by omega)]
   exact kds_nil w da
  ·rw [if_neg c]
   refine ⟨_, rfl, by rw [List.length_drop, hlen], by have := R.le; omega, fun h => ?_⟩
   obtain ⟨b, off, rfl, hc⟩ := R.at_ (by omega)
   have hadd : (⟨b, off, none⟩ : Addr).add (k * 2) = ⟨b, off + k * 2, none⟩ := by unfold Addr.add; split <;> simp_all
   refine ⟨b, off + k * 2, by rw [Option.map_some, hadd], fun j x hj => ?_⟩
   rw [List.getElem?_drop] at hj
   have z := hc (k + j) x hj
   rw [show off + k * 2 + j * 2 = off + (k + j) * 2 by omega]
   exact z
 obtain ⟨a', hv, h3⟩ := hv
 rw [hv] at hr
 unfold Oper.wp
 simp [execOp, ho, hx, hl, hr, Result.andThen, run_sliceAt_slice (P := P) (w := w) t _ _ _ _ ht']
 exact hK' _ _ (hk _ h3)
theorem wpList_highK {P : Program} {w : World} {ops : Array Oper} {rest : List Oper} {o : Oper} {a : Act} {Q : Exit → Act → World → Prop} (hg : o.guard = none) (x l : Operand) (t : TypeId)
  (ho : o.op = .slice t x none (some l) none) (ht : P.underlying t = some (.slice 47)) (i : TypeInfo) (hi : P.info? 47 = some i) (hsz : i.size = 2)
  (da : Option Addr) (len cap k : Nat) (K : Int) (hx : a.eval x = .slice da len cap) (hl : a.eval l = .int .i64 K) (hK : K = (k : Int)) (h1 : k ≤ cap)
  (hk : wpList P ops Q rest (a.put o.dst (.slice da k cap)) w) : wpList P ops Q (o :: rest) a w := by
 refine wpList_plain hg fun K' hK' => ?_
 have he : P.elem t = 47 := by simp [Program.elem, ht]
 have ht' : P.underlying t = some (.slice (P.elem t)) := by rw [he]; exact ht
 have hs : (sizeOf 47).run P w = .ok 2 w := by rw [run_sizeOf w hi]; simp [Program.cellsOf, hi, hsz]
 subst hK
 have hr := run_slice_h (P := P) (w := w) (a := da) (len := len) (cap := cap) (t := t) ht' .i64 (k : Int) (by omega) (by omega)
 rw [he, hs] at hr
 simp only [Result.andThen, Int.toNat_natCast] at hr
 have hv : sliced da 0 k cap 2 = .slice da k cap := by
  unfold sliced
  have e : da.map (·.add (0 * 2)) = da := by
   cases da with
   | none => rfl
   | some p => simp [Addr.add]
  rw [e]
  split <;> simp
 rw [hv] at hr
 unfold Oper.wp
 simp [execOp, ho, hx, hl, hr, Result.andThen, run_sliceAt_slice (P := P) (w := w) t _ _ _ _ ht']
 exact hK' _ _ hk
theorem lowK_here {P : Program} {w : World} {ops : Array Oper} {rest : List Oper} {a : Act} {Q : Exit → Act → World → Prop} {dst : Option Nat} {t : TypeId} {x l : Operand} {type : TypeId} {pos : String} {after : Array Edge} {guard : Option (Nat × Bool)}
  (k : wpList P ops Q (⟨dst, .slice t x (some l) none none, type, pos, after, guard⟩ :: rest) a w) : wpList P ops Q (⟨dst, .slice t x (some l) none none, type, pos, after, guard⟩ :: rest) a w := k
theorem highK_here {P : Program} {w : World} {ops : Array Oper} {rest : List Oper} {a : Act} {Q : Exit → Act → World → Prop} {dst : Option Nat} {t : TypeId} {x l : Operand} {type : TypeId} {pos : String} {after : Array Edge} {guard : Option (Nat × Bool)}
  (k : wpList P ops Q (⟨dst, .slice t x none (some l) none, type, pos, after, guard⟩ :: rest) a w) : wpList P ops Q (⟨dst, .slice t x none (some l) none, type, pos, after, guard⟩ :: rest) a w := k
theorem kds_take {w : World} {a : Option Addr} {n m : Nat} {l : List Kd} (h : Kds w a n l) (hm : m ≤ n) : Kds w a m (l.take m) :=
 ⟨by rw [List.length_take, h.len_eq]; omega, Nat.le_trans hm h.le, fun h0 => by
  obtain ⟨b, off, e, k⟩ := h.at_ (by omega)
  exact ⟨b, off, e, fun i K hK => k i K (by rw [List.getElem?_take] at hK; split at hK; exact hK; cases hK)⟩⟩
theorem kds_src {w : World} {ad : Addr} {n : Nat} {l : List Kd} (h : Kds w (some ad) n l) : ∀ j u, (l.flatMap kdc)[j]? = some u → w.cell? (ad.add j) = some u := by
 intro j u hj
 have hlen : j < l.length * 2 := by
  rcases Nat.lt_or_ge j (l.length * 2) with k | k
  ·exact k
  ·rw [List.getElem?_eq_none (by rw [flat_len kdc 2 kdc_len]; exact k)] at hj; cases hj
 have hn := h.len_eq
 obtain ⟨b, off, e, k⟩ := h.at_ (by omega)
 injection e with e
 subst e
 obtain ⟨x, hx⟩ : ∃ x, l[j / 2]? = some x := ⟨_, List.getElem?_eq_getElem (by omega)⟩
 have hf := flat_at kdc 2 kdc_len l (j / 2) (j % 2) x hx (Nat.mod_lt _ (by decide))
 rw [show j / 2 * 2 + j % 2 = j by omega, hj] at hf
 have z := k (j / 2) x hx
 have hadd : (⟨b, off, none⟩ : Addr).add j = ⟨b, off + j, none⟩ := by unfold Addr.add; split <;> simp_all
 rw [hadd]
 rcases Nat.mod_two_eq_zero_or_one j with e | e
 ·rw [e] at hf
  rw [show off + j = off + j / 2 * 2 by omega, z.c0, hf]; rfl
 ·rw [e] at hf
  rw [show off + j = off + j / 2 * 2 + 1 by omega, z.c1, hf]; rfl
theorem kdc_one (l : List Kd) : ∀ u ∈ l.flatMap kdc, u.oneCell' = true := by
 intro u hu
 obtain ⟨x, -, hx⟩ := List.mem_flatMap.1 hu
 unfold kdc at hx
 simp at hx
 rcases hx with rfl | rfl <;> rfl
theorem eqlnilK (p : Addr) (n c : Nat) (W : World) : (binOp .eql 41 (.slice (some p) n c) (.slice none 0 0)).run Tryz.prog W = .ok (.bool false) W := by kernel_rfl
theorem eqlnilK0 (c : Nat) (W : World) : (binOp .eql 41 (.slice none 0 c) (.slice none 0 0)).run Tryz.prog W = .ok (.bool true) W := by kernel_rfl
def OwnK (base : Nat) (W : World) (a : Option Addr) (n : Nat) : Prop := 0 < n → ∃ (g : Nat) (cur : Array Value), a = some ⟨g, 0, none⟩ ∧ base ≤ g ∧ W.heap[g]? = some (.cells cur 47 (0, 0)) ∧ 2 * n ≤ cur.size
def RkPost2 (w : World) (A : List Kd × Int × Int) (e : Ending) (w' : World) : Prop := ∃ (a : Option Addr) (m c : Nat), e = .returned (.tuple #[.slice a m c, .int .i64 A.2.1, .int .i64 A.2.2]) ∧ w.grownBy w' none ∧ Kds w' a m A.1 ∧ OwnK w.heap.size w' a m
theorem ownK_zero (b : Nat) (W : World) (a : Option Addr) : OwnK b W a 0 := fun h => absurd h (Nat.lt_irrefl 0)
theorem ownK_of {W : World} {base n c : Nat} {a : Option Addr} {xs : List Value} (h : W.ownsRow base 47 2 (.slice a n c) n xs) : OwnK base W a n := by
 intro h0
 rcases h.2 with ⟨e, rfl⟩ | ⟨g, cap, cur, e, hb, hg, hc, hm, hs, ht⟩
 ·exact absurd h0 (Nat.lt_irrefl 0)
 ·injection e with e1 e2 e3
  exact ⟨g, cur, e1, hb, hg, by rw [hs]; omega⟩
theorem OwnK.low {b b' : Nat} {W : World} {a : Option Addr} {n : Nat} (h : OwnK b' W a n) (hb : b ≤ b') : OwnK b W a n := fun h0 => by
 obtain ⟨g, cur, e, k, r⟩ := h h0
 exact ⟨g, cur, e, Nat.le_trans hb k, r⟩
set_option maxHeartbeats 2000000 in
theorem pcloneK_own (a : Option Addr) (n c : Nat) (l : List Kd) (w : World) (R : Kds w a n l) (hn : n ≤ 100000) :
  Calls Tryz.prog 47 #[.slice a n c] w fun e w' => ∃ a' c', e = .returned (.slice a' n c') ∧ Kds w' a' n l ∧ OwnK w.heap.size w' a' n ∧ w.grownBy w' none := by
 obtain ⟨ik, hi, hz0, hz1, hz2⟩ := info_parts infoK
 cases a with
 | none =>
  obtain rfl : n = 0 := by
   rcases Nat.eq_zero_or_pos n with h | h
   ·exact h
   ·obtain ⟨_, _, e, _⟩ := R.at_ h; cases e
  obtain rfl : l = [] := List.eq_nil_of_length_eq_zero R.len_eq
  have hen := eqlnilK0 c
  go_enter Tryz.func47, Tryz.ntmps47
  go_wp2_with fail
  go_ret
  exact ⟨none, 0, rfl, kds_nil _ _, ownK_zero _ _ _, World.grownBy.refl _ _⟩
 | some p =>
  have O0 := World.ownsRow_made (base := w.heap.size) (e := 47) (size := 2) w #[] 0 (Nat.le_refl _) (Nat.zero_le _) (by simp)
  have R0 := R.grown (xga w (.cells #[] 47) none)
  have hen := eqlnilK p n c
  have HL : Hid _ := R.len_eq
  clear R
  go_enter Tryz.func47, Tryz.ntmps47
  go_wp2_with (at_builtin; refine wpList_append_own _ rfl _ _ 41 rfl w.heap.size 47 ik (.agg #[.string ⟨#[]⟩, .int .i64 0]) 2 24 Tryz.underlying41 hi hz0 hz1 hz2 rfl (by decide) _ 0 [] rfl O0 p n c (l.flatMap kdc) rfl (by rw [flat_len kdc 2 kdc_len, HL.out]) (kds_src R0) (kdc_one l) (by unfold maxLen; omega) (by omega) (by simp) ?_)
  intro v1 w1 o1 g1 _
  obtain ⟨a1, c1, rfl⟩ := own_shape o1
  have G1 : w.grownBy w1 none := grown_own (xga w (.cells #[] 47) none) O0 g1 (Nat.le_refl _)
  try rw [Nat.zero_add, List.nil_append] at o1
  have H1 : Hid _ := xai (own_kds o1 HL.out.symm) (xai (ownK_of o1) G1)
  clear O0 R0 o1 g1 G1
  go_wp2_with fail
  go_ret
  refine ⟨a1, c1, ?_, H1.out.1, H1.out.2.1, H1.out.2.2⟩
  first | rfl | (rw [Nat.zero_add]; rfl)
set_option maxHeartbeats 8000000 in
theorem preaddir_own (w : World) (mb : Nat) (a : Option Addr) (n c mp : Nat) (ns : List NoV) (h : Md w mb a n c mp ns) (i cur m : Int) (hkl : ∀ X ∈ ns, X.kids.length ≤ 100000) (hc : cur ≤ 9223372036854775807) :
  Calls Tryz.prog 21 #[.pointer (some ⟨mb, 0, none⟩), .int .i64 i, .int .i64 cur, .int .i64 m] w (RkPost2 w (rdr (nos ns) i cur m)) := by
 have hok := pofkind_any w mb a n c (.map (some mp)) ns h.box h.nos i 2 (by decide)
 have HM : Hid _ := xai h (xai hkl hc)
 clear h hkl hc
 obtain ⟨R, hR⟩ : ∃ R, R = rdr (nos ns) i cur m := ⟨_, rfl⟩
 rw [← hR]
 have HR : Hid _ := hR
 clear hR
 obtain ⟨ik, hi, hz0, hz1, hz2⟩ := info_parts infoK
 go_enter Tryz.func21, Tryz.ntmps21
 go_wp2_with fail
 refine hok.mono ?_
 clear hok
 rintro e W1 ⟨X, rfl, h0, h1, g1⟩
 have HX : Hid _ := xai h0 (xai h1 g1)
 clear h0 h1 g1
 by_cases hz : knd (nos ns) i 2 = 0
 ·obtain ⟨hd0, hX, -⟩ := HX.out.1 hz
  obtain ⟨j, rfl⟩ : ∃ j : Nat, i = (j : Int) := ⟨i.toNat, by omega⟩
  rw [Int.toNat_natCast] at hX
  have hl := rdr_at hX hz cur m
  rw [hz]
  have hmem := List.mem_of_getElem? hX
  have hcap := (HM.out.1.caps X hmem).2
  have hkl := HM.out.2.1 X hmem
  have hkd : Kds w X.ka X.kl X.kids := by
   have hj := (List.getElem?_eq_some_iff.1 hX).1
   obtain ⟨b, o, -, k⟩ := HM.out.1.nos.at_ (by rw [← HM.out.1.nos.len_eq]; omega)
   exact (k j X hX).ok.kds
  have HG1 : Hid _ := HX.out.2.2
  have HCU : Hid _ := HM.out.2.2
  obtain ⟨NK, mo, uid, gid, ti, sz_, da, dl, dc, data, tg, dev, aa, al, ac, attrs, ka, kl, kc, kids, pa, lk⟩ := X
  simp only [NoV.val]
  simp only at hl hcap hkl hkd
  rw [← HR.out] at hl
  have HL : Hid _ := hl
  have hlen : kids.length = kl := hkd.len_eq
  rw [hlen] at hkl
  clear hl hd0 hX HX hz HR hmem HM
  have gB := xga W1 (.cells #[.int .i64 NK, .int .i64 mo, .int .i64 uid, .int .i64 gid, .int .i64 ti, .int .i64 sz_, .slice da dl dc, .string tg, .int .i64 dev, .slice aa al ac, .slice ka kl kc, .int .i64 pa, .int .i64 lk] 43) none
  have bB := Bx.new W1 43 [.int .i64 NK, .int .i64 mo, .int .i64 uid, .int .i64 gid, .int .i64 ti, .int .i64 sz_, .slice da dl dc, .string tg, .int .i64 dev, .slice aa al ac, .slice ka kl kc, .int .i64 pa, .int .i64 lk]
  have v10 : _ = some _ := bB.c 10
  have HB : Hid _ := xai (xgt HG1.out gB) (xai (hkd.grown (xgt HG1.out gB)) hlen)
  clear gB bB hkd hlen HG1
  by_cases q1 : cur < 0
  ·have HV : Hid (R = ([], 0, 1)) := by show _ = _; rw [HL.out, if_pos (Or.inl q1)]
   clear HL
   go_wp2_with fail
   refine bodyPost_ret (v := .tuple #[.slice none 0 0, .int .i64 0, .int .i64 1]) (by simp [results, Tryz.f21, go_sem]) rfl ?_
   unfold RkPost2
   rw [HV.out]
   exact ⟨none, 0, 0, rfl, HB.out.1, kds_nil _ _, ownK_zero _ _ _⟩
  by_cases q2 : m < 0
  ·have HV : Hid (R = ([], 0, 1)) := by show _ = _; rw [HL.out, if_pos (Or.inr q2)]
   clear HL
   go_wp2_with fail
   refine bodyPost_ret (v := .tuple #[.slice none 0 0, .int .i64 0, .int .i64 1]) (by simp [results, Tryz.f21, go_sem]) rfl ?_
   unfold RkPost2
   rw [HV.out]
   exact ⟨none, 0, 0, rfl, HB.out.1, kds_nil _ _, ownK_zero _ _ _⟩
  obtain ⟨k, hk⟩ : ∃ k : Nat, min cur (kl : Int) = (k : Int) := ⟨(min cur (kl : Int)).toNat, by omega⟩
  have hkk : k ≤ kl := by omega
  obtain ⟨t, ht⟩ : ∃ t : Nat, min m ((kl - k : Nat) : Int) = (t : Int) := ⟨(min m ((kl - k : Nat) : Int)).toNat, by omega⟩
  have htk : t ≤ kl - k := by omega
  have hl1 : (kids.drop k).take t = (kids.drop cur.toNat).take m.toNat := by
   rcases Nat.le_total cur.toNat kl with h | h
   ·have e1 : k = cur.toNat := by omega
    rw [e1] at ht htk ⊢
    have e2 : t = min m.toNat (kids.drop cur.toNat).length := by rw [List.length_drop, HB.out.2.2]; omega
    rw [e2]
    rcases Nat.le_total m.toNat (kids.drop cur.toNat).length with h3 | h3
    ·rw [Nat.min_eq_left h3]
    ·rw [Nat.min_eq_right h3, List.take_length, List.take_of_length_le h3]
   ·rw [List.drop_eq_nil_of_le (by rw [HB.out.2.2]; omega), List.drop_eq_nil_of_le (by rw [HB.out.2.2]; omega), List.take_nil, List.take_nil]
  have hl2 : ((kids.drop k).take t).length = t := by rw [List.length_take, List.length_drop, HB.out.2.2]; omega
  have HV : Hid (R = ((kids.drop k).take t, cur + (t : Int), 0)) := by
   show _ = _
   rw [HL.out, if_neg (by omega), ← hl1, hl2]
  have hwr : wrap64 (cur + (t : Int)) = cur + (t : Int) := by
   have h3 := HCU.out
   unfold wrap64
   rcases Int.lt_or_le cur (kl : Int) with h | h
   ·omega
   ·have : t = 0 := by omega
    subst this
    omega
  have HK : Hid _ := xai hkk (xai htk hcap)
  clear HL hl1 hl2 q1 q2 hkk htk hcap
  have q1 : ¬ cur < 0 := by omega
  have q2 : ¬ m < 0 := by omega
  go_wp2_with (first
   | ((with_reducible refine lowK_here ?_); refine wpList_lowK rfl _ _ 41 rfl Tryz.underlying41 ik hi hz1 ka kl kc k _ rfl rfl rfl HK.out.1 HK.out.2.2 kids HB.out.2.1 ?_; intro a' HA)
   | ((with_reducible refine highK_here ?_); refine wpList_highK rfl _ _ 41 rfl Tryz.underlying41 ik hi hz1 a' (kl - k) (kc - k) t _ rfl rfl rfl (by have h1 := HK.out; omega) ?_)
   | fail)
  refine (pcloneK_own a' t (kc - k) ((kids.drop k).take t) _ (kds_take HA.out HK.out.2.1) (by have h1 := HK.out; omega)).mono ?_
  rintro e W2 ⟨a2, c2, rfl, hk2, ho2, g2⟩
  have H2 : Hid _ := xai hk2 (xai (ho2.low HB.out.1.size) (xgt HB.out.1 g2))
  clear hk2 ho2 g2 HA HB
  go_wp2_with fail
  refine bodyPost_ret (v := .tuple #[.slice a2 t c2, .int .i64 (cur + (t : Int)), .int .i64 0]) (by simp [results, Tryz.f21, go_sem, hwr]) rfl ?_
  unfold RkPost2
  rw [HV.out]
  exact ⟨a2, t, c2, rfl, H2.out.2.2, H2.out.1, H2.out.2.1⟩
 ·have hl := rdr_bad (cur := cur) (n := m) hz
  rw [← HR.out] at hl
  have HL : Hid _ := hl
  obtain rfl := HX.out.2.1 hz
  have HG1 : Hid _ := HX.out.2.2
  clear HX hl HR
  generalize knd (nos ns) i 2 = K at *
  have hzb : (K == 0) = false := by rw [beq_eq_false_iff_ne]; exact hz
  have hzb2 : (K != 0) = true := by simp [hz]
  simp only [NoV.val, nz12]
  go_wp2_with fail
  refine bodyPost_ret (v := .tuple #[.slice none 0 0, .int .i64 0, .int .i64 K]) (by simp [results, Tryz.f21, go_sem]) rfl ?_
  unfold RkPost2
  rw [HL.out]
  exact ⟨none, 0, 0, rfl, xgt HG1.out (xga _ _ none), kds_nil _ _, ownK_zero _ _ _⟩
end Go.Proofs.YtlehncfehoelbaaGreatDoor
