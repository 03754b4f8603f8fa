/- A model is kept where other blocks are written; a tree's rows that may. -/
import Derived.Lib.SlBytesConst
import Derived.Test.YtlehncfehoelbaaGreatDoorCq08
import Derived.Test.YtlehncfehoelbaaGreatDoorCq14
import Derived.Test.YtlehncfehoelbaaGreatDoorCq29
namespace Go.Proofs.YtlehncfehoelbaaGreatDoor
open Go.RowKit
set_option maxRecDepth 100000
set_option linter.unusedSimpArgs false
set_option linter.unusedVariables false
def inA (lo hi : Nat) (a : Option Addr) (n : Nat) : Prop := 0 < n → ∃ g o, a = some ⟨g, o, none⟩ ∧ lo ≤ g ∧ g < hi
structure NoIn (lo hi : Nat) (X : NoV) : Prop where
 data : inA lo hi X.da X.dl
 ats : inA lo hi X.aa X.al
 vals : ∀ A ∈ X.attrs, inA lo hi A.a A.len
 kids : inA lo hi X.ka X.kl
theorem inA_ne {lo hi r b o n : Nat} {a : Option Addr} (h : inA lo hi a n) (h0 : 0 < n) (e : a = some ⟨b, o, none⟩) (hr : r < lo ∨ hi ≤ r) : b ≠ r := by
 obtain ⟨g, o', e', h1, h2⟩ := h h0
 rw [e] at e'
 injection e' with e'
 injection e' with e1
 omega
theorem Row.out {W W' : World} {lo hi r n : Nat} {a : Option Addr} {xs : List Int} (h : Row W a n xs) (hi' : inA lo hi a n) (g : W.grownBy W' (some r)) (hr : r < lo ∨ hi ≤ r) : Row W' a n xs :=
 ⟨h.len_eq, h.le, h.byt, fun h0 => by
  obtain ⟨b, off, e, k⟩ := h.cells h0
  exact ⟨b, off, e, fun i hi => cell_but12 g (k i hi) (inA_ne hi' h0 e hr)⟩⟩
theorem Nos.out {W W' : World} {lo hi r n : Nat} {a : Option Addr} {ns : List NoV} (h : Nos W a n ns) (ha : inA lo hi a n) (hx : ∀ X ∈ ns, NoIn lo hi X) (g : W.grownBy W' (some r)) (hr : r < lo ∨ hi ≤ r) : Nos W' a n ns :=
 ⟨h.len_eq, h.le, fun h0 => by
  obtain ⟨b, off, e, k⟩ := h.at_ h0
  refine ⟨b, off, e, fun i X hX => ?_⟩
  have q := k i X hX
  have hne : b ≠ r := inA_ne ha h0 e hr
  have hI := hx X (List.mem_of_getElem? hX)
  refine ⟨cell_but12 g q.c0 hne, cell_but12 g q.c1 hne, cell_but12 g q.c2 hne, cell_but12 g q.c3 hne, cell_but12 g q.c4 hne, cell_but12 g q.c5 hne, cell_but12 g q.c6 hne, cell_but12 g q.c7 hne, cell_but12 g q.c8 hne, cell_but12 g q.c9 hne, cell_but12 g q.c10 hne, cell_but12 g q.c11 hne, cell_but12 g q.c12 hne, q.ok.row.out hI.data g hr, ?_, ?_⟩
  ·exact ⟨q.ok.ats.len_eq, q.ok.ats.le, fun h1 => by
    obtain ⟨b2, o2, e2, k2⟩ := q.ok.ats.at_ h1
    refine ⟨b2, o2, e2, fun j A hA => ?_⟩
    have z := k2 j A hA
    have hz : b2 ≠ r := inA_ne hI.ats h1 e2 hr
    exact ⟨cell_but12 g z.c0 hz, cell_but12 g z.c1 hz, z.row.out (hI.vals A (List.mem_of_getElem? hA)) g hr, z.cap⟩⟩
  ·exact ⟨q.ok.kds.len_eq, q.ok.kds.le, fun h1 => by
    obtain ⟨b2, o2, e2, k2⟩ := q.ok.kds.at_ h1
    refine ⟨b2, o2, e2, fun j A hA => ?_⟩
    have z := k2 j A hA
    have hz : b2 ≠ r := inA_ne hI.kids h1 e2 hr
    exact ⟨cell_but12 g z.c0 hz, cell_but12 g z.c1 hz⟩⟩⟩
structure MdIn (lo hi : Nat) (mb : Nat) (a : Option Addr) (n mp : Nat) (ns : List NoV) : Prop where
 mb : lo ≤ mb ∧ mb < hi
 mp : lo ≤ mp ∧ mp < hi
 row : inA lo hi a n
 each : ∀ X ∈ ns, NoIn lo hi X
theorem Md.out {W W' : World} {lo hi r mb : Nat} {a : Option Addr} {n c mp : Nat} {ns : List NoV} (h : Md W mb a n c mp ns) (hm : MdIn lo hi mb a n mp ns) (g : W.grownBy W' (some r)) (hr : r < lo ∨ hi ≤ r) : Md W' mb a n c mp ns := by
 obtain ⟨m, f, h3, h4⟩ := h.map
 have h1 := hm.mb
 have h2 := hm.mp
 exact ⟨h.box.but g (by intro e; injection e with e; omega), h.nos.out hm.row hm.each g hr, h.caps, m, f, h3.kept g (by intro e; injection e with e; omega), h4⟩
theorem in_row {W : World} {lo n : Nat} {a : Option Addr} {xs : List Int} (h : newA lo a n) (R : Row W a n xs) : inA lo W.heap.size a n := fun h0 => by
 obtain ⟨g, o, e, k⟩ := h h0
 obtain ⟨b, off, e2, hc⟩ := R.cells h0
 rw [e] at e2
 injection e2 with e2
 injection e2 with e3 e4
 subst e3 e4
 exact ⟨g, o, e, k, cell_lt (hc 0 h0)⟩
theorem md_in {W : World} {lo mb : Nat} {a : Option Addr} {n c mp : Nat} {ns : List NoV} (h : Md W mb a n c mp ns) (h1 : lo ≤ mb) (h2 : lo ≤ mp) (h3 : newA lo a n) (h4 : ∀ X ∈ ns, NoFr lo X) : MdIn lo W.heap.size mb a n mp ns := by
 obtain ⟨m, f, h5, h6⟩ := h.map
 refine ⟨⟨h1, h.box.lt⟩, ⟨h2, h5.lt⟩, fun h0 => ?_, fun X hX => ?_⟩
 ·obtain ⟨g, o, e, k⟩ := h3 h0
  obtain ⟨b, off, e2, hc⟩ := h.nos.at_ h0
  rw [e] at e2
  injection e2 with e2
  injection e2 with e3 e4
  subst e3 e4
  obtain ⟨X, hX⟩ : ∃ X, ns[0]? = some X := ⟨_, List.getElem?_eq_getElem (by rw [h.nos.len_eq]; exact h0)⟩
  exact ⟨g, o, e, k, cell_lt (hc 0 X hX).c0⟩
 ·obtain ⟨i, hi⟩ := List.mem_iff_getElem?.1 hX
  have hil := (List.getElem?_eq_some_iff.1 hi).1
  obtain ⟨b, off, -, hc⟩ := h.nos.at_ (by rw [← h.nos.len_eq]; omega)
  have q := (hc i X hi).ok
  have hf := h4 X hX
  refine ⟨in_row hf.data q.row, fun h0 => ?_, fun A hA => ?_, fun h0 => ?_⟩
  ·obtain ⟨g, o, e, k⟩ := hf.ats h0
   obtain ⟨b, off, e2, hc⟩ := q.ats.at_ h0
   rw [e] at e2
   injection e2 with e2
   injection e2 with e3 e4
   subst e3 e4
   obtain ⟨A, hA⟩ : ∃ A, X.attrs[0]? = some A := ⟨_, List.getElem?_eq_getElem (by rw [q.ats.len_eq]; exact h0)⟩
   exact ⟨g, o, e, k, cell_lt (hc 0 A hA).c0⟩
  ·obtain ⟨j, hj⟩ := List.mem_iff_getElem?.1 hA
   have hjl := (List.getElem?_eq_some_iff.1 hj).1
   obtain ⟨b, off, -, hc⟩ := q.ats.at_ (by rw [← q.ats.len_eq]; omega)
   exact in_row (hf.vals A hA) (hc j A hj).row
  ·obtain ⟨g, o, e, k⟩ := hf.kids h0
   obtain ⟨b, off, e2, hc⟩ := q.kds.at_ h0
   rw [e] at e2
   injection e2 with e2
   injection e2 with e3 e4
   subst e3 e4
   obtain ⟨A, hA⟩ : ∃ A, X.kids[0]? = some A := ⟨_, List.getElem?_eq_getElem (by rw [q.kds.len_eq]; exact h0)⟩
   exact ⟨g, o, e, k, cell_lt (hc 0 A hA).c0⟩
structure Cw (lo hi : Nat) (W : World) (b : Option Addr) (n : Nat) (ns : List NoV) : Prop where
 len : ns.length = n
 row : 0 < n → ∃ (g : Nat) (cur : Array Value), b = some ⟨g, 0, none⟩ ∧ lo ≤ g ∧ g < hi ∧ W.heap[g]? = some (.cells cur 43 (0, 0)) ∧ 13 * n ≤ cur.size ∧ ∀ (i : Nat) (X : NoV), ns[i]? = some X → cur[i * 13 + 10]? = some (.slice X.ka X.kl X.kc)
 kid : ∀ X ∈ ns, 0 < X.kl → ∃ (g : Nat) (cur : Array Value), X.ka = some ⟨g, 0, none⟩ ∧ lo ≤ g ∧ g < hi ∧ W.heap[g]? = some (.cells cur 47 (0, 0)) ∧ 2 * X.kl ≤ cur.size
theorem cw_of {w W : World} {base n c : Nat} {b : Option Addr} {ns : List NoV} (h : Td w W base (.slice b n c) ns) (hn : ns.length = n) : Cw base W.heap.size W b n ns := by
 refine ⟨hn, fun h0 => ?_, fun X hX h0 => ?_⟩
 ·rcases h.own.2 with ⟨e, h1⟩ | ⟨g, cap, cur, e, hb, hg, hc, hm, hs, ht⟩
  ·rw [hn] at h1; omega
  ·injection e with e1 e2 e3
   refine ⟨g, cur, e1, hb, (Array.getElem?_eq_some_iff.1 hg).1, hg, by rw [hs]; omega, fun i X hX => ?_⟩
   have hf := flat_at nvc 13 nvc_len ns i 10 X hX (by decide)
   have hil := (List.getElem?_eq_some_iff.1 hX).1
   rw [← ht, List.getElem?_take, if_pos (by omega), Array.getElem?_toList] at hf
   exact hf
 ·obtain ⟨i, hi⟩ := List.mem_iff_getElem?.1 hX
  obtain ⟨g, cur, e1, e2, e3, e4⟩ := ownK_of (h.each i X hi).kid h0
  exact ⟨g, cur, e1, e2, (Array.getElem?_eq_some_iff.1 e3).1, e3, e4⟩
theorem Cw.kept {lo hi : Nat} {W W' : World} {b : Option Addr} {n : Nat} {ns : List NoV} (h : Cw lo hi W b n ns) (hh : hi ≤ W.heap.size) (g : W.grownBy W' none) : Cw lo hi W' b n ns :=
 ⟨h.len, fun h0 => by
  obtain ⟨q, cur, e1, e2, e3, e4, r⟩ := h.row h0
  exact ⟨q, cur, e1, e2, e3, by rw [g.block q (by omega) (by simp)]; exact e4, r⟩, fun X hX h0 => by
  obtain ⟨q, cur, e1, e2, e3, e4, r⟩ := h.kid X hX h0
  exact ⟨q, cur, e1, e2, e3, by rw [g.block q (by omega) (by simp)]; exact e4, r⟩⟩
theorem heap_put {W : World} {g i : Nat} {cur : Array Value} {T : TypeId} (h : W.heap[g]? = some (.cells cur T (0, 0))) (v : Value) : ∃ cur' : Array Value, (W.setCell ⟨g, i, none⟩ v).heap[g]? = some (.cells cur' T (0, 0)) ∧ cur'.size = cur.size ∧ ∀ j, j ≠ i → cur'[j]? = cur[j]? := by
 rw [setCell_eq_setRow W g i _ _ _ _ h, setRow_heap W g _ _ _ _ h]
 exact ⟨_, rfl, by simp, fun j hj => by rw [Array.getElem?_setIfInBounds, if_neg (fun e => hj e.symm)]⟩
theorem heap_cell {W : World} {g i : Nat} {cur : Array Value} {T : TypeId} (h : W.heap[g]? = some (.cells cur T (0, 0))) : W.cell? ⟨g, i, none⟩ = cur[i]? ∧ W.frozen? ⟨g, i, none⟩ = false := ⟨by simp [World.cell?, h], by simp [World.frozen?, h]⟩
theorem heap_ne {W : World} {g q : Nat} {c1 c2 : Array Value} {T1 T2 : TypeId} (h1 : W.heap[g]? = some (.cells c1 T1 (0, 0))) (h2 : W.heap[q]? = some (.cells c2 T2 (0, 0))) (h : T1 ≠ T2) : g ≠ q := fun e => by
 subst e
 rw [h1] at h2
 injection h2 with h2
 injection h2 with _ h3
 exact h h3
theorem Cw.links {lo hi : Nat} {W : World} {g n i : Nat} {ns : List NoV} (h : Cw lo hi W (some ⟨g, 0, none⟩) n ns) (h0 : 0 < n) (v : Value) : Cw lo hi (W.setCell ⟨g, i * 13 + 12, none⟩ v) (some ⟨g, 0, none⟩) n ns := by
 obtain ⟨q, cur, e1, e2, e3, e4, e5, e6⟩ := h.row h0
 injection e1 with e1
 injection e1 with e1
 subst e1
 have hg := grown_set W g (i * 13 + 12) v
 refine ⟨h.len, fun _ => ?_, fun X hX hk => ?_⟩
 ·obtain ⟨cur', k1, k2, k3⟩ := heap_put (i := i * 13 + 12) e4 v
  exact ⟨g, cur', rfl, e2, e3, k1, by omega, fun j X hX => by rw [k3 _ (by omega)]; exact e6 j X hX⟩
 ·obtain ⟨p, c2, f1, f2, f3, f4, f5⟩ := h.kid X hX hk
  have hne := heap_ne e4 f4 (by decide)
  exact ⟨p, c2, f1, f2, f3, by rw [hg.block p (Array.getElem?_eq_some_iff.1 f4).1 (by intro e; injection e with e; exact hne e.symm)]; exact f4, f5⟩
theorem Cw.name {lo hi : Nat} {W : World} {b : Option Addr} {p n i : Nat} {ns : List NoV} {cp : Array Value} (h : Cw lo hi W b n ns) (hp : W.heap[p]? = some (.cells cp 47 (0, 0))) (v : Value) : Cw lo hi (W.setCell ⟨p, i, none⟩ v) b n ns := by
 have hg := grown_set W p i v
 refine ⟨h.len, fun h0 => ?_, fun X hX hk => ?_⟩
 ·obtain ⟨q, cur, e1, e2, e3, e4, e5, e6⟩ := h.row h0
  have hne := heap_ne e4 hp (by decide)
  exact ⟨q, cur, e1, e2, e3, by rw [hg.block q (Array.getElem?_eq_some_iff.1 e4).1 (by intro e; injection e with e; exact hne e)]; exact e4, e5, e6⟩
 ·obtain ⟨q, c2, f1, f2, f3, f4, f5⟩ := h.kid X hX hk
  by_cases e : q = p
  ·subst e
   obtain ⟨cur', k1, k2, k3⟩ := heap_put (i := i) f4 v
   exact ⟨q, cur', f1, f2, f3, k1, by omega⟩
  ·exact ⟨q, c2, f1, f2, f3, by rw [hg.block q (Array.getElem?_eq_some_iff.1 f4).1 (by intro k; injection k with k; exact e k)]; exact f4, f5⟩
structure Om (w W : World) (lo hi lm hm gt mb : Nat) (a1 : Option Addr) (n1 c1 mp : Nat) (ns2 : List NoV) (b5 : Option Addr) (n5 c5 : Nat) (ns : List NoV) : Prop where
 gw : w.grownBy W none
 md : Md W mb a1 n1 c1 mp ns2
 mi : MdIn lm hm mb a1 n1 mp ns2
 cw : Cw lo hi W b5 n5 ns
 bx : Bx W gt 33 [.slice b5 n5 c5]
 l1 : w.heap.size ≤ lo
 l2 : hi ≤ gt
 l3 : gt < lm
theorem Om.kept {w W W' : World} {lo hi lm hm gt mb : Nat} {a1 : Option Addr} {n1 c1 mp : Nat} {ns2 : List NoV} {b5 : Option Addr} {n5 c5 : Nat} {ns : List NoV} (h : Om w W lo hi lm hm gt mb a1 n1 c1 mp ns2 b5 n5 c5 ns) (g : W.grownBy W' none) : Om w W' lo hi lm hm gt mb a1 n1 c1 mp ns2 b5 n5 c5 ns :=
 ⟨xgt h.gw g, h.md.kept g, h.mi, h.cw.kept (by have := h.bx.lt; have := h.l2; omega) g, h.bx.kept g, h.l1, h.l2, h.l3⟩
theorem Om.put {w W : World} {lo hi lm hm gt mb r o : Nat} {a1 : Option Addr} {n1 c1 mp : Nat} {ns2 : List NoV} {b5 : Option Addr} {n5 c5 : Nat} {ns : List NoV} {v : Value} (h : Om w W lo hi lm hm gt mb a1 n1 c1 mp ns2 b5 n5 c5 ns) (hr : lo ≤ r ∧ r < hi) (hc : Cw lo hi (W.setCell ⟨r, o, none⟩ v) b5 n5 ns) : Om w (W.setCell ⟨r, o, none⟩ v) lo hi lm hm gt mb a1 n1 c1 mp ns2 b5 n5 c5 ns := by
 have g := grown_set W r o v
 have h1 := h.l1
 have h2 := h.l2
 have h3 := h.l3
 exact ⟨grown_new h.gw g (by omega), h.md.out h.mi g (Or.inl (by omega)), h.mi, hc, h.bx.but g (by intro e; injection e with e; omega), h.l1, h.l2, h.l3⟩
theorem take_snocK {l : List Kd} {k : Nat} {x : Kd} (h : l[k]? = some x) : (l.take (k + 1)).flatMap kdc = (l.take k).flatMap kdc ++ [.string (tx x.n), .int .i64 x.i] := by
 rw [List.take_add_one, h, List.flatMap_append]
 simp [kdc]
theorem cell_kid_new (w : World) (t : TypeId) (x y : Value) : ∀ j u, ([x, y])[j]? = some u → (w.alloc (.cells #[x, y] t)).cell? ((⟨w.heap.size, 0, none⟩ : Addr).add j) = some u := by
 intro j u h
 have b := Bx.new w t [x, y]
 have hadd : (⟨w.heap.size, 0, none⟩ : Addr).add j = ⟨w.heap.size, 0 + j, none⟩ := by unfold Addr.add; split <;> simp_all
 rw [hadd, Nat.zero_add, b.c j]
 exact h
theorem wrap_id12 {z : Int} (h0 : 0 ≤ z) (h1 : z ≤ 9223372036854775807) : wrap64 z = z := by
 unfold wrap64
 omega
theorem kds_of12 {w : World} {base t n m : Nat} {a : Option Addr} {c : Nat} {l : List Kd} (h : w.ownsRow base t 2 (.slice a n c) m (l.flatMap kdc)) (hn : n = l.length) : Kds w a n l := by
 have hm : m = n := by
  have h1 := h.1
  rw [flat_len kdc 2 kdc_len] at h1
  omega
 subst hm
 exact own_kds h hn
set_option maxHeartbeats 8000000 in
theorem rreaddir_any (w : World) (a : Option Addr) (n c : Nat) (ns : List NoV) (hN : Nos w a n ns) (i cur m : Int) (hkl : ∀ X ∈ ns, X.kids.length ≤ 100000) (hc : cur ≤ 9223372036854775807) :
  Calls Tryz.prog 25 #[.agg #[.slice a n c], .int .i64 i, .int .i64 cur, .int .i64 m] w (RkPost w (rdr (nos ns) i cur m)) := by
 have gA := xga w (.cells #[.slice a n c] 33) none
 have bA := Bx.new w 33 [.slice a n c]
 have hok := rkind_any _ a n c ns (hN.grown gA) i 2
 have t0 : _ = some _ := bA.c 0
 have HM : Hid _ := xai (hN.grown gA) (xai bA (xai gA (xai hkl hc)))
 clear hN bA gA hkl hc
 obtain ⟨R, hR⟩ : ∃ R, R = rdr (nos ns) i cur m := ⟨_, rfl⟩
 rw [← hR]
 have HR : Hid _ := hR
 clear hR
 obtain ⟨ik, hi, hz0, hz1, hz2⟩ := info_parts infoK
 go_enter Tryz.func25, Tryz.ntmps25
 go_wp2_with fail
 generalize hWA : w.alloc (.cells #[.slice a n c] 33) = WA at *
 clear hWA
 refine hok.mono ?_
 clear hok
 rintro e WB ⟨rfl, g1⟩
 have HG1 : Hid _ := xai (xgt HM.out.2.2.1 g1) (xai (HM.out.1.grown g1) (xai (HM.out.2.1.kept g1) HM.out.2.2.2))
 clear g1 HM t0
 have t0 : _ = some _ := HG1.out.2.2.1.c 0
 by_cases hz : knd (nos ns) i 2 = 0
 ·obtain ⟨j, X, rfl, hX, -⟩ := knd_zero hz
  have hl := rdr_at hX hz cur m
  rw [hz]
  rw [← HR.out] at hl
  have HL : Hid _ := hl
  have hj : j < n := by rw [← HG1.out.2.1.len_eq]; exact (List.getElem?_eq_some_iff.1 hX).1
  obtain ⟨b, o0, rfl, hat⟩ := HG1.out.2.1.at_ (by omega)
  have y10 := (hat j X hX).c10
  have hkd := (hat j X hX).ok.kds
  have hkl := HG1.out.2.2.2.1 X (List.mem_of_getElem? hX)
  have hcu := HG1.out.2.2.2.2
  obtain ⟨NK, mo, uid, gid, ti, sz_, da, dl, dc, data, tg, dev, aa, al, ac, attrs, ka, kl, kc, kids, pa, lk⟩ := X
  simp only at y10 hkd hkl HL
  have h2 : (j : Int) < (n : Int) := by omega
  have hlen : kids.length = kl := hkd.len_eq
  rw [hlen] at hkl
  have HB : Hid _ := xai HG1.out.1 (xai hkd hlen)
  have HCK : Hid _ := xai hkl hcu
  clear hl hz HR hat hX hkd HG1 hj hkl hcu hlen
  by_cases q1 : cur < 0
  ·have HV : Hid (R = ([], 0, 1)) := by show _ = _; rw [HL.out, if_pos (Or.inl q1)]
   clear HL
   go_wp2_with fail
   refine bodyPost_ret (v := .tuple #[.slice none 0 0, .int .i64 0, .int .i64 1]) (by simp [results, Tryz.f25, go_sem]) rfl ?_
   unfold RkPost
   rw [HV.out]
   exact ⟨none, 0, 0, rfl, HB.out.1, kds_nil _ _⟩
  by_cases q2 : m < 0
  ·have HV : Hid (R = ([], 0, 1)) := by show _ = _; rw [HL.out, if_pos (Or.inr q2)]
   clear HL
   go_wp2_with fail
   refine bodyPost_ret (v := .tuple #[.slice none 0 0, .int .i64 0, .int .i64 1]) (by simp [results, Tryz.f25, go_sem]) rfl ?_
   unfold RkPost
   rw [HV.out]
   exact ⟨none, 0, 0, rfl, HB.out.1, kds_nil _ _⟩
  obtain ⟨f, rfl⟩ : ∃ f : Nat, cur = (f : Int) := ⟨cur.toNat, by omega⟩
  obtain ⟨mm, rfl⟩ : ∃ mm : Nat, m = (mm : Int) := ⟨m.toNat, by omega⟩
  rw [Int.toNat_natCast, Int.toNat_natCast] at HL
  have HV : Hid (R = ((kids.drop f).take mm, (f : Int) + (((kids.drop f).take mm).length : Nat), 0)) := by show _ = _; rw [HL.out, if_neg (by omega)]
  obtain ⟨tt, htt⟩ : ∃ tt, tt = ((kids.drop f).take mm).length := ⟨_, rfl⟩
  have htl : tt = min mm (kl - f) := by rw [htt, List.length_take, List.length_drop, HB.out.2.2]
  rw [← htt] at HV
  have HT : Hid _ := xai htt (xai htl HCK.out)
  clear HL htt htl q1 q2
  have q1 : ¬ (f : Int) < 0 := by omega
  have q2 : ¬ (mm : Int) < 0 := by omega
  go_wp2_with fail
  go_loopw [12, 14] (fun v12 v14 wr => ∃ (k q : Nat) (va : Option Addr) (vc : Nat), v14 = .int .i64 q ∧ v12 = .slice va k vc ∧ Hid ((k ≤ tt ∧ q = f + k) ∧ wr.ownsRow WB.heap.size 47 2 (.slice va k vc) k (((kids.drop f).take k).flatMap kdc) ∧ WB.grownBy wr none)) (fun v12 _ _ => tt - (match v12 with | .slice _ k _ => k | _ => 0))
  case atStart => exact ⟨0, f, none, 0, rfl, rfl, ⟨Nat.zero_le _, rfl⟩, by rw [List.take_zero]; exact World.ownsRow_nil _ _ _ _, World.grownBy.refl _ _⟩
  case round =>
   obtain ⟨k, q, va, vc, rfl, rfl, HK⟩ := hrel
   by_cases hlt : k < tt
   ·obtain ⟨-, e2, e3, -⟩ := HT.out
    have hq := HK.out.1.2
    have hqk : q < kl ∧ k < mm ∧ tt ≤ 100000 ∧ 0 < kl := by omega
    clear e2 e3
    obtain ⟨hqk1, hqk2, hqk3, hqk4⟩ := hqk
    obtain ⟨b2, o2, rfl, hat2⟩ := HB.out.2.1.at_ hqk4
    obtain ⟨x, hx⟩ : ∃ x, kids[q]? = some x := ⟨_, List.getElem?_eq_getElem (by rw [HB.out.2.2]; exact hqk1)⟩
    have z0 := cell_grown (hat2 q x hx).c0 HK.out.2.2
    have z1 := cell_grown (hat2 q x hx).c1 HK.out.2.2
    have hsn := take_snocK (l := kids.drop f) (k := k) (x := x) (by rw [List.getElem?_drop, ← hq]; exact hx)
    have l1 : (q : Int) < (kl : Int) := Int.ofNat_lt.2 hqk1
    have l2 : (k : Int) < (mm : Int) := Int.ofNat_lt.2 hqk2
    have hbnd : (tt : Nat) ≤ 100000 := hqk3
    have lw : wrap64 ((q : Int) + 1) = ((q + 1 : Nat) : Int) := wrapk2 (Nat.lt_of_lt_of_le hqk1 (Nat.le_trans HCK.out.1 (by decide)))
    obtain ⟨xn, xi⟩ := x
    simp only at z0 z1
    simp only at hsn
    generalize tx xn = xs at *
    have HSN : Hid _ := xai hsn (xai hlt (xai hbnd (xai hq HK.out.1.1)))
    have HO : Hid _ := HK.out.2
    clear hat2 hx hsn hlt hbnd hq HK hqk1 hqk2 hqk3 hqk4
    go_wp2_with (at_builtin; (refine wpList_append_own _ rfl _ _ 41 rfl WB.heap.size 47 ik (.agg #[.string ⟨#[]⟩, .int .i64 0]) 2 24 Tryz.underlying41 hi hz0 hz1 hz2 rfl (by decide) _ k _ rfl (HO.out.1.alloc _) ⟨wr.heap.size, 0, none⟩ 1 1 [.string xs, .int .i64 xi] rfl rfl ?c1 ?c2 ?c3 ?c4 ?c5 ?_))
    case c1 => exact cell_kid_new _ _ _ _
    case c2 => intro u hu; simp at hu; rcases hu with rfl | rfl <;> rfl
    case c3 => have h1 := HSN.out; unfold maxLen; omega
    case c4 => have h1 := HSN.out; omega
    case c5 => have := HO.out.2.size; simp at this ⊢; omega
    ·intro v2 w2 own2 grow2 _
     obtain ⟨a2, c2, rfl⟩ := own_shape own2
     have G2 : WB.grownBy w2 none := grown_own (xgt HO.out.2 (xga _ _ none)) (HO.out.1.alloc _) grow2 (Nat.le_refl _)
     rw [← HSN.out.1] at own2
     have H2 : Hid _ := xai own2 G2
     clear own2 grow2 G2 HO z0 z1
     go_wp2_with fail
     refine ⟨⟨k + 1, q + 1, a2, c2, by rw [lw], rfl, ⟨by have h1 := HSN.out; omega, by have h1 := HSN.out; omega⟩, H2.out⟩, ?_⟩
     have h1 := HSN.out.2.1
     simp only
     omega
   ·obtain ⟨e1, e2, e3, e4⟩ := HT.out
    have hkt : k = tt := by have := HK.out.1.1; omega
    have hq := HK.out.1.2
    have ho := HK.out.2.1
    have htk : (kids.drop f).take k = (kids.drop f).take mm := by
     rw [hkt, e2]
     rcases Nat.le_total mm (kl - f) with h | h
     ·rw [Nat.min_eq_left h]
     ·rw [Nat.min_eq_right h, List.take_of_length_le (by rw [List.length_drop, HB.out.2.2]; exact Nat.le_refl _), List.take_of_length_le (by rw [List.length_drop, HB.out.2.2]; exact h)]
    rw [htk] at ho
    clear htk
    have HF : Hid _ := xai hkt (xai ho HK.out.2.2)
    have hnk : q < kl → ¬ k < mm := by clear e4 e1; omega
    have hub : (f : Int) + (k : Int) ≤ 9223372036854775807 := by
     rcases Nat.lt_or_ge f kl with h | h
     ·clear e4 e1; omega
     ·have h0 : k = 0 := by clear e4 e1; omega
      rw [h0]; simpa using e4
    clear e1 e2 e3 e4 ho hq hkt
    have lw : wrap64 ((f : Int) + (k : Int)) = (f : Int) + (k : Int) := wrap_id12 (by omega) hub
    clear hub
    by_cases hlk : q < kl
    ·have l1 : (q : Int) < (kl : Int) := Int.ofNat_lt.2 hlk
     have l2 : ¬ (k : Int) < (mm : Int) := fun h => hnk hlk (Int.ofNat_lt.1 h)
     clear hlk hlt HK hnk
     go_wp2_with fail
     refine bodyPost_ret (v := .tuple #[.slice va k vc, .int .i64 ((f : Int) + (k : Int)), .int .i64 0]) (by simp [results, Tryz.f25, go_sem, lw]) rfl ?_
     unfold RkPost
     rw [HV.out, ← HF.out.1]
     exact ⟨va, k, vc, rfl, xgt HB.out.1 HF.out.2.2, kds_of12 HF.out.2.1 (by rw [HF.out.1, HT.out.1])⟩
    ·have l1 : ¬ (q : Int) < (kl : Int) := fun h => hlk (Int.ofNat_lt.1 h)
     clear hlk hlt HK hnk
     go_wp2_with fail
     refine bodyPost_ret (v := .tuple #[.slice va k vc, .int .i64 ((f : Int) + (k : Int)), .int .i64 0]) (by simp [results, Tryz.f25, go_sem, lw]) rfl ?_
     unfold RkPost
     rw [HV.out, ← HF.out.1]
     exact ⟨va, k, vc, rfl, xgt HB.out.1 HF.out.2.2, kds_of12 HF.out.2.1 (by rw [HF.out.1, HT.out.1])⟩
 ·have hl := rdr_bad (cur := cur) (n := m) hz
  rw [← HR.out] at hl
  have HL : Hid _ := hl
  clear hl HR
  generalize knd (nos ns) i 2 = K at *
  have hzb : (K == 0) = false := by rw [beq_eq_false_iff_ne]; exact hz
  have hzb2 : (K != 0) = true := by simp [hz]
  go_wp2_with fail
  refine bodyPost_ret (v := .tuple #[.slice none 0 0, .int .i64 0, .int .i64 K]) (by simp [results, Tryz.f25, go_sem]) rfl ?_
  unfold RkPost
  rw [HL.out]
  exact ⟨none, 0, 0, rfl, HG1.out.1, kds_nil _ _⟩
def rsz (X : NoV) : Int := if X.k = 1 then X.size else if X.k = 2 then (X.kl : Int) else if X.k = 3 then (X.target.size : Int) else 0
def rdv (X : NoV) : Int := if X.k = 1 ∨ X.k = 2 ∨ X.k = 3 then 0 else X.dev
def RsPost (w : World) (ns : List NoV) (i : Int) (e : Ending) (w' : World) : Prop := w.grownBy w' none ∧ ((knd (nos ns) i 0 ≠ 0 ∧ e = .returned (.tuple #[stV 0 0 0 0 0 0 0 0 0, .int .i64 (knd (nos ns) i 0)])) ∨
 ∃ X : NoV, knd (nos ns) i 0 = 0 ∧ 0 ≤ i ∧ ns[i.toNat]? = some X ∧ e = .returned (.tuple #[stV i X.k X.mode X.uid X.gid X.time (rsz X) (rdv X) X.links, .int .i64 0]))
theorem sz_same {X : NoV} (h : Dv X.no) : szP X = rsz X ∧ X.dev = rdv X := by
 unfold szP rsz rdv
 have h1 : X.k = 1 ∨ X.k = 2 ∨ X.k = 3 → X.dev = 0 := h.dev
 have h2 : X.k ≠ 1 → X.size = 0 := h.size
 constructor
 ·by_cases e1 : X.k = 1
  ·rw [if_pos e1, if_neg (by omega), if_neg (by omega)]
  ·rw [if_neg e1]
   by_cases e2 : X.k = 2
   ·rw [if_pos e2, if_pos e2]
   ·rw [if_neg e2, if_neg e2]
    by_cases e3 : X.k = 3
    ·rw [if_pos e3, if_pos e3]
    ·rw [if_neg e3, if_neg e3]; exact h2 e1
 ·by_cases e : X.k = 1 ∨ X.k = 2 ∨ X.k = 3
  ·rw [if_pos e]; exact h1 e
  ·rw [if_neg e]
set_option maxHeartbeats 8000000 in
theorem rstat_any (w : World) (a : Option Addr) (n c : Nat) (ns : List NoV) (hN : Nos w a n ns) (i : Int) : Calls Tryz.prog 27 #[.agg #[.slice a n c], .int .i64 i] w (RsPost w ns i) := by
 have gA0 := xga w (.cells #[.slice a n c] 33) none
 have bA0 := Bx.new w 33 [.slice a n c]
 have gA := xga (w.alloc (.cells #[.slice a n c] 33)) (.cells #[.int .i64 0, .int .i64 0, .int .i64 0, .int .i64 0, .int .i64 0, .int .i64 0, .int .i64 0, .int .i64 0, .int .i64 0] 68) none
 have bR := Bx.new (w.alloc (.cells #[.slice a n c] 33)) 68 [.int .i64 0, .int .i64 0, .int .i64 0, .int .i64 0, .int .i64 0, .int .i64 0, .int .i64 0, .int .i64 0, .int .i64 0]
 have hsz : (w.alloc (.cells #[.slice a n c] 33)).heap.size = w.heap.size + 1 := by simp
 rw [hsz] at bR
 have hok := rkind_any _ a n c ns ((hN.grown gA0).grown gA) i 0
 have t0 : _ = some _ := (bA0.kept gA).c 0
 have HM : Hid _ := xai ((hN.grown gA0).grown gA) (xai (bA0.kept gA) (xai (xgt gA0 gA) bR))
 clear hN bA0 gA gA0 bR hsz
 go_enter Tryz.func27, Tryz.ntmps27
 go_wp2_with fail
 generalize hWA : (w.alloc (.cells #[.slice a n c] 33)).alloc (.cells #[.int .i64 0, .int .i64 0, .int .i64 0, .int .i64 0, .int .i64 0, .int .i64 0, .int .i64 0, .int .i64 0, .int .i64 0] 68) = WA at *
 clear hWA
 refine hok.mono ?_
 clear hok
 rintro e W1 ⟨rfl, g1⟩
 have HG1 : Hid _ := xai (xgt HM.out.2.2.1 g1) (xai (HM.out.1.grown g1) (xai (HM.out.2.1.kept g1) (HM.out.2.2.2.kept g1)))
 clear g1 HM t0
 have t0 : _ = some _ := HG1.out.2.2.1.c 0
 by_cases hz : knd (nos ns) i 0 = 0
 ·obtain ⟨j, X, rfl, hX, -⟩ := knd_zero hz
  have HZ : Hid _ := xai hz hX
  rw [hz]
  have hj : j < n := by rw [← HG1.out.2.1.len_eq]; exact (List.getElem?_eq_some_iff.1 hX).1
  have hle := HG1.out.2.1.le
  obtain ⟨b, o0, rfl, hat⟩ := HG1.out.2.1.at_ (by omega)
  obtain ⟨y0, y1, y2, y3, y4, y5, y6, y7, y8, y9, y10, y11, y12, -⟩ := hat j X hX
  have h2 : (j : Int) < (n : Int) := by omega
  obtain ⟨R1, hR1⟩ : ∃ R1, R1 = rsz X := ⟨_, rfl⟩
  obtain ⟨R2, hR2⟩ : ∃ R2, R2 = rdv X := ⟨_, rfl⟩
  unfold rsz at hR1
  unfold rdv at hR2
  have HR : Hid _ := xai hR1 hR2
  clear hR1 hR2 hat hX hz
  obtain ⟨NK, mo, uid, gid, ti, sz_, da, dl, dc, data, tg, dev, aa, al, ac, attrs, ka, kl, kc, kids, pa, lk⟩ := X
  simp only at y0 y1 y2 y3 y4 y5 y6 y7 y8 y9 y10 y11 y12 HR
  have gB := xga W1 (.cells #[.int .i64 NK, .int .i64 mo, .int .i64 uid, .int .i64 gid, .int .i64 ti, .int .i64 sz_, .slice da dl dc, .string tg, .int .i64 dev, .slice aa al ac, .slice ka kl kc, .int .i64 pa, .int .i64 lk] 43) none
  have bB := Bx.new W1 43 [.int .i64 NK, .int .i64 mo, .int .i64 uid, .int .i64 gid, .int .i64 ti, .int .i64 sz_, .slice da dl dc, .string tg, .int .i64 dev, .slice aa al ac, .slice ka kl kc, .int .i64 pa, .int .i64 lk]
  have gC := xga (W1.alloc (.cells #[.int .i64 NK, .int .i64 mo, .int .i64 uid, .int .i64 gid, .int .i64 ti, .int .i64 sz_, .slice da dl dc, .string tg, .int .i64 dev, .slice aa al ac, .slice ka kl kc, .int .i64 pa, .int .i64 lk] 43)) (.cells #[.int .i64 j, .int .i64 NK, .int .i64 mo, .int .i64 uid, .int .i64 gid, .int .i64 ti, .int .i64 0, .int .i64 0, .int .i64 lk] 68) none
  have bC := Bx.new (W1.alloc (.cells #[.int .i64 NK, .int .i64 mo, .int .i64 uid, .int .i64 gid, .int .i64 ti, .int .i64 sz_, .slice da dl dc, .string tg, .int .i64 dev, .slice aa al ac, .slice ka kl kc, .int .i64 pa, .int .i64 lk] 43)) 68 [.int .i64 j, .int .i64 NK, .int .i64 mo, .int .i64 uid, .int .i64 gid, .int .i64 ti, .int .i64 0, .int .i64 0, .int .i64 lk]
  have hsz1 : (W1.alloc (.cells #[.int .i64 NK, .int .i64 mo, .int .i64 uid, .int .i64 gid, .int .i64 ti, .int .i64 sz_, .slice da dl dc, .string tg, .int .i64 dev, .slice aa al ac, .slice ka kl kc, .int .i64 pa, .int .i64 lk] 43)).heap.size = W1.heap.size + 1 := by simp
  rw [hsz1] at bC
  obtain ⟨v0, v1, v2, v3, v4, v5, v6, v7, v8, v9, v10, v11, v12⟩ := bx13 bB
  have hrlt := HG1.out.2.2.2.lt
  have H5 : Hid _ := xai (xgt HG1.out.1 gB) (xai (bB.kept gC) (xai bC (xai (HG1.out.2.2.2.kept gB) hrlt)))
  have HSZ1 : Hid _ := hsz1
  clear gB gC bB bC hsz1 HG1 hrlt
  have fin : ∀ (sz dv : Int) (W : World), Hid (Bx W (W1.heap.size + 1) 68 [.int .i64 j, .int .i64 NK, .int .i64 mo, .int .i64 uid, .int .i64 gid, .int .i64 ti, .int .i64 sz, .int .i64 dv, .int .i64 lk] ∧ Bx W (w.heap.size + 1) 68 [.int .i64 0, .int .i64 0, .int .i64 0, .int .i64 0, .int .i64 0, .int .i64 0, .int .i64 0, .int .i64 0, .int .i64 0] ∧ w.grownBy W none) → True := fun _ _ _ _ => trivial
  clear fin
  have HRR : Hid (R1 = rsz ⟨NK, mo, uid, gid, ti, sz_, da, dl, dc, data, tg, dev, aa, al, ac, attrs, ka, kl, kc, kids, pa, lk⟩ ∧ R2 = rdv ⟨NK, mo, uid, gid, ti, sz_, da, dl, dc, data, tg, dev, aa, al, ac, attrs, ka, kl, kc, kids, pa, lk⟩) := HR.out
  by_cases e1 : NK = 1
  ·subst e1
   have HV : Hid (R1 = sz_ ∧ R2 = 0) := by
    have h1 := HR.out
    refine ⟨?_, ?_⟩
    ·rw [h1.1]; rw [if_pos rfl]
    ·rw [h1.2]; rw [if_pos (Or.inl rfl)]
   clear HR
   obtain ⟨u0, u1, u2, u3, u4, u5, u6, u7, u8, u9, u10, u11, u12⟩ := bx13 H5.out.2.1
   have q6 : _ = some _ := H5.out.2.2.1.c 6
   have f6 := H5.out.2.2.1.f 6
   have bS := Bx.new (W1.alloc (.cells #[.int .i64 1, .int .i64 mo, .int .i64 uid, .int .i64 gid, .int .i64 ti, .int .i64 sz_, .slice da dl dc, .string tg, .int .i64 dev, .slice aa al ac, .slice ka kl kc, .int .i64 pa, .int .i64 lk] 43)) 68 [.int .i64 j, .int .i64 1, .int .i64 mo, .int .i64 uid, .int .i64 gid, .int .i64 ti, .int .i64 (sz_), .int .i64 (0), .int .i64 lk]
   have gS := xga (W1.alloc (.cells #[.int .i64 1, .int .i64 mo, .int .i64 uid, .int .i64 gid, .int .i64 ti, .int .i64 sz_, .slice da dl dc, .string tg, .int .i64 dev, .slice aa al ac, .slice ka kl kc, .int .i64 pa, .int .i64 lk] 43)) (.cells #[.int .i64 j, .int .i64 1, .int .i64 mo, .int .i64 uid, .int .i64 gid, .int .i64 ti, .int .i64 (sz_), .int .i64 (0), .int .i64 lk] 68) none
   rw [HSZ1.out] at bS
   obtain ⟨r0, r1, r2, r3, r4, r5, r6, r7, r8⟩ := bx9 bS
   have H6 : Hid _ := xai (H5.out.2.2.2.1.kept gS) (xgt H5.out.1 gS)
   clear bS gS H5
   go_wp2_with ((with_reducible refine stat_here ?_); refine wpList_store_bx13 rfl 68 _ _ rfl (w.heap.size + 1) [.int .i64 j, .int .i64 1, .int .i64 mo, .int .i64 uid, .int .i64 gid, .int .i64 ti, .int .i64 (sz_), .int .i64 (0), .int .i64 lk] rfl rfl H6.out.1 stat_size rfl rfl ?_; intro W9 hz9 g9)
   obtain ⟨z0, z1, z2, z3, z4, z5, z6, z7, z8⟩ := bx9 hz9
   have HF : Hid _ := grown_new H6.out.2 g9 (by omega)
   refine bodyPost_ret (v := .tuple #[stV j 1 mo uid gid ti (sz_) (0) lk, .int .i64 0]) (by simp [results, Tryz.results27, go_sem, stV, *]) rfl ?_
   refine ⟨HF.out, Or.inr ⟨⟨1, mo, uid, gid, ti, sz_, da, dl, dc, data, tg, dev, aa, al, ac, attrs, ka, kl, kc, kids, pa, lk⟩, HZ.out.1, by omega, by rw [Int.toNat_natCast]; exact HZ.out.2, ?_⟩⟩
   show _ = Ending.returned (.tuple #[stV j 1 mo uid gid ti (rsz ⟨1, mo, uid, gid, ti, sz_, da, dl, dc, data, tg, dev, aa, al, ac, attrs, ka, kl, kc, kids, pa, lk⟩) (rdv ⟨1, mo, uid, gid, ti, sz_, da, dl, dc, data, tg, dev, aa, al, ac, attrs, ka, kl, kc, kids, pa, lk⟩) lk, .int .i64 0])
   rw [show rsz ⟨1, mo, uid, gid, ti, sz_, da, dl, dc, data, tg, dev, aa, al, ac, attrs, ka, kl, kc, kids, pa, lk⟩ = (sz_) from HV.out.1 ▸ HRR.out.1.symm, show rdv ⟨1, mo, uid, gid, ti, sz_, da, dl, dc, data, tg, dev, aa, al, ac, attrs, ka, kl, kc, kids, pa, lk⟩ = (0) from HV.out.2 ▸ HRR.out.2.symm]
  ·have e1b : (NK == 1) = false := by rw [beq_eq_false_iff_ne]; exact e1
   by_cases e2 : NK = 2
   ·subst e2
    have HV : Hid (R1 = (kl : Int) ∧ R2 = 0) := by
     have h1 := HR.out
     refine ⟨?_, ?_⟩
     ·rw [h1.1]; rw [if_neg (by decide), if_pos rfl]
     ·rw [h1.2]; rw [if_pos (Or.inr (Or.inl rfl))]
    clear HR
    obtain ⟨u0, u1, u2, u3, u4, u5, u6, u7, u8, u9, u10, u11, u12⟩ := bx13 H5.out.2.1
    have q6 : _ = some _ := H5.out.2.2.1.c 6
    have f6 := H5.out.2.2.1.f 6
    have bS := Bx.new (W1.alloc (.cells #[.int .i64 2, .int .i64 mo, .int .i64 uid, .int .i64 gid, .int .i64 ti, .int .i64 sz_, .slice da dl dc, .string tg, .int .i64 dev, .slice aa al ac, .slice ka kl kc, .int .i64 pa, .int .i64 lk] 43)) 68 [.int .i64 j, .int .i64 2, .int .i64 mo, .int .i64 uid, .int .i64 gid, .int .i64 ti, .int .i64 ((kl : Int)), .int .i64 (0), .int .i64 lk]
    have gS := xga (W1.alloc (.cells #[.int .i64 2, .int .i64 mo, .int .i64 uid, .int .i64 gid, .int .i64 ti, .int .i64 sz_, .slice da dl dc, .string tg, .int .i64 dev, .slice aa al ac, .slice ka kl kc, .int .i64 pa, .int .i64 lk] 43)) (.cells #[.int .i64 j, .int .i64 2, .int .i64 mo, .int .i64 uid, .int .i64 gid, .int .i64 ti, .int .i64 ((kl : Int)), .int .i64 (0), .int .i64 lk] 68) none
    rw [HSZ1.out] at bS
    obtain ⟨r0, r1, r2, r3, r4, r5, r6, r7, r8⟩ := bx9 bS
    have H6 : Hid _ := xai (H5.out.2.2.2.1.kept gS) (xgt H5.out.1 gS)
    clear bS gS H5
    go_wp2_with ((with_reducible refine stat_here ?_); refine wpList_store_bx13 rfl 68 _ _ rfl (w.heap.size + 1) [.int .i64 j, .int .i64 2, .int .i64 mo, .int .i64 uid, .int .i64 gid, .int .i64 ti, .int .i64 ((kl : Int)), .int .i64 (0), .int .i64 lk] rfl rfl H6.out.1 stat_size rfl rfl ?_; intro W9 hz9 g9)
    obtain ⟨z0, z1, z2, z3, z4, z5, z6, z7, z8⟩ := bx9 hz9
    have HF : Hid _ := grown_new H6.out.2 g9 (by omega)
    refine bodyPost_ret (v := .tuple #[stV j 2 mo uid gid ti ((kl : Int)) (0) lk, .int .i64 0]) (by simp [results, Tryz.results27, go_sem, stV, *]) rfl ?_
    refine ⟨HF.out, Or.inr ⟨⟨2, mo, uid, gid, ti, sz_, da, dl, dc, data, tg, dev, aa, al, ac, attrs, ka, kl, kc, kids, pa, lk⟩, HZ.out.1, by omega, by rw [Int.toNat_natCast]; exact HZ.out.2, ?_⟩⟩
    show _ = Ending.returned (.tuple #[stV j 2 mo uid gid ti (rsz ⟨2, mo, uid, gid, ti, sz_, da, dl, dc, data, tg, dev, aa, al, ac, attrs, ka, kl, kc, kids, pa, lk⟩) (rdv ⟨2, mo, uid, gid, ti, sz_, da, dl, dc, data, tg, dev, aa, al, ac, attrs, ka, kl, kc, kids, pa, lk⟩) lk, .int .i64 0])
    rw [show rsz ⟨2, mo, uid, gid, ti, sz_, da, dl, dc, data, tg, dev, aa, al, ac, attrs, ka, kl, kc, kids, pa, lk⟩ = ((kl : Int)) from HV.out.1 ▸ HRR.out.1.symm, show rdv ⟨2, mo, uid, gid, ti, sz_, da, dl, dc, data, tg, dev, aa, al, ac, attrs, ka, kl, kc, kids, pa, lk⟩ = (0) from HV.out.2 ▸ HRR.out.2.symm]
   ·have e2b : (NK == 2) = false := by rw [beq_eq_false_iff_ne]; exact e2
    by_cases e3 : NK = 3
    ·subst e3
     have HV : Hid (R1 = (tg.size : Int) ∧ R2 = 0) := by
      have h1 := HR.out
      refine ⟨?_, ?_⟩
      ·rw [h1.1]; rw [if_neg (by decide), if_neg (by decide), if_pos rfl]
      ·rw [h1.2]; rw [if_pos (Or.inr (Or.inr rfl))]
     clear HR
     obtain ⟨u0, u1, u2, u3, u4, u5, u6, u7, u8, u9, u10, u11, u12⟩ := bx13 H5.out.2.1
     have q6 : _ = some _ := H5.out.2.2.1.c 6
     have f6 := H5.out.2.2.1.f 6
     have bS := Bx.new (W1.alloc (.cells #[.int .i64 3, .int .i64 mo, .int .i64 uid, .int .i64 gid, .int .i64 ti, .int .i64 sz_, .slice da dl dc, .string tg, .int .i64 dev, .slice aa al ac, .slice ka kl kc, .int .i64 pa, .int .i64 lk] 43)) 68 [.int .i64 j, .int .i64 3, .int .i64 mo, .int .i64 uid, .int .i64 gid, .int .i64 ti, .int .i64 ((tg.size : Int)), .int .i64 (0), .int .i64 lk]
     have gS := xga (W1.alloc (.cells #[.int .i64 3, .int .i64 mo, .int .i64 uid, .int .i64 gid, .int .i64 ti, .int .i64 sz_, .slice da dl dc, .string tg, .int .i64 dev, .slice aa al ac, .slice ka kl kc, .int .i64 pa, .int .i64 lk] 43)) (.cells #[.int .i64 j, .int .i64 3, .int .i64 mo, .int .i64 uid, .int .i64 gid, .int .i64 ti, .int .i64 ((tg.size : Int)), .int .i64 (0), .int .i64 lk] 68) none
     rw [HSZ1.out] at bS
     obtain ⟨r0, r1, r2, r3, r4, r5, r6, r7, r8⟩ := bx9 bS
     have H6 : Hid _ := xai (H5.out.2.2.2.1.kept gS) (xgt H5.out.1 gS)
     clear bS gS H5
     go_wp2_with ((with_reducible refine stat_here ?_); refine wpList_store_bx13 rfl 68 _ _ rfl (w.heap.size + 1) [.int .i64 j, .int .i64 3, .int .i64 mo, .int .i64 uid, .int .i64 gid, .int .i64 ti, .int .i64 ((tg.size : Int)), .int .i64 (0), .int .i64 lk] rfl rfl H6.out.1 stat_size rfl rfl ?_; intro W9 hz9 g9)
     obtain ⟨z0, z1, z2, z3, z4, z5, z6, z7, z8⟩ := bx9 hz9
     have HF : Hid _ := grown_new H6.out.2 g9 (by omega)
     refine bodyPost_ret (v := .tuple #[stV j 3 mo uid gid ti ((tg.size : Int)) (0) lk, .int .i64 0]) (by simp [results, Tryz.results27, go_sem, stV, *]) rfl ?_
     refine ⟨HF.out, Or.inr ⟨⟨3, mo, uid, gid, ti, sz_, da, dl, dc, data, tg, dev, aa, al, ac, attrs, ka, kl, kc, kids, pa, lk⟩, HZ.out.1, by omega, by rw [Int.toNat_natCast]; exact HZ.out.2, ?_⟩⟩
     show _ = Ending.returned (.tuple #[stV j 3 mo uid gid ti (rsz ⟨3, mo, uid, gid, ti, sz_, da, dl, dc, data, tg, dev, aa, al, ac, attrs, ka, kl, kc, kids, pa, lk⟩) (rdv ⟨3, mo, uid, gid, ti, sz_, da, dl, dc, data, tg, dev, aa, al, ac, attrs, ka, kl, kc, kids, pa, lk⟩) lk, .int .i64 0])
     rw [show rsz ⟨3, mo, uid, gid, ti, sz_, da, dl, dc, data, tg, dev, aa, al, ac, attrs, ka, kl, kc, kids, pa, lk⟩ = ((tg.size : Int)) from HV.out.1 ▸ HRR.out.1.symm, show rdv ⟨3, mo, uid, gid, ti, sz_, da, dl, dc, data, tg, dev, aa, al, ac, attrs, ka, kl, kc, kids, pa, lk⟩ = (0) from HV.out.2 ▸ HRR.out.2.symm]
    ·have e3b : (NK == 3) = false := by rw [beq_eq_false_iff_ne]; exact e3
     have HV : Hid (R1 = 0 ∧ R2 = dev) := by
      have h1 := HR.out
      refine ⟨?_, ?_⟩
      ·rw [h1.1]; rw [if_neg e1, if_neg e2, if_neg e3]
      ·rw [h1.2]; rw [if_neg (by omega)]
     clear HR
     obtain ⟨u0, u1, u2, u3, u4, u5, u6, u7, u8, u9, u10, u11, u12⟩ := bx13 H5.out.2.1
     have q6 : _ = some _ := H5.out.2.2.1.c 7
     have f6 := H5.out.2.2.1.f 7
     have bS := Bx.new (W1.alloc (.cells #[.int .i64 NK, .int .i64 mo, .int .i64 uid, .int .i64 gid, .int .i64 ti, .int .i64 sz_, .slice da dl dc, .string tg, .int .i64 dev, .slice aa al ac, .slice ka kl kc, .int .i64 pa, .int .i64 lk] 43)) 68 [.int .i64 j, .int .i64 NK, .int .i64 mo, .int .i64 uid, .int .i64 gid, .int .i64 ti, .int .i64 (0), .int .i64 (dev), .int .i64 lk]
     have gS := xga (W1.alloc (.cells #[.int .i64 NK, .int .i64 mo, .int .i64 uid, .int .i64 gid, .int .i64 ti, .int .i64 sz_, .slice da dl dc, .string tg, .int .i64 dev, .slice aa al ac, .slice ka kl kc, .int .i64 pa, .int .i64 lk] 43)) (.cells #[.int .i64 j, .int .i64 NK, .int .i64 mo, .int .i64 uid, .int .i64 gid, .int .i64 ti, .int .i64 (0), .int .i64 (dev), .int .i64 lk] 68) none
     rw [HSZ1.out] at bS
     obtain ⟨r0, r1, r2, r3, r4, r5, r6, r7, r8⟩ := bx9 bS
     have H6 : Hid _ := xai (H5.out.2.2.2.1.kept gS) (xgt H5.out.1 gS)
     clear bS gS H5
     go_wp2_with ((with_reducible refine stat_here ?_); refine wpList_store_bx13 rfl 68 _ _ rfl (w.heap.size + 1) [.int .i64 j, .int .i64 NK, .int .i64 mo, .int .i64 uid, .int .i64 gid, .int .i64 ti, .int .i64 (0), .int .i64 (dev), .int .i64 lk] rfl rfl H6.out.1 stat_size rfl rfl ?_; intro W9 hz9 g9)
     obtain ⟨z0, z1, z2, z3, z4, z5, z6, z7, z8⟩ := bx9 hz9
     have HF : Hid _ := grown_new H6.out.2 g9 (by omega)
     refine bodyPost_ret (v := .tuple #[stV j NK mo uid gid ti (0) (dev) lk, .int .i64 0]) (by simp [results, Tryz.results27, go_sem, stV, *]) rfl ?_
     refine ⟨HF.out, Or.inr ⟨⟨NK, mo, uid, gid, ti, sz_, da, dl, dc, data, tg, dev, aa, al, ac, attrs, ka, kl, kc, kids, pa, lk⟩, HZ.out.1, by omega, by rw [Int.toNat_natCast]; exact HZ.out.2, ?_⟩⟩
     show _ = Ending.returned (.tuple #[stV j NK mo uid gid ti (rsz ⟨NK, mo, uid, gid, ti, sz_, da, dl, dc, data, tg, dev, aa, al, ac, attrs, ka, kl, kc, kids, pa, lk⟩) (rdv ⟨NK, mo, uid, gid, ti, sz_, da, dl, dc, data, tg, dev, aa, al, ac, attrs, ka, kl, kc, kids, pa, lk⟩) lk, .int .i64 0])
     rw [show rsz ⟨NK, mo, uid, gid, ti, sz_, da, dl, dc, data, tg, dev, aa, al, ac, attrs, ka, kl, kc, kids, pa, lk⟩ = (0) from HV.out.1 ▸ HRR.out.1.symm, show rdv ⟨NK, mo, uid, gid, ti, sz_, da, dl, dc, data, tg, dev, aa, al, ac, attrs, ka, kl, kc, kids, pa, lk⟩ = (dev) from HV.out.2 ▸ HRR.out.2.symm]
 ·have HZ : Hid _ := hz
  generalize hK : knd (nos ns) i 0 = K at *
  have HKK : Hid _ := hK
  clear hK
  have hzb : (K == 0) = false := by rw [beq_eq_false_iff_ne]; exact hz
  have hzb2 : (K != 0) = true := by simp [hz]
  go_wp2_with ((with_reducible refine stat_here ?_); refine wpList_store_bx13 rfl 68 _ _ rfl (w.heap.size + 1) [.int .i64 0, .int .i64 0, .int .i64 0, .int .i64 0, .int .i64 0, .int .i64 0, .int .i64 0, .int .i64 0, .int .i64 0] rfl rfl HG1.out.2.2.2 stat_size rfl rfl ?_; intro W9 hz9 g9)
  obtain ⟨z0, z1, z2, z3, z4, z5, z6, z7, z8⟩ := bx9 hz9
  have HF : Hid _ := grown_new HG1.out.1 g9 (by omega)
  refine bodyPost_ret (v := .tuple #[stV 0 0 0 0 0 0 0 0 0, .int .i64 K]) (by simp [results, Tryz.results27, go_sem, stV, *]) rfl ?_
  exact ⟨HF.out, Or.inl ⟨by rw [HKK.out]; exact HZ.out, by rw [HKK.out]⟩⟩
def exV12 (g : Nat) : List EnV := [⟨⟨#[97]⟩, 2, 0, 0, 0, 0, 0, none, 0, 0, [], ⟨#[]⟩, 0, none, 0, 0, []⟩, ⟨⟨#[97, 47, 102]⟩, 1, 0, 0, 0, 0, 4, some ⟨g, 0, none⟩, 2, 2, [120, 121], ⟨#[]⟩, 0, none, 0, 0, []⟩, ⟨⟨#[108]⟩, 3, 0, 0, 0, 0, 0, none, 0, 0, [], ⟨#[97]⟩, 0, none, 0, 0, []⟩]
theorem exV12_ens (g : Nat) : ens (exV12 g) = ex12 := by
 unfold ens exV12 ex12 EnV.en
 simp [ByteArray.toList_eq]
theorem ex12_chk : (chk11 ex12).2 = 0 := by kernel_rfl
theorem marked_row12 (w : World) (bs : List Int) (m : Nat × Nat) (hb : Byt bs) (hl : bs.length ≤ maxLen) : Row (w.alloc (.cells (bv bs).toArray 5 m)) (some ⟨w.heap.size, 0, none⟩) bs.length bs := by
 refine ⟨rfl, hl, hb, fun _ => ⟨w.heap.size, 0, rfl, fun i hi => ?_⟩⟩
 rw [Nat.zero_add]
 have h : (w.alloc (.cells (bv bs).toArray 5 m)).heap[w.heap.size]? = some (.cells (bv bs).toArray 5 m) := heap_alloc_new _ _
 simp only [World.cell?, h]
 rw [← bv_getElem? bs i hi]
 simp
theorem ex12_mem (w : World) : Ens ((w.alloc (.cells #[.int .u8 120, .int .u8 121] 5 (2, 3))).alloc (.cells ((exV12 w.heap.size).flatMap evc).toArray 30)) (some ⟨w.heap.size + 1, 0, none⟩) 3 (exV12 w.heap.size) := by
 have b := Bx.new (w.alloc (.cells #[.int .u8 120, .int .u8 121] 5 (2, 3))) 30 ((exV12 w.heap.size).flatMap evc)
 have hsz : (w.alloc (.cells #[.int .u8 120, .int .u8 121] 5 (2, 3))).heap.size = w.heap.size + 1 := by simp
 rw [hsz] at b
 have hr : Row ((w.alloc (.cells #[.int .u8 120, .int .u8 121] 5 (2, 3))).alloc (.cells ((exV12 w.heap.size).flatMap evc).toArray 30)) (some ⟨w.heap.size, 0, none⟩) 2 [120, 121] := (marked_row12 w [120, 121] (2, 3) (fun x hx => by simp at hx; omega) (by decide)).grown (xga _ _ none)
 refine ⟨rfl, by decide, fun _ => ⟨w.heap.size + 1, 0, rfl, fun i X hX => ?_⟩⟩
 generalize hWW : (w.alloc (.cells #[.int .u8 120, .int .u8 121] 5 (2, 3))).alloc (.cells ((exV12 w.heap.size).flatMap evc).toArray 30) = WW at *
 have k : ∀ f, f < 11 → WW.cell? ⟨w.heap.size + 1, 0 + i * 11 + f, none⟩ = (evc X)[f]? := fun f hf => by
  rw [Nat.zero_add, b.c (i * 11 + f), flat_at evc 11 evc_len (exV12 w.heap.size) i f X hX hf]
 have hm := List.mem_of_getElem? hX
 have ho : X.ok WW := by
  unfold exV12 at hm
  simp at hm
  rcases hm with rfl | rfl | rfl
  ·exact ⟨row_zero none, by decide, ⟨rfl, by decide, fun h => absurd h (by decide)⟩, by decide⟩
  ·exact ⟨hr, Nat.le_refl 2, ⟨rfl, Nat.zero_le _, fun h => absurd h (Nat.lt_irrefl 0)⟩, Nat.le_refl 0⟩
  ·exact ⟨row_zero none, by decide, ⟨rfl, by decide, fun h => absurd h (by decide)⟩, by decide⟩
 exact ⟨k 0 (by decide), k 1 (by decide), k 2 (by decide), k 3 (by decide), k 4 (by decide), k 5 (by decide), k 6 (by decide), k 7 (by decide), k 8 (by decide), k 9 (by decide), k 10 (by decide), ho⟩
theorem ex12_sml (g : Nat) : Sml (exV12 g) := by
 intro X hX
 unfold exV12 at hX
 simp at hX
 rcases hX with rfl | rfl | rfl
 ·exact ⟨by decide, by decide, fun A hA => by cases hA⟩
 ·exact ⟨show 3 ≤ _ by omega, show 0 ≤ _ by omega, fun A hA => by cases hA⟩
 ·exact ⟨by decide, by decide, fun A hA => by cases hA⟩
theorem dv_of {ns : List NoV} (h : ∀ n ∈ nos ns, Dv n) : ∀ X ∈ ns, (X.data.length : Int) ≤ X.size ∧ X.size ≤ 1099511627775 := fun X hX => by
 have := h X.no (List.mem_map.2 ⟨X, hX, rfl⟩)
 exact ⟨this.data, this.le⟩
set_option maxHeartbeats 4000000 in
theorem live12_any (w : World) : Calls Tryz.prog 18 #[] w fun e w' => e = .returned (.bool true) ∧ w.grownBy w' none := by
 have hca := rcanon_any (some ⟨w.heap.size + 1, 0, none⟩) 3 3 (exV12 w.heap.size) _ (ex12_mem w) (ex12_sml _) (by decide) (fun X hX => by unfold exV12 at hX; simp at hX; rcases hX with rfl | rfl | rfl <;> exact Nat.zero_le _) (by rw [exV12_ens]; exact (chk_ok.1 ex12_chk).2.2)
 unfold CaPost at hca
 rw [exV12_ens] at hca
 have HG0 : Hid (w.grownBy ((w.alloc (.cells #[.int .u8 120, .int .u8 121] 5 (2, 3))).alloc (.cells ((exV12 w.heap.size).flatMap evc).toArray 30)) none) := xgt (xga _ _ none) (xga _ _ none)
 have hcs : (convert 23 23 (.slice (some ⟨w.heap.size, 0, none⟩) 2 2)).run Tryz.prog (w.alloc (.cells #[.int .u8 120, .int .u8 121] 5)) = .ok (.slice (some ⟨w.heap.size, 0, none⟩) 2 2) (w.alloc (.cells #[.int .u8 120, .int .u8 121] 5 (2, 3))) := Lib.run_convert_bytes_const w 23 5 _ 2 2 Tryz.underlying23 Tryz.underlying5
 go_enter Tryz.func18, Tryz.ntmps18
 go_wp2_with fail
 refine hca.mono ?_
 clear hca
 rintro e W1 ⟨b5, n5, c5, ns, rfl, hT, hn5, hno⟩
 have gA := xga W1 (.cells #[.slice b5 n5 c5] 33) none
 have bT := Bx.new W1 33 [.slice b5 n5 c5]
 have t0 : _ = some _ := bT.c 0
 have hnw := pnew_canon ex12_chk (by decide) (by intro x hx; unfold ex12 at hx; simp at hx; rcases hx with rfl | rfl | rfl <;> decide) hT hn5 hno _ gA
 have HG1 : Hid _ := xgt (xgt HG0.out hT.gr) gA
 have HNO : Hid _ := hno
 clear gA bT hT hn5 hno HG0
 go_wp2_with fail
 generalize W1.alloc (.cells #[.slice b5 n5 c5] 33) = W2 at *
 generalize W1.heap.size = gt at *
 refine hnw.mono ?_
 clear hnw
 rintro e W3 ⟨mb, mp, a, n, c, ns2, rfl, g3, hM, hn2, -, -, -, -⟩
 have HM : Hid _ := xai hM (xai (hn2.trans HNO.out) (xgt HG1.out g3))
 clear hM hn2 g3 HG1 t0
 go_wp2_with (go_at_call 20; refine (num12_any _ _).mono ?_; rintro e w' ⟨rfl, rfl⟩)
 refine (pwalk_ex W3 mb a n c mp ns2 HM.out.1 HM.out.2.1).mono ?_
 rintro e W4 ⟨rfl, g4⟩
 have hrd := pread_any W4 mb a n c mp ns2 (HM.out.1.kept g4) 2 1 9 (dv_of (by rw [HM.out.2.1]; exact canon_dv (chk_ok.1 ex12_chk).2.2)) (by decide)
 rw [HM.out.2.1, ex_rd] at hrd
 unfold RdPost12 at hrd
 have HG4 : Hid _ := xgt HM.out.2.2 g4
 clear g4
 go_wp2_with fail
 refine hrd.mono ?_
 clear hrd
 rintro e W5 ⟨ra, rc, rfl, g5, hby, -, hb⟩
 obtain ⟨g, rfl, -, hblk⟩ := hb (by decide)
 have hrow : Row W5 (some ⟨g, 0, none⟩) 3 [121, 0, 0] := Blk.row hblk hby (by decide)
 have hcv := conv_row hrow rc 23 9 Tryz.underlying23 Tryz.underlying5 Tryz.underlying9
 have hst : ((strOfNums [121, 0, 0]).toList == [121, 0, 0]) = true := by rw [str_toList]; decide
 have HG5 : Hid _ := xgt HG4.out g5
 clear g5 hby hblk hrow HM
 go_wp2_with (go_at_call 20; refine (num12_any _ _).mono ?_; rintro e w' ⟨rfl, rfl⟩)
 go_ret
 exact ⟨rfl, HG5.out⟩
theorem kids_len12 {w : World} {a : Option Addr} {n : Nat} {ns : List NoV} (hN : Nos w a n ns) {j : Nat} {X : NoV} (hX : ns[j]? = some X) : X.kids.length = X.kl := by
 obtain ⟨b, o, -, k⟩ := hN.at_ (by rw [← hN.len_eq]; have := (List.getElem?_eq_some_iff.1 hX).1; omega)
 exact (k j X hX).ok.kds.len_eq
theorem st_same {X Y : NoV} (h : X.no = Y.no) (hX : X.kids.length = X.kl) (hY : Y.kids.length = Y.kl) (d : Dv X.no) : X.k = Y.k ∧ X.mode = Y.mode ∧ X.uid = Y.uid ∧ X.gid = Y.gid ∧ X.time = Y.time ∧ szP X = rsz Y ∧ X.dev = rdv Y ∧ X.links = Y.links := by
 obtain ⟨s1, s2⟩ := sz_same d
 unfold NoV.no at h
 simp only [No.mk.injEq] at h
 obtain ⟨h0, h1, h2, h3, h4, h5, h6, h7, h8, h9, h10, h11, h12⟩ := h
 have ht : X.target.size = Y.target.size := by rw [← tl_len, ← tl_len, h7]
 have hk : X.kl = Y.kl := by rw [← hX, ← hY, h10]
 refine ⟨h0, h1, h2, h3, h4, ?_, ?_, h12⟩
 ·rw [s1]; unfold rsz; rw [h0, h5, ht, hk]
 ·rw [s2]; unfold rdv; rw [h0, h8]
theorem stat_two {w : World} {mb : Nat} {a : Option Addr} {n c mp : Nat} {ns2 : List NoV} (M : Md w mb a n c mp ns2) {b5 : Option Addr} {n5 c5 : Nat} {ns : List NoV} (hN : Nos w b5 n5 ns) (hn : nos ns2 = nos ns) (hdv : ∀ x ∈ nos ns, Dv x) (i : Int) :
  ∃ q0 q1 q2 q3 q4 q5 q6 q7 q8 K : Int, (∀ W, w.grownBy W none → Calls Tryz.prog 26 #[.pointer (some ⟨mb, 0, none⟩), .int .i64 i] W fun e w' => e = .returned (.tuple #[.agg #[.int .i64 q0, .int .i64 q1, .int .i64 q2, .int .i64 q3, .int .i64 q4, .int .i64 q5, .int .i64 q6, .int .i64 q7, .int .i64 q8], .int .i64 K]) ∧ W.grownBy w' none) ∧
   (∀ W, w.grownBy W none → Calls Tryz.prog 27 #[.agg #[.slice b5 n5 c5], .int .i64 i] W fun e w' => e = .returned (.tuple #[.agg #[.int .i64 q0, .int .i64 q1, .int .i64 q2, .int .i64 q3, .int .i64 q4, .int .i64 q5, .int .i64 q6, .int .i64 q7, .int .i64 q8], .int .i64 K]) ∧ W.grownBy w' none) := by
 have hp := fun W g => pstat_any W mb a n c mp ns2 (M.kept g) i
 have hr := fun W g => rstat_any W b5 n5 c5 ns (hN.grown g) i
 unfold StPost12 at hp
 unfold RsPost at hr
 rw [hn] at hp
 by_cases hz : knd (nos ns) i 0 = 0
 ·obtain ⟨j, X, rfl, hX, -⟩ := knd_zero hz
  obtain ⟨Y, hY⟩ : ∃ Y, ns2[j]? = some Y := by
   refine ⟨_, List.getElem?_eq_getElem ?_⟩
   have h1 := (List.getElem?_eq_some_iff.1 hX).1
   have h2 := congrArg List.length hn
   rw [nos_len, nos_len] at h2
   omega
  have hno : Y.no = X.no := by
   have h1 := nos_get12 hX
   have h2 := nos_get12 hY
   rw [hn, h1] at h2
   injection h2 with h2
   exact h2.symm
  have hs := st_same hno (kids_len12 M.nos hY) (kids_len12 hN hX) (by rw [hno]; exact hdv _ (List.mem_map.2 ⟨X, List.mem_of_getElem? hX, rfl⟩))
  refine ⟨j, X.k, X.mode, X.uid, X.gid, X.time, rsz X, rdv X, X.links, 0, fun W g => (hp W g).mono ?_, fun W g => (hr W g).mono ?_⟩
  ·rintro e w' ⟨g', ⟨h, -⟩ | ⟨Z, -, -, hZ, rfl⟩⟩
   ·exact absurd hz h
   ·rw [Int.toNat_natCast, hY] at hZ
    injection hZ with hZ
    subst hZ
    obtain ⟨h0, h1, h2, h3, h4, h5, h6, h7⟩ := hs
    unfold stV
    rw [h0, h1, h2, h3, h4, h5, h6, h7]
    exact ⟨rfl, g'⟩
  ·rintro e w' ⟨g', ⟨h, -⟩ | ⟨Z, -, -, hZ, rfl⟩⟩
   ·exact absurd hz h
   ·rw [Int.toNat_natCast, hX] at hZ
    injection hZ with hZ
    subst hZ
    exact ⟨rfl, g'⟩
 ·refine ⟨0, 0, 0, 0, 0, 0, 0, 0, 0, knd (nos ns) i 0, fun W g => (hp W g).mono ?_, fun W g => (hr W g).mono ?_⟩
  ·rintro e w' ⟨g', ⟨-, rfl⟩ | ⟨Z, h, -⟩⟩
   ·exact ⟨rfl, g'⟩
   ·exact absurd h hz
  ·rintro e w' ⟨g', ⟨-, rfl⟩ | ⟨Z, h, -⟩⟩
   ·exact ⟨rfl, g'⟩
   ·exact absurd h hz
end Go.Proofs.YtlehncfehoelbaaGreatDoor
