/- The program's tree: a name more. -/
import Derived.Test.YtlehncfehoelbaaGreatDoorCq02
import Derived.Test.YtlehncfehoelbaaGreatDoorCq05
import Derived.Test.YtlehncfehoelbaaGreatDoorCq07
import Derived.Test.YtlehncfehoelbaaGreatDoorCq12
import Derived.Test.YtlehncfehoelbaaGreatDoorCq15
namespace Go.Proofs.YtlehncfehoelbaaGreatDoor
open Go.RowKit
set_option maxRecDepth 100000
set_option linter.unusedSimpArgs false
set_option linter.unusedVariables false
structure Kp (W W' : World) : Prop where
 size : W.heap.size ≤ W'.heap.size
 keep : ∀ (k : Nat) (o : Obj), W.heap[k]? = some o → (∀ cs fr, o ≠ .cells cs 47 fr) → (∀ cs fr, o ≠ .cells cs 43 fr) → W'.heap[k]? = some o
theorem Kp.refl (W : World) : Kp W W := ⟨Nat.le_refl _, fun k o h _ _ => h⟩
theorem Kp.trans {A B C : World} (h : Kp A B) (k : Kp B C) : Kp A C := ⟨Nat.le_trans h.size k.size, fun i o h1 h2 h3 => k.keep i o (h.keep i o h1 h2 h3) h2 h3⟩
theorem Kp.none {W W' : World} (g : W.grownBy W' none) : Kp W W' := ⟨g.size, fun k o h _ _ => by rw [g.block k (Array.getElem?_eq_some_iff.1 h).1 (by simp)]; exact h⟩
theorem Kp.row {W W' : World} {base e s n : Nat} {v : Value} {xs : List Value} (ho : W.ownsRow base e s v n xs) (he : e = 47 ∨ e = 43) (g : W.grownBy W' v.ownBlock) : Kp W W' := by
 refine ⟨g.size, fun k o h h1 h2 => ?_⟩
 rw [g.block k (Array.getElem?_eq_some_iff.1 h).1 ?_]
 ·exact h
 ·rcases ho.2 with ⟨rfl, _⟩ | ⟨q, cap, cur, rfl, _, hq, _⟩
  ·simp [Value.ownBlock]
  ·intro e2
   simp only [Value.ownBlock, Option.some.injEq] at e2
   subst e2
   rw [hq] at h
   injection h with h
   rcases he with he | he
   ·subst he; exact h1 cur (0, 0) h.symm
   ·subst he; exact h2 cur (0, 0) h.symm
theorem Bx.kp {W W' : World} {g T : Nat} {cs : List Value} (h : Bx W g T cs) (k : Kp W W') (h1 : T ≠ 47) (h2 : T ≠ 43) : Bx W' g T cs :=
 ⟨k.keep g _ h.blk (fun c f e => by injection e with _ e; exact h1 e) (fun c f e => by injection e with _ e; exact h2 e)⟩
theorem MapF.kp {W W' : World} {t : TypeId} {b n : Nat} {f : Lit → Option Value} (h : MapF W t b n f) (k : Kp W W') : MapF W' t b n f := by
 obtain ⟨D, ⟨es, clock, hb, r⟩, h2⟩ := h
 exact ⟨D, ⟨es, clock, k.keep b _ hb (fun c f e => by cases e) (fun c f e => by cases e), r⟩, h2⟩
def hangP (u i : Nat) (s : Tx) (dir : Bool) (ns : List No) : List No := if dir then addLink u (setUp i u (addKid u ⟨s, i⟩ ns)) else addLink i (addKid u ⟨s, i⟩ ns)
def HgPost (w W : World) (base g n c u i : Nat) (s : Tx) (l : List NoV) (k : Int) (e : Ending) (w' : World) : Prop := e = .returned (.tuple #[]) ∧ ∃ l', Tq w w' base (.slice (some ⟨g, 0, none⟩) n c) l' ∧ l'.length = n ∧ nos l' = hangP u i s (decide (k = 2)) (nos l) ∧ Kp W w'
theorem wpList_storeC {P : Program} {ops : Array Oper} {rest : List Oper} {o : Oper} {a : Act} {w : World} {Q : Exit → Act → World → Prop} (hgd : o.guard = none) (ty : TypeId) (x y : Operand) (ho : o.op = .store ty x y)
  (g i : Nat) (v : Value) (hx : a.eval x = .pointer (some ⟨g, i, none⟩)) (hy : a.eval y = v) {old : Value} (c : w.cell? ⟨g, i, none⟩ = some old) (f : w.frozen? ⟨g, i, none⟩ = false) (h1 : plV v = true) (hs : ∀ w, (Go.sizeOf ty).run P w = .ok 1 w)
  (h : wpList P ops Q rest (a.put o.dst undef) (w.setCell ⟨g, i, none⟩ v)) : wpList P ops Q (o :: rest) a w := by
 refine wpList_plain hgd fun K hK => ?_
 unfold Oper.wp
 simp only [execOp, ho, hx, hy]
 cases v <;> first
  | (simp [plV] at h1; done)
  | (simp [hs, c, f, go_sem, Result.andThen]
     exact hK _ _ h)
theorem wpList_storeT {P : Program} {ops : Array Oper} {rest : List Oper} {o : Oper} {a : Act} {w W : World} {Q : Exit → Act → World → Prop} (hgd : o.guard = none) (x y : Operand) (ho : o.op = .store 3 x y) {base g n c : Nat} {l : List NoV} (h : Tq w W base (.slice (some ⟨g, 0, none⟩) n c) l) (hn : l.length = n)
  (i f : Nat) (X X' : NoV) (m : Int) (hX : l[i]? = some X) (hf : f < 13) (hx : a.eval x = .pointer (some ⟨g, i * 13 + f, none⟩)) (hy : a.eval y = .int .i64 m) (e : nvc X' = (nvc X).set f (.int .i64 m))
  (hk : X'.da = X.da ∧ X'.dl = X.dl ∧ X'.dc = X.dc ∧ X'.data = X.data ∧ X'.aa = X.aa ∧ X'.al = X.al ∧ X'.ac = X.ac ∧ X'.attrs = X.attrs ∧ X'.ka = X.ka ∧ X'.kl = X.kl ∧ X'.kc = X.kc ∧ X'.kids = X.kids) (hs : ∀ w, (Go.sizeOf 3).run P w = .ok 1 w)
  (hK : ∀ W', Hid (Tq w W' base (.slice (some ⟨g, 0, none⟩) n c) (l.set i X')) → Hid (Kp W W') → wpList P ops Q rest (a.put o.dst undef) W') : wpList P ops Q (o :: rest) a W := by
 have c1 := h.cell hn hX hf
 have hl : f < (nvc X).length := by rw [nvc_len]; exact hf
 rw [List.getElem?_eq_getElem hl] at c1
 exact wpList_storeC hgd 3 x y ho g (i * 13 + f) (.int .i64 m) hx hy c1 (h.froz hn _) rfl hs (hK _ (h.set hn hX hf e hk) (Kp.row h.own (.inr rfl) (grown_set W g (i * 13 + f) _)))
theorem nvc_kids (U : NoV) : (nvc U)[10]? = some (.slice U.ka U.kl U.kc) := rfl
set_option maxHeartbeats 8000000 in
theorem phang_any (w W : World) (base g n c u i : Nat) (s : ByteArray) (l : List NoV) (U N : NoV) (h : Tq w W base (.slice (some ⟨g, 0, none⟩) n c) l) (hn : l.length = n) (hU : l[u]? = some U) (hN : l[i]? = some N) (hk : U.kl ≤ 1000000) (hlm : ∀ X ∈ l, 0 ≤ X.links ∧ X.links ≤ 1000000) (hs : s.size ≤ 1000000) (hnm : n ≤ 100000) (hb : base ≤ W.heap.size) :
  Calls Tryz.prog 68 #[.slice (some ⟨g, 0, none⟩) n c, .int .i64 u, .string s, .int .i64 i] W (HgPost w W base g n c u i s.toList l N.k) := by
 obtain ⟨ik, hi0, hz0, hz1, hz2⟩ := info_parts Tryz.infoK
 have HIK : Hid _ := xai hi0 (xai hz0 (xai hz1 hz2))
 clear hi0 hz0 hz1 hz2
 have hu : u < n := by have := (List.getElem?_eq_some_iff.1 hU).1; omega
 have hi : i < n := by have := (List.getElem?_eq_some_iff.1 hN).1; omega
 have hui : (u : Int) < n := by omega
 have hii : (i : Int) < n := by omega
 have hsc := fun W => psclone_any s W hs
 have HI : Hid _ := xai h (xai hn (xai hU (xai hN hlm)))
 clear h hn hU hN hlm
 go_enter Tryz.func68, Tryz.ntmps68
 go_wp2_with fail
 go_quiet (fail)
 go_wp2_with fail
 rename_i K9 hnext
 have tail : ∀ (W10 : World) (gb : Nat) (ka : Option Addr) (kc : Nat), Hid (Tq w W10 base (.slice (some ⟨g, 0, none⟩) n c) (l.set u { U with ka := ka, kl := U.kl + 1, kc := kc, kids := U.kids ++ [⟨s.toList, i⟩] }) ∧ Kp W W10) → K9 { tmps := #[.slice (some ⟨g, 0, none⟩) n c, .int .i64 u, .string s, .int .i64 i, undef, undef, undef, undef, .pointer (some ⟨g, u * 13, none⟩), .pointer (some ⟨g, i * 13, none⟩), .slice (some ⟨g, 0, none⟩) n c, .int .i64 u, .pointer (some ⟨g, u * 13, none⟩), .slice (some ⟨g, 0, none⟩) n c, .int .i64 i, .pointer (some ⟨g, i * 13, none⟩), .pointer (some ⟨g, u * 13, none⟩), .pointer (some ⟨g, u * 13, none⟩), .pointer (some ⟨g, u * 13, none⟩), .pointer (some ⟨g, u * 13 + 10, none⟩), .slice U.ka U.kl U.kc, .string s, .string s, .int .i64 i, .agg #[.string s, .int .i64 i], .slice (some ⟨gb, 0, none⟩) 1 1, .slice ka (U.kl + 1) kc, .pointer (some ⟨g, u * 13, none⟩), .pointer (some ⟨g, u * 13 + 10, none⟩), undef, undef, undef, undef, undef, undef, undef, undef, undef, undef, undef, undef, undef, undef, undef, undef, undef, undef, undef, undef, undef, undef, undef], defers := [] } W10 := by
  intro W10 gb ka kc HT
  refine hnext _ _ ?_
  clear hnext hsc
  have hul : u < l.length := by rw [HI.out.2.1]; exact hu
  obtain ⟨N2, hN2, hNk⟩ : ∃ N2, (l.set u { U with ka := ka, kl := U.kl + 1, kc := kc, kids := U.kids ++ [⟨s.toList, i⟩] })[i]? = some N2 ∧ N2.k = N.k ∧ 0 ≤ N2.links ∧ N2.links ≤ 1000000 := by
   rw [List.getElem?_set]
   by_cases hq : u = i
   ·subst hq
    rw [if_pos rfl, if_pos hul]
    have e1 := HI.out.2.2.1
    rw [HI.out.2.2.2.1] at e1
    injection e1 with e1
    exact ⟨_, rfl, by rw [← e1], by rw [← e1]; exact HI.out.2.2.2.2 N (List.mem_of_getElem? HI.out.2.2.2.1)⟩
   ·rw [if_neg hq]
    exact ⟨N, HI.out.2.2.2.1, rfl, HI.out.2.2.2.2 N (List.mem_of_getElem? HI.out.2.2.2.1)⟩
  have HN2 : Hid _ := xai hN2 hNk
  have hlen : (l.set u { U with ka := ka, kl := U.kl + 1, kc := kc, kids := U.kids ++ [⟨s.toList, i⟩] }).length = n := by rw [List.length_set, HI.out.2.1]
  have HLN : Hid _ := hlen
  have hnos : nos (l.set u { U with ka := ka, kl := U.kl + 1, kc := kc, kids := U.kids ++ [⟨s.toList, i⟩] }) = addKid u ⟨s.toList, i⟩ (nos l) := nos_set (f := fun n => { n with kids := n.kids ++ [⟨s.toList, i⟩] }) HI.out.2.2.1 rfl
  have HNO : Hid _ := hnos
  have hU2 : (l.set u { U with ka := ka, kl := U.kl + 1, kc := kc, kids := U.kids ++ [⟨s.toList, i⟩] })[u]? = some { U with ka := ka, kl := U.kl + 1, kc := kc, kids := U.kids ++ [⟨s.toList, i⟩] } := by rw [List.getElem?_set_self hul]
  have HU2 : Hid _ := xai hU2 (HI.out.2.2.2.2 U (List.mem_of_getElem? HI.out.2.2.1))
  generalize l.set u { U with ka := ka, kl := U.kl + 1, kc := kc, kids := U.kids ++ [⟨s.toList, i⟩] } = l2 at *
  have ck : W10.cell? ⟨g, i * 13 + 0, none⟩ = some (.int .i64 N.k) := by rw [HT.out.1.cell hlen hN2 (by decide), ← hNk.1]; rfl
  rw [Nat.add_zero] at ck
  have cl : W10.cell? ⟨g, i * 13 + 12, none⟩ = some (.int .i64 N2.links) := by rw [HT.out.1.cell hlen hN2 (by decide)]; rfl
  clear hU2 hN2 hNk hlen hnos hul
  have hlb : 0 ≤ N2.links ∧ N2.links ≤ 1000000 := HN2.out.2.2
  generalize hK0 : N.k = KN at *
  have HKN : Hid _ := hK0
  clear hK0
  by_cases h2 : KN = 2
  ·subst h2
   clear cl
   go_wp2_with ((with_reducible refine int_here ?_); refine wpList_storeT rfl _ _ rfl HT.out.1 HLN.out i 11 N2 { N2 with parent := (u : Int) } u HN2.out.1 (by decide) rfl rfl rfl ⟨rfl, rfl, rfl, rfl, rfl, rfl, rfl, rfl, rfl, rfl, rfl, rfl⟩ size3 ?_; intro W11 HT11 HP11; rename_i hnext; have HNX : Hid _ := hnext; clear hnext)
   have hui2 : u < l2.length := by rw [HLN.out]; exact hu
   obtain ⟨U3, hU3, hU3l⟩ : ∃ U3, (l2.set i { N2 with parent := (u : Int) })[u]? = some U3 ∧ 0 ≤ U3.links ∧ U3.links ≤ 1000000 := by
    rw [List.getElem?_set]
    by_cases hq : i = u
    ·subst hq
     rw [if_pos rfl, if_pos hui2]
     exact ⟨_, rfl, hlb⟩
    ·rw [if_neg hq]
     exact ⟨_, HU2.out.1, HU2.out.2⟩
   have hlen3 : (l2.set i { N2 with parent := (u : Int) }).length = n := by rw [List.length_set, HLN.out]
   have cl3 : W11.cell? ⟨g, u * 13 + 12, none⟩ = some (.int .i64 U3.links) := by rw [HT11.out.cell hlen3 hU3 (by decide)]; rfl
   have HU3 : Hid _ := xai hU3 hlen3
   have hno3 : nos (l2.set i { N2 with parent := (u : Int) }) = setUp i u (nos l2) := nos_set (f := fun n => { n with parent := (u : Int) }) HN2.out.1 rfl
   have HN3 : Hid _ := hno3
   generalize l2.set i { N2 with parent := (u : Int) } = l3 at *
   clear hU3 hlen3 hno3 ck
   have hw : IntKind.i64.wrap (U3.links + 1) = U3.links + 1 := by simp [IntKind.wrap, IntKind.bits, IntKind.signed]; omega
   refine HNX.out _ _ ?_
   clear HNX
   go_wp2_with ((with_reducible refine int_here ?_); refine wpList_storeT rfl _ _ rfl HT11.out HU3.out.2 u 12 U3 { U3 with links := U3.links + 1 } (U3.links + 1) HU3.out.1 (by decide) rfl rfl rfl ⟨rfl, rfl, rfl, rfl, rfl, rfl, rfl, rfl, rfl, rfl, rfl, rfl⟩ size3 ?_; intro W12 HT12 HP12)
   go_end0
   refine ⟨rfl, _, HT12.out, by rw [List.length_set, HU3.out.2], ?_, HT.out.2.trans (HP11.out.trans HP12.out)⟩
   rw [nos_set (f := fun n => { n with links := n.links + 1 }) HU3.out.1 rfl, HN3.out, HNO.out]
   unfold hangP
   first | rw [decide_eq_true (show (2 : Int) = 2 from rfl), if_pos rfl] | rw [HKN.out, decide_eq_true (show (2 : Int) = 2 from rfl), if_pos rfl] | simp
   try rfl
  ·have hb2 : (KN == 2) = false := by rw [beq_eq_false_iff_ne]; exact h2
   have hbn : (KN != 2) = true := by simp [h2]
   have hw : IntKind.i64.wrap (N2.links + 1) = N2.links + 1 := by simp [IntKind.wrap, IntKind.bits, IntKind.signed]; omega
   go_wp2_with ((with_reducible refine int_here ?_); refine wpList_storeT rfl _ _ rfl HT.out.1 HLN.out i 12 N2 { N2 with links := N2.links + 1 } (N2.links + 1) HN2.out.1 (by decide) rfl rfl rfl ⟨rfl, rfl, rfl, rfl, rfl, rfl, rfl, rfl, rfl, rfl, rfl, rfl⟩ size3 ?_; intro W11 HT11 HP11)
   first | go_end0 | refine bodyPost_ret (results_none rfl _ _ _) rfl ?_
   refine ⟨rfl, _, HT11.out, by rw [List.length_set, HLN.out], ?_, HT.out.2.trans HP11.out⟩
   rw [nos_set (f := fun n => { n with links := n.links + 1 }) HN2.out.1 rfl, HNO.out]
   unfold hangP
   first | rw [decide_eq_false h2, if_neg Bool.false_ne_true] | rw [HKN.out, decide_eq_false h2, if_neg Bool.false_ne_true]
   rfl
 clear hnext
 obtain ⟨hT, hn, hU, hN, hlm⟩ := HI.out
 clear HI hN hlm
 have gD0 : W.grownBy (W.drewN nq).drew none := ⟨rfl, rfl, rfl, Nat.le_refl _, fun _ _ _ => rfl⟩
 replace hT := hT.kept gD0
 have hP := Kp.none gD0
 have hbz : base ≤ (W.drewN nq).drew.heap.size := Nat.le_trans hb gD0.size
 have hkdc : kdc ⟨s.toList, i⟩ = [.string s, .int .i64 i] := by unfold kdc; rw [show tx s.toList = s from tl_tx s]
 clear gD0
 have HU0 : Hid _ := xai hn hU
 clear hn hU hb
 refine wp_region_held_drew (S := fun w' => w.grownBy w' none) (by kernel_rfl) hT.gr (fun hH => ?_)
 generalize (W.drewN nq).drew = WD at *
 refine tk (i := 0) (oi := ⟨some 16, _, _, _, _, _⟩) (v := .pointer (some ⟨g, u * 13, none⟩)) rfl (Or.inl ⟨by rfl, fun w hSw => by go_simp⟩) hH ?_
 simp only [Act.put, pu]
 refine tk (i := 1) (oi := ⟨some 17, _, _, _, _, _⟩) (v := .pointer (some ⟨g, u * 13, none⟩)) rfl (Or.inl ⟨by rfl, fun w hSw => by go_simp⟩) hH ?_
 simp only [Act.put, pu]
 refine tk (i := 2) (oi := ⟨some 18, _, _, _, _, _⟩) (v := .pointer (some ⟨g, u * 13, none⟩)) rfl (Or.inl ⟨by rfl, fun w hSw => by go_simp⟩) hH ?_
 simp only [Act.put, pu]
 refine tk (i := 3) (oi := ⟨some 19, _, _, _, _, _⟩) (v := .pointer (some ⟨g, u * 13 + 10, none⟩)) rfl (Or.inl ⟨by rfl, fun w hSw => by go_simp⟩) hH ?_
 simp only [Act.put, pu]
 refine tk (i := 5) (oi := ⟨some 21, _, _, _, _, _⟩) (v := .string s) rfl (Or.inl ⟨by rfl, fun w hSw => by go_simp⟩) hH ?_
 simp only [Act.put, pu]
 refine tk (i := 7) (oi := ⟨some 23, _, _, _, _, _⟩) (v := .int .i64 i) rfl (Or.inl ⟨by rfl, fun w hSw => by go_simp⟩) hH ?_
 simp only [Act.put, pu]
 refine wpAnyH_ready (rs := [4, 6]) (by kernel_rfl) (by simp) ?_
 refine AllReadyH.cons rfl (fun K1 hK => ?_) (AllReadyH.cons rfl (fun K1 hK => ?_) AllReadyH.nil)
 ·skip
  have c1 : _ = some _ := (hT.cell HU0.out.1 HU0.out.2 (f := 10) (by decide)).trans (nvc_kids U)
  go_simp
  refine hK.out _ _ hH (fun h0 => ?_)
  clear h0 hK K1 c1
  try simp only [Act.put, pu]
  refine wpAnyH_ready (rs := [6]) (by kernel_rfl) (by simp) ?_
  refine AllReadyH.cons rfl (fun K1 hK => ?_) AllReadyH.nil
  go_simp
  refine (hsc _).mono ?_
  rintro e W7 ⟨rfl, g7⟩
  replace hT := hT.kept g7
  replace hP := hP.trans (Kp.none g7)
  replace hbz := Nat.le_trans hbz g7.size
  replace hH := xgt hH g7
  clear g7
  refine hK.out _ _ hH (fun h0 => ?_)
  clear h0 hK K1
  try simp only [Act.put, pu]
  refine tk (i := 8) (oi := ⟨some 24, _, _, _, _, _⟩) (v := .agg #[.string s, .int .i64 i]) rfl (Or.inl ⟨by rfl, fun w hSw => by go_simp⟩) hH ?_
  simp only [Act.put, pu]
  refine wpAnyH_ready (rs := [9]) (by kernel_rfl) (by simp) ?_
  refine AllReadyH.cons rfl (fun K1 hK => ?_) AllReadyH.nil
  have g8 := xga W7 (.cells #[.string s, .int .i64 i] 47) none
  have b8 := Bx.new W7 47 [.string s, .int .i64 i]
  go_simp
  replace hT := hT.kept g8
  replace hP := hP.trans (Kp.none g8)
  replace hbz := Nat.le_trans hbz g8.size
  replace hH := xgt hH g8
  change K1 _ (W7.alloc (.cells #[.string s, .int .i64 i] 47))
  change Bx (W7.alloc (.cells #[.string s, .int .i64 i] 47)) _ _ _ at b8
  generalize hW8 : W7.alloc (.cells #[.string s, .int .i64 i] 47) = W8 at *
  clear hW8 g8
  refine hK.out _ _ hH (fun h0 => ?_)
  clear h0 hK K1
  generalize W7.heap.size = gb at *
  try simp only [Act.put, pu]
  refine wpAnyH_ready (rs := [10]) (by kernel_rfl) (by simp) ?_
  refine AllReadyH.cons rfl (fun K1 hK => ?_) AllReadyH.nil
  have hUk := (hT.each u U HU0.out.2).kid
  obtain ⟨v', W9, hrun, hown', hgrow, _, hat⟩ := run_append_own_at (P := Tryz.prog) W8 base 41 41 47 ik _ 2 _ Tryz.underlying41 HIK.out.1 HIK.out.2.1 HIK.out.2.2.1 HIK.out.2.2.2 rfl (by decide) _ _ _ hUk ⟨gb, 0, none⟩ 1 1 [.string s, .int .i64 i] rfl (bx_news b8) (by intro u hu; simp at hu; rcases hu with h | h <;> rw [h] <;> rfl) (by unfold maxLen; omega) (by omega) hbz
  obtain ⟨ka, kc, rfl⟩ : ∃ ka kc, v' = .slice ka (U.kl + 1) kc := own_shape hown'
  have hown2 := hown'
  rw [← hkdc] at hown2
  have hT9 := hT.kid HU0.out.1 HU0.out.2 hown2 rfl hgrow (by rcases hat with h | h; (exact Or.inl h); exact Or.inr ⟨_, h, Nat.le_refl _⟩)
  have hno := hT.own.kept hgrow (owns_ne hT.own hUk (by decide))
  rw [HU0.out.1] at hno
  have hP9 := (hP.trans (Kp.row hUk (.inl rfl) hgrow)).trans (Kp.row hno (.inr rfl) (hno.stored (u * 13 + 10) (.slice ka (U.kl + 1) kc)).2)
  have c9 : W9.cell? ⟨g, u * 13 + 10, none⟩ = some (.slice U.ka U.kl U.kc) := by
   rw [hno.cellAt (u * 13 + 10) (by omega), flat_at nvc 13 nvc_len l u 10 U HU0.out.2 (by decide)]
   rfl
  have f9 : W9.frozen? ⟨g, u * 13 + 10, none⟩ = false := hno.frozenAt _
  have hH9 := grown_ownB hH hUk hgrow hT.low
  clear hH
  have hH := hH9
  clear hH9
  rw [if_pos (by rfl)]
  refine wp_append (u := .slice (some ⟨gb, 0, none⟩) 1 1) rfl rfl rfl hrun (hK.out _ _ hH (fun h0 => ?_))
  clear h0 hK K1 hrun hgrow hT hown' hown2 hat hUk hP hno b8
  try simp only [Act.put, pu]
  refine tk (i := 11) (oi := ⟨some 27, _, _, _, _, _⟩) (v := .pointer (some ⟨g, u * 13, none⟩)) rfl (Or.inl ⟨by rfl, fun w hSw => by go_simp⟩) hH ?_
  simp only [Act.put, pu]
  refine tk (i := 12) (oi := ⟨some 28, _, _, _, _, _⟩) (v := .pointer (some ⟨g, u * 13 + 10, none⟩)) rfl (Or.inl ⟨by rfl, fun w hSw => by go_simp⟩) hH ?_
  simp only [Act.put, pu]
  refine wpAnyH_ready (rs := [13]) (by kernel_rfl) (by simp) ?_
  refine AllReadyH.cons rfl (fun K1 hK => ?_) AllReadyH.nil
  go_simp
  have hH2 := hT9.gr
  refine hK.out _ _ hH2 (fun h0 => ?_)
  clear h0 hK K1
  refine wpAnyH_done (by kernel_rfl) ?_ _
  exact tail _ gb ka kc ⟨hT9, hP9⟩
 ·skip
  go_simp
  refine (hsc _).mono ?_
  rintro e W7 ⟨rfl, g7⟩
  replace hT := hT.kept g7
  replace hP := hP.trans (Kp.none g7)
  replace hbz := Nat.le_trans hbz g7.size
  replace hH := xgt hH g7
  clear g7
  refine hK.out _ _ hH (fun h0 => ?_)
  clear h0 hK K1
  try simp only [Act.put, pu]
  refine tk (i := 8) (oi := ⟨some 24, _, _, _, _, _⟩) (v := .agg #[.string s, .int .i64 i]) rfl (Or.inl ⟨by rfl, fun w hSw => by go_simp⟩) hH ?_
  simp only [Act.put, pu]
  refine wpAnyH_ready (rs := [4, 9]) (by kernel_rfl) (by simp) ?_
  refine AllReadyH.cons rfl (fun K1 hK => ?_) (AllReadyH.cons rfl (fun K1 hK => ?_) AllReadyH.nil)
  ·skip
   have c1 : _ = some _ := (hT.cell HU0.out.1 HU0.out.2 (f := 10) (by decide)).trans (nvc_kids U)
   go_simp
   refine hK.out _ _ hH (fun h0 => ?_)
   clear h0 hK K1 c1
   try simp only [Act.put, pu]
   refine wpAnyH_ready (rs := [9]) (by kernel_rfl) (by simp) ?_
   refine AllReadyH.cons rfl (fun K1 hK => ?_) AllReadyH.nil
   have g8 := xga W7 (.cells #[.string s, .int .i64 i] 47) none
   have b8 := Bx.new W7 47 [.string s, .int .i64 i]
   go_simp
   replace hT := hT.kept g8
   replace hP := hP.trans (Kp.none g8)
   replace hbz := Nat.le_trans hbz g8.size
   replace hH := xgt hH g8
   change K1 _ (W7.alloc (.cells #[.string s, .int .i64 i] 47))
   change Bx (W7.alloc (.cells #[.string s, .int .i64 i] 47)) _ _ _ at b8
   generalize hW8 : W7.alloc (.cells #[.string s, .int .i64 i] 47) = W8 at *
   clear hW8 g8
   refine hK.out _ _ hH (fun h0 => ?_)
   clear h0 hK K1
   generalize W7.heap.size = gb at *
   try simp only [Act.put, pu]
   refine wpAnyH_ready (rs := [10]) (by kernel_rfl) (by simp) ?_
   refine AllReadyH.cons rfl (fun K1 hK => ?_) AllReadyH.nil
   have hUk := (hT.each u U HU0.out.2).kid
   obtain ⟨v', W9, hrun, hown', hgrow, _, hat⟩ := run_append_own_at (P := Tryz.prog) W8 base 41 41 47 ik _ 2 _ Tryz.underlying41 HIK.out.1 HIK.out.2.1 HIK.out.2.2.1 HIK.out.2.2.2 rfl (by decide) _ _ _ hUk ⟨gb, 0, none⟩ 1 1 [.string s, .int .i64 i] rfl (bx_news b8) (by intro u hu; simp at hu; rcases hu with h | h <;> rw [h] <;> rfl) (by unfold maxLen; omega) (by omega) hbz
   obtain ⟨ka, kc, rfl⟩ : ∃ ka kc, v' = .slice ka (U.kl + 1) kc := own_shape hown'
   have hown2 := hown'
   rw [← hkdc] at hown2
   have hT9 := hT.kid HU0.out.1 HU0.out.2 hown2 rfl hgrow (by rcases hat with h | h; (exact Or.inl h); exact Or.inr ⟨_, h, Nat.le_refl _⟩)
   have hno := hT.own.kept hgrow (owns_ne hT.own hUk (by decide))
   rw [HU0.out.1] at hno
   have hP9 := (hP.trans (Kp.row hUk (.inl rfl) hgrow)).trans (Kp.row hno (.inr rfl) (hno.stored (u * 13 + 10) (.slice ka (U.kl + 1) kc)).2)
   have c9 : W9.cell? ⟨g, u * 13 + 10, none⟩ = some (.slice U.ka U.kl U.kc) := by
    rw [hno.cellAt (u * 13 + 10) (by omega), flat_at nvc 13 nvc_len l u 10 U HU0.out.2 (by decide)]
    rfl
   have f9 : W9.frozen? ⟨g, u * 13 + 10, none⟩ = false := hno.frozenAt _
   have hH9 := grown_ownB hH hUk hgrow hT.low
   clear hH
   have hH := hH9
   clear hH9
   rw [if_pos (by rfl)]
   refine wp_append (u := .slice (some ⟨gb, 0, none⟩) 1 1) rfl rfl rfl hrun (hK.out _ _ hH (fun h0 => ?_))
   clear h0 hK K1 hrun hgrow hT hown' hown2 hat hUk hP hno b8
   try simp only [Act.put, pu]
   refine tk (i := 11) (oi := ⟨some 27, _, _, _, _, _⟩) (v := .pointer (some ⟨g, u * 13, none⟩)) rfl (Or.inl ⟨by rfl, fun w hSw => by go_simp⟩) hH ?_
   simp only [Act.put, pu]
   refine tk (i := 12) (oi := ⟨some 28, _, _, _, _, _⟩) (v := .pointer (some ⟨g, u * 13 + 10, none⟩)) rfl (Or.inl ⟨by rfl, fun w hSw => by go_simp⟩) hH ?_
   simp only [Act.put, pu]
   refine wpAnyH_ready (rs := [13]) (by kernel_rfl) (by simp) ?_
   refine AllReadyH.cons rfl (fun K1 hK => ?_) AllReadyH.nil
   go_simp
   have hH2 := hT9.gr
   refine hK.out _ _ hH2 (fun h0 => ?_)
   clear h0 hK K1
   refine wpAnyH_done (by kernel_rfl) ?_ _
   exact tail _ gb ka kc ⟨hT9, hP9⟩
  ·skip
   have g8 := xga W7 (.cells #[.string s, .int .i64 i] 47) none
   have b8 := Bx.new W7 47 [.string s, .int .i64 i]
   go_simp
   replace hT := hT.kept g8
   replace hP := hP.trans (Kp.none g8)
   replace hbz := Nat.le_trans hbz g8.size
   replace hH := xgt hH g8
   change K1 _ (W7.alloc (.cells #[.string s, .int .i64 i] 47))
   change Bx (W7.alloc (.cells #[.string s, .int .i64 i] 47)) _ _ _ at b8
   generalize hW8 : W7.alloc (.cells #[.string s, .int .i64 i] 47) = W8 at *
   clear hW8 g8
   refine hK.out _ _ hH (fun h0 => ?_)
   clear h0 hK K1
   generalize W7.heap.size = gb at *
   try simp only [Act.put, pu]
   refine wpAnyH_ready (rs := [4]) (by kernel_rfl) (by simp) ?_
   refine AllReadyH.cons rfl (fun K1 hK => ?_) AllReadyH.nil
   have c1 : _ = some _ := (hT.cell HU0.out.1 HU0.out.2 (f := 10) (by decide)).trans (nvc_kids U)
   go_simp
   refine hK.out _ _ hH (fun h0 => ?_)
   clear h0 hK K1 c1
   try simp only [Act.put, pu]
   refine wpAnyH_ready (rs := [10]) (by kernel_rfl) (by simp) ?_
   refine AllReadyH.cons rfl (fun K1 hK => ?_) AllReadyH.nil
   have hUk := (hT.each u U HU0.out.2).kid
   obtain ⟨v', W9, hrun, hown', hgrow, _, hat⟩ := run_append_own_at (P := Tryz.prog) W8 base 41 41 47 ik _ 2 _ Tryz.underlying41 HIK.out.1 HIK.out.2.1 HIK.out.2.2.1 HIK.out.2.2.2 rfl (by decide) _ _ _ hUk ⟨gb, 0, none⟩ 1 1 [.string s, .int .i64 i] rfl (bx_news b8) (by intro u hu; simp at hu; rcases hu with h | h <;> rw [h] <;> rfl) (by unfold maxLen; omega) (by omega) hbz
   obtain ⟨ka, kc, rfl⟩ : ∃ ka kc, v' = .slice ka (U.kl + 1) kc := own_shape hown'
   have hown2 := hown'
   rw [← hkdc] at hown2
   have hT9 := hT.kid HU0.out.1 HU0.out.2 hown2 rfl hgrow (by rcases hat with h | h; (exact Or.inl h); exact Or.inr ⟨_, h, Nat.le_refl _⟩)
   have hno := hT.own.kept hgrow (owns_ne hT.own hUk (by decide))
   rw [HU0.out.1] at hno
   have hP9 := (hP.trans (Kp.row hUk (.inl rfl) hgrow)).trans (Kp.row hno (.inr rfl) (hno.stored (u * 13 + 10) (.slice ka (U.kl + 1) kc)).2)
   have c9 : W9.cell? ⟨g, u * 13 + 10, none⟩ = some (.slice U.ka U.kl U.kc) := by
    rw [hno.cellAt (u * 13 + 10) (by omega), flat_at nvc 13 nvc_len l u 10 U HU0.out.2 (by decide)]
    rfl
   have f9 : W9.frozen? ⟨g, u * 13 + 10, none⟩ = false := hno.frozenAt _
   have hH9 := grown_ownB hH hUk hgrow hT.low
   clear hH
   have hH := hH9
   clear hH9
   rw [if_pos (by rfl)]
   refine wp_append (u := .slice (some ⟨gb, 0, none⟩) 1 1) rfl rfl rfl hrun (hK.out _ _ hH (fun h0 => ?_))
   clear h0 hK K1 hrun hgrow hT hown' hown2 hat hUk hP hno b8
   try simp only [Act.put, pu]
   refine tk (i := 11) (oi := ⟨some 27, _, _, _, _, _⟩) (v := .pointer (some ⟨g, u * 13, none⟩)) rfl (Or.inl ⟨by rfl, fun w hSw => by go_simp⟩) hH ?_
   simp only [Act.put, pu]
   refine tk (i := 12) (oi := ⟨some 28, _, _, _, _, _⟩) (v := .pointer (some ⟨g, u * 13 + 10, none⟩)) rfl (Or.inl ⟨by rfl, fun w hSw => by go_simp⟩) hH ?_
   simp only [Act.put, pu]
   refine wpAnyH_ready (rs := [13]) (by kernel_rfl) (by simp) ?_
   refine AllReadyH.cons rfl (fun K1 hK => ?_) AllReadyH.nil
   go_simp
   have hH2 := hT9.gr
   refine hK.out _ _ hH2 (fun h0 => ?_)
   clear h0 hK K1
   refine wpAnyH_done (by kernel_rfl) ?_ _
   exact tail _ gb ka kc ⟨hT9, hP9⟩
end Go.Proofs.YtlehncfehoelbaaGreatDoor
namespace Go.Proofs.YtlehncfehoelbaaGreatDoor
set_option linter.unusedVariables false
set_option linter.unusedSimpArgs false
theorem newO_os {α : Type} [DecidableEq α] (s : Bs α) (t : Tp α) : ∃ r, (newO s t).os = s.os ++ r ∧ r.length ≤ 1 := by
 unfold newO
 split
 ·exact ⟨[], by simp, by simp⟩
 ·exact ⟨_, rfl, by simp⟩
theorem foldl_os {α : Type} [DecidableEq α] (vs : List (Tp α)) (s : Bs α) : ∃ r, (vs.foldl bst s).os = s.os ++ r := by
 induction vs generalizing s with
 | nil => exact ⟨[], by simp⟩
 | cons t vs ih =>
  obtain ⟨r, hr⟩ := ih (bst s t)
  obtain ⟨q, hq, -⟩ := newO_os s t
  exact ⟨q ++ r, by rw [List.foldl_cons, hr]; show (newO s t).os ++ r = _; rw [hq, List.append_assoc]⟩
theorem findIdx_app {β : Type} {p : β → Bool} {a b : List β} (h : ∃ x ∈ a, p x = true) : (a ++ b).findIdx? p = a.findIdx? p := by
 rw [List.findIdx?_append]
 cases e : a.findIdx? p with
 | none =>
  rw [List.findIdx?_eq_none_iff] at e
  obtain ⟨x, hx, k⟩ := h
  have := e x hx
  rw [k] at this
  cases this
 | some i => rfl
theorem upOf_app {α : Type} {os r : List (α × Option Tx)} {q : Tx} (h : ∃ x ∈ os, x.2 = some q) : upOf (os ++ r) q = upOf os q := by
 unfold upOf
 rw [findIdx_app]
 obtain ⟨x, hx, e⟩ := h
 exact ⟨x, hx, decide_eq_true e⟩
theorem inoOf_app {α : Type} [DecidableEq α] {os r : List (α × Option Tx)} {o : α} (h : ∃ x ∈ os, x.1 = o) : inoOf (os ++ r) o = inoOf os o := by
 unfold inoOf
 rw [findIdx_app]
 obtain ⟨x, hx, e⟩ := h
 exact ⟨x, hx, decide_eq_true e⟩
theorem upOf_none {α : Type} {os : List (α × Option Tx)} {q : Tx} (h : ∀ x ∈ os, x.2 ≠ some q) : upOf os q = 0 := by
 unfold upOf
 have : os.findIdx? (fun x => decide (x.2 = some q)) = none := by
  rw [List.findIdx?_eq_none_iff]
  intro x hx
  simpa using h x hx
 rw [this]
theorem upOf_le {α : Type} (os : List (α × Option Tx)) (q : Tx) : upOf os q ≤ os.length := by
 unfold upOf
 split
 ·rename_i j h
  rw [List.findIdx?_eq_some_iff_getElem] at h
  obtain ⟨hj, -⟩ := h
  omega
 ·omega
theorem newO_has {α : Type} [DecidableEq α] (s : Bs α) (t : Tp α) : ∃ x ∈ (newO s t).os, x.1 = t.o := by
 unfold newO
 split
 ·rename_i h
  obtain ⟨x, hx, e⟩ := List.any_eq_true.1 h
  exact ⟨x, hx, of_decide_eq_true e⟩
 ·exact ⟨_, List.mem_append.2 (Or.inr (List.mem_singleton.2 rfl)), rfl⟩
theorem newO_dir {α : Type} [DecidableEq α] (s : Bs α) (t : Tp α) : ∀ x ∈ (newO s t).os, x ∈ s.os ∨ (x.1 = t.o ∧ x.2 = if t.dir = true then some t.p else none) := by
 intro x hx
 unfold newO at hx
 split at hx
 ·exact Or.inl hx
 ·rcases List.mem_append.1 hx with h | h
  ·exact Or.inl h
  ·right
   rw [List.mem_singleton.1 h]
   exact ⟨rfl, rfl⟩
def kidsAt (ns : List No) (j : Nat) : Option (List Kd) := (ns[j]?).map No.kids
theorem kids_modify {ns : List No} {i j : Nat} {f : No → No} (h : ∀ n, (f n).kids = n.kids) : kidsAt (ns.modify i f) j = kidsAt ns j := by
 unfold kidsAt
 rw [List.getElem?_modify]
 cases e : ns[j]? with
 | none => simp
 | some n =>
  by_cases hij : i = j
  ·simp [hij, h]
  ·simp [hij]
theorem kids_link {ns : List No} {i j : Nat} : kidsAt (addLink i ns) j = kidsAt ns j := kids_modify (f := fun n => { n with links := n.links + 1 }) fun _ => rfl
theorem kids_up {ns : List No} {i u j : Nat} : kidsAt (setUp i u ns) j = kidsAt ns j := kids_modify (f := fun n => { n with parent := u }) fun _ => rfl
theorem kids_add {ns : List No} {i j : Nat} {c : Kd} : kidsAt (addKid i c ns) j = (kidsAt ns j).map fun l => if i = j then l ++ [c] else l := by
 unfold kidsAt addKid
 rw [List.getElem?_modify]
 cases e : ns[j]? with
 | none => simp
 | some n =>
  by_cases hij : i = j
  ·simp [hij]
  ·simp [hij]
theorem kids_bst {α : Type} [DecidableEq α] (s : Bs α) (t : Tp α) (j : Nat) : kidsAt (bst s t).ns j = (kidsAt (newO s t).ns j).map fun l => if upOf (newO s t).os (upT t.p) = j then l ++ [⟨lastT t.p, inoOf (newO s t).os t.o⟩] else l := by
 unfold bst
 simp only
 split
 ·rw [kids_link, kids_up, kids_add]
 ·rw [kids_link, kids_add]
theorem len_bst {α : Type} [DecidableEq α] (s : Bs α) (t : Tp α) : (bst s t).ns.length = (newO s t).ns.length := by
 unfold bst addLink setUp addKid
 simp only
 split <;> simp [List.length_modify]
theorem len_newO {α : Type} [DecidableEq α] {s : Bs α} (t : Tp α) (h : s.ns.length = s.os.length + 1) : (newO s t).ns.length = (newO s t).os.length + 1 := by
 unfold newO
 split
 ·exact h
 ·simp; omega
def Ahead {α : Type} [DecidableEq α] (ts : List (Tp α)) : Prop := ∀ (us vs : List (Tp α)) (t : Tp α), ts = us ++ t :: vs → upT t.p = [] ∨ ∃ u ∈ us, u.dir = true ∧ u.p = upT t.p ∧ ∀ (za bs : List (Tp α)), us = za ++ u :: bs → ∀ x ∈ za, x.o ≠ u.o
structure Met {α : Type} [DecidableEq α] (us : List (Tp α)) (os : List (α × Option Tx)) : Prop where
 own : ∀ x ∈ os, ∃ u ∈ us, x.1 = u.o
 dir : ∀ x ∈ os, ∀ q, x.2 = some q → ∃ u ∈ us, u.dir = true ∧ u.p = q
 has : ∀ u ∈ us, ∃ x ∈ os, x.1 = u.o
 fold : ∀ (za bs : List (Tp α)) (u : Tp α), us = za ++ u :: bs → u.dir = true → (∀ x ∈ za, x.o ≠ u.o) → ∃ x ∈ os, x.2 = some u.p
theorem Met.step {α : Type} [DecidableEq α] {us : List (Tp α)} {s : Bs α} (h : Met us s.os) (t : Tp α) : Met (us ++ [t]) (newO s t).os := by
 obtain ⟨r, hr, -⟩ := newO_os s t
 refine ⟨fun x hx => ?_, fun x hx q hq => ?_, fun u hu => ?_, fun za bs u e hd hn => ?_⟩
 ·rcases newO_mem s t x hx with k | k
  ·obtain ⟨u, hu, e⟩ := h.own x k
   exact ⟨u, by simp [hu], e⟩
  ·exact ⟨t, by simp, k⟩
 ·rcases newO_dir s t x hx with k | ⟨-, k⟩
  ·obtain ⟨u, hu, e⟩ := h.dir x k q hq
   exact ⟨u, by simp [hu], e⟩
  ·rw [k] at hq
   split at hq
   ·rename_i hd
    injection hq with hq
    exact ⟨t, by simp, hd, hq⟩
   ·cases hq
 ·rcases List.mem_append.1 hu with k | k
  ·obtain ⟨x, hx, e⟩ := h.has u k
   exact ⟨x, by rw [hr]; simp [hx], e⟩
  ·rw [List.mem_singleton.1 k]
   exact newO_has s t
 ·rcases List.eq_nil_or_concat bs with hb | ⟨bs', b, hb⟩
  ·subst hb
   have e' : us = za ∧ t = u := by
    have := List.append_inj' e rfl
    exact ⟨this.1, by simpa using this.2⟩
   obtain ⟨rfl, rfl⟩ := e'
   refine ⟨(t.o, some t.p), ?_, rfl⟩
   unfold newO
   rw [if_neg, hd]
   ·simp
   ·intro hc
    obtain ⟨x, hx, k⟩ := List.any_eq_true.1 hc
    obtain ⟨v, hv, k2⟩ := h.own x hx
    exact hn v hv (by rw [← k2]; exact of_decide_eq_true k)
  ·subst hb
   have e' : us = za ++ u :: bs' := by
    have : us ++ [t] = (za ++ u :: bs') ++ [b] := by rw [e]; simp
    exact (List.append_inj' this rfl).1
   obtain ⟨x, hx, k⟩ := h.fold za bs' u e' hd hn
   exact ⟨x, by rw [hr]; simp [hx], k⟩
structure Kf {α : Type} [DecidableEq α] (os : List (α × Option Tx)) (us : List (Tp α)) (s : Bs α) : Prop where
 met : Met us s.os
 len : s.ns.length = s.os.length + 1
 up : ∀ u ∈ us, upOf os (upT u.p) ≤ s.os.length
 kids : ∀ j, j ≤ s.os.length → kidsAt s.ns j = some ((us.filter fun t => decide (upOf os (upT t.p) = j)).map fun t => ⟨lastT t.p, inoOf os t.o⟩)
theorem kids_new {α : Type} [DecidableEq α] {s : Bs α} {t : Tp α} (hk : t.nd.kids = []) (hl : s.ns.length = s.os.length + 1) {j : Nat} (hj : j ≤ (newO s t).os.length) : kidsAt (newO s t).ns j = if j ≤ s.os.length then kidsAt s.ns j else some [] := by
 unfold newO at hj ⊢
 split
 ·rename_i h
  rw [if_pos h] at hj
  rw [if_pos hj]
 ·rename_i h
  rw [if_neg h] at hj
  simp at hj
  unfold kidsAt
  by_cases h2 : j ≤ s.os.length
  ·rw [if_pos h2, List.getElem?_append_left (by omega)]
  ·rw [if_neg h2]
   have : j = s.ns.length := by omega
   subst this
   rw [List.getElem?_append_right (Nat.le_refl _)]
   simp [hk]
theorem Kf.step {α : Type} [DecidableEq α] {os : List (α × Option Tx)} {us : List (Tp α)} {s : Bs α} (h : Kf os us s) (t : Tp α) (hk : t.nd.kids = []) (ha : upT t.p = [] ∨ ∃ u ∈ us, u.dir = true ∧ u.p = upT t.p ∧ ∀ (za bs : List (Tp α)), us = za ++ u :: bs → ∀ x ∈ za, x.o ≠ u.o) {r : List (α × Option Tx)} (hos : os = (bst s t).os ++ r) (hroot : ∀ x ∈ os, x.2 ≠ some []) : Kf os (us ++ [t]) (bst s t) := by
 have hso : (bst s t).os = (newO s t).os := rfl
 rw [hso] at hos
 obtain ⟨q, hq, -⟩ := newO_os s t
 -- where it is in, now and at the end
 have hup : upOf (newO s t).os (upT t.p) = upOf os (upT t.p) ∧ upOf os (upT t.p) ≤ s.os.length := by
  rcases ha with e | ⟨u, hu, hd, e, hf⟩
  ·rw [e, upOf_none hroot, upOf_none (fun x hx => hroot x (by rw [hos]; simp [hx]))]
   exact ⟨rfl, Nat.zero_le _⟩
  ·obtain ⟨za, bs, eu⟩ := List.append_of_mem hu
   obtain ⟨x, hx, k⟩ := h.met.fold za bs u eu hd (hf za bs eu)
   rw [e] at k
   have e1 : upOf os (upT t.p) = upOf s.os (upT t.p) := by rw [hos, hq, List.append_assoc]; exact upOf_app ⟨x, hx, k⟩
   have e2 : upOf (newO s t).os (upT t.p) = upOf s.os (upT t.p) := by rw [hq]; exact upOf_app ⟨x, hx, k⟩
   exact ⟨by rw [e1, e2], by rw [e1]; exact upOf_le _ _⟩
 have hino : inoOf (newO s t).os t.o = inoOf os t.o := by rw [hos]; exact (inoOf_app (newO_has s t)).symm
 have hle : s.os.length ≤ (newO s t).os.length := by rw [hq, List.length_append]; omega
 refine ⟨by rw [hso]; exact h.met.step t, by rw [len_bst, hso]; exact len_newO t h.len, fun u hu => ?_, fun j hj => ?_⟩
 ·rw [hso]
  rcases List.mem_append.1 hu with k | k
  ·exact Nat.le_trans (h.up u k) hle
  ·rw [List.mem_singleton.1 k]
   exact Nat.le_trans hup.2 hle
 ·rw [hso] at hj
  rw [kids_bst, kids_new hk h.len hj, hup.1, hino, List.filter_append, List.map_append]
  have e2 : ([t].filter fun u => decide (upOf os (upT u.p) = j)).map (fun u => (⟨lastT u.p, inoOf os u.o⟩ : Kd)) = if upOf os (upT t.p) = j then [⟨lastT t.p, inoOf os t.o⟩] else [] := by
   by_cases e : upOf os (upT t.p) = j
   ·simp [e]
   ·simp [e]
  rw [e2]
  by_cases hjs : j ≤ s.os.length
  ·rw [if_pos hjs, h.kids j hjs]
   by_cases e : upOf os (upT t.p) = j
   ·simp [e]
   ·simp [e]
  ·rw [if_neg hjs]
   have e3 : (us.filter fun u => decide (upOf os (upT u.p) = j)) = [] := by
    rw [List.filter_eq_nil_iff]
    intro u hu
    have := h.up u hu
    simp
    omega
   have e4 : upOf os (upT t.p) ≠ j := by have := hup.2; omega
   rw [e3, if_neg e4]
   simp [e4]
theorem bld_kids {α : Type} [DecidableEq α] {root : No} {ts : List (Tp α)} (hA : Ahead ts) (hr : root.kids = []) (hk : ∀ t ∈ ts, t.nd.kids = [] ∧ t.p ≠ []) (os : List (α × Option Tx)) (hos : (ts.foldl bst ⟨[], [{ root with links := 2 }]⟩).os = os) : Kf os ts (ts.foldl bst ⟨[], [{ root with links := 2 }]⟩) := by
 have start : Kf os [] (⟨[], [{ root with links := 2 }]⟩ : Bs α) := by
  refine ⟨⟨fun x h => (by cases h), fun x h => (by cases h), fun u h => (by cases h), fun za bs u e => by simp at e⟩, rfl, fun u h => (by cases h), fun j hj => ?_⟩
  have : j = 0 := by simpa using hj
  subst this
  show some root.kids = some []
  rw [hr]
 -- no folder's path is empty
 have met : ∀ (vs us : List (Tp α)) (s : Bs α), Met us s.os → Met (us ++ vs) (vs.foldl bst s).os := by
  intro vs
  induction vs with
  | nil => intro us s h; rw [List.append_nil]; exact h
  | cons t vs ih =>
   intro us s h
   have := ih (us ++ [t]) (bst s t) (h.step t)
   rw [List.append_assoc] at this
   exact this
 have hroot : ∀ x ∈ os, x.2 ≠ some [] := by
  intro x hx e
  have := met ts [] ⟨[], [{ root with links := 2 }]⟩ start.met
  rw [hos, List.nil_append] at this
  obtain ⟨u, hu, -, k⟩ := this.dir x hx [] e
  exact (hk u hu).2 k
 have key : ∀ (vs us : List (Tp α)) (s : Bs α), ts = us ++ vs → (vs.foldl bst s).os = os → Kf os us s → Kf os ts (vs.foldl bst s) := by
  intro vs
  induction vs with
  | nil => intro us s e _ h; rw [List.append_nil] at e; rw [e]; exact h
  | cons t vs ih =>
   intro us s e ho h
   rw [List.foldl_cons] at ho ⊢
   obtain ⟨r, hr2⟩ := foldl_os vs (bst s t)
   refine ih (us ++ [t]) (bst s t) (by rw [e]; simp) ho (h.step t (hk t (by rw [e]; simp)).1 (hA us vs t e) (by rw [← ho, hr2]) hroot)
 exact key ts [] _ rfl hos start
theorem lsl_app (a x : Tx) (h : ∀ c ∈ x, c ≠ 47) : lsl (a ++ 47 :: x) (a ++ 47 :: x).length = some a.length := by
 have key : ∀ n, n ≤ x.length → lsl (a ++ 47 :: x) (a.length + 1 + n) = some a.length := by
  intro n
  induction n with
  | zero =>
   intro _
   rw [Nat.add_zero, lsl, if_pos]
   rw [List.getD_eq_getElem?_getD, List.getElem?_append_right (Nat.le_refl _)]
   simp
  | succ n ih =>
   intro hn
   rw [← Nat.add_assoc, lsl, if_neg, ih (by omega)]
   rw [List.getD_eq_getElem?_getD, List.getElem?_append_right (by omega)]
   have e : a.length + 1 + n - a.length = n + 1 := by omega
   rw [e, List.getElem?_cons_succ, List.getElem?_eq_getElem (by omega)]
   exact h _ (List.getElem_mem _)
 have := key x.length (Nat.le_refl _)
 rw [List.length_append, List.length_cons]
 have e : a.length + (x.length + 1) = a.length + 1 + x.length := by omega
 rw [e]
 exact this
theorem lsl_no (x : Tx) (h : ∀ c ∈ x, c ≠ 47) : lsl x x.length = none := by
 have key : ∀ n, n ≤ x.length → lsl x n = none := by
  intro n
  induction n with
  | zero => intro _; rfl
  | succ n ih =>
   intro hn
   rw [lsl, if_neg, ih (by omega)]
   rw [List.getD_eq_getElem?_getD, List.getElem?_eq_getElem (by omega)]
   exact h _ (List.getElem_mem _)
 exact key _ (Nat.le_refl _)
theorem up_app {a x : Tx} (h : ∀ c ∈ x, c ≠ 47) : upT (a ++ 47 :: x) = a ∧ lastT (a ++ 47 :: x) = x := by
 unfold upT lastT
 rw [lsl_app a x h]
 simp only
 refine ⟨by rw [List.take_left], ?_⟩
 rw [show a ++ 47 :: x = (a ++ [47]) ++ x by simp, show a.length + 1 = (a ++ [47]).length by simp, List.drop_left]
theorem up_one {x : Tx} (h : ∀ c ∈ x, c ≠ 47) : upT x = [] ∧ lastT x = x := by
 unfold upT lastT
 rw [lsl_no x h]
 exact ⟨rfl, rfl⟩
theorem jnp_ok {l : List Tx} (h : (jnp l).2 = 0) : l.length ≤ 128 ∧ (∀ p ∈ l, prt p = true) ∧ (joi l).length ≤ 4096 ∧ (jnp l).1 = joi l := by
 unfold jnp at h ⊢
 split at h
 ·cases h
 ·rename_i h1
  rw [if_neg h1]
  split at h
  ·cases h
  ·rename_i h2
   rw [if_neg h2]
   split at h
   ·cases h
   ·rename_i h3
    rw [if_neg h3]
    refine ⟨by omega, fun p hp => ?_, by omega, rfl⟩
    cases e : prt p with
    | true => rfl
    | false => exact absurd (List.any_eq_true.2 ⟨p, hp, by rw [e]; rfl⟩) h2
theorem jnp_of {l : List Tx} (h1 : l.length ≤ 128) (h2 : ∀ p ∈ l, prt p = true) (h3 : (joi l).length ≤ 4096) : jnp l = (joi l, 0) := by
 unfold jnp
 rw [if_neg (by omega), if_neg, if_neg (by omega)]
 intro h
 obtain ⟨p, hp, e⟩ := List.any_eq_true.1 h
 rw [h2 p hp] at e
 cases e
theorem up_parts {x : En} (h : pth x = 0) (hn : x.path ≠ []) : (upT x.path = [] ∧ (spl x.path).1 = [lastT x.path]) ∨ ((spl (upT x.path)).1 ++ [lastT x.path] = (spl x.path).1 ∧ (spl (upT x.path)).1 ≠ []) := by
 unfold pth at h
 rw [if_neg hn] at h
 split at h
 ·cases h
 ·split at h
  ·cases h
  ·split at h
   ·cases h
   ·rename_i h3
    have hj2 : (jnp (spl x.path).1).2 = 0 := Classical.byContradiction fun e => h3 (Or.inl e)
    have hj1 : (jnp (spl x.path).1).1 = x.path := Classical.byContradiction fun e => h3 (Or.inr e)
    obtain ⟨k1, k2, k3, k4⟩ := jnp_ok hj2
    generalize (spl x.path).1 = L at *
    rw [k4] at hj1
    rcases List.eq_nil_or_concat L with e | ⟨M, y, e⟩
    ·subst e
     exact absurd hj1.symm hn
    ·rw [List.concat_eq_append] at e
     subst e
     have hy : ∀ c ∈ y, c ≠ 47 := fun c hc => ((prt_facts (k2 y (by simp))).1 c hc).1
     by_cases hM : M = []
     ·subst hM
      left
      have e : joi ([] ++ [y]) = y := rfl
      rw [e] at hj1
      rw [← hj1]
      obtain ⟨u1, u2⟩ := up_one hy
      exact ⟨u1, by rw [u2]; rfl⟩
     ·right
      rw [joi_snoc M y hM] at hj1 k3
      rw [← hj1]
      obtain ⟨u1, u2⟩ := up_app (a := joi M) hy
      rw [u1, u2]
      have hs : spl (joi M) = (M, 0) := by
       have hj := jnp_of (l := M) (by simp at k1; omega) (fun p hp => k2 p (by simp [hp])) (by rw [List.length_append] at k3; omega)
       have := spl_joi (l := M) (by rw [hj])
       rwa [hj] at this
      rw [hs]
      exact ⟨by simp, hM⟩
theorem up_lt {x : En} (h : pth x = 0) (hn : x.path ≠ []) (hu : upT x.path ≠ []) : plt (upT x.path) x.path := by
 rcases up_parts h hn with ⟨e, -⟩ | ⟨e, -⟩
 ·exact absurd e hu
 ·unfold plt
  rw [← e]
  exact ord_snoc _ _
theorem folder_mem {l : List En} {p : Tx} (h : folder l p = true) : ∃ z ∈ l, z.path = p ∧ z.k = 2 := by
 unfold folder at h
 obtain ⟨z, hz, e⟩ := List.any_eq_true.1 h
 rw [Bool.and_eq_true, decide_eq_true_iff, decide_eq_true_iff] at e
 exact ⟨z, hz, e⟩
theorem trs_ahead {l : List En} (ok : OkS l) : Ahead (trs l) := by
 intro us vs t e
 have ht : t ∈ trs l := by rw [e]; simp
 have nt := nm_of ok ht
 obtain ⟨x, hx, hxp, -⟩ := nt.x
 by_cases hu : upT t.p = []
 ·exact Or.inl hu
 ·right
  rw [← hxp] at hu ⊢
  have okx := ok.each x hx
  have hxn : x.path ≠ [] := by rw [hxp]; exact nt.ne
  rcases okx.up with k | k
  ·exact absurd k hu
  ·obtain ⟨z, hz, ez, kz⟩ := folder_mem k
   have hin : upT x.path ∈ psL (pths l) := (psL_mem ok.rt _).2 ⟨List.mem_map.2 ⟨z, hz, ez⟩, hu⟩
   have hm : tpOf l (upT x.path) ∈ trs l := List.mem_map.2 ⟨_, hin, rfl⟩
   have el : look l (upT x.path) = z := by rw [← ez]; exact look_mem ok.once hz
   have eo : opath z = upT x.path := by unfold opath; rw [if_neg (by rw [kz]; decide)]; exact ez
   have hd : (tpOf l (upT x.path)).dir = true := by show decide ((look l (opath (look l (upT x.path)))).k = 2) = true; rw [el, eo, el]; exact decide_eq_true kz
   have hlt : plt (upT x.path) x.path := up_lt okx.path hxn hu
   -- it stands ahead
   have hsort := psL_sorted ok.rt
   rw [← trs_paths, e, List.map_append, List.map_cons, List.pairwise_append, List.pairwise_cons] at hsort
   have hus : tpOf l (upT x.path) ∈ us := by
    rw [e] at hm
    rcases List.mem_append.1 hm with m | m
    ·exact m
    ·exfalso
     rcases List.mem_cons.1 m with m | m
     ·have : upT x.path = t.p := congrArg Tp.p m
      rw [this, hxp] at hlt
      exact plt_irrefl _ hlt
     ·have h1 : plt t.p (upT x.path) := hsort.2.1.1 _ (List.mem_map.2 ⟨_, m, rfl⟩)
      rw [← hxp] at h1
      exact plt_asymm hlt h1
   refine ⟨_, hus, hd, rfl, fun za bs e2 y hy eq => ?_⟩
   have hym : y ∈ trs l := by rw [e, e2]; simp [hy]
   have ny := nm_of ok hym
   have hyd : y.dir = true := by rw [(nm_same ok ny (nm_of ok hm) eq).2]; exact hd
   have e3 := nm_dir ok hym hyd
   have e4 := nm_dir ok hm hd
   rw [eq, e4] at e3
   have e5 : (tpOf l (upT x.path)) = y := trs_inj hm hym e3
   -- one name twice in a list in order
   have hs2 := psL_sorted ok.rt
   rw [← trs_paths, e, e2, List.map_append, List.map_append, List.pairwise_append, List.pairwise_append] at hs2
   have h6 := hs2.1.2.2 y.p (List.mem_map.2 ⟨y, hy, rfl⟩) (tpOf l (upT x.path)).p (by simp)
   rw [e5] at h6
   exact plt_irrefl _ h6
theorem canon_kids {l : List En} (ok : OkS l) : ∃ os, Kf os (trs l) ((trs l).foldl bst ⟨[], [{ ndOf (look l []) with links := 2 }]⟩) ∧ ((trs l).foldl bst ⟨[], [{ ndOf (look l []) with links := 2 }]⟩).os = os := by
 refine ⟨_, bld_kids (trs_ahead ok) rfl (fun t ht => ?_) _ rfl, rfl⟩
 have nt := nm_of ok ht
 obtain ⟨y, -, -, -, a3, -⟩ := nt.y
 exact ⟨by rw [a3]; rfl, nt.ne⟩
end Go.Proofs.YtlehncfehoelbaaGreatDoor
namespace Go.Proofs.YtlehncfehoelbaaGreatDoor
open Go.RowKit
set_option maxRecDepth 100000
def fstI : List En → Tx → Option Nat
 | [], _ => none
 | x :: r, p => if x.path = p then some 0 else (fstI r p).map (· + 1)
theorem fstI_snoc (l : List En) (x : En) (p : Tx) : fstI (l ++ [x]) p = match fstI l p with
  | some i => some i
  | none => if x.path = p then some l.length else none := by
 induction l with
 | nil => simp [fstI]
 | cons y r ih =>
  simp only [List.cons_append, fstI]
  by_cases h : y.path = p
  ·rw [if_pos h, if_pos h]
  ·rw [if_neg h, if_neg h, ih]
   cases fstI r p with
   | some i => rfl
   | none => by_cases k : x.path = p <;> simp [k]
theorem fstI_none {l : List En} {p : Tx} (h : fstI l p = none) : ∀ x ∈ l, x.path ≠ p := by
 induction l with
 | nil => intro x hx; cases hx
 | cons y r ih =>
  simp only [fstI] at h
  by_cases k : y.path = p
  ·rw [if_pos k] at h; cases h
  ·rw [if_neg k] at h
   intro x hx
   rcases List.mem_cons.1 hx with rfl | hx
   ·exact k
   ·exact ih (by cases e : fstI r p with
     | none => rfl
     | some i => rw [e] at h; cases h) x hx
theorem fstI_some {l : List En} {p : Tx} {i : Nat} (h : fstI l p = some i) : ∃ x, l[i]? = some x ∧ x.path = p ∧ ∀ j y, j < i → l[j]? = some y → y.path ≠ p := by
 induction l generalizing i with
 | nil => simp [fstI] at h
 | cons y r ih =>
  simp only [fstI] at h
  by_cases k : y.path = p
  ·rw [if_pos k] at h
   injection h with h
   subst h
   exact ⟨y, rfl, k, fun j z hj => absurd hj (Nat.not_lt_zero j)⟩
  ·rw [if_neg k] at h
   cases e : fstI r p with
   | none => rw [e] at h; cases h
   | some m =>
    rw [e] at h
    injection h with h
    simp only at h
    subst h
    obtain ⟨x, h1, h2, h3⟩ := ih e
    refine ⟨x, h1, h2, fun j z hj hz => ?_⟩
    cases j with
    | zero => injection hz with hz; rw [← hz]; exact k
    | succ j => exact h3 j z (by omega) hz
theorem folder_snoc (l : List En) (x : En) (p : Tx) : folder (l ++ [x]) p = (folder l p || (decide (x.path = p) && decide (x.k = 2))) := by
 unfold folder; rw [List.any_append]; simp
theorem thing_snoc (l : List En) (x : En) (p : Tx) : thing (l ++ [x]) p = (thing l p || (decide (x.path = p) && inI x.k 1 5 && decide (x.k ≠ 2))) := by
 unfold thing; rw [List.any_append]; simp
theorem folder_none {l : List En} {p : Tx} (h : fstI l p = none) : folder l p = false := by
 unfold folder; rw [List.any_eq_false]; intro x hx; simp [fstI_none h x hx]
theorem thing_none {l : List En} {p : Tx} (h : fstI l p = none) : thing l p = false := by
 unfold thing; rw [List.any_eq_false]; intro x hx; simp [fstI_none h x hx]
def plE (l : List En) (p : Tx) : Option Value := (fstI l p).map fun i => .agg #[.int .i64 (i : Int), .bool (folder l p), .bool (thing l p)]
def plZ : Value := .agg #[.int .i64 0, .bool false, .bool false]
def plK (l : List En) : Lit → Option Value
 | .string p => plE l p
 | _ => none
def plF (l : List En) (p : Tx) : Int := match fstI l p with
 | some i => i
 | none => 0
theorem plE_getD (l : List En) (p : Tx) : (plE l p).getD plZ = .agg #[.int .i64 (plF l p), .bool (folder l p), .bool (thing l p)] := by
 unfold plE plF plZ
 cases h : fstI l p with
 | some i => rfl
 | none => rw [folder_none h, thing_none h]; rfl
theorem plE_isSome (l : List En) (p : Tx) : (plE l p).isSome = (fstI l p).isSome := by
 unfold plE; cases fstI l p <;> rfl
theorem plE_same (l : List En) (x : En) : plE (l ++ [x]) x.path = some (.agg #[.int .i64 (bif (fstI l x.path).isSome then plF l x.path else (l.length : Int)), .bool (folder l x.path || decide (x.k = 2)), .bool (thing l x.path || (inI x.k 1 5 && decide (x.k ≠ 2)))]) := by
 unfold plE plF
 rw [fstI_snoc, folder_snoc, thing_snoc]
 cases h : fstI l x.path with
 | some i => simp
 | none => simp
theorem plE_other (l : List En) (x : En) {p : Tx} (h : p ≠ x.path) : plE (l ++ [x]) p = plE l p := by
 unfold plE
 rw [fstI_snoc, folder_snoc, thing_snoc]
 have h2 : ¬ x.path = p := fun e => h e.symm
 cases e : fstI l p with
 | some i => simp [h2]
 | none => simp [h2]
theorem plK_snoc (l : List En) (x : En) (f : Lit → Option Value) (hf : f = plK l) {kl : Lit} {v : Value} (hk : kl = .string x.path) (hv : some v = plE (l ++ [x]) x.path) : (fun y => if y.sameKey kl then some v else f y) = plK (l ++ [x]) := by
 subst hf hk
 funext y
 cases y with
 | string p =>
  by_cases h : p = x.path
  ·rw [h]
   show (if (Lit.string x.path).sameKey (Lit.string x.path) then some v else plE l x.path) = plE (l ++ [x]) x.path
   rw [if_pos (WideAt.sameKey_self (by simp [WideAt.IsKeyLit])), hv]
  ·have : (Lit.string p).sameKey (Lit.string x.path) = false := by
    cases hs : (Lit.string p).sameKey (Lit.string x.path)
    ·rfl
    ·have := WideAt.sameKey_eq hs
     injection this with this
     exact absurd this h
   show (if (Lit.string p).sameKey (Lit.string x.path) then some v else plE l p) = plE (l ++ [x]) p
   rw [this, plE_other l x h]
   rfl
 | _ => rfl
end Go.Proofs.YtlehncfehoelbaaGreatDoor
namespace Go.Proofs.YtlehncfehoelbaaGreatDoor
set_option linter.unusedVariables false
set_option linter.unusedSimpArgs false
theorem look_root {l : List En} (h : ∀ x ∈ l, x.path ≠ []) (p : Tx) : look (rootE :: l) p = look l p := by
 by_cases hp : p = []
 ·subst hp
  rw [look_none (l := l) (fun k => by obtain ⟨x, hx, e⟩ := List.mem_map.1 k; exact h x hx e)]
  rfl
 ·unfold look
  rw [List.find?_cons_of_neg]
  simp only [decide_eq_true_eq]
  exact fun e => hp e.symm
theorem ok_root {l : List En} (ok : OkS l) (h : ∀ x ∈ l, x.path ≠ []) : OkS (rootE :: l) := by
 refine ⟨?_, fun x hx => ?_⟩
 ·show (rootE.path :: pths l).Nodup
  rw [List.nodup_cons]
  exact ⟨fun k => by obtain ⟨x, hx, e⟩ := List.mem_map.1 k; exact h x hx e, ok.once⟩
 ·rcases List.mem_cons.1 hx with rfl | hx
  ·exact ⟨rfl, rfl, Or.inl rfl, fun k => (by cases k), fun _ => by decide⟩
  ·have o := ok.each x hx
   refine ⟨o.kind, o.path, ?_, fun k => ?_, o.fld⟩
   ·rcases o.up with u | u
    ·exact Or.inl u
    ·right; unfold folder at u ⊢; rw [List.any_cons, u, Bool.or_true]
   ·have u := o.hard k
    unfold thing at u ⊢; rw [List.any_cons, u, Bool.or_true]
theorem canon_root {l : List En} (ok : OkS l) (h : ∀ x ∈ l, x.path ≠ []) : canon (rootE :: l) = canon l := by
 unfold canon
 have e1 : tpOf (rootE :: l) = tpOf l := by funext p; unfold tpOf; simp only [look_root h]
 have e2 : psL (pths (rootE :: l)) = psL (pths l) := sorted_eq (psL_sorted (ok_root ok h).rt) (psL_sorted ok.rt) fun p => by
  rw [psL_mem (ok_root ok h).rt, psL_mem ok.rt]
  show (p ∈ rootE.path :: pths l ∧ p ≠ []) ↔ _
  rw [List.mem_cons]
  constructor
  ·rintro ⟨e | e, k⟩
   ·exact absurd e k
   ·exact ⟨e, k⟩
  ·rintro ⟨e, k⟩
   exact ⟨.inr e, k⟩
 rw [e1, e2, look_root h]
theorem map_on {α β : Type} (f : α → β) : ∀ (a b : List α), (∀ x ∈ a, ∀ y ∈ b, f x = f y → x = y) → a.map f = b.map f → a = b
 | [], [], _, _ => rfl
 | [], _ :: _, _, h => by simp at h
 | _ :: _, [], _, h => by simp at h
 | x :: a, y :: b, hi, h => by
  simp only [List.map_cons, List.cons.injEq] at h
  rw [hi x (by simp) y (by simp) h.1, map_on f a b (fun x hx y hy => hi x (by simp [hx]) y (by simp [hy])) h.2]
theorem plt_nil {l : List En} {x : En} (ok : OkE l x) (hn : x.path ≠ []) : plt [] x.path := by
 have h := ok.rgt hn
 unfold rgtP at h
 unfold plt
 cases hs : (spl x.path).1 with
 | nil => rw [hs] at h; exact absurd h.symm hn
 | cons a r => rfl
theorem ord_of {l : List En} (ok : OkS l) {r : Nat} {x : En} (hr : l[r]? = some x) (hx : x.path = []) {o : List Nat} (hp : o.Perm (List.range l.length)) (hs : o.Pairwise fun i j => ¬ ord (spl ((pths l).getD j [])).1 (spl ((pths l).getD i [])).1 < 0) : o = r :: ordL (pths l) := by
 have hlt : ∀ i ∈ o, i < l.length := fun i hi => List.mem_range.1 (hp.mem_iff.1 hi)
 have hnd : o.Nodup := hp.nodup_iff.2 List.nodup_range
 have hacc := ordr_acc ok.rt ((pths l).length + 1) [] (Acc.nil _) (by have := left_le (pths l) []; omega)
 have hrl : r < l.length := (List.getElem?_eq_some_iff.1 hr).1
 have er : (pths l).getD r [] = [] := by rw [pths_getD hr, hx]
 have hpl : (pths l).length = l.length := by unfold pths; rw [List.length_map]
 have hone : ∀ i j, i < l.length → j < l.length → (pths l).getD i [] = (pths l).getD j [] → i = j := fun i j hi hj e => ok.rt.once i j (by omega) (by omega) e
 have hnil : ∀ i, i < l.length → i ≠ r → (pths l).getD i [] ≠ [] := fun i hi hn e => hn (hone i r hi hrl (by rw [e, er]))
 have hfirst : ∀ i, i < l.length → i ≠ r → plt [] ((pths l).getD i []) := fun i hi hn => by
  have e := pths_getD (List.getElem?_eq_getElem hi)
  have := hnil i hi hn
  rw [e] at this ⊢
  exact plt_nil (ok.each _ (List.getElem_mem hi)) this
 have tot : ∀ i j, i < l.length → j < l.length → i ≠ j → plt ((pths l).getD i []) ((pths l).getD j []) ∨ plt ((pths l).getD j []) ((pths l).getD i []) := fun i j hi hj hn => by
  by_cases h1 : i = r
  ·subst h1; left; rw [er]; exact hfirst j hj (fun e => hn e.symm)
  ·by_cases h2 : j = r
   ·subst h2; right; rw [er]; exact hfirst i hi hn
   ·exact ok.rt.total (by omega) (by omega) (hnil i hi h1) (hnil j hj h2) hn
 have hmem : ∀ i, i ∈ r :: ordL (pths l) ↔ i < l.length := fun i => by
  rw [List.mem_cons]
  constructor
  ·rintro (rfl | h)
   ·exact hrl
   ·have := (hacc.1.lt i h).1; omega
  ·intro h
   by_cases h1 : i = r
   ·exact .inl h1
   ·exact .inr (hacc.2 i (by omega) (hnil i h h1))
 apply map_on (fun i => (pths l).getD i [])
 ·exact fun x hx y hy e => hone x y (hlt x hx) ((hmem y).1 hy) e
 ·apply sorted_eq
  ·rw [List.pairwise_map]
   refine List.Pairwise.imp_of_mem ?_ (hs.and hnd)
   intro i j hi hj h
   rcases tot i j (hlt i hi) (hlt j hj) h.2 with k | k
   ·exact k
   ·exact absurd (ord_neg.2 k) h.1
  ·rw [List.map_cons, List.pairwise_cons]
   refine ⟨fun p hp => ?_, psL_sorted ok.rt⟩
   obtain ⟨i, hi, e⟩ := List.mem_map.1 hp
   subst e
   have k := hacc.1.lt i hi
   rw [er]
   refine hfirst i (by omega) fun e => k.2 (by rw [e, er])
  ·intro p
   constructor
   ·intro h
    obtain ⟨i, hi, e⟩ := List.mem_map.1 h
    exact List.mem_map.2 ⟨i, (hmem i).2 (hlt i hi), e⟩
   ·intro h
    obtain ⟨i, hi, e⟩ := List.mem_map.1 h
    exact List.mem_map.2 ⟨i, hp.mem_iff.2 (List.mem_range.2 ((hmem i).1 hi)), e⟩
end Go.Proofs.YtlehncfehoelbaaGreatDoor
