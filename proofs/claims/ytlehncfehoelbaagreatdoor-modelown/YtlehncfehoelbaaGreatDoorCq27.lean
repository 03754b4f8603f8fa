/- The program's tree: what List tells, in the tree's own memory. -/
import Derived.Defers
import Derived.Recover
import Derived.Test.YtlehncfehoelbaaGreatDoorCq22
import Derived.Test.YtlehncfehoelbaaGreatDoorCq23
import Derived.Test.YtlehncfehoelbaaGreatDoorCq24
import Derived.Test.YtlehncfehoelbaaGreatDoorCq26
namespace Go.Proofs.YtlehncfehoelbaaGreatDoor
open Go.RowKit
set_option maxRecDepth 100000
set_option linter.unusedSimpArgs false
set_option linter.unusedVariables false
theorem lcatch_pan (p q : Addr) (x y : Value) (u : TypeId) (pv : Value) (older : List PanicEntry) (w : World) (hc : w.cell? p = some x) (hz : w.frozen? p = false) (hc2 : w.cell? q = some y) (hz2 : w.frozen? q = false) (hx : x.oneCell' = true) (hpq : p.block ≠ q.block) :
  CallsD Tryz.prog 79 #[.pointer (some p), .pointer (some q)] (.panicking ({ v := .iface u pv, recovered := false } :: older)) w fun e u' w' =>
   e = .returned (.tuple #[]) ∧ u' = .panicking ({ v := .iface u pv, recovered := true } :: older) ∧ w' = (w.setCell p (.slice none 0 0)).setCell q (.int .i64 1) := by
 have hc3 : (w.setCell p (.slice none 0 0)).cell? q = some y := by rw [World.cell?_setCell_far _ _ _ _ hpq]; exact hc2
 refine callsD_of_wpS Tryz.func79 rfl fun c₀ cs hu => ?_
 apply wpS_seq
 apply wpS_region
 simp [wpOpsS, go_sem, recoverD, hu, Tryz.ntmps79, Exit.thenS]
 refine wpS_cond (t := true) (by simp [Act.eval, Array.replicate]) ?_
 simp only [if_true]
 apply wpS_region
 simp [wpOpsS, go_sem, hc, hz, hc3, hz2, bodyPostS, results, Tryz.results79]
theorem lcatch_idle (p q : Addr) (w : World) :
  CallsD Tryz.prog 79 #[.pointer (some p), .pointer (some q)] .returning w fun e u' w' => e = .returned (.tuple #[]) ∧ u' = .returning ∧ w' = w := by
 refine callsD_of_wpS Tryz.func79 rfl fun c₀ cs hu => ?_
 apply wpS_seq
 apply wpS_region
 simp [wpOpsS, go_sem, recoverD, hu, Tryz.ntmps79, Exit.thenS]
 refine wpS_cond (t := false) (by simp [Act.eval, Array.replicate]) ?_
 simp only [Bool.false_eq_true, if_false]
 refine wpS_of_wp (wp_skip ?_)
 cases c₀
 simp_all [bodyPostS, results, Tryz.results79]
def Tells (ns : List No) (s : Wk) : Prop := meetP ns (ns.length + 1) ⟨[], []⟩ 0 [] = some s ∧ (chk11 (s.list.map (enL ns))).2 = 0 ∧ canon (s.list.map (enL ns)) = ns
def LgPost (w : World) (ns : List NoV) (e : Ending) (w' : World) : Prop :=
 (e = .returned (.tuple #[.slice none 0 0, .int .i64 1]) ∧ w.grownBy w' none ∧ ∀ s, ¬ Tells (nos ns) s) ∨
 ∃ s va vc, Tells (nos ns) s ∧ e = .returned (.tuple #[.slice va s.list.length vc, .int .i64 0]) ∧ Eo w w' w.heap.size (.slice va s.list.length vc) (s.list.map (evL ns))
theorem sz_alloc (w : World) (o : Obj) : (w.alloc o).heap.size = w.heap.size + 1 := by
 show (w.heap.push o).size = _
 simp
theorem ens_evL (ns : List NoV) (l : List Le) : ens (l.map (evL ns)) = l.map (enL (nos ns)) := by
 unfold ens
 rw [List.map_map]
 apply List.map_congr_left
 intro x _
 exact evL_en ns x
set_option maxHeartbeats 16000000 in
theorem plisting_any (na : Option Addr) (n nc : Nat) (ns : List NoV) (w : World) (hN : Nos w na n ns) (hc : ∀ N ∈ ns, Ncp N) (hsm : ∀ s, meetP (nos ns) (n + 1) ⟨[], []⟩ 0 [] = some s → s.list.length ≤ 16384) :
  Calls Tryz.prog 42 #[.agg #[.slice na n nc]] w (LgPost w ns) := by
 have hmf : ∀ (fn : Fn) (first cap : Array Value) (w : World), (Instr.makeFunc fn first cap).run Tryz.prog w = .ok (.func fn first cap) w := fun _ _ _ _ => rfl
 have hmm : ∀ w : World, (Instr.makeMap 130 none).run Tryz.prog w = .ok (.map (some w.heap.size)) (w.alloc (.map #[] 0)) := fun w => by
  simp only [Instr.makeMap, Sem.run_bind, run_underlying Tryz.underlying130, Result.andThen, asInt, Sem.run_pure]
  rfl
 have hnl : (nos ns).length = n := by rw [nos_len, hN.len_eq]
 have HN : Hid _ := xai hN (xai hc (xai hsm hnl))
 clear hN hc hsm hnl
 have hsz : (((w.alloc (.cells #[.slice na n nc] 33)).alloc (.cells #[.slice none 0 0] 22)).alloc (.cells #[.int .i64 0] 34)).heap.size = w.heap.size + 1 + 1 + 1 := by simp only [sz_alloc]
 have g3 : w.grownBy (((w.alloc (.cells #[.slice na n nc] 33)).alloc (.cells #[.slice none 0 0] 22)).alloc (.cells #[.int .i64 0] 34)) none := xgt (xgt (xga _ _ none) (xga _ _ none)) (xga _ _ none)
 have bt : Bx (((w.alloc (.cells #[.slice na n nc] 33)).alloc (.cells #[.slice none 0 0] 22)).alloc (.cells #[.int .i64 0] 34)) w.heap.size 33 [.slice na n nc] := ((Bx.new w 33 [.slice na n nc]).kept (xga _ _ none)).kept (xga _ _ none)
 have bl : Bx (((w.alloc (.cells #[.slice na n nc] 33)).alloc (.cells #[.slice none 0 0] 22)).alloc (.cells #[.int .i64 0] 34)) (w.heap.size + 1) 22 [.slice none 0 0] := by
  have h := (Bx.new (w.alloc (.cells #[.slice na n nc] 33)) 22 [.slice none 0 0]).kept (xga _ (.cells #[.int .i64 0] 34) none)
  have e : (w.alloc (.cells #[.slice na n nc] 33)).heap.size = w.heap.size + 1 := by simp only [sz_alloc]
  rw [e] at h
  exact h
 have be : Bx (((w.alloc (.cells #[.slice na n nc] 33)).alloc (.cells #[.slice none 0 0] 22)).alloc (.cells #[.int .i64 0] 34)) (w.heap.size + 1 + 1) 34 [.int .i64 0] := by
  have h := Bx.new ((w.alloc (.cells #[.slice na n nc] 33)).alloc (.cells #[.slice none 0 0] 22)) 34 [.int .i64 0]
  have e : ((w.alloc (.cells #[.slice na n nc] 33)).alloc (.cells #[.slice none 0 0] 22)).heap.size = w.heap.size + 1 + 1 := by simp only [sz_alloc]
  rw [e] at h
  exact h
 have hWm : Wm (((w.alloc (.cells #[.slice na n nc] 33)).alloc (.cells #[.slice none 0 0] 22)).alloc (.cells #[.int .i64 0] 34)) (((((w.alloc (.cells #[.slice na n nc] 33)).alloc (.cells #[.slice none 0 0] 22)).alloc (.cells #[.int .i64 0] 34)).alloc (.map #[] 0)).alloc (.cells #[.slice na n nc, .map (some (w.heap.size + 1 + 1 + 1)), .slice none 0 0] 132)) (w.heap.size + 1 + 1 + 1 + 1) (w.heap.size + 1 + 1 + 1) na n nc ns ⟨[], []⟩ none 0 := by
  have hm := (MapF.made (((w.alloc (.cells #[.slice na n nc] 33)).alloc (.cells #[.slice none 0 0] 22)).alloc (.cells #[.int .i64 0] 34)) 3).kept (xga _ (.cells #[.slice na n nc, .map (some (w.heap.size + 1 + 1 + 1)), .slice none 0 0] 132) none) (by simp)
  have hb := Bx.new ((((w.alloc (.cells #[.slice na n nc] 33)).alloc (.cells #[.slice none 0 0] 22)).alloc (.cells #[.int .i64 0] 34)).alloc (.map #[] 0)) 132 [.slice na n nc, .map (some (w.heap.size + 1 + 1 + 1)), .slice none 0 0]
  have e : ((((w.alloc (.cells #[.slice na n nc] 33)).alloc (.cells #[.slice none 0 0] 22)).alloc (.cells #[.int .i64 0] 34)).alloc (.map #[] 0)).heap.size = w.heap.size + 1 + 1 + 1 + 1 := by simp only [sz_alloc]
  rw [e] at hb
  rw [hsz] at hm
  refine ⟨⟨xgt (xga _ _ none) (xga _ _ none), Nat.le_refl _, World.ownsRow_nil _ _ _ _, fun X h => by cases h⟩, hb, by rw [hsz]; omega, by rw [hsz]; exact Nat.le_refl _, ?_⟩
  rw [metF_none]
  exact hm
 have hmeet := pmeet_any (((w.alloc (.cells #[.slice na n nc] 33)).alloc (.cells #[.slice none 0 0] 22)).alloc (.cells #[.int .i64 0] 34)) (w.heap.size + 1 + 1 + 1 + 1) (w.heap.size + 1 + 1 + 1) na n nc ns (HN.out.1.grown g3) HN.out.2.1 (n + 1) ⟨[], []⟩ 0 ⟨#[]⟩ (((((w.alloc (.cells #[.slice na n nc] 33)).alloc (.cells #[.slice none 0 0] 22)).alloc (.cells #[.int .i64 0] 34)).alloc (.map #[] 0)).alloc (.cells #[.slice na n nc, .map (some (w.heap.size + 1 + 1 + 1)), .slice none 0 0] 132)) none 0 hWm ⟨List.nodup_nil, fun x h => (by cases h), Nat.zero_le _, fun x h => (by cases h), fun x h => (by cases h)⟩ (Nat.zero_le _) (by show n - 0 < n + 1; omega)
 have et : (⟨#[]⟩ : ByteArray).toList = [] := tx_tl []
 rw [et] at hmeet
 have HT : Hid _ := xai g3 (xai bt (xai bl (xai be hsz)))
 clear g3 bt bl be hsz hWm et
 have hte : ∀ s, Tells (nos ns) s → meetP (nos ns) (n + 1) ⟨[], []⟩ 0 [] = some s := fun s h => by
  have := h.1
  rw [HN.out.2.2.2] at this
  exact this
 have HTE : Hid _ := hte
 clear hte
 go_enter_defers Tryz.func42, Tryz.ntmps42
 go_wp2_with fail
 refine hmeet.mono ?_
 clear hmeet
 generalize (((w.alloc (.cells #[.slice na n nc] 33)).alloc (.cells #[.slice none 0 0] 22)).alloc (.cells #[.int .i64 0] 34)) = w3 at *
 rintro e W5 (⟨ho, rfl, hg⟩ | ⟨s, va, vc, ho, rfl, hm⟩)
 ·go_wp2_with fail
  refine leaves_cons (f := 79) (args := #[.pointer (some ⟨w.heap.size + 1, 0, none⟩), .pointer (some ⟨w.heap.size + 1 + 1, 0, none⟩)]) (by simp) (by simp [go_sem]) ?_
  refine (lcatch_pan ⟨w.heap.size + 1, 0, none⟩ ⟨w.heap.size + 1 + 1, 0, none⟩ _ _ _ _ [] W5 ((HT.out.2.2.1.kept hg).c 0) ((HT.out.2.2.1.kept hg).f 0) ((HT.out.2.2.2.1.kept hg).c 0) ((HT.out.2.2.2.1.kept hg).f 0) rfl (by simp)).mono ?_
  rintro e u' w'' ⟨rfl, rfl, rfl⟩
  have k1 := ((HT.out.2.2.1.kept hg).set 0 (.slice none 0 0)).but (grown_set (W5.setCell ⟨w.heap.size + 1, 0, none⟩ (.slice none 0 0)) (w.heap.size + 1 + 1) 0 (.int .i64 1)) (by simp)
  have k2 := ((HT.out.2.2.2.1.kept hg).but (grown_set W5 (w.heap.size + 1) 0 (.slice none 0 0)) (by simp)).set 0 (.int .i64 1)
  have k3 : w.grownBy _ none := grown_new (grown_new (xgt HT.out.1 hg) (grown_set W5 (w.heap.size + 1) 0 (.slice none 0 0)) (by omega)) (grown_set (W5.setCell ⟨w.heap.size + 1, 0, none⟩ (.slice none 0 0)) (w.heap.size + 1 + 1) 0 (.int .i64 1)) (by omega)
  generalize (W5.setCell ⟨w.heap.size + 1, 0, none⟩ (.slice none 0 0)).setCell ⟨w.heap.size + 1 + 1, 0, none⟩ (.int .i64 1) = WF at *
  have k4 := k1.c 0
  have k5 := k2.c 0
  simp only [List.set_cons_zero, List.getElem?_cons_zero] at k4 k5
  simp [Leaves, settle, results, Tryz.results42, go_sem, k4, k5]
  exact Or.inl ⟨rfl, k3, fun s h => by have := HTE.out s h; rw [ho] at this; cases this⟩
 ·have bt5 := HT.out.2.1.kept hm.eo.gr
  have bl5 := HT.out.2.2.1.kept hm.eo.gr
  have be5 := HT.out.2.2.2.1.kept hm.eo.gr
  have hle := HN.out.2.2.1 s ho
  have hok := (meetP_ok (n + 1) ⟨[], []⟩ 0 [] s (by rw [HN.out.2.2.2]; exact ⟨List.nodup_nil, fun x h => (by cases h), Nat.zero_le _, fun x h => (by cases h), fun x h => (by cases h)⟩) ho).1
  have hgl := grown_set W5 (w.heap.size + 1) 0 (.slice va s.list.length vc)
  have c2 := hm.bx.c 2
  have l0 := bl5.c 0
  have lf := bl5.f 0
  have bl6 := bl5.set 0 (.slice va s.list.length vc)
  have bt6 := bt5.but hgl (by simp)
  have be6 := be5.but hgl (by simp)
  have hw3 : w.heap.size ≤ w3.heap.size := by rw [HT.out.2.2.2.2]; omega
  have eo6 : Eo w (W5.setCell ⟨w.heap.size + 1, 0, none⟩ (.slice va s.list.length vc)) w.heap.size (.slice va s.list.length vc) (s.list.map (evL ns)) :=
   ⟨grown_new (xgt HT.out.1 hm.eo.gr) hgl (by omega), Nat.le_refl _, owns_low11 (hm.eo.own.kept hgl (Or.inr fun c => bx_ne bl5 hm.eo.own (by decide) c.symm)) hw3, fun X hX => by
    obtain ⟨x, -, rfl⟩ := List.mem_map.1 hX
    exact evL_ok HN.out.1 HN.out.2.1 x⟩
  have HS : Hid _ := xai ho (xai hok hle)
  have HZ : Hid _ := xai eo6 (xai bt6 (xai bl6 be6))
  have L0 := bl6.c 0
  obtain ⟨L, hL⟩ : ∃ L, s.list.length = L := ⟨_, rfl⟩
  rw [hL] at c2 HZ L0 hle
  have HL : Hid _ := hL
  have hli : ¬ (16384 : Int) < (L : Int) := by omega
  clear hm bt5 bl5 be5 hok hgl eo6 bl6 bt6 be6 ho hL
  simp only [List.set_cons_zero, List.getElem?_cons_zero, List.getElem?_cons_succ] at c2 l0 L0
  go_wp2_with fail
  have hen : Ens _ va L (s.list.map (evL ns)) := HZ.out.1.ens (by rw [List.length_map, HL.out])
  have hpc := pcanon_any va L vc (s.list.map (evL ns)) _ hen (evL_sz HN.out.2.1 HS.out.2.1.pl HS.out.2.1.ql) (by omega)
  rw [ens_evL] at hpc
  unfold CnPost at hpc
  generalize hW6 : W5.setCell ⟨w.heap.size + 1, 0, none⟩ (.slice va L vc) = W6 at *
  clear c2 l0 lf L0 hen hW6
  refine hpc.mono ?_
  clear hpc
  rintro e W7 ⟨g7, b4, n4, c4, ns4, rfl, hN4, -, -, hns4⟩
  have gA := xga W7 (.cells #[.slice b4 n4 c4] 33) none
  have bM := Bx.new W7 33 [.slice b4 n4 c4]
  have gC := xgt g7 gA
  have eo8 := HZ.out.1.kept gC
  have bt8 := HZ.out.2.1.kept gC
  have bl8 := HZ.out.2.2.1.kept gC
  have be8 := HZ.out.2.2.2.kept gC
  have hN8 := hN4.grown gA
  have t0 := bt8.c 0
  have m0 := bM.c 0
  have hsm := fun W g => psame_any b4 na n4 c4 n nc ns4 ns W (hN8.grown g) (HN.out.1.grown (xgt eo8.gr g))
  have HZ8 : Hid _ := xai eo8 (xai bt8 (xai bl8 be8))
  clear g7 gA bM gC eo8 bt8 bl8 be8 HZ hN4 hN8
  obtain ⟨E, hE⟩ : ∃ E, (chk11 (s.list.map (enL (nos ns)))).2 = E := ⟨_, rfl⟩
  rw [hE] at hns4 ⊢
  have HE : Hid _ := xai hE hns4
  clear hE hns4
  by_cases h0 : E = 0
  ·subst h0
   obtain ⟨SB, hSB⟩ : ∃ SB, sameNos (nos ns4) (nos ns) = SB := ⟨_, rfl⟩
   rw [hSB] at hsm
   have HSB : Hid _ := hSB
   clear hSB
   go_wp2_with fail
   refine (hsm _ (World.grownBy.refl _ _)).mono ?_
   clear hsm
   rintro e W9 ⟨rfl, g9⟩
   have eo9 := HZ8.out.1.kept g9
   have bl9 := HZ8.out.2.2.1.kept g9
   have be9 := HZ8.out.2.2.2.kept g9
   cases SB with
   | false =>
    have HZ9 : Hid _ := xai eo9 (xai bl9 be9)
    clear eo9 bl9 be9 g9 t0 m0
    go_wp2_with fail
    refine (pnotree_any _).mono ?_
    rintro e W10 ⟨rfl, rfl⟩
    go_wp2_with fail
    refine leaves_cons (f := 79) (args := #[.pointer (some ⟨w.heap.size + 1, 0, none⟩), .pointer (some ⟨w.heap.size + 1 + 1, 0, none⟩)]) (by simp) (by simp [go_sem]) ?_
    refine (lcatch_pan ⟨w.heap.size + 1, 0, none⟩ ⟨w.heap.size + 1 + 1, 0, none⟩ _ _ _ _ [] W10 (HZ9.out.2.1.c 0) (HZ9.out.2.1.f 0) (HZ9.out.2.2.c 0) (HZ9.out.2.2.f 0) rfl (by simp)).mono ?_
    rintro e u' w'' ⟨rfl, rfl, rfl⟩
    have k1 := (HZ9.out.2.1.set 0 (.slice none 0 0)).but (grown_set (W10.setCell ⟨w.heap.size + 1, 0, none⟩ (.slice none 0 0)) (w.heap.size + 1 + 1) 0 (.int .i64 1)) (by simp)
    have k2 := (HZ9.out.2.2.but (grown_set W10 (w.heap.size + 1) 0 (.slice none 0 0)) (by simp)).set 0 (.int .i64 1)
    have k3 : w.grownBy _ none := grown_new (grown_new HZ9.out.1.gr (grown_set W10 (w.heap.size + 1) 0 (.slice none 0 0)) (by omega)) (grown_set (W10.setCell ⟨w.heap.size + 1, 0, none⟩ (.slice none 0 0)) (w.heap.size + 1 + 1) 0 (.int .i64 1)) (by omega)
    generalize (W10.setCell ⟨w.heap.size + 1, 0, none⟩ (.slice none 0 0)).setCell ⟨w.heap.size + 1 + 1, 0, none⟩ (.int .i64 1) = WF at *
    have k4 := k1.c 0
    have k5 := k2.c 0
    simp only [List.set_cons_zero, List.getElem?_cons_zero] at k4 k5
    simp [Leaves, settle, results, Tryz.results42, go_sem, k4, k5]
    exact Or.inl ⟨rfl, k3, fun s2 h => by
     have h1 := HTE.out s2 h
     rw [HS.out.1] at h1
     injection h1 with h1
     subst h1
     have h2 : nos ns4 = canon (s.list.map (enL (nos ns))) := by simpa using HE.out.2
     rw [h.2.2] at h2
     have h3 := (sameNos_eq _ _).2 h2
     rw [HSB.out] at h3
     cases h3⟩
   | true =>
    have hte : Tells (nos ns) s := by
     refine ⟨by rw [HN.out.2.2.2]; exact HS.out.1, HE.out.1, ?_⟩
     have h1 := (sameNos_eq _ _).1 HSB.out
     have h2 : nos ns4 = canon (s.list.map (enL (nos ns))) := by simpa using HE.out.2
     rw [← h2, h1]
    have s0 := bl9.c 0
    have s0f := bl9.f 0
    have s1 := be9.c 0
    have s1f := be9.f 0
    have hg1 := grown_set W9 (w.heap.size + 1) 0 (.slice va L vc)
    have hg2 := grown_set (W9.setCell ⟨w.heap.size + 1, 0, none⟩ (.slice va L vc)) (w.heap.size + 1 + 1) 0 (.int .i64 0)
    have k1 := (bl9.set 0 (.slice va L vc)).but hg2 (by simp)
    have be10 := be9.but hg1 (by simp)
    have k2 := be10.set 0 (.int .i64 0)
    have r1 := be10.c 0
    have r2 := be10.f 0
    have ow1 := eo9.own.kept hg1 (Or.inr fun c => bx_ne bl9 eo9.own (by decide) c.symm)
    have ow2 := ow1.kept hg2 (Or.inr fun c => bx_ne be10 ow1 (by decide) c.symm)
    have eoF : Eo w ((W9.setCell ⟨w.heap.size + 1, 0, none⟩ (.slice va L vc)).setCell ⟨w.heap.size + 1 + 1, 0, none⟩ (.int .i64 0)) w.heap.size (.slice va L vc) (s.list.map (evL ns)) := ⟨grown_new (grown_new eo9.gr hg1 (by omega)) hg2 (by omega), Nat.le_refl _, ow2, eo9.each⟩
    have HF : Hid _ := xai eoF (xai k1 (xai k2 hte))
    clear eo9 bl9 be9 g9 t0 m0 hg1 hg2 k1 k2 ow1 ow2 eoF hte be10
    simp only [List.set_cons_zero, List.getElem?_cons_zero] at s0 s1 r1
    go_wp2_with fail
    refine leaves_cons (f := 79) (args := #[.pointer (some ⟨w.heap.size + 1, 0, none⟩), .pointer (some ⟨w.heap.size + 1 + 1, 0, none⟩)]) (by simp) (by simp [go_sem]) ?_
    refine (lcatch_idle ⟨w.heap.size + 1, 0, none⟩ ⟨w.heap.size + 1 + 1, 0, none⟩ _).mono ?_
    rintro e u' w'' ⟨rfl, rfl, rfl⟩
    obtain ⟨eoF, k1, k2, hte⟩ := HF.out
    have k4 := k1.c 0
    have k5 := k2.c 0
    generalize (W9.setCell ⟨w.heap.size + 1, 0, none⟩ (.slice va L vc)).setCell ⟨w.heap.size + 1 + 1, 0, none⟩ (.int .i64 0) = WF at *
    simp only [List.set_cons_zero, List.getElem?_cons_zero] at k4 k5
    simp [Leaves, settle, results, Tryz.results42, go_sem, k4, k5]
    exact Or.inr ⟨s, va, vc, hte, by rw [HL.out], by rw [HL.out]; exact eoF⟩
  ·have h0b : (E == 0) = false := by rw [beq_eq_false_iff_ne]; exact h0
   have h0n : (E != 0) = true := by simp [h0]
   clear hsm
   go_wp2_with fail
   refine (pnotree_any _).mono ?_
   rintro e W10 ⟨rfl, rfl⟩
   go_wp2_with fail
   refine leaves_cons (f := 79) (args := #[.pointer (some ⟨w.heap.size + 1, 0, none⟩), .pointer (some ⟨w.heap.size + 1 + 1, 0, none⟩)]) (by simp) (by simp [go_sem]) ?_
   refine (lcatch_pan ⟨w.heap.size + 1, 0, none⟩ ⟨w.heap.size + 1 + 1, 0, none⟩ _ _ _ _ [] (W7.alloc (.cells #[.slice b4 n4 c4] 33)) (HZ8.out.2.2.1.c 0) (HZ8.out.2.2.1.f 0) (HZ8.out.2.2.2.c 0) (HZ8.out.2.2.2.f 0) rfl (by simp)).mono ?_
   rintro e u' w'' ⟨rfl, rfl, rfl⟩
   have k1 := (HZ8.out.2.2.1.set 0 (.slice none 0 0)).but (grown_set ((W7.alloc (.cells #[.slice b4 n4 c4] 33)).setCell ⟨w.heap.size + 1, 0, none⟩ (.slice none 0 0)) (w.heap.size + 1 + 1) 0 (.int .i64 1)) (by simp)
   have k2 := (HZ8.out.2.2.2.but (grown_set (W7.alloc (.cells #[.slice b4 n4 c4] 33)) (w.heap.size + 1) 0 (.slice none 0 0)) (by simp)).set 0 (.int .i64 1)
   have k3 : w.grownBy _ none := grown_new (grown_new HZ8.out.1.gr (grown_set (W7.alloc (.cells #[.slice b4 n4 c4] 33)) (w.heap.size + 1) 0 (.slice none 0 0)) (by omega)) (grown_set ((W7.alloc (.cells #[.slice b4 n4 c4] 33)).setCell ⟨w.heap.size + 1, 0, none⟩ (.slice none 0 0)) (w.heap.size + 1 + 1) 0 (.int .i64 1)) (by omega)
   generalize ((W7.alloc (.cells #[.slice b4 n4 c4] 33)).setCell ⟨w.heap.size + 1, 0, none⟩ (.slice none 0 0)).setCell ⟨w.heap.size + 1 + 1, 0, none⟩ (.int .i64 1) = WF at *
   have k4 := k1.c 0
   have k5 := k2.c 0
   simp only [List.set_cons_zero, List.getElem?_cons_zero] at k4 k5
   simp [Leaves, settle, results, Tryz.results42, go_sem, k4, k5]
   exact Or.inl ⟨rfl, k3, fun s2 h => by
    have h1 := HTE.out s2 h
    rw [HS.out.1] at h1
    injection h1 with h1
    subst h1
    exact h0 (HE.out.1.symm.trans h.2.1)⟩
end Go.Proofs.YtlehncfehoelbaaGreatDoor
namespace Go.Proofs.YtlehncfehoelbaaGreatDoor
set_option linter.unusedVariables false
set_option linter.unusedSimpArgs false
theorem mem_modify {α : Type} {l : List α} {i : Nat} {f : α → α} {x : α} (h : x ∈ l.modify i f) : x ∈ l ∨ ∃ y ∈ l, x = f y := by
 obtain ⟨j, hj⟩ := List.mem_iff_getElem?.1 h
 rw [List.getElem?_modify] at hj
 cases hy : l[j]? with
 | none => rw [hy] at hj; cases hj
 | some y =>
  rw [hy] at hj
  have hm := List.mem_of_getElem? hy
  injection hj with hj
  have hj : (if i = j then f y else y) = x := hj
  by_cases e : i = j
  ·rw [if_pos e] at hj
   exact Or.inr ⟨y, hm, hj.symm⟩
  ·rw [if_neg e] at hj
   rw [← hj]; exact Or.inl hm
theorem core_mem {l : List No} {i : Nat} {f : No → No} {Q : No → Prop} (hf : ∀ n, coreN (f n) = coreN n) (h : ∀ n ∈ l, Q (coreN n)) : ∀ n ∈ l.modify i f, Q (coreN n) := fun n hn => by
 rcases mem_modify hn with hn | ⟨y, hy, rfl⟩
 ·exact h n hn
 ·rw [hf]; exact h y hy
theorem core_all {Q : No → Prop} : ∀ (vs : List (Tp Tx)) (s : Bs Tx), (∀ n ∈ s.ns, Q (coreN n)) → (∀ t ∈ vs, Q (coreN t.nd)) → ∀ n ∈ (vs.foldl bst s).ns, Q (coreN n)
 | [], s, h, _ => h
 | t :: vs, s, h, k => by
  refine core_all vs (bst s t) ?_ (fun u hu => k u (by simp [hu]))
  have h1 : ∀ n ∈ (newO s t).ns, Q (coreN n) := fun n hn => by
   unfold newO at hn
   split at hn
   ·exact h n hn
   ·rcases List.mem_append.1 hn with hn | hn
    ·exact h n hn
    ·rw [List.mem_singleton] at hn
     subst hn
     exact k t (by simp)
  have a1 : ∀ i ns, (∀ n ∈ ns, Q (coreN n)) → ∀ n ∈ addLink i ns, Q (coreN n) := fun i ns h => core_mem (f := fun n => { n with links := n.links + 1 }) (fun _ => rfl) h
  have a2 : ∀ i u ns, (∀ n ∈ ns, Q (coreN n)) → ∀ n ∈ setUp i u ns, Q (coreN n) := fun i u ns h => core_mem (f := fun n => { n with parent := (u : Nat) }) (fun _ => rfl) h
  have a3 : ∀ i c ns, (∀ n ∈ ns, Q (coreN n)) → ∀ n ∈ addKid i c ns, Q (coreN n) := fun i c ns h => core_mem (f := fun n => { n with kids := n.kids ++ [c] }) (fun _ => rfl) h
  unfold bst
  simp only
  split
  ·exact a1 _ _ (a2 _ _ _ (a3 _ _ _ h1))
  ·exact a1 _ _ (a3 _ _ _ h1)
theorem foldl_le (l : List Int) : ∀ a, (∀ x ∈ l, 0 ≤ x) → a ≤ l.foldl (· + ·) a := by
 induction l with
 | nil => intro a _; exact Int.le_refl _
 | cons y l ih =>
  intro a h
  have h1 := ih (a + y) (fun x hx => h x (by simp [hx]))
  have h2 := h y (by simp)
  show a ≤ l.foldl (· + ·) (a + y)
  omega
theorem foldl_mem (l : List Int) : ∀ a, 0 ≤ a → (∀ x ∈ l, 0 ≤ x) → ∀ x ∈ l, x ≤ l.foldl (· + ·) a := by
 induction l with
 | nil => intro a _ _ x hx; cases hx
 | cons y l ih =>
  intro a ha h x hx
  have hy := h y (by simp)
  show x ≤ l.foldl (· + ·) (a + y)
  rcases List.mem_cons.1 hx with rfl | hx
  ·have := foldl_le l (a + x) (fun z hz => h z (by simp [hz]))
   omega
  ·exact ih (a + y) (by omega) (fun z hz => h z (by simp [hz])) x hx
theorem sums_mem {l : List En} {x : En} (hx : x ∈ l) (hk : x.k = 1) : (x.data.length : Int) ≤ sums l := by
 unfold sums
 refine foldl_mem _ 0 (Int.le_refl _) (fun y hy => ?_) _ (List.mem_map.2 ⟨x, hx, by rw [if_pos hk]⟩)
 obtain ⟨z, -, rfl⟩ := List.mem_map.1 hy
 split <;> omega
structure Sm (n : No) : Prop where
 t : n.target.length ≤ 4096
 d : n.data.length ≤ 8388608
 a : n.attrs.length ≤ 64
 e : ∀ x ∈ n.attrs, x.n.length ≤ 255 ∧ x.v.length ≤ 4096
theorem fld_attrs {x : En} (h : fld x = 0) : (x.k = 3 → x.target.length ≤ 4096) ∧ ∀ y ∈ x.attrs, y.n.length ≤ 255 ∧ y.v.length ≤ 4096 := by
 unfold fld at h
 split at h
 ·cases h
 ·split at h
  ·cases h
  ·rename_i h2
   split at h
   ·cases h
   ·rename_i h3
    constructor
    ·intro h1
     apply Classical.byContradiction
     intro c
     apply h2
     have : txt x.target 1 4096 = false := by
      unfold txt inI
      rw [Bool.and_eq_false_iff]
      left
      rw [Bool.and_eq_false_iff]
      right
      exact decide_eq_false (by omega)
     simp [h1, this]
    ·intro y hy
     have hn : (!txt y.n 1 255 || decide (4096 < y.v.length)) = false := by
      cases hq : (!txt y.n 1 255 || decide (4096 < y.v.length)) with
      | false => rfl
      | true => exact absurd (List.any_eq_true.2 ⟨y, hy, hq⟩) h3
     rw [Bool.or_eq_false_iff] at hn
     have h4 := of_decide_eq_false hn.2
     have h5 : txt y.n 1 255 = true := by
      have := hn.1
      cases hq : txt y.n 1 255 with
      | true => rfl
      | false => rw [hq] at this; cases this
     unfold txt inI at h5
     rw [Bool.and_eq_true, Bool.and_eq_true] at h5
     have h6 := of_decide_eq_true h5.1.2
     exact ⟨by omega, by omega⟩
theorem nd_sm {x : En} (h : fld x = 0) (hd : x.k = 1 → x.data.length ≤ 8388608) : Sm (ndOf x) := by
 obtain ⟨D, hl⟩ := fld_dn h
 obtain ⟨h1, h2⟩ := fld_attrs h
 refine ⟨?_, ?_, ?_, ?_⟩
 ·show (if x.k = 3 then x.target else []).length ≤ 4096
  split
  ·exact h1 (by assumption)
  ·exact Nat.zero_le _
 ·show (if x.k = 1 then strip x.data else []).length ≤ 8388608
  split
  ·exact Nat.le_trans (strip_len _) (hd (by assumption))
  ·exact Nat.zero_le _
 ·show (srt x.attrs).length ≤ 64
  exact Nat.le_trans (srt_len _) hl
 ·intro y hy
  exact h2 y ((srt_facts D).2 y |>.1 hy)
theorem canon_sm {l : List En} (ok : OkS l) (hs : sums l ≤ 8388608) : ∀ n ∈ canon l, Sm n := by
 have hd : ∀ x ∈ l, x.k = 1 → x.data.length ≤ 8388608 := fun x hx hk => by have := sums_mem hx hk; omega
 have key : ∀ n ∈ canon l, Sm (coreN n) := by
  rw [canon_trs]
  refine core_all (Q := Sm) (trs l) _ (fun n hn => ?_) (fun t ht => ?_)
  ·have hn : n ∈ [{ ndOf (look l []) with links := 2 }] := hn
   rw [List.mem_singleton] at hn
   subst hn
   have hr : Sm (ndOf (look l [])) := nd_sm (root_ok ok).2 (fun h => by rw [(root_ok ok).1] at h; cases h)
   exact ⟨hr.t, hr.d, hr.a, hr.e⟩
  ·obtain ⟨y, hy, a1, a2, a3, a4⟩ := (nm_of ok ht).y
   have hy2 := nd_sm ((ok.each y hy).fld a2) (hd y hy)
   rw [← a3] at hy2
   exact ⟨hy2.t, hy2.d, hy2.a, hy2.e⟩
 intro n hn
 have := key n hn
 exact ⟨this.t, this.d, this.a, this.e⟩
def ukm (ns : List No) (s : Wk) : Nat → Nat
 | 0 => 0
 | m + 1 => ukm ns s m + if s.at_ m = none then ((ns[m]?).map fun n => n.kids.length).getD 0 else 0
def uk (ns : List No) (s : Wk) : Nat := ukm ns s ns.length
theorem ukm_F (ns : List No) (s : Wk) (f : Nat) (p : Tx) (m : Nat) : ukm ns (addF s f p) m = ukm ns s m := by
 induction m with
 | zero => rfl
 | succ m ih => unfold ukm; rw [ih]; rfl
theorem ukm_N (ns : List No) (s : Wk) (i : Nat) (p : Tx) (n : No) (hn : ns[i]? = some n) (hi : s.at_ i = none) (m : Nat) : ukm ns (addN s i p) m + (if i < m then n.kids.length else 0) = ukm ns s m := by
 induction m with
 | zero => rfl
 | succ m ih =>
  unfold ukm
  rw [at_addN]
  by_cases e : i = m
  ·subst e
   rw [if_pos rfl, if_pos (Nat.lt_succ_self _), hi, if_pos rfl, hn]
   rw [if_neg (Nat.lt_irrefl _)] at ih
   simp only [Option.map_some, Option.getD_some, reduceCtorEq, if_false]
   omega
  ·rw [if_neg e]
   by_cases h : i < m
   ·rw [if_pos h] at ih
    rw [if_pos (show i < m + 1 by omega)]
    omega
   ·rw [if_neg h] at ih
    rw [if_neg (show ¬ i < m + 1 by omega)]
    omega
theorem kids_cnt {ns : List No} {meet : Wk → Int → Tx → Option Wk} (hm : ∀ s i p s', meet s i p = some s' → s.list.length + 1 ≤ s'.list.length ∧ s'.list.length + uk ns s' ≤ s.list.length + uk ns s + 1) (a : Tx) : ∀ (ks : List Kd) (s s' : Wk), kidsP meet a ks s = some s' → s.list.length ≤ s'.list.length ∧ s'.list.length + uk ns s' ≤ s.list.length + uk ns s + ks.length
 | [], s, s', e => by
  unfold kidsP at e
  injection e with e
  subst e
  exact ⟨Nat.le_refl _, Nat.le_refl _⟩
 | k :: ks, s, s', e => by
  unfold kidsP at e
  split at e
  ·cases hk : meet s k.i (a ++ k.n) with
   | none => rw [hk] at e; cases e
   | some s1 =>
    rw [hk] at e
    have h1 := hm _ _ _ _ hk
    have h2 := kids_cnt hm a ks s1 s' e
    rw [List.length_cons]
    omega
  ·cases e
theorem meet_cnt {ns : List No} : ∀ (f : Nat) (s : Wk) (i : Int) (p : Tx) (s' : Wk), meetP ns f s i p = some s' → s.list.length + 1 ≤ s'.list.length ∧ s'.list.length + uk ns s' ≤ s.list.length + uk ns s + 1
 | 0, s, i, p, s', e => by cases e
 | f + 1, s, i, p, s', e => by
  unfold meetP at e
  split at e <;> rename_i hc
  ·cases hn : ns[i.toNat]? with
   | none => rw [hn] at e; cases e
   | some n =>
    rw [hn] at e
    simp only at e
    have hi := (List.getElem?_eq_some_iff.1 hn).1
    cases ha : s.at_ i.toNat with
    | some j =>
     rw [ha] at e
     simp only at e
     split at e
     ·cases e
     ·injection e with e
      subst e
      have h1 : (addF s j p).list.length = s.list.length + 1 := by show (s.list ++ [_]).length = _; simp
      have h2 : uk ns (addF s j p) = uk ns s := ukm_F _ _ _ _ _
      omega
    | none =>
     rw [ha] at e
     simp only at e
     have h1 : (addN s i.toNat p).list.length = s.list.length + 1 := by show (s.list ++ [_]).length = _; simp
     have h2 : uk ns (addN s i.toNat p) + n.kids.length = uk ns s := by
      have := ukm_N ns s i.toNat p n hn ha ns.length
      rw [if_pos hi] at this
      exact this
     split at e
     ·have := kids_cnt (meet_cnt f) _ _ _ _ e
      omega
     ·injection e with e
      subst e
      omega
  ·cases e
def ksum (ns : List No) : Nat := uk ns ⟨[], []⟩
theorem tell_few {ns : List No} {f : Nat} {s : Wk} (h : meetP ns f ⟨[], []⟩ 0 [] = some s) : 1 ≤ s.list.length ∧ s.list.length ≤ ksum ns + 1 := by
 have h1 := meet_cnt f _ _ _ _ h
 have h2 : (⟨[], []⟩ : Wk).list.length = 0 := rfl
 rw [h2] at h1
 unfold ksum
 omega
end Go.Proofs.YtlehncfehoelbaaGreatDoor
