/- The program's Walk at the page's example. New of a tree in the one way; fails. The page's example. The statements' made: a model of a list of entries. ModelReads. -/
import Derived.Defers
import Derived.Recover
import Derived.Lib.SlBytesConst
import Derived.Test.YtaclbaapfllcoaaGreatDoorB13
import Derived.Test.YtaclbaapfllcoaaGreatDoorB33
import Derived.Test.YtaclbaapfllcoaaGreatDoorB34
import Derived.Test.YtaclbaapfllcoaaGreatDoorCa01
namespace Go.Proofs.YtaclbaapfllcoaaGreatDoor
open Go.RowKit
set_option maxRecDepth 100000
set_option linter.unusedSimpArgs false
set_option linter.unusedVariables false
theorem wcatch_idle (p q : Addr) (w : World) :
  CallsD Tryz.prog 89 #[.pointer (some p), .pointer (some q)] .returning w fun e u' w' => e = .returned (.tuple #[]) ∧ u' = .returning ∧ w' = w := by
 refine callsD_of_wpS Tryz.func89 rfl fun c₀ cs hu => ?_
 apply wpS_seq
 apply wpS_region
 simp [wpOpsS, go_sem, recoverD, hu, Tryz.ntmps89, Exit.thenS]
 apply wpS_seq
 apply wpS_region
 simp [wpOpsS, go_sem, Array.replicate, Exit.thenS]
 refine wpS_cond (t := false) (by simp [Act.eval, Array.replicate]) ?_
 simp only [Bool.false_eq_true, if_false]
 refine wpS_of_wp (wp_skip ?_)
 cases c₀
 simp_all [bodyPostS, results, Tryz.results89]
/-- the walk's states at the page's example: where it is, what is left, how many links -/
def exP (k : Nat) : Int := if k ≤ 1 then 0 else (k : Int) - 1
def exQ : Nat → List ByteArray
 | 0 => [⟨#[108]⟩, ⟨#[102]⟩]
 | 1 => [⟨#[97]⟩, ⟨#[102]⟩]
 | 2 => [⟨#[102]⟩]
 | _ => []
def exK (k : Nat) : Int := if k = 0 then 0 else 1
def msr (gw : Nat) (W : World) : Nat := 3 - (intOf ((W.cell? ⟨gw, 1, none⟩).getD undef) + intOf ((W.cell? ⟨gw, 3, none⟩).getD undef)).toNat
theorem msr_eq {w W : World} {gw mb : Nat} {p links : Int} {left : List ByteArray} {la : Option Addr} {lc : Nat} (h : Wl w W gw mb p left links la lc) : msr gw W = 3 - (p + links).toNat := by
 unfold msr
 rw [h.box.c 1, h.box.c 3]
 rfl
theorem ex_at {ns : List NoV} (h : nos ns = canon ex12) {i : Nat} {v : Int} (hv : ((canon ex12)[i]?).map No.k = some v) : ∃ X, ns[i]? = some X ∧ X.k = v := by
 rw [← h] at hv
 unfold nos at hv
 rw [List.getElem?_map, Option.map_map] at hv
 cases hX : ns[i]? with
 | none => rw [hX] at hv; cases hv
 | some X => rw [hX] at hv; injection hv with hv; exact ⟨X, rfl, hv⟩
theorem ex_at3 {ns : List NoV} (h : nos ns = canon ex12) : ∃ X, ns[3]? = some X ∧ X.k = 3 ∧ X.target = ⟨#[97]⟩ := by
 have hv := ex_n3
 rw [← h] at hv
 unfold nos at hv
 rw [List.getElem?_map, Option.map_map] at hv
 cases hX : ns[3]? with
 | none => rw [hX] at hv; cases hv
 | some X =>
  rw [hX] at hv
  injection hv with hv
  injection hv with h1 h2
  refine ⟨X, rfl, h1, tl_inj ?_⟩
  have h2 : X.target.toList = [97] := h2
  rw [h2, ByteArray.toList_eq]
set_option maxHeartbeats 8000000 in
theorem pwalk_ex (w : World) (mb : Nat) (a : Option Addr) (n c mp : Nat) (ns : List NoV) (M : Md w mb a n c mp ns) (hns : nos ns = canon ex12) :
  Calls Tryz.prog 55 #[.pointer (some ⟨mb, 0, none⟩), .int .i64 0, .string ⟨#[108, 47, 102]⟩, .bool true] w fun e w' => e = .returned (.tuple #[.int .i64 2, .int .i64 0]) ∧ w.grownBy w' none := by
 have hmf : ∀ (fn : Fn) (first cap : Array Value) (w : World), (Instr.makeFunc fn first cap).run Tryz.prog w = .ok (.func fn first cap) w := fun _ _ _ _ => rfl
 have HM : Hid _ := And.intro M hns
 have hnd := fun W g => pnode12_any W mb a n c (.map (some mp)) ns (M.kept g).box (M.kept g).nos 0
 rw [hns, ex_knd0] at hnd
 clear M hns
 have g2 : w.grownBy ((w.alloc (.cells #[.int .i64 0] 3)).alloc (.cells #[.int .i64 0] 34)) none := grown_trans (World.grownBy_alloc _ _ none) (World.grownBy_alloc _ _ none)
 have bi := (Bx.new w 3 [.int .i64 0]).kept (World.grownBy_alloc _ (.cells #[.int .i64 0] 34) none)
 have be := Bx.new (w.alloc (.cells #[.int .i64 0] 3)) 34 [.int .i64 0]
 have hsz : (w.alloc (.cells #[.int .i64 0] 3)).heap.size = w.heap.size + 1 := by simp
 rw [hsz] at be
 have HB : Hid _ := And.intro g2 (And.intro bi be)
 clear g2 bi be hsz
 go_enter_defers Tryz.func55, Tryz.ntmps55
 go_wp2_with fail
 refine (hnd _ HB.out.1).mono ?_
 rintro e W1 ⟨X, rfl, -, -, g1⟩
 have HB1 : Hid _ := And.intro (grown_trans HB.out.1 g1) (And.intro (HB.out.2.1.kept g1) (HB.out.2.2.kept g1))
 clear g1 HB hnd
 have be1 : _ = some _ := HB1.out.2.2.c 0
 have fe1 := HB1.out.2.2.f 0
 have be2 : _ = some _ := (HB1.out.2.2.set 0 (.int .i64 0)).c 0
 generalize NoV.val X = vX
 go_wp2_with (go_at_call 91; refine (need_ok _).mono ?_; rintro e w' ⟨rfl, rfl⟩)
 have gS := grown_set W1 (w.heap.size + 1) 0 (.int .i64 0)
 have hsz1 : (W1.setCell ⟨w.heap.size + 1, 0, none⟩ (.int .i64 0)).heap.size = W1.heap.size := size_set _ _ _
 have g2 := grown_new HB1.out.1 gS (by omega)
 have hWl : Wl (W1.setCell ⟨w.heap.size + 1, 0, none⟩ (.int .i64 0)) ((W1.setCell ⟨w.heap.size + 1, 0, none⟩ (.int .i64 0)).alloc (.cells #[.pointer (some ⟨mb, 0, none⟩), .int .i64 0, .slice none 0 0, .int .i64 0] 142)) W1.heap.size mb 0 [] 0 none 0 := by
  have hb := Bx.new (W1.setCell ⟨w.heap.size + 1, 0, none⟩ (.int .i64 0)) 142 [.pointer (some ⟨mb, 0, none⟩), .int .i64 0, .slice none 0 0, .int .i64 0]
  rw [hsz1] at hb
  exact ⟨World.grownBy_alloc _ _ none, by rw [hsz1]; exact Nat.le_refl _, hb, ⟨rfl, fun h => absurd h (Nat.lt_irrefl 0)⟩, Nat.le_refl _⟩
 have HB2 : Hid _ := And.intro g2 (And.intro (HB1.out.2.1.but gS (by intro e; injection e with e; omega)) (And.intro (HB1.out.2.2.set 0 (.int .i64 0)) (HM.out.1.kept g2)))
 clear gS hsz1 g2 be1 fe1 be2 HB1
 generalize hW2 : W1.setCell ⟨w.heap.size + 1, 0, none⟩ (.int .i64 0) = W2 at *
 generalize hW3 : W2.alloc (.cells #[.pointer (some ⟨mb, 0, none⟩), .int .i64 0, .slice none 0 0, .int .i64 0] 142) = W3 at *
 clear hW2 hW3
 generalize W1.heap.size = gw at *
 clear W1
 refine (pturn_ok W2 W3 gw mb 0 0 [] none 0 hWl a n c mp ns HB2.out.2.2.2 ⟨#[108, 47, 102]⟩ ex_tn1.sz (ex_tn1.abs _) (by rw [HM.out.2]; exact ex_knd2) [[108], [102]] ex_tn1.spl (by decide) (Or.inl ⟨rfl, rfl, rfl⟩)).mono ?_
 rintro e W4 ⟨rfl, la4, lc4, hw4, -⟩
 have H4 : Hid (Wl W2 W4 gw mb (exP 0) (exQ 0) (exK 0) la4 lc4) := hw4
 clear hw4 hWl
 go_wp2_with fail
 go_loopw [] (fun wr => ∃ (k : Nat) (la : Option Addr) (lc : Nat), k ≤ 3 ∧ Hid (Wl W2 wr gw mb (exP k) (exQ k) (exK k) la lc)) (fun wr => msr gw wr)
 case atStart => exact ⟨0, la4, lc4, by omega, H4⟩
 case round =>
  obtain ⟨k, la, lc, hk, HK⟩ := hrel
  clear H4
  have c2 : _ = some _ := HK.out.box.c 2
  match k, hk with
  | 0, _ =>
   obtain ⟨X, hX, hX3, hXt⟩ := ex_at3 HM.out.2
   have hst := pstep_ok W2 wr gw mb 0 0 ⟨#[108]⟩ [⟨#[102]⟩] la lc HK.out a n c mp ns HB2.out.2.2.2 (by decide) 3 (by rw [HM.out.2, ByteArray.toList_eq]; exact ex_lk0) X hX (by decide) (fun _ => ⟨⟨[[97]], by rw [hXt]; exact ex_tn2, by decide⟩, by decide, by rw [HM.out.2]; exact ex_knd2, by decide, by decide⟩)
   have HXX : Hid _ := And.intro hX3 hXt
   clear hX hX3 hXt
   have c2 : wr.cell? ⟨gw, 2, none⟩ = some (.slice la 2 lc) := c2
   go_wp2_with fail
   refine hst.mono ?_
   rintro e W5 ⟨rfl, la5, lc5, -, ⟨h1, -⟩ | ⟨-, L, hT, hw5⟩⟩
   ·exact absurd HXX.out.1 h1
   ·have hL : L = [[97]] := by
     have h1 := hT.spl
     rw [HXX.out.2] at h1
     have h2 := ex_tn2.spl
     rw [h1] at h2
     injection h2
    subst hL
    have H5 : Hid (Wl W2 W5 gw mb (exP 1) (exQ 1) (exK 1) la5 lc5) := hw5
    have HMS : Hid _ := And.intro (msr_eq HK.out) (msr_eq hw5)
    clear hw5 hT hst HK
    go_wp2
    refine ⟨⟨1, la5, lc5, by omega, H5⟩, ?_⟩
    rw [HMS.out.1, HMS.out.2]; decide
  | 1, _ =>
   obtain ⟨X, hX, hXk⟩ := ex_at HM.out.2 ex_n1
   have hst := pstep_ok W2 wr gw mb 0 1 ⟨#[97]⟩ [⟨#[102]⟩] la lc HK.out a n c mp ns HB2.out.2.2.2 (by decide) 1 (by rw [HM.out.2, ByteArray.toList_eq]; exact ex_lk1) X hX (by decide) (fun h => by rw [hXk] at h; exact absurd h (by decide))
   have HXX : Hid _ := hXk
   clear hX hXk
   have c2 : wr.cell? ⟨gw, 2, none⟩ = some (.slice la 2 lc) := c2
   go_wp2_with fail
   refine hst.mono ?_
   rintro e W5 ⟨rfl, la5, lc5, -, ⟨-, hw5⟩ | ⟨h1, -⟩⟩
   ·have H5 : Hid (Wl W2 W5 gw mb (exP 2) (exQ 2) (exK 2) la5 lc5) := hw5
    have HMS : Hid _ := And.intro (msr_eq HK.out) (msr_eq hw5)
    clear hw5 hst HK
    go_wp2
    refine ⟨⟨2, la5, lc5, by omega, H5⟩, ?_⟩
    rw [HMS.out.1, HMS.out.2]; decide
   ·rw [HXX.out] at h1; exact absurd h1 (by decide)
  | 2, _ =>
   obtain ⟨X, hX, hXk⟩ := ex_at HM.out.2 ex_n2
   have hst := pstep_ok W2 wr gw mb 1 1 ⟨#[102]⟩ [] la lc HK.out a n c mp ns HB2.out.2.2.2 (by decide) 2 (by rw [HM.out.2, ByteArray.toList_eq]; exact ex_lk2) X hX (by decide) (fun h => by rw [hXk] at h; exact absurd h (by decide))
   have HXX : Hid _ := hXk
   clear hX hXk
   have c2 : wr.cell? ⟨gw, 2, none⟩ = some (.slice la 1 lc) := c2
   go_wp2_with fail
   refine hst.mono ?_
   rintro e W5 ⟨rfl, la5, lc5, -, ⟨-, hw5⟩ | ⟨h1, -⟩⟩
   ·have H5 : Hid (Wl W2 W5 gw mb (exP 3) (exQ 3) (exK 3) la5 lc5) := hw5
    have HMS : Hid _ := And.intro (msr_eq HK.out) (msr_eq hw5)
    clear hw5 hst HK
    go_wp2
    refine ⟨⟨3, la5, lc5, by omega, H5⟩, ?_⟩
    rw [HMS.out.1, HMS.out.2]; decide
   ·rw [HXX.out] at h1; exact absurd h1 (by decide)
  | 3, _ =>
   have c2 : wr.cell? ⟨gw, 2, none⟩ = some (.slice la 0 lc) := c2
   have c1 : wr.cell? ⟨gw, 1, none⟩ = some (.int .i64 2) := HK.out.box.c 1
   have bi := HB2.out.2.1.kept HK.out.gr
   have be := HB2.out.2.2.1.kept HK.out.gr
   have i0 : _ = some _ := bi.c 0
   have if0 := bi.f 0
   have hg1 := grown_set wr w.heap.size 0 (.int .i64 2)
   have be2 := be.but hg1 (by intro e; injection e with e; omega)
   have e0 : _ = some _ := be2.c 0
   have ef0 := be2.f 0
   have hg2 := grown_set (wr.setCell ⟨w.heap.size, 0, none⟩ (.int .i64 2)) (w.heap.size + 1) 0 (.int .i64 0)
   have HF : Hid _ := And.intro ((bi.set 0 (.int .i64 2)).but hg2 (by intro e; injection e with e; omega)) (And.intro (be2.set 0 (.int .i64 0)) (grown_new (grown_new (grown_trans HB2.out.1 HK.out.gr) hg1 (Nat.le_refl _)) hg2 (by omega)))
   clear bi be hg1 be2 hg2 HK
   go_wp2_with fail
   refine leaves_cons (f := 89) (args := #[.pointer (some ⟨w.heap.size, 0, none⟩), .pointer (some ⟨w.heap.size + 1, 0, none⟩)]) (by simp) (by simp [go_sem]) ?_
   refine (wcatch_idle ⟨w.heap.size, 0, none⟩ ⟨w.heap.size + 1, 0, none⟩ _).mono ?_
   rintro e u' w'' ⟨rfl, rfl, rfl⟩
   obtain ⟨k1, k2, k3⟩ := HF.out
   have k4 := k1.c 0
   have k5 := k2.c 0
   generalize (wr.setCell ⟨w.heap.size, 0, none⟩ (.int .i64 2)).setCell ⟨w.heap.size + 1, 0, none⟩ (.int .i64 0) = WF at *
   simp only [List.set_cons_zero, List.getElem?_cons_zero] at k4 k5
   simp [Leaves, settle, results, Tryz.results55, go_sem, k4, k5]
   exact k3
theorem bst_len12 (s : Bs Tx) (t : Tp Tx) : (bst s t).ns.length ≤ s.ns.length + 1 := by
 have h : (newO s t).ns.length ≤ s.ns.length + 1 := by
  unfold newO
  split
  ·exact Nat.le_succ _
  ·simp
 unfold bst
 simp only
 split <;> simp only [addLink, setUp, addKid, List.length_modify] <;> exact h
theorem fold_len12 : ∀ (ts : List (Tp Tx)) (s : Bs Tx), (ts.foldl bst s).ns.length ≤ s.ns.length + ts.length
 | [], s => Nat.le_refl _
 | t :: ts, s => by
  rw [List.foldl_cons, List.length_cons]
  have h1 := fold_len12 ts (bst s t)
  have h2 := bst_len12 s t
  omega
theorem canon_len {l : List En} (ok : OkS l) (hl : l.length ≤ 16384) : (canon l).length ≤ 16385 := by
 have h1 := (canon_wt ok hl).len
 rw [canon_trs]
 unfold bld
 have h2 := fold_len12 (trs l) ⟨[], [{ ndOf (look l []) with links := 2 }]⟩
 have h3 : ((⟨[], [{ ndOf (look l []) with links := 2 }]⟩ : Bs Tx)).ns.length = 1 := rfl
 refine Nat.le_trans h2 ?_
 rw [h3]
 omega
theorem pnew_canon {L : List En} (hc : (chk11 L).2 = 0) (hll : L.length ≤ 40) (hda : ∀ x ∈ L, x.data.length ≤ 70000) {w W : World} {base : Nat} {b5 : Option Addr} {n5 c5 : Nat} {ns : List NoV} (hT : Td w W base (.slice b5 n5 c5) ns) (hn5 : ns.length = n5) (hno : nos ns = canon L)
  (W' : World) (g : W.grownBy W' none) : Calls Tryz.prog 54 #[.agg #[.slice b5 n5 c5]] W' (NwPost W' ns) := by
 obtain ⟨-, hsum, ok⟩ := chk_ok.1 hc
 have hsmc := canon_sm ok hsum
 have hksm := kids_small ok
 have hkap := kids_apart ok (by omega)
 have hcl := canon_len ok (by omega)
 rw [← hno] at hsmc hksm hkap hcl
 obtain ⟨s0, hs1, hs2, hs3, hs4⟩ := back_tells ok hll hda
 rw [← hno] at hs1 hs2 hs4
 have hs0l : s0.list.length = (lstL L).length := by rw [← hs2, List.length_map]
 have hll2 := (lstL_len ok).1
 rw [nos_len, hn5] at hcl
 refine pnew_any b5 n5 c5 ns W' ((hT.nos hn5).grown g) (fun N hN => ?_) s0 ⟨hs1, by rw [hs2]; exact hs3, by rw [hs2]; exact hs4⟩ (by omega) (by omega) (fun N hN => ⟨(hkap N hN).1, Nat.le_trans (hkap N hN).2 (by decide), fun k hk => Nat.le_trans (hksm N hN k hk) (by decide)⟩)
 obtain ⟨i, hi⟩ := List.mem_iff_getElem?.1 hN
 have hm : N.no ∈ nos ns := List.mem_map.2 ⟨N, hN, rfl⟩
 exact (hT.each i N hi).ncp12 (hsmc _ hm) (hksm _ hm)
theorem num12_any (n : Int) (w : World) : Calls Tryz.prog 27 #[.int .i64 n] w fun e w' => e = .returned (.int .i64 n) ∧ w = w' := by
 go_enter Tryz.func27, Tryz.ntmps27
 go_wp2
 go_ret
 exact ⟨rfl, rfl⟩
theorem Gd.szs {len : Nat} {l : List EnV} (h : Gd len l) : Sml l := fun X hX => by
 obtain ⟨i, hi, rfl⟩ := List.getElem_of_mem hX
 have k := h.2.1 i l[i] (List.getElem?_eq_getElem hi)
 refine ⟨k.p, k.t, fun A hA => ?_⟩
 obtain ⟨j, hj, rfl⟩ := List.getElem_of_mem hA
 have := (k.at_ j _ (List.getElem?_eq_getElem hj)).1
 omega
set_option maxHeartbeats 2000000 in
theorem fails_bad (a : Option Addr) (len cap : Nat) (l : List EnV) (w : World) (E : Ens w a len l) (hb : Gd len l → (chk11 (ens l)).2 ≠ 0) : Calls Tryz.prog 19 #[.slice a len cap] w fun e w' => e = .returned (.bool false) ∧ w.grownBy w' none := by
 have hmu := rmuch_two a len cap l w E
 unfold MuPost2 at hmu
 have HE : Hid _ := And.intro E hb
 clear E hb
 go_enter Tryz.func19, Tryz.ntmps19
 go_wp2_with fail
 refine hmu.mono ?_
 clear hmu
 rintro e W1 ⟨⟨rfl, -⟩ | ⟨rfl, hG⟩, g1⟩
 ·have HG : Hid _ := g1
  clear g1
  go_wp2
  go_ret
  exact ⟨rfl, HG.out⟩
 ·have hrc := rcheck_any a len cap l W1 (HE.out.1.grown g1) hG.szs (by have := hG.1; omega)
  have hne := HE.out.2 hG
  have HG : Hid _ := g1
  clear g1 hG
  generalize (chk11 (ens l)).1 = k1 at *
  generalize (chk11 (ens l)).2 = k2 at *
  have hkb : (k2 == 0) = false := by rw [beq_eq_false_iff_ne]; exact hne
  go_wp2_with fail
  refine hrc.mono ?_
  clear hrc
  rintro e W2 ⟨rfl, g2⟩
  have HG2 : Hid _ := grown_trans HG.out g2
  clear g2
  go_wp2
  go_ret
  exact ⟨rfl, HG2.out⟩
def exV12 (g : Nat) : List EnV := [⟨⟨#[97]⟩, 2, 0, 0, 0, 0, 0, none, 0, 0, [], ⟨#[]⟩, 0, none, 0, 0, []⟩, ⟨⟨#[97, 47, 102]⟩, 1, 0, 0, 0, 0, 4, some ⟨g, 0, none⟩, 2, 2, [120, 121], ⟨#[]⟩, 0, none, 0, 0, []⟩, ⟨⟨#[108]⟩, 3, 0, 0, 0, 0, 0, none, 0, 0, [], ⟨#[97]⟩, 0, none, 0, 0, []⟩]
theorem exV12_ens (g : Nat) : ens (exV12 g) = ex12 := by
 unfold ens exV12 ex12 EnV.en
 simp [ByteArray.toList_eq]
theorem ex12_chk : (chk11 ex12).2 = 0 := by kernel_rfl
theorem marked_row12 (w : World) (bs : List Int) (m : Nat × Nat) (hb : Byt bs) (hl : bs.length ≤ maxLen) : Row (w.alloc (.cells (bv bs).toArray 5 m)) (some ⟨w.heap.size, 0, none⟩) bs.length bs := by
 refine ⟨rfl, hl, hb, fun _ => ⟨w.heap.size, 0, rfl, fun i hi => ?_⟩⟩
 rw [Nat.zero_add]
 have h : (w.alloc (.cells (bv bs).toArray 5 m)).heap[w.heap.size]? = some (.cells (bv bs).toArray 5 m) := heap_alloc_new _ _
 simp only [World.cell?, h]
 rw [← bv_getElem? bs i hi]
 simp
theorem ex12_mem (w : World) : Ens ((w.alloc (.cells #[.int .u8 120, .int .u8 121] 5 (2, 3))).alloc (.cells ((exV12 w.heap.size).flatMap evc).toArray 30)) (some ⟨w.heap.size + 1, 0, none⟩) 3 (exV12 w.heap.size) := by
 have b := Bx.new (w.alloc (.cells #[.int .u8 120, .int .u8 121] 5 (2, 3))) 30 ((exV12 w.heap.size).flatMap evc)
 have hsz : (w.alloc (.cells #[.int .u8 120, .int .u8 121] 5 (2, 3))).heap.size = w.heap.size + 1 := by simp
 rw [hsz] at b
 have hr : Row ((w.alloc (.cells #[.int .u8 120, .int .u8 121] 5 (2, 3))).alloc (.cells ((exV12 w.heap.size).flatMap evc).toArray 30)) (some ⟨w.heap.size, 0, none⟩) 2 [120, 121] := (marked_row12 w [120, 121] (2, 3) (fun x hx => by simp at hx; omega) (by decide)).grown (World.grownBy_alloc _ _ none)
 refine ⟨rfl, by decide, fun _ => ⟨w.heap.size + 1, 0, rfl, fun i X hX => ?_⟩⟩
 generalize hWW : (w.alloc (.cells #[.int .u8 120, .int .u8 121] 5 (2, 3))).alloc (.cells ((exV12 w.heap.size).flatMap evc).toArray 30) = WW at *
 have k : ∀ f, f < 11 → WW.cell? ⟨w.heap.size + 1, 0 + i * 11 + f, none⟩ = (evc X)[f]? := fun f hf => by
  rw [Nat.zero_add, b.c (i * 11 + f), flat_at evc 11 evc_len (exV12 w.heap.size) i f X hX hf]
 have hm := List.mem_of_getElem? hX
 have ho : X.ok WW := by
  unfold exV12 at hm
  simp at hm
  rcases hm with rfl | rfl | rfl
  ·exact ⟨row_zero none, by decide, ⟨rfl, by decide, fun h => absurd h (by decide)⟩, by decide⟩
  ·exact ⟨hr, Nat.le_refl 2, ⟨rfl, Nat.zero_le _, fun h => absurd h (Nat.lt_irrefl 0)⟩, Nat.le_refl 0⟩
  ·exact ⟨row_zero none, by decide, ⟨rfl, by decide, fun h => absurd h (by decide)⟩, by decide⟩
 exact ⟨k 0 (by decide), k 1 (by decide), k 2 (by decide), k 3 (by decide), k 4 (by decide), k 5 (by decide), k 6 (by decide), k 7 (by decide), k 8 (by decide), k 9 (by decide), k 10 (by decide), ho⟩
theorem ex12_sml (g : Nat) : Sml (exV12 g) := by
 intro X hX
 unfold exV12 at hX
 simp at hX
 rcases hX with rfl | rfl | rfl
 ·exact ⟨by decide, by decide, fun A hA => by cases hA⟩
 ·exact ⟨show 3 ≤ _ by omega, show 0 ≤ _ by omega, fun A hA => by cases hA⟩
 ·exact ⟨by decide, by decide, fun A hA => by cases hA⟩
theorem dv_of {ns : List NoV} (h : ∀ n ∈ nos ns, Dv n) : ∀ X ∈ ns, (X.data.length : Int) ≤ X.size ∧ X.size ≤ 1099511627775 := fun X hX => by
 have := h X.no (List.mem_map.2 ⟨X, hX, rfl⟩)
 exact ⟨this.data, this.le⟩
set_option maxHeartbeats 4000000 in
theorem live12_any (w : World) : Calls Tryz.prog 20 #[] w fun e w' => e = .returned (.bool true) ∧ w.grownBy w' none := by
 have hca := rcanon_any (some ⟨w.heap.size + 1, 0, none⟩) 3 3 (exV12 w.heap.size) _ (ex12_mem w) (ex12_sml _) (by decide) (fun X hX => by unfold exV12 at hX; simp at hX; rcases hX with rfl | rfl | rfl <;> exact Nat.zero_le _) (by rw [exV12_ens]; exact (chk_ok.1 ex12_chk).2.2)
 unfold CaPost at hca
 rw [exV12_ens] at hca
 have HG0 : Hid (w.grownBy ((w.alloc (.cells #[.int .u8 120, .int .u8 121] 5 (2, 3))).alloc (.cells ((exV12 w.heap.size).flatMap evc).toArray 30)) none) := grown_trans (World.grownBy_alloc _ _ none) (World.grownBy_alloc _ _ none)
 have hcs : (convert 23 23 (.slice (some ⟨w.heap.size, 0, none⟩) 2 2)).run Tryz.prog (w.alloc (.cells #[.int .u8 120, .int .u8 121] 5)) = .ok (.slice (some ⟨w.heap.size, 0, none⟩) 2 2) (w.alloc (.cells #[.int .u8 120, .int .u8 121] 5 (2, 3))) := Lib.run_convert_bytes_const w 23 5 _ 2 2 Tryz.underlying23 Tryz.underlying5
 go_enter Tryz.func20, Tryz.ntmps20
 go_wp2_with fail
 refine hca.mono ?_
 clear hca
 rintro e W1 ⟨b5, n5, c5, ns, rfl, hT, hn5, hno⟩
 have gA := World.grownBy_alloc W1 (.cells #[.slice b5 n5 c5] 33) none
 have bT := Bx.new W1 33 [.slice b5 n5 c5]
 have t0 : _ = some _ := bT.c 0
 have hnw := pnew_canon ex12_chk (by decide) (by intro x hx; unfold ex12 at hx; simp at hx; rcases hx with rfl | rfl | rfl <;> decide) hT hn5 hno _ gA
 have HG1 : Hid _ := grown_trans (grown_trans HG0.out hT.gr) gA
 have HNO : Hid _ := hno
 clear gA bT hT hn5 hno HG0
 go_wp2_with fail
 generalize W1.alloc (.cells #[.slice b5 n5 c5] 33) = W2 at *
 generalize W1.heap.size = gt at *
 refine hnw.mono ?_
 clear hnw
 rintro e W3 ⟨mb, mp, a, n, c, ns2, rfl, g3, hM, hn2, -, -, -, -⟩
 have HM : Hid _ := And.intro hM (And.intro (hn2.trans HNO.out) (grown_trans HG1.out g3))
 clear hM hn2 g3 HG1 t0
 go_wp2_with (go_at_call 27; refine (num12_any _ _).mono ?_; rintro e w' ⟨rfl, rfl⟩)
 refine (pwalk_ex W3 mb a n c mp ns2 HM.out.1 HM.out.2.1).mono ?_
 rintro e W4 ⟨rfl, g4⟩
 have hrd := pread_any W4 mb a n c mp ns2 (HM.out.1.kept g4) 2 1 9 (dv_of (by rw [HM.out.2.1]; exact canon_dv (chk_ok.1 ex12_chk).2.2)) (by decide)
 rw [HM.out.2.1, ex_rd] at hrd
 unfold RdPost12 at hrd
 have HG4 : Hid _ := grown_trans HM.out.2.2 g4
 clear g4
 go_wp2_with fail
 refine hrd.mono ?_
 clear hrd
 rintro e W5 ⟨ra, rc, rfl, g5, hby, -, hb⟩
 obtain ⟨g, rfl, -, hblk⟩ := hb (by decide)
 have hrow : Row W5 (some ⟨g, 0, none⟩) 3 [121, 0, 0] := Blk.row hblk hby (by decide)
 have hcv := conv_row hrow rc 23 9 Tryz.underlying23 Tryz.underlying5 Tryz.underlying9
 have hst : ((strOfNums [121, 0, 0]).toList == [121, 0, 0]) = true := by rw [str_toList]; decide
 have HG5 : Hid _ := grown_trans HG4.out g5
 clear g5 hby hblk hrow HM
 go_wp2_with (go_at_call 27; refine (num12_any _ _).mono ?_; rintro e w' ⟨rfl, rfl⟩)
 go_ret
 exact ⟨rfl, HG5.out⟩
theorem tree_size : (Tryz.prog.info? 33).map (·.size) = some 1 := by kernel_rfl
/-- what made makes -/
def MkPost (w : World) (len : Nat) (l : List EnV) (e : Ending) (w' : World) : Prop := w.grownBy w' none ∧
 ((e = .returned (.tuple #[.pointer none, .agg #[.slice none 0 0], .bool false]) ∧ (Gd len l → (chk11 (ens l)).2 ≠ 0)) ∨
  (Gd len l ∧ (chk11 (ens l)).2 = 0 ∧ ∃ (mb mp : Nat) (a : Option Addr) (n c : Nat) (ns2 : List NoV) (b5 : Option Addr) (n5 c5 : Nat) (ns : List NoV), e = .returned (.tuple #[.pointer (some ⟨mb, 0, none⟩), .agg #[.slice b5 n5 c5], .bool true]) ∧ Md w' mb a n c mp ns2 ∧ Nos w' b5 n5 ns ∧ nos ns2 = nos ns ∧ nos ns = canon (ens l)))
theorem ne_cell {W : World} {r : Nat} {T : TypeId} {x : Value} (hb : Bx W r T [x]) {b o : Nat} {v : Value} (h : W.cell? ⟨b, o, none⟩ = some v) (hv : v ≠ x) : b ≠ r := fun e => by
 subst e
 have := hb.c o
 rw [h] at this
 match o, this with
 | 0, t => injection t with t; exact hv t
 | o + 1, t => cases t
theorem cell_but12 {W W' : World} {r : Nat} (g : W.grownBy W' (some r)) {b o : Nat} {v : Value} (h : W.cell? ⟨b, o, none⟩ = some v) (hne : b ≠ r) : W'.cell? ⟨b, o, none⟩ = some v := g.cell h (by simpa using hne)
theorem Row.but12 {W W' : World} {r : Nat} {T : TypeId} {a : Option Addr} {n : Nat} {xs : List Int} (h : Row W a n xs) {y : Option Addr} {u v : Nat} (hb : Bx W r T [.slice y u v]) (g : W.grownBy W' (some r)) : Row W' a n xs :=
 ⟨h.len_eq, h.le, h.byt, fun h0 => by
  obtain ⟨b, off, e, k⟩ := h.cells h0
  exact ⟨b, off, e, fun i hi => cell_but12 g (k i hi) (ne_cell hb (k i hi) (by simp))⟩⟩
theorem Nos.but12 {W W' : World} {r : Nat} {T : TypeId} {a : Option Addr} {n : Nat} {ns : List NoV} (h : Nos W a n ns) {y : Option Addr} {u v : Nat} (hb : Bx W r T [.slice y u v]) (g : W.grownBy W' (some r)) : Nos W' a n ns :=
 ⟨h.len_eq, h.le, fun h0 => by
  obtain ⟨b, off, e, k⟩ := h.at_ h0
  refine ⟨b, off, e, fun i X hX => ?_⟩
  have q := k i X hX
  have hne : b ≠ r := ne_cell hb q.c0 (by simp)
  refine ⟨cell_but12 g q.c0 hne, cell_but12 g q.c1 hne, cell_but12 g q.c2 hne, cell_but12 g q.c3 hne, cell_but12 g q.c4 hne, cell_but12 g q.c5 hne, cell_but12 g q.c6 hne, cell_but12 g q.c7 hne, cell_but12 g q.c8 hne, cell_but12 g q.c9 hne, cell_but12 g q.c10 hne, cell_but12 g q.c11 hne, cell_but12 g q.c12 hne, q.ok.row.but12 hb g, ?_, ?_⟩
  ·exact ⟨q.ok.ats.len_eq, q.ok.ats.le, fun h1 => by
    obtain ⟨b2, o2, e2, k2⟩ := q.ok.ats.at_ h1
    refine ⟨b2, o2, e2, fun j A hA => ?_⟩
    have z := k2 j A hA
    have hz : b2 ≠ r := ne_cell hb z.c0 (by simp)
    exact ⟨cell_but12 g z.c0 hz, cell_but12 g z.c1 hz, z.row.but12 hb g, z.cap⟩⟩
  ·exact ⟨q.ok.kds.len_eq, q.ok.kds.le, fun h1 => by
    obtain ⟨b2, o2, e2, k2⟩ := q.ok.kds.at_ h1
    refine ⟨b2, o2, e2, fun j A hA => ?_⟩
    have z := k2 j A hA
    have hz : b2 ≠ r := ne_cell hb z.c0 (by simp)
    exact ⟨cell_but12 g z.c0 hz, cell_but12 g z.c1 hz⟩⟩⟩
theorem Md.but12 {W W' : World} {r : Nat} {T : TypeId} {mb : Nat} {a : Option Addr} {n c mp : Nat} {ns : List NoV} (h : Md W mb a n c mp ns) {y : Option Addr} {u v : Nat} (hb : Bx W r T [.slice y u v]) (g : W.grownBy W' (some r)) (h1 : mb ≠ r) (h2 : mp ≠ r) : Md W' mb a n c mp ns := by
 obtain ⟨m, f, h3, h4⟩ := h.map
 exact ⟨h.box.but g (by simpa using h1), h.nos.but12 hb g, h.caps, m, f, h3.kept g (by simpa using h2), h4⟩
theorem gd_data {w : World} {a : Option Addr} {len : Nat} {l : List EnV} (E : Ens w a len l) (h : Gd len l) : ∀ x ∈ ens l, x.data.length ≤ 70000 := fun x hx => by
 obtain ⟨X, hX, rfl⟩ := List.mem_map.1 hx
 obtain ⟨i, hi⟩ := List.mem_iff_getElem?.1 hX
 have h1 := (h.2.1 i X hi).d
 have hil := (List.getElem?_eq_some_iff.1 hi).1
 obtain ⟨b, off, -, k⟩ := E.at_ (by rw [← E.len_eq]; omega)
 have h2 := (k i X hi).ok.row.len_eq
 show X.data.length ≤ 70000
 omega
theorem gd_al {len : Nat} {l : List EnV} (h : Gd len l) : ∀ X ∈ l, X.al ≤ 100000 := fun X hX => by
 obtain ⟨i, hi⟩ := List.mem_iff_getElem?.1 hX
 have := (h.2.1 i X hi).a
 omega
set_option maxHeartbeats 8000000 in
theorem made_any (a : Option Addr) (len cap : Nat) (l : List EnV) (w : World) (E : Ens w a len l) : Calls Tryz.prog 18 #[.slice a len cap] w (MkPost w len l) := by
 have bR := Bx.new w 33 [.slice none 0 0]
 have gR := World.grownBy_alloc w (.cells #[.slice none 0 0] 33) none
 have hmu := rmuch_two a len cap l _ (E.grown gR)
 unfold MuPost2 at hmu
 have HE : Hid _ := And.intro E (And.intro bR gR)
 clear E bR gR
 go_enter Tryz.func18, Tryz.ntmps18
 go_wp2_with fail
 refine hmu.mono ?_
 clear hmu
 rintro e W1 ⟨⟨rfl, hbad⟩ | ⟨rfl, hG⟩, g1⟩
 ·have bR := HE.out.2.1.kept g1
  have c0 : _ = some _ := bR.c 0
  have f0 := bR.f 0
  have b2 := bR.set 0 (.slice none 0 0)
  have d0 : _ = some _ := b2.c 0
  have HF : Hid _ := And.intro (grown_new (grown_trans HE.out.2.2 g1) (grown_set W1 w.heap.size 0 (.slice none 0 0)) (Nat.le_refl _)) hbad
  clear bR b2 g1 hbad
  go_wp2_with fail
  refine bodyPost_ret (v := .tuple #[.pointer none, .agg #[.slice none 0 0], .bool false]) (by simp [results, Tryz.results18, go_sem, *]) rfl ?_
  exact ⟨HF.out.1, Or.inl ⟨rfl, fun h => absurd h HF.out.2⟩⟩
 ·have hrc := rcheck_any a len cap l W1 (HE.out.1.grown (grown_trans HE.out.2.2 g1)) hG.szs (by have := hG.1; omega)
  have HG : Hid _ := And.intro hG (And.intro (grown_trans HE.out.2.2 g1) (HE.out.2.1.kept g1))
  clear g1 hG
  generalize hk1 : (chk11 (ens l)).1 = k1 at *
  generalize hk2 : (chk11 (ens l)).2 = k2 at *
  have HK : Hid _ := hk2
  clear hk1 hk2
  go_wp2_with fail
  refine hrc.mono ?_
  clear hrc
  rintro e W2 ⟨rfl, g2⟩
  have HG2 : Hid _ := And.intro (grown_trans HG.out.2.1 g2) (HG.out.2.2.kept g2)
  clear g2
  by_cases hz : k2 = 0
  ·subst hz
   have hca := rcanon_any a len cap l W2 (HE.out.1.grown HG2.out.1) HG.out.1.szs (by have := HG.out.1.1; omega) (gd_al HG.out.1) (chk_ok.1 HK.out).2.2
   unfold CaPost at hca
   go_wp2_with fail
   refine hca.mono ?_
   clear hca
   rintro e W3 ⟨b5, n5, c5, ns, rfl, hT, hn5, hno⟩
   have gA := World.grownBy_alloc W3 (.cells #[.slice b5 n5 c5] 33) none
   have bT := Bx.new W3 33 [.slice b5 n5 c5]
   have t0 : _ = some _ := bT.c 0
   have hnw := pnew_canon HK.out (by unfold ens; rw [List.length_map, HE.out.1.len_eq]; exact HG.out.1.1) (gd_data HE.out.1 HG.out.1) hT hn5 hno _ gA
   have H3 : Hid _ := And.intro (grown_trans (grown_trans HG2.out.1 hT.gr) gA) (And.intro ((hT.nos hn5).grown gA) (And.intro hno (And.intro ((HG2.out.2.kept hT.gr).kept gA) bT)))
   have hgt : w.heap.size < W3.heap.size := (HG2.out.2.kept hT.gr).lt
   have hgt4 := gA.size
   have HGT : Hid _ := And.intro hgt hgt4
   clear gA bT hT hn5 hno HG2 hgt hgt4
   go_wp2_with fail
   generalize W3.alloc (.cells #[.slice b5 n5 c5] 33) = W4 at *
   generalize W3.heap.size = gt at *
   refine hnw.mono ?_
   clear hnw t0
   rintro e W5 ⟨mb, mp, a1, n1, c1, ns2, rfl, g5, hM, hn2, hmb, hmp, -, -⟩
   have H5 : Hid _ := And.intro (grown_trans H3.out.1 g5) (And.intro (H3.out.2.1.grown g5) (And.intro hM (And.intro hn2 (And.intro (H3.out.2.2.2.1.kept g5) (H3.out.2.2.2.2.kept g5)))))
   have HNO : Hid _ := H3.out.2.2.1
   have HNE : Hid (mb ≠ w.heap.size ∧ mp ≠ w.heap.size ∧ gt ≠ w.heap.size) := by have h1 := HGT.out; exact ⟨by omega, by omega, by omega⟩
   clear g5 hM hn2 H3 hmb hmp HGT
   go_wp2_with fail
   refine wp_region_held_drew (S := fun w' => W5.grownBy w' (some w.heap.size)) (by kernel_rfl) ⟨rfl, rfl, rfl, Nat.le_refl _, fun _ _ _ => rfl⟩ (fun hH => ?_)
   have HRD : Hid (Bx W5.drew w.heap.size 33 [.slice none 0 0]) := H5.out.2.2.2.2.1.kept (drewG0 W5)
   generalize W5.drew = WD at *
   refine wpAnyH_take (i := 0) (oi := ⟨some 28, _, _, _, _, _⟩) (v := .pointer (some ⟨mb, 0, none⟩)) rfl (by kernel_rfl) (by kernel_rfl) (by kernel_rfl) (fun _ _ _ h => h) (Or.inl ⟨by rfl, fun w hSw => by go_simp⟩) hH ?_
   simp only [Act.put, pu]
   refine wpAnyH_take (i := 1) (oi := ⟨some 29, _, _, _, _, _⟩) (v := .agg #[.slice b5 n5 c5]) rfl (by kernel_rfl) (by kernel_rfl) (by kernel_rfl) (fun _ _ _ h => h) (Or.inl ⟨by rfl, fun w hSw => by have c0 : _ = some _ := (H5.out.2.2.2.2.2.but hSw (by simpa using HNE.out.2.2)).c 0; go_simp⟩) hH ?_
   simp only [Act.put, pu]
   refine wpAnyH_take (i := 2) (oi := ⟨some 30, _, _, _, _, _⟩) (v := .int .i64 0) rfl (by kernel_rfl) (by kernel_rfl) (by kernel_rfl) (fun _ _ _ h => h) (Or.inl ⟨by rfl, fun w hSw => by go_simp⟩) hH ?_
   simp only [Act.put, pu]
   refine wpAnyH_ready (rs := [3]) (by kernel_rfl) (by simp) ?_
   refine AllReadyH.cons rfl (fun K1 hK => ?_) AllReadyH.nil
   go_simp
   refine (num12_any _ _).mono ?_
   rintro e w' ⟨rfl, rfl⟩
   refine hK.out _ _ hH (fun h0 => ?_)
   clear h0 hK K1
   try simp only [Act.put, pu]
   refine wpAnyH_take (i := 4) (oi := ⟨some 32, _, _, _, _, _⟩) (v := .bool true) rfl (by kernel_rfl) (by kernel_rfl) (by kernel_rfl) (fun _ _ _ h => h) (Or.inl ⟨by rfl, fun w hSw => by go_simp⟩) hH ?_
   simp only [Act.put, pu]
   refine wpAnyH_take (i := 5) (oi := ⟨some 2, _, _, _, _, _⟩) (v := .pointer (some ⟨mb, 0, none⟩)) rfl (by kernel_rfl) (by kernel_rfl) (by kernel_rfl) (fun _ _ _ h => h) (Or.inl ⟨by rfl, fun w hSw => by go_simp⟩) hH ?_
   simp only [Act.put, pu]
   refine wpAnyH_ready (rs := [6]) (by kernel_rfl) (by simp) ?_
   refine AllReadyH.cons rfl (fun K1 hK => ?_) AllReadyH.nil
   refine step_store_bx (by rfl) 33 _ _ (by rfl) w.heap.size [.slice b5 n5 c5] (by rfl) (by rfl) (old := [.slice none 0 0]) HRD.out tree_size rfl rfl ?_
   intro W6 hB6 g6
   replace hH := grown_trans hH g6
   have HB6 : Hid _ := hB6
   clear hB6 g6
   refine hK.out _ _ hH (fun h0 => ?_)
   clear h0 hK K1
   try simp only [Act.put, pu]
   refine wpAnyH_take (i := 7) (oi := ⟨some 4, _, _, _, _, _⟩) (v := .bool true) rfl (by kernel_rfl) (by kernel_rfl) (by kernel_rfl) (fun _ _ _ h => h) (Or.inl ⟨by rfl, fun w hSw => by go_simp⟩) hH ?_
   simp only [Act.put, pu]
   refine wpAnyH_done (by kernel_rfl) ?_ _
   have HF : Hid _ := And.intro (grown_new H5.out.1 hH (Nat.le_refl _)) (And.intro (H5.out.2.2.1.but12 H5.out.2.2.2.2.1 hH HNE.out.1 HNE.out.2.1) (H5.out.2.1.but12 H5.out.2.2.2.2.1 hH))
   clear hH
   have d0 : _ = some _ := HB6.out.c 0
   go_wp2_with fail
   refine bodyPost_ret (v := .tuple #[.pointer (some ⟨mb, 0, none⟩), .agg #[.slice b5 n5 c5], .bool true]) (by simp [results, Tryz.results18, go_sem, *]) rfl ?_
   exact ⟨HF.out.1, Or.inr ⟨HG.out.1, HK.out, mb, mp, a1, n1, c1, ns2, b5, n5, c5, ns, rfl, HF.out.2.1, HF.out.2.2, H5.out.2.2.2.1, HNO.out⟩⟩
  ·have hkb : (k2 == 0) = false := by rw [beq_eq_false_iff_ne]; exact hz
   have hkn : (k2 != 0) = true := by simp [hz]
   have c0 : _ = some _ := HG2.out.2.c 0
   have f0 := HG2.out.2.f 0
   have b2 := HG2.out.2.set 0 (.slice none 0 0)
   have d0 : _ = some _ := b2.c 0
   have HF : Hid _ := grown_new HG2.out.1 (grown_set W2 w.heap.size 0 (.slice none 0 0)) (Nat.le_refl _)
   clear b2
   go_wp2_with fail
   refine bodyPost_ret (v := .tuple #[.pointer none, .agg #[.slice none 0 0], .bool false]) (by simp [results, Tryz.results18, go_sem, *]) rfl ?_
   exact ⟨HF.out, Or.inl ⟨rfl, fun _ => by rw [HK.out]; exact hz⟩⟩
theorem wfi12 {n : Int} (h : (Lit.int .i64 n).wf = true) : n ≤ 9223372036854775807 := by
 simp [Lit.wf, IntKind.wrap, IntKind.bits, IntKind.signed, IntKind.min, IntKind.max] at h
 omega
theorem rda_small (L : List No) (i off m : Int) : (rda L i off m).1.length ≤ 1048576 := by
 unfold rda
 split
 ·exact Nat.zero_le _
 ·split
  ·exact Nat.zero_le _
  ·split
   ·exact Nat.zero_le _
   ·rw [rdb_len]
    unfold rdn
    omega
set_option maxHeartbeats 8000000 in
theorem modelReads_walk (a : Option Addr) (len cap : Nat) (l : List EnV) (i off m : Int) (w : World) (E : Ens w a len l) (ho : off ≤ 9223372036854775807) : Calls Tryz.prog 7 #[.slice a len cap, .int .i64 i, .int .i64 off, .int .i64 m] w fun e w' => e = .returned (.bool true) ∧ w.grownBy w' none := by
 have hmk := made_any a len cap l w E
 unfold MkPost at hmk
 have HE : Hid _ := And.intro E ho
 clear E ho
 go_enter Tryz.func7, Tryz.ntmps7
 go_wp2_with fail
 refine hmk.mono ?_
 clear hmk
 rintro e W1 ⟨g1, ⟨rfl, hbad⟩ | ⟨hG, hc, mb, mp, a1, n1, c1, ns2, b5, n5, c5, ns, rfl, hM, hN, hn2, hno⟩⟩
 ·have gA := World.grownBy_alloc W1 (.cells #[.slice none 0 0] 33) none
  have hfa := fails_bad a len cap l _ (HE.out.1.grown (grown_trans g1 gA)) hbad
  have HG : Hid _ := grown_trans g1 gA
  clear g1 gA hbad
  go_wp2_with fail
  refine hfa.mono ?_
  rintro e W2 ⟨rfl, g2⟩
  have HG2 : Hid _ := grown_trans HG.out g2
  clear g2 HG hfa
  go_wp2_with fail
  refine (live12_any _).mono ?_
  rintro e W3 ⟨rfl, g3⟩
  have HG3 : Hid _ := grown_trans HG2.out g3
  clear g3 HG2
  go_wp2
  go_ret
  exact ⟨rfl, HG3.out⟩
 ·have gA := World.grownBy_alloc W1 (.cells #[.slice b5 n5 c5] 33) none
  have bA := Bx.new W1 33 [.slice b5 n5 c5]
  have hdv := canon_dv (chk_ok.1 hc).2.2
  rw [← hno] at hdv
  have hdv2 := dv_of hdv
  rw [← hn2] at hdv
  have hdv1 := dv_of hdv
  have HM : Hid _ := And.intro (hM.kept gA) (And.intro (hN.grown gA) (And.intro bA (And.intro (grown_trans g1 gA) (And.intro hn2 (And.intro hdv1 hdv2)))))
  clear gA bA hM hN hn2 hno hdv hdv1 hdv2 g1 hG hc
  by_cases hm : 100000 < m ∧ m ≤ 1048576
  ·obtain ⟨m1, m2⟩ := hm
   go_wp2_with fail
   refine (live12_any _).mono ?_
   rintro e W3 ⟨rfl, g3⟩
   have HG3 : Hid _ := grown_trans HM.out.2.2.2.1 g3
   clear g3 HM
   go_wp2
   go_ret
   exact ⟨rfl, HG3.out⟩
  ·have hm3 : m ≤ 100000 ∨ 1048576 < m := by omega
   have HM3 : Hid _ := hm3
   have hpr := pread_any _ mb a1 n1 c1 mp ns2 HM.out.1 i off m HM.out.2.2.2.2.2.1 HE.out.2
   have hrr := fun W g => rread_any W b5 n5 c5 ns (HM.out.2.1.grown g) i off m HM.out.2.2.2.2.2.2 HM3.out
   rw [HM.out.2.2.2.2.1] at hpr
   have hal := rda_small (nos ns) i off m
   unfold RdPost12 at hpr
   unfold RrPost12 at hrr
   generalize rda (nos ns) i off m = A at *
   obtain ⟨A1, A2⟩ := A
   simp only at hpr hrr hal
   have HA1 : Hid _ := hal
   clear hal
   clear hm3
   rcases Int.lt_or_le 100000 m with q1 | q1
   ·have q2 : ¬ m ≤ 1048576 := by omega
    clear hm
    go_wp2_with fail
    generalize hWB : W1.alloc (.cells #[.slice b5 n5 c5] 33) = WB at *
    generalize W1.heap.size = gt at *
    clear hWB
    refine hpr.mono ?_
    clear hpr
    rintro e W2 ⟨ra, rc, rfl, g2, hby, -, hb⟩
    have hrow : Row W2 ra A1.length A1 := by
     rcases Nat.eq_zero_or_pos A1.length with h0 | h0
     ·have : A1 = [] := List.eq_nil_of_length_eq_zero h0
      subst this
      exact row_zero ra
     ·obtain ⟨g, rfl, -, hblk⟩ := hb h0
      exact Blk.row hblk hby (Nat.le_of_lt_succ (Nat.lt_succ_of_le (by have := HA1.out; unfold maxLen; omega)))
    have t2 : _ = some _ := (HM.out.2.2.1.kept g2).c 0
    have hr2 := hrr W2 g2
    have HW2 : Hid _ := And.intro (grown_trans HM.out.2.2.2.1 g2) (And.intro hrow hby)
    clear g2 hby hb hrow hrr
    go_wp2_with fail
    refine hr2.mono ?_
    clear hr2
    rintro e W3 ⟨rb, rd, rfl, g3, hrow3⟩
    have cv1 := conv_row (HW2.out.2.1.grown g3) rc 23 9 Tryz.underlying23 Tryz.underlying5 Tryz.underlying9
    have cv2 := conv_row hrow3 rd 23 9 Tryz.underlying23 Tryz.underlying5 Tryz.underlying9
    have HW3 : Hid _ := grown_trans HW2.out.1 g3
    clear g3 hrow3 HW2 t2 HM
    generalize strOfNums A1 = ss at *
    generalize A1.length = nn at *
    go_wp2_with (go_at_call 27; refine (num12_any _ _).mono ?_; rintro e w' ⟨rfl, rfl⟩)
    refine (live12_any _).mono ?_
    rintro e W4 ⟨rfl, g4⟩
    have HG4 : Hid _ := grown_trans HW3.out g4
    clear g4 HW3
    go_wp2
    go_ret
    exact ⟨rfl, HG4.out⟩
   ·have q2 : ¬ 100000 < m := by omega
    clear hm
    go_wp2_with fail
    generalize hWB : W1.alloc (.cells #[.slice b5 n5 c5] 33) = WB at *
    generalize W1.heap.size = gt at *
    clear hWB
    refine hpr.mono ?_
    clear hpr
    rintro e W2 ⟨ra, rc, rfl, g2, hby, -, hb⟩
    have hrow : Row W2 ra A1.length A1 := by
     rcases Nat.eq_zero_or_pos A1.length with h0 | h0
     ·have : A1 = [] := List.eq_nil_of_length_eq_zero h0
      subst this
      exact row_zero ra
     ·obtain ⟨g, rfl, -, hblk⟩ := hb h0
      exact Blk.row hblk hby (Nat.le_of_lt_succ (Nat.lt_succ_of_le (by have := HA1.out; unfold maxLen; omega)))
    have t2 : _ = some _ := (HM.out.2.2.1.kept g2).c 0
    have hr2 := hrr W2 g2
    have HW2 : Hid _ := And.intro (grown_trans HM.out.2.2.2.1 g2) (And.intro hrow hby)
    clear g2 hby hb hrow hrr
    go_wp2_with fail
    refine hr2.mono ?_
    clear hr2
    rintro e W3 ⟨rb, rd, rfl, g3, hrow3⟩
    have cv1 := conv_row (HW2.out.2.1.grown g3) rc 23 9 Tryz.underlying23 Tryz.underlying5 Tryz.underlying9
    have cv2 := conv_row hrow3 rd 23 9 Tryz.underlying23 Tryz.underlying5 Tryz.underlying9
    have HW3 : Hid _ := grown_trans HW2.out.1 g3
    clear g3 hrow3 HW2 t2 HM
    generalize strOfNums A1 = ss at *
    generalize A1.length = nn at *
    go_wp2_with (go_at_call 27; refine (num12_any _ _).mono ?_; rintro e w' ⟨rfl, rfl⟩)
    refine (live12_any _).mono ?_
    rintro e W4 ⟨rfl, g4⟩
    have HG4 : Hid _ := grown_trans HW3.out g4
    clear g4 HW3
    go_wp2
    go_ret
    exact ⟨rfl, HG4.out⟩
end Go.Proofs.YtaclbaapfllcoaaGreatDoor
