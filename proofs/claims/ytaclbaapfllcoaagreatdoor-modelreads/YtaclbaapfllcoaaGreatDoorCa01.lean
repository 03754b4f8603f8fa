/- Bytes of files read: the document's. The program's walks, where nothing is wrong. The program's walks, where nothing is wrong: a step. The page's example: what the tree of [folder a, file a/f, link l to a] answers. -/
import Derived.KernelRfl
import Derived.Test.YtaclbaapfllcoaaGreatDoorB06
import Derived.Test.YtaclbaapfllcoaaGreatDoorB19
import Derived.Test.YtaclbaapfllcoaaGreatDoorB21
import Derived.Test.YtaclbaapfllcoaaGreatDoorB33
namespace Go.Proofs.YtaclbaapfllcoaaGreatDoor
open Go.RowKit
set_option maxRecDepth 100000
set_option linter.unusedSimpArgs false
set_option linter.unusedVariables false
/-- the first bytes that are read -/
def rdp (data : List Int) (off : Nat) (k : Nat) : List Int := (List.range k).map (fun i => data.getD (off + i) 0)
theorem rdp_snoc (data : List Int) (off k : Nat) : rdp data off (k + 1) = rdp data off k ++ [data.getD (off + k) 0] := by
 unfold rdp
 rw [List.range_succ, List.map_append]
 rfl
/-- what the document's Read tells, in memory -/
def RrPost12 (w : World) (A : List Int × Int) (e : Ending) (w' : World) : Prop := ∃ (a : Option Addr) (c : Nat), e = .returned (.tuple #[.slice a A.1.length c, .int .i64 A.2]) ∧ w.grownBy w' none ∧ Row w' a A.1.length A.1
theorem own_row12 {W : World} {base n c : Nat} {a : Option Addr} {xs : List Int} (h : W.ownsRow base 5 1 (.slice a n c) n (bv xs)) (hb : Byt xs) : Row W a n xs := (OwnB.row ⟨h, hb⟩)
set_option maxHeartbeats 8000000 in
theorem rread_any (w : World) (a : Option Addr) (n c : Nat) (ns : List NoV) (hN : Nos w a n ns) (i off m : Int) (hdv : ∀ X ∈ ns, (X.data.length : Int) ≤ X.size ∧ X.size ≤ 1099511627775) (hm : m ≤ 100000 ∨ 1048576 < m) :
  Calls Tryz.prog 32 #[.agg #[.slice a n c], .int .i64 i, .int .i64 off, .int .i64 m] w (RrPost12 w (rda (nos ns) i off m)) := by
 have gA := World.grownBy_alloc w (.cells #[.slice a n c] 33) none
 have bA := Bx.new w 33 [.slice a n c]
 have hok := rkind_any _ a n c ns (hN.grown gA) i 1
 have t0 : _ = some _ := bA.c 0
 have HM : Hid _ := And.intro (hN.grown gA) (And.intro bA (And.intro gA hdv))
 clear hN bA gA hdv
 obtain ⟨R, hR⟩ : ∃ R, R = rda (nos ns) i off m := ⟨_, rfl⟩
 rw [← hR]
 have HR : Hid _ := hR
 clear hR
 obtain ⟨i5, hi, hz0, hz1, hz2⟩ := info_parts Tryz.info5
 go_enter Tryz.func32, Tryz.ntmps32
 go_wp2_with fail
 generalize hWA : w.alloc (.cells #[.slice a n c] 33) = WA at *
 clear hWA
 refine hok.mono ?_
 clear hok
 rintro e W1 ⟨rfl, g1⟩
 have HG1 : Hid _ := And.intro (grown_trans HM.out.2.2.1 g1) (And.intro (HM.out.1.grown g1) (And.intro (HM.out.2.1.kept g1) HM.out.2.2.2))
 clear g1 HM t0
 have t0 : _ = some _ := HG1.out.2.2.1.c 0
 by_cases hz : knd (nos ns) i 1 = 0
 ·obtain ⟨j, X, rfl, hX, hXk⟩ := knd_zero hz
  have hl := rda_at hX hz off m
  rw [hz]
  rw [← HR.out] at hl
  have HL : Hid _ := hl
  have hj : j < n := by rw [← HG1.out.2.1.len_eq]; exact (List.getElem?_eq_some_iff.1 hX).1
  have hle := HG1.out.2.1.le
  obtain ⟨hs1, hs2⟩ := HG1.out.2.2.2 X (List.mem_of_getElem? hX)
  obtain ⟨b, o0, rfl, hat⟩ := HG1.out.2.1.at_ (by omega)
  obtain ⟨y0, y1, y2, y3, y4, y5, y6, y7, y8, y9, y10, y11, y12, yok⟩ := hat j X hX
  obtain ⟨NK, mode, uid, gid, time, size, da, dl, dc, data, target, dev, aa, al, ac, attrs, ka, kl, kc, kids, parent, links⟩ := X
  simp only at y0 y1 y2 y3 y4 y5 y6 y7 y8 y9 y10 y11 y12 hs1 hs2 HL
  have hrow : Row W1 da dl data := yok.row
  have h2 : (j : Int) < (n : Int) := by omega
  clear hl hXk hz HR hat hX yok
  by_cases q1 : off < 0
  ·have HV : Hid (R = ([], 1)) := by show _ = _; rw [HL.out, if_pos (Or.inl q1)]
   clear HL
   go_wp2
   go_ret2
   unfold RrPost12
   rw [HV.out]
   exact ⟨none, 0, rfl, HG1.out.1, row_zero none⟩
  by_cases q2 : m < 0
  ·have HV : Hid (R = ([], 1)) := by show _ = _; rw [HL.out, if_pos (Or.inr q2)]
   clear HL
   go_wp2
   go_ret2
   unfold RrPost12
   rw [HV.out]
   exact ⟨none, 0, rfl, HG1.out.1, row_zero none⟩
  by_cases q3 : 1048576 < m
  ·have HV : Hid (R = ([], 2)) := by show _ = _; rw [HL.out, if_neg (by omega), if_pos q3]
   clear HL
   go_wp2
   go_ret2
   unfold RrPost12
   rw [HV.out]
   exact ⟨none, 0, rfl, HG1.out.1, row_zero none⟩
  have HV : Hid (R = (rdb data size off m, 0)) := by show _ = _; rw [HL.out, if_neg (by omega), if_neg q3]
  have hm1 : m ≤ 100000 := by omega
  have gB := World.grownBy_alloc W1 (.cells #[.int .i64 NK, .int .i64 mode, .int .i64 uid, .int .i64 gid, .int .i64 time, .int .i64 size, .slice da dl dc, .string target, .int .i64 dev, .slice aa al ac, .slice ka kl kc, .int .i64 parent, .int .i64 links] 43) none
  have bB := Bx.new W1 43 [.int .i64 NK, .int .i64 mode, .int .i64 uid, .int .i64 gid, .int .i64 time, .int .i64 size, .slice da dl dc, .string target, .int .i64 dev, .slice aa al ac, .slice ka kl kc, .int .i64 parent, .int .i64 links]
  have hdl : data.length = dl := hrow.len_eq
  rw [hdl] at hs1
  have HB : Hid _ := And.intro (grown_trans HG1.out.1 gB) (And.intro (hrow.grown gB) (And.intro bB (And.intro hdl hrow.byt)))
  clear HL gB bB hrow hdl HG1 hm
  go_wp2_with fail
  generalize hWB : W1.alloc (.cells #[.int .i64 NK, .int .i64 mode, .int .i64 uid, .int .i64 gid, .int .i64 time, .int .i64 size, .slice da dl dc, .string target, .int .i64 dev, .slice aa al ac, .slice ka kl kc, .int .i64 parent, .int .i64 links] 43) = WB at *
  clear hWB y0 y1 y2 y3 y4 y5 y6 y7 y8 y9 y10 y11 y12 t0
  generalize W1.heap.size = gb at *
  obtain ⟨f, rfl⟩ : ∃ f : Nat, off = (f : Int) := ⟨off.toNat, by omega⟩
  obtain ⟨mm, rfl⟩ : ∃ mm : Nat, m = (mm : Int) := ⟨m.toNat, by omega⟩
  obtain ⟨sz, rfl⟩ : ∃ sz : Nat, size = (sz : Int) := ⟨size.toNat, by omega⟩
  have hrn : rdn sz f mm = min mm (sz - f) := by unfold rdn; omega
  have HRN : Hid _ := hrn
  have HSZ : Hid (mm ≤ 100000 ∧ sz ≤ 1099511627775 ∧ dl ≤ sz) := ⟨by omega, by omega, by omega⟩
  clear hrn q1 q2 q3 hs1 hs2 hm1 hle h2 hj
  go_loopw [12] (fun v wr => ∃ (k : Nat) (va : Option Addr) (vc : Nat), k ≤ min mm (sz - f) ∧ v = .slice va k vc ∧ Hid (wr.ownsRow WB.heap.size 5 1 (.slice va k vc) k (bv (rdp data f k)) ∧ WB.grownBy wr none)) (fun v _ => mm - (match v with | .slice _ k _ => k | _ => 0))
  case atStart => exact ⟨0, none, 0, Nat.zero_le _, rfl, World.ownsRow_nil _ _ _ _, World.grownBy.refl _ _⟩
  case round =>
   obtain ⟨k, va, vc, hk0, rfl, HK⟩ := hrel
   have HKL : Hid _ := hk0
   obtain ⟨hm1, hs2, hs1⟩ := HSZ.out
   have hk : k ≤ 100000 := by omega
   clear hk0
   have bK := HB.out.2.2.1.kept HK.out.2
   have v5 : _ = some _ := bK.c 5
   have v6 : _ = some _ := bK.c 6
   by_cases hlt : k < mm ∧ f < sz - k
   ·have HLT : Hid _ := hlt
    obtain ⟨hl1, hl2⟩ := hlt
    have l1 : (k : Int) < (mm : Int) := by omega
    have l2 : (f : Int) < (sz : Int) - (k : Int) := by omega
    have lw1 : wrap64 ((sz : Int) - (k : Int)) = (sz : Int) - (k : Int) := by unfold wrap64; omega
    have lw2 : wrap64 ((dl : Int) - (k : Int)) = (dl : Int) - (k : Int) := by unfold wrap64; omega
    clear hl1 hl2
    by_cases hd : f + k < dl
    ·have l3 : (f : Int) < (dl : Int) - (k : Int) := by omega
     have lw3 : wrap64 ((f : Int) + (k : Int)) = ((f + k : Nat) : Int) := by unfold wrap64; omega
     have l4 : ((f + k : Nat) : Int) < (dl : Int) := by omega
     obtain ⟨db, dof, hda, hdc⟩ := (HB.out.2.1.grown HK.out.2).cells (by omega)
     have x1 := hdc (f + k) hd
     rw [hda] at v6
     clear hda
     generalize hxx : data.getD (f + k) 0 = xx at *
     have HD0 : Hid (data.getD (f + k) 0 = xx) := hxx
     have HNB : Hid _ := And.intro hm1 (And.intro hs2 (And.intro hs1 hk))
     clear hdc hxx hd hm1 hs2 hs1 hk
     go_wp2_with (at_builtin; (refine wpList_append_own _ rfl _ _ 23 rfl WB.heap.size 5 i5 (.int .u8 0) 1 1 Tryz.underlying23 hi hz0 hz1 hz2 rfl (by decide) _ k _ rfl (HK.out.1.alloc _) ⟨wr.heap.size, 0, none⟩ 1 1 (bv [xx]) rfl rfl ?c1 (bv_one _) ?c3 ?c4 ?c5 ?_))
     case c1 => first | exact cell_one_newV _ _ _ | exact fun j u h => h
     case c3 => have := HNB.out.2.2.2; unfold maxLen; omega
     case c4 => have := HNB.out.2.2.2; omega
     case c5 => have := HK.out.2.size; simp; omega
     ·intro v2 w2 own2 grow2 _
      obtain ⟨a2, c2, rfl⟩ := own_shape own2
      have G2 : WB.grownBy w2 none := grown_own (grown_trans HK.out.2 (World.grownBy_alloc wr _ none)) (HK.out.1.alloc _) grow2 (Nat.le_refl _)
      rw [← bv_append, ← HD0.out, ← rdp_snoc] at own2
      have H2 : Hid _ := And.intro own2 G2
      clear own2 grow2 G2 HK bK v5 v6
      go_wp2
      exact ⟨⟨k + 1, a2, c2, by have := HKL.out; have := HLT.out; omega, rfl, H2⟩, by have := HLT.out; simp only; omega⟩
    ·have l3 : ¬ (f : Int) < (dl : Int) - (k : Int) := by omega
     have HD0 : Hid (data.getD (f + k) 0 = 0) := by
      show _ = _
      rw [List.getD_eq_getElem?_getD, List.getElem?_eq_none (by rw [HB.out.2.2.2.1]; omega)]
      rfl
     have HNB : Hid _ := And.intro hm1 (And.intro hs2 (And.intro hs1 hk))
     clear hd hm1 hs2 hs1 hk
     go_wp2_with (at_builtin; (refine wpList_append_own _ rfl _ _ 23 rfl WB.heap.size 5 i5 (.int .u8 0) 1 1 Tryz.underlying23 hi hz0 hz1 hz2 rfl (by decide) _ k _ rfl (HK.out.1.alloc _) ⟨wr.heap.size, 0, none⟩ 1 1 (bv [0]) rfl rfl ?c1 (bv_one _) ?c3 ?c4 ?c5 ?_))
     case c1 => first | exact cell_one_newV _ _ _ | exact fun j u h => h
     case c3 => have := HNB.out.2.2.2; unfold maxLen; omega
     case c4 => have := HNB.out.2.2.2; omega
     case c5 => have := HK.out.2.size; simp; omega
     ·intro v2 w2 own2 grow2 _
      obtain ⟨a2, c2, rfl⟩ := own_shape own2
      have G2 : WB.grownBy w2 none := grown_own (grown_trans HK.out.2 (World.grownBy_alloc wr _ none)) (HK.out.1.alloc _) grow2 (Nat.le_refl _)
      rw [← bv_append, ← HD0.out, ← rdp_snoc] at own2
      have H2 : Hid _ := And.intro own2 G2
      clear own2 grow2 G2 HK bK v5 v6
      go_wp2
      exact ⟨⟨k + 1, a2, c2, by have := HKL.out; have := HLT.out; omega, rfl, H2⟩, by have := HLT.out; simp only; omega⟩
   ·have hkk : k = min mm (sz - f) := by have := HKL.out; omega
    have e1 : (rdb data sz f mm).length = k := by rw [rdb_len, HRN.out, hkk]
    have e2 : rdp data f k = rdb data sz f mm := by rw [hkk, ← HRN.out]; rfl
    have HE : Hid _ := And.intro e1 e2
    clear e1 e2
    by_cases hl1 : k < mm
    ·have l1 : (k : Int) < (mm : Int) := by omega
     have lw1 : wrap64 ((sz : Int) - (k : Int)) = (sz : Int) - (k : Int) := by unfold wrap64; omega
     have l2 : ¬ (f : Int) < (sz : Int) - (k : Int) := by omega
     clear hkk hlt hl1 hm1 hs2 hs1 hk
     go_wp2
     go_ret2
     unfold RrPost12
     rw [HV.out]
     have ho := HK.out.1
     rw [HE.out.2] at ho
     refine ⟨va, vc, by simp only [HE.out.1]; rfl, grown_trans HB.out.1 HK.out.2, ?_⟩
     simp only [HE.out.1]
     exact own_row12 ho (rdb_byt HB.out.2.2.2.2 _ _ _)
    ·have l1 : ¬ (k : Int) < (mm : Int) := by omega
     clear hkk hlt hl1 hm1 hs2 hs1 hk
     go_wp2
     go_ret2
     unfold RrPost12
     rw [HV.out]
     have ho := HK.out.1
     rw [HE.out.2] at ho
     refine ⟨va, vc, by simp only [HE.out.1]; rfl, grown_trans HB.out.1 HK.out.2, ?_⟩
     simp only [HE.out.1]
     exact own_row12 ho (rdb_byt HB.out.2.2.2.2 _ _ _)
 ·have hl := rda_bad (off := off) (n := m) hz
  rw [← HR.out] at hl
  have HL : Hid _ := hl
  clear hl HR
  generalize knd (nos ns) i 1 = K at *
  have hzb : (K == 0) = false := by rw [beq_eq_false_iff_ne]; exact hz
  have hzb2 : (K != 0) = true := by simp [hz]
  go_wp2
  go_ret2
  unfold RrPost12
  rw [HL.out]
  exact ⟨none, 0, rfl, HG1.out.1, row_zero none⟩
theorem need_ok (w : World) : Calls Tryz.prog 91 #[.int .i64 0] w fun e w' => e = .returned (.tuple #[]) ∧ w = w' := by
 go_enter Tryz.func91, Tryz.ntmps91
 go_wp2
 refine bodyPost_end (results_none rfl _ _ _) rfl ?_
 exact ⟨rfl, rfl⟩
/-- a walk on its way, in memory -/
structure Wl (w W : World) (gw mb : Nat) (p : Int) (left : List ByteArray) (links : Int) (la : Option Addr) (lc : Nat) : Prop where
 gr : w.grownBy W none
 new : w.heap.size ≤ gw
 box : Bx W gw 142 [.pointer (some ⟨mb, 0, none⟩), .int .i64 p, .slice la left.length lc, .int .i64 links]
 row : SRow W la left.length left
 cap : left.length ≤ lc
theorem srow_kept {w w' : World} {a : Option Addr} {n : Nat} {l : List ByteArray} (h : SRow w a n l) (g : w.grownBy w' none) : SRow w' a n l :=
 ⟨h.len_eq, fun h0 => by obtain ⟨b, off, e, k⟩ := h.cells h0; exact ⟨b, off, e, fun i hi => cell_grown (k i hi) g⟩⟩
theorem Wl.kept {w W W' : World} {gw mb : Nat} {p links : Int} {left : List ByteArray} {la : Option Addr} {lc : Nat} (h : Wl w W gw mb p left links la lc) (g : W.grownBy W' none) : Wl w W' gw mb p left links la lc :=
 ⟨grown_trans h.gr g, h.new, h.box.kept g, srow_kept h.row g, h.cap⟩
/-- the parts that are left are laid anew -/
theorem Wl.lay {w W : World} {gw mb base : Nat} {p links : Int} {left X : List ByteArray} {la : Option Addr} {lc m : Nat} {a : Option Addr} {c : Nat} (hg : w.grownBy W none) (hn : w.heap.size ≤ gw)
  (hb : Bx W gw 142 [.pointer (some ⟨mb, 0, none⟩), .int .i64 p, .slice la left.length lc, .int .i64 links]) (ho : W.ownsRow base 9 1 (.slice a m c) m (sv X)) (hlt : gw < base) :
  Wl w (W.setCell ⟨gw, 2, none⟩ (.slice a m c)) gw mb p X links a c := by
 have ho2 := ho.kept (grown_set W gw 2 (.slice a m c)) (Or.inr (fun e => by have := (ho.lt _ e).1; omega))
 obtain ⟨a', c', e, hr, hc, -⟩ := owns_srow ho2
 injection e with e1 e2 e3
 subst e1 e3
 have hm : X.length = m := hr.len_eq
 subst hm
 exact ⟨grown_new hg (grown_set _ _ _ _) hn, hn, hb.set 2 _, hr, hc⟩
theorem srow_src {w : World} {ad : Addr} {n : Nat} {l : List ByteArray} (R : SRow w (some ad) n l) : ∀ j u, (sv l)[j]? = some u → w.cell? (ad.add j) = some u := by
 intro j u h
 have hj : j < l.length := by
  rcases Nat.lt_or_ge j l.length with k | k
  ·exact k
  ·rw [List.getElem?_eq_none (by rw [sv_len]; exact k)] at h; cases h
 have hn := R.len_eq
 obtain ⟨b, off, e, hc⟩ := R.cells (by omega)
 injection e with e
 subst e
 have hadd : (⟨b, off, none⟩ : Addr).add j = ⟨b, off + j, none⟩ := by unfold Addr.add; split <;> simp_all
 rw [hadd, hc j (by omega)]
 unfold sv at h
 rw [List.getElem?_map, List.getElem?_eq_getElem hj] at h
 rw [List.getD_eq_getElem?_getD, List.getElem?_eq_getElem hj]
 exact h
set_option maxHeartbeats 8000000 in
theorem pturn_ok (w W : World) (gw mb : Nat) (p links : Int) (left : List ByteArray) (la : Option Addr) (lc : Nat) (h : Wl w W gw mb p left links la lc) (a : Option Addr) (n c mp : Nat) (ns : List NoV) (M : Md w mb a n c mp ns)
  (path : ByteArray) (hp : path.size ≤ 4096) (habs : Calls Tryz.prog 118 #[.string path] W fun e w' => e = .returned (.bool false) ∧ W = w') (hk : knd (nos ns) p 2 = 0) (L : List Tx) (hsp : spl path.toList = (L, 0)) (hlen : L.length + left.length ≤ 256) (hle : (left = [] ∧ la = none ∧ lc = 0) ∨ 0 < left.length) :
  Calls Tryz.prog 92 #[.pointer (some ⟨gw, 0, none⟩), .string path] W fun e W' => e = .returned (.tuple #[]) ∧ ∃ la' lc', Wl w W' gw mb p (txs L ++ left) links la' lc' ∧ W.heap.size ≤ W'.heap.size := by
 have hok := fun W' g => pofkind_any W' mb a n c (.map (some mp)) ns (M.kept g).box (M.kept g).nos p 2 (by decide)
 have x0 : _ = some _ := h.box.c 0
 have x1 : _ = some _ := h.box.c 1
 have hspl := fun W => psplit_any path W (by omega)
 unfold SpPost at hspl
 rw [hsp] at hspl
 simp only at hspl
 obtain ⟨i9, hi9, hz0, hz1, hz2⟩ := info_parts Tryz.info9
 have HW : Hid _ := h
 have HLE : Hid _ := And.intro hle hlen
 clear h hsp hle hlen
 go_enter Tryz.func92, Tryz.ntmps92
 go_wp2_with (go_at_call 118; refine habs.mono ?_; rintro e w' ⟨rfl, rfl⟩)
 clear x0 x1 habs
 refine wp_region_held_drew (S := fun w' => W.grownBy w' none) (by kernel_rfl) (drewG0 W) (fun hH => ?_)
 generalize W.drew = WD at *
 refine wpAnyH_take (i := 0) (oi := ⟨some 13, _, _, _, _, _⟩) (v := .pointer (some ⟨gw, 0, none⟩)) rfl (by kernel_rfl) (by kernel_rfl) (by kernel_rfl) (fun _ _ _ h => h) (Or.inl ⟨by rfl, fun w hSw => by go_simp⟩) hH ?_
 simp only [Act.put, pu]
 refine wpAnyH_take (i := 1) (oi := ⟨some 14, _, _, _, _, _⟩) (v := .pointer (some ⟨gw, 0, none⟩)) rfl (by kernel_rfl) (by kernel_rfl) (by kernel_rfl) (fun _ _ _ h => h) (Or.inl ⟨by rfl, fun w hSw => by go_simp⟩) hH ?_
 simp only [Act.put, pu]
 refine wpAnyH_take (i := 2) (oi := ⟨some 15, _, _, _, _, _⟩) (v := .pointer (some ⟨gw, 0, none⟩)) rfl (by kernel_rfl) (by kernel_rfl) (by kernel_rfl) (fun _ _ _ h => h) (Or.inl ⟨by rfl, fun w hSw => by go_simp⟩) hH ?_
 simp only [Act.put, pu]
 refine wpAnyH_take (i := 3) (oi := ⟨some 16, _, _, _, _, _⟩) (v := .pointer (some ⟨mb, 0, none⟩)) rfl (by kernel_rfl) (by kernel_rfl) (by kernel_rfl) (fun _ _ _ h => h) (Or.inl ⟨by rfl, fun w hSw => by have c0 : _ = some _ := (HW.out.box.kept hSw).c 0; go_simp⟩) hH ?_
 simp only [Act.put, pu]
 refine wpAnyH_take (i := 4) (oi := ⟨some 17, _, _, _, _, _⟩) (v := .pointer (some ⟨gw, 0, none⟩)) rfl (by kernel_rfl) (by kernel_rfl) (by kernel_rfl) (fun _ _ _ h => h) (Or.inl ⟨by rfl, fun w hSw => by go_simp⟩) hH ?_
 simp only [Act.put, pu]
 refine wpAnyH_take (i := 5) (oi := ⟨some 18, _, _, _, _, _⟩) (v := .pointer (some ⟨gw, 0, none⟩)) rfl (by kernel_rfl) (by kernel_rfl) (by kernel_rfl) (fun _ _ _ h => h) (Or.inl ⟨by rfl, fun w hSw => by go_simp⟩) hH ?_
 simp only [Act.put, pu]
 refine wpAnyH_take (i := 6) (oi := ⟨some 19, _, _, _, _, _⟩) (v := .pointer (some ⟨gw, 1, none⟩)) rfl (by kernel_rfl) (by kernel_rfl) (by kernel_rfl) (fun _ _ _ h => h) (Or.inl ⟨by rfl, fun w hSw => by go_simp⟩) hH ?_
 simp only [Act.put, pu]
 refine wpAnyH_take (i := 7) (oi := ⟨some 20, _, _, _, _, _⟩) (v := .int .i64 p) rfl (by kernel_rfl) (by kernel_rfl) (by kernel_rfl) (fun _ _ _ h => h) (Or.inl ⟨by rfl, fun w hSw => by have c1 : _ = some _ := (HW.out.box.kept hSw).c 1; go_simp⟩) hH ?_
 simp only [Act.put, pu]
 refine wpAnyH_ready (rs := [8, 12]) (by kernel_rfl) (by simp) ?_
 refine AllReadyH.cons rfl (fun K1 hK => ?_) (AllReadyH.cons rfl (fun K1 hK => ?_) AllReadyH.nil)
 ·skip
  go_simp
  refine (hok _ (grown_trans HW.out.gr hH)).mono ?_
  rintro e W2 ⟨X, rfl, -, -, g2⟩
  rw [hk]
  obtain ⟨NK, mode, uid, gid, time, size, da, dl, dc, data, target, dev, aa, al, ac, attrs, ka, kl, kc, kids, parent, links0⟩ := X
  simp only [NoV.val]
  replace hH := grown_trans hH g2
  clear g2
  refine hK.out _ _ hH (fun h0 => ?_)
  clear h0 hK K1
  try simp only [Act.put, pu]
  refine wpAnyH_take (i := 9) (oi := ⟨some 12, _, _, _, _, _⟩) (v := .tuple #[.agg #[.int .i64 NK, .int .i64 mode, .int .i64 uid, .int .i64 gid, .int .i64 time, .int .i64 size, .slice da dl dc, .string target, .int .i64 dev, .slice aa al ac, .slice ka kl kc, .int .i64 parent, .int .i64 links0], .int .i64 0]) rfl (by kernel_rfl) (by kernel_rfl) (by kernel_rfl) (fun _ _ _ h => h) (Or.inl ⟨by rfl, fun w hSw => by go_simp⟩) hH ?_
  simp only [Act.put, pu]
  refine wpAnyH_take (i := 10) (oi := ⟨some 22, _, _, _, _, _⟩) (v := .agg #[.int .i64 NK, .int .i64 mode, .int .i64 uid, .int .i64 gid, .int .i64 time, .int .i64 size, .slice da dl dc, .string target, .int .i64 dev, .slice aa al ac, .slice ka kl kc, .int .i64 parent, .int .i64 links0]) rfl (by kernel_rfl) (by kernel_rfl) (by kernel_rfl) (fun _ _ _ h => h) (Or.inl ⟨by rfl, fun w hSw => by go_simp⟩) hH ?_
  simp only [Act.put, pu]
  refine wpAnyH_take (i := 11) (oi := ⟨some 23, _, _, _, _, _⟩) (v := .int .i64 0) rfl (by kernel_rfl) (by kernel_rfl) (by kernel_rfl) (fun _ _ _ h => h) (Or.inl ⟨by rfl, fun w hSw => by go_simp⟩) hH ?_
  simp only [Act.put, pu]
  refine wpAnyH_ready (rs := [12]) (by kernel_rfl) (by simp) ?_
  refine AllReadyH.cons rfl (fun K1 hK => ?_) AllReadyH.nil
  go_simp
  have gA := World.grownBy_alloc W2 (.cells #[.int .i64 0, .int .i64 0, .int .i64 0, .int .i64 0, .int .i64 0, .int .i64 0, .slice none 0 0, .string ⟨#[]⟩, .int .i64 0, .slice none 0 0, .slice none 0 0, .int .i64 0, .int .i64 0] 43) none
  have hZ := Bx.new W2 43 [.int .i64 0, .int .i64 0, .int .i64 0, .int .i64 0, .int .i64 0, .int .i64 0, .slice none 0 0, .string ⟨#[]⟩, .int .i64 0, .slice none 0 0, .slice none 0 0, .int .i64 0, .int .i64 0]
  have hnz : W.heap.size ≤ W2.heap.size := hH.size
  replace hH := grown_trans hH gA
  clear gA
  generalize W2.alloc (.cells #[.int .i64 0, .int .i64 0, .int .i64 0, .int .i64 0, .int .i64 0, .int .i64 0, .slice none 0 0, .string ⟨#[]⟩, .int .i64 0, .slice none 0 0, .slice none 0 0, .int .i64 0, .int .i64 0] 43) = W3 at *
  generalize W2.heap.size = gz at *
  refine hK.out _ _ hH (fun h0 => ?_)
  clear h0 hK K1
  try simp only [Act.put, pu]
  refine wpAnyH_ready (rs := [13]) (by kernel_rfl) (by simp) ?_
  refine AllReadyH.cons rfl (fun K1 hK => ?_) AllReadyH.nil
  refine step_store_bx (by rfl) 43 _ _ (by rfl) gz [.int .i64 NK, .int .i64 mode, .int .i64 uid, .int .i64 gid, .int .i64 time, .int .i64 size, .slice da dl dc, .string target, .int .i64 dev, .slice aa al ac, .slice ka kl kc, .int .i64 parent, .int .i64 links0] (by rfl) (by rfl) hZ node_size rfl rfl ?_
  intro W4 hN g4
  replace hH := grown_new hH g4 hnz
  clear hN g4 hZ
  refine hK.out _ _ hH (fun h0 => ?_)
  clear h0 hK K1
  try simp only [Act.put, pu]
  refine wpAnyH_take (i := 14) (oi := ⟨some 5, _, _, _, _, _⟩) (v := .int .i64 0) rfl (by kernel_rfl) (by kernel_rfl) (by kernel_rfl) (fun _ _ _ h => h) (Or.inl ⟨by rfl, fun w hSw => by go_simp⟩) hH ?_
  simp only [Act.put, pu]
  refine wpAnyH_done (by kernel_rfl) ?_ _
  have HW4 : Hid _ := HW.out.kept hH
  have HS4 : Hid _ := hH.size
  have HGW4 : Hid (gw < W4.heap.size) := HW4.out.box.lt
  have HGW4b : Hid (w.heap.size ≤ W4.heap.size) := HW4.out.gr.size
  clear hH hnz
  go_wp2_with (go_at_call 91; refine (need_ok _).mono ?_; rintro e w' ⟨rfl, rfl⟩)
  refine (hspl _).mono ?_
  rintro e W5 ⟨a1, n1, c1, rfl, hown, g5⟩
  have HW5 : Hid _ := And.intro (HW4.out.kept g5) (And.intro hown (And.intro g5.size (Nat.le_trans HS4.out g5.size)))
  have c2 : _ = some _ := HW5.out.1.box.c 2
  have hn1 : n1 = L.length := by
   have := hown.1
   rw [sv_len] at this
   unfold txs at this
   rw [List.length_map] at this
   omega
  have hll : n1 + left.length ≤ 256 := by rw [hn1]; exact HLE.out.2
  have HN1 : Hid _ := hn1
  clear hown g5 hspl hn1 HW4
  generalize hlf : left.length = ll at *
  have HLF : Hid _ := hlf
  clear hlf
  have hcmp : ¬ (256 : Int) < (n1 : Int) + (ll : Int) := by omega
  have f2 := HW5.out.1.box.f 2
  have hgw : gw < W4.heap.size := HGW4.out
  rcases HLE.out.1 with ⟨hl0, rfl, rfl⟩ | hl0
  ·have hll0 : ll = 0 := by rw [← HLF.out, hl0]; rfl
   subst hll0
   have HL0 : Hid _ := hl0
   clear hl0
   go_wp2_with (first | (go_at_call 91; refine (need_ok _).mono ?_; rintro e w' ⟨rfl, rfl⟩) | (at_builtin; refine wpList_append_own_none rfl _ _ 77 rfl W4.heap.size 9 i9 1 Tryz.underlying77 hi9 _ n1 _ rfl HW5.out.2.1 rfl ?_) | fail)
   refine bodyPost_end (results_none rfl _ _ _) rfl ?_
   refine ⟨rfl, a1, c1, ?_, by rw [size_set]; exact HW5.out.2.2.2⟩
   rw [HL0.out, List.append_nil]
   have hbx := HW5.out.1.box
   exact Wl.lay HW5.out.1.gr HW5.out.1.new hbx HW5.out.2.1 hgw
  ·obtain ⟨lb, lo, rfl, -⟩ := HW5.out.1.row.cells (by have h1 := HLF.out; omega)
   clear hl0
   go_wp2_with (first | (go_at_call 91; refine (need_ok _).mono ?_; rintro e w' ⟨rfl, rfl⟩) | (at_builtin; refine wpList_append_own _ rfl _ _ 77 rfl W4.heap.size 9 i9 (.string ⟨#[]⟩) 1 16 Tryz.underlying77 hi9 hz0 hz1 hz2 rfl (by decide) _ n1 _ rfl HW5.out.2.1 ⟨lb, lo, none⟩ ll lc (sv left) rfl (by rw [sv_len, HLF.out, Nat.mul_one]) (srow_src HW5.out.1.row) (sv_one _) (by unfold maxLen; omega) (by omega) HW5.out.2.2.1 ?_; intro v6 W6 own6 grow6 h6; obtain ⟨a6, c6, rfl⟩ := own_shape own6; have hbne : some gw ≠ (Value.slice a1 n1 c1).ownBlock := (fun e => by have := (HW5.out.2.1.lt _ e.symm).1; omega); have HW6 : Hid _ := And.intro own6 (And.intro (HW5.out.1.box.but grow6 hbne) (And.intro (grown_own9 HW5.out.1.gr HW5.out.2.1 grow6 HGW4b.out) (Nat.le_trans HW5.out.2.2.2 grow6.size))); have d2 : _ = some _ := HW6.out.2.1.c 2; have e2 := HW6.out.2.1.f 2; clear own6 grow6 h6 hbne) | fail)
   refine bodyPost_end (results_none rfl _ _ _) rfl ?_
   refine ⟨rfl, a6, c6, ?_, by rw [size_set]; exact HW6.out.2.2.2⟩
   have ho := HW6.out.1
   rw [← sv_app] at ho
   exact Wl.lay HW6.out.2.2.1 HW5.out.1.new HW6.out.2.1 ho hgw
 ·skip
  go_simp
  have gA := World.grownBy_alloc WD (.cells #[.int .i64 0, .int .i64 0, .int .i64 0, .int .i64 0, .int .i64 0, .int .i64 0, .slice none 0 0, .string ⟨#[]⟩, .int .i64 0, .slice none 0 0, .slice none 0 0, .int .i64 0, .int .i64 0] 43) none
  have hZ := Bx.new WD 43 [.int .i64 0, .int .i64 0, .int .i64 0, .int .i64 0, .int .i64 0, .int .i64 0, .slice none 0 0, .string ⟨#[]⟩, .int .i64 0, .slice none 0 0, .slice none 0 0, .int .i64 0, .int .i64 0]
  have hnz : W.heap.size ≤ WD.heap.size := hH.size
  replace hH := grown_trans hH gA
  clear gA
  generalize WD.alloc (.cells #[.int .i64 0, .int .i64 0, .int .i64 0, .int .i64 0, .int .i64 0, .int .i64 0, .slice none 0 0, .string ⟨#[]⟩, .int .i64 0, .slice none 0 0, .slice none 0 0, .int .i64 0, .int .i64 0] 43) = W3 at *
  generalize WD.heap.size = gz at *
  refine hK.out _ _ hH (fun h0 => ?_)
  clear h0 hK K1
  try simp only [Act.put, pu]
  refine wpAnyH_ready (rs := [8]) (by kernel_rfl) (by simp) ?_
  refine AllReadyH.cons rfl (fun K1 hK => ?_) AllReadyH.nil
  go_simp
  refine (hok _ (grown_trans HW.out.gr hH)).mono ?_
  rintro e W2 ⟨X, rfl, -, -, g2⟩
  rw [hk]
  obtain ⟨NK, mode, uid, gid, time, size, da, dl, dc, data, target, dev, aa, al, ac, attrs, ka, kl, kc, kids, parent, links0⟩ := X
  simp only [NoV.val]
  replace hZ := hZ.kept g2
  replace hH := grown_trans hH g2
  clear g2
  refine hK.out _ _ hH (fun h0 => ?_)
  clear h0 hK K1
  try simp only [Act.put, pu]
  refine wpAnyH_take (i := 9) (oi := ⟨some 12, _, _, _, _, _⟩) (v := .tuple #[.agg #[.int .i64 NK, .int .i64 mode, .int .i64 uid, .int .i64 gid, .int .i64 time, .int .i64 size, .slice da dl dc, .string target, .int .i64 dev, .slice aa al ac, .slice ka kl kc, .int .i64 parent, .int .i64 links0], .int .i64 0]) rfl (by kernel_rfl) (by kernel_rfl) (by kernel_rfl) (fun _ _ _ h => h) (Or.inl ⟨by rfl, fun w hSw => by go_simp⟩) hH ?_
  simp only [Act.put, pu]
  refine wpAnyH_take (i := 10) (oi := ⟨some 22, _, _, _, _, _⟩) (v := .agg #[.int .i64 NK, .int .i64 mode, .int .i64 uid, .int .i64 gid, .int .i64 time, .int .i64 size, .slice da dl dc, .string target, .int .i64 dev, .slice aa al ac, .slice ka kl kc, .int .i64 parent, .int .i64 links0]) rfl (by kernel_rfl) (by kernel_rfl) (by kernel_rfl) (fun _ _ _ h => h) (Or.inl ⟨by rfl, fun w hSw => by go_simp⟩) hH ?_
  simp only [Act.put, pu]
  refine wpAnyH_take (i := 11) (oi := ⟨some 23, _, _, _, _, _⟩) (v := .int .i64 0) rfl (by kernel_rfl) (by kernel_rfl) (by kernel_rfl) (fun _ _ _ h => h) (Or.inl ⟨by rfl, fun w hSw => by go_simp⟩) hH ?_
  simp only [Act.put, pu]
  refine wpAnyH_ready (rs := [13]) (by kernel_rfl) (by simp) ?_
  refine AllReadyH.cons rfl (fun K1 hK => ?_) AllReadyH.nil
  refine step_store_bx (by rfl) 43 _ _ (by rfl) gz [.int .i64 NK, .int .i64 mode, .int .i64 uid, .int .i64 gid, .int .i64 time, .int .i64 size, .slice da dl dc, .string target, .int .i64 dev, .slice aa al ac, .slice ka kl kc, .int .i64 parent, .int .i64 links0] (by rfl) (by rfl) hZ node_size rfl rfl ?_
  intro W4 hN g4
  replace hH := grown_new hH g4 hnz
  clear hN g4 hZ
  refine hK.out _ _ hH (fun h0 => ?_)
  clear h0 hK K1
  try simp only [Act.put, pu]
  refine wpAnyH_take (i := 14) (oi := ⟨some 5, _, _, _, _, _⟩) (v := .int .i64 0) rfl (by kernel_rfl) (by kernel_rfl) (by kernel_rfl) (fun _ _ _ h => h) (Or.inl ⟨by rfl, fun w hSw => by go_simp⟩) hH ?_
  simp only [Act.put, pu]
  refine wpAnyH_done (by kernel_rfl) ?_ _
  have HW4 : Hid _ := HW.out.kept hH
  have HS4 : Hid _ := hH.size
  have HGW4 : Hid (gw < W4.heap.size) := HW4.out.box.lt
  have HGW4b : Hid (w.heap.size ≤ W4.heap.size) := HW4.out.gr.size
  clear hH hnz
  go_wp2_with (go_at_call 91; refine (need_ok _).mono ?_; rintro e w' ⟨rfl, rfl⟩)
  refine (hspl _).mono ?_
  rintro e W5 ⟨a1, n1, c1, rfl, hown, g5⟩
  have HW5 : Hid _ := And.intro (HW4.out.kept g5) (And.intro hown (And.intro g5.size (Nat.le_trans HS4.out g5.size)))
  have c2 : _ = some _ := HW5.out.1.box.c 2
  have hn1 : n1 = L.length := by
   have := hown.1
   rw [sv_len] at this
   unfold txs at this
   rw [List.length_map] at this
   omega
  have hll : n1 + left.length ≤ 256 := by rw [hn1]; exact HLE.out.2
  have HN1 : Hid _ := hn1
  clear hown g5 hspl hn1 HW4
  generalize hlf : left.length = ll at *
  have HLF : Hid _ := hlf
  clear hlf
  have hcmp : ¬ (256 : Int) < (n1 : Int) + (ll : Int) := by omega
  have f2 := HW5.out.1.box.f 2
  have hgw : gw < W4.heap.size := HGW4.out
  rcases HLE.out.1 with ⟨hl0, rfl, rfl⟩ | hl0
  ·have hll0 : ll = 0 := by rw [← HLF.out, hl0]; rfl
   subst hll0
   have HL0 : Hid _ := hl0
   clear hl0
   go_wp2_with (first | (go_at_call 91; refine (need_ok _).mono ?_; rintro e w' ⟨rfl, rfl⟩) | (at_builtin; refine wpList_append_own_none rfl _ _ 77 rfl W4.heap.size 9 i9 1 Tryz.underlying77 hi9 _ n1 _ rfl HW5.out.2.1 rfl ?_) | fail)
   refine bodyPost_end (results_none rfl _ _ _) rfl ?_
   refine ⟨rfl, a1, c1, ?_, by rw [size_set]; exact HW5.out.2.2.2⟩
   rw [HL0.out, List.append_nil]
   have hbx := HW5.out.1.box
   exact Wl.lay HW5.out.1.gr HW5.out.1.new hbx HW5.out.2.1 hgw
  ·obtain ⟨lb, lo, rfl, -⟩ := HW5.out.1.row.cells (by have h1 := HLF.out; omega)
   clear hl0
   go_wp2_with (first | (go_at_call 91; refine (need_ok _).mono ?_; rintro e w' ⟨rfl, rfl⟩) | (at_builtin; refine wpList_append_own _ rfl _ _ 77 rfl W4.heap.size 9 i9 (.string ⟨#[]⟩) 1 16 Tryz.underlying77 hi9 hz0 hz1 hz2 rfl (by decide) _ n1 _ rfl HW5.out.2.1 ⟨lb, lo, none⟩ ll lc (sv left) rfl (by rw [sv_len, HLF.out, Nat.mul_one]) (srow_src HW5.out.1.row) (sv_one _) (by unfold maxLen; omega) (by omega) HW5.out.2.2.1 ?_; intro v6 W6 own6 grow6 h6; obtain ⟨a6, c6, rfl⟩ := own_shape own6; have hbne : some gw ≠ (Value.slice a1 n1 c1).ownBlock := (fun e => by have := (HW5.out.2.1.lt _ e.symm).1; omega); have HW6 : Hid _ := And.intro own6 (And.intro (HW5.out.1.box.but grow6 hbne) (And.intro (grown_own9 HW5.out.1.gr HW5.out.2.1 grow6 HGW4b.out) (Nat.le_trans HW5.out.2.2.2 grow6.size))); have d2 : _ = some _ := HW6.out.2.1.c 2; have e2 := HW6.out.2.1.f 2; clear own6 grow6 h6 hbne) | fail)
   refine bodyPost_end (results_none rfl _ _ _) rfl ?_
   refine ⟨rfl, a6, c6, ?_, by rw [size_set]; exact HW6.out.2.2.2⟩
   have ho := HW6.out.1
   rw [← sv_app] at ho
   exact Wl.lay HW6.out.2.2.1 HW5.out.1.new HW6.out.2.1 ho hgw
/-- what a turn asks of a path -/
structure Tn (path : ByteArray) (L : List Tx) : Prop where
 sz : path.size ≤ 4096
 abs : ∀ W, Calls Tryz.prog 118 #[.string path] W fun e w' => e = .returned (.bool false) ∧ W = w'
 spl : spl path.toList = (L, 0)
theorem srow_set {W : World} {gw k : Nat} {v : Value} {p l3 : Int} {a x x3 : Option Addr} {n m c : Nat} {l : List ByteArray} (h : SRow W a n l) (hb : Bx W gw 142 [.pointer x, .int .i64 p, .slice x3 m c, .int .i64 l3]) : SRow (W.setCell ⟨gw, k, none⟩ v) a n l := by
 refine ⟨h.len_eq, fun h0 => ?_⟩
 obtain ⟨b, off, e, q⟩ := h.cells h0
 refine ⟨b, off, e, fun i hi => ?_⟩
 have hc := q i hi
 have hne : b ≠ gw := fun e => by
  subst e
  have := hb.c (off + i)
  rw [hc] at this
  match off + i, this with
  | 0, t => cases t
  | 1, t => cases t
  | 2, t => cases t
  | 3, t => cases t
  | m + 4, t => cases t
 exact (grown_set W gw k v).cell hc (by simpa using hne)
theorem Wl.tail {w W : World} {gw mb : Nat} {p links : Int} {s : ByteArray} {xs : List ByteArray} {la a' : Option Addr} {lc : Nat} (h : Wl w W gw mb p (s :: xs) links la lc) (hr : SRow W a' xs.length xs) :
  Wl w (W.setCell ⟨gw, 2, none⟩ (.slice a' xs.length (lc - 1))) gw mb p xs links a' (lc - 1) :=
 ⟨grown_new h.gr (grown_set _ _ _ _) h.new, h.new, h.box.set 2 _, srow_set hr h.box, by have := h.cap; rw [List.length_cons] at this; omega⟩
theorem Wl.go {w W : World} {gw mb : Nat} {p q links : Int} {xs : List ByteArray} {la : Option Addr} {lc : Nat} (h : Wl w W gw mb p xs links la lc) : Wl w (W.setCell ⟨gw, 1, none⟩ (.int .i64 q)) gw mb q xs links la lc :=
 ⟨grown_new h.gr (grown_set _ _ _ _) h.new, h.new, h.box.set 1 _, srow_set h.row h.box, h.cap⟩
set_option maxHeartbeats 4000000 in
theorem pthrough_ok (w W : World) (gw mb : Nat) (p links : Int) (left : List ByteArray) (la : Option Addr) (lc : Nat) (h : Wl w W gw mb p left links la lc) (a : Option Addr) (n c mp : Nat) (ns : List NoV) (M : Md w mb a n c mp ns)
  (path : ByteArray) (L : List Tx) (T : Tn path L) (hk : knd (nos ns) p 2 = 0) (hlen : L.length + left.length ≤ 256) (hle : 0 < left.length) (hl0 : 0 ≤ links) (hl1 : links < 40) :
  Calls Tryz.prog 119 #[.pointer (some ⟨gw, 0, none⟩), .string path] W fun e W' => e = .returned (.tuple #[]) ∧ ∃ la' lc', Wl w W' gw mb p (txs L ++ left) (links + 1) la' lc' ∧ W.heap.size ≤ W'.heap.size := by
 have x3 : _ = some _ := h.box.c 3
 have f3 := h.box.f 3
 have hW2 : Wl w (W.setCell ⟨gw, 3, none⟩ (.int .i64 (links + 1))) gw mb p left (links + 1) la lc := by
  exact ⟨grown_new h.gr (grown_set _ _ _ _) h.new, h.new, h.box.set 3 _, srow_set h.row h.box, h.cap⟩
 have y3 : _ = some _ := hW2.box.c 3
 have htu := pturn_ok w _ gw mb p (links + 1) left la lc hW2 a n c mp ns M path T.sz (T.abs _) hk L T.spl hlen (Or.inr hle)
 have hsz : (W.setCell ⟨gw, 3, none⟩ (.int .i64 (links + 1))).heap.size = W.heap.size := size_set _ _ _
 have HS : Hid _ := hsz
 clear hW2 h hsz M T hk
 have hw : wrap64 (links + 1) = links + 1 := by unfold wrap64; omega
 have hc40 : ¬ (40 : Int) < links + 1 := by omega
 go_enter Tryz.func119, Tryz.ntmps119
 go_wp2_with fail
 refine htu.mono ?_
 rintro e W2 ⟨rfl, la', lc', hw2, hs2⟩
 have HW2 : Hid _ := And.intro hw2 hs2
 clear hw2 hs2 htu
 go_wp2
 refine bodyPost_end (results_none rfl _ _ _) rfl ?_
 exact ⟨rfl, la', lc', HW2.out.1, by have := HW2.out.2; rw [HS.out] at this; exact this⟩
/-- a list of texts, from its second on -/
theorem wpList_lowS {P : Program} {w : World} {ops : Array Oper} {rest : List Oper} {o : Oper} {a : Act} {Q : Exit → Act → World → Prop} (hg : o.guard = none) (x l : Operand) (t : TypeId)
  (ho : o.op = .slice t x (some l) none none) (ht : P.underlying t = some (.slice 9)) (i : TypeInfo) (hi : P.info? 9 = some i) (hsz : i.size = 1)
  (b off len cap : Nat) (hx : a.eval x = .slice (some ⟨b, off, none⟩) len cap) (hl : a.eval l = .int .i64 1) (h1 : 1 ≤ len) (h2 : len ≤ cap) (s : ByteArray) (xs : List ByteArray) (R : SRow w (some ⟨b, off, none⟩) len (s :: xs))
  (hk : ∀ a', Hid (SRow w a' (len - 1) xs) → wpList P ops Q rest (a.put o.dst (.slice a' (len - 1) (cap - 1))) w) : wpList P ops Q (o :: rest) a w := by
 refine wpList_plain hg fun K' hK' => ?_
 have he : P.elem t = 9 := by simp [Program.elem, ht]
 have ht' : P.underlying t = some (.slice (P.elem t)) := by rw [he]; exact ht
 have hs : (sizeOf 9).run P w = .ok 1 w := by rw [run_sizeOf w hi]; simp [Program.cellsOf, hi, hsz]
 have hr := run_slice_l (P := P) (w := w) (a := some ⟨b, off, none⟩) (len := len) (cap := cap) (t := t) ht' .i64 1 (by omega) (by omega)
 rw [he, hs] at hr
 simp only [Result.andThen] at hr
 have hv : ∃ a', sliced (some ⟨b, off, none⟩) 1 len cap 1 = .slice a' (len - 1) (cap - 1) ∧ SRow w a' (len - 1) xs := by
  have hlen := R.len_eq
  rw [List.length_cons] at hlen
  unfold sliced
  by_cases c : cap = 1
  ·rw [if_pos c]
   exact ⟨_, rfl, by omega, fun h => by omega⟩
  ·rw [if_neg c]
   have hadd : (⟨b, off, none⟩ : Addr).add (1 * 1) = ⟨b, off + 1, none⟩ := by unfold Addr.add; split <;> simp_all
   refine ⟨some ⟨b, off + 1, none⟩, by simp only [Option.map_some, hadd], by omega, fun h => ⟨b, off + 1, rfl, fun j hj => ?_⟩⟩
   obtain ⟨b', off', e, hc⟩ := R.cells (by omega)
   injection e with e
   injection e with e1 e2
   subst e1 e2
   have := hc (j + 1) (by omega)
   rw [List.getD_cons_succ] at this
   rw [show off + 1 + j = off + (j + 1) by omega]
   exact this
 obtain ⟨a', hv, h3⟩ := hv
 have hr2 : (1 : Int).toNat = 1 := rfl
 rw [hr2, hv] at hr
 unfold Oper.wp
 simp [execOp, ho, hx, hl, hr, Result.andThen, run_sliceAt_slice (P := P) (w := w) t _ _ _ _ ht']
 exact hK' _ _ (hk _ h3)
theorem low9_here {P : Program} {w : World} {ops : Array Oper} {rest : List Oper} {a : Act} {Q : Exit → Act → World → Prop} {dst : Option Nat} {t : TypeId} {x l : Operand} {type : TypeId} {pos : String} {after : Array Edge} {guard : Option (Nat × Bool)}
  (k : wpList P ops Q (⟨dst, .slice t x (some l) none none, type, pos, after, guard⟩ :: rest) a w) : wpList P ops Q (⟨dst, .slice t x (some l) none none, type, pos, after, guard⟩ :: rest) a w := k
/-- what a step comes to -/
def StPost (w W : World) (gw mb : Nat) (X : NoV) (q : Nat) (p links : Int) (xs : List ByteArray) (e : Ending) (W' : World) : Prop := e = .returned (.tuple #[]) ∧ ∃ la' lc', W.heap.size ≤ W'.heap.size ∧
 ((X.k ≠ 3 ∧ Wl w W' gw mb q xs links la' lc') ∨ (X.k = 3 ∧ ∃ L, Tn X.target L ∧ Wl w W' gw mb p (txs L ++ xs) (links + 1) la' lc'))
set_option maxHeartbeats 8000000 in
theorem pstep_ok (w W : World) (gw mb : Nat) (p links : Int) (s : ByteArray) (xs : List ByteArray) (la : Option Addr) (lc : Nat) (h : Wl w W gw mb p (s :: xs) links la lc) (a : Option Addr) (n c mp : Nat) (ns : List NoV) (M : Md w mb a n c mp ns)
  (hs : s.size ≤ 1000000) (q : Nat) (hq : lkp (nos ns) p s.toList = ((q : Int), 0)) (X : NoV) (hX : ns[q]? = some X) (hlen : xs.length ≤ 256)
  (hth : X.k = 3 → (∃ L, Tn X.target L ∧ L.length + xs.length ≤ 256) ∧ 0 < xs.length ∧ knd (nos ns) p 2 = 0 ∧ 0 ≤ links ∧ links < 40) :
  Calls Tryz.prog 93 #[.pointer (some ⟨gw, 0, none⟩), .bool true] W (StPost w W gw mb X q p links xs) := by
 obtain ⟨i9, hi9, hz0, hz1, hz2⟩ := info_parts Tryz.info9
 obtain ⟨lb, lo, rfl, hcl⟩ := h.row.cells (by simp)
 have hlk := fun W' g => plookup_any W' mb a n c mp ns (M.kept g) p s hs
 rw [hq] at hlk
 simp only at hlk
 have hnd := fun W' g => pnode_ok W' mb a n c (.map (some mp)) ns (M.kept g).box (M.kept g).nos q X hX
 have hc0 : W.cell? ⟨lb, lo, none⟩ = some (.string s) := hcl 0 (by simp)
 have HW : Hid _ := And.intro h (And.intro hth (And.intro M hc0))
 clear hc0
 clear h M hcl hth hX hq
 go_enter Tryz.func93, Tryz.ntmps93
 go_wp2_with fail
 refine wp_region_held_drew (S := fun w' => W.grownBy w' none) (by kernel_rfl) (drewG0 W) (fun hH => ?_)
 generalize W.drew = WD at *
 refine wpAnyH_take (i := 0) (oi := ⟨some 8, _, _, _, _, _⟩) (v := .pointer (some ⟨gw, 0, none⟩)) rfl (by kernel_rfl) (by kernel_rfl) (by kernel_rfl) (fun _ _ _ h => h) (Or.inl ⟨by rfl, fun w hSw => by go_simp⟩) hH ?_
 simp only [Act.put, pu]
 refine wpAnyH_take (i := 1) (oi := ⟨some 9, _, _, _, _, _⟩) (v := .pointer (some ⟨gw, 0, none⟩)) rfl (by kernel_rfl) (by kernel_rfl) (by kernel_rfl) (fun _ _ _ h => h) (Or.inl ⟨by rfl, fun w hSw => by go_simp⟩) hH ?_
 simp only [Act.put, pu]
 refine wpAnyH_take (i := 2) (oi := ⟨some 10, _, _, _, _, _⟩) (v := .pointer (some ⟨gw, 0, none⟩)) rfl (by kernel_rfl) (by kernel_rfl) (by kernel_rfl) (fun _ _ _ h => h) (Or.inl ⟨by rfl, fun w hSw => by go_simp⟩) hH ?_
 simp only [Act.put, pu]
 refine wpAnyH_take (i := 3) (oi := ⟨some 11, _, _, _, _, _⟩) (v := .pointer (some ⟨mb, 0, none⟩)) rfl (by kernel_rfl) (by kernel_rfl) (by kernel_rfl) (fun _ _ _ h => h) (Or.inl ⟨by rfl, fun w hSw => by have c0 : _ = some _ := (HW.out.1.box.kept hSw).c 0; go_simp⟩) hH ?_
 simp only [Act.put, pu]
 refine wpAnyH_take (i := 4) (oi := ⟨some 12, _, _, _, _, _⟩) (v := .pointer (some ⟨gw, 0, none⟩)) rfl (by kernel_rfl) (by kernel_rfl) (by kernel_rfl) (fun _ _ _ h => h) (Or.inl ⟨by rfl, fun w hSw => by go_simp⟩) hH ?_
 simp only [Act.put, pu]
 refine wpAnyH_take (i := 5) (oi := ⟨some 13, _, _, _, _, _⟩) (v := .pointer (some ⟨gw, 0, none⟩)) rfl (by kernel_rfl) (by kernel_rfl) (by kernel_rfl) (fun _ _ _ h => h) (Or.inl ⟨by rfl, fun w hSw => by go_simp⟩) hH ?_
 simp only [Act.put, pu]
 refine wpAnyH_take (i := 6) (oi := ⟨some 14, _, _, _, _, _⟩) (v := .pointer (some ⟨gw, 1, none⟩)) rfl (by kernel_rfl) (by kernel_rfl) (by kernel_rfl) (fun _ _ _ h => h) (Or.inl ⟨by rfl, fun w hSw => by go_simp⟩) hH ?_
 simp only [Act.put, pu]
 refine wpAnyH_take (i := 7) (oi := ⟨some 15, _, _, _, _, _⟩) (v := .int .i64 p) rfl (by kernel_rfl) (by kernel_rfl) (by kernel_rfl) (fun _ _ _ h => h) (Or.inl ⟨by rfl, fun w hSw => by have c1 : _ = some _ := (HW.out.1.box.kept hSw).c 1; go_simp⟩) hH ?_
 simp only [Act.put, pu]
 refine wpAnyH_take (i := 8) (oi := ⟨some 16, _, _, _, _, _⟩) (v := .pointer (some ⟨gw, 0, none⟩)) rfl (by kernel_rfl) (by kernel_rfl) (by kernel_rfl) (fun _ _ _ h => h) (Or.inl ⟨by rfl, fun w hSw => by go_simp⟩) hH ?_
 simp only [Act.put, pu]
 refine wpAnyH_take (i := 9) (oi := ⟨some 17, _, _, _, _, _⟩) (v := .pointer (some ⟨gw, 0, none⟩)) rfl (by kernel_rfl) (by kernel_rfl) (by kernel_rfl) (fun _ _ _ h => h) (Or.inl ⟨by rfl, fun w hSw => by go_simp⟩) hH ?_
 simp only [Act.put, pu]
 refine wpAnyH_take (i := 10) (oi := ⟨some 18, _, _, _, _, _⟩) (v := .pointer (some ⟨gw, 2, none⟩)) rfl (by kernel_rfl) (by kernel_rfl) (by kernel_rfl) (fun _ _ _ h => h) (Or.inl ⟨by rfl, fun w hSw => by go_simp⟩) hH ?_
 simp only [Act.put, pu]
 refine wpAnyH_take (i := 11) (oi := ⟨some 19, _, _, _, _, _⟩) (v := .slice (some ⟨lb, lo, none⟩) (s :: xs).length lc) rfl (by kernel_rfl) (by kernel_rfl) (by kernel_rfl) (fun _ _ _ h => h) (Or.inl ⟨by rfl, fun w hSw => by have c2 : _ = some _ := (HW.out.1.box.kept hSw).c 2; go_simp⟩) hH ?_
 simp only [Act.put, pu]
 refine wpAnyH_take (i := 12) (oi := ⟨some 20, _, _, _, _, _⟩) (v := .pointer (some ⟨lb, lo, none⟩)) rfl (by kernel_rfl) (by kernel_rfl) (by kernel_rfl) (fun _ _ _ h => h) (Or.inl ⟨by rfl, fun w hSw => by go_simp⟩) hH ?_
 simp only [Act.put, pu]
 refine wpAnyH_take (i := 13) (oi := ⟨some 21, _, _, _, _, _⟩) (v := .string s) rfl (by kernel_rfl) (by kernel_rfl) (by kernel_rfl) (fun _ _ _ h => h) (Or.inl ⟨by rfl, fun w hSw => by have c9 := cell_grown HW.out.2.2.2 hSw; go_simp⟩) hH ?_
 simp only [Act.put, pu]
 refine wpAnyH_ready (rs := [14]) (by kernel_rfl) (by simp) ?_
 refine AllReadyH.cons rfl (fun K1 hK => ?_) AllReadyH.nil
 go_simp
 refine (hlk _ (grown_trans HW.out.1.gr hH)).mono ?_
 rintro e W2 ⟨rfl, g2⟩
 replace hH := grown_trans hH g2
 clear g2 hlk
 refine hK.out _ _ hH (fun h0 => ?_)
 clear h0 hK K1
 try simp only [Act.put, pu]
 refine wpAnyH_take (i := 15) (oi := ⟨some 7, _, _, _, _, _⟩) (v := .tuple #[.int .i64 q, .int .i64 0]) rfl (by kernel_rfl) (by kernel_rfl) (by kernel_rfl) (fun _ _ _ h => h) (Or.inl ⟨by rfl, fun w hSw => by go_simp⟩) hH ?_
 simp only [Act.put, pu]
 refine wpAnyH_take (i := 16) (oi := ⟨some 23, _, _, _, _, _⟩) (v := .int .i64 q) rfl (by kernel_rfl) (by kernel_rfl) (by kernel_rfl) (fun _ _ _ h => h) (Or.inl ⟨by rfl, fun w hSw => by go_simp⟩) hH ?_
 simp only [Act.put, pu]
 refine wpAnyH_take (i := 17) (oi := ⟨some 24, _, _, _, _, _⟩) (v := .int .i64 0) rfl (by kernel_rfl) (by kernel_rfl) (by kernel_rfl) (fun _ _ _ h => h) (Or.inl ⟨by rfl, fun w hSw => by go_simp⟩) hH ?_
 simp only [Act.put, pu]
 refine wpAnyH_take (i := 18) (oi := ⟨some 4, _, _, _, _, _⟩) (v := .int .i64 q) rfl (by kernel_rfl) (by kernel_rfl) (by kernel_rfl) (fun _ _ _ h => h) (Or.inl ⟨by rfl, fun w hSw => by go_simp⟩) hH ?_
 simp only [Act.put, pu]
 refine wpAnyH_take (i := 19) (oi := ⟨some 5, _, _, _, _, _⟩) (v := .int .i64 0) rfl (by kernel_rfl) (by kernel_rfl) (by kernel_rfl) (fun _ _ _ h => h) (Or.inl ⟨by rfl, fun w hSw => by go_simp⟩) hH ?_
 simp only [Act.put, pu]
 refine wpAnyH_done (by kernel_rfl) ?_ _
 have HW2 : Hid _ := And.intro (HW.out.1.kept hH) hH.size
 clear hH
 have c2 : _ = some _ := HW2.out.1.box.c 2
 have f2 := HW2.out.1.box.f 2
 have hxl : (s :: xs).length = xs.length + 1 := rfl
 rw [hxl] at c2
 go_wp2_with (first | (go_at_call 91; refine (need_ok _).mono ?_; rintro e w' ⟨rfl, rfl⟩) | ((with_reducible refine low9_here ?_); refine wpList_lowS rfl _ _ 77 rfl Tryz.underlying77 i9 hi9 hz1 lb lo (xs.length + 1) lc rfl rfl (by omega) (by have := HW2.out.1.cap; rw [hxl] at this; exact this) s xs (by have := HW2.out.1.row; rw [hxl] at this; exact this) ?_; intro a' HA; have HW3 : Hid _ := And.intro (HW2.out.1.tail HA.out) (show W.heap.size ≤ (W2.setCell ⟨gw, 2, none⟩ (.slice a' xs.length (lc - 1))).heap.size by rw [size_set]; exact HW2.out.2); have d0 : _ = some _ := HW3.out.1.box.c 0; have d2 : _ = some _ := HW3.out.1.box.c 2) | fail)
 generalize W2.setCell ⟨gw, 2, none⟩ (.slice a' xs.length (lc - 1)) = W3 at *
 refine (hnd _ HW3.out.1.gr).mono ?_
 rintro e W4 ⟨rfl, g4⟩
 have HTH : Hid _ := HW.out.2.1
 have HM : Hid _ := HW.out.2.2.1
 obtain ⟨NK, mode, uid, gid, time, size, da, dl, dc, data, target, dev, aa, al, ac, attrs, ka, kl, kc, kids, parent, links0⟩ := X
 simp only [NoV.val]
 have gB := World.grownBy_alloc W4 (.cells #[.int .i64 NK, .int .i64 mode, .int .i64 uid, .int .i64 gid, .int .i64 time, .int .i64 size, .slice da dl dc, .string target, .int .i64 dev, .slice aa al ac, .slice ka kl kc, .int .i64 parent, .int .i64 links0] 43) none
 have bB := Bx.new W4 43 [.int .i64 NK, .int .i64 mode, .int .i64 uid, .int .i64 gid, .int .i64 time, .int .i64 size, .slice da dl dc, .string target, .int .i64 dev, .slice aa al ac, .slice ka kl kc, .int .i64 parent, .int .i64 links0]
 have HW5 : Hid _ := And.intro ((HW3.out.1.kept g4).kept gB) (Nat.le_trans HW3.out.2 (Nat.le_trans g4.size gB.size))
 have e0 : _ = some _ := bB.c 0
 have e7 : _ = some _ := bB.c 7
 have k1 : _ = some _ := HW5.out.1.box.c 1
 have f1 := HW5.out.1.box.f 1
 clear g4 gB bB HW3 HW2 d0 d2 c2 f2 hnd HA HW
 by_cases h3 : NK = 3
 ·subst h3
  obtain ⟨⟨L, hT, hLl⟩, hxs, hk, hl0, hl1⟩ := HTH.out rfl
  have hpt := pthrough_ok w _ gw mb p links xs a' (lc - 1) HW5.out.1 a n c mp ns HM.out target L hT hk hLl hxs hl0 hl1
  have HT : Hid _ := hT
  clear hT hLl hxs hk hl0 hl1
  go_wp2_with (go_at_call 91; refine (need_ok _).mono ?_; rintro e w' ⟨rfl, rfl⟩)
  refine hpt.mono ?_
  rintro e W6 ⟨rfl, la6, lc6, hw6, hs6⟩
  have H6 : Hid _ := And.intro hw6 (Nat.le_trans HW5.out.2 hs6)
  clear hw6 hs6 hpt
  go_wp2
  refine bodyPost_ret (results_none rfl _ _ _) rfl ?_
  unfold StPost
  exact ⟨rfl, la6, lc6, H6.out.2, Or.inr ⟨rfl, L, HT.out, H6.out.1⟩⟩
 ·have h3b : (NK == 3) = false := by rw [beq_eq_false_iff_ne]; exact h3
  have HG : Hid _ := HW5.out.1.go (q := (q : Int))
  go_wp2_with (go_at_call 91; refine (need_ok _).mono ?_; rintro e w' ⟨rfl, rfl⟩)
  refine bodyPost_end (results_none rfl _ _ _) rfl ?_
  unfold StPost
  exact ⟨rfl, a', lc - 1, by rw [size_set]; exact HW5.out.2, Or.inl ⟨h3, HG.out⟩⟩
def ex12 : List En := [⟨[97], 2, 0, 0, 0, 0, 0, [], [], 0, []⟩, ⟨[97, 47, 102], 1, 0, 0, 0, 0, 4, [120, 121], [], 0, []⟩, ⟨[108], 3, 0, 0, 0, 0, 0, [], [97], 0, []⟩]
theorem ex_knd0 : knd (canon ex12) 0 0 = 0 := by kernel_rfl
theorem ex_knd2 : knd (canon ex12) 0 2 = 0 := by kernel_rfl
theorem ex_lk0 : lkp (canon ex12) 0 [108] = (3, 0) := by kernel_rfl
theorem ex_lk1 : lkp (canon ex12) 0 [97] = (1, 0) := by kernel_rfl
theorem ex_lk2 : lkp (canon ex12) 1 [102] = (2, 0) := by kernel_rfl
theorem ex_n1 : ((canon ex12)[1]?).map No.k = some 2 := by kernel_rfl
theorem ex_n2 : ((canon ex12)[2]?).map No.k = some 1 := by kernel_rfl
theorem ex_n3 : ((canon ex12)[3]?).map (fun n => (n.k, n.target)) = some (3, [97]) := by kernel_rfl
theorem ex_rd : rda (canon ex12) 2 1 9 = ([121, 0, 0], 0) := by kernel_rfl
theorem ex_abs1 (W : World) : Calls Tryz.prog 118 #[.string ⟨#[108, 47, 102]⟩] W fun e w' => e = .returned (.bool false) ∧ W = w' := by
 go_enter Tryz.func118, Tryz.ntmps118
 go_wp2
 go_ret
 exact ⟨rfl, rfl⟩
theorem ex_abs2 (W : World) : Calls Tryz.prog 118 #[.string ⟨#[97]⟩] W fun e w' => e = .returned (.bool false) ∧ W = w' := by
 go_enter Tryz.func118, Tryz.ntmps118
 go_wp2
 go_ret
 exact ⟨rfl, rfl⟩
theorem ex_tn1 : Tn ⟨#[108, 47, 102]⟩ [[108], [102]] := ⟨by decide, ex_abs1, by rw [ByteArray.toList_eq]; kernel_rfl⟩
theorem ex_tn2 : Tn ⟨#[97]⟩ [[97]] := ⟨by decide, ex_abs2, by rw [ByteArray.toList_eq]; kernel_rfl⟩
end Go.Proofs.YtaclbaapfllcoaaGreatDoor
