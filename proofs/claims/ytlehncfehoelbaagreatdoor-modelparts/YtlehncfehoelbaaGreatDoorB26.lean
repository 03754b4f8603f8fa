/- The program's Check. slices.Concat of one entry and entries. The program's tree: the list with the root's entry. The program's tree: Canon. The program's Same: bytes, attributes, kids. The program's Same: lists of attributes, of kids. -/
import Derived.Laws.AppendOwnNone
import Derived.Test.YtlehncfehoelbaaGreatDoorB08
import Derived.Test.YtlehncfehoelbaaGreatDoorB14
import Derived.Test.YtlehncfehoelbaaGreatDoorB19
import Derived.Test.YtlehncfehoelbaaGreatDoorB23
import Derived.Test.YtlehncfehoelbaaGreatDoorB24
import Derived.Test.YtlehncfehoelbaaGreatDoorB25
namespace Go.Proofs.YtlehncfehoelbaaGreatDoor
open Go.RowKit
set_option maxRecDepth 100000
open Go.Maps (Keyed)
set_option linter.unusedSimpArgs false
set_option linter.unusedVariables false
/-- short enough to be asked -/
def Szs (l : List EnV) : Prop := ∀ X ∈ l, X.path.size ≤ 5000 ∧ X.target.size ≤ 9223372036854775807 ∧ ∀ A ∈ X.attrs, A.n.size ≤ 9223372036854775807
theorem ens_getk {l : List EnV} {k : Nat} {Y : EnV} (h : l[k]? = some Y) : (ens l)[k]? = some Y.en := by unfold ens; rw [List.getElem?_map, h]; rfl
set_option maxHeartbeats 4000000 in
theorem pcheck_any (a : Option Addr) (len cap : Nat) (l : List EnV) (w : World) (E : Ens w a len l) (hs : Szs l) (hlen : len ≤ 100000) :
  Calls Tryz.prog 31 #[.slice a len cap] w fun e w' => e = .returned (.tuple #[.int .i64 (chk11 (ens l)).1, .int .i64 (chk11 (ens l)).2]) ∧ w.grownBy w' none := by
 have hll := E.len_eq
 by_cases h1 : 16384 < len
 ·have HV : Hid (chk11 (ens l) = (0, 3)) := by
   show chk11 (ens l) = (0, 3)
   unfold chk11
   rw [if_pos (by rw [ens_len]; omega)]
  have h1i : (16384 : Int) < (len : Int) := by omega
  clear E hll
  go_enter Tryz.func31, Tryz.ntmps31
  go_wp2_with fail
  go_ret2
  exact ⟨by rw [HV.out]; rfl, World.grownBy.refl _ _⟩
 ·have HE : Hid (chk11 (ens l) = if 8388608 < sums (ens l) then (0, 2) else fault (ens l) (ens l) 0) := by
   show chk11 (ens l) = _
   unfold chk11
   rw [if_neg (by rw [ens_len]; omega)]
  have h1i : ¬ (16384 : Int) < (len : Int) := by omega
  have htl := ptoolong_any a len cap l w E
  by_cases hsu : 8388608 < sums (ens l)
  ·rw [decide_eq_true hsu] at htl
   rw [if_pos hsu] at HE
   clear E hll hs hsu
   go_enter Tryz.func31, Tryz.ntmps31
   go_wp2_with (go_at_call 61; refine htl.mono ?_; rintro e w' ⟨rfl, hg⟩)
   go_ret2
   exact ⟨by rw [HE.out]; rfl, hg⟩
  ·rw [decide_eq_false hsu] at htl
   rw [if_neg hsu] at HE
   have hpl := fun W (g : w.grownBy W none) => pplaces_any a len cap l W (E.grown g) (fun X hX => (hs X hX).1) hlen
   have HI : Hid _ := And.intro E (And.intro hll hs)
   clear E hll hs hsu
   generalize chk11 (ens l) = A at *
   go_enter Tryz.func31, Tryz.ntmps31
   go_wp2_with (first | (go_at_call 61; refine htl.mono ?_; rintro e W1 ⟨rfl, g1⟩; have HG1 : Hid _ := g1; clear g1) | (go_at_call 62; refine (hpl _ HG1.out).mono ?_; rintro e W2 ⟨rfl, hM, hg⟩; have HM : Hid (MapF W2 9 W1.heap.size len (plK (ens l))) := hM; have HG2 : Hid _ := grown_trans HG1.out hg; clear hM hg))
   clear htl hpl
   generalize W1.heap.size = B at *
   go_loopw [19] (fun vi wr => ∃ (k : Nat), k ≤ len ∧ vi = .int .i64 k ∧ Hid (A = fault (ens l) ((ens l).drop k) k) ∧ Hid (W2.grownBy wr none)) (fun vi _ => len - (intOf vi).toNat)
   case atStart => exact ⟨0, Nat.zero_le _, rfl, HE.out, World.grownBy.refl _ _⟩
   case round =>
    obtain ⟨k, hk, rfl, HS, HG⟩ := hrel
    by_cases hlt : k < len
    ·obtain ⟨Y, hY⟩ : ∃ Y, l[k]? = some Y := ⟨_, List.getElem?_eq_getElem (by have := HI.out.2.1; omega)⟩
     have HGw : Hid _ := grown_trans HG2.out HG.out
     obtain ⟨b, off, rfl, hat⟩ := (HI.out.1.grown HGw.out).at_ (by omega)
     obtain ⟨y0, y1, y2, y3, y4, y5, y6, y7, y8, y9, y10, yok⟩ := hat k Y hY
     have hsz := HI.out.2.2 Y (List.mem_of_getElem? hY)
     have hfa := fun W (g : wr.grownBy W none) => pfault_any Y k W B len (ens l) (HM.out.kept (grown_trans HG.out g) (by simp)) hsz.1 (yok.grown g) hsz.2.1 hsz.2.2 (by omega)
     have hfe := flt_ent (ens_getk hY)
     rw [hfe] at hfa
     have hdr := ens_drop hY
     have HN : Hid (ent11 (ens l) k Y.en = 0 → A = fault (ens l) ((ens l).drop (k + 1)) (k + 1)) := by
      show _ → _
      intro h0
      rw [HS.out, hdr, fault_skip h0]
     have HN2 : Hid (ent11 (ens l) k Y.en ≠ 0 → A = ((k : Int), ent11 (ens l) k Y.en)) := by
      show _ → _
      intro h0
      rw [HS.out, hdr, fault_hit h0]
     generalize ent11 (ens l) k Y.en = V at *
     clear hfe hdr hat yok hsz hY HS
     obtain ⟨path, KY, mode, uid, gid, time, size, da, D, dc, data, target, dev, aa, al, ac, attrs⟩ := Y
     simp only [EnV.val] at hfa
     simp only at y0 y1 y2 y3 y4 y5 y6 y7 y8 y9 y10
     have hlti : (k : Int) < (len : Int) := by omega
     by_cases hV : V = 0
     ·subst hV
      have HV : Hid (A = fault (ens l) ((ens l).drop (k + 1)) (k + 1)) := HN.out rfl
      clear HN HN2
      go_wp2_with (go_at_call 63; refine (hfa _ (World.grownBy_alloc _ _ none)).mono ?_; rintro e w' ⟨rfl, hg⟩)
      exact ⟨⟨k + 1, by omega, by go_num, HV, grown_trans HG.out (grown_trans (World.grownBy_alloc _ _ none) hg)⟩, by simp [intOf]; omega⟩
     ·have bV : (V == 0) = false := by rw [beq_eq_false_iff_ne]; exact hV
      have HV : Hid _ := HN2.out hV
      clear hV HN HN2
      go_wp2_with (go_at_call 63; refine (hfa _ (World.grownBy_alloc _ _ none)).mono ?_; rintro e w' ⟨rfl, hg⟩)
      go_ret2
      exact ⟨by rw [HV.out]; rfl, grown_trans HGw.out (grown_trans (World.grownBy_alloc _ _ none) hg)⟩
    ·have hlti : ¬ (k : Int) < (len : Int) := by omega
     obtain rfl : k = len := by omega
     have HV : Hid (A = (0, 0)) := by
      show A = (0, 0)
      rw [HS.out, List.drop_eq_nil_of_le (by rw [ens_len, HI.out.2.1]; exact Nat.le_refl _)]
      rfl
     go_wp2_with fail
     go_ret2
     exact ⟨by rw [HV.out]; rfl, grown_trans HG2.out HG.out⟩
end Go.Proofs.YtlehncfehoelbaaGreatDoor
namespace Go.Proofs.YtlehncfehoelbaaGreatDoor
open Go.RowKit
set_option maxRecDepth 100000
set_option linter.unusedSimpArgs false
set_option linter.unusedVariables false
theorem evc_len (X : EnV) : (evc X).length = 11 := rfl
theorem evc_one (X : EnV) : ∀ u ∈ evc X, u.oneCell' = true := by
 intro u hu
 simp [evc] at hu
 rcases hu with rfl | rfl | rfl | rfl | rfl | rfl | rfl | rfl | rfl | rfl | rfl <;> rfl
theorem flat_one (l : List EnV) : ∀ u ∈ l.flatMap evc, u.oneCell' = true := by
 intro u hu
 obtain ⟨X, _, h⟩ := List.mem_flatMap.1 hu
 exact evc_one X u h
theorem EnAt.cells {w : World} {b o : Nat} {X : EnV} (h : EnAt w b o X) (f : Nat) (hf : f < 11) : w.cell? ⟨b, o + f, none⟩ = (evc X)[f]? := by
 have hh : f = 0 ∨ f = 1 ∨ f = 2 ∨ f = 3 ∨ f = 4 ∨ f = 5 ∨ f = 6 ∨ f = 7 ∨ f = 8 ∨ f = 9 ∨ f = 10 := by omega
 rcases hh with rfl | rfl | rfl | rfl | rfl | rfl | rfl | rfl | rfl | rfl | rfl
 ·exact h.c0
 ·exact h.c1
 ·exact h.c2
 ·exact h.c3
 ·exact h.c4
 ·exact h.c5
 ·exact h.c6
 ·exact h.c7
 ·exact h.c8
 ·exact h.c9
 ·exact h.c10
/-- a row of entries, cell by cell -/
theorem ens_cells {w : World} {b o : Nat} {l : List EnV} (h : ∀ (i : Nat) (X : EnV), l[i]? = some X → EnAt w b (o + i * 11) X) : ∀ j u, (l.flatMap evc)[j]? = some u → w.cell? ((⟨b, o, none⟩ : Addr).add j) = some u := by
 intro j u hu
 have hj : j < l.length * 11 := by have := (List.getElem?_eq_some_iff.1 hu).1; rwa [flat_len evc 11 evc_len] at this
 have hq : j / 11 < l.length := Nat.div_lt_of_lt_mul (by rw [Nat.mul_comm]; exact hj)
 have hm : j % 11 < 11 := Nat.mod_lt _ (by decide)
 have hX := List.getElem?_eq_getElem hq
 have h2 := flat_at evc 11 evc_len l (j / 11) (j % 11) _ hX hm
 have e1 : j / 11 * 11 + j % 11 = j := by rw [Nat.mul_comm]; exact Nat.div_add_mod j 11
 rw [e1, hu] at h2
 have h3 := (h (j / 11) _ hX).cells (j % 11) hm
 rw [← h2] at h3
 have e : (⟨b, o, none⟩ : Addr).add j = ⟨b, o + j, none⟩ := by simp [Addr.add]
 rw [e, ← h3]
 congr 2
 omega
/-- entries in a row of their own -/
theorem own_ens {W : World} {base n : Nat} {v : Value} {l : List EnV} (h : W.ownsRow base 30 11 v n (l.flatMap evc)) (hn : n = l.length) (ho : ∀ X ∈ l, X.ok W) : ∃ a c, v = .slice a n c ∧ Ens W a n l := by
 rcases h.2 with ⟨rfl, h0⟩ | ⟨g, cap, cur, rfl, hg, hh, hc, hm, hs, ht⟩
 ·exact ⟨none, 0, by rw [h0], ⟨hn.symm, by omega, fun h => by omega⟩⟩
 ·refine ⟨_, cap, rfl, ⟨hn.symm, Nat.le_trans hc hm, fun _ => ⟨g, 0, rfl, fun i X hX => ?_⟩⟩⟩
  have hi : i < l.length := (List.getElem?_eq_some_iff.1 hX).1
  have k := fun f (hf : f < 11) => (h.cellAt (i * 11 + f) (by omega)).trans (flat_at evc 11 evc_len l i f X hX hf)
  rw [Nat.zero_add]
  exact ⟨k 0 (by decide), k 1 (by decide), k 2 (by decide), k 3 (by decide), k 4 (by decide), k 5 (by decide), k 6 (by decide), k 7 (by decide), k 8 (by decide), k 9 (by decide), k 10 (by decide), ho X (List.mem_of_getElem? hX)⟩
theorem run_app_none {P : Program} {w : World} {t ty e : TypeId} {i : TypeInfo} (ht : P.underlying t = some (.slice e)) (hi : P.info? e = some i) (g n cap c : Nat) (hn : n ≤ cap) :
  (Builtin.append_ #[t, t] ty #[.slice (some ⟨g, 0, none⟩) n cap, .slice none 0 c]).run P w = .ok (.slice (some ⟨g, 0, none⟩) n cap) w := by
 simp [Builtin.append_, run_underlying ht, sizeOf, typeInfo, hi, Builtin.lenOf, hn, run_firstCells_none, storeCells]
set_option maxHeartbeats 4000000 in
theorem pconcat_any (b ra : Nat) (a : Option Addr) (len cap : Nat) (R : EnV) (l : List EnV) (w : World) (hR : Bx w ra 30 (evc R)) (E : Ens w a len l) (h0 : w.cell? ⟨b, 0, none⟩ = some (.slice (some ⟨ra, 0, none⟩) 1 1)) (h1 : w.cell? ⟨b, 1, none⟩ = some (.slice a len cap)) (hlen : len ≤ 100000) :
  Calls Tryz.prog 71 #[.slice (some ⟨b, 0, none⟩) 2 2] w fun e w' => ∃ v, e = .returned v ∧ w'.ownsRow w.heap.size 30 11 v (len + 1) ((R :: l).flatMap evc) ∧ w.grownBy w' none := by
 obtain ⟨ie, hi, hz0, hz1, hz2⟩ := info_parts Tryz.infoE
 have HIE : Hid _ := And.intro hi (And.intro hz0 (And.intro hz1 hz2))
 clear hi hz0 hz1 hz2
 have hgr := fun W => pgrow_any (len + 1) W (by omega) (by omega)
 have ec : ((len + 1 : Nat) : Int) = (len : Int) + 1 := by omega
 rw [ec] at hgr
 clear ec
 have HI : Hid _ := And.intro hR E
 clear hR E
 go_enter Tryz.func71, Tryz.ntmps71
 go_wp2_with fail
 go_loop [3, 11] (fun v3 vi => (vi = .int .i64 0 ∧ v3 = .int .i64 0) ∨ (vi = .int .i64 1 ∧ v3 = .int .i64 1) ∨ (vi = .int .i64 2 ∧ v3 = .int .i64 ((len : Int) + 1))) (fun _ vi => 2 - (intOf vi).toNat)
 case atStart => exact Or.inl ⟨rfl, rfl⟩
 case round =>
  rcases hrel with ⟨rfl, rfl⟩ | ⟨rfl, rfl⟩ | ⟨rfl, rfl⟩
  ·go_wp2_with fail
   go_round
   case rel => exact Or.inr (Or.inl ⟨by go_num, by go_num⟩)
   case measure => simp [intOf]
  ·go_wp2_with fail
   go_round
   case rel => exact Or.inr (Or.inr ⟨by go_num, by go_num⟩)
   case measure => simp [intOf]
  ·go_wp2_with (go_at_call 105; refine (hgr _).mono ?_; rintro e W1 ⟨c, rfl, hc, ho1, g1⟩; have HO1 : Hid _ := And.intro ho1 g1; have HCC : Hid _ := hc; clear ho1 g1 hc)
   have h0' := cell_grown h0 HO1.out.2
   have h1' := cell_grown h1 HO1.out.2
   have HBL : Hid _ := cell_lt11 h0
   clear h0 h1 hgr
   generalize hg : w.heap.size = g at *
   have HGS : Hid _ := hg
   clear hg
   go_loopw [6, 27] (fun v6 vi wr => (vi = .int .i64 0 ∧ v6 = .slice (some ⟨g, 0, none⟩) 0 c ∧ Hid (wr.ownsRow g 30 11 (.slice (some ⟨g, 0, none⟩) 0 c) 0 [] ∧ w.grownBy wr none ∧ wr.cell? ⟨b, 0, none⟩ = some (.slice (some ⟨ra, 0, none⟩) 1 1) ∧ wr.cell? ⟨b, 1, none⟩ = some (.slice a len cap))) ∨
    (∃ g1 c1, vi = .int .i64 1 ∧ v6 = .slice (some ⟨g1, 0, none⟩) 1 c1 ∧ Hid (wr.ownsRow g 30 11 (.slice (some ⟨g1, 0, none⟩) 1 c1) 1 (evc R) ∧ w.grownBy wr none ∧ wr.cell? ⟨b, 0, none⟩ = some (.slice (some ⟨ra, 0, none⟩) 1 1) ∧ wr.cell? ⟨b, 1, none⟩ = some (.slice a len cap))) ∨
    (vi = .int .i64 2 ∧ Hid (wr.ownsRow g 30 11 v6 (len + 1) ((R :: l).flatMap evc) ∧ w.grownBy wr none))) (fun _ vi _ => 2 - (intOf vi).toNat)
   case atStart => exact Or.inl ⟨rfl, rfl, HO1.out.1, HO1.out.2, h0', h1'⟩
   case round =>
    clear HO1 h0' h1'
    rcases hrel with ⟨rfl, rfl, HH⟩ | ⟨g1, c1, rfl, rfl, HH⟩ | ⟨rfl, HH⟩
    ·have hc0 := HH.out.2.2.1
     have hbx := HI.out.1.kept HH.out.2.1
     obtain ⟨v', W9, hrun, hown', hgrow, hnil, _⟩ := run_append_own_at (P := Tryz.prog) wr g 22 22 30 ie _ 11 _ Tryz.underlying22 HIE.out.1 HIE.out.2.1 HIE.out.2.2.1 HIE.out.2.2.2 rfl (by decide) _ _ _ HH.out.1 ⟨ra, 0, none⟩ 1 1 (evc R) rfl (fun j u hu => by
      have e : (⟨ra, 0, none⟩ : Addr).add j = ⟨ra, j, none⟩ := by simp [Addr.add]; intro h; exact h.symm
      rw [e, hbx.c j]; exact hu) (evc_one R) (by unfold maxLen; omega) (by omega) (by have := HH.out.2.1.size; rw [HGS.out] at this; exact this)
     have HR : Hid _ := hrun
     have hbg : b < g := by
      have h2 := HBL.out
      exact h2
     obtain ⟨g2, c2, rfl⟩ : ∃ g2 c2, v' = .slice (some ⟨g2, 0, none⟩) 1 c2 := by
      rcases hown'.2 with ⟨_, h0⟩ | ⟨g', cap', cur, hv, _⟩
      ·omega
      ·exact ⟨g', cap', hv⟩
     have hkeep : ∀ i v, wr.cell? ⟨b, i, none⟩ = some v → W9.cell? ⟨b, i, none⟩ = some v := fun i v h => by
      have hblk := hgrow.block b (cell_lt11 h) (by intro e; injection e with e; have e2 : b = g := e; omega)
      rw [World.cell?_of_block (a := ⟨b, i, none⟩) hblk]; exact h
     have HN : Hid (W9.ownsRow g 30 11 (.slice (some ⟨g2, 0, none⟩) 1 c2) 1 (evc R) ∧ w.grownBy W9 none ∧ W9.cell? ⟨b, 0, none⟩ = some (.slice (some ⟨ra, 0, none⟩) 1 1) ∧ W9.cell? ⟨b, 1, none⟩ = some (.slice a len cap)) := ⟨by simpa using hown', grown_new HH.out.2.1 hgrow (by rw [HGS.out]; exact Nat.le_refl _), hkeep 0 _ HH.out.2.2.1, hkeep 1 _ HH.out.2.2.2⟩
     clear hrun hown' hgrow hnil hbx hkeep
     go_wp2_with ((with_reducible refine app_here ?_); refine wpList_appR rfl _ _ 22 22 rfl _ _ _ rfl rfl HR.out ?_)
     exact ⟨Or.inr (Or.inl ⟨g2, c2, by go_num, rfl, HN⟩), by simp [intOf]⟩
    ·have hc1 := HH.out.2.2.2
     have hE := HI.out.2.grown HH.out.2.1
     have hfm : (R :: l).flatMap evc = evc R ++ l.flatMap evc := by rw [List.flatMap_cons]
     have hsz : g ≤ wr.heap.size := by have := HH.out.2.1.size; rw [HGS.out] at this; exact this
     have hex : ∃ v' W9, (Builtin.append_ #[22, 22] 22 #[.slice (some ⟨g1, 0, none⟩) 1 c1, .slice a len cap]).run Tryz.prog wr = .ok v' W9 ∧ W9.ownsRow g 30 11 v' (len + 1) ((R :: l).flatMap evc) ∧ w.grownBy W9 none := by
      cases a with
      | none =>
       have hl0 : len = 0 := by
        rcases Nat.eq_zero_or_pos len with h | h
        ·exact h
        ·obtain ⟨_, _, e, _⟩ := hE.at_ h; cases e
       have hl : l = [] := List.eq_nil_of_length_eq_zero (by rw [hE.len_eq, hl0])
       rcases HH.out.1.2 with ⟨h0, _⟩ | ⟨g', cap', cur, hv, hg, hb, hn, _⟩
       ·cases h0
       ·injection hv with e1 e2 e3
        refine ⟨.slice (some ⟨g1, 0, none⟩) 1 c1, wr, ?_, ?_, HH.out.2.1⟩
        ·rw [hl0]
         exact run_app_none Tryz.underlying22 HIE.out.1 g1 1 c1 cap (by omega)
        ·rw [hl0, hl]
         simpa using HH.out.1
      | some ad =>
       have hnews : ∀ j u, (l.flatMap evc)[j]? = some u → wr.cell? (ad.add j) = some u := by
        rcases Nat.eq_zero_or_pos len with h | h
        ·have hl : l = [] := List.eq_nil_of_length_eq_zero (by rw [hE.len_eq, h])
         intro j u hu
         rw [hl] at hu
         cases hu
        ·obtain ⟨b2, o2, e, k⟩ := hE.at_ h
         injection e with e
         rw [e]
         exact ens_cells k
       obtain ⟨v', W9, hrun, hown', hgrow, _, _⟩ := run_append_own_at (P := Tryz.prog) wr g 22 22 30 ie _ 11 _ Tryz.underlying22 HIE.out.1 HIE.out.2.1 HIE.out.2.2.1 HIE.out.2.2.2 rfl (by decide) _ _ _ HH.out.1 ad len cap (l.flatMap evc) (by rw [flat_len evc 11 evc_len, hE.len_eq]) hnews (flat_one l) (by unfold maxLen; omega) (by omega) hsz
       exact ⟨v', W9, hrun, by rw [hfm, Nat.add_comm len 1]; exact hown', grown_ownB HH.out.2.1 HH.out.1 hgrow (by rw [HGS.out]; exact Nat.le_refl _)⟩
     obtain ⟨v', W9, hrun, hN1, hN2⟩ := hex
     have HR : Hid _ := hrun
     have HN : Hid _ := And.intro hN1 hN2
     clear hrun hN1 hN2 hE hfm
     go_wp2_with ((with_reducible refine app_here ?_); refine wpList_appR rfl _ _ 22 22 rfl _ _ _ rfl rfl HR.out ?_)
     exact ⟨Or.inr (Or.inr ⟨by go_num, HN⟩), by simp [intOf]⟩
    ·go_wp2_with fail
     go_ret
     exact ⟨_, rfl, by rw [HGS.out]; exact HH.out.1, HH.out.2⟩
/-- the list with the root's entry -/
def wRoot (l : List EnV) : List EnV := if hasR l then l else rootV :: l
theorem Ens.ok {w : World} {a : Option Addr} {n : Nat} {l : List EnV} (h : Ens w a n l) : ∀ X ∈ l, X.ok w := by
 intro X hX
 obtain ⟨i, hi⟩ := List.mem_iff_getElem?.1 hX
 obtain ⟨b, o, _, k⟩ := h.at_ (by have := (List.getElem?_eq_some_iff.1 hi).1; have := h.len_eq; omega)
 exact (k i X hi).ok
set_option maxHeartbeats 4000000 in
theorem pwithroot_any (a : Option Addr) (len cap : Nat) (l : List EnV) (w : World) (E : Ens w a len l) (hlen : len ≤ 100000) :
  Calls Tryz.prog 33 #[.slice a len cap] w fun e w' => ∃ a' n' c', e = .returned (.slice a' n' c') ∧ Ens w' a' n' (wRoot l) ∧ w.grownBy w' none := by
 have hcf := pconf_any a len cap l w E
 have HE : Hid _ := E
 clear E
 cases hR : hasR l with
 | true =>
  rw [hR] at hcf
  have HW : Hid (wRoot l = l) := by show wRoot l = l; unfold wRoot; rw [hR]; rfl
  clear hR
  go_enter Tryz.func33, Tryz.ntmps33
  go_wp2_with (go_at_call 69; refine hcf.mono ?_; rintro e w' ⟨rfl, hg⟩)
  go_ret
  exact ⟨a, len, cap, rfl, by rw [HW.out]; exact HE.out.grown hg, hg⟩
 | false =>
  rw [hR] at hcf
  have HW : Hid (wRoot l = rootV :: l) := by show wRoot l = _; unfold wRoot; rw [hR]; rfl
  clear hR
  have hco := fun (b ra : Nat) (W : World) (g : w.grownBy W none) (h1 : Bx W ra 30 (evc rootV)) h2 h3 => pconcat_any b ra a len cap rootV l W h1 (HE.out.grown g) h2 h3 hlen
  go_enter Tryz.func33, Tryz.ntmps33
  go_wp2_with (first | (go_at_call 69; refine hcf.mono ?_; rintro e W1 ⟨rfl, g1⟩; have HG1 : Hid _ := g1; clear g1) | (go_at_call 71; refine (hco _ W1.heap.size _ (grown_trans HG1.out (grown_trans (World.grownBy_alloc _ _ none) (World.grownBy_alloc _ _ none))) ((Bx.new W1 30 (evc rootV)).kept (World.grownBy_alloc _ _ none)) ?_ ?_).mono ?_))
  ·simp
  ·simp
  ·rintro e W2 ⟨v, rfl, ho, g2⟩
   have G : w.grownBy W2 none := grown_trans (grown_trans HG1.out (grown_trans (World.grownBy_alloc _ _ none) (World.grownBy_alloc _ _ none))) g2
   have hok : ∀ X ∈ rootV :: l, X.ok W2 := by
    intro X hX
    rcases List.mem_cons.1 hX with rfl | hX
    ·exact rootV_ok _
    ·exact (HE.out.ok X hX).grown G
   obtain ⟨a', c', rfl, hE'⟩ := own_ens (n := len + 1) ho (by rw [List.length_cons, HE.out.len_eq]) hok
   have HF : Hid _ := And.intro hE' G
   clear hE' G ho g2 hok
   go_wp2_with fail
   go_ret
   exact ⟨a', len + 1, c', rfl, by rw [HW.out]; exact HF.out.1, HF.out.2⟩
/-- a row that lies in new memory -/
def newA (b : Nat) (a : Option Addr) (n : Nat) : Prop := 0 < n → ∃ g o, a = some ⟨g, o, none⟩ ∧ b ≤ g
/-- a node all of whose rows lie in new memory -/
structure NoFr (b : Nat) (X : NoV) : Prop where
 data : newA b X.da X.dl
 ats : newA b X.aa X.al
 vals : ∀ A ∈ X.attrs, newA b A.a A.len
 kids : newA b X.ka X.kl
/-- what the program's Canon answers -/
def CnPost (w : World) (l : List En) (e : Ending) (w' : World) : Prop := w.grownBy w' none ∧ ∃ (b : Option Addr) (n c : Nat) (ns : List NoV), e = .returned (.tuple #[.agg #[.slice b n c], .int .i64 (chk11 l).2]) ∧ Nos w' b n ns ∧ newA w.heap.size b n ∧ (∀ X ∈ ns, NoFr w.heap.size X) ∧ nos ns = if (chk11 l).2 = 0 then canon l else []
theorem newA_of {W : World} {b e s n m : Nat} {a : Option Addr} {c : Nat} {xs : List Value} (h : W.ownsRow b e s (.slice a n c) m xs) : newA b a n := by
 intro h0
 rcases h.2 with ⟨hv, hn⟩ | ⟨q, cap, cur, hv, hb, _⟩
 ·injection hv with _ e2
  omega
 ·injection hv with e1
  exact ⟨q, 0, e1, hb⟩
theorem newA_low {b b' n : Nat} {a : Option Addr} (h : newA b a n) (hb : b' ≤ b) : newA b' a n := fun h0 => by
 obtain ⟨g, o, e, k⟩ := h h0
 exact ⟨g, o, e, by omega⟩
theorem Pk.nofr {W : World} {base : Nat} {X : NoV} (h : Pk W base X) : NoFr base X :=
 ⟨newA_of h.row.own, newA_of h.ar.own, fun A hA => newA_of (h.ar.rows A hA).own, newA_of h.kid⟩
theorem Tq.up {w w2 W : World} {base : Nat} {v : Value} {l : List NoV} (h : Tq w2 W base v l) (g : w.grownBy w2 none) : Tq w W base v l :=
 ⟨grown_trans g h.gr, Nat.le_trans g.size h.low, h.own, h.each, h.apart⟩
theorem foldl_ge : ∀ (l : List Int) (a : Int), (∀ x ∈ l, 0 ≤ x) → a ≤ l.foldl (· + ·) a ∧ ∀ x ∈ l, a + x ≤ l.foldl (· + ·) a
 | [], a, _ => ⟨Int.le_refl _, fun x h => by cases h⟩
 | y :: l, a, h => by
  obtain ⟨h1, h2⟩ := foldl_ge l (a + y) (fun x hx => h x (List.mem_cons_of_mem _ hx))
  have hy := h y List.mem_cons_self
  refine ⟨?_, fun x hx => ?_⟩
  ·show a ≤ l.foldl (· + ·) (a + y); omega
  ·show a + x ≤ l.foldl (· + ·) (a + y)
   rcases List.mem_cons.1 hx with e | hx
   ·subst e; exact h1
   ·have := h2 x hx; omega
theorem sums_ge {l : List En} {x : En} (hx : x ∈ l) (h1 : x.k = 1) : (x.data.length : Int) ≤ sums l := by
 unfold sums
 have := (foldl_ge (l.map fun x => if x.k = 1 then (x.data.length : Int) else 0) 0 (fun y hy => by
  obtain ⟨z, _, e⟩ := List.mem_map.1 hy
  rw [← e]
  split <;> omega)).2 (x.data.length : Int) (List.mem_map.2 ⟨x, hx, if_pos h1⟩)
 omega
theorem szn_of {w : World} {X : EnV} (ho : X.ok w) (hf : fld X.en = 0) (hd : X.k = 1 → (X.data.length : Int) ≤ 8388608) : Szn X := by
 obtain ⟨d1, d2⟩ := fld_dn hf
 have hal : X.al ≤ 64 := by
  rw [← ho.ats.len_eq]
  have e : X.en.attrs = X.attrs.map AtV.at := rfl
  rw [e, List.length_map] at d2
  exact d2
 unfold fld at hf
 by_cases c1 : (!inI X.en.mode 0 4095 || !inI X.en.uid 0 4294967295 || !inI X.en.gid 0 4294967295 || !inI X.en.time 0 4294967295) = true
 ·rw [if_pos c1] at hf; cases hf
 ·rw [if_neg c1] at hf
  by_cases c2 : ((decide (X.en.k = 1) && !inI X.en.size X.en.data.length 1099511627775) || (decide (X.en.k = 3) && !txt X.en.target 1 4096) || (decide (3 < X.en.k) && !inI X.en.dev 0 4294967295) || decide (64 < X.en.attrs.length)) = true
  ·rw [if_pos c2] at hf; cases hf
  ·rw [if_neg c2] at hf
   by_cases c3 : (X.en.attrs.any fun a => !txt a.n 1 255 || decide (4096 < a.v.length)) = true
   ·rw [if_pos c3] at hf; cases hf
   ·refine ⟨by omega, d1, fun A hA => ?_, fun h1 => ?_, fun h3 => ?_⟩
    ·rw [Bool.not_eq_true, List.any_eq_false] at c3
     have k := c3 A.at (List.mem_map.2 ⟨A, hA, rfl⟩)
     rw [Bool.or_eq_true] at k
     have k1 : txt A.n.toList 1 255 = true := by
      cases ht : txt A.n.toList 1 255 with
      | true => rfl
      | false => exact absurd (.inl (by show (!txt A.n.toList 1 255) = true; rw [ht]; rfl)) k
     have k2 : ¬ 4096 < A.v.length := fun h => k (.inr (decide_eq_true h))
     unfold txt inI at k1
     rw [Bool.and_eq_true, Bool.and_eq_true, decide_eq_true_iff, decide_eq_true_iff, tl_len] at k1
     have hl : A.v.length = A.len := by
      obtain ⟨i, hi⟩ := List.mem_iff_getElem?.1 hA
      have hil := (List.getElem?_eq_some_iff.1 hi).1
      obtain ⟨b, o, _, kk⟩ := ho.ats.at_ (by have := ho.ats.len_eq; omega)
      exact (kk i A hi).row.len_eq
     omega
    ·have := hd h1
     have e := ho.row.len_eq
     omega
    ·have k : txt X.target.toList 1 4096 = true := by
      cases ht : txt X.target.toList 1 4096 with
      | true => rfl
      | false =>
       refine absurd ?_ c2
       have e1 : decide (X.en.k = 3) = true := decide_eq_true h3
       have e2 : txt X.en.target 1 4096 = false := ht
       rw [e1, e2]
       simp
     unfold txt inI at k
     rw [Bool.and_eq_true, Bool.and_eq_true, decide_eq_true_iff, decide_eq_true_iff, tl_len] at k
     omega
theorem szl_of {w : World} {a : Option Addr} {len : Nat} {l : List EnV} (E : Ens w a len l) (ok : OkS (ens l)) (hsum : sums (ens l) ≤ 8388608) (hs : Szs l) : Szl l := by
 intro X hX
 have hm : X.en ∈ ens l := List.mem_map.2 ⟨X, hX, rfl⟩
 refine ⟨(hs X hX).1, (hs X hX).2.1, fun h6 => szn_of (E.ok X hX) ((ok.each _ hm).fld h6) fun h1 => ?_⟩
 have := sums_ge hm h1
 exact Int.le_trans this hsum
theorem rootP : rootV.path.toList = [] := ByteArray.toList_mk []
theorem rootEn : rootV.en = rootE := by
 have e : (⟨#[]⟩ : ByteArray).toList = [] := ByteArray.toList_mk []
 show En.mk (⟨#[]⟩ : ByteArray).toList 2 493 0 0 0 0 [] (⟨#[]⟩ : ByteArray).toList 0 [] = rootE
 rw [e]; rfl
theorem ens_root (l : List EnV) : ens (rootV :: l) = rootE :: ens l := by show rootV.en :: ens l = _; rw [rootEn]
theorem szn_root : Szn rootV := ⟨by decide, fun i j a b h => (by cases h), fun A hA => (by cases hA), fun h => (by cases h), fun h => (by cases h)⟩
/-- what is asked of the list with the root -/
theorem wroot_ok {w : World} {a : Option Addr} {len : Nat} {l : List EnV} (E : Ens w a len l) (hs : Szs l) (hc : (chk11 (ens l)).2 = 0) :
  len ≤ 16384 ∧ OkS (ens (wRoot l)) ∧ canon (ens (wRoot l)) = canon (ens l) ∧ Szl (wRoot l) ∧ (wRoot l).length ≤ len + 1 ∧ ∃ (r : Nat) (x : EnV), (wRoot l)[r]? = some x ∧ x.path.toList = [] := by
 obtain ⟨c1, c2, ok⟩ := chk_ok.1 hc
 have hl : (ens l).length = len := by unfold ens; rw [List.length_map, E.len_eq]
 have hsz := szl_of E ok c2 hs
 rw [hl] at c1
 unfold wRoot
 by_cases h : hasR l = true
 ·rw [if_pos h]
  unfold hasR at h
  obtain ⟨x, hx, e⟩ := List.any_eq_true.1 h
  obtain ⟨r, hr⟩ := List.mem_iff_getElem?.1 hx
  exact ⟨c1, ok, rfl, hsz, by rw [E.len_eq]; omega, r, x, hr, by simpa using e⟩
 ·rw [if_neg h]
  have hn : ∀ x ∈ ens l, x.path ≠ [] := by
   intro x hx e
   obtain ⟨X, hX, rfl⟩ := List.mem_map.1 hx
   apply h
   unfold hasR
   exact List.any_eq_true.2 ⟨X, hX, by have e2 : X.path.toList = [] := e; rw [e2]; rfl⟩
  refine ⟨c1, by rw [ens_root]; exact ok_root ok hn, by rw [ens_root]; exact canon_root ok hn, fun X hX => ?_, by rw [List.length_cons, E.len_eq]; exact Nat.le_refl _, 0, rootV, rfl, rootP⟩
  rcases List.mem_cons.1 hX with e | hX
  ·subst e; exact ⟨by decide, by decide, fun _ => szn_root⟩
  ·exact hsz X hX
set_option maxHeartbeats 4000000 in
theorem pcanon_any (a : Option Addr) (len cap : Nat) (l : List EnV) (w : World) (E : Ens w a len l) (hs : Szs l) (hlen : len ≤ 100000) :
  Calls Tryz.prog 10 #[.slice a len cap] w (CnPost w (ens l)) := by
 have hck := fun W g => pcheck_any a len cap l W (E.grown g) hs hlen
 have HI : Hid _ := And.intro E hs
 clear E hs
 have B0 : Hid _ := Bx.new w 33 [.slice none 0 0]
 have G0 : Hid _ := World.grownBy_alloc w (.cells #[.slice none 0 0] 33) none
 go_enter Tryz.func10, Tryz.ntmps10
 go_wp2_with fail
 refine (hck _ G0.out).mono ?_
 clear hck
 rintro e W1 ⟨rfl, g1⟩
 have HP1 : Hid _ := And.intro (B0.out.kept g1) (grown_trans G0.out g1)
 clear B0 G0 g1
 generalize hC1 : (chk11 (ens l)).1 = C1 at *
 generalize hC2 : (chk11 (ens l)).2 = C2 at *
 have HC : Hid _ := hC2
 clear hC1 hC2
 generalize hB : w.heap.size = B at *
 have HB : Hid _ := hB
 clear hB
 by_cases hc : C2 = 0
 ·subst hc
  go_wp2_with fail
  refine (pwithroot_any a len cap l W1 (HI.out.1.grown HP1.out.2) hlen).mono ?_
  rintro e W2 ⟨a', n', c', rfl, E', g2⟩
  obtain ⟨k1, k2, k3, k4, k5, r, x, k6, k7⟩ := wroot_ok HI.out.1 HI.out.2 HC.out
  have hn' := E'.len_eq
  have hl := play_any a' n' c' (wRoot l) W2 E' (by have := (List.getElem?_eq_some_iff.1 k6).1; omega) (by omega) k2 r x k6 k7 k4
  unfold LyPost at hl
  rw [k3] at hl
  have HP2 : Hid _ := And.intro (HP1.out.1.kept g2) (grown_trans HP1.out.2 g2)
  clear E' HP1 g2 k1 k2 k3 k4 k5 k6 k7 hn'
  go_wp2_with fail
  refine hl.mono ?_
  rintro e W3 ⟨v, ns, rfl, hT, hno⟩
  have b3 := HP2.out.1.kept hT.gr
  obtain ⟨va, vc, rfl⟩ := own_shape hT.own
  have hT2 := hT.up HP2.out.2
  have ho := bx_own (base := B) b3 (Nat.le_refl _) rfl (by decide)
  obtain ⟨s1, s2⟩ := ho.stored 0 (.slice va ns.length vc)
  have hT3 := hT2.other ho (by rw [HB.out]; exact Nat.le_refl _) (by decide) (by decide) (by decide) (by decide) s2
  have c2 := b3.c 0
  have f2 : W3.frozen? ⟨B, 0, none⟩ = false := by simp [World.frozen?, b3.blk]
  have cR := s1.cellAt 0 (by decide)
  have HT : Hid _ := And.intro hT3 hno
  have HCR : Hid _ := cR
  have HW2 : Hid _ := HP2.out.2.size
  clear hT hT2 hT3 ho s1 s2 cR b3 HP2 hno hl
  go_wp2_with fail
  have cR := HCR.out
  refine bodyPost_ret (v := .tuple #[.agg #[.slice va ns.length vc], .int .i64 0]) (by simp [results, Tryz.results10, go_sem, *]) rfl ?_
  have hT := HT.out.1
  refine ⟨hT.gr, va, ns.length, vc, ns, by rw [HC.out], hT.nos rfl, newA_low (newA_of hT.own) HW2.out, fun X hX => ?_, by rw [HC.out, if_pos rfl]; exact HT.out.2⟩
  obtain ⟨i, hi⟩ := List.mem_iff_getElem?.1 hX
  exact ((hT.each i X hi).low HW2.out).nofr
 ·have hb : (C2 == 0) = false := by rw [beq_eq_false_iff_ne]; exact hc
  have hb2 : (C2 != 0) = true := by simp [hc]
  have c2 := HP1.out.1.c 0
  have f2 : W1.frozen? ⟨B, 0, none⟩ = false := by simp [World.frozen?, HP1.out.1.blk]
  have ho := bx_own (base := B) HP1.out.1 (Nat.le_refl _) rfl (by decide)
  obtain ⟨s1, s2⟩ := ho.stored 0 (.slice none 0 0)
  have HCR : Hid _ := s1.cellAt 0 (by decide)
  have HG : Hid _ := grown_ownB HP1.out.2 ho s2 (by rw [HB.out]; exact Nat.le_refl _)
  clear ho s1 s2
  go_wp2_with fail
  have cR := HCR.out
  refine bodyPost_ret (v := .tuple #[.agg #[.slice none 0 0], .int .i64 C2]) (by simp [results, Tryz.results10, go_sem, *]) rfl ?_
  refine ⟨HG.out, none, 0, 0, [], by rw [HC.out], ⟨rfl, by decide, fun h => absurd h (by decide)⟩, fun h => absurd h (by decide), fun X hX => (by cases hX), by rw [HC.out, if_neg hc]; rfl⟩
theorem pequal11_any (a b : Option Addr) (n c m d : Nat) (xs ys : List Int) (w : World) (R : Row w a n xs) (R2 : Row w b m ys) :
  Calls Tryz.prog 72 #[.slice a n c, .slice b m d] w fun e w' => e = .returned (.bool (decide (xs = ys))) ∧ w = w' := by
 have k1 := conv_row (P := Tryz.prog) R c 23 9 Tryz.underlying23 Tryz.underlying5 Tryz.underlying9
 have k2 := conv_row (P := Tryz.prog) R2 d 23 9 Tryz.underlying23 Tryz.underlying5 Tryz.underlying9
 rw [← str_eq xs ys R.byt R2.byt]
 generalize strOfNums xs = A at *
 generalize strOfNums ys = B at *
 clear R R2
 go_enter Tryz.func72, Tryz.ntmps72
 go_wp2
 go_ret
 exact ⟨rfl, rfl⟩
theorem psattr_any (X Y : AtV) (w : World) (R : Row w X.a X.len X.v) (R2 : Row w Y.a Y.len Y.v) :
  Calls Tryz.prog 74 #[.agg #[.string X.n, .slice X.a X.len X.cap], .agg #[.string Y.n, .slice Y.a Y.len Y.cap]] w fun e w' => e = .returned (.bool ((X.n.toList == Y.n.toList) && decide (X.v = Y.v))) ∧ w.grownBy w' none := by
 obtain ⟨xn, xa, xl, xc, xv⟩ := X
 obtain ⟨yn, ya, yl, yc, yv⟩ := Y
 simp only at R R2 ⊢
 have hq := fun W (g : w.grownBy W none) => pequal11_any xa ya xl xc yl yc xv yv W (R.grown g) (R2.grown g)
 generalize decide (xv = yv) = D at *
 clear R R2
 cases h : (xn.toList == yn.toList) with
 | true =>
  go_enter Tryz.func74, Tryz.ntmps74
  go_wp2_with (go_at_call 72; refine (hq _ (grown_trans (World.grownBy_alloc _ _ none) (World.grownBy_alloc _ _ none))).mono ?_; rintro e w' ⟨rfl, rfl⟩)
  go_ret
  exact ⟨by simp, grown_trans (World.grownBy_alloc _ _ none) (World.grownBy_alloc _ _ none)⟩
 | false =>
  go_enter Tryz.func74, Tryz.ntmps74
  go_wp2_with fail
  go_ret
  exact ⟨by simp, grown_trans (World.grownBy_alloc _ _ none) (World.grownBy_alloc _ _ none)⟩
set_option maxHeartbeats 2000000 in
theorem peqa_any (a b : Option Addr) (n c m d : Nat) (l r : List AtV) (w : World) (R : Ats w a n l) (R2 : Ats w b m r) :
  Calls Tryz.prog 73 #[.slice a n c, .slice b m d, .func (.func 74) #[] #[]] w fun e w' => e = .returned (.bool (sameAts (l.map AtV.at) (r.map AtV.at))) ∧ w.grownBy w' none := by
 have hle1 : n ≤ 9223372036854775807 := R.le
 have hle2 : m ≤ 9223372036854775807 := R2.le
 by_cases hnm : n = m
 ·subst hnm
  have HE : Hid _ := And.intro R.len_eq R2.len_eq
  have HR : Hid _ := And.intro R R2
  clear R R2
  have hb : (n != n) = false := by simp
  go_enter Tryz.func73, Tryz.ntmps73
  go_wp2_with fail
  go_loopw [17] (fun i wr => ∃ k : Nat, k ≤ n ∧ i = .int .i64 k ∧ Hid (sameAts (l.map AtV.at) (r.map AtV.at) = sameAts ((l.map AtV.at).drop k) ((r.map AtV.at).drop k)) ∧ Hid (w.grownBy wr none)) (fun i _ => n - (intOf i).toNat)
  case atStart => exact ⟨0, Nat.zero_le _, rfl, rfl, World.grownBy.refl _ _⟩
  case round =>
   obtain ⟨k, h1, rfl, HC, HG⟩ := hrel
   by_cases h3 : k < n
   ·obtain ⟨b1, o1, rfl, c1⟩ := (HR.out.1.grown HG.out).at_ (by omega)
    obtain ⟨b2, o2, rfl, c2⟩ := (HR.out.2.grown HG.out).at_ (by omega)
    obtain ⟨x, hx⟩ : ∃ x, l[k]? = some x := ⟨_, List.getElem?_eq_getElem (by rw [HE.out.1]; exact h3)⟩
    obtain ⟨y, hy⟩ : ∃ y, r[k]? = some y := ⟨_, List.getElem?_eq_getElem (by rw [HE.out.2]; exact h3)⟩
    obtain ⟨p0, p1, pr, pc⟩ := c1 k x hx
    obtain ⟨q0, q1, qr, qc⟩ := c2 k y hy
    have hst := sameAts_step hx hy
    rw [← HC.out] at hst
    have hcall := fun W (g : wr.grownBy W none) => psattr_any x y W (pr.grown g) (qr.grown g)
    obtain ⟨xn, xa, xl, xc, xv⟩ := x
    obtain ⟨yn, ya, yl, yc, yv⟩ := y
    simp only at p0 p1 q0 q1 hst hcall
    generalize ((xn.toList == yn.toList) && decide (xv = yv)) = B at *
    have HD : Hid _ := hst
    have hb1 := cell_lt11 p0
    have hb2 := cell_lt11 q0
    clear hst c1 c2 pr qr pc qc hx hy
    have h3i : (k : Int) < n := by omega
    cases B with
    | true =>
     go_wp2_with (go_at_call 74; refine (hcall _ (grown_trans (World.grownBy_alloc _ _ none) (World.grownBy_alloc _ _ none))).mono ?_; rintro e w' ⟨rfl, hg⟩)
     exact ⟨⟨k + 1, by omega, by go_num, by show _ = _; rw [HD.out]; rfl, grown_trans HG.out (grown_trans (grown_trans (World.grownBy_alloc _ _ none) (World.grownBy_alloc _ _ none)) hg)⟩, by simp [intOf]; omega⟩
    | false =>
     go_wp2_with (go_at_call 74; refine (hcall _ (grown_trans (World.grownBy_alloc _ _ none) (World.grownBy_alloc _ _ none))).mono ?_; rintro e w' ⟨rfl, hg⟩)
     go_ret
     exact ⟨by rw [HD.out]; rfl, grown_trans HG.out (grown_trans (grown_trans (World.grownBy_alloc _ _ none) (World.grownBy_alloc _ _ none)) hg)⟩
   ·have HV : Hid (sameAts (l.map AtV.at) (r.map AtV.at) = true) := by
     show _ = _
     rw [HC.out, List.drop_eq_nil_of_le (by rw [List.length_map, HE.out.1]; omega), List.drop_eq_nil_of_le (by rw [List.length_map, HE.out.2]; omega)]
     rfl
    clear HC
    go_wp2_with fail
    go_ret
    exact ⟨by rw [HV.out]; rfl, HG.out⟩
 ·have HV : Hid (sameAts (l.map AtV.at) (r.map AtV.at) = false) := by
   show _ = _
   exact sameAts_len (by rw [List.length_map, List.length_map, R.len_eq, R2.len_eq]; exact hnm)
  have hb : ((n : Int) == (m : Int)) = false := by rw [beq_eq_false_iff_ne]; omega
  clear R R2
  go_enter Tryz.func73, Tryz.ntmps73
  go_wp2_with fail
  go_ret
  exact ⟨by rw [HV.out]; rfl, World.grownBy.refl _ _⟩
set_option maxHeartbeats 2000000 in
theorem peqk_any (a b : Option Addr) (n c m d : Nat) (l r : List Kd) (w : World) (R : Kds w a n l) (R2 : Kds w b m r) :
  Calls Tryz.prog 75 #[.slice a n c, .slice b m d] w fun e w' => e = .returned (.bool (sameKds l r)) ∧ ∃ n, w' = w.drewN n := by
 have hle1 : n ≤ 9223372036854775807 := R.le
 have hle2 : m ≤ 9223372036854775807 := R2.le
 by_cases hnm : n = m
 ·subst hnm
  have HE : Hid _ := And.intro R.len_eq R2.len_eq
  have HR : Hid _ := And.intro R R2
  clear R R2
  have hb : (n != n) = false := by simp
  go_enter Tryz.func75, Tryz.ntmps75
  go_wp2_with fail
  go_loopw [13] (fun i wr => ∃ k : Nat, k ≤ n ∧ i = .int .i64 k ∧ Hid (sameKds l r = sameKds (l.drop k) (r.drop k)) ∧ ∃ n, wr = w.drewN n) (fun i _ => n - (intOf i).toNat)
  case atStart => exact ⟨0, Nat.zero_le _, rfl, rfl, 0, rfl⟩
  case round =>
   obtain ⟨k, h1, rfl, HC, t, rfl⟩ := hrel
   by_cases h3 : k < n
   ·obtain ⟨b1, o1, rfl, c1⟩ := HR.out.1.at_ (by omega)
    obtain ⟨b2, o2, rfl, c2⟩ := HR.out.2.at_ (by omega)
    obtain ⟨x, hx⟩ : ∃ x, l[k]? = some x := ⟨_, List.getElem?_eq_getElem (by rw [HE.out.1]; exact h3)⟩
    obtain ⟨y, hy⟩ : ∃ y, r[k]? = some y := ⟨_, List.getElem?_eq_getElem (by rw [HE.out.2]; exact h3)⟩
    obtain ⟨p0, p1⟩ := c1 k x hx
    obtain ⟨q0, q1⟩ := c2 k y hy
    have hst := sameKds_step hx hy
    rw [← HC.out] at hst
    obtain ⟨xn, xi⟩ := x
    obtain ⟨yn, yi⟩ := y
    simp only at p0 p1 q0 q1
    unfold sameKd at hst
    simp only at hst
    have ex := tx_tl xn
    have ey := tx_tl yn
    rw [← ex, ← ey] at hst
    generalize tx xn = Xn at *
    generalize tx yn = Yn at *
    have HD : Hid _ := hst
    clear hst c1 c2 hx hy ex ey
    have h3i : (k : Int) < n := by omega
    cases hq : (Xn.toList == Yn.toList) with
    | true =>
     cases hi : (xi == yi) with
     | true =>
      have HV : Hid (sameKds l r = sameKds (l.drop (k + 1)) (r.drop (k + 1))) := by
       show _ = _
       rw [HD.out, hq, hi]; rfl
      clear HD HC
      go_wp2_with fail
      go_quiet (fail)
      go_wp2_with fail
      exact ⟨⟨k + 1, by omega, by go_num, HV, _, rfl⟩, by simp [intOf]; omega⟩
     | false =>
      have HV : Hid (sameKds l r = false) := by
       show _ = _
       rw [HD.out, hq, hi]; rfl
      clear HD HC
      go_wp2_with fail
      go_quiet (fail)
      go_wp2_with fail
      go_ret
      exact ⟨by rw [HV.out]; rfl, _, dd _ _ _⟩
    | false =>
     have HV : Hid (sameKds l r = false) := by
      show _ = _
      rw [HD.out, hq]; rfl
     clear HD HC
     go_wp2_with fail
     go_quiet (fail)
     go_wp2_with fail
     go_ret
     exact ⟨by rw [HV.out]; rfl, _, dd _ _ _⟩
   ·have HV : Hid (sameKds l r = true) := by
     show _ = _
     rw [HC.out, List.drop_eq_nil_of_le (by rw [HE.out.1]; omega), List.drop_eq_nil_of_le (by rw [HE.out.2]; omega)]
     rfl
    clear HC
    go_wp2_with fail
    go_ret
    exact ⟨by rw [HV.out]; rfl, _, rfl⟩
 ·have HV : Hid (sameKds l r = false) := by
   show _ = _
   exact sameKds_len (by rw [R.len_eq, R2.len_eq]; exact hnm)
  have hb : ((n : Int) == (m : Int)) = false := by rw [beq_eq_false_iff_ne]; omega
  clear R R2
  go_enter Tryz.func75, Tryz.ntmps75
  go_wp2_with fail
  go_ret
  exact ⟨by rw [HV.out]; rfl, 0, rfl⟩
end Go.Proofs.YtlehncfehoelbaaGreatDoor
