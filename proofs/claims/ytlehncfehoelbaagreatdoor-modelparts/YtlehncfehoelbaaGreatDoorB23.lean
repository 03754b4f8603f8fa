/- The program's tree: attributes. The program's tree: the fields, a further name, a path's parts. slices.Grow of no entries. -/
import Derived.Laws.AppendOwn
import Derived.Test.YtlehncfehoelbaaGreatDoorB13
import Derived.Test.YtlehncfehoelbaaGreatDoorB18
import Derived.Test.YtlehncfehoelbaaGreatDoorB21
import Derived.Test.YtlehncfehoelbaaGreatDoorB22
namespace Go.Proofs.YtlehncfehoelbaaGreatDoor
open Go.RowKit
set_option maxRecDepth 100000
open Go.Maps (Keyed)
set_option linter.unusedSimpArgs false
set_option linter.unusedVariables false
/-- the names of the first attributes as a set -/
def SetK (w : World) (B k : Nat) (l : List Atr) : Prop := ∃ D, w.ownsMap Tryz.prog 9 hvR B k D ∧ (∀ s : Tx, Maps.has D (.string s) = (l.take k).any fun a => decide (a.n = s)) ∧ twice l k = decide (Maps.size D < k)
theorem SetK.made (w : World) (l : List Atr) : SetK (w.alloc (.map #[] 0)) w.heap.size 0 l := ⟨_, World.ownsMap_made w Tryz.prog 9 hvR, fun s => by simp [Maps.has], rfl⟩
theorem SetK.kept {w w' : World} {B k : Nat} {l : List Atr} {row : Option Nat} (h : SetK w B k l) (g : w.grownBy w' row) (hne : some B ≠ row) : SetK w' B k l := by
 obtain ⟨D, o, r⟩ := h
 exact ⟨D, o.kept g hne, r⟩
theorem SetK.lt {w : World} {B k : Nat} {l : List Atr} (h : SetK w B k l) : B < w.heap.size := by
 obtain ⟨D, o, r⟩ := h
 exact o.lt
theorem SetK.store {w : World} {t e : TypeId} {B k : Nat} {l : List Atr} (h : SetK w B k l) (ht : Tryz.prog.underlying t = some (.map 9 e)) (hn : k < maxLen) {s : ByteArray} {val : Value} {x : Atr} (hx : l[k]? = some x) (hs : x.n = s.toList) (hsz : s.size ≤ 9223372036854775807) :
  ∃ w', (Instr.mapUpdate t (.map (some B)) (.string s) val).run Tryz.prog w = .ok () w' ∧ SetK w' B (k + 1) l ∧ w.grownBy w' (some B) := by
 obtain ⟨D, o, r, tw⟩ := h
 obtain ⟨w', hrun, o', g⟩ := o.update key9 ht hn (d := .held val) (ps := []) (keyp hsz) rfl
 have hk : WideAt.IsKeyLit (Lit.string s.toList) := by simp [WideAt.IsKeyLit]
 have hlt : k < l.length := by
  rcases Nat.lt_or_ge k l.length with h1 | h1
  ·exact h1
  ·rw [List.getElem?_eq_none h1] at hx; cases hx
 have hxe : l[k] = x := by rw [List.getElem?_eq_getElem hlt] at hx; injection hx
 refine ⟨w', hrun, ⟨_, o', fun y => ?_, ?_⟩, g⟩
 ·rw [List.take_succ_eq_append_getElem hlt, List.any_append, hxe, ← r y]
  by_cases hy : y = s.toList
  ·subst hy
   rw [Maps.has_put_same o.isMap hk]
   simp [hs]
  ·rw [Maps.has_put_other (by intro e; injection e with e; exact hy e)]
   have : ¬ x.n = y := by rw [hs]; exact fun e => hy e.symm
   simp [this]
 ·rw [twice_step l k x hx, hs, ← r, tw, Maps.size_put (o.tidy key9)]
  have hle := o.size_le
  cases hh : Maps.has D (.string s.toList) with
  | true => simp; omega
  | false => simp
theorem wpList_storeS {P : Program} (hP : P = Tryz.prog) (w : World) {ops : Array Oper} {rest : List Oper} {o : Oper} {a : Act} {Q : Exit → Act → World → Prop}
  (hg : o.guard = none) (m x v : Operand) (t : TypeId) (hop : o.op = Op.mapUpdate t m x v) (e : TypeId) (ht : Tryz.prog.underlying t = some (.map 9 e)) (B k : Nat) (l : List Atr)
  (hm : a.eval m = .map (some B)) (h : SetK w B k l) (hn : k < maxLen) (s : ByteArray) (X : Atr) (hx : a.eval x = .string s) (hX : l[k]? = some X) (hs : X.n = s.toList) (hsz : s.size ≤ 9223372036854775807)
  (hK : ∀ w', Hid (SetK w' B (k + 1) l) → Hid (w.grownBy w' (some B)) → wpList P ops Q rest (a.put o.dst undef) w') : wpList P ops Q (o :: rest) a w := by
 subst hP
 refine wpList_plain hg fun K' hK' => ?_
 obtain ⟨w', hrun, r1, r2⟩ := h.store (val := a.eval v) ht hn hX hs hsz
 unfold Oper.wp
 simp [execOp, hop, hm, hx, hrun, Result.andThen]
 exact hK' _ _ (hK w' r1 r2)
set_option maxHeartbeats 2000000 in
theorem pattrtwice_any (a : Option Addr) (n c : Nat) (l : List AtV) (w : World) (R : Ats w a n l) (hn : n ≤ 100000) (hz : ∀ A ∈ l, A.n.size ≤ 9223372036854775807) :
  Calls Tryz.prog 94 #[.slice a n c] w fun e w' => e = .returned (.bool (twice (l.map AtV.at) n)) ∧ w.grownBy w' none := by
 have HI : Hid _ := And.intro R hz
 clear R hz
 have hmm := run_makeMapN Tryz.underlying174 n w
 have H0 : Hid _ := SetK.made w (l.map AtV.at)
 have G0 : Hid _ := World.grownBy_alloc w (.map #[] 0) none
 go_enter Tryz.func94, Tryz.ntmps94
 go_wp2_with fail
 clear hmm
 generalize hB : w.heap.size = B at *
 have HB : Hid _ := hB
 clear hB
 go_loopw [11] (fun vi wr => ∃ (k : Nat), k ≤ n ∧ vi = .int .i64 k ∧ Hid (SetK wr B k (l.map AtV.at)) ∧ Hid (w.grownBy wr none)) (fun vi _ => n - (intOf vi).toNat)
 case atStart => exact ⟨0, Nat.zero_le _, rfl, H0, G0.out⟩
 case round =>
  clear H0 G0
  obtain ⟨k, hk, rfl, HM, HG⟩ := hrel
  by_cases hlt : k < n
  ·obtain ⟨Y, hY⟩ : ∃ Y, l[k]? = some Y := ⟨_, List.getElem?_eq_getElem (by have := HI.out.1.len_eq; omega)⟩
   obtain ⟨b, off, rfl, hat⟩ := (HI.out.1.grown HG.out).at_ (by omega)
   obtain ⟨y0, y1, yr, yc⟩ := hat k Y hY
   have hps : Y.n.size ≤ 9223372036854775807 := HI.out.2 Y (List.mem_of_getElem? hY)
   have HX : Hid ((l.map AtV.at)[k]? = some Y.at ∧ Y.at.n = Y.n.toList) := by
    show _ ∧ _
    rw [List.getElem?_map, hY]
    exact ⟨rfl, rfl⟩
   clear hat yr yc hY
   obtain ⟨nm, va, vl, vc, vv⟩ := Y
   simp only at y0 y1 hps HX
   have hlti : (k : Int) < (n : Int) := by omega
   go_wp2_with ((at_mapUpdate; refine wpList_storeS rfl _ rfl _ _ _ 174 rfl 175 Tryz.underlying174 B k _ rfl (HM.out.kept (World.grownBy_alloc _ _ none) (by simp)) (by unfold maxLen; omega) nm _ rfl HX.out.1 HX.out.2 hps ?_; intro W1 HM1 HG1))
   exact ⟨⟨k + 1, by omega, by go_num, HM1, grown_new (grown_trans HG.out (World.grownBy_alloc _ _ none)) HG1.out (by rw [HB.out]; exact Nat.le_refl _)⟩, by simp [intOf]; omega⟩
  ·have hlti : ¬ (k : Int) < (n : Int) := by omega
   obtain rfl : k = n := by omega
   obtain ⟨D, ho, hr, ht⟩ := HM.out
   have HT : Hid _ := ht
   clear hr ht HM
   have hl := fun ty => ho.len Tryz.underlying174 ty
   clear ho
   go_wp2_with fail
   go_ret
   exact ⟨by rw [HT.out]; simp, HG.out⟩
set_option maxHeartbeats 2000000 in
theorem pattrsfit_any (a : Option Addr) (n c : Nat) (l : List AtV) (w : World) (R : Ats w a n l) (hz : ∀ A ∈ l, A.n.size ≤ 9223372036854775807) :
  Calls Tryz.prog 93 #[.slice a n c] w fun e w' => e = .returned (.bool (!decide (64 < n) && (l.map AtV.at).all atFit)) ∧ w.grownBy w' none := by
 have hle : n ≤ 9223372036854775807 := R.le
 by_cases h64 : 64 < n
 ·have h64i : (64 : Int) < n := by omega
  rw [decide_eq_true h64]
  clear R
  go_enter Tryz.func93, Tryz.ntmps93
  go_wp2_with fail
  go_ret
  exact ⟨by simp, World.grownBy.refl _ _⟩
 ·have h64i : ¬ (64 : Int) < n := by omega
  rw [decide_eq_false h64]
  have hta : (l.map AtV.at).take n = l.map AtV.at := List.take_of_length_le (by rw [List.length_map, R.len_eq]; omega)
  have HI : Hid _ := And.intro R (And.intro hz hta)
  clear R hz hta
  generalize hA : (!false && (l.map AtV.at).all atFit) = A
  have HA : Hid _ := hA
  clear hA
  go_enter Tryz.func93, Tryz.ntmps93
  go_wp2_with fail
  go_loopw [10] (fun vi wr => ∃ (k : Nat), k ≤ n ∧ vi = .int .i64 k ∧ Hid (((l.map AtV.at).take k).all atFit = true) ∧ Hid (w.grownBy wr none)) (fun vi _ => n - (intOf vi).toNat)
  case atStart => exact ⟨0, Nat.zero_le _, rfl, rfl, World.grownBy.refl _ _⟩
  case round =>
   obtain ⟨k, hk, rfl, HM, HG⟩ := hrel
   by_cases hlt : k < n
   ·obtain ⟨Y, hY⟩ : ∃ Y, l[k]? = some Y := ⟨_, List.getElem?_eq_getElem (by have := HI.out.1.len_eq; omega)⟩
    obtain ⟨b, off, rfl, hat⟩ := (HI.out.1.grown HG.out).at_ (by omega)
    obtain ⟨y0, y1, yr, yc⟩ := hat k Y hY
    have hps : Y.n.size ≤ 9223372036854775807 := HI.out.2.1 Y (List.mem_of_getElem? hY)
    have hvl := yr.le
    have hsn : ((l.map AtV.at).take (k + 1)).all atFit = (txt Y.n.toList 1 255 && !decide (4096 < Y.len)) := by
     have hlt2 : k < (l.map AtV.at).length := by rw [List.length_map, HI.out.1.len_eq]; exact hlt
     rw [List.take_succ_eq_append_getElem hlt2, List.all_append, HM.out]
     have e : (l.map AtV.at)[k] = Y.at := by
      have := List.getElem?_eq_getElem hlt2
      rw [List.getElem?_map, hY] at this
      injection this with this
      exact this.symm
     rw [e]
     simp [atFit, AtV.at, yr.len_eq]
    have hbad : (txt Y.n.toList 1 255 && !decide (4096 < Y.len)) = false → A = false := fun hb => by
     rw [hb] at hsn
     rw [← HA.out]
     show (l.map AtV.at).all atFit = false
     rw [← List.take_append_drop (k + 1) (l.map AtV.at), List.all_append, hsn, Bool.false_and]
    have HS : Hid _ := And.intro hsn hbad
    clear hat yr yc hY hsn hbad
    have htx := fun W => pistext_any Y.n 255 W
    obtain ⟨nm, va, vl, vc, vv⟩ := Y
    simp only at y0 y1 hps HS htx hvl
    generalize txt nm.toList 1 255 = TT at *
    have hlti : (k : Int) < (n : Int) := by omega
    have hvl2 : vl ≤ 9223372036854775807 := hvl
    clear hvl
    cases TT with
    | false =>
     go_wp2_with (go_at_call 114; refine (htx _ hps).mono ?_; rintro e w' ⟨rfl, rfl⟩)
     go_ret
     exact ⟨by rw [HS.out.2 rfl]; rfl, grown_trans HG.out (World.grownBy_alloc _ _ none)⟩
    | true =>
     by_cases hv : 4096 < vl
     ·have hvi : (4096 : Int) < vl := by omega
      have HV : Hid (A = false) := HS.out.2 (by rw [decide_eq_true hv]; rfl)
      clear HS hv
      go_wp2_with (go_at_call 114; refine (htx _ hps).mono ?_; rintro e w' ⟨rfl, rfl⟩)
      go_ret
      exact ⟨by rw [HV.out]; rfl, grown_trans HG.out (World.grownBy_alloc _ _ none)⟩
     ·have hvi : ¬ (4096 : Int) < vl := by omega
      have HV : Hid (((l.map AtV.at).take (k + 1)).all atFit = true) := by
       show _ = _
       rw [HS.out.1, decide_eq_false hv]; rfl
      clear HS hv
      go_wp2_with (go_at_call 114; refine (htx _ hps).mono ?_; rintro e w' ⟨rfl, rfl⟩)
      exact ⟨⟨k + 1, by omega, by go_num, HV, grown_trans HG.out (World.grownBy_alloc _ _ none)⟩, by simp [intOf]; omega⟩
   ·have hlti : ¬ (k : Int) < (n : Int) := by omega
    obtain rfl : k = n := by omega
    have HV : Hid (A = true) := by
     show A = true
     rw [← HA.out]
     have := HM.out
     rw [HI.out.2.2] at this
     rw [this]; rfl
    go_wp2_with fail
    go_ret
    exact ⟨by rw [HV.out]; rfl, HG.out⟩
set_option maxHeartbeats 4000000 in
theorem pfieldsfit_any (X : EnV) (w : World) (hd : X.data.length = X.dl) (hdl : X.dl ≤ 9223372036854775807) (ht : X.target.size ≤ 9223372036854775807) : Calls Tryz.prog 92 #[X.val] w fun e w' => e = .returned (.bool (fldF X.en)) ∧ w.grownBy w' none := by
 obtain ⟨path, K, mode, uid, gid, time, size, da, dl, dc, data, target, dev, aa, al, ac, attrs⟩ := X
 simp only [EnV.val]
 simp only at hd hdl ht
 have HF : Hid (fldF (EnV.en ⟨path, K, mode, uid, gid, time, size, da, dl, dc, data, target, dev, aa, al, ac, attrs⟩) = (inI mode 0 4095 && (inI uid 0 4294967295 && (inI gid 0 4294967295 && (inI time 0 4294967295 && (if K = 1 then inI size dl 1099511627775 else if K = 3 then txt target.toList 1 4096 else if K = 4 ∨ K = 5 then inI dev 0 4294967295 else true)))))) := by
  show _ = _
  unfold fldF EnV.en
  simp only [hd]
 generalize fldF (EnV.en ⟨path, K, mode, uid, gid, time, size, da, dl, dc, data, target, dev, aa, al, ac, attrs⟩) = A at *
 clear hd
 have hup := fun n m W => pupto_any n m W
 have htx := fun W => pistext_any target 4096 W ht
 have G0 : Hid _ := World.grownBy_alloc w (.cells #[.string path, .int .i64 K, .int .i64 mode, .int .i64 uid, .int .i64 gid, .int .i64 time, .int .i64 size, .slice da dl dc, .string target, .int .i64 dev, .slice aa al ac] 30) none
 cases h0 : inI mode 0 4095 with
 | false =>
  rw [h0] at HF
  go_enter Tryz.func92, Tryz.ntmps92
  go_wp2_with (first | (go_at_call 113; refine (hup _ _ _).mono ?_; rintro e w' ⟨rfl, rfl⟩) | (go_at_call 114; refine (htx _).mono ?_; rintro e w' ⟨rfl, rfl⟩))
  go_ret
  exact ⟨by rw [HF.out]; rfl, G0.out⟩
 | true =>
  rw [h0] at HF
  cases h1 : inI uid 0 4294967295 with
  | false =>
   rw [h1] at HF
   go_enter Tryz.func92, Tryz.ntmps92
   go_wp2_with (first | (go_at_call 113; refine (hup _ _ _).mono ?_; rintro e w' ⟨rfl, rfl⟩) | (go_at_call 114; refine (htx _).mono ?_; rintro e w' ⟨rfl, rfl⟩))
   go_ret
   exact ⟨by rw [HF.out]; simp, G0.out⟩
  | true =>
   rw [h1] at HF
   cases h2 : inI gid 0 4294967295 with
   | false =>
    rw [h2] at HF
    go_enter Tryz.func92, Tryz.ntmps92
    go_wp2_with (first | (go_at_call 113; refine (hup _ _ _).mono ?_; rintro e w' ⟨rfl, rfl⟩) | (go_at_call 114; refine (htx _).mono ?_; rintro e w' ⟨rfl, rfl⟩))
    go_ret
    exact ⟨by rw [HF.out]; simp, G0.out⟩
   | true =>
    rw [h2] at HF
    cases h3 : inI time 0 4294967295 with
    | false =>
     rw [h3] at HF
     go_enter Tryz.func92, Tryz.ntmps92
     go_wp2_with (first | (go_at_call 113; refine (hup _ _ _).mono ?_; rintro e w' ⟨rfl, rfl⟩) | (go_at_call 114; refine (htx _).mono ?_; rintro e w' ⟨rfl, rfl⟩))
     go_ret
     exact ⟨by rw [HF.out]; simp, G0.out⟩
    | true =>
     rw [h3] at HF
     by_cases k1 : K = 1
     ·subst k1
      rw [if_pos rfl] at HF
      have he : inI size dl 1099511627775 = (decide ((dl : Int) ≤ size) && decide (size < 1099511627776)) := by
       unfold inI
       congr 1
       simp only [decide_eq_decide]
       omega
      rw [he] at HF
      by_cases c1 : (dl : Int) ≤ size
      ·rw [decide_eq_true c1] at HF
       go_enter Tryz.func92, Tryz.ntmps92
       go_wp2_with (first | (go_at_call 113; refine (hup _ _ _).mono ?_; rintro e w' ⟨rfl, rfl⟩) | (go_at_call 114; refine (htx _).mono ?_; rintro e w' ⟨rfl, rfl⟩))
       go_ret
       exact ⟨by rw [HF.out]; simp, G0.out⟩
      ·rw [decide_eq_false c1] at HF
       go_enter Tryz.func92, Tryz.ntmps92
       go_wp2_with (first | (go_at_call 113; refine (hup _ _ _).mono ?_; rintro e w' ⟨rfl, rfl⟩) | (go_at_call 114; refine (htx _).mono ?_; rintro e w' ⟨rfl, rfl⟩))
       go_ret
       exact ⟨by rw [HF.out]; simp, G0.out⟩
     ·rw [if_neg k1] at HF
      have b1 : (K == 1) = false := by rw [beq_eq_false_iff_ne]; exact k1
      by_cases k3 : K = 3
      ·subst k3
       rw [if_pos rfl] at HF
       go_enter Tryz.func92, Tryz.ntmps92
       go_wp2_with (first | (go_at_call 113; refine (hup _ _ _).mono ?_; rintro e w' ⟨rfl, rfl⟩) | (go_at_call 114; refine (htx _).mono ?_; rintro e w' ⟨rfl, rfl⟩))
       go_ret
       exact ⟨by rw [HF.out]; simp, G0.out⟩
      ·rw [if_neg k3] at HF
       have b3 : (K == 3) = false := by rw [beq_eq_false_iff_ne]; exact k3
       by_cases k4 : K = 4
       ·subst k4
        rw [if_pos (Or.inl rfl)] at HF
        go_enter Tryz.func92, Tryz.ntmps92
        go_wp2_with (first | (go_at_call 113; refine (hup _ _ _).mono ?_; rintro e w' ⟨rfl, rfl⟩) | (go_at_call 114; refine (htx _).mono ?_; rintro e w' ⟨rfl, rfl⟩))
        go_ret
        exact ⟨by rw [HF.out]; simp, G0.out⟩
       ·have b4 : (K == 4) = false := by rw [beq_eq_false_iff_ne]; exact k4
        by_cases k5 : K = 5
        ·subst k5
         rw [if_pos (Or.inr rfl)] at HF
         go_enter Tryz.func92, Tryz.ntmps92
         go_wp2_with (first | (go_at_call 113; refine (hup _ _ _).mono ?_; rintro e w' ⟨rfl, rfl⟩) | (go_at_call 114; refine (htx _).mono ?_; rintro e w' ⟨rfl, rfl⟩))
         go_ret
         exact ⟨by rw [HF.out]; simp, G0.out⟩
        ·have b5 : (K == 5) = false := by rw [beq_eq_false_iff_ne]; exact k5
         rw [if_neg (by rintro (h | h); exact k4 h; exact k5 h)] at HF
         go_enter Tryz.func92, Tryz.ntmps92
         go_wp2_with (first | (go_at_call 113; refine (hup _ _ _).mono ?_; rintro e w' ⟨rfl, rfl⟩) | (go_at_call 114; refine (htx _).mono ?_; rintro e w' ⟨rfl, rfl⟩))
         go_ret
         exact ⟨by rw [HF.out]; simp, G0.out⟩
theorem field_pl0 (F : Int) (D T : Bool) (w : World) : (Instr.field 116 (.agg #[.int .i64 F, .bool D, .bool T]) 0).run Tryz.prog w = .ok (.int .i64 F) w := by kernel_rfl
theorem field_pl1 (F : Int) (D T : Bool) (w : World) : (Instr.field 116 (.agg #[.int .i64 F, .bool D, .bool T]) 1).run Tryz.prog w = .ok (.bool D) w := by kernel_rfl
theorem field_pl2 (F : Int) (D T : Bool) (w : World) : (Instr.field 116 (.agg #[.int .i64 F, .bool D, .bool T]) 2).run Tryz.prog w = .ok (.bool T) w := by kernel_rfl
theorem phardfault_any (X : EnV) (w : World) (b n : Nat) (l : List En) (M : MapF w 9 b n (plK l)) (ht : X.target.size ≤ 9223372036854775807) : Calls Tryz.prog 91 #[X.val, .map (some b)] w fun e w' => e = .returned (.int .i64 (if thing l X.target.toList then 0 else 4)) ∧ w.grownBy w' none := by
 obtain ⟨path, K, mode, uid, gid, time, size, da, dl, dc, data, target, dev, aa, al, ac, attrs⟩ := X
 simp only [EnV.val]
 simp only at ht
 have G0 : Hid _ := World.grownBy_alloc w (.cells #[.string path, .int .i64 K, .int .i64 mode, .int .i64 uid, .int .i64 gid, .int .i64 time, .int .i64 size, .slice da dl dc, .string target, .int .i64 dev, .slice aa al ac] 30) none
 have hl := look57 (M.kept G0.out (by simp)) ht
 have hf := field_pl2
 clear M
 generalize plF l target.toList = PF at *
 generalize folder l target.toList = PD at *
 cases hT : thing l target.toList with
 | true =>
  rw [hT] at hl
  go_enter Tryz.func91, Tryz.ntmps91
  go_wp2_with fail
  go_ret
  exact ⟨rfl, G0.out⟩
 | false =>
  rw [hT] at hl
  go_enter Tryz.func91, Tryz.ntmps91
  go_wp2_with fail
  go_ret
  exact ⟨rfl, G0.out⟩
end Go.Proofs.YtlehncfehoelbaaGreatDoor
namespace Go.Proofs.YtlehncfehoelbaaGreatDoor
open Go.RowKit
set_option maxRecDepth 100000
set_option linter.unusedSimpArgs false
set_option linter.unusedVariables false
theorem Tryz.infoE : (Tryz.prog.info? 30).map (fun i => (i.zero, i.size, i.bytes)) = some (some (.agg #[.string ⟨#[]⟩, .int .i64 0, .int .i64 0, .int .i64 0, .int .i64 0, .int .i64 0, .int .i64 0, .slice none 0 0, .string ⟨#[]⟩, .int .i64 0, .slice none 0 0]), 11, 136) := by kernel_rfl
theorem run_zeros_nilE {P : Program} (w : World) (t k ty e : TypeId) (i : TypeInfo) (z : Value) (ht : P.underlying t = some (.slice e)) (hk : P.underlying k = some (.int .i64)) (hi : P.info? e = some i) (hz : i.zero = some z) (hs : i.size = 11) (hb : i.bytes = 136)
  (m : Nat) (hm : m ≤ 1000000) (h0 : ¬ m = 0) :
  (Builtin.append_ #[t, k] ty #[.slice none 0 0, .int .i64 m]).run P w =
   .ok (.slice (some ⟨w.heap.size, 0, none⟩) m (grownCap w m 0 e)) (w.drew.alloc (.cells (Builtin.zeroCells z.cells m ++ Builtin.zeroCells z.cells (grownCap w m 0 e - m)) e)) := by
 have wl : IntKind.i64.wrap (m : Int) = m := by rw [IntKind.wrap_i64]; omega
 have n1 : ¬ (m : Int) < 0 := by omega
 have n2 : ¬ (281474976710656 < (m : Int) * 136) := by omega
 have h63' : ¬ (9223372036854775807 < (m : Int)) := by omega
 have h48' : ¬ (281474976710656 < Builtin.nextslicecap m 0 * 136) := by rw [nextslicecap_zero (by omega)]; omega
 simp [Builtin.append_, run_underlying ht, run_underlying hk, sizeOf, typeInfo, zeroValue, hi, hz, hs, hb, asInt, asIntOf, wl, n1, n2, h0, h63', h48', Question.forced, run_firstCells_none, newRow, grownCap]
 intro h
 omega
theorem app_here {P : Program} {w : World} {ops : Array Oper} {rest : List Oper} {a : Act} {Q : Exit → Act → World → Prop} {dst : Option Nat} {as_ : Array Operand} {ts : Array TypeId} {type : TypeId} {pos : String} {after : Array Edge} {guard : Option (Nat × Bool)}
  (h : wpList P ops Q (⟨dst, .call ⟨.builtin .append, as_, ts⟩, type, pos, after, guard⟩ :: rest) a w) : wpList P ops Q (⟨dst, .call ⟨.builtin .append, as_, ts⟩, type, pos, after, guard⟩ :: rest) a w := h
theorem wpList_appR {P : Program} {ops : Array Oper} {rest : List Oper} {o : Oper} {a : Act} {w w' : World} {Q : Exit → Act → World → Prop} (hgd : o.guard = none) (s x : Operand) (t k : TypeId) (ho : o.op = .call { callee := .builtin .append, args := #[s, x], argTypes := #[t, k] })
  (v u v' : Value) (hs : a.eval s = v) (hx : a.eval x = u) (hrun : (Builtin.append_ #[t, k] o.type #[v, u]).run P w = .ok v' w') (h : wpList P ops Q rest (a.put o.dst v') w') : wpList P ops Q (o :: rest) a w := by
 refine wpList_plain hgd fun K hK => ?_
 unfold Oper.wp execOp
 simp only [ho, resolve, invoke, builtin, Sem.run_bind, Sem.run_pure, Result.andThen_ok, List.map_toArray, List.map_cons, List.map_nil, hs, hx, hrun]
 exact hK _ _ h
set_option maxHeartbeats 2000000 in
theorem pgrow_any (n : Nat) (w : World) (h1 : 1 ≤ n) (hn : n ≤ 1000000) :
  Calls Tryz.prog 105 #[.slice none 0 0, .int .i64 n] w fun e w' => ∃ c, e = .returned (.slice (some ⟨w.heap.size, 0, none⟩) 0 c) ∧ n ≤ c ∧ w'.ownsRow w.heap.size 30 11 (.slice (some ⟨w.heap.size, 0, none⟩) 0 c) 0 [] ∧ w.grownBy w' none := by
 obtain ⟨i, hi, hz0, hz1, hz2⟩ := info_parts Tryz.infoE
 have hrun := run_zeros_nilE (P := Tryz.prog) w 22 3 22 30 i _ Tryz.underlying22 Tryz.underlying3 hi hz0 hz1 hz2 n hn (by omega)
 have hge := grownCap_ge w n 0 30
 have hcm := grownCap_le_maxLen w n 0 30 (by unfold maxLen; omega)
 have HO : Hid (((w.drew.alloc (.cells (Builtin.zeroCells (Value.agg #[.string ⟨#[]⟩, .int .i64 0, .int .i64 0, .int .i64 0, .int .i64 0, .int .i64 0, .int .i64 0, .slice none 0 0, .string ⟨#[]⟩, .int .i64 0, .slice none 0 0]).cells n ++ Builtin.zeroCells (Value.agg #[.string ⟨#[]⟩, .int .i64 0, .int .i64 0, .int .i64 0, .int .i64 0, .int .i64 0, .int .i64 0, .slice none 0 0, .string ⟨#[]⟩, .int .i64 0, .slice none 0 0]).cells (grownCap w n 0 30 - n)) 30)).ownsRow w.heap.size 30 11 (.slice (some ⟨w.heap.size, 0, none⟩) 0 (grownCap w n 0 30)) 0 []) ∧ n ≤ grownCap w n 0 30) := by
  refine ⟨⟨rfl, .inr ⟨w.heap.size, _, _, rfl, Nat.le_refl _, heap_alloc_new w.drew _, Nat.zero_le _, hcm, ?_, by simp⟩⟩, hge⟩
  rw [Array.size_append, size_zeroCells, size_zeroCells]
  simp [Value.cells]
  omega
 have HG : Hid (w.grownBy (w.drew.alloc (.cells (Builtin.zeroCells (Value.agg #[.string ⟨#[]⟩, .int .i64 0, .int .i64 0, .int .i64 0, .int .i64 0, .int .i64 0, .int .i64 0, .slice none 0 0, .string ⟨#[]⟩, .int .i64 0, .slice none 0 0]).cells n ++ Builtin.zeroCells (Value.agg #[.string ⟨#[]⟩, .int .i64 0, .int .i64 0, .int .i64 0, .int .i64 0, .int .i64 0, .int .i64 0, .slice none 0 0, .string ⟨#[]⟩, .int .i64 0, .slice none 0 0]).cells (grownCap w n 0 30 - n)) 30)) none) := ⟨rfl, rfl, rfl, by simp, fun j hj _ => Below.heap_alloc w.drew _ j hj⟩
 generalize (w.drew.alloc (.cells (Builtin.zeroCells (Value.agg #[.string ⟨#[]⟩, .int .i64 0, .int .i64 0, .int .i64 0, .int .i64 0, .int .i64 0, .int .i64 0, .slice none 0 0, .string ⟨#[]⟩, .int .i64 0, .slice none 0 0]).cells n ++ Builtin.zeroCells (Value.agg #[.string ⟨#[]⟩, .int .i64 0, .int .i64 0, .int .i64 0, .int .i64 0, .int .i64 0, .int .i64 0, .slice none 0 0, .string ⟨#[]⟩, .int .i64 0, .slice none 0 0]).cells (grownCap w n 0 30 - n)) 30)) = W1 at *
 generalize grownCap w n 0 30 = c at *
 have hni : (0 : Int) < n := by omega
 clear hi hz0 hz1 hz2
 go_enter Tryz.func105, Tryz.ntmps105
 have HR : Hid _ := hrun
 clear hrun
 go_wp2_with ((with_reducible refine app_here ?_); refine wpList_appR rfl _ _ 22 3 rfl _ _ _ rfl rfl HR.out ?_)
 go_ret
 exact ⟨c, rfl, HO.out.2, HO.out.1, HG.out⟩
end Go.Proofs.YtlehncfehoelbaaGreatDoor
