/- Attributes' names: the program's and the document's. Bytes of files read: the document's. Attributes' values: the program's and the document's. The program's walks, where nothing is wrong. -/
import Derived.Test.YtaclbaapfllcoaaGreatDoorB10
import Derived.Test.YtaclbaapfllcoaaGreatDoorB14
import Derived.Test.YtaclbaapfllcoaaGreatDoorB19
import Derived.Test.YtaclbaapfllcoaaGreatDoorB21
import Derived.Test.YtaclbaapfllcoaaGreatDoorB33
namespace Go.Proofs.YtaclbaapfllcoaaGreatDoor
open Go.RowKit
set_option maxRecDepth 100000
set_option linter.unusedSimpArgs false
set_option linter.unusedVariables false
/-- what Names answers -/
def nmA (ns : List NoV) (i : Int) : List ByteArray := if knd (nos ns) i 0 = 0 then (((ns[i.toNat]?).map (fun X => X.attrs.map AtV.n)).getD []) else []
def NmPost (w : World) (L : List ByteArray) (E : Int) (e : Ending) (w' : World) : Prop := ∃ (a : Option Addr) (n c : Nat), e = .returned (.tuple #[.slice a n c, .int .i64 E]) ∧ SRow w' a n L ∧ n ≤ 100000 ∧ w.grownBy w' none
theorem nmA_at {ns : List NoV} {j : Nat} {X : NoV} (hX : ns[j]? = some X) (h : knd (nos ns) j 0 = 0) : nmA ns j = X.attrs.map AtV.n := by
 unfold nmA
 rw [if_pos h, Int.toNat_natCast, hX]
 rfl
theorem names_snoc {l : List AtV} {nm : List ByteArray} (hn : l.map AtV.n = nm) {k : Nat} {A : AtV} (h : l[k]? = some A) : nm.take (k + 1) = nm.take k ++ [A.n] := by
 rw [← hn, List.take_add_one, List.getElem?_map, h]
 rfl
theorem cell_two_new (w : World) (o : Obj) (t : TypeId) (s : ByteArray) : ∀ j u, (sv [s])[j]? = some u → ((w.alloc o).alloc (.cells #[.string s] t)).cell? ((⟨w.heap.size + 1, 0, none⟩ : Addr).add j) = some u := by
 intro j u h
 have e : (w.alloc o).heap.size = w.heap.size + 1 := by simp
 rw [← e]
 exact cell_one_newV (w.alloc o) t (.string s) j u h
set_option maxHeartbeats 8000000 in
theorem pnames_any (w : World) (mb : Nat) (a : Option Addr) (n c mp : Nat) (ns : List NoV) (h : Md w mb a n c mp ns) (i : Int) (hal : ∀ X ∈ ns, X.al ≤ 100000) :
  Calls Tryz.prog 33 #[.pointer (some ⟨mb, 0, none⟩), .int .i64 i] w (NmPost w (nmA ns i) (knd (nos ns) i 0)) := by
 have hok := pnode12_any w mb a n c (.map (some mp)) ns h.box h.nos i
 have HM : Hid _ := And.intro h hal
 clear h hal
 obtain ⟨R, hR⟩ : ∃ R, R = nmA ns i := ⟨_, rfl⟩
 rw [← hR]
 have HR : Hid _ := hR
 clear hR
 obtain ⟨i9, hi, hz0, hz1, hz2⟩ := info_parts Tryz.info9
 go_enter Tryz.func33, Tryz.ntmps33
 go_wp2_with fail
 refine hok.mono ?_
 clear hok
 rintro e W0 ⟨X, rfl, h0, h1, g0⟩
 have hats : Ats W0 X.aa X.al X.attrs ∧ X.al ≤ 100000 ∧ X.attrs.map AtV.n = R := by
  by_cases hz : knd (nos ns) i 0 = 0
  ·obtain ⟨hi0, hX⟩ := h0 hz
   obtain ⟨j, rfl⟩ : ∃ j : Nat, i = (j : Int) := ⟨i.toNat, by omega⟩
   rw [Int.toNat_natCast] at hX
   have hj := (List.getElem?_eq_some_iff.1 hX).1
   obtain ⟨b, o, -, k⟩ := HM.out.1.nos.at_ (by rw [← HM.out.1.nos.len_eq]; omega)
   exact ⟨(k j X hX).ok.ats.grown g0, HM.out.2 X (List.mem_of_getElem? hX), by rw [HR.out, nmA_at hX hz]⟩
  ·rw [h1 hz, HR.out]
   refine ⟨⟨rfl, Nat.zero_le _, fun h => absurd h (Nat.lt_irrefl 0)⟩, Nat.zero_le _, ?_⟩
   unfold nmA
   rw [if_neg hz]
   rfl
 generalize knd (nos ns) i 0 = E at *
 have HG0 : Hid _ := g0
 clear g0 h0 h1 HM HR
 obtain ⟨NK, mode, uid, gid, time, size, da, dl, dc, data, target, dev, aa, al, ac, attrs, ka, kl, kc, kids, parent, links⟩ := X
 simp only [NoV.val]
 simp only at hats
 obtain ⟨hat, hal, hRR⟩ := hats
 have gB := World.grownBy_alloc W0 (.cells #[.int .i64 NK, .int .i64 mode, .int .i64 uid, .int .i64 gid, .int .i64 time, .int .i64 size, .slice da dl dc, .string target, .int .i64 dev, .slice aa al ac, .slice ka kl kc, .int .i64 parent, .int .i64 links] 43) none
 have bB := Bx.new W0 43 [.int .i64 NK, .int .i64 mode, .int .i64 uid, .int .i64 gid, .int .i64 time, .int .i64 size, .slice da dl dc, .string target, .int .i64 dev, .slice aa al ac, .slice ka kl kc, .int .i64 parent, .int .i64 links]
 have v9 : _ = some _ := bB.c 9
 have HA : Hid _ := And.intro (hat.grown gB) (And.intro (grown_trans HG0.out gB) (And.intro hRR hat.len_eq))
 clear gB bB HG0 hat hRR
 go_wp2_with fail
 generalize hWB : W0.alloc (.cells #[.int .i64 NK, .int .i64 mode, .int .i64 uid, .int .i64 gid, .int .i64 time, .int .i64 size, .slice da dl dc, .string target, .int .i64 dev, .slice aa al ac, .slice ka kl kc, .int .i64 parent, .int .i64 links] 43) = WB at *
 clear hWB v9
 generalize W0.heap.size = gb at *
 go_loopw [8, 20] (fun v8 v20 wr => ∃ (k : Nat) (va : Option Addr) (vc : Nat), k ≤ al ∧ v20 = .int .i64 k ∧ v8 = .slice va k vc ∧ Hid (wr.ownsRow WB.heap.size 9 1 (.slice va k vc) k (sv (R.take k)) ∧ WB.grownBy wr none)) (fun _ v20 _ => al - (intOf v20).toNat)
 case atStart => exact ⟨0, none, 0, Nat.zero_le _, rfl, rfl, by rw [List.take_zero]; exact World.ownsRow_nil _ _ _ _, World.grownBy.refl _ _⟩
 case round =>
  obtain ⟨k, va, vc, hk, rfl, rfl, HK⟩ := hrel
  by_cases hlt : k < al
  ·obtain ⟨b2, o2, rfl, hat2⟩ := HA.out.1.at_ (by omega)
   obtain ⟨A, hA⟩ : ∃ A, attrs[k]? = some A := ⟨_, List.getElem?_eq_getElem (by have := HA.out.2.2.2; omega)⟩
   have z := (hat2 k A hA).grown HK.out.2
   have y0 := z.c0
   have y1 := z.c1
   have hsn := names_snoc HA.out.2.2.1 hA
   obtain ⟨An, Aa, Al, Ac, Av⟩ := A
   simp only at y0 y1 hsn
   have HSN : Hid _ := hsn
   clear hat2 z hsn hA
   have gC := World.grownBy_alloc wr (.cells #[.string An, .slice Aa Al Ac] 45) none
   have bC := Bx.new wr 45 [.string An, .slice Aa Al Ac]
   have s0 : _ = some _ := bC.c 0
   have HC : Hid _ := And.intro (HK.out.1.alloc (.cells #[.string An, .slice Aa Al Ac] 45)) (grown_trans HK.out.2 gC)
   clear gC bC HK
   have hlti : (k : Int) < (al : Int) := by omega
   go_wp2_with (at_builtin; (refine wpList_append_own _ rfl _ _ 77 rfl WB.heap.size 9 i9 (.string ⟨#[]⟩) 1 16 Tryz.underlying77 hi hz0 hz1 hz2 rfl (by decide) _ k _ rfl (HC.out.1.alloc _) ⟨wr.heap.size + 1, 0, none⟩ 1 1 (sv [An]) rfl rfl ?c1 (sv_one _) ?c3 ?c4 ?c5 ?_))
   case c1 => exact cell_two_new _ _ _ _
   case c3 => unfold maxLen; omega
   case c4 => omega
   case c5 => have := HC.out.2.size; simp at this ⊢; omega
   ·intro v2 w2 own2 grow2 _
    obtain ⟨a2, c2, rfl⟩ := own_shape own2
    have G2 : WB.grownBy w2 none := grown_own (grown_trans HC.out.2 (World.grownBy_alloc _ _ none)) (HC.out.1.alloc _) grow2 (Nat.le_refl _)
    rw [← sv_app, ← HSN.out] at own2
    have H2 : Hid _ := And.intro own2 G2
    clear own2 grow2 G2 HC s0 y0 y1
    go_wp2
    rw [show ((k : Int) + 1) = ((k + 1 : Nat) : Int) by omega]
    refine ⟨⟨k + 1, a2, c2, hlt, rfl, rfl, H2⟩, ?_⟩
    simp only [intOf, Int.toNat_natCast]
    exact Nat.sub_lt_sub_left hlt (Nat.lt_succ_self k)
  ·obtain rfl : k = al := by omega
   have hlti : ¬ (k : Int) < (k : Int) := by omega
   have hall : R.take k = R := List.take_of_length_le (by rw [← HA.out.2.2.1, List.length_map]; have := HA.out.2.2.2; omega)
   rw [hall] at HK
   have HALL : Hid _ := HK.out
   clear hall HK
   go_wp2
   go_ret2
   obtain ⟨a', c', e, hr, -, -⟩ := owns_srow HALL.out.1
   injection e with e1 e2 e3
   subst e1
   exact ⟨va, k, vc, rfl, hr, hal, grown_trans HA.out.2.1 HALL.out.2⟩
set_option maxHeartbeats 8000000 in
theorem rnames_any (w : World) (a : Option Addr) (n c : Nat) (ns : List NoV) (hN : Nos w a n ns) (i : Int) (hal : ∀ X ∈ ns, X.al ≤ 100000) :
  Calls Tryz.prog 34 #[.agg #[.slice a n c], .int .i64 i] w (NmPost w (nmA ns i) (knd (nos ns) i 0)) := by
 have gA := World.grownBy_alloc w (.cells #[.slice a n c] 33) none
 have bA := Bx.new w 33 [.slice a n c]
 have hok := rkind_any _ a n c ns (hN.grown gA) i 0
 have t0 : _ = some _ := bA.c 0
 have HM : Hid _ := And.intro (hN.grown gA) (And.intro bA (And.intro gA hal))
 clear hN bA gA hal
 obtain ⟨R, hR⟩ : ∃ R, R = nmA ns i := ⟨_, rfl⟩
 rw [← hR]
 have HR : Hid _ := hR
 clear hR
 obtain ⟨E, hE⟩ : ∃ E, E = knd (nos ns) i 0 := ⟨_, rfl⟩
 rw [← hE]
 have HEE : Hid _ := hE
 clear hE
 obtain ⟨i9, hi, hz0, hz1, hz2⟩ := info_parts Tryz.info9
 go_enter Tryz.func34, Tryz.ntmps34
 go_wp2_with fail
 generalize hWA : w.alloc (.cells #[.slice a n c] 33) = WA at *
 clear hWA
 refine hok.mono ?_
 clear hok
 rintro e WB ⟨rfl, g1⟩
 have HG1 : Hid _ := And.intro (grown_trans HM.out.2.2.1 g1) (And.intro (HM.out.1.grown g1) (And.intro (HM.out.2.1.kept g1) HM.out.2.2.2))
 clear g1 HM t0
 have t0 : _ = some _ := HG1.out.2.2.1.c 0
 by_cases hz : knd (nos ns) i 0 = 0
 ·obtain ⟨j, X, rfl, hX, -⟩ := knd_zero hz
  rw [hz]
  have HE0 : Hid (E = 0) := HEE.out.trans hz
  clear HEE
  have hRR : X.attrs.map AtV.n = R := by rw [HR.out, nmA_at hX hz]
  have hj : j < n := by rw [← HG1.out.2.1.len_eq]; exact (List.getElem?_eq_some_iff.1 hX).1
  have hle := HG1.out.2.1.le
  have hal := HG1.out.2.2.2 X (List.mem_of_getElem? hX)
  obtain ⟨b, o0, rfl, hat⟩ := HG1.out.2.1.at_ (by omega)
  have y9 := (hat j X hX).c9
  have hats := (hat j X hX).ok.ats
  obtain ⟨NK, mode, uid, gid, time, size, da, dl, dc, data, target, dev, aa, al, ac, attrs, ka, kl, kc, kids, parent, links⟩ := X
  simp only at y9 hats hal hRR
  have h2 : (j : Int) < (n : Int) := by omega
  have HA : Hid _ := And.intro hats (And.intro HG1.out.1 (And.intro hRR hats.len_eq))
  clear hats hRR hat hX HR HG1 hz hj hle
  go_wp2_with fail
  go_loopw [7, 9] (fun v8 v20 wr => ∃ (k : Nat) (va : Option Addr) (vc : Nat), k ≤ al ∧ v20 = .int .i64 k ∧ v8 = .slice va k vc ∧ Hid (wr.ownsRow WB.heap.size 9 1 (.slice va k vc) k (sv (R.take k)) ∧ WB.grownBy wr none)) (fun _ v20 _ => al - (intOf v20).toNat)
  case atStart => exact ⟨0, none, 0, Nat.zero_le _, rfl, rfl, by rw [List.take_zero]; exact World.ownsRow_nil _ _ _ _, World.grownBy.refl _ _⟩
  case round =>
   obtain ⟨k, va, vc, hk, rfl, rfl, HK⟩ := hrel
   by_cases hlt : k < al
   ·obtain ⟨b2, o2, rfl, hat2⟩ := HA.out.1.at_ (by omega)
    obtain ⟨A, hA⟩ : ∃ A, attrs[k]? = some A := ⟨_, List.getElem?_eq_getElem (by have := HA.out.2.2.2; omega)⟩
    have z := (hat2 k A hA).grown HK.out.2
    have y0 := z.c0
    have hsn := names_snoc HA.out.2.2.1 hA
    obtain ⟨An, Aa, Al, Ac, Av⟩ := A
    simp only at y0 hsn
    have HSN : Hid _ := hsn
    clear hat2 z hsn hA
    have hlti : (k : Int) < (al : Int) := by omega
    go_wp2_with (at_builtin; (refine wpList_append_own _ rfl _ _ 77 rfl WB.heap.size 9 i9 (.string ⟨#[]⟩) 1 16 Tryz.underlying77 hi hz0 hz1 hz2 rfl (by decide) _ k _ rfl (HK.out.1.alloc _) ⟨wr.heap.size, 0, none⟩ 1 1 (sv [An]) rfl rfl ?c1 (sv_one _) ?c3 ?c4 ?c5 ?_))
    case c1 => exact fun j u h => cell_one_newV _ _ _ j u h
    case c3 => unfold maxLen; omega
    case c4 => omega
    case c5 => have := HK.out.2.size; simp at this ⊢; omega
    ·intro v2 w2 own2 grow2 _
     obtain ⟨a2, c2, rfl⟩ := own_shape own2
     have G2 : WB.grownBy w2 none := grown_own (grown_trans HK.out.2 (World.grownBy_alloc _ _ none)) (HK.out.1.alloc _) grow2 (Nat.le_refl _)
     rw [← sv_app, ← HSN.out] at own2
     have H2 : Hid _ := And.intro own2 G2
     clear own2 grow2 G2 HK y0
     go_wp2
     rw [show ((k : Int) + 1) = ((k + 1 : Nat) : Int) by omega]
     refine ⟨⟨k + 1, a2, c2, hlt, rfl, rfl, H2⟩, ?_⟩
     simp only [intOf, Int.toNat_natCast]
     exact Nat.sub_lt_sub_left hlt (Nat.lt_succ_self k)
   ·obtain rfl : k = al := by omega
    have hlti : ¬ (k : Int) < (k : Int) := by omega
    have hall : R.take k = R := List.take_of_length_le (by rw [← HA.out.2.2.1, List.length_map]; have := HA.out.2.2.2; omega)
    rw [hall] at HK
    have HALL : Hid _ := HK.out
    clear hall HK
    go_wp2
    go_ret2
    obtain ⟨a', c', e, hr, -, -⟩ := owns_srow HALL.out.1
    injection e with e1 e2 e3
    subst e1
    exact ⟨va, k, vc, by rw [HE0.out]; rfl, hr, hal, grown_trans HA.out.2.1 HALL.out.2⟩
 ·have hRR : R = [] := by rw [HR.out]; unfold nmA; rw [if_neg hz]
  have HRR : Hid _ := hRR
  clear hRR HR
  rw [← HEE.out]
  have hz : E ≠ 0 := by rw [HEE.out]; exact hz
  clear HEE
  generalize E = K at *
  have hzb : (K == 0) = false := by rw [beq_eq_false_iff_ne]; exact hz
  have hzb2 : (K != 0) = true := by simp [hz]
  go_wp2
  go_ret2
  exact ⟨none, 0, 0, rfl, by rw [HRR.out]; exact ⟨rfl, fun h => absurd h (Nat.lt_irrefl 0)⟩, Nat.zero_le _, HG1.out.1⟩
/-- what the document's Read tells, in memory -/
def RrPost12 (w : World) (A : List Int × Int) (e : Ending) (w' : World) : Prop := ∃ (a : Option Addr) (c : Nat), e = .returned (.tuple #[.slice a A.1.length c, .int .i64 A.2]) ∧ w.grownBy w' none ∧ Row w' a A.1.length A.1
theorem own_row12 {W : World} {base n c : Nat} {a : Option Addr} {xs : List Int} (h : W.ownsRow base 5 1 (.slice a n c) n (bv xs)) (hb : Byt xs) : Row W a n xs := (OwnB.row ⟨h, hb⟩)
def fatv (l : List Atr) (s : Tx) : Option (List Int) := (l.find? (fun A => A.n == s)).map Atr.v
def atA (o : Option (List Int)) : List Int × Int := match o with | some v => (v, 0) | none => ([], 4)
/-- what Attr answers -/
def atP (L : List No) (i : Int) (s : Tx) : List Int × Int := if knd L i 0 ≠ 0 then ([], knd L i 0) else atA (fatv (((L[i.toNat]?).map No.attrs).getD []) s)
theorem atP_bad {L : List No} {i : Int} {s : Tx} (h : knd L i 0 ≠ 0) : atP L i s = ([], knd L i 0) := by unfold atP; rw [if_pos h]
theorem atP_at {ns : List NoV} {j : Nat} {X : NoV} (hX : ns[j]? = some X) (h : knd (nos ns) j 0 = 0) (s : Tx) : atP (nos ns) (j : Int) s = atA (fatv (X.attrs.map AtV.at) s) := by
 unfold atP
 rw [if_neg (by rw [h]; simp), Int.toNat_natCast, nos_get12 hX]
 rfl
theorem fatv_step {l : List AtV} {k : Nat} {x : AtV} {s : Tx} (hx : l[k]? = some x) : fatv ((l.drop k).map AtV.at) s = if x.n.toList = s then some x.v else fatv ((l.drop (k + 1)).map AtV.at) s := by
 obtain ⟨h1, h2⟩ := List.getElem?_eq_some_iff.1 hx
 rw [List.drop_eq_getElem_cons h1, h2, List.map_cons]
 unfold fatv
 rw [List.find?_cons]
 by_cases e : x.n.toList = s
 ·rw [if_pos e, show (x.at.n == s) = true by rw [beq_iff_eq]; exact e]; rfl
 ·rw [if_neg e, show (x.at.n == s) = false by rw [beq_eq_false_iff_ne]; exact e]
set_option maxHeartbeats 8000000 in
theorem pattr_any (w : World) (mb : Nat) (a : Option Addr) (n c mp : Nat) (ns : List NoV) (h : Md w mb a n c mp ns) (i : Int) (s : ByteArray) (hal : ∀ X ∈ ns, ∀ A ∈ X.attrs, A.len ≤ 16777216) :
  Calls Tryz.prog 35 #[.pointer (some ⟨mb, 0, none⟩), .int .i64 i, .string s] w (RrPost12 w (atP (nos ns) i s.toList)) := by
 have hok := pnode12_any w mb a n c (.map (some mp)) ns h.box h.nos i
 have HM : Hid _ := And.intro h hal
 clear h hal
 obtain ⟨R, hR⟩ : ∃ R, R = atP (nos ns) i s.toList := ⟨_, rfl⟩
 rw [← hR]
 have HR : Hid _ := hR
 clear hR
 go_enter Tryz.func35, Tryz.ntmps35
 go_wp2_with fail
 refine hok.mono ?_
 clear hok
 rintro e W0 ⟨X, rfl, h0, h1, g0⟩
 have HX : Hid _ := And.intro h0 (And.intro h1 g0)
 clear h0 h1 g0
 by_cases hz : knd (nos ns) i 0 = 0
 ·obtain ⟨hi0, hX⟩ := HX.out.1 hz
  obtain ⟨j, rfl⟩ : ∃ j : Nat, i = (j : Int) := ⟨i.toNat, by omega⟩
  rw [Int.toNat_natCast] at hX
  have hRR := atP_at hX hz s.toList
  rw [← HR.out] at hRR
  have hj := (List.getElem?_eq_some_iff.1 hX).1
  obtain ⟨b, o, -, k⟩ := HM.out.1.nos.at_ (by rw [← HM.out.1.nos.len_eq]; omega)
  have hats := (k j X hX).ok.ats.grown HX.out.2.2
  have hal := HM.out.2 X (List.mem_of_getElem? hX)
  rw [hz]
  have HG0 : Hid _ := HX.out.2.2
  clear HX HM HR k hX hz hj hi0
  obtain ⟨NK, mode, uid, gid, time, size, da, dl, dc, data, target, dev, aa, al, ac, attrs, ka, kl, kc, kids, parent, links⟩ := X
  simp only [NoV.val]
  simp only at hats hal hRR
  have gB := World.grownBy_alloc W0 (.cells #[.int .i64 NK, .int .i64 mode, .int .i64 uid, .int .i64 gid, .int .i64 time, .int .i64 size, .slice da dl dc, .string target, .int .i64 dev, .slice aa al ac, .slice ka kl kc, .int .i64 parent, .int .i64 links] 43) none
  have bB := Bx.new W0 43 [.int .i64 NK, .int .i64 mode, .int .i64 uid, .int .i64 gid, .int .i64 time, .int .i64 size, .slice da dl dc, .string target, .int .i64 dev, .slice aa al ac, .slice ka kl kc, .int .i64 parent, .int .i64 links]
  have v9 : _ = some _ := bB.c 9
  have halm : al ≤ 9223372036854775807 := hats.le
  have HA : Hid _ := And.intro (hats.grown gB) (And.intro (grown_trans HG0.out gB) (And.intro hRR (And.intro hats.len_eq hal)))
  clear gB bB HG0 hats hRR hal
  go_wp2_with fail
  generalize hWB : W0.alloc (.cells #[.int .i64 NK, .int .i64 mode, .int .i64 uid, .int .i64 gid, .int .i64 time, .int .i64 size, .slice da dl dc, .string target, .int .i64 dev, .slice aa al ac, .slice ka kl kc, .int .i64 parent, .int .i64 links] 43) = WB at *
  clear hWB v9
  generalize W0.heap.size = gb at *
  go_loopw [24] (fun v24 wr => ∃ (k : Nat), k ≤ al ∧ v24 = .int .i64 k ∧ Hid (WB.grownBy wr none ∧ fatv (attrs.map AtV.at) s.toList = fatv ((attrs.drop k).map AtV.at) s.toList)) (fun v24 _ => al - (intOf v24).toNat)
  case atStart => exact ⟨0, Nat.zero_le _, rfl, World.grownBy.refl _ _, rfl⟩
  case round =>
   obtain ⟨k, hk, rfl, HK⟩ := hrel
   by_cases hlt : k < al
   ·obtain ⟨b2, o2, rfl, hat2⟩ := HA.out.1.at_ (by omega)
    obtain ⟨A, hA⟩ : ∃ A, attrs[k]? = some A := ⟨_, List.getElem?_eq_getElem (by have := HA.out.2.2.2.1; omega)⟩
    have z := (hat2 k A hA).grown HK.out.1
    have y0 := z.c0
    have y1 := z.c1
    have hrow := z.row
    have hlen := HA.out.2.2.2.2 A (List.mem_of_getElem? hA)
    have hsn := fatv_step (s := s.toList) hA
    rw [← HK.out.2] at hsn
    obtain ⟨An, Aa, Al, Ac, Av⟩ := A
    simp only at y0 y1 hsn hrow hlen
    have gC := World.grownBy_alloc wr (.cells #[.string An, .slice Aa Al Ac] 45) none
    have bC := Bx.new wr 45 [.string An, .slice Aa Al Ac]
    have s0 : _ = some _ := bC.c 0
    have s1 : _ = some _ := bC.c 1
    have hcl := pclone_any Aa Al Ac Av _ (hrow.grown gC) hlen
    have HC : Hid _ := And.intro (grown_trans HK.out.1 gC) (And.intro hsn (And.intro hrow.len_eq hrow.byt))
    clear gC bC HK hat2 z hsn hA hrow hlen
    have hlti : (k : Int) < (al : Int) := by omega
    cases hq : (An.toList == s.toList) with
    | true =>
     have HV : Hid (R = (Av, 0)) := by show _ = _; rw [HA.out.2.2.1, HC.out.2.1, if_pos (eq_of_beq hq)]; rfl
     go_wp2_with fail
     refine hcl.mono ?_
     clear hcl
     rintro e W3 ⟨v3, rfl, ho3, g3⟩
     obtain ⟨a3, c3, rfl⟩ := own_shape ho3
     have H3 : Hid _ := And.intro ho3 g3
     clear ho3 g3
     go_wp2
     go_ret2
     unfold RrPost12
     rw [HV.out]
     have hl : Av.length = Al := HC.out.2.2.1
     refine ⟨a3, c3, by simp only [hl]; rfl, grown_trans HA.out.2.1 (grown_trans HC.out.1 H3.out.2), ?_⟩
     simp only [hl]
     exact own_row12 H3.out.1 HC.out.2.2.2
    | false =>
     have hne : An.toList ≠ s.toList := by intro e; rw [e] at hq; simp at hq
     have HF : Hid (fatv (attrs.map AtV.at) s.toList = fatv ((attrs.drop (k + 1)).map AtV.at) s.toList) := by show _ = _; rw [HC.out.2.1, if_neg hne]
     clear hcl hne
     go_wp2
     rw [show ((k : Int) + 1) = ((k + 1 : Nat) : Int) by omega]
     refine ⟨⟨k + 1, hlt, rfl, HC.out.1, HF.out⟩, ?_⟩
     simp only [intOf, Int.toNat_natCast]
     exact Nat.sub_lt_sub_left hlt (Nat.lt_succ_self k)
   ·obtain rfl : k = al := by omega
    have hlti : ¬ (k : Int) < (k : Int) := by omega
    have HV : Hid (R = ([], 4)) := by
     show _ = _
     rw [HA.out.2.2.1, HK.out.2, List.drop_eq_nil_of_le (by have := HA.out.2.2.2.1; omega)]
     rfl
    have HG : Hid _ := HK.out.1
    clear HK
    go_wp2
    go_ret2
    unfold RrPost12
    rw [HV.out]
    exact ⟨none, 0, rfl, grown_trans HA.out.2.1 HG.out, row_zero none⟩
 ·have hl := atP_bad (s := s.toList) hz
  rw [← HR.out] at hl
  have HL : Hid _ := hl
  obtain rfl := HX.out.2.1 hz
  have HG1 : Hid _ := HX.out.2.2
  clear HX hl HR
  generalize knd (nos ns) i 0 = K at *
  have hzb : (K == 0) = false := by rw [beq_eq_false_iff_ne]; exact hz
  have hzb2 : (K != 0) = true := by simp [hz]
  simp only [NoV.val, nz12]
  go_wp2
  go_ret2
  unfold RrPost12
  rw [HL.out]
  exact ⟨none, 0, rfl, grown_trans HG1.out (World.grownBy_alloc _ _ none), row_zero none⟩
set_option maxHeartbeats 8000000 in
theorem rattr_any (w : World) (a : Option Addr) (n c : Nat) (ns : List NoV) (hN : Nos w a n ns) (i : Int) (s : ByteArray) :
  Calls Tryz.prog 36 #[.agg #[.slice a n c], .int .i64 i, .string s] w (RrPost12 w (atP (nos ns) i s.toList)) := by
 have gA := World.grownBy_alloc w (.cells #[.slice a n c] 33) none
 have bA := Bx.new w 33 [.slice a n c]
 have hok := rkind_any _ a n c ns (hN.grown gA) i 0
 have t0 : _ = some _ := bA.c 0
 have HM : Hid _ := And.intro (hN.grown gA) (And.intro bA gA)
 clear hN bA gA
 obtain ⟨R, hR⟩ : ∃ R, R = atP (nos ns) i s.toList := ⟨_, rfl⟩
 rw [← hR]
 have HR : Hid _ := hR
 clear hR
 go_enter Tryz.func36, Tryz.ntmps36
 go_wp2_with fail
 generalize hWA : w.alloc (.cells #[.slice a n c] 33) = WA at *
 clear hWA
 refine hok.mono ?_
 clear hok
 rintro e WB ⟨rfl, g1⟩
 have HG1 : Hid _ := And.intro (grown_trans HM.out.2.2 g1) (And.intro (HM.out.1.grown g1) (HM.out.2.1.kept g1))
 clear g1 HM t0
 have t0 : _ = some _ := HG1.out.2.2.c 0
 by_cases hz : knd (nos ns) i 0 = 0
 ·obtain ⟨j, X, rfl, hX, -⟩ := knd_zero hz
  have hRR := atP_at hX hz s.toList
  rw [← HR.out] at hRR
  rw [hz]
  have hj : j < n := by rw [← HG1.out.2.1.len_eq]; exact (List.getElem?_eq_some_iff.1 hX).1
  obtain ⟨b, o0, rfl, hat⟩ := HG1.out.2.1.at_ (by omega)
  have y9 := (hat j X hX).c9
  have hats := (hat j X hX).ok.ats
  obtain ⟨NK, mode, uid, gid, time, size, da, dl, dc, data, target, dev, aa, al, ac, attrs, ka, kl, kc, kids, parent, links⟩ := X
  simp only at y9 hats hRR
  have h2 : (j : Int) < (n : Int) := by omega
  have halm : al ≤ 9223372036854775807 := hats.le
  have HA : Hid _ := And.intro hats (And.intro HG1.out.1 (And.intro hRR hats.len_eq))
  clear hats hRR hat hX HR HG1 hz hj
  go_wp2_with fail
  go_loopw [10] (fun v24 wr => ∃ (k : Nat), k ≤ al ∧ v24 = .int .i64 k ∧ WB = wr ∧ Hid (fatv (attrs.map AtV.at) s.toList = fatv ((attrs.drop k).map AtV.at) s.toList)) (fun v24 _ => al - (intOf v24).toNat)
  case atStart => exact ⟨0, Nat.zero_le _, rfl, rfl, rfl⟩
  case round =>
   obtain ⟨k, hk, rfl, rfl, HK⟩ := hrel
   by_cases hlt : k < al
   ·obtain ⟨b2, o2, rfl, hat2⟩ := HA.out.1.at_ (by omega)
    obtain ⟨A, hA⟩ : ∃ A, attrs[k]? = some A := ⟨_, List.getElem?_eq_getElem (by have := HA.out.2.2.2; omega)⟩
    have z := hat2 k A hA
    have y0 := z.c0
    have y1 := z.c1
    have hrow := z.row
    have hsn := fatv_step (s := s.toList) hA
    rw [← HK.out] at hsn
    obtain ⟨An, Aa, Al, Ac, Av⟩ := A
    simp only at y0 y1 hsn hrow
    have HC : Hid _ := And.intro hsn hrow
    clear HK hat2 z hsn hA hrow
    have hlti : (k : Int) < (al : Int) := by omega
    cases hq : (An.toList == s.toList) with
    | true =>
     have HV : Hid (R = (Av, 0)) := by show _ = _; rw [HA.out.2.2.1, HC.out.1, if_pos (eq_of_beq hq)]; rfl
     go_wp2
     go_ret2
     unfold RrPost12
     rw [HV.out]
     have hl : Av.length = Al := HC.out.2.len_eq
     refine ⟨Aa, Ac, by simp only [hl]; rfl, HA.out.2.1, ?_⟩
     simp only [hl]
     exact HC.out.2
    | false =>
     have hne : An.toList ≠ s.toList := by intro e; rw [e] at hq; simp at hq
     have HF : Hid (fatv (attrs.map AtV.at) s.toList = fatv ((attrs.drop (k + 1)).map AtV.at) s.toList) := by show _ = _; rw [HC.out.1, if_neg hne]
     clear hne
     go_wp2
     rw [show ((k : Int) + 1) = ((k + 1 : Nat) : Int) by omega]
     refine ⟨⟨k + 1, hlt, rfl, trivial, HF⟩, ?_⟩
     simp only [intOf, Int.toNat_natCast]
     exact Nat.sub_lt_sub_left hlt (Nat.lt_succ_self k)
   ·obtain rfl : k = al := by omega
    have hlti : ¬ (k : Int) < (k : Int) := by omega
    have HV : Hid (R = ([], 4)) := by
     show _ = _
     rw [HA.out.2.2.1, HK.out, List.drop_eq_nil_of_le (by have := HA.out.2.2.2; omega)]
     rfl
    clear HK
    go_wp2
    go_ret2
    unfold RrPost12
    rw [HV.out]
    exact ⟨none, 0, rfl, HA.out.2.1, row_zero none⟩
 ·have hl := atP_bad (s := s.toList) hz
  rw [← HR.out] at hl
  have HL : Hid _ := hl
  clear hl HR
  generalize knd (nos ns) i 0 = K at *
  have hzb : (K == 0) = false := by rw [beq_eq_false_iff_ne]; exact hz
  have hzb2 : (K != 0) = true := by simp [hz]
  go_wp2
  go_ret2
  unfold RrPost12
  rw [HL.out]
  exact ⟨none, 0, rfl, HG1.out.1, row_zero none⟩
theorem need_ok (w : World) : Calls Tryz.prog 91 #[.int .i64 0] w fun e w' => e = .returned (.tuple #[]) ∧ w = w' := by
 go_enter Tryz.func91, Tryz.ntmps91
 go_wp2
 refine bodyPost_end (results_none rfl _ _ _) rfl ?_
 exact ⟨rfl, rfl⟩
/-- a walk on its way, in memory -/
structure Wl (w W : World) (gw mb : Nat) (p : Int) (left : List ByteArray) (links : Int) (la : Option Addr) (lc : Nat) : Prop where
 gr : w.grownBy W none
 new : w.heap.size ≤ gw
 box : Bx W gw 142 [.pointer (some ⟨mb, 0, none⟩), .int .i64 p, .slice la left.length lc, .int .i64 links]
 row : SRow W la left.length left
 cap : left.length ≤ lc
theorem srow_kept {w w' : World} {a : Option Addr} {n : Nat} {l : List ByteArray} (h : SRow w a n l) (g : w.grownBy w' none) : SRow w' a n l :=
 ⟨h.len_eq, fun h0 => by obtain ⟨b, off, e, k⟩ := h.cells h0; exact ⟨b, off, e, fun i hi => cell_grown (k i hi) g⟩⟩
theorem Wl.kept {w W W' : World} {gw mb : Nat} {p links : Int} {left : List ByteArray} {la : Option Addr} {lc : Nat} (h : Wl w W gw mb p left links la lc) (g : W.grownBy W' none) : Wl w W' gw mb p left links la lc :=
 ⟨grown_trans h.gr g, h.new, h.box.kept g, srow_kept h.row g, h.cap⟩
/-- the parts that are left are laid anew -/
theorem Wl.lay {w W : World} {gw mb base : Nat} {p links : Int} {left X : List ByteArray} {la : Option Addr} {lc m : Nat} {a : Option Addr} {c : Nat} (hg : w.grownBy W none) (hn : w.heap.size ≤ gw)
  (hb : Bx W gw 142 [.pointer (some ⟨mb, 0, none⟩), .int .i64 p, .slice la left.length lc, .int .i64 links]) (ho : W.ownsRow base 9 1 (.slice a m c) m (sv X)) (hlt : gw < base) :
  Wl w (W.setCell ⟨gw, 2, none⟩ (.slice a m c)) gw mb p X links a c := by
 have ho2 := ho.kept (grown_set W gw 2 (.slice a m c)) (Or.inr (fun e => by have := (ho.lt _ e).1; omega))
 obtain ⟨a', c', e, hr, hc, -⟩ := owns_srow ho2
 injection e with e1 e2 e3
 subst e1 e3
 have hm : X.length = m := hr.len_eq
 subst hm
 exact ⟨grown_new hg (grown_set _ _ _ _) hn, hn, hb.set 2 _, hr, hc⟩
theorem srow_src {w : World} {ad : Addr} {n : Nat} {l : List ByteArray} (R : SRow w (some ad) n l) : ∀ j u, (sv l)[j]? = some u → w.cell? (ad.add j) = some u := by
 intro j u h
 have hj : j < l.length := by
  rcases Nat.lt_or_ge j l.length with k | k
  ·exact k
  ·rw [List.getElem?_eq_none (by rw [sv_len]; exact k)] at h; cases h
 have hn := R.len_eq
 obtain ⟨b, off, e, hc⟩ := R.cells (by omega)
 injection e with e
 subst e
 have hadd : (⟨b, off, none⟩ : Addr).add j = ⟨b, off + j, none⟩ := by unfold Addr.add; split <;> simp_all
 rw [hadd, hc j (by omega)]
 unfold sv at h
 rw [List.getElem?_map, List.getElem?_eq_getElem hj] at h
 rw [List.getD_eq_getElem?_getD, List.getElem?_eq_getElem hj]
 exact h
set_option maxHeartbeats 8000000 in
theorem pturn_ok (w W : World) (gw mb : Nat) (p links : Int) (left : List ByteArray) (la : Option Addr) (lc : Nat) (h : Wl w W gw mb p left links la lc) (a : Option Addr) (n c mp : Nat) (ns : List NoV) (M : Md w mb a n c mp ns)
  (path : ByteArray) (hp : path.size ≤ 4096) (habs : Calls Tryz.prog 118 #[.string path] W fun e w' => e = .returned (.bool false) ∧ W = w') (hk : knd (nos ns) p 2 = 0) (L : List Tx) (hsp : spl path.toList = (L, 0)) (hlen : L.length + left.length ≤ 256) (hle : (left = [] ∧ la = none ∧ lc = 0) ∨ 0 < left.length) :
  Calls Tryz.prog 92 #[.pointer (some ⟨gw, 0, none⟩), .string path] W fun e W' => e = .returned (.tuple #[]) ∧ ∃ la' lc', Wl w W' gw mb p (txs L ++ left) links la' lc' ∧ W.heap.size ≤ W'.heap.size := by
 have hok := fun W' g => pofkind_any W' mb a n c (.map (some mp)) ns (M.kept g).box (M.kept g).nos p 2 (by decide)
 have x0 : _ = some _ := h.box.c 0
 have x1 : _ = some _ := h.box.c 1
 have hspl := fun W => psplit_any path W (by omega)
 unfold SpPost at hspl
 rw [hsp] at hspl
 simp only at hspl
 obtain ⟨i9, hi9, hz0, hz1, hz2⟩ := info_parts Tryz.info9
 have HW : Hid _ := h
 have HLE : Hid _ := And.intro hle hlen
 clear h hsp hle hlen
 go_enter Tryz.func92, Tryz.ntmps92
 go_wp2_with (go_at_call 118; refine habs.mono ?_; rintro e w' ⟨rfl, rfl⟩)
 clear x0 x1 habs
 refine wp_region_held_drew (S := fun w' => W.grownBy w' none) (by kernel_rfl) (drewG0 W) (fun hH => ?_)
 generalize W.drew = WD at *
 refine wpAnyH_take (i := 0) (oi := ⟨some 13, _, _, _, _, _⟩) (v := .pointer (some ⟨gw, 0, none⟩)) rfl (by kernel_rfl) (by kernel_rfl) (by kernel_rfl) (fun _ _ _ h => h) (Or.inl ⟨by rfl, fun w hSw => by go_simp⟩) hH ?_
 simp only [Act.put, pu]
 refine wpAnyH_take (i := 1) (oi := ⟨some 14, _, _, _, _, _⟩) (v := .pointer (some ⟨gw, 0, none⟩)) rfl (by kernel_rfl) (by kernel_rfl) (by kernel_rfl) (fun _ _ _ h => h) (Or.inl ⟨by rfl, fun w hSw => by go_simp⟩) hH ?_
 simp only [Act.put, pu]
 refine wpAnyH_take (i := 2) (oi := ⟨some 15, _, _, _, _, _⟩) (v := .pointer (some ⟨gw, 0, none⟩)) rfl (by kernel_rfl) (by kernel_rfl) (by kernel_rfl) (fun _ _ _ h => h) (Or.inl ⟨by rfl, fun w hSw => by go_simp⟩) hH ?_
 simp only [Act.put, pu]
 refine wpAnyH_take (i := 3) (oi := ⟨some 16, _, _, _, _, _⟩) (v := .pointer (some ⟨mb, 0, none⟩)) rfl (by kernel_rfl) (by kernel_rfl) (by kernel_rfl) (fun _ _ _ h => h) (Or.inl ⟨by rfl, fun w hSw => by have c0 : _ = some _ := (HW.out.box.kept hSw).c 0; go_simp⟩) hH ?_
 simp only [Act.put, pu]
 refine wpAnyH_take (i := 4) (oi := ⟨some 17, _, _, _, _, _⟩) (v := .pointer (some ⟨gw, 0, none⟩)) rfl (by kernel_rfl) (by kernel_rfl) (by kernel_rfl) (fun _ _ _ h => h) (Or.inl ⟨by rfl, fun w hSw => by go_simp⟩) hH ?_
 simp only [Act.put, pu]
 refine wpAnyH_take (i := 5) (oi := ⟨some 18, _, _, _, _, _⟩) (v := .pointer (some ⟨gw, 0, none⟩)) rfl (by kernel_rfl) (by kernel_rfl) (by kernel_rfl) (fun _ _ _ h => h) (Or.inl ⟨by rfl, fun w hSw => by go_simp⟩) hH ?_
 simp only [Act.put, pu]
 refine wpAnyH_take (i := 6) (oi := ⟨some 19, _, _, _, _, _⟩) (v := .pointer (some ⟨gw, 1, none⟩)) rfl (by kernel_rfl) (by kernel_rfl) (by kernel_rfl) (fun _ _ _ h => h) (Or.inl ⟨by rfl, fun w hSw => by go_simp⟩) hH ?_
 simp only [Act.put, pu]
 refine wpAnyH_take (i := 7) (oi := ⟨some 20, _, _, _, _, _⟩) (v := .int .i64 p) rfl (by kernel_rfl) (by kernel_rfl) (by kernel_rfl) (fun _ _ _ h => h) (Or.inl ⟨by rfl, fun w hSw => by have c1 : _ = some _ := (HW.out.box.kept hSw).c 1; go_simp⟩) hH ?_
 simp only [Act.put, pu]
 refine wpAnyH_ready (rs := [8, 12]) (by kernel_rfl) (by simp) ?_
 refine AllReadyH.cons rfl (fun K1 hK => ?_) (AllReadyH.cons rfl (fun K1 hK => ?_) AllReadyH.nil)
 ·skip
  go_simp
  refine (hok _ (grown_trans HW.out.gr hH)).mono ?_
  rintro e W2 ⟨X, rfl, -, -, g2⟩
  rw [hk]
  obtain ⟨NK, mode, uid, gid, time, size, da, dl, dc, data, target, dev, aa, al, ac, attrs, ka, kl, kc, kids, parent, links0⟩ := X
  simp only [NoV.val]
  replace hH := grown_trans hH g2
  clear g2
  refine hK.out _ _ hH (fun h0 => ?_)
  clear h0 hK K1
  try simp only [Act.put, pu]
  refine wpAnyH_take (i := 9) (oi := ⟨some 12, _, _, _, _, _⟩) (v := .tuple #[.agg #[.int .i64 NK, .int .i64 mode, .int .i64 uid, .int .i64 gid, .int .i64 time, .int .i64 size, .slice da dl dc, .string target, .int .i64 dev, .slice aa al ac, .slice ka kl kc, .int .i64 parent, .int .i64 links0], .int .i64 0]) rfl (by kernel_rfl) (by kernel_rfl) (by kernel_rfl) (fun _ _ _ h => h) (Or.inl ⟨by rfl, fun w hSw => by go_simp⟩) hH ?_
  simp only [Act.put, pu]
  refine wpAnyH_take (i := 10) (oi := ⟨some 22, _, _, _, _, _⟩) (v := .agg #[.int .i64 NK, .int .i64 mode, .int .i64 uid, .int .i64 gid, .int .i64 time, .int .i64 size, .slice da dl dc, .string target, .int .i64 dev, .slice aa al ac, .slice ka kl kc, .int .i64 parent, .int .i64 links0]) rfl (by kernel_rfl) (by kernel_rfl) (by kernel_rfl) (fun _ _ _ h => h) (Or.inl ⟨by rfl, fun w hSw => by go_simp⟩) hH ?_
  simp only [Act.put, pu]
  refine wpAnyH_take (i := 11) (oi := ⟨some 23, _, _, _, _, _⟩) (v := .int .i64 0) rfl (by kernel_rfl) (by kernel_rfl) (by kernel_rfl) (fun _ _ _ h => h) (Or.inl ⟨by rfl, fun w hSw => by go_simp⟩) hH ?_
  simp only [Act.put, pu]
  refine wpAnyH_ready (rs := [12]) (by kernel_rfl) (by simp) ?_
  refine AllReadyH.cons rfl (fun K1 hK => ?_) AllReadyH.nil
  go_simp
  have gA := World.grownBy_alloc W2 (.cells #[.int .i64 0, .int .i64 0, .int .i64 0, .int .i64 0, .int .i64 0, .int .i64 0, .slice none 0 0, .string ⟨#[]⟩, .int .i64 0, .slice none 0 0, .slice none 0 0, .int .i64 0, .int .i64 0] 43) none
  have hZ := Bx.new W2 43 [.int .i64 0, .int .i64 0, .int .i64 0, .int .i64 0, .int .i64 0, .int .i64 0, .slice none 0 0, .string ⟨#[]⟩, .int .i64 0, .slice none 0 0, .slice none 0 0, .int .i64 0, .int .i64 0]
  have hnz : W.heap.size ≤ W2.heap.size := hH.size
  replace hH := grown_trans hH gA
  clear gA
  generalize W2.alloc (.cells #[.int .i64 0, .int .i64 0, .int .i64 0, .int .i64 0, .int .i64 0, .int .i64 0, .slice none 0 0, .string ⟨#[]⟩, .int .i64 0, .slice none 0 0, .slice none 0 0, .int .i64 0, .int .i64 0] 43) = W3 at *
  generalize W2.heap.size = gz at *
  refine hK.out _ _ hH (fun h0 => ?_)
  clear h0 hK K1
  try simp only [Act.put, pu]
  refine wpAnyH_ready (rs := [13]) (by kernel_rfl) (by simp) ?_
  refine AllReadyH.cons rfl (fun K1 hK => ?_) AllReadyH.nil
  refine step_store_bx (by rfl) 43 _ _ (by rfl) gz [.int .i64 NK, .int .i64 mode, .int .i64 uid, .int .i64 gid, .int .i64 time, .int .i64 size, .slice da dl dc, .string target, .int .i64 dev, .slice aa al ac, .slice ka kl kc, .int .i64 parent, .int .i64 links0] (by rfl) (by rfl) hZ node_size rfl rfl ?_
  intro W4 hN g4
  replace hH := grown_new hH g4 hnz
  clear hN g4 hZ
  refine hK.out _ _ hH (fun h0 => ?_)
  clear h0 hK K1
  try simp only [Act.put, pu]
  refine wpAnyH_take (i := 14) (oi := ⟨some 5, _, _, _, _, _⟩) (v := .int .i64 0) rfl (by kernel_rfl) (by kernel_rfl) (by kernel_rfl) (fun _ _ _ h => h) (Or.inl ⟨by rfl, fun w hSw => by go_simp⟩) hH ?_
  simp only [Act.put, pu]
  refine wpAnyH_done (by kernel_rfl) ?_ _
  have HW4 : Hid _ := HW.out.kept hH
  have HS4 : Hid _ := hH.size
  have HGW4 : Hid (gw < W4.heap.size) := HW4.out.box.lt
  have HGW4b : Hid (w.heap.size ≤ W4.heap.size) := HW4.out.gr.size
  clear hH hnz
  go_wp2_with (go_at_call 91; refine (need_ok _).mono ?_; rintro e w' ⟨rfl, rfl⟩)
  refine (hspl _).mono ?_
  rintro e W5 ⟨a1, n1, c1, rfl, hown, g5⟩
  have HW5 : Hid _ := And.intro (HW4.out.kept g5) (And.intro hown (And.intro g5.size (Nat.le_trans HS4.out g5.size)))
  have c2 : _ = some _ := HW5.out.1.box.c 2
  have hn1 : n1 = L.length := by
   have := hown.1
   rw [sv_len] at this
   unfold txs at this
   rw [List.length_map] at this
   omega
  have hll : n1 + left.length ≤ 256 := by rw [hn1]; exact HLE.out.2
  have HN1 : Hid _ := hn1
  clear hown g5 hspl hn1 HW4
  generalize hlf : left.length = ll at *
  have HLF : Hid _ := hlf
  clear hlf
  have hcmp : ¬ (256 : Int) < (n1 : Int) + (ll : Int) := by omega
  have f2 := HW5.out.1.box.f 2
  have hgw : gw < W4.heap.size := HGW4.out
  rcases HLE.out.1 with ⟨hl0, rfl, rfl⟩ | hl0
  ·have hll0 : ll = 0 := by rw [← HLF.out, hl0]; rfl
   subst hll0
   have HL0 : Hid _ := hl0
   clear hl0
   go_wp2_with (first | (go_at_call 91; refine (need_ok _).mono ?_; rintro e w' ⟨rfl, rfl⟩) | (at_builtin; refine wpList_append_own_none rfl _ _ 77 rfl W4.heap.size 9 i9 1 Tryz.underlying77 hi9 _ n1 _ rfl HW5.out.2.1 rfl ?_) | fail)
   refine bodyPost_end (results_none rfl _ _ _) rfl ?_
   refine ⟨rfl, a1, c1, ?_, by rw [size_set]; exact HW5.out.2.2.2⟩
   rw [HL0.out, List.append_nil]
   have hbx := HW5.out.1.box
   exact Wl.lay HW5.out.1.gr HW5.out.1.new hbx HW5.out.2.1 hgw
  ·obtain ⟨lb, lo, rfl, -⟩ := HW5.out.1.row.cells (by have h1 := HLF.out; omega)
   clear hl0
   go_wp2_with (first | (go_at_call 91; refine (need_ok _).mono ?_; rintro e w' ⟨rfl, rfl⟩) | (at_builtin; refine wpList_append_own _ rfl _ _ 77 rfl W4.heap.size 9 i9 (.string ⟨#[]⟩) 1 16 Tryz.underlying77 hi9 hz0 hz1 hz2 rfl (by decide) _ n1 _ rfl HW5.out.2.1 ⟨lb, lo, none⟩ ll lc (sv left) rfl (by rw [sv_len, HLF.out, Nat.mul_one]) (srow_src HW5.out.1.row) (sv_one _) (by unfold maxLen; omega) (by omega) HW5.out.2.2.1 ?_; intro v6 W6 own6 grow6 h6; obtain ⟨a6, c6, rfl⟩ := own_shape own6; have hbne : some gw ≠ (Value.slice a1 n1 c1).ownBlock := (fun e => by have := (HW5.out.2.1.lt _ e.symm).1; omega); have HW6 : Hid _ := And.intro own6 (And.intro (HW5.out.1.box.but grow6 hbne) (And.intro (grown_own9 HW5.out.1.gr HW5.out.2.1 grow6 HGW4b.out) (Nat.le_trans HW5.out.2.2.2 grow6.size))); have d2 : _ = some _ := HW6.out.2.1.c 2; have e2 := HW6.out.2.1.f 2; clear own6 grow6 h6 hbne) | fail)
   refine bodyPost_end (results_none rfl _ _ _) rfl ?_
   refine ⟨rfl, a6, c6, ?_, by rw [size_set]; exact HW6.out.2.2.2⟩
   have ho := HW6.out.1
   rw [← sv_app] at ho
   exact Wl.lay HW6.out.2.2.1 HW5.out.1.new HW6.out.2.1 ho hgw
 ·skip
  go_simp
  have gA := World.grownBy_alloc WD (.cells #[.int .i64 0, .int .i64 0, .int .i64 0, .int .i64 0, .int .i64 0, .int .i64 0, .slice none 0 0, .string ⟨#[]⟩, .int .i64 0, .slice none 0 0, .slice none 0 0, .int .i64 0, .int .i64 0] 43) none
  have hZ := Bx.new WD 43 [.int .i64 0, .int .i64 0, .int .i64 0, .int .i64 0, .int .i64 0, .int .i64 0, .slice none 0 0, .string ⟨#[]⟩, .int .i64 0, .slice none 0 0, .slice none 0 0, .int .i64 0, .int .i64 0]
  have hnz : W.heap.size ≤ WD.heap.size := hH.size
  replace hH := grown_trans hH gA
  clear gA
  generalize WD.alloc (.cells #[.int .i64 0, .int .i64 0, .int .i64 0, .int .i64 0, .int .i64 0, .int .i64 0, .slice none 0 0, .string ⟨#[]⟩, .int .i64 0, .slice none 0 0, .slice none 0 0, .int .i64 0, .int .i64 0] 43) = W3 at *
  generalize WD.heap.size = gz at *
  refine hK.out _ _ hH (fun h0 => ?_)
  clear h0 hK K1
  try simp only [Act.put, pu]
  refine wpAnyH_ready (rs := [8]) (by kernel_rfl) (by simp) ?_
  refine AllReadyH.cons rfl (fun K1 hK => ?_) AllReadyH.nil
  go_simp
  refine (hok _ (grown_trans HW.out.gr hH)).mono ?_
  rintro e W2 ⟨X, rfl, -, -, g2⟩
  rw [hk]
  obtain ⟨NK, mode, uid, gid, time, size, da, dl, dc, data, target, dev, aa, al, ac, attrs, ka, kl, kc, kids, parent, links0⟩ := X
  simp only [NoV.val]
  replace hZ := hZ.kept g2
  replace hH := grown_trans hH g2
  clear g2
  refine hK.out _ _ hH (fun h0 => ?_)
  clear h0 hK K1
  try simp only [Act.put, pu]
  refine wpAnyH_take (i := 9) (oi := ⟨some 12, _, _, _, _, _⟩) (v := .tuple #[.agg #[.int .i64 NK, .int .i64 mode, .int .i64 uid, .int .i64 gid, .int .i64 time, .int .i64 size, .slice da dl dc, .string target, .int .i64 dev, .slice aa al ac, .slice ka kl kc, .int .i64 parent, .int .i64 links0], .int .i64 0]) rfl (by kernel_rfl) (by kernel_rfl) (by kernel_rfl) (fun _ _ _ h => h) (Or.inl ⟨by rfl, fun w hSw => by go_simp⟩) hH ?_
  simp only [Act.put, pu]
  refine wpAnyH_take (i := 10) (oi := ⟨some 22, _, _, _, _, _⟩) (v := .agg #[.int .i64 NK, .int .i64 mode, .int .i64 uid, .int .i64 gid, .int .i64 time, .int .i64 size, .slice da dl dc, .string target, .int .i64 dev, .slice aa al ac, .slice ka kl kc, .int .i64 parent, .int .i64 links0]) rfl (by kernel_rfl) (by kernel_rfl) (by kernel_rfl) (fun _ _ _ h => h) (Or.inl ⟨by rfl, fun w hSw => by go_simp⟩) hH ?_
  simp only [Act.put, pu]
  refine wpAnyH_take (i := 11) (oi := ⟨some 23, _, _, _, _, _⟩) (v := .int .i64 0) rfl (by kernel_rfl) (by kernel_rfl) (by kernel_rfl) (fun _ _ _ h => h) (Or.inl ⟨by rfl, fun w hSw => by go_simp⟩) hH ?_
  simp only [Act.put, pu]
  refine wpAnyH_ready (rs := [13]) (by kernel_rfl) (by simp) ?_
  refine AllReadyH.cons rfl (fun K1 hK => ?_) AllReadyH.nil
  refine step_store_bx (by rfl) 43 _ _ (by rfl) gz [.int .i64 NK, .int .i64 mode, .int .i64 uid, .int .i64 gid, .int .i64 time, .int .i64 size, .slice da dl dc, .string target, .int .i64 dev, .slice aa al ac, .slice ka kl kc, .int .i64 parent, .int .i64 links0] (by rfl) (by rfl) hZ node_size rfl rfl ?_
  intro W4 hN g4
  replace hH := grown_new hH g4 hnz
  clear hN g4 hZ
  refine hK.out _ _ hH (fun h0 => ?_)
  clear h0 hK K1
  try simp only [Act.put, pu]
  refine wpAnyH_take (i := 14) (oi := ⟨some 5, _, _, _, _, _⟩) (v := .int .i64 0) rfl (by kernel_rfl) (by kernel_rfl) (by kernel_rfl) (fun _ _ _ h => h) (Or.inl ⟨by rfl, fun w hSw => by go_simp⟩) hH ?_
  simp only [Act.put, pu]
  refine wpAnyH_done (by kernel_rfl) ?_ _
  have HW4 : Hid _ := HW.out.kept hH
  have HS4 : Hid _ := hH.size
  have HGW4 : Hid (gw < W4.heap.size) := HW4.out.box.lt
  have HGW4b : Hid (w.heap.size ≤ W4.heap.size) := HW4.out.gr.size
  clear hH hnz
  go_wp2_with (go_at_call 91; refine (need_ok _).mono ?_; rintro e w' ⟨rfl, rfl⟩)
  refine (hspl _).mono ?_
  rintro e W5 ⟨a1, n1, c1, rfl, hown, g5⟩
  have HW5 : Hid _ := And.intro (HW4.out.kept g5) (And.intro hown (And.intro g5.size (Nat.le_trans HS4.out g5.size)))
  have c2 : _ = some _ := HW5.out.1.box.c 2
  have hn1 : n1 = L.length := by
   have := hown.1
   rw [sv_len] at this
   unfold txs at this
   rw [List.length_map] at this
   omega
  have hll : n1 + left.length ≤ 256 := by rw [hn1]; exact HLE.out.2
  have HN1 : Hid _ := hn1
  clear hown g5 hspl hn1 HW4
  generalize hlf : left.length = ll at *
  have HLF : Hid _ := hlf
  clear hlf
  have hcmp : ¬ (256 : Int) < (n1 : Int) + (ll : Int) := by omega
  have f2 := HW5.out.1.box.f 2
  have hgw : gw < W4.heap.size := HGW4.out
  rcases HLE.out.1 with ⟨hl0, rfl, rfl⟩ | hl0
  ·have hll0 : ll = 0 := by rw [← HLF.out, hl0]; rfl
   subst hll0
   have HL0 : Hid _ := hl0
   clear hl0
   go_wp2_with (first | (go_at_call 91; refine (need_ok _).mono ?_; rintro e w' ⟨rfl, rfl⟩) | (at_builtin; refine wpList_append_own_none rfl _ _ 77 rfl W4.heap.size 9 i9 1 Tryz.underlying77 hi9 _ n1 _ rfl HW5.out.2.1 rfl ?_) | fail)
   refine bodyPost_end (results_none rfl _ _ _) rfl ?_
   refine ⟨rfl, a1, c1, ?_, by rw [size_set]; exact HW5.out.2.2.2⟩
   rw [HL0.out, List.append_nil]
   have hbx := HW5.out.1.box
   exact Wl.lay HW5.out.1.gr HW5.out.1.new hbx HW5.out.2.1 hgw
  ·obtain ⟨lb, lo, rfl, -⟩ := HW5.out.1.row.cells (by have h1 := HLF.out; omega)
   clear hl0
   go_wp2_with (first | (go_at_call 91; refine (need_ok _).mono ?_; rintro e w' ⟨rfl, rfl⟩) | (at_builtin; refine wpList_append_own _ rfl _ _ 77 rfl W4.heap.size 9 i9 (.string ⟨#[]⟩) 1 16 Tryz.underlying77 hi9 hz0 hz1 hz2 rfl (by decide) _ n1 _ rfl HW5.out.2.1 ⟨lb, lo, none⟩ ll lc (sv left) rfl (by rw [sv_len, HLF.out, Nat.mul_one]) (srow_src HW5.out.1.row) (sv_one _) (by unfold maxLen; omega) (by omega) HW5.out.2.2.1 ?_; intro v6 W6 own6 grow6 h6; obtain ⟨a6, c6, rfl⟩ := own_shape own6; have hbne : some gw ≠ (Value.slice a1 n1 c1).ownBlock := (fun e => by have := (HW5.out.2.1.lt _ e.symm).1; omega); have HW6 : Hid _ := And.intro own6 (And.intro (HW5.out.1.box.but grow6 hbne) (And.intro (grown_own9 HW5.out.1.gr HW5.out.2.1 grow6 HGW4b.out) (Nat.le_trans HW5.out.2.2.2 grow6.size))); have d2 : _ = some _ := HW6.out.2.1.c 2; have e2 := HW6.out.2.1.f 2; clear own6 grow6 h6 hbne) | fail)
   refine bodyPost_end (results_none rfl _ _ _) rfl ?_
   refine ⟨rfl, a6, c6, ?_, by rw [size_set]; exact HW6.out.2.2.2⟩
   have ho := HW6.out.1
   rw [← sv_app] at ho
   exact Wl.lay HW6.out.2.2.1 HW5.out.1.new HW6.out.2.1 ho hgw
end Go.Proofs.YtaclbaapfllcoaaGreatDoor
