/- The program's tree: what is in a folder is met. -/
import Derived.Test.YtlehncfehoelbaaGreatDoorCq07
import Derived.Test.YtlehncfehoelbaaGreatDoorCq24
namespace Go.Proofs.YtlehncfehoelbaaGreatDoor
open Go.RowKit
set_option maxRecDepth 100000
set_option linter.unusedSimpArgs false
set_option linter.unusedVariables false
def MtPost (w : World) (gw gm : Nat) (na : Option Addr) (n nc : Nat) (ns : List NoV) (o : Option Wk) (e : Ending) (W' : World) : Prop :=
 (o = none ∧ e = .panicked pan ∧ w.grownBy W' none) ∨ ∃ s' va vc, o = some s' ∧ e = .returned (.tuple #[]) ∧ Wm w W' gw gm na n nc ns s' va vc
def MeetC (w : World) (gw gm : Nat) (na : Option Addr) (n nc : Nat) (ns : List NoV) (f : Nat) : Prop := ∀ (s : Wk) (i : Int) (p : ByteArray) (W : World) (va : Option Addr) (vc : Nat), Wm w W gw gm na n nc ns s va vc → s.ok n → p.size ≤ 2000000 → n - s.met.length < f →
  Calls Tryz.prog 80 #[.pointer (some ⟨gw, 0, none⟩), .int .i64 i, .string p] W (MtPost w gw gm na n nc ns (meetP (nos ns) f s i p.toList))
theorem vld_len {p : Tx} (h : vld p = true) : p.length ≤ 255 := by
 unfold vld at h
 simp only [Bool.and_eq_true, decide_eq_true_iff] at h
 exact h.1.1.1.2
theorem kidsP_drop {m : Wk → Int → Tx → Option Wk} {a : Tx} {ks : List Kd} {k : Nat} {K : Kd} (h : ks[k]? = some K) (s : Wk) : kidsP m a (ks.drop k) s = if vld K.n = true then (match m s K.i (a ++ K.n) with
  | none => none
  | some s' => kidsP m a (ks.drop (k + 1)) s') else none := by
 rw [drop_at h]
 rfl
theorem app_tx {p : ByteArray} {q : Tx} : (p ++ tx q).toList = p.toList ++ q := by
 rw [ByteArray.toList_eq, ByteArray.toList_eq]
 simp [tx]
theorem wrapk {k : Nat} (h : k < 9223372036854775807) : wrap64 ((k : Int) + 1) = ((k + 1 : Nat) : Int) := by
 unfold wrap64
 omega
set_option maxHeartbeats 8000000 in
theorem penter_any (w : World) (gw gm : Nat) (na : Option Addr) (n nc : Nat) (ns : List NoV) (f : Nat) (M : MeetC w gw gm na n nc ns f) (hns : ns.length = n) (N : NoV) (hk : Kds w N.ka N.kl N.kids) (hc : Ncp N) (s : Wk) (p : ByteArray) (W : World) (va : Option Addr) (vc : Nat)
  (h : Wm w W gw gm na n nc ns s va vc) (hok : s.ok n) (hp : p.size ≤ 4096) (hf : n - s.met.length < f) :
  Calls Tryz.prog 109 #[.pointer (some ⟨gw, 0, none⟩), N.val, .string p] W (MtPost w gw gm na n nc ns (kidsP (meetP (nos ns) f) (ahd p.toList) N.kids s)) := by
 have HK : Hid _ := xai hk (xai hk.len_eq hc.k)
 have HM : Hid _ := M
 have HW : Hid _ := xai h (xai hok hf)
 have HN : Hid _ := hns
 clear hk hc M h hok hf hns
 obtain ⟨k, mo, uid, gid, ti, sz_, da, dl, dc, data, tg, dev, aa, al, ac, attrs, ka, kl, kc, kids, pa, lk⟩ := N
 simp only [NoV.val] at HK ⊢
 obtain ⟨pa, hpa⟩ : ∃ pa : Tx, pa = ahd p.toList := ⟨_, rfl⟩
 rw [← hpa]
 have hpl : pa.length ≤ 4097 := by
  rw [hpa]; unfold ahd
  split
  ·simp
  ·rw [List.length_append, tl_len]; simp; omega
 have HPA : Hid _ := xai hpa hpl
 have e47 : ∀ q : ByteArray, q ++ (⟨#[47]⟩ : ByteArray) = tx (q.toList ++ [47]) := fun q => by
  apply tl_inj
  rw [tx_tl]
  exact app_tx (q := [47])
 cases hb : (p.toList == []) with
 | true =>
  have hp0 : p.toList = [] := eq_of_beq hb
  have hpe : pa = [] := by rw [hpa, hp0]; rfl
  clear hpa hpl hpe
  go_enter Tryz.func109, Tryz.ntmps109
  go_wp2_with fail
  clear e47
  go_loopw [16] (fun v16 wr => ∃ k : Nat, k ≤ kl ∧ v16 = .int .i64 k ∧ Hid (∃ s' va' vc', kidsP (meetP (nos ns) f) pa kids s = kidsP (meetP (nos ns) f) pa (kids.drop k) s' ∧ Wm w wr gw gm na n nc ns s' va' vc' ∧ s'.ok n ∧ n - s'.met.length < f)) (fun v16 _ => kl - (intOf v16).toNat)
  case atStart => exact ⟨0, Nat.zero_le _, rfl, s, va, vc, by rw [List.drop_zero], HW.out.1.kept (xga _ _ none), HW.out.2⟩
  case round =>
   clear HW
   obtain ⟨k, hk, rfl, HI⟩ := hrel
   obtain ⟨s1, va1, vc1, e1, hm1, ho1, hf1⟩ := HI.out
   clear HI
   by_cases hlt : k < kl
   ·obtain ⟨K, hK⟩ : ∃ K, kids[k]? = some K := ⟨_, List.getElem?_eq_getElem (by rw [HK.out.2.1]; exact hlt)⟩
    obtain ⟨b, off, rfl, hat⟩ := HK.out.1.at_ (by omega)
    have y0 := cell_grown (hat k K hK).c0 hm1.eo.gr
    have y1 := cell_grown (hat k K hK).c1 hm1.eo.gr
    have hkn := HK.out.2.2 K (List.mem_of_getElem? hK)
    rw [kidsP_drop hK] at e1
    have HE : Hid _ := e1
    obtain ⟨kn, ki⟩ := K
    simp only at y0 y1 hkn HE
    have hlti : (k : Int) < (kl : Int) := by omega
    have gA := xga wr (.cells #[.string (tx kn), .int .i64 ki] 47) none
    have HM1 : Hid _ := xai (hm1.kept gA) (xai ho1 hf1)
    have bK := Bx.new wr 47 [.string (tx kn), .int .i64 ki]
    have c0 := bK.c 0
    have c1 := bK.c 1
    clear bK
    clear hm1 ho1 hf1 gA e1 hat hK
    go_wp2_with fail
    generalize wr.alloc (.cells #[.string (tx kn), .int .i64 ki] 47) = WA at *
    refine (pvalid_eq (tx kn) _ (by rw [tx_size]; exact hkn)).mono ?_
    rintro e W2 ⟨rfl, rfl⟩
    rw [tx_tl]
    cases hv : vld kn with
    | false =>
     rw [hv, if_neg Bool.false_ne_true] at HE
     go_wp2_with fail
     refine (pnotree_any _).mono ?_
     rintro e W3 ⟨rfl, rfl⟩
     go_wp2_with fail
     exact ⟨rfl, Or.inl ⟨HE.out, rfl, HM1.out.1.eo.gr⟩⟩
    | true =>
     rw [hv, if_pos rfl] at HE
     have hpq : ((⟨#[]⟩ : ByteArray) ++ tx kn).toList = pa ++ kn := by rw [app_tx, HPA.out.1]; rw [hp0]; show (tx []).toList ++ kn = _; rw [tx_tl]; rfl
     have hvl := vld_len hv
     have hsz : ((⟨#[]⟩ : ByteArray) ++ tx kn).size ≤ 2000000 := by rw [← tl_len, hpq, List.length_append]; have := HPA.out.2; omega
     have hmc := HM.out s1 ki ((⟨#[]⟩ : ByteArray) ++ tx kn) WA va1 vc1 HM1.out.1 HM1.out.2.1 hsz HM1.out.2.2
     rw [hpq] at hmc
     have hs1 : ¬ 9223372036854775807 < (tx kn).size := by rw [tx_size]; omega
     cases hq : meetP (nos ns) f s1 ki (pa ++ kn) with
     | none =>
      rw [hq] at HE hmc
      simp only at HE
      go_wp2_with fail
      refine hmc.mono ?_
      rintro e W3 (⟨-, rfl, hg⟩ | ⟨s2, va2, vc2, ho, -⟩)
      ·go_wp2_with fail
       exact ⟨rfl, Or.inl ⟨HE.out, rfl, hg⟩⟩
      ·cases ho
     | some s2 =>
      rw [hq] at HE hmc
      simp only at HE
      have hok2 := meetP_ok f s1 ki (pa ++ kn) s2 (by rw [nos_len, HN.out]; exact HM1.out.2.1) hq
      go_wp2_with fail
      refine hmc.mono ?_
      rintro e W3 (⟨ho, -⟩ | ⟨s3, va2, vc2, ho, rfl, hm2⟩)
      ·cases ho
      ·injection ho with ho
       subst ho
       have HM2 : Hid _ := hm2
       clear hm2 hmc
       go_wp2_with fail
       have hf2 := HM1.out.2.2
       have hkl := HK.out.1.le
       unfold maxLen at hkl
       have hk1 : wrap64 ((k : Int) + 1) = ((k + 1 : Nat) : Int) := wrapk (by omega)
       have hI : Hid (∃ s' va' vc', kidsP (meetP (nos ns) f) pa kids s = kidsP (meetP (nos ns) f) pa (kids.drop (k + 1)) s' ∧ Wm w W3 gw gm na n nc ns s' va' vc' ∧ s'.ok n ∧ n - s'.met.length < f) := by
        refine ⟨s2, va2, vc2, HE.out, HM2.out, ?_, ?_⟩
        ·have := hok2.1
         rw [nos_len, HN.out] at this
         exact this
        ·have := hok2.2
         omega
       rw [hk1]
       refine ⟨⟨k + 1, hlt, rfl, hI⟩, ?_⟩
       simp only [intOf, Int.toNat_natCast]
       exact Nat.sub_lt_sub_left hlt (Nat.lt_succ_self k)
   ·obtain rfl : k = kl := by omega
    have hlti : ¬ (k : Int) < (k : Int) := by omega
    rw [List.drop_eq_nil_of_le (by rw [HK.out.2.1]; exact Nat.le_refl _)] at e1
    have HE : Hid _ := xai e1 hm1
    clear e1 hm1 ho1 hf1
    go_wp2_with fail
    go_end0
    exact Or.inr ⟨s1, va1, vc1, HE.out.1, rfl, HE.out.2⟩
 | false =>
  have hp0 : ¬ p.toList = [] := fun e => by rw [e] at hb; simp at hb
  clear hpa hpl
  go_enter Tryz.func109, Tryz.ntmps109
  go_wp2_with fail
  have hql : (tx (p.toList ++ [47])).toList = p.toList ++ [47] := tx_tl _
  generalize tx (p.toList ++ [47]) = q at *
  have HQ : Hid _ := hql
  clear hql
  clear e47
  go_loopw [16] (fun v16 wr => ∃ k : Nat, k ≤ kl ∧ v16 = .int .i64 k ∧ Hid (∃ s' va' vc', kidsP (meetP (nos ns) f) pa kids s = kidsP (meetP (nos ns) f) pa (kids.drop k) s' ∧ Wm w wr gw gm na n nc ns s' va' vc' ∧ s'.ok n ∧ n - s'.met.length < f)) (fun v16 _ => kl - (intOf v16).toNat)
  case atStart => exact ⟨0, Nat.zero_le _, rfl, s, va, vc, by rw [List.drop_zero], HW.out.1.kept (xga _ _ none), HW.out.2⟩
  case round =>
   clear HW
   obtain ⟨k, hk, rfl, HI⟩ := hrel
   obtain ⟨s1, va1, vc1, e1, hm1, ho1, hf1⟩ := HI.out
   clear HI
   by_cases hlt : k < kl
   ·obtain ⟨K, hK⟩ : ∃ K, kids[k]? = some K := ⟨_, List.getElem?_eq_getElem (by rw [HK.out.2.1]; exact hlt)⟩
    obtain ⟨b, off, rfl, hat⟩ := HK.out.1.at_ (by omega)
    have y0 := cell_grown (hat k K hK).c0 hm1.eo.gr
    have y1 := cell_grown (hat k K hK).c1 hm1.eo.gr
    have hkn := HK.out.2.2 K (List.mem_of_getElem? hK)
    rw [kidsP_drop hK] at e1
    have HE : Hid _ := e1
    obtain ⟨kn, ki⟩ := K
    simp only at y0 y1 hkn HE
    have hlti : (k : Int) < (kl : Int) := by omega
    have gA := xga wr (.cells #[.string (tx kn), .int .i64 ki] 47) none
    have HM1 : Hid _ := xai (hm1.kept gA) (xai ho1 hf1)
    have bK := Bx.new wr 47 [.string (tx kn), .int .i64 ki]
    have c0 := bK.c 0
    have c1 := bK.c 1
    clear bK
    clear hm1 ho1 hf1 gA e1 hat hK
    go_wp2_with fail
    generalize wr.alloc (.cells #[.string (tx kn), .int .i64 ki] 47) = WA at *
    refine (pvalid_eq (tx kn) _ (by rw [tx_size]; exact hkn)).mono ?_
    rintro e W2 ⟨rfl, rfl⟩
    rw [tx_tl]
    cases hv : vld kn with
    | false =>
     rw [hv, if_neg Bool.false_ne_true] at HE
     go_wp2_with fail
     refine (pnotree_any _).mono ?_
     rintro e W3 ⟨rfl, rfl⟩
     go_wp2_with fail
     exact ⟨rfl, Or.inl ⟨HE.out, rfl, HM1.out.1.eo.gr⟩⟩
    | true =>
     rw [hv, if_pos rfl] at HE
     have hpq : (q ++ tx kn).toList = pa ++ kn := by rw [app_tx, HPA.out.1]; rw [HQ.out]; unfold ahd; rw [if_neg hp0]
     have hvl := vld_len hv
     have hsz : (q ++ tx kn).size ≤ 2000000 := by rw [← tl_len, hpq, List.length_append]; have := HPA.out.2; omega
     have hmc := HM.out s1 ki (q ++ tx kn) WA va1 vc1 HM1.out.1 HM1.out.2.1 hsz HM1.out.2.2
     rw [hpq] at hmc
     have hs1 : ¬ 9223372036854775807 < (tx kn).size := by rw [tx_size]; omega
     have hs2 : ¬ 9223372036854775807 < q.size + (tx kn).size := by
      have h1 := tl_len q
      rw [HQ.out, List.length_append, tl_len, List.length_singleton] at h1
      rw [tx_size]; omega
     cases hq : meetP (nos ns) f s1 ki (pa ++ kn) with
     | none =>
      rw [hq] at HE hmc
      simp only at HE
      go_wp2_with fail
      refine hmc.mono ?_
      rintro e W3 (⟨-, rfl, hg⟩ | ⟨s2, va2, vc2, ho, -⟩)
      ·go_wp2_with fail
       exact ⟨rfl, Or.inl ⟨HE.out, rfl, hg⟩⟩
      ·cases ho
     | some s2 =>
      rw [hq] at HE hmc
      simp only at HE
      have hok2 := meetP_ok f s1 ki (pa ++ kn) s2 (by rw [nos_len, HN.out]; exact HM1.out.2.1) hq
      go_wp2_with fail
      refine hmc.mono ?_
      rintro e W3 (⟨ho, -⟩ | ⟨s3, va2, vc2, ho, rfl, hm2⟩)
      ·cases ho
      ·injection ho with ho
       subst ho
       have HM2 : Hid _ := hm2
       clear hm2 hmc
       go_wp2_with fail
       have hf2 := HM1.out.2.2
       have hkl := HK.out.1.le
       unfold maxLen at hkl
       have hk1 : wrap64 ((k : Int) + 1) = ((k + 1 : Nat) : Int) := wrapk (by omega)
       have hI : Hid (∃ s' va' vc', kidsP (meetP (nos ns) f) pa kids s = kidsP (meetP (nos ns) f) pa (kids.drop (k + 1)) s' ∧ Wm w W3 gw gm na n nc ns s' va' vc' ∧ s'.ok n ∧ n - s'.met.length < f) := by
        refine ⟨s2, va2, vc2, HE.out, HM2.out, ?_, ?_⟩
        ·have := hok2.1
         rw [nos_len, HN.out] at this
         exact this
        ·have := hok2.2
         omega
       rw [hk1]
       refine ⟨⟨k + 1, hlt, rfl, hI⟩, ?_⟩
       simp only [intOf, Int.toNat_natCast]
       exact Nat.sub_lt_sub_left hlt (Nat.lt_succ_self k)
   ·obtain rfl : k = kl := by omega
    have hlti : ¬ (k : Int) < (k : Int) := by omega
    rw [List.drop_eq_nil_of_le (by rw [HK.out.2.1]; exact Nat.le_refl _)] at e1
    have HE : Hid _ := xai e1 hm1
    clear e1 hm1 ho1 hf1
    go_wp2_with fail
    go_end0
    exact Or.inr ⟨s1, va1, vc1, HE.out.1, rfl, HE.out.2⟩
end Go.Proofs.YtlehncfehoelbaaGreatDoor
