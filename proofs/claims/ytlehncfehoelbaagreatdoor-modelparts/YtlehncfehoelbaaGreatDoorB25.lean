/- The program's tree: how many bytes. The program's tree: Check. -/
import Derived.Test.YtlehncfehoelbaaGreatDoorB08
import Derived.Test.YtlehncfehoelbaaGreatDoorB23
namespace Go.Proofs.YtlehncfehoelbaaGreatDoor
open Go.RowKit
set_option maxRecDepth 100000
set_option linter.unusedSimpArgs false
set_option linter.unusedVariables false
set_option maxHeartbeats 2000000 in
theorem ptoolong_any (a : Option Addr) (len cap : Nat) (l : List EnV) (w : World) (E : Ens w a len l) :
  Calls Tryz.prog 61 #[.slice a len cap] w fun e w' => e = .returned (.bool (decide (8388608 < sums (ens l)))) ∧ w.grownBy w' none := by
 have hll := E.len_eq
 have hle : len ≤ 9223372036854775807 := E.le
 have hta : (ens l).take len = ens l := List.take_of_length_le (by rw [ens_len]; omega)
 have HI : Hid _ := And.intro E (And.intro hll hta)
 clear E hll hta
 generalize hA : decide (8388608 < sums (ens l)) = A
 have HA : Hid _ := hA
 clear hA
 go_enter Tryz.func61, Tryz.ntmps61
 go_wp2_with fail
 go_loopw [3, 8] (fun vs vi wr => ∃ (k : Nat) (sm : Int), k ≤ len ∧ vi = .int .i64 k ∧ vs = .int .i64 (8388608 - sm) ∧ 0 ≤ sm ∧ sm ≤ 8388608 ∧ Hid (sm = sums ((ens l).take k)) ∧ Hid (w.grownBy wr none)) (fun _ vi _ => len - (intOf vi).toNat)
 case atStart => exact ⟨0, 0, Nat.zero_le _, rfl, rfl, by omega, by omega, rfl, World.grownBy.refl _ _⟩
 case round =>
  obtain ⟨k, sm, hk, rfl, rfl, hs0, hs1, HS, HG⟩ := hrel
  by_cases hlt : k < len
  ·obtain ⟨Y, hY⟩ : ∃ Y, l[k]? = some Y := ⟨_, List.getElem?_eq_getElem (by have := HI.out.2.1; omega)⟩
   obtain ⟨b, off, rfl, hat⟩ := (HI.out.1.grown HG.out).at_ (by omega)
   obtain ⟨y0, y1, y2, y3, y4, y5, y6, y7, y8, y9, y10, yok⟩ := hat k Y hY
   have hsn := sums_snoc hY
   have hmo := sums_mono (l := l) (k := k + 1) (n := len) (by omega)
   rw [HI.out.2.2, hsn, ← HS.out, yok.row.len_eq] at hmo
   rw [← HS.out, yok.row.len_eq] at hsn
   have hdl : Y.dl ≤ 9223372036854775807 := yok.row.le
   have HN : Hid _ := And.intro hsn hmo
   clear hsn hmo hat yok hY
   obtain ⟨path, KY, mode, uid, gid, time, size, da, D, dc, data, target, dev, aa, al, ac, attrs⟩ := Y
   simp only at y0 y1 y2 y3 y4 y5 y6 y7 y8 y9 y10 hdl HN
   have hlti : (k : Int) < (len : Int) := by omega
   by_cases hK : KY = 1
   ·have hKb : (KY == 1) = true := by rw [hK]; rfl
    have hKn : (KY != 1) = false := by rw [hK]; rfl
    by_cases hD : 8388608 - sm < D
    ·have HV : Hid (A = true) := by
      show A = true
      have := HN.out.2
      rw [if_pos hK] at this
      rw [← HA.out]
      exact decide_eq_true (by omega)
     clear hK
     go_wp2_with fail
     go_ret
     exact ⟨by rw [HV.out]; rfl, grown_trans HG.out (World.grownBy_alloc _ _ none)⟩
    ·have HN2 : Hid (sm + D = sums ((ens l).take (k + 1))) := by
      show _ = _
      rw [HN.out.1, if_pos hK]
     clear hK
     go_wp2_with fail
     exact ⟨⟨k + 1, sm + D, by omega, by go_num, by go_num, by omega, by omega, HN2, grown_trans HG.out (World.grownBy_alloc _ _ none)⟩, by simp [intOf]; omega⟩
   ·have hKb : (KY == 1) = false := by rw [beq_eq_false_iff_ne]; exact hK
    have hKn : (KY != 1) = true := by simp [hK]
    have HN2 : Hid (sm = sums ((ens l).take (k + 1))) := by
     show _ = _
     rw [HN.out.1, if_neg hK]; omega
    clear hK
    go_wp2_with fail
    exact ⟨⟨k + 1, sm, by omega, by go_num, rfl, by omega, by omega, HN2, grown_trans HG.out (World.grownBy_alloc _ _ none)⟩, by simp [intOf]; omega⟩
  ·have hlti : ¬ (k : Int) < (len : Int) := by omega
   obtain rfl : k = len := by omega
   have HV : Hid (A = false) := by
    show A = false
    rw [← HA.out]
    have := HS.out
    rw [HI.out.2.2] at this
    exact decide_eq_false (by omega)
   go_wp2_with fail
   go_ret
   exact ⟨by rw [HV.out]; rfl, HG.out⟩
end Go.Proofs.YtlehncfehoelbaaGreatDoor
namespace Go.Proofs.YtlehncfehoelbaaGreatDoor
open Go.RowKit
set_option maxRecDepth 100000
open Go.Maps (Keyed)
set_option linter.unusedSimpArgs false
set_option linter.unusedVariables false
set_option maxHeartbeats 2000000 in
theorem pparts_any (P : ByteArray) (w : World) (hp : P.size ≤ 5000) : Calls Tryz.prog 90 #[.string P] w fun e w' => e = .returned (.tuple #[.int .i64 (prt11 P.toList).1, .bool (prt11 P.toList).2]) ∧ w.grownBy w' none := by
 have hsh := @spl_short P.toList
 have hsp := fun W => psplit_any P W (by omega)
 have ha := @prt_a P.toList
 have hb := @prt_b P.toList
 have hc := @prt_c P.toList
 generalize prt11 P.toList = A at *
 generalize spl P.toList = r at *
 obtain ⟨T, E⟩ := r
 simp only at ha hb hc hsh
 by_cases h2 : E = 0
 ·subst h2
  obtain ⟨hs1, hs2⟩ := hsh rfl
  have HS : Hid _ := And.intro hs1 hs2
  have HA : Hid _ := And.intro (hb rfl) (hc rfl)
  clear hsh hs1 hs2 ha hb hc
  go_enter Tryz.func90, Tryz.ntmps90
  go_wp2_with (go_at_call 85; refine (hsp _).mono ?_; rintro e w1 ⟨a, n, c, rfl, hown, HG⟩)
  obtain ⟨a, c, e9, R, hcap, hcm⟩ := owns_srow hown
  injection e9 with e9a e9n e9c
  subst e9a e9c
  have hT : T.length = n := by have := R.len_eq; unfold txs at this; rw [List.length_map] at this; exact this
  have hn : n ≤ 128 := by have := HS.out.2; omega
  have HG2 : Hid _ := HG
  clear HG hown
  have hjo := fun W (RW : SRow W a n (txs T)) => pjoin_any a n c (txs T) W RW hcap (by omega) (fun i => Nat.le_trans (txs_size HS.out.1 i) (by decide))
  rw [tls_txs] at hjo
  have HT : Hid _ := hT
  clear hT
  go_loop [18] (fun i => ∃ k : Nat, k ≤ n ∧ i = .int .i64 k ∧ Hid ((T.take k).any (fun p => !vld p) = false)) (fun i => n - (intOf i).toNat)
  case atStart => exact ⟨0, Nat.zero_le _, rfl, rfl⟩
  case round =>
   obtain ⟨k, hk, rfl, HB⟩ := hrel
   by_cases hlt : k < n
   ·obtain ⟨b, off, rfl, hcell⟩ := R.cells (by omega)
    have hck := hcell k hlt
    have hsn := any_snoc (l := T) (i := k) (by rw [HT.out]; exact hlt) (fun p => !vld p)
    rw [HB.out, Bool.false_or] at hsn
    have hsz := txs_size HS.out.1 k
    generalize (txs T).getD k ⟨#[]⟩ = s0 at *
    have hv := fun W => pvalid_eq s0 W (by omega)
    have HN : Hid _ := hsn
    clear hsn hcell R hjo
    cases hvv : vld s0.toList with
    | true =>
     rw [hvv] at hv
     have HN2 : Hid ((T.take (k + 1)).any (fun p => !vld p) = false) := by
      show List.any _ _ = false
      rw [HN.out, hvv]; rfl
     go_wp2_with (go_at_call 83; refine (hv _).mono ?_; rintro e w' ⟨rfl, rfl⟩)
     go_round
     case rel => exact ⟨k + 1, by omega, by go_num, HN2⟩
     case measure => simp [intOf]; omega
    | false =>
     rw [hvv] at hv
     have HV : Hid (A = (0, false)) := by
      show A = (0, false)
      have e5 : T.any (fun p => !vld p) = true := by
       rw [← List.take_append_drop (k + 1) T, List.any_append, HN.out, hvv]; rfl
      exact HA.out.1 e5
     go_wp2_with (go_at_call 83; refine (hv _).mono ?_; rintro e w' ⟨rfl, rfl⟩)
     go_ret2
     exact ⟨by rw [HV.out]; rfl, HG2.out⟩
   ·obtain rfl : k = n := by omega
    have e5 : T.any (fun p => !vld p) = false := by
     have := HB.out
     rw [List.take_of_length_le (by rw [HT.out]; exact Nat.le_refl _)] at this
     exact this
    have HE2 : Hid (A = ((k : Int), decide ((jnp T).2 = 0) && ((jnp T).1 == P.toList))) := by
     show A = _
     rw [HA.out.2 e5, HT.out]
    clear e5 HA HB hsp
    generalize jnp T = j at *
    obtain ⟨J, F⟩ := j
    simp only at HE2 hjo
    have hj1 := hjo w1 R
    clear hjo R
    by_cases hF : F = 0
    ·subst hF
     have HE3 : Hid (A = ((k : Int), (tx J).toList == P.toList)) := by
      show A = _
      rw [HE2.out, tx_tl]; rfl
     clear HE2
     generalize tx J = j0 at *
     go_wp2_with (go_at_call 112; refine hj1.mono ?_; rintro e w' ⟨rfl, hg⟩)
     go_ret2
     exact ⟨by rw [HE3.out]; rfl, grown_trans HG2.out hg⟩
    ·have HV : Hid (A = ((k : Int), false)) := by
      show A = _
      rw [HE2.out, decide_eq_false hF]; rfl
     have hFb : (F == 0) = false := by rw [beq_eq_false_iff_ne]; exact hF
     clear HE2
     generalize tx J = j0 at *
     go_wp2_with (go_at_call 112; refine hj1.mono ?_; rintro e w' ⟨rfl, hg⟩)
     go_ret2
     exact ⟨by rw [HV.out]; rfl, grown_trans HG2.out hg⟩
 ·have HV : Hid (A = (0, false)) := ha h2
  have h2b : (E == 0) = false := by rw [beq_eq_false_iff_ne]; exact h2
  clear h2 ha hb hc hsh
  go_enter Tryz.func90, Tryz.ntmps90
  go_wp2_with (go_at_call 85; refine (hsp _).mono ?_; rintro e w1 ⟨a, n, c, rfl, hown, HG⟩)
  go_ret2
  exact ⟨by rw [HV.out]; rfl, HG⟩
theorem bxe11 {W : World} {g : Nat} {T : TypeId} {x0 x1 x2 x3 x4 x5 x6 x7 x8 x9 x10 : Value} (h : Bx W g T [x0, x1, x2, x3, x4, x5, x6, x7, x8, x9, x10]) : W.cell? ⟨g, 0, none⟩ = some x0 ∧ W.cell? ⟨g, 1, none⟩ = some x1 ∧ W.cell? ⟨g, 2, none⟩ = some x2 ∧ W.cell? ⟨g, 3, none⟩ = some x3 ∧ W.cell? ⟨g, 4, none⟩ = some x4 ∧ W.cell? ⟨g, 5, none⟩ = some x5 ∧ W.cell? ⟨g, 6, none⟩ = some x6 ∧ W.cell? ⟨g, 7, none⟩ = some x7 ∧ W.cell? ⟨g, 8, none⟩ = some x8 ∧ W.cell? ⟨g, 9, none⟩ = some x9 ∧ W.cell? ⟨g, 10, none⟩ = some x10 :=
 ⟨h.c 0, h.c 1, h.c 2, h.c 3, h.c 4, h.c 5, h.c 6, h.c 7, h.c 8, h.c 9, h.c 10⟩
set_option maxHeartbeats 8000000 in
theorem pfault_any (X : EnV) (i : Nat) (w : World) (b n : Nat) (l : List En) (M : MapF w 9 b n (plK l)) (hp : X.path.size ≤ 5000) (ok : X.ok w) (ht : X.target.size ≤ 9223372036854775807) (hz : ∀ A ∈ X.attrs, A.n.size ≤ 9223372036854775807) (hi : i ≤ 1000000) :
  Calls Tryz.prog 63 #[X.val, .int .i64 i, .map (some b)] w fun e w' => e = .returned (.int .i64 (flt11 l i X.en)) ∧ w.grownBy w' none := by
 have hpa := fun W => pparts_any X.path W hp
 have hcu := fun W => (pcut_any X.path W (by omega)).mono (R' := fun e w' => e = .returned (.tuple #[.string (tx (upT X.path.toList)), .string (tx (lastT X.path.toList))]) ∧ W.grownBy w' none) (by rintro e w' ⟨rfl, t, rfl⟩; exact ⟨rfl, drewG11 (World.grownBy.refl _ _) t⟩)
 have hhf := fun W (g : w.grownBy W none) => phardfault_any X W b n l (M.kept g (by simp)) ht
 have hff := fun W => pfieldsfit_any X W ok.row.len_eq ok.row.le ht
 have haf := fun W (g : w.grownBy W none) => pattrsfit_any X.aa X.al X.ac X.attrs W (ok.ats.grown g) hz
 have hat := fun W (g : w.grownBy W none) (hn : X.al ≤ 100000) => pattrtwice_any X.aa X.al X.ac X.attrs W (ok.ats.grown g) hn hz
 have hl1 := fun W (g : w.grownBy W none) => look57 (M.kept g (by simp)) (s := X.path) (by omega)
 have hus : (tx (upT X.path.toList)).size ≤ 9223372036854775807 := by
  have h : (upT X.path.toList).length ≤ X.path.toList.length := by
   unfold upT
   split
   ·simp
   ·rw [List.length_take]; omega
  rw [tx_size]
  rw [tl_len] at h
  omega
 have hl2 := fun W (g : w.grownBy W none) => look57 (M.kept g (by simp)) hus
 rw [tx_tl] at hl2
 have hal := ok.ats.len_eq
 have hall : X.al ≤ 9223372036854775807 := ok.ats.le
 have HF : Hid (flt11 l i X.en = if X.k < 1 ∨ 6 < X.k then 8 else if (prt11 X.path.toList).2 = false ∨ (X.path.toList = [] ∧ X.k ≠ 2) then 6 else if 64 < (prt11 X.path.toList).1 then 3 else if plF l X.path.toList ≠ i then 110 else
  if 1 < (prt11 X.path.toList).1 ∧ folder l (upT X.path.toList) = false then 4 else if X.k = 6 then (if thing l X.target.toList then 0 else 4) else
  if fldF X.en = false ∨ (!decide (64 < X.al) && (X.attrs.map AtV.at).all atFit) = false then 1 else if twice (X.attrs.map AtV.at) X.al then 110 else 0) := by
  show flt11 l i X.en = _
  unfold flt11
  simp only [EnV.en, List.length_map, hal]
  rfl
 obtain ⟨path, K, mode, uid, gid, time, size, da, dl, dc, data, target, dev, aa, al, ac, attrs⟩ := X
 simp only [EnV.val] at hhf hff ⊢
 simp only at hpa hcu hhf hff haf hat hl1 hl2 hall HF
 clear M ok hz hal hus
 generalize flt11 l i (EnV.en ⟨path, K, mode, uid, gid, time, size, da, dl, dc, data, target, dev, aa, al, ac, attrs⟩) = A at *
 generalize fldF (EnV.en ⟨path, K, mode, uid, gid, time, size, da, dl, dc, data, target, dev, aa, al, ac, attrs⟩) = FF at *
 have haf64 : (!decide (64 < al) && (attrs.map AtV.at).all atFit) = true → al ≤ 100000 := by
  intro h
  have h1 := (Bool.and_eq_true_iff.1 h).1
  have h2 : decide (64 < al) = false := by simpa using h1
  have := of_decide_eq_false h2
  omega
 generalize (!decide (64 < al) && (attrs.map AtV.at).all atFit) = AF at *
 generalize twice (attrs.map AtV.at) al = TW at *
 generalize plF l path.toList = PF at *
 generalize folder l path.toList = D1 at *
 generalize thing l path.toList = T1 at *
 generalize plF l (upT path.toList) = PF2 at *
 generalize folder l (upT path.toList) = D2 at *
 generalize thing l (upT path.toList) = T2 at *
 generalize thing l target.toList = TT at *
 generalize tx (upT path.toList) = up at *
 generalize tx (lastT path.toList) = la at *
 generalize prt11 path.toList = PP at *
 obtain ⟨dp, ok⟩ := PP
 simp only at HF hpa
 have hf0 := field_pl0
 have hf1 := field_pl1
 have G0 : Hid _ := World.grownBy_alloc w (.cells #[.string path, .int .i64 K, .int .i64 mode, .int .i64 uid, .int .i64 gid, .int .i64 time, .int .i64 size, .slice da dl dc, .string target, .int .i64 dev, .slice aa al ac] 30) none
 have HX : Hid _ := Bx.new w 30 [.string path, .int .i64 K, .int .i64 mode, .int .i64 uid, .int .i64 gid, .int .i64 time, .int .i64 size, .slice da dl dc, .string target, .int .i64 dev, .slice aa al ac]
 by_cases k1 : K < 1
 ·rw [if_pos (Or.inl k1)] at HF
  go_enter Tryz.func63, Tryz.ntmps63
  go_wp2_with fail
  go_ret
  exact ⟨by rw [HF.out]; rfl, G0.out⟩
 by_cases k6 : 6 < K
 ·rw [if_pos (Or.inr k6)] at HF
  go_enter Tryz.func63, Tryz.ntmps63
  go_wp2_with fail
  go_ret
  exact ⟨by rw [HF.out]; rfl, G0.out⟩
 rw [if_neg (by omega)] at HF
 go_enter Tryz.func63, Tryz.ntmps63
 go_wp2_with (first | (go_at_call 90; refine (hpa _).mono ?_; rintro e W1 ⟨rfl, g1⟩; have HX1 : Hid _ := HX.out.kept g1; have HG1 : Hid _ := grown_trans G0.out g1; clear g1 HX; obtain ⟨x0, x1, -⟩ := bxe11 HX1.out) | (go_at_call 67; refine (hcu _).mono ?_; rintro e W2 ⟨rfl, g2⟩; have HX2 : Hid _ := HX1.out.kept g2; have HG2 : Hid _ := grown_trans HG1.out g2; clear g2 HX1 HG1 x0 x1; rename_i hnext; have HNX : Hid _ := hnext; clear hnext))
 clear hpa hcu G0
 obtain ⟨x0, x1, x2, x3, x4, x5, x6, x7, x8, x9, x10⟩ := bxe11 HX2.out
 have l1 := hl1 W2 HG2.out
 have l2 := hl2 W2 HG2.out
 have hHF := hhf W2 HG2.out
 clear hl1 hl2 hhf
 clear k1 k6
 cases ok with
 | false =>
  rw [if_pos (Or.inl rfl)] at HF
  refine HNX.out _ _ ?_
  clear HNX
  go_wp2_with (first | (go_at_call 91; refine hHF.mono ?_; rintro e W3 ⟨rfl, g3⟩) | (go_at_call 92; refine (hff _).mono ?_; rintro e W3 ⟨rfl, g3⟩; have HX3 : Hid _ := HX2.out.kept g3; have HG3 : Hid _ := grown_trans HG2.out g3; clear g3; obtain ⟨y0, y1, y2, y3, y4, y5, y6, y7, y8, y9, y10⟩ := bxe11 HX3.out) | (go_at_call 93; refine (haf _ HG3.out).mono ?_; rintro e W4 ⟨rfl, g4⟩; have HX4 : Hid _ := HX3.out.kept g4; have HG4 : Hid _ := grown_trans HG3.out g4; clear g4; obtain ⟨z0, z1, z2, z3, z4, z5, z6, z7, z8, z9, z10⟩ := bxe11 HX4.out) | (go_at_call 94; refine (hat _ HG4.out hal2).mono ?_; rintro e W5 ⟨rfl, g5⟩))
  go_ret
  exact ⟨by rw [HF.out]; rfl, HG2.out⟩
 | true =>
  cases hpe : (path.toList == []) with
  | true =>
   have hpe2 : path.toList = [] := eq_of_beq hpe
   by_cases k2 : K = 2
   ·rw [if_neg (by rintro (h | h); cases h; exact h.2 k2)] at HF
    have b2 : (K == 2) = true := by rw [k2]; rfl
    have b2n : (K != 2) = false := by rw [k2]; rfl
    have b6 : (K == 6) = false := by rw [k2]; rfl
    clear k2
    by_cases d64 : 64 < dp
    ·rw [if_pos d64] at HF
     refine HNX.out _ _ ?_
     clear HNX
     go_wp2_with (first | (go_at_call 91; refine hHF.mono ?_; rintro e W3 ⟨rfl, g3⟩) | (go_at_call 92; refine (hff _).mono ?_; rintro e W3 ⟨rfl, g3⟩; have HX3 : Hid _ := HX2.out.kept g3; have HG3 : Hid _ := grown_trans HG2.out g3; clear g3; obtain ⟨y0, y1, y2, y3, y4, y5, y6, y7, y8, y9, y10⟩ := bxe11 HX3.out) | (go_at_call 93; refine (haf _ HG3.out).mono ?_; rintro e W4 ⟨rfl, g4⟩; have HX4 : Hid _ := HX3.out.kept g4; have HG4 : Hid _ := grown_trans HG3.out g4; clear g4; obtain ⟨z0, z1, z2, z3, z4, z5, z6, z7, z8, z9, z10⟩ := bxe11 HX4.out) | (go_at_call 94; refine (hat _ HG4.out hal2).mono ?_; rintro e W5 ⟨rfl, g5⟩))
     go_ret
     exact ⟨by rw [HF.out]; rfl, HG2.out⟩
    rw [if_neg d64] at HF
    by_cases hpf : PF = (i : Int)
    rotate_left
    ·rw [if_pos hpf] at HF
     have bpf : (PF == (i : Int)) = false := by rw [beq_eq_false_iff_ne]; exact hpf
     clear hpf
     refine HNX.out _ _ ?_
     clear HNX
     go_wp2_with (first | (go_at_call 91; refine hHF.mono ?_; rintro e W3 ⟨rfl, g3⟩) | (go_at_call 92; refine (hff _).mono ?_; rintro e W3 ⟨rfl, g3⟩; have HX3 : Hid _ := HX2.out.kept g3; have HG3 : Hid _ := grown_trans HG2.out g3; clear g3; obtain ⟨y0, y1, y2, y3, y4, y5, y6, y7, y8, y9, y10⟩ := bxe11 HX3.out) | (go_at_call 93; refine (haf _ HG3.out).mono ?_; rintro e W4 ⟨rfl, g4⟩; have HX4 : Hid _ := HX3.out.kept g4; have HG4 : Hid _ := grown_trans HG3.out g4; clear g4; obtain ⟨z0, z1, z2, z3, z4, z5, z6, z7, z8, z9, z10⟩ := bxe11 HX4.out) | (go_at_call 94; refine (hat _ HG4.out hal2).mono ?_; rintro e W5 ⟨rfl, g5⟩))
     go_ret
     exact ⟨by rw [HF.out]; rfl, HG2.out⟩
    rw [if_neg (by simp [hpf])] at HF
    have bpf : (PF == (i : Int)) = true := by rw [hpf]; simp
    have HPF : Hid _ := hpf
    clear hpf
    by_cases d1 : 1 < dp
    ·cases D2 with
     | false =>
      rw [if_pos ⟨d1, rfl⟩] at HF
      refine HNX.out _ _ ?_
      clear HNX
      go_wp2_with (first | (go_at_call 91; refine hHF.mono ?_; rintro e W3 ⟨rfl, g3⟩) | (go_at_call 92; refine (hff _).mono ?_; rintro e W3 ⟨rfl, g3⟩; have HX3 : Hid _ := HX2.out.kept g3; have HG3 : Hid _ := grown_trans HG2.out g3; clear g3; obtain ⟨y0, y1, y2, y3, y4, y5, y6, y7, y8, y9, y10⟩ := bxe11 HX3.out) | (go_at_call 93; refine (haf _ HG3.out).mono ?_; rintro e W4 ⟨rfl, g4⟩; have HX4 : Hid _ := HX3.out.kept g4; have HG4 : Hid _ := grown_trans HG3.out g4; clear g4; obtain ⟨z0, z1, z2, z3, z4, z5, z6, z7, z8, z9, z10⟩ := bxe11 HX4.out) | (go_at_call 94; refine (hat _ HG4.out hal2).mono ?_; rintro e W5 ⟨rfl, g5⟩))
      go_ret
      exact ⟨by rw [HF.out]; rfl, HG2.out⟩
     | true =>
      rw [if_neg (by rintro ⟨h, k⟩; cases k)] at HF
      rw [if_neg (by intro h; rw [h] at b6; cases b6)] at HF
      cases FF with
      | false =>
       rw [if_pos (Or.inl rfl)] at HF
       refine HNX.out _ _ ?_
       clear HNX
       go_wp2_with (first | (go_at_call 91; refine hHF.mono ?_; rintro e W3 ⟨rfl, g3⟩) | (go_at_call 92; refine (hff _).mono ?_; rintro e W3 ⟨rfl, g3⟩; have HX3 : Hid _ := HX2.out.kept g3; have HG3 : Hid _ := grown_trans HG2.out g3; clear g3; obtain ⟨y0, y1, y2, y3, y4, y5, y6, y7, y8, y9, y10⟩ := bxe11 HX3.out) | (go_at_call 93; refine (haf _ HG3.out).mono ?_; rintro e W4 ⟨rfl, g4⟩; have HX4 : Hid _ := HX3.out.kept g4; have HG4 : Hid _ := grown_trans HG3.out g4; clear g4; obtain ⟨z0, z1, z2, z3, z4, z5, z6, z7, z8, z9, z10⟩ := bxe11 HX4.out) | (go_at_call 94; refine (hat _ HG4.out hal2).mono ?_; rintro e W5 ⟨rfl, g5⟩))
       go_ret
       exact ⟨by rw [HF.out]; rfl, HG3.out⟩
      | true =>
       cases AF with
       | false =>
        rw [if_pos (Or.inr rfl)] at HF
        refine HNX.out _ _ ?_
        clear HNX
        go_wp2_with (first | (go_at_call 91; refine hHF.mono ?_; rintro e W3 ⟨rfl, g3⟩) | (go_at_call 92; refine (hff _).mono ?_; rintro e W3 ⟨rfl, g3⟩; have HX3 : Hid _ := HX2.out.kept g3; have HG3 : Hid _ := grown_trans HG2.out g3; clear g3; obtain ⟨y0, y1, y2, y3, y4, y5, y6, y7, y8, y9, y10⟩ := bxe11 HX3.out) | (go_at_call 93; refine (haf _ HG3.out).mono ?_; rintro e W4 ⟨rfl, g4⟩; have HX4 : Hid _ := HX3.out.kept g4; have HG4 : Hid _ := grown_trans HG3.out g4; clear g4; obtain ⟨z0, z1, z2, z3, z4, z5, z6, z7, z8, z9, z10⟩ := bxe11 HX4.out) | (go_at_call 94; refine (hat _ HG4.out hal2).mono ?_; rintro e W5 ⟨rfl, g5⟩))
        go_ret
        exact ⟨by rw [HF.out]; rfl, HG4.out⟩
       | true =>
        rw [if_neg (by simp)] at HF
        have hal2 : al ≤ 100000 := haf64 rfl
        clear haf64
        cases TW with
        | false =>
         refine HNX.out _ _ ?_
         clear HNX
         go_wp2_with (first | (go_at_call 91; refine hHF.mono ?_; rintro e W3 ⟨rfl, g3⟩) | (go_at_call 92; refine (hff _).mono ?_; rintro e W3 ⟨rfl, g3⟩; have HX3 : Hid _ := HX2.out.kept g3; have HG3 : Hid _ := grown_trans HG2.out g3; clear g3; obtain ⟨y0, y1, y2, y3, y4, y5, y6, y7, y8, y9, y10⟩ := bxe11 HX3.out) | (go_at_call 93; refine (haf _ HG3.out).mono ?_; rintro e W4 ⟨rfl, g4⟩; have HX4 : Hid _ := HX3.out.kept g4; have HG4 : Hid _ := grown_trans HG3.out g4; clear g4; obtain ⟨z0, z1, z2, z3, z4, z5, z6, z7, z8, z9, z10⟩ := bxe11 HX4.out) | (go_at_call 94; refine (hat _ HG4.out hal2).mono ?_; rintro e W5 ⟨rfl, g5⟩))
         go_ret
         exact ⟨by rw [HF.out]; rfl, grown_trans HG4.out g5⟩
        | true =>
         refine HNX.out _ _ ?_
         clear HNX
         go_wp2_with (first | (go_at_call 91; refine hHF.mono ?_; rintro e W3 ⟨rfl, g3⟩) | (go_at_call 92; refine (hff _).mono ?_; rintro e W3 ⟨rfl, g3⟩; have HX3 : Hid _ := HX2.out.kept g3; have HG3 : Hid _ := grown_trans HG2.out g3; clear g3; obtain ⟨y0, y1, y2, y3, y4, y5, y6, y7, y8, y9, y10⟩ := bxe11 HX3.out) | (go_at_call 93; refine (haf _ HG3.out).mono ?_; rintro e W4 ⟨rfl, g4⟩; have HX4 : Hid _ := HX3.out.kept g4; have HG4 : Hid _ := grown_trans HG3.out g4; clear g4; obtain ⟨z0, z1, z2, z3, z4, z5, z6, z7, z8, z9, z10⟩ := bxe11 HX4.out) | (go_at_call 94; refine (hat _ HG4.out hal2).mono ?_; rintro e W5 ⟨rfl, g5⟩))
         go_ret
         exact ⟨by rw [HF.out]; rfl, grown_trans HG4.out g5⟩
    ·rw [if_neg (by rintro ⟨h, k⟩; exact d1 h)] at HF
     rw [if_neg (by intro h; rw [h] at b6; cases b6)] at HF
     cases FF with
     | false =>
      rw [if_pos (Or.inl rfl)] at HF
      refine HNX.out _ _ ?_
      clear HNX
      go_wp2_with (first | (go_at_call 91; refine hHF.mono ?_; rintro e W3 ⟨rfl, g3⟩) | (go_at_call 92; refine (hff _).mono ?_; rintro e W3 ⟨rfl, g3⟩; have HX3 : Hid _ := HX2.out.kept g3; have HG3 : Hid _ := grown_trans HG2.out g3; clear g3; obtain ⟨y0, y1, y2, y3, y4, y5, y6, y7, y8, y9, y10⟩ := bxe11 HX3.out) | (go_at_call 93; refine (haf _ HG3.out).mono ?_; rintro e W4 ⟨rfl, g4⟩; have HX4 : Hid _ := HX3.out.kept g4; have HG4 : Hid _ := grown_trans HG3.out g4; clear g4; obtain ⟨z0, z1, z2, z3, z4, z5, z6, z7, z8, z9, z10⟩ := bxe11 HX4.out) | (go_at_call 94; refine (hat _ HG4.out hal2).mono ?_; rintro e W5 ⟨rfl, g5⟩))
      go_ret
      exact ⟨by rw [HF.out]; rfl, HG3.out⟩
     | true =>
      cases AF with
      | false =>
       rw [if_pos (Or.inr rfl)] at HF
       refine HNX.out _ _ ?_
       clear HNX
       go_wp2_with (first | (go_at_call 91; refine hHF.mono ?_; rintro e W3 ⟨rfl, g3⟩) | (go_at_call 92; refine (hff _).mono ?_; rintro e W3 ⟨rfl, g3⟩; have HX3 : Hid _ := HX2.out.kept g3; have HG3 : Hid _ := grown_trans HG2.out g3; clear g3; obtain ⟨y0, y1, y2, y3, y4, y5, y6, y7, y8, y9, y10⟩ := bxe11 HX3.out) | (go_at_call 93; refine (haf _ HG3.out).mono ?_; rintro e W4 ⟨rfl, g4⟩; have HX4 : Hid _ := HX3.out.kept g4; have HG4 : Hid _ := grown_trans HG3.out g4; clear g4; obtain ⟨z0, z1, z2, z3, z4, z5, z6, z7, z8, z9, z10⟩ := bxe11 HX4.out) | (go_at_call 94; refine (hat _ HG4.out hal2).mono ?_; rintro e W5 ⟨rfl, g5⟩))
       go_ret
       exact ⟨by rw [HF.out]; rfl, HG4.out⟩
      | true =>
       rw [if_neg (by simp)] at HF
       have hal2 : al ≤ 100000 := haf64 rfl
       clear haf64
       cases TW with
       | false =>
        refine HNX.out _ _ ?_
        clear HNX
        go_wp2_with (first | (go_at_call 91; refine hHF.mono ?_; rintro e W3 ⟨rfl, g3⟩) | (go_at_call 92; refine (hff _).mono ?_; rintro e W3 ⟨rfl, g3⟩; have HX3 : Hid _ := HX2.out.kept g3; have HG3 : Hid _ := grown_trans HG2.out g3; clear g3; obtain ⟨y0, y1, y2, y3, y4, y5, y6, y7, y8, y9, y10⟩ := bxe11 HX3.out) | (go_at_call 93; refine (haf _ HG3.out).mono ?_; rintro e W4 ⟨rfl, g4⟩; have HX4 : Hid _ := HX3.out.kept g4; have HG4 : Hid _ := grown_trans HG3.out g4; clear g4; obtain ⟨z0, z1, z2, z3, z4, z5, z6, z7, z8, z9, z10⟩ := bxe11 HX4.out) | (go_at_call 94; refine (hat _ HG4.out hal2).mono ?_; rintro e W5 ⟨rfl, g5⟩))
        go_ret
        exact ⟨by rw [HF.out]; rfl, grown_trans HG4.out g5⟩
       | true =>
        refine HNX.out _ _ ?_
        clear HNX
        go_wp2_with (first | (go_at_call 91; refine hHF.mono ?_; rintro e W3 ⟨rfl, g3⟩) | (go_at_call 92; refine (hff _).mono ?_; rintro e W3 ⟨rfl, g3⟩; have HX3 : Hid _ := HX2.out.kept g3; have HG3 : Hid _ := grown_trans HG2.out g3; clear g3; obtain ⟨y0, y1, y2, y3, y4, y5, y6, y7, y8, y9, y10⟩ := bxe11 HX3.out) | (go_at_call 93; refine (haf _ HG3.out).mono ?_; rintro e W4 ⟨rfl, g4⟩; have HX4 : Hid _ := HX3.out.kept g4; have HG4 : Hid _ := grown_trans HG3.out g4; clear g4; obtain ⟨z0, z1, z2, z3, z4, z5, z6, z7, z8, z9, z10⟩ := bxe11 HX4.out) | (go_at_call 94; refine (hat _ HG4.out hal2).mono ?_; rintro e W5 ⟨rfl, g5⟩))
        go_ret
        exact ⟨by rw [HF.out]; rfl, grown_trans HG4.out g5⟩
   ·rw [if_pos (Or.inr ⟨hpe2, k2⟩)] at HF
    have b2 : (K == 2) = false := by rw [beq_eq_false_iff_ne]; exact k2
    have b2n : (K != 2) = true := by simp [k2]
    clear k2 hpe2
    refine HNX.out _ _ ?_
    clear HNX
    go_wp2_with (first | (go_at_call 91; refine hHF.mono ?_; rintro e W3 ⟨rfl, g3⟩) | (go_at_call 92; refine (hff _).mono ?_; rintro e W3 ⟨rfl, g3⟩; have HX3 : Hid _ := HX2.out.kept g3; have HG3 : Hid _ := grown_trans HG2.out g3; clear g3; obtain ⟨y0, y1, y2, y3, y4, y5, y6, y7, y8, y9, y10⟩ := bxe11 HX3.out) | (go_at_call 93; refine (haf _ HG3.out).mono ?_; rintro e W4 ⟨rfl, g4⟩; have HX4 : Hid _ := HX3.out.kept g4; have HG4 : Hid _ := grown_trans HG3.out g4; clear g4; obtain ⟨z0, z1, z2, z3, z4, z5, z6, z7, z8, z9, z10⟩ := bxe11 HX4.out) | (go_at_call 94; refine (hat _ HG4.out hal2).mono ?_; rintro e W5 ⟨rfl, g5⟩))
    go_ret
    exact ⟨by rw [HF.out]; rfl, HG2.out⟩
  | false =>
   rw [if_neg (by rintro (h | h); cases h; rw [h.1] at hpe; cases hpe)] at HF
   by_cases d64 : 64 < dp
   ·rw [if_pos d64] at HF
    refine HNX.out _ _ ?_
    clear HNX
    go_wp2_with (first | (go_at_call 91; refine hHF.mono ?_; rintro e W3 ⟨rfl, g3⟩) | (go_at_call 92; refine (hff _).mono ?_; rintro e W3 ⟨rfl, g3⟩; have HX3 : Hid _ := HX2.out.kept g3; have HG3 : Hid _ := grown_trans HG2.out g3; clear g3; obtain ⟨y0, y1, y2, y3, y4, y5, y6, y7, y8, y9, y10⟩ := bxe11 HX3.out) | (go_at_call 93; refine (haf _ HG3.out).mono ?_; rintro e W4 ⟨rfl, g4⟩; have HX4 : Hid _ := HX3.out.kept g4; have HG4 : Hid _ := grown_trans HG3.out g4; clear g4; obtain ⟨z0, z1, z2, z3, z4, z5, z6, z7, z8, z9, z10⟩ := bxe11 HX4.out) | (go_at_call 94; refine (hat _ HG4.out hal2).mono ?_; rintro e W5 ⟨rfl, g5⟩))
    go_ret
    exact ⟨by rw [HF.out]; rfl, HG2.out⟩
   rw [if_neg d64] at HF
   by_cases hpf : PF = (i : Int)
   rotate_left
   ·rw [if_pos hpf] at HF
    have bpf : (PF == (i : Int)) = false := by rw [beq_eq_false_iff_ne]; exact hpf
    clear hpf
    refine HNX.out _ _ ?_
    clear HNX
    go_wp2_with (first | (go_at_call 91; refine hHF.mono ?_; rintro e W3 ⟨rfl, g3⟩) | (go_at_call 92; refine (hff _).mono ?_; rintro e W3 ⟨rfl, g3⟩; have HX3 : Hid _ := HX2.out.kept g3; have HG3 : Hid _ := grown_trans HG2.out g3; clear g3; obtain ⟨y0, y1, y2, y3, y4, y5, y6, y7, y8, y9, y10⟩ := bxe11 HX3.out) | (go_at_call 93; refine (haf _ HG3.out).mono ?_; rintro e W4 ⟨rfl, g4⟩; have HX4 : Hid _ := HX3.out.kept g4; have HG4 : Hid _ := grown_trans HG3.out g4; clear g4; obtain ⟨z0, z1, z2, z3, z4, z5, z6, z7, z8, z9, z10⟩ := bxe11 HX4.out) | (go_at_call 94; refine (hat _ HG4.out hal2).mono ?_; rintro e W5 ⟨rfl, g5⟩))
    go_ret
    exact ⟨by rw [HF.out]; rfl, HG2.out⟩
   rw [if_neg (by simp [hpf])] at HF
   have bpf : (PF == (i : Int)) = true := by rw [hpf]; simp
   have HPF : Hid _ := hpf
   clear hpf
   by_cases d1 : 1 < dp
   ·cases D2 with
    | false =>
     rw [if_pos ⟨d1, rfl⟩] at HF
     refine HNX.out _ _ ?_
     clear HNX
     go_wp2_with (first | (go_at_call 91; refine hHF.mono ?_; rintro e W3 ⟨rfl, g3⟩) | (go_at_call 92; refine (hff _).mono ?_; rintro e W3 ⟨rfl, g3⟩; have HX3 : Hid _ := HX2.out.kept g3; have HG3 : Hid _ := grown_trans HG2.out g3; clear g3; obtain ⟨y0, y1, y2, y3, y4, y5, y6, y7, y8, y9, y10⟩ := bxe11 HX3.out) | (go_at_call 93; refine (haf _ HG3.out).mono ?_; rintro e W4 ⟨rfl, g4⟩; have HX4 : Hid _ := HX3.out.kept g4; have HG4 : Hid _ := grown_trans HG3.out g4; clear g4; obtain ⟨z0, z1, z2, z3, z4, z5, z6, z7, z8, z9, z10⟩ := bxe11 HX4.out) | (go_at_call 94; refine (hat _ HG4.out hal2).mono ?_; rintro e W5 ⟨rfl, g5⟩))
     go_ret
     exact ⟨by rw [HF.out]; rfl, HG2.out⟩
    | true =>
     rw [if_neg (by rintro ⟨h, k⟩; cases k)] at HF
     by_cases k6 : K = 6
     ·rw [if_pos k6] at HF
      have b6 : (K == 6) = true := by rw [k6]; rfl
      clear k6
      cases TT with
      | true =>
       rw [if_pos rfl] at HF hHF
       refine HNX.out _ _ ?_
       clear HNX
       go_wp2_with (first | (go_at_call 91; refine hHF.mono ?_; rintro e W3 ⟨rfl, g3⟩) | (go_at_call 92; refine (hff _).mono ?_; rintro e W3 ⟨rfl, g3⟩; have HX3 : Hid _ := HX2.out.kept g3; have HG3 : Hid _ := grown_trans HG2.out g3; clear g3; obtain ⟨y0, y1, y2, y3, y4, y5, y6, y7, y8, y9, y10⟩ := bxe11 HX3.out) | (go_at_call 93; refine (haf _ HG3.out).mono ?_; rintro e W4 ⟨rfl, g4⟩; have HX4 : Hid _ := HX3.out.kept g4; have HG4 : Hid _ := grown_trans HG3.out g4; clear g4; obtain ⟨z0, z1, z2, z3, z4, z5, z6, z7, z8, z9, z10⟩ := bxe11 HX4.out) | (go_at_call 94; refine (hat _ HG4.out hal2).mono ?_; rintro e W5 ⟨rfl, g5⟩))
       go_ret
       exact ⟨by rw [HF.out]; rfl, grown_trans HG2.out g3⟩
      | false =>
       rw [if_neg Bool.false_ne_true] at HF hHF
       refine HNX.out _ _ ?_
       clear HNX
       go_wp2_with (first | (go_at_call 91; refine hHF.mono ?_; rintro e W3 ⟨rfl, g3⟩) | (go_at_call 92; refine (hff _).mono ?_; rintro e W3 ⟨rfl, g3⟩; have HX3 : Hid _ := HX2.out.kept g3; have HG3 : Hid _ := grown_trans HG2.out g3; clear g3; obtain ⟨y0, y1, y2, y3, y4, y5, y6, y7, y8, y9, y10⟩ := bxe11 HX3.out) | (go_at_call 93; refine (haf _ HG3.out).mono ?_; rintro e W4 ⟨rfl, g4⟩; have HX4 : Hid _ := HX3.out.kept g4; have HG4 : Hid _ := grown_trans HG3.out g4; clear g4; obtain ⟨z0, z1, z2, z3, z4, z5, z6, z7, z8, z9, z10⟩ := bxe11 HX4.out) | (go_at_call 94; refine (hat _ HG4.out hal2).mono ?_; rintro e W5 ⟨rfl, g5⟩))
       go_ret
       exact ⟨by rw [HF.out]; rfl, grown_trans HG2.out g3⟩
     ·rw [if_neg k6] at HF
      have b6 : (K == 6) = false := by rw [beq_eq_false_iff_ne]; exact k6
      clear k6
      cases FF with
      | false =>
       rw [if_pos (Or.inl rfl)] at HF
       refine HNX.out _ _ ?_
       clear HNX
       go_wp2_with (first | (go_at_call 91; refine hHF.mono ?_; rintro e W3 ⟨rfl, g3⟩) | (go_at_call 92; refine (hff _).mono ?_; rintro e W3 ⟨rfl, g3⟩; have HX3 : Hid _ := HX2.out.kept g3; have HG3 : Hid _ := grown_trans HG2.out g3; clear g3; obtain ⟨y0, y1, y2, y3, y4, y5, y6, y7, y8, y9, y10⟩ := bxe11 HX3.out) | (go_at_call 93; refine (haf _ HG3.out).mono ?_; rintro e W4 ⟨rfl, g4⟩; have HX4 : Hid _ := HX3.out.kept g4; have HG4 : Hid _ := grown_trans HG3.out g4; clear g4; obtain ⟨z0, z1, z2, z3, z4, z5, z6, z7, z8, z9, z10⟩ := bxe11 HX4.out) | (go_at_call 94; refine (hat _ HG4.out hal2).mono ?_; rintro e W5 ⟨rfl, g5⟩))
       go_ret
       exact ⟨by rw [HF.out]; rfl, HG3.out⟩
      | true =>
       cases AF with
       | false =>
        rw [if_pos (Or.inr rfl)] at HF
        refine HNX.out _ _ ?_
        clear HNX
        go_wp2_with (first | (go_at_call 91; refine hHF.mono ?_; rintro e W3 ⟨rfl, g3⟩) | (go_at_call 92; refine (hff _).mono ?_; rintro e W3 ⟨rfl, g3⟩; have HX3 : Hid _ := HX2.out.kept g3; have HG3 : Hid _ := grown_trans HG2.out g3; clear g3; obtain ⟨y0, y1, y2, y3, y4, y5, y6, y7, y8, y9, y10⟩ := bxe11 HX3.out) | (go_at_call 93; refine (haf _ HG3.out).mono ?_; rintro e W4 ⟨rfl, g4⟩; have HX4 : Hid _ := HX3.out.kept g4; have HG4 : Hid _ := grown_trans HG3.out g4; clear g4; obtain ⟨z0, z1, z2, z3, z4, z5, z6, z7, z8, z9, z10⟩ := bxe11 HX4.out) | (go_at_call 94; refine (hat _ HG4.out hal2).mono ?_; rintro e W5 ⟨rfl, g5⟩))
        go_ret
        exact ⟨by rw [HF.out]; rfl, HG4.out⟩
       | true =>
        rw [if_neg (by simp)] at HF
        have hal2 : al ≤ 100000 := haf64 rfl
        clear haf64
        cases TW with
        | false =>
         refine HNX.out _ _ ?_
         clear HNX
         go_wp2_with (first | (go_at_call 91; refine hHF.mono ?_; rintro e W3 ⟨rfl, g3⟩) | (go_at_call 92; refine (hff _).mono ?_; rintro e W3 ⟨rfl, g3⟩; have HX3 : Hid _ := HX2.out.kept g3; have HG3 : Hid _ := grown_trans HG2.out g3; clear g3; obtain ⟨y0, y1, y2, y3, y4, y5, y6, y7, y8, y9, y10⟩ := bxe11 HX3.out) | (go_at_call 93; refine (haf _ HG3.out).mono ?_; rintro e W4 ⟨rfl, g4⟩; have HX4 : Hid _ := HX3.out.kept g4; have HG4 : Hid _ := grown_trans HG3.out g4; clear g4; obtain ⟨z0, z1, z2, z3, z4, z5, z6, z7, z8, z9, z10⟩ := bxe11 HX4.out) | (go_at_call 94; refine (hat _ HG4.out hal2).mono ?_; rintro e W5 ⟨rfl, g5⟩))
         go_ret
         exact ⟨by rw [HF.out]; rfl, grown_trans HG4.out g5⟩
        | true =>
         refine HNX.out _ _ ?_
         clear HNX
         go_wp2_with (first | (go_at_call 91; refine hHF.mono ?_; rintro e W3 ⟨rfl, g3⟩) | (go_at_call 92; refine (hff _).mono ?_; rintro e W3 ⟨rfl, g3⟩; have HX3 : Hid _ := HX2.out.kept g3; have HG3 : Hid _ := grown_trans HG2.out g3; clear g3; obtain ⟨y0, y1, y2, y3, y4, y5, y6, y7, y8, y9, y10⟩ := bxe11 HX3.out) | (go_at_call 93; refine (haf _ HG3.out).mono ?_; rintro e W4 ⟨rfl, g4⟩; have HX4 : Hid _ := HX3.out.kept g4; have HG4 : Hid _ := grown_trans HG3.out g4; clear g4; obtain ⟨z0, z1, z2, z3, z4, z5, z6, z7, z8, z9, z10⟩ := bxe11 HX4.out) | (go_at_call 94; refine (hat _ HG4.out hal2).mono ?_; rintro e W5 ⟨rfl, g5⟩))
         go_ret
         exact ⟨by rw [HF.out]; rfl, grown_trans HG4.out g5⟩
   ·rw [if_neg (by rintro ⟨h, k⟩; exact d1 h)] at HF
    by_cases k6 : K = 6
    ·rw [if_pos k6] at HF
     have b6 : (K == 6) = true := by rw [k6]; rfl
     clear k6
     cases TT with
     | true =>
      rw [if_pos rfl] at HF hHF
      refine HNX.out _ _ ?_
      clear HNX
      go_wp2_with (first | (go_at_call 91; refine hHF.mono ?_; rintro e W3 ⟨rfl, g3⟩) | (go_at_call 92; refine (hff _).mono ?_; rintro e W3 ⟨rfl, g3⟩; have HX3 : Hid _ := HX2.out.kept g3; have HG3 : Hid _ := grown_trans HG2.out g3; clear g3; obtain ⟨y0, y1, y2, y3, y4, y5, y6, y7, y8, y9, y10⟩ := bxe11 HX3.out) | (go_at_call 93; refine (haf _ HG3.out).mono ?_; rintro e W4 ⟨rfl, g4⟩; have HX4 : Hid _ := HX3.out.kept g4; have HG4 : Hid _ := grown_trans HG3.out g4; clear g4; obtain ⟨z0, z1, z2, z3, z4, z5, z6, z7, z8, z9, z10⟩ := bxe11 HX4.out) | (go_at_call 94; refine (hat _ HG4.out hal2).mono ?_; rintro e W5 ⟨rfl, g5⟩))
      go_ret
      exact ⟨by rw [HF.out]; rfl, grown_trans HG2.out g3⟩
     | false =>
      rw [if_neg Bool.false_ne_true] at HF hHF
      refine HNX.out _ _ ?_
      clear HNX
      go_wp2_with (first | (go_at_call 91; refine hHF.mono ?_; rintro e W3 ⟨rfl, g3⟩) | (go_at_call 92; refine (hff _).mono ?_; rintro e W3 ⟨rfl, g3⟩; have HX3 : Hid _ := HX2.out.kept g3; have HG3 : Hid _ := grown_trans HG2.out g3; clear g3; obtain ⟨y0, y1, y2, y3, y4, y5, y6, y7, y8, y9, y10⟩ := bxe11 HX3.out) | (go_at_call 93; refine (haf _ HG3.out).mono ?_; rintro e W4 ⟨rfl, g4⟩; have HX4 : Hid _ := HX3.out.kept g4; have HG4 : Hid _ := grown_trans HG3.out g4; clear g4; obtain ⟨z0, z1, z2, z3, z4, z5, z6, z7, z8, z9, z10⟩ := bxe11 HX4.out) | (go_at_call 94; refine (hat _ HG4.out hal2).mono ?_; rintro e W5 ⟨rfl, g5⟩))
      go_ret
      exact ⟨by rw [HF.out]; rfl, grown_trans HG2.out g3⟩
    ·rw [if_neg k6] at HF
     have b6 : (K == 6) = false := by rw [beq_eq_false_iff_ne]; exact k6
     clear k6
     cases FF with
     | false =>
      rw [if_pos (Or.inl rfl)] at HF
      refine HNX.out _ _ ?_
      clear HNX
      go_wp2_with (first | (go_at_call 91; refine hHF.mono ?_; rintro e W3 ⟨rfl, g3⟩) | (go_at_call 92; refine (hff _).mono ?_; rintro e W3 ⟨rfl, g3⟩; have HX3 : Hid _ := HX2.out.kept g3; have HG3 : Hid _ := grown_trans HG2.out g3; clear g3; obtain ⟨y0, y1, y2, y3, y4, y5, y6, y7, y8, y9, y10⟩ := bxe11 HX3.out) | (go_at_call 93; refine (haf _ HG3.out).mono ?_; rintro e W4 ⟨rfl, g4⟩; have HX4 : Hid _ := HX3.out.kept g4; have HG4 : Hid _ := grown_trans HG3.out g4; clear g4; obtain ⟨z0, z1, z2, z3, z4, z5, z6, z7, z8, z9, z10⟩ := bxe11 HX4.out) | (go_at_call 94; refine (hat _ HG4.out hal2).mono ?_; rintro e W5 ⟨rfl, g5⟩))
      go_ret
      exact ⟨by rw [HF.out]; rfl, HG3.out⟩
     | true =>
      cases AF with
      | false =>
       rw [if_pos (Or.inr rfl)] at HF
       refine HNX.out _ _ ?_
       clear HNX
       go_wp2_with (first | (go_at_call 91; refine hHF.mono ?_; rintro e W3 ⟨rfl, g3⟩) | (go_at_call 92; refine (hff _).mono ?_; rintro e W3 ⟨rfl, g3⟩; have HX3 : Hid _ := HX2.out.kept g3; have HG3 : Hid _ := grown_trans HG2.out g3; clear g3; obtain ⟨y0, y1, y2, y3, y4, y5, y6, y7, y8, y9, y10⟩ := bxe11 HX3.out) | (go_at_call 93; refine (haf _ HG3.out).mono ?_; rintro e W4 ⟨rfl, g4⟩; have HX4 : Hid _ := HX3.out.kept g4; have HG4 : Hid _ := grown_trans HG3.out g4; clear g4; obtain ⟨z0, z1, z2, z3, z4, z5, z6, z7, z8, z9, z10⟩ := bxe11 HX4.out) | (go_at_call 94; refine (hat _ HG4.out hal2).mono ?_; rintro e W5 ⟨rfl, g5⟩))
       go_ret
       exact ⟨by rw [HF.out]; rfl, HG4.out⟩
      | true =>
       rw [if_neg (by simp)] at HF
       have hal2 : al ≤ 100000 := haf64 rfl
       clear haf64
       cases TW with
       | false =>
        refine HNX.out _ _ ?_
        clear HNX
        go_wp2_with (first | (go_at_call 91; refine hHF.mono ?_; rintro e W3 ⟨rfl, g3⟩) | (go_at_call 92; refine (hff _).mono ?_; rintro e W3 ⟨rfl, g3⟩; have HX3 : Hid _ := HX2.out.kept g3; have HG3 : Hid _ := grown_trans HG2.out g3; clear g3; obtain ⟨y0, y1, y2, y3, y4, y5, y6, y7, y8, y9, y10⟩ := bxe11 HX3.out) | (go_at_call 93; refine (haf _ HG3.out).mono ?_; rintro e W4 ⟨rfl, g4⟩; have HX4 : Hid _ := HX3.out.kept g4; have HG4 : Hid _ := grown_trans HG3.out g4; clear g4; obtain ⟨z0, z1, z2, z3, z4, z5, z6, z7, z8, z9, z10⟩ := bxe11 HX4.out) | (go_at_call 94; refine (hat _ HG4.out hal2).mono ?_; rintro e W5 ⟨rfl, g5⟩))
        go_ret
        exact ⟨by rw [HF.out]; rfl, grown_trans HG4.out g5⟩
       | true =>
        refine HNX.out _ _ ?_
        clear HNX
        go_wp2_with (first | (go_at_call 91; refine hHF.mono ?_; rintro e W3 ⟨rfl, g3⟩) | (go_at_call 92; refine (hff _).mono ?_; rintro e W3 ⟨rfl, g3⟩; have HX3 : Hid _ := HX2.out.kept g3; have HG3 : Hid _ := grown_trans HG2.out g3; clear g3; obtain ⟨y0, y1, y2, y3, y4, y5, y6, y7, y8, y9, y10⟩ := bxe11 HX3.out) | (go_at_call 93; refine (haf _ HG3.out).mono ?_; rintro e W4 ⟨rfl, g4⟩; have HX4 : Hid _ := HX3.out.kept g4; have HG4 : Hid _ := grown_trans HG3.out g4; clear g4; obtain ⟨z0, z1, z2, z3, z4, z5, z6, z7, z8, z9, z10⟩ := bxe11 HX4.out) | (go_at_call 94; refine (hat _ HG4.out hal2).mono ?_; rintro e W5 ⟨rfl, g5⟩))
        go_ret
        exact ⟨by rw [HF.out]; rfl, grown_trans HG4.out g5⟩
end Go.Proofs.YtlehncfehoelbaaGreatDoor
