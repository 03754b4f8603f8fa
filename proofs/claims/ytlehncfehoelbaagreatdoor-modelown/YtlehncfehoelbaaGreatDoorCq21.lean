/- The program's tree: Check. -/
import Derived.Laws.AppendOwnNone
import Derived.Test.YtlehncfehoelbaaGreatDoorCq18
import Derived.Test.YtlehncfehoelbaaGreatDoorCq19
import Derived.Test.YtlehncfehoelbaaGreatDoorCq20
namespace Go.Proofs.YtlehncfehoelbaaGreatDoor
open Go.RowKit
set_option maxRecDepth 100000
open Go.Maps (Keyed)
set_option linter.unusedSimpArgs false
set_option linter.unusedVariables false
set_option maxHeartbeats 2000000 in
theorem pparts_any (P : ByteArray) (w : World) (hp : P.size ≤ 5000) : Calls Tryz.prog 90 #[.string P] w fun e w' => e = .returned (.tuple #[.int .i64 (prt11 P.toList).1, .bool (prt11 P.toList).2]) ∧ w.grownBy w' none := by
 have hsh := @spl_short P.toList
 have hsp := fun W => psplit_any P W (by omega)
 have ha := @prt_a P.toList
 have hb := @prt_b P.toList
 have hc := @prt_c P.toList
 generalize prt11 P.toList = A at *
 generalize spl P.toList = r at *
 obtain ⟨T, E⟩ := r
 simp only at ha hb hc hsh
 by_cases h2 : E = 0
 ·subst h2
  obtain ⟨hs1, hs2⟩ := hsh rfl
  have HS : Hid _ := xai hs1 hs2
  have HA : Hid _ := xai (hb rfl) (hc rfl)
  clear hsh hs1 hs2 ha hb hc
  go_enter Tryz.func90, Tryz.ntmps90
  go_wp2_with (go_at_call 85; refine (hsp _).mono ?_; rintro e w1 ⟨a, n, c, rfl, hown, HG⟩)
  obtain ⟨a, c, e9, R, hcap, hcm⟩ := owns_srow hown
  injection e9 with e9a e9n e9c
  subst e9a e9c
  have hT : T.length = n := by have := R.len_eq; unfold txs at this; rw [List.length_map] at this; exact this
  have hn : n ≤ 128 := by have := HS.out.2; omega
  have HG2 : Hid _ := HG
  clear HG hown
  have hjo := fun W (RW : SRow W a n (txs T)) => pjoin_any a n c (txs T) W RW hcap (by omega) (fun i => Nat.le_trans (txs_size HS.out.1 i) (by decide))
  rw [tls_txs] at hjo
  have HT : Hid _ := hT
  clear hT
  go_loop [18] (fun i => ∃ k : Nat, k ≤ n ∧ i = .int .i64 k ∧ Hid ((T.take k).any (fun p => !vld p) = false)) (fun i => n - (intOf i).toNat)
  case atStart => exact ⟨0, Nat.zero_le _, rfl, rfl⟩
  case round =>
   obtain ⟨k, hk, rfl, HB⟩ := hrel
   by_cases hlt : k < n
   ·obtain ⟨b, off, rfl, hcell⟩ := R.cells (by omega)
    have hck := hcell k hlt
    have hsn := any_snoc (l := T) (i := k) (by rw [HT.out]; exact hlt) (fun p => !vld p)
    rw [HB.out, Bool.false_or] at hsn
    have hsz := txs_size HS.out.1 k
    generalize (txs T).getD k ⟨#[]⟩ = s0 at *
    have hv := fun W => pvalid_eq s0 W (by omega)
    have HN : Hid _ := hsn
    clear hsn hcell R hjo
    cases hvv : vld s0.toList with
    | true =>
     rw [hvv] at hv
     have HN2 : Hid ((T.take (k + 1)).any (fun p => !vld p) = false) := by
      show List.any _ _ = false
      rw [HN.out, hvv]; rfl
     go_wp2_with (go_at_call 83; refine (hv _).mono ?_; rintro e w' ⟨rfl, rfl⟩)
     go_round
     case rel => exact ⟨k + 1, by omega, by go_num, HN2⟩
     case measure => simp [intOf]; omega
    | false =>
     rw [hvv] at hv
     have HV : Hid (A = (0, false)) := by
      show A = (0, false)
      have e5 : T.any (fun p => !vld p) = true := by
       rw [← List.take_append_drop (k + 1) T, List.any_append, HN.out, hvv]; rfl
      exact HA.out.1 e5
     go_wp2_with (go_at_call 83; refine (hv _).mono ?_; rintro e w' ⟨rfl, rfl⟩)
     go_ret2
     exact ⟨by rw [HV.out]; rfl, HG2.out⟩
   ·obtain rfl : k = n := by omega
    have e5 : T.any (fun p => !vld p) = false := by
     have := HB.out
     rw [List.take_of_length_le (by rw [HT.out]; exact Nat.le_refl _)] at this
     exact this
    have HE2 : Hid (A = ((k : Int), decide ((jnp T).2 = 0) && ((jnp T).1 == P.toList))) := by
     show A = _
     rw [HA.out.2 e5, HT.out]
    clear e5 HA HB hsp
    generalize jnp T = j at *
    obtain ⟨J, F⟩ := j
    simp only at HE2 hjo
    have hj1 := hjo w1 R
    clear hjo R
    by_cases hF : F = 0
    ·subst hF
     have HE3 : Hid (A = ((k : Int), (tx J).toList == P.toList)) := by
      show A = _
      rw [HE2.out, tx_tl]; rfl
     clear HE2
     generalize tx J = j0 at *
     go_wp2_with (go_at_call 112; refine hj1.mono ?_; rintro e w' ⟨rfl, hg⟩)
     go_ret2
     exact ⟨by rw [HE3.out]; rfl, xgt HG2.out hg⟩
    ·have HV : Hid (A = ((k : Int), false)) := by
      show A = _
      rw [HE2.out, decide_eq_false hF]; rfl
     have hFb : (F == 0) = false := by rw [beq_eq_false_iff_ne]; exact hF
     clear HE2
     generalize tx J = j0 at *
     go_wp2_with (go_at_call 112; refine hj1.mono ?_; rintro e w' ⟨rfl, hg⟩)
     go_ret2
     exact ⟨by rw [HV.out]; rfl, xgt HG2.out hg⟩
 ·have HV : Hid (A = (0, false)) := ha h2
  have h2b : (E == 0) = false := by rw [beq_eq_false_iff_ne]; exact h2
  clear h2 ha hb hc hsh
  go_enter Tryz.func90, Tryz.ntmps90
  go_wp2_with (go_at_call 85; refine (hsp _).mono ?_; rintro e w1 ⟨a, n, c, rfl, hown, HG⟩)
  go_ret2
  exact ⟨by rw [HV.out]; rfl, HG⟩
theorem bxe11 {W : World} {g : Nat} {T : TypeId} {x0 x1 x2 x3 x4 x5 x6 x7 x8 x9 x10 : Value} (h : Bx W g T [x0, x1, x2, x3, x4, x5, x6, x7, x8, x9, x10]) : W.cell? ⟨g, 0, none⟩ = some x0 ∧ W.cell? ⟨g, 1, none⟩ = some x1 ∧ W.cell? ⟨g, 2, none⟩ = some x2 ∧ W.cell? ⟨g, 3, none⟩ = some x3 ∧ W.cell? ⟨g, 4, none⟩ = some x4 ∧ W.cell? ⟨g, 5, none⟩ = some x5 ∧ W.cell? ⟨g, 6, none⟩ = some x6 ∧ W.cell? ⟨g, 7, none⟩ = some x7 ∧ W.cell? ⟨g, 8, none⟩ = some x8 ∧ W.cell? ⟨g, 9, none⟩ = some x9 ∧ W.cell? ⟨g, 10, none⟩ = some x10 :=
 ⟨h.c 0, h.c 1, h.c 2, h.c 3, h.c 4, h.c 5, h.c 6, h.c 7, h.c 8, h.c 9, h.c 10⟩
set_option maxHeartbeats 8000000 in
theorem pfault_any (X : EnV) (i : Nat) (w : World) (b n : Nat) (l : List En) (M : MapF w 9 b n (plK l)) (hp : X.path.size ≤ 5000) (ok : X.ok w) (ht : X.target.size ≤ 9223372036854775807) (hz : ∀ A ∈ X.attrs, A.n.size ≤ 9223372036854775807) (hi : i ≤ 1000000) :
  Calls Tryz.prog 63 #[X.val, .int .i64 i, .map (some b)] w fun e w' => e = .returned (.int .i64 (flt11 l i X.en)) ∧ w.grownBy w' none := by
 have hpa := fun W => pparts_any X.path W hp
 have hcu := fun W => (pcut_any X.path W (by omega)).mono (R' := fun e w' => e = .returned (.tuple #[.string (tx (upT X.path.toList)), .string (tx (lastT X.path.toList))]) ∧ W.grownBy w' none) (by rintro e w' ⟨rfl, t, rfl⟩; exact ⟨rfl, drewG11 (World.grownBy.refl _ _) t⟩)
 have hhf := fun W (g : w.grownBy W none) => phardfault_any X W b n l (M.kept g (by simp)) ht
 have hff := fun W => pfieldsfit_any X W ok.row.len_eq ok.row.le ht
 have haf := fun W (g : w.grownBy W none) => pattrsfit_any X.aa X.al X.ac X.attrs W (ok.ats.grown g) hz
 have hat := fun W (g : w.grownBy W none) (hn : X.al ≤ 100000) => pattrtwice_any X.aa X.al X.ac X.attrs W (ok.ats.grown g) hn hz
 have hl1 := fun W (g : w.grownBy W none) => look57 (M.kept g (by simp)) (s := X.path) (by omega)
 have hus : (tx (upT X.path.toList)).size ≤ 9223372036854775807 := by
  have h : (upT X.path.toList).length ≤ X.path.toList.length := by
   unfold upT
   split
   ·simp
   ·rw [List.length_take]; omega
  rw [tx_size]
  rw [tl_len] at h
  omega
 have hl2 := fun W (g : w.grownBy W none) => look57 (M.kept g (by simp)) hus
 rw [tx_tl] at hl2
 have hal := ok.ats.len_eq
 have hall : X.al ≤ 9223372036854775807 := ok.ats.le
 have HF : Hid (flt11 l i X.en = if X.k < 1 ∨ 6 < X.k then 8 else if (prt11 X.path.toList).2 = false ∨ (X.path.toList = [] ∧ X.k ≠ 2) then 6 else if 64 < (prt11 X.path.toList).1 then 3 else if plF l X.path.toList ≠ i then 110 else
  if 1 < (prt11 X.path.toList).1 ∧ folder l (upT X.path.toList) = false then 4 else if X.k = 6 then (if thing l X.target.toList then 0 else 4) else
  if fldF X.en = false ∨ (!decide (64 < X.al) && (X.attrs.map AtV.at).all atFit) = false then 1 else if twice (X.attrs.map AtV.at) X.al then 110 else 0) := by
  show flt11 l i X.en = _
  unfold flt11
  simp only [EnV.en, List.length_map, hal]
  rfl
 obtain ⟨path, K, mo, uid, gid, ti, sz_, da, dl, dc, data, tg, dev, aa, al, ac, attrs⟩ := X
 simp only [EnV.val] at hhf hff ⊢
 simp only at hpa hcu hhf hff haf hat hl1 hl2 hall HF
 clear M ok hz hal hus
 generalize flt11 l i (EnV.en ⟨path, K, mo, uid, gid, ti, sz_, da, dl, dc, data, tg, dev, aa, al, ac, attrs⟩) = A at *
 generalize fldF (EnV.en ⟨path, K, mo, uid, gid, ti, sz_, da, dl, dc, data, tg, dev, aa, al, ac, attrs⟩) = FF at *
 have haf64 : (!decide (64 < al) && (attrs.map AtV.at).all atFit) = true → al ≤ 100000 := by
  intro h
  have h1 := (Bool.and_eq_true_iff.1 h).1
  have h2 : decide (64 < al) = false := by simpa using h1
  have := of_decide_eq_false h2
  omega
 generalize (!decide (64 < al) && (attrs.map AtV.at).all atFit) = AF at *
 generalize twice (attrs.map AtV.at) al = TW at *
 generalize plF l path.toList = PF at *
 generalize folder l path.toList = D1 at *
 generalize thing l path.toList = T1 at *
 generalize plF l (upT path.toList) = PF2 at *
 generalize folder l (upT path.toList) = D2 at *
 generalize thing l (upT path.toList) = T2 at *
 generalize thing l tg.toList = TT at *
 generalize tx (upT path.toList) = up at *
 generalize tx (lastT path.toList) = la at *
 generalize prt11 path.toList = PP at *
 obtain ⟨dp, ok⟩ := PP
 simp only at HF hpa
 have hf0 := field_pl0
 have hf1 := field_pl1
 have G0 : Hid _ := xga w (.cells #[.string path, .int .i64 K, .int .i64 mo, .int .i64 uid, .int .i64 gid, .int .i64 ti, .int .i64 sz_, .slice da dl dc, .string tg, .int .i64 dev, .slice aa al ac] 30) none
 have HX : Hid _ := Bx.new w 30 [.string path, .int .i64 K, .int .i64 mo, .int .i64 uid, .int .i64 gid, .int .i64 ti, .int .i64 sz_, .slice da dl dc, .string tg, .int .i64 dev, .slice aa al ac]
 by_cases k1 : K < 1
 ·rw [if_pos (Or.inl k1)] at HF
  go_enter Tryz.func63, Tryz.ntmps63
  go_wp2_with fail
  go_ret
  exact ⟨by rw [HF.out]; rfl, G0.out⟩
 by_cases k6 : 6 < K
 ·rw [if_pos (Or.inr k6)] at HF
  go_enter Tryz.func63, Tryz.ntmps63
  go_wp2_with fail
  go_ret
  exact ⟨by rw [HF.out]; rfl, G0.out⟩
 rw [if_neg (by omega)] at HF
 go_enter Tryz.func63, Tryz.ntmps63
 go_wp2_with (first | (go_at_call 90; refine (hpa _).mono ?_; rintro e W1 ⟨rfl, g1⟩; have HX1 : Hid _ := HX.out.kept g1; have HG1 : Hid _ := xgt G0.out g1; clear g1 HX; obtain ⟨x0, x1, -⟩ := bxe11 HX1.out) | (go_at_call 67; refine (hcu _).mono ?_; rintro e W2 ⟨rfl, g2⟩; have HX2 : Hid _ := HX1.out.kept g2; have HG2 : Hid _ := xgt HG1.out g2; clear g2 HX1 HG1 x0 x1; rename_i hnext; have HNX : Hid _ := hnext; clear hnext))
 clear hpa hcu G0
 obtain ⟨x0, x1, x2, x3, x4, x5, x6, x7, x8, x9, x10⟩ := bxe11 HX2.out
 have l1 := hl1 W2 HG2.out
 have l2 := hl2 W2 HG2.out
 have hHF := hhf W2 HG2.out
 clear hl1 hl2 hhf
 clear k1 k6
 cases ok with
 | false =>
  rw [if_pos (Or.inl rfl)] at HF
  refine HNX.out _ _ ?_
  clear HNX
  go_wp2_with (first | (go_at_call 91; refine hHF.mono ?_; rintro e W3 ⟨rfl, g3⟩) | (go_at_call 92; refine (hff _).mono ?_; rintro e W3 ⟨rfl, g3⟩; have HX3 : Hid _ := HX2.out.kept g3; have HG3 : Hid _ := xgt HG2.out g3; clear g3; obtain ⟨y0, y1, y2, y3, y4, y5, y6, y7, y8, y9, y10⟩ := bxe11 HX3.out) | (go_at_call 93; refine (haf _ HG3.out).mono ?_; rintro e W4 ⟨rfl, g4⟩; have HX4 : Hid _ := HX3.out.kept g4; have HG4 : Hid _ := xgt HG3.out g4; clear g4; obtain ⟨z0, z1, z2, z3, z4, z5, z6, z7, z8, z9, z10⟩ := bxe11 HX4.out) | (go_at_call 94; refine (hat _ HG4.out hal2).mono ?_; rintro e W5 ⟨rfl, g5⟩))
  go_ret
  exact ⟨by rw [HF.out]; rfl, HG2.out⟩
 | true =>
  cases hpe : (path.toList == []) with
  | true =>
   have hpe2 : path.toList = [] := eq_of_beq hpe
   by_cases k2 : K = 2
   ·rw [if_neg (by rintro (h | h); cases h; exact h.2 k2)] at HF
    have b2 : (K == 2) = true := by rw [k2]; rfl
    have b2n : (K != 2) = false := by rw [k2]; rfl
    have b6 : (K == 6) = false := by rw [k2]; rfl
    clear k2
    by_cases d64 : 64 < dp
    ·rw [if_pos d64] at HF
     refine HNX.out _ _ ?_
     clear HNX
     go_wp2_with (first | (go_at_call 91; refine hHF.mono ?_; rintro e W3 ⟨rfl, g3⟩) | (go_at_call 92; refine (hff _).mono ?_; rintro e W3 ⟨rfl, g3⟩; have HX3 : Hid _ := HX2.out.kept g3; have HG3 : Hid _ := xgt HG2.out g3; clear g3; obtain ⟨y0, y1, y2, y3, y4, y5, y6, y7, y8, y9, y10⟩ := bxe11 HX3.out) | (go_at_call 93; refine (haf _ HG3.out).mono ?_; rintro e W4 ⟨rfl, g4⟩; have HX4 : Hid _ := HX3.out.kept g4; have HG4 : Hid _ := xgt HG3.out g4; clear g4; obtain ⟨z0, z1, z2, z3, z4, z5, z6, z7, z8, z9, z10⟩ := bxe11 HX4.out) | (go_at_call 94; refine (hat _ HG4.out hal2).mono ?_; rintro e W5 ⟨rfl, g5⟩))
     go_ret
     exact ⟨by rw [HF.out]; rfl, HG2.out⟩
    rw [if_neg d64] at HF
    by_cases hpf : PF = (i : Int)
    rotate_left
    ·rw [if_pos hpf] at HF
     have bpf : (PF == (i : Int)) = false := by rw [beq_eq_false_iff_ne]; exact hpf
     clear hpf
     refine HNX.out _ _ ?_
     clear HNX
     go_wp2_with (first | (go_at_call 91; refine hHF.mono ?_; rintro e W3 ⟨rfl, g3⟩) | (go_at_call 92; refine (hff _).mono ?_; rintro e W3 ⟨rfl, g3⟩; have HX3 : Hid _ := HX2.out.kept g3; have HG3 : Hid _ := xgt HG2.out g3; clear g3; obtain ⟨y0, y1, y2, y3, y4, y5, y6, y7, y8, y9, y10⟩ := bxe11 HX3.out) | (go_at_call 93; refine (haf _ HG3.out).mono ?_; rintro e W4 ⟨rfl, g4⟩; have HX4 : Hid _ := HX3.out.kept g4; have HG4 : Hid _ := xgt HG3.out g4; clear g4; obtain ⟨z0, z1, z2, z3, z4, z5, z6, z7, z8, z9, z10⟩ := bxe11 HX4.out) | (go_at_call 94; refine (hat _ HG4.out hal2).mono ?_; rintro e W5 ⟨rfl, g5⟩))
     go_ret
     exact ⟨by rw [HF.out]; rfl, HG2.out⟩
    rw [if_neg (by simp [hpf])] at HF
    have bpf : (PF == (i : Int)) = true := by rw [hpf]; simp
    have HPF : Hid _ := hpf
    clear hpf
    by_cases d1 : 1 < dp
    ·cases D2 with
     | false =>
      rw [if_pos ⟨d1, rfl⟩] at HF
      refine HNX.out _ _ ?_
      clear HNX
      go_wp2_with (first | (go_at_call 91; refine hHF.mono ?_; rintro e W3 ⟨rfl, g3⟩) | (go_at_call 92; refine (hff _).mono ?_; rintro e W3 ⟨rfl, g3⟩; have HX3 : Hid _ := HX2.out.kept g3; have HG3 : Hid _ := xgt HG2.out g3; clear g3; obtain ⟨y0, y1, y2, y3, y4, y5, y6, y7, y8, y9, y10⟩ := bxe11 HX3.out) | (go_at_call 93; refine (haf _ HG3.out).mono ?_; rintro e W4 ⟨rfl, g4⟩; have HX4 : Hid _ := HX3.out.kept g4; have HG4 : Hid _ := xgt HG3.out g4; clear g4; obtain ⟨z0, z1, z2, z3, z4, z5, z6, z7, z8, z9, z10⟩ := bxe11 HX4.out) | (go_at_call 94; refine (hat _ HG4.out hal2).mono ?_; rintro e W5 ⟨rfl, g5⟩))
      go_ret
      exact ⟨by rw [HF.out]; rfl, HG2.out⟩
     | true =>
      rw [if_neg (by rintro ⟨h, k⟩; cases k)] at HF
      rw [if_neg (by intro h; rw [h] at b6; cases b6)] at HF
      cases FF with
      | false =>
       rw [if_pos (Or.inl rfl)] at HF
       refine HNX.out _ _ ?_
       clear HNX
       go_wp2_with (first | (go_at_call 91; refine hHF.mono ?_; rintro e W3 ⟨rfl, g3⟩) | (go_at_call 92; refine (hff _).mono ?_; rintro e W3 ⟨rfl, g3⟩; have HX3 : Hid _ := HX2.out.kept g3; have HG3 : Hid _ := xgt HG2.out g3; clear g3; obtain ⟨y0, y1, y2, y3, y4, y5, y6, y7, y8, y9, y10⟩ := bxe11 HX3.out) | (go_at_call 93; refine (haf _ HG3.out).mono ?_; rintro e W4 ⟨rfl, g4⟩; have HX4 : Hid _ := HX3.out.kept g4; have HG4 : Hid _ := xgt HG3.out g4; clear g4; obtain ⟨z0, z1, z2, z3, z4, z5, z6, z7, z8, z9, z10⟩ := bxe11 HX4.out) | (go_at_call 94; refine (hat _ HG4.out hal2).mono ?_; rintro e W5 ⟨rfl, g5⟩))
       go_ret
       exact ⟨by rw [HF.out]; rfl, HG3.out⟩
      | true =>
       cases AF with
       | false =>
        rw [if_pos (Or.inr rfl)] at HF
        refine HNX.out _ _ ?_
        clear HNX
        go_wp2_with (first | (go_at_call 91; refine hHF.mono ?_; rintro e W3 ⟨rfl, g3⟩) | (go_at_call 92; refine (hff _).mono ?_; rintro e W3 ⟨rfl, g3⟩; have HX3 : Hid _ := HX2.out.kept g3; have HG3 : Hid _ := xgt HG2.out g3; clear g3; obtain ⟨y0, y1, y2, y3, y4, y5, y6, y7, y8, y9, y10⟩ := bxe11 HX3.out) | (go_at_call 93; refine (haf _ HG3.out).mono ?_; rintro e W4 ⟨rfl, g4⟩; have HX4 : Hid _ := HX3.out.kept g4; have HG4 : Hid _ := xgt HG3.out g4; clear g4; obtain ⟨z0, z1, z2, z3, z4, z5, z6, z7, z8, z9, z10⟩ := bxe11 HX4.out) | (go_at_call 94; refine (hat _ HG4.out hal2).mono ?_; rintro e W5 ⟨rfl, g5⟩))
        go_ret
        exact ⟨by rw [HF.out]; rfl, HG4.out⟩
       | true =>
        rw [if_neg (by simp)] at HF
        have hal2 : al ≤ 100000 := haf64 rfl
        clear haf64
        cases TW with
        | false =>
         refine HNX.out _ _ ?_
         clear HNX
         go_wp2_with (first | (go_at_call 91; refine hHF.mono ?_; rintro e W3 ⟨rfl, g3⟩) | (go_at_call 92; refine (hff _).mono ?_; rintro e W3 ⟨rfl, g3⟩; have HX3 : Hid _ := HX2.out.kept g3; have HG3 : Hid _ := xgt HG2.out g3; clear g3; obtain ⟨y0, y1, y2, y3, y4, y5, y6, y7, y8, y9, y10⟩ := bxe11 HX3.out) | (go_at_call 93; refine (haf _ HG3.out).mono ?_; rintro e W4 ⟨rfl, g4⟩; have HX4 : Hid _ := HX3.out.kept g4; have HG4 : Hid _ := xgt HG3.out g4; clear g4; obtain ⟨z0, z1, z2, z3, z4, z5, z6, z7, z8, z9, z10⟩ := bxe11 HX4.out) | (go_at_call 94; refine (hat _ HG4.out hal2).mono ?_; rintro e W5 ⟨rfl, g5⟩))
         go_ret
         exact ⟨by rw [HF.out]; rfl, xgt HG4.out g5⟩
        | true =>
         refine HNX.out _ _ ?_
         clear HNX
         go_wp2_with (first | (go_at_call 91; refine hHF.mono ?_; rintro e W3 ⟨rfl, g3⟩) | (go_at_call 92; refine (hff _).mono ?_; rintro e W3 ⟨rfl, g3⟩; have HX3 : Hid _ := HX2.out.kept g3; have HG3 : Hid _ := xgt HG2.out g3; clear g3; obtain ⟨y0, y1, y2, y3, y4, y5, y6, y7, y8, y9, y10⟩ := bxe11 HX3.out) | (go_at_call 93; refine (haf _ HG3.out).mono ?_; rintro e W4 ⟨rfl, g4⟩; have HX4 : Hid _ := HX3.out.kept g4; have HG4 : Hid _ := xgt HG3.out g4; clear g4; obtain ⟨z0, z1, z2, z3, z4, z5, z6, z7, z8, z9, z10⟩ := bxe11 HX4.out) | (go_at_call 94; refine (hat _ HG4.out hal2).mono ?_; rintro e W5 ⟨rfl, g5⟩))
         go_ret
         exact ⟨by rw [HF.out]; rfl, xgt HG4.out g5⟩
    ·rw [if_neg (by rintro ⟨h, k⟩; exact d1 h)] at HF
     rw [if_neg (by intro h; rw [h] at b6; cases b6)] at HF
     cases FF with
     | false =>
      rw [if_pos (Or.inl rfl)] at HF
      refine HNX.out _ _ ?_
      clear HNX
      go_wp2_with (first | (go_at_call 91; refine hHF.mono ?_; rintro e W3 ⟨rfl, g3⟩) | (go_at_call 92; refine (hff _).mono ?_; rintro e W3 ⟨rfl, g3⟩; have HX3 : Hid _ := HX2.out.kept g3; have HG3 : Hid _ := xgt HG2.out g3; clear g3; obtain ⟨y0, y1, y2, y3, y4, y5, y6, y7, y8, y9, y10⟩ := bxe11 HX3.out) | (go_at_call 93; refine (haf _ HG3.out).mono ?_; rintro e W4 ⟨rfl, g4⟩; have HX4 : Hid _ := HX3.out.kept g4; have HG4 : Hid _ := xgt HG3.out g4; clear g4; obtain ⟨z0, z1, z2, z3, z4, z5, z6, z7, z8, z9, z10⟩ := bxe11 HX4.out) | (go_at_call 94; refine (hat _ HG4.out hal2).mono ?_; rintro e W5 ⟨rfl, g5⟩))
      go_ret
      exact ⟨by rw [HF.out]; rfl, HG3.out⟩
     | true =>
      cases AF with
      | false =>
       rw [if_pos (Or.inr rfl)] at HF
       refine HNX.out _ _ ?_
       clear HNX
       go_wp2_with (first | (go_at_call 91; refine hHF.mono ?_; rintro e W3 ⟨rfl, g3⟩) | (go_at_call 92; refine (hff _).mono ?_; rintro e W3 ⟨rfl, g3⟩; have HX3 : Hid _ := HX2.out.kept g3; have HG3 : Hid _ := xgt HG2.out g3; clear g3; obtain ⟨y0, y1, y2, y3, y4, y5, y6, y7, y8, y9, y10⟩ := bxe11 HX3.out) | (go_at_call 93; refine (haf _ HG3.out).mono ?_; rintro e W4 ⟨rfl, g4⟩; have HX4 : Hid _ := HX3.out.kept g4; have HG4 : Hid _ := xgt HG3.out g4; clear g4; obtain ⟨z0, z1, z2, z3, z4, z5, z6, z7, z8, z9, z10⟩ := bxe11 HX4.out) | (go_at_call 94; refine (hat _ HG4.out hal2).mono ?_; rintro e W5 ⟨rfl, g5⟩))
       go_ret
       exact ⟨by rw [HF.out]; rfl, HG4.out⟩
      | true =>
       rw [if_neg (by simp)] at HF
       have hal2 : al ≤ 100000 := haf64 rfl
       clear haf64
       cases TW with
       | false =>
        refine HNX.out _ _ ?_
        clear HNX
        go_wp2_with (first | (go_at_call 91; refine hHF.mono ?_; rintro e W3 ⟨rfl, g3⟩) | (go_at_call 92; refine (hff _).mono ?_; rintro e W3 ⟨rfl, g3⟩; have HX3 : Hid _ := HX2.out.kept g3; have HG3 : Hid _ := xgt HG2.out g3; clear g3; obtain ⟨y0, y1, y2, y3, y4, y5, y6, y7, y8, y9, y10⟩ := bxe11 HX3.out) | (go_at_call 93; refine (haf _ HG3.out).mono ?_; rintro e W4 ⟨rfl, g4⟩; have HX4 : Hid _ := HX3.out.kept g4; have HG4 : Hid _ := xgt HG3.out g4; clear g4; obtain ⟨z0, z1, z2, z3, z4, z5, z6, z7, z8, z9, z10⟩ := bxe11 HX4.out) | (go_at_call 94; refine (hat _ HG4.out hal2).mono ?_; rintro e W5 ⟨rfl, g5⟩))
        go_ret
        exact ⟨by rw [HF.out]; rfl, xgt HG4.out g5⟩
       | true =>
        refine HNX.out _ _ ?_
        clear HNX
        go_wp2_with (first | (go_at_call 91; refine hHF.mono ?_; rintro e W3 ⟨rfl, g3⟩) | (go_at_call 92; refine (hff _).mono ?_; rintro e W3 ⟨rfl, g3⟩; have HX3 : Hid _ := HX2.out.kept g3; have HG3 : Hid _ := xgt HG2.out g3; clear g3; obtain ⟨y0, y1, y2, y3, y4, y5, y6, y7, y8, y9, y10⟩ := bxe11 HX3.out) | (go_at_call 93; refine (haf _ HG3.out).mono ?_; rintro e W4 ⟨rfl, g4⟩; have HX4 : Hid _ := HX3.out.kept g4; have HG4 : Hid _ := xgt HG3.out g4; clear g4; obtain ⟨z0, z1, z2, z3, z4, z5, z6, z7, z8, z9, z10⟩ := bxe11 HX4.out) | (go_at_call 94; refine (hat _ HG4.out hal2).mono ?_; rintro e W5 ⟨rfl, g5⟩))
        go_ret
        exact ⟨by rw [HF.out]; rfl, xgt HG4.out g5⟩
   ·rw [if_pos (Or.inr ⟨hpe2, k2⟩)] at HF
    have b2 : (K == 2) = false := by rw [beq_eq_false_iff_ne]; exact k2
    have b2n : (K != 2) = true := by simp [k2]
    clear k2 hpe2
    refine HNX.out _ _ ?_
    clear HNX
    go_wp2_with (first | (go_at_call 91; refine hHF.mono ?_; rintro e W3 ⟨rfl, g3⟩) | (go_at_call 92; refine (hff _).mono ?_; rintro e W3 ⟨rfl, g3⟩; have HX3 : Hid _ := HX2.out.kept g3; have HG3 : Hid _ := xgt HG2.out g3; clear g3; obtain ⟨y0, y1, y2, y3, y4, y5, y6, y7, y8, y9, y10⟩ := bxe11 HX3.out) | (go_at_call 93; refine (haf _ HG3.out).mono ?_; rintro e W4 ⟨rfl, g4⟩; have HX4 : Hid _ := HX3.out.kept g4; have HG4 : Hid _ := xgt HG3.out g4; clear g4; obtain ⟨z0, z1, z2, z3, z4, z5, z6, z7, z8, z9, z10⟩ := bxe11 HX4.out) | (go_at_call 94; refine (hat _ HG4.out hal2).mono ?_; rintro e W5 ⟨rfl, g5⟩))
    go_ret
    exact ⟨by rw [HF.out]; rfl, HG2.out⟩
  | false =>
   rw [if_neg (by rintro (h | h); cases h; rw [h.1] at hpe; cases hpe)] at HF
   by_cases d64 : 64 < dp
   ·rw [if_pos d64] at HF
    refine HNX.out _ _ ?_
    clear HNX
    go_wp2_with (first | (go_at_call 91; refine hHF.mono ?_; rintro e W3 ⟨rfl, g3⟩) | (go_at_call 92; refine (hff _).mono ?_; rintro e W3 ⟨rfl, g3⟩; have HX3 : Hid _ := HX2.out.kept g3; have HG3 : Hid _ := xgt HG2.out g3; clear g3; obtain ⟨y0, y1, y2, y3, y4, y5, y6, y7, y8, y9, y10⟩ := bxe11 HX3.out) | (go_at_call 93; refine (haf _ HG3.out).mono ?_; rintro e W4 ⟨rfl, g4⟩; have HX4 : Hid _ := HX3.out.kept g4; have HG4 : Hid _ := xgt HG3.out g4; clear g4; obtain ⟨z0, z1, z2, z3, z4, z5, z6, z7, z8, z9, z10⟩ := bxe11 HX4.out) | (go_at_call 94; refine (hat _ HG4.out hal2).mono ?_; rintro e W5 ⟨rfl, g5⟩))
    go_ret
    exact ⟨by rw [HF.out]; rfl, HG2.out⟩
   rw [if_neg d64] at HF
   by_cases hpf : PF = (i : Int)
   rotate_left
   ·rw [if_pos hpf] at HF
    have bpf : (PF == (i : Int)) = false := by rw [beq_eq_false_iff_ne]; exact hpf
    clear hpf
    refine HNX.out _ _ ?_
    clear HNX
    go_wp2_with (first | (go_at_call 91; refine hHF.mono ?_; rintro e W3 ⟨rfl, g3⟩) | (go_at_call 92; refine (hff _).mono ?_; rintro e W3 ⟨rfl, g3⟩; have HX3 : Hid _ := HX2.out.kept g3; have HG3 : Hid _ := xgt HG2.out g3; clear g3; obtain ⟨y0, y1, y2, y3, y4, y5, y6, y7, y8, y9, y10⟩ := bxe11 HX3.out) | (go_at_call 93; refine (haf _ HG3.out).mono ?_; rintro e W4 ⟨rfl, g4⟩; have HX4 : Hid _ := HX3.out.kept g4; have HG4 : Hid _ := xgt HG3.out g4; clear g4; obtain ⟨z0, z1, z2, z3, z4, z5, z6, z7, z8, z9, z10⟩ := bxe11 HX4.out) | (go_at_call 94; refine (hat _ HG4.out hal2).mono ?_; rintro e W5 ⟨rfl, g5⟩))
    go_ret
    exact ⟨by rw [HF.out]; rfl, HG2.out⟩
   rw [if_neg (by simp [hpf])] at HF
   have bpf : (PF == (i : Int)) = true := by rw [hpf]; simp
   have HPF : Hid _ := hpf
   clear hpf
   by_cases d1 : 1 < dp
   ·cases D2 with
    | false =>
     rw [if_pos ⟨d1, rfl⟩] at HF
     refine HNX.out _ _ ?_
     clear HNX
     go_wp2_with (first | (go_at_call 91; refine hHF.mono ?_; rintro e W3 ⟨rfl, g3⟩) | (go_at_call 92; refine (hff _).mono ?_; rintro e W3 ⟨rfl, g3⟩; have HX3 : Hid _ := HX2.out.kept g3; have HG3 : Hid _ := xgt HG2.out g3; clear g3; obtain ⟨y0, y1, y2, y3, y4, y5, y6, y7, y8, y9, y10⟩ := bxe11 HX3.out) | (go_at_call 93; refine (haf _ HG3.out).mono ?_; rintro e W4 ⟨rfl, g4⟩; have HX4 : Hid _ := HX3.out.kept g4; have HG4 : Hid _ := xgt HG3.out g4; clear g4; obtain ⟨z0, z1, z2, z3, z4, z5, z6, z7, z8, z9, z10⟩ := bxe11 HX4.out) | (go_at_call 94; refine (hat _ HG4.out hal2).mono ?_; rintro e W5 ⟨rfl, g5⟩))
     go_ret
     exact ⟨by rw [HF.out]; rfl, HG2.out⟩
    | true =>
     rw [if_neg (by rintro ⟨h, k⟩; cases k)] at HF
     by_cases k6 : K = 6
     ·rw [if_pos k6] at HF
      have b6 : (K == 6) = true := by rw [k6]; rfl
      clear k6
      cases TT with
      | true =>
       rw [if_pos rfl] at HF hHF
       refine HNX.out _ _ ?_
       clear HNX
       go_wp2_with (first | (go_at_call 91; refine hHF.mono ?_; rintro e W3 ⟨rfl, g3⟩) | (go_at_call 92; refine (hff _).mono ?_; rintro e W3 ⟨rfl, g3⟩; have HX3 : Hid _ := HX2.out.kept g3; have HG3 : Hid _ := xgt HG2.out g3; clear g3; obtain ⟨y0, y1, y2, y3, y4, y5, y6, y7, y8, y9, y10⟩ := bxe11 HX3.out) | (go_at_call 93; refine (haf _ HG3.out).mono ?_; rintro e W4 ⟨rfl, g4⟩; have HX4 : Hid _ := HX3.out.kept g4; have HG4 : Hid _ := xgt HG3.out g4; clear g4; obtain ⟨z0, z1, z2, z3, z4, z5, z6, z7, z8, z9, z10⟩ := bxe11 HX4.out) | (go_at_call 94; refine (hat _ HG4.out hal2).mono ?_; rintro e W5 ⟨rfl, g5⟩))
       go_ret
       exact ⟨by rw [HF.out]; rfl, xgt HG2.out g3⟩
      | false =>
       rw [if_neg Bool.false_ne_true] at HF hHF
       refine HNX.out _ _ ?_
       clear HNX
       go_wp2_with (first | (go_at_call 91; refine hHF.mono ?_; rintro e W3 ⟨rfl, g3⟩) | (go_at_call 92; refine (hff _).mono ?_; rintro e W3 ⟨rfl, g3⟩; have HX3 : Hid _ := HX2.out.kept g3; have HG3 : Hid _ := xgt HG2.out g3; clear g3; obtain ⟨y0, y1, y2, y3, y4, y5, y6, y7, y8, y9, y10⟩ := bxe11 HX3.out) | (go_at_call 93; refine (haf _ HG3.out).mono ?_; rintro e W4 ⟨rfl, g4⟩; have HX4 : Hid _ := HX3.out.kept g4; have HG4 : Hid _ := xgt HG3.out g4; clear g4; obtain ⟨z0, z1, z2, z3, z4, z5, z6, z7, z8, z9, z10⟩ := bxe11 HX4.out) | (go_at_call 94; refine (hat _ HG4.out hal2).mono ?_; rintro e W5 ⟨rfl, g5⟩))
       go_ret
       exact ⟨by rw [HF.out]; rfl, xgt HG2.out g3⟩
     ·rw [if_neg k6] at HF
      have b6 : (K == 6) = false := by rw [beq_eq_false_iff_ne]; exact k6
      clear k6
      cases FF with
      | false =>
       rw [if_pos (Or.inl rfl)] at HF
       refine HNX.out _ _ ?_
       clear HNX
       go_wp2_with (first | (go_at_call 91; refine hHF.mono ?_; rintro e W3 ⟨rfl, g3⟩) | (go_at_call 92; refine (hff _).mono ?_; rintro e W3 ⟨rfl, g3⟩; have HX3 : Hid _ := HX2.out.kept g3; have HG3 : Hid _ := xgt HG2.out g3; clear g3; obtain ⟨y0, y1, y2, y3, y4, y5, y6, y7, y8, y9, y10⟩ := bxe11 HX3.out) | (go_at_call 93; refine (haf _ HG3.out).mono ?_; rintro e W4 ⟨rfl, g4⟩; have HX4 : Hid _ := HX3.out.kept g4; have HG4 : Hid _ := xgt HG3.out g4; clear g4; obtain ⟨z0, z1, z2, z3, z4, z5, z6, z7, z8, z9, z10⟩ := bxe11 HX4.out) | (go_at_call 94; refine (hat _ HG4.out hal2).mono ?_; rintro e W5 ⟨rfl, g5⟩))
       go_ret
       exact ⟨by rw [HF.out]; rfl, HG3.out⟩
      | true =>
       cases AF with
       | false =>
        rw [if_pos (Or.inr rfl)] at HF
        refine HNX.out _ _ ?_
        clear HNX
        go_wp2_with (first | (go_at_call 91; refine hHF.mono ?_; rintro e W3 ⟨rfl, g3⟩) | (go_at_call 92; refine (hff _).mono ?_; rintro e W3 ⟨rfl, g3⟩; have HX3 : Hid _ := HX2.out.kept g3; have HG3 : Hid _ := xgt HG2.out g3; clear g3; obtain ⟨y0, y1, y2, y3, y4, y5, y6, y7, y8, y9, y10⟩ := bxe11 HX3.out) | (go_at_call 93; refine (haf _ HG3.out).mono ?_; rintro e W4 ⟨rfl, g4⟩; have HX4 : Hid _ := HX3.out.kept g4; have HG4 : Hid _ := xgt HG3.out g4; clear g4; obtain ⟨z0, z1, z2, z3, z4, z5, z6, z7, z8, z9, z10⟩ := bxe11 HX4.out) | (go_at_call 94; refine (hat _ HG4.out hal2).mono ?_; rintro e W5 ⟨rfl, g5⟩))
        go_ret
        exact ⟨by rw [HF.out]; rfl, HG4.out⟩
       | true =>
        rw [if_neg (by simp)] at HF
        have hal2 : al ≤ 100000 := haf64 rfl
        clear haf64
        cases TW with
        | false =>
         refine HNX.out _ _ ?_
         clear HNX
         go_wp2_with (first | (go_at_call 91; refine hHF.mono ?_; rintro e W3 ⟨rfl, g3⟩) | (go_at_call 92; refine (hff _).mono ?_; rintro e W3 ⟨rfl, g3⟩; have HX3 : Hid _ := HX2.out.kept g3; have HG3 : Hid _ := xgt HG2.out g3; clear g3; obtain ⟨y0, y1, y2, y3, y4, y5, y6, y7, y8, y9, y10⟩ := bxe11 HX3.out) | (go_at_call 93; refine (haf _ HG3.out).mono ?_; rintro e W4 ⟨rfl, g4⟩; have HX4 : Hid _ := HX3.out.kept g4; have HG4 : Hid _ := xgt HG3.out g4; clear g4; obtain ⟨z0, z1, z2, z3, z4, z5, z6, z7, z8, z9, z10⟩ := bxe11 HX4.out) | (go_at_call 94; refine (hat _ HG4.out hal2).mono ?_; rintro e W5 ⟨rfl, g5⟩))
         go_ret
         exact ⟨by rw [HF.out]; rfl, xgt HG4.out g5⟩
        | true =>
         refine HNX.out _ _ ?_
         clear HNX
         go_wp2_with (first | (go_at_call 91; refine hHF.mono ?_; rintro e W3 ⟨rfl, g3⟩) | (go_at_call 92; refine (hff _).mono ?_; rintro e W3 ⟨rfl, g3⟩; have HX3 : Hid _ := HX2.out.kept g3; have HG3 : Hid _ := xgt HG2.out g3; clear g3; obtain ⟨y0, y1, y2, y3, y4, y5, y6, y7, y8, y9, y10⟩ := bxe11 HX3.out) | (go_at_call 93; refine (haf _ HG3.out).mono ?_; rintro e W4 ⟨rfl, g4⟩; have HX4 : Hid _ := HX3.out.kept g4; have HG4 : Hid _ := xgt HG3.out g4; clear g4; obtain ⟨z0, z1, z2, z3, z4, z5, z6, z7, z8, z9, z10⟩ := bxe11 HX4.out) | (go_at_call 94; refine (hat _ HG4.out hal2).mono ?_; rintro e W5 ⟨rfl, g5⟩))
         go_ret
         exact ⟨by rw [HF.out]; rfl, xgt HG4.out g5⟩
   ·rw [if_neg (by rintro ⟨h, k⟩; exact d1 h)] at HF
    by_cases k6 : K = 6
    ·rw [if_pos k6] at HF
     have b6 : (K == 6) = true := by rw [k6]; rfl
     clear k6
     cases TT with
     | true =>
      rw [if_pos rfl] at HF hHF
      refine HNX.out _ _ ?_
      clear HNX
      go_wp2_with (first | (go_at_call 91; refine hHF.mono ?_; rintro e W3 ⟨rfl, g3⟩) | (go_at_call 92; refine (hff _).mono ?_; rintro e W3 ⟨rfl, g3⟩; have HX3 : Hid _ := HX2.out.kept g3; have HG3 : Hid _ := xgt HG2.out g3; clear g3; obtain ⟨y0, y1, y2, y3, y4, y5, y6, y7, y8, y9, y10⟩ := bxe11 HX3.out) | (go_at_call 93; refine (haf _ HG3.out).mono ?_; rintro e W4 ⟨rfl, g4⟩; have HX4 : Hid _ := HX3.out.kept g4; have HG4 : Hid _ := xgt HG3.out g4; clear g4; obtain ⟨z0, z1, z2, z3, z4, z5, z6, z7, z8, z9, z10⟩ := bxe11 HX4.out) | (go_at_call 94; refine (hat _ HG4.out hal2).mono ?_; rintro e W5 ⟨rfl, g5⟩))
      go_ret
      exact ⟨by rw [HF.out]; rfl, xgt HG2.out g3⟩
     | false =>
      rw [if_neg Bool.false_ne_true] at HF hHF
      refine HNX.out _ _ ?_
      clear HNX
      go_wp2_with (first | (go_at_call 91; refine hHF.mono ?_; rintro e W3 ⟨rfl, g3⟩) | (go_at_call 92; refine (hff _).mono ?_; rintro e W3 ⟨rfl, g3⟩; have HX3 : Hid _ := HX2.out.kept g3; have HG3 : Hid _ := xgt HG2.out g3; clear g3; obtain ⟨y0, y1, y2, y3, y4, y5, y6, y7, y8, y9, y10⟩ := bxe11 HX3.out) | (go_at_call 93; refine (haf _ HG3.out).mono ?_; rintro e W4 ⟨rfl, g4⟩; have HX4 : Hid _ := HX3.out.kept g4; have HG4 : Hid _ := xgt HG3.out g4; clear g4; obtain ⟨z0, z1, z2, z3, z4, z5, z6, z7, z8, z9, z10⟩ := bxe11 HX4.out) | (go_at_call 94; refine (hat _ HG4.out hal2).mono ?_; rintro e W5 ⟨rfl, g5⟩))
      go_ret
      exact ⟨by rw [HF.out]; rfl, xgt HG2.out g3⟩
    ·rw [if_neg k6] at HF
     have b6 : (K == 6) = false := by rw [beq_eq_false_iff_ne]; exact k6
     clear k6
     cases FF with
     | false =>
      rw [if_pos (Or.inl rfl)] at HF
      refine HNX.out _ _ ?_
      clear HNX
      go_wp2_with (first | (go_at_call 91; refine hHF.mono ?_; rintro e W3 ⟨rfl, g3⟩) | (go_at_call 92; refine (hff _).mono ?_; rintro e W3 ⟨rfl, g3⟩; have HX3 : Hid _ := HX2.out.kept g3; have HG3 : Hid _ := xgt HG2.out g3; clear g3; obtain ⟨y0, y1, y2, y3, y4, y5, y6, y7, y8, y9, y10⟩ := bxe11 HX3.out) | (go_at_call 93; refine (haf _ HG3.out).mono ?_; rintro e W4 ⟨rfl, g4⟩; have HX4 : Hid _ := HX3.out.kept g4; have HG4 : Hid _ := xgt HG3.out g4; clear g4; obtain ⟨z0, z1, z2, z3, z4, z5, z6, z7, z8, z9, z10⟩ := bxe11 HX4.out) | (go_at_call 94; refine (hat _ HG4.out hal2).mono ?_; rintro e W5 ⟨rfl, g5⟩))
      go_ret
      exact ⟨by rw [HF.out]; rfl, HG3.out⟩
     | true =>
      cases AF with
      | false =>
       rw [if_pos (Or.inr rfl)] at HF
       refine HNX.out _ _ ?_
       clear HNX
       go_wp2_with (first | (go_at_call 91; refine hHF.mono ?_; rintro e W3 ⟨rfl, g3⟩) | (go_at_call 92; refine (hff _).mono ?_; rintro e W3 ⟨rfl, g3⟩; have HX3 : Hid _ := HX2.out.kept g3; have HG3 : Hid _ := xgt HG2.out g3; clear g3; obtain ⟨y0, y1, y2, y3, y4, y5, y6, y7, y8, y9, y10⟩ := bxe11 HX3.out) | (go_at_call 93; refine (haf _ HG3.out).mono ?_; rintro e W4 ⟨rfl, g4⟩; have HX4 : Hid _ := HX3.out.kept g4; have HG4 : Hid _ := xgt HG3.out g4; clear g4; obtain ⟨z0, z1, z2, z3, z4, z5, z6, z7, z8, z9, z10⟩ := bxe11 HX4.out) | (go_at_call 94; refine (hat _ HG4.out hal2).mono ?_; rintro e W5 ⟨rfl, g5⟩))
       go_ret
       exact ⟨by rw [HF.out]; rfl, HG4.out⟩
      | true =>
       rw [if_neg (by simp)] at HF
       have hal2 : al ≤ 100000 := haf64 rfl
       clear haf64
       cases TW with
       | false =>
        refine HNX.out _ _ ?_
        clear HNX
        go_wp2_with (first | (go_at_call 91; refine hHF.mono ?_; rintro e W3 ⟨rfl, g3⟩) | (go_at_call 92; refine (hff _).mono ?_; rintro e W3 ⟨rfl, g3⟩; have HX3 : Hid _ := HX2.out.kept g3; have HG3 : Hid _ := xgt HG2.out g3; clear g3; obtain ⟨y0, y1, y2, y3, y4, y5, y6, y7, y8, y9, y10⟩ := bxe11 HX3.out) | (go_at_call 93; refine (haf _ HG3.out).mono ?_; rintro e W4 ⟨rfl, g4⟩; have HX4 : Hid _ := HX3.out.kept g4; have HG4 : Hid _ := xgt HG3.out g4; clear g4; obtain ⟨z0, z1, z2, z3, z4, z5, z6, z7, z8, z9, z10⟩ := bxe11 HX4.out) | (go_at_call 94; refine (hat _ HG4.out hal2).mono ?_; rintro e W5 ⟨rfl, g5⟩))
        go_ret
        exact ⟨by rw [HF.out]; rfl, xgt HG4.out g5⟩
       | true =>
        refine HNX.out _ _ ?_
        clear HNX
        go_wp2_with (first | (go_at_call 91; refine hHF.mono ?_; rintro e W3 ⟨rfl, g3⟩) | (go_at_call 92; refine (hff _).mono ?_; rintro e W3 ⟨rfl, g3⟩; have HX3 : Hid _ := HX2.out.kept g3; have HG3 : Hid _ := xgt HG2.out g3; clear g3; obtain ⟨y0, y1, y2, y3, y4, y5, y6, y7, y8, y9, y10⟩ := bxe11 HX3.out) | (go_at_call 93; refine (haf _ HG3.out).mono ?_; rintro e W4 ⟨rfl, g4⟩; have HX4 : Hid _ := HX3.out.kept g4; have HG4 : Hid _ := xgt HG3.out g4; clear g4; obtain ⟨z0, z1, z2, z3, z4, z5, z6, z7, z8, z9, z10⟩ := bxe11 HX4.out) | (go_at_call 94; refine (hat _ HG4.out hal2).mono ?_; rintro e W5 ⟨rfl, g5⟩))
        go_ret
        exact ⟨by rw [HF.out]; rfl, xgt HG4.out g5⟩
def Szs (l : List EnV) : Prop := ∀ X ∈ l, X.path.size ≤ 5000 ∧ X.target.size ≤ 9223372036854775807 ∧ ∀ A ∈ X.attrs, A.n.size ≤ 9223372036854775807
theorem ens_getk {l : List EnV} {k : Nat} {Y : EnV} (h : l[k]? = some Y) : (ens l)[k]? = some Y.en := by unfold ens; rw [List.getElem?_map, h]; rfl
set_option maxHeartbeats 4000000 in
theorem pcheck_any (a : Option Addr) (len cap : Nat) (l : List EnV) (w : World) (E : Ens w a len l) (hs : Szs l) (hlen : len ≤ 100000) :
  Calls Tryz.prog 31 #[.slice a len cap] w fun e w' => e = .returned (.tuple #[.int .i64 (chk11 (ens l)).1, .int .i64 (chk11 (ens l)).2]) ∧ w.grownBy w' none := by
 have hll := E.len_eq
 by_cases h1 : 16384 < len
 ·have HV : Hid (chk11 (ens l) = (0, 3)) := by
   show chk11 (ens l) = (0, 3)
   unfold chk11
   rw [if_pos (by rw [ens_len]; omega)]
  have h1i : (16384 : Int) < (len : Int) := by omega
  clear E hll
  go_enter Tryz.func31, Tryz.ntmps31
  go_wp2_with fail
  go_ret2
  exact ⟨by rw [HV.out]; rfl, World.grownBy.refl _ _⟩
 ·have HE : Hid (chk11 (ens l) = if 8388608 < sums (ens l) then (0, 2) else fault (ens l) (ens l) 0) := by
   show chk11 (ens l) = _
   unfold chk11
   rw [if_neg (by rw [ens_len]; omega)]
  have h1i : ¬ (16384 : Int) < (len : Int) := by omega
  have htl := ptoolong_any a len cap l w E
  by_cases hsu : 8388608 < sums (ens l)
  ·rw [decide_eq_true hsu] at htl
   rw [if_pos hsu] at HE
   clear E hll hs hsu
   go_enter Tryz.func31, Tryz.ntmps31
   go_wp2_with (go_at_call 61; refine htl.mono ?_; rintro e w' ⟨rfl, hg⟩)
   go_ret2
   exact ⟨by rw [HE.out]; rfl, hg⟩
  ·rw [decide_eq_false hsu] at htl
   rw [if_neg hsu] at HE
   have hpl := fun W (g : w.grownBy W none) => pplaces_any a len cap l W (E.grown g) (fun X hX => (hs X hX).1) hlen
   have HI : Hid _ := xai E (xai hll hs)
   clear E hll hs hsu
   generalize chk11 (ens l) = A at *
   go_enter Tryz.func31, Tryz.ntmps31
   go_wp2_with (first | (go_at_call 61; refine htl.mono ?_; rintro e W1 ⟨rfl, g1⟩; have HG1 : Hid _ := g1; clear g1) | (go_at_call 62; refine (hpl _ HG1.out).mono ?_; rintro e W2 ⟨rfl, hM, hg⟩; have HM : Hid (MapF W2 9 W1.heap.size len (plK (ens l))) := hM; have HG2 : Hid _ := xgt HG1.out hg; clear hM hg))
   clear htl hpl
   generalize W1.heap.size = B at *
   go_loopw [19] (fun vi wr => ∃ (k : Nat), k ≤ len ∧ vi = .int .i64 k ∧ Hid (A = fault (ens l) ((ens l).drop k) k) ∧ Hid (W2.grownBy wr none)) (fun vi _ => len - (intOf vi).toNat)
   case atStart => exact ⟨0, Nat.zero_le _, rfl, HE.out, World.grownBy.refl _ _⟩
   case round =>
    obtain ⟨k, hk, rfl, HS, HG⟩ := hrel
    by_cases hlt : k < len
    ·obtain ⟨Y, hY⟩ : ∃ Y, l[k]? = some Y := ⟨_, List.getElem?_eq_getElem (by have := HI.out.2.1; omega)⟩
     have HGw : Hid _ := xgt HG2.out HG.out
     obtain ⟨b, off, rfl, hat⟩ := (HI.out.1.grown HGw.out).at_ (by omega)
     obtain ⟨y0, y1, y2, y3, y4, y5, y6, y7, y8, y9, y10, yok⟩ := hat k Y hY
     have hsz := HI.out.2.2 Y (List.mem_of_getElem? hY)
     have hfa := fun W (g : wr.grownBy W none) => pfault_any Y k W B len (ens l) (HM.out.kept (xgt HG.out g) (by simp)) hsz.1 (yok.grown g) hsz.2.1 hsz.2.2 (by omega)
     have hfe := flt_ent (ens_getk hY)
     rw [hfe] at hfa
     have hdr := ens_drop hY
     have HN : Hid (ent11 (ens l) k Y.en = 0 → A = fault (ens l) ((ens l).drop (k + 1)) (k + 1)) := by
      show _ → _
      intro h0
      rw [HS.out, hdr, fault_skip h0]
     have HN2 : Hid (ent11 (ens l) k Y.en ≠ 0 → A = ((k : Int), ent11 (ens l) k Y.en)) := by
      show _ → _
      intro h0
      rw [HS.out, hdr, fault_hit h0]
     generalize ent11 (ens l) k Y.en = V at *
     clear hfe hdr hat yok hsz hY HS
     obtain ⟨path, KY, mo, uid, gid, ti, sz_, da, D, dc, data, tg, dev, aa, al, ac, attrs⟩ := Y
     simp only [EnV.val] at hfa
     simp only at y0 y1 y2 y3 y4 y5 y6 y7 y8 y9 y10
     have hlti : (k : Int) < (len : Int) := by omega
     by_cases hV : V = 0
     ·subst hV
      have HV : Hid (A = fault (ens l) ((ens l).drop (k + 1)) (k + 1)) := HN.out rfl
      clear HN HN2
      go_wp2_with (go_at_call 63; refine (hfa _ (xga _ _ none)).mono ?_; rintro e w' ⟨rfl, hg⟩)
      exact ⟨⟨k + 1, by omega, by go_num, HV, xgt HG.out (xgt (xga _ _ none) hg)⟩, by simp [intOf]; omega⟩
     ·have bV : (V == 0) = false := by rw [beq_eq_false_iff_ne]; exact hV
      have HV : Hid _ := HN2.out hV
      clear hV HN HN2
      go_wp2_with (go_at_call 63; refine (hfa _ (xga _ _ none)).mono ?_; rintro e w' ⟨rfl, hg⟩)
      go_ret2
      exact ⟨by rw [HV.out]; rfl, xgt HGw.out (xgt (xga _ _ none) hg)⟩
    ·have hlti : ¬ (k : Int) < (len : Int) := by omega
     obtain rfl : k = len := by omega
     have HV : Hid (A = (0, 0)) := by
      show A = (0, 0)
      rw [HS.out, List.drop_eq_nil_of_le (by rw [ens_len, HI.out.2.1]; exact Nat.le_refl _)]
      rfl
     go_wp2_with fail
     go_ret2
     exact ⟨by rw [HV.out]; rfl, xgt HG2.out HG.out⟩
end Go.Proofs.YtlehncfehoelbaaGreatDoor
namespace Go.Proofs.YtlehncfehoelbaaGreatDoor
open Go.RowKit
set_option maxRecDepth 100000
set_option linter.unusedSimpArgs false
set_option linter.unusedVariables false
theorem evc_len (X : EnV) : (evc X).length = 11 := rfl
theorem evc_one (X : EnV) : ∀ u ∈ evc X, u.oneCell' = true := by
 intro u hu
 simp [evc] at hu
 rcases hu with rfl | rfl | rfl | rfl | rfl | rfl | rfl | rfl | rfl | rfl | rfl <;> rfl
theorem flat_one (l : List EnV) : ∀ u ∈ l.flatMap evc, u.oneCell' = true := by
 intro u hu
 obtain ⟨X, _, h⟩ := List.mem_flatMap.1 hu
 exact evc_one X u h
theorem EnAt.cells {w : World} {b o : Nat} {X : EnV} (h : EnAt w b o X) (f : Nat) (hf : f < 11) : w.cell? ⟨b, o + f, none⟩ = (evc X)[f]? := by
 have hh : f = 0 ∨ f = 1 ∨ f = 2 ∨ f = 3 ∨ f = 4 ∨ f = 5 ∨ f = 6 ∨ f = 7 ∨ f = 8 ∨ f = 9 ∨ f = 10 := by omega
 rcases hh with rfl | rfl | rfl | rfl | rfl | rfl | rfl | rfl | rfl | rfl | rfl
 ·exact h.c0
 ·exact h.c1
 ·exact h.c2
 ·exact h.c3
 ·exact h.c4
 ·exact h.c5
 ·exact h.c6
 ·exact h.c7
 ·exact h.c8
 ·exact h.c9
 ·exact h.c10
theorem ens_cells {w : World} {b o : Nat} {l : List EnV} (h : ∀ (i : Nat) (X : EnV), l[i]? = some X → EnAt w b (o + i * 11) X) : ∀ j u, (l.flatMap evc)[j]? = some u → w.cell? ((⟨b, o, none⟩ : Addr).add j) = some u := by
 intro j u hu
 have hj : j < l.length * 11 := by have := (List.getElem?_eq_some_iff.1 hu).1; rwa [flat_len evc 11 evc_len] at this
 have hq : j / 11 < l.length := Nat.div_lt_of_lt_mul (by rw [Nat.mul_comm]; exact hj)
 have hm : j % 11 < 11 := Nat.mod_lt _ (by decide)
 have hX := List.getElem?_eq_getElem hq
 have h2 := flat_at evc 11 evc_len l (j / 11) (j % 11) _ hX hm
 have e1 : j / 11 * 11 + j % 11 = j := by rw [Nat.mul_comm]; exact Nat.div_add_mod j 11
 rw [e1, hu] at h2
 have h3 := (h (j / 11) _ hX).cells (j % 11) hm
 rw [← h2] at h3
 have e : (⟨b, o, none⟩ : Addr).add j = ⟨b, o + j, none⟩ := by simp [Addr.add]
 rw [e, ← h3]
 congr 2
 omega
theorem own_ens {W : World} {base n : Nat} {v : Value} {l : List EnV} (h : W.ownsRow base 30 11 v n (l.flatMap evc)) (hn : n = l.length) (ho : ∀ X ∈ l, X.ok W) : ∃ a c, v = .slice a n c ∧ Ens W a n l := by
 rcases h.2 with ⟨rfl, h0⟩ | ⟨g, cap, cur, rfl, hg, hh, hc, hm, hs, ht⟩
 ·exact ⟨none, 0, by rw [h0], ⟨hn.symm, by omega, fun h => by omega⟩⟩
 ·refine ⟨_, cap, rfl, ⟨hn.symm, Nat.le_trans hc hm, fun _ => ⟨g, 0, rfl, fun i X hX => ?_⟩⟩⟩
  have hi : i < l.length := (List.getElem?_eq_some_iff.1 hX).1
  have k := fun f (hf : f < 11) => (h.cellAt (i * 11 + f) (by omega)).trans (flat_at evc 11 evc_len l i f X hX hf)
  rw [Nat.zero_add]
  exact ⟨k 0 (by decide), k 1 (by decide), k 2 (by decide), k 3 (by decide), k 4 (by decide), k 5 (by decide), k 6 (by decide), k 7 (by decide), k 8 (by decide), k 9 (by decide), k 10 (by decide), ho X (List.mem_of_getElem? hX)⟩
theorem run_app_none {P : Program} {w : World} {t ty e : TypeId} {i : TypeInfo} (ht : P.underlying t = some (.slice e)) (hi : P.info? e = some i) (g n cap c : Nat) (hn : n ≤ cap) :
  (Builtin.append_ #[t, t] ty #[.slice (some ⟨g, 0, none⟩) n cap, .slice none 0 c]).run P w = .ok (.slice (some ⟨g, 0, none⟩) n cap) w := by
 simp [Builtin.append_, run_underlying ht, sizeOf, typeInfo, hi, Builtin.lenOf, hn, run_firstCells_none, storeCells]
set_option maxHeartbeats 4000000 in
theorem pconcat_any (b ra : Nat) (a : Option Addr) (len cap : Nat) (R : EnV) (l : List EnV) (w : World) (hR : Bx w ra 30 (evc R)) (E : Ens w a len l) (h0 : w.cell? ⟨b, 0, none⟩ = some (.slice (some ⟨ra, 0, none⟩) 1 1)) (h1 : w.cell? ⟨b, 1, none⟩ = some (.slice a len cap)) (hlen : len ≤ 100000) :
  Calls Tryz.prog 71 #[.slice (some ⟨b, 0, none⟩) 2 2] w fun e w' => ∃ v, e = .returned v ∧ w'.ownsRow w.heap.size 30 11 v (len + 1) ((R :: l).flatMap evc) ∧ w.grownBy w' none := by
 obtain ⟨ie, hi, hz0, hz1, hz2⟩ := info_parts Tryz.infoE
 have HIE : Hid _ := xai hi (xai hz0 (xai hz1 hz2))
 clear hi hz0 hz1 hz2
 have hgr := fun W => pgrow_any (len + 1) W (by omega) (by omega)
 have ec : ((len + 1 : Nat) : Int) = (len : Int) + 1 := by omega
 rw [ec] at hgr
 clear ec
 have HI : Hid _ := xai hR E
 clear hR E
 go_enter Tryz.func71, Tryz.ntmps71
 go_wp2_with fail
 go_loop [3, 11] (fun v3 vi => (vi = .int .i64 0 ∧ v3 = .int .i64 0) ∨ (vi = .int .i64 1 ∧ v3 = .int .i64 1) ∨ (vi = .int .i64 2 ∧ v3 = .int .i64 ((len : Int) + 1))) (fun _ vi => 2 - (intOf vi).toNat)
 case atStart => exact Or.inl ⟨rfl, rfl⟩
 case round =>
  rcases hrel with ⟨rfl, rfl⟩ | ⟨rfl, rfl⟩ | ⟨rfl, rfl⟩
  ·go_wp2_with fail
   go_round
   case rel => exact Or.inr (Or.inl ⟨by go_num, by go_num⟩)
   case measure => simp [intOf]
  ·go_wp2_with fail
   go_round
   case rel => exact Or.inr (Or.inr ⟨by go_num, by go_num⟩)
   case measure => simp [intOf]
  ·go_wp2_with (go_at_call 105; refine (hgr _).mono ?_; rintro e W1 ⟨c, rfl, hc, ho1, g1⟩; have HO1 : Hid _ := xai ho1 g1; have HCC : Hid _ := hc; clear ho1 g1 hc)
   have h0' := cell_grown h0 HO1.out.2
   have h1' := cell_grown h1 HO1.out.2
   have HBL : Hid _ := cell_lt11 h0
   clear h0 h1 hgr
   generalize hg : w.heap.size = g at *
   have HGS : Hid _ := hg
   clear hg
   go_loopw [6, 27] (fun v6 vi wr => (vi = .int .i64 0 ∧ v6 = .slice (some ⟨g, 0, none⟩) 0 c ∧ Hid (wr.ownsRow g 30 11 (.slice (some ⟨g, 0, none⟩) 0 c) 0 [] ∧ w.grownBy wr none ∧ wr.cell? ⟨b, 0, none⟩ = some (.slice (some ⟨ra, 0, none⟩) 1 1) ∧ wr.cell? ⟨b, 1, none⟩ = some (.slice a len cap))) ∨
    (∃ g1 c1, vi = .int .i64 1 ∧ v6 = .slice (some ⟨g1, 0, none⟩) 1 c1 ∧ Hid (wr.ownsRow g 30 11 (.slice (some ⟨g1, 0, none⟩) 1 c1) 1 (evc R) ∧ w.grownBy wr none ∧ wr.cell? ⟨b, 0, none⟩ = some (.slice (some ⟨ra, 0, none⟩) 1 1) ∧ wr.cell? ⟨b, 1, none⟩ = some (.slice a len cap))) ∨
    (vi = .int .i64 2 ∧ Hid (wr.ownsRow g 30 11 v6 (len + 1) ((R :: l).flatMap evc) ∧ w.grownBy wr none))) (fun _ vi _ => 2 - (intOf vi).toNat)
   case atStart => exact Or.inl ⟨rfl, rfl, HO1.out.1, HO1.out.2, h0', h1'⟩
   case round =>
    clear HO1 h0' h1'
    rcases hrel with ⟨rfl, rfl, HH⟩ | ⟨g1, c1, rfl, rfl, HH⟩ | ⟨rfl, HH⟩
    ·have hc0 := HH.out.2.2.1
     have hbx := HI.out.1.kept HH.out.2.1
     obtain ⟨v', W9, hrun, hown', hgrow, hnil, _⟩ := run_append_own_at (P := Tryz.prog) wr g 22 22 30 ie _ 11 _ Tryz.underlying22 HIE.out.1 HIE.out.2.1 HIE.out.2.2.1 HIE.out.2.2.2 rfl (by decide) _ _ _ HH.out.1 ⟨ra, 0, none⟩ 1 1 (evc R) rfl (fun j u hu => by
      have e : (⟨ra, 0, none⟩ : Addr).add j = ⟨ra, j, none⟩ := by simp [Addr.add]; intro h; exact h.symm
      rw [e, hbx.c j]; exact hu) (evc_one R) (by unfold maxLen; omega) (by omega) (by have := HH.out.2.1.size; rw [HGS.out] at this; exact this)
     have HR : Hid _ := hrun
     have hbg : b < g := by
      have h2 := HBL.out
      exact h2
     obtain ⟨g2, c2, rfl⟩ : ∃ g2 c2, v' = .slice (some ⟨g2, 0, none⟩) 1 c2 := by
      rcases hown'.2 with ⟨_, h0⟩ | ⟨g', cap', cur, hv, _⟩
      ·omega
      ·exact ⟨g', cap', hv⟩
     have hkeep : ∀ i v, wr.cell? ⟨b, i, none⟩ = some v → W9.cell? ⟨b, i, none⟩ = some v := fun i v h => by
      have hblk := hgrow.block b (cell_lt11 h) (by intro e; injection e with e; have e2 : b = g := e; omega)
      rw [World.cell?_of_block (a := ⟨b, i, none⟩) hblk]; exact h
     have HN : Hid (W9.ownsRow g 30 11 (.slice (some ⟨g2, 0, none⟩) 1 c2) 1 (evc R) ∧ w.grownBy W9 none ∧ W9.cell? ⟨b, 0, none⟩ = some (.slice (some ⟨ra, 0, none⟩) 1 1) ∧ W9.cell? ⟨b, 1, none⟩ = some (.slice a len cap)) := ⟨by simpa using hown', grown_new HH.out.2.1 hgrow (by rw [HGS.out]; exact Nat.le_refl _), hkeep 0 _ HH.out.2.2.1, hkeep 1 _ HH.out.2.2.2⟩
     clear hrun hown' hgrow hnil hbx hkeep
     go_wp2_with ((with_reducible refine app_here ?_); refine wpList_appR rfl _ _ 22 22 rfl _ _ _ rfl rfl HR.out ?_)
     exact ⟨Or.inr (Or.inl ⟨g2, c2, by go_num, rfl, HN⟩), by simp [intOf]⟩
    ·have hc1 := HH.out.2.2.2
     have hE := HI.out.2.grown HH.out.2.1
     have hfm : (R :: l).flatMap evc = evc R ++ l.flatMap evc := by rw [List.flatMap_cons]
     have hsz : g ≤ wr.heap.size := by have := HH.out.2.1.size; rw [HGS.out] at this; exact this
     have hex : ∃ v' W9, (Builtin.append_ #[22, 22] 22 #[.slice (some ⟨g1, 0, none⟩) 1 c1, .slice a len cap]).run Tryz.prog wr = .ok v' W9 ∧ W9.ownsRow g 30 11 v' (len + 1) ((R :: l).flatMap evc) ∧ w.grownBy W9 none := by
      cases a with
      | none =>
       have hl0 : len = 0 := by
        rcases Nat.eq_zero_or_pos len with h | h
        ·exact h
        ·obtain ⟨_, _, e, _⟩ := hE.at_ h; cases e
       have hl : l = [] := List.eq_nil_of_length_eq_zero (by rw [hE.len_eq, hl0])
       rcases HH.out.1.2 with ⟨h0, _⟩ | ⟨g', cap', cur, hv, hg, hb, hn, _⟩
       ·cases h0
       ·injection hv with e1 e2 e3
        refine ⟨.slice (some ⟨g1, 0, none⟩) 1 c1, wr, ?_, ?_, HH.out.2.1⟩
        ·rw [hl0]
         exact run_app_none Tryz.underlying22 HIE.out.1 g1 1 c1 cap (by omega)
        ·rw [hl0, hl]
         simpa using HH.out.1
      | some ad =>
       have hnews : ∀ j u, (l.flatMap evc)[j]? = some u → wr.cell? (ad.add j) = some u := by
        rcases Nat.eq_zero_or_pos len with h | h
        ·have hl : l = [] := List.eq_nil_of_length_eq_zero (by rw [hE.len_eq, h])
         intro j u hu
         rw [hl] at hu
         cases hu
        ·obtain ⟨b2, o2, e, k⟩ := hE.at_ h
         injection e with e
         rw [e]
         exact ens_cells k
       obtain ⟨v', W9, hrun, hown', hgrow, _, _⟩ := run_append_own_at (P := Tryz.prog) wr g 22 22 30 ie _ 11 _ Tryz.underlying22 HIE.out.1 HIE.out.2.1 HIE.out.2.2.1 HIE.out.2.2.2 rfl (by decide) _ _ _ HH.out.1 ad len cap (l.flatMap evc) (by rw [flat_len evc 11 evc_len, hE.len_eq]) hnews (flat_one l) (by unfold maxLen; omega) (by omega) hsz
       exact ⟨v', W9, hrun, by rw [hfm, Nat.add_comm len 1]; exact hown', grown_ownB HH.out.2.1 HH.out.1 hgrow (by rw [HGS.out]; exact Nat.le_refl _)⟩
     obtain ⟨v', W9, hrun, hN1, hN2⟩ := hex
     have HR : Hid _ := hrun
     have HN : Hid _ := xai hN1 hN2
     clear hrun hN1 hN2 hE hfm
     go_wp2_with ((with_reducible refine app_here ?_); refine wpList_appR rfl _ _ 22 22 rfl _ _ _ rfl rfl HR.out ?_)
     exact ⟨Or.inr (Or.inr ⟨by go_num, HN⟩), by simp [intOf]⟩
    ·go_wp2_with fail
     go_ret
     exact ⟨_, rfl, by rw [HGS.out]; exact HH.out.1, HH.out.2⟩
def wRoot (l : List EnV) : List EnV := if hasR l then l else rootV :: l
theorem Ens.ok {w : World} {a : Option Addr} {n : Nat} {l : List EnV} (h : Ens w a n l) : ∀ X ∈ l, X.ok w := by
 intro X hX
 obtain ⟨i, hi⟩ := List.mem_iff_getElem?.1 hX
 obtain ⟨b, o, _, k⟩ := h.at_ (by have := (List.getElem?_eq_some_iff.1 hi).1; have := h.len_eq; omega)
 exact (k i X hi).ok
set_option maxHeartbeats 4000000 in
theorem pwithroot_any (a : Option Addr) (len cap : Nat) (l : List EnV) (w : World) (E : Ens w a len l) (hlen : len ≤ 100000) :
  Calls Tryz.prog 33 #[.slice a len cap] w fun e w' => ∃ a' n' c', e = .returned (.slice a' n' c') ∧ Ens w' a' n' (wRoot l) ∧ w.grownBy w' none := by
 have hcf := pconf_any a len cap l w E
 have HE : Hid _ := E
 clear E
 cases hR : hasR l with
 | true =>
  rw [hR] at hcf
  have HW : Hid (wRoot l = l) := by show wRoot l = l; unfold wRoot; rw [hR]; rfl
  clear hR
  go_enter Tryz.func33, Tryz.ntmps33
  go_wp2_with (go_at_call 69; refine hcf.mono ?_; rintro e w' ⟨rfl, hg⟩)
  go_ret
  exact ⟨a, len, cap, rfl, by rw [HW.out]; exact HE.out.grown hg, hg⟩
 | false =>
  rw [hR] at hcf
  have HW : Hid (wRoot l = rootV :: l) := by show wRoot l = _; unfold wRoot; rw [hR]; rfl
  clear hR
  have hco := fun (b ra : Nat) (W : World) (g : w.grownBy W none) (h1 : Bx W ra 30 (evc rootV)) h2 h3 => pconcat_any b ra a len cap rootV l W h1 (HE.out.grown g) h2 h3 hlen
  go_enter Tryz.func33, Tryz.ntmps33
  go_wp2_with (first | (go_at_call 69; refine hcf.mono ?_; rintro e W1 ⟨rfl, g1⟩; have HG1 : Hid _ := g1; clear g1) | (go_at_call 71; refine (hco _ W1.heap.size _ (xgt HG1.out (xgt (xga _ _ none) (xga _ _ none))) ((Bx.new W1 30 (evc rootV)).kept (xga _ _ none)) ?_ ?_).mono ?_))
  ·simp
  ·simp
  ·rintro e W2 ⟨v, rfl, ho, g2⟩
   have G : w.grownBy W2 none := xgt (xgt HG1.out (xgt (xga _ _ none) (xga _ _ none))) g2
   have hok : ∀ X ∈ rootV :: l, X.ok W2 := by
    intro X hX
    rcases List.mem_cons.1 hX with rfl | hX
    ·exact rootV_ok _
    ·exact (HE.out.ok X hX).grown G
   obtain ⟨a', c', rfl, hE'⟩ := own_ens (n := len + 1) ho (by rw [List.length_cons, HE.out.len_eq]) hok
   have HF : Hid _ := xai hE' G
   clear hE' G ho g2 hok
   go_wp2_with fail
   go_ret
   exact ⟨a', len + 1, c', rfl, by rw [HW.out]; exact HF.out.1, HF.out.2⟩
end Go.Proofs.YtlehncfehoelbaaGreatDoor
