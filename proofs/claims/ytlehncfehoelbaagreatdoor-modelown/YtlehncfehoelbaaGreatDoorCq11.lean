/- The document's Node, and where its rows lie. -/
import Derived.Test.YtlehncfehoelbaaGreatDoorCq07
namespace Go.Proofs.YtlehncfehoelbaaGreatDoor
open Go.RowKit
set_option maxRecDepth 100000
set_option linter.unusedSimpArgs false
set_option linter.unusedVariables false
structure NodeNew (w0 w w' : World) (N : NoV) : Prop where
 own : w'.ownsRow w.heap.size 45 2 (.slice N.aa N.al N.ac) N.al (N.attrs.flatMap avc)
 len : N.al = N.attrs.length
 rows : ∀ A ∈ N.attrs, Row w0 A.a A.len A.v ∧ A.len ≤ A.cap
 row : Row w0 N.da N.dl N.data
 dcap : N.dl ≤ N.dc
set_option maxHeartbeats 16000000 in
theorem rnode_new (X : EnV) (w0 w : World) (h0 : X.ok w0) (g0 : w0.grownBy w none) (hal : X.al ≤ 100000) : Calls Tryz.prog 37 #[X.val] w fun e w' => ∃ N : NoV, e = .returned N.val ∧ N.ok w' ∧ N.no = ndOf X.en ∧ (N.ka = none ∧ N.kl = 0 ∧ N.kc = 0) ∧ w.grownBy w' none ∧ NodeNew w0 w w' N := by
 have ho := h0.grown g0
 have HO0 : Hid _ := h0
 clear h0 g0
 have hat := fun W (g : w.grownBy W none) => rattrs_any X.aa X.al X.ac X.attrs W (ho.ats.grown g) hal
 unfold AsPost at hat
 have HO : Hid _ := ho
 clear ho
 obtain ⟨P, K, mo, uid, gid, ti, sz_, da, dl, dc, data, tg, dev, aa, al, ac, attrs⟩ := X
 simp only [EnV.val] at *
 have H0 : Hid _ := Nv.new w [.string P, .int .i64 K, .int .i64 mo, .int .i64 uid, .int .i64 gid, .int .i64 ti, .int .i64 sz_, .slice da dl dc, .string tg, .int .i64 dev, .slice aa al ac]
 go_enter Tryz.func37, Tryz.ntmps37
 go_wp2_with fail
 generalize (w.alloc (.cells #[.string P, .int .i64 K, .int .i64 mo, .int .i64 uid, .int .i64 gid, .int .i64 ti, .int .i64 sz_, .slice da dl dc, .string tg, .int .i64 dev, .slice aa al ac] 30)).alloc (.cells #[.int .i64 0, .int .i64 0, .int .i64 0, .int .i64 0, .int .i64 0, .int .i64 0, .slice none 0 0, .string ⟨#[]⟩, .int .i64 0, .slice none 0 0, .slice none 0 0, .int .i64 0, .int .i64 0] 43) = W1 at *
 generalize hg0 : w.heap.size = gx at *
 have HG0 : Hid _ := hg0
 clear hg0
 refine wp_region_held_drew (S := fun w' => Nv w w' gx [.string P, .int .i64 K, .int .i64 mo, .int .i64 uid, .int .i64 gid, .int .i64 ti, .int .i64 sz_, .slice da dl dc, .string tg, .int .i64 dev, .slice aa al ac]) (by kernel_rfl) (H0.out.kept (drewG0 W1)) (fun hH => ?_)
 clear H0
 generalize W1.drew = WD at *
 refine tk (i := 0) (oi := ⟨some 4, _, _, _, _, _⟩) (v := .pointer (some ⟨gx, 1, none⟩)) rfl (Or.inl ⟨by rfl, fun w hSw => by go_simp⟩) hH ?_
 simp only [Act.put, pu]
 refine tk (i := 1) (oi := ⟨some 5, _, _, _, _, _⟩) (v := .int .i64 K) rfl (Or.inl ⟨by rfl, fun w hSw => by obtain ⟨c0, c1, c2, c3, c4, c5, c6, c7, c8, c9, c10⟩ := bx11 hSw.x; go_simp⟩) hH ?_
 simp only [Act.put, pu]
 refine tk (i := 2) (oi := ⟨some 6, _, _, _, _, _⟩) (v := .pointer (some ⟨gx, 2, none⟩)) rfl (Or.inl ⟨by rfl, fun w hSw => by go_simp⟩) hH ?_
 simp only [Act.put, pu]
 refine tk (i := 3) (oi := ⟨some 7, _, _, _, _, _⟩) (v := .int .i64 mo) rfl (Or.inl ⟨by rfl, fun w hSw => by obtain ⟨c0, c1, c2, c3, c4, c5, c6, c7, c8, c9, c10⟩ := bx11 hSw.x; go_simp⟩) hH ?_
 simp only [Act.put, pu]
 refine tk (i := 4) (oi := ⟨some 8, _, _, _, _, _⟩) (v := .pointer (some ⟨gx, 3, none⟩)) rfl (Or.inl ⟨by rfl, fun w hSw => by go_simp⟩) hH ?_
 simp only [Act.put, pu]
 refine tk (i := 5) (oi := ⟨some 9, _, _, _, _, _⟩) (v := .int .i64 uid) rfl (Or.inl ⟨by rfl, fun w hSw => by obtain ⟨c0, c1, c2, c3, c4, c5, c6, c7, c8, c9, c10⟩ := bx11 hSw.x; go_simp⟩) hH ?_
 simp only [Act.put, pu]
 refine tk (i := 6) (oi := ⟨some 10, _, _, _, _, _⟩) (v := .pointer (some ⟨gx, 4, none⟩)) rfl (Or.inl ⟨by rfl, fun w hSw => by go_simp⟩) hH ?_
 simp only [Act.put, pu]
 refine tk (i := 7) (oi := ⟨some 11, _, _, _, _, _⟩) (v := .int .i64 gid) rfl (Or.inl ⟨by rfl, fun w hSw => by obtain ⟨c0, c1, c2, c3, c4, c5, c6, c7, c8, c9, c10⟩ := bx11 hSw.x; go_simp⟩) hH ?_
 simp only [Act.put, pu]
 refine tk (i := 8) (oi := ⟨some 12, _, _, _, _, _⟩) (v := .pointer (some ⟨gx, 5, none⟩)) rfl (Or.inl ⟨by rfl, fun w hSw => by go_simp⟩) hH ?_
 simp only [Act.put, pu]
 refine tk (i := 9) (oi := ⟨some 13, _, _, _, _, _⟩) (v := .int .i64 ti) rfl (Or.inl ⟨by rfl, fun w hSw => by obtain ⟨c0, c1, c2, c3, c4, c5, c6, c7, c8, c9, c10⟩ := bx11 hSw.x; go_simp⟩) hH ?_
 simp only [Act.put, pu]
 refine tk (i := 10) (oi := ⟨some 14, _, _, _, _, _⟩) (v := .pointer (some ⟨gx, 10, none⟩)) rfl (Or.inl ⟨by rfl, fun w hSw => by go_simp⟩) hH ?_
 simp only [Act.put, pu]
 refine tk (i := 11) (oi := ⟨some 15, _, _, _, _, _⟩) (v := .slice aa al ac) rfl (Or.inl ⟨by rfl, fun w hSw => by obtain ⟨c0, c1, c2, c3, c4, c5, c6, c7, c8, c9, c10⟩ := bx11 hSw.x; go_simp⟩) hH ?_
 simp only [Act.put, pu]
 refine wpAnyH_ready (rs := [12, 14]) (by kernel_rfl) (by simp) ?_
 refine AllReadyH.cons rfl (fun K1 hK => ?_) (AllReadyH.cons rfl (fun K1 hK => ?_) AllReadyH.nil)
 ·go_simp
  go_wp2_with (go_at_call 76; refine (hat _ hH.gr).mono ?_; rintro e w2 ⟨v2, rfl, hown, g2⟩)
  obtain ⟨as_, ac2, rfl⟩ := own_shape hown
  have hne : (Value.slice as_ (srtV attrs attrs.length []).length ac2).ownBlock ≠ some w2.heap.size := fun e => by have := (hown.lt _ e).2; omega
  have hbs : gx + 2 ≤ WD.heap.size := hH.z.lt
  replace hH := hH.kept g2
  clear g2 hat
  generalize hout : srtV attrs attrs.length [] = out at *
  have HOUT : Hid _ := hout
  clear hout
  obtain ⟨an, han⟩ : ∃ an, an = out.length := ⟨_, rfl⟩
  rw [← han] at hown ⊢
  have HAN : Hid _ := han
  clear han
  rw [← HAN.out] at hne
  refine hK.out _ _ hH (fun _ => ?_)
  clear hK K1
  refine tk (i := 13) (oi := ⟨some 17, _, _, _, _, _⟩) (v := .agg #[.int .i64 K, .int .i64 mo, .int .i64 uid, .int .i64 gid, .int .i64 ti, .int .i64 0, .slice none 0 0, .string ⟨#[]⟩, .int .i64 0, .slice as_ an ac2, .slice none 0 0, .int .i64 0, .int .i64 0]) rfl (Or.inl ⟨by rfl, fun w hSw => by go_simp⟩) hH ?_
  simp only [Act.put, pu]
  refine wpAnyH_ready (rs := [14]) (by kernel_rfl) (by simp) ?_
  refine AllReadyH.cons rfl (fun K1 hK => ?_) AllReadyH.nil
  go_simp
  have gA := xga w2 (.cells #[.int .i64 0, .int .i64 0, .int .i64 0, .int .i64 0, .int .i64 0, .int .i64 0, .slice none 0 0, .string ⟨#[]⟩, .int .i64 0, .slice none 0 0, .slice none 0 0, .int .i64 0, .int .i64 0] 43) none
  have hB := Bx.new w2 43 [.int .i64 0, .int .i64 0, .int .i64 0, .int .i64 0, .int .i64 0, .int .i64 0, .slice none 0 0, .string ⟨#[]⟩, .int .i64 0, .slice none 0 0, .slice none 0 0, .int .i64 0, .int .i64 0]
  have hlt : gx + 1 < w2.heap.size := hH.z.lt
  replace hH := hH.kept gA
  replace hown := owns_kept11 hown gA
  clear gA
  generalize w2.alloc (.cells #[.int .i64 0, .int .i64 0, .int .i64 0, .int .i64 0, .int .i64 0, .int .i64 0, .slice none 0 0, .string ⟨#[]⟩, .int .i64 0, .slice none 0 0, .slice none 0 0, .int .i64 0, .int .i64 0] 43) = W3 at *
  generalize w2.heap.size = gn at *
  refine hK.out _ _ hH (fun _ => ?_)
  clear hK K1
  refine wpAnyH_ready (rs := [15]) (by kernel_rfl) (by simp) ?_
  refine AllReadyH.cons rfl (fun K1 hK => ?_) AllReadyH.nil
  refine step_store_bx (by rfl) 43 _ _ (by rfl) gn [.int .i64 K, .int .i64 mo, .int .i64 uid, .int .i64 gid, .int .i64 ti, .int .i64 0, .slice none 0 0, .string ⟨#[]⟩, .int .i64 0, .slice as_ an ac2, .slice none 0 0, .int .i64 0, .int .i64 0] (by rfl) (by rfl) hB node_size rfl rfl ?_
  intro W4 hN g4
  have HW : Hid (Nw w W4 gx gn [.string P, .int .i64 K, .int .i64 mo, .int .i64 uid, .int .i64 gid, .int .i64 ti, .int .i64 sz_, .slice da dl dc, .string tg, .int .i64 dev, .slice aa al ac] [.int .i64 K, .int .i64 mo, .int .i64 uid, .int .i64 gid, .int .i64 ti, .int .i64 0, .slice none 0 0, .string ⟨#[]⟩, .int .i64 0, .slice as_ an ac2, .slice none 0 0, .int .i64 0, .int .i64 0] (.slice as_ an ac2) out) := ⟨hH.but g4 hlt, hN, hlt, by rw [← HAN.out]; exact owns_low11 (hown.kept g4 (Or.inr hne)) (by omega), hne⟩
  replace hH := hH.but g4 hlt
  clear hN g4 hB hown hne hlt
  refine hK.out _ _ hH (fun _ => ?_)
  clear hK K1
  refine wpAnyH_done (by kernel_rfl) ?_ _
  clear hH
  by_cases hk1 : K = 1
  ·subst hk1
   obtain ⟨c0, c1, c2, c3, c4, c5, c6, c7, c8, c9, c10⟩ := bx11 HW.out.nv.x
   go_wp2_with fail
   clear c0 c1 c2 c3 c4 c5 c6 c7 c8 c9 c10
   refine wp_region_held_drew (S := fun w' => ∃ nc, Nw w w' gx gn [.string P, .int .i64 1, .int .i64 mo, .int .i64 uid, .int .i64 gid, .int .i64 ti, .int .i64 sz_, .slice da dl dc, .string tg, .int .i64 dev, .slice aa al ac] nc (.slice as_ an ac2) out) (by kernel_rfl) ⟨_, HW.out.kept (drewG0 W4)⟩ (fun hH => ?_)
   have HW5 : Hid _ := HW.out.kept (drewG0 W4)
   clear HW
   generalize W4.drew = W5 at *
   refine tk (i := 0) (oi := ⟨some 21, _, _, _, _, _⟩) (v := .pointer (some ⟨gx, 6, none⟩)) rfl (Or.inl ⟨by rfl, fun w hSw => by go_simp⟩) hH ?_
   simp only [Act.put, pu]
   refine tk (i := 1) (oi := ⟨some 22, _, _, _, _, _⟩) (v := .int .i64 sz_) rfl (Or.inl ⟨by rfl, fun w hSw => by obtain ⟨nc', hSw⟩ := hSw; obtain ⟨c0, c1, c2, c3, c4, c5, c6, c7, c8, c9, c10⟩ := bx11 hSw.nv.x; go_simp⟩) hH ?_
   simp only [Act.put, pu]
   refine tk (i := 2) (oi := ⟨some 23, _, _, _, _, _⟩) (v := .pointer (some ⟨gx, 7, none⟩)) rfl (Or.inl ⟨by rfl, fun w hSw => by go_simp⟩) hH ?_
   simp only [Act.put, pu]
   refine tk (i := 3) (oi := ⟨some 24, _, _, _, _, _⟩) (v := .slice da dl dc) rfl (Or.inl ⟨by rfl, fun w hSw => by obtain ⟨nc', hSw⟩ := hSw; obtain ⟨c0, c1, c2, c3, c4, c5, c6, c7, c8, c9, c10⟩ := bx11 hSw.nv.x; go_simp⟩) hH ?_
   simp only [Act.put, pu]
   refine tk (i := 4) (oi := ⟨some 25, _, _, _, _, _⟩) (v := .pointer (some ⟨gn, 5, none⟩)) rfl (Or.inl ⟨by rfl, fun w hSw => by go_simp⟩) hH ?_
   simp only [Act.put, pu]
   refine wpAnyH_ready (rs := [5]) (by kernel_rfl) (by simp) ?_
   refine AllReadyH.cons rfl (fun K1 hK => ?_) AllReadyH.nil
   have q1 := HW5.out.n.c 5
   have q2 := HW5.out.n.f 5
   simp only [List.getElem?_cons_zero, List.getElem?_cons_succ, List.set_cons_zero, List.set_cons_succ] at q1
   go_simp
   have HW6 : Hid _ := HW5.out.set 5 (.int .i64 sz_)
   clear HW5 hH q1 q2
   generalize W5.setCell ⟨gn, 5, none⟩ (.int .i64 sz_) = W6 at *
   have hH : ∃ nc, Nw w W6 gx gn [.string P, .int .i64 1, .int .i64 mo, .int .i64 uid, .int .i64 gid, .int .i64 ti, .int .i64 sz_, .slice da dl dc, .string tg, .int .i64 dev, .slice aa al ac] nc (.slice as_ an ac2) out := ⟨_, HW6.out⟩
   refine hK.out _ _ hH (fun _ => ?_)
   clear hK K1
   refine tk (i := 6) (oi := ⟨some 26, _, _, _, _, _⟩) (v := .pointer (some ⟨gn, 6, none⟩)) rfl (Or.inl ⟨by rfl, fun w hSw => by go_simp⟩) hH ?_
   simp only [Act.put, pu]
   refine wpAnyH_ready (rs := [7]) (by kernel_rfl) (by simp) ?_
   refine AllReadyH.cons rfl (fun K1 hK => ?_) AllReadyH.nil
   have q1 := HW6.out.n.c 6
   have q2 := HW6.out.n.f 6
   simp only [List.getElem?_cons_zero, List.getElem?_cons_succ, List.set_cons_zero, List.set_cons_succ] at q1
   go_simp
   have HW7 : Hid _ := HW6.out.set 6 (.slice da dl dc)
   clear HW6 hH q1 q2
   generalize W6.setCell ⟨gn, 6, none⟩ (.slice da dl dc) = W7 at *
   have hH : ∃ nc, Nw w W7 gx gn [.string P, .int .i64 1, .int .i64 mo, .int .i64 uid, .int .i64 gid, .int .i64 ti, .int .i64 sz_, .slice da dl dc, .string tg, .int .i64 dev, .slice aa al ac] nc (.slice as_ an ac2) out := ⟨_, HW7.out⟩
   refine hK.out _ _ hH (fun _ => ?_)
   clear hK K1
   refine wpAnyH_done (by kernel_rfl) ?_ _
   clear hH
   simp only [List.set_cons_zero, List.set_cons_succ] at HW7
   go_wp2_with fail
   have hdc := HO.out.dcap
   simp only at hdc
   go_loopw [27] (fun _ wr => ∃ n : Nat, n ≤ dl ∧ Hid (Nw w wr gx gn [.string P, .int .i64 1, .int .i64 mo, .int .i64 uid, .int .i64 gid, .int .i64 ti, .int .i64 sz_, .slice da dl dc, .string tg, .int .i64 dev, .slice aa al ac] ([.int .i64 1, .int .i64 mo, .int .i64 uid, .int .i64 gid, .int .i64 ti, .int .i64 sz_, .slice da n dc, .string ⟨#[]⟩, .int .i64 0, .slice as_ an ac2, .slice none 0 0, .int .i64 0, .int .i64 0]) (.slice as_ an ac2) out ∧ strip (data.take n) = strip data)) (fun _ wr => dlen gn wr)
   case atStart => exact ⟨dl, Nat.le_refl _, HW7.out, by rw [List.take_of_length_le (by have := HO.out.row.len_eq; simp only at this; omega)]⟩
   case round =>
    obtain ⟨n, hn, HL⟩ := hrel
    clear HW7
    obtain ⟨m0, m1, m2, m3, m4, m5, m6, m7, m8, m9, m10, m11, m12⟩ := bx13 HL.out.1.n
    have f6 := HL.out.1.n.f 6
    obtain ⟨c0, c1, c2, c3, c4, c5, c6, c7, c8, c9, c10⟩ := bx11 HL.out.1.nv.x
    rcases n with _ | n
    ·have HW : Hid _ := HL.out.1
     have HD : Hid (strip data = []) := by
      have := HL.out.2
      rw [List.take_zero] at this
      rw [← this]
      rfl
     clear HL
     go_wp2_with ((with_reducible refine node_here ?_); refine wpList_store_bx13 rfl 43 _ _ rfl (gx + 1) [.int .i64 1, .int .i64 mo, .int .i64 uid, .int .i64 gid, .int .i64 ti, .int .i64 sz_, .slice da 0 dc, .string ⟨#[]⟩, .int .i64 0, .slice as_ an ac2, .slice none 0 0, .int .i64 0, .int .i64 0] rfl rfl HW.out.nv.z node_size rfl rfl ?_; intro W9 hz9 g9)
     obtain ⟨z0, z1, z2, z3, z4, z5, z6, z7, z8, z9, z10, z11, z12⟩ := bx13 hz9
     have hfin := HW.out.fin hz9 g9
     refine bodyPost_ret (v := .agg #[.int .i64 1, .int .i64 mo, .int .i64 uid, .int .i64 gid, .int .i64 ti, .int .i64 sz_, .slice da 0 dc, .string ⟨#[]⟩, .int .i64 0, .slice as_ an ac2, .slice none 0 0, .int .i64 0, .int .i64 0]) (by simp [results, Tryz.results37, go_sem, *]) rfl ?_
     refine ⟨⟨1, mo, uid, gid, ti, sz_, da, 0, dc, [], ⟨#[]⟩, 0, as_, an, ac2, out, none, 0, 0, [], 0, 0⟩, rfl, ?_, ?_, ⟨rfl, rfl, rfl⟩, hfin.1, ⟨by have h2 := hfin.2; rw [← HAN.out] at h2; exact owns_low11 h2 (by have := HG0.out; omega), HAN.out, fun A hA => srt_rows HO0.out.ats (World.grownBy.refl _ _) A (by rw [HOUT.out]; exact hA), row_zero da, by first | exact Nat.zero_le _ | (show n + 1 ≤ dc; have h9 := HO0.out.dcap; simp only at h9; omega)⟩⟩
     ·obtain ⟨a', c', e', hats, -, -⟩ := own_ats hfin.2 rfl (fun A hA => srt_rows HO.out.ats hfin.1 A (by rw [HOUT.out]; exact hA))
      injection e' with e1 e2 e3
      subst e1 e3
      refine ⟨row_zero da, ?_, kds_none _⟩
      rw [← HAN.out] at hats
      exact hats
     ·unfold NoV.no EnV.en ndOf
      simp only [srtV_atts HOUT.out, tl_nil]
      simp [HD.out]
    ·have hrow := HO.out.row.grown HL.out.1.nv.gr
     simp only at hrow
     have hlen := hrow.len_eq
     obtain ⟨db, dof, rfl, hcell⟩ := hrow.cells (by omega)
     have y0 := hcell n (by omega)
     have hmx : dl ≤ 9223372036854775807 := hrow.le
     have hpos : (0 : Int) < ((n + 1 : Nat) : Int) := by omega
     have hwm : IntKind.i64.wrap (((n + 1 : Nat) : Int) - 1) = (n : Int) := by rw [IntKind.wrap_i64]; omega
     by_cases hz : data.getD n 0 = 0
     ·rw [hz] at y0
      have HN : Hid (Nw w (wr.setCell ⟨gn, 6, none⟩ (.slice (some ⟨db, dof, none⟩) n dc)) gx gn [.string P, .int .i64 1, .int .i64 mo, .int .i64 uid, .int .i64 gid, .int .i64 ti, .int .i64 sz_, .slice (some ⟨db, dof, none⟩) dl dc, .string tg, .int .i64 dev, .slice aa al ac] ([.int .i64 1, .int .i64 mo, .int .i64 uid, .int .i64 gid, .int .i64 ti, .int .i64 sz_, .slice (some ⟨db, dof, none⟩) n dc, .string ⟨#[]⟩, .int .i64 0, .slice as_ an ac2, .slice none 0 0, .int .i64 0, .int .i64 0]) (.slice as_ an ac2) out ∧ strip (data.take n) = strip data) := ⟨HL.out.1.set 6 _, by rw [← HL.out.2, strip_zero (by omega) hz]⟩
      have HM : Hid (dlen gn wr = n + 1) := by show dlen gn wr = _; unfold dlen; rw [m6]
      have hnc : (n : Int) ≤ dc := by omega
      clear HL hcell
      go_wp2
      refine ⟨⟨n, by omega, HN⟩, ?_⟩
      have hd2 : dlen gn (wr.setCell ⟨gn, 6, none⟩ (.slice (some ⟨db, dof, none⟩) n dc)) = n := by unfold dlen; rw [HN.out.1.n.c 6]; rfl
      rw [HM.out, hd2]
      omega
     ·have hzb : (data.getD n 0 == 0) = false := by simpa using hz
      have HW : Hid _ := HL.out.1
      have HD : Hid (strip data = data.take (n + 1)) := by rw [← HL.out.2]; exact strip_stop (by omega) hz
      generalize data.getD n 0 = xb at y0 hzb
      clear HL hcell hrow hz
      go_wp2_with ((with_reducible refine node_here ?_); refine wpList_store_bx13 rfl 43 _ _ rfl (gx + 1) [.int .i64 1, .int .i64 mo, .int .i64 uid, .int .i64 gid, .int .i64 ti, .int .i64 sz_, .slice (some ⟨db, dof, none⟩) (n + 1) dc, .string ⟨#[]⟩, .int .i64 0, .slice as_ an ac2, .slice none 0 0, .int .i64 0, .int .i64 0] rfl rfl HW.out.nv.z node_size rfl rfl ?_; intro W9 hz9 g9)
      obtain ⟨z0, z1, z2, z3, z4, z5, z6, z7, z8, z9, z10, z11, z12⟩ := bx13 hz9
      have hfin := HW.out.fin hz9 g9
      refine bodyPost_ret (v := .agg #[.int .i64 1, .int .i64 mo, .int .i64 uid, .int .i64 gid, .int .i64 ti, .int .i64 sz_, .slice (some ⟨db, dof, none⟩) (n + 1) dc, .string ⟨#[]⟩, .int .i64 0, .slice as_ an ac2, .slice none 0 0, .int .i64 0, .int .i64 0]) (by simp [results, Tryz.results37, go_sem, *]) rfl ?_
      refine ⟨⟨1, mo, uid, gid, ti, sz_, (some ⟨db, dof, none⟩), (n + 1), dc, (data.take (n + 1)), ⟨#[]⟩, 0, as_, an, ac2, out, none, 0, 0, [], 0, 0⟩, rfl, ?_, ?_, ⟨rfl, rfl, rfl⟩, hfin.1, ⟨by have h2 := hfin.2; rw [← HAN.out] at h2; exact owns_low11 h2 (by have := HG0.out; omega), HAN.out, fun A hA => srt_rows HO0.out.ats (World.grownBy.refl _ _) A (by rw [HOUT.out]; exact hA), row_take HO0.out.row (by omega), by first | exact Nat.zero_le _ | (show n + 1 ≤ dc; have h9 := HO0.out.dcap; simp only at h9; omega)⟩⟩
      ·obtain ⟨a', c', e', hats, -, -⟩ := own_ats hfin.2 rfl (fun A hA => srt_rows HO.out.ats hfin.1 A (by rw [HOUT.out]; exact hA))
       injection e' with e1 e2 e3
       subst e1 e3
       refine ⟨row_take (HO.out.row.grown hfin.1) (by omega), ?_, kds_none _⟩
       rw [← HAN.out] at hats
       exact hats
      ·unfold NoV.no EnV.en ndOf
       simp only [srtV_atts HOUT.out, tl_nil]
       simp [HD.out]
  ·have hk1b : (K == 1) = false := by simpa using hk1
   obtain ⟨c0, c1, c2, c3, c4, c5, c6, c7, c8, c9, c10⟩ := bx11 HW.out.nv.x
   obtain ⟨m0, m1, m2, m3, m4, m5, m6, m7, m8, m9, m10, m11, m12⟩ := bx13 HW.out.n
   by_cases hk3 : K = 3
   ·subst hk3
    have f7 := HW.out.n.f 7
    have HW2 : Hid (Nw w (W4.setCell ⟨gn, 7, none⟩ (.string tg)) gx gn [.string P, .int .i64 3, .int .i64 mo, .int .i64 uid, .int .i64 gid, .int .i64 ti, .int .i64 sz_, .slice da dl dc, .string tg, .int .i64 dev, .slice aa al ac] [.int .i64 3, .int .i64 mo, .int .i64 uid, .int .i64 gid, .int .i64 ti, .int .i64 0, .slice none 0 0, .string tg, .int .i64 0, .slice as_ an ac2, .slice none 0 0, .int .i64 0, .int .i64 0] (.slice as_ an ac2) out) := HW.out.set 7 (.string tg)
    clear HW
    have HW := HW2
    clear HW2
    go_wp2_with ((with_reducible refine node_here ?_); refine wpList_store_bx13 rfl 43 _ _ rfl (gx + 1) [.int .i64 3, .int .i64 mo, .int .i64 uid, .int .i64 gid, .int .i64 ti, .int .i64 0, .slice none 0 0, .string tg, .int .i64 0, .slice as_ an ac2, .slice none 0 0, .int .i64 0, .int .i64 0] rfl rfl HW.out.nv.z node_size rfl rfl ?_; intro W9 hz9 g9)
    obtain ⟨z0, z1, z2, z3, z4, z5, z6, z7, z8, z9, z10, z11, z12⟩ := bx13 hz9
    have hfin := HW.out.fin hz9 g9
    refine bodyPost_ret (v := .agg #[.int .i64 3, .int .i64 mo, .int .i64 uid, .int .i64 gid, .int .i64 ti, .int .i64 0, .slice none 0 0, .string tg, .int .i64 0, .slice as_ an ac2, .slice none 0 0, .int .i64 0, .int .i64 0]) (by simp [results, Tryz.results37, go_sem, *]) rfl ?_
    refine ⟨⟨3, mo, uid, gid, ti, 0, none, 0, 0, [], tg, 0, as_, an, ac2, out, none, 0, 0, [], 0, 0⟩, rfl, ?_, ?_, ⟨rfl, rfl, rfl⟩, hfin.1, ⟨by have h2 := hfin.2; rw [← HAN.out] at h2; exact owns_low11 h2 (by have := HG0.out; omega), HAN.out, fun A hA => srt_rows HO0.out.ats (World.grownBy.refl _ _) A (by rw [HOUT.out]; exact hA), row_zero none, by first | exact Nat.zero_le _ | (show n + 1 ≤ dc; have h9 := HO0.out.dcap; simp only at h9; omega)⟩⟩
    ·obtain ⟨a', c', e', hats, -, -⟩ := own_ats hfin.2 rfl (fun A hA => srt_rows HO.out.ats hfin.1 A (by rw [HOUT.out]; exact hA))
     injection e' with e1 e2 e3
     subst e1 e3
     refine ⟨row_zero none, ?_, kds_none _⟩
     rw [← HAN.out] at hats
     exact hats
    ·unfold NoV.no EnV.en ndOf
     simp only [srtV_atts HOUT.out, tl_nil]
     simp []
   ·have hk3b : (K == 3) = false := by simpa using hk3
    by_cases hk45 : K = 4 ∨ K = 5
    ·rcases hk45 with hk4 | hk5
     ·subst hk4
      have f8 := HW.out.n.f 8
      have HW2 : Hid (Nw w (W4.setCell ⟨gn, 8, none⟩ (.int .i64 dev)) gx gn [.string P, .int .i64 4, .int .i64 mo, .int .i64 uid, .int .i64 gid, .int .i64 ti, .int .i64 sz_, .slice da dl dc, .string tg, .int .i64 dev, .slice aa al ac] [.int .i64 4, .int .i64 mo, .int .i64 uid, .int .i64 gid, .int .i64 ti, .int .i64 0, .slice none 0 0, .string ⟨#[]⟩, .int .i64 dev, .slice as_ an ac2, .slice none 0 0, .int .i64 0, .int .i64 0] (.slice as_ an ac2) out) := HW.out.set 8 (.int .i64 dev)
      clear HW
      have HW := HW2
      clear HW2
      go_wp2_with ((with_reducible refine node_here ?_); refine wpList_store_bx13 rfl 43 _ _ rfl (gx + 1) [.int .i64 4, .int .i64 mo, .int .i64 uid, .int .i64 gid, .int .i64 ti, .int .i64 0, .slice none 0 0, .string ⟨#[]⟩, .int .i64 dev, .slice as_ an ac2, .slice none 0 0, .int .i64 0, .int .i64 0] rfl rfl HW.out.nv.z node_size rfl rfl ?_; intro W9 hz9 g9)
      obtain ⟨z0, z1, z2, z3, z4, z5, z6, z7, z8, z9, z10, z11, z12⟩ := bx13 hz9
      have hfin := HW.out.fin hz9 g9
      refine bodyPost_ret (v := .agg #[.int .i64 4, .int .i64 mo, .int .i64 uid, .int .i64 gid, .int .i64 ti, .int .i64 0, .slice none 0 0, .string ⟨#[]⟩, .int .i64 dev, .slice as_ an ac2, .slice none 0 0, .int .i64 0, .int .i64 0]) (by simp [results, Tryz.results37, go_sem, *]) rfl ?_
      refine ⟨⟨4, mo, uid, gid, ti, 0, none, 0, 0, [], ⟨#[]⟩, dev, as_, an, ac2, out, none, 0, 0, [], 0, 0⟩, rfl, ?_, ?_, ⟨rfl, rfl, rfl⟩, hfin.1, ⟨by have h2 := hfin.2; rw [← HAN.out] at h2; exact owns_low11 h2 (by have := HG0.out; omega), HAN.out, fun A hA => srt_rows HO0.out.ats (World.grownBy.refl _ _) A (by rw [HOUT.out]; exact hA), row_zero none, by first | exact Nat.zero_le _ | (show n + 1 ≤ dc; have h9 := HO0.out.dcap; simp only at h9; omega)⟩⟩
      ·obtain ⟨a', c', e', hats, -, -⟩ := own_ats hfin.2 rfl (fun A hA => srt_rows HO.out.ats hfin.1 A (by rw [HOUT.out]; exact hA))
       injection e' with e1 e2 e3
       subst e1 e3
       refine ⟨row_zero none, ?_, kds_none _⟩
       rw [← HAN.out] at hats
       exact hats
      ·unfold NoV.no EnV.en ndOf
       simp only [srtV_atts HOUT.out, tl_nil]
       simp []
     ·subst hk5
      have f8 := HW.out.n.f 8
      have HW2 : Hid (Nw w (W4.setCell ⟨gn, 8, none⟩ (.int .i64 dev)) gx gn [.string P, .int .i64 5, .int .i64 mo, .int .i64 uid, .int .i64 gid, .int .i64 ti, .int .i64 sz_, .slice da dl dc, .string tg, .int .i64 dev, .slice aa al ac] [.int .i64 5, .int .i64 mo, .int .i64 uid, .int .i64 gid, .int .i64 ti, .int .i64 0, .slice none 0 0, .string ⟨#[]⟩, .int .i64 dev, .slice as_ an ac2, .slice none 0 0, .int .i64 0, .int .i64 0] (.slice as_ an ac2) out) := HW.out.set 8 (.int .i64 dev)
      clear HW
      have HW := HW2
      clear HW2
      go_wp2_with ((with_reducible refine node_here ?_); refine wpList_store_bx13 rfl 43 _ _ rfl (gx + 1) [.int .i64 5, .int .i64 mo, .int .i64 uid, .int .i64 gid, .int .i64 ti, .int .i64 0, .slice none 0 0, .string ⟨#[]⟩, .int .i64 dev, .slice as_ an ac2, .slice none 0 0, .int .i64 0, .int .i64 0] rfl rfl HW.out.nv.z node_size rfl rfl ?_; intro W9 hz9 g9)
      obtain ⟨z0, z1, z2, z3, z4, z5, z6, z7, z8, z9, z10, z11, z12⟩ := bx13 hz9
      have hfin := HW.out.fin hz9 g9
      refine bodyPost_ret (v := .agg #[.int .i64 5, .int .i64 mo, .int .i64 uid, .int .i64 gid, .int .i64 ti, .int .i64 0, .slice none 0 0, .string ⟨#[]⟩, .int .i64 dev, .slice as_ an ac2, .slice none 0 0, .int .i64 0, .int .i64 0]) (by simp [results, Tryz.results37, go_sem, *]) rfl ?_
      refine ⟨⟨5, mo, uid, gid, ti, 0, none, 0, 0, [], ⟨#[]⟩, dev, as_, an, ac2, out, none, 0, 0, [], 0, 0⟩, rfl, ?_, ?_, ⟨rfl, rfl, rfl⟩, hfin.1, ⟨by have h2 := hfin.2; rw [← HAN.out] at h2; exact owns_low11 h2 (by have := HG0.out; omega), HAN.out, fun A hA => srt_rows HO0.out.ats (World.grownBy.refl _ _) A (by rw [HOUT.out]; exact hA), row_zero none, by first | exact Nat.zero_le _ | (show n + 1 ≤ dc; have h9 := HO0.out.dcap; simp only at h9; omega)⟩⟩
      ·obtain ⟨a', c', e', hats, -, -⟩ := own_ats hfin.2 rfl (fun A hA => srt_rows HO.out.ats hfin.1 A (by rw [HOUT.out]; exact hA))
       injection e' with e1 e2 e3
       subst e1 e3
       refine ⟨row_zero none, ?_, kds_none _⟩
       rw [← HAN.out] at hats
       exact hats
      ·unfold NoV.no EnV.en ndOf
       simp only [srtV_atts HOUT.out, tl_nil]
       simp []
    ·have hk4b : (K == 4) = false := by simpa using fun e => hk45 (Or.inl e)
     have hk5b : (K == 5) = false := by simpa using fun e => hk45 (Or.inr e)
     go_wp2_with ((with_reducible refine node_here ?_); refine wpList_store_bx13 rfl 43 _ _ rfl (gx + 1) [.int .i64 K, .int .i64 mo, .int .i64 uid, .int .i64 gid, .int .i64 ti, .int .i64 0, .slice none 0 0, .string ⟨#[]⟩, .int .i64 0, .slice as_ an ac2, .slice none 0 0, .int .i64 0, .int .i64 0] rfl rfl HW.out.nv.z node_size rfl rfl ?_; intro W9 hz9 g9)
     obtain ⟨z0, z1, z2, z3, z4, z5, z6, z7, z8, z9, z10, z11, z12⟩ := bx13 hz9
     have hfin := HW.out.fin hz9 g9
     refine bodyPost_ret (v := .agg #[.int .i64 K, .int .i64 mo, .int .i64 uid, .int .i64 gid, .int .i64 ti, .int .i64 0, .slice none 0 0, .string ⟨#[]⟩, .int .i64 0, .slice as_ an ac2, .slice none 0 0, .int .i64 0, .int .i64 0]) (by simp [results, Tryz.results37, go_sem, *]) rfl ?_
     refine ⟨⟨K, mo, uid, gid, ti, 0, none, 0, 0, [], ⟨#[]⟩, 0, as_, an, ac2, out, none, 0, 0, [], 0, 0⟩, rfl, ?_, ?_, ⟨rfl, rfl, rfl⟩, hfin.1, ⟨by have h2 := hfin.2; rw [← HAN.out] at h2; exact owns_low11 h2 (by have := HG0.out; omega), HAN.out, fun A hA => srt_rows HO0.out.ats (World.grownBy.refl _ _) A (by rw [HOUT.out]; exact hA), row_zero none, by first | exact Nat.zero_le _ | (show n + 1 ≤ dc; have h9 := HO0.out.dcap; simp only at h9; omega)⟩⟩
     ·obtain ⟨a', c', e', hats, -, -⟩ := own_ats hfin.2 rfl (fun A hA => srt_rows HO.out.ats hfin.1 A (by rw [HOUT.out]; exact hA))
      injection e' with e1 e2 e3
      subst e1 e3
      refine ⟨row_zero none, ?_, kds_none _⟩
      rw [← HAN.out] at hats
      exact hats
     ·unfold NoV.no EnV.en ndOf
      simp only [srtV_atts HOUT.out, tl_nil]
      simp [hk1, hk3, hk45]
 ·go_simp
  have gA := xga WD (.cells #[.int .i64 0, .int .i64 0, .int .i64 0, .int .i64 0, .int .i64 0, .int .i64 0, .slice none 0 0, .string ⟨#[]⟩, .int .i64 0, .slice none 0 0, .slice none 0 0, .int .i64 0, .int .i64 0] 43) none
  have hB := Bx.new WD 43 [.int .i64 0, .int .i64 0, .int .i64 0, .int .i64 0, .int .i64 0, .int .i64 0, .slice none 0 0, .string ⟨#[]⟩, .int .i64 0, .slice none 0 0, .slice none 0 0, .int .i64 0, .int .i64 0]
  have hlt : gx + 1 < WD.heap.size := hH.z.lt
  replace hH := hH.kept gA
  clear gA
  generalize WD.alloc (.cells #[.int .i64 0, .int .i64 0, .int .i64 0, .int .i64 0, .int .i64 0, .int .i64 0, .slice none 0 0, .string ⟨#[]⟩, .int .i64 0, .slice none 0 0, .slice none 0 0, .int .i64 0, .int .i64 0] 43) = W3 at *
  generalize WD.heap.size = gn at *
  refine hK.out _ _ hH (fun _ => ?_)
  clear hK K1
  refine wpAnyH_ready (rs := [12]) (by kernel_rfl) (by simp) ?_
  refine AllReadyH.cons rfl (fun K1 hK => ?_) AllReadyH.nil
  go_simp
  go_wp2_with (go_at_call 76; refine (hat _ hH.gr).mono ?_; rintro e w2 ⟨v2, rfl, hown, g2⟩)
  obtain ⟨as_, ac2, rfl⟩ := own_shape hown
  have hgl := hB.lt
  have hne : (Value.slice as_ (srtV attrs attrs.length []).length ac2).ownBlock ≠ some gn := fun e => by have := (hown.lt _ e).1; omega
  have hbs : gx + 2 ≤ W3.heap.size := by omega
  replace hB := hB.kept g2
  replace hH := hH.kept g2
  clear g2 hat
  generalize hout : srtV attrs attrs.length [] = out at *
  have HOUT : Hid _ := hout
  clear hout
  obtain ⟨an, han⟩ : ∃ an, an = out.length := ⟨_, rfl⟩
  rw [← han] at hown ⊢
  have HAN : Hid _ := han
  clear han
  rw [← HAN.out] at hne
  refine hK.out _ _ hH (fun _ => ?_)
  clear hK K1
  refine tk (i := 13) (oi := ⟨some 17, _, _, _, _, _⟩) (v := .agg #[.int .i64 K, .int .i64 mo, .int .i64 uid, .int .i64 gid, .int .i64 ti, .int .i64 0, .slice none 0 0, .string ⟨#[]⟩, .int .i64 0, .slice as_ an ac2, .slice none 0 0, .int .i64 0, .int .i64 0]) rfl (Or.inl ⟨by rfl, fun w hSw => by go_simp⟩) hH ?_
  simp only [Act.put, pu]
  refine wpAnyH_ready (rs := [15]) (by kernel_rfl) (by simp) ?_
  refine AllReadyH.cons rfl (fun K1 hK => ?_) AllReadyH.nil
  refine step_store_bx (by rfl) 43 _ _ (by rfl) gn [.int .i64 K, .int .i64 mo, .int .i64 uid, .int .i64 gid, .int .i64 ti, .int .i64 0, .slice none 0 0, .string ⟨#[]⟩, .int .i64 0, .slice as_ an ac2, .slice none 0 0, .int .i64 0, .int .i64 0] (by rfl) (by rfl) hB node_size rfl rfl ?_
  intro W4 hN g4
  have HW : Hid (Nw w W4 gx gn [.string P, .int .i64 K, .int .i64 mo, .int .i64 uid, .int .i64 gid, .int .i64 ti, .int .i64 sz_, .slice da dl dc, .string tg, .int .i64 dev, .slice aa al ac] [.int .i64 K, .int .i64 mo, .int .i64 uid, .int .i64 gid, .int .i64 ti, .int .i64 0, .slice none 0 0, .string ⟨#[]⟩, .int .i64 0, .slice as_ an ac2, .slice none 0 0, .int .i64 0, .int .i64 0] (.slice as_ an ac2) out) := ⟨hH.but g4 hlt, hN, hlt, by rw [← HAN.out]; exact owns_low11 (hown.kept g4 (Or.inr hne)) (by omega), hne⟩
  replace hH := hH.but g4 hlt
  clear hN g4 hB hown hne hlt
  refine hK.out _ _ hH (fun _ => ?_)
  clear hK K1
  refine wpAnyH_done (by kernel_rfl) ?_ _
  clear hH
  by_cases hk1 : K = 1
  ·subst hk1
   obtain ⟨c0, c1, c2, c3, c4, c5, c6, c7, c8, c9, c10⟩ := bx11 HW.out.nv.x
   go_wp2_with fail
   clear c0 c1 c2 c3 c4 c5 c6 c7 c8 c9 c10
   refine wp_region_held_drew (S := fun w' => ∃ nc, Nw w w' gx gn [.string P, .int .i64 1, .int .i64 mo, .int .i64 uid, .int .i64 gid, .int .i64 ti, .int .i64 sz_, .slice da dl dc, .string tg, .int .i64 dev, .slice aa al ac] nc (.slice as_ an ac2) out) (by kernel_rfl) ⟨_, HW.out.kept (drewG0 W4)⟩ (fun hH => ?_)
   have HW5 : Hid _ := HW.out.kept (drewG0 W4)
   clear HW
   generalize W4.drew = W5 at *
   refine tk (i := 0) (oi := ⟨some 21, _, _, _, _, _⟩) (v := .pointer (some ⟨gx, 6, none⟩)) rfl (Or.inl ⟨by rfl, fun w hSw => by go_simp⟩) hH ?_
   simp only [Act.put, pu]
   refine tk (i := 1) (oi := ⟨some 22, _, _, _, _, _⟩) (v := .int .i64 sz_) rfl (Or.inl ⟨by rfl, fun w hSw => by obtain ⟨nc', hSw⟩ := hSw; obtain ⟨c0, c1, c2, c3, c4, c5, c6, c7, c8, c9, c10⟩ := bx11 hSw.nv.x; go_simp⟩) hH ?_
   simp only [Act.put, pu]
   refine tk (i := 2) (oi := ⟨some 23, _, _, _, _, _⟩) (v := .pointer (some ⟨gx, 7, none⟩)) rfl (Or.inl ⟨by rfl, fun w hSw => by go_simp⟩) hH ?_
   simp only [Act.put, pu]
   refine tk (i := 3) (oi := ⟨some 24, _, _, _, _, _⟩) (v := .slice da dl dc) rfl (Or.inl ⟨by rfl, fun w hSw => by obtain ⟨nc', hSw⟩ := hSw; obtain ⟨c0, c1, c2, c3, c4, c5, c6, c7, c8, c9, c10⟩ := bx11 hSw.nv.x; go_simp⟩) hH ?_
   simp only [Act.put, pu]
   refine tk (i := 4) (oi := ⟨some 25, _, _, _, _, _⟩) (v := .pointer (some ⟨gn, 5, none⟩)) rfl (Or.inl ⟨by rfl, fun w hSw => by go_simp⟩) hH ?_
   simp only [Act.put, pu]
   refine wpAnyH_ready (rs := [5]) (by kernel_rfl) (by simp) ?_
   refine AllReadyH.cons rfl (fun K1 hK => ?_) AllReadyH.nil
   have q1 := HW5.out.n.c 5
   have q2 := HW5.out.n.f 5
   simp only [List.getElem?_cons_zero, List.getElem?_cons_succ, List.set_cons_zero, List.set_cons_succ] at q1
   go_simp
   have HW6 : Hid _ := HW5.out.set 5 (.int .i64 sz_)
   clear HW5 hH q1 q2
   generalize W5.setCell ⟨gn, 5, none⟩ (.int .i64 sz_) = W6 at *
   have hH : ∃ nc, Nw w W6 gx gn [.string P, .int .i64 1, .int .i64 mo, .int .i64 uid, .int .i64 gid, .int .i64 ti, .int .i64 sz_, .slice da dl dc, .string tg, .int .i64 dev, .slice aa al ac] nc (.slice as_ an ac2) out := ⟨_, HW6.out⟩
   refine hK.out _ _ hH (fun _ => ?_)
   clear hK K1
   refine tk (i := 6) (oi := ⟨some 26, _, _, _, _, _⟩) (v := .pointer (some ⟨gn, 6, none⟩)) rfl (Or.inl ⟨by rfl, fun w hSw => by go_simp⟩) hH ?_
   simp only [Act.put, pu]
   refine wpAnyH_ready (rs := [7]) (by kernel_rfl) (by simp) ?_
   refine AllReadyH.cons rfl (fun K1 hK => ?_) AllReadyH.nil
   have q1 := HW6.out.n.c 6
   have q2 := HW6.out.n.f 6
   simp only [List.getElem?_cons_zero, List.getElem?_cons_succ, List.set_cons_zero, List.set_cons_succ] at q1
   go_simp
   have HW7 : Hid _ := HW6.out.set 6 (.slice da dl dc)
   clear HW6 hH q1 q2
   generalize W6.setCell ⟨gn, 6, none⟩ (.slice da dl dc) = W7 at *
   have hH : ∃ nc, Nw w W7 gx gn [.string P, .int .i64 1, .int .i64 mo, .int .i64 uid, .int .i64 gid, .int .i64 ti, .int .i64 sz_, .slice da dl dc, .string tg, .int .i64 dev, .slice aa al ac] nc (.slice as_ an ac2) out := ⟨_, HW7.out⟩
   refine hK.out _ _ hH (fun _ => ?_)
   clear hK K1
   refine wpAnyH_done (by kernel_rfl) ?_ _
   clear hH
   simp only [List.set_cons_zero, List.set_cons_succ] at HW7
   go_wp2_with fail
   have hdc := HO.out.dcap
   simp only at hdc
   go_loopw [27] (fun _ wr => ∃ n : Nat, n ≤ dl ∧ Hid (Nw w wr gx gn [.string P, .int .i64 1, .int .i64 mo, .int .i64 uid, .int .i64 gid, .int .i64 ti, .int .i64 sz_, .slice da dl dc, .string tg, .int .i64 dev, .slice aa al ac] ([.int .i64 1, .int .i64 mo, .int .i64 uid, .int .i64 gid, .int .i64 ti, .int .i64 sz_, .slice da n dc, .string ⟨#[]⟩, .int .i64 0, .slice as_ an ac2, .slice none 0 0, .int .i64 0, .int .i64 0]) (.slice as_ an ac2) out ∧ strip (data.take n) = strip data)) (fun _ wr => dlen gn wr)
   case atStart => exact ⟨dl, Nat.le_refl _, HW7.out, by rw [List.take_of_length_le (by have := HO.out.row.len_eq; simp only at this; omega)]⟩
   case round =>
    obtain ⟨n, hn, HL⟩ := hrel
    clear HW7
    obtain ⟨m0, m1, m2, m3, m4, m5, m6, m7, m8, m9, m10, m11, m12⟩ := bx13 HL.out.1.n
    have f6 := HL.out.1.n.f 6
    obtain ⟨c0, c1, c2, c3, c4, c5, c6, c7, c8, c9, c10⟩ := bx11 HL.out.1.nv.x
    rcases n with _ | n
    ·have HW : Hid _ := HL.out.1
     have HD : Hid (strip data = []) := by
      have := HL.out.2
      rw [List.take_zero] at this
      rw [← this]
      rfl
     clear HL
     go_wp2_with ((with_reducible refine node_here ?_); refine wpList_store_bx13 rfl 43 _ _ rfl (gx + 1) [.int .i64 1, .int .i64 mo, .int .i64 uid, .int .i64 gid, .int .i64 ti, .int .i64 sz_, .slice da 0 dc, .string ⟨#[]⟩, .int .i64 0, .slice as_ an ac2, .slice none 0 0, .int .i64 0, .int .i64 0] rfl rfl HW.out.nv.z node_size rfl rfl ?_; intro W9 hz9 g9)
     obtain ⟨z0, z1, z2, z3, z4, z5, z6, z7, z8, z9, z10, z11, z12⟩ := bx13 hz9
     have hfin := HW.out.fin hz9 g9
     refine bodyPost_ret (v := .agg #[.int .i64 1, .int .i64 mo, .int .i64 uid, .int .i64 gid, .int .i64 ti, .int .i64 sz_, .slice da 0 dc, .string ⟨#[]⟩, .int .i64 0, .slice as_ an ac2, .slice none 0 0, .int .i64 0, .int .i64 0]) (by simp [results, Tryz.results37, go_sem, *]) rfl ?_
     refine ⟨⟨1, mo, uid, gid, ti, sz_, da, 0, dc, [], ⟨#[]⟩, 0, as_, an, ac2, out, none, 0, 0, [], 0, 0⟩, rfl, ?_, ?_, ⟨rfl, rfl, rfl⟩, hfin.1, ⟨by have h2 := hfin.2; rw [← HAN.out] at h2; exact owns_low11 h2 (by have := HG0.out; omega), HAN.out, fun A hA => srt_rows HO0.out.ats (World.grownBy.refl _ _) A (by rw [HOUT.out]; exact hA), row_zero da, by first | exact Nat.zero_le _ | (show n + 1 ≤ dc; have h9 := HO0.out.dcap; simp only at h9; omega)⟩⟩
     ·obtain ⟨a', c', e', hats, -, -⟩ := own_ats hfin.2 rfl (fun A hA => srt_rows HO.out.ats hfin.1 A (by rw [HOUT.out]; exact hA))
      injection e' with e1 e2 e3
      subst e1 e3
      refine ⟨row_zero da, ?_, kds_none _⟩
      rw [← HAN.out] at hats
      exact hats
     ·unfold NoV.no EnV.en ndOf
      simp only [srtV_atts HOUT.out, tl_nil]
      simp [HD.out]
    ·have hrow := HO.out.row.grown HL.out.1.nv.gr
     simp only at hrow
     have hlen := hrow.len_eq
     obtain ⟨db, dof, rfl, hcell⟩ := hrow.cells (by omega)
     have y0 := hcell n (by omega)
     have hmx : dl ≤ 9223372036854775807 := hrow.le
     have hpos : (0 : Int) < ((n + 1 : Nat) : Int) := by omega
     have hwm : IntKind.i64.wrap (((n + 1 : Nat) : Int) - 1) = (n : Int) := by rw [IntKind.wrap_i64]; omega
     by_cases hz : data.getD n 0 = 0
     ·rw [hz] at y0
      have HN : Hid (Nw w (wr.setCell ⟨gn, 6, none⟩ (.slice (some ⟨db, dof, none⟩) n dc)) gx gn [.string P, .int .i64 1, .int .i64 mo, .int .i64 uid, .int .i64 gid, .int .i64 ti, .int .i64 sz_, .slice (some ⟨db, dof, none⟩) dl dc, .string tg, .int .i64 dev, .slice aa al ac] ([.int .i64 1, .int .i64 mo, .int .i64 uid, .int .i64 gid, .int .i64 ti, .int .i64 sz_, .slice (some ⟨db, dof, none⟩) n dc, .string ⟨#[]⟩, .int .i64 0, .slice as_ an ac2, .slice none 0 0, .int .i64 0, .int .i64 0]) (.slice as_ an ac2) out ∧ strip (data.take n) = strip data) := ⟨HL.out.1.set 6 _, by rw [← HL.out.2, strip_zero (by omega) hz]⟩
      have HM : Hid (dlen gn wr = n + 1) := by show dlen gn wr = _; unfold dlen; rw [m6]
      have hnc : (n : Int) ≤ dc := by omega
      clear HL hcell
      go_wp2
      refine ⟨⟨n, by omega, HN⟩, ?_⟩
      have hd2 : dlen gn (wr.setCell ⟨gn, 6, none⟩ (.slice (some ⟨db, dof, none⟩) n dc)) = n := by unfold dlen; rw [HN.out.1.n.c 6]; rfl
      rw [HM.out, hd2]
      omega
     ·have hzb : (data.getD n 0 == 0) = false := by simpa using hz
      have HW : Hid _ := HL.out.1
      have HD : Hid (strip data = data.take (n + 1)) := by rw [← HL.out.2]; exact strip_stop (by omega) hz
      generalize data.getD n 0 = xb at y0 hzb
      clear HL hcell hrow hz
      go_wp2_with ((with_reducible refine node_here ?_); refine wpList_store_bx13 rfl 43 _ _ rfl (gx + 1) [.int .i64 1, .int .i64 mo, .int .i64 uid, .int .i64 gid, .int .i64 ti, .int .i64 sz_, .slice (some ⟨db, dof, none⟩) (n + 1) dc, .string ⟨#[]⟩, .int .i64 0, .slice as_ an ac2, .slice none 0 0, .int .i64 0, .int .i64 0] rfl rfl HW.out.nv.z node_size rfl rfl ?_; intro W9 hz9 g9)
      obtain ⟨z0, z1, z2, z3, z4, z5, z6, z7, z8, z9, z10, z11, z12⟩ := bx13 hz9
      have hfin := HW.out.fin hz9 g9
      refine bodyPost_ret (v := .agg #[.int .i64 1, .int .i64 mo, .int .i64 uid, .int .i64 gid, .int .i64 ti, .int .i64 sz_, .slice (some ⟨db, dof, none⟩) (n + 1) dc, .string ⟨#[]⟩, .int .i64 0, .slice as_ an ac2, .slice none 0 0, .int .i64 0, .int .i64 0]) (by simp [results, Tryz.results37, go_sem, *]) rfl ?_
      refine ⟨⟨1, mo, uid, gid, ti, sz_, (some ⟨db, dof, none⟩), (n + 1), dc, (data.take (n + 1)), ⟨#[]⟩, 0, as_, an, ac2, out, none, 0, 0, [], 0, 0⟩, rfl, ?_, ?_, ⟨rfl, rfl, rfl⟩, hfin.1, ⟨by have h2 := hfin.2; rw [← HAN.out] at h2; exact owns_low11 h2 (by have := HG0.out; omega), HAN.out, fun A hA => srt_rows HO0.out.ats (World.grownBy.refl _ _) A (by rw [HOUT.out]; exact hA), row_take HO0.out.row (by omega), by first | exact Nat.zero_le _ | (show n + 1 ≤ dc; have h9 := HO0.out.dcap; simp only at h9; omega)⟩⟩
      ·obtain ⟨a', c', e', hats, -, -⟩ := own_ats hfin.2 rfl (fun A hA => srt_rows HO.out.ats hfin.1 A (by rw [HOUT.out]; exact hA))
       injection e' with e1 e2 e3
       subst e1 e3
       refine ⟨row_take (HO.out.row.grown hfin.1) (by omega), ?_, kds_none _⟩
       rw [← HAN.out] at hats
       exact hats
      ·unfold NoV.no EnV.en ndOf
       simp only [srtV_atts HOUT.out, tl_nil]
       simp [HD.out]
  ·have hk1b : (K == 1) = false := by simpa using hk1
   obtain ⟨c0, c1, c2, c3, c4, c5, c6, c7, c8, c9, c10⟩ := bx11 HW.out.nv.x
   obtain ⟨m0, m1, m2, m3, m4, m5, m6, m7, m8, m9, m10, m11, m12⟩ := bx13 HW.out.n
   by_cases hk3 : K = 3
   ·subst hk3
    have f7 := HW.out.n.f 7
    have HW2 : Hid (Nw w (W4.setCell ⟨gn, 7, none⟩ (.string tg)) gx gn [.string P, .int .i64 3, .int .i64 mo, .int .i64 uid, .int .i64 gid, .int .i64 ti, .int .i64 sz_, .slice da dl dc, .string tg, .int .i64 dev, .slice aa al ac] [.int .i64 3, .int .i64 mo, .int .i64 uid, .int .i64 gid, .int .i64 ti, .int .i64 0, .slice none 0 0, .string tg, .int .i64 0, .slice as_ an ac2, .slice none 0 0, .int .i64 0, .int .i64 0] (.slice as_ an ac2) out) := HW.out.set 7 (.string tg)
    clear HW
    have HW := HW2
    clear HW2
    go_wp2_with ((with_reducible refine node_here ?_); refine wpList_store_bx13 rfl 43 _ _ rfl (gx + 1) [.int .i64 3, .int .i64 mo, .int .i64 uid, .int .i64 gid, .int .i64 ti, .int .i64 0, .slice none 0 0, .string tg, .int .i64 0, .slice as_ an ac2, .slice none 0 0, .int .i64 0, .int .i64 0] rfl rfl HW.out.nv.z node_size rfl rfl ?_; intro W9 hz9 g9)
    obtain ⟨z0, z1, z2, z3, z4, z5, z6, z7, z8, z9, z10, z11, z12⟩ := bx13 hz9
    have hfin := HW.out.fin hz9 g9
    refine bodyPost_ret (v := .agg #[.int .i64 3, .int .i64 mo, .int .i64 uid, .int .i64 gid, .int .i64 ti, .int .i64 0, .slice none 0 0, .string tg, .int .i64 0, .slice as_ an ac2, .slice none 0 0, .int .i64 0, .int .i64 0]) (by simp [results, Tryz.results37, go_sem, *]) rfl ?_
    refine ⟨⟨3, mo, uid, gid, ti, 0, none, 0, 0, [], tg, 0, as_, an, ac2, out, none, 0, 0, [], 0, 0⟩, rfl, ?_, ?_, ⟨rfl, rfl, rfl⟩, hfin.1, ⟨by have h2 := hfin.2; rw [← HAN.out] at h2; exact owns_low11 h2 (by have := HG0.out; omega), HAN.out, fun A hA => srt_rows HO0.out.ats (World.grownBy.refl _ _) A (by rw [HOUT.out]; exact hA), row_zero none, by first | exact Nat.zero_le _ | (show n + 1 ≤ dc; have h9 := HO0.out.dcap; simp only at h9; omega)⟩⟩
    ·obtain ⟨a', c', e', hats, -, -⟩ := own_ats hfin.2 rfl (fun A hA => srt_rows HO.out.ats hfin.1 A (by rw [HOUT.out]; exact hA))
     injection e' with e1 e2 e3
     subst e1 e3
     refine ⟨row_zero none, ?_, kds_none _⟩
     rw [← HAN.out] at hats
     exact hats
    ·unfold NoV.no EnV.en ndOf
     simp only [srtV_atts HOUT.out, tl_nil]
     simp []
   ·have hk3b : (K == 3) = false := by simpa using hk3
    by_cases hk45 : K = 4 ∨ K = 5
    ·rcases hk45 with hk4 | hk5
     ·subst hk4
      have f8 := HW.out.n.f 8
      have HW2 : Hid (Nw w (W4.setCell ⟨gn, 8, none⟩ (.int .i64 dev)) gx gn [.string P, .int .i64 4, .int .i64 mo, .int .i64 uid, .int .i64 gid, .int .i64 ti, .int .i64 sz_, .slice da dl dc, .string tg, .int .i64 dev, .slice aa al ac] [.int .i64 4, .int .i64 mo, .int .i64 uid, .int .i64 gid, .int .i64 ti, .int .i64 0, .slice none 0 0, .string ⟨#[]⟩, .int .i64 dev, .slice as_ an ac2, .slice none 0 0, .int .i64 0, .int .i64 0] (.slice as_ an ac2) out) := HW.out.set 8 (.int .i64 dev)
      clear HW
      have HW := HW2
      clear HW2
      go_wp2_with ((with_reducible refine node_here ?_); refine wpList_store_bx13 rfl 43 _ _ rfl (gx + 1) [.int .i64 4, .int .i64 mo, .int .i64 uid, .int .i64 gid, .int .i64 ti, .int .i64 0, .slice none 0 0, .string ⟨#[]⟩, .int .i64 dev, .slice as_ an ac2, .slice none 0 0, .int .i64 0, .int .i64 0] rfl rfl HW.out.nv.z node_size rfl rfl ?_; intro W9 hz9 g9)
      obtain ⟨z0, z1, z2, z3, z4, z5, z6, z7, z8, z9, z10, z11, z12⟩ := bx13 hz9
      have hfin := HW.out.fin hz9 g9
      refine bodyPost_ret (v := .agg #[.int .i64 4, .int .i64 mo, .int .i64 uid, .int .i64 gid, .int .i64 ti, .int .i64 0, .slice none 0 0, .string ⟨#[]⟩, .int .i64 dev, .slice as_ an ac2, .slice none 0 0, .int .i64 0, .int .i64 0]) (by simp [results, Tryz.results37, go_sem, *]) rfl ?_
      refine ⟨⟨4, mo, uid, gid, ti, 0, none, 0, 0, [], ⟨#[]⟩, dev, as_, an, ac2, out, none, 0, 0, [], 0, 0⟩, rfl, ?_, ?_, ⟨rfl, rfl, rfl⟩, hfin.1, ⟨by have h2 := hfin.2; rw [← HAN.out] at h2; exact owns_low11 h2 (by have := HG0.out; omega), HAN.out, fun A hA => srt_rows HO0.out.ats (World.grownBy.refl _ _) A (by rw [HOUT.out]; exact hA), row_zero none, by first | exact Nat.zero_le _ | (show n + 1 ≤ dc; have h9 := HO0.out.dcap; simp only at h9; omega)⟩⟩
      ·obtain ⟨a', c', e', hats, -, -⟩ := own_ats hfin.2 rfl (fun A hA => srt_rows HO.out.ats hfin.1 A (by rw [HOUT.out]; exact hA))
       injection e' with e1 e2 e3
       subst e1 e3
       refine ⟨row_zero none, ?_, kds_none _⟩
       rw [← HAN.out] at hats
       exact hats
      ·unfold NoV.no EnV.en ndOf
       simp only [srtV_atts HOUT.out, tl_nil]
       simp []
     ·subst hk5
      have f8 := HW.out.n.f 8
      have HW2 : Hid (Nw w (W4.setCell ⟨gn, 8, none⟩ (.int .i64 dev)) gx gn [.string P, .int .i64 5, .int .i64 mo, .int .i64 uid, .int .i64 gid, .int .i64 ti, .int .i64 sz_, .slice da dl dc, .string tg, .int .i64 dev, .slice aa al ac] [.int .i64 5, .int .i64 mo, .int .i64 uid, .int .i64 gid, .int .i64 ti, .int .i64 0, .slice none 0 0, .string ⟨#[]⟩, .int .i64 dev, .slice as_ an ac2, .slice none 0 0, .int .i64 0, .int .i64 0] (.slice as_ an ac2) out) := HW.out.set 8 (.int .i64 dev)
      clear HW
      have HW := HW2
      clear HW2
      go_wp2_with ((with_reducible refine node_here ?_); refine wpList_store_bx13 rfl 43 _ _ rfl (gx + 1) [.int .i64 5, .int .i64 mo, .int .i64 uid, .int .i64 gid, .int .i64 ti, .int .i64 0, .slice none 0 0, .string ⟨#[]⟩, .int .i64 dev, .slice as_ an ac2, .slice none 0 0, .int .i64 0, .int .i64 0] rfl rfl HW.out.nv.z node_size rfl rfl ?_; intro W9 hz9 g9)
      obtain ⟨z0, z1, z2, z3, z4, z5, z6, z7, z8, z9, z10, z11, z12⟩ := bx13 hz9
      have hfin := HW.out.fin hz9 g9
      refine bodyPost_ret (v := .agg #[.int .i64 5, .int .i64 mo, .int .i64 uid, .int .i64 gid, .int .i64 ti, .int .i64 0, .slice none 0 0, .string ⟨#[]⟩, .int .i64 dev, .slice as_ an ac2, .slice none 0 0, .int .i64 0, .int .i64 0]) (by simp [results, Tryz.results37, go_sem, *]) rfl ?_
      refine ⟨⟨5, mo, uid, gid, ti, 0, none, 0, 0, [], ⟨#[]⟩, dev, as_, an, ac2, out, none, 0, 0, [], 0, 0⟩, rfl, ?_, ?_, ⟨rfl, rfl, rfl⟩, hfin.1, ⟨by have h2 := hfin.2; rw [← HAN.out] at h2; exact owns_low11 h2 (by have := HG0.out; omega), HAN.out, fun A hA => srt_rows HO0.out.ats (World.grownBy.refl _ _) A (by rw [HOUT.out]; exact hA), row_zero none, by first | exact Nat.zero_le _ | (show n + 1 ≤ dc; have h9 := HO0.out.dcap; simp only at h9; omega)⟩⟩
      ·obtain ⟨a', c', e', hats, -, -⟩ := own_ats hfin.2 rfl (fun A hA => srt_rows HO.out.ats hfin.1 A (by rw [HOUT.out]; exact hA))
       injection e' with e1 e2 e3
       subst e1 e3
       refine ⟨row_zero none, ?_, kds_none _⟩
       rw [← HAN.out] at hats
       exact hats
      ·unfold NoV.no EnV.en ndOf
       simp only [srtV_atts HOUT.out, tl_nil]
       simp []
    ·have hk4b : (K == 4) = false := by simpa using fun e => hk45 (Or.inl e)
     have hk5b : (K == 5) = false := by simpa using fun e => hk45 (Or.inr e)
     go_wp2_with ((with_reducible refine node_here ?_); refine wpList_store_bx13 rfl 43 _ _ rfl (gx + 1) [.int .i64 K, .int .i64 mo, .int .i64 uid, .int .i64 gid, .int .i64 ti, .int .i64 0, .slice none 0 0, .string ⟨#[]⟩, .int .i64 0, .slice as_ an ac2, .slice none 0 0, .int .i64 0, .int .i64 0] rfl rfl HW.out.nv.z node_size rfl rfl ?_; intro W9 hz9 g9)
     obtain ⟨z0, z1, z2, z3, z4, z5, z6, z7, z8, z9, z10, z11, z12⟩ := bx13 hz9
     have hfin := HW.out.fin hz9 g9
     refine bodyPost_ret (v := .agg #[.int .i64 K, .int .i64 mo, .int .i64 uid, .int .i64 gid, .int .i64 ti, .int .i64 0, .slice none 0 0, .string ⟨#[]⟩, .int .i64 0, .slice as_ an ac2, .slice none 0 0, .int .i64 0, .int .i64 0]) (by simp [results, Tryz.results37, go_sem, *]) rfl ?_
     refine ⟨⟨K, mo, uid, gid, ti, 0, none, 0, 0, [], ⟨#[]⟩, 0, as_, an, ac2, out, none, 0, 0, [], 0, 0⟩, rfl, ?_, ?_, ⟨rfl, rfl, rfl⟩, hfin.1, ⟨by have h2 := hfin.2; rw [← HAN.out] at h2; exact owns_low11 h2 (by have := HG0.out; omega), HAN.out, fun A hA => srt_rows HO0.out.ats (World.grownBy.refl _ _) A (by rw [HOUT.out]; exact hA), row_zero none, by first | exact Nat.zero_le _ | (show n + 1 ≤ dc; have h9 := HO0.out.dcap; simp only at h9; omega)⟩⟩
     ·obtain ⟨a', c', e', hats, -, -⟩ := own_ats hfin.2 rfl (fun A hA => srt_rows HO.out.ats hfin.1 A (by rw [HOUT.out]; exact hA))
      injection e' with e1 e2 e3
      subst e1 e3
      refine ⟨row_zero none, ?_, kds_none _⟩
      rw [← HAN.out] at hats
      exact hats
     ·unfold NoV.no EnV.en ndOf
      simp only [srtV_atts HOUT.out, tl_nil]
      simp [hk1, hk3, hk45]
end Go.Proofs.YtlehncfehoelbaaGreatDoor
