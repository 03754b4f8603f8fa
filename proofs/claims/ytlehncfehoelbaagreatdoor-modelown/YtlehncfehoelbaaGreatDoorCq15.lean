/- The program's tree: an entry's node. -/
import Derived.Test.YtlehncfehoelbaaGreatDoorCq14
namespace Go.Proofs.YtlehncfehoelbaaGreatDoor
open Go.RowKit
set_option maxRecDepth 100000
set_option linter.unusedSimpArgs false
set_option linter.unusedVariables false
structure Pk (W : World) (base : Nat) (X : NoV) : Prop where
 row : OwnB W base X.da X.dl X.dc X.data
 ar : Ar W base (.slice X.aa X.al X.ac) X.attrs
 len : X.al = X.attrs.length
 kid : W.ownsRow base 47 2 (.slice X.ka X.kl X.kc) X.kl (X.kids.flatMap kdc)
 klen : X.kl = X.kids.length
structure Nz (w W : World) (gx gn : Nat) (xc nc : List Value) (v : Value) (out : List AtV) : Prop where
 nv : Nv w W gx xc
 n : Bx W gn 43 nc
 lt : gx + 1 < gn
 ar : Ar W gx v out
theorem Nz.kept {w W W' : World} {gx gn : Nat} {xc nc : List Value} {v : Value} {out : List AtV} (h : Nz w W gx gn xc nc v out) (k : W.grownBy W' none) : Nz w W' gx gn xc nc v out := ⟨h.nv.kept k, h.n.kept k, h.lt, h.ar.kept k⟩
theorem Nz.st {w W W' : World} {gx gn : Nat} {xc nc nc' : List Value} {v : Value} {out : List AtV} (h : Nz w W gx gn xc nc v out) (hb : Bx W' gn 43 nc') (g : W.grownBy W' (some gn)) : Nz w W' gx gn xc nc' v out := ⟨h.nv.but g h.lt, hb, h.lt, h.ar.bx h.n (by decide) (by decide) g⟩
theorem Nv.row {w W W' : World} {gx b n s : Nat} {xc : List Value} {v : Value} {xs : List Value} (h : Nv w W gx xc) (ho : W.ownsRow b 45 s v n xs) (hb : w.heap.size ≤ b) (g : W.grownBy W' v.ownBlock) : Nv w W' gx xc := ⟨h.x.but g (bx_ne h.x ho (by decide)), h.z.but g (bx_ne h.z ho (by decide)), grown_ownB h.gr ho g hb, h.sz⟩
theorem Nz.sort {w W W' : World} {gx gn : Nat} {xc nc : List Value} {v : Value} {out out' : List AtV} (h : Nz w W gx gn xc nc v out) (ha : Ar W' gx v out') (g : W.grownBy W' v.ownBlock) : Nz w W' gx gn xc nc v out' := ⟨h.nv.row h.ar.own (by have := h.nv.sz; omega) g, h.n.but g (bx_ne h.n h.ar.own (by decide)), h.lt, ha⟩
theorem int_here {P : Program} {w : World} {ops : Array Oper} {rest : List Oper} {a : Act} {Q : Exit → Act → World → Prop} {dst : Option Nat} {x y : Operand} {type : TypeId} {pos : String} {after : Array Edge} {guard : Option (Nat × Bool)}
  (h : wpList P ops Q (⟨dst, .store 3 x y, type, pos, after, guard⟩ :: rest) a w) : wpList P ops Q (⟨dst, .store 3 x y, type, pos, after, guard⟩ :: rest) a w := h
theorem str_here {P : Program} {w : World} {ops : Array Oper} {rest : List Oper} {a : Act} {Q : Exit → Act → World → Prop} {dst : Option Nat} {x y : Operand} {type : TypeId} {pos : String} {after : Array Edge} {guard : Option (Nat × Bool)}
  (h : wpList P ops Q (⟨dst, .store 9 x y, type, pos, after, guard⟩ :: rest) a w) : wpList P ops Q (⟨dst, .store 9 x y, type, pos, after, guard⟩ :: rest) a w := h
theorem bs_here {P : Program} {w : World} {ops : Array Oper} {rest : List Oper} {a : Act} {Q : Exit → Act → World → Prop} {dst : Option Nat} {x y : Operand} {type : TypeId} {pos : String} {after : Array Edge} {guard : Option (Nat × Bool)}
  (h : wpList P ops Q (⟨dst, .store 23 x y, type, pos, after, guard⟩ :: rest) a w) : wpList P ops Q (⟨dst, .store 23 x y, type, pos, after, guard⟩ :: rest) a w := h
theorem size3 (w : World) : (Go.sizeOf 3).run Tryz.prog w = .ok 1 w := by kernel_rfl
theorem size9 (w : World) : (Go.sizeOf 9).run Tryz.prog w = .ok 1 w := by kernel_rfl
theorem sizebs (w : World) : (Go.sizeOf 23).run Tryz.prog w = .ok 1 w := by kernel_rfl
def NdPost (w : World) (X : En) (e : Ending) (w' : World) : Prop := ∃ N : NoV, e = .returned N.val ∧ Pk w' w.heap.size N ∧ N.no = { ndOf X with links := if X.k = 2 then 2 else 0 } ∧ (N.ka = none ∧ N.kl = 0 ∧ N.kc = 0) ∧ w.grownBy w' none
set_option maxHeartbeats 16000000 in
theorem pnode_any (X : EnV) (w : World) (ho : X.ok w) (hal : X.al ≤ 100000) (hk : 1 ≤ X.k ∧ X.k ≤ 5) (hD : Dn (X.attrs.map AtV.at)) (hz : ∀ A ∈ X.attrs, A.n.size ≤ 1000000 ∧ A.len ≤ 16777216) (hd : X.k = 1 → X.dl ≤ 16777216) (ht : X.k = 3 → X.target.size ≤ 1000000) : Calls Tryz.prog 66 #[X.val] w (NdPost w X.en) := by
 have hat := fun W (g : w.grownBy W none) => pcopied_any X.aa X.al X.ac X.attrs W (ho.ats.grown g) hal hz
 unfold CpPost at hat
 have HO : Hid _ := xai ho (xai hD (xai hd ht))
 have hall := ho.ats.len_eq
 clear ho hD hd ht hz
 obtain ⟨P, K, mo, uid, gid, ti, sz_, da, dl, dc, data, tg, dev, aa, al, ac, attrs⟩ := X
 simp only [EnV.val] at *
 have H0 : Hid _ := Nv.new w [.string P, .int .i64 K, .int .i64 mo, .int .i64 uid, .int .i64 gid, .int .i64 ti, .int .i64 sz_, .slice da dl dc, .string tg, .int .i64 dev, .slice aa al ac]
 go_enter Tryz.func66, Tryz.ntmps66
 go_wp2_with fail
 generalize (w.alloc (.cells #[.string P, .int .i64 K, .int .i64 mo, .int .i64 uid, .int .i64 gid, .int .i64 ti, .int .i64 sz_, .slice da dl dc, .string tg, .int .i64 dev, .slice aa al ac] 30)).alloc (.cells #[.int .i64 0, .int .i64 0, .int .i64 0, .int .i64 0, .int .i64 0, .int .i64 0, .slice none 0 0, .string ⟨#[]⟩, .int .i64 0, .slice none 0 0, .slice none 0 0, .int .i64 0, .int .i64 0] 43) = W1 at *
 generalize hg0 : w.heap.size = gx at *
 have HG0 : Hid _ := hg0
 clear hg0
 rename_i K9 hnext
 have tail : ∀ (W4 : World) (gn : Nat) (as_ : Option Addr) (an asc : Nat) (out : List AtV), Hid (Nz w W4 gx gn [.string P, .int .i64 K, .int .i64 mo, .int .i64 uid, .int .i64 gid, .int .i64 ti, .int .i64 sz_, .slice da dl dc, .string tg, .int .i64 dev, .slice aa al ac] [.int .i64 K, .int .i64 mo, .int .i64 uid, .int .i64 gid, .int .i64 ti, .int .i64 0, .slice none 0 0, .string ⟨#[]⟩, .int .i64 0, .slice as_ an asc, .slice none 0 0, .int .i64 0, .int .i64 0] (.slice as_ an asc) out ∧ out.map AtV.at = attrs.map AtV.at ∧ an = out.length) → K9 { tmps := #[.agg #[.string P, .int .i64 K, .int .i64 mo, .int .i64 uid, .int .i64 gid, .int .i64 ti, .int .i64 sz_, .slice da dl dc, .string tg, .int .i64 dev, .slice aa al ac], .pointer (some ⟨gx, 0, none⟩), .pointer (some ⟨gx + 1, 0, none⟩), .pointer (some ⟨gn, 0, none⟩), .pointer (some ⟨gx, 1, none⟩), .int .i64 K, .pointer (some ⟨gx, 2, none⟩), .int .i64 mo, .pointer (some ⟨gx, 3, none⟩), .int .i64 uid, .pointer (some ⟨gx, 4, none⟩), .int .i64 gid, .pointer (some ⟨gx, 5, none⟩), .int .i64 ti, .pointer (some ⟨gx, 10, none⟩), .slice aa al ac, .slice as_ an asc, .agg #[.int .i64 K, .int .i64 mo, .int .i64 uid, .int .i64 gid, .int .i64 ti, .int .i64 0, .slice none 0 0, .string ⟨#[]⟩, .int .i64 0, .slice as_ an asc, .slice none 0 0, .int .i64 0, .int .i64 0], undef, undef, undef, undef, undef, undef, undef, undef, undef, undef, undef, undef, undef, undef, undef, undef, undef, undef, undef, undef, undef, undef, undef, undef, undef, undef, undef, undef], defers := [] } W4 := by
  intro W4 gn as_ an asc out HW
  refine hnext _ _ ?_
  clear hnext hat
  have hlo : out.length ≤ 100000 := by have h1 := congrArg List.length HW.out.2.1; rw [List.length_map, List.length_map, hall] at h1; omega
  have hso := psorta_any W4 gx (.slice as_ an asc) out HW.out.1.ar hlo
  unfold SoPost at hso
  have c9 := HW.out.1.n.c 9
  simp only [List.getElem?_cons_succ, List.getElem?_cons_zero] at c9
  have hDn : Dn (out.map AtV.at) := by rw [HW.out.2.1]; exact HO.out.2.1
  have HDn : Hid _ := hDn
  clear hDn hlo
  have hk5 : K = 1 ∨ K = 2 ∨ K = 3 ∨ K = 4 ∨ K = 5 := by omega
  clear hk
  rcases hk5 with rfl | hk5
  ·have hdl := HO.out.2.2.1 rfl
   have hrow := HO.out.1.row
   have hdc : dl ≤ dc := HO.out.1.dcap
   simp only at hdl hrow
   have hlen : (strip data).length ≤ 16777216 := by have := strip_len data; rw [hrow.len_eq] at this; omega
   have htr := fun W (g : w.grownBy W none) => ptrim_any da dl dc data W (hrow.grown g) hdc
   have hcl := fun W (g : w.grownBy W none) => pclone_any da (strip data).length dc (strip data) W (row_strip (hrow.grown g)) hlen
   have HBY : Hid (Byt (strip data)) := fun x hx => hrow.byt x (by unfold strip at hx; rw [List.mem_reverse] at hx; exact List.mem_reverse.1 ((List.dropWhile_sublist _).subset hx))
   clear hrow hlen hdl
   go_wp2_with (first | (go_at_call 99; refine hso.mono ?_; rintro e W5 ⟨rfl, out', ha, hp, hs, hg⟩; have HZ5 : Hid (Nz w W5 gx gn [.string P, .int .i64 1, .int .i64 mo, .int .i64 uid, .int .i64 gid, .int .i64 ti, .int .i64 sz_, .slice da dl dc, .string tg, .int .i64 dev, .slice aa al ac] [.int .i64 1, .int .i64 mo, .int .i64 uid, .int .i64 gid, .int .i64 ti, .int .i64 0, .slice none 0 0, .string ⟨#[]⟩, .int .i64 0, .slice as_ an asc, .slice none 0 0, .int .i64 0, .int .i64 0] (.slice as_ an asc) out') := HW.out.1.sort ha hg; have HT : Hid (out'.map AtV.at = srt (attrs.map AtV.at) ∧ an = out'.length) := xai (by rw [← HW.out.2.1]; exact srt_of_perm HDn.out (hp.map AtV.at) (List.pairwise_map.2 hs)) (by rw [HW.out.2.2, hp.length_eq]); clear ha hp hs hg c9 hso; obtain ⟨x0, x1, x2, x3, x4, x5, x6, x7, x8, x9, x10⟩ := bx11 HZ5.out.nv.x) | ((with_reducible refine int_here ?_); refine wpList_store1 rfl 3 _ _ rfl gn 5 (.int .i64 sz_) rfl rfl HZ5.out.n (show 5 < 13 by decide) rfl size3 ?_; intro W6 hb g; have HZ6 : Hid (Nz w W6 gx gn [.string P, .int .i64 1, .int .i64 mo, .int .i64 uid, .int .i64 gid, .int .i64 ti, .int .i64 sz_, .slice da dl dc, .string tg, .int .i64 dev, .slice aa al ac] [.int .i64 1, .int .i64 mo, .int .i64 uid, .int .i64 gid, .int .i64 ti, .int .i64 sz_, .slice none 0 0, .string ⟨#[]⟩, .int .i64 0, .slice as_ an asc, .slice none 0 0, .int .i64 0, .int .i64 0] (.slice as_ an asc) out') := HZ5.out.st hb.out g.out; clear hb g x0 x1 x2 x3 x4 x5 x6 x7 x8 x9 x10; obtain ⟨x0, x1, x2, x3, x4, x5, x6, x7, x8, x9, x10⟩ := bx11 HZ6.out.nv.x) | (go_at_call 102; refine (htr _ HZ6.out.nv.gr).mono ?_; rintro e w' ⟨rfl, rfl⟩) | (go_at_call 44; refine (hcl _ HZ6.out.nv.gr).mono ?_; rintro e W7 ⟨v7, rfl, ho7, g7⟩; obtain ⟨ca, cc, rfl⟩ := own_shape ho7; have HOB : Hid (OwnB W7 gx ca (strip data).length cc (strip data)) := ⟨owns_low11 ho7 (by have h1 := HZ6.out.nv.gr.size; rw [HG0.out] at h1; exact h1), HBY.out⟩; have HZ7 : Hid (Nz w W7 gx gn [.string P, .int .i64 1, .int .i64 mo, .int .i64 uid, .int .i64 gid, .int .i64 ti, .int .i64 sz_, .slice da dl dc, .string tg, .int .i64 dev, .slice aa al ac] [.int .i64 1, .int .i64 mo, .int .i64 uid, .int .i64 gid, .int .i64 ti, .int .i64 sz_, .slice none 0 0, .string ⟨#[]⟩, .int .i64 0, .slice as_ an asc, .slice none 0 0, .int .i64 0, .int .i64 0] (.slice as_ an asc) out') := HZ6.out.kept g7; clear ho7 g7 x0 x1 x2 x3 x4 x5 x6 x7 x8 x9 x10; obtain ⟨x0, x1, x2, x3, x4, x5, x6, x7, x8, x9, x10⟩ := bx11 HZ7.out.nv.x) | ((with_reducible refine bs_here ?_); refine wpList_store1 rfl 23 _ _ rfl gn 6 (.slice ca (strip data).length cc) rfl rfl HZ7.out.n (show 6 < 13 by decide) rfl sizebs ?_; intro W8 hb g; have HZ8 : Hid (Nz w W8 gx gn [.string P, .int .i64 1, .int .i64 mo, .int .i64 uid, .int .i64 gid, .int .i64 ti, .int .i64 sz_, .slice da dl dc, .string tg, .int .i64 dev, .slice aa al ac] [.int .i64 1, .int .i64 mo, .int .i64 uid, .int .i64 gid, .int .i64 ti, .int .i64 sz_, .slice ca (strip data).length cc, .string ⟨#[]⟩, .int .i64 0, .slice as_ an asc, .slice none 0 0, .int .i64 0, .int .i64 0] (.slice as_ an asc) out') := HZ7.out.st hb.out g.out; have HOB8 : Hid (OwnB W8 gx ca (strip data).length cc (strip data)) := ⟨HOB.out.own.kept g.out (.inr (bx_ne HZ7.out.n HOB.out.own (by decide)).symm), HOB.out.byt⟩; clear hb g x0 x1 x2 x3 x4 x5 x6 x7 x8 x9 x10; obtain ⟨y0, y1, y2, y3, y4, y5, y6, y7, y8, y9, y10, y11, y12⟩ := bx13 HZ8.out.n) | ((with_reducible refine node_here ?_); refine wpList_store_bx13 rfl 43 _ _ rfl (gx + 1) [.int .i64 1, .int .i64 mo, .int .i64 uid, .int .i64 gid, .int .i64 ti, .int .i64 sz_, .slice ca (strip data).length cc, .string ⟨#[]⟩, .int .i64 0, .slice as_ an asc, .slice none 0 0, .int .i64 0, .int .i64 0] rfl rfl HZ8.out.nv.z node_size rfl rfl ?_; intro W9 hz9 g9))
   obtain ⟨z0, z1, z2, z3, z4, z5, z6, z7, z8, z9, z10, z11, z12⟩ := bx13 hz9
   have hfin : w.grownBy W9 none := grown_new HZ8.out.nv.gr g9 (by rw [HG0.out]; omega)
   have har : Ar W9 gx (.slice as_ an asc) out' := HZ8.out.ar.bx HZ8.out.nv.z (by decide) (by decide) g9
   refine bodyPost_ret (v := .agg #[.int .i64 1, .int .i64 mo, .int .i64 uid, .int .i64 gid, .int .i64 ti, .int .i64 sz_, .slice ca (strip data).length cc, .string ⟨#[]⟩, .int .i64 0, .slice as_ an asc, .slice none 0 0, .int .i64 0, .int .i64 0]) (by simp [results, Tryz.results66, go_sem, *]) rfl ?_
   refine ⟨⟨1, mo, uid, gid, ti, sz_, ca, (strip data).length, cc, strip data, ⟨#[]⟩, 0, as_, an, asc, out', none, 0, 0, [], 0, 0⟩, rfl, ?_, ?_, ⟨rfl, rfl, rfl⟩, hfin⟩
   ·rw [HG0.out]
    exact ⟨⟨HOB8.out.own.kept g9 (.inr (bx_ne HZ8.out.nv.z HOB8.out.own (by decide)).symm), HOB8.out.byt⟩, har, HT.out.2, World.ownsRow_nil _ _ _ _, rfl⟩
   ·unfold NoV.no EnV.en ndOf
    have e1 := HT.out.1
    unfold srt at e1
    simp [e1, tl_nil]
  rcases hk5 with rfl | hk5
  ·go_wp2_with (first | (go_at_call 99; refine hso.mono ?_; rintro e W5 ⟨rfl, out', ha, hp, hs, hg⟩; have HZ5 : Hid (Nz w W5 gx gn [.string P, .int .i64 2, .int .i64 mo, .int .i64 uid, .int .i64 gid, .int .i64 ti, .int .i64 sz_, .slice da dl dc, .string tg, .int .i64 dev, .slice aa al ac] [.int .i64 2, .int .i64 mo, .int .i64 uid, .int .i64 gid, .int .i64 ti, .int .i64 0, .slice none 0 0, .string ⟨#[]⟩, .int .i64 0, .slice as_ an asc, .slice none 0 0, .int .i64 0, .int .i64 0] (.slice as_ an asc) out') := HW.out.1.sort ha hg; have HT : Hid (out'.map AtV.at = srt (attrs.map AtV.at) ∧ an = out'.length) := xai (by rw [← HW.out.2.1]; exact srt_of_perm HDn.out (hp.map AtV.at) (List.pairwise_map.2 hs)) (by rw [HW.out.2.2, hp.length_eq]); clear ha hp hs hg c9 hso; obtain ⟨x0, x1, x2, x3, x4, x5, x6, x7, x8, x9, x10⟩ := bx11 HZ5.out.nv.x) | ((with_reducible refine int_here ?_); refine wpList_store1 rfl 3 _ _ rfl gn 12 (.int .i64 2) rfl rfl HZ5.out.n (show 12 < 13 by decide) rfl size3 ?_; intro W6 hb g; have HZ6 : Hid (Nz w W6 gx gn [.string P, .int .i64 2, .int .i64 mo, .int .i64 uid, .int .i64 gid, .int .i64 ti, .int .i64 sz_, .slice da dl dc, .string tg, .int .i64 dev, .slice aa al ac] [.int .i64 2, .int .i64 mo, .int .i64 uid, .int .i64 gid, .int .i64 ti, .int .i64 0, .slice none 0 0, .string ⟨#[]⟩, .int .i64 0, .slice as_ an asc, .slice none 0 0, .int .i64 0, .int .i64 2] (.slice as_ an asc) out') := HZ5.out.st hb.out g.out; clear hb g x0 x1 x2 x3 x4 x5 x6 x7 x8 x9 x10; obtain ⟨y0, y1, y2, y3, y4, y5, y6, y7, y8, y9, y10, y11, y12⟩ := bx13 HZ6.out.n) | ((with_reducible refine node_here ?_); refine wpList_store_bx13 rfl 43 _ _ rfl (gx + 1) [.int .i64 2, .int .i64 mo, .int .i64 uid, .int .i64 gid, .int .i64 ti, .int .i64 0, .slice none 0 0, .string ⟨#[]⟩, .int .i64 0, .slice as_ an asc, .slice none 0 0, .int .i64 0, .int .i64 2] rfl rfl HZ6.out.nv.z node_size rfl rfl ?_; intro W9 hz9 g9))
   obtain ⟨z0, z1, z2, z3, z4, z5, z6, z7, z8, z9, z10, z11, z12⟩ := bx13 hz9
   have hfin : w.grownBy W9 none := grown_new HZ6.out.nv.gr g9 (by rw [HG0.out]; omega)
   have har : Ar W9 gx (.slice as_ an asc) out' := HZ6.out.ar.bx HZ6.out.nv.z (by decide) (by decide) g9
   refine bodyPost_ret (v := .agg #[.int .i64 2, .int .i64 mo, .int .i64 uid, .int .i64 gid, .int .i64 ti, .int .i64 0, .slice none 0 0, .string ⟨#[]⟩, .int .i64 0, .slice as_ an asc, .slice none 0 0, .int .i64 0, .int .i64 2]) (by simp [results, Tryz.results66, go_sem, *]) rfl ?_
   refine ⟨⟨2, mo, uid, gid, ti, 0, none, 0, 0, [], ⟨#[]⟩, 0, as_, an, asc, out', none, 0, 0, [], 0, 2⟩, rfl, ?_, ?_, ⟨rfl, rfl, rfl⟩, hfin⟩
   ·rw [HG0.out]
    exact ⟨⟨World.ownsRow_nil _ _ _ _, fun x hx => by cases hx⟩, har, HT.out.2, World.ownsRow_nil _ _ _ _, rfl⟩
   ·unfold NoV.no EnV.en ndOf
    have e1 := HT.out.1
    unfold srt at e1
    simp [e1, tl_nil]
  rcases hk5 with rfl | hk5
  ·have htz := HO.out.2.2.2 rfl
   have hsc := fun W => psclone_any tg W htz
   clear htz
   go_wp2_with (first | (go_at_call 99; refine hso.mono ?_; rintro e W5 ⟨rfl, out', ha, hp, hs, hg⟩; have HZ5 : Hid (Nz w W5 gx gn [.string P, .int .i64 3, .int .i64 mo, .int .i64 uid, .int .i64 gid, .int .i64 ti, .int .i64 sz_, .slice da dl dc, .string tg, .int .i64 dev, .slice aa al ac] [.int .i64 3, .int .i64 mo, .int .i64 uid, .int .i64 gid, .int .i64 ti, .int .i64 0, .slice none 0 0, .string ⟨#[]⟩, .int .i64 0, .slice as_ an asc, .slice none 0 0, .int .i64 0, .int .i64 0] (.slice as_ an asc) out') := HW.out.1.sort ha hg; have HT : Hid (out'.map AtV.at = srt (attrs.map AtV.at) ∧ an = out'.length) := xai (by rw [← HW.out.2.1]; exact srt_of_perm HDn.out (hp.map AtV.at) (List.pairwise_map.2 hs)) (by rw [HW.out.2.2, hp.length_eq]); clear ha hp hs hg c9 hso; obtain ⟨x0, x1, x2, x3, x4, x5, x6, x7, x8, x9, x10⟩ := bx11 HZ5.out.nv.x) | (go_at_call 43; refine (hsc _).mono ?_; rintro e W6 ⟨rfl, g6⟩; have HZ6 : Hid (Nz w W6 gx gn [.string P, .int .i64 3, .int .i64 mo, .int .i64 uid, .int .i64 gid, .int .i64 ti, .int .i64 sz_, .slice da dl dc, .string tg, .int .i64 dev, .slice aa al ac] [.int .i64 3, .int .i64 mo, .int .i64 uid, .int .i64 gid, .int .i64 ti, .int .i64 0, .slice none 0 0, .string ⟨#[]⟩, .int .i64 0, .slice as_ an asc, .slice none 0 0, .int .i64 0, .int .i64 0] (.slice as_ an asc) out') := HZ5.out.kept g6; clear g6 x0 x1 x2 x3 x4 x5 x6 x7 x8 x9 x10; obtain ⟨x0, x1, x2, x3, x4, x5, x6, x7, x8, x9, x10⟩ := bx11 HZ6.out.nv.x) | ((with_reducible refine str_here ?_); refine wpList_store1 rfl 9 _ _ rfl gn 7 (.string tg) rfl rfl HZ6.out.n (show 7 < 13 by decide) rfl size9 ?_; intro W7 hb g; have HZ7 : Hid (Nz w W7 gx gn [.string P, .int .i64 3, .int .i64 mo, .int .i64 uid, .int .i64 gid, .int .i64 ti, .int .i64 sz_, .slice da dl dc, .string tg, .int .i64 dev, .slice aa al ac] [.int .i64 3, .int .i64 mo, .int .i64 uid, .int .i64 gid, .int .i64 ti, .int .i64 0, .slice none 0 0, .string tg, .int .i64 0, .slice as_ an asc, .slice none 0 0, .int .i64 0, .int .i64 0] (.slice as_ an asc) out') := HZ6.out.st hb.out g.out; clear hb g x0 x1 x2 x3 x4 x5 x6 x7 x8 x9 x10; obtain ⟨y0, y1, y2, y3, y4, y5, y6, y7, y8, y9, y10, y11, y12⟩ := bx13 HZ7.out.n) | ((with_reducible refine node_here ?_); refine wpList_store_bx13 rfl 43 _ _ rfl (gx + 1) [.int .i64 3, .int .i64 mo, .int .i64 uid, .int .i64 gid, .int .i64 ti, .int .i64 0, .slice none 0 0, .string tg, .int .i64 0, .slice as_ an asc, .slice none 0 0, .int .i64 0, .int .i64 0] rfl rfl HZ7.out.nv.z node_size rfl rfl ?_; intro W9 hz9 g9))
   obtain ⟨z0, z1, z2, z3, z4, z5, z6, z7, z8, z9, z10, z11, z12⟩ := bx13 hz9
   have hfin : w.grownBy W9 none := grown_new HZ7.out.nv.gr g9 (by rw [HG0.out]; omega)
   have har : Ar W9 gx (.slice as_ an asc) out' := HZ7.out.ar.bx HZ7.out.nv.z (by decide) (by decide) g9
   refine bodyPost_ret (v := .agg #[.int .i64 3, .int .i64 mo, .int .i64 uid, .int .i64 gid, .int .i64 ti, .int .i64 0, .slice none 0 0, .string tg, .int .i64 0, .slice as_ an asc, .slice none 0 0, .int .i64 0, .int .i64 0]) (by simp [results, Tryz.results66, go_sem, *]) rfl ?_
   refine ⟨⟨3, mo, uid, gid, ti, 0, none, 0, 0, [], tg, 0, as_, an, asc, out', none, 0, 0, [], 0, 0⟩, rfl, ?_, ?_, ⟨rfl, rfl, rfl⟩, hfin⟩
   ·rw [HG0.out]
    exact ⟨⟨World.ownsRow_nil _ _ _ _, fun x hx => by cases hx⟩, har, HT.out.2, World.ownsRow_nil _ _ _ _, rfl⟩
   ·unfold NoV.no EnV.en ndOf
    have e1 := HT.out.1
    unfold srt at e1
    simp [e1, tl_nil]
  rcases hk5 with rfl | hk5
  ·go_wp2_with (first | (go_at_call 99; refine hso.mono ?_; rintro e W5 ⟨rfl, out', ha, hp, hs, hg⟩; have HZ5 : Hid (Nz w W5 gx gn [.string P, .int .i64 4, .int .i64 mo, .int .i64 uid, .int .i64 gid, .int .i64 ti, .int .i64 sz_, .slice da dl dc, .string tg, .int .i64 dev, .slice aa al ac] [.int .i64 4, .int .i64 mo, .int .i64 uid, .int .i64 gid, .int .i64 ti, .int .i64 0, .slice none 0 0, .string ⟨#[]⟩, .int .i64 0, .slice as_ an asc, .slice none 0 0, .int .i64 0, .int .i64 0] (.slice as_ an asc) out') := HW.out.1.sort ha hg; have HT : Hid (out'.map AtV.at = srt (attrs.map AtV.at) ∧ an = out'.length) := xai (by rw [← HW.out.2.1]; exact srt_of_perm HDn.out (hp.map AtV.at) (List.pairwise_map.2 hs)) (by rw [HW.out.2.2, hp.length_eq]); clear ha hp hs hg c9 hso; obtain ⟨x0, x1, x2, x3, x4, x5, x6, x7, x8, x9, x10⟩ := bx11 HZ5.out.nv.x) | ((with_reducible refine int_here ?_); refine wpList_store1 rfl 3 _ _ rfl gn 8 (.int .i64 dev) rfl rfl HZ5.out.n (show 8 < 13 by decide) rfl size3 ?_; intro W6 hb g; have HZ6 : Hid (Nz w W6 gx gn [.string P, .int .i64 4, .int .i64 mo, .int .i64 uid, .int .i64 gid, .int .i64 ti, .int .i64 sz_, .slice da dl dc, .string tg, .int .i64 dev, .slice aa al ac] [.int .i64 4, .int .i64 mo, .int .i64 uid, .int .i64 gid, .int .i64 ti, .int .i64 0, .slice none 0 0, .string ⟨#[]⟩, .int .i64 dev, .slice as_ an asc, .slice none 0 0, .int .i64 0, .int .i64 0] (.slice as_ an asc) out') := HZ5.out.st hb.out g.out; clear hb g x0 x1 x2 x3 x4 x5 x6 x7 x8 x9 x10; obtain ⟨y0, y1, y2, y3, y4, y5, y6, y7, y8, y9, y10, y11, y12⟩ := bx13 HZ6.out.n) | ((with_reducible refine node_here ?_); refine wpList_store_bx13 rfl 43 _ _ rfl (gx + 1) [.int .i64 4, .int .i64 mo, .int .i64 uid, .int .i64 gid, .int .i64 ti, .int .i64 0, .slice none 0 0, .string ⟨#[]⟩, .int .i64 dev, .slice as_ an asc, .slice none 0 0, .int .i64 0, .int .i64 0] rfl rfl HZ6.out.nv.z node_size rfl rfl ?_; intro W9 hz9 g9))
   obtain ⟨z0, z1, z2, z3, z4, z5, z6, z7, z8, z9, z10, z11, z12⟩ := bx13 hz9
   have hfin : w.grownBy W9 none := grown_new HZ6.out.nv.gr g9 (by rw [HG0.out]; omega)
   have har : Ar W9 gx (.slice as_ an asc) out' := HZ6.out.ar.bx HZ6.out.nv.z (by decide) (by decide) g9
   refine bodyPost_ret (v := .agg #[.int .i64 4, .int .i64 mo, .int .i64 uid, .int .i64 gid, .int .i64 ti, .int .i64 0, .slice none 0 0, .string ⟨#[]⟩, .int .i64 dev, .slice as_ an asc, .slice none 0 0, .int .i64 0, .int .i64 0]) (by simp [results, Tryz.results66, go_sem, *]) rfl ?_
   refine ⟨⟨4, mo, uid, gid, ti, 0, none, 0, 0, [], ⟨#[]⟩, dev, as_, an, asc, out', none, 0, 0, [], 0, 0⟩, rfl, ?_, ?_, ⟨rfl, rfl, rfl⟩, hfin⟩
   ·rw [HG0.out]
    exact ⟨⟨World.ownsRow_nil _ _ _ _, fun x hx => by cases hx⟩, har, HT.out.2, World.ownsRow_nil _ _ _ _, rfl⟩
   ·unfold NoV.no EnV.en ndOf
    have e1 := HT.out.1
    unfold srt at e1
    simp [e1, tl_nil]
  subst hk5
  go_wp2_with (first | (go_at_call 99; refine hso.mono ?_; rintro e W5 ⟨rfl, out', ha, hp, hs, hg⟩; have HZ5 : Hid (Nz w W5 gx gn [.string P, .int .i64 5, .int .i64 mo, .int .i64 uid, .int .i64 gid, .int .i64 ti, .int .i64 sz_, .slice da dl dc, .string tg, .int .i64 dev, .slice aa al ac] [.int .i64 5, .int .i64 mo, .int .i64 uid, .int .i64 gid, .int .i64 ti, .int .i64 0, .slice none 0 0, .string ⟨#[]⟩, .int .i64 0, .slice as_ an asc, .slice none 0 0, .int .i64 0, .int .i64 0] (.slice as_ an asc) out') := HW.out.1.sort ha hg; have HT : Hid (out'.map AtV.at = srt (attrs.map AtV.at) ∧ an = out'.length) := xai (by rw [← HW.out.2.1]; exact srt_of_perm HDn.out (hp.map AtV.at) (List.pairwise_map.2 hs)) (by rw [HW.out.2.2, hp.length_eq]); clear ha hp hs hg c9 hso; obtain ⟨x0, x1, x2, x3, x4, x5, x6, x7, x8, x9, x10⟩ := bx11 HZ5.out.nv.x) | ((with_reducible refine int_here ?_); refine wpList_store1 rfl 3 _ _ rfl gn 8 (.int .i64 dev) rfl rfl HZ5.out.n (show 8 < 13 by decide) rfl size3 ?_; intro W6 hb g; have HZ6 : Hid (Nz w W6 gx gn [.string P, .int .i64 5, .int .i64 mo, .int .i64 uid, .int .i64 gid, .int .i64 ti, .int .i64 sz_, .slice da dl dc, .string tg, .int .i64 dev, .slice aa al ac] [.int .i64 5, .int .i64 mo, .int .i64 uid, .int .i64 gid, .int .i64 ti, .int .i64 0, .slice none 0 0, .string ⟨#[]⟩, .int .i64 dev, .slice as_ an asc, .slice none 0 0, .int .i64 0, .int .i64 0] (.slice as_ an asc) out') := HZ5.out.st hb.out g.out; clear hb g x0 x1 x2 x3 x4 x5 x6 x7 x8 x9 x10; obtain ⟨y0, y1, y2, y3, y4, y5, y6, y7, y8, y9, y10, y11, y12⟩ := bx13 HZ6.out.n) | ((with_reducible refine node_here ?_); refine wpList_store_bx13 rfl 43 _ _ rfl (gx + 1) [.int .i64 5, .int .i64 mo, .int .i64 uid, .int .i64 gid, .int .i64 ti, .int .i64 0, .slice none 0 0, .string ⟨#[]⟩, .int .i64 dev, .slice as_ an asc, .slice none 0 0, .int .i64 0, .int .i64 0] rfl rfl HZ6.out.nv.z node_size rfl rfl ?_; intro W9 hz9 g9))
  obtain ⟨z0, z1, z2, z3, z4, z5, z6, z7, z8, z9, z10, z11, z12⟩ := bx13 hz9
  have hfin : w.grownBy W9 none := grown_new HZ6.out.nv.gr g9 (by rw [HG0.out]; omega)
  have har : Ar W9 gx (.slice as_ an asc) out' := HZ6.out.ar.bx HZ6.out.nv.z (by decide) (by decide) g9
  refine bodyPost_ret (v := .agg #[.int .i64 5, .int .i64 mo, .int .i64 uid, .int .i64 gid, .int .i64 ti, .int .i64 0, .slice none 0 0, .string ⟨#[]⟩, .int .i64 dev, .slice as_ an asc, .slice none 0 0, .int .i64 0, .int .i64 0]) (by simp [results, Tryz.results66, go_sem, *]) rfl ?_
  refine ⟨⟨5, mo, uid, gid, ti, 0, none, 0, 0, [], ⟨#[]⟩, dev, as_, an, asc, out', none, 0, 0, [], 0, 0⟩, rfl, ?_, ?_, ⟨rfl, rfl, rfl⟩, hfin⟩
  ·rw [HG0.out]
   exact ⟨⟨World.ownsRow_nil _ _ _ _, fun x hx => by cases hx⟩, har, HT.out.2, World.ownsRow_nil _ _ _ _, rfl⟩
  ·unfold NoV.no EnV.en ndOf
   have e1 := HT.out.1
   unfold srt at e1
   simp [e1, tl_nil]
 clear hnext
 refine wp_region_held_drew (S := fun w' => Nv w w' gx [.string P, .int .i64 K, .int .i64 mo, .int .i64 uid, .int .i64 gid, .int .i64 ti, .int .i64 sz_, .slice da dl dc, .string tg, .int .i64 dev, .slice aa al ac]) (by kernel_rfl) (H0.out.kept (drewG0 W1)) (fun hH => ?_)
 clear H0
 generalize W1.drew = WD at *
 refine tk (i := 0) (oi := ⟨some 4, _, _, _, _, _⟩) (v := .pointer (some ⟨gx, 1, none⟩)) rfl (Or.inl ⟨by rfl, fun w hSw => by go_simp⟩) hH ?_
 simp only [Act.put, pu]
 refine tk (i := 1) (oi := ⟨some 5, _, _, _, _, _⟩) (v := .int .i64 K) rfl (Or.inl ⟨by rfl, fun w hSw => by obtain ⟨c0, c1, c2, c3, c4, c5, c6, c7, c8, c9, c10⟩ := bx11 hSw.x; go_simp⟩) hH ?_
 simp only [Act.put, pu]
 refine tk (i := 2) (oi := ⟨some 6, _, _, _, _, _⟩) (v := .pointer (some ⟨gx, 2, none⟩)) rfl (Or.inl ⟨by rfl, fun w hSw => by go_simp⟩) hH ?_
 simp only [Act.put, pu]
 refine tk (i := 3) (oi := ⟨some 7, _, _, _, _, _⟩) (v := .int .i64 mo) rfl (Or.inl ⟨by rfl, fun w hSw => by obtain ⟨c0, c1, c2, c3, c4, c5, c6, c7, c8, c9, c10⟩ := bx11 hSw.x; go_simp⟩) hH ?_
 simp only [Act.put, pu]
 refine tk (i := 4) (oi := ⟨some 8, _, _, _, _, _⟩) (v := .pointer (some ⟨gx, 3, none⟩)) rfl (Or.inl ⟨by rfl, fun w hSw => by go_simp⟩) hH ?_
 simp only [Act.put, pu]
 refine tk (i := 5) (oi := ⟨some 9, _, _, _, _, _⟩) (v := .int .i64 uid) rfl (Or.inl ⟨by rfl, fun w hSw => by obtain ⟨c0, c1, c2, c3, c4, c5, c6, c7, c8, c9, c10⟩ := bx11 hSw.x; go_simp⟩) hH ?_
 simp only [Act.put, pu]
 refine tk (i := 6) (oi := ⟨some 10, _, _, _, _, _⟩) (v := .pointer (some ⟨gx, 4, none⟩)) rfl (Or.inl ⟨by rfl, fun w hSw => by go_simp⟩) hH ?_
 simp only [Act.put, pu]
 refine tk (i := 7) (oi := ⟨some 11, _, _, _, _, _⟩) (v := .int .i64 gid) rfl (Or.inl ⟨by rfl, fun w hSw => by obtain ⟨c0, c1, c2, c3, c4, c5, c6, c7, c8, c9, c10⟩ := bx11 hSw.x; go_simp⟩) hH ?_
 simp only [Act.put, pu]
 refine tk (i := 8) (oi := ⟨some 12, _, _, _, _, _⟩) (v := .pointer (some ⟨gx, 5, none⟩)) rfl (Or.inl ⟨by rfl, fun w hSw => by go_simp⟩) hH ?_
 simp only [Act.put, pu]
 refine tk (i := 9) (oi := ⟨some 13, _, _, _, _, _⟩) (v := .int .i64 ti) rfl (Or.inl ⟨by rfl, fun w hSw => by obtain ⟨c0, c1, c2, c3, c4, c5, c6, c7, c8, c9, c10⟩ := bx11 hSw.x; go_simp⟩) hH ?_
 simp only [Act.put, pu]
 refine tk (i := 10) (oi := ⟨some 14, _, _, _, _, _⟩) (v := .pointer (some ⟨gx, 10, none⟩)) rfl (Or.inl ⟨by rfl, fun w hSw => by go_simp⟩) hH ?_
 simp only [Act.put, pu]
 refine tk (i := 11) (oi := ⟨some 15, _, _, _, _, _⟩) (v := .slice aa al ac) rfl (Or.inl ⟨by rfl, fun w hSw => by obtain ⟨c0, c1, c2, c3, c4, c5, c6, c7, c8, c9, c10⟩ := bx11 hSw.x; go_simp⟩) hH ?_
 simp only [Act.put, pu]
 refine wpAnyH_ready (rs := [12, 14]) (by kernel_rfl) (by simp) ?_
 refine AllReadyH.cons rfl (fun K1 hK => ?_) (AllReadyH.cons rfl (fun K1 hK => ?_) AllReadyH.nil)
 ·skip
  go_simp
  go_wp2_with (go_at_call 45; refine (hat _ hH.gr).mono ?_; rintro e W2 ⟨v2, out, rfl, hcp, hme⟩)
  obtain ⟨as_, asc, rfl⟩ := own_shape hcp.own
  obtain ⟨an, han⟩ : ∃ an, an = out.length := ⟨_, rfl⟩
  rw [← han]
  have har : Ar W2 gx (.slice as_ an asc) out := by have h1 := hcp.ar.low (by have h2 := hH.gr.size; rw [HG0.out] at h2; exact h2); rw [← han] at h1; exact h1
  have HAN : Hid _ := han
  clear han
  replace hH := hH.kept hcp.gr
  clear hcp
  refine hK.out _ _ hH (fun _ => ?_)
  clear hK K1
  refine tk (i := 13) (oi := ⟨some 17, _, _, _, _, _⟩) (v := .agg #[.int .i64 K, .int .i64 mo, .int .i64 uid, .int .i64 gid, .int .i64 ti, .int .i64 0, .slice none 0 0, .string ⟨#[]⟩, .int .i64 0, .slice as_ an asc, .slice none 0 0, .int .i64 0, .int .i64 0]) rfl (Or.inl ⟨by rfl, fun w hSw => by go_simp⟩) hH ?_
  simp only [Act.put, pu]
  refine wpAnyH_ready (rs := [14]) (by kernel_rfl) (by simp) ?_
  refine AllReadyH.cons rfl (fun K1 hK => ?_) AllReadyH.nil
  go_simp
  have gA := xga W2 (.cells #[.int .i64 0, .int .i64 0, .int .i64 0, .int .i64 0, .int .i64 0, .int .i64 0, .slice none 0 0, .string ⟨#[]⟩, .int .i64 0, .slice none 0 0, .slice none 0 0, .int .i64 0, .int .i64 0] 43) none
  have hN := Bx.new W2 43 [.int .i64 0, .int .i64 0, .int .i64 0, .int .i64 0, .int .i64 0, .int .i64 0, .slice none 0 0, .string ⟨#[]⟩, .int .i64 0, .slice none 0 0, .slice none 0 0, .int .i64 0, .int .i64 0]
  have hlt : gx + 1 < W2.heap.size := hH.z.lt
  replace hH := hH.kept gA
  replace har := har.kept gA
  clear gA
  generalize W2.alloc (.cells #[.int .i64 0, .int .i64 0, .int .i64 0, .int .i64 0, .int .i64 0, .int .i64 0, .slice none 0 0, .string ⟨#[]⟩, .int .i64 0, .slice none 0 0, .slice none 0 0, .int .i64 0, .int .i64 0] 43) = W3 at *
  generalize W2.heap.size = gn at *
  refine hK.out _ _ hH (fun _ => ?_)
  clear hK K1
  refine wpAnyH_ready (rs := [15]) (by kernel_rfl) (by simp) ?_
  refine AllReadyH.cons rfl (fun K1 hK => ?_) AllReadyH.nil
  refine step_store_bx (by rfl) 43 _ _ (by rfl) gn [.int .i64 K, .int .i64 mo, .int .i64 uid, .int .i64 gid, .int .i64 ti, .int .i64 0, .slice none 0 0, .string ⟨#[]⟩, .int .i64 0, .slice as_ an asc, .slice none 0 0, .int .i64 0, .int .i64 0] rfl rfl hN node_size rfl rfl ?_
  intro W4 hN4 g4
  have HZ : Nz w W4 gx gn [.string P, .int .i64 K, .int .i64 mo, .int .i64 uid, .int .i64 gid, .int .i64 ti, .int .i64 sz_, .slice da dl dc, .string tg, .int .i64 dev, .slice aa al ac] [.int .i64 K, .int .i64 mo, .int .i64 uid, .int .i64 gid, .int .i64 ti, .int .i64 0, .slice none 0 0, .string ⟨#[]⟩, .int .i64 0, .slice as_ an asc, .slice none 0 0, .int .i64 0, .int .i64 0] (.slice as_ an asc) out := ⟨hH.but g4 hlt, hN4, hlt, har.bx hN (by decide) (by decide) g4⟩
  refine hK.out _ _ HZ.nv (fun _ => ?_)
  clear hK K1
  refine wpAnyH_done (by kernel_rfl) ?_ _
  exact tail _ _ _ _ _ _ ⟨HZ, hme, HAN.out⟩
 ·skip
  go_simp
  have gA := xga WD (.cells #[.int .i64 0, .int .i64 0, .int .i64 0, .int .i64 0, .int .i64 0, .int .i64 0, .slice none 0 0, .string ⟨#[]⟩, .int .i64 0, .slice none 0 0, .slice none 0 0, .int .i64 0, .int .i64 0] 43) none
  have hN := Bx.new WD 43 [.int .i64 0, .int .i64 0, .int .i64 0, .int .i64 0, .int .i64 0, .int .i64 0, .slice none 0 0, .string ⟨#[]⟩, .int .i64 0, .slice none 0 0, .slice none 0 0, .int .i64 0, .int .i64 0]
  have hlt : gx + 1 < WD.heap.size := hH.z.lt
  replace hH := hH.kept gA
  clear gA
  generalize WD.alloc (.cells #[.int .i64 0, .int .i64 0, .int .i64 0, .int .i64 0, .int .i64 0, .int .i64 0, .slice none 0 0, .string ⟨#[]⟩, .int .i64 0, .slice none 0 0, .slice none 0 0, .int .i64 0, .int .i64 0] 43) = W3 at *
  generalize WD.heap.size = gn at *
  refine hK.out _ _ hH (fun _ => ?_)
  clear hK K1
  refine wpAnyH_ready (rs := [12]) (by kernel_rfl) (by simp) ?_
  refine AllReadyH.cons rfl (fun K1 hK => ?_) AllReadyH.nil
  go_simp
  go_wp2_with (go_at_call 45; refine (hat _ hH.gr).mono ?_; rintro e W2 ⟨v2, out, rfl, hcp, hme⟩)
  obtain ⟨as_, asc, rfl⟩ := own_shape hcp.own
  obtain ⟨an, han⟩ : ∃ an, an = out.length := ⟨_, rfl⟩
  rw [← han]
  have har : Ar W2 gx (.slice as_ an asc) out := by have h1 := hcp.ar.low (by have h2 := hH.gr.size; rw [HG0.out] at h2; exact h2); rw [← han] at h1; exact h1
  have HAN : Hid _ := han
  clear han
  replace hN := hN.kept hcp.gr
  replace hH := hH.kept hcp.gr
  clear hcp
  refine hK.out _ _ hH (fun _ => ?_)
  clear hK K1
  refine tk (i := 13) (oi := ⟨some 17, _, _, _, _, _⟩) (v := .agg #[.int .i64 K, .int .i64 mo, .int .i64 uid, .int .i64 gid, .int .i64 ti, .int .i64 0, .slice none 0 0, .string ⟨#[]⟩, .int .i64 0, .slice as_ an asc, .slice none 0 0, .int .i64 0, .int .i64 0]) rfl (Or.inl ⟨by rfl, fun w hSw => by go_simp⟩) hH ?_
  simp only [Act.put, pu]
  refine wpAnyH_ready (rs := [15]) (by kernel_rfl) (by simp) ?_
  refine AllReadyH.cons rfl (fun K1 hK => ?_) AllReadyH.nil
  refine step_store_bx (by rfl) 43 _ _ (by rfl) gn [.int .i64 K, .int .i64 mo, .int .i64 uid, .int .i64 gid, .int .i64 ti, .int .i64 0, .slice none 0 0, .string ⟨#[]⟩, .int .i64 0, .slice as_ an asc, .slice none 0 0, .int .i64 0, .int .i64 0] rfl rfl hN node_size rfl rfl ?_
  intro W4 hN4 g4
  have HZ : Nz w W4 gx gn [.string P, .int .i64 K, .int .i64 mo, .int .i64 uid, .int .i64 gid, .int .i64 ti, .int .i64 sz_, .slice da dl dc, .string tg, .int .i64 dev, .slice aa al ac] [.int .i64 K, .int .i64 mo, .int .i64 uid, .int .i64 gid, .int .i64 ti, .int .i64 0, .slice none 0 0, .string ⟨#[]⟩, .int .i64 0, .slice as_ an asc, .slice none 0 0, .int .i64 0, .int .i64 0] (.slice as_ an asc) out := ⟨hH.but g4 hlt, hN4, hlt, har.bx hN (by decide) (by decide) g4⟩
  refine hK.out _ _ HZ.nv (fun _ => ?_)
  clear hK K1
  refine wpAnyH_done (by kernel_rfl) ?_ _
  exact tail _ _ _ _ _ _ ⟨HZ, hme, HAN.out⟩
theorem Pk.kept {W W' : World} {base : Nat} {X : NoV} (h : Pk W base X) (g : W.grownBy W' none) : Pk W' base X := ⟨h.row.kept g, h.ar.kept g, h.len, owns_kept11 h.kid g, h.klen⟩
theorem Pk.other {W W' : World} {base b e s n : Nat} {X : NoV} {u : Value} {ys : List Value} (h : Pk W base X) (ho : W.ownsRow b e s u n ys) (h1 : 45 ≠ e) (h2 : 5 ≠ e) (h3 : X.kv.ownBlock = none ∨ X.kv.ownBlock ≠ u.ownBlock) (g : W.grownBy W' u.ownBlock) : Pk W' base X :=
 ⟨h.row.other ho h2 g, h.ar.other ho h1 h2 g, h.len, h.kid.kept g h3, h.klen⟩
theorem Pk.low {W : World} {base b : Nat} {X : NoV} (h : Pk W base X) (hb : b ≤ base) : Pk W b X := ⟨h.row.low hb, h.ar.low hb, h.len, owns_low11 h.kid hb, h.klen⟩
theorem Pk.ok {W : World} {base : Nat} {X : NoV} (h : Pk W base X) : X.ok W := by
 have ho := h.ar.own
 rw [← h.len] at ho
 obtain ⟨a, c, e, hats, -, -⟩ := own_ats ho h.len (fun A hA => ⟨(h.ar.rows A hA).row, (h.ar.rows A hA).cap⟩)
 injection e with e1 e2 e3
 subst e1
 exact ⟨h.row.row, hats, own_kds h.kid h.klen⟩
structure Tq (w W : World) (base : Nat) (v : Value) (l : List NoV) : Prop where
 gr : w.grownBy W none
 low : w.heap.size ≤ base
 own : W.ownsRow base 43 13 v l.length (l.flatMap nvc)
 each : ∀ (i : Nat) (X : NoV), l[i]? = some X → Pk W base X
 apart : ∀ (i j : Nat) (X Y : NoV), l[i]? = some X → l[j]? = some Y → i ≠ j → ∀ b, X.kv.ownBlock = some b → Y.kv.ownBlock = some b → False
theorem Tq.kept {w W W' : World} {base : Nat} {v : Value} {l : List NoV} (h : Tq w W base v l) (g : W.grownBy W' none) : Tq w W' base v l :=
 ⟨xgt h.gr g, h.low, owns_kept11 h.own g, fun i X hX => (h.each i X hX).kept g, h.apart⟩
theorem Tq.other {w W W' : World} {base b e s n : Nat} {v u : Value} {l : List NoV} {xs : List Value} (h : Tq w W base v l) (ho : W.ownsRow b e s u n xs) (hb : w.heap.size ≤ b) (hN : 43 ≠ e) (hA : 45 ≠ e) (hK : 47 ≠ e) (h5 : 5 ≠ e) (g : W.grownBy W' u.ownBlock) : Tq w W' base v l :=
 ⟨grown_ownB h.gr ho g hb, h.low, h.own.kept g (owns_ne h.own ho hN), fun i X hX => (h.each i X hX).other ho hA h5 (owns_ne (h.each i X hX).kid ho hK) g, h.apart⟩
theorem Tq.form {w W : World} {base : Nat} {v : Value} {l : List NoV} (h : Tq w W base v l) (h0 : l ≠ []) : ∃ g c, v = .slice (some ⟨g, 0, none⟩) l.length c ∧ base ≤ g ∧ l.length ≤ c ∧ c ≤ maxLen ∧ W.heap.size > g := by
 rcases h.own.2 with ⟨rfl, h1⟩ | ⟨g, c, cur, rfl, hg, hh, hc, hm, _⟩
 ·exact absurd (List.eq_nil_of_length_eq_zero h1) h0
 ·exact ⟨g, c, rfl, hg, hc, hm, (Array.getElem?_eq_some_iff.1 hh).1⟩
theorem Tq.cell {w W : World} {base g c n : Nat} {l : List NoV} (h : Tq w W base (.slice (some ⟨g, 0, none⟩) n c) l) (hn : l.length = n) {i f : Nat} {X : NoV} (hX : l[i]? = some X) (hf : f < 13) : W.cell? ⟨g, i * 13 + f, none⟩ = (nvc X)[f]? := by
 have hi : i < l.length := (List.getElem?_eq_some_iff.1 hX).1
 have ho := h.own
 rw [← hn] at ho
 rw [ho.cellAt (i * 13 + f) (by omega), flat_at nvc 13 nvc_len l i f X hX hf]
theorem Tq.froz {w W : World} {base g c n : Nat} {l : List NoV} (h : Tq w W base (.slice (some ⟨g, 0, none⟩) n c) l) (hn : l.length = n) (j : Nat) : W.frozen? ⟨g, j, none⟩ = false := by
 have ho := h.own
 rw [← hn] at ho
 exact ho.frozenAt j
theorem Tq.set {w W : World} {base g c n : Nat} {l : List NoV} (h : Tq w W base (.slice (some ⟨g, 0, none⟩) n c) l) (hn : l.length = n) {i f : Nat} {X X' : NoV} {u : Value} (hX : l[i]? = some X) (hf : f < 13) (e : nvc X' = (nvc X).set f u)
  (hk : X'.da = X.da ∧ X'.dl = X.dl ∧ X'.dc = X.dc ∧ X'.data = X.data ∧ X'.aa = X.aa ∧ X'.al = X.al ∧ X'.ac = X.ac ∧ X'.attrs = X.attrs ∧ X'.ka = X.ka ∧ X'.kl = X.kl ∧ X'.kc = X.kc ∧ X'.kids = X.kids) :
  Tq w (W.setCell ⟨g, i * 13 + f, none⟩ u) base (.slice (some ⟨g, 0, none⟩) n c) (l.set i X') := by
 have ho := h.own
 rw [hn] at ho
 obtain ⟨h1, h2⟩ := ho.stored (i * 13 + f) u
 rw [flat_set nvc 13 nvc_len u l i f X X' hX hf e] at h1
 obtain ⟨k1, k2, k3, k4, k5, k6, k7, k8, k9, k10, k11, k12⟩ := hk
 have hsame : X'.kv = X.kv := by unfold NoV.kv; rw [k9, k10, k11]
 have hnk : ∀ (j : Nat) (Y : NoV), l[j]? = some Y → Pk (W.setCell ⟨g, i * 13 + f, none⟩ u) base Y := fun j Y hY =>
  (h.each j Y hY).other h.own (by decide) (by decide) (owns_ne (h.each j Y hY).kid h.own (by decide)) h2
 refine ⟨grown_ownB h.gr h.own h2 h.low, h.low, by rw [List.length_set, hn]; exact h1, fun j Y hY => ?_, fun a b A B hA hB hab k hA2 hB2 => ?_⟩
 ·rcases get_set hY with ⟨rfl, rfl⟩ | ⟨_, hY⟩
  ·have := hnk j X hX
   exact ⟨by rw [k1, k2, k3, k4]; exact this.row, by rw [k5, k6, k7, k8]; exact this.ar, by rw [k6, k8]; exact this.len, by rw [k9, k10, k11, k12]; exact this.kid, by rw [k10, k12]; exact this.klen⟩
  ·exact hnk j Y hY
 ·rcases get_set hA with ⟨ea, eA⟩ | ⟨ha, hA'⟩
  ·rcases get_set hB with ⟨eb, eB⟩ | ⟨hb, hB'⟩
   ·omega
   ·rw [ea] at hab
    exact h.apart i b X B hX hB' hab k (by rw [← hsame, ← eA]; exact hA2) hB2
  ·rcases get_set hB with ⟨eb, eB⟩ | ⟨hb, hB'⟩
   ·rw [eb] at hab
    exact h.apart a i A X hA' hX hab k hA2 (by rw [← hsame, ← eB]; exact hB2)
   ·exact h.apart a b A B hA' hB' hab k hA2 hB2
theorem Tq.add {w W W' : World} {base : Nat} {v v' : Value} {l : List NoV} {N : NoV} (h : Tq w W base v l) (hN : Pk W base N) (hk : N.ka = none) (hown : W'.ownsRow base 43 13 v' (l.length + 1) (l.flatMap nvc ++ nvc N)) (g : W.grownBy W' v.ownBlock) : Tq w W' base v' (l ++ [N]) := by
 have hkv : N.kv.ownBlock = none := by unfold NoV.kv; rw [hk]; rfl
 have hnk : ∀ (Y : NoV), Pk W base Y → Pk W' base Y := fun Y hY => hY.other h.own (by decide) (by decide) (owns_ne hY.kid h.own (by decide)) g
 have hget : ∀ (j : Nat) (Y : NoV), (l ++ [N])[j]? = some Y → l[j]? = some Y ∨ (j = l.length ∧ Y = N) := fun j Y hY => by
  rcases Nat.lt_or_ge j l.length with hj | hj
  ·left; rwa [List.getElem?_append_left hj] at hY
  ·right
   rw [List.getElem?_append_right hj] at hY
   cases hjj : j - l.length with
   | zero => rw [hjj] at hY; simp at hY; exact ⟨by omega, hY.symm⟩
   | succ q => rw [hjj] at hY; simp at hY
 refine ⟨grown_ownB h.gr h.own g h.low, h.low, by rw [List.length_append, List.flatMap_append]; simpa using hown, fun j Y hY => ?_, fun a b A B hA hB hab k hA2 hB2 => ?_⟩
 ·rcases hget j Y hY with hY | ⟨_, rfl⟩
  ·exact hnk Y (h.each j Y hY)
  ·exact hnk Y hN
 ·rcases hget a A hA with hA | ⟨ha, rfl⟩
  ·rcases hget b B hB with hB | ⟨hb, rfl⟩
   ·exact h.apart a b A B hA hB hab k hA2 hB2
   ·rw [hkv] at hB2; cases hB2
  ·rw [hkv] at hA2; cases hA2
theorem Tq.kid {w W W1 : World} {base g c n : Nat} {l : List NoV} (h : Tq w W base (.slice (some ⟨g, 0, none⟩) n c) l) (hn : l.length = n) {i : Nat} {X : NoV} (hX : l[i]? = some X) {K : Kd} {ka : Option Addr} {kl kc : Nat}
  (hown : W1.ownsRow base 47 2 (.slice ka kl kc) (X.kl + 1) (X.kids.flatMap kdc ++ kdc K)) (hkl : kl = X.kl + 1) (g1 : W.grownBy W1 X.kv.ownBlock) (hat : (Value.slice ka kl kc).ownBlock = X.kv.ownBlock ∨ (∃ q, (Value.slice ka kl kc).ownBlock = some q ∧ W.heap.size ≤ q)) :
  Tq w (W1.setCell ⟨g, i * 13 + 10, none⟩ (.slice ka kl kc)) base (.slice (some ⟨g, 0, none⟩) n c) (l.set i { X with ka := ka, kl := kl, kc := kc, kids := X.kids ++ [K] }) := by
 have hkX := (h.each i X hX).kid
 have hno : W1.ownsRow base 43 13 (.slice (some ⟨g, 0, none⟩) n c) n (l.flatMap nvc) := by
  have := h.own.kept g1 (owns_ne h.own hkX (by decide))
  rwa [hn] at this
 have hro1 : ∀ (j : Nat) (Y : NoV), l[j]? = some Y → OwnB W1 base Y.da Y.dl Y.dc Y.data := fun j Y hY => (h.each j Y hY).row.other hkX (by decide) g1
 have har1 : ∀ (j : Nat) (Y : NoV), l[j]? = some Y → Ar W1 base (.slice Y.aa Y.al Y.ac) Y.attrs := fun j Y hY => (h.each j Y hY).ar.other hkX (by decide) (by decide) g1
 have hkd1 : ∀ (j : Nat) (Y : NoV), l[j]? = some Y → j ≠ i → W1.ownsRow base 47 2 (.slice Y.ka Y.kl Y.kc) Y.kl (Y.kids.flatMap kdc) := fun j Y hY hji => (h.each j Y hY).kid.kept g1 (by
  show Y.kv.ownBlock = none ∨ Y.kv.ownBlock ≠ X.kv.ownBlock
  cases hb : Y.kv.ownBlock with
  | none => exact .inl rfl
  | some b => exact .inr fun e => h.apart j i Y X hY hX hji b hb e.symm)
 obtain ⟨s1, s2⟩ := hno.stored (i * 13 + 10) (.slice ka kl kc)
 rw [flat_set nvc 13 nvc_len (.slice ka kl kc) l i 10 X { X with ka := ka, kl := kl, kc := kc, kids := X.kids ++ [K] } hX (by decide) rfl] at s1
 have hgr1 : w.grownBy W1 none := grown_ownB h.gr hkX g1 h.low
 refine ⟨grown_ownB hgr1 hno s2 h.low, h.low, by rw [List.length_set, hn]; exact s1, fun j Y hY => ?_, fun a b A B hA hB hab k hA2 hB2 => ?_⟩
 ·rcases get_set hY with ⟨rfl, rfl⟩ | ⟨hji, hY'⟩
  ·have hx := h.each j X hX
   refine ⟨(hro1 j X hX).other hno (by decide) s2, (har1 j X hX).other hno (by decide) (by decide) s2, hx.len, ?_, ?_⟩
   ·show World.ownsRow _ base 47 2 (.slice ka kl kc) kl ((X.kids ++ [K]).flatMap kdc)
    have e : (X.kids ++ [K]).flatMap kdc = X.kids.flatMap kdc ++ kdc K := by rw [List.flatMap_append]; simp
    rw [e]
    have hown2 : W1.ownsRow base 47 2 (.slice ka kl kc) kl (X.kids.flatMap kdc ++ kdc K) := by rw [hkl] at hown ⊢; exact hown
    exact hown2.kept s2 (owns_ne hown2 hno (by decide))
   ·show kl = (X.kids ++ [K]).length
    rw [hkl, List.length_append, hx.klen]; rfl
  ·have hy := h.each j Y hY'
   exact ⟨(hro1 j Y hY').other hno (by decide) s2, (har1 j Y hY').other hno (by decide) (by decide) s2, hy.len, (hkd1 j Y hY' hji).kept s2 (owns_ne (hkd1 j Y hY' hji) hno (by decide)), hy.klen⟩
 ·have hnew : ∀ (j : Nat) (Y : NoV), l[j]? = some Y → j ≠ i → ∀ b, (Value.slice ka kl kc).ownBlock = some b → Y.kv.ownBlock = some b → False := fun j Y hY hji b hb hy => by
   rcases hat with e | ⟨q, e, hq⟩
   ·exact h.apart j i Y X hY hX hji b hy (by rw [← e]; exact hb)
   ·rw [e] at hb
    injection hb with hb
    have := ((h.each j Y hY).kid.lt b hy).2
    omega
  rcases get_set hA with ⟨ea, eA⟩ | ⟨ha, hA'⟩
  ·rcases get_set hB with ⟨eb, eB⟩ | ⟨hb, hB'⟩
   ·omega
   ·exact hnew b B hB' hb k (by rw [eA] at hA2; exact hA2) hB2
  ·rcases get_set hB with ⟨eb, eB⟩ | ⟨hb, hB'⟩
   ·exact hnew a A hA' ha k (by rw [eB] at hB2; exact hB2) hA2
   ·exact h.apart a b A B hA' hB' hab k hA2 hB2
theorem Tq.nos {w W : World} {base n c : Nat} {a : Option Addr} {l : List NoV} (h : Tq w W base (.slice a n c) l) (hn : l.length = n) : Nos W a n l := by
 have ho := h.own
 rw [hn] at ho
 rcases ho.2 with ⟨e, h0⟩ | ⟨g, cap, cur, e, hg, hh, hc, hm, hs, ht⟩
 ·exact ⟨hn, by omega, fun h => by omega⟩
 ·injection e with e1 e2 e3
  subst e1 e3
  refine ⟨hn, Nat.le_trans hc hm, fun _ => ⟨g, 0, rfl, fun i X hX => ?_⟩⟩
  have k := fun f (hf : f < 13) => h.cell hn hX hf
  rw [Nat.zero_add]
  exact ⟨k 0 (by decide), k 1 (by decide), k 2 (by decide), k 3 (by decide), k 4 (by decide), k 5 (by decide), k 6 (by decide), k 7 (by decide), k 8 (by decide), k 9 (by decide), k 10 (by decide), k 11 (by decide), k 12 (by decide), (h.each i X hX).ok⟩
end Go.Proofs.YtlehncfehoelbaaGreatDoor
