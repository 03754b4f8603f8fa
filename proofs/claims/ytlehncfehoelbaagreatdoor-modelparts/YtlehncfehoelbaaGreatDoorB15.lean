/- The program's tree: attributes sorted by their names. A cell of a variable is stored. The program's tree: an entry's node. -/
import Derived.Shelf.SlSortCmp.NoneTotal
import Derived.Test.YtlehncfehoelbaaGreatDoorB14
namespace Go.Proofs.YtlehncfehoelbaaGreatDoor
open Go.RowKit Go.Shelf Go.Sort
set_option maxRecDepth 100000
set_option linter.unusedSimpArgs false
set_option linter.unusedVariables false
theorem pnode1_any (X Y : AtV) (W : World) : Calls Tryz.prog 100 #[.agg (avc X).toArray, .agg (avc Y).toArray] W fun e w' => e = .returned (.int .i64 (ctx X.n.toList Y.n.toList)) ∧ ∃ q os', w' = grow (W.drewN q) os' := by
 obtain ⟨xn, xa, xl, xc, xv⟩ := X
 obtain ⟨yn, ya, yl, yc, yv⟩ := Y
 simp only [avc]
 have hcon := fun W' => scompare_any xn yn W'
 generalize ctx xn.toList yn.toList = r at *
 go_enter Tryz.func100, Tryz.ntmps100
 go_wp2_with (go_at_call 101; refine (hcon _).mono ?_; rintro e w' ⟨rfl, rfl⟩)
 go_ret
 exact ⟨rfl, 0, _, by rw [alloc_eq_grow, alloc_eq_grow, grow_grow]; rfl⟩
theorem swo_ctx : SWO (ltOf fun x y : AtV => ctx x.n.toList y.n.toList) where
 irrefl x := decide_eq_false (by show ¬ ctx x.n.toList x.n.toList < 0; rw [ctx_self]; decide)
 trans x y z h1 h2 := by
  unfold ltOf at *
  rw [decide_eq_true_iff] at *
  rw [ctx_neg] at *
  exact ctx_trans h1 h2
 ntrans x y z h1 h2 := by
  unfold ltOf at *
  rw [decide_eq_false_iff_not] at *
  rw [ctx_neg] at *
  intro h3
  rcases ctx_val x.n.toList y.n.toList with e | e | e
  ·exact h1 e
  ·rw [ctx_eq e] at h3; exact h2 h3
  ·have e1 : ctx y.n.toList x.n.toList = -1 := by rw [ctx_flip, e]
   exact h2 (ctx_trans e1 h3)
/-- attributes in rows of their own -/
structure Ar (W : World) (base : Nat) (v : Value) (out : List AtV) : Prop where
 own : W.ownsRow base 45 2 v out.length (out.flatMap avc)
 rows : ∀ A ∈ out, OwnB W base A.a A.len A.cap A.v
theorem Ar.kept {W W' : World} {base : Nat} {v : Value} {out : List AtV} (h : Ar W base v out) (g : W.grownBy W' none) : Ar W' base v out := ⟨owns_kept11 h.own g, fun A hA => (h.rows A hA).kept g⟩
/-- a row of another type is written, or grows -/
theorem Ar.other {W W' : World} {base b e s n : Nat} {v u : Value} {out : List AtV} {ys : List Value} (h : Ar W base v out) (ho : W.ownsRow b e s u n ys) (h1 : 45 ≠ e) (h2 : 5 ≠ e) (g : W.grownBy W' u.ownBlock) : Ar W' base v out := ⟨h.own.kept g (owns_ne h.own ho h1), fun A hA => (h.rows A hA).other ho h2 g⟩
theorem Ar.low {W : World} {base b : Nat} {v : Value} {out : List AtV} (h : Ar W base v out) (hb : b ≤ base) : Ar W b v out := ⟨owns_low11 h.own hb, fun A hA => (h.rows A hA).low hb⟩
/-- a variable of another type is written -/
theorem Ar.bx {W W' : World} {base g T : Nat} {cs : List Value} {v : Value} {out : List AtV} (h : Ar W base v out) (hb : Bx W g T cs) (h1 : T ≠ 45) (h2 : T ≠ 5) (k : W.grownBy W' (some g)) : Ar W' base v out :=
 ⟨h.own.kept k (.inr (bx_ne hb h.own h1).symm), fun A hA => ⟨(h.rows A hA).own.kept k (.inr (bx_ne hb (h.rows A hA).own h2).symm), (h.rows A hA).byt⟩⟩
theorem Cp.ar {w W : World} {v : Value} {out : List AtV} (h : Cp w W v out) : Ar W w.heap.size v out := ⟨h.own, h.rows⟩
/-- what the sort leaves -/
def SoPost (W : World) (base : Nat) (v : Value) (out : List AtV) (e : Ending) (W' : World) : Prop := e = .returned (.tuple #[]) ∧ ∃ out', Ar W' base v out' ∧ out'.Perm out ∧ (out'.Pairwise fun x y => ¬ ctx y.n.toList x.n.toList < 0) ∧ W.grownBy W' v.ownBlock
theorem psorta_any (W : World) (base : Nat) (v : Value) (out : List AtV) (hC : Ar W base v out) (hn : out.length ≤ 100000) : Calls Tryz.prog 99 #[v, .func (.func 100) #[] #[]] W (SoPost W base v out) := by
 rcases hC.own.2 with ⟨rfl, h0⟩ | ⟨g, cap, cur, rfl, hg, hh, hc, hm, hs, ht⟩
 ·obtain rfl : out = [] := List.eq_nil_of_length_eq_zero h0
  have h := AnyF.slices_SortFunc_none laysA none 0 (.func (.func 100) #[] #[]) W
  change Calls Tryz.prog 99 _ _ _ at h
  refine h.mono ?_
  rintro e w' ⟨rfl, rfl⟩
  exact ⟨rfl, [], hC, List.Perm.refl _, List.Pairwise.nil, World.grownBy.refl _ _⟩
 ·haveI : Inhabited AtV := ⟨⟨⟨#[]⟩, none, 0, 0, []⟩⟩
  have eg : ∀ args w, (callFunc 100 args).run Tryz.prog w = .ok (.enter 100 args) w := enters_of Tryz.func100 (by kernel_rfl) rfl
  have hown := hC.own
  have hsz : out.toArray.size = out.length := by simp
  have hH : HoldsK avc 2 W g 0 out.toArray := holdsK_own (k := 2) (enc := avc) (fun _ => rfl) (by decide) (d := out.toArray) (by simpa using hown)
  have hcon := AnyQ.slices_SortFunc laysA 2 (fun w => by kernel_rfl) (fun w => by kernel_rfl) avc (fun _ => rfl) (fun x v hv => by simp [avc] at hv; rcases hv with rfl | rfl <;> rfl) (fun x y => ctx x.n.toList y.n.toList) swo_ctx 100 #[] g 0 cap out.toArray W eg (fun _ _ _ _ x y => pnode1_any x y _) hH (Array.getElem?_eq_some_iff.1 hh).1 (by rw [hsz]; omega)
  rw [hsz] at hcon
  change Calls Tryz.prog 99 _ _ _ at hcon
  refine hcon.mono ?_
  rintro e w' ⟨rfl, d', n, os, hp, hst, rfl⟩
  rw [← hsz] at hp hst
  have hd : d'.size = out.toArray.size := hp.1
  have hpl : d'.toList.Perm out := by have := perm_list hp; simpa using this
  have hl : d'.toList.length = out.length := hpl.length_eq
  have hgr : W.grownBy (sortWorldK avc 2 W g 0 n d' os) (some g) := sortedK_grown d'
  refine ⟨rfl, d'.toList, ⟨?_, fun A hA => (hC.rows A (hpl.mem_iff.1 hA)).other hC.own (by decide) hgr⟩, hpl, ?_, hgr⟩
  ·rw [hl]
   exact sortedK_own (k := 2) (enc := avc) (fun _ => rfl) (by decide) (d := out.toArray) (by simpa using hown) hd
  ·refine (sorted_list hst hd).imp ?_
   intro x y h
   unfold ltOf at h
   exact of_decide_eq_false h
end Go.Proofs.YtlehncfehoelbaaGreatDoor
namespace Go.Proofs.YtlehncfehoelbaaGreatDoor
open Go.RowKit
set_option maxRecDepth 100000
set_option linter.unusedSimpArgs false
set_option linter.unusedVariables false
/-- a number, a text, a list -/
def plV : Value → Bool
 | .int _ _ => true
 | .string _ => true
 | .slice _ _ _ => true
 | _ => false
theorem wpList_store1 {P : Program} {ops : Array Oper} {rest : List Oper} {o : Oper} {a : Act} {w : World} {Q : Exit → Act → World → Prop} (hgd : o.guard = none) (ty : TypeId) (x y : Operand) (ho : o.op = .store ty x y)
  (g i : Nat) (v : Value) (hx : a.eval x = .pointer (some ⟨g, i, none⟩)) (hy : a.eval y = v) {T : TypeId} {old : List Value} (hb : Bx w g T old) (hi : i < old.length) (h1 : plV v = true) (hs : ∀ w, (Go.sizeOf ty).run P w = .ok 1 w)
  (h : ∀ W', Hid (Bx W' g T (old.set i v)) → Hid (w.grownBy W' (some g)) → wpList P ops Q rest (a.put o.dst undef) W') : wpList P ops Q (o :: rest) a w := by
 refine wpList_plain hgd fun K hK => ?_
 have c := hb.c i
 rw [List.getElem?_eq_getElem hi] at c
 have f := hb.f i
 unfold Oper.wp
 simp only [execOp, ho, hx, hy]
 cases v <;> first
  | (simp [plV] at h1; done)
  | (simp [hs, c, f, go_sem, Result.andThen]
     exact hK _ _ (h _ (hb.set i _) (grown_set _ _ _ _)))
/-- what a node's rows are: all of them of its own -/
structure Pk (W : World) (base : Nat) (X : NoV) : Prop where
 row : OwnB W base X.da X.dl X.dc X.data
 ar : Ar W base (.slice X.aa X.al X.ac) X.attrs
 len : X.al = X.attrs.length
 kid : W.ownsRow base 47 2 (.slice X.ka X.kl X.kc) X.kl (X.kids.flatMap kdc)
 klen : X.kl = X.kids.length
/-- node's variables -/
structure Nz (w W : World) (gx gn : Nat) (xc nc : List Value) (v : Value) (out : List AtV) : Prop where
 nv : Nv w W gx xc
 n : Bx W gn 43 nc
 lt : gx + 1 < gn
 ar : Ar W gx v out
theorem Nz.kept {w W W' : World} {gx gn : Nat} {xc nc : List Value} {v : Value} {out : List AtV} (h : Nz w W gx gn xc nc v out) (k : W.grownBy W' none) : Nz w W' gx gn xc nc v out := ⟨h.nv.kept k, h.n.kept k, h.lt, h.ar.kept k⟩
theorem Nz.st {w W W' : World} {gx gn : Nat} {xc nc nc' : List Value} {v : Value} {out : List AtV} (h : Nz w W gx gn xc nc v out) (hb : Bx W' gn 43 nc') (g : W.grownBy W' (some gn)) : Nz w W' gx gn xc nc' v out := ⟨h.nv.but g h.lt, hb, h.lt, h.ar.bx h.n (by decide) (by decide) g⟩
theorem Nv.row {w W W' : World} {gx b n s : Nat} {xc : List Value} {v : Value} {xs : List Value} (h : Nv w W gx xc) (ho : W.ownsRow b 45 s v n xs) (hb : w.heap.size ≤ b) (g : W.grownBy W' v.ownBlock) : Nv w W' gx xc := ⟨h.x.but g (bx_ne h.x ho (by decide)), h.z.but g (bx_ne h.z ho (by decide)), grown_ownB h.gr ho g hb, h.sz⟩
/-- the attributes are sorted -/
theorem Nz.sort {w W W' : World} {gx gn : Nat} {xc nc : List Value} {v : Value} {out out' : List AtV} (h : Nz w W gx gn xc nc v out) (ha : Ar W' gx v out') (g : W.grownBy W' v.ownBlock) : Nz w W' gx gn xc nc v out' := ⟨h.nv.row h.ar.own (by have := h.nv.sz; omega) g, h.n.but g (bx_ne h.n h.ar.own (by decide)), h.lt, ha⟩
theorem int_here {P : Program} {w : World} {ops : Array Oper} {rest : List Oper} {a : Act} {Q : Exit → Act → World → Prop} {dst : Option Nat} {x y : Operand} {type : TypeId} {pos : String} {after : Array Edge} {guard : Option (Nat × Bool)}
  (h : wpList P ops Q (⟨dst, .store 3 x y, type, pos, after, guard⟩ :: rest) a w) : wpList P ops Q (⟨dst, .store 3 x y, type, pos, after, guard⟩ :: rest) a w := h
theorem str_here {P : Program} {w : World} {ops : Array Oper} {rest : List Oper} {a : Act} {Q : Exit → Act → World → Prop} {dst : Option Nat} {x y : Operand} {type : TypeId} {pos : String} {after : Array Edge} {guard : Option (Nat × Bool)}
  (h : wpList P ops Q (⟨dst, .store 9 x y, type, pos, after, guard⟩ :: rest) a w) : wpList P ops Q (⟨dst, .store 9 x y, type, pos, after, guard⟩ :: rest) a w := h
theorem bs_here {P : Program} {w : World} {ops : Array Oper} {rest : List Oper} {a : Act} {Q : Exit → Act → World → Prop} {dst : Option Nat} {x y : Operand} {type : TypeId} {pos : String} {after : Array Edge} {guard : Option (Nat × Bool)}
  (h : wpList P ops Q (⟨dst, .store 23 x y, type, pos, after, guard⟩ :: rest) a w) : wpList P ops Q (⟨dst, .store 23 x y, type, pos, after, guard⟩ :: rest) a w := h
theorem size3 (w : World) : (Go.sizeOf 3).run Tryz.prog w = .ok 1 w := by kernel_rfl
theorem size9 (w : World) : (Go.sizeOf 9).run Tryz.prog w = .ok 1 w := by kernel_rfl
theorem sizebs (w : World) : (Go.sizeOf 23).run Tryz.prog w = .ok 1 w := by kernel_rfl
/-- what node answers -/
def NdPost (w : World) (X : En) (e : Ending) (w' : World) : Prop := ∃ N : NoV, e = .returned N.val ∧ Pk w' w.heap.size N ∧ N.no = { ndOf X with links := if X.k = 2 then 2 else 0 } ∧ (N.ka = none ∧ N.kl = 0 ∧ N.kc = 0) ∧ w.grownBy w' none
set_option maxHeartbeats 16000000 in
theorem pnode_any (X : EnV) (w : World) (ho : X.ok w) (hal : X.al ≤ 100000) (hk : 1 ≤ X.k ∧ X.k ≤ 5) (hD : Dn (X.attrs.map AtV.at)) (hz : ∀ A ∈ X.attrs, A.n.size ≤ 1000000 ∧ A.len ≤ 16777216) (hd : X.k = 1 → X.dl ≤ 16777216) (ht : X.k = 3 → X.target.size ≤ 1000000) : Calls Tryz.prog 66 #[X.val] w (NdPost w X.en) := by
 have hat := fun W (g : w.grownBy W none) => pcopied_any X.aa X.al X.ac X.attrs W (ho.ats.grown g) hal hz
 unfold CpPost at hat
 have HO : Hid _ := And.intro ho (And.intro hD (And.intro hd ht))
 have hall := ho.ats.len_eq
 clear ho hD hd ht hz
 obtain ⟨P, K, mode, uid, gid, time, size, da, dl, dc, data, target, dev, aa, al, ac, attrs⟩ := X
 simp only [EnV.val] at *
 have H0 : Hid _ := Nv.new w [.string P, .int .i64 K, .int .i64 mode, .int .i64 uid, .int .i64 gid, .int .i64 time, .int .i64 size, .slice da dl dc, .string target, .int .i64 dev, .slice aa al ac]
 go_enter Tryz.func66, Tryz.ntmps66
 go_wp2_with fail
 generalize (w.alloc (.cells #[.string P, .int .i64 K, .int .i64 mode, .int .i64 uid, .int .i64 gid, .int .i64 time, .int .i64 size, .slice da dl dc, .string target, .int .i64 dev, .slice aa al ac] 30)).alloc (.cells #[.int .i64 0, .int .i64 0, .int .i64 0, .int .i64 0, .int .i64 0, .int .i64 0, .slice none 0 0, .string ⟨#[]⟩, .int .i64 0, .slice none 0 0, .slice none 0 0, .int .i64 0, .int .i64 0] 43) = W1 at *
 generalize hg0 : w.heap.size = gx at *
 have HG0 : Hid _ := hg0
 clear hg0
 rename_i K9 hnext
 have tail : ∀ (W4 : World) (gn : Nat) (as_ : Option Addr) (an asc : Nat) (out : List AtV), Hid (Nz w W4 gx gn [.string P, .int .i64 K, .int .i64 mode, .int .i64 uid, .int .i64 gid, .int .i64 time, .int .i64 size, .slice da dl dc, .string target, .int .i64 dev, .slice aa al ac] [.int .i64 K, .int .i64 mode, .int .i64 uid, .int .i64 gid, .int .i64 time, .int .i64 0, .slice none 0 0, .string ⟨#[]⟩, .int .i64 0, .slice as_ an asc, .slice none 0 0, .int .i64 0, .int .i64 0] (.slice as_ an asc) out ∧ out.map AtV.at = attrs.map AtV.at ∧ an = out.length) → K9 { tmps := #[.agg #[.string P, .int .i64 K, .int .i64 mode, .int .i64 uid, .int .i64 gid, .int .i64 time, .int .i64 size, .slice da dl dc, .string target, .int .i64 dev, .slice aa al ac], .pointer (some ⟨gx, 0, none⟩), .pointer (some ⟨gx + 1, 0, none⟩), .pointer (some ⟨gn, 0, none⟩), .pointer (some ⟨gx, 1, none⟩), .int .i64 K, .pointer (some ⟨gx, 2, none⟩), .int .i64 mode, .pointer (some ⟨gx, 3, none⟩), .int .i64 uid, .pointer (some ⟨gx, 4, none⟩), .int .i64 gid, .pointer (some ⟨gx, 5, none⟩), .int .i64 time, .pointer (some ⟨gx, 10, none⟩), .slice aa al ac, .slice as_ an asc, .agg #[.int .i64 K, .int .i64 mode, .int .i64 uid, .int .i64 gid, .int .i64 time, .int .i64 0, .slice none 0 0, .string ⟨#[]⟩, .int .i64 0, .slice as_ an asc, .slice none 0 0, .int .i64 0, .int .i64 0], undef, undef, undef, undef, undef, undef, undef, undef, undef, undef, undef, undef, undef, undef, undef, undef, undef, undef, undef, undef, undef, undef, undef, undef, undef, undef, undef, undef], defers := [] } W4 := by
  intro W4 gn as_ an asc out HW
  refine hnext _ _ ?_
  clear hnext hat
  have hlo : out.length ≤ 100000 := by have h1 := congrArg List.length HW.out.2.1; rw [List.length_map, List.length_map, hall] at h1; omega
  have hso := psorta_any W4 gx (.slice as_ an asc) out HW.out.1.ar hlo
  unfold SoPost at hso
  have c9 := HW.out.1.n.c 9
  simp only [List.getElem?_cons_succ, List.getElem?_cons_zero] at c9
  have hDn : Dn (out.map AtV.at) := by rw [HW.out.2.1]; exact HO.out.2.1
  have HDn : Hid _ := hDn
  clear hDn hlo
  have hk5 : K = 1 ∨ K = 2 ∨ K = 3 ∨ K = 4 ∨ K = 5 := by omega
  clear hk
  rcases hk5 with rfl | hk5
  ·have hdl := HO.out.2.2.1 rfl
   have hrow := HO.out.1.row
   have hdc : dl ≤ dc := HO.out.1.dcap
   simp only at hdl hrow
   have hlen : (strip data).length ≤ 16777216 := by have := strip_len data; rw [hrow.len_eq] at this; omega
   have htr := fun W (g : w.grownBy W none) => ptrim_any da dl dc data W (hrow.grown g) hdc
   have hcl := fun W (g : w.grownBy W none) => pclone_any da (strip data).length dc (strip data) W (row_strip (hrow.grown g)) hlen
   have HBY : Hid (Byt (strip data)) := fun x hx => hrow.byt x (by unfold strip at hx; rw [List.mem_reverse] at hx; exact List.mem_reverse.1 ((List.dropWhile_sublist _).subset hx))
   clear hrow hlen hdl
   go_wp2_with (first | (go_at_call 99; refine hso.mono ?_; rintro e W5 ⟨rfl, out', ha, hp, hs, hg⟩; have HZ5 : Hid (Nz w W5 gx gn [.string P, .int .i64 1, .int .i64 mode, .int .i64 uid, .int .i64 gid, .int .i64 time, .int .i64 size, .slice da dl dc, .string target, .int .i64 dev, .slice aa al ac] [.int .i64 1, .int .i64 mode, .int .i64 uid, .int .i64 gid, .int .i64 time, .int .i64 0, .slice none 0 0, .string ⟨#[]⟩, .int .i64 0, .slice as_ an asc, .slice none 0 0, .int .i64 0, .int .i64 0] (.slice as_ an asc) out') := HW.out.1.sort ha hg; have HT : Hid (out'.map AtV.at = srt (attrs.map AtV.at) ∧ an = out'.length) := And.intro (by rw [← HW.out.2.1]; exact srt_of_perm HDn.out (hp.map AtV.at) (List.pairwise_map.2 hs)) (by rw [HW.out.2.2, hp.length_eq]); clear ha hp hs hg c9 hso; obtain ⟨x0, x1, x2, x3, x4, x5, x6, x7, x8, x9, x10⟩ := bx11 HZ5.out.nv.x) | ((with_reducible refine int_here ?_); refine wpList_store1 rfl 3 _ _ rfl gn 5 (.int .i64 size) rfl rfl HZ5.out.n (show 5 < 13 by decide) rfl size3 ?_; intro W6 hb g; have HZ6 : Hid (Nz w W6 gx gn [.string P, .int .i64 1, .int .i64 mode, .int .i64 uid, .int .i64 gid, .int .i64 time, .int .i64 size, .slice da dl dc, .string target, .int .i64 dev, .slice aa al ac] [.int .i64 1, .int .i64 mode, .int .i64 uid, .int .i64 gid, .int .i64 time, .int .i64 size, .slice none 0 0, .string ⟨#[]⟩, .int .i64 0, .slice as_ an asc, .slice none 0 0, .int .i64 0, .int .i64 0] (.slice as_ an asc) out') := HZ5.out.st hb.out g.out; clear hb g x0 x1 x2 x3 x4 x5 x6 x7 x8 x9 x10; obtain ⟨x0, x1, x2, x3, x4, x5, x6, x7, x8, x9, x10⟩ := bx11 HZ6.out.nv.x) | (go_at_call 102; refine (htr _ HZ6.out.nv.gr).mono ?_; rintro e w' ⟨rfl, rfl⟩) | (go_at_call 44; refine (hcl _ HZ6.out.nv.gr).mono ?_; rintro e W7 ⟨v7, rfl, ho7, g7⟩; obtain ⟨ca, cc, rfl⟩ := own_shape ho7; have HOB : Hid (OwnB W7 gx ca (strip data).length cc (strip data)) := ⟨owns_low11 ho7 (by have h1 := HZ6.out.nv.gr.size; rw [HG0.out] at h1; exact h1), HBY.out⟩; have HZ7 : Hid (Nz w W7 gx gn [.string P, .int .i64 1, .int .i64 mode, .int .i64 uid, .int .i64 gid, .int .i64 time, .int .i64 size, .slice da dl dc, .string target, .int .i64 dev, .slice aa al ac] [.int .i64 1, .int .i64 mode, .int .i64 uid, .int .i64 gid, .int .i64 time, .int .i64 size, .slice none 0 0, .string ⟨#[]⟩, .int .i64 0, .slice as_ an asc, .slice none 0 0, .int .i64 0, .int .i64 0] (.slice as_ an asc) out') := HZ6.out.kept g7; clear ho7 g7 x0 x1 x2 x3 x4 x5 x6 x7 x8 x9 x10; obtain ⟨x0, x1, x2, x3, x4, x5, x6, x7, x8, x9, x10⟩ := bx11 HZ7.out.nv.x) | ((with_reducible refine bs_here ?_); refine wpList_store1 rfl 23 _ _ rfl gn 6 (.slice ca (strip data).length cc) rfl rfl HZ7.out.n (show 6 < 13 by decide) rfl sizebs ?_; intro W8 hb g; have HZ8 : Hid (Nz w W8 gx gn [.string P, .int .i64 1, .int .i64 mode, .int .i64 uid, .int .i64 gid, .int .i64 time, .int .i64 size, .slice da dl dc, .string target, .int .i64 dev, .slice aa al ac] [.int .i64 1, .int .i64 mode, .int .i64 uid, .int .i64 gid, .int .i64 time, .int .i64 size, .slice ca (strip data).length cc, .string ⟨#[]⟩, .int .i64 0, .slice as_ an asc, .slice none 0 0, .int .i64 0, .int .i64 0] (.slice as_ an asc) out') := HZ7.out.st hb.out g.out; have HOB8 : Hid (OwnB W8 gx ca (strip data).length cc (strip data)) := ⟨HOB.out.own.kept g.out (.inr (bx_ne HZ7.out.n HOB.out.own (by decide)).symm), HOB.out.byt⟩; clear hb g x0 x1 x2 x3 x4 x5 x6 x7 x8 x9 x10; obtain ⟨y0, y1, y2, y3, y4, y5, y6, y7, y8, y9, y10, y11, y12⟩ := bx13 HZ8.out.n) | ((with_reducible refine node_here ?_); refine wpList_store_bx13 rfl 43 _ _ rfl (gx + 1) [.int .i64 1, .int .i64 mode, .int .i64 uid, .int .i64 gid, .int .i64 time, .int .i64 size, .slice ca (strip data).length cc, .string ⟨#[]⟩, .int .i64 0, .slice as_ an asc, .slice none 0 0, .int .i64 0, .int .i64 0] rfl rfl HZ8.out.nv.z node_size rfl rfl ?_; intro W9 hz9 g9))
   obtain ⟨z0, z1, z2, z3, z4, z5, z6, z7, z8, z9, z10, z11, z12⟩ := bx13 hz9
   have hfin : w.grownBy W9 none := grown_new HZ8.out.nv.gr g9 (by rw [HG0.out]; omega)
   have har : Ar W9 gx (.slice as_ an asc) out' := HZ8.out.ar.bx HZ8.out.nv.z (by decide) (by decide) g9
   refine bodyPost_ret (v := .agg #[.int .i64 1, .int .i64 mode, .int .i64 uid, .int .i64 gid, .int .i64 time, .int .i64 size, .slice ca (strip data).length cc, .string ⟨#[]⟩, .int .i64 0, .slice as_ an asc, .slice none 0 0, .int .i64 0, .int .i64 0]) (by simp [results, Tryz.results66, go_sem, *]) rfl ?_
   refine ⟨⟨1, mode, uid, gid, time, size, ca, (strip data).length, cc, strip data, ⟨#[]⟩, 0, as_, an, asc, out', none, 0, 0, [], 0, 0⟩, rfl, ?_, ?_, ⟨rfl, rfl, rfl⟩, hfin⟩
   ·rw [HG0.out]
    exact ⟨⟨HOB8.out.own.kept g9 (.inr (bx_ne HZ8.out.nv.z HOB8.out.own (by decide)).symm), HOB8.out.byt⟩, har, HT.out.2, World.ownsRow_nil _ _ _ _, rfl⟩
   ·unfold NoV.no EnV.en ndOf
    have e1 := HT.out.1
    unfold srt at e1
    simp [e1, tl_nil]
  rcases hk5 with rfl | hk5
  ·go_wp2_with (first | (go_at_call 99; refine hso.mono ?_; rintro e W5 ⟨rfl, out', ha, hp, hs, hg⟩; have HZ5 : Hid (Nz w W5 gx gn [.string P, .int .i64 2, .int .i64 mode, .int .i64 uid, .int .i64 gid, .int .i64 time, .int .i64 size, .slice da dl dc, .string target, .int .i64 dev, .slice aa al ac] [.int .i64 2, .int .i64 mode, .int .i64 uid, .int .i64 gid, .int .i64 time, .int .i64 0, .slice none 0 0, .string ⟨#[]⟩, .int .i64 0, .slice as_ an asc, .slice none 0 0, .int .i64 0, .int .i64 0] (.slice as_ an asc) out') := HW.out.1.sort ha hg; have HT : Hid (out'.map AtV.at = srt (attrs.map AtV.at) ∧ an = out'.length) := And.intro (by rw [← HW.out.2.1]; exact srt_of_perm HDn.out (hp.map AtV.at) (List.pairwise_map.2 hs)) (by rw [HW.out.2.2, hp.length_eq]); clear ha hp hs hg c9 hso; obtain ⟨x0, x1, x2, x3, x4, x5, x6, x7, x8, x9, x10⟩ := bx11 HZ5.out.nv.x) | ((with_reducible refine int_here ?_); refine wpList_store1 rfl 3 _ _ rfl gn 12 (.int .i64 2) rfl rfl HZ5.out.n (show 12 < 13 by decide) rfl size3 ?_; intro W6 hb g; have HZ6 : Hid (Nz w W6 gx gn [.string P, .int .i64 2, .int .i64 mode, .int .i64 uid, .int .i64 gid, .int .i64 time, .int .i64 size, .slice da dl dc, .string target, .int .i64 dev, .slice aa al ac] [.int .i64 2, .int .i64 mode, .int .i64 uid, .int .i64 gid, .int .i64 time, .int .i64 0, .slice none 0 0, .string ⟨#[]⟩, .int .i64 0, .slice as_ an asc, .slice none 0 0, .int .i64 0, .int .i64 2] (.slice as_ an asc) out') := HZ5.out.st hb.out g.out; clear hb g x0 x1 x2 x3 x4 x5 x6 x7 x8 x9 x10; obtain ⟨y0, y1, y2, y3, y4, y5, y6, y7, y8, y9, y10, y11, y12⟩ := bx13 HZ6.out.n) | ((with_reducible refine node_here ?_); refine wpList_store_bx13 rfl 43 _ _ rfl (gx + 1) [.int .i64 2, .int .i64 mode, .int .i64 uid, .int .i64 gid, .int .i64 time, .int .i64 0, .slice none 0 0, .string ⟨#[]⟩, .int .i64 0, .slice as_ an asc, .slice none 0 0, .int .i64 0, .int .i64 2] rfl rfl HZ6.out.nv.z node_size rfl rfl ?_; intro W9 hz9 g9))
   obtain ⟨z0, z1, z2, z3, z4, z5, z6, z7, z8, z9, z10, z11, z12⟩ := bx13 hz9
   have hfin : w.grownBy W9 none := grown_new HZ6.out.nv.gr g9 (by rw [HG0.out]; omega)
   have har : Ar W9 gx (.slice as_ an asc) out' := HZ6.out.ar.bx HZ6.out.nv.z (by decide) (by decide) g9
   refine bodyPost_ret (v := .agg #[.int .i64 2, .int .i64 mode, .int .i64 uid, .int .i64 gid, .int .i64 time, .int .i64 0, .slice none 0 0, .string ⟨#[]⟩, .int .i64 0, .slice as_ an asc, .slice none 0 0, .int .i64 0, .int .i64 2]) (by simp [results, Tryz.results66, go_sem, *]) rfl ?_
   refine ⟨⟨2, mode, uid, gid, time, 0, none, 0, 0, [], ⟨#[]⟩, 0, as_, an, asc, out', none, 0, 0, [], 0, 2⟩, rfl, ?_, ?_, ⟨rfl, rfl, rfl⟩, hfin⟩
   ·rw [HG0.out]
    exact ⟨⟨World.ownsRow_nil _ _ _ _, fun x hx => by cases hx⟩, har, HT.out.2, World.ownsRow_nil _ _ _ _, rfl⟩
   ·unfold NoV.no EnV.en ndOf
    have e1 := HT.out.1
    unfold srt at e1
    simp [e1, tl_nil]
  rcases hk5 with rfl | hk5
  ·have htz := HO.out.2.2.2 rfl
   have hsc := fun W => psclone_any target W htz
   clear htz
   go_wp2_with (first | (go_at_call 99; refine hso.mono ?_; rintro e W5 ⟨rfl, out', ha, hp, hs, hg⟩; have HZ5 : Hid (Nz w W5 gx gn [.string P, .int .i64 3, .int .i64 mode, .int .i64 uid, .int .i64 gid, .int .i64 time, .int .i64 size, .slice da dl dc, .string target, .int .i64 dev, .slice aa al ac] [.int .i64 3, .int .i64 mode, .int .i64 uid, .int .i64 gid, .int .i64 time, .int .i64 0, .slice none 0 0, .string ⟨#[]⟩, .int .i64 0, .slice as_ an asc, .slice none 0 0, .int .i64 0, .int .i64 0] (.slice as_ an asc) out') := HW.out.1.sort ha hg; have HT : Hid (out'.map AtV.at = srt (attrs.map AtV.at) ∧ an = out'.length) := And.intro (by rw [← HW.out.2.1]; exact srt_of_perm HDn.out (hp.map AtV.at) (List.pairwise_map.2 hs)) (by rw [HW.out.2.2, hp.length_eq]); clear ha hp hs hg c9 hso; obtain ⟨x0, x1, x2, x3, x4, x5, x6, x7, x8, x9, x10⟩ := bx11 HZ5.out.nv.x) | (go_at_call 43; refine (hsc _).mono ?_; rintro e W6 ⟨rfl, g6⟩; have HZ6 : Hid (Nz w W6 gx gn [.string P, .int .i64 3, .int .i64 mode, .int .i64 uid, .int .i64 gid, .int .i64 time, .int .i64 size, .slice da dl dc, .string target, .int .i64 dev, .slice aa al ac] [.int .i64 3, .int .i64 mode, .int .i64 uid, .int .i64 gid, .int .i64 time, .int .i64 0, .slice none 0 0, .string ⟨#[]⟩, .int .i64 0, .slice as_ an asc, .slice none 0 0, .int .i64 0, .int .i64 0] (.slice as_ an asc) out') := HZ5.out.kept g6; clear g6 x0 x1 x2 x3 x4 x5 x6 x7 x8 x9 x10; obtain ⟨x0, x1, x2, x3, x4, x5, x6, x7, x8, x9, x10⟩ := bx11 HZ6.out.nv.x) | ((with_reducible refine str_here ?_); refine wpList_store1 rfl 9 _ _ rfl gn 7 (.string target) rfl rfl HZ6.out.n (show 7 < 13 by decide) rfl size9 ?_; intro W7 hb g; have HZ7 : Hid (Nz w W7 gx gn [.string P, .int .i64 3, .int .i64 mode, .int .i64 uid, .int .i64 gid, .int .i64 time, .int .i64 size, .slice da dl dc, .string target, .int .i64 dev, .slice aa al ac] [.int .i64 3, .int .i64 mode, .int .i64 uid, .int .i64 gid, .int .i64 time, .int .i64 0, .slice none 0 0, .string target, .int .i64 0, .slice as_ an asc, .slice none 0 0, .int .i64 0, .int .i64 0] (.slice as_ an asc) out') := HZ6.out.st hb.out g.out; clear hb g x0 x1 x2 x3 x4 x5 x6 x7 x8 x9 x10; obtain ⟨y0, y1, y2, y3, y4, y5, y6, y7, y8, y9, y10, y11, y12⟩ := bx13 HZ7.out.n) | ((with_reducible refine node_here ?_); refine wpList_store_bx13 rfl 43 _ _ rfl (gx + 1) [.int .i64 3, .int .i64 mode, .int .i64 uid, .int .i64 gid, .int .i64 time, .int .i64 0, .slice none 0 0, .string target, .int .i64 0, .slice as_ an asc, .slice none 0 0, .int .i64 0, .int .i64 0] rfl rfl HZ7.out.nv.z node_size rfl rfl ?_; intro W9 hz9 g9))
   obtain ⟨z0, z1, z2, z3, z4, z5, z6, z7, z8, z9, z10, z11, z12⟩ := bx13 hz9
   have hfin : w.grownBy W9 none := grown_new HZ7.out.nv.gr g9 (by rw [HG0.out]; omega)
   have har : Ar W9 gx (.slice as_ an asc) out' := HZ7.out.ar.bx HZ7.out.nv.z (by decide) (by decide) g9
   refine bodyPost_ret (v := .agg #[.int .i64 3, .int .i64 mode, .int .i64 uid, .int .i64 gid, .int .i64 time, .int .i64 0, .slice none 0 0, .string target, .int .i64 0, .slice as_ an asc, .slice none 0 0, .int .i64 0, .int .i64 0]) (by simp [results, Tryz.results66, go_sem, *]) rfl ?_
   refine ⟨⟨3, mode, uid, gid, time, 0, none, 0, 0, [], target, 0, as_, an, asc, out', none, 0, 0, [], 0, 0⟩, rfl, ?_, ?_, ⟨rfl, rfl, rfl⟩, hfin⟩
   ·rw [HG0.out]
    exact ⟨⟨World.ownsRow_nil _ _ _ _, fun x hx => by cases hx⟩, har, HT.out.2, World.ownsRow_nil _ _ _ _, rfl⟩
   ·unfold NoV.no EnV.en ndOf
    have e1 := HT.out.1
    unfold srt at e1
    simp [e1, tl_nil]
  rcases hk5 with rfl | hk5
  ·go_wp2_with (first | (go_at_call 99; refine hso.mono ?_; rintro e W5 ⟨rfl, out', ha, hp, hs, hg⟩; have HZ5 : Hid (Nz w W5 gx gn [.string P, .int .i64 4, .int .i64 mode, .int .i64 uid, .int .i64 gid, .int .i64 time, .int .i64 size, .slice da dl dc, .string target, .int .i64 dev, .slice aa al ac] [.int .i64 4, .int .i64 mode, .int .i64 uid, .int .i64 gid, .int .i64 time, .int .i64 0, .slice none 0 0, .string ⟨#[]⟩, .int .i64 0, .slice as_ an asc, .slice none 0 0, .int .i64 0, .int .i64 0] (.slice as_ an asc) out') := HW.out.1.sort ha hg; have HT : Hid (out'.map AtV.at = srt (attrs.map AtV.at) ∧ an = out'.length) := And.intro (by rw [← HW.out.2.1]; exact srt_of_perm HDn.out (hp.map AtV.at) (List.pairwise_map.2 hs)) (by rw [HW.out.2.2, hp.length_eq]); clear ha hp hs hg c9 hso; obtain ⟨x0, x1, x2, x3, x4, x5, x6, x7, x8, x9, x10⟩ := bx11 HZ5.out.nv.x) | ((with_reducible refine int_here ?_); refine wpList_store1 rfl 3 _ _ rfl gn 8 (.int .i64 dev) rfl rfl HZ5.out.n (show 8 < 13 by decide) rfl size3 ?_; intro W6 hb g; have HZ6 : Hid (Nz w W6 gx gn [.string P, .int .i64 4, .int .i64 mode, .int .i64 uid, .int .i64 gid, .int .i64 time, .int .i64 size, .slice da dl dc, .string target, .int .i64 dev, .slice aa al ac] [.int .i64 4, .int .i64 mode, .int .i64 uid, .int .i64 gid, .int .i64 time, .int .i64 0, .slice none 0 0, .string ⟨#[]⟩, .int .i64 dev, .slice as_ an asc, .slice none 0 0, .int .i64 0, .int .i64 0] (.slice as_ an asc) out') := HZ5.out.st hb.out g.out; clear hb g x0 x1 x2 x3 x4 x5 x6 x7 x8 x9 x10; obtain ⟨y0, y1, y2, y3, y4, y5, y6, y7, y8, y9, y10, y11, y12⟩ := bx13 HZ6.out.n) | ((with_reducible refine node_here ?_); refine wpList_store_bx13 rfl 43 _ _ rfl (gx + 1) [.int .i64 4, .int .i64 mode, .int .i64 uid, .int .i64 gid, .int .i64 time, .int .i64 0, .slice none 0 0, .string ⟨#[]⟩, .int .i64 dev, .slice as_ an asc, .slice none 0 0, .int .i64 0, .int .i64 0] rfl rfl HZ6.out.nv.z node_size rfl rfl ?_; intro W9 hz9 g9))
   obtain ⟨z0, z1, z2, z3, z4, z5, z6, z7, z8, z9, z10, z11, z12⟩ := bx13 hz9
   have hfin : w.grownBy W9 none := grown_new HZ6.out.nv.gr g9 (by rw [HG0.out]; omega)
   have har : Ar W9 gx (.slice as_ an asc) out' := HZ6.out.ar.bx HZ6.out.nv.z (by decide) (by decide) g9
   refine bodyPost_ret (v := .agg #[.int .i64 4, .int .i64 mode, .int .i64 uid, .int .i64 gid, .int .i64 time, .int .i64 0, .slice none 0 0, .string ⟨#[]⟩, .int .i64 dev, .slice as_ an asc, .slice none 0 0, .int .i64 0, .int .i64 0]) (by simp [results, Tryz.results66, go_sem, *]) rfl ?_
   refine ⟨⟨4, mode, uid, gid, time, 0, none, 0, 0, [], ⟨#[]⟩, dev, as_, an, asc, out', none, 0, 0, [], 0, 0⟩, rfl, ?_, ?_, ⟨rfl, rfl, rfl⟩, hfin⟩
   ·rw [HG0.out]
    exact ⟨⟨World.ownsRow_nil _ _ _ _, fun x hx => by cases hx⟩, har, HT.out.2, World.ownsRow_nil _ _ _ _, rfl⟩
   ·unfold NoV.no EnV.en ndOf
    have e1 := HT.out.1
    unfold srt at e1
    simp [e1, tl_nil]
  subst hk5
  go_wp2_with (first | (go_at_call 99; refine hso.mono ?_; rintro e W5 ⟨rfl, out', ha, hp, hs, hg⟩; have HZ5 : Hid (Nz w W5 gx gn [.string P, .int .i64 5, .int .i64 mode, .int .i64 uid, .int .i64 gid, .int .i64 time, .int .i64 size, .slice da dl dc, .string target, .int .i64 dev, .slice aa al ac] [.int .i64 5, .int .i64 mode, .int .i64 uid, .int .i64 gid, .int .i64 time, .int .i64 0, .slice none 0 0, .string ⟨#[]⟩, .int .i64 0, .slice as_ an asc, .slice none 0 0, .int .i64 0, .int .i64 0] (.slice as_ an asc) out') := HW.out.1.sort ha hg; have HT : Hid (out'.map AtV.at = srt (attrs.map AtV.at) ∧ an = out'.length) := And.intro (by rw [← HW.out.2.1]; exact srt_of_perm HDn.out (hp.map AtV.at) (List.pairwise_map.2 hs)) (by rw [HW.out.2.2, hp.length_eq]); clear ha hp hs hg c9 hso; obtain ⟨x0, x1, x2, x3, x4, x5, x6, x7, x8, x9, x10⟩ := bx11 HZ5.out.nv.x) | ((with_reducible refine int_here ?_); refine wpList_store1 rfl 3 _ _ rfl gn 8 (.int .i64 dev) rfl rfl HZ5.out.n (show 8 < 13 by decide) rfl size3 ?_; intro W6 hb g; have HZ6 : Hid (Nz w W6 gx gn [.string P, .int .i64 5, .int .i64 mode, .int .i64 uid, .int .i64 gid, .int .i64 time, .int .i64 size, .slice da dl dc, .string target, .int .i64 dev, .slice aa al ac] [.int .i64 5, .int .i64 mode, .int .i64 uid, .int .i64 gid, .int .i64 time, .int .i64 0, .slice none 0 0, .string ⟨#[]⟩, .int .i64 dev, .slice as_ an asc, .slice none 0 0, .int .i64 0, .int .i64 0] (.slice as_ an asc) out') := HZ5.out.st hb.out g.out; clear hb g x0 x1 x2 x3 x4 x5 x6 x7 x8 x9 x10; obtain ⟨y0, y1, y2, y3, y4, y5, y6, y7, y8, y9, y10, y11, y12⟩ := bx13 HZ6.out.n) | ((with_reducible refine node_here ?_); refine wpList_store_bx13 rfl 43 _ _ rfl (gx + 1) [.int .i64 5, .int .i64 mode, .int .i64 uid, .int .i64 gid, .int .i64 time, .int .i64 0, .slice none 0 0, .string ⟨#[]⟩, .int .i64 dev, .slice as_ an asc, .slice none 0 0, .int .i64 0, .int .i64 0] rfl rfl HZ6.out.nv.z node_size rfl rfl ?_; intro W9 hz9 g9))
  obtain ⟨z0, z1, z2, z3, z4, z5, z6, z7, z8, z9, z10, z11, z12⟩ := bx13 hz9
  have hfin : w.grownBy W9 none := grown_new HZ6.out.nv.gr g9 (by rw [HG0.out]; omega)
  have har : Ar W9 gx (.slice as_ an asc) out' := HZ6.out.ar.bx HZ6.out.nv.z (by decide) (by decide) g9
  refine bodyPost_ret (v := .agg #[.int .i64 5, .int .i64 mode, .int .i64 uid, .int .i64 gid, .int .i64 time, .int .i64 0, .slice none 0 0, .string ⟨#[]⟩, .int .i64 dev, .slice as_ an asc, .slice none 0 0, .int .i64 0, .int .i64 0]) (by simp [results, Tryz.results66, go_sem, *]) rfl ?_
  refine ⟨⟨5, mode, uid, gid, time, 0, none, 0, 0, [], ⟨#[]⟩, dev, as_, an, asc, out', none, 0, 0, [], 0, 0⟩, rfl, ?_, ?_, ⟨rfl, rfl, rfl⟩, hfin⟩
  ·rw [HG0.out]
   exact ⟨⟨World.ownsRow_nil _ _ _ _, fun x hx => by cases hx⟩, har, HT.out.2, World.ownsRow_nil _ _ _ _, rfl⟩
  ·unfold NoV.no EnV.en ndOf
   have e1 := HT.out.1
   unfold srt at e1
   simp [e1, tl_nil]
 clear hnext
 refine wp_region_held_drew (S := fun w' => Nv w w' gx [.string P, .int .i64 K, .int .i64 mode, .int .i64 uid, .int .i64 gid, .int .i64 time, .int .i64 size, .slice da dl dc, .string target, .int .i64 dev, .slice aa al ac]) (by kernel_rfl) (H0.out.kept (drewG0 W1)) (fun hH => ?_)
 clear H0
 generalize W1.drew = WD at *
 refine wpAnyH_take (i := 0) (oi := ⟨some 4, _, _, _, _, _⟩) (v := .pointer (some ⟨gx, 1, none⟩)) rfl (by kernel_rfl) (by kernel_rfl) (by kernel_rfl) (fun _ _ _ h => h) (Or.inl ⟨by rfl, fun w hSw => by go_simp⟩) hH ?_
 simp only [Act.put, pu]
 refine wpAnyH_take (i := 1) (oi := ⟨some 5, _, _, _, _, _⟩) (v := .int .i64 K) rfl (by kernel_rfl) (by kernel_rfl) (by kernel_rfl) (fun _ _ _ h => h) (Or.inl ⟨by rfl, fun w hSw => by obtain ⟨c0, c1, c2, c3, c4, c5, c6, c7, c8, c9, c10⟩ := bx11 hSw.x; go_simp⟩) hH ?_
 simp only [Act.put, pu]
 refine wpAnyH_take (i := 2) (oi := ⟨some 6, _, _, _, _, _⟩) (v := .pointer (some ⟨gx, 2, none⟩)) rfl (by kernel_rfl) (by kernel_rfl) (by kernel_rfl) (fun _ _ _ h => h) (Or.inl ⟨by rfl, fun w hSw => by go_simp⟩) hH ?_
 simp only [Act.put, pu]
 refine wpAnyH_take (i := 3) (oi := ⟨some 7, _, _, _, _, _⟩) (v := .int .i64 mode) rfl (by kernel_rfl) (by kernel_rfl) (by kernel_rfl) (fun _ _ _ h => h) (Or.inl ⟨by rfl, fun w hSw => by obtain ⟨c0, c1, c2, c3, c4, c5, c6, c7, c8, c9, c10⟩ := bx11 hSw.x; go_simp⟩) hH ?_
 simp only [Act.put, pu]
 refine wpAnyH_take (i := 4) (oi := ⟨some 8, _, _, _, _, _⟩) (v := .pointer (some ⟨gx, 3, none⟩)) rfl (by kernel_rfl) (by kernel_rfl) (by kernel_rfl) (fun _ _ _ h => h) (Or.inl ⟨by rfl, fun w hSw => by go_simp⟩) hH ?_
 simp only [Act.put, pu]
 refine wpAnyH_take (i := 5) (oi := ⟨some 9, _, _, _, _, _⟩) (v := .int .i64 uid) rfl (by kernel_rfl) (by kernel_rfl) (by kernel_rfl) (fun _ _ _ h => h) (Or.inl ⟨by rfl, fun w hSw => by obtain ⟨c0, c1, c2, c3, c4, c5, c6, c7, c8, c9, c10⟩ := bx11 hSw.x; go_simp⟩) hH ?_
 simp only [Act.put, pu]
 refine wpAnyH_take (i := 6) (oi := ⟨some 10, _, _, _, _, _⟩) (v := .pointer (some ⟨gx, 4, none⟩)) rfl (by kernel_rfl) (by kernel_rfl) (by kernel_rfl) (fun _ _ _ h => h) (Or.inl ⟨by rfl, fun w hSw => by go_simp⟩) hH ?_
 simp only [Act.put, pu]
 refine wpAnyH_take (i := 7) (oi := ⟨some 11, _, _, _, _, _⟩) (v := .int .i64 gid) rfl (by kernel_rfl) (by kernel_rfl) (by kernel_rfl) (fun _ _ _ h => h) (Or.inl ⟨by rfl, fun w hSw => by obtain ⟨c0, c1, c2, c3, c4, c5, c6, c7, c8, c9, c10⟩ := bx11 hSw.x; go_simp⟩) hH ?_
 simp only [Act.put, pu]
 refine wpAnyH_take (i := 8) (oi := ⟨some 12, _, _, _, _, _⟩) (v := .pointer (some ⟨gx, 5, none⟩)) rfl (by kernel_rfl) (by kernel_rfl) (by kernel_rfl) (fun _ _ _ h => h) (Or.inl ⟨by rfl, fun w hSw => by go_simp⟩) hH ?_
 simp only [Act.put, pu]
 refine wpAnyH_take (i := 9) (oi := ⟨some 13, _, _, _, _, _⟩) (v := .int .i64 time) rfl (by kernel_rfl) (by kernel_rfl) (by kernel_rfl) (fun _ _ _ h => h) (Or.inl ⟨by rfl, fun w hSw => by obtain ⟨c0, c1, c2, c3, c4, c5, c6, c7, c8, c9, c10⟩ := bx11 hSw.x; go_simp⟩) hH ?_
 simp only [Act.put, pu]
 refine wpAnyH_take (i := 10) (oi := ⟨some 14, _, _, _, _, _⟩) (v := .pointer (some ⟨gx, 10, none⟩)) rfl (by kernel_rfl) (by kernel_rfl) (by kernel_rfl) (fun _ _ _ h => h) (Or.inl ⟨by rfl, fun w hSw => by go_simp⟩) hH ?_
 simp only [Act.put, pu]
 refine wpAnyH_take (i := 11) (oi := ⟨some 15, _, _, _, _, _⟩) (v := .slice aa al ac) rfl (by kernel_rfl) (by kernel_rfl) (by kernel_rfl) (fun _ _ _ h => h) (Or.inl ⟨by rfl, fun w hSw => by obtain ⟨c0, c1, c2, c3, c4, c5, c6, c7, c8, c9, c10⟩ := bx11 hSw.x; go_simp⟩) hH ?_
 simp only [Act.put, pu]
 refine wpAnyH_ready (rs := [12, 14]) (by kernel_rfl) (by simp) ?_
 refine AllReadyH.cons rfl (fun K1 hK => ?_) (AllReadyH.cons rfl (fun K1 hK => ?_) AllReadyH.nil)
 ·skip
  go_simp
  go_wp2_with (go_at_call 45; refine (hat _ hH.gr).mono ?_; rintro e W2 ⟨v2, out, rfl, hcp, hme⟩)
  obtain ⟨as_, asc, rfl⟩ := own_shape hcp.own
  obtain ⟨an, han⟩ : ∃ an, an = out.length := ⟨_, rfl⟩
  rw [← han]
  have har : Ar W2 gx (.slice as_ an asc) out := by have h1 := hcp.ar.low (by have h2 := hH.gr.size; rw [HG0.out] at h2; exact h2); rw [← han] at h1; exact h1
  have HAN : Hid _ := han
  clear han
  replace hH := hH.kept hcp.gr
  clear hcp
  refine hK.out _ _ hH (fun _ => ?_)
  clear hK K1
  refine wpAnyH_take (i := 13) (oi := ⟨some 17, _, _, _, _, _⟩) (v := .agg #[.int .i64 K, .int .i64 mode, .int .i64 uid, .int .i64 gid, .int .i64 time, .int .i64 0, .slice none 0 0, .string ⟨#[]⟩, .int .i64 0, .slice as_ an asc, .slice none 0 0, .int .i64 0, .int .i64 0]) rfl (by kernel_rfl) (by kernel_rfl) (by kernel_rfl) (fun _ _ _ h => h) (Or.inl ⟨by rfl, fun w hSw => by go_simp⟩) hH ?_
  simp only [Act.put, pu]
  refine wpAnyH_ready (rs := [14]) (by kernel_rfl) (by simp) ?_
  refine AllReadyH.cons rfl (fun K1 hK => ?_) AllReadyH.nil
  go_simp
  have gA := World.grownBy_alloc W2 (.cells #[.int .i64 0, .int .i64 0, .int .i64 0, .int .i64 0, .int .i64 0, .int .i64 0, .slice none 0 0, .string ⟨#[]⟩, .int .i64 0, .slice none 0 0, .slice none 0 0, .int .i64 0, .int .i64 0] 43) none
  have hN := Bx.new W2 43 [.int .i64 0, .int .i64 0, .int .i64 0, .int .i64 0, .int .i64 0, .int .i64 0, .slice none 0 0, .string ⟨#[]⟩, .int .i64 0, .slice none 0 0, .slice none 0 0, .int .i64 0, .int .i64 0]
  have hlt : gx + 1 < W2.heap.size := hH.z.lt
  replace hH := hH.kept gA
  replace har := har.kept gA
  clear gA
  generalize W2.alloc (.cells #[.int .i64 0, .int .i64 0, .int .i64 0, .int .i64 0, .int .i64 0, .int .i64 0, .slice none 0 0, .string ⟨#[]⟩, .int .i64 0, .slice none 0 0, .slice none 0 0, .int .i64 0, .int .i64 0] 43) = W3 at *
  generalize W2.heap.size = gn at *
  refine hK.out _ _ hH (fun _ => ?_)
  clear hK K1
  refine wpAnyH_ready (rs := [15]) (by kernel_rfl) (by simp) ?_
  refine AllReadyH.cons rfl (fun K1 hK => ?_) AllReadyH.nil
  refine step_store_bx (by rfl) 43 _ _ (by rfl) gn [.int .i64 K, .int .i64 mode, .int .i64 uid, .int .i64 gid, .int .i64 time, .int .i64 0, .slice none 0 0, .string ⟨#[]⟩, .int .i64 0, .slice as_ an asc, .slice none 0 0, .int .i64 0, .int .i64 0] rfl rfl hN node_size rfl rfl ?_
  intro W4 hN4 g4
  have HZ : Nz w W4 gx gn [.string P, .int .i64 K, .int .i64 mode, .int .i64 uid, .int .i64 gid, .int .i64 time, .int .i64 size, .slice da dl dc, .string target, .int .i64 dev, .slice aa al ac] [.int .i64 K, .int .i64 mode, .int .i64 uid, .int .i64 gid, .int .i64 time, .int .i64 0, .slice none 0 0, .string ⟨#[]⟩, .int .i64 0, .slice as_ an asc, .slice none 0 0, .int .i64 0, .int .i64 0] (.slice as_ an asc) out := ⟨hH.but g4 hlt, hN4, hlt, har.bx hN (by decide) (by decide) g4⟩
  refine hK.out _ _ HZ.nv (fun _ => ?_)
  clear hK K1
  refine wpAnyH_done (by kernel_rfl) ?_ _
  exact tail _ _ _ _ _ _ ⟨HZ, hme, HAN.out⟩
 ·skip
  go_simp
  have gA := World.grownBy_alloc WD (.cells #[.int .i64 0, .int .i64 0, .int .i64 0, .int .i64 0, .int .i64 0, .int .i64 0, .slice none 0 0, .string ⟨#[]⟩, .int .i64 0, .slice none 0 0, .slice none 0 0, .int .i64 0, .int .i64 0] 43) none
  have hN := Bx.new WD 43 [.int .i64 0, .int .i64 0, .int .i64 0, .int .i64 0, .int .i64 0, .int .i64 0, .slice none 0 0, .string ⟨#[]⟩, .int .i64 0, .slice none 0 0, .slice none 0 0, .int .i64 0, .int .i64 0]
  have hlt : gx + 1 < WD.heap.size := hH.z.lt
  replace hH := hH.kept gA
  clear gA
  generalize WD.alloc (.cells #[.int .i64 0, .int .i64 0, .int .i64 0, .int .i64 0, .int .i64 0, .int .i64 0, .slice none 0 0, .string ⟨#[]⟩, .int .i64 0, .slice none 0 0, .slice none 0 0, .int .i64 0, .int .i64 0] 43) = W3 at *
  generalize WD.heap.size = gn at *
  refine hK.out _ _ hH (fun _ => ?_)
  clear hK K1
  refine wpAnyH_ready (rs := [12]) (by kernel_rfl) (by simp) ?_
  refine AllReadyH.cons rfl (fun K1 hK => ?_) AllReadyH.nil
  go_simp
  go_wp2_with (go_at_call 45; refine (hat _ hH.gr).mono ?_; rintro e W2 ⟨v2, out, rfl, hcp, hme⟩)
  obtain ⟨as_, asc, rfl⟩ := own_shape hcp.own
  obtain ⟨an, han⟩ : ∃ an, an = out.length := ⟨_, rfl⟩
  rw [← han]
  have har : Ar W2 gx (.slice as_ an asc) out := by have h1 := hcp.ar.low (by have h2 := hH.gr.size; rw [HG0.out] at h2; exact h2); rw [← han] at h1; exact h1
  have HAN : Hid _ := han
  clear han
  replace hN := hN.kept hcp.gr
  replace hH := hH.kept hcp.gr
  clear hcp
  refine hK.out _ _ hH (fun _ => ?_)
  clear hK K1
  refine wpAnyH_take (i := 13) (oi := ⟨some 17, _, _, _, _, _⟩) (v := .agg #[.int .i64 K, .int .i64 mode, .int .i64 uid, .int .i64 gid, .int .i64 time, .int .i64 0, .slice none 0 0, .string ⟨#[]⟩, .int .i64 0, .slice as_ an asc, .slice none 0 0, .int .i64 0, .int .i64 0]) rfl (by kernel_rfl) (by kernel_rfl) (by kernel_rfl) (fun _ _ _ h => h) (Or.inl ⟨by rfl, fun w hSw => by go_simp⟩) hH ?_
  simp only [Act.put, pu]
  refine wpAnyH_ready (rs := [15]) (by kernel_rfl) (by simp) ?_
  refine AllReadyH.cons rfl (fun K1 hK => ?_) AllReadyH.nil
  refine step_store_bx (by rfl) 43 _ _ (by rfl) gn [.int .i64 K, .int .i64 mode, .int .i64 uid, .int .i64 gid, .int .i64 time, .int .i64 0, .slice none 0 0, .string ⟨#[]⟩, .int .i64 0, .slice as_ an asc, .slice none 0 0, .int .i64 0, .int .i64 0] rfl rfl hN node_size rfl rfl ?_
  intro W4 hN4 g4
  have HZ : Nz w W4 gx gn [.string P, .int .i64 K, .int .i64 mode, .int .i64 uid, .int .i64 gid, .int .i64 time, .int .i64 size, .slice da dl dc, .string target, .int .i64 dev, .slice aa al ac] [.int .i64 K, .int .i64 mode, .int .i64 uid, .int .i64 gid, .int .i64 time, .int .i64 0, .slice none 0 0, .string ⟨#[]⟩, .int .i64 0, .slice as_ an asc, .slice none 0 0, .int .i64 0, .int .i64 0] (.slice as_ an asc) out := ⟨hH.but g4 hlt, hN4, hlt, har.bx hN (by decide) (by decide) g4⟩
  refine hK.out _ _ HZ.nv (fun _ => ?_)
  clear hK K1
  refine wpAnyH_done (by kernel_rfl) ?_ _
  exact tail _ _ _ _ _ _ ⟨HZ, hme, HAN.out⟩
end Go.Proofs.YtlehncfehoelbaaGreatDoor
