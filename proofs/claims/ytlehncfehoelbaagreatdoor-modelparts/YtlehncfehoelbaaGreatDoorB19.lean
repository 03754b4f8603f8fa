/- The program's tree: lay's memory. bits.Mul, laid for this program. slices.Repeat of one number. The program's tree: has a list the root's entry? The document's lz: a length and its four bits. The document's lz: the bytes that tell a length. The program's Join, as landed. -/
import Derived.Test.YtlehncfehoelbaaGreatDoorProg
import Derived.Shelf.Bits.Mul64
import Derived.Laws.CopyOwn
import Derived.Deep.RegionHeld3
import Derived.WalkLawsBesides
import Derived.WalkKit
import Derived.Below
import Derived.BigRegion
import Derived.Deep.QuietTactic
import Derived.Lib.AppendStr
import Derived.Test.YtlehncfehoelbaaGreatDoorB10
import Derived.Test.YtlehncfehoelbaaGreatDoorB13
import Derived.Test.YtlehncfehoelbaaGreatDoorB14
import Derived.Test.YtlehncfehoelbaaGreatDoorB16
import Derived.Test.YtlehncfehoelbaaGreatDoorB18
namespace Go.Proofs.YtlehncfehoelbaaGreatDoor
open Go.RowKit
set_option maxRecDepth 100000
set_option linter.unusedSimpArgs false
set_option linter.unusedVariables false
def iv (i : Int) : Value := .int .i64 i
def nv (i : Nat) : Value := .int .i64 (i : Int)
theorem Kp.owns {W W' : World} {b e s n : Nat} {v : Value} {xs : List Value} (h : W.ownsRow b e s v n xs) (k : Kp W W') (h1 : e ≠ 47) (h2 : e ≠ 43) : W'.ownsRow b e s v n xs := by
 refine ⟨h.1, ?_⟩
 rcases h.2 with h0 | ⟨q, cap, cur, hv, hb, hq, r⟩
 ·exact .inl h0
 ·exact .inr ⟨q, cap, cur, hv, hb, k.keep q _ hq (fun c f e => by injection e with _ e; exact h1 e) (fun c f e => by injection e with _ e; exact h2 e), r⟩
/-- lay's memory: the tree, the answer's place, the map, the numbers, the order -/
structure Lm (w W : World) (base gt gm gn go_ len : Nat) (en : List En) (v : Value) (ns : List NoV) (nm : List Int) (o : List Nat) : Prop where
 tq : Tq w W base v ns
 res : Bx W gt 33 [.slice none 0 0]
 map : MapF W 9 gm len (plK en)
 nums : W.ownsRow w.heap.size 3 1 (.slice (some ⟨gn, 0, none⟩) len len) len (nm.map iv)
 ord : W.ownsRow w.heap.size 3 1 (.slice (some ⟨go_, 0, none⟩) len len) len (o.map nv)
 ne : gn ≠ go_
theorem Lm.move {w W W' : World} {base gt gm gn go_ len : Nat} {en : List En} {v v' : Value} {ns ns' : List NoV} {nm : List Int} {o : List Nat} (h : Lm w W base gt gm gn go_ len en v ns nm o) (k : Kp W W') (t : Tq w W' base v' ns') : Lm w W' base gt gm gn go_ len en v' ns' nm o :=
 ⟨t, h.res.kp k (by decide) (by decide), h.map.kp k, k.owns h.nums (by decide) (by decide), k.owns h.ord (by decide) (by decide), h.ne⟩
theorem Lm.kept {w W W' : World} {base gt gm gn go_ len : Nat} {en : List En} {v : Value} {ns : List NoV} {nm : List Int} {o : List Nat} (h : Lm w W base gt gm gn go_ len en v ns nm o) (g : W.grownBy W' none) : Lm w W' base gt gm gn go_ len en v ns nm o :=
 h.move (Kp.none g) (h.tq.kept g)
theorem Lm.num {w W : World} {base gt gm gn go_ len : Nat} {en : List En} {v : Value} {ns : List NoV} {nm : List Int} {o : List Nat} (h : Lm w W base gt gm gn go_ len en v ns nm o) (k : Nat) (hb : base = base) (x : Int) :
  Lm w (W.setCell ⟨gn, k, none⟩ (.int .i64 x)) base gt gm gn go_ len en v ns (nm.set k x) o ∧ W.grownBy (W.setCell ⟨gn, k, none⟩ (.int .i64 x)) (some gn) := by
 obtain ⟨s1, s2⟩ := h.nums.stored k (.int .i64 x)
 have hm : some gm ≠ some gn := by
  intro e
  injection e with e
  obtain ⟨D, ⟨es, clock, hb, r⟩, h2⟩ := h.map
  rcases h.nums.2 with ⟨h0, _⟩ | ⟨q, cap, cur, hv, _, hq, _⟩
  ·cases h0
  ·injection hv with e1
   injection e1 with e1
   injection e1 with e1
   rw [← e1, ← e, hb] at hq
   cases hq
 refine ⟨⟨h.tq.other h.nums (Nat.le_refl _) (by decide) (by decide) (by decide) (by decide) s2, h.res.but s2 (bx_ne h.res h.nums (by decide)), h.map.kept s2 hm, ?_, h.ord.kept s2 (.inr fun e => h.ne ?_), h.ne⟩, s2⟩
 ·have e : (nm.set k x).map iv = (nm.map iv).set k (.int .i64 x) := by rw [List.map_set]; rfl
  rw [e]; exact s1
 ·have e2 : some go_ = some gn := e
  injection e2 with e2
  exact e2.symm
theorem Lm.numC {w W : World} {base gt gm gn go_ len : Nat} {en : List En} {v : Value} {ns : List NoV} {nm : List Int} {o : List Nat} (h : Lm w W base gt gm gn go_ len en v ns nm o) (hl : nm.length = len) {k : Nat} (hk : k < len) : W.cell? ⟨gn, k, none⟩ = some (.int .i64 (nm.getD k (-1))) := by
 have hl2 : k < nm.length := by omega
 rw [h.nums.cellAt k (by omega), List.getElem?_map, List.getD_eq_getElem?_getD, List.getElem?_eq_getElem hl2]
 rfl
theorem Lm.numF {w W : World} {base gt gm gn go_ len : Nat} {en : List En} {v : Value} {ns : List NoV} {nm : List Int} {o : List Nat} (h : Lm w W base gt gm gn go_ len en v ns nm o) (k : Nat) : W.frozen? ⟨gn, k, none⟩ = false := h.nums.frozenAt k
theorem Lm.ordC {w W : World} {base gt gm gn go_ len : Nat} {en : List En} {v : Value} {ns : List NoV} {nm : List Int} {o : List Nat} (h : Lm w W base gt gm gn go_ len en v ns nm o) {k i : Nat} (hk : o[k]? = some i) (hl : k < len) : W.cell? ⟨go_, k, none⟩ = some (.int .i64 (i : Int)) := by
 rw [h.ord.cellAt k (by omega), List.getElem?_map, hk]
 rfl
/-- a number is stored -/
theorem wpList_storeN {P : Program} {ops : Array Oper} {rest : List Oper} {oo : Oper} {a : Act} {w W : World} {Q : Exit → Act → World → Prop} (hgd : oo.guard = none) (x y : Operand) (ho : oo.op = .store 3 x y) {base gt gm gn go_ len : Nat} {en : List En} {v : Value} {ns : List NoV} {nm : List Int} {o : List Nat}
  (h : Lm w W base gt gm gn go_ len en v ns nm o) (hl : nm.length = len) (k : Nat) (hk : k < len) (m : Int) (hx : a.eval x = .pointer (some ⟨gn, k, none⟩)) (hy : a.eval y = .int .i64 m) (hs : ∀ w, (Go.sizeOf 3).run P w = .ok 1 w)
  (hK : ∀ W', Hid (Lm w W' base gt gm gn go_ len en v ns (nm.set k m) o) → Hid (W.grownBy W' (some gn)) → wpList P ops Q rest (a.put oo.dst undef) W') : wpList P ops Q (oo :: rest) a W := by
 obtain ⟨h1, h2⟩ := h.num k rfl m
 exact wpList_storeC hgd 3 x y ho gn k (.int .i64 m) hx hy (h.numC hl hk) (h.numF k) rfl hs (hK _ h1 h2)
/-- a node more -/
theorem Lm.add {w W W' : World} {base gt gm gn go_ len : Nat} {en : List En} {v v' : Value} {ns : List NoV} {nm : List Int} {o : List Nat} {N : NoV} (h : Lm w W base gt gm gn go_ len en v ns nm o) (hN : Pk W base N) (hk : N.ka = none)
  (hown : W'.ownsRow base 43 13 v' (ns.length + 1) (ns.flatMap nvc ++ nvc N)) (g : W.grownBy W' v.ownBlock) : Lm w W' base gt gm gn go_ len en v' (ns ++ [N]) nm o ∧ Kp W W' :=
 have k := Kp.row h.tq.own (.inr rfl) g
 ⟨h.move k (h.tq.add hN hk hown g), k⟩
theorem Lm.lookF {w W : World} {base gt gm gn go_ len : Nat} {en : List En} {v : Value} {ns : List NoV} {nm : List Int} {o : List Nat} (h : Lm w W base gt gm gn go_ len en v ns nm o) (s : ByteArray) (hs : s.size ≤ 9223372036854775807) {F : Int} (hF : plF en s.toList = F) :
  (Instr.lookup 111 (.map (some gm)) (.string s) false).run Tryz.prog W = .ok (.agg #[.int .i64 F, .bool (folder en s.toList), .bool (thing en s.toList)]) W := by
 rw [← hF]; exact look57 h.map hs
end Go.Proofs.YtlehncfehoelbaaGreatDoor
namespace Go.Proofs.YtlehncfehoelbaaGreatDoor
open Go.RowKit Go.Shelf
set_option maxRecDepth 100000
set_option linter.unusedSimpArgs false
set_option linter.unusedVariables false
/-- the shelf's numbers as this program's -/
def renM : Ren := ⟨fun k => if k = 212 then 95 else if k = 263 then 115 else if k = 264 then 116 else k, fun k => if k = 46 then 147 else if k = 51 then 176 else if k = 53 then 179 else if k = 146 then 177 else if k = 148 then 180 else k, fun k => k⟩
set_option maxHeartbeats 4000000 in
set_option maxRecDepth 100000 in
theorem laysM : Lays.n212 Tryz.prog renM := by
 constructor <;> first | kernel_rfl | (intro w; kernel_rfl)
theorem bmul_any (x y : Nat) (hx : x < 18446744073709551616) (hy : y < 18446744073709551616) (w : World) :
  Calls Tryz.prog 95 #[.int .u64 x, .int .u64 y] w fun e w' => e = .returned (.tuple #[.int .u64 ((x * y / 18446744073709551616 : Nat) : Int), .int .u64 ((x * y % 18446744073709551616 : Nat) : Int)]) ∧ w' = w := Any.bits_Mul laysM x y hx hy w
end Go.Proofs.YtlehncfehoelbaaGreatDoor
namespace Go.Proofs.YtlehncfehoelbaaGreatDoor
open Go.RowKit
set_option maxRecDepth 100000
set_option linter.unusedSimpArgs false
set_option linter.unusedVariables false
theorem bmul1 (n : Nat) (hn : n ≤ 100000) (w : World) : Calls Tryz.prog 95 #[.int .u64 1, .int .u64 n] w fun e w' => e = .returned (.tuple #[.int .u64 0, .int .u64 (n : Int)]) ∧ w = w' := by
 have h := bmul_any 1 n (by decide) (by omega) w
 rw [Nat.one_mul, Nat.div_eq_of_lt (by omega), Nat.mod_eq_of_lt (by omega)] at h
 exact h.mono fun e w' ⟨h1, h2⟩ => ⟨h1, h2.symm⟩
theorem Tryz.sizeI : (Tryz.prog.info? 3).map (·.size) = some 1 := by kernel_rfl
theorem Tryz.infoI : (Tryz.prog.info? 3).map (fun i => (i.zero, i.size, i.bytes)) = some (some (.int .i64 0), 1, 8) := by kernel_rfl
theorem step_copyI {P : Program} {ops : Array Oper} {o : Oper} {a : Act} {w : World} {K : Act → World → Prop} {Q : Exit → Act → World → Prop} {E : Prop} (hgd : o.guard = none) (d s : Operand) (dT sT : TypeId)
  (ho : o.op = .call { callee := .builtin .copy, args := #[d, s], argTypes := #[dT, sT] }) (elem : TypeId) (hu : P.underlying dT = some (.slice elem)) (hsz : (P.info? elem).map (·.size) = some 1)
  (dLen dCap sLen sCap : Nat) (g off : Nat) (ad : Addr) (hd : a.eval d = .slice (some ⟨g, off, none⟩) dLen dCap) (hs : a.eval s = .slice (some ad) sLen sCap)
  (cur : List Value) (t : TypeId) (hg : Bx w g t cur) (cs : List Value) (hn : cs.length = Nat.min sLen dLen)
  (hsrc : ∀ j v, cs[j]? = some v → w.cell? (ad.add j) = some v) (hfit : off + cs.length ≤ cur.length) (h1 : ∀ v ∈ cs, v.oneCell' = true)
  (h : ∀ w', Bx w' g t (splice cur off cs) → w.grownBy w' (some g) → K (a.put o.dst (.int .i64 (cs.length : Int))) w') :
  if Region.wanted o (yielded ops a.tmps) = true then Oper.wp P o a w K Q else E := by
 rw [if_pos (by simp [Region.wanted, hgd])]
 have hrun := run_copy_row (P := P) w dT sT o.type elem g off dLen dCap ad sLen sCap cur.toArray t cs hu hsz hg.blk hn hsrc (by simpa using hfit) h1
 unfold Oper.wp
 simp [execOp, ho, resolve, invoke, builtin, hd, hs, hrun, Result.andThen]
 exact h _ ⟨by simpa [splice] using setRow_heap w g _ _ t _ hg.blk⟩ ⟨rfl, rfl, rfl, by simp, fun k _ hk => setRow_other w g k _ (fun e => hk (by rw [e]))⟩
theorem wpList_copyI {P : Program} {ops : Array Oper} {rest : List Oper} {o : Oper} {a : Act} {w : World} {Q : Exit → Act → World → Prop} (hgd : o.guard = none) (d s : Operand) (dT sT : TypeId)
  (ho : o.op = .call { callee := .builtin .copy, args := #[d, s], argTypes := #[dT, sT] }) (elem : TypeId) (hu : P.underlying dT = some (.slice elem)) (hsz : (P.info? elem).map (·.size) = some 1)
  (dLen dCap sLen sCap : Nat) (g off : Nat) (ad : Addr) (hd : a.eval d = .slice (some ⟨g, off, none⟩) dLen dCap) (hs : a.eval s = .slice (some ad) sLen sCap)
  (cur : List Value) (t : TypeId) (hg : Bx w g t cur) (cs : List Value) (hn : cs.length = Nat.min sLen dLen)
  (hsrc : ∀ j v, cs[j]? = some v → w.cell? (ad.add j) = some v) (hfit : off + cs.length ≤ cur.length) (h1 : ∀ v ∈ cs, v.oneCell' = true)
  (h : ∀ w', Hid (Bx w' g t (splice cur off cs)) → Hid (w.grownBy w' (some g)) → wpList P ops Q rest (a.put o.dst (.int .i64 (cs.length : Int))) w') : wpList P ops Q (o :: rest) a w := by
 refine wpList_plain hgd fun K hK => ?_
 have := step_copyI (P := P) (ops := ops) (o := o) (a := a) (w := w) (K := K) (Q := Q) (E := False) hgd d s dT sT ho elem hu hsz dLen dCap sLen sCap g off ad hd hs cur t hg cs hn hsrc hfit h1 (fun w' hb hg => hK _ _ (h w' hb hg))
 rwa [if_pos (by simp [Region.wanted, hgd])] at this
/-- k of n numbers are laid -/
def rpt (k n : Nat) : List Value := List.replicate k (.int .i64 (-1)) ++ List.replicate (n - k) (.int .i64 0)
theorem rpt_len {k n : Nat} (h : k ≤ n) : (rpt k n).length = n := by unfold rpt; simp; omega
theorem rpt_splice {k m n : Nat} (h : k + m ≤ n) : splice (rpt k n) k (List.replicate m (.int .i64 (-1))) = rpt (k + m) n := by
 unfold splice rpt
 rw [List.take_left' (by simp), List.length_replicate, List.drop_append, List.drop_eq_nil_of_le (by simp), List.nil_append, List.length_replicate, Nat.add_sub_cancel_left, List.drop_replicate, ← List.append_assoc, List.replicate_append_replicate, Nat.sub_sub]
theorem rpt_get {k n i : Nat} (h : i < k) : (rpt k n)[i]? = some (.int .i64 (-1)) := by
 unfold rpt
 rw [List.getElem?_append_left (by simpa using h), List.getElem?_replicate, if_pos h]
theorem made_int (n : Nat) : (madeCells (Value.int .i64 0).cells (n * 1)).toList = rpt 0 n := by
 unfold madeCells rpt
 simp [Value.cells]
 apply List.ext_getElem?
 intro i
 rw [List.getElem?_map, List.getElem?_replicate]
 by_cases h : i < n
 ·rw [List.getElem?_range h, if_pos h]
  simp [Nat.mod_one]
 ·rw [if_neg h, List.getElem?_eq_none (by simpa using h)]
  rfl
theorem own_bx {W : World} {base e n : Nat} {g : Nat} {xs : List Value} (h : W.ownsRow base e 1 (.slice (some ⟨g, 0, none⟩) n n) n xs) : Bx W g e xs := by
 rcases h.2 with ⟨h0, _⟩ | ⟨g', cap', cur, hv, hg, hb, hn, hcap, hsz, ht⟩
 ·cases h0
 ·injection hv with h1 h2 h3
  injection h1 with h1
  injection h1 with h1
  subst h1 h3
  rw [List.take_of_length_le (by rw [Array.length_toList, hsz]; exact Nat.le_refl _)] at ht
  exact ⟨by rw [hb, ← ht]⟩
theorem bx_own {W : World} {base e n g : Nat} {xs : List Value} (h : Bx W g e xs) (hb : base ≤ g) (hl : xs.length = n) (hm : n ≤ maxLen) : W.ownsRow base e 1 (.slice (some ⟨g, 0, none⟩) n n) n xs :=
 ⟨by rw [Nat.mul_one]; exact hl, .inr ⟨g, n, xs.toArray, rfl, hb, h.blk, Nat.le_refl _, hm, by simp [hl], by simp [← hl]⟩⟩
theorem copyI_here {P : Program} {w : World} {ops : Array Oper} {rest : List Oper} {a : Act} {Q : Exit → Act → World → Prop} {dst : Option Nat} {as_ : Array Operand} {ts : Array TypeId} {type : TypeId} {pos : String} {after : Array Edge} {guard : Option (Nat × Bool)}
  (h : wpList P ops Q (⟨dst, .call ⟨.builtin .copy, as_, ts⟩, type, pos, after, guard⟩ :: rest) a w) : wpList P ops Q (⟨dst, .call ⟨.builtin .copy, as_, ts⟩, type, pos, after, guard⟩ :: rest) a w := h
theorem one_rep (m : Nat) : ∀ v ∈ List.replicate m (Value.int .i64 (-1)), v.oneCell' = true := fun v hv => by rw [List.eq_of_mem_replicate hv]; rfl
set_option maxHeartbeats 4000000 in
theorem prepeat_any (b n : Nat) (w : World) (hc : w.cell? ⟨b, 0, none⟩ = some (.int .i64 (-1))) (h1 : 1 ≤ n) (hn : n ≤ 100000) :
  Calls Tryz.prog 64 #[.slice (some ⟨b, 0, none⟩) 1 1, .int .i64 n] w fun e w' => ∃ g, e = .returned (.slice (some ⟨g, 0, none⟩) n n) ∧ w'.ownsRow w.heap.size 3 1 (.slice (some ⟨g, 0, none⟩) n n) n (List.replicate n (.int .i64 (-1))) ∧ w.grownBy w' none := by
 obtain ⟨ia, hi, hz0, hz1, hz2⟩ := info_parts Tryz.infoI
 have hm := fun W => bmul1 n hn W
 have hb := cell_lt11 hc
 go_enter Tryz.func64, Tryz.ntmps64
 go_wp2_with (first | (go_at_call 95; refine (hm _).mono ?_; rintro e w' ⟨rfl, rfl⟩) | (at_make; refine wpList_make_full _ rfl _ _ 83 rfl w.heap.size 3 ia _ 1 Tryz.underlying83 hi hz0 hz1 .i64 .i64 _ _ n rfl rfl rfl rfl (by rw [hz2]; omega) (by unfold maxLen; omega) (Nat.le_refl _) ?_; intro W1 ho1 g1; have hc1 := cell_grown hc g1; have HB1 : Hid (Bx W1 w.heap.size 3 (rpt 0 n)) := own_bx (by rw [← made_int]; exact ho1); have HG1 : Hid _ := g1; clear ho1 g1) | ((with_reducible refine copyI_here ?_); refine wpList_copyI rfl _ _ 83 83 rfl 3 Tryz.underlying83 Tryz.sizeI n n 1 1 w.heap.size 0 ⟨b, 0, none⟩ rfl rfl (rpt 0 n) 3 HB1.out (List.replicate 1 (.int .i64 (-1))) (by show 1 = Nat.min 1 n; exact (Nat.min_eq_left h1).symm) (fun j v hv => by cases j with | zero => (injection hv with hv; rw [← hv]; exact hc1) | succ j => cases hv) (by rw [rpt_len (Nat.zero_le n)]; simp; omega) (one_rep 1) ?_; intro W2 hb2 g2; have HB2 : Hid (Bx W2 w.heap.size 3 (rpt 1 n)) := (by have h3 := hb2.out; have h4 := rpt_splice (k := 0) (m := 1) (n := n) (by omega); rw [h4] at h3; exact h3); have HG2 : Hid (w.grownBy W2 none) := grown_new HG1.out g2.out (Nat.le_refl _); clear hb2 g2 HB1 HG1 hc1))
 clear hm hc
 generalize hg : w.heap.size = g at *
 have HGS : Hid _ := hg
 clear hg
 go_loopw [8] (fun v wr => ∃ k : Nat, 1 ≤ k ∧ k ≤ n ∧ v = .int .i64 k ∧ Hid (Bx wr g 3 (rpt k n)) ∧ Hid (w.grownBy wr none)) (fun v _ => n - (intOf v).toNat)
 case atStart => exact ⟨1, Nat.le_refl _, h1, rfl, HB2.out, HG2.out⟩
 case round =>
  clear HB2 HG2
  obtain ⟨k, hk1, hk, rfl, HB, HG⟩ := hrel
  by_cases hlt : k < n
  ·have hlti : (k : Int) < (n : Int) := by omega
   go_wp2_with fail
   refine wp_region_held_drew (S := fun w' => w.grownBy w' none) (by kernel_rfl) (grown_trans HG.out (drewG0 wr)) (fun hH => ?_)
   have hB := HB.out.kept (drewG0 wr)
   clear HB HG
   generalize wr.drew = WD at *
   refine wpAnyH_take (i := 0) (oi := ⟨some 38, _, _, _, _, _⟩) (v := .int .i64 k) rfl (by kernel_rfl) (by kernel_rfl) (by kernel_rfl) (fun _ _ _ h => h) (Or.inl ⟨by rfl, fun w hSw => by go_simp⟩) hH ?_
   simp only [Act.put, pu]
   refine wpAnyH_take (i := 1) (oi := ⟨some 39, _, _, _, _, _⟩) (v := .slice (some ⟨g, 0, none⟩) n n) rfl (by kernel_rfl) (by kernel_rfl) (by kernel_rfl) (fun _ _ _ h => h) (Or.inl ⟨by rfl, fun w hSw => by go_simp⟩) hH ?_
   simp only [Act.put, pu]
   refine wpAnyH_take (i := 2) (oi := ⟨some 40, _, _, _, _, _⟩) (v := .int .i64 k) rfl (by kernel_rfl) (by kernel_rfl) (by kernel_rfl) (fun _ _ _ h => h) (Or.inl ⟨by rfl, fun w hSw => by go_simp⟩) hH ?_
   simp only [Act.put, pu]
   refine wpAnyH_take (i := 3) (oi := ⟨some 41, _, _, _, _, _⟩) (v := .slice (some ⟨g, k, none⟩) (n - k) (n - k)) rfl (by kernel_rfl) (by kernel_rfl) (by kernel_rfl) (fun _ _ _ h => h) (Or.inl ⟨by rfl, fun w hSw => by go_simp; omega⟩) hH ?_
   simp only [Act.put, pu]
   refine wpAnyH_take (i := 4) (oi := ⟨some 42, _, _, _, _, _⟩) (v := .slice (some ⟨g, 0, none⟩) n n) rfl (by kernel_rfl) (by kernel_rfl) (by kernel_rfl) (fun _ _ _ h => h) (Or.inl ⟨by rfl, fun w hSw => by go_simp⟩) hH ?_
   simp only [Act.put, pu]
   refine wpAnyH_take (i := 5) (oi := ⟨some 43, _, _, _, _, _⟩) (v := .int .i64 k) rfl (by kernel_rfl) (by kernel_rfl) (by kernel_rfl) (fun _ _ _ h => h) (Or.inl ⟨by rfl, fun w hSw => by go_simp⟩) hH ?_
   simp only [Act.put, pu]
   refine wpAnyH_take (i := 6) (oi := ⟨some 44, _, _, _, _, _⟩) (v := .slice (some ⟨g, 0, none⟩) k n) rfl (by kernel_rfl) (by kernel_rfl) (by kernel_rfl) (fun _ _ _ h => h) (Or.inl ⟨by rfl, fun w hSw => by go_simp⟩) hH ?_
   simp only [Act.put, pu]
   obtain ⟨m, hm⟩ : ∃ m, m = Nat.min k (n - k) := ⟨_, rfl⟩
   have hm1 : m ≤ k := by rw [hm]; exact Nat.min_le_left _ _
   have hm2 : m ≤ n - k := by rw [hm]; exact Nat.min_le_right _ _
   have hm3 : 1 ≤ m := by rw [hm]; exact Nat.le_min.2 ⟨hk1, by omega⟩
   have HM : Hid _ := hm
   clear hm
   have hwr : IntKind.i64.wrap ((k : Int) + (m : Int)) = (k : Int) + (m : Int) := by simp [IntKind.wrap, IntKind.bits, IntKind.signed]; omega
   refine wpAnyH_ready (rs := [7]) (by kernel_rfl) (by simp) ?_
   refine AllReadyH.cons rfl (fun K1 hK => ?_) AllReadyH.nil
   refine step_copyI rfl _ _ 83 83 rfl 3 Tryz.underlying83 Tryz.sizeI (n - k) (n - k) k n g k ⟨g, 0, none⟩ rfl rfl (rpt k n) 3 hB (List.replicate m (.int .i64 (-1))) (by rw [List.length_replicate]; exact HM.out) (fun j v hv => ?_) (by rw [rpt_len hk, List.length_replicate]; omega) (one_rep _) (fun W3 hb3 g3 => ?_)
   ·have hj : j < m := by have := (List.getElem?_eq_some_iff.1 hv).1; simpa using this
    rw [List.getElem?_replicate, if_pos hj] at hv
    injection hv with hv
    have e : (⟨g, 0, none⟩ : Addr).add j = ⟨g, j, none⟩ := by (simp [Addr.add]; intro h; exact h.symm)
    rw [e, hB.c j, rpt_get (by omega), hv]
   rw [rpt_splice (by omega)] at hb3
   rw [List.length_replicate]
   replace hH := grown_new hH g3 (by rw [HGS.out]; exact Nat.le_refl _)
   have HB3 : Hid _ := hb3
   clear g3 hb3 hB
   refine hK.out _ _ hH (fun _ => ?_)
   clear hK K1
   simp only [Act.put, List.getElem_toArray, List.getElem_cons_succ, List.getElem_cons_zero, List.setIfInBounds_toArray, List.set_cons_zero, List.set_cons_succ]
   refine wpAnyH_take (i := 8) (oi := ⟨some 46, _, _, _, _, _⟩) (v := .int .i64 ((k + m : Nat) : Int)) rfl (by kernel_rfl) (by kernel_rfl) (by kernel_rfl) (fun _ _ _ h => h) (Or.inl ⟨by rfl, fun w hSw => by go_simp⟩) hH ?_
   simp only [Act.put, pu]
   refine wpAnyH_take (i := 9) (oi := ⟨some 8, _, _, _, _, _⟩) (v := .int .i64 ((k + m : Nat) : Int)) rfl (by kernel_rfl) (by kernel_rfl) (by kernel_rfl) (fun _ _ _ h => h) (Or.inl ⟨by rfl, fun w hSw => by go_simp⟩) hH ?_
   simp only [Act.put, pu]
   refine wpAnyH_done (by kernel_rfl) ?_ _
   clear hwr
   go_wp2_with fail
   exact ⟨⟨k + m, by omega, by omega, rfl, HB3, hH⟩, by simp [intOf]; omega⟩
  ·have hlti : ¬ (k : Int) < (n : Int) := by omega
   obtain rfl : k = n := by omega
   have HO : Hid (wr.ownsRow g 3 1 (.slice (some ⟨g, 0, none⟩) k k) k (List.replicate k (.int .i64 (-1)))) := bx_own (by have := HB.out; unfold rpt at this; rw [Nat.sub_self, List.replicate_zero, List.append_nil] at this; exact this) (Nat.le_refl _) (by simp) (by unfold maxLen; omega)
   clear HB
   go_wp2_with fail
   go_ret
   exact ⟨g, rfl, by rw [HGS.out]; exact HO.out, HG.out⟩
/-- has it the root's entry? -/
def hasR (l : List EnV) : Bool := l.any fun X => X.path.toList == []
theorem pwr1_any (X : EnV) (w : World) : Calls Tryz.prog 70 #[X.val] w fun e w' => e = .returned (.bool (X.path.toList == [])) ∧ w.grownBy w' none := by
 obtain ⟨path, K, mode, uid, gid, time, size, da, dl, dc, data, target, dev, aa, al, ac, attrs⟩ := X
 simp only [EnV.val]
 generalize hB : (path.toList == []) = B
 cases B <;>
 ·go_enter Tryz.func70, Tryz.ntmps70
  go_wp2_with fail
  go_ret
  exact ⟨by first | rfl | simpa using hB, World.grownBy_alloc _ _ none⟩
set_option maxHeartbeats 4000000 in
theorem pidxf_any (a : Option Addr) (len cap : Nat) (l : List EnV) (w : World) (E : Ens w a len l) :
  Calls Tryz.prog 104 #[.slice a len cap, .func (.func 70) #[] #[]] w fun e w' => ∃ i : Int, e = .returned (.int .i64 i) ∧ decide (0 ≤ i) = hasR l ∧ w.grownBy w' none := by
 have hll := E.len_eq
 have hle : len ≤ 9223372036854775807 := E.le
 have hta : l.take len = l := List.take_of_length_le (by omega)
 have HI : Hid _ := And.intro E (And.intro hll hta)
 clear E hll hta
 go_enter Tryz.func104, Tryz.ntmps104
 go_wp2_with fail
 go_loopw [8] (fun vi wr => ∃ (k : Nat), k ≤ len ∧ vi = .int .i64 k ∧ Hid (hasR (l.take k) = false) ∧ Hid (w.grownBy wr none)) (fun vi _ => len - (intOf vi).toNat)
 case atStart => exact ⟨0, Nat.zero_le _, rfl, rfl, World.grownBy.refl _ _⟩
 case round =>
  obtain ⟨k, hk, rfl, HS, HG⟩ := hrel
  by_cases hlt : k < len
  ·obtain ⟨Y, hY⟩ : ∃ Y, l[k]? = some Y := ⟨_, List.getElem?_eq_getElem (by have := HI.out.2.1; omega)⟩
   obtain ⟨b, off, rfl, hat⟩ := (HI.out.1.grown HG.out).at_ (by omega)
   obtain ⟨y0, y1, y2, y3, y4, y5, y6, y7, y8, y9, y10, yok⟩ := hat k Y hY
   have hcl := fun W => pwr1_any Y W
   have hst : hasR (l.take (k + 1)) = (Y.path.toList == []) := by
    unfold hasR at *
    rw [List.take_add_one, hY, List.any_append, HS.out]
    simp
   have HN : Hid _ := hst
   clear hst hat yok hY
   obtain ⟨path, KY, mode, uid, gid, time, size, da, D, dc, data, target, dev, aa, al, ac, attrs⟩ := Y
   simp only [EnV.val] at hcl
   simp only at y0 y1 y2 y3 y4 y5 y6 y7 y8 y9 y10 HN
   generalize (path.toList == []) = B at *
   have hlti : (k : Int) < (len : Int) := by omega
   cases B with
   | true =>
    have HV : Hid (hasR l = true) := by
     show hasR l = true
     rw [← List.take_append_drop (k + 1) l]
     unfold hasR at *
     rw [List.any_append, HN.out]; rfl
    go_wp2_with (go_at_call 70; refine (hcl _).mono ?_; rintro e w' ⟨rfl, hg⟩)
    go_ret
    exact ⟨k, rfl, by rw [HV.out]; exact decide_eq_true (by omega), grown_trans HG.out hg⟩
   | false =>
    go_wp2_with (go_at_call 70; refine (hcl _).mono ?_; rintro e w' ⟨rfl, hg⟩)
    exact ⟨⟨k + 1, by omega, by go_num, HN, grown_trans HG.out hg⟩, by simp [intOf]; omega⟩
  ·have hlti : ¬ (k : Int) < (len : Int) := by omega
   obtain rfl : k = len := by omega
   have HV : Hid (hasR l = false) := by
    have := HS.out
    rw [HI.out.2.2] at this
    exact this
   go_wp2_with fail
   go_ret
   exact ⟨-1, rfl, by rw [HV.out]; rfl, HG.out⟩
theorem pconf_any (a : Option Addr) (len cap : Nat) (l : List EnV) (w : World) (E : Ens w a len l) :
  Calls Tryz.prog 69 #[.slice a len cap, .func (.func 70) #[] #[]] w fun e w' => e = .returned (.bool (hasR l)) ∧ w.grownBy w' none := by
 have h := pidxf_any a len cap l w E
 generalize hasR l = B at *
 clear E
 go_enter Tryz.func69, Tryz.ntmps69
 go_wp2_with (go_at_call 104; refine h.mono ?_; rintro e w' ⟨i, rfl, hi, hg⟩; have HI : Hid _ := hi; clear hi)
 go_ret
 exact ⟨by rw [← HI.out]; rfl, hg⟩
theorem info_parts {P : Program} {t : TypeId} {z : Option Value} {s b : Nat} (h : (P.info? t).map (fun i => (i.zero, i.size, i.bytes)) = some (z, s, b)) : ∃ i, P.info? t = some i ∧ i.zero = z ∧ i.size = s ∧ i.bytes = b := by
 cases e : P.info? t with
 | none => rw [e] at h; simp at h
 | some i => rw [e] at h; simp at h; exact ⟨i, rfl, h.1, h.2.1, h.2.2⟩
theorem cell_one (w : World) (t : TypeId) (v : Value) (j : Nat) (u : Value) (h : ([v])[j]? = some u) : (w.alloc (.cells #[v] t)).cell? ((⟨w.heap.size, 0, none⟩ : Addr).add j) = some u := by
 cases j with
 | zero =>
  simp at h
  subst h
  simp [Addr.add]
 | succ j => simp at h
theorem grown_own {a b c : World} {base t s n : Nat} {v : Value} {xs : List Value} (h : a.grownBy b none) (ho : b.ownsRow base t s v n xs) (k : b.grownBy c v.ownBlock) (hb : a.heap.size ≤ base) : a.grownBy c none :=
 ⟨k.os.trans h.os, k.tape.trans h.tape, k.output.trans h.output, Nat.le_trans h.size k.size, fun i hi hr => (k.block i (Nat.lt_of_lt_of_le hi h.size) (fun e => by have := (ho.lt i e.symm).1; omega)).trans (h.block i hi hr)⟩
/-- a text's bytes as numbers -/
def nus (l : Tx) : List Int := l.map fun b => (b.toNat : Int)
theorem nus_app (a b : Tx) : nus (a ++ b) = nus a ++ nus b := by simp [nus]
theorem nus_byt (l : Tx) : Byt (nus l) := fun n hn => by
 obtain ⟨b, _, rfl⟩ := List.mem_map.1 hn
 have := UInt8.toNat_lt b
 omega
theorem nus_cells (s : ByteArray) : Lib.strCells s = bv (nus s.toList) := by
 unfold Lib.strCells bv nus
 rw [ByteArray.toList_eq, List.map_map]
 rfl
theorem nus_str (l : Tx) : strOfNums (nus l) = tx l := by
 apply tl_inj
 rw [str_toList, tx_tl]
 unfold nus
 rw [List.map_map]
 conv => rhs; rw [← List.map_id l]
 apply List.map_congr_left
 intro b _
 simp
set_option maxHeartbeats 2000000 in
theorem pjoin_any (a : Option Addr) (n c : Nat) (l : List ByteArray) (w : World) (R : SRow w a n l) (hnc : n ≤ c) (hn : n ≤ 1000000) (hl : ∀ i, (l.getD i ⟨#[]⟩).size ≤ 5000) :
  Calls Tryz.prog 112 #[.slice a n c] w fun e w' => e = .returned (.tuple #[.string (tx (jnp (tls l)).1), .int .i64 (jnp (tls l)).2]) ∧ w.grownBy w' none := by
 have hln : (tls l).length = n := by rw [tls_len]; exact R.len_eq
 by_cases hm : 128 < n
 ·have e : jnp (tls l) = ([], 3) := by unfold jnp; rw [hln, if_pos hm]
  rw [e]
  have hmi : (128 : Int) < n := by omega
  go_enter Tryz.func112, Tryz.ntmps112
  go_wp2
  go_ret2
  exact ⟨rfl, World.grownBy.refl _ _⟩
 ·have hmi : ¬ (128 : Int) < n := by omega
  have HJ : Hid (jnp (tls l) = if (tls l).any (fun p => !prt p) then ([], 1) else if 4096 < (joi (tls l)).length then ([], 2) else (joi (tls l), 0)) := by
   show jnp (tls l) = _
   unfold jnp; rw [hln, if_neg hm]
  have HB : Hid (∀ p ∈ tls l, p.length ≤ 5000) := by
   intro p hp
   obtain ⟨x, hx, rfl⟩ := List.mem_map.1 hp
   obtain ⟨i, hi, rfl⟩ := List.getElem_of_mem hx
   have := hl i
   rw [tl_len]
   simpa [List.getD_eq_getElem?_getD, hi] using this
  generalize hT : tls l = T at *
  have HT : Hid _ := And.intro hT hln
  have HR : Hid _ := And.intro R hl
  have HTK : Hid (∀ k, k < n → T.take (k + 1) = T.take k ++ [(l.getD k ⟨#[]⟩).toList]) := by
   intro k hlt
   rw [List.take_succ_eq_append_getElem (by rw [HT.out.2]; exact hlt)]
   congr 2
   have hkl : k < l.length := by rw [HR.out.1.len_eq]; exact hlt
   simp only [← HT.out.1, tls, List.getElem_map, List.getD_eq_getElem?_getD, List.getElem?_eq_getElem hkl, Option.getD_some]
  clear R hl hT hln
  go_enter Tryz.func112, Tryz.ntmps112
  go_wp2
  go_loopw [14] (fun vi wr => ∃ k : Nat, k ≤ n ∧ vi = .int .i64 k ∧ Hid ((T.take k).any (fun p => !prt p) = false) ∧ w = wr) (fun vi _ => n - (intOf vi).toNat)
  case atStart => exact ⟨0, Nat.zero_le _, rfl, rfl, rfl⟩
  case round =>
   obtain ⟨k, hk, rfl, HP, rfl⟩ := hrel
   by_cases hlt : k < n
   ·obtain ⟨b1, o1, rfl, c1⟩ := HR.out.1.cells (by omega)
    have hx := c1 k hlt
    have hsz := HR.out.2 k
    have hTk := HTK.out k hlt
    generalize l.getD k ⟨#[]⟩ = x at *
    have hv := fun W => pvalid_eq x W (by omega)
    have HTk : Hid _ := hTk
    clear hTk c1
    have hlti : (k : Int) < n := by omega
    cases hpr : prt x.toList with
    | false =>
     have HV : Hid (jnp T = ([], 1)) := by
      show jnp T = ([], 1)
      rw [HJ.out, if_pos]
      rw [List.any_eq_true]
      refine ⟨x.toList, List.mem_of_mem_take (i := k + 1) ?_, by rw [hpr]; rfl⟩
      rw [HTk.out]; simp
     have hp2 : (x.toList == [46, 46]) = false ∧ vld x.toList = false := by unfold prt at hpr; rwa [Bool.or_eq_false_iff] at hpr
     obtain ⟨hx2, hvv⟩ := hp2
     rw [hvv] at hv
     clear hpr hvv HTk HP
     go_wp2_with (go_at_call 83; refine (hv _).mono ?_; rintro e w' ⟨rfl, rfl⟩)
     go_ret2
     exact ⟨by rw [HV.out]; rfl, World.grownBy.refl _ _⟩
    | true =>
     have HP2 : Hid ((T.take (k + 1)).any (fun p => !prt p) = false) := by
      show (T.take (k + 1)).any (fun p => !prt p) = false
      rw [HTk.out, List.any_append, HP.out]; simp [hpr]
     have hp2 : (x.toList == [46, 46]) = true ∨ ((x.toList == [46, 46]) = false ∧ vld x.toList = true) := by
      unfold prt at hpr
      cases h : (x.toList == [46, 46]) with
      | true => exact Or.inl rfl
      | false => rw [h, Bool.false_or] at hpr; exact Or.inr ⟨rfl, hpr⟩
     clear hpr HP HTk
     rcases hp2 with hx2 | ⟨hx2, hvv⟩
     ·go_wp2_with (go_at_call 83; refine (hv _).mono ?_; rintro e w' ⟨rfl, rfl⟩)
      go_roundw
      case rel => exact ⟨k + 1, by omega, by go_num, HP2, by first | rfl | trivial⟩
      case measure => simp [intOf]; omega
     ·rw [hvv] at hv
      go_wp2_with (go_at_call 83; refine (hv _).mono ?_; rintro e w' ⟨rfl, rfl⟩)
      go_roundw
      case rel => exact ⟨k + 1, by omega, by go_num, HP2, by first | rfl | trivial⟩
      case measure => simp [intOf]; omega
   ·obtain rfl : k = n := by omega
    have hnl : ¬ (k : Int) < k := by omega
    have HJ2 : Hid (jnp T = if 4096 < (joi T).length then ([], 2) else (joi T, 0)) := by
     show jnp T = _
     have hTT : T.take k = T := List.take_of_length_le (by rw [HT.out.2]; exact Nat.le_refl _)
     have := HP.out
     rw [hTT] at this
     rw [HJ.out, this, if_neg (by decide)]
    clear HJ HP
    go_wp2
    obtain ⟨i5, hi, hz0, hz1, hz2⟩ := info_parts Tryz.info5
    go_loopw [6, 28] (fun vp vi wr => ∃ j : Nat, j ≤ k ∧ vi = .int .i64 j ∧ wr.ownsRow w.heap.size 5 1 vp (joi (T.take j)).length (bv (nus (joi (T.take j)))) ∧ w.grownBy wr none) (fun _ vi _ => k - (intOf vi).toNat)
    case atStart => exact ⟨0, Nat.zero_le _, rfl, World.ownsRow_nil _ _ _ _, World.grownBy.refl _ _⟩
    case round =>
     obtain ⟨j, hj, rfl, hown, hgr⟩ := hrel
     have hJl : (joi (T.take j)).length ≤ 640128 := by
      have h1 := joi_len (T.take j) 5000 (fun p hp => HB.out p (List.mem_of_mem_take hp))
      have h2 : (T.take j).length ≤ 128 := by rw [List.length_take]; omega
      exact Nat.le_trans h1 (Nat.le_trans (Nat.mul_le_mul_right _ h2) (by decide))
     by_cases hlt : j < k
     ·obtain ⟨b1, o1, rfl, c1⟩ := HR.out.1.cells (by omega)
      have hx := ((HR.out.1.grown hgr).cells (by omega))
      obtain ⟨b2, o2, he2, c2⟩ := hx
      obtain ⟨rfl, rfl⟩ : b1 = b2 ∧ o1 = o2 := by injection he2 with he2; injection he2 with h1 h2; exact ⟨h1, h2⟩
      have hx := c2 j hlt
      have hsz := HR.out.2 j
      have hTk := HTK.out j hlt
      generalize l.getD j ⟨#[]⟩ = x at *
      clear c1 c2 he2
      have hlti : (j : Int) < k := by omega
      by_cases hj0 : j = 0
      ·have hs1 : joi (T.take (j + 1)) = joi (T.take j) ++ x.toList := by
        rw [hTk, hj0]
        simp [joi]
       have HS : Hid _ := hs1
       have hji : ¬ (0 : Int) < j := by omega
       clear hs1 hTk hj0
       generalize hq : joi (T.take j) = q at *
       have HQ : Hid _ := hq
       clear hq
       go_wp2_with (at_builtin; refine Lib.wpList_append_own_string _ rfl _ _ 23 9 rfl w.heap.size 5 i5 Tryz.underlying23 Tryz.underlying9 hi hz0 hz1 hz2 _ _ _ rfl hown x rfl (by unfold maxLen; omega) (by omega) hgr.size ?_; intro v' w1 hown' hgrow _)
       have hj1 : joi (T.take (j + 1)) = q ++ x.toList := by rw [HS.out]
       have R : w1.ownsRow w.heap.size 5 1 v' (joi (T.take (j + 1))).length (bv (nus (joi (T.take (j + 1))))) := by
        rw [hj1, List.length_append, tl_len, nus_app, bv_append, ← nus_cells]
        exact hown'
       exact ⟨⟨j + 1, by omega, by go_num, R, grown_own hgr hown hgrow (Nat.le_refl _)⟩, by simp [intOf]; omega⟩
      ·have hs1 : joi (T.take (j + 1)) = joi (T.take j) ++ [47] ++ x.toList := by
        rw [hTk, joi_snoc _ _ (by intro e; have := congrArg List.length e; rw [List.length_take, HT.out.2] at this; simp at this; omega)]
        simp
       have HS : Hid _ := hs1
       have hji : (0 : Int) < j := by omega
       clear hs1 hTk hj0
       generalize hq : joi (T.take j) = q at *
       have HQ : Hid _ := hq
       clear hq
       go_wp2_with (at_builtin; (refine wpList_append_own _ rfl _ _ 23 rfl w.heap.size 5 i5 (.int .u8 0) 1 1 Tryz.underlying23 hi hz0 hz1 hz2 rfl (by decide) _ _ _ rfl (hown.alloc _) ⟨wr.heap.size, 0, none⟩ 1 1 (bv [47]) rfl rfl ?c1 (bv_one _) ?c3 ?c4 ?c5 ?_))
       case c1 => first | exact cell_one _ _ _ | exact fun j u h => h
       case c3 => unfold maxLen; omega
       case c4 => omega
       case c5 => have := hgr.size; simp; omega
       ·intro v2 w2 hown2 hgrow2 _
        have hgr2 : w.grownBy w2 none := grown_own (grown_tr hgr (World.grownBy_alloc wr _ none)) (hown.alloc _) hgrow2 (Nat.le_refl _)
        clear hgrow2 hown hgr hx
        go_wp2_with (at_builtin; refine Lib.wpList_append_own_string _ rfl _ _ 23 9 rfl w.heap.size 5 i5 Tryz.underlying23 Tryz.underlying9 hi hz0 hz1 hz2 _ _ _ rfl hown2 x rfl (by unfold maxLen; omega) (by omega) hgr2.size ?_; intro v' w1 hown' hgrow _)
        have hj1 : joi (T.take (j + 1)) = q ++ [47] ++ x.toList := by rw [HS.out]
        have R : w1.ownsRow w.heap.size 5 1 v' (joi (T.take (j + 1))).length (bv (nus (joi (T.take (j + 1))))) := by
         rw [hj1, List.length_append, List.length_append, tl_len, nus_app, nus_app, bv_append, bv_append, ← nus_cells]
         exact hown'
        exact ⟨⟨j + 1, by omega, by go_num, R, grown_own hgr2 hown2 hgrow (Nat.le_refl _)⟩, by simp [intOf]; omega⟩
     ·obtain rfl : j = k := by omega
      have hnl2 : ¬ (j : Int) < j := by omega
      have hTT : T.take j = T := List.take_of_length_le (by rw [HT.out.2]; exact Nat.le_refl _)
      rw [hTT] at hown hJl
      obtain ⟨a', c', rfl, RR⟩ := owns_row hown (nus_byt _) (by unfold maxLen; omega)
      have hconv := conv_row (P := Tryz.prog) RR c' 23 9 Tryz.underlying23 Tryz.underlying5 Tryz.underlying9
      rw [nus_str] at hconv
      generalize (joi T).length = len at *
      by_cases h4 : 4096 < len
      ·have HV : Hid (jnp T = ([], 2)) := by
        show jnp T = _
        rw [HJ2.out, if_pos h4]
       have h4i : (4096 : Int) < len := by omega
       clear HJ2 RR hown
       go_wp2
       go_ret2
       exact ⟨by rw [HV.out]; rfl, hgr⟩
      ·have HV : Hid (jnp T = (joi T, 0)) := by
        show jnp T = _
        rw [HJ2.out, if_neg h4]
       have h4i : ¬ (4096 : Int) < len := by omega
       have HV1 : Hid (tx (jnp T).1 = tx (joi T)) := by
        show tx (jnp T).1 = tx (joi T)
        rw [HV.out]
       have HV2 : Hid ((jnp T).2 = 0) := by
        show (jnp T).2 = 0
        rw [HV.out]
       clear HJ2 RR hown
       generalize tx (joi T) = S0 at *
       go_wp2
       go_ret2
       exact ⟨by rw [HV1.out, HV2.out]; rfl, hgr⟩
end Go.Proofs.YtlehncfehoelbaaGreatDoor
