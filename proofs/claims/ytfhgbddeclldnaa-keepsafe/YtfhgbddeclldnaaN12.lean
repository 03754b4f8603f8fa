/- The program's boot: a record's bytes. The program's boot: what bytes say; are bytes the same? The program's boot: the record of bytes. The program's boot: which of two counts. -/
import Derived.Laws.BytesArg
import Derived.Lib.Bytes
import Derived.Test.YtfhgbddeclldnaaN09
import Derived.Test.YtfhgbddeclldnaaN11
namespace Go.Proofs.Ytfhgbddeclldnaa
open Go.RowKit Go.Proofs.Ytfhgbddeclldnaa.Fi
set_option maxRecDepth 100000
set_option linter.unusedSimpArgs false
set_option linter.unusedVariables false

/-- Encode, as a plain function -/
def ren (r : Rc) : List Int × Int := if rrt r = true then (rby r, 0) else ([], 1)
/-- an answer of bytes, in new memory -/
def EnPost (w : World) (r : List Int × Int) (e : Ending) (w' : World) : Prop := ∃ a n c, e = .returned (.tuple #[.slice a n c, .int .i64 r.2]) ∧ w'.ownsRow w.heap.size 5 1 (.slice a n c) n (bv r.1) ∧ w.grownBy w' none
/-- a writer at work on a record's bytes -/
structure Ew (w W : World) (gr p : Nat) (r : Rc) (v : Value) (bs : List Int) : Prop where
  bx : Bx W gr 26 [.int .u64 r.q, .int .i64 r.s, .int .i64 r.l, .int .u64 r.u]
  wi : WInv W p v bs 32 0
  gw : w.grownBy W none
  lo : w.heap.size ≤ gr
  lt : gr < p
theorem Ew.kept {w W W' : World} {gr p : Nat} {r : Rc} {v : Value} {bs : List Int} (h : Ew w W gr p r v bs) (k : W.grownBy W' none) : Ew w W' gr p r v bs :=
  ⟨h.bx.kept k, h.wi.grown k, grown_trans h.gw k, h.lo, h.lt⟩
theorem Ew.on {w W W' : World} {gr p : Nat} {r : Rc} {v v' : Value} {bs bs' : List Int} (h : Ew w W gr p r v bs) (hi : WInv W' p v' bs' 32 0) (k : Fi.Chg W W' p v v') : Ew w W' gr p r v' bs' := by
  have hlt := h.lt
  have hlo := h.lo
  have own : ∀ j, j < p → some j ≠ v.ownBlock := fun j hj e => by have := (h.wi.own.lt j e.symm).1; omega
  refine ⟨⟨by rw [k.block gr h.bx.lt (by omega) (own gr hlt)]; exact h.bx.blk⟩, hi, ⟨k.os.trans h.gw.os, k.tape.trans h.gw.tape, k.output.trans h.gw.output, Nat.le_trans h.gw.size k.size, fun j hj _ => ?_⟩, h.lo, h.lt⟩
  rw [k.block j (by have := h.gw.size; omega) (by omega) (own j (by omega))]
  exact h.gw.block j hj (by simp)
theorem Ew.free {w W : World} {gr p : Nat} {r : Rc} {v : Value} {bs : List Int} (h : Ew w W gr p r v bs) : some W.heap.size ≠ v.ownBlock := fun e => by
  have := (h.wi.own.lt _ e.symm).2; omega
theorem sto_one {s : Int} (h0 : 0 ≤ s) (h1 : s ≤ 255) : sto s 1 = [s] := by
  have e : s % 256 = s := by omega
  first | (simp [sto, e]; done) | (unfold sto; simp [e]; done) | (rw [sto_snoc]; simp [sto, e])
theorem ckE0 {n : Int} {m : Int} (hw : isW m = true) (h : n ≤ lg m) : ckE n m = 0 := by
  unfold ckE; rw [if_pos hw, if_neg (by omega)]

theorem marked_row (w : World) (bs : List Int) (m : Nat × Nat) (hb : Byt bs) (hl : bs.length ≤ maxLen) : Row (w.alloc (.cells (bv bs).toArray 5 m)) (some ⟨w.heap.size, 0, none⟩) bs.length bs := by
  refine ⟨rfl, hl, hb, fun h0 => ⟨_, 0, rfl, fun i hi => ?_⟩⟩
  have e : (w.alloc (.cells (bv bs).toArray 5 m)).heap[w.heap.size]? = some (.cells (bv bs).toArray 5 m) := heap_alloc_new _ _
  unfold World.cell?
  simp only [e, Nat.zero_add]
  rw [List.getElem?_toArray, bv_getElem? bs i hi]
  rfl
set_option maxHeartbeats 2000000 in
theorem pencode_ok (r : Rc) (w : World) (h : r.ok) (hr : rrt r = true) : Calls Try.prog 32 #[r.val] w (EnPost w (rby r, 0)) := by
  have hrt := rrt_iff.1 hr
  have h1 := fun W => pright_any r W
  rw [hr] at h1
  obtain ⟨q, s, l, u⟩ := r
  obtain ⟨⟨q0, q1⟩, -, -, u0, u1⟩ := h
  simp only at *
  simp only [Rc.val] at *
  have B0 := Bx.new w 26 [.int .u64 q, .int .i64 s, .int .i64 l, .int .u64 u]
  have G0 := World.grownBy_alloc w (.cells #[.int .u64 q, .int .i64 s, .int .i64 l, .int .u64 u] 26) none
  have H0 : Hid _ := And.intro B0 G0
  clear B0 G0
  have HR : Hid _ := hrt
  have HQ : Hid _ := And.intro (And.intro q0 q1) (And.intro u0 u1)
  clear hrt hr q0 q1 u0 u1
  go_enter Try.func32, Try.ntmps32
  go_wp2_with fail
  refine (h1 _).mono ?_
  rintro e w1 ⟨rfl, g1⟩
  have H1 : Hid _ := And.intro (H0.out.1.kept g1) (grown_trans H0.out.2 g1)
  clear H0 g1 h1
  go_wp2_with fail
  refine (newwriter_any 32 _).mono ?_
  rintro e w2 ⟨rfl, i2, g2⟩
  rw [if_neg (by decide)] at i2
  have H2 : Hid (Ew w w2 w.heap.size w1.heap.size ⟨q, s, l, u⟩ (.slice none 0 0) []) := ⟨H1.out.1.kept g2, i2, grown_trans H1.out.2 g2, Nat.le_refl _, H1.out.1.lt⟩
  clear i2 g2
  have HP : Hid (w.heap.size < w1.heap.size) := H1.out.1.lt
  clear H1
  generalize w1.heap.size = p at *
  generalize w.heap.size = gr at *
  have hcv := Go.Lib.run_convert_bytes_const (P := Try.prog) w2 27 5 #[.int .u8 80, .int .u8 77, .int .u8 66, .int .u8 49] 4 4 Try.underlying27 Try.underlying5
  have R3 := marked_row w2 [80, 77, 66, 49] (4, 5) (byt_of _ (by decide)) (by decide)
  have HM : Hid _ := And.intro R3 (World.grownBy_alloc w2 (.cells #[.int .u8 80, .int .u8 77, .int .u8 66, .int .u8 49] 5 (4, 5)) none)
  clear R3
  go_wp2_with fail
  clear hcv
  have H3 : Hid _ := H2.out.kept HM.out.2
  refine (wbytes_apart p _ [] 32 _ 4 4 [80, 77, 66, 49] _ H3.out.wi HM.out.1 (fun b off e h => by injection e with e; injection e with e1 e2; subst e1; exact ⟨by simp, Nat.ne_of_gt H2.out.wi.blk.lt, H2.out.free⟩) (by decide) (by decide) (by decide) (by decide)).mono ?_
  rintro e w4 ⟨v4, rfl, i4, k4⟩
  have H4 : Hid (Ew w w4 gr p ⟨q, s, l, u⟩ v4 [80, 77, 66, 49]) := H3.out.on i4 k4
  clear i4 k4 H3 H2 HM
  obtain ⟨a0, a1, a2, a3⟩ := bx4 H4.out.bx
  go_wp2_with fail
  refine (wnum_ok p _ _ 32 q 8 _ H4.out.wi (ckE0 rfl (by show q ≤ 18446744073709551615; have := HQ.out; omega)) (by decide) (by decide) (by decide) (by decide)).mono ?_
  rintro e w5 ⟨v5, rfl, i5, k5⟩
  have H5 : Hid (Ew w w5 gr p ⟨q, s, l, u⟩ v5 ([80, 77, 66, 49] ++ sto q 8)) := H4.out.on i5 k5
  clear i5 k5 H4 a0 a1 a2 a3
  obtain ⟨a0, a1, a2, a3⟩ := bx4 H5.out.bx
  have hws : IntKind.u64.wrap s = s := by rw [IntKind.wrap_u64]; have := HR.out; omega
  have hwl : IntKind.u64.wrap l = l := by rw [IntKind.wrap_u64]; have := HR.out; omega
  go_wp2_with fail
  refine (wnum_ok p _ _ 32 s 1 _ H5.out.wi (ckE0 rfl (by show s ≤ 255; have := HR.out; omega)) (by decide) (by decide) (by simp [sto_len]) (by simp [sto_len])).mono ?_
  rintro e w6 ⟨v6, rfl, i6, k6⟩
  rw [sto_one (by have := HR.out; omega) (by have := HR.out; omega)] at i6
  have H6 : Hid (Ew w w6 gr p ⟨q, s, l, u⟩ v6 ([80, 77, 66, 49] ++ sto q 8 ++ [s])) := H5.out.on i6 k6
  clear i6 k6 H5 a0 a1 a2 a3
  obtain ⟨a0, a1, a2, a3⟩ := bx4 H6.out.bx
  obtain ⟨i5, hi5, hz0, hz1, hz2⟩ := info_parts Try.info5
  go_wp2_with (at_make; refine wpList_make8 _ rfl _ _ 27 rfl i5 Try.underlying27 hi5 hz0 hz1 hz2 _ _ _ _ 3 rfl rfl rfl rfl (by decide) ?_; intro w7 hb7 hg7 hs7)
  clear hi5 hz0 hz1 hz2 hs7
  have H7 : Hid _ := H6.out.kept hg7
  refine (wbytes_apart p _ _ 32 _ 3 3 [0, 0, 0] _ H7.out.wi (Blk.row (bs := [0, 0, 0]) hb7 (byt_of _ (by decide)) (by decide)) (fun b off e h => by injection e with e; injection e with e1 e2; subst e1; exact ⟨hb7.lt, Nat.ne_of_gt H6.out.wi.blk.lt, H6.out.free⟩) (by decide) (by decide) (by simp [sto_len]) (by simp [sto_len])).mono ?_
  rintro e w8 ⟨v8, rfl, i8, k8⟩
  have H8 : Hid (Ew w w8 gr p ⟨q, s, l, u⟩ v8 ([80, 77, 66, 49] ++ sto q 8 ++ [s] ++ [0, 0, 0])) := H7.out.on i8 k8
  clear i8 k8 H7 H6 hb7 hg7 a0 a1 a2 a3
  obtain ⟨a0, a1, a2, a3⟩ := bx4 H8.out.bx
  go_wp2_with fail
  refine (wnum_ok p _ _ 32 l 4 _ H8.out.wi (ckE0 rfl (by show l ≤ 4294967295; have := HR.out; omega)) (by decide) (by decide) (by simp [sto_len]) (by simp [sto_len])).mono ?_
  rintro e w9 ⟨v9, rfl, i9, k9⟩
  have H9 : Hid (Ew w w9 gr p ⟨q, s, l, u⟩ v9 ([80, 77, 66, 49] ++ sto q 8 ++ [s] ++ [0, 0, 0] ++ sto l 4)) := H8.out.on i9 k9
  clear i9 k9 H8 a0 a1 a2 a3
  obtain ⟨a0, a1, a2, a3⟩ := bx4 H9.out.bx
  go_wp2_with fail
  refine (wnum_ok p _ _ 32 u 8 _ H9.out.wi (ckE0 rfl (by show u ≤ 18446744073709551615; have := HQ.out; omega)) (by decide) (by decide) (by simp [sto_len]) (by simp [sto_len])).mono ?_
  rintro e w10 ⟨v10, rfl, i10, k10⟩
  have e10 : [80, 77, 66, 49] ++ sto q 8 ++ [s] ++ [0, 0, 0] ++ sto l 4 ++ sto u 8 = rb0 ⟨q, s, l, u⟩ := by unfold rb0; simp
  rw [e10] at i10
  have H10 : Hid (Ew w w10 gr p ⟨q, s, l, u⟩ v10 (rb0 ⟨q, s, l, u⟩)) := H9.out.on i10 k10
  clear i10 k10 H9 a0 a1 a2 a3 e10
  have HB : Hid _ := rb0_byt (r := ⟨q, s, l, u⟩) (rrt_iff.2 HR.out)
  have HL : Hid _ := rb0_len ⟨q, s, l, u⟩
  generalize hbb : rb0 ⟨q, s, l, u⟩ = bb at *
  have HE : Hid _ := hbb
  clear hbb
  go_wp2_with fail
  refine (wdone_ok p _ _ 32 _ H10.out.wi (by rw [HL.out]; decide)).mono ?_
  rintro e w11 ⟨rfl, b11, g11⟩
  rw [HL.out]
  have R11 := Blk.row b11 HB.out (by rw [HL.out]; decide)
  have H11 : Hid _ := And.intro (H10.out.kept g11) (Blk.row b11 HB.out (by rw [HL.out]; decide))
  clear R11 b11 g11 H10
  generalize w10.heap.size = k11 at *
  have R11 := H11.out.2
  rw [HL.out] at R11
  have HR11 : Hid _ := R11
  clear R11
  go_wp2_with fail
  refine (crc_nil _ 28 28 bb _ HR11.out).mono ?_
  rintro e w12 ⟨rfl, g12⟩
  have H12 : Hid _ := H11.out.1.kept g12
  clear g12 H11 HR11
  have hcl := crc_lt ent 0 bb
  have hwc : IntKind.u64.wrap (crc ent 0 bb : Nat) = (crc ent 0 bb : Nat) := by rw [IntKind.wrap_u64]; omega
  have HC : Hid (((crc ent 0 bb : Nat) : Int) ≤ 4294967295) := by show ((crc ent 0 bb : Nat) : Int) ≤ 4294967295; omega
  clear hcl
  have HB2 : Hid (rby ⟨q, s, l, u⟩ = bb ++ sto ((crc ent 0 bb : Nat) : Int) 4) := by unfold rby; rw [HE.out]; exact rfl
  generalize ((crc ent 0 bb : Nat) : Int) = cc at *
  go_wp2_with fail
  refine (wnum_ok p _ _ 32 cc 4 _ H12.out.wi (ckE0 rfl HC.out) (by decide) (by decide) (by rw [HL.out]; decide) (by rw [HL.out]; decide)).mono ?_
  rintro e w13 ⟨v13, rfl, i13, k13⟩
  rw [← HB2.out] at i13
  have H13 : Hid (Ew w w13 gr p ⟨q, s, l, u⟩ v13 (rby ⟨q, s, l, u⟩)) := H12.out.on i13 k13
  clear i13 k13 H12
  have HL2 : Hid _ := rby_len ⟨q, s, l, u⟩
  clear HB2
  generalize rby ⟨q, s, l, u⟩ = rb at *
  go_wp2_with fail
  refine (wdone_ok p _ _ 32 _ H13.out.wi (by rw [HL2.out]; decide)).mono ?_
  rintro e w14 ⟨rfl, b14, g14⟩
  rw [HL2.out]
  have H14 : Hid _ := And.intro (H13.out.kept g14) b14
  have HZ : Hid (w.heap.size ≤ w13.heap.size) := H13.out.gw.size
  clear b14 g14 H13
  generalize w13.heap.size = k14 at *
  go_wp2
  go_ret2
  refine ⟨_, _, _, rfl, ⟨by rw [bv_length, HL2.out], Or.inr ⟨k14, 32, (bv rb).toArray, rfl, HZ.out, H14.out.2, Nat.le_refl _, by decide, ?_, ?_⟩⟩, H14.out.1.gw⟩
  · simp only [List.size_toArray, bv_length]; rw [HL2.out]
  · simp only [Nat.mul_one]; exact List.take_of_length_le (by rw [bv_length, HL2.out]; exact Nat.le_refl _)
theorem pencode_no (r : Rc) (w : World) (hr : rrt r = false) : Calls Try.prog 32 #[r.val] w (EnPost w ([], 1)) := by
  have h1 := fun W => pright_any r W
  rw [hr] at h1
  obtain ⟨q, s, l, u⟩ := r
  simp only [Rc.val] at *
  have HG : Hid _ := World.grownBy_alloc w (.cells #[.int .u64 q, .int .i64 s, .int .i64 l, .int .u64 u] 26) none
  clear hr
  go_enter Try.func32, Try.ntmps32
  go_wp2_with fail
  refine (h1 _).mono ?_
  rintro e w1 ⟨rfl, g1⟩
  have H1 : Hid _ := grown_trans HG.out g1
  clear HG g1 h1
  go_wp2
  go_ret2
  exact ⟨_, _, _, rfl, World.ownsRow_nil _ _ _ _, H1.out⟩
theorem pencode_any (r : Rc) (w : World) (h : r.ok) : Calls Try.prog 32 #[r.val] w (EnPost w (ren r)) := by
  unfold ren
  cases hr : rrt r
  · rw [if_neg (by decide)]; exact pencode_no r w hr
  · rw [if_pos rfl]; exact pencode_ok r w h hr
end Go.Proofs.Ytfhgbddeclldnaa

namespace Go.Proofs.Ytfhgbddeclldnaa
open Go.RowKit Go.Proofs.Ytfhgbddeclldnaa.Fi
set_option maxRecDepth 100000
set_option linter.unusedSimpArgs false
set_option linter.unusedVariables false

/-- a reader at work on a record's bytes: the answer's variable, the record's, the reader -/
structure Ef (w W : World) (gz gr p g : Nat) (bs : List Int) (k : Nat) (cs : List Value) : Prop where
  z : Bx W gz 26 [.int .u64 0, .int .i64 0, .int .i64 0, .int .u64 0]
  r : Bx W gr 26 cs
  ri : RInv W p g bs k 0
  gw : w.grownBy W none
  lz : w.heap.size ≤ gz
  lr : w.heap.size ≤ gr
  lp : w.heap.size ≤ p
  n1 : gz ≠ p
  n2 : gr ≠ p
  n3 : gr ≠ g
  n4 : gz ≠ gr
  n5 : gz ≠ g
theorem Ef.on {w W W' : World} {gz gr p g k k' : Nat} {bs : List Int} {cs : List Value} (h : Ef w W gz gr p g bs k cs) (hr : RInv W' p g bs k' 0) (hg : W.grownBy W' (some p)) : Ef w W' gz gr p g bs k' cs :=
  ⟨⟨by rw [hg.block _ h.z.lt (by simpa using h.n1)]; exact h.z.blk⟩, ⟨by rw [hg.block _ h.r.lt (by simpa using h.n2)]; exact h.r.blk⟩, hr, grown_new h.gw hg h.lp, h.lz, h.lr, h.lp, h.n1, h.n2, h.n3, h.n4, h.n5⟩
theorem Ef.put {w W : World} {gz gr p g k : Nat} {bs : List Int} {cs : List Value} (h : Ef w W gz gr p g bs k cs) (i : Nat) (v : Value) : Ef w (W.setCell ⟨gr, i, none⟩ v) gz gr p g bs k (cs.set i v) := by
  have hg := grown_set W gr i v
  exact ⟨⟨by rw [hg.block _ h.z.lt (by simpa using h.n4)]; exact h.z.blk⟩, h.r.set i v, h.ri.grown hg (by simpa using fun e => h.n2 e.symm) (by simpa using fun e => h.n3 e.symm), grown_new h.gw hg h.lr, h.lz, h.lr, h.lp, h.n1, h.n2, h.n3, h.n4, h.n5⟩
theorem Ef.ne {w W : World} {gz gr p g k : Nat} {bs : List Int} {cs : List Value} (h : Ef w W gz gr p g bs k cs) : gz ≠ p := h.n1
theorem le_one {bs : List Int} (k : Nat) (h : k < bs.length) : le ((bs.drop k).take 1) = bs.getD k 0 := by
  have e : (bs.drop k).take 1 = [bs[k]] := by rw [List.drop_eq_getElem_cons h]; rfl
  rw [e]
  simp [le, List.getD_eq_getElem?_getD, h]

set_option maxHeartbeats 2000000 in
theorem pfields_any (a : Option Addr) (cap : Nat) (bs : List Int) (w : World) (R : Row w a 32 bs) :
    Calls Try.prog 41 #[.slice a 32 cap] w fun e w' => e = .returned (rrd bs).val ∧ w.grownBy w' none := by
  have hlen := R.len_eq
  have HL : Hid _ := hlen
  have HB : Hid _ := R.byt
  have B0 := Bx.new w 26 [.int .u64 0, .int .i64 0, .int .i64 0, .int .u64 0]
  have G0 := World.grownBy_alloc w (.cells #[.int .u64 0, .int .i64 0, .int .i64 0, .int .u64 0] 26) none
  have R0 := R.grown G0
  have H0 : Hid _ := And.intro B0 (And.intro G0 R0)
  clear B0 G0 R0 R hlen
  go_enter Try.func41, Try.ntmps41
  go_wp2_with fail
  refine (newreader_any a 32 cap bs _ H0.out.2.2 (by decide)).mono ?_
  rintro e w1 ⟨p, g, rfl, i1, hp, hg, g1⟩
  simp only [World.size_alloc] at hp hg
  have H1 : Hid _ := And.intro (H0.out.1.kept g1) (And.intro i1 (And.intro (grown_trans H0.out.2.1 g1) (And.intro hp hg)))
  clear H0 i1 hp hg g1
  go_wp2_with fail
  have gA := World.grownBy_alloc w1 (.cells #[.int .u64 0, .int .i64 0, .int .i64 0, .int .u64 0] 26) none
  have H2 : Hid (Ef w (w1.alloc (.cells #[.int .u64 0, .int .i64 0, .int .i64 0, .int .u64 0] 26)) w.heap.size w1.heap.size p g bs 0 [.int .u64 0, .int .i64 0, .int .i64 0, .int .u64 0]) := by
    have h1 := H1.out
    have l1 := h1.1.lt
    have l2 := h1.2.1.blk.lt
    have l3 := h1.2.1.row.lt
    have l4 := h1.2.2.2
    exact ⟨h1.1.kept gA, Bx.new _ _ _, h1.2.1.grown gA (by simp) (by simp), grown_trans h1.2.2.1 gA, Nat.le_refl _, by omega, by omega, by omega, by omega, by omega, by omega, by omega⟩
  clear gA H1
  generalize w1.alloc (.cells #[.int .u64 0, .int .i64 0, .int .i64 0, .int .u64 0] 26) = W2 at *
  generalize w.heap.size = gz at *
  generalize w1.heap.size = gr at *
  refine (rbytes_ok p g bs 0 4 _ H2.out.ri (by rw [HL.out]; decide)).mono ?_
  rintro e w3 ⟨v3, rfl, -, i3, g3⟩
  have H3 : Hid (Ef w w3 gz gr p g bs 4 _) := H2.out.on i3 g3
  clear H2 i3 g3
  go_wp2_with fail
  refine (rnum_ok p g bs 4 8 _ H3.out.ri rfl (by rw [HL.out]; decide)).mono ?_
  rintro e w4 ⟨rfl, i4, g4⟩
  have H4 : Hid (Ef w w4 gz gr p g bs 12 _) := H3.out.on i4 g4
  clear H3 i4 g4
  obtain ⟨a0, a1, a2, a3⟩ := bx4 H4.out.r
  have f0 := H4.out.r.f 0
  generalize hq : le ((bs.drop 4).take 8) = q
  have HQ : Hid _ := hq
  clear hq
  have H5 : Hid _ := H4.out.put 0 (.int .u64 q)
  clear H4
  go_wp2_with fail
  clear a0 a1 a2 a3 f0
  generalize w4.setCell ⟨gr, 0, none⟩ (.int .u64 q) = W5 at *
  refine (rnum_ok p g bs 12 1 _ H5.out.ri rfl (by rw [HL.out]; decide)).mono ?_
  rintro e w6 ⟨rfl, i6, g6⟩
  have H6 : Hid (Ef w w6 gz gr p g bs 13 [.int .u64 q, .int .i64 0, .int .i64 0, .int .u64 0]) := H5.out.on i6 g6
  clear H5 i6 g6
  have f1 := H6.out.r.f 1
  have hs := le_one (bs := bs) 12 (by rw [HL.out]; decide)
  have hsb : 0 ≤ bs.getD 12 0 ∧ bs.getD 12 0 ≤ 255 := Byt.getD HB.out 12
  rw [hs]
  generalize hsl : bs.getD 12 0 = sl at *
  have HS : Hid _ := hsl
  clear hsl hs
  have hws : IntKind.i64.wrap sl = sl := by rw [IntKind.wrap_i64]; omega
  have c1 := (bx4 H6.out.r).2.1
  clear hsb
  have H7 : Hid (Ef w (w6.setCell ⟨gr, 1, none⟩ (.int .i64 sl)) gz gr p g bs 13 [.int .u64 q, .int .i64 sl, .int .i64 0, .int .u64 0]) := H6.out.put 1 (.int .i64 sl)
  clear H6
  go_wp2_with fail
  generalize w6.setCell ⟨gr, 1, none⟩ (.int .i64 sl) = W7 at *
  clear hws c1 f1
  refine (rbytes_ok p g bs 13 3 _ H7.out.ri (by rw [HL.out]; decide)).mono ?_
  rintro e w8 ⟨v8, rfl, -, i8, g8⟩
  have H8 : Hid (Ef w w8 gz gr p g bs 16 [.int .u64 q, .int .i64 sl, .int .i64 0, .int .u64 0]) := H7.out.on i8 g8
  clear H7 i8 g8
  go_wp2_with fail
  refine (rnum_ok p g bs 16 4 _ H8.out.ri rfl (by rw [HL.out]; decide)).mono ?_
  rintro e w9 ⟨rfl, i9, g9⟩
  have H9 : Hid (Ef w w9 gz gr p g bs 20 [.int .u64 q, .int .i64 sl, .int .i64 0, .int .u64 0]) := H8.out.on i9 g9
  clear H8 i9 g9
  have hb4 : Byt ((bs.drop 16).take 4) := (Byt.drop HB.out 16).take 4
  have hl0 := le_nonneg hb4
  have hl1 := le_lt hb4
  have hl4 : ((bs.drop 16).take 4).length = 4 := by simp [HL.out]
  rw [hl4] at hl1
  clear hl4 hb4
  generalize hll : le ((bs.drop 16).take 4) = ll at *
  have HN : Hid _ := hll
  clear hll
  have hwl : IntKind.i64.wrap ll = ll := by rw [IntKind.wrap_i64]; omega
  clear hl0 hl1
  have f2 := H9.out.r.f 2
  have c2 := (bx4 H9.out.r).2.2.1
  have H10 : Hid (Ef w (w9.setCell ⟨gr, 2, none⟩ (.int .i64 ll)) gz gr p g bs 20 [.int .u64 q, .int .i64 sl, .int .i64 ll, .int .u64 0]) := H9.out.put 2 (.int .i64 ll)
  clear H9
  go_wp2_with fail
  generalize w9.setCell ⟨gr, 2, none⟩ (.int .i64 ll) = W10 at *
  clear hwl c2 f2
  refine (rnum_ok p g bs 20 8 _ H10.out.ri rfl (by rw [HL.out]; decide)).mono ?_
  rintro e w11 ⟨rfl, i11, g11⟩
  have H11 : Hid (Ef w w11 gz gr p g bs 28 [.int .u64 q, .int .i64 sl, .int .i64 ll, .int .u64 0]) := H10.out.on i11 g11
  clear H10 i11 g11
  generalize huu : le ((bs.drop 20).take 8) = uu at *
  have HU : Hid _ := huu
  clear huu
  have f3 := H11.out.r.f 3
  have c3 := (bx4 H11.out.r).2.2.2
  have H12 : Hid (Ef w (w11.setCell ⟨gr, 3, none⟩ (.int .u64 uu)) gz gr p g bs 28 [.int .u64 q, .int .i64 sl, .int .i64 ll, .int .u64 uu]) := H11.out.put 3 (.int .u64 uu)
  clear H11
  have he : rrd bs = ⟨q, sl, ll, uu⟩ := by unfold rrd; rw [HQ.out, HS.out, HN.out, HU.out]
  have HE : Hid _ := he
  clear he
  obtain ⟨b0, b1, b2, b3⟩ := bx4 H12.out.r
  obtain ⟨z0, z1, z2, z3⟩ := bx4 H12.out.z
  have y0 := H12.out.z.f 0
  have y1 := H12.out.z.f 1
  have y2 := H12.out.z.f 2
  have y3 := H12.out.z.f 3
  have R4 := H12.out.z.set4 (.int .u64 q) (.int .i64 sl) (.int .i64 ll) (.int .u64 uu)
  have HG : Hid _ := grown_new H12.out.gw (grown_set4 _ gz (.int .u64 q) (.int .i64 sl) (.int .i64 ll) (.int .u64 uu)) H12.out.lz
  obtain ⟨d0, d1, d2, d3⟩ := bx4 R4
  unfold set4 at d0 d1 d2 d3
  clear R4
  go_wp2
  refine bodyPost_ret (by simp [results, Try.results41, go_sem, d0, d1, d2, d3]; try rfl) rfl ?_
  rw [HE.out]
  exact ⟨rfl, HG.out⟩
end Go.Proofs.Ytfhgbddeclldnaa

namespace Go.Proofs.Ytfhgbddeclldnaa
open Go.RowKit Go.Proofs.Ytfhgbddeclldnaa.Fi
set_option maxRecDepth 100000
set_option linter.unusedSimpArgs false
set_option linter.unusedVariables false

theorem strOf_inj {xs ys : List Int} (hx : Byt xs) (hy : Byt ys) (h : strOfNums xs = strOfNums ys) : xs = ys := by
  have e : xs.map (fun n => UInt8.ofNat n.toNat) = ys.map fun n => UInt8.ofNat n.toNat := by rw [← strOfNums_data, ← strOfNums_data, h]
  clear h
  induction xs generalizing ys with
  | nil => cases ys with
    | nil => rfl
    | cons y r => simp at e
  | cons x t ih =>
    cases ys with
    | nil => simp at e
    | cons y r =>
      simp only [List.map_cons, List.cons.injEq] at e
      have bx := hx x (List.mem_cons_self ..)
      have bY := hy y (List.mem_cons_self ..)
      have e1 := congrArg UInt8.toNat e.1
      simp only [UInt8.toNat_ofNat'] at e1
      rw [ih (fun z hz => hx z (List.mem_cons_of_mem _ hz)) (fun z hz => hy z (List.mem_cons_of_mem _ hz)) e.2]
      congr 1
      omega
theorem strOf_eq {xs ys : List Int} (hx : Byt xs) (hy : Byt ys) : ((strOfNums xs).toList == (strOfNums ys).toList) = decide (xs = ys) := by
  rw [Go.Lib.strOfNums_toList, Go.Lib.strOfNums_toList]
  by_cases h : xs = ys
  · subst h; simp
  · have : Go.Lib.bytesOf xs ≠ Go.Lib.bytesOf ys := fun e => h (strOf_inj hx hy (by unfold strOfNums; unfold Go.Lib.bytesOf at e; rw [e]))
    simp [h, this]
theorem row_str {w : World} {a : Option Addr} {n : Nat} {xs : List Int} (R : Row w a n xs) (h0 : 0 < n) (c : Nat) : (convert 27 9 (.slice a n c)).run Try.prog w = .ok (.string (strOfNums xs)) w := by
  obtain ⟨b, o, rfl, hc⟩ := R.cells h0
  exact run_convert_bytes_arg (P := Try.prog) w 27 5 Try.underlying27 Try.underlying5 b o n c xs R.len_eq hc 9 Try.underlying9
theorem pequal_any (a b : Option Addr) (n c m d : Nat) (xs ys : List Int) (w : World) (R : Row w a n xs) (R2 : Row w b m ys) (h0 : 0 < n) (h1 : 0 < m) :
    Calls Try.prog 42 #[.slice a n c, .slice b m d] w fun e w' => e = .returned (.bool (decide (xs = ys))) ∧ w = w' := by
  have k1 := row_str R h0 c
  have k2 := row_str R2 h1 d
  rw [← strOf_eq R.byt R2.byt]
  go_enter Try.func42, Try.ntmps42
  go_wp2
  go_ret
  exact ⟨rfl, rfl⟩
theorem rrd_take {bs : List Int} : rrd (bs.take 32) = rrd bs := by
  unfold rrd
  have e : ∀ k n, k + n ≤ 32 → ((bs.take 32).drop k).take n = (bs.drop k).take n := fun k n h => by
    rw [List.drop_take, List.take_take, Nat.min_eq_left (by omega)]
  rw [e 4 8 (by decide), e 16 4 (by decide), e 20 8 (by decide)]
  congr 1
  rw [List.getD_eq_getElem?_getD, List.getD_eq_getElem?_getD, List.getElem?_take, if_pos (by decide)]
/-- the answer's variable, the record's, the bytes -/
structure Ed (w W : World) (gz gr : Nat) (r : Rc) (a : Option Addr) (bs : List Int) : Prop where
  z : Bx W gz 26 [.int .u64 0, .int .i64 0, .int .i64 0, .int .u64 0]
  r : Bx W gr 26 [.int .u64 r.q, .int .i64 r.s, .int .i64 r.l, .int .u64 r.u]
  row : Row W a 32 bs
  gw : w.grownBy W none
  lz : w.heap.size ≤ gz
  ne : gz ≠ gr
theorem Ed.kept {w W W' : World} {gz gr : Nat} {r : Rc} {a : Option Addr} {bs : List Int} (h : Ed w W gz gr r a bs) (k : W.grownBy W' none) : Ed w W' gz gr r a bs :=
  ⟨h.z.kept k, h.r.kept k, h.row.grown k, grown_trans h.gw k, h.lz, h.ne⟩

set_option maxHeartbeats 2000000 in
theorem pdecode_short (a : Option Addr) (len cap : Nat) (w : World) (h : len < 32) : Calls Try.prog 30 #[.slice a len cap] w fun e w' => e = .returned (.tuple #[rc0.val, .int .i64 6]) ∧ w.grownBy w' none := by
  simp only [Rc.val, rc0]
  have hd : decide ((len : Int) < 32) = true := decide_eq_true (by omega)
  go_enter Try.func30, Try.ntmps30
  go_wp2
  refine bodyPost_ret (by simp [results, Try.results30, go_sem]; try rfl) rfl ?_
  exact ⟨rfl, World.grownBy_alloc _ _ _⟩

set_option maxHeartbeats 2000000 in
theorem pdecode_no (b o len cap : Nat) (bs : List Int) (w : World) (R : Row w (some ⟨b, o, none⟩) len bs) (hnc : len ≤ cap) (hcm : cap ≤ maxLen) (h : 32 ≤ len) (hr : rrt (rrd bs) = false) : Calls Try.prog 30 #[.slice (some ⟨b, o, none⟩) len cap] w fun e w' => e = .returned (.tuple #[rc0.val, .int .i64 6]) ∧ w.grownBy w' none := by
  have R32 : Row w (some ⟨b, o, none⟩) 32 (bs.take 32) := by have := R.part 0 32 (by omega); simpa using this
  have hF := fun W (R' : Row W (some ⟨b, o, none⟩) 32 (bs.take 32)) => pfields_any (some ⟨b, o, none⟩) cap (bs.take 32) W R'
  rw [rrd_take] at hF
  have hok := rrd_ok R.byt
  have hE := fun W => pencode_any (rrd bs) W hok
  unfold ren at hE
  rw [hr, if_neg (by decide)] at hE
  clear hok hr
  generalize rrd bs = rr at *
  obtain ⟨q, s, l, u⟩ := rr
  have B0 := Bx.new w 26 [.int .u64 0, .int .i64 0, .int .i64 0, .int .u64 0]
  have G0 := World.grownBy_alloc w (.cells #[.int .u64 0, .int .i64 0, .int .i64 0, .int .u64 0] 26) none
  have H0 : Hid _ := And.intro B0 (And.intro G0 (R32.grown G0))
  clear B0 G0 R32 R
  simp only [Rc.val, rc0] at *
  unfold maxLen at hcm
  have hd : decide ((len : Int) < 32) = false := decide_eq_false (by omega)
  have hcap : ¬ (cap : Int) < 32 := by omega
  clear h hnc
  go_enter Try.func30, Try.ntmps30
  go_wp2_with fail
  refine (hF _ H0.out.2.2).mono ?_
  rintro e w1 ⟨rfl, g1⟩
  have gA := World.grownBy_alloc w1 (.cells #[.int .u64 q, .int .i64 s, .int .i64 l, .int .u64 u] 26) none
  have H1 : Hid (Ed w (w1.alloc (.cells #[.int .u64 q, .int .i64 s, .int .i64 l, .int .u64 u] 26)) w.heap.size w1.heap.size ⟨q, s, l, u⟩ (some ⟨b, o, none⟩) (bs.take 32)) := by
    have h0 := H0.out
    exact ⟨(h0.1.kept g1).kept gA, Bx.new _ _ _, (h0.2.2.grown g1).grown gA, grown_trans (grown_trans h0.2.1 g1) gA, Nat.le_refl _, Nat.ne_of_lt (h0.1.kept g1).lt⟩
  clear gA g1 H0 hF hd hcap
  go_wp2_with fail
  generalize w1.alloc (.cells #[.int .u64 q, .int .i64 s, .int .i64 l, .int .u64 u] 26) = W1 at *
  generalize w.heap.size = gz at *
  generalize w1.heap.size = gr at *
  refine (hE _).mono ?_
  rintro e w2 ⟨a2, n2, c2, rfl, o2, g2⟩
  have H2 : Hid _ := And.intro (H1.out.kept g2) o2
  clear H1 g2 o2 hE
  obtain ⟨z0, z1, z2, z3⟩ := bx4 H2.out.1.z
  obtain ⟨x0, x1, x2, x3⟩ := bx4 H2.out.1.r
  have y0 := H2.out.1.z.f 0
  have y1 := H2.out.1.z.f 1
  have y2 := H2.out.1.z.f 2
  have y3 := H2.out.1.z.f 3
  have R4 := H2.out.1.z.set4 (.int .u64 0) (.int .i64 0) (.int .i64 0) (.int .u64 0)
  have HG : Hid _ := grown_new H2.out.1.gw (grown_set4 _ gz (.int .u64 0) (.int .i64 0) (.int .i64 0) (.int .u64 0)) H2.out.1.lz
  obtain ⟨d0, d1, d2, d3⟩ := bx4 R4
  unfold set4 at d0 d1 d2 d3
  clear R4
  go_wp2
  refine bodyPost_ret (by simp [results, Try.results30, go_sem, d0, d1, d2, d3]; try rfl) rfl ?_
  exact ⟨rfl, HG.out⟩
set_option maxHeartbeats 2000000 in
theorem pdecode_ne (b o len cap : Nat) (bs : List Int) (w : World) (R : Row w (some ⟨b, o, none⟩) len bs) (hnc : len ≤ cap) (hcm : cap ≤ maxLen) (h : 32 ≤ len) (hr : rrt (rrd bs) = true) (hq : rby (rrd bs) ≠ bs.take 32) : Calls Try.prog 30 #[.slice (some ⟨b, o, none⟩) len cap] w fun e w' => e = .returned (.tuple #[rc0.val, .int .i64 6]) ∧ w.grownBy w' none := by
  have R32 : Row w (some ⟨b, o, none⟩) 32 (bs.take 32) := by have := R.part 0 32 (by omega); simpa using this
  have hF := fun W (R' : Row W (some ⟨b, o, none⟩) 32 (bs.take 32)) => pfields_any (some ⟨b, o, none⟩) cap (bs.take 32) W R'
  rw [rrd_take] at hF
  have hok := rrd_ok R.byt
  have hE := fun W => pencode_any (rrd bs) W hok
  unfold ren at hE
  rw [hr, if_pos rfl] at hE
  have HY : Hid _ := And.intro (rby_byt hr) (And.intro (rby_len (rrd bs)) hq)
  clear hq
  generalize rby (rrd bs) = rb at *
  clear hok hr
  generalize rrd bs = rr at *
  obtain ⟨q, s, l, u⟩ := rr
  have B0 := Bx.new w 26 [.int .u64 0, .int .i64 0, .int .i64 0, .int .u64 0]
  have G0 := World.grownBy_alloc w (.cells #[.int .u64 0, .int .i64 0, .int .i64 0, .int .u64 0] 26) none
  have H0 : Hid _ := And.intro B0 (And.intro G0 (R32.grown G0))
  clear B0 G0 R32 R
  simp only [Rc.val, rc0] at *
  unfold maxLen at hcm
  have hd : decide ((len : Int) < 32) = false := decide_eq_false (by omega)
  have hcap : ¬ (cap : Int) < 32 := by omega
  clear h hnc
  go_enter Try.func30, Try.ntmps30
  go_wp2_with fail
  refine (hF _ H0.out.2.2).mono ?_
  rintro e w1 ⟨rfl, g1⟩
  have gA := World.grownBy_alloc w1 (.cells #[.int .u64 q, .int .i64 s, .int .i64 l, .int .u64 u] 26) none
  have H1 : Hid (Ed w (w1.alloc (.cells #[.int .u64 q, .int .i64 s, .int .i64 l, .int .u64 u] 26)) w.heap.size w1.heap.size ⟨q, s, l, u⟩ (some ⟨b, o, none⟩) (bs.take 32)) := by
    have h0 := H0.out
    exact ⟨(h0.1.kept g1).kept gA, Bx.new _ _ _, (h0.2.2.grown g1).grown gA, grown_trans (grown_trans h0.2.1 g1) gA, Nat.le_refl _, Nat.ne_of_lt (h0.1.kept g1).lt⟩
  clear gA g1 H0 hF hd hcap
  go_wp2_with fail
  generalize w1.alloc (.cells #[.int .u64 q, .int .i64 s, .int .i64 l, .int .u64 u] 26) = W1 at *
  generalize w.heap.size = gz at *
  generalize w1.heap.size = gr at *
  refine (hE _).mono ?_
  rintro e w2 ⟨a2, n2, c2, rfl, o2, g2⟩
  have H2 : Hid _ := And.intro (H1.out.kept g2) o2
  clear H1 g2 o2 hE
  have hn2 : n2 = 32 := by have := H2.out.2.1; rw [bv_length, HY.out.2.1] at this; omega
  subst hn2
  obtain ⟨a3, c3, e3, R3, -⟩ := own_bytes H2.out.2 HY.out.1 (by decide)
  injection e3 with e3 e4 e5
  subst e3
  clear e4 e5
  have hP := pequal_any (some ⟨b, o, none⟩) a2 32 cap 32 c2 (bs.take 32) rb w2 H2.out.1.row R3 (by decide) (by decide)
  rw [decide_eq_false (by have := HY.out.2.2; first | exact this | exact this.symm | exact fun e => this e.symm)] at hP
  clear R3
  obtain ⟨z0, z1, z2, z3⟩ := bx4 H2.out.1.z
  obtain ⟨x0, x1, x2, x3⟩ := bx4 H2.out.1.r
  have y0 := H2.out.1.z.f 0
  have y1 := H2.out.1.z.f 1
  have y2 := H2.out.1.z.f 2
  have y3 := H2.out.1.z.f 3
  have R4 := H2.out.1.z.set4 (.int .u64 0) (.int .i64 0) (.int .i64 0) (.int .u64 0)
  have HG : Hid _ := grown_new H2.out.1.gw (grown_set4 _ gz (.int .u64 0) (.int .i64 0) (.int .i64 0) (.int .u64 0)) H2.out.1.lz
  obtain ⟨d0, d1, d2, d3⟩ := bx4 R4
  unfold set4 at d0 d1 d2 d3
  clear R4
  go_wp2_with (go_at_call 42; refine hP.mono ?_; rintro e w3 ⟨rfl, rfl⟩)
  refine bodyPost_ret (by simp [results, Try.results30, go_sem, d0, d1, d2, d3]; try rfl) rfl ?_
  exact ⟨rfl, HG.out⟩
set_option maxHeartbeats 2000000 in
theorem pdecode_eq (b o len cap : Nat) (bs : List Int) (w : World) (R : Row w (some ⟨b, o, none⟩) len bs) (hnc : len ≤ cap) (hcm : cap ≤ maxLen) (h : 32 ≤ len) (hr : rrt (rrd bs) = true) (hq : rby (rrd bs) = bs.take 32) : Calls Try.prog 30 #[.slice (some ⟨b, o, none⟩) len cap] w fun e w' => e = .returned (.tuple #[(rrd bs).val, .int .i64 0]) ∧ w.grownBy w' none := by
  have R32 : Row w (some ⟨b, o, none⟩) 32 (bs.take 32) := by have := R.part 0 32 (by omega); simpa using this
  have hF := fun W (R' : Row W (some ⟨b, o, none⟩) 32 (bs.take 32)) => pfields_any (some ⟨b, o, none⟩) cap (bs.take 32) W R'
  rw [rrd_take] at hF
  have hok := rrd_ok R.byt
  have hE := fun W => pencode_any (rrd bs) W hok
  unfold ren at hE
  rw [hr, if_pos rfl] at hE
  have HY : Hid _ := And.intro (rby_byt hr) (And.intro (rby_len (rrd bs)) hq)
  clear hq
  generalize rby (rrd bs) = rb at *
  clear hok hr
  generalize rrd bs = rr at *
  obtain ⟨q, s, l, u⟩ := rr
  have B0 := Bx.new w 26 [.int .u64 0, .int .i64 0, .int .i64 0, .int .u64 0]
  have G0 := World.grownBy_alloc w (.cells #[.int .u64 0, .int .i64 0, .int .i64 0, .int .u64 0] 26) none
  have H0 : Hid _ := And.intro B0 (And.intro G0 (R32.grown G0))
  clear B0 G0 R32 R
  simp only [Rc.val, rc0] at *
  unfold maxLen at hcm
  have hd : decide ((len : Int) < 32) = false := decide_eq_false (by omega)
  have hcap : ¬ (cap : Int) < 32 := by omega
  clear h hnc
  go_enter Try.func30, Try.ntmps30
  go_wp2_with fail
  refine (hF _ H0.out.2.2).mono ?_
  rintro e w1 ⟨rfl, g1⟩
  have gA := World.grownBy_alloc w1 (.cells #[.int .u64 q, .int .i64 s, .int .i64 l, .int .u64 u] 26) none
  have H1 : Hid (Ed w (w1.alloc (.cells #[.int .u64 q, .int .i64 s, .int .i64 l, .int .u64 u] 26)) w.heap.size w1.heap.size ⟨q, s, l, u⟩ (some ⟨b, o, none⟩) (bs.take 32)) := by
    have h0 := H0.out
    exact ⟨(h0.1.kept g1).kept gA, Bx.new _ _ _, (h0.2.2.grown g1).grown gA, grown_trans (grown_trans h0.2.1 g1) gA, Nat.le_refl _, Nat.ne_of_lt (h0.1.kept g1).lt⟩
  clear gA g1 H0 hF hd hcap
  go_wp2_with fail
  generalize w1.alloc (.cells #[.int .u64 q, .int .i64 s, .int .i64 l, .int .u64 u] 26) = W1 at *
  generalize w.heap.size = gz at *
  generalize w1.heap.size = gr at *
  refine (hE _).mono ?_
  rintro e w2 ⟨a2, n2, c2, rfl, o2, g2⟩
  have H2 : Hid _ := And.intro (H1.out.kept g2) o2
  clear H1 g2 o2 hE
  have hn2 : n2 = 32 := by have := H2.out.2.1; rw [bv_length, HY.out.2.1] at this; omega
  subst hn2
  obtain ⟨a3, c3, e3, R3, -⟩ := own_bytes H2.out.2 HY.out.1 (by decide)
  injection e3 with e3 e4 e5
  subst e3
  clear e4 e5
  have hP := pequal_any (some ⟨b, o, none⟩) a2 32 cap 32 c2 (bs.take 32) rb w2 H2.out.1.row R3 (by decide) (by decide)
  rw [decide_eq_true (by have := HY.out.2.2; first | exact this | exact this.symm | exact fun e => this e.symm)] at hP
  clear R3
  obtain ⟨z0, z1, z2, z3⟩ := bx4 H2.out.1.z
  obtain ⟨x0, x1, x2, x3⟩ := bx4 H2.out.1.r
  have y0 := H2.out.1.z.f 0
  have y1 := H2.out.1.z.f 1
  have y2 := H2.out.1.z.f 2
  have y3 := H2.out.1.z.f 3
  have R4 := H2.out.1.z.set4 (.int .u64 q) (.int .i64 s) (.int .i64 l) (.int .u64 u)
  have HG : Hid _ := grown_new H2.out.1.gw (grown_set4 _ gz (.int .u64 q) (.int .i64 s) (.int .i64 l) (.int .u64 u)) H2.out.1.lz
  obtain ⟨d0, d1, d2, d3⟩ := bx4 R4
  unfold set4 at d0 d1 d2 d3
  clear R4
  go_wp2_with (go_at_call 42; refine hP.mono ?_; rintro e w3 ⟨rfl, rfl⟩)
  refine bodyPost_ret (by simp [results, Try.results30, go_sem, d0, d1, d2, d3]; try rfl) rfl ?_
  exact ⟨rfl, HG.out⟩
theorem pdecode_any (a : Option Addr) (len cap : Nat) (bs : List Int) (w : World) (R : Row w a len bs) (hnc : len ≤ cap) (hcm : cap ≤ maxLen) (hl : len ≤ 1048576) : Calls Try.prog 30 #[.slice a len cap] w fun e w' => e = .returned (.tuple #[(rde bs).1.val, .int .i64 (rde bs).2]) ∧ w.grownBy w' none := by
  unfold rde
  rw [R.len_eq]
  by_cases h : len < 32
  · rw [if_pos h]; exact pdecode_short a len cap w h
  · rw [if_neg h]
    obtain ⟨b, o, rfl, -⟩ := R.cells (by omega)
    cases hr : rrt (rrd bs)
    · rw [if_neg (by simp)]; exact pdecode_no b o len cap bs w R hnc hcm (by omega) hr
    · by_cases hq : rby (rrd bs) = bs.take 32
      · rw [if_pos ⟨rfl, hq⟩]; exact pdecode_eq b o len cap bs w R hnc hcm (by omega) hr hq
      · rw [if_neg (by simp [hq])]; exact pdecode_ne b o len cap bs w R hnc hcm (by omega) hr hq
end Go.Proofs.Ytfhgbddeclldnaa

namespace Go.Proofs.Ytfhgbddeclldnaa
open Go.RowKit Go.Proofs.Ytfhgbddeclldnaa.Fi
set_option maxRecDepth 100000
set_option linter.unusedSimpArgs false
set_option linter.unusedVariables false

set_option maxHeartbeats 4000000 in
theorem pchoose_any (a : Option Addr) (len cap : Nat) (xs : List Int) (b : Option Addr) (len2 cap2 : Nat) (ys : List Int) (w : World) (R : Row w a len xs) (hnc : len ≤ cap) (hcm : cap ≤ maxLen) (hl : len ≤ 1048576) (R2 : Row w b len2 ys) (hnc2 : len2 ≤ cap2) (hcm2 : cap2 ≤ maxLen) (hl2 : len2 ≤ 1048576) :
    Calls Try.prog 40 #[.slice a len cap, .slice b len2 cap2] w fun e w' => e = .returned (.tuple #[.int .i64 (rch xs ys).1, (rch xs ys).2.1.val, .int .i64 (rch xs ys).2.2]) ∧ w.grownBy w' none := by
  have h1 := fun W R => pdecode_any a len cap xs W R hnc hcm hl
  have h2 := fun W R => pdecode_any b len2 cap2 ys W R hnc2 hcm2 hl2
  have ok1 := (rde_ok R.byt).1
  have ok2 := (rde_ok R2.byt).1
  have er1 := rde_err xs
  have er2 := rde_err ys
  have HRES : Hid (rch xs ys = if (rde xs).2 ≠ 0 ∧ (rde ys).2 ≠ 0 then (0, rc0, 4) else if (rde xs).2 ≠ 0 ∨ ((rde ys).2 = 0 ∧ (rde xs).1.q < (rde ys).1.q) then (1, (rde ys).1, 0) else (0, (rde xs).1, 0)) := rfl
  generalize rch xs ys = RES at *
  generalize rde xs = X at *
  generalize rde ys = Y at *
  obtain ⟨⟨q1, s1, l1, u1⟩, e1⟩ := X
  obtain ⟨⟨q2, s2, l2, u2⟩, e2⟩ := Y
  obtain ⟨k, ⟨p1, p2, p3, p4⟩, pe⟩ := RES
  have hq1 := ok1.1
  have hq2 := ok2.1
  unfold inU at hq1 hq2
  simp only [Rc.val] at *
  have HR : Hid _ := And.intro R R2
  clear R R2 ok1 ok2
  have Z0 := Bx.new w 26 [.int .u64 0, .int .i64 0, .int .i64 0, .int .u64 0]
  have G0 := World.grownBy_alloc w (.cells #[.int .u64 0, .int .i64 0, .int .i64 0, .int .u64 0] 26) none
  have k1 := h1 _ (HR.out.1.grown G0)
  have H0 : Hid _ := And.intro Z0 G0
  clear Z0 G0 h1
  go_enter Try.func40, Try.ntmps40
  go_wp2_with fail
  refine k1.mono ?_
  rintro e w1 ⟨rfl, g1⟩
  have A1 := World.grownBy_alloc w1 (.cells #[.int .u64 q1, .int .i64 s1, .int .i64 l1, .int .u64 u1] 26) none
  have X1 := Bx.new w1 26 [.int .u64 q1, .int .i64 s1, .int .i64 l1, .int .u64 u1]
  have G1 := grown_trans (grown_trans H0.out.2 g1) A1
  have k2 := h2 _ (HR.out.2.grown G1)
  have H1 : Hid _ := And.intro ((H0.out.1.kept g1).kept A1) (And.intro X1 G1)
  clear X1 G1 A1 g1 H0 k1 h2
  simp only
  go_wp2_with fail
  refine k2.mono ?_
  rintro e w2 ⟨rfl, g2⟩
  have A2 := World.grownBy_alloc w2 (.cells #[.int .u64 q2, .int .i64 s2, .int .i64 l2, .int .u64 u2] 26) none
  have T : Thr w (w2.alloc (.cells #[.int .u64 q2, .int .i64 s2, .int .i64 l2, .int .u64 u2] 26)) w.heap.size w1.heap.size w2.heap.size [.int .u64 q1, .int .i64 s1, .int .i64 l1, .int .u64 u1] [.int .u64 q2, .int .i64 s2, .int .i64 l2, .int .u64 u2] := ⟨(H1.out.1.kept g2).kept A2, (H1.out.2.1.kept g2).kept A2, Bx.new w2 26 _, grown_trans (grown_trans H1.out.2.2 g2) A2⟩
  have HT : Hid _ := T
  clear T A2 g2 H1 k2
  simp only
  obtain ⟨x0, x1, x2, x3⟩ := bx4 HT.out.x
  obtain ⟨y0, y1, y2, y3⟩ := bx4 HT.out.y
  obtain ⟨z0, z1, z2, z3⟩ := bx4 HT.out.z
  have f0 := HT.out.z.f 0
  have f1 := HT.out.z.f 1
  have f2 := HT.out.z.f 2
  have f3 := HT.out.z.f 3
  rcases er1 with rfl | rfl
  · rcases er2 with rfl | rfl
    · by_cases c : q1 < q2
      · obtain ⟨rfl, ⟨rfl, rfl, rfl, rfl⟩, rfl⟩ : k = 1 ∧ (q2 = p1 ∧ s2 = p2 ∧ l2 = p3 ∧ u2 = p4) ∧ pe = 0 := by
          have := HRES.out
          rw [if_neg (by simp), if_pos (Or.inr ⟨rfl, c⟩)] at this
          simp [rc0] at this
          omega
        clear HRES
        have R4 := HT.out.z.set4 (.int .u64 q2) (.int .i64 s2) (.int .i64 l2) (.int .u64 u2)
        have HF : Hid _ := grown_new HT.out.gr (grown_set4 _ w.heap.size (.int .u64 q2) (.int .i64 s2) (.int .i64 l2) (.int .u64 u2)) (Nat.le_refl _)
        obtain ⟨d0, d1, d2, d3⟩ := bx4 R4
        unfold set4 at d0 d1 d2 d3
        clear R4 HR
        go_wp2_with fail
        go_region
        go_wp2
        refine bodyPost_ret (by simp [results, Try.results40, go_sem, d0, d1, d2, d3]; try rfl) rfl ?_
        exact ⟨rfl, grown_trans HF.out ⟨rfl, rfl, rfl, Nat.le_refl _, fun _ _ _ => rfl⟩⟩
      · have c' : decide (q1 < q2) = false := decide_eq_false c
        obtain ⟨rfl, ⟨rfl, rfl, rfl, rfl⟩, rfl⟩ : k = 0 ∧ (q1 = p1 ∧ s1 = p2 ∧ l1 = p3 ∧ u1 = p4) ∧ pe = 0 := by
          have := HRES.out
          rw [if_neg (by simp), if_neg (by simp; omega)] at this
          simp [rc0] at this
          omega
        clear HRES
        have R4 := HT.out.z.set4 (.int .u64 q1) (.int .i64 s1) (.int .i64 l1) (.int .u64 u1)
        have HF : Hid _ := grown_new HT.out.gr (grown_set4 _ w.heap.size (.int .u64 q1) (.int .i64 s1) (.int .i64 l1) (.int .u64 u1)) (Nat.le_refl _)
        obtain ⟨d0, d1, d2, d3⟩ := bx4 R4
        unfold set4 at d0 d1 d2 d3
        clear R4 HR
        go_wp2_with fail
        go_region
        go_wp2
        refine bodyPost_ret (by simp [results, Try.results40, go_sem, d0, d1, d2, d3]; try rfl) rfl ?_
        exact ⟨rfl, grown_trans HF.out ⟨rfl, rfl, rfl, Nat.le_refl _, fun _ _ _ => rfl⟩⟩
    · obtain ⟨rfl, ⟨rfl, rfl, rfl, rfl⟩, rfl⟩ : k = 0 ∧ (q1 = p1 ∧ s1 = p2 ∧ l1 = p3 ∧ u1 = p4) ∧ pe = 0 := by
        have := HRES.out
        rw [if_neg (by simp), if_neg (by simp)] at this
        simp [rc0] at this
        omega
      clear HRES
      have R4 := HT.out.z.set4 (.int .u64 q1) (.int .i64 s1) (.int .i64 l1) (.int .u64 u1)
      have HF : Hid _ := grown_new HT.out.gr (grown_set4 _ w.heap.size (.int .u64 q1) (.int .i64 s1) (.int .i64 l1) (.int .u64 u1)) (Nat.le_refl _)
      obtain ⟨d0, d1, d2, d3⟩ := bx4 R4
      unfold set4 at d0 d1 d2 d3
      clear R4 HR
      go_wp2_with fail
      go_region
      go_wp2
      refine bodyPost_ret (by simp [results, Try.results40, go_sem, d0, d1, d2, d3]; try rfl) rfl ?_
      exact ⟨rfl, grown_trans HF.out ⟨rfl, rfl, rfl, Nat.le_refl _, fun _ _ _ => rfl⟩⟩
  · rcases er2 with rfl | rfl
    · obtain ⟨rfl, ⟨rfl, rfl, rfl, rfl⟩, rfl⟩ : k = 1 ∧ (q2 = p1 ∧ s2 = p2 ∧ l2 = p3 ∧ u2 = p4) ∧ pe = 0 := by
        have := HRES.out
        rw [if_neg (by simp), if_pos (Or.inl (by simp))] at this
        simp [rc0] at this
        omega
      clear HRES
      have R4 := HT.out.z.set4 (.int .u64 q2) (.int .i64 s2) (.int .i64 l2) (.int .u64 u2)
      have HF : Hid _ := grown_new HT.out.gr (grown_set4 _ w.heap.size (.int .u64 q2) (.int .i64 s2) (.int .i64 l2) (.int .u64 u2)) (Nat.le_refl _)
      obtain ⟨d0, d1, d2, d3⟩ := bx4 R4
      unfold set4 at d0 d1 d2 d3
      clear R4 HR
      go_wp2_with fail
      go_region
      go_wp2
      refine bodyPost_ret (by simp [results, Try.results40, go_sem, d0, d1, d2, d3]; try rfl) rfl ?_
      exact ⟨rfl, grown_trans HF.out ⟨rfl, rfl, rfl, Nat.le_refl _, fun _ _ _ => rfl⟩⟩
    · obtain ⟨rfl, ⟨rfl, rfl, rfl, rfl⟩, rfl⟩ : k = 0 ∧ (p1 = 0 ∧ p2 = 0 ∧ p3 = 0 ∧ p4 = 0) ∧ pe = 4 := by
        have := HRES.out
        rw [if_pos ⟨by simp, by simp⟩] at this
        simp [rc0] at this
        omega
      clear HRES
      have R4 := HT.out.z.set4 (.int .u64 0) (.int .i64 0) (.int .i64 0) (.int .u64 0)
      have HF : Hid _ := grown_new HT.out.gr (grown_set4 _ w.heap.size (.int .u64 0) (.int .i64 0) (.int .i64 0) (.int .u64 0)) (Nat.le_refl _)
      obtain ⟨d0, d1, d2, d3⟩ := bx4 R4
      unfold set4 at d0 d1 d2 d3
      clear R4 HR
      go_wp2
      refine bodyPost_ret (by simp [results, Try.results40, go_sem, d0, d1, d2, d3]; try rfl) rfl ?_
      exact ⟨rfl, HF.out⟩
end Go.Proofs.Ytfhgbddeclldnaa
