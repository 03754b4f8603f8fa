/- The program's boot: a record's bytes. -/
import Derived.Test.YtlbilpjlfelgdaaEP
import Derived.Test.YtlbilpjlfelgdaaHI
import Derived.Test.YtlbilpjlfelgdaaID
namespace Go.Proofs.Ytlbilpjlfelgdaa
open Go.RowKit
set_option linter.unusedSimpArgs false
set_option linter.unusedVariables false

/-- Encode, as a plain function -/
def ren (r : Rc) : List Int × Int := if rrt r = true then (rby r, 0) else ([], 1)
/-- an answer of bytes, in new memory -/
def EnPost (w : World) (r : List Int × Int) (e : Ending) (w' : World) : Prop := ∃ a n c, e = .returned (.tuple #[.slice a n c, .int .i64 r.2]) ∧ w'.ownsRow w.heap.size 5 1 (.slice a n c) n (bv r.1) ∧ w.grownBy w' none
/-- a writer at work on a record's bytes -/
structure Ew (w W : World) (gr p : Nat) (r : Rc) (v : Value) (bs : List Int) : Prop where
  bx : Bx W gr 24 [.int .u64 r.q, .int .i64 r.s, .int .i64 r.l, .int .u64 r.u]
  wi : WInv W p v bs 32 0
  gw : w.grownBy W none
  lo : w.heap.size ≤ gr
  lt : gr < p
theorem Ew.kept {w W W' : World} {gr p : Nat} {r : Rc} {v : Value} {bs : List Int} (h : Ew w W gr p r v bs) (k : W.grownBy W' none) : Ew w W' gr p r v bs :=
  ⟨h.bx.kept k, h.wi.grown k, grown_trans h.gw k, h.lo, h.lt⟩
theorem Ew.on {w W W' : World} {gr p : Nat} {r : Rc} {v v' : Value} {bs bs' : List Int} (h : Ew w W gr p r v bs) (hi : WInv W' p v' bs' 32 0) (k : Chg W W' p v v') : Ew w W' gr p r v' bs' := by
  have hlt := h.lt
  have hlo := h.lo
  have own : ∀ j, j < p → some j ≠ v.ownBlock := fun j hj e => by have := (h.wi.own.lt j e.symm).1; omega
  refine ⟨⟨by rw [k.block gr h.bx.lt (by omega) (own gr hlt)]; exact h.bx.blk⟩, hi, ⟨k.os.trans h.gw.os, k.tape.trans h.gw.tape, k.output.trans h.gw.output, Nat.le_trans h.gw.size k.size, fun j hj _ => ?_⟩, h.lo, h.lt⟩
  rw [k.block j (by have := h.gw.size; omega) (by omega) (own j (by omega))]
  exact h.gw.block j hj (by simp)
theorem Ew.free {w W : World} {gr p : Nat} {r : Rc} {v : Value} {bs : List Int} (h : Ew w W gr p r v bs) : some W.heap.size ≠ v.ownBlock := fun e => by
  have := (h.wi.own.lt _ e.symm).2; omega
theorem sto_one {s : Int} (h0 : 0 ≤ s) (h1 : s ≤ 255) : sto s 1 = [s] := by
  have e : s % 256 = s := by omega
  first | (simp [sto, e]; done) | (unfold sto; simp [e]; done) | (rw [sto_snoc]; simp [sto, e])
theorem ckE0 {n : Int} {m : Int} (hw : isW m = true) (h : n ≤ lg m) : ckE n m = 0 := by
  unfold ckE; rw [if_pos hw, if_neg (by omega)]

theorem marked_row (w : World) (bs : List Int) (m : Nat × Nat) (hb : Byt bs) (hl : bs.length ≤ maxLen) : Row (w.alloc (.cells (bv bs).toArray 5 m)) (some ⟨w.heap.size, 0, none⟩) bs.length bs := by
  refine ⟨rfl, hl, hb, fun h0 => ⟨_, 0, rfl, fun i hi => ?_⟩⟩
  have e : (w.alloc (.cells (bv bs).toArray 5 m)).heap[w.heap.size]? = some (.cells (bv bs).toArray 5 m) := heap_alloc_new _ _
  unfold World.cell?
  simp only [e, Nat.zero_add]
  rw [List.getElem?_toArray, bv_getElem? bs i hi]
  rfl
set_option maxHeartbeats 2000000 in
theorem pencode_ok (r : Rc) (w : World) (h : r.ok) (hr : rrt r = true) : Calls Try.prog 9 #[r.val] w (EnPost w (rby r, 0)) := by
  have hrt := rrt_iff.1 hr
  have h1 := fun W => pright_any r W
  rw [hr] at h1
  obtain ⟨q, s, l, u⟩ := r
  obtain ⟨⟨q0, q1⟩, -, -, u0, u1⟩ := h
  simp only at *
  simp only [Rc.val] at *
  have B0 := Bx.new w 24 [.int .u64 q, .int .i64 s, .int .i64 l, .int .u64 u]
  have G0 := World.grownBy_alloc w (.cells #[.int .u64 q, .int .i64 s, .int .i64 l, .int .u64 u] 24) none
  have H0 : Hid _ := And.intro B0 G0
  clear B0 G0
  have HR : Hid _ := hrt
  have HQ : Hid _ := And.intro (And.intro q0 q1) (And.intro u0 u1)
  clear hrt hr q0 q1 u0 u1
  go_enter Try.func9, Try.ntmps9
  go_wp2_with fail
  refine (h1 _).mono ?_
  rintro e w1 ⟨rfl, g1⟩
  have H1 : Hid _ := And.intro (H0.out.1.kept g1) (grown_trans H0.out.2 g1)
  clear H0 g1 h1
  go_wp2_with fail
  refine (newwriter_any 32 _).mono ?_
  rintro e w2 ⟨rfl, i2, g2⟩
  rw [if_neg (by decide)] at i2
  have H2 : Hid (Ew w w2 w.heap.size w1.heap.size ⟨q, s, l, u⟩ (.slice none 0 0) []) := ⟨H1.out.1.kept g2, i2, grown_trans H1.out.2 g2, Nat.le_refl _, H1.out.1.lt⟩
  clear i2 g2
  have HP : Hid (w.heap.size < w1.heap.size) := H1.out.1.lt
  clear H1
  generalize w1.heap.size = p at *
  generalize w.heap.size = gr at *
  have hcv := Go.Lib.run_convert_bytes_const (P := Try.prog) w2 25 5 #[.int .u8 80, .int .u8 77, .int .u8 66, .int .u8 49] 4 4 Try.underlying25 Try.underlying5
  have R3 := marked_row w2 [80, 77, 66, 49] (4, 5) (byt_of _ (by decide)) (by decide)
  have HM : Hid _ := And.intro R3 (World.grownBy_alloc w2 (.cells #[.int .u8 80, .int .u8 77, .int .u8 66, .int .u8 49] 5 (4, 5)) none)
  clear R3
  go_wp2_with fail
  clear hcv
  have H3 : Hid _ := H2.out.kept HM.out.2
  refine (wbytes_apart p _ [] 32 _ 4 4 [80, 77, 66, 49] _ H3.out.wi HM.out.1 (fun b off e h => by injection e with e; injection e with e1 e2; subst e1; exact ⟨by simp, Nat.ne_of_gt H2.out.wi.blk.lt, H2.out.free⟩) (by decide) (by decide) (by decide) (by decide)).mono ?_
  rintro e w4 ⟨v4, rfl, i4, k4⟩
  have H4 : Hid (Ew w w4 gr p ⟨q, s, l, u⟩ v4 [80, 77, 66, 49]) := H3.out.on i4 k4
  clear i4 k4 H3 H2 HM
  obtain ⟨a0, a1, a2, a3⟩ := bx4 H4.out.bx
  go_wp2_with fail
  refine (wnum_ok p _ _ 32 q 8 _ H4.out.wi (ckE0 rfl (by show q ≤ 18446744073709551615; have := HQ.out; omega)) (by decide) (by decide) (by decide) (by decide)).mono ?_
  rintro e w5 ⟨v5, rfl, i5, k5⟩
  have H5 : Hid (Ew w w5 gr p ⟨q, s, l, u⟩ v5 ([80, 77, 66, 49] ++ sto q 8)) := H4.out.on i5 k5
  clear i5 k5 H4 a0 a1 a2 a3
  obtain ⟨a0, a1, a2, a3⟩ := bx4 H5.out.bx
  have hws : IntKind.u64.wrap s = s := by rw [IntKind.wrap_u64]; have := HR.out; omega
  have hwl : IntKind.u64.wrap l = l := by rw [IntKind.wrap_u64]; have := HR.out; omega
  go_wp2_with fail
  refine (wnum_ok p _ _ 32 s 1 _ H5.out.wi (ckE0 rfl (by show s ≤ 255; have := HR.out; omega)) (by decide) (by decide) (by simp [sto_len]) (by simp [sto_len])).mono ?_
  rintro e w6 ⟨v6, rfl, i6, k6⟩
  rw [sto_one (by have := HR.out; omega) (by have := HR.out; omega)] at i6
  have H6 : Hid (Ew w w6 gr p ⟨q, s, l, u⟩ v6 ([80, 77, 66, 49] ++ sto q 8 ++ [s])) := H5.out.on i6 k6
  clear i6 k6 H5 a0 a1 a2 a3
  obtain ⟨a0, a1, a2, a3⟩ := bx4 H6.out.bx
  obtain ⟨i5, hi5, hz0, hz1, hz2⟩ := info_parts Try.info5
  go_wp2_with (at_make; refine wpList_make8 _ rfl _ _ 25 rfl i5 Try.underlying25 hi5 hz0 hz1 hz2 _ _ _ _ 3 rfl rfl rfl rfl (by decide) ?_; intro w7 hb7 hg7 hs7)
  clear hi5 hz0 hz1 hz2 hs7
  have H7 : Hid _ := H6.out.kept hg7
  refine (wbytes_apart p _ _ 32 _ 3 3 [0, 0, 0] _ H7.out.wi (Blk.row (bs := [0, 0, 0]) hb7 (byt_of _ (by decide)) (by decide)) (fun b off e h => by injection e with e; injection e with e1 e2; subst e1; exact ⟨hb7.lt, Nat.ne_of_gt H6.out.wi.blk.lt, H6.out.free⟩) (by decide) (by decide) (by simp [sto_len]) (by simp [sto_len])).mono ?_
  rintro e w8 ⟨v8, rfl, i8, k8⟩
  have H8 : Hid (Ew w w8 gr p ⟨q, s, l, u⟩ v8 ([80, 77, 66, 49] ++ sto q 8 ++ [s] ++ [0, 0, 0])) := H7.out.on i8 k8
  clear i8 k8 H7 H6 hb7 hg7 a0 a1 a2 a3
  obtain ⟨a0, a1, a2, a3⟩ := bx4 H8.out.bx
  go_wp2_with fail
  refine (wnum_ok p _ _ 32 l 4 _ H8.out.wi (ckE0 rfl (by show l ≤ 4294967295; have := HR.out; omega)) (by decide) (by decide) (by simp [sto_len]) (by simp [sto_len])).mono ?_
  rintro e w9 ⟨v9, rfl, i9, k9⟩
  have H9 : Hid (Ew w w9 gr p ⟨q, s, l, u⟩ v9 ([80, 77, 66, 49] ++ sto q 8 ++ [s] ++ [0, 0, 0] ++ sto l 4)) := H8.out.on i9 k9
  clear i9 k9 H8 a0 a1 a2 a3
  obtain ⟨a0, a1, a2, a3⟩ := bx4 H9.out.bx
  go_wp2_with fail
  refine (wnum_ok p _ _ 32 u 8 _ H9.out.wi (ckE0 rfl (by show u ≤ 18446744073709551615; have := HQ.out; omega)) (by decide) (by decide) (by simp [sto_len]) (by simp [sto_len])).mono ?_
  rintro e w10 ⟨v10, rfl, i10, k10⟩
  have e10 : [80, 77, 66, 49] ++ sto q 8 ++ [s] ++ [0, 0, 0] ++ sto l 4 ++ sto u 8 = rb0 ⟨q, s, l, u⟩ := by unfold rb0; simp
  rw [e10] at i10
  have H10 : Hid (Ew w w10 gr p ⟨q, s, l, u⟩ v10 (rb0 ⟨q, s, l, u⟩)) := H9.out.on i10 k10
  clear i10 k10 H9 a0 a1 a2 a3 e10
  have HB : Hid _ := rb0_byt (r := ⟨q, s, l, u⟩) (rrt_iff.2 HR.out)
  have HL : Hid _ := rb0_len ⟨q, s, l, u⟩
  generalize hbb : rb0 ⟨q, s, l, u⟩ = bb at *
  have HE : Hid _ := hbb
  clear hbb
  go_wp2_with fail
  refine (wdone_ok p _ _ 32 _ H10.out.wi (by rw [HL.out]; decide)).mono ?_
  rintro e w11 ⟨rfl, b11, g11⟩
  rw [HL.out]
  have R11 := Blk.row b11 HB.out (by rw [HL.out]; decide)
  have H11 : Hid _ := And.intro (H10.out.kept g11) (Blk.row b11 HB.out (by rw [HL.out]; decide))
  clear R11 b11 g11 H10
  generalize w10.heap.size = k11 at *
  have R11 := H11.out.2
  rw [HL.out] at R11
  have HR11 : Hid _ := R11
  clear R11
  go_wp2_with fail
  refine (crc_nil _ 28 28 bb _ HR11.out).mono ?_
  rintro e w12 ⟨rfl, g12⟩
  have H12 : Hid _ := H11.out.1.kept g12
  clear g12 H11 HR11
  have hcl := crc_lt ent 0 bb
  have hwc : IntKind.u64.wrap (crc ent 0 bb : Nat) = (crc ent 0 bb : Nat) := by rw [IntKind.wrap_u64]; omega
  have HC : Hid (((crc ent 0 bb : Nat) : Int) ≤ 4294967295) := by show ((crc ent 0 bb : Nat) : Int) ≤ 4294967295; omega
  clear hcl
  have HB2 : Hid (rby ⟨q, s, l, u⟩ = bb ++ sto ((crc ent 0 bb : Nat) : Int) 4) := by unfold rby; rw [HE.out]; exact rfl
  generalize ((crc ent 0 bb : Nat) : Int) = cc at *
  go_wp2_with fail
  refine (wnum_ok p _ _ 32 cc 4 _ H12.out.wi (ckE0 rfl HC.out) (by decide) (by decide) (by rw [HL.out]; decide) (by rw [HL.out]; decide)).mono ?_
  rintro e w13 ⟨v13, rfl, i13, k13⟩
  rw [← HB2.out] at i13
  have H13 : Hid (Ew w w13 gr p ⟨q, s, l, u⟩ v13 (rby ⟨q, s, l, u⟩)) := H12.out.on i13 k13
  clear i13 k13 H12
  have HL2 : Hid _ := rby_len ⟨q, s, l, u⟩
  clear HB2
  generalize rby ⟨q, s, l, u⟩ = rb at *
  go_wp2_with fail
  refine (wdone_ok p _ _ 32 _ H13.out.wi (by rw [HL2.out]; decide)).mono ?_
  rintro e w14 ⟨rfl, b14, g14⟩
  rw [HL2.out]
  have H14 : Hid _ := And.intro (H13.out.kept g14) b14
  have HZ : Hid (w.heap.size ≤ w13.heap.size) := H13.out.gw.size
  clear b14 g14 H13
  generalize w13.heap.size = k14 at *
  go_wp2
  go_ret2
  refine ⟨_, _, _, rfl, ⟨by rw [bv_length, HL2.out], Or.inr ⟨k14, 32, (bv rb).toArray, rfl, HZ.out, H14.out.2, Nat.le_refl _, by decide, ?_, ?_⟩⟩, H14.out.1.gw⟩
  · simp only [List.size_toArray, bv_length]; rw [HL2.out]
  · simp only [Nat.mul_one]; exact List.take_of_length_le (by rw [bv_length, HL2.out]; exact Nat.le_refl _)
theorem pencode_no (r : Rc) (w : World) (hr : rrt r = false) : Calls Try.prog 9 #[r.val] w (EnPost w ([], 1)) := by
  have h1 := fun W => pright_any r W
  rw [hr] at h1
  obtain ⟨q, s, l, u⟩ := r
  simp only [Rc.val] at *
  have HG : Hid _ := World.grownBy_alloc w (.cells #[.int .u64 q, .int .i64 s, .int .i64 l, .int .u64 u] 24) none
  clear hr
  go_enter Try.func9, Try.ntmps9
  go_wp2_with fail
  refine (h1 _).mono ?_
  rintro e w1 ⟨rfl, g1⟩
  have H1 : Hid _ := grown_trans HG.out g1
  clear HG g1 h1
  go_wp2
  go_ret2
  exact ⟨_, _, _, rfl, World.ownsRow_nil _ _ _ _, H1.out⟩
theorem pencode_any (r : Rc) (w : World) (h : r.ok) : Calls Try.prog 9 #[r.val] w (EnPost w (ren r)) := by
  unfold ren
  cases hr : rrt r
  · rw [if_neg (by decide)]; exact pencode_no r w hr
  · rw [if_pos rfl]; exact pencode_ok r w h hr
end Go.Proofs.Ytlbilpjlfelgdaa
