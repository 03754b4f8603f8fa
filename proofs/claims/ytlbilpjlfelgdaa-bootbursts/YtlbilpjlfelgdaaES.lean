/- The program's boot: what bytes say; are bytes the same? -/
import Derived.Test.YtlbilpjlfelgdaaEQ
namespace Go.Proofs.Ytlbilpjlfelgdaa
open Go.RowKit
set_option linter.unusedSimpArgs false
set_option linter.unusedVariables false

/-- a reader at work on a record's bytes: the answer's variable, the record's, the reader -/
structure Ef (w W : World) (gz gr p g : Nat) (bs : List Int) (k : Nat) (cs : List Value) : Prop where
  z : Bx W gz 24 [.int .u64 0, .int .i64 0, .int .i64 0, .int .u64 0]
  r : Bx W gr 24 cs
  ri : RInv W p g bs k 0
  gw : w.grownBy W none
  lz : w.heap.size ≤ gz
  lr : w.heap.size ≤ gr
  lp : w.heap.size ≤ p
  n1 : gz ≠ p
  n2 : gr ≠ p
  n3 : gr ≠ g
  n4 : gz ≠ gr
  n5 : gz ≠ g
theorem Ef.on {w W W' : World} {gz gr p g k k' : Nat} {bs : List Int} {cs : List Value} (h : Ef w W gz gr p g bs k cs) (hr : RInv W' p g bs k' 0) (hg : W.grownBy W' (some p)) : Ef w W' gz gr p g bs k' cs :=
  ⟨⟨by rw [hg.block _ h.z.lt (by simpa using h.n1)]; exact h.z.blk⟩, ⟨by rw [hg.block _ h.r.lt (by simpa using h.n2)]; exact h.r.blk⟩, hr, grown_new h.gw hg h.lp, h.lz, h.lr, h.lp, h.n1, h.n2, h.n3, h.n4, h.n5⟩
theorem Ef.put {w W : World} {gz gr p g k : Nat} {bs : List Int} {cs : List Value} (h : Ef w W gz gr p g bs k cs) (i : Nat) (v : Value) : Ef w (W.setCell ⟨gr, i, none⟩ v) gz gr p g bs k (cs.set i v) := by
  have hg := grown_set W gr i v
  exact ⟨⟨by rw [hg.block _ h.z.lt (by simpa using h.n4)]; exact h.z.blk⟩, h.r.set i v, h.ri.grown hg (by simpa using fun e => h.n2 e.symm) (by simpa using fun e => h.n3 e.symm), grown_new h.gw hg h.lr, h.lz, h.lr, h.lp, h.n1, h.n2, h.n3, h.n4, h.n5⟩
theorem Ef.ne {w W : World} {gz gr p g k : Nat} {bs : List Int} {cs : List Value} (h : Ef w W gz gr p g bs k cs) : gz ≠ p := h.n1
theorem le_one {bs : List Int} (k : Nat) (h : k < bs.length) : le ((bs.drop k).take 1) = bs.getD k 0 := by
  have e : (bs.drop k).take 1 = [bs[k]] := by rw [List.drop_eq_getElem_cons h]; rfl
  rw [e]
  simp [le, List.getD_eq_getElem?_getD, h]

set_option maxHeartbeats 2000000 in
theorem pfields_any (a : Option Addr) (cap : Nat) (bs : List Int) (w : World) (R : Row w a 32 bs) :
    Calls Try.prog 28 #[.slice a 32 cap] w fun e w' => e = .returned (rrd bs).val ∧ w.grownBy w' none := by
  have hlen := R.len_eq
  have HL : Hid _ := hlen
  have HB : Hid _ := R.byt
  have B0 := Bx.new w 24 [.int .u64 0, .int .i64 0, .int .i64 0, .int .u64 0]
  have G0 := World.grownBy_alloc w (.cells #[.int .u64 0, .int .i64 0, .int .i64 0, .int .u64 0] 24) none
  have R0 := R.grown G0
  have H0 : Hid _ := And.intro B0 (And.intro G0 R0)
  clear B0 G0 R0 R hlen
  go_enter Try.func28, Try.ntmps28
  go_wp2_with fail
  refine (newreader_any a 32 cap bs _ H0.out.2.2 (by decide)).mono ?_
  rintro e w1 ⟨p, g, rfl, i1, hp, hg, g1⟩
  simp only [World.size_alloc] at hp hg
  have H1 : Hid _ := And.intro (H0.out.1.kept g1) (And.intro i1 (And.intro (grown_trans H0.out.2.1 g1) (And.intro hp hg)))
  clear H0 i1 hp hg g1
  go_wp2_with fail
  have gA := World.grownBy_alloc w1 (.cells #[.int .u64 0, .int .i64 0, .int .i64 0, .int .u64 0] 24) none
  have H2 : Hid (Ef w (w1.alloc (.cells #[.int .u64 0, .int .i64 0, .int .i64 0, .int .u64 0] 24)) w.heap.size w1.heap.size p g bs 0 [.int .u64 0, .int .i64 0, .int .i64 0, .int .u64 0]) := by
    have h1 := H1.out
    have l1 := h1.1.lt
    have l2 := h1.2.1.blk.lt
    have l3 := h1.2.1.row.lt
    have l4 := h1.2.2.2
    exact ⟨h1.1.kept gA, Bx.new _ _ _, h1.2.1.grown gA (by simp) (by simp), grown_trans h1.2.2.1 gA, Nat.le_refl _, by omega, by omega, by omega, by omega, by omega, by omega, by omega⟩
  clear gA H1
  generalize w1.alloc (.cells #[.int .u64 0, .int .i64 0, .int .i64 0, .int .u64 0] 24) = W2 at *
  generalize w.heap.size = gz at *
  generalize w1.heap.size = gr at *
  refine (rbytes_ok p g bs 0 4 _ H2.out.ri (by rw [HL.out]; decide)).mono ?_
  rintro e w3 ⟨v3, rfl, -, i3, g3⟩
  have H3 : Hid (Ef w w3 gz gr p g bs 4 _) := H2.out.on i3 g3
  clear H2 i3 g3
  go_wp2_with fail
  refine (rnum_ok p g bs 4 8 _ H3.out.ri rfl (by rw [HL.out]; decide)).mono ?_
  rintro e w4 ⟨rfl, i4, g4⟩
  have H4 : Hid (Ef w w4 gz gr p g bs 12 _) := H3.out.on i4 g4
  clear H3 i4 g4
  obtain ⟨a0, a1, a2, a3⟩ := bx4 H4.out.r
  have f0 := H4.out.r.f 0
  generalize hq : le ((bs.drop 4).take 8) = q
  have HQ : Hid _ := hq
  clear hq
  have H5 : Hid _ := H4.out.put 0 (.int .u64 q)
  clear H4
  go_wp2_with fail
  clear a0 a1 a2 a3 f0
  generalize w4.setCell ⟨gr, 0, none⟩ (.int .u64 q) = W5 at *
  refine (rnum_ok p g bs 12 1 _ H5.out.ri rfl (by rw [HL.out]; decide)).mono ?_
  rintro e w6 ⟨rfl, i6, g6⟩
  have H6 : Hid (Ef w w6 gz gr p g bs 13 [.int .u64 q, .int .i64 0, .int .i64 0, .int .u64 0]) := H5.out.on i6 g6
  clear H5 i6 g6
  have f1 := H6.out.r.f 1
  have hs := le_one (bs := bs) 12 (by rw [HL.out]; decide)
  have hsb : 0 ≤ bs.getD 12 0 ∧ bs.getD 12 0 ≤ 255 := Byt.getD HB.out 12
  rw [hs]
  generalize hsl : bs.getD 12 0 = sl at *
  have HS : Hid _ := hsl
  clear hsl hs
  have hws : IntKind.i64.wrap sl = sl := by rw [IntKind.wrap_i64]; omega
  have c1 := (bx4 H6.out.r).2.1
  clear hsb
  have H7 : Hid (Ef w (w6.setCell ⟨gr, 1, none⟩ (.int .i64 sl)) gz gr p g bs 13 [.int .u64 q, .int .i64 sl, .int .i64 0, .int .u64 0]) := H6.out.put 1 (.int .i64 sl)
  clear H6
  go_wp2_with fail
  generalize w6.setCell ⟨gr, 1, none⟩ (.int .i64 sl) = W7 at *
  clear hws c1 f1
  refine (rbytes_ok p g bs 13 3 _ H7.out.ri (by rw [HL.out]; decide)).mono ?_
  rintro e w8 ⟨v8, rfl, -, i8, g8⟩
  have H8 : Hid (Ef w w8 gz gr p g bs 16 [.int .u64 q, .int .i64 sl, .int .i64 0, .int .u64 0]) := H7.out.on i8 g8
  clear H7 i8 g8
  go_wp2_with fail
  refine (rnum_ok p g bs 16 4 _ H8.out.ri rfl (by rw [HL.out]; decide)).mono ?_
  rintro e w9 ⟨rfl, i9, g9⟩
  have H9 : Hid (Ef w w9 gz gr p g bs 20 [.int .u64 q, .int .i64 sl, .int .i64 0, .int .u64 0]) := H8.out.on i9 g9
  clear H8 i9 g9
  have hb4 : Byt ((bs.drop 16).take 4) := (Byt.drop HB.out 16).take 4
  have hl0 := le_nonneg hb4
  have hl1 := le_lt hb4
  have hl4 : ((bs.drop 16).take 4).length = 4 := by simp [HL.out]
  rw [hl4] at hl1
  clear hl4 hb4
  generalize hll : le ((bs.drop 16).take 4) = ll at *
  have HN : Hid _ := hll
  clear hll
  have hwl : IntKind.i64.wrap ll = ll := by rw [IntKind.wrap_i64]; omega
  clear hl0 hl1
  have f2 := H9.out.r.f 2
  have c2 := (bx4 H9.out.r).2.2.1
  have H10 : Hid (Ef w (w9.setCell ⟨gr, 2, none⟩ (.int .i64 ll)) gz gr p g bs 20 [.int .u64 q, .int .i64 sl, .int .i64 ll, .int .u64 0]) := H9.out.put 2 (.int .i64 ll)
  clear H9
  go_wp2_with fail
  generalize w9.setCell ⟨gr, 2, none⟩ (.int .i64 ll) = W10 at *
  clear hwl c2 f2
  refine (rnum_ok p g bs 20 8 _ H10.out.ri rfl (by rw [HL.out]; decide)).mono ?_
  rintro e w11 ⟨rfl, i11, g11⟩
  have H11 : Hid (Ef w w11 gz gr p g bs 28 [.int .u64 q, .int .i64 sl, .int .i64 ll, .int .u64 0]) := H10.out.on i11 g11
  clear H10 i11 g11
  generalize huu : le ((bs.drop 20).take 8) = uu at *
  have HU : Hid _ := huu
  clear huu
  have f3 := H11.out.r.f 3
  have c3 := (bx4 H11.out.r).2.2.2
  have H12 : Hid (Ef w (w11.setCell ⟨gr, 3, none⟩ (.int .u64 uu)) gz gr p g bs 28 [.int .u64 q, .int .i64 sl, .int .i64 ll, .int .u64 uu]) := H11.out.put 3 (.int .u64 uu)
  clear H11
  have he : rrd bs = ⟨q, sl, ll, uu⟩ := by unfold rrd; rw [HQ.out, HS.out, HN.out, HU.out]
  have HE : Hid _ := he
  clear he
  obtain ⟨b0, b1, b2, b3⟩ := bx4 H12.out.r
  obtain ⟨z0, z1, z2, z3⟩ := bx4 H12.out.z
  have y0 := H12.out.z.f 0
  have y1 := H12.out.z.f 1
  have y2 := H12.out.z.f 2
  have y3 := H12.out.z.f 3
  have R4 := H12.out.z.set4 (.int .u64 q) (.int .i64 sl) (.int .i64 ll) (.int .u64 uu)
  have HG : Hid _ := grown_new H12.out.gw (grown_set4 _ gz (.int .u64 q) (.int .i64 sl) (.int .i64 ll) (.int .u64 uu)) H12.out.lz
  obtain ⟨d0, d1, d2, d3⟩ := bx4 R4
  unfold set4 at d0 d1 d2 d3
  clear R4
  go_wp2
  refine bodyPost_ret (by simp [results, Try.results28, go_sem, d0, d1, d2, d3]; try rfl) rfl ?_
  rw [HE.out]
  exact ⟨rfl, HG.out⟩
end Go.Proofs.Ytlbilpjlfelgdaa
