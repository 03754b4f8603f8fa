/- The program's super: a head's bytes. -/
import Derived.Test.YtaedcblphcfkfaaJB
import Derived.Test.YtaedcblphcfkfaaJC
import Derived.Test.YtaedcblphcfkfaaEQ
namespace Go.Proofs.Ytaedcblphcfkfaa
open Go.RowKit
set_option linter.unusedSimpArgs false
set_option linter.unusedVariables false

theorem WInv.free {w : World} {p : Nat} {v : Value} {bs : List Int} {most e : Int} (h : WInv w p v bs most e) : some w.heap.size ≠ v.ownBlock := fun e => by have := (h.own.lt _ e.symm).2; omega
set_option maxHeartbeats 2000000 in
theorem popen_ok (p : Nat) (v : Value) (most lg : Int) (w : World) (hI : WInv w p v [] most 0) (hm : 8 ≤ most) (h1 : most ≤ 100) (hl : 0 ≤ lg ∧ lg ≤ 255) :
    Calls Try.prog 18 #[.pointer (some ⟨p, 0, none⟩), .int .i64 lg] w fun e w' => ∃ v', e = .returned (.tuple #[]) ∧ WInv w' p v' [80, 77, 83, 49, 1, 0, lg, 0] most 0 ∧ Chg w w' p v v' := by
  have hcv := Go.Lib.run_convert_bytes_const (P := Try.prog) w 27 5 #[.int .u8 80, .int .u8 77, .int .u8 83, .int .u8 49] 4 4 Try.underlying27 Try.underlying5
  have g0 := World.grownBy_alloc w (.cells #[.int .u8 80, .int .u8 77, .int .u8 83, .int .u8 49] 5 (4, 5)) none
  have HM : Hid _ := And.intro (marked_row w [80, 77, 83, 49] (4, 5) (byt_of _ (by decide)) (by decide)) g0
  have H0 : Hid _ := And.intro (hI.grown g0) (And.intro (Chg.of_grown (p := p) (v := v) g0) (And.intro hI.free (Nat.ne_of_gt hI.blk.lt)))
  have HB : Hid (8 ≤ most ∧ most ≤ 100 ∧ 0 ≤ lg ∧ lg ≤ 255) := ⟨hm, h1, hl⟩
  have wl : IntKind.u64.wrap lg = lg := by rw [IntKind.wrap_u64]; omega
  clear g0 hI hm h1 hl
  go_enter Try.func18, Try.ntmps18
  go_wp2_with fail
  clear hcv
  refine (wbytes_apart p v [] most _ 4 4 [80, 77, 83, 49] _ H0.out.1 HM.out.1 (fun b off e h => by injection e with e; injection e with e1 e2; subst e1; exact ⟨by simp, H0.out.2.2.2, H0.out.2.2.1⟩) (by have := HB.out; omega) (by have := HB.out; omega) (by decide) (by have := HB.out; simp; omega)).mono ?_
  rintro e w1 ⟨v1, rfl, i1, k1⟩
  have H1 : Hid (WInv w1 p v1 [80, 77, 83, 49] most 0 ∧ Chg w w1 p v v1) := ⟨i1, H0.out.2.1.trans k1⟩
  clear i1 k1 H0 HM
  go_wp2_with fail
  refine (wnum_ok p _ _ most 1 2 _ H1.out.1 (ckE0 rfl (by decide)) (by have := HB.out; omega) (by have := HB.out; omega) (by decide) (by have := HB.out; simp; omega)).mono ?_
  rintro e w2 ⟨v2, rfl, i2, k2⟩
  have H2 : Hid (WInv w2 p v2 [80, 77, 83, 49, 1, 0] most 0 ∧ Chg w w2 p v v2) := ⟨i2, H1.out.2.trans k2⟩
  clear i2 k2 H1
  go_wp2_with fail
  refine (wnum_ok p _ _ most lg 1 _ H2.out.1 (ckE0 rfl (by show lg ≤ 255; have := HB.out; omega)) (by have := HB.out; omega) (by have := HB.out; omega) (by decide) (by have := HB.out; simp; omega)).mono ?_
  rintro e w3 ⟨v3, rfl, i3, k3⟩
  rw [sto_one HB.out.2.2.1 HB.out.2.2.2] at i3
  have H3 : Hid (WInv w3 p v3 [80, 77, 83, 49, 1, 0, lg] most 0 ∧ Chg w w3 p v v3) := ⟨i3, H2.out.2.trans k3⟩
  clear i3 k3 H2
  go_wp2_with fail
  refine (wnum_ok p _ _ most 0 1 _ H3.out.1 (ckE0 rfl (by decide)) (by have := HB.out; omega) (by have := HB.out; omega) (by simp) (by have := HB.out; simp; omega)).mono ?_
  rintro e w4 ⟨v4, rfl, i4, k4⟩
  have H4 : Hid (WInv w4 p v4 [80, 77, 83, 49, 1, 0, lg, 0] most 0 ∧ Chg w w4 p v v4) := ⟨i4, H3.out.2.trans k4⟩
  clear i4 k4 H3
  go_wp2
  exact bodyPost_end (results_none rfl _ _ _) rfl ⟨_, rfl, H4.out.1, H4.out.2⟩

/-- Encode, as a plain function -/
def sen (s : Sp) : List Int × Int := if srt s = true then (spb s, 0) else ([], 1)
/-- an answer of bytes, in new memory -/
def EnPost13 (w : World) (r : List Int × Int) (e : Ending) (w' : World) : Prop := ∃ a n c, e = .returned (.tuple #[.slice a n c, .int .i64 r.2]) ∧ w'.ownsRow w.heap.size 5 1 (.slice a n c) n (bv r.1) ∧ w.grownBy w' none
/-- a writer at work on a head's bytes -/
structure Ew13 (w W : World) (gr p : Nat) (s : Sp) (v : Value) (bs : List Int) : Prop where
  bx : Bx W gr 26 s.cells
  wi : WInv W p v bs 68 0
  gw : w.grownBy W none
  lo : w.heap.size ≤ gr
  lt : gr < p
theorem Ew13.kept {w W W' : World} {gr p : Nat} {s : Sp} {v : Value} {bs : List Int} (h : Ew13 w W gr p s v bs) (k : W.grownBy W' none) : Ew13 w W' gr p s v bs :=
  ⟨h.bx.kept k, h.wi.grown k, grown_trans h.gw k, h.lo, h.lt⟩
theorem Ew13.on {w W W' : World} {gr p : Nat} {s : Sp} {v v' : Value} {bs bs' : List Int} (h : Ew13 w W gr p s v bs) (hi : WInv W' p v' bs' 68 0) (k : Chg W W' p v v') : Ew13 w W' gr p s v' bs' := by
  have hlt := h.lt
  have hlo := h.lo
  have own : ∀ j, j < p → some j ≠ v.ownBlock := fun j hj e => by have := (h.wi.own.lt j e.symm).1; omega
  refine ⟨⟨by rw [k.block gr h.bx.lt (by omega) (own gr hlt)]; exact h.bx.blk⟩, hi, ⟨k.os.trans h.gw.os, k.tape.trans h.gw.tape, k.output.trans h.gw.output, Nat.le_trans h.gw.size k.size, fun j hj _ => ?_⟩, h.lo, h.lt⟩
  rw [k.block j (by have := h.gw.size; omega) (by omega) (own j (by omega))]
  exact h.gw.block j hj (by simp)
theorem num4 {w W : World} {gr p : Nat} {s : Sp} {v : Value} {bs : List Int} (h : Ew13 w W gr p s v bs) (x : Int) (hx : 0 ≤ x ∧ x ≤ 4294967295) (hl : bs.length + 4 ≤ 68) :
    Calls Try.prog 19 #[.pointer (some ⟨p, 0, none⟩), .int .u64 x, .int .i64 4] W fun e w' => e = .returned (.tuple #[]) ∧ ∃ v', Ew13 w w' gr p s v' (bs ++ sto x 4) ∧ ∀ g T cs, Bx W g T cs → g ≠ p → some g ≠ v.ownBlock → Bx w' g T cs := by
  refine (wnum_ok p _ _ 68 x 4 _ h.wi (ckE0 rfl hx.2) (by decide) (by decide) (by omega) (by omega)).mono ?_
  rintro e w' ⟨v', rfl, i, k⟩
  exact ⟨rfl, v', h.on i k, fun g T cs b h1 h2 => ⟨by rw [k.block g b.lt h1 h2]; exact b.blk⟩⟩
theorem in4 {x : Int} (h : 0 ≤ x ∧ x ≤ 16777216) : (0 ≤ x ∧ x ≤ 4294967295) ∧ IntKind.u64.wrap x = x := ⟨by omega, by rw [IntKind.wrap_u64]; omega⟩
set_option maxHeartbeats 8000000 in
theorem pencode13_ok (s : Sp) (w : World) (hr : srt s = true) : Calls Try.prog 8 #[s.val] w (EnPost13 w (spb s, 0)) := by
  have hrt := srt_iff.1 hr
  have HL : Hid (∀ j, (spc s j).length = 16 + 8 * j) := spc_len s
  have h1 := fun W => pcheck13_any s W
  unfold pck at h1
  rw [hr, if_pos rfl] at h1
  obtain ⟨hh, hsk⟩ := hrt
  unfold Hok at hh
  unfold Sok at hsk
  have HG : Hid (0 ≤ s.lg ∧ s.lg ≤ 255) := ⟨by omega, by omega⟩
  have HB : Hid (∀ j, Byt (spc s j)) := fun j => spc_byt HG.out j
  have HNO : Hid _ := @in4 s.no (by omega)
  have HLN : Hid _ := @in4 s.ln (by omega)
  have HA0 : Hid _ := @in4 s.a0 (by omega)
  have HZ0 : Hid _ := @in4 s.z0 (by omega)
  have HA1 : Hid _ := @in4 s.a1 (by omega)
  have HZ1 : Hid _ := @in4 s.z1 (by omega)
  have HA2 : Hid _ := @in4 s.a2 (by omega)
  have HZ2 : Hid _ := @in4 s.z2 (by omega)
  have HA3 : Hid _ := @in4 s.a3 (by omega)
  have HZ3 : Hid _ := @in4 s.z3 (by omega)
  have HA4 : Hid _ := @in4 s.a4 (by omega)
  have HZ4 : Hid _ := @in4 s.z4 (by omega)
  have HA5 : Hid _ := @in4 s.a5 (by omega)
  have HZ5 : Hid _ := @in4 s.z5 (by omega)
  clear hh hsk hr
  have HS : Hid (spb s = spc s 6 ++ sto (crc ent 0 (spc s 6) : Nat) 4) := rfl
  have HSL : Hid _ := spb_len s
  have HC0 : Hid (spc s 1 = spc s 0 ++ sto s.a0 4 ++ sto s.z0 4) := rfl
  have HC1 : Hid (spc s 2 = spc s 1 ++ sto s.a1 4 ++ sto s.z1 4) := rfl
  have HC2 : Hid (spc s 3 = spc s 2 ++ sto s.a2 4 ++ sto s.z2 4) := rfl
  have HC3 : Hid (spc s 4 = spc s 3 ++ sto s.a3 4 ++ sto s.z3 4) := rfl
  have HC4 : Hid (spc s 5 = spc s 4 ++ sto s.a4 4 ++ sto s.z4 4) := rfl
  have HC5 : Hid (spc s 6 = spc s 5 ++ sto s.a5 4 ++ sto s.z5 4) := rfl
  have HC : Hid (spc s 0 = [80, 77, 83, 49, 1, 0, s.lg, 0] ++ sto s.no 4 ++ sto s.ln 4) := rfl
  generalize spc s = sc at *
  generalize spb s = sb at *
  have B0 := Bx.new w 26 s.cells
  have H0 : Hid _ := And.intro B0 (World.grownBy_alloc w (.cells s.cells.toArray 26) none)
  obtain ⟨lg, no, ln, a0, z0, a1, z1, a2, z2, a3, z3, a4, z4, a5, z5⟩ := s
  simp only [Sp.val, Sp.cells] at *
  obtain ⟨d0, d1, d2, d3, d4, d5, d6, d7, d8, d9, d10, d11, d12, d13, d14⟩ := bx15 B0
  clear B0
  go_enter Try.func8, Try.ntmps8
  go_wp2_with fail
  refine (h1 _).mono ?_
  rintro e w1 ⟨rfl, g1⟩
  have H1 : Hid _ := And.intro (H0.out.1.kept g1) (grown_trans H0.out.2 g1)
  clear H0 g1 h1 d0 d1 d2 d3 d4 d5 d6 d7 d8 d9 d10 d11 d12 d13 d14
  go_wp2_with fail
  refine (newwriter_any 68 _).mono ?_
  rintro e w2 ⟨rfl, i2, g2⟩
  rw [if_neg (by decide)] at i2
  have H2 : Hid (Ew13 w w2 w.heap.size w1.heap.size ⟨lg, no, ln, a0, z0, a1, z1, a2, z2, a3, z3, a4, z4, a5, z5⟩ (.slice none 0 0) []) := ⟨H1.out.1.kept g2, i2, grown_trans H1.out.2 g2, Nat.le_refl _, H1.out.1.lt⟩
  clear i2 g2 H1
  have HGW : Hid (w.heap.size ≤ w.heap.size) := Nat.le_refl _
  generalize w1.heap.size = p at *
  generalize hgr : w.heap.size = gr at *
  have HGR : Hid _ := hgr
  clear hgr HGW
  have d0 : w2.cell? ⟨gr, 0, none⟩ = some (.int .i64 lg) := H2.out.bx.c 0
  go_wp2_with fail
  refine (popen_ok p _ 68 lg _ H2.out.wi (by decide) (by decide) HG.out).mono ?_
  rintro e w3 ⟨v3, rfl, i3, k3⟩
  have H3 : Hid (Ew13 w w3 gr p ⟨lg, no, ln, a0, z0, a1, z1, a2, z2, a3, z3, a4, z4, a5, z5⟩ v3 [80, 77, 83, 49, 1, 0, lg, 0]) := H2.out.on i3 k3
  clear i3 k3 H2 d0
  have d1 : w3.cell? ⟨gr, 1, none⟩ = some (.int .i64 no) := H3.out.bx.c 1
  have wn := HNO.out.2
  go_wp2_with fail
  refine (num4 H3.out no HNO.out.1 (by simp)).mono ?_
  rintro e w4 ⟨rfl, v4, k4, -⟩
  have H4 : Hid _ := k4
  clear k4 H3 d1 wn
  have d2 : w4.cell? ⟨gr, 2, none⟩ = some (.int .i64 ln) := H4.out.bx.c 2
  have wn := HLN.out.2
  go_wp2_with fail
  refine (num4 H4.out ln HLN.out.1 (by simp [sto_len])).mono ?_
  rintro e w5 ⟨rfl, v5, k5, -⟩
  rw [← HC.out] at k5
  have H5 : Hid _ := k5
  clear k5 H4 d2 wn HNO HLN
  obtain ⟨d0, d1, d2, d3, d4, d5, d6, d7, d8, d9, d10, d11, d12, d13, d14⟩ := bx15 H5.out.bx
  go_wp2
  clear d0 d1 d2 d3 d4 d5 d6 d7 d8 d9 d10 d11 d12 d13 d14
  go_loopw [29] (fun i wr => ∃ (j : Nat) (v : Value), j ≤ 6 ∧ i = .int .i64 j ∧ Ew13 w wr gr p ⟨lg, no, ln, a0, z0, a1, z1, a2, z2, a3, z3, a4, z4, a5, z5⟩ v (sc j)) (fun i _ => 6 - (intOf i).toNat)
  case atStart => exact ⟨0, v5, by omega, rfl, H5.out⟩
  case round =>
    obtain ⟨j, v6, hj, rfl, J⟩ := hrel
    have HJ : Hid _ := J
    clear J H5
    rcases (by omega : j = 0 ∨ j = 1 ∨ j = 2 ∨ j = 3 ∨ j = 4 ∨ j = 5 ∨ j = 6) with rfl | rfl | rfl | rfl | rfl | rfl | rfl
    · clear HA1 HZ1 HC1 HA2 HZ2 HC2 HA3 HZ3 HC3 HA4 HZ4 HC4 HA5 HZ5 HC5
      have gA := World.grownBy_alloc wr (.cells #[.int .i64 a0, .int .i64 z0] 23) none
      have H1 : Hid _ := And.intro (HJ.out.kept gA) (And.intro (Bx.new wr 23 [.int .i64 a0, .int .i64 z0]) (And.intro (Nat.ne_of_gt HJ.out.wi.blk.lt) HJ.out.wi.free))
      clear gA HJ
      have wn := HA0.out.2
      go_wp2_with ((with_reducible refine ix6_here ?_); refine wpList_index rfl 24 _ _ rfl _ _ _ rfl rfl (run_ix6_0 _ _ _ _ _ _ _ _ _ _ _ _ _) ?_)
      generalize wr.alloc (.cells #[.int .i64 a0, .int .i64 z0] 23) = W1 at *
      generalize wr.heap.size = gx at *
      refine (num4 H1.out.1 a0 HA0.out.1 (by rw [HL.out]; decide)).mono ?_
      rintro e w2 ⟨rfl, v2, k2, b2⟩
      have H2 : Hid _ := And.intro k2 (b2 _ _ _ H1.out.2.1 H1.out.2.2.1 H1.out.2.2.2)
      clear k2 b2 H1 wn
      have d1 : w2.cell? ⟨gx, 1, none⟩ = some (.int .i64 z0) := H2.out.2.c 1
      have wn := HZ0.out.2
      go_wp2_with fail
      refine (num4 H2.out.1 z0 HZ0.out.1 (by rw [List.length_append, HL.out, sto_len]; decide)).mono ?_
      rintro e w3 ⟨rfl, v3, k3, -⟩
      rw [← HC0.out] at k3
      have H3 : Hid _ := k3
      clear k3 H2 wn d1
      go_wp2
      go_roundw
      case rel => exact ⟨1, v3, by omega, rfl, H3.out⟩
      case measure => simp [intOf]
    · clear HA0 HZ0 HC0 HA2 HZ2 HC2 HA3 HZ3 HC3 HA4 HZ4 HC4 HA5 HZ5 HC5
      have gA := World.grownBy_alloc wr (.cells #[.int .i64 a1, .int .i64 z1] 23) none
      have H1 : Hid _ := And.intro (HJ.out.kept gA) (And.intro (Bx.new wr 23 [.int .i64 a1, .int .i64 z1]) (And.intro (Nat.ne_of_gt HJ.out.wi.blk.lt) HJ.out.wi.free))
      clear gA HJ
      have wn := HA1.out.2
      go_wp2_with ((with_reducible refine ix6_here ?_); refine wpList_index rfl 24 _ _ rfl _ _ _ rfl rfl (run_ix6_1 _ _ _ _ _ _ _ _ _ _ _ _ _) ?_)
      generalize wr.alloc (.cells #[.int .i64 a1, .int .i64 z1] 23) = W1 at *
      generalize wr.heap.size = gx at *
      refine (num4 H1.out.1 a1 HA1.out.1 (by rw [HL.out]; decide)).mono ?_
      rintro e w2 ⟨rfl, v2, k2, b2⟩
      have H2 : Hid _ := And.intro k2 (b2 _ _ _ H1.out.2.1 H1.out.2.2.1 H1.out.2.2.2)
      clear k2 b2 H1 wn
      have d1 : w2.cell? ⟨gx, 1, none⟩ = some (.int .i64 z1) := H2.out.2.c 1
      have wn := HZ1.out.2
      go_wp2_with fail
      refine (num4 H2.out.1 z1 HZ1.out.1 (by rw [List.length_append, HL.out, sto_len]; decide)).mono ?_
      rintro e w3 ⟨rfl, v3, k3, -⟩
      rw [← HC1.out] at k3
      have H3 : Hid _ := k3
      clear k3 H2 wn d1
      go_wp2
      go_roundw
      case rel => exact ⟨2, v3, by omega, rfl, H3.out⟩
      case measure => simp [intOf]
    · clear HA0 HZ0 HC0 HA1 HZ1 HC1 HA3 HZ3 HC3 HA4 HZ4 HC4 HA5 HZ5 HC5
      have gA := World.grownBy_alloc wr (.cells #[.int .i64 a2, .int .i64 z2] 23) none
      have H1 : Hid _ := And.intro (HJ.out.kept gA) (And.intro (Bx.new wr 23 [.int .i64 a2, .int .i64 z2]) (And.intro (Nat.ne_of_gt HJ.out.wi.blk.lt) HJ.out.wi.free))
      clear gA HJ
      have wn := HA2.out.2
      go_wp2_with ((with_reducible refine ix6_here ?_); refine wpList_index rfl 24 _ _ rfl _ _ _ rfl rfl (run_ix6_2 _ _ _ _ _ _ _ _ _ _ _ _ _) ?_)
      generalize wr.alloc (.cells #[.int .i64 a2, .int .i64 z2] 23) = W1 at *
      generalize wr.heap.size = gx at *
      refine (num4 H1.out.1 a2 HA2.out.1 (by rw [HL.out]; decide)).mono ?_
      rintro e w2 ⟨rfl, v2, k2, b2⟩
      have H2 : Hid _ := And.intro k2 (b2 _ _ _ H1.out.2.1 H1.out.2.2.1 H1.out.2.2.2)
      clear k2 b2 H1 wn
      have d1 : w2.cell? ⟨gx, 1, none⟩ = some (.int .i64 z2) := H2.out.2.c 1
      have wn := HZ2.out.2
      go_wp2_with fail
      refine (num4 H2.out.1 z2 HZ2.out.1 (by rw [List.length_append, HL.out, sto_len]; decide)).mono ?_
      rintro e w3 ⟨rfl, v3, k3, -⟩
      rw [← HC2.out] at k3
      have H3 : Hid _ := k3
      clear k3 H2 wn d1
      go_wp2
      go_roundw
      case rel => exact ⟨3, v3, by omega, rfl, H3.out⟩
      case measure => simp [intOf]
    · clear HA0 HZ0 HC0 HA1 HZ1 HC1 HA2 HZ2 HC2 HA4 HZ4 HC4 HA5 HZ5 HC5
      have gA := World.grownBy_alloc wr (.cells #[.int .i64 a3, .int .i64 z3] 23) none
      have H1 : Hid _ := And.intro (HJ.out.kept gA) (And.intro (Bx.new wr 23 [.int .i64 a3, .int .i64 z3]) (And.intro (Nat.ne_of_gt HJ.out.wi.blk.lt) HJ.out.wi.free))
      clear gA HJ
      have wn := HA3.out.2
      go_wp2_with ((with_reducible refine ix6_here ?_); refine wpList_index rfl 24 _ _ rfl _ _ _ rfl rfl (run_ix6_3 _ _ _ _ _ _ _ _ _ _ _ _ _) ?_)
      generalize wr.alloc (.cells #[.int .i64 a3, .int .i64 z3] 23) = W1 at *
      generalize wr.heap.size = gx at *
      refine (num4 H1.out.1 a3 HA3.out.1 (by rw [HL.out]; decide)).mono ?_
      rintro e w2 ⟨rfl, v2, k2, b2⟩
      have H2 : Hid _ := And.intro k2 (b2 _ _ _ H1.out.2.1 H1.out.2.2.1 H1.out.2.2.2)
      clear k2 b2 H1 wn
      have d1 : w2.cell? ⟨gx, 1, none⟩ = some (.int .i64 z3) := H2.out.2.c 1
      have wn := HZ3.out.2
      go_wp2_with fail
      refine (num4 H2.out.1 z3 HZ3.out.1 (by rw [List.length_append, HL.out, sto_len]; decide)).mono ?_
      rintro e w3 ⟨rfl, v3, k3, -⟩
      rw [← HC3.out] at k3
      have H3 : Hid _ := k3
      clear k3 H2 wn d1
      go_wp2
      go_roundw
      case rel => exact ⟨4, v3, by omega, rfl, H3.out⟩
      case measure => simp [intOf]
    · clear HA0 HZ0 HC0 HA1 HZ1 HC1 HA2 HZ2 HC2 HA3 HZ3 HC3 HA5 HZ5 HC5
      have gA := World.grownBy_alloc wr (.cells #[.int .i64 a4, .int .i64 z4] 23) none
      have H1 : Hid _ := And.intro (HJ.out.kept gA) (And.intro (Bx.new wr 23 [.int .i64 a4, .int .i64 z4]) (And.intro (Nat.ne_of_gt HJ.out.wi.blk.lt) HJ.out.wi.free))
      clear gA HJ
      have wn := HA4.out.2
      go_wp2_with ((with_reducible refine ix6_here ?_); refine wpList_index rfl 24 _ _ rfl _ _ _ rfl rfl (run_ix6_4 _ _ _ _ _ _ _ _ _ _ _ _ _) ?_)
      generalize wr.alloc (.cells #[.int .i64 a4, .int .i64 z4] 23) = W1 at *
      generalize wr.heap.size = gx at *
      refine (num4 H1.out.1 a4 HA4.out.1 (by rw [HL.out]; decide)).mono ?_
      rintro e w2 ⟨rfl, v2, k2, b2⟩
      have H2 : Hid _ := And.intro k2 (b2 _ _ _ H1.out.2.1 H1.out.2.2.1 H1.out.2.2.2)
      clear k2 b2 H1 wn
      have d1 : w2.cell? ⟨gx, 1, none⟩ = some (.int .i64 z4) := H2.out.2.c 1
      have wn := HZ4.out.2
      go_wp2_with fail
      refine (num4 H2.out.1 z4 HZ4.out.1 (by rw [List.length_append, HL.out, sto_len]; decide)).mono ?_
      rintro e w3 ⟨rfl, v3, k3, -⟩
      rw [← HC4.out] at k3
      have H3 : Hid _ := k3
      clear k3 H2 wn d1
      go_wp2
      go_roundw
      case rel => exact ⟨5, v3, by omega, rfl, H3.out⟩
      case measure => simp [intOf]
    · clear HA0 HZ0 HC0 HA1 HZ1 HC1 HA2 HZ2 HC2 HA3 HZ3 HC3 HA4 HZ4 HC4
      have gA := World.grownBy_alloc wr (.cells #[.int .i64 a5, .int .i64 z5] 23) none
      have H1 : Hid _ := And.intro (HJ.out.kept gA) (And.intro (Bx.new wr 23 [.int .i64 a5, .int .i64 z5]) (And.intro (Nat.ne_of_gt HJ.out.wi.blk.lt) HJ.out.wi.free))
      clear gA HJ
      have wn := HA5.out.2
      go_wp2_with ((with_reducible refine ix6_here ?_); refine wpList_index rfl 24 _ _ rfl _ _ _ rfl rfl (run_ix6_5 _ _ _ _ _ _ _ _ _ _ _ _ _) ?_)
      generalize wr.alloc (.cells #[.int .i64 a5, .int .i64 z5] 23) = W1 at *
      generalize wr.heap.size = gx at *
      refine (num4 H1.out.1 a5 HA5.out.1 (by rw [HL.out]; decide)).mono ?_
      rintro e w2 ⟨rfl, v2, k2, b2⟩
      have H2 : Hid _ := And.intro k2 (b2 _ _ _ H1.out.2.1 H1.out.2.2.1 H1.out.2.2.2)
      clear k2 b2 H1 wn
      have d1 : w2.cell? ⟨gx, 1, none⟩ = some (.int .i64 z5) := H2.out.2.c 1
      have wn := HZ5.out.2
      go_wp2_with fail
      refine (num4 H2.out.1 z5 HZ5.out.1 (by rw [List.length_append, HL.out, sto_len]; decide)).mono ?_
      rintro e w3 ⟨rfl, v3, k3, -⟩
      rw [← HC5.out] at k3
      have H3 : Hid _ := k3
      clear k3 H2 wn d1
      go_wp2
      go_roundw
      case rel => exact ⟨6, v3, by omega, rfl, H3.out⟩
      case measure => simp [intOf]
    · clear HA0 HZ0 HC0 HA1 HZ1 HC1 HA2 HZ2 HC2 HA3 HZ3 HC3 HA4 HZ4 HC4 HA5 HZ5 HC5
      have HL6 : Hid ((sc 6).length = 64) := HL.out 6
      have HB6 : Hid _ := HB.out 6
      clear HL HB HC
      generalize sc 6 = bb at *
      go_wp2_with fail
      refine (wdone_ok p _ _ 68 _ HJ.out.wi (by rw [HL6.out]; decide)).mono ?_
      rintro e w11 ⟨rfl, b11, g11⟩
      rw [HL6.out]
      have H11 : Hid _ := And.intro (HJ.out.kept g11) (Blk.row b11 HB6.out (by rw [HL6.out]; decide))
      clear b11 g11 HJ
      generalize wr.heap.size = k11 at *
      have R11 := H11.out.2
      rw [HL6.out] at R11
      have HR11 : Hid _ := R11
      clear R11
      go_wp2_with fail
      refine (crc_nil _ 64 64 bb _ HR11.out).mono ?_
      rintro e w12 ⟨rfl, g12⟩
      have H12 : Hid _ := H11.out.1.kept g12
      clear g12 H11 HR11
      have hcl := crc_lt ent 0 bb
      have hwc : IntKind.u64.wrap (crc ent 0 bb : Nat) = (crc ent 0 bb : Nat) := by rw [IntKind.wrap_u64]; omega
      have HK : Hid (0 ≤ ((crc ent 0 bb : Nat) : Int) ∧ ((crc ent 0 bb : Nat) : Int) ≤ 4294967295) := by show 0 ≤ ((crc ent 0 bb : Nat) : Int) ∧ ((crc ent 0 bb : Nat) : Int) ≤ 4294967295; omega
      clear hcl
      generalize ((crc ent 0 bb : Nat) : Int) = cc at *
      go_wp2_with fail
      refine (num4 H12.out cc HK.out (by rw [HL6.out]; decide)).mono ?_
      rintro e w13 ⟨rfl, v13, k13, -⟩
      rw [← HS.out] at k13
      have H13 : Hid _ := k13
      clear k13 H12 hwc
      go_wp2_with fail
      refine (wdone_ok p _ _ 68 _ H13.out.wi (by rw [HSL.out]; decide)).mono ?_
      rintro e w14 ⟨rfl, b14, g14⟩
      rw [HSL.out]
      have H14 : Hid _ := And.intro (H13.out.kept g14) b14
      have HZ : Hid (w.heap.size ≤ w13.heap.size) := H13.out.gw.size
      clear b14 g14 H13
      generalize w13.heap.size = k14 at *
      go_wp2
      go_ret2
      refine ⟨_, _, _, rfl, ⟨by rw [bv_length, HSL.out], Or.inr ⟨k14, 68, (bv sb).toArray, rfl, HZ.out, H14.out.2, Nat.le_refl _, by decide, ?_, ?_⟩⟩, H14.out.1.gw⟩
      · simp only [List.size_toArray, bv_length]; rw [HSL.out]
      · simp only [Nat.mul_one]; exact List.take_of_length_le (by rw [bv_length, HSL.out]; exact Nat.le_refl _)
theorem pencode13_no (s : Sp) (w : World) (hr : srt s = false) : Calls Try.prog 8 #[s.val] w (EnPost13 w ([], 1)) := by
  have h1 := fun W => pcheck13_any s W
  unfold pck at h1
  rw [hr, if_neg (by decide)] at h1
  have B0 := Bx.new w 26 s.cells
  have H0 : Hid _ := And.intro B0 (World.grownBy_alloc w (.cells s.cells.toArray 26) none)
  clear hr
  obtain ⟨lg, no, ln, a0, z0, a1, z1, a2, z2, a3, z3, a4, z4, a5, z5⟩ := s
  simp only [Sp.val, Sp.cells] at *
  obtain ⟨d0, d1, d2, d3, d4, d5, d6, d7, d8, d9, d10, d11, d12, d13, d14⟩ := bx15 B0
  clear B0
  go_enter Try.func8, Try.ntmps8
  go_wp2_with fail
  refine (h1 _).mono ?_
  rintro e w1 ⟨rfl, g1⟩
  have H1 : Hid _ := grown_trans H0.out.2 g1
  clear H0 g1 h1
  go_wp2
  go_ret2
  exact ⟨_, _, _, rfl, World.ownsRow_nil _ _ _ _, H1.out⟩
theorem pencode13 (s : Sp) (w : World) : Calls Try.prog 8 #[s.val] w (EnPost13 w (sen s)) := by
  unfold sen
  cases hr : srt s
  · rw [if_neg (by decide)]; exact pencode13_no s w hr
  · rw [if_pos rfl]; exact pencode13_ok s w hr
end Go.Proofs.Ytaedcblphcfkfaa
