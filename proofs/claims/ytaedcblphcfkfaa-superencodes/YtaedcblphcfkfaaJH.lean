/- The page's example (live), num; two heads held against each other. -/
import Derived.Test.YtaedcblphcfkfaaJF
import Derived.DeepKeys
import Derived.Laws.StructEq
namespace Go.Proofs.Ytaedcblphcfkfaa
open Go.RowKit
set_option linter.unusedSimpArgs false
set_option linter.unusedVariables false

theorem wf13 {x : Int} (h : in64 x) : (Lit.int .i64 x).wf = true := by
  unfold in64 at h
  simp [Lit.wf, IntKind.min, IntKind.max, IntKind.signed, IntKind.bits]
  omega
theorem kl13 (d : Nat) {x : Int} (h : in64 x) : Try.prog.keyLits (d + 1) 3 [.int .i64 x] = some [.int .i64 x] := by
  simp [Program.keyLits, Try.underlying3, wf13 h]
theorem Try.c13 : Try.prog.cellsOf 3 = 1 := by kernel_rfl
theorem Try.c13p : Try.prog.cellsOf 23 = 2 := by kernel_rfl
theorem Try.c13a : Try.prog.cellsOf 24 = 12 := by kernel_rfl
theorem Try.c13s : Try.prog.cellsOf 26 = 15 := by kernel_rfl
theorem kl_span (d : Nat) {x y : Int} (h : in64 x) (k : in64 y) : Try.prog.keyLits (d + 2) 23 [.int .i64 x, .int .i64 y] = some [.int .i64 x, .int .i64 y] := by
  unfold Program.keyLits
  simp [Try.underlying23, Try.c13, Try.c13p, kl13 d h, kl13 d k]
theorem kl_arr6 (d : Nat) {a0 z0 a1 z1 a2 z2 a3 z3 a4 z4 a5 z5 : Int} (ha0 : in64 a0) (hz0 : in64 z0) (ha1 : in64 a1) (hz1 : in64 z1) (ha2 : in64 a2) (hz2 : in64 z2) (ha3 : in64 a3) (hz3 : in64 z3) (ha4 : in64 a4) (hz4 : in64 z4) (ha5 : in64 a5) (hz5 : in64 z5) : Try.prog.keyLits (d + 3) 24 [.int .i64 a0, .int .i64 z0, .int .i64 a1, .int .i64 z1, .int .i64 a2, .int .i64 z2, .int .i64 a3, .int .i64 z3, .int .i64 a4, .int .i64 z4, .int .i64 a5, .int .i64 z5] = some [.int .i64 a0, .int .i64 z0, .int .i64 a1, .int .i64 z1, .int .i64 a2, .int .i64 z2, .int .i64 a3, .int .i64 z3, .int .i64 a4, .int .i64 z4, .int .i64 a5, .int .i64 z5] := by
  unfold Program.keyLits
  simp [Try.underlying24, Try.c13p, Try.c13a, List.range, List.range.loop, kl_span d ha0 hz0, kl_span d ha1 hz1, kl_span d ha2 hz2, kl_span d ha3 hz3, kl_span d ha4 hz4, kl_span d ha5 hz5]
theorem kl_sup {s : Sp} (h : s.ok) : Try.prog.keyLits 8 26 s.val.cells.toList = some [.int .i64 s.lg, .int .i64 s.no, .int .i64 s.ln, .int .i64 s.a0, .int .i64 s.z0, .int .i64 s.a1, .int .i64 s.z1, .int .i64 s.a2, .int .i64 s.z2, .int .i64 s.a3, .int .i64 s.z3, .int .i64 s.a4, .int .i64 s.z4, .int .i64 s.a5, .int .i64 s.z5] := by
  obtain ⟨hlg, hno, hln, ha0, hz0, ha1, hz1, ha2, hz2, ha3, hz3, ha4, hz4, ha5, hz5⟩ := h
  rw [show s.val.cells.toList = s.cells from rfl]
  unfold Program.keyLits
  simp [Try.underlying26, Sp.cells, Try.c13, Try.c13a, Try.c13s, kl13 6 hlg, kl13 6 hno, kl13 6 hln, kl_arr6 4 ha0 hz0 ha1 hz1 ha2 hz2 ha3 hz3 ha4 hz4 ha5 hz5]
set_option maxRecDepth 100000 in
theorem sup_eq (s : Sp) (w : World) (h : s.ok) : (Op.equalIn 10000 26 s.val s.val).run Try.prog w = .ok true w := by
  obtain ⟨r, h1, h2⟩ := run_equalIn_deep (P := Try.prog) 9990 10 26 (by kernel_rfl) w 8 8 s.val s.val _ _ (by rfl) (by rfl) (kl_sup h) (kl_sup h)
  rw [show (9990 + 10) = 10000 from rfl] at h1
  rw [h1, h2.2 rfl]
theorem sup_eql (s : Sp) (w : World) (h : s.ok) : (binOp .eql 26 s.val s.val).run Try.prog w = .ok (.bool true) w := by
  have := sup_eq s w h
  unfold Sp.val at *
  rw [run_eql_struct, this]; rfl
theorem num13_any (x : Int) (w : World) : Calls Try.prog 10 #[.int .i64 x] w fun e w' => e = .returned (.int .i64 x) ∧ w = w' := by
  go_enter Try.func10, Try.ntmps10
  go_wp2
  go_ret
  exact ⟨rfl, rfl⟩
theorem sp0_ok : sp0.ok := by unfold sp0 Sp.ok in64; simp
theorem srd_ok {bs : List Int} (h : Byt bs) : (srd bs).ok := by
  have h6 := h.getD 6

  have q1 := le4 h 8
  have q2 := le4 h 12
  have q3 := le4 h 16
  have q4 := le4 h 20
  have q5 := le4 h 24
  have q6 := le4 h 28
  have q7 := le4 h 32
  have q8 := le4 h 36
  have q9 := le4 h 40
  have q10 := le4 h 44
  have q11 := le4 h 48
  have q12 := le4 h 52
  have q13 := le4 h 56
  have q14 := le4 h 60
  unfold srd Sp.ok in64
  simp only
  omega
theorem sde_ok {bs : List Int} (h : Byt bs) : (sde bs).1.ok ∧ in64 (sde bs).2 := by
  unfold sde
  split
  · exact ⟨sp0_ok, by unfold in64; simp⟩
  · split
    · exact ⟨sp0_ok, by unfold in64; simp⟩
    · split
      · split
        · exact ⟨srd_ok h, by unfold in64; simp⟩
        · exact ⟨sp0_ok, by unfold in64; simp⟩
      · exact ⟨sp0_ok, by unfold in64; simp⟩
def sx13 : Sp := ⟨12, 1, 68, 68, 0, 68, 0, 68, 0, 68, 0, 68, 0, 68, 0⟩
theorem sx_rt : srt sx13 = true := by decide
theorem sx_are : are sx13 5 = (68, 68, 0) := by unfold are; rw [if_pos sx_rt, if_neg (by decide)]; rfl
theorem sx_blk : blk13 sx13 = 4096 := by unfold blk13; rw [if_pos sx_rt]; rfl
/-- the example, j streams laid -/
def lvs (j : Nat) : List Value := [[.int .i64 12, .int .i64 1, .int .i64 68, .int .i64 0, .int .i64 0, .int .i64 0, .int .i64 0, .int .i64 0, .int .i64 0, .int .i64 0, .int .i64 0, .int .i64 0, .int .i64 0, .int .i64 0, .int .i64 0], [.int .i64 12, .int .i64 1, .int .i64 68, .int .i64 68, .int .i64 0, .int .i64 0, .int .i64 0, .int .i64 0, .int .i64 0, .int .i64 0, .int .i64 0, .int .i64 0, .int .i64 0, .int .i64 0, .int .i64 0], [.int .i64 12, .int .i64 1, .int .i64 68, .int .i64 68, .int .i64 0, .int .i64 68, .int .i64 0, .int .i64 0, .int .i64 0, .int .i64 0, .int .i64 0, .int .i64 0, .int .i64 0, .int .i64 0, .int .i64 0], [.int .i64 12, .int .i64 1, .int .i64 68, .int .i64 68, .int .i64 0, .int .i64 68, .int .i64 0, .int .i64 68, .int .i64 0, .int .i64 0, .int .i64 0, .int .i64 0, .int .i64 0, .int .i64 0, .int .i64 0], [.int .i64 12, .int .i64 1, .int .i64 68, .int .i64 68, .int .i64 0, .int .i64 68, .int .i64 0, .int .i64 68, .int .i64 0, .int .i64 68, .int .i64 0, .int .i64 0, .int .i64 0, .int .i64 0, .int .i64 0], [.int .i64 12, .int .i64 1, .int .i64 68, .int .i64 68, .int .i64 0, .int .i64 68, .int .i64 0, .int .i64 68, .int .i64 0, .int .i64 68, .int .i64 0, .int .i64 68, .int .i64 0, .int .i64 0, .int .i64 0], [.int .i64 12, .int .i64 1, .int .i64 68, .int .i64 68, .int .i64 0, .int .i64 68, .int .i64 0, .int .i64 68, .int .i64 0, .int .i64 68, .int .i64 0, .int .i64 68, .int .i64 0, .int .i64 68, .int .i64 0]].getD j []
theorem sen_right {s : Sp} (h : srt s = true) : sen s = (spb s, 0) := by unfold sen; rw [if_pos h]
set_option maxHeartbeats 4000000 in
theorem live13_any (w : World) : Calls Try.prog 7 #[] w fun e w' => e = .returned (.bool true) ∧ w.grownBy w' none := by
  have h1 := fun W => parea_any sx13 5 W
  have h2 := fun W => pencode13 sx13 W
  have h3 := fun W => pblock_any sx13 W
  have HN : Hid _ := spb_len sx13
  rw [sx_are] at h1
  rw [sen_right sx_rt] at h2
  rw [sx_blk] at h3
  generalize spb sx13 = sb at *
  simp only [sx13, Sp.val] at h1 h2 h3
  have H0 : Hid _ := And.intro (Bx.new w 26 [.int .i64 12, .int .i64 1, .int .i64 68, .int .i64 0, .int .i64 0, .int .i64 0, .int .i64 0, .int .i64 0, .int .i64 0, .int .i64 0, .int .i64 0, .int .i64 0, .int .i64 0, .int .i64 0, .int .i64 0]) (World.grownBy_alloc w (.cells #[.int .i64 12, .int .i64 1, .int .i64 68, .int .i64 0, .int .i64 0, .int .i64 0, .int .i64 0, .int .i64 0, .int .i64 0, .int .i64 0, .int .i64 0, .int .i64 0, .int .i64 0, .int .i64 0, .int .i64 0] 26) none)
  go_enter Try.func7, Try.ntmps7
  go_wp2
  go_loopw [2] (fun i wr => ∃ j : Nat, j ≤ 6 ∧ i = .int .i64 j ∧ Bx wr w.heap.size 26 (lvs j) ∧ w.grownBy wr none) (fun i _ => 6 - (intOf i).toNat)
  case atStart => exact ⟨0, by omega, rfl, H0.out⟩
  case round =>
    obtain ⟨j, hj, rfl, b, g⟩ := hrel
    have HJ : Hid _ := And.intro b g
    clear b g H0
    rcases (by omega : j = 0 ∨ j = 1 ∨ j = 2 ∨ j = 3 ∨ j = 4 ∨ j = 5 ∨ j = 6) with rfl | rfl | rfl | rfl | rfl | rfl | rfl
    · have c1 : wr.cell? ⟨w.heap.size, 3, none⟩ = some (.int .i64 0) := HJ.out.1.c 3
      have f1 := HJ.out.1.f 3
      go_wp2
      go_roundw
      case rel => exact ⟨1, by omega, rfl, HJ.out.1.set 3 (.int .i64 68), grown_new HJ.out.2 (grown_set _ _ _ _) (Nat.le_refl _)⟩
      case measure => simp [intOf]
    · have c1 : wr.cell? ⟨w.heap.size, 5, none⟩ = some (.int .i64 0) := HJ.out.1.c 5
      have f1 := HJ.out.1.f 5
      go_wp2
      go_roundw
      case rel => exact ⟨2, by omega, rfl, HJ.out.1.set 5 (.int .i64 68), grown_new HJ.out.2 (grown_set _ _ _ _) (Nat.le_refl _)⟩
      case measure => simp [intOf]
    · have c1 : wr.cell? ⟨w.heap.size, 7, none⟩ = some (.int .i64 0) := HJ.out.1.c 7
      have f1 := HJ.out.1.f 7
      go_wp2
      go_roundw
      case rel => exact ⟨3, by omega, rfl, HJ.out.1.set 7 (.int .i64 68), grown_new HJ.out.2 (grown_set _ _ _ _) (Nat.le_refl _)⟩
      case measure => simp [intOf]
    · have c1 : wr.cell? ⟨w.heap.size, 9, none⟩ = some (.int .i64 0) := HJ.out.1.c 9
      have f1 := HJ.out.1.f 9
      go_wp2
      go_roundw
      case rel => exact ⟨4, by omega, rfl, HJ.out.1.set 9 (.int .i64 68), grown_new HJ.out.2 (grown_set _ _ _ _) (Nat.le_refl _)⟩
      case measure => simp [intOf]
    · have c1 : wr.cell? ⟨w.heap.size, 11, none⟩ = some (.int .i64 0) := HJ.out.1.c 11
      have f1 := HJ.out.1.f 11
      go_wp2
      go_roundw
      case rel => exact ⟨5, by omega, rfl, HJ.out.1.set 11 (.int .i64 68), grown_new HJ.out.2 (grown_set _ _ _ _) (Nat.le_refl _)⟩
      case measure => simp [intOf]
    · have c1 : wr.cell? ⟨w.heap.size, 13, none⟩ = some (.int .i64 0) := HJ.out.1.c 13
      have f1 := HJ.out.1.f 13
      go_wp2
      go_roundw
      case rel => exact ⟨6, by omega, rfl, HJ.out.1.set 13 (.int .i64 68), grown_new HJ.out.2 (grown_set _ _ _ _) (Nat.le_refl _)⟩
      case measure => simp [intOf]
    · have HB : Hid (Bx wr w.heap.size 26 [.int .i64 12, .int .i64 1, .int .i64 68, .int .i64 68, .int .i64 0, .int .i64 68, .int .i64 0, .int .i64 68, .int .i64 0, .int .i64 68, .int .i64 0, .int .i64 68, .int .i64 0, .int .i64 68, .int .i64 0]) := HJ.out.1
      have HG : Hid _ := HJ.out.2
      clear HJ
      go_wp2_with ((with_reducible refine loadS_here ?_); refine wpList_loadB rfl 26 _ rfl w.heap.size rfl HB.out Try.underlying26 rfl infoS ?_)
      refine (h1 _).mono ?_
      rintro e w1 ⟨rfl, g1⟩
      have H1 : Hid _ := And.intro (HB.out.kept g1) (grown_trans HG.out g1)
      clear HB HG g1 h1
      go_wp2_with ((with_reducible refine loadS_here ?_); refine wpList_loadB rfl 26 _ rfl w.heap.size rfl H1.out.1 Try.underlying26 rfl infoS ?_)
      refine (h2 _).mono ?_
      intro e w2 k2
      obtain ⟨b2, m2, c2, rfl, o2, g2⟩ := k2
      obtain rfl : m2 = 68 := by have h := o2.1; simp only [bv_length] at h; have := HN.out; omega
      have H2 : Hid _ := And.intro (H1.out.1.kept g2) (grown_trans H1.out.2 g2)
      clear H1 g2 o2 h2
      obtain ⟨d0, d1, d2, d3, d4, d5, d6, d7, d8, d9, d10, d11, d12, d13, d14⟩ := bx15 H2.out.1
      simp only
      go_wp2_with (first | (go_at_call 10; (with_reducible refine (num13_any _ _).mono ?_); rintro e w' ⟨rfl, rfl⟩))
      refine (h3 _).mono ?_
      rintro e w3 ⟨rfl, g3⟩
      have H3 : Hid _ := grown_trans H2.out.2 g3
      clear H2 g3 h3 d0 d1 d2 d3 d4 d5 d6 d7 d8 d9 d10 d11 d12 d13 d14
      go_wp2
      go_ret
      exact ⟨rfl, H3.out⟩
end Go.Proofs.Ytaedcblphcfkfaa
