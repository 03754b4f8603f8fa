/- A head's bytes. -/
import Derived.Test.YtaedcblphcfkfaaJA
import Derived.Test.YtaedcblphcfkfaaSB
import Derived.Laws.OwnMore
namespace Go.Proofs.Ytaedcblphcfkfaa
open Go.RowKit
set_option linter.unusedSimpArgs false
set_option linter.unusedVariables false

/-- the place and the size of the j-th stream -/
def atk (s : Sp) (j : Nat) : Int := [s.a0, s.a1, s.a2, s.a3, s.a4, s.a5].getD j 0
def szk (s : Sp) (j : Nat) : Int := [s.z0, s.z1, s.z2, s.z3, s.z4, s.z5].getD j 0
/-- the bytes ahead of the streams; with j streams; with all; with the sum -/
def sph (s : Sp) : List Int := [80, 77, 83, 49, 1, 0, s.lg, 0] ++ sto s.no 4 ++ sto s.ln 4
def spc (s : Sp) : Nat → List Int
  | 0 => sph s
  | j + 1 => spc s j ++ sto (atk s j) 4 ++ sto (szk s j) 4
def spb (s : Sp) : List Int := spc s 6 ++ sto (crc ent 0 (spc s 6) : Nat) 4
theorem spc_len (s : Sp) (j : Nat) : (spc s j).length = 16 + 8 * j := by
  induction j with
  | zero => unfold spc sph; simp [sto_len]
  | succ j ih => unfold spc; simp only [List.length_append, ih, sto_len]; omega
theorem spb_len (s : Sp) : (spb s).length = 68 := by unfold spb; rw [List.length_append, spc_len, sto_len]
theorem sph_byt {s : Sp} (h : 0 ≤ s.lg ∧ s.lg ≤ 255) : Byt (sph s) := by
  unfold sph
  refine (Byt.append (Byt.append ?_ (sto_byt _ _)) (sto_byt _ _))
  intro x hx; simp at hx; omega
theorem spc_byt {s : Sp} (h : 0 ≤ s.lg ∧ s.lg ≤ 255) (j : Nat) : Byt (spc s j) := by
  induction j with
  | zero => unfold spc; exact sph_byt h
  | succ j ih => unfold spc; exact ((ih.append (sto_byt _ _)).append (sto_byt _ _))
theorem spb_byt {s : Sp} (h : 0 ≤ s.lg ∧ s.lg ≤ 255) : Byt (spb s) := by unfold spb; exact (spc_byt h 6).append (sto_byt _ _)
structure By13 (w W : World) (g : Nat) (s : Sp) (v : Value) (n : Nat) (xs : List Int) : Prop where
  bx : Bx W g 26 s.cells
  own : W.ownsRow w.heap.size 5 1 v n (bv xs)
  gr : w.grownBy W none
theorem By13.keep {w W W' : World} {g n : Nat} {s : Sp} {v : Value} {xs : List Int} (h : By13 w W g s v n xs) (k : W.grownBy W' none) : By13 w W' g s v n xs :=
  ⟨h.bx.kept k, h.own.kept k (by cases v.ownBlock <;> simp), grown_trans h.gr k⟩
theorem By13.app {w W W' : World} {g n m : Nat} {s : Sp} {v v' : Value} {xs ys : List Int} (h : By13 w W g s v n xs) (o : W'.ownsRow w.heap.size 5 1 v' (n + m) (bv xs ++ bv ys)) (k : W.grownBy W' v.ownBlock) : By13 w W' g s v' (n + m) (xs ++ ys) :=
  ⟨⟨by rw [k.block _ h.bx.lt (own_bx h.own h.bx (by decide))]; exact h.bx.blk⟩, by rw [bv_append]; exact o, grown_own h.gr h.own k (Nat.le_refl _)⟩
/-- a number that is stored -/
theorem store4 (x : Int) (W : World) (h : 0 ≤ x ∧ x ≤ 4294967295) : Calls Try.prog 26 #[.int .u64 x, .int .i64 4] W fun e w' => ∃ a c, e = .returned (.slice a 4 c) ∧ Row w' a 4 (sto x 4) ∧ (a = none → c = 0) ∧ W.grownBy w' none := by
  refine (store_own x 4 W (by omega) (by omega) (by omega)).mono ?_
  rintro e w' ⟨v, rfl, o1, g1⟩
  obtain ⟨a1, c1, rfl, R1, n1, _, _⟩ := own_bytes o1 (sto_byt _ _) (by unfold maxLen; omega)
  exact ⟨a1, c1, rfl, R1, n1, g1⟩
set_option maxHeartbeats 8000000 in
theorem rbytes13 (s : Sp) (w : World) (hr : srt s = true) :
    Calls Try.prog 13 #[s.val] w fun e w' => ∃ v, e = .returned v ∧ w'.ownsRow w.heap.size 5 1 v 68 (bv (spb s)) ∧ w.grownBy w' none := by
  obtain ⟨i5, hi, hz0, hz1, hz2⟩ := info_parts Try.info5
  have hrt := srt_iff.1 hr
  have HB : Hid (∀ j, Byt (spc s j)) := fun j => spc_byt ⟨by have := hrt.1; unfold Hok at this; omega, by have := hrt.1; unfold Hok at this; omega⟩ j
  obtain ⟨hh, hsk⟩ := hrt
  unfold Hok at hh
  unfold Sok at hsk
  have h1 := fun W => store4 s.no W (by omega)
  have h2 := fun W => store4 s.ln W (by omega)
  have HA0 : Hid (∀ W, _) := fun W => store4 s.a0 W (by omega)
  have HZ0 : Hid (∀ W, _) := fun W => store4 s.z0 W (by omega)
  have HW0 : Hid (IntKind.u64.wrap s.a0 = s.a0 ∧ IntKind.u64.wrap s.z0 = s.z0) := ⟨by rw [IntKind.wrap_u64]; omega, by rw [IntKind.wrap_u64]; omega⟩
  have HA1 : Hid (∀ W, _) := fun W => store4 s.a1 W (by omega)
  have HZ1 : Hid (∀ W, _) := fun W => store4 s.z1 W (by omega)
  have HW1 : Hid (IntKind.u64.wrap s.a1 = s.a1 ∧ IntKind.u64.wrap s.z1 = s.z1) := ⟨by rw [IntKind.wrap_u64]; omega, by rw [IntKind.wrap_u64]; omega⟩
  have HA2 : Hid (∀ W, _) := fun W => store4 s.a2 W (by omega)
  have HZ2 : Hid (∀ W, _) := fun W => store4 s.z2 W (by omega)
  have HW2 : Hid (IntKind.u64.wrap s.a2 = s.a2 ∧ IntKind.u64.wrap s.z2 = s.z2) := ⟨by rw [IntKind.wrap_u64]; omega, by rw [IntKind.wrap_u64]; omega⟩
  have HA3 : Hid (∀ W, _) := fun W => store4 s.a3 W (by omega)
  have HZ3 : Hid (∀ W, _) := fun W => store4 s.z3 W (by omega)
  have HW3 : Hid (IntKind.u64.wrap s.a3 = s.a3 ∧ IntKind.u64.wrap s.z3 = s.z3) := ⟨by rw [IntKind.wrap_u64]; omega, by rw [IntKind.wrap_u64]; omega⟩
  have HA4 : Hid (∀ W, _) := fun W => store4 s.a4 W (by omega)
  have HZ4 : Hid (∀ W, _) := fun W => store4 s.z4 W (by omega)
  have HW4 : Hid (IntKind.u64.wrap s.a4 = s.a4 ∧ IntKind.u64.wrap s.z4 = s.z4) := ⟨by rw [IntKind.wrap_u64]; omega, by rw [IntKind.wrap_u64]; omega⟩
  have HA5 : Hid (∀ W, _) := fun W => store4 s.a5 W (by omega)
  have HZ5 : Hid (∀ W, _) := fun W => store4 s.z5 W (by omega)
  have HW5 : Hid (IntKind.u64.wrap s.a5 = s.a5 ∧ IntKind.u64.wrap s.z5 = s.z5) := ⟨by rw [IntKind.wrap_u64]; omega, by rw [IntKind.wrap_u64]; omega⟩
  have wn : IntKind.u64.wrap s.no = s.no := by rw [IntKind.wrap_u64]; omega
  have wl : IntKind.u64.wrap s.ln = s.ln := by rw [IntKind.wrap_u64]; omega
  have wg : IntKind.u8.wrap s.lg = s.lg := by rw [IntKind.wrap_u8]; omega
  clear hh hsk hr
  have O0 := World.ownsRow_lit (base := w.heap.size) (e := 5) (size := 1) (w.alloc (.cells s.cells.toArray 26)) #[.int .u8 80, .int .u8 77, .int .u8 83, .int .u8 49, .int .u8 1, .int .u8 0, .int .u8 s.lg, .int .u8 0] 8 (by simp) (by unfold maxLen; omega) rfl
  have H0 : Hid (By13 w ((w.alloc (.cells s.cells.toArray 26)).alloc (.cells #[.int .u8 80, .int .u8 77, .int .u8 83, .int .u8 49, .int .u8 1, .int .u8 0, .int .u8 s.lg, .int .u8 0] 5)) w.heap.size s (.slice (some ⟨w.heap.size + 1, 0, none⟩) 8 8) 8 [80, 77, 83, 49, 1, 0, s.lg, 0]) := ⟨(Bx.new w 26 _).kept (World.grownBy_alloc _ _ none), by simpa [bv] using O0, grown_trans (World.grownBy_alloc _ _ none) (World.grownBy_alloc _ _ none)⟩
  clear O0
  have HS : Hid (spb s = spc s 6 ++ sto (crc ent 0 (spc s 6) : Nat) 4) := rfl
  have HC0 : Hid (spc s 1 = spc s 0 ++ sto s.a0 4 ++ sto s.z0 4) := rfl
  have HC1 : Hid (spc s 2 = spc s 1 ++ sto s.a1 4 ++ sto s.z1 4) := rfl
  have HC2 : Hid (spc s 3 = spc s 2 ++ sto s.a2 4 ++ sto s.z2 4) := rfl
  have HC3 : Hid (spc s 4 = spc s 3 ++ sto s.a3 4 ++ sto s.z3 4) := rfl
  have HC4 : Hid (spc s 5 = spc s 4 ++ sto s.a4 4 ++ sto s.z4 4) := rfl
  have HC5 : Hid (spc s 6 = spc s 5 ++ sto s.a5 4 ++ sto s.z5 4) := rfl
  have HC : Hid (spc s 0 = [80, 77, 83, 49, 1, 0, s.lg, 0] ++ sto s.no 4 ++ sto s.ln 4) := rfl
  have HL : Hid (∀ j, (spc s j).length = 16 + 8 * j) := spc_len s
  generalize spc s = sc at *
  obtain ⟨lg, no, ln, a0, z0, a1, z1, a2, z2, a3, z3, a4, z4, a5, z5⟩ := s
  simp only [Sp.val, Sp.cells] at *
  have d1 : ((w.alloc (.cells #[.int .i64 lg, .int .i64 no, .int .i64 ln, .int .i64 a0, .int .i64 z0, .int .i64 a1, .int .i64 z1, .int .i64 a2, .int .i64 z2, .int .i64 a3, .int .i64 z3, .int .i64 a4, .int .i64 z4, .int .i64 a5, .int .i64 z5] 26)).alloc (.cells #[.int .u8 80, .int .u8 77, .int .u8 83, .int .u8 49, .int .u8 1, .int .u8 0, .int .u8 lg, .int .u8 0] 5)).cell? ⟨w.heap.size, 1, none⟩ = some (.int .i64 no) := H0.out.bx.c 1
  go_enter Try.func13, Try.ntmps13
  go_wp2_with fail
  refine (h1 _).mono ?_
  rintro e w1 ⟨q1, c1, rfl, R1, n1, g1⟩
  have H1 : Hid _ := H0.out.keep g1
  have HR1 : Hid _ := And.intro R1 n1
  clear g1 R1 n1 H0 h1 wg d1
  simp only
  go_wp2_with (at_builtin; refine wpList_append8 rfl _ _ 27 rfl w.heap.size i5 Try.underlying27 hi hz0 hz1 hz2 _ 8 _ rfl H1.out.own _ 4 c1 (sto no 4) rfl HR1.out.1 HR1.out.2 (by omega) H1.out.gr.size ?_)
  intro x2 w2 o2 g2
  have H2 : Hid (By13 w w2 w.heap.size ⟨lg, no, ln, a0, z0, a1, z1, a2, z2, a3, z3, a4, z4, a5, z5⟩ x2 12 _) := H1.out.app (n := 8) (m := 4) o2 g2
  clear o2 g2 H1 HR1
  have d2 : w2.cell? ⟨w.heap.size, 2, none⟩ = some (.int .i64 ln) := H2.out.bx.c 2
  go_wp2_with fail
  refine (h2 _).mono ?_
  rintro e w3 ⟨q3, c3, rfl, R3, n3, g3⟩
  have H3 : Hid _ := H2.out.keep g3
  have HR3 : Hid _ := And.intro R3 n3
  clear g3 R3 n3 H2 h2 d2
  simp only
  go_wp2_with (at_builtin; refine wpList_append8 rfl _ _ 27 rfl w.heap.size i5 Try.underlying27 hi hz0 hz1 hz2 _ 12 _ rfl H3.out.own _ 4 c3 (sto ln 4) rfl HR3.out.1 HR3.out.2 (by omega) H3.out.gr.size ?_)
  intro x4 w4 o4 g4
  have H4 : Hid (By13 w w4 w.heap.size ⟨lg, no, ln, a0, z0, a1, z1, a2, z2, a3, z3, a4, z4, a5, z5⟩ x4 16 _) := H3.out.app (n := 12) (m := 4) o4 g4
  clear o4 g4 H3 HR3
  go_wp2
  go_loopw [3, 4] (fun v i wr => ∃ j : Nat, j ≤ 6 ∧ i = .int .i64 j ∧ By13 w wr w.heap.size ⟨lg, no, ln, a0, z0, a1, z1, a2, z2, a3, z3, a4, z4, a5, z5⟩ v (16 + 8 * j) (sc j)) (fun _ i _ => 6 - (intOf i).toNat)
  case atStart => exact ⟨0, by omega, rfl, by rw [HC.out]; exact H4.out⟩
  case round =>
    obtain ⟨j, hj, rfl, J⟩ := hrel
    have HJ : Hid _ := J
    clear J H4
    rcases (by omega : j = 0 ∨ j = 1 ∨ j = 2 ∨ j = 3 ∨ j = 4 ∨ j = 5 ∨ j = 6) with rfl | rfl | rfl | rfl | rfl | rfl | rfl
    · clear HA1 HZ1 HW1 HC1 HA2 HZ2 HW2 HC2 HA3 HZ3 HW3 HC3 HA4 HZ4 HW4 HC4 HA5 HZ5 HW5 HC5
      have d1 : wr.cell? ⟨w.heap.size, 3, none⟩ = some (.int .i64 a0) := HJ.out.bx.c 3
      have wa := HW0.out.1
      have wz := HW0.out.2
      go_wp2_with fail
      refine (HA0.out _).mono ?_
      rintro e w1 ⟨b1, c1, rfl, R1, n1, g1⟩
      have H1 : Hid _ := HJ.out.keep g1
      have HR1 : Hid _ := And.intro R1 n1
      clear g1 R1 n1 HJ d1
      simp only
      go_wp2_with (at_builtin; refine wpList_append8 rfl _ _ 27 rfl w.heap.size i5 Try.underlying27 hi hz0 hz1 hz2 _ 16 _ rfl H1.out.own _ 4 c1 (sto a0 4) rfl HR1.out.1 HR1.out.2 (by omega) H1.out.gr.size ?_)
      intro x2 w2 o2 g2
      have H2 : Hid (By13 w w2 w.heap.size ⟨lg, no, ln, a0, z0, a1, z1, a2, z2, a3, z3, a4, z4, a5, z5⟩ x2 20 _) := H1.out.app (n := 16) (m := 4) o2 g2
      clear o2 g2 H1 HR1
      have d2 : w2.cell? ⟨w.heap.size, 4, none⟩ = some (.int .i64 z0) := H2.out.bx.c 4
      go_wp2_with fail
      refine (HZ0.out _).mono ?_
      rintro e w3 ⟨b3, c3, rfl, R3, n3, g3⟩
      have H3 : Hid _ := H2.out.keep g3
      have HR3 : Hid _ := And.intro R3 n3
      clear g3 R3 n3 H2 d2
      simp only
      go_wp2_with (at_builtin; refine wpList_append8 rfl _ _ 27 rfl w.heap.size i5 Try.underlying27 hi hz0 hz1 hz2 _ 20 _ rfl H3.out.own _ 4 c3 (sto z0 4) rfl HR3.out.1 HR3.out.2 (by omega) H3.out.gr.size ?_)
      intro x4 w4 o4 g4
      have H4 : Hid (By13 w w4 w.heap.size ⟨lg, no, ln, a0, z0, a1, z1, a2, z2, a3, z3, a4, z4, a5, z5⟩ x4 24 _) := H3.out.app (n := 20) (m := 4) o4 g4
      clear o4 g4 H3 HR3
      go_wp2
      go_roundw
      case rel => exact ⟨1, by omega, rfl, by rw [HC0.out]; exact H4.out⟩
      case measure => simp [intOf]
    · clear HA0 HZ0 HW0 HC0 HA2 HZ2 HW2 HC2 HA3 HZ3 HW3 HC3 HA4 HZ4 HW4 HC4 HA5 HZ5 HW5 HC5
      have d1 : wr.cell? ⟨w.heap.size, 5, none⟩ = some (.int .i64 a1) := HJ.out.bx.c 5
      have wa := HW1.out.1
      have wz := HW1.out.2
      go_wp2_with fail
      refine (HA1.out _).mono ?_
      rintro e w1 ⟨b1, c1, rfl, R1, n1, g1⟩
      have H1 : Hid _ := HJ.out.keep g1
      have HR1 : Hid _ := And.intro R1 n1
      clear g1 R1 n1 HJ d1
      simp only
      go_wp2_with (at_builtin; refine wpList_append8 rfl _ _ 27 rfl w.heap.size i5 Try.underlying27 hi hz0 hz1 hz2 _ 24 _ rfl H1.out.own _ 4 c1 (sto a1 4) rfl HR1.out.1 HR1.out.2 (by omega) H1.out.gr.size ?_)
      intro x2 w2 o2 g2
      have H2 : Hid (By13 w w2 w.heap.size ⟨lg, no, ln, a0, z0, a1, z1, a2, z2, a3, z3, a4, z4, a5, z5⟩ x2 28 _) := H1.out.app (n := 24) (m := 4) o2 g2
      clear o2 g2 H1 HR1
      have d2 : w2.cell? ⟨w.heap.size, 6, none⟩ = some (.int .i64 z1) := H2.out.bx.c 6
      go_wp2_with fail
      refine (HZ1.out _).mono ?_
      rintro e w3 ⟨b3, c3, rfl, R3, n3, g3⟩
      have H3 : Hid _ := H2.out.keep g3
      have HR3 : Hid _ := And.intro R3 n3
      clear g3 R3 n3 H2 d2
      simp only
      go_wp2_with (at_builtin; refine wpList_append8 rfl _ _ 27 rfl w.heap.size i5 Try.underlying27 hi hz0 hz1 hz2 _ 28 _ rfl H3.out.own _ 4 c3 (sto z1 4) rfl HR3.out.1 HR3.out.2 (by omega) H3.out.gr.size ?_)
      intro x4 w4 o4 g4
      have H4 : Hid (By13 w w4 w.heap.size ⟨lg, no, ln, a0, z0, a1, z1, a2, z2, a3, z3, a4, z4, a5, z5⟩ x4 32 _) := H3.out.app (n := 28) (m := 4) o4 g4
      clear o4 g4 H3 HR3
      go_wp2
      go_roundw
      case rel => exact ⟨2, by omega, rfl, by rw [HC1.out]; exact H4.out⟩
      case measure => simp [intOf]
    · clear HA0 HZ0 HW0 HC0 HA1 HZ1 HW1 HC1 HA3 HZ3 HW3 HC3 HA4 HZ4 HW4 HC4 HA5 HZ5 HW5 HC5
      have d1 : wr.cell? ⟨w.heap.size, 7, none⟩ = some (.int .i64 a2) := HJ.out.bx.c 7
      have wa := HW2.out.1
      have wz := HW2.out.2
      go_wp2_with fail
      refine (HA2.out _).mono ?_
      rintro e w1 ⟨b1, c1, rfl, R1, n1, g1⟩
      have H1 : Hid _ := HJ.out.keep g1
      have HR1 : Hid _ := And.intro R1 n1
      clear g1 R1 n1 HJ d1
      simp only
      go_wp2_with (at_builtin; refine wpList_append8 rfl _ _ 27 rfl w.heap.size i5 Try.underlying27 hi hz0 hz1 hz2 _ 32 _ rfl H1.out.own _ 4 c1 (sto a2 4) rfl HR1.out.1 HR1.out.2 (by omega) H1.out.gr.size ?_)
      intro x2 w2 o2 g2
      have H2 : Hid (By13 w w2 w.heap.size ⟨lg, no, ln, a0, z0, a1, z1, a2, z2, a3, z3, a4, z4, a5, z5⟩ x2 36 _) := H1.out.app (n := 32) (m := 4) o2 g2
      clear o2 g2 H1 HR1
      have d2 : w2.cell? ⟨w.heap.size, 8, none⟩ = some (.int .i64 z2) := H2.out.bx.c 8
      go_wp2_with fail
      refine (HZ2.out _).mono ?_
      rintro e w3 ⟨b3, c3, rfl, R3, n3, g3⟩
      have H3 : Hid _ := H2.out.keep g3
      have HR3 : Hid _ := And.intro R3 n3
      clear g3 R3 n3 H2 d2
      simp only
      go_wp2_with (at_builtin; refine wpList_append8 rfl _ _ 27 rfl w.heap.size i5 Try.underlying27 hi hz0 hz1 hz2 _ 36 _ rfl H3.out.own _ 4 c3 (sto z2 4) rfl HR3.out.1 HR3.out.2 (by omega) H3.out.gr.size ?_)
      intro x4 w4 o4 g4
      have H4 : Hid (By13 w w4 w.heap.size ⟨lg, no, ln, a0, z0, a1, z1, a2, z2, a3, z3, a4, z4, a5, z5⟩ x4 40 _) := H3.out.app (n := 36) (m := 4) o4 g4
      clear o4 g4 H3 HR3
      go_wp2
      go_roundw
      case rel => exact ⟨3, by omega, rfl, by rw [HC2.out]; exact H4.out⟩
      case measure => simp [intOf]
    · clear HA0 HZ0 HW0 HC0 HA1 HZ1 HW1 HC1 HA2 HZ2 HW2 HC2 HA4 HZ4 HW4 HC4 HA5 HZ5 HW5 HC5
      have d1 : wr.cell? ⟨w.heap.size, 9, none⟩ = some (.int .i64 a3) := HJ.out.bx.c 9
      have wa := HW3.out.1
      have wz := HW3.out.2
      go_wp2_with fail
      refine (HA3.out _).mono ?_
      rintro e w1 ⟨b1, c1, rfl, R1, n1, g1⟩
      have H1 : Hid _ := HJ.out.keep g1
      have HR1 : Hid _ := And.intro R1 n1
      clear g1 R1 n1 HJ d1
      simp only
      go_wp2_with (at_builtin; refine wpList_append8 rfl _ _ 27 rfl w.heap.size i5 Try.underlying27 hi hz0 hz1 hz2 _ 40 _ rfl H1.out.own _ 4 c1 (sto a3 4) rfl HR1.out.1 HR1.out.2 (by omega) H1.out.gr.size ?_)
      intro x2 w2 o2 g2
      have H2 : Hid (By13 w w2 w.heap.size ⟨lg, no, ln, a0, z0, a1, z1, a2, z2, a3, z3, a4, z4, a5, z5⟩ x2 44 _) := H1.out.app (n := 40) (m := 4) o2 g2
      clear o2 g2 H1 HR1
      have d2 : w2.cell? ⟨w.heap.size, 10, none⟩ = some (.int .i64 z3) := H2.out.bx.c 10
      go_wp2_with fail
      refine (HZ3.out _).mono ?_
      rintro e w3 ⟨b3, c3, rfl, R3, n3, g3⟩
      have H3 : Hid _ := H2.out.keep g3
      have HR3 : Hid _ := And.intro R3 n3
      clear g3 R3 n3 H2 d2
      simp only
      go_wp2_with (at_builtin; refine wpList_append8 rfl _ _ 27 rfl w.heap.size i5 Try.underlying27 hi hz0 hz1 hz2 _ 44 _ rfl H3.out.own _ 4 c3 (sto z3 4) rfl HR3.out.1 HR3.out.2 (by omega) H3.out.gr.size ?_)
      intro x4 w4 o4 g4
      have H4 : Hid (By13 w w4 w.heap.size ⟨lg, no, ln, a0, z0, a1, z1, a2, z2, a3, z3, a4, z4, a5, z5⟩ x4 48 _) := H3.out.app (n := 44) (m := 4) o4 g4
      clear o4 g4 H3 HR3
      go_wp2
      go_roundw
      case rel => exact ⟨4, by omega, rfl, by rw [HC3.out]; exact H4.out⟩
      case measure => simp [intOf]
    · clear HA0 HZ0 HW0 HC0 HA1 HZ1 HW1 HC1 HA2 HZ2 HW2 HC2 HA3 HZ3 HW3 HC3 HA5 HZ5 HW5 HC5
      have d1 : wr.cell? ⟨w.heap.size, 11, none⟩ = some (.int .i64 a4) := HJ.out.bx.c 11
      have wa := HW4.out.1
      have wz := HW4.out.2
      go_wp2_with fail
      refine (HA4.out _).mono ?_
      rintro e w1 ⟨b1, c1, rfl, R1, n1, g1⟩
      have H1 : Hid _ := HJ.out.keep g1
      have HR1 : Hid _ := And.intro R1 n1
      clear g1 R1 n1 HJ d1
      simp only
      go_wp2_with (at_builtin; refine wpList_append8 rfl _ _ 27 rfl w.heap.size i5 Try.underlying27 hi hz0 hz1 hz2 _ 48 _ rfl H1.out.own _ 4 c1 (sto a4 4) rfl HR1.out.1 HR1.out.2 (by omega) H1.out.gr.size ?_)
      intro x2 w2 o2 g2
      have H2 : Hid (By13 w w2 w.heap.size ⟨lg, no, ln, a0, z0, a1, z1, a2, z2, a3, z3, a4, z4, a5, z5⟩ x2 52 _) := H1.out.app (n := 48) (m := 4) o2 g2
      clear o2 g2 H1 HR1
      have d2 : w2.cell? ⟨w.heap.size, 12, none⟩ = some (.int .i64 z4) := H2.out.bx.c 12
      go_wp2_with fail
      refine (HZ4.out _).mono ?_
      rintro e w3 ⟨b3, c3, rfl, R3, n3, g3⟩
      have H3 : Hid _ := H2.out.keep g3
      have HR3 : Hid _ := And.intro R3 n3
      clear g3 R3 n3 H2 d2
      simp only
      go_wp2_with (at_builtin; refine wpList_append8 rfl _ _ 27 rfl w.heap.size i5 Try.underlying27 hi hz0 hz1 hz2 _ 52 _ rfl H3.out.own _ 4 c3 (sto z4 4) rfl HR3.out.1 HR3.out.2 (by omega) H3.out.gr.size ?_)
      intro x4 w4 o4 g4
      have H4 : Hid (By13 w w4 w.heap.size ⟨lg, no, ln, a0, z0, a1, z1, a2, z2, a3, z3, a4, z4, a5, z5⟩ x4 56 _) := H3.out.app (n := 52) (m := 4) o4 g4
      clear o4 g4 H3 HR3
      go_wp2
      go_roundw
      case rel => exact ⟨5, by omega, rfl, by rw [HC4.out]; exact H4.out⟩
      case measure => simp [intOf]
    · clear HA0 HZ0 HW0 HC0 HA1 HZ1 HW1 HC1 HA2 HZ2 HW2 HC2 HA3 HZ3 HW3 HC3 HA4 HZ4 HW4 HC4
      have d1 : wr.cell? ⟨w.heap.size, 13, none⟩ = some (.int .i64 a5) := HJ.out.bx.c 13
      have wa := HW5.out.1
      have wz := HW5.out.2
      go_wp2_with fail
      refine (HA5.out _).mono ?_
      rintro e w1 ⟨b1, c1, rfl, R1, n1, g1⟩
      have H1 : Hid _ := HJ.out.keep g1
      have HR1 : Hid _ := And.intro R1 n1
      clear g1 R1 n1 HJ d1
      simp only
      go_wp2_with (at_builtin; refine wpList_append8 rfl _ _ 27 rfl w.heap.size i5 Try.underlying27 hi hz0 hz1 hz2 _ 56 _ rfl H1.out.own _ 4 c1 (sto a5 4) rfl HR1.out.1 HR1.out.2 (by omega) H1.out.gr.size ?_)
      intro x2 w2 o2 g2
      have H2 : Hid (By13 w w2 w.heap.size ⟨lg, no, ln, a0, z0, a1, z1, a2, z2, a3, z3, a4, z4, a5, z5⟩ x2 60 _) := H1.out.app (n := 56) (m := 4) o2 g2
      clear o2 g2 H1 HR1
      have d2 : w2.cell? ⟨w.heap.size, 14, none⟩ = some (.int .i64 z5) := H2.out.bx.c 14
      go_wp2_with fail
      refine (HZ5.out _).mono ?_
      rintro e w3 ⟨b3, c3, rfl, R3, n3, g3⟩
      have H3 : Hid _ := H2.out.keep g3
      have HR3 : Hid _ := And.intro R3 n3
      clear g3 R3 n3 H2 d2
      simp only
      go_wp2_with (at_builtin; refine wpList_append8 rfl _ _ 27 rfl w.heap.size i5 Try.underlying27 hi hz0 hz1 hz2 _ 60 _ rfl H3.out.own _ 4 c3 (sto z5 4) rfl HR3.out.1 HR3.out.2 (by omega) H3.out.gr.size ?_)
      intro x4 w4 o4 g4
      have H4 : Hid (By13 w w4 w.heap.size ⟨lg, no, ln, a0, z0, a1, z1, a2, z2, a3, z3, a4, z4, a5, z5⟩ x4 64 _) := H3.out.app (n := 60) (m := 4) o4 g4
      clear o4 g4 H3 HR3
      go_wp2
      go_roundw
      case rel => exact ⟨6, by omega, rfl, by rw [HC5.out]; exact H4.out⟩
      case measure => simp [intOf]
    · clear HA0 HZ0 HW0 HC0 HA1 HZ1 HW1 HC1 HA2 HZ2 HW2 HC2 HA3 HZ3 HW3 HC3 HA4 HZ4 HW4 HC4 HA5 HZ5 HW5 HC5
      obtain ⟨a8, c8, rfl, R8, n8, _, _⟩ := own_bytes HJ.out.own (HB.out 6) (by unfold maxLen; omega)
      have hcr := refcrc_any 0 a8 (16 + 8 * 6) c8 _ wr R8 (by omega)
      have hcl := crc_lt ent 0 (sc 6)
      have h4 := fun W => store4 (crc ent 0 (sc 6) : Nat) W (by omega)
      clear R8 n8
      generalize sc 6 = ys at *
      have wc : IntKind.u64.wrap (crc ent 0 ys : Nat) = (crc ent 0 ys : Nat) := by rw [IntKind.wrap_u64]; omega
      generalize crc ent 0 ys = cr at *
      try simp only
      go_wp2_with (first | (go_at_call 27; refine hcr.mono ?_; rintro e w' ⟨rfl, rfl⟩))
      refine (h4 _).mono ?_
      rintro e w3 ⟨b3, c3, rfl, R3, n3, g3⟩
      have H3 : Hid _ := HJ.out.keep g3
      have HR3 : Hid _ := And.intro R3 n3
      clear g3 R3 n3 HJ hcr h4
      simp only
      go_wp2_with (at_builtin; refine wpList_append8 rfl _ _ 27 rfl w.heap.size i5 Try.underlying27 hi hz0 hz1 hz2 _ 64 _ rfl H3.out.own _ 4 c3 (sto cr 4) rfl HR3.out.1 HR3.out.2 (by omega) H3.out.gr.size ?_)
      intro x4 w4 o4 g4
      have H4 : Hid (By13 w w4 w.heap.size ⟨lg, no, ln, a0, z0, a1, z1, a2, z2, a3, z3, a4, z4, a5, z5⟩ x4 68 _) := H3.out.app (n := 64) (m := 4) o4 g4
      clear o4 g4 H3 HR3
      go_wp2
      go_ret
      exact ⟨_, rfl, by rw [HS.out]; exact H4.out.own, H4.out.gr⟩
end Go.Proofs.Ytaedcblphcfkfaa
