/- The program's sizes and places. -/
import Derived.Test.YtckjlkdjlpfdmaaXB
namespace Go.Proofs.Ytckjlkdjlpfdmaa
open Go.RowKit
set_option linter.unusedSimpArgs false
set_option linter.unusedVariables false
/-- a plan in its variable, and what was kept -/
structure PlH (P : Pl) (w w' : World) (g : Nat) : Prop where
  gr : w.grownBy w' none
  bx : Bx w' g 26 P.cells
theorem PlH.kept {P : Pl} {w w' w2 : World} {g : Nat} (h : PlH P w w' g) (k : w'.grownBy w2 none) : PlH P w w2 g := ⟨grown_trans h.gr k, h.bx.kept k⟩
theorem hidP {P : Pl} {w w' w2 : World} {g : Nat} (h : Hid (PlH P w w' g)) (k : w'.grownBy w2 none) : Hid (PlH P w w2 g) := h.out.kept k
theorem PlH.cs {s p b x0 x1 y0 y1 n : Int} {w w' : World} {g : Nat} (h : PlH ⟨s, p, b, x0, x1, y0, y1, n⟩ w w' g) : w'.cell? ⟨g, 0, none⟩ = some (.int .i64 s) ∧ w'.cell? ⟨g, 1, none⟩ = some (.int .i64 p) ∧ w'.cell? ⟨g, 2, none⟩ = some (.int .i64 b) ∧ w'.cell? ⟨g, 3, none⟩ = some (.int .i64 x0) ∧ w'.cell? ⟨g, 4, none⟩ = some (.int .i64 x1) ∧ w'.cell? ⟨g, 5, none⟩ = some (.int .i64 y0) ∧ w'.cell? ⟨g, 6, none⟩ = some (.int .i64 y1) ∧ w'.cell? ⟨g, 7, none⟩ = some (.int .i64 n) := bc8 h.bx
/-- checkSlot, as a plain function -/
def pcs (P : Pl) (slot : Int) : Int := if rgt P = false ∨ slot < 0 ∨ 1 < slot then 1 else 0
theorem pcs_pchk {P : Pl} {slot : Int} (h : 0 ≤ slot ∧ slot ≤ 1) : pcs P slot = pchk P := by
  unfold pcs pchk
  cases rgt P
  · rw [if_pos (Or.inl rfl)]; rfl
  · rw [if_neg (by simp; omega)]; rfl
set_option maxHeartbeats 1000000 in
theorem pcs_any (P : Pl) (slot : Int) (w : World) (h : P.ok) (hs : bnd64 slot) : Calls Try.prog 23 #[P.val, .int .i64 slot] w fun e w' => e = .returned (.int .i64 (pcs P slot)) ∧ w.grownBy w' none := by
  have hc := fun W => pcheck_any P W h
  have hin : 0 ≤ slot ∧ slot ≤ 1 → pcs P slot = pchk P := pcs_pchk
  have hout : slot < 0 ∨ 1 < slot → pcs P slot = 1 := fun k => by unfold pcs; rw [if_pos (Or.inr k)]
  unfold bnd64 at hs
  have G0 := World.grownBy_alloc w (.cells P.cells.toArray 26) none
  have B0 := Bx.new w 26 P.cells
  generalize pchk P = C at *
  generalize pcs P slot = R at *
  obtain ⟨s, p, b, x0, x1, y0, y1, n⟩ := P
  simp only [Pl.val, Pl.cells] at *
  obtain ⟨c0, c1, c2, c3, c4, c5, c6, c7⟩ := bc8 B0
  have HG : Hid _ := G0
  have HI : Hid _ := And.intro hin hout
  clear G0 B0 hin hout
  by_cases k1 : slot < 0
  · have e := HI.out.2 (Or.inl k1)
    subst e
    clear HI hc
    go_enter Try.func23, Try.ntmps23
    go_wp2
    go_ret
    exact ⟨rfl, HG.out⟩
  · by_cases k2 : 2 ≤ slot
    · have e := HI.out.2 (Or.inr (by omega))
      subst e
      clear HI hc
      go_enter Try.func23, Try.ntmps23
      go_wp2
      go_ret
      exact ⟨rfl, HG.out⟩
    · have e := HI.out.1 (by omega)
      subst e
      clear HI
      go_enter Try.func23, Try.ntmps23
      go_wp2_with fail
      refine (hc _).mono ?_
      rintro e w1 ⟨rfl, g1⟩
      have HG1 : Hid _ := grown_trans HG.out g1
      clear g1 hc HG
      simp only
      go_wp2
      go_ret
      exact ⟨rfl, HG1.out⟩
set_option maxHeartbeats 1000000 in
theorem psize_any (P : Pl) (w : World) (h : P.ok) : Calls Try.prog 16 #[P.val] w fun e w' => e = .returned (.int .i64 (psz P)) ∧ w.grownBy w' none := by
  have hc := fun W => pcheck_any P W h
  have B0 := Bx.new w 26 P.cells
  have G0 := World.grownBy_alloc w (.cells P.cells.toArray 26) none
  by_cases hr : rgt P = true
  · have ec : pchk P = 0 := by unfold pchk; rw [if_pos hr]
    have ez : psz P = sze P := by unfold psz; rw [if_pos hr]
    have hf := rgt_facts hr
    rw [ec] at hc
    rw [ez]
    unfold sze
    have hsb := fun W => psb_any P.s P.p P.b W hf.2.1 (by omega)
    have hz := prod3 (n := P.n) (p := P.p) (b := P.b) (by omega) hf.2.1 (by omega)
    obtain ⟨s, p, b, x0, x1, y0, y1, n⟩ := P
    simp only [Pl.val, Pl.cells] at *
    rw [Int.mul_assoc] at hz ⊢
    generalize p * b = Z at *
    have hw : IntKind.i64.wrap (n * Z) = n * Z := by rw [IntKind.wrap_i64]; omega
    have HB : Hid _ := And.intro B0 G0
    clear B0 G0 hf ec ez hr hz h
    go_enter Try.func16, Try.ntmps16
    go_wp2_with fail
    refine (hc _).mono ?_
    rintro e w1 ⟨rfl, g1⟩
    have HG : Hid (PlH ⟨s, p, b, x0, x1, y0, y1, n⟩ w w1 w.heap.size) := ⟨grown_trans HB.out.2 g1, HB.out.1.kept g1⟩
    obtain ⟨c0, c1, c2, c3, c4, c5, c6, c7⟩ := HG.out.cs
    clear HB g1 hc
    simp only
    generalize w.heap.size = g at *
    go_wp2_with fail
    have HG1 := hidP HG (drewG w1)
    clear HG
    go_region_held3 (fun w' => w'.cell? ⟨g, 0, none⟩ = some (.int .i64 s) ∧ w'.cell? ⟨g, 1, none⟩ = some (.int .i64 p) ∧ w'.cell? ⟨g, 2, none⟩ = some (.int .i64 b) ∧ w'.cell? ⟨g, 3, none⟩ = some (.int .i64 x0) ∧ w'.cell? ⟨g, 4, none⟩ = some (.int .i64 x1) ∧ w'.cell? ⟨g, 5, none⟩ = some (.int .i64 y0) ∧ w'.cell? ⟨g, 6, none⟩ = some (.int .i64 y1) ∧ w'.cell? ⟨g, 7, none⟩ = some (.int .i64 n) ∧ Hid (PlH ⟨s, p, b, x0, x1, y0, y1, n⟩ w w' g)) (first | (refine ⟨?_, ?_, ?_, ?_, ?_, ?_, ?_, ?_, ?_⟩ <;> assumption) | (refine ⟨?_, ?_, ?_, ?_, ?_, ?_, ?_, ?_, ?_⟩ <;> first | assumption | go_keep)) (first | (go_at_call 21; refine (hsb _).mono ?_; rintro e w' ⟨rfl, hg'⟩; have q8 := hidP (by assumption) hg'; clear hg'; obtain ⟨q0, q1, q2, q3, q4, q5, q6, q7⟩ := q8.out.cs) | fail)
    all_goals
      have HF : Hid _ := q8.out.gr
      clear q8
      go_wp2
      go_ret
      exact ⟨rfl, HF.out⟩
  · have ec : pchk P = 1 := by unfold pchk; rw [if_neg hr]
    have ez : psz P = 0 := by unfold psz; rw [if_neg hr]
    rw [ec] at hc
    rw [ez]
    obtain ⟨s, p, b, x0, x1, y0, y1, n⟩ := P
    simp only [Pl.val, Pl.cells] at *
    have HB : Hid _ := G0
    clear B0 G0 ec ez hr h
    go_enter Try.func16, Try.ntmps16
    go_wp2_with fail
    refine (hc _).mono ?_
    rintro e w1 ⟨rfl, g1⟩
    have HG : Hid _ := grown_trans HB.out g1
    clear HB g1 hc
    simp only
    go_wp2
    go_ret
    exact ⟨rfl, HG.out⟩
theorem psc_base {P : Pl} {slot : Int} : pbs P slot = if pcs P slot = 0 then ((if slot = 0 then P.y0 else P.y1) * (P.p * P.b), 0) else (0, 1) := by
  unfold pbs pcs
  by_cases k : rgt P = false ∨ slot < 0 ∨ 1 < slot
  · rw [if_pos k, if_pos k, if_neg (by decide)]
  · rw [if_neg k, if_neg k, if_pos rfl, Int.mul_assoc]
theorem pcs_zero {P : Pl} {slot : Int} (h : pcs P slot = 0) : rgt P = true ∧ (slot = 0 ∨ slot = 1) := by
  unfold pcs at h
  by_cases k : rgt P = false ∨ slot < 0 ∨ 1 < slot
  · rw [if_pos k] at h; exact absurd h (by decide)
  · refine ⟨?_, by omega⟩
    cases r : rgt P
    · exact absurd (Or.inl r) k
    · rfl
theorem pcs_01 (P : Pl) (slot : Int) : pcs P slot = 0 ∨ pcs P slot = 1 := by
  unfold pcs
  split
  · exact Or.inr rfl
  · exact Or.inl rfl
set_option maxHeartbeats 2000000 in
theorem pbase_any (P : Pl) (slot : Int) (w : World) (h : P.ok) (hs : bnd64 slot) : Calls Try.prog 14 #[P.val, .int .i64 slot] w fun e w' => e = .returned (.tuple #[.int .i64 (pbs P slot).1, .int .i64 (pbs P slot).2]) ∧ w.grownBy w' none := by
  have hc := fun W => pcs_any P slot W h hs
  have M0 : Hid (PlH P w (w.alloc (.cells P.cells.toArray 26)) w.heap.size) := ⟨World.grownBy_alloc _ _ _, Bx.new _ _ _⟩
  rw [psc_base]
  rcases pcs_01 P slot with hr | hr
  · obtain ⟨hr2, hsl⟩ := pcs_zero hr
    have hf := rgt_facts hr2
    rw [hr] at hc
    rw [if_pos hr]
    have hsb := fun W => psb_any P.s P.p P.b W hf.2.1 (by omega)
    have hy : (1 ≤ (if slot = 0 then P.y0 else P.y1) ∧ (if slot = 0 then P.y0 else P.y1) ≤ 4096) := by split <;> omega
    have hz := prod3 (n := if slot = 0 then P.y0 else P.y1) (p := P.p) (b := P.b) hy hf.2.1 (by omega)
    rw [Int.mul_assoc] at hz
    clear hy
    obtain ⟨s, p, b, x0, x1, y0, y1, n⟩ := P
    simp only [Pl.val, Pl.cells] at *
    generalize p * b = Z at *
    clear hf hr hr2 h
    rcases hsl with rfl | rfl
    · simp only [if_true, reduceIte, Int.reduceEq] at hz ⊢
      have hw : IntKind.i64.wrap (y0 * Z) = y0 * Z := by rw [IntKind.wrap_i64]; omega
      clear hz
      go_enter Try.func14, Try.ntmps14
      go_wp2_with fail
      refine (hc _).mono ?_
      rintro e w1 ⟨rfl, g1⟩
      have HG := hidP M0 g1
      obtain ⟨c0, c1, c2, c3, c4, c5, c6, c7⟩ := HG.out.cs
      clear M0 g1 hc
      generalize w.heap.size = g at *
      simp only
      go_wp2_with fail
      have HG1 := hidP HG (drewG w1)
      clear HG
      go_region_held3 (fun w' => w'.cell? ⟨g, 0, none⟩ = some (.int .i64 s) ∧ w'.cell? ⟨g, 1, none⟩ = some (.int .i64 p) ∧ w'.cell? ⟨g, 2, none⟩ = some (.int .i64 b) ∧ w'.cell? ⟨g, 3, none⟩ = some (.int .i64 x0) ∧ w'.cell? ⟨g, 4, none⟩ = some (.int .i64 x1) ∧ w'.cell? ⟨g, 5, none⟩ = some (.int .i64 y0) ∧ w'.cell? ⟨g, 6, none⟩ = some (.int .i64 y1) ∧ w'.cell? ⟨g, 7, none⟩ = some (.int .i64 n) ∧ Hid (PlH ⟨s, p, b, x0, x1, y0, y1, n⟩ w w' g)) (first | (refine ⟨?_, ?_, ?_, ?_, ?_, ?_, ?_, ?_, ?_⟩ <;> assumption) | (refine ⟨?_, ?_, ?_, ?_, ?_, ?_, ?_, ?_, ?_⟩ <;> first | assumption | go_keep)) (first | (go_at_call 21; refine (hsb _).mono ?_; rintro e w' ⟨rfl, hg'⟩; have q8 := hidP (by assumption) hg'; clear hg'; obtain ⟨q0, q1, q2, q3, q4, q5, q6, q7⟩ := q8.out.cs) | fail)
      all_goals
        have HF : Hid _ := q8.out.gr
        clear q8
        go_wp2
        go_returns
        exact ⟨rfl, HF.out⟩
    · simp only [if_false, reduceIte, Int.reduceEq] at hz ⊢
      have hw : IntKind.i64.wrap (y1 * Z) = y1 * Z := by rw [IntKind.wrap_i64]; omega
      clear hz
      go_enter Try.func14, Try.ntmps14
      go_wp2_with fail
      refine (hc _).mono ?_
      rintro e w1 ⟨rfl, g1⟩
      have HG := hidP M0 g1
      obtain ⟨c0, c1, c2, c3, c4, c5, c6, c7⟩ := HG.out.cs
      clear M0 g1 hc
      generalize w.heap.size = g at *
      simp only
      go_wp2_with fail
      have HG1 := hidP HG (drewG w1)
      clear HG
      go_region_held3 (fun w' => w'.cell? ⟨g, 0, none⟩ = some (.int .i64 s) ∧ w'.cell? ⟨g, 1, none⟩ = some (.int .i64 p) ∧ w'.cell? ⟨g, 2, none⟩ = some (.int .i64 b) ∧ w'.cell? ⟨g, 3, none⟩ = some (.int .i64 x0) ∧ w'.cell? ⟨g, 4, none⟩ = some (.int .i64 x1) ∧ w'.cell? ⟨g, 5, none⟩ = some (.int .i64 y0) ∧ w'.cell? ⟨g, 6, none⟩ = some (.int .i64 y1) ∧ w'.cell? ⟨g, 7, none⟩ = some (.int .i64 n) ∧ Hid (PlH ⟨s, p, b, x0, x1, y0, y1, n⟩ w w' g)) (first | (refine ⟨?_, ?_, ?_, ?_, ?_, ?_, ?_, ?_, ?_⟩ <;> assumption) | (refine ⟨?_, ?_, ?_, ?_, ?_, ?_, ?_, ?_, ?_⟩ <;> first | assumption | go_keep)) (first | (go_at_call 21; refine (hsb _).mono ?_; rintro e w' ⟨rfl, hg'⟩; have q8 := hidP (by assumption) hg'; clear hg'; obtain ⟨q0, q1, q2, q3, q4, q5, q6, q7⟩ := q8.out.cs) | fail)
      all_goals
        have HF : Hid _ := q8.out.gr
        clear q8
        go_wp2
        go_returns
        exact ⟨rfl, HF.out⟩
  · rw [if_neg (by rw [hr]; decide)]
    rw [hr] at hc
    obtain ⟨s, p, b, x0, x1, y0, y1, n⟩ := P
    simp only [Pl.val, Pl.cells] at *
    go_enter Try.func14, Try.ntmps14
    go_wp2_with fail
    refine (hc _).mono ?_
    rintro e w1 ⟨rfl, g1⟩
    have HG : Hid _ := (hidP M0 g1).out.gr
    clear M0 g1 hc
    simp only
    go_wp2
    go_returns
    exact ⟨rfl, HG.out⟩
set_option maxHeartbeats 2000000 in
theorem psector_any (P : Pl) (slot i : Int) (w : World) (h : P.ok) (hs : bnd64 slot) (hi : bnd64 i) : Calls Try.prog 15 #[P.val, .int .i64 slot, .int .i64 i] w fun e w' => e = .returned (.tuple #[.int .i64 (psc P slot i).1, .int .i64 (psc P slot i).2]) ∧ w.grownBy w' none := by
  have hc := fun W => pcs_any P slot W h hs
  have M0 : Hid (PlH P w (w.alloc (.cells P.cells.toArray 26)) w.heap.size) := ⟨World.grownBy_alloc _ _ _, Bx.new _ _ _⟩
  have he : psc P slot i = if pcs P slot = 0 then (if i < 0 ∨ P.n ≤ i then (0, 9) else ((if slot = 0 then P.y0 else P.y1) + i, 0)) else (0, 1) := by
    unfold psc pcs
    by_cases k : rgt P = false ∨ slot < 0 ∨ 1 < slot
    · rw [if_pos k, if_pos k, if_neg (by decide)]
    · rw [if_neg k, if_neg k, if_pos rfl]
  rw [he]
  clear he
  unfold bnd64 at hi
  rcases pcs_01 P slot with hr | hr
  · obtain ⟨hr2, hsl⟩ := pcs_zero hr
    have hf := rgt_facts hr2
    rw [hr] at hc
    rw [if_pos hr]
    have hy : (1 ≤ P.y0 ∧ P.y0 ≤ 4096) ∧ (1 ≤ P.y1 ∧ P.y1 ≤ 4096) ∧ (1 ≤ P.n ∧ P.n ≤ 4096) := by omega
    obtain ⟨s, p, b, x0, x1, y0, y1, n⟩ := P
    simp only [Pl.val, Pl.cells] at *
    clear hf hr hr2 h
    rcases hsl with rfl | rfl
    all_goals
      simp only [if_true, if_false, reduceIte, Int.reduceEq]
      by_cases k1 : i < 0
      · rw [if_pos (Or.inl k1)]
        go_enter Try.func15, Try.ntmps15
        go_wp2_with fail
        refine (hc _).mono ?_
        rintro e w1 ⟨rfl, g1⟩
        have HG := hidP M0 g1
        obtain ⟨c0, c1, c2, c3, c4, c5, c6, c7⟩ := HG.out.cs
        have HF : Hid _ := HG.out.gr
        clear M0 g1 hc HG
        generalize w.heap.size = g at *
        simp only
        go_wp2
        go_returns
        exact ⟨rfl, HF.out⟩
      · by_cases k2 : n ≤ i
        · rw [if_pos (Or.inr k2)]
          go_enter Try.func15, Try.ntmps15
          go_wp2_with fail
          refine (hc _).mono ?_
          rintro e w1 ⟨rfl, g1⟩
          have HG := hidP M0 g1
          obtain ⟨c0, c1, c2, c3, c4, c5, c6, c7⟩ := HG.out.cs
          have HF : Hid _ := HG.out.gr
          clear M0 g1 hc HG
          generalize w.heap.size = g at *
          simp only
          go_wp2
          go_returns
          exact ⟨rfl, HF.out⟩
        · rw [if_neg (by omega)]
          have hw0 : IntKind.i64.wrap (y0 + i) = y0 + i := by rw [IntKind.wrap_i64]; omega
          have hw1 : IntKind.i64.wrap (y1 + i) = y1 + i := by rw [IntKind.wrap_i64]; omega
          go_enter Try.func15, Try.ntmps15
          go_wp2_with fail
          refine (hc _).mono ?_
          rintro e w1 ⟨rfl, g1⟩
          have HG := hidP M0 g1
          obtain ⟨c0, c1, c2, c3, c4, c5, c6, c7⟩ := HG.out.cs
          have HF : Hid _ := HG.out.gr
          clear M0 g1 hc HG
          generalize w.heap.size = g at *
          simp only
          go_wp2
          go_returns
          exact ⟨rfl, HF.out⟩
  · rw [if_neg (by rw [hr]; decide)]
    rw [hr] at hc
    obtain ⟨s, p, b, x0, x1, y0, y1, n⟩ := P
    simp only [Pl.val, Pl.cells] at *
    go_enter Try.func15, Try.ntmps15
    go_wp2_with fail
    refine (hc _).mono ?_
    rintro e w1 ⟨rfl, g1⟩
    have HG : Hid _ := (hidP M0 g1).out.gr
    clear M0 g1 hc
    simp only
    go_wp2
    go_returns
    exact ⟨rfl, HG.out⟩
theorem page_num {y p b a : Int} (hb : 64 ≤ b) : (y * (p * b) + a) / b = y * p + a / b ∧ (y * (p * b) + a) % b = a % b := by
  rw [← Int.mul_assoc, Int.add_comm]
  exact ⟨by rw [Int.add_mul_ediv_right _ _ (by omega), Int.add_comm], Int.add_mul_emod_self_right _ _ _⟩
set_option maxHeartbeats 2000000 in
theorem ppage_any (P : Pl) (slot at_ : Int) (w : World) (h : P.ok) (hs : bnd64 slot) (ha : bnd64 at_) : Calls Try.prog 12 #[P.val, .int .i64 slot, .int .i64 at_] w fun e w' => e = .returned (.tuple #[.int .i64 (pge P slot at_).1, .int .i64 (pge P slot at_).2.1, .int .i64 (pge P slot at_).2.2]) ∧ w.grownBy w' none := by
  have hc := fun W => pbase_any P slot W h hs
  have hz := fun W => psize_any P W h
  have M0 : Hid (PlH P w (w.alloc (.cells P.cells.toArray 26)) w.heap.size) := ⟨World.grownBy_alloc _ _ _, Bx.new _ _ _⟩
  have he : pge P slot at_ = if pcs P slot = 0 then (if at_ < 0 ∨ sze P ≤ at_ then (0, 0, 9) else ((if slot = 0 then P.y0 else P.y1) * P.p + at_ / P.b, at_ % P.b, 0)) else (0, 0, 1) := by
    unfold pge pcs
    by_cases k : rgt P = false ∨ slot < 0 ∨ 1 < slot
    · rw [if_pos k, if_pos k, if_neg (by decide)]
    · rw [if_neg k, if_neg k, if_pos rfl]
  rw [he]
  rw [psc_base] at hc
  clear he
  unfold bnd64 at ha
  rcases pcs_01 P slot with hr | hr
  · obtain ⟨hr2, hsl⟩ := pcs_zero hr
    have hf := rgt_facts hr2
    rw [if_pos hr] at hc
    rw [if_pos hr]
    have ez : psz P = sze P := by unfold psz; rw [if_pos hr2]
    rw [ez] at hz
    have hzb := prod3 (n := P.n) (p := P.p) (b := P.b) (by omega) hf.2.1 (by omega)
    have hy : (1 ≤ (if slot = 0 then P.y0 else P.y1) ∧ (if slot = 0 then P.y0 else P.y1) ≤ 4096) := by split <;> omega
    have hyb := prod3 (n := if slot = 0 then P.y0 else P.y1) (p := P.p) (b := P.b) hy hf.2.1 (by omega)
    rw [Int.mul_assoc (if slot = 0 then P.y0 else P.y1)] at hyb
    have hpg := page_num (y := if slot = 0 then P.y0 else P.y1) (p := P.p) (b := P.b) (a := at_) (by omega)
    have hsz : 1 ≤ sze P ∧ sze P ≤ 274877906944 := hzb.2
    have hbb : 64 ≤ P.b ∧ P.b ≤ 65536 := hf.2.2.1
    clear hzb hy ez hf hr hr2 h
    generalize (if slot = 0 then P.y0 else P.y1) * (P.p * P.b) = B at *
    generalize (if slot = 0 then P.y0 else P.y1) * P.p = C at *
    have hB : 1 ≤ B ∧ B ≤ 274877906944 := hyb.2
    clear hyb
    obtain ⟨s, p, b, x0, x1, y0, y1, n⟩ := P
    generalize sze _ = Z at *
    simp only [Pl.val, Pl.cells] at *
    by_cases k1 : at_ < 0
    · rw [if_pos (Or.inl k1)]
      clear hpg hz
      go_enter Try.func12, Try.ntmps12
      go_wp2_with fail
      refine (hc _).mono ?_
      rintro e w1 ⟨rfl, g1⟩
      have HG := hidP M0 g1
      obtain ⟨c0, c1, c2, c3, c4, c5, c6, c7⟩ := HG.out.cs
      have HF : Hid _ := HG.out.gr
      clear M0 g1 hc HG
      generalize w.heap.size = g at *
      simp only
      go_wp2
      go_ret3
      exact ⟨rfl, HF.out⟩
    · by_cases k2 : Z ≤ at_
      · rw [if_pos (Or.inr k2)]
        clear hpg
        go_enter Try.func12, Try.ntmps12
        go_wp2_with fail
        refine (hc _).mono ?_
        rintro e w1 ⟨rfl, g1⟩
        have HG := hidP M0 g1
        obtain ⟨c0, c1, c2, c3, c4, c5, c6, c7⟩ := HG.out.cs
        clear M0 g1 hc
        generalize w.heap.size = g at *
        simp only
        go_wp2_with fail
        refine (hz _).mono ?_
        rintro e w2 ⟨rfl, g2⟩
        have HF : Hid _ := (hidP HG g2).out.gr
        clear HG g2 hz
        simp only
        go_wp2
        go_ret3
        exact ⟨rfl, HF.out⟩
      · rw [if_neg (by omega)]
        have hw : IntKind.i64.wrap (B + at_) = B + at_ := by rw [IntKind.wrap_i64]; omega
        have hq : (B + at_).tdiv b = C + at_ / b := by rw [Int.tdiv_eq_ediv_of_nonneg (by omega)]; exact hpg.1
        have hm : (B + at_).tmod b = at_ % b := by rw [Int.tmod_eq_emod_of_nonneg (by omega)]; exact hpg.2
        have hqb : 0 ≤ C + at_ / b ∧ C + at_ / b ≤ 549755813888 := by
          rw [← hpg.1]
          exact ⟨Int.ediv_nonneg (by omega) (by omega), Int.le_trans (Int.ediv_le_self _ (by omega)) (by omega)⟩
        have hmb : 0 ≤ at_ % b ∧ at_ % b < b := ⟨Int.emod_nonneg _ (by omega), Int.emod_lt_of_pos _ (by omega)⟩
        clear hpg
        generalize C + at_ / b = Q at *
        generalize at_ % b = M at *
        have hwq : IntKind.i64.wrap Q = Q := by rw [IntKind.wrap_i64]; omega
        have hwm : IntKind.i64.wrap M = M := by rw [IntKind.wrap_i64]; omega
        have hb0 : (b == 0) = false := by simp; omega
        have hk : 0 ≤ at_ ∧ at_ < Z := by omega
        go_enter Try.func12, Try.ntmps12
        go_wp2_with fail
        refine (hc _).mono ?_
        rintro e w1 ⟨rfl, g1⟩
        have HG := hidP M0 g1
        obtain ⟨c0, c1, c2, c3, c4, c5, c6, c7⟩ := HG.out.cs
        clear M0 g1 hc
        generalize w.heap.size = g at *
        simp only
        go_wp2_with fail
        refine (hz _).mono ?_
        rintro e w2 ⟨rfl, g2⟩
        have HG2 := hidP HG g2
        have HF : Hid _ := HG2.out.gr
        clear c0 c1 c2 c3 c4 c5 c6 c7
        obtain ⟨c0, c1, c2, c3, c4, c5, c6, c7⟩ := HG2.out.cs
        clear HG g2 hz HG2
        simp only
        go_wp2_with fail
        go_region
        go_wp2
        go_ret3
        exact ⟨rfl, grown_trans HF.out (drewG w2)⟩
  · rw [if_neg (by rw [hr]; decide)]
    rw [if_neg (by rw [hr]; decide)] at hc
    clear hz
    obtain ⟨s, p, b, x0, x1, y0, y1, n⟩ := P
    simp only [Pl.val, Pl.cells] at *
    go_enter Try.func12, Try.ntmps12
    go_wp2_with fail
    refine (hc _).mono ?_
    rintro e w1 ⟨rfl, g1⟩
    have HG : Hid _ := (hidP M0 g1).out.gr
    clear M0 g1 hc
    simp only
    go_wp2
    go_ret3
    exact ⟨rfl, HG.out⟩
end Go.Proofs.Ytckjlkdjlpfdmaa
