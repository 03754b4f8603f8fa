/- The document's keep: a copy's bytes. The document's keep: Load. -/
import Derived.Test.YtfhgbddeclldnaaGreatQ08
import Derived.Test.YtfhgbddeclldnaaGreatQ09
namespace Go.Proofs.YtfhgbddeclldnaaGreat
open Go.RowKit
set_option maxRecDepth 100000
set_option linter.unusedSimpArgs false
set_option linter.unusedVariables false

/-- the flash and the plan in their variables; what was kept -/
structure Kv (w W : World) (gf gp : Nat) (cf : List Value) (P : Pa.Pl) : Prop where
  f : Bx W gf 42 cf
  p : Bx W gp 26 P.cells
  gr : w.grownBy W none
theorem Kv.kept {w W W' : World} {gf gp : Nat} {cf : List Value} {P : Pa.Pl} (h : Kv w W gf gp cf P) (k : W.grownBy W' none) : Kv w W' gf gp cf P := ⟨h.f.kept k, h.p.kept k, grown_trans h.gr k⟩
theorem hidKv {w W W' : World} {gf gp : Nat} {cf : List Value} {P : Pa.Pl} (h : Hid (Kv w W gf gp cf P)) (k : W.grownBy W' none) : Hid (Kv w W' gf gp cf P) := h.out.kept k
theorem Kv.new (w : World) (cf : List Value) (P : Pa.Pl) : Kv w ((w.alloc (.cells cf.toArray 42)).alloc (.cells P.cells.toArray 26)) w.heap.size (w.heap.size + 1) cf P :=
  ⟨(Bx.new w 42 cf).kept (World.grownBy_alloc _ _ _), by have := Bx.new (w.alloc (.cells cf.toArray 42)) 26 P.cells; simpa only [World.size_alloc] using this, grown_trans (World.grownBy_alloc _ _ _) (World.grownBy_alloc _ _ _)⟩
/-- what is read of a copy -/
def CpPost (m : Fm) (i : Nat) (w : World) (e : Ending) (w' : World) : Prop := w.grownBy w' none ∧ ∃ a l c ys, e = .returned (.tuple #[.slice a l c, .int .i64 (if m.off then 40 else 0)]) ∧ Row w' a l ys ∧ l ≤ c ∧ c ≤ maxLen ∧ (m.off = false → ys = kcp m i)
set_option maxHeartbeats 2000000 in
theorem kread_any {w : World} {v : Value} {m : Fm} {F : Nat → Prop} {k : Nat} (hR : Rep w v m F) (hg : m.Good k) (P : Pa.Pl) (hk : kok m P = true) (i : Nat) (hi : i < 2) :
    Calls Tryz.prog 47 #[v, P.val, .int .i64 i] w (CpPost m i w) := by
  obtain ⟨-, e1, e2, e3, hs, hb, x0, x1⟩ := kok_facts hk
  have hsp := hg.sp
  have hp := hg.p
  have hb2 := hg.b
  have hpb : (m.p : Int) * m.b ≤ 1024 ∧ 0 ≤ (m.p : Int) * m.b := by
    have := Nat.mul_le_mul hp.2 hb2.2
    have e : (m.p : Int) * m.b = ((m.p * m.b : Nat) : Int) := by simp
    rw [e]; omega
  have hfit : (i : Int) * (m.p * m.b) + 32 ≤ m.B.length := by
    have h32 := pb32 hg hb
    have h1 := Nat.mul_le_mul_right (m.p * m.b) (show i + 1 ≤ m.s by omega)
    rw [Nat.add_mul, Nat.one_mul, ← Nat.mul_assoc m.s, ← hg.lB] at h1
    have e : (i : Int) * (m.p * m.b) = ((i * (m.p * m.b) : Nat) : Int) := by simp
    rw [e]; omega
  have hi0 : 0 ≤ (i : Int) * (m.p * m.b) ∧ (i : Int) * (m.p * m.b) ≤ 1024 := by
    have e : (i : Int) * (m.p * m.b) = ((i * (m.p * m.b) : Nat) : Int) := by simp
    refine ⟨by rw [e]; omega, ?_⟩
    obtain rfl | rfl : i = 0 ∨ i = 1 := by omega
    · simp
    · simpa using hpb.1
  have hrd : ∀ W, w.grownBy W none → Calls Tryz.prog 75 #[v, .int .i64 ((i : Int) * (m.p * m.b)), .int .i64 32] W (CpPost m i W) := by
    intro W hW
    refine (rep_read (hR.grown hW) hg ((i : Int) * (m.p * m.b)) 32 ⟨by omega, by omega⟩ ⟨by omega, by omega⟩).mono ?_
    rintro e w' ⟨g1, a, l, c, ys, rfl, hrow, h1, h2, h3⟩
    have er : rdE m.B.length m.off ((i : Int) * (m.p * m.b)) 32 = if m.off then 40 else 0 := by
      unfold rdE
      rw [if_neg (by omega)]
    rw [er] at h3 ⊢
    refine ⟨g1, a, l, c, ys, rfl, hrow, h1, h2, fun ho => ?_⟩
    rw [ho] at h3
    rcases h3 with ⟨h, -⟩ | ⟨-, h⟩
    · exact absurd rfl h
    · rw [h]
      have e : (i : Int) * (m.p * m.b) = ((i * (m.p * m.b) : Nat) : Int) := by simp
      rw [e]
      rfl
  obtain ⟨aB, aD, aW, aT, lB, cB, lD, cD, lW, cW, lT, cT, rfl⟩ := hR.form
  obtain ⟨s, p, b, x0', x1', y0, y1, n⟩ := P
  simp only at e1 e2 e3 x0 x1
  subst e1 e2 e3 x0 x1
  have K0 : Hid (Kv w _ w.heap.size (w.heap.size + 1) [.int .i64 m.s, .int .i64 m.p, .int .i64 m.b, .slice aB lB cB, .slice aD lD cD, .slice aW lW cW, .int .i64 m.ops, .bool m.off, .int .i64 m.after, .slice aT lT cT] _) := Kv.new w _ ⟨m.s, m.p, m.b, 0, 1, y0, y1, n⟩
  simp only [Pa.Pl.val, Pa.Pl.cells] at *
  generalize hms : (m.s : Int) = ms at *
  generalize hmp : (m.p : Int) = mp at *
  generalize hmb : (m.b : Int) = mb at *
  have hw2 : mp ≤ 16 ∧ 0 ≤ mp := by omega
  clear hR hk hg hsp hp hb hb2 hs hfit hms hmp hmb
  unfold CpPost at hrd ⊢
  have hoff : m.off = m.off := rfl
  generalize ho : m.off = off at hrd K0 ⊢
  generalize m.ops = ops at *
  generalize m.after = after at *
  clear ho hoff
  obtain rfl | rfl : i = 0 ∨ i = 1 := by omega
  · simp only [Int.ofNat_zero, Int.natCast_zero, Int.zero_mul] at hrd hi0 ⊢
    generalize (if off = true then (40 : Int) else 0) = er at hrd ⊢
    have hw8 : IntKind.i64.wrap 0 = 0 := by rw [IntKind.wrap_i64]; omega
    go_enter Tryz.func47, Tryz.ntmps47
    go_wp2_with fail
    generalize ((w.alloc (.cells #[.int .i64 ms, .int .i64 mp, .int .i64 mb, .slice aB lB cB, .slice aD lD cD, .slice aW lW cW, .int .i64 ops, .bool off, .int .i64 after, .slice aT lT cT] 42)).alloc (.cells #[.int .i64 ms, .int .i64 mp, .int .i64 mb, .int .i64 0, .int .i64 1, .int .i64 y0, .int .i64 y1, .int .i64 n] 26)) = W1 at *
    generalize w.heap.size = g at *
    refine wp_region_held_drew (S := fun w' => Kv w w' g (g + 1) [.int .i64 ms, .int .i64 mp, .int .i64 mb, .slice aB lB cB, .slice aD lD cD, .slice aW lW cW, .int .i64 ops, .bool off, .int .i64 after, .slice aT lT cT] ⟨ms, mp, mb, 0, 1, y0, y1, n⟩) (by kernel_rfl) (K0.out.kept (Pa.drewG W1)) (fun hH => ?_)
    refine wpAnyH_take (i := 0) (oi := ⟨some 8, _, _, _, _, _⟩) (v := .agg #[.int .i64 ms, .int .i64 mp, .int .i64 mb, .slice aB lB cB, .slice aD lD cD, .slice aW lW cW, .int .i64 ops, .bool off, .int .i64 after, .slice aT lT cT]) rfl (by kernel_rfl) (by kernel_rfl) (by kernel_rfl) (fun _ _ _ h => h) (Or.inl ⟨by rfl, fun w hSw => by obtain ⟨c0, c1, c2, c3, c4, c5, c6, c7, c8, c9⟩ := flash10 hSw.f; go_simp⟩) hH ?_
    simp only [Act.put, List.setIfInBounds_toArray, List.set_cons_zero, List.set_cons_succ]
    refine wpAnyH_take (i := 1) (oi := ⟨some 9, _, _, _, _, _⟩) (v := .int .i64 0) rfl (by kernel_rfl) (by kernel_rfl) (by kernel_rfl) (fun _ _ _ h => h) (Or.inl ⟨by rfl, fun w hSw => by go_simp⟩) hH ?_
    simp only [Act.put, List.setIfInBounds_toArray, List.set_cons_zero, List.set_cons_succ]
    refine wpAnyH_take (i := 2) (oi := ⟨some 10, _, _, _, _, _⟩) (v := .pointer (some ⟨g + 1, 3, none⟩)) rfl (by kernel_rfl) (by kernel_rfl) (by kernel_rfl) (fun _ _ _ h => h) (Or.inl ⟨by rfl, fun w hSw => by go_simp⟩) hH ?_
    simp only [Act.put, List.setIfInBounds_toArray, List.set_cons_zero, List.set_cons_succ]
    refine wpAnyH_take (i := 3) (oi := ⟨some 11, _, _, _, _, _⟩) (v := .pointer (some ⟨g + 1, 3, none⟩)) rfl (by kernel_rfl) (by kernel_rfl) (by kernel_rfl) (fun _ _ _ h => h) (Or.inl ⟨by rfl, fun w hSw => by go_simp⟩) hH ?_
    simp only [Act.put, List.setIfInBounds_toArray, List.set_cons_zero, List.set_cons_succ]
    refine wpAnyH_take (i := 4) (oi := ⟨some 12, _, _, _, _, _⟩) (v := .int .i64 0) rfl (by kernel_rfl) (by kernel_rfl) (by kernel_rfl) (fun _ _ _ h => h) (Or.inl ⟨by rfl, fun w hSw => by obtain ⟨d0, d1, d2, d3, d4, d5, d6, d7⟩ := plan8 hSw.p; go_simp⟩) hH ?_
    simp only [Act.put, List.setIfInBounds_toArray, List.set_cons_zero, List.set_cons_succ]
    refine wpAnyH_take (i := 5) (oi := ⟨some 13, _, _, _, _, _⟩) (v := .pointer (some ⟨g + 1, 0, none⟩)) rfl (by kernel_rfl) (by kernel_rfl) (by kernel_rfl) (fun _ _ _ h => h) (Or.inl ⟨by rfl, fun w hSw => by go_simp⟩) hH ?_
    simp only [Act.put, List.setIfInBounds_toArray, List.set_cons_zero, List.set_cons_succ]
    refine wpAnyH_take (i := 6) (oi := ⟨some 14, _, _, _, _, _⟩) (v := .pointer (some ⟨g + 1, 1, none⟩)) rfl (by kernel_rfl) (by kernel_rfl) (by kernel_rfl) (fun _ _ _ h => h) (Or.inl ⟨by rfl, fun w hSw => by go_simp⟩) hH ?_
    simp only [Act.put, List.setIfInBounds_toArray, List.set_cons_zero, List.set_cons_succ]
    refine wpAnyH_take (i := 7) (oi := ⟨some 15, _, _, _, _, _⟩) (v := .int .i64 mp) rfl (by kernel_rfl) (by kernel_rfl) (by kernel_rfl) (fun _ _ _ h => h) (Or.inl ⟨by rfl, fun w hSw => by obtain ⟨d0, d1, d2, d3, d4, d5, d6, d7⟩ := plan8 hSw.p; go_simp⟩) hH ?_
    simp only [Act.put, List.setIfInBounds_toArray, List.set_cons_zero, List.set_cons_succ]
    refine wpAnyH_take (i := 8) (oi := ⟨some 16, _, _, _, _, _⟩) (v := .int .i64 0) rfl (by kernel_rfl) (by kernel_rfl) (by kernel_rfl) (fun _ _ _ h => h) (Or.inl ⟨by rfl, fun w hSw => by (go_simp; try exact hw8)⟩) hH ?_
    simp only [Act.put, List.setIfInBounds_toArray, List.set_cons_zero, List.set_cons_succ]
    refine wpAnyH_take (i := 9) (oi := ⟨some 17, _, _, _, _, _⟩) (v := .pointer (some ⟨g + 1, 0, none⟩)) rfl (by kernel_rfl) (by kernel_rfl) (by kernel_rfl) (fun _ _ _ h => h) (Or.inl ⟨by rfl, fun w hSw => by go_simp⟩) hH ?_
    simp only [Act.put, List.setIfInBounds_toArray, List.set_cons_zero, List.set_cons_succ]
    refine wpAnyH_take (i := 10) (oi := ⟨some 18, _, _, _, _, _⟩) (v := .pointer (some ⟨g + 1, 2, none⟩)) rfl (by kernel_rfl) (by kernel_rfl) (by kernel_rfl) (fun _ _ _ h => h) (Or.inl ⟨by rfl, fun w hSw => by go_simp⟩) hH ?_
    simp only [Act.put, List.setIfInBounds_toArray, List.set_cons_zero, List.set_cons_succ]
    refine wpAnyH_take (i := 11) (oi := ⟨some 19, _, _, _, _, _⟩) (v := .int .i64 mb) rfl (by kernel_rfl) (by kernel_rfl) (by kernel_rfl) (fun _ _ _ h => h) (Or.inl ⟨by rfl, fun w hSw => by obtain ⟨d0, d1, d2, d3, d4, d5, d6, d7⟩ := plan8 hSw.p; go_simp⟩) hH ?_
    simp only [Act.put, List.setIfInBounds_toArray, List.set_cons_zero, List.set_cons_succ]
    refine wpAnyH_take (i := 12) (oi := ⟨some 20, _, _, _, _, _⟩) (v := .int .i64 0) rfl (by kernel_rfl) (by kernel_rfl) (by kernel_rfl) (fun _ _ _ h => h) (Or.inl ⟨by rfl, fun w hSw => by (go_simp; try exact hw8)⟩) hH ?_
    simp only [Act.put, List.setIfInBounds_toArray, List.set_cons_zero, List.set_cons_succ]
    refine wpAnyH_ready (rs := [13]) (by kernel_rfl) (by simp) ?_
    refine AllReadyH.cons rfl (fun K hK => ?_) AllReadyH.nil
    go_simp
    go_wp2_with (go_at_call 75; refine (hrd _ hH.gr).mono ?_; rintro e w' ⟨g1, a, l, c, ys, rfl, hrow, hlc, hcm, hys⟩)
    replace hH := hH.kept g1
    have HC : Hid (Row w' a l ys ∧ l ≤ c ∧ c ≤ maxLen ∧ (off = false → ys = kcp m 0)) := ⟨hrow, hlc, hcm, hys⟩
    clear g1 hrow hlc hcm hys
    refine hK.out _ _ hH (fun _ => ?_)
    clear hK K
    refine wpAnyH_take (i := 14) (oi := ⟨some 22, _, _, _, _, _⟩) (v := .slice a l c) rfl (by kernel_rfl) (by kernel_rfl) (by kernel_rfl) (fun _ _ _ h => h) (Or.inl ⟨by rfl, fun w hSw => by go_simp⟩) hH ?_
    simp only [Act.put, List.setIfInBounds_toArray, List.set_cons_zero, List.set_cons_succ]
    refine wpAnyH_take (i := 15) (oi := ⟨some 23, _, _, _, _, _⟩) (v := .int .i64 er) rfl (by kernel_rfl) (by kernel_rfl) (by kernel_rfl) (fun _ _ _ h => h) (Or.inl ⟨by rfl, fun w hSw => by go_simp⟩) hH ?_
    simp only [Act.put, List.setIfInBounds_toArray, List.set_cons_zero, List.set_cons_succ]
    refine wpAnyH_take (i := 16) (oi := ⟨some 6, _, _, _, _, _⟩) (v := .slice a l c) rfl (by kernel_rfl) (by kernel_rfl) (by kernel_rfl) (fun _ _ _ h => h) (Or.inl ⟨by rfl, fun w hSw => by go_simp⟩) hH ?_
    simp only [Act.put, List.setIfInBounds_toArray, List.set_cons_zero, List.set_cons_succ]
    refine wpAnyH_take (i := 17) (oi := ⟨some 7, _, _, _, _, _⟩) (v := .int .i64 er) rfl (by kernel_rfl) (by kernel_rfl) (by kernel_rfl) (fun _ _ _ h => h) (Or.inl ⟨by rfl, fun w hSw => by go_simp⟩) hH ?_
    simp only [Act.put, List.setIfInBounds_toArray, List.set_cons_zero, List.set_cons_succ]
    refine wpAnyH_done (by kernel_rfl) ?_ _
    have HG : Hid _ := hH.gr
    clear hH
    go_wp2
    go_returns
    exact ⟨HG.out, a, l, c, ys, rfl, HC.out⟩
  · simp only [Int.natCast_one, Int.one_mul] at hrd hi0 ⊢
    have hwm : IntKind.i64.wrap (mp * mb) = mp * mb := by rw [IntKind.wrap_i64]; omega
    generalize (if off = true then (40 : Int) else 0) = er at hrd ⊢
    have hw8 : IntKind.i64.wrap mp = mp := by rw [IntKind.wrap_i64]; omega
    go_enter Tryz.func47, Tryz.ntmps47
    go_wp2_with fail
    generalize ((w.alloc (.cells #[.int .i64 ms, .int .i64 mp, .int .i64 mb, .slice aB lB cB, .slice aD lD cD, .slice aW lW cW, .int .i64 ops, .bool off, .int .i64 after, .slice aT lT cT] 42)).alloc (.cells #[.int .i64 ms, .int .i64 mp, .int .i64 mb, .int .i64 0, .int .i64 1, .int .i64 y0, .int .i64 y1, .int .i64 n] 26)) = W1 at *
    generalize w.heap.size = g at *
    refine wp_region_held_drew (S := fun w' => Kv w w' g (g + 1) [.int .i64 ms, .int .i64 mp, .int .i64 mb, .slice aB lB cB, .slice aD lD cD, .slice aW lW cW, .int .i64 ops, .bool off, .int .i64 after, .slice aT lT cT] ⟨ms, mp, mb, 0, 1, y0, y1, n⟩) (by kernel_rfl) (K0.out.kept (Pa.drewG W1)) (fun hH => ?_)
    refine wpAnyH_take (i := 0) (oi := ⟨some 8, _, _, _, _, _⟩) (v := .agg #[.int .i64 ms, .int .i64 mp, .int .i64 mb, .slice aB lB cB, .slice aD lD cD, .slice aW lW cW, .int .i64 ops, .bool off, .int .i64 after, .slice aT lT cT]) rfl (by kernel_rfl) (by kernel_rfl) (by kernel_rfl) (fun _ _ _ h => h) (Or.inl ⟨by rfl, fun w hSw => by obtain ⟨c0, c1, c2, c3, c4, c5, c6, c7, c8, c9⟩ := flash10 hSw.f; go_simp⟩) hH ?_
    simp only [Act.put, List.setIfInBounds_toArray, List.set_cons_zero, List.set_cons_succ]
    refine wpAnyH_take (i := 1) (oi := ⟨some 9, _, _, _, _, _⟩) (v := .int .i64 1) rfl (by kernel_rfl) (by kernel_rfl) (by kernel_rfl) (fun _ _ _ h => h) (Or.inl ⟨by rfl, fun w hSw => by go_simp⟩) hH ?_
    simp only [Act.put, List.setIfInBounds_toArray, List.set_cons_zero, List.set_cons_succ]
    refine wpAnyH_take (i := 2) (oi := ⟨some 10, _, _, _, _, _⟩) (v := .pointer (some ⟨g + 1, 3, none⟩)) rfl (by kernel_rfl) (by kernel_rfl) (by kernel_rfl) (fun _ _ _ h => h) (Or.inl ⟨by rfl, fun w hSw => by go_simp⟩) hH ?_
    simp only [Act.put, List.setIfInBounds_toArray, List.set_cons_zero, List.set_cons_succ]
    refine wpAnyH_take (i := 3) (oi := ⟨some 11, _, _, _, _, _⟩) (v := .pointer (some ⟨g + 1, 4, none⟩)) rfl (by kernel_rfl) (by kernel_rfl) (by kernel_rfl) (fun _ _ _ h => h) (Or.inl ⟨by rfl, fun w hSw => by go_simp⟩) hH ?_
    simp only [Act.put, List.setIfInBounds_toArray, List.set_cons_zero, List.set_cons_succ]
    refine wpAnyH_take (i := 4) (oi := ⟨some 12, _, _, _, _, _⟩) (v := .int .i64 1) rfl (by kernel_rfl) (by kernel_rfl) (by kernel_rfl) (fun _ _ _ h => h) (Or.inl ⟨by rfl, fun w hSw => by obtain ⟨d0, d1, d2, d3, d4, d5, d6, d7⟩ := plan8 hSw.p; go_simp⟩) hH ?_
    simp only [Act.put, List.setIfInBounds_toArray, List.set_cons_zero, List.set_cons_succ]
    refine wpAnyH_take (i := 5) (oi := ⟨some 13, _, _, _, _, _⟩) (v := .pointer (some ⟨g + 1, 0, none⟩)) rfl (by kernel_rfl) (by kernel_rfl) (by kernel_rfl) (fun _ _ _ h => h) (Or.inl ⟨by rfl, fun w hSw => by go_simp⟩) hH ?_
    simp only [Act.put, List.setIfInBounds_toArray, List.set_cons_zero, List.set_cons_succ]
    refine wpAnyH_take (i := 6) (oi := ⟨some 14, _, _, _, _, _⟩) (v := .pointer (some ⟨g + 1, 1, none⟩)) rfl (by kernel_rfl) (by kernel_rfl) (by kernel_rfl) (fun _ _ _ h => h) (Or.inl ⟨by rfl, fun w hSw => by go_simp⟩) hH ?_
    simp only [Act.put, List.setIfInBounds_toArray, List.set_cons_zero, List.set_cons_succ]
    refine wpAnyH_take (i := 7) (oi := ⟨some 15, _, _, _, _, _⟩) (v := .int .i64 mp) rfl (by kernel_rfl) (by kernel_rfl) (by kernel_rfl) (fun _ _ _ h => h) (Or.inl ⟨by rfl, fun w hSw => by obtain ⟨d0, d1, d2, d3, d4, d5, d6, d7⟩ := plan8 hSw.p; go_simp⟩) hH ?_
    simp only [Act.put, List.setIfInBounds_toArray, List.set_cons_zero, List.set_cons_succ]
    refine wpAnyH_take (i := 8) (oi := ⟨some 16, _, _, _, _, _⟩) (v := .int .i64 mp) rfl (by kernel_rfl) (by kernel_rfl) (by kernel_rfl) (fun _ _ _ h => h) (Or.inl ⟨by rfl, fun w hSw => by (go_simp; try exact hw8)⟩) hH ?_
    simp only [Act.put, List.setIfInBounds_toArray, List.set_cons_zero, List.set_cons_succ]
    refine wpAnyH_take (i := 9) (oi := ⟨some 17, _, _, _, _, _⟩) (v := .pointer (some ⟨g + 1, 0, none⟩)) rfl (by kernel_rfl) (by kernel_rfl) (by kernel_rfl) (fun _ _ _ h => h) (Or.inl ⟨by rfl, fun w hSw => by go_simp⟩) hH ?_
    simp only [Act.put, List.setIfInBounds_toArray, List.set_cons_zero, List.set_cons_succ]
    refine wpAnyH_take (i := 10) (oi := ⟨some 18, _, _, _, _, _⟩) (v := .pointer (some ⟨g + 1, 2, none⟩)) rfl (by kernel_rfl) (by kernel_rfl) (by kernel_rfl) (fun _ _ _ h => h) (Or.inl ⟨by rfl, fun w hSw => by go_simp⟩) hH ?_
    simp only [Act.put, List.setIfInBounds_toArray, List.set_cons_zero, List.set_cons_succ]
    refine wpAnyH_take (i := 11) (oi := ⟨some 19, _, _, _, _, _⟩) (v := .int .i64 mb) rfl (by kernel_rfl) (by kernel_rfl) (by kernel_rfl) (fun _ _ _ h => h) (Or.inl ⟨by rfl, fun w hSw => by obtain ⟨d0, d1, d2, d3, d4, d5, d6, d7⟩ := plan8 hSw.p; go_simp⟩) hH ?_
    simp only [Act.put, List.setIfInBounds_toArray, List.set_cons_zero, List.set_cons_succ]
    refine wpAnyH_take (i := 12) (oi := ⟨some 20, _, _, _, _, _⟩) (v := .int .i64 (mp * mb)) rfl (by kernel_rfl) (by kernel_rfl) (by kernel_rfl) (fun _ _ _ h => h) (Or.inl ⟨by rfl, fun w hSw => by (go_simp; try exact hw8)⟩) hH ?_
    simp only [Act.put, List.setIfInBounds_toArray, List.set_cons_zero, List.set_cons_succ]
    refine wpAnyH_ready (rs := [13]) (by kernel_rfl) (by simp) ?_
    refine AllReadyH.cons rfl (fun K hK => ?_) AllReadyH.nil
    go_simp
    go_wp2_with (go_at_call 75; refine (hrd _ hH.gr).mono ?_; rintro e w' ⟨g1, a, l, c, ys, rfl, hrow, hlc, hcm, hys⟩)
    replace hH := hH.kept g1
    have HC : Hid (Row w' a l ys ∧ l ≤ c ∧ c ≤ maxLen ∧ (off = false → ys = kcp m 1)) := ⟨hrow, hlc, hcm, hys⟩
    clear g1 hrow hlc hcm hys
    refine hK.out _ _ hH (fun _ => ?_)
    clear hK K
    refine wpAnyH_take (i := 14) (oi := ⟨some 22, _, _, _, _, _⟩) (v := .slice a l c) rfl (by kernel_rfl) (by kernel_rfl) (by kernel_rfl) (fun _ _ _ h => h) (Or.inl ⟨by rfl, fun w hSw => by go_simp⟩) hH ?_
    simp only [Act.put, List.setIfInBounds_toArray, List.set_cons_zero, List.set_cons_succ]
    refine wpAnyH_take (i := 15) (oi := ⟨some 23, _, _, _, _, _⟩) (v := .int .i64 er) rfl (by kernel_rfl) (by kernel_rfl) (by kernel_rfl) (fun _ _ _ h => h) (Or.inl ⟨by rfl, fun w hSw => by go_simp⟩) hH ?_
    simp only [Act.put, List.setIfInBounds_toArray, List.set_cons_zero, List.set_cons_succ]
    refine wpAnyH_take (i := 16) (oi := ⟨some 6, _, _, _, _, _⟩) (v := .slice a l c) rfl (by kernel_rfl) (by kernel_rfl) (by kernel_rfl) (fun _ _ _ h => h) (Or.inl ⟨by rfl, fun w hSw => by go_simp⟩) hH ?_
    simp only [Act.put, List.setIfInBounds_toArray, List.set_cons_zero, List.set_cons_succ]
    refine wpAnyH_take (i := 17) (oi := ⟨some 7, _, _, _, _, _⟩) (v := .int .i64 er) rfl (by kernel_rfl) (by kernel_rfl) (by kernel_rfl) (fun _ _ _ h => h) (Or.inl ⟨by rfl, fun w hSw => by go_simp⟩) hH ?_
    simp only [Act.put, List.setIfInBounds_toArray, List.set_cons_zero, List.set_cons_succ]
    refine wpAnyH_done (by kernel_rfl) ?_ _
    have HG : Hid _ := hH.gr
    clear hH
    go_wp2
    go_returns
    exact ⟨HG.out, a, l, c, ys, rfl, HC.out⟩
end Go.Proofs.YtfhgbddeclldnaaGreat

namespace Go.Proofs.YtfhgbddeclldnaaGreat
open Go.RowKit
set_option maxRecDepth 100000
set_option linter.unusedSimpArgs false
set_option linter.unusedVariables false

/-- the records and the copies that are told -/
structure Lst (w : World) (m : Fm) (aL : Option Addr) (nL : Nat) (aW : Option Addr) (nW : Nat) (l : List Nat) : Prop where
  nL : nL = l.length
  nW : nW = l.length
  rs : ∀ (k i : Nat), l[k]? = some i → ∃ b o, aL = some ⟨b, o, none⟩ ∧ w.cell? ⟨b, o + 4 * k, none⟩ = some (.int .u64 (kda m i).1.q) ∧ w.cell? ⟨b, o + 4 * k + 1, none⟩ = some (.int .i64 (kda m i).1.s) ∧ w.cell? ⟨b, o + 4 * k + 2, none⟩ = some (.int .i64 (kda m i).1.l) ∧ w.cell? ⟨b, o + 4 * k + 3, none⟩ = some (.int .u64 (kda m i).1.u)
  ws : ∀ (k i : Nat), l[k]? = some i → ∃ b o, aW = some ⟨b, o, none⟩ ∧ w.cell? ⟨b, o + k, none⟩ = some (.int .i64 i)
/-- what Load answers -/
def LdPost (m : Fm) (P : Pa.Pl) (w : World) (e : Ending) (w' : World) : Prop := w.grownBy w' none ∧ ∃ aL nL cL aW nW cW, e = .returned (.tuple #[.slice aL nL cL, .slice aW nW cW, .int .i64 (klo m P).2]) ∧ nL ≤ cL ∧ nW ≤ cW ∧ (∀ b o, aL = some ⟨b, o, none⟩ → w.heap.size ≤ b) ∧ (∀ b o, aW = some ⟨b, o, none⟩ → w.heap.size ≤ b) ∧ Lst w' m aL nL aW nW (klo m P).1
theorem Lst.none {w : World} {m : Fm} : Lst w m none 0 none 0 [] := ⟨rfl, rfl, fun k i h => by simp at h, fun k i h => by simp at h⟩
theorem ld_bad {w w' : World} {m : Fm} {P : Pa.Pl} {x : Int} (g : w.grownBy w' none) (h : klo m P = ([], x)) : LdPost m P w (.returned (.tuple #[.slice none 0 0, .slice none 0 0, .int .i64 x])) w' :=
  ⟨g, none, 0, 0, none, 0, 0, by rw [h], Nat.le_refl _, Nat.le_refl _, fun _ _ e => (by cases e), fun _ _ e => (by cases e), by rw [h]; exact Lst.none⟩
theorem load_cases (m : Fm) : ((kda m 0).2 ≠ 0 ∧ (kda m 1).2 ≠ 0 ∧ rch (kcp m 0) (kcp m 1) = (0, rc0, 4) ∧ kli m = []) ∨ ((kda m 0).2 = 0 ∧ rch (kcp m 0) (kcp m 1) = (0, (kda m 0).1, 0) ∧ (((kda m 1).2 ≠ 0 ∧ kli m = [0]) ∨ ((kda m 1).2 = 0 ∧ kli m = [0, 1]))) ∨ ((kda m 1).2 = 0 ∧ rch (kcp m 0) (kcp m 1) = (1, (kda m 1).1, 0) ∧ (((kda m 0).2 ≠ 0 ∧ kli m = [1]) ∨ ((kda m 0).2 = 0 ∧ kli m = [1, 0]))) := by
  by_cases h0 : (kda m 0).2 = 0
  · by_cases h1 : (kda m 1).2 = 0
    · by_cases hq : (kda m 0).1.q < (kda m 1).1.q
      · right; right
        have hf : kfi m = 1 := by unfold kfi; rw [if_pos ⟨h1, Or.inr hq⟩]
        refine ⟨h1, ?_, Or.inr ⟨h0, ?_⟩⟩
        · unfold kda at h0 h1 hq ⊢; unfold rch; rw [if_neg (fun x => x.1 h0), if_pos (Or.inr ⟨h1, hq⟩)]
        · unfold kli; rw [hf]; simp [h0, h1]
      · right; left
        have hf : kfi m = 0 := by unfold kfi; rw [if_neg (fun x => x.2.elim (fun y => y h0) hq)]
        refine ⟨h0, ?_, Or.inr ⟨h1, ?_⟩⟩
        · unfold kda at h0 h1 hq ⊢; unfold rch; rw [if_neg (fun x => x.1 h0), if_neg (fun x => x.elim (fun y => y h0) (fun y => hq y.2))]
        · unfold kli; rw [hf]; simp [h0, h1]
    · right; left
      have hf : kfi m = 0 := by unfold kfi; rw [if_neg (fun x => h1 x.1)]
      refine ⟨h0, ?_, Or.inl ⟨h1, ?_⟩⟩
      · unfold kda at h0 h1 ⊢; unfold rch; rw [if_neg (fun x => x.1 h0), if_neg (fun x => x.elim (fun y => y h0) (fun y => h1 y.1))]
      · unfold kli; rw [hf]; simp [h0, h1]
  · by_cases h1 : (kda m 1).2 = 0
    · right; right
      have hf : kfi m = 1 := by unfold kfi; rw [if_pos ⟨h1, Or.inl h0⟩]
      refine ⟨h1, ?_, Or.inl ⟨h0, ?_⟩⟩
      · unfold kda at h0 h1 ⊢; unfold rch; rw [if_neg (fun x => x.2 h1), if_pos (Or.inl h0)]
      · unfold kli; rw [hf]; simp [h0, h1]
    · left
      have hf : kfi m = 0 := by unfold kfi; rw [if_neg (fun x => h1 x.1)]
      refine ⟨h0, h1, ?_, ?_⟩
      · unfold kda at h0 h1; unfold rch; rw [if_pos ⟨h0, h1⟩]
      · unfold kli; rw [hf]; simp [h0, h1]
theorem two_new (W : World) (a b : List Value) (T U : TypeId) : Bx ((W.alloc (.cells a.toArray T)).alloc (.cells b.toArray U)) W.heap.size T a ∧ Bx ((W.alloc (.cells a.toArray T)).alloc (.cells b.toArray U)) (W.heap.size + 1) U b := by
  refine ⟨(Bx.new W T a).kept (World.grownBy_alloc _ _ _), ?_⟩
  have := Bx.new (W.alloc (.cells a.toArray T)) U b
  simpa only [World.size_alloc] using this
theorem ld_one {w W : World} {m : Fm} {P : Pa.Pl} {i : Nat} {q s l u e x : Int} (g : w.grownBy W none) (h : klo m P = ([i], 0)) (hd : kda m i = (⟨q, s, l, u⟩, e)) (hx : x = i) :
    LdPost m P w (.returned (.tuple #[.slice (some ⟨W.heap.size, 0, none⟩) 1 1, .slice (some ⟨W.heap.size + 1, 0, none⟩) 1 1, .int .i64 0])) ((W.alloc (.cells #[.int .u64 q, .int .i64 s, .int .i64 l, .int .u64 u] 48)).alloc (.cells #[.int .i64 x] 3)) := by
  obtain ⟨h1, h2⟩ := two_new W [.int .u64 q, .int .i64 s, .int .i64 l, .int .u64 u] [.int .i64 x] 48 3
  refine ⟨grown_trans g (grown_trans (World.grownBy_alloc _ _ _) (World.grownBy_alloc _ _ _)), _, _, _, _, _, _, by rw [h], Nat.le_refl _, Nat.le_refl _, fun _ _ e => by (injection e with e; injection e with e1; rw [← e1]; exact g.size), fun _ _ e => by (injection e with e; injection e with e1; rw [← e1]; exact Nat.le_succ_of_le g.size), ?_⟩
  rw [h]
  refine ⟨rfl, rfl, ?_, ?_⟩
  · intro k j hk
    obtain ⟨rfl, rfl⟩ : k = 0 ∧ i = j := by
      rcases k with _ | k
      · simpa using hk
      · simp at hk
    rw [hd]
    exact ⟨_, _, rfl, h1.c 0, h1.c 1, h1.c 2, h1.c 3⟩
  · intro k j hk
    obtain ⟨rfl, rfl⟩ : k = 0 ∧ i = j := by
      rcases k with _ | k
      · simpa using hk
      · simp at hk
    subst hx
    exact ⟨_, _, rfl, h2.c 0⟩
theorem ld_two {w W : World} {m : Fm} {P : Pa.Pl} {i j : Nat} {q s l u e q' s' l' u' e' x y : Int} (g : w.grownBy W none) (h : klo m P = ([i, j], 0)) (hd : kda m i = (⟨q, s, l, u⟩, e)) (hd' : kda m j = (⟨q', s', l', u'⟩, e')) (hx : x = i) (hy : y = j) :
    LdPost m P w (.returned (.tuple #[.slice (some ⟨W.heap.size, 0, none⟩) 2 2, .slice (some ⟨W.heap.size + 1, 0, none⟩) 2 2, .int .i64 0])) ((W.alloc (.cells #[.int .u64 q, .int .i64 s, .int .i64 l, .int .u64 u, .int .u64 q', .int .i64 s', .int .i64 l', .int .u64 u'] 48)).alloc (.cells #[.int .i64 x, .int .i64 y] 3)) := by
  obtain ⟨h1, h2⟩ := two_new W [.int .u64 q, .int .i64 s, .int .i64 l, .int .u64 u, .int .u64 q', .int .i64 s', .int .i64 l', .int .u64 u'] [.int .i64 x, .int .i64 y] 48 3
  refine ⟨grown_trans g (grown_trans (World.grownBy_alloc _ _ _) (World.grownBy_alloc _ _ _)), _, _, _, _, _, _, by rw [h], Nat.le_refl _, Nat.le_refl _, fun _ _ e => by (injection e with e; injection e with e1; rw [← e1]; exact g.size), fun _ _ e => by (injection e with e; injection e with e1; rw [← e1]; exact Nat.le_succ_of_le g.size), ?_⟩
  rw [h]
  refine ⟨rfl, rfl, ?_, ?_⟩
  · intro k c hk
    rcases k with _ | _ | k
    · obtain rfl : i = c := by simpa using hk
      rw [hd]
      exact ⟨_, _, rfl, h1.c 0, h1.c 1, h1.c 2, h1.c 3⟩
    · obtain rfl : j = c := by simpa using hk
      rw [hd']
      exact ⟨_, _, rfl, h1.c 4, h1.c 5, h1.c 6, h1.c 7⟩
    · simp at hk
  · intro k c hk
    rcases k with _ | _ | k
    · obtain rfl : i = c := by simpa using hk
      subst hx
      exact ⟨_, _, rfl, h2.c 0⟩
    · obtain rfl : j = c := by simpa using hk
      subst hy
      exact ⟨_, _, rfl, h2.c 1⟩
    · simp at hk
/-- a guard: the next operation stores a record -/
theorem rec_here {P : Program} {w : World} {ops : Array Oper} {rest : List Oper} {a : Act} {Q : Exit → Act → World → Prop} {dst : Option Nat} {x y : Operand} {type : TypeId} {pos : String} {after : Array Edge} {guard : Option (Nat × Bool)}
    (h : wpList P ops Q (⟨dst, .store 48 x y, type, pos, after, guard⟩ :: rest) a w) : wpList P ops Q (⟨dst, .store 48 x y, type, pos, after, guard⟩ :: rest) a w := h
theorem setRow_grown (w : World) (g : Nat) (cs : Array Value) : w.grownBy (w.setRow g cs) (some g) := ⟨rfl, rfl, rfl, by simp [World.setRow], fun k _ hk => setRow_other w g k _ (fun e => hk (by rw [e]))⟩
/-- a variable of several cells, stored whole -/
theorem wpList_store_bx {P : Program} {ops : Array Oper} {rest : List Oper} {o : Oper} {a : Act} {w : World} {Q : Exit → Act → World → Prop} (hgd : o.guard = none) (ty : TypeId) (x y : Operand) (ho : o.op = .store ty x y)
    (g : Nat) (cs : List Value) (hx : a.eval x = .pointer (some ⟨g, 0, none⟩)) (hy : a.eval y = .agg cs.toArray) {T : TypeId} {old : List Value} (hb : Bx w g T old) (hi : (P.info? ty).map (·.size) = some cs.length)
    (hl : old.length = cs.length) (h1 : cs.all (·.oneCell') = true)
    (h : ∀ W', Bx W' g T cs → w.grownBy W' (some g) → wpList P ops Q rest (a.put o.dst undef) W') : wpList P ops Q (o :: rest) a w :=
  wpList_store_row hgd ty x y ho g cs.toArray hx hy T old.toArray hb.blk (by rw [List.size_toArray]; exact hi) (by simp [hl]) (by rw [List.all_toArray]; exact h1) (h _ ⟨setRow_heap _ _ _ _ _ _ hb.blk⟩ (setRow_grown w g cs.toArray))
theorem rec_size : (Tryz.prog.info? 48).map (·.size) = some 4 := by kernel_rfl
theorem Bx.but {W W' : World} {g g' : Nat} {T : TypeId} {cs : List Value} (h : Bx W g T cs) (hg : W.grownBy W' (some g')) (hn : g ≠ g') : Bx W' g T cs := ⟨by rw [hg.block g h.lt (by simpa using hn)]; exact h.blk⟩
set_option maxHeartbeats 4000000 in
theorem kload_any {w : World} {v : Value} {m : Fm} {F : Nat → Prop} {k : Nat} (hR : Rep w v m F) (hg : m.Good k) (P : Pa.Pl) (hP : P.ok) :
    Calls Tryz.prog 17 #[v, P.val] w (LdPost m P w) := by
  have hrt := fun W (g : w.grownBy W none) => kright_any (hR.grown g) hg P hP
  have hrd := fun W (g : w.grownBy W none) (hk : kok m P = true) (i : Nat) (hi : i < 2) => kread_any (hR.grown g) hg P hk i hi
  obtain ⟨aB, aD, aW, aT, lB, cB, lD, cD, lW, cW, lT, cT, rfl⟩ := hR.form
  have K0 : Hid (Kv w _ w.heap.size (w.heap.size + 1) [.int .i64 m.s, .int .i64 m.p, .int .i64 m.b, .slice aB lB cB, .slice aD lD cD, .slice aW lW cW, .int .i64 m.ops, .bool m.off, .int .i64 m.after, .slice aT lT cT] _) := Kv.new w _ P
  have hlo : klo m P = if kok m P = false then ([], 1) else if m.off then ([], 40) else (kli m, 0) := rfl
  have hcs := load_cases m
  clear hR
  generalize (m.s : Int) = ms at *
  generalize (m.p : Int) = mp at *
  generalize (m.b : Int) = mb at *
  generalize m.ops = ops at *
  generalize m.after = after at *
  cases hko : kok m P with
  | false =>
    rw [if_pos hko] at hlo
    clear hrd hcs
    rw [hko] at hrt
    have HB : Hid (∀ W, w.grownBy W none → LdPost m P w (.returned (.tuple #[.slice none 0 0, .slice none 0 0, .int .i64 1])) W) := fun W g => ld_bad g hlo
    clear hlo hko
    generalize m.off = off at *
    obtain ⟨s, p, b, x0, x1, y0, y1, n⟩ := P
    simp only [Pa.Pl.val, Pa.Pl.cells] at *
    go_enter Tryz.func17, Tryz.ntmps17
    go_wp2_with fail
    refine (hrt _ K0.out.gr).mono ?_
    rintro e w1 ⟨rfl, g1⟩
    have HG : Hid _ := (K0.out.kept g1).gr
    clear g1 K0 hrt
    simp only
    go_wp2
    go_ret3
    exact HB.out _ HG.out
  | true =>
    rw [if_neg (by rw [hko]; simp)] at hlo
    have hrd0 := fun W g => hrd W g hko 0 (by omega)
    have hrd1 := fun W g => hrd W g hko 1 (by omega)
    rw [hko] at hrt
    clear hrd
    unfold CpPost at hrd0 hrd1
    cases hof : m.off with
    | true =>
      rw [hof] at hrd0 hrd1 hlo K0 hrt
      rw [if_pos rfl] at hlo
      have HB : Hid (∀ W, w.grownBy W none → LdPost m P w (.returned (.tuple #[.slice none 0 0, .slice none 0 0, .int .i64 40])) W) := fun W g => ld_bad g hlo
      clear hlo hko hcs hrd1 hof
      simp only [if_true, reduceIte] at hrd0
      obtain ⟨s, p, b, x0, x1, y0, y1, n⟩ := P
      simp only [Pa.Pl.val, Pa.Pl.cells] at *
      go_enter Tryz.func17, Tryz.ntmps17
      go_wp2_with fail
      refine (hrt _ K0.out.gr).mono ?_
      rintro e w1 ⟨rfl, g1⟩
      have K1 := hidKv K0 g1
      obtain ⟨d0, d1, d2, d3, d4, d5, d6, d7⟩ := plan8 K1.out.p
      obtain ⟨c0, c1, c2, c3, c4, c5, c6, c7, c8, c9⟩ := flash10 K1.out.f
      clear g1 K0 hrt
      generalize w.heap.size = g at *
      simp only
      go_wp2_with fail
      refine (hrd0 _ K1.out.gr).mono ?_
      rintro e w2 ⟨g2, a, l, c, ys, rfl, hrow, hlc, hcm, hys⟩
      have HG : Hid _ := (K1.out.kept g2).gr
      clear g2 K1 hrd0 hrow hlc hcm hys c0 c1 c2 c3 c4 c5 c6 c7 c8 c9 d0 d1 d2 d3 d4 d5 d6 d7
      simp only
      go_wp2
      go_ret3
      exact HB.out _ HG.out
    | false =>
      rw [hof] at hrd0 hrd1 hlo K0 hrt
      rw [if_neg (by simp)] at hlo
      simp only [if_false, reduceIte, Bool.false_eq_true, forall_const] at hrd0 hrd1
      have HL : Hid _ := hlo
      clear hlo hko hof
      have HP : Hid (P.ok) := hP
      clear hP
      obtain ⟨s, p, b, x0, x1, y0, y1, n⟩ := P
      simp only [Pa.Pl.val] at *
      go_enter Tryz.func17, Tryz.ntmps17
      go_wp2_with fail
      refine (hrt _ K0.out.gr).mono ?_
      rintro e w1 ⟨rfl, g1⟩
      have K1 := hidKv K0 g1
      obtain ⟨d0, d1, d2, d3, d4, d5, d6, d7⟩ := plan8 K1.out.p
      obtain ⟨c0, c1, c2, c3, c4, c5, c6, c7, c8, c9⟩ := flash10 K1.out.f
      clear g1 K0 hrt
      generalize hgw : w.heap.size = g at *
      simp only
      go_wp2_with fail
      refine (hrd0 _ K1.out.gr).mono ?_
      rintro e w2 ⟨g2, aA, nA, cA, ysA, rfl, hrowA, hlcA, hcmA, rfl⟩
      have K2 := hidKv K1 g2
      have HA : Hid _ := And.intro hrowA (And.intro hlcA hcmA)
      clear g2 K1 hrd0 hrowA hlcA hcmA c0 c1 c2 c3 c4 c5 c6 c7 c8 c9 d0 d1 d2 d3 d4 d5 d6 d7
      obtain ⟨d0, d1, d2, d3, d4, d5, d6, d7⟩ := plan8 K2.out.p
      obtain ⟨c0, c1, c2, c3, c4, c5, c6, c7, c8, c9⟩ := flash10 K2.out.f
      simp only
      go_wp2_with fail
      refine (hrd1 _ K2.out.gr).mono ?_
      rintro e w3 ⟨g3, aE, nE, cE, ysE, rfl, hrowE, hlcE, hcmE, rfl⟩
      have HG : Hid _ := (K2.out.kept g3).gr
      have HA3 : Hid _ := And.intro (HA.out.1.grown g3) (And.intro HA.out.2 (And.intro hrowE (And.intro hlcE hcmE)))
      clear g3 K2 hrd1 hrowE hlcE hcmE HA c0 c1 c2 c3 c4 c5 c6 c7 c8 c9 d0 d1 d2 d3 d4 d5 d6 d7
      simp only
      go_wp2_with fail
      have hch := rchoose_any aA nA cA _ aE nE cE _ w3 HA3.out.1 HA3.out.2.1.1 HA3.out.2.1.2 HA3.out.2.2.1 HA3.out.2.2.2.1 HA3.out.2.2.2.2
      have hdA := fun W (g : w3.grownBy W none) => rdecode_any aA nA cA _ W (HA3.out.1.grown g) HA3.out.2.1.1 HA3.out.2.1.2
      have hdE := fun W (g : w3.grownBy W none) => rdecode_any aE nE cE _ W (HA3.out.2.2.1.grown g) HA3.out.2.2.2.1 HA3.out.2.2.2.2
      clear HA3 HP
      rcases hcs with ⟨z0, z1, zr, zl⟩ | ⟨z0, zr, z1⟩ | ⟨z0, zr, z1⟩
      · rw [zr] at hch
        have HB : Hid (∀ W, w.grownBy W none → LdPost m ⟨s, p, b, x0, x1, y0, y1, n⟩ w (.returned (.tuple #[.slice none 0 0, .slice none 0 0, .int .i64 0])) W) := fun W g => ld_bad g (by rw [HL.out, zl])
        clear hdA hdE zr zl z0 z1 HL
        refine hch.mono ?_
        rintro e w4 ⟨rfl, g4⟩
        have HG4 : Hid _ := grown_trans HG.out g4
        clear HG g4 hch
        simp only [rc0, Rc.val]
        go_wp2
        go_ret3
        exact HB.out _ (grown_trans HG4.out (World.grownBy_alloc _ _ _))
      · rw [zr] at hch
        have hkA : rde (kcp m 0) = kda m 0 := rfl
        have hkE : rde (kcp m 1) = kda m 1 := rfl
        rw [hkA] at hdA
        rw [hkE] at hdE
        clear hkA hkE zr
        generalize hD0 : kda m 0 = D0 at *
        generalize hD1 : kda m 1 = D1 at *
        obtain ⟨⟨q0, s0, l0, u0⟩, e0⟩ := D0
        obtain ⟨⟨q1, s1, l1, u1⟩, e1⟩ := D1
        have HD : Hid _ := And.intro hD0 hD1
        simp only [Rc.val] at z0 z1 hch hdA hdE
        subst z0
        clear hD0 hD1
        refine hch.mono ?_
        rintro e w4 ⟨rfl, g4⟩
        have hr4 : Bx (w4.alloc (.cells #[.int .u64 q0, .int .i64 s0, .int .i64 l0, .int .u64 u0] 48)) w4.heap.size 48 [.int .u64 q0, .int .i64 s0, .int .i64 l0, .int .u64 u0] := Bx.new _ _ _
        have ga4 := grown_trans g4 (World.grownBy_alloc w4 (.cells #[.int .u64 q0, .int .i64 s0, .int .i64 l0, .int .u64 u0] 48) none)
        have H4 : Hid _ := And.intro hr4 ga4
        clear hch g4 hr4 ga4
        simp only
        go_wp2_with fail
        refine (hdA _ H4.out.2).mono ?_
        rintro e w5 ⟨rfl, g5⟩
        have hx5 : Bx (w5.alloc (.cells #[.int .u64 q0, .int .i64 s0, .int .i64 l0, .int .u64 u0] 48)) w5.heap.size 48 [.int .u64 q0, .int .i64 s0, .int .i64 l0, .int .u64 u0] := Bx.new _ _ _
        have ga5 := grown_trans g5 (World.grownBy_alloc w5 (.cells #[.int .u64 q0, .int .i64 s0, .int .i64 l0, .int .u64 u0] 48) none)
        have hle := g5.size
        have H5 : Hid _ := And.intro (H4.out.1.kept ga5) (And.intro hx5 (And.intro (grown_trans H4.out.2 ga5) (And.intro (show w4.heap.size < w5.heap.size from Nat.lt_of_lt_of_le (by simp) hle) (show w3.heap.size ≤ w5.heap.size from (grown_trans H4.out.2 g5).size))))
        clear g5 hx5 ga5 hle H4 hdA
        simp only
        go_wp2_with fail
        refine (hdE _ H5.out.2.2.1).mono ?_
        rintro e w6 ⟨rfl, g6⟩
        have H6 : Hid _ := And.intro (H5.out.1.kept g6) (And.intro (H5.out.2.1.kept g6) (And.intro (grown_trans H5.out.2.2.1 g6) H5.out.2.2.2))
        clear g6 H5 hdE
        simp only
        rcases z1 with ⟨z1, zl⟩ | ⟨z1, zl⟩
        · have z1' : (e1 == 0) = false := by simpa using z1
          go_wp2_with ((with_reducible refine rec_here ?_); refine wpList_store_bx rfl 48 _ _ rfl w5.heap.size [.int .u64 q1, .int .i64 s1, .int .i64 l1, .int .u64 u1] rfl rfl H6.out.2.1 rec_size rfl rfl ?_; intro W7 hb7 hg7; have H7 : Hid (Bx W7 w4.heap.size 48 [.int .u64 q0, .int .i64 s0, .int .i64 l0, .int .u64 u0] ∧ Bx W7 w5.heap.size 48 [.int .u64 q1, .int .i64 s1, .int .i64 l1, .int .u64 u1] ∧ w.grownBy W7 none) := ⟨H6.out.1.but hg7 (Nat.ne_of_lt H6.out.2.2.2.1), hb7, grown_trans HG.out (grown_new H6.out.2.2.1 hg7 H6.out.2.2.2.2)⟩; clear hb7 hg7 H6; obtain ⟨r0, r1, r2, r3⟩ := bx4 H7.out.1; obtain ⟨t0, t1, t2, t3⟩ := bx4 H7.out.2.1)
          go_ret3
          exact ld_one H7.out.2.2 (by rw [HL.out, zl]) HD.out.1 rfl
        · subst z1
          go_wp2_with ((with_reducible refine rec_here ?_); refine wpList_store_bx rfl 48 _ _ rfl w5.heap.size [.int .u64 q1, .int .i64 s1, .int .i64 l1, .int .u64 u1] rfl rfl H6.out.2.1 rec_size rfl rfl ?_; intro W7 hb7 hg7; have H7 : Hid (Bx W7 w4.heap.size 48 [.int .u64 q0, .int .i64 s0, .int .i64 l0, .int .u64 u0] ∧ Bx W7 w5.heap.size 48 [.int .u64 q1, .int .i64 s1, .int .i64 l1, .int .u64 u1] ∧ w.grownBy W7 none) := ⟨H6.out.1.but hg7 (Nat.ne_of_lt H6.out.2.2.2.1), hb7, grown_trans HG.out (grown_new H6.out.2.2.1 hg7 H6.out.2.2.2.2)⟩; clear hb7 hg7 H6; obtain ⟨r0, r1, r2, r3⟩ := bx4 H7.out.1; obtain ⟨t0, t1, t2, t3⟩ := bx4 H7.out.2.1)
          go_ret3
          exact ld_two H7.out.2.2 (by rw [HL.out, zl]) HD.out.1 HD.out.2 rfl rfl
      · rw [zr] at hch
        have hkA : rde (kcp m 0) = kda m 0 := rfl
        have hkE : rde (kcp m 1) = kda m 1 := rfl
        rw [hkA] at hdA
        rw [hkE] at hdE
        clear hkA hkE zr
        generalize hD0 : kda m 0 = D0 at *
        generalize hD1 : kda m 1 = D1 at *
        obtain ⟨⟨q0, s0, l0, u0⟩, e0⟩ := D0
        obtain ⟨⟨q1, s1, l1, u1⟩, e1⟩ := D1
        have HD : Hid _ := And.intro hD0 hD1
        simp only [Rc.val] at z0 z1 hch hdA hdE
        subst z0
        clear hD0 hD1
        refine hch.mono ?_
        rintro e w4 ⟨rfl, g4⟩
        have hr4 : Bx (w4.alloc (.cells #[.int .u64 q1, .int .i64 s1, .int .i64 l1, .int .u64 u1] 48)) w4.heap.size 48 [.int .u64 q1, .int .i64 s1, .int .i64 l1, .int .u64 u1] := Bx.new _ _ _
        have ga4 := grown_trans g4 (World.grownBy_alloc w4 (.cells #[.int .u64 q1, .int .i64 s1, .int .i64 l1, .int .u64 u1] 48) none)
        have H4 : Hid _ := And.intro hr4 ga4
        clear hch g4 hr4 ga4
        simp only
        go_wp2_with fail
        refine (hdA _ H4.out.2).mono ?_
        rintro e w5 ⟨rfl, g5⟩
        have hx5 : Bx (w5.alloc (.cells #[.int .u64 q0, .int .i64 s0, .int .i64 l0, .int .u64 u0] 48)) w5.heap.size 48 [.int .u64 q0, .int .i64 s0, .int .i64 l0, .int .u64 u0] := Bx.new _ _ _
        have ga5 := grown_trans g5 (World.grownBy_alloc w5 (.cells #[.int .u64 q0, .int .i64 s0, .int .i64 l0, .int .u64 u0] 48) none)
        have hle := g5.size
        have H7 : Hid _ := And.intro (H4.out.1.kept ga5) (And.intro hx5 (grown_trans HG.out (grown_trans H4.out.2 ga5)))
        clear g5 hx5 ga5 hle H4 hdA hdE HG
        obtain ⟨r0, r1, r2, r3⟩ := bx4 H7.out.1
        obtain ⟨t0, t1, t2, t3⟩ := bx4 H7.out.2.1
        simp only
        rcases z1 with ⟨z1, zl⟩ | ⟨z1, zl⟩
        · have z1' : (e0 == 0) = false := by simpa using z1
          go_wp2
          go_ret3
          have hz := ld_one (x := 1) H7.out.2.2 (by rw [HL.out, zl]) HD.out.2 rfl
          simp only [World.size_alloc] at hz
          exact hz
        · subst z1
          go_wp2
          go_ret3
          have hz := ld_two (x := 1) (y := 0) H7.out.2.2 (by rw [HL.out, zl]) HD.out.2 HD.out.1 rfl rfl
          simp only [World.size_alloc] at hz
          exact hz
end Go.Proofs.YtfhgbddeclldnaaGreat
