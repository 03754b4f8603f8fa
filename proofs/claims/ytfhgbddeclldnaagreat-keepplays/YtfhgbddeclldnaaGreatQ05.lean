/- The document's Erase, where it erases. -/
import Derived.Deep.RegionHeld3
import Derived.Deep.RegionWith
import Derived.Test.YtfhgbddeclldnaaGreatQ03
namespace Go.Proofs.YtfhgbddeclldnaaGreat
open Go.RowKit
set_option maxRecDepth 100000
set_option linter.unusedSimpArgs false
set_option linter.unusedVariables false

/-- the error that the document's Erase tells ahead of all -/
def erE (nW : Nat) (off : Bool) (sector : Int) : Int := if sector < 0 ∨ (nW : Int) ≤ sector then 9 else if off then 40 else 0
set_option maxHeartbeats 1000000 in
theorem rerase_bad (s p b ops after : Int) (off : Bool) (aB aD aW aT : Option Addr) (lB cB lD cD lW cW lT cT : Nat) (sector : Int) (w : World) (hl : lW ≤ 1000000) (hp : -9223372036854775808 ≤ sector ∧ sector ≤ 9223372036854775807) (hE : erE lW off sector ≠ 0) :
    Calls Tryz.prog 28 #[.agg #[.int .i64 s, .int .i64 p, .int .i64 b, .slice aB lB cB, .slice aD lD cD, .slice aW lW cW, .int .i64 ops, .bool off, .int .i64 after, .slice aT lT cT], .int .i64 sector] w
      fun e w' => e = .returned (.tuple #[.agg #[.int .i64 s, .int .i64 p, .int .i64 b, .slice aB lB cB, .slice aD lD cD, .slice aW lW cW, .int .i64 ops, .bool off, .int .i64 after, .slice aT lT cT], .int .i64 (erE lW off sector)]) ∧ w.grownBy w' none := by
  unfold erE at *
  by_cases h1 : sector < 0
  · rw [if_pos (Or.inl h1)]
    clear hE
    go_enter Tryz.func28, Tryz.ntmps28
    go_wp2
    exact bodyPost_ret (v := .tuple #[.agg #[.int .i64 s, .int .i64 p, .int .i64 b, .slice aB lB cB, .slice aD lD cD, .slice aW lW cW, .int .i64 ops, .bool off, .int .i64 after, .slice aT lT cT], .int .i64 9]) (by simp [results, Tryz.results28, go_sem]) rfl ⟨rfl, grown2 _ _ _⟩
  · by_cases h2 : (lW : Int) ≤ sector
    · rw [if_pos (Or.inr h2)]
      clear hE
      go_enter Tryz.func28, Tryz.ntmps28
      go_wp2
      exact bodyPost_ret (v := .tuple #[.agg #[.int .i64 s, .int .i64 p, .int .i64 b, .slice aB lB cB, .slice aD lD cD, .slice aW lW cW, .int .i64 ops, .bool off, .int .i64 after, .slice aT lT cT], .int .i64 9]) (by simp [results, Tryz.results28, go_sem]) rfl ⟨rfl, grown2 _ _ _⟩
    · rw [if_neg (by omega)] at hE ⊢
      cases off
      · exact absurd rfl hE
      · rw [if_pos rfl]
        clear hE
        go_enter Tryz.func28, Tryz.ntmps28
        go_wp2
        exact bodyPost_ret (v := .tuple #[.agg #[.int .i64 s, .int .i64 p, .int .i64 b, .slice aB lB cB, .slice aD lD cD, .slice aW lW cW, .int .i64 ops, .bool true, .int .i64 after, .slice aT lT cT], .int .i64 40]) (by simp [results, Tryz.results28, go_sem]) rfl ⟨rfl, grown2 _ _ _⟩

/-- what the document's Erase answers where it erases -/
def RePost (w : World) (s : Int) (pn bn lB : Nat) (Bn : List Int) (lD : Nat) (Dn : List Bool) (lW : Nat) (Wn : List Int) (ops : Int) (bad : Bool) (af : Int) (aT : Option Addr) (lT cT : Nat) (e : Ending) (w' : World) : Prop :=
  ∃ bb bo cB db dof cD wb wof cW, e = .returned (.tuple #[.agg #[.int .i64 s, .int .i64 pn, .int .i64 bn, .slice (some ⟨bb, bo, none⟩) lB cB, .slice (some ⟨db, dof, none⟩) lD cD, .slice (some ⟨wb, wof, none⟩) lW cW, .int .i64 ops, .bool bad, .int .i64 af, .slice aT lT cT], .int .i64 (if bad then 40 else 0)]) ∧ Row w' (some ⟨bb, bo, none⟩) lB Bn ∧ lB ≤ cB ∧ cB ≤ maxLen ∧ RowE Value.bool w' (some ⟨db, dof, none⟩) lD Dn ∧ RowE (Value.int .i64) w' (some ⟨wb, wof, none⟩) lW Wn ∧ w.grownBy w' none ∧ w.heap.size ≤ bb ∧ w.heap.size ≤ db ∧ w.heap.size ≤ wb
theorem Tryz.info3 : (Tryz.prog.info? 3).map (fun i => (i.zero, i.size, i.bytes)) = some (some (.int .i64 0), 1, 8) := by kernel_rfl
theorem Own0.lt {e : TypeId} {W : World} {g n cap : Nat} {xs : List Value} (h : Own0 e W g n cap xs) : g < W.heap.size := by
  obtain ⟨cur, h1, _⟩ := h.cur
  exact (Array.getElem?_eq_some_iff.1 h1).1
theorem Own0.below {e : TypeId} {W W' : World} {g n cap B : Nat} {xs : List Value} (h : Own0 e W g n cap xs) (hb : Below B W W') (hg : g < B) : Own0 e W' g n cap xs := by
  obtain ⟨cur, h1, h2, h3⟩ := h.cur
  exact ⟨⟨cur, by rw [hb.block g hg]; exact h1, h2, h3⟩, h.len, h.nc, h.cm⟩
/-- the pages from a on, k of them, set -/
def drg (D : List Bool) (a : Nat) (b : Bool) (k : Nat) : List Bool := D.take a ++ List.replicate k b ++ D.drop (a + k)
theorem drg_zero (D : List Bool) (a : Nat) (b : Bool) : drg D a b 0 = D := by simp [drg]
theorem drg_len {D : List Bool} {a k : Nat} (b : Bool) (h : a + k ≤ D.length) : (drg D a b k).length = D.length := by simp [drg]; omega
theorem drg_step {D : List Bool} {a k : Nat} (b : Bool) (h : a + k < D.length) : (drg D a b k).set (a + k) b = drg D a b (k + 1) := by
  unfold drg
  rw [List.set_append_right _ _ (by simp; omega)]
  have e : a + k - (D.take a ++ List.replicate k b).length = 0 := by simp; omega
  rw [e, List.drop_eq_getElem_cons h, List.set_cons_zero, List.replicate_succ']
  simp [Nat.add_assoc]
theorem slice_run (bb bo lB cB q j : Nat) (W : World) (h1 : ¬ cB = q) (h2 : (q : Int) + (j : Int) ≤ (cB : Int)) : Sem.run Tryz.prog (Instr.sliceAt 36 (.slice (some ⟨bb, bo, none⟩) lB cB) (some (.int .i64 q)) (some (.int .i64 ((q : Int) + (j : Int)))) none) W = .ok (.slice (some ⟨bb, bo + q, none⟩) j (cB - q)) W := by
  have e1 : ((q : Int) + (j : Int)).toNat = q + j := by omega
  have e2 : q + j - q = j := by omega
  rw [run_sliceAt_slice W 36 _ _ _ _ (by kernel_rfl), run_slice_lh W 36 _ _ _ (by kernel_rfl) .i64 .i64 _ _ (by omega) (by omega) h2]
  simp [go_sem, sliced, h1, e1, e2, Addr.add]
set_option maxHeartbeats 4000000 in
theorem rerase_ok (s ops after : Int) (pn bn n : Nat) (bb bo lB cB : Nat) (Bs : List Int) (db dof lD cD : Nat) (D : List Bool) (wb wof lW cW : Nat) (Wn : List Int) (aT : Option Addr) (lT cT : Nat) (Ts : List Int) (i : Nat) (w : World)
    (RB : Row w (some ⟨bb, bo, none⟩) lB Bs) (hcB : lB ≤ cB) (hcm : cB ≤ maxLen) (hlB : lB ≤ 16777216) (RDD : RowE Value.bool w (some ⟨db, dof, none⟩) lD D) (hlD : lD ≤ 1000000) (RW : RowE (Value.int .i64) w (some ⟨wb, wof, none⟩) lW Wn) (hlW : lW ≤ 1000000) (RT : Row w aT lT Ts)
    (hi : i < lW) (hn : n = pn * bn) (hn0 : 0 < n) (hp0 : 0 < pn) (hp1 : pn ≤ 1024) (hb1 : bn ≤ 65536) (hfit : i * n + n ≤ lB) (hfitD : i * pn + pn ≤ lD) (ho : 0 ≤ ops ∧ ops < 1000000) (ha : 0 ≤ after ∧ after ≤ 9223372036854775807) (hW : ∀ x ∈ Wn, 0 ≤ x ∧ x < 1000000) :
    Calls Tryz.prog 28 #[.agg #[.int .i64 s, .int .i64 pn, .int .i64 bn, .slice (some ⟨bb, bo, none⟩) lB cB, .slice (some ⟨db, dof, none⟩) lD cD, .slice (some ⟨wb, wof, none⟩) lW cW, .int .i64 ops, .bool false, .int .i64 after, .slice aT lT cT], .int .i64 i] w
      fun e w' => RePost w s pn bn lB (Bs.take (i * n) ++ (if after = 1 then ovr ((Bs.drop (i * n)).take n) Ts else ffs n) ++ Bs.drop (i * n + n)) lD (drg D (i * pn) (decide (after = 1)) pn) lW (Wn.set i (Wn.getD i 0 + 1)) (ops + 1) (decide (after = 1)) (if after = 0 then 0 else after - 1) aT lT cT e w' := by
  obtain ⟨i5, hi5, hz0, hz1, hz2⟩ := info_parts Tryz.info5
  obtain ⟨i4, k41, k42, k43, k44⟩ := info_parts Tryz.info4
  obtain ⟨i3, k31, k32, k33, k34⟩ := info_parts Tryz.info3
  generalize hBn : (Bs.take (i * n) ++ (if after = 1 then ovr ((Bs.drop (i * n)).take n) Ts else ffs n) ++ Bs.drop (i * n + n)) = Bn
  have HB : Hid _ := hBn
  clear hBn
  generalize hbd : decide (after = 1) = bad
  generalize haf : (if after = 0 then 0 else after - 1) = af
  have HE : Hid _ := And.intro hbd haf
  clear hbd haf
  have hi0 : decide ((i : Int) < 0) = false := decide_eq_false (by omega)
  have hnI : Hid ((pn : Int) * (bn : Int) = (n : Int)) := by show _ = _; rw [hn, Int.natCast_mul]
  have hwr : IntKind.i64.wrap ((pn : Int) * (bn : Int)) = (pn : Int) * (bn : Int) := by rw [hnI.out, IntKind.wrap_i64]; omega
  have HR : Hid _ := And.intro RB (And.intro RDD (And.intro RW RT))
  have HN : Hid _ := hn
  clear RB RDD RW RT hn
  obtain ⟨o1, eo1⟩ : ∃ o, o = Obj.cells #[.int .i64 s, .int .i64 pn, .int .i64 bn, .slice (some ⟨bb, bo, none⟩) lB cB, .slice (some ⟨db, dof, none⟩) lD cD, .slice (some ⟨wb, wof, none⟩) lW cW, .int .i64 ops, .bool false, .int .i64 after, .slice aT lT cT] 42 (0, 0) := ⟨_, rfl⟩
  obtain ⟨o2, eo2⟩ : ∃ o, o = Obj.cells #[.int .i64 0, .int .i64 0, .int .i64 0, .slice none 0 0, .slice none 0 0, .slice none 0 0, .int .i64 0, .bool false, .int .i64 0, .slice none 0 0] 42 (0, 0) := ⟨_, rfl⟩
  have ws0 : WS 42 w ((w.alloc o1).alloc o2) w.heap.size [.int .i64 s, .int .i64 pn, .int .i64 bn, .slice (some ⟨bb, bo, none⟩) lB cB, .slice (some ⟨db, dof, none⟩) lD cD, .slice (some ⟨wb, wof, none⟩) lW cW, .int .i64 ops, .bool false, .int .i64 after, .slice aT lT cT] [.int .i64 0, .int .i64 0, .int .i64 0, .slice none 0 0, .slice none 0 0, .slice none 0 0, .int .i64 0, .bool false, .int .i64 0, .slice none 0 0] := by
    refine ⟨grown2 w o1 o2, ?_, ?_, by simp, rfl⟩
    · have h0 : Box (w.alloc o1) w.heap.size 42 [.int .i64 s, .int .i64 pn, .int .i64 bn, .slice (some ⟨bb, bo, none⟩) lB cB, .slice (some ⟨db, dof, none⟩) lD cD, .slice (some ⟨wb, wof, none⟩) lW cW, .int .i64 ops, .bool false, .int .i64 after, .slice aT lT cT] := by rw [eo1]; exact Box.new _ _ _
      exact h0.grown (World.grownBy_alloc _ _ _)
    · have h0 : Box ((w.alloc o1).alloc o2) (w.alloc o1).heap.size 42 [.int .i64 0, .int .i64 0, .int .i64 0, .slice none 0 0, .slice none 0 0, .slice none 0 0, .int .i64 0, .bool false, .int .i64 0, .slice none 0 0] := by rw [eo2]; exact Box.new _ _ _
      rw [show (w.alloc o1).heap.size = w.heap.size + 1 by simp] at h0
      exact h0
  subst eo1 eo2
  have H0 : Hid _ := ws0
  clear ws0
  go_enter Tryz.func28, Tryz.ntmps28
  go_wp2_with fail
  rw [hnI.out]
  have hT := fun W => torn_any s pn bn ops after false (some ⟨bb, bo, none⟩) (some ⟨db, dof, none⟩) (some ⟨wb, wof, none⟩) aT lB cB lD cD lW cW lT cT W ho ha
  have eoff : (if after = 1 then true else false) = bad := by
    rw [← HE.out.1]
    by_cases h : after = 1 <;> simp [h]
  refine (hT _).mono ?_
  rintro _ w2 ⟨rfl, hgt⟩
  rw [eoff, HE.out.1, HE.out.2]
  have ws2 := H0.out.grown hgt
  clear H0 hT hgt eoff
  generalize hgg : w.heap.size = g at *
  obtain ⟨c0, c1, c2, c3, c4, c5, c6, c7, c8, c9⟩ := ws2.b1.c10
  obtain ⟨f0, f1, f2, f3, f4, f5, f6, f7, f8, f9⟩ := ws2.b1.f10
  have ws3 := ws2.store10 (.int .i64 s) (.int .i64 pn) (.int .i64 bn) (.slice (some ⟨bb, bo, none⟩) lB cB) (.slice (some ⟨db, dof, none⟩) lD cD) (.slice (some ⟨wb, wof, none⟩) lW cW) (.int .i64 (ops + 1)) (.bool bad) (.int .i64 af) (.slice aT lT cT)
  have HW3 : Hid _ := ws3
  clear ws2 ws3 hnI hwr
  go_wp2
  have ws3 := HW3.out
  generalize ((((((((((w2.setCell ⟨g, 0, none⟩ (.int .i64 s)).setCell ⟨g, 1, none⟩ (.int .i64 pn)).setCell ⟨g, 2, none⟩ (.int .i64 bn)).setCell ⟨g, 3, none⟩ (.slice (some ⟨bb, bo, none⟩) lB cB)).setCell ⟨g, 4, none⟩ (.slice (some ⟨db, dof, none⟩) lD cD)).setCell ⟨g, 5, none⟩ (.slice (some ⟨wb, wof, none⟩) lW cW)).setCell ⟨g, 6, none⟩ (.int .i64 (ops + 1))).setCell ⟨g, 7, none⟩ (.bool bad)).setCell ⟨g, 8, none⟩ (.int .i64 af)).setCell ⟨g, 9, none⟩ (.slice aT lT cT)) = w3 at ws3 ⊢
  have HW4 : Hid _ := ws3
  clear HW3 ws3 c0 c1 c2 c3 c4 c5 c6 c7 c8 c9 f0 f1 f2 f3 f4 f5 f6 f7 f8 f9
  go_loopw [8, 9] (fun v vi wr => ∃ j : Nat, vi = .int .i64 j ∧ j ≤ n ∧ Hid (wr.ownsRow (g + 1 + 1) 5 1 v j (bv (ffs j))) ∧ Hid (WS 42 w wr g [.int .i64 s, .int .i64 pn, .int .i64 bn, .slice (some ⟨bb, bo, none⟩) lB cB, .slice (some ⟨db, dof, none⟩) lD cD, .slice (some ⟨wb, wof, none⟩) lW cW, .int .i64 (ops + 1), .bool bad, .int .i64 af, .slice aT lT cT] [.int .i64 0, .int .i64 0, .int .i64 0, .slice none 0 0, .slice none 0 0, .slice none 0 0, .int .i64 0, .bool false, .int .i64 0, .slice none 0 0])) (fun _ vi _ => n - (intOf vi).toNat)
  case atStart => exact ⟨0, rfl, Nat.zero_le _, World.ownsRow_nil _ _ _ _, HW4⟩
  case round =>
    clear HW4
    obtain ⟨j, rfl, j2, HQ, HW⟩ := hrel
    obtain ⟨xa, xc, rfl, k1, k2, k3⟩ := owns_form HQ.out
    unfold maxLen at k2
    by_cases hlt : j < n
    · have hsz2 := HW.out.sz
      have hal : g + 1 + 1 ≤ (wr.alloc (.cells #[.int .u8 255] 5)).heap.size := by simp; omega
      go_wp2_with (at_builtin; (refine wpList_append_own _ rfl _ _ 36 rfl (g + 1 + 1) 5 i5 (.int .u8 0) 1 1 Tryz.underlying36 hi5 hz0 hz1 hz2 rfl (by decide) _ _ _ rfl (HQ.out.alloc _) ⟨wr.heap.size, 0, none⟩ 1 1 (bv [255]) rfl rfl ?c1 (bv_one _) ?c3 ?c4 hal ?_))
      case c1 => exact cell_one_new _ _ _
      case c3 => unfold maxLen; omega
      case c4 => omega
      · intro v' w2 hq2 hg2 _
        have R : w2.ownsRow (g + 1 + 1) 5 1 v' (j + 1) (bv (ffs (j + 1))) := by
          rw [ffs_snoc, bv_append]; exact hq2
        have HW2 : Hid (WS 42 w w2 g [.int .i64 s, .int .i64 pn, .int .i64 bn, .slice (some ⟨bb, bo, none⟩) lB cB, .slice (some ⟨db, dof, none⟩) lD cD, .slice (some ⟨wb, wof, none⟩) lW cW, .int .i64 (ops + 1), .bool bad, .int .i64 af, .slice aT lT cT] [.int .i64 0, .int .i64 0, .int .i64 0, .slice none 0 0, .slice none 0 0, .slice none 0 0, .int .i64 0, .bool false, .int .i64 0, .slice none 0 0]) :=
          (HW.out.grown (World.grownBy_alloc wr _ none)).below (below_own hg2 (HQ.out.alloc _) hal)
        obtain ⟨ya, yc, rfl, _⟩ := owns_form R
        clear hq2 hg2 HQ HW hal hsz2
        go_wp2
        go_roundw
        case rel => exact ⟨j + 1, by go_num, by omega, R, HW2⟩
        case measure => simp [intOf]; omega
    · have ej : j = n := by omega
      subst ej
      obtain ⟨gx, rfl, hgx⟩ : ∃ gx, xa = some ⟨gx, 0, none⟩ ∧ g + 1 + 1 ≤ gx := by
        rcases k3 with ⟨_, h3, _⟩ | ⟨g', h3, h4⟩
        · omega
        · exact ⟨g', h3, h4⟩
      have RX : Row wr (some ⟨gx, 0, none⟩) j (ffs j) := by
        obtain ⟨a', c', e1, RR⟩ := owns_row HQ.out (ffs_byt _) (by unfold maxLen; omega)
        injection e1 with e1 e2 e3
        subst e1
        exact RR
      have ws := HW.out
      clear HQ HW k3 hlt
      obtain ⟨c0, c1, c2, c3, c4, c5, c6, c7, c8, c9⟩ := ws.b1.c10
      cases bad
      · have HY : Hid (Bs.take (i * j) ++ (ffs j) ++ Bs.drop (i * j + j) = Bn) := by
          show _ = _
          rw [← HB.out]
          have := HE.out.1
          simp at this
          simp [this]
        go_wp2_with fail
        clear c0 c1 c2 c3 c4 c5 c6 c7 c8 c9
        have hcl := lay_any bb bo lB cB (i * j) Bs (some ⟨gx, 0, none⟩) j xc (ffs j) _ (HR.out.1.grown ws.gr) RX (fun e => by cases e) hcB hcm hfit hlB (by omega)
        rw [Int.natCast_mul] at hcl
        have hszw3 := ws.sz
        refine hcl.mono ?_
        rintro _ w4 ⟨g4, c4, rfl, hg4, R4, n1, n2, hgr4⟩
        have ws4 := ws.grown hgr4
        have ws5 := ws4.set1 3 (.slice (some ⟨g4, 0, none⟩) lB c4)
        have R5 := R4.far (show g4 ≠ g by omega) 3 (.slice (some ⟨g4, 0, none⟩) lB c4)
        have hm5 := madeE (w4.setCell ⟨g, 3, none⟩ (.slice (some ⟨g4, 0, none⟩) lB c4)) 4
        have hs5 : (w4.setCell ⟨g, 3, none⟩ (.slice (some ⟨g4, 0, none⟩) lB c4)).heap.size = w4.heap.size := by simp [World.setCell]
        have RD5 := (HR.out.2.1.grown ws5.gr).grown (World.grownBy_alloc (w4.setCell ⟨g, 3, none⟩ (.slice (some ⟨g4, 0, none⟩) lB c4)) (.cells #[] 4) none)
        have cX := (ws5.grown (World.grownBy_alloc (w4.setCell ⟨g, 3, none⟩ (.slice (some ⟨g4, 0, none⟩) lB c4)) (.cells #[] 4) none)).b1.c 4
        have hs6 : w4.heap.size ≤ ((w4.setCell ⟨g, 3, none⟩ (.slice (some ⟨g4, 0, none⟩) lB c4)).alloc (.cells #[] 4)).heap.size := by simp [World.setCell]
        obtain ⟨c0, c1, c2, c3, c4', c5, c6', c7, c8, c9⟩ := ws4.b1.c10
        obtain ⟨f0, f1, f2, f3, f4, f5, f6, f7, f8, f9⟩ := ws4.b1.f10
        rw [hs5] at hm5
        have hszw4 := ws4.sz
        have H5 : Hid _ := And.intro ws5 (And.intro R5 (And.intro hm5 (And.intro RD5 hs6)))
        clear ws ws4 ws5 R5 hm5 RD5 hcl R4 RX hgr4 hs6
        go_wp2_with (at_builtin; refine wpList_appendE Value.bool (fun _ => rfl) rfl _ _ 37 rfl w4.heap.size 4 i4 (.bool false) 1 Tryz.underlying37 k41 k42 k43 k44 rfl _ 0 [] rfl H5.out.2.2.1 _ lD _ D rfl H5.out.2.2.2.1 (by simp) (by omega) (by decide) H5.out.2.2.2.2 ?_)
        intro v6 w6 q6 hg6
        obtain ⟨ws5, R5, hm5, RD5, hs6⟩ := H5.out
        have B6 : Below w4.heap.size (w4.setCell ⟨g, 3, none⟩ (.slice (some ⟨g4, 0, none⟩) lB c4)) w6 := ((grown_below (World.grownBy_alloc (w4.setCell ⟨g, 3, none⟩ (.slice (some ⟨g4, 0, none⟩) lB c4)) (.cells #[] 4) none)).mono (Nat.le_of_eq hs5.symm)).trans (below_ownE hg6 hm5 hs6)
        have B6' : Below (w4.setCell ⟨g, 3, none⟩ (.slice (some ⟨g4, 0, none⟩) lB c4)).heap.size (w4.setCell ⟨g, 3, none⟩ (.slice (some ⟨g4, 0, none⟩) lB c4)) w6 := by rw [hs5]; exact B6
        have G6 : (w4.setCell ⟨g, 3, none⟩ (.slice (some ⟨g4, 0, none⟩) lB c4)).grownBy w6 none := below_grown B6'
        rw [← hs5] at q6
        obtain ⟨g6, c6, rfl, O6⟩ := own_of q6 G6 (by omega)
        have hg6n := O6.new
        rw [hs5] at hg6n
        have hg4l : g4 < w4.heap.size := by
          obtain ⟨b', off', e', hc'⟩ := R5.cells (by omega)
          injection e' with e'
          injection e' with e1' e2'
          have := cell_lt (hc' 0 (by omega))
          rw [hs5] at this
          omega
        have ws6 := ws5.below (B6.mono hszw4)
        have R6 := R5.below B6'
        have o6 := O6.own0
        have ws7 := ws6.set1 4 (.slice (some ⟨g6, 0, none⟩) lD c6)
        have R7 := R6.far (show g4 ≠ g by omega) 4 (.slice (some ⟨g6, 0, none⟩) lD c6)
        have o7 := o6.far (show g6 ≠ g by omega) 4 (.slice (some ⟨g6, 0, none⟩) lD c6)
        clear c0 c1 c2 c3 c4' c5 c6' c7 c8 c9 f0 f1 f2 f3 f4 f5 f6 f7 f8 f9 cX
        have c4' := ws6.b1.c 4
        have f4 := ws6.b1.f 4
        have H7 : Hid _ := And.intro ws7 (And.intro R7 o7)
        clear H5 ws5 R5 hm5 RD5 B6 B6' G6 q6 hg6 O6 ws6 R6 o6 ws7 o7 R7 hs6
        go_wp2
        obtain ⟨ws7, R7, o7⟩ := H7.out
        generalize (w6.setCell ⟨g, 4, none⟩ (.slice (some ⟨g6, 0, none⟩) lD c6)) = w7 at ws7 R7 o7 ⊢
        clear H7 c4' f4
        rw [← drg_zero D (i * pn) false] at o7
        have H8 : Hid _ := And.intro ws7 (And.intro R7 o7)
        clear ws7 R7 o7
        go_loopw [11] (fun vk wr => ∃ k : Nat, vk = .int .i64 k ∧ k ≤ pn ∧ Hid (WS 42 w wr g [.int .i64 s, .int .i64 pn, .int .i64 bn, .slice (some ⟨g4, 0, none⟩) lB c4, .slice (some ⟨g6, 0, none⟩) lD c6, .slice (some ⟨wb, wof, none⟩) lW cW, .int .i64 (ops + 1), .bool false, .int .i64 af, .slice aT lT cT] [.int .i64 0, .int .i64 0, .int .i64 0, .slice none 0 0, .slice none 0 0, .slice none 0 0, .int .i64 0, .bool false, .int .i64 0, .slice none 0 0] ∧ Row wr (some ⟨g4, 0, none⟩) lB (Bs.take (i * j) ++ (ffs j) ++ Bs.drop (i * j + j)) ∧ Own0 4 wr g6 lD c6 ((drg D (i * pn) false k).map Value.bool))) (fun vk _ => pn - (intOf vk).toNat)
        case atStart => exact ⟨0, rfl, Nat.zero_le _, H8⟩
        case round =>
          clear H8
          obtain ⟨k, rfl, hk, H8⟩ := hrel
          have hlD2 := HR.out.2.1.len_eq
          have ne1 : ¬ g6 = g := by omega
          have ne2 : ¬ g = g6 := by omega
          by_cases hkl : k < pn
          · have c1 : wr.cell? ⟨g, 1, none⟩ = some (.int .i64 pn) := H8.out.1.b1.c 1
            have c4' : wr.cell? ⟨g, 4, none⟩ = some (.slice (some ⟨g6, 0, none⟩) lD c6) := H8.out.1.b1.c 4
            have hst := H8.out.2.2.set (i * pn + k) (.bool false)
            rw [← List.map_set, drg_step false (by omega)] at hst
            obtain ⟨u, hu⟩ : ∃ u, wr.cell? ⟨g6, i * pn + k, none⟩ = some u := by
              have := H8.out.2.2.rowE
              obtain ⟨b', off', e', hc'⟩ := this.cells (by omega)
              injection e' with e'
              injection e' with e1' e2'
              subst e1' e2'
              have hx : (drg D (i * pn) false k)[i * pn + k]? = some ((drg D (i * pn) false k)[i * pn + k]'(by rw [drg_len false (by omega)]; omega)) := List.getElem?_eq_getElem _
              have := hc' _ _ hx
              rw [Nat.zero_add] at this
              exact ⟨_, this⟩
            have fu : wr.frozen? ⟨g6, i * pn + k, none⟩ = false := by
              obtain ⟨cur, h1, _⟩ := H8.out.2.2.cur
              simp [World.frozen?, h1]
            have H9 : Hid _ := And.intro (H8.out.1.farD (show g + 1 + 1 ≤ g6 by omega) (i * pn + k) (.bool false)) (And.intro (H8.out.2.1.far (show g4 ≠ g6 by omega) (i * pn + k) (.bool false)) hst)
            clear H8 hst
            go_wp2
            go_roundw
            case rel => exact ⟨k + 1, by go_num, by omega, H9⟩
            case measure => simp [intOf]; omega
          · have ek : pn = k := by omega
            subst ek
            obtain ⟨ws7, R7, o7⟩ := H8.out
            have c1 : wr.cell? ⟨g, 1, none⟩ = some (.int .i64 pn) := ws7.b1.c 1
            have c5 := ws7.b1.c 5
            have hm8 := madeE wr 3
            have RW8 := (HR.out.2.2.1.grown ws7.gr).grown (World.grownBy_alloc wr (.cells #[] 3) none)
            have cX5 := (ws7.grown (World.grownBy_alloc wr (.cells #[] 3) none)).b1.c 5
            have hs8 : wr.heap.size ≤ (wr.alloc (.cells #[] 3)).heap.size := by simp
            have hszw7 := ws7.sz
            have HM : Hid _ := And.intro hm8 (And.intro RW8 hs8)
            clear ws7 R7 o7 hm8 RW8 hs8
            go_wp2_with (at_builtin; refine wpList_appendE (Value.int .i64) (fun _ => rfl) rfl _ _ 38 rfl wr.heap.size 3 i3 (.int .i64 0) 8 Tryz.underlying38 k31 k32 k33 k34 rfl _ 0 [] rfl HM.out.1 _ lW _ Wn rfl HM.out.2.1 (by simp) (by omega) (by decide) HM.out.2.2 ?_)
            intro v8 w8 q8 hg8
            obtain ⟨ws7, R7, o7⟩ := H8.out
            have B8 : Below wr.heap.size wr w8 := (grown_below (World.grownBy_alloc wr (.cells #[] 3) none)).trans (below_ownE hg8 HM.out.1 HM.out.2.2)
            obtain ⟨g8, c8, rfl, O8⟩ := own_of q8 (below_grown B8) (by omega)
            have hg8n := O8.new
            have hlW2 := HR.out.2.2.1.len_eq
            have ws8 := ws7.below (B8.mono hszw7)
            have R8 := R7.below B8
            have o6l := o7.lt
            have o8 := o7.below B8 o6l
            obtain ⟨wi, hwi⟩ : ∃ wi, Wn[i]? = some wi := ⟨_, List.getElem?_eq_getElem (by omega)⟩
            have hwb := hW wi (List.mem_of_getElem? hwi)
            have ci : w8.cell? ⟨g8, i, none⟩ = some (.int .i64 wi) := by rw [O8.cell i hi, List.getElem?_map, hwi]; rfl
            have fi := O8.frozen i
            have hg4r : g4 < wr.heap.size := by
              obtain ⟨b', off', e', hc'⟩ := R7.cells (by omega)
              injection e' with e'
              injection e' with e1' e2'
              have := cell_lt (hc' 0 (by omega))
              omega
            have ws9 := (ws8.set1 5 (.slice (some ⟨g8, 0, none⟩) lW c8)).farD (show g + 1 + 1 ≤ g8 by omega) i (.int .i64 (wi + 1))
            have R9 := (R8.far (show g4 ≠ g by omega) 5 (.slice (some ⟨g8, 0, none⟩) lW c8)).far (show g4 ≠ g8 by omega) i (.int .i64 (wi + 1))
            have o9 := (o8.far (show g6 ≠ g by omega) 5 (.slice (some ⟨g8, 0, none⟩) lW c8)).far (show g6 ≠ g8 by omega) i (.int .i64 (wi + 1))
            have p9 := (O8.own0.far (show g8 ≠ g by omega) 5 (.slice (some ⟨g8, 0, none⟩) lW c8)).set i (.int .i64 (wi + 1))
            rw [show (Wn.map (Value.int .i64)).set i (.int .i64 (wi + 1)) = (Wn.set i (wi + 1)).map (Value.int .i64) by rw [List.map_set]] at p9
            have ws10 := ws9.store10' (.int .i64 s) (.int .i64 pn) (.int .i64 bn) (.slice (some ⟨g4, 0, none⟩) lB c4) (.slice (some ⟨g6, 0, none⟩) lD c6) (.slice (some ⟨g8, 0, none⟩) lW c8) (.int .i64 (ops + 1)) (.bool false) (.int .i64 af) (.slice aT lT cT)
            have R10 := ((((((((((R9.far (show g4 ≠ g + 1 by omega) 0 (.int .i64 s)).far (show g4 ≠ g + 1 by omega) 1 (.int .i64 pn)).far (show g4 ≠ g + 1 by omega) 2 (.int .i64 bn)).far (show g4 ≠ g + 1 by omega) 3 (.slice (some ⟨g4, 0, none⟩) lB c4)).far (show g4 ≠ g + 1 by omega) 4 (.slice (some ⟨g6, 0, none⟩) lD c6)).far (show g4 ≠ g + 1 by omega) 5 (.slice (some ⟨g8, 0, none⟩) lW c8)).far (show g4 ≠ g + 1 by omega) 6 (.int .i64 (ops + 1))).far (show g4 ≠ g + 1 by omega) 7 (.bool false)).far (show g4 ≠ g + 1 by omega) 8 (.int .i64 af)).far (show g4 ≠ g + 1 by omega) 9 (.slice aT lT cT))
            have o10 := ((((((((((o9.far (show g6 ≠ g + 1 by omega) 0 (.int .i64 s)).far (show g6 ≠ g + 1 by omega) 1 (.int .i64 pn)).far (show g6 ≠ g + 1 by omega) 2 (.int .i64 bn)).far (show g6 ≠ g + 1 by omega) 3 (.slice (some ⟨g4, 0, none⟩) lB c4)).far (show g6 ≠ g + 1 by omega) 4 (.slice (some ⟨g6, 0, none⟩) lD c6)).far (show g6 ≠ g + 1 by omega) 5 (.slice (some ⟨g8, 0, none⟩) lW c8)).far (show g6 ≠ g + 1 by omega) 6 (.int .i64 (ops + 1))).far (show g6 ≠ g + 1 by omega) 7 (.bool false)).far (show g6 ≠ g + 1 by omega) 8 (.int .i64 af)).far (show g6 ≠ g + 1 by omega) 9 (.slice aT lT cT))
            have p10 := ((((((((((p9.far (show g8 ≠ g + 1 by omega) 0 (.int .i64 s)).far (show g8 ≠ g + 1 by omega) 1 (.int .i64 pn)).far (show g8 ≠ g + 1 by omega) 2 (.int .i64 bn)).far (show g8 ≠ g + 1 by omega) 3 (.slice (some ⟨g4, 0, none⟩) lB c4)).far (show g8 ≠ g + 1 by omega) 4 (.slice (some ⟨g6, 0, none⟩) lD c6)).far (show g8 ≠ g + 1 by omega) 5 (.slice (some ⟨g8, 0, none⟩) lW c8)).far (show g8 ≠ g + 1 by omega) 6 (.int .i64 (ops + 1))).far (show g8 ≠ g + 1 by omega) 7 (.bool false)).far (show g8 ≠ g + 1 by omega) 8 (.int .i64 af)).far (show g8 ≠ g + 1 by omega) 9 (.slice aT lT cT))
            have HF : Hid _ := And.intro ws10 (And.intro R10 (And.intro o10.rowE p10.rowE))
            have hWd : wi = Wn.getD i 0 := by rw [List.getD_eq_getElem?_getD, hwi]; rfl
            clear c1 c5 cX5
            obtain ⟨c0, c1, c2, c3, c4', c5, c6', c7, c8', c9⟩ := ws8.b1.c10
            obtain ⟨f0, f1, f2, f3, f4, f5, f6, f7, f8, f9⟩ := ws8.b1.f10
            obtain ⟨z0, z1, z2, z3, z4, z5, z6, z7, z8, z9⟩ := ws8.b2.c10
            obtain ⟨y0, y1, y2, y3, y4, y5, y6, y7, y8, y9⟩ := ws8.b2.f10
            have ne3 : ¬ g8 = g := by omega
            have ne4 : ¬ g = g8 := by omega
            have ne5 : ¬ g8 = g + 1 := by omega
            have ne6 : ¬ g + 1 = g8 := by omega
            have HWd : Hid _ := hWd
            clear H8 HM ws7 R7 o7 B8 q8 hg8 O8 ws8 R8 o8 ws9 R9 o9 p9 ws10 R10 o10 p10 hwi hWd
            go_wp2
            obtain ⟨ws10, R10, D10, P10⟩ := HF.out
            generalize ((((((((((((w8.setCell ⟨g, 5, none⟩ (.slice (some ⟨g8, 0, none⟩) lW c8)).setCell ⟨g8, i, none⟩ (.int .i64 (wi + 1))).setCell ⟨g + 1, 0, none⟩ (.int .i64 s)).setCell ⟨g + 1, 1, none⟩ (.int .i64 pn)).setCell ⟨g + 1, 2, none⟩ (.int .i64 bn)).setCell ⟨g + 1, 3, none⟩ (.slice (some ⟨g4, 0, none⟩) lB c4)).setCell ⟨g + 1, 4, none⟩ (.slice (some ⟨g6, 0, none⟩) lD c6)).setCell ⟨g + 1, 5, none⟩ (.slice (some ⟨g8, 0, none⟩) lW c8)).setCell ⟨g + 1, 6, none⟩ (.int .i64 (ops + 1))).setCell ⟨g + 1, 7, none⟩ (.bool false)).setCell ⟨g + 1, 8, none⟩ (.int .i64 af)).setCell ⟨g + 1, 9, none⟩ (.slice aT lT cT)) = w13 at ws10 R10 D10 P10 ⊢
            clear HF c0 c1 c2 c3 c4' c5 c6' c7 c8' c9 f0 f1 f2 f3 f4 f5 f6 f7 f8 f9 z0 z1 z2 z3 z4 z5 z6 z7 z8 z9 y0 y1 y2 y3 y4 y5 y6 y7 y8 y9 ci fi
            obtain ⟨z0, z1, z2, z3, z4, z5, z6, z7, z8, z9⟩ := ws10.b2.c10
            rw [HWd.out] at P10
            refine bodyPost_ret (v := .tuple #[.agg #[.int .i64 s, .int .i64 pn, .int .i64 bn, .slice (some ⟨g4, 0, none⟩) lB c4, .slice (some ⟨g6, 0, none⟩) lD c6, .slice (some ⟨g8, 0, none⟩) lW c8, .int .i64 (ops + 1), .bool false, .int .i64 af, .slice aT lT cT], .int .i64 0]) (by simp [results, Tryz.results28, go_sem, z0, z1, z2, z3, z4, z5, z6, z7, z8, z9]) rfl ?_
            exact ⟨g4, 0, c4, g6, 0, c6, g8, 0, c8, rfl, by rw [← HY.out]; exact R10, n1, n2, D10, P10, ws10.gr, by have := ws10.eg; omega, by have := ws10.eg; omega, by have := ws10.eg; omega⟩
      · have HY : Hid (Bs.take (i * j) ++ (ovr ((Bs.drop (i * j)).take j) Ts) ++ Bs.drop (i * j + j) = Bn) := by
          show _ = _
          rw [← HB.out]
          have := HE.out.1
          simp at this
          simp [this]
        have wsd : WS 42 w wr.drew g _ _ := ws.grown (⟨rfl, rfl, rfl, Nat.le_refl _, fun _ _ _ => rfl⟩ : wr.grownBy wr.drew none)
        have RPp := (HR.out.1.grown wsd.gr).part (i * j) j hfit
        have hco := over_any (some ⟨bb, bo + i * j, none⟩) j (cB - i * j) ((Bs.drop (i * j)).take j) aT lT cT Ts wr.drew RPp (HR.out.2.2.2.grown wsd.gr) (fun e => by cases e) (by omega) hn0
        obtain ⟨q, hq⟩ : ∃ q, i * j = q := ⟨_, rfl⟩
        rw [hq] at hco
        have hqI : (i : Int) * (j : Int) = (q : Int) := by rw [← hq, Int.natCast_mul]
        have hcne : ¬ cB = q := by omega
        have w1 : IntKind.i64.wrap (q : Int) = (q : Int) := by rw [IntKind.wrap_i64]; omega
        have w2' : IntKind.i64.wrap ((q : Int) + (j : Int)) = (q : Int) + (j : Int) := by rw [IntKind.wrap_i64]; omega
        have p1 : (0 : Int) ≤ (q : Int) := by omega
        have p2 : (q : Int) ≤ (q : Int) + (j : Int) := by omega
        have p3 : (q : Int) + (j : Int) ≤ (cB : Int) := by omega
        have p4 : (q : Int) ≤ (cB : Int) := by omega
        have p5 : ((q : Int) + (j : Int)).toNat = q + j := by omega
        have p6 : q + j - q = j := by omega
        have hsl := fun W => slice_run bb bo lB cB q j W hcne p3
        have HWD : Hid _ := wsd
        have HQq : Hid _ := hq
        clear wsd RPp ws RX c0 c1 c2 c4 c5 c6 c7 c8 hq
        go_wp2_with fail
        go_region_held3 (fun w' => w'.cell? ⟨g, 3, none⟩ = some (.slice (some ⟨bb, bo, none⟩) lB cB) ∧ w'.cell? ⟨g, 9, none⟩ = some (.slice aT lT cT)) (go_keep) ((go_at_call 63; refine hco.mono ?_; rintro e w3b ⟨g3, c3x, rfl, hg3, RXb, n1x, n2x, hgr3⟩; have q1 := (HWD.out.grown hgr3).b1.c 3; have q2 := (HWD.out.grown hgr3).b1.c 9))
        have ws := HWD.out.grown hgr3
        have RX := RXb
        rw [← HQq.out] at RX
        clear hco hqI hcne w1 w2' p1 p2 p3 p4 p5 p6 hsl HWD HQq RXb q1 q2 c3 c9 hgr3
        obtain ⟨c0, c1, c2, c3, c4, c5, c6, c7, c8, c9⟩ := ws.b1.c10
        go_wp2_with fail
        clear c0 c1 c2 c3 c4 c5 c6 c7 c8 c9
        have hcl := lay_any bb bo lB cB (i * j) Bs (some ⟨g3, 0, none⟩) j c3x (ovr ((Bs.drop (i * j)).take j) Ts) _ (HR.out.1.grown ws.gr) RX (fun e => by cases e) hcB hcm hfit hlB (by omega)
        rw [Int.natCast_mul] at hcl
        have hszw3 := ws.sz
        refine hcl.mono ?_
        rintro _ w4 ⟨g4, c4, rfl, hg4, R4, n1, n2, hgr4⟩
        have ws4 := ws.grown hgr4
        have ws5 := ws4.set1 3 (.slice (some ⟨g4, 0, none⟩) lB c4)
        have R5 := R4.far (show g4 ≠ g by omega) 3 (.slice (some ⟨g4, 0, none⟩) lB c4)
        have hm5 := madeE (w4.setCell ⟨g, 3, none⟩ (.slice (some ⟨g4, 0, none⟩) lB c4)) 4
        have hs5 : (w4.setCell ⟨g, 3, none⟩ (.slice (some ⟨g4, 0, none⟩) lB c4)).heap.size = w4.heap.size := by simp [World.setCell]
        have RD5 := (HR.out.2.1.grown ws5.gr).grown (World.grownBy_alloc (w4.setCell ⟨g, 3, none⟩ (.slice (some ⟨g4, 0, none⟩) lB c4)) (.cells #[] 4) none)
        have cX := (ws5.grown (World.grownBy_alloc (w4.setCell ⟨g, 3, none⟩ (.slice (some ⟨g4, 0, none⟩) lB c4)) (.cells #[] 4) none)).b1.c 4
        have hs6 : w4.heap.size ≤ ((w4.setCell ⟨g, 3, none⟩ (.slice (some ⟨g4, 0, none⟩) lB c4)).alloc (.cells #[] 4)).heap.size := by simp [World.setCell]
        obtain ⟨c0, c1, c2, c3, c4', c5, c6', c7, c8, c9⟩ := ws4.b1.c10
        obtain ⟨f0, f1, f2, f3, f4, f5, f6, f7, f8, f9⟩ := ws4.b1.f10
        rw [hs5] at hm5
        have hszw4 := ws4.sz
        have H5 : Hid _ := And.intro ws5 (And.intro R5 (And.intro hm5 (And.intro RD5 hs6)))
        clear ws ws4 ws5 R5 hm5 RD5 hcl R4 RX hgr4 hs6
        go_wp2_with (at_builtin; refine wpList_appendE Value.bool (fun _ => rfl) rfl _ _ 37 rfl w4.heap.size 4 i4 (.bool false) 1 Tryz.underlying37 k41 k42 k43 k44 rfl _ 0 [] rfl H5.out.2.2.1 _ lD _ D rfl H5.out.2.2.2.1 (by simp) (by omega) (by decide) H5.out.2.2.2.2 ?_)
        intro v6 w6 q6 hg6
        obtain ⟨ws5, R5, hm5, RD5, hs6⟩ := H5.out
        have B6 : Below w4.heap.size (w4.setCell ⟨g, 3, none⟩ (.slice (some ⟨g4, 0, none⟩) lB c4)) w6 := ((grown_below (World.grownBy_alloc (w4.setCell ⟨g, 3, none⟩ (.slice (some ⟨g4, 0, none⟩) lB c4)) (.cells #[] 4) none)).mono (Nat.le_of_eq hs5.symm)).trans (below_ownE hg6 hm5 hs6)
        have B6' : Below (w4.setCell ⟨g, 3, none⟩ (.slice (some ⟨g4, 0, none⟩) lB c4)).heap.size (w4.setCell ⟨g, 3, none⟩ (.slice (some ⟨g4, 0, none⟩) lB c4)) w6 := by rw [hs5]; exact B6
        have G6 : (w4.setCell ⟨g, 3, none⟩ (.slice (some ⟨g4, 0, none⟩) lB c4)).grownBy w6 none := below_grown B6'
        rw [← hs5] at q6
        obtain ⟨g6, c6, rfl, O6⟩ := own_of q6 G6 (by omega)
        have hg6n := O6.new
        rw [hs5] at hg6n
        have hg4l : g4 < w4.heap.size := by
          obtain ⟨b', off', e', hc'⟩ := R5.cells (by omega)
          injection e' with e'
          injection e' with e1' e2'
          have := cell_lt (hc' 0 (by omega))
          rw [hs5] at this
          omega
        have ws6 := ws5.below (B6.mono hszw4)
        have R6 := R5.below B6'
        have o6 := O6.own0
        have ws7 := ws6.set1 4 (.slice (some ⟨g6, 0, none⟩) lD c6)
        have R7 := R6.far (show g4 ≠ g by omega) 4 (.slice (some ⟨g6, 0, none⟩) lD c6)
        have o7 := o6.far (show g6 ≠ g by omega) 4 (.slice (some ⟨g6, 0, none⟩) lD c6)
        clear c0 c1 c2 c3 c4' c5 c6' c7 c8 c9 f0 f1 f2 f3 f4 f5 f6 f7 f8 f9 cX
        have c4' := ws6.b1.c 4
        have f4 := ws6.b1.f 4
        have H7 : Hid _ := And.intro ws7 (And.intro R7 o7)
        clear H5 ws5 R5 hm5 RD5 B6 B6' G6 q6 hg6 O6 ws6 R6 o6 ws7 o7 R7 hs6
        go_wp2
        obtain ⟨ws7, R7, o7⟩ := H7.out
        generalize (w6.setCell ⟨g, 4, none⟩ (.slice (some ⟨g6, 0, none⟩) lD c6)) = w7 at ws7 R7 o7 ⊢
        clear H7 c4' f4
        rw [← drg_zero D (i * pn) true] at o7
        have H8 : Hid _ := And.intro ws7 (And.intro R7 o7)
        clear ws7 R7 o7
        go_loopw [11] (fun vk wr => ∃ k : Nat, vk = .int .i64 k ∧ k ≤ pn ∧ Hid (WS 42 w wr g [.int .i64 s, .int .i64 pn, .int .i64 bn, .slice (some ⟨g4, 0, none⟩) lB c4, .slice (some ⟨g6, 0, none⟩) lD c6, .slice (some ⟨wb, wof, none⟩) lW cW, .int .i64 (ops + 1), .bool true, .int .i64 af, .slice aT lT cT] [.int .i64 0, .int .i64 0, .int .i64 0, .slice none 0 0, .slice none 0 0, .slice none 0 0, .int .i64 0, .bool false, .int .i64 0, .slice none 0 0] ∧ Row wr (some ⟨g4, 0, none⟩) lB (Bs.take (i * j) ++ (ovr ((Bs.drop (i * j)).take j) Ts) ++ Bs.drop (i * j + j)) ∧ Own0 4 wr g6 lD c6 ((drg D (i * pn) true k).map Value.bool))) (fun vk _ => pn - (intOf vk).toNat)
        case atStart => exact ⟨0, rfl, Nat.zero_le _, H8⟩
        case round =>
          clear H8
          obtain ⟨k, rfl, hk, H8⟩ := hrel
          have hlD2 := HR.out.2.1.len_eq
          have ne1 : ¬ g6 = g := by omega
          have ne2 : ¬ g = g6 := by omega
          by_cases hkl : k < pn
          · have c1 : wr.cell? ⟨g, 1, none⟩ = some (.int .i64 pn) := H8.out.1.b1.c 1
            have c4' : wr.cell? ⟨g, 4, none⟩ = some (.slice (some ⟨g6, 0, none⟩) lD c6) := H8.out.1.b1.c 4
            have hst := H8.out.2.2.set (i * pn + k) (.bool true)
            rw [← List.map_set, drg_step true (by omega)] at hst
            obtain ⟨u, hu⟩ : ∃ u, wr.cell? ⟨g6, i * pn + k, none⟩ = some u := by
              have := H8.out.2.2.rowE
              obtain ⟨b', off', e', hc'⟩ := this.cells (by omega)
              injection e' with e'
              injection e' with e1' e2'
              subst e1' e2'
              have hx : (drg D (i * pn) true k)[i * pn + k]? = some ((drg D (i * pn) true k)[i * pn + k]'(by rw [drg_len true (by omega)]; omega)) := List.getElem?_eq_getElem _
              have := hc' _ _ hx
              rw [Nat.zero_add] at this
              exact ⟨_, this⟩
            have fu : wr.frozen? ⟨g6, i * pn + k, none⟩ = false := by
              obtain ⟨cur, h1, _⟩ := H8.out.2.2.cur
              simp [World.frozen?, h1]
            have H9 : Hid _ := And.intro (H8.out.1.farD (show g + 1 + 1 ≤ g6 by omega) (i * pn + k) (.bool true)) (And.intro (H8.out.2.1.far (show g4 ≠ g6 by omega) (i * pn + k) (.bool true)) hst)
            clear H8 hst
            go_wp2
            go_roundw
            case rel => exact ⟨k + 1, by go_num, by omega, H9⟩
            case measure => simp [intOf]; omega
          · have ek : pn = k := by omega
            subst ek
            obtain ⟨ws7, R7, o7⟩ := H8.out
            have c1 : wr.cell? ⟨g, 1, none⟩ = some (.int .i64 pn) := ws7.b1.c 1
            have c5 := ws7.b1.c 5
            have hm8 := madeE wr 3
            have RW8 := (HR.out.2.2.1.grown ws7.gr).grown (World.grownBy_alloc wr (.cells #[] 3) none)
            have cX5 := (ws7.grown (World.grownBy_alloc wr (.cells #[] 3) none)).b1.c 5
            have hs8 : wr.heap.size ≤ (wr.alloc (.cells #[] 3)).heap.size := by simp
            have hszw7 := ws7.sz
            have HM : Hid _ := And.intro hm8 (And.intro RW8 hs8)
            clear ws7 R7 o7 hm8 RW8 hs8
            go_wp2_with (at_builtin; refine wpList_appendE (Value.int .i64) (fun _ => rfl) rfl _ _ 38 rfl wr.heap.size 3 i3 (.int .i64 0) 8 Tryz.underlying38 k31 k32 k33 k34 rfl _ 0 [] rfl HM.out.1 _ lW _ Wn rfl HM.out.2.1 (by simp) (by omega) (by decide) HM.out.2.2 ?_)
            intro v8 w8 q8 hg8
            obtain ⟨ws7, R7, o7⟩ := H8.out
            have B8 : Below wr.heap.size wr w8 := (grown_below (World.grownBy_alloc wr (.cells #[] 3) none)).trans (below_ownE hg8 HM.out.1 HM.out.2.2)
            obtain ⟨g8, c8, rfl, O8⟩ := own_of q8 (below_grown B8) (by omega)
            have hg8n := O8.new
            have hlW2 := HR.out.2.2.1.len_eq
            have ws8 := ws7.below (B8.mono hszw7)
            have R8 := R7.below B8
            have o6l := o7.lt
            have o8 := o7.below B8 o6l
            obtain ⟨wi, hwi⟩ : ∃ wi, Wn[i]? = some wi := ⟨_, List.getElem?_eq_getElem (by omega)⟩
            have hwb := hW wi (List.mem_of_getElem? hwi)
            have ci : w8.cell? ⟨g8, i, none⟩ = some (.int .i64 wi) := by rw [O8.cell i hi, List.getElem?_map, hwi]; rfl
            have fi := O8.frozen i
            have hg4r : g4 < wr.heap.size := by
              obtain ⟨b', off', e', hc'⟩ := R7.cells (by omega)
              injection e' with e'
              injection e' with e1' e2'
              have := cell_lt (hc' 0 (by omega))
              omega
            have ws9 := (ws8.set1 5 (.slice (some ⟨g8, 0, none⟩) lW c8)).farD (show g + 1 + 1 ≤ g8 by omega) i (.int .i64 (wi + 1))
            have R9 := (R8.far (show g4 ≠ g by omega) 5 (.slice (some ⟨g8, 0, none⟩) lW c8)).far (show g4 ≠ g8 by omega) i (.int .i64 (wi + 1))
            have o9 := (o8.far (show g6 ≠ g by omega) 5 (.slice (some ⟨g8, 0, none⟩) lW c8)).far (show g6 ≠ g8 by omega) i (.int .i64 (wi + 1))
            have p9 := (O8.own0.far (show g8 ≠ g by omega) 5 (.slice (some ⟨g8, 0, none⟩) lW c8)).set i (.int .i64 (wi + 1))
            rw [show (Wn.map (Value.int .i64)).set i (.int .i64 (wi + 1)) = (Wn.set i (wi + 1)).map (Value.int .i64) by rw [List.map_set]] at p9
            have ws10 := ws9.store10' (.int .i64 s) (.int .i64 pn) (.int .i64 bn) (.slice (some ⟨g4, 0, none⟩) lB c4) (.slice (some ⟨g6, 0, none⟩) lD c6) (.slice (some ⟨g8, 0, none⟩) lW c8) (.int .i64 (ops + 1)) (.bool true) (.int .i64 af) (.slice aT lT cT)
            have R10 := ((((((((((R9.far (show g4 ≠ g + 1 by omega) 0 (.int .i64 s)).far (show g4 ≠ g + 1 by omega) 1 (.int .i64 pn)).far (show g4 ≠ g + 1 by omega) 2 (.int .i64 bn)).far (show g4 ≠ g + 1 by omega) 3 (.slice (some ⟨g4, 0, none⟩) lB c4)).far (show g4 ≠ g + 1 by omega) 4 (.slice (some ⟨g6, 0, none⟩) lD c6)).far (show g4 ≠ g + 1 by omega) 5 (.slice (some ⟨g8, 0, none⟩) lW c8)).far (show g4 ≠ g + 1 by omega) 6 (.int .i64 (ops + 1))).far (show g4 ≠ g + 1 by omega) 7 (.bool true)).far (show g4 ≠ g + 1 by omega) 8 (.int .i64 af)).far (show g4 ≠ g + 1 by omega) 9 (.slice aT lT cT))
            have o10 := ((((((((((o9.far (show g6 ≠ g + 1 by omega) 0 (.int .i64 s)).far (show g6 ≠ g + 1 by omega) 1 (.int .i64 pn)).far (show g6 ≠ g + 1 by omega) 2 (.int .i64 bn)).far (show g6 ≠ g + 1 by omega) 3 (.slice (some ⟨g4, 0, none⟩) lB c4)).far (show g6 ≠ g + 1 by omega) 4 (.slice (some ⟨g6, 0, none⟩) lD c6)).far (show g6 ≠ g + 1 by omega) 5 (.slice (some ⟨g8, 0, none⟩) lW c8)).far (show g6 ≠ g + 1 by omega) 6 (.int .i64 (ops + 1))).far (show g6 ≠ g + 1 by omega) 7 (.bool true)).far (show g6 ≠ g + 1 by omega) 8 (.int .i64 af)).far (show g6 ≠ g + 1 by omega) 9 (.slice aT lT cT))
            have p10 := ((((((((((p9.far (show g8 ≠ g + 1 by omega) 0 (.int .i64 s)).far (show g8 ≠ g + 1 by omega) 1 (.int .i64 pn)).far (show g8 ≠ g + 1 by omega) 2 (.int .i64 bn)).far (show g8 ≠ g + 1 by omega) 3 (.slice (some ⟨g4, 0, none⟩) lB c4)).far (show g8 ≠ g + 1 by omega) 4 (.slice (some ⟨g6, 0, none⟩) lD c6)).far (show g8 ≠ g + 1 by omega) 5 (.slice (some ⟨g8, 0, none⟩) lW c8)).far (show g8 ≠ g + 1 by omega) 6 (.int .i64 (ops + 1))).far (show g8 ≠ g + 1 by omega) 7 (.bool true)).far (show g8 ≠ g + 1 by omega) 8 (.int .i64 af)).far (show g8 ≠ g + 1 by omega) 9 (.slice aT lT cT))
            have HF : Hid _ := And.intro ws10 (And.intro R10 (And.intro o10.rowE p10.rowE))
            have hWd : wi = Wn.getD i 0 := by rw [List.getD_eq_getElem?_getD, hwi]; rfl
            clear c1 c5 cX5
            obtain ⟨c0, c1, c2, c3, c4', c5, c6', c7, c8', c9⟩ := ws8.b1.c10
            obtain ⟨f0, f1, f2, f3, f4, f5, f6, f7, f8, f9⟩ := ws8.b1.f10
            obtain ⟨z0, z1, z2, z3, z4, z5, z6, z7, z8, z9⟩ := ws8.b2.c10
            obtain ⟨y0, y1, y2, y3, y4, y5, y6, y7, y8, y9⟩ := ws8.b2.f10
            have ne3 : ¬ g8 = g := by omega
            have ne4 : ¬ g = g8 := by omega
            have ne5 : ¬ g8 = g + 1 := by omega
            have ne6 : ¬ g + 1 = g8 := by omega
            have HWd : Hid _ := hWd
            clear H8 HM ws7 R7 o7 B8 q8 hg8 O8 ws8 R8 o8 ws9 R9 o9 p9 ws10 R10 o10 p10 hwi hWd
            go_wp2
            obtain ⟨ws10, R10, D10, P10⟩ := HF.out
            generalize ((((((((((((w8.setCell ⟨g, 5, none⟩ (.slice (some ⟨g8, 0, none⟩) lW c8)).setCell ⟨g8, i, none⟩ (.int .i64 (wi + 1))).setCell ⟨g + 1, 0, none⟩ (.int .i64 s)).setCell ⟨g + 1, 1, none⟩ (.int .i64 pn)).setCell ⟨g + 1, 2, none⟩ (.int .i64 bn)).setCell ⟨g + 1, 3, none⟩ (.slice (some ⟨g4, 0, none⟩) lB c4)).setCell ⟨g + 1, 4, none⟩ (.slice (some ⟨g6, 0, none⟩) lD c6)).setCell ⟨g + 1, 5, none⟩ (.slice (some ⟨g8, 0, none⟩) lW c8)).setCell ⟨g + 1, 6, none⟩ (.int .i64 (ops + 1))).setCell ⟨g + 1, 7, none⟩ (.bool true)).setCell ⟨g + 1, 8, none⟩ (.int .i64 af)).setCell ⟨g + 1, 9, none⟩ (.slice aT lT cT)) = w13 at ws10 R10 D10 P10 ⊢
            clear HF c0 c1 c2 c3 c4' c5 c6' c7 c8' c9 f0 f1 f2 f3 f4 f5 f6 f7 f8 f9 z0 z1 z2 z3 z4 z5 z6 z7 z8 z9 y0 y1 y2 y3 y4 y5 y6 y7 y8 y9 ci fi
            obtain ⟨z0, z1, z2, z3, z4, z5, z6, z7, z8, z9⟩ := ws10.b2.c10
            rw [HWd.out] at P10
            refine bodyPost_ret (v := .tuple #[.agg #[.int .i64 s, .int .i64 pn, .int .i64 bn, .slice (some ⟨g4, 0, none⟩) lB c4, .slice (some ⟨g6, 0, none⟩) lD c6, .slice (some ⟨g8, 0, none⟩) lW c8, .int .i64 (ops + 1), .bool true, .int .i64 af, .slice aT lT cT], .int .i64 40]) (by simp [results, Tryz.results28, go_sem, z0, z1, z2, z3, z4, z5, z6, z7, z8, z9]) rfl ?_
            exact ⟨g4, 0, c4, g6, 0, c6, g8, 0, c8, rfl, by rw [← HY.out]; exact R10, n1, n2, D10, P10, ws10.gr, by have := ws10.eg; omega, by have := ws10.eg; omega, by have := ws10.eg; omega⟩
end Go.Proofs.YtfhgbddeclldnaaGreat
