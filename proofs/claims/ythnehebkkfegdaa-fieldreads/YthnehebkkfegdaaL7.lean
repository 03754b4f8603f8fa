/- The walk of FieldWrites, out of the contracts. -/
import Derived.Test.YthnehebkkfegdaaB4
import Derived.Deep.DeepCutAuto
import Derived.Deep.CutBlock
import Derived.Deep.RegionHeld
import Derived.Deep.QuietTactic
import Derived.BigQuiet
import Derived.WalkSmall
namespace Go.Proofs.Ythnehebkkfegdaa
open Go.RowKit
attribute [local go_sem ↓] Go.wp_at_zero Go.wp_at_succ

/-- what holds at the head of each round: the writer at p, the document's in the box q -/
structure WR (w wr : World) (p q : Nat) (most : Int) (s : List Int × Int) (v : Value) (ra : Option Addr) (rl rc : Nat) : Prop where
  win : WInv wr p v s.1 (cut0 most) s.2
  box : SBlk wr q [.slice ra rl rc, .int .i64 most, .int .i64 s.2] 63
  row : Row wr ra rl s.1
  nil : ra = none → rc = 0
  bel : Below w.heap.size w wr
  qp : q ≠ p
  qv : some q ≠ v.ownBlock
  far : ∀ b off, ra = some ⟨b, off, none⟩ → 0 < rl → b ≠ p ∧ some b ≠ v.ownBlock ∧ b ≠ q

theorem wr_bel {w w2 : World} {q : Nat} (h : Below w.heap.size w w2) (hq : w.heap.size ≤ q) (x0 x1 x2 : Value) : Below w.heap.size w (((w2.setCell ⟨q, 0, none⟩ x0).setCell ⟨q, 1, none⟩ x1).setCell ⟨q, 2, none⟩ x2) :=
  ((h.setCell (p := ⟨q, 0, none⟩) hq x0).setCell (p := ⟨q, 1, none⟩) hq x1).setCell (p := ⟨q, 2, none⟩) hq x2
theorem wr_grown (w2 : World) (q : Nat) (x0 x1 x2 : Value) : w2.grownBy (((w2.setCell ⟨q, 0, none⟩ x0).setCell ⟨q, 1, none⟩ x1).setCell ⟨q, 2, none⟩ x2) (some q) :=
  grown_trans (grown_trans (grown_set w2 q 0 x0) (grown_set _ q 1 x1)) (grown_set _ q 2 x2)
theorem WInv.kept {w w' : World} {p q : Nat} {v : Value} {bs : List Int} {most e : Int} (h : WInv w p v bs most e) (hg : w.grownBy w' (some q)) (hp : q ≠ p) (hv : some q ≠ v.ownBlock) : WInv w' p v bs most e :=
  ⟨h.blk.grown hg (by simpa using Ne.symm hp), h.own.kept hg (Or.inr (Ne.symm hv)), h.byt⟩
theorem Row.keptq {w w' : World} {a : Option Addr} {len : Nat} {bs : List Int} {g : Nat} (h : Row w a len bs) (hg : w.grownBy w' (some g)) (hne : ∀ b off, a = some ⟨b, off, none⟩ → 0 < len → b ≠ g) : Row w' a len bs := by
  refine ⟨h.len_eq, h.le, h.byt, fun h0 => ?_⟩
  obtain ⟨b, off, e, hc⟩ := h.cells h0
  refine ⟨b, off, e, fun i hi => ?_⟩
  have hbk := hg.block b (cell_lt (hc i hi)) (by have := hne b off e h0; simpa using this)
  rw [World.cell?_of_block (a := ⟨b, off + i, none⟩) hbk]
  exact hc i hi

/-- behind the document's call: its box holds the new state, the program's writer still the old one -/
structure WM (w wr : World) (p q : Nat) (most : Int) (s t : List Int × Int) (v : Value) (ra : Option Addr) (rl rc : Nat) : Prop where
  win : WInv wr p v s.1 (cut0 most) s.2
  box : SBlk wr q [.slice ra rl rc, .int .i64 most, .int .i64 t.2] 63
  row : Row wr ra rl t.1
  nil : ra = none → rc = 0
  bel : Below w.heap.size w wr
  qp : q ≠ p
  qv : some q ≠ v.ownBlock
  far : ∀ b off, ra = some ⟨b, off, none⟩ → 0 < rl → b ≠ p ∧ some b ≠ v.ownBlock ∧ b ≠ q

theorem wm_of {w wr w2 : World} {p q : Nat} {most : Int} {s t : List Int × Int} {v : Value} {ra a2 : Option Addr} {rl rc l2 k2 : Nat} (hR : WR w wr p q most s v ra rl rc) (hg2 : wr.drew.grownBy w2 none) (R2 : Row w2 a2 l2 t.1) (hn2 : a2 = none → k2 = 0)
    (hf2 : (a2 = ra ∧ l2 = rl) ∨ ∀ b off, a2 = some ⟨b, off, none⟩ → wr.drew.heap.size ≤ b) (hwq : w.heap.size ≤ q) :
    WM w (((w2.setCell ⟨q, 0, none⟩ (.slice a2 l2 k2)).setCell ⟨q, 1, none⟩ (.int .i64 most)).setCell ⟨q, 2, none⟩ (.int .i64 t.2)) p q most s t v a2 l2 k2 := by
  have hb2 : Below w.heap.size w w2 := hR.bel.trans (((Below.refl _ wr).drew.trans (grown_below hg2)).mono hR.bel.size)
  have hBx := hR.box.grown (w := wr.drew) hg2 (by simp)
  have hpl := hR.win.blk.lt
  have hql := hR.box.lt
  have hfar : ∀ b off, a2 = some ⟨b, off, none⟩ → 0 < l2 → b ≠ p ∧ some b ≠ v.ownBlock ∧ b ≠ q := by
    intro b off e h0
    rcases hf2 with ⟨h, hl⟩ | h
    · exact hR.far b off (h ▸ e) (by omega)
    · have hb : wr.heap.size ≤ b := h b off e
      refine ⟨by omega, fun e2 => ?_, by omega⟩
      have := (hR.win.own.lt b e2.symm).2
      omega
  exact ⟨(hR.win.drew.grown hg2).kept (wr_grown _ _ _ _ _) hR.qp hR.qv, ((hBx.set 0 _).set 1 _).set 2 _, R2.keptq (wr_grown _ _ _ _ _) (fun b off e h0 => (hfar b off e h0).2.2), hn2, wr_bel hb2 hwq _ _ _, hR.qp, hR.qv, hfar⟩

theorem Row.chg {w w' : World} {p : Nat} {v v' : Value} {a : Option Addr} {len : Nat} {bs : List Int} (h : Row w a len bs) (hc : Chg w w' p v v') (hne : ∀ b off, a = some ⟨b, off, none⟩ → 0 < len → b ≠ p ∧ some b ≠ v.ownBlock) : Row w' a len bs := by
  refine ⟨h.len_eq, h.le, h.byt, fun h0 => ?_⟩
  obtain ⟨b, off, e, hcc⟩ := h.cells h0
  refine ⟨b, off, e, fun i hi => ?_⟩
  obtain ⟨n1, n2⟩ := hne b off e h0
  rw [World.cell?_of_block (a := ⟨b, off + i, none⟩) (hc.block b (cell_lt (hcc i hi)) n1 n2)]
  exact hcc i hi
theorem wr_of {w wc w2 : World} {p q : Nat} {most : Int} {s t : List Int × Int} {v v2 : Value} {a2 : Option Addr} {l2 k2 : Nat} (hM : WM w wc p q most s t v a2 l2 k2) (hW : WInv w2 p v2 t.1 (cut0 most) t.2) (hC : Chg wc w2 p v v2) (hpw : w.heap.size ≤ p) : WR w w2 p q most t v2 a2 l2 k2 := by
  have hql := hM.box.lt
  have hown : ∀ b, b < wc.heap.size → some b ≠ v.ownBlock → some b ≠ v2.ownBlock := by
    intro b hb h
    rcases hC.own with e | ⟨k, e, hk⟩
    · rw [e]; exact h
    · rw [e]; intro e2; injection e2; omega
  refine ⟨hW, ?_, hM.row.chg hC (fun b off e h0 => ⟨(hM.far b off e h0).1, (hM.far b off e h0).2.1⟩), hM.nil, hM.bel.trans ((hC.below hM.win.own (Nat.le_of_lt hM.win.blk.lt)).mono hpw), hM.qp, hown q hql hM.qv, fun b off e h0 => ⟨(hM.far b off e h0).1, hown b (hM.row.ltw b off e h0) (hM.far b off e h0).2.1, (hM.far b off e h0).2.2⟩⟩
  unfold SBlk
  rw [hC.block q hql hM.qp hM.qv]
  exact hM.box

/-- the first j bytes one greater -/
def inc (bs : List Int) (j : Nat) : List Int := (bs.take j).map (fun b => (b + 1) % 256) ++ bs.drop j
theorem inc_length (bs : List Int) (j : Nat) : (inc bs j).length = bs.length := by simp [inc]; omega
theorem inc_at (bs : List Int) (j : Nat) (h : j < bs.length) : (bv (inc bs j))[j]? = some (.int .u8 (bs.getD j 0)) := by
  rw [bv_getElem? _ _ (by rw [inc_length]; exact h)]
  simp [inc, List.getD_eq_getElem?_getD, List.getElem?_append_right, Nat.min_eq_left (Nat.le_of_lt h)]
theorem inc_step (bs : List Int) (j : Nat) (h : j < bs.length) : (bv (inc bs j)).set j (.int .u8 ((bs.getD j 0 + 1) % 256)) = bv (inc bs (j + 1)) := by
  have e : bv (inc bs j) = bv ((bs.take j).map (fun b => (b + 1) % 256)) ++ bv (bs.drop j) := by simp [inc, bv_append]
  have e2 : bv (inc bs (j + 1)) = bv ((bs.take j).map (fun b => (b + 1) % 256)) ++ (.int .u8 ((bs.getD j 0 + 1) % 256) :: bv (bs.drop (j + 1))) := by
    rw [inc, take_snocI _ _ h]; simp [bv]
  rw [e, e2, List.set_append_right _ _ (by simp [bv]; omega)]
  congr 1
  have e3 : j - (bv ((bs.take j).map (fun b => (b + 1) % 256))).length = 0 := by simp [bv]; omega
  rw [e3, List.drop_eq_getElem_cons h]
  rfl

theorem WR.below {w wc wx : World} {p q : Nat} {most : Int} {s : List Int × Int} {v : Value} {ra : Option Addr} {rl rc : Nat} (h : WR w wc p q most s v ra rl rc) (hb : Below wc.heap.size wc wx) : WR w wx p q most s v ra rl rc :=
  ⟨h.win.grown (below_grown hb), h.box.below hb h.box.lt, h.row.below hb, h.nil, h.bel.trans (hb.mono h.bel.size), h.qp, h.qv, h.far⟩

theorem ckE_vals (v n : Int) : ckE v n = 0 ∨ ckE v n = 1 ∨ ckE v n = 9 := by
  unfold ckE; split <;> (try split) <;> simp
theorem wSt_vals (M : Int) (s : List Int × Int) (A : Ac) (h : s.2 = 0 ∨ s.2 = 1 ∨ s.2 = 2 ∨ s.2 = 9) : (wSt M s A).2 = 0 ∨ (wSt M s A).2 = 1 ∨ (wSt M s A).2 = 2 ∨ (wSt M s A).2 = 9 := by
  unfold wSt
  split
  · unfold wNum
    split
    · exact h
    · split
      · rcases ckE_vals A.v A.n with h1 | h1 | h1 <;> simp [h1]
      · split <;> simp
  · split
    · unfold wByt
      split
      · exact h
      · split <;> simp
    · unfold wTxt
      split
      · exact h
      · split
        · simp
        · split <;> simp
theorem wFold_vals (M : Int) (A : Nat → Ac) (j : Nat) : (wFold M A j).2 = 0 ∨ (wFold M A j).2 = 1 ∨ (wFold M A j).2 = 2 ∨ (wFold M A j).2 = 9 := by
  induction j with
  | zero => simp [wFold]
  | succ j ih => exact wSt_vals M _ _ ih

theorem grown_drewN (w : World) (n : Nat) (row : Option Nat) : w.grownBy (w.drewN n) row := ⟨rfl, rfl, rfl, Nat.le_refl _, fun _ _ _ => rfl⟩
theorem num_q (n : Int) (w : World) : Calls Try.prog 12 #[.int .i64 n] w fun e w' => e = .returned (.int .i64 n) ∧ w' = w := (num_any n w).mono fun _ _ ⟨a, b⟩ => ⟨a, b.symm⟩
theorem wlen_q (p : Nat) (v : Value) (bs : List Int) (most e : Int) (l : Nat) (w : World) (hI : WInv w p v bs most e) (hl : bs.length = l) (n : Nat) :
    Calls Try.prog 34 #[.pointer (some ⟨p, 0, none⟩)] (w.drewN n) fun r w' => r = .returned (.int .i64 l) ∧ w' = w.drewN n := by
  subst hl
  exact (wlen_any p v bs most e (w.drewN n) (hI.grown (grown_drewN w n none))).mono fun _ _ ⟨a, b⟩ => ⟨a, b.symm⟩
theorem below_drewN' (w : World) (n B : Nat) : Below B w (w.drewN n) := ⟨rfl, rfl, rfl, Nat.le_refl _, fun _ _ => rfl⟩

theorem cut0_nonneg (m : Int) : 0 ≤ cut0 m := by unfold cut0; split <;> omega
theorem cut0_le (m : Int) (h : m ≤ 9223372036854775807) : cut0 m ≤ 9223372036854775807 := by unfold cut0; split <;> omega

set_option maxRecDepth 100000 in
set_option maxHeartbeats 1600000 in
theorem writes_try (b off len0 cap0 : Nat) (most : Int) (A : Nat → Ac) (w : World) (hA : ∀ i, i < len0 → ActAt w b off i (A i)) (hm : most ≤ 9223372036854775807) (h : ¬ (100 : Int) < len0) :
    Calls Try.prog 7 #[.int .i64 most, .slice (some ⟨b, off, none⟩) len0 cap0] w fun e w' => e = .returned (.bool true) ∧ Below w.heap.size w w' := by
  have hNW : Calls Try.prog 28 #[.int .i64 most] w fun r w' => r = .returned (.pointer (some ⟨w.heap.size, 0, none⟩)) ∧ WInv w' w.heap.size (.slice none 0 0) [] (cut0 most) 0 ∧ w.grownBy w' none := newwriter_any most w
  go_enter Try.func7, Try.ntmps7
  go_wp2_with (go_at_call 28; refine hNW.mono ?_; rintro e w1 ⟨rfl, hW1, hg1⟩)
  have hst : WR w (w1.alloc (.cells #[.slice none 0 0, .int .i64 most, .int .i64 0] 63)) w.heap.size w1.heap.size most ([], 0) (.slice none 0 0) none 0 0 :=
    ⟨hW1.grown (World.grownBy_alloc w1 _ none), alloc_sblk w1 [.slice none 0 0, .int .i64 most, .int .i64 0] 63, Row.none_of none rfl rfl, fun _ => rfl, grown_below (grown_trans hg1 (World.grownBy_alloc w1 _ none)), by have := hW1.blk.lt; omega, by simp [Value.ownBlock], fun _ _ e => by cases e⟩
  have hwq : w.heap.size ≤ w1.heap.size := hg1.size
  generalize hq : w1.heap.size = q at hst hwq
  have HQ : Hid (w1.heap.size = q) := hq
  clear hq
  go_loopw [7] (fun i wr => ∃ (j : Nat) (v : Value) (ra : Option Addr) (rl rc : Nat), j ≤ len0 ∧ i = .int .i64 j ∧ WR w wr w.heap.size q most (wFold (cut0 most) A j) v ra rl rc ∧ (∀ i, i < j → (A i).xs.length ≤ 70000)) (fun i _ => len0 - (intOf i).toNat)
  case atStart => exact ⟨0, _, _, _, _, Nat.zero_le _, rfl, hst, fun i hi => absurd hi (by omega)⟩
  case round =>
    obtain ⟨j, v, ra, rl, rc, hj, rfl, hR, hKj⟩ := hrel
    by_cases hlt : j < len0
    · have hAj := (hA j hlt).below hR.bel
      have c0 := hAj.c0
      have c1 := hAj.c1
      have c2 := hAj.c2
      have c3 := hAj.c3
      have hj0 : (0 : Int) ≤ j := by omega
      have hj1 : (j : Int) < len0 := by omega
      have hlen := hAj.row.len_eq
      by_cases hL : (70000 : Int) < (A j).len
      · go_wp2_with (go_at_call 9; refine (live_any _).mono ?_; rintro e w' ⟨rfl, hb⟩)
        go_ret
        exact ⟨rfl, hR.bel.trans (Below.mono (by assumption) hR.bel.size)⟩
      · have hb0 := wFold_len (cut0 most) A 70000 j hKj
        have hb1 : (wFold (cut0 most) A j).1.length ≤ 100000000 := Nat.le_trans hb0 (Nat.le_trans (Nat.mul_le_mul_right 70008 (show j ≤ 100 by omega)) (by decide))
        have hrl := hR.row.len_eq
        have hK' : ∀ i, i < j + 1 → (A i).xs.length ≤ 70000 := fun i hi => by
          rcases Nat.lt_or_ge i j with h1 | h1
          · exact hKj i h1
          · obtain rfl : i = j := by omega
            omega
        have HK : Hid (∀ i, i < j + 1 → (A i).xs.length ≤ 70000) := hK'
        have d0 := hR.box.c0
        have d1 := hR.box.c1
        have d2 := hR.box.c2
        have hRW := refwrite_any ra rl rc (wFold (cut0 most) A j) most (A j) wr.drew hR.row.drew' hR.nil hAj.row.drew' hAj.nil (by omega) (by omega) hm hAj.bv.1 hAj.bv.2
        have HE : Hid (wFold (cut0 most) A (j + 1) = wSt (cut0 most) (wFold (cut0 most) A j) (A j)) := rfl
        clear hK' hKj hb0
        go_upto_region 10 with fail
        go_cut [] (fun wx => ∃ a2 l2 k2, WM w wx w.heap.size q most (wFold (cut0 most) A j) (wFold (cut0 most) A (j + 1)) v a2 l2 k2)
        case first =>
          go_region_with (first | (go_at_call 29; refine hRW.mono ?_; rintro e w2 ⟨a2, l2, k2, rfl, R2, hn2, hf2, hg2⟩; have hBx := hR.box.grown (w := wr.drew) hg2 (by simp); have e0 := hBx.c0; have e1 := hBx.c1; have e2 := hBx.c2; have x0 := hBx.frozen 0; have x1 := hBx.frozen 1; have x2 := hBx.frozen 2))
          all_goals
            go_wp2_with fail
            go_meet
            case rel => exact ⟨_, _, _, wm_of hR (by assumption) (by assumption) (by assumption) (by assumption) hwq⟩
        case rest =>
          obtain ⟨a2, l2, k2, hM⟩ := hcut
          clear hRW hR d0 d1 d2
          have hAc := (hA j hlt).below hM.bel
          have c0 := hAc.c0
          have c1 := hAc.c1
          have c2 := hAc.c2
          have c3 := hAc.c3
          have hbl : ∀ b off, (A j).a = some ⟨b, off, none⟩ → 0 < (A j).len → b < w.heap.size := (hA j hlt).row.ltw
          go_upto_block 2 with fail
          go_cut [] (fun wx => ∃ v2, WR w wx w.heap.size q most (wFold (cut0 most) A (j + 1)) v2 a2 l2 k2)
          case first =>
            by_cases hd : (A j).d = 0
            · have HF : Hid (wFold (cut0 most) A (j + 1) = wNum (cut0 most) (wFold (cut0 most) A j) (A j).v (A j).n) := by show _ = _; simp [wFold, wSt, hd]
              rw [hd] at c0
              have hdb : ((A j).d == 0) = true := by simpa using hd
              have hN := wnum_any w.heap.size v (cut0 most) (A j).v (A j).n (wFold (cut0 most) A j) wc.drew hM.win.drew (cut0_nonneg _) (cut0_le _ hm) hb1
              clear hd
              go_wp2
              go_region_held (fun w' => w'.cell? ⟨b, off + j * 4 + 1, none⟩ = some (.int .i64 (A j).n) ∧ w'.cell? ⟨b, off + j * 4 + 2, none⟩ = some (.int .u64 (A j).v)) (first | exact ⟨c1, c2⟩ | exact ⟨q1, q2⟩) (first | (go_at_call 30; refine hN.mono ?_; rintro e w2 ⟨rfl, v2, hW2, hC2⟩; have hC3 := Chg.trans (Chg.of_grown (grown_drew wc none)) hC2; have hb2 : Below w.heap.size w w2 := hM.bel.trans (hC3.below hM.win.own (Nat.le_of_lt hM.win.blk.lt)); have q1 := ((hA j hlt).below hb2).c1; have q2 := ((hA j hlt).below hb2).c2))
              go_wp2_with fail
              go_meet
              case rel => exact ⟨_, wr_of hM (by rw [HF.out]; exact hW2) hC3 (Nat.le_refl _)⟩
            · have hd0 : ((A j).d == 0) = false := by simpa using hd
              by_cases hd1 : (A j).d = 1
              · have HF : Hid (wFold (cut0 most) A (j + 1) = wByt (cut0 most) (wFold (cut0 most) A j) (A j).xs) := by show _ = _; simp [wFold, wSt, hd1]
                have hd1b : ((A j).d == 1) = true := by simpa using hd1
                have hN := wbytes_any w.heap.size v (cut0 most) (wFold (cut0 most) A j) (A j).a (A j).len (A j).cap (A j).xs wc hM.win hAc.row hbl (cut0_nonneg _) (cut0_le _ hm) hb1 (by omega)
                clear hd hd1
                go_wp2_with (go_at_call 31; refine hN.mono ?_; rintro e w2 ⟨rfl, v2, hW2, hC2⟩)
                go_meet
                case rel => exact ⟨_, wr_of hM (by rw [HF.out]; exact hW2) hC2 (Nat.le_refl _)⟩
              · have HF : Hid (wFold (cut0 most) A (j + 1) = wTxt (cut0 most) (wFold (cut0 most) A j) (A j).xs) := by show _ = _; simp [wFold, wSt, hd, hd1]
                have hd1b : ((A j).d == 1) = false := by simpa using hd1
                have hN := wtext_any w.heap.size v (cut0 most) (wFold (cut0 most) A j) (A j).a (A j).len (A j).cap (A j).xs wc hM.win hAc.row hbl (cut0_nonneg _) (cut0_le _ hm) hb1
                clear hd hd1
                go_wp2_with (go_at_call 32; refine hN.mono ?_; rintro e w2 ⟨rfl, v2, hW2, hC2⟩)
                go_meet
                case rel => exact ⟨_, wr_of hM (by rw [HF.out]; exact hW2) hC2 (Nat.le_refl _)⟩
          case rest =>
            obtain ⟨v2, hR2⟩ := hcut
            clear hM hAc c0 c1 c2 c3 hAj hb1
            have hb1 : (wFold (cut0 most) A (j + 1)).1.length ≤ 100000000 := Nat.le_trans (wFold_len (cut0 most) A 70000 (j + 1) HK.out) (Nat.le_trans (Nat.mul_le_mul_right 70008 (show j + 1 ≤ 100 by omega)) (by decide))
            have hvals := wFold_vals (cut0 most) A (j + 1)
            generalize hT : wFold (cut0 most) A (j + 1) = t at *
            have HT : Hid (wFold (cut0 most) A (j + 1) = t) := hT
            clear hT
            have x0 := hR2.box.c0
            have x2 := hR2.box.c2
            have hrl2 := hR2.row.len_eq
            obtain ⟨cvt, hcv, hcr⟩ := cvt_ex
            have HCR : Hid (∀ (w : World) (a : Option Addr) (len cap : Nat) (bs : List Int), Row w a len bs → cvt a len cap w = .ok (.string (strOfNums bs)) w) := hcr
            clear hcr
            rcases hvals with hE | hE | hE | hE
            · have hWd := hR2.win
              rw [hE] at hWd x2
              have hD := wdone_ok w.heap.size v2 t.1 (cut0 most) wc hWd (by omega)
              rw [hrl2] at hD
              have HEq : Hid (t.2 = 0) := hE
              clear hE
              go_wp2_with (go_at_call 33; refine hD.mono ?_; rintro e w3 ⟨rfl, hB3, hg3⟩; have hb3 : Below wc.heap.size wc w3 := grown_below hg3; have hR3 := hR2.below hb3; have y0 := hR3.box.c0; have y2 := hR3.box.c2; rw [HEq.out] at y2)
              have hLn := wlen_q w.heap.size v2 t.1 (cut0 most) t.2 l2 w3 hR3.win hrl2
              have HLn : Hid (∀ n, Calls Try.prog 34 #[.pointer (some ⟨w.heap.size, 0, none⟩)] (w3.drewN n) fun r w' => r = .returned (.int .i64 l2) ∧ w' = w3.drewN n) := hLn
              clear hLn
              have RB : Row w3 (some ⟨wc.heap.size, 0, none⟩) l2 t.1 := by
                have := hB3.row hR2.win.byt (by unfold maxLen; omega)
                rw [hrl2] at this
                exact this
              have kB := fun n => HCR.out (w3.drewN n) _ _ l2 _ (RB.below (below_drewN' _ _ _))
              have kR := fun n => HCR.out (w3.drewN n) _ _ k2 _ (hR3.row.below (below_drewN' _ _ _))
              go_quiet ((first | (go_at_call 12; exact Calls.quiet_of_same (num_q _ _)) | (go_at_call 34; exact Calls.quiet_of_same (HLn.out _))))
              have hb2' : Blk w3 wc.heap.size (bv (inc t.1 0)) := by simpa [inc] using hB3
              have hbyt := hR2.win.byt
              go_wp2_with fail
              go_loopw [10] (fun i wx => ∃ k : Nat, k ≤ l2 ∧ i = .int .i64 k ∧ Blk wx wc.heap.size (bv (inc t.1 k)) ∧ Below wc.heap.size wc wx) (fun i _ => l2 - (intOf i).toNat)
              case atStart => exact ⟨0, Nat.zero_le _, rfl, hb2', hb3.trans (below_drewN' _ _ _)⟩
              case round =>
                obtain ⟨k, hk, rfl, hbk, hgk⟩ := hrel
                by_cases hkl : k < l2
                · have hxc : wr.cell? ⟨wc.heap.size, k, none⟩ = some (.int .u8 (t.1.getD k 0)) := by
                    rw [hbk.cell, inc_at _ _ (by omega)]
                  have hxf := hbk.frozen k
                  have hxr := hbyt.getD k
                  have hk0 : (0 : Int) ≤ k := by omega
                  have hk1 : (k : Int) < l2 := by omega
                  have hset := hbk.set k (.int .u8 ((t.1.getD k 0 + 1) % 256))
                  rw [inc_step t.1 k (by omega)] at hset
                  have HSET : Hid (Blk (wr.setCell ⟨wc.heap.size, k, none⟩ (.int .u8 ((t.1.getD k 0 + 1) % 256))) wc.heap.size (bv (inc t.1 (k + 1)))) := hset
                  clear hset
                  generalize t.1.getD k 0 = x at *
                  go_wp2_with fail
                  go_roundw
                  case rel => exact ⟨k + 1, by omega, by go_num, HSET.out, hgk.setCell (p := ⟨wc.heap.size, k, none⟩) (Nat.le_refl _) _⟩
                  case measure => simp [intOf]; omega
                · go_wp2_with fail
                  go_roundw
                  case rel => exact ⟨j + 1, v2, a2, l2, k2, by omega, by go_num, by rw [HT.out]; exact hR2.below hgk, HK.out⟩
                  case measure => simp [intOf]; omega
            · have hWd := hR2.win
              rw [hE] at hWd x2
              have hD := wdone_bad w.heap.size v2 t.1 (cut0 most) 1 wc hWd (by decide)
              have HEq : Hid (t.2 = 1) := hE
              clear hE
              go_wp2_with (go_at_call 33; refine hD.mono ?_; rintro e w3 ⟨rfl, hg3⟩; have hb3 : Below wc.heap.size wc w3 := grown_below hg3; have hR3 := hR2.below hb3; have y0 := hR3.box.c0; have y2 := hR3.box.c2; rw [HEq.out] at y2)
              have hLn := wlen_q w.heap.size v2 t.1 (cut0 most) t.2 l2 w3 hR3.win hrl2
              have HLn : Hid (∀ n, Calls Try.prog 34 #[.pointer (some ⟨w.heap.size, 0, none⟩)] (w3.drewN n) fun r w' => r = .returned (.int .i64 l2) ∧ w' = w3.drewN n) := hLn
              clear hLn
              go_quiet ((first | (go_at_call 12; exact Calls.quiet_of_same (num_q _ _)) | (go_at_call 34; exact Calls.quiet_of_same (HLn.out _))))
              go_wp2_with fail
              go_loop [10] (fun i => i = .int .i64 0) (fun _ => 0)
              case atStart => rfl
              case round =>
                subst hrel
                go_wp2_with fail
                go_roundw
                case rel => exact ⟨j + 1, v2, a2, l2, k2, by omega, by go_num, by rw [HT.out]; exact hR3.below (below_drewN' _ _ _), HK.out⟩
                case measure => simp [intOf]; omega
            · have hWd := hR2.win
              rw [hE] at hWd x2
              have hD := wdone_bad w.heap.size v2 t.1 (cut0 most) 2 wc hWd (by decide)
              have HEq : Hid (t.2 = 2) := hE
              clear hE
              go_wp2_with (go_at_call 33; refine hD.mono ?_; rintro e w3 ⟨rfl, hg3⟩; have hb3 : Below wc.heap.size wc w3 := grown_below hg3; have hR3 := hR2.below hb3; have y0 := hR3.box.c0; have y2 := hR3.box.c2; rw [HEq.out] at y2)
              have hLn := wlen_q w.heap.size v2 t.1 (cut0 most) t.2 l2 w3 hR3.win hrl2
              have HLn : Hid (∀ n, Calls Try.prog 34 #[.pointer (some ⟨w.heap.size, 0, none⟩)] (w3.drewN n) fun r w' => r = .returned (.int .i64 l2) ∧ w' = w3.drewN n) := hLn
              clear hLn
              go_quiet ((first | (go_at_call 12; exact Calls.quiet_of_same (num_q _ _)) | (go_at_call 34; exact Calls.quiet_of_same (HLn.out _))))
              go_wp2_with fail
              go_loop [10] (fun i => i = .int .i64 0) (fun _ => 0)
              case atStart => rfl
              case round =>
                subst hrel
                go_wp2_with fail
                go_roundw
                case rel => exact ⟨j + 1, v2, a2, l2, k2, by omega, by go_num, by rw [HT.out]; exact hR3.below (below_drewN' _ _ _), HK.out⟩
                case measure => simp [intOf]; omega
            · have hWd := hR2.win
              rw [hE] at hWd x2
              have hD := wdone_bad w.heap.size v2 t.1 (cut0 most) 9 wc hWd (by decide)
              have HEq : Hid (t.2 = 9) := hE
              clear hE
              go_wp2_with (go_at_call 33; refine hD.mono ?_; rintro e w3 ⟨rfl, hg3⟩; have hb3 : Below wc.heap.size wc w3 := grown_below hg3; have hR3 := hR2.below hb3; have y0 := hR3.box.c0; have y2 := hR3.box.c2; rw [HEq.out] at y2)
              have hLn := wlen_q w.heap.size v2 t.1 (cut0 most) t.2 l2 w3 hR3.win hrl2
              have HLn : Hid (∀ n, Calls Try.prog 34 #[.pointer (some ⟨w.heap.size, 0, none⟩)] (w3.drewN n) fun r w' => r = .returned (.int .i64 l2) ∧ w' = w3.drewN n) := hLn
              clear hLn
              go_quiet ((first | (go_at_call 12; exact Calls.quiet_of_same (num_q _ _)) | (go_at_call 34; exact Calls.quiet_of_same (HLn.out _))))
              go_wp2_with fail
              go_loop [10] (fun i => i = .int .i64 0) (fun _ => 0)
              case atStart => rfl
              case round =>
                subst hrel
                go_wp2_with fail
                go_roundw
                case rel => exact ⟨j + 1, v2, a2, l2, k2, by omega, by go_num, by rw [HT.out]; exact hR3.below (below_drewN' _ _ _), HK.out⟩
                case measure => simp [intOf]; omega
    · go_wp2_with (go_at_call 9; refine (live_any _).mono ?_; rintro e w' ⟨rfl, hb⟩)
      go_ret
      exact ⟨rfl, hR.bel.trans (Below.mono (by assumption) hR.bel.size)⟩

set_option maxHeartbeats 800000 in
theorem writes_none (a0 : Option Addr) (cap0 : Nat) (most : Int) (w : World) :
    Calls Try.prog 7 #[.int .i64 most, .slice a0 0 cap0] w fun e w' => e = .returned (.bool true) ∧ Below w.heap.size w w' := by
  have hNW := newwriter_any most w
  go_enter Try.func7, Try.ntmps7
  go_wp2_with (go_at_call 28; refine hNW.mono ?_; rintro e w1 ⟨rfl, hW1, hg1⟩)
  go_loop [7] (fun i => i = .int .i64 0) (fun _ => 0)
  case atStart => rfl
  case round =>
    subst hrel
    go_wp2_with (go_at_call 9; refine (live_any _).mono ?_; rintro e w' ⟨rfl, hb⟩)
    go_ret
    have G := grown_trans hg1 (World.grownBy_alloc w1 (.cells #[.slice none 0 0, .int .i64 most, .int .i64 0] 63) none)
    exact ⟨rfl, (grown_below G).trans (Below.mono (by assumption) G.size)⟩

theorem writes_far (a0 : Option Addr) (len0 cap0 : Nat) (most : Int) (w : World) (h : (100 : Int) < len0) :
    Calls Try.prog 7 #[.int .i64 most, .slice a0 len0 cap0] w fun e w' => e = .returned (.bool true) ∧ Below w.heap.size w w' := by
  go_enter Try.func7, Try.ntmps7
  go_wp2_with (go_at_call 9; refine (live_any _).mono ?_; rintro e w' ⟨rfl, hb⟩)
  go_ret
  exact ⟨rfl, by assumption⟩

theorem fieldWrites_walk (most : Int) (a0 : Option Addr) (len0 cap0 : Nat) (A : Nat → Ac) (w : World) (hm : (Lit.int .i64 most).wf = true) (hA : Acts w a0 len0 A) :
    Calls Try.prog 7 #[.int .i64 most, .slice a0 len0 cap0] w fun e w' => e = .returned (.bool true) ∧ Below w.heap.size w w' := by
  by_cases h : (100 : Int) < len0
  · exact writes_far a0 len0 cap0 most w h
  · rcases Nat.eq_zero_or_pos len0 with rfl | h0
    · exact writes_none a0 cap0 most w
    · obtain ⟨b, off, rfl, hAt⟩ := hA.at_ h0
      exact writes_try b off len0 cap0 most A w hAt (wf_i64 hm).2 h
end Go.Proofs.Ythnehebkkfegdaa
