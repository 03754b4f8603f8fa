/- The program's flash in memory; its Write. The program's Erase. -/
import Derived.BigQuiet
import Derived.Test.YtfhgbddeclldnaaN05
namespace Go.Proofs.Ytfhgbddeclldnaa
open Go.RowKit
set_option maxRecDepth 100000
set_option linter.unusedSimpArgs false
set_option linter.unusedVariables false

/-- the program's flash in the blocks fb (its fields), bb (bytes), db (dirty), wb (worn) is m; its power, what is left, what is torn -/
structure PF (w : World) (fb bb db wb : Nat) (m : Fm) (pw left : Int) (aT : Option Addr) (cT : Nat) (T : List Int) : Prop where
  box : Box w fb 59 [.int .i64 m.s, .int .i64 m.p, .int .i64 m.b, .slice (some ⟨bb, 0, none⟩) m.B.length m.B.length, .slice (some ⟨db, 0, none⟩) m.D.length m.D.length, .slice (some ⟨wb, 0, none⟩) m.W.length m.W.length, .int .i64 m.ops, .int .i64 pw, .int .i64 left, .slice aT T.length cT]
  bs : Box w bb 5 (bv m.B)
  ds : Box w db 4 (m.D.map Value.bool)
  ws : Box w wb 3 (m.W.map (Value.int .i64))
  byt : Byt m.B
  row : Row w aT T.length T
  n1 : fb ≠ bb
  n2 : fb ≠ db
  n3 : fb ≠ wb
  n4 : bb ≠ db
  n5 : bb ≠ wb
  n6 : db ≠ wb
  nT : ∀ tb o, aT = some ⟨tb, o, none⟩ → tb ≠ fb ∧ tb ≠ bb ∧ tb ≠ db ∧ tb ≠ wb
/-- where none of its blocks was written it stands -/
theorem PF.far {w w' : World} {fb bb db wb : Nat} {m : Fm} {pw left : Int} {aT : Option Addr} {cT : Nat} {T : List Int} {F : Nat → Prop} (h : PF w fb bb db wb m pw left aT cT T) (hc : Chg F w w') (h1 : ¬ F fb) (h2 : ¬ F bb) (h3 : ¬ F db) (h4 : ¬ F wb) (h5 : ∀ tb o, aT = some ⟨tb, o, none⟩ → ¬ F tb) : PF w' fb bb db wb m pw left aT cT T :=
  ⟨hc.box h.box h1, hc.box h.bs h2, hc.box h.ds h3, hc.box h.ws h4, h.byt, hc.row h.row h5, h.n1, h.n2, h.n3, h.n4, h.n5, h.n6, h.nT⟩
theorem PF.still {w w' : World} {fb bb db wb : Nat} {m : Fm} {pw left : Int} {aT : Option Addr} {cT : Nat} {T : List Int} (h : PF w fb bb db wb m pw left aT cT T) (hc : Chg (fun _ => False) w w') : PF w' fb bb db wb m pw left aT cT T := h.far hc id id id id fun _ _ _ => id
theorem PF.drewN {w : World} {fb bb db wb : Nat} {m : Fm} {pw left : Int} {aT : Option Addr} {cT : Nat} {T : List Int} (h : PF w fb bb db wb m pw left aT cT T) (n : Nat) : PF (w.drewN n) fb bb db wb m pw left aT cT T := h.still ((Chg.refl _ w).drewN n)
def foot (fb bb db wb k : Nat) : Prop := k = fb ∨ k = bb ∨ k = db ∨ k = wb

set_option maxHeartbeats 1000000 in
theorem pwrite_range {w : World} {fb bb db wb : Nat} {m : Fm} {pw left : Int} {aT : Option Addr} {cT : Nat} {T : List Int} {k : Nat} (h : PF w fb bb db wb m pw left aT cT T) (hg : m.Good k) (page : Int) (v : Value) (hp : inL m.D.length page = false) :
    Calls Try.prog 52 #[.pointer (some ⟨fb, 0, none⟩), .int .i64 page, v] w fun e w' => e = .returned (.int .i64 9) ∧ ∃ n, w' = w.drewN n := by
  have hsp := hg.sp
  have hlD := hg.lD
  have c4 : w.cell? ⟨fb, 4, none⟩ = some (.slice (some ⟨db, 0, none⟩) m.D.length m.D.length) := h.box.c 4
  have hc := haspage_any fb _ _ _ page w c4 (by omega)
  rw [hp] at hc
  clear h hlD hg hsp
  go_enter Try.func52, Try.ntmps52
  go_wp2_with (go_at_call 69; refine hc.mono ?_; rintro e w' ⟨rfl, rfl⟩)
  go_ret
  exact ⟨rfl, 0, rfl⟩
set_option maxHeartbeats 1000000 in
theorem pwrite_long {w : World} {fb bb db wb : Nat} {m : Fm} {pw left : Int} {aT : Option Addr} {cT : Nat} {T : List Int} {k : Nat} (h : PF w fb bb db wb m pw left aT cT T) (hg : m.Good k) (page : Int) (a2 : Option Addr) (l2 c2 : Nat) (hp : inL m.D.length page = true) (hl : m.b < l2) (hm : l2 ≤ maxLen) :
    Calls Try.prog 52 #[.pointer (some ⟨fb, 0, none⟩), .int .i64 page, .slice a2 l2 c2] w fun e w' => e = .returned (.int .i64 2) ∧ ∃ n, w' = w.drewN n := by
  have hsp := hg.sp
  have hlD := hg.lD
  have c4 : w.cell? ⟨fb, 4, none⟩ = some (.slice (some ⟨db, 0, none⟩) m.D.length m.D.length) := h.box.c 4
  have c2' : w.cell? ⟨fb, 2, none⟩ = some (.int .i64 m.b) := h.box.c 2
  have hc := haspage_any fb _ _ _ page w c4 (by omega)
  rw [hp] at hc
  unfold maxLen at hm
  clear h hlD hg hsp c4
  go_enter Try.func52, Try.ntmps52
  go_wp2_with (go_at_call 69; refine hc.mono ?_; rintro e w' ⟨rfl, rfl⟩)
  go_ret
  exact ⟨rfl, 0, rfl⟩
set_option maxHeartbeats 1000000 in
theorem pwrite_dirty {w : World} {fb bb db wb : Nat} {m : Fm} {pw left : Int} {aT : Option Addr} {cT : Nat} {T : List Int} {k : Nat} (h : PF w fb bb db wb m pw left aT cT T) (hg : m.Good k) (i : Nat) (a2 : Option Addr) (l2 c2 : Nat) (hi : i < m.D.length) (hl : l2 ≤ m.b) (hpw : (pw != 0) = true) (hd : m.D[i]? = some true) :
    Calls Try.prog 52 #[.pointer (some ⟨fb, 0, none⟩), .int .i64 i, .slice a2 l2 c2] w fun e w' => e = .returned (.int .i64 41) ∧ ∃ n, w' = w.drewN n := by
  have hsp := hg.sp
  have hlD := hg.lD
  have hgb := hg.b
  have c4 : w.cell? ⟨fb, 4, none⟩ = some (.slice (some ⟨db, 0, none⟩) m.D.length m.D.length) := h.box.c 4
  have c2' : w.cell? ⟨fb, 2, none⟩ = some (.int .i64 m.b) := h.box.c 2
  have c7 : w.cell? ⟨fb, 7, none⟩ = some (.int .i64 pw) := h.box.c 7
  have cd : w.cell? ⟨db, i, none⟩ = some (.bool true) := by rw [h.ds.c i, List.getElem?_map, hd]; rfl
  have hc := haspage_any fb _ _ _ (i : Int) w c4 (by omega)
  rw [inL_nat hi] at hc
  have ho := on_any fb pw w c7
  rw [hpw] at ho
  clear h hlD hg hsp hd c7 hpw
  go_enter Try.func52, Try.ntmps52
  go_wp2_with (first | (go_at_call 69; refine hc.mono ?_; rintro e w' ⟨rfl, rfl⟩) | (go_at_call 13; refine ho.mono ?_; rintro e w' ⟨rfl, rfl⟩))
  go_ret
  exact ⟨rfl, 0, rfl⟩
theorem quiet_eq {P : Program} {f : FuncId} {args : Array Value} {w : World} {n : Nat} {v : Value} (h : Calls P f args (w.drewN n) fun e w' => e = .returned v ∧ w.drewN n = w') : Calls P f args (w.drewN n) fun e w'' => e = .returned v ∧ ∃ m, w'' = w.drewN m :=
  h.mono fun _ _ ⟨he, hm⟩ => ⟨he, n, hm.symm⟩
theorem PF.of_eq {w : World} {fb bb db wb : Nat} {m m' : Fm} {pw left : Int} {aT : Option Addr} {cT : Nat} {T : List Int} (h : PF w fb bb db wb m pw left aT cT T) (e1 : m'.s = m.s) (e2 : m'.p = m.p) (e3 : m'.b = m.b) (e4 : m'.B = m.B) (e5 : m'.D = m.D) (e6 : m'.W = m.W) (e7 : m'.ops = m.ops) : PF w fb bb db wb m' pw left aT cT T := by
  cases m; cases m'
  simp only at e1 e2 e3 e4 e5 e6 e7
  subst e1 e2 e3 e4 e5 e6 e7
  exact ⟨h.box, h.bs, h.ds, h.ws, h.byt, h.row, h.n1, h.n2, h.n3, h.n4, h.n5, h.n6, h.nT⟩
theorem byt_lay {B X : List Int} {a b : Nat} (h : Byt B) (k : Byt X) : Byt (B.take a ++ X ++ B.drop b) := ((h.take _).append k).append (h.drop _)
set_option maxHeartbeats 2000000 in
theorem pwrite_off {w : World} {fb bb db wb : Nat} {m : Fm} {left : Int} {aT : Option Addr} {cT : Nat} {T : List Int} {k : Nat} (h : PF w fb bb db wb m 0 left aT cT T) (hg : m.Good k) (i : Nat) (a2 : Option Addr) (l2 c2 : Nat) (hi : i < m.D.length) (hl : l2 ≤ m.b) :
    Calls Try.prog 52 #[.pointer (some ⟨fb, 0, none⟩), .int .i64 i, .slice a2 l2 c2] w fun e w' => e = .returned (.int .i64 40) ∧ ∃ n, w' = w.drewN n := by
  have hsp := hg.sp
  have hspb := hg.spb
  have hlD := hg.lD
  have hlB := hg.lB
  have hgb := hg.b
  have hf := mul_fit (b := m.b) (show i < m.s * m.p from hlD ▸ hi)
  have c3 : w.cell? ⟨fb, 3, none⟩ = some (.slice (some ⟨bb, 0, none⟩) m.B.length m.B.length) := h.box.c 3
  have c4 : w.cell? ⟨fb, 4, none⟩ = some (.slice (some ⟨db, 0, none⟩) m.D.length m.D.length) := h.box.c 4
  have c2' : w.cell? ⟨fb, 2, none⟩ = some (.int .i64 m.b) := h.box.c 2
  have c7 : w.cell? ⟨fb, 7, none⟩ = some (.int .i64 0) := h.box.c 7
  have hc := haspage_any fb _ _ _ (i : Int) w c4 (by omega)
  rw [inL_nat hi] at hc
  have ho := on_any fb 0 w c7
  have hP : ∀ W, _ := fun W => pieceb_any bb m.B.length i m.b (i * m.b) W rfl (by omega) hgb.1 (by omega) (by omega)
  have HP : Hid _ := hP
  have HH : Hid _ := h
  clear h hlD hg hsp hspb hlB hf c4 c7 hP
  go_enter Try.func52, Try.ntmps52
  go_wp2_with (first | (go_at_call 69; refine hc.mono ?_; rintro e w' ⟨rfl, rfl⟩) | (go_at_call 13; refine ho.mono ?_; rintro e w' ⟨rfl, rfl⟩))
  go_quiet (first | (go_at_call 64; exact quiet_eq (HP.out _)))
  go_wp2_with fail
  refine (step_off fb _ _ _ _ _ _ _ _ _ _ (HH.out.drewN _).box).mono ?_
  rintro e w1 ⟨rfl, rfl⟩
  go_wp2
  go_ret
  exact ⟨rfl, _, rfl⟩
set_option maxHeartbeats 2000000 in
theorem pwrite_done {w : World} {fb bb db wb : Nat} {m : Fm} {pw left pw' left' : Int} {aT : Option Addr} {cT : Nat} {T : List Int} {k : Nat} (h : PF w fb bb db wb m pw left aT cT T) (hg : m.Good k) (i : Nat) (a2 : Option Addr) (c2 : Nat) (ys : List Int) (hi : i < m.D.length) (hl : ys.length ≤ m.b) (hpw : (pw != 0) = true) (hd : m.D[i]? = some false) (RY : Row w a2 ys.length ys) (hY : ∀ b o, a2 = some ⟨b, o, none⟩ → 0 < ys.length → b ≠ fb)
    (hS : ∀ W x0 x1 x2 x3 x4 x5 x9, Box W fb 59 [x0, x1, x2, x3, x4, x5, .int .i64 m.ops, .int .i64 pw, .int .i64 left, x9] → Calls Try.prog 66 #[.pointer (some ⟨fb, 0, none⟩)] W fun e w' => e = .returned (.int .i64 1) ∧ Fd W w' fb 59 [x0, x1, x2, x3, x4, x5, .int .i64 (m.ops + 1), .int .i64 pw', .int .i64 left', x9]) :
    Calls Try.prog 52 #[.pointer (some ⟨fb, 0, none⟩), .int .i64 i, .slice a2 ys.length c2] w fun e w' => e = .returned (.int .i64 0) ∧ Chg (foot fb bb db wb) w w' ∧ PF w' fb bb db wb { m with B := m.B.take (i * m.b) ++ (ys ++ ffs (m.b - ys.length)) ++ m.B.drop (i * m.b + m.b), D := m.D.set i true, ops := m.ops + 1 } pw' left' aT cT T := by
  have hsp := hg.sp
  have hspb := hg.spb
  have hlD := hg.lD
  have hlB := hg.lB
  have hgb := hg.b
  have hf := mul_fit (b := m.b) (show i < m.s * m.p from hlD ▸ hi)
  have c3 : w.cell? ⟨fb, 3, none⟩ = some (.slice (some ⟨bb, 0, none⟩) m.B.length m.B.length) := h.box.c 3
  have c4 : w.cell? ⟨fb, 4, none⟩ = some (.slice (some ⟨db, 0, none⟩) m.D.length m.D.length) := h.box.c 4
  have c2' : w.cell? ⟨fb, 2, none⟩ = some (.int .i64 m.b) := h.box.c 2
  have c7 : w.cell? ⟨fb, 7, none⟩ = some (.int .i64 pw) := h.box.c 7
  have cd : w.cell? ⟨db, i, none⟩ = some (.bool false) := by rw [h.ds.c i, List.getElem?_map, hd]; rfl
  have hc := haspage_any fb _ _ _ (i : Int) w c4 (by omega)
  rw [inL_nat hi] at hc
  have ho := on_any fb pw w c7
  rw [hpw] at ho
  have hP : ∀ W, _ := fun W => pieceb_any bb m.B.length i m.b (i * m.b) W rfl (by omega) hgb.1 (by omega) (by omega)
  have HP : Hid _ := hP
  have HH : Hid _ := h
  have HS : Hid _ := hS
  have HY : Hid _ := And.intro RY hY
  have HD : Hid _ := And.intro hg (And.intro hsp (And.intro hspb (And.intro hlB hf)))
  clear h hlD hg hsp hspb hlB hf c7 hP hS RY hY hpw hd
  go_enter Try.func52, Try.ntmps52
  go_wp2_with (first | (go_at_call 69; refine hc.mono ?_; rintro e w' ⟨rfl, rfl⟩) | (go_at_call 13; refine ho.mono ?_; rintro e w' ⟨rfl, rfl⟩))
  go_quiet (first | (go_at_call 64; exact quiet_eq (HP.out _)))
  go_wp2_with fail
  have h0 := HH.out.drewN nq
  refine (HS.out _ _ _ _ _ _ _ _ h0.box).mono ?_
  rintro e w1 ⟨rfl, hF1⟩
  have hC1 : Chg (fun k => k = fb) (w.drewN nq) w1 := hF1.chg rfl
  have hCd : Chg (fun k => k = fb) w (w.drewN nq) := (Chg.refl _ w).drewN nq
  obtain ⟨hg, hsp, hspb, hlB, hf⟩ := HD.out
  obtain ⟨RY, hY⟩ := HY.out
  have hL := play_any fb bb db (i * m.b) m.b (m.B.length - i * m.b) i m.B m.D m.D.length _ _ _ _ _ _ _ _ _ a2 c2 ys w1 hF1.box (hC1.box h0.bs (Ne.symm h0.n1)) (hC1.box h0.ds (Ne.symm h0.n2)) h0.n1 h0.n4 ((hCd.trans hC1).row' RY hY) (by omega) hl (by omega) (by omega) hi
  have HL : Hid _ := And.intro hF1 (And.intro hC1 (And.intro hCd h0))
  clear hF1 hC1 hCd h0 hg hsp hspb hlB hf RY hY c2' c3 c4 cd hc ho HP HS
  go_wp2_with fail
  with_reducible refine hL.mono ?_
  rintro e w2 ⟨rfl, hb2, hd2, hC2⟩
  go_wp2
  go_ret
  obtain ⟨hF1, hC1, hCd, h0⟩ := HL.out
  obtain ⟨hg, hsp, hspb, hlB, hf⟩ := HD.out
  have hlen : (m.B.take (i * m.b) ++ (ys ++ ffs (m.b - ys.length)) ++ m.B.drop (i * m.b + m.b)).length = m.B.length := by simp [ffs]; omega
  have hw2 := hC2.box (hC1.box h0.ws (Ne.symm h0.n3)) (by simp only [not_or]; exact ⟨Ne.symm h0.n5, Ne.symm h0.n6⟩)
  have hf2 := hC2.box hF1.box (by simp only [not_or]; exact ⟨h0.n1, h0.n2⟩)
  have hr2 := hC2.row (hC1.row h0.row fun b o e => (h0.nT b o e).1) (fun b o e => by simp only [not_or]; exact ⟨(h0.nT b o e).2.1, (h0.nT b o e).2.2.1⟩)
  refine ⟨rfl, ((hCd.mono fun k e => Or.inl e).trans (hC1.mono fun k e => Or.inl e)).trans (hC2.mono fun k e => match e with | .inl x => .inr (.inl x) | .inr x => .inr (.inr (.inl x))), ⟨?_, hb2, hd2, hw2, byt_lay h0.byt (HY.out.1.byt.append (ffs_byt _)), hr2, h0.n1, h0.n2, h0.n3, h0.n4, h0.n5, h0.n6, h0.nT⟩⟩
  simp only [hlen, List.length_set]
  exact hf2
/-- what is torn lies over what was laid -/
theorem tear_page {B X T : List Int} {lo n : Nat} (hX : X.length = n) (hfit : lo + n ≤ B.length) : (B.take lo ++ X ++ B.drop (lo + n)).take lo ++ T.take n ++ (B.take lo ++ X ++ B.drop (lo + n)).drop (lo + (T.take n).length) = B.take lo ++ ovr X T ++ B.drop (lo + n) := by
  have e1 : (B.take lo ++ X ++ B.drop (lo + n)).take lo = B.take lo := by
    rw [List.append_assoc, List.take_append_of_le_length (by simp; omega), List.take_of_length_le (by simp; omega)]
  have hl : (B.take lo).length = lo := by simp; omega
  have e2 : (B.take lo ++ X ++ B.drop (lo + n)).drop (lo + (T.take n).length) = X.drop T.length ++ B.drop (lo + n) := by
    have e0 : (B.take lo ++ (X ++ B.drop (lo + n))).drop lo = X ++ B.drop (lo + n) := by
      have := List.drop_left (l₁ := B.take lo) (l₂ := X ++ B.drop (lo + n))
      rwa [hl] at this
    rw [List.append_assoc, ← List.drop_drop, e0]
    have hm : (T.take n).length ≤ X.length := by simp; omega
    rw [List.drop_append, show (T.take n).length - X.length = 0 by omega, List.drop_zero]
    congr 1
    rcases Nat.lt_or_ge n T.length with h | h
    · rw [List.drop_eq_nil_of_le (by simp; omega), List.drop_eq_nil_of_le (by omega)]
    · rw [List.take_of_length_le h]
  rw [e1, e2]
  unfold ovr
  rw [hX]
  simp
theorem ovr_take {X T : List Int} {n : Nat} (h : X.length ≤ n) : ovr X (T.take n) = ovr X T := by
  unfold ovr
  rw [List.take_take, Nat.min_eq_left h]
  congr 1
  rcases Nat.lt_or_ge n T.length with h' | h'
  · rw [List.drop_eq_nil_of_le (by simp; omega), List.drop_eq_nil_of_le (by omega)]
  · rw [List.take_of_length_le h']
set_option maxHeartbeats 2000000 in
theorem pwrite_torn {w : World} {fb bb db wb : Nat} {m : Fm} {pw left : Int} {aT : Option Addr} {cT : Nat} {T : List Int} {k : Nat} (h : PF w fb bb db wb m pw left aT cT T) (hg : m.Good k) (i : Nat) (a2 : Option Addr) (c2 : Nat) (ys : List Int) (hi : i < m.D.length) (hl : ys.length ≤ m.b) (hpw : (pw != 0) = true) (hd : m.D[i]? = some false) (RY : Row w a2 ys.length ys) (hY : ∀ b o, a2 = some ⟨b, o, none⟩ → 0 < ys.length → b ≠ fb)
    (hS : ∀ W x0 x1 x2 x3 x4 x5 x9, Box W fb 59 [x0, x1, x2, x3, x4, x5, .int .i64 m.ops, .int .i64 pw, .int .i64 left, x9] → Calls Try.prog 66 #[.pointer (some ⟨fb, 0, none⟩)] W fun e w' => e = .returned (.int .i64 2) ∧ Fd W w' fb 59 [x0, x1, x2, x3, x4, x5, .int .i64 (m.ops + 1), .int .i64 0, .int .i64 0, x9]) :
    Calls Try.prog 52 #[.pointer (some ⟨fb, 0, none⟩), .int .i64 i, .slice a2 ys.length c2] w fun e w' => e = .returned (.int .i64 40) ∧ Chg (foot fb bb db wb) w w' ∧ PF w' fb bb db wb { m with B := m.B.take (i * m.b) ++ ovr (ys ++ ffs (m.b - ys.length)) T ++ m.B.drop (i * m.b + m.b), D := m.D.set i true, ops := m.ops + 1 } 0 0 none 0 [] := by
  have hsp := hg.sp
  have hspb := hg.spb
  have hlD := hg.lD
  have hlB := hg.lB
  have hgb := hg.b
  have hf := mul_fit (b := m.b) (show i < m.s * m.p from hlD ▸ hi)
  have c3 : w.cell? ⟨fb, 3, none⟩ = some (.slice (some ⟨bb, 0, none⟩) m.B.length m.B.length) := h.box.c 3
  have c4 : w.cell? ⟨fb, 4, none⟩ = some (.slice (some ⟨db, 0, none⟩) m.D.length m.D.length) := h.box.c 4
  have c2' : w.cell? ⟨fb, 2, none⟩ = some (.int .i64 m.b) := h.box.c 2
  have c7 : w.cell? ⟨fb, 7, none⟩ = some (.int .i64 pw) := h.box.c 7
  have cd : w.cell? ⟨db, i, none⟩ = some (.bool false) := by rw [h.ds.c i, List.getElem?_map, hd]; rfl
  have hc := haspage_any fb _ _ _ (i : Int) w c4 (by omega)
  rw [inL_nat hi] at hc
  have ho := on_any fb pw w c7
  rw [hpw] at ho
  have hP : ∀ W, _ := fun W => pieceb_any bb m.B.length i m.b (i * m.b) W rfl (by omega) hgb.1 (by omega) (by omega)
  have HP : Hid _ := hP
  have HH : Hid _ := h
  have HS : Hid _ := hS
  have HY : Hid _ := And.intro RY hY
  have HD : Hid _ := And.intro hg (And.intro hsp (And.intro hspb (And.intro hlB hf)))
  clear h hlD hg hsp hspb hlB hf c7 hP hS RY hY hpw hd
  go_enter Try.func52, Try.ntmps52
  go_wp2_with (first | (go_at_call 69; refine hc.mono ?_; rintro e w' ⟨rfl, rfl⟩) | (go_at_call 13; refine ho.mono ?_; rintro e w' ⟨rfl, rfl⟩))
  go_quiet (first | (go_at_call 64; exact quiet_eq (HP.out _)))
  go_wp2_with fail
  have h0 := HH.out.drewN nq
  refine (HS.out _ _ _ _ _ _ _ _ h0.box).mono ?_
  rintro e w1 ⟨rfl, hF1⟩
  have hC1 : Chg (fun k => k = fb) (w.drewN nq) w1 := hF1.chg rfl
  have hCd : Chg (fun k => k = fb) w (w.drewN nq) := (Chg.refl _ w).drewN nq
  obtain ⟨hg, hsp, hspb, hlB, hf⟩ := HD.out
  obtain ⟨RY, hY⟩ := HY.out
  have hL := play_any fb bb db (i * m.b) m.b (m.B.length - i * m.b) i m.B m.D m.D.length _ _ _ _ _ _ _ _ _ a2 c2 ys w1 hF1.box (hC1.box h0.bs (Ne.symm h0.n1)) (hC1.box h0.ds (Ne.symm h0.n2)) h0.n1 h0.n4 ((hCd.trans hC1).row' RY hY) (by omega) hl (by omega) (by omega) hi
  have HL : Hid _ := And.intro hF1 (And.intro hC1 (And.intro hCd h0))
  clear hF1 hC1 hCd h0 hg hsp hspb hlB hf RY hY c2' c3 c4 cd hc ho HP HS
  go_wp2_with fail
  with_reducible refine hL.mono ?_
  rintro e w2 ⟨rfl, hb2, hd2, hC2⟩
  obtain ⟨hF1, hC1, hCd, h0⟩ := HL.out
  obtain ⟨hg, hsp, hspb, hlB, hf⟩ := HD.out
  have hlen : (m.B.take (i * m.b) ++ (ys ++ ffs (m.b - ys.length)) ++ m.B.drop (i * m.b + m.b)).length = m.B.length := by simp [ffs]; omega
  have hw2 := hC2.box (hC1.box h0.ws (Ne.symm h0.n3)) (by simp only [not_or]; exact ⟨Ne.symm h0.n5, Ne.symm h0.n6⟩)
  have hf2 := hC2.box hF1.box (by simp only [not_or]; exact ⟨h0.n1, h0.n2⟩)
  have hr2 := hC2.row (hC1.row h0.row fun b o e => (h0.nT b o e).1) (fun b o e => by simp only [not_or]; exact ⟨(h0.nT b o e).2.1, (h0.nT b o e).2.2.1⟩)
  have hT := tear_any fb bb (i * m.b) m.b (m.B.length - i * m.b) _ _ _ _ _ _ _ _ _ _ aT cT T w2 hf2 hb2 h0.n1 hr2 (by rw [hlen]; omega)
  have HT : Hid _ := And.intro hC2 (And.intro hd2 hw2)
  clear hF1 hC1 hCd h0 hg hsp hspb hlB hf hw2 hf2 hr2 hL hb2 hd2 hC2 hlen
  go_wp2_with fail
  with_reducible refine hT.mono ?_
  rintro e w3 ⟨rfl, hf3, hb3, hC3⟩
  go_wp2
  go_ret
  obtain ⟨hF1, hC1, hCd, h0⟩ := HL.out
  obtain ⟨hg, hsp, hspb, hlB, hf⟩ := HD.out
  obtain ⟨hC2, hd2, hw2⟩ := HT.out
  rw [tear_page (by simp [ffs]; omega) (by omega)] at hb3
  have hlen : (m.B.take (i * m.b) ++ ovr (ys ++ ffs (m.b - ys.length)) T ++ m.B.drop (i * m.b + m.b)).length = m.B.length := by simp only [List.length_append, ovr_len, List.length_take, List.length_drop]; simp [ffs]; omega
  have hd3 := hC3.box hd2 (by simp only [not_or]; exact ⟨Ne.symm h0.n2, Ne.symm h0.n4⟩)
  have hw3 := hC3.box hw2 (by simp only [not_or]; exact ⟨Ne.symm h0.n3, Ne.symm h0.n5⟩)
  refine ⟨rfl, (((hCd.mono fun k e => Or.inl e).trans (hC1.mono fun k e => Or.inl e)).trans (hC2.mono fun k e => match e with | .inl x => .inr (.inl x) | .inr x => .inr (.inr (.inl x)))).trans (hC3.mono fun k e => match e with | .inl x => .inl x | .inr x => .inr (.inl x)), ⟨?_, hb3, hd3, hw3, byt_lay h0.byt (ovr_byt (HY.out.1.byt.append (ffs_byt _)) h0.row.byt), Row.none0 _, h0.n1, h0.n2, h0.n3, h0.n4, h0.n5, h0.n6, fun _ _ e => by cases e⟩⟩
  simp only [hlen, List.length_set]
  exact hf3
end Go.Proofs.Ytfhgbddeclldnaa

namespace Go.Proofs.Ytfhgbddeclldnaa
open Go.RowKit
set_option maxRecDepth 100000
set_option linter.unusedSimpArgs false
set_option linter.unusedVariables false

set_option maxHeartbeats 1000000 in
theorem perase_range {w : World} {fb bb db wb : Nat} {m : Fm} {pw left : Int} {aT : Option Addr} {cT : Nat} {T : List Int} {k : Nat} (h : PF w fb bb db wb m pw left aT cT T) (hg : m.Good k) (sec : Int) (hp : inL m.W.length sec = false) :
    Calls Try.prog 50 #[.pointer (some ⟨fb, 0, none⟩), .int .i64 sec] w fun e w' => e = .returned (.int .i64 9) ∧ ∃ n, w' = w.drewN n := by
  have hs := hg.s
  have hlW := hg.lW
  have c5 : w.cell? ⟨fb, 5, none⟩ = some (.slice (some ⟨wb, 0, none⟩) m.W.length m.W.length) := h.box.c 5
  have hc := hassector_any fb _ _ _ sec w c5 (by omega)
  rw [hp] at hc
  clear h hlW hg hs
  go_enter Try.func50, Try.ntmps50
  go_wp2_with (go_at_call 63; refine hc.mono ?_; rintro e w' ⟨rfl, rfl⟩)
  go_ret
  exact ⟨rfl, 0, rfl⟩
set_option maxHeartbeats 2000000 in
theorem perase_off {w : World} {fb bb db wb : Nat} {m : Fm} {left : Int} {aT : Option Addr} {cT : Nat} {T : List Int} {k : Nat} (h : PF w fb bb db wb m 0 left aT cT T) (hg : m.Good k) (i : Nat) (hi : i < m.W.length) :
    Calls Try.prog 50 #[.pointer (some ⟨fb, 0, none⟩), .int .i64 i] w fun e w' => e = .returned (.int .i64 40) ∧ ∃ n, w' = w.drewN n := by
  obtain ⟨N, hN⟩ : ∃ N, m.p * m.b = N := ⟨_, rfl⟩
  have hN0 : 0 < N := hN ▸ Nat.mul_pos hg.p.1 hg.b.1
  have hs := hg.s
  have hp := hg.p
  have hsp := hg.sp
  have hspb := hg.spb
  have hlW := hg.lW
  have hlB := hg.lB
  have hlD := hg.lD
  have hfB := mul_fit (b := N) (show i < m.s from hlW ▸ hi)
  rw [← hN, ← Nat.mul_assoc m.s, ← hlB, hN] at hfB
  have hfD := mul_fit (b := m.p) (show i < m.s from hlW ▸ hi)
  rw [← hlD] at hfD
  have c1 : w.cell? ⟨fb, 1, none⟩ = some (.int .i64 m.p) := h.box.c 1
  have c3 : w.cell? ⟨fb, 3, none⟩ = some (.slice (some ⟨bb, 0, none⟩) m.B.length m.B.length) := h.box.c 3
  have c4 : w.cell? ⟨fb, 4, none⟩ = some (.slice (some ⟨db, 0, none⟩) m.D.length m.D.length) := h.box.c 4
  have c5 : w.cell? ⟨fb, 5, none⟩ = some (.slice (some ⟨wb, 0, none⟩) m.W.length m.W.length) := h.box.c 5
  have hc := hassector_any fb _ _ _ (i : Int) w c5 (by omega)
  rw [inL_nat hi] at hc
  have hP : ∀ W, _ := fun W => pieceb_any bb m.B.length i N (i * N) W rfl (by omega) hN0 (by omega) (by omega)
  have hQ : ∀ W, _ := fun W => pieced_any db m.D.length i m.p (i * m.p) W rfl (by omega) hp.1 (by omega) (by omega)
  have hR : ∀ n, _ := fun n => sectorbytes_any fb m.p m.b N (w.drewN n) ((h.drewN n).box.c 1) ((h.drewN n).box.c 2) hN (by omega)
  have HP : Hid _ := And.intro hP (And.intro hQ hR)
  have HH : Hid _ := h
  clear h hlD hg hsp hspb hlB hP hQ hR hN hfB hfD hlW c5
  go_enter Try.func50, Try.ntmps50
  go_wp2_with (go_at_call 63; refine hc.mono ?_; rintro e w' ⟨rfl, rfl⟩)
  go_quiet (first | (go_at_call 64; exact quiet_eq (HP.out.1 _)) | (go_at_call 65; exact quiet_eq (HP.out.2.1 _)) | (go_at_call 25; exact Calls.quiet_of (HP.out.2.2 _)))
  go_wp2_with fail
  refine (step_off fb _ _ _ _ _ _ _ _ _ _ (HH.out.drewN _).box).mono ?_
  rintro e w1 ⟨rfl, rfl⟩
  go_wp2
  go_ret
  exact ⟨rfl, _, rfl⟩
theorem splice_ffs (B : List Int) (lo n : Nat) : splice (bv B) lo (List.replicate n (.int .u8 255)) = bv (B.take lo ++ ffs n ++ B.drop (lo + n)) := by
  have e : List.replicate n (Value.int .u8 255) = bv (ffs n) := by unfold bv ffs; simp
  rw [e, splice_bv]
  simp [ffs]
theorem splice_drg (D : List Bool) (a : Nat) (b : Bool) (k : Nat) : splice (D.map Value.bool) a (List.replicate k (.bool b)) = (drg D a b k).map Value.bool := by
  unfold splice drg; simp [List.map_take, List.map_drop]
theorem cut3 (B : List Int) (lo n : Nat) : B.take lo ++ (B.drop lo).take n ++ B.drop (lo + n) = B := by
  rw [List.append_assoc, ← List.drop_drop, List.take_append_drop, List.take_append_drop]
set_option maxHeartbeats 2000000 in
theorem perase_done {w : World} {fb bb db wb : Nat} {m : Fm} {pw left pw' left' : Int} {aT : Option Addr} {cT : Nat} {T : List Int} {k : Nat} (h : PF w fb bb db wb m pw left aT cT T) (hg : m.Good k) (hk : k < 1000000) (i : Nat) (hi : i < m.W.length)
    (hS : ∀ W x0 x1 x2 x3 x4 x5 x9, Box W fb 59 [x0, x1, x2, x3, x4, x5, .int .i64 m.ops, .int .i64 pw, .int .i64 left, x9] → Calls Try.prog 66 #[.pointer (some ⟨fb, 0, none⟩)] W fun e w' => e = .returned (.int .i64 1) ∧ Fd W w' fb 59 [x0, x1, x2, x3, x4, x5, .int .i64 (m.ops + 1), .int .i64 pw', .int .i64 left', x9]) :
    Calls Try.prog 50 #[.pointer (some ⟨fb, 0, none⟩), .int .i64 i] w fun e w' => e = .returned (.int .i64 0) ∧ Chg (foot fb bb db wb) w w' ∧ PF w' fb bb db wb { m with B := m.B.take (i * (m.p * m.b)) ++ ffs (m.p * m.b) ++ m.B.drop (i * (m.p * m.b) + m.p * m.b), D := drg m.D (i * m.p) false m.p, W := m.W.set i (m.W.getD i 0 + 1), ops := m.ops + 1 } pw' left' aT cT T := by
  obtain ⟨N, hN⟩ : ∃ N, m.p * m.b = N := ⟨_, rfl⟩
  have hN0 : 0 < N := hN ▸ Nat.mul_pos hg.p.1 hg.b.1
  have hs := hg.s
  have hp := hg.p
  have hsp := hg.sp
  have hspb := hg.spb
  have hlW := hg.lW
  have hlB := hg.lB
  have hlD := hg.lD
  have hfB := mul_fit (b := N) (show i < m.s from hlW ▸ hi)
  rw [← hN, ← Nat.mul_assoc m.s, ← hlB, hN] at hfB
  have hfD := mul_fit (b := m.p) (show i < m.s from hlW ▸ hi)
  rw [← hlD] at hfD
  have c1 : w.cell? ⟨fb, 1, none⟩ = some (.int .i64 m.p) := h.box.c 1
  have c3 : w.cell? ⟨fb, 3, none⟩ = some (.slice (some ⟨bb, 0, none⟩) m.B.length m.B.length) := h.box.c 3
  have c4 : w.cell? ⟨fb, 4, none⟩ = some (.slice (some ⟨db, 0, none⟩) m.D.length m.D.length) := h.box.c 4
  have c5 : w.cell? ⟨fb, 5, none⟩ = some (.slice (some ⟨wb, 0, none⟩) m.W.length m.W.length) := h.box.c 5
  have hc := hassector_any fb _ _ _ (i : Int) w c5 (by omega)
  rw [inL_nat hi] at hc
  have hP : ∀ W, _ := fun W => pieceb_any bb m.B.length i N (i * N) W rfl (by omega) hN0 (by omega) (by omega)
  have hQ : ∀ W, _ := fun W => pieced_any db m.D.length i m.p (i * m.p) W rfl (by omega) hp.1 (by omega) (by omega)
  have hR : ∀ n, _ := fun n => sectorbytes_any fb m.p m.b N (w.drewN n) ((h.drewN n).box.c 1) ((h.drewN n).box.c 2) hN (by omega)
  have HP : Hid _ := And.intro hP (And.intro hQ hR)
  have HH : Hid _ := h
  have HS : Hid _ := hS
  have hWi : m.W.getD i 0 ∈ m.W := by
    rw [List.getD_eq_getElem?_getD, List.getElem?_eq_getElem hi]; simp
  have hWb := hg.W _ hWi
  have cw : (m.W.map (Value.int .i64))[i]? = some (.int .i64 (m.W.getD i 0)) := by
    rw [List.getElem?_map, List.getD_eq_getElem?_getD, List.getElem?_eq_getElem hi]; rfl
  rw [hN]
  generalize m.W.getD i 0 = wi at hWb cw ⊢
  have hww : IntKind.i64.wrap (wi + 1) = wi + 1 := by rw [IntKind.wrap_i64]; omega
  have HD : Hid _ := And.intro hg (And.intro hN (And.intro hsp (And.intro hspb (And.intro hlB (And.intro hfB (And.intro hfD (And.intro hlD cw)))))))
  clear h hlD hg hsp hspb hlB hP hQ hR hN hfB hfD hlW c5 hS hWi cw hWb
  go_enter Try.func50, Try.ntmps50
  go_wp2_with (go_at_call 63; refine hc.mono ?_; rintro e w' ⟨rfl, rfl⟩)
  go_quiet (first | (go_at_call 64; exact quiet_eq (HP.out.1 _)) | (go_at_call 65; exact quiet_eq (HP.out.2.1 _)) | (go_at_call 25; exact Calls.quiet_of (HP.out.2.2 _)))
  go_wp2_with fail
  have h0 := HH.out.drewN nq
  refine (HS.out _ _ _ _ _ _ _ _ h0.box).mono ?_
  rintro e w1 ⟨rfl, hF1⟩
  have hC1 : Chg (fun k => k = fb) (w.drewN nq) w1 := hF1.chg rfl
  have hCd : Chg (fun k => k = fb) w (w.drewN nq) := (Chg.refl _ w).drewN nq
  obtain ⟨hg, hN, hsp, hspb, hlB, hfB, hfD, hlD, cwi⟩ := HD.out
  have hws := hC1.box h0.ws (Ne.symm h0.n3)
  have d5 : w1.cell? ⟨fb, 5, none⟩ = some (.slice (some ⟨wb, 0, none⟩) m.W.length m.W.length) := hF1.box.c 5
  have cw : w1.cell? ⟨wb, i, none⟩ = some (.int .i64 wi) := by rw [hws.c i]; exact cwi
  have fw := hws.f i
  have hC2 : Chg (fun k => k = wb) w1 (w1.setCell ⟨wb, i, none⟩ (.int .i64 (wi + 1))) := Chg.set rfl
  have hw2 := hws.set i (.int .i64 (wi + 1))
  rw [← List.map_set] at hw2
  have hb2 := hC2.box (hC1.box h0.bs (Ne.symm h0.n1)) h0.n5
  have hd2 := hC2.box (hC1.box h0.ds (Ne.symm h0.n2)) h0.n6
  have hf2 := hC2.box hF1.box h0.n3
  have hr2 := hC2.row (hC1.row h0.row fun b o e => (h0.nT b o e).1) (fun b o e => (h0.nT b o e).2.2.2)
  have hL := fillb_any (some ⟨bb, i * N, none⟩) bb (i * N) N (m.B.length - i * N) _ 255 _ hb2 (fun _ => rfl) (by rw [bv_length]; omega) (by omega)
  have HL : Hid _ := And.intro h0 (And.intro hCd (And.intro hC1 (And.intro hC2 (And.intro hw2 (And.intro hd2 (And.intro hf2 hr2))))))
  clear h0 hCd hC1 hF1 hg hN hsp hspb hlB hfB hfD hlD hws hC2 hw2 hb2 hd2 hf2 hr2 c1 c3 c4 hc HP HS cwi
  go_wp2_with fail
  with_reducible refine hL.mono ?_
  rintro e w3 ⟨rfl, hF3⟩
  obtain ⟨h0, hCd, hC1, hC2, hw2, hd2, hf2, hr2⟩ := HL.out
  obtain ⟨hg, hN, hsp, hspb, hlB, hfB, hfD, hlD, cwi⟩ := HD.out
  have hd3 := hF3.box' hd2 (Ne.symm h0.n4)
  have hM := filld_any (some ⟨db, i * m.p, none⟩) db (i * m.p) m.p (m.D.length - i * m.p) _ false _ hd3 (fun _ => rfl) (by rw [List.length_map]; omega) (by omega)
  have H3 : Hid _ := hF3
  clear h0 hCd hC1 hC2 hw2 hd2 hf2 hr2 hg hN hsp hspb hlB hfB hfD hlD hd3 hF3 hL cwi d5 cw fw
  go_wp2_with fail
  with_reducible refine hM.mono ?_
  rintro e w4 ⟨rfl, hF4⟩
  go_wp2
  go_ret
  obtain ⟨h0, hCd, hC1, hC2, hw2, hd2, hf2, hr2⟩ := HL.out
  obtain ⟨hg, hN, hsp, hspb, hlB, hfB, hfD, hlD, cwi⟩ := HD.out
  have hF3 := H3.out
  have hb4 := hF4.box' hF3.box h0.n4
  rw [splice_ffs] at hb4
  have hd4 := hF4.box
  rw [splice_drg] at hd4
  have hlen : (m.B.take (i * N) ++ ffs N ++ m.B.drop (i * N + N)).length = m.B.length := by simp [ffs]; omega
  have hw4 := hF4.box' (hF3.box' hw2 (Ne.symm h0.n5)) (Ne.symm h0.n6)
  have hf4 := hF4.box' (hF3.box' hf2 h0.n1) h0.n2
  have hr4 := (hF4.chg (F := fun k => k = db) rfl).row ((hF3.chg (F := fun k => k = bb) rfl).row hr2 fun b o e => (h0.nT b o e).2.1) fun b o e => (h0.nT b o e).2.2.1
  refine ⟨rfl, ((((hCd.mono fun k e => Or.inl e).trans (hC1.mono fun k e => Or.inl e)).trans (hC2.mono fun k e => Or.inr (Or.inr (Or.inr e)))).trans (hF3.chg (F := foot fb bb db wb) (Or.inr (Or.inl rfl)))).trans (hF4.chg (F := foot fb bb db wb) (Or.inr (Or.inr (Or.inl rfl)))), ⟨?_, hb4, hd4, hw4, byt_lay h0.byt (ffs_byt _), hr4, h0.n1, h0.n2, h0.n3, h0.n4, h0.n5, h0.n6, h0.nT⟩⟩
  simp only [hlen, List.length_set, drg_len _ hfD]
  exact hf4
set_option maxHeartbeats 2000000 in
theorem perase_torn {w : World} {fb bb db wb : Nat} {m : Fm} {pw left : Int} {aT : Option Addr} {cT : Nat} {T : List Int} {k : Nat} (h : PF w fb bb db wb m pw left aT cT T) (hg : m.Good k) (hk : k < 1000000) (i : Nat) (hi : i < m.W.length)
    (hS : ∀ W x0 x1 x2 x3 x4 x5 x9, Box W fb 59 [x0, x1, x2, x3, x4, x5, .int .i64 m.ops, .int .i64 pw, .int .i64 left, x9] → Calls Try.prog 66 #[.pointer (some ⟨fb, 0, none⟩)] W fun e w' => e = .returned (.int .i64 2) ∧ Fd W w' fb 59 [x0, x1, x2, x3, x4, x5, .int .i64 (m.ops + 1), .int .i64 0, .int .i64 0, x9]) :
    Calls Try.prog 50 #[.pointer (some ⟨fb, 0, none⟩), .int .i64 i] w fun e w' => e = .returned (.int .i64 40) ∧ Chg (foot fb bb db wb) w w' ∧ PF w' fb bb db wb { m with B := m.B.take (i * (m.p * m.b)) ++ ovr ((m.B.drop (i * (m.p * m.b))).take (m.p * m.b)) T ++ m.B.drop (i * (m.p * m.b) + m.p * m.b), D := drg m.D (i * m.p) true m.p, W := m.W.set i (m.W.getD i 0 + 1), ops := m.ops + 1 } 0 0 none 0 [] := by
  obtain ⟨N, hN⟩ : ∃ N, m.p * m.b = N := ⟨_, rfl⟩
  have hN0 : 0 < N := hN ▸ Nat.mul_pos hg.p.1 hg.b.1
  have hs := hg.s
  have hp := hg.p
  have hsp := hg.sp
  have hspb := hg.spb
  have hlW := hg.lW
  have hlB := hg.lB
  have hlD := hg.lD
  have hfB := mul_fit (b := N) (show i < m.s from hlW ▸ hi)
  rw [← hN, ← Nat.mul_assoc m.s, ← hlB, hN] at hfB
  have hfD := mul_fit (b := m.p) (show i < m.s from hlW ▸ hi)
  rw [← hlD] at hfD
  have c1 : w.cell? ⟨fb, 1, none⟩ = some (.int .i64 m.p) := h.box.c 1
  have c3 : w.cell? ⟨fb, 3, none⟩ = some (.slice (some ⟨bb, 0, none⟩) m.B.length m.B.length) := h.box.c 3
  have c4 : w.cell? ⟨fb, 4, none⟩ = some (.slice (some ⟨db, 0, none⟩) m.D.length m.D.length) := h.box.c 4
  have c5 : w.cell? ⟨fb, 5, none⟩ = some (.slice (some ⟨wb, 0, none⟩) m.W.length m.W.length) := h.box.c 5
  have hc := hassector_any fb _ _ _ (i : Int) w c5 (by omega)
  rw [inL_nat hi] at hc
  have hP : ∀ W, _ := fun W => pieceb_any bb m.B.length i N (i * N) W rfl (by omega) hN0 (by omega) (by omega)
  have hQ : ∀ W, _ := fun W => pieced_any db m.D.length i m.p (i * m.p) W rfl (by omega) hp.1 (by omega) (by omega)
  have hR : ∀ n, _ := fun n => sectorbytes_any fb m.p m.b N (w.drewN n) ((h.drewN n).box.c 1) ((h.drewN n).box.c 2) hN (by omega)
  have HP : Hid _ := And.intro hP (And.intro hQ hR)
  have HH : Hid _ := h
  have HS : Hid _ := hS
  have hWi : m.W.getD i 0 ∈ m.W := by
    rw [List.getD_eq_getElem?_getD, List.getElem?_eq_getElem hi]; simp
  have hWb := hg.W _ hWi
  have cw : (m.W.map (Value.int .i64))[i]? = some (.int .i64 (m.W.getD i 0)) := by
    rw [List.getElem?_map, List.getD_eq_getElem?_getD, List.getElem?_eq_getElem hi]; rfl
  rw [hN]
  generalize m.W.getD i 0 = wi at hWb cw ⊢
  have hww : IntKind.i64.wrap (wi + 1) = wi + 1 := by rw [IntKind.wrap_i64]; omega
  have HD : Hid _ := And.intro hg (And.intro hN (And.intro hsp (And.intro hspb (And.intro hlB (And.intro hfB (And.intro hfD (And.intro hlD cw)))))))
  clear h hlD hg hsp hspb hlB hP hQ hR hN hfB hfD hlW c5 hS hWi cw hWb
  go_enter Try.func50, Try.ntmps50
  go_wp2_with (go_at_call 63; refine hc.mono ?_; rintro e w' ⟨rfl, rfl⟩)
  go_quiet (first | (go_at_call 64; exact quiet_eq (HP.out.1 _)) | (go_at_call 65; exact quiet_eq (HP.out.2.1 _)) | (go_at_call 25; exact Calls.quiet_of (HP.out.2.2 _)))
  go_wp2_with fail
  have h0 := HH.out.drewN nq
  refine (HS.out _ _ _ _ _ _ _ _ h0.box).mono ?_
  rintro e w1 ⟨rfl, hF1⟩
  have hC1 : Chg (fun k => k = fb) (w.drewN nq) w1 := hF1.chg rfl
  have hCd : Chg (fun k => k = fb) w (w.drewN nq) := (Chg.refl _ w).drewN nq
  obtain ⟨hg, hN, hsp, hspb, hlB, hfB, hfD, hlD, cwi⟩ := HD.out
  have hws := hC1.box h0.ws (Ne.symm h0.n3)
  have d5 : w1.cell? ⟨fb, 5, none⟩ = some (.slice (some ⟨wb, 0, none⟩) m.W.length m.W.length) := hF1.box.c 5
  have cw : w1.cell? ⟨wb, i, none⟩ = some (.int .i64 wi) := by rw [hws.c i]; exact cwi
  have fw := hws.f i
  have hC2 : Chg (fun k => k = wb) w1 (w1.setCell ⟨wb, i, none⟩ (.int .i64 (wi + 1))) := Chg.set rfl
  have hw2 := hws.set i (.int .i64 (wi + 1))
  rw [← List.map_set] at hw2
  have hb2 := hC2.box (hC1.box h0.bs (Ne.symm h0.n1)) h0.n5
  have hd2 := hC2.box (hC1.box h0.ds (Ne.symm h0.n2)) h0.n6
  have hf2 := hC2.box hF1.box h0.n3
  have hr2 := hC2.row (hC1.row h0.row fun b o e => (h0.nT b o e).1) (fun b o e => (h0.nT b o e).2.2.2)
  have hL := tear_any fb bb (i * N) N (m.B.length - i * N) _ _ _ _ _ _ _ _ _ _ aT cT T _ hf2 hb2 h0.n1 hr2 (by omega)
  have HL : Hid _ := And.intro h0 (And.intro hCd (And.intro hC1 (And.intro hC2 (And.intro hw2 hd2))))
  clear h0 hCd hC1 hF1 hg hN hsp hspb hlB hfB hfD hlD hws hC2 hw2 hb2 hd2 hf2 hr2 c1 c3 c4 hc HP HS cwi
  go_wp2_with fail
  with_reducible refine hL.mono ?_
  rintro e w3 ⟨rfl, hf3, hb3, hC3⟩
  obtain ⟨h0, hCd, hC1, hC2, hw2, hd2⟩ := HL.out
  obtain ⟨hg, hN, hsp, hspb, hlB, hfB, hfD, hlD, cwi⟩ := HD.out
  have hd3 := hC3.box hd2 (by simp only [not_or]; exact ⟨Ne.symm h0.n2, Ne.symm h0.n4⟩)
  have hM := filld_any (some ⟨db, i * m.p, none⟩) db (i * m.p) m.p (m.D.length - i * m.p) _ true _ hd3 (fun _ => rfl) (by rw [List.length_map]; omega) (by omega)
  have H3 : Hid _ := And.intro hf3 (And.intro hb3 hC3)
  clear h0 hCd hC1 hC2 hw2 hd2 hg hN hsp hspb hlB hfB hfD hlD hd3 hf3 hb3 hC3 hL cwi d5 cw fw
  go_wp2_with fail
  with_reducible refine hM.mono ?_
  rintro e w4 ⟨rfl, hF4⟩
  go_wp2
  go_ret
  obtain ⟨h0, hCd, hC1, hC2, hw2, hd2⟩ := HL.out
  obtain ⟨hg, hN, hsp, hspb, hlB, hfB, hfD, hlD, cwi⟩ := HD.out
  obtain ⟨hf3, hb3, hC3⟩ := H3.out
  have hb4 := hF4.box' hb3 h0.n4
  have ht := tear_page (B := m.B) (X := (m.B.drop (i * N)).take N) (T := T) (lo := i * N) (n := N) (by simp; omega) (by omega)
  rw [cut3] at ht
  rw [ht] at hb4
  have hd4 := hF4.box
  rw [splice_drg] at hd4
  have hlen : (m.B.take (i * N) ++ ovr ((m.B.drop (i * N)).take N) T ++ m.B.drop (i * N + N)).length = m.B.length := by simp only [List.length_append, ovr_len, List.length_take, List.length_drop]; omega
  have hw4 := hF4.box' (hC3.box hw2 (by simp only [not_or]; exact ⟨Ne.symm h0.n3, Ne.symm h0.n5⟩)) (Ne.symm h0.n6)
  have hf4 := hF4.box' hf3 h0.n2
  refine ⟨rfl, ((((hCd.mono fun k e => Or.inl e).trans (hC1.mono fun k e => Or.inl e)).trans (hC2.mono fun k e => Or.inr (Or.inr (Or.inr e)))).trans (hC3.mono fun k e => match e with | .inl x => .inl x | .inr x => .inr (.inl x))).trans (hF4.chg (F := foot fb bb db wb) (Or.inr (Or.inr (Or.inl rfl)))), ⟨?_, hb4, hd4, hw4, byt_lay h0.byt (ovr_byt ((h0.byt.drop _).take _) h0.row.byt), Row.none0 _, h0.n1, h0.n2, h0.n3, h0.n4, h0.n5, h0.n6, fun _ _ e => by cases e⟩⟩
  simp only [hlen, List.length_set, drg_len _ hfD]
  exact hf4
end Go.Proofs.Ytfhgbddeclldnaa
