/- The document's flash in memory, away from the blocks F; its calls. -/
import Derived.Test.YtdefcfmnhfeblaaRS
namespace Go.Proofs.Ytdefcfmnhfeblaa
open Go.RowKit
set_option linter.unusedSimpArgs false
set_option linter.unusedVariables false

/-- the document's flash v, in memory, is m; it has no block of F -/
def Rep (w : World) (v : Value) (m : Fm) (F : Nat → Prop) : Prop :=
  ∃ bb bo cB db dof cD wb wof cW aT cT, v = .agg #[.int .i64 m.s, .int .i64 m.p, .int .i64 m.b, .slice (some ⟨bb, bo, none⟩) m.B.length cB, .slice (some ⟨db, dof, none⟩) m.D.length cD, .slice (some ⟨wb, wof, none⟩) m.W.length cW, .int .i64 m.ops, .bool m.off, .int .i64 m.after, .slice aT m.T.length cT] ∧ Row w (some ⟨bb, bo, none⟩) m.B.length m.B ∧ m.B.length ≤ cB ∧ cB ≤ maxLen ∧ RowE Value.bool w (some ⟨db, dof, none⟩) m.D.length m.D ∧ RowE (Value.int .i64) w (some ⟨wb, wof, none⟩) m.W.length m.W ∧ Row w aT m.T.length m.T ∧ ¬ F bb ∧ ¬ F db ∧ ¬ F wb ∧ (∀ tb tof, aT = some ⟨tb, tof, none⟩ → 0 < m.T.length → ¬ F tb)
theorem Row.but {w w' : World} {a : Option Addr} {n : Nat} {xs : List Int} (h : Row w a n xs) (hw : ∀ b off, a = some ⟨b, off, none⟩ → b < w.heap.size → w'.heap[b]? = w.heap[b]?) : Row w' a n xs := by
  refine ⟨h.len_eq, h.le, h.byt, fun h0 => ?_⟩
  obtain ⟨b, off, e, hc⟩ := h.cells h0
  exact ⟨b, off, e, fun k hk => by rw [World.cell?_of_block (hw b off e (cell_lt (hc k hk)))]; exact hc k hk⟩
theorem Row.but' {w w' : World} {a : Option Addr} {n : Nat} {xs : List Int} (h : Row w a n xs) (hw : ∀ b off, a = some ⟨b, off, none⟩ → 0 < n → b < w.heap.size → w'.heap[b]? = w.heap[b]?) : Row w' a n xs := by
  refine ⟨h.len_eq, h.le, h.byt, fun h0 => ?_⟩
  obtain ⟨b, off, e, hc⟩ := h.cells h0
  exact ⟨b, off, e, fun k hk => by rw [World.cell?_of_block (hw b off e h0 (cell_lt (hc k hk)))]; exact hc k hk⟩
theorem RowE.but {α : Type} {enc : α → Value} {w w' : World} {a : Option Addr} {n : Nat} {xs : List α} (h : RowE enc w a n xs) (hw : ∀ b off, a = some ⟨b, off, none⟩ → b < w.heap.size → w'.heap[b]? = w.heap[b]?) : RowE enc w' a n xs := by
  refine ⟨h.len_eq, h.le, fun h0 => ?_⟩
  obtain ⟨b, off, e, hc⟩ := h.cells h0
  exact ⟨b, off, e, fun k x hk => by rw [World.cell?_of_block (hw b off e (cell_lt (hc k x hk)))]; exact hc k x hk⟩
/-- where only blocks of F were written, and new ones made, it stands -/
theorem Rep.but {w w' : World} {v : Value} {m : Fm} {F : Nat → Prop} (h : Rep w v m F) (hw : ∀ k, k < w.heap.size → ¬ F k → w'.heap[k]? = w.heap[k]?) : Rep w' v m F := by
  obtain ⟨bb, bo, cB, db, dof, cD, wb, wof, cW, aT, cT, rfl, h1, h2, h3, h4, h5, h6, n1, n2, n3, n4⟩ := h
  refine ⟨bb, bo, cB, db, dof, cD, wb, wof, cW, aT, cT, rfl, h1.but ?_, h2, h3, h4.but ?_, h5.but ?_, h6.but' ?_, n1, n2, n3, n4⟩
  · intro b off e hb; injection e with e; injection e with e1 e2; subst e1; exact hw _ hb n1
  · intro b off e hb; injection e with e; injection e with e1 e2; subst e1; exact hw _ hb n2
  · intro b off e hb; injection e with e; injection e with e1 e2; subst e1; exact hw _ hb n3
  · intro b off e h0 hb; exact hw _ hb (n4 b off e h0)
theorem Rep.grown {w w' : World} {v : Value} {m : Fm} {F : Nat → Prop} (h : Rep w v m F) (hg : w.grownBy w' none) : Rep w' v m F := h.but fun k hk _ => hg.block k hk (by simp)
theorem Rep.less {w : World} {v : Value} {m : Fm} {F F' : Nat → Prop} (h : Rep w v m F) (hF : ∀ k, F' k → F k) : Rep w v m F' := by
  obtain ⟨bb, bo, cB, db, dof, cD, wb, wof, cW, aT, cT, rfl, h1, h2, h3, h4, h5, h6, n1, n2, n3, n4⟩ := h
  exact ⟨bb, bo, cB, db, dof, cD, wb, wof, cW, aT, cT, rfl, h1, h2, h3, h4, h5, h6, fun x => n1 (hF _ x), fun x => n2 (hF _ x), fun x => n3 (hF _ x), fun tb tof e h0 x => n4 tb tof e h0 (hF _ x)⟩
/-- what is new lies in none of its blocks -/
theorem Rep.fresh {w : World} {v : Value} {m : Fm} {F F' : Nat → Prop} {k : Nat} (h : Rep w v m F) (hg : m.Good k) (hF : ∀ x, F' x → F x ∨ w.heap.size ≤ x) : Rep w v m F' := by
  obtain ⟨bb, bo, cB, db, dof, cD, wb, wof, cW, aT, cT, rfl, h1, h2, h3, h4, h5, h6, n1, n2, n3, n4⟩ := h
  have hB : 0 < m.B.length := by have := hg.lB; have := hg.spb; omega
  have hD : 0 < m.D.length := by have := hg.lD; have := hg.sp; omega
  have hW : 0 < m.W.length := by have := hg.lW; have := hg.s; omega
  refine ⟨bb, bo, cB, db, dof, cD, wb, wof, cW, aT, cT, rfl, h1, h2, h3, h4, h5, h6, fun x => ?_, fun x => ?_, fun x => ?_, fun tb tof e h0 x => ?_⟩
  · rcases hF _ x with y | y
    · exact n1 y
    · obtain ⟨b', o', e, hc⟩ := h1.cells hB
      injection e with e
      injection e with e1 e2
      subst e1
      have := cell_lt (hc 0 hB)
      omega
  · rcases hF _ x with y | y
    · exact n2 y
    · obtain ⟨b', o', e, hc⟩ := h4.cells hD
      injection e with e
      injection e with e1 e2
      subst e1
      have := cell_lt (hc 0 _ (List.getElem?_eq_getElem hD))
      omega
  · rcases hF _ x with y | y
    · exact n3 y
    · obtain ⟨b', o', e, hc⟩ := h5.cells hW
      injection e with e
      injection e with e1 e2
      subst e1
      have := cell_lt (hc 0 _ (List.getElem?_eq_getElem hW))
      omega
  · rcases hF _ x with y | y
    · exact n4 tb tof e h0 y
    · obtain ⟨b', o', e', hc⟩ := h6.cells h0
      rw [e] at e'
      injection e' with e'
      injection e' with e1 e2
      subst e1
      have := cell_lt (hc 0 h0)
      omega
/-- its form -/
theorem Rep.shape {w : World} {v : Value} {m : Fm} {F : Nat → Prop} (h : Rep w v m F) : ∃ (s p b ops after : Int) (off : Bool) (aB aD aW aT : Option Addr) (lB cB lD cD lW cW lT cT : Nat), v = .agg #[.int .i64 s, .int .i64 p, .int .i64 b, .slice aB lB cB, .slice aD lD cD, .slice aW lW cW, .int .i64 ops, .bool off, .int .i64 after, .slice aT lT cT] := by
  obtain ⟨bb, bo, cB, db, dof, cD, wb, wof, cW, aT, cT, rfl, _⟩ := h
  exact ⟨_, _, _, _, _, _, _, _, _, _, _, _, _, _, _, _, _, _, rfl⟩
/-- the document's Write -/
theorem rep_write {w : World} {v : Value} {m : Fm} {F : Nat → Prop} {k : Nat} (h : Rep w v m F) (hg : m.Good k) (hk : k < 1000000) (hF : ∀ x, F x → x < w.heap.size) (page : Int) (hp : -9223372036854775808 ≤ page ∧ page ≤ 9223372036854775807) (a2 : Option Addr) (c2 : Nat) (ys : List Int) (RY : Row w a2 ys.length ys) (hn2 : a2 = none → c2 = 0) :
    Calls Try.prog 32 #[v, .int .i64 page, .slice a2 ys.length c2] w fun e w' => ∃ v', e = .returned (.tuple #[v', .int .i64 (m.write page ys).2]) ∧ w.grownBy w' none ∧ Rep w' v' (m.write page ys).1 F := by
  obtain ⟨bb, bo, cB, db, dof, cD, wb, wof, cW, aT, cT, rfl, h1, h2, h3, h4, h5, h6, n1, n2, n3, n4⟩ := h
  have hsp := hg.sp
  have hspb := hg.spb
  have hlB := hg.lB
  have hlD := hg.lD
  by_cases hE : m.wrE page ys = 0
  · obtain ⟨i, rfl, hi, hy, ho, hd⟩ := Fm.wr_in hE
    have hf := mul_fit (b := m.b) (show i < m.s * m.p from hlD ▸ hi)
    rw [Fm.write, if_pos hE]
    rw [ho]
    refine (rwrite_ok (m.s : Int) (m.p : Int) m.ops m.after m.b bb bo m.B.length cB m.B db dof m.D.length cD m.D (some ⟨wb, wof, none⟩) aT m.W.length cW m.T.length cT m.T i a2 ys.length c2 ys w h1 h2 h3 (by omega) h4 (by omega) h6 RY hn2 hi hy hg.b.1 (by have := hg.b.2; omega) (by omega) hd ⟨hg.ops.1, by have := hg.ops.2; omega⟩ hg.after).mono ?_
    rintro e w' ⟨bb', bo', cB', db', dof', cD', rfl, r1, r2, r3, r4, r5, r6, r7⟩
    have e1 : (m.written (Int.toNat (i : Int)) ys).B.length = m.B.length := by
      have := (Fm.good_write hg (i : Int) ys).lB
      rw [Fm.write, if_pos hE] at this
      rw [hlB]; exact this
    have e2 : (m.written (Int.toNat (i : Int)) ys).D.length = m.D.length := by simp [Fm.written]
    refine ⟨_, by simp only [Fm.torn, decide_eq_true_eq]; rfl, r5, bb', bo', cB', db', dof', cD', wb, wof, cW, aT, cT, ?_, ?_, by rw [e1]; exact r2, r3, ?_, h5.grown r5, h6.grown r5, ?_, ?_, n3, n4⟩
    · rw [e1, e2]; simp only [Fm.written, Fm.left]
    · rw [e1]; exact r1
    · rw [e2]; exact r4
    · intro x; have := hF _ x; omega
    · intro x; have := hF _ x; omega
  · rw [Fm.write, if_neg hE]
    refine (rwrite_bad (m.s : Int) (m.p : Int) (m.b : Int) m.ops m.after m.off (some ⟨bb, bo, none⟩) (some ⟨db, dof, none⟩) (some ⟨wb, wof, none⟩) aT m.B.length cB m.D.length cD m.W.length cW m.T.length cT m.D page a2 ys.length c2 w h4 (by omega) (by have := RY.le; unfold maxLen at this; omega) hp hE).mono ?_
    rintro e w' ⟨rfl, r5⟩
    exact ⟨_, rfl, r5, bb, bo, cB, db, dof, cD, wb, wof, cW, aT, cT, rfl, h1.grown r5, h2, h3, h4.grown r5, h5.grown r5, h6.grown r5, n1, n2, n3, n4⟩
/-- the document's Erase -/
theorem rep_erase {w : World} {v : Value} {m : Fm} {F : Nat → Prop} {k : Nat} (h : Rep w v m F) (hg : m.Good k) (hk : k < 1000000) (hF : ∀ x, F x → x < w.heap.size) (sec : Int) (hp : -9223372036854775808 ≤ sec ∧ sec ≤ 9223372036854775807) :
    Calls Try.prog 33 #[v, .int .i64 sec] w fun e w' => ∃ v', e = .returned (.tuple #[v', .int .i64 (m.erase sec).2]) ∧ w.grownBy w' none ∧ Rep w' v' (m.erase sec).1 F := by
  obtain ⟨bb, bo, cB, db, dof, cD, wb, wof, cW, aT, cT, rfl, h1, h2, h3, h4, h5, h6, n1, n2, n3, n4⟩ := h
  have hsp := hg.sp
  have hspb := hg.spb
  have hlB := hg.lB
  have hlD := hg.lD
  have hlW := hg.lW
  have hs := hg.s
  by_cases hE : m.erE sec = 0
  · obtain ⟨i, rfl, hi, ho⟩ := Fm.er_in hE
    have hf := mul_fit (b := m.p * m.b) (show i < m.s from hlW ▸ hi)
    have hfD := mul_fit (b := m.p) (show i < m.s from hlW ▸ hi)
    rw [← Nat.mul_assoc m.s, ← hlB] at hf
    rw [← hlD] at hfD
    rw [Fm.erase, if_pos hE]
    rw [ho]
    refine (rerase_ok (m.s : Int) m.ops m.after m.p m.b (m.p * m.b) bb bo m.B.length cB m.B db dof m.D.length cD m.D wb wof m.W.length cW m.W aT m.T.length cT m.T i w h1 h2 h3 (by omega) h4 (by omega) h5 (by omega) h6 hi rfl (Nat.mul_pos hg.p.1 hg.b.1) hg.p.1 (by have := hg.p.2; omega) (by have := hg.b.2; omega) hf hfD ⟨hg.ops.1, by have := hg.ops.2; omega⟩ hg.after (fun x hx => ⟨(hg.W x hx).1, by have := (hg.W x hx).2; omega⟩)).mono ?_
    rintro e w' ⟨bb', bo', cB', db', dof', cD', wb', wof', cW', rfl, r1, r2, r3, r4, r5, r6, r7, r8, r9⟩
    have gd := Fm.good_erase hg (i : Int)
    rw [Fm.erase, if_pos hE] at gd
    have e1 : (m.erased (Int.toNat (i : Int))).B.length = m.B.length := by rw [hlB]; exact gd.lB
    have e2 : (m.erased (Int.toNat (i : Int))).D.length = m.D.length := by rw [hlD]; exact gd.lD
    have e3 : (m.erased (Int.toNat (i : Int))).W.length = m.W.length := by rw [hlW]; exact gd.lW
    refine ⟨_, by simp only [Fm.torn, decide_eq_true_eq]; rfl, r6, bb', bo', cB', db', dof', cD', wb', wof', cW', aT, cT, ?_, ?_, by rw [e1]; exact r2, r3, ?_, ?_, h6.grown r6, ?_, ?_, ?_, n4⟩
    · rw [e1, e2, e3]; simp only [Fm.erased, Fm.left]
    · rw [e1]; exact r1
    · rw [e2]; exact r4
    · rw [e3]; exact r5
    · intro x; have := hF _ x; omega
    · intro x; have := hF _ x; omega
    · intro x; have := hF _ x; omega
  · rw [Fm.erase, if_neg hE]
    refine (rerase_bad (m.s : Int) (m.p : Int) (m.b : Int) m.ops m.after m.off (some ⟨bb, bo, none⟩) (some ⟨db, dof, none⟩) (some ⟨wb, wof, none⟩) aT m.B.length cB m.D.length cD m.W.length cW m.T.length cT sec w (by omega) hp hE).mono ?_
    rintro e w' ⟨rfl, r5⟩
    exact ⟨_, rfl, r5, bb, bo, cB, db, dof, cD, wb, wof, cW, aT, cT, rfl, h1.grown r5, h2, h3, h4.grown r5, h5.grown r5, h6.grown r5, n1, n2, n3, n4⟩
/-- the document's Arm -/
theorem rep_arm {w : World} {v : Value} {m : Fm} {F : Nat → Prop} (h : Rep w v m F) (hF : ∀ x, F x → x < w.heap.size) (n : Int) (a2 : Option Addr) (c2 : Nat) (ts : List Int) (RY : Row w a2 ts.length ts) (hn2 : a2 = none → c2 = 0) (hl : ts.length ≤ 140737488355328) :
    Calls Try.prog 34 #[v, .agg #[.int .i64 n, .slice a2 ts.length c2]] w fun e w' => ∃ v', e = .returned (.tuple #[v', .int .i64 (m.arm n ts).2]) ∧ w.grownBy w' none ∧ Rep w' v' (m.arm n ts).1 F := by
  obtain ⟨bb, bo, cB, db, dof, cD, wb, wof, cW, aT, cT, rfl, h1, h2, h3, h4, h5, h6, n1, n2, n3, n4⟩ := h
  by_cases hE : arE n m.off = 0
  · have hn : ¬ n < 1 ∧ m.off = false := by
      unfold arE at hE
      split at hE
      · cases hE
      · split at hE
        · cases hE
        · rename_i x1 x2; exact ⟨x1, by simpa using x2⟩
    rw [Fm.arm, if_pos hE]
    rw [hn.2]
    have key : Calls Try.prog 34 #[.agg #[.int .i64 m.s, .int .i64 m.p, .int .i64 m.b, .slice (some ⟨bb, bo, none⟩) m.B.length cB, .slice (some ⟨db, dof, none⟩) m.D.length cD, .slice (some ⟨wb, wof, none⟩) m.W.length cW, .int .i64 m.ops, .bool false, .int .i64 m.after, .slice aT m.T.length cT], .agg #[.int .i64 n, .slice a2 ts.length c2]] w fun e w' => RaPost w m.s m.p m.b (some ⟨bb, bo, none⟩) m.B.length cB (some ⟨db, dof, none⟩) m.D.length cD (some ⟨wb, wof, none⟩) m.W.length cW m.ops n ts.length ts e w' := by
      rcases Nat.eq_zero_or_pos ts.length with h0 | h0
      · obtain rfl := List.eq_nil_of_length_eq_zero h0
        exact rarm_none _ _ _ _ _ _ _ _ _ _ _ _ _ _ _ _ _ _ _ _ _ hn2 hn.1
      · obtain ⟨tb, tof, rfl, _⟩ := RY.cells h0
        exact rarm_ok _ _ _ _ _ _ _ _ _ _ _ _ _ _ _ _ _ _ _ _ _ _ _ _ RY hn.1 h0 hl
    refine key.mono ?_
    rintro e w' ⟨tb, cT', rfl, r1, r2, r3, r4, r5⟩
    refine ⟨_, rfl, r4, bb, bo, cB, db, dof, cD, wb, wof, cW, some ⟨tb, 0, none⟩, cT', ?_, h1.grown r4, h2, h3, h4.grown r4, h5.grown r4, r1, n1, n2, n3, ?_⟩
    · simp only [hn.2]
    · intro tb' tof' e' _ x
      injection e' with e'
      injection e' with e1 e2
      subst e1
      have := hF _ x
      omega
  · rw [Fm.arm, if_neg hE]
    refine (rarm_bad (m.s : Int) (m.p : Int) (m.b : Int) m.ops m.after m.off (some ⟨bb, bo, none⟩) (some ⟨db, dof, none⟩) (some ⟨wb, wof, none⟩) aT m.B.length cB m.D.length cD m.W.length cW m.T.length cT n a2 ts.length c2 w hE).mono ?_
    rintro e w' ⟨rfl, r5⟩
    exact ⟨_, rfl, r5, bb, bo, cB, db, dof, cD, wb, wof, cW, aT, cT, rfl, h1.grown r5, h2, h3, h4.grown r5, h5.grown r5, h6.grown r5, n1, n2, n3, n4⟩
/-- the document's Boot -/
theorem rep_boot {w : World} {v : Value} {m : Fm} {F : Nat → Prop} (h : Rep w v m F) :
    Calls Try.prog 18 #[v] w fun e w' => ∃ v', e = .returned v' ∧ w.grownBy w' none ∧ Rep w' v' m.boot F := by
  obtain ⟨bb, bo, cB, db, dof, cD, wb, wof, cW, aT, cT, rfl, h1, h2, h3, h4, h5, h6, n1, n2, n3, n4⟩ := h
  refine (rboot_any (m.s : Int) (m.p : Int) (m.b : Int) m.ops m.after m.off (some ⟨bb, bo, none⟩) (some ⟨db, dof, none⟩) (some ⟨wb, wof, none⟩) aT m.B.length cB m.D.length cD m.W.length cW m.T.length cT w).mono ?_
  rintro e w' ⟨rfl, r5⟩
  exact ⟨_, rfl, r5, bb, bo, cB, db, dof, cD, wb, wof, cW, none, 0, rfl, h1.grown r5, h2, h3, h4.grown r5, h5.grown r5, Row.none0 _, n1, n2, n3, fun tb tof e => by cases e⟩
/-- the document's Read -/
theorem rep_read {w : World} {v : Value} {m : Fm} {F : Nat → Prop} {k : Nat} (h : Rep w v m F) (hg : m.Good k) (at_ n : Int) (ha : -9223372036854775808 ≤ at_ ∧ at_ ≤ 9223372036854775807) (hn : -9223372036854775808 ≤ n ∧ n ≤ 9223372036854775807) :
    Calls Try.prog 31 #[v, .int .i64 at_, .int .i64 n] w fun e w' => RdPost w m.B (rdE m.B.length m.off at_ n) at_.toNat n.toNat e w' := by
  obtain ⟨bb, bo, cB, db, dof, cD, wb, wof, cW, aT, cT, rfl, h1, h2, h3, h4, h5, h6, n1, n2, n3, n4⟩ := h
  have hspb := hg.spb
  have hlB := hg.lB
  exact rread_any _ _ _ _ _ _ _ _ _ _ _ _ _ _ _ _ _ _ _ _ _ _ _ h1 h2 (by unfold maxLen at h3; omega) (by omega) ha hn
/-- the document's New -/
theorem rep_new (s p b : Nat) (w : World) (F : Nat → Prop) (hF : ∀ x, F x → x < w.heap.size) (hs : 0 < s ∧ s ≤ 16) (hp : 0 < p ∧ p ≤ 16) (hb : 0 < b ∧ b ≤ 64) :
    Calls Try.prog 14 #[.agg #[.int .i64 s, .int .i64 p, .int .i64 b]] w fun e w' => ∃ v', e = .returned v' ∧ w.grownBy w' none ∧ Rep w' v' (Fm.new s p b) F := by
  have hg := Fm.good_new hs hp hb
  have hspb := hg.spb
  refine (rnew_any s p b (s * p) (s * p * b) w ⟨hs.1, by omega⟩ ⟨hp.1, by omega⟩ ⟨hb.1, by omega⟩ rfl rfl (by have : s * p * b ≤ 16384 := hspb.2; omega)).mono ?_
  rintro e w' ⟨bb, cB, db, wb, rfl, r1, r2, r3, r4, r5, r6, r7, r8, r9⟩
  have e1 : (Fm.new s p b).B.length = s * p * b := hg.lB
  have e2 : (Fm.new s p b).D.length = s * p := hg.lD
  have e3 : (Fm.new s p b).W.length = s := hg.lW
  refine ⟨_, rfl, r6, bb, 0, cB, db, 0, s * p, wb, 0, s, none, 0, ?_, ?_, by rw [e1]; exact r2, r3, ?_, ?_, Row.none0 _, ?_, ?_, ?_, fun tb tof e => by cases e⟩
  · rw [e1, e2, e3]; rfl
  · rw [e1]; exact r1
  · rw [e2]; exact r4
  · rw [e3]; exact r5
  · intro x; have := hF _ x; omega
  · intro x; have := hF _ x; omega
  · intro x; have := hF _ x; omega
end Go.Proofs.Ytdefcfmnhfeblaa
