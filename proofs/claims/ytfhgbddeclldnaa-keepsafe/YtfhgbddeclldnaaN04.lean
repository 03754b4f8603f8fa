/- Two records held against each other. keep, over a flash without memory. The document's flash in memory, away from the blocks F; its calls. Two plans held against each other. The document's keep: is the plan right and of this flash; a copy's bytes. The document's keep: a copy's bytes. The document's keep: Load. The document's keep: Write. The document's keep: Switch and Repair. -/
import Derived.DeepKeys
import Derived.Laws.StructEq
import Derived.Deep.RegionHeld3
import Derived.Test.YtfhgbddeclldnaaN02
import Derived.Test.YtfhgbddeclldnaaN03
namespace Go.Proofs.Ytfhgbddeclldnaa
open Go.RowKit
set_option maxRecDepth 100000
set_option linter.unusedSimpArgs false
set_option linter.unusedVariables false

/-- are two records the same? -/
def Rc.same (P Q : Rc) : Bool := decide (P.q = Q.q ∧ P.s = Q.s ∧ P.l = Q.l ∧ P.u = Q.u)
theorem Rc.same_iff {P Q : Rc} : P.same Q = true ↔ P = Q := by
  unfold Rc.same
  rw [decide_eq_true_iff]
  constructor
  · rintro ⟨h1, h2, h3, h4⟩
    cases P; cases Q
    simp only at h1 h2 h3 h4
    subst h1 h2 h3 h4
    rfl
  · rintro rfl; simp
theorem Rc.same_self (P : Rc) : P.same P = true := Rc.same_iff.2 rfl
theorem wfI {x : Int} (h : in64 x) : (Lit.int .i64 x).wf = true := by
  unfold in64 at h
  simp [Lit.wf, IntKind.min, IntKind.max, IntKind.signed, IntKind.bits]
  omega
theorem wfU {x : Int} (h : inU x) : (Lit.int .u64 x).wf = true := by
  unfold inU at h
  simp [Lit.wf, IntKind.min, IntKind.max, IntKind.signed, IntKind.bits]
  omega
theorem kl_i (d : Nat) {x : Int} (h : in64 x) : Try.prog.keyLits (d + 1) 3 [.int .i64 x] = some [.int .i64 x] := by
  simp [Program.keyLits, Try.underlying3, wfI h]
theorem kl_u (d : Nat) {x : Int} (h : inU x) : Try.prog.keyLits (d + 1) 24 [.int .u64 x] = some [.int .u64 x] := by
  simp [Program.keyLits, Try.underlying24, wfU h]
theorem Try.cz3 : Try.prog.cellsOf 3 = 1 := by kernel_rfl
theorem Try.czU : Try.prog.cellsOf 24 = 1 := by kernel_rfl
theorem Try.czR : Try.prog.cellsOf 26 = 4 := by kernel_rfl
theorem kl_rec {P : Rc} (h : P.ok) : Try.prog.keyLits 8 26 P.val.cells.toList = some [.int .u64 P.q, .int .i64 P.s, .int .i64 P.l, .int .u64 P.u] := by
  obtain ⟨h1, h2, h3, h4⟩ := h
  rw [show P.val.cells.toList = P.cells from rfl]
  unfold Program.keyLits
  simp [Try.underlying26, Rc.cells, Try.cz3, Try.czU, Try.czR, kl_u 6 h1, kl_i 6 h2, kl_i 6 h3, kl_u 6 h4]
set_option maxRecDepth 100000 in
theorem rec_eq (P Q : Rc) (w : World) (hP : P.ok) (hQ : Q.ok) : (Op.equalIn 10000 26 P.val Q.val).run Try.prog w = .ok (P.same Q) w := by
  obtain ⟨r, h1, h2⟩ := run_equalIn_deep (P := Try.prog) 9990 10 26 (by kernel_rfl) w 8 8 P.val Q.val _ _ (by rfl) (by rfl) (kl_rec hP) (kl_rec hQ)
  rw [show (9990 + 10) = 10000 from rfl] at h1
  rw [h1]
  congr 1
  by_cases h : P = Q
  · rw [Rc.same_iff.2 h]
    exact h2.2 (by rw [h])
  · rw [show P.same Q = false by cases k : P.same Q with | false => rfl | true => exact absurd (Rc.same_iff.1 k) h]
    cases r with
    | false => rfl
    | true =>
      exfalso
      have := h2.1 rfl
      obtain ⟨q, s, l, u⟩ := P
      obtain ⟨q', s', l', u'⟩ := Q
      simp at this
      obtain ⟨rfl, rfl, rfl, rfl⟩ := this
      exact h rfl
theorem rec_ne (P Q : Rc) (w : World) (hP : P.ok) (hQ : Q.ok) : (binOp .neq 26 P.val Q.val).run Try.prog w = .ok (.bool (!P.same Q)) w := by
  have := rec_eq P Q w hP hQ
  unfold Rc.val at *
  rw [run_neq_struct, this]; rfl
theorem rec_eql (P Q : Rc) (w : World) (hP : P.ok) (hQ : Q.ok) : (binOp .eql 26 P.val Q.val).run Try.prog w = .ok (.bool (P.same Q)) w := by
  have := rec_eq P Q w hP hQ
  unfold Rc.val at *
  rw [run_eql_struct, this]; rfl
end Go.Proofs.Ytfhgbddeclldnaa

namespace Go.Proofs.Ytfhgbddeclldnaa
open Go.RowKit
set_option maxRecDepth 100000
set_option linter.unusedSimpArgs false
set_option linter.unusedVariables false

/-- is the plan right, and of this flash? -/
def kok (m : Fm) (P : Pa.Pl) : Bool := Pa.rgt P && decide (P.s = m.s ∧ P.p = m.p ∧ P.b = m.b)
/-- a copy's first bytes -/
def kcp (m : Fm) (i : Nat) : List Int := (m.B.drop (i * (m.p * m.b))).take 32
/-- what a copy tells -/
def kda (m : Fm) (i : Nat) : Rc × Int := rde (kcp m i)
/-- which copy comes first (0, if none is told) -/
def kfi (m : Fm) : Nat := if (kda m 1).2 = 0 ∧ ((kda m 0).2 ≠ 0 ∨ (kda m 0).1.q < (kda m 1).1.q) then 1 else 0
/-- the copies that are told, in their order -/
def kli (m : Fm) : List Nat := [kfi m, 1 - kfi m].filter fun i => decide ((kda m i).2 = 0)
/-- Load -/
def klo (m : Fm) (P : Pa.Pl) : List Nat × Int := if kok m P = false then ([], 1) else if m.off then ([], 40) else (kli m, 0)
/-- Write -/
def kwr (m : Fm) (P : Pa.Pl) (i : Int) (r : Rc) : Fm × Int :=
  if kok m P = false ∨ i < 0 ∨ 1 < i ∨ rrt r = false then (m, 1) else if (m.erase i).2 ≠ 0 then m.erase i else (m.erase i).1.write (i * m.p) (rby r)
/-- does copy i tell r? -/
def khs (m : Fm) (i : Nat) (r : Rc) : Bool := decide ((kda m i).2 = 0) && (kda m i).1.same r
/-- one of the two writes of a Switch (all), of a Repair -/
def kon (m : Fm) (P : Pa.Pl) (r : Rc) (all : Bool) (i : Nat) (n : Fm) : Fm × Int := if !all && khs m i r then (n, 0) else kwr n P i r
/-- Switch (all), Repair -/
def krn (m : Fm) (P : Pa.Pl) (r : Rc) (all : Bool) : Fm × Int :=
  if kok m P = false ∨ rrt r = false then (m, 1) else if m.off then (m, 40) else if (kon m P r all (1 - kfi m) m).2 ≠ 0 then kon m P r all (1 - kfi m) m else kon m P r all (kfi m) (kon m P r all (1 - kfi m) m).1

theorem kfi_lt (m : Fm) : kfi m < 2 := by unfold kfi; split <;> omega
theorem kok_facts {m : Fm} {P : Pa.Pl} (h : kok m P = true) : Pa.rgt P = true ∧ P.s = m.s ∧ P.p = m.p ∧ P.b = m.b ∧ 4 ≤ m.s ∧ 64 ≤ m.b ∧ P.x0 = 0 ∧ P.x1 = 1 := by
  unfold kok at h
  rw [Bool.and_eq_true, decide_eq_true_iff] at h
  obtain ⟨f1, f2, f3, f4, f5, -⟩ := Pa.rgt_facts h.1
  exact ⟨h.1, h.2.1, h.2.2.1, h.2.2.2, by omega, by omega, f4, f5⟩
/-- a flash that differs only in what it holds -/
structure Like (m n : Fm) : Prop where
  s : n.s = m.s
  p : n.p = m.p
  b : n.b = m.b
theorem Like.refl (m : Fm) : Like m m := ⟨rfl, rfl, rfl⟩
theorem Like.trans {a b c : Fm} (h : Like a b) (k : Like b c) : Like a c := ⟨k.s.trans h.s, k.p.trans h.p, k.b.trans h.b⟩
theorem Like.kok {m n : Fm} (h : Like m n) (P : Pa.Pl) : kok n P = kok m P := by unfold Proofs.Ytfhgbddeclldnaa.kok; rw [h.s, h.p, h.b]
theorem like_erase (m : Fm) (i : Int) : Like m (m.erase i).1 := by
  unfold Fm.erase
  split
  · exact ⟨rfl, rfl, rfl⟩
  · exact Like.refl m
theorem like_write (m : Fm) (i : Int) (ys : List Int) : Like m (m.write i ys).1 := by
  unfold Fm.write
  split
  · exact ⟨rfl, rfl, rfl⟩
  · exact Like.refl m
/-- bytes of copy j where those of B are kept -/
theorem cp_keep {B B' : List Int} {a : Nat} (h : ∀ k, a ≤ k → k < a + 32 → B'[k]? = B[k]?) : (B'.drop a).take 32 = (B.drop a).take 32 := by
  apply List.ext_getElem?
  intro i
  rw [List.getElem?_take, List.getElem?_take]
  by_cases hi : i < 32
  · rw [if_pos hi, if_pos hi, List.getElem?_drop, List.getElem?_drop]
    exact h _ (by omega) (by omega)
  · rw [if_neg hi, if_neg hi]
theorem pb32 {m : Fm} {k : Nat} (hg : m.Good k) (hb : 64 ≤ m.b) : 64 ≤ m.p * m.b := by
  have := Nat.mul_le_mul hg.p.1 hb
  omega
theorem cp_erase {m : Fm} {k : Nat} (hg : m.Good k) (hb : 64 ≤ m.b) (hs : 4 ≤ m.s) {i j : Nat} (hi : i < 2) (hj : j < 2) (hij : i ≠ j) : kcp (m.erased i) j = kcp m j := by
  have h32 := pb32 hg hb
  refine cp_keep fun x h1 h2 => Fm.erase_keeps hg (by rw [hg.lW]; omega) x ?_
  show x < i * (m.p * m.b) ∨ i * (m.p * m.b) + m.p * m.b ≤ x
  change j * (m.p * m.b) ≤ x at h1
  change x < j * (m.p * m.b) + 32 at h2
  generalize m.p * m.b = q at *
  obtain ⟨rfl, rfl⟩ | ⟨rfl, rfl⟩ : (i = 0 ∧ j = 1) ∨ (i = 1 ∧ j = 0) := by omega
  · omega
  · omega
theorem cp_write {m : Fm} {k : Nat} (hg : m.Good k) (hb : 64 ≤ m.b) (hs : 4 ≤ m.s) {i j : Nat} (hi : i < 2) (hj : j < 2) (hij : i ≠ j) {ys : List Int} (hy : ys.length ≤ m.b) : kcp (m.written (i * m.p) ys) j = kcp m j := by
  have h32 := pb32 hg hb
  have hp := hg.p
  have hD : i * m.p < m.D.length := by
    rw [hg.lD]
    exact Nat.mul_lt_mul_of_pos_right (by omega) hp.1
  have hq : m.b ≤ m.p * m.b := Nat.le_mul_of_pos_left _ hp.1
  refine cp_keep fun x h1 h2 => Fm.write_keeps hg hD hy x ?_
  rw [Nat.mul_assoc]
  change j * (m.p * m.b) ≤ x at h1
  change x < j * (m.p * m.b) + 32 at h2
  generalize m.p * m.b = q at *
  obtain ⟨rfl, rfl⟩ | ⟨rfl, rfl⟩ : (i = 0 ∧ j = 1) ∨ (i = 1 ∧ j = 0) := by omega
  · omega
  · omega
/-- a page that was written whole: the copy's bytes -/
theorem cp_written {m : Fm} {k : Nat} (hg : m.Good k) (hb : 64 ≤ m.b) (hs : 4 ≤ m.s) {i : Nat} (hi : i < 2) {ys : List Int} (hy : ys.length = 32) (ha : m.after ≠ 1) : kcp (m.written (i * m.p) ys) i = ys := by
  have hp := hg.p
  have hfit : i * m.p * m.b + m.b ≤ m.B.length := by
    rw [hg.lB]
    have : i * m.p + 1 ≤ m.s * m.p := by
      have := Nat.mul_le_mul_right m.p (show i + 1 ≤ m.s by omega)
      rw [Nat.add_mul, Nat.one_mul] at this
      omega
    have := Nat.mul_le_mul_right m.b this
    rwa [Nat.add_mul, Nat.one_mul] at this
  show (((m.B.take (i * m.p * m.b) ++ m.page ys ++ m.B.drop (i * m.p * m.b + m.b)).drop (i * (m.p * m.b))).take 32) = ys
  rw [← Nat.mul_assoc]
  have e : m.page ys = ys ++ ffs (m.b - ys.length) := by unfold Fm.page; rw [if_neg ha]
  rw [e, List.append_assoc, List.drop_append_of_le_length (by simp; omega), List.drop_eq_nil_of_le (by simp; omega), List.nil_append, List.append_assoc, List.take_append_of_le_length (by omega), List.take_of_length_le (by omega)]
theorem kwr_bad {m : Fm} {P : Pa.Pl} {i : Int} {r : Rc} (h : kok m P = false ∨ i < 0 ∨ 1 < i ∨ rrt r = false) : kwr m P i r = (m, 1) := by unfold kwr; rw [if_pos h]
theorem erE_two {m : Fm} {k : Nat} (hg : m.Good k) (hs : 4 ≤ m.s) {i : Nat} (hi : i < 2) : m.erE i = if m.off then 40 else 0 := by
  unfold Fm.erE erE
  rw [if_neg (by rw [hg.lW]; omega)]
theorem wrE_two {m : Fm} {k : Nat} (hg : m.Good k) (hb : 64 ≤ m.b) (hs : 4 ≤ m.s) {i : Nat} (hi : i < 2) {ys : List Int} (hy : ys.length = 32) (hd : m.D[i * m.p]? = some false) (ho : m.off = false) : m.wrE ((i : Int) * m.p) ys = 0 := by
  have hp := hg.p
  have hD : i * m.p < m.D.length := by
    rw [hg.lD]
    exact Nat.mul_lt_mul_of_pos_right (by omega) hp.1
  unfold Fm.wrE wrE
  have e : (i : Int) * m.p = ((i * m.p : Nat) : Int) := by simp
  rw [e, if_neg (by omega), if_neg (by omega), ho, if_neg (by simp), Int.toNat_natCast, List.getD_eq_getElem?_getD, hd]
  rfl
theorem er_fresh {m : Fm} {k : Nat} (hg : m.Good k) (hs : 4 ≤ m.s) {i : Nat} (hi : i < 2) (ha : m.after ≠ 1) : (m.erased i).D[i * m.p]? = some false := by
  have hp := hg.p
  have hfit : i * m.p + m.p ≤ m.D.length := by
    rw [hg.lD]
    have := Nat.mul_le_mul_right m.p (show i + 1 ≤ m.s by omega)
    rwa [Nat.add_mul, Nat.one_mul] at this
  show (drg m.D (i * m.p) (decide (m.after = 1)) m.p)[i * m.p]? = some false
  rw [decide_eq_false ha]
  unfold drg
  rw [splice_in m.D (List.replicate m.p false) (i * m.p) m.p (i * m.p) (by simp) hfit (Nat.le_refl _) (by omega), Nat.sub_self, List.getElem?_replicate, if_pos hp.1]
/-- Write, where the power is on -/
theorem kwr_on {m : Fm} {P : Pa.Pl} {k : Nat} {i : Nat} {r : Rc} (hg : m.Good k) (hk : kok m P = true) (hi : i < 2) (hr : rrt r = true) (ho : m.off = false) :
    (m.after = 1 ∧ kwr m P i r = (m.erased i, 40)) ∨ (m.after ≠ 1 ∧ kwr m P i r = ((m.erased i).written (i * m.p) (rby r), if (m.erased i).after = 1 then 40 else 0)) := by
  obtain ⟨-, -, -, -, hs, hb, -, -⟩ := kok_facts hk
  have hE := erE_two hg hs hi
  rw [ho] at hE
  have e0 : m.erase i = (m.erased i, m.torn) := by
    unfold Fm.erase
    rw [if_pos (by rw [hE]; rfl)]
    rfl
  unfold kwr
  rw [if_neg (by rw [hk, hr]; simp; omega), e0]
  by_cases ha : m.after = 1
  · left
    refine ⟨ha, ?_⟩
    have : m.torn = 40 := by unfold Fm.torn; rw [if_pos ha]
    rw [this]
    rfl
  · right
    refine ⟨ha, ?_⟩
    have ht : m.torn = 0 := by unfold Fm.torn; rw [if_neg ha]
    rw [ht, if_neg (by simp)]
    have hg2 : (m.erased i).Good (k + 1) := by
      have := Fm.good_erase hg (i : Int)
      rw [e0] at this
      exact this
    have hw := wrE_two hg2 (i := i) (ys := rby r) (by exact hb) (by exact hs) hi (rby_len r) (er_fresh hg hs hi ha) (decide_eq_false ha)
    show Fm.write (m.erased i) ((i : Int) * m.p) (rby r) = _
    unfold Fm.write
    rw [if_pos (show (m.erased i).wrE ((i : Int) * m.p) (rby r) = 0 from hw)]
    have e : ((i : Int) * m.p).toNat = i * m.p := by rw [show (i : Int) * m.p = ((i * m.p : Nat) : Int) by simp]; rfl
    show ((m.erased i).written ((i : Int) * m.p).toNat (rby r), _) = _
    rw [e]
    rfl
end Go.Proofs.Ytfhgbddeclldnaa

namespace Go.Proofs.Ytfhgbddeclldnaa
open Go.RowKit
set_option maxRecDepth 100000
set_option linter.unusedSimpArgs false
set_option linter.unusedVariables false

/-- the document's flash v, in memory, is m; it has no block of F -/
def Rep (w : World) (v : Value) (m : Fm) (F : Nat → Prop) : Prop :=
  ∃ bb bo cB db dof cD wb wof cW aT cT, v = .agg #[.int .i64 m.s, .int .i64 m.p, .int .i64 m.b, .slice (some ⟨bb, bo, none⟩) m.B.length cB, .slice (some ⟨db, dof, none⟩) m.D.length cD, .slice (some ⟨wb, wof, none⟩) m.W.length cW, .int .i64 m.ops, .bool m.off, .int .i64 m.after, .slice aT m.T.length cT] ∧ Row w (some ⟨bb, bo, none⟩) m.B.length m.B ∧ m.B.length ≤ cB ∧ cB ≤ maxLen ∧ RowE Value.bool w (some ⟨db, dof, none⟩) m.D.length m.D ∧ RowE (Value.int .i64) w (some ⟨wb, wof, none⟩) m.W.length m.W ∧ Row w aT m.T.length m.T ∧ ¬ F bb ∧ ¬ F db ∧ ¬ F wb ∧ (∀ tb tof, aT = some ⟨tb, tof, none⟩ → 0 < m.T.length → ¬ F tb)
theorem Row.but {w w' : World} {a : Option Addr} {n : Nat} {xs : List Int} (h : Row w a n xs) (hw : ∀ b off, a = some ⟨b, off, none⟩ → b < w.heap.size → w'.heap[b]? = w.heap[b]?) : Row w' a n xs := by
  refine ⟨h.len_eq, h.le, h.byt, fun h0 => ?_⟩
  obtain ⟨b, off, e, hc⟩ := h.cells h0
  exact ⟨b, off, e, fun k hk => by rw [World.cell?_of_block (hw b off e (cell_lt (hc k hk)))]; exact hc k hk⟩
theorem Row.but' {w w' : World} {a : Option Addr} {n : Nat} {xs : List Int} (h : Row w a n xs) (hw : ∀ b off, a = some ⟨b, off, none⟩ → 0 < n → b < w.heap.size → w'.heap[b]? = w.heap[b]?) : Row w' a n xs := by
  refine ⟨h.len_eq, h.le, h.byt, fun h0 => ?_⟩
  obtain ⟨b, off, e, hc⟩ := h.cells h0
  exact ⟨b, off, e, fun k hk => by rw [World.cell?_of_block (hw b off e h0 (cell_lt (hc k hk)))]; exact hc k hk⟩
theorem RowE.but {α : Type} {enc : α → Value} {w w' : World} {a : Option Addr} {n : Nat} {xs : List α} (h : RowE enc w a n xs) (hw : ∀ b off, a = some ⟨b, off, none⟩ → b < w.heap.size → w'.heap[b]? = w.heap[b]?) : RowE enc w' a n xs := by
  refine ⟨h.len_eq, h.le, fun h0 => ?_⟩
  obtain ⟨b, off, e, hc⟩ := h.cells h0
  exact ⟨b, off, e, fun k x hk => by rw [World.cell?_of_block (hw b off e (cell_lt (hc k x hk)))]; exact hc k x hk⟩
/-- where only blocks of F were written, and new ones made, it stands -/
theorem Rep.but {w w' : World} {v : Value} {m : Fm} {F : Nat → Prop} (h : Rep w v m F) (hw : ∀ k, k < w.heap.size → ¬ F k → w'.heap[k]? = w.heap[k]?) : Rep w' v m F := by
  obtain ⟨bb, bo, cB, db, dof, cD, wb, wof, cW, aT, cT, rfl, h1, h2, h3, h4, h5, h6, n1, n2, n3, n4⟩ := h
  refine ⟨bb, bo, cB, db, dof, cD, wb, wof, cW, aT, cT, rfl, h1.but ?_, h2, h3, h4.but ?_, h5.but ?_, h6.but' ?_, n1, n2, n3, n4⟩
  · intro b off e hb; injection e with e; injection e with e1 e2; subst e1; exact hw _ hb n1
  · intro b off e hb; injection e with e; injection e with e1 e2; subst e1; exact hw _ hb n2
  · intro b off e hb; injection e with e; injection e with e1 e2; subst e1; exact hw _ hb n3
  · intro b off e h0 hb; exact hw _ hb (n4 b off e h0)
theorem Rep.grown {w w' : World} {v : Value} {m : Fm} {F : Nat → Prop} (h : Rep w v m F) (hg : w.grownBy w' none) : Rep w' v m F := h.but fun k hk _ => hg.block k hk (by simp)
theorem Rep.less {w : World} {v : Value} {m : Fm} {F F' : Nat → Prop} (h : Rep w v m F) (hF : ∀ k, F' k → F k) : Rep w v m F' := by
  obtain ⟨bb, bo, cB, db, dof, cD, wb, wof, cW, aT, cT, rfl, h1, h2, h3, h4, h5, h6, n1, n2, n3, n4⟩ := h
  exact ⟨bb, bo, cB, db, dof, cD, wb, wof, cW, aT, cT, rfl, h1, h2, h3, h4, h5, h6, fun x => n1 (hF _ x), fun x => n2 (hF _ x), fun x => n3 (hF _ x), fun tb tof e h0 x => n4 tb tof e h0 (hF _ x)⟩
/-- what is new lies in none of its blocks -/
theorem Rep.fresh {w : World} {v : Value} {m : Fm} {F F' : Nat → Prop} {k : Nat} (h : Rep w v m F) (hg : m.Good k) (hF : ∀ x, F' x → F x ∨ w.heap.size ≤ x) : Rep w v m F' := by
  obtain ⟨bb, bo, cB, db, dof, cD, wb, wof, cW, aT, cT, rfl, h1, h2, h3, h4, h5, h6, n1, n2, n3, n4⟩ := h
  have hB : 0 < m.B.length := by have := hg.lB; have := hg.spb; omega
  have hD : 0 < m.D.length := by have := hg.lD; have := hg.sp; omega
  have hW : 0 < m.W.length := by have := hg.lW; have := hg.s; omega
  refine ⟨bb, bo, cB, db, dof, cD, wb, wof, cW, aT, cT, rfl, h1, h2, h3, h4, h5, h6, fun x => ?_, fun x => ?_, fun x => ?_, fun tb tof e h0 x => ?_⟩
  · rcases hF _ x with y | y
    · exact n1 y
    · obtain ⟨b', o', e, hc⟩ := h1.cells hB
      injection e with e
      injection e with e1 e2
      subst e1
      have := cell_lt (hc 0 hB)
      omega
  · rcases hF _ x with y | y
    · exact n2 y
    · obtain ⟨b', o', e, hc⟩ := h4.cells hD
      injection e with e
      injection e with e1 e2
      subst e1
      have := cell_lt (hc 0 _ (List.getElem?_eq_getElem hD))
      omega
  · rcases hF _ x with y | y
    · exact n3 y
    · obtain ⟨b', o', e, hc⟩ := h5.cells hW
      injection e with e
      injection e with e1 e2
      subst e1
      have := cell_lt (hc 0 _ (List.getElem?_eq_getElem hW))
      omega
  · rcases hF _ x with y | y
    · exact n4 tb tof e h0 y
    · obtain ⟨b', o', e', hc⟩ := h6.cells h0
      rw [e] at e'
      injection e' with e'
      injection e' with e1 e2
      subst e1
      have := cell_lt (hc 0 h0)
      omega
/-- its form -/
theorem Rep.shape {w : World} {v : Value} {m : Fm} {F : Nat → Prop} (h : Rep w v m F) : ∃ (s p b ops after : Int) (off : Bool) (aB aD aW aT : Option Addr) (lB cB lD cD lW cW lT cT : Nat), v = .agg #[.int .i64 s, .int .i64 p, .int .i64 b, .slice aB lB cB, .slice aD lD cD, .slice aW lW cW, .int .i64 ops, .bool off, .int .i64 after, .slice aT lT cT] := by
  obtain ⟨bb, bo, cB, db, dof, cD, wb, wof, cW, aT, cT, rfl, _⟩ := h
  exact ⟨_, _, _, _, _, _, _, _, _, _, _, _, _, _, _, _, _, _, rfl⟩
end Go.Proofs.Ytfhgbddeclldnaa

namespace Go.Proofs.Ytfhgbddeclldnaa.Pa
open Go.RowKit
set_option maxRecDepth 100000
set_option linter.unusedSimpArgs false
set_option linter.unusedVariables false
theorem wf64 {x : Int} (h : bnd64 x) : (Lit.int .i64 x).wf = true := by
  unfold bnd64 at h
  simp [Lit.wf, IntKind.min, IntKind.max, IntKind.signed, IntKind.bits]
  omega
theorem kl_int (d : Nat) {x : Int} (h : bnd64 x) : Try.prog.keyLits (d + 1) 3 [.int .i64 x] = some [.int .i64 x] := by
  simp [Program.keyLits, Try.underlying3, wf64 h]
theorem Try.cz3 : Try.prog.cellsOf 3 = 1 := by kernel_rfl
theorem Try.cz2 : Try.prog.cellsOf 30 = 2 := by kernel_rfl
theorem Try.czG : Try.prog.cellsOf 23 = 3 := by kernel_rfl
theorem Try.czP : Try.prog.cellsOf 32 = 8 := by kernel_rfl
theorem kl_two (d : Nat) {x y : Int} (h : bnd64 x) (k : bnd64 y) : Try.prog.keyLits (d + 2) 30 [.int .i64 x, .int .i64 y] = some [.int .i64 x, .int .i64 y] := by
  unfold Program.keyLits
  simp [Try.underlying30, Try.cz3, Try.cz2, List.range, List.range.loop, kl_int d h, kl_int d k]
theorem kl_geo (d : Nat) {x y z : Int} (h : bnd64 x) (k : bnd64 y) (l : bnd64 z) : Try.prog.keyLits (d + 2) 23 [.int .i64 x, .int .i64 y, .int .i64 z] = some [.int .i64 x, .int .i64 y, .int .i64 z] := by
  unfold Program.keyLits
  simp [Try.underlying23, Try.cz3, Try.czG, kl_int d h, kl_int d k, kl_int d l]
theorem kl_plan {P : Pl} (h : P.ok) : Try.prog.keyLits 8 32 P.val.cells.toList = some [.int .i64 P.s, .int .i64 P.p, .int .i64 P.b, .int .i64 P.x0, .int .i64 P.x1, .int .i64 P.y0, .int .i64 P.y1, .int .i64 P.n] := by
  obtain ⟨h1, h2, h3, h4, h5, h6, h7, h8⟩ := h
  rw [show P.val.cells.toList = P.cells from rfl]
  unfold Program.keyLits
  simp [Try.underlying32, Pl.cells, Try.cz3, Try.cz2, Try.czG, Try.czP, kl_geo 5 h1 h2 h3, kl_two 5 h4 h5, kl_two 5 h6 h7, kl_int 6 h8]
set_option maxRecDepth 100000 in
theorem plan_eq (P Q : Pl) (w : World) (hP : P.ok) (hQ : Q.ok) : (Op.equalIn 10000 32 P.val Q.val).run Try.prog w = .ok (P.same Q) w := by
  obtain ⟨r, h1, h2⟩ := run_equalIn_deep (P := Try.prog) 9990 10 32 (by kernel_rfl) w 8 8 P.val Q.val _ _ (by rfl) (by rfl) (kl_plan hP) (kl_plan hQ)
  rw [show (9990 + 10) = 10000 from rfl] at h1
  rw [h1]
  congr 1
  by_cases h : P = Q
  · rw [Pl.same_iff.2 h]
    exact h2.2 (by rw [h])
  · rw [show P.same Q = false by cases k : P.same Q with | false => rfl | true => exact absurd (Pl.same_iff.1 k) h]
    cases r with
    | false => rfl
    | true =>
      exfalso
      have := h2.1 rfl
      obtain ⟨s, p, b, x0, x1, y0, y1, n⟩ := P
      obtain ⟨s', p', b', x0', x1', y0', y1', n'⟩ := Q
      simp at this
      obtain ⟨rfl, rfl, rfl, rfl, rfl, rfl, rfl, rfl⟩ := this
      exact h rfl
theorem plan_ne (P Q : Pl) (w : World) (hP : P.ok) (hQ : Q.ok) : (binOp .neq 32 P.val Q.val).run Try.prog w = .ok (.bool (!P.same Q)) w := by
  have := plan_eq P Q w hP hQ
  unfold Pl.val at *
  rw [run_neq_struct, this]; rfl
end Go.Proofs.Ytfhgbddeclldnaa.Pa

namespace Go.Proofs.Ytfhgbddeclldnaa
open Go.RowKit
set_option maxRecDepth 100000
set_option linter.unusedSimpArgs false
set_option linter.unusedVariables false

/-- a plan in its variable: eight cells -/
theorem plan8 {W : World} {g : Nat} {T : TypeId} {s p b x0 x1 y0 y1 n : Int} (h : Bx W g T (Pa.Pl.cells ⟨s, p, b, x0, x1, y0, y1, n⟩)) : W.cell? ⟨g, 0, none⟩ = some (.int .i64 s) ∧ W.cell? ⟨g, 1, none⟩ = some (.int .i64 p) ∧ W.cell? ⟨g, 2, none⟩ = some (.int .i64 b) ∧ W.cell? ⟨g, 3, none⟩ = some (.int .i64 x0) ∧ W.cell? ⟨g, 4, none⟩ = some (.int .i64 x1) ∧ W.cell? ⟨g, 5, none⟩ = some (.int .i64 y0) ∧ W.cell? ⟨g, 6, none⟩ = some (.int .i64 y1) ∧ W.cell? ⟨g, 7, none⟩ = some (.int .i64 n) := ⟨h.c 0, h.c 1, h.c 2, h.c 3, h.c 4, h.c 5, h.c 6, h.c 7⟩
theorem flash10 {W : World} {g : Nat} {T : TypeId} {x0 x1 x2 x3 x4 x5 x6 x7 x8 x9 : Value} (h : Bx W g T [x0, x1, x2, x3, x4, x5, x6, x7, x8, x9]) : W.cell? ⟨g, 0, none⟩ = some x0 ∧ W.cell? ⟨g, 1, none⟩ = some x1 ∧ W.cell? ⟨g, 2, none⟩ = some x2 ∧ W.cell? ⟨g, 3, none⟩ = some x3 ∧ W.cell? ⟨g, 4, none⟩ = some x4 ∧ W.cell? ⟨g, 5, none⟩ = some x5 ∧ W.cell? ⟨g, 6, none⟩ = some x6 ∧ W.cell? ⟨g, 7, none⟩ = some x7 ∧ W.cell? ⟨g, 8, none⟩ = some x8 ∧ W.cell? ⟨g, 9, none⟩ = some x9 := ⟨h.c 0, h.c 1, h.c 2, h.c 3, h.c 4, h.c 5, h.c 6, h.c 7, h.c 8, h.c 9⟩
set_option maxRecDepth 100000 in
theorem geo_eql {s p b s' p' b' : Int} (w : World) (h1 : Pa.bnd64 s) (h2 : Pa.bnd64 p) (h3 : Pa.bnd64 b) (h4 : Pa.bnd64 s') (h5 : Pa.bnd64 p') (h6 : Pa.bnd64 b') :
    (binOp .eql 23 (.agg #[.int .i64 s, .int .i64 p, .int .i64 b]) (.agg #[.int .i64 s', .int .i64 p', .int .i64 b'])).run Try.prog w = .ok (.bool (decide (s = s' ∧ p = p' ∧ b = b'))) w := by
  obtain ⟨r, k1, k2⟩ := run_equalIn_deep (P := Try.prog) 9990 10 23 (by kernel_rfl) w 8 8 (.agg #[.int .i64 s, .int .i64 p, .int .i64 b]) (.agg #[.int .i64 s', .int .i64 p', .int .i64 b']) _ _ (by rfl) (by rfl) (Pa.kl_geo 6 h1 h2 h3) (Pa.kl_geo 6 h4 h5 h6)
  rw [run_eql_struct, show (10000 : Nat) = 9990 + 10 from rfl, k1]
  have e : r = decide (s = s' ∧ p = p' ∧ b = b') := by
    by_cases h : s = s' ∧ p = p' ∧ b = b'
    · rw [decide_eq_true h]
      obtain ⟨rfl, rfl, rfl⟩ := h
      exact k2.2 rfl
    · rw [decide_eq_false h]
      cases r with
      | false => rfl
      | true =>
        have := k2.1 rfl
        simp at this
        exact absurd ⟨this.1, this.2.1, this.2.2⟩ h
  rw [e]
  rfl
/-- the document's flash as a value, its cells under letters -/
theorem Rep.form {w : World} {v : Value} {m : Fm} {F : Nat → Prop} (h : Rep w v m F) : ∃ (aB aD aW aT : Option Addr) (lB cB lD cD lW cW lT cT : Nat), v = .agg #[.int .i64 m.s, .int .i64 m.p, .int .i64 m.b, .slice aB lB cB, .slice aD lD cD, .slice aW lW cW, .int .i64 m.ops, .bool m.off, .int .i64 m.after, .slice aT lT cT] := by
  obtain ⟨bb, bo, cB, db, dof, cD, wb, wof, cW, aT, cT, rfl, _⟩ := h
  exact ⟨_, _, _, _, _, _, _, _, _, _, _, _, rfl⟩
end Go.Proofs.Ytfhgbddeclldnaa

namespace Go.Proofs.Ytfhgbddeclldnaa
open Go.RowKit
set_option maxRecDepth 100000
set_option linter.unusedSimpArgs false
set_option linter.unusedVariables false

/-- what is read of a copy -/
def CpPost (m : Fm) (i : Nat) (w : World) (e : Ending) (w' : World) : Prop := w.grownBy w' none ∧ ∃ a l c ys, e = .returned (.tuple #[.slice a l c, .int .i64 (if m.off then 40 else 0)]) ∧ Row w' a l ys ∧ l ≤ c ∧ c ≤ maxLen ∧ (m.off = false → ys = kcp m i)
end Go.Proofs.Ytfhgbddeclldnaa

namespace Go.Proofs.Ytfhgbddeclldnaa
open Go.RowKit
set_option maxRecDepth 100000
set_option linter.unusedSimpArgs false
set_option linter.unusedVariables false

/-- the records and the copies that are told -/
structure Lst (w : World) (m : Fm) (aL : Option Addr) (nL : Nat) (aW : Option Addr) (nW : Nat) (l : List Nat) : Prop where
  nL : nL = l.length
  nW : nW = l.length
  rs : ∀ (k i : Nat), l[k]? = some i → ∃ b o, aL = some ⟨b, o, none⟩ ∧ w.cell? ⟨b, o + 4 * k, none⟩ = some (.int .u64 (kda m i).1.q) ∧ w.cell? ⟨b, o + 4 * k + 1, none⟩ = some (.int .i64 (kda m i).1.s) ∧ w.cell? ⟨b, o + 4 * k + 2, none⟩ = some (.int .i64 (kda m i).1.l) ∧ w.cell? ⟨b, o + 4 * k + 3, none⟩ = some (.int .u64 (kda m i).1.u)
  ws : ∀ (k i : Nat), l[k]? = some i → ∃ b o, aW = some ⟨b, o, none⟩ ∧ w.cell? ⟨b, o + k, none⟩ = some (.int .i64 i)
/-- what Load answers -/
def LdPost (m : Fm) (P : Pa.Pl) (w : World) (e : Ending) (w' : World) : Prop := w.grownBy w' none ∧ ∃ aL nL cL aW nW cW, e = .returned (.tuple #[.slice aL nL cL, .slice aW nW cW, .int .i64 (klo m P).2]) ∧ nL ≤ cL ∧ nW ≤ cW ∧ (∀ b o, aL = some ⟨b, o, none⟩ → w.heap.size ≤ b) ∧ (∀ b o, aW = some ⟨b, o, none⟩ → w.heap.size ≤ b) ∧ Lst w' m aL nL aW nW (klo m P).1
theorem Lst.none {w : World} {m : Fm} : Lst w m none 0 none 0 [] := ⟨rfl, rfl, fun k i h => by simp at h, fun k i h => by simp at h⟩
theorem ld_bad {w w' : World} {m : Fm} {P : Pa.Pl} {x : Int} (g : w.grownBy w' none) (h : klo m P = ([], x)) : LdPost m P w (.returned (.tuple #[.slice none 0 0, .slice none 0 0, .int .i64 x])) w' :=
  ⟨g, none, 0, 0, none, 0, 0, by rw [h], Nat.le_refl _, Nat.le_refl _, fun _ _ e => (by cases e), fun _ _ e => (by cases e), by rw [h]; exact Lst.none⟩
theorem load_cases (m : Fm) : ((kda m 0).2 ≠ 0 ∧ (kda m 1).2 ≠ 0 ∧ rch (kcp m 0) (kcp m 1) = (0, rc0, 4) ∧ kli m = []) ∨ ((kda m 0).2 = 0 ∧ rch (kcp m 0) (kcp m 1) = (0, (kda m 0).1, 0) ∧ (((kda m 1).2 ≠ 0 ∧ kli m = [0]) ∨ ((kda m 1).2 = 0 ∧ kli m = [0, 1]))) ∨ ((kda m 1).2 = 0 ∧ rch (kcp m 0) (kcp m 1) = (1, (kda m 1).1, 0) ∧ (((kda m 0).2 ≠ 0 ∧ kli m = [1]) ∨ ((kda m 0).2 = 0 ∧ kli m = [1, 0]))) := by
  by_cases h0 : (kda m 0).2 = 0
  · by_cases h1 : (kda m 1).2 = 0
    · by_cases hq : (kda m 0).1.q < (kda m 1).1.q
      · right; right
        have hf : kfi m = 1 := by unfold kfi; rw [if_pos ⟨h1, Or.inr hq⟩]
        refine ⟨h1, ?_, Or.inr ⟨h0, ?_⟩⟩
        · unfold kda at h0 h1 hq ⊢; unfold rch; rw [if_neg (fun x => x.1 h0), if_pos (Or.inr ⟨h1, hq⟩)]
        · unfold kli; rw [hf]; simp [h0, h1]
      · right; left
        have hf : kfi m = 0 := by unfold kfi; rw [if_neg (fun x => x.2.elim (fun y => y h0) hq)]
        refine ⟨h0, ?_, Or.inr ⟨h1, ?_⟩⟩
        · unfold kda at h0 h1 hq ⊢; unfold rch; rw [if_neg (fun x => x.1 h0), if_neg (fun x => x.elim (fun y => y h0) (fun y => hq y.2))]
        · unfold kli; rw [hf]; simp [h0, h1]
    · right; left
      have hf : kfi m = 0 := by unfold kfi; rw [if_neg (fun x => h1 x.1)]
      refine ⟨h0, ?_, Or.inl ⟨h1, ?_⟩⟩
      · unfold kda at h0 h1 ⊢; unfold rch; rw [if_neg (fun x => x.1 h0), if_neg (fun x => x.elim (fun y => y h0) (fun y => h1 y.1))]
      · unfold kli; rw [hf]; simp [h0, h1]
  · by_cases h1 : (kda m 1).2 = 0
    · right; right
      have hf : kfi m = 1 := by unfold kfi; rw [if_pos ⟨h1, Or.inl h0⟩]
      refine ⟨h1, ?_, Or.inl ⟨h0, ?_⟩⟩
      · unfold kda at h0 h1 ⊢; unfold rch; rw [if_neg (fun x => x.2 h1), if_pos (Or.inl h0)]
      · unfold kli; rw [hf]; simp [h0, h1]
    · left
      have hf : kfi m = 0 := by unfold kfi; rw [if_neg (fun x => h1 x.1)]
      refine ⟨h0, h1, ?_, ?_⟩
      · unfold kda at h0 h1; unfold rch; rw [if_pos ⟨h0, h1⟩]
      · unfold kli; rw [hf]; simp [h0, h1]
theorem two_new (W : World) (a b : List Value) (T U : TypeId) : Bx ((W.alloc (.cells a.toArray T)).alloc (.cells b.toArray U)) W.heap.size T a ∧ Bx ((W.alloc (.cells a.toArray T)).alloc (.cells b.toArray U)) (W.heap.size + 1) U b := by
  refine ⟨(Bx.new W T a).kept (World.grownBy_alloc _ _ _), ?_⟩
  have := Bx.new (W.alloc (.cells a.toArray T)) U b
  simpa only [World.size_alloc] using this
theorem ld_one {w W : World} {m : Fm} {P : Pa.Pl} {i : Nat} {q s l u e x : Int} (g : w.grownBy W none) (h : klo m P = ([i], 0)) (hd : kda m i = (⟨q, s, l, u⟩, e)) (hx : x = i) :
    LdPost m P w (.returned (.tuple #[.slice (some ⟨W.heap.size, 0, none⟩) 1 1, .slice (some ⟨W.heap.size + 1, 0, none⟩) 1 1, .int .i64 0])) ((W.alloc (.cells #[.int .u64 q, .int .i64 s, .int .i64 l, .int .u64 u] 26)).alloc (.cells #[.int .i64 x] 3)) := by
  obtain ⟨h1, h2⟩ := two_new W [.int .u64 q, .int .i64 s, .int .i64 l, .int .u64 u] [.int .i64 x] 26 3
  refine ⟨grown_trans g (grown_trans (World.grownBy_alloc _ _ _) (World.grownBy_alloc _ _ _)), _, _, _, _, _, _, by rw [h], Nat.le_refl _, Nat.le_refl _, fun _ _ e => by (injection e with e; injection e with e1; rw [← e1]; exact g.size), fun _ _ e => by (injection e with e; injection e with e1; rw [← e1]; exact Nat.le_succ_of_le g.size), ?_⟩
  rw [h]
  refine ⟨rfl, rfl, ?_, ?_⟩
  · intro k j hk
    obtain ⟨rfl, rfl⟩ : k = 0 ∧ i = j := by
      rcases k with _ | k
      · simpa using hk
      · simp at hk
    rw [hd]
    exact ⟨_, _, rfl, h1.c 0, h1.c 1, h1.c 2, h1.c 3⟩
  · intro k j hk
    obtain ⟨rfl, rfl⟩ : k = 0 ∧ i = j := by
      rcases k with _ | k
      · simpa using hk
      · simp at hk
    subst hx
    exact ⟨_, _, rfl, h2.c 0⟩
theorem ld_two {w W : World} {m : Fm} {P : Pa.Pl} {i j : Nat} {q s l u e q' s' l' u' e' x y : Int} (g : w.grownBy W none) (h : klo m P = ([i, j], 0)) (hd : kda m i = (⟨q, s, l, u⟩, e)) (hd' : kda m j = (⟨q', s', l', u'⟩, e')) (hx : x = i) (hy : y = j) :
    LdPost m P w (.returned (.tuple #[.slice (some ⟨W.heap.size, 0, none⟩) 2 2, .slice (some ⟨W.heap.size + 1, 0, none⟩) 2 2, .int .i64 0])) ((W.alloc (.cells #[.int .u64 q, .int .i64 s, .int .i64 l, .int .u64 u, .int .u64 q', .int .i64 s', .int .i64 l', .int .u64 u'] 26)).alloc (.cells #[.int .i64 x, .int .i64 y] 3)) := by
  obtain ⟨h1, h2⟩ := two_new W [.int .u64 q, .int .i64 s, .int .i64 l, .int .u64 u, .int .u64 q', .int .i64 s', .int .i64 l', .int .u64 u'] [.int .i64 x, .int .i64 y] 26 3
  refine ⟨grown_trans g (grown_trans (World.grownBy_alloc _ _ _) (World.grownBy_alloc _ _ _)), _, _, _, _, _, _, by rw [h], Nat.le_refl _, Nat.le_refl _, fun _ _ e => by (injection e with e; injection e with e1; rw [← e1]; exact g.size), fun _ _ e => by (injection e with e; injection e with e1; rw [← e1]; exact Nat.le_succ_of_le g.size), ?_⟩
  rw [h]
  refine ⟨rfl, rfl, ?_, ?_⟩
  · intro k c hk
    rcases k with _ | _ | k
    · obtain rfl : i = c := by simpa using hk
      rw [hd]
      exact ⟨_, _, rfl, h1.c 0, h1.c 1, h1.c 2, h1.c 3⟩
    · obtain rfl : j = c := by simpa using hk
      rw [hd']
      exact ⟨_, _, rfl, h1.c 4, h1.c 5, h1.c 6, h1.c 7⟩
    · simp at hk
  · intro k c hk
    rcases k with _ | _ | k
    · obtain rfl : i = c := by simpa using hk
      subst hx
      exact ⟨_, _, rfl, h2.c 0⟩
    · obtain rfl : j = c := by simpa using hk
      subst hy
      exact ⟨_, _, rfl, h2.c 1⟩
    · simp at hk
/-- a guard: the next operation stores a record -/
theorem rec_here {P : Program} {w : World} {ops : Array Oper} {rest : List Oper} {a : Act} {Q : Exit → Act → World → Prop} {dst : Option Nat} {x y : Operand} {type : TypeId} {pos : String} {after : Array Edge} {guard : Option (Nat × Bool)}
    (h : wpList P ops Q (⟨dst, .store 26 x y, type, pos, after, guard⟩ :: rest) a w) : wpList P ops Q (⟨dst, .store 26 x y, type, pos, after, guard⟩ :: rest) a w := h
theorem setRow_grown (w : World) (g : Nat) (cs : Array Value) : w.grownBy (w.setRow g cs) (some g) := ⟨rfl, rfl, rfl, by simp [World.setRow], fun k _ hk => setRow_other w g k _ (fun e => hk (by rw [e]))⟩
/-- a variable of several cells, stored whole -/
theorem wpList_store_bx {P : Program} {ops : Array Oper} {rest : List Oper} {o : Oper} {a : Act} {w : World} {Q : Exit → Act → World → Prop} (hgd : o.guard = none) (ty : TypeId) (x y : Operand) (ho : o.op = .store ty x y)
    (g : Nat) (cs : List Value) (hx : a.eval x = .pointer (some ⟨g, 0, none⟩)) (hy : a.eval y = .agg cs.toArray) {T : TypeId} {old : List Value} (hb : Bx w g T old) (hi : (P.info? ty).map (·.size) = some cs.length)
    (hl : old.length = cs.length) (h1 : cs.all (·.oneCell') = true)
    (h : ∀ W', Bx W' g T cs → w.grownBy W' (some g) → wpList P ops Q rest (a.put o.dst undef) W') : wpList P ops Q (o :: rest) a w :=
  wpList_store_row hgd ty x y ho g cs.toArray hx hy T old.toArray hb.blk (by rw [List.size_toArray]; exact hi) (by simp [hl]) (by rw [List.all_toArray]; exact h1) (h _ ⟨setRow_heap _ _ _ _ _ _ hb.blk⟩ (setRow_grown w g cs.toArray))
theorem rec_size : (Try.prog.info? 26).map (·.size) = some 4 := by kernel_rfl
theorem Bx.but {W W' : World} {g g' : Nat} {T : TypeId} {cs : List Value} (h : Bx W g T cs) (hg : W.grownBy W' (some g')) (hn : g ≠ g') : Bx W' g T cs := ⟨by rw [hg.block g h.lt (by simpa using hn)]; exact h.blk⟩
end Go.Proofs.Ytfhgbddeclldnaa

namespace Go.Proofs.Ytfhgbddeclldnaa
open Go.RowKit
set_option maxRecDepth 100000
set_option linter.unusedSimpArgs false
set_option linter.unusedVariables false

def fz : List Value := [.int .i64 0, .int .i64 0, .int .i64 0, .slice none 0 0, .slice none 0 0, .slice none 0 0, .int .i64 0, .bool false, .int .i64 0, .slice none 0 0]
/-- F, and the four variables of a call -/
def own4 (F : Nat → Prop) (w : World) : Nat → Prop := fun x => F x ∨ (w.heap.size ≤ x ∧ x < w.heap.size + 4)
theorem own4_lt {F : Nat → Prop} {w W : World} (hF : ∀ x, F x → x < w.heap.size) (g : w.grownBy W none) (h : w.heap.size + 4 ≤ W.heap.size) : ∀ x, own4 F w x → x < W.heap.size := by
  rintro x (hx | hx)
  · exact Nat.lt_of_lt_of_le (hF x hx) g.size
  · omega
theorem Rep.own {w : World} {v : Value} {m : Fm} {F : Nat → Prop} {k : Nat} (h : Rep w v m F) (hg : m.Good k) : Rep w v m (own4 F w) := h.fresh hg (fun x hx => hx.elim Or.inl (fun y => Or.inr y.1))
theorem Rep.stored {W W' : World} {v : Value} {m : Fm} {F : Nat → Prop} {g : Nat} (h : Rep W v m F) (hg : W.grownBy W' (some g)) (hF : F g) : Rep W' v m F := h.but (fun k hk hn => hg.block k hk (by intro e; injection e with e; subst e; exact hn hF))
theorem Rep.back {W : World} {v : Value} {m : Fm} {F : Nat → Prop} {w : World} (h : Rep W v m (own4 F w)) : Rep W v m F := h.less (fun k hk => Or.inl hk)
theorem ifw {c : Prop} [Decidable c] {a b : Prop} (hc : c) (h : a) : if c then a else b := by rw [if_pos hc]; exact h
theorem op_store_bx {P : Program} {o : Oper} {a : Act} {w : World} {K : Act → World → Prop} {Q : Exit → Act → World → Prop} (ty : TypeId) (x y : Operand) (ho : o.op = .store ty x y)
    (g : Nat) (cs : List Value) (hx : a.eval x = .pointer (some ⟨g, 0, none⟩)) (hy : a.eval y = .agg cs.toArray) {T : TypeId} {old : List Value} (hb : Bx w g T old) (hi : (P.info? ty).map (·.size) = some cs.length)
    (hl : old.length = cs.length) (h1 : cs.all (·.oneCell') = true)
    (h : ∀ W', Bx W' g T cs → w.grownBy W' (some g) → K (a.put o.dst undef) W') : o.wp P a w K Q :=
  wp_store_row ty x y ho g cs.toArray hx hy T old.toArray hb.blk (by rw [List.size_toArray]; exact hi) (by simp [hl]) (by rw [List.all_toArray]; exact h1) (h _ ⟨setRow_heap _ _ _ _ _ _ hb.blk⟩ (setRow_grown w g cs.toArray))
/-- a record in its variable -/
theorem rec4 {W : World} {g : Nat} {T : TypeId} {q s l u : Int} (h : Bx W g T (Rc.cells ⟨q, s, l, u⟩)) : W.cell? ⟨g, 0, none⟩ = some (.int .u64 q) ∧ W.cell? ⟨g, 1, none⟩ = some (.int .i64 s) ∧ W.cell? ⟨g, 2, none⟩ = some (.int .i64 l) ∧ W.cell? ⟨g, 3, none⟩ = some (.int .u64 u) := bx4 h
/-- what Write, Switch, Repair answer -/
def WrPost (n : Fm) (x : Int) (F : Nat → Prop) (w : World) (e : Ending) (w' : World) : Prop := ∃ v', e = .returned (.tuple #[v', .int .i64 x]) ∧ w.grownBy w' none ∧ Rep w' v' n F
end Go.Proofs.Ytfhgbddeclldnaa

namespace Go.Proofs.Ytfhgbddeclldnaa
open Go.RowKit
set_option maxRecDepth 100000
set_option linter.unusedSimpArgs false
set_option linter.unusedVariables false

theorem good_kwr {m : Fm} {k : Nat} (hg : m.Good k) (P : Pa.Pl) (i : Int) (r : Rc) : (kwr m P i r).1.Good (k + 2) := by
  unfold kwr
  split
  · exact hg.mono (by omega)
  · split
    · exact (Fm.good_erase hg i).mono (by omega)
    · exact Fm.good_write (Fm.good_erase hg i) _ _
theorem like_kwr (m : Fm) (P : Pa.Pl) (i : Int) (r : Rc) : Like m (kwr m P i r).1 := by
  unfold kwr
  split
  · exact Like.refl m
  · split
    · exact like_erase m i
    · exact (like_erase m i).trans (like_write _ _ _)
/-- the j-th copy that Switch, Repair write -/
def kor (m : Fm) (j : Nat) : Nat := if j = 0 then 1 - kfi m else kfi m
/-- what is left to do ahead of the j-th -/
def krs (m : Fm) (P : Pa.Pl) (r : Rc) (all : Bool) (j : Nat) (n : Fm) : Fm × Int :=
  if j = 0 then (if (kon m P r all (1 - kfi m) n).2 ≠ 0 then kon m P r all (1 - kfi m) n else kon m P r all (kfi m) (kon m P r all (1 - kfi m) n).1) else if j = 1 then kon m P r all (kfi m) n else (n, 0)
theorem krs_step (m : Fm) (P : Pa.Pl) (r : Rc) (all : Bool) (j : Nat) (hj : j < 2) (n : Fm) : krs m P r all j n = if (kon m P r all (kor m j) n).2 ≠ 0 then kon m P r all (kor m j) n else krs m P r all (j + 1) (kon m P r all (kor m j) n).1 := by
  obtain rfl | rfl : j = 0 ∨ j = 1 := by omega
  · rfl
  · show kon m P r all (kfi m) n = if (kon m P r all (kfi m) n).2 ≠ 0 then kon m P r all (kfi m) n else ((kon m P r all (kfi m) n).1, 0)
    split
    · rfl
    · rename_i h
      exact Prod.ext rfl (by simpa using h)
/-- which of the first k copies that are told are i, and tell r? -/
def khk (m : Fm) (r : Rc) (i : Nat) (l : List Nat) (k : Nat) : Bool := (l.take k).any fun x => decide (x = i) && (kda m x).1.same r
theorem khk_step {m : Fm} {r : Rc} {i : Nat} {l : List Nat} {k x : Nat} (h : l[k]? = some x) : khk m r i l (k + 1) = (khk m r i l k || (decide (x = i) && (kda m x).1.same r)) := by
  unfold khk
  rw [List.take_add_one, h, List.any_append]
  simp
theorem khk_all {m : Fm} {r : Rc} {i : Nat} (hi : i < 2) : khk m r i (kli m) (kli m).length = khs m i r := by
  unfold khk khs
  rw [List.take_length]
  rcases load_cases m with ⟨h0, h1, -, hl⟩ | ⟨h0, -, ⟨h1, hl⟩ | ⟨h1, hl⟩⟩ | ⟨h0, -, ⟨h1, hl⟩ | ⟨h1, hl⟩⟩
  all_goals
    rw [hl]
    obtain rfl | rfl : i = 0 ∨ i = 1 := by omega
    all_goals simp [h0, h1]
theorem kfi_head (m : Fm) : (kli m).head?.getD 0 = kfi m := by
  have hf := kfi_lt m
  rcases load_cases m with ⟨h0, h1, -, hl⟩ | ⟨h0, -, ⟨h1, hl⟩ | ⟨h1, hl⟩⟩ | ⟨h0, -, ⟨h1, hl⟩ | ⟨h1, hl⟩⟩
  · rw [hl]; unfold kfi; rw [if_neg (fun x => h1 x.1)]; rfl
  · rw [hl]; unfold kfi; rw [if_neg (fun x => h1 x.1)]; rfl
  · rw [hl]
    obtain h | h : kfi m = 0 ∨ kfi m = 1 := by omega
    · rw [h]; rfl
    · unfold kli at hl; rw [h] at hl; simp [h0, h1] at hl
  · rw [hl]; unfold kfi; rw [if_pos ⟨h0, Or.inl h1⟩]; rfl
  · rw [hl]
    obtain h | h : kfi m = 0 ∨ kfi m = 1 := by omega
    · unfold kli at hl; rw [h] at hl; simp [h0, h1] at hl
    · rw [h]; rfl
theorem kli_le (m : Fm) : (kli m).length ≤ 2 := by
  rcases load_cases m with ⟨h0, h1, -, hl⟩ | ⟨h0, -, ⟨h1, hl⟩ | ⟨h1, hl⟩⟩ | ⟨h0, -, ⟨h1, hl⟩ | ⟨h1, hl⟩⟩
  all_goals
    rw [hl]
    simp
theorem kli_lt (m : Fm) : ∀ x ∈ kli m, x < 2 := by
  rcases load_cases m with ⟨h0, h1, -, hl⟩ | ⟨h0, -, ⟨h1, hl⟩ | ⟨h1, hl⟩⟩ | ⟨h0, -, ⟨h1, hl⟩ | ⟨h1, hl⟩⟩
  all_goals
    rw [hl]
    simp
theorem Lst.kept {w W : World} {m : Fm} {aL aX : Option Addr} {nL nX : Nat} {l : List Nat} (h : Lst w m aL nL aX nX l) (hg : w.grownBy W Option.none) : Lst W m aL nL aX nX l := by
  refine ⟨h.nL, h.nW, fun k i hk => ?_, fun k i hk => ?_⟩
  · obtain ⟨b, o, e, h1, h2, h3, h4⟩ := h.rs k i hk
    exact ⟨b, o, e, by rw [World.cell?_of_block (hg.block b (cell_lt h1) (by simp))]; exact h1, by rw [World.cell?_of_block (hg.block b (cell_lt h1) (by simp))]; exact h2, by rw [World.cell?_of_block (hg.block b (cell_lt h1) (by simp))]; exact h3, by rw [World.cell?_of_block (hg.block b (cell_lt h1) (by simp))]; exact h4⟩
  · obtain ⟨b, o, e, h1⟩ := h.ws k i hk
    exact ⟨b, o, e, by rw [World.cell?_of_block (hg.block b (cell_lt h1) (by simp))]; exact h1⟩
theorem Lst.but {w W : World} {m : Fm} {aL aX : Option Addr} {nL nX g : Nat} {l : List Nat} (h : Lst w m aL nL aX nX l) (hg : w.grownBy W (some g)) (n1 : ∀ b o, aL = some ⟨b, o, Option.none⟩ → g < b) (n2 : ∀ b o, aX = some ⟨b, o, Option.none⟩ → g < b) : Lst W m aL nL aX nX l := by
  refine ⟨h.nL, h.nW, fun k i hk => ?_, fun k i hk => ?_⟩
  · obtain ⟨b, o, e, h1, h2, h3, h4⟩ := h.rs k i hk
    have hn : (some b : Option Nat) ≠ some g := by have := n1 b o e; intro x; injection x with x; omega
    exact ⟨b, o, e, by rw [World.cell?_of_block (hg.block b (cell_lt h1) hn)]; exact h1, by rw [World.cell?_of_block (hg.block b (cell_lt h1) hn)]; exact h2, by rw [World.cell?_of_block (hg.block b (cell_lt h1) hn)]; exact h3, by rw [World.cell?_of_block (hg.block b (cell_lt h1) hn)]; exact h4⟩
  · obtain ⟨b, o, e, h1⟩ := h.ws k i hk
    have hn : (some b : Option Nat) ≠ some g := by have := n2 b o e; intro x; injection x with x; omega
    exact ⟨b, o, e, by rw [World.cell?_of_block (hg.block b (cell_lt h1) hn)]; exact h1⟩
theorem bx2 {W : World} {g : Nat} {T : TypeId} {a b : Value} (h : Bx W g T [a, b]) : W.cell? ⟨g, 0, none⟩ = some a ∧ W.cell? ⟨g, 1, none⟩ = some b := ⟨h.c 0, h.c 1⟩
theorem Rep.byt {w : World} {v : Value} {m : Fm} {F : Nat → Prop} (h : Rep w v m F) : Byt m.B := by
  obtain ⟨bb, bo, cB, db, dof, cD, wb, wof, cW, aT, cT, rfl, h1, _⟩ := h
  exact h1.byt
theorem kda_ok {m : Fm} (h : Byt m.B) (x : Nat) : (kda m x).1.ok := (rde_ok ((h.drop _).take _)).1
end Go.Proofs.Ytfhgbddeclldnaa
