/- keep, over a flash without memory. The document's flash in memory, away from the blocks F; its calls. Two plans held against each other. The document's keep: is the plan right and of this flash; a copy's bytes. -/
import Derived.DeepKeys
import Derived.Laws.StructEq
import Derived.Deep.RegionHeld3
import Derived.Test.YtfhgbddeclldnaaGreatQ06
import Derived.Test.YtfhgbddeclldnaaGreatQ07
import Derived.Test.YtfhgbddeclldnaaGreatQ08
namespace Go.Proofs.YtfhgbddeclldnaaGreat
open Go.RowKit
set_option maxRecDepth 100000
set_option linter.unusedSimpArgs false
set_option linter.unusedVariables false

/-- is the plan right, and of this flash? -/
def kok (m : Fm) (P : Pa.Pl) : Bool := Pa.rgt P && decide (P.s = m.s ∧ P.p = m.p ∧ P.b = m.b)
/-- a copy's first bytes -/
def kcp (m : Fm) (i : Nat) : List Int := (m.B.drop (i * (m.p * m.b))).take 32
/-- what a copy tells -/
def kda (m : Fm) (i : Nat) : Rc × Int := rde (kcp m i)
/-- which copy comes first (0, if none is told) -/
def kfi (m : Fm) : Nat := if (kda m 1).2 = 0 ∧ ((kda m 0).2 ≠ 0 ∨ (kda m 0).1.q < (kda m 1).1.q) then 1 else 0
/-- the copies that are told, in their order -/
def kli (m : Fm) : List Nat := [kfi m, 1 - kfi m].filter fun i => decide ((kda m i).2 = 0)
/-- Load -/
def klo (m : Fm) (P : Pa.Pl) : List Nat × Int := if kok m P = false then ([], 1) else if m.off then ([], 40) else (kli m, 0)
/-- Write -/
def kwr (m : Fm) (P : Pa.Pl) (i : Int) (r : Rc) : Fm × Int :=
  if kok m P = false ∨ i < 0 ∨ 1 < i ∨ rrt r = false then (m, 1) else if (m.erase i).2 ≠ 0 then m.erase i else (m.erase i).1.write (i * m.p) (rby r)
/-- does copy i tell r? -/
def khs (m : Fm) (i : Nat) (r : Rc) : Bool := decide ((kda m i).2 = 0) && (kda m i).1.same r
/-- one of the two writes of a Switch (all), of a Repair -/
def kon (m : Fm) (P : Pa.Pl) (r : Rc) (all : Bool) (i : Nat) (n : Fm) : Fm × Int := if !all && khs m i r then (n, 0) else kwr n P i r
/-- Switch (all), Repair -/
def krn (m : Fm) (P : Pa.Pl) (r : Rc) (all : Bool) : Fm × Int :=
  if kok m P = false ∨ rrt r = false then (m, 1) else if m.off then (m, 40) else if (kon m P r all (1 - kfi m) m).2 ≠ 0 then kon m P r all (1 - kfi m) m else kon m P r all (kfi m) (kon m P r all (1 - kfi m) m).1

theorem kfi_lt (m : Fm) : kfi m < 2 := by unfold kfi; split <;> omega
theorem kok_facts {m : Fm} {P : Pa.Pl} (h : kok m P = true) : Pa.rgt P = true ∧ P.s = m.s ∧ P.p = m.p ∧ P.b = m.b ∧ 4 ≤ m.s ∧ 64 ≤ m.b ∧ P.x0 = 0 ∧ P.x1 = 1 := by
  unfold kok at h
  rw [Bool.and_eq_true, decide_eq_true_iff] at h
  obtain ⟨f1, f2, f3, f4, f5, -⟩ := Pa.rgt_facts h.1
  exact ⟨h.1, h.2.1, h.2.2.1, h.2.2.2, by omega, by omega, f4, f5⟩
/-- a flash that differs only in what it holds -/
structure Like (m n : Fm) : Prop where
  s : n.s = m.s
  p : n.p = m.p
  b : n.b = m.b
theorem Like.refl (m : Fm) : Like m m := ⟨rfl, rfl, rfl⟩
theorem Like.trans {a b c : Fm} (h : Like a b) (k : Like b c) : Like a c := ⟨k.s.trans h.s, k.p.trans h.p, k.b.trans h.b⟩
theorem Like.kok {m n : Fm} (h : Like m n) (P : Pa.Pl) : kok n P = kok m P := by unfold Proofs.YtfhgbddeclldnaaGreat.kok; rw [h.s, h.p, h.b]
theorem like_erase (m : Fm) (i : Int) : Like m (m.erase i).1 := by
  unfold Fm.erase
  split
  · exact ⟨rfl, rfl, rfl⟩
  · exact Like.refl m
theorem like_write (m : Fm) (i : Int) (ys : List Int) : Like m (m.write i ys).1 := by
  unfold Fm.write
  split
  · exact ⟨rfl, rfl, rfl⟩
  · exact Like.refl m
/-- bytes of copy j where those of B are kept -/
theorem cp_keep {B B' : List Int} {a : Nat} (h : ∀ k, a ≤ k → k < a + 32 → B'[k]? = B[k]?) : (B'.drop a).take 32 = (B.drop a).take 32 := by
  apply List.ext_getElem?
  intro i
  rw [List.getElem?_take, List.getElem?_take]
  by_cases hi : i < 32
  · rw [if_pos hi, if_pos hi, List.getElem?_drop, List.getElem?_drop]
    exact h _ (by omega) (by omega)
  · rw [if_neg hi, if_neg hi]
theorem pb32 {m : Fm} {k : Nat} (hg : m.Good k) (hb : 64 ≤ m.b) : 64 ≤ m.p * m.b := by
  have := Nat.mul_le_mul hg.p.1 hb
  omega
theorem cp_erase {m : Fm} {k : Nat} (hg : m.Good k) (hb : 64 ≤ m.b) (hs : 4 ≤ m.s) {i j : Nat} (hi : i < 2) (hj : j < 2) (hij : i ≠ j) : kcp (m.erased i) j = kcp m j := by
  have h32 := pb32 hg hb
  refine cp_keep fun x h1 h2 => Fm.erase_keeps hg (by rw [hg.lW]; omega) x ?_
  show x < i * (m.p * m.b) ∨ i * (m.p * m.b) + m.p * m.b ≤ x
  change j * (m.p * m.b) ≤ x at h1
  change x < j * (m.p * m.b) + 32 at h2
  generalize m.p * m.b = q at *
  obtain ⟨rfl, rfl⟩ | ⟨rfl, rfl⟩ : (i = 0 ∧ j = 1) ∨ (i = 1 ∧ j = 0) := by omega
  · omega
  · omega
theorem cp_write {m : Fm} {k : Nat} (hg : m.Good k) (hb : 64 ≤ m.b) (hs : 4 ≤ m.s) {i j : Nat} (hi : i < 2) (hj : j < 2) (hij : i ≠ j) {ys : List Int} (hy : ys.length ≤ m.b) : kcp (m.written (i * m.p) ys) j = kcp m j := by
  have h32 := pb32 hg hb
  have hp := hg.p
  have hD : i * m.p < m.D.length := by
    rw [hg.lD]
    exact Nat.mul_lt_mul_of_pos_right (by omega) hp.1
  have hq : m.b ≤ m.p * m.b := Nat.le_mul_of_pos_left _ hp.1
  refine cp_keep fun x h1 h2 => Fm.write_keeps hg hD hy x ?_
  rw [Nat.mul_assoc]
  change j * (m.p * m.b) ≤ x at h1
  change x < j * (m.p * m.b) + 32 at h2
  generalize m.p * m.b = q at *
  obtain ⟨rfl, rfl⟩ | ⟨rfl, rfl⟩ : (i = 0 ∧ j = 1) ∨ (i = 1 ∧ j = 0) := by omega
  · omega
  · omega
/-- a page that was written whole: the copy's bytes -/
theorem cp_written {m : Fm} {k : Nat} (hg : m.Good k) (hb : 64 ≤ m.b) (hs : 4 ≤ m.s) {i : Nat} (hi : i < 2) {ys : List Int} (hy : ys.length = 32) (ha : m.after ≠ 1) : kcp (m.written (i * m.p) ys) i = ys := by
  have hp := hg.p
  have hfit : i * m.p * m.b + m.b ≤ m.B.length := by
    rw [hg.lB]
    have : i * m.p + 1 ≤ m.s * m.p := by
      have := Nat.mul_le_mul_right m.p (show i + 1 ≤ m.s by omega)
      rw [Nat.add_mul, Nat.one_mul] at this
      omega
    have := Nat.mul_le_mul_right m.b this
    rwa [Nat.add_mul, Nat.one_mul] at this
  show (((m.B.take (i * m.p * m.b) ++ m.page ys ++ m.B.drop (i * m.p * m.b + m.b)).drop (i * (m.p * m.b))).take 32) = ys
  rw [← Nat.mul_assoc]
  have e : m.page ys = ys ++ ffs (m.b - ys.length) := by unfold Fm.page; rw [if_neg ha]
  rw [e, List.append_assoc, List.drop_append_of_le_length (by simp; omega), List.drop_eq_nil_of_le (by simp; omega), List.nil_append, List.append_assoc, List.take_append_of_le_length (by omega), List.take_of_length_le (by omega)]
theorem kwr_bad {m : Fm} {P : Pa.Pl} {i : Int} {r : Rc} (h : kok m P = false ∨ i < 0 ∨ 1 < i ∨ rrt r = false) : kwr m P i r = (m, 1) := by unfold kwr; rw [if_pos h]
theorem erE_two {m : Fm} {k : Nat} (hg : m.Good k) (hs : 4 ≤ m.s) {i : Nat} (hi : i < 2) : m.erE i = if m.off then 40 else 0 := by
  unfold Fm.erE erE
  rw [if_neg (by rw [hg.lW]; omega)]
theorem wrE_two {m : Fm} {k : Nat} (hg : m.Good k) (hb : 64 ≤ m.b) (hs : 4 ≤ m.s) {i : Nat} (hi : i < 2) {ys : List Int} (hy : ys.length = 32) (hd : m.D[i * m.p]? = some false) (ho : m.off = false) : m.wrE ((i : Int) * m.p) ys = 0 := by
  have hp := hg.p
  have hD : i * m.p < m.D.length := by
    rw [hg.lD]
    exact Nat.mul_lt_mul_of_pos_right (by omega) hp.1
  unfold Fm.wrE wrE
  have e : (i : Int) * m.p = ((i * m.p : Nat) : Int) := by simp
  rw [e, if_neg (by omega), if_neg (by omega), ho, if_neg (by simp), Int.toNat_natCast, List.getD_eq_getElem?_getD, hd]
  rfl
theorem er_fresh {m : Fm} {k : Nat} (hg : m.Good k) (hs : 4 ≤ m.s) {i : Nat} (hi : i < 2) (ha : m.after ≠ 1) : (m.erased i).D[i * m.p]? = some false := by
  have hp := hg.p
  have hfit : i * m.p + m.p ≤ m.D.length := by
    rw [hg.lD]
    have := Nat.mul_le_mul_right m.p (show i + 1 ≤ m.s by omega)
    rwa [Nat.add_mul, Nat.one_mul] at this
  show (drg m.D (i * m.p) (decide (m.after = 1)) m.p)[i * m.p]? = some false
  rw [decide_eq_false ha]
  unfold drg
  rw [splice_in m.D (List.replicate m.p false) (i * m.p) m.p (i * m.p) (by simp) hfit (Nat.le_refl _) (by omega), Nat.sub_self, List.getElem?_replicate, if_pos hp.1]
/-- Write, where the power is on -/
theorem kwr_on {m : Fm} {P : Pa.Pl} {k : Nat} {i : Nat} {r : Rc} (hg : m.Good k) (hk : kok m P = true) (hi : i < 2) (hr : rrt r = true) (ho : m.off = false) :
    (m.after = 1 ∧ kwr m P i r = (m.erased i, 40)) ∨ (m.after ≠ 1 ∧ kwr m P i r = ((m.erased i).written (i * m.p) (rby r), if (m.erased i).after = 1 then 40 else 0)) := by
  obtain ⟨-, -, -, -, hs, hb, -, -⟩ := kok_facts hk
  have hE := erE_two hg hs hi
  rw [ho] at hE
  have e0 : m.erase i = (m.erased i, m.torn) := by
    unfold Fm.erase
    rw [if_pos (by rw [hE]; rfl)]
    rfl
  unfold kwr
  rw [if_neg (by rw [hk, hr]; simp; omega), e0]
  by_cases ha : m.after = 1
  · left
    refine ⟨ha, ?_⟩
    have : m.torn = 40 := by unfold Fm.torn; rw [if_pos ha]
    rw [this]
    rfl
  · right
    refine ⟨ha, ?_⟩
    have ht : m.torn = 0 := by unfold Fm.torn; rw [if_neg ha]
    rw [ht, if_neg (by simp)]
    have hg2 : (m.erased i).Good (k + 1) := by
      have := Fm.good_erase hg (i : Int)
      rw [e0] at this
      exact this
    have hw := wrE_two hg2 (i := i) (ys := rby r) (by exact hb) (by exact hs) hi (rby_len r) (er_fresh hg hs hi ha) (decide_eq_false ha)
    show Fm.write (m.erased i) ((i : Int) * m.p) (rby r) = _
    unfold Fm.write
    rw [if_pos (show (m.erased i).wrE ((i : Int) * m.p) (rby r) = 0 from hw)]
    have e : ((i : Int) * m.p).toNat = i * m.p := by rw [show (i : Int) * m.p = ((i * m.p : Nat) : Int) by simp]; rfl
    show ((m.erased i).written ((i : Int) * m.p).toNat (rby r), _) = _
    rw [e]
    rfl
end Go.Proofs.YtfhgbddeclldnaaGreat

namespace Go.Proofs.YtfhgbddeclldnaaGreat
open Go.RowKit
set_option maxRecDepth 100000
set_option linter.unusedSimpArgs false
set_option linter.unusedVariables false

/-- the document's flash v, in memory, is m; it has no block of F -/
def Rep (w : World) (v : Value) (m : Fm) (F : Nat → Prop) : Prop :=
  ∃ bb bo cB db dof cD wb wof cW aT cT, v = .agg #[.int .i64 m.s, .int .i64 m.p, .int .i64 m.b, .slice (some ⟨bb, bo, none⟩) m.B.length cB, .slice (some ⟨db, dof, none⟩) m.D.length cD, .slice (some ⟨wb, wof, none⟩) m.W.length cW, .int .i64 m.ops, .bool m.off, .int .i64 m.after, .slice aT m.T.length cT] ∧ Row w (some ⟨bb, bo, none⟩) m.B.length m.B ∧ m.B.length ≤ cB ∧ cB ≤ maxLen ∧ RowE Value.bool w (some ⟨db, dof, none⟩) m.D.length m.D ∧ RowE (Value.int .i64) w (some ⟨wb, wof, none⟩) m.W.length m.W ∧ Row w aT m.T.length m.T ∧ ¬ F bb ∧ ¬ F db ∧ ¬ F wb ∧ (∀ tb tof, aT = some ⟨tb, tof, none⟩ → 0 < m.T.length → ¬ F tb)
theorem Row.but {w w' : World} {a : Option Addr} {n : Nat} {xs : List Int} (h : Row w a n xs) (hw : ∀ b off, a = some ⟨b, off, none⟩ → b < w.heap.size → w'.heap[b]? = w.heap[b]?) : Row w' a n xs := by
  refine ⟨h.len_eq, h.le, h.byt, fun h0 => ?_⟩
  obtain ⟨b, off, e, hc⟩ := h.cells h0
  exact ⟨b, off, e, fun k hk => by rw [World.cell?_of_block (hw b off e (cell_lt (hc k hk)))]; exact hc k hk⟩
theorem Row.but' {w w' : World} {a : Option Addr} {n : Nat} {xs : List Int} (h : Row w a n xs) (hw : ∀ b off, a = some ⟨b, off, none⟩ → 0 < n → b < w.heap.size → w'.heap[b]? = w.heap[b]?) : Row w' a n xs := by
  refine ⟨h.len_eq, h.le, h.byt, fun h0 => ?_⟩
  obtain ⟨b, off, e, hc⟩ := h.cells h0
  exact ⟨b, off, e, fun k hk => by rw [World.cell?_of_block (hw b off e h0 (cell_lt (hc k hk)))]; exact hc k hk⟩
theorem RowE.but {α : Type} {enc : α → Value} {w w' : World} {a : Option Addr} {n : Nat} {xs : List α} (h : RowE enc w a n xs) (hw : ∀ b off, a = some ⟨b, off, none⟩ → b < w.heap.size → w'.heap[b]? = w.heap[b]?) : RowE enc w' a n xs := by
  refine ⟨h.len_eq, h.le, fun h0 => ?_⟩
  obtain ⟨b, off, e, hc⟩ := h.cells h0
  exact ⟨b, off, e, fun k x hk => by rw [World.cell?_of_block (hw b off e (cell_lt (hc k x hk)))]; exact hc k x hk⟩
/-- where only blocks of F were written, and new ones made, it stands -/
theorem Rep.but {w w' : World} {v : Value} {m : Fm} {F : Nat → Prop} (h : Rep w v m F) (hw : ∀ k, k < w.heap.size → ¬ F k → w'.heap[k]? = w.heap[k]?) : Rep w' v m F := by
  obtain ⟨bb, bo, cB, db, dof, cD, wb, wof, cW, aT, cT, rfl, h1, h2, h3, h4, h5, h6, n1, n2, n3, n4⟩ := h
  refine ⟨bb, bo, cB, db, dof, cD, wb, wof, cW, aT, cT, rfl, h1.but ?_, h2, h3, h4.but ?_, h5.but ?_, h6.but' ?_, n1, n2, n3, n4⟩
  · intro b off e hb; injection e with e; injection e with e1 e2; subst e1; exact hw _ hb n1
  · intro b off e hb; injection e with e; injection e with e1 e2; subst e1; exact hw _ hb n2
  · intro b off e hb; injection e with e; injection e with e1 e2; subst e1; exact hw _ hb n3
  · intro b off e h0 hb; exact hw _ hb (n4 b off e h0)
theorem Rep.grown {w w' : World} {v : Value} {m : Fm} {F : Nat → Prop} (h : Rep w v m F) (hg : w.grownBy w' none) : Rep w' v m F := h.but fun k hk _ => hg.block k hk (by simp)
theorem Rep.less {w : World} {v : Value} {m : Fm} {F F' : Nat → Prop} (h : Rep w v m F) (hF : ∀ k, F' k → F k) : Rep w v m F' := by
  obtain ⟨bb, bo, cB, db, dof, cD, wb, wof, cW, aT, cT, rfl, h1, h2, h3, h4, h5, h6, n1, n2, n3, n4⟩ := h
  exact ⟨bb, bo, cB, db, dof, cD, wb, wof, cW, aT, cT, rfl, h1, h2, h3, h4, h5, h6, fun x => n1 (hF _ x), fun x => n2 (hF _ x), fun x => n3 (hF _ x), fun tb tof e h0 x => n4 tb tof e h0 (hF _ x)⟩
/-- what is new lies in none of its blocks -/
theorem Rep.fresh {w : World} {v : Value} {m : Fm} {F F' : Nat → Prop} {k : Nat} (h : Rep w v m F) (hg : m.Good k) (hF : ∀ x, F' x → F x ∨ w.heap.size ≤ x) : Rep w v m F' := by
  obtain ⟨bb, bo, cB, db, dof, cD, wb, wof, cW, aT, cT, rfl, h1, h2, h3, h4, h5, h6, n1, n2, n3, n4⟩ := h
  have hB : 0 < m.B.length := by have := hg.lB; have := hg.spb; omega
  have hD : 0 < m.D.length := by have := hg.lD; have := hg.sp; omega
  have hW : 0 < m.W.length := by have := hg.lW; have := hg.s; omega
  refine ⟨bb, bo, cB, db, dof, cD, wb, wof, cW, aT, cT, rfl, h1, h2, h3, h4, h5, h6, fun x => ?_, fun x => ?_, fun x => ?_, fun tb tof e h0 x => ?_⟩
  · rcases hF _ x with y | y
    · exact n1 y
    · obtain ⟨b', o', e, hc⟩ := h1.cells hB
      injection e with e
      injection e with e1 e2
      subst e1
      have := cell_lt (hc 0 hB)
      omega
  · rcases hF _ x with y | y
    · exact n2 y
    · obtain ⟨b', o', e, hc⟩ := h4.cells hD
      injection e with e
      injection e with e1 e2
      subst e1
      have := cell_lt (hc 0 _ (List.getElem?_eq_getElem hD))
      omega
  · rcases hF _ x with y | y
    · exact n3 y
    · obtain ⟨b', o', e, hc⟩ := h5.cells hW
      injection e with e
      injection e with e1 e2
      subst e1
      have := cell_lt (hc 0 _ (List.getElem?_eq_getElem hW))
      omega
  · rcases hF _ x with y | y
    · exact n4 tb tof e h0 y
    · obtain ⟨b', o', e', hc⟩ := h6.cells h0
      rw [e] at e'
      injection e' with e'
      injection e' with e1 e2
      subst e1
      have := cell_lt (hc 0 h0)
      omega
/-- its form -/
theorem Rep.shape {w : World} {v : Value} {m : Fm} {F : Nat → Prop} (h : Rep w v m F) : ∃ (s p b ops after : Int) (off : Bool) (aB aD aW aT : Option Addr) (lB cB lD cD lW cW lT cT : Nat), v = .agg #[.int .i64 s, .int .i64 p, .int .i64 b, .slice aB lB cB, .slice aD lD cD, .slice aW lW cW, .int .i64 ops, .bool off, .int .i64 after, .slice aT lT cT] := by
  obtain ⟨bb, bo, cB, db, dof, cD, wb, wof, cW, aT, cT, rfl, _⟩ := h
  exact ⟨_, _, _, _, _, _, _, _, _, _, _, _, _, _, _, _, _, _, rfl⟩
/-- the document's Write -/
theorem rep_write {w : World} {v : Value} {m : Fm} {F : Nat → Prop} {k : Nat} (h : Rep w v m F) (hg : m.Good k) (hk : k < 1000000) (hF : ∀ x, F x → x < w.heap.size) (page : Int) (hp : -9223372036854775808 ≤ page ∧ page ≤ 9223372036854775807) (a2 : Option Addr) (c2 : Nat) (ys : List Int) (RY : Row w a2 ys.length ys) (hn2 : a2 = none → c2 = 0) :
    Calls Tryz.prog 26 #[v, .int .i64 page, .slice a2 ys.length c2] w fun e w' => ∃ v', e = .returned (.tuple #[v', .int .i64 (m.write page ys).2]) ∧ w.grownBy w' none ∧ Rep w' v' (m.write page ys).1 F := by
  obtain ⟨bb, bo, cB, db, dof, cD, wb, wof, cW, aT, cT, rfl, h1, h2, h3, h4, h5, h6, n1, n2, n3, n4⟩ := h
  have hsp := hg.sp
  have hspb := hg.spb
  have hlB := hg.lB
  have hlD := hg.lD
  by_cases hE : m.wrE page ys = 0
  · obtain ⟨i, rfl, hi, hy, ho, hd⟩ := Fm.wr_in hE
    have hf := mul_fit (b := m.b) (show i < m.s * m.p from hlD ▸ hi)
    rw [Fm.write, if_pos hE]
    rw [ho]
    refine (rwrite_ok (m.s : Int) (m.p : Int) m.ops m.after m.b bb bo m.B.length cB m.B db dof m.D.length cD m.D (some ⟨wb, wof, none⟩) aT m.W.length cW m.T.length cT m.T i a2 ys.length c2 ys w h1 h2 h3 (by omega) h4 (by omega) h6 RY hn2 hi hy hg.b.1 (by have := hg.b.2; omega) (by omega) hd ⟨hg.ops.1, by have := hg.ops.2; omega⟩ hg.after).mono ?_
    rintro e w' ⟨bb', bo', cB', db', dof', cD', rfl, r1, r2, r3, r4, r5, r6, r7⟩
    have e1 : (m.written (Int.toNat (i : Int)) ys).B.length = m.B.length := by
      have := (Fm.good_write hg (i : Int) ys).lB
      rw [Fm.write, if_pos hE] at this
      rw [hlB]; exact this
    have e2 : (m.written (Int.toNat (i : Int)) ys).D.length = m.D.length := by simp [Fm.written]
    refine ⟨_, by simp only [Fm.torn, decide_eq_true_eq]; rfl, r5, bb', bo', cB', db', dof', cD', wb, wof, cW, aT, cT, ?_, ?_, by rw [e1]; exact r2, r3, ?_, h5.grown r5, h6.grown r5, ?_, ?_, n3, n4⟩
    · rw [e1, e2]; simp only [Fm.written, Fm.left]
    · rw [e1]; exact r1
    · rw [e2]; exact r4
    · intro x; have := hF _ x; omega
    · intro x; have := hF _ x; omega
  · rw [Fm.write, if_neg hE]
    refine (rwrite_bad (m.s : Int) (m.p : Int) (m.b : Int) m.ops m.after m.off (some ⟨bb, bo, none⟩) (some ⟨db, dof, none⟩) (some ⟨wb, wof, none⟩) aT m.B.length cB m.D.length cD m.W.length cW m.T.length cT m.D page a2 ys.length c2 w h4 (by omega) (by have := RY.le; unfold maxLen at this; omega) hp hE).mono ?_
    rintro e w' ⟨rfl, r5⟩
    exact ⟨_, rfl, r5, bb, bo, cB, db, dof, cD, wb, wof, cW, aT, cT, rfl, h1.grown r5, h2, h3, h4.grown r5, h5.grown r5, h6.grown r5, n1, n2, n3, n4⟩
/-- the document's Erase -/
theorem rep_erase {w : World} {v : Value} {m : Fm} {F : Nat → Prop} {k : Nat} (h : Rep w v m F) (hg : m.Good k) (hk : k < 1000000) (hF : ∀ x, F x → x < w.heap.size) (sec : Int) (hp : -9223372036854775808 ≤ sec ∧ sec ≤ 9223372036854775807) :
    Calls Tryz.prog 28 #[v, .int .i64 sec] w fun e w' => ∃ v', e = .returned (.tuple #[v', .int .i64 (m.erase sec).2]) ∧ w.grownBy w' none ∧ Rep w' v' (m.erase sec).1 F := by
  obtain ⟨bb, bo, cB, db, dof, cD, wb, wof, cW, aT, cT, rfl, h1, h2, h3, h4, h5, h6, n1, n2, n3, n4⟩ := h
  have hsp := hg.sp
  have hspb := hg.spb
  have hlB := hg.lB
  have hlD := hg.lD
  have hlW := hg.lW
  have hs := hg.s
  by_cases hE : m.erE sec = 0
  · obtain ⟨i, rfl, hi, ho⟩ := Fm.er_in hE
    have hf := mul_fit (b := m.p * m.b) (show i < m.s from hlW ▸ hi)
    have hfD := mul_fit (b := m.p) (show i < m.s from hlW ▸ hi)
    rw [← Nat.mul_assoc m.s, ← hlB] at hf
    rw [← hlD] at hfD
    rw [Fm.erase, if_pos hE]
    rw [ho]
    refine (rerase_ok (m.s : Int) m.ops m.after m.p m.b (m.p * m.b) bb bo m.B.length cB m.B db dof m.D.length cD m.D wb wof m.W.length cW m.W aT m.T.length cT m.T i w h1 h2 h3 (by omega) h4 (by omega) h5 (by omega) h6 hi rfl (Nat.mul_pos hg.p.1 hg.b.1) hg.p.1 (by have := hg.p.2; omega) (by have := hg.b.2; omega) hf hfD ⟨hg.ops.1, by have := hg.ops.2; omega⟩ hg.after (fun x hx => ⟨(hg.W x hx).1, by have := (hg.W x hx).2; omega⟩)).mono ?_
    rintro e w' ⟨bb', bo', cB', db', dof', cD', wb', wof', cW', rfl, r1, r2, r3, r4, r5, r6, r7, r8, r9⟩
    have gd := Fm.good_erase hg (i : Int)
    rw [Fm.erase, if_pos hE] at gd
    have e1 : (m.erased (Int.toNat (i : Int))).B.length = m.B.length := by rw [hlB]; exact gd.lB
    have e2 : (m.erased (Int.toNat (i : Int))).D.length = m.D.length := by rw [hlD]; exact gd.lD
    have e3 : (m.erased (Int.toNat (i : Int))).W.length = m.W.length := by rw [hlW]; exact gd.lW
    refine ⟨_, by simp only [Fm.torn, decide_eq_true_eq]; rfl, r6, bb', bo', cB', db', dof', cD', wb', wof', cW', aT, cT, ?_, ?_, by rw [e1]; exact r2, r3, ?_, ?_, h6.grown r6, ?_, ?_, ?_, n4⟩
    · rw [e1, e2, e3]; simp only [Fm.erased, Fm.left]
    · rw [e1]; exact r1
    · rw [e2]; exact r4
    · rw [e3]; exact r5
    · intro x; have := hF _ x; omega
    · intro x; have := hF _ x; omega
    · intro x; have := hF _ x; omega
  · rw [Fm.erase, if_neg hE]
    refine (rerase_bad (m.s : Int) (m.p : Int) (m.b : Int) m.ops m.after m.off (some ⟨bb, bo, none⟩) (some ⟨db, dof, none⟩) (some ⟨wb, wof, none⟩) aT m.B.length cB m.D.length cD m.W.length cW m.T.length cT sec w (by omega) hp hE).mono ?_
    rintro e w' ⟨rfl, r5⟩
    exact ⟨_, rfl, r5, bb, bo, cB, db, dof, cD, wb, wof, cW, aT, cT, rfl, h1.grown r5, h2, h3, h4.grown r5, h5.grown r5, h6.grown r5, n1, n2, n3, n4⟩
/-- the document's Arm -/
theorem rep_arm {w : World} {v : Value} {m : Fm} {F : Nat → Prop} (h : Rep w v m F) (hF : ∀ x, F x → x < w.heap.size) (n : Int) (a2 : Option Addr) (c2 : Nat) (ts : List Int) (RY : Row w a2 ts.length ts) (hn2 : a2 = none → c2 = 0) (hl : ts.length ≤ 140737488355328) :
    Calls Tryz.prog 24 #[v, .agg #[.int .i64 n, .slice a2 ts.length c2]] w fun e w' => ∃ v', e = .returned (.tuple #[v', .int .i64 (m.arm n ts).2]) ∧ w.grownBy w' none ∧ Rep w' v' (m.arm n ts).1 F := by
  obtain ⟨bb, bo, cB, db, dof, cD, wb, wof, cW, aT, cT, rfl, h1, h2, h3, h4, h5, h6, n1, n2, n3, n4⟩ := h
  by_cases hE : arE n m.off = 0
  · have hn : ¬ n < 1 ∧ m.off = false := by
      unfold arE at hE
      split at hE
      · cases hE
      · split at hE
        · cases hE
        · rename_i x1 x2; exact ⟨x1, by simpa using x2⟩
    rw [Fm.arm, if_pos hE]
    rw [hn.2]
    have key : Calls Tryz.prog 24 #[.agg #[.int .i64 m.s, .int .i64 m.p, .int .i64 m.b, .slice (some ⟨bb, bo, none⟩) m.B.length cB, .slice (some ⟨db, dof, none⟩) m.D.length cD, .slice (some ⟨wb, wof, none⟩) m.W.length cW, .int .i64 m.ops, .bool false, .int .i64 m.after, .slice aT m.T.length cT], .agg #[.int .i64 n, .slice a2 ts.length c2]] w fun e w' => RaPost w m.s m.p m.b (some ⟨bb, bo, none⟩) m.B.length cB (some ⟨db, dof, none⟩) m.D.length cD (some ⟨wb, wof, none⟩) m.W.length cW m.ops n ts.length ts e w' := by
      rcases Nat.eq_zero_or_pos ts.length with h0 | h0
      · obtain rfl := List.eq_nil_of_length_eq_zero h0
        exact rarm_none _ _ _ _ _ _ _ _ _ _ _ _ _ _ _ _ _ _ _ _ _ hn2 hn.1
      · obtain ⟨tb, tof, rfl, _⟩ := RY.cells h0
        exact rarm_ok _ _ _ _ _ _ _ _ _ _ _ _ _ _ _ _ _ _ _ _ _ _ _ _ RY hn.1 h0 hl
    refine key.mono ?_
    rintro e w' ⟨tb, cT', rfl, r1, r2, r3, r4, r5⟩
    refine ⟨_, rfl, r4, bb, bo, cB, db, dof, cD, wb, wof, cW, some ⟨tb, 0, none⟩, cT', ?_, h1.grown r4, h2, h3, h4.grown r4, h5.grown r4, r1, n1, n2, n3, ?_⟩
    · simp only [hn.2]
    · intro tb' tof' e' _ x
      injection e' with e'
      injection e' with e1 e2
      subst e1
      have := hF _ x
      omega
  · rw [Fm.arm, if_neg hE]
    refine (rarm_bad (m.s : Int) (m.p : Int) (m.b : Int) m.ops m.after m.off (some ⟨bb, bo, none⟩) (some ⟨db, dof, none⟩) (some ⟨wb, wof, none⟩) aT m.B.length cB m.D.length cD m.W.length cW m.T.length cT n a2 ts.length c2 w hE).mono ?_
    rintro e w' ⟨rfl, r5⟩
    exact ⟨_, rfl, r5, bb, bo, cB, db, dof, cD, wb, wof, cW, aT, cT, rfl, h1.grown r5, h2, h3, h4.grown r5, h5.grown r5, h6.grown r5, n1, n2, n3, n4⟩
/-- the document's Boot -/
theorem rep_boot {w : World} {v : Value} {m : Fm} {F : Nat → Prop} (h : Rep w v m F) :
    Calls Tryz.prog 30 #[v] w fun e w' => ∃ v', e = .returned v' ∧ w.grownBy w' none ∧ Rep w' v' m.boot F := by
  obtain ⟨bb, bo, cB, db, dof, cD, wb, wof, cW, aT, cT, rfl, h1, h2, h3, h4, h5, h6, n1, n2, n3, n4⟩ := h
  refine (rboot_any (m.s : Int) (m.p : Int) (m.b : Int) m.ops m.after m.off (some ⟨bb, bo, none⟩) (some ⟨db, dof, none⟩) (some ⟨wb, wof, none⟩) aT m.B.length cB m.D.length cD m.W.length cW m.T.length cT w).mono ?_
  rintro e w' ⟨rfl, r5⟩
  exact ⟨_, rfl, r5, bb, bo, cB, db, dof, cD, wb, wof, cW, none, 0, rfl, h1.grown r5, h2, h3, h4.grown r5, h5.grown r5, Row.none0 _, n1, n2, n3, fun tb tof e => by cases e⟩
/-- the document's Read -/
theorem rep_read {w : World} {v : Value} {m : Fm} {F : Nat → Prop} {k : Nat} (h : Rep w v m F) (hg : m.Good k) (at_ n : Int) (ha : -9223372036854775808 ≤ at_ ∧ at_ ≤ 9223372036854775807) (hn : -9223372036854775808 ≤ n ∧ n ≤ 9223372036854775807) :
    Calls Tryz.prog 75 #[v, .int .i64 at_, .int .i64 n] w fun e w' => RdPost w m.B (rdE m.B.length m.off at_ n) at_.toNat n.toNat e w' := by
  obtain ⟨bb, bo, cB, db, dof, cD, wb, wof, cW, aT, cT, rfl, h1, h2, h3, h4, h5, h6, n1, n2, n3, n4⟩ := h
  have hspb := hg.spb
  have hlB := hg.lB
  exact rread_any _ _ _ _ _ _ _ _ _ _ _ _ _ _ _ _ _ _ _ _ _ _ _ h1 h2 (by unfold maxLen at h3; omega) (by omega) ha hn
/-- the document's New -/
theorem rep_new (s p b : Nat) (w : World) (F : Nat → Prop) (hF : ∀ x, F x → x < w.heap.size) (hs : 0 < s ∧ s ≤ 16) (hp : 0 < p ∧ p ≤ 16) (hb : 0 < b ∧ b ≤ 64) :
    Calls Tryz.prog 9 #[.agg #[.int .i64 s, .int .i64 p, .int .i64 b]] w fun e w' => ∃ v', e = .returned v' ∧ w.grownBy w' none ∧ Rep w' v' (Fm.new s p b) F := by
  have hg := Fm.good_new hs hp hb
  have hspb := hg.spb
  refine (rnew_any s p b (s * p) (s * p * b) w ⟨hs.1, by omega⟩ ⟨hp.1, by omega⟩ ⟨hb.1, by omega⟩ rfl rfl (by have : s * p * b ≤ 16384 := hspb.2; omega)).mono ?_
  rintro e w' ⟨bb, cB, db, wb, rfl, r1, r2, r3, r4, r5, r6, r7, r8, r9⟩
  have e1 : (Fm.new s p b).B.length = s * p * b := hg.lB
  have e2 : (Fm.new s p b).D.length = s * p := hg.lD
  have e3 : (Fm.new s p b).W.length = s := hg.lW
  refine ⟨_, rfl, r6, bb, 0, cB, db, 0, s * p, wb, 0, s, none, 0, ?_, ?_, by rw [e1]; exact r2, r3, ?_, ?_, Row.none0 _, ?_, ?_, ?_, fun tb tof e => by cases e⟩
  · rw [e1, e2, e3]; rfl
  · rw [e1]; exact r1
  · rw [e2]; exact r4
  · rw [e3]; exact r5
  · intro x; have := hF _ x; omega
  · intro x; have := hF _ x; omega
  · intro x; have := hF _ x; omega
end Go.Proofs.YtfhgbddeclldnaaGreat

namespace Go.Proofs.YtfhgbddeclldnaaGreat.Pa
open Go.RowKit
set_option maxRecDepth 100000
set_option linter.unusedSimpArgs false
set_option linter.unusedVariables false
theorem wf64 {x : Int} (h : bnd64 x) : (Lit.int .i64 x).wf = true := by
  unfold bnd64 at h
  simp [Lit.wf, IntKind.min, IntKind.max, IntKind.signed, IntKind.bits]
  omega
theorem kl_int (d : Nat) {x : Int} (h : bnd64 x) : Tryz.prog.keyLits (d + 1) 3 [.int .i64 x] = some [.int .i64 x] := by
  simp [Program.keyLits, Tryz.underlying3, wf64 h]
theorem Tryz.cz3 : Tryz.prog.cellsOf 3 = 1 := by kernel_rfl
theorem Tryz.cz2 : Tryz.prog.cellsOf 24 = 2 := by kernel_rfl
theorem Tryz.czG : Tryz.prog.cellsOf 23 = 3 := by kernel_rfl
theorem Tryz.czP : Tryz.prog.cellsOf 26 = 8 := by kernel_rfl
theorem kl_two (d : Nat) {x y : Int} (h : bnd64 x) (k : bnd64 y) : Tryz.prog.keyLits (d + 2) 24 [.int .i64 x, .int .i64 y] = some [.int .i64 x, .int .i64 y] := by
  unfold Program.keyLits
  simp [Tryz.underlying24, Tryz.cz3, Tryz.cz2, List.range, List.range.loop, kl_int d h, kl_int d k]
theorem kl_geo (d : Nat) {x y z : Int} (h : bnd64 x) (k : bnd64 y) (l : bnd64 z) : Tryz.prog.keyLits (d + 2) 23 [.int .i64 x, .int .i64 y, .int .i64 z] = some [.int .i64 x, .int .i64 y, .int .i64 z] := by
  unfold Program.keyLits
  simp [Tryz.underlying23, Tryz.cz3, Tryz.czG, kl_int d h, kl_int d k, kl_int d l]
theorem kl_plan {P : Pl} (h : P.ok) : Tryz.prog.keyLits 8 26 P.val.cells.toList = some [.int .i64 P.s, .int .i64 P.p, .int .i64 P.b, .int .i64 P.x0, .int .i64 P.x1, .int .i64 P.y0, .int .i64 P.y1, .int .i64 P.n] := by
  obtain ⟨h1, h2, h3, h4, h5, h6, h7, h8⟩ := h
  rw [show P.val.cells.toList = P.cells from rfl]
  unfold Program.keyLits
  simp [Tryz.underlying26, Pl.cells, Tryz.cz3, Tryz.cz2, Tryz.czG, Tryz.czP, kl_geo 5 h1 h2 h3, kl_two 5 h4 h5, kl_two 5 h6 h7, kl_int 6 h8]
set_option maxRecDepth 100000 in
theorem plan_eq (P Q : Pl) (w : World) (hP : P.ok) (hQ : Q.ok) : (Op.equalIn 10000 26 P.val Q.val).run Tryz.prog w = .ok (P.same Q) w := by
  obtain ⟨r, h1, h2⟩ := run_equalIn_deep (P := Tryz.prog) 9990 10 26 (by kernel_rfl) w 8 8 P.val Q.val _ _ (by rfl) (by rfl) (kl_plan hP) (kl_plan hQ)
  rw [show (9990 + 10) = 10000 from rfl] at h1
  rw [h1]
  congr 1
  by_cases h : P = Q
  · rw [Pl.same_iff.2 h]
    exact h2.2 (by rw [h])
  · rw [show P.same Q = false by cases k : P.same Q with | false => rfl | true => exact absurd (Pl.same_iff.1 k) h]
    cases r with
    | false => rfl
    | true =>
      exfalso
      have := h2.1 rfl
      obtain ⟨s, p, b, x0, x1, y0, y1, n⟩ := P
      obtain ⟨s', p', b', x0', x1', y0', y1', n'⟩ := Q
      simp at this
      obtain ⟨rfl, rfl, rfl, rfl, rfl, rfl, rfl, rfl⟩ := this
      exact h rfl
theorem plan_ne (P Q : Pl) (w : World) (hP : P.ok) (hQ : Q.ok) : (binOp .neq 26 P.val Q.val).run Tryz.prog w = .ok (.bool (!P.same Q)) w := by
  have := plan_eq P Q w hP hQ
  unfold Pl.val at *
  rw [run_neq_struct, this]; rfl
end Go.Proofs.YtfhgbddeclldnaaGreat.Pa

namespace Go.Proofs.YtfhgbddeclldnaaGreat
open Go.RowKit
set_option maxRecDepth 100000
set_option linter.unusedSimpArgs false
set_option linter.unusedVariables false

/-- a plan in its variable: eight cells -/
theorem plan8 {W : World} {g : Nat} {T : TypeId} {s p b x0 x1 y0 y1 n : Int} (h : Bx W g T (Pa.Pl.cells ⟨s, p, b, x0, x1, y0, y1, n⟩)) : W.cell? ⟨g, 0, none⟩ = some (.int .i64 s) ∧ W.cell? ⟨g, 1, none⟩ = some (.int .i64 p) ∧ W.cell? ⟨g, 2, none⟩ = some (.int .i64 b) ∧ W.cell? ⟨g, 3, none⟩ = some (.int .i64 x0) ∧ W.cell? ⟨g, 4, none⟩ = some (.int .i64 x1) ∧ W.cell? ⟨g, 5, none⟩ = some (.int .i64 y0) ∧ W.cell? ⟨g, 6, none⟩ = some (.int .i64 y1) ∧ W.cell? ⟨g, 7, none⟩ = some (.int .i64 n) := ⟨h.c 0, h.c 1, h.c 2, h.c 3, h.c 4, h.c 5, h.c 6, h.c 7⟩
theorem flash10 {W : World} {g : Nat} {T : TypeId} {x0 x1 x2 x3 x4 x5 x6 x7 x8 x9 : Value} (h : Bx W g T [x0, x1, x2, x3, x4, x5, x6, x7, x8, x9]) : W.cell? ⟨g, 0, none⟩ = some x0 ∧ W.cell? ⟨g, 1, none⟩ = some x1 ∧ W.cell? ⟨g, 2, none⟩ = some x2 ∧ W.cell? ⟨g, 3, none⟩ = some x3 ∧ W.cell? ⟨g, 4, none⟩ = some x4 ∧ W.cell? ⟨g, 5, none⟩ = some x5 ∧ W.cell? ⟨g, 6, none⟩ = some x6 ∧ W.cell? ⟨g, 7, none⟩ = some x7 ∧ W.cell? ⟨g, 8, none⟩ = some x8 ∧ W.cell? ⟨g, 9, none⟩ = some x9 := ⟨h.c 0, h.c 1, h.c 2, h.c 3, h.c 4, h.c 5, h.c 6, h.c 7, h.c 8, h.c 9⟩
set_option maxRecDepth 100000 in
theorem geo_eql {s p b s' p' b' : Int} (w : World) (h1 : Pa.bnd64 s) (h2 : Pa.bnd64 p) (h3 : Pa.bnd64 b) (h4 : Pa.bnd64 s') (h5 : Pa.bnd64 p') (h6 : Pa.bnd64 b') :
    (binOp .eql 23 (.agg #[.int .i64 s, .int .i64 p, .int .i64 b]) (.agg #[.int .i64 s', .int .i64 p', .int .i64 b'])).run Tryz.prog w = .ok (.bool (decide (s = s' ∧ p = p' ∧ b = b'))) w := by
  obtain ⟨r, k1, k2⟩ := run_equalIn_deep (P := Tryz.prog) 9990 10 23 (by kernel_rfl) w 8 8 (.agg #[.int .i64 s, .int .i64 p, .int .i64 b]) (.agg #[.int .i64 s', .int .i64 p', .int .i64 b']) _ _ (by rfl) (by rfl) (Pa.kl_geo 6 h1 h2 h3) (Pa.kl_geo 6 h4 h5 h6)
  rw [run_eql_struct, show (10000 : Nat) = 9990 + 10 from rfl, k1]
  have e : r = decide (s = s' ∧ p = p' ∧ b = b') := by
    by_cases h : s = s' ∧ p = p' ∧ b = b'
    · rw [decide_eq_true h]
      obtain ⟨rfl, rfl, rfl⟩ := h
      exact k2.2 rfl
    · rw [decide_eq_false h]
      cases r with
      | false => rfl
      | true =>
        have := k2.1 rfl
        simp at this
        exact absurd ⟨this.1, this.2.1, this.2.2⟩ h
  rw [e]
  rfl
/-- the document's flash as a value, its cells under letters -/
theorem Rep.form {w : World} {v : Value} {m : Fm} {F : Nat → Prop} (h : Rep w v m F) : ∃ (aB aD aW aT : Option Addr) (lB cB lD cD lW cW lT cT : Nat), v = .agg #[.int .i64 m.s, .int .i64 m.p, .int .i64 m.b, .slice aB lB cB, .slice aD lD cD, .slice aW lW cW, .int .i64 m.ops, .bool m.off, .int .i64 m.after, .slice aT lT cT] := by
  obtain ⟨bb, bo, cB, db, dof, cD, wb, wof, cW, aT, cT, rfl, _⟩ := h
  exact ⟨_, _, _, _, _, _, _, _, _, _, _, _, rfl⟩
set_option maxHeartbeats 2000000 in
theorem kright_any {w : World} {v : Value} {m : Fm} {F : Nat → Prop} {k : Nat} (hR : Rep w v m F) (hg : m.Good k) (P : Pa.Pl) (hP : P.ok) :
    Calls Tryz.prog 46 #[v, P.val] w fun e w' => e = .returned (.bool (kok m P)) ∧ w.grownBy w' none := by
  obtain ⟨aB, aD, aW, aT, lB, cB, lD, cD, lW, cW, lT, cT, rfl⟩ := hR.form
  have hr := fun W => Pa.right_any P W hP
  have hs := hg.s
  have hp := hg.p
  have hb := hg.b
  have he := fun W => geo_eql (s := P.s) (p := P.p) (b := P.b) (s' := m.s) (p' := m.p) (b' := m.b) W hP.1 hP.2.1 hP.2.2.1 ⟨by omega, by omega⟩ ⟨by omega, by omega⟩ ⟨by omega, by omega⟩
  unfold kok
  generalize decide (P.s = m.s ∧ P.p = m.p ∧ P.b = m.b) = d at *
  generalize Pa.rgt P = r at *
  obtain ⟨s, p, b, x0, x1, y0, y1, n⟩ := P
  generalize (m.s : Int) = ms at *
  generalize (m.p : Int) = mp at *
  generalize (m.b : Int) = mb at *
  have X0 := (Bx.new w 42 [.int .i64 ms, .int .i64 mp, .int .i64 mb, .slice aB lB cB, .slice aD lD cD, .slice aW lW cW, .int .i64 m.ops, .bool m.off, .int .i64 m.after, .slice aT lT cT]).kept (World.grownBy_alloc _ (.cells (Pa.Pl.cells ⟨s, p, b, x0, x1, y0, y1, n⟩).toArray 26) none)
  have Y0 := Bx.new (w.alloc (.cells #[.int .i64 ms, .int .i64 mp, .int .i64 mb, .slice aB lB cB, .slice aD lD cD, .slice aW lW cW, .int .i64 m.ops, .bool m.off, .int .i64 m.after, .slice aT lT cT] 42)) 26 (Pa.Pl.cells ⟨s, p, b, x0, x1, y0, y1, n⟩)
  have G0 := grown_trans (World.grownBy_alloc w (.cells #[.int .i64 ms, .int .i64 mp, .int .i64 mb, .slice aB lB cB, .slice aD lD cD, .slice aW lW cW, .int .i64 m.ops, .bool m.off, .int .i64 m.after, .slice aT lT cT] 42) none) (World.grownBy_alloc _ (.cells (Pa.Pl.cells ⟨s, p, b, x0, x1, y0, y1, n⟩).toArray 26) none)
  simp only [World.size_alloc] at Y0
  have H0 : Hid _ := And.intro X0 (And.intro Y0 G0)
  clear X0 Y0 G0 hR hs hp hb hP
  simp only [Pa.Pl.val, Pa.Pl.cells] at *
  go_enter Tryz.func46, Tryz.ntmps46
  go_wp2_with fail
  refine (hr _).mono ?_
  rintro e w1 ⟨rfl, g1⟩
  obtain ⟨c0, c1, c2, -⟩ := flash10 (H0.out.1.kept g1)
  obtain ⟨d0, d1, d2, d3, d4, d5, d6, d7⟩ := plan8 (H0.out.2.1.kept g1)
  have HG : Hid _ := grown_trans H0.out.2.2 g1
  clear H0 g1 hr
  simp only
  cases r
  · go_wp2
    go_ret
    exact ⟨rfl, HG.out⟩
  · go_wp2
    go_ret
    exact ⟨rfl, HG.out⟩
end Go.Proofs.YtfhgbddeclldnaaGreat
