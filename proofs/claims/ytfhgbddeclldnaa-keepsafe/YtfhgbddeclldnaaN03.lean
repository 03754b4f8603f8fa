/- Plain facts of a flash without memory: what a write, an erasure leaves as it was. The document's Check of a geometry. The document's plan of a flash. Is a plan what Make makes? How many bytes has a slot? A slot's size, and the page of one of its bytes. The sums, as functions of numbers. The document's sum of bytes. The document's lz: a length and its four bits. The document's lz: the bytes that tell a length. The document's numbers as bytes. A record; is it right? The one that follows. A record's bytes. Bytes as a record. Which of two counts. Plain facts: what is encoded is decoded as it was. -/
import Derived.Test.YtfhgbddeclldnaaProg
import Derived.WalkLawsBesides
import Derived.WalkKit
import Derived.Below
import Derived.Deep.QuietTactic
import Derived.Handy
import Derived.BigRegion
import Derived.Laws.BitsAllLaws
import Derived.BigQuiet
import Derived.Laws.OwnMore
import Derived.Deep.RegionHeld3
import Derived.Deep.RegionWith
import Derived.Test.YtfhgbddeclldnaaN01
import Derived.Test.YtfhgbddeclldnaaN02
namespace Go.Proofs.Ytfhgbddeclldnaa
open Go.RowKit
set_option maxRecDepth 100000
set_option linter.unusedSimpArgs false
set_option linter.unusedVariables false

theorem splice_out {α : Type} (B X : List α) (a n j : Nat) (hX : X.length = n) (hfit : a + n ≤ B.length) (hj : j < a ∨ a + n ≤ j) : (B.take a ++ X ++ B.drop (a + n))[j]? = B[j]? := by
  rcases hj with h | h
  · rw [List.append_assoc, List.getElem?_append_left (by simp; omega), List.getElem?_take, if_pos h]
  · rw [List.getElem?_append_right (by simp; omega), List.getElem?_drop]
    congr 1
    simp
    omega
theorem splice_in {α : Type} (B X : List α) (a n j : Nat) (hX : X.length = n) (hfit : a + n ≤ B.length) (h1 : a ≤ j) (h2 : j < a + n) : (B.take a ++ X ++ B.drop (a + n))[j]? = X[j - a]? := by
  rw [List.getElem?_append_left (by simp; omega), List.getElem?_append_right (by simp; omega)]
  congr 1
  simp
  omega
/-- a write, torn or not, changes no byte of another page -/
theorem Fm.write_keeps {m : Fm} {k : Nat} (h : m.Good k) {i : Nat} {ys : List Int} (hi : i < m.D.length) (hy : ys.length ≤ m.b) (j : Nat) (hj : j < i * m.b ∨ i * m.b + m.b ≤ j) : (m.written i ys).B[j]? = m.B[j]? := by
  have hf := mul_fit (b := m.b) (h.lD ▸ hi)
  exact splice_out _ _ _ _ _ (Fm.page_len hy) (by rw [h.lB]; exact hf) hj
/-- an erasure, torn or not, changes no byte of another sector -/
theorem Fm.erase_keeps {m : Fm} {k : Nat} (h : m.Good k) {i : Nat} (hi : i < m.W.length) (j : Nat) (hj : j < i * (m.p * m.b) ∨ i * (m.p * m.b) + m.p * m.b ≤ j) : (m.erased i).B[j]? = m.B[j]? := by
  have hf := mul_fit (b := m.p * m.b) (h.lW ▸ hi)
  rw [← Nat.mul_assoc m.s, ← h.lB] at hf
  exact splice_out _ _ _ _ _ (Fm.sector_len hf) hf hj
theorem ffs_get {n j : Nat} (h : j < n) : (ffs n)[j]? = some 255 := by unfold ffs; rw [List.getElem?_replicate, if_pos h]
/-- what was written to a new flash is read, and ff all around it -/
theorem Fm.reads_new {s p b : Nat} (hs : 0 < s ∧ s ≤ 16) (hp : 0 < p ∧ p ≤ 16) (hb : 0 < b ∧ b ≤ 64) {i : Nat} {ys : List Int} (hi : i < s * p) (hy : ys.length ≤ b) (j : Nat) (hj : j < s * p * b) : ((Fm.new s p b).written i ys).B[j]? = some (if i * b ≤ j ∧ j - i * b < ys.length then ys.getD (j - i * b) 0 else 255) := by
  have hg := Fm.good_new hs hp hb
  have hD : (Fm.new s p b).D.length = s * p := hg.lD
  by_cases h : j < i * b ∨ i * b + b ≤ j
  · rw [Fm.write_keeps hg (by rw [hD]; exact hi) hy j h, if_neg (by omega)]
    exact ffs_get hj
  · have hf := mul_fit (b := b) hi
    have e : ((Fm.new s p b).written i ys).B[j]? = ((Fm.new s p b).page ys)[j - i * b]? := splice_in _ _ (i * b) b j (Fm.page_len hy) (by rw [hg.lB]; exact hf) (by omega) (by omega)
    rw [e]
    have ep : (Fm.new s p b).page ys = ys ++ ffs (b - ys.length) := by simp [Fm.page, Fm.new]
    rw [ep]
    by_cases h2 : j - i * b < ys.length
    · rw [if_pos ⟨by omega, h2⟩, List.getElem?_append_left h2, List.getD_eq_getElem?_getD, List.getElem?_eq_getElem h2]; rfl
    · rw [if_neg (by omega), List.getElem?_append_right (by omega), ffs_get (by omega)]
end Go.Proofs.Ytfhgbddeclldnaa

namespace Go.Proofs.Ytfhgbddeclldnaa.Pa
open Go.RowKit
set_option maxRecDepth 100000
set_option linter.unusedSimpArgs false
set_option linter.unusedVariables false

/-- which geometries may be: the error's number -/
def chk (s p b : Int) : Int := if s < 1 ∨ 4096 < s ∨ p < 1 ∨ 1024 < p ∨ b < 16 ∨ 65536 < b then 1 else if 16777216 < s * p * b then 2 else 0
def geoV (s p b : Int) : Value := .agg #[.int .i64 s, .int .i64 p, .int .i64 b]
theorem prod_in {s p b : Int} (s1 : 1 ≤ s) (s2 : s ≤ 4096) (p1 : 1 ≤ p) (p2 : p ≤ 1024) (b1 : 16 ≤ b) (b2 : b ≤ 65536) : IntKind.i64.wrap (s * p) = s * p ∧ IntKind.i64.wrap (s * p * b) = s * p * b ∧ 1 ≤ s * p := by
  have e1 : s * p ≤ 4096 * 1024 := Int.mul_le_mul s2 p2 (by omega) (by omega)
  have e0 : 1 * 1 ≤ s * p := Int.mul_le_mul s1 p1 (by omega) (by omega)
  have e2 : s * p * b ≤ 4096 * 1024 * 65536 := Int.mul_le_mul e1 b2 (by omega) (by omega)
  have e3 : 1 * 1 ≤ s * p * b := Int.mul_le_mul (by omega) (by omega) (by omega) (by omega)
  refine ⟨?_, ?_, by omega⟩
  · rw [IntKind.wrap_i64]; omega
  · rw [IntKind.wrap_i64]; omega
theorem check_any (s p b : Int) (w : World) (hs : -9223372036854775808 ≤ s ∧ s ≤ 9223372036854775807) (hp : -9223372036854775808 ≤ p ∧ p ≤ 9223372036854775807) (hb : -9223372036854775808 ≤ b ∧ b ≤ 9223372036854775807) :
    Calls Try.prog 20 #[.agg #[.int .i64 s, .int .i64 p, .int .i64 b]] w fun e w' => e = .returned (.int .i64 (chk s p b)) ∧ w' = w.alloc (.cells #[.int .i64 s, .int .i64 p, .int .i64 b] 23) := by
  unfold chk
  by_cases h1 : s < 1
  · rw [if_pos (Or.inl h1)]
    go_enter Try.func20, Try.ntmps20
    go_wp2
    go_ret
    exact ⟨rfl, rfl⟩
  · skip
    by_cases h2 : 4096 < s
    · rw [if_pos (Or.inr (Or.inl h2))]
      go_enter Try.func20, Try.ntmps20
      go_wp2
      go_ret
      exact ⟨rfl, rfl⟩
    · skip
      by_cases h3 : p < 1
      · rw [if_pos (Or.inr (Or.inr (Or.inl h3)))]
        go_enter Try.func20, Try.ntmps20
        go_wp2
        go_ret
        exact ⟨rfl, rfl⟩
      · skip
        by_cases h4 : 1024 < p
        · rw [if_pos (Or.inr (Or.inr (Or.inr (Or.inl h4))))]
          go_enter Try.func20, Try.ntmps20
          go_wp2
          go_ret
          exact ⟨rfl, rfl⟩
        · skip
          by_cases h5 : b < 16
          · rw [if_pos (Or.inr (Or.inr (Or.inr (Or.inr (Or.inl h5)))))]
            go_enter Try.func20, Try.ntmps20
            go_wp2
            go_ret
            exact ⟨rfl, rfl⟩
          · skip
            by_cases h6 : 65536 < b
            · rw [if_pos (Or.inr (Or.inr (Or.inr (Or.inr (Or.inr (h6))))))]
              go_enter Try.func20, Try.ntmps20
              go_wp2
              go_ret
              exact ⟨rfl, rfl⟩
            · skip
              rw [if_neg (by omega)]
              obtain ⟨q1, q2, q3⟩ := prod_in (s := s) (p := p) (b := b) (by omega) (by omega) (by omega) (by omega) (by omega) (by omega)
              by_cases h7 : 16777216 < s * p * b
              · rw [if_pos h7]
                go_enter Try.func20, Try.ntmps20
                go_wp2
                go_ret
                exact ⟨rfl, rfl⟩
              · rw [if_neg h7]
                go_enter Try.func20, Try.ntmps20
                go_wp2
                go_ret
                exact ⟨rfl, rfl⟩
end Go.Proofs.Ytfhgbddeclldnaa.Pa

namespace Go.Proofs.Ytfhgbddeclldnaa.Pa
open Go.RowKit
set_option maxRecDepth 100000
set_option linter.unusedSimpArgs false
set_option linter.unusedVariables false

/-- how many sectors a slot has -/
def slots (s p b : Int) : Int := max 1 (min ((s - 2) / 2) (8388608 / (p * b)))
/-- a plan: geometry, boot records, slots, a slot's sectors -/
structure Pl where
  s : Int
  p : Int
  b : Int
  x0 : Int
  x1 : Int
  y0 : Int
  y1 : Int
  n : Int
def Pl.cells (P : Pl) : List Value := [.int .i64 P.s, .int .i64 P.p, .int .i64 P.b, .int .i64 P.x0, .int .i64 P.x1, .int .i64 P.y0, .int .i64 P.y1, .int .i64 P.n]
def Pl.val (P : Pl) : Value := .agg #[.int .i64 P.s, .int .i64 P.p, .int .i64 P.b, .int .i64 P.x0, .int .i64 P.x1, .int .i64 P.y0, .int .i64 P.y1, .int .i64 P.n]
/-- are two plans the same? -/
def Pl.same (P Q : Pl) : Bool := decide (P.s = Q.s ∧ P.p = Q.p ∧ P.b = Q.b ∧ P.x0 = Q.x0 ∧ P.x1 = Q.x1 ∧ P.y0 = Q.y0 ∧ P.y1 = Q.y1 ∧ P.n = Q.n)
theorem Pl.same_iff {P Q : Pl} : P.same Q = true ↔ P = Q := by
  unfold Pl.same
  rw [decide_eq_true_iff]
  constructor
  · rintro ⟨h1, h2, h3, h4, h5, h6, h7, h8⟩
    cases P; cases Q
    simp only at h1 h2 h3 h4 h5 h6 h7 h8
    subst h1 h2 h3 h4 h5 h6 h7 h8
    rfl
  · rintro rfl; simp
theorem Pl.same_self (P : Pl) : P.same P = true := Pl.same_iff.2 rfl
def pl0 : Pl := ⟨0, 0, 0, 0, 0, 0, 0, 0⟩
/-- Make, as a plain function -/
def mk (s p b : Int) : Pl × Int := if chk s p b ≠ 0 then (pl0, chk s p b) else if s < 4 ∨ b < 64 then (pl0, 1) else (⟨s, p, b, 0, 1, 2, 2 + slots s p b, slots s p b⟩, 0)

theorem chk_zero {s p b : Int} (h : chk s p b = 0) : 1 ≤ s ∧ s ≤ 4096 ∧ 1 ≤ p ∧ p ≤ 1024 ∧ 16 ≤ b ∧ b ≤ 65536 ∧ s * p * b ≤ 16777216 := by
  unfold chk at h
  split at h
  · simp at h
  · split at h
    · simp at h
    · omega
theorem slots_is {s p b n : Int} (hp : 1 ≤ p) (hb : 1 ≤ b) (h1 : 1 ≤ n) (h2 : 2 + 2 * n ≤ s) (h3 : n = 1 ∨ n * p * b ≤ 8388608) (h4 : ¬ (2 + 2 * (n + 1) ≤ s ∧ (n + 1) * p * b ≤ 8388608)) : slots s p b = n := by
  have hq : 0 < p * b := Int.mul_pos (by omega) (by omega)
  have k1 : n ≤ 8388608 / (p * b) ↔ n * (p * b) ≤ 8388608 := Int.le_ediv_iff_mul_le hq
  have k2 : n + 1 ≤ 8388608 / (p * b) ↔ (n + 1) * (p * b) ≤ 8388608 := Int.le_ediv_iff_mul_le hq
  rw [Int.mul_assoc] at h3 h4
  unfold slots
  generalize 8388608 / (p * b) = D at *
  generalize n * (p * b) = x at *
  generalize (n + 1) * (p * b) = y at *
  rw [Int.max_def, Int.min_def]
  split <;> split <;> omega

set_option maxHeartbeats 2000000 in
theorem make_any (s p b : Int) (w : World) (hs : -9223372036854775808 ≤ s ∧ s ≤ 9223372036854775807) (hp : -9223372036854775808 ≤ p ∧ p ≤ 9223372036854775807) (hb : -9223372036854775808 ≤ b ∧ b ≤ 9223372036854775807) :
    Calls Try.prog 5 #[.agg #[.int .i64 s, .int .i64 p, .int .i64 b]] w fun e w' => e = .returned (.tuple #[(mk s p b).1.val, .int .i64 (mk s p b).2]) ∧ w.grownBy w' none := by
  have hc := fun W => check_any s p b W hs hp hb
  by_cases h0 : chk s p b = 0
  · have hg := chk_zero h0
    rw [h0] at hc
    by_cases h1 : s < 4 ∨ b < 64
    · have e : mk s p b = (pl0, 1) := by unfold mk; rw [if_neg (by simp [h0]), if_pos h1]
      rw [e]
      rcases h1 with h1 | h1
      all_goals
        go_enter Try.func5, Try.ntmps5
        go_wp2_with fail
        refine (hc _).mono ?_
        rintro e w1 ⟨rfl, rfl⟩
        simp only
        go_wp2
        all_goals
          go_returns
          exact ⟨rfl, grown_trans (grown_trans (World.grownBy_alloc _ _ _) (World.grownBy_alloc _ _ _)) (World.grownBy_alloc _ _ _)⟩
    · have e : mk s p b = (⟨s, p, b, 0, 1, 2, 2 + slots s p b, slots s p b⟩, 0) := by unfold mk; rw [if_neg (by simp [h0]), if_neg h1]
      rw [e]
      generalize hsl : slots s p b = N
      have HN : Hid _ := hsl
      clear hsl e
      have d1 : decide (s < 4) = false := decide_eq_false (by omega)
      have d2 : decide (b < 64) = false := decide_eq_false (by omega)
      go_enter Try.func5, Try.ntmps5
      go_wp2_with fail
      refine (hc _).mono ?_
      rintro e w1 ⟨rfl, rfl⟩
      simp only
      go_wp2_with fail
      try simp only [d1, d2, Bool.or_self]
      clear d1 d2 hc
      have HG : Hid (w.grownBy (((w.alloc (.cells #[.int .i64 s, .int .i64 p, .int .i64 b] 23)).alloc (.cells #[.int .i64 0, .int .i64 0, .int .i64 0, .int .i64 0, .int .i64 0, .int .i64 0, .int .i64 0, .int .i64 0] 32)).alloc (.cells #[.int .i64 s, .int .i64 p, .int .i64 b] 23)) none) := grown_trans (grown_trans (World.grownBy_alloc _ _ _) (World.grownBy_alloc _ _ _)) (World.grownBy_alloc _ _ _)
      have hg4 : 4 ≤ s ∧ s ≤ 4096 := by omega
      have hgp : 1 ≤ p ∧ p ≤ 1024 := by omega
      have hgb : 64 ≤ b ∧ b ≤ 65536 := by omega
      clear hg h1 h0
      go_loopw [5] (fun vn wr => wr = ((w.alloc (.cells #[.int .i64 s, .int .i64 p, .int .i64 b] 23)).alloc (.cells #[.int .i64 0, .int .i64 0, .int .i64 0, .int .i64 0, .int .i64 0, .int .i64 0, .int .i64 0, .int .i64 0] 32)).alloc (.cells #[.int .i64 s, .int .i64 p, .int .i64 b] 23) ∧ ∃ n : Int, vn = .int .i64 n ∧ 1 ≤ n ∧ 2 + 2 * n ≤ s ∧ Hid (n = 1 ∨ n * p * b ≤ 8388608)) (fun vn _ => (4096 - intOf vn).toNat)
      case atStart => exact ⟨rfl, 1, rfl, by omega, by omega, Or.inl rfl⟩
      case round =>
        obtain ⟨rfl, n, rfl, hn1, hn2, HO⟩ := hrel
        obtain ⟨w1, w2, w3⟩ := prod_in (s := n + 1) (p := p) (b := b) (by omega) (by omega) hgp.1 hgp.2 (by omega) hgb.2
        by_cases k1 : 2 + 2 * (n + 1) ≤ s
        · by_cases k2 : (n + 1) * p * b ≤ 8388608
          · have HO2 : Hid (n + 1 = 1 ∨ (n + 1) * p * b ≤ 8388608) := Or.inr k2
            go_wp2
            go_roundw
            case rel => exact ⟨by trivial, n + 1, by go_num, by omega, by omega, HO2⟩
            case measure => simp [intOf]; omega
          · have he := slots_is hgp.1 (by omega) hn1 hn2 HO.out (fun k => k2 k.2)
            rw [HN.out] at he
            subst he
            go_wp2
            go_returns
            exact ⟨rfl, grown_trans (grown_trans (grown_trans (World.grownBy_alloc _ _ _) (World.grownBy_alloc _ _ _)) (World.grownBy_alloc _ _ _)) (World.grownBy_alloc _ _ _)⟩
        · have he := slots_is (s := s) hgp.1 (by omega) hn1 hn2 HO.out (fun k => k1 k.1)
          rw [HN.out] at he
          subst he
          go_wp2
          go_returns
          exact ⟨rfl, grown_trans (grown_trans (grown_trans (World.grownBy_alloc _ _ _) (World.grownBy_alloc _ _ _)) (World.grownBy_alloc _ _ _)) (World.grownBy_alloc _ _ _)⟩
  · have e : mk s p b = (pl0, chk s p b) := by unfold mk; rw [if_pos h0]
    rw [e]
    generalize chk s p b = E at *
    have h0' : (E == 0) = false := by simp [h0]
    go_enter Try.func5, Try.ntmps5
    go_wp2_with fail
    refine (hc _).mono ?_
    rintro e w1 ⟨rfl, rfl⟩
    simp only
    go_wp2
    go_returns
    exact ⟨rfl, grown_trans (grown_trans (World.grownBy_alloc _ _ _) (World.grownBy_alloc _ _ _)) (World.grownBy_alloc _ _ _)⟩
end Go.Proofs.Ytfhgbddeclldnaa.Pa

namespace Go.Proofs.Ytfhgbddeclldnaa.Pa
open Go.RowKit
set_option maxRecDepth 100000
set_option linter.unusedSimpArgs false
set_option linter.unusedVariables false

def bnd64 (x : Int) : Prop := -9223372036854775808 ≤ x ∧ x ≤ 9223372036854775807
def Pl.ok (P : Pl) : Prop := bnd64 P.s ∧ bnd64 P.p ∧ bnd64 P.b ∧ bnd64 P.x0 ∧ bnd64 P.x1 ∧ bnd64 P.y0 ∧ bnd64 P.y1 ∧ bnd64 P.n
/-- a variable of several cells -/
structure Bx (W : World) (g : Nat) (T : TypeId) (cs : List Value) : Prop where
  blk : W.heap[g]? = some (.cells cs.toArray T (0, 0))
theorem Bx.lt {W : World} {g : Nat} {T : TypeId} {cs : List Value} (h : Bx W g T cs) : g < W.heap.size := (Array.getElem?_eq_some_iff.1 h.blk).1
theorem Bx.c {W : World} {g : Nat} {T : TypeId} {cs : List Value} (h : Bx W g T cs) (i : Nat) : W.cell? ⟨g, i, none⟩ = cs[i]? := by simp [World.cell?, h.blk]
theorem Bx.kept {W W' : World} {g : Nat} {T : TypeId} {cs : List Value} (h : Bx W g T cs) (hg : W.grownBy W' none) : Bx W' g T cs := ⟨by rw [hg.block g h.lt (by simp)]; exact h.blk⟩
theorem Bx.new (w : World) (T : TypeId) (cs : List Value) : Bx (w.alloc (.cells cs.toArray T)) w.heap.size T cs := ⟨heap_alloc_new _ _⟩
/-- is it what Make makes? -/
def rgt (P : Pl) : Bool := (mk P.s P.p P.b).1.same P && decide ((mk P.s P.p P.b).2 = 0)
theorem rgt_iff {P : Pl} : rgt P = true ↔ mk P.s P.p P.b = (P, 0) := by
  unfold rgt
  rw [Bool.and_eq_true, Pl.same_iff, decide_eq_true_iff]
  constructor
  · rintro ⟨h1, h2⟩; exact Prod.ext h1 h2
  · intro h; rw [h]; exact ⟨rfl, rfl⟩
theorem mk_geo {s p b : Int} (h : (mk s p b).2 = 0) : (mk s p b).1.s = s ∧ (mk s p b).1.p = p ∧ (mk s p b).1.b = b := by
  unfold mk at h ⊢
  split at h
  · rename_i k; exact absurd h k
  · split at h
    · simp at h
    · rename_i k1 k2
      rw [if_neg k1, if_neg k2]
      exact ⟨rfl, rfl, rfl⟩

theorem and_no {P Q : Pl} {e : Int} (h : ¬ ((P.s = Q.s ∧ P.p = Q.p ∧ P.b = Q.b ∧ P.x0 = Q.x0 ∧ P.x1 = Q.x1 ∧ P.y0 = Q.y0 ∧ P.y1 = Q.y1 ∧ P.n = Q.n) ∧ e = 0)) : (P.same Q && decide (e = 0)) = false := by
  cases k : (P.same Q && decide (e = 0)) with
  | false => rfl
  | true =>
    rw [Bool.and_eq_true, Pl.same_iff, decide_eq_true_iff] at k
    exact absurd ⟨by rw [k.1]; simp, k.2⟩ h
def sze (P : Pl) : Int := P.n * P.p * P.b
end Go.Proofs.Ytfhgbddeclldnaa.Pa

namespace Go.Proofs.Ytfhgbddeclldnaa.Pa
open Go.RowKit
set_option maxRecDepth 100000
set_option linter.unusedSimpArgs false
set_option linter.unusedVariables false

theorem rgt_facts {P : Pl} (h : rgt P = true) : (4 ≤ P.s ∧ P.s ≤ 4096) ∧ (1 ≤ P.p ∧ P.p ≤ 1024) ∧ (64 ≤ P.b ∧ P.b ≤ 65536) ∧ P.x0 = 0 ∧ P.x1 = 1 ∧ P.y0 = 2 ∧ P.y1 = 2 + P.n ∧ P.n = slots P.s P.p P.b ∧ (1 ≤ P.n ∧ 2 + 2 * P.n ≤ P.s) ∧ P.s * P.p * P.b ≤ 16777216 := by
  have e := rgt_iff.1 h
  unfold mk at e
  split at e
  · rename_i k
    simp only [Prod.mk.injEq] at e
    exact absurd e.2 k
  · rename_i k0
    split at e
    · simp at e
    · rename_i k1
      have hg := chk_zero (by simpa using k0)
      simp only [Prod.mk.injEq, and_true] at e
      obtain ⟨s, p, b, x0, x1, y0, y1, n⟩ := P
      simp only [Pl.mk.injEq, true_and] at e k1 hg ⊢
      obtain ⟨e0, e1, e2, e3, e4⟩ := e
      have hn : 1 ≤ slots s p b ∧ 2 + 2 * slots s p b ≤ s := by
        unfold slots
        rw [Int.max_def, Int.min_def]
        split <;> split <;> omega
      refine ⟨by omega, by omega, by omega, by omega, by omega, by omega, by omega, by omega, by omega, hg.2.2.2.2.2.2⟩
theorem prod3 {n p b : Int} (h1 : 1 ≤ n ∧ n ≤ 4096) (h2 : 1 ≤ p ∧ p ≤ 1024) (h3 : 16 ≤ b ∧ b ≤ 65536) : (1 ≤ n * p ∧ n * p ≤ 4194304) ∧ (1 ≤ n * p * b ∧ n * p * b ≤ 274877906944) := by
  have e1 : n * p ≤ 4096 * 1024 := Int.mul_le_mul h1.2 h2.2 (by omega) (by omega)
  have e0 : 1 * 1 ≤ n * p := Int.mul_le_mul h1.1 h2.1 (by omega) (by omega)
  have e2 : n * p * b ≤ 4096 * 1024 * 65536 := Int.mul_le_mul e1 h3.2 (by omega) (by omega)
  have e3 : 1 * 1 ≤ n * p * b := Int.mul_le_mul (by omega) (by omega) (by omega) (by omega)
  omega
theorem yp_in {y p : Int} (h : 0 ≤ y ∧ y ≤ 4096) (k : 1 ≤ p ∧ p ≤ 1024) : 0 ≤ y * p ∧ y * p ≤ 4194304 := by
  have e1 : y * p ≤ 4096 * 1024 := Int.mul_le_mul h.2 k.2 (by omega) (by omega)
  exact ⟨Int.mul_nonneg h.1 (by omega), e1⟩
theorem drewG (w : World) : w.grownBy w.drew none := ⟨rfl, rfl, rfl, Nat.le_refl _, fun _ _ _ => rfl⟩
/-- Page, as a plain function -/
def pge (P : Pl) (slot at_ : Int) : Int × Int × Int :=
  if rgt P = false ∨ slot < 0 ∨ 1 < slot then (0, 0, 1) else if at_ < 0 ∨ sze P ≤ at_ then (0, 0, 9) else ((if slot = 0 then P.y0 else P.y1) * P.p + at_ / P.b, at_ % P.b, 0)

end Go.Proofs.Ytfhgbddeclldnaa.Pa

namespace Go.Proofs.Ytfhgbddeclldnaa
open Go.RowKit
set_option maxRecDepth 100000
set_option linter.unusedSimpArgs false
set_option linter.unusedVariables false

def half (n : Nat) : Nat := if n % 2 = 1 then n / 2 ^^^ 3988292384 else n / 2
def halves : Nat → Nat → Nat
  | 0, n => n
  | k + 1, n => half (halves k n)
/-- an entry of the table -/
def ent (n : Nat) : Nat := halves 8 n
theorem half_lt {n : Nat} (h : n < 4294967296) : half n < 4294967296 := by
  unfold half
  split
  · exact Nat.xor_lt_two_pow (n := 32) (by omega) (by decide)
  · omega
theorem halves_lt {n : Nat} (h : n < 4294967296) (k : Nat) : halves k n < 4294967296 := by
  induction k with
  | zero => exact h
  | succ k ih => exact half_lt ih
theorem ent_lt {n : Nat} (h : n < 4294967296) : ent n < 4294967296 := halves_lt h 8

/-- a byte more, by a table -/
def stp (T : Nat → Nat) (c : Nat) (b : Int) : Nat := c / 256 ^^^ T (c % 256 ^^^ b.toNat)
def upd (T : Nat → Nat) (c : Nat) (bs : List Int) : Nat := bs.foldl (stp T) c
def crc (T : Nat → Nat) (c : Nat) (bs : List Int) : Nat := 4294967295 - upd T (4294967295 - c) bs
def Tab (T : Nat → Nat) : Prop := ∀ i, i < 256 → T i < 4294967296
theorem ent_tab : Tab ent := fun i h => ent_lt (by omega)

theorem ix_lt {c : Nat} {b : Int} (hb : 0 ≤ b ∧ b ≤ 255) : c % 256 ^^^ b.toNat < 256 := Nat.xor_lt_two_pow (n := 8) (by omega) (by omega)
theorem stp_lt {T : Nat → Nat} (hT : Tab T) {c : Nat} {b : Int} (hc : c < 4294967296) (hb : 0 ≤ b ∧ b ≤ 255) : stp T c b < 4294967296 :=
  Nat.xor_lt_two_pow (n := 32) (by omega) (hT _ (ix_lt hb))
theorem fold_lt {M : Nat} {f : Nat → Int → Nat} {bs : List Int} (hf : ∀ c b, c < M → b ∈ bs → f c b < M) {c : Nat} (hc : c < M) : bs.foldl f c < M := by
  induction bs generalizing c with
  | nil => exact hc
  | cons b r ih =>
    rw [List.foldl_cons]
    exact ih (fun c x hc hx => hf c x hc (List.mem_cons_of_mem _ hx)) (hf c b hc (List.mem_cons_self ..))
theorem upd_lt {T : Nat → Nat} (hT : Tab T) {bs : List Int} (hb : Byt bs) {c : Nat} (hc : c < 4294967296) : upd T c bs < 4294967296 :=
  fold_lt (fun _ b hc hx => stp_lt hT hc (hb b hx)) hc
theorem fold_snoc (f : Nat → Int → Nat) (c : Nat) (bs : List Int) (j : Nat) (h : j < bs.length) : (bs.take (j + 1)).foldl f c = f ((bs.take j).foldl f c) (bs.getD j 0) := by
  rw [take_snocI _ _ h, List.foldl_append, List.foldl_cons, List.foldl_nil]
theorem upd_snoc (T : Nat → Nat) (c : Nat) (bs : List Int) (j : Nat) (h : j < bs.length) : upd T c (bs.take (j + 1)) = stp T (upd T c (bs.take j)) (bs.getD j 0) := by
  unfold upd; rw [fold_snoc _ _ _ _ h]
theorem upd_append (T : Nat → Nat) (c : Nat) (a b : List Int) : upd T c (a ++ b) = upd T (upd T c a) b := by unfold upd; rw [List.foldl_append]
theorem crc_lt (T : Nat → Nat) (c : Nat) (bs : List Int) : crc T c bs < 4294967296 := by unfold crc; omega
theorem crc_append {T : Nat → Nat} (hT : Tab T) (c : Nat) {a : List Int} (b : List Int) (ha : Byt a) : crc T c (a ++ b) = crc T (crc T c a) b := by
  have := upd_lt hT ha (c := 4294967295 - c) (by omega)
  unfold crc
  rw [upd_append]
  congr 2
  omega

/-- the digest of 64 bits -/
def dig1 (d : Nat) (b : Int) : Nat := (d ^^^ b.toNat) * 1099511628211 % 18446744073709551616
def dig (d : Nat) (bs : List Int) : Nat := bs.foldl dig1 d
theorem dig1_lt (d : Nat) (b : Int) : dig1 d b < 18446744073709551616 := Nat.mod_lt _ (by decide)
theorem dig_lt {d : Nat} (h : d < 18446744073709551616) (bs : List Int) : dig d bs < 18446744073709551616 :=
  fold_lt (fun d b _ _ => dig1_lt d b) h
theorem dig_snoc (d : Nat) (bs : List Int) (j : Nat) (h : j < bs.length) : dig d (bs.take (j + 1)) = dig1 (dig d (bs.take j)) (bs.getD j 0) := by
  unfold dig; rw [fold_snoc _ _ _ _ h]
theorem dig_append (d : Nat) (a b : List Int) : dig d (a ++ b) = dig (dig d a) b := by unfold dig; rw [List.foldl_append]

/-! the numbers of the model -/
theorem and1 {n : Nat} (h : n < 4294967296) : bits .and .u32 (n : Int) 1 = ((n % 2 : Nat) : Int) := by
  have := u32_and_nat n 1 h (by decide)
  rw [Nat.and_one_is_mod] at this
  exact this
theorem xor32 {a b : Nat} (ha : a < 4294967296) (hb : b < 4294967296) : bits .xor .u32 (a : Int) (b : Int) = ((a ^^^ b : Nat) : Int) := u32_xor_nat a b ha hb
theorem xor64 {a b : Nat} (ha : a < 18446744073709551616) (hb : b < 18446744073709551616) : bits .xor .u64 (a : Int) (b : Int) = ((a ^^^ b : Nat) : Int) := u64_xor_nat a b ha hb
theorem xor8 {a b : Nat} (ha : a < 256) (hb : b < 256) : bits .xor .u8 (a : Int) (b : Int) = ((a ^^^ b : Nat) : Int) := u8_xor_nat a b ha hb
end Go.Proofs.Ytfhgbddeclldnaa

namespace Go.Proofs.Ytfhgbddeclldnaa
open Go.RowKit
set_option maxRecDepth 100000
set_option linter.unusedSimpArgs false
set_option linter.unusedVariables false

theorem half1 {x : Nat} (h : x % 2 = 1) : half x = x / 2 ^^^ 3988292384 := by simp [half, h]
theorem half0 {x : Nat} (h : x % 2 ≠ 1) : half x = x / 2 := by simp [half, h]
theorem xorP {x : Nat} (h : x < 4294967296) : bits .xor .u32 ((x : Int) / 2) 3988292384 = ((x / 2 ^^^ 3988292384 : Nat) : Int) := xor32 (a := x / 2) (b := 3988292384) (by omega) (by decide)

theorem stp_eq {T : Nat → Nat} (hT : Tab T) {x : Nat} {b : Int} (hb : 0 ≤ b ∧ b ≤ 255) (hx : x < 4294967296) : bits .xor .u32 ((x : Int) / 256) (T (x % 256 ^^^ b.toNat)) = ((stp T x b : Nat) : Int) :=
  xor32 (a := x / 256) (by omega) (hT _ (ix_lt hb))
theorem ix_eq {x : Nat} {b : Int} (hb : 0 ≤ b ∧ b ≤ 255) : bits .xor .u32 ((x : Int) % 256) b = ((x % 256 ^^^ b.toNat : Nat) : Int) := by
  obtain ⟨c, rfl⟩ := Int.eq_ofNat_of_zero_le hb.1
  exact xor32 (a := x % 256) (b := c) (by omega) (by omega)

end Go.Proofs.Ytfhgbddeclldnaa

namespace Go.Proofs.Ytfhgbddeclldnaa
open Go.RowKit
set_option maxRecDepth 100000
set_option linter.unusedSimpArgs false
set_option linter.unusedVariables false

/-- a length whose further bytes follow: it, the place behind; -1: it ends too early -/
def lnk : List Int → Int → Int → Int × Int
  | [], _, p => (-1, p)
  | b :: r, n, p => if b = 255 then lnk r (n + 255) (p + 1) else (n + b, p + 1)
def lng (bs : List Int) (n : Int) (p : Nat) : Int × Int := if n < 15 then (n, (p : Int)) else lnk (bs.drop p) n p
def fou (n : Int) : Int := if 15 < n then 15 else n

theorem lnk_at {bs : List Int} {p : Nat} (h : p < bs.length) (n : Int) : lnk (bs.drop p) n p = if bs.getD p 0 = 255 then lnk (bs.drop (p + 1)) (n + 255) ((p + 1 : Nat) : Int) else (n + bs.getD p 0, ((p + 1 : Nat) : Int)) := by
  rw [List.drop_eq_getElem_cons h, lnk]
  simp [List.getD_eq_getElem?_getD, List.getElem?_eq_getElem h]

end Go.Proofs.Ytfhgbddeclldnaa

namespace Go.Proofs.Ytfhgbddeclldnaa
open Go.RowKit
set_option maxRecDepth 100000
set_option linter.unusedSimpArgs false
set_option linter.unusedVariables false

theorem info_parts {P : Program} {t : TypeId} {z : Option Value} {s b : Nat} (h : (P.info? t).map (fun i => (i.zero, i.size, i.bytes)) = some (z, s, b)) : ∃ i, P.info? t = some i ∧ i.zero = z ∧ i.size = s ∧ i.bytes = b := by
  cases e : P.info? t with
  | none => rw [e] at h; simp at h
  | some i => rw [e] at h; simp at h; exact ⟨i, rfl, h.1, h.2.1, h.2.2⟩
theorem cell_one (w : World) (t : TypeId) (v : Value) (j : Nat) (u : Value) (h : ([v])[j]? = some u) : (w.alloc (.cells #[v] t)).cell? ((⟨w.heap.size, 0, none⟩ : Addr).add j) = some u := by
  cases j with
  | zero =>
    simp at h
    subst h
    simp [Addr.add]
  | succ j => simp at h
theorem grown_own {a b c : World} {base t s n : Nat} {v : Value} {xs : List Value} (h : a.grownBy b none) (ho : b.ownsRow base t s v n xs) (k : b.grownBy c v.ownBlock) (hb : a.heap.size ≤ base) : a.grownBy c none :=
  ⟨k.os.trans h.os, k.tape.trans h.tape, k.output.trans h.output, Nat.le_trans h.size k.size, fun i hi hr => (k.block i (Nat.lt_of_lt_of_le hi h.size) (fun e => by have := (ho.lt i e.symm).1; omega)).trans (h.block i hi hr)⟩

/-- the bytes that tell a length behind its four bits -/
def tol (n : Int) : List Int := if n < 15 then [] else List.replicate ((n - 15) / 255).toNat 255 ++ [(n - 15) % 255]
theorem tol_byt (n : Int) : Byt (tol n) := by
  unfold tol
  split
  · intro x hx; simp at hx
  · intro x hx
    rw [List.mem_append] at hx
    rcases hx with hx | hx
    · rw [List.eq_of_mem_replicate hx]; decide
    · simp at hx; omega
theorem tol_len {n : Int} (h : 15 ≤ n) : (tol n).length = ((n - 15) / 255).toNat + 1 := by
  unfold tol; rw [if_neg (by omega)]; simp

end Go.Proofs.Ytfhgbddeclldnaa

namespace Go.Proofs.Ytfhgbddeclldnaa
open Go.RowKit
set_option maxRecDepth 100000
set_option linter.unusedSimpArgs false
set_option linter.unusedVariables false

theorem div_step (n : Int) (j : Nat) : n / 256 ^ j / 256 = n / 256 ^ (j + 1) := by
  rw [Int.ediv_ediv_of_nonneg (Int.pow_nonneg (by decide)), Int.pow_succ]
theorem div_bd (n : Int) (j : Nat) (h0 : 0 ≤ n) (h1 : n < 18446744073709551616) : 0 ≤ n / 256 ^ j ∧ n / 256 ^ j < 18446744073709551616 := by
  have hp : (0 : Int) ≤ 256 ^ j := Int.pow_nonneg (by decide)
  exact ⟨Int.ediv_nonneg h0 hp, Int.lt_of_le_of_lt (Int.ediv_le_self _ h0) h1⟩
end Go.Proofs.Ytfhgbddeclldnaa

namespace Go.Proofs.Ytfhgbddeclldnaa
open Go.RowKit
set_option maxRecDepth 100000
set_option linter.unusedSimpArgs false
set_option linter.unusedVariables false

structure Rc where
  q : Int
  s : Int
  l : Int
  u : Int
def Rc.cells (r : Rc) : List Value := [.int .u64 r.q, .int .i64 r.s, .int .i64 r.l, .int .u64 r.u]
def Rc.val (r : Rc) : Value := .agg #[.int .u64 r.q, .int .i64 r.s, .int .i64 r.l, .int .u64 r.u]
def in64 (x : Int) : Prop := -9223372036854775808 ≤ x ∧ x ≤ 9223372036854775807
def inU (x : Int) : Prop := 0 ≤ x ∧ x < 18446744073709551616
def Rc.ok (r : Rc) : Prop := inU r.q ∧ in64 r.s ∧ in64 r.l ∧ inU r.u
def rc0 : Rc := ⟨0, 0, 0, 0⟩
/-- is a record right? -/
def rrt (r : Rc) : Bool := decide (r.q ≤ 4611686018427387904) && decide (0 ≤ r.s) && decide (r.s ≤ 1) && decide (1 ≤ r.l) && decide (r.l ≤ 8388608)
theorem rrt_iff {r : Rc} : rrt r = true ↔ r.q ≤ 4611686018427387904 ∧ (r.s = 0 ∨ r.s = 1) ∧ 1 ≤ r.l ∧ r.l ≤ 8388608 := by
  unfold rrt
  simp only [Bool.and_eq_true, decide_eq_true_eq]
  omega
set_option maxHeartbeats 1000000 in
theorem rright_any (r : Rc) (w : World) : Calls Try.prog 7 #[r.val] w fun e w' => e = .returned (.bool (rrt r)) ∧ w.grownBy w' none := by
  obtain ⟨q, s, l, u⟩ := r
  unfold rrt Rc.val
  simp only
  cases h1 : decide (q ≤ 4611686018427387904) <;> cases h2 : decide (0 ≤ s) <;> cases h3 : decide (s ≤ 1) <;> cases h4 : decide (1 ≤ l)
  all_goals
    go_enter Try.func7, Try.ntmps7
    go_wp2
    go_ret
    exact ⟨rfl, World.grownBy_alloc _ _ _⟩
/-- Next, as a plain function -/
def rnx (r : Rc) (slot n sum : Int) : Rc × Int :=
  if 4611686018427387904 < r.q then (rc0, 1) else if rrt ⟨0, slot, n, sum⟩ = false then (rc0, 1) else if r.q = 4611686018427387904 then (rc0, 2) else (⟨r.q + 1, slot, n, sum⟩, 0)
/-- a variable of several cells -/
structure Bx (W : World) (g : Nat) (T : TypeId) (cs : List Value) : Prop where
  blk : W.heap[g]? = some (.cells cs.toArray T (0, 0))
theorem Bx.lt {W : World} {g : Nat} {T : TypeId} {cs : List Value} (h : Bx W g T cs) : g < W.heap.size := (Array.getElem?_eq_some_iff.1 h.blk).1
theorem Bx.c {W : World} {g : Nat} {T : TypeId} {cs : List Value} (h : Bx W g T cs) (i : Nat) : W.cell? ⟨g, i, none⟩ = cs[i]? := by simp [World.cell?, h.blk]
theorem Bx.f {W : World} {g : Nat} {T : TypeId} {cs : List Value} (h : Bx W g T cs) (i : Nat) : W.frozen? ⟨g, i, none⟩ = false := by simp [World.frozen?, h.blk]
theorem Bx.kept {W W' : World} {g : Nat} {T : TypeId} {cs : List Value} (h : Bx W g T cs) (hg : W.grownBy W' none) : Bx W' g T cs := ⟨by rw [hg.block g h.lt (by simp)]; exact h.blk⟩
theorem Bx.new (w : World) (T : TypeId) (cs : List Value) : Bx (w.alloc (.cells cs.toArray T)) w.heap.size T cs := ⟨heap_alloc_new _ _⟩
theorem Bx.set {W : World} {g : Nat} {T : TypeId} {cs : List Value} (h : Bx W g T cs) (i : Nat) (v : Value) : Bx (W.setCell ⟨g, i, none⟩ v) g T (cs.set i v) := by
  constructor
  rw [setCell_eq_setRow W g i _ _ _ _ h.blk, setRow_heap W g _ _ _ _ h.blk]
  simp
/-- a record stored whole -/
def set4 (W : World) (g : Nat) (a b c d : Value) : World := (((W.setCell ⟨g, 0, none⟩ a).setCell ⟨g, 1, none⟩ b).setCell ⟨g, 2, none⟩ c).setCell ⟨g, 3, none⟩ d
theorem Bx.set4 {W : World} {g : Nat} {T : TypeId} {x y z t : Value} (h : Bx W g T [x, y, z, t]) (a b c d : Value) : Bx (set4 W g a b c d) g T [a, b, c, d] := (((h.set 0 a).set 1 b).set 2 c).set 3 d
theorem grown_set4 (W : World) (g : Nat) (a b c d : Value) : W.grownBy (set4 W g a b c d) (some g) := grown_trans (grown_trans (grown_trans (grown_set _ _ _ _) (grown_set _ _ _ _)) (grown_set _ _ _ _)) (grown_set _ _ _ _)
theorem bx4 {W : World} {g : Nat} {T : TypeId} {a b c d : Value} (h : Bx W g T [a, b, c, d]) : W.cell? ⟨g, 0, none⟩ = some a ∧ W.cell? ⟨g, 1, none⟩ = some b ∧ W.cell? ⟨g, 2, none⟩ = some c ∧ W.cell? ⟨g, 3, none⟩ = some d := ⟨h.c 0, h.c 1, h.c 2, h.c 3⟩
end Go.Proofs.Ytfhgbddeclldnaa

namespace Go.Proofs.Ytfhgbddeclldnaa
open Go.RowKit
set_option maxRecDepth 100000
set_option linter.unusedSimpArgs false
set_option linter.unusedVariables false

theorem Row.piece {w : World} {b off len : Nat} {bs : List Int} (h : Row w (some ⟨b, off, none⟩) len bs) (k n o' : Nat) (hn : k + n ≤ len) (ho : 0 < n → o' = off + k) : Row w (some ⟨b, o', none⟩) n ((bs.drop k).take n) := by
  rcases Nat.eq_zero_or_pos n with h0 | h0
  · subst h0; rw [List.take_zero]; exact Row.none0 _
  · rw [ho h0]; exact h.part k n hn
/-- what a call made: its bytes -/
theorem own_bytes {W : World} {base n : Nat} {v : Value} {bs : List Int} (h : W.ownsRow base 5 1 v n (bv bs)) (hb : Byt bs) (hl : n ≤ maxLen) : ∃ a c, v = .slice a n c ∧ Row W a n bs ∧ (a = none → c = 0) ∧ n ≤ c ∧ c ≤ maxLen := by
  have hn : bs.length = n := by have := h.1; rw [bv_length] at this; omega
  rcases h.2 with ⟨rfl, rfl⟩ | ⟨g, cap, cur, rfl, _, hg, hc, hm, hs, ht⟩
  · exact ⟨none, 0, rfl, ⟨hn, Nat.zero_le _, hb, fun h => by omega⟩, fun _ => rfl, Nat.le_refl _, Nat.zero_le _⟩
  · refine ⟨_, cap, rfl, ⟨hn, hl, hb, fun _ => ⟨g, 0, rfl, fun i hi => ?_⟩⟩, (fun e => by cases e), hc, hm⟩
    have e : W.cell? ⟨g, 0 + i, none⟩ = cur[i]? := by simp [World.cell?, hg]
    rw [e, ← bv_getElem? bs i (by omega), ← ht, List.getElem?_take, if_pos (by omega), Array.getElem?_toList]
theorem own_bx {W : World} {base e e' s n g : Nat} {v : Value} {xs cs : List Value} (h : W.ownsRow base e s v n xs) (h' : Bx W g e' cs) (hne : e ≠ e') : some g ≠ v.ownBlock := by
  intro k
  rcases h.2 with ⟨rfl, _⟩ | ⟨g', cap, cur, rfl, hb, hgg, _⟩
  · simp [Value.ownBlock] at k
  · simp [Value.ownBlock] at k
    subst k
    rw [h'.blk] at hgg
    injection hgg with e1
    injection e1 with e1 e2 e3
    exact hne e2.symm
/-- all bytes of a record but the last four -/
def rb0 (r : Rc) : List Int := [80, 77, 66, 49] ++ sto r.q 8 ++ [r.s, 0, 0, 0] ++ sto r.l 4 ++ sto r.u 8
def rby (r : Rc) : List Int := rb0 r ++ sto (crc ent 0 (rb0 r) : Nat) 4
theorem sto_len (n : Int) (k : Nat) : (sto n k).length = k := by
  induction k generalizing n with
  | zero => rfl
  | succ k ih => rw [sto_snoc, List.length_append, ih]; rfl
theorem rb0_len (r : Rc) : (rb0 r).length = 28 := by unfold rb0; simp [sto_len]
theorem rby_len (r : Rc) : (rby r).length = 32 := by unfold rby; rw [List.length_append, rb0_len, sto_len]
theorem rb0_byt {r : Rc} (h : rrt r = true) : Byt (rb0 r) := by
  have := rrt_iff.1 h
  unfold rb0
  refine (((Byt.append (Byt.append ?_ (sto_byt _ _)) ?_).append (sto_byt _ _)).append (sto_byt _ _))
  · intro x hx; simp at hx; omega
  · intro x hx; simp at hx; omega
theorem rby_byt {r : Rc} (h : rrt r = true) : Byt (rby r) := by unfold rby; exact (rb0_byt h).append (sto_byt _ _)
/-- bytes so far, and the record in its variable -/
structure By (w W : World) (gr : Nat) (r : Rc) (v : Value) (n : Nat) (xs : List Int) : Prop where
  bx : Bx W gr 26 [.int .u64 r.q, .int .i64 r.s, .int .i64 r.l, .int .u64 r.u]
  own : W.ownsRow w.heap.size 5 1 v n (bv xs)
  gr : w.grownBy W none
theorem By.keep {w W W' : World} {gr n : Nat} {r : Rc} {v : Value} {xs : List Int} (h : By w W gr r v n xs) (k : W.grownBy W' none) : By w W' gr r v n xs :=
  ⟨h.bx.kept k, h.own.kept k (by cases v.ownBlock <;> simp), grown_trans h.gr k⟩
theorem By.app {w W W' : World} {gr n m : Nat} {r : Rc} {v v' : Value} {xs ys : List Int} (h : By w W gr r v n xs) (o : W'.ownsRow w.heap.size 5 1 v' (n + m) (bv xs ++ bv ys)) (k : W.grownBy W' v.ownBlock) : By w W' gr r v' (n + m) (xs ++ ys) :=
  ⟨⟨by rw [k.block _ h.bx.lt (own_bx h.own h.bx (by decide))]; exact h.bx.blk⟩, by rw [bv_append]; exact o, grown_own h.gr h.own k (Nat.le_refl _)⟩
end Go.Proofs.Ytfhgbddeclldnaa

namespace Go.Proofs.Ytfhgbddeclldnaa
open Go.RowKit
set_option maxRecDepth 100000
set_option linter.unusedSimpArgs false
set_option linter.unusedVariables false

/-- what the fields of these bytes tell -/
def rrd (bs : List Int) : Rc := ⟨le ((bs.drop 4).take 8), bs.getD 12 0, le ((bs.drop 16).take 4), le ((bs.drop 20).take 8)⟩
/-- Decode, as a plain function -/
def rde (bs : List Int) : Rc × Int := if bs.length < 32 then (rc0, 6) else if rrt (rrd bs) = true ∧ rby (rrd bs) = bs.take 32 then (rrd bs, 0) else (rc0, 6)
theorem rrd_ok {bs : List Int} (h : Byt bs) : (rrd bs).ok := by
  have a1 := le_nonneg ((h.drop 4).take 8)
  have a2 := le_lt_of ((h.drop 4).take 8) 8 (by simp; omega)
  have a3 := le_nonneg ((h.drop 16).take 4)
  have a4 := le_lt_of ((h.drop 16).take 4) 4 (by simp; omega)
  have a5 := le_nonneg ((h.drop 20).take 8)
  have a6 := le_lt_of ((h.drop 20).take 8) 8 (by simp; omega)
  have a7 := h.getD 12
  unfold Rc.ok rrd inU in64
  simp only
  omega
theorem rde_ok {bs : List Int} (h : Byt bs) : (rde bs).1.ok ∧ in64 (rde bs).2 := by
  have h0 : rc0.ok := by unfold Rc.ok rc0 inU in64; simp
  unfold rde
  split
  · exact ⟨h0, by unfold in64; simp⟩
  · split
    · exact ⟨rrd_ok h, by unfold in64; simp⟩
    · exact ⟨h0, by unfold in64; simp⟩
/-- the answer's variable, and a record's behind it -/
structure Two8 (w W : World) (g0 : Nat) (cs : List Value) : Prop where
  z : Bx W g0 26 [.int .u64 0, .int .i64 0, .int .i64 0, .int .u64 0]
  r : Bx W (g0 + 1) 26 cs
  gr : w.grownBy W none
theorem Two8.keep {w W W' : World} {g0 : Nat} {cs : List Value} (h : Two8 w W g0 cs) (k : W.grownBy W' none) : Two8 w W' g0 cs := ⟨h.z.kept k, h.r.kept k, grown_trans h.gr k⟩
theorem Two8.drew {w W : World} {g0 : Nat} {cs : List Value} (h : Two8 w W g0 cs) : Two8 w W.drew g0 cs := h.keep ⟨rfl, rfl, rfl, Nat.le_refl _, fun _ _ _ => rfl⟩
end Go.Proofs.Ytfhgbddeclldnaa

namespace Go.Proofs.Ytfhgbddeclldnaa
open Go.RowKit
set_option maxRecDepth 100000
set_option linter.unusedSimpArgs false
set_option linter.unusedVariables false

/-- Choose, as a plain function -/
def rch (a b : List Int) : Int × Rc × Int :=
  if (rde a).2 ≠ 0 ∧ (rde b).2 ≠ 0 then (0, rc0, 4) else if (rde a).2 ≠ 0 ∨ ((rde b).2 = 0 ∧ (rde a).1.q < (rde b).1.q) then (1, (rde b).1, 0) else (0, (rde a).1, 0)
theorem rde_err (bs : List Int) : (rde bs).2 = 0 ∨ (rde bs).2 = 6 := by
  unfold rde
  split
  · exact Or.inr rfl
  · split
    · exact Or.inl rfl
    · exact Or.inr rfl
/-- three variables: the answer's, the first, the second -/
structure Thr (w W : World) (g0 g1 g2 : Nat) (c1 c2 : List Value) : Prop where
  z : Bx W g0 26 [.int .u64 0, .int .i64 0, .int .i64 0, .int .u64 0]
  x : Bx W g1 26 c1
  y : Bx W g2 26 c2
  gr : w.grownBy W none
end Go.Proofs.Ytfhgbddeclldnaa

namespace Go.Proofs.Ytfhgbddeclldnaa
open Go.RowKit
set_option maxRecDepth 100000
set_option linter.unusedSimpArgs false
set_option linter.unusedVariables false

theorem le_sto8 (n : Int) (k : Nat) (h0 : 0 ≤ n) (h : n < 256 ^ k) : le (sto n k) = n := by
  induction k generalizing n with
  | zero => simp [sto, le] at *; omega
  | succ k ih =>
    have hp : (256 : Int) ^ (k + 1) = 256 ^ k * 256 := Int.pow_succ ..
    rw [sto, le, ih (n / 256) (by omega) (by rw [hp] at h; exact Int.ediv_lt_of_lt_mul (by decide) h)]
    omega
theorem rby_drop (r : Rc) (more : List Int) : ((rby r ++ more).drop 4).take 8 = sto r.q 8 ∧ (rby r ++ more).getD 12 0 = r.s ∧ ((rby r ++ more).drop 16).take 4 = sto r.l 4 ∧ ((rby r ++ more).drop 20).take 8 = sto r.u 8 ∧ (rby r ++ more).take 32 = rby r := by
  have l1 := sto_len r.q 8
  have l2 := sto_len r.l 4
  have l3 := sto_len r.u 8
  have l4 := rby_len r
  have l5 := sto_len (crc ent 0 (rb0 r) : Nat) 4
  unfold rby rb0 at *
  generalize sto r.q 8 = A at *
  generalize sto r.l 4 = B at *
  generalize sto r.u 8 = C at *
  generalize sto _ 4 = D at *
  refine ⟨?_, ?_, ?_, ?_, ?_⟩
  · simp [List.drop_append, List.take_append, l1]
  · simp [List.getElem?_append, l1]
  · simp [List.drop_append, List.take_append, l1, l2]
  · simp [List.drop_append, List.take_append, l1, l2, l3]
  · rw [List.take_append_of_le_length (by omega), List.take_of_length_le (by omega)]
theorem rde_rby {r : Rc} (more : List Int) (hr : rrt r = true) (hq : 0 ≤ r.q) (hu : inU r.u) : rde (rby r ++ more) = (r, 0) := by
  obtain ⟨d1, d2, d3, d4, d5⟩ := rby_drop r more
  have hk := rrt_iff.1 hr
  have e : rrd (rby r ++ more) = r := by
    unfold rrd
    rw [d1, d2, d3, d4, le_sto8 _ _ hq (by omega), le_sto8 _ _ (by omega) (by omega), le_sto8 _ _ hu.1 (by have := hu.2; omega)]
  unfold rde
  rw [if_neg (by have := rby_len r; simp; omega), e, if_pos ⟨hr, d5.symm⟩]
theorem rde_rby0 {r : Rc} (hr : rrt r = true) (hq : 0 ≤ r.q) (hu : inU r.u) : rde (rby r) = (r, 0) := by
  have := rde_rby [] hr hq hu
  rwa [List.append_nil] at this
theorem rch_two {r t : Rc} (hr : rrt r = true) (ht : rrt t = true) (hq : 0 ≤ r.q) (hq2 : 0 ≤ t.q) (hu : inU r.u) (hu2 : inU t.u) : rch (rby r) (rby t) = if r.q < t.q then (1, t, 0) else (0, r, 0) := by
  unfold rch
  rw [rde_rby0 hr hq hu, rde_rby0 ht hq2 hu2]
  simp
end Go.Proofs.Ytfhgbddeclldnaa
