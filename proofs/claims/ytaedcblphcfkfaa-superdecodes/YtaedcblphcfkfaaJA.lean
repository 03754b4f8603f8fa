/- A head; is it right? -/
import Derived.Test.YtaedcblphcfkfaaDB
import Derived.Deep.QuietTactic
import Derived.BigQuiet
namespace Go.Proofs.Ytaedcblphcfkfaa
open Go.RowKit
set_option linter.unusedSimpArgs false
set_option linter.unusedVariables false

/-- a head: Log, Inodes, Len, and of each stream At and Size -/
structure Sp where
  lg : Int
  no : Int
  ln : Int
  a0 : Int
  z0 : Int
  a1 : Int
  z1 : Int
  a2 : Int
  z2 : Int
  a3 : Int
  z3 : Int
  a4 : Int
  z4 : Int
  a5 : Int
  z5 : Int
def Sp.cells (s : Sp) : List Value := [.int .i64 s.lg, .int .i64 s.no, .int .i64 s.ln, .int .i64 s.a0, .int .i64 s.z0, .int .i64 s.a1, .int .i64 s.z1, .int .i64 s.a2, .int .i64 s.z2, .int .i64 s.a3, .int .i64 s.z3, .int .i64 s.a4, .int .i64 s.z4, .int .i64 s.a5, .int .i64 s.z5]
def Sp.val (s : Sp) : Value := .agg #[.int .i64 s.lg, .int .i64 s.no, .int .i64 s.ln, .int .i64 s.a0, .int .i64 s.z0, .int .i64 s.a1, .int .i64 s.z1, .int .i64 s.a2, .int .i64 s.z2, .int .i64 s.a3, .int .i64 s.z3, .int .i64 s.a4, .int .i64 s.z4, .int .i64 s.a5, .int .i64 s.z5]
def Sp.ok (s : Sp) : Prop := in64 s.lg ∧ in64 s.no ∧ in64 s.ln ∧ in64 s.a0 ∧ in64 s.z0 ∧ in64 s.a1 ∧ in64 s.z1 ∧ in64 s.a2 ∧ in64 s.z2 ∧ in64 s.a3 ∧ in64 s.z3 ∧ in64 s.a4 ∧ in64 s.z4 ∧ in64 s.a5 ∧ in64 s.z5
def sp0 : Sp := ⟨0, 0, 0, 0, 0, 0, 0, 0, 0, 0, 0, 0, 0, 0, 0⟩
/-- the i-th stream of a head: may it be so, so far? -/
def Hok (s : Sp) : Prop := 12 ≤ s.lg ∧ s.lg ≤ 20 ∧ 1 ≤ s.no ∧ s.no ≤ 16385 ∧ 68 ≤ s.ln ∧ s.ln ≤ 8388608
def Sok (s : Sp) (j : Nat) : Prop := (0 < j → 68 ≤ s.a0 ∧ 68 ≤ s.a0 ∧ s.a0 ≤ s.ln ∧ 0 ≤ s.z0 ∧ s.z0 ≤ 16777216) ∧ (1 < j → s.a0 ≤ s.a1 ∧ 68 ≤ s.a1 ∧ s.a1 ≤ s.ln ∧ 0 ≤ s.z1 ∧ s.z1 ≤ 16777216) ∧ (2 < j → s.a1 ≤ s.a2 ∧ 68 ≤ s.a2 ∧ s.a2 ≤ s.ln ∧ 0 ≤ s.z2 ∧ s.z2 ≤ 16777216) ∧ (3 < j → s.a2 ≤ s.a3 ∧ 68 ≤ s.a3 ∧ s.a3 ≤ s.ln ∧ 0 ≤ s.z3 ∧ s.z3 ≤ 16777216) ∧ (4 < j → s.a3 ≤ s.a4 ∧ 68 ≤ s.a4 ∧ s.a4 ≤ s.ln ∧ 0 ≤ s.z4 ∧ s.z4 ≤ 16777216) ∧ (5 < j → s.a4 ≤ s.a5 ∧ 68 ≤ s.a5 ∧ s.a5 ≤ s.ln ∧ 0 ≤ s.z5 ∧ s.z5 ≤ 16777216)
/-- is a head right? -/
def srt (s : Sp) : Bool := decide ((12 ≤ s.lg ∧ s.lg ≤ 20 ∧ 1 ≤ s.no ∧ s.no ≤ 16385 ∧ 68 ≤ s.ln ∧ s.ln ≤ 8388608) ∧ (68 ≤ s.a0 ∧ 68 ≤ s.a0 ∧ s.a0 ≤ s.ln ∧ 0 ≤ s.z0 ∧ s.z0 ≤ 16777216) ∧ (s.a0 ≤ s.a1 ∧ 68 ≤ s.a1 ∧ s.a1 ≤ s.ln ∧ 0 ≤ s.z1 ∧ s.z1 ≤ 16777216) ∧ (s.a1 ≤ s.a2 ∧ 68 ≤ s.a2 ∧ s.a2 ≤ s.ln ∧ 0 ≤ s.z2 ∧ s.z2 ≤ 16777216) ∧ (s.a2 ≤ s.a3 ∧ 68 ≤ s.a3 ∧ s.a3 ≤ s.ln ∧ 0 ≤ s.z3 ∧ s.z3 ≤ 16777216) ∧ (s.a3 ≤ s.a4 ∧ 68 ≤ s.a4 ∧ s.a4 ≤ s.ln ∧ 0 ≤ s.z4 ∧ s.z4 ≤ 16777216) ∧ (s.a4 ≤ s.a5 ∧ 68 ≤ s.a5 ∧ s.a5 ≤ s.ln ∧ 0 ≤ s.z5 ∧ s.z5 ≤ 16777216))
theorem srt_iff {s : Sp} : srt s = true ↔ (Hok s ∧ Sok s 6) := by
  unfold srt Hok Sok
  rw [decide_eq_true_eq]
  constructor
  · rintro ⟨h, h0, h1, h2, h3, h4, h5⟩
    exact ⟨h, fun _ => h0, fun _ => h1, fun _ => h2, fun _ => h3, fun _ => h4, fun _ => h5⟩
  · rintro ⟨h, h0, h1, h2, h3, h4, h5⟩
    exact ⟨h, h0 (by decide), h1 (by decide), h2 (by decide), h3 (by decide), h4 (by decide), h5 (by decide)⟩
theorem srt_no0 {s : Sp} (h : ¬ (68 ≤ s.a0 ∧ 68 ≤ s.a0 ∧ s.a0 ≤ s.ln ∧ 0 ≤ s.z0 ∧ s.z0 ≤ 16777216)) : srt s = false := by
  cases e : srt s
  · rfl
  · exact absurd ((srt_iff.1 e).2.1 (by decide)) h
theorem srt_no1 {s : Sp} (h : ¬ (s.a0 ≤ s.a1 ∧ 68 ≤ s.a1 ∧ s.a1 ≤ s.ln ∧ 0 ≤ s.z1 ∧ s.z1 ≤ 16777216)) : srt s = false := by
  cases e : srt s
  · rfl
  · exact absurd ((srt_iff.1 e).2.2.1 (by decide)) h
theorem srt_no2 {s : Sp} (h : ¬ (s.a1 ≤ s.a2 ∧ 68 ≤ s.a2 ∧ s.a2 ≤ s.ln ∧ 0 ≤ s.z2 ∧ s.z2 ≤ 16777216)) : srt s = false := by
  cases e : srt s
  · rfl
  · exact absurd ((srt_iff.1 e).2.2.2.1 (by decide)) h
theorem srt_no3 {s : Sp} (h : ¬ (s.a2 ≤ s.a3 ∧ 68 ≤ s.a3 ∧ s.a3 ≤ s.ln ∧ 0 ≤ s.z3 ∧ s.z3 ≤ 16777216)) : srt s = false := by
  cases e : srt s
  · rfl
  · exact absurd ((srt_iff.1 e).2.2.2.2.1 (by decide)) h
theorem srt_no4 {s : Sp} (h : ¬ (s.a3 ≤ s.a4 ∧ 68 ≤ s.a4 ∧ s.a4 ≤ s.ln ∧ 0 ≤ s.z4 ∧ s.z4 ≤ 16777216)) : srt s = false := by
  cases e : srt s
  · rfl
  · exact absurd ((srt_iff.1 e).2.2.2.2.2.1 (by decide)) h
theorem srt_no5 {s : Sp} (h : ¬ (s.a4 ≤ s.a5 ∧ 68 ≤ s.a5 ∧ s.a5 ≤ s.ln ∧ 0 ≤ s.z5 ∧ s.z5 ≤ 16777216)) : srt s = false := by
  cases e : srt s
  · rfl
  · exact absurd ((srt_iff.1 e).2.2.2.2.2.2 (by decide)) h
theorem srt_noh {s : Sp} (h : ¬ Hok s) : srt s = false := by
  cases e : srt s
  · rfl
  · exact absurd (srt_iff.1 e).1 h
theorem sok_zero (s : Sp) : Sok s 0 := ⟨fun h => absurd h (by decide), fun h => absurd h (by decide), fun h => absurd h (by decide), fun h => absurd h (by decide), fun h => absurd h (by decide), fun h => absurd h (by decide)⟩
theorem sok_next0 {s : Sp} (h : Sok s 0) (k : 68 ≤ s.a0 ∧ 68 ≤ s.a0 ∧ s.a0 ≤ s.ln ∧ 0 ≤ s.z0 ∧ s.z0 ≤ 16777216) : Sok s 1 := by
  unfold Sok at *
  obtain ⟨h0, h1, h2, h3, h4, h5⟩ := h
  exact ⟨fun _ => k, fun h => absurd h (by decide), fun h => absurd h (by decide), fun h => absurd h (by decide), fun h => absurd h (by decide), fun h => absurd h (by decide)⟩
theorem sok_next1 {s : Sp} (h : Sok s 1) (k : s.a0 ≤ s.a1 ∧ 68 ≤ s.a1 ∧ s.a1 ≤ s.ln ∧ 0 ≤ s.z1 ∧ s.z1 ≤ 16777216) : Sok s 2 := by
  unfold Sok at *
  obtain ⟨h0, h1, h2, h3, h4, h5⟩ := h
  exact ⟨fun _ => h0 (by decide), fun _ => k, fun h => absurd h (by decide), fun h => absurd h (by decide), fun h => absurd h (by decide), fun h => absurd h (by decide)⟩
theorem sok_next2 {s : Sp} (h : Sok s 2) (k : s.a1 ≤ s.a2 ∧ 68 ≤ s.a2 ∧ s.a2 ≤ s.ln ∧ 0 ≤ s.z2 ∧ s.z2 ≤ 16777216) : Sok s 3 := by
  unfold Sok at *
  obtain ⟨h0, h1, h2, h3, h4, h5⟩ := h
  exact ⟨fun _ => h0 (by decide), fun _ => h1 (by decide), fun _ => k, fun h => absurd h (by decide), fun h => absurd h (by decide), fun h => absurd h (by decide)⟩
theorem sok_next3 {s : Sp} (h : Sok s 3) (k : s.a2 ≤ s.a3 ∧ 68 ≤ s.a3 ∧ s.a3 ≤ s.ln ∧ 0 ≤ s.z3 ∧ s.z3 ≤ 16777216) : Sok s 4 := by
  unfold Sok at *
  obtain ⟨h0, h1, h2, h3, h4, h5⟩ := h
  exact ⟨fun _ => h0 (by decide), fun _ => h1 (by decide), fun _ => h2 (by decide), fun _ => k, fun h => absurd h (by decide), fun h => absurd h (by decide)⟩
theorem sok_next4 {s : Sp} (h : Sok s 4) (k : s.a3 ≤ s.a4 ∧ 68 ≤ s.a4 ∧ s.a4 ≤ s.ln ∧ 0 ≤ s.z4 ∧ s.z4 ≤ 16777216) : Sok s 5 := by
  unfold Sok at *
  obtain ⟨h0, h1, h2, h3, h4, h5⟩ := h
  exact ⟨fun _ => h0 (by decide), fun _ => h1 (by decide), fun _ => h2 (by decide), fun _ => h3 (by decide), fun _ => k, fun h => absurd h (by decide)⟩
theorem sok_next5 {s : Sp} (h : Sok s 5) (k : s.a4 ≤ s.a5 ∧ 68 ≤ s.a5 ∧ s.a5 ≤ s.ln ∧ 0 ≤ s.z5 ∧ s.z5 ≤ 16777216) : Sok s 6 := by
  unfold Sok at *
  obtain ⟨h0, h1, h2, h3, h4, h5⟩ := h
  exact ⟨fun _ => h0 (by decide), fun _ => h1 (by decide), fun _ => h2 (by decide), fun _ => h3 (by decide), fun _ => h4 (by decide), fun _ => k⟩
theorem bx15 {W : World} {g : Nat} {T : TypeId} {c0 c1 c2 c3 c4 c5 c6 c7 c8 c9 c10 c11 c12 c13 c14 : Value} (h : Bx W g T [c0, c1, c2, c3, c4, c5, c6, c7, c8, c9, c10, c11, c12, c13, c14]) : W.cell? ⟨g, 0, none⟩ = some c0 ∧ W.cell? ⟨g, 1, none⟩ = some c1 ∧ W.cell? ⟨g, 2, none⟩ = some c2 ∧ W.cell? ⟨g, 3, none⟩ = some c3 ∧ W.cell? ⟨g, 4, none⟩ = some c4 ∧ W.cell? ⟨g, 5, none⟩ = some c5 ∧ W.cell? ⟨g, 6, none⟩ = some c6 ∧ W.cell? ⟨g, 7, none⟩ = some c7 ∧ W.cell? ⟨g, 8, none⟩ = some c8 ∧ W.cell? ⟨g, 9, none⟩ = some c9 ∧ W.cell? ⟨g, 10, none⟩ = some c10 ∧ W.cell? ⟨g, 11, none⟩ = some c11 ∧ W.cell? ⟨g, 12, none⟩ = some c12 ∧ W.cell? ⟨g, 13, none⟩ = some c13 ∧ W.cell? ⟨g, 14, none⟩ = some c14 := ⟨h.c 0, h.c 1, h.c 2, h.c 3, h.c 4, h.c 5, h.c 6, h.c 7, h.c 8, h.c 9, h.c 10, h.c 11, h.c 12, h.c 13, h.c 14⟩
theorem bx2 {W : World} {g : Nat} {T : TypeId} {a b : Value} (h : Bx W g T [a, b]) : W.cell? ⟨g, 0, none⟩ = some a ∧ W.cell? ⟨g, 1, none⟩ = some b := ⟨h.c 0, h.c 1⟩
theorem Bx.drewN {W : World} {g : Nat} {T : TypeId} {cs : List Value} (h : Bx W g T cs) (n : Nat) : Bx (W.drewN n) g T cs := ⟨h.blk⟩
/-- where a walk over the streams stands -/
structure Jw (w W : World) (g : Nat) (s : Sp) : Prop where
  bx : Bx W g 26 s.cells
  gw : w.grownBy W none
  lo : w.heap.size ≤ g
theorem Jw.kept {w W W' : World} {g : Nat} {s : Sp} (h : Jw w W g s) (k : W.grownBy W' none) : Jw w W' g s := ⟨h.bx.kept k, grown_trans h.gw k, h.lo⟩
theorem Jw.new (w : World) (s : Sp) : Jw w (w.alloc (.cells s.cells.toArray 26)) w.heap.size s := ⟨Bx.new _ _ _, World.grownBy_alloc _ _ _, Nat.le_refl _⟩
theorem grown_drewN (W : World) (n : Nat) : W.grownBy (W.drewN n) none := ⟨rfl, rfl, rfl, Nat.le_refl _, fun _ _ _ => rfl⟩
set_option maxHeartbeats 4000000 in
theorem rright13_bad (s : Sp) (w : World) (h : ¬ Hok s) : Calls Try.prog 9 #[s.val] w fun e w' => e = .returned (.bool false) ∧ w.grownBy w' none := by
  obtain ⟨lg, no, ln, a0, z0, a1, z1, a2, z2, a3, z3, a4, z4, a5, z5⟩ := s
  unfold Hok at h
  simp only [Sp.val] at *

  by_cases c0 : lg < 12
  · clear h
    go_enter Try.func9, Try.ntmps9
    go_wp2
    go_ret
    exact ⟨rfl, World.grownBy_alloc _ _ _⟩
  by_cases c1 : 20 < lg
  · clear h
    go_enter Try.func9, Try.ntmps9
    go_wp2
    go_ret
    exact ⟨rfl, World.grownBy_alloc _ _ _⟩
  by_cases c2 : no < 1
  · clear h
    go_enter Try.func9, Try.ntmps9
    go_wp2
    go_ret
    exact ⟨rfl, World.grownBy_alloc _ _ _⟩
  by_cases c3 : 16385 < no
  · clear h
    go_enter Try.func9, Try.ntmps9
    go_wp2
    go_ret
    exact ⟨rfl, World.grownBy_alloc _ _ _⟩
  by_cases c4 : ln < 68
  · clear h
    go_enter Try.func9, Try.ntmps9
    go_wp2
    go_ret
    exact ⟨rfl, World.grownBy_alloc _ _ _⟩
  by_cases c5 : 8388608 < ln
  · clear h
    go_enter Try.func9, Try.ntmps9
    go_wp2
    go_ret
    exact ⟨rfl, World.grownBy_alloc _ _ _⟩
  exact absurd (by omega) h
set_option maxHeartbeats 8000000 in
theorem rright13_good (s : Sp) (w : World) (h : Hok s) : Calls Try.prog 9 #[s.val] w fun e w' => e = .returned (.bool (srt s)) ∧ w.grownBy w' none := by
  have J0 := Jw.new w s
  have HS0 : Hid (Sok s 0) := sok_zero s
  have HH : Hid (Hok s) := h
  have HI : Hid (Hok s → Sok s 6 → srt s = true) := fun a b => srt_iff.2 ⟨a, b⟩

  have HN0 : Hid ((¬ (68 ≤ s.a0 ∧ 68 ≤ s.a0 ∧ s.a0 ≤ s.ln ∧ 0 ≤ s.z0 ∧ s.z0 ≤ 16777216) → srt s = false) ∧ (Sok s 0 → (68 ≤ s.a0 ∧ 68 ≤ s.a0 ∧ s.a0 ≤ s.ln ∧ 0 ≤ s.z0 ∧ s.z0 ≤ 16777216) → Sok s 1)) := And.intro (@srt_no0 s) (@sok_next0 s)
  have HN1 : Hid ((¬ (s.a0 ≤ s.a1 ∧ 68 ≤ s.a1 ∧ s.a1 ≤ s.ln ∧ 0 ≤ s.z1 ∧ s.z1 ≤ 16777216) → srt s = false) ∧ (Sok s 1 → (s.a0 ≤ s.a1 ∧ 68 ≤ s.a1 ∧ s.a1 ≤ s.ln ∧ 0 ≤ s.z1 ∧ s.z1 ≤ 16777216) → Sok s 2)) := And.intro (@srt_no1 s) (@sok_next1 s)
  have HN2 : Hid ((¬ (s.a1 ≤ s.a2 ∧ 68 ≤ s.a2 ∧ s.a2 ≤ s.ln ∧ 0 ≤ s.z2 ∧ s.z2 ≤ 16777216) → srt s = false) ∧ (Sok s 2 → (s.a1 ≤ s.a2 ∧ 68 ≤ s.a2 ∧ s.a2 ≤ s.ln ∧ 0 ≤ s.z2 ∧ s.z2 ≤ 16777216) → Sok s 3)) := And.intro (@srt_no2 s) (@sok_next2 s)
  have HN3 : Hid ((¬ (s.a2 ≤ s.a3 ∧ 68 ≤ s.a3 ∧ s.a3 ≤ s.ln ∧ 0 ≤ s.z3 ∧ s.z3 ≤ 16777216) → srt s = false) ∧ (Sok s 3 → (s.a2 ≤ s.a3 ∧ 68 ≤ s.a3 ∧ s.a3 ≤ s.ln ∧ 0 ≤ s.z3 ∧ s.z3 ≤ 16777216) → Sok s 4)) := And.intro (@srt_no3 s) (@sok_next3 s)
  have HN4 : Hid ((¬ (s.a3 ≤ s.a4 ∧ 68 ≤ s.a4 ∧ s.a4 ≤ s.ln ∧ 0 ≤ s.z4 ∧ s.z4 ≤ 16777216) → srt s = false) ∧ (Sok s 4 → (s.a3 ≤ s.a4 ∧ 68 ≤ s.a4 ∧ s.a4 ≤ s.ln ∧ 0 ≤ s.z4 ∧ s.z4 ≤ 16777216) → Sok s 5)) := And.intro (@srt_no4 s) (@sok_next4 s)
  have HN5 : Hid ((¬ (s.a4 ≤ s.a5 ∧ 68 ≤ s.a5 ∧ s.a5 ≤ s.ln ∧ 0 ≤ s.z5 ∧ s.z5 ≤ 16777216) → srt s = false) ∧ (Sok s 5 → (s.a4 ≤ s.a5 ∧ 68 ≤ s.a5 ∧ s.a5 ≤ s.ln ∧ 0 ≤ s.z5 ∧ s.z5 ≤ 16777216) → Sok s 6)) := And.intro (@srt_no5 s) (@sok_next5 s)
  unfold Hok at h
  obtain ⟨p1, p2, p3, p4, p5, p6⟩ := h
  generalize hS : Sok s = S at *
  clear hS
  generalize srt s = R at *
  have HI2 : Hid _ := HI.out HH.out
  clear HI HH
  obtain ⟨lg, no, ln, a0, z0, a1, z1, a2, z2, a3, z3, a4, z4, a5, z5⟩ := s
  simp only [Sp.val, Sp.cells] at *
  have H0 : Hid _ := J0
  clear J0
  go_enter Try.func9, Try.ntmps9
  go_wp2
  clear p1 p2 p3 p4 p5 p6
  go_loopw [3] (fun i wr => ∃ j : Nat, j ≤ 6 ∧ i = .int .i64 j ∧ S j ∧ Jw w wr w.heap.size ⟨lg, no, ln, a0, z0, a1, z1, a2, z2, a3, z3, a4, z4, a5, z5⟩) (fun i _ => 6 - (intOf i).toNat)
  case atStart => exact ⟨0, by omega, rfl, HS0.out, H0.out⟩
  case round =>
    obtain ⟨j, hj, rfl, hs, J⟩ := hrel
    clear H0 HS0
    have HSj : Hid _ := hs
    have HJ : Hid _ := J
    clear hs J
    rcases (by omega : j = 0 ∨ j = 1 ∨ j = 2 ∨ j = 3 ∨ j = 4 ∨ j = 5 ∨ j = 6) with rfl | rfl | rfl | rfl | rfl | rfl | rfl
    · clear HN1 HN2 HN3 HN4 HN5
      obtain ⟨d0, d1, d2, d3, d4, d5, d6, d7, d8, d9, d10, d11, d12, d13, d14⟩ := bx15 HJ.out.bx
      clear d0 d1 d5 d6 d7 d8 d9 d10 d11 d12 d13 d14
      go_wp2_with fail
      have HB : Hid _ := And.intro (Bx.new wr 23 [.int .i64 a0, .int .i64 z0]) (HJ.out.kept (World.grownBy_alloc wr (.cells #[.int .i64 a0, .int .i64 z0] 23) none))
      generalize wr.alloc (.cells #[.int .i64 a0, .int .i64 z0] 23) = W at *
      generalize wr.heap.size = gx at *
      have q0 := fun n => (bx2 (HB.out.1.drewN n)).1
      have q1 := fun n => (bx2 (HB.out.1.drewN n)).2
      have e2 : ∀ n, (W.drewN n).cell? ⟨w.heap.size, 2, none⟩ = some (.int .i64 ln) := fun n => (HB.out.2.bx.drewN n).c 2
      have e3 : ∀ n, (W.drewN n).cell? ⟨w.heap.size, 3, none⟩ = some (.int .i64 a0) := fun n => (HB.out.2.bx.drewN n).c 3
      have e4 : ∀ n, (W.drewN n).cell? ⟨w.heap.size, 4, none⟩ = some (.int .i64 z0) := fun n => (HB.out.2.bx.drewN n).c 4
      clear d2 d3 d4
      by_cases c0 : a0 < 68
      · have er : R = false := HN0.out.1 (by first | omega | (simp only; omega))
        have HG : Hid _ := HB.out.2.gw
        have t0 : decide (a0 < 68) = true := decide_eq_true c0
        clear c0
        go_quiet (fail)
        go_wp2
        go_ret
        exact ⟨by rw [er]; rfl, grown_trans HG.out (grown_drewN _ _)⟩
      by_cases c1 : ln < a0
      · have er : R = false := HN0.out.1 (by first | omega | (simp only; omega))
        have HG : Hid _ := HB.out.2.gw
        have f0 : decide (a0 < 68) = false := decide_eq_false c0
        have t1 : decide (ln < a0) = true := decide_eq_true c1
        clear c0 c1
        go_quiet (fail)
        go_wp2
        go_ret
        exact ⟨by rw [er]; rfl, grown_trans HG.out (grown_drewN _ _)⟩
      by_cases c2 : z0 < 0
      · have er : R = false := HN0.out.1 (by first | omega | (simp only; omega))
        have HG : Hid _ := HB.out.2.gw
        have f0 : decide (a0 < 68) = false := decide_eq_false c0
        have f1 : decide (ln < a0) = false := decide_eq_false c1
        have t2 : decide (z0 < 0) = true := decide_eq_true c2
        clear c0 c1 c2
        go_quiet (fail)
        go_wp2
        go_ret
        exact ⟨by rw [er]; rfl, grown_trans HG.out (grown_drewN _ _)⟩
      by_cases c3 : 16777216 < z0
      · have er : R = false := HN0.out.1 (by first | omega | (simp only; omega))
        have HG : Hid _ := HB.out.2.gw
        have f0 : decide (a0 < 68) = false := decide_eq_false c0
        have f1 : decide (ln < a0) = false := decide_eq_false c1
        have f2 : decide (z0 < 0) = false := decide_eq_false c2
        have t3 : decide (16777216 < z0) = true := decide_eq_true c3
        clear c0 c1 c2 c3
        go_quiet (fail)
        go_wp2
        go_ret
        exact ⟨by rw [er]; rfl, grown_trans HG.out (grown_drewN _ _)⟩
      have hn : S 1 := HN0.out.2 HSj.out (by first | omega | (simp only; omega))
      have f0 : decide (a0 < 68) = false := decide_eq_false c0
      have f1 : decide (ln < a0) = false := decide_eq_false c1
      have f2 : decide (z0 < 0) = false := decide_eq_false c2
      have f3 : decide (16777216 < z0) = false := decide_eq_false c3
      clear c0 c1 c2 c3
      have HR : Hid _ := And.intro hn HB.out.2
      clear hn HB HSj HJ HN0
      go_quiet (fail)
      go_wp2
      go_roundw
      case rel => exact ⟨1, by omega, rfl, HR.out.1, HR.out.2.kept (grown_drewN _ _)⟩
      case measure => simp [intOf]
    · clear HN0 HN2 HN3 HN4 HN5
      obtain ⟨d0, d1, d2, d3, d4, d5, d6, d7, d8, d9, d10, d11, d12, d13, d14⟩ := bx15 HJ.out.bx
      clear d0 d1 d4 d7 d8 d9 d10 d11 d12 d13 d14
      go_wp2_with fail
      have HB : Hid _ := And.intro (Bx.new wr 23 [.int .i64 a1, .int .i64 z1]) (HJ.out.kept (World.grownBy_alloc wr (.cells #[.int .i64 a1, .int .i64 z1] 23) none))
      generalize wr.alloc (.cells #[.int .i64 a1, .int .i64 z1] 23) = W at *
      generalize wr.heap.size = gx at *
      have q0 := fun n => (bx2 (HB.out.1.drewN n)).1
      have q1 := fun n => (bx2 (HB.out.1.drewN n)).2
      have e2 : ∀ n, (W.drewN n).cell? ⟨w.heap.size, 2, none⟩ = some (.int .i64 ln) := fun n => (HB.out.2.bx.drewN n).c 2
      have e5 : ∀ n, (W.drewN n).cell? ⟨w.heap.size, 5, none⟩ = some (.int .i64 a1) := fun n => (HB.out.2.bx.drewN n).c 5
      have e6 : ∀ n, (W.drewN n).cell? ⟨w.heap.size, 6, none⟩ = some (.int .i64 z1) := fun n => (HB.out.2.bx.drewN n).c 6
      have e3 : ∀ n, (W.drewN n).cell? ⟨w.heap.size, 3, none⟩ = some (.int .i64 a0) := fun n => (HB.out.2.bx.drewN n).c 3
      clear d2 d5 d6 d3
      by_cases c0 : a1 < 68
      · have er : R = false := HN1.out.1 (by first | omega | (simp only; omega))
        have HG : Hid _ := HB.out.2.gw
        have t0 : decide (a1 < 68) = true := decide_eq_true c0
        clear c0
        go_quiet (fail)
        go_wp2
        go_ret
        exact ⟨by rw [er]; rfl, grown_trans HG.out (grown_drewN _ _)⟩
      by_cases c1 : ln < a1
      · have er : R = false := HN1.out.1 (by first | omega | (simp only; omega))
        have HG : Hid _ := HB.out.2.gw
        have f0 : decide (a1 < 68) = false := decide_eq_false c0
        have t1 : decide (ln < a1) = true := decide_eq_true c1
        clear c0 c1
        go_quiet (fail)
        go_wp2
        go_ret
        exact ⟨by rw [er]; rfl, grown_trans HG.out (grown_drewN _ _)⟩
      by_cases c2 : a1 < a0
      · have er : R = false := HN1.out.1 (by first | omega | (simp only; omega))
        have HG : Hid _ := HB.out.2.gw
        have f0 : decide (a1 < 68) = false := decide_eq_false c0
        have f1 : decide (ln < a1) = false := decide_eq_false c1
        have t2 : decide (a1 < a0) = true := decide_eq_true c2
        clear c0 c1 c2
        go_quiet (fail)
        go_wp2
        go_ret
        exact ⟨by rw [er]; rfl, grown_trans HG.out (grown_drewN _ _)⟩
      by_cases c3 : z1 < 0
      · have er : R = false := HN1.out.1 (by first | omega | (simp only; omega))
        have HG : Hid _ := HB.out.2.gw
        have f0 : decide (a1 < 68) = false := decide_eq_false c0
        have f1 : decide (ln < a1) = false := decide_eq_false c1
        have f2 : decide (a1 < a0) = false := decide_eq_false c2
        have t3 : decide (z1 < 0) = true := decide_eq_true c3
        clear c0 c1 c2 c3
        go_quiet (fail)
        go_wp2
        go_ret
        exact ⟨by rw [er]; rfl, grown_trans HG.out (grown_drewN _ _)⟩
      by_cases c4 : 16777216 < z1
      · have er : R = false := HN1.out.1 (by first | omega | (simp only; omega))
        have HG : Hid _ := HB.out.2.gw
        have f0 : decide (a1 < 68) = false := decide_eq_false c0
        have f1 : decide (ln < a1) = false := decide_eq_false c1
        have f2 : decide (a1 < a0) = false := decide_eq_false c2
        have f3 : decide (z1 < 0) = false := decide_eq_false c3
        have t4 : decide (16777216 < z1) = true := decide_eq_true c4
        clear c0 c1 c2 c3 c4
        go_quiet (fail)
        go_wp2
        go_ret
        exact ⟨by rw [er]; rfl, grown_trans HG.out (grown_drewN _ _)⟩
      have hn : S 2 := HN1.out.2 HSj.out (by first | omega | (simp only; omega))
      have f0 : decide (a1 < 68) = false := decide_eq_false c0
      have f1 : decide (ln < a1) = false := decide_eq_false c1
      have f2 : decide (a1 < a0) = false := decide_eq_false c2
      have f3 : decide (z1 < 0) = false := decide_eq_false c3
      have f4 : decide (16777216 < z1) = false := decide_eq_false c4
      clear c0 c1 c2 c3 c4
      have HR : Hid _ := And.intro hn HB.out.2
      clear hn HB HSj HJ HN1
      go_quiet (fail)
      go_wp2
      go_roundw
      case rel => exact ⟨2, by omega, rfl, HR.out.1, HR.out.2.kept (grown_drewN _ _)⟩
      case measure => simp [intOf]
    · clear HN0 HN1 HN3 HN4 HN5
      obtain ⟨d0, d1, d2, d3, d4, d5, d6, d7, d8, d9, d10, d11, d12, d13, d14⟩ := bx15 HJ.out.bx
      clear d0 d1 d3 d4 d6 d9 d10 d11 d12 d13 d14
      go_wp2_with fail
      have HB : Hid _ := And.intro (Bx.new wr 23 [.int .i64 a2, .int .i64 z2]) (HJ.out.kept (World.grownBy_alloc wr (.cells #[.int .i64 a2, .int .i64 z2] 23) none))
      generalize wr.alloc (.cells #[.int .i64 a2, .int .i64 z2] 23) = W at *
      generalize wr.heap.size = gx at *
      have q0 := fun n => (bx2 (HB.out.1.drewN n)).1
      have q1 := fun n => (bx2 (HB.out.1.drewN n)).2
      have e2 : ∀ n, (W.drewN n).cell? ⟨w.heap.size, 2, none⟩ = some (.int .i64 ln) := fun n => (HB.out.2.bx.drewN n).c 2
      have e7 : ∀ n, (W.drewN n).cell? ⟨w.heap.size, 7, none⟩ = some (.int .i64 a2) := fun n => (HB.out.2.bx.drewN n).c 7
      have e8 : ∀ n, (W.drewN n).cell? ⟨w.heap.size, 8, none⟩ = some (.int .i64 z2) := fun n => (HB.out.2.bx.drewN n).c 8
      have e5 : ∀ n, (W.drewN n).cell? ⟨w.heap.size, 5, none⟩ = some (.int .i64 a1) := fun n => (HB.out.2.bx.drewN n).c 5
      clear d2 d7 d8 d5
      by_cases c0 : a2 < 68
      · have er : R = false := HN2.out.1 (by first | omega | (simp only; omega))
        have HG : Hid _ := HB.out.2.gw
        have t0 : decide (a2 < 68) = true := decide_eq_true c0
        clear c0
        go_quiet (fail)
        go_wp2
        go_ret
        exact ⟨by rw [er]; rfl, grown_trans HG.out (grown_drewN _ _)⟩
      by_cases c1 : ln < a2
      · have er : R = false := HN2.out.1 (by first | omega | (simp only; omega))
        have HG : Hid _ := HB.out.2.gw
        have f0 : decide (a2 < 68) = false := decide_eq_false c0
        have t1 : decide (ln < a2) = true := decide_eq_true c1
        clear c0 c1
        go_quiet (fail)
        go_wp2
        go_ret
        exact ⟨by rw [er]; rfl, grown_trans HG.out (grown_drewN _ _)⟩
      by_cases c2 : a2 < a1
      · have er : R = false := HN2.out.1 (by first | omega | (simp only; omega))
        have HG : Hid _ := HB.out.2.gw
        have f0 : decide (a2 < 68) = false := decide_eq_false c0
        have f1 : decide (ln < a2) = false := decide_eq_false c1
        have t2 : decide (a2 < a1) = true := decide_eq_true c2
        clear c0 c1 c2
        go_quiet (fail)
        go_wp2
        go_ret
        exact ⟨by rw [er]; rfl, grown_trans HG.out (grown_drewN _ _)⟩
      by_cases c3 : z2 < 0
      · have er : R = false := HN2.out.1 (by first | omega | (simp only; omega))
        have HG : Hid _ := HB.out.2.gw
        have f0 : decide (a2 < 68) = false := decide_eq_false c0
        have f1 : decide (ln < a2) = false := decide_eq_false c1
        have f2 : decide (a2 < a1) = false := decide_eq_false c2
        have t3 : decide (z2 < 0) = true := decide_eq_true c3
        clear c0 c1 c2 c3
        go_quiet (fail)
        go_wp2
        go_ret
        exact ⟨by rw [er]; rfl, grown_trans HG.out (grown_drewN _ _)⟩
      by_cases c4 : 16777216 < z2
      · have er : R = false := HN2.out.1 (by first | omega | (simp only; omega))
        have HG : Hid _ := HB.out.2.gw
        have f0 : decide (a2 < 68) = false := decide_eq_false c0
        have f1 : decide (ln < a2) = false := decide_eq_false c1
        have f2 : decide (a2 < a1) = false := decide_eq_false c2
        have f3 : decide (z2 < 0) = false := decide_eq_false c3
        have t4 : decide (16777216 < z2) = true := decide_eq_true c4
        clear c0 c1 c2 c3 c4
        go_quiet (fail)
        go_wp2
        go_ret
        exact ⟨by rw [er]; rfl, grown_trans HG.out (grown_drewN _ _)⟩
      have hn : S 3 := HN2.out.2 HSj.out (by first | omega | (simp only; omega))
      have f0 : decide (a2 < 68) = false := decide_eq_false c0
      have f1 : decide (ln < a2) = false := decide_eq_false c1
      have f2 : decide (a2 < a1) = false := decide_eq_false c2
      have f3 : decide (z2 < 0) = false := decide_eq_false c3
      have f4 : decide (16777216 < z2) = false := decide_eq_false c4
      clear c0 c1 c2 c3 c4
      have HR : Hid _ := And.intro hn HB.out.2
      clear hn HB HSj HJ HN2
      go_quiet (fail)
      go_wp2
      go_roundw
      case rel => exact ⟨3, by omega, rfl, HR.out.1, HR.out.2.kept (grown_drewN _ _)⟩
      case measure => simp [intOf]
    · clear HN0 HN1 HN2 HN4 HN5
      obtain ⟨d0, d1, d2, d3, d4, d5, d6, d7, d8, d9, d10, d11, d12, d13, d14⟩ := bx15 HJ.out.bx
      clear d0 d1 d3 d4 d5 d6 d8 d11 d12 d13 d14
      go_wp2_with fail
      have HB : Hid _ := And.intro (Bx.new wr 23 [.int .i64 a3, .int .i64 z3]) (HJ.out.kept (World.grownBy_alloc wr (.cells #[.int .i64 a3, .int .i64 z3] 23) none))
      generalize wr.alloc (.cells #[.int .i64 a3, .int .i64 z3] 23) = W at *
      generalize wr.heap.size = gx at *
      have q0 := fun n => (bx2 (HB.out.1.drewN n)).1
      have q1 := fun n => (bx2 (HB.out.1.drewN n)).2
      have e2 : ∀ n, (W.drewN n).cell? ⟨w.heap.size, 2, none⟩ = some (.int .i64 ln) := fun n => (HB.out.2.bx.drewN n).c 2
      have e9 : ∀ n, (W.drewN n).cell? ⟨w.heap.size, 9, none⟩ = some (.int .i64 a3) := fun n => (HB.out.2.bx.drewN n).c 9
      have e10 : ∀ n, (W.drewN n).cell? ⟨w.heap.size, 10, none⟩ = some (.int .i64 z3) := fun n => (HB.out.2.bx.drewN n).c 10
      have e7 : ∀ n, (W.drewN n).cell? ⟨w.heap.size, 7, none⟩ = some (.int .i64 a2) := fun n => (HB.out.2.bx.drewN n).c 7
      clear d2 d9 d10 d7
      by_cases c0 : a3 < 68
      · have er : R = false := HN3.out.1 (by first | omega | (simp only; omega))
        have HG : Hid _ := HB.out.2.gw
        have t0 : decide (a3 < 68) = true := decide_eq_true c0
        clear c0
        go_quiet (fail)
        go_wp2
        go_ret
        exact ⟨by rw [er]; rfl, grown_trans HG.out (grown_drewN _ _)⟩
      by_cases c1 : ln < a3
      · have er : R = false := HN3.out.1 (by first | omega | (simp only; omega))
        have HG : Hid _ := HB.out.2.gw
        have f0 : decide (a3 < 68) = false := decide_eq_false c0
        have t1 : decide (ln < a3) = true := decide_eq_true c1
        clear c0 c1
        go_quiet (fail)
        go_wp2
        go_ret
        exact ⟨by rw [er]; rfl, grown_trans HG.out (grown_drewN _ _)⟩
      by_cases c2 : a3 < a2
      · have er : R = false := HN3.out.1 (by first | omega | (simp only; omega))
        have HG : Hid _ := HB.out.2.gw
        have f0 : decide (a3 < 68) = false := decide_eq_false c0
        have f1 : decide (ln < a3) = false := decide_eq_false c1
        have t2 : decide (a3 < a2) = true := decide_eq_true c2
        clear c0 c1 c2
        go_quiet (fail)
        go_wp2
        go_ret
        exact ⟨by rw [er]; rfl, grown_trans HG.out (grown_drewN _ _)⟩
      by_cases c3 : z3 < 0
      · have er : R = false := HN3.out.1 (by first | omega | (simp only; omega))
        have HG : Hid _ := HB.out.2.gw
        have f0 : decide (a3 < 68) = false := decide_eq_false c0
        have f1 : decide (ln < a3) = false := decide_eq_false c1
        have f2 : decide (a3 < a2) = false := decide_eq_false c2
        have t3 : decide (z3 < 0) = true := decide_eq_true c3
        clear c0 c1 c2 c3
        go_quiet (fail)
        go_wp2
        go_ret
        exact ⟨by rw [er]; rfl, grown_trans HG.out (grown_drewN _ _)⟩
      by_cases c4 : 16777216 < z3
      · have er : R = false := HN3.out.1 (by first | omega | (simp only; omega))
        have HG : Hid _ := HB.out.2.gw
        have f0 : decide (a3 < 68) = false := decide_eq_false c0
        have f1 : decide (ln < a3) = false := decide_eq_false c1
        have f2 : decide (a3 < a2) = false := decide_eq_false c2
        have f3 : decide (z3 < 0) = false := decide_eq_false c3
        have t4 : decide (16777216 < z3) = true := decide_eq_true c4
        clear c0 c1 c2 c3 c4
        go_quiet (fail)
        go_wp2
        go_ret
        exact ⟨by rw [er]; rfl, grown_trans HG.out (grown_drewN _ _)⟩
      have hn : S 4 := HN3.out.2 HSj.out (by first | omega | (simp only; omega))
      have f0 : decide (a3 < 68) = false := decide_eq_false c0
      have f1 : decide (ln < a3) = false := decide_eq_false c1
      have f2 : decide (a3 < a2) = false := decide_eq_false c2
      have f3 : decide (z3 < 0) = false := decide_eq_false c3
      have f4 : decide (16777216 < z3) = false := decide_eq_false c4
      clear c0 c1 c2 c3 c4
      have HR : Hid _ := And.intro hn HB.out.2
      clear hn HB HSj HJ HN3
      go_quiet (fail)
      go_wp2
      go_roundw
      case rel => exact ⟨4, by omega, rfl, HR.out.1, HR.out.2.kept (grown_drewN _ _)⟩
      case measure => simp [intOf]
    · clear HN0 HN1 HN2 HN3 HN5
      obtain ⟨d0, d1, d2, d3, d4, d5, d6, d7, d8, d9, d10, d11, d12, d13, d14⟩ := bx15 HJ.out.bx
      clear d0 d1 d3 d4 d5 d6 d7 d8 d10 d13 d14
      go_wp2_with fail
      have HB : Hid _ := And.intro (Bx.new wr 23 [.int .i64 a4, .int .i64 z4]) (HJ.out.kept (World.grownBy_alloc wr (.cells #[.int .i64 a4, .int .i64 z4] 23) none))
      generalize wr.alloc (.cells #[.int .i64 a4, .int .i64 z4] 23) = W at *
      generalize wr.heap.size = gx at *
      have q0 := fun n => (bx2 (HB.out.1.drewN n)).1
      have q1 := fun n => (bx2 (HB.out.1.drewN n)).2
      have e2 : ∀ n, (W.drewN n).cell? ⟨w.heap.size, 2, none⟩ = some (.int .i64 ln) := fun n => (HB.out.2.bx.drewN n).c 2
      have e11 : ∀ n, (W.drewN n).cell? ⟨w.heap.size, 11, none⟩ = some (.int .i64 a4) := fun n => (HB.out.2.bx.drewN n).c 11
      have e12 : ∀ n, (W.drewN n).cell? ⟨w.heap.size, 12, none⟩ = some (.int .i64 z4) := fun n => (HB.out.2.bx.drewN n).c 12
      have e9 : ∀ n, (W.drewN n).cell? ⟨w.heap.size, 9, none⟩ = some (.int .i64 a3) := fun n => (HB.out.2.bx.drewN n).c 9
      clear d2 d11 d12 d9
      by_cases c0 : a4 < 68
      · have er : R = false := HN4.out.1 (by first | omega | (simp only; omega))
        have HG : Hid _ := HB.out.2.gw
        have t0 : decide (a4 < 68) = true := decide_eq_true c0
        clear c0
        go_quiet (fail)
        go_wp2
        go_ret
        exact ⟨by rw [er]; rfl, grown_trans HG.out (grown_drewN _ _)⟩
      by_cases c1 : ln < a4
      · have er : R = false := HN4.out.1 (by first | omega | (simp only; omega))
        have HG : Hid _ := HB.out.2.gw
        have f0 : decide (a4 < 68) = false := decide_eq_false c0
        have t1 : decide (ln < a4) = true := decide_eq_true c1
        clear c0 c1
        go_quiet (fail)
        go_wp2
        go_ret
        exact ⟨by rw [er]; rfl, grown_trans HG.out (grown_drewN _ _)⟩
      by_cases c2 : a4 < a3
      · have er : R = false := HN4.out.1 (by first | omega | (simp only; omega))
        have HG : Hid _ := HB.out.2.gw
        have f0 : decide (a4 < 68) = false := decide_eq_false c0
        have f1 : decide (ln < a4) = false := decide_eq_false c1
        have t2 : decide (a4 < a3) = true := decide_eq_true c2
        clear c0 c1 c2
        go_quiet (fail)
        go_wp2
        go_ret
        exact ⟨by rw [er]; rfl, grown_trans HG.out (grown_drewN _ _)⟩
      by_cases c3 : z4 < 0
      · have er : R = false := HN4.out.1 (by first | omega | (simp only; omega))
        have HG : Hid _ := HB.out.2.gw
        have f0 : decide (a4 < 68) = false := decide_eq_false c0
        have f1 : decide (ln < a4) = false := decide_eq_false c1
        have f2 : decide (a4 < a3) = false := decide_eq_false c2
        have t3 : decide (z4 < 0) = true := decide_eq_true c3
        clear c0 c1 c2 c3
        go_quiet (fail)
        go_wp2
        go_ret
        exact ⟨by rw [er]; rfl, grown_trans HG.out (grown_drewN _ _)⟩
      by_cases c4 : 16777216 < z4
      · have er : R = false := HN4.out.1 (by first | omega | (simp only; omega))
        have HG : Hid _ := HB.out.2.gw
        have f0 : decide (a4 < 68) = false := decide_eq_false c0
        have f1 : decide (ln < a4) = false := decide_eq_false c1
        have f2 : decide (a4 < a3) = false := decide_eq_false c2
        have f3 : decide (z4 < 0) = false := decide_eq_false c3
        have t4 : decide (16777216 < z4) = true := decide_eq_true c4
        clear c0 c1 c2 c3 c4
        go_quiet (fail)
        go_wp2
        go_ret
        exact ⟨by rw [er]; rfl, grown_trans HG.out (grown_drewN _ _)⟩
      have hn : S 5 := HN4.out.2 HSj.out (by first | omega | (simp only; omega))
      have f0 : decide (a4 < 68) = false := decide_eq_false c0
      have f1 : decide (ln < a4) = false := decide_eq_false c1
      have f2 : decide (a4 < a3) = false := decide_eq_false c2
      have f3 : decide (z4 < 0) = false := decide_eq_false c3
      have f4 : decide (16777216 < z4) = false := decide_eq_false c4
      clear c0 c1 c2 c3 c4
      have HR : Hid _ := And.intro hn HB.out.2
      clear hn HB HSj HJ HN4
      go_quiet (fail)
      go_wp2
      go_roundw
      case rel => exact ⟨5, by omega, rfl, HR.out.1, HR.out.2.kept (grown_drewN _ _)⟩
      case measure => simp [intOf]
    · clear HN0 HN1 HN2 HN3 HN4
      obtain ⟨d0, d1, d2, d3, d4, d5, d6, d7, d8, d9, d10, d11, d12, d13, d14⟩ := bx15 HJ.out.bx
      clear d0 d1 d3 d4 d5 d6 d7 d8 d9 d10 d12
      go_wp2_with fail
      have HB : Hid _ := And.intro (Bx.new wr 23 [.int .i64 a5, .int .i64 z5]) (HJ.out.kept (World.grownBy_alloc wr (.cells #[.int .i64 a5, .int .i64 z5] 23) none))
      generalize wr.alloc (.cells #[.int .i64 a5, .int .i64 z5] 23) = W at *
      generalize wr.heap.size = gx at *
      have q0 := fun n => (bx2 (HB.out.1.drewN n)).1
      have q1 := fun n => (bx2 (HB.out.1.drewN n)).2
      have e2 : ∀ n, (W.drewN n).cell? ⟨w.heap.size, 2, none⟩ = some (.int .i64 ln) := fun n => (HB.out.2.bx.drewN n).c 2
      have e13 : ∀ n, (W.drewN n).cell? ⟨w.heap.size, 13, none⟩ = some (.int .i64 a5) := fun n => (HB.out.2.bx.drewN n).c 13
      have e14 : ∀ n, (W.drewN n).cell? ⟨w.heap.size, 14, none⟩ = some (.int .i64 z5) := fun n => (HB.out.2.bx.drewN n).c 14
      have e11 : ∀ n, (W.drewN n).cell? ⟨w.heap.size, 11, none⟩ = some (.int .i64 a4) := fun n => (HB.out.2.bx.drewN n).c 11
      clear d2 d13 d14 d11
      by_cases c0 : a5 < 68
      · have er : R = false := HN5.out.1 (by first | omega | (simp only; omega))
        have HG : Hid _ := HB.out.2.gw
        have t0 : decide (a5 < 68) = true := decide_eq_true c0
        clear c0
        go_quiet (fail)
        go_wp2
        go_ret
        exact ⟨by rw [er]; rfl, grown_trans HG.out (grown_drewN _ _)⟩
      by_cases c1 : ln < a5
      · have er : R = false := HN5.out.1 (by first | omega | (simp only; omega))
        have HG : Hid _ := HB.out.2.gw
        have f0 : decide (a5 < 68) = false := decide_eq_false c0
        have t1 : decide (ln < a5) = true := decide_eq_true c1
        clear c0 c1
        go_quiet (fail)
        go_wp2
        go_ret
        exact ⟨by rw [er]; rfl, grown_trans HG.out (grown_drewN _ _)⟩
      by_cases c2 : a5 < a4
      · have er : R = false := HN5.out.1 (by first | omega | (simp only; omega))
        have HG : Hid _ := HB.out.2.gw
        have f0 : decide (a5 < 68) = false := decide_eq_false c0
        have f1 : decide (ln < a5) = false := decide_eq_false c1
        have t2 : decide (a5 < a4) = true := decide_eq_true c2
        clear c0 c1 c2
        go_quiet (fail)
        go_wp2
        go_ret
        exact ⟨by rw [er]; rfl, grown_trans HG.out (grown_drewN _ _)⟩
      by_cases c3 : z5 < 0
      · have er : R = false := HN5.out.1 (by first | omega | (simp only; omega))
        have HG : Hid _ := HB.out.2.gw
        have f0 : decide (a5 < 68) = false := decide_eq_false c0
        have f1 : decide (ln < a5) = false := decide_eq_false c1
        have f2 : decide (a5 < a4) = false := decide_eq_false c2
        have t3 : decide (z5 < 0) = true := decide_eq_true c3
        clear c0 c1 c2 c3
        go_quiet (fail)
        go_wp2
        go_ret
        exact ⟨by rw [er]; rfl, grown_trans HG.out (grown_drewN _ _)⟩
      by_cases c4 : 16777216 < z5
      · have er : R = false := HN5.out.1 (by first | omega | (simp only; omega))
        have HG : Hid _ := HB.out.2.gw
        have f0 : decide (a5 < 68) = false := decide_eq_false c0
        have f1 : decide (ln < a5) = false := decide_eq_false c1
        have f2 : decide (a5 < a4) = false := decide_eq_false c2
        have f3 : decide (z5 < 0) = false := decide_eq_false c3
        have t4 : decide (16777216 < z5) = true := decide_eq_true c4
        clear c0 c1 c2 c3 c4
        go_quiet (fail)
        go_wp2
        go_ret
        exact ⟨by rw [er]; rfl, grown_trans HG.out (grown_drewN _ _)⟩
      have hn : S 6 := HN5.out.2 HSj.out (by first | omega | (simp only; omega))
      have f0 : decide (a5 < 68) = false := decide_eq_false c0
      have f1 : decide (ln < a5) = false := decide_eq_false c1
      have f2 : decide (a5 < a4) = false := decide_eq_false c2
      have f3 : decide (z5 < 0) = false := decide_eq_false c3
      have f4 : decide (16777216 < z5) = false := decide_eq_false c4
      clear c0 c1 c2 c3 c4
      have HR : Hid _ := And.intro hn HB.out.2
      clear hn HB HSj HJ HN5
      go_quiet (fail)
      go_wp2
      go_roundw
      case rel => exact ⟨6, by omega, rfl, HR.out.1, HR.out.2.kept (grown_drewN _ _)⟩
      case measure => simp [intOf]
    · have er := HI2.out HSj.out
      have HG : Hid _ := HJ.out.gw
      go_wp2
      go_ret
      exact ⟨by rw [er]; rfl, HG.out⟩
theorem rright13_any (s : Sp) (w : World) : Calls Try.prog 9 #[s.val] w fun e w' => e = .returned (.bool (srt s)) ∧ w.grownBy w' none := by
  by_cases h : Hok s
  · exact rright13_good s w h
  · rw [srt_noh h]; exact rright13_bad s w h
end Go.Proofs.Ytaedcblphcfkfaa
