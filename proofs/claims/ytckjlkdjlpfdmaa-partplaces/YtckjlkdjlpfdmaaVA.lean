/- The document's plan of a flash. -/
import Derived.Test.YtckjlkdjlpfdmaaCA
import Derived.Test.YtckjlkdjlpfdmaaRQ
import Derived.Handy
namespace Go.Proofs.Ytckjlkdjlpfdmaa
open Go.RowKit
set_option linter.unusedSimpArgs false
set_option linter.unusedVariables false

/-- how many sectors a slot has -/
def slots (s p b : Int) : Int := max 1 (min ((s - 2) / 2) (8388608 / (p * b)))
/-- a plan: geometry, boot records, slots, a slot's sectors -/
structure Pl where
  s : Int
  p : Int
  b : Int
  x0 : Int
  x1 : Int
  y0 : Int
  y1 : Int
  n : Int
def Pl.cells (P : Pl) : List Value := [.int .i64 P.s, .int .i64 P.p, .int .i64 P.b, .int .i64 P.x0, .int .i64 P.x1, .int .i64 P.y0, .int .i64 P.y1, .int .i64 P.n]
def Pl.val (P : Pl) : Value := .agg #[.int .i64 P.s, .int .i64 P.p, .int .i64 P.b, .int .i64 P.x0, .int .i64 P.x1, .int .i64 P.y0, .int .i64 P.y1, .int .i64 P.n]
/-- are two plans the same? -/
def Pl.same (P Q : Pl) : Bool := decide (P.s = Q.s ∧ P.p = Q.p ∧ P.b = Q.b ∧ P.x0 = Q.x0 ∧ P.x1 = Q.x1 ∧ P.y0 = Q.y0 ∧ P.y1 = Q.y1 ∧ P.n = Q.n)
theorem Pl.same_iff {P Q : Pl} : P.same Q = true ↔ P = Q := by
  unfold Pl.same
  rw [decide_eq_true_iff]
  constructor
  · rintro ⟨h1, h2, h3, h4, h5, h6, h7, h8⟩
    cases P; cases Q
    simp only at h1 h2 h3 h4 h5 h6 h7 h8
    subst h1 h2 h3 h4 h5 h6 h7 h8
    rfl
  · rintro rfl; simp
theorem Pl.same_self (P : Pl) : P.same P = true := Pl.same_iff.2 rfl
def pl0 : Pl := ⟨0, 0, 0, 0, 0, 0, 0, 0⟩
/-- Make, as a plain function -/
def mk (s p b : Int) : Pl × Int := if chk s p b ≠ 0 then (pl0, chk s p b) else if s < 4 ∨ b < 64 then (pl0, 1) else (⟨s, p, b, 0, 1, 2, 2 + slots s p b, slots s p b⟩, 0)

theorem chk_zero {s p b : Int} (h : chk s p b = 0) : 1 ≤ s ∧ s ≤ 4096 ∧ 1 ≤ p ∧ p ≤ 1024 ∧ 16 ≤ b ∧ b ≤ 65536 ∧ s * p * b ≤ 16777216 := by
  unfold chk at h
  split at h
  · simp at h
  · split at h
    · simp at h
    · omega
theorem slots_is {s p b n : Int} (hp : 1 ≤ p) (hb : 1 ≤ b) (h1 : 1 ≤ n) (h2 : 2 + 2 * n ≤ s) (h3 : n = 1 ∨ n * p * b ≤ 8388608) (h4 : ¬ (2 + 2 * (n + 1) ≤ s ∧ (n + 1) * p * b ≤ 8388608)) : slots s p b = n := by
  have hq : 0 < p * b := Int.mul_pos (by omega) (by omega)
  have k1 : n ≤ 8388608 / (p * b) ↔ n * (p * b) ≤ 8388608 := Int.le_ediv_iff_mul_le hq
  have k2 : n + 1 ≤ 8388608 / (p * b) ↔ (n + 1) * (p * b) ≤ 8388608 := Int.le_ediv_iff_mul_le hq
  rw [Int.mul_assoc] at h3 h4
  unfold slots
  generalize 8388608 / (p * b) = D at *
  generalize n * (p * b) = x at *
  generalize (n + 1) * (p * b) = y at *
  rw [Int.max_def, Int.min_def]
  split <;> split <;> omega

set_option maxHeartbeats 2000000 in
theorem make_any (s p b : Int) (w : World) (hs : -9223372036854775808 ≤ s ∧ s ≤ 9223372036854775807) (hp : -9223372036854775808 ≤ p ∧ p ≤ 9223372036854775807) (hb : -9223372036854775808 ≤ b ∧ b ≤ 9223372036854775807) :
    Calls Try.prog 7 #[.agg #[.int .i64 s, .int .i64 p, .int .i64 b]] w fun e w' => e = .returned (.tuple #[(mk s p b).1.val, .int .i64 (mk s p b).2]) ∧ w.grownBy w' none := by
  have hc := fun W => check_any s p b W hs hp hb
  by_cases h0 : chk s p b = 0
  · have hg := chk_zero h0
    rw [h0] at hc
    by_cases h1 : s < 4 ∨ b < 64
    · have e : mk s p b = (pl0, 1) := by unfold mk; rw [if_neg (by simp [h0]), if_pos h1]
      rw [e]
      rcases h1 with h1 | h1
      all_goals
        go_enter Try.func7, Try.ntmps7
        go_wp2_with fail
        refine (hc _).mono ?_
        rintro e w1 ⟨rfl, rfl⟩
        simp only
        go_wp2
        all_goals
          go_returns
          exact ⟨rfl, grown_trans (grown_trans (World.grownBy_alloc _ _ _) (World.grownBy_alloc _ _ _)) (World.grownBy_alloc _ _ _)⟩
    · have e : mk s p b = (⟨s, p, b, 0, 1, 2, 2 + slots s p b, slots s p b⟩, 0) := by unfold mk; rw [if_neg (by simp [h0]), if_neg h1]
      rw [e]
      generalize hsl : slots s p b = N
      have HN : Hid _ := hsl
      clear hsl e
      have d1 : decide (s < 4) = false := decide_eq_false (by omega)
      have d2 : decide (b < 64) = false := decide_eq_false (by omega)
      go_enter Try.func7, Try.ntmps7
      go_wp2_with fail
      refine (hc _).mono ?_
      rintro e w1 ⟨rfl, rfl⟩
      simp only
      go_wp2_with fail
      try simp only [d1, d2, Bool.or_self]
      clear d1 d2 hc
      have HG : Hid (w.grownBy (((w.alloc (.cells #[.int .i64 s, .int .i64 p, .int .i64 b] 23)).alloc (.cells #[.int .i64 0, .int .i64 0, .int .i64 0, .int .i64 0, .int .i64 0, .int .i64 0, .int .i64 0, .int .i64 0] 26)).alloc (.cells #[.int .i64 s, .int .i64 p, .int .i64 b] 23)) none) := grown_trans (grown_trans (World.grownBy_alloc _ _ _) (World.grownBy_alloc _ _ _)) (World.grownBy_alloc _ _ _)
      have hg4 : 4 ≤ s ∧ s ≤ 4096 := by omega
      have hgp : 1 ≤ p ∧ p ≤ 1024 := by omega
      have hgb : 64 ≤ b ∧ b ≤ 65536 := by omega
      clear hg h1 h0
      go_loopw [5] (fun vn wr => wr = ((w.alloc (.cells #[.int .i64 s, .int .i64 p, .int .i64 b] 23)).alloc (.cells #[.int .i64 0, .int .i64 0, .int .i64 0, .int .i64 0, .int .i64 0, .int .i64 0, .int .i64 0, .int .i64 0] 26)).alloc (.cells #[.int .i64 s, .int .i64 p, .int .i64 b] 23) ∧ ∃ n : Int, vn = .int .i64 n ∧ 1 ≤ n ∧ 2 + 2 * n ≤ s ∧ Hid (n = 1 ∨ n * p * b ≤ 8388608)) (fun vn _ => (4096 - intOf vn).toNat)
      case atStart => exact ⟨rfl, 1, rfl, by omega, by omega, Or.inl rfl⟩
      case round =>
        obtain ⟨rfl, n, rfl, hn1, hn2, HO⟩ := hrel
        obtain ⟨w1, w2, w3⟩ := prod_in (s := n + 1) (p := p) (b := b) (by omega) (by omega) hgp.1 hgp.2 (by omega) hgb.2
        by_cases k1 : 2 + 2 * (n + 1) ≤ s
        · by_cases k2 : (n + 1) * p * b ≤ 8388608
          · have HO2 : Hid (n + 1 = 1 ∨ (n + 1) * p * b ≤ 8388608) := Or.inr k2
            go_wp2
            go_roundw
            case rel => exact ⟨by trivial, n + 1, by go_num, by omega, by omega, HO2⟩
            case measure => simp [intOf]; omega
          · have he := slots_is hgp.1 (by omega) hn1 hn2 HO.out (fun k => k2 k.2)
            rw [HN.out] at he
            subst he
            go_wp2
            go_returns
            exact ⟨rfl, grown_trans (grown_trans (grown_trans (World.grownBy_alloc _ _ _) (World.grownBy_alloc _ _ _)) (World.grownBy_alloc _ _ _)) (World.grownBy_alloc _ _ _)⟩
        · have he := slots_is (s := s) hgp.1 (by omega) hn1 hn2 HO.out (fun k => k1 k.1)
          rw [HN.out] at he
          subst he
          go_wp2
          go_returns
          exact ⟨rfl, grown_trans (grown_trans (grown_trans (World.grownBy_alloc _ _ _) (World.grownBy_alloc _ _ _)) (World.grownBy_alloc _ _ _)) (World.grownBy_alloc _ _ _)⟩
  · have e : mk s p b = (pl0, chk s p b) := by unfold mk; rw [if_pos h0]
    rw [e]
    generalize chk s p b = E at *
    have h0' : (E == 0) = false := by simp [h0]
    go_enter Try.func7, Try.ntmps7
    go_wp2_with fail
    refine (hc _).mono ?_
    rintro e w1 ⟨rfl, rfl⟩
    simp only
    go_wp2
    go_returns
    exact ⟨rfl, grown_trans (grown_trans (World.grownBy_alloc _ _ _) (World.grownBy_alloc _ _ _)) (World.grownBy_alloc _ _ _)⟩
end Go.Proofs.Ytckjlkdjlpfdmaa
