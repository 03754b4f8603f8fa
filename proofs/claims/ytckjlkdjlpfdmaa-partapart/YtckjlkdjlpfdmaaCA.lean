/- The document's Check of a geometry. -/
import Derived.Test.YtckjlkdjlpfdmaaProg
import Derived.WalkLawsBesides
import Derived.WalkKit
import Derived.Below
import Derived.Deep.QuietTactic
namespace Go.Proofs.Ytckjlkdjlpfdmaa
open Go.RowKit
set_option linter.unusedSimpArgs false
set_option linter.unusedVariables false

/-- which geometries may be: the error's number -/
def chk (s p b : Int) : Int := if s < 1 ∨ 4096 < s ∨ p < 1 ∨ 1024 < p ∨ b < 16 ∨ 65536 < b then 1 else if 16777216 < s * p * b then 2 else 0
def geoV (s p b : Int) : Value := .agg #[.int .i64 s, .int .i64 p, .int .i64 b]
theorem prod_in {s p b : Int} (s1 : 1 ≤ s) (s2 : s ≤ 4096) (p1 : 1 ≤ p) (p2 : p ≤ 1024) (b1 : 16 ≤ b) (b2 : b ≤ 65536) : IntKind.i64.wrap (s * p) = s * p ∧ IntKind.i64.wrap (s * p * b) = s * p * b ∧ 1 ≤ s * p := by
  have e1 : s * p ≤ 4096 * 1024 := Int.mul_le_mul s2 p2 (by omega) (by omega)
  have e0 : 1 * 1 ≤ s * p := Int.mul_le_mul s1 p1 (by omega) (by omega)
  have e2 : s * p * b ≤ 4096 * 1024 * 65536 := Int.mul_le_mul e1 b2 (by omega) (by omega)
  have e3 : 1 * 1 ≤ s * p * b := Int.mul_le_mul (by omega) (by omega) (by omega) (by omega)
  refine ⟨?_, ?_, by omega⟩
  · rw [IntKind.wrap_i64]; omega
  · rw [IntKind.wrap_i64]; omega
theorem check_any (s p b : Int) (w : World) (hs : -9223372036854775808 ≤ s ∧ s ≤ 9223372036854775807) (hp : -9223372036854775808 ≤ p ∧ p ≤ 9223372036854775807) (hb : -9223372036854775808 ≤ b ∧ b ≤ 9223372036854775807) :
    Calls Try.prog 22 #[.agg #[.int .i64 s, .int .i64 p, .int .i64 b]] w fun e w' => e = .returned (.int .i64 (chk s p b)) ∧ w' = w.alloc (.cells #[.int .i64 s, .int .i64 p, .int .i64 b] 23) := by
  unfold chk
  by_cases h1 : s < 1
  · rw [if_pos (Or.inl h1)]
    go_enter Try.func22, Try.ntmps22
    go_wp2
    go_ret
    exact ⟨rfl, rfl⟩
  · skip
    by_cases h2 : 4096 < s
    · rw [if_pos (Or.inr (Or.inl h2))]
      go_enter Try.func22, Try.ntmps22
      go_wp2
      go_ret
      exact ⟨rfl, rfl⟩
    · skip
      by_cases h3 : p < 1
      · rw [if_pos (Or.inr (Or.inr (Or.inl h3)))]
        go_enter Try.func22, Try.ntmps22
        go_wp2
        go_ret
        exact ⟨rfl, rfl⟩
      · skip
        by_cases h4 : 1024 < p
        · rw [if_pos (Or.inr (Or.inr (Or.inr (Or.inl h4))))]
          go_enter Try.func22, Try.ntmps22
          go_wp2
          go_ret
          exact ⟨rfl, rfl⟩
        · skip
          by_cases h5 : b < 16
          · rw [if_pos (Or.inr (Or.inr (Or.inr (Or.inr (Or.inl h5)))))]
            go_enter Try.func22, Try.ntmps22
            go_wp2
            go_ret
            exact ⟨rfl, rfl⟩
          · skip
            by_cases h6 : 65536 < b
            · rw [if_pos (Or.inr (Or.inr (Or.inr (Or.inr (Or.inr (h6))))))]
              go_enter Try.func22, Try.ntmps22
              go_wp2
              go_ret
              exact ⟨rfl, rfl⟩
            · skip
              rw [if_neg (by omega)]
              obtain ⟨q1, q2, q3⟩ := prod_in (s := s) (p := p) (b := b) (by omega) (by omega) (by omega) (by omega) (by omega) (by omega)
              by_cases h7 : 16777216 < s * p * b
              · rw [if_pos h7]
                go_enter Try.func22, Try.ntmps22
                go_wp2
                go_ret
                exact ⟨rfl, rfl⟩
              · rw [if_neg h7]
                go_enter Try.func22, Try.ntmps22
                go_wp2
                go_ret
                exact ⟨rfl, rfl⟩
end Go.Proofs.Ytckjlkdjlpfdmaa
