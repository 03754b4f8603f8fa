/- How long a block may be; no block of sequences is longer. -/
import Derived.Test.YteghhmnkdmehbaaRN
namespace Go.Proofs.Yteghhmnkdmehbaa
open Go.RowKit
set_option linter.unusedSimpArgs false
set_option linter.unusedVariables false

/-- Bound, as a plain function -/
def bnd (n : Int) : Int := if n < 0 ∨ 1048576 < n then 0 else n + 1 + (tol n).length
theorem tol_big {n : Int} (h : 15 ≤ n) : ((tol n).length : Int) = (n - 15) / 255 + 1 := by
  rw [tol_len h]; omega
theorem tol_none {n : Int} (h : n < 15) : (tol n).length = 0 := by
  unfold tol; rw [if_pos h]; rfl

set_option maxHeartbeats 1000000 in
theorem bound_any (n : Int) (w : World) (h : -9223372036854775808 ≤ n ∧ n ≤ 9223372036854775807) :
    Calls Try.prog 13 #[.int .i64 n] w fun e w' => e = .returned (.int .i64 (bnd n)) ∧ w' = w := by
  by_cases h0 : n < 0 ∨ 1048576 < n
  · have e : bnd n = 0 := by unfold bnd; rw [if_pos h0]
    rw [e]
    rcases h0 with h0 | h0
    all_goals
      go_enter Try.func13, Try.ntmps13
      go_wp2
      go_ret
      exact ⟨rfl, rfl⟩
  · by_cases h1 : n < 15
    · have e : bnd n = n + 1 := by unfold bnd; rw [if_neg h0, tol_none h1]; omega
      rw [e]
      go_enter Try.func13, Try.ntmps13
      go_wp2
      go_ret
      exact ⟨rfl, rfl⟩
    · have e : bnd n = n + 2 + (n - 15) / 255 := by unfold bnd; rw [if_neg h0, tol_big (by omega)]; omega
      rw [e]
      have d1 : decide (n < 0) = false := decide_eq_false (by omega)
      have d2 : decide (1048576 < n) = false := decide_eq_false (by omega)
      have d3 : decide (15 ≤ n) = true := decide_eq_true (by omega)
      go_enter Try.func13, Try.ntmps13
      go_wp2_with fail
      try simp only [d1, d2, d3, Bool.or_self]
      clear d1 d2 d3 e
      go_loopw [3, 4] (fun vm vk wr => wr = w ∧ ∃ (j : Nat) (k : Int), vm = .int .i64 (n + 2 + j) ∧ vk = .int .i64 k ∧ 0 ≤ k ∧ k ≤ 1048576 ∧ Hid (k + 255 * j + 15 = n)) (fun _ vk _ => (intOf vk).toNat)
      case atStart => exact ⟨rfl, 0, n - 15, by go_num, rfl, by omega, by omega, by show n - 15 + 255 * ((0 : Nat) : Int) + 15 = n; omega⟩
      case round =>
        obtain ⟨rfl, j, k, rfl, rfl, hk0, hk1, HK⟩ := hrel
        have hjb : (j : Int) ≤ 1048576 := by have := HK.out; omega
        by_cases k1 : 255 ≤ k
        · have HN : Hid (k - 255 + 255 * ((j + 1 : Nat) : Int) + 15 = n) := by
            have := HK.out
            show k - 255 + 255 * ((j + 1 : Nat) : Int) + 15 = n
            omega
          go_wp2
          go_roundw
          case rel => exact ⟨by trivial, j + 1, k - 255, by go_num, by go_num, by omega, by omega, HN⟩
          case measure => simp [intOf]; omega
        · have he : (n - 15) / 255 = j := by have := HK.out; omega
          have HE : Hid _ := he
          clear he
          go_wp2
          go_ret
          rw [HE.out]
          exact ⟨rfl, rfl⟩

/-- what sequences unpack to, how long -/
def tot : List Sq → Int
  | [] => 0
  | q :: r => q.1.length + q.2.2 + tot r
theorem unp_len (qs : List Sq) (size : Int) (out : List Int) (h0 : 0 ≤ size) (h : Jok qs size) : ((unp qs out).length : Int) = out.length + tot qs ∧ 0 ≤ tot qs := by
  induction qs generalizing size out with
  | nil => simp [unp, tot]
  | cons q r ih =>
    obtain ⟨h1, h2⟩ := h
    have hm : 0 ≤ q.2.2 ∧ 0 ≤ size + q.1.length + q.2.2 := by
      generalize r.isEmpty = l at h1
      cases l with
      | true => have := jerr_last h1; omega
      | false => have := jerr_more h1; omega
    have := ih (size + q.1.length + q.2.2) (cpy q.2.1.toNat q.2.2.toNat (out ++ q.1)) hm.2 h2
    rw [unp, tot]
    rw [cpy_len, List.length_append] at this
    omega
theorem tol_sum (n m T : Int) (hn : 0 ≤ n) (hm : 4 ≤ m) (hT : 0 ≤ T) : (3 : Int) + (tol n).length + (tol (m - 4)).length + (tol T).length ≤ m + (tol (n + m + T)).length := by
  by_cases a : n < 15 <;> by_cases b : m - 4 < 15 <;> by_cases c : T < 15 <;> by_cases d : n + m + T < 15
  all_goals
    first | rw [tol_none a] | rw [tol_big (by omega)]
    first | rw [tol_none b] | rw [tol_big (by omega)]
    first | rw [tol_none c] | rw [tol_big (by omega)]
    first | rw [tol_none d] | rw [tol_big (by omega)]
    omega
/-- no block of sequences is longer than its text told by literals alone -/
theorem jcat_tot (qs : List Sq) (size : Int) (hne : qs ≠ []) (h0 : 0 ≤ size) (h : Jok qs size) : ((jcat qs).length : Int) ≤ 1 + tot qs + (tol (tot qs)).length := by
  induction qs generalizing size with
  | nil => exact absurd rfl hne
  | cons q r ih =>
    obtain ⟨h1, h2⟩ := h
    cases r with
    | nil =>
      have hl := jerr_last h1
      simp only [jcat, tot, List.isEmpty_nil, List.append_nil]
      have e : (jbytes true q).length = 1 + (tol q.1.length).length + q.1.length := by unfold jbytes; simp; omega
      rw [e, hl.2.1]
      simp only [Int.add_zero]
      omega
    | cons q2 r2 =>
      have hl := jerr_more h1
      have hi := ih (size + q.1.length + q.2.2) (by simp) (by omega) h2
      have hT := (unp_len (q2 :: r2) _ [] (by omega) h2).2
      have e : (jbytes false q).length = 3 + (tol q.1.length).length + q.1.length + (tol (q.2.2 - 4)).length := by unfold jbytes; simp; omega
      have ej : (jcat (q :: q2 :: r2)).length = (jbytes false q).length + (jcat (q2 :: r2)).length := by rw [jcat]; simp
      have hk := tol_sum q.1.length q.2.2 (tot (q2 :: r2)) (by omega) hl.2.2.1 hT
      rw [ej, e, show tot (q :: q2 :: r2) = q.1.length + q.2.2 + tot (q2 :: r2) from rfl]
      omega
theorem jcat_bnd {qs : List Sq} (hne : qs ≠ []) (h : Jok qs 0) (hl : (unp qs []).length ≤ 1048576) : ((jcat qs).length : Int) ≤ bnd (unp qs []).length := by
  have h1 := jcat_tot qs 0 hne (Int.le_refl 0) h
  have h2 := unp_len qs 0 [] (Int.le_refl 0) h
  have e : ((unp qs []).length : Int) = tot qs := by rw [h2.1]; simp
  unfold bnd
  rw [if_neg (by omega), e]
  omega
end Go.Proofs.Yteghhmnkdmehbaa
