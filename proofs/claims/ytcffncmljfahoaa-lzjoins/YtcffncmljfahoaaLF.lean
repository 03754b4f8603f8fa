/- Is a list of sequences more than is asked? -/
import Derived.Test.YtcffncmljfahoaaPI
namespace Go.Proofs.Ytcffncmljfahoaa
open Go.RowKit
set_option linter.unusedSimpArgs false
set_option linter.unusedVariables false

def BigPost (w : World) (len : Nat) (qs : List Sq) (e : Ending) (w' : World) : Prop := ∃ b, e = .returned (.bool b) ∧ w' = w ∧ (b = true ∨ (b = false ∧ len ≤ 300 ∧ ∀ q ∈ qs, q.1.length ≤ 3000))
set_option maxHeartbeats 1000000 in
theorem big_any (a : Option Addr) (len cap : Nat) (ss : List SqV) (qs : List Sq) (w : World) (M : SArg w a len ss qs) :
    Calls Try.prog 16 #[.slice a len cap] w (BigPost w len qs) := by
  have hml : len ≤ 9223372036854775807 := M.row.le
  have hsl := M.row.len_eq
  have hql := M.sqs.len
  by_cases h0 : 300 < len
  · clear hsl hql
    go_enter Try.func16, Try.ntmps16
    go_wp2
    go_ret
    exact ⟨true, rfl, rfl, Or.inl rfl⟩
  · have HQ : Hid (qs.length = len) := by show qs.length = len; omega
    have HM : Hid _ := M
    clear M hsl hql
    go_enter Try.func16, Try.ntmps16
    go_wp2_with fail
    go_loopw [3] (fun vi wr => wr = w ∧ ∃ j : Nat, vi = .int .i64 j ∧ j ≤ len ∧ Hid (∀ q ∈ qs.take j, q.1.length ≤ 3000)) (fun vi _ => len - (intOf vi).toNat)
    case atStart => exact ⟨rfl, 0, rfl, Nat.zero_le _, fun q hq => by simp at hq⟩
    case round =>
      obtain ⟨rfl, j, rfl, hj, HA⟩ := hrel
      by_cases k1 : j < len
      · obtain ⟨s, q, hs, hq, ok⟩ := HM.out.sqs.get j (by rw [HM.out.row.len_eq]; exact k1)
        obtain ⟨ba, oa, rfl, ha⟩ := HM.out.row.cells (by omega)
        obtain ⟨x0, x1, x2⟩ := ha j s hs
        have hll := ok.row.len_eq
        have hnm : s.n ≤ 9223372036854775807 := ok.row.le
        have htk := take_snocQ hq
        have HK : Hid _ := And.intro htk hll
        obtain ⟨sa, n, sc, so, sm⟩ := s
        simp only at x0 hnm
        clear ha hs hq ok htk hll x1 x2
        by_cases k2 : 3000 < n
        · go_wp2
          go_ret
          exact ⟨true, rfl, rfl, Or.inl rfl⟩
        · have HB : Hid (∀ q' ∈ qs.take (j + 1), q'.1.length ≤ 3000) := by
            intro q' hq'
            rw [HK.out.1, List.mem_append] at hq'
            rcases hq' with h | h
            · exact HA.out q' h
            · rw [List.mem_singleton] at h
              have := HK.out.2
              rw [h]; simp only at this; omega
          clear HA HK
          go_wp2
          go_roundw
          case rel => exact ⟨by trivial, j + 1, by go_num, by omega, HB⟩
          case measure => simp [intOf]; omega
      · obtain rfl : j = len := by omega
        have h1 := HA.out
        rw [List.take_of_length_le (by rw [HQ.out]; exact Nat.le_refl _)] at h1
        have HB : Hid _ := h1
        clear h1 HA HM
        go_wp2
        go_ret
        exact ⟨false, rfl, rfl, Or.inr ⟨rfl, by omega, HB.out⟩⟩
theorem jon_ok (qs : List Sq) (size : Int) (b : List Int) (h : Jok qs size) : jon qs size b = (b ++ jcat qs, 0) := by
  induction qs generalizing size b with
  | nil => simp [jon, jcat]
  | cons q r ih =>
    rw [jon, if_pos h.1, ih _ _ h.2]
    simp [jcat]
theorem join_ok {qs : List Sq} (hne : qs ≠ []) (h : Jok qs 0) : join qs = (jcat qs, 0) := by
  unfold join
  rw [if_neg (by rw [List.isEmpty_iff]; exact hne), jon_ok _ _ _ h]
  simp
theorem join_bad {qs : List Sq} (h : (join qs).2 = 0) : qs ≠ [] ∧ Jok qs 0 ∧ join qs = (jcat qs, 0) := by
  unfold join at h ⊢
  split at h
  · simp at h
  · rename_i hne
    rw [if_neg hne]
    rcases jon_split qs 0 [] with ⟨e, k⟩ | ⟨k, _⟩
    · refine ⟨fun e0 => ?_, k, by simpa using e⟩
      rw [e0] at hne; simp at hne
    · exact absurd h k
theorem jok_mod {qs : List Sq} {size : Int} (h0 : 0 ≤ size) (h : Jok qs size) : ∀ q ∈ qs, Bnd q ∧ q.1.length ≤ 1048576 := by
  induction qs generalizing size with
  | nil => intro q hq; cases hq
  | cons x r ih =>
    obtain ⟨h1, h2⟩ := h
    have hf := jerr_facts h0 h1
    intro q hq
    rcases List.mem_cons.1 hq with rfl | hq
    · refine ⟨⟨?_, by omega⟩, hf.1.1⟩
      generalize r.isEmpty = l at h1
      cases l with
      | true => have := jerr_last h1; omega
      | false => have := jerr_more h1; omega
    · exact ih hf.2 h2 q hq
theorem tol_le3 (n : Nat) : (tol n).length ≤ n := by
  unfold tol
  split
  · simp
  · simp; omega
theorem jcat_le {qs : List Sq} {size : Int} (h0 : 0 ≤ size) (h1 : size ≤ 1048576) (h : Jok qs size) : ((jcat qs).length : Int) ≤ 3 * qs.length + 2 * (1048576 - size) := by
  induction qs generalizing size with
  | nil => simp [jcat]; omega
  | cons x r ih =>
    obtain ⟨h2, h3⟩ := h
    have hf := jerr_facts h0 h2
    have t1 := tol_le3 x.1.length
    simp only [jcat, List.length_append, List.length_cons]
    generalize r.isEmpty = l at h2
    cases l with
    | true =>
      have hl := jerr_last h2
      have := ih hf.2 (by omega) h3
      have e : (jbytes true x).length = 1 + (tol x.1.length).length + x.1.length := by unfold jbytes; simp; omega
      omega
    | false =>
      have hl := jerr_more h2
      have := ih hf.2 (by omega) h3
      obtain ⟨m, hm⟩ := Int.eq_ofNat_of_zero_le (by omega : 0 ≤ x.2.2 - 4)
      have t2 := tol_le3 m
      have e : (jbytes false x).length = 3 + (tol x.1.length).length + x.1.length + (tol (x.2.2 - 4)).length := by unfold jbytes; simp; omega
      rw [hm] at e
      omega
end Go.Proofs.Ytcffncmljfahoaa
