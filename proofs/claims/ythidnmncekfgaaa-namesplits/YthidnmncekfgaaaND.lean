/- The document's Order, Same. -/
import Derived.Test.YthidnmncekfgaaaNC
namespace Go.Proofs.Ythidnmncekfgaaa
open Go.RowKit
set_option linter.unusedSimpArgs false
set_option linter.unusedVariables false

theorem ord_cons (a : Tx) (r : List Tx) (b : Tx) (t : List Tx) : ord (a :: r) (b :: t) = if ctx a b ≠ 0 then ctx a b else ord r t := rfl
theorem ord_len (a b : List Tx) (h : a = [] ∨ b = []) : ord a b = lcp a.length b.length := by
  unfold lcp
  rcases h with rfl | rfl
  · cases b with
    | nil => rfl
    | cons c r => simp only [ord, List.length_cons, List.length_nil]; rw [if_pos (by omega)]
  · cases a with
    | nil => rfl
    | cons c r => simp only [ord, List.length_cons, List.length_nil]; rw [if_neg (by omega), if_pos (by omega)]
/-- no text of the list is greater than this -/
def szs (l : List ByteArray) : Prop := ∀ i, (l.getD i ⟨#[]⟩).size ≤ 1000000
theorem lcp_sub (a b k : Int) : lcp (a - k) (b - k) = lcp a b := by
  unfold lcp
  simp only [Int.sub_lt_sub_right_iff]
set_option maxHeartbeats 1000000 in
theorem rorder_any (a b : Option Addr) (n c m d : Nat) (l r : List ByteArray) (w : World) (R : SRow w a n l) (R2 : SRow w b m r) (hl : szs l) (hr : szs r) (hn : n ≤ 1000000) (hm : m ≤ 1000000) :
    Calls Try.prog 19 #[.slice a n c, .slice b m d] w fun e w' => e = .returned (.int .i64 (ord (tls l) (tls r))) ∧ ∃ n, w' = w.drewN n := by
  have hle := fun W => rlength_any n m W
  have HR : Hid _ := And.intro R (And.intro R2 (And.intro hl hr))
  have e1 := R.len_eq
  have e2 := R2.len_eq
  have HE : Hid _ := And.intro e1 e2
  clear R R2 hl hr e1 e2
  go_enter Try.func19, Try.ntmps19
  go_wp2
  go_loopw [5] (fun i wr => ∃ k : Nat, k ≤ n ∧ k ≤ m ∧ i = .int .i64 k ∧ Hid (ord (tls l) (tls r) = ord ((tls l).drop k) ((tls r).drop k)) ∧ ∃ n, wr = w.drewN n) (fun i _ => n - (intOf i).toNat)
  case atStart => exact ⟨0, Nat.zero_le _, Nat.zero_le _, rfl, rfl, 0, rfl⟩
  case round =>
    obtain ⟨k, h1, h2, rfl, HC, t, rfl⟩ := hrel
    by_cases h3 : k < n
    · by_cases h4 : k < m
      · have hc := HC.out
        rw [tls_drop (l := l) (i := k) (by rw [HE.out.1]; exact h3), tls_drop (l := r) (i := k) (by rw [HE.out.2]; exact h4), ord_cons] at hc
        obtain ⟨b1, o1, rfl, c1⟩ := HR.out.1.cells (by omega)
        obtain ⟨b2, o2, rfl, c2⟩ := HR.out.2.1.cells (by omega)
        have hx := c1 k h3
        have hy := c2 k h4
        have hs := HR.out.2.2.1 k
        have ht := HR.out.2.2.2 k
        generalize l.getD k ⟨#[]⟩ = x at *
        generalize r.getD k ⟨#[]⟩ = y at *
        have htx := fun W => rtext_any x y W hs ht
        have HD : Hid _ := hc
        clear hc HC c1 c2 hs ht
        have h3i : (k : Int) < n := by omega
        have h4i : (k : Int) < m := by omega
        have hx' : (w.drewN t).cell? ⟨b1, o1 + k, none⟩ = some (.string x) := by simpa using hx
        have hy' : (w.drewN t).cell? ⟨b2, o2 + k, none⟩ = some (.string y) := by simpa using hy
        clear hx hy
        generalize hWW : w.drewN t = W0 at *
        have HW : Hid _ := hWW
        clear hWW
        generalize ctx x.toList y.toList = C at *
        by_cases hC : C = 0
        · have HV : Hid (ord (tls l) (tls r) = ord ((tls l).drop (k + 1)) ((tls r).drop (k + 1))) := by
            show ord (tls l) (tls r) = _
            rw [HD.out, if_neg (by simp [hC])]
          clear HD
          subst hC
          go_wp2
          go_quiet ((go_at_call 25; exact Calls.quiet_of (htx _)))
          go_wp2
          exact ⟨⟨k + 1, by omega, by omega, by go_num, HV, t + nq, by rw [← HW.out, dd]⟩, by simp [intOf]; omega⟩
        · have HV : Hid (ord (tls l) (tls r) = C) := by
            show ord (tls l) (tls r) = _
            rw [HD.out, if_pos hC]
          have hC2 : (C == 0) = false := by simpa using hC
          clear HD hC
          go_wp2
          go_quiet ((go_at_call 25; exact Calls.quiet_of (htx _)))
          go_wp2
          go_ret
          exact ⟨by rw [HV.out]; rfl, t + nq, by rw [← HW.out, dd]⟩
      · have HV : Hid (ord (tls l) (tls r) = lcp n m) := by
          show ord (tls l) (tls r) = _
          have e5 : (tls r).drop k = [] := List.drop_eq_nil_of_le (by rw [tls_len, HE.out.2]; omega)
          rw [HC.out, ord_len _ _ (Or.inr e5), List.length_drop, List.length_drop, tls_len, tls_len, HE.out.1, HE.out.2]
          have a1 : ((n - k : Nat) : Int) = n - k := by omega
          have a2 : ((m - k : Nat) : Int) = m - k := by omega
          rw [a1, a2, lcp_sub]
        clear HC
        go_wp2_with (go_at_call 26; refine (hle _).mono ?_; rintro e w' ⟨rfl, rfl⟩)
        go_ret
        exact ⟨by rw [HV.out]; rfl, _, rfl⟩
    · have HV : Hid (ord (tls l) (tls r) = lcp n m) := by
        show ord (tls l) (tls r) = _
        have e5 : (tls l).drop k = [] := List.drop_eq_nil_of_le (by rw [tls_len, HE.out.1]; omega)
        rw [HC.out, ord_len _ _ (Or.inl e5), List.length_drop, List.length_drop, tls_len, tls_len, HE.out.1, HE.out.2]
        have a1 : ((n - k : Nat) : Int) = n - k := by omega
        have a2 : ((m - k : Nat) : Int) = m - k := by omega
        rw [a1, a2, lcp_sub]
      clear HC
      go_wp2_with (go_at_call 26; refine (hle _).mono ?_; rintro e w' ⟨rfl, rfl⟩)
      go_ret
      exact ⟨by rw [HV.out]; rfl, _, rfl⟩
theorem same_drop {l r : List ByteArray} {k : Nat} (h1 : k < l.length) (h2 : k < r.length) : (l.drop k = r.drop k) ↔ ((l.getD k ⟨#[]⟩).toList = (r.getD k ⟨#[]⟩).toList ∧ l.drop (k + 1) = r.drop (k + 1)) := by
  rw [List.drop_eq_getElem_cons h1, List.drop_eq_getElem_cons h2]
  simp only [List.cons.injEq, List.getD_eq_getElem?_getD, List.getElem?_eq_getElem h1, List.getElem?_eq_getElem h2, Option.getD_some]
  exact ⟨fun ⟨a, b⟩ => ⟨by rw [a], b⟩, fun ⟨a, b⟩ => ⟨tl_inj a, b⟩⟩
set_option maxHeartbeats 1000000 in
theorem rsame_any (a b : Option Addr) (n c m d : Nat) (l r : List ByteArray) (w : World) (R : SRow w a n l) (R2 : SRow w b m r) (hn : n ≤ 1000000) (hm : m ≤ 1000000) :
    Calls Try.prog 10 #[.slice a n c, .slice b m d] w fun e w' => e = .returned (.bool (decide (l = r))) ∧ ∃ n, w' = w.drewN n := by
  by_cases hnm : n = m
  · subst hnm
    have HE : Hid _ := And.intro R.len_eq R2.len_eq
    have HR : Hid _ := And.intro R R2
    clear R R2
    have hb : (n != n) = false := by simp
    go_enter Try.func10, Try.ntmps10
    go_wp2
    go_loopw [5] (fun i wr => ∃ k : Nat, k ≤ n ∧ i = .int .i64 k ∧ Hid (l = r ↔ l.drop k = r.drop k) ∧ ∃ n, wr = w.drewN n) (fun i _ => n - (intOf i).toNat)
    case atStart => exact ⟨0, Nat.zero_le _, rfl, Iff.rfl, 0, rfl⟩
    case round =>
      obtain ⟨k, h1, rfl, HC, t, rfl⟩ := hrel
      by_cases h3 : k < n
      · obtain ⟨b1, o1, rfl, c1⟩ := HR.out.1.cells (by omega)
        obtain ⟨b2, o2, rfl, c2⟩ := HR.out.2.cells (by omega)
        have hx := c1 k h3
        have hy := c2 k h3
        have hsd := same_drop (l := l) (r := r) (k := k) (by rw [HE.out.1]; exact h3) (by rw [HE.out.2]; exact h3)
        generalize l.getD k ⟨#[]⟩ = x at *
        generalize r.getD k ⟨#[]⟩ = y at *
        have HD : Hid _ := hsd
        clear hsd c1 c2
        have h3i : (k : Int) < n := by omega
        cases hq : (x.toList == y.toList) with
        | true =>
          have HV : Hid (l = r ↔ l.drop (k + 1) = r.drop (k + 1)) := by
            show l = r ↔ _
            rw [HC.out, HD.out]
            exact ⟨fun h => h.2, fun h => ⟨eq_of_beq hq, h⟩⟩
          clear HD HC
          go_wp2
          go_quiet (fail)
          go_wp2
          exact ⟨⟨k + 1, by omega, by go_num, HV, _, rfl⟩, by simp [intOf]; omega⟩
        | false =>
          have HV : Hid (decide (l = r) = false) := by
            show decide (l = r) = false
            refine decide_eq_false fun h => ?_
            have := (HD.out.1 (HC.out.1 h)).1
            rw [this] at hq
            simp at hq
          clear HD HC
          go_wp2
          go_quiet (fail)
          go_wp2
          go_ret
          exact ⟨by rw [HV.out]; rfl, _, dd _ _ _⟩
      · have HV : Hid (decide (l = r) = true) := by
          show decide (l = r) = true
          refine decide_eq_true (HC.out.2 ?_)
          rw [List.drop_eq_nil_of_le (by rw [HE.out.1]; omega), List.drop_eq_nil_of_le (by rw [HE.out.2]; omega)]
        clear HC
        go_wp2
        go_ret
        exact ⟨by rw [HV.out]; rfl, _, rfl⟩
  · have HV : Hid (decide (l = r) = false) := by
      show decide (l = r) = false
      exact decide_eq_false fun h => hnm (by rw [← R.len_eq, ← R2.len_eq, h])
    have hb : ((n : Int) == (m : Int)) = false := by rw [beq_eq_false_iff_ne]; omega
    clear R R2
    go_enter Try.func10, Try.ntmps10
    go_wp2
    go_ret
    exact ⟨by rw [HV.out]; rfl, 0, rfl⟩
end Go.Proofs.Ythidnmncekfgaaa
