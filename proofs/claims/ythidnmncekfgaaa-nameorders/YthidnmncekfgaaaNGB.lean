/- The program's Order, as landed. -/
import Derived.Test.YthidnmncekfgaaaNGA
namespace Go.Proofs.Ythidnmncekfgaaa
open Go.RowKit
set_option maxRecDepth 100000
set_option linter.unusedSimpArgs false
set_option linter.unusedVariables false

theorem cmp_ctx : ∀ a b : Tx, Lib.compareBytes a b = ctx a b
  | [], [] => rfl
  | [], _ :: _ => rfl
  | _ :: _, [] => rfl
  | a :: r, b :: t => by
    show (if a < b then -1 else if b < a then 1 else Lib.compareBytes r t) = (if a < b then -1 else if b < a then 1 else ctx r t)
    rw [cmp_ctx r t]
set_option maxHeartbeats 1000000 in
set_option maxRecDepth 100000 in
theorem bcompare_any (a b : ByteArray) (w : World) : Calls Try.prog 31 #[.string a, .string b] w fun e w' => e = .returned (.int .i64 (ctx a.toList b.toList)) ∧ w = w' := by
  rw [ByteArray.toList_eq, ByteArray.toList_eq, ← cmp_ctx]
  go_enter Try.func31, Try.ntmps31
  go_wp2
  rw [run_callFunc_extern Try.func34 (by kernel_rfl) (by kernel_rfl) (by kernel_rfl) (e := Extern.BytealgCompare.compare) (by kernel_rfl), Lib.run_compareString]
  simp only [Result.andThen]
  rw [Oper.upon_value]
  go_wp2
  go_ret
  exact ⟨rfl, rfl⟩
theorem scompare_any (a b : ByteArray) (w : World) : Calls Try.prog 24 #[.string a, .string b] w fun e w' => e = .returned (.int .i64 (ctx a.toList b.toList)) ∧ w = w' := by
  go_enter Try.func24, Try.ntmps24
  go_wp2_with (go_at_call 31; refine (bcompare_any _ _ _).mono ?_; rintro e w' ⟨rfl, rfl⟩)
  go_ret
  exact ⟨rfl, rfl⟩
set_option maxHeartbeats 2000000 in
theorem pcomparefunc_any (a b : Option Addr) (n c m d : Nat) (l r : List ByteArray) (w : World) (R : SRow w a n l) (R2 : SRow w b m r) (hn : n ≤ 1000000) (hm : m ≤ 1000000) :
    Calls Try.prog 23 #[.slice a n c, .slice b m d, .func (.func 24) #[] #[]] w fun e w' => e = .returned (.int .i64 (ord (tls l) (tls r))) ∧ ∃ n, w' = w.drewN n := by
  have HR : Hid _ := And.intro R R2
  have HE : Hid _ := And.intro R.len_eq R2.len_eq
  clear R R2
  go_enter Try.func23, Try.ntmps23
  go_wp2
  go_loopw [13] (fun i wr => ∃ k : Nat, k ≤ n ∧ k ≤ m ∧ i = .int .i64 k ∧ Hid (ord (tls l) (tls r) = ord ((tls l).drop k) ((tls r).drop k)) ∧ ∃ t, wr = w.drewN t) (fun i _ => n - (intOf i).toNat)
  case atStart => exact ⟨0, Nat.zero_le _, Nat.zero_le _, rfl, rfl, 0, rfl⟩
  case round =>
    obtain ⟨k, h1, h2, rfl, HC, t, rfl⟩ := hrel
    by_cases h3 : k < n
    · by_cases h4 : k < m
      · obtain ⟨b1, o1, rfl, c1⟩ := HR.out.1.cells (by omega)
        obtain ⟨b2, o2, rfl, c2⟩ := HR.out.2.cells (by omega)
        have hx := c1 k h3
        have hy := c2 k h4
        have hc := HC.out
        rw [tls_drop (l := l) (by rw [HE.out.1]; exact h3), tls_drop (l := r) (by rw [HE.out.2]; exact h4), ord_cons] at hc
        generalize l.getD k ⟨#[]⟩ = x at *
        generalize r.getD k ⟨#[]⟩ = y at *
        generalize hC : ctx x.toList y.toList = C at *
        have hsc := fun W => scompare_any x y W
        rw [hC] at hsc
        have HD : Hid _ := hc
        clear hc HC c1 c2 hC
        have h3i : (k : Int) < n := by omega
        have h4i : ¬ (m : Int) ≤ k := by omega
        by_cases hC0 : C = 0
        · subst hC0
          have HV : Hid (ord (tls l) (tls r) = ord ((tls l).drop (k + 1)) ((tls r).drop (k + 1))) := by
            show ord (tls l) (tls r) = _
            rw [HD.out, if_neg (by simp)]
          clear HD
          go_wp2_with (go_at_call 24; refine (hsc _).mono ?_; rintro e w' ⟨rfl, rfl⟩)
          exact ⟨⟨k + 1, by omega, by omega, by go_num, HV, _, rfl⟩, by simp [intOf]; omega⟩
        · have HV : Hid (ord (tls l) (tls r) = C) := by
            show ord (tls l) (tls r) = _
            rw [HD.out, if_pos hC0]
          have hC2 : (C == 0) = false := by simpa using hC0
          clear HD hC0
          go_wp2_with (go_at_call 24; refine (hsc _).mono ?_; rintro e w' ⟨rfl, rfl⟩)
          go_ret
          exact ⟨by rw [HV.out]; rfl, _, rfl⟩
      · have h4i : (m : Int) ≤ k := by omega
        have h3i : (k : Int) < n := by omega
        have HV : Hid (ord (tls l) (tls r) = 1) := by
          show ord (tls l) (tls r) = _
          have e5 : (tls r).drop k = [] := List.drop_eq_nil_of_le (by rw [tls_len, HE.out.2]; omega)
          rw [HC.out, ord_len _ _ (Or.inr e5), List.length_drop, List.length_drop, tls_len, tls_len, HE.out.1, HE.out.2]
          unfold lcp
          rw [if_neg (by omega), if_pos (by omega)]
        clear HC
        obtain ⟨b1, o1, rfl, c1⟩ := HR.out.1.cells (by omega)
        have hx := c1 k h3
        generalize l.getD k ⟨#[]⟩ = x at *
        clear c1
        go_wp2
        go_ret
        exact ⟨by rw [HV.out]; rfl, _, rfl⟩
    · have h3i : ¬ (k : Int) < n := by omega
      have hkn : k = n := by omega
      by_cases h4 : n < m
      · have h4i : (n : Int) < m := by omega
        have HV : Hid (ord (tls l) (tls r) = -1) := by
          show ord (tls l) (tls r) = _
          have e5 : (tls l).drop k = [] := List.drop_eq_nil_of_le (by rw [tls_len, HE.out.1]; omega)
          rw [HC.out, ord_len _ _ (Or.inl e5), List.length_drop, List.length_drop, tls_len, tls_len, HE.out.1, HE.out.2]
          unfold lcp
          rw [if_pos (by omega)]
        clear HC hkn
        go_wp2
        go_ret
        exact ⟨by rw [HV.out]; rfl, _, rfl⟩
      · have h4i : ¬ (n : Int) < m := by omega
        have HV : Hid (ord (tls l) (tls r) = 0) := by
          show ord (tls l) (tls r) = _
          have e5 : (tls l).drop k = [] := List.drop_eq_nil_of_le (by rw [tls_len, HE.out.1]; omega)
          rw [HC.out, ord_len _ _ (Or.inl e5), List.length_drop, List.length_drop, tls_len, tls_len, HE.out.1, HE.out.2]
          unfold lcp
          rw [if_neg (by omega), if_neg (by omega)]
        clear HC hkn
        go_wp2
        go_ret
        exact ⟨by rw [HV.out]; rfl, _, rfl⟩
theorem drewH (w : World) (n : Nat) : w.grownBy (w.drewN n) none := by
  induction n with
  | zero => exact World.grownBy.refl _ _
  | succ n ih => exact grown_tr ih ⟨rfl, rfl, rfl, Nat.le_refl _, fun _ _ _ => rfl⟩
theorem porder_any (a b : Option Addr) (n c m d : Nat) (l r : List ByteArray) (w : World) (R : SRow w a n l) (R2 : SRow w b m r) (hnc : n ≤ c) (hmd : m ≤ d) (hl : szs l) (hr : szs r) (hn : n ≤ 1000000) (hm : m ≤ 1000000) :
    Calls Try.prog 18 #[.slice a n c, .slice b m d] w fun e w' => e = .returned (.int .i64 (ord (tls l) (tls r))) ∧ w.grownBy w' none := by
  have hcf := pcomparefunc_any a b n c m d l r w R R2 hn hm
  clear R R2
  go_enter Try.func18, Try.ntmps18
  go_wp2_with (go_at_call 23; refine hcf.mono ?_; rintro e w' ⟨rfl, t, rfl⟩)
  go_ret
  exact ⟨rfl, drewH w t⟩
end Go.Proofs.Ythidnmncekfgaaa
