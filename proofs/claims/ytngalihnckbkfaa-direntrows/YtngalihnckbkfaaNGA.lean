/- The program's holds, Valid, Absolute, as landed. -/
import Derived.Lib.Bytealg
import Derived.Lib.Walk
import Derived.Test.YtngalihnckbkfaaNF
namespace Go.Proofs.Ytngalihnckbkfaa
open Go.RowKit
set_option maxRecDepth 100000
set_option linter.unusedSimpArgs false
set_option linter.unusedVariables false

set_option maxHeartbeats 1000000 in
set_option maxRecDepth 100000 in
/-- internal/stringslite.IndexByte -/
theorem lindex_any (s : ByteArray) (c : Int) (w : World) : Calls Try.prog 51 #[.string s, .int .u8 c] w fun e w' => e = .returned (.int .i64 (Lib.indexByte s.data.toList c.toNat.toUInt8)) ∧ w = w' := by
  go_enter Try.func51, Try.ntmps51
  go_wp2
  rw [run_callFunc_extern Try.func54 (by kernel_rfl) (by kernel_rfl) (by kernel_rfl) (e := Extern.BytealgIndexByte.indexByte) (by kernel_rfl), Lib.run_indexByteString]
  simp only [Result.andThen]
  rw [Oper.upon_value]
  go_wp2
  go_ret
  exact ⟨rfl, rfl⟩
/-- strings.IndexByte -/
theorem sindex_any (s : ByteArray) (c : Int) (w : World) : Calls Try.prog 46 #[.string s, .int .u8 c] w fun e w' => e = .returned (.int .i64 (Lib.indexByte s.data.toList c.toNat.toUInt8)) ∧ w = w' := by
  go_enter Try.func46, Try.ntmps46
  go_wp2_with (go_at_call 51; refine (lindex_any _ _ _).mono ?_; rintro e w' ⟨rfl, rfl⟩)
  go_ret
  exact ⟨rfl, rfl⟩
theorem index_has : ∀ (l : Tx) (c : UInt8), decide (0 ≤ Lib.indexByte l c) = l.any (· == c)
  | [], c => by simp [Lib.indexByte]
  | b :: l, c => by
    have ih := index_has l c
    have hg := Lib.indexByte_ge l c
    have e : Lib.indexByte (b :: l) c = if b == c then 0 else if Lib.indexByte l c == -1 then -1 else Lib.indexByte l c + 1 := rfl
    rw [List.any_cons, ← ih, e]
    cases hb : (b == c) with
    | true => simp
    | false =>
      by_cases h1 : Lib.indexByte l c = -1
      · simp [h1]
      · have h2 : (Lib.indexByte l c == -1) = false := by simpa using h1
        have h3 : 0 ≤ Lib.indexByte l c := by omega
        simp [h2, h3]
        omega
/-- is the byte in the text? -/
def hasB (l : Tx) (c : UInt8) : Bool := l.any (· == c)
set_option maxHeartbeats 1000000 in
theorem pholds_any (s : ByteArray) (c : Int) (w : World) : Calls Try.prog 37 #[.string s, .int .u8 c] w fun e w' => e = .returned (.bool (hasB s.toList c.toNat.toUInt8)) ∧ w = w' := by
  have e : hasB s.toList c.toNat.toUInt8 = decide (0 ≤ Lib.indexByte s.data.toList c.toNat.toUInt8) := by
    unfold hasB
    rw [← index_has, ByteArray.toList_eq]
  rw [e]
  generalize hx : Lib.indexByte s.data.toList c.toNat.toUInt8 = x
  have HX : Hid _ := hx
  clear hx e
  go_enter Try.func37, Try.ntmps37
  go_wp2_with (go_at_call 46; refine (sindex_any _ _ _).mono ?_; rw [HX.out]; rintro e w' ⟨rfl, rfl⟩)
  go_ret
  exact ⟨rfl, rfl⟩
/-- Absolute -/
def abt (l : Tx) : Bool := l.head? == some 47
theorem any_or (l : Tx) : (l.any fun c => c == 47 || c == 0) = (hasB l 47 || hasB l 0) := by
  unfold hasB
  induction l with
  | nil => rfl
  | cons a r ih => rw [List.any_cons, List.any_cons, List.any_cons, ih]; cases (a == 47) <;> cases (a == 0) <;> simp
theorem vld_eq (s : ByteArray) : vld s.toList = (!(s.toList == []) && !(s.toList == [46]) && !(s.toList == [46, 46]) && !decide (255 < s.size) && (!hasB s.toList 47 && !hasB s.toList 0)) := by
  have h1 : decide (1 ≤ s.toList.length) = !(s.toList == []) := by
    cases s.toList <;> simp
  have h2 : decide (s.toList.length ≤ 255) = !decide (255 < s.size) := by
    rw [tl_len]
    by_cases h : 255 < s.size
    · rw [decide_eq_true h, decide_eq_false (by omega)]; rfl
    · rw [decide_eq_false h, decide_eq_true (by omega)]; rfl
  unfold vld
  rw [h1, h2, any_or, Bool.not_or]
  cases (s.toList == []) <;> cases (s.toList == [46]) <;> cases (s.toList == [46, 46]) <;> cases decide (255 < s.size) <;> rfl
set_option maxHeartbeats 2000000 in
theorem pvalid_eq (s : ByteArray) (w : World) (hs : s.size ≤ 1000000) : Calls Try.prog 25 #[.string s] w fun e w' => e = .returned (.bool (vld s.toList)) ∧ w = w' := by
  have hh := fun c W => pholds_any s c W
  rw [vld_eq]
  cases h1 : (s.toList == []) with
  | true =>
    go_enter Try.func25, Try.ntmps25
    go_wp2_with (go_at_call 37; refine (hh _ _).mono ?_; rintro e w' ⟨rfl, rfl⟩)
    go_ret
    exact ⟨rfl, rfl⟩
  | false =>
    cases h2 : (s.toList == [46]) with
    | true =>
      go_enter Try.func25, Try.ntmps25
      go_wp2_with (go_at_call 37; refine (hh _ _).mono ?_; rintro e w' ⟨rfl, rfl⟩)
      go_ret
      exact ⟨rfl, rfl⟩
    | false =>
      cases h3 : (s.toList == [46, 46]) with
      | true =>
        go_enter Try.func25, Try.ntmps25
        go_wp2_with (go_at_call 37; refine (hh _ _).mono ?_; rintro e w' ⟨rfl, rfl⟩)
        go_ret
        exact ⟨rfl, rfl⟩
      | false =>
        by_cases h4 : 255 < s.size
        · have g4 : (255 : Int) < s.size := by omega
          rw [decide_eq_true h4]
          go_enter Try.func25, Try.ntmps25
          go_wp2_with (go_at_call 37; refine (hh _ _).mono ?_; rintro e w' ⟨rfl, rfl⟩)
          go_ret
          exact ⟨rfl, rfl⟩
        · have g4 : ¬ (255 : Int) < s.size := by omega
          rw [decide_eq_false h4]
          generalize hA : hasB s.toList 47 = A
          generalize hB : hasB s.toList 0 = B
          have a47 := hh 47 
          have a0 := hh 0
          have e47 : ((47 : Int).toNat.toUInt8) = 47 := rfl
          have e0 : ((0 : Int).toNat.toUInt8) = 0 := rfl
          rw [e47, hA] at a47
          rw [e0, hB] at a0
          have HA : Hid _ := And.intro hA hB
          clear hA hB hh
          cases A with
          | true =>
            go_enter Try.func25, Try.ntmps25
            go_wp2_with (go_at_call 37; first | (with_reducible refine (a47 _).mono ?_) | (with_reducible refine (a0 _).mono ?_); rintro e w' ⟨rfl, rfl⟩)
            go_ret
            exact ⟨rfl, rfl⟩
          | false =>
            go_enter Try.func25, Try.ntmps25
            go_wp2_with (go_at_call 37; (first | (with_reducible refine (a47 _).mono ?_) | (with_reducible refine (a0 _).mono ?_)); rintro e w' ⟨rfl, rfl⟩)
            go_ret
            exact ⟨by simp, rfl⟩
theorem pvalid_any (s : ByteArray) (w : World) (hs : s.size ≤ 1000000) : Calls Try.prog 25 #[.string s] w fun e w' => e = .returned (.bool (vld s.toList)) ∧ w.grownBy w' none :=
  (pvalid_eq s w hs).mono fun e w' h => ⟨h.1, by rw [← h.2]; exact World.grownBy.refl _ _⟩
end Go.Proofs.Ytngalihnckbkfaa
