/- The program's Check. -/
import Derived.Test.YtpahnkodhonlgaaOC
import Derived.Test.YtpahnkodhonlgaaJW
namespace Go.Proofs.Ytpahnkodhonlgaa
open Go.RowKit
set_option maxRecDepth 100000
set_option linter.unusedSimpArgs false
set_option linter.unusedVariables false
set_option maxHeartbeats 1000000 in
/-- internal/stringslite.IndexByte -/
theorem lindex15_any (s : ByteArray) (c : Int) (w : World) : Calls Try.prog 88 #[.string s, .int .u8 c] w fun e w' => e = .returned (.int .i64 (Lib.indexByte s.data.toList c.toNat.toUInt8)) ∧ w = w' := by
  go_enter Try.func88, Try.ntmps88
  go_wp2
  rw [run_callFunc_extern Try.func93 (by kernel_rfl) (by kernel_rfl) (by kernel_rfl) (e := Extern.BytealgIndexByte.indexByte) (by kernel_rfl), Lib.run_indexByteString]
  simp only [Result.andThen]
  rw [Oper.upon_value]
  go_wp2
  go_ret
  exact ⟨rfl, rfl⟩
set_option maxHeartbeats 1000000 in
theorem lfind15_any (s : ByteArray) (w : World) : Calls Try.prog 81 #[.string s, .string ⟨#[0]⟩] w fun e w' => e = .returned (.int .i64 (Lib.indexByte s.data.toList 0)) ∧ w = w' := by
  cases h : ([0] == s.toList) with
  | true =>
    have e : Lib.indexByte s.data.toList 0 = 0 := by
      have h1 : [0] = s.toList := by simpa using h
      rw [ByteArray.toList_eq] at h1
      rw [← h1]
      rfl
    rw [e]
    clear e
    go_enter Try.func81, Try.ntmps81
    go_wp2
    go_ret
    exact ⟨rfl, rfl⟩
  | false =>
    go_enter Try.func81, Try.ntmps81
    go_wp2_with (go_at_call 88; refine (lindex15_any _ _ _).mono ?_; rintro e w' ⟨rfl, rfl⟩)
    go_ret
    exact ⟨rfl, rfl⟩
theorem sfind15_any (s : ByteArray) (w : World) : Calls Try.prog 69 #[.string s, .string ⟨#[0]⟩] w fun e w' => e = .returned (.int .i64 (Lib.indexByte s.data.toList 0)) ∧ w = w' := by
  go_enter Try.func69, Try.ntmps69
  go_wp2_with (go_at_call 81; refine (lfind15_any _ _).mono ?_; rintro e w' ⟨rfl, rfl⟩)
  go_ret
  exact ⟨rfl, rfl⟩
theorem index_has15 : ∀ (l : List UInt8) (c : UInt8), decide (0 ≤ Lib.indexByte l c) = l.any (· == c)
  | [], c => by simp [Lib.indexByte]
  | b :: l, c => by
    have ih := index_has15 l c
    have hg := Lib.indexByte_ge l c
    have e : Lib.indexByte (b :: l) c = if b == c then 0 else if Lib.indexByte l c == -1 then -1 else Lib.indexByte l c + 1 := rfl
    rw [List.any_cons, ← ih, e]
    cases hb : (b == c) with
    | true => simp
    | false =>
      by_cases h1 : Lib.indexByte l c = -1
      · simp [h1]
      · have h2 : (Lib.indexByte l c == -1) = false := by simpa using h1
        have h3 : 0 ≤ Lib.indexByte l c := by omega
        simp [h2, h3]
        omega
theorem nul_any (s : ByteArray) : has0 s = s.data.toList.any (· == 0) := by
  unfold has0 nul
  rw [Bool.eq_iff_iff, List.any_eq_true, List.any_eq_true]
  constructor
  · rintro ⟨i, hi, h⟩
    have hi' : i < s.size := List.mem_range.1 hi
    refine ⟨s[i], by rw [Array.mem_toList_iff]; exact Array.getElem_mem hi', ?_⟩
    have := byt_in hi'
    rw [beq_iff_eq] at h ⊢
    rw [h] at this
    exact UInt8.toNat_inj.1 this
  · rintro ⟨x, hx, h⟩
    rw [Array.mem_toList_iff] at hx
    obtain ⟨i, hi, rfl⟩ := Array.getElem_of_mem hx
    refine ⟨i, List.mem_range.2 hi, ?_⟩
    rw [beq_iff_eq] at h ⊢
    have := byt_in (s := s) (i := i) hi
    rw [← this]
    show (s.data[i]).toNat = 0
    rw [h]
    rfl
theorem contains15_any (s : ByteArray) (w : World) : Calls Try.prog 61 #[.string s, .string ⟨#[0]⟩] w fun e w' => e = .returned (.bool (has0 s)) ∧ w = w' := by
  rw [nul_any, ← index_has15]
  go_enter Try.func61, Try.ntmps61
  go_wp2_with (go_at_call 69; refine (sfind15_any _ _).mono ?_; rintro e w' ⟨rfl, rfl⟩)
  go_ret
  exact ⟨rfl, rfl⟩
end Go.Proofs.Ytpahnkodhonlgaa
