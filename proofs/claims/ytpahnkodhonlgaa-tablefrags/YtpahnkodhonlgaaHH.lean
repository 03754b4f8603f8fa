/- A writer's calls, whatever comes in; what a list of calls writes. -/
import Derived.Test.YtpahnkodhonlgaaHG
namespace Go.Proofs.Ytpahnkodhonlgaa
open Go.RowKit
set_option maxRecDepth 100000
set_option linter.unusedSimpArgs false
set_option linter.unusedVariables false

def wNum (most : Int) (s : List Int × Int) (v n : Int) : List Int × Int :=
  if s.2 ≠ 0 then s else if ckE v n ≠ 0 then (s.1, ckE v n) else if most - s.1.length < n then (s.1, 2) else (s.1 ++ sto v n.toNat, 0)
def wByt (most : Int) (s : List Int × Int) (xs : List Int) : List Int × Int :=
  if s.2 ≠ 0 then s else if most - s.1.length < xs.length then (s.1, 2) else (s.1 ++ xs, 0)
def wTxt (most : Int) (s : List Int × Int) (xs : List Int) : List Int × Int :=
  if s.2 ≠ 0 then s else if 65535 < xs.length then (s.1, 9) else if most - s.1.length < 2 + xs.length then (s.1, 2) else (s.1 ++ (sto xs.length 2 ++ xs), 0)
theorem wnum_any (p : Nat) (v : Value) (most x n : Int) (s : List Int × Int) (w : World) (hI : WInv w p v s.1 most s.2) (h0 : 0 ≤ most) (h1 : most ≤ 9223372036854775807) (hl : s.1.length ≤ 100000000) :
    Calls Try.prog 36 #[.pointer (some ⟨p, 0, none⟩), .int .u64 x, .int .i64 n] w fun r w' => r = .returned (.tuple #[]) ∧ ∃ v', WInv w' p v' (wNum most s x n).1 most (wNum most s x n).2 ∧ Chg w w' p v v' := by
  obtain ⟨bs, e⟩ := s
  simp only at hI hl
  by_cases he : e = 0
  · subst he
    by_cases hc : ckE x n = 0
    · obtain ⟨hW, _⟩ := ckE_ok hc
      obtain ⟨m, rfl⟩ : ∃ m : Nat, n = m := ⟨n.toNat, by have := isW_pos hW; omega⟩
      have hm := isW_pos hW
      by_cases hn : most - bs.length < m
      · have e1 : wNum most (bs, 0) x m = (bs, 2) := by simp [wNum, hc, hn]
        rw [e1]
        exact (wnum_full p v bs most x m w hI hc h0 h1 (by omega) hn).mono fun r w' ⟨a, b, c⟩ => ⟨a, v, b, c⟩
      · have e1 : wNum most (bs, 0) x m = (bs ++ sto x m, 0) := by simp [wNum, hc, hn]
        rw [e1]
        exact (wnum_ok p v bs most x m w hI hc h0 h1 (by omega) (by omega)).mono fun r w' ⟨v', a, b, c⟩ => ⟨a, v', b, c⟩
    · have e1 : wNum most (bs, 0) x n = (bs, ckE x n) := by simp [wNum, hc]
      rw [e1]
      exact (wnum_bad p v bs most x n w hI (by simpa using hc)).mono fun r w' ⟨a, b, c⟩ => ⟨a, v, b, c⟩
  · have e1 : wNum most (bs, e) x n = (bs, e) := by simp [wNum, he]
    rw [e1]
    exact (wnum_stop p _ _ e x n w hI.blk (by simpa using he)).mono fun r w' ⟨a, b⟩ => ⟨a, v, by rw [← b]; exact hI, by rw [← b]; exact Chg.refl _ _ _⟩

theorem wbytes_any (p : Nat) (v : Value) (most : Int) (s : List Int × Int) (a : Option Addr) (n c : Nat) (xs : List Int) (w : World) (hI : WInv w p v s.1 most s.2) (R : Row w a n xs) (hlt : ∀ b off, a = some ⟨b, off, none⟩ → 0 < n → b < p) (h0 : 0 ≤ most) (h1 : most ≤ 9223372036854775807) (hl : s.1.length ≤ 100000000) (hn : n ≤ 100000000) :
    Calls Try.prog 45 #[.pointer (some ⟨p, 0, none⟩), .slice a n c] w fun r w' => r = .returned (.tuple #[]) ∧ ∃ v', WInv w' p v' (wByt most s xs).1 most (wByt most s xs).2 ∧ Chg w w' p v v' := by
  obtain ⟨bs, e⟩ := s
  simp only at hI hl
  have hxl := R.len_eq
  by_cases he : e = 0
  · subst he
    by_cases hf : most - bs.length < n
    · have e1 : wByt most (bs, 0) xs = (bs, 2) := by simp [wByt, hxl, hf]
      rw [e1]
      exact (wbytes_full p v bs most a n c w hI h0 h1 (by omega) hf).mono fun r w' ⟨a, b, c⟩ => ⟨a, v, b, c⟩
    · have e1 : wByt most (bs, 0) xs = (bs ++ xs, 0) := by simp [wByt, hxl, hf]
      rw [e1]
      exact (wbytes_ok p v bs most a n c xs w hI R hlt h0 h1 (by omega) (by omega)).mono fun r w' ⟨v', a, b, c⟩ => ⟨a, v', b, c⟩
  · have e1 : wByt most (bs, e) xs = (bs, e) := by simp [wByt, he]
    rw [e1]
    exact (wbytes_stop p _ _ _ e w hI.blk (by simpa using he)).mono fun r w' ⟨a, b⟩ => ⟨a, v, by rw [← b]; exact hI, by rw [← b]; exact Chg.refl _ _ _⟩

/-- how much one call adds at most -/
theorem wNum_len (most : Int) (s : List Int × Int) (v n : Int) : (wNum most s v n).1.length ≤ s.1.length + 8 := by
  unfold wNum
  split
  · omega
  · split
    · simp
    · rename_i _ hc
      split
      · simp
      · obtain ⟨hW, _⟩ := ckE_ok (show ckE v n = 0 by omega)
        have := isW_pos hW
        simp [sto_length]; omega
theorem wByt_len (most : Int) (s : List Int × Int) (xs : List Int) : (wByt most s xs).1.length ≤ s.1.length + xs.length := by
  unfold wByt; split <;> (try split) <;> simp
theorem wTxt_len (most : Int) (s : List Int × Int) (xs : List Int) : (wTxt most s xs).1.length ≤ s.1.length + xs.length + 2 := by
  unfold wTxt
  split
  · omega
  · split
    · simp only; omega
    · split
      · simp only; omega
      · simp only [List.length_append, sto_length]; omega
theorem Res.row {w w' : World} {v : Value} {t : List Int} (h : Res w w' v t) (hb : Byt t) (hl : t.length ≤ maxLen) : ∃ a, v = .slice a t.length t.length ∧ Row w' a t.length t := by
  rcases h with ⟨rfl, rfl⟩ | ⟨g, rfl, hB, _⟩
  · exact ⟨none, rfl, rfl, Nat.zero_le _, hb, fun h => absurd h (by simp)⟩
  · exact ⟨_, rfl, hB.row hb hl⟩
theorem Row.drew' {w : World} {a : Option Addr} {len : Nat} {bs : List Int} (h : Row w a len bs) : Row w.drew a len bs := h.below ((Below.refl _ _).drew)
end Go.Proofs.Ytpahnkodhonlgaa
