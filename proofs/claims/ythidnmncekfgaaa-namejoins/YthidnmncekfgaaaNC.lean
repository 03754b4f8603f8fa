/- Texts and lists of texts in memory; the document's Order, Same. -/
import Derived.Test.YthidnmncekfgaaaNB
import Derived.Test.YthidnmncekfgaaaNP
import Derived.Laws.StructEq
import Derived.Deep.QuietTactic
import Derived.BigQuiet
namespace Go.Proofs.Ythidnmncekfgaaa
open Go.RowKit
set_option linter.unusedSimpArgs false
set_option linter.unusedVariables false

theorem tl_len (s : ByteArray) : s.toList.length = s.size := by rw [ByteArray.toList_eq]; rfl
theorem tl_get {s : ByteArray} {i : Nat} (h : i < s.size) : s.toList[i]'(by rw [tl_len]; exact h) = s[i] := by
  simp only [ByteArray.toList_eq]
  rfl
theorem drop_get {s : ByteArray} {i : Nat} (h : i < s.size) : s.toList.drop i = s[i] :: s.toList.drop (i + 1) := by
  rw [List.drop_eq_getElem_cons (by rw [tl_len]; exact h), tl_get h]
theorem take_get {s : ByteArray} {i : Nat} (h : i < s.size) : s.toList.take (i + 1) = s.toList.take i ++ [s[i]] := by
  rw [List.take_succ_eq_append_getElem (by rw [tl_len]; exact h), tl_get h]
theorem tl_inj {s t : ByteArray} (h : s.toList = t.toList) : s = t := by
  rw [ByteArray.toList_eq, ByteArray.toList_eq] at h
  cases s; cases t
  simp only at h
  congr 1
  exact Array.toList_inj.1 h
/-- a list of texts in memory -/
structure SRow (w : World) (a : Option Addr) (len : Nat) (l : List ByteArray) : Prop where
  len_eq : l.length = len
  cells : 0 < len → ∃ b off, a = some ⟨b, off, none⟩ ∧ ∀ i, i < len → w.cell? ⟨b, off + i, none⟩ = some (.string (l.getD i ⟨#[]⟩))
theorem SRow.below {w w' : World} {a : Option Addr} {len : Nat} {l : List ByteArray} (h : SRow w a len l) (hb : Below w.heap.size w w') : SRow w' a len l :=
  ⟨h.len_eq, fun h0 => by
    obtain ⟨b, off, e, hc⟩ := h.cells h0
    have hlt : b < w.heap.size := by
      have := hc 0 h0
      rcases Nat.lt_or_ge b w.heap.size with h | h
      · exact h
      · simp [World.cell?, Array.getElem?_eq_none h] at this
    exact ⟨b, off, e, fun i hi => by rw [hb.cell (p := ⟨b, off + i, none⟩) hlt]; exact hc i hi⟩⟩
theorem grown_below0 {a b : World} (h : a.grownBy b none) : Below a.heap.size a b := ⟨h.os, h.tape, h.output, h.size, fun k hk => h.block k hk (by simp)⟩
theorem SRow.grown {w w' : World} {a : Option Addr} {len : Nat} {l : List ByteArray} (h : SRow w a len l) (hg : w.grownBy w' none) : SRow w' a len l := h.below (grown_below0 hg)
def tls (l : List ByteArray) : List Tx := l.map (·.toList)
theorem tls_len (l : List ByteArray) : (tls l).length = l.length := by simp [tls]
theorem tls_drop {l : List ByteArray} {i : Nat} (h : i < l.length) : (tls l).drop i = (l.getD i ⟨#[]⟩).toList :: (tls l).drop (i + 1) := by
  rw [List.drop_eq_getElem_cons (by rw [tls_len]; exact h)]
  simp [tls, List.getD_eq_getElem?_getD, h]
/-- the order of two numbers -/
def lcp (a b : Int) : Int := if a < b then -1 else if b < a then 1 else 0
theorem dd (w : World) (a b : Nat) : (w.drewN a).drewN b = w.drewN (a + b) := by
  induction b with
  | zero => rfl
  | succ b ih => first | (show ((w.drewN a).drewN b).drew = (w.drewN (a + b)).drew; rw [ih]) | (simp [World.drewN, Nat.add_assoc])
theorem rlength_any (a b : Int) (w : World) : Calls Try.prog 26 #[.int .i64 a, .int .i64 b] w fun e w' => e = .returned (.int .i64 (lcp a b)) ∧ w = w' := by
  unfold lcp
  by_cases h : a < b
  · rw [if_pos h]
    go_enter Try.func26, Try.ntmps26
    go_wp2
    go_ret
    exact ⟨rfl, rfl⟩
  · rw [if_neg h]
    by_cases h2 : b < a
    · rw [if_pos h2]
      go_enter Try.func26, Try.ntmps26
      go_wp2
      go_ret
      exact ⟨rfl, rfl⟩
    · rw [if_neg h2]
      go_enter Try.func26, Try.ntmps26
      go_wp2
      go_ret
      exact ⟨rfl, rfl⟩
theorem ctx_cons (a : UInt8) (r : Tx) (b : UInt8) (t : Tx) : ctx (a :: r) (b :: t) = if a < b then -1 else if b < a then 1 else ctx r t := rfl
theorem ctx_len (a b : Tx) (h : a = [] ∨ b = []) : ctx a b = lcp a.length b.length := by
  unfold lcp
  rcases h with rfl | rfl
  · cases b with
    | nil => rfl
    | cons c r => simp only [ctx, List.length_cons, List.length_nil]; rw [if_pos (by omega)]
  · cases a with
    | nil => rfl
    | cons c r => simp only [ctx, List.length_cons, List.length_nil]; rw [if_neg (by omega), if_pos (by omega)]
set_option maxHeartbeats 1000000 in
theorem rtext_any (s t : ByteArray) (w : World) (hs : s.size ≤ 1000000) (ht : t.size ≤ 1000000) : Calls Try.prog 25 #[.string s, .string t] w fun e w' => e = .returned (.int .i64 (ctx s.toList t.toList)) ∧ ∃ n, w' = w.drewN n := by
  have hle := fun W => rlength_any s.size t.size W
  go_enter Try.func25, Try.ntmps25
  go_wp2
  go_loopw [5] (fun i wr => ∃ k : Nat, k ≤ s.size ∧ k ≤ t.size ∧ i = .int .i64 k ∧ Hid (ctx s.toList t.toList = ctx (s.toList.drop k) (t.toList.drop k)) ∧ ∃ n, wr = w.drewN n) (fun i _ => s.size - (intOf i).toNat)
  case atStart => exact ⟨0, Nat.zero_le _, Nat.zero_le _, rfl, rfl, 0, rfl⟩
  case round =>
    obtain ⟨k, h1, h2, rfl, HC, n, rfl⟩ := hrel
    by_cases h3 : k < s.size
    · by_cases h4 : k < t.size
      · have hc := HC.out
        rw [drop_get h3, drop_get h4] at hc
        rw [ctx_cons] at hc
        have HD : Hid _ := hc
        clear hc HC
        by_cases h5 : (s[k].toNat : Int) < (t[k].toNat : Int)
        · have h6 : s[k] < t[k] := UInt8.lt_iff_toNat_lt.2 (by omega)
          have HV : Hid (ctx s.toList t.toList = -1) := by
            show ctx s.toList t.toList = -1
            rw [HD.out, if_pos h6]
          clear HD h6
          go_wp2
          go_quiet (fail)
          go_wp2
          go_ret
          exact ⟨by rw [HV.out]; rfl, _, dd _ _ _⟩
        · have h6 : ¬ s[k] < t[k] := fun h => h5 (by have := UInt8.lt_iff_toNat_lt.1 h; omega)
          by_cases h7 : (t[k].toNat : Int) < (s[k].toNat : Int)
          · have h8 : t[k] < s[k] := UInt8.lt_iff_toNat_lt.2 (by omega)
            have HV : Hid (ctx s.toList t.toList = 1) := by
              show ctx s.toList t.toList = 1
              rw [HD.out, if_neg h6, if_pos h8]
            clear HD h6 h8
            go_wp2
            go_quiet (fail)
            go_wp2
            go_quiet (fail)
            go_wp2
            go_ret
            exact ⟨by rw [HV.out]; rfl, _, by rw [dd, dd]⟩
          · have h8 : ¬ t[k] < s[k] := fun h => h7 (by have := UInt8.lt_iff_toNat_lt.1 h; omega)
            have HV : Hid (ctx s.toList t.toList = ctx (s.toList.drop (k + 1)) (t.toList.drop (k + 1))) := by
              show ctx s.toList t.toList = _
              rw [HD.out, if_neg h6, if_neg h8]
            clear HD h6 h8
            go_wp2
            go_quiet (fail)
            go_wp2
            go_quiet (fail)
            go_wp2
            exact ⟨⟨k + 1, by omega, by omega, by go_num, HV, _, rfl⟩, by simp [intOf]; omega⟩
      · have e4 : k = t.size := by omega
        have HV : Hid (ctx s.toList t.toList = lcp s.size t.size) := by
          show ctx s.toList t.toList = _
          have e5 : t.toList.drop k = [] := List.drop_eq_nil_of_le (by rw [tl_len]; omega)
          rw [HC.out, ctx_len _ _ (Or.inr e5), List.length_drop, List.length_drop, tl_len, tl_len]
          have a1 : ((s.size - k : Nat) : Int) = s.size - k := by omega
          have a2 : ((t.size - k : Nat) : Int) = t.size - k := by omega
          rw [a1, a2]
          unfold lcp
          simp only [Int.sub_lt_sub_right_iff]
        clear HC e4
        go_wp2_with (go_at_call 26; refine (hle _).mono ?_; rintro e w' ⟨rfl, rfl⟩)
        go_ret
        exact ⟨by rw [HV.out]; rfl, _, rfl⟩
    · have HV : Hid (ctx s.toList t.toList = lcp s.size t.size) := by
        show ctx s.toList t.toList = _
        have e5 : s.toList.drop k = [] := List.drop_eq_nil_of_le (by rw [tl_len]; omega)
        rw [HC.out, ctx_len _ _ (Or.inl e5), List.length_drop, List.length_drop, tl_len, tl_len]
        have a1 : ((s.size - k : Nat) : Int) = s.size - k := by omega
        have a2 : ((t.size - k : Nat) : Int) = t.size - k := by omega
        rw [a1, a2]
        unfold lcp
        simp only [Int.sub_lt_sub_right_iff]
      clear HC
      go_wp2_with (go_at_call 26; refine (hle _).mono ?_; rintro e w' ⟨rfl, rfl⟩)
      go_ret
      exact ⟨by rw [HV.out]; rfl, _, rfl⟩
end Go.Proofs.Ythidnmncekfgaaa
