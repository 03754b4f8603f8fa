/- A writer's calls, whatever comes in; what a list of calls writes. -/
import Derived.Test.YthnehebkkfegdaaA7
namespace Go.Proofs.Ythnehebkkfegdaa
open Go.RowKit

/-- a call, as plain data: what it does, its number, its value, its bytes and where they lie -/
structure Ac where
  d : Int
  n : Int
  v : Int
  a : Option Addr
  len : Nat
  cap : Nat
  xs : List Int

def wNum (most : Int) (s : List Int × Int) (v n : Int) : List Int × Int :=
  if s.2 ≠ 0 then s else if ckE v n ≠ 0 then (s.1, ckE v n) else if most - s.1.length < n then (s.1, 2) else (s.1 ++ sto v n.toNat, 0)
def wByt (most : Int) (s : List Int × Int) (xs : List Int) : List Int × Int :=
  if s.2 ≠ 0 then s else if most - s.1.length < xs.length then (s.1, 2) else (s.1 ++ xs, 0)
def wTxt (most : Int) (s : List Int × Int) (xs : List Int) : List Int × Int :=
  if s.2 ≠ 0 then s else if 65535 < xs.length then (s.1, 9) else if most - s.1.length < 2 + xs.length then (s.1, 2) else (s.1 ++ (sto xs.length 2 ++ xs), 0)
def wSt (most : Int) (s : List Int × Int) (A : Ac) : List Int × Int :=
  if A.d = 0 then wNum most s A.v A.n else if A.d = 1 then wByt most s A.xs else wTxt most s A.xs
def wFold (most : Int) (A : Nat → Ac) : Nat → List Int × Int
  | 0 => ([], 0)
  | j + 1 => wSt most (wFold most A j) (A j)

theorem wnum_any (p : Nat) (v : Value) (most x n : Int) (s : List Int × Int) (w : World) (hI : WInv w p v s.1 most s.2) (h0 : 0 ≤ most) (h1 : most ≤ 9223372036854775807) (hl : s.1.length ≤ 100000000) :
    Calls Try.prog 30 #[.pointer (some ⟨p, 0, none⟩), .int .u64 x, .int .i64 n] w fun r w' => r = .returned (.tuple #[]) ∧ ∃ v', WInv w' p v' (wNum most s x n).1 most (wNum most s x n).2 ∧ Chg w w' p v v' := by
  obtain ⟨bs, e⟩ := s
  simp only at hI hl
  by_cases he : e = 0
  · subst he
    by_cases hc : ckE x n = 0
    · obtain ⟨hW, _⟩ := ckE_ok hc
      obtain ⟨m, rfl⟩ : ∃ m : Nat, n = m := ⟨n.toNat, by have := isW_pos hW; omega⟩
      have hm := isW_pos hW
      by_cases hn : most - bs.length < m
      · have e1 : wNum most (bs, 0) x m = (bs, 2) := by simp [wNum, hc, hn]
        rw [e1]
        exact (wnum_full p v bs most x m w hI hc h0 h1 (by omega) hn).mono fun r w' ⟨a, b, c⟩ => ⟨a, v, b, c⟩
      · have e1 : wNum most (bs, 0) x m = (bs ++ sto x m, 0) := by simp [wNum, hc, hn]
        rw [e1]
        exact (wnum_ok p v bs most x m w hI hc h0 h1 (by omega) (by omega)).mono fun r w' ⟨v', a, b, c⟩ => ⟨a, v', b, c⟩
    · have e1 : wNum most (bs, 0) x n = (bs, ckE x n) := by simp [wNum, hc]
      rw [e1]
      exact (wnum_bad p v bs most x n w hI (by simpa using hc)).mono fun r w' ⟨a, b, c⟩ => ⟨a, v, b, c⟩
  · have e1 : wNum most (bs, e) x n = (bs, e) := by simp [wNum, he]
    rw [e1]
    exact (wnum_stop p _ _ e x n w hI.blk (by simpa using he)).mono fun r w' ⟨a, b⟩ => ⟨a, v, by rw [← b]; exact hI, by rw [← b]; exact Chg.refl _ _ _⟩

theorem wbytes_any (p : Nat) (v : Value) (most : Int) (s : List Int × Int) (a : Option Addr) (n c : Nat) (xs : List Int) (w : World) (hI : WInv w p v s.1 most s.2) (R : Row w a n xs) (hlt : ∀ b off, a = some ⟨b, off, none⟩ → 0 < n → b < p) (h0 : 0 ≤ most) (h1 : most ≤ 9223372036854775807) (hl : s.1.length ≤ 100000000) (hn : n ≤ 100000000) :
    Calls Try.prog 31 #[.pointer (some ⟨p, 0, none⟩), .slice a n c] w fun r w' => r = .returned (.tuple #[]) ∧ ∃ v', WInv w' p v' (wByt most s xs).1 most (wByt most s xs).2 ∧ Chg w w' p v v' := by
  obtain ⟨bs, e⟩ := s
  simp only at hI hl
  have hxl := R.len_eq
  by_cases he : e = 0
  · subst he
    by_cases hf : most - bs.length < n
    · have e1 : wByt most (bs, 0) xs = (bs, 2) := by simp [wByt, hxl, hf]
      rw [e1]
      exact (wbytes_full p v bs most a n c w hI h0 h1 (by omega) hf).mono fun r w' ⟨a, b, c⟩ => ⟨a, v, b, c⟩
    · have e1 : wByt most (bs, 0) xs = (bs ++ xs, 0) := by simp [wByt, hxl, hf]
      rw [e1]
      exact (wbytes_ok p v bs most a n c xs w hI R hlt h0 h1 (by omega) (by omega)).mono fun r w' ⟨v', a, b, c⟩ => ⟨a, v', b, c⟩
  · have e1 : wByt most (bs, e) xs = (bs, e) := by simp [wByt, he]
    rw [e1]
    exact (wbytes_stop p _ _ _ e w hI.blk (by simpa using he)).mono fun r w' ⟨a, b⟩ => ⟨a, v, by rw [← b]; exact hI, by rw [← b]; exact Chg.refl _ _ _⟩

theorem wtext_any (p : Nat) (v : Value) (most : Int) (s : List Int × Int) (a : Option Addr) (n c : Nat) (xs : List Int) (w : World) (hI : WInv w p v s.1 most s.2) (R : Row w a n xs) (hlt : ∀ b off, a = some ⟨b, off, none⟩ → 0 < n → b < p) (h0 : 0 ≤ most) (h1 : most ≤ 9223372036854775807) (hl : s.1.length ≤ 100000000) :
    Calls Try.prog 32 #[.pointer (some ⟨p, 0, none⟩), .slice a n c] w fun r w' => r = .returned (.tuple #[]) ∧ ∃ v', WInv w' p v' (wTxt most s xs).1 most (wTxt most s xs).2 ∧ Chg w w' p v v' := by
  obtain ⟨bs, e⟩ := s
  simp only at hI hl
  have hxl := R.len_eq
  by_cases he : e = 0
  · subst he
    by_cases hw : 65535 < n
    · have e1 : wTxt most (bs, 0) xs = (bs, 9) := by simp [wTxt, hxl, hw]
      rw [e1]
      exact (wtext_wide p v bs most a n c w hI (by omega)).mono fun r w' ⟨a, b, c⟩ => ⟨a, v, b, c⟩
    · by_cases hf : most - bs.length < 2 + n
      · have e1 : wTxt most (bs, 0) xs = (bs, 2) := by simp [wTxt, hxl, hf, hw]
        rw [e1]
        exact (wtext_full p v bs most a n c w hI h0 h1 (by omega) (by omega) hf).mono fun r w' ⟨a, b, c⟩ => ⟨a, v, b, c⟩
      · have e1 : wTxt most (bs, 0) xs = (bs ++ (sto n 2 ++ xs), 0) := by simp [wTxt, hxl, hf, hw]
        rw [e1]
        exact (wtext_ok p v bs most a n c xs w hI R hlt h0 h1 (by omega) (by omega) (by omega)).mono fun r w' ⟨v', a, b, c⟩ => ⟨a, v', b, c⟩
  · have e1 : wTxt most (bs, e) xs = (bs, e) := by simp [wTxt, he]
    rw [e1]
    exact (wtext_stop p _ _ _ e w hI.blk (by simpa using he)).mono fun r w' ⟨a, b⟩ => ⟨a, v, by rw [← b]; exact hI, by rw [← b]; exact Chg.refl _ _ _⟩

/-- how much one call adds at most -/
theorem wNum_len (most : Int) (s : List Int × Int) (v n : Int) : (wNum most s v n).1.length ≤ s.1.length + 8 := by
  unfold wNum
  split
  · omega
  · split
    · simp
    · rename_i _ hc
      split
      · simp
      · obtain ⟨hW, _⟩ := ckE_ok (show ckE v n = 0 by omega)
        have := isW_pos hW
        simp [sto_length]; omega
theorem wByt_len (most : Int) (s : List Int × Int) (xs : List Int) : (wByt most s xs).1.length ≤ s.1.length + xs.length := by
  unfold wByt; split <;> (try split) <;> simp
theorem wTxt_len (most : Int) (s : List Int × Int) (xs : List Int) : (wTxt most s xs).1.length ≤ s.1.length + xs.length + 2 := by
  unfold wTxt
  split
  · omega
  · split
    · simp only; omega
    · split
      · simp only; omega
      · simp only [List.length_append, sto_length]; omega
theorem wSt_len (most : Int) (s : List Int × Int) (A : Ac) : (wSt most s A).1.length ≤ s.1.length + A.xs.length + 8 := by
  unfold wSt
  split
  · have := wNum_len most s A.v A.n; omega
  · split
    · have := wByt_len most s A.xs; omega
    · have := wTxt_len most s A.xs; omega
theorem wFold_len (most : Int) (A : Nat → Ac) (K j : Nat) (h : ∀ i, i < j → (A i).xs.length ≤ K) : (wFold most A j).1.length ≤ j * (K + 8) := by
  induction j with
  | zero => simp [wFold]
  | succ j ih =>
    have h1 := ih (fun i hi => h i (by omega))
    have h2 := wSt_len most (wFold most A j) (A j)
    have h3 := h j (by omega)
    rw [wFold, Nat.succ_mul]
    omega

/-- what the i-th call of a list looks like in memory -/
structure ActAt (w : World) (b off i : Nat) (A : Ac) : Prop where
  c0 : w.cell? ⟨b, off + i * 4, none⟩ = some (.int .i64 A.d)
  c1 : w.cell? ⟨b, off + i * 4 + 1, none⟩ = some (.int .i64 A.n)
  c2 : w.cell? ⟨b, off + i * 4 + 2, none⟩ = some (.int .u64 A.v)
  c3 : w.cell? ⟨b, off + i * 4 + 3, none⟩ = some (.slice A.a A.len A.cap)
  row : Row w A.a A.len A.xs
  nil : A.a = none → A.cap = 0
  le : A.len ≤ A.cap
  bd : -9223372036854775808 ≤ A.n ∧ A.n ≤ 9223372036854775807
  bv : 0 ≤ A.v ∧ A.v < 18446744073709551616
structure Acts (w : World) (a : Option Addr) (len : Nat) (A : Nat → Ac) : Prop where
  le : len ≤ maxLen
  at_ : 0 < len → ∃ b off, a = some ⟨b, off, none⟩ ∧ ∀ i, i < len → ActAt w b off i (A i)

theorem ActAt.lt {w : World} {b off i : Nat} {A : Ac} (h : ActAt w b off i A) : b < w.heap.size := cell_lt h.c0
theorem Row.ltw {w : World} {a : Option Addr} {len : Nat} {bs : List Int} (h : Row w a len bs) : ∀ b off, a = some ⟨b, off, none⟩ → 0 < len → b < w.heap.size := by
  intro b off e h0
  obtain ⟨b', off', e', hc⟩ := h.cells h0
  rw [e'] at e
  injection e with e; injection e with e1 e2
  subst e1
  exact cell_lt (hc 0 h0)
theorem ActAt.below {w w' : World} {b off i : Nat} {A : Ac} (h : ActAt w b off i A) (hb : Below w.heap.size w w') : ActAt w' b off i A := by
  have hl := h.lt
  refine ⟨?_, ?_, ?_, ?_, h.row.below hb, h.nil, h.le, h.bd, h.bv⟩
  · rw [hb.cell (p := ⟨b, _, none⟩) hl]; exact h.c0
  · rw [hb.cell (p := ⟨b, _, none⟩) hl]; exact h.c1
  · rw [hb.cell (p := ⟨b, _, none⟩) hl]; exact h.c2
  · rw [hb.cell (p := ⟨b, _, none⟩) hl]; exact h.c3

/-! what was written, told again -/
def enc (A : Ac) : List Int := if A.d = 0 then sto A.v A.n.toNat else if A.d = 1 then A.xs else sto A.xs.length 2 ++ A.xs
theorem wSt_err {most : Int} {s : List Int × Int} {A : Ac} (h : s.2 ≠ 0) : wSt most s A = s := by
  unfold wSt wNum wByt wTxt
  simp [h]
theorem wSt_ok {most : Int} {s : List Int × Int} {A : Ac} (h : (wSt most s A).2 = 0) : s.2 = 0 ∧ (wSt most s A).1 = s.1 ++ enc A ∧ (A.d = 0 → ckE A.v A.n = 0) ∧ (¬ A.d = 0 → ¬ A.d = 1 → A.xs.length ≤ 65535) := by
  by_cases hs : s.2 = 0
  · refine ⟨hs, ?_⟩
    by_cases h0 : A.d = 0
    · have e : wSt most s A = wNum most s A.v A.n := by simp [wSt, h0]
      rw [e] at h ⊢
      by_cases hc : ckE A.v A.n = 0
      · by_cases hf : most - s.1.length < A.n
        · simp [wNum, hs, hc, hf] at h
        · exact ⟨by simp [wNum, hs, hc, hf, enc, h0], fun _ => hc, fun h => absurd h0 h⟩
      · simp [wNum, hs, hc] at h
    · by_cases h1 : A.d = 1
      · have e : wSt most s A = wByt most s A.xs := by simp [wSt, h1]
        rw [e] at h ⊢
        by_cases hf : most - s.1.length < A.xs.length
        · simp [wByt, hs, hf] at h
        · exact ⟨by simp [wByt, hs, hf, enc, h1], fun h => absurd h h0, fun _ h => absurd h1 h⟩
      · have e : wSt most s A = wTxt most s A.xs := by simp [wSt, h0, h1]
        rw [e] at h ⊢
        by_cases hw : 65535 < A.xs.length
        · simp [wTxt, hs, hw] at h
        · by_cases hf : most - s.1.length < 2 + A.xs.length
          · simp [wTxt, hs, hw, hf] at h
          · exact ⟨by simp [wTxt, hs, hw, hf, enc, h0, h1], fun h => absurd h h0, fun _ _ => by omega⟩
  · rw [wSt_err hs] at h; exact absurd h hs
theorem wFold_pre (most : Int) (A : Nat → Ac) (k j : Nat) (hj : j ≤ k) (h : (wFold most A k).2 = 0) : (wFold most A j).2 = 0 ∧ ∃ t, (wFold most A k).1 = (wFold most A j).1 ++ t := by
  induction k with
  | zero => obtain rfl : j = 0 := by omega
            exact ⟨h, [], by simp⟩
  | succ k ih =>
    rcases Nat.lt_or_ge k j with h1 | h1
    · obtain rfl : j = k + 1 := by omega
      exact ⟨h, [], by simp⟩
    · obtain ⟨h2, h3, _⟩ := wSt_ok (s := wFold most A k) (A := A k) h
      obtain ⟨h4, t, h5⟩ := ih h1 h2
      exact ⟨h4, t ++ enc (A k), by rw [wFold, h3, h5, List.append_assoc]⟩
theorem wFold_at (most : Int) (A : Nat → Ac) (k j : Nat) (hj : j < k) (h : (wFold most A k).2 = 0) :
    (wFold most A (j + 1)).1 = (wFold most A j).1 ++ enc (A j) ∧ (∃ t, (wFold most A k).1 = (wFold most A j).1 ++ (enc (A j) ++ t)) ∧ ((A j).d = 0 → ckE (A j).v (A j).n = 0) ∧ (¬ (A j).d = 0 → ¬ (A j).d = 1 → (A j).xs.length ≤ 65535) := by
  obtain ⟨h1, t, h2⟩ := wFold_pre most A k (j + 1) hj h
  obtain ⟨_, h3, h4, h5⟩ := wSt_ok (s := wFold most A j) (A := A j) h1
  exact ⟨h3, ⟨t, by rw [h2, wFold, h3, List.append_assoc]⟩, h4, h5⟩
theorem pre_take {α : Type} (x y z : List α) (l : List α) (h : l = x ++ (y ++ z)) : (l.drop x.length).take y.length = y ∧ x.length + y.length ≤ l.length := by
  subst h
  refine ⟨?_, by simp⟩
  rw [List.drop_append_of_le_length (Nat.le_refl _), List.drop_eq_nil_of_le (Nat.le_refl _), List.nil_append, List.take_append_of_le_length (Nat.le_refl _), List.take_of_length_le (Nat.le_refl _)]

theorem n_mod {n : Int} {m : Nat} (hW : isW m = true) (h0 : 0 ≤ n) (h : n ≤ lg m) : n % 256 ^ m = n := by
  have hm := isW_pos hW
  obtain rfl | rfl | rfl | rfl : m = 1 ∨ m = 2 ∨ m = 4 ∨ m = 8 := by omega
  · have e : lg ((1 : Nat) : Int) = 255 := by decide
    rw [e] at h; omega
  · have e : lg ((2 : Nat) : Int) = 65535 := by decide
    rw [e] at h; omega
  · have e : lg ((4 : Nat) : Int) = 4294967295 := by decide
    rw [e] at h; omega
  · have e : lg ((8 : Nat) : Int) = 18446744073709551615 := by decide
    rw [e] at h; omega
/-- bytes as a text, behind a letter -/
theorem cvt_ex : ∃ cvt : Option Addr → Nat → Nat → World → Result Value, (∀ a l c w, Sem.run Try.prog (convert 22 9 (.slice a l c)) w = cvt a l c w) ∧ ∀ (w : World) (a : Option Addr) (len cap : Nat) (bs : List Int), Row w a len bs → cvt a len cap w = .ok (.string (strOfNums bs)) w :=
  ⟨_, fun _ _ _ _ => rfl, fun _ _ _ cap _ R => conv_row (P := Try.prog) R cap 22 9 Try.underlying22 Try.underlying5 Try.underlying9⟩
theorem Res.row {w w' : World} {v : Value} {t : List Int} (h : Res w w' v t) (hb : Byt t) (hl : t.length ≤ maxLen) : ∃ a, v = .slice a t.length t.length ∧ Row w' a t.length t := by
  rcases h with ⟨rfl, rfl⟩ | ⟨g, rfl, hB, _⟩
  · exact ⟨none, rfl, rfl, Nat.zero_le _, hb, fun h => absurd h (by simp)⟩
  · exact ⟨_, rfl, hB.row hb hl⟩
theorem Row.drew' {w : World} {a : Option Addr} {len : Nat} {bs : List Int} (h : Row w a len bs) : Row w.drew a len bs := h.below ((Below.refl _ _).drew)
end Go.Proofs.Ythnehebkkfegdaa
