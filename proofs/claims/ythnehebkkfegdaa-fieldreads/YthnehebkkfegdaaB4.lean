/- The document's writer, whatever comes in. -/
import Derived.Test.YthnehebkkfegdaaB3
namespace Go.Proofs.Ythnehebkkfegdaa
open Go.RowKit

theorem refwrite_any (ra : Option Addr) (rl rc : Nat) (s : List Int × Int) (most : Int) (A : Ac) (w : World) (Rr : Row w ra rl s.1) (hrn : ra = none → rc = 0) (R : Row w A.a A.len A.xs) (hn : A.a = none → A.cap = 0) (hrl : rl ≤ 100000000) (hll : A.len ≤ 100000000) (hm : most ≤ 9223372036854775807) (h0 : 0 ≤ A.v) (h1 : A.v < 18446744073709551616) :
    Calls Try.prog 29 #[.agg #[.slice ra rl rc, .int .i64 most, .int .i64 s.2], .agg #[.int .i64 A.d, .int .i64 A.n, .int .u64 A.v, .slice A.a A.len A.cap]] w fun r w' =>
      ∃ a' l' c', r = .returned (.agg #[.slice a' l' c', .int .i64 most, .int .i64 (wSt (cut0 most) s A).2]) ∧ Row w' a' l' (wSt (cut0 most) s A).1 ∧ (a' = none → c' = 0) ∧ ((a' = ra ∧ l' = rl) ∨ ∀ b off, a' = some ⟨b, off, none⟩ → w.heap.size ≤ b) ∧ w.grownBy w' none := by
  obtain ⟨bs, e⟩ := s
  obtain ⟨d, n, v, a, len, cap, xs⟩ := A
  simp only at Rr R hn hll h0 h1 ⊢
  have hbl := Rr.len_eq
  have hxl := R.len_eq
  by_cases he : e = 0
  · subst he
    by_cases hd0 : d = 0
    · subst hd0
      have e1 : wSt (cut0 most) (bs, 0) ⟨0, n, v, a, len, cap, xs⟩ = wNum (cut0 most) (bs, 0) v n := by simp [wSt]
      rw [e1]
      by_cases hW : isW n = true
      · obtain ⟨m, rfl⟩ : ∃ m : Nat, n = m := ⟨n.toNat, by have := isW_pos hW; omega⟩
        have hck := ckE_fits hW h0
        by_cases hf : fits v m = true
        · rw [hf] at hck
          have hck' : ckE v m = 0 := hck
          by_cases hr : cut0 most - rl < m
          · have e2 : wNum (cut0 most) (bs, 0) v m = (bs, 2) := by simp [wNum, hck', hbl, hr]
            rw [e2]
            exact (refwrite_nfull ra rl rc most v m a len cap w hW hf h0 h1 hrl hm hr).mono fun r w' ⟨p, q⟩ => ⟨ra, rl, rc, p, Rr.grown q, hrn, Or.inl ⟨rfl, rfl⟩, q⟩
          · have e2 : wNum (cut0 most) (bs, 0) v m = (bs ++ sto v m, 0) := by simp [wNum, hck', hbl, hr]
            rw [e2]
            exact (refwrite_nok ra rl rc bs most v m a len cap w Rr hrn hW hf h0 h1 hrl hm (by omega)).mono fun r w' ⟨a', c', p, q, f, g⟩ => ⟨a', rl + m, c', p, q, f.1, Or.inr f.2, g⟩
        · have hf' : fits v m = false := by simpa using hf
          rw [hf'] at hck
          have hck' : ckE v m = 9 := hck
          have e2 : wNum (cut0 most) (bs, 0) v m = (bs, 9) := by simp [wNum, hck']
          rw [e2]
          exact (refwrite_wide ra rl rc most v m a len cap w hW hf' h0 h1).mono fun r w' ⟨p, q⟩ => ⟨ra, rl, rc, p, Rr.grown q, hrn, Or.inl ⟨rfl, rfl⟩, q⟩
      · have hW' : isW n = false := by simpa using hW
        have hck : ckE v n = 1 := by simp [ckE, hW']
        have e2 : wNum (cut0 most) (bs, 0) v n = (bs, 1) := by simp [wNum, hck]
        rw [e2]
        exact (refwrite_width ra rl rc most n v a len cap w hW').mono fun r w' ⟨p, q⟩ => ⟨ra, rl, rc, p, Rr.grown q, hrn, Or.inl ⟨rfl, rfl⟩, q⟩
    · by_cases hd1 : d = 1
      · subst hd1
        have e1 : wSt (cut0 most) (bs, 0) ⟨1, n, v, a, len, cap, xs⟩ = wByt (cut0 most) (bs, 0) xs := by simp [wSt]
        rw [e1]
        by_cases hr : cut0 most - rl < len
        · have e2 : wByt (cut0 most) (bs, 0) xs = (bs, 2) := by simp [wByt, hbl, hxl, hr]
          rw [e2]
          exact (refwrite_bfull ra rl rc most n v a len cap w hrl hm hr).mono fun r w' ⟨p, q⟩ => ⟨ra, rl, rc, p, Rr.grown q, hrn, Or.inl ⟨rfl, rfl⟩, q⟩
        · have e2 : wByt (cut0 most) (bs, 0) xs = (bs ++ xs, 0) := by simp [wByt, hbl, hxl, hr]
          rw [e2]
          exact (refwrite_bok ra rl rc bs most n v a len cap xs w Rr hrn R hn hrl hll hm (by omega)).mono fun r w' ⟨a', c', p, q, f, g⟩ => ⟨a', rl + len, c', p, q, f.1, Or.inr f.2, g⟩
      · have e1 : wSt (cut0 most) (bs, 0) ⟨d, n, v, a, len, cap, xs⟩ = wTxt (cut0 most) (bs, 0) xs := by simp [wSt, hd0, hd1]
        rw [e1]
        have hd0' : (d == 0) = false := by simpa using hd0
        have hd1' : (d == 1) = false := by simpa using hd1
        by_cases hw : 65535 < len
        · have e2 : wTxt (cut0 most) (bs, 0) xs = (bs, 9) := by simp [wTxt, hxl, hw]
          rw [e2]
          exact (refwrite_long ra rl rc most d n v a len cap w hd0' hd1' (by omega)).mono fun r w' ⟨p, q⟩ => ⟨ra, rl, rc, p, Rr.grown q, hrn, Or.inl ⟨rfl, rfl⟩, q⟩
        · by_cases hr : cut0 most - rl < 2 + len
          · have e2 : wTxt (cut0 most) (bs, 0) xs = (bs, 2) := by simp [wTxt, hbl, hxl, hw, hr]
            rw [e2]
            exact (refwrite_tfull ra rl rc most d n v a len cap xs w R hn hd0' hd1' hrl (by omega) hm hr).mono fun r w' ⟨p, q⟩ => ⟨ra, rl, rc, p, Rr.grown q, hrn, Or.inl ⟨rfl, rfl⟩, q⟩
          · have e2 : wTxt (cut0 most) (bs, 0) xs = (bs ++ (sto len 2 ++ xs), 0) := by simp [wTxt, hbl, hxl, hw, hr]
            rw [e2]
            exact (refwrite_tok ra rl rc bs most d n v a len cap xs w Rr hrn R hn hd0' hd1' hrl (by omega) hm (by omega)).mono fun r w' ⟨a', c', p, q, f, g⟩ => ⟨a', rl + (2 + len), c', p, q, f.1, Or.inr f.2, g⟩
  · have e1 : wSt (cut0 most) (bs, e) ⟨d, n, v, a, len, cap, xs⟩ = (bs, e) := wSt_err he
    rw [e1]
    exact (refwrite_stop ra rl rc most e d n v a len cap w (by simpa using he)).mono fun r w' ⟨p, q⟩ => ⟨ra, rl, rc, p, Rr.grown q, hrn, Or.inl ⟨rfl, rfl⟩, q⟩
end Go.Proofs.Ythnehebkkfegdaa
