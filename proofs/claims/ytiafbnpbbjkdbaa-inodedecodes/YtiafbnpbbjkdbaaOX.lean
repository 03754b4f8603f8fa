/- An inode's fields come from the reader one by one. -/
import Derived.Test.YtiafbnpbbjkdbaaOW
namespace Go.Proofs.Ytiafbnpbbjkdbaa
open Go.RowKit
set_option maxRecDepth 100000
set_option linter.unusedSimpArgs false
set_option linter.unusedVariables false
/-- the number of m bytes, L bytes behind a place -/
def fv15 (bs : List Int) (at_ L m : Nat) : Int := le ((bs.drop (at_ + L)).take m)
/-- where the walk through an inode stands: L bytes were read from at_ on, and E tells what they were; or something is wrong, and then N holds -/
structure Rst (W0 W : World) (q g : Nat) (a : Option Addr) (len cap : Nat) (bs : List Int) (at_ : Nat) (n : Nd) (L : Nat) (E N : Prop) : Prop where
  st : ∃ (p : Nat) (bad : Bool), Bx W q 60 (rdc a len cap p bad) ∧ p ≤ len ∧ (bad = false → p = at_ + L ∧ E) ∧ (bad = true → N)
  bx : Bx W g 24 n.cells
  ch : Ch2 W0 W q g
/-- what does not change -/
structure Rcx (W0 : World) (q g : Nat) (a : Option Addr) (len cap : Nat) (bs : List Int) (at_ : Nat) : Prop where
  row : Row W0 a len bs
  ap : ∀ b' off, a = some ⟨b', off, none⟩ → 0 < len → b' ≠ q ∧ b' ≠ g
  ne : g ≠ q
  cap : len ≤ cap
  le : len ≤ 16777216
theorem in64_wrap (v : Int) : in64 (IntKind.i64.wrap v) := by
  unfold in64
  rw [IntKind.wrap_i64]
  omega
theorem rst_num {W0 W : World} {q g : Nat} {a : Option Addr} {len cap : Nat} {bs : List Int} {at_ : Nat} {n : Nd} {L : Nat} {E N : Prop} (C : Rcx W0 q g a len cap bs at_) (h : Rst W0 W q g a len cap bs at_ n L E N) (k : Nat) (hx : n.cells[k]? = some (.int .i64 0)) (upd : Int → Nd) (hu : ∀ x, n.cells.set k (.int .i64 x) = (upd x).cells) (h0 : upd 0 = n) (m : Nat) (hm : m = 2 ∨ m = 4 ∨ m = 8)
    (hN : E → len < at_ + L + m → N) :
    Calls Try.prog 30 #[.pointer (some ⟨q, 0, none⟩), .pointer (some ⟨g, k, none⟩), .int .i64 m] W fun e W' => e = .returned (.tuple #[]) ∧ ∃ x, in64 x ∧ Rst W0 W' q g a len cap bs at_ (upd x) (L + m) (E ∧ x = IntKind.i64.wrap (fv15 bs at_ L m)) N := by
  obtain ⟨p, bad, hq, hp, h1, h2⟩ := h.st
  refine (rnum15 q g k 24 n.cells a len cap p m bad bs 0 W hq h.bx hx C.ne (h.ch.row C.row C.ap) hp hm).mono ?_
  rintro e W' ⟨rfl, hr⟩
  refine ⟨rfl, ?_⟩
  split at hr
  · rename_i hin
    obtain ⟨k1, k2, k3⟩ := hr
    rw [hu] at k2
    refine ⟨_, in64_wrap _, ⟨p + m, bad, k1, hin, fun e => ?_, h2⟩, k2, h.ch.trans k3⟩
    obtain ⟨e1, e2⟩ := h1 e
    exact ⟨by omega, e2, by rw [e1]; rfl⟩
  · rename_i hin
    obtain ⟨k1, k2, k3⟩ := hr
    rw [← h0] at k2
    refine ⟨0, ⟨by decide, by decide⟩, ⟨p, true, k1, hp, fun e => (by cases e), fun _ => ?_⟩, k2, h.ch.trans k3⟩
    cases bad with
    | true => exact h2 rfl
    | false =>
      obtain ⟨e1, e2⟩ := h1 rfl
      exact hN e2 (by omega)
theorem rst_signed {W0 W : World} {q g : Nat} {a : Option Addr} {len cap : Nat} {bs : List Int} {at_ : Nat} {n : Nd} {L : Nat} {E N : Prop} (C : Rcx W0 q g a len cap bs at_) (h : Rst W0 W q g a len cap bs at_ n L E N) (k : Nat) (hx : n.cells[k]? = some (.int .i64 0)) (upd : Int → Nd) (hu : ∀ x, n.cells.set k (.int .i64 x) = (upd x).cells)
    (hN : E → len < at_ + L + 4 → N) :
    Calls Try.prog 35 #[.pointer (some ⟨g, k, none⟩), .func (.func 30) #[.pointer (some ⟨q, 0, none⟩)] #[]] W fun e W' => e = .returned (.tuple #[]) ∧ ∃ x, in64 x ∧ Rst W0 W' q g a len cap bs at_ (upd x) (L + 4) (E ∧ x = sg15 (fv15 bs at_ L 4)) N := by
  obtain ⟨p, bad, hq, hp, h1, h2⟩ := h.st
  refine (rsigned15 q g k 24 n.cells a len cap p bad bs W hq h.bx hx C.ne (h.ch.row C.row C.ap) hp).mono ?_
  rintro e W' ⟨rfl, hr⟩
  refine ⟨rfl, ?_⟩
  split at hr
  · rename_i hin
    obtain ⟨k1, k2, k3⟩ := hr
    rw [hu] at k2
    refine ⟨_, ?_, ⟨p + 4, bad, k1, hin, fun e => ?_, h2⟩, k2, h.ch.trans k3⟩
    · have := sg15_bd (le ((bs.drop p).take 4))
      exact ⟨by omega, by omega⟩
    · obtain ⟨e1, e2⟩ := h1 e
      exact ⟨by omega, e2, by rw [e1]; rfl⟩
  · rename_i hin
    obtain ⟨k1, k2, k3⟩ := hr
    rw [hu] at k2
    refine ⟨0, ⟨by decide, by decide⟩, ⟨p, true, k1, hp, fun e => (by cases e), fun _ => ?_⟩, k2, h.ch.trans k3⟩
    cases bad with
    | true => exact h2 rfl
    | false =>
      obtain ⟨e1, e2⟩ := h1 rfl
      exact hN e2 (by omega)
/-- what the words became: nothing, or a row of their own in new memory -/
def Wro (W0 W : World) (n : Nd) : Prop := (n.wa = none ∧ n.wl = 0 ∧ n.wc = 0 ∧ n.ws = []) ∨ ∃ d, W0.heap.size ≤ d ∧ n.wa = some ⟨d, 0, none⟩ ∧ n.wc = n.wl ∧ n.ws.length = n.wl ∧ n.wl ≤ 65536 ∧ (∀ x ∈ n.ws, in64 x) ∧ Bx W d 3 (n.ws.map (Value.int .i64))
theorem rst_text {W0 W : World} {q g : Nat} {a : Option Addr} {len cap : Nat} {bs : List Int} {at_ : Nat} {n : Nd} {L : Nat} {E N : Prop} (C : Rcx W0 q g a len cap bs at_) (h : Rst W0 W q g a len cap bs at_ n L E N) (hx : n.cells[16]? = some (.string ⟨#[]⟩)) (upd : ByteArray → Nd) (hu : ∀ x, n.cells.set 16 (.string x) = (upd x).cells) (h0 : upd ⟨#[]⟩ = n)
    (hN : E → len < at_ + L + 2 ∨ len < at_ + L + 2 + (fv15 bs at_ L 2).toNat → N) :
    Calls Try.prog 32 #[.pointer (some ⟨q, 0, none⟩), .pointer (some ⟨g, 16, none⟩)] W fun e W' => e = .returned (.tuple #[]) ∧ ∃ xs, xs.length ≤ 65535 ∧ Byt xs ∧ Rst W0 W' q g a len cap bs at_ (upd (strOfNums xs)) (L + 2 + (fv15 bs at_ L 2).toNat) (E ∧ xs = (bs.drop (at_ + L + 2)).take (fv15 bs at_ L 2).toNat ∧ at_ + L + 2 + (fv15 bs at_ L 2).toNat ≤ len) N := by
  obtain ⟨p, bad, hq, hp, h1, h2⟩ := h.st
  have R := h.ch.row C.row C.ap
  have hb := le2_bd R.byt
  refine (rtext15 q g 16 24 n.cells a len cap p bad bs _ W hq h.bx hx C.ne R (fun b' off e k => (C.ap b' off e k).1) C.cap C.le hp).mono ?_
  rintro e W' ⟨rfl, k3, hr⟩
  refine ⟨rfl, ?_⟩
  unfold TxP15 at hr
  split at hr
  · rename_i hin
    split at hr
    · rename_i hin2
      obtain ⟨k1, k2⟩ := hr
      rw [hu] at k2
      refine ⟨_, by have := hb p; rw [List.length_take]; omega, (R.byt.drop _).take _, ⟨_, bad, k1, hin2, fun e => ?_, h2⟩, k2, h.ch.trans k3⟩
      obtain ⟨e1, e2⟩ := h1 e
      subst e1
      exact ⟨by unfold fv15; omega, e2, rfl, hin2⟩
    · rename_i hin2
      obtain ⟨k1, k2⟩ := hr
      rw [← h0] at k2
      refine ⟨[], by decide, fun x hx => (by cases hx), ⟨p + 2, true, k1, hin, fun e => (by cases e), fun _ => ?_⟩, k2, h.ch.trans k3⟩
      cases bad with
      | true => exact h2 rfl
      | false =>
        obtain ⟨e1, e2⟩ := h1 rfl
        subst e1
        exact hN e2 (Or.inr (by unfold fv15; omega))
  · rename_i hin
    obtain ⟨k1, k2⟩ := hr
    rw [hu] at k2
    refine ⟨[], by decide, fun x hx => (by cases hx), ⟨p, true, k1, hp, fun e => (by cases e), fun _ => ?_⟩, k2, h.ch.trans k3⟩
    cases bad with
    | true => exact h2 rfl
    | false =>
      obtain ⟨e1, e2⟩ := h1 rfl
      exact hN e2 (Or.inl (by omega))
theorem rst_words {W0 W : World} {q g : Nat} {a : Option Addr} {len cap : Nat} {bs : List Int} {at_ : Nat} {n : Nd} {L : Nat} {E N : Prop} (C : Rcx W0 q g a len cap bs at_) (h : Rst W0 W q g a len cap bs at_ n L E N) (hx : n.wa = none ∧ n.wl = 0 ∧ n.wc = 0 ∧ n.ws = [])
    (hN : E → len < at_ + L + 4 ∨ 65536 < (fv15 bs at_ L 4).toNat ∨ len < at_ + L + 4 + 4 * (fv15 bs at_ L 4).toNat → N) :
    Calls Try.prog 31 #[.pointer (some ⟨q, 0, none⟩), .pointer (some ⟨g, 9, none⟩)] W fun e W' => e = .returned (.tuple #[]) ∧ ∃ wa wl wc ws, Wro W0 W' { n with wa := wa, wl := wl, wc := wc, ws := ws } ∧ Rst W0 W' q g a len cap bs at_ { n with wa := wa, wl := wl, wc := wc, ws := ws } (L + 4 + 4 * (fv15 bs at_ L 4).toNat) (E ∧ ws = rdw bs (at_ + L + 4) (fv15 bs at_ L 4).toNat ∧ (fv15 bs at_ L 4).toNat ≤ 65536 ∧ at_ + L + 4 + 4 * (fv15 bs at_ L 4).toNat ≤ len) N := by
  obtain ⟨p, bad, hq, hp, h1, h2⟩ := h.st
  have R := h.ch.row C.row C.ap
  refine (rwords15 q g 9 24 n.cells a len cap p bad bs _ W hq h.bx rfl ⟨_, _, _, rfl⟩ C.ne R C.ap C.cap C.le hp).mono ?_
  rintro e W' ⟨rfl, k3, hr⟩
  refine ⟨rfl, ?_⟩
  have hsz := h.ch.size
  unfold WxP15 at hr
  split at hr
  · rename_i hin
    split at hr
    · rename_i hin2
      obtain ⟨k1, d, hd, k2, k4⟩ := hr
      refine ⟨_, _, _, rdw bs (p + 4) (le ((bs.drop p).take 4)).toNat, Or.inr ⟨d, by omega, rfl, rfl, rdw_len _ _ _, hin2.1, fun x hx => (by
        obtain ⟨i, _, rfl⟩ := List.mem_map.1 hx
        have := le4_bd R.byt (p + 4 + 4 * i) 4 (by decide)
        exact ⟨by omega, by omega⟩), k4⟩, ⟨_, bad, k1, hin2.2, fun e => ?_, h2⟩, k2, h.ch.trans k3⟩
      obtain ⟨e1, e2⟩ := h1 e
      subst e1
      exact ⟨by unfold fv15; omega, e2, rfl, hin2.1, hin2.2⟩
    · rename_i hin2
      obtain ⟨k1, k2⟩ := hr
      refine ⟨none, 0, 0, [], Or.inl ⟨rfl, rfl, rfl, rfl⟩, ⟨p + 4, true, k1, hin, fun e => (by cases e), fun _ => ?_⟩, ?_, h.ch.trans k3⟩
      · cases bad with
        | true => exact h2 rfl
        | false =>
          obtain ⟨e1, e2⟩ := h1 rfl
          subst e1
          refine hN e2 (Or.inr ?_)
          unfold fv15
          omega
      · have e : ({ n with wa := none, wl := 0, wc := 0, ws := [] } : Nd).cells = n.cells := by
          unfold Nd.cells
          simp only [hx.1, hx.2.1, hx.2.2.1]
        rw [e]
        exact k2
  · rename_i hin
    obtain ⟨k1, d, hd, k2, k4⟩ := hr
    refine ⟨_, 0, 0, [], Or.inr ⟨d, by omega, rfl, rfl, rfl, Nat.zero_le _, fun x hx => (by cases hx), k4⟩, ⟨p, true, k1, hp, fun e => (by cases e), fun _ => ?_⟩, k2, h.ch.trans k3⟩
    cases bad with
    | true => exact h2 rfl
    | false =>
      obtain ⟨e1, e2⟩ := h1 rfl
      exact hN e2 (Or.inl (by omega))
end Go.Proofs.Ytiafbnpbbjkdbaa
