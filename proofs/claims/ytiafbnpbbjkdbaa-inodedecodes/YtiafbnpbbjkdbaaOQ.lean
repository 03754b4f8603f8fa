/- Decode. -/
import Derived.Test.YtiafbnpbbjkdbaaOZ
import Derived.Test.YtiafbnpbbjkdbaaOP
namespace Go.Proofs.Ytiafbnpbbjkdbaa
open Go.RowKit
set_option maxRecDepth 100000
set_option linter.unusedSimpArgs false
set_option linter.unusedVariables false
theorem same_chk {n m : Nd} (h : Same15 n m) (h1 : n.ws.length = n.wl) (h2 : m.ws.length = m.wl) : chk15 n = chk15 m := by
  obtain ⟨h_kd, h_md, h_ui, h_gi, h_tm, h_ln, h_at_, h_sz, h_st, h_fr, h_of_, h_tl, h_dr, h_by_, h_pr, h_dv, hws, htg⟩ := h
  cases n
  cases m
  simp only at h_kd h_md h_ui h_gi h_tm h_ln h_at_ h_sz h_st h_fr h_of_ h_tl h_dr h_by_ h_pr h_dv hws htg h1 h2
  subst h_kd h_md h_ui h_gi h_tm h_ln h_at_ h_sz h_st h_fr h_of_ h_tl h_dr h_by_ h_pr h_dv hws htg
  subst h1 h2
  rfl
/-- what the way through the fields comes to -/
def Fin15 (W W' : World) (q g : Nat) (a : Option Addr) (len cap : Nat) (bs : List Int) (at_ : Nat) : Prop :=
  ∃ (n : Nd) (p : Nat) (bad : Bool), Bx W' q 60 (rdc a len cap p bad) ∧ Bx W' g 24 n.cells ∧ Ch2 W W' q g ∧ n.ok W' ∧ n.ws.length = n.wl ∧ p ≤ len ∧ (bad = true → No15 bs at_) ∧
    (bad = false → (chk15 n = 0 → enb15 n = (bs.drop at_).take (p - at_) ∧ at_ ≤ p) ∧ (∀ n0, Pre15 bs at_ n0 → Same15 n n0))
theorem irow_nil (W : World) : IRow W none 0 [] := ⟨rfl, Nat.zero_le _, fun x hx => (by cases hx), fun h => absurd h (by decide)⟩
theorem irow_bx {W : World} {d : Nat} {ws : List Int} (h : Bx W d 3 (ws.map (Value.int .i64))) (hw : ∀ x ∈ ws, in64 x) (hl : ws.length ≤ 65536) : IRow W (some ⟨d, 0, none⟩) ws.length ws := by
  refine ⟨rfl, by unfold maxLen; omega, hw, fun _ => ⟨d, 0, rfl, fun i hi => ?_⟩⟩
  rw [Nat.zero_add, h.c i, List.getElem?_map, List.getElem?_eq_getElem hi]
  simp [List.getD_eq_getElem?_getD, List.getElem?_eq_getElem hi]
theorem in64_0 : in64 0 := ⟨by decide, by decide⟩
theorem in64_1 : in64 1 := ⟨by decide, by decide⟩
theorem in64_2 : in64 2 := ⟨by decide, by decide⟩
theorem in64_3 : in64 3 := ⟨by decide, by decide⟩
theorem in64_4 : in64 4 := ⟨by decide, by decide⟩
theorem in64_5 : in64 5 := ⟨by decide, by decide⟩
theorem fin_1 {W W' : World} {q g : Nat} {a : Option Addr} {len cap : Nat} {bs : List Int} {at_ : Nat} (hb : Byt bs) (hl : bs.length = len) (h : RtP1 W W' q g a len cap bs at_) : Fin15 W W' q g a len cap bs at_ := by
  obtain ⟨x1, x2, x3, x4, x5, x6, x7, x8, x9, x10, x11, wa, wl, wc, ws, i1, i2, i3, i4, i5, i6, i7, i8, i9, i10, i11, hW, R⟩ := h
  obtain ⟨⟨p, bad, r1, r2, r3, r4⟩, rb, rc⟩ := R
  obtain ⟨hrow, hcap, hlen⟩ : IRow W' wa wl ws ∧ (wl ≤ wc ∧ wc ≤ maxLen) ∧ ws.length = wl := by
    rcases hW with ⟨h1, h2, h3, h4⟩ | ⟨d, h0, h1, h2, h3, h4, h5, h6⟩
    · simp only at h1 h2 h3 h4
      subst h1 h2 h3 h4
      exact ⟨irow_nil _, ⟨Nat.le_refl _, Nat.zero_le _⟩, rfl⟩
    · simp only at h1 h2 h3 h4 h5 h6
      subst h1 h2 h3
      exact ⟨irow_bx h6 h5 h4, ⟨Nat.le_refl _, by unfold maxLen; omega⟩, rfl⟩
  refine ⟨_, p, bad, r1, rb, rc, ⟨⟨in64_1, i1, i2, i3, i4, i5, i6, i7, i8, i9, i10, i11, in64_0, in64_0, in64_0, in64_0⟩, hrow, hcap, Nat.zero_le _⟩, hlen, r2, r4, fun hbad => ?_⟩
  obtain ⟨hp, e⟩ := r3 hbad
  have hw3 := e.2.2.2
  have hp2 : p = at_ + (44 + 4 + 4 * (fv15 bs at_ 44 4).toNat) := hp
  refine ⟨fun hc => ?_, fun n0 h0 => same_1 (len := len) h0 e⟩
  have hr := (chk_rt hc).k1 rfl
  rw [read_1 hb hl hlen hr.1.1 (by have h9 : at_ + 44 + 4 + 4 * (fv15 bs at_ 44 4).toNat ≤ len := hw3; omega) e, hp2]
  exact ⟨by congr 1; omega, by omega⟩
theorem fin_2 {W W' : World} {q g : Nat} {a : Option Addr} {len cap : Nat} {bs : List Int} {at_ : Nat} (hb : Byt bs) (hl : bs.length = len) (h : RtP2 W W' q g a len cap bs at_) : Fin15 W W' q g a len cap bs at_ := by
  obtain ⟨x1, x2, x3, x4, x5, x6, x7, x8, x9, i1, i2, i3, i4, i5, i6, i7, i8, i9, R⟩ := h
  obtain ⟨⟨p, bad, r1, r2, r3, r4⟩, rb, rc⟩ := R
  refine ⟨_, p, bad, r1, rb, rc, ⟨⟨in64_2, i1, i2, i3, i4, i5, i6, in64_0, in64_0, in64_0, in64_0, in64_0, i7, i8, i9, in64_0⟩, irow_nil _, ⟨Nat.le_refl _, Nat.zero_le _⟩, Nat.zero_le _⟩, rfl, r2, r4, fun hbad => ?_⟩
  obtain ⟨hp, e⟩ := r3 hbad
  have hp2 : p = at_ + 32 := hp
  refine ⟨fun hc => ?_, fun n0 h0 => same_2 (len := len) h0 e⟩
  rw [read_2 hb hl (by omega) e, hp2]
  exact ⟨by congr 1; omega, by omega⟩
theorem fin_3 {W W' : World} {q g : Nat} {a : Option Addr} {len cap : Nat} {bs : List Int} {at_ : Nat} (hb : Byt bs) (hl : bs.length = len) (h : RtP3 W W' q g a len cap bs at_) : Fin15 W W' q g a len cap bs at_ := by
  obtain ⟨x1, x2, x3, x4, x5, x6, xs, i1, i2, i3, i4, i5, i6, ⟨hX1, hX2⟩, R⟩ := h
  obtain ⟨⟨p, bad, r1, r2, r3, r4⟩, rb, rc⟩ := R
  refine ⟨_, p, bad, r1, rb, rc, ⟨⟨in64_3, i1, i2, i3, i4, i5, i6, in64_0, in64_0, in64_0, in64_0, in64_0, in64_0, in64_0, in64_0, in64_0⟩, irow_nil _, ⟨Nat.le_refl _, Nat.zero_le _⟩, (by rw [str_size]; unfold maxLen; omega)⟩, rfl, r2, r4, fun hbad => ?_⟩
  obtain ⟨hp, e⟩ := r3 hbad
  have hw3 := e.2.2
  have hp2 : p = at_ + (20 + 2 + (fv15 bs at_ 20 2).toNat) := hp
  refine ⟨fun hc => ?_, fun n0 h0 => same_3 (len := len) h0 hX2 e⟩
  rw [read_3 hb hl hX2 (by have h9 : at_ + 20 + 2 + (fv15 bs at_ 20 2).toNat ≤ len := hw3; omega) e, hp2]
  exact ⟨by congr 1; omega, by omega⟩
theorem fin_4 {W W' : World} {q g : Nat} {a : Option Addr} {len cap : Nat} {bs : List Int} {at_ : Nat} (hb : Byt bs) (hl : bs.length = len) (h : RtP4 W W' q g a len cap bs at_) : Fin15 W W' q g a len cap bs at_ := by
  obtain ⟨x1, x2, x3, x4, x5, x6, x7, i1, i2, i3, i4, i5, i6, i7, R⟩ := h
  obtain ⟨⟨p, bad, r1, r2, r3, r4⟩, rb, rc⟩ := R
  refine ⟨_, p, bad, r1, rb, rc, ⟨⟨in64_4, i1, i2, i3, i4, i5, i6, in64_0, in64_0, in64_0, in64_0, in64_0, in64_0, in64_0, in64_0, i7⟩, irow_nil _, ⟨Nat.le_refl _, Nat.zero_le _⟩, Nat.zero_le _⟩, rfl, r2, r4, fun hbad => ?_⟩
  obtain ⟨hp, e⟩ := r3 hbad
  have hp2 : p = at_ + 24 := hp
  refine ⟨fun hc => ?_, fun n0 h0 => same_4 (len := len) h0 e⟩
  rw [read_4 hb hl (by omega) e, hp2]
  exact ⟨by congr 1; omega, by omega⟩
theorem fin_5 {W W' : World} {q g : Nat} {a : Option Addr} {len cap : Nat} {bs : List Int} {at_ : Nat} (hb : Byt bs) (hl : bs.length = len) (h : RtP5 W W' q g a len cap bs at_) : Fin15 W W' q g a len cap bs at_ := by
  obtain ⟨x1, x2, x3, x4, x5, x6, x7, i1, i2, i3, i4, i5, i6, i7, R⟩ := h
  obtain ⟨⟨p, bad, r1, r2, r3, r4⟩, rb, rc⟩ := R
  refine ⟨_, p, bad, r1, rb, rc, ⟨⟨in64_5, i1, i2, i3, i4, i5, i6, in64_0, in64_0, in64_0, in64_0, in64_0, in64_0, in64_0, in64_0, i7⟩, irow_nil _, ⟨Nat.le_refl _, Nat.zero_le _⟩, Nat.zero_le _⟩, rfl, r2, r4, fun hbad => ?_⟩
  obtain ⟨hp, e⟩ := r3 hbad
  have hp2 : p = at_ + 24 := hp
  refine ⟨fun hc => ?_, fun n0 h0 => same_5 (len := len) h0 e⟩
  rw [read_5 hb hl (by omega) e, hp2]
  exact ⟨by congr 1; omega, by omega⟩
theorem fin_0 {W W' : World} {q g : Nat} {a : Option Addr} {len cap : Nat} {bs : List Int} {at_ : Nat} (hb : Byt bs) (hl : bs.length = len) (h : RtP0 W W' q g a len cap bs at_) : Fin15 W W' q g a len cap bs at_ := by
  obtain ⟨x0, x1, x2, x3, x4, x5, x6, i0, i1, i2, i3, i4, i5, i6, hk, R⟩ := h
  obtain ⟨⟨p, bad, r1, r2, r3, r4⟩, rb, rc⟩ := R
  refine ⟨_, p, bad, r1, rb, rc, ⟨⟨i0, i1, i2, i3, i4, i5, i6, in64_0, in64_0, in64_0, in64_0, in64_0, in64_0, in64_0, in64_0, in64_0⟩, irow_nil _, ⟨Nat.le_refl _, Nat.zero_le _⟩, Nat.zero_le _⟩, rfl, r2, r4, fun hbad => ?_⟩
  obtain ⟨hp, e⟩ := r3 hbad
  refine ⟨fun hc => ?_, fun n0 h0 => ?_⟩
  · have := (chk_rt hc).kd
    simp only at this
    omega
  · have h1 := pre_kd h0
    have h2 := h0.1.1.kd
    have h3 : x0 = IntKind.i64.wrap (fv15 bs at_ 0 2) := e.1.1.1.1.1.1.2
    omega
theorem fin_any {W W' : World} {q g : Nat} {a : Option Addr} {len cap : Nat} {bs : List Int} {at_ : Nat} (hb : Byt bs) (hl : bs.length = len) (h : RtP W W' q g a len cap bs at_) : Fin15 W W' q g a len cap bs at_ := by
  rcases h with h | h | h | h | h | h
  · exact fin_1 hb hl h
  · exact fin_2 hb hl h
  · exact fin_3 hb hl h
  · exact fin_4 hb hl h
  · exact fin_5 hb hl h
  · exact fin_0 hb hl h
end Go.Proofs.Ytiafbnpbbjkdbaa
