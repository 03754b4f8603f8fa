/- The document's Right, where it says yes; its Unpack. -/
import Derived.Test.YteghhmnkdmehbaaBA
import Derived.Test.YteghhmnkdmehbaaRG
import Derived.Test.YteghhmnkdmehbaaLB
namespace Go.Proofs.Yteghhmnkdmehbaa
open Go.RowKit
set_option linter.unusedSimpArgs false
set_option linter.unusedVariables false

/-- how a block must end: the last two sequences -/
def Ends (qs : List Sq) : Prop := qs.length = 1 ∨ ∃ pre p l, qs = pre ++ [p, l] ∧ 5 ≤ l.1.length ∧ 12 ≤ (l.1.length : Int) + p.2.2
/-- may these be a text's sequences? -/
structure Enc (bs : List Int) (qs : List Sq) : Prop where
  ne : qs ≠ []
  ok : Jok qs 0
  un : unp qs [] = bs
  ends : Ends qs
theorem Enc.le {bs : List Int} {qs : List Sq} (h : Enc bs qs) (hl : bs.length ≤ 1048576) : ((jcat qs).length : Int) ≤ bnd bs.length := by
  have := jcat_bnd h.ne h.ok (by rw [h.un]; exact hl)
  rwa [h.un] at this
theorem Enc.dec {bs : List Int} {qs : List Sq} (h : Enc bs qs) (hb : Byt (jcat qs)) : dec (jcat qs) bs.length ((jcat qs).length + 1) [] [] 0 = (bs, qs, 0, ((jcat qs).length : Int)) := by
  have h1 := dec_of_join qs h.ne h.ok 1048576 (Int.le_refl _)
  have h2 := dec_again hb (M := 1048576) (f := (jcat qs).length + 1) (by rw [h1]) (by omega)
  rw [h1, h.un] at h2
  exact h2

theorem jok_mid {pre : List Sq} {p l : Sq} {size : Int} (h0 : 0 ≤ size) (h : Jok (pre ++ [p, l]) size) : p.2.2 ≤ 1048576 ∧ 0 ≤ p.2.2 := by
  induction pre generalizing size with
  | nil => have := jerr_more h.1; omega
  | cons q r ih =>
    obtain ⟨h1, h2⟩ := h
    have e : (r ++ [p, l]).isEmpty = false := by cases r <;> rfl
    change jerr (r ++ [p, l]).isEmpty size q = 0 at h1
    rw [e] at h1
    have := jerr_more h1
    exact ih (by omega) h2
theorem jok_end {pre : List Sq} {p l : Sq} {size : Int} (h0 : 0 ≤ size) (h : Jok (pre ++ [p, l]) size) : l.1.length ≤ 1048576 := by
  induction pre generalizing size with
  | nil => have h1 := jerr_more h.1; have := jerr_last h.2.1; omega
  | cons q r ih =>
    obtain ⟨h1, h2⟩ := h
    have e : (r ++ [p, l]).isEmpty = false := by cases r <;> rfl
    change jerr (r ++ [p, l]).isEmpty size q = 0 at h1
    rw [e] at h1
    have := jerr_more h1
    exact ih (by omega) h2
theorem tol_lin {n : Int} (h : 0 ≤ n) : ((tol n).length : Int) ≤ n := by
  by_cases h1 : n < 15
  · rw [tol_none h1]; omega
  · rw [tol_big (by omega)]; omega
set_option maxHeartbeats 2000000 in
theorem right_any (a : Option Addr) (len cap : Nat) (bs : List Int) (a1 : Option Addr) (len1 cap1 : Nat) (qs : List Sq) (w : World) (B : Byte w a len cap bs) (C : Byte w a1 len1 cap1 (jcat qs)) (E : Enc bs qs) (hl : len ≤ 1048576) :
    Calls Try.prog 11 #[.slice a len cap, .slice a1 len1 cap1] w fun e w' => e = .returned (.bool true) ∧ w.grownBy w' none := by
  have hlb := B.row.len_eq
  have hlc := C.row.len_eq
  have hle := E.le (by omega)
  have hbn : bnd bs.length ≤ 2097153 := by
    unfold bnd
    split
    · omega
    · have := tol_lin (n := bs.length) (by omega)
      omega
  have hde := E.dec C.row.byt
  rw [hlb] at hde hle hbn
  rw [hlc] at hde hle
  have hd := decode_any a1 len1 cap1 (jcat qs) len w C.row (by omega) C.nc C.cm (by omega)
  rw [hde] at hd
  have hbd := bound_any len
  generalize bnd (len : Int) = bn at hle hbn hbd
  have hcl : len1 ≤ 2097153 := by omega
  have HB : Hid _ := And.intro B (And.intro C E)
  clear B C hde hlc
  go_enter Try.func11, Try.ntmps11
  go_wp2_with fail
  refine hd.mono ?_
  intro e w1 k1
  obtain ⟨vo, vl, ss, rfl, S⟩ := k1
  simp only at S
  obtain ⟨a3, c3, rfl, B3⟩ := byte_own (n := bs.length) (bs := bs) S.oo HB.out.1.row.byt (by unfold maxLen; omega)
  rw [hlb] at B3
  have cx := conv_row (P := Try.prog) B3.row c3 22 9 Try.underlying22 Try.underlying5 Try.underlying9
  have cy := conv_row (P := Try.prog) (HB.out.1.row.grown S.g) cap 22 9 Try.underlying22 Try.underlying5 Try.underlying9
  generalize strOfNums bs = sx at cx cy
  have hsl := S.s.len
  have hql : qs.length ≤ 2097153 := by
    have h1 := jcat_len qs
    have h2 := HB.out.2.1.row.len_eq
    omega
  obtain ⟨a4, c4, rfl, R4⟩ := owns_srow S.ol (by unfold maxLen; omega)
  have HS : Hid _ := And.intro S.g (And.intro R4 S.s)
  clear S B3 hd R4
  rw [hlb]
  generalize hss : ss.length = n at *
  simp only
  rcases HB.out.2.2.ends with h1 | ⟨pre, p, l, hq, h5, h12⟩
  · have hn1 : n = 1 := by omega
    subst hn1
    have HG : Hid _ := HS.out.1
    clear HS HB hsl hss hlb E
    go_wp2_with (first | (go_at_call 13; refine (hbd _ (by omega)).mono ?_; rintro e w' ⟨rfl, rfl⟩))
    go_ret
    exact ⟨rfl, HG.out⟩
  · have hn : n = pre.length + 2 := by rw [hsl, hq]; simp
    obtain ⟨s1, q1, i1, j1, ok1⟩ := HS.out.2.2.get (pre.length + 1) (by omega)
    obtain ⟨s2, q2, i2, j2, ok2⟩ := HS.out.2.2.get pre.length (by omega)
    obtain ⟨b4, o4, rfl, hc4⟩ := HS.out.2.1.cells (by omega)
    obtain ⟨x0, _, _⟩ := hc4 _ _ i1
    obtain ⟨_, _, y2⟩ := hc4 _ _ i2
    have eq1 : q1 = l := by rw [hq] at j1; simpa using j1.symm
    have eq2 : q2 = p := by rw [hq] at j2; simpa using j2.symm
    have hm2 : s2.m = p.2.2 := by rw [ok2.m, eq2]
    have hl1 : l.1.length = s1.n := by rw [← eq1]; exact ok1.row.len_eq
    have hsm : s1.n ≤ 9223372036854775807 := ok1.row.le
    rw [hm2] at y2
    have hsn : 5 ≤ s1.n := by omega
    have hp2 : 12 ≤ (s1.n : Int) + p.2.2 := by omega
    have hp3 : p.2.2 ≤ 1048576 ∧ 0 ≤ p.2.2 := by
      have h1 := HB.out.2.2.ok
      rw [hq] at h1
      exact jok_mid (Int.le_refl 0) h1
    have hs1 : s1.n ≤ 1048576 := by
      have h1 := HB.out.2.2.ok
      rw [hq] at h1
      have := jok_end (Int.le_refl 0) h1
      omega
    generalize p.2.2 = pm at y2 hp2 hp3
    obtain ⟨sa, sn, sc, so, sm⟩ := s1
    simp only at x0 hsn hp2 hs1
    have hkb : pre.length ≤ 2097153 := by omega
    have HG : Hid _ := HS.out.1
    clear hm2 hl1 hsm eq1 eq2 ok1 ok2 i1 i2 j1 j2 hc4 HS HB hsl hss hlb E h5 h12 hq
    subst hn
    generalize pre.length = k at *
    go_wp2_with (first | (go_at_call 13; refine (hbd _ (by omega)).mono ?_; rintro e w' ⟨rfl, rfl⟩))
    go_ret
    exact ⟨rfl, HG.out⟩
/-- Unpack, as a plain function -/
def unpk (bs : List Int) (packed : Bool) (most : Int) : List Int × Int :=
  if most < 0 ∨ 1048576 < most then ([], 1) else if packed then ((dec bs most (bs.length + 1) [] [] 0).1, (dec bs most (bs.length + 1) [] [] 0).2.2.1) else if most < bs.length then ([], 2) else (bs, 0)
def UPost (w : World) (r : List Int × Int) (e : Ending) (w' : World) : Prop := ∃ a n c, e = .returned (.tuple #[.slice a n c, .int .i64 r.2]) ∧ Byte w' a n c r.1 ∧ w.grownBy w' none
theorem upost_none {w w' : World} {er : Int} (h : w.grownBy w' none) : UPost w ([], er) (.returned (.tuple #[.slice none 0 0, .int .i64 er])) w' :=
  ⟨none, 0, 0, rfl, ⟨Row.none0 _, fun _ => rfl, Nat.le_refl _, Nat.zero_le _⟩, h⟩
set_option maxHeartbeats 1000000 in
theorem runpack_any (a : Option Addr) (len cap : Nat) (bs : List Int) (packed : Bool) (most : Int) (w : World) (B : Byte w a len cap bs) (hl : len ≤ 16777216) (hm : -9223372036854775808 ≤ most ∧ most ≤ 9223372036854775807) :
    Calls Try.prog 18 #[.slice a len cap, .bool packed, .int .i64 most] w (UPost w (unpk bs packed most)) := by
  have hlb := B.row.len_eq
  by_cases h0 : most < 0 ∨ 1048576 < most
  · have e : unpk bs packed most = ([], 1) := by unfold unpk; rw [if_pos h0]
    rw [e]
    rcases h0 with h0 | h0
    all_goals
      go_enter Try.func18, Try.ntmps18
      go_wp2
      go_ret2
      exact upost_none (World.grownBy.refl _ _)
  · cases packed with
    | true =>
      have e : unpk bs true most = ((dec bs most (len + 1) [] [] 0).1, (dec bs most (len + 1) [] [] 0).2.2.1) := by unfold unpk; rw [if_neg h0, if_pos rfl, hlb]
      rw [e]
      have hd := decode_any a len cap bs most w B.row hl B.nc B.cm (by omega)
      have hkp := dec_keeps bs most (len + 1) [] [] 0 (by omega)
      have hby := dec_byt bs B.row.byt most (len + 1) [] [] 0 (fun x hx => by simp at hx)
      generalize dec bs most (len + 1) [] [] 0 = r at hd hkp hby ⊢
      obtain ⟨ro, rs, re, rp⟩ := r
      simp only at hkp hby ⊢
      clear e B hlb
      go_enter Try.func18, Try.ntmps18
      go_wp2_with fail
      refine hd.mono ?_
      intro e w1 k1
      obtain ⟨vo, vl, ss, rfl, S⟩ := k1
      simp only at S
      obtain ⟨a3, c3, rfl, B3⟩ := byte_own (n := ro.length) (bs := ro) S.oo hby (by unfold maxLen; omega)
      have HS : Hid _ := And.intro B3 S.g
      clear S B3 hd
      simp only
      go_wp2
      go_ret2
      exact ⟨_, _, _, rfl, HS.out.1, HS.out.2⟩
    | false =>
      by_cases h1 : most < len
      · have e : unpk bs false most = ([], 2) := by unfold unpk; rw [if_neg h0, if_neg (by decide), if_pos (by rw [hlb]; exact h1)]
        rw [e]
        clear hlb
        go_enter Try.func18, Try.ntmps18
        go_wp2
        go_ret2
        exact upost_none (World.grownBy.refl _ _)
      · have e : unpk bs false most = (bs, 0) := by unfold unpk; rw [if_neg h0, if_neg (by decide), if_neg (by rw [hlb]; exact h1)]
        rw [e]
        have HB : Hid _ := B
        clear hlb B
        go_enter Try.func18, Try.ntmps18
        go_wp2
        go_ret2
        exact ⟨_, _, _, rfl, HB.out, World.grownBy.refl _ _⟩
end Go.Proofs.Yteghhmnkdmehbaa
