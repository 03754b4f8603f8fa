/- The program's Join. -/
import Derived.Test.YteghhmnkdmehbaaPH
namespace Go.Proofs.Yteghhmnkdmehbaa
open Go.RowKit
set_option linter.unusedSimpArgs false
set_option linter.unusedVariables false

theorem tol_le2 {n : Int} (h : n ≤ 1048576) : (tol n).length ≤ 4200 := by
  unfold tol
  split
  · simp
  · simp; omega
theorem jbytes_le {l : Bool} {q : Sq} (h1 : q.1.length ≤ 1048576) (h2 : q.2.2 ≤ 1048576) : (jbytes l q).length ≤ 2097152 := by
  have t1 := tol_le2 (n := q.1.length) (by omega)
  have t2 := tol_le2 (n := q.2.2 - 4) (by omega)
  unfold jbytes
  split
  · simp; omega
  · simp; omega
theorem lay_any (w W : World) (v : Value) (bts : List Int) (s : SqV) (q : Sq) (l : Bool) (size : Int) (J : Jn w W v bts) (S : SqOk w s q) (h0 : 0 ≤ size) (he : jerr l size q = 0) (hb : bts.length ≤ 549755813888) :
    Calls Try.prog 28 #[v, .agg #[.slice s.a s.n s.c, .int .i64 s.off, .int .i64 s.m]] W fun e W' => ∃ v', e = .returned v' ∧ Jn w W' v' (bts ++ jbytes l q) := by

  cases l with
  | true =>
    obtain ⟨h1, h2, h3⟩ := jerr_last he
    exact lay_last w W v bts s q J S (by omega) h1 h2 hb
  | false =>
    obtain ⟨h1, h2, h3, h4, h5⟩ := jerr_more he
    exact lay_more w W v bts s q J S (by omega) ⟨h1, h2⟩ (by omega) hb
theorem jerr_facts {l : Bool} {size : Int} {q : Sq} (h0 : 0 ≤ size) (he : jerr l size q = 0) : (q.1.length ≤ 1048576 ∧ 0 ≤ q.2.2 ∧ q.2.2 ≤ 1048576) ∧ 0 ≤ size + q.1.length + q.2.2 := by
  cases l with
  | true => have := jerr_last he; omega
  | false => have := jerr_more he; omega
def PJoin (w : World) (r : List Int × Int) (e : Ending) (w' : World) : Prop :=
  ∃ a n c, e = .returned (.tuple #[.slice a n c, .int .i64 r.2]) ∧ Byte w' a n c r.1 ∧ w.grownBy w' none

set_option maxHeartbeats 2000000 in
theorem pjoin_any (a : Option Addr) (len cap : Nat) (ss : List SqV) (qs : List Sq) (w : World) (M : SMod w a len ss qs) (hle : len ≤ 65536) :
    Calls Try.prog 20 #[.slice a len cap] w (PJoin w (join qs)) := by
  have hc := check_any a len cap ss qs w M
  have hsl := M.arg.row.len_eq
  have hql := M.arg.sqs.len
  have hsp : (join qs = (jcat qs, 0) ∧ Jok qs 0) ∨ ((join qs).2 ≠ 0 ∧ (join qs).1 = []) := by
    unfold join
    split
    · right; exact ⟨by decide, rfl⟩
    · simpa using jon_split qs 0 []
  rcases hsp with ⟨ej, hok⟩ | ⟨ej, en⟩
  · rw [ej] at hc ⊢
    simp only at hc
    have HM : Hid _ := M
    have HK : Hid _ := hok
    have HQ : Hid (qs.length = len) := by show qs.length = len; omega
    clear M hok hsl hql ej
    go_enter Try.func20, Try.ntmps20
    go_wp2_with fail
    refine hc.mono ?_
    rintro e w1 ⟨rfl, g1⟩
    have HG : Hid _ := g1
    clear hc g1
    simp only
    go_wp2_with fail
    go_loopw [5, 15] (fun v vi wr => ∃ (j : Nat) (P : List Int) (size : Int), vi = .int .i64 j ∧ j ≤ len ∧ P.length ≤ j * 2097152 ∧ 0 ≤ size ∧ Hid (Jn w wr v P) ∧ Hid (P ++ jcat (qs.drop j) = jcat qs ∧ Jok (qs.drop j) size)) (fun _ vi _ => len - (intOf vi).toNat)
    case atStart => exact ⟨0, [], 0, rfl, Nat.zero_le _, by simp, by omega, ⟨World.ownsRow_nil _ _ _ _, HG.out, fun x hx => by simp at hx⟩, rfl, HK.out⟩
    case round =>
      clear HK HG
      obtain ⟨j, P, size, rfl, hj, hP, hs0, HJ, HE⟩ := hrel
      by_cases k1 : j < len
      · obtain ⟨s, q, hs, hq, ok⟩ := HM.out.arg.sqs.get j (by rw [HM.out.arg.row.len_eq]; exact k1)
        obtain ⟨ba, oa, rfl, ha⟩ := (HM.out.arg.row.grown HJ.out.g).cells (by omega)
        obtain ⟨x0, x1, x2⟩ := ha j s hs
        have hd := drop_at hq
        obtain ⟨hE, hK⟩ := HE.out
        rw [hd] at hE hK
        obtain ⟨k2, k3⟩ := hK
        have hfa := jerr_facts hs0 k2
        have hjl := jbytes_le (l := (qs.drop (j + 1)).isEmpty) hfa.1.1 hfa.1.2.2
        have G0 := World.grownBy_alloc wr (.cells #[.slice s.a s.n s.c, .int .i64 s.off, .int .i64 s.m] 51) none
        have hla := lay_any w (wr.alloc (.cells #[.slice s.a s.n s.c, .int .i64 s.off, .int .i64 s.m] 51)) u5 P s q _ size (HJ.out.keep G0) ok hs0 k2 (by omega)
        have HE2 : Hid (P ++ jbytes (qs.drop (j + 1)).isEmpty q ++ jcat (qs.drop (j + 1)) = jcat qs ∧ Jok (qs.drop (j + 1)) (size + q.1.length + q.2.2)) := ⟨by rw [List.append_assoc]; exact hE, k3⟩
        have hs1 : 0 ≤ size + q.1.length + q.2.2 := hfa.2
        have hP1 : (P ++ jbytes (qs.drop (j + 1)).isEmpty q).length ≤ (j + 1) * 2097152 := by rw [List.length_append]; omega
        generalize P ++ jbytes (qs.drop (j + 1)).isEmpty q = P1 at hla HE2 hP1
        generalize size + q.1.length + q.2.2 = size1 at HE2 hs1
        obtain ⟨sa, n, sc, so, sm⟩ := s
        simp only at x0 x1 x2 hla
        clear hE k2 k3 hd hfa hjl HE ok hs hq ha G0
        go_wp2_with fail
        refine hla.mono ?_
        rintro e w2 ⟨v2, rfl, J2⟩
        have HJ2 : Hid _ := J2
        clear hla J2 HJ x0 x1 x2
        simp only
        go_wp2
        go_roundw
        case rel => exact ⟨j + 1, P1, size1, by go_num, by omega, hP1, hs1, HJ2, HE2⟩
        case measure => simp [intOf]; omega
      · obtain rfl : j = len := by omega
        have hE := HE.out.1
        rw [List.drop_eq_nil_of_le (by rw [HQ.out]; exact Nat.le_refl _)] at hE
        obtain ⟨a1, c1, rfl, B1⟩ := byte_own HJ.out.own HJ.out.byt (by unfold maxLen; omega)
        have HB : Hid _ := And.intro B1 HJ.out.g
        have hF : P = jcat qs := by rw [← hE]; simp [jcat]
        have HF : Hid (P = jcat qs) := hF
        clear hF
        clear hE HE B1 HJ HM
        go_wp2
        go_ret2
        rw [← HF.out]
        exact ⟨_, _, _, rfl, HB.out.1, HB.out.2⟩
  · generalize join qs = r at *
    obtain ⟨ro, re⟩ := r
    simp only at ej en hc
    subst en
    have hne : (re == 0) = false := by simp [ej]
    clear M hsl hql
    go_enter Try.func20, Try.ntmps20
    go_wp2_with fail
    refine hc.mono ?_
    rintro e w1 ⟨rfl, g1⟩
    have HG : Hid _ := g1
    clear hc g1
    simp only
    go_wp2
    go_ret2
    exact ⟨none, 0, 0, rfl, ⟨Row.none0 _, fun _ => rfl, Nat.le_refl _, Nat.zero_le _⟩, HG.out⟩
end Go.Proofs.Yteghhmnkdmehbaa
