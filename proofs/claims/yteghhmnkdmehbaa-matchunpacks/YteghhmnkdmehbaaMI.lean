/- The program's Encode, Bound, Pack and Unpack. -/
import Derived.Test.YteghhmnkdmehbaaMH
import Derived.Test.YteghhmnkdmehbaaLF
import Derived.Test.YteghhmnkdmehbaaPE
import Derived.Test.YteghhmnkdmehbaaPN
import Derived.Test.YteghhmnkdmehbaaGW
namespace Go.Proofs.Yteghhmnkdmehbaa
open Go.RowKit
set_option linter.unusedSimpArgs false
set_option linter.unusedVariables false

set_option maxHeartbeats 1000000 in
theorem clone_own (a : Option Addr) (n c : Nat) (xs : List Int) (w : World) (B : Byte w a n c xs) (hn : n ≤ 16777216) :
    Calls Try.prog 24 #[.slice a n c] w fun e w' => ∃ v, e = .returned v ∧ w'.ownsRow w.heap.size 5 1 v n (bv xs) ∧ w.grownBy w' none := by
  obtain ⟨i5, hi, hz0, hz1, hz2⟩ := info_parts Try.info5
  cases a with
  | none =>
    obtain rfl : n = 0 := by
      rcases Nat.eq_zero_or_pos n with h | h
      · exact h
      · obtain ⟨_, _, e, _⟩ := B.row.cells h; cases e
    obtain rfl : xs = [] := List.eq_nil_of_length_eq_zero B.row.len_eq
    have hen := eql_nil0 c
    go_enter Try.func24, Try.ntmps24
    go_wp2
    go_ret
    exact ⟨_, rfl, World.ownsRow_nil _ _ _ _, World.grownBy.refl _ _⟩
  | some p =>
    have O0 := World.ownsRow_made (base := w.heap.size) (e := 5) (size := 1) w #[] 0 (Nat.le_refl _) (Nat.zero_le _) (by simp)
    have R0 := B.row.grown (World.grownBy_alloc w (.cells #[] 5) none)
    have HB : Hid _ := B
    have hen := eql_nil p n c
    clear B
    go_enter Try.func24, Try.ntmps24
    go_wp2_with (at_builtin; refine wpList_append8 rfl _ _ 22 rfl w.heap.size i5 Try.underlying22 hi hz0 hz1 hz2 _ 0 [] rfl O0 _ n c _ rfl R0 HB.out.nil (by omega) (by simp) ?_)
    intro v1 w1 o1 g1
    have G1 : w.grownBy w1 none := grown_own (World.grownBy_alloc w (.cells #[] 5) none) O0 g1 (Nat.le_refl _)
    have H1 : Hid (w1.ownsRow w.heap.size 5 1 v1 n (bv xs) ∧ w.grownBy w1 none) := ⟨by simpa using o1, G1⟩
    clear O0 R0 o1 g1 G1
    go_wp2
    go_ret
    exact ⟨_, rfl, H1.out.1, H1.out.2⟩


theorem Sqs.grown6 {w w' : World} {ss : List SqV} {qs : List Sq} (h : Sqs w ss qs) (k : w.grownBy w' none) : Sqs w' ss qs :=
  ⟨h.1, fun i s q h1 h2 => by have j := h.2 i s q h1 h2; exact ⟨j.row.grown k, j.off, j.m, j.nil, j.nc, j.cm⟩⟩
set_option maxHeartbeats 1000000 in
theorem encode_any (a : Option Addr) (len cap : Nat) (bs : List Int) (w : World) (B : Byte w a len cap bs) (hl : len ≤ 1048576) (hq : (enc bs).length ≤ 65536) :
    Calls Try.prog 9 #[.slice a len cap] w (PJoin w (jcat (enc bs), 0)) := by
  have hs := sequences_any a len cap bs w B hl
  have E := enc_ok bs (by rw [B.row.len_eq]; exact hl)
  have hj := join_ok E.ne E.ok
  have hm := jok_mod (Int.le_refl 0) E.ok
  have HE : Hid _ := And.intro hj hm
  generalize enc bs = qs at *
  clear E hj hm B
  go_enter Try.func9, Try.ntmps9
  go_wp2_with fail
  refine hs.mono ?_
  intro e w1 h1
  obtain ⟨a1, n1, c1, ss, rfl, R1, S1, g1⟩ := h1
  have hn := R1.len_eq
  have hsl := S1.len
  have hjn := pjoin_any a1 n1 c1 ss qs w1 ⟨⟨R1, S1.grown6 g1, fun q hq => (HE.out.2 q hq).1⟩, fun q hq => by have := (HE.out.2 q hq).2; omega, by omega⟩ (by omega)
  rw [HE.out.1] at hjn
  clear hs R1 S1 HE hn hsl hq
  generalize jcat qs = J at *
  have HG : Hid _ := g1
  clear g1
  simp only
  go_wp2_with fail
  refine hjn.mono ?_
  intro e w2 h2
  obtain ⟨a2, n2, c2, rfl, B2, g2⟩ := h2
  have HF : Hid _ := And.intro B2 (grown_trans HG.out g2)
  clear hjn B2 g2 HG
  simp only
  go_wp2
  go_ret2
  exact ⟨_, _, _, rfl, HF.out.1, HF.out.2⟩
theorem encode_long (a : Option Addr) (len cap : Nat) (w : World) (hl : 1048576 < len) (hm : len ≤ 9223372036854775807) :
    Calls Try.prog 9 #[.slice a len cap] w fun e w' => e = .returned (.tuple #[.slice none 0 0, .int .i64 2]) ∧ w = w' := by
  go_enter Try.func9, Try.ntmps9
  go_wp2
  go_ret2
  exact ⟨rfl, rfl⟩
theorem pbound_any (n : Int) (w : World) (h : -9223372036854775808 ≤ n ∧ n ≤ 9223372036854775807) :
    Calls Try.prog 12 #[.int .i64 n] w fun e w' => e = .returned (.int .i64 (bnd n)) ∧ w = w' := by
  by_cases h0 : n < 0 ∨ 1048576 < n
  · have e : bnd n = 0 := by unfold bnd; rw [if_pos h0]
    rw [e]
    clear e
    rcases h0 with h0 | h0
    · go_enter Try.func12, Try.ntmps12
      go_wp2
      go_ret
      exact ⟨rfl, rfl⟩
    · have d1 : decide (n < 0) = false := decide_eq_false (by omega)
      go_enter Try.func12, Try.ntmps12
      go_wp2
      go_ret
      exact ⟨rfl, rfl⟩
  · have d1 : decide (n < 0) = false := decide_eq_false (by omega)
    have d2 : decide (1048576 < n) = false := decide_eq_false (by omega)
    by_cases h1 : n < 15
    · have e : bnd n = n + 1 := by unfold bnd; rw [if_neg h0, tol_none h1]; omega
      rw [e]
      clear e
      go_enter Try.func12, Try.ntmps12
      go_wp2
      go_ret
      exact ⟨rfl, rfl⟩
    · have e : bnd n = n + 2 + (n - 15) / 255 := by unfold bnd; rw [if_neg h0, tol_big (by omega)]; omega
      rw [e]
      clear e
      have d3 : decide (n < 15) = false := decide_eq_false (by omega)
      go_enter Try.func12, Try.ntmps12
      go_wp2
      go_ret
      exact ⟨rfl, rfl⟩
end Go.Proofs.Yteghhmnkdmehbaa
