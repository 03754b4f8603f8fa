/- The document's lz: a length and its four bits. -/
import Derived.Test.YteghhmnkdmehbaaRB
import Derived.WalkLawsBesides
import Derived.WalkKit
import Derived.Below
import Derived.BigRegion
import Derived.Deep.QuietTactic
namespace Go.Proofs.Yteghhmnkdmehbaa
open Go.RowKit
set_option linter.unusedSimpArgs false
set_option linter.unusedVariables false

/-- a length whose further bytes follow: it, the place behind; -1: it ends too early -/
def lnk : List Int → Int → Int → Int × Int
  | [], _, p => (-1, p)
  | b :: r, n, p => if b = 255 then lnk r (n + 255) (p + 1) else (n + b, p + 1)
def lng (bs : List Int) (n : Int) (p : Nat) : Int × Int := if n < 15 then (n, (p : Int)) else lnk (bs.drop p) n p
def fou (n : Int) : Int := if 15 < n then 15 else n

theorem lnk_at {bs : List Int} {p : Nat} (h : p < bs.length) (n : Int) : lnk (bs.drop p) n p = if bs.getD p 0 = 255 then lnk (bs.drop (p + 1)) (n + 255) ((p + 1 : Nat) : Int) else (n + bs.getD p 0, ((p + 1 : Nat) : Int)) := by
  rw [List.drop_eq_getElem_cons h, lnk]
  simp [List.getD_eq_getElem?_getD, List.getElem?_eq_getElem h]

set_option maxHeartbeats 1000000 in
theorem length_any (a : Option Addr) (len cap : Nat) (bs : List Int) (n : Int) (p : Nat) (w : World) (R : Row w a len bs) (hl : len ≤ 16777216) (hn : 0 ≤ n ∧ n ≤ 15) (hp : p ≤ len) :
    Calls Try.prog 31 #[.slice a len cap, .int .i64 n, .int .i64 p] w fun e w' => e = .returned (.tuple #[.int .i64 (lng bs n p).1, .int .i64 (lng bs n p).2]) ∧ w' = w := by
  unfold lng
  have hlb := R.len_eq
  by_cases h1 : n < 15
  · rw [if_pos h1]
    go_enter Try.func31, Try.ntmps31
    go_wp2
    go_ret2
    exact ⟨rfl, rfl⟩
  · rw [if_neg h1]
    go_enter Try.func31, Try.ntmps31
    go_wp2
    go_loopw [1, 2] (fun vn vp wr => wr = w ∧ ∃ (m : Int) (j : Nat), vn = .int .i64 m ∧ vp = .int .i64 j ∧ j ≤ len ∧ 15 ≤ m ∧ m ≤ 15 + 255 * j ∧ Hid (lnk (bs.drop j) m j = lnk (bs.drop p) n p)) (fun _ vp _ => len - (intOf vp).toNat)
    case atStart => exact ⟨rfl, n, p, rfl, rfl, hp, by omega, by omega, rfl⟩
    case round =>
      obtain ⟨rfl, m, j, rfl, rfl, hj, hm1, hm2, HE⟩ := hrel
      by_cases k1 : j < len
      · obtain ⟨b, off, rfl, hc⟩ := R.cells (by omega)
        have ca := hc j k1
        have hx := R.byt.getD j
        have he := HE.out
        rw [lnk_at (by omega)] at he
        clear hc HE
        generalize bs.getD j 0 = x at ca hx he
        by_cases k2 : x = 255
        · subst k2
          rw [if_pos rfl] at he
          have HE : Hid _ := he
          clear he
          go_wp2
          go_roundw
          case rel => exact ⟨by trivial, m + 255, j + 1, by go_num, by go_num, by omega, by omega, by omega, HE⟩
          case measure => simp [intOf]; omega
        · rw [if_neg k2] at he
          have HE : Hid _ := he
          clear he
          go_wp2
          go_ret2
          rw [← HE.out]
          exact ⟨by simp, rfl⟩
      · have he := HE.out
        rw [List.drop_eq_nil_of_le (by omega)] at he
        have HE : Hid _ := he
        clear he
        go_wp2
        go_ret2
        rw [← HE.out]
        exact ⟨rfl, rfl⟩
end Go.Proofs.Yteghhmnkdmehbaa
