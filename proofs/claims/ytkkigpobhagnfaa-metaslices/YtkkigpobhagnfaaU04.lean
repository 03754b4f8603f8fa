/- The walk of MetaSlices. A list of chunks that came in. -/
import Derived.ProofKit
import Derived.ChangeOld
import Derived.Deep.Slices
import Derived.Test.YtkkigpobhagnfaaK16
import Derived.Test.YtkkigpobhagnfaaK17
import Derived.Test.YtkkigpobhagnfaaU03
namespace Go.Proofs.Ytkkigpobhagnfaa
open Go.RowKit
set_option maxRecDepth 100000
set_option linter.unusedSimpArgs false
set_option linter.unusedVariables false
set_option maxHeartbeats 2000000 in
theorem metaSlices_walk (a : Option Addr) (len cap : Nat) (zs : List Int) (al : Option Addr) (ln lc : Nat) (l : List Ck) (at_ n : Int) (w : World) (hz : IsRow .u8 w a len cap zs) (K : Cks w al ln l) (hok : ∀ c ∈ l, c.ok) (ha : -9223372036854775808 ≤ at_ ∧ at_ ≤ 9223372036854775807) (hn : -9223372036854775808 ≤ n ∧ n ≤ 9223372036854775807) :
  Calls Try.prog 6 #[.slice a len cap, .slice al ln lc, .int .i64 at_, .int .i64 n] w fun e w' => e = .returned (.bool true) ∧ Below w.heap.size w w' := by
 have B := hz.byte
 generalize zs.take len = bs at B
 clear hz
 by_cases hl : 40000 < len
 ·go_enter Try.func6, Try.ntmps6
  go_wp2_with fail
  refine (live14_any _).mono ?_
  rintro e w1 ⟨rfl, g1⟩
  have H1 : Hid _ := g1
  clear g1
  go_wp2
  go_ret
  exact ⟨rfl, grown_below H1.out⟩
 ·by_cases hl2 : 30 < ln
  ·go_enter Try.func6, Try.ntmps6
   go_wp2_with fail
   refine (live14_any _).mono ?_
   rintro e w1 ⟨rfl, g1⟩
   have H1 : Hid _ := g1
   clear g1
   go_wp2
   go_ret
   exact ⟨rfl, grown_below H1.out⟩
  ·have HK : Hid _ := K
   have HB : Hid _ := B
   have HA : Hid _ := And.intro hok (And.intro ha hn)
   clear K B hok ha hn
   go_enter Try.func6, Try.ntmps6
   go_wp2
   go_loop [9] (fun i => ∃ j : Nat, j ≤ ln ∧ i = .int .i64 j ∧ Hid (∀ k c, k < j → l[k]? = some c → c.pl ≤ 16777216)) (fun i => ln - (intOf i).toNat)
   case atStart => exact ⟨0, Nat.zero_le _, rfl, fun k c h => absurd h (by omega)⟩
   case round =>
    obtain ⟨j, hj, rfl, hp⟩ := hrel
    by_cases hlt : j < ln
    ·obtain ⟨b, off, rfl, hc⟩ := HK.out.cells (by omega)
     obtain ⟨c, hcj⟩ : ∃ c, l[j]? = some c := ⟨_, List.getElem?_eq_getElem (by rw [HK.out.len_eq]; exact hlt)⟩
     have hcell := (hc j c hcj).2.1
     have HC : Hid _ := hcj
     clear hc hcj
     by_cases hb : 16777216 < c.pl
     ·go_wp2_with fail
      refine (live14_any _).mono ?_
      rintro e w1 ⟨rfl, g1⟩
      have H1 : Hid _ := g1
      clear g1
      go_wp2
      go_ret
      exact ⟨rfl, grown_below H1.out⟩
     ·have HN : Hid (∀ k c, k < j + 1 → l[k]? = some c → c.pl ≤ 16777216) := fun k c' h e => by
       rcases Nat.lt_or_ge k j with h' | h'
       ·exact hp.out k c' h' e
       ·obtain rfl : k = j := by omega
        rw [HC.out] at e
        injection e with e
        subst e
        omega
      clear hp
      go_wp2
      go_round
      case rel => exact ⟨j + 1, by omega, by go_num, HN⟩
      case measure => simp [intOf]; omega
    ·obtain rfl : j = ln := by omega
     have hpl : ∀ c ∈ l, pn c ≤ 16777216 := fun c hc => by
      obtain ⟨k, hk, e⟩ := List.getElem_of_mem hc
      have := hp.out k c (by rw [← HK.out.len_eq]; exact hk) (by rw [List.getElem?_eq_getElem hk, e])
      unfold pn
      omega
     have hup := pslice14_any a al len cap j lc bs l at_ n w HB.out HK.out (by omega) HA.out.1 (by omega) HA.out.2.1.2 HA.out.2.2.2
     have hrp : Hid (∀ W, w.grownBy W none → _) := fun W g => rslice14_any a al len cap j lc bs l at_ n W (HB.out.grown g) (HK.out.grown g) (by omega) HA.out.1 (by omega) hpl HA.out.2.1 HA.out.2.2
     generalize slc bs l at_ n = r at *
     obtain ⟨ro, re⟩ := r
     clear hp hpl
     go_wp2_with fail
     refine hup.mono ?_
     intro e w2 k2
     obtain ⟨a2, n2, c2, rfl, B2, g2, o2⟩ := k2
     have H2 : Hid _ := And.intro B2 g2
     have hd2 := hrp.out w2 g2
     clear hup g2 B2 o2 hrp
     simp only
     go_wp2_with fail
     refine hd2.mono ?_
     intro e w3 k3
     obtain ⟨a3, n3, c3, rfl, B3, g3⟩ := k3
     have cx := conv_row (P := Try.prog) (H2.out.1.grown g3).row c2 22 9 Try.underlying22 Try.underlying5 Try.underlying9
     have cy := conv_row (P := Try.prog) B3.row c3 22 9 Try.underlying22 Try.underlying5 Try.underlying9
     have H4 : Hid _ := grown_trans H2.out.2 g3
     generalize strOfNums ro = s1 at *
     clear hd2 B3 g3
     simp only at cx cy ⊢
     go_wp2_with (first | (go_at_call 14; with_reducible refine (num14_any _ _).mono ?_; rintro e w' ⟨rfl, rfl⟩) | (go_at_call 9; refine (live14_any _).mono ?_; rintro e w5 ⟨rfl, g5⟩; have H5 : Hid _ := grown_trans H4.out g5; clear g5))
     go_ret
     exact ⟨rfl, grown_below H5.out⟩
end Go.Proofs.Ytkkigpobhagnfaa
namespace Go.Proofs.Ytkkigpobhagnfaa
open Go.RowKit Go.ChangeShapes Go.WideShapes Go.ChangeAt Go.Joins
set_option maxRecDepth 100000
set_option linter.unusedSimpArgs false
set_option linter.unusedVariables false
structure CkAt (w : World) (b o : Nat) (c : Ck) : Prop where
 ok : c.ok
 cc : ∀ t, t < 5 → w.cell? ⟨b, o + t, none⟩ = c.cells[t]?
theorem cks_of_trod {H : Type} {enc : TypeId × Value → H} {w : World} {fuel : Nat} {v : Value} {x : DataW H × List MemPlace} (h : DataW.trod enc Try.prog w 0 (fun _ => true) true fuel 32 [v] = some x) :
  ∃ a len cap l, v = .slice a len cap ∧ Cks w a len l ∧ ∀ c ∈ l, c.ok := by
 rcases Deep.open_slice Try.underlying32 h with ⟨hcs, _⟩ | ⟨y, len, cap, m, n, D, Pl, hcs, _, hl, hm, hmm, _, hel⟩
 ·simp at hcs
  exact ⟨none, 0, 0, [], hcs, cks_none _ _, fun c hc => by cases hc⟩
 ·simp at hcs
  simp only [if_true] at hmm
  subst hmm
  rcases Nat.eq_zero_or_pos len with rfl | h0
  ·exact ⟨some y, 0, _, [], hcs, cks_none _ _, fun c hc => by cases hc⟩
  ·obtain ⟨b, off, spot⟩ := y
   rw [Try.c14c] at hel
   have hspot : spot = none := by
    obtain ⟨cs, h1, h2⟩ := hel 0 (by omega)
    obtain ⟨_, hl4, hc⟩ := World.cells?_some h1
    have := hc 0 (by omega)
    obtain ⟨c, hcc, _⟩ := trod_ck h2
    rw [hcc] at this
    have h2 : w.cell? ((Addr.add ⟨b, off, spot⟩ (0 * 5)).add 0) = some (.int .i64 c.at_) := this
    simpa [Addr.add] using World.cell?_spot h2
   subst hspot
   have hadd : ∀ i t, ((⟨b, off, none⟩ : Addr).add (i * 5)).add t = ⟨b, off + i * 5 + t, none⟩ := by
    intro i t
    have e : ∀ o k, (⟨b, o, none⟩ : Addr).add k = ⟨b, o + k, none⟩ := by intro o k; unfold Addr.add; split <;> simp_all
    rw [e, e]
   obtain ⟨A, hA⟩ := @Deep.choose_lt Ck ⟨ck0⟩ len (fun i A => CkAt w b (off + i * 5) A) (fun i hi => by
    obtain ⟨cs, h1, h2⟩ := hel i (by omega)
    obtain ⟨_, hl4, hc⟩ := World.cells?_some h1
    obtain ⟨c, hcc, hok⟩ := trod_ck h2
    exact ⟨c, hok, fun t ht => by rw [← hadd, ← hcc]; exact hc t (by omega)⟩)
   refine ⟨_, len, _, (List.range len).map A, hcs, ⟨by simp, by omega, fun _ => ⟨b, off, rfl, fun i X hX => ?_⟩⟩, fun c hc => ?_⟩
   ·have hi : i < len := by
     rcases Nat.lt_or_ge i len with h | h
     ·exact h
     ·rw [List.getElem?_eq_none (by simp; omega)] at hX; cases hX
    rw [List.getElem?_map, List.getElem?_range hi] at hX
    simp at hX
    subst hX
    have k := (hA i hi).cc
    exact ⟨k 0 (by omega), k 1 (by omega), k 2 (by omega), k 3 (by omega), k 4 (by omega)⟩
   ·obtain ⟨i, hi, rfl⟩ := List.mem_map.1 hc
    exact (hA i (List.mem_range.1 hi)).ok
end Go.Proofs.Ytkkigpobhagnfaa
