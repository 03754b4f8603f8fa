/- The walk of MetaDecodes. -/
import Derived.Test.YtkkigpobhagnfaaD03
import Derived.Test.YtkkigpobhagnfaaK16
namespace Go.Proofs.Ytkkigpobhagnfaa
open Go.RowKit
set_option maxRecDepth 100000
set_option linter.unusedSimpArgs false
set_option linter.unusedVariables false
theorem Bk14.grown14 {W W' : World} {g n : Nat} (h : Bk14 W g n) (k : W.grownBy W' none) : Bk14 W' g n := by
 obtain ⟨cur, b, hc⟩ := h
 refine ⟨cur, ?_, hc⟩
 unfold Blk at b ⊢
 rw [k.block g (Array.getElem?_eq_some_iff.1 b).1 (by simp)]
 exact b
set_option maxHeartbeats 2000000 in
theorem metaDecodes_walk (a : Option Addr) (len cap : Nat) (zs : List Int) (from_ to_ size : Int) (w : World) (hz : IsRow .u8 w a len cap zs) (hf : -9223372036854775808 ≤ from_ ∧ from_ ≤ 9223372036854775807) (ht : -9223372036854775808 ≤ to_ ∧ to_ ≤ 9223372036854775807) (hs : -9223372036854775808 ≤ size ∧ size ≤ 9223372036854775807) :
  Calls Try.prog 5 #[.slice a len cap, .int .i64 from_, .int .i64 to_, .int .i64 size] w fun e w' => e = .returned (.bool true) ∧ Below w.heap.size w w' := by
 obtain ⟨i5, hi, hz0, hz1, hz2⟩ := info_parts Try.info5
 have B := hz.byte
 generalize zs.take len = bs at B
 clear hz hf ht
 have hcm : cap ≤ 9223372036854775807 := B.cm
 have hnc := B.nc
 have hlb := B.row.len_eq
 by_cases hl : 40000 < len
 ·go_enter Try.func5, Try.ntmps5
  go_wp2_with fail
  refine (live14_any _).mono ?_
  rintro e w1 ⟨rfl, g1⟩
  have H1 : Hid _ := g1
  clear g1
  go_wp2
  go_ret
  exact ⟨rfl, grown_below H1.out⟩
 ·have O0 := World.ownsRow_made (base := w.heap.size) (e := 5) (size := 1) w #[] 0 (Nat.le_refl _) (Nat.zero_le _) (by simp)
  have R0 := B.row.grown (World.grownBy_alloc w (.cells #[] 5) none)
  have HB : Hid _ := B
  have hup := fun a n c W B h => pdecode14_any a n c bs from_ to_ size W B h hs.2
  have hrp := fun W B => rdecode14_any a len cap bs from_ to_ size W B (by omega)
  have HE : Hid _ := And.intro hup hrp
  generalize dcd bs from_ to_ size = r at *
  obtain ⟨ro, re⟩ := r
  clear B hup hrp hlb
  go_enter Try.func5, Try.ntmps5
  go_wp2_with (at_builtin; refine wpList_append8 rfl _ _ 22 rfl w.heap.size i5 Try.underlying22 hi hz0 hz1 hz2 _ 0 [] rfl O0 _ len cap _ rfl R0 HB.out.nil (by omega) (by simp) ?_)
  intro v1 w1 o1 g1
  have G1 : w.grownBy w1 none := grown_own (World.grownBy_alloc w (.cells #[] 5) none) O0 g1 (Nat.le_refl _)
  obtain ⟨a1, c1, rfl, B1⟩ := byte_own (bs := bs) (by simpa using o1) HB.out.row.byt (by unfold maxLen; omega)
  have hd := HE.out.1 a1 len c1 w1 B1 (by omega)
  have H1 : Hid _ := And.intro G1 B1
  clear O0 R0 o1 g1 G1 B1
  go_wp2_with fail
  refine hd.mono ?_
  intro e w2 k2
  obtain ⟨a2, n2, c2, rfl, B2, g2, o2⟩ := k2
  have hn2 : ro.length = n2 := B2.row.len_eq
  have hm2 : n2 ≤ 9223372036854775807 := B2.row.le
  have H2 : Hid _ := And.intro g2 (And.intro B2 o2)
  have hd2 := HE.out.2 w2 (HB.out.grown (grown_trans H1.out.1 g2))
  clear hd g2 B2 o2
  simp only
  go_wp2_with fail
  refine hd2.mono ?_
  intro e w3 k3
  obtain ⟨a3, n3, c3, rfl, B3, g3⟩ := k3
  have hn3 : ro.length = n3 := B3.row.len_eq
  obtain rfl : n2 = n3 := by omega
  have B2' := H2.out.2.1.grown g3
  have O2' : 0 < n2 → ∃ g, a2 = some ⟨g, 0, none⟩ ∧ w1.heap.size ≤ g ∧ Bk14 w3 g n2 := fun h0 => by
   obtain ⟨g, h1, h2, h3⟩ := H2.out.2.2 h0
   exact ⟨g, h1, h2, h3.grown14 g3⟩
  have cx := conv_row (P := Try.prog) B2'.row c2 22 9 Try.underlying22 Try.underlying5 Try.underlying9
  have cy := conv_row (P := Try.prog) B3.row c3 22 9 Try.underlying22 Try.underlying5 Try.underlying9
  have G13 := grown_trans H2.out.1 g3
  have hbk : 0 < n2 → ∃ g, a2 = some ⟨g, 0, none⟩ ∧ w1.heap.size ≤ g ∧ Bk14 w3 g n2 := fun h0 => O2' h0
  have H3 : Hid _ := And.intro G13 hbk
  generalize strOfNums ro = s1 at *
  clear hd2 HE B2' O2' B3 g3 G13 hbk H2 hn2 hn3
  simp only at cx cy ⊢
  go_wp2_with (first | (go_at_call 14; with_reducible refine (num14_any _ _).mono ?_; rintro e w' ⟨rfl, rfl⟩))
  clear cx cy
  go_loopw [14] (fun vi wr => ∃ (j : Nat), vi = .int .i64 j ∧ j ≤ n2 ∧ Hid (w1.grownBy wr none ∧ (0 < n2 → ∃ g, a2 = some ⟨g, 0, none⟩ ∧ w1.heap.size ≤ g ∧ Bk14 wr g n2))) (fun vi _ => n2 - (intOf vi).toNat)
  case atStart => exact ⟨0, rfl, Nat.zero_le _, H3.out⟩
  case round =>
   clear H3
   obtain ⟨j, rfl, hj, HY⟩ := hrel
   by_cases k1 : j < n2
   ·obtain ⟨g, rfl, hg, hbk⟩ := HY.out.2 (by omega)
    obtain ⟨y, y0, y1, cc, ff⟩ := hbk.at j k1
    have hs := hbk.set j ((y + 1) % 256) (by omega)
    have HY2 : Hid (w1.grownBy (wr.setCell ⟨g, j, none⟩ (.int .u8 ((y + 1) % 256))) none ∧ (0 < n2 → ∃ g', (some ⟨g, 0, none⟩ : Option Addr) = some ⟨g', 0, none⟩ ∧ w1.heap.size ≤ g' ∧ Bk14 (wr.setCell ⟨g, j, none⟩ (.int .u8 ((y + 1) % 256))) g' n2)) := ⟨grown_new HY.out.1 (grown_set _ _ _ _) hg, fun _ => ⟨g, rfl, hg, hs⟩⟩
    have k2 : (j : Int) < (n2 : Int) := by omega
    clear hs hbk HY hg
    go_wp2
    go_roundw
    case rel => exact ⟨j + 1, by go_num, by omega, HY2⟩
    case measure => simp [intOf]; omega
   ·obtain rfl : j = n2 := by omega
    have cz := conv_row (P := Try.prog) (H1.out.2.row.grown HY.out.1) c1 22 9 Try.underlying22 Try.underlying5 Try.underlying9
    have cw := conv_row (P := Try.prog) (HB.out.row.grown (grown_trans H1.out.1 HY.out.1)) cap 22 9 Try.underlying22 Try.underlying5 Try.underlying9
    generalize strOfNums bs = s2 at *
    have H4 : Hid _ := grown_trans H1.out.1 HY.out.1
    clear HY H1 HB
    go_wp2_with (first | (go_at_call 9; refine (live14_any _).mono ?_; rintro e w5 ⟨rfl, g5⟩; have H5 : Hid _ := grown_trans H4.out g5; clear g5))
    go_ret
    exact ⟨rfl, grown_below H5.out⟩
end Go.Proofs.Ytkkigpobhagnfaa
