/- The document's lay and over. -/
import Derived.Test.YtdefcfmnhfeblaaRT
import Derived.BigRegion
namespace Go.Proofs.Ytdefcfmnhfeblaa
open Go.RowKit
set_option linter.unusedSimpArgs false
set_option linter.unusedVariables false

theorem made8 (w : World) : (w.alloc (.cells #[] 5)).ownsRow w.heap.size 5 1 (.slice (some ⟨w.heap.size, 0, none⟩) 0 0) 0 [] := World.ownsRow_made _ #[] 0 (Nat.le_refl _) (Nat.zero_le _) rfl
theorem Row.part {w : World} {b off len : Nat} {bs : List Int} (h : Row w (some ⟨b, off, none⟩) len bs) (at_ n : Nat) (hn : at_ + n ≤ len) : Row w (some ⟨b, off + at_, none⟩) n ((bs.drop at_).take n) := by
  refine ⟨by simp [h.len_eq]; omega, by have := h.le; omega, (h.byt.drop at_).take n, fun h0 => ⟨b, off + at_, rfl, fun i hi => ?_⟩⟩
  obtain ⟨b', off', e, hc⟩ := h.cells (by omega)
  injection e with e
  injection e with e1 e2
  subst e1 e2
  rw [Nat.add_assoc, hc (at_ + i) (by omega)]
  congr 2
  rw [List.getD_eq_getElem?_getD, List.getD_eq_getElem?_getD, List.getElem?_take, if_pos hi, List.getElem?_drop]
theorem Row.none0 {w : World} (a : Option Addr) : Row w a 0 [] := ⟨rfl, Nat.zero_le _, fun n hn => by simp at hn, fun h => by omega⟩

set_option maxHeartbeats 1000000 in
theorem lay_any (b off len cap at_ : Nat) (bs : List Int) (a2 : Option Addr) (l2 c2 : Nat) (ys : List Int) (w : World) (R : Row w (some ⟨b, off, none⟩) len bs) (R2 : Row w a2 l2 ys) (hn2 : a2 = none → c2 = 0) (hc : len ≤ cap) (hcm : cap ≤ maxLen) (h1 : at_ + l2 ≤ len) (hl : len ≤ 16777216) (hl0 : 0 < len) :
    Calls Try.prog 46 #[.slice (some ⟨b, off, none⟩) len cap, .int .i64 at_, .slice a2 l2 c2] w fun e w' => ∃ g' c', e = .returned (.slice (some ⟨g', 0, none⟩) len c') ∧ w.heap.size ≤ g' ∧ Row w' (some ⟨g', 0, none⟩) len (bs.take at_ ++ ys ++ bs.drop (at_ + l2)) ∧ len ≤ c' ∧ c' ≤ maxLen ∧ w.grownBy w' none := by
  obtain ⟨i5, hi, hz0, hz1, hz2⟩ := info_parts Try.info5
  have hmade := made8 w
  have gA : w.grownBy (w.alloc (.cells #[] 5)) none := World.grownBy_alloc _ _ _
  have R0 := (R.part 0 at_ (by omega)).grown gA
  rw [List.drop_zero, Nat.add_zero] at R0
  have hsz : w.heap.size ≤ (w.alloc (.cells #[] 5)).heap.size := by simp
  unfold maxLen at hcm
  go_enter Try.func46, Try.ntmps46
  go_wp2_with (at_builtin; refine wpList_append8 rfl _ _ 34 rfl w.heap.size i5 Try.underlying34 hi hz0 hz1 hz2 _ 0 [] rfl hmade _ at_ _ _ rfl R0 (fun e => by cases e) (by omega) hsz ?_)
  intro v1 w1 o1 g1
  have B1 : Below w.heap.size w w1 := (grown_below gA).trans ((below_own g1 hmade hsz).mono (Nat.le_refl _))
  have R1 := R2.below B1
  have R3 := R.below B1
  have s1 : w.heap.size ≤ w1.heap.size := B1.size
  clear hmade gA R0 hsz g1
  go_wp2_with (at_builtin; refine wpList_append8 rfl _ _ 34 rfl w.heap.size i5 Try.underlying34 hi hz0 hz1 hz2 _ at_ _ rfl o1 _ l2 _ _ rfl R1 hn2 (by omega) s1 ?_)
  intro v2 w2 o2 g2
  have B12 := below_own g2 o1 s1
  have B2 : Below w.heap.size w w2 := B1.trans B12
  have R4 := R.below B2
  have s2 : w.heap.size ≤ w2.heap.size := B2.size
  clear g2 o1 s1 R1 R3 B1 B12
  have hlb := R.len_eq
  have hby : Byt (bs.take at_ ++ ys ++ bs.drop (at_ + l2)) := ((R.byt.take at_).append R2.byt).append (R.byt.drop _)
  have hfin : ∀ v3 w3, w3.ownsRow w.heap.size 5 1 v3 (at_ + l2 + (len - (at_ + l2))) (bv (bs.take at_) ++ bv ys ++ bv (bs.drop (at_ + l2))) → w2.grownBy w3 v2.ownBlock → ∃ g' c', v3 = .slice (some ⟨g', 0, none⟩) len c' ∧ w.heap.size ≤ g' ∧ Row w3 (some ⟨g', 0, none⟩) len (bs.take at_ ++ ys ++ bs.drop (at_ + l2)) ∧ len ≤ c' ∧ c' ≤ maxLen ∧ w.grownBy w3 none := by
    intro v3 w3 o3 g3
    have B3 : Below w.heap.size w w3 := B2.trans (below_own g3 o2 s2)
    rw [← bv_append, ← bv_append, show at_ + l2 + (len - (at_ + l2)) = len by omega] at o3
    obtain ⟨a', c', e1, RR⟩ := owns_row o3 hby (by unfold maxLen; omega)
    obtain ⟨a'', c'', e2, k1, k2, k3⟩ := owns_form o3
    rw [e1] at e2
    injection e2 with e2 e3 e4
    subst e2 e4
    rcases k3 with ⟨_, h3, _⟩ | ⟨g', rfl, h3⟩
    · omega
    · exact ⟨g', c', e1, h3, RR, k1, k2, below_grown B3⟩
  have HF : Hid _ := hfin
  clear hfin hby B2 R2 hn2 R
  by_cases hcap : cap = at_ + l2
  · have e0 : len = at_ + l2 := by omega
    have RZ : Row w2 (some ⟨b, off, none⟩) (len - (at_ + l2)) (bs.drop (at_ + l2)) := by
      have e1 : len - (at_ + l2) = 0 := by omega
      have e2 : bs.drop (at_ + l2) = [] := List.drop_eq_nil_of_le (by omega)
      rw [e1, e2]; exact Row.none0 _
    subst hcap
    clear R4 e0
    go_wp2_with (at_builtin; refine wpList_append8 rfl _ _ 34 rfl w.heap.size i5 Try.underlying34 hi hz0 hz1 hz2 _ (at_ + l2) _ rfl o2 _ (len - (at_ + l2)) _ _ rfl RZ (fun e => by cases e) (by omega) s2 ?_)
    intro v3 w3 o3 g3
    have o3' : w3.ownsRow w.heap.size 5 1 v3 (at_ + l2 + (len - (at_ + l2))) (bv (bs.take at_) ++ bv ys ++ bv (bs.drop (at_ + l2))) := by
      rw [show at_ + l2 + (len - (at_ + l2)) = at_ + l2 by omega, List.append_assoc]
      exact o3
    obtain ⟨a', c', rfl, hr⟩ := HF.out v3 w3 o3' g3
    clear HF o3 o3' g3 o2 RZ
    go_wp2
    go_ret
    exact ⟨a', c', rfl, hr⟩
  · have RZ : Row w2 (some ⟨b, off + (at_ + l2), none⟩) (len - (at_ + l2)) (bs.drop (at_ + l2)) := by
      have := R4.part (at_ + l2) (len - (at_ + l2)) (by omega)
      rw [List.take_of_length_le (by simp; omega)] at this
      exact this
    clear R4
    go_wp2_with (at_builtin; refine wpList_append8 rfl _ _ 34 rfl w.heap.size i5 Try.underlying34 hi hz0 hz1 hz2 _ (at_ + l2) _ rfl o2 _ (len - (at_ + l2)) _ _ rfl RZ (fun e => by cases e) (by omega) s2 ?_)
    intro v3 w3 o3 g3
    have o3' : w3.ownsRow w.heap.size 5 1 v3 (at_ + l2 + (len - (at_ + l2))) (bv (bs.take at_) ++ bv ys ++ bv (bs.drop (at_ + l2))) := by
      rw [show at_ + l2 + (len - (at_ + l2)) = len by omega, List.append_assoc]
      exact o3
    obtain ⟨a', c', rfl, hr⟩ := HF.out v3 w3 o3' g3
    clear HF o3 o3' g3 o2 RZ
    go_wp2
    go_ret
    exact ⟨a', c', rfl, hr⟩

/-- a row that the call made, which may be written: n of its cells count -/
structure Own (e : TypeId) (w0 W : World) (g n cap : Nat) (xs : List Value) : Prop where
  cur : ∃ cur : List Value, W.heap[g]? = some (.cells cur.toArray e (0, 0)) ∧ cur.length = cap ∧ cur.take n = xs
  len : xs.length = n
  nc : n ≤ cap
  cm : cap ≤ maxLen
  new : w0.heap.size ≤ g
  grown : w0.grownBy W none
theorem own_of {e : TypeId} {w0 W : World} {v : Value} {n : Nat} {xs : List Value} (h : W.ownsRow w0.heap.size e 1 v n xs) (hg : w0.grownBy W none) (h0 : 0 < n) : ∃ g cap, v = .slice (some ⟨g, 0, none⟩) n cap ∧ Own e w0 W g n cap xs := by
  obtain ⟨h1, ⟨_, h2⟩ | ⟨g, cap, cur, rfl, hb, hgc, hc, hm, hs, ht⟩⟩ := h
  · omega
  · rw [Nat.mul_one] at h1 hs ht
    exact ⟨g, cap, rfl, ⟨cur.toList, by simpa using hgc, by simpa using hs, ht⟩, h1, hc, hm, hb, hg⟩
theorem Own.cell {e : TypeId} {w0 W : World} {g n cap : Nat} {xs : List Value} (h : Own e w0 W g n cap xs) (i : Nat) (hi : i < n) : W.cell? ⟨g, i, none⟩ = xs[i]? := by
  obtain ⟨cur, h1, h2, h3⟩ := h.cur
  simp only [World.cell?, h1]
  rw [← h3, List.getElem?_take, if_pos hi]
  simp
theorem Own.frozen {e : TypeId} {w0 W : World} {g n cap : Nat} {xs : List Value} (h : Own e w0 W g n cap xs) (i : Nat) : W.frozen? ⟨g, i, none⟩ = false := by
  obtain ⟨cur, h1, h2, h3⟩ := h.cur
  simp [World.frozen?, h1]
theorem Own.set {e : TypeId} {w0 W : World} {g n cap : Nat} {xs : List Value} (h : Own e w0 W g n cap xs) (i : Nat) (v : Value) (hi : i < n) : Own e w0 (W.setCell ⟨g, i, none⟩ v) g n cap (xs.set i v) := by
  obtain ⟨cur, h1, h2, h3⟩ := h.cur
  refine ⟨⟨cur.set i v, ?_, by simpa using h2, ?_⟩, by simpa using h.len, h.nc, h.cm, h.new, ?_⟩
  · rw [setCell_eq_setRow W g i _ _ _ _ h1, setRow_heap W g _ _ _ _ h1]
    simp
  · rw [← h3, List.take_set]
  · refine ⟨h.grown.os, h.grown.tape, h.grown.output, ?_, fun k hk hr => ?_⟩
    · simpa [World.setCell] using h.grown.size
    · have hne : k ≠ g := by have := h.new; omega
      rw [← h.grown.block k hk hr]
      exact Below.heap_setCell _ _ _ _ hne
theorem Own.row {w0 W : World} {g n cap : Nat} {bs : List Int} (h : Own 5 w0 W g n cap (bv bs)) (hb : Byt bs) : Row W (some ⟨g, 0, none⟩) n bs := by
  have hl := h.len
  rw [bv_length] at hl
  refine ⟨hl, Nat.le_trans h.nc h.cm, hb, fun _ => ⟨g, 0, rfl, fun i hi => ?_⟩⟩
  rw [Nat.zero_add, h.cell i hi, bv_getElem? _ _ (by omega)]

/-- bytes, the first of which are others' -/
def ovr (bs ts : List Int) : List Int := ts.take bs.length ++ bs.drop ts.length
def ovp (bs ts : List Int) (j : Nat) : List Int := ts.take j ++ bs.drop j
theorem ovp_step {bs ts : List Int} {j : Nat} (h1 : j < bs.length) (h2 : j < ts.length) : (bv (ovp bs ts j)).set j (.int .u8 (ts.getD j 0)) = bv (ovp bs ts (j + 1)) := by
  unfold ovp bv
  rw [← List.map_set, List.set_append_right _ _ (by simp; omega)]
  have e : j - (ts.take j).length = 0 := by simp; omega
  rw [e, List.drop_eq_getElem_cons h1, List.set_cons_zero, take_snocI ts j h2]
  simp
theorem ovp_end {bs ts : List Int} {j : Nat} (h1 : j ≤ bs.length) (h2 : j ≤ ts.length) (h : ¬ (j < bs.length ∧ j < ts.length)) : ovp bs ts j = ovr bs ts := by
  unfold ovp ovr
  by_cases c : j < ts.length
  · have e : j = bs.length := by omega
    rw [e, List.drop_eq_nil_of_le (Nat.le_refl _), List.drop_eq_nil_of_le (by omega)]
  · have e : j = ts.length := by omega
    rw [e, List.take_of_length_le (Nat.le_refl _), List.take_of_length_le (by omega)]
theorem ovp_len {bs ts : List Int} {j : Nat} (h1 : j ≤ bs.length) (h2 : j ≤ ts.length) : (ovp bs ts j).length = bs.length := by unfold ovp; simp; omega
theorem ovr_len (bs ts : List Int) : (ovr bs ts).length = bs.length := by unfold ovr; simp; omega
theorem ovr_byt {bs ts : List Int} (h1 : Byt bs) (h2 : Byt ts) : Byt (ovr bs ts) := (h2.take _).append (h1.drop _)

set_option maxHeartbeats 1000000 in
theorem over_any (a1 : Option Addr) (l1 c1 : Nat) (bs : List Int) (a2 : Option Addr) (l2 c2 : Nat) (ts : List Int) (w : World) (R1 : Row w a1 l1 bs) (R2 : Row w a2 l2 ts) (hn1 : a1 = none → c1 = 0) (hl : l1 ≤ 16777216) (h0 : 0 < l1) :
    Calls Try.prog 45 #[.slice a1 l1 c1, .slice a2 l2 c2] w fun e w' => ∃ g' c', e = .returned (.slice (some ⟨g', 0, none⟩) l1 c') ∧ w.heap.size ≤ g' ∧ Row w' (some ⟨g', 0, none⟩) l1 (ovr bs ts) ∧ l1 ≤ c' ∧ c' ≤ maxLen ∧ w.grownBy w' none := by
  obtain ⟨i5, hi, hz0, hz1, hz2⟩ := info_parts Try.info5
  have hmade := made8 w
  have gA : w.grownBy (w.alloc (.cells #[] 5)) none := World.grownBy_alloc _ _ _
  have R0 := R1.grown gA
  have hsz : w.heap.size ≤ (w.alloc (.cells #[] 5)).heap.size := by simp
  have hlb := R1.len_eq
  have hlt := R2.len_eq
  have hm2 : l2 ≤ 9223372036854775807 := R2.le
  go_enter Try.func45, Try.ntmps45
  go_wp2_with (at_builtin; refine wpList_append8 rfl _ _ 34 rfl w.heap.size i5 Try.underlying34 hi hz0 hz1 hz2 _ 0 [] rfl hmade _ l1 _ _ rfl R0 hn1 (by omega) hsz ?_)
  intro v1 w1 o1 g1
  have B1 : Below w.heap.size w w1 := (grown_below gA).trans ((below_own g1 hmade hsz).mono (Nat.le_refl _))
  obtain ⟨g, cap, rfl, O1⟩ := own_of o1 (below_grown B1) h0
  have e0 : bs = ovp bs ts 0 := by simp [ovp]
  have HO : Hid (Own 5 w w1 g l1 cap (bv (ovp bs ts 0))) := by rw [← e0]; exact O1
  have hb1 := R1.byt
  have hb2 := R2.byt
  clear o1 g1 hmade gA R0 hsz R1 B1 O1 e0 hi hz0 hz1 hz2
  go_wp2
  go_loopw [6] (fun vi wr => ∃ j : Nat, vi = .int .i64 j ∧ j ≤ l1 ∧ j ≤ l2 ∧ Hid (Own 5 w wr g l1 cap (bv (ovp bs ts j)))) (fun vi _ => l1 - (intOf vi).toNat)
  case atStart => exact ⟨0, rfl, Nat.zero_le _, Nat.zero_le _, HO⟩
  case round =>
    clear HO
    obtain ⟨j, rfl, j1, j2, HO⟩ := hrel
    by_cases k1 : j < l1
    · by_cases k2 : j < l2
      · obtain ⟨b, off, rfl, hc⟩ := (R2.grown HO.out.grown).cells (by omega)
        have ca := hc j k2
        have hx := hb2.getD j
        have hst := HO.out.set j (.int .u8 (ts.getD j 0)) k1
        rw [ovp_step (by omega) (by omega)] at hst
        have cb := HO.out.cell j k1
        rw [bv_getElem? _ _ (by rw [ovp_len (by omega) (by omega)]; omega)] at cb
        have fb := HO.out.frozen j
        have HS : Hid (Own 5 w (wr.setCell ⟨g, j, none⟩ (.int .u8 (ts.getD j 0))) g l1 cap (bv (ovp bs ts (j + 1)))) := hst
        clear hc hst HO
        generalize ts.getD j 0 = x at ca HS hx
        generalize (ovp bs ts j).getD j 0 = y at cb
        go_wp2
        go_roundw
        case rel => exact ⟨j + 1, by go_num, by omega, by omega, HS⟩
        case measure => simp [intOf]; omega
      · have hfin := HO.out
        rw [ovp_end (by omega) (by omega) (by omega)] at hfin
        have hr := hfin.row (ovr_byt hb1 hb2)
        have hgr := hfin.grown
        have n1 := hfin.nc
        have n2 := hfin.cm
        have n3 := hfin.new
        clear HO hfin
        go_wp2
        go_ret
        exact ⟨_, _, rfl, n3, hr, n1, n2, hgr⟩
    · have hfin := HO.out
      rw [ovp_end (by omega) (by omega) (by omega)] at hfin
      have hr := hfin.row (ovr_byt hb1 hb2)
      have hgr := hfin.grown
      have n1 := hfin.nc
      have n2 := hfin.cm
      have n3 := hfin.new
      clear HO hfin
      go_wp2
      go_ret
      exact ⟨_, _, rfl, n3, hr, n1, n2, hgr⟩
end Go.Proofs.Ytdefcfmnhfeblaa
