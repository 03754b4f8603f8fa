/- The document's lay and over. The document's Read and Boot. Rows of whatever values; a variable of several cells in a block of its own. The document's Write. -/
import Derived.BigRegion
import Derived.Test.YtfhgbddeclldnaaGreatQ01
namespace Go.Proofs.YtfhgbddeclldnaaGreat
open Go.RowKit
set_option maxRecDepth 100000
set_option linter.unusedSimpArgs false
set_option linter.unusedVariables false

theorem made8 (w : World) : (w.alloc (.cells #[] 5)).ownsRow w.heap.size 5 1 (.slice (some ⟨w.heap.size, 0, none⟩) 0 0) 0 [] := World.ownsRow_made _ #[] 0 (Nat.le_refl _) (Nat.zero_le _) rfl
theorem Row.part {w : World} {b off len : Nat} {bs : List Int} (h : Row w (some ⟨b, off, none⟩) len bs) (at_ n : Nat) (hn : at_ + n ≤ len) : Row w (some ⟨b, off + at_, none⟩) n ((bs.drop at_).take n) := by
  refine ⟨by simp [h.len_eq]; omega, by have := h.le; omega, (h.byt.drop at_).take n, fun h0 => ⟨b, off + at_, rfl, fun i hi => ?_⟩⟩
  obtain ⟨b', off', e, hc⟩ := h.cells (by omega)
  injection e with e
  injection e with e1 e2
  subst e1 e2
  rw [Nat.add_assoc, hc (at_ + i) (by omega)]
  congr 2
  rw [List.getD_eq_getElem?_getD, List.getD_eq_getElem?_getD, List.getElem?_take, if_pos hi, List.getElem?_drop]
theorem Row.none0 {w : World} (a : Option Addr) : Row w a 0 [] := ⟨rfl, Nat.zero_le _, fun n hn => by simp at hn, fun h => by omega⟩

set_option maxHeartbeats 1000000 in
theorem lay_any (b off len cap at_ : Nat) (bs : List Int) (a2 : Option Addr) (l2 c2 : Nat) (ys : List Int) (w : World) (R : Row w (some ⟨b, off, none⟩) len bs) (R2 : Row w a2 l2 ys) (hn2 : a2 = none → c2 = 0) (hc : len ≤ cap) (hcm : cap ≤ maxLen) (h1 : at_ + l2 ≤ len) (hl : len ≤ 16777216) (hl0 : 0 < len) :
    Calls Tryz.prog 64 #[.slice (some ⟨b, off, none⟩) len cap, .int .i64 at_, .slice a2 l2 c2] w fun e w' => ∃ g' c', e = .returned (.slice (some ⟨g', 0, none⟩) len c') ∧ w.heap.size ≤ g' ∧ Row w' (some ⟨g', 0, none⟩) len (bs.take at_ ++ ys ++ bs.drop (at_ + l2)) ∧ len ≤ c' ∧ c' ≤ maxLen ∧ w.grownBy w' none := by
  obtain ⟨i5, hi, hz0, hz1, hz2⟩ := info_parts Tryz.info5
  have hmade := made8 w
  have gA : w.grownBy (w.alloc (.cells #[] 5)) none := World.grownBy_alloc _ _ _
  have R0 := (R.part 0 at_ (by omega)).grown gA
  rw [List.drop_zero, Nat.add_zero] at R0
  have hsz : w.heap.size ≤ (w.alloc (.cells #[] 5)).heap.size := by simp
  unfold maxLen at hcm
  go_enter Tryz.func64, Tryz.ntmps64
  go_wp2_with (at_builtin; refine wpList_append8 rfl _ _ 36 rfl w.heap.size i5 Tryz.underlying36 hi hz0 hz1 hz2 _ 0 [] rfl hmade _ at_ _ _ rfl R0 (fun e => by cases e) (by omega) hsz ?_)
  intro v1 w1 o1 g1
  have B1 : Below w.heap.size w w1 := (grown_below gA).trans ((below_own g1 hmade hsz).mono (Nat.le_refl _))
  have R1 := R2.below B1
  have R3 := R.below B1
  have s1 : w.heap.size ≤ w1.heap.size := B1.size
  clear hmade gA R0 hsz g1
  go_wp2_with (at_builtin; refine wpList_append8 rfl _ _ 36 rfl w.heap.size i5 Tryz.underlying36 hi hz0 hz1 hz2 _ at_ _ rfl o1 _ l2 _ _ rfl R1 hn2 (by omega) s1 ?_)
  intro v2 w2 o2 g2
  have B12 := below_own g2 o1 s1
  have B2 : Below w.heap.size w w2 := B1.trans B12
  have R4 := R.below B2
  have s2 : w.heap.size ≤ w2.heap.size := B2.size
  clear g2 o1 s1 R1 R3 B1 B12
  have hlb := R.len_eq
  have hby : Byt (bs.take at_ ++ ys ++ bs.drop (at_ + l2)) := ((R.byt.take at_).append R2.byt).append (R.byt.drop _)
  have hfin : ∀ v3 w3, w3.ownsRow w.heap.size 5 1 v3 (at_ + l2 + (len - (at_ + l2))) (bv (bs.take at_) ++ bv ys ++ bv (bs.drop (at_ + l2))) → w2.grownBy w3 v2.ownBlock → ∃ g' c', v3 = .slice (some ⟨g', 0, none⟩) len c' ∧ w.heap.size ≤ g' ∧ Row w3 (some ⟨g', 0, none⟩) len (bs.take at_ ++ ys ++ bs.drop (at_ + l2)) ∧ len ≤ c' ∧ c' ≤ maxLen ∧ w.grownBy w3 none := by
    intro v3 w3 o3 g3
    have B3 : Below w.heap.size w w3 := B2.trans (below_own g3 o2 s2)
    rw [← bv_append, ← bv_append, show at_ + l2 + (len - (at_ + l2)) = len by omega] at o3
    obtain ⟨a', c', e1, RR⟩ := owns_row o3 hby (by unfold maxLen; omega)
    obtain ⟨a'', c'', e2, k1, k2, k3⟩ := owns_form o3
    rw [e1] at e2
    injection e2 with e2 e3 e4
    subst e2 e4
    rcases k3 with ⟨_, h3, _⟩ | ⟨g', rfl, h3⟩
    · omega
    · exact ⟨g', c', e1, h3, RR, k1, k2, below_grown B3⟩
  have HF : Hid _ := hfin
  clear hfin hby B2 R2 hn2 R
  by_cases hcap : cap = at_ + l2
  · have e0 : len = at_ + l2 := by omega
    have RZ : Row w2 (some ⟨b, off, none⟩) (len - (at_ + l2)) (bs.drop (at_ + l2)) := by
      have e1 : len - (at_ + l2) = 0 := by omega
      have e2 : bs.drop (at_ + l2) = [] := List.drop_eq_nil_of_le (by omega)
      rw [e1, e2]; exact Row.none0 _
    subst hcap
    clear R4 e0
    go_wp2_with (at_builtin; refine wpList_append8 rfl _ _ 36 rfl w.heap.size i5 Tryz.underlying36 hi hz0 hz1 hz2 _ (at_ + l2) _ rfl o2 _ (len - (at_ + l2)) _ _ rfl RZ (fun e => by cases e) (by omega) s2 ?_)
    intro v3 w3 o3 g3
    have o3' : w3.ownsRow w.heap.size 5 1 v3 (at_ + l2 + (len - (at_ + l2))) (bv (bs.take at_) ++ bv ys ++ bv (bs.drop (at_ + l2))) := by
      rw [show at_ + l2 + (len - (at_ + l2)) = at_ + l2 by omega, List.append_assoc]
      exact o3
    obtain ⟨a', c', rfl, hr⟩ := HF.out v3 w3 o3' g3
    clear HF o3 o3' g3 o2 RZ
    go_wp2
    go_ret
    exact ⟨a', c', rfl, hr⟩
  · have RZ : Row w2 (some ⟨b, off + (at_ + l2), none⟩) (len - (at_ + l2)) (bs.drop (at_ + l2)) := by
      have := R4.part (at_ + l2) (len - (at_ + l2)) (by omega)
      rw [List.take_of_length_le (by simp; omega)] at this
      exact this
    clear R4
    go_wp2_with (at_builtin; refine wpList_append8 rfl _ _ 36 rfl w.heap.size i5 Tryz.underlying36 hi hz0 hz1 hz2 _ (at_ + l2) _ rfl o2 _ (len - (at_ + l2)) _ _ rfl RZ (fun e => by cases e) (by omega) s2 ?_)
    intro v3 w3 o3 g3
    have o3' : w3.ownsRow w.heap.size 5 1 v3 (at_ + l2 + (len - (at_ + l2))) (bv (bs.take at_) ++ bv ys ++ bv (bs.drop (at_ + l2))) := by
      rw [show at_ + l2 + (len - (at_ + l2)) = len by omega, List.append_assoc]
      exact o3
    obtain ⟨a', c', rfl, hr⟩ := HF.out v3 w3 o3' g3
    clear HF o3 o3' g3 o2 RZ
    go_wp2
    go_ret
    exact ⟨a', c', rfl, hr⟩

/-- a row that the call made, which may be written: n of its cells count -/
structure Own (e : TypeId) (w0 W : World) (g n cap : Nat) (xs : List Value) : Prop where
  cur : ∃ cur : List Value, W.heap[g]? = some (.cells cur.toArray e (0, 0)) ∧ cur.length = cap ∧ cur.take n = xs
  len : xs.length = n
  nc : n ≤ cap
  cm : cap ≤ maxLen
  new : w0.heap.size ≤ g
  grown : w0.grownBy W none
theorem own_of {e : TypeId} {w0 W : World} {v : Value} {n : Nat} {xs : List Value} (h : W.ownsRow w0.heap.size e 1 v n xs) (hg : w0.grownBy W none) (h0 : 0 < n) : ∃ g cap, v = .slice (some ⟨g, 0, none⟩) n cap ∧ Own e w0 W g n cap xs := by
  obtain ⟨h1, ⟨_, h2⟩ | ⟨g, cap, cur, rfl, hb, hgc, hc, hm, hs, ht⟩⟩ := h
  · omega
  · rw [Nat.mul_one] at h1 hs ht
    exact ⟨g, cap, rfl, ⟨cur.toList, by simpa using hgc, by simpa using hs, ht⟩, h1, hc, hm, hb, hg⟩
theorem Own.cell {e : TypeId} {w0 W : World} {g n cap : Nat} {xs : List Value} (h : Own e w0 W g n cap xs) (i : Nat) (hi : i < n) : W.cell? ⟨g, i, none⟩ = xs[i]? := by
  obtain ⟨cur, h1, h2, h3⟩ := h.cur
  simp only [World.cell?, h1]
  rw [← h3, List.getElem?_take, if_pos hi]
  simp
theorem Own.frozen {e : TypeId} {w0 W : World} {g n cap : Nat} {xs : List Value} (h : Own e w0 W g n cap xs) (i : Nat) : W.frozen? ⟨g, i, none⟩ = false := by
  obtain ⟨cur, h1, h2, h3⟩ := h.cur
  simp [World.frozen?, h1]
theorem Own.set {e : TypeId} {w0 W : World} {g n cap : Nat} {xs : List Value} (h : Own e w0 W g n cap xs) (i : Nat) (v : Value) (hi : i < n) : Own e w0 (W.setCell ⟨g, i, none⟩ v) g n cap (xs.set i v) := by
  obtain ⟨cur, h1, h2, h3⟩ := h.cur
  refine ⟨⟨cur.set i v, ?_, by simpa using h2, ?_⟩, by simpa using h.len, h.nc, h.cm, h.new, ?_⟩
  · rw [setCell_eq_setRow W g i _ _ _ _ h1, setRow_heap W g _ _ _ _ h1]
    simp
  · rw [← h3, List.take_set]
  · refine ⟨h.grown.os, h.grown.tape, h.grown.output, ?_, fun k hk hr => ?_⟩
    · simpa [World.setCell] using h.grown.size
    · have hne : k ≠ g := by have := h.new; omega
      rw [← h.grown.block k hk hr]
      exact Below.heap_setCell _ _ _ _ hne
theorem Own.row {w0 W : World} {g n cap : Nat} {bs : List Int} (h : Own 5 w0 W g n cap (bv bs)) (hb : Byt bs) : Row W (some ⟨g, 0, none⟩) n bs := by
  have hl := h.len
  rw [bv_length] at hl
  refine ⟨hl, Nat.le_trans h.nc h.cm, hb, fun _ => ⟨g, 0, rfl, fun i hi => ?_⟩⟩
  rw [Nat.zero_add, h.cell i hi, bv_getElem? _ _ (by omega)]

/-- bytes, the first of which are others' -/
def ovr (bs ts : List Int) : List Int := ts.take bs.length ++ bs.drop ts.length
def ovp (bs ts : List Int) (j : Nat) : List Int := ts.take j ++ bs.drop j
theorem ovp_step {bs ts : List Int} {j : Nat} (h1 : j < bs.length) (h2 : j < ts.length) : (bv (ovp bs ts j)).set j (.int .u8 (ts.getD j 0)) = bv (ovp bs ts (j + 1)) := by
  unfold ovp bv
  rw [← List.map_set, List.set_append_right _ _ (by simp; omega)]
  have e : j - (ts.take j).length = 0 := by simp; omega
  rw [e, List.drop_eq_getElem_cons h1, List.set_cons_zero, take_snocI ts j h2]
  simp
theorem ovp_end {bs ts : List Int} {j : Nat} (h1 : j ≤ bs.length) (h2 : j ≤ ts.length) (h : ¬ (j < bs.length ∧ j < ts.length)) : ovp bs ts j = ovr bs ts := by
  unfold ovp ovr
  by_cases c : j < ts.length
  · have e : j = bs.length := by omega
    rw [e, List.drop_eq_nil_of_le (Nat.le_refl _), List.drop_eq_nil_of_le (by omega)]
  · have e : j = ts.length := by omega
    rw [e, List.take_of_length_le (Nat.le_refl _), List.take_of_length_le (by omega)]
theorem ovp_len {bs ts : List Int} {j : Nat} (h1 : j ≤ bs.length) (h2 : j ≤ ts.length) : (ovp bs ts j).length = bs.length := by unfold ovp; simp; omega
theorem ovr_len (bs ts : List Int) : (ovr bs ts).length = bs.length := by unfold ovr; simp; omega
theorem ovr_byt {bs ts : List Int} (h1 : Byt bs) (h2 : Byt ts) : Byt (ovr bs ts) := (h2.take _).append (h1.drop _)

set_option maxHeartbeats 1000000 in
theorem over_any (a1 : Option Addr) (l1 c1 : Nat) (bs : List Int) (a2 : Option Addr) (l2 c2 : Nat) (ts : List Int) (w : World) (R1 : Row w a1 l1 bs) (R2 : Row w a2 l2 ts) (hn1 : a1 = none → c1 = 0) (hl : l1 ≤ 16777216) (h0 : 0 < l1) :
    Calls Tryz.prog 63 #[.slice a1 l1 c1, .slice a2 l2 c2] w fun e w' => ∃ g' c', e = .returned (.slice (some ⟨g', 0, none⟩) l1 c') ∧ w.heap.size ≤ g' ∧ Row w' (some ⟨g', 0, none⟩) l1 (ovr bs ts) ∧ l1 ≤ c' ∧ c' ≤ maxLen ∧ w.grownBy w' none := by
  obtain ⟨i5, hi, hz0, hz1, hz2⟩ := info_parts Tryz.info5
  have hmade := made8 w
  have gA : w.grownBy (w.alloc (.cells #[] 5)) none := World.grownBy_alloc _ _ _
  have R0 := R1.grown gA
  have hsz : w.heap.size ≤ (w.alloc (.cells #[] 5)).heap.size := by simp
  have hlb := R1.len_eq
  have hlt := R2.len_eq
  have hm2 : l2 ≤ 9223372036854775807 := R2.le
  go_enter Tryz.func63, Tryz.ntmps63
  go_wp2_with (at_builtin; refine wpList_append8 rfl _ _ 36 rfl w.heap.size i5 Tryz.underlying36 hi hz0 hz1 hz2 _ 0 [] rfl hmade _ l1 _ _ rfl R0 hn1 (by omega) hsz ?_)
  intro v1 w1 o1 g1
  have B1 : Below w.heap.size w w1 := (grown_below gA).trans ((below_own g1 hmade hsz).mono (Nat.le_refl _))
  obtain ⟨g, cap, rfl, O1⟩ := own_of o1 (below_grown B1) h0
  have e0 : bs = ovp bs ts 0 := by simp [ovp]
  have HO : Hid (Own 5 w w1 g l1 cap (bv (ovp bs ts 0))) := by rw [← e0]; exact O1
  have hb1 := R1.byt
  have hb2 := R2.byt
  clear o1 g1 hmade gA R0 hsz R1 B1 O1 e0 hi hz0 hz1 hz2
  go_wp2
  go_loopw [6] (fun vi wr => ∃ j : Nat, vi = .int .i64 j ∧ j ≤ l1 ∧ j ≤ l2 ∧ Hid (Own 5 w wr g l1 cap (bv (ovp bs ts j)))) (fun vi _ => l1 - (intOf vi).toNat)
  case atStart => exact ⟨0, rfl, Nat.zero_le _, Nat.zero_le _, HO⟩
  case round =>
    clear HO
    obtain ⟨j, rfl, j1, j2, HO⟩ := hrel
    by_cases k1 : j < l1
    · by_cases k2 : j < l2
      · obtain ⟨b, off, rfl, hc⟩ := (R2.grown HO.out.grown).cells (by omega)
        have ca := hc j k2
        have hx := hb2.getD j
        have hst := HO.out.set j (.int .u8 (ts.getD j 0)) k1
        rw [ovp_step (by omega) (by omega)] at hst
        have cb := HO.out.cell j k1
        rw [bv_getElem? _ _ (by rw [ovp_len (by omega) (by omega)]; omega)] at cb
        have fb := HO.out.frozen j
        have HS : Hid (Own 5 w (wr.setCell ⟨g, j, none⟩ (.int .u8 (ts.getD j 0))) g l1 cap (bv (ovp bs ts (j + 1)))) := hst
        clear hc hst HO
        generalize ts.getD j 0 = x at ca HS hx
        generalize (ovp bs ts j).getD j 0 = y at cb
        go_wp2
        go_roundw
        case rel => exact ⟨j + 1, by go_num, by omega, by omega, HS⟩
        case measure => simp [intOf]; omega
      · have hfin := HO.out
        rw [ovp_end (by omega) (by omega) (by omega)] at hfin
        have hr := hfin.row (ovr_byt hb1 hb2)
        have hgr := hfin.grown
        have n1 := hfin.nc
        have n2 := hfin.cm
        have n3 := hfin.new
        clear HO hfin
        go_wp2
        go_ret
        exact ⟨_, _, rfl, n3, hr, n1, n2, hgr⟩
    · have hfin := HO.out
      rw [ovp_end (by omega) (by omega) (by omega)] at hfin
      have hr := hfin.row (ovr_byt hb1 hb2)
      have hgr := hfin.grown
      have n1 := hfin.nc
      have n2 := hfin.cm
      have n3 := hfin.new
      clear HO hfin
      go_wp2
      go_ret
      exact ⟨_, _, rfl, n3, hr, n1, n2, hgr⟩
end Go.Proofs.YtfhgbddeclldnaaGreat

namespace Go.Proofs.YtfhgbddeclldnaaGreat
open Go.RowKit
set_option maxRecDepth 100000
set_option linter.unusedSimpArgs false
set_option linter.unusedVariables false

/-- the error that the document's Read tells -/
def rdE (len : Nat) (off : Bool) (at_ n : Int) : Int := if at_ < 0 ∨ n < 0 ∨ (len : Int) < at_ ∨ (len : Int) - at_ < n then 9 else if off then 40 else 0
/-- what the document's Read answers -/
def RdPost (w : World) (bs : List Int) (er : Int) (i m : Nat) (e : Ending) (w' : World) : Prop := w.grownBy w' none ∧ ∃ a' l' c' ys, e = .returned (.tuple #[.slice a' l' c', .int .i64 er]) ∧ Row w' a' l' ys ∧ l' ≤ c' ∧ c' ≤ maxLen ∧ ((er ≠ 0 ∧ ys = []) ∨ (er = 0 ∧ ys = (bs.drop i).take m))
theorem rd_bad (w : World) (o : Obj) (bs : List Int) (er : Int) (i m : Nat) (h : er ≠ 0) : RdPost w bs er i m (.returned (.tuple #[.slice none 0 0, .int .i64 er])) (w.alloc o) :=
  ⟨World.grownBy_alloc _ _ _, none, 0, 0, [], rfl, Row.none0 _, Nat.le_refl _, Nat.zero_le _, Or.inl ⟨h, rfl⟩⟩
theorem rd_good (w : World) (o : Obj) (bs : List Int) (i m : Nat) (a' : Option Addr) (c' : Nat) (R : Row w a' m ((bs.drop i).take m)) (h1 : m ≤ c') (h2 : c' ≤ maxLen) : RdPost w bs 0 i m (.returned (.tuple #[.slice a' m c', .int .i64 0])) (w.alloc o) :=
  ⟨World.grownBy_alloc _ _ _, a', m, c', _, rfl, R.grown (World.grownBy_alloc _ _ _), h1, h2, Or.inr ⟨rfl, rfl⟩⟩
set_option maxHeartbeats 1000000 in
theorem rread_any (s p b ops after : Int) (off : Bool) (bb bo len cB : Nat) (bs : List Int) (aD aW aT : Option Addr) (lD cD lW cW lT cT : Nat) (at_ n : Int) (w : World) (R : Row w (some ⟨bb, bo, none⟩) len bs) (hc : len ≤ cB) (hcm : cB ≤ 9223372036854775807) (hl : len ≤ 16777216)
    (ha : -9223372036854775808 ≤ at_ ∧ at_ ≤ 9223372036854775807) (hn : -9223372036854775808 ≤ n ∧ n ≤ 9223372036854775807) :
    Calls Tryz.prog 75 #[.agg #[.int .i64 s, .int .i64 p, .int .i64 b, .slice (some ⟨bb, bo, none⟩) len cB, .slice aD lD cD, .slice aW lW cW, .int .i64 ops, .bool off, .int .i64 after, .slice aT lT cT], .int .i64 at_, .int .i64 n] w
      fun e w' => RdPost w bs (rdE len off at_ n) at_.toNat n.toNat e w' := by
  unfold rdE
  by_cases h1 : at_ < 0
  · rw [if_pos (Or.inl h1)]
    go_enter Tryz.func75, Tryz.ntmps75
    go_wp2
    go_ret2
    exact rd_bad _ _ _ _ _ _ (by decide)
  · by_cases h2 : n < 0
    · rw [if_pos (Or.inr (Or.inl h2))]
      go_enter Tryz.func75, Tryz.ntmps75
      go_wp2
      go_ret2
      exact rd_bad _ _ _ _ _ _ (by decide)
    · obtain ⟨i, rfl⟩ := Int.eq_ofNat_of_zero_le (by omega : 0 ≤ at_)
      obtain ⟨m, rfl⟩ := Int.eq_ofNat_of_zero_le (by omega : 0 ≤ n)
      by_cases h3 : (len : Int) < i
      · rw [if_pos (Or.inr (Or.inr (Or.inl h3)))]
        go_enter Tryz.func75, Tryz.ntmps75
        go_wp2
        go_ret2
        exact rd_bad _ _ _ _ _ _ (by decide)
      · by_cases h4 : (len : Int) - i < m
        · rw [if_pos (Or.inr (Or.inr (Or.inr h4)))]
          go_enter Tryz.func75, Tryz.ntmps75
          go_wp2
          go_ret2
          exact rd_bad _ _ _ _ _ _ (by decide)
        · rw [if_neg (by omega)]
          cases off
          · have RP := R.part i m (by omega)
            by_cases hcc : cB = i
            · subst hcc
              have em : m = 0 := by omega
              subst em
              go_enter Tryz.func75, Tryz.ntmps75
              go_wp2
              go_ret2
              exact rd_good _ _ _ _ _ _ _ (by rw [List.take_zero]; exact Row.none0 _) (by omega) (by unfold maxLen; omega)
            · go_enter Tryz.func75, Tryz.ntmps75
              go_wp2
              go_ret2
              exact rd_good _ _ _ _ _ _ _ RP (by omega) (by unfold maxLen; omega)
          · go_enter Tryz.func75, Tryz.ntmps75
            go_wp2
            go_ret2
            exact rd_bad _ _ _ _ _ _ (by decide)

set_option maxHeartbeats 400000 in
theorem rboot_any (s p b ops after : Int) (off : Bool) (aB aD aW aT : Option Addr) (lB cB lD cD lW cW lT cT : Nat) (w : World) :
    Calls Tryz.prog 30 #[.agg #[.int .i64 s, .int .i64 p, .int .i64 b, .slice aB lB cB, .slice aD lD cD, .slice aW lW cW, .int .i64 ops, .bool off, .int .i64 after, .slice aT lT cT]] w
      fun e w' => e = .returned (.agg #[.int .i64 s, .int .i64 p, .int .i64 b, .slice aB lB cB, .slice aD lD cD, .slice aW lW cW, .int .i64 ops, .bool false, .int .i64 0, .slice none 0 0]) ∧ w.grownBy w' none := by
  go_enter Tryz.func30, Tryz.ntmps30
  go_wp2
  exact bodyPost_ret (v := .agg #[.int .i64 s, .int .i64 p, .int .i64 b, .slice aB lB cB, .slice aD lD cD, .slice aW lW cW, .int .i64 ops, .bool false, .int .i64 0, .slice none 0 0]) (by simp [results, Tryz.results30, go_sem]) rfl ⟨rfl, grown2 _ _ _⟩
end Go.Proofs.YtfhgbddeclldnaaGreat

namespace Go.Proofs.YtfhgbddeclldnaaGreat
open Go.RowKit
set_option maxRecDepth 100000
set_option linter.unusedSimpArgs false
set_option linter.unusedVariables false

structure RowE {α : Type} (enc : α → Value) (w : World) (a : Option Addr) (n : Nat) (xs : List α) : Prop where
  len_eq : xs.length = n
  le : n ≤ maxLen
  cells : 0 < n → ∃ b off, a = some ⟨b, off, none⟩ ∧ ∀ i x, xs[i]? = some x → w.cell? ⟨b, off + i, none⟩ = some (enc x)
theorem RowE.below {α : Type} {enc : α → Value} {w w' : World} {a : Option Addr} {n : Nat} {xs : List α} (h : RowE enc w a n xs) (hb : Below w.heap.size w w') : RowE enc w' a n xs := by
  refine ⟨h.len_eq, h.le, fun h0 => ?_⟩
  obtain ⟨b, off, e, hc⟩ := h.cells h0
  exact ⟨b, off, e, fun i x hi => by rw [hb.cell (p := ⟨b, off + i, none⟩) (cell_lt (hc i x hi))]; exact hc i x hi⟩
theorem RowE.grown {α : Type} {enc : α → Value} {w w' : World} {a : Option Addr} {n : Nat} {xs : List α} (h : RowE enc w a n xs) (hg : w.grownBy w' none) : RowE enc w' a n xs := h.below (grown_below hg)
theorem RowE.src {α : Type} {enc : α → Value} {w : World} {ad : Addr} {n : Nat} {xs : List α} (h : RowE enc w (some ad) n xs) : ∀ j u, (xs.map enc)[j]? = some u → w.cell? (ad.add j) = some u := by
  intro j u hj
  rw [List.getElem?_map] at hj
  obtain ⟨x, hx, rfl⟩ := Option.map_eq_some_iff.1 hj
  have h0 : 0 < n := by
    rw [← h.len_eq]
    exact Nat.lt_of_le_of_lt (Nat.zero_le j) (List.getElem?_eq_some_iff.1 hx).1
  obtain ⟨b, off, e, hc⟩ := h.cells h0
  injection e with e
  subst e
  have hadd : (⟨b, off, none⟩ : Addr).add j = ⟨b, off + j, none⟩ := by unfold Addr.add; split <;> simp_all
  rw [hadd]
  exact hc j x hx
/-- 'append' of such a row to an empty one of the call's own -/
theorem wpList_appendE {α : Type} {P : Program} {w : World} {ops : Array Oper} {rest : List Oper} {o : Oper} {a : Act} {Q : Exit → Act → World → Prop} (enc : α → Value) (h1c : ∀ x, (enc x).oneCell' = true) (hgd : o.guard = none) (s x : Operand) (t : TypeId)
    (ho : o.op = .call { callee := .builtin .append, args := #[s, x], argTypes := #[t, t] })
    (base : Nat) (e : TypeId) (i : TypeInfo) (z : Value) (by_ : Nat) (ht : P.underlying t = some (.slice e)) (hi : P.info? e = some i) (hz : i.zero = some z) (hsize : i.size = 1) (hby : i.bytes = by_) (hzc : z.cells.size = 1)
    (v : Value) (n : Nat) (xs : List Value) (hs : a.eval s = v) (hown : w.ownsRow base e 1 v n xs)
    (sa : Option Addr) (m c : Nat) (ys : List α) (hx : a.eval x = .slice sa m c) (R : RowE enc w sa m ys) (hsa : sa ≠ none)
    (hb : n + m ≤ 1000000) (hb2 : by_ ≤ 8) (hbase : base ≤ w.heap.size)
    (h : ∀ v' w', w'.ownsRow base e 1 v' (n + m) (xs ++ ys.map enc) → w.grownBy w' v.ownBlock → wpList P ops Q rest (a.put o.dst v') w') : wpList P ops Q (o :: rest) a w := by
  cases sa with
  | none => exact absurd rfl hsa
  | some ad =>
    refine wpList_append_own w hgd s x t ho base e i z 1 by_ ht hi hz hsize hby hzc (by decide) v n xs hs hown ad m c (ys.map enc) hx (by rw [List.length_map, R.len_eq, Nat.mul_one]) R.src ?_ (by unfold maxLen; omega) ?_ hbase (fun v' w' h1 h2 _ => h v' w' h1 h2)
    · intro u hu
      obtain ⟨y, _, rfl⟩ := List.mem_map.1 hu
      exact h1c y
    · have : (n + m) * by_ ≤ 1000000 * 8 := Nat.mul_le_mul hb hb2
      omega
theorem madeE (w : World) (e : TypeId) : (w.alloc (.cells #[] e)).ownsRow w.heap.size e 1 (.slice (some ⟨w.heap.size, 0, none⟩) 0 0) 0 [] := World.ownsRow_made _ #[] 0 (Nat.le_refl _) (Nat.zero_le _) rfl
theorem Own.rowE {α : Type} {enc : α → Value} {e : TypeId} {w0 W : World} {g n cap : Nat} {xs : List α} (h : Own e w0 W g n cap (xs.map enc)) : RowE enc W (some ⟨g, 0, none⟩) n xs := by
  have hl := h.len
  rw [List.length_map] at hl
  refine ⟨hl, Nat.le_trans h.nc h.cm, fun _ => ⟨g, 0, rfl, fun i x hx => ?_⟩⟩
  have hi : i < n := by rw [← hl]; exact (List.getElem?_eq_some_iff.1 hx).1
  rw [Nat.zero_add, h.cell i hi, List.getElem?_map, hx]; rfl

/-- a variable of several cells -/
structure Box (W : World) (g : Nat) (T : TypeId) (cs : List Value) : Prop where
  blk : W.heap[g]? = some (.cells cs.toArray T (0, 0))
theorem Box.lt {W : World} {g : Nat} {T : TypeId} {cs : List Value} (h : Box W g T cs) : g < W.heap.size := (Array.getElem?_eq_some_iff.1 h.blk).1
theorem Box.c {W : World} {g : Nat} {T : TypeId} {cs : List Value} (h : Box W g T cs) (i : Nat) : W.cell? ⟨g, i, none⟩ = cs[i]? := by simp [World.cell?, h.blk]
theorem Box.f {W : World} {g : Nat} {T : TypeId} {cs : List Value} (h : Box W g T cs) (i : Nat) : W.frozen? ⟨g, i, none⟩ = false := by simp [World.frozen?, h.blk]
theorem Box.set {W : World} {g : Nat} {T : TypeId} {cs : List Value} (h : Box W g T cs) (i : Nat) (v : Value) : Box (W.setCell ⟨g, i, none⟩ v) g T (cs.set i v) := by
  constructor
  rw [setCell_eq_setRow W g i _ _ _ _ h.blk, setRow_heap W g _ _ _ _ h.blk]
  simp
theorem Box.far {W : World} {g g' : Nat} {T : TypeId} {cs : List Value} (h : Box W g T cs) (i : Nat) (v : Value) (hne : g ≠ g') : Box (W.setCell ⟨g', i, none⟩ v) g T cs := by
  constructor
  rw [Below.heap_setCell _ _ _ _ hne]
  exact h.blk
theorem Box.below {W W' : World} {g B : Nat} {T : TypeId} {cs : List Value} (h : Box W g T cs) (hb : Below B W W') (hg : g < B) : Box W' g T cs := ⟨by rw [hb.block g hg]; exact h.blk⟩
theorem Box.grown {W W' : World} {g : Nat} {T : TypeId} {cs : List Value} (h : Box W g T cs) (hg : W.grownBy W' none) : Box W' g T cs := h.below (grown_below hg) h.lt
theorem Box.new (w : World) (T : TypeId) (cs : List Value) : Box (w.alloc (.cells cs.toArray T)) w.heap.size T cs := ⟨heap_alloc_new _ _⟩
theorem Box.c10 {W : World} {g : Nat} {T : TypeId} {v0 v1 v2 v3 v4 v5 v6 v7 v8 v9 : Value} (h : Box W g T [v0, v1, v2, v3, v4, v5, v6, v7, v8, v9]) :
    W.cell? ⟨g, 0, none⟩ = some v0 ∧ W.cell? ⟨g, 1, none⟩ = some v1 ∧ W.cell? ⟨g, 2, none⟩ = some v2 ∧ W.cell? ⟨g, 3, none⟩ = some v3 ∧ W.cell? ⟨g, 4, none⟩ = some v4 ∧ W.cell? ⟨g, 5, none⟩ = some v5 ∧ W.cell? ⟨g, 6, none⟩ = some v6 ∧ W.cell? ⟨g, 7, none⟩ = some v7 ∧ W.cell? ⟨g, 8, none⟩ = some v8 ∧ W.cell? ⟨g, 9, none⟩ = some v9 :=
  ⟨h.c 0, h.c 1, h.c 2, h.c 3, h.c 4, h.c 5, h.c 6, h.c 7, h.c 8, h.c 9⟩
theorem Box.f10 {W : World} {g : Nat} {T : TypeId} {cs : List Value} (h : Box W g T cs) :
    W.frozen? ⟨g, 0, none⟩ = false ∧ W.frozen? ⟨g, 1, none⟩ = false ∧ W.frozen? ⟨g, 2, none⟩ = false ∧ W.frozen? ⟨g, 3, none⟩ = false ∧ W.frozen? ⟨g, 4, none⟩ = false ∧ W.frozen? ⟨g, 5, none⟩ = false ∧ W.frozen? ⟨g, 6, none⟩ = false ∧ W.frozen? ⟨g, 7, none⟩ = false ∧ W.frozen? ⟨g, 8, none⟩ = false ∧ W.frozen? ⟨g, 9, none⟩ = false :=
  ⟨h.f 0, h.f 1, h.f 2, h.f 3, h.f 4, h.f 5, h.f 6, h.f 7, h.f 8, h.f 9⟩
theorem below_ownE {w w' : World} {base t : Nat} {v : Value} {n : Nat} {xs : List Value} (hg : w.grownBy w' v.ownBlock) (ho : w.ownsRow base t 1 v n xs) (hb : base ≤ w.heap.size) : Below base w w' :=
  ⟨hg.os, hg.tape, hg.output, hg.size, fun k hk => hg.block k (by omega) (fun e => by have := (ho.lt k e.symm).1; omega)⟩
theorem RowE.far {α : Type} {enc : α → Value} {w : World} {b off n g : Nat} {xs : List α} (h : RowE enc w (some ⟨b, off, none⟩) n xs) (hne : b ≠ g) (i : Nat) (v : Value) : RowE enc (w.setCell ⟨g, i, none⟩ v) (some ⟨b, off, none⟩) n xs := by
  refine ⟨h.len_eq, h.le, fun h0 => ?_⟩
  obtain ⟨b', off', e, hc⟩ := h.cells h0
  injection e with e
  injection e with e1 e2
  subst e1 e2
  exact ⟨b, off, rfl, fun k x hk => by rw [World.cell?_setCell_other _ _ _ _ (by intro e'; simp only [Addr.mk.injEq] at e'; exact hne e'.1.symm)]; exact hc k x hk⟩
theorem Own.far {e : TypeId} {w0 W : World} {g n cap g' : Nat} {xs : List Value} (h : Own e w0 W g n cap xs) (hne : g ≠ g') (hold : w0.heap.size ≤ g') (i : Nat) (v : Value) : Own e w0 (W.setCell ⟨g', i, none⟩ v) g n cap xs := by
  obtain ⟨cur, h1, h2, h3⟩ := h.cur
  refine ⟨⟨cur, ?_, h2, h3⟩, h.len, h.nc, h.cm, h.new, ?_⟩
  · rw [Below.heap_setCell _ _ _ _ hne]; exact h1
  · refine ⟨h.grown.os, h.grown.tape, h.grown.output, ?_, fun k hk hr => ?_⟩
    · simpa [World.setCell] using h.grown.size
    · have hne' : k ≠ g' := by omega
      rw [← h.grown.block k hk hr]
      exact Below.heap_setCell _ _ _ _ hne'
/-- an own row, without what was there before -/
structure Own0 (e : TypeId) (W : World) (g n cap : Nat) (xs : List Value) : Prop where
  cur : ∃ cur : List Value, W.heap[g]? = some (.cells cur.toArray e (0, 0)) ∧ cur.length = cap ∧ cur.take n = xs
  len : xs.length = n
  nc : n ≤ cap
  cm : cap ≤ maxLen
theorem Own.own0 {e : TypeId} {w0 W : World} {g n cap : Nat} {xs : List Value} (h : Own e w0 W g n cap xs) : Own0 e W g n cap xs := ⟨h.cur, h.len, h.nc, h.cm⟩
theorem Own0.set {e : TypeId} {W : World} {g n cap : Nat} {xs : List Value} (h : Own0 e W g n cap xs) (i : Nat) (v : Value) : Own0 e (W.setCell ⟨g, i, none⟩ v) g n cap (xs.set i v) := by
  obtain ⟨cur, h1, h2, h3⟩ := h.cur
  refine ⟨⟨cur.set i v, ?_, by simpa using h2, ?_⟩, by simpa using h.len, h.nc, h.cm⟩
  · rw [setCell_eq_setRow W g i _ _ _ _ h1, setRow_heap W g _ _ _ _ h1]
    simp
  · rw [← h3, List.take_set]
theorem Own0.far {e : TypeId} {W : World} {g n cap g' : Nat} {xs : List Value} (h : Own0 e W g n cap xs) (hne : g ≠ g') (i : Nat) (v : Value) : Own0 e (W.setCell ⟨g', i, none⟩ v) g n cap xs := by
  obtain ⟨cur, h1, h2, h3⟩ := h.cur
  exact ⟨⟨cur, by rw [Below.heap_setCell _ _ _ _ hne]; exact h1, h2, h3⟩, h.len, h.nc, h.cm⟩
theorem Own0.rowE {α : Type} {enc : α → Value} {e : TypeId} {W : World} {g n cap : Nat} {xs : List α} (h : Own0 e W g n cap (xs.map enc)) : RowE enc W (some ⟨g, 0, none⟩) n xs := by
  have hl := h.len
  rw [List.length_map] at hl
  refine ⟨hl, Nat.le_trans h.nc h.cm, fun _ => ⟨g, 0, rfl, fun i x hx => ?_⟩⟩
  have hi : i < n := by rw [← hl]; exact (List.getElem?_eq_some_iff.1 hx).1
  obtain ⟨cur, h1, h2, h3⟩ := h.cur
  simp only [World.cell?, h1]
  have : cur[i]? = some (enc x) := by
    have h4 : (cur.take n)[i]? = (xs.map enc)[i]? := by rw [h3]
    rw [List.getElem?_take, if_pos hi, List.getElem?_map, hx] at h4
    exact h4
  simpa using this
end Go.Proofs.YtfhgbddeclldnaaGreat

namespace Go.Proofs.YtfhgbddeclldnaaGreat
open Go.RowKit
set_option maxRecDepth 100000
set_option linter.unusedSimpArgs false
set_option linter.unusedVariables false

/-- the error that the document's Write tells ahead of all -/
def wrE (nD : Nat) (by_ : Int) (off : Bool) (D : List Bool) (page : Int) (l2 : Nat) : Int := if page < 0 ∨ (nD : Int) ≤ page then 9 else if by_ < l2 then 2 else if off then 40 else if D.getD page.toNat false then 41 else 0
set_option maxHeartbeats 2000000 in
theorem rwrite_bad (s p b ops after : Int) (off : Bool) (aB aD aW aT : Option Addr) (lB cB lD cD lW cW lT cT : Nat) (D : List Bool) (page : Int) (a2 : Option Addr) (l2 c2 : Nat) (w : World) (RD : RowE Value.bool w aD lD D) (hl : lD ≤ 1000000) (hl2 : l2 ≤ 9223372036854775807) (hp : -9223372036854775808 ≤ page ∧ page ≤ 9223372036854775807)
    (hE : wrE lD b off D page l2 ≠ 0) :
    Calls Tryz.prog 26 #[.agg #[.int .i64 s, .int .i64 p, .int .i64 b, .slice aB lB cB, .slice aD lD cD, .slice aW lW cW, .int .i64 ops, .bool off, .int .i64 after, .slice aT lT cT], .int .i64 page, .slice a2 l2 c2] w
      fun e w' => e = .returned (.tuple #[.agg #[.int .i64 s, .int .i64 p, .int .i64 b, .slice aB lB cB, .slice aD lD cD, .slice aW lW cW, .int .i64 ops, .bool off, .int .i64 after, .slice aT lT cT], .int .i64 (wrE lD b off D page l2)]) ∧ w.grownBy w' none := by
  unfold wrE at *
  by_cases h1 : page < 0
  · rw [if_pos (Or.inl h1)]
    clear hE
    go_enter Tryz.func26, Tryz.ntmps26
    go_wp2
    exact bodyPost_ret (v := .tuple #[.agg #[.int .i64 s, .int .i64 p, .int .i64 b, .slice aB lB cB, .slice aD lD cD, .slice aW lW cW, .int .i64 ops, .bool off, .int .i64 after, .slice aT lT cT], .int .i64 9]) (by simp [results, Tryz.results26, go_sem]) rfl ⟨rfl, grown2 _ _ _⟩
  · obtain ⟨i, rfl⟩ := Int.eq_ofNat_of_zero_le (by omega : 0 ≤ page)
    by_cases h2 : (lD : Int) ≤ i
    · rw [if_pos (Or.inr h2)]
      clear hE
      go_enter Tryz.func26, Tryz.ntmps26
      go_wp2
      exact bodyPost_ret (v := .tuple #[.agg #[.int .i64 s, .int .i64 p, .int .i64 b, .slice aB lB cB, .slice aD lD cD, .slice aW lW cW, .int .i64 ops, .bool off, .int .i64 after, .slice aT lT cT], .int .i64 9]) (by simp [results, Tryz.results26, go_sem]) rfl ⟨rfl, grown2 _ _ _⟩
    · rw [if_neg (by omega)] at hE ⊢
      by_cases h3 : b < l2
      · rw [if_pos h3]
        clear hE
        go_enter Tryz.func26, Tryz.ntmps26
        go_wp2
        exact bodyPost_ret (v := .tuple #[.agg #[.int .i64 s, .int .i64 p, .int .i64 b, .slice aB lB cB, .slice aD lD cD, .slice aW lW cW, .int .i64 ops, .bool off, .int .i64 after, .slice aT lT cT], .int .i64 2]) (by simp [results, Tryz.results26, go_sem]) rfl ⟨rfl, grown2 _ _ _⟩
      · rw [if_neg h3] at hE ⊢
        cases off
        · rw [if_neg (by decide)] at hE ⊢
          simp only [Int.toNat_natCast] at hE ⊢
          have hD : D.getD i false = true := by
            by_cases hd : D.getD i false = true
            · exact hd
            · exact absurd (if_neg hd) hE
          rw [if_pos hD]
          have hlD := RD.len_eq
          obtain ⟨db, dof, rfl, hc⟩ := RD.cells (by omega)
          have hDi : D[i]? = some true := by
            rw [List.getD_eq_getElem?_getD, List.getElem?_eq_getElem (by omega)] at hD
            rw [List.getElem?_eq_getElem (by omega)]
            simpa using hD
          have hcell := hc i true hDi
          have hlt := cell_lt hcell
          clear hE hc RD
          go_enter Tryz.func26, Tryz.ntmps26
          go_wp2
          exact bodyPost_ret (v := .tuple #[.agg #[.int .i64 s, .int .i64 p, .int .i64 b, .slice aB lB cB, .slice (some ⟨db, dof, none⟩) lD cD, .slice aW lW cW, .int .i64 ops, .bool false, .int .i64 after, .slice aT lT cT], .int .i64 41]) (by simp [results, Tryz.results26, go_sem]) rfl ⟨rfl, grown2 _ _ _⟩
        · rw [if_pos rfl]
          clear hE
          go_enter Tryz.func26, Tryz.ntmps26
          go_wp2
          exact bodyPost_ret (v := .tuple #[.agg #[.int .i64 s, .int .i64 p, .int .i64 b, .slice aB lB cB, .slice aD lD cD, .slice aW lW cW, .int .i64 ops, .bool true, .int .i64 after, .slice aT lT cT], .int .i64 40]) (by simp [results, Tryz.results26, go_sem]) rfl ⟨rfl, grown2 _ _ _⟩
end Go.Proofs.YtfhgbddeclldnaaGreat
