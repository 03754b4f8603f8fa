/- Contracts of Fits and Store. Contracts of Set and Part, and of the document's Set. A variable of several cells. Contracts of readers. 'append(x, make([]byte, n)...)' on a row of the call's own: so many zeros more. Contracts of writers. -/
import Derived.WalkSpells
import Derived.Laws.AppendOwnNone
import Derived.Deep.RegionHeld
import Derived.Deep.DrawnRows
import Derived.WalkSmall
import Derived.Test.YtfhgbddeclldnaaN01
import Derived.Test.YtfhgbddeclldnaaN09
namespace Go.Proofs.Ytfhgbddeclldnaa.Fi
open Go.RowKit
set_option maxRecDepth 100000
set_option linter.unusedSimpArgs false
set_option linter.unusedVariables false

def fits (n : Int) (m : Nat) : Bool := n / 256 ^ m == 0

theorem fits_lg {n : Int} {m : Nat} (hW : isW m = true) (h0 : 0 ≤ n) : fits n m = !decide (lg m < n) := by
  have hm := isW_pos hW
  unfold fits
  rw [Bool.eq_iff_iff]
  obtain rfl | rfl | rfl | rfl : m = 1 ∨ m = 2 ∨ m = 4 ∨ m = 8 := by omega
  · have e : lg ((1 : Nat) : Int) = 255 := by decide
    rw [e]; simp; omega
  · have e : lg ((2 : Nat) : Int) = 65535 := by decide
    rw [e]; simp; omega
  · have e : lg ((4 : Nat) : Int) = 4294967295 := by decide
    rw [e]; simp; omega
  · have e : lg ((8 : Nat) : Int) = 18446744073709551615 := by decide
    rw [e]; simp; omega

theorem ckE_fits {n : Int} {m : Nat} (hW : isW m = true) (h0 : 0 ≤ n) : ckE n m = if fits n m then 0 else 9 := by
  rw [fits_lg hW h0]
  by_cases h : lg m < n <;> simp [ckE, hW, h]

end Go.Proofs.Ytfhgbddeclldnaa.Fi

namespace Go.Proofs.Ytfhgbddeclldnaa.Fi
open Go.RowKit
set_option maxRecDepth 100000
set_option linter.unusedSimpArgs false
set_option linter.unusedVariables false

theorem _root_.Go.Proofs.Ytfhgbddeclldnaa.Row.cut {w : World} {a : Option Addr} {len : Nat} {bs : List Int} (R : Row w a len bs) (k m : Nat) (h : k + m ≤ len) : Row w (a.map (·.add k)) m ((bs.drop k).take m) := by
  have hl := R.len_eq
  refine ⟨by simp; omega, by have := R.le; omega, (R.byt.drop k).take m, fun h0 => ?_⟩
  obtain ⟨b, off, rfl, hc⟩ := R.cells (by omega)
  have hadd : (⟨b, off, none⟩ : Addr).add k = ⟨b, off + k, none⟩ := by unfold Addr.add; split <;> simp_all
  refine ⟨b, off + k, by simp [hadd], fun i hi => ?_⟩
  rw [Nat.add_assoc, hc (k + i) (by omega), getD_take _ _ _ hi, List.getD_eq_getElem?_getD, List.getD_eq_getElem?_getD, List.getElem?_drop]
theorem _root_.Go.Proofs.Ytfhgbddeclldnaa.Row.zero {w : World} (a : Option Addr) (bs : List Int) (k m : Nat) (h : m = 0) : Row w a m ((bs.drop k).take m) := by
  subst h
  exact ⟨by simp, Nat.zero_le _, fun n hn => by simp at hn, fun h => absurd h (by omega)⟩

set_option maxHeartbeats 400000 in
theorem part_ok (a : Option Addr) (len cap : Nat) (bs : List Int) (k m : Nat) (w : World) (R : Row w a len bs) (hc : len ≤ cap) (hl : len ≤ 140737488355328) (hin : k + m ≤ len) :
    Calls Try.prog 80 #[.slice a len cap, .int .i64 k, .int .i64 m] w fun e w' => e = .returned (.tuple #[.slice (some ⟨w.heap.size, 0, none⟩) m m, .int .i64 0]) ∧ Blk w' w.heap.size (bv ((bs.drop k).take m)) ∧ w.grownBy w' none ∧ w'.heap.size = w.heap.size + 1 := by
  have hH := holds_any a len cap k m w R.le (by omega) (by omega) (by omega)
  have hi : inB len k m = true := by simp [inB]; omega
  go_enter Try.func80, Try.ntmps80
  go_wp2_with (first | (go_at_call 79; refine hH.mono ?_; rintro e w' ⟨rfl, rfl⟩))
  · refine (fresh_any _ m _ _ w (Row.zero a bs k m (by omega)) (by omega)).mono ?_
    rintro e w1 ⟨rfl, hb1, hg1, hs1⟩
    go_wp2
    go_ret2
    exact ⟨rfl, hb1, hg1, hs1⟩
  · refine (fresh_any _ m _ _ w (R.cut k m hin) (by omega)).mono ?_
    rintro e w1 ⟨rfl, hb1, hg1, hs1⟩
    go_wp2
    go_ret2
    exact ⟨rfl, hb1, hg1, hs1⟩

theorem part_no (a : Option Addr) (len cap : Nat) (k m : Int) (w : World) (hl : len ≤ maxLen) (h1 : k ≤ 9223372036854775807) (h2 : m ≤ 9223372036854775807) (hin : inB len k m = false) :
    Calls Try.prog 80 #[.slice a len cap, .int .i64 k, .int .i64 m] w fun e w' => e = .returned (.tuple #[.slice none 0 0, .int .i64 9]) ∧ w = w' := by
  by_cases hm : m < 0
  · go_enter Try.func80, Try.ntmps80
    go_wp2
    go_ret2
    exact ⟨rfl, rfl⟩
  · have hH := holds_any a len cap k m w hl (by omega) h2 h1
    have hd : decide (m < 0) = false := by simpa using hm
    go_enter Try.func80, Try.ntmps80
    go_wp2_with (first | (go_at_call 79; refine hH.mono ?_; rintro e w' ⟨rfl, rfl⟩))
    go_ret2
    exact ⟨rfl, rfl⟩

theorem bv_splice (bs : List Int) (k : Nat) (xs : List Int) : bv (splice bs k xs) = splice (bv bs) k (bv xs) := by
  simp [bv, splice, List.map_take, List.map_drop]

theorem _root_.Go.Proofs.Ytfhgbddeclldnaa.Row.none_of {w : World} (a : Option Addr) {len : Nat} {bs : List Int} (h : len = 0) (hb : bs.length = len) : Row w a len bs := by
  subst h
  obtain rfl : bs = [] := List.eq_nil_of_length_eq_zero hb
  exact ⟨rfl, Nat.zero_le _, fun n hn => by simp at hn, fun h => absurd h (by omega)⟩
theorem map_add (b off k : Nat) : (some ⟨b, off, none⟩ : Option Addr).map (·.add k) = some ⟨b, off + k, none⟩ := by
  have hadd : (⟨b, off, none⟩ : Addr).add k = ⟨b, off + k, none⟩ := by unfold Addr.add; split <;> simp_all
  simp [hadd]

end Go.Proofs.Ytfhgbddeclldnaa.Fi

namespace Go.Proofs.Ytfhgbddeclldnaa.Fi
open Go.RowKit
set_option maxRecDepth 100000
set_option linter.unusedSimpArgs false
set_option linter.unusedVariables false

/-- block p is a row of these cells, of this type, which may be written -/
def SBlk (w : World) (p : Nat) (cs : List Value) (t : TypeId) : Prop := w.heap[p]? = some (.cells cs.toArray t (0, 0))
theorem SBlk.lt {w : World} {p : Nat} {cs : List Value} {t : TypeId} (h : SBlk w p cs t) : p < w.heap.size := (Array.getElem?_eq_some_iff.1 h).1
theorem SBlk.cell {w : World} {p : Nat} {cs : List Value} {t : TypeId} (h : SBlk w p cs t) (i : Nat) : w.cell? ⟨p, i, none⟩ = cs[i]? := by
  unfold SBlk at h; simp [World.cell?, h]
theorem SBlk.c0 {w : World} {p : Nat} {a : Value} {l : List Value} {t : TypeId} (h : SBlk w p (a :: l) t) : w.cell? ⟨p, 0, none⟩ = some a := h.cell 0
theorem SBlk.c1 {w : World} {p : Nat} {a b : Value} {l : List Value} {t : TypeId} (h : SBlk w p (a :: b :: l) t) : w.cell? ⟨p, 1, none⟩ = some b := h.cell 1
theorem SBlk.c2 {w : World} {p : Nat} {a b c : Value} {l : List Value} {t : TypeId} (h : SBlk w p (a :: b :: c :: l) t) : w.cell? ⟨p, 2, none⟩ = some c := h.cell 2
theorem SBlk.frozen {w : World} {p : Nat} {cs : List Value} {t : TypeId} (h : SBlk w p cs t) (i : Nat) : w.frozen? ⟨p, i, none⟩ = false := by
  unfold SBlk at h; simp [World.frozen?, h]
theorem SBlk.set {w : World} {p : Nat} {cs : List Value} {t : TypeId} (h : SBlk w p cs t) (i : Nat) (v : Value) : SBlk (w.setCell ⟨p, i, none⟩ v) p (cs.set i v) t := by
  unfold SBlk at h ⊢
  rw [setCell_eq_setRow w p i _ _ _ v h, setRow_heap w p _ _ _ _ h]
  simp
theorem SBlk.grown {w w' : World} {p : Nat} {cs : List Value} {t : TypeId} {row : Option Nat} (h : SBlk w p cs t) (hg : w.grownBy w' row) (hr : some p ≠ row) : SBlk w' p cs t := by
  unfold SBlk; rw [hg.block p h.lt hr]; exact h
theorem SBlk.below {w w' : World} {p B : Nat} {cs : List Value} {t : TypeId} (h : SBlk w p cs t) (hb : Below B w w') (hr : p < B) : SBlk w' p cs t := by
  unfold SBlk; rw [hb.block p hr]; exact h
theorem alloc_sblk (w : World) (cs : List Value) (t : TypeId) : SBlk (w.alloc (.cells cs.toArray t)) w.heap.size cs t := heap_alloc_new _ _
theorem grown_drew (w : World) (row : Option Nat) : w.grownBy w.drew row := ⟨rfl, rfl, rfl, Nat.le_refl _, fun _ _ _ => rfl⟩
theorem grown_some {a b : World} (h : a.grownBy b none) (row : Option Nat) : a.grownBy b row := ⟨h.os, h.tape, h.output, h.size, fun k hk _ => h.block k hk (by simp)⟩

end Go.Proofs.Ytfhgbddeclldnaa.Fi

namespace Go.Proofs.Ytfhgbddeclldnaa.Fi
open Go.RowKit
set_option maxRecDepth 100000
set_option linter.unusedSimpArgs false
set_option linter.unusedVariables false
attribute [local go_sem ↓] Go.wp_at_zero Go.wp_at_succ

/-- a reader at p over the row g: its bytes, its place, its error -/
structure RInv (w : World) (p g : Nat) (bs : List Int) (at_ : Nat) (e : Int) : Prop where
  blk : SBlk w p [.slice (some ⟨g, 0, none⟩) bs.length bs.length, .int .i64 at_, .int .i64 e] 116
  row : Blk w g (bv bs)
  byt : Byt bs
  len : bs.length ≤ 2000000
  at_le : at_ ≤ bs.length
  ne : g ≠ p

theorem RInv.Row {w : World} {p g : Nat} {bs : List Int} {at_ : Nat} {e : Int} (h : RInv w p g bs at_ e) : Row w (some ⟨g, 0, none⟩) bs.length bs := h.row.row h.byt (by have := h.len; unfold maxLen; omega)
theorem RInv.grown {w w' : World} {p g : Nat} {bs : List Int} {at_ : Nat} {e : Int} {row : Option Nat} (h : RInv w p g bs at_ e) (hg : w.grownBy w' row) (h1 : some p ≠ row) (h2 : some g ≠ row) : RInv w' p g bs at_ e :=
  ⟨h.blk.grown hg h1, h.row.grown hg h2, h.byt, h.len, h.at_le, h.ne⟩
theorem RInv.setE {w : World} {p g : Nat} {bs : List Int} {at_ : Nat} {e : Int} (h : RInv w p g bs at_ e) (e' : Int) : RInv (w.setCell ⟨p, 2, none⟩ (.int .i64 e')) p g bs at_ e' :=
  ⟨h.blk.set 2 (.int .i64 e'), h.row.grown (grown_set w p 2 _) (by have := h.ne; simp [this]), h.byt, h.len, h.at_le, h.ne⟩
theorem RInv.setAt {w : World} {p g : Nat} {bs : List Int} {at_ : Nat} {e : Int} (h : RInv w p g bs at_ e) (k : Nat) (hk : k ≤ bs.length) : RInv (w.setCell ⟨p, 1, none⟩ (.int .i64 k)) p g bs k e :=
  ⟨h.blk.set 1 (.int .i64 k), h.row.grown (grown_set w p 1 _) (by have := h.ne; simp [this]), h.byt, h.len, hk, h.ne⟩
theorem RInv.drew {w : World} {p g : Nat} {bs : List Int} {at_ : Nat} {e : Int} (h : RInv w p g bs at_ e) : RInv w.drew p g bs at_ e := ⟨h.blk, h.row, h.byt, h.len, h.at_le, h.ne⟩

theorem rstop_any (p : Nat) (x y : Value) (e : Int) (w : World) (hB : SBlk w p [x, y, .int .i64 e] 116) :
    Calls Try.prog 73 #[.pointer (some ⟨p, 0, none⟩)] w fun r w' => r = .returned (.bool (e != 0)) ∧ w = w' := by
  have c2 := hB.c2
  go_enter Try.func73, Try.ntmps73
  go_wp2
  go_ret
  exact ⟨rfl, rfl⟩

def inR (x : Int) : Int := if x = 9 then 6 else x
theorem inr_any (x : Int) (w : World) : Calls Try.prog 75 #[.int .i64 x] w fun r w' => r = .returned (.int .i64 (inR x)) ∧ w = w' := by
  by_cases h : x = 9
  · subst h
    go_enter Try.func75, Try.ntmps75
    go_wp2
    go_ret
    exact ⟨rfl, rfl⟩
  · have hb : (x == 9) = false := by simpa using h
    go_enter Try.func75, Try.ntmps75
    go_wp2
    go_ret
    exact ⟨by simp [inR, h], rfl⟩

/-- a reader that stands still answers 0 -/
theorem rnum_stop (p : Nat) (x y : Value) (e n : Int) (w : World) (hB : SBlk w p [x, y, .int .i64 e] 116) (he : (e != 0) = true) :
    Calls Try.prog 55 #[.pointer (some ⟨p, 0, none⟩), .int .i64 n] w fun r w' => r = .returned (.int .u64 0) ∧ w = w' := by
  go_enter Try.func55, Try.ntmps55
  go_wp2_with (go_at_call 73; refine (rstop_any p x y e w hB).mono ?_; rintro e w' ⟨rfl, rfl⟩)
  go_ret
  exact ⟨rfl, rfl⟩

theorem cast_add (a b : Nat) : ((a + b : Nat) : Int) = (a : Int) + b := by omega
theorem RInv.setAt' {w : World} {p g : Nat} {bs : List Int} {at_ : Nat} {e : Int} (h : RInv w p g bs at_ e) (m : Nat) (hk : at_ + m ≤ bs.length) : RInv (w.setCell ⟨p, 1, none⟩ (.int .i64 ((at_ : Int) + m))) p g bs (at_ + m) e := by
  rw [← cast_add]; exact h.setAt _ hk
theorem grown_set_drew (w : World) (g i : Nat) (v : Value) : w.grownBy (w.setCell ⟨g, i, none⟩ v).drew (some g) := grown_trans (grown_set w g i v) (grown_drew _ _)

set_option maxHeartbeats 800000 in
theorem rnum_ok (p g : Nat) (bs : List Int) (at_ m : Nat) (w : World) (hI : RInv w p g bs at_ 0) (hW : isW m = true) (hin : at_ + m ≤ bs.length) :
    Calls Try.prog 55 #[.pointer (some ⟨p, 0, none⟩), .int .i64 m] w fun r w' => r = .returned (.int .u64 (le ((bs.drop at_).take m))) ∧ RInv w' p g bs (at_ + m) 0 ∧ w.grownBy w' (some p) := by
  have hlen := hI.len
  have hB := hI.blk
  have c0 := hB.c0
  have c1 := hB.c1
  have f1 := hB.frozen 1
  have hm := isW_pos hW
  have hG := get_any (some ⟨g, 0, none⟩) bs.length bs.length bs at_ m w.drew hI.drew.Row (by omega) (by omega)
  rw [getV_in hW hin, getE_in hW hin] at hG
  generalize le ((bs.drop at_).take m) = V at *
  go_enter Try.func55, Try.ntmps55
  go_wp2_with (go_at_call 73; refine (rstop_any p _ _ 0 w hB).mono ?_; rintro e w' ⟨rfl, rfl⟩)
  go_region_held (fun w' => w'.cell? ⟨p, 0, none⟩ = some (.slice (some ⟨g, 0, none⟩) bs.length bs.length) ∧ w'.cell? ⟨p, 1, none⟩ = some (.int .i64 at_)) (go_keep) (first | (go_at_call 74; refine hG.mono ?_; rintro e w' ⟨rfl, rfl⟩))
  go_wp2_with fail
  go_ret
  exact ⟨rfl, (hI.setAt' m hin).drew, grown_set_drew _ _ _ _⟩

set_option maxHeartbeats 800000 in
theorem rnum_bad (p g : Nat) (bs : List Int) (at_ : Nat) (n : Int) (w : World) (hI : RInv w p g bs at_ 0) (hn : n ≤ 9223372036854775807) (E : Int) (hE : getE bs.length at_ n = E) (hE0 : (E != 0) = true) :
    Calls Try.prog 55 #[.pointer (some ⟨p, 0, none⟩), .int .i64 n] w fun r w' => r = .returned (.int .u64 0) ∧ RInv w' p g bs at_ (inR E) ∧ w.grownBy w' (some p) := by
  have hlen := hI.len
  have hat := hI.at_le
  have hB := hI.blk
  have c0 := hB.c0
  have c1 := hB.c1
  have c2 := hB.c2
  have f2 := hB.frozen 2
  have hG := get_any (some ⟨g, 0, none⟩) bs.length bs.length bs at_ n w.drew hI.drew.Row (by omega) hn
  rw [hE] at hG
  clear hE
  go_enter Try.func55, Try.ntmps55
  go_wp2_with (go_at_call 73; refine (rstop_any p _ _ 0 w hB).mono ?_; rintro e w' ⟨rfl, rfl⟩)
  go_region_held (fun w' => w'.cell? ⟨p, 0, none⟩ = some (.slice (some ⟨g, 0, none⟩) bs.length bs.length) ∧ w'.cell? ⟨p, 1, none⟩ = some (.int .i64 at_)) (go_keep) (first | (go_at_call 74; refine hG.mono ?_; rintro e w' ⟨rfl, rfl⟩))
  go_wp2_with (go_at_call 75; refine (inr_any _ _).mono ?_; rintro e w' ⟨rfl, rfl⟩)
  go_ret
  exact ⟨rfl, (hI.setE (inR E)).drew, grown_set_drew _ _ _ _⟩

/-- bytes that a call told: nothing, or a row of their own -/
def Res (w w' : World) (v : Value) (t : List Int) : Prop := (v = .slice none 0 0 ∧ t = []) ∨ ∃ g, v = .slice (some ⟨g, 0, none⟩) t.length t.length ∧ Blk w' g (bv t) ∧ w.heap.size ≤ g

set_option maxHeartbeats 800000 in
theorem take_ok (p g : Nat) (bs : List Int) (at_ h m : Nat) (w : World) (hI : RInv w p g bs at_ 0) (hin : at_ + h + m ≤ bs.length) :
    Calls Try.prog 76 #[.pointer (some ⟨p, 0, none⟩), .int .i64 h, .int .i64 m] w fun r w' => ∃ v, r = .returned v ∧ Res w w' v ((bs.drop (at_ + h)).take m) ∧ RInv w' p g bs (at_ + (h + m)) 0 ∧ w.grownBy w' (some p) := by
  have hlen := hI.len
  have hB := hI.blk
  have c0 := hB.c0
  have c1 := hB.c1
  have f1 := hB.frozen 1
  have hP := part_ok (some ⟨g, 0, none⟩) bs.length bs.length bs (at_ + h) m w.drew hI.drew.Row (Nat.le_refl _) (by omega) hin
  rw [cast_add] at hP
  have hwr : IntKind.i64.wrap ((at_ : Int) + h) = (at_ : Int) + h := by rw [IntKind.wrap_i64]; omega
  have hml : ((bs.drop (at_ + h)).take m).length = m := by simp; omega
  go_enter Try.func76, Try.ntmps76
  go_wp2
  go_region_held (fun w' => w'.cell? ⟨p, 0, none⟩ = some (.slice (some ⟨g, 0, none⟩) bs.length bs.length) ∧ w'.cell? ⟨p, 1, none⟩ = some (.int .i64 at_)) (first | go_keep | exact ⟨by assumption, by assumption⟩) (first | (go_at_call 80; refine hP.mono ?_; rintro e w1 ⟨rfl, hb1, hg1, hs1⟩; have hI1 := hI.drew.grown hg1 (by simp) (by simp); have d0 := hI1.blk.c0; have d1 := hI1.blk.c1; have e1 := hI1.blk.frozen 1; clear hs1))
  go_wp2_with fail
  go_ret
  have hg1 : w.drew.grownBy w1 none := by assumption
  have hb1 : Blk w1 w.drew.heap.size (bv ((bs.drop (at_ + h)).take m)) := by assumption
  have hI1 := hI.drew.grown hg1 (by simp) (by simp)
  have hI2 := hI1.setAt' (h + m) (by omega)
  rw [cast_add] at hI2
  have hpn : ¬ w.heap.size = p := by have := hB.lt; omega
  refine ⟨_, rfl, Or.inr ⟨w.heap.size, by rw [hml]; rfl, hb1.grown (grown_set w1 p 1 _) (by simpa using hpn), Nat.le_refl _⟩, hI2, grown_trans (grown_trans (grown_drew w _) (grown_some hg1 _)) (grown_set w1 p 1 _)⟩

set_option maxHeartbeats 800000 in
theorem take_bad (p g : Nat) (bs : List Int) (at_ h : Nat) (m : Nat) (w : World) (hI : RInv w p g bs at_ 0) (hh : h ≤ 2) (hm : m ≤ 9223372036854775807) (hin : ¬ at_ + h + m ≤ bs.length) :
    Calls Try.prog 76 #[.pointer (some ⟨p, 0, none⟩), .int .i64 h, .int .i64 m] w fun r w' => r = .returned (.slice none 0 0) ∧ RInv w' p g bs at_ 6 ∧ w.grownBy w' (some p) := by
  have hlen := hI.len
  have hat := hI.at_le
  have hB := hI.blk
  have c0 := hB.c0
  have c1 := hB.c1
  have c2 := hB.c2
  have f2 := hB.frozen 2
  have hP := part_no (some ⟨g, 0, none⟩) bs.length bs.length ((at_ : Int) + h) m w.drew hI.drew.Row.le (by omega) (by omega) (by simp [inB]; omega)
  have hwr : IntKind.i64.wrap ((at_ : Int) + h) = (at_ : Int) + h := by rw [IntKind.wrap_i64]; omega
  have h6 : inR 9 = 6 := by decide
  go_enter Try.func76, Try.ntmps76
  go_wp2
  go_region_held (fun w' => w'.cell? ⟨p, 0, none⟩ = some (.slice (some ⟨g, 0, none⟩) bs.length bs.length) ∧ w'.cell? ⟨p, 1, none⟩ = some (.int .i64 at_)) (first | go_keep | exact ⟨by assumption, by assumption⟩) (first | (go_at_call 80; refine hP.mono ?_; rintro e w1 ⟨rfl, rfl⟩))
  go_wp2_with (go_at_call 75; refine (inr_any _ _).mono ?_; rintro e w' ⟨rfl, rfl⟩)
  go_ret
  exact ⟨rfl, (hI.setE 6).drew, grown_set_drew _ _ _ _⟩

theorem rbytes_stop (p : Nat) (x y : Value) (e n : Int) (w : World) (hB : SBlk w p [x, y, .int .i64 e] 116) (he : (e != 0) = true) :
    Calls Try.prog 56 #[.pointer (some ⟨p, 0, none⟩), .int .i64 n] w fun r w' => r = .returned (.slice none 0 0) ∧ w = w' := by
  go_enter Try.func56, Try.ntmps56
  go_wp2_with (go_at_call 73; refine (rstop_any p x y e w hB).mono ?_; rintro e w' ⟨rfl, rfl⟩)
  go_ret
  exact ⟨rfl, rfl⟩
theorem rbytes_neg (p g : Nat) (bs : List Int) (at_ : Nat) (n : Int) (w : World) (hI : RInv w p g bs at_ 0) (hn : n < 0) :
    Calls Try.prog 56 #[.pointer (some ⟨p, 0, none⟩), .int .i64 n] w fun r w' => r = .returned (.slice none 0 0) ∧ RInv w' p g bs at_ 1 ∧ w.grownBy w' (some p) := by
  have hB := hI.blk
  have c2 := hB.c2
  have f2 := hB.frozen 2
  go_enter Try.func56, Try.ntmps56
  go_wp2_with (go_at_call 73; refine (rstop_any p _ _ 0 w hB).mono ?_; rintro e w' ⟨rfl, rfl⟩)
  go_ret
  exact ⟨rfl, hI.setE 1, grown_set _ _ _ _⟩
theorem rbytes_ok (p g : Nat) (bs : List Int) (at_ m : Nat) (w : World) (hI : RInv w p g bs at_ 0) (hin : at_ + m ≤ bs.length) :
    Calls Try.prog 56 #[.pointer (some ⟨p, 0, none⟩), .int .i64 m] w fun r w' => ∃ v, r = .returned v ∧ Res w w' v ((bs.drop at_).take m) ∧ RInv w' p g bs (at_ + m) 0 ∧ w.grownBy w' (some p) := by
  have hlen := hI.len
  have hB := hI.blk
  have hT := take_ok p g bs at_ 0 m w hI hin
  simp only [Nat.add_zero, Nat.zero_add] at hT
  go_enter Try.func56, Try.ntmps56
  go_wp2_with (first | (go_at_call 73; refine (rstop_any p _ _ 0 w hB).mono ?_; rintro e w' ⟨rfl, rfl⟩) | (go_at_call 76; refine hT.mono ?_; rintro e w1 ⟨v, rfl, hR, hI1, hg1⟩))
  go_ret
  exact ⟨_, rfl, by assumption, by assumption, by assumption⟩
theorem rbytes_out (p g : Nat) (bs : List Int) (at_ m : Nat) (w : World) (hI : RInv w p g bs at_ 0) (hm : m ≤ 9223372036854775807) (hin : ¬ at_ + m ≤ bs.length) :
    Calls Try.prog 56 #[.pointer (some ⟨p, 0, none⟩), .int .i64 m] w fun r w' => r = .returned (.slice none 0 0) ∧ RInv w' p g bs at_ 6 ∧ w.grownBy w' (some p) := by
  have hlen := hI.len
  have hB := hI.blk
  have hT := take_bad p g bs at_ 0 m w hI (by omega) hm hin
  go_enter Try.func56, Try.ntmps56
  go_wp2_with (first | (go_at_call 73; refine (rstop_any p _ _ 0 w hB).mono ?_; rintro e w' ⟨rfl, rfl⟩) | (go_at_call 76; refine hT.mono ?_; rintro e w1 ⟨rfl, hI1, hg1⟩))
  go_ret
  exact ⟨rfl, by assumption, by assumption⟩

theorem le_two {bs : List Int} (hb : Byt bs) (k : Nat) : 0 ≤ le ((bs.drop k).take 2) ∧ le ((bs.drop k).take 2) < 65536 := by
  have hB := (hb.drop k).take 2
  have h1 := le_lt_of hB 2 (by simp; omega)
  exact ⟨le_nonneg hB, by have e : (256 : Int) ^ 2 = 65536 := by decide
                          rw [e] at h1; exact h1⟩

theorem newreader_any (a : Option Addr) (len cap : Nat) (bs : List Int) (w : World) (R : Row w a len bs) (hl : len ≤ 2000000) :
    Calls Try.prog 54 #[.slice a len cap] w fun r w' => ∃ p g, r = .returned (.pointer (some ⟨p, 0, none⟩)) ∧ RInv w' p g bs 0 0 ∧ w.heap.size ≤ p ∧ w.heap.size ≤ g ∧ w.grownBy w' none := by
  have hF := fresh_any a len cap bs w R (by omega)
  go_enter Try.func54, Try.ntmps54
  go_wp2_with (go_at_call 61; refine hF.mono ?_; rintro e w1 ⟨rfl, hb1, hg1, hs1⟩; have HS : Hid (w1.heap.size = w.heap.size + 1) := hs1; clear hs1)
  go_ret
  have hb1 : Blk w1 w.heap.size (bv bs) := by assumption
  have hg1 : w.grownBy w1 none := by assumption
  have HS : w1.heap.size = w.heap.size + 1 := (show Hid (w1.heap.size = w.heap.size + 1) by assumption)
  obtain rfl := R.len_eq
  exact ⟨w1.heap.size, w.heap.size, rfl, ⟨alloc_sblk w1 [.slice (some ⟨w.heap.size, 0, none⟩) bs.length bs.length, .int .i64 0, .int .i64 0] 116, hb1.below ((Below.refl _ _).alloc (Nat.le_refl _) _) hb1.lt, R.byt, hl, Nat.zero_le _, by omega⟩, by omega, Nat.le_refl _, grown_trans hg1 (World.grownBy_alloc w1 _ none)⟩
end Go.Proofs.Ytfhgbddeclldnaa.Fi

namespace Go.Proofs.Ytfhgbddeclldnaa.Fi
open Go.RowKit
set_option maxRecDepth 100000
set_option linter.unusedSimpArgs false
set_option linter.unusedVariables false

theorem zeroCells8 (m : Nat) : Builtin.zeroCells (Value.int .u8 0).cells m = (List.replicate m (Value.int .u8 0)).toArray := by
  apply Array.ext
  · simp [size_zeroCells, Value.cells]
  · intro i h1 h2
    simp [Builtin.zeroCells, Value.cells, Nat.mod_one]

/-- so many zero bytes, as cells -/
def zs (m : Nat) : List Value := List.replicate m (Value.int .u8 0)
theorem zs_length (m : Nat) : (zs m).length = m := List.length_replicate
theorem zs_one (m : Nat) : ∀ v ∈ zs m, v.oneCell' = true := by intro v hv; rw [(List.mem_replicate.1 hv).2]; rfl
theorem zeroCells8' (m : Nat) : Builtin.zeroCells (Value.int .u8 0).cells m = (zs m).toArray := zeroCells8 m

section
variable {P : Program} (w : World)

theorem run_zeros_room (t k ty : TypeId) (i : TypeInfo) (ht : P.underlying t = some (.slice 5)) (hk : P.underlying k = some (.int .i64)) (hi : P.info? 5 = some i) (hz : i.zero = some (.int .u8 0)) (hs : i.size = 1) (hb : i.bytes = 1)
    (g n cap m : Nat) (cur : Array Value) (hg : w.heap[g]? = some (.cells cur 5 (0, 0))) (hm : m ≤ 140737488355328) (hroom : n + m ≤ cap) (hc : cur.size = cap) :
    (Builtin.append_ #[t, k] ty #[.slice (some ⟨g, 0, none⟩) n cap, .int .i64 m]).run P w =
      .ok (.slice (some ⟨g, 0, none⟩) (n + m) cap) (w.setRow g (cur.toList.take n ++ (zs m ++ cur.toList.drop (n + m))).toArray) := by
  have wl : IntKind.i64.wrap (m : Int) = m := by rw [IntKind.wrap_i64]; omega
  have n1 : ¬ (m : Int) < 0 := by omega
  have n2 : ¬ (281474976710656 < (m : Int)) := by omega
  have hst := run_storeCells_at P g n 5 (zs m) 0 cur w hg (by rw [zs_length]; omega) (zs_one m)
  simp only [Nat.add_zero, zs_length, List.append_assoc] at hst
  by_cases h0 : m = 0
  · subst h0
    have hr' : n ≤ cap := hroom
    have e : zs 0 = [] := rfl
    rw [e] at hst ⊢
    simp only [List.nil_append, Nat.add_zero] at hst ⊢
    simp [Builtin.append_, run_underlying ht, run_underlying hk, sizeOf, typeInfo, hi, hs, hb, asInt, asIntOf, IntKind.wrap_i64, hr', Addr.add_lit, hst]
  · simp [Builtin.append_, run_underlying ht, run_underlying hk, sizeOf, typeInfo, zeroValue, hi, hz, hs, hb, asInt, asIntOf, wl, n1, n2, h0, hroom, zeroCells8', Addr.add_lit, hst]

theorem run_zeros_grow (t k ty : TypeId) (i : TypeInfo) (ht : P.underlying t = some (.slice 5)) (hk : P.underlying k = some (.int .i64)) (hi : P.info? 5 = some i) (hz : i.zero = some (.int .u8 0)) (hs : i.size = 1) (hb : i.bytes = 1)
    (b : Addr) (n cap m : Nat) (olds : List Value) (hlo : olds.length = n) (holds : ∀ j v, olds[j]? = some v → w.cell? (b.add j) = some v) (hsum : n + m ≤ 140737488355328) (hroom : cap < n + m) (h0 : ¬ m = 0) :
    (Builtin.append_ #[t, k] ty #[.slice (some b) n cap, .int .i64 m]).run P w =
      .ok (.slice (some ⟨w.heap.size, 0, none⟩) (n + m) (grownCap w (n + m) cap 5)) (w.drew.alloc (.cells (olds ++ (zs m ++ zs (grownCap w (n + m) cap 5 - (n + m)))).toArray 5)) := by
  have wl : IntKind.i64.wrap (m : Int) = m := by rw [IntKind.wrap_i64]; omega
  have n1 : ¬ (m : Int) < 0 := by omega
  have n2 : ¬ (281474976710656 < (m : Int)) := by omega
  have hn : ¬ (n + m ≤ cap) := by omega
  have h63' : ¬ (9223372036854775807 < ((n : Int) + (m : Int))) := by omega
  have h48 := growslice_fits (bytes := 1) hroom (by omega)
  have h48' : ¬ (281474976710656 < Builtin.nextslicecap (n + m) cap) := by omega
  have hfo := run_firstCells_some (P := P) w.drew 1 n b n cap olds (by omega) (by simpa using holds)
  simp [Builtin.append_, run_underlying ht, run_underlying hk, sizeOf, typeInfo, zeroValue, hi, hz, hs, hb, asInt, asIntOf, wl, n1, n2, h0, hn, h63', h48', Question.forced, hfo, newRow, grownCap, zeroCells8']

theorem run_zeros_nil (t k ty : TypeId) (i : TypeInfo) (ht : P.underlying t = some (.slice 5)) (hk : P.underlying k = some (.int .i64)) (hi : P.info? 5 = some i) (hz : i.zero = some (.int .u8 0)) (hs : i.size = 1) (hb : i.bytes = 1)
    (m : Nat) (hsum : m ≤ 140737488355328) (h0 : ¬ m = 0) :
    (Builtin.append_ #[t, k] ty #[.slice none 0 0, .int .i64 m]).run P w =
      .ok (.slice (some ⟨w.heap.size, 0, none⟩) m (grownCap w m 0 5)) (w.drew.alloc (.cells (zs m ++ zs (grownCap w m 0 5 - m)).toArray 5)) := by
  have wl : IntKind.i64.wrap (m : Int) = m := by rw [IntKind.wrap_i64]; omega
  have n1 : ¬ (m : Int) < 0 := by omega
  have n2 : ¬ (281474976710656 < (m : Int)) := by omega
  have h63' : ¬ (9223372036854775807 < (m : Int)) := by omega
  have h48' : ¬ (281474976710656 < Builtin.nextslicecap m 0) := by rw [nextslicecap_zero (by omega)]; omega
  simp [Builtin.append_, run_underlying ht, run_underlying hk, sizeOf, typeInfo, zeroValue, hi, hz, hs, hb, asInt, asIntOf, wl, n1, n2, h0, h63', h48', Question.forced, run_firstCells_none, newRow, grownCap, zeroCells8']

theorem run_zeros_nil0 (t k ty : TypeId) (i : TypeInfo) (ht : P.underlying t = some (.slice 5)) (hk : P.underlying k = some (.int .i64)) (hi : P.info? 5 = some i) (hb : i.bytes = 1) :
    (Builtin.append_ #[t, k] ty #[.slice none 0 0, .int .i64 0]).run P w = .ok (.slice none 0 0) w := by
  simp [Builtin.append_, run_underlying ht, run_underlying hk, sizeOf, typeInfo, hi, hb, asInt, asIntOf, IntKind.wrap_i64]

/-- the law -/
theorem run_zeros (base : Nat) (t k ty : TypeId) (i : TypeInfo) (ht : P.underlying t = some (.slice 5)) (hk : P.underlying k = some (.int .i64)) (hi : P.info? 5 = some i) (hz : i.zero = some (.int .u8 0)) (hs : i.size = 1) (hb : i.bytes = 1)
    (v : Value) (n : Nat) (xs : List Value) (hown : w.ownsRow base 5 1 v n xs) (m : Nat) (hsum : n + m ≤ 140737488355328) (hbase : base ≤ w.heap.size) :
    ∃ v' w', (Builtin.append_ #[t, k] ty #[v, .int .i64 m]).run P w = .ok v' w' ∧ w'.ownsRow base 5 1 v' (n + m) (xs ++ zs m) ∧ w.grownBy w' v.ownBlock ∧ (v'.ownBlock = v.ownBlock ∨ v'.ownBlock = some w.heap.size) := by
  obtain ⟨h1, h2⟩ := hown
  have hlen : (xs ++ zs m).length = (n + m) * 1 := by rw [List.length_append, h1, zs_length]; omega
  rcases h2 with ⟨rfl, rfl⟩ | ⟨g, cap, cur, rfl, hbg, hg, hnc, hcm, hcs, htake⟩
  · obtain rfl : xs = [] := List.eq_nil_of_length_eq_zero (by simpa using h1)
    by_cases h0 : m = 0
    · subst h0
      exact ⟨_, _, run_zeros_nil0 w t k ty i ht hk hi hb, World.ownsRow_nil _ _ _ _, World.grownBy.refl _ _, Or.inl rfl⟩
    · refine ⟨_, _, run_zeros_nil w t k ty i ht hk hi hz hs hb m (by omega) h0, ?_, ⟨rfl, rfl, rfl, by simp, fun j hj _ => Below.heap_alloc w.drew _ j hj⟩, Or.inr rfl⟩
      have hge := grownCap_ge w m 0 5
      have hcm := grownCap_le_maxLen w m 0 5 (by unfold maxLen; omega)
      simp only [Nat.zero_add, List.nil_append] at hlen ⊢
      refine ⟨hlen, .inr ⟨w.heap.size, _, _, rfl, hbase, heap_alloc_new w.drew _, hge, hcm, ?_, ?_⟩⟩
      · simp [zs_length]; omega
      · simp only [Nat.mul_one]; rw [List.take_append_of_le_length (by rw [zs_length]; exact Nat.le_refl _), List.take_of_length_le (by rw [zs_length]; exact Nat.le_refl _)]
  · simp only [Nat.mul_one] at hcs htake h1
    by_cases hroom : n + m ≤ cap
    · refine ⟨_, _, run_zeros_room w t k ty i ht hk hi hz hs hb g n cap m cur hg (by omega) hroom hcs, ?_, ⟨rfl, rfl, rfl, by simp [World.setRow], fun j _ hj => setRow_other w g j _ (fun e => hj (by simp [Value.ownBlock, e]))⟩, Or.inl rfl⟩
      refine ⟨hlen, .inr ⟨g, cap, _, rfl, hbg, setRow_heap w g cur _ 5 _ hg, hroom, hcm, ?_, ?_⟩⟩
      · simp [zs_length]; omega
      · rw [htake, Nat.mul_one, ← List.append_assoc, List.take_append_of_le_length (by simp [zs_length, h1]), List.take_of_length_le (by simp [zs_length, h1])]
    · have h0 : ¬ m = 0 := by omega
      have holds : ∀ j u, xs[j]? = some u → w.cell? ((⟨g, 0, none⟩ : Addr).add j) = some u := World.ownsRow.cells (base := base) (e := 5) (size := 1) (v := .slice (some ⟨g, 0, none⟩) n cap) (n := n) ⟨by omega, .inr ⟨g, cap, cur, rfl, hbg, hg, hnc, hcm, by omega, by simpa using htake⟩⟩ (g := g) rfl
      refine ⟨_, _, run_zeros_grow w t k ty i ht hk hi hz hs hb ⟨g, 0, none⟩ n cap m xs h1 holds hsum (by omega) h0, ?_, ⟨rfl, rfl, rfl, by simp, fun j hj _ => Below.heap_alloc w.drew _ j hj⟩, Or.inr rfl⟩
      have hge := grownCap_ge w (n + m) cap 5
      have hcm2 := grownCap_le_maxLen w (n + m) cap 5 (by unfold maxLen; omega)
      refine ⟨hlen, .inr ⟨w.heap.size, _, _, rfl, hbase, heap_alloc_new w.drew _, hge, hcm2, ?_, ?_⟩⟩
      · simp [zs_length, h1]; omega
      · simp only [Nat.mul_one]; rw [← List.append_assoc, List.take_append_of_le_length (by simp [zs_length, h1]), List.take_of_length_le (by simp [zs_length, h1])]

theorem wpList_zeros {ops : Array Oper} {rest : List Oper} {o : Oper} {a : Act} {Q : Exit → Act → World → Prop} (hgd : o.guard = none) (s x : Operand) (t k : TypeId)
    (ho : o.op = .call { callee := .builtin .append, args := #[s, x], argTypes := #[t, k] })
    (base : Nat) (i : TypeInfo) (ht : P.underlying t = some (.slice 5)) (hk : P.underlying k = some (.int .i64)) (hi : P.info? 5 = some i) (hz : i.zero = some (.int .u8 0)) (hsize : i.size = 1) (hby : i.bytes = 1)
    (v : Value) (n : Nat) (xs : List Value) (hs : a.eval s = v) (hown : w.ownsRow base 5 1 v n xs) (m : Nat) (hx : a.eval x = .int .i64 m) (hsum : n + m ≤ 140737488355328) (hbase : base ≤ w.heap.size)
    (h : ∀ v' w', w'.ownsRow base 5 1 v' (n + m) (xs ++ zs m) → w.grownBy w' v.ownBlock → (v'.ownBlock = v.ownBlock ∨ v'.ownBlock = some w.heap.size) → wpList P ops Q rest (a.put o.dst v') w') : wpList P ops Q (o :: rest) a w := by
  refine wpList_plain hgd fun K hK => ?_
  obtain ⟨v', w', hr, h2, h3, h4⟩ := run_zeros (P := P) w base t k o.type i ht hk hi hz hsize hby v n xs hown m hsum hbase
  unfold Oper.wp execOp
  simp only [ho, resolve, invoke, builtin, Sem.run_bind, Sem.run_pure, Result.andThen_ok, List.map_toArray, List.map_cons, List.map_nil, hs, hx, hr]
  exact hK _ _ (h v' w' h2 h3 h4)
end
end Go.Proofs.Ytfhgbddeclldnaa.Fi

namespace Go.Proofs.Ytfhgbddeclldnaa.Fi
open Go.RowKit
set_option maxRecDepth 100000
set_option linter.unusedSimpArgs false
set_option linter.unusedVariables false
attribute [local go_sem ↓] Go.wp_at_zero Go.wp_at_succ

/-- a writer at p, whose bytes lie in v -/
structure WInv (w : World) (p : Nat) (v : Value) (bs : List Int) (most e : Int) : Prop where
  blk : SBlk w p [v, .int .i64 most, .int .i64 e] 101
  own : w.ownsRow (p + 1) 5 1 v bs.length (bv bs)
  byt : Byt bs

/-- from w to w' the writer's own blocks alone have turned -/
structure Chg (w w' : World) (p : Nat) (v v' : Value) : Prop where
  os : w'.os = w.os
  tape : w'.tape = w.tape
  output : w'.output = w.output
  size : w.heap.size ≤ w'.heap.size
  block : ∀ k, k < w.heap.size → k ≠ p → some k ≠ v.ownBlock → w'.heap[k]? = w.heap[k]?
  own : v'.ownBlock = v.ownBlock ∨ ∃ k, v'.ownBlock = some k ∧ w.heap.size ≤ k

theorem Chg.refl (w : World) (p : Nat) (v : Value) : Chg w w p v v := ⟨rfl, rfl, rfl, Nat.le_refl _, fun _ _ _ _ => rfl, Or.inl rfl⟩
theorem Chg.trans {a b c : World} {p : Nat} {v v' v'' : Value} (h : Chg a b p v v') (k : Chg b c p v' v'') : Chg a c p v v'' := by
  refine ⟨k.os.trans h.os, k.tape.trans h.tape, k.output.trans h.output, Nat.le_trans h.size k.size, fun i hi hp hv => ?_, ?_⟩
  · refine (k.block i (Nat.lt_of_lt_of_le hi h.size) hp ?_).trans (h.block i hi hp hv)
    rcases h.own with e | ⟨j, e, hj⟩
    · rw [e]; exact hv
    · rw [e]; intro e2; injection e2; omega
  · rcases k.own with e | ⟨j, e, hj⟩
    · rw [e]; exact h.own
    · exact Or.inr ⟨j, e, Nat.le_trans h.size hj⟩
theorem Chg.of_grown {w w' : World} {p : Nat} {v : Value} (h : w.grownBy w' none) : Chg w w' p v v := ⟨h.os, h.tape, h.output, h.size, fun k hk _ _ => h.block k hk (by simp), Or.inl rfl⟩
theorem Chg.of_p {w w' : World} {p : Nat} {v : Value} (h : w.grownBy w' (some p)) : Chg w w' p v v := ⟨h.os, h.tape, h.output, h.size, fun k hk hp _ => h.block k hk (by simpa using hp), Or.inl rfl⟩
theorem Chg.of_own {w w' : World} {p : Nat} {v v' : Value} (h : w.grownBy w' v.ownBlock) (ho : v'.ownBlock = v.ownBlock ∨ ∃ k, v'.ownBlock = some k ∧ w.heap.size ≤ k) : Chg w w' p v v' := ⟨h.os, h.tape, h.output, h.size, fun k hk _ hv => h.block k hk hv, ho⟩

theorem WInv.ne {w : World} {p : Nat} {v : Value} {bs : List Int} {most e : Int} (h : WInv w p v bs most e) : some p ≠ v.ownBlock := fun e => by have := (h.own.lt p e.symm).1; omega
theorem own_ne {w : World} {p : Nat} {v : Value} {n : Nat} {xs : List Value} (h : w.ownsRow (p + 1) 5 1 v n xs) : some p ≠ v.ownBlock := fun e => by have := (h.lt p e.symm).1; omega
theorem WInv.grown {w w' : World} {p : Nat} {v : Value} {bs : List Int} {most e : Int} (h : WInv w p v bs most e) (hg : w.grownBy w' none) : WInv w' p v bs most e :=
  ⟨h.blk.grown hg (by simp), h.own.kept hg (by cases v.ownBlock <;> simp), h.byt⟩
theorem WInv.drew {w : World} {p : Nat} {v : Value} {bs : List Int} {most e : Int} (h : WInv w p v bs most e) : WInv w.drew p v bs most e := h.grown (grown_drew _ _)
theorem WInv.setE {w : World} {p : Nat} {v : Value} {bs : List Int} {most e : Int} (h : WInv w p v bs most e) (e' : Int) : WInv (w.setCell ⟨p, 2, none⟩ (.int .i64 e')) p v bs most e' :=
  ⟨h.blk.set 2 (.int .i64 e'), h.own.kept (grown_set w p 2 _) (Or.inr (Ne.symm h.ne)), h.byt⟩

theorem wstop_any (p : Nat) (x y : Value) (e : Int) (w : World) (hB : SBlk w p [x, y, .int .i64 e] 101) :
    Calls Try.prog 57 #[.pointer (some ⟨p, 0, none⟩)] w fun r w' => r = .returned (.bool (e != 0)) ∧ w = w' := by
  have c2 := hB.c2
  go_enter Try.func57, Try.ntmps57
  go_wp2
  go_ret
  exact ⟨rfl, rfl⟩

theorem wdone_bad (p : Nat) (v : Value) (bs : List Int) (most e : Int) (w : World) (hI : WInv w p v bs most e) (he : (e != 0) = true) :
    Calls Try.prog 47 #[.pointer (some ⟨p, 0, none⟩)] w fun r w' => r = .returned (.tuple #[.slice none 0 0, .int .i64 e]) ∧ w.grownBy w' none := by
  have c2 := hI.blk.c2
  go_enter Try.func47, Try.ntmps47
  go_wp2
  go_quiet (fail)
  go_wp2
  go_ret2
  exact ⟨rfl, ⟨rfl, rfl, rfl, Nat.le_refl _, fun _ _ _ => rfl⟩⟩

theorem wdone_ok (p : Nat) (v : Value) (bs : List Int) (most : Int) (w : World) (hI : WInv w p v bs most 0) (hl : bs.length ≤ 140737488355328) :
    Calls Try.prog 47 #[.pointer (some ⟨p, 0, none⟩)] w fun r w' => r = .returned (.tuple #[.slice (some ⟨w.heap.size, 0, none⟩) bs.length bs.length, .int .i64 0]) ∧ Blk w' w.heap.size (bv bs) ∧ w.grownBy w' none := by
  obtain ⟨a, c, rfl, R⟩ := owns_row hI.own hI.byt (by unfold maxLen; omega)
  have c0 := hI.blk.c0
  have c2 := hI.blk.c2
  have hF := fresh_any a bs.length c bs w R (by omega)
  go_enter Try.func47, Try.ntmps47
  go_wp2_with (go_at_call 61; refine hF.mono ?_; rintro e w1 ⟨rfl, hb1, hg1, hs1⟩; clear hs1)
  go_ret2
  exact ⟨rfl, by assumption, by assumption⟩

theorem grow_no (p : Nat) (v : Value) (bs : List Int) (most : Int) (n : Nat) (w : World) (hI : WInv w p v bs most 0) (h0 : 0 ≤ most) (h1 : most ≤ 9223372036854775807) (hl : bs.length ≤ 140737488355328) (hn : most - bs.length < n) :
    Calls Try.prog 58 #[.pointer (some ⟨p, 0, none⟩), .int .i64 n] w fun r w' => r = .returned (.slice none 0 0) ∧ WInv w' p v bs most 2 ∧ Chg w w' p v v := by
  obtain ⟨a, c, rfl, _⟩ := owns_form hI.own
  have c0 := hI.blk.c0
  have c1 := hI.blk.c1
  have c2 := hI.blk.c2
  have f2 := hI.blk.frozen 2
  have hwr : IntKind.i64.wrap (most - bs.length) = most - bs.length := by rw [IntKind.wrap_i64]; omega
  go_enter Try.func58, Try.ntmps58
  go_wp2
  go_region_held (fun w' => w'.cell? ⟨p, 0, none⟩ = some (.slice a bs.length c) ∧ w'.cell? ⟨p, 1, none⟩ = some (.int .i64 most)) (go_keep) (fail)
  go_wp2
  go_ret
  exact ⟨rfl, (hI.setE 2).drew, Chg.of_p (grown_set_drew _ _ _ _)⟩

/-- what grow leaves -/
structure Grew (w w' : World) (p : Nat) (v : Value) (bs : List Int) (most : Int) (n : Nat) (v' : Value) (a : Option Addr) : Prop where
  blk : SBlk w' p [v', .int .i64 most, .int .i64 0] 101
  own : w'.ownsRow (p + 1) 5 1 v' (bs.length + n) (bv bs ++ zs n)
  at_ : 0 < n → ∃ g c, v' = .slice (some ⟨g, 0, none⟩) (bs.length + n) c ∧ a = some ⟨g, bs.length, none⟩
  chg : Chg w w' p v v'

theorem grew_of {w w1 : World} {p n : Nat} {v v' : Value} {bs : List Int} {most : Int} (hI : WInv w p v bs most 0) (ho : w1.ownsRow (p + 1) 5 1 v' (bs.length + n) (bv bs ++ zs n)) (hg : w.drew.grownBy w1 v.ownBlock) (hb : v'.ownBlock = v.ownBlock ∨ v'.ownBlock = some w.drew.heap.size) (a : Option Addr)
    (ha : 0 < n → ∃ g c, v' = .slice (some ⟨g, 0, none⟩) (bs.length + n) c ∧ a = some ⟨g, bs.length, none⟩) : Grew w (w1.setCell ⟨p, 0, none⟩ v') p v bs most n v' a := by
  have hb1 : SBlk w1 p [v, .int .i64 most, .int .i64 0] 101 := hI.drew.blk.grown hg hI.ne
  refine ⟨hb1.set 0 v', ho.kept (grown_set w1 p 0 _) (Or.inr (Ne.symm (own_ne ho))), ha, ?_⟩
  refine (Chg.of_grown (grown_drew w none)).trans ((Chg.of_own hg (hb.imp id (fun e => ⟨_, e, Nat.le_refl _⟩))).trans (Chg.of_p (grown_set w1 p 0 _)))

set_option maxHeartbeats 800000 in
theorem grow_ok (p : Nat) (v : Value) (bs : List Int) (most : Int) (n : Nat) (w : World) (hI : WInv w p v bs most 0) (h0 : 0 ≤ most) (h1 : most ≤ 9223372036854775807) (hl : bs.length + n ≤ 140737488355328) (hn : (n : Int) ≤ most - bs.length) :
    Calls Try.prog 58 #[.pointer (some ⟨p, 0, none⟩), .int .i64 n] w fun r w' => ∃ v' a c, r = .returned (.slice a n c) ∧ n ≤ c ∧ Grew w w' p v bs most n v' a := by
  obtain ⟨i5, hi, hz0, hz1, hz2⟩ := info_parts Try.info5
  obtain ⟨a, c, rfl, _⟩ := owns_form hI.own
  have c0 := hI.blk.c0
  have c1 := hI.blk.c1
  have hwr : IntKind.i64.wrap (most - bs.length) = most - bs.length := by rw [IntKind.wrap_i64]; omega
  have hown := hI.drew.own
  have hpl := hI.blk.lt
  go_enter Try.func58, Try.ntmps58
  go_wp2
  go_region_held (fun w' => w'.cell? ⟨p, 0, none⟩ = some (.slice a bs.length c) ∧ w'.cell? ⟨p, 1, none⟩ = some (.int .i64 most)) (go_keep) (fail)
  go_wp2_with (at_builtin; (refine wpList_zeros _ rfl (.tmp 30) (.tmp 31) 27 3 rfl (p + 1) i5 Try.underlying27 Try.underlying3 hi hz0 hz1 hz2 _ bs.length (bv bs) rfl hown n rfl hl (by exact hpl) ?_); intro v1 w1 ho1 hg1 hb1; obtain ⟨a1, cc1, hv1, hle1, hm1, hf1⟩ := owns_form ho1; rw [hv1]; have hB1 := hI.drew.blk.grown hg1 hI.ne; have d0 := hB1.c0; have e0 := hB1.frozen 0; clear hB1)
  · go_ret
    have hcc : cc1 = bs.length := by assumption
    subst hv1
    subst hcc
    exact ⟨_, _, _, rfl, by omega, grew_of hI ho1 hg1 hb1 _ (fun hp => absurd hp (by omega))⟩
  · go_ret
    subst hv1
    refine ⟨_, _, _, rfl, by omega, grew_of hI ho1 hg1 hb1 _ (fun hp => ?_)⟩
    rcases hf1 with ⟨rfl, h2, _⟩ | ⟨g, rfl, _⟩
    · omega
    · refine ⟨g, cc1, rfl, ?_⟩
      rw [map_add, Nat.zero_add]
end Go.Proofs.Ytfhgbddeclldnaa.Fi
