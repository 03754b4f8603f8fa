/- Contracts of readers. -/
import Derived.Test.YtngalihnckbkfaaHD
import Derived.Test.YtngalihnckbkfaaHS
import Derived.Deep.RegionHeld
import Derived.Deep.DrawnRows
import Derived.WalkSmall
namespace Go.Proofs.Ytngalihnckbkfaa
open Go.RowKit
set_option maxRecDepth 100000
set_option linter.unusedSimpArgs false
set_option linter.unusedVariables false
attribute [local go_sem ↓] Go.wp_at_zero Go.wp_at_succ

/-- a reader at p over the row g: its bytes, its place, its error -/
structure RInv (w : World) (p g : Nat) (bs : List Int) (at_ : Nat) (e : Int) : Prop where
  blk : SBlk w p [.slice (some ⟨g, 0, none⟩) bs.length bs.length, .int .i64 at_, .int .i64 e] 76
  row : Blk w g (bv bs)
  byt : Byt bs
  len : bs.length ≤ 2000000
  at_le : at_ ≤ bs.length
  ne : g ≠ p

theorem RInv.Row {w : World} {p g : Nat} {bs : List Int} {at_ : Nat} {e : Int} (h : RInv w p g bs at_ e) : Row w (some ⟨g, 0, none⟩) bs.length bs := h.row.row h.byt (by have := h.len; unfold maxLen; omega)
theorem RInv.grown {w w' : World} {p g : Nat} {bs : List Int} {at_ : Nat} {e : Int} {row : Option Nat} (h : RInv w p g bs at_ e) (hg : w.grownBy w' row) (h1 : some p ≠ row) (h2 : some g ≠ row) : RInv w' p g bs at_ e :=
  ⟨h.blk.grown hg h1, h.row.grown hg h2, h.byt, h.len, h.at_le, h.ne⟩
theorem RInv.setE {w : World} {p g : Nat} {bs : List Int} {at_ : Nat} {e : Int} (h : RInv w p g bs at_ e) (e' : Int) : RInv (w.setCell ⟨p, 2, none⟩ (.int .i64 e')) p g bs at_ e' :=
  ⟨h.blk.set 2 (.int .i64 e'), h.row.grown (grown_set w p 2 _) (by have := h.ne; simp [this]), h.byt, h.len, h.at_le, h.ne⟩
theorem RInv.setAt {w : World} {p g : Nat} {bs : List Int} {at_ : Nat} {e : Int} (h : RInv w p g bs at_ e) (k : Nat) (hk : k ≤ bs.length) : RInv (w.setCell ⟨p, 1, none⟩ (.int .i64 k)) p g bs k e :=
  ⟨h.blk.set 1 (.int .i64 k), h.row.grown (grown_set w p 1 _) (by have := h.ne; simp [this]), h.byt, h.len, hk, h.ne⟩
theorem RInv.drew {w : World} {p g : Nat} {bs : List Int} {at_ : Nat} {e : Int} (h : RInv w p g bs at_ e) : RInv w.drew p g bs at_ e := ⟨h.blk, h.row, h.byt, h.len, h.at_le, h.ne⟩

theorem rstop_any (p : Nat) (x y : Value) (e : Int) (w : World) (hB : SBlk w p [x, y, .int .i64 e] 76) :
    Calls Try.prog 47 #[.pointer (some ⟨p, 0, none⟩)] w fun r w' => r = .returned (.bool (e != 0)) ∧ w = w' := by
  have c2 := hB.c2
  go_enter Try.func47, Try.ntmps47
  go_wp2
  go_ret
  exact ⟨rfl, rfl⟩

def inR (x : Int) : Int := if x = 9 then 6 else x
theorem inr_any (x : Int) (w : World) : Calls Try.prog 49 #[.int .i64 x] w fun r w' => r = .returned (.int .i64 (inR x)) ∧ w = w' := by
  by_cases h : x = 9
  · subst h
    go_enter Try.func49, Try.ntmps49
    go_wp2
    go_ret
    exact ⟨rfl, rfl⟩
  · have hb : (x == 9) = false := by simpa using h
    go_enter Try.func49, Try.ntmps49
    go_wp2
    go_ret
    exact ⟨by simp [inR, h], rfl⟩

theorem rerr_any (p : Nat) (x : Value) (a e : Int) (w : World) (hB : SBlk w p [x, .int .i64 a, .int .i64 e] 76) :
    Calls Try.prog 42 #[.pointer (some ⟨p, 0, none⟩)] w fun r w' => r = .returned (.tuple #[.int .i64 a, .int .i64 e]) ∧ w.grownBy w' none ∧ w'.heap = w.heap := by
  have c1 := hB.c1
  have c2 := hB.c2
  go_enter Try.func42, Try.ntmps42
  go_wp2
  go_quiet (fail)
  go_wp2
  go_ret2
  exact ⟨rfl, ⟨rfl, rfl, rfl, Nat.le_refl _, fun _ _ _ => rfl⟩, rfl⟩

theorem rleft_any (p g n c : Nat) (a e : Int) (w : World) (hB : SBlk w p [.slice (some ⟨g, 0, none⟩) n c, .int .i64 a, .int .i64 e] 76) (hn : n ≤ 2000000) (ha : 0 ≤ a) (ha' : a ≤ 2000000) :
    Calls Try.prog 43 #[.pointer (some ⟨p, 0, none⟩)] w fun r w' => r = .returned (.int .i64 (n - a)) ∧ w.grownBy w' none ∧ w'.heap = w.heap := by
  have c0 := hB.c0
  have c1 := hB.c1
  have hwr : IntKind.i64.wrap ((n : Int) - a) = (n : Int) - a := by rw [IntKind.wrap_i64]; omega
  go_enter Try.func43, Try.ntmps43
  go_wp2
  go_quiet (fail)
  go_wp2
  go_ret
  exact ⟨rfl, ⟨rfl, rfl, rfl, Nat.le_refl _, fun _ _ _ => rfl⟩, rfl⟩

/-- a reader that stands still answers 0 -/
theorem rnum_stop (p : Nat) (x y : Value) (e n : Int) (w : World) (hB : SBlk w p [x, y, .int .i64 e] 76) (he : (e != 0) = true) :
    Calls Try.prog 40 #[.pointer (some ⟨p, 0, none⟩), .int .i64 n] w fun r w' => r = .returned (.int .u64 0) ∧ w = w' := by
  go_enter Try.func40, Try.ntmps40
  go_wp2_with (go_at_call 47; refine (rstop_any p x y e w hB).mono ?_; rintro e w' ⟨rfl, rfl⟩)
  go_ret
  exact ⟨rfl, rfl⟩

theorem cast_add (a b : Nat) : ((a + b : Nat) : Int) = (a : Int) + b := by omega
theorem RInv.setAt' {w : World} {p g : Nat} {bs : List Int} {at_ : Nat} {e : Int} (h : RInv w p g bs at_ e) (m : Nat) (hk : at_ + m ≤ bs.length) : RInv (w.setCell ⟨p, 1, none⟩ (.int .i64 ((at_ : Int) + m))) p g bs (at_ + m) e := by
  rw [← cast_add]; exact h.setAt _ hk
theorem grown_set_drew (w : World) (g i : Nat) (v : Value) : w.grownBy (w.setCell ⟨g, i, none⟩ v).drew (some g) := grown_trans (grown_set w g i v) (grown_drewH _ _)

set_option maxHeartbeats 800000 in
theorem rnum_ok (p g : Nat) (bs : List Int) (at_ m : Nat) (w : World) (hI : RInv w p g bs at_ 0) (hW : isW m = true) (hin : at_ + m ≤ bs.length) :
    Calls Try.prog 40 #[.pointer (some ⟨p, 0, none⟩), .int .i64 m] w fun r w' => r = .returned (.int .u64 (le ((bs.drop at_).take m))) ∧ RInv w' p g bs (at_ + m) 0 ∧ w.grownBy w' (some p) := by
  have hlen := hI.len
  have hB := hI.blk
  have c0 := hB.c0
  have c1 := hB.c1
  have f1 := hB.frozen 1
  have hm := isW_pos hW
  have hG := get_any (some ⟨g, 0, none⟩) bs.length bs.length bs at_ m w.drew hI.drew.Row (by omega) (by omega)
  rw [getV_in hW hin, getE_in hW hin] at hG
  generalize le ((bs.drop at_).take m) = V at *
  go_enter Try.func40, Try.ntmps40
  go_wp2_with (go_at_call 47; refine (rstop_any p _ _ 0 w hB).mono ?_; rintro e w' ⟨rfl, rfl⟩)
  go_region_held (fun w' => w'.cell? ⟨p, 0, none⟩ = some (.slice (some ⟨g, 0, none⟩) bs.length bs.length) ∧ w'.cell? ⟨p, 1, none⟩ = some (.int .i64 at_)) (go_keep) (first | (go_at_call 48; refine hG.mono ?_; rintro e w' ⟨rfl, rfl⟩))
  go_wp2_with fail
  go_ret
  exact ⟨rfl, (hI.setAt' m hin).drew, grown_set_drew _ _ _ _⟩

set_option maxHeartbeats 800000 in
theorem rnum_bad (p g : Nat) (bs : List Int) (at_ : Nat) (n : Int) (w : World) (hI : RInv w p g bs at_ 0) (hn : n ≤ 9223372036854775807) (E : Int) (hE : getE bs.length at_ n = E) (hE0 : (E != 0) = true) :
    Calls Try.prog 40 #[.pointer (some ⟨p, 0, none⟩), .int .i64 n] w fun r w' => r = .returned (.int .u64 0) ∧ RInv w' p g bs at_ (inR E) ∧ w.grownBy w' (some p) := by
  have hlen := hI.len
  have hat := hI.at_le
  have hB := hI.blk
  have c0 := hB.c0
  have c1 := hB.c1
  have c2 := hB.c2
  have f2 := hB.frozen 2
  have hG := get_any (some ⟨g, 0, none⟩) bs.length bs.length bs at_ n w.drew hI.drew.Row (by omega) hn
  rw [hE] at hG
  clear hE
  go_enter Try.func40, Try.ntmps40
  go_wp2_with (go_at_call 47; refine (rstop_any p _ _ 0 w hB).mono ?_; rintro e w' ⟨rfl, rfl⟩)
  go_region_held (fun w' => w'.cell? ⟨p, 0, none⟩ = some (.slice (some ⟨g, 0, none⟩) bs.length bs.length) ∧ w'.cell? ⟨p, 1, none⟩ = some (.int .i64 at_)) (go_keep) (first | (go_at_call 48; refine hG.mono ?_; rintro e w' ⟨rfl, rfl⟩))
  go_wp2_with (go_at_call 49; refine (inr_any _ _).mono ?_; rintro e w' ⟨rfl, rfl⟩)
  go_ret
  exact ⟨rfl, (hI.setE (inR E)).drew, grown_set_drew _ _ _ _⟩

/-- bytes that a call told: nothing, or a row of their own -/
def Res (w w' : World) (v : Value) (t : List Int) : Prop := (v = .slice none 0 0 ∧ t = []) ∨ ∃ g, v = .slice (some ⟨g, 0, none⟩) t.length t.length ∧ Blk w' g (bv t) ∧ w.heap.size ≤ g

set_option maxHeartbeats 800000 in
theorem take_ok (p g : Nat) (bs : List Int) (at_ h m : Nat) (w : World) (hI : RInv w p g bs at_ 0) (hin : at_ + h + m ≤ bs.length) :
    Calls Try.prog 50 #[.pointer (some ⟨p, 0, none⟩), .int .i64 h, .int .i64 m] w fun r w' => ∃ v, r = .returned v ∧ Res w w' v ((bs.drop (at_ + h)).take m) ∧ RInv w' p g bs (at_ + (h + m)) 0 ∧ w.grownBy w' (some p) := by
  have hlen := hI.len
  have hB := hI.blk
  have c0 := hB.c0
  have c1 := hB.c1
  have f1 := hB.frozen 1
  have hP := part_ok (some ⟨g, 0, none⟩) bs.length bs.length bs (at_ + h) m w.drew hI.drew.Row (Nat.le_refl _) (by omega) hin
  rw [cast_add] at hP
  have hwr : IntKind.i64.wrap ((at_ : Int) + h) = (at_ : Int) + h := by rw [IntKind.wrap_i64]; omega
  have hml : ((bs.drop (at_ + h)).take m).length = m := by simp; omega
  go_enter Try.func50, Try.ntmps50
  go_wp2
  go_region_held (fun w' => w'.cell? ⟨p, 0, none⟩ = some (.slice (some ⟨g, 0, none⟩) bs.length bs.length) ∧ w'.cell? ⟨p, 1, none⟩ = some (.int .i64 at_)) (first | go_keep | exact ⟨by assumption, by assumption⟩) (first | (go_at_call 53; refine hP.mono ?_; rintro e w1 ⟨rfl, hb1, hg1, hs1⟩; have hI1 := hI.drew.grown hg1 (by simp) (by simp); have d0 := hI1.blk.c0; have d1 := hI1.blk.c1; have e1 := hI1.blk.frozen 1; clear hs1))
  go_wp2_with fail
  go_ret
  have hg1 : w.drew.grownBy w1 none := by assumption
  have hb1 : Blk w1 w.drew.heap.size (bv ((bs.drop (at_ + h)).take m)) := by assumption
  have hI1 := hI.drew.grown hg1 (by simp) (by simp)
  have hI2 := hI1.setAt' (h + m) (by omega)
  rw [cast_add] at hI2
  have hpn : ¬ w.heap.size = p := by have := hB.lt; omega
  refine ⟨_, rfl, Or.inr ⟨w.heap.size, by rw [hml]; rfl, hb1.grown (grown_set w1 p 1 _) (by simpa using hpn), Nat.le_refl _⟩, hI2, grown_trans (grown_trans (grown_drewH w _) (grown_some hg1 _)) (grown_set w1 p 1 _)⟩

set_option maxHeartbeats 800000 in
theorem take_bad (p g : Nat) (bs : List Int) (at_ h : Nat) (m : Nat) (w : World) (hI : RInv w p g bs at_ 0) (hh : h ≤ 2) (hm : m ≤ 9223372036854775807) (hin : ¬ at_ + h + m ≤ bs.length) :
    Calls Try.prog 50 #[.pointer (some ⟨p, 0, none⟩), .int .i64 h, .int .i64 m] w fun r w' => r = .returned (.slice none 0 0) ∧ RInv w' p g bs at_ 6 ∧ w.grownBy w' (some p) := by
  have hlen := hI.len
  have hat := hI.at_le
  have hB := hI.blk
  have c0 := hB.c0
  have c1 := hB.c1
  have c2 := hB.c2
  have f2 := hB.frozen 2
  have hP := part_no (some ⟨g, 0, none⟩) bs.length bs.length ((at_ : Int) + h) m w.drew hI.drew.Row.le (by omega) (by omega) (by simp [inB]; omega)
  have hwr : IntKind.i64.wrap ((at_ : Int) + h) = (at_ : Int) + h := by rw [IntKind.wrap_i64]; omega
  have h6 : inR 9 = 6 := by decide
  go_enter Try.func50, Try.ntmps50
  go_wp2
  go_region_held (fun w' => w'.cell? ⟨p, 0, none⟩ = some (.slice (some ⟨g, 0, none⟩) bs.length bs.length) ∧ w'.cell? ⟨p, 1, none⟩ = some (.int .i64 at_)) (first | go_keep | exact ⟨by assumption, by assumption⟩) (first | (go_at_call 53; refine hP.mono ?_; rintro e w1 ⟨rfl, rfl⟩))
  go_wp2_with (go_at_call 49; refine (inr_any _ _).mono ?_; rintro e w' ⟨rfl, rfl⟩)
  go_ret
  exact ⟨rfl, (hI.setE 6).drew, grown_set_drew _ _ _ _⟩

theorem rbytes_stop (p : Nat) (x y : Value) (e n : Int) (w : World) (hB : SBlk w p [x, y, .int .i64 e] 76) (he : (e != 0) = true) :
    Calls Try.prog 44 #[.pointer (some ⟨p, 0, none⟩), .int .i64 n] w fun r w' => r = .returned (.slice none 0 0) ∧ w = w' := by
  go_enter Try.func44, Try.ntmps44
  go_wp2_with (go_at_call 47; refine (rstop_any p x y e w hB).mono ?_; rintro e w' ⟨rfl, rfl⟩)
  go_ret
  exact ⟨rfl, rfl⟩
theorem rbytes_neg (p g : Nat) (bs : List Int) (at_ : Nat) (n : Int) (w : World) (hI : RInv w p g bs at_ 0) (hn : n < 0) :
    Calls Try.prog 44 #[.pointer (some ⟨p, 0, none⟩), .int .i64 n] w fun r w' => r = .returned (.slice none 0 0) ∧ RInv w' p g bs at_ 1 ∧ w.grownBy w' (some p) := by
  have hB := hI.blk
  have c2 := hB.c2
  have f2 := hB.frozen 2
  go_enter Try.func44, Try.ntmps44
  go_wp2_with (go_at_call 47; refine (rstop_any p _ _ 0 w hB).mono ?_; rintro e w' ⟨rfl, rfl⟩)
  go_ret
  exact ⟨rfl, hI.setE 1, grown_set _ _ _ _⟩
theorem rbytes_ok (p g : Nat) (bs : List Int) (at_ m : Nat) (w : World) (hI : RInv w p g bs at_ 0) (hin : at_ + m ≤ bs.length) :
    Calls Try.prog 44 #[.pointer (some ⟨p, 0, none⟩), .int .i64 m] w fun r w' => ∃ v, r = .returned v ∧ Res w w' v ((bs.drop at_).take m) ∧ RInv w' p g bs (at_ + m) 0 ∧ w.grownBy w' (some p) := by
  have hlen := hI.len
  have hB := hI.blk
  have hT := take_ok p g bs at_ 0 m w hI hin
  simp only [Nat.add_zero, Nat.zero_add] at hT
  go_enter Try.func44, Try.ntmps44
  go_wp2_with (first | (go_at_call 47; refine (rstop_any p _ _ 0 w hB).mono ?_; rintro e w' ⟨rfl, rfl⟩) | (go_at_call 50; refine hT.mono ?_; rintro e w1 ⟨v, rfl, hR, hI1, hg1⟩))
  go_ret
  exact ⟨_, rfl, by assumption, by assumption, by assumption⟩
theorem rbytes_out (p g : Nat) (bs : List Int) (at_ m : Nat) (w : World) (hI : RInv w p g bs at_ 0) (hm : m ≤ 9223372036854775807) (hin : ¬ at_ + m ≤ bs.length) :
    Calls Try.prog 44 #[.pointer (some ⟨p, 0, none⟩), .int .i64 m] w fun r w' => r = .returned (.slice none 0 0) ∧ RInv w' p g bs at_ 6 ∧ w.grownBy w' (some p) := by
  have hlen := hI.len
  have hB := hI.blk
  have hT := take_bad p g bs at_ 0 m w hI (by omega) hm hin
  go_enter Try.func44, Try.ntmps44
  go_wp2_with (first | (go_at_call 47; refine (rstop_any p _ _ 0 w hB).mono ?_; rintro e w' ⟨rfl, rfl⟩) | (go_at_call 50; refine hT.mono ?_; rintro e w1 ⟨rfl, hI1, hg1⟩))
  go_ret
  exact ⟨rfl, by assumption, by assumption⟩

theorem hle_two {bs : List Int} (hb : Byt bs) (k : Nat) : 0 ≤ le ((bs.drop k).take 2) ∧ le ((bs.drop k).take 2) < 65536 := by
  have hB := (hb.drop k).take 2
  have h1 := le_lt_of hB 2 (by simp; omega)
  exact ⟨le_nonneg hB, by have e : (256 : Int) ^ 2 = 65536 := by decide
                          rw [e] at h1; exact h1⟩

theorem newreader_any (a : Option Addr) (len cap : Nat) (bs : List Int) (w : World) (R : Row w a len bs) (hl : len ≤ 2000000) :
    Calls Try.prog 38 #[.slice a len cap] w fun r w' => ∃ p g, r = .returned (.pointer (some ⟨p, 0, none⟩)) ∧ RInv w' p g bs 0 0 ∧ w.heap.size ≤ p ∧ w.heap.size ≤ g ∧ w.grownBy w' none := by
  have hF := fresh_any a len cap bs w R (by omega)
  go_enter Try.func38, Try.ntmps38
  go_wp2_with (go_at_call 36; refine hF.mono ?_; rintro e w1 ⟨rfl, hb1, hg1, hs1⟩; have HS : Hid (w1.heap.size = w.heap.size + 1) := hs1; clear hs1)
  go_ret
  have hb1 : Blk w1 w.heap.size (bv bs) := by assumption
  have hg1 : w.grownBy w1 none := by assumption
  have HS : w1.heap.size = w.heap.size + 1 := (show Hid (w1.heap.size = w.heap.size + 1) by assumption)
  obtain rfl := R.len_eq
  exact ⟨w1.heap.size, w.heap.size, rfl, ⟨alloc_sblk w1 [.slice (some ⟨w.heap.size, 0, none⟩) bs.length bs.length, .int .i64 0, .int .i64 0] 76, hb1.below ((Below.refl _ _).alloc (Nat.le_refl _) _) hb1.lt, R.byt, hl, Nat.zero_le _, by omega⟩, by omega, Nat.le_refl _, grown_trans hg1 (World.grownBy_alloc w1 _ none)⟩
end Go.Proofs.Ytngalihnckbkfaa
