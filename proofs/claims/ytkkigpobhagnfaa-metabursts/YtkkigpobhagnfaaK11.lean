/- The program's meta: what a head says; the chunk at a place. A range over an iterator that lays boxes of its own in each round (a law of the walk's own kind). -/
import Derived.RangeFuncNested
import Derived.RangeFuncBound
import Derived.RangeFuncCalls
import Derived.RangeFuncLeaves
import Derived.RangeFuncBox
import Derived.Shelf.Abstract
import Derived.Shelf.RegionOpen
import Derived.WalkKit
import Derived.OwnWalkIn
import Derived.TacticsInMore
import Derived.LoopNIn
import Derived.LoopIn
import Derived.Maps.AppendAt
import Derived.Test.YtkkigpobhagnfaaK01
import Derived.Test.YtkkigpobhagnfaaK10
namespace Go.Proofs.Ytkkigpobhagnfaa
open Go.RowKit
set_option maxRecDepth 100000
set_option linter.unusedSimpArgs false
set_option linter.unusedVariables false
/-- guards: the next operation is a load, a store of a whole chunk -/
theorem loadC_here {P : Program} {w : World} {ops : Array Oper} {rest : List Oper} {a : Act} {Q : Exit → Act → World → Prop} {dst : Option Nat} {x : Operand} {type : TypeId} {pos : String} {after : Array Edge} {guard : Option (Nat × Bool)}
  (h : wpList P ops Q (⟨dst, .load 39 x, type, pos, after, guard⟩ :: rest) a w) : wpList P ops Q (⟨dst, .load 39 x, type, pos, after, guard⟩ :: rest) a w := h
theorem storeC_here {P : Program} {w : World} {ops : Array Oper} {rest : List Oper} {a : Act} {Q : Exit → Act → World → Prop} {dst : Option Nat} {x y : Operand} {type : TypeId} {pos : String} {after : Array Edge} {guard : Option (Nat × Bool)}
  (h : wpList P ops Q (⟨dst, .store 39 x y, type, pos, after, guard⟩ :: rest) a w) : wpList P ops Q (⟨dst, .store 39 x y, type, pos, after, guard⟩ :: rest) a w := h
theorem infoC : (Try.prog.info? 39).map (·.size) = some 5 := by kernel_rfl
/-- what the bytes of a head say -/
def hdf (bs : List Int) : Ck := ⟨0, le (bs.take 2), le ((bs.drop 2).take 2) % 32768, decide (le ((bs.drop 2).take 2) < 32768), (le ((bs.drop 4).take 4)).toNat⟩
/-- the head at a place -/
def hdC (bs : List Int) (p : Nat) : Ck := ⟨(p : Int), le ((bs.drop p).take 2), le ((bs.drop (p + 2)).take 2) % 32768, decide (le ((bs.drop (p + 2)).take 2) < 32768), (le ((bs.drop (p + 4)).take 4)).toNat⟩
theorem cut8 (bs : List Int) (p k n : Nat) (h : k + n ≤ 8) : ((((bs.drop p).take 8)).drop k).take n = (bs.drop (p + k)).take n := by
 rw [List.drop_take, List.take_take, List.drop_drop, Nat.min_eq_left (by omega)]
theorem hdf_at (bs : List Int) (p : Nat) : hdC bs p = { hdf ((bs.drop p).take 8) with at_ := (p : Int) } := by
 have h0 := cut8 bs p 0 2 (by decide)
 rw [List.drop_zero, Nat.add_zero] at h0
 simp only [hdC, hdf, h0, cut8 bs p 2 2 (by decide), cut8 bs p 4 4 (by decide)]
theorem le2 {bs : List Int} (h : Byt bs) (k : Nat) : 0 ≤ le ((bs.drop k).take 2) ∧ le ((bs.drop k).take 2) < 65536 := ⟨le_nonneg ((h.drop k).take 2), le_lt_of ((h.drop k).take 2) 2 (by simp; omega)⟩
theorem le4q {bs : List Int} (h : Byt bs) (k : Nat) : 0 ≤ le ((bs.drop k).take 4) ∧ le ((bs.drop k).take 4) < 4294967296 := ⟨le_nonneg ((h.drop k).take 4), le_lt_of ((h.drop k).take 4) 4 (by simp; omega)⟩
theorem hdC_ok {bs : List Int} (h : Byt bs) (p : Nat) (hp : p ≤ 16777216) : (hdC bs p).ok := by
 have h0 := le2 h p
 have h1 := le2 h (p + 2)
 have h2 := le4q h (p + 4)
 unfold Ck.ok hdC
 simp only
 omega
set_option maxHeartbeats 2000000 in
theorem pfields14_any (a : Option Addr) (cap : Nat) (bs : List Int) (w : World) (R : Row w a 8 bs) :
  Calls Try.prog 62 #[.slice a 8 cap] w fun e w' => e = .returned (hdf bs).val ∧ w.grownBy w' none := by
 have hlb := R.len_eq
 have hb := R.byt
 have h0 := le2 hb 0
 rw [List.drop_zero] at h0
 have h1 := le2 hb 2
 have h2 := le4q hb 4
 have B0 := Bx.new w 39 [.int .i64 0, .int .i64 0, .int .i64 0, .bool false, .int .u32 0]
 have G0 := World.grownBy_alloc w (.cells #[.int .i64 0, .int .i64 0, .int .i64 0, .bool false, .int .u32 0] 39) none
 have hNR := newreader_any a 8 cap bs _ (R.grown G0) (by decide)
 unfold hdf Ck.val
 simp only
 obtain ⟨x, hx⟩ : ∃ x, le (bs.take 2) = x := ⟨_, rfl⟩
 obtain ⟨y, hy⟩ : ∃ x, le ((bs.drop 2).take 2) = x := ⟨_, rfl⟩
 obtain ⟨z, hz⟩ : ∃ x, le ((bs.drop 4).take 4) = x := ⟨_, rfl⟩
 rw [hx] at h0
 rw [hy] at h1
 rw [hz] at h2
 rw [hx, hy, hz]
 obtain ⟨n, rfl⟩ := Int.eq_ofNat_of_zero_le h2.1
 rw [Int.toNat_natCast]
 have HX : Hid _ := And.intro hx (And.intro hy hz)
 clear hx hy hz
 go_enter Try.func62, Try.ntmps62
 go_wp2_with fail
 refine hNR.mono ?_
 rintro e w1 ⟨p, g, rfl, I1, hp, hg, g1⟩
 have B1 := B0.kept g1
 have G1 := grown_trans G0 g1
 have hN1 := rnum_ok p g bs 0 2 w1 I1 (by decide) (by omega)
 rw [List.drop_zero, HX.out.1] at hN1
 clear hNR g1
 go_wp2_with fail
 refine hN1.mono ?_
 rintro e w2 ⟨rfl, I2, g2⟩
 have hN2 := rnum_ok p g bs 2 2 w2 I2 (by decide) (by omega)
 rw [HX.out.2.1] at hN2
 clear hN1
 go_wp2_with fail
 refine hN2.mono ?_
 rintro e w3 ⟨rfl, I3, g3⟩
 have hN3 := rnum_ok p g bs 4 4 w3 I3 (by decide) (by omega)
 rw [HX.out.2.2] at hN3
 clear hN2
 go_wp2_with fail
 refine hN3.mono ?_
 rintro e w4 ⟨rfl, I4, g4⟩
 have hsz : (w.alloc (.cells #[.int .i64 0, .int .i64 0, .int .i64 0, .bool false, .int .u32 0] 39)).heap.size = w.heap.size + 1 := by simp
 have gg := grown_trans (grown_trans g2 g3) g4
 have B4 : Bx w4 w.heap.size 39 [.int .i64 0, .int .i64 0, .int .i64 0, .bool false, .int .u32 0] := ⟨by rw [gg.block _ B1.lt (by intro e; injection e with e; omega)]; exact B1.blk⟩
 have G4 : w.grownBy w4 none := grown_new G1 gg (by omega)
 clear hN3 I1 I2 I3 I4 g2 g3 g4 gg B0 B1 G0 G1 hsz hp hg R hb
 clear HX
 have w0 : IntKind.i64.wrap x = x := by rw [IntKind.wrap_i64]; omega
 have w1' : IntKind.i64.wrap y = y := by rw [IntKind.wrap_i64]; omega
 have w2' : IntKind.u32.wrap (n : Int) = (n : Int) := by rw [IntKind.wrap_u32]; omega
 go_wp2_with ((with_reducible refine storeC_here ?_); refine wpList_storeB rfl 39 _ _ rfl w.heap.size [.int .i64 0, .int .i64 x, .int .i64 (y % 32768), .bool (decide (y < 32768)), .int .u32 (n : Int)] rfl ?_ B4 infoC rfl rfl ?_)
 ·rfl
 intro W5 B5 G5
 obtain ⟨d0, d1, d2, d3, d4⟩ := ckx B5
 have HQ : Hid _ := grown_new G4 G5 (Nat.le_refl _)
 clear B5 G5 B4 G4
 go_wp2_with fail
 refine bodyPost_ret (by simp [results, Try.results62, go_sem, d0, d1, d2, d3, d4]; try rfl) rfl ?_
 exact ⟨rfl, HQ.out⟩
/-- the chunk at a place that tells so many bytes, if there is one -/
def cAt (bs : List Int) (p : Nat) (want : Int) : Ck × Bool := if bs.length < p + 8 then (ck0, false) else if (hdC bs p).pl = want ∧ rgt (hdC bs p) = true ∧ wthn bs.length (hdC bs p) = true then (hdC bs p, true) else (ck0, false)
def CaPost (w : World) (r : Ck × Bool) (e : Ending) (w' : World) : Prop := e = .returned (.tuple #[r.1.val, .bool r.2]) ∧ w.grownBy w' none
set_option maxHeartbeats 4000000 in
theorem pchunkAt_any (a : Option Addr) (len cap : Nat) (bs : List Int) (p : Nat) (want : Int) (w : World) (B : Byte w a len cap bs) (hl : len ≤ 16777216) (hp : p ≤ len) :
  Calls Try.prog 45 #[.slice a len cap, .int .i64 (p : Int), .int .i64 want] w (CaPost w (cAt bs p want)) := by
 have hlb := B.row.len_eq
 have G0 := World.grownBy_alloc w (.cells #[.int .i64 0, .int .i64 0, .int .i64 0, .bool false, .int .u32 0] 39) none
 have B0 := Bx.new w 39 [.int .i64 0, .int .i64 0, .int .i64 0, .bool false, .int .u32 0]
 unfold cAt
 by_cases h8 : bs.length < p + 8
 ·rw [if_pos h8]
  have h8' : (len : Int) - (p : Int) < 8 := by omega
  go_enter Try.func45, Try.ntmps45
  go_wp2_with ((with_reducible refine storeC_here ?_); refine wpList_storeB rfl 39 _ _ rfl w.heap.size [.int .i64 0, .int .i64 0, .int .i64 0, .bool false, .int .u32 0] rfl ?_ B0 infoC rfl rfl ?_)
  ·rfl
  intro W5 B5 G5
  obtain ⟨d0, d1, d2, d3, d4⟩ := ckx B5
  have HQ : Hid _ := grown_new G0 G5 (Nat.le_refl _)
  clear B5 G5 G0 B0
  go_wp2_with fail
  refine bodyPost_ret (by simp [results, Try.results45, go_sem, d0, d1, d2, d3, d4]; try rfl) rfl ?_
  exact ⟨rfl, HQ.out⟩
 ·rw [if_neg h8]
  obtain ⟨b, off, rfl, _⟩ := B.row.cells (by omega)
  have R8 := B.row.part p 8 (by omega)
  have hF := fun W (G : w.grownBy W none) => pfields14_any _ (cap - p) _ W (R8.grown G)
  have hat := hdf_at bs p
  have hok := hdC_ok B.row.byt p (by omega)
  have hRt := fun W => pright14_any (hdC bs p) W
  have hWi := fun W hr => pwithin14_any (some ⟨b, off, none⟩) len cap (hdC bs p) W hl hok hr
  rw [hat] at hok hRt hWi ⊢
  rw [hlb]
  generalize hdf ((bs.drop p).take 8) = h at hF hok hRt hWi ⊢
  obtain ⟨at_, pl, st, pk, cr⟩ := h
  unfold Ck.val at hF hRt hWi
  simp only at hF hRt hWi hok ⊢
  have hF1 := hF _ G0
  obtain ⟨⟨ha0, ha1⟩, ⟨hp0, hp1⟩, ⟨hs0, hs1⟩, hcr⟩ := hok
  have hnc := B.nc
  have hcm := B.cm
  obtain ⟨A, hA⟩ : ∃ A : Ck × Bool, A = (if pl = want ∧ rgt ⟨(p : Int), pl, st, pk, cr⟩ = true ∧ wthn len ⟨(p : Int), pl, st, pk, cr⟩ = true then ((⟨(p : Int), pl, st, pk, cr⟩ : Ck), true) else (ck0, false)) := ⟨_, rfl⟩
  rw [← hA]
  have HA : Hid _ := hA
  have HW : Hid _ := hWi
  have HB0 : Hid _ := And.intro B0 G0
  clear hA hat hF R8 B hWi B0 G0
  by_cases hw : pl = want
  ·subst hw
   by_cases hr : rgt ⟨(p : Int), pl, st, pk, cr⟩ = true
   ·rw [hr] at hRt
    have HW1 := fun W => HW.out W hr
    by_cases hi : wthn len ⟨(p : Int), pl, st, pk, cr⟩ = true
    ·rw [hi] at HW1
     go_enter Try.func45, Try.ntmps45
     go_wp2_with fail
     refine hF1.mono ?_
     rintro e w1 ⟨rfl, g1⟩
     have g2 := World.grownBy_alloc w1 (.cells #[.int .i64 (p : Int), .int .i64 pl, .int .i64 st, .bool pk, .int .u32 (cr : Int)] 39) none
     have HB : Hid _ := And.intro (Bx.new w1 39 [.int .i64 (p : Int), .int .i64 pl, .int .i64 st, .bool pk, .int .u32 (cr : Int)]) (And.intro ((HB0.out.1.kept g1).kept g2) (grown_trans (grown_trans HB0.out.2 g1) g2))
     clear hF1 HB0 g1 g2
     go_wp2_with fail
     generalize w1.alloc (.cells #[.int .i64 (p : Int), .int .i64 pl, .int .i64 st, .bool pk, .int .u32 (cr : Int)] 39) = W2 at HB ⊢
     generalize w1.heap.size = q at HB ⊢
     refine (hRt _).mono ?_
     rintro e w3 ⟨rfl, g3⟩
     obtain ⟨e0, e1, e2, e3, e4⟩ := ckx (HB.out.1.kept g3)
     have HB3 : Hid _ := And.intro (HB.out.1.kept g3) (And.intro (HB.out.2.1.kept g3) (grown_trans HB.out.2.2 g3))
     clear HB g3
     have HB : Hid _ := HB3.out
     clear HB3
     go_wp2_with fail
     refine (HW1 _).mono ?_
     rintro e w3 ⟨rfl, g3⟩
     obtain ⟨e0, e1, e2, e3, e4⟩ := ckx (HB.out.1.kept g3)
     have HB3 : Hid _ := And.intro (HB.out.1.kept g3) (And.intro (HB.out.2.1.kept g3) (grown_trans HB.out.2.2 g3))
     clear HB g3
     have HB : Hid _ := HB3.out
     clear HB3
     go_wp2_with ((with_reducible refine storeC_here ?_); refine wpList_storeB rfl 39 _ _ rfl w.heap.size [.int .i64 (p : Int), .int .i64 pl, .int .i64 st, .bool pk, .int .u32 (cr : Int)] rfl ?_ HB.out.2.1 infoC rfl rfl ?_)
     ·rfl
     intro W5 B5 G5
     obtain ⟨d0, d1, d2, d3, d4⟩ := ckx B5
     have HQ : Hid _ := grown_new HB.out.2.2 G5 (Nat.le_refl _)
     clear B5 G5
     go_wp2_with fail
     refine bodyPost_ret (by simp [results, Try.results45, go_sem, d0, d1, d2, d3, d4]; try rfl) rfl ?_
     have hA := HA.out
     rw [if_pos (by simp [hr, hi])] at hA
     subst hA
     exact ⟨rfl, HQ.out⟩
    ·rw [Bool.not_eq_true] at hi
     rw [hi] at HW1
     go_enter Try.func45, Try.ntmps45
     go_wp2_with fail
     refine hF1.mono ?_
     rintro e w1 ⟨rfl, g1⟩
     have g2 := World.grownBy_alloc w1 (.cells #[.int .i64 (p : Int), .int .i64 pl, .int .i64 st, .bool pk, .int .u32 (cr : Int)] 39) none
     have HB : Hid _ := And.intro (Bx.new w1 39 [.int .i64 (p : Int), .int .i64 pl, .int .i64 st, .bool pk, .int .u32 (cr : Int)]) (And.intro ((HB0.out.1.kept g1).kept g2) (grown_trans (grown_trans HB0.out.2 g1) g2))
     clear hF1 HB0 g1 g2
     go_wp2_with fail
     generalize w1.alloc (.cells #[.int .i64 (p : Int), .int .i64 pl, .int .i64 st, .bool pk, .int .u32 (cr : Int)] 39) = W2 at HB ⊢
     generalize w1.heap.size = q at HB ⊢
     refine (hRt _).mono ?_
     rintro e w3 ⟨rfl, g3⟩
     obtain ⟨e0, e1, e2, e3, e4⟩ := ckx (HB.out.1.kept g3)
     have HB3 : Hid _ := And.intro (HB.out.1.kept g3) (And.intro (HB.out.2.1.kept g3) (grown_trans HB.out.2.2 g3))
     clear HB g3
     have HB : Hid _ := HB3.out
     clear HB3
     go_wp2_with fail
     refine (HW1 _).mono ?_
     rintro e w3 ⟨rfl, g3⟩
     obtain ⟨e0, e1, e2, e3, e4⟩ := ckx (HB.out.1.kept g3)
     have HB3 : Hid _ := And.intro (HB.out.1.kept g3) (And.intro (HB.out.2.1.kept g3) (grown_trans HB.out.2.2 g3))
     clear HB g3
     have HB : Hid _ := HB3.out
     clear HB3
     go_wp2_with ((with_reducible refine storeC_here ?_); refine wpList_storeB rfl 39 _ _ rfl w.heap.size [.int .i64 0, .int .i64 0, .int .i64 0, .bool false, .int .u32 0] rfl ?_ HB.out.2.1 infoC rfl rfl ?_)
     ·rfl
     intro W5 B5 G5
     obtain ⟨d0, d1, d2, d3, d4⟩ := ckx B5
     have HQ : Hid _ := grown_new HB.out.2.2 G5 (Nat.le_refl _)
     clear B5 G5
     go_wp2_with fail
     refine bodyPost_ret (by simp [results, Try.results45, go_sem, d0, d1, d2, d3, d4]; try rfl) rfl ?_
     have hA := HA.out
     rw [if_neg (by rw [hi]; simp)] at hA
     subst hA
     exact ⟨rfl, HQ.out⟩
   ·rw [Bool.not_eq_true] at hr
    rw [hr] at hRt
    go_enter Try.func45, Try.ntmps45
    go_wp2_with fail
    refine hF1.mono ?_
    rintro e w1 ⟨rfl, g1⟩
    have g2 := World.grownBy_alloc w1 (.cells #[.int .i64 (p : Int), .int .i64 pl, .int .i64 st, .bool pk, .int .u32 (cr : Int)] 39) none
    have HB : Hid _ := And.intro (Bx.new w1 39 [.int .i64 (p : Int), .int .i64 pl, .int .i64 st, .bool pk, .int .u32 (cr : Int)]) (And.intro ((HB0.out.1.kept g1).kept g2) (grown_trans (grown_trans HB0.out.2 g1) g2))
    clear hF1 HB0 g1 g2
    go_wp2_with fail
    generalize w1.alloc (.cells #[.int .i64 (p : Int), .int .i64 pl, .int .i64 st, .bool pk, .int .u32 (cr : Int)] 39) = W2 at HB ⊢
    generalize w1.heap.size = q at HB ⊢
    refine (hRt _).mono ?_
    rintro e w3 ⟨rfl, g3⟩
    obtain ⟨e0, e1, e2, e3, e4⟩ := ckx (HB.out.1.kept g3)
    have HB3 : Hid _ := And.intro (HB.out.1.kept g3) (And.intro (HB.out.2.1.kept g3) (grown_trans HB.out.2.2 g3))
    clear HB g3
    have HB : Hid _ := HB3.out
    clear HB3
    go_wp2_with ((with_reducible refine storeC_here ?_); refine wpList_storeB rfl 39 _ _ rfl w.heap.size [.int .i64 0, .int .i64 0, .int .i64 0, .bool false, .int .u32 0] rfl ?_ HB.out.2.1 infoC rfl rfl ?_)
    ·rfl
    intro W5 B5 G5
    obtain ⟨d0, d1, d2, d3, d4⟩ := ckx B5
    have HQ : Hid _ := grown_new HB.out.2.2 G5 (Nat.le_refl _)
    clear B5 G5
    go_wp2_with fail
    refine bodyPost_ret (by simp [results, Try.results45, go_sem, d0, d1, d2, d3, d4]; try rfl) rfl ?_
    have hA := HA.out
    rw [if_neg (by rw [hr]; simp)] at hA
    subst hA
    exact ⟨rfl, HQ.out⟩
  ·have hw2 : (pl != want) = true := by simpa using hw
   go_enter Try.func45, Try.ntmps45
   go_wp2_with fail
   refine hF1.mono ?_
   rintro e w1 ⟨rfl, g1⟩
   have g2 := World.grownBy_alloc w1 (.cells #[.int .i64 (p : Int), .int .i64 pl, .int .i64 st, .bool pk, .int .u32 (cr : Int)] 39) none
   have HB : Hid _ := And.intro (Bx.new w1 39 [.int .i64 (p : Int), .int .i64 pl, .int .i64 st, .bool pk, .int .u32 (cr : Int)]) (And.intro ((HB0.out.1.kept g1).kept g2) (grown_trans (grown_trans HB0.out.2 g1) g2))
   clear hF1 HB0 g1 g2
   go_wp2_with ((with_reducible refine storeC_here ?_); refine wpList_storeB rfl 39 _ _ rfl w.heap.size [.int .i64 0, .int .i64 0, .int .i64 0, .bool false, .int .u32 0] rfl ?_ HB.out.2.1 infoC rfl rfl ?_)
   ·rfl
   intro W5 B5 G5
   obtain ⟨d0, d1, d2, d3, d4⟩ := ckx B5
   have HQ : Hid _ := grown_new HB.out.2.2 G5 (Nat.le_refl _)
   clear B5 G5
   go_wp2_with fail
   refine bodyPost_ret (by simp [results, Try.results45, go_sem, d0, d1, d2, d3, d4]; try rfl) rfl ?_
   have hA := HA.out
   rw [if_neg (fun h => hw h.1)] at hA
   subst hA
   exact ⟨rfl, HQ.out⟩
end Go.Proofs.Ytkkigpobhagnfaa
namespace Go.Proofs.Ytkkigpobhagnfaa
open Go.RowKit Go.Shelf
set_option maxRecDepth 100000
set_option linter.unusedSimpArgs false
set_option linter.unusedVariables false
/-- what lies from lo on, below m, lies as it lay -/
def KeptO (lo m : Nat) (W W' : World) : Prop := ∀ k, lo ≤ k → k < m → W'.heap[k]? = W.heap[k]?
theorem KeptO.refl (lo m : Nat) (W : World) : KeptO lo m W W := fun _ _ _ => rfl
theorem KeptO.trans {lo m : Nat} {A B C : World} (h : KeptO lo m A B) (k : KeptO lo m B C) : KeptO lo m A C := fun i h1 h2 => (k i h1 h2).trans (h i h1 h2)
theorem KeptO.put {lo m l : Nat} {W : World} (o : Obj) (h : l < lo) : KeptO lo m W (W.putObj l o) := fun k h1 _ => World.putObj_heap_other (by omega)
theorem KeptO.cut {lo m m' : Nat} {A B : World} (h : KeptO lo m A B) (hm : m' ≤ m) : KeptO lo m' A B := fun i h1 h2 => h i h1 (by omega)
theorem KeptO.grown {lo m : Nat} {A B : World} (g : A.grownBy B none) (hm : m ≤ A.heap.size) : KeptO lo m A B := fun k _ h2 => g.block k (by omega) (by simp)
/-- but for one block that lies elsewhere -/
theorem KeptO.grownR {lo m : Nat} {A B : World} {row : Option Nat} (g : A.grownBy B row) (hm : m ≤ A.heap.size) (hr : ∀ r, row = some r → r < lo ∨ m ≤ r) : KeptO lo m A B := fun k h1 h2 => g.block k (by omega) (fun e => by have := hr k e.symm; omega)
theorem round_depth14 {m : Nat} (m' : Nat) {P : Program} {l : Nat} {f : FuncId} {tmps : Array Value} {assign body : Code} {w : World} {R : Ending → World → Prop} (h : RoundIn Fence.wide m P l f tmps assign body w R) : RoundIn Fence.wide m' P l f tmps assign body w R :=
 ⟨h.1, fun c cs _ => h.2 c cs (fun d hd => by cases hd)⟩
theorem grown_put {A B : World} {r : Nat} (o : Obj) (g : A.grownBy B none) (hr : r < A.heap.size) : (A.putObj r o).grownBy (B.putObj r o) none :=
 ⟨g.os, g.tape, g.output, by simpa using g.size, fun k hk _ => by
  have hk' : k < A.heap.size := by simpa using hk
  by_cases e : k = r
  ·subst e; rw [World.putObj_heap_same (Nat.lt_of_lt_of_le hr g.size), World.putObj_heap_same hr]
  ·rw [World.putObj_heap_other e, World.putObj_heap_other e]; exact g.block k hk' (by simp)⟩
/-- an iterator that may lay boxes of its own ahead of each round, and finds them there behind it -/
def SeqB {α : Type} (P : Program) (g : Nat) (lb : Array Value) (encs : α → Array Value) (Kp : World → World → Prop) (S Sp : List α → Prop) (w : World) : Prop :=
 ∀ (d l : Nat) (J Jx : List α → World → Prop) (W : World), Below w.heap.size w W → OwnFrom W.heap.size J → OwnFrom W.heap.size Jx →
  (∀ d' pre x W0 W1, J pre W0 → W0.grownBy W1 none → Sp (pre ++ [x]) → YieldAt Fence.wide d' P l (encs x) W1 fun e W' =>
   (e = .returned (.bool true) ∧ J (pre ++ [x]) W' ∧ Kp W1 W' ∧ KeptO W0.heap.size W1.heap.size W1 W') ∨ (e = .returned (.bool false) ∧ Jx (pre ++ [x]) W')) →
  J [] W →
  CallsIn Fence.wide d P g (#[.func (.yield l) #[] #[]] ++ lb) W fun e W' => (∃ v, e = .returned v) ∧ ((∃ xs, S xs ∧ J xs W') ∨ (∃ pre, Sp pre ∧ Jx pre W'))
def ownPostB {α : Type} (B : Nat) (Kp : World → World → Prop) (I : List α → World → Prop) (Ix : Code → List α → World → Prop) (xs : List α) (W0 W : World) : Exit → Act → World → Prop
 | .normal, _, W' => KeepsFrom B W W' ∧ Kp W W' ∧ KeptO W0.heap.size W.heap.size W W' ∧ I xs W'
 | .ret, _, W' => KeepsFrom B W W' ∧ Ix .ret xs W'
 | .exit id, _, W' => KeepsFrom B W W' ∧ Ix (.exit id) xs W'
 | .goto t, _, W' => KeepsFrom B W W' ∧ Ix (.goto t) xs W'
 | .panic _, _, _ => False
 | .outgrown, _, _ => False
set_option maxHeartbeats 1000000 in
/-- the loop over such an iterator -/
theorem rangeB {α : Type} {P : Program} {n : Nat} {g : Operand} {ps : Array Tmp} {assign body : Code} {Q : Exit → Act → World → Prop} {a : Act} {w : World}
  {gf : Nat} {lb : Array Value} (hg : a.eval g = .func (.func gf) #[] lb) (eg : ∀ args w, (callFunc gf args).run P w = .ok (.enter gf args) w)
  {encs : α → Array Value} {Kp : World → World → Prop} {S Sp : List α → Prop} {w0 : World} (hseq : SeqB P gf lb encs Kp S Sp w0) (hb0 : Below w0.heap.size w0 w) (hps : ∀ x, (encs x).size = ps.size)
  (hKt : ∀ {A B C : World}, Kp A B → Kp B C → Kp A C) (hKb : ∀ (W : World) (o : Obj), Kp W (W.putObj (w.heap.size + 1) o)) (hKg : ∀ (A B : World), A.grownBy B none → Kp A B)
  (I : List α → World → Prop) (Ix : Code → List α → World → Prop) (hI : OwnFrom w.heap.size I) (hIx : ∀ c, OwnFrom w.heap.size (Ix c))
  (h0 : I [] w) (Ax : α → Act → Nat → World → Prop) (hAx : ∀ x a' m, OwnFrom w.heap.size (fun (_ : Unit) W => Ax x a' m W))
  (hassign : ∀ (l d : Nat) (x : α) (W : World) (K : Act → World → Prop), (∀ a' W', W.grownBy W' none → Ax x a' W.heap.size W' → K a' W') →
   assign.wpIn (Fence.wide.inRound l) d P (Exit.then K (fun _ _ _ => False)) { tmps := (ps.zip (encs x)).foldl (fun t (p, v) => t.setIfInBounds p v) a.tmps, defers := [] } W)
  (hbody : ∀ (l d m : Nat) (pre : List α) (x : α) (a' : Act) (W0 W : World), w.heap.size + 2 ≤ W0.heap.size → W0.heap.size ≤ m → I pre W0 → W0.grownBy W none → Ax x a' m W → Sp (pre ++ [x]) →
   body.wpIn (Fence.wide.inRound l) d P (ownPostB w.heap.size Kp I Ix (pre ++ [x]) W0 W) a' W)
  (hdone : ∀ (D : Nat) (xs : List α) (W : World), w.heap.size ≤ D → S xs → I xs W → W.heap[D]? = some (.deferred (some [])) → Q .normal { a with defers := { target := .collected D, args := #[] } :: a.defers } W)
  (hstop : ∀ (D : Nat) (c : Code) (pre : List α) (W : World), w.heap.size ≤ D → Sp pre → Ix c pre W → W.heap[D]? = some (.deferred (some [])) → c.wpIn Fence.wide n P Q { a with defers := { target := .collected D, args := #[] } :: a.defers } W) :
  (Code.rangeFunc g ps assign body).wpIn Fence.wide n P Q a w := by
 refine wpIn_rangeFunc fun fn hfn => ?_
 obtain ⟨rc, hrc⟩ : ∃ rc : LoopState → Option Code → Loop, rc = fun st pe => { state := st, pending := pe, fn, tmps := a.tmps, params := ps, assign, body, defers := w.heap.size } := ⟨_, rfl⟩
 have hen := run_enterLoop_outer (P := P) (w := w) fn a.tmps ps assign body
 have hrr : ({ state := .ready, pending := none, fn, tmps := a.tmps, params := ps, assign, body, defers := w.heap.size } : Loop) = rc .ready none := by rw [hrc]
 rw [hrr] at hen
 generalize hW1 : (w.alloc (.deferred (some []))).alloc (.loop (rc .ready none)) = W1 at hen
 have hsz : W1.heap.size = w.heap.size + 2 := by rw [← hW1]; simp
 have hL1 : W1.heap[w.heap.size + 1]? = some (.loop (rc .ready none)) := by
  have := World.alloc_heap_new (w.alloc (.deferred (some []))) (.loop (rc .ready none))
  rw [World.size_alloc, hW1] at this; exact this
 have hK1 : W1.heap[w.heap.size]? = some (.deferred (some [])) := by
  rw [← hW1]; exact (Below.heap_alloc _ _ _ (by simp)).trans (World.alloc_heap_new w _)
 have hb1 : Below w0.heap.size w0 W1 := by
  rw [← hW1]; exact hb0.trans ((((Below.refl _ w).alloc (Nat.le_refl _) _).alloc (by simp) _).mono hb0.size)
 refine ⟨w.heap.size + 1, [{ target := .collected w.heap.size, args := #[] }], W1, { target := .fn (.func gf) lb, args := #[.func (.yield (w.heap.size + 1)) #[] #[]] }, W1, gf,
  #[.func (.yield (w.heap.size + 1)) #[] #[]] ++ lb, W1, hen, ?_, fun _ _ => trivial, ?_, (fun h => by cases h), ?_⟩
 ·simp only [resolve, hg]
  simp [go_sem]
 ·simp [invoke, go_sem, eg]
 have hJ : OwnFrom W1.heap.size (fun (pre : List α) W => I pre W ∧ W.heap[w.heap.size + 1]? = some (.loop (rc .ready none)) ∧ W.heap[w.heap.size]? = some (.deferred (some []))) := by
  rintro s A B row ⟨h1, h2, h3⟩ hgr hr
  have hne : ∀ k, k < w.heap.size + 2 → some k ≠ row := fun k hk e => by have := (hr k e.symm).1; omega
  exact ⟨hI s A B row h1 hgr (fun r e => ⟨by have := (hr r e).1; omega, (hr r e).2⟩), (hgr.block _ (Array.getElem?_eq_some_iff.1 h2).1 (hne _ (by omega))).trans h2, (hgr.block _ (Array.getElem?_eq_some_iff.1 h3).1 (hne _ (by omega))).trans h3⟩
 have hJx : OwnFrom W1.heap.size (fun (pre : List α) W => ∃ c, Ix c pre W ∧ W.heap[w.heap.size + 1]? = some (.loop (rc .done (some c))) ∧ W.heap[w.heap.size]? = some (.deferred (some []))) := by
  rintro s A B row ⟨c, h1, h2, h3⟩ hgr hr
  have hne : ∀ k, k < w.heap.size + 2 → some k ≠ row := fun k hk e => by have := (hr k e.symm).1; omega
  exact ⟨c, hIx c s A B row h1 hgr (fun r e => ⟨by have := (hr r e).1; omega, (hr r e).2⟩), (hgr.block _ (Array.getElem?_eq_some_iff.1 h2).1 (hne _ (by omega))).trans h2, (hgr.block _ (Array.getElem?_eq_some_iff.1 h3).1 (hne _ (by omega))).trans h3⟩
 refine (hseq _ (w.heap.size + 1) _ _ W1 hb1 hJ hJx ?_ ?_).mono ?_
 ·-- one round
  rintro d' pre x V0 V ⟨hi, hl0, hk0⟩ hV hsp
  have hlt0 : w.heap.size + 1 < V0.heap.size := (Array.getElem?_eq_some_iff.1 hl0).1
  have hl : V.heap[w.heap.size + 1]? = some (.loop (rc .ready none)) := (hV.block _ hlt0 (by simp)).trans hl0
  have hk : V.heap[w.heap.size]? = some (.deferred (some [])) := (hV.block _ (by omega) (by simp)).trans hk0
  have hy := run_yield (P := P) (args := encs x) hl (by rw [hrc]; exact hps x)
  rw [hrc] at hy
  refine ⟨fn, _, assign, body, hy, roundIn_of_wpIn hfn (hassign _ d' x V _ ?_)⟩
  intro a' Va hVa hax
  have hla : Va.heap[w.heap.size + 1]? = some (.loop (rc .ready none)) := (hVa.block _ (Nat.lt_of_lt_of_le hlt0 hV.size) (by simp)).trans hl
  have hka : Va.heap[w.heap.size]? = some (.deferred (some [])) := (hVa.block _ (by have := hV.size; omega) (by simp)).trans hk
  have hlta : w.heap.size + 1 < Va.heap.size := (Array.getElem?_eq_some_iff.1 hla).1
  refine ⟨_, run_beginRound hla (by rw [hrc]), ?_⟩
  have hg2 := grown_put (.loop { rc .ready none with state := .busy }) (grown_trans hV hVa) hlt0
  have hi2 : I pre (V0.putObj (w.heap.size + 1) (.loop { rc .ready none with state := .busy })) := hI.putObj _ hi (by omega) hl0 rfl
  have hax2 : Ax x a' V.heap.size (Va.putObj (w.heap.size + 1) (.loop { rc .ready none with state := .busy })) := (hAx x a' _).putObj (s := ()) _ hax (by omega) hla rfl
  have hs0 : (V0.putObj (w.heap.size + 1) (.loop { rc .ready none with state := .busy })).heap.size = V0.heap.size := by simp
  have hkpa : Kp V (Va.putObj (w.heap.size + 1) (.loop { rc .ready none with state := .busy })) := hKt (hKg _ _ hVa) (hKb _ _)
  have hkoa : KeptO V0.heap.size V.heap.size V (Va.putObj (w.heap.size + 1) (.loop { rc .ready none with state := .busy })) := (KeptO.grown hVa (Nat.le_refl _)).trans (KeptO.put _ hlt0)
  generalize hB2 : Va.putObj (w.heap.size + 1) (.loop { rc .ready none with state := .busy }) = B2 at hg2 hax2 hkpa hkoa ⊢
  generalize hB0 : V0.putObj (w.heap.size + 1) (.loop { rc .ready none with state := .busy }) = B0 at hg2 hi2 hs0
  have hl2 : B2.heap[w.heap.size + 1]? = some (.loop { rc .ready none with state := .busy }) := by rw [← hB2]; exact World.putObj_heap_same hlta
  have hk2 : B2.heap[w.heap.size]? = some (.deferred (some [])) := by rw [← hB2]; exact (World.putObj_heap_other (by omega)).trans hka
  have hs2 : V.heap.size ≤ B2.heap.size := by rw [← hB2]; simpa using hVa.size
  refine wpIn_mono (hbody _ _ V.heap.size pre x a' B0 B2 (by omega) (by have := hV.size; omega) hi2 hg2 hax2 hsp) ?_
  have fin : ∀ (jump : Option Code) (W3 : World), KeepsFrom w.heap.size B2 W3 →
    ∃ W4, (Instr.endRound (w.heap.size + 1) jump).run P W3 = .ok (.bool jump.isNone) W4 ∧ W4 = W3.putObj (w.heap.size + 1) (.loop (rc (if jump.isNone then .ready else .done) jump)) ∧
    W3.heap[w.heap.size + 1]? = some (.loop { rc .ready none with state := .busy }) ∧ W4.heap[w.heap.size + 1]? = some (.loop (rc (if jump.isNone then .ready else .done) jump)) ∧
    W4.heap[w.heap.size]? = some (.deferred (some [])) := by
   intro jump W3 hk3
   have hl3 := hk3.same _ _ (by omega) hl2 rfl
   have hr := run_endRound (P := P) jump hl3
   have hre : ({ ({ rc .ready none with state := .busy } : Loop) with state := if jump.isNone then .ready else .done, pending := jump } : Loop) = rc (if jump.isNone then .ready else .done) jump := by rw [hrc]
   rw [hre] at hr
   exact ⟨_, hr, rfl, hl3, World.putObj_heap_same (Array.getElem?_eq_some_iff.1 hl3).1, (World.putObj_heap_other (by omega)).trans (hk3.same _ _ (Nat.le_refl _) hk2 rfl)⟩
  have left : ∀ (c : Code) (W3 : World), KeepsFrom w.heap.size B2 W3 → Ix c (pre ++ [x]) W3 → ∃ v W4, (Instr.endRound (w.heap.size + 1) (some c)).run P W3 = .ok v W4 ∧
    ((Ending.returned v = .returned (.bool true) ∧ (I (pre ++ [x]) W4 ∧ W4.heap[w.heap.size + 1]? = some (.loop (rc .ready none)) ∧ W4.heap[w.heap.size]? = some (.deferred (some []))) ∧ Kp V W4 ∧ KeptO V0.heap.size V.heap.size V W4) ∨
     (Ending.returned v = .returned (.bool false) ∧ ∃ c, Ix c (pre ++ [x]) W4 ∧ W4.heap[w.heap.size + 1]? = some (.loop (rc .done (some c))) ∧ W4.heap[w.heap.size]? = some (.deferred (some [])))) := by
   intro c W3 hk3 hi3
   obtain ⟨W4, hr, rfl, hl3, hl4, hk4⟩ := fin (some c) W3 hk3
   exact ⟨_, _, hr, .inr ⟨rfl, c, (hIx c).putObj _ hi3 (by omega) hl3 rfl, hl4, hk4⟩⟩
  rintro e a3 W3 hp
  cases e with
  | normal =>
   obtain ⟨hk3, hkp3, hko3, hi3⟩ := hp
   obtain ⟨W4, hr, rfl, hl3, hl4, hk4⟩ := fin none W3 hk3
   rw [hs0] at hko3
   exact ⟨_, _, hr, .inl ⟨rfl, ⟨hI.putObj _ hi3 (by omega) hl3 rfl, hl4, hk4⟩, hKt (hKt hkpa hkp3) (hKb _ _), (hkoa.trans (hko3.cut hs2)).trans (KeptO.put _ hlt0)⟩⟩
  | ret => exact left .ret W3 hp.1 hp.2
  | exit id => exact left (.exit id) W3 hp.1 hp.2
  | goto t => exact left (.goto t) W3 hp.1 hp.2
  | panic ch => exact hp.elim
  | outgrown => exact hp.elim
 ·refine ⟨?_, hL1, hK1⟩
  rw [← hW1]
  exact hI.alloc _ (hI.alloc _ h0)
 ·rintro e W2 ⟨⟨v, rfl⟩, (⟨xs, hS, hi, hl, hk⟩ | ⟨pre, hSp, c, hi, hl, hk⟩)⟩
  ·have he := run_endLoop (P := P) hl (by rw [hrc]; simp)
   exact ⟨none, _, by rw [he, hrc], hdone _ xs _ (Nat.le_refl _) hS (hI.putObj _ hi (by omega) hl rfl) ((World.putObj_heap_other (by omega)).trans hk)⟩
  ·have he := run_endLoop (P := P) hl (by rw [hrc]; simp)
   exact ⟨some c, _, by rw [he, hrc], hstop _ c pre _ (Nat.le_refl _) hSp ((hIx c).putObj _ hi (by omega) hl rfl) ((World.putObj_heap_other (by omega)).trans hk)⟩
end Go.Proofs.Ytkkigpobhagnfaa
