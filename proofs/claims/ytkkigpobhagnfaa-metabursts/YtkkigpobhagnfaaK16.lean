/- The page's example (live), num; two lists of chunks held against each other. Chunks, of any arguments. The document's Chunks. The walk of MetaChunks. -/
import Derived.DeepKeys
import Derived.Laws.StructEq
import Derived.Test.YtkkigpobhagnfaaK02
import Derived.Test.YtkkigpobhagnfaaK14
import Derived.Test.YtkkigpobhagnfaaK15
namespace Go.Proofs.Ytkkigpobhagnfaa
open Go.RowKit
set_option maxRecDepth 100000
set_option linter.unusedSimpArgs false
set_option linter.unusedVariables false
theorem num14_any (x : Int) (w : World) : Calls Try.prog 14 #[.int .i64 x] w fun e w' => e = .returned (.int .i64 x) ∧ w = w' := by
 go_enter Try.func14, Try.ntmps14
 go_wp2
 go_ret
 exact ⟨rfl, rfl⟩
set_option maxRecDepth 100000 in
theorem en_live : enM [1, 2, 3] 0 = [3, 0, 3, 128, 29, 128, 188, 85, 1, 2, 3] := by kernel_rfl
theorem live14_any (w : World) : Calls Try.prog 9 #[] w fun e w' => e = .returned (.bool true) ∧ w.grownBy w' none := by
 have g0 := World.grownBy_alloc w (.cells #[.int .u8 1, .int .u8 2, .int .u8 3] 5) none
 have B0 : Byte (w.alloc (.cells #[.int .u8 1, .int .u8 2, .int .u8 3] 5)) (some ⟨w.heap.size, 0, none⟩) 3 3 [1, 2, 3] := by
  have h := alloc_row w [1, 2, 3] (byt_of _ (by decide)) (by decide)
  exact ⟨h, (fun h => by cases h), Nat.le_refl _, (by decide)⟩
 have h1 := pencode14_any _ 3 3 [1, 2, 3] 0 _ B0 (by decide)
 rw [en_live] at h1
 have HB : Hid (Byt [3, 0, 3, 128, 29, 128, 188, 85, 1, 2, 3]) := byt_of _ (by decide)
 go_enter Try.func9, Try.ntmps9
 go_wp2_with fail
 refine h1.mono ?_
 rintro e w1 ⟨g, rfl, b1, hg, g1⟩
 have hR := b1.row HB.out (by decide)
 have hcv : (convert 22 9 (.slice (some ⟨g, 0, none⟩) 11 11)).run Try.prog w1 = .ok (.string (strOfNums [3, 0, 3, 128, 29, 128, 188, 85, 1, 2, 3])) w1 := conv_row (P := Try.prog) hR 11 22 9 Try.underlying22 Try.underlying5 Try.underlying9
 have HG : Hid _ := grown_trans g0 g1
 clear h1 b1 hR g1 g0 B0 HB
 go_wp2_with fail
 refine (num14_any 0 w1).mono ?_
 rintro e w' ⟨rfl, rfl⟩
 have hst : strOfNums [3, 0, 3, 128, 29, 128, 188, 85, 1, 2, 3] = (⟨#[3, 0, 3, 128, 29, 128, 188, 85, 1, 2, 3]⟩ : ByteArray) := by kernel_rfl
 rw [hst] at hcv
 go_wp2
 go_ret
 exact ⟨by first | rfl | decide, HG.out⟩
theorem Try.c14 : Try.prog.cellsOf 3 = 1 := by kernel_rfl
theorem Try.c14b : Try.prog.cellsOf 4 = 1 := by kernel_rfl
theorem Try.c14u : Try.prog.cellsOf 37 = 1 := by kernel_rfl
theorem Try.c14c : Try.prog.cellsOf 39 = 5 := by kernel_rfl
theorem wf14 {x : Int} (h : -9223372036854775808 ≤ x ∧ x ≤ 9223372036854775807) : (Lit.int .i64 x).wf = true := by
 simp [Lit.wf, IntKind.min, IntKind.max, IntKind.signed, IntKind.bits]
 omega
theorem wf14u {x : Int} (h : 0 ≤ x ∧ x < 4294967296) : (Lit.int .u32 x).wf = true := by
 simp [Lit.wf, IntKind.min, IntKind.max, IntKind.signed, IntKind.bits]
 omega
theorem kl14 (d : Nat) {x : Int} (h : -9223372036854775808 ≤ x ∧ x ≤ 9223372036854775807) : Try.prog.keyLits (d + 1) 3 [.int .i64 x] = some [.int .i64 x] := by
 simp [Program.keyLits, Try.underlying3, wf14 h]
theorem kl14b (d : Nat) (b : Bool) : Try.prog.keyLits (d + 1) 4 [.bool b] = some [.bool b] := by
 simp [Program.keyLits, Try.underlying4]
theorem kl14u (d : Nat) {x : Int} (h : 0 ≤ x ∧ x < 4294967296) : Try.prog.keyLits (d + 1) 37 [.int .u32 x] = some [.int .u32 x] := by
 simp [Program.keyLits, Try.underlying37, wf14u h]
theorem kl_ck {c : Ck} (h : c.ok) : Try.prog.keyLits 8 39 c.cells = some [.int .i64 c.at_, .int .i64 c.pl, .int .i64 c.st, .bool c.pk, .int .u32 (c.cr : Int)] := by
 obtain ⟨h0, h1, h2, h3⟩ := h
 unfold Program.keyLits
 simp [Try.underlying39, Ck.cells, Try.c14, Try.c14b, Try.c14u, Try.c14c, kl14 6 h0, kl14 6 h1, kl14 6 h2, kl14b 6, kl14u 6 (x := (c.cr : Int)) ⟨by omega, by omega⟩]
set_option maxRecDepth 100000 in
theorem ck_eq (c : Ck) (w : World) (h : c.ok) : (Op.equalIn 10000 39 c.val c.val).run Try.prog w = .ok true w := by
 obtain ⟨r, h1, h2⟩ := run_equalIn_deep (P := Try.prog) 9990 10 39 (by kernel_rfl) w 8 8 c.val c.val _ _ (by rfl) (by rfl) (kl_ck h) (kl_ck h)
 rw [show (9990 + 10) = 10000 from rfl] at h1
 rw [h1, h2.2 rfl]
theorem ck_neq (c : Ck) (w : World) (h : c.ok) : (binOp .neq 39 c.val c.val).run Try.prog w = .ok (.bool false) w := by
 have := ck_eq c w h
 unfold Ck.val at *
 rw [run_neq_struct, this]; rfl
set_option maxHeartbeats 1000000 in
theorem rsame14_any (a1 a2 : Option Addr) (n c1 c2 : Nat) (l : List Ck) (w : World) (h1 : Cks w a1 n l) (h2 : Cks w a2 n l) (hok : ∀ c ∈ l, c.ok) :
  Calls Try.prog 16 #[.slice a1 n c1, .slice a2 n c2] w fun e w' => e = .returned (.bool true) ∧ w.grownBy w' none := by
 have hn := h1.le
 unfold maxLen at hn
 go_enter Try.func16, Try.ntmps16
 go_wp2
 go_loopw [5] (fun i wr => ∃ j : Nat, i = .int .i64 (j : Int) ∧ j ≤ n ∧ Hid (w.grownBy wr none)) (fun i _ => n - (intOf i).toNat)
 case atStart => exact ⟨0, rfl, Nat.zero_le _, World.grownBy.refl _ _⟩
 case round =>
  obtain ⟨j, rfl, hj, HG⟩ := hrel
  by_cases h0 : j < n
  ·have h0i : (j : Int) < (n : Int) := by omega
   obtain ⟨b1, o1, rfl, k1⟩ := h1.cells (by omega)
   obtain ⟨b2, o2, rfl, k2⟩ := h2.cells (by omega)
   obtain ⟨c, hc⟩ : ∃ c, l[j]? = some c := ⟨_, List.getElem?_eq_getElem (by rw [h1.len_eq]; exact h0)⟩
   obtain ⟨x0, x1, x2, x3, x4⟩ := k1 j c hc
   obtain ⟨y0, y1, y2, y3, y4⟩ := k2 j c hc
   have g := HG.out
   have u0 : ∀ n, (wr.drewN n).cell? _ = _ := fun n => gcell14 x0 (grown_drewN5 g n)
   have u1 : ∀ n, (wr.drewN n).cell? _ = _ := fun n => gcell14 x1 (grown_drewN5 g n)
   have u2 : ∀ n, (wr.drewN n).cell? _ = _ := fun n => gcell14 x2 (grown_drewN5 g n)
   have u3 : ∀ n, (wr.drewN n).cell? _ = _ := fun n => gcell14 x3 (grown_drewN5 g n)
   have u4 : ∀ n, (wr.drewN n).cell? _ = _ := fun n => gcell14 x4 (grown_drewN5 g n)
   have v0 : ∀ n, (wr.drewN n).cell? _ = _ := fun n => gcell14 y0 (grown_drewN5 g n)
   have v1 : ∀ n, (wr.drewN n).cell? _ = _ := fun n => gcell14 y1 (grown_drewN5 g n)
   have v2 : ∀ n, (wr.drewN n).cell? _ = _ := fun n => gcell14 y2 (grown_drewN5 g n)
   have v3 : ∀ n, (wr.drewN n).cell? _ = _ := fun n => gcell14 y3 (grown_drewN5 g n)
   have v4 : ∀ n, (wr.drewN n).cell? _ = _ := fun n => gcell14 y4 (grown_drewN5 g n)
   have hnq := fun W => ck_neq c W (hok c (List.mem_of_getElem? hc))
   unfold Ck.val at hnq
   clear x0 x1 x2 x3 x4 y0 y1 y2 y3 y4 k1 k2 h1 h2 hc hok g
   go_wp2
   go_quiet (fail)
   go_wp2
   go_roundw
   case rel => exact ⟨j + 1, by go_num, by omega, grown_drewN5 HG.out _⟩
   case measure => simp [intOf]; omega
  ·have h0i : ¬ (j : Int) < (n : Int) := by omega
   go_wp2
   go_ret
   exact ⟨rfl, HG.out⟩
end Go.Proofs.Ytkkigpobhagnfaa
namespace Go.Proofs.Ytkkigpobhagnfaa
open Go.RowKit Go.Shelf
set_option maxRecDepth 100000
set_option linter.unusedSimpArgs false
set_option linter.unusedVariables false
set_option maxHeartbeats 2000000 in
theorem pchunks14_any (a : Option Addr) (len cap : Nat) (bs : List Int) (from_ to_ size : Int) (w : World) (B : Byte w a len cap bs) (hl : len ≤ 16777216) :
  Calls Try.prog 15 #[.slice a len cap, .int .i64 from_, .int .i64 to_, .int .i64 size] w (CkPost w (cks bs from_ to_ size)) := by
 have hlb := B.row.len_eq
 by_cases k0 : from_ < 0
 ·have e : cks bs from_ to_ size = ([], 1) := by unfold cks; rw [hlb, if_pos (by omega)]
  rw [e]
  clear e
  go_enter Try.func15, Try.ntmps15
  go_wp2
  go_returns
  exact ckpost_none (grown_trans (World.grownBy_alloc _ _ _) (World.grownBy_alloc _ _ _))
 by_cases k1 : to_ < from_
 ·have e : cks bs from_ to_ size = ([], 1) := by unfold cks; rw [hlb, if_pos (by omega)]
  rw [e]
  clear e
  go_enter Try.func15, Try.ntmps15
  go_wp2
  go_returns
  exact ckpost_none (grown_trans (World.grownBy_alloc _ _ _) (World.grownBy_alloc _ _ _))
 by_cases k2 : (len : Int) < to_
 ·have e : cks bs from_ to_ size = ([], 1) := by unfold cks; rw [hlb, if_pos (by omega)]
  rw [e]
  clear e
  go_enter Try.func15, Try.ntmps15
  go_wp2
  go_returns
  exact ckpost_none (grown_trans (World.grownBy_alloc _ _ _) (World.grownBy_alloc _ _ _))
 by_cases k3 : size < 0
 ·have e : cks bs from_ to_ size = ([], 1) := by unfold cks; rw [hlb, if_pos (by omega)]
  rw [e]
  clear e
  go_enter Try.func15, Try.ntmps15
  go_wp2
  go_returns
  exact ckpost_none (grown_trans (World.grownBy_alloc _ _ _) (World.grownBy_alloc _ _ _))
 by_cases k4 : (16777216 : Int) < size
 ·have e : cks bs from_ to_ size = ([], 1) := by unfold cks; rw [hlb, if_pos (by omega)]
  rw [e]
  clear e
  go_enter Try.func15, Try.ntmps15
  go_wp2
  go_returns
  exact ckpost_none (grown_trans (World.grownBy_alloc _ _ _) (World.grownBy_alloc _ _ _))
 obtain ⟨n1, rfl⟩ := Int.eq_ofNat_of_zero_le (by omega : 0 ≤ from_)
 obtain ⟨n2, rfl⟩ := Int.eq_ofNat_of_zero_le (by omega : 0 ≤ to_)
 obtain ⟨n3, rfl⟩ := Int.eq_ofNat_of_zero_le (by omega : 0 ≤ size)
 exact pchunks14_main a len cap bs n1 n2 n3 w B hl (by omega) (by omega) (by omega)
/-- a list of chunks, while the document's loop makes it -/
structure Rcl (w : World) (v : Value) (out : List (Ck × Bool)) (W : World) : Prop where
 own : W.ownsRow w.heap.size 39 5 v out.length ((out.map (·.1)).flatMap Ck.cells)
 ok : out.all (·.2) = true
 gr : w.grownBy W none
theorem cut_le (bs : List Int) (t k n : Nat) (h : k + n ≤ t) : ((bs.take t).drop k).take n = (bs.drop k).take n := by
 rw [List.drop_take, List.take_take, Nat.min_eq_left (by omega)]
theorem hdC_take (bs : List Int) (t p : Nat) (h : p + 8 ≤ t) : hdC (bs.take t) p = hdC bs p := by
 unfold hdC
 rw [cut_le bs t p 2 (by omega), cut_le bs t (p + 2) 2 (by omega), cut_le bs t (p + 4) 4 (by omega)]
theorem cell_ck_bx {W : World} {g : Nat} {T : TypeId} {c : Ck} (hB : Bx W g T c.cells) : ∀ j u, (c.cells)[j]? = some u → W.cell? ((⟨g, 0, none⟩ : Addr).add j) = some u := by
 intro j u hj
 have hadd : (⟨g, 0, none⟩ : Addr).add j = ⟨g, j, none⟩ := by unfold Addr.add; split <;> simp_all
 rw [hadd, hB.c]
 exact hj
theorem rcl_err {pre : List (Ck × Bool)} {A : List Ck × Int} {G : List (Ck × Bool)} (hA : A = if G.all (·.2) then (G.map (·.1), 0) else ([], 6)) (hG : G = pre ++ [(ck0, false)]) : A = ([], 6) := by
 rw [hA, if_neg (by rw [hG, List.all_append]; simp)]
set_option maxHeartbeats 8000000 in
theorem rchunks14_main (a : Option Addr) (len cap : Nat) (bs : List Int) (at0 to0 sz0 : Nat) (w : World) (B : Byte w a len cap bs) (hl : len ≤ 16777216) (h1 : at0 ≤ to0) (h2 : to0 ≤ len) (h3 : sz0 ≤ 16777216) :
  Calls Try.prog 13 #[.slice a len cap, .int .i64 (at0 : Int), .int .i64 (to0 : Int), .int .i64 (sz0 : Int)] w (CkPost w (cks bs at0 to0 sz0)) := by
 have hlb := B.row.len_eq
 have hR : cks bs at0 to0 sz0 = if (lyg (bs.take to0) (cnt sz0) at0 sz0).all (·.2) then ((lyg (bs.take to0) (cnt sz0) at0 sz0).map (·.1), 0) else ([], 6) := by
  unfold cks lygs
  rw [if_neg (by omega), Int.toNat_natCast, Int.toNat_natCast, Int.toNat_natCast]
 obtain ⟨A, hA⟩ : ∃ A, A = cks bs at0 to0 sz0 := ⟨_, rfl⟩
 rw [← hA]
 rw [hR] at hA
 have HA : Hid _ := hA
 clear hA hR
 have hll := lyg_len (bs.take to0) (cnt sz0) at0 sz0
 have hcn : cnt sz0 ≤ 2048 := by unfold cnt; omega
 have hgi : ¬ (at0 : Int) < 0 := by omega
 have hg1 : ¬ (to0 : Int) < (at0 : Int) := by omega
 have hg2 : ¬ (len : Int) < (to0 : Int) := by omega
 have hg3 : ¬ (sz0 : Int) < 0 := by omega
 have hg4 : ¬ (16777216 : Int) < (sz0 : Int) := by omega
 obtain ⟨i5, hi, hz0, hz1, hz2⟩ := info_parts Try.infoCk
 have HI : Hid _ := And.intro hi (And.intro hz0 (And.intro hz1 hz2))
 clear hi hz0 hz1 hz2
 have htl : (bs.take to0).length = to0 := by simp; omega
 have HTL : Hid _ := htl
 clear htl
 have hbt := B.row.byt
 have hLd := fun W (G : w.grownBy W none) k n h => load_row a len cap bs k n W (B.row.grown G) h
 go_enter Try.func13, Try.ntmps13
 go_wp2
 go_loopw [3, 10, 11] (fun vs vl va wr => ∃ (p sz : Nat) (pre : List (Ck × Bool)), vs = .int .i64 (sz : Int) ∧ va = .int .i64 (p : Int) ∧ p ≤ to0 ∧ sz ≤ 16777216 ∧ Hid (lyg (bs.take to0) (cnt sz0) at0 sz0 = pre ++ lyg (bs.take to0) (cnt sz) p sz) ∧ Hid (Rcl w vl pre wr)) (fun vs _ _ _ => (intOf vs).toNat)
 case atStart => exact ⟨at0, sz0, [], rfl, rfl, h1, h3, rfl, ⟨World.ownsRow_nil _ _ _ _, rfl, World.grownBy.refl _ _⟩⟩
 case round =>
  obtain ⟨p, sz, pre, rfl, rfl, hp, hsz, HE, HR⟩ := hrel
  have hpl : pre.length ≤ 2049 := by
   have := congrArg List.length HE.out
   rw [List.length_append] at this
   omega
  by_cases h0 : 0 < sz
  ·have h0i : (0 : Int) < (sz : Int) := by omega
   have hE := HE.out
   rw [cnt_pos h0, lyg] at hE
   by_cases h8 : to0 < p + 8
   ·have h8i : (to0 : Int) < (p : Int) + 8 := by omega
    have hcA : ∀ M, cAt (bs.take to0) p M = (ck0, false) := fun M => by unfold cAt; rw [if_pos (by rw [HTL.out]; omega)]
    rw [hcA, if_neg (by simp)] at hE
    have HG : Hid _ := And.intro (rcl_err HA.out hE) HR.out.gr
    clear hE HE HR hcA hLd HA
    go_wp2
    go_returns
    rw [HG.out.1]
    exact ckpost_none HG.out.2
   ·have h8i : ¬ (to0 : Int) < (p : Int) + 8 := by omega
    have hcA : ∀ M, cAt (bs.take to0) p M = if (hdC bs p).pl = M ∧ rgt (hdC bs p) = true ∧ wthn to0 (hdC bs p) = true then (hdC bs p, true) else (ck0, false) := fun M => by
     unfold cAt
     rw [if_neg (by rw [HTL.out]; omega), hdC_take bs to0 p (by omega), HTL.out]
    have hok := hdC_ok hbt p (by omega)
    have hl1 := hLd wr HR.out.gr (p + 2) 2 (by decide) (by decide) (by omega)
    have hl2 := hLd wr HR.out.gr p 2 (by decide) (by decide) (by omega)
    have hl3 := hLd wr HR.out.gr (p + 4) 4 (by decide) (by decide) (by omega)
    have hx := le2 hbt p
    have hy := le2 hbt (p + 2)
    have hz := le4q hbt (p + 4)
    have hRt := fun W => rright14_any (hdC bs p) W
    have hrg := rgt_iff (c := hdC bs p)
    have hwt : wthn to0 (hdC bs p) = decide ((hdC bs p).at_ ≤ (to0 : Int) - 8 - (hdC bs p).st) := rfl
    unfold hdC at hcA hRt hrg hwt
    dsimp only [Ck.val] at hRt hrg hwt
    generalize le ((bs.drop p).take 2) = x at hl2 hx hcA hRt hrg hwt
    generalize le ((bs.drop (p + 2)).take 2) = y at hl1 hy hcA hRt hrg hwt
    generalize le ((bs.drop (p + 4)).take 4) = z at hl3 hz hcA hRt hrg hwt
    obtain ⟨n, rfl⟩ := Int.eq_ofNat_of_zero_le hz.1
    rw [Int.toNat_natCast] at hcA hRt hrg hwt
    have e1 : ((p + 2 : Nat) : Int) = (p : Int) + 2 := by omega
    have e2 : ((p + 4 : Nat) : Int) = (p : Int) + 4 := by omega
    rw [e1] at hl1
    rw [e2] at hl3
    clear e1 e2
    have w0 : IntKind.i64.wrap x = x := by rw [IntKind.wrap_i64]; omega
    have w1 : IntKind.i64.wrap y = y := by rw [IntKind.wrap_i64]; omega
    have w2 : IntKind.u32.wrap (n : Int) = (n : Int) := by rw [IntKind.wrap_u32]; omega
    have hym : 0 ≤ y % 32768 ∧ y % 32768 < 32768 := by omega
    by_cases h9 : sz ≤ 8192
    ·have h9i : ¬ (8192 : Int) < (sz : Int) := by omega
     have hM : ((min sz 8192 : Nat) : Int) = (sz : Int) := by omega
     have hM2 : min sz 8192 = sz := by omega
     rw [hM, hM2, hcA] at hE
     by_cases hr : rgt ⟨(p : Int), x, y % 32768, decide (y < 32768), n⟩ = true
     ·rw [hr] at hRt
      obtain ⟨_, _, ⟨hs1, hs2⟩, _⟩ := hrg.1 hr
      by_cases hw : x = (sz : Int)
      ·subst hw
       by_cases ht : wthn to0 ⟨(p : Int), (sz : Int), y % 32768, decide (y < 32768), n⟩ = true
       ·rw [if_pos (show ((sz : Int) = (sz : Int) ∧ rgt ⟨(p : Int), (sz : Int), y % 32768, decide (y < 32768), n⟩ = true ∧ wthn to0 ⟨(p : Int), (sz : Int), y % 32768, decide (y < 32768), n⟩ = true) from ⟨rfl, hr, ht⟩), if_pos rfl] at hE
        rw [hwt] at ht
        have ht2 := of_decide_eq_true ht
        obtain ⟨k, hk⟩ : ∃ k : Nat, y % 32768 = (k : Int) := ⟨(y % 32768).toNat, by omega⟩
        have htk : ¬ (to0 : Int) < (p : Int) + 8 + y % 32768 := by omega
        have hEk : p + 8 + (y % 32768).toNat = p + 8 + k := by omega
        simp only at hE
        rw [hEk] at hE
        have HE2 : Hid _ := hE
        have HK : Hid _ := hk
        have HRo : Hid _ := HR.out
        clear hk hEk hE HE HR hLd hcA hrg hwt ht ht2 hM hM2
        go_wp2_with fail
        refine hl1.mono ?_
        rintro e w' ⟨rfl, rfl⟩
        go_wp2_with fail
        refine hl2.mono ?_
        rintro e w' ⟨rfl, rfl⟩
        go_wp2_with fail
        refine hl3.mono ?_
        rintro e w' ⟨rfl, rfl⟩
        have gb := World.grownBy_alloc wr (.cells #[.int .i64 (p : Int), .int .i64 (sz : Int), .int .i64 (y % 32768), .bool (decide (y < 32768)), .int .u32 (n : Int)] 39) none
        have BX := Bx.new wr 39 [.int .i64 (p : Int), .int .i64 (sz : Int), .int .i64 (y % 32768), .bool (decide (y < 32768)), .int .u32 (n : Int)]
        go_wp2_with fail
        refine (hRt _).mono ?_
        rintro e w3 ⟨rfl, g3⟩
        obtain ⟨d0, d1, d2, d3, d4⟩ := ckx (BX.kept g3)
        have HX : Hid _ := And.intro (BX.kept g3) (And.intro (own_kept14 (own_kept14 HRo.out.own gb) g3) (grown_trans (grown_trans HRo.out.gr gb) g3))
        have hsz3 : w.heap.size ≤ w3.heap.size := HX.out.2.2.size
        clear gb BX g3 hRt
        obtain ⟨hi, hz0, hz1, hz2⟩ := HI.out
        go_wp2_with (at_builtin; (refine wpList_append_own _ rfl _ _ 32 rfl w.heap.size 39 i5 _ 5 32 Try.underlying32 hi hz0 hz1 hz2 rfl (by decide) _ pre.length _ rfl (HX.out.2.1.alloc _) ⟨w3.heap.size, 0, none⟩ 1 1 (Ck.cells ⟨(p : Int), (sz : Int), y % 32768, decide (y < 32768), n⟩) rfl rfl (cell_ck_bx (Bx.new w3 39 _)) (by simp [Ck.cells, Value.oneCell']) (by unfold maxLen; omega) (by omega) (by simp; omega) ?_))
        intro v' w5 hown' hgrow _
        have z2 := (HX.out.1.kept (World.grownBy_alloc w3 (.cells #[.int .i64 (p : Int), .int .i64 (sz : Int), .int .i64 (y % 32768), .bool (decide (y < 32768)), .int .u32 (n : Int)] 39) none)).keptR hgrow (fun e => by have h5 := (HRo.out.own.lt _ e.symm).2; omega)
        obtain ⟨_, _, f2, _, _⟩ := ckx z2
        clear z2
        go_wp2
        have g5 : Hid (w.grownBy w5 none) := ⟨hgrow.os.trans HX.out.2.2.os, hgrow.tape.trans HX.out.2.2.tape, hgrow.output.trans HX.out.2.2.output, by have := hgrow.size; simp at this; omega, fun q hq _ => by
         rw [hgrow.block q (by simp; omega) (fun e => by have := (HX.out.2.1.lt q e.symm).1; omega), Below.heap_alloc _ _ _ (by omega)]
         exact HX.out.2.2.block q hq (by simp)⟩
        go_roundw
        case rel => exact ⟨p + 8 + k, sz - sz, pre ++ [(⟨(p : Int), (sz : Int), y % 32768, decide (y < 32768), n⟩, true)], by first | (congr 1; omega) | (simp; done) | (simp; omega), by have := HK.out; first | (congr 1; omega) | (simp; omega), by have := HK.out; omega, by omega, by rw [HE2.out, List.append_assoc]; rfl, ⟨by simpa using hown', by rw [List.all_append, HRo.out.ok]; rfl, g5.out⟩⟩
        case measure => simp [intOf]; omega
       ·rw [Bool.not_eq_true] at ht
        have ht2 : (to0 : Int) < (p : Int) + 8 + y % 32768 := by rw [hwt] at ht; have := of_decide_eq_false ht; omega
        rw [if_neg (show ¬ ((sz : Int) = (sz : Int) ∧ rgt ⟨(p : Int), (sz : Int), y % 32768, decide (y < 32768), n⟩ = true ∧ wthn to0 ⟨(p : Int), (sz : Int), y % 32768, decide (y < 32768), n⟩ = true) from fun h => by rw [ht] at h; simp at h)] at hE
        rw [if_neg (by simp)] at hE
        have HG : Hid _ := And.intro (rcl_err HA.out hE) HR.out.gr
        clear hE HE HA hLd hcA hrg hwt hM hM2
        go_wp2_with fail
        refine hl1.mono ?_
        rintro e w' ⟨rfl, rfl⟩
        go_wp2_with fail
        refine hl2.mono ?_
        rintro e w' ⟨rfl, rfl⟩
        go_wp2_with fail
        refine hl3.mono ?_
        rintro e w' ⟨rfl, rfl⟩
        have gb := World.grownBy_alloc wr (.cells #[.int .i64 (p : Int), .int .i64 (sz : Int), .int .i64 (y % 32768), .bool (decide (y < 32768)), .int .u32 (n : Int)] 39) none
        have BX := Bx.new wr 39 [.int .i64 (p : Int), .int .i64 (sz : Int), .int .i64 (y % 32768), .bool (decide (y < 32768)), .int .u32 (n : Int)]
        go_wp2_with fail
        refine (hRt _).mono ?_
        rintro e w3 ⟨rfl, g3⟩
        obtain ⟨d0, d1, d2, d3, d4⟩ := ckx (BX.kept g3)
        have HG2 : Hid _ := grown_trans (grown_trans HG.out.2 gb) g3
        clear gb BX g3 hRt
        go_wp2
        go_returns
        rw [HG.out.1]
        exact ckpost_none HG2.out
      ·have hw2 : (x != (sz : Int)) = true := by simpa using hw
       rw [if_neg (show ¬ (x = (sz : Int) ∧ rgt ⟨(p : Int), x, y % 32768, decide (y < 32768), n⟩ = true ∧ wthn to0 ⟨(p : Int), x, y % 32768, decide (y < 32768), n⟩ = true) from fun h => hw h.1)] at hE
       rw [if_neg (by simp)] at hE
       have HG : Hid _ := And.intro (rcl_err HA.out hE) HR.out.gr
       clear hE HE HA hLd hcA hrg hwt hM hM2
       go_wp2_with fail
       refine hl1.mono ?_
       rintro e w' ⟨rfl, rfl⟩
       go_wp2_with fail
       refine hl2.mono ?_
       rintro e w' ⟨rfl, rfl⟩
       go_wp2_with fail
       refine hl3.mono ?_
       rintro e w' ⟨rfl, rfl⟩
       have gb := World.grownBy_alloc wr (.cells #[.int .i64 (p : Int), .int .i64 x, .int .i64 (y % 32768), .bool (decide (y < 32768)), .int .u32 (n : Int)] 39) none
       have BX := Bx.new wr 39 [.int .i64 (p : Int), .int .i64 x, .int .i64 (y % 32768), .bool (decide (y < 32768)), .int .u32 (n : Int)]
       go_wp2_with fail
       refine (hRt _).mono ?_
       rintro e w3 ⟨rfl, g3⟩
       obtain ⟨d0, d1, d2, d3, d4⟩ := ckx (BX.kept g3)
       have HG2 : Hid _ := grown_trans (grown_trans HG.out.2 gb) g3
       clear gb BX g3 hRt
       go_wp2
       go_returns
       rw [HG.out.1]
       exact ckpost_none HG2.out
     ·rw [Bool.not_eq_true] at hr
      rw [hr] at hRt
      rw [if_neg (show ¬ (x = (sz : Int) ∧ rgt ⟨(p : Int), x, y % 32768, decide (y < 32768), n⟩ = true ∧ wthn to0 ⟨(p : Int), x, y % 32768, decide (y < 32768), n⟩ = true) from fun h => by rw [hr] at h; simp at h)] at hE
      rw [if_neg (by simp)] at hE
      have HG : Hid _ := And.intro (rcl_err HA.out hE) HR.out.gr
      clear hE HE HA hLd hcA hrg hwt hM hM2
      go_wp2_with fail
      refine hl1.mono ?_
      rintro e w' ⟨rfl, rfl⟩
      go_wp2_with fail
      refine hl2.mono ?_
      rintro e w' ⟨rfl, rfl⟩
      go_wp2_with fail
      refine hl3.mono ?_
      rintro e w' ⟨rfl, rfl⟩
      have gb := World.grownBy_alloc wr (.cells #[.int .i64 (p : Int), .int .i64 x, .int .i64 (y % 32768), .bool (decide (y < 32768)), .int .u32 (n : Int)] 39) none
      have BX := Bx.new wr 39 [.int .i64 (p : Int), .int .i64 x, .int .i64 (y % 32768), .bool (decide (y < 32768)), .int .u32 (n : Int)]
      go_wp2_with fail
      refine (hRt _).mono ?_
      rintro e w3 ⟨rfl, g3⟩
      obtain ⟨d0, d1, d2, d3, d4⟩ := ckx (BX.kept g3)
      have HG2 : Hid _ := grown_trans (grown_trans HG.out.2 gb) g3
      clear gb BX g3 hRt
      go_wp2
      go_returns
      rw [HG.out.1]
      exact ckpost_none HG2.out
    ·have h9i : (8192 : Int) < (sz : Int) := by omega
     have hM : ((min sz 8192 : Nat) : Int) = (8192 : Int) := by omega
     have hM2 : min sz 8192 = 8192 := by omega
     rw [hM, hM2, hcA] at hE
     by_cases hr : rgt ⟨(p : Int), x, y % 32768, decide (y < 32768), n⟩ = true
     ·rw [hr] at hRt
      obtain ⟨_, _, ⟨hs1, hs2⟩, _⟩ := hrg.1 hr
      by_cases hw : x = (8192 : Int)
      ·subst hw
       by_cases ht : wthn to0 ⟨(p : Int), (8192 : Int), y % 32768, decide (y < 32768), n⟩ = true
       ·rw [if_pos (show ((8192 : Int) = (8192 : Int) ∧ rgt ⟨(p : Int), (8192 : Int), y % 32768, decide (y < 32768), n⟩ = true ∧ wthn to0 ⟨(p : Int), (8192 : Int), y % 32768, decide (y < 32768), n⟩ = true) from ⟨rfl, hr, ht⟩), if_pos rfl] at hE
        rw [hwt] at ht
        have ht2 := of_decide_eq_true ht
        obtain ⟨k, hk⟩ : ∃ k : Nat, y % 32768 = (k : Int) := ⟨(y % 32768).toNat, by omega⟩
        have htk : ¬ (to0 : Int) < (p : Int) + 8 + y % 32768 := by omega
        have hEk : p + 8 + (y % 32768).toNat = p + 8 + k := by omega
        simp only at hE
        rw [hEk] at hE
        have HE2 : Hid _ := hE
        have HK : Hid _ := hk
        have HRo : Hid _ := HR.out
        clear hk hEk hE HE HR hLd hcA hrg hwt ht ht2 hM hM2
        go_wp2_with fail
        refine hl1.mono ?_
        rintro e w' ⟨rfl, rfl⟩
        go_wp2_with fail
        refine hl2.mono ?_
        rintro e w' ⟨rfl, rfl⟩
        go_wp2_with fail
        refine hl3.mono ?_
        rintro e w' ⟨rfl, rfl⟩
        have gb := World.grownBy_alloc wr (.cells #[.int .i64 (p : Int), .int .i64 (8192 : Int), .int .i64 (y % 32768), .bool (decide (y < 32768)), .int .u32 (n : Int)] 39) none
        have BX := Bx.new wr 39 [.int .i64 (p : Int), .int .i64 (8192 : Int), .int .i64 (y % 32768), .bool (decide (y < 32768)), .int .u32 (n : Int)]
        go_wp2_with fail
        refine (hRt _).mono ?_
        rintro e w3 ⟨rfl, g3⟩
        obtain ⟨d0, d1, d2, d3, d4⟩ := ckx (BX.kept g3)
        have HX : Hid _ := And.intro (BX.kept g3) (And.intro (own_kept14 (own_kept14 HRo.out.own gb) g3) (grown_trans (grown_trans HRo.out.gr gb) g3))
        have hsz3 : w.heap.size ≤ w3.heap.size := HX.out.2.2.size
        clear gb BX g3 hRt
        obtain ⟨hi, hz0, hz1, hz2⟩ := HI.out
        go_wp2_with (at_builtin; (refine wpList_append_own _ rfl _ _ 32 rfl w.heap.size 39 i5 _ 5 32 Try.underlying32 hi hz0 hz1 hz2 rfl (by decide) _ pre.length _ rfl (HX.out.2.1.alloc _) ⟨w3.heap.size, 0, none⟩ 1 1 (Ck.cells ⟨(p : Int), (8192 : Int), y % 32768, decide (y < 32768), n⟩) rfl rfl (cell_ck_bx (Bx.new w3 39 _)) (by simp [Ck.cells, Value.oneCell']) (by unfold maxLen; omega) (by omega) (by simp; omega) ?_))
        intro v' w5 hown' hgrow _
        have z2 := (HX.out.1.kept (World.grownBy_alloc w3 (.cells #[.int .i64 (p : Int), .int .i64 (8192 : Int), .int .i64 (y % 32768), .bool (decide (y < 32768)), .int .u32 (n : Int)] 39) none)).keptR hgrow (fun e => by have h5 := (HRo.out.own.lt _ e.symm).2; omega)
        obtain ⟨_, _, f2, _, _⟩ := ckx z2
        clear z2
        go_wp2
        have g5 : Hid (w.grownBy w5 none) := ⟨hgrow.os.trans HX.out.2.2.os, hgrow.tape.trans HX.out.2.2.tape, hgrow.output.trans HX.out.2.2.output, by have := hgrow.size; simp at this; omega, fun q hq _ => by
         rw [hgrow.block q (by simp; omega) (fun e => by have := (HX.out.2.1.lt q e.symm).1; omega), Below.heap_alloc _ _ _ (by omega)]
         exact HX.out.2.2.block q hq (by simp)⟩
        go_roundw
        case rel => exact ⟨p + 8 + k, sz - 8192, pre ++ [(⟨(p : Int), (8192 : Int), y % 32768, decide (y < 32768), n⟩, true)], by first | (congr 1; omega) | (simp; done) | (simp; omega), by have := HK.out; first | (congr 1; omega) | (simp; omega), by have := HK.out; omega, by omega, by rw [HE2.out, List.append_assoc]; rfl, ⟨by simpa using hown', by rw [List.all_append, HRo.out.ok]; rfl, g5.out⟩⟩
        case measure => simp [intOf]; omega
       ·rw [Bool.not_eq_true] at ht
        have ht2 : (to0 : Int) < (p : Int) + 8 + y % 32768 := by rw [hwt] at ht; have := of_decide_eq_false ht; omega
        rw [if_neg (show ¬ ((8192 : Int) = (8192 : Int) ∧ rgt ⟨(p : Int), (8192 : Int), y % 32768, decide (y < 32768), n⟩ = true ∧ wthn to0 ⟨(p : Int), (8192 : Int), y % 32768, decide (y < 32768), n⟩ = true) from fun h => by rw [ht] at h; simp at h)] at hE
        rw [if_neg (by simp)] at hE
        have HG : Hid _ := And.intro (rcl_err HA.out hE) HR.out.gr
        clear hE HE HA hLd hcA hrg hwt hM hM2
        go_wp2_with fail
        refine hl1.mono ?_
        rintro e w' ⟨rfl, rfl⟩
        go_wp2_with fail
        refine hl2.mono ?_
        rintro e w' ⟨rfl, rfl⟩
        go_wp2_with fail
        refine hl3.mono ?_
        rintro e w' ⟨rfl, rfl⟩
        have gb := World.grownBy_alloc wr (.cells #[.int .i64 (p : Int), .int .i64 (8192 : Int), .int .i64 (y % 32768), .bool (decide (y < 32768)), .int .u32 (n : Int)] 39) none
        have BX := Bx.new wr 39 [.int .i64 (p : Int), .int .i64 (8192 : Int), .int .i64 (y % 32768), .bool (decide (y < 32768)), .int .u32 (n : Int)]
        go_wp2_with fail
        refine (hRt _).mono ?_
        rintro e w3 ⟨rfl, g3⟩
        obtain ⟨d0, d1, d2, d3, d4⟩ := ckx (BX.kept g3)
        have HG2 : Hid _ := grown_trans (grown_trans HG.out.2 gb) g3
        clear gb BX g3 hRt
        go_wp2
        go_returns
        rw [HG.out.1]
        exact ckpost_none HG2.out
      ·have hw2 : (x != (8192 : Int)) = true := by simpa using hw
       rw [if_neg (show ¬ (x = (8192 : Int) ∧ rgt ⟨(p : Int), x, y % 32768, decide (y < 32768), n⟩ = true ∧ wthn to0 ⟨(p : Int), x, y % 32768, decide (y < 32768), n⟩ = true) from fun h => hw h.1)] at hE
       rw [if_neg (by simp)] at hE
       have HG : Hid _ := And.intro (rcl_err HA.out hE) HR.out.gr
       clear hE HE HA hLd hcA hrg hwt hM hM2
       go_wp2_with fail
       refine hl1.mono ?_
       rintro e w' ⟨rfl, rfl⟩
       go_wp2_with fail
       refine hl2.mono ?_
       rintro e w' ⟨rfl, rfl⟩
       go_wp2_with fail
       refine hl3.mono ?_
       rintro e w' ⟨rfl, rfl⟩
       have gb := World.grownBy_alloc wr (.cells #[.int .i64 (p : Int), .int .i64 x, .int .i64 (y % 32768), .bool (decide (y < 32768)), .int .u32 (n : Int)] 39) none
       have BX := Bx.new wr 39 [.int .i64 (p : Int), .int .i64 x, .int .i64 (y % 32768), .bool (decide (y < 32768)), .int .u32 (n : Int)]
       go_wp2_with fail
       refine (hRt _).mono ?_
       rintro e w3 ⟨rfl, g3⟩
       obtain ⟨d0, d1, d2, d3, d4⟩ := ckx (BX.kept g3)
       have HG2 : Hid _ := grown_trans (grown_trans HG.out.2 gb) g3
       clear gb BX g3 hRt
       go_wp2
       go_returns
       rw [HG.out.1]
       exact ckpost_none HG2.out
     ·rw [Bool.not_eq_true] at hr
      rw [hr] at hRt
      rw [if_neg (show ¬ (x = (8192 : Int) ∧ rgt ⟨(p : Int), x, y % 32768, decide (y < 32768), n⟩ = true ∧ wthn to0 ⟨(p : Int), x, y % 32768, decide (y < 32768), n⟩ = true) from fun h => by rw [hr] at h; simp at h)] at hE
      rw [if_neg (by simp)] at hE
      have HG : Hid _ := And.intro (rcl_err HA.out hE) HR.out.gr
      clear hE HE HA hLd hcA hrg hwt hM hM2
      go_wp2_with fail
      refine hl1.mono ?_
      rintro e w' ⟨rfl, rfl⟩
      go_wp2_with fail
      refine hl2.mono ?_
      rintro e w' ⟨rfl, rfl⟩
      go_wp2_with fail
      refine hl3.mono ?_
      rintro e w' ⟨rfl, rfl⟩
      have gb := World.grownBy_alloc wr (.cells #[.int .i64 (p : Int), .int .i64 x, .int .i64 (y % 32768), .bool (decide (y < 32768)), .int .u32 (n : Int)] 39) none
      have BX := Bx.new wr 39 [.int .i64 (p : Int), .int .i64 x, .int .i64 (y % 32768), .bool (decide (y < 32768)), .int .u32 (n : Int)]
      go_wp2_with fail
      refine (hRt _).mono ?_
      rintro e w3 ⟨rfl, g3⟩
      obtain ⟨d0, d1, d2, d3, d4⟩ := ckx (BX.kept g3)
      have HG2 : Hid _ := grown_trans (grown_trans HG.out.2 gb) g3
      clear gb BX g3 hRt
      go_wp2
      go_returns
      rw [HG.out.1]
      exact ckpost_none HG2.out
  ·obtain rfl : sz = 0 := by omega
   have hE := HE.out
   rw [cnt_zero, lyg] at hE
   obtain ⟨ho, hok, hg⟩ := HR.out
   have hny : ¬ (0 : Int) < ((0 : Nat) : Int) := by decide
   by_cases hpt : p < to0
   ·rw [HTL.out, if_pos hpt] at hE
    have hpt2 : (p : Int) ≠ (to0 : Int) := by omega
    have HG : Hid _ := And.intro (rcl_err HA.out hE) hg
    clear hE HE HR hLd HA ho
    go_wp2
    go_returns
    rw [HG.out.1]
    exact ckpost_none HG.out.2
   ·rw [HTL.out, if_neg hpt, List.append_nil] at hE
    obtain rfl : p = to0 := by omega
    obtain ⟨al, cl, rfl, hc, hlc⟩ := own_cks ho (by simp) (by unfold maxLen; omega)
    have HG : Hid _ := And.intro hE (And.intro hok (And.intro hc (And.intro hlc hg)))
    clear hE HE HR hLd ho hc hlc hg hok
    go_wp2
    go_returns
    rw [HA.out, HG.out.1, if_pos HG.out.2.1]
    exact ⟨_, _, _, rfl, HG.out.2.2.1, HG.out.2.2.2.1, HG.out.2.2.2.2⟩
end Go.Proofs.Ytkkigpobhagnfaa
namespace Go.Proofs.Ytkkigpobhagnfaa
open Go.RowKit
set_option maxRecDepth 100000
set_option linter.unusedSimpArgs false
set_option linter.unusedVariables false
set_option maxHeartbeats 2000000 in
theorem rchunks14_any (a : Option Addr) (len cap : Nat) (bs : List Int) (from_ to_ size : Int) (w : World) (B : Byte w a len cap bs) (hl : len ≤ 16777216) :
  Calls Try.prog 13 #[.slice a len cap, .int .i64 from_, .int .i64 to_, .int .i64 size] w (CkPost w (cks bs from_ to_ size)) := by
 have hlb := B.row.len_eq
 by_cases k0 : from_ < 0
 ·have e : cks bs from_ to_ size = ([], 1) := by unfold cks; rw [hlb, if_pos (by omega)]
  rw [e]
  clear e
  go_enter Try.func13, Try.ntmps13
  go_wp2
  go_returns
  exact ckpost_none (World.grownBy.refl _ _)
 by_cases k1 : to_ < from_
 ·have e : cks bs from_ to_ size = ([], 1) := by unfold cks; rw [hlb, if_pos (by omega)]
  rw [e]
  clear e
  go_enter Try.func13, Try.ntmps13
  go_wp2
  go_returns
  exact ckpost_none (World.grownBy.refl _ _)
 by_cases k2 : (len : Int) < to_
 ·have e : cks bs from_ to_ size = ([], 1) := by unfold cks; rw [hlb, if_pos (by omega)]
  rw [e]
  clear e
  go_enter Try.func13, Try.ntmps13
  go_wp2
  go_returns
  exact ckpost_none (World.grownBy.refl _ _)
 by_cases k3 : size < 0
 ·have e : cks bs from_ to_ size = ([], 1) := by unfold cks; rw [hlb, if_pos (by omega)]
  rw [e]
  clear e
  go_enter Try.func13, Try.ntmps13
  go_wp2
  go_returns
  exact ckpost_none (World.grownBy.refl _ _)
 by_cases k4 : (16777216 : Int) < size
 ·have e : cks bs from_ to_ size = ([], 1) := by unfold cks; rw [hlb, if_pos (by omega)]
  rw [e]
  clear e
  go_enter Try.func13, Try.ntmps13
  go_wp2
  go_returns
  exact ckpost_none (World.grownBy.refl _ _)
 obtain ⟨n1, rfl⟩ := Int.eq_ofNat_of_zero_le (by omega : 0 ≤ from_)
 obtain ⟨n2, rfl⟩ := Int.eq_ofNat_of_zero_le (by omega : 0 ≤ to_)
 obtain ⟨n3, rfl⟩ := Int.eq_ofNat_of_zero_le (by omega : 0 ≤ size)
 exact rchunks14_main a len cap bs n1 n2 n3 w B hl (by omega) (by omega) (by omega)
theorem lyg_ok {bs : List Int} (hb : Byt bs) (hl : bs.length ≤ 16777216) (k : Nat) : ∀ p sz, ∀ x ∈ lyg bs k p sz, x.1.ok := by
 have h0 : ck0.ok := by unfold ck0 Ck.ok; simp
 induction k with
 | zero =>
  intro p sz x hx
  rw [lyg] at hx
  split at hx
  ·rw [List.mem_singleton.1 hx]; exact h0
  ·simp at hx
 | succ k ih =>
  intro p sz x hx
  rw [lyg] at hx
  split at hx
  ·rename_i h
   rcases List.mem_cons.1 hx with h1 | h1
   ·rw [h1]
    obtain ⟨e, _, _, _, _, _, h6⟩ := cAt_true h
    rw [e]
    exact hdC_ok hb p (by omega)
   ·exact ih _ _ x h1
  ·rename_i h
   rw [List.mem_singleton.1 hx, cAt_false (by simpa using h)]
   exact h0
theorem cks_ok {bs : List Int} (hb : Byt bs) (hl : bs.length ≤ 16777216) (f t s : Int) : ∀ c ∈ (cks bs f t s).1, c.ok := by
 intro c hc
 unfold cks at hc
 split at hc
 ·simp at hc
 ·split at hc
  ·obtain ⟨x, hx, rfl⟩ := List.mem_map.1 hc
   unfold lygs at hx
   exact lyg_ok (hb.take _) (by rw [List.length_take]; omega) _ _ _ x hx
  ·simp at hc
set_option maxHeartbeats 4000000 in
theorem metaChunks_walk (a : Option Addr) (len cap : Nat) (zs : List Int) (from_ to_ size : Int) (c : Ck) (w : World) (hz : IsRow .u8 w a len cap zs) (hf : -9223372036854775808 ≤ from_ ∧ from_ ≤ 9223372036854775807) (ht : -9223372036854775808 ≤ to_ ∧ to_ ≤ 9223372036854775807) (hs : -9223372036854775808 ≤ size ∧ size ≤ 9223372036854775807) (hc : c.ok) :
  Calls Try.prog 4 #[.slice a len cap, .int .i64 from_, .int .i64 to_, .int .i64 size, c.val] w fun e w' => e = .returned (.bool true) ∧ Below w.heap.size w w' := by
 have B := hz.byte
 generalize zs.take len = bs at B
 have hlb := B.row.len_eq
 have hL := fun W => live14_any W
 clear hz hf ht hs
 obtain ⟨at_, pl, st, pk, cr⟩ := c
 have hP := fun W (G : w.grownBy W none) hl => pchunks14_any a len cap bs from_ to_ size W (B.grown G) hl
 have hR := fun W (G : w.grownBy W none) hl => rchunks14_any a len cap bs from_ to_ size W (B.grown G) hl
 have hPc := fun W (G : w.grownBy W none) c hl hc => pchunk14_any a len cap bs c W (B.grown G) hl hc
 have hRc := fun W (G : w.grownBy W none) c hl hc => rchk14_any a len cap bs c W (B.grown G) hl hc
 have G0 := World.grownBy_alloc w (.cells #[.int .i64 at_, .int .i64 pl, .int .i64 st, .bool pk, .int .u32 (cr : Int)] 39) none
 have B0 := Bx.new w 39 [.int .i64 at_, .int .i64 pl, .int .i64 st, .bool pk, .int .u32 (cr : Int)]
 by_cases hl : 40000 < len
 ·have hli : (40000 : Int) < (len : Int) := by omega
  unfold Ck.val
  clear hP hR hPc hRc B hlb
  go_enter Try.func4, Try.ntmps4
  go_wp2_with fail
  refine (hL _).mono ?_
  rintro e w1 ⟨rfl, g1⟩
  go_wp2_with fail
  go_ret
  exact ⟨rfl, grown_below (grown_trans G0 g1)⟩
 have hli : ¬ (40000 : Int) < (len : Int) := by omega
 have hok := cks_ok B.row.byt (by omega) from_ to_ size
 have hP1 := hP _ G0 (by omega)
 have HRc := fun W G c hc => hRc W G c (by omega) hc
 have HPc := fun W G c hc => hPc W G c (by omega) hc
 have HR1 := fun W G => hR W G (by omega)
 have hbt := B.row.byt
 clear hP hR hPc hRc
 generalize cks bs from_ to_ size = r at *
 obtain ⟨l, e⟩ := r
 have HK : Hid _ := And.intro hok hbt
 have H1 : Hid _ := HRc
 have H2 : Hid _ := HPc
 have H3 : Hid _ := HR1
 have HB0 : Hid _ := And.intro B0 G0
 clear hok hbt HRc HPc HR1 B B0 G0
 unfold Ck.val
 go_enter Try.func4, Try.ntmps4
 go_wp2_with fail
 refine hP1.mono ?_
 rintro e1 w1 ⟨a1, n1, c1, rfl, k1, nc1, g1⟩
 have G1 := grown_trans HB0.out.2 g1
 have hR1 := H3.out w1 G1
 clear hP1 H3
 go_wp2_with fail
 refine hR1.mono ?_
 rintro e2 w2 ⟨a2, n2, c2, rfl, k2, nc2, g2⟩
 simp only at k1 k2
 have hn12 : n2 = n1 := by rw [← k1.len_eq, ← k2.len_eq]
 subst hn12
 have K1 := k1.grown g2
 have hsm := rsame14_any a1 a2 n2 c1 c2 l w2 K1 k2 HK.out.1
 have HK2 : Hid _ := And.intro K1 (And.intro k2 (And.intro (grown_trans G1 g2) (And.intro nc1 nc2)))
 have HBx2 : Hid _ := (HB0.out.1.kept g1).kept g2
 clear hR1 k1 k2 K1 G1 g1 g2 nc1 nc2 HB0
 go_wp2_with fail
 refine hsm.mono ?_
 rintro e3 w3 ⟨rfl, g3⟩
 have HK3 : Hid _ := And.intro (HK2.out.1.grown g3) (And.intro (HK2.out.2.1.grown g3) (grown_trans HK2.out.2.2.1 g3))
 have HN : Hid _ := HK2.out.2.2.2
 have HBx3 : Hid _ := HBx2.out.kept g3
 clear hsm HK2 HBx2 g3
 go_wp2_with fail
 refine (num14_any e w3).mono ?_
 rintro e4 w' ⟨rfl, rfl⟩
 have hbb : (e != e) = false := by simp
 have HBT : Hid (Byt bs) := HK.out.2
 go_wp2
 go_loopw [15, 16, 17, 18, 19] (fun vi _ _ _ _ wr => ∃ j : Nat, vi = .int .i64 (j : Int) ∧ j ≤ n2 ∧ Hid (w3.grownBy wr none)) (fun vi _ _ _ _ _ => n2 - (intOf vi).toNat)
 case atStart => exact ⟨0, rfl, Nat.zero_le _, World.grownBy.refl _ _⟩
 case round =>
  obtain ⟨j, rfl, hj, HG⟩ := hrel
  have hn2 := HK3.out.1.le
  unfold maxLen at hn2
  by_cases h0 : j < n2
  ·have h0i : (j : Int) < (n2 : Int) := by omega
   obtain ⟨b1, o1, rfl, k1⟩ := HK3.out.1.cells (by omega)
   obtain ⟨b2, o2, rfl, k2⟩ := HK3.out.2.1.cells (by omega)
   obtain ⟨c, hc⟩ : ∃ c, l[j]? = some c := ⟨_, List.getElem?_eq_getElem (by rw [HK3.out.1.len_eq]; exact h0)⟩
   obtain ⟨x0, x1, x2, x3, x4⟩ := k1 j c hc
   obtain ⟨y0, y1, y2, y3, y4⟩ := k2 j c hc
   have hcok := HK.out.1 c (List.mem_of_getElem? hc)
   have Gw := grown_trans HK3.out.2.2 HG.out
   have hp5 := H2.out wr Gw c hcok
   have hr5 := fun W g => H1.out W (grown_trans Gw g) c hcok
   have u0 := gcell14 x0 HG.out
   have u1 := gcell14 x1 HG.out
   have u2 := gcell14 x2 HG.out
   have u3 := gcell14 x3 HG.out
   have u4 := gcell14 x4 HG.out
   have HY : Hid _ := And.intro (gcell14 y0 HG.out) (And.intro (gcell14 y1 HG.out) (And.intro (gcell14 y2 HG.out) (And.intro (gcell14 y3 HG.out) (gcell14 y4 HG.out))))
   clear x0 x1 x2 x3 x4 y0 y1 y2 y3 y4 k1 k2 hc hcok Gw
   unfold Ck.val at hp5 hr5
   generalize chk bs c = rr at hp5 hr5
   obtain ⟨rb, re⟩ := rr

   go_wp2_with fail
   refine hp5.mono ?_
   rintro e5 w5 ⟨x1, m1, d1, rfl, B5, g5⟩
   simp only at B5
   have hr6 := hr5 w5 g5
   obtain ⟨y0, y1, y2, y3, y4⟩ := HY.out
   have v0 := gcell14 y0 g5
   have v1 := gcell14 y1 g5
   have v2 := gcell14 y2 g5
   have v3 := gcell14 y3 g5
   have v4 := gcell14 y4 g5
   have HB5 : Hid _ := And.intro B5 g5
   clear y0 y1 y2 y3 y4 u0 u1 u2 u3 u4 hp5 hr5 B5 g5 HY
   go_wp2_with fail
   refine hr6.mono ?_
   rintro e6 w6 ⟨x2, m2, d2, rfl, B6, g6⟩
   simp only at B6
   have cv1 := conv_row (P := Try.prog) (HB5.out.1.grown g6).row d1 22 9 Try.underlying22 Try.underlying5 Try.underlying9
   have cv2 := conv_row (P := Try.prog) B6.row d2 22 9 Try.underlying22 Try.underlying5 Try.underlying9
   have HG6 : Hid _ := grown_trans (grown_trans HG.out HB5.out.2) g6
   clear hr6 B6 g6 HB5 v0 v1 v2 v3 v4
   generalize strOfNums rb = st at cv1 cv2
   go_wp2_with fail
   refine (num14_any re w6).mono ?_
   rintro e7 w' ⟨rfl, rfl⟩
   have hrr : (re != re) = false := by simp
   go_wp2
   go_roundw
   case rel => exact ⟨j + 1, by go_num, by omega, HG6.out⟩
   case measure => simp [intOf]; omega
  ·have h0i : ¬ (j : Int) < (n2 : Int) := by omega
   have Gw := grown_trans HK3.out.2.2 HG.out
   have hp5 := H2.out wr Gw _ hc
   have hr5 := fun W g => H1.out W (grown_trans Gw g) _ hc
   have HBx : Hid _ := HBx3.out.kept HG.out
   obtain ⟨u0, u1, u2, u3, u4⟩ := ckx HBx.out
   have HGw : Hid _ := Gw
   clear Gw HBx3
   dsimp only [Ck.val] at hp5 hr5
   generalize chk bs _ = rr at hp5 hr5
   obtain ⟨rb, re⟩ := rr

   go_wp2_with fail
   refine hp5.mono ?_
   rintro e5 w5 ⟨x1, m1, d1, rfl, B5, g5⟩
   simp only at B5
   have hr6 := hr5 w5 g5
   obtain ⟨v0, v1, v2, v3, v4⟩ := ckx (HBx.out.kept g5)
   have HB5 : Hid _ := And.intro B5 g5
   clear u0 u1 u2 u3 u4 hp5 hr5 B5 g5 HBx
   go_wp2_with fail
   refine hr6.mono ?_
   rintro e6 w6 ⟨x2, m2, d2, rfl, B6, g6⟩
   simp only at B6
   have cv1 := conv_row (P := Try.prog) (HB5.out.1.grown g6).row d1 22 9 Try.underlying22 Try.underlying5 Try.underlying9
   have cv2 := conv_row (P := Try.prog) B6.row d2 22 9 Try.underlying22 Try.underlying5 Try.underlying9
   have HG6 : Hid _ := grown_trans (grown_trans HGw.out HB5.out.2) g6
   clear hr6 B6 g6 HB5 v0 v1 v2 v3 v4
   generalize strOfNums rb = st at cv1 cv2
   have hrr : (re == re) = true := by simp
   go_wp2_with fail
   refine (num14_any re w6).mono ?_
   rintro e7 w' ⟨rfl, rfl⟩
   go_wp2_with fail
   refine (hL w6).mono ?_
   rintro e8 w8 ⟨rfl, g8⟩
   have HG8 : Hid _ := grown_trans HG6.out g8
   go_wp2
   go_ret
   exact ⟨by simp, grown_below HG8.out⟩
end Go.Proofs.Ytkkigpobhagnfaa
