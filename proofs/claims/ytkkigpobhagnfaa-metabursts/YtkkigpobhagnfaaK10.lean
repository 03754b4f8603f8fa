/- Contracts of More, Crc and Good. Contracts of More and Crc without a table. The program's meta: what a chunk tells. Contracts of the reading functions: each returns just what the plain function of the same shape reckons, and memory stands. Contracts of the functions that make memory, and of the law that holds the examples of the page. Contracts of Fits and Store. Contracts of Set and Part, and of the document's Set. Contracts of readers. -/
import Derived.Lib.SlBytesConst
import Derived.Test.YtkkigpobhagnfaaProg
import Derived.WalkLawsBesides
import Derived.Deep.QuietTactic
import Derived.BigQuiet
import Derived.WalkSpells
import Derived.Laws.AppendOwnNone
import Derived.Deep.RegionHeld
import Derived.Deep.DrawnRows
import Derived.WalkSmall
import Derived.Test.YtkkigpobhagnfaaK01
import Derived.Test.YtkkigpobhagnfaaK02
import Derived.Test.YtkkigpobhagnfaaK05
import Derived.Test.YtkkigpobhagnfaaK09
namespace Go.Proofs.Ytkkigpobhagnfaa
open Go.RowKit
set_option maxRecDepth 100000
set_option linter.unusedSimpArgs false
set_option linter.unusedVariables false
theorem ix8_eq {x : Nat} {b : Int} (hb : 0 ≤ b ∧ b ≤ 255) : bits .xor .u8 ((x : Int) % 256) b = ((x % 256 ^^^ b.toNat : Nat) : Int) := by
 obtain ⟨c, rfl⟩ := Int.eq_ofNat_of_zero_le hb.1
 exact xor8 (a := x % 256) (b := c) (by omega) (by omega)
theorem nat_not32 {c : Nat} (h : c < 4294967296) : 4294967295 ^^^ c = 4294967295 - c := by
 apply Nat.eq_of_testBit_eq
 intro i
 have e : 4294967295 - c = 2 ^ 32 - (c + 1) := by omega
 rw [e, Nat.testBit_xor, Nat.testBit_two_pow_sub_succ (by omega), show (4294967295 : Nat) = 2 ^ 32 - 1 from rfl, Nat.testBit_two_pow_sub_one]
 by_cases hi : i < 32
 ·simp [hi]
 ·have : c.testBit i = false := Nat.testBit_lt_two_pow (Nat.lt_of_lt_of_le h (Nat.pow_le_pow_right (n := 2) (by decide) (Nat.le_of_not_lt hi)))
  simp [hi, this]
theorem not32 {c : Nat} (h : c < 4294967296) : bits .xor .u32 IntKind.u32.max (c : Int) = ((4294967295 - c : Nat) : Int) := by
 have := xor32 (a := 4294967295) (b := c) (by decide) h
 rw [nat_not32 h] at this
 exact this

set_option maxHeartbeats 400000 in
theorem more_tab (T : Nat → Nat) (hT : Tab T) (q c : Nat) (a : Option Addr) (len cap : Nat) (bs : List Int) (w : World) (B : SBlk w q (tcs T) 55) (R : Row w a len bs) (hc : c < 4294967296) :
  Calls Try.prog 43 #[.pointer (some ⟨q, 0, none⟩), .int .u32 c, .slice a len cap] w fun e w' => e = .returned (.int .u32 (crc T c bs)) ∧ w = w' := by
 have hle := R.le
 unfold maxLen at hle
 unfold crc
 have e1 := not32 hc
 have hd : 4294967295 - c < 4294967296 := by omega
 generalize 4294967295 - c = d at e1 hd
 have HB : Hid (SBlk w q (tcs T) 55) := B
 clear B
 go_enter Try.func43, Try.ntmps43
 go_wp2
 clear e1
 go_loop [1, 9, 17] (fun v _ i => ∃ j : Nat, j ≤ len ∧ i = .int .i64 j ∧ v = .int .u32 (upd T d (bs.take j))) (fun _ _ i => len - (intOf i).toNat)
 case atStart => exact ⟨0, Nat.zero_le _, rfl, rfl⟩
 case round =>
  obtain ⟨j, hj, rfl, rfl⟩ := hrel
  by_cases hlt : j < len
  ·obtain ⟨b, off, rfl, hc⟩ := R.cells (by omega)
   have hcell := hc j hlt
   have hr := R.byt.getD j
   have hs := upd_snoc T d bs j (by rw [R.len_eq]; exact hlt)
   have hx := upd_lt hT (R.byt.take j) hd
   generalize bs.getD j 0 = x at hcell hr hs
   generalize upd T d (bs.take j) = y at hs hx
   clear hc
   have hi := ix8_eq (x := y) hr
   have hk := ix_lt (c := y) hr
   have hS := stp_eq hT hr hx
   generalize y % 256 ^^^ x.toNat = k at hi hk hS
   have ht := HB.out.cell k
   rw [tcs_get _ k hk] at ht
   have hw : IntKind.u8.wrap (y : Int) = (y : Int) % 256 := by rw [IntKind.wrap_u8]
   go_wp2
   go_round
   case rel => exact ⟨j + 1, by omega, by go_num, by rw [hs, ← hS]⟩
   case measure => simp [intOf]; omega
  ·have hx := upd_lt hT R.byt hd
   have : j = len := by omega
   subst this
   rw [List.take_of_length_le (Nat.le_of_eq R.len_eq)]
   generalize hy : upd T d bs = y at hx
   have e2 := not32 hx
   go_wp2
   go_ret
   exact ⟨rfl, rfl⟩
set_option maxHeartbeats 400000 in
theorem more_nil (c : Nat) (a : Option Addr) (len cap : Nat) (bs : List Int) (w : World) (R : Row w a len bs) (hc : c < 4294967296) :
  Calls Try.prog 43 #[.pointer none, .int .u32 c, .slice a len cap] w fun e w' => e = .returned (.int .u32 (crc ent c bs)) ∧ w.grownBy w' none := by
 have hle := R.le
 unfold maxLen at hle
 unfold crc
 have e1 := not32 hc
 have hd : 4294967295 - c < 4294967296 := by omega
 generalize 4294967295 - c = d at e1 hd
 obtain ⟨hz, hs⟩ := zero24
 have HI : Hid ((Try.prog.info? 55).map (·.size) = some (tcs ent).toArray.size) := by show _ = _; simp [hs, tcs_length]
 clear hs
 have hM := make_any w
 go_enter Try.func43, Try.ntmps43
 go_wp2_with (first | (go_at_call 22; refine hM.mono ?_; rintro e w1 ⟨rfl, hg1⟩; have HG1 : Hid (w.grownBy w1 none) := hg1; clear hg1) | (with_reducible refine store24_here ?_; refine wpList_store_row rfl 55 _ _ rfl w1.heap.size _ rfl rfl 55 _ (heap_alloc_new w1 _) HI.out (by simp [tcs_length]) (tcs_one _) ?_))
 rw [World.setRow_alloc_new]
 have B : SBlk (w1.alloc (.cells (tcs ent).toArray 55)) w1.heap.size (tcs ent) 55 := alloc_sblk _ _ _
 have G : w.grownBy (w1.alloc (.cells (tcs ent).toArray 55)) none := grown_trans HG1.out (World.grownBy_alloc _ _ _)
 have R2 := R.grown G
 have hle := R.le
 unfold maxLen at hle
 clear R hz hM HI HG1
 generalize w1.alloc (.cells (tcs ent).toArray 55) = w2 at B G R2
 generalize w1.heap.size = q at B
 generalize Value.agg (tcs ent).toArray = tv
 have HB : Hid (SBlk w2 q (tcs ent) 55) := B
 have HG : Hid (w.grownBy w2 none) := G
 clear B G e1
 go_loop [1, 9, 17] (fun v _ i => ∃ j : Nat, j ≤ len ∧ i = .int .i64 j ∧ v = .int .u32 (upd ent d (bs.take j))) (fun _ _ i => len - (intOf i).toNat)
 case atStart => exact ⟨0, Nat.zero_le _, rfl, rfl⟩
 case round =>
  obtain ⟨j, hj, rfl, rfl⟩ := hrel
  by_cases hlt : j < len
  ·obtain ⟨b, off, rfl, hc⟩ := R2.cells (by omega)
   have hcell := hc j hlt
   have hr := R2.byt.getD j
   have hs := upd_snoc ent d bs j (by rw [R2.len_eq]; exact hlt)
   have hx := upd_lt ent_tab (R2.byt.take j) hd
   generalize bs.getD j 0 = x at hcell hr hs
   generalize upd ent d (bs.take j) = y at hs hx
   clear hc
   have hi := ix8_eq (x := y) hr
   have hk := ix_lt (c := y) hr
   have hS := stp_eq ent_tab hr hx
   generalize y % 256 ^^^ x.toNat = k at hi hk hS
   have ht := HB.out.cell k
   rw [tcs_get _ k hk] at ht
   have hw : IntKind.u8.wrap (y : Int) = (y : Int) % 256 := by rw [IntKind.wrap_u8]
   go_wp2
   go_round
   case rel => exact ⟨j + 1, by omega, by go_num, by rw [hs, ← hS]⟩
   case measure => simp [intOf]; omega
  ·have hx := upd_lt ent_tab R2.byt hd
   have : j = len := by omega
   subst this
   rw [List.take_of_length_le (Nat.le_of_eq R2.len_eq)]
   generalize hy : upd ent d bs = y at hx
   have e2 := not32 hx
   go_wp2
   go_ret
   exact ⟨rfl, HG.out⟩

theorem crc_tab (T : Nat → Nat) (hT : Tab T) (q : Nat) (a : Option Addr) (len cap : Nat) (bs : List Int) (w : World) (B : SBlk w q (tcs T) 55) (R : Row w a len bs) :
  Calls Try.prog 26 #[.pointer (some ⟨q, 0, none⟩), .slice a len cap] w fun e w' => e = .returned (.int .u32 (crc T 0 bs)) ∧ w = w' := by
 have h := more_tab T hT q 0 a len cap bs w B R (by decide)
 clear B
 go_enter Try.func26, Try.ntmps26
 go_wp2_with (go_at_call 43; refine h.mono ?_; rintro e w' ⟨rfl, rfl⟩)
 go_ret
 exact ⟨rfl, rfl⟩
theorem crc_nil (a : Option Addr) (len cap : Nat) (bs : List Int) (w : World) (R : Row w a len bs) :
  Calls Try.prog 26 #[.pointer none, .slice a len cap] w fun e w' => e = .returned (.int .u32 (crc ent 0 bs)) ∧ w.grownBy w' none := by
 have h := more_nil 0 a len cap bs w R (by decide)
 go_enter Try.func26, Try.ntmps26
 go_wp2_with (go_at_call 43; refine h.mono ?_; rintro e w' ⟨rfl, hg⟩)
 go_ret
 exact ⟨rfl, by assumption⟩
theorem gcell14 {W W' : World} {p : Addr} {v : Value} (h : W.cell? p = some v) (g : W.grownBy W' none) : W'.cell? p = some v := by
 have hb : p.block < W.heap.size := by
  rcases Nat.lt_or_ge p.block W.heap.size with h1 | h1
  ·exact h1
  ·simp [World.cell?, Array.getElem?_eq_none h1] at h
 unfold World.cell? at h ⊢
 rw [g.block _ hb (by simp)]
 exact h
/-- the sum of bytes, with or without a table -/
def CrcAt (w : World) (t : Option Addr) : Prop := ∀ W, w.grownBy W none → ∀ a len cap bs, Row W a len bs → Calls Try.prog 26 #[.pointer t, .slice a len cap] W fun e W' => e = .returned (.int .u32 (crc ent 0 bs : Nat)) ∧ W.grownBy W' none
theorem crcAt_nil (w : World) : CrcAt w none := fun W _ a len cap bs R => crc_nil a len cap bs W R
theorem CrcAt.grown {w w' : World} {t : Option Addr} (h : CrcAt w t) (g : w.grownBy w' none) : CrcAt w' t := fun W k => h W (grown_trans g k)
set_option maxHeartbeats 2000000 in
theorem punpack14_any (t a : Option Addr) (len cap : Nat) (bs : List Int) (c : Ck) (w : World) (T : CrcAt w t) (B : Byte w a len cap bs) (hl : len ≤ 16777216) (hc : c.ok) :
  Calls Try.prog 31 #[.pointer t, .slice a len cap, c.val] w (UPost w (chk bs c)) := by
 have hlb := B.row.len_eq
 have hR := fun w => pright14_any c w
 have hW := fun w hr => pwithin14_any a len cap c w hl hc hr
 have hE := fun w => pend14_any c w
 have hlen : bs.length = len := hlb
 have hsl := stoC_len (bs := bs) (c := c)
 have hrg := rgt_iff (c := c)
 unfold chk
 rw [hlb] at hsl ⊢
 have hst : stoC bs c = (bs.drop (c.at_.toNat + 8)).take c.st.toNat := rfl
 have hwt : wthn len c = decide (c.at_ ≤ (len : Int) - 8 - c.st) := rfl
 obtain ⟨at_, pl, st, pk, cr⟩ := c
 unfold Ck.val at hR hW hE ⊢
 obtain ⟨⟨ha0, ha1⟩, ⟨hp0, hp1⟩, ⟨hs0, hs1⟩, hcr⟩ := hc
 simp only at ha0 ha1 hp0 hp1 hs0 hs1 hcr hR hrg hst hsl hwt hE ⊢
 have GA := World.grownBy_alloc w (.cells #[.int .i64 at_, .int .i64 pl, .int .i64 st, .bool pk, .int .u32 (cr : Int)] 39) none
 have BX := bxa w 39 [.int .i64 at_, .int .i64 pl, .int .i64 st, .bool pk, .int .u32 (cr : Int)]
 by_cases hr : rgt ⟨at_, pl, st, pk, cr⟩ = false
 ·rw [if_pos hr]
  rw [hr] at hR
  clear hrg hsl hst hwt hW hE
  go_enter Try.func31, Try.ntmps31
  go_wp2_with fail
  refine (hR _).mono ?_
  rintro e w1 ⟨rfl, g1⟩
  go_wp2_with fail
  go_returns
  exact upost_none (grown_trans GA g1)
 ·rw [if_neg hr]
  rw [Bool.not_eq_false] at hr
  obtain ⟨h0, ⟨h1, h2⟩, ⟨h3, h4⟩, h5⟩ := hrg.1 hr
  rw [hr] at hR
  have hW1 := fun w => hW w hr
  clear hW
  by_cases hw : wthn len ⟨at_, pl, st, pk, cr⟩ = false
  ·rw [if_pos hw]
   rw [hw] at hW1
   clear hrg hsl hst hwt hw hE
   go_enter Try.func31, Try.ntmps31
   go_wp2_with fail
   refine (hR _).mono ?_
   rintro e w1 ⟨rfl, g1⟩
   obtain ⟨c0, c1, c2, c3, c4⟩ := ckx (BX.kept g1)
   have HG : Hid _ := grown_trans GA g1
   clear GA BX hR h1 h2 h5
   go_wp2_with fail
   refine (hW1 _).mono ?_
   rintro e w2 ⟨rfl, g2⟩
   go_wp2_with fail
   go_returns
   exact upost_none (grown_trans HG.out g2)
  ·rw [if_neg hw]
   rw [Bool.not_eq_false] at hw
   rw [hw] at hW1
   have hln := hsl hr hw
   have hw2 : at_ ≤ (len : Int) - 8 - st := by rw [hwt] at hw; exact of_decide_eq_true hw
   obtain ⟨p, rfl⟩ := Int.eq_ofNat_of_zero_le h0
   obtain ⟨k, rfl⟩ : ∃ k : Nat, st = (k : Int) := ⟨st.toNat, by omega⟩
   obtain ⟨b, off, rfl, _⟩ := B.row.cells (by omega)
   have BS := B.part14 (p + 8) k (by omega)
   rw [Int.toNat_natCast, Int.toNat_natCast] at hst
   rw [Int.toNat_natCast] at hln
   rw [← hst] at BS
   have hE1 := fun w => hE w h0 (by omega) (by omega) (by omega)
   generalize stoC bs ⟨(p : Int), pl, (k : Int), pk, cr⟩ = sb at BS hln ⊢
   have hU := fun W (G : w.grownBy W none) => unpack6_any _ k _ sb pk pl W (BS.grown G) (by omega) ⟨hp0, hp1⟩
   have hC := fun W (G : w.grownBy W none) => T W G _ k (cap - (p + 8)) sb (BS.row.grown G)
   have hnc := B.nc
   have hcm := B.cm
   clear hrg hsl hst hw BS hr B T hE hwt
   obtain ⟨A, hA⟩ : ∃ A : List Int × Int, A = (if crc ent 0 sb ≠ cr then (([] : List Int), (140 : Int)) else if (unpk sb pk pl).2 ≠ 0 ∨ ((unpk sb pk pl).1.length : Int) ≠ pl then ([], 6) else ((unpk sb pk pl).1, 0)) := ⟨_, rfl⟩
   rw [← hA]
   have HA : Hid _ := hA
   clear hA
   go_enter Try.func31, Try.ntmps31
   go_wp2_with fail
   refine (hR _).mono ?_
   rintro e w1 ⟨rfl, g1⟩
   have BX1 := BX.kept g1
   have HG : Hid _ := grown_trans GA g1
   obtain ⟨c0, c1, c2, c3, c4⟩ := ckx BX1
   clear GA BX g1 hR
   go_wp2_with fail
   refine (hW1 _).mono ?_
   rintro e w2 ⟨rfl, g2⟩
   have BX2 := BX1.kept g2
   have HG2 : Hid _ := grown_trans HG.out g2
   generalize w.heap.size = q at BX2 ⊢
   obtain ⟨k0, k1, k2, k3, k4⟩ := ckx BX2
   have HX : Hid _ := BX2
   clear BX1 BX2 g2 hW1 c0 c1 c2 c3 c4 HG
   have HE : Hid _ := hE1
   have HC : Hid _ := hC
   have HU : Hid _ := hU
   clear hE1 hC hU
   go_wp2_with fail
   have q1 : (p : Int) + 8 ≤ (p : Int) + 8 + (k : Int) := by omega
   have q2 : (p : Int) + 8 + (k : Int) ≤ (cap : Int) := by omega
   have q3 : (0 : Int) ≤ (p : Int) + 8 := by omega
   have q4 : (0 : Int) ≤ (p : Int) + 8 + (k : Int) := by omega
   have q5 : ¬ (cap : Int) < (p : Int) + 8 + (k : Int) := by omega
   have q6 : ¬ (p : Int) + 8 + (k : Int) < (p : Int) + 8 := by omega
   have q7 : IntKind.i64.wrap ((p : Int) + 8) = (p : Int) + 8 := by rw [IntKind.wrap_i64]; omega
   have HD : Hid (w.grownBy w2.drew none) := grown_trans HG2.out (grown_drew _)
   go_region_held3 (fun w' => w'.cell? ⟨q, 0, none⟩ = some (.int .i64 (p : Int)) ∧ w'.cell? ⟨q, 1, none⟩ = some (.int .i64 pl) ∧ w'.cell? ⟨q, 2, none⟩ = some (.int .i64 (k : Int)) ∧ w'.cell? ⟨q, 3, none⟩ = some (.bool pk) ∧ w'.cell? ⟨q, 4, none⟩ = some (.int .u32 (cr : Int)) ∧ Hid (w.grownBy w' none)) (first | (refine ⟨?_, ?_, ?_, ?_, ?_, ?_⟩ <;> assumption) | go_keep) (first | (go_at_call 46; (with_reducible refine (HE.out _).mono ?_); rintro e W2 ⟨rfl, gE⟩; have j0 : W2.cell? ⟨q, 0, none⟩ = some (.int .i64 (p : Int)) := gcell14 (by assumption) gE; have j1 : W2.cell? ⟨q, 1, none⟩ = some (.int .i64 pl) := gcell14 (by assumption) gE; have j2 : W2.cell? ⟨q, 2, none⟩ = some (.int .i64 (k : Int)) := gcell14 (by assumption) gE; have j3 : W2.cell? ⟨q, 3, none⟩ = some (.bool pk) := gcell14 (by assumption) gE; have j4 : W2.cell? ⟨q, 4, none⟩ = some (.int .u32 (cr : Int)) := gcell14 (by assumption) gE; have jg : Hid (w.grownBy W2 none) := grown_trans (Hid.out (by assumption)) gE; clear gE) | fail)
   have z1 : ((p : Int) + 8).toNat = p + 8 := by omega
   have z2 : ((p : Int) + 8 + (k : Int)).toNat - (p + 8) = k := by omega
   have z3 : ¬ cap = p + 8 := by omega
   rw [z1, z2, if_neg z3]
   clear z1 z2 z3 q1 q2 q3 q4 q5 q6 q7 HD HG2 k0 k1 k2 k3 k4 HE
   have HD : Hid (w.grownBy W2.drew none) := grown_trans jg.out (grown_drew _)
   rename_i hnext hHeld
   clear hHeld
   refine hnext _ _ ?_
   clear hnext
   go_wp2_with fail
   go_region_held3 (fun w' => w'.cell? ⟨q, 0, none⟩ = some (.int .i64 (p : Int)) ∧ w'.cell? ⟨q, 1, none⟩ = some (.int .i64 pl) ∧ w'.cell? ⟨q, 2, none⟩ = some (.int .i64 (k : Int)) ∧ w'.cell? ⟨q, 3, none⟩ = some (.bool pk) ∧ w'.cell? ⟨q, 4, none⟩ = some (.int .u32 (cr : Int)) ∧ Hid (w.grownBy w' none)) (first | (refine ⟨?_, ?_, ?_, ?_, ?_, ?_⟩ <;> assumption) | go_keep) (first | (go_at_call 26; (with_reducible refine (HC.out _ (Hid.out (by assumption))).mono ?_); rintro e W3 ⟨rfl, gE⟩; have m0 : W3.cell? ⟨q, 0, none⟩ = some (.int .i64 (p : Int)) := gcell14 (by assumption) gE; have m1 : W3.cell? ⟨q, 1, none⟩ = some (.int .i64 pl) := gcell14 (by assumption) gE; have m2 : W3.cell? ⟨q, 2, none⟩ = some (.int .i64 (k : Int)) := gcell14 (by assumption) gE; have m3 : W3.cell? ⟨q, 3, none⟩ = some (.bool pk) := gcell14 (by assumption) gE; have m4 : W3.cell? ⟨q, 4, none⟩ = some (.int .u32 (cr : Int)) := gcell14 (by assumption) gE; have mg : Hid (w.grownBy W3 none) := grown_trans (Hid.out (by assumption)) gE; clear gE) | fail)
   rename_i hnext hHeld
   clear hHeld j0 j1 j2 j3 j4 jg HD HC
   by_cases hs : crc ent 0 sb = cr
   ·have hsb : ((crc ent 0 sb : Nat) : Int) = (cr : Int) := by rw [hs]
    have hsb2 : (((crc ent 0 sb : Nat) : Int) != (cr : Int)) = false := by rw [hsb]; simp
    rw [hsb2]
    have hA := HA.out
    rw [if_neg (fun h => h hs)] at hA
    have hU1 := HU.out W3 mg.out
    have hBX : Hid _ := And.intro m0 (And.intro m1 (And.intro m2 (And.intro m3 m4)))
    clear HU HA hs hsb hsb2
    generalize unpk sb pk pl = r at hA hU1
    obtain ⟨rb, re⟩ := r
    simp only at hA hU1
    have HA : Hid _ := hA
    clear hA
    refine hnext _ _ ?_
    clear hnext
    go_wp2_with fail
    refine hU1.mono ?_
    rintro e W4 ⟨a4, n4, d4, rfl, B4, g4, _⟩
    have u1 := gcell14 m1 g4
    have hn4 := B4.row.len_eq
    have HB : Hid _ := And.intro B4 (grown_trans mg.out g4)
    clear B4 g4 hU1 hBX m0 m1 m2 m3 m4 mg
    by_cases he : re = 0
    ·subst he
     by_cases hn : (n4 : Int) = pl
     ·have hA := HA.out
      rw [if_neg (by simp [hn4, hn])] at hA
      subst hA
      clear HA
      go_wp2_with fail
      go_returns
      exact ⟨_, _, _, rfl, HB.out.1, HB.out.2⟩
     ·have hA := HA.out
      rw [if_pos (Or.inr (by rw [hn4]; exact hn))] at hA
      subst hA
      clear HA
      go_wp2_with fail
      go_returns
      exact upost_none HB.out.2
    ·have hA := HA.out
     rw [if_pos (Or.inl he)] at hA
     subst hA
     clear HA
     go_wp2_with fail
     go_returns
     exact upost_none HB.out.2
   ·have hsb : ((crc ent 0 sb : Nat) : Int) ≠ (cr : Int) := fun e => hs (by omega)
    have hsb2 : (((crc ent 0 sb : Nat) : Int) != (cr : Int)) = true := by simpa using hsb
    rw [hsb2]
    have hA := HA.out
    rw [if_pos hs] at hA
    subst hA
    clear HA HU hsb hsb2 hs m0 m1 m2 m3 m4
    refine hnext _ _ ?_
    clear hnext
    go_wp2_with fail
    go_returns
    exact upost_none mg.out
theorem pchunk14_any (a : Option Addr) (len cap : Nat) (bs : List Int) (c : Ck) (w : World) (B : Byte w a len cap bs) (hl : len ≤ 16777216) (hc : c.ok) :
  Calls Try.prog 17 #[.slice a len cap, c.val] w (UPost w (chk bs c)) := by
 have hU := fun W (G : w.grownBy W none) => punpack14_any none a len cap bs c W (crcAt_nil W) (B.grown G) hl hc
 obtain ⟨at_, pl, st, pk, cr⟩ := c
 unfold Ck.val at hU ⊢
 have GA := World.grownBy_alloc w (.cells #[.int .i64 at_, .int .i64 pl, .int .i64 st, .bool pk, .int .u32 (cr : Int)] 39) none
 have hU1 := hU _ GA
 clear hU
 simp only at hU1 ⊢
 generalize chk bs ⟨at_, pl, st, pk, cr⟩ = r at hU1 ⊢
 go_enter Try.func17, Try.ntmps17
 go_wp2_with fail
 refine hU1.mono ?_
 rintro e W4 ⟨a4, n4, d4, rfl, B4, g4⟩
 go_wp2_with fail
 go_returns
 exact ⟨_, _, _, rfl, B4, grown_trans GA g4⟩
theorem largest_any (n : Int) (w : World) : Calls Try.prog 68 #[.int .i64 n] w fun e w' => e = .returned (.int .u64 (lg n)) ∧ w = w' := by
 by_cases h1 : n = 1
 ·subst h1
  go_enter Try.func68, Try.ntmps68
  go_wp2
  go_ret
  exact ⟨rfl, rfl⟩
 by_cases h2 : n = 2
 ·subst h2
  go_enter Try.func68, Try.ntmps68
  go_wp2
  go_ret
  exact ⟨rfl, rfl⟩
 by_cases h4 : n = 4
 ·subst h4
  go_enter Try.func68, Try.ntmps68
  go_wp2
  go_ret
  exact ⟨rfl, rfl⟩
 by_cases h8 : n = 8
 ·subst h8
  go_enter Try.func68, Try.ntmps68
  go_wp2
  go_ret
  exact ⟨rfl, rfl⟩
 have g1 : (n == 1) = false := by simpa using h1
 have g2 : (n == 2) = false := by simpa using h2
 have g4 : (n == 4) = false := by simpa using h4
 have g8 : (n == 8) = false := by simpa using h8
 go_enter Try.func68, Try.ntmps68
 go_wp2
 go_ret
 exact ⟨by simp [lg, h1, h2, h4, h8], rfl⟩

theorem holds_any (a : Option Addr) (len cap : Nat) (at_ n : Int) (w : World) (hl : len ≤ maxLen) (hn : 0 ≤ n) (hn' : n ≤ 9223372036854775807) (ha : at_ ≤ 9223372036854775807) : Calls Try.prog 86 #[.slice a len cap, .int .i64 at_, .int .i64 n] w fun e w' => e = .returned (.bool (inB len at_ n)) ∧ w = w' := by
 unfold maxLen at hl
 by_cases h1 : 0 ≤ at_
 ·go_enter Try.func86, Try.ntmps86
  go_wp2
  go_ret
  refine ⟨?_, rfl⟩
  have : decide (n ≤ ↑len - at_) = inB len at_ n := by
   rw [Bool.eq_iff_iff]; simp [inB]; omega
  rw [this]; rfl
 ·have hd : decide (0 ≤ at_) = false := by simpa using h1
  go_enter Try.func86, Try.ntmps86
  go_wp2
  go_ret
  exact ⟨by simp [inB, hd], rfl⟩

set_option maxHeartbeats 400000 in
theorem get_in (b off len cap : Nat) (bs : List Int) (k n : Nat) (w : World) (hl : len ≤ maxLen) (hlen : bs.length = len) (hb : Byt bs) (hW : isW n = true) (hin : k + n ≤ len)
  (hc : ∀ i, i < len → w.cell? ⟨b, off + i, none⟩ = some (.int .u8 (bs.getD i 0))) :
  Calls Try.prog 80 #[.slice (some ⟨b, off, none⟩) len cap, .int .i64 k, .int .i64 n] w fun e w' => e = .returned (.tuple #[.int .u64 (le ((bs.drop k).take n)), .int .i64 0]) ∧ w = w' := by
 have hH := holds_any (some ⟨b, off, none⟩) len cap k n w hl (by omega) (by unfold maxLen at hl; omega) (by unfold maxLen at hl; omega)
 unfold maxLen at hl
 have hz := lg_ne hW
 have hi : inB len k n = true := by simp [inB]; omega
 have n8 : n ≤ 8 := by have := isW_pos hW; omega
 go_enter Try.func80, Try.ntmps80
 go_wp2_with (first | (go_at_call 68; refine (largest_any _ _).mono ?_; rintro e w' ⟨rfl, rfl⟩) | (go_at_call 86; refine hH.mono ?_; rintro e w' ⟨rfl, rfl⟩))
 go_loop [8, 9, 19] (fun v _ i => ∃ j : Nat, j ≤ n ∧ i = .int .i64 j ∧ v = .int .u64 (le ((bs.drop k).take j))) (fun _ _ i => n - (intOf i).toNat)
 case atStart => exact ⟨0, Nat.zero_le _, rfl, by simp [le]⟩
 case round =>
  obtain ⟨j, hj, rfl, rfl⟩ := hrel
  by_cases hlt : j < n
  ·have hcell := hc (k + j) (by omega)
   have hr := hb.getD (k + j)
   go_wp2
   go_round
   case rel => exact ⟨j + 1, by omega, by go_num, by rw [le_step hb k j (by omega) (by omega)]⟩
   case measure => simp [intOf]; omega
  ·go_wp2
   go_ret2
   have : j = n := by omega
   subst this
   exact ⟨rfl, rfl⟩

/-- Get, of whatever comes in -/
theorem get_any (a : Option Addr) (len cap : Nat) (bs : List Int) (at_ n : Int) (w : World) (R : Row w a len bs) (h1 : at_ ≤ 9223372036854775807) (h2 : n ≤ 9223372036854775807) :
  Calls Try.prog 80 #[.slice a len cap, .int .i64 at_, .int .i64 n] w fun e w' => e = .returned (.tuple #[.int .u64 (getV bs at_ n), .int .i64 (getE len at_ n)]) ∧ w = w' := by
 by_cases hW : isW n = true
 ·have hn := isW_pos hW
  by_cases hi : inB len at_ n = true
  ·have hi' := hi
   simp only [inB, decide_eq_true_eq] at hi'
   obtain ⟨k, rfl⟩ := Int.eq_ofNat_of_zero_le hi'.1
   obtain ⟨m, rfl⟩ := Int.eq_ofNat_of_zero_le hi'.2.1
   obtain ⟨b, off, rfl, hc⟩ := R.cells (by omega)
   have := get_in b off len cap bs k m w R.le R.len_eq R.byt hW (by omega) hc
   rw [getV_in hW (by rw [R.len_eq]; omega), getE_in hW (by omega)]
   exact this
  ·have hi' : inB len at_ n = false := by simpa using hi
   have hz := lg_ne hW
   have hH := holds_any a len cap at_ n w R.le (by omega) (by omega) h1
   rw [getV_out (by rw [R.len_eq]; exact hi'), getE_out hW hi']
   go_enter Try.func80, Try.ntmps80
   go_wp2_with (first | (go_at_call 68; refine (largest_any _ _).mono ?_; rintro e w' ⟨rfl, rfl⟩) | (go_at_call 86; refine hH.mono ?_; rintro e w' ⟨rfl, rfl⟩))
   go_ret2
   exact ⟨rfl, rfl⟩
 ·have hW' : isW n = false := by simpa using hW
  have hz : lg n = 0 := lg_eq hW'
  rw [getV_no hW', getE_no hW']
  go_enter Try.func80, Try.ntmps80
  go_wp2_with (first | (go_at_call 68; refine (largest_any _ _).mono ?_; rintro e w' ⟨rfl, rfl⟩))
  go_ret2
  exact ⟨rfl, rfl⟩
def ckE (n width : Int) : Int := if isW width then (if lg width < n then 9 else 0) else 1

theorem hcheck_any (n width : Int) (w : World) : Calls Try.prog 58 #[.int .u64 n, .int .i64 width] w fun e w' => e = .returned (.int .i64 (ckE n width)) ∧ w = w' := by
 by_cases hW : isW width = true
 ·have hz := lg_ne hW
  by_cases hn : lg width < n
  ·go_enter Try.func58, Try.ntmps58
   go_wp2_with (first | (go_at_call 68; refine (largest_any _ _).mono ?_; rintro e w' ⟨rfl, rfl⟩))
   go_ret
   exact ⟨by simp [ckE, hW, hn], rfl⟩
  ·go_enter Try.func58, Try.ntmps58
   go_wp2_with (first | (go_at_call 68; refine (largest_any _ _).mono ?_; rintro e w' ⟨rfl, rfl⟩))
   go_ret
   exact ⟨by simp [ckE, hW, hn], rfl⟩
 ·have hW' : isW width = false := by simpa using hW
  have hz : lg width = 0 := lg_eq hW'
  go_enter Try.func58, Try.ntmps58
  go_wp2_with (first | (go_at_call 68; refine (largest_any _ _).mono ?_; rintro e w' ⟨rfl, rfl⟩))
  go_ret
  exact ⟨by simp [ckE, hW'], rfl⟩

set_option maxHeartbeats 400000 in
theorem hlay_any (g o len cap : Nat) (n : Int) (cur : List Value) (w : World) (hB : Blk w g cur) (hl : len ≤ 8) (hf : o + len ≤ cur.length) :
  Calls Try.prog 59 #[.slice (some ⟨g, o, none⟩) len cap, .int .u64 n] w fun e w' => e = .returned (.tuple #[]) ∧ Blk w' g (splice cur o (bv (sto n len))) ∧ w.grownBy w' (some g) ∧ w'.heap.size = w.heap.size := by
 go_enter Try.func59, Try.ntmps59
 go_wp2
 go_loopw [7] (fun i wr => ∃ j : Nat, j ≤ len ∧ i = .int .i64 j ∧ Blk wr g (splice cur o (bv (sto n j))) ∧ w.grownBy wr (some g) ∧ wr.heap.size = w.heap.size) (fun i _ => len - (intOf i).toNat)
 case atStart => exact ⟨0, Nat.zero_le _, rfl, by simpa [sto, bv, splice_nil] using hB, World.grownBy.refl _ _, rfl⟩
 case round =>
  obtain ⟨j, hj, rfl, hb, hg, hs⟩ := hrel
  by_cases hlt : j < len
  ·obtain ⟨c, hc⟩ : ∃ c, wr.cell? ⟨g, o + j, none⟩ = some c := by
    have hL : o + j < (splice cur o (bv (sto n j))).length := by
     rw [length_splice _ _ _ (by rw [bv_length, sto_length]; omega)]; omega
    exact ⟨_, by rw [hb.cell, List.getElem?_eq_getElem hL]⟩
   have hz := hb.frozen (o + j)
   go_wp2
   go_roundw
   case rel =>
    refine ⟨j + 1, by omega, by go_num, ?_, grown_trans hg (grown_set _ _ _ _), by rw [size_set]; exact hs⟩
    have h1 := hb.set (o + j) (.int .u8 (n / 2 ^ (8 * j) % 256))
    have e : o + j = o + (bv (sto n j)).length := by rw [bv_length, sto_length]
    rw [sto_snoc, bv_append, ← pow8]
    rw [e] at h1
    rw [splice_set _ _ _ _ (by rw [← e]; omega), ← e] at h1
    exact h1
   case measure => simp [intOf]; omega
  ·have : j = len := by omega
   subst this
   go_wp2
   go_end0
   exact ⟨rfl, hb, hg, hs⟩

theorem lay_none (a : Option Addr) (cap : Nat) (n : Int) (w : World) :
  Calls Try.prog 59 #[.slice a 0 cap, .int .u64 n] w fun e w' => e = .returned (.tuple #[]) ∧ w = w' := by
 go_enter Try.func59, Try.ntmps59
 go_wp2
 go_loop [7] (fun i => i = .int .i64 0) (fun _ => 0)
 case atStart => rfl
 case round =>
  subst hrel
  go_wp2
  go_end0
  exact ⟨rfl, rfl⟩

theorem Try.size5H : (Try.prog.info? 5).map (·.size) = some 1 := by kernel_rfl

/-- a copy in memory of its own -/
theorem fresh_any (a : Option Addr) (len cap : Nat) (bs : List Int) (w : World) (R : Row w a len bs) (hl : len ≤ 281474976710656) :
  Calls Try.prog 61 #[.slice a len cap] w fun e w' => e = .returned (.slice (some ⟨w.heap.size, 0, none⟩) len len) ∧ Blk w' w.heap.size (bv bs) ∧ w.grownBy w' none ∧ w'.heap.size = w.heap.size + 1 := by
 obtain ⟨i5, hi, hz0, hz1, hz2⟩ := info_parts Try.info5
 go_enter Try.func61, Try.ntmps61
 go_wp2_with (first | (at_make; refine wpList_make8 _ rfl _ _ 22 rfl i5 Try.underlying22 hi hz0 hz1 hz2 _ _ _ _ len rfl rfl rfl rfl hl ?_; intro w1 hb1 hg1 hs1) | ((with_reducible refine copy_here ?_); (refine wpList_copy8 rfl _ _ 22 22 rfl Try.underlying22 Try.size5H _ _ _ _ _ _ rfl rfl w.heap.size 0 _ hb1 (bv bs) (by rw [bv_length, R.len_eq]; exact (Nat.min_self _).symm) (fun h0 => ⟨rfl, (R.grown hg1).src h0⟩) (by rw [bv_length, R.len_eq, List.length_replicate]; omega) (bv_one _) ?_; intro w2 hb2 hg2 hs2)))
 go_ret
 rw [splice_all _ _ (by simp [bv_length, R.len_eq])] at hb2
 exact ⟨rfl, hb2, grown_new hg1 hg2 (Nat.le_refl _), by omega⟩

theorem ckE_ok {n width : Int} (h : ckE n width = 0) : isW width = true ∧ n ≤ lg width := by
 unfold ckE at h
 split at h
 ·split at h
  ·simp at h
  ·exact ⟨by assumption, by omega⟩
 ·simp at h
def fits (n : Int) (m : Nat) : Bool := n / 256 ^ m == 0

theorem fits_lg {n : Int} {m : Nat} (hW : isW m = true) (h0 : 0 ≤ n) : fits n m = !decide (lg m < n) := by
 have hm := isW_pos hW
 unfold fits
 rw [Bool.eq_iff_iff]
 obtain rfl | rfl | rfl | rfl : m = 1 ∨ m = 2 ∨ m = 4 ∨ m = 8 := by omega
 ·have e : lg ((1 : Nat) : Int) = 255 := by decide
  rw [e]; simp; omega
 ·have e : lg ((2 : Nat) : Int) = 65535 := by decide
  rw [e]; simp; omega
 ·have e : lg ((4 : Nat) : Int) = 4294967295 := by decide
  rw [e]; simp; omega
 ·have e : lg ((8 : Nat) : Int) = 18446744073709551615 := by decide
  rw [e]; simp; omega

theorem ckE_fits {n : Int} {m : Nat} (hW : isW m = true) (h0 : 0 ≤ n) : ckE n m = if fits n m then 0 else 9 := by
 rw [fits_lg hW h0]
 by_cases h : lg m < n <;> simp [ckE, hW, h]
theorem Row.cut {w : World} {a : Option Addr} {len : Nat} {bs : List Int} (R : Row w a len bs) (k m : Nat) (h : k + m ≤ len) : Row w (a.map (·.add k)) m ((bs.drop k).take m) := by
 have hl := R.len_eq
 refine ⟨by simp; omega, by have := R.le; omega, (R.byt.drop k).take m, fun h0 => ?_⟩
 obtain ⟨b, off, rfl, hc⟩ := R.cells (by omega)
 have hadd : (⟨b, off, none⟩ : Addr).add k = ⟨b, off + k, none⟩ := by unfold Addr.add; split <;> simp_all
 refine ⟨b, off + k, by simp [hadd], fun i hi => ?_⟩
 rw [Nat.add_assoc, hc (k + i) (by omega), getD_take _ _ _ hi, List.getD_eq_getElem?_getD, List.getD_eq_getElem?_getD, List.getElem?_drop]
theorem Row.zero {w : World} (a : Option Addr) (bs : List Int) (k m : Nat) (h : m = 0) : Row w a m ((bs.drop k).take m) := by
 subst h
 exact ⟨by simp, Nat.zero_le _, fun n hn => by simp at hn, fun h => absurd h (by omega)⟩

theorem bv_splice (bs : List Int) (k : Nat) (xs : List Int) : bv (splice bs k xs) = splice (bv bs) k (bv xs) := by
 simp [bv, splice, List.map_take, List.map_drop]

theorem Row.none_of {w : World} (a : Option Addr) {len : Nat} {bs : List Int} (h : len = 0) (hb : bs.length = len) : Row w a len bs := by
 subst h
 obtain rfl : bs = [] := List.eq_nil_of_length_eq_zero hb
 exact ⟨rfl, Nat.zero_le _, fun n hn => by simp at hn, fun h => absurd h (by omega)⟩
theorem map_add (b off k : Nat) : (some ⟨b, off, none⟩ : Option Addr).map (·.add k) = some ⟨b, off + k, none⟩ := by
 have hadd : (⟨b, off, none⟩ : Addr).add k = ⟨b, off + k, none⟩ := by unfold Addr.add; split <;> simp_all
 simp [hadd]
attribute [local go_sem ↓] Go.wp_at_zero Go.wp_at_succ

/-- a reader at p over the row g: its bytes, its place, its error -/
structure RInv (w : World) (p g : Nat) (bs : List Int) (at_ : Nat) (e : Int) : Prop where
 blk : SBlk w p [.slice (some ⟨g, 0, none⟩) bs.length bs.length, .int .i64 at_, .int .i64 e] 134
 row : Blk w g (bv bs)
 byt : Byt bs
 len : bs.length ≤ 2000000
 at_le : at_ ≤ bs.length
 ne : g ≠ p

theorem RInv.Row {w : World} {p g : Nat} {bs : List Int} {at_ : Nat} {e : Int} (h : RInv w p g bs at_ e) : Row w (some ⟨g, 0, none⟩) bs.length bs := h.row.row h.byt (by have := h.len; unfold maxLen; omega)
theorem RInv.grown {w w' : World} {p g : Nat} {bs : List Int} {at_ : Nat} {e : Int} {row : Option Nat} (h : RInv w p g bs at_ e) (hg : w.grownBy w' row) (h1 : some p ≠ row) (h2 : some g ≠ row) : RInv w' p g bs at_ e :=
 ⟨h.blk.grown hg h1, h.row.grown hg h2, h.byt, h.len, h.at_le, h.ne⟩
theorem RInv.setE {w : World} {p g : Nat} {bs : List Int} {at_ : Nat} {e : Int} (h : RInv w p g bs at_ e) (e' : Int) : RInv (w.setCell ⟨p, 2, none⟩ (.int .i64 e')) p g bs at_ e' :=
 ⟨h.blk.set 2 (.int .i64 e'), h.row.grown (grown_set w p 2 _) (by have := h.ne; simp [this]), h.byt, h.len, h.at_le, h.ne⟩
theorem RInv.setAt {w : World} {p g : Nat} {bs : List Int} {at_ : Nat} {e : Int} (h : RInv w p g bs at_ e) (k : Nat) (hk : k ≤ bs.length) : RInv (w.setCell ⟨p, 1, none⟩ (.int .i64 k)) p g bs k e :=
 ⟨h.blk.set 1 (.int .i64 k), h.row.grown (grown_set w p 1 _) (by have := h.ne; simp [this]), h.byt, h.len, hk, h.ne⟩
theorem RInv.drew {w : World} {p g : Nat} {bs : List Int} {at_ : Nat} {e : Int} (h : RInv w p g bs at_ e) : RInv w.drew p g bs at_ e := ⟨h.blk, h.row, h.byt, h.len, h.at_le, h.ne⟩

theorem rstop_any (p : Nat) (x y : Value) (e : Int) (w : World) (hB : SBlk w p [x, y, .int .i64 e] 134) :
  Calls Try.prog 79 #[.pointer (some ⟨p, 0, none⟩)] w fun r w' => r = .returned (.bool (e != 0)) ∧ w = w' := by
 have c2 := hB.c2
 go_enter Try.func79, Try.ntmps79
 go_wp2
 go_ret
 exact ⟨rfl, rfl⟩

def inR (x : Int) : Int := if x = 9 then 6 else x
theorem inr_any (x : Int) (w : World) : Calls Try.prog 81 #[.int .i64 x] w fun r w' => r = .returned (.int .i64 (inR x)) ∧ w = w' := by
 by_cases h : x = 9
 ·subst h
  go_enter Try.func81, Try.ntmps81
  go_wp2
  go_ret
  exact ⟨rfl, rfl⟩
 ·have hb : (x == 9) = false := by simpa using h
  go_enter Try.func81, Try.ntmps81
  go_wp2
  go_ret
  exact ⟨by simp [inR, h], rfl⟩

/-- a reader that stands still answers 0 -/
theorem rnum_stop (p : Nat) (x y : Value) (e n : Int) (w : World) (hB : SBlk w p [x, y, .int .i64 e] 134) (he : (e != 0) = true) :
  Calls Try.prog 70 #[.pointer (some ⟨p, 0, none⟩), .int .i64 n] w fun r w' => r = .returned (.int .u64 0) ∧ w = w' := by
 go_enter Try.func70, Try.ntmps70
 go_wp2_with (go_at_call 79; refine (rstop_any p x y e w hB).mono ?_; rintro e w' ⟨rfl, rfl⟩)
 go_ret
 exact ⟨rfl, rfl⟩

theorem cast_add (a b : Nat) : ((a + b : Nat) : Int) = (a : Int) + b := by omega
theorem RInv.setAt' {w : World} {p g : Nat} {bs : List Int} {at_ : Nat} {e : Int} (h : RInv w p g bs at_ e) (m : Nat) (hk : at_ + m ≤ bs.length) : RInv (w.setCell ⟨p, 1, none⟩ (.int .i64 ((at_ : Int) + m))) p g bs (at_ + m) e := by
 rw [← cast_add]; exact h.setAt _ hk
theorem grown_set_drew (w : World) (g i : Nat) (v : Value) : w.grownBy (w.setCell ⟨g, i, none⟩ v).drew (some g) := grown_trans (grown_set w g i v) (grown_drewH _ _)

set_option maxHeartbeats 800000 in
theorem rnum_ok (p g : Nat) (bs : List Int) (at_ m : Nat) (w : World) (hI : RInv w p g bs at_ 0) (hW : isW m = true) (hin : at_ + m ≤ bs.length) :
  Calls Try.prog 70 #[.pointer (some ⟨p, 0, none⟩), .int .i64 m] w fun r w' => r = .returned (.int .u64 (le ((bs.drop at_).take m))) ∧ RInv w' p g bs (at_ + m) 0 ∧ w.grownBy w' (some p) := by
 have hlen := hI.len
 have hB := hI.blk
 have c0 := hB.c0
 have c1 := hB.c1
 have f1 := hB.frozen 1
 have hm := isW_pos hW
 have hG := get_any (some ⟨g, 0, none⟩) bs.length bs.length bs at_ m w.drew hI.drew.Row (by omega) (by omega)
 rw [getV_in hW hin, getE_in hW hin] at hG
 generalize le ((bs.drop at_).take m) = V at *
 go_enter Try.func70, Try.ntmps70
 go_wp2_with (go_at_call 79; refine (rstop_any p _ _ 0 w hB).mono ?_; rintro e w' ⟨rfl, rfl⟩)
 go_region_held (fun w' => w'.cell? ⟨p, 0, none⟩ = some (.slice (some ⟨g, 0, none⟩) bs.length bs.length) ∧ w'.cell? ⟨p, 1, none⟩ = some (.int .i64 at_)) (go_keep) (first | (go_at_call 80; refine hG.mono ?_; rintro e w' ⟨rfl, rfl⟩))
 go_wp2_with fail
 go_ret
 exact ⟨rfl, (hI.setAt' m hin).drew, grown_set_drew _ _ _ _⟩

set_option maxHeartbeats 800000 in
theorem rnum_bad (p g : Nat) (bs : List Int) (at_ : Nat) (n : Int) (w : World) (hI : RInv w p g bs at_ 0) (hn : n ≤ 9223372036854775807) (E : Int) (hE : getE bs.length at_ n = E) (hE0 : (E != 0) = true) :
  Calls Try.prog 70 #[.pointer (some ⟨p, 0, none⟩), .int .i64 n] w fun r w' => r = .returned (.int .u64 0) ∧ RInv w' p g bs at_ (inR E) ∧ w.grownBy w' (some p) := by
 have hlen := hI.len
 have hat := hI.at_le
 have hB := hI.blk
 have c0 := hB.c0
 have c1 := hB.c1
 have c2 := hB.c2
 have f2 := hB.frozen 2
 have hG := get_any (some ⟨g, 0, none⟩) bs.length bs.length bs at_ n w.drew hI.drew.Row (by omega) hn
 rw [hE] at hG
 clear hE
 go_enter Try.func70, Try.ntmps70
 go_wp2_with (go_at_call 79; refine (rstop_any p _ _ 0 w hB).mono ?_; rintro e w' ⟨rfl, rfl⟩)
 go_region_held (fun w' => w'.cell? ⟨p, 0, none⟩ = some (.slice (some ⟨g, 0, none⟩) bs.length bs.length) ∧ w'.cell? ⟨p, 1, none⟩ = some (.int .i64 at_)) (go_keep) (first | (go_at_call 80; refine hG.mono ?_; rintro e w' ⟨rfl, rfl⟩))
 go_wp2_with (go_at_call 81; refine (inr_any _ _).mono ?_; rintro e w' ⟨rfl, rfl⟩)
 go_ret
 exact ⟨rfl, (hI.setE (inR E)).drew, grown_set_drew _ _ _ _⟩

/-- bytes that a call told: nothing, or a row of their own -/
def Res (w w' : World) (v : Value) (t : List Int) : Prop := (v = .slice none 0 0 ∧ t = []) ∨ ∃ g, v = .slice (some ⟨g, 0, none⟩) t.length t.length ∧ Blk w' g (bv t) ∧ w.heap.size ≤ g

theorem hle_two {bs : List Int} (hb : Byt bs) (k : Nat) : 0 ≤ le ((bs.drop k).take 2) ∧ le ((bs.drop k).take 2) < 65536 := by
 have hB := (hb.drop k).take 2
 have h1 := le_lt_of hB 2 (by simp; omega)
 exact ⟨le_nonneg hB, by have e : (256 : Int) ^ 2 = 65536 := by decide
                         rw [e] at h1; exact h1⟩

theorem newreader_any (a : Option Addr) (len cap : Nat) (bs : List Int) (w : World) (R : Row w a len bs) (hl : len ≤ 2000000) :
  Calls Try.prog 69 #[.slice a len cap] w fun r w' => ∃ p g, r = .returned (.pointer (some ⟨p, 0, none⟩)) ∧ RInv w' p g bs 0 0 ∧ w.heap.size ≤ p ∧ w.heap.size ≤ g ∧ w.grownBy w' none := by
 have hF := fresh_any a len cap bs w R (by omega)
 go_enter Try.func69, Try.ntmps69
 go_wp2_with (go_at_call 61; refine hF.mono ?_; rintro e w1 ⟨rfl, hb1, hg1, hs1⟩; have HS : Hid (w1.heap.size = w.heap.size + 1) := hs1; clear hs1)
 go_ret
 have hb1 : Blk w1 w.heap.size (bv bs) := by assumption
 have hg1 : w.grownBy w1 none := by assumption
 have HS : w1.heap.size = w.heap.size + 1 := (show Hid (w1.heap.size = w.heap.size + 1) by assumption)
 obtain rfl := R.len_eq
 exact ⟨w1.heap.size, w.heap.size, rfl, ⟨alloc_sblk w1 [.slice (some ⟨w.heap.size, 0, none⟩) bs.length bs.length, .int .i64 0, .int .i64 0] 134, hb1.below ((Below.refl _ _).alloc (Nat.le_refl _) _) hb1.lt, R.byt, hl, Nat.zero_le _, by omega⟩, by omega, Nat.le_refl _, grown_trans hg1 (World.grownBy_alloc w1 _ none)⟩
end Go.Proofs.Ytkkigpobhagnfaa
