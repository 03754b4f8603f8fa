/- The program's length. The program's walk through a block's sequences, whatever takes them. The program's unpack: what a sequence stands for, into room that is there. The program's Decode. -/
import Derived.Laws.EntriesVeiled
import Derived.WalkMore
import Derived.Deep.DeepAppendRoom
import Derived.Deep.RegionHeld3
import Derived.Handy
import Derived.Deep.OwnRows
import Derived.Test.YtkkigpobhagnfaaK02
import Derived.Test.YtkkigpobhagnfaaK03
namespace Go.Proofs.Ytkkigpobhagnfaa
open Go.RowKit
set_option maxRecDepth 100000
set_option linter.unusedSimpArgs false
set_option linter.unusedVariables false
theorem i64_or_nat (a b : Nat) (ha : a < 65536) (hb : b < 65536) : bits .or .i64 (a : Int) (b : Int) = ((a ||| b : Nat) : Int) := by
 have hx : a ||| b < 2 ^ 16 := Nat.or_lt_two_pow (by omega) (by omega)
 show IntKind.i64.wrap ((BitVec.ofInt 64 (a : Int) ||| BitVec.ofInt 64 (b : Int)).toNat : Int) = _
 rw [BitVec.toNat_or, BitVec.ofInt_natCast, BitVec.ofInt_natCast, BitVec.toNat_ofNat, BitVec.toNat_ofNat, Nat.mod_eq_of_lt (by omega), Nat.mod_eq_of_lt (by omega)]
 simp only [IntKind.wrap, IntKind.bits, IntKind.signed]
 simp
 omega
theorem off_sum {x y : Int} (hx : 0 ≤ x ∧ x ≤ 255) (hy : 0 ≤ y ∧ y ≤ 255) : bits BinOp.or IntKind.i64 x (y * 256) = x + 256 * y := by
 obtain ⟨m, rfl⟩ := Int.eq_ofNat_of_zero_le hx.1
 obtain ⟨n, rfl⟩ := Int.eq_ofNat_of_zero_le hy.1
 rw [show ((n : Int) * 256) = ((n * 256 : Nat) : Int) by omega, i64_or_nat m (n * 256) (by omega) (by omega), or_low m n 8 (by omega)]
 omega
theorem and15 {x : Int} (hx : 0 ≤ x ∧ x ≤ 255) : bits BinOp.and IntKind.u8 x 15 = x % 16 := by
 obtain ⟨m, rfl⟩ := Int.eq_ofNat_of_zero_le hx.1
 have := u8_and_nat m 15 (by omega) (by decide)
 rw [show (15 : Nat) = 2 ^ 4 - 1 by rfl, Nat.and_two_pow_sub_one_eq_mod] at this
 rw [show (15 : Int) = ((2 ^ 4 - 1 : Nat) : Int) by rfl, this]; omega

theorem lnk_end {r : List Int} {n : Int} {p : Nat} (hb : Byt r) (h0 : 0 ≤ n) (h : (lnk r n p).1 < 0) : (lnk r n p).2 = ((p + r.length : Nat) : Int) := by
 induction r generalizing n p with
 | nil => simp [lnk]
 | cons b r ih =>
  have hb0 := hb b (List.mem_cons_self ..)
  unfold lnk at h ⊢
  by_cases c : b = 255
  ·rw [if_pos c] at h ⊢
   have := ih (n := n + 255) (p := p + 1) (fun x hx => hb x (List.mem_cons_of_mem _ hx)) (by omega) (by simpa using h)
   rw [show ((p + 1 : Nat) : Int) = (p : Int) + 1 by omega] at this
   rw [this, List.length_cons]; omega
  ·rw [if_neg c] at h; simp only at h; omega
/-- a length, as the program tells it -/
def lenAns (q : Int × Int) : Value := .tuple #[.int .i64 (if q.1 < 0 then 0 else q.1), .int .i64 q.2, .bool (decide (0 ≤ q.1))]

set_option maxHeartbeats 1000000 in
theorem plen_any (a : Option Addr) (len cap : Nat) (bs : List Int) (n : Int) (p : Nat) (w : World) (R : Row w a len bs) (hl : len ≤ 16777216) (hn : 0 ≤ n ∧ n ≤ 15) (hp : p ≤ len) :
  Calls Try.prog 82 #[.slice a len cap, .int .i64 p, .int .u8 n] w fun e w' => e = .returned (lenAns (lng bs n p)) ∧ w' = w := by
 unfold lng
 have hlb := R.len_eq
 by_cases h1 : n < 15
 ·rw [if_pos h1]
  unfold lenAns
  rw [if_neg (by simp only; omega), decide_eq_true (by simp only; omega)]
  go_enter Try.func82, Try.ntmps82
  go_wp2
  go_ret3
  exact ⟨rfl, rfl⟩
 ·rw [if_neg h1]
  go_enter Try.func82, Try.ntmps82
  go_wp2
  go_loopw [1, 6] (fun vp vn wr => wr = w ∧ ∃ (m : Int) (j : Nat), vn = .int .i64 m ∧ vp = .int .i64 j ∧ j ≤ len ∧ 15 ≤ m ∧ m ≤ 15 + 255 * j ∧ Hid (lnk (bs.drop j) m j = lnk (bs.drop p) n p)) (fun vp _ _ => len - (intOf vp).toNat)
  case atStart => exact ⟨rfl, n, p, rfl, rfl, hp, by omega, by omega, rfl⟩
  case round =>
   obtain ⟨rfl, m, j, rfl, rfl, hj, hm1, hm2, HE⟩ := hrel
   by_cases k1 : j < len
   ·obtain ⟨b, off, rfl, hc⟩ := R.cells (by omega)
    have ca := hc j k1
    have hx := R.byt.getD j
    have he := HE.out
    rw [lnk_at (by omega)] at he
    clear hc HE
    generalize bs.getD j 0 = x at ca hx he
    by_cases k2 : x = 255
    ·subst k2
     rw [if_pos rfl] at he
     have HE : Hid _ := he
     clear he
     go_wp2
     go_roundw
     case rel => exact ⟨by trivial, m + 255, j + 1, by go_num, by go_num, by omega, by omega, by omega, HE⟩
     case measure => simp [intOf]; omega
    ·rw [if_neg k2] at he
     have HE : Hid _ := he
     clear he
     go_wp2
     go_ret3
     rw [← HE.out]
     unfold lenAns
     rw [if_neg (by simp only; omega), decide_eq_true (by simp only; omega)]
     exact ⟨by simp, rfl⟩
   ·have he := HE.out
    rw [List.drop_eq_nil_of_le (by omega)] at he
    have HE : Hid _ := he
    clear he
    go_wp2
    go_ret3
    rw [← HE.out]
    exact ⟨rfl, rfl⟩
theorem pass_any (v : Value) (s : SqV) (w : World) (hv : v = .agg #[.slice s.a s.n s.c, .int .i64 s.off, .int .i64 s.m]) : Calls Try.prog 72 #[v] w fun e w' => e = .returned (.tuple #[]) ∧ w.grownBy w' none := by
 subst hv
 go_enter Try.func72, Try.ntmps72
 go_wp2
 go_end0
 exact ⟨rfl, World.grownBy_alloc _ _ _⟩

/-- what takes the sequences: I is kept -/
structure Tk (a : Option Addr) (len : Nat) (bs : List Int) (most : Int) (K : Nat) (caps : Array Value) (I : List Int → List Sq → World → Prop) : Prop where
 ent : ∀ args W, (callFunc K args).run Try.prog W = .ok (.enter K args) W
 row : ∀ out sq W, I out sq W → Row W a len bs
 keep : ∀ out sq W W', I out sq W → W.grownBy W' none → I out sq W'
 call : ∀ out sq W s q, 4 * sq.length ≤ out.length → I out sq W → SqOk W s q → ((out.length + q.1.length : Nat) : Int) + q.2.2 ≤ most → (q.2.1 = 0 ∧ q.2.2 = 0 ∨ 1 ≤ q.2.1 ∧ q.2.1 ≤ ((out.length + q.1.length : Nat) : Int) ∧ 4 ≤ q.2.2) →
  Calls Try.prog K (#[.agg #[.slice s.a s.n s.c, .int .i64 s.off, .int .i64 s.m]] ++ caps) W fun e W' => e = .returned (.tuple #[]) ∧ I (cpy q.2.1.toNat q.2.2.toNat (out ++ q.1)) (sq ++ [q]) W'

def WalkPost (I : List Int → List Sq → World → Prop) (r : List Int × List Sq × Int × Int) (e : Ending) (w' : World) : Prop :=
 e = .returned (.tuple #[.int .i64 r.1.length, .int .i64 r.2.2.1, .int .i64 r.2.2.2]) ∧ (r.2.2.1 = 0 → I r.1 r.2.1 w') ∧ ∃ out sq, I out sq w'
theorem walk_bad {I : List Int → List Sq → World → Prop} {out : List Int} {sq : List Sq} {w' : World} (er q : Int) (h : I out sq w') (he : er ≠ 0) : WalkPost I ([], [], er, q) (.returned (.tuple #[.int .i64 0, .int .i64 er, .int .i64 q])) w' := ⟨rfl, fun e => absurd e he, _, _, h⟩

set_option maxRecDepth 4000 in
set_option maxHeartbeats 2000000 in
theorem walk_any (a : Option Addr) (len cap : Nat) (bs : List Int) (most : Int) (K : Nat) (caps : Array Value) (I : List Int → List Sq → World → Prop) (T : Tk a len bs most K caps I) (w : World) (h0 : I [] [] w) (hl : len ≤ 16777216) (hc : len ≤ cap) (hcm : cap ≤ 9223372036854775807) (hm : 0 ≤ most ∧ most ≤ 1048576) :
  Calls Try.prog 71 #[.slice a len cap, .int .i64 most, .func (.func K) #[] caps] w (WalkPost I (dec bs most (len + 1) [] [] 0)) := by
 obtain ⟨i5, hi, hz0, hz1, hz2⟩ := info_parts Try.info5
 have hbyt := (T.row _ _ _ h0).byt
 have hlb := (T.row _ _ _ h0).len_eq
 generalize hres : dec bs most (len + 1) [] [] 0 = res
 go_enter Try.func71, Try.ntmps71
 go_wp2
 go_step3
 go_wp2
 go_step3
 go_wp2
 go_loopw [6, 7, 8, 9] (fun vn ve va vp wr => ve = .int .i64 6 ∧ va = .int .i64 len ∧ ∃ (p f : Nat) (out : List Int) (sq : List Sq), vp = .int .i64 p ∧ vn = .int .i64 out.length ∧ p ≤ len ∧ len ≤ f + p ∧ (out.length : Int) ≤ most ∧ 4 * sq.length ≤ out.length ∧ Hid (I out sq wr) ∧ Hid (dec bs most (f + 1) out sq p = res)) (fun _ _ _ vp _ => len + 1 - (intOf vp).toNat)
 case atStart => exact ⟨rfl, rfl, 0, len, [], [], rfl, rfl, Nat.zero_le _, Nat.le_refl _, hm.1, Nat.le_refl _, h0, hres⟩
 case round =>
  clear hres h0
  obtain ⟨rfl, rfl, p, f, out, sq, rfl, rfl, hp, hf, ho, hsq, HS, HD⟩ := hrel
  by_cases k1 : p < len
  ·have R := T.row _ _ _ HS.out
   obtain ⟨b, off, rfl, hcl⟩ := R.cells (by omega)
   have ca := hcl p k1
   have hx := hbyt.getD p
   have hlen := plen_any (some ⟨b, off, none⟩) len cap bs (bs.getD p 0 / 16) (p + 1) wr R hl (tok_hi hx) (by omega)
   rw [show ((p + 1 : Nat) : Int) = (p : Int) + 1 by omega] at hlen
   have hq := lng_in (n := bs.getD p 0 / 16) (p := p + 1) R.byt (tok_hi hx) (by omega)
   have HC : Hid _ := hcl
   clear hcl
   have hdst : dst bs most out.length p = (if (lng bs (bs.getD p 0 / 16) (p + 1)).1 < 0 then .bad 6 bs.length
    else if most - out.length < (lng bs (bs.getD p 0 / 16) (p + 1)).1 then .bad 2 p
    else if (bs.length : Int) - (lng bs (bs.getD p 0 / 16) (p + 1)).2 < (lng bs (bs.getD p 0 / 16) (p + 1)).1 then .bad 6 bs.length
    else dst.dst2 bs most out.length p (lng bs (bs.getD p 0 / 16) (p + 1)).2.toNat (lng bs (bs.getD p 0 / 16) (p + 1)).1.toNat) := by
    conv => lhs; unfold dst
    rw [if_neg (by omega)]
   rw [hlb] at hdst
   generalize lng bs (bs.getD p 0 / 16) (p + 1) = q at hlen hq hdst
   obtain ⟨q1, q2⟩ := q
   simp only [lenAns] at hlen hq hdst
   have HQ : Hid _ := hdst
   have HX : Hid _ := hx
   clear hdst
   generalize hxe : bs.getD p 0 = x at ca hx hlen
   have HXE : Hid _ := hxe
   clear hxe
   go_wp2_with fail
   refine hlen.mono ?_
   rintro e w' ⟨rfl, rfl⟩
   clear hlen
   have hin := HS.out
   by_cases k2 : q1 < 0
   ·rw [if_pos k2, decide_eq_false (by omega)]
    have e := HQ.out
    rw [if_pos k2] at e
    have hd := HD.out
    rw [dec_succ_bad e] at hd
    subst hd
    clear HD HQ e
    go_wp2
    go_ret3
    exact walk_bad _ _ hin (by decide)
   ·rw [if_neg k2, decide_eq_true (by omega)]
    by_cases k3 : most - out.length < q1
    ·have e := HQ.out
     rw [if_neg k2, if_pos k3] at e
     have hd := HD.out
     rw [dec_succ_bad e] at hd
     subst hd
     clear HD HQ e
     go_wp2
     go_ret3
     exact walk_bad _ _ hin (by decide)
    ·by_cases k4 : (len : Int) - q2 < q1
     ·have e := HQ.out
      rw [if_neg k2, if_neg k3, if_pos k4] at e
      have hd := HD.out
      rw [dec_succ_bad e] at hd
      subst hd
      clear HD HQ e
      go_wp2
      go_ret3
      exact walk_bad _ _ hin (by decide)
     ·have hq' : 0 ≤ q1 ∧ p + 1 ≤ q2 ∧ q2 + q1 ≤ len := by omega
      clear hq
      obtain ⟨n, rfl⟩ := Int.eq_ofNat_of_zero_le (by omega : 0 ≤ q1)
      obtain ⟨k, rfl⟩ := Int.eq_ofNat_of_zero_le (by omega : 0 ≤ q2)
      have e := HQ.out
      rw [if_neg k2, if_neg k3, if_neg k4, Int.toNat_natCast, Int.toNat_natCast] at e
      have HE : Hid _ := e
      clear HQ e
      have k5 : p + 1 ≤ k := by omega
      have k6 : k + n ≤ len := by omega
      have k7 : (out.length : Int) + n ≤ most := by omega
      clear k2 k3 k4 hq'
      go_wp2_with (refine slice_here ?_; refine wpList_cut8 rfl _ _ _ 22 rfl Try.underlying22 i5 hi hz1 b off len cap k n _ _ rfl rfl rfl (by go_num) (by go_num) (by omega) ?_)
      intro o' ho'
      have RL := R.piece k n o' k6 ho'
      have G0 : w'.grownBy (w'.alloc (.cells #[.slice (some ⟨b, o', none⟩) n (cap - k), .int .i64 0, .int .i64 0] 116)) none := World.grownBy_alloc _ _ _
      have B0 : Box (w'.alloc (.cells #[.slice (some ⟨b, o', none⟩) n (cap - k), .int .i64 0, .int .i64 0] 116)) w'.heap.size 116 [.slice (some ⟨b, o', none⟩) n (cap - k), .int .i64 0, .int .i64 0] := Box.new _ _ _
      have hll : ((bs.drop k).take n).length = n := by simp; omega
      have HLL : Hid _ := hll
      have HL : Hid _ := RL
      clear RL ho' hll ca hin
      by_cases k8 : k + n = len
      ·have e := HE.out
       unfold dst.dst2 at e
       rw [if_pos (by omega)] at e
       have hd := HD.out
       rw [dec_succ_last e] at hd
       have HD2 : Hid _ := hd
       obtain ⟨b0, b1, b2⟩ := B0.c3
       clear HE HD e hd
       go_wp2_with fail
       rw [T.ent, Oper.upon_enter]
       have hok : SqOk (w'.alloc (.cells #[.slice (some ⟨b, o', none⟩) n (cap - k), .int .i64 0, .int .i64 0] 116)) ⟨some ⟨b, o', none⟩, n, cap - k, 0, 0⟩ ((bs.drop k).take n, 0, 0) := ⟨HL.out.grown G0, rfl, rfl, (fun e => by cases e), (by show n ≤ cap - k; omega), (by show cap - k ≤ maxLen; unfold maxLen; omega)⟩
       have hcall := T.call _ _ _ _ _ hsq (T.keep _ _ _ _ HS.out G0) hok (by have := HLL.out; simp only at this ⊢; omega) (Or.inl ⟨rfl, rfl⟩)
       refine hcall.mono ?_
       rintro e w2 ⟨rfl, hin⟩
       have HIN : Hid _ := hin
       have hl2 := HLL.out
       have HL2 : Hid _ := hl2
       clear hin hok hcall HS HL b0 b1 b2 G0 B0 HLL hl2
       go_wp2
       try rw [Exit.noGoto_ret]
       go_ret3
       rw [← HD2.out]
       exact ⟨by rw [List.length_append, HL2.out, hlb]; simp, fun _ => HIN.out, _, _, HIN.out⟩
      ·by_cases k9 : k + n + 1 = len
       ·have e := HE.out
        unfold dst.dst2 at e
        rw [if_neg (by omega), if_pos (by omega), hlb] at e
        have hd := HD.out
        rw [dec_succ_bad e] at hd
        subst hd
        have hin := T.keep _ _ _ _ HS.out G0
        clear HE HD e
        go_wp2
        try rw [Exit.noGoto_ret]
        go_ret3
        exact walk_bad _ _ hin (by decide)
       ·have RW := R.grown G0
        obtain ⟨b', off', e, hcl⟩ := RW.cells (by omega)
        injection e with e
        injection e with e1 e2
        subst e1 e2
        have k10 : k + n + 1 < len := by omega
        have ca := hcl (k + n) (by omega)
        have cb := hcl (k + n + 1) (by omega)
        have hxa := R.byt.getD (k + n)
        have hxb := R.byt.getD (k + n + 1)
        obtain ⟨b0, b1, b2⟩ := B0.c3
        have fr := B0.f 1
        have HM : Hid _ := And.intro G0 B0
        have HR0 : Hid _ := R
        clear hcl RW G0 B0 R HC
        go_wp2_with fail
        obtain ⟨r, hr⟩ : ∃ r : Nat, r = k + n := ⟨_, rfl⟩
        rw [show (k : Int) + n = (r : Int) by omega]
        rw [← hr] at ca cb hxa hxb k10
        have HR : Hid _ := hr
        clear hr k8 k9
        generalize hya : bs.getD r 0 = ya at ca hxa
        generalize hyb : bs.getD (r + 1) 0 = yb at cb hxb
        have HYA : Hid _ := hya
        have HYB : Hid _ := hyb
        clear hya hyb
        go_region
        obtain ⟨G0, B0⟩ := HM.out
        have hos := off_sum hxa hxb
        rw [hos]
        have G2 : w'.grownBy (w'.alloc (.cells #[.slice (some ⟨b, o', none⟩) n (cap - k), .int .i64 (ya + 256 * yb), .int .i64 0] 116)).drew none := grown_trans (World.grownBy_alloc _ _ _) (grown_drew _)
        have B2 : Box (w'.alloc (.cells #[.slice (some ⟨b, o', none⟩) n (cap - k), .int .i64 (ya + 256 * yb), .int .i64 0] 116)).drew w'.heap.size 116 [.slice (some ⟨b, o', none⟩) n (cap - k), .int .i64 (ya + 256 * yb), .int .i64 0] := (Box.new _ _ _).kept (grown_drew _) (by simp)
        clear HM b0 b1 b2 fr ca cb G0 B0 hos
        have hg0 : w'.heap.size ≤ w'.heap.size := Nat.le_refl _
        generalize (w'.alloc (.cells #[.slice (some ⟨b, o', none⟩) n (cap - k), .int .i64 (ya + 256 * yb), .int .i64 0] 116)).drew = w2 at G2 B2 ⊢
        generalize hge : w'.heap.size = g0 at B2 hg0 ⊢
        have HG0 : Hid _ := hge
        clear hge hg0
        obtain ⟨y, hy⟩ := Int.eq_ofNat_of_zero_le (by omega : 0 ≤ ya + 256 * yb)
        rw [hy] at B2
        have hyy : y ≤ 65535 := by omega
        have e3 := HE.out
        unfold dst.dst2 at e3
        rw [if_neg (by have := HR.out; omega), if_neg (by have := HR.out; omega), ← HR.out, HYA.out, HYB.out, hy, hlb] at e3
        rw [hy]
        have HE2 : Hid _ := e3
        clear e3 HE hy HYA HYB hxa hxb
        obtain ⟨b0, b1, b2⟩ := B2.c3
        by_cases z1 : y = 0
        ·subst z1
         have e3 := HE2.out
         rw [if_pos (by omega)] at e3
         have hd := HD.out
         rw [dec_succ_bad e3] at hd
         subst hd
         have hin := T.keep _ _ _ _ HS.out G2
         clear HE2 HD e3
         go_wp2
         try rw [Exit.noGoto_ret]
         go_ret3
         exact walk_bad _ _ hin (by decide)
        ·by_cases z2 : ((out.length + n : Nat) : Int) < y
         ·skip
          have e3 := HE2.out
          rw [if_pos (Or.inr z2)] at e3
          have hd := HD.out
          rw [dec_succ_bad e3] at hd
          subst hd
          have hin := T.keep _ _ _ _ HS.out G2
          clear HE2 HD e3
          go_wp2
          try rw [Exit.noGoto_ret]
          go_ret3
          exact walk_bad _ _ hin (by decide)
         ·have e3 := HE2.out
          rw [if_neg (by omega)] at e3
          have RW := HR0.out.grown G2
          have hlen := plen_any (some ⟨b, off, none⟩) len cap bs (x % 16) (r + 2) w2 RW hl (tok_lo hx) (by omega)
          have hq := lng_in (n := x % 16) (p := r + 2) hbyt (tok_lo hx) (by omega)
          rw [show ((r + 2 : Nat) : Int) = (r : Int) + 2 by omega] at hlen
          rw [HXE.out] at e3
          obtain ⟨b', off', e, hcl⟩ := RW.cells (by omega)
          injection e with e
          injection e with e1 e2
          subst e1 e2
          have ct := hcl p k1
          rw [HXE.out] at ct
          generalize lng bs (x % 16) (r + 2) = q at hlen hq e3
          obtain ⟨q1, q2⟩ := q
          simp only [lenAns] at hlen hq e3
          have HE3 : Hid _ := e3
          have z2' : y ≤ out.length + n := by omega
          have h15 := and15 hx
          have f2 := B2.f 2
          have HB : Hid _ := And.intro G2 B2
          clear e3 HE2 G2 B2 hcl RW z2
          go_wp2_with fail
          ·exfalso
           rename_i h _
           rcases h with h | h
           ·simp at h; omega
           ·omega
          refine hlen.mono ?_
          rintro e w3 ⟨rfl, rfl⟩
          clear hlen ct h15
          obtain ⟨G2, B2⟩ := HB.out
          by_cases z3 : q1 < 0
          ·rw [if_pos z3, decide_eq_false (by omega)]
           have e3 := HE3.out
           rw [if_pos z3] at e3
           have hd := HD.out
           rw [dec_succ_bad e3] at hd
           subst hd
           have hin : ∀ v1 v2, I out sq ((w3.setCell ⟨g0, 2, none⟩ v1).setCell ⟨g0, 2, none⟩ v2) := fun v1 v2 => T.keep _ _ _ _ HS.out (grown_new (grown_new G2 (grown_set _ _ _ _) (Nat.le_of_eq HG0.out)) (grown_set _ _ _ _) (Nat.le_of_eq HG0.out))
           clear HE3 HD e3 HB G2 B2
           go_wp2
           try rw [Exit.noGoto_ret]
           go_ret3
           exact walk_bad _ _ (hin _ _) (by decide)
          ·rw [if_neg z3, decide_eq_true (by omega)]
           have hq' : 0 ≤ q1 ∧ q1 ≤ 15 + 255 * len ∧ r + 2 ≤ q2 ∧ q2 ≤ len := by omega
           clear hq HB
           have G3 : w'.grownBy ((w3.setCell ⟨g0, 2, none⟩ (.int .i64 q1)).setCell ⟨g0, 2, none⟩ (.int .i64 (q1 + 4))) none := grown_new (grown_new G2 (grown_set _ _ _ _) (Nat.le_of_eq HG0.out)) (grown_set _ _ _ _) (Nat.le_of_eq HG0.out)
           have B3 := (B2.set 2 (.int .i64 q1)).set 2 (.int .i64 (q1 + 4))
           simp only [List.set_cons_succ, List.set_cons_zero] at B3
           have HB3 : Hid _ := And.intro G3 B3
           clear G2 B2 G3 B3
           by_cases z4 : most - ((out.length + n : Nat) : Int) < q1 + 4
           ·have e3 := HE3.out
            rw [if_neg z3, if_pos z4] at e3
            have hd := HD.out
            rw [dec_succ_bad e3] at hd
            subst hd
            clear HE3 HD e3
            go_wp2
            try rw [Exit.noGoto_ret]
            go_ret3
            exact walk_bad _ _ (T.keep _ _ _ _ HS.out HB3.out.1) (by decide)
           ·have e3 := HE3.out
            rw [if_neg z3, if_neg z4] at e3
            obtain ⟨m, hm'⟩ := Int.eq_ofNat_of_zero_le (by omega : 0 ≤ q1 + 4)
            obtain ⟨s', rfl⟩ := Int.eq_ofNat_of_zero_le (by omega : 0 ≤ q2)
            obtain rfl : q1 = (m : Int) - 4 := by omega
            rw [show (m : Int) - 4 + 4 = m by omega, Int.toNat_natCast, Int.toNat_natCast, Int.toNat_natCast] at e3
            have hd := HD.out
            rw [dec_succ_more e3] at hd
            have HD2 : Hid _ := hd
            have k11 : r + 2 ≤ s' := by omega
            have k12 : s' ≤ len := by omega
            have k13 : ((out.length + n + m : Nat) : Int) ≤ most := by omega
            have k14 : 4 ≤ m := by omega
            clear hd e3 HE3 HD hm' hq' z3 z4
            obtain ⟨f', rfl⟩ : ∃ f', f = f' + 1 := ⟨f - 1, by omega⟩
            go_wp2_with fail
            rw [T.ent, Oper.upon_enter]
            obtain ⟨G3, B3⟩ := HB3.out
            rw [show (m : Int) - 4 + 4 = m by omega] at G3 B3
            clear HB3
            generalize ((w3.setCell ⟨g0, 2, none⟩ (.int .i64 ((m : Int) - 4))).setCell ⟨g0, 2, none⟩ (.int .i64 m)) = w4 at G3 B3 ⊢
            have hok : SqOk w4 ⟨some ⟨b, o', none⟩, n, cap - k, y, m⟩ ((bs.drop k).take n, (y : Int), (m : Int)) := ⟨HL.out.grown G3, rfl, rfl, (fun e => by cases e), (by show n ≤ cap - k; omega), (by show cap - k ≤ maxLen; unfold maxLen; omega)⟩
            have hcall := T.call _ _ _ _ _ hsq (T.keep _ _ _ _ HS.out G3) hok (by have := HLL.out; simp only at this ⊢; omega) (Or.inr (by have := HLL.out; simp only at this ⊢; omega))
            refine hcall.mono ?_
            rintro e w5 ⟨rfl, hin⟩
            simp only [Int.toNat_natCast] at hin
            have HIN : Hid _ := hin
            have hl2 : (cpy y m (out ++ (bs.drop k).take n)).length = out.length + n + m := by rw [cpy_len, List.length_append, HLL.out]
            have HL2 : Hid _ := hl2
            have k15 : p + 3 ≤ s' := by have := HR.out; omega
            clear hin hok hcall HS HL b0 b1 b2 G3 B3 HLL hl2
            go_wp2
            go_roundw
            case rel => exact ⟨rfl, rfl, s', f', _, _, rfl, by rw [HL2.out]; go_num, k12, by omega, by rw [HL2.out]; omega, by rw [HL2.out, List.length_append, List.length_singleton]; omega, HIN, HD2⟩
            case measure => simp [intOf]; omega
  ·have e : dst bs most out.length p = .bad 6 len := by unfold dst; rw [if_pos (by omega), hlb]
   have hd := HD.out
   rw [dec_succ_bad e] at hd
   subst hd
   have hg := HS.out
   clear HS HD e
   go_wp2
   go_ret3
   exact walk_bad _ _ hg (by decide)
theorem Try.size5 : (Try.prog.info? 5).map (·.size) = some 1 := by kernel_rfl
/-- a copy, as a step of a region that draws its order: what it leaves as it was -/
theorem step_copy8 {P : Program} {ops : Array Oper} {o : Oper} {a : Act} {w : World} {K : Act → World → Prop} {Q : Exit → Act → World → Prop} {E : Prop} (hgd : o.guard = none) (d s : Operand) (dT sT : TypeId)
  (ho : o.op = .call { callee := .builtin .copy, args := #[d, s], argTypes := #[dT, sT] }) (elem : TypeId) (hu : P.underlying dT = some (.slice elem)) (hsz : (P.info? elem).map (·.size) = some 1)
  (dp sp : Option Addr) (dLen dCap sLen sCap : Nat) (hd : a.eval d = .slice dp dLen dCap) (hs : a.eval s = .slice sp sLen sCap)
  (g off : Nat) (cur : Array Value) (t : TypeId) (hg : w.heap[g]? = some (.cells cur t (0, 0))) (cs : List Value) (hn : cs.length = Nat.min sLen dLen)
  (hpos : 0 < cs.length → dp = some ⟨g, off, none⟩ ∧ ∃ ad, sp = some ad ∧ ∀ j v, cs[j]? = some v → w.cell? (ad.add j) = some v)
  (hfit : off + cs.length ≤ cur.size) (h1 : ∀ v ∈ cs, v.oneCell' = true)
  (h : ∀ w', Hid (w'.heap[g]? = some (.cells (splice cur.toList off cs).toArray t (0, 0))) → Hid (w.grownBy w' (some g)) → K (a.put o.dst (.int .i64 (cs.length : Int))) w') :
  if Region.wanted o (yielded ops a.tmps) = true then Oper.wp P o a w K Q else E := by
 rw [if_pos (by simp [Region.wanted, hgd])]
 by_cases h0 : cs.length = 0
 ·obtain rfl : cs = [] := List.eq_nil_of_length_eq_zero h0
  have hrun := run_copy_none (P := P) w dT sT o.type elem dp sp dLen dCap sLen sCap hu hsz (by simpa using hn.symm)
  unfold Oper.wp
  simp [execOp, ho, resolve, invoke, builtin, hd, hs, hrun, Result.andThen]
  exact h w (show _ = _ by simpa [splice] using hg) (World.grownBy.refl _ _)
 ·obtain ⟨rfl, ad, rfl, hsrc⟩ := hpos (by omega)
  have hrun := run_copy_row (P := P) w dT sT o.type elem g off dLen dCap ad sLen sCap cur t cs hu hsz hg hn hsrc hfit h1
  unfold Oper.wp
  simp [execOp, ho, resolve, invoke, builtin, hd, hs, hrun, Result.andThen]
  exact h _ (show _ = _ by simpa [splice] using setRow_heap w g _ _ t _ hg) ⟨rfl, rfl, rfl, by simp, fun k _ hk => setRow_other w g k _ (fun e => hk (by rw [e]))⟩

theorem grown_drewR (w : World) (row : Option Nat) : w.grownBy w.drew row := ⟨rfl, rfl, rfl, Nat.le_refl _, fun _ _ _ => rfl⟩
/-- what is unpacked, in a block with room for all -/
abbrev Ou (w : World) (g cap : Nat) (out : List Int) : Prop := w.ownsRow 0 5 1 (.slice (some ⟨g, 0, none⟩) out.length cap) out.length (bv out)

set_option maxHeartbeats 1000000 in
theorem unpack_any (g cap : Nat) (out : List Int) (s : SqV) (q : Sq) (w : World) (O : Ou w g cap out) (hb : Byt out) (S : SqOk w s q) (hc : out.length + q.1.length + q.2.2.toNat ≤ cap) (hcm : cap ≤ 1048576)
  (hq : q.2.1 = 0 ∧ q.2.2 = 0 ∨ 1 ≤ q.2.1 ∧ q.2.1 ≤ ((out.length + q.1.length : Nat) : Int) ∧ 4 ≤ q.2.2) :
  Calls Try.prog 74 #[.slice (some ⟨g, 0, none⟩) out.length cap, .agg #[.slice s.a s.n s.c, .int .i64 s.off, .int .i64 s.m]] w fun e w' =>
   e = .returned (.slice (some ⟨g, 0, none⟩) (cpy q.2.1.toNat q.2.2.toNat (out ++ q.1)).length cap) ∧ Ou w' g cap (cpy q.2.1.toNat q.2.2.toNat (out ++ q.1)) ∧ w.grownBy w' (some g) := by
 obtain ⟨i5, hi, hz0, hz1, hz2⟩ := info_parts Try.info5
 obtain ⟨lit, o, m⟩ := q
 obtain ⟨sa, n, sc, so, sm⟩ := s
 have e1 := S.off
 have e2 := S.m
 have hn := S.row.len_eq
 simp only at e1 e2 hn hc hq
 subst e1 e2
 obtain ⟨m, rfl⟩ := Int.eq_ofNat_of_zero_le (by omega : 0 ≤ sm)
 obtain ⟨y, rfl⟩ := Int.eq_ofNat_of_zero_le (by omega : 0 ≤ so)
 simp only [Int.toNat_natCast] at hc ⊢
 rw [hn] at hc hq
 generalize hL : out.length = L at *
 go_enter Try.func74, Try.ntmps74
 go_wp2
 obtain ⟨cur, hcu1, hcu2, hcu3⟩ : ∃ cur, w.heap[g]? = some (.cells cur 5 (0, 0)) ∧ cur.size = cap ∧ cur.toList.take L = bv out := by
  rcases O.2 with ⟨h0, _⟩ | ⟨g', cap', cur, hv, hbg, hg, hnc, hcm', hcs, htake⟩
  ·cases h0
  ·injection hv with h1 h2 h3
   injection h1 with h1
   injection h1 with h1 _
   subst h1 h3
   rw [hL, Nat.mul_one] at htake
   exact ⟨cur, hg, by omega, htake⟩
 have hgl : g < w.heap.size := (Array.getElem?_eq_some_iff.1 hcu1).1
 have hblk : (w.alloc (.cells #[.slice sa n sc, .int .i64 (y : Int), .int .i64 (m : Int)] 116)).drew.heap[g]? = some (.cells cur 5 (0, 0)) := ((World.grownBy_alloc w _ none).block g hgl (by simp)).trans hcu1
 have c0 : (w.alloc (.cells #[.slice sa n sc, .int .i64 (y : Int), .int .i64 (m : Int)] 116)).cell? ⟨w.heap.size, 0, none⟩ = some (.slice sa n sc) := by simp
 have hmin : (bv lit).length = Nat.min n n := by rw [bv_length, hn]; exact (Nat.min_self n).symm
 have hfit : L + (bv lit).length ≤ cur.size := by rw [bv_length, hcu2]; omega
 have hro : ∀ W : World, (Instr.slice 22 (.slice (some ⟨g, 0, none⟩) (L + n) cap) (some (.int .i64 (L : Int))) none none).run Try.prog W = .ok (.slice (some ⟨g, if cap = L then 0 else L, none⟩) n (cap - L)) W := by
  intro W
  have he : Try.prog.elem 22 = 5 := by simp [Program.elem, Try.underlying22]
  have hr := run_slice_l (P := Try.prog) (w := W) (a := some ⟨g, 0, none⟩) (len := L + n) (cap := cap) (t := 22) (by rw [he]; exact Try.underlying22) .i64 (L : Int) (by omega) (by omega)
  rw [he, run_sizeOf W hi] at hr
  rw [hr]
  simp only [Result.andThen, Program.cellsOf, hi, Int.toNat_natCast, Option.map_some, Option.getD_some, hz1, sliced]
  by_cases c : cap = L
  ·rw [if_pos c, if_pos c]; simp
  ·rw [if_neg c, if_neg c]; simp [Addr.add]; intro h; exact h.symm
 have hpos : 0 < (bv lit).length → some (⟨g, if cap = L then 0 else L, none⟩ : Addr) = some ⟨g, L, none⟩ ∧ ∃ ad, sa = some ad ∧ ∀ j v, (bv lit)[j]? = some v → (w.alloc (.cells #[.slice sa n sc, .int .i64 (y : Int), .int .i64 (m : Int)] 116)).drew.cell? (ad.add j) = some v := by
  intro h0
  refine ⟨?_, (S.row.grown (grown_trans (World.grownBy_alloc _ _ none) (grown_drew _))).src h0⟩
  rw [bv_length] at h0
  rw [if_neg (by omega)]
 have HQ : Hid _ := And.intro hblk (And.intro hmin (And.intro hfit hpos))
 clear hmin hfit hblk hpos
 generalize (if cap = L then 0 else L) = o1 at hro HQ
 have HL : Hid _ := hL
 clear hL
 go_region_held3 (fun w' => w'.cell? ⟨w.heap.size, 0, none⟩ = some (.slice sa n sc)) (go_keep) ((refine step_copy8 (by rfl) _ _ 22 22 (by rfl) 5 Try.underlying22 Try.size5 (some ⟨g, o1, none⟩) sa n (cap - L) n sc (by rfl) (by rfl) g L cur 5 HQ.out.1 (bv lit) HQ.out.2.1 HQ.out.2.2.2 HQ.out.2.2.1 (bv_one _) ?_; intro W4 ht hb4; have r0 : W4.cell? ⟨w.heap.size, 0, none⟩ = some (.slice sa n sc) := hb4.out.cell (show _ = _ from c0) (by intro e; have e := Option.some.inj e; simp only at e; omega)))
 have hbx : Box W4 w.heap.size 116 [.slice sa n sc, .int .i64 (y : Int), .int .i64 (m : Int)] := ((Box.new w _ _).kept (grown_drew _) (by simp)).kept hb4.out (by intro e; injection e with e; omega)
 have hgw : w.grownBy W4 (some g) := grown_trans (grown_trans (World.grownBy_alloc _ _ _) (grown_drewR _ _)) hb4.out
 have hlo : (out ++ lit).length = L + n := by rw [List.length_append, HL.out, hn]
 have hO : W4.ownsRow 0 5 1 (.slice (some ⟨g, 0, none⟩) (L + n) cap) (L + n) (bv (out ++ lit)) := by
  refine ⟨by rw [bv_length, hlo]; omega, Or.inr ⟨g, cap, _, rfl, Nat.zero_le _, ht.out, by omega, by unfold maxLen; omega, ?_, ?_⟩⟩
  ·have hcl : cur.toList.length = cur.size := Array.length_toList
   rw [List.size_toArray, length_splice _ _ _ (by rw [bv_length]; omega), hcl]; omega
  ·rw [bv_append, ← hcu3]
   unfold splice
   rw [Nat.mul_one, ← List.append_assoc, List.take_append_of_le_length (by simp [bv_length]; omega), List.take_of_length_le (by simp [bv_length]; omega)]
 have HW : Hid _ := And.intro hbx (And.intro hgw hO)
 have hbl : Byt (out ++ lit) := hb.append S.row.byt
 have HB : Hid _ := And.intro hlo hbl
 obtain ⟨b0, b1, b2⟩ := hbx.c3
 clear hbx hgw hO hbl hlo ht hb4 HQ hro c0 hcu1 hcu2 hcu3 O S
 have hcl : ∀ j, (cpy y j (out ++ lit)).length = L + n + j := fun j => by rw [cpy_len, HB.out.1]
 have HC : Hid _ := hcl
 have HN : Hid _ := hn
 clear hcl hn
 go_wp2_with fail
 go_loopw [0, 23] (fun vo vi wr => ∃ j : Nat, vi = .int .i64 j ∧ vo = .slice (some ⟨g, 0, none⟩) (L + n + j) cap ∧ j ≤ m ∧ Hid (Box wr w.heap.size 116 [.slice sa n sc, .int .i64 y, .int .i64 m] ∧ w.grownBy wr (some g) ∧ wr.ownsRow 0 5 1 (.slice (some ⟨g, 0, none⟩) (L + n + j) cap) (L + n + j) (bv (cpy y j (out ++ lit))))) (fun _ vi _ => m - (intOf vi).toNat)
 case atStart => exact ⟨0, rfl, rfl, Nat.zero_le _, HW⟩
 case round =>
  clear HW b0 b1 b2 r0
  obtain ⟨j, rfl, rfl, hj, HW⟩ := hrel
  obtain ⟨hbx, hgw, hO⟩ := HW.out
  by_cases hjm : j < m
  ·obtain ⟨b0, b1, b2⟩ := hbx.c3
   obtain ⟨d, hd⟩ : ∃ d, L + n + j = d + y := ⟨L + n + j - y, by omega⟩
   have hbo := cpy_byt y j (out ++ lit) HB.out.2
   obtain ⟨a7, c7, e7, R7⟩ := owns_row hO hbo (by unfold maxLen; omega)
   injection e7 with e7 e71 e72
   clear e71 e72
   subst e7
   obtain ⟨b8, o8, e8, hc8⟩ := R7.cells (by omega)
   injection e8 with e8
   injection e8 with e8 e9
   subst e8 e9
   have cz := hc8 d (by omega)
   have hzb := hbo.getD d
   have hsn := cpy_snoc y j (out ++ lit)
   rw [HC.out j, hd, show d + y - y = d by omega] at hsn
   generalize (cpy y j (out ++ lit)).getD d 0 = z at cz hzb hsn
   rw [Nat.zero_add] at cz
   have HSN : Hid _ := hsn
   have hroom : L + n + j + 1 ≤ cap := by omega
   have hown := hO.alloc (.cells #[.int .u8 z] 5)
   have hgl2 : w.heap.size < wr.heap.size := hbx.lt
   rw [hd] at hroom hown ⊢
   have HDY : Hid _ := hd
   clear hsn hd hc8 R7 hO hbo
   go_wp2_with (at_builtin; (refine wpList_append_own_spare _ rfl _ _ 22 rfl 0 5 i5 1 Try.underlying22 hi hz1 g (d + y) cap _ rfl hown ⟨wr.heap.size, 0, none⟩ 1 1 [.int .u8 z] rfl rfl (cell_one _ _ _) (by simp [Value.oneCell']) hroom ?_))
   intro w5 o5 g5
   have hbx5 := (hbx.kept (World.grownBy_alloc _ (.cells #[.int .u8 z] 5) none) (by simp)).kept g5 (by intro e; injection e with e; omega)
   have hgw5 := grown_trans (grown_trans hgw (World.grownBy_alloc _ (.cells #[.int .u8 z] 5) _)) g5
   have o6 : w5.ownsRow 0 5 1 (.slice (some ⟨g, 0, none⟩) (L + n + (j + 1)) cap) (L + n + (j + 1)) (bv (cpy y (j + 1) (out ++ lit))) := by
    rw [HSN.out, bv_append, show L + n + (j + 1) = d + y + 1 by have := HDY.out; omega]; exact o5
   have HW5 : Hid _ := And.intro hbx5 (And.intro hgw5 o6)
   clear hbx5 hgw5 o6 o5 g5 hown hroom cz b0 b1 b2 HSN hbx hgw HW
   go_wp2
   go_roundw
   case rel => exact ⟨j + 1, by go_num, by rw [show L + n + (j + 1) = d + y + 1 by have := HDY.out; omega], by omega, HW5⟩
   case measure => simp [intOf]; omega
  ·obtain rfl : j = m := by omega
   clear hbx hO
   go_wp2
   go_ret
   exact ⟨by rw [HC.out]; rfl, by show wr.ownsRow _ _ _ _ _ _; rw [HC.out]; exact HW.out.2.2, hgw⟩
/-- what is unpacked lies in a variable that is shared -/
structure Sh (w0 : World) (gc g cap : Nat) (out : List Int) (W : World) : Prop where
 grown : w0.grownBy W none
 bx : Box W gc 22 [.slice (some ⟨g, 0, none⟩) out.length cap]
 ou : Ou W g cap out
 byt : Byt out
 ne : gc ≠ g
 lc : w0.heap.size ≤ gc
 lg : w0.heap.size ≤ g
theorem Ou.kept {w w' : World} {g cap : Nat} {out : List Int} {row : Option Nat} (h : Ou w g cap out) (hg : w.grownBy w' row) (hr : some g ≠ row) : Ou w' g cap out := World.ownsRow.kept h hg (Or.inr hr)
theorem Sh.keep {w0 W W' : World} {gc g cap : Nat} {out : List Int} (h : Sh w0 gc g cap out W) (hg : W.grownBy W' none) : Sh w0 gc g cap out W' :=
 ⟨grown_trans h.grown hg, h.bx.kept hg (by simp), h.ou.kept hg (by simp), h.byt, h.ne, h.lc, h.lg⟩

set_option maxHeartbeats 1000000 in
theorem dec1_any (w0 : World) (gc g cap : Nat) (out : List Int) (s : SqV) (q : Sq) (w : World) (H : Sh w0 gc g cap out w) (S : SqOk w s q) (hc : out.length + q.1.length + q.2.2.toNat ≤ cap) (hcm : cap ≤ 1048576)
  (hq : q.2.1 = 0 ∧ q.2.2 = 0 ∨ 1 ≤ q.2.1 ∧ q.2.1 ≤ ((out.length + q.1.length : Nat) : Int) ∧ 4 ≤ q.2.2) :
  Calls Try.prog 73 #[.agg #[.slice s.a s.n s.c, .int .i64 s.off, .int .i64 s.m], .pointer (some ⟨gc, 0, none⟩)] w fun e w' =>
   e = .returned (.tuple #[]) ∧ Sh w0 gc g cap (cpy q.2.1.toNat q.2.2.toNat (out ++ q.1)) w' := by
 have G := World.grownBy_alloc w (.cells #[.slice s.a s.n s.c, .int .i64 s.off, .int .i64 s.m] 116) none
 have hu := unpack_any g cap out s q (w.alloc (.cells #[.slice s.a s.n s.c, .int .i64 s.off, .int .i64 s.m] 116)) (H.keep G).ou H.byt ⟨S.row.grown G, S.off, S.m, S.nil, S.nc, S.cm⟩ hc hcm hq
 have c0 : w.cell? ⟨gc, 0, none⟩ = some (.slice (some ⟨g, 0, none⟩) out.length cap) := H.bx.c 0
 have c1 : (w.alloc (.cells #[.slice s.a s.n s.c, .int .i64 s.off, .int .i64 s.m] 116)).cell? ⟨gc, 0, none⟩ = some (.slice (some ⟨g, 0, none⟩) out.length cap) := (H.keep G).bx.c 0
 have HH : Hid _ := And.intro H S
 clear S
 go_enter Try.func73, Try.ntmps73
 go_wp2_with fail
 refine hu.mono ?_
 rintro e w' ⟨rfl, ho, hg⟩
 have hbx : Box w' gc 22 [.slice (some ⟨g, 0, none⟩) out.length cap] := (HH.out.1.keep G).bx.kept hg (by intro e; injection e with e; exact HH.out.1.ne e)
 have hg0 : w0.grownBy w' none := by
  refine grown_new (H.keep G).grown hg H.lg
 have hs := hbx.set 0 (.slice (some ⟨g, 0, none⟩) (cpy q.2.1.toNat q.2.2.toNat (out ++ q.1)).length cap)
 simp only [List.set_cons_zero] at hs
 have hfin : Sh w0 gc g cap (cpy q.2.1.toNat q.2.2.toNat (out ++ q.1)) (w'.setCell ⟨gc, 0, none⟩ (.slice (some ⟨g, 0, none⟩) (cpy q.2.1.toNat q.2.2.toNat (out ++ q.1)).length cap)) :=
  ⟨grown_new hg0 (grown_set _ _ _ _) H.lc, hs, Ou.kept ho (grown_set _ _ _ _) (by intro e; injection e with e; exact HH.out.1.ne e.symm), cpy_byt _ _ _ (H.byt.append HH.out.2.row.byt), H.ne, H.lc, H.lg⟩
 have d0 : w'.cell? ⟨gc, 0, none⟩ = some (.slice (some ⟨g, 0, none⟩) out.length cap) := hbx.c 0
 have f0 := hbx.f 0
 have HF : Hid _ := hfin
 clear hfin hs hg0 hbx ho hg hu c0 c1 H
 go_wp2
 go_end0
 exact ⟨rfl, HF.out⟩

theorem dec_again {bs : List Int} (hb : Byt bs) {M : Int} {f : Nat} (h0 : (dec bs M f [] [] 0).2.2.1 = 0) (hM : 0 ≤ M) : dec bs ((dec bs M f [] [] 0).1.length : Int) f [] [] 0 = dec bs M f [] [] 0 := by
 rcases dec_bound bs hb _ M (dec_keeps bs M f [] [] 0 hM) f [] [] 0 with h | ⟨q, _, _, h⟩
 ·exact h
 ·have := h h0; omega

def pdec (bs : List Int) (most : Int) : List Int × List Sq × Int × Int := if most < 0 ∨ 1048576 < most then ([], [], 1, 0) else dec bs most (bs.length + 1) [] [] 0
/-- bytes that a call answered -/
structure Byte (w : World) (a : Option Addr) (n c : Nat) (xs : List Int) : Prop where
 row : Row w a n xs
 nil : a = none → c = 0
 nc : n ≤ c
 cm : c ≤ maxLen
def PDec (w : World) (r : List Int × List Sq × Int × Int) (e : Ending) (w' : World) : Prop :=
 ∃ a n c, e = .returned (.tuple #[.slice a n c, .int .i64 r.2.2.1, .int .i64 r.2.2.2]) ∧ Byte w' a n c r.1 ∧ w.grownBy w' none

theorem callFunc_pass (args : Array Value) (W : World) : (callFunc 72 args).run Try.prog W = .ok (.enter 72 args) W := by rfl
theorem callFunc_dec1 (args : Array Value) (W : World) : (callFunc 73 args).run Try.prog W = .ok (.enter 73 args) W := by rfl
theorem tk_pass {w0 : World} {a : Option Addr} {len : Nat} {bs : List Int} (R : Row w0 a len bs) (most : Int) : Tk a len bs most 72 #[] (fun _ _ W => w0.grownBy W none) :=
 ⟨callFunc_pass, fun _ _ W h => R.grown h, fun _ _ W W' h k => grown_trans h k, fun _ _ W s q _ h S _ _ => (pass_any _ s W rfl).mono (fun e W' k => ⟨k.1, grown_trans h k.2⟩)⟩
theorem tk_dec1 {w0 : World} {a : Option Addr} {len : Nat} {bs : List Int} (R : Row w0 a len bs) (gc g cap : Nat) (hcm : cap ≤ 1048576) : Tk a len bs cap 73 #[.pointer (some ⟨gc, 0, none⟩)] (fun out _ W => Sh w0 gc g cap out W) :=
 ⟨callFunc_dec1, fun _ _ W h => R.grown h.grown, fun _ _ W W' h k => h.keep k, fun out _ W s q _ h S h1 h2 => dec1_any w0 gc g cap out s q W h S (by omega) hcm h2⟩

theorem byte_none {w w' : World} {er p : Int} (h : w.grownBy w' none) : PDec w ([], [], er, p) (.returned (.tuple #[.slice none 0 0, .int .i64 er, .int .i64 p])) w' :=
 ⟨none, 0, 0, rfl, ⟨Row.none0 _, fun _ => rfl, Nat.le_refl _, Nat.zero_le _⟩, h⟩
theorem make0 {i5 : TypeInfo} (hi : Try.prog.info? 5 = some i5) (hz0 : i5.zero = some (.int .u8 0)) (hz1 : i5.size = 1) (hz2 : i5.bytes = 1) (n : Nat) (hn : n ≤ 1048576) (W : World) :
  (Instr.makeSlice 22 (.int .i64 0) (.int .i64 (n : Int))).run Try.prog W = .ok (.slice (some ⟨W.heap.size, 0, none⟩) 0 n) (W.alloc (.cells (madeCells #[.int .u8 0] n) 5)) := by
 have hr := run_make (P := Try.prog) W 22 5 i5 (.int .u8 0) Try.underlying22 hi hz0 .i64 .i64 0 n (by omega) (by omega) (by rw [hz2]; omega) (by omega)
 simp only [Int.toNat_natCast, hz1, Nat.mul_one] at hr
 exact hr

set_option maxHeartbeats 1000000 in
theorem pdecode_any (a : Option Addr) (len cap : Nat) (bs : List Int) (most : Int) (w : World) (R : Row w a len bs) (hl : len ≤ 16777216) (hc : len ≤ cap) (hcm : cap ≤ 9223372036854775807) (hmr : -9223372036854775808 ≤ most ∧ most ≤ 9223372036854775807) :
  Calls Try.prog 64 #[.slice a len cap, .int .i64 most] w (PDec w (pdec bs most)) := by
 obtain ⟨i5, hi, hz0, hz1, hz2⟩ := info_parts Try.info5
 have hlb := R.len_eq
 by_cases hr : most < 0 ∨ 1048576 < most
 ·have e : pdec bs most = ([], [], 1, 0) := by unfold pdec; rw [if_pos hr]
  rw [e]
  rcases hr with hr | hr
  ·go_enter Try.func64, Try.ntmps64
   go_wp2
   go_returns
   exact byte_none (World.grownBy_alloc _ _ _)
  ·go_enter Try.func64, Try.ntmps64
   go_wp2
   go_returns
   exact byte_none (World.grownBy_alloc _ _ _)
 ·have e : pdec bs most = dec bs most (len + 1) [] [] 0 := by unfold pdec; rw [if_neg hr, hlb]
  rw [e]
  have G0 := World.grownBy_alloc w (.cells #[.slice none 0 0] 22) none
  have B0 := Box.new w 22 [.slice none 0 0]
  have hw1 := walk_any a len cap bs most 72 #[] _ (tk_pass (R.grown G0) most) (w.alloc (.cells #[.slice none 0 0] 22)) (World.grownBy.refl _ _) hl hc hcm (by omega)
  have hag := fun h0 => dec_again R.byt (M := most) (f := len + 1) h0 (by omega)
  have hkp := dec_keeps bs most (len + 1) [] [] 0 (by omega)
  have hnil := dec_nil bs most (len + 1) [] [] 0
  generalize dec bs most (len + 1) [] [] 0 = r at hw1 hag hkp hnil ⊢
  obtain ⟨ro, rs, re, rp⟩ := r
  simp only at hag hkp hnil
  have HA : Hid _ := And.intro hag hnil
  have hn : ro.length ≤ 1048576 := by omega
  clear hag hkp hnil e
  go_enter Try.func64, Try.ntmps64
  go_wp2_with fail
  refine hw1.mono ?_
  intro e w1 h1
  obtain ⟨rfl, _, _, _, g1⟩ := h1
  have B1 := B0.kept g1 (by simp)
  have c1 : w1.cell? ⟨w.heap.size, 0, none⟩ = some (.slice none 0 0) := B1.c 0
  have f1 := B1.f 0
  have G1 := grown_trans G0 g1
  simp only
  by_cases he : re = 0
  ·subst he
   have hmk := make0 hi hz0 hz1 hz2 ro.length hn
   have hlt1 : w.heap.size < w1.heap.size := B1.lt
   have B2 := (B1.set 0 (.slice (some ⟨w1.heap.size, 0, none⟩) 0 ro.length)).kept (World.grownBy_alloc _ (.cells (madeCells #[.int .u8 0] ro.length) 5) none) (by simp)
   have O2 := World.ownsRow_made (base := 0) (e := 5) (size := 1) (w1.setCell ⟨w.heap.size, 0, none⟩ (.slice (some ⟨w1.heap.size, 0, none⟩) 0 ro.length)) (madeCells #[.int .u8 0] ro.length) ro.length (Nat.zero_le _) (by unfold maxLen; omega) (by rw [size_madeCells, Nat.mul_one])
   rw [size_set] at O2
   have S0 : Sh w w.heap.size w1.heap.size ro.length [] ((w1.setCell ⟨w.heap.size, 0, none⟩ (.slice (some ⟨w1.heap.size, 0, none⟩) 0 ro.length)).alloc (.cells (madeCells #[.int .u8 0] ro.length) 5)) :=
    ⟨grown_trans (grown_new G1 (grown_set _ _ _ _) (Nat.le_refl _)) (World.grownBy_alloc _ _ _), B2, O2, fun x hx => by simp at hx, by omega, Nat.le_refl _, by omega⟩
   have hw2 := walk_any a len cap bs ro.length 73 #[.pointer (some ⟨w.heap.size, 0, none⟩)] _ (tk_dec1 R w.heap.size w1.heap.size ro.length hn) _ S0 hl hc hcm (by omega)
   rw [HA.out.1 rfl] at hw2
   have HS : Hid _ := And.intro G1 hw2
   clear hw2 B2 O2 S0 G1 hw1 B0 B1 G0 g1
   have hmf : ∀ (fn : Fn) (first cap : Array Value) (w : World), (Instr.makeFunc fn first cap).run Try.prog w = .ok (.func fn first cap) w := fun _ _ _ _ => rfl
   go_wp2_with fail
   refine HS.out.2.mono ?_
   intro e w2 h2
   obtain ⟨rfl, h2, _⟩ := h2
   have S2 : Sh w w.heap.size w1.heap.size ro.length ro w2 := h2 rfl
   have c2 : w2.cell? ⟨w.heap.size, 0, none⟩ = some (.slice (some ⟨w1.heap.size, 0, none⟩) ro.length ro.length) := S2.bx.c 0
   have f2 := S2.bx.f 0
   have B3 := S2.bx.set 0 (.slice (some ⟨w1.heap.size, 0, none⟩) ro.length ro.length)
   have cW : (w2.setCell ⟨w.heap.size, 0, none⟩ (.slice (some ⟨w1.heap.size, 0, none⟩) ro.length ro.length)).cell? ⟨w.heap.size, 0, none⟩ = some (.slice (some ⟨w1.heap.size, 0, none⟩) ro.length ro.length) := B3.c 0
   have gW := grown_new S2.grown (grown_set w2 w.heap.size 0 (.slice (some ⟨w1.heap.size, 0, none⟩) ro.length ro.length)) (Nat.le_refl _)
   have O3 := S2.ou.kept (grown_set w2 w.heap.size 0 (.slice (some ⟨w1.heap.size, 0, none⟩) ro.length ro.length)) (by intro e; injection e with e; omega)
   obtain ⟨a7, c7, e7, R7⟩ := owns_row O3 S2.byt (by unfold maxLen; omega)
   injection e7 with e7 e71 e72
   subst e7
   have HF : Hid _ := And.intro gW R7
   clear S2 B3 gW O3 R7 HS h2 e71 e72 hmk hmf
   go_wp2
   try simp only [Exit.inBlock, Exit.then]
   refine bodyPost_ret (by simp [results, Try.results64, go_sem, cW]; try rfl) rfl ?_
   exact ⟨some ⟨w1.heap.size, 0, none⟩, ro.length, ro.length, rfl, ⟨HF.out.2, (fun e => by cases e), Nat.le_refl _, (by unfold maxLen; omega)⟩, HF.out.1⟩
  ·obtain ⟨e1, e2⟩ := HA.out.2 he
   subst e1 e2
   have cW : (w1.setCell ⟨w.heap.size, 0, none⟩ (.slice none 0 0)).cell? ⟨w.heap.size, 0, none⟩ = some (.slice none 0 0) := (B1.set 0 (.slice none 0 0)).c 0
   have gW := grown_new G1 (grown_set w1 w.heap.size 0 (.slice none 0 0)) (Nat.le_refl _)
   clear hw1 B0 B1 G0 g1 HA
   go_wp2
   try simp only [Exit.inBlock, Exit.then]
   refine bodyPost_ret (by simp [results, Try.results64, go_sem, cW]; try rfl) rfl ?_
   exact byte_none gW
end Go.Proofs.Ytkkigpobhagnfaa
