/- The program's meta: how much chunks count for; what is asked of them. The program's meta: going through the chunks that are asked. What a chunk tells lies in new memory. -/
import Derived.Test.YtkkigpobhagnfaaK08
import Derived.Test.YtkkigpobhagnfaaK10
import Derived.Test.YtkkigpobhagnfaaK14
namespace Go.Proofs.Ytkkigpobhagnfaa
open Go.RowKit
set_option maxRecDepth 100000
set_option linter.unusedSimpArgs false
set_option linter.unusedVariables false
/-- how many bytes a chunk counts for -/
def pn (c : Ck) : Nat := c.pl.toNat
theorem pln_pn (c : Ck) : pln c = (pn c : Int) := by unfold pln pn; split <;> omega
def sumN : List Ck → Nat
 | [] => 0
 | c :: r => pn c + sumN r
theorem sumN_append (a b : List Ck) : sumN (a ++ b) = sumN a + sumN b := by
 induction a with
 | nil => simp [sumN]
 | cons c r ih => simp only [List.cons_append, sumN, ih]; omega
theorem sumN_take {l : List Ck} {j : Nat} {c : Ck} (h : l[j]? = some c) : sumN (l.take (j + 1)) = sumN (l.take j) + pn c := by
 rw [List.take_add_one, h, sumN_append]; simp [sumN]
/-- those chunks in which bytes lie, each with its part -/
def askd : List Ck → Nat → Nat → List (Ck × Nat × Nat)
 | [], _, _ => []
 | c :: r, s, t => (if 0 < min t (pn c - min s (pn c)) then [(c, min s (pn c), min s (pn c) + min t (pn c - min s (pn c)))] else []) ++ askd r (s - min s (pn c)) (t - min t (pn c - min s (pn c)))
theorem askd_zero (l : List Ck) (s : Nat) : askd l s 0 = [] := by
 induction l generalizing s with
 | nil => rfl
 | cons c r ih => rw [askd]; simp [ih]
/-- what comes of them -/
def told (bs : List Int) : List (Ck × Nat × Nat) → List Int → List Int × Int
 | [], out => (out, 0)
 | x :: r, out => if (chk bs x.1).2 ≠ 0 then ([], (chk bs x.1).2) else told bs r (out ++ ((chk bs x.1).1.drop x.2.1).take (x.2.2 - x.2.1))
def slc (bs : List Int) (l : List Ck) (at_ n : Int) : List Int × Int :=
 if at_ < 0 ∨ n < 0 ∨ (sumN l : Int) < at_ + n then ([], 9) else told bs (askd l at_.toNat n.toNat) []
set_option maxHeartbeats 2000000 in
theorem preach_any (a : Option Addr) (len cap : Nat) (l : List Ck) (at_ n : Nat) (w : World) (K : Cks w a len l) (hok : ∀ c ∈ l, c.ok) (ha : at_ ≤ 9223372036854775807) (hn : n ≤ 9223372036854775807) :
  Calls Try.prog 34 #[.slice a len cap, .int .i64 (at_ : Int), .int .i64 (n : Int)] w fun e w' => e = .returned (.bool (decide (at_ + n ≤ sumN l))) ∧ w.grownBy w' none := by
 have hle := K.le
 unfold maxLen at hle
 have u1 : IntKind.u64.wrap (at_ : Int) = (at_ : Int) := u64_wrap_in _ (by omega) (by omega)
 have u2 : IntKind.u64.wrap (n : Int) = (n : Int) := u64_wrap_in _ (by omega) (by omega)
 have u3 : IntKind.u64.wrap ((at_ : Int) + (n : Int)) = ((at_ + n : Nat) : Int) := (u64_wrap_in _ (by omega) (by omega)).trans (by omega)
 have hkl := K.len_eq
 go_enter Try.func34, Try.ntmps34
 go_wp2
 go_loopw [7, 9, 17] (fun vl _ vi wr => ∃ j : Nat, vi = .int .i64 (j : Int) ∧ j ≤ len ∧ vl = .int .u64 ((at_ + n - sumN (l.take j) : Nat) : Int) ∧ Hid (w.grownBy wr none)) (fun _ _ vi _ => len - (intOf vi).toNat)
 case atStart => exact ⟨0, rfl, Nat.zero_le _, by simp [sumN], World.grownBy.refl _ _⟩
 case round =>
  obtain ⟨j, rfl, hj, rfl, HG⟩ := hrel
  by_cases h0 : j < len
  ·have h0i : (j : Int) < (len : Int) := by omega
   obtain ⟨b, off, rfl, hc⟩ := K.cells (by omega)
   obtain ⟨c, hcj⟩ : ∃ c, l[j]? = some c := ⟨_, List.getElem?_eq_getElem (by omega)⟩
   obtain ⟨x0, x1, x2, x3, x4⟩ := hc j c hcj
   have y0 := gcell14 x0 HG.out
   have y1 := gcell14 x1 HG.out
   have y2 := gcell14 x2 HG.out
   have y3 := gcell14 x3 HG.out
   have y4 := gcell14 x4 HG.out
   have hst := sumN_take hcj
   have hcok := hok c (List.mem_of_getElem? hcj)
   have hcn := fun W => pcounts14_any c W
   rw [pln_pn] at hcn
   have hpb : pn c ≤ 9223372036854775807 := by unfold pn; have := hcok.2.1; omega
   have u4 : IntKind.u64.wrap (pn c : Int) = (pn c : Int) := u64_wrap_in _ (by omega) (by omega)
   have HS : Hid (at_ + n - sumN (l.take (j + 1)) = at_ + n - sumN (l.take j) - pn c) := by show _ = _; rw [hst]; omega
   have hxb : at_ + n - sumN (l.take j) ≤ 18446744073709551614 := by omega
   unfold Ck.val at hcn
   generalize pn c = q at hcn u4 HS hpb
   generalize at_ + n - sumN (l.take j) = x at HS hxb ⊢
   have GA := World.grownBy_alloc wr (.cells #[.int .i64 c.at_, .int .i64 c.pl, .int .i64 c.st, .bool c.pk, .int .u32 (c.cr : Int)] 39) none
   have HGA : Hid _ := grown_trans HG.out GA
   clear x0 x1 x2 x3 x4 hc hcj hst hcok GA
   go_wp2_with fail
   refine (hcn _).mono ?_
   rintro e w5 ⟨rfl, g5⟩
   have HG5 : Hid _ := grown_trans HGA.out g5
   clear hcn g5 HGA
   by_cases hxq : x ≤ q
   ·have hxi : (x : Int) ≤ (q : Int) := by omega
    have HX : Hid (x - q = 0) := Nat.sub_eq_zero_of_le hxq
    clear hxq
    go_wp2
    go_roundw
    case rel => exact ⟨j + 1, by go_num, by omega, by rw [HS.out, HX.out]; rfl, HG5.out⟩
    case measure => simp [intOf]; omega
   ·have hxi : ¬ (x : Int) ≤ (q : Int) := by omega
    have hxl : (q : Int) < (x : Int) := by omega
    have u5 : IntKind.u64.wrap ((x : Int) - (q : Int)) = ((x - q : Nat) : Int) := (u64_wrap_in _ (by omega) (by omega)).trans (by omega)
    clear hxq
    go_wp2
    go_roundw
    case rel => exact ⟨j + 1, by go_num, by omega, by rw [HS.out], HG5.out⟩
    case measure => simp [intOf]; omega
  ·obtain rfl : j = len := by omega
   have h0i : ¬ (j : Int) < (j : Int) := by omega
   have e1 : l.take j = l := List.take_of_length_le (by omega)
   rw [e1]
   by_cases hs : at_ + n ≤ sumN l
   ·have e2 : at_ + n - sumN l = 0 := by omega
    rw [e2]
    have HE : Hid (decide (at_ + n ≤ sumN l) = true) := decide_eq_true hs
    clear e1 e2 hs
    go_wp2
    go_ret
    rw [HE.out]
    exact ⟨rfl, HG.out⟩
   ·obtain ⟨x, hx⟩ : ∃ x : Nat, at_ + n - sumN l = x + 1 := ⟨at_ + n - sumN l - 1, by omega⟩
    rw [hx]
    have HE : Hid (decide (at_ + n ≤ sumN l) = false) := decide_eq_false hs
    have hne : (((x + 1 : Nat) : Int) == 0) = false := by first | (simp; done) | (simp; omega)
    clear e1 hx hs
    go_wp2
    go_ret
    rw [HE.out]
    exact ⟨by first | rfl | (simp; omega), HG.out⟩
end Go.Proofs.Ytkkigpobhagnfaa
namespace Go.Proofs.Ytkkigpobhagnfaa
open Go.RowKit Go.Shelf
set_option maxRecDepth 100000
attribute [local go_sem] Oper.semAt_some
set_option linter.unusedSimpArgs false
set_option linter.unusedVariables false

theorem asked_any (a : Option Addr) (len cap : Nat) (at_ n : Int) (w : World) :
  Calls Try.prog 35 #[.slice a len cap, .int .i64 at_, .int .i64 n] w fun e w' => e = .returned (.func (.func 53) #[] #[.pointer (some ⟨w.heap.size + 1, 0, none⟩), .pointer (some ⟨w.heap.size + 2, 0, none⟩), .pointer (some ⟨w.heap.size, 0, none⟩)]) ∧
   w' = ((w.alloc (.cells #[.slice a len cap] 32)).alloc (.cells #[.int .i64 at_] 3)).alloc (.cells #[.int .i64 n] 3) := by
 go_enter Try.func35, Try.ntmps35
 go_wp2
 go_ret
 exact ⟨by simp, rfl⟩
def asv (x : Ck × Nat × Nat) : Array Value := #[x.1.val, .agg #[.int .i64 (x.2.1 : Int), .int .i64 (x.2.2 : Int)]]
set_option maxHeartbeats 4000000 in
theorem asked1_in (Kp : World → World → Prop) (q1 q2 q len cap : Nat) (a : Option Addr) (l : List Ck) (s0 t0 : Nat) (hs0 : s0 ≤ 9223372036854775807) (ht0 : t0 ≤ 9223372036854775807) (hok : ∀ c ∈ l, c.ok) (hle : len ≤ 9223372036854775807)
  (hKL : ∀ W W', Kp W W' → Cks W a len l → Cks W' a len l) (d lp B : Nat) (J Jx : List (Ck × Nat × Nat) → World → Prop) (hJ : OwnFrom B J)
  (hY : ∀ d' pre x W0 W1, J pre W0 → W0.grownBy W1 none → (pre ++ [x]) <+: askd l s0 t0 → YieldAt Fence.wide d' Try.prog lp (asv x) W1 fun e W' =>
   (e = .returned (.bool true) ∧ J (pre ++ [x]) W' ∧ Kp W1 W' ∧ KeptO W0.heap.size W1.heap.size W1 W') ∨ (e = .returned (.bool false) ∧ Jx (pre ++ [x]) W'))
  (W : World) (K : Cks W a len l) (c0 : W.cell? ⟨q, 0, none⟩ = some (.slice a len cap)) (c1 : W.cell? ⟨q1, 0, none⟩ = some (.int .i64 (s0 : Int))) (c2 : W.cell? ⟨q2, 0, none⟩ = some (.int .i64 (t0 : Int))) (h0 : J [] W) :
  CallsIn Fence.wide d Try.prog 53 #[.func (.yield lp) #[] #[], .pointer (some ⟨q1, 0, none⟩), .pointer (some ⟨q2, 0, none⟩), .pointer (some ⟨q, 0, none⟩)] W fun e W' => (∃ v, e = .returned v) ∧
   ((∃ ys, ys = askd l s0 t0 ∧ J ys W') ∨ (∃ pre, pre <+: askd l s0 t0 ∧ Jx pre W')) := by
 have e1 : ∀ n, (W.drewN n).cell? ⟨q1, 0, none⟩ = some (.int .i64 (s0 : Int)) := fun n => c1
 have e2 : ∀ n, (W.drewN n).cell? ⟨q2, 0, none⟩ = some (.int .i64 (t0 : Int)) := fun n => c2
 refine callsIn_of_wp Try.func53 rfl trivial ?_ rfl
 simp only [Try.ntmps53, List.size_toArray, List.length_cons, List.length_nil, Nat.reduceAdd, Nat.reduceSub, Array.replicate_succ, Array.replicate_zero, List.push_toArray, List.append_toArray, List.nil_append, List.cons_append]
 gi_wp2
 gi_region
 have K1 : Cks W.drew a len l := K.grown (grown_drew _)
 have hJ0 : J [] W.drew := own_grown14 hJ h0 (grown_drew _)
 have c0' : W.drew.cell? ⟨q, 0, none⟩ = some (.slice a len cap) := c0
 clear e1 e2 c1 c2 K h0 c0
 generalize W.drew = W1 at K1 hJ0 c0' ⊢
 gi_wp2
 gi_loopw [5, 6, 8, 9, 10, 15] (fun vs vt _ _ _ vi wr => ∃ (j s t : Nat) (pre : List (Ck × Nat × Nat)), vi = .int .i64 (j : Int) ∧ vs = .int .i64 (s : Int) ∧ vt = .int .i64 (t : Int) ∧ j ≤ len ∧ s ≤ 9223372036854775807 ∧ t ≤ 9223372036854775807 ∧ Hid (askd l s0 t0 = pre ++ askd (l.drop j) s t) ∧ Hid (Cks wr a len l) ∧ J pre wr) (fun _ _ _ _ _ vi _ => len - (intOf vi).toNat)
 case atStart => exact ⟨0, s0, t0, [], rfl, rfl, rfl, Nat.zero_le _, hs0, ht0, rfl, K1, hJ0⟩
 case round =>
  obtain ⟨j, s, t, pre, rfl, rfl, rfl, hj, hsb, htb, HE, HK, hJp⟩ := hrel
  clear K1 hJ0 c0'
  by_cases hjl : j < len
  ·have h0i : (j : Int) < (len : Int) := by omega
   obtain ⟨b, off, rfl, hc⟩ := HK.out.cells (by omega)
   have hkl := HK.out.len_eq
   obtain ⟨c, hcj⟩ : ∃ c, l[j]? = some c := ⟨_, List.getElem?_eq_getElem (by omega)⟩
   obtain ⟨x0, x1, x2, x3, x4⟩ := hc j c hcj
   have hdr : l.drop j = c :: l.drop (j + 1) := by
    rw [List.drop_eq_getElem_cons (by omega)]
    rw [List.getElem?_eq_getElem (by omega)] at hcj
    injection hcj with hcj
    rw [hcj]
   have hE := HE.out
   rw [hdr, askd] at hE
   have hcok := hok c (List.mem_of_getElem? hcj)
   have hcn := fun W => pcounts14_any c W
   rw [pln_pn] at hcn
   have hpb : pn c ≤ 9223372036854775807 := by unfold pn; have := hcok.2.1; omega
   by_cases ht : t = 0
   ·subst ht
    have HN : Hid (askd l s0 t0 = pre) := by
     show _ = _
     rw [hE, if_neg (by omega), Nat.zero_min, Nat.sub_zero, askd_zero]; simp
    have HJ2 : Hid _ := own_grown14 hJ hJp (World.grownBy_alloc wr (.cells #[.int .i64 c.at_, .int .i64 c.pl, .int .i64 c.st, .bool c.pk, .int .u32 (c.cr : Int)] 39) none)
    clear hE HE hdr hcn hc hcj hcok
    gi_wp2
    refine bodyPost_ret (results_none rfl _ _ _) rfl ?_
    exact ⟨⟨_, rfl⟩, .inl (by first | exact ⟨_, HN.out.symm, HJ2.out⟩ | (rw [HN.out]; exact HJ2.out))⟩
   ·have hti : ((t : Int) == 0) = false := by first | (simp; omega) | (simp [ht])
    have GA := World.grownBy_alloc wr (.cells #[.int .i64 c.at_, .int .i64 c.pl, .int .i64 c.st, .bool c.pk, .int .u32 (c.cr : Int)] 39) none
    have BX := Bx.new wr 39 [.int .i64 c.at_, .int .i64 c.pl, .int .i64 c.st, .bool c.pk, .int .u32 (c.cr : Int)]
    have HA : Hid _ := And.intro BX (And.intro (HK.out.grown GA) (own_grown14 hJ hJp GA))
    have HE2 : Hid _ := hE
    unfold Ck.val at hcn
    have hfr : min s (pn c) ≤ pn c := Nat.min_le_right _ _
    have hfs : min s (pn c) ≤ s := Nat.min_le_left _ _
    clear hE HE hdr hc hcj hcok GA BX HK hJp
    gi_wp2
    refine ⟨trivial, fun h => (by cases h), ?_⟩
    refine CallsIn.mono (callsIn_wide.2 (hcn _)) ?_
    rintro e w1 ⟨rfl, g1⟩
    obtain ⟨f0, f1, f2, f3, f4⟩ := ckx (HA.out.1.kept g1)
    have hE2' := HE2.out
    clear hfr hfs
    generalize hq : pn c = q at hcn hpb HE2 hE2' ⊢
    by_cases hs : s ≤ q
    ·have hsi : (s : Int) ≤ (q : Int) := by omega
     have hm1 : min s q = s := Nat.min_eq_left hs
     gi_wp2
     refine ⟨trivial, fun h => (by cases h), ?_⟩
     refine CallsIn.mono (callsIn_wide.2 (hcn _)) ?_
     rintro e w2 ⟨rfl, g2⟩
     have HK2 : Hid _ := (HA.out.2.1.grown g1).grown g2
     have HJ2 : Hid _ := own_grown14 hJ (own_grown14 hJ HA.out.2.2 g1) g2
     clear f0 f1 f2 f3 f4
     obtain ⟨f0, f1, f2, f3, f4⟩ := ckx ((HA.out.1.kept g1).kept g2)
     clear HA g1 g2 hcn
     by_cases htq : t ≤ q - s
     ·have hti2 : (t : Int) ≤ (q : Int) - (s : Int) := by omega
      have hm2 : min t (q - s) = t := Nat.min_eq_left htq
      have hpos : (0 : Int) < (t : Int) := by omega
      have hE3 : askd l s0 t0 = (pre ++ [(c, s, s + t)]) ++ askd (l.drop (j + 1)) (s - s) (t - t) := by
       rw [HE2.out, hm1, hm2, if_pos (by omega)]
       first | (rw [List.append_assoc]; done) | (simp; done) | skip
      have hpfx : (pre ++ [(c, s, s + t)]) <+: askd l s0 t0 := ⟨_, hE3.symm⟩
      have HN : Hid _ := And.intro hE3 hpfx
      obtain ⟨fn, tmps, assign, body, hy, hR⟩ := hY (d - 1) pre _ w2 w2 HJ2.out (World.grownBy.refl _ _) hpfx
      dsimp only [asv, Ck.val] at hy hR ⊢
      rw [show (((s + t : Nat)) : Int) = (s : Int) + (t : Int) by omega] at hy
      clear hE3 hpfx hE2' HE2 HJ2 hm1 hm2
      gi_wp2
      refine ⟨fun h => (by cases h), hR.mono ?_⟩
      rintro e W3 (⟨rfl, hJ3, hk3, ho3⟩ | ⟨rfl, hJx3⟩)
      ·have HR3 : Hid _ := hKL _ _ hk3 HK2.out
       clear hy hR hk3 ho3 HK2
       gi_wp2
       go_roundw
       case rel => exact ⟨j + 1, (s - s), (t - t), _, by go_num, by first | rfl | (simp; done) | (congr 1; omega), by first | rfl | (simp; done) | (congr 1; omega), by omega, by omega, by omega, HN.out.1, HR3, hJ3⟩
       case measure => simp [intOf]; omega
      ·gi_wp2
       refine bodyPost_ret (results_none rfl _ _ _) rfl ?_
       exact ⟨⟨_, rfl⟩, .inr ⟨_, HN.out.2, hJx3⟩⟩
     ·have hti2 : ¬ (t : Int) ≤ (q : Int) - (s : Int) := by omega
      have hm2 : min t (q - s) = q - s := Nat.min_eq_right (by omega)
      by_cases hqs : s < q
      ·have hpos : (0 : Int) < (q : Int) - (s : Int) := by omega
       have hE3 : askd l s0 t0 = (pre ++ [(c, s, s + (q - s))]) ++ askd (l.drop (j + 1)) (s - s) (t - (q - s)) := by
        rw [HE2.out, hm1, hm2, if_pos (by omega)]
        first | (rw [List.append_assoc]; done) | (simp; done) | skip
       have hpfx : (pre ++ [(c, s, s + (q - s))]) <+: askd l s0 t0 := ⟨_, hE3.symm⟩
       have HN : Hid _ := And.intro hE3 hpfx
       obtain ⟨fn, tmps, assign, body, hy, hR⟩ := hY (d - 1) pre _ w2 w2 HJ2.out (World.grownBy.refl _ _) hpfx
       dsimp only [asv, Ck.val] at hy hR ⊢
       rw [show (((s + (q - s) : Nat)) : Int) = (s : Int) + ((q : Int) - (s : Int)) by omega] at hy
       clear hE3 hpfx hE2' HE2 HJ2 hm1 hm2
       gi_wp2
       refine ⟨fun h => (by cases h), hR.mono ?_⟩
       rintro e W3 (⟨rfl, hJ3, hk3, ho3⟩ | ⟨rfl, hJx3⟩)
       ·have HR3 : Hid _ := hKL _ _ hk3 HK2.out
        clear hy hR hk3 ho3 HK2
        gi_wp2
        go_roundw
        case rel => exact ⟨j + 1, (s - s), (t - (q - s)), _, by go_num, by first | rfl | (simp; done) | (congr 1; omega), by first | rfl | (simp; done) | (congr 1; omega), by omega, by omega, by omega, HN.out.1, HR3, hJ3⟩
        case measure => simp [intOf]; omega
       ·gi_wp2
        refine bodyPost_ret (results_none rfl _ _ _) rfl ?_
        exact ⟨⟨_, rfl⟩, .inr ⟨_, HN.out.2, hJx3⟩⟩
      ·have hpos : ¬ (0 : Int) < (q : Int) - (s : Int) := by omega
       have hE3 : askd l s0 t0 = pre ++ askd (l.drop (j + 1)) (s - s) (t - (q - s)) := by
        rw [HE2.out, hm1, hm2, if_neg (by omega), List.nil_append]
        first | rfl | (simp; done) | skip
       have HN : Hid _ := hE3
       clear hE3 hE2' HE2 hm1 hm2
       gi_wp2
       refine ⟨fun _ h => (by cases h), ?_⟩
       gi_wp2
       go_roundw
       case rel => exact ⟨j + 1, (s - s), (t - (q - s)), pre, by go_num, by first | rfl | (simp; done) | (congr 1; omega), by first | rfl | (simp; done) | (congr 1; omega), by omega, by omega, by omega, HN, HK2, HJ2.out⟩
       case measure => simp [intOf]; omega
    ·have hsi : ¬ (s : Int) ≤ (q : Int) := by omega
     have hm1 : min s q = q := Nat.min_eq_right (by omega)
     gi_wp2
     refine ⟨trivial, fun h => (by cases h), ?_⟩
     refine CallsIn.mono (callsIn_wide.2 (hcn _)) ?_
     rintro e w2 ⟨rfl, g2⟩
     have HK2 : Hid _ := (HA.out.2.1.grown g1).grown g2
     have HJ2 : Hid _ := own_grown14 hJ (own_grown14 hJ HA.out.2.2 g1) g2
     clear f0 f1 f2 f3 f4
     obtain ⟨f0, f1, f2, f3, f4⟩ := ckx ((HA.out.1.kept g1).kept g2)
     clear HA g1 g2 hcn
     have hti2 : ¬ (t : Int) ≤ (q : Int) - (q : Int) := by omega
     have hm2 : min t (q - q) = 0 := by omega
     have hti3 : ¬ (t : Int) ≤ 0 := by omega
     have hE3 : askd l s0 t0 = pre ++ askd (l.drop (j + 1)) (s - q) (t - 0) := by
      rw [HE2.out, hm1, hm2, if_neg (by omega), List.nil_append]
      first | rfl | (simp; done) | skip
     have HN : Hid _ := hE3
     clear hE3 hE2' HE2 hm1 hm2
     gi_wp2
     refine ⟨fun _ h => (by cases h), ?_⟩
     gi_wp2
     go_roundw
     case rel => exact ⟨j + 1, (s - q), (t - 0), pre, by go_num, by first | rfl | (simp; done) | (congr 1; omega), by first | rfl | (simp; done) | (congr 1; omega), by omega, by omega, by omega, HN, HK2, HJ2.out⟩
     case measure => simp [intOf]; omega
  ·obtain rfl : j = len := by omega
   have h0i : ¬ (j : Int) < (j : Int) := by omega
   have HN : Hid (askd l s0 t0 = pre) := by
    show _ = _
    rw [HE.out, List.drop_of_length_le (by have := HK.out.len_eq; omega), askd, List.append_nil]
   clear HE
   gi_wp2
   go_end0
   exact ⟨⟨_, rfl⟩, .inl (by first | exact ⟨_, HN.out.symm, hJp⟩ | (rw [HN.out]; exact hJp))⟩
/-- the iterator's contract -/
theorem asked_seq (Kp : World → World → Prop) (q1 q2 q len cap : Nat) (a : Option Addr) (l : List Ck) (s0 t0 : Nat) (hs0 : s0 ≤ 9223372036854775807) (ht0 : t0 ≤ 9223372036854775807) (hok : ∀ c ∈ l, c.ok) (hle : len ≤ 9223372036854775807)
  (hKL : ∀ W W', Kp W W' → Cks W a len l → Cks W' a len l) (w : World) (K : Cks w a len l) (c0 : w.cell? ⟨q, 0, none⟩ = some (.slice a len cap)) (c1 : w.cell? ⟨q1, 0, none⟩ = some (.int .i64 (s0 : Int))) (c2 : w.cell? ⟨q2, 0, none⟩ = some (.int .i64 (t0 : Int))) :
  SeqB Try.prog 53 #[.pointer (some ⟨q1, 0, none⟩), .pointer (some ⟨q2, 0, none⟩), .pointer (some ⟨q, 0, none⟩)] asv Kp (fun ys => ys = askd l s0 t0) (fun pre => pre <+: askd l s0 t0) w := by
 intro d lp J Jx W hW hJ hJx hY h0
 have hg := below_grown hW
 exact asked1_in Kp q1 q2 q len cap a l s0 t0 hs0 ht0 hok hle hKL d lp _ J Jx hJ hY W (K.grown hg) (gcell14 c0 hg) (gcell14 c1 hg) (gcell14 c2 hg) h0
end Go.Proofs.Ytkkigpobhagnfaa
namespace Go.Proofs.Ytkkigpobhagnfaa
open Go.RowKit
set_option maxRecDepth 100000
set_option linter.unusedSimpArgs false
set_option linter.unusedVariables false
/-- what a chunk tells lies in new memory -/
def UPostN (w : World) (r : List Int × Int) (e : Ending) (w' : World) : Prop := ∃ a n c, e = .returned (.tuple #[.slice a n c, .int .i64 r.2]) ∧ Byte w' a n c r.1 ∧ w.grownBy w' none ∧ ∀ b o, a = some ⟨b, o, none⟩ → w.heap.size ≤ b
theorem upostN_none {w w' : World} {er : Int} (h : w.grownBy w' none) : UPostN w ([], er) (.returned (.tuple #[.slice none 0 0, .int .i64 er])) w' := ⟨none, 0, 0, rfl, ⟨Row.none0 _, fun _ => rfl, Nat.le_refl _, Nat.zero_le _⟩, h, fun b o e => by cases e⟩
set_option maxHeartbeats 2000000 in
theorem punpackN14_any (t a : Option Addr) (len cap : Nat) (bs : List Int) (c : Ck) (w : World) (T : CrcAt w t) (B : Byte w a len cap bs) (hl : len ≤ 16777216) (hc : c.ok) :
  Calls Try.prog 31 #[.pointer t, .slice a len cap, c.val] w (UPostN w (chk bs c)) := by
 have hlb := B.row.len_eq
 have hR := fun w => pright14_any c w
 have hW := fun w hr => pwithin14_any a len cap c w hl hc hr
 have hE := fun w => pend14_any c w
 have hlen : bs.length = len := hlb
 have hsl := stoC_len (bs := bs) (c := c)
 have hrg := rgt_iff (c := c)
 unfold chk
 rw [hlb] at hsl ⊢
 have hst : stoC bs c = (bs.drop (c.at_.toNat + 8)).take c.st.toNat := rfl
 have hwt : wthn len c = decide (c.at_ ≤ (len : Int) - 8 - c.st) := rfl
 obtain ⟨at_, pl, st, pk, cr⟩ := c
 unfold Ck.val at hR hW hE ⊢
 obtain ⟨⟨ha0, ha1⟩, ⟨hp0, hp1⟩, ⟨hs0, hs1⟩, hcr⟩ := hc
 simp only at ha0 ha1 hp0 hp1 hs0 hs1 hcr hR hrg hst hsl hwt hE ⊢
 have GA := World.grownBy_alloc w (.cells #[.int .i64 at_, .int .i64 pl, .int .i64 st, .bool pk, .int .u32 (cr : Int)] 39) none
 have BX := bxa w 39 [.int .i64 at_, .int .i64 pl, .int .i64 st, .bool pk, .int .u32 (cr : Int)]
 by_cases hr : rgt ⟨at_, pl, st, pk, cr⟩ = false
 ·rw [if_pos hr]
  rw [hr] at hR
  clear hrg hsl hst hwt hW hE
  go_enter Try.func31, Try.ntmps31
  go_wp2_with fail
  refine (hR _).mono ?_
  rintro e w1 ⟨rfl, g1⟩
  go_wp2_with fail
  go_returns
  exact upostN_none (grown_trans GA g1)
 ·rw [if_neg hr]
  rw [Bool.not_eq_false] at hr
  obtain ⟨h0, ⟨h1, h2⟩, ⟨h3, h4⟩, h5⟩ := hrg.1 hr
  rw [hr] at hR
  have hW1 := fun w => hW w hr
  clear hW
  by_cases hw : wthn len ⟨at_, pl, st, pk, cr⟩ = false
  ·rw [if_pos hw]
   rw [hw] at hW1
   clear hrg hsl hst hwt hw hE
   go_enter Try.func31, Try.ntmps31
   go_wp2_with fail
   refine (hR _).mono ?_
   rintro e w1 ⟨rfl, g1⟩
   obtain ⟨c0, c1, c2, c3, c4⟩ := ckx (BX.kept g1)
   have HG : Hid _ := grown_trans GA g1
   clear GA BX hR h1 h2 h5
   go_wp2_with fail
   refine (hW1 _).mono ?_
   rintro e w2 ⟨rfl, g2⟩
   go_wp2_with fail
   go_returns
   exact upostN_none (grown_trans HG.out g2)
  ·rw [if_neg hw]
   rw [Bool.not_eq_false] at hw
   rw [hw] at hW1
   have hln := hsl hr hw
   have hw2 : at_ ≤ (len : Int) - 8 - st := by rw [hwt] at hw; exact of_decide_eq_true hw
   obtain ⟨p, rfl⟩ := Int.eq_ofNat_of_zero_le h0
   obtain ⟨k, rfl⟩ : ∃ k : Nat, st = (k : Int) := ⟨st.toNat, by omega⟩
   obtain ⟨b, off, rfl, _⟩ := B.row.cells (by omega)
   have BS := B.part14 (p + 8) k (by omega)
   rw [Int.toNat_natCast, Int.toNat_natCast] at hst
   rw [Int.toNat_natCast] at hln
   rw [← hst] at BS
   have hE1 := fun w => hE w h0 (by omega) (by omega) (by omega)
   generalize stoC bs ⟨(p : Int), pl, (k : Int), pk, cr⟩ = sb at BS hln ⊢
   have hU := fun W (G : w.grownBy W none) => unpack6_any _ k _ sb pk pl W (BS.grown G) (by omega) ⟨hp0, hp1⟩
   have hC := fun W (G : w.grownBy W none) => T W G _ k (cap - (p + 8)) sb (BS.row.grown G)
   have hnc := B.nc
   have hcm := B.cm
   clear hrg hsl hst hw BS hr B T hE hwt
   obtain ⟨A, hA⟩ : ∃ A : List Int × Int, A = (if crc ent 0 sb ≠ cr then (([] : List Int), (140 : Int)) else if (unpk sb pk pl).2 ≠ 0 ∨ ((unpk sb pk pl).1.length : Int) ≠ pl then ([], 6) else ((unpk sb pk pl).1, 0)) := ⟨_, rfl⟩
   rw [← hA]
   have HA : Hid _ := hA
   clear hA
   go_enter Try.func31, Try.ntmps31
   go_wp2_with fail
   refine (hR _).mono ?_
   rintro e w1 ⟨rfl, g1⟩
   have BX1 := BX.kept g1
   have HG : Hid _ := grown_trans GA g1
   obtain ⟨c0, c1, c2, c3, c4⟩ := ckx BX1
   clear GA BX g1 hR
   go_wp2_with fail
   refine (hW1 _).mono ?_
   rintro e w2 ⟨rfl, g2⟩
   have BX2 := BX1.kept g2
   have HG2 : Hid _ := grown_trans HG.out g2
   generalize w.heap.size = q at BX2 ⊢
   obtain ⟨k0, k1, k2, k3, k4⟩ := ckx BX2
   have HX : Hid _ := BX2
   clear BX1 BX2 g2 hW1 c0 c1 c2 c3 c4 HG
   have HE : Hid _ := hE1
   have HC : Hid _ := hC
   have HU : Hid _ := hU
   clear hE1 hC hU
   go_wp2_with fail
   have q1 : (p : Int) + 8 ≤ (p : Int) + 8 + (k : Int) := by omega
   have q2 : (p : Int) + 8 + (k : Int) ≤ (cap : Int) := by omega
   have q3 : (0 : Int) ≤ (p : Int) + 8 := by omega
   have q4 : (0 : Int) ≤ (p : Int) + 8 + (k : Int) := by omega
   have q5 : ¬ (cap : Int) < (p : Int) + 8 + (k : Int) := by omega
   have q6 : ¬ (p : Int) + 8 + (k : Int) < (p : Int) + 8 := by omega
   have q7 : IntKind.i64.wrap ((p : Int) + 8) = (p : Int) + 8 := by rw [IntKind.wrap_i64]; omega
   have HD : Hid (w.grownBy w2.drew none) := grown_trans HG2.out (grown_drew _)
   go_region_held3 (fun w' => w'.cell? ⟨q, 0, none⟩ = some (.int .i64 (p : Int)) ∧ w'.cell? ⟨q, 1, none⟩ = some (.int .i64 pl) ∧ w'.cell? ⟨q, 2, none⟩ = some (.int .i64 (k : Int)) ∧ w'.cell? ⟨q, 3, none⟩ = some (.bool pk) ∧ w'.cell? ⟨q, 4, none⟩ = some (.int .u32 (cr : Int)) ∧ Hid (w.grownBy w' none)) (first | (refine ⟨?_, ?_, ?_, ?_, ?_, ?_⟩ <;> assumption) | go_keep) (first | (go_at_call 46; (with_reducible refine (HE.out _).mono ?_); rintro e W2 ⟨rfl, gE⟩; have j0 : W2.cell? ⟨q, 0, none⟩ = some (.int .i64 (p : Int)) := gcell14 (by assumption) gE; have j1 : W2.cell? ⟨q, 1, none⟩ = some (.int .i64 pl) := gcell14 (by assumption) gE; have j2 : W2.cell? ⟨q, 2, none⟩ = some (.int .i64 (k : Int)) := gcell14 (by assumption) gE; have j3 : W2.cell? ⟨q, 3, none⟩ = some (.bool pk) := gcell14 (by assumption) gE; have j4 : W2.cell? ⟨q, 4, none⟩ = some (.int .u32 (cr : Int)) := gcell14 (by assumption) gE; have jg : Hid (w.grownBy W2 none) := grown_trans (Hid.out (by assumption)) gE; clear gE) | fail)
   have z1 : ((p : Int) + 8).toNat = p + 8 := by omega
   have z2 : ((p : Int) + 8 + (k : Int)).toNat - (p + 8) = k := by omega
   have z3 : ¬ cap = p + 8 := by omega
   rw [z1, z2, if_neg z3]
   clear z1 z2 z3 q1 q2 q3 q4 q5 q6 q7 HD HG2 k0 k1 k2 k3 k4 HE
   have HD : Hid (w.grownBy W2.drew none) := grown_trans jg.out (grown_drew _)
   rename_i hnext hHeld
   clear hHeld
   refine hnext _ _ ?_
   clear hnext
   go_wp2_with fail
   go_region_held3 (fun w' => w'.cell? ⟨q, 0, none⟩ = some (.int .i64 (p : Int)) ∧ w'.cell? ⟨q, 1, none⟩ = some (.int .i64 pl) ∧ w'.cell? ⟨q, 2, none⟩ = some (.int .i64 (k : Int)) ∧ w'.cell? ⟨q, 3, none⟩ = some (.bool pk) ∧ w'.cell? ⟨q, 4, none⟩ = some (.int .u32 (cr : Int)) ∧ Hid (w.grownBy w' none)) (first | (refine ⟨?_, ?_, ?_, ?_, ?_, ?_⟩ <;> assumption) | go_keep) (first | (go_at_call 26; (with_reducible refine (HC.out _ (Hid.out (by assumption))).mono ?_); rintro e W3 ⟨rfl, gE⟩; have m0 : W3.cell? ⟨q, 0, none⟩ = some (.int .i64 (p : Int)) := gcell14 (by assumption) gE; have m1 : W3.cell? ⟨q, 1, none⟩ = some (.int .i64 pl) := gcell14 (by assumption) gE; have m2 : W3.cell? ⟨q, 2, none⟩ = some (.int .i64 (k : Int)) := gcell14 (by assumption) gE; have m3 : W3.cell? ⟨q, 3, none⟩ = some (.bool pk) := gcell14 (by assumption) gE; have m4 : W3.cell? ⟨q, 4, none⟩ = some (.int .u32 (cr : Int)) := gcell14 (by assumption) gE; have mg : Hid (w.grownBy W3 none) := grown_trans (Hid.out (by assumption)) gE; clear gE) | fail)
   rename_i hnext hHeld
   clear hHeld j0 j1 j2 j3 j4 jg HD HC
   by_cases hs : crc ent 0 sb = cr
   ·have hsb : ((crc ent 0 sb : Nat) : Int) = (cr : Int) := by rw [hs]
    have hsb2 : (((crc ent 0 sb : Nat) : Int) != (cr : Int)) = false := by rw [hsb]; simp
    rw [hsb2]
    have hA := HA.out
    rw [if_neg (fun h => h hs)] at hA
    have hU1 := HU.out W3 mg.out
    have hBX : Hid _ := And.intro m0 (And.intro m1 (And.intro m2 (And.intro m3 m4)))
    clear HU HA hs hsb hsb2
    generalize unpk sb pk pl = r at hA hU1
    obtain ⟨rb, re⟩ := r
    simp only at hA hU1
    have HA : Hid _ := hA
    clear hA
    refine hnext _ _ ?_
    clear hnext
    go_wp2_with fail
    refine hU1.mono ?_
    rintro e W4 ⟨a4, n4, d4, rfl, B4, g4, o4⟩
    have hnw : ∀ b o, a4 = some ⟨b, o, none⟩ → w.heap.size ≤ b := fun b o e => Nat.le_trans mg.out.size (owns_new14 o4 b o e)
    clear o4
    have u1 := gcell14 m1 g4
    have hn4 := B4.row.len_eq
    have HB : Hid _ := And.intro B4 (And.intro (grown_trans mg.out g4) hnw)
    clear hnw B4 g4 hU1 hBX m0 m1 m2 m3 m4 mg
    by_cases he : re = 0
    ·subst he
     by_cases hn : (n4 : Int) = pl
     ·have hA := HA.out
      rw [if_neg (by simp [hn4, hn])] at hA
      subst hA
      clear HA
      go_wp2_with fail
      go_returns
      exact ⟨_, _, _, rfl, HB.out.1, HB.out.2.1, HB.out.2.2⟩
     ·have hA := HA.out
      rw [if_pos (Or.inr (by rw [hn4]; exact hn))] at hA
      subst hA
      clear HA
      go_wp2_with fail
      go_returns
      exact upostN_none HB.out.2.1
    ·have hA := HA.out
     rw [if_pos (Or.inl he)] at hA
     subst hA
     clear HA
     go_wp2_with fail
     go_returns
     exact upostN_none HB.out.2.1
   ·have hsb : ((crc ent 0 sb : Nat) : Int) ≠ (cr : Int) := fun e => hs (by omega)
    have hsb2 : (((crc ent 0 sb : Nat) : Int) != (cr : Int)) = true := by simpa using hsb
    rw [hsb2]
    have hA := HA.out
    rw [if_pos hs] at hA
    subst hA
    clear HA HU hsb hsb2 hs m0 m1 m2 m3 m4
    refine hnext _ _ ?_
    clear hnext
    go_wp2_with fail
    go_returns
    exact upostN_none mg.out
end Go.Proofs.Ytkkigpobhagnfaa
