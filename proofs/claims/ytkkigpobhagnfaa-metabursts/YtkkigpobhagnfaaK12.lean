/- The program's meta: going through the chunks of a stream. The library's pieces of a slice of bytes. The program's meta: pieces one behind the other. -/
import Derived.BigRegionIn
import Derived.Test.YtkkigpobhagnfaaK04
import Derived.Test.YtkkigpobhagnfaaK05
import Derived.Test.YtkkigpobhagnfaaK10
import Derived.Test.YtkkigpobhagnfaaK11
namespace Go.Proofs.Ytkkigpobhagnfaa
open Go.RowKit Go.Shelf
set_option maxRecDepth 100000
attribute [local go_sem] Oper.semAt_some
set_option linter.unusedSimpArgs false
set_option linter.unusedVariables false

/-- how many pieces so many bytes make -/
def cnt (sz : Nat) : Nat := (sz + 8191) / 8192
theorem cnt_zero : cnt 0 = 0 := rfl
theorem cnt_pos {sz : Nat} (h : 0 < sz) : cnt sz = cnt (sz - min sz 8192) + 1 := by unfold cnt; omega
/-- what comes of going through a stream's chunks -/
def lyg (bs : List Int) : Nat → Nat → Nat → List (Ck × Bool)
 | 0, p, _ => if p < bs.length then [(ck0, false)] else []
 | k + 1, p, sz => if (cAt bs p ((min sz 8192 : Nat) : Int)).2 = true then cAt bs p ((min sz 8192 : Nat) : Int) :: lyg bs k (p + 8 + (cAt bs p ((min sz 8192 : Nat) : Int)).1.st.toNat) (sz - min sz 8192) else [cAt bs p ((min sz 8192 : Nat) : Int)]
theorem cAt_true {bs : List Int} {p : Nat} {want : Int} (h : (cAt bs p want).2 = true) : (cAt bs p want).1 = hdC bs p ∧ (hdC bs p).pl = want ∧ rgt (hdC bs p) = true ∧ (hdC bs p).at_ = p ∧ 1 ≤ (hdC bs p).st ∧ (hdC bs p).st ≤ 8192 ∧ p + 8 + (hdC bs p).st.toNat ≤ bs.length := by
 unfold cAt at h ⊢
 by_cases h1 : bs.length < p + 8
 ·rw [if_pos h1] at h; cases h
 ·rw [if_neg h1] at h ⊢
  by_cases h2 : (hdC bs p).pl = want ∧ rgt (hdC bs p) = true ∧ wthn bs.length (hdC bs p) = true
  ·rw [if_pos h2]
   obtain ⟨h3, h4, h5⟩ := h2
   have h6 := rgt_iff.1 h4
   unfold wthn at h5
   rw [decide_eq_true_eq] at h5
   have h7 : (hdC bs p).at_ = (p : Int) := rfl
   exact ⟨rfl, h3, h4, rfl, h6.2.2.1.1, h6.2.2.1.2, by omega⟩
  ·rw [if_neg h2] at h; cases h
theorem cAt_false {bs : List Int} {p : Nat} {want : Int} (h : (cAt bs p want).2 = false) : cAt bs p want = (ck0, false) := by
 unfold cAt at h ⊢
 by_cases h1 : bs.length < p + 8
 ·rw [if_pos h1]
 ·rw [if_neg h1] at h ⊢
  by_cases h2 : (hdC bs p).pl = want ∧ rgt (hdC bs p) = true ∧ wthn bs.length (hdC bs p) = true
  ·rw [if_pos h2] at h; cases h
  ·rw [if_neg h2]
/-- the bytes that are gone through -/
structure Ly (q : Nat) (a : Option Addr) (len cap : Nat) (bs : List Int) (W : World) : Prop where
 box : W.cell? ⟨q, 0, none⟩ = some (.slice a len cap)
 byt : Byte W a len cap bs
theorem Ly.grown {q len cap : Nat} {a : Option Addr} {bs : List Int} {W W' : World} (h : Ly q a len cap bs W) (g : W.grownBy W' none) : Ly q a len cap bs W' := ⟨gcell14 h.box g, h.byt.grown g⟩
theorem Bx.keptO {W W' : World} {g lo m : Nat} {T : TypeId} {cs : List Value} (h : Bx W g T cs) (k : KeptO lo m W W') (h1 : lo ≤ g) (h2 : g < m) : Bx W' g T cs := ⟨(k g h1 h2).trans h.blk⟩
theorem own_grown14 {β : Type} {B : Nat} {I : β → World → Prop} (hI : OwnFrom B I) {s : β} {W W' : World} (h : I s W) (g : W.grownBy W' none) : I s W' := hI s W W' none h g (fun r e => by cases e)
set_option maxHeartbeats 4000000 in
theorem lying1_in (Kp : World → World → Prop) (q1 q2 q len cap : Nat) (a : Option Addr) (bs : List Int) (at0 sz0 : Nat) (hl : len ≤ 16777216) (ha0 : at0 ≤ len) (hs0 : sz0 ≤ 16777216)
  (hKL : ∀ W W', Kp W W' → Ly q a len cap bs W → Ly q a len cap bs W') (d l B : Nat) (J Jx : List (Ck × Bool) → World → Prop) (hJ : OwnFrom B J) (hJx : OwnFrom B Jx)
  (hY : ∀ d' pre x W0 W1, J pre W0 → W0.grownBy W1 none → (pre ++ [x]) <+: lyg bs (cnt sz0) at0 sz0 → YieldAt Fence.wide d' Try.prog l #[x.1.val, .bool x.2] W1 fun e W' =>
   (e = .returned (.bool true) ∧ J (pre ++ [x]) W' ∧ Kp W1 W' ∧ KeptO W0.heap.size W1.heap.size W1 W') ∨ (e = .returned (.bool false) ∧ Jx (pre ++ [x]) W'))
  (W : World) (HL : Ly q a len cap bs W) (c1 : W.cell? ⟨q1, 0, none⟩ = some (.int .i64 (at0 : Int))) (c2 : W.cell? ⟨q2, 0, none⟩ = some (.int .i64 (sz0 : Int))) (h0 : J [] W) :
  CallsIn Fence.wide d Try.prog 44 #[.func (.yield l) #[] #[], .pointer (some ⟨q1, 0, none⟩), .pointer (some ⟨q2, 0, none⟩), .pointer (some ⟨q, 0, none⟩)] W fun e W' => (∃ v, e = .returned v) ∧
   ((∃ ys, ys = lyg bs (cnt sz0) at0 sz0 ∧ J ys W') ∨ (∃ pre, pre <+: lyg bs (cnt sz0) at0 sz0 ∧ Jx pre W')) := by
 have hC := fun W (H : Ly q a len cap bs W) p want hp => pchunkAt_any a len cap bs p want W H.byt hl hp
 have hlb : bs.length = len := HL.byt.row.len_eq
 have e1 : ∀ n, (W.drewN n).cell? ⟨q1, 0, none⟩ = some (.int .i64 (at0 : Int)) := fun n => c1
 have e2 : ∀ n, (W.drewN n).cell? ⟨q2, 0, none⟩ = some (.int .i64 (sz0 : Int)) := fun n => c2
 refine callsIn_of_wp Try.func44 rfl trivial ?_ rfl
 simp only [Try.ntmps44, List.size_toArray, List.length_cons, List.length_nil, Nat.reduceAdd, Nat.reduceSub, Array.replicate_succ, Array.replicate_zero, List.push_toArray, List.append_toArray, List.nil_append, List.cons_append]
 gi_wp2
 gi_region
 have HL1 : Ly q a len cap bs W.drew := ⟨HL.box, HL.byt.grown (grown_drew _)⟩
 have hJ0 : J [] W.drew := own_grown14 hJ h0 (grown_drew _)
 clear e1 e2 c1 c2 HL h0
 generalize W.drew = W1 at HL1 hJ0 ⊢
 gi_wp2
 gi_loopw [5, 6] (fun va vl wr => ∃ (p sz : Nat) (pre : List (Ck × Bool)), va = .int .i64 (p : Int) ∧ vl = .int .i64 (sz : Int) ∧ p ≤ len ∧ sz ≤ 16777216 ∧ Hid (lyg bs (cnt sz0) at0 sz0 = pre ++ lyg bs (cnt sz) p sz) ∧ Hid (Ly q a len cap bs wr) ∧ J pre wr) (fun _ vl _ => (intOf vl).toNat)
 case atStart => exact ⟨at0, sz0, [], rfl, rfl, ha0, hs0, rfl, HL1, hJ0⟩
 case round =>
  obtain ⟨p, sz, pre, rfl, rfl, hp, hsz, HE, HR, hJp⟩ := hrel
  clear HL1 hJ0
  by_cases h0 : 0 < sz
  ·have h0i : (0 : Int) < (sz : Int) := by omega
   by_cases h8 : sz ≤ 8192
   ·have hmin : min sz 8192 = sz := Nat.min_eq_left h8
    have hc1 := hC wr HR.out p (sz : Int) hp
    have hcr := cAt_true (bs := bs) (p := p) (want := (sz : Int))
    have hcf := cAt_false (bs := bs) (p := p) (want := (sz : Int))
    have hE := HE.out
    rw [cnt_pos h0, lyg, hmin] at hE
    have hcb := HR.out.box
    generalize cAt bs p (sz : Int) = r at hc1 hcr hcf hE
    obtain ⟨c, ok⟩ := r
    simp only at hcr hcf hE
    cases ok with
    | true =>
     obtain ⟨e0, e1, e2, e3, e4, e5, e6⟩ := hcr rfl
     rw [← e0] at e1 e2 e3 e4 e5 e6
     have hcok : c.ok := by rw [e0]; exact hdC_ok HR.out.byt.row.byt p (by omega)
     rw [if_pos rfl] at hE
     rw [hlb] at e6
     have hpfx : (pre ++ [(c, true)]) <+: lyg bs (cnt sz0) at0 sz0 := ⟨_, by rw [hE, List.append_assoc]; rfl⟩
     obtain ⟨at_, pl, st, pk, cr⟩ := c
     simp only at e1 e3 e4 e5 e6 hE
     subst e1 e3
     obtain ⟨k, rfl⟩ : ∃ k : Nat, st = (k : Int) := ⟨st.toNat, by omega⟩
     rw [Int.toNat_natCast] at e6 hE
     have HN : Hid _ := And.intro hE hpfx
     clear hcr hcf hE hpfx e0 e2
     gi_wp2
     refine ⟨trivial, fun h => (by cases h), ?_⟩
     refine CallsIn.mono (callsIn_wide.2 hc1) ?_
     rintro e w1 ⟨rfl, g1⟩
     have hJ1 := own_grown14 hJ hJp g1
     have HR1 : Hid _ := (HR.out.grown g1).grown (World.grownBy_alloc w1 (.cells #[.int .i64 (p : Int), .int .i64 (sz : Int), .int .i64 (k : Int), .bool pk, .int .u32 (cr : Int)] 39) none)
     obtain ⟨fn, tmps, assign, body, hy, hR⟩ := hY (d - 1) pre _ w1 _ hJ1 (World.grownBy_alloc w1 (.cells #[.int .i64 (p : Int), .int .i64 (sz : Int), .int .i64 (k : Int), .bool pk, .int .u32 (cr : Int)] 39) none) HN.out.2
     dsimp only [Ck.val] at hy hR ⊢
     have HB : Hid _ := Bx.new w1 39 [.int .i64 (p : Int), .int .i64 (sz : Int), .int .i64 (k : Int), .bool pk, .int .u32 (cr : Int)]
     have hpe := fun W => pend14_any ⟨(p : Int), (sz : Int), (k : Int), pk, cr⟩ W (by simp only; omega) (by simp only; omega) (by simp only; omega) (by simp only; omega)
     dsimp only [Ck.val] at hpe
     clear hc1 HR g1 hJ1 hJp hcb
     gi_wp2
     refine ⟨fun h => (by cases h), hR.mono ?_⟩
     rintro e W3 (⟨rfl, hJ3, hk3, ho3⟩ | ⟨rfl, hJx3⟩)
     ·have HR3 : Hid _ := hKL _ _ hk3 HR1.out
      obtain ⟨f0, f1, f2, f3, f4⟩ := ckx (HB.out.keptO ho3 (Nat.le_refl _) (by simp))
      clear hy hR hk3 ho3 HR1 HB
      gi_wp2
      refine ⟨trivial, fun h => (by cases h), ?_⟩
      refine CallsIn.mono (callsIn_wide.2 (hpe _)) ?_
      rintro e w4 ⟨rfl, g4⟩
      have f1' := gcell14 f1 g4
      have HJ4 : Hid _ := own_grown14 hJ hJ3 g4
      have HR4 : Hid _ := HR3.out.grown g4
      clear f0 f1 f2 f3 f4 g4 HR3 hJ3 hpe
      gi_wp2
      go_roundw
      case rel => exact ⟨p + 8 + k, sz - sz, pre ++ [(⟨(p : Int), (sz : Int), (k : Int), pk, cr⟩, true)], by go_num, by simp, by omega, by omega, by rw [HN.out.1, List.append_assoc]; rfl, HR4, HJ4.out⟩
      case measure => simp [intOf]; omega
     ·gi_wp2
      refine bodyPost_ret (results_none rfl _ _ _) rfl ?_
      exact ⟨⟨_, rfl⟩, .inr ⟨_, HN.out.2, hJx3⟩⟩
    | false =>
     have hr := hcf rfl
     injection hr with hr _
     subst hr
     rw [if_neg (by simp)] at hE
     have hpfx : (pre ++ [(ck0, false)]) <+: lyg bs (cnt sz0) at0 sz0 := ⟨[], by rw [hE, List.append_nil]⟩
     have HN : Hid _ := And.intro hE hpfx
     clear hcr hcf hE hpfx
     gi_wp2
     refine ⟨trivial, fun h => (by cases h), ?_⟩
     refine CallsIn.mono (callsIn_wide.2 hc1) ?_
     rintro e w1 ⟨rfl, g1⟩
     have hJ1 := own_grown14 hJ hJp g1
     obtain ⟨fn, tmps, assign, body, hy, hR⟩ := hY (d - 1) pre _ w1 _ hJ1 (World.grownBy_alloc w1 (.cells #[.int .i64 0, .int .i64 0, .int .i64 0, .bool false, .int .u32 0] 39) none) HN.out.2
     dsimp only [Ck.val, ck0] at hy hR ⊢
     rw [show ((0 : Nat) : Int) = 0 from rfl] at hy
     clear hc1 HR g1 hJ1 hJp hcb
     gi_wp2
     refine ⟨fun h => (by cases h), hR.mono ?_⟩
     rintro e W3 (⟨rfl, hJ3, hk3, ho3⟩ | ⟨rfl, hJx3⟩)
     ·clear hy hR hk3 ho3
      gi_wp2
      refine bodyPost_ret (results_none rfl _ _ _) rfl ?_
      exact ⟨⟨_, rfl⟩, .inl ⟨_, HN.out.1.symm, hJ3⟩⟩
     ·gi_wp2
      refine bodyPost_ret (results_none rfl _ _ _) rfl ?_
      exact ⟨⟨_, rfl⟩, .inr ⟨_, HN.out.2, hJx3⟩⟩
   ·have hmin : min sz 8192 = 8192 := Nat.min_eq_right (by omega)
    have hcast : ((8192 : Nat) : Int) = 8192 := rfl
    have hc1 := hC wr HR.out p 8192 hp
    have hcr := cAt_true (bs := bs) (p := p) (want := 8192)
    have hcf := cAt_false (bs := bs) (p := p) (want := 8192)
    have hE := HE.out
    rw [cnt_pos h0, lyg, hmin, hcast] at hE
    have hcb := HR.out.box
    generalize cAt bs p 8192 = r at hc1 hcr hcf hE
    obtain ⟨c, ok⟩ := r
    simp only at hcr hcf hE
    cases ok with
    | true =>
     obtain ⟨e0, e1, e2, e3, e4, e5, e6⟩ := hcr rfl
     rw [← e0] at e1 e2 e3 e4 e5 e6
     have hcok : c.ok := by rw [e0]; exact hdC_ok HR.out.byt.row.byt p (by omega)
     rw [if_pos rfl] at hE
     rw [hlb] at e6
     have hpfx : (pre ++ [(c, true)]) <+: lyg bs (cnt sz0) at0 sz0 := ⟨_, by rw [hE, List.append_assoc]; rfl⟩
     obtain ⟨at_, pl, st, pk, cr⟩ := c
     simp only at e1 e3 e4 e5 e6 hE
     subst e1 e3
     obtain ⟨k, rfl⟩ : ∃ k : Nat, st = (k : Int) := ⟨st.toNat, by omega⟩
     rw [Int.toNat_natCast] at e6 hE
     have HN : Hid _ := And.intro hE hpfx
     clear hcr hcf hE hpfx e0 e2
     gi_wp2
     refine ⟨trivial, fun h => (by cases h), ?_⟩
     refine CallsIn.mono (callsIn_wide.2 hc1) ?_
     rintro e w1 ⟨rfl, g1⟩
     have hJ1 := own_grown14 hJ hJp g1
     have HR1 : Hid _ := (HR.out.grown g1).grown (World.grownBy_alloc w1 (.cells #[.int .i64 (p : Int), .int .i64 8192, .int .i64 (k : Int), .bool pk, .int .u32 (cr : Int)] 39) none)
     obtain ⟨fn, tmps, assign, body, hy, hR⟩ := hY (d - 1) pre _ w1 _ hJ1 (World.grownBy_alloc w1 (.cells #[.int .i64 (p : Int), .int .i64 8192, .int .i64 (k : Int), .bool pk, .int .u32 (cr : Int)] 39) none) HN.out.2
     dsimp only [Ck.val] at hy hR ⊢
     have HB : Hid _ := Bx.new w1 39 [.int .i64 (p : Int), .int .i64 8192, .int .i64 (k : Int), .bool pk, .int .u32 (cr : Int)]
     have hpe := fun W => pend14_any ⟨(p : Int), 8192, (k : Int), pk, cr⟩ W (by simp only; omega) (by simp only; omega) (by simp only; omega) (by simp only; omega)
     dsimp only [Ck.val] at hpe
     clear hc1 HR g1 hJ1 hJp hcb
     gi_wp2
     refine ⟨fun h => (by cases h), hR.mono ?_⟩
     rintro e W3 (⟨rfl, hJ3, hk3, ho3⟩ | ⟨rfl, hJx3⟩)
     ·have HR3 : Hid _ := hKL _ _ hk3 HR1.out
      obtain ⟨f0, f1, f2, f3, f4⟩ := ckx (HB.out.keptO ho3 (Nat.le_refl _) (by simp))
      clear hy hR hk3 ho3 HR1 HB
      gi_wp2
      refine ⟨trivial, fun h => (by cases h), ?_⟩
      refine CallsIn.mono (callsIn_wide.2 (hpe _)) ?_
      rintro e w4 ⟨rfl, g4⟩
      have f1' := gcell14 f1 g4
      have HJ4 : Hid _ := own_grown14 hJ hJ3 g4
      have HR4 : Hid _ := HR3.out.grown g4
      clear f0 f1 f2 f3 f4 g4 HR3 hJ3 hpe
      gi_wp2
      go_roundw
      case rel => exact ⟨p + 8 + k, sz - 8192, pre ++ [(⟨(p : Int), 8192, (k : Int), pk, cr⟩, true)], by go_num, by congr 1; omega, by omega, by omega, by rw [HN.out.1, List.append_assoc]; rfl, HR4, HJ4.out⟩
      case measure => simp [intOf]; omega
     ·gi_wp2
      refine bodyPost_ret (results_none rfl _ _ _) rfl ?_
      exact ⟨⟨_, rfl⟩, .inr ⟨_, HN.out.2, hJx3⟩⟩
    | false =>
     have hr := hcf rfl
     injection hr with hr _
     subst hr
     rw [if_neg (by simp)] at hE
     have hpfx : (pre ++ [(ck0, false)]) <+: lyg bs (cnt sz0) at0 sz0 := ⟨[], by rw [hE, List.append_nil]⟩
     have HN : Hid _ := And.intro hE hpfx
     clear hcr hcf hE hpfx
     gi_wp2
     refine ⟨trivial, fun h => (by cases h), ?_⟩
     refine CallsIn.mono (callsIn_wide.2 hc1) ?_
     rintro e w1 ⟨rfl, g1⟩
     have hJ1 := own_grown14 hJ hJp g1
     obtain ⟨fn, tmps, assign, body, hy, hR⟩ := hY (d - 1) pre _ w1 _ hJ1 (World.grownBy_alloc w1 (.cells #[.int .i64 0, .int .i64 0, .int .i64 0, .bool false, .int .u32 0] 39) none) HN.out.2
     dsimp only [Ck.val, ck0] at hy hR ⊢
     rw [show ((0 : Nat) : Int) = 0 from rfl] at hy
     clear hc1 HR g1 hJ1 hJp hcb
     gi_wp2
     refine ⟨fun h => (by cases h), hR.mono ?_⟩
     rintro e W3 (⟨rfl, hJ3, hk3, ho3⟩ | ⟨rfl, hJx3⟩)
     ·clear hy hR hk3 ho3
      gi_wp2
      refine bodyPost_ret (results_none rfl _ _ _) rfl ?_
      exact ⟨⟨_, rfl⟩, .inl ⟨_, HN.out.1.symm, hJ3⟩⟩
     ·gi_wp2
      refine bodyPost_ret (results_none rfl _ _ _) rfl ?_
      exact ⟨⟨_, rfl⟩, .inr ⟨_, HN.out.2, hJx3⟩⟩
  ·obtain rfl : sz = 0 := by omega
   have hE := HE.out
   rw [cnt_zero, lyg] at hE
   have hcb := HR.out.box
   have hny : ¬ (0 : Int) < ((0 : Nat) : Int) := by decide
   by_cases hpl : p < len
   ·rw [if_pos (by omega)] at hE
    have hpfx : (pre ++ [(ck0, false)]) <+: lyg bs (cnt sz0) at0 sz0 := ⟨[], by rw [hE, List.append_nil]⟩
    have HN : Hid _ := And.intro hE hpfx
    obtain ⟨fn, tmps, assign, body, hy, hR⟩ := hY (d - 1) pre (ck0, false) wr wr hJp (World.grownBy.refl _ _) hpfx
    dsimp only [Ck.val, ck0] at hy hR ⊢
    rw [show ((0 : Nat) : Int) = 0 from rfl] at hy
    have hpl2 : (p : Int) < (len : Int) := by omega
    clear hE hpfx hJp HR HE
    gi_wp2
    refine ⟨fun h => (by cases h), hR.mono ?_⟩
    rintro e W3 (⟨rfl, hJ3, hk3, ho3⟩ | ⟨rfl, hJx3⟩)
    ·gi_wp2
     go_end0
     exact ⟨⟨_, rfl⟩, .inl (by first | exact ⟨_, HN.out.1.symm, hJ3⟩ | (rw [HN.out.1]; exact hJ3))⟩
    ·gi_wp2
     go_end0
     exact ⟨⟨_, rfl⟩, .inr ⟨_, HN.out.2, hJx3⟩⟩
   ·rw [if_neg (by omega), List.append_nil] at hE
    have HN : Hid _ := hE
    have hpl2 : ¬ (p : Int) < (len : Int) := by omega
    clear hE HE HR hpl
    gi_wp2
    go_end0
    exact ⟨⟨_, rfl⟩, .inl (by first | exact ⟨_, HN.out.symm, hJp⟩ | (rw [HN.out]; exact hJp))⟩
/-- the iterator's contract -/
theorem lying_seq (Kp : World → World → Prop) (q1 q2 q len cap : Nat) (a : Option Addr) (bs : List Int) (at0 sz0 : Nat) (hl : len ≤ 16777216) (ha0 : at0 ≤ len) (hs0 : sz0 ≤ 16777216)
  (hKL : ∀ W W', Kp W W' → Ly q a len cap bs W → Ly q a len cap bs W') (w : World) (HL : Ly q a len cap bs w) (c1 : w.cell? ⟨q1, 0, none⟩ = some (.int .i64 (at0 : Int))) (c2 : w.cell? ⟨q2, 0, none⟩ = some (.int .i64 (sz0 : Int))) :
  SeqB Try.prog 44 #[.pointer (some ⟨q1, 0, none⟩), .pointer (some ⟨q2, 0, none⟩), .pointer (some ⟨q, 0, none⟩)] (fun x : Ck × Bool => #[x.1.val, .bool x.2]) Kp (fun ys => ys = lyg bs (cnt sz0) at0 sz0) (fun pre => pre <+: lyg bs (cnt sz0) at0 sz0) w := by
 intro d l J Jx W hW hJ hJx hY h0
 have hg := below_grown hW
 exact lying1_in Kp q1 q2 q len cap a bs at0 sz0 hl ha0 hs0 hKL d l _ J Jx hJ hJx hY W (HL.grown hg) (gcell14 c1 hg) (gcell14 c2 hg) h0
attribute [local go_sem] Oper.semAt_some
set_option linter.unusedSimpArgs false
set_option linter.unusedVariables false

theorem schunk_any (a : Option Addr) (len cap : Nat) (w : World) :
  Calls Try.prog 23 #[.slice a len cap, .int .i64 8192] w fun e w' => e = .returned (.func (.func 38) #[] #[.pointer (some ⟨w.heap.size, 0, none⟩), .pointer (some ⟨w.heap.size + 1, 0, none⟩)]) ∧
   w' = (w.alloc (.cells #[.slice a len cap] 22)).alloc (.cells #[.int .i64 8192] 3) := by
 go_enter Try.func23, Try.ntmps23
 go_wp2
 go_ret
 exact ⟨by simp, rfl⟩
/-- the k-th piece, as a value -/
def pcv (b off len : Nat) (k : Nat) : Value := .slice (some ⟨b, off + 8192 * k, none⟩) (min 8192 (len - 8192 * k)) (min 8192 (len - 8192 * k))
def Ls (q1 q2 : Nat) (a : Option Addr) (len cap : Nat) (W : World) : Prop := W.cell? ⟨q1, 0, none⟩ = some (.slice a len cap) ∧ W.cell? ⟨q2, 0, none⟩ = some (.int .i64 8192)
theorem range_pfx {k n : Nat} (h : k ≤ n) : List.range k <+: List.range n := by
 obtain ⟨d, rfl⟩ : ∃ d, n = k + d := ⟨n - k, by omega⟩
 rw [List.range_add]
 exact ⟨_, rfl⟩
set_option maxHeartbeats 4000000 in
theorem chunk1_in (Kp : World → World → Prop) (q1 q2 b off len cap : Nat) (a : Option Addr) (hl : len ≤ 16777216) (hlc : len ≤ cap) (hcm : cap ≤ maxLen) (hab : 0 < len → a = some ⟨b, off, none⟩)
  (hKL : ∀ W W', Kp W W' → Ls q1 q2 a len cap W → Ls q1 q2 a len cap W') (d l B : Nat) (J Jx : List Nat → World → Prop) (hJ : OwnFrom B J)
  (hY : ∀ d' pre x W0 W1, J pre W0 → W0.grownBy W1 none → (pre ++ [x]) <+: List.range (cnt len) → YieldAt Fence.wide d' Try.prog l #[pcv b off len x] W1 fun e W' =>
   (e = .returned (.bool true) ∧ J (pre ++ [x]) W' ∧ Kp W1 W' ∧ KeptO W0.heap.size W1.heap.size W1 W') ∨ (e = .returned (.bool false) ∧ Jx (pre ++ [x]) W'))
  (W : World) (HL : Ls q1 q2 a len cap W) (h0 : J [] W) :
  CallsIn Fence.wide d Try.prog 38 #[.func (.yield l) #[] #[], .pointer (some ⟨q1, 0, none⟩), .pointer (some ⟨q2, 0, none⟩)] W fun e W' => (∃ v, e = .returned v) ∧
   ((∃ ys, ys = List.range (cnt len) ∧ J ys W') ∨ (∃ pre, pre <+: List.range (cnt len) ∧ Jx pre W')) := by
 refine callsIn_of_wp Try.func38 rfl trivial ?_ rfl
 simp only [Try.ntmps38, List.size_toArray, List.length_cons, List.length_nil, Nat.reduceAdd, Nat.reduceSub, Array.replicate_succ, Array.replicate_zero, List.push_toArray, List.append_toArray, List.nil_append, List.cons_append]
 gi_wp2
 gi_loopw [4, 5] (fun vi _ wr => ∃ k : Nat, vi = .int .i64 ((8192 * k : Nat) : Int) ∧ k ≤ cnt len ∧ Hid (Ls q1 q2 a len cap wr) ∧ J (List.range k) wr) (fun vi _ _ => len + 8192 - (intOf vi).toNat)
 case atStart => exact ⟨0, rfl, Nat.zero_le _, HL, h0⟩
 case round =>
  obtain ⟨k, rfl, hk, HR, hJk⟩ := hrel
  have hc1 := HR.out.1
  have hc2 := HR.out.2
  clear HL h0
  by_cases h1 : 8192 * k < len
  ·have h1i : ((8192 * k : Nat) : Int) < (len : Int) := by omega
   obtain rfl := hab (by omega)
   have hkc : k + 1 ≤ cnt len := by unfold cnt; omega
   have hpfx : (List.range k ++ [k]) <+: List.range (cnt len) := by rw [← List.range_succ]; exact range_pfx hkc
   have hJd : J (List.range k) wr.drew := own_grown14 hJ hJk (grown_drew _)
   obtain ⟨fn, tmps, assign, body, hy, hR⟩ := hY (d - 1) (List.range k) k wr.drew wr.drew hJd (World.grownBy.refl _ _) hpfx
   unfold pcv at hy
   obtain ⟨i, hi⟩ : ∃ i, i = 8192 * k := ⟨_, rfl⟩
   rw [← hi] at hy h1 h1i ⊢
   have HI : Hid _ := hi
   clear hi
   have hd1 : ∀ n, (wr.drewN n).cell? ⟨q1, 0, none⟩ = some (.slice (some ⟨b, off, none⟩) len cap) := fun n => hc1
   have hd2 : ∀ n, (wr.drewN n).cell? ⟨q2, 0, none⟩ = some (.int .i64 8192) := fun n => hc2
   have hp1 : (0 : Int) ≤ (i : Int) := by omega
   have hp2 : (i : Int) ≤ (len : Int) := by omega
   have hp3 : (i : Int) ≤ (cap : Int) := by omega
   by_cases h8 : len - i ≤ 8192
   ·rw [Nat.min_eq_right h8] at hy
    obtain ⟨m, rfl⟩ : ∃ m, len = i + m := ⟨len - i, by omega⟩
    rw [Nat.add_sub_cancel_left] at hy h8
    gi_wp2
    gi_region
    have hmi : (if (m : Int) < 8192 then (m : Int) else 8192) = (m : Int) := by split <;> omega
    (try rw [hmi])
    have hcd1 : wr.drew.cell? ⟨q1, 0, none⟩ = some (.slice (some ⟨b, off, none⟩) (i + m) cap) := hc1
    have hcd2 : wr.drew.cell? ⟨q2, 0, none⟩ = some (.int .i64 8192) := hc2
    have HL2 : Hid (Ls q1 q2 (some ⟨b, off, none⟩) (i + m) cap wr.drew) := HR.out
    clear hd1 hd2 HR hJk hmi hJd hc1 hc2
    generalize wr.drew = wd at *
    have hs1 : (i : Int) + (m : Int) ≤ (cap : Int) := by omega
    have hs2 : (0 : Int) ≤ (i : Int) + (m : Int) := by omega
    have hs3 : (i : Int) ≤ (i : Int) + (m : Int) := by omega
    gi_wp2
    refine ⟨fun h => (by cases h), hR.mono ?_⟩
    rintro e W3 (⟨rfl, hJ3, hk3, ho3⟩ | ⟨rfl, hJx3⟩)
    ·have HL3 : Hid _ := hKL _ _ hk3 HL2.out
     have hc32 := HL3.out.2
     clear hy hR hk3 ho3 HL2 hcd1 hcd2
     gi_wp2
     go_roundw
     case rel => exact ⟨k + 1, by have := HI.out; first | go_num | (congr 1; omega), hkc, HL3, by rw [List.range_succ]; exact hJ3⟩
     case measure => have := HI.out; simp [intOf]; omega
    ·gi_wp2
     refine bodyPost_ret (results_none rfl _ _ _) rfl ?_
     exact ⟨⟨_, rfl⟩, .inr ⟨_, hpfx, hJx3⟩⟩
   ·rw [Nat.min_eq_left (by omega)] at hy
    obtain ⟨m, rfl⟩ : ∃ m, len = i + m := ⟨len - i, by omega⟩
    rw [Nat.add_sub_cancel_left] at h8
    gi_wp2
    gi_region
    have hmi : (if (m : Int) < 8192 then (m : Int) else 8192) = 8192 := by split <;> omega
    (try rw [hmi])
    have hcd1 : wr.drew.cell? ⟨q1, 0, none⟩ = some (.slice (some ⟨b, off, none⟩) (i + m) cap) := hc1
    have hcd2 : wr.drew.cell? ⟨q2, 0, none⟩ = some (.int .i64 8192) := hc2
    have HL2 : Hid (Ls q1 q2 (some ⟨b, off, none⟩) (i + m) cap wr.drew) := HR.out
    clear hd1 hd2 HR hJk hmi hJd hc1 hc2
    generalize wr.drew = wd at *
    have hs1 : (i : Int) + 8192 ≤ (cap : Int) := by omega
    have hs2 : (0 : Int) ≤ (i : Int) + 8192 := by omega
    have hs3 : (i : Int) ≤ (i : Int) + 8192 := by omega
    gi_wp2
    refine ⟨fun h => (by cases h), hR.mono ?_⟩
    rintro e W3 (⟨rfl, hJ3, hk3, ho3⟩ | ⟨rfl, hJx3⟩)
    ·have HL3 : Hid _ := hKL _ _ hk3 HL2.out
     have hc32 := HL3.out.2
     clear hy hR hk3 ho3 HL2 hcd1 hcd2
     gi_wp2
     go_roundw
     case rel => exact ⟨k + 1, by have := HI.out; first | go_num | (congr 1; omega), hkc, HL3, by rw [List.range_succ]; exact hJ3⟩
     case measure => have := HI.out; simp [intOf]; omega
    ·gi_wp2
     refine bodyPost_ret (results_none rfl _ _ _) rfl ?_
     exact ⟨⟨_, rfl⟩, .inr ⟨_, hpfx, hJx3⟩⟩
  ·have h1i : ¬ ((8192 * k : Nat) : Int) < (len : Int) := by omega
   have hke : k = cnt len := by unfold cnt at hk ⊢; omega
   subst hke
   gi_wp2
   go_end0
   exact ⟨⟨_, rfl⟩, .inl (by first | exact ⟨_, rfl, hJk⟩ | exact hJk)⟩
/-- the iterator's contract -/
theorem chunk_seq (Kp : World → World → Prop) (q1 q2 b off len cap : Nat) (a : Option Addr) (hl : len ≤ 16777216) (hlc : len ≤ cap) (hcm : cap ≤ maxLen) (hab : 0 < len → a = some ⟨b, off, none⟩)
  (hKL : ∀ W W', Kp W W' → Ls q1 q2 a len cap W → Ls q1 q2 a len cap W') (w : World) (HL : Ls q1 q2 a len cap w) :
  SeqB Try.prog 38 #[.pointer (some ⟨q1, 0, none⟩), .pointer (some ⟨q2, 0, none⟩)] (fun x : Nat => #[pcv b off len x]) Kp (fun ys => ys = List.range (cnt len)) (fun pre => pre <+: List.range (cnt len)) w := by
 intro d l J Jx W hW hJ hJx hY h0
 have hg := below_grown hW
 exact chunk1_in Kp q1 q2 b off len cap a hl hlc hcm hab hKL d l _ J Jx hJ hY W ⟨gcell14 HL.1 hg, gcell14 HL.2 hg⟩ h0
end Go.Proofs.Ytkkigpobhagnfaa
namespace Go.Proofs.Ytkkigpobhagnfaa
open Go.RowKit
set_option maxRecDepth 100000
set_option linter.unusedSimpArgs false
set_option linter.unusedVariables false
/-- a slice of bytes, as a value -/
structure Sv where
 a : Option Addr
 n : Nat
 c : Nat
def Sv.val (s : Sv) : Value := .slice s.a s.n s.c
/-- slices that lead to these bytes -/
def Pcs (W : World) : List Sv → List (List Int) → Prop
 | [], [] => True
 | s :: r, b :: t => Byte W s.a s.n s.c b ∧ Pcs W r t
 | _, _ => False
theorem Pcs.grown {W W' : World} (g : W.grownBy W' none) : ∀ {ss : List Sv} {bs : List (List Int)}, Pcs W ss bs → Pcs W' ss bs
 | [], [], _ => trivial
 | _ :: _, _ :: _, h => ⟨h.1.grown g, h.2.grown g⟩
theorem Pcs.len {W : World} : ∀ {ss : List Sv} {bs : List (List Int)}, Pcs W ss bs → ss.length = bs.length
 | [], [], _ => rfl
 | _ :: _, _ :: _, h => by simp [h.2.len]
theorem Pcs.snoc {W : World} {s : Sv} {b : List Int} : ∀ {ss : List Sv} {bs : List (List Int)}, Pcs W ss bs → Byte W s.a s.n s.c b → Pcs W (ss ++ [s]) (bs ++ [b])
 | [], [], _, k => ⟨k, trivial⟩
 | _ :: _, _ :: _, h, k => ⟨h.1, h.2.snoc k⟩
theorem Pcs.get {W : World} : ∀ {ss : List Sv} {bs : List (List Int)}, Pcs W ss bs → ∀ (i : Nat) (s : Sv), ss[i]? = some s → ∃ b, bs[i]? = some b ∧ Byte W s.a s.n s.c b
 | [], [], _, i, s, hi => by simp at hi
 | s' :: r, b' :: t, h, 0, s, hi => by
  simp only [List.getElem?_cons_zero, Option.some.injEq] at hi
  subst hi
  exact ⟨b', rfl, h.1⟩
 | s' :: r, b' :: t, h, i + 1, s, hi => by
  rw [List.getElem?_cons_succ] at hi
  obtain ⟨b, hb, hB⟩ := h.2.get i s hi
  exact ⟨b, by rw [List.getElem?_cons_succ]; exact hb, hB⟩
/-- a slice of slices -/
structure Sls (W : World) (a : Option Addr) (len : Nat) (ss : List Sv) : Prop where
 len_eq : ss.length = len
 cells : 0 < len → ∃ b off, a = some ⟨b, off, none⟩ ∧ ∀ (i : Nat) (s : Sv), ss[i]? = some s → W.cell? ⟨b, off + i, none⟩ = some (.slice s.a s.n s.c)
theorem flat_take (bs : List (List Int)) (j : Nat) (b : List Int) (h : bs[j]? = some b) : (bs.take (j + 1)).flatten = (bs.take j).flatten ++ b := by
 rw [List.take_add_one, h]
 simp
theorem flat_le (bs : List (List Int)) (j : Nat) : (bs.take j).flatten.length ≤ bs.flatten.length := by
 have h : bs.flatten = (bs.take j).flatten ++ (bs.drop j).flatten := by rw [← List.flatten_append, List.take_append_drop]
 rw [h, List.length_append]; omega
theorem pcs_byt {W : World} {ss : List Sv} {bs : List (List Int)} (h : Pcs W ss bs) : ∀ (i : Nat) (b : List Int), bs[i]? = some b → ∃ s, ss[i]? = some s ∧ Byte W s.a s.n s.c b := by
 intro i b hb
 have hi : i < ss.length := by rw [h.len]; exact (List.getElem?_eq_some_iff.1 hb).1
 obtain ⟨b', hb', hB⟩ := h.get i _ (List.getElem?_eq_getElem hi)
 rw [hb] at hb'
 injection hb' with hb'
 subst hb'
 exact ⟨_, List.getElem?_eq_getElem hi, hB⟩
theorem wrap_id14 {z : Int} (h0 : 0 ≤ z) (h1 : z ≤ 9223372036854775807) : wrap64 z = z := by
 unfold wrap64
 omega
theorem splice_next (A t : List Int) (N : Nat) (h : A.length + t.length ≤ N) : splice (bv (A ++ List.replicate (N - A.length) 0)) A.length (bv t) = bv ((A ++ t) ++ List.replicate (N - (A ++ t).length) 0) := by
 have e1 : (bv (A ++ List.replicate (N - A.length) 0)).take A.length = bv A := by
  rw [bv_append, List.take_append_of_le_length (by rw [bv_length]; exact Nat.le_refl _), List.take_of_length_le (by rw [bv_length]; exact Nat.le_refl _)]
 have e2 : (bv (A ++ List.replicate (N - A.length) 0)).drop (A.length + (bv t).length) = bv (List.replicate (N - (A ++ t).length) 0) := by
  rw [bv_append, List.drop_append, List.drop_of_length_le (by rw [bv_length]; omega), List.nil_append, bv_length, bv_length, Nat.add_sub_cancel_left]
  unfold bv
  rw [List.map_replicate, List.map_replicate, List.drop_replicate]
  congr 1
  rw [List.length_append]; omega
 unfold splice
 rw [e1, e2, bv_append, bv_append, List.append_assoc]
set_option maxHeartbeats 4000000 in
theorem ptogether_any (a : Option Addr) (len cap : Nat) (ss : List Sv) (bs : List (List Int)) (w : World) (hS : Sls w a len ss) (hP : Pcs w ss bs) (hl : len ≤ 1000000) (hf : bs.flatten.length ≤ 1000000000) :
  Calls Try.prog 27 #[.slice a len cap] w fun e w' => e = .returned (.slice (some ⟨w.heap.size, 0, none⟩) bs.flatten.length bs.flatten.length) ∧ Blk w' w.heap.size (bv bs.flatten) ∧ w.grownBy w' none := by
 obtain ⟨i5, hi, hz0, hz1, hz2⟩ := info_parts Try.info5
 have hbl : bs.length = len := by rw [← hP.len, hS.len_eq]
 have hsl := hS.len_eq
 go_enter Try.func27, Try.ntmps27
 go_wp2
 go_loopw [3, 5, 12] (fun vn _ vi wr => w = wr ∧ ∃ j : Nat, vi = .int .i64 (j : Int) ∧ j ≤ len ∧ vn = .int .i64 ((bs.take j).flatten.length : Nat)) (fun _ _ vi _ => len - (intOf vi).toNat)
 case atStart => exact ⟨rfl, 0, rfl, Nat.zero_le _, by simp⟩
 case round =>
  obtain ⟨rfl, j, rfl, hj, rfl⟩ := hrel
  by_cases h0 : j < len
  ·have h0i : (j : Int) < (len : Int) := by omega
   obtain ⟨b, off, rfl, hc⟩ := hS.cells (by omega)
   obtain ⟨s, hs⟩ : ∃ s, ss[j]? = some s := ⟨_, List.getElem?_eq_getElem (by omega)⟩
   obtain ⟨t, ht, hB⟩ := hP.get j s hs
   have hcj := hc j s hs
   have hft := flat_take bs j t ht
   have hfl := flat_le bs (j + 1)
   have hsn := hB.row.len_eq
   have HF : Hid ((bs.take (j + 1)).flatten.length = (bs.take j).flatten.length + s.n) := by show _ = _; rw [hft, List.length_append, hsn]
   have hb1 : (bs.take j).flatten.length + s.n ≤ 1000000000 := by have := HF.out; omega
   clear hc hft hfl hsn hB ht hs
   generalize (bs.take j).flatten.length = x at HF hb1 ⊢
   go_wp2
   go_roundw
   case rel => exact ⟨by trivial, j + 1, by go_num, by omega, by rw [HF.out]; go_num⟩
   case measure => simp [intOf]; omega
  ·obtain rfl : j = len := by omega
   have hnn : ¬ (j : Int) < (j : Int) := by omega
   have e1 : bs.take j = bs := List.take_of_length_le (by omega)
   rw [e1]
   generalize hN : bs.flatten.length = N at hf ⊢
   have HN : Hid _ := hN
   clear hN e1
   go_wp2_with (at_make; refine wpList_make8 _ rfl _ _ 22 rfl i5 Try.underlying22 hi hz0 hz1 hz2 _ _ _ _ N rfl rfl rfl rfl (by omega) ?_)
   intro w1 hb1 hg1 hs1
   clear i5 hi hz0 hz1 hz2
   have hz : List.replicate N (Value.int .u8 0) = bv ((bs.take 0).flatten ++ List.replicate (N - (bs.take 0).flatten.length) 0) := by simp [bv]
   rw [hz] at hb1
   clear hz
   go_wp2
   go_loopw [7, 9, 25] (fun va _ vi wq => ∃ i : Nat, vi = .int .i64 (i : Int) ∧ i ≤ j ∧ va = .int .i64 ((bs.take i).flatten.length : Nat) ∧ Hid (Blk wq w.heap.size (bv ((bs.take i).flatten ++ List.replicate (N - (bs.take i).flatten.length) 0)) ∧ w.grownBy wq none)) (fun _ _ vi _ => j - (intOf vi).toNat)
   case atStart => exact ⟨0, rfl, Nat.zero_le _, by simp, hb1, hg1⟩
   case round =>
    obtain ⟨i, rfl, hi, rfl, HB⟩ := hrel
    clear hb1 hg1 hs1
    by_cases h1 : i < j
    ·have h1i : (i : Int) < (j : Int) := by omega
     have hSq := hS
     obtain ⟨b, off, rfl, hc⟩ := hSq.cells (by omega)
     obtain ⟨s, hs⟩ : ∃ s, ss[i]? = some s := ⟨_, List.getElem?_eq_getElem (by omega)⟩
     obtain ⟨t, ht, hBt⟩ := hP.get i s hs
     have hci := gcell14 (hc i s hs) HB.out.2
     have hB2 := hBt.grown HB.out.2
     have hft := flat_take bs i t ht
     have hfl := flat_le bs (i + 1)
     have hsn := hBt.row.len_eq
     have hlt := hB2.row.src
     have hx : (bs.take (i + 1)).flatten.length = (bs.take i).flatten.length + s.n := by rw [hft, List.length_append, hsn]
     have hxN : (bs.take i).flatten.length + s.n ≤ N := by rw [← hx]; have := HN.out; omega
     have HX : Hid (bv ((bs.take (i + 1)).flatten ++ List.replicate (N - (bs.take (i + 1)).flatten.length) 0) = splice (bv ((bs.take i).flatten ++ List.replicate (N - (bs.take i).flatten.length) 0)) (bs.take i).flatten.length (bv t)) := by
      show _ = _
      rw [hft]
      exact (splice_next _ _ _ (by omega)).symm
     have HXl : Hid ((bs.take (i + 1)).flatten.length = (bs.take i).flatten.length + s.n) := hx
     have hcur : (bv ((bs.take i).flatten ++ List.replicate (N - (bs.take i).flatten.length) 0)).length = N := by rw [bv_length, List.length_append, List.length_replicate]; omega
     have HC : Hid _ := And.intro hcur hlt
     have HSN : Hid _ := hsn
     clear hc hft hfl hsn hx hs ht hBt hS hlt hcur
     generalize (bs.take i).flatten.length = x at *
     generalize bv ((bs.take i).flatten ++ List.replicate (N - x) 0) = cur at *
     have HG : Hid (∀ w5, wr.grownBy w5 (some w.heap.size) → w.grownBy w5 none) := fun w5 h => grown_new HB.out.2 h (Nat.le_refl _)
     by_cases hxe : N = x
     ·subst hxe
      have hs0 : s.n = 0 := by omega
      have ht0 : t = [] := List.eq_nil_of_length_eq_zero (by rw [HSN.out]; exact hs0)
      have hmin : ∀ y : Nat, Nat.min y 0 = 0 := fun y => Nat.min_eq_right (Nat.zero_le _)
      have HS0 : Hid _ := And.intro hs0 ht0
      clear hs0 ht0
      go_wp2_with (first | ((with_reducible refine copy_here ?_); refine wpList_copy_nothing rfl _ _ 22 22 rfl 5 Try.underlying22 Try.size5H _ _ _ _ _ _ rfl rfl (hmin _) ?_))
      go_roundw
      case rel => exact ⟨i + 1, by go_num, by omega, by rw [HXl.out, HS0.out.1]; first | go_num | (congr 1; rw [wrap_id14 (by omega) (by omega)]; omega), by rw [HX.out, HS0.out.2]; show Blk _ _ (splice _ _ []); rw [splice_nil]; exact HB.out.1, HB.out.2⟩
      case measure => simp [intOf]; omega
     ·have hxi : (x : Int) < (N : Int) := by omega
      go_wp2_with (first | ((with_reducible refine copy_here ?_); go_loud (refine wpList_copy8 rfl _ _ 22 22 rfl Try.underlying22 Try.size5H _ _ _ _ _ _ rfl rfl w.heap.size x _ HB.out.1 (bv t) (by rw [bv_length, HSN.out]; exact (Nat.min_eq_left (by omega)).symm) (fun h0 => ⟨rfl, HC.out.2 h0⟩) (by rw [bv_length, HSN.out, HC.out.1]; exact hxN) (bv_one _) ?_; intro w5 hb5 hg5 hs5)))
      go_roundw
      case rel => exact ⟨i + 1, by go_num, by omega, by rw [HXl.out, bv_length, HSN.out]; first | go_num | (congr 1; rw [wrap_id14 (by omega) (by omega)]; omega), by rw [HX.out]; exact hb5, HG.out w5 hg5⟩
      case measure => simp [intOf]; omega
    ·obtain rfl : i = j := by omega
     have hii : ¬ (i : Int) < (i : Int) := by omega
     have e1 : bs.take i = bs := List.take_of_length_le (by omega)
     rw [e1, HN.out, Nat.sub_self, List.replicate_zero, List.append_nil] at HB
     have HB2 : Hid _ := HB.out
     clear HB e1
     go_wp2
     go_ret
     rw [← List.length_flatten, HN.out]
     exact ⟨rfl, HB2.out.1, HB2.out.2⟩
end Go.Proofs.Ytkkigpobhagnfaa
