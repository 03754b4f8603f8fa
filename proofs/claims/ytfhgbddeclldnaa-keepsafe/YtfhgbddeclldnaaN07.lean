/- The program's Read and Boot. The program's Arm. The program's Check of a geometry. -/
import Derived.Deep.RegionHeld3
import Derived.Test.YtfhgbddeclldnaaN06
namespace Go.Proofs.Ytfhgbddeclldnaa
open Go.RowKit
set_option maxRecDepth 100000
set_option linter.unusedSimpArgs false
set_option linter.unusedVariables false

theorem pboot_nil (w : World) : Calls Try.prog 14 #[.pointer none] w fun e w' => e = .returned (.tuple #[]) ∧ w = w' := by
  go_enter Try.func14, Try.ntmps14
  go_wp2
  go_end0
  exact ⟨rfl, rfl⟩
theorem pboot_any {w : World} {fb bb db wb : Nat} {m : Fm} {pw left : Int} {aT : Option Addr} {cT : Nat} {T : List Int} (h : PF w fb bb db wb m pw left aT cT T) :
    Calls Try.prog 14 #[.pointer (some ⟨fb, 0, none⟩)] w fun e w' => e = .returned (.tuple #[]) ∧ Chg (foot fb bb db wb) w w' ∧ PF w' fb bb db wb m 1 0 none 0 [] := by
  have f7 := h.box.f 7
  have f8 := h.box.f 8
  have f9 := h.box.f 9
  have c7 : w.cell? ⟨fb, 7, none⟩ = some (.int .i64 pw) := h.box.c 7
  have c8 : w.cell? ⟨fb, 8, none⟩ = some (.int .i64 left) := h.box.c 8
  have c9 : w.cell? ⟨fb, 9, none⟩ = some (.slice aT T.length cT) := h.box.c 9
  have hb := ((h.box.set 7 (.int .i64 1)).set 8 (.int .i64 0)).set 9 (.slice none 0 0)
  have hc : Chg (fun k => k = fb) w (((w.setCell ⟨fb, 7, none⟩ (.int .i64 1)).setCell ⟨fb, 8, none⟩ (.int .i64 0)).setCell ⟨fb, 9, none⟩ (.slice none 0 0)) := ((Chg.set (F := fun k => k = fb) rfl).trans (Chg.set rfl)).trans (Chg.set rfl)
  have HH : Hid _ := And.intro h (And.intro hb hc)
  clear h hb hc
  go_enter Try.func14, Try.ntmps14
  go_wp2
  go_end0
  obtain ⟨h, hb, hc⟩ := HH.out
  exact ⟨rfl, hc.mono fun k e => Or.inl e, ⟨hb, hc.box h.bs (Ne.symm h.n1), hc.box h.ds (Ne.symm h.n2), hc.box h.ws (Ne.symm h.n3), h.byt, Row.none0 _, h.n1, h.n2, h.n3, h.n4, h.n5, h.n6, fun _ _ e => by cases e⟩⟩
/-- what the program's Read answers -/
def PdPost (w : World) (B : List Int) (er : Int) (i n : Nat) (e : Ending) (w' : World) : Prop :=
  ∃ v, e = .returned (.tuple #[v, .int .i64 er]) ∧ w.grownBy w' none ∧ ((er ≠ 0 ∧ v = .slice none 0 0) ∨ (er = 0 ∧ ∃ g, v = .slice (some ⟨g, 0, none⟩) n n ∧ w.heap.size ≤ g ∧ Box w' g 5 (bv ((B.drop i).take n)) ∧ i + n ≤ B.length))
theorem pd_bad (w : World) (B : List Int) (er : Int) (i n : Nat) (h : er ≠ 0) : PdPost w B er i n (.returned (.tuple #[.slice none 0 0, .int .i64 er])) w := ⟨_, rfl, World.grownBy.refl _ _, Or.inl ⟨h, rfl⟩⟩
theorem pread_nil (a n : Int) (w : World) : Calls Try.prog 27 #[.pointer none, .int .i64 a, .int .i64 n] w fun e w' => e = .returned (.tuple #[.slice none 0 0, .int .i64 5]) ∧ w = w' := by
  go_enter Try.func27, Try.ntmps27
  go_wp2
  go_ret2
  exact ⟨rfl, rfl⟩
set_option maxHeartbeats 2000000 in
theorem pread_any {w : World} {fb bb db wb : Nat} {m : Fm} {pw left : Int} {aT : Option Addr} {cT : Nat} {T : List Int} {k : Nat} (h : PF w fb bb db wb m pw left aT cT T) (hg : m.Good k) (hpw : (pw != 0) = !m.off) (at_ n : Int) (ha : -9223372036854775808 ≤ at_ ∧ at_ ≤ 9223372036854775807) (hn : -9223372036854775808 ≤ n ∧ n ≤ 9223372036854775807) :
    Calls Try.prog 27 #[.pointer (some ⟨fb, 0, none⟩), .int .i64 at_, .int .i64 n] w fun e w' => PdPost w m.B (rdE m.B.length m.off at_ n) at_.toNat n.toNat e w' := by
  have hspb := hg.spb
  have hlB := hg.lB
  have hlM : m.B.length ≤ 16384 := by omega
  have c3 : w.cell? ⟨fb, 3, none⟩ = some (.slice (some ⟨bb, 0, none⟩) m.B.length m.B.length) := h.box.c 3
  have c7 : w.cell? ⟨fb, 7, none⟩ = some (.int .i64 pw) := h.box.c 7
  have ho := on_any fb pw w c7
  rw [hpw] at ho
  have HH : Hid _ := h
  clear h hlB hspb hg hpw c7
  unfold rdE
  by_cases h1 : at_ < 0
  · rw [if_pos (Or.inl h1)]
    go_enter Try.func27, Try.ntmps27
    go_wp2
    go_ret2
    exact pd_bad _ _ _ _ _ (by decide)
  · by_cases h2 : n < 0
    · rw [if_pos (Or.inr (Or.inl h2))]
      go_enter Try.func27, Try.ntmps27
      go_wp2
      go_ret2
      exact pd_bad _ _ _ _ _ (by decide)
    · have hwr : IntKind.i64.wrap ((m.B.length : Int) - at_) = (m.B.length : Int) - at_ := by rw [IntKind.wrap_i64]; omega
      by_cases h4 : (m.B.length : Int) - at_ < n
      · rw [if_pos (Or.inr (Or.inr (Or.inr h4)))]
        go_enter Try.func27, Try.ntmps27
        go_wp2
        go_ret2
        exact pd_bad _ _ _ _ _ (by decide)
      · rw [if_neg (by omega)]
        cases hoff : m.off
        · rw [hoff] at ho
          obtain ⟨i, rfl⟩ := Int.eq_ofNat_of_zero_le (by omega : 0 ≤ at_)
          obtain ⟨q, rfl⟩ := Int.eq_ofNat_of_zero_le (by omega : 0 ≤ n)
          obtain ⟨i5, hi5, hz0, hz1, hz2⟩ := info_parts Try.info5
          rw [if_neg (by simp)]
          have HI : Hid _ := And.intro hi5 (And.intro hz0 (And.intro hz1 hz2))
          clear hi5 hz0 hz1 hz2 hoff
          have hq : (q : Int) ≤ 16384 := by omega
          go_enter Try.func27, Try.ntmps27
          go_wp2_with (first | (go_at_call 13; refine ho.mono ?_; rintro e w' ⟨rfl, rfl⟩) | (at_make; refine wpList_make8 _ rfl _ _ 27 rfl i5 Try.underlying27 HI.out.1 HI.out.2.1 HI.out.2.2.1 HI.out.2.2.2 _ _ _ _ q rfl rfl rfl rfl (by omega) ?_))
          intro w1 hb1 hg1 hs1
          have h1' := HH.out.still (Chg.of_none hg1 _)
          have d3 : w1.cell? ⟨fb, 3, none⟩ = some (.slice (some ⟨bb, 0, none⟩) m.B.length m.B.length) := h1'.box.c 3
          have RB : Row w1 (some ⟨bb, 0, none⟩) m.B.length m.B := (Blk.row (show Blk w1 bb (bv m.B) from h1'.bs.blk) h1'.byt (by unfold maxLen; omega))
          have HW : Hid _ := And.intro hb1 (And.intro hg1 RB)
          clear h1' c3 hb1 hg1 RB ho
          have hmin : (bv ((m.B.drop i).take q)).length = Nat.min (m.B.length - i) q := by
            rw [bv_length, List.length_take, List.length_drop, Nat.min_comm]
          have HM : Hid _ := hmin
          clear hmin
          by_cases hcc : m.B.length = i
          · have eq0 : q = 0 := by omega
            subst eq0
            have hfit : 0 + (bv ((m.B.drop i).take 0)).length ≤ (List.replicate 0 (Value.int .u8 0)).length := by simp [bv]
            have HF : Hid _ := hfit
            clear hfit
            go_wp2_with (first | ((with_reducible refine copy_here ?_); go_loud (refine wpList_copy8 rfl _ _ 27 27 rfl Try.underlying27 Try.size5 _ _ _ _ _ _ rfl rfl w.heap.size 0 _ HW.out.1 (bv ((m.B.drop i).take 0)) (by simp [bv]) (fun h0 => by simp [bv] at h0) HF.out (bv_one _) ?_)))
            intro w2 hb2 hg2 hs2
            go_wp2
            go_ret2
            obtain ⟨hb1, hg1, RB⟩ := HW.out
            rw [splice_all _ _ (by simp [bv])] at hb2
            exact ⟨_, rfl, grown_new hg1 hg2 (Nat.le_refl _), Or.inr ⟨rfl, w.heap.size, rfl, Nat.le_refl _, ⟨hb2⟩, by omega⟩⟩
          · have hsrc : 0 < (bv ((m.B.drop i).take q)).length → ∃ ad, (some (⟨bb, i, none⟩ : Addr)) = some ad ∧ ∀ j v, (bv ((m.B.drop i).take q))[j]? = some v → w1.cell? (ad.add j) = some v := by
              have RP := HW.out.2.2.part i q (by omega)
              rw [Nat.zero_add] at RP
              exact RP.src
            have HS : Hid _ := hsrc
            clear hsrc
            have hfit : 0 + (bv ((m.B.drop i).take q)).length ≤ (List.replicate q (Value.int .u8 0)).length := by rw [bv_length, List.length_take, List.length_drop]; simp; omega
            have HF : Hid _ := hfit
            clear hfit
            go_wp2_with (first | ((with_reducible refine copy_here ?_); go_loud (refine wpList_copy8 rfl _ _ 27 27 rfl Try.underlying27 Try.size5 _ _ _ _ _ _ rfl rfl w.heap.size 0 _ HW.out.1 (bv ((m.B.drop i).take q)) HM.out (fun h0 => ⟨rfl, HS.out h0⟩) HF.out (bv_one _) ?_)))
            intro w2 hb2 hg2 hs2
            go_wp2
            go_ret2
            obtain ⟨hb1, hg1, RB⟩ := HW.out
            rw [splice_all _ _ (by rw [bv_length, List.length_take, List.length_drop]; simp; omega)] at hb2
            exact ⟨_, rfl, grown_new hg1 hg2 (Nat.le_refl _), Or.inr ⟨rfl, w.heap.size, rfl, Nat.le_refl _, ⟨hb2⟩, by omega⟩⟩
        · rw [hoff] at ho
          go_enter Try.func27, Try.ntmps27
          go_wp2_with (first | (go_at_call 13; refine ho.mono ?_; rintro e w' ⟨rfl, rfl⟩))
          go_ret2
          exact pd_bad _ _ _ _ _ (by decide)
end Go.Proofs.Ytfhgbddeclldnaa

namespace Go.Proofs.Ytfhgbddeclldnaa
open Go.RowKit
set_option maxRecDepth 100000
set_option linter.unusedSimpArgs false
set_option linter.unusedVariables false

/-- behind the making of the rest -/
structure AS (w W3 : World) (fb bb db wb : Nat) (m : Fm) (n : Int) (g : Nat) (cs : List Value) (tb L : Nat) (a2 : Option Addr) (ts : List Int) : Prop where
  bs : Box W3 bb 5 (bv m.B)
  ds : Box W3 db 4 (m.D.map Value.bool)
  ws : Box W3 wb 3 (m.W.map (Value.int .i64))
  byt : Byt m.B
  ne : fb ≠ bb ∧ fb ≠ db ∧ fb ≠ wb ∧ bb ≠ db ∧ bb ≠ wb ∧ db ≠ wb
  lt : fb < tb ∧ bb < tb ∧ db < tb ∧ wb < tb
  gt : g < tb
  bx : Box W3 g 29 cs
  tx : Box W3 tb 5 (List.replicate L (.int .u8 0))
  sz : W3.heap.size = tb + 1
  wtb : w.heap.size ≤ tb
  ch : Chg (foot fb bb db wb) w W3
  ry : Row W3 a2 ts.length ts
  fx : Box W3 fb 59 [.int .i64 m.s, .int .i64 m.p, .int .i64 m.b, .slice (some ⟨bb, 0, none⟩) m.B.length m.B.length, .slice (some ⟨db, 0, none⟩) m.D.length m.D.length, .slice (some ⟨wb, 0, none⟩) m.W.length m.W.length, .int .i64 m.ops, .int .i64 2, .int .i64 n, .slice (some ⟨tb, 0, none⟩) L L]
theorem as_made {w W1 W2 : World} {fb bb db wb : Nat} {m : Fm} {n : Int} {g : Nat} {cs : List Value} {aT : Option Addr} {cT : Nat} {T : List Int} {a2 : Option Addr} {ts : List Int} (L : Nat) (h : PF W1 fb bb db wb m 2 n aT cT T) (hb : Box W1 g 29 cs) (hg : g ≠ fb) (hC : Chg (foot fb bb db wb) w W1) (h2 : Chg (fun _ => False) W1 W2) (R : Row w a2 ts.length ts) (hR : ∀ b o, a2 = some ⟨b, o, none⟩ → 0 < ts.length → ¬ foot fb bb db wb b) : AS w ((W2.alloc (.cells (madeCells #[.int .u8 0] L) 5)).setCell ⟨fb, 9, none⟩ (.slice (some ⟨W2.heap.size, 0, none⟩) L L)) fb bb db wb m n g cs W2.heap.size L a2 ts := by
  have p2 := h.still h2
  have b2 := h2.box hb id
  have hgr := World.grownBy_alloc W2 (.cells (madeCells #[.int .u8 0] L) 5) none
  have p3 := p2.still (Chg.of_none hgr _)
  have c4 : Chg (fun k => k = fb) (W2.alloc (.cells (madeCells #[.int .u8 0] L) 5)) ((W2.alloc (.cells (madeCells #[.int .u8 0] L) 5)).setCell ⟨fb, 9, none⟩ (.slice (some ⟨W2.heap.size, 0, none⟩) L L)) := Chg.set rfl
  have hx := p3.box.set 9 (.slice (some ⟨W2.heap.size, 0, none⟩) L L)
  have hlt := p2.box.lt
  have ch := (hC.trans (h2.mono fun _ x => x.elim)).trans ((Chg.of_none hgr _).trans (c4.mono fun k e => Or.inl e))
  refine ⟨c4.box p3.bs (Ne.symm p2.n1), c4.box p3.ds (Ne.symm p2.n2), c4.box p3.ws (Ne.symm p2.n3), p2.byt, ⟨p2.n1, p2.n2, p2.n3, p2.n4, p2.n5, p2.n6⟩, ⟨hlt, p2.bs.lt, p2.ds.lt, p2.ws.lt⟩, b2.lt, c4.box (b2.grown hgr) hg, ?_, ?_, Nat.le_trans hC.size h2.size, ch, ch.row' R hR, hx⟩
  · have h0 : Box (W2.alloc (.cells (madeCells #[.int .u8 0] L) 5)) W2.heap.size 5 (List.replicate L (.int .u8 0)) := ⟨by rw [heap_alloc_new, made_list]⟩
    exact c4.box h0 (by omega)
  · rw [size_set]; simp
theorem AS.end {w W3 W4 : World} {fb bb db wb : Nat} {m : Fm} {n : Int} {g : Nat} {cs : List Value} {tb L : Nat} {a2 : Option Addr} {ts : List Int} (h : AS w W3 fb bb db wb m n g cs tb L a2 ts) (hb : Below tb W3 W4) (ht : W4.heap[tb]? = some (.cells (splice (List.replicate L (.int .u8 0)) 0 (bv (ts.take L))).toArray 5 (0, 0))) (N : Nat) (hL : L = Nat.min ts.length N) (hm : L ≤ 100000000) : Chg (foot fb bb db wb) w W4 ∧ ∃ tb cT', w.heap.size ≤ tb ∧ PF W4 fb bb db wb m 2 n (some ⟨tb, 0, none⟩) cT' (ts.take N) := by
  obtain ⟨n1, n2, n3, n4, n5, n6⟩ := h.ne
  obtain ⟨l1, l2, l3, l4⟩ := h.lt
  have hlen : (ts.take N).length = L := by rw [hL, List.length_take, Nat.min_comm]
  have hle : L ≤ ts.length := by rw [hL]; exact Nat.min_le_left _ _
  have he : ts.take L = ts.take N := by
    rw [hL]
    rcases Nat.le_total ts.length N with h' | h'
    · rw [show Nat.min ts.length N = ts.length from Nat.min_eq_left h', List.take_of_length_le (Nat.le_refl _), List.take_of_length_le h']
    · rw [show Nat.min ts.length N = N from Nat.min_eq_right h']
  rw [splice_all _ _ (by simp [bv]; omega), he] at ht
  refine ⟨⟨hb.os.trans h.ch.os, hb.tape.trans h.ch.tape, hb.output.trans h.ch.output, Nat.le_trans h.ch.size hb.size, fun k hk hF => ?_⟩, tb, L, h.wtb, ?_⟩
  · rw [hb.block k (by have := h.wtb; omega)]; exact h.ch.block k hk hF
  · refine ⟨?_, h.bs.below hb l2, h.ds.below hb l3, h.ws.below hb l4, h.byt, ?_, n1, n2, n3, n4, n5, n6, ?_⟩
    · rw [hlen]; exact h.fx.below hb l1
    · exact Blk.row ht (h.ry.byt.take _) (by rw [hlen]; unfold maxLen; omega)
    · intro tb' o e
      injection e with e
      injection e with e1 e2
      subst e1
      omega
theorem parm_nil (n : Int) (a2 : Option Addr) (l2 c2 : Nat) (w : World) : Calls Try.prog 12 #[.pointer none, .agg #[.int .i64 n, .slice a2 l2 c2]] w fun e w' => e = .returned (.int .i64 5) ∧ w.grownBy w' none := by
  go_enter Try.func12, Try.ntmps12
  go_wp2
  go_ret
  exact ⟨rfl, World.grownBy_alloc _ _ _⟩
set_option maxHeartbeats 2000000 in
theorem parm_bad {w : World} {fb bb db wb : Nat} {m : Fm} {pw left : Int} {aT : Option Addr} {cT : Nat} {T : List Int} (h : PF w fb bb db wb m pw left aT cT T) (hpw : (pw != 0) = !m.off) (n : Int) (a2 : Option Addr) (l2 c2 : Nat) (hE : arE n m.off ≠ 0) :
    Calls Try.prog 12 #[.pointer (some ⟨fb, 0, none⟩), .agg #[.int .i64 n, .slice a2 l2 c2]] w fun e w' => e = .returned (.int .i64 (arE n m.off)) ∧ w.grownBy w' none := by
  have ho : ∀ o, _ := fun o => on_any fb pw (w.alloc o) ((h.still (Chg.of_none (World.grownBy_alloc w o none) _)).box.c 7)
  rw [hpw] at ho
  clear h hpw
  unfold arE at hE ⊢
  by_cases h1 : n < 1
  · rw [if_pos h1]
    go_enter Try.func12, Try.ntmps12
    go_wp2
    go_ret
    exact ⟨rfl, World.grownBy_alloc _ _ _⟩
  · rw [if_neg h1] at hE ⊢
    cases hoff : m.off
    · rw [hoff] at hE; exact absurd rfl hE
    · rw [hoff] at ho
      rw [if_pos rfl]
      go_enter Try.func12, Try.ntmps12
      go_wp2_with (first | (go_at_call 13; refine (ho _).mono ?_; rintro e w' ⟨rfl, rfl⟩))
      go_ret
      exact ⟨rfl, World.grownBy_alloc _ _ _⟩
set_option maxHeartbeats 2000000 in
theorem parm_ok {w : World} {fb bb db wb : Nat} {m : Fm} {pw left : Int} {aT : Option Addr} {cT : Nat} {T : List Int} {k : Nat} (h : PF w fb bb db wb m pw left aT cT T) (hg : m.Good k) (hpw : (pw != 0) = true) (n : Int) (a2 : Option Addr) (c2 : Nat) (ts : List Int) (RY : Row w a2 ts.length ts) (hY : ∀ b o, a2 = some ⟨b, o, none⟩ → 0 < ts.length → ¬ foot fb bb db wb b) (hn : ¬ n < 1) :
    Calls Try.prog 12 #[.pointer (some ⟨fb, 0, none⟩), .agg #[.int .i64 n, .slice a2 ts.length c2]] w fun e w' => e = .returned (.int .i64 0) ∧ Chg (foot fb bb db wb) w w' ∧ ∃ tb cT', w.heap.size ≤ tb ∧ PF w' fb bb db wb m 2 n (some ⟨tb, 0, none⟩) cT' (ts.take (m.p * m.b)) := by
  obtain ⟨N, hN⟩ : ∃ N, m.p * m.b = N := ⟨_, rfl⟩
  rw [hN]
  have hN1 : N ≤ 16384 := by
    have := hg.spb
    have h1 := hg.s
    have : m.p * m.b ≤ m.s * (m.p * m.b) := Nat.le_mul_of_pos_left _ h1.1
    rw [← Nat.mul_assoc] at this
    omega
  have hY1 := RY.le
  unfold maxLen at hY1
  have HH : Hid (PF w fb bb db wb m pw left aT cT T ∧ Row w a2 ts.length ts ∧ (∀ b o, a2 = some ⟨b, o, none⟩ → 0 < ts.length → ¬ foot fb bb db wb b) ∧ m.p * m.b = N) := ⟨h, RY, hY, hN⟩
  have ho : ∀ o, _ := fun o => on_any fb pw (w.alloc o) ((h.still (Chg.of_none (World.grownBy_alloc w o none) _)).box.c 7)
  rw [hpw] at ho
  clear h hpw hg RY hY hN
  go_enter Try.func12, Try.ntmps12
  go_wp2_with (first | (go_at_call 13; refine (ho _).mono ?_; rintro e w' ⟨rfl, rfl⟩))
  clear ho
  have h0 := HH.out.1.still (Chg.of_none (World.grownBy_alloc w (.cells #[.int .i64 n, .slice a2 ts.length c2] 29) none) _)
  have hbx := Box.new w 29 [.int .i64 n, .slice a2 ts.length c2]
  have hlt : fb < w.heap.size := HH.out.1.box.lt
  have hgr := World.grownBy_alloc w (.cells #[.int .i64 n, .slice a2 ts.length c2] 29) none
  have hfbne : ¬ fb = w.heap.size := by omega
  generalize w.alloc (.cells #[.int .i64 n, .slice a2 ts.length c2] 29) = W at *
  generalize hgg : w.heap.size = g at *
  have e0 : W.cell? ⟨g, 0, none⟩ = some (.int .i64 n) := hbx.c 0
  have c7 : W.cell? ⟨fb, 7, none⟩ = some (.int .i64 pw) := h0.box.c 7
  have c8 : W.cell? ⟨fb, 8, none⟩ = some (.int .i64 left) := h0.box.c 8
  have f7 := h0.box.f 7
  have f8 := h0.box.f 8
  have hgne : ¬ g = fb := by omega
  have HX : Hid _ := And.intro h0 (And.intro hbx hgr)
  clear h0 hbx hgr
  go_region
  obtain ⟨h0, hbx, hgr⟩ := HX.out
  have hc1 : Chg (fun k => k = fb) W ((W.setCell ⟨fb, 7, none⟩ (.int .i64 2)).setCell ⟨fb, 8, none⟩ (.int .i64 n)).drew := ((Chg.set (F := fun k => k = fb) rfl).trans (Chg.set rfl)).trans ((Chg.refl _ _).drewN 1)
  have hb1 : Box ((W.setCell ⟨fb, 7, none⟩ (.int .i64 2)).setCell ⟨fb, 8, none⟩ (.int .i64 n)).drew fb 59 _ := ⟨((h0.box.set 7 (.int .i64 2)).set 8 (.int .i64 n)).blk⟩
  generalize ((W.setCell ⟨fb, 7, none⟩ (.int .i64 2)).setCell ⟨fb, 8, none⟩ (.int .i64 n)).drew = W1 at *
  have h1 : PF W1 fb bb db wb m 2 n aT cT T := ⟨hb1, hc1.box h0.bs (Ne.symm h0.n1), hc1.box h0.ds (Ne.symm h0.n2), hc1.box h0.ws (Ne.symm h0.n3), h0.byt, hc1.row h0.row fun b o e => (h0.nT b o e).1, h0.n1, h0.n2, h0.n3, h0.n4, h0.n5, h0.n6, h0.nT⟩
  have hbx1 := hc1.box hbx hgne
  have hC1 : Chg (foot fb bb db wb) w W1 := (Chg.of_none hgr _).trans (hc1.mono fun k e => Or.inl e)
  have hsz1 := hc1.size
  clear HX h0 hbx hgr hc1 hb1 e0 c7 c8 f7 f8
  have e1 : W1.cell? ⟨g, 1, none⟩ = some (.slice a2 ts.length c2) := hbx1.c 1
  have c9 : W1.cell? ⟨fb, 9, none⟩ = some (.slice aT T.length cT) := h1.box.c 9
  have f9 := h1.box.f 9
  have hR : ∀ W' : World, W'.cell? ⟨fb, 1, none⟩ = some (.int .i64 m.p) → W'.cell? ⟨fb, 2, none⟩ = some (.int .i64 m.b) → _ := fun W' d1 d2 => sectorbytes_any fb m.p m.b N W' d1 d2 HH.out.2.2.2 (by omega)
  have c1 : W1.cell? ⟨fb, 1, none⟩ = some (.int .i64 m.p) := h1.box.c 1
  have c2' : W1.cell? ⟨fb, 2, none⟩ = some (.int .i64 m.b) := h1.box.c 2
  have HX : Hid _ := And.intro h1 (And.intro hbx1 (And.intro hC1 hR))
  clear h1 hbx1 hC1 hR
  go_wp2_with fail
  have mid : ∀ w', (∃ mm, w' = W1.drew.drewN mm) → w'.cell? ⟨g, 1, none⟩ = some (.slice a2 ts.length c2) ∧ w'.cell? ⟨fb, 1, none⟩ = some (.int .i64 m.p) ∧ w'.cell? ⟨fb, 2, none⟩ = some (.int .i64 m.b) ∧ (∀ o, (w'.alloc o).cell? ⟨fb, 9, none⟩ = some (.slice aT T.length cT)) ∧ (∀ c t, (w'.alloc (.cells c t)).frozen? ⟨fb, 9, none⟩ = false) ∧ Hid (Chg (fun _ => False) W1 w') := by
    rintro w' ⟨mm, rfl⟩
    have hc : Chg (fun _ => False) W1 (W1.drew.drewN mm) := ((Chg.refl _ W1).drewN 1).trans ((Chg.refl _ W1.drew).drewN mm)
    obtain ⟨h1, hbx1, hC1, hR⟩ := HX.out
    have h2 := h1.still hc
    have hbx2 := hc.box hbx1 id
    refine ⟨hbx2.c 1, h2.box.c 1, h2.box.c 2, fun o => ?_, fun c t => ?_, hc⟩
    · exact (h2.still (Chg.of_none (World.grownBy_alloc _ o none) _)).box.c 9
    · exact (h2.still (Chg.of_none (World.grownBy_alloc _ (.cells c t) none) _)).box.f 9
  have HM : Hid _ := mid
  clear mid
  by_cases hL : ts.length ≤ N
  · have hk : ∀ w, (Instr.makeSlice 27 (.int .i64 (ts.length : Int)) (.int .i64 (ts.length : Int))).run Try.prog w = .ok (.slice (some ⟨w.heap.size, 0, none⟩) ts.length ts.length) (w.alloc (.cells (madeCells #[.int .u8 0] ts.length) 5)) := run_make_row' _ _ _ _ (by kernel_rfl) Try.info5 rfl .i64 .i64 ts.length (by omega) (by omega)
    have hL1 : ¬ ((N : Int) < (ts.length : Int)) := by omega
    go_region_held3 (fun w' => w'.cell? ⟨g, 1, none⟩ = some (.slice a2 ts.length c2)) (go_keep) (first | (go_at_call 25; refine (HX.out.2.2.2 _ (by simp [*]) (by simp [*])).mono ?_; rintro e W2 ⟨rfl, hmm⟩; obtain ⟨q1, q2, q3, q4, q5, q6⟩ := HM.out W2 hmm; clear hmm))
    obtain ⟨h1, hbx1, hC1, hR⟩ := HX.out
    have has := as_made (a2 := a2) (ts := ts) ts.length h1 hbx1 hgne hC1 q6.out HH.out.2.1 HH.out.2.2.1
    clear h1 hbx1 hC1 hR e1 c9 f9 c1 c2' HX HM q1 q2 q3 q4 q5 q6 hk
    generalize (W2.alloc (.cells (madeCells #[.int .u8 0] ts.length) 5)).setCell ⟨fb, 9, none⟩ (.slice (some ⟨W2.heap.size, 0, none⟩) ts.length ts.length) = W3 at *
    generalize W2.heap.size = tb at *
    have d9 : W3.cell? ⟨fb, 9, none⟩ = some (.slice (some ⟨tb, 0, none⟩) ts.length ts.length) := has.fx.c 9
    have d1 : W3.cell? ⟨g, 1, none⟩ = some (.slice a2 ts.length c2) := has.bx.c 1
    have hmin : (bv (ts.take ts.length)).length = Nat.min ts.length ts.length := by rw [bv_length, List.length_take, Nat.min_comm]
    have hfit : 0 + (bv (ts.take ts.length)).length ≤ (List.replicate ts.length (Value.int .u8 0)).length := by rw [bv_length, List.length_take, List.length_replicate]; omega
    have hsrc : 0 < (bv (ts.take ts.length)).length → ∃ ad, a2 = some ad ∧ ∀ j v, (bv (ts.take ts.length))[j]? = some v → W3.drew.cell? (ad.add j) = some v := by
      intro h0
      obtain ⟨ad, e, hc⟩ := has.ry.src (by rw [bv_length, List.length_take] at h0; rw [bv_length]; omega)
      refine ⟨ad, e, fun j v hj => hc j v ?_⟩
      rw [← hj]
      unfold bv
      rw [List.map_take, List.getElem?_take]
      split
      · rfl
      · rename_i hn
        unfold bv at hj
        rw [List.map_take, List.getElem?_take, if_neg hn] at hj
        cases hj
    have htx : W3.drew.heap[tb]? = some (.cells (List.replicate ts.length (Value.int .u8 0)).toArray 5 (0, 0)) := has.tx.blk
    have HQ : Hid _ := And.intro has (And.intro hmin (And.intro hfit (And.intro hsrc htx)))
    clear has hmin hfit hsrc htx
    go_wp2_with fail
    go_region_held3 (fun w' => w'.cell? ⟨g, 1, none⟩ = some (.slice a2 ts.length c2) ∧ w'.cell? ⟨fb, 9, none⟩ = some (.slice (some ⟨tb, 0, none⟩) ts.length ts.length)) (go_keep)
      ((refine step_copy_splice (by rfl) _ _ 27 27 (by rfl) 5 Try.underlying27 Try.size5 (some ⟨tb, 0, none⟩) a2 ts.length ts.length ts.length c2 (by rfl) (by rfl) tb 0 _ 5 HQ.out.2.2.2.2 (bv (ts.take ts.length)) HQ.out.2.1 (fun h0 => ⟨rfl, HQ.out.2.2.2.1 h0⟩) HQ.out.2.2.1 (bv_one _) tb W3 ((Below.refl _ W3).drew) (Nat.le_refl _) ?_; intro W4 ht hb4; have r1 := (HQ.out.1.bx.below hb4 HQ.out.1.gt).c 1; have r9 := (HQ.out.1.fx.below hb4 HQ.out.1.lt.1).c 9))
    go_wp2
    go_ret
    exact ⟨rfl, HQ.out.1.end hb4 ht.out N (by exact (Nat.min_eq_left (by omega)).symm) (by omega)⟩
  · have hk : ∀ w, (Instr.makeSlice 27 (.int .i64 (N : Int)) (.int .i64 (N : Int))).run Try.prog w = .ok (.slice (some ⟨w.heap.size, 0, none⟩) N N) (w.alloc (.cells (madeCells #[.int .u8 0] N) 5)) := run_make_row' _ _ _ _ (by kernel_rfl) Try.info5 rfl .i64 .i64 N (by omega) (by omega)
    have hL1 : (N : Int) < (ts.length : Int) := by omega
    go_region_held3 (fun w' => w'.cell? ⟨g, 1, none⟩ = some (.slice a2 ts.length c2)) (go_keep) (first | (go_at_call 25; refine (HX.out.2.2.2 _ (by simp [*]) (by simp [*])).mono ?_; rintro e W2 ⟨rfl, hmm⟩; obtain ⟨q1, q2, q3, q4, q5, q6⟩ := HM.out W2 hmm; clear hmm))
    obtain ⟨h1, hbx1, hC1, hR⟩ := HX.out
    have has := as_made (a2 := a2) (ts := ts) N h1 hbx1 hgne hC1 q6.out HH.out.2.1 HH.out.2.2.1
    clear h1 hbx1 hC1 hR e1 c9 f9 c1 c2' HX HM q1 q2 q3 q4 q5 q6 hk
    generalize (W2.alloc (.cells (madeCells #[.int .u8 0] N) 5)).setCell ⟨fb, 9, none⟩ (.slice (some ⟨W2.heap.size, 0, none⟩) N N) = W3 at *
    generalize W2.heap.size = tb at *
    have d9 : W3.cell? ⟨fb, 9, none⟩ = some (.slice (some ⟨tb, 0, none⟩) N N) := has.fx.c 9
    have d1 : W3.cell? ⟨g, 1, none⟩ = some (.slice a2 ts.length c2) := has.bx.c 1
    have hmin : (bv (ts.take N)).length = Nat.min ts.length N := by rw [bv_length, List.length_take, Nat.min_comm]
    have hfit : 0 + (bv (ts.take N)).length ≤ (List.replicate N (Value.int .u8 0)).length := by rw [bv_length, List.length_take, List.length_replicate]; omega
    have hsrc : 0 < (bv (ts.take N)).length → ∃ ad, a2 = some ad ∧ ∀ j v, (bv (ts.take N))[j]? = some v → W3.drew.cell? (ad.add j) = some v := by
      intro h0
      obtain ⟨ad, e, hc⟩ := has.ry.src (by rw [bv_length, List.length_take] at h0; rw [bv_length]; omega)
      refine ⟨ad, e, fun j v hj => hc j v ?_⟩
      rw [← hj]
      unfold bv
      rw [List.map_take, List.getElem?_take]
      split
      · rfl
      · rename_i hn
        unfold bv at hj
        rw [List.map_take, List.getElem?_take, if_neg hn] at hj
        cases hj
    have htx : W3.drew.heap[tb]? = some (.cells (List.replicate N (Value.int .u8 0)).toArray 5 (0, 0)) := has.tx.blk
    have HQ : Hid _ := And.intro has (And.intro hmin (And.intro hfit (And.intro hsrc htx)))
    clear has hmin hfit hsrc htx
    go_wp2_with fail
    go_region_held3 (fun w' => w'.cell? ⟨g, 1, none⟩ = some (.slice a2 ts.length c2) ∧ w'.cell? ⟨fb, 9, none⟩ = some (.slice (some ⟨tb, 0, none⟩) N N)) (go_keep)
      ((refine step_copy_splice (by rfl) _ _ 27 27 (by rfl) 5 Try.underlying27 Try.size5 (some ⟨tb, 0, none⟩) a2 N N ts.length c2 (by rfl) (by rfl) tb 0 _ 5 HQ.out.2.2.2.2 (bv (ts.take N)) HQ.out.2.1 (fun h0 => ⟨rfl, HQ.out.2.2.2.1 h0⟩) HQ.out.2.2.1 (bv_one _) tb W3 ((Below.refl _ W3).drew) (Nat.le_refl _) ?_; intro W4 ht hb4; have r1 := (HQ.out.1.bx.below hb4 HQ.out.1.gt).c 1; have r9 := (HQ.out.1.fx.below hb4 HQ.out.1.lt.1).c 9))
    go_wp2
    go_ret
    exact ⟨rfl, HQ.out.1.end hb4 ht.out N (by exact (Nat.min_eq_right (by omega)).symm) (by omega)⟩
end Go.Proofs.Ytfhgbddeclldnaa

namespace Go.Proofs.Ytfhgbddeclldnaa
open Go.RowKit
set_option maxRecDepth 100000
set_option linter.unusedSimpArgs false
set_option linter.unusedVariables false

theorem quo_iff {q b : Int} (hb : 0 < b) : Int.tdiv 16777216 b < q ↔ 16777216 < q * b := by
  rw [Int.tdiv_eq_ediv_of_nonneg (by decide)]
  exact Int.ediv_lt_iff_lt_mul hb
theorem grown_drewN {w w' : World} (h : w.grownBy w' none) (n : Nat) : w.grownBy (w'.drewN n) none := by
  have hd := (Chg.refl (fun _ => False) w').drewN n
  exact ⟨hd.os.trans h.os, hd.tape.trans h.tape, hd.output.trans h.output, Nat.le_trans h.size hd.size, fun k hk hr => (hd.block k (Nat.lt_of_lt_of_le hk h.size) id).trans (h.block k hk hr)⟩
set_option maxHeartbeats 1000000 in
theorem pcheck_any (s p b : Int) (w : World) :
    Calls Try.prog 21 #[.agg #[.int .i64 s, .int .i64 p, .int .i64 b]] w fun e w' => e = .returned (.int .i64 (chk s p b)) ∧ w.grownBy w' none := by
  have hs : ∀ W, _ := fun W => within_any s 1 4096 W
  have hp : ∀ W, _ := fun W => within_any p 1 1024 W
  have hb : ∀ W, _ := fun W => within_any b 16 65536 W
  by_cases h1 : 1 ≤ s ∧ s ≤ 4096
  · rw [decide_eq_true h1] at hs
    by_cases h2 : 1 ≤ p ∧ p ≤ 1024
    · rw [decide_eq_true h2] at hp
      by_cases h3 : 16 ≤ b ∧ b ≤ 65536
      · rw [decide_eq_true h3] at hb
        obtain ⟨q1, q2, q3⟩ := prod_in (s := s) (p := p) (b := b) (by omega) (by omega) (by omega) (by omega) (by omega) (by omega)
        have hq := quo_iff (q := s * p) (b := b) (by omega)
        have hb0 : ¬ b = 0 := by omega
        have hb1 : (b == 0) = false := by simpa using hb0
        have e : chk s p b = if 16777216 < s * p * b then 2 else 0 := by unfold chk; rw [if_neg (by omega)]
        rw [e]
        clear e q2
        have hdv : 0 ≤ Int.tdiv 16777216 b ∧ Int.tdiv 16777216 b ≤ 16777216 := ⟨Int.tdiv_nonneg (by decide) (by omega), by
          rw [Int.tdiv_eq_ediv_of_nonneg (by decide)]; exact Int.ediv_le_self _ (by decide)⟩
        have hw4 : IntKind.i64.wrap (Int.tdiv 16777216 b) = Int.tdiv 16777216 b := by rw [IntKind.wrap_i64]; omega
        by_cases h4 : 16777216 < s * p * b
        · rw [if_pos h4]
          have h5 := hq.2 h4
          clear hq h4
          go_enter Try.func21, Try.ntmps21
          go_wp2_with (first | (go_at_call 35; with_reducible refine (hs _).mono ?_; rintro e w' ⟨rfl, rfl⟩) | (go_at_call 35; with_reducible refine (hp _).mono ?_; rintro e w' ⟨rfl, rfl⟩) | (go_at_call 35; with_reducible refine (hb _).mono ?_; rintro e w' ⟨rfl, rfl⟩))
          go_quiet (fail)
          go_wp2
          go_ret
          exact ⟨rfl, grown_drewN (World.grownBy_alloc _ _ _) _⟩
        · rw [if_neg h4]
          have h5 : ¬ Int.tdiv 16777216 b < s * p := fun x => h4 (hq.1 x)
          clear hq h4
          go_enter Try.func21, Try.ntmps21
          go_wp2_with (first | (go_at_call 35; with_reducible refine (hs _).mono ?_; rintro e w' ⟨rfl, rfl⟩) | (go_at_call 35; with_reducible refine (hp _).mono ?_; rintro e w' ⟨rfl, rfl⟩) | (go_at_call 35; with_reducible refine (hb _).mono ?_; rintro e w' ⟨rfl, rfl⟩))
          go_quiet (fail)
          go_wp2
          go_ret
          exact ⟨rfl, grown_drewN (World.grownBy_alloc _ _ _) _⟩
      · rw [decide_eq_false h3] at hb
        have e : chk s p b = 1 := by unfold chk; rw [if_pos (by omega)]
        rw [e]
        go_enter Try.func21, Try.ntmps21
        go_wp2_with (first | (go_at_call 35; with_reducible refine (hs _).mono ?_; rintro e w' ⟨rfl, rfl⟩) | (go_at_call 35; with_reducible refine (hp _).mono ?_; rintro e w' ⟨rfl, rfl⟩) | (go_at_call 35; with_reducible refine (hb _).mono ?_; rintro e w' ⟨rfl, rfl⟩))
        go_ret
        exact ⟨rfl, World.grownBy_alloc _ _ _⟩
    · rw [decide_eq_false h2] at hp
      have e : chk s p b = 1 := by unfold chk; rw [if_pos (by omega)]
      rw [e]
      go_enter Try.func21, Try.ntmps21
      go_wp2_with (first | (go_at_call 35; with_reducible refine (hs _).mono ?_; rintro e w' ⟨rfl, rfl⟩) | (go_at_call 35; with_reducible refine (hp _).mono ?_; rintro e w' ⟨rfl, rfl⟩))
      go_ret
      exact ⟨rfl, World.grownBy_alloc _ _ _⟩
  · rw [decide_eq_false h1] at hs
    have e : chk s p b = 1 := by unfold chk; rw [if_pos (by omega)]
    rw [e]
    go_enter Try.func21, Try.ntmps21
    go_wp2_with (first | (go_at_call 35; with_reducible refine (hs _).mono ?_; rintro e w' ⟨rfl, rfl⟩))
    go_ret
    exact ⟨rfl, World.grownBy_alloc _ _ _⟩
end Go.Proofs.Ytfhgbddeclldnaa
