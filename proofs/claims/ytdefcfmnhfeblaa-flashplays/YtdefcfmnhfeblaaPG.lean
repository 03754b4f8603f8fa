/- The program's Read and Boot. -/
import Derived.Test.YtdefcfmnhfeblaaPD
namespace Go.Proofs.Ytdefcfmnhfeblaa
open Go.RowKit
set_option linter.unusedSimpArgs false
set_option linter.unusedVariables false

theorem pboot_nil (w : World) : Calls Try.prog 17 #[.pointer none] w fun e w' => e = .returned (.tuple #[]) ∧ w = w' := by
  go_enter Try.func17, Try.ntmps17
  go_wp2
  go_end0
  exact ⟨rfl, rfl⟩
theorem pboot_any {w : World} {fb bb db wb : Nat} {m : Fm} {pw left : Int} {aT : Option Addr} {cT : Nat} {T : List Int} (h : PF w fb bb db wb m pw left aT cT T) :
    Calls Try.prog 17 #[.pointer (some ⟨fb, 0, none⟩)] w fun e w' => e = .returned (.tuple #[]) ∧ Chg (foot fb bb db wb) w w' ∧ PF w' fb bb db wb m 1 0 none 0 [] := by
  have f7 := h.box.f 7
  have f8 := h.box.f 8
  have f9 := h.box.f 9
  have c7 : w.cell? ⟨fb, 7, none⟩ = some (.int .i64 pw) := h.box.c 7
  have c8 : w.cell? ⟨fb, 8, none⟩ = some (.int .i64 left) := h.box.c 8
  have c9 : w.cell? ⟨fb, 9, none⟩ = some (.slice aT T.length cT) := h.box.c 9
  have hb := ((h.box.set 7 (.int .i64 1)).set 8 (.int .i64 0)).set 9 (.slice none 0 0)
  have hc : Chg (fun k => k = fb) w (((w.setCell ⟨fb, 7, none⟩ (.int .i64 1)).setCell ⟨fb, 8, none⟩ (.int .i64 0)).setCell ⟨fb, 9, none⟩ (.slice none 0 0)) := ((Chg.set (F := fun k => k = fb) rfl).trans (Chg.set rfl)).trans (Chg.set rfl)
  have HH : Hid _ := And.intro h (And.intro hb hc)
  clear h hb hc
  go_enter Try.func17, Try.ntmps17
  go_wp2
  go_end0
  obtain ⟨h, hb, hc⟩ := HH.out
  exact ⟨rfl, hc.mono fun k e => Or.inl e, ⟨hb, hc.box h.bs (Ne.symm h.n1), hc.box h.ds (Ne.symm h.n2), hc.box h.ws (Ne.symm h.n3), h.byt, Row.none0 _, h.n1, h.n2, h.n3, h.n4, h.n5, h.n6, fun _ _ e => by cases e⟩⟩
/-- what the program's Read answers -/
def PdPost (w : World) (B : List Int) (er : Int) (i n : Nat) (e : Ending) (w' : World) : Prop :=
  ∃ v, e = .returned (.tuple #[v, .int .i64 er]) ∧ w.grownBy w' none ∧ ((er ≠ 0 ∧ v = .slice none 0 0) ∨ (er = 0 ∧ ∃ g, v = .slice (some ⟨g, 0, none⟩) n n ∧ w.heap.size ≤ g ∧ Box w' g 5 (bv ((B.drop i).take n)) ∧ i + n ≤ B.length))
theorem pd_bad (w : World) (B : List Int) (er : Int) (i n : Nat) (h : er ≠ 0) : PdPost w B er i n (.returned (.tuple #[.slice none 0 0, .int .i64 er])) w := ⟨_, rfl, World.grownBy.refl _ _, Or.inl ⟨h, rfl⟩⟩
theorem pread_nil (a n : Int) (w : World) : Calls Try.prog 21 #[.pointer none, .int .i64 a, .int .i64 n] w fun e w' => e = .returned (.tuple #[.slice none 0 0, .int .i64 5]) ∧ w = w' := by
  go_enter Try.func21, Try.ntmps21
  go_wp2
  go_ret2
  exact ⟨rfl, rfl⟩
set_option maxHeartbeats 2000000 in
theorem pread_any {w : World} {fb bb db wb : Nat} {m : Fm} {pw left : Int} {aT : Option Addr} {cT : Nat} {T : List Int} {k : Nat} (h : PF w fb bb db wb m pw left aT cT T) (hg : m.Good k) (hpw : (pw != 0) = !m.off) (at_ n : Int) (ha : -9223372036854775808 ≤ at_ ∧ at_ ≤ 9223372036854775807) (hn : -9223372036854775808 ≤ n ∧ n ≤ 9223372036854775807) :
    Calls Try.prog 21 #[.pointer (some ⟨fb, 0, none⟩), .int .i64 at_, .int .i64 n] w fun e w' => PdPost w m.B (rdE m.B.length m.off at_ n) at_.toNat n.toNat e w' := by
  have hspb := hg.spb
  have hlB := hg.lB
  have hlM : m.B.length ≤ 16384 := by omega
  have c3 : w.cell? ⟨fb, 3, none⟩ = some (.slice (some ⟨bb, 0, none⟩) m.B.length m.B.length) := h.box.c 3
  have c7 : w.cell? ⟨fb, 7, none⟩ = some (.int .i64 pw) := h.box.c 7
  have ho := on_any fb pw w c7
  rw [hpw] at ho
  have HH : Hid _ := h
  clear h hlB hspb hg hpw c7
  unfold rdE
  by_cases h1 : at_ < 0
  · rw [if_pos (Or.inl h1)]
    go_enter Try.func21, Try.ntmps21
    go_wp2
    go_ret2
    exact pd_bad _ _ _ _ _ (by decide)
  · by_cases h2 : n < 0
    · rw [if_pos (Or.inr (Or.inl h2))]
      go_enter Try.func21, Try.ntmps21
      go_wp2
      go_ret2
      exact pd_bad _ _ _ _ _ (by decide)
    · have hwr : IntKind.i64.wrap ((m.B.length : Int) - at_) = (m.B.length : Int) - at_ := by rw [IntKind.wrap_i64]; omega
      by_cases h4 : (m.B.length : Int) - at_ < n
      · rw [if_pos (Or.inr (Or.inr (Or.inr h4)))]
        go_enter Try.func21, Try.ntmps21
        go_wp2
        go_ret2
        exact pd_bad _ _ _ _ _ (by decide)
      · rw [if_neg (by omega)]
        cases hoff : m.off
        · rw [hoff] at ho
          obtain ⟨i, rfl⟩ := Int.eq_ofNat_of_zero_le (by omega : 0 ≤ at_)
          obtain ⟨q, rfl⟩ := Int.eq_ofNat_of_zero_le (by omega : 0 ≤ n)
          obtain ⟨i5, hi5, hz0, hz1, hz2⟩ := info_parts Try.info5
          rw [if_neg (by simp)]
          have HI : Hid _ := And.intro hi5 (And.intro hz0 (And.intro hz1 hz2))
          clear hi5 hz0 hz1 hz2 hoff
          have hq : (q : Int) ≤ 16384 := by omega
          go_enter Try.func21, Try.ntmps21
          go_wp2_with (first | (go_at_call 28; refine ho.mono ?_; rintro e w' ⟨rfl, rfl⟩) | (at_make; refine wpList_make8 _ rfl _ _ 34 rfl i5 Try.underlying34 HI.out.1 HI.out.2.1 HI.out.2.2.1 HI.out.2.2.2 _ _ _ _ q rfl rfl rfl rfl (by omega) ?_))
          intro w1 hb1 hg1 hs1
          have h1' := HH.out.still (Chg.of_none hg1 _)
          have d3 : w1.cell? ⟨fb, 3, none⟩ = some (.slice (some ⟨bb, 0, none⟩) m.B.length m.B.length) := h1'.box.c 3
          have RB : Row w1 (some ⟨bb, 0, none⟩) m.B.length m.B := (Blk.row (show Blk w1 bb (bv m.B) from h1'.bs.blk) h1'.byt (by unfold maxLen; omega))
          have HW : Hid _ := And.intro hb1 (And.intro hg1 RB)
          clear h1' c3 hb1 hg1 RB ho
          have hmin : (bv ((m.B.drop i).take q)).length = Nat.min (m.B.length - i) q := by
            rw [bv_length, List.length_take, List.length_drop, Nat.min_comm]
          have HM : Hid _ := hmin
          clear hmin
          by_cases hcc : m.B.length = i
          · have eq0 : q = 0 := by omega
            subst eq0
            have hfit : 0 + (bv ((m.B.drop i).take 0)).length ≤ (List.replicate 0 (Value.int .u8 0)).length := by simp [bv]
            have HF : Hid _ := hfit
            clear hfit
            go_wp2_with (first | ((with_reducible refine copy_here ?_); go_loud (refine wpList_copy8 rfl _ _ 34 34 rfl Try.underlying34 Try.size5 _ _ _ _ _ _ rfl rfl w.heap.size 0 _ HW.out.1 (bv ((m.B.drop i).take 0)) (by simp [bv]) (fun h0 => by simp [bv] at h0) HF.out (bv_one _) ?_)))
            intro w2 hb2 hg2 hs2
            go_wp2
            go_ret2
            obtain ⟨hb1, hg1, RB⟩ := HW.out
            rw [splice_all _ _ (by simp [bv])] at hb2
            exact ⟨_, rfl, grown_new hg1 hg2 (Nat.le_refl _), Or.inr ⟨rfl, w.heap.size, rfl, Nat.le_refl _, ⟨hb2⟩, by omega⟩⟩
          · have hsrc : 0 < (bv ((m.B.drop i).take q)).length → ∃ ad, (some (⟨bb, i, none⟩ : Addr)) = some ad ∧ ∀ j v, (bv ((m.B.drop i).take q))[j]? = some v → w1.cell? (ad.add j) = some v := by
              have RP := HW.out.2.2.part i q (by omega)
              rw [Nat.zero_add] at RP
              exact RP.src
            have HS : Hid _ := hsrc
            clear hsrc
            have hfit : 0 + (bv ((m.B.drop i).take q)).length ≤ (List.replicate q (Value.int .u8 0)).length := by rw [bv_length, List.length_take, List.length_drop]; simp; omega
            have HF : Hid _ := hfit
            clear hfit
            go_wp2_with (first | ((with_reducible refine copy_here ?_); go_loud (refine wpList_copy8 rfl _ _ 34 34 rfl Try.underlying34 Try.size5 _ _ _ _ _ _ rfl rfl w.heap.size 0 _ HW.out.1 (bv ((m.B.drop i).take q)) HM.out (fun h0 => ⟨rfl, HS.out h0⟩) HF.out (bv_one _) ?_)))
            intro w2 hb2 hg2 hs2
            go_wp2
            go_ret2
            obtain ⟨hb1, hg1, RB⟩ := HW.out
            rw [splice_all _ _ (by rw [bv_length, List.length_take, List.length_drop]; simp; omega)] at hb2
            exact ⟨_, rfl, grown_new hg1 hg2 (Nat.le_refl _), Or.inr ⟨rfl, w.heap.size, rfl, Nat.le_refl _, ⟨hb2⟩, by omega⟩⟩
        · rw [hoff] at ho
          go_enter Try.func21, Try.ntmps21
          go_wp2_with (first | (go_at_call 28; refine ho.mono ?_; rintro e w' ⟨rfl, rfl⟩))
          go_ret2
          exact pd_bad _ _ _ _ _ (by decide)
end Go.Proofs.Ytdefcfmnhfeblaa
