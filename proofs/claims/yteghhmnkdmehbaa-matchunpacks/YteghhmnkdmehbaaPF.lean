/- The program's tell and lay: a sequence's bytes. -/
import Derived.Test.YteghhmnkdmehbaaRL
import Derived.Test.YteghhmnkdmehbaaLB
namespace Go.Proofs.Yteghhmnkdmehbaa
open Go.RowKit
set_option linter.unusedSimpArgs false
set_option linter.unusedVariables false

/-- bytes that have been appended since w -/
structure Jn (w W : World) (v : Value) (bts : List Int) : Prop where
  own : W.ownsRow w.heap.size 5 1 v bts.length (bv bts)
  g : w.grownBy W none
  byt : Byt bts
theorem Jn.app {w W W' : World} {v v' : Value} {bts xs : List Int} {n : Nat} (h : Jn w W v bts) (o : W'.ownsRow w.heap.size 5 1 v' (bts.length + n) (bv bts ++ bv xs)) (hx : Byt xs) (hn : xs.length = n) (k : W.grownBy W' v.ownBlock) : Jn w W' v' (bts ++ xs) :=
  ⟨by rw [bv_append, List.length_append, hn]; exact o, grown_own h.g h.own k (Nat.le_refl _), h.byt.append hx⟩
theorem Jn.keep {w W W' : World} {v : Value} {bts : List Int} (h : Jn w W v bts) (k : W.grownBy W' none) : Jn w W' v bts :=
  ⟨h.own.kept k (by cases v.ownBlock <;> simp), grown_trans h.g k, h.byt⟩
/-- variables that hold a sequence stay -/
def Kb (W W' : World) : Prop := ∀ g cs, Box W g 51 cs → Box W' g 51 cs
theorem Kb.refl (W : World) : Kb W W := fun _ _ h => h
theorem Kb.trans {a b c : World} (h : Kb a b) (k : Kb b c) : Kb a c := fun g cs x => k g cs (h g cs x)
theorem Kb.of {W W' : World} (h : W.grownBy W' none) : Kb W W' := fun _ _ x => x.kept h (by simp)
theorem Jn.kb {w W W' : World} {v : Value} {bts : List Int} (h : Jn w W v bts) (k : W.grownBy W' v.ownBlock) : Kb W W' := fun _ _ x => x.kept k (own_box h.own x (by decide))

set_option maxHeartbeats 1000000 in
theorem tell_any (w W : World) (v : Value) (bts : List Int) (n : Int) (J : Jn w W v bts) (hn : 0 ≤ n ∧ n ≤ 16777216) (hb : bts.length ≤ 1099511627776) :
    Calls Try.prog 36 #[v, .int .i64 n] W fun e W' => ∃ v', e = .returned v' ∧ Jn w W' v' (bts ++ tol n) ∧ Kb W W' := by
  obtain ⟨i5, hi, hz0, hz1, hz2⟩ := info_parts Try.info5
  by_cases h1 : n < 15
  · have e : tol n = [] := by unfold tol; rw [if_pos h1]
    rw [e, List.append_nil]
    go_enter Try.func36, Try.ntmps36
    go_wp2
    go_ret
    exact ⟨_, rfl, J, Kb.refl _⟩
  · have HJ : Hid _ := J
    clear J
    go_enter Try.func36, Try.ntmps36
    go_wp2
    go_loopw [0, 1] (fun v vn wr => ∃ (j : Nat) (m : Int), vn = .int .i64 m ∧ 0 ≤ m ∧ m + 255 * j + 15 = n ∧ Hid (Jn w wr v (bts ++ List.replicate j 255) ∧ Kb W wr)) (fun _ vn _ => (intOf vn).toNat)
    case atStart => exact ⟨0, n - 15, rfl, by omega, by omega, by rw [List.replicate_zero, List.append_nil]; exact ⟨HJ.out, Kb.refl _⟩⟩
    case round =>
      clear HJ
      obtain ⟨j, m, rfl, hm0, hm1, HO⟩ := hrel
      have hsz : w.heap.size ≤ wr.heap.size := HO.out.1.g.size
      have hll : (bts ++ List.replicate j 255).length = bts.length + j := by simp
      have hjb : j ≤ 16777216 := by omega
      have hb1 : (bts.length + j + 1) * 1 ≤ 140737488355328 := by omega
      have hb2 : bts.length + j + 1 ≤ maxLen := by unfold maxLen; omega
      have HM : Hid (m + 255 * j + 15 = n) := hm1
      have hmn : m ≤ 16777216 := by omega
      have hown := HO.out.1.own
      rw [hll] at hown
      clear hm1
      by_cases k1 : 255 ≤ m
      · go_wp2_with (at_builtin; (refine wpList_append_own _ rfl _ _ 22 rfl w.heap.size 5 i5 (.int .u8 0) 1 1 Try.underlying22 hi hz0 hz1 hz2 rfl (by decide) _ (bts.length + j) _ rfl (hown.alloc _) ⟨wr.heap.size, 0, none⟩ 1 1 [.int .u8 255] rfl rfl (cell_one _ _ _) (by simp [Value.oneCell']) hb2 hb1 (by simp; omega) ?_))
        intro v' w1 o1 g1 _
        have J1 := (HO.out.1.keep (World.grownBy_alloc wr (.cells #[.int .u8 255] 5) none)).app (xs := [255]) (n := 1) (by rw [hll]; exact o1) (by intro x hx; simp at hx; omega) rfl g1
        rw [List.append_assoc, ← List.replicate_succ'] at J1
        have HN : Hid (Jn w w1 v' (bts ++ List.replicate (j + 1) 255) ∧ Kb W w1) := ⟨J1, (HO.out.2.trans (Kb.of (World.grownBy_alloc wr (.cells #[.int .u8 255] 5) none))).trans ((HO.out.1.keep (World.grownBy_alloc wr (.cells #[.int .u8 255] 5) none)).kb g1)⟩
        clear o1 J1 g1 hown HO hb1 hb2 hll
        go_wp2
        go_roundw
        case rel => exact ⟨j + 1, m - 255, by go_num, by omega, by have := HM.out; omega, HN⟩
        case measure => simp [intOf]; omega
      · have hq := HM.out
        have e1 : (n - 15) / 255 = j := by omega
        have e2 : (n - 15) % 255 = m := by omega
        have et : tol n = List.replicate j 255 ++ [m] := by unfold tol; rw [if_neg (by omega), e1, e2]; simp
        have HT : Hid (tol n = List.replicate j 255 ++ [m]) := et
        clear hq e1 e2 et
        go_wp2_with (at_builtin; (refine wpList_append_own _ rfl _ _ 22 rfl w.heap.size 5 i5 (.int .u8 0) 1 1 Try.underlying22 hi hz0 hz1 hz2 rfl (by decide) _ (bts.length + j) _ rfl (hown.alloc _) ⟨wr.heap.size, 0, none⟩ 1 1 [.int .u8 m] rfl rfl (cell_one _ _ _) (by simp [Value.oneCell']) hb2 hb1 (by simp; omega) ?_))
        intro v' w1 o1 g1 _
        have J1 := (HO.out.1.keep (World.grownBy_alloc wr (.cells #[.int .u8 m] 5) none)).app (xs := [m]) (n := 1) (by rw [hll]; exact o1) (by intro x hx; simp at hx; omega) rfl g1
        rw [List.append_assoc, ← HT.out] at J1
        have HN : Hid (Jn w w1 v' (bts ++ tol n) ∧ Kb W w1) := ⟨J1, (HO.out.2.trans (Kb.of (World.grownBy_alloc wr (.cells #[.int .u8 m] 5) none))).trans ((HO.out.1.keep (World.grownBy_alloc wr (.cells #[.int .u8 m] 5) none)).kb g1)⟩
        clear o1 J1 g1 hown HO hb1 hb2 hll
        go_wp2
        go_ret
        exact ⟨_, rfl, HN.out.1, HN.out.2⟩
end Go.Proofs.Yteghhmnkdmehbaa
