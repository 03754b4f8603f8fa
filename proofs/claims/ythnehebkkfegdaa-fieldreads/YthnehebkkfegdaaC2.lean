/- The document's reader: what it tells. -/
import Derived.Test.YthnehebkkfegdaaC1
import Derived.Deep.RegionHeld
namespace Go.Proofs.Ythnehebkkfegdaa
open Go.RowKit
set_option linter.unusedSimpArgs false
set_option linter.unusedVariables false
attribute [local go_sem ↓] Go.wp_at_zero Go.wp_at_succ

theorem Try.elem22 : Try.prog.elem 22 = 5 := by kernel_rfl
theorem cut_run (a : Option Addr) (len cap k m : Nat) (h : k + m ≤ cap) (hne : ¬ cap = k) (w : World) :
    (Instr.slice 22 (.slice a len cap) (some (.int .i64 k)) (some (.int .i64 ((k : Int) + m))) none).run Try.prog w = .ok (.slice (a.map (·.add k)) m (cap - k)) w := by
  obtain ⟨i5, hi, _, hz1, _⟩ := info_parts Try.info5
  rw [run_slice_lh _ 22 a len cap (by rw [Try.elem22]; exact Try.underlying22) .i64 .i64 k (k + m) (by omega) (by omega) (by omega), Try.elem22]
  have e : ((k : Int) + m).toNat = k + m := by omega
  simp [sizeOf, typeInfo, hi, hz1, Result.andThen, sliced, hne, e]
theorem cut_run0 (a : Option Addr) (len k m : Nat) (h : k + m ≤ k) (w : World) :
    (Instr.slice 22 (.slice a len k) (some (.int .i64 k)) (some (.int .i64 ((k : Int) + m))) none).run Try.prog w = .ok (.slice a m 0) w := by
  obtain ⟨i5, hi, _, hz1, _⟩ := info_parts Try.info5
  rw [run_slice_lh _ 22 a len k (by rw [Try.elem22]; exact Try.underlying22) .i64 .i64 k (k + m) (by omega) (by omega) (by omega), Try.elem22]
  have e : ((k : Int) + m).toNat = k + m := by omega
  simp [sizeOf, typeInfo, hi, hz1, Result.andThen, sliced, e]

set_option maxHeartbeats 1600000 in
theorem refread_nok (a : Option Addr) (len cap : Nat) (bs : List Int) (at_ m : Nat) (v : Int) (ba : Option Addr) (bl bc : Nat) (w : World) (R : Row w a len bs) (hl : len ≤ 2000000) (hW : isW m = true) (hin : at_ + m ≤ len) :
    Calls Try.prog 22 #[.agg #[.slice a len cap, .int .i64 at_, .int .i64 0], .agg #[.int .i64 0, .int .i64 m, .int .u64 v, .slice ba bl bc]] w fun r w' => r = .returned (.tuple #[.agg #[.slice a len cap, .int .i64 ((at_ : Int) + m), .int .i64 0], .agg #[.int .u64 (le ((bs.drop at_).take m)), .slice none 0 0]]) ∧ w.grownBy w' none := by
  have hm := isW_pos hW
  have hib : inB len at_ m = true := by simp [inB]; omega
  have hdn : decide ((m : Int) < 0) = false := by simp
  have hL : Hid (∀ w', Row w' a len bs → Calls Try.prog 37 #[.slice a len cap, .int .i64 at_, .int .i64 m] w' fun e w'' => e = .returned (.int .u64 (le ((bs.drop at_).take m))) ∧ w' = w'') := fun w' R' => load_row a len cap bs at_ m w' R' (by omega) (by omega) hin
  generalize le ((bs.drop at_).take m) = V at *
  go_enter Try.func22, Try.ntmps22
  go_wp2_with (first | (go_at_call 14; refine (width_any _ _).mono ?_; rintro e w' ⟨rfl, rfl⟩) | (go_at_call 20; refine (in_any a len cap at_ m _ (by unfold maxLen; omega) (by omega) (by omega)).mono ?_; rintro e w' ⟨rfl, rfl⟩))
  go_region_with (first | (go_at_call 37; refine (hL.out _ ?_).mono ?_; (exact R.below (((((Below.refl _ w).alloc (Nat.le_refl _) _).alloc (by simp) _).alloc (by simp; omega) _).alloc (by simp; omega) _).drew); rintro e w' ⟨rfl, rfl⟩))
  all_goals
    go_wp2_with fail
    exact bodyPost_ret (v := .tuple #[.agg #[.slice a len cap, .int .i64 ((at_ : Int) + m), .int .i64 0], .agg #[.int .u64 V, .slice none 0 0]]) (by simp [results, Try.results22, go_sem]) rfl ⟨rfl, grown_trans (grown4 _ _ _ _ _) (grown_drew _ _)⟩

set_option maxHeartbeats 1600000 in
theorem refread_bok (a : Option Addr) (len cap : Nat) (bs : List Int) (at_ m : Nat) (d v : Int) (ba : Option Addr) (bl bc : Nat) (w : World) (R : Row w a len bs) (hc : len ≤ cap) (hl : len ≤ 2000000) (hd : (d == 0) = false) (hd2 : (d == 2) = false) (hin : at_ + m ≤ len) :
    Calls Try.prog 22 #[.agg #[.slice a len cap, .int .i64 at_, .int .i64 0], .agg #[.int .i64 d, .int .i64 m, .int .u64 v, .slice ba bl bc]] w fun r w' => ∃ ta tc, r = .returned (.tuple #[.agg #[.slice a len cap, .int .i64 ((at_ : Int) + m), .int .i64 0], .agg #[.int .u64 0, .slice ta m tc]]) ∧ (∀ w0, Row w0 a len bs → Row w0 ta m ((bs.drop at_).take m)) ∧ w.grownBy w' none := by
  have hib : inB len at_ m = true := by simp [inB]; omega
  have hdn : decide ((m : Int) < 0) = false := by simp
  have hwr : IntKind.i64.wrap ((at_ : Int) + m) = (at_ : Int) + m := by rw [IntKind.wrap_i64]; omega
  have b1 : (0 : Int) ≤ at_ := by omega
  have b2 : (at_ : Int) ≤ at_ + m := by omega
  have b3 : (at_ : Int) + m ≤ cap := by omega
  by_cases hck : cap = at_
  · subst hck
    have hcut := cut_run0 a len cap m (by omega)
    go_enter Try.func22, Try.ntmps22
    go_wp2_with (first | (go_at_call 20; refine (in_any a len cap cap m _ (by unfold maxLen; omega) (by omega) (by omega)).mono ?_; rintro e w' ⟨rfl, rfl⟩))
    go_region_with (fail)
    all_goals
      go_wp2_with fail
      exact bodyPost_ret (v := .tuple #[.agg #[.slice a len cap, .int .i64 ((cap : Int) + m), .int .i64 0], .agg #[.int .u64 0, .slice a m 0]]) (by simp [results, Try.results22, go_sem]) rfl ⟨a, 0, rfl, fun _ _ => Row.zero a bs cap m (by omega), grown_trans (grown4 _ _ _ _ _) (grown_drew _ _)⟩
  · have hcut := cut_run a len cap at_ m (by omega) hck
    go_enter Try.func22, Try.ntmps22
    go_wp2_with (first | (go_at_call 20; refine (in_any a len cap at_ m _ (by unfold maxLen; omega) (by omega) (by omega)).mono ?_; rintro e w' ⟨rfl, rfl⟩))
    go_region_with (fail)
    all_goals
      go_wp2_with fail
      exact bodyPost_ret (v := .tuple #[.agg #[.slice a len cap, .int .i64 ((at_ : Int) + m), .int .i64 0], .agg #[.int .u64 0, .slice (a.map (·.add at_)) m (cap - at_)]]) (by simp [results, Try.results22, go_sem]) rfl ⟨_, _, rfl, fun _ R0 => R0.cut at_ m hin, grown_trans (grown4 _ _ _ _ _) (grown_drew _ _)⟩
end Go.Proofs.Ythnehebkkfegdaa
