/- The document's reader: texts; whatever comes in. -/
import Derived.Test.YthnehebkkfegdaaC2
namespace Go.Proofs.Ythnehebkkfegdaa
open Go.RowKit
attribute [local go_sem ↓] Go.wp_at_zero Go.wp_at_succ

theorem refread_tshort (a : Option Addr) (len cap : Nat) (at_ : Nat) (n v : Int) (ba : Option Addr) (bl bc : Nat) (w : World) (hl : len ≤ 2000000) (ha : at_ ≤ 2000000) (hn : 0 ≤ n) (hin : ¬ at_ + 2 ≤ len) :
    Calls Try.prog 22 #[.agg #[.slice a len cap, .int .i64 at_, .int .i64 0], .agg #[.int .i64 2, .int .i64 n, .int .u64 v, .slice ba bl bc]] w fun r w' => r = .returned (.tuple #[.agg #[.slice a len cap, .int .i64 at_, .int .i64 6], .agg #[.int .u64 0, .slice none 0 0]]) ∧ w.grownBy w' none := by
  have hib : inB len at_ 2 = false := by simp [inB]; omega
  have hdn : decide (n < 0) = false := by simpa using hn
  go_enter Try.func22, Try.ntmps22
  go_wp2_with (first | (go_at_call 20; refine (in_any a len cap at_ 2 _ (by unfold maxLen; omega) (by omega) (by omega)).mono ?_; rintro e w' ⟨rfl, rfl⟩))
  exact bodyPost_ret (v := .tuple #[.agg #[.slice a len cap, .int .i64 at_, .int .i64 6], .agg #[.int .u64 0, .slice none 0 0]]) (by simp [results, Try.results22, go_sem]) rfl ⟨rfl, grown4 _ _ _ _ _⟩

theorem load_two (a : Option Addr) (len cap : Nat) (bs : List Int) (at_ k : Nat) (w : World) (R : Row w a len bs) (hin : at_ + 2 ≤ len) (hk : le ((bs.drop at_).take 2) = k) :
    Calls Try.prog 37 #[.slice a len cap, .int .i64 at_, .int .i64 2] w fun e w' => e = .returned (.int .u64 k) ∧ w = w' := by
  rw [← hk]
  exact load_row a len cap bs at_ 2 w R (by omega) (by omega) hin

set_option maxHeartbeats 800000 in
theorem refread_tlong (a : Option Addr) (len cap : Nat) (bs : List Int) (at_ k : Nat) (n v : Int) (ba : Option Addr) (bl bc : Nat) (w : World) (R : Row w a len bs) (hl : len ≤ 2000000) (hn : 0 ≤ n) (hin : at_ + 2 ≤ len) (hk : le ((bs.drop at_).take 2) = k) (hk2 : k ≤ 65535) (hlong : n < k) :
    Calls Try.prog 22 #[.agg #[.slice a len cap, .int .i64 at_, .int .i64 0], .agg #[.int .i64 2, .int .i64 n, .int .u64 v, .slice ba bl bc]] w fun r w' => r = .returned (.tuple #[.agg #[.slice a len cap, .int .i64 at_, .int .i64 2], .agg #[.int .u64 0, .slice none 0 0]]) ∧ w.grownBy w' none := by
  have hib : inB len at_ 2 = true := by simp [inB]; omega
  have hdn : decide (n < 0) = false := by simpa using hn
  have HK : Hid (le ((bs.drop at_).take 2) = k) := hk
  clear hk
  go_enter Try.func22, Try.ntmps22
  go_wp2_with (first | (go_at_call 20; refine (in_any a len cap at_ 2 _ (by unfold maxLen; omega) (by omega) (by omega)).mono ?_; rintro e w' ⟨rfl, rfl⟩) | (go_at_call 37; refine (load_two a len cap bs at_ k _ ?_ hin HK.out).mono ?_; (exact R.grown (grown4 _ _ _ _ _)); rintro e w' ⟨rfl, rfl⟩))
  exact bodyPost_ret (v := .tuple #[.agg #[.slice a len cap, .int .i64 at_, .int .i64 2], .agg #[.int .u64 0, .slice none 0 0]]) (by simp [results, Try.results22, go_sem]) rfl ⟨rfl, grown4 _ _ _ _ _⟩

set_option maxHeartbeats 800000 in
theorem refread_tout (a : Option Addr) (len cap : Nat) (bs : List Int) (at_ k : Nat) (n v : Int) (ba : Option Addr) (bl bc : Nat) (w : World) (R : Row w a len bs) (hl : len ≤ 2000000) (hn : 0 ≤ n) (hin : at_ + 2 ≤ len) (hk : le ((bs.drop at_).take 2) = k) (hk2 : k ≤ 65535) (hs : ¬ n < k) (hin2 : ¬ at_ + 2 + k ≤ len) :
    Calls Try.prog 22 #[.agg #[.slice a len cap, .int .i64 at_, .int .i64 0], .agg #[.int .i64 2, .int .i64 n, .int .u64 v, .slice ba bl bc]] w fun r w' => r = .returned (.tuple #[.agg #[.slice a len cap, .int .i64 at_, .int .i64 6], .agg #[.int .u64 0, .slice none 0 0]]) ∧ w.grownBy w' none := by
  have hib : inB len at_ 2 = true := by simp [inB]; omega
  have hib2 : inB len ((at_ : Int) + 2) k = false := by simp [inB]; omega
  have hdn : decide (n < 0) = false := by simpa using hn
  have HK : Hid (le ((bs.drop at_).take 2) = k) := hk
  clear hk
  go_enter Try.func22, Try.ntmps22
  go_wp2_with (first | (go_at_call_of 20 (Value.int IntKind.i64 2); refine (in_any a len cap at_ 2 _ (by unfold maxLen; omega) (by omega) (by omega)).mono ?_; rintro e w' ⟨rfl, rfl⟩) | (go_at_call 37; refine (load_two a len cap bs at_ k _ ?_ hin HK.out).mono ?_; (exact R.grown (grown4 _ _ _ _ _)); rintro e w' ⟨rfl, rfl⟩) | (go_at_call 20; refine (in_any a len cap ((at_ : Int) + 2) k _ (by unfold maxLen; omega) (by omega) (by omega)).mono ?_; rintro e w' ⟨rfl, rfl⟩))
  exact bodyPost_ret (v := .tuple #[.agg #[.slice a len cap, .int .i64 at_, .int .i64 6], .agg #[.int .u64 0, .slice none 0 0]]) (by simp [results, Try.results22, go_sem]) rfl ⟨rfl, grown4 _ _ _ _ _⟩

set_option maxHeartbeats 1600000 in
theorem refread_tcut (a : Option Addr) (len cap : Nat) (bs : List Int) (at_ k : Nat) (n v : Int) (ba : Option Addr) (bl bc : Nat) (ta : Option Addr) (tc : Nat) (w : World) (R : Row w a len bs) (hl : len ≤ 2000000) (hn : 0 ≤ n) (hin : at_ + 2 ≤ len) (HK : Hid (le ((bs.drop at_).take 2) = k)) (hk2 : k ≤ 65535) (hs : ¬ n < k) (hin2 : at_ + 2 + k ≤ len) (_ : (at_ : Int) + 2 + k ≤ cap)
    (hcut : ∀ w, (Instr.slice 22 (.slice a len cap) (some (.int .i64 ((at_ : Int) + 2))) (some (.int .i64 ((at_ : Int) + 2 + k))) none).run Try.prog w = .ok (.slice ta k tc) w) :
    Calls Try.prog 22 #[.agg #[.slice a len cap, .int .i64 at_, .int .i64 0], .agg #[.int .i64 2, .int .i64 n, .int .u64 v, .slice ba bl bc]] w fun r w' => r = .returned (.tuple #[.agg #[.slice a len cap, .int .i64 ((at_ : Int) + 2 + k), .int .i64 0], .agg #[.int .u64 0, .slice ta k tc]]) ∧ w.grownBy w' none := by
  have hib : inB len at_ 2 = true := by simp [inB]; omega
  have hib2 : inB len ((at_ : Int) + 2) k = true := by simp [inB]; omega
  have hdn : decide (n < 0) = false := by simpa using hn
  have hwr : IntKind.i64.wrap ((at_ : Int) + 2 + k) = (at_ : Int) + 2 + k := by rw [IntKind.wrap_i64]; omega
  have b1 : (0 : Int) ≤ (at_ : Int) + 2 := by omega
  have b2 : (at_ : Int) + 2 ≤ at_ + 2 + k := by omega
  go_enter Try.func22, Try.ntmps22
  go_wp2_with (first | (go_at_call_of 20 (Value.int IntKind.i64 2); refine (in_any a len cap at_ 2 _ (by unfold maxLen; omega) (by omega) (by omega)).mono ?_; rintro e w' ⟨rfl, rfl⟩) | (go_at_call 37; refine (load_two a len cap bs at_ k _ ?_ hin HK.out).mono ?_; (exact R.grown (grown4 _ _ _ _ _)); rintro e w' ⟨rfl, rfl⟩) | (go_at_call 20; refine (in_any a len cap ((at_ : Int) + 2) k _ (by unfold maxLen; omega) (by omega) (by omega)).mono ?_; rintro e w' ⟨rfl, rfl⟩))
  go_region_with (fail)
  all_goals
    go_wp2_with fail
    exact bodyPost_ret (v := .tuple #[.agg #[.slice a len cap, .int .i64 ((at_ : Int) + 2 + k), .int .i64 0], .agg #[.int .u64 0, .slice ta k tc]]) (by simp [results, Try.results22, go_sem]) rfl ⟨rfl, grown_trans (grown4 _ _ _ _ _) (grown_drew _ _)⟩

theorem refread_tok (a : Option Addr) (len cap : Nat) (bs : List Int) (at_ k : Nat) (n v : Int) (ba : Option Addr) (bl bc : Nat) (w : World) (R : Row w a len bs) (hc : len ≤ cap) (hl : len ≤ 2000000) (hn : 0 ≤ n) (hin : at_ + 2 ≤ len) (hk : le ((bs.drop at_).take 2) = k) (hk2 : k ≤ 65535) (hs : ¬ n < k) (hin2 : at_ + 2 + k ≤ len) :
    Calls Try.prog 22 #[.agg #[.slice a len cap, .int .i64 at_, .int .i64 0], .agg #[.int .i64 2, .int .i64 n, .int .u64 v, .slice ba bl bc]] w fun r w' => ∃ ta tc, r = .returned (.tuple #[.agg #[.slice a len cap, .int .i64 ((at_ : Int) + 2 + k), .int .i64 0], .agg #[.int .u64 0, .slice ta k tc]]) ∧ (∀ w0, Row w0 a len bs → Row w0 ta k ((bs.drop (at_ + 2)).take k)) ∧ w.grownBy w' none := by
  have e2 : ((at_ + 2 : Nat) : Int) = (at_ : Int) + 2 := by omega
  by_cases hck : cap = at_ + 2
  · have hk0 : k = 0 := by omega
    have hcut := cut_run0 a len (at_ + 2) k (by omega)
    rw [e2, ← hck] at hcut
    refine (refread_tcut a len cap bs at_ k n v ba bl bc a 0 w R hl hn hin hk hk2 hs hin2 (by omega) hcut).mono ?_
    rintro r w' ⟨rfl, g⟩
    exact ⟨a, 0, rfl, fun _ _ => Row.zero a bs (at_ + 2) k (by omega), g⟩
  · have hcut := cut_run a len cap (at_ + 2) k (by omega) hck
    rw [e2] at hcut
    refine (refread_tcut a len cap bs at_ k n v ba bl bc _ _ w R hl hn hin hk hk2 hs hin2 (by omega) hcut).mono ?_
    rintro r w' ⟨rfl, g⟩
    exact ⟨_, _, rfl, fun _ R0 => R0.cut (at_ + 2) k hin2, g⟩
end Go.Proofs.Ythnehebkkfegdaa
