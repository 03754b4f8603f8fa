/- Contracts of the document's reader. -/
import Derived.Test.YthnehebkkfegdaaA8
import Derived.Deep.RegionWith
namespace Go.Proofs.Ythnehebkkfegdaa
open Go.RowKit
attribute [local go_sem ↓] Go.wp_at_zero Go.wp_at_succ

theorem grown4 (w : World) (o1 o2 o3 o4 : Obj) : w.grownBy ((((w.alloc o1).alloc o2).alloc o3).alloc o4) none :=
  grown_trans (grown_trans (grown_trans (World.grownBy_alloc w o1 none) (World.grownBy_alloc _ o2 none)) (World.grownBy_alloc _ o3 none)) (World.grownBy_alloc _ o4 none)

theorem load_row (a : Option Addr) (len cap : Nat) (bs : List Int) (k n : Nat) (w : World) (R : Row w a len bs) (h0 : 0 < n) (hn8 : n ≤ 8) (hin : k + n ≤ len) :
    Calls Try.prog 37 #[.slice a len cap, .int .i64 k, .int .i64 n] w fun e w' => e = .returned (.int .u64 (le ((bs.drop k).take n))) ∧ w = w' := by
  obtain ⟨b, off, rfl, hc⟩ := R.cells (by omega)
  exact load_in b off len cap bs k n w R.le R.len_eq R.byt hn8 hin hc

theorem refread_stop (a : Option Addr) (len cap : Nat) (at_ e d n v : Int) (ba : Option Addr) (bl bc : Nat) (w : World) (he : (e != 0) = true) :
    Calls Try.prog 22 #[.agg #[.slice a len cap, .int .i64 at_, .int .i64 e], .agg #[.int .i64 d, .int .i64 n, .int .u64 v, .slice ba bl bc]] w fun r w' => r = .returned (.tuple #[.agg #[.slice a len cap, .int .i64 at_, .int .i64 e], .agg #[.int .u64 0, .slice none 0 0]]) ∧ w.grownBy w' none := by
  go_enter Try.func22, Try.ntmps22
  go_wp2
  exact bodyPost_ret (v := .tuple #[.agg #[.slice a len cap, .int .i64 at_, .int .i64 e], .agg #[.int .u64 0, .slice none 0 0]]) (by simp [results, Try.results22, go_sem]) rfl ⟨rfl, grown4 _ _ _ _ _⟩

theorem refread_width (a : Option Addr) (len cap : Nat) (at_ n v : Int) (ba : Option Addr) (bl bc : Nat) (w : World) (hW : isW n = false) :
    Calls Try.prog 22 #[.agg #[.slice a len cap, .int .i64 at_, .int .i64 0], .agg #[.int .i64 0, .int .i64 n, .int .u64 v, .slice ba bl bc]] w fun r w' => r = .returned (.tuple #[.agg #[.slice a len cap, .int .i64 at_, .int .i64 1], .agg #[.int .u64 0, .slice none 0 0]]) ∧ w.grownBy w' none := by
  go_enter Try.func22, Try.ntmps22
  go_wp2_with (go_at_call 14; refine (width_any _ _).mono ?_; rintro e w' ⟨rfl, rfl⟩)
  exact bodyPost_ret (v := .tuple #[.agg #[.slice a len cap, .int .i64 at_, .int .i64 1], .agg #[.int .u64 0, .slice none 0 0]]) (by simp [results, Try.results22, go_sem]) rfl ⟨rfl, grown4 _ _ _ _ _⟩

theorem refread_neg (a : Option Addr) (len cap : Nat) (at_ d n v : Int) (ba : Option Addr) (bl bc : Nat) (w : World) (hd : (d == 0) = false) (hn : n < 0) :
    Calls Try.prog 22 #[.agg #[.slice a len cap, .int .i64 at_, .int .i64 0], .agg #[.int .i64 d, .int .i64 n, .int .u64 v, .slice ba bl bc]] w fun r w' => r = .returned (.tuple #[.agg #[.slice a len cap, .int .i64 at_, .int .i64 1], .agg #[.int .u64 0, .slice none 0 0]]) ∧ w.grownBy w' none := by
  go_enter Try.func22, Try.ntmps22
  go_wp2
  exact bodyPost_ret (v := .tuple #[.agg #[.slice a len cap, .int .i64 at_, .int .i64 1], .agg #[.int .u64 0, .slice none 0 0]]) (by simp [results, Try.results22, go_sem]) rfl ⟨rfl, grown4 _ _ _ _ _⟩

theorem refread_nout (a : Option Addr) (len cap : Nat) (at_ m : Nat) (v : Int) (ba : Option Addr) (bl bc : Nat) (w : World) (hl : len ≤ 2000000) (ha : at_ ≤ 2000000) (hW : isW m = true) (hin : ¬ at_ + m ≤ len) :
    Calls Try.prog 22 #[.agg #[.slice a len cap, .int .i64 at_, .int .i64 0], .agg #[.int .i64 0, .int .i64 m, .int .u64 v, .slice ba bl bc]] w fun r w' => r = .returned (.tuple #[.agg #[.slice a len cap, .int .i64 at_, .int .i64 6], .agg #[.int .u64 0, .slice none 0 0]]) ∧ w.grownBy w' none := by
  have hm := isW_pos hW
  have hib : inB len at_ m = false := by simp [inB]; omega
  have hdn : decide ((m : Int) < 0) = false := by simp
  go_enter Try.func22, Try.ntmps22
  go_wp2_with (first | (go_at_call 14; refine (width_any _ _).mono ?_; rintro e w' ⟨rfl, rfl⟩) | (go_at_call 20; refine (in_any a len cap at_ m _ (by unfold maxLen; omega) (by omega) (by omega)).mono ?_; rintro e w' ⟨rfl, rfl⟩))
  exact bodyPost_ret (v := .tuple #[.agg #[.slice a len cap, .int .i64 at_, .int .i64 6], .agg #[.int .u64 0, .slice none 0 0]]) (by simp [results, Try.results22, go_sem]) rfl ⟨rfl, grown4 _ _ _ _ _⟩

theorem refread_bout (a : Option Addr) (len cap : Nat) (at_ m : Nat) (d v : Int) (ba : Option Addr) (bl bc : Nat) (w : World) (hl : len ≤ 2000000) (ha : at_ ≤ 2000000) (hd : (d == 0) = false) (hd2 : (d == 2) = false) (hm : m ≤ 9223372036854775807) (hin : ¬ at_ + m ≤ len) :
    Calls Try.prog 22 #[.agg #[.slice a len cap, .int .i64 at_, .int .i64 0], .agg #[.int .i64 d, .int .i64 m, .int .u64 v, .slice ba bl bc]] w fun r w' => r = .returned (.tuple #[.agg #[.slice a len cap, .int .i64 at_, .int .i64 6], .agg #[.int .u64 0, .slice none 0 0]]) ∧ w.grownBy w' none := by
  have hib : inB len at_ m = false := by simp [inB]; omega
  have hdn : decide ((m : Int) < 0) = false := by simp
  go_enter Try.func22, Try.ntmps22
  go_wp2_with (first | (go_at_call 20; refine (in_any a len cap at_ m _ (by unfold maxLen; omega) (by omega) (by omega)).mono ?_; rintro e w' ⟨rfl, rfl⟩))
  exact bodyPost_ret (v := .tuple #[.agg #[.slice a len cap, .int .i64 at_, .int .i64 6], .agg #[.int .u64 0, .slice none 0 0]]) (by simp [results, Try.results22, go_sem]) rfl ⟨rfl, grown4 _ _ _ _ _⟩
end Go.Proofs.Ythnehebkkfegdaa
