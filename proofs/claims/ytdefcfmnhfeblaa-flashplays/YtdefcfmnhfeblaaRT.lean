/- The document's torn. -/
import Derived.Test.YtdefcfmnhfeblaaRA
import Derived.Test.YtdefcfmnhfeblaaRB
namespace Go.Proofs.Ytdefcfmnhfeblaa
open Go.RowKit
set_option linter.unusedSimpArgs false
set_option linter.unusedVariables false

theorem grown2 (w : World) (o1 o2 : Obj) : w.grownBy ((w.alloc o1).alloc o2) none := grown_trans (World.grownBy_alloc w o1 none) (World.grownBy_alloc _ o2 none)
set_option maxHeartbeats 800000 in
theorem torn_any (s p b ops after : Int) (off : Bool) (aB aD aW aT : Option Addr) (lB cB lD cD lW cW lT cT : Nat) (w : World) (ho : 0 ≤ ops ∧ ops < 1000000) (ha : 0 ≤ after ∧ after ≤ 9223372036854775807) :
    Calls Try.prog 44 #[.agg #[.int .i64 s, .int .i64 p, .int .i64 b, .slice aB lB cB, .slice aD lD cD, .slice aW lW cW, .int .i64 ops, .bool off, .int .i64 after, .slice aT lT cT]] w
      fun e w' => e = .returned (.tuple #[.agg #[.int .i64 s, .int .i64 p, .int .i64 b, .slice aB lB cB, .slice aD lD cD, .slice aW lW cW, .int .i64 (ops + 1), .bool (if after = 1 then true else off), .int .i64 (if after = 0 then 0 else after - 1), .slice aT lT cT], .bool (decide (after = 1))]) ∧ w.grownBy w' none := by
  by_cases h0 : after = 0
  · subst h0
    go_enter Try.func44, Try.ntmps44
    go_wp2
    exact bodyPost_ret (v := .tuple #[.agg #[.int .i64 s, .int .i64 p, .int .i64 b, .slice aB lB cB, .slice aD lD cD, .slice aW lW cW, .int .i64 (ops + 1), .bool off, .int .i64 0, .slice aT lT cT], .bool false]) (by simp [results, Try.results44, go_sem]) rfl ⟨rfl, grown2 _ _ _⟩
  · by_cases h1 : after = 1
    · subst h1
      go_enter Try.func44, Try.ntmps44
      go_wp2
      exact bodyPost_ret (v := .tuple #[.agg #[.int .i64 s, .int .i64 p, .int .i64 b, .slice aB lB cB, .slice aD lD cD, .slice aW lW cW, .int .i64 (ops + 1), .bool true, .int .i64 0, .slice aT lT cT], .bool true]) (by simp [results, Try.results44, go_sem]) rfl ⟨rfl, grown2 _ _ _⟩
    · have e1 : (if after = 1 then true else off) = off := if_neg h1
      have e2 : (if after = 0 then 0 else after - 1) = after - 1 := if_neg h0
      have e3 : decide (after = 1) = false := decide_eq_false h1
      have e4 : (after == 0) = false := by simpa using h0
      have e5 : decide (0 < after - 1) = true := decide_eq_true (by omega)
      have e6 : 0 < after - 1 := by omega
      rw [e1, e2, e3]
      clear e1 e2 e3
      go_enter Try.func44, Try.ntmps44
      go_wp2
      exact bodyPost_ret (v := .tuple #[.agg #[.int .i64 s, .int .i64 p, .int .i64 b, .slice aB lB cB, .slice aD lD cD, .slice aW lW cW, .int .i64 (ops + 1), .bool off, .int .i64 (after - 1), .slice aT lT cT], .bool false]) (by simp [results, Try.results44, go_sem]) rfl ⟨rfl, grown2 _ _ _⟩
end Go.Proofs.Ytdefcfmnhfeblaa
