/- The document's Read and Boot. -/
import Derived.Test.YtdefcfmnhfeblaaRC
namespace Go.Proofs.Ytdefcfmnhfeblaa
open Go.RowKit
set_option linter.unusedSimpArgs false
set_option linter.unusedVariables false

/-- the error that the document's Read tells -/
def rdE (len : Nat) (off : Bool) (at_ n : Int) : Int := if at_ < 0 ∨ n < 0 ∨ (len : Int) < at_ ∨ (len : Int) - at_ < n then 9 else if off then 40 else 0
/-- what the document's Read answers -/
def RdPost (w : World) (bs : List Int) (er : Int) (i m : Nat) (e : Ending) (w' : World) : Prop := w.grownBy w' none ∧ ∃ a' l' c' ys, e = .returned (.tuple #[.slice a' l' c', .int .i64 er]) ∧ Row w' a' l' ys ∧ ((er ≠ 0 ∧ ys = []) ∨ (er = 0 ∧ ys = (bs.drop i).take m))
theorem rd_bad (w : World) (o : Obj) (bs : List Int) (er : Int) (i m : Nat) (h : er ≠ 0) : RdPost w bs er i m (.returned (.tuple #[.slice none 0 0, .int .i64 er])) (w.alloc o) :=
  ⟨World.grownBy_alloc _ _ _, none, 0, 0, [], rfl, Row.none0 _, Or.inl ⟨h, rfl⟩⟩
theorem rd_good (w : World) (o : Obj) (bs : List Int) (i m : Nat) (a' : Option Addr) (c' : Nat) (R : Row w a' m ((bs.drop i).take m)) : RdPost w bs 0 i m (.returned (.tuple #[.slice a' m c', .int .i64 0])) (w.alloc o) :=
  ⟨World.grownBy_alloc _ _ _, a', m, c', _, rfl, R.grown (World.grownBy_alloc _ _ _), Or.inr ⟨rfl, rfl⟩⟩
set_option maxHeartbeats 1000000 in
theorem rread_any (s p b ops after : Int) (off : Bool) (bb bo len cB : Nat) (bs : List Int) (aD aW aT : Option Addr) (lD cD lW cW lT cT : Nat) (at_ n : Int) (w : World) (R : Row w (some ⟨bb, bo, none⟩) len bs) (hc : len ≤ cB) (hcm : cB ≤ 9223372036854775807) (hl : len ≤ 16777216)
    (ha : -9223372036854775808 ≤ at_ ∧ at_ ≤ 9223372036854775807) (hn : -9223372036854775808 ≤ n ∧ n ≤ 9223372036854775807) :
    Calls Try.prog 31 #[.agg #[.int .i64 s, .int .i64 p, .int .i64 b, .slice (some ⟨bb, bo, none⟩) len cB, .slice aD lD cD, .slice aW lW cW, .int .i64 ops, .bool off, .int .i64 after, .slice aT lT cT], .int .i64 at_, .int .i64 n] w
      fun e w' => RdPost w bs (rdE len off at_ n) at_.toNat n.toNat e w' := by
  unfold rdE
  by_cases h1 : at_ < 0
  · rw [if_pos (Or.inl h1)]
    go_enter Try.func31, Try.ntmps31
    go_wp2
    go_ret2
    exact rd_bad _ _ _ _ _ _ (by decide)
  · by_cases h2 : n < 0
    · rw [if_pos (Or.inr (Or.inl h2))]
      go_enter Try.func31, Try.ntmps31
      go_wp2
      go_ret2
      exact rd_bad _ _ _ _ _ _ (by decide)
    · obtain ⟨i, rfl⟩ := Int.eq_ofNat_of_zero_le (by omega : 0 ≤ at_)
      obtain ⟨m, rfl⟩ := Int.eq_ofNat_of_zero_le (by omega : 0 ≤ n)
      by_cases h3 : (len : Int) < i
      · rw [if_pos (Or.inr (Or.inr (Or.inl h3)))]
        go_enter Try.func31, Try.ntmps31
        go_wp2
        go_ret2
        exact rd_bad _ _ _ _ _ _ (by decide)
      · by_cases h4 : (len : Int) - i < m
        · rw [if_pos (Or.inr (Or.inr (Or.inr h4)))]
          go_enter Try.func31, Try.ntmps31
          go_wp2
          go_ret2
          exact rd_bad _ _ _ _ _ _ (by decide)
        · rw [if_neg (by omega)]
          cases off
          · have RP := R.part i m (by omega)
            by_cases hcc : cB = i
            · subst hcc
              have em : m = 0 := by omega
              subst em
              go_enter Try.func31, Try.ntmps31
              go_wp2
              go_ret2
              exact rd_good _ _ _ _ _ _ _ (by rw [List.take_zero]; exact Row.none0 _)
            · go_enter Try.func31, Try.ntmps31
              go_wp2
              go_ret2
              exact rd_good _ _ _ _ _ _ _ RP
          · go_enter Try.func31, Try.ntmps31
            go_wp2
            go_ret2
            exact rd_bad _ _ _ _ _ _ (by decide)

set_option maxHeartbeats 400000 in
theorem rboot_any (s p b ops after : Int) (off : Bool) (aB aD aW aT : Option Addr) (lB cB lD cD lW cW lT cT : Nat) (w : World) :
    Calls Try.prog 18 #[.agg #[.int .i64 s, .int .i64 p, .int .i64 b, .slice aB lB cB, .slice aD lD cD, .slice aW lW cW, .int .i64 ops, .bool off, .int .i64 after, .slice aT lT cT]] w
      fun e w' => e = .returned (.agg #[.int .i64 s, .int .i64 p, .int .i64 b, .slice aB lB cB, .slice aD lD cD, .slice aW lW cW, .int .i64 ops, .bool false, .int .i64 0, .slice none 0 0]) ∧ w.grownBy w' none := by
  go_enter Try.func18, Try.ntmps18
  go_wp2
  exact bodyPost_ret (v := .agg #[.int .i64 s, .int .i64 p, .int .i64 b, .slice aB lB cB, .slice aD lD cD, .slice aW lW cW, .int .i64 ops, .bool false, .int .i64 0, .slice none 0 0]) (by simp [results, Try.results18, go_sem]) rfl ⟨rfl, grown2 _ _ _⟩
end Go.Proofs.Ytdefcfmnhfeblaa
