/- Place. -/
import Derived.Test.YtpahnkodhonlgaaOA
namespace Go.Proofs.Ytpahnkodhonlgaa
open Go.RowKit
set_option maxRecDepth 100000
set_option linter.unusedSimpArgs false
set_option linter.unusedVariables false
/-- r is where x first is, or -1 -/
def Fst17 (l : List Int) (x r : Int) : Prop := (r = -1 ∧ ∀ i, i < l.length → l.getD i 0 ≠ x) ∨ ∃ j : Nat, r = (j : Int) ∧ j < l.length ∧ l.getD j 0 = x ∧ ∀ i, i < j → l.getD i 0 ≠ x
set_option maxHeartbeats 2000000 in
theorem sindex17_any (a : Option Addr) (len cap : Nat) (l : List Int) (x : Int) (w : World) (R : IRow w a len l) :
    Calls Try.prog 33 #[.slice a len cap, .int .i64 x] w fun e w' => ∃ r, e = .returned (.int .i64 r) ∧ Fst17 l x r ∧ w.grownBy w' none := by
  have hlb := R.len_eq
  have hle := R.le
  unfold maxLen at hle
  have HR : Hid _ := R
  have HN : Hid (∀ k, k < len → l.getD k 0 = x → (∀ i, i < k → l.getD i 0 ≠ x) → Fst17 l x (k : Int)) := fun k hk h1 h2 => Or.inr ⟨k, rfl, by omega, h1, h2⟩
  have HE : Hid ((∀ i, i < len → l.getD i 0 ≠ x) → Fst17 l x (-1)) := fun h => Or.inl ⟨rfl, fun i hi => h i (by omega)⟩
  clear R
  go_enter Try.func33, Try.ntmps33
  go_wp2
  go_loopw [8] (fun i wr => ∃ k : Nat, i = .int .i64 k ∧ k ≤ len ∧ Hid (w.grownBy wr none ∧ ∀ i, i < k → l.getD i 0 ≠ x)) (fun i _ => len - (intOf i).toNat)
  case atStart => exact ⟨0, rfl, Nat.zero_le _, World.grownBy.refl _ _, fun i h => absurd h (Nat.not_lt_zero _)⟩
  case round =>
    obtain ⟨k, rfl, hk, HC⟩ := hrel
    by_cases hlt : k < len
    · have hlti : (k : Int) < (len : Int) := by omega
      obtain ⟨b, off, rfl, hc⟩ := (HR.out.grown HC.out.1).cells (by omega)
      have x0 := hc k hlt
      have HG : Hid _ := HC.out.1
      have hwk : IntKind.i64.wrap ((k : Int) + 1) = (k : Int) + 1 := by rw [IntKind.wrap_i64]; omega
      by_cases he : l.getD k 0 = x
      · have HF : Hid _ := HN.out k hlt he HC.out.2
        rw [he] at x0
        clear HC hc he
        go_wp2
        go_returns
        exact ⟨_, rfl, HF.out, HG.out⟩
      · have HM : Hid (∀ i, i < k + 1 → l.getD i 0 ≠ x) := fun i hi => by
          by_cases q : i = k
          · rw [q]; exact he
          · exact HC.out.2 i (by omega)
        have hb : (x == l.getD k 0) = false := by rw [beq_eq_false_iff_ne]; exact fun e => he e.symm
        generalize l.getD k 0 = X at *
        clear HC hc he
        go_wp2
        refine ⟨⟨k + 1, by go_num, by clear hwk; omega, HG.out, HM.out⟩, ?_⟩
        clear hwk
        simp [intOf]; omega
    · have HM : Hid _ := HC.out.2
      have HG : Hid _ := HC.out.1
      have hlti : ¬ (k : Int) < (len : Int) := by omega
      clear HC
      go_wp2
      go_returns
      exact ⟨-1, rfl, HE.out (fun i hi => HM.out i (by omega)), HG.out⟩
theorem pplace17_any (a : Option Addr) (len cap : Nat) (l : List Int) (x : Int) (w : World) (R : IRow w a len l) :
    Calls Try.prog 12 #[.slice a len cap, .int .i64 x] w fun e w' => ∃ (i : Int) (ok : Bool), e = .returned (.tuple #[.int .i64 i, .bool ok]) ∧ ((ok = false ∧ i = 0 ∧ ∀ k, k < len → l.getD k 0 ≠ x) ∨ (ok = true ∧ ∃ j : Nat, i = (j : Int) ∧ j < len ∧ l.getD j 0 = x ∧ ∀ k, k < j → l.getD k 0 ≠ x)) ∧ w.grownBy w' none := by
  have hlb := R.len_eq
  have hS := sindex17_any a len cap l x w R
  clear R
  go_enter Try.func12, Try.ntmps12
  go_wp2_with fail
  refine hS.mono ?_
  rintro e w1 ⟨r, rfl, hF, g1⟩
  clear hS
  rcases hF with ⟨rfl, h⟩ | ⟨j, rfl, h1, h2, h3⟩
  · have HH : Hid _ := h
    clear h
    go_wp2
    go_returns
    exact ⟨0, false, rfl, Or.inl ⟨rfl, rfl, fun k hk => HH.out k (by omega)⟩, g1⟩
  · have HH : Hid _ := And.intro h1 (And.intro h2 h3)
    have hj0 : (0 : Int) ≤ (j : Int) := by omega
    have hj1 : ¬ (j : Int) < 0 := by omega
    have hmx : max (j : Int) 0 = (j : Int) := by omega
    clear h1 h2 h3
    go_wp2
    go_returns
    exact ⟨(j : Int), true, by first | rfl | simp, Or.inr ⟨rfl, j, rfl, by have := HH.out.1; omega, HH.out.2.1, HH.out.2.2⟩, g1⟩
end Go.Proofs.Ytpahnkodhonlgaa
