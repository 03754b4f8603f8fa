/- The document's Write. -/
import Derived.Test.YtdefcfmnhfeblaaRF
namespace Go.Proofs.Ytdefcfmnhfeblaa
open Go.RowKit
set_option linter.unusedSimpArgs false
set_option linter.unusedVariables false

/-- the error that the document's Write tells ahead of all -/
def wrE (nD : Nat) (by_ : Int) (off : Bool) (D : List Bool) (page : Int) (l2 : Nat) : Int := if page < 0 ∨ (nD : Int) ≤ page then 9 else if by_ < l2 then 2 else if off then 40 else if D.getD page.toNat false then 41 else 0
set_option maxHeartbeats 2000000 in
theorem rwrite_bad (s p b ops after : Int) (off : Bool) (aB aD aW aT : Option Addr) (lB cB lD cD lW cW lT cT : Nat) (D : List Bool) (page : Int) (a2 : Option Addr) (l2 c2 : Nat) (w : World) (RD : RowE Value.bool w aD lD D) (hl : lD ≤ 1000000) (hl2 : l2 ≤ 9223372036854775807) (hp : -9223372036854775808 ≤ page ∧ page ≤ 9223372036854775807)
    (hE : wrE lD b off D page l2 ≠ 0) :
    Calls Try.prog 32 #[.agg #[.int .i64 s, .int .i64 p, .int .i64 b, .slice aB lB cB, .slice aD lD cD, .slice aW lW cW, .int .i64 ops, .bool off, .int .i64 after, .slice aT lT cT], .int .i64 page, .slice a2 l2 c2] w
      fun e w' => e = .returned (.tuple #[.agg #[.int .i64 s, .int .i64 p, .int .i64 b, .slice aB lB cB, .slice aD lD cD, .slice aW lW cW, .int .i64 ops, .bool off, .int .i64 after, .slice aT lT cT], .int .i64 (wrE lD b off D page l2)]) ∧ w.grownBy w' none := by
  unfold wrE at *
  by_cases h1 : page < 0
  · rw [if_pos (Or.inl h1)]
    clear hE
    go_enter Try.func32, Try.ntmps32
    go_wp2
    exact bodyPost_ret (v := .tuple #[.agg #[.int .i64 s, .int .i64 p, .int .i64 b, .slice aB lB cB, .slice aD lD cD, .slice aW lW cW, .int .i64 ops, .bool off, .int .i64 after, .slice aT lT cT], .int .i64 9]) (by simp [results, Try.results32, go_sem]) rfl ⟨rfl, grown2 _ _ _⟩
  · obtain ⟨i, rfl⟩ := Int.eq_ofNat_of_zero_le (by omega : 0 ≤ page)
    by_cases h2 : (lD : Int) ≤ i
    · rw [if_pos (Or.inr h2)]
      clear hE
      go_enter Try.func32, Try.ntmps32
      go_wp2
      exact bodyPost_ret (v := .tuple #[.agg #[.int .i64 s, .int .i64 p, .int .i64 b, .slice aB lB cB, .slice aD lD cD, .slice aW lW cW, .int .i64 ops, .bool off, .int .i64 after, .slice aT lT cT], .int .i64 9]) (by simp [results, Try.results32, go_sem]) rfl ⟨rfl, grown2 _ _ _⟩
    · rw [if_neg (by omega)] at hE ⊢
      by_cases h3 : b < l2
      · rw [if_pos h3]
        clear hE
        go_enter Try.func32, Try.ntmps32
        go_wp2
        exact bodyPost_ret (v := .tuple #[.agg #[.int .i64 s, .int .i64 p, .int .i64 b, .slice aB lB cB, .slice aD lD cD, .slice aW lW cW, .int .i64 ops, .bool off, .int .i64 after, .slice aT lT cT], .int .i64 2]) (by simp [results, Try.results32, go_sem]) rfl ⟨rfl, grown2 _ _ _⟩
      · rw [if_neg h3] at hE ⊢
        cases off
        · rw [if_neg (by decide)] at hE ⊢
          simp only [Int.toNat_natCast] at hE ⊢
          have hD : D.getD i false = true := by
            by_cases hd : D.getD i false = true
            · exact hd
            · exact absurd (if_neg hd) hE
          rw [if_pos hD]
          have hlD := RD.len_eq
          obtain ⟨db, dof, rfl, hc⟩ := RD.cells (by omega)
          have hDi : D[i]? = some true := by
            rw [List.getD_eq_getElem?_getD, List.getElem?_eq_getElem (by omega)] at hD
            rw [List.getElem?_eq_getElem (by omega)]
            simpa using hD
          have hcell := hc i true hDi
          have hlt := cell_lt hcell
          clear hE hc RD
          go_enter Try.func32, Try.ntmps32
          go_wp2
          exact bodyPost_ret (v := .tuple #[.agg #[.int .i64 s, .int .i64 p, .int .i64 b, .slice aB lB cB, .slice (some ⟨db, dof, none⟩) lD cD, .slice aW lW cW, .int .i64 ops, .bool false, .int .i64 after, .slice aT lT cT], .int .i64 41]) (by simp [results, Try.results32, go_sem]) rfl ⟨rfl, grown2 _ _ _⟩
        · rw [if_pos rfl]
          clear hE
          go_enter Try.func32, Try.ntmps32
          go_wp2
          exact bodyPost_ret (v := .tuple #[.agg #[.int .i64 s, .int .i64 p, .int .i64 b, .slice aB lB cB, .slice aD lD cD, .slice aW lW cW, .int .i64 ops, .bool true, .int .i64 after, .slice aT lT cT], .int .i64 40]) (by simp [results, Try.results32, go_sem]) rfl ⟨rfl, grown2 _ _ _⟩
end Go.Proofs.Ytdefcfmnhfeblaa
