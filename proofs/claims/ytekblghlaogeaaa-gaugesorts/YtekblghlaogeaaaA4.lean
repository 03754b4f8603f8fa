/- Contracts of list and Mean, the program's and the document's. -/
import Derived.Test.YtekblghlaogeaaaQ
namespace Go.Proofs.Ytekblghlaogeaaa
open Go.RowKit
set_option linter.unusedSimpArgs false
set_option linter.unusedVariables false

theorem take_snocN (l : List Nat) (j : Nat) (h : j < l.length) : l.take (j + 1) = l.take j ++ [l.getD j 0] := by
  rw [List.take_succ_eq_append_getElem h, List.getD_eq_getElem?_getD, List.getElem?_eq_getElem h]; rfl
theorem cell_one_newV (w : World) (t : TypeId) (v : Value) (j : Nat) (u : Value) (h : ([v])[j]? = some u) : (w.alloc (.cells #[v] t)).cell? ((⟨w.heap.size, 0, none⟩ : Addr).add j) = some u := by
  cases j with
  | zero =>
    simp at h
    subst h
    simp [Addr.add]
  | succ j => simp at h
set_option maxHeartbeats 400000 in
theorem list_any (a : Option Addr) (len cap : Nat) (us : List Nat) (w : World) (R : Row encU w a len us) (hlen : len ≤ 1000) :
    Calls Try.prog 26 #[.slice a len cap] w fun e w' => ∃ a' cap', e = .returned (.slice a' len cap') ∧ len ≤ cap' ∧ cap' ≤ maxLen ∧ Row encF w' a' len us ∧ w.grownBy w' none := by
  obtain ⟨i5, hi, hz0, hz1, hz2⟩ := info_parts Try.info23
  have hof := of_any
  go_enter Try.func26, Try.ntmps26
  go_wp2
  go_loopw [3, 4] (fun v i wr => ∃ j : Nat, j ≤ len ∧ i = .int .i64 j ∧ wr.ownsRow w.heap.size 23 1 v j (fv (us.take j)) ∧ w.grownBy wr none) (fun _ i _ => len - (intOf i).toNat)
  case atStart => exact ⟨0, Nat.zero_le _, rfl, World.ownsRow_nil _ _ _ _, World.grownBy.refl _ _⟩
  case round =>
    obtain ⟨j, hj, rfl, hown, hgr⟩ := hrel
    by_cases hlt : j < len
    · have R' := R.grown hgr
      obtain ⟨b, off, rfl, hc⟩ := R'.cells (by omega)
      have hcell := hc j hlt
      have hsn := take_snocN us j (by rw [R.len_eq]; exact hlt)
      generalize us.getD j 0 = x at hcell hsn
      unfold encU at hcell
      clear hc R'
      go_wp2_with (first | (go_at_call 9; refine (hof _ _).mono ?_; rintro e w' ⟨rfl, rfl⟩) | (at_builtin; (refine wpList_append_own _ rfl _ _ 37 rfl w.heap.size 23 i5 (.float .f64 0) 1 8 Try.underlying37 hi hz0 hz1 hz2 rfl (by decide) _ _ _ rfl (hown.alloc _) ⟨wr.heap.size, 0, none⟩ 1 1 (fv [x]) rfl rfl ?c1 (fv_one _) ?c3 ?c4 ?c5 ?_)))
      case c1 => exact cell_one_newV _ _ _
      case c3 => unfold maxLen; omega
      case c4 => omega
      case c5 => have := hgr.size; simp; omega
      · intro v' w1 hown' hgrow _
        have R : w1.ownsRow w.heap.size 23 1 v' (j + 1) (fv (us.take (j + 1))) := by rw [hsn, fv_append]; exact hown'
        have hg' : w.grownBy w1 none := grown_own (grown_trans hgr (World.grownBy_alloc wr _ none)) (hown.alloc _) hgrow (Nat.le_refl _)
        clear hown' hgrow hown hgr
        go_wp2
        go_roundw
        case rel => exact ⟨j + 1, by omega, by go_num, R, hg'⟩
        case measure => simp [intOf]; omega
    · obtain rfl : j = len := by omega
      rw [List.take_of_length_le (Nat.le_of_eq R.len_eq)] at hown
      obtain ⟨a', cap', rfl, h1, h2, R2⟩ := owns_row hown R.bd (by unfold maxLen; omega)
      go_wp2
      go_ret
      exact ⟨a', cap', rfl, h1, h2, R2, hgr⟩
end Go.Proofs.Ytekblghlaogeaaa
