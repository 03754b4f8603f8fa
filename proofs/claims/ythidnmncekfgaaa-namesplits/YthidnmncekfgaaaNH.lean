/- The page's example (live), num. -/
import Derived.Test.YthidnmncekfgaaaNG
namespace Go.Proofs.Ythidnmncekfgaaa
open Go.RowKit
set_option linter.unusedSimpArgs false
set_option linter.unusedVariables false

theorem num10_any (x : Int) (w : World) : Calls Try.prog 11 #[.int .i64 x] w fun e w' => e = .returned (.int .i64 x) ∧ w = w' := by
  go_enter Try.func11, Try.ntmps11
  go_wp2
  go_ret
  exact ⟨rfl, rfl⟩
theorem srow_new (w : World) (l : List ByteArray) : SRow (w.alloc (.cells (sv l).toArray 9)) (some ⟨w.heap.size, 0, none⟩) l.length l := by
  refine ⟨rfl, fun h0 => ⟨_, 0, rfl, fun i hi => ?_⟩⟩
  have e : (w.alloc (.cells (sv l).toArray 9)).heap[w.heap.size]? = some (.cells (sv l).toArray 9) := heap_alloc_new _ _
  unfold World.cell?
  simp only [e, Nat.zero_add]
  simp [sv, List.getElem?_eq_getElem hi]
theorem drewG (w : World) (n : Nat) : w.grownBy (w.drewN n) none := by
  induction n with
  | zero => exact World.grownBy.refl _ _
  | succ n ih => exact grown_tr ih ⟨rfl, rfl, rfl, Nat.le_refl _, fun _ _ _ => rfl⟩
theorem szs_of {l : List ByteArray} (h : ∀ x ∈ l, x.size ≤ 1000000) : szs l := fun i => by
  rcases Nat.lt_or_ge i l.length with hi | hi
  · rw [List.getD_eq_getElem?_getD, List.getElem?_eq_getElem hi]; exact h _ (List.getElem_mem hi)
  · rw [List.getD_eq_getElem?_getD, List.getElem?_eq_none hi]; exact Nat.zero_le _
def exL : List ByteArray := [⟨#[97]⟩, ⟨#[98]⟩, ⟨#[46, 46]⟩]
theorem exS : spl (ByteArray.toList ⟨#[47, 97, 47, 47, 98, 47, 46, 47, 46, 46]⟩) = ([[97], [98], [46, 46]], 0) := by
  rw [show ByteArray.toList ⟨#[47, 97, 47, 47, 98, 47, 46, 47, 46, 46]⟩ = [47, 97, 47, 47, 98, 47, 46, 47, 46, 46] from ByteArray.toList_mk [47, 97, 47, 47, 98, 47, 46, 47, 46, 46]]
  rfl
set_option maxHeartbeats 2000000 in
theorem live10_any (w : World) : Calls Try.prog 7 #[] w fun e w' => e = .returned (.bool true) ∧ w.grownBy w' none := by
  have h1 := psplit_any ⟨#[47, 97, 47, 47, 98, 47, 46, 47, 46, 46]⟩ w (by decide)
  rw [exS] at h1
  have h3 := fun W => pvalid_any ⟨#[97]⟩ W (by decide)
  have h4 := fun W => pvalid_any ⟨#[46, 46]⟩ W (by decide)
  rw [show vld (ByteArray.toList ⟨#[97]⟩) = true by rw [show ByteArray.toList ⟨#[97]⟩ = [97] from ByteArray.toList_mk [97]]; rfl] at h3
  rw [show vld (ByteArray.toList ⟨#[46, 46]⟩) = false by rw [show ByteArray.toList ⟨#[46, 46]⟩ = [46, 46] from ByteArray.toList_mk [46, 46]]; rfl] at h4
  go_enter Try.func7, Try.ntmps7
  go_wp2_with fail
  refine h1.mono ?_
  rintro e w1 ⟨a1, n1, c1, rfl, o1, g1⟩
  obtain ⟨a, c, e1, R1, -, -⟩ := owns_srow o1
  injection e1 with e1 e2 e3
  subst e1
  have hn1 : n1 = 3 := R1.len_eq.symm
  subst hn1
  have H1 : Hid _ := And.intro R1 g1
  clear o1 R1 g1 e2 e3 h1
  go_wp2_with (go_at_call 11; with_reducible refine (num10_any _ _).mono ?_; rintro e w' ⟨rfl, rfl⟩)
  have ga := World.grownBy_alloc w1 (.cells #[.string ⟨#[97]⟩, .string ⟨#[98]⟩, .string ⟨#[46, 46]⟩] 9) none
  refine (rsame_any a1 _ 3 c1 3 3 _ exL _ (H1.out.1.grown ga) (srow_new w1 exL) (by decide) (by decide)).mono ?_
  rintro e w2 ⟨rfl, n2, rfl⟩
  have hd : decide (txs [[97], [98], [46, 46]] = exL) = true := decide_eq_true rfl
  rw [hd]
  have H2 : Hid _ := grown_tr (grown_tr H1.out.2 ga) (drewG _ n2)
  clear ga hd H1
  generalize (w1.alloc (.cells #[.string ⟨#[97]⟩, .string ⟨#[98]⟩, .string ⟨#[46, 46]⟩] 9)).drewN n2 = W2 at *
  go_wp2_with fail
  have gb := World.grownBy_alloc W2 (.cells #[.string ⟨#[97]⟩] 9) none
  have gc := World.grownBy_alloc (W2.alloc (.cells #[.string ⟨#[97]⟩] 9)) (.cells #[.string ⟨#[97]⟩, .string ⟨#[98]⟩] 9) none
  have R2 := srow_new (W2.alloc (.cells #[.string ⟨#[97]⟩] 9)) [⟨#[97]⟩, ⟨#[98]⟩]
  rw [World.size_alloc] at R2
  have ho : ord (tls [⟨#[97]⟩]) (tls [⟨#[97]⟩, ⟨#[98]⟩]) = -1 := by
    have e : tls [⟨#[97]⟩, ⟨#[98]⟩] = tls [⟨#[97]⟩] ++ [ByteArray.toList ⟨#[98]⟩] := rfl
    rw [e]; exact ord_snoc _ _
  have hP := porder_any _ _ 1 1 2 2 [⟨#[97]⟩] [⟨#[97]⟩, ⟨#[98]⟩] _ ((srow_new W2 [⟨#[97]⟩]).grown gc) R2 (by decide) (by decide) (szs_of (by simp; decide)) (szs_of (by simp; decide)) (by decide) (by decide)
  rw [ho] at hP
  refine hP.mono ?_
  rintro e w3 ⟨rfl, g3⟩
  have H3 : Hid _ := grown_tr (grown_tr (grown_tr H2.out gb) gc) g3
  clear gb gc R2 ho hP g3 H2
  go_wp2_with fail
  refine (h3 _).mono ?_
  rintro e w4 ⟨rfl, g4⟩
  have H4 : Hid _ := grown_tr H3.out g4
  clear g4 H3 h3
  go_wp2_with fail
  refine (h4 _).mono ?_
  rintro e w5 ⟨rfl, g5⟩
  have H5 : Hid _ := grown_tr H4.out g5
  clear g5 H4 h4
  go_wp2
  go_ret
  exact ⟨rfl, H5.out⟩
end Go.Proofs.Ythidnmncekfgaaa
