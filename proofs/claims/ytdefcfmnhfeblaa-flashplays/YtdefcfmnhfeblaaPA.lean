/- The program's flash: what only reads. -/
import Derived.Test.YtdefcfmnhfeblaaRF
import Derived.Deep.RegionHeld
import Derived.Deep.DrawnRows
namespace Go.Proofs.Ytdefcfmnhfeblaa
open Go.RowKit
set_option linter.unusedSimpArgs false
set_option linter.unusedVariables false
attribute [local go_sem ↓] Go.wp_at_zero Go.wp_at_succ

theorem within_any (n lo hi : Int) (w : World) : Calls Try.prog 30 #[.int .i64 n, .int .i64 lo, .int .i64 hi] w fun e w' => e = .returned (.bool (decide (lo ≤ n ∧ n ≤ hi))) ∧ w = w' := by
  by_cases h1 : lo ≤ n
  · have hd : decide (lo ≤ n ∧ n ≤ hi) = decide (n ≤ hi) := by simp [h1]
    rw [hd]
    go_enter Try.func30, Try.ntmps30
    go_wp2
    go_ret
    exact ⟨rfl, rfl⟩
  · have hd : decide (lo ≤ n ∧ n ≤ hi) = false := by simp [h1]
    rw [hd]
    go_enter Try.func30, Try.ntmps30
    go_wp2
    go_ret
    exact ⟨rfl, rfl⟩
theorem haspage_nil (page : Int) (w : World) : Calls Try.prog 35 #[.pointer none, .int .i64 page] w fun e w' => e = .returned (.bool false) ∧ w = w' := by
  go_enter Try.func35, Try.ntmps35
  go_wp2
  go_ret
  exact ⟨rfl, rfl⟩
theorem hassector_nil (sec : Int) (w : World) : Calls Try.prog 40 #[.pointer none, .int .i64 sec] w fun e w' => e = .returned (.bool false) ∧ w = w' := by
  go_enter Try.func40, Try.ntmps40
  go_wp2
  go_ret
  exact ⟨rfl, rfl⟩
/-- is there such a one of n? -/
def inL (n : Nat) (i : Int) : Bool := decide (0 ≤ i ∧ i < n)
theorem inL_eq (n : Nat) (i : Int) : (decide (0 ≤ i) && decide (i ≤ (n : Int) - 1)) = inL n i := by
  unfold inL; rw [← Bool.decide_and]; exact decide_eq_decide.2 (by omega)
theorem haspage_any (fb : Nat) (aD : Option Addr) (lD cD : Nat) (page : Int) (w : World) (c4 : w.cell? ⟨fb, 4, none⟩ = some (.slice aD lD cD)) (hl : lD ≤ 1000000) : Calls Try.prog 35 #[.pointer (some ⟨fb, 0, none⟩), .int .i64 page] w fun e w' => e = .returned (.bool (inL lD page)) ∧ w = w' := by
  have hwr : IntKind.i64.wrap ((lD : Int) - 1) = (lD : Int) - 1 := by rw [IntKind.wrap_i64]; omega
  rw [← inL_eq]
  go_enter Try.func35, Try.ntmps35
  go_wp2_with (go_at_call 30; refine (within_any _ _ _ _).mono ?_; rintro e w' ⟨rfl, rfl⟩)
  go_ret
  exact ⟨rfl, rfl⟩
theorem hassector_any (fb : Nat) (aW : Option Addr) (lW cW : Nat) (sec : Int) (w : World) (c5 : w.cell? ⟨fb, 5, none⟩ = some (.slice aW lW cW)) (hl : lW ≤ 1000000) : Calls Try.prog 40 #[.pointer (some ⟨fb, 0, none⟩), .int .i64 sec] w fun e w' => e = .returned (.bool (inL lW sec)) ∧ w = w' := by
  have hwr : IntKind.i64.wrap ((lW : Int) - 1) = (lW : Int) - 1 := by rw [IntKind.wrap_i64]; omega
  rw [← inL_eq]
  go_enter Try.func40, Try.ntmps40
  go_wp2_with (go_at_call 30; refine (within_any _ _ _ _).mono ?_; rintro e w' ⟨rfl, rfl⟩)
  go_ret
  exact ⟨rfl, rfl⟩
theorem inL_true {n : Nat} {i : Int} (h : inL n i = true) : ∃ k : Nat, i = k ∧ k < n := by
  have h := of_decide_eq_true h
  exact ⟨i.toNat, by omega, by omega⟩
theorem inL_nat {n k : Nat} (h : k < n) : inL n k = true := decide_eq_true (by omega)
theorem sectorbytes_any (fb : Nat) (p b n : Nat) (w : World) (c1 : w.cell? ⟨fb, 1, none⟩ = some (.int .i64 p)) (c2 : w.cell? ⟨fb, 2, none⟩ = some (.int .i64 b)) (hn : p * b = n) (hl : n ≤ 100000000) : Calls Try.prog 41 #[.pointer (some ⟨fb, 0, none⟩)] w fun e w' => e = .returned (.int .i64 n) ∧ ∃ m, w' = w.drewN m := by
  have hwr : IntKind.i64.wrap ((p : Int) * (b : Int)) = (n : Int) := by rw [← Int.natCast_mul, hn, IntKind.wrap_i64]; omega
  clear hn
  go_enter Try.func41, Try.ntmps41
  go_wp2
  go_quiet (fail)
  go_wp2
  go_ret
  exact ⟨rfl, _, rfl⟩
theorem on_nil (w : World) : Calls Try.prog 28 #[.pointer none] w fun e w' => e = .returned (.bool false) ∧ w = w' := by
  go_enter Try.func28, Try.ntmps28
  go_wp2
  go_ret
  exact ⟨rfl, rfl⟩
theorem on_any (fb : Nat) (pw : Int) (w : World) (c7 : w.cell? ⟨fb, 7, none⟩ = some (.int .i64 pw)) : Calls Try.prog 28 #[.pointer (some ⟨fb, 0, none⟩)] w fun e w' => e = .returned (.bool (pw != 0)) ∧ w = w' := by
  go_enter Try.func28, Try.ntmps28
  go_wp2
  go_ret
  exact ⟨rfl, rfl⟩
theorem size_nil (w : World) : Calls Try.prog 22 #[.pointer none] w fun e w' => e = .returned (.int .i64 0) ∧ w = w' := by
  go_enter Try.func22, Try.ntmps22
  go_wp2
  go_ret
  exact ⟨rfl, rfl⟩
theorem size_any (fb : Nat) (aB : Option Addr) (lB cB : Nat) (w : World) (c3 : w.cell? ⟨fb, 3, none⟩ = some (.slice aB lB cB)) : Calls Try.prog 22 #[.pointer (some ⟨fb, 0, none⟩)] w fun e w' => e = .returned (.int .i64 lB) ∧ w = w' := by
  go_enter Try.func22, Try.ntmps22
  go_wp2
  go_ret
  exact ⟨rfl, rfl⟩
theorem ops_nil (w : World) : Calls Try.prog 25 #[.pointer none] w fun e w' => e = .returned (.int .i64 0) ∧ w = w' := by
  go_enter Try.func25, Try.ntmps25
  go_wp2
  go_ret
  exact ⟨rfl, rfl⟩
theorem ops_any (fb : Nat) (n : Int) (w : World) (c6 : w.cell? ⟨fb, 6, none⟩ = some (.int .i64 n)) : Calls Try.prog 25 #[.pointer (some ⟨fb, 0, none⟩)] w fun e w' => e = .returned (.int .i64 n) ∧ w = w' := by
  go_enter Try.func25, Try.ntmps25
  go_wp2
  go_ret
  exact ⟨rfl, rfl⟩
theorem geometry_nil (w : World) : Calls Try.prog 27 #[.pointer none] w fun e w' => e = .returned (.agg #[.int .i64 0, .int .i64 0, .int .i64 0]) ∧ w.grownBy w' none := by
  go_enter Try.func27, Try.ntmps27
  go_wp2
  exact bodyPost_ret (v := .agg #[.int .i64 0, .int .i64 0, .int .i64 0]) (by simp [results, Try.results27, go_sem]) rfl ⟨rfl, World.grownBy_alloc _ _ _⟩
theorem geometry_any (fb : Nat) (s p b : Int) (w : World) (c0 : w.cell? ⟨fb, 0, none⟩ = some (.int .i64 s)) (c1 : w.cell? ⟨fb, 1, none⟩ = some (.int .i64 p)) (c2 : w.cell? ⟨fb, 2, none⟩ = some (.int .i64 b)) : Calls Try.prog 27 #[.pointer (some ⟨fb, 0, none⟩)] w fun e w' => e = .returned (.agg #[.int .i64 s, .int .i64 p, .int .i64 b]) ∧ w.grownBy w' none := by
  have d0 : ∀ o, (w.alloc o).cell? ⟨fb, 0, none⟩ = some (.int .i64 s) := fun o => by rw [((Below.refl _ w).alloc (Nat.le_refl _) o).cell (cell_lt c0)]; exact c0
  have d1 : ∀ o, (w.alloc o).cell? ⟨fb, 1, none⟩ = some (.int .i64 p) := fun o => by rw [((Below.refl _ w).alloc (Nat.le_refl _) o).cell (cell_lt c1)]; exact c1
  have d2 : ∀ o, (w.alloc o).cell? ⟨fb, 2, none⟩ = some (.int .i64 b) := fun o => by rw [((Below.refl _ w).alloc (Nat.le_refl _) o).cell (cell_lt c2)]; exact c2
  go_enter Try.func27, Try.ntmps27
  go_wp2
  exact bodyPost_ret (v := .agg #[.int .i64 s, .int .i64 p, .int .i64 b]) (by simp [results, Try.results27, go_sem]) rfl ⟨rfl, World.grownBy_alloc _ _ _⟩
theorem dirty_nil (page : Int) (w : World) : Calls Try.prog 24 #[.pointer none, .int .i64 page] w fun e w' => e = .returned (.bool false) ∧ w = w' := by
  go_enter Try.func24, Try.ntmps24
  go_wp2_with (go_at_call 35; refine (haspage_nil _ _).mono ?_; rintro e w' ⟨rfl, rfl⟩)
  go_ret
  exact ⟨rfl, rfl⟩
theorem worn_nil (sec : Int) (w : World) : Calls Try.prog 26 #[.pointer none, .int .i64 sec] w fun e w' => e = .returned (.int .i64 0) ∧ w = w' := by
  go_enter Try.func26, Try.ntmps26
  go_wp2_with (go_at_call 40; refine (hassector_nil _ _).mono ?_; rintro e w' ⟨rfl, rfl⟩)
  go_ret
  exact ⟨rfl, rfl⟩
/-- which page is dirty -/
def drt (D : List Bool) (i : Int) : Bool := inL D.length i && D.getD i.toNat false
def wrn (W : List Int) (i : Int) : Int := if inL W.length i then W.getD i.toNat 0 else 0
theorem dirty_any (fb db : Nat) (D : List Bool) (cD : Nat) (page : Int) (w : World) (c4 : w.cell? ⟨fb, 4, none⟩ = some (.slice (some ⟨db, 0, none⟩) D.length cD)) (hD : Box w db 4 (D.map Value.bool)) (hl : D.length ≤ 1000000) : Calls Try.prog 24 #[.pointer (some ⟨fb, 0, none⟩), .int .i64 page] w fun e w' => e = .returned (.bool (drt D page)) ∧ w = w' := by
  have hc := haspage_any fb _ _ _ page w c4 hl
  unfold drt
  cases h : inL D.length page with
  | false =>
    rw [h] at hc
    go_enter Try.func24, Try.ntmps24
    go_wp2_with (go_at_call 35; refine hc.mono ?_; rintro e w' ⟨rfl, rfl⟩)
    go_ret
    exact ⟨rfl, rfl⟩
  | true =>
    rw [h] at hc
    obtain ⟨k, rfl, hk⟩ := inL_true h
    have ci : w.cell? ⟨db, k, none⟩ = some (.bool (D.getD k false)) := by rw [hD.c k, List.getElem?_map, List.getElem?_eq_getElem hk]; simp [List.getD_eq_getElem?_getD, List.getElem?_eq_getElem hk]
    rw [Int.toNat_natCast, Bool.true_and]
    generalize D.getD k false = r at ci ⊢
    clear hD h
    go_enter Try.func24, Try.ntmps24
    go_wp2_with (go_at_call 35; refine hc.mono ?_; rintro e w' ⟨rfl, rfl⟩)
    go_ret
    exact ⟨rfl, rfl⟩
theorem worn_any (fb wb : Nat) (W : List Int) (cW : Nat) (sec : Int) (w : World) (c5 : w.cell? ⟨fb, 5, none⟩ = some (.slice (some ⟨wb, 0, none⟩) W.length cW)) (hW : Box w wb 3 (W.map (Value.int .i64))) (hl : W.length ≤ 1000000) : Calls Try.prog 26 #[.pointer (some ⟨fb, 0, none⟩), .int .i64 sec] w fun e w' => e = .returned (.int .i64 (wrn W sec)) ∧ w = w' := by
  have hc := hassector_any fb _ _ _ sec w c5 hl
  unfold wrn
  cases h : inL W.length sec with
  | false =>
    rw [h] at hc
    go_enter Try.func26, Try.ntmps26
    go_wp2_with (go_at_call 40; refine hc.mono ?_; rintro e w' ⟨rfl, rfl⟩)
    go_ret
    exact ⟨rfl, rfl⟩
  | true =>
    rw [h] at hc
    obtain ⟨k, rfl, hk⟩ := inL_true h
    have ci : w.cell? ⟨wb, k, none⟩ = some (.int .i64 (W.getD k 0)) := by rw [hW.c k, List.getElem?_map, List.getElem?_eq_getElem hk]; simp [List.getD_eq_getElem?_getD, List.getElem?_eq_getElem hk]
    rw [Int.toNat_natCast, if_pos rfl]
    generalize W.getD k 0 = r at ci ⊢
    clear hW h
    go_enter Try.func26, Try.ntmps26
    go_wp2_with (go_at_call 40; refine hc.mono ?_; rintro e w' ⟨rfl, rfl⟩)
    go_ret
    exact ⟨rfl, rfl⟩
end Go.Proofs.Ytdefcfmnhfeblaa
