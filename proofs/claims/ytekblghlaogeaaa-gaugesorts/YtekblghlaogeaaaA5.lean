/- Contracts of Mean, the program's and the document's. -/
import Derived.Test.YtekblghlaogeaaaA4
namespace Go.Proofs.Ytekblghlaogeaaa
open Go.RowKit
set_option linter.unusedSimpArgs false
set_option linter.unusedVariables false

/-- the sum from the first float on, all NaNs as one; the mean -/
def sums (xs : List Nat) (j : Nat) : Nat := ((xs.drop 1).take j).foldl (fop .add) (bits64 (xs.getD 0 0))
def mean (xs : List Nat) : Nat := if xs.length = 0 then 9221120237041090561 else fop .quo (sums xs (xs.length - 1)) (foi xs.length)
theorem sums_step (xs : List Nat) (j : Nat) (h : j + 1 < xs.length) : sums xs (j + 1) = fop .add (sums xs j) (xs.getD (j + 1) 0) := by
  unfold sums
  rw [take_snocN _ _ (by simp; omega), List.foldl_append, List.foldl_cons, List.foldl_nil]
  congr 1
  rw [List.getD_eq_getElem?_getD, List.getD_eq_getElem?_getD, List.getElem?_drop, Nat.add_comm]
theorem mean_canon (xs : List Nat) : bits64 (mean xs) = mean xs := by
  unfold mean
  split
  · decide
  · exact fop_canon _ _ _
theorem sums_zero (xs : List Nat) : sums xs 0 = bits64 (xs.getD 0 0) := by simp [sums]

set_option maxHeartbeats 400000 in
theorem refmean_any (a : Option Addr) (len cap : Nat) (xs : List Nat) (w : World) (R : Row encF w a len xs) (hlen : len ≤ 1000) :
    Calls Try.prog 28 #[.slice a len cap] w fun e w' => ∃ r n, e = .returned (.float .f64 r) ∧ bits64 r = mean xs ∧ w' = w.drewN n := by
  have hl := R.len_eq
  by_cases h0 : len = 0
  · have h1 : (callFunc 31 #[.int .u64 9221120237041090561]).run Try.prog w = .ok (.value (.float .f64 9221120237041090561)) w := run_frombits 9221120237041090561 w
    subst h0
    have hm : mean xs = 9221120237041090561 := by unfold mean; rw [if_pos hl]
    rw [hm]
    clear hm hl
    go_enter Try.func28, Try.ntmps28
    go_wp2
    go_ret
    exact ⟨_, 0, rfl, by decide, rfl⟩
  · obtain ⟨b, off, rfl, hc⟩ := R.cells (by omega)
    have hm : mean xs = fop .quo (sums xs (len - 1)) (foi len) := by unfold mean; rw [if_neg (by omega), hl]
    have hc0 := hc 0 (by omega)
    have hs0 := sums_zero xs
    have hst := fun j (h : j + 1 < len) => sums_step xs j (by omega)
    rw [hm]
    clear hm hl
    generalize hx0 : xs.getD 0 0 = x0 at hc0 hs0
    clear hx0
    unfold encF at hc0
    simp only [Nat.add_zero] at hc0
    go_enter Try.func28, Try.ntmps28
    go_wp2
    go_loopw [3, 4] (fun s i wr => ∃ j r n : Nat, j + 1 ≤ len ∧ i = .int .i64 (j + 1 : Nat) ∧ s = .float .f64 r ∧ bits64 r = sums xs j ∧ wr = w.drewN n) (fun _ i _ => len - (intOf i).toNat)
    case atStart => exact ⟨0, x0, 0, by omega, rfl, rfl, hs0.symm, rfl⟩
    case round =>
      obtain ⟨j, r, n, hj, rfl, rfl, hr, rfl⟩ := hrel
      by_cases hlt : j + 1 < len
      · have hcell := hc (j + 1) hlt
        have hs1 := hst j hlt
        generalize hx1 : xs.getD (j + 1) 0 = x at hcell hs1
        clear hx1 hc hc0 hst hs0
        unfold encF at hcell
        obtain ⟨q, m, hrun, hb, _⟩ := run_fop (P := Try.prog) .add (by simp) 23 r x (w.drewN n)
        simp only [World.drewN_drewN] at hrun
        have hb' : bits64 q = sums xs (j + 1) := by rw [hb, hs1, ← hr, fop_left]
        clear hs1 hr hb
        go_wp2
        go_roundw
        case rel => exact ⟨j + 1, q, n + m, by omega, by go_num, rfl, hb', rfl⟩
        case measure => simp [intOf]; omega
      · obtain rfl : len = j + 1 := by omega
        obtain ⟨q, m, hrun, hb, _⟩ := run_fop (P := Try.prog) .quo (by simp) 23 r (foi (j + 1 : Nat)) (w.drewN n)
        simp only [World.drewN_drewN] at hrun
        have hb' : bits64 q = fop .quo (sums xs j) (foi (j + 1 : Nat)) := by rw [hb, ← hr, fop_left]
        clear hc hc0 hst hs0 hr hb
        have ec : ((j + 1 : Nat) : Int) = (j : Int) + 1 := by omega
        rw [ec] at hrun
        unfold foi at hrun
        clear ec
        go_wp2
        go_ret
        exact ⟨q, _, rfl, hb', rfl⟩

set_option maxHeartbeats 400000 in
theorem mean_any (a : Option Addr) (len cap : Nat) (xs : List Nat) (w : World) (R : Row encF w a len xs) (hlen : len ≤ 1000) (hcap : len ≤ cap) (hcap' : cap ≤ maxLen) :
    Calls Try.prog 27 #[.slice a len cap] w fun e w' => ∃ r n, e = .returned (.float .f64 r) ∧ bits64 r = mean xs ∧ w' = w.drewN n := by
  have hl := R.len_eq
  have hro := rounded_any
  have hon := onenan_any
  by_cases h0 : len = 0
  · have h1 : (callFunc 31 #[.int .u64 9221120237041090561]).run Try.prog w = .ok (.value (.float .f64 9221120237041090561)) w := run_frombits 9221120237041090561 w
    subst h0
    have hm : mean xs = 9221120237041090561 := by unfold mean; rw [if_pos hl]
    rw [hm]
    clear hm hl
    go_enter Try.func27, Try.ntmps27
    go_wp2_with fail
    go_ret
    exact ⟨_, 0, rfl, by decide, rfl⟩
  · obtain ⟨b, off, rfl, hc⟩ := R.cells (by omega)
    have hm : mean xs = fop .quo (sums xs (len - 1)) (foi len) := by unfold mean; rw [if_neg (by omega), hl]
    have hc0 := hc 0 (by omega)
    have hs0 := sums_zero xs
    have hst := fun j (h : j + 1 < len) => sums_step xs j (by omega)
    rw [hm]
    clear hm hl
    generalize hx0 : xs.getD 0 0 = x0 at hc0 hs0
    clear hx0
    unfold encF at hc0
    simp only [Nat.add_zero] at hc0
    by_cases hcp : cap = 1
    · subst hcp
      obtain rfl : len = 1 := by omega
      obtain ⟨q, m, hrun, hb, _⟩ := run_fop (P := Try.prog) .quo (by simp) 23 x0 (foi 1) w
      have hb' : bits64 q = fop .quo (sums xs 0) (foi (1 : Nat)) := by rw [hb, hs0, fop_left]; rfl
      have hon' := onenan_any q (w.drewN m)
      rw [hb'] at hon'
      unfold foi at hrun
      clear hc hst hs0 hb hb'
      go_enter Try.func27, Try.ntmps27
      go_wp2_with (first | (go_at_call 37; refine (hro _ _).mono ?_; rintro e w' ⟨rfl, rfl⟩))
      go_loopw [3, 17] (fun s i wr => i = .int .i64 0 ∧ s = .float .f64 x0 ∧ wr = w) (fun _ _ _ => 0)
      case atStart => exact ⟨rfl, rfl, rfl⟩
      case round =>
        obtain ⟨rfl, rfl, rfl⟩ := hrel
        go_wp2_with (first | (go_at_call 33; refine hon'.mono ?_; rintro e w' ⟨rfl, rfl⟩))
        go_ret
        exact ⟨_, m, rfl, fop_canon _ _ _, rfl⟩
    · go_enter Try.func27, Try.ntmps27
      go_wp2_with (go_at_call 37; refine (hro _ _).mono ?_; rintro e w' ⟨rfl, rfl⟩)
      go_loopw [3, 5, 17] (fun s _ i wr => ∃ j r n : Nat, j + 1 ≤ len ∧ i = .int .i64 j ∧ s = .float .f64 r ∧ bits64 r = sums xs j ∧ wr = w.drewN n) (fun _ _ i _ => len - (intOf i).toNat)
      case atStart => exact ⟨0, x0, 0, by omega, rfl, rfl, hs0.symm, rfl⟩
      case round =>
        obtain ⟨j, r, n, hj, rfl, rfl, hr, rfl⟩ := hrel
        by_cases hlt : j + 1 < len
        · have hcell := hc (j + 1) hlt
          have hs1 := hst j hlt
          generalize hx1 : xs.getD (j + 1) 0 = x at hcell hs1
          clear hx1 hc hc0 hst hs0
          unfold encF at hcell
          rw [show off + (j + 1) = off + 1 + j by omega] at hcell
          obtain ⟨q, m, hrun, hb, _⟩ := run_fop (P := Try.prog) .add (by simp) 23 r x (w.drewN n)
          simp only [World.drewN_drewN] at hrun
          have hb' : bits64 q = sums xs (j + 1) := by rw [hb, hs1, ← hr, fop_left]
          clear hs1 hr hb
          go_wp2_with (first | (go_at_call 37; refine (hro _ _).mono ?_; rintro e w' ⟨rfl, rfl⟩))
          go_roundw
          case rel => exact ⟨j + 1, q, n + m, by omega, by go_num, rfl, hb', rfl⟩
          case measure => simp [intOf]; omega
        · obtain rfl : len = j + 1 := by omega
          obtain ⟨q, m, hrun, hb, _⟩ := run_fop (P := Try.prog) .quo (by simp) 23 r (foi (j + 1 : Nat)) (w.drewN n)
          simp only [World.drewN_drewN] at hrun
          have hb' : bits64 q = fop .quo (sums xs j) (foi (j + 1 : Nat)) := by rw [hb, ← hr, fop_left]
          have hon' := onenan_any q (w.drewN (n + m))
          rw [hb'] at hon'
          clear hc hc0 hst hs0 hr hb
          have ec : ((j + 1 : Nat) : Int) = (j : Int) + 1 := by omega
          rw [ec] at hrun
          unfold foi at hrun
          clear ec hb'
          generalize hG : fop .quo (sums xs j) (foi (j + 1 : Nat)) = G at hon'
          have hG' : bits64 G = fop .quo (sums xs j) (foi (j + 1 : Nat)) := by rw [← hG]; exact fop_canon _ _ _
          clear hG
          go_wp2_with (first | (go_at_call 33; refine hon'.mono ?_; rintro e w' ⟨rfl, rfl⟩))
          go_ret
          exact ⟨_, _, rfl, hG', rfl⟩
end Go.Proofs.Ytekblghlaogeaaa
