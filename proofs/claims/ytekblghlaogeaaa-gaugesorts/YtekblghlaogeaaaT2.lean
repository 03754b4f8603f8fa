/- Contract of count; the walk of GaugeSorts. -/
import Derived.Test.YtekblghlaogeaaaT1
import Derived.Test.YtekblghlaogeaaaL4
namespace Go.Proofs.Ytekblghlaogeaaa
open Go.RowKit
set_option linter.unusedSimpArgs false
set_option linter.unusedVariables false

def cnt (xs : List Nat) (x : Nat) : Nat := xs.countP fun y => decide (bits64 y = bits64 x)
theorem cnt_step (xs : List Nat) (x j : Nat) (h : j < xs.length) : cnt (xs.take (j + 1)) x = cnt (xs.take j) x + if bits64 (gt xs j) = bits64 x then 1 else 0 := by
  unfold cnt
  rw [take_snocN xs j h, List.countP_append]
  congr 1
  simp only [List.countP_cons, List.countP_nil, Nat.zero_add, decide_eq_true_eq]
  rfl
theorem cnt_le (xs : List Nat) (x : Nat) : cnt xs x ≤ xs.length := List.countP_le_length ..
theorem cnt_perm {xs ys : List Nat} (h : ys.Perm xs) (x : Nat) : cnt ys x = cnt xs x := h.countP_eq _
theorem count_any (a : Option Addr) (N cap x : Nat) (xs : List Nat) (w : World) (R : Row encF w a N xs) (hN : N ≤ 1000) :
    Calls Try.prog 30 #[.slice a N cap, .float .f64 x] w fun e w' => e = .returned (.int .i64 (cnt xs x)) ∧ w' = w := by
  have hl := R.len_eq
  go_enter Try.func30, Try.ntmps30
  go_wp2
  go_loop [5, 6] (fun vn vi => ∃ j : Nat, j ≤ N ∧ vi = .int .i64 j ∧ vn = .int .i64 (cnt (xs.take j) x)) (fun _ vi => N - (intOf vi).toNat)
  case atStart => exact ⟨0, Nat.zero_le _, rfl, rfl⟩
  case round =>
    obtain ⟨j, hj, rfl, rfl⟩ := hrel
    by_cases hlt : j < N
    · obtain ⟨b, off, rfl, hc⟩ := R.cells (by omega)
      have c1 : w.cell? ⟨b, off + j, none⟩ = some (.float .f64 (gt xs j)) := hc j hlt
      have hs := cnt_step xs x j (by omega)
      have hle := cnt_le (xs.take j) x
      have hle2 : (xs.take j).length ≤ 1000 := by simp; omega
      have hk := like_any (gt xs j) x w
      by_cases e : bits64 (gt xs j) = bits64 x
      · rw [if_pos e] at hs
        rw [decide_eq_true e] at hk
        clear e hc
        generalize gt xs j = y at c1 hk
        generalize cnt (xs.take j) x = n at hs hle
        go_wp2_with (go_at_call 16; refine hk.mono ?_; rintro e w' ⟨rfl, rfl⟩)
        go_round
        case rel => exact ⟨j + 1, by omega, by go_num, by rw [hs]; go_num⟩
        case measure => simp [intOf]; omega
      · rw [if_neg e] at hs
        rw [decide_eq_false e] at hk
        clear e hc
        generalize gt xs j = y at c1 hk
        generalize cnt (xs.take j) x = n at hs hle
        go_wp2_with (go_at_call 16; refine hk.mono ?_; rintro e w' ⟨rfl, rfl⟩)
        go_round
        case rel => exact ⟨j + 1, by omega, by go_num, by rw [hs]; go_num⟩
        case measure => simp [intOf]; omega
    · have ej : j = N := by omega
      subst ej
      rw [List.take_of_length_le (Nat.le_of_eq hl)]
      go_wp2
      go_ret
      exact ⟨rfl, rfl⟩
theorem order_q (x y : Nat) (w : World) (hx : x < 18446744073709551616) (hy : y < 18446744073709551616) : Calls Try.prog 12 #[.float .f64 x, .float .f64 y] w fun e w' => e = .returned (.int .i64 (ord x y)) ∧ w' = w :=
  (order_any x y w hx hy).mono fun _ _ h => ⟨h.1, h.2.symm⟩
theorem ord_le {x y : Nat} (h : key x ≤ key y) : ¬ 0 < ord x y := by
  unfold ord
  split
  · decide
  · rw [if_neg (by omega)]; decide

set_option maxHeartbeats 2000000 in
theorem gaugeSorts_walk (a0 : Option Addr) (len0 cap0 : Nat) (z0 : List Int) (w : World) (w0 : IsRow .u64 w a0 len0 cap0 z0) :
    Calls Try.prog 7 #[.slice a0 len0 cap0] w fun e w' => e = .returned (.bool true) ∧ Below w.heap.size w w' := by
  have R := w0.row
  generalize (z0.take len0).map Int.toNat = us at R
  have hL := live_any
  have hm : len0 ≤ 9223372036854775807 := R.le
  by_cases h : (300 : Int) < len0
  · go_enter Try.func7, Try.ntmps7
    go_wp2_with (go_at_call 15; refine (hL _).mono ?_; rintro e w' ⟨rfl, n, rfl⟩)
    go_ret
    exact ⟨rfl, below_drewN w _⟩
  · have hlen : len0 ≤ 1000 := by omega
    have h1 := list_any a0 len0 cap0 us w R hlen
    go_enter Try.func7, Try.ntmps7
    go_wp2_with fail
    refine h1.mono ?_
    rintro e w1 ⟨a1, cap1, rfl, hc1, hm1, R1, hg1⟩
    have h2 := sorted_any a1 len0 cap1 us w1 R1 hlen
    go_wp2_with fail
    refine h2.mono ?_
    rintro e w2 ⟨g, ys, rfl, R2, hg2, hp, hS⟩
    have hg4 := grown_trans hg1 hg2
    have R4 := R1.grown hg2
    have R5 := R.grown hg4
    have hS' : Hid (Srt 0 len0 ys) := hS
    clear h1 h2 hg1 hg2 R1 hS
    go_wp2_with fail
    go_loopw [5] (fun i wr => ∃ j n : Nat, j ≤ len0 ∧ i = .int .i64 j ∧ wr = w2.drewN n) (fun i _ => len0 - (intOf i).toNat)
    case atStart => exact ⟨0, 0, Nat.zero_le _, rfl, rfl⟩
    case round =>
      obtain ⟨j, n, hj, rfl, rfl⟩ := hrel
      by_cases hlt : j < len0
      · have hq1 := fun m => count_any (some ⟨g, 0, none⟩) len0 len0 (gt ys j) ys ((w2.drewN n).drewN m) ((R2.drewN n).drewN m) hlen
        have hq2 := fun m => count_any a1 len0 cap1 (gt ys j) us ((w2.drewN n).drewN m) ((R4.drewN n).drewN m) hlen
        rw [cnt_perm hp] at hq1
        obtain ⟨b, off, rfl, hc⟩ := (R4.drewN n).cells (by omega)
        obtain ⟨b', off', rfl, hc'⟩ := (R5.drewN n).cells (by omega)
        obtain ⟨b3, off3, e3, hc3⟩ := (R2.drewN n).cells (by omega)
        injection e3 with e3
        injection e3 with e4 e5
        subst e4 e5
        have c1 : (w2.drewN n).cell? ⟨b, off + j, none⟩ = some (.float .f64 (gt us j)) := hc j hlt
        have c2 : (w2.drewN n).cell? ⟨b', off' + j, none⟩ = some (.int .u64 (gt us j)) := hc' j hlt
        have c3 : (w2.drewN n).cell? ⟨g, j, none⟩ = some (.float .f64 (gt ys j)) := by have := hc3 j hlt; rw [Nat.zero_add] at this; exact this
        have hex : ∀ m, ∃ k, (w2.drewN n).drewN m = w2.drewN k := fun m => ⟨n + m, World.drewN_drewN ..⟩
        cases j with
        | zero =>
          clear hc hc' hc3 R4 R5 R w0 R2 hS'
          simp only [Nat.add_zero] at c1 c2
          generalize w2.drewN n = w5 at *
          generalize gt us 0 = x at *
          generalize gt ys 0 = y at *
          generalize cnt us y = c at *
          go_wp2_with fail
          go_quiet ((first | (go_at_call 9; exact Calls.quiet_of_same (of_q _ _)) | (go_at_call 16; exact Calls.quiet_of_same (like_same _ _)) | (go_at_call 30; first | with_reducible exact Calls.quiet_of_same (hq1 _) | with_reducible exact Calls.quiet_of_same (hq2 _))))
          go_wp2
          go_roundw
          case rel =>
            obtain ⟨k, hk⟩ := hex nq
            exact ⟨1, k, by omega, by go_num, hk⟩
          case measure => simp [intOf]; omega
        | succ jp =>
          have c4 : (w2.drewN n).cell? ⟨g, jp, none⟩ = some (.float .f64 (gt ys jp)) := by have := hc3 jp (by omega); rw [Nat.zero_add] at this; exact this
          have hBy : Bd ys := R2.bd
          have hor := fun w => order_q (gt ys jp) (gt ys (jp + 1)) w (hBy.gt _) (hBy.gt _)
          have hle := ord_le (hS'.out jp (jp + 1) (Nat.zero_le _) (by omega) hlt)
          generalize ord (gt ys jp) (gt ys (jp + 1)) = o at hor hle
          have ho' : decide (o > 0) = false := decide_eq_false hle
          have hjp : decide ((jp : Int) + 1 > 0) = true := decide_eq_true (by omega)
          clear hc hc' hc3 R4 R5 R w0 R2 hS' hBy
          generalize w2.drewN n = w5 at *
          generalize gt us (jp + 1) = x at *
          generalize gt ys (jp + 1) = y at *
          generalize gt ys jp = z at *
          generalize cnt us y = c at *
          have pa : (0 : Int) ≤ (jp : Int) + 1 := by omega
          have ba : (jp : Int) + 1 < (len0 : Int) := by omega
          have ea : ((jp : Int) + 1).toNat = jp + 1 := by omega
          have ra : IntKind.i64.wrap ((jp : Int) + 1) = (jp : Int) + 1 := by rw [IntKind.wrap_i64]; omega
          have pc : (0 : Int) ≤ (jp : Int) := by omega
          have bc : (jp : Int) < (len0 : Int) := by omega
          have rc : IntKind.i64.wrap (jp : Int) = (jp : Int) := by rw [IntKind.wrap_i64]; omega
          go_wp2_with fail
          go_quiet ((first | (go_at_call 9; exact Calls.quiet_of_same (of_q _ _)) | (go_at_call 16; exact Calls.quiet_of_same (like_same _ _)) | (go_at_call 12; exact Calls.quiet_of_same (hor _)) | (go_at_call 30; first | with_reducible exact Calls.quiet_of_same (hq1 _) | with_reducible exact Calls.quiet_of_same (hq2 _))))
          clear c1 c2 c3 c4 hor pa ba ea ra pc bc rc hjp ho' hle hq1 hq2
          go_wp2
          go_roundw
          case rel =>
            obtain ⟨k, hk⟩ := hex nq
            exact ⟨jp + 2, k, by omega, by go_num, hk⟩
          case measure => simp [intOf]; omega
      · have hbel : ∀ m, Below w.heap.size w ((w2.drewN n).drewN m) := fun m => grown_below (grown_trans hg4 (grown_trans (grown_drewN w2 n) (grown_drewN _ m)))
        generalize w2.drewN n = w5 at *
        clear R4 R5 R w0 R2
        go_wp2_with (go_at_call 15; refine (hL _).mono ?_; rintro e w' ⟨rfl, n, rfl⟩)
        go_ret
        exact ⟨rfl, hbel _⟩
end Go.Proofs.Ytekblghlaogeaaa
