/- Contract of the library's insertion sort. -/
import Derived.Test.YtekblghlaogeaaaS2
import Derived.Sort.WalkA
namespace Go.Proofs.Ytekblghlaogeaaa
open Go.RowKit
set_option linter.unusedSimpArgs false
set_option linter.unusedVariables false

def Bd (xs : List Nat) : Prop := ∀ x ∈ xs, x < 18446744073709551616
theorem Bd.gt {xs : List Nat} (h : Bd xs) (i : Nat) : gt xs i < 18446744073709551616 := getD_bd h i
theorem Mv.bd {lo hi : Nat} {xs ys : List Nat} (h : Mv lo hi xs ys) (k : Bd xs) : Bd ys := fun x hx => k x (h.perm.mem_iff.1 hx)
theorem ord_neg_iff (x y : Nat) : ord x y < 0 ↔ key x < key y := by
  unfold ord; split
  · simp [*]
  · split <;> simp <;> omega
/-- the method order -/
theorem meth_q (x y : Nat) (w : World) (hx : x < 18446744073709551616) (hy : y < 18446744073709551616) : Calls Try.prog 39 #[.float .f64 x, .float .f64 y] w fun e w' => e = .returned (.int .i64 (ord x y)) ∧ w' = w := by
  have h := order_any x y w hx hy
  generalize ord x y = r at *
  go_enter Try.func39, Try.ntmps39
  go_wp2_with (go_at_call 12; refine h.mono ?_; rintro e w' ⟨rfl, rfl⟩)
  go_ret
  exact ⟨rfl, rfl⟩

structure Ins (a i j : Nat) (zs : List Nat) : Prop where
  oth : ∀ p q, a ≤ p → p ≤ q → q ≤ i → p ≠ j → q ≠ j → kt zs p ≤ kt zs q
  up : ∀ q, j < q → q ≤ i → kt zs j ≤ kt zs q
theorem Ins.start {a i : Nat} {zs : List Nat} (h : Srt a i zs) : Ins a i i zs :=
  ⟨fun p q h1 h2 h3 h4 h5 => h p q h1 h2 (by omega), fun q h1 h2 => by omega⟩
theorem kt_sw {xs : List Nat} {i j : Nat} (hi : i < xs.length) (hj : j < xs.length) (t : Nat) : kt (sw xs i j) t = if t = j then kt xs i else if t = i then kt xs j else kt xs t := by
  unfold kt
  rw [gt_sw hi hj]
  split
  · rfl
  · split <;> rfl
theorem Ins.step {a i j : Nat} {zs : List Nat} (h : Ins a i j zs) (h1 : a < j) (h2 : j ≤ i) (hi : i < zs.length) (hk : kt zs j < kt zs (j - 1)) : Ins a i (j - 1) (sw zs j (j - 1)) := by
  have g := fun t => kt_sw (xs := zs) (i := j) (j := j - 1) (by omega) (by omega) t
  constructor
  · intro p q p1 p2 p3 p4 p5
    rw [g, g, if_neg p4, if_neg p5]
    by_cases c1 : p = j
    · rw [if_pos c1]
      by_cases c2 : q = j
      · rw [if_pos c2]; exact Nat.le_refl _
      · rw [if_neg c2]; exact h.oth (j - 1) q (by omega) (by omega) p3 (by omega) c2
    · rw [if_neg c1]
      by_cases c2 : q = j
      · rw [if_pos c2]; exact h.oth p (j - 1) p1 (by omega) (by omega) c1 (by omega)
      · rw [if_neg c2]; exact h.oth p q p1 p2 p3 c1 c2
  · intro q q1 q2
    rw [g, g, if_pos rfl, if_neg (by omega)]
    by_cases c2 : q = j
    · rw [if_pos c2]; omega
    · rw [if_neg c2]; exact h.up q (by omega) q2
theorem Ins.stop {a i j : Nat} {zs : List Nat} (h : Ins a i j zs) (h2 : j ≤ i) (hk : j ≤ a ∨ kt zs (j - 1) ≤ kt zs j) : Srt a (i + 1) zs := by
  intro p q p1 p2 p3
  by_cases c1 : p = j
  · by_cases c2 : q = j
    · rw [c1, c2]; exact Nat.le_refl _
    · rw [c1]; exact h.up q (by omega) (by omega)
  · by_cases c2 : q = j
    · rcases hk with hk | hk
      · omega
      · have := h.oth p (j - 1) p1 (by omega) (by omega) c1 (by omega)
        rw [c2]; omega
    · exact h.oth p q p1 p2 (by omega) c1 c2
theorem Srt.mono {lo hi hi' : Nat} {xs : List Nat} (h : Srt lo hi xs) (k : hi' ≤ hi) : Srt lo hi' xs := fun i j h1 h2 h3 => h i j h1 h2 (by omega)

/-- the function value that is handed on -/
def cmpV : Value := .func (.func 39) #[] #[]

set_option maxHeartbeats 4000000 in
theorem insertion_any (g N cap a b : Nat) (xs : List Nat) (w0 w : World) (F : FB w0 w g xs) (hB : Bd xs) (hl : xs.length = N) (hN : N ≤ 1000) (h1 : a ≤ b) (h2 : b ≤ N) :
    Calls Try.prog 42 #[.slice (some ⟨g, 0, none⟩) N cap, .int .i64 a, .int .i64 b, .func (.func 39) #[] #[]] w fun e w' => e = .returned (.tuple #[]) ∧ ∃ ys, FB w0 w' g ys ∧ Mv a b xs ys ∧ Srt a b ys := by
  go_enter Try.func42, Try.ntmps42
  go_wp2
  go_loopw [8, 9] (fun vi _ wr => ∃ (i : Nat) (ys : List Nat), vi = .int .i64 i ∧ a + 1 ≤ i ∧ i ≤ b + 1 ∧ FB w0 wr g ys ∧ Hid (Mv a b xs ys ∧ Srt a i ys)) (fun vi _ _ => b + 1 - (intOf vi).toNat)
  case atStart => exact ⟨a + 1, xs, by go_num, by omega, by omega, F, Mv.refl _ _ _, Srt.one _ _ _ (by omega)⟩
  case round =>
    clear F
    obtain ⟨i, ys, rfl, hi1, hi2, FY, H⟩ := hrel
    by_cases hlt : i < b
    · go_wp2
      go_loopw [9] (fun vj w2 => ∃ (j : Nat) (zs : List Nat), vj = .int .i64 j ∧ a ≤ j ∧ j ≤ i ∧ FB w0 w2 g zs ∧ Hid (Mv a b xs zs ∧ Ins a i j zs)) (fun vj _ => (intOf vj).toNat)
      case atStart => exact ⟨i, ys, rfl, by omega, Nat.le_refl _, FY, H.out.1, Ins.start H.out.2⟩
      case round =>
        clear FY H
        obtain ⟨j, zs, rfl, hj1, hj2, FZ, I⟩ := hrel
        have I1 := I.out
        have hlz : zs.length = N := by rw [I1.1.len, hl]
        have hBz := I1.1.bd hB
        by_cases hja : a < j
        · obtain ⟨jp, rfl⟩ : ∃ q, j = q + 1 := ⟨j - 1, by omega⟩
          have cm := fun w => meth_q (gt zs (jp + 1)) (gt zs jp) w (hBz.gt _) (hBz.gt _)
          have ca := FZ.cell (i := jp + 1) (by omega)
          have cb := FZ.cell (i := jp) (by omega)
          by_cases hk : kt zs (jp + 1) < kt zs jp
          · have ho : ord (gt zs (jp + 1)) (gt zs jp) < 0 := (ord_neg_iff _ _).2 hk
            generalize ord (gt zs (jp + 1)) (gt zs jp) = o at cm ho
            have ho' : decide (o < 0) = true := decide_eq_true ho
            have I2 : Mv a b xs (sw zs (jp + 1) jp) ∧ Ins a i jp (sw zs (jp + 1) jp) := ⟨I1.1.trans (Mv.sw (by omega) (by omega) (by omega) (by omega) (by omega)), I1.2.step hja hj2 (by omega) hk⟩
            have FN := fun n => FZ.drewN n
            clear I I1
            generalize hx : gt zs (jp + 1) = x at ca cm
            generalize hy : gt zs jp = y at cb cm
            have hjad : decide ((jp : Int) + 1 > (a : Int)) = true := decide_eq_true (by omega)
            have hjaz : (a : Int) < (jp : Int) + 1 := by omega
            have pa : (0 : Int) ≤ (jp : Int) + 1 := by omega
            have ba : (jp : Int) + 1 < (N : Int) := by omega
            have ea : ((jp : Int) + 1).toNat = jp + 1 := by omega
            have ra : IntKind.i64.wrap ((jp : Int) + 1) = (jp : Int) + 1 := by rw [IntKind.wrap_i64]; omega
            have pc : (0 : Int) ≤ (jp : Int) := by omega
            have bc : (jp : Int) < (N : Int) := by omega
            have rc : IntKind.i64.wrap (jp : Int) = (jp : Int) := by rw [IntKind.wrap_i64]; omega
            go_wp2_with fail
            go_quiet ((go_at_call 39; exact Calls.quiet_of_same (cm _)))
            have FQ := FN nq
            clear ca cb cm FZ FN
            generalize wr.drewN nq = wq at FQ ⊢
            have ca := FQ.cell (i := jp + 1) (by omega)
            have cb := FQ.cell (i := jp) (by omega)
            have fa := FQ.frozen (jp + 1)
            have fb := FQ.frozen jp
            obtain ⟨u, cc⟩ := FQ.cell2 (i := jp + 1) (j := jp) (by omega) (gt zs jp)
            have hS : Hid (FB w0 ((wq.setCell ⟨g, jp + 1, none⟩ (.float .f64 (gt zs jp))).setCell ⟨g, jp, none⟩ (.float .f64 (gt zs (jp + 1)))).drew g (sw zs (jp + 1) jp)) := FQ.swap (jp + 1) jp
            rw [hx] at ca hS
            rw [hy] at cb cc hS
            have hst := store_f
            clear hx hy FQ
            go_wp2_with fail
            go_region
            have hS' := hS.out
            clear ca cb cc fa fb hS hst
            generalize ((wq.setCell ⟨g, jp + 1, none⟩ (.float .f64 y)).setCell ⟨g, jp, none⟩ (.float .f64 x)).drew = w2 at hS' ⊢
            clear pa ba ea ra pc bc rc hjad hjaz
            go_wp2
            go_roundw
            case rel => exact ⟨jp, _, by go_num, by omega, by omega, hS', I2⟩
            case measure => simp [intOf]
          · have ho : ¬ ord (gt zs (jp + 1)) (gt zs jp) < 0 := fun h => hk ((ord_neg_iff _ _).1 h)
            generalize ord (gt zs (jp + 1)) (gt zs jp) = o at cm ho
            have ho' : decide (o < 0) = false := decide_eq_false ho
            have I2 : Hid (Mv a b xs zs ∧ Srt a (i + 1) zs) := ⟨I1.1, I1.2.stop hj2 (Or.inr (by simpa using hk))⟩
            have FN := fun n => FZ.drewN n
            clear I I1 hk ho
            generalize hx : gt zs (jp + 1) = x at ca cm
            generalize hy : gt zs jp = y at cb cm
            have hjad : decide ((jp : Int) + 1 > (a : Int)) = true := decide_eq_true (by omega)
            have hjaz : (a : Int) < (jp : Int) + 1 := by omega
            have pa : (0 : Int) ≤ (jp : Int) + 1 := by omega
            have ba : (jp : Int) + 1 < (N : Int) := by omega
            have ea : ((jp : Int) + 1).toNat = jp + 1 := by omega
            have ra : IntKind.i64.wrap ((jp : Int) + 1) = (jp : Int) + 1 := by rw [IntKind.wrap_i64]; omega
            have pc : (0 : Int) ≤ (jp : Int) := by omega
            have bc : (jp : Int) < (N : Int) := by omega
            have rc : IntKind.i64.wrap (jp : Int) = (jp : Int) := by rw [IntKind.wrap_i64]; omega
            go_wp2_with fail
            go_quiet ((go_at_call 39; exact Calls.quiet_of_same (cm _)))
            have FQ := FN nq
            clear ca cb cm FZ FN hx hy
            generalize wr.drewN nq = wq at FQ ⊢
            clear pa ba ea ra pc bc rc hjad hjaz
            go_wp2
            go_roundw
            case rel => exact ⟨i + 1, zs, by go_num, by omega, by omega, FQ, I2⟩
            case measure => simp [intOf]; omega
        · obtain rfl : j = a := by omega
          have I2 : Hid (Mv j b xs zs ∧ Srt j (i + 1) zs) := ⟨I1.1, I1.2.stop hj2 (Or.inl (Nat.le_refl _))⟩
          have FN := fun n => FZ.drewN n
          have hjad : decide ((j : Int) > (j : Int)) = false := decide_eq_false (by omega)
          clear I I1
          go_wp2_with fail
          go_quiet (fail)
          have FQ := FN nq
          clear FZ FN
          generalize wr.drewN nq = wq at FQ ⊢
          go_wp2
          go_roundw
          case rel => exact ⟨i + 1, zs, by go_num, by omega, by omega, FQ, I2⟩
          case measure => simp [intOf]; omega
    · have H1 := H.out
      have H2 : Mv a b xs ys ∧ Srt a b ys := ⟨H1.1, H1.2.mono (by omega)⟩
      clear H H1
      go_wp2
      go_end0
      exact ⟨rfl, ys, FY, H2.1, H2.2⟩
end Go.Proofs.Ytekblghlaogeaaa
