/- Contracts of the library's exchange of two stretches, and of its turning of two neighbours. -/
import Derived.Test.YtekblghlaogeaaaS1
import Derived.BigRegion
import Derived.Shelf.RegionOpenPlain
import Derived.Deep.LoopGhost
import Derived.Sort.WalkB2
import Derived.Sort.WalkB12
namespace Go.Proofs.Ytekblghlaogeaaa
open Go.RowKit
set_option linter.unusedSimpArgs false
set_option linter.unusedVariables false

/-- two stretches of n, from a and from b on, exchanged -/
structure Xc (a b n : Nat) (xs ys : List Nat) : Prop where
  mv : Mv a (b + n) xs ys
  lo : ∀ t, t < n → gt ys (a + t) = gt xs (b + t)
  hi : ∀ t, t < n → gt ys (b + t) = gt xs (a + t)
  mid : ∀ i, a + n ≤ i → i < b → gt ys i = gt xs i
/-- .. as far as m -/
structure Xp (a b n m : Nat) (xs ys : List Nat) : Prop where
  mv : Mv a (b + n) xs ys
  lo : ∀ t, t < m → gt ys (a + t) = gt xs (b + t)
  hi : ∀ t, t < m → gt ys (b + t) = gt xs (a + t)
  mid : ∀ i, a + m ≤ i → i < b → gt ys i = gt xs i
  top : ∀ i, b + m ≤ i → gt ys i = gt xs i
theorem Xp.step {a b n m : Nat} {xs ys : List Nat} (h : Xp a b n m xs ys) (h1 : a + n ≤ b) (hm : m < n) (hb : b + n ≤ ys.length) : Xp a b n (m + 1) xs (sw ys (a + m) (b + m)) := by
  have g := fun t => gt_sw (xs := ys) (i := a + m) (j := b + m) (by omega) (by omega) t
  refine ⟨h.mv.trans (Mv.sw (by omega) (by omega) (by omega) (by omega) hb), fun t ht => ?_, fun t ht => ?_, fun i i1 i2 => ?_, fun i i1 => ?_⟩
  · rw [g, if_neg (by omega)]
    by_cases c : t = m
    · subst c; rw [if_pos rfl, h.top _ (by omega)]
    · rw [if_neg (by omega)]; exact h.lo t (by omega)
  · rw [g]
    by_cases c : t = m
    · subst c; rw [if_pos rfl, h.mid _ (by omega) (by omega)]
    · rw [if_neg (by omega), if_neg (by omega)]; exact h.hi t (by omega)
  · rw [g, if_neg (by omega), if_neg (by omega)]; exact h.mid i (by omega) i2
  · rw [g, if_neg (by omega), if_neg (by omega)]; exact h.top i (by omega)

theorem mixedT : Try.prog.follows Departure.mixedOrders = true := by kernel_rfl
theorem store_f (x : Nat) (a : Addr) (m : Mode) (w : World) : Sem.run Try.prog (store a (.float .f64 x) m) w = stored Try.prog w a (.float .f64 x) m := run_store Try.prog w a _ m rfl

set_option maxHeartbeats 2000000 in
theorem swapRange_any (g N cap a b n : Nat) (f : Value) (xs : List Nat) (w0 w : World) (F : FB w0 w g xs) (hl : xs.length = N) (hN : N ≤ 1000) (h1 : a + n ≤ b) (h2 : b + n ≤ N) :
    Calls Try.prog 45 #[.slice (some ⟨g, 0, none⟩) N cap, .int .i64 a, .int .i64 b, .int .i64 n, f] w fun e w' => e = .returned (.tuple #[]) ∧ ∃ ys, FB w0 w' g ys ∧ Xc a b n xs ys := by
  go_enter Try.func45, Try.ntmps45
  go_wp2
  go_loopw [10] (fun i wr => ∃ (m : Nat) (ys : List Nat), m ≤ n ∧ i = .int .i64 m ∧ FB w0 wr g ys ∧ Xp a b n m xs ys) (fun i _ => n - (intOf i).toNat)
  case atStart => exact ⟨0, xs, Nat.zero_le _, rfl, F, Mv.refl _ _ _, fun t ht => absurd ht (by omega), fun t ht => absurd ht (by omega), fun _ _ _ => rfl, fun _ _ => rfl⟩
  case round =>
    obtain ⟨m, ys, hm, rfl, FY, X⟩ := hrel
    have hly : ys.length = N := by rw [X.mv.len, hl]
    by_cases hlt : m < n
    · have ca := FY.cell (i := a + m) (by omega)
      have cb := FY.cell (i := b + m) (by omega)
      have fa := FY.frozen (a + m)
      have fb := FY.frozen (b + m)
      obtain ⟨u, cc⟩ := FY.cell2 (i := a + m) (j := b + m) (by omega) (gt ys (b + m))
      have S3 := FY.swap (a + m) (b + m)
      have X2 := X.step h1 hlt (by omega)
      clear X FY F
      have hS : Hid (FB w0 ((wr.setCell ⟨g, a + m, none⟩ (.float .f64 (gt ys (b + m)))).setCell ⟨g, b + m, none⟩ (.float .f64 (gt ys (a + m)))).drew g (sw ys (a + m) (b + m))) := S3
      clear S3
      generalize hx : gt ys (a + m) = x at ca cb cc hS
      generalize hy : gt ys (b + m) = y at ca cb cc hS
      clear hx hy
      have hst := store_f
      go_wp2_with fail
      go_region
      have hS' := hS.out
      clear ca cb cc fa fb hS hst
      generalize ((wr.setCell ⟨g, a + m, none⟩ (.float .f64 y)).setCell ⟨g, b + m, none⟩ (.float .f64 x)).drew = w2 at hS' ⊢
      go_wp2
      go_roundw
      case rel => exact ⟨m + 1, _, by omega, by go_num, hS', X2⟩
      case measure => simp [intOf]; omega
    · obtain rfl : m = n := by omega
      clear F
      go_wp2
      go_end0
      exact ⟨rfl, ys, FY, X.mv, X.lo, X.hi, X.mid⟩

/-- two neighbours, from a to m and from m to b, turned -/
structure Rot (a m b : Nat) (xs ys : List Nat) : Prop where
  mv : Mv a b xs ys
  lo : ∀ t, t < b - m → gt ys (a + t) = gt xs (m + t)
  hi : ∀ t, t < m - a → gt ys (a + (b - m) + t) = gt xs (a + t)
/-- what is still to be turned: i behind j, around m -/
structure Rp (T : Nat → Nat) (a m b i j : Nat) (xs ys : List Nat) : Prop where
  mv : Mv a b xs ys
  i1 : 1 ≤ i
  i2 : a + i ≤ m
  j1 : 1 ≤ j
  j2 : m + j ≤ b
  lo : ∀ t, t < j → T (m - i + t) = gt ys (m + t)
  hi : ∀ t, t < i → T (m - i + j + t) = gt ys (m - i + t)
  outL : ∀ p, a ≤ p → p < m - i → T p = gt ys p
  outR : ∀ p, m + j ≤ p → p < b → T p = gt ys p
theorem Rp.more {T : Nat → Nat} {a m b i j : Nat} {xs ys zs : List Nat} (h : Rp T a m b i j xs ys) (hij : j < i) (X : Xc (m - i) m j ys zs) : Rp T a m b (i - j) j xs zs := by
  have h1 := h.i1; have h2 := h.i2; have h3 := h.j1; have h4 := h.j2
  refine ⟨h.mv.trans (X.mv.widen (by omega) (by omega)), by omega, by omega, h3, h4, fun t ht => ?_, fun t ht => ?_, fun p p1 p2 => ?_, fun p p1 p2 => ?_⟩
  · rw [X.hi t ht, show m - (i - j) + t = m - i + j + t by omega, h.hi t (by omega)]
  · rw [show m - (i - j) + j + t = m - i + j + (j + t) by omega, h.hi (j + t) (by omega), X.mid (m - (i - j) + t) (by omega) (by omega), show m - i + (j + t) = m - (i - j) + t by omega]
  · by_cases c : p < m - i
    · rw [h.outL p p1 c, X.mv.out p (Or.inl c)]
    · have e := h.lo (p - (m - i)) (by omega)
      rw [show m - i + (p - (m - i)) = p by omega] at e
      have e2 := X.lo (p - (m - i)) (by omega)
      rw [show m - i + (p - (m - i)) = p by omega] at e2
      rw [e, e2]
  · rw [h.outR p p1 p2, X.mv.out p (Or.inr p1)]
theorem Rp.less {T : Nat → Nat} {a m b i j : Nat} {xs ys zs : List Nat} (h : Rp T a m b i j xs ys) (hij : i < j) (X : Xc (m - i) (m + j - i) i ys zs) : Rp T a m b i (j - i) xs zs := by
  have h1 := h.i1; have h2 := h.i2; have h3 := h.j1; have h4 := h.j2
  refine ⟨h.mv.trans (X.mv.widen (by omega) (by omega)), h1, h2, by omega, by omega, fun t ht => ?_, fun t ht => ?_, fun p p1 p2 => ?_, fun p p1 p2 => ?_⟩
  · rw [h.lo t (by omega), X.mid (m + t) (by omega) (by omega)]
  · rw [X.lo t ht, show m - i + (j - i) + t = m - i + (j - i + t) by omega, h.lo (j - i + t) (by omega), show m + (j - i + t) = m + j - i + t by omega]
  · rw [h.outL p p1 p2, X.mv.out p (Or.inl p2)]
  · by_cases c : m + j ≤ p
    · rw [h.outR p c p2, X.mv.out p (Or.inr (by omega))]
    · have e := h.hi (p - (m + j - i)) (by omega)
      rw [show m - i + j + (p - (m + j - i)) = p by omega] at e
      have e2 := X.hi (p - (m + j - i)) (by omega)
      rw [show m + j - i + (p - (m + j - i)) = p by omega] at e2
      rw [e, e2]
theorem Rp.done {T : Nat → Nat} {a m b i : Nat} {xs ys zs : List Nat} (h : Rp T a m b i i xs ys) (X : Xc (m - i) m i ys zs) : Mv a b xs zs ∧ ∀ p, a ≤ p → p < b → gt zs p = T p := by
  have h1 := h.i1; have h2 := h.i2; have h4 := h.j2
  refine ⟨h.mv.trans (X.mv.widen (by omega) (by omega)), fun p p1 p2 => ?_⟩
  by_cases c1 : p < m - i
  · rw [h.outL p p1 c1, X.mv.out p (Or.inl c1)]
  · by_cases c2 : m + i ≤ p
    · rw [h.outR p c2 p2, X.mv.out p (Or.inr c2)]
    · by_cases c3 : p < m
      · have e := h.lo (p - (m - i)) (by omega)
        rw [show m - i + (p - (m - i)) = p by omega] at e
        have e2 := X.lo (p - (m - i)) (by omega)
        rw [show m - i + (p - (m - i)) = p by omega] at e2
        rw [e, e2]
      · have e := h.hi (p - m) (by omega)
        rw [show m - i + i + (p - m) = p by omega] at e
        have e2 := X.hi (p - m) (by omega)
        rw [show m + (p - m) = p by omega] at e2
        rw [e, e2]
def turned (a m b : Nat) (xs : List Nat) (p : Nat) : Nat := if p < a + (b - m) then gt xs (m + (p - a)) else gt xs (p - (b - m))
theorem Rp.start {a m b : Nat} (xs : List Nat) (h1 : a < m) (h2 : m < b) : Rp (turned a m b xs) a m b (m - a) (b - m) xs xs := by
  refine ⟨Mv.refl _ _ _, by omega, by omega, by omega, by omega, fun t ht => ?_, fun t ht => ?_, fun p p1 p2 => by omega, fun p p1 p2 => by omega⟩
  · unfold turned; rw [if_pos (by omega)]; congr 1; omega
  · unfold turned; rw [if_neg (by omega)]; congr 1; omega
theorem rot_of {a m b : Nat} {xs zs : List Nat} (h1 : a < m) (h2 : m < b) (h : Mv a b xs zs ∧ ∀ p, a ≤ p → p < b → gt zs p = turned a m b xs p) : Rot a m b xs zs := by
  refine ⟨h.1, fun t ht => ?_, fun t ht => ?_⟩
  · rw [h.2 _ (by omega) (by omega)]; unfold turned; rw [if_pos (by omega)]; congr 1; omega
  · rw [h.2 _ (by omega) (by omega)]; unfold turned; rw [if_neg (by omega)]; congr 1; omega

set_option maxHeartbeats 2000000 in
theorem rotate_any (g N cap a m b : Nat) (f : Value) (xs : List Nat) (w0 w : World) (F : FB w0 w g xs) (hl : xs.length = N) (hN : N ≤ 1000) (h1 : a < m) (h2 : m < b) (h3 : b ≤ N) :
    Calls Try.prog 44 #[.slice (some ⟨g, 0, none⟩) N cap, .int .i64 a, .int .i64 m, .int .i64 b, f] w fun e w' => e = .returned (.tuple #[]) ∧ ∃ ys, FB w0 w' g ys ∧ Rot a m b xs ys := by
  have hst := Rp.start xs h1 h2
  have hfin := fun zs => rot_of (xs := xs) (zs := zs) h1 h2
  generalize turned a m b xs = T at hst hfin
  go_enter Try.func44, Try.ntmps44
  go_wp2
  go_loopw [10, 11] (fun vi vj wr => ∃ (i j : Nat) (ys : List Nat), vi = .int .i64 i ∧ vj = .int .i64 j ∧ FB w0 wr g ys ∧ Hid (Rp T a m b i j xs ys)) (fun vi vj _ => (intOf vi).toNat + (intOf vj).toNat)
  case atStart => exact ⟨m - a, b - m, xs, by go_num, by go_num, F, hst⟩
  case round =>
    clear hst F
    obtain ⟨i, j, ys, rfl, rfl, FY, R⟩ := hrel
    have R1 := R.out
    have i1 := R1.i1; have i2 := R1.i2; have j1 := R1.j1; have j2 := R1.j2
    have hly : ys.length = N := by rw [R1.mv.len, hl]
    rcases Nat.lt_trichotomy i j with hij | hij | hij
    · have hc := swapRange_any g N cap (m - i) (m + j - i) i f ys w0 wr FY hly hN (by omega) (by omega)
      rw [show ((m - i : Nat) : Int) = (m : Int) - i by omega, show ((m + j - i : Nat) : Int) = (m : Int) + j - i by omega] at hc
      have hk := fun zs X => R1.less (zs := zs) hij X
      have hne : ¬ (i : Int) = j := by omega
      clear R1
      go_wp2_with (go_at_call 45; refine hc.mono ?_; rintro e w' ⟨rfl, zs, FZ, X⟩)
      go_roundw
      case rel => exact ⟨i, j - i, zs, rfl, by go_num, FZ, hk zs X⟩
      case measure => simp [intOf]; omega
    · subst hij
      have hc := swapRange_any g N cap (m - i) m i f ys w0 wr FY hly hN (by omega) (by omega)
      rw [show ((m - i : Nat) : Int) = (m : Int) - i by omega] at hc
      have hk := fun zs X => hfin zs (R1.done (zs := zs) X)
      clear R1
      go_wp2_with (go_at_call 45; refine hc.mono ?_; rintro e w' ⟨rfl, zs, FZ, X⟩)
      go_end0
      exact ⟨rfl, zs, FZ, hk zs X⟩
    · have hc := swapRange_any g N cap (m - i) m j f ys w0 wr FY hly hN (by omega) (by omega)
      rw [show ((m - i : Nat) : Int) = (m : Int) - i by omega] at hc
      have hk := fun zs X => R1.more (zs := zs) hij X
      have hne : ¬ (i : Int) = j := by omega
      clear R1
      go_wp2_with (go_at_call 45; refine hc.mono ?_; rintro e w' ⟨rfl, zs, FZ, X⟩)
      go_roundw
      case rel => exact ⟨i - j, j, zs, by go_num, rfl, FZ, hk zs X⟩
      case measure => simp [intOf]; omega
end Go.Proofs.Ytekblghlaogeaaa
