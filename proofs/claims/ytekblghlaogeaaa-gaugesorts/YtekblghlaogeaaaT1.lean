/- Contracts of Sorted and of count. -/
import Derived.Test.YtekblghlaogeaaaS9
import Derived.Test.YtekblghlaogeaaaA4
namespace Go.Proofs.Ytekblghlaogeaaa
open Go.RowKit
set_option linter.unusedSimpArgs false
set_option linter.unusedVariables false

theorem sortStable_any (g N cap : Nat) (xs : List Nat) (w0 w : World) (F : FB w0 w g xs) (hB : Bd xs) (hl : xs.length = N) (hN : N ≤ 1000) :
    Calls Try.prog 38 #[.slice (some ⟨g, 0, none⟩) N cap, .func (.func 39) #[] #[]] w fun e w' => e = .returned (.tuple #[]) ∧ ∃ ys, FB w0 w' g ys ∧ Mv 0 N xs ys ∧ Srt 0 N ys := by
  have hc := stable_any g N cap xs w0 w F hB hl hN
  go_enter Try.func38, Try.ntmps38
  go_wp2_with (go_at_call 41; refine hc.mono ?_; rintro _ w2 ⟨rfl, ys, FY, M, S⟩)
  go_end0
  exact ⟨rfl, ys, FY, M, S⟩

/-- a row of floats that a call made: block g, of the type T, made behind w0 -/
structure GB (T : TypeId) (w0 W : World) (g : Nat) (xs : List Nat) : Prop where
  blk : W.heap[g]? = some (.cells (fv xs).toArray T (0, 0))
  grown : w0.grownBy W none
  new : w0.heap.size ≤ g
theorem GB.cell {T : TypeId} {w0 W : World} {g : Nat} {xs : List Nat} (h : GB T w0 W g xs) {i : Nat} (hi : i < xs.length) : W.cell? ⟨g, i, none⟩ = some (.float .f64 (gt xs i)) := by
  simp [World.cell?, h.blk]
  exact fv_getElem? xs i hi
theorem GB.frozen {T : TypeId} {w0 W : World} {g : Nat} {xs : List Nat} (h : GB T w0 W g xs) (i : Nat) : W.frozen? ⟨g, i, none⟩ = false := by
  simp [World.frozen?, h.blk]
theorem GB.set {T : TypeId} {w0 W : World} {g : Nat} {xs : List Nat} (h : GB T w0 W g xs) (i x : Nat) : GB T w0 (W.setCell ⟨g, i, none⟩ (.float .f64 x)) g (xs.set i x) := by
  refine ⟨?_, ?_, h.new⟩
  · rw [setCell_eq_setRow W g i _ _ _ _ h.blk, setRow_heap W g _ _ _ _ h.blk]
    simp [fv, List.map_set, encF]
  · refine ⟨h.grown.os, h.grown.tape, h.grown.output, ?_, fun k hk hr => ?_⟩
    · simpa [World.setCell] using h.grown.size
    · have hne : k ≠ g := by have := h.new; omega
      rw [← h.grown.block k hk hr]
      exact Below.heap_setCell _ _ _ _ hne
/-- 'make' of floats -/
theorem wpList_makeF {P : Program} (w : World) {ops : Array Oper} {rest : List Oper} {o : Oper} {a : Act} {Q : Exit → Act → World → Prop}
    (hg : o.guard = none) (l c : Operand) (t : TypeId) (hop : o.op = Op.makeSlice t l c)
    (T : TypeId) (i : TypeInfo) (h1 : P.underlying t = some (.slice T)) (h2 : P.info? T = some i) (h3 : i.zero = some (.float .f64 0)) (h4 : i.size = 1) (h5 : i.bytes = 8)
    (kl kc : IntKind) (L C : Int) (n : Nat) (hl : a.eval l = .int kl L) (hc : a.eval c = .int kc C) (hL : L = (n : Int)) (hC : C = (n : Int)) (b2 : n ≤ 1000)
    (hK : ∀ w', GB T w w' w.heap.size (List.replicate n 0) → wpList P ops Q rest (a.put o.dst (.slice (some ⟨w.heap.size, 0, none⟩) n n)) w') :
    wpList P ops Q (o :: rest) a w := by
  refine wpList_plain hg fun K hK' => ?_
  have hr := run_make (P := P) w t T i _ h1 h2 h3 kl kc n n (by omega) (Int.le_refl _) (by rw [h5]; omega) (by omega)
  simp only [Int.toNat_natCast] at hr
  subst hL
  subst hC
  unfold Oper.wp
  simp [execOp, hop, hl, hc, hr, Result.andThen]
  refine hK' _ _ (hK _ ⟨?_, World.grownBy_alloc w _ none, Nat.le_refl _⟩)
  rw [heap_alloc_new]
  have e := toList_madeCells_one (.float .f64 0) n
  have : (madeCells (Value.float .f64 0).cells (n * i.size)) = (List.replicate n (Value.float .f64 0)).toArray := by
    rw [h4, Nat.mul_one, ← e]; simp [Value.cells]
  simp [this, fv, encF]

theorem FB.row {w0 W : World} {g N : Nat} {xs : List Nat} (h : FB w0 W g xs) (hl : xs.length = N) (hN : N ≤ 1000) (hB : Bd xs) : Row encF W (some ⟨g, 0, none⟩) N xs :=
  ⟨hl, by unfold maxLen; omega, hB, fun _ => ⟨g, 0, rfl, fun i hi => by rw [Nat.zero_add]; exact h.cell (by omega)⟩⟩
theorem GB.row {T : TypeId} {w0 W : World} {g N : Nat} {xs : List Nat} (h : GB T w0 W g xs) (hl : xs.length = N) (hN : N ≤ 1000) (hB : Bd xs) : Row encF W (some ⟨g, 0, none⟩) N xs :=
  ⟨hl, by unfold maxLen; omega, hB, fun _ => ⟨g, 0, rfl, fun i hi => by rw [Nat.zero_add]; exact h.cell (by omega)⟩⟩
/-- filled as far as j -/
def fill (xs : List Nat) (N j : Nat) : List Nat := xs.take j ++ List.replicate (N - j) 0
theorem fill_len {xs : List Nat} {N j : Nat} (h : xs.length = N) (hj : j ≤ N) : (fill xs N j).length = N := by simp [fill]; omega
theorem fill_zero (xs : List Nat) (N : Nat) : fill xs N 0 = List.replicate N 0 := by simp [fill]
theorem fill_all {xs : List Nat} {N : Nat} (h : xs.length = N) : fill xs N N = xs := by simp [fill, ← h]
theorem fill_step {xs : List Nat} {N j : Nat} (h : xs.length = N) (hj : j < N) : (fill xs N j).set j (gt xs j) = fill xs N (j + 1) := by
  unfold fill
  rw [List.set_append_right _ _ (by simp; omega)]
  have e : j - (xs.take j).length = 0 := by simp; omega
  rw [e, take_snocN xs j (by omega)]
  have e2 : N - j = (N - (j + 1)) + 1 := by omega
  rw [e2, List.replicate_succ, List.set_cons_zero]
  simp [gt]

set_option maxHeartbeats 2000000 in
theorem sorted_any (a : Option Addr) (N cap : Nat) (xs : List Nat) (w : World) (R : Row encF w a N xs) (hN : N ≤ 1000) :
    Calls Try.prog 29 #[.slice a N cap] w fun e w' => ∃ g ys, e = .returned (.slice (some ⟨g, 0, none⟩) N N) ∧ Row encF w' (some ⟨g, 0, none⟩) N ys ∧ w.grownBy w' none ∧ ys.Perm xs ∧ Srt 0 N ys := by
  obtain ⟨i48, k1, k2, k3, k4⟩ := info_parts Try.info48
  obtain ⟨i23, l1, l2, l3, l4⟩ := info_parts Try.info23
  have hl := R.len_eq
  have hst := store_f
  go_enter Try.func29, Try.ntmps29
  go_wp2_with (at_make; refine wpList_makeF _ rfl _ _ 47 rfl 48 i48 Try.underlying47 k1 k2 k3 k4 _ _ _ _ N rfl rfl rfl rfl hN ?_)
  intro w1 G1
  clear k1 k2 k3 k4
  rw [← fill_zero xs N] at G1
  generalize hg : w.heap.size = g at G1 ⊢
  go_wp2
  go_loopw [4, 5, 14] (fun _ _ vi wr => ∃ j : Nat, vi = .int .i64 j ∧ j ≤ N ∧ Hid (GB 48 w wr g (fill xs N j))) (fun _ _ vi _ => N - (intOf vi).toNat)
  case atStart => exact ⟨0, rfl, Nat.zero_le _, G1⟩
  case round =>
    clear G1
    obtain ⟨j, rfl, hj, G⟩ := hrel
    have hlf := fill_len hl hj
    by_cases hlt : j < N
    · obtain ⟨b, off, rfl, hc⟩ := (R.grown G.out.grown).cells (by omega)
      have c1 : wr.cell? ⟨b, off + j, none⟩ = some (.float .f64 (gt xs j)) := hc j hlt
      have c2 := G.out.cell (i := j) (by omega)
      have f2 := G.out.frozen j
      have G2 := G.out.set j (gt xs j)
      rw [fill_step hl hlt] at G2
      have G3 : Hid (GB 48 w (wr.setCell ⟨g, j, none⟩ (.float .f64 (gt xs j))) g (fill xs N (j + 1))) := G2
      clear hc G2 G R
      generalize gt xs j = x at c1 G3
      generalize gt (fill xs N j) j = y at c2
      go_wp2
      go_roundw
      case rel => exact ⟨j + 1, by go_num, by omega, G3⟩
      case measure => simp [intOf]; omega
    · have ej : j = N := by omega
      subst ej
      have G2 := G.out
      rw [fill_all hl] at G2
      have FX : FB w wr g xs := ⟨G2.blk, G2.grown, G2.new⟩
      have hBx : Bd xs := R.bd
      have hc := sortStable_any g j j xs w wr FX hBx hl hN
      clear G G2 FX R
      go_wp2_with fail
      refine hc.mono ?_
      rintro _ w2 ⟨rfl, ys, FY, M, S⟩
      clear hc
      go_wp2_with (at_make; refine wpList_makeF _ rfl _ _ 37 rfl 23 i23 Try.underlying37 l1 l2 l3 l4 _ _ _ _ j rfl rfl rfl rfl hN ?_)
      intro w3 G3
      have hly : ys.length = j := by rw [M.len, hl]
      have hBy := M.bd hBx
      have RI := FY.row hly hN hBy
      have hg2 := FY.grown
      have hperm := M.perm
      clear FY M l1 l2 l3 l4
      rw [← fill_zero ys j] at G3
      generalize hgg : w2.heap.size = g2 at G3 ⊢
      go_wp2
      go_loopw [7, 8, 31] (fun _ _ vi wr => ∃ i : Nat, vi = .int .i64 i ∧ i ≤ j ∧ Hid (GB 23 w2 wr g2 (fill ys j i))) (fun _ _ vi _ => j - (intOf vi).toNat)
      case atStart => exact ⟨0, rfl, Nat.zero_le _, G3⟩
      case round =>
        clear G3
        obtain ⟨i, rfl, hi, G⟩ := hrel
        have hlf2 := fill_len hly hi
        by_cases hlt2 : i < j
        · obtain ⟨b, off, e, hc⟩ := (RI.grown G.out.grown).cells (by omega)
          injection e with e
          injection e with e1 e2
          subst e1 e2
          have c1 := hc i hlt2
          rw [Nat.zero_add] at c1
          have c1' : wr.cell? ⟨g, i, none⟩ = some (.float .f64 (gt ys i)) := c1
          have c2 := G.out.cell (i := i) (by omega)
          have f2 := G.out.frozen i
          have G2 := G.out.set i (gt ys i)
          rw [fill_step hly hlt2] at G2
          have G4 : Hid (GB 23 w2 (wr.setCell ⟨g2, i, none⟩ (.float .f64 (gt ys i))) g2 (fill ys j (i + 1))) := G2
          clear hc G2 G RI c1
          generalize gt ys i = x at c1' G4
          generalize gt (fill ys j i) i = y at c2
          go_wp2
          go_roundw
          case rel => exact ⟨i + 1, by go_num, by omega, G4⟩
          case measure => simp [intOf]; omega
        · have ei : i = j := by omega
          subst ei
          have G2 := G.out
          rw [fill_all hly] at G2
          have RO := G2.row hly hN hBy
          have hgr := grown_trans hg2 G2.grown
          clear G G2 RI
          go_wp2
          go_ret
          exact ⟨g2, ys, rfl, RO, hgr, hperm, S⟩
end Go.Proofs.Ytekblghlaogeaaa
