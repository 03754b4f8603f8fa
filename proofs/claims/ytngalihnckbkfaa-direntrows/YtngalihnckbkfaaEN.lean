/- While a row is laid: what the writer's change keeps. -/
import Derived.Test.YtngalihnckbkfaaEK
namespace Go.Proofs.Ytngalihnckbkfaa
open Go.RowKit Go.Shelf
set_option maxRecDepth 100000
set_option linter.unusedSimpArgs false
set_option linter.unusedVariables false
theorem Chg.bx16 {W W' : World} {p g : Nat} {v v' : Value} {T : TypeId} {cs : List Value} (k : Chg W W' p v v') (h : Bx W g T cs) (h1 : g ≠ p) (h2 : some g ≠ v.ownBlock) : Bx W' g T cs := ⟨by rw [k.block g h.lt h1 h2]; exact h.blk⟩
theorem Chg.cell16 {W W' : World} {p : Nat} {v v' : Value} {q : Addr} {x : Value} (k : Chg W W' p v v') (h : W.cell? q = some x) (h1 : q.block ≠ p) (h2 : some q.block ≠ v.ownBlock) : W'.cell? q = some x := by
  have hlt : q.block < W.heap.size := by
    rcases Nat.lt_or_ge q.block W.heap.size with a | a
    · exact a
    · simp [World.cell?, Array.getElem?_eq_none a] at h
  unfold World.cell? at h ⊢
  rw [k.block _ hlt h1 h2]
  exact h
theorem Chg.kxs16 {W W' : World} {p len h : Nat} {v v' : Value} {a : Option Addr} {l : List Kx} (k : Chg W W' p v v') (K : Kxs W a len l) (hab : ∀ b off, a = some ⟨b, off, none⟩ → 0 < len → b < h) (hp : h ≤ p) (hv : ∀ j, v.ownBlock = some j → h ≤ j) : Kxs W' a len l := by
  refine ⟨K.len_eq, K.le, fun h0 => ?_⟩
  obtain ⟨b, off, e, hk⟩ := K.at_ h0
  have hb := hab b off e h0
  exact ⟨b, off, e, fun i X hX => ⟨k.cell16 (hk i X hX).c0 (by simp only; omega) (fun e2 => by have := hv b e2.symm; omega), k.cell16 (hk i X hX).c1 (by simp only; omega) (fun e2 => by have := hv b e2.symm; omega)⟩⟩
theorem okAt_okk {l : List Kx} {i : Nat} {K : Kx} (h : okAt l i = true) (hK : l[i]? = some K) : okk K = true := by
  cases i with
  | zero => simpa [okAt, hK] using h
  | succ m =>
    have hm : l[m]? = some (l[m]'(by have := (List.getElem?_eq_some_iff.1 hK).1; omega)) := List.getElem?_eq_getElem _
    simp [okAt, hK, hm] at h
    exact h.1
theorem rgt_mem {l : List Kx} (h : rgt16 l = true) {K : Kx} (hK : K ∈ l) : vld K.nm.toList = true ∧ 0 ≤ K.io ∧ K.io ≤ 16384 := by
  obtain ⟨i, hi⟩ := List.getElem?_of_mem hK
  have h1 := okAt_okk (rgt_at h (List.getElem?_eq_some_iff.1 hi).1) hi
  unfold okk at h1
  simp only [Bool.and_eq_true, decide_eq_true_eq] at h1
  exact ⟨h1.1, h1.2.1, h1.2.2⟩
theorem ck2_16 {n : Int} (h0 : 0 ≤ n) (h1 : n < 65536) : ckE n ((2 : Nat) : Int) = 0 := by
  unfold ckE
  rw [if_pos (by decide), if_neg (by simp [lg]; omega)]
theorem ck4_16 {n : Int} (h0 : 0 ≤ n) (h1 : n < 4294967296) : ckE n ((4 : Nat) : Int) = 0 := by
  unfold ckE
  rw [if_pos (by decide), if_neg (by simp [lg]; omega)]
theorem ck1_16 {n : Int} (h0 : 0 ≤ n) (h1 : n < 256) : ckE n ((1 : Nat) : Int) = 0 := by
  unfold ckE
  rw [if_pos (by decide), if_neg (by simp [lg]; omega)]
end Go.Proofs.Ytngalihnckbkfaa
