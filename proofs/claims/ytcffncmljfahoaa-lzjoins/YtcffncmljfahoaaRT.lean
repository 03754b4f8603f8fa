/- The document's lz: the bytes that tell a length. -/
import Derived.Test.YtcffncmljfahoaaRA
namespace Go.Proofs.Ytcffncmljfahoaa
open Go.RowKit
set_option linter.unusedSimpArgs false
set_option linter.unusedVariables false

theorem info_parts {P : Program} {t : TypeId} {z : Option Value} {s b : Nat} (h : (P.info? t).map (fun i => (i.zero, i.size, i.bytes)) = some (z, s, b)) : ∃ i, P.info? t = some i ∧ i.zero = z ∧ i.size = s ∧ i.bytes = b := by
  cases e : P.info? t with
  | none => rw [e] at h; simp at h
  | some i => rw [e] at h; simp at h; exact ⟨i, rfl, h.1, h.2.1, h.2.2⟩
theorem cell_one (w : World) (t : TypeId) (v : Value) (j : Nat) (u : Value) (h : ([v])[j]? = some u) : (w.alloc (.cells #[v] t)).cell? ((⟨w.heap.size, 0, none⟩ : Addr).add j) = some u := by
  cases j with
  | zero =>
    simp at h
    subst h
    simp [Addr.add]
  | succ j => simp at h
theorem grown_own {a b c : World} {base t s n : Nat} {v : Value} {xs : List Value} (h : a.grownBy b none) (ho : b.ownsRow base t s v n xs) (k : b.grownBy c v.ownBlock) (hb : a.heap.size ≤ base) : a.grownBy c none :=
  ⟨k.os.trans h.os, k.tape.trans h.tape, k.output.trans h.output, Nat.le_trans h.size k.size, fun i hi hr => (k.block i (Nat.lt_of_lt_of_le hi h.size) (fun e => by have := (ho.lt i e.symm).1; omega)).trans (h.block i hi hr)⟩

/-- the bytes that tell a length behind its four bits -/
def tol (n : Int) : List Int := if n < 15 then [] else List.replicate ((n - 15) / 255).toNat 255 ++ [(n - 15) % 255]
theorem tol_byt (n : Int) : Byt (tol n) := by
  unfold tol
  split
  · intro x hx; simp at hx
  · intro x hx
    rw [List.mem_append] at hx
    rcases hx with hx | hx
    · rw [List.eq_of_mem_replicate hx]; decide
    · simp at hx; omega
theorem tol_len {n : Int} (h : 15 ≤ n) : (tol n).length = ((n - 15) / 255).toNat + 1 := by
  unfold tol; rw [if_neg (by omega)]; simp

set_option maxHeartbeats 1000000 in
theorem told_any (n : Int) (w : World) (hn : 0 ≤ n ∧ n ≤ 16777216) :
    Calls Try.prog 29 #[.int .i64 n] w fun e w' => ∃ v, e = .returned v ∧ w'.ownsRow w.heap.size 5 1 v (tol n).length (bv (tol n)) ∧ w.grownBy w' none := by
  obtain ⟨i5, hi, hz0, hz1, hz2⟩ := info_parts Try.info5
  by_cases h1 : n < 15
  · have e : tol n = [] := by unfold tol; rw [if_pos h1]
    rw [e]
    go_enter Try.func29, Try.ntmps29
    go_wp2
    go_ret
    exact ⟨_, rfl, World.ownsRow_nil _ _ _ _, World.grownBy.refl _ _⟩
  · have htl := tol_len (n := n) (by omega)
    go_enter Try.func29, Try.ntmps29
    go_wp2
    go_loopw [0, 3] (fun vn v wr => ∃ (j : Nat) (m : Int), vn = .int .i64 m ∧ 0 ≤ m ∧ m + 255 * j + 15 = n ∧ Hid (wr.ownsRow w.heap.size 5 1 v j (bv (List.replicate j 255)) ∧ w.grownBy wr none)) (fun vn _ _ => (intOf vn).toNat)
    case atStart => exact ⟨0, n - 15, rfl, by omega, by omega, World.ownsRow_nil _ _ _ _, World.grownBy.refl _ _⟩
    case round =>
      obtain ⟨j, m, rfl, hm0, hm1, HO⟩ := hrel
      have hsz : w.heap.size ≤ wr.heap.size := HO.out.2.size
      have hjb : j ≤ 16777216 := by omega
      have hb1 : (j + 1) * 1 ≤ 140737488355328 := by omega
      have hb2 : j + 1 ≤ maxLen := by unfold maxLen; omega
      have HM : Hid (m + 255 * j + 15 = n) := hm1
      have hmn : m ≤ 16777216 := by omega
      clear hm1
      by_cases k1 : 255 ≤ m
      · have hown := HO.out.1
        go_wp2_with (at_builtin; (refine wpList_append_own _ rfl _ _ 22 rfl w.heap.size 5 i5 (.int .u8 0) 1 1 Try.underlying22 hi hz0 hz1 hz2 rfl (by decide) _ j _ rfl (hown.alloc _) ⟨wr.heap.size, 0, none⟩ 1 1 [.int .u8 255] rfl rfl (cell_one _ _ _) (by simp [Value.oneCell']) hb2 hb1 (by simp; omega) ?_))
        intro v' w1 o1 g1 _
        have hg' : w.grownBy w1 none := grown_own (grown_trans HO.out.2 (World.grownBy_alloc wr _ none)) (hown.alloc _) g1 (Nat.le_refl _)
        have o2 : w1.ownsRow w.heap.size 5 1 v' (j + 1) (bv (List.replicate (j + 1) 255)) := by
          rw [List.replicate_succ', bv_append]; exact o1
        have HN : Hid (w1.ownsRow w.heap.size 5 1 v' (j + 1) (bv (List.replicate (j + 1) 255)) ∧ w.grownBy w1 none) := ⟨o2, hg'⟩
        clear o1 o2 g1 hg' hown HO hb1 hb2 htl
        go_wp2
        go_roundw
        case rel => exact ⟨j + 1, m - 255, by go_num, by omega, by have := HM.out; omega, HN⟩
        case measure => simp [intOf]; omega
      · have hown := HO.out.1
        have hq := HM.out
        have e1 : (n - 15) / 255 = j := by omega
        have e2 : (n - 15) % 255 = m := by omega
        have et : tol n = List.replicate j 255 ++ [m] := by unfold tol; rw [if_neg (by omega), e1, e2]; simp
        have HT : Hid (tol n = List.replicate j 255 ++ [m]) := et
        clear hq e1 e2 et htl
        go_wp2_with (at_builtin; (refine wpList_append_own _ rfl _ _ 22 rfl w.heap.size 5 i5 (.int .u8 0) 1 1 Try.underlying22 hi hz0 hz1 hz2 rfl (by decide) _ j _ rfl (hown.alloc _) ⟨wr.heap.size, 0, none⟩ 1 1 [.int .u8 m] rfl rfl (cell_one _ _ _) (by simp [Value.oneCell']) hb2 hb1 (by simp; omega) ?_))
        intro v' w1 o1 g1 _
        have hg' : w.grownBy w1 none := grown_own (grown_trans HO.out.2 (World.grownBy_alloc wr _ none)) (hown.alloc _) g1 (Nat.le_refl _)
        have o2 : w1.ownsRow w.heap.size 5 1 v' (tol n).length (bv (tol n)) := by
          rw [HT.out, bv_append]; simpa [bv] using o1
        have HN : Hid (w1.ownsRow w.heap.size 5 1 v' (tol n).length (bv (tol n)) ∧ w.grownBy w1 none) := ⟨o2, hg'⟩
        clear o1 o2 g1 hg' hown HO hb1 hb2
        go_wp2
        go_ret
        exact ⟨_, rfl, HN.out.1, HN.out.2⟩
end Go.Proofs.Ytcffncmljfahoaa
