/- The iterator over a list's rows. -/
import Derived.Test.YtngalihnckbkfaaEF
import Derived.Test.YtngalihnckbkfaaQE
namespace Go.Proofs.Ytngalihnckbkfaa
open Go.RowKit Go.Shelf
set_option maxRecDepth 100000
attribute [local go_sem] Oper.semAt_some
set_option linter.unusedSimpArgs false
set_option linter.unusedVariables false
theorem own_grown16 {β : Type} {B : Nat} {I : β → World → Prop} (hI : OwnFrom B I) {s : β} {W W' : World} (h : I s W) (g : W.grownBy W' none) : I s W' := hI s W W' none h g (fun r e => by cases e)
def rlen16 : Value → Nat
  | .slice _ r _ => r
  | _ => 0
/-- where each row begins, how many names it has -/
def rwp : Nat → Nat → List Kx → List (Nat × Nat)
  | 0, _, _ => []
  | n + 1, k, l => if l.length = 0 then [] else (k, inr16 l) :: rwp n (k + inr16 l) (l.drop (inr16 l))
set_option maxHeartbeats 8000000 in
theorem rows1_in (Kp : World → World → Prop) (q b off len cap : Nat) (a : Option Addr) (l : List Kx) (hlc : len ≤ cap) (hcm : cap ≤ maxLen) (hab : 0 < len → a = some ⟨b, off, none⟩)
    (hKL : ∀ W W', Kp W W' → Kxs W a len l → Kxs W' a len l) (d lp B : Nat) (J Jx : List (Nat × Nat) → World → Prop) (hJ : OwnFrom B J) (hJx : OwnFrom B Jx)
    (hY : ∀ d' pre x W0 W1, J pre W0 → W0.grownBy W1 none → (pre ++ [x]) <+: rwp len 0 l → YieldAt Fence.wide d' Try.prog lp #[.slice (some ⟨b, off + x.1 * 2, none⟩) x.2 (cap - x.1)] W1 fun e W' =>
      (e = .returned (.bool true) ∧ J (pre ++ [x]) W' ∧ Kp W1 W' ∧ KeptO W0.heap.size W1.heap.size W1 W') ∨ (e = .returned (.bool false) ∧ Jx (pre ++ [x]) W'))
    (W : World) (HL : Kxs W a len l) (c1 : W.cell? ⟨q, 0, none⟩ = some (.slice a len cap)) (h0 : J [] W) :
    CallsIn Fence.wide d Try.prog 34 #[.func (.yield lp) #[] #[], .pointer (some ⟨q, 0, none⟩)] W fun e W' => (∃ v, e = .returned v) ∧
      ((∃ ys, ys = rwp len 0 l ∧ J ys W') ∨ (∃ pre, pre <+: rwp len 0 l ∧ Jx pre W')) := by
  have hlb : l.length = len := HL.len_eq
  refine callsIn_of_wp Try.func34 rfl trivial ?_ rfl
  simp only [Try.ntmps34, List.size_toArray, List.length_cons, List.length_nil, Nat.reduceAdd, Nat.reduceSub, Array.replicate_succ, Array.replicate_zero, List.push_toArray, List.append_toArray, List.nil_append, List.cons_append]
  gi_wp2
  gi_loopw [3] (fun vr wr => ∃ (k r c f : Nat) (aR : Option Addr) (pre : List (Nat × Nat)), vr = .slice aR r c ∧ k + r = len ∧ k + c = cap ∧ r ≤ f ∧ (0 < r → aR = some ⟨b, off + k * 2, none⟩) ∧ Hid (rwp len 0 l = pre ++ rwp f k (l.drop k)) ∧ Hid (Kxs wr a len l) ∧ J pre wr) (fun vr _ => rlen16 vr)
  case atStart => exact ⟨0, len, cap, len, a, [], rfl, by omega, by omega, Nat.le_refl _, fun h => by rw [hab h, Nat.zero_mul, Nat.add_zero], rfl, HL, h0⟩
  case round =>
    obtain ⟨k, r, c, f, aR, pre, rfl, hk1, hk2, hf, haR, HE, HR, hJp⟩ := hrel
    clear HL c1 h0
    by_cases h0 : 0 < r
    · obtain rfl := haR h0
      obtain rfl := hab (by omega)
      have hld : (l.drop k).length = r := by rw [List.length_drop]; omega
      have HK := HR.out.part k r (by omega)
      rw [List.take_of_length_le (by omega)] at HK
      have hc1 := pinrow_any b (off + k * 2) r c (l.drop k) wr HK h0
      have hn1 := inr16_pos (l := l.drop k) (fun e => by rw [e] at hld; simp at hld; omega)
      have hn2 := (inr16_le (l.drop k)).2
      rw [hld] at hn2
      obtain ⟨f, rfl⟩ : ∃ f', f = f' + 1 := ⟨f - 1, by omega⟩
      have hE := HE.out
      rw [rwp, if_neg (by omega), List.drop_drop] at hE
      generalize inr16 (l.drop k) = N at hc1 hn1 hn2 hE
      have hpfx : (pre ++ [(k, N)]) <+: rwp len 0 l := ⟨_, by rw [hE, List.append_assoc]; rfl⟩
      have HN : Hid _ := And.intro hE hpfx
      have h0i : (0 : Int) < (r : Int) := by omega
      have b1 : (N : Int) ≤ (c : Int) := by omega
      have b2 : ¬ (c : Int) < (N : Int) := by omega
      have b3 : (N : Int) ≤ (r : Int) := by omega
      have b4 : ¬ (r : Int) < (N : Int) := by omega
      have b5 : N ≤ c := by omega
      have b6 : N ≤ r := hn2
      clear hE hpfx HE HK haR hld
      gi_wp2
      refine ⟨trivial, fun h => (by cases h), ?_⟩
      refine CallsIn.mono (callsIn_wide.2 hc1) ?_
      rintro e w1 ⟨rfl, g1⟩
      have hJ1 := own_grown16 hJ hJp g1
      have HR1 : Hid _ := HR.out.grown g1
      obtain ⟨fn, tmps, assign, body, hy, hR⟩ := hY (d - 1) pre (k, N) w1 w1 hJ1 (World.grownBy.refl _ _) HN.out.2
      have ec : cap - k = c := by omega
      dsimp only at hy hR
      rw [ec] at hy
      clear hc1 HR g1 hJ1 hJp
      gi_wp2
      refine ⟨fun h => (by cases h), hR.mono ?_⟩
      rintro e W3 (⟨rfl, hJ3, hk3, ho3⟩ | ⟨rfl, hJx3⟩)
      · have HR3 : Hid _ := hKL _ _ hk3 HR1.out
        clear hy hR hk3 ho3 HR1
        gi_wp2
        refine ⟨⟨k + N, r - N, c - N, f, _, pre ++ [(k, N)], rfl, by omega, by omega, by omega, fun h => ?_, ?_, HR3, hJ3⟩, ?_⟩
        · rw [if_neg (by omega), show off + k * 2 + N * 2 = off + (k + N) * 2 by omega]
        · show rwp len 0 l = _
          rw [HN.out.1, List.append_assoc]; rfl
        · show r - N < r
          omega
      · gi_wp2
        refine bodyPost_ret (results_none rfl _ _ _) rfl ?_
        exact ⟨⟨_, rfl⟩, .inr ⟨_, HN.out.2, hJx3⟩⟩
    · obtain rfl : r = 0 := by omega
      have hE := HE.out
      have hnl : (l.drop k).length = 0 := by rw [List.length_drop]; omega
      have hE2 : rwp len 0 l = pre := by
        rw [hE]
        cases f with
        | zero => rw [rwp, List.append_nil]
        | succ f => rw [rwp, if_pos hnl, List.append_nil]
      have HN : Hid _ := hE2
      have hny : ¬ (0 : Int) < ((0 : Nat) : Int) := by decide
      clear hE HE HR haR hE2 hnl
      gi_wp2
      go_end0
      exact ⟨⟨_, rfl⟩, .inl (by first | exact ⟨_, HN.out.symm, hJp⟩ | (rw [HN.out]; exact hJp))⟩
/-- the iterator's contract -/
theorem rows_seq (Kp : World → World → Prop) (q b off len cap : Nat) (a : Option Addr) (l : List Kx) (hlc : len ≤ cap) (hcm : cap ≤ maxLen) (hab : 0 < len → a = some ⟨b, off, none⟩)
    (hKL : ∀ W W', Kp W W' → Kxs W a len l → Kxs W' a len l) (w : World) (HL : Kxs w a len l) (c1 : w.cell? ⟨q, 0, none⟩ = some (.slice a len cap)) :
    SeqB Try.prog 34 #[.pointer (some ⟨q, 0, none⟩)] (fun x : Nat × Nat => #[.slice (some ⟨b, off + x.1 * 2, none⟩) x.2 (cap - x.1)]) Kp (fun ys => ys = rwp len 0 l) (fun pre => pre <+: rwp len 0 l) w := by
  intro d lp J Jx W hW hJ hJx hY h0
  have hg := below_grown hW
  exact rows1_in Kp q b off len cap a l hlc hcm hab hKL d lp _ J Jx hJ hJx hY W (HL.grown hg) (cell_grown16 c1 hg) h0
/-- the iterator itself: it keeps the list -/
theorem dirRows_any (a : Option Addr) (len cap : Nat) (w : World) :
    Calls Try.prog 21 #[.slice a len cap] w fun e w' => e = .returned (.func (.func 34) #[] #[.pointer (some ⟨w.heap.size, 0, none⟩)]) ∧ w' = w.alloc (.cells #[.slice a len cap] 22) := by
  go_enter Try.func21, Try.ntmps21
  go_wp2
  go_ret
  exact ⟨by simp, rfl⟩
end Go.Proofs.Ytngalihnckbkfaa
