/- num, much; Find. -/
import Derived.Test.YtngalihnckbkfaaEA
namespace Go.Proofs.Ytngalihnckbkfaa
open Go.RowKit
set_option maxRecDepth 100000
set_option linter.unusedSimpArgs false
set_option linter.unusedVariables false
theorem num16_any (x : Int) (w : World) : Calls Try.prog 11 #[.int .i64 x] w fun e w' => e = .returned (.int .i64 x) ∧ w = w' := by
  go_enter Try.func11, Try.ntmps11
  go_wp2
  go_ret
  exact ⟨rfl, rfl⟩
/-- more than is asked? -/
def mch16 (l : List Kx) : Bool := decide (700 < l.length) || l.any fun k => decide (300 < k.nm.size)
theorem much16_any (a : Option Addr) (len cap : Nat) (l : List Kx) (w : World) (K : Kxs w a len l) :
    Calls Try.prog 7 #[.slice a len cap] w fun e w' => e = .returned (.bool (mch16 l)) ∧ w = w' := by
  have hl := K.len_eq
  unfold mch16
  rw [hl]
  by_cases h7 : 700 < len
  · rw [decide_eq_true h7, Bool.true_or]
    have h7i : (700 : Int) < (len : Int) := by omega
    go_enter Try.func7, Try.ntmps7
    go_wp2
    go_ret
    exact ⟨rfl, rfl⟩
  · rw [decide_eq_false h7, Bool.false_or]
    have h7i : ¬ (700 : Int) < (len : Int) := by omega
    go_enter Try.func7, Try.ntmps7
    go_wp2
    go_loop [3] (fun i => ∃ j : Nat, i = .int .i64 j ∧ j ≤ len ∧ (l.take j).any (fun k => decide (300 < k.nm.size)) = false) (fun i => len - (intOf i).toNat)
    case atStart => exact ⟨0, rfl, Nat.zero_le _, by simp⟩
    case round =>
      obtain ⟨j, rfl, hj, hn⟩ := hrel
      by_cases hlt : j < len
      · have hjl : j < l.length := by omega
        obtain ⟨b, off, rfl, hk⟩ := K.at_ (by omega)
        have k0 := (hk j l[j] (List.getElem?_eq_getElem hjl)).c0
        have hji : (j : Int) < (len : Int) := by omega
        have htk : l.take (j + 1) = l.take j ++ [l[j]] := by rw [List.take_succ_eq_append_getElem hjl]
        generalize hX : l[j] = X at *
        by_cases h3 : 300 < X.nm.size
        · have h3i : (300 : Int) < (X.nm.size : Int) := by omega
          have hR : l.any (fun k => decide (300 < k.nm.size)) = true := by
            rw [List.any_eq_true]
            exact ⟨X, by rw [← hX]; exact List.getElem_mem hjl, decide_eq_true h3⟩
          go_wp2
          go_ret
          exact ⟨rfl, rfl⟩
        · have h3i : ¬ (300 : Int) < (X.nm.size : Int) := by omega
          have hn2 : (l.take (j + 1)).any (fun k => decide (300 < k.nm.size)) = false := by rw [htk, List.any_append, hn]; simp; omega
          go_wp2
          go_round
          case rel => exact ⟨j + 1, by go_num, by omega, hn2⟩
          case measure => simp [intOf]; omega
      · obtain rfl : j = len := by omega
        rw [List.take_of_length_le (by omega)] at hn
        go_wp2
        go_ret
        exact ⟨rfl, rfl⟩
/-- the number of a name -/
def fnd16 (l : List Kx) (s : ByteArray) : Int × Bool := match l.find? fun k => k.nm.toList == s.toList with | some k => (k.io, true) | none => (0, false)
theorem pfind_any (a : Option Addr) (len cap : Nat) (l : List Kx) (s : ByteArray) (w : World) (K : Kxs w a len l) :
    Calls Try.prog 17 #[.slice a len cap, .string s] w fun e w' => e = .returned (.tuple #[.int .i64 (fnd16 l s).1, .bool (fnd16 l s).2]) ∧ w.grownBy w' none := by
  have hl := K.len_eq
  have HK : Hid _ := K
  clear K
  go_enter Try.func17, Try.ntmps17
  go_wp2
  go_loopw [10] (fun i wr => ∃ j : Nat, i = .int .i64 j ∧ j ≤ len ∧ Hid (w.grownBy wr none ∧ (l.take j).find? (fun k => k.nm.toList == s.toList) = none)) (fun i _ => len - (intOf i).toNat)
  case atStart => exact ⟨0, rfl, Nat.zero_le _, World.grownBy.refl _ _, by simp⟩
  case round =>
    obtain ⟨j, rfl, hj, HY⟩ := hrel
    by_cases hlt : j < len
    · have hjl : j < l.length := by omega
      obtain ⟨b, off, rfl, hk⟩ := (HK.out.grown HY.out.1).at_ (by omega)
      have kk := hk j l[j] (List.getElem?_eq_getElem hjl)
      have k0 := kk.c0
      have k1 := kk.c1
      have hji : (j : Int) < (len : Int) := by omega
      have htk : l.take (j + 1) = l.take j ++ [l[j]] := by rw [List.take_succ_eq_append_getElem hjl]
      have hsp : l = l.take j ++ (l[j] :: l.drop (j + 1)) := by rw [List.getElem_cons_drop, List.take_append_drop]
      generalize hX : l[j] = X at *
      by_cases h3 : X.nm.toList = s.toList
      · have hR : fnd16 l s = (X.io, true) := by
          unfold fnd16
          rw [hsp, List.find?_append, HY.out.2, List.find?_cons]
          simp [h3]
        have HG : Hid _ := HY.out.1
        have HR : Hid _ := hR
        clear HY hk kk htk hsp hX hR
        go_wp2
        go_returns
        exact ⟨by rw [HR.out]; rfl, grown_trans HG.out (by first | exact World.grownBy_alloc _ _ _ | exact grown_new (World.grownBy_alloc _ _ none) (grown_set _ _ _ _) (Nat.le_refl _))⟩
      · have HN : Hid _ := And.intro HY.out.1 (show (l.take (j + 1)).find? (fun k => k.nm.toList == s.toList) = none by rw [htk, List.find?_append, HY.out.2]; simp [List.find?_cons, beq_eq_false_iff_ne.2 h3])
        have q1 : ¬ X.nm = s := fun e => h3 (by rw [e])
        have q2 : (X.nm.toList == s.toList) = false := beq_eq_false_iff_ne.2 h3
        have hmx := HK.out.le
        have hwj : IntKind.i64.wrap ((j : Int) + 1) = (j : Int) + 1 := by rw [IntKind.wrap_i64]; unfold maxLen at hmx; omega
        clear HY hk kk htk hsp hX hmx
        go_wp2
        refine ⟨⟨j + 1, by go_num, by clear hwj; omega, grown_trans HN.out.1 (World.grownBy_alloc _ _ _), HN.out.2⟩, ?_⟩
        clear hwj
        simp [intOf]; omega
    · obtain rfl : j = len := by omega
      have hR : fnd16 l s = (0, false) := by
        unfold fnd16
        have := HY.out.2
        rw [List.take_of_length_le (by omega)] at this
        rw [this]
      have HG : Hid _ := HY.out.1
      have HR : Hid _ := hR
      clear HY hR
      go_wp2
      go_returns
      exact ⟨by rw [HR.out]; rfl, HG.out⟩
end Go.Proofs.Ytngalihnckbkfaa
