/- Contracts of Set and Part, and of the document's Set. -/
import Derived.Test.YthnehebkkfegdabA3
import Derived.Laws.AppendOwnNone
namespace Go.Proofs.Ythnehebkkfegdab
open Go.RowKit

theorem Row.cut {w : World} {a : Option Addr} {len : Nat} {bs : List Int} (R : Row w a len bs) (k m : Nat) (h : k + m ≤ len) : Row w (a.map (·.add k)) m ((bs.drop k).take m) := by
  have hl := R.len_eq
  refine ⟨by simp; omega, by have := R.le; omega, (R.byt.drop k).take m, fun h0 => ?_⟩
  obtain ⟨b, off, rfl, hc⟩ := R.cells (by omega)
  have hadd : (⟨b, off, none⟩ : Addr).add k = ⟨b, off + k, none⟩ := by unfold Addr.add; split <;> simp_all
  refine ⟨b, off + k, by simp [hadd], fun i hi => ?_⟩
  rw [Nat.add_assoc, hc (k + i) (by omega), getD_take _ _ _ hi, List.getD_eq_getElem?_getD, List.getD_eq_getElem?_getD, List.getElem?_drop]
theorem Row.zero {w : World} (a : Option Addr) (bs : List Int) (k m : Nat) (h : m = 0) : Row w a m ((bs.drop k).take m) := by
  subst h
  exact ⟨by simp, Nat.zero_le _, fun n hn => by simp at hn, fun h => absurd h (by omega)⟩

set_option maxHeartbeats 400000 in
theorem part_ok (a : Option Addr) (len cap : Nat) (bs : List Int) (k m : Nat) (w : World) (R : Row w a len bs) (hc : len ≤ cap) (hl : len ≤ 140737488355328) (hin : k + m ≤ len) :
    Calls Try.prog 30 #[.slice a len cap, .int .i64 k, .int .i64 m] w fun e w' => e = .returned (.tuple #[.slice (some ⟨w.heap.size, 0, none⟩) m m, .int .i64 0]) ∧ Blk w' w.heap.size (bv ((bs.drop k).take m)) ∧ w.grownBy w' none ∧ w'.heap.size = w.heap.size + 1 := by
  have hH := holds_any a len cap k m w R.le (by omega) (by omega) (by omega)
  have hi : inB len k m = true := by simp [inB]; omega
  go_enter Try.func30, Try.ntmps30
  go_wp2_with (first | (go_at_call 21; refine hH.mono ?_; rintro e w' ⟨rfl, rfl⟩))
  · refine (fresh_any _ m _ _ w (Row.zero a bs k m (by omega)) (by omega)).mono ?_
    rintro e w1 ⟨rfl, hb1, hg1, hs1⟩
    go_wp2
    go_ret2
    exact ⟨rfl, hb1, hg1, hs1⟩
  · refine (fresh_any _ m _ _ w (R.cut k m hin) (by omega)).mono ?_
    rintro e w1 ⟨rfl, hb1, hg1, hs1⟩
    go_wp2
    go_ret2
    exact ⟨rfl, hb1, hg1, hs1⟩

theorem part_no (a : Option Addr) (len cap : Nat) (k m : Int) (w : World) (hl : len ≤ maxLen) (h1 : k ≤ 9223372036854775807) (h2 : m ≤ 9223372036854775807) (hin : inB len k m = false) :
    Calls Try.prog 30 #[.slice a len cap, .int .i64 k, .int .i64 m] w fun e w' => e = .returned (.tuple #[.slice none 0 0, .int .i64 9]) ∧ w = w' := by
  by_cases hm : m < 0
  · go_enter Try.func30, Try.ntmps30
    go_wp2
    go_ret2
    exact ⟨rfl, rfl⟩
  · have hH := holds_any a len cap k m w hl (by omega) h2 h1
    have hd : decide (m < 0) = false := by simpa using hm
    go_enter Try.func30, Try.ntmps30
    go_wp2_with (first | (go_at_call 21; refine hH.mono ?_; rintro e w' ⟨rfl, rfl⟩))
    go_ret2
    exact ⟨rfl, rfl⟩

theorem bv_splice (bs : List Int) (k : Nat) (xs : List Int) : bv (splice bs k xs) = splice (bv bs) k (bv xs) := by
  simp [bv, splice, List.map_take, List.map_drop]

set_option maxHeartbeats 400000 in
theorem set_ok (a : Option Addr) (len cap : Nat) (bs : List Int) (n : Int) (k m : Nat) (w : World) (R : Row w a len bs) (hl : len ≤ 140737488355328) (hc : ckE n m = 0) (hin : k + m ≤ len) :
    Calls Try.prog 6 #[.slice a len cap, .int .i64 k, .int .u64 n, .int .i64 m] w fun e w' => e = .returned (.tuple #[.slice (some ⟨w.heap.size, 0, none⟩) len len, .int .i64 0]) ∧ Blk w' w.heap.size (bv (splice bs k (sto n m))) ∧ w.grownBy w' none ∧ w'.heap.size = w.heap.size + 1 := by
  have hH := holds_any a len cap k m w R.le (by omega) (by omega) (by omega)
  have hi : inB len k m = true := by simp [inB]; omega
  obtain ⟨hW, _⟩ := ckE_ok hc
  have hm := isW_pos hW
  have hC := check_any n m w
  rw [hc] at hC
  have hne : ¬ len = k := by omega
  have hFr := fresh_any a len cap bs w R (by omega)
  go_enter Try.func6, Try.ntmps6
  go_wp2_with (first | (go_at_call 20; refine hC.mono ?_; rintro e w' ⟨rfl, rfl⟩) | (go_at_call 21; refine hH.mono ?_; rintro e w' ⟨rfl, rfl⟩) | (go_at_call 22; refine hFr.mono ?_; rintro e w1 ⟨rfl, hb1, hg1, hs1⟩; have HS1 : Hid (w1.heap.size = w.heap.size + 1) := hs1; clear hs1))
  have HS1 : Hid (w1.heap.size = w.heap.size + 1) := by assumption
  have hb1 : Blk w1 w.heap.size (bv bs) := by assumption
  have hg1 : w.grownBy w1 none := by assumption
  refine (lay_any w.heap.size k m _ n _ w1 hb1 (by omega) (by rw [bv_length, R.len_eq]; omega)).mono ?_
  rintro e w3 ⟨rfl, hb3, hg3, hs3⟩
  go_wp2
  go_ret2
  refine ⟨rfl, ?_, grown_new hg1 hg3 (Nat.le_refl _), ?_⟩
  · rw [bv_splice]; exact hb3
  · rw [hs3, HS1.out]

theorem set_no (a : Option Addr) (len cap : Nat) (k n m : Int) (w : World) (hc : ckE n m ≠ 0) :
    Calls Try.prog 6 #[.slice a len cap, .int .i64 k, .int .u64 n, .int .i64 m] w fun e w' => e = .returned (.tuple #[.slice none 0 0, .int .i64 (ckE n m)]) ∧ w = w' := by
  have hb : (ckE n m != 0) = true := by simpa using hc
  have hC := check_any n m w
  go_enter Try.func6, Try.ntmps6
  go_wp2_with (first | (go_at_call 20; refine hC.mono ?_; rintro e w' ⟨rfl, rfl⟩))
  go_ret2
  exact ⟨rfl, rfl⟩

theorem set_out (a : Option Addr) (len cap : Nat) (k n m : Int) (w : World) (hl : len ≤ maxLen) (h1 : k ≤ 9223372036854775807) (hc : ckE n m = 0) (hin : inB len k m = false) :
    Calls Try.prog 6 #[.slice a len cap, .int .i64 k, .int .u64 n, .int .i64 m] w fun e w' => e = .returned (.tuple #[.slice none 0 0, .int .i64 9]) ∧ w = w' := by
  obtain ⟨hW, _⟩ := ckE_ok hc
  have hm := isW_pos hW
  have hC := check_any n m w
  rw [hc] at hC
  have hH := holds_any a len cap k m w hl (by omega) (by omega) h1
  go_enter Try.func6, Try.ntmps6
  go_wp2_with (first | (go_at_call 20; refine hC.mono ?_; rintro e w' ⟨rfl, rfl⟩) | (go_at_call 21; refine hH.mono ?_; rintro e w' ⟨rfl, rfl⟩))
  go_ret2
  exact ⟨rfl, rfl⟩

/-- 'append' of bytes to a row of the call's own -/
theorem wpList_append8 {P : Program} {w : World} {ops : Array Oper} {rest : List Oper} {o : Oper} {a : Act} {Q : Exit → Act → World → Prop} (hgd : o.guard = none) (s x : Operand) (t : TypeId)
    (ho : o.op = .call { callee := .builtin .append, args := #[s, x], argTypes := #[t, t] })
    (base : Nat) (i : TypeInfo) (ht : P.underlying t = some (.slice 5)) (hi : P.info? 5 = some i) (hz : i.zero = some (.int .u8 0)) (hsize : i.size = 1) (hby : i.bytes = 1)
    (v : Value) (n : Nat) (xs : List Value) (hs : a.eval s = v) (hown : w.ownsRow base 5 1 v n xs)
    (sa : Option Addr) (m c : Nat) (bs : List Int) (hx : a.eval x = .slice sa m c) (R : Row w sa m bs) (hnil : sa = none → c = 0)
    (hb : n + m ≤ 140737488355328) (hbase : base ≤ w.heap.size)
    (h : ∀ v' w', w'.ownsRow base 5 1 v' (n + m) (xs ++ bv bs) → w.grownBy w' v.ownBlock → wpList P ops Q rest (a.put o.dst v') w') : wpList P ops Q (o :: rest) a w := by
  cases sa with
  | none =>
    have hm : m = 0 := by
      rcases Nat.eq_zero_or_pos m with h0 | h0
      · exact h0
      · obtain ⟨_, _, e, _⟩ := R.cells h0; cases e
    subst hm
    obtain rfl : bs = [] := List.eq_nil_of_length_eq_zero R.len_eq
    obtain rfl := hnil rfl
    refine wpList_append_own_none hgd s x t ho base 5 i 1 ht hi v n xs hs hown hx ?_
    exact h v w (by simpa [bv] using hown) (World.grownBy.refl _ _)
  | some ad =>
    refine wpList_append_own w hgd s x t ho base 5 i (.int .u8 0) 1 1 ht hi hz hsize hby rfl (by decide) v n xs hs hown ad m c (bv bs) hx (by rw [bv_length, R.len_eq]; omega) ?_ (bv_one _) (by unfold maxLen; omega) (by omega) hbase (fun v' w' h1 h2 _ => h v' w' h1 h2)
    intro j u hj
    have h0 : 0 < (bv bs).length := by
      rcases Nat.eq_zero_or_pos (bv bs).length with h0 | h0
      · rw [List.eq_nil_of_length_eq_zero h0] at hj; simp at hj
      · exact h0
    obtain ⟨ad', e, hc⟩ := R.src h0
    injection e with e
    subst e
    exact hc j u hj

theorem Row.none_of {w : World} (a : Option Addr) {len : Nat} {bs : List Int} (h : len = 0) (hb : bs.length = len) : Row w a len bs := by
  subst h
  obtain rfl : bs = [] := List.eq_nil_of_length_eq_zero hb
  exact ⟨rfl, Nat.zero_le _, fun n hn => by simp at hn, fun h => absurd h (by omega)⟩
theorem map_add (b off k : Nat) : (some ⟨b, off, none⟩ : Option Addr).map (·.add k) = some ⟨b, off + k, none⟩ := by
  have hadd : (⟨b, off, none⟩ : Addr).add k = ⟨b, off + k, none⟩ := by unfold Addr.add; split <;> simp_all
  simp [hadd]

end Go.Proofs.Ythnehebkkfegdab
