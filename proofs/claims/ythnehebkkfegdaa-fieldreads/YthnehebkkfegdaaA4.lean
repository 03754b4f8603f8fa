/- Contracts of Set and Part, and of the document's Set. -/
import Derived.Test.YthnehebkkfegdaaA3
import Derived.Laws.AppendOwnNone
namespace Go.Proofs.Ythnehebkkfegdaa
open Go.RowKit

theorem Row.cut {w : World} {a : Option Addr} {len : Nat} {bs : List Int} (R : Row w a len bs) (k m : Nat) (h : k + m ≤ len) : Row w (a.map (·.add k)) m ((bs.drop k).take m) := by
  have hl := R.len_eq
  refine ⟨by simp; omega, by have := R.le; omega, (R.byt.drop k).take m, fun h0 => ?_⟩
  obtain ⟨b, off, rfl, hc⟩ := R.cells (by omega)
  have hadd : (⟨b, off, none⟩ : Addr).add k = ⟨b, off + k, none⟩ := by unfold Addr.add; split <;> simp_all
  refine ⟨b, off + k, by simp [hadd], fun i hi => ?_⟩
  rw [Nat.add_assoc, hc (k + i) (by omega), getD_take _ _ _ hi, List.getD_eq_getElem?_getD, List.getD_eq_getElem?_getD, List.getElem?_drop]
theorem Row.zero {w : World} (a : Option Addr) (bs : List Int) (k m : Nat) (h : m = 0) : Row w a m ((bs.drop k).take m) := by
  subst h
  exact ⟨by simp, Nat.zero_le _, fun n hn => by simp at hn, fun h => absurd h (by omega)⟩

set_option maxHeartbeats 400000 in
theorem part_ok (a : Option Addr) (len cap : Nat) (bs : List Int) (k m : Nat) (w : World) (R : Row w a len bs) (hc : len ≤ cap) (hl : len ≤ 140737488355328) (hin : k + m ≤ len) :
    Calls Try.prog 19 #[.slice a len cap, .int .i64 k, .int .i64 m] w fun e w' => e = .returned (.tuple #[.slice (some ⟨w.heap.size, 0, none⟩) m m, .int .i64 0]) ∧ Blk w' w.heap.size (bv ((bs.drop k).take m)) ∧ w.grownBy w' none ∧ w'.heap.size = w.heap.size + 1 := by
  have hH := holds_any a len cap k m w R.le (by omega) (by omega) (by omega)
  have hi : inB len k m = true := by simp [inB]; omega
  go_enter Try.func19, Try.ntmps19
  go_wp2_with (first | (go_at_call 36; refine hH.mono ?_; rintro e w' ⟨rfl, rfl⟩))
  · refine (fresh_any _ m _ _ w (Row.zero a bs k m (by omega)) (by omega)).mono ?_
    rintro e w1 ⟨rfl, hb1, hg1, hs1⟩
    go_wp2
    go_ret2
    exact ⟨rfl, hb1, hg1, hs1⟩
  · refine (fresh_any _ m _ _ w (R.cut k m hin) (by omega)).mono ?_
    rintro e w1 ⟨rfl, hb1, hg1, hs1⟩
    go_wp2
    go_ret2
    exact ⟨rfl, hb1, hg1, hs1⟩

theorem part_no (a : Option Addr) (len cap : Nat) (k m : Int) (w : World) (hl : len ≤ maxLen) (h1 : k ≤ 9223372036854775807) (h2 : m ≤ 9223372036854775807) (hin : inB len k m = false) :
    Calls Try.prog 19 #[.slice a len cap, .int .i64 k, .int .i64 m] w fun e w' => e = .returned (.tuple #[.slice none 0 0, .int .i64 9]) ∧ w = w' := by
  by_cases hm : m < 0
  · go_enter Try.func19, Try.ntmps19
    go_wp2
    go_ret2
    exact ⟨rfl, rfl⟩
  · have hH := holds_any a len cap k m w hl (by omega) h2 h1
    have hd : decide (m < 0) = false := by simpa using hm
    go_enter Try.func19, Try.ntmps19
    go_wp2_with (first | (go_at_call 36; refine hH.mono ?_; rintro e w' ⟨rfl, rfl⟩))
    go_ret2
    exact ⟨rfl, rfl⟩

theorem bv_splice (bs : List Int) (k : Nat) (xs : List Int) : bv (splice bs k xs) = splice (bv bs) k (bv xs) := by
  simp [bv, splice, List.map_take, List.map_drop]

set_option maxHeartbeats 400000 in
theorem set_ok (a : Option Addr) (len cap : Nat) (bs : List Int) (n : Int) (k m : Nat) (w : World) (R : Row w a len bs) (hl : len ≤ 140737488355328) (hc : ckE n m = 0) (hin : k + m ≤ len) :
    Calls Try.prog 17 #[.slice a len cap, .int .i64 k, .int .u64 n, .int .i64 m] w fun e w' => e = .returned (.tuple #[.slice (some ⟨w.heap.size, 0, none⟩) len len, .int .i64 0]) ∧ Blk w' w.heap.size (bv (splice bs k (sto n m))) ∧ w.grownBy w' none ∧ w'.heap.size = w.heap.size + 1 := by
  have hH := holds_any a len cap k m w R.le (by omega) (by omega) (by omega)
  have hi : inB len k m = true := by simp [inB]; omega
  obtain ⟨hW, _⟩ := ckE_ok hc
  have hm := isW_pos hW
  have hC := check_any n m w
  rw [hc] at hC
  have hne : ¬ len = k := by omega
  have hFr := fresh_any a len cap bs w R (by omega)
  go_enter Try.func17, Try.ntmps17
  go_wp2_with (first | (go_at_call 38; refine hC.mono ?_; rintro e w' ⟨rfl, rfl⟩) | (go_at_call 36; refine hH.mono ?_; rintro e w' ⟨rfl, rfl⟩) | (go_at_call 40; refine hFr.mono ?_; rintro e w1 ⟨rfl, hb1, hg1, hs1⟩; have HS1 : Hid (w1.heap.size = w.heap.size + 1) := hs1; clear hs1))
  have HS1 : Hid (w1.heap.size = w.heap.size + 1) := by assumption
  have hb1 : Blk w1 w.heap.size (bv bs) := by assumption
  have hg1 : w.grownBy w1 none := by assumption
  refine (lay_any w.heap.size k m _ n _ w1 hb1 (by omega) (by rw [bv_length, R.len_eq]; omega)).mono ?_
  rintro e w3 ⟨rfl, hb3, hg3, hs3⟩
  go_wp2
  go_ret2
  refine ⟨rfl, ?_, grown_new hg1 hg3 (Nat.le_refl _), ?_⟩
  · rw [bv_splice]; exact hb3
  · rw [hs3, HS1.out]

theorem set_no (a : Option Addr) (len cap : Nat) (k n m : Int) (w : World) (hc : ckE n m ≠ 0) :
    Calls Try.prog 17 #[.slice a len cap, .int .i64 k, .int .u64 n, .int .i64 m] w fun e w' => e = .returned (.tuple #[.slice none 0 0, .int .i64 (ckE n m)]) ∧ w = w' := by
  have hb : (ckE n m != 0) = true := by simpa using hc
  have hC := check_any n m w
  go_enter Try.func17, Try.ntmps17
  go_wp2_with (first | (go_at_call 38; refine hC.mono ?_; rintro e w' ⟨rfl, rfl⟩))
  go_ret2
  exact ⟨rfl, rfl⟩

theorem set_out (a : Option Addr) (len cap : Nat) (k n m : Int) (w : World) (hl : len ≤ maxLen) (h1 : k ≤ 9223372036854775807) (hc : ckE n m = 0) (hin : inB len k m = false) :
    Calls Try.prog 17 #[.slice a len cap, .int .i64 k, .int .u64 n, .int .i64 m] w fun e w' => e = .returned (.tuple #[.slice none 0 0, .int .i64 9]) ∧ w = w' := by
  obtain ⟨hW, _⟩ := ckE_ok hc
  have hm := isW_pos hW
  have hC := check_any n m w
  rw [hc] at hC
  have hH := holds_any a len cap k m w hl (by omega) (by omega) h1
  go_enter Try.func17, Try.ntmps17
  go_wp2_with (first | (go_at_call 38; refine hC.mono ?_; rintro e w' ⟨rfl, rfl⟩) | (go_at_call 36; refine hH.mono ?_; rintro e w' ⟨rfl, rfl⟩))
  go_ret2
  exact ⟨rfl, rfl⟩

/-- 'append' of bytes to a row of the call's own -/
theorem wpList_append8 {P : Program} {w : World} {ops : Array Oper} {rest : List Oper} {o : Oper} {a : Act} {Q : Exit → Act → World → Prop} (hgd : o.guard = none) (s x : Operand) (t : TypeId)
    (ho : o.op = .call { callee := .builtin .append, args := #[s, x], argTypes := #[t, t] })
    (base : Nat) (i : TypeInfo) (ht : P.underlying t = some (.slice 5)) (hi : P.info? 5 = some i) (hz : i.zero = some (.int .u8 0)) (hsize : i.size = 1) (hby : i.bytes = 1)
    (v : Value) (n : Nat) (xs : List Value) (hs : a.eval s = v) (hown : w.ownsRow base 5 1 v n xs)
    (sa : Option Addr) (m c : Nat) (bs : List Int) (hx : a.eval x = .slice sa m c) (R : Row w sa m bs) (hnil : sa = none → c = 0)
    (hb : n + m ≤ 140737488355328) (hbase : base ≤ w.heap.size)
    (h : ∀ v' w', w'.ownsRow base 5 1 v' (n + m) (xs ++ bv bs) → w.grownBy w' v.ownBlock → wpList P ops Q rest (a.put o.dst v') w') : wpList P ops Q (o :: rest) a w := by
  cases sa with
  | none =>
    have hm : m = 0 := by
      rcases Nat.eq_zero_or_pos m with h0 | h0
      · exact h0
      · obtain ⟨_, _, e, _⟩ := R.cells h0; cases e
    subst hm
    obtain rfl : bs = [] := List.eq_nil_of_length_eq_zero R.len_eq
    obtain rfl := hnil rfl
    refine wpList_append_own_none hgd s x t ho base 5 i 1 ht hi v n xs hs hown hx ?_
    exact h v w (by simpa [bv] using hown) (World.grownBy.refl _ _)
  | some ad =>
    refine wpList_append_own w hgd s x t ho base 5 i (.int .u8 0) 1 1 ht hi hz hsize hby rfl (by decide) v n xs hs hown ad m c (bv bs) hx (by rw [bv_length, R.len_eq]; omega) ?_ (bv_one _) (by unfold maxLen; omega) (by omega) hbase (fun v' w' h1 h2 _ => h v' w' h1 h2)
    intro j u hj
    have h0 : 0 < (bv bs).length := by
      rcases Nat.eq_zero_or_pos (bv bs).length with h0 | h0
      · rw [List.eq_nil_of_length_eq_zero h0] at hj; simp at hj
      · exact h0
    obtain ⟨ad', e, hc⟩ := R.src h0
    injection e with e
    subst e
    exact hc j u hj

theorem Row.none_of {w : World} (a : Option Addr) {len : Nat} {bs : List Int} (h : len = 0) (hb : bs.length = len) : Row w a len bs := by
  subst h
  obtain rfl : bs = [] := List.eq_nil_of_length_eq_zero hb
  exact ⟨rfl, Nat.zero_le _, fun n hn => by simp at hn, fun h => absurd h (by omega)⟩
theorem map_add (b off k : Nat) : (some ⟨b, off, none⟩ : Option Addr).map (·.add k) = some ⟨b, off + k, none⟩ := by
  have hadd : (⟨b, off, none⟩ : Addr).add k = ⟨b, off + k, none⟩ := by unfold Addr.add; split <;> simp_all
  simp [hadd]

set_option maxHeartbeats 400000 in
theorem refset_ok (b off len cap : Nat) (bs : List Int) (n : Int) (k m : Nat) (w : World) (R : Row w (some ⟨b, off, none⟩) len bs) (hcap : len ≤ cap) (hl : len ≤ 140000000000000) (hW : isW m = true) (hf : fits n m = true) (h0 : 0 ≤ n) (h1 : n < 18446744073709551616) (hin : k + m ≤ len) :
    Calls Try.prog 18 #[.slice (some ⟨b, off, none⟩) len cap, .int .i64 k, .int .u64 n, .int .i64 m] w fun e w' => ∃ a c, e = .returned (.tuple #[.slice a len c, .int .i64 0]) ∧ Row w' a len (splice bs k (sto n m)) ∧ w.grownBy w' none := by
  obtain ⟨i5, hi, hz0, hz1, hz2⟩ := info_parts Try.info5
  have hm := isW_pos hW
  have hI := in_any (some ⟨b, off, none⟩) len cap k m w R.le (by omega) (by omega)
  have hib : inB len k m = true := by simp [inB]; omega
  have hSt := fun w => store_any n m w (by omega) h0 h1
  have HSt : Hid (∀ w, Calls Try.prog 16 #[.int .u64 n, .int .i64 m] w fun e w' => ∃ a cap, e = .returned (.slice a m cap) ∧ Row w' a m (sto n m) ∧ w.grownBy w' none) := hSt
  clear hSt
  have hmade : (w.alloc (.cells #[] 5)).ownsRow w.heap.size 5 1 (.slice (some ⟨w.heap.size, 0, none⟩) 0 0) 0 [] := World.ownsRow_made w #[] 0 (Nat.le_refl _) (Nat.zero_le _) rfl
  have Rk : Row (w.alloc (.cells #[] 5)) (some ⟨b, off, none⟩) k (bs.take k) := by
    have := R.cut 0 k (by omega)
    simp only [List.drop_zero] at this
    have e : (some ⟨b, off, none⟩ : Option Addr).map (·.add 0) = some ⟨b, off, none⟩ := by simp [Addr.add]
    rw [e] at this
    exact this.below ((Below.refl _ _).alloc (Nat.le_refl _) _)
  go_enter Try.func18, Try.ntmps18
  go_wp2_with (first | (go_at_call 14; refine (width_any _ _).mono ?_; rintro e w' ⟨rfl, rfl⟩) | (go_at_call 20; refine hI.mono ?_; rintro e w' ⟨rfl, rfl⟩) | (go_at_call 15; refine (fits_any _ _ _ (by omega) h0 h1).mono ?_; rintro e w' ⟨rfl, rfl⟩) | (at_builtin; (refine wpList_append8 rfl (.tmp 25) (.tmp 28) 22 rfl w.heap.size i5 Try.underlying22 hi hz0 hz1 hz2 _ 0 [] rfl hmade _ k _ (bs.take k) rfl Rk (by intro h; cases h) (by omega) (by simp) ?_; intro v1 w1 ho1 hg1)))
  have ho1 : w1.ownsRow w.heap.size 5 1 v1 (0 + k) ([] ++ bv (bs.take k)) := by assumption
  have hg1 : (w.alloc (.cells #[] 5)).grownBy w1 (some w.heap.size) := by assumption
  clear Rk hmade
  simp only [Nat.zero_add, List.nil_append] at ho1
  have G1 : w.grownBy w1 none := grown_new (World.grownBy_alloc w _ none) hg1 (Nat.le_refl _)
  refine (HSt.out _).mono ?_
  rintro e w2 ⟨a2, c2, rfl, R2, hg2⟩
  have ho2 : w2.ownsRow w.heap.size 5 1 v1 k (bv (bs.take k)) := ho1.kept hg2 (by cases v1.ownBlock <;> simp)
  have G2 : w.grownBy w2 none := grown_trans G1 hg2
  obtain ⟨b2, o2, rfl, hc2⟩ := R2.cells (by omega)
  clear ho1 hg1 hg2 G1 hc2
  have Rc := R.cut (k + m) (len - (k + m)) (by omega)
  have hRl : (bs.drop (k + m)).take (len - (k + m)) = bs.drop (k + m) := List.take_of_length_le (by simp [R.len_eq])
  rw [hRl] at Rc
  rw [map_add] at Rc
  clear hRl
  have hdl : (bs.drop (k + m)).length = len - (k + m) := by simp [R.len_eq]
  have hsp : bv (bs.take k) ++ bv (sto n m) ++ bv (bs.drop (k + m)) = bv (splice bs k (sto n m)) := by simp [splice, bv_append, sto_length]
  have hbyt : Byt (splice bs k (sto n m)) := by
    unfold splice; exact (R.byt.take k).append ((sto_byt n m).append (R.byt.drop _))
  have key : ∀ v3 w3 v4 w4, w3.ownsRow w.heap.size 5 1 v3 (k + m) (bv (bs.take k) ++ bv (sto n m)) → w2.grownBy w3 v1.ownBlock → w4.ownsRow w.heap.size 5 1 v4 (k + m + (len - (k + m))) (bv (bs.take k) ++ bv (sto n m) ++ bv (bs.drop (k + m))) → w3.grownBy w4 v3.ownBlock → ∃ a c, v4 = .slice a len c ∧ Row w4 a len (splice bs k (sto n m)) ∧ w.grownBy w4 none := by
    intro v3 w3 v4 w4 ho3 hg3 ho4 hg4
    have e : k + m + (len - (k + m)) = len := by omega
    rw [hsp, e] at ho4
    obtain ⟨a, c, rfl, R4⟩ := owns_row ho4 hbyt R.le
    exact ⟨a, c, rfl, R4, grown_own (grown_own G2 ho2 hg3 (Nat.le_refl _)) ho3 hg4 (Nat.le_refl _)⟩
  have HK := (show Hid _ from key)
  clear key hsp
  by_cases hck : cap = k + m
  · go_wp2_with (first | (at_builtin; refine wpList_append8 rfl (.tmp 30) (.tmp 33) 22 rfl w.heap.size i5 Try.underlying22 hi hz0 hz1 hz2 _ k _ rfl ho2 _ m _ (sto n m) rfl R2 (by intro h; cases h) (by omega) G2.size ?_; intro v3 w3 ho3 hg3) | (at_builtin; (refine wpList_append8 rfl (.tmp 35) (.tmp 40) 22 rfl w.heap.size i5 Try.underlying22 hi hz0 hz1 hz2 _ (k + m) _ rfl ho3 _ (len - (k + m)) _ (bs.drop (k + m)) rfl (Row.none_of _ (by omega) hdl) (by intro h; cases h) (by omega) (grown_own G2 ho2 hg3 (Nat.le_refl _)).size ?_; intro v4 w4 ho4 hg4)))
    obtain ⟨a, c, rfl, R4, hg⟩ := HK.out _ _ _ _ (by assumption) (by assumption) (by assumption) (by assumption)
    go_ret2
    exact ⟨a, c, rfl, R4, hg⟩
  · go_wp2_with (first | (at_builtin; refine wpList_append8 rfl (.tmp 30) (.tmp 33) 22 rfl w.heap.size i5 Try.underlying22 hi hz0 hz1 hz2 _ k _ rfl ho2 _ m _ (sto n m) rfl R2 (by intro h; cases h) (by omega) G2.size ?_; intro v3 w3 ho3 hg3) | (at_builtin; (refine wpList_append8 rfl (.tmp 35) (.tmp 40) 22 rfl w.heap.size i5 Try.underlying22 hi hz0 hz1 hz2 _ (k + m) _ rfl ho3 _ (len - (k + m)) _ (bs.drop (k + m)) rfl (Rc.grown (grown_own G2 ho2 hg3 (Nat.le_refl _))) (by intro h; cases h) (by omega) (grown_own G2 ho2 hg3 (Nat.le_refl _)).size ?_; intro v4 w4 ho4 hg4)))
    obtain ⟨a, c, rfl, R4, hg⟩ := HK.out _ _ _ _ (by assumption) (by assumption) (by assumption) (by assumption)
    go_ret2
    exact ⟨a, c, rfl, R4, hg⟩

theorem refset_no (a : Option Addr) (len cap : Nat) (k n m : Int) (w : World) (hW : isW m = false) :
    Calls Try.prog 18 #[.slice a len cap, .int .i64 k, .int .u64 n, .int .i64 m] w fun e w' => e = .returned (.tuple #[.slice none 0 0, .int .i64 1]) ∧ w = w' := by
  go_enter Try.func18, Try.ntmps18
  go_wp2_with (first | (go_at_call 14; refine (width_any _ _).mono ?_; rintro e w' ⟨rfl, rfl⟩))
  go_ret2
  exact ⟨rfl, rfl⟩

theorem refset_out (a : Option Addr) (len cap : Nat) (k n : Int) (m : Nat) (w : World) (hl : len ≤ maxLen) (h1 : k ≤ 9223372036854775807) (hW : isW m = true) (hin : inB len k m = false) :
    Calls Try.prog 18 #[.slice a len cap, .int .i64 k, .int .u64 n, .int .i64 m] w fun e w' => e = .returned (.tuple #[.slice none 0 0, .int .i64 9]) ∧ w = w' := by
  have hm := isW_pos hW
  have hI := in_any a len cap k m w hl (by omega) h1
  go_enter Try.func18, Try.ntmps18
  go_wp2_with (first | (go_at_call 14; refine (width_any _ _).mono ?_; rintro e w' ⟨rfl, rfl⟩) | (go_at_call 20; refine hI.mono ?_; rintro e w' ⟨rfl, rfl⟩))
  go_ret2
  exact ⟨rfl, rfl⟩

theorem refset_wide (a : Option Addr) (len cap : Nat) (k n : Int) (m : Nat) (w : World) (hl : len ≤ maxLen) (h1 : k ≤ 9223372036854775807) (hW : isW m = true) (hf : fits n m = false) (h0 : 0 ≤ n) (hn : n < 18446744073709551616) (hin : inB len k m = true) :
    Calls Try.prog 18 #[.slice a len cap, .int .i64 k, .int .u64 n, .int .i64 m] w fun e w' => e = .returned (.tuple #[.slice none 0 0, .int .i64 9]) ∧ w = w' := by
  have hm := isW_pos hW
  have hI := in_any a len cap k m w hl (by omega) h1
  go_enter Try.func18, Try.ntmps18
  go_wp2_with (first | (go_at_call 14; refine (width_any _ _).mono ?_; rintro e w' ⟨rfl, rfl⟩) | (go_at_call 20; refine hI.mono ?_; rintro e w' ⟨rfl, rfl⟩) | (go_at_call 15; refine (fits_any _ _ _ (by omega) h0 hn).mono ?_; rintro e w' ⟨rfl, rfl⟩))
  go_ret2
  exact ⟨rfl, rfl⟩

/-- where Set is not to be: the program's and the document's answer, the same error -/
theorem set_bad (a : Option Addr) (len cap : Nat) (k n m : Int) (w : World) (hl : len ≤ maxLen) (h1 : k ≤ 9223372036854775807) (h0 : 0 ≤ n) (hn : n < 18446744073709551616) (hb : ¬ (isW m = true ∧ fits n m.toNat = true ∧ inB len k m = true)) :
    ∃ E : Int, (Calls Try.prog 17 #[.slice a len cap, .int .i64 k, .int .u64 n, .int .i64 m] w fun e w' => e = .returned (.tuple #[.slice none 0 0, .int .i64 E]) ∧ w = w') ∧
      (Calls Try.prog 18 #[.slice a len cap, .int .i64 k, .int .u64 n, .int .i64 m] w fun e w' => e = .returned (.tuple #[.slice none 0 0, .int .i64 E]) ∧ w = w') := by
  by_cases hW : isW m = true
  · obtain ⟨j, rfl⟩ : ∃ j : Nat, m = j := ⟨m.toNat, by have := isW_pos hW; omega⟩
    rw [Int.toNat_natCast] at hb
    have hck := ckE_fits hW h0
    by_cases hf : fits n j = true
    · rw [hf] at hck
      have hi : inB len k j = false := by
        cases hh : inB len k j with
        | false => rfl
        | true => exact absurd ⟨hW, hf, hh⟩ hb
      exact ⟨9, set_out a len cap k n j w hl h1 hck hi, refset_out a len cap k n j w hl h1 hW hi⟩
    · have hf' : fits n j = false := by simpa using hf
      rw [hf'] at hck
      have hck' : ckE n j = 9 := hck
      have hs := set_no a len cap k n j w (by rw [hck']; decide)
      rw [hck'] at hs
      cases hh : inB len k j with
      | false => exact ⟨9, hs, refset_out a len cap k n j w hl h1 hW hh⟩
      | true => exact ⟨9, hs, refset_wide a len cap k n j w hl h1 hW hf' h0 hn hh⟩
  · have hW' : isW m = false := by simpa using hW
    have hck : ckE n m = 1 := by simp [ckE, hW']
    have hs := set_no a len cap k n m w (by rw [hck]; decide)
    rw [hck] at hs
    exact ⟨1, hs, refset_no a len cap k n m w hW'⟩
end Go.Proofs.Ythnehebkkfegdaa
