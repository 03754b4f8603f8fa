/- Contracts of what a writer takes. A writer's calls, whatever comes in; what a list of calls writes. A writer takes bytes that lie in a block apart from its own, made behind it or ahead of it. Contracts of the functions on numbers and bytes: each returns what the plain function of the same shape reckons, and memory stands. Contracts of Make, Good, More and Crc: the table lies in a block of 256 cells. Contracts of More, Crc and Good. Contracts of More and Crc without a table. -/
import Derived.Deep.WholeRow
import Derived.Deep.DeepCutAuto
import Derived.Lib.SlBytesConst
import Derived.Test.YtfhgbddeclldnaaN03
import Derived.Test.YtfhgbddeclldnaaN10
namespace Go.Proofs.Ytfhgbddeclldnaa.Fi
open Go.RowKit
set_option maxRecDepth 100000
set_option linter.unusedSimpArgs false
set_option linter.unusedVariables false

theorem Chg.below {w w' : World} {p : Nat} {v v' : Value} {n : Nat} {xs : List Value} (h : Chg w w' p v v') (ho : w.ownsRow (p + 1) 5 1 v n xs) (hp : p ≤ w.heap.size) : Below p w w' :=
  ⟨h.os, h.tape, h.output, h.size, fun k hk => h.block k (by omega) (by omega) (fun e => by have := (ho.lt k e.symm).1; omega)⟩
theorem _root_.Go.Proofs.Ytfhgbddeclldnaa.Row.belowB {w w' : World} {a : Option Addr} {len B : Nat} {bs : List Int} (h : Row w a len bs) (hb : Below B w w') (hlt : ∀ b off, a = some ⟨b, off, none⟩ → 0 < len → b < B) : Row w' a len bs := by
  refine ⟨h.len_eq, h.le, h.byt, fun h0 => ?_⟩
  obtain ⟨b, off, e, hc⟩ := h.cells h0
  exact ⟨b, off, e, fun i hi => by rw [hb.cell (p := ⟨b, off + i, none⟩) (hlt b off e h0)]; exact hc i hi⟩

theorem Grew.cur {w w1 : World} {p n : Nat} {v v' : Value} {bs : List Int} {most : Int} {a : Option Addr} (G : Grew w w1 p v bs most n v' a) (hn : 0 < n) :
    ∃ g c cur, v' = .slice (some ⟨g, 0, none⟩) (bs.length + n) c ∧ a = some ⟨g, bs.length, none⟩ ∧ Blk w1 g cur ∧ cur.length = c ∧ bs.length + n ≤ c ∧ cur.take (bs.length + n) = bv bs ++ zs n ∧ p + 1 ≤ g ∧ c ≤ maxLen := by
  obtain ⟨g, c, hv, ha⟩ := G.at_ hn
  rcases G.own.2 with ⟨h1, h2⟩ | ⟨g', cap, cur, e, hb, hg, hle, hm, hs, ht⟩
  · omega
  · rw [hv] at e
    injection e with e1 e2 e3
    injection e1 with e1
    injection e1 with e1
    subst e1
    subst e3
    refine ⟨g, c, cur.toList, hv, ha, ?_, by simp [hs], hle, by simpa using ht, hb, hm⟩
    unfold Blk
    simpa using hg

theorem take_splice {α : Type} (cur xs ys : List α) (k n : Nat) (h : cur.take (k + n) = xs ++ ys) (hx : xs.length = k) (hy : ys.length = n) (st : List α) (hs : st.length = n) : (splice cur k st).take (k + n) = xs ++ st := by
  unfold splice
  have e1 : cur.take k = xs := by
    have := congrArg (List.take k) h
    rw [List.take_take, Nat.min_eq_left (by omega), List.take_append_of_le_length (by omega)] at this
    rw [this, List.take_of_length_le (by omega)]
  rw [e1, ← List.append_assoc, List.take_append_of_le_length (by simp [hx, hs]), List.take_of_length_le (by simp [hx, hs])]

/-- what was grown, written over -/
theorem wrote {w w1 w2 : World} {p n g c : Nat} {v v' : Value} {bs : List Int} {most : Int} {a : Option Addr} {cur : List Value} (hI : WInv w p v bs most 0) (G : Grew w w1 p v bs most n v' a)
    (hv : v' = .slice (some ⟨g, 0, none⟩) (bs.length + n) c) (hcl : cur.length = c) (hle : bs.length + n ≤ c) (hm : c ≤ maxLen) (ht : cur.take (bs.length + n) = bv bs ++ zs n) (hpg : p + 1 ≤ g)
    (st : List Int) (hst : st.length = n) (hsb : Byt st) (hB : Blk w2 g (splice cur bs.length (bv st))) (hg : w1.grownBy w2 (some g)) : WInv w2 p v' (bs ++ st) most 0 ∧ Chg w w2 p v v' := by
  have hob : v'.ownBlock = some g := by rw [hv]; rfl
  refine ⟨⟨G.blk.grown hg (by simp; omega), ⟨by simp [bv_length], .inr ⟨g, c, (splice cur bs.length (bv st)).toArray, ?_, hpg, hB, ?_, hm, ?_, ?_⟩⟩, hI.byt.append hsb⟩, G.chg.trans (Chg.of_own (by rw [hob]; exact hg) (Or.inl rfl))⟩
  · rw [hv, List.length_append, hst]
  · rw [List.length_append, hst]; exact hle
  · simp only [List.size_toArray]; rw [length_splice _ _ _ (by rw [bv_length, hst, hcl]; exact hle)]; omega
  · have := take_splice cur (bv bs) (zs n) bs.length n ht (bv_length _) (zs_length _) (bv st) (by rw [bv_length, hst])
    simp only [List.length_append, hst, Nat.mul_one, bv_append]
    exact this
theorem wrote0 {w w1 : World} {p : Nat} {v v' : Value} {bs : List Int} {most : Int} {a : Option Addr} (hI : WInv w p v bs most 0) (G : Grew w w1 p v bs most 0 v' a) : WInv w1 p v' bs most 0 ∧ Chg w w1 p v v' :=
  ⟨⟨G.blk, by have := G.own; simpa [zs] using this, hI.byt⟩, G.chg⟩

theorem wnum_stop (p : Nat) (x y : Value) (e n m : Int) (w : World) (hB : SBlk w p [x, y, .int .i64 e] 101) (he : (e != 0) = true) :
    Calls Try.prog 46 #[.pointer (some ⟨p, 0, none⟩), .int .u64 n, .int .i64 m] w fun r w' => r = .returned (.tuple #[]) ∧ w = w' := by
  go_enter Try.func46, Try.ntmps46
  go_wp2_with (go_at_call 57; refine (wstop_any p x y e w hB).mono ?_; rintro e w' ⟨rfl, rfl⟩)
  exact bodyPost_ret (results_none rfl _ _ _) rfl ⟨rfl, rfl⟩
theorem wbytes_stop (p : Nat) (x y v : Value) (e : Int) (w : World) (hB : SBlk w p [x, y, .int .i64 e] 101) (he : (e != 0) = true) :
    Calls Try.prog 45 #[.pointer (some ⟨p, 0, none⟩), v] w fun r w' => r = .returned (.tuple #[]) ∧ w = w' := by
  go_enter Try.func45, Try.ntmps45
  go_wp2_with (go_at_call 57; refine (wstop_any p x y e w hB).mono ?_; rintro e w' ⟨rfl, rfl⟩)
  exact bodyPost_ret (results_none rfl _ _ _) rfl ⟨rfl, rfl⟩
theorem wnum_bad (p : Nat) (v : Value) (bs : List Int) (most n m : Int) (w : World) (hI : WInv w p v bs most 0) (hc : (ckE n m != 0) = true) :
    Calls Try.prog 46 #[.pointer (some ⟨p, 0, none⟩), .int .u64 n, .int .i64 m] w fun r w' => r = .returned (.tuple #[]) ∧ WInv w' p v bs most (ckE n m) ∧ Chg w w' p v v := by
  have c2 := hI.blk.c2
  have f2 := hI.blk.frozen 2
  have d2 := (hI.setE (ckE n m)).blk.c2
  go_enter Try.func46, Try.ntmps46
  go_wp2_with (first | (go_at_call 57; refine (wstop_any p _ _ 0 w hI.blk).mono ?_; rintro e w' ⟨rfl, rfl⟩) | (go_at_call 59; refine (check_any _ _ _).mono ?_; rintro e w' ⟨rfl, rfl⟩))
  exact bodyPost_ret (results_none rfl _ _ _) rfl ⟨rfl, hI.setE _, Chg.of_p (grown_set _ _ _ _)⟩

theorem wnum_full (p : Nat) (v : Value) (bs : List Int) (most n : Int) (m : Nat) (w : World) (hI : WInv w p v bs most 0) (hc : ckE n m = 0) (h0 : 0 ≤ most) (h1 : most ≤ 9223372036854775807) (hl : bs.length ≤ 140737488355328) (hn : most - bs.length < m) :
    Calls Try.prog 46 #[.pointer (some ⟨p, 0, none⟩), .int .u64 n, .int .i64 m] w fun r w' => r = .returned (.tuple #[]) ∧ WInv w' p v bs most 2 ∧ Chg w w' p v v := by
  have c2 := hI.blk.c2
  have f2 := hI.blk.frozen 2
  have hC := check_any n m w
  rw [hc] at hC
  have hI0 := hI.setE 0
  have d2 := hI0.blk.c2
  have hG := grow_no p v bs most m _ hI0 h0 h1 hl hn
  go_enter Try.func46, Try.ntmps46
  go_wp2_with (first | (go_at_call 57; refine (wstop_any p _ _ 0 w hI.blk).mono ?_; rintro e w' ⟨rfl, rfl⟩) | (go_at_call 59; refine hC.mono ?_; rintro e w' ⟨rfl, rfl⟩) | (go_at_call 58; refine hG.mono ?_; rintro e w1 ⟨rfl, hI1, hg1⟩) | (go_at_call 60; refine (lay_none _ _ _ _).mono ?_; rintro e w' ⟨rfl, rfl⟩))
  exact bodyPost_end (results_none rfl _ _ _) rfl ⟨rfl, by assumption, (Chg.of_p (grown_set w p 2 (.int .i64 0))).trans (by assumption)⟩

set_option maxHeartbeats 400000 in
theorem wnum_ok (p : Nat) (v : Value) (bs : List Int) (most n : Int) (m : Nat) (w : World) (hI : WInv w p v bs most 0) (hc : ckE n m = 0) (h0 : 0 ≤ most) (h1 : most ≤ 9223372036854775807) (hl : bs.length + m ≤ 140737488355328) (hn : (m : Int) ≤ most - bs.length) :
    Calls Try.prog 46 #[.pointer (some ⟨p, 0, none⟩), .int .u64 n, .int .i64 m] w fun r w' => ∃ v', r = .returned (.tuple #[]) ∧ WInv w' p v' (bs ++ sto n m) most 0 ∧ Chg w w' p v v' := by
  obtain ⟨hW, _⟩ := ckE_ok hc
  have hm := isW_pos hW
  have c2 := hI.blk.c2
  have f2 := hI.blk.frozen 2
  have hC := check_any n m w
  rw [hc] at hC
  have hI0 := hI.setE 0
  have d2 := hI0.blk.c2
  have hG := grow_ok p v bs most m _ hI0 h0 h1 hl hn
  go_enter Try.func46, Try.ntmps46
  go_wp2_with (first | (go_at_call 57; refine (wstop_any p _ _ 0 w hI.blk).mono ?_; rintro e w' ⟨rfl, rfl⟩) | (go_at_call 59; refine hC.mono ?_; rintro e w' ⟨rfl, rfl⟩) | (go_at_call 58; refine hG.mono ?_; rintro e w1 ⟨v1, a1, k1, rfl, hk1, G⟩; obtain ⟨g, c, cur, hv, rfl, hB, hcl, hle, ht, hpg, hmx⟩ := G.cur (by omega); have HV := (show Hid _ from hv); have HT := (show Hid _ from ht); clear hv ht))
  refine (lay_any g bs.length m k1 n cur w1 hB (by omega) (by omega)).mono ?_
  rintro e w2 ⟨rfl, hb2, hg2, hs2⟩
  clear hs2
  go_wp2
  obtain ⟨hW2, hC2⟩ := wrote hI0 G HV.out hcl hle hmx HT.out hpg (sto n m) (sto_length _ _) (sto_byt _ _) hb2 hg2
  exact bodyPost_end (results_none rfl _ _ _) rfl ⟨_, rfl, hW2, (Chg.of_p (grown_set w p 2 (.int .i64 0))).trans hC2⟩

theorem wbytes_full (p : Nat) (v : Value) (bs : List Int) (most : Int) (a : Option Addr) (n c : Nat) (w : World) (hI : WInv w p v bs most 0) (h0 : 0 ≤ most) (h1 : most ≤ 9223372036854775807) (hl : bs.length ≤ 140737488355328) (hn : most - bs.length < n) :
    Calls Try.prog 45 #[.pointer (some ⟨p, 0, none⟩), .slice a n c] w fun r w' => r = .returned (.tuple #[]) ∧ WInv w' p v bs most 2 ∧ Chg w w' p v v := by
  have hG := grow_no p v bs most n _ hI h0 h1 hl hn
  have hmin : Nat.min n 0 = 0 := Nat.min_zero n
  go_enter Try.func45, Try.ntmps45
  go_wp2_with (first | (go_at_call 57; refine (wstop_any p _ _ 0 w hI.blk).mono ?_; rintro e w' ⟨rfl, rfl⟩) | (go_at_call 58; refine hG.mono ?_; rintro e w1 ⟨rfl, hI1, hg1⟩) | ((with_reducible refine copy_here ?_); refine wpList_copy_nothing rfl _ _ 27 27 rfl 5 Try.underlying27 Try.size5 _ _ _ _ _ _ rfl rfl hmin ?_))
  exact bodyPost_end (results_none rfl _ _ _) rfl ⟨rfl, by assumption, by assumption⟩

set_option maxHeartbeats 400000 in
theorem wbytes_ok (p : Nat) (v : Value) (bs : List Int) (most : Int) (a : Option Addr) (n c : Nat) (xs : List Int) (w : World) (hI : WInv w p v bs most 0) (R : Row w a n xs) (hlt : ∀ b off, a = some ⟨b, off, none⟩ → 0 < n → b < p) (h0 : 0 ≤ most) (h1 : most ≤ 9223372036854775807) (hl : bs.length + n ≤ 140737488355328) (hn : (n : Int) ≤ most - bs.length) :
    Calls Try.prog 45 #[.pointer (some ⟨p, 0, none⟩), .slice a n c] w fun r w' => ∃ v', r = .returned (.tuple #[]) ∧ WInv w' p v' (bs ++ xs) most 0 ∧ Chg w w' p v v' := by
  have hG := grow_ok p v bs most n _ hI h0 h1 hl hn
  have hxl := R.len_eq
  by_cases hz : n = 0
  · subst hz
    obtain rfl : xs = [] := List.eq_nil_of_length_eq_zero hxl
    have hmin : Nat.min 0 0 = 0 := rfl
    rw [List.append_nil]
    go_enter Try.func45, Try.ntmps45
    go_wp2_with (first | (go_at_call 57; refine (wstop_any p _ _ 0 w hI.blk).mono ?_; rintro e w' ⟨rfl, rfl⟩) | (go_at_call 58; refine hG.mono ?_; rintro e w1 ⟨v1, a1, k1, rfl, hk1, G⟩) | ((with_reducible refine copy_here ?_); refine wpList_copy_nothing rfl _ _ 27 27 rfl 5 Try.underlying27 Try.size5 _ _ _ _ _ _ rfl rfl hmin ?_))
    obtain ⟨hW2, hC2⟩ := wrote0 hI G
    exact bodyPost_end (results_none rfl _ _ _) rfl ⟨rfl, _, hW2, hC2⟩
  · have hp := hI.blk.lt
    go_enter Try.func45, Try.ntmps45
    go_wp2_with (first | (go_at_call 57; refine (wstop_any p _ _ 0 w hI.blk).mono ?_; rintro e w' ⟨rfl, rfl⟩) | (go_at_call 58; refine hG.mono ?_; rintro e w1 ⟨v1, a1, k1, rfl, hk1, G⟩; obtain ⟨g, cc, cur, hv, rfl, hB, hcl, hle, ht, hpg, hmx⟩ := G.cur (by omega); have HV := (show Hid _ from hv); have HT := (show Hid _ from ht); clear hv ht; have R1 := R.belowB (G.chg.below hI.own (by omega)) hlt) | ((with_reducible refine copy_here ?_); refine wpList_copy8 rfl _ _ 27 27 rfl Try.underlying27 Try.size5 _ _ _ _ _ _ rfl rfl g bs.length cur hB (bv xs) (by rw [bv_length, hxl]; exact (Nat.min_self _).symm) (fun h0 => ⟨rfl, R1.src h0⟩) (by rw [bv_length, hxl]; omega) (bv_one _) ?_; intro w2 hb2 hg2 hs2))
    obtain ⟨hW2, hC2⟩ := wrote hI G HV.out hcl hle hmx HT.out hpg xs hxl R.byt hb2 hg2
    exact bodyPost_end (results_none rfl _ _ _) rfl ⟨rfl, _, hW2, hC2⟩

theorem splice_join {α : Type} (cur x y : List α) (k : Nat) (h : k + x.length + y.length ≤ cur.length) : splice (splice cur k x) (k + x.length) y = splice cur k (x ++ y) := by
  unfold splice
  have e1 : (cur.take k ++ (x ++ cur.drop (k + x.length))).take (k + x.length) = cur.take k ++ x := by
    rw [← List.append_assoc, List.take_append_of_le_length (by simp; omega), List.take_of_length_le (by simp; omega)]
  have e2 : (cur.take k ++ (x ++ cur.drop (k + x.length))).drop (k + x.length + y.length) = cur.drop (k + (x ++ y).length) := by
    rw [← List.append_assoc, List.drop_append, List.drop_eq_nil_of_le (by simp; omega), List.nil_append, List.drop_drop]
    congr 1
    simp
    omega
  rw [e1, e2]
  simp

theorem new_winv (w : World) (m : Int) : WInv (w.alloc (.cells #[.slice none 0 0, .int .i64 m, .int .i64 0] 101)) w.heap.size (.slice none 0 0) [] m 0 :=
  ⟨alloc_sblk w [.slice none 0 0, .int .i64 m, .int .i64 0] 101, World.ownsRow_nil _ _ _ _, fun n hn => by simp at hn⟩

theorem newwriter_any (most : Int) (w : World) :
    Calls Try.prog 44 #[.int .i64 most] w fun r w' => r = .returned (.pointer (some ⟨w.heap.size, 0, none⟩)) ∧ WInv w' w.heap.size (.slice none 0 0) [] (if most < 0 then 0 else most) 0 ∧ w.grownBy w' none := by
  by_cases h : most < 0
  · rw [if_pos h]
    go_enter Try.func44, Try.ntmps44
    go_wp2
    go_ret
    exact ⟨rfl, new_winv w 0, World.grownBy_alloc w _ none⟩
  · rw [if_neg h]
    go_enter Try.func44, Try.ntmps44
    go_wp2
    go_ret
    exact ⟨rfl, new_winv w most, World.grownBy_alloc w _ none⟩
end Go.Proofs.Ytfhgbddeclldnaa.Fi

namespace Go.Proofs.Ytfhgbddeclldnaa.Fi
open Go.RowKit
set_option maxRecDepth 100000
set_option linter.unusedSimpArgs false
set_option linter.unusedVariables false

def wNum (most : Int) (s : List Int × Int) (v n : Int) : List Int × Int :=
  if s.2 ≠ 0 then s else if ckE v n ≠ 0 then (s.1, ckE v n) else if most - s.1.length < n then (s.1, 2) else (s.1 ++ sto v n.toNat, 0)
def wByt (most : Int) (s : List Int × Int) (xs : List Int) : List Int × Int :=
  if s.2 ≠ 0 then s else if most - s.1.length < xs.length then (s.1, 2) else (s.1 ++ xs, 0)
def wTxt (most : Int) (s : List Int × Int) (xs : List Int) : List Int × Int :=
  if s.2 ≠ 0 then s else if 65535 < xs.length then (s.1, 9) else if most - s.1.length < 2 + xs.length then (s.1, 2) else (s.1 ++ (sto xs.length 2 ++ xs), 0)
theorem wnum_any (p : Nat) (v : Value) (most x n : Int) (s : List Int × Int) (w : World) (hI : WInv w p v s.1 most s.2) (h0 : 0 ≤ most) (h1 : most ≤ 9223372036854775807) (hl : s.1.length ≤ 100000000) :
    Calls Try.prog 46 #[.pointer (some ⟨p, 0, none⟩), .int .u64 x, .int .i64 n] w fun r w' => r = .returned (.tuple #[]) ∧ ∃ v', WInv w' p v' (wNum most s x n).1 most (wNum most s x n).2 ∧ Chg w w' p v v' := by
  obtain ⟨bs, e⟩ := s
  simp only at hI hl
  by_cases he : e = 0
  · subst he
    by_cases hc : ckE x n = 0
    · obtain ⟨hW, _⟩ := ckE_ok hc
      obtain ⟨m, rfl⟩ : ∃ m : Nat, n = m := ⟨n.toNat, by have := isW_pos hW; omega⟩
      have hm := isW_pos hW
      by_cases hn : most - bs.length < m
      · have e1 : wNum most (bs, 0) x m = (bs, 2) := by simp [wNum, hc, hn]
        rw [e1]
        exact (wnum_full p v bs most x m w hI hc h0 h1 (by omega) hn).mono fun r w' ⟨a, b, c⟩ => ⟨a, v, b, c⟩
      · have e1 : wNum most (bs, 0) x m = (bs ++ sto x m, 0) := by simp [wNum, hc, hn]
        rw [e1]
        exact (wnum_ok p v bs most x m w hI hc h0 h1 (by omega) (by omega)).mono fun r w' ⟨v', a, b, c⟩ => ⟨a, v', b, c⟩
    · have e1 : wNum most (bs, 0) x n = (bs, ckE x n) := by simp [wNum, hc]
      rw [e1]
      exact (wnum_bad p v bs most x n w hI (by simpa using hc)).mono fun r w' ⟨a, b, c⟩ => ⟨a, v, b, c⟩
  · have e1 : wNum most (bs, e) x n = (bs, e) := by simp [wNum, he]
    rw [e1]
    exact (wnum_stop p _ _ e x n w hI.blk (by simpa using he)).mono fun r w' ⟨a, b⟩ => ⟨a, v, by rw [← b]; exact hI, by rw [← b]; exact Chg.refl _ _ _⟩

theorem wbytes_any (p : Nat) (v : Value) (most : Int) (s : List Int × Int) (a : Option Addr) (n c : Nat) (xs : List Int) (w : World) (hI : WInv w p v s.1 most s.2) (R : Row w a n xs) (hlt : ∀ b off, a = some ⟨b, off, none⟩ → 0 < n → b < p) (h0 : 0 ≤ most) (h1 : most ≤ 9223372036854775807) (hl : s.1.length ≤ 100000000) (hn : n ≤ 100000000) :
    Calls Try.prog 45 #[.pointer (some ⟨p, 0, none⟩), .slice a n c] w fun r w' => r = .returned (.tuple #[]) ∧ ∃ v', WInv w' p v' (wByt most s xs).1 most (wByt most s xs).2 ∧ Chg w w' p v v' := by
  obtain ⟨bs, e⟩ := s
  simp only at hI hl
  have hxl := R.len_eq
  by_cases he : e = 0
  · subst he
    by_cases hf : most - bs.length < n
    · have e1 : wByt most (bs, 0) xs = (bs, 2) := by simp [wByt, hxl, hf]
      rw [e1]
      exact (wbytes_full p v bs most a n c w hI h0 h1 (by omega) hf).mono fun r w' ⟨a, b, c⟩ => ⟨a, v, b, c⟩
    · have e1 : wByt most (bs, 0) xs = (bs ++ xs, 0) := by simp [wByt, hxl, hf]
      rw [e1]
      exact (wbytes_ok p v bs most a n c xs w hI R hlt h0 h1 (by omega) (by omega)).mono fun r w' ⟨v', a, b, c⟩ => ⟨a, v', b, c⟩
  · have e1 : wByt most (bs, e) xs = (bs, e) := by simp [wByt, he]
    rw [e1]
    exact (wbytes_stop p _ _ _ e w hI.blk (by simpa using he)).mono fun r w' ⟨a, b⟩ => ⟨a, v, by rw [← b]; exact hI, by rw [← b]; exact Chg.refl _ _ _⟩

/-- how much one call adds at most -/
theorem wNum_len (most : Int) (s : List Int × Int) (v n : Int) : (wNum most s v n).1.length ≤ s.1.length + 8 := by
  unfold wNum
  split
  · omega
  · split
    · simp
    · rename_i _ hc
      split
      · simp
      · obtain ⟨hW, _⟩ := ckE_ok (show ckE v n = 0 by omega)
        have := isW_pos hW
        simp [sto_length]; omega
theorem wByt_len (most : Int) (s : List Int × Int) (xs : List Int) : (wByt most s xs).1.length ≤ s.1.length + xs.length := by
  unfold wByt; split <;> (try split) <;> simp
theorem wTxt_len (most : Int) (s : List Int × Int) (xs : List Int) : (wTxt most s xs).1.length ≤ s.1.length + xs.length + 2 := by
  unfold wTxt
  split
  · omega
  · split
    · simp only; omega
    · split
      · simp only; omega
      · simp only [List.length_append, sto_length]; omega
theorem Res.row {w w' : World} {v : Value} {t : List Int} (h : Res w w' v t) (hb : Byt t) (hl : t.length ≤ maxLen) : ∃ a, v = .slice a t.length t.length ∧ Row w' a t.length t := by
  rcases h with ⟨rfl, rfl⟩ | ⟨g, rfl, hB, _⟩
  · exact ⟨none, rfl, rfl, Nat.zero_le _, hb, fun h => absurd h (by simp)⟩
  · exact ⟨_, rfl, hB.row hb hl⟩
theorem _root_.Go.Proofs.Ytfhgbddeclldnaa.Row.drew' {w : World} {a : Option Addr} {len : Nat} {bs : List Int} (h : Row w a len bs) : Row w.drew a len bs := h.below ((Below.refl _ _).drew)
end Go.Proofs.Ytfhgbddeclldnaa.Fi

namespace Go.Proofs.Ytfhgbddeclldnaa.Fi
open Go.RowKit
set_option maxRecDepth 100000
set_option linter.unusedSimpArgs false
set_option linter.unusedVariables false

theorem _root_.Go.Proofs.Ytfhgbddeclldnaa.Row.chg {w w' : World} {p n : Nat} {v v' : Value} {a : Option Addr} {xs : List Int} (h : Row w a n xs) (k : Chg w w' p v v') (hlt : ∀ b off, a = some ⟨b, off, none⟩ → 0 < n → b < w.heap.size ∧ b ≠ p ∧ some b ≠ v.ownBlock) : Row w' a n xs := by
  refine ⟨h.len_eq, h.le, h.byt, fun h0 => ?_⟩
  obtain ⟨b, off, e, hc⟩ := h.cells h0
  obtain ⟨k1, k2, k3⟩ := hlt b off e h0
  refine ⟨b, off, e, fun i hi => ?_⟩
  have := hc i hi
  unfold World.cell? at this ⊢
  simp only at this ⊢
  rw [k.block b k1 k2 k3]
  exact this

set_option maxHeartbeats 400000 in
theorem wbytes_apart (p : Nat) (v : Value) (bs : List Int) (most : Int) (a : Option Addr) (n c : Nat) (xs : List Int) (w : World) (hI : WInv w p v bs most 0) (R : Row w a n xs) (hlt : ∀ b off, a = some ⟨b, off, none⟩ → 0 < n → b < w.heap.size ∧ b ≠ p ∧ some b ≠ v.ownBlock) (h0 : 0 ≤ most) (h1 : most ≤ 9223372036854775807) (hl : bs.length + n ≤ 140737488355328) (hn : (n : Int) ≤ most - bs.length) :
    Calls Try.prog 45 #[.pointer (some ⟨p, 0, none⟩), .slice a n c] w fun r w' => ∃ v', r = .returned (.tuple #[]) ∧ WInv w' p v' (bs ++ xs) most 0 ∧ Chg w w' p v v' := by
  have hG := grow_ok p v bs most n _ hI h0 h1 hl hn
  have hxl := R.len_eq
  by_cases hz : n = 0
  · exact wbytes_ok p v bs most a n c xs w hI R (fun b off e h => by omega) h0 h1 hl hn
  · have hp := hI.blk.lt
    go_enter Try.func45, Try.ntmps45
    go_wp2_with (first | (go_at_call 57; refine (wstop_any p _ _ 0 w hI.blk).mono ?_; rintro e w' ⟨rfl, rfl⟩) | (go_at_call 58; refine hG.mono ?_; rintro e w1 ⟨v1, a1, k1, rfl, hk1, G⟩; obtain ⟨g, cc, cur, hv, rfl, hB, hcl, hle, ht, hpg, hmx⟩ := G.cur (by omega); have HV := (show Hid _ from hv); have HT := (show Hid _ from ht); clear hv ht; have R1 := R.chg G.chg hlt) | ((with_reducible refine copy_here ?_); refine wpList_copy8 rfl _ _ 27 27 rfl Try.underlying27 Try.size5 _ _ _ _ _ _ rfl rfl g bs.length cur hB (bv xs) (by rw [bv_length, hxl]; exact (Nat.min_self _).symm) (fun h0 => ⟨rfl, R1.src h0⟩) (by rw [bv_length, hxl]; omega) (bv_one _) ?_; intro w2 hb2 hg2 hs2))
    obtain ⟨hW2, hC2⟩ := wrote hI G HV.out hcl hle hmx HT.out hpg xs hxl R.byt hb2 hg2
    exact bodyPost_end (results_none rfl _ _ _) rfl ⟨rfl, _, hW2, hC2⟩
end Go.Proofs.Ytfhgbddeclldnaa.Fi

namespace Go.Proofs.Ytfhgbddeclldnaa.Fi
open Go.RowKit
set_option maxRecDepth 100000
set_option linter.unusedSimpArgs false
set_option linter.unusedVariables false

theorem entry_any (n : Nat) (w : World) (hn : n < 4294967296) : Calls Try.prog 81 #[.int .u32 n] w fun e w' => e = .returned (.int .u32 (ent n)) ∧ w = w' := by
  go_enter Try.func81, Try.ntmps81
  go_wp2
  go_loop [0, 3, 4] (fun v _ i => ∃ j : Nat, j ≤ 8 ∧ i = .int .i64 j ∧ v = .int .u32 (halves j n)) (fun _ _ i => 8 - (intOf i).toNat)
  case atStart => exact ⟨0, Nat.zero_le _, rfl, rfl⟩
  case round =>
    obtain ⟨j, hj, rfl, rfl⟩ := hrel
    by_cases hlt : j < 8
    · have hx := halves_lt hn j
      have hs : halves (j + 1) n = half (halves j n) := rfl
      generalize halves j n = x at hx hs
      by_cases hp : x % 2 = 1
      · rw [half1 hp] at hs
        have h1 : bits .and .u32 (x : Int) 1 = 1 := by rw [and1 hx, hp]; rfl
        go_wp2
        go_round
        case rel => exact ⟨j + 1, by omega, by go_num, by rw [hs, xorP hx]⟩
        case measure => simp [intOf]; omega
      · rw [half0 hp] at hs
        have h1 : bits .and .u32 (x : Int) 1 = 0 := by rw [and1 hx]; omega
        go_wp2
        go_round
        case rel => exact ⟨j + 1, by omega, by go_num, by rw [hs]; rfl⟩
        case measure => simp [intOf]; omega
    · go_wp2
      go_ret
      have : j = 8 := by omega
      subst this
      exact ⟨rfl, rfl⟩

theorem dig1_eq {x : Nat} {b : Int} (hx : x < 18446744073709551616) (hb : 0 ≤ b ∧ b ≤ 255) : IntKind.u64.wrap (bits .xor .u64 (x : Int) b * 1099511628211) = ((dig1 x b : Nat) : Int) := by
  obtain ⟨c, rfl⟩ := Int.eq_ofNat_of_zero_le hb.1
  rw [xor64 hx (by omega), IntKind.wrap_u64]
  unfold dig1
  rw [Int.natCast_emod, Int.natCast_mul]
  rfl

end Go.Proofs.Ytfhgbddeclldnaa.Fi

namespace Go.Proofs.Ytfhgbddeclldnaa.Fi
open Go.RowKit
set_option maxRecDepth 100000
set_option linter.unusedSimpArgs false
set_option linter.unusedVariables false

/-- the cells of a table -/
def tcs (f : Nat → Nat) : List Value := (List.range 256).map fun i => .int .u32 (f i)
theorem tcs_length (f : Nat → Nat) : (tcs f).length = 256 := by simp [tcs]
theorem tcs_get (f : Nat → Nat) (i : Nat) (h : i < 256) : (tcs f)[i]? = some (.int .u32 (f i)) := by simp [tcs, h]
theorem tcs_one (f : Nat → Nat) : (tcs f).toArray.all (·.oneCell') = true := by simp [tcs, Value.oneCell']
theorem tcs_set (f : Nat → Nat) (j x : Nat) (h : j < 256) : (tcs f).set j (.int .u32 x) = tcs fun i => if i = j then x else f i := by
  apply List.ext_getElem?
  intro i
  rw [List.getElem?_set]
  by_cases hi : i < 256
  · rw [tcs_get _ i hi, tcs_get _ i hi]
    by_cases e : j = i
    · subst e; simp [tcs_length, h]
    · simp [e, Ne.symm e]
  · have h1 : (tcs f)[i]? = none := List.getElem?_eq_none (by rw [tcs_length]; omega)
    rw [h1, List.getElem?_eq_none (by rw [tcs_length]; omega), if_neg (by omega)]
def upto (j i : Nat) : Nat := if i < j then ent i else 0
theorem upto_step (j : Nat) : (fun i => if i = j then ent j else upto j i) = upto (j + 1) := by
  funext i
  unfold upto
  by_cases h : i = j
  · subst h; simp
  · by_cases h2 : i < j
    · simp [h, h2, show i < j + 1 by omega]
    · simp [h, h2, show ¬ i < j + 1 by omega]
theorem upto_zero : upto 0 = fun _ => 0 := by funext i; simp [upto]
theorem tcs_upto : tcs (upto 256) = tcs ent := by
  unfold tcs
  apply List.map_congr_left
  intro i hi
  rw [List.mem_range] at hi
  simp [upto, hi]
/-- guards: the next operation is a load, a store of a whole table -/
theorem load24_here {P : Program} {w : World} {ops : Array Oper} {rest : List Oper} {a : Act} {Q : Exit → Act → World → Prop} {dst : Option Nat} {x : Operand} {type : TypeId} {pos : String} {after : Array Edge} {guard : Option (Nat × Bool)}
    (h : wpList P ops Q (⟨dst, .load 122 x, type, pos, after, guard⟩ :: rest) a w) : wpList P ops Q (⟨dst, .load 122 x, type, pos, after, guard⟩ :: rest) a w := h
theorem store24_here {P : Program} {w : World} {ops : Array Oper} {rest : List Oper} {a : Act} {Q : Exit → Act → World → Prop} {dst : Option Nat} {x y : Operand} {type : TypeId} {pos : String} {after : Array Edge} {guard : Option (Nat × Bool)}
    (h : wpList P ops Q (⟨dst, .store 122 x y, type, pos, after, guard⟩ :: rest) a w) : wpList P ops Q (⟨dst, .store 122 x y, type, pos, after, guard⟩ :: rest) a w := h
theorem zero24 : (∀ w, (zeroValue 122).run Try.prog w = .ok (.agg (tcs (upto 0)).toArray) w) ∧ (Try.prog.info? 122).map (·.size) = some 256 := by
  rw [upto_zero]
  exact zero_of_info (by kernel_rfl)

set_option maxHeartbeats 400000 in
theorem make_any (w : World) : Calls Try.prog 78 #[] w fun e w' => e = .returned (.agg (tcs ent).toArray) ∧ w.grownBy w' none := by
  obtain ⟨hz, hs⟩ := zero24
  go_enter Try.func78, Try.ntmps78
  go_wp2
  have h1 : SBlk ((w.alloc (.cells (tcs (upto 0)).toArray 122)).alloc (.cells (tcs (upto 0)).toArray 122)) (w.heap.size + 1) (tcs (upto 0)) 122 := heap_alloc2_new w _ _
  have h2 : SBlk ((w.alloc (.cells (tcs (upto 0)).toArray 122)).alloc (.cells (tcs (upto 0)).toArray 122)) w.heap.size (tcs (upto 0)) 122 := heap_alloc2_old w _ _
  have hg : w.grownBy ((w.alloc (.cells (tcs (upto 0)).toArray 122)).alloc (.cells (tcs (upto 0)).toArray 122)) none := grown_trans (World.grownBy_alloc _ _ _) (World.grownBy_alloc _ _ _)
  go_loopw [2, 3] (fun _ i wr => ∃ j : Nat, j ≤ 256 ∧ i = .int .i64 j ∧ SBlk wr (w.heap.size + 1) (tcs (upto j)) 122 ∧ SBlk wr w.heap.size (tcs (upto 0)) 122 ∧ w.grownBy wr none) (fun _ i _ => 256 - (intOf i).toNat)
  case atStart => exact ⟨0, Nat.zero_le _, rfl, h1, h2, hg⟩
  case round =>
    clear h1 h2 hg hz
    obtain ⟨j, hj, rfl, h1, h2, hg⟩ := hrel
    by_cases hlt : j < 256
    · have hE := fun w => entry_any j w (by omega)
      have hc := h1.cell j
      rw [tcs_get _ j hlt] at hc
      have hf := h1.frozen j
      have H1 : Hid (SBlk wr (w.heap.size + 1) (tcs (upto j)) 122) := h1
      have H2 : Hid (SBlk wr w.heap.size (tcs (upto 0)) 122) := h2
      have hj1 : (j : Int) < 256 := by omega
      generalize upto j j = y at hc
      clear h1 h2 hs
      go_wp2_with (go_at_call 81; refine (hE _).mono ?_; rintro e w' ⟨rfl, rfl⟩)
      go_roundw
      case rel =>
        refine ⟨j + 1, by omega, by go_num, ?_, SBlk.grown H2.out (grown_set _ _ _ _) (by simp), grown_new hg (grown_set _ _ _ _) (by omega)⟩
        have := SBlk.set H1.out j (.int .u32 (ent j))
        rw [tcs_set _ _ _ hlt, upto_step] at this
        exact this
      case measure => simp [intOf]; omega
    · have : j = 256 := by omega
      subst this
      rw [tcs_upto] at h1
      have hi : (Try.prog.info? 122).map (·.size) = some (tcs ent).toArray.size := by simp [hs, tcs_length]
      have ho : (tcs (upto 0)).toArray.size = (tcs ent).toArray.size := by simp [tcs_length]
      have h3 := setRow_heap wr w.heap.size (tcs (upto 0)).toArray (tcs ent).toArray 122 (0, 0) h2
      have hg2 : w.grownBy (wr.setRow w.heap.size (tcs ent).toArray) none := ⟨hg.os, hg.tape, hg.output, by simpa using hg.size, fun k hk _ => (setRow_other wr w.heap.size k _ (by omega)).trans (hg.block k hk (by simp))⟩
      have H1 : Hid (wr.heap[w.heap.size + 1]? = some (.cells (tcs ent).toArray 122 (0, 0))) := h1
      have H2 : Hid (wr.heap[w.heap.size]? = some (.cells (tcs (upto 0)).toArray 122 (0, 0))) := h2
      have HI : Hid ((Try.prog.info? 122).map (·.size) = some (tcs ent).toArray.size) := hi
      have HO : Hid ((tcs (upto 0)).toArray.size = (tcs ent).toArray.size) := ho
      have H3 : Hid ((wr.setRow w.heap.size (tcs ent).toArray).heap[w.heap.size]? = some (.cells (tcs ent).toArray 122 (0, 0))) := h3
      have HG : Hid (w.grownBy (wr.setRow w.heap.size (tcs ent).toArray) none) := hg2
      clear h1 h2 hs hi ho h3 hg2 hg
      go_wp2_with (first | (with_reducible refine load24_here ?_; refine wpList_load_row rfl 122 _ rfl (w.heap.size + 1) rfl 122 _ (0, 0) _ H1.out Try.underlying122 rfl HI.out ?_) | (with_reducible refine store24_here ?_; refine wpList_store_row rfl 122 _ _ rfl w.heap.size _ rfl rfl 122 _ H2.out HI.out HO.out (tcs_one _) ?_))
      exact bodyPost_ret (v := .agg (tcs ent).toArray) (results_cell_row rfl _ _ w.heap.size 122 _ (0, 0) _ rfl H3.out Try.underlying122 rfl HI.out) rfl ⟨rfl, HG.out⟩
end Go.Proofs.Ytfhgbddeclldnaa.Fi

namespace Go.Proofs.Ytfhgbddeclldnaa.Fi
open Go.RowKit
set_option maxRecDepth 100000
set_option linter.unusedSimpArgs false
set_option linter.unusedVariables false

theorem ix8_eq {x : Nat} {b : Int} (hb : 0 ≤ b ∧ b ≤ 255) : bits .xor .u8 ((x : Int) % 256) b = ((x % 256 ^^^ b.toNat : Nat) : Int) := by
  obtain ⟨c, rfl⟩ := Int.eq_ofNat_of_zero_le hb.1
  exact xor8 (a := x % 256) (b := c) (by omega) (by omega)
theorem nat_not32 {c : Nat} (h : c < 4294967296) : 4294967295 ^^^ c = 4294967295 - c := by
  apply Nat.eq_of_testBit_eq
  intro i
  have e : 4294967295 - c = 2 ^ 32 - (c + 1) := by omega
  rw [e, Nat.testBit_xor, Nat.testBit_two_pow_sub_succ (by omega), show (4294967295 : Nat) = 2 ^ 32 - 1 from rfl, Nat.testBit_two_pow_sub_one]
  by_cases hi : i < 32
  · simp [hi]
  · have : c.testBit i = false := Nat.testBit_lt_two_pow (Nat.lt_of_lt_of_le h (Nat.pow_le_pow_right (n := 2) (by decide) (Nat.le_of_not_lt hi)))
    simp [hi, this]
theorem not32 {c : Nat} (h : c < 4294967296) : bits .xor .u32 IntKind.u32.max (c : Int) = ((4294967295 - c : Nat) : Int) := by
  have := xor32 (a := 4294967295) (b := c) (by decide) h
  rw [nat_not32 h] at this
  exact this

set_option maxHeartbeats 400000 in
theorem more_tab (T : Nat → Nat) (hT : Tab T) (q c : Nat) (a : Option Addr) (len cap : Nat) (bs : List Int) (w : World) (B : SBlk w q (tcs T) 122) (R : Row w a len bs) (hc : c < 4294967296) :
    Calls Try.prog 62 #[.pointer (some ⟨q, 0, none⟩), .int .u32 c, .slice a len cap] w fun e w' => e = .returned (.int .u32 (crc T c bs)) ∧ w = w' := by
  have hle := R.le
  unfold maxLen at hle
  unfold crc
  have e1 := not32 hc
  have hd : 4294967295 - c < 4294967296 := by omega
  generalize 4294967295 - c = d at e1 hd
  have HB : Hid (SBlk w q (tcs T) 122) := B
  clear B
  go_enter Try.func62, Try.ntmps62
  go_wp2
  clear e1
  go_loop [1, 9, 17] (fun v _ i => ∃ j : Nat, j ≤ len ∧ i = .int .i64 j ∧ v = .int .u32 (upd T d (bs.take j))) (fun _ _ i => len - (intOf i).toNat)
  case atStart => exact ⟨0, Nat.zero_le _, rfl, rfl⟩
  case round =>
    obtain ⟨j, hj, rfl, rfl⟩ := hrel
    by_cases hlt : j < len
    · obtain ⟨b, off, rfl, hc⟩ := R.cells (by omega)
      have hcell := hc j hlt
      have hr := R.byt.getD j
      have hs := upd_snoc T d bs j (by rw [R.len_eq]; exact hlt)
      have hx := upd_lt hT (R.byt.take j) hd
      generalize bs.getD j 0 = x at hcell hr hs
      generalize upd T d (bs.take j) = y at hs hx
      clear hc
      have hi := ix8_eq (x := y) hr
      have hk := ix_lt (c := y) hr
      have hS := stp_eq hT hr hx
      generalize y % 256 ^^^ x.toNat = k at hi hk hS
      have ht := HB.out.cell k
      rw [tcs_get _ k hk] at ht
      have hw : IntKind.u8.wrap (y : Int) = (y : Int) % 256 := by rw [IntKind.wrap_u8]
      go_wp2
      go_round
      case rel => exact ⟨j + 1, by omega, by go_num, by rw [hs, ← hS]⟩
      case measure => simp [intOf]; omega
    · have hx := upd_lt hT R.byt hd
      have : j = len := by omega
      subst this
      rw [List.take_of_length_le (Nat.le_of_eq R.len_eq)]
      generalize hy : upd T d bs = y at hx
      have e2 := not32 hx
      go_wp2
      go_ret
      exact ⟨rfl, rfl⟩
end Go.Proofs.Ytfhgbddeclldnaa.Fi

namespace Go.Proofs.Ytfhgbddeclldnaa.Fi
open Go.RowKit
set_option maxRecDepth 100000
set_option linter.unusedSimpArgs false
set_option linter.unusedVariables false

set_option maxHeartbeats 400000 in
theorem more_nil (c : Nat) (a : Option Addr) (len cap : Nat) (bs : List Int) (w : World) (R : Row w a len bs) (hc : c < 4294967296) :
    Calls Try.prog 62 #[.pointer none, .int .u32 c, .slice a len cap] w fun e w' => e = .returned (.int .u32 (crc ent c bs)) ∧ w.grownBy w' none := by
  have hle := R.le
  unfold maxLen at hle
  unfold crc
  have e1 := not32 hc
  have hd : 4294967295 - c < 4294967296 := by omega
  generalize 4294967295 - c = d at e1 hd
  obtain ⟨hz, hs⟩ := zero24
  have HI : Hid ((Try.prog.info? 122).map (·.size) = some (tcs ent).toArray.size) := by show _ = _; simp [hs, tcs_length]
  clear hs
  have hM := make_any w
  go_enter Try.func62, Try.ntmps62
  go_wp2_with (first | (go_at_call 78; refine hM.mono ?_; rintro e w1 ⟨rfl, hg1⟩; have HG1 : Hid (w.grownBy w1 none) := hg1; clear hg1) | (with_reducible refine store24_here ?_; refine wpList_store_row rfl 122 _ _ rfl w1.heap.size _ rfl rfl 122 _ (heap_alloc_new w1 _) HI.out (by simp [tcs_length]) (tcs_one _) ?_))
  rw [World.setRow_alloc_new]
  have B : SBlk (w1.alloc (.cells (tcs ent).toArray 122)) w1.heap.size (tcs ent) 122 := alloc_sblk _ _ _
  have G : w.grownBy (w1.alloc (.cells (tcs ent).toArray 122)) none := grown_trans HG1.out (World.grownBy_alloc _ _ _)
  have R2 := R.grown G
  have hle := R.le
  unfold maxLen at hle
  clear R hz hM HI HG1
  generalize w1.alloc (.cells (tcs ent).toArray 122) = w2 at B G R2
  generalize w1.heap.size = q at B
  generalize Value.agg (tcs ent).toArray = tv
  have HB : Hid (SBlk w2 q (tcs ent) 122) := B
  have HG : Hid (w.grownBy w2 none) := G
  clear B G e1
  go_loop [1, 9, 17] (fun v _ i => ∃ j : Nat, j ≤ len ∧ i = .int .i64 j ∧ v = .int .u32 (upd ent d (bs.take j))) (fun _ _ i => len - (intOf i).toNat)
  case atStart => exact ⟨0, Nat.zero_le _, rfl, rfl⟩
  case round =>
    obtain ⟨j, hj, rfl, rfl⟩ := hrel
    by_cases hlt : j < len
    · obtain ⟨b, off, rfl, hc⟩ := R2.cells (by omega)
      have hcell := hc j hlt
      have hr := R2.byt.getD j
      have hs := upd_snoc ent d bs j (by rw [R2.len_eq]; exact hlt)
      have hx := upd_lt ent_tab (R2.byt.take j) hd
      generalize bs.getD j 0 = x at hcell hr hs
      generalize upd ent d (bs.take j) = y at hs hx
      clear hc
      have hi := ix8_eq (x := y) hr
      have hk := ix_lt (c := y) hr
      have hS := stp_eq ent_tab hr hx
      generalize y % 256 ^^^ x.toNat = k at hi hk hS
      have ht := HB.out.cell k
      rw [tcs_get _ k hk] at ht
      have hw : IntKind.u8.wrap (y : Int) = (y : Int) % 256 := by rw [IntKind.wrap_u8]
      go_wp2
      go_round
      case rel => exact ⟨j + 1, by omega, by go_num, by rw [hs, ← hS]⟩
      case measure => simp [intOf]; omega
    · have hx := upd_lt ent_tab R2.byt hd
      have : j = len := by omega
      subst this
      rw [List.take_of_length_le (Nat.le_of_eq R2.len_eq)]
      generalize hy : upd ent d bs = y at hx
      have e2 := not32 hx
      go_wp2
      go_ret
      exact ⟨rfl, HG.out⟩

theorem crc_tab (T : Nat → Nat) (hT : Tab T) (q : Nat) (a : Option Addr) (len cap : Nat) (bs : List Int) (w : World) (B : SBlk w q (tcs T) 122) (R : Row w a len bs) :
    Calls Try.prog 48 #[.pointer (some ⟨q, 0, none⟩), .slice a len cap] w fun e w' => e = .returned (.int .u32 (crc T 0 bs)) ∧ w = w' := by
  have h := more_tab T hT q 0 a len cap bs w B R (by decide)
  clear B
  go_enter Try.func48, Try.ntmps48
  go_wp2_with (go_at_call 62; refine h.mono ?_; rintro e w' ⟨rfl, rfl⟩)
  go_ret
  exact ⟨rfl, rfl⟩
theorem crc_nil (a : Option Addr) (len cap : Nat) (bs : List Int) (w : World) (R : Row w a len bs) :
    Calls Try.prog 48 #[.pointer none, .slice a len cap] w fun e w' => e = .returned (.int .u32 (crc ent 0 bs)) ∧ w.grownBy w' none := by
  have h := more_nil 0 a len cap bs w R (by decide)
  go_enter Try.func48, Try.ntmps48
  go_wp2_with (go_at_call 62; refine h.mono ?_; rintro e w' ⟨rfl, hg⟩)
  go_ret
  exact ⟨rfl, by assumption⟩

end Go.Proofs.Ytfhgbddeclldnaa.Fi
