/- Contracts of what a writer takes. -/
import Derived.Test.YtpahnkodhonlgaaHF
namespace Go.Proofs.Ytpahnkodhonlgaa
open Go.RowKit
set_option maxRecDepth 100000
set_option linter.unusedSimpArgs false
set_option linter.unusedVariables false

theorem Chg.below {w w' : World} {p : Nat} {v v' : Value} {n : Nat} {xs : List Value} (h : Chg w w' p v v') (ho : w.ownsRow (p + 1) 5 1 v n xs) (hp : p ≤ w.heap.size) : Below p w w' :=
  ⟨h.os, h.tape, h.output, h.size, fun k hk => h.block k (by omega) (by omega) (fun e => by have := (ho.lt k e.symm).1; omega)⟩
theorem Row.belowB {w w' : World} {a : Option Addr} {len B : Nat} {bs : List Int} (h : Row w a len bs) (hb : Below B w w') (hlt : ∀ b off, a = some ⟨b, off, none⟩ → 0 < len → b < B) : Row w' a len bs := by
  refine ⟨h.len_eq, h.le, h.byt, fun h0 => ?_⟩
  obtain ⟨b, off, e, hc⟩ := h.cells h0
  exact ⟨b, off, e, fun i hi => by rw [hb.cell (p := ⟨b, off + i, none⟩) (hlt b off e h0)]; exact hc i hi⟩

theorem Grew.cur {w w1 : World} {p n : Nat} {v v' : Value} {bs : List Int} {most : Int} {a : Option Addr} (G : Grew w w1 p v bs most n v' a) (hn : 0 < n) :
    ∃ g c cur, v' = .slice (some ⟨g, 0, none⟩) (bs.length + n) c ∧ a = some ⟨g, bs.length, none⟩ ∧ Blk w1 g cur ∧ cur.length = c ∧ bs.length + n ≤ c ∧ cur.take (bs.length + n) = bv bs ++ zs n ∧ p + 1 ≤ g ∧ c ≤ maxLen := by
  obtain ⟨g, c, hv, ha⟩ := G.at_ hn
  rcases G.own.2 with ⟨h1, h2⟩ | ⟨g', cap, cur, e, hb, hg, hle, hm, hs, ht⟩
  · omega
  · rw [hv] at e
    injection e with e1 e2 e3
    injection e1 with e1
    injection e1 with e1
    subst e1
    subst e3
    refine ⟨g, c, cur.toList, hv, ha, ?_, by simp [hs], hle, by simpa using ht, hb, hm⟩
    unfold Blk
    simpa using hg

theorem take_splice {α : Type} (cur xs ys : List α) (k n : Nat) (h : cur.take (k + n) = xs ++ ys) (hx : xs.length = k) (hy : ys.length = n) (st : List α) (hs : st.length = n) : (splice cur k st).take (k + n) = xs ++ st := by
  unfold splice
  have e1 : cur.take k = xs := by
    have := congrArg (List.take k) h
    rw [List.take_take, Nat.min_eq_left (by omega), List.take_append_of_le_length (by omega)] at this
    rw [this, List.take_of_length_le (by omega)]
  rw [e1, ← List.append_assoc, List.take_append_of_le_length (by simp [hx, hs]), List.take_of_length_le (by simp [hx, hs])]

/-- what was grown, written over -/
theorem wrote {w w1 w2 : World} {p n g c : Nat} {v v' : Value} {bs : List Int} {most : Int} {a : Option Addr} {cur : List Value} (hI : WInv w p v bs most 0) (G : Grew w w1 p v bs most n v' a)
    (hv : v' = .slice (some ⟨g, 0, none⟩) (bs.length + n) c) (hcl : cur.length = c) (hle : bs.length + n ≤ c) (hm : c ≤ maxLen) (ht : cur.take (bs.length + n) = bv bs ++ zs n) (hpg : p + 1 ≤ g)
    (st : List Int) (hst : st.length = n) (hsb : Byt st) (hB : Blk w2 g (splice cur bs.length (bv st))) (hg : w1.grownBy w2 (some g)) : WInv w2 p v' (bs ++ st) most 0 ∧ Chg w w2 p v v' := by
  have hob : v'.ownBlock = some g := by rw [hv]; rfl
  refine ⟨⟨G.blk.grown hg (by simp; omega), ⟨by simp [bv_length], .inr ⟨g, c, (splice cur bs.length (bv st)).toArray, ?_, hpg, hB, ?_, hm, ?_, ?_⟩⟩, hI.byt.append hsb⟩, G.chg.trans (Chg.of_own (by rw [hob]; exact hg) (Or.inl rfl))⟩
  · rw [hv, List.length_append, hst]
  · rw [List.length_append, hst]; exact hle
  · simp only [List.size_toArray]; rw [length_splice _ _ _ (by rw [bv_length, hst, hcl]; exact hle)]; omega
  · have := take_splice cur (bv bs) (zs n) bs.length n ht (bv_length _) (zs_length _) (bv st) (by rw [bv_length, hst])
    simp only [List.length_append, hst, Nat.mul_one, bv_append]
    exact this
theorem wrote0 {w w1 : World} {p : Nat} {v v' : Value} {bs : List Int} {most : Int} {a : Option Addr} (hI : WInv w p v bs most 0) (G : Grew w w1 p v bs most 0 v' a) : WInv w1 p v' bs most 0 ∧ Chg w w1 p v v' :=
  ⟨⟨G.blk, by have := G.own; simpa [zs] using this, hI.byt⟩, G.chg⟩

theorem wnum_stop (p : Nat) (x y : Value) (e n m : Int) (w : World) (hB : SBlk w p [x, y, .int .i64 e] 95) (he : (e != 0) = true) :
    Calls Try.prog 36 #[.pointer (some ⟨p, 0, none⟩), .int .u64 n, .int .i64 m] w fun r w' => r = .returned (.tuple #[]) ∧ w = w' := by
  go_enter Try.func36, Try.ntmps36
  go_wp2_with (go_at_call 55; refine (wstop_any p x y e w hB).mono ?_; rintro e w' ⟨rfl, rfl⟩)
  exact bodyPost_ret (results_none rfl _ _ _) rfl ⟨rfl, rfl⟩
theorem wbytes_stop (p : Nat) (x y v : Value) (e : Int) (w : World) (hB : SBlk w p [x, y, .int .i64 e] 95) (he : (e != 0) = true) :
    Calls Try.prog 45 #[.pointer (some ⟨p, 0, none⟩), v] w fun r w' => r = .returned (.tuple #[]) ∧ w = w' := by
  go_enter Try.func45, Try.ntmps45
  go_wp2_with (go_at_call 55; refine (wstop_any p x y e w hB).mono ?_; rintro e w' ⟨rfl, rfl⟩)
  exact bodyPost_ret (results_none rfl _ _ _) rfl ⟨rfl, rfl⟩
theorem wnum_bad (p : Nat) (v : Value) (bs : List Int) (most n m : Int) (w : World) (hI : WInv w p v bs most 0) (hc : (ckE n m != 0) = true) :
    Calls Try.prog 36 #[.pointer (some ⟨p, 0, none⟩), .int .u64 n, .int .i64 m] w fun r w' => r = .returned (.tuple #[]) ∧ WInv w' p v bs most (ckE n m) ∧ Chg w w' p v v := by
  have c2 := hI.blk.c2
  have f2 := hI.blk.frozen 2
  have d2 := (hI.setE (ckE n m)).blk.c2
  go_enter Try.func36, Try.ntmps36
  go_wp2_with (first | (go_at_call 55; refine (wstop_any p _ _ 0 w hI.blk).mono ?_; rintro e w' ⟨rfl, rfl⟩) | (go_at_call 56; refine (hcheck_any _ _ _).mono ?_; rintro e w' ⟨rfl, rfl⟩))
  exact bodyPost_ret (results_none rfl _ _ _) rfl ⟨rfl, hI.setE _, Chg.of_p (grown_set _ _ _ _)⟩

theorem wnum_full (p : Nat) (v : Value) (bs : List Int) (most n : Int) (m : Nat) (w : World) (hI : WInv w p v bs most 0) (hc : ckE n m = 0) (h0 : 0 ≤ most) (h1 : most ≤ 9223372036854775807) (hl : bs.length ≤ 140737488355328) (hn : most - bs.length < m) :
    Calls Try.prog 36 #[.pointer (some ⟨p, 0, none⟩), .int .u64 n, .int .i64 m] w fun r w' => r = .returned (.tuple #[]) ∧ WInv w' p v bs most 2 ∧ Chg w w' p v v := by
  have c2 := hI.blk.c2
  have f2 := hI.blk.frozen 2
  have hC := hcheck_any n m w
  rw [hc] at hC
  have hI0 := hI.setE 0
  have d2 := hI0.blk.c2
  have hG := grow_no p v bs most m _ hI0 h0 h1 hl hn
  go_enter Try.func36, Try.ntmps36
  go_wp2_with (first | (go_at_call 55; refine (wstop_any p _ _ 0 w hI.blk).mono ?_; rintro e w' ⟨rfl, rfl⟩) | (go_at_call 56; refine hC.mono ?_; rintro e w' ⟨rfl, rfl⟩) | (go_at_call 58; refine hG.mono ?_; rintro e w1 ⟨rfl, hI1, hg1⟩) | (go_at_call 57; refine (lay_none _ _ _ _).mono ?_; rintro e w' ⟨rfl, rfl⟩))
  exact bodyPost_end (results_none rfl _ _ _) rfl ⟨rfl, by assumption, (Chg.of_p (grown_set w p 2 (.int .i64 0))).trans (by assumption)⟩

set_option maxHeartbeats 400000 in
theorem wnum_ok (p : Nat) (v : Value) (bs : List Int) (most n : Int) (m : Nat) (w : World) (hI : WInv w p v bs most 0) (hc : ckE n m = 0) (h0 : 0 ≤ most) (h1 : most ≤ 9223372036854775807) (hl : bs.length + m ≤ 140737488355328) (hn : (m : Int) ≤ most - bs.length) :
    Calls Try.prog 36 #[.pointer (some ⟨p, 0, none⟩), .int .u64 n, .int .i64 m] w fun r w' => ∃ v', r = .returned (.tuple #[]) ∧ WInv w' p v' (bs ++ sto n m) most 0 ∧ Chg w w' p v v' := by
  obtain ⟨hW, _⟩ := ckE_ok hc
  have hm := isW_pos hW
  have c2 := hI.blk.c2
  have f2 := hI.blk.frozen 2
  have hC := hcheck_any n m w
  rw [hc] at hC
  have hI0 := hI.setE 0
  have d2 := hI0.blk.c2
  have hG := grow_ok p v bs most m _ hI0 h0 h1 hl hn
  go_enter Try.func36, Try.ntmps36
  go_wp2_with (first | (go_at_call 55; refine (wstop_any p _ _ 0 w hI.blk).mono ?_; rintro e w' ⟨rfl, rfl⟩) | (go_at_call 56; refine hC.mono ?_; rintro e w' ⟨rfl, rfl⟩) | (go_at_call 58; refine hG.mono ?_; rintro e w1 ⟨v1, a1, k1, rfl, hk1, G⟩; obtain ⟨g, c, cur, hv, rfl, hB, hcl, hle, ht, hpg, hmx⟩ := G.cur (by omega); have HV := (show Hid _ from hv); have HT := (show Hid _ from ht); clear hv ht))
  refine (hlay_any g bs.length m k1 n cur w1 hB (by omega) (by omega)).mono ?_
  rintro e w2 ⟨rfl, hb2, hg2, hs2⟩
  clear hs2
  go_wp2
  obtain ⟨hW2, hC2⟩ := wrote hI0 G HV.out hcl hle hmx HT.out hpg (sto n m) (sto_length _ _) (sto_byt _ _) hb2 hg2
  exact bodyPost_end (results_none rfl _ _ _) rfl ⟨_, rfl, hW2, (Chg.of_p (grown_set w p 2 (.int .i64 0))).trans hC2⟩

theorem wbytes_full (p : Nat) (v : Value) (bs : List Int) (most : Int) (a : Option Addr) (n c : Nat) (w : World) (hI : WInv w p v bs most 0) (h0 : 0 ≤ most) (h1 : most ≤ 9223372036854775807) (hl : bs.length ≤ 140737488355328) (hn : most - bs.length < n) :
    Calls Try.prog 45 #[.pointer (some ⟨p, 0, none⟩), .slice a n c] w fun r w' => r = .returned (.tuple #[]) ∧ WInv w' p v bs most 2 ∧ Chg w w' p v v := by
  have hG := grow_no p v bs most n _ hI h0 h1 hl hn
  have hmin : Nat.min n 0 = 0 := Nat.min_zero n
  go_enter Try.func45, Try.ntmps45
  go_wp2_with (first | (go_at_call 55; refine (wstop_any p _ _ 0 w hI.blk).mono ?_; rintro e w' ⟨rfl, rfl⟩) | (go_at_call 58; refine hG.mono ?_; rintro e w1 ⟨rfl, hI1, hg1⟩) | ((with_reducible refine copy_here ?_); refine wpList_copy_nothing rfl _ _ 29 29 rfl 5 Try.underlying29 Try.size5H _ _ _ _ _ _ rfl rfl hmin ?_))
  exact bodyPost_end (results_none rfl _ _ _) rfl ⟨rfl, by assumption, by assumption⟩

set_option maxHeartbeats 400000 in
theorem wbytes_ok (p : Nat) (v : Value) (bs : List Int) (most : Int) (a : Option Addr) (n c : Nat) (xs : List Int) (w : World) (hI : WInv w p v bs most 0) (R : Row w a n xs) (hlt : ∀ b off, a = some ⟨b, off, none⟩ → 0 < n → b < p) (h0 : 0 ≤ most) (h1 : most ≤ 9223372036854775807) (hl : bs.length + n ≤ 140737488355328) (hn : (n : Int) ≤ most - bs.length) :
    Calls Try.prog 45 #[.pointer (some ⟨p, 0, none⟩), .slice a n c] w fun r w' => ∃ v', r = .returned (.tuple #[]) ∧ WInv w' p v' (bs ++ xs) most 0 ∧ Chg w w' p v v' := by
  have hG := grow_ok p v bs most n _ hI h0 h1 hl hn
  have hxl := R.len_eq
  by_cases hz : n = 0
  · subst hz
    obtain rfl : xs = [] := List.eq_nil_of_length_eq_zero hxl
    have hmin : Nat.min 0 0 = 0 := rfl
    rw [List.append_nil]
    go_enter Try.func45, Try.ntmps45
    go_wp2_with (first | (go_at_call 55; refine (wstop_any p _ _ 0 w hI.blk).mono ?_; rintro e w' ⟨rfl, rfl⟩) | (go_at_call 58; refine hG.mono ?_; rintro e w1 ⟨v1, a1, k1, rfl, hk1, G⟩) | ((with_reducible refine copy_here ?_); refine wpList_copy_nothing rfl _ _ 29 29 rfl 5 Try.underlying29 Try.size5H _ _ _ _ _ _ rfl rfl hmin ?_))
    obtain ⟨hW2, hC2⟩ := wrote0 hI G
    exact bodyPost_end (results_none rfl _ _ _) rfl ⟨rfl, _, hW2, hC2⟩
  · have hp := hI.blk.lt
    go_enter Try.func45, Try.ntmps45
    go_wp2_with (first | (go_at_call 55; refine (wstop_any p _ _ 0 w hI.blk).mono ?_; rintro e w' ⟨rfl, rfl⟩) | (go_at_call 58; refine hG.mono ?_; rintro e w1 ⟨v1, a1, k1, rfl, hk1, G⟩; obtain ⟨g, cc, cur, hv, rfl, hB, hcl, hle, ht, hpg, hmx⟩ := G.cur (by omega); have HV := (show Hid _ from hv); have HT := (show Hid _ from ht); clear hv ht; have R1 := R.belowB (G.chg.below hI.own (by omega)) hlt) | ((with_reducible refine copy_here ?_); refine wpList_copy8 rfl _ _ 29 29 rfl Try.underlying29 Try.size5H _ _ _ _ _ _ rfl rfl g bs.length cur hB (bv xs) (by rw [bv_length, hxl]; exact (Nat.min_self _).symm) (fun h0 => ⟨rfl, R1.src h0⟩) (by rw [bv_length, hxl]; omega) (bv_one _) ?_; intro w2 hb2 hg2 hs2))
    obtain ⟨hW2, hC2⟩ := wrote hI G HV.out hcl hle hmx HT.out hpg xs hxl R.byt hb2 hg2
    exact bodyPost_end (results_none rfl _ _ _) rfl ⟨rfl, _, hW2, hC2⟩

theorem splice_join {α : Type} (cur x y : List α) (k : Nat) (h : k + x.length + y.length ≤ cur.length) : splice (splice cur k x) (k + x.length) y = splice cur k (x ++ y) := by
  unfold splice
  have e1 : (cur.take k ++ (x ++ cur.drop (k + x.length))).take (k + x.length) = cur.take k ++ x := by
    rw [← List.append_assoc, List.take_append_of_le_length (by simp; omega), List.take_of_length_le (by simp; omega)]
  have e2 : (cur.take k ++ (x ++ cur.drop (k + x.length))).drop (k + x.length + y.length) = cur.drop (k + (x ++ y).length) := by
    rw [← List.append_assoc, List.drop_append, List.drop_eq_nil_of_le (by simp; omega), List.nil_append, List.drop_drop]
    congr 1
    simp
    omega
  rw [e1, e2]
  simp

theorem new_winv (w : World) (m : Int) : WInv (w.alloc (.cells #[.slice none 0 0, .int .i64 m, .int .i64 0] 95)) w.heap.size (.slice none 0 0) [] m 0 :=
  ⟨alloc_sblk w [.slice none 0 0, .int .i64 m, .int .i64 0] 95, World.ownsRow_nil _ _ _ _, fun n hn => by simp at hn⟩

theorem newwriter_any (most : Int) (w : World) :
    Calls Try.prog 35 #[.int .i64 most] w fun r w' => r = .returned (.pointer (some ⟨w.heap.size, 0, none⟩)) ∧ WInv w' w.heap.size (.slice none 0 0) [] (if most < 0 then 0 else most) 0 ∧ w.grownBy w' none := by
  by_cases h : most < 0
  · rw [if_pos h]
    go_enter Try.func35, Try.ntmps35
    go_wp2
    go_ret
    exact ⟨rfl, new_winv w 0, World.grownBy_alloc w _ none⟩
  · rw [if_neg h]
    go_enter Try.func35, Try.ntmps35
    go_wp2
    go_ret
    exact ⟨rfl, new_winv w most, World.grownBy_alloc w _ none⟩
end Go.Proofs.Ytpahnkodhonlgaa
