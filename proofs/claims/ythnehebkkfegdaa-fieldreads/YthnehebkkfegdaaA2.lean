/- Contracts of the functions that make memory, and of the law that holds the examples of the page. -/
import Derived.Test.YthnehebkkfegdaaA1
import Derived.Test.YthnehebkkfegdaaQ
namespace Go.Proofs.Ythnehebkkfegdaa
open Go.RowKit

def ckE (n width : Int) : Int := if isW width then (if lg width < n then 9 else 0) else 1

theorem check_any (n width : Int) (w : World) : Calls Try.prog 38 #[.int .u64 n, .int .i64 width] w fun e w' => e = .returned (.int .i64 (ckE n width)) ∧ w = w' := by
  by_cases hW : isW width = true
  · have hz := lg_ne hW
    by_cases hn : lg width < n
    · go_enter Try.func38, Try.ntmps38
      go_wp2_with (first | (go_at_call 35; refine (largest_any _ _).mono ?_; rintro e w' ⟨rfl, rfl⟩))
      go_ret
      exact ⟨by simp [ckE, hW, hn], rfl⟩
    · go_enter Try.func38, Try.ntmps38
      go_wp2_with (first | (go_at_call 35; refine (largest_any _ _).mono ?_; rintro e w' ⟨rfl, rfl⟩))
      go_ret
      exact ⟨by simp [ckE, hW, hn], rfl⟩
  · have hW' : isW width = false := by simpa using hW
    have hz : lg width = 0 := lg_eq hW'
    go_enter Try.func38, Try.ntmps38
    go_wp2_with (first | (go_at_call 35; refine (largest_any _ _).mono ?_; rintro e w' ⟨rfl, rfl⟩))
    go_ret
    exact ⟨by simp [ckE, hW'], rfl⟩

set_option maxHeartbeats 400000 in
theorem lay_any (g o len cap : Nat) (n : Int) (cur : List Value) (w : World) (hB : Blk w g cur) (hl : len ≤ 8) (hf : o + len ≤ cur.length) :
    Calls Try.prog 39 #[.slice (some ⟨g, o, none⟩) len cap, .int .u64 n] w fun e w' => e = .returned (.tuple #[]) ∧ Blk w' g (splice cur o (bv (sto n len))) ∧ w.grownBy w' (some g) ∧ w'.heap.size = w.heap.size := by
  go_enter Try.func39, Try.ntmps39
  go_wp2
  go_loopw [7] (fun i wr => ∃ j : Nat, j ≤ len ∧ i = .int .i64 j ∧ Blk wr g (splice cur o (bv (sto n j))) ∧ w.grownBy wr (some g) ∧ wr.heap.size = w.heap.size) (fun i _ => len - (intOf i).toNat)
  case atStart => exact ⟨0, Nat.zero_le _, rfl, by simpa [sto, bv, splice_nil] using hB, World.grownBy.refl _ _, rfl⟩
  case round =>
    obtain ⟨j, hj, rfl, hb, hg, hs⟩ := hrel
    by_cases hlt : j < len
    · obtain ⟨c, hc⟩ : ∃ c, wr.cell? ⟨g, o + j, none⟩ = some c := by
        have hL : o + j < (splice cur o (bv (sto n j))).length := by
          rw [length_splice _ _ _ (by rw [bv_length, sto_length]; omega)]; omega
        exact ⟨_, by rw [hb.cell, List.getElem?_eq_getElem hL]⟩
      have hz := hb.frozen (o + j)
      go_wp2
      go_roundw
      case rel =>
        refine ⟨j + 1, by omega, by go_num, ?_, grown_trans hg (grown_set _ _ _ _), by rw [size_set]; exact hs⟩
        have h1 := hb.set (o + j) (.int .u8 (n / 2 ^ (8 * j) % 256))
        have e : o + j = o + (bv (sto n j)).length := by rw [bv_length, sto_length]
        rw [sto_snoc, bv_append, ← pow8]
        rw [e] at h1
        rw [splice_set _ _ _ _ (by rw [← e]; omega), ← e] at h1
        exact h1
      case measure => simp [intOf]; omega
    · have : j = len := by omega
      subst this
      go_wp2
      go_end0
      exact ⟨rfl, hb, hg, hs⟩

theorem lay_none (a : Option Addr) (cap : Nat) (n : Int) (w : World) :
    Calls Try.prog 39 #[.slice a 0 cap, .int .u64 n] w fun e w' => e = .returned (.tuple #[]) ∧ w = w' := by
  go_enter Try.func39, Try.ntmps39
  go_wp2
  go_loop [7] (fun i => i = .int .i64 0) (fun _ => 0)
  case atStart => rfl
  case round =>
    subst hrel
    go_wp2
    go_end0
    exact ⟨rfl, rfl⟩

theorem Try.info5 : (Try.prog.info? 5).map (fun i => (i.zero, i.size, i.bytes)) = some (some (.int .u8 0), 1, 1) := by kernel_rfl
theorem Try.size5 : (Try.prog.info? 5).map (·.size) = some 1 := by kernel_rfl

/-- a copy in memory of its own -/
theorem fresh_any (a : Option Addr) (len cap : Nat) (bs : List Int) (w : World) (R : Row w a len bs) (hl : len ≤ 281474976710656) :
    Calls Try.prog 40 #[.slice a len cap] w fun e w' => e = .returned (.slice (some ⟨w.heap.size, 0, none⟩) len len) ∧ Blk w' w.heap.size (bv bs) ∧ w.grownBy w' none ∧ w'.heap.size = w.heap.size + 1 := by
  obtain ⟨i5, hi, hz0, hz1, hz2⟩ := info_parts Try.info5
  go_enter Try.func40, Try.ntmps40
  go_wp2_with (first | (at_make; refine wpList_make8 _ rfl _ _ 22 rfl i5 Try.underlying22 hi hz0 hz1 hz2 _ _ _ _ len rfl rfl rfl rfl hl ?_; intro w1 hb1 hg1 hs1) | ((with_reducible refine copy_here ?_); (refine wpList_copy8 rfl _ _ 22 22 rfl Try.underlying22 Try.size5 _ _ _ _ _ _ rfl rfl w.heap.size 0 _ hb1 (bv bs) (by rw [bv_length, R.len_eq]; exact (Nat.min_self _).symm) (fun h0 => ⟨rfl, (R.grown hg1).src h0⟩) (by rw [bv_length, R.len_eq, List.length_replicate]; omega) (bv_one _) ?_; intro w2 hb2 hg2 hs2)))
  go_ret
  rw [splice_all _ _ (by simp [bv_length, R.len_eq])] at hb2
  exact ⟨rfl, hb2, grown_new hg1 hg2 (Nat.le_refl _), by omega⟩

theorem ckE_ok {n width : Int} (h : ckE n width = 0) : isW width = true ∧ n ≤ lg width := by
  unfold ckE at h
  split at h
  · split at h
    · simp at h
    · exact ⟨by assumption, by omega⟩
  · simp at h

set_option maxHeartbeats 400000 in
/-- Put, of whatever comes in -/
theorem put_ok (a : Option Addr) (len cap : Nat) (bs : List Int) (n : Int) (m : Nat) (w : World) (R : Row w a len bs) (hl : len ≤ 140737488355328) (hc : ckE n m = 0) :
    Calls Try.prog 13 #[.slice a len cap, .int .u64 n, .int .i64 m] w fun e w' => e = .returned (.tuple #[.slice (some ⟨w.heap.size, 0, none⟩) (len + m) (len + m), .int .i64 0]) ∧ Blk w' w.heap.size (bv (bs ++ sto n m)) ∧ w.grownBy w' none ∧ w'.heap.size = w.heap.size + 1 := by
  obtain ⟨i5, hi, hz0, hz1, hz2⟩ := info_parts Try.info5
  obtain ⟨hW, _⟩ := ckE_ok hc
  have hm := isW_pos hW
  have hC := check_any n m w
  rw [hc] at hC
  go_enter Try.func13, Try.ntmps13
  go_wp2_with (first | (go_at_call 38; refine hC.mono ?_; rintro e w' ⟨rfl, rfl⟩) | (at_make; go_loud (refine wpList_make8 _ rfl _ _ 22 rfl i5 Try.underlying22 hi hz0 hz1 hz2 _ _ _ _ (len + m) rfl rfl (by omega) (by omega) (by omega) ?_; intro w1 hb1 hg1 hs1)) | ((with_reducible refine copy_here ?_); go_loud (refine wpList_copy8 rfl _ _ 22 22 rfl Try.underlying22 Try.size5 _ _ _ _ _ _ rfl rfl w.heap.size 0 _ hb1 (bv bs) (by rw [bv_length, R.len_eq]; exact (Nat.min_eq_left (by omega)).symm) (fun h0 => ⟨rfl, (R.grown hg1).src h0⟩) (by rw [bv_length, R.len_eq, List.length_replicate]; omega) (bv_one _) ?_; intro w2 hb2 hg2 hs2)))
  have hL : (splice (List.replicate (len + m) (Value.int .u8 0)) 0 (bv bs)).length = len + m := by
    rw [length_splice _ _ _ (by rw [bv_length, R.len_eq, List.length_replicate]; omega), List.length_replicate]
  refine (lay_any w.heap.size len m m n _ w2 hb2 (by omega) (by rw [hL]; omega)).mono ?_
  rintro e w3 ⟨rfl, hb3, hg3, hs3⟩
  go_wp2
  go_ret2
  refine ⟨rfl, ?_, grown_new (grown_new hg1 hg2 (Nat.le_refl _)) hg3 (Nat.le_refl _), by omega⟩
  have e := splice_two (List.replicate (len + m) (Value.int .u8 0)) (bv bs) (bv (sto n m)) (by simp [bv_length, R.len_eq, sto_length])
  rw [bv_length, R.len_eq] at e
  rw [bv_append, ← e]
  exact hb3

theorem put_no (a : Option Addr) (len cap : Nat) (n width : Int) (w : World) (hc : ckE n width ≠ 0) :
    Calls Try.prog 13 #[.slice a len cap, .int .u64 n, .int .i64 width] w fun e w' => e = .returned (.tuple #[.slice none 0 0, .int .i64 (ckE n width)]) ∧ w = w' := by
  have hb : (ckE n width != 0) = true := by simpa using hc
  have hC := check_any n width w
  go_enter Try.func13, Try.ntmps13
  go_wp2_with (first | (go_at_call 38; refine hC.mono ?_; rintro e w' ⟨rfl, rfl⟩))
  go_ret2
  exact ⟨rfl, rfl⟩

set_option maxHeartbeats 400000 in
theorem live_any (w : World) : Calls Try.prog 9 #[] w fun e w' => e = .returned (.bool true) ∧ Below w.heap.size w w' := by
  have R1 : Row (w.alloc (Obj.cells #[Value.int IntKind.u8 9] 5)) (some ⟨w.heap.size, 0, none⟩) 1 [9] := alloc_row w [9] (byt_of _ (by decide)) (by decide)
  go_enter Try.func9, Try.ntmps9
  go_wp2_with fail
  refine (put_ok _ 1 1 [9] 258 2 _ R1 (by decide) (by decide)).mono ?_
  rintro e w1 ⟨rfl, hb1, hg1, hs1⟩
  simp only [World.size_alloc] at hb1 hs1
  have Rp : Row w1 (some ⟨w.heap.size + 1, 0, none⟩) 3 [9, 2, 1] := hb1.row (bs := [9] ++ sto 258 2) (byt_of _ (by decide)) (by decide)
  have R2 : Row (w1.alloc (Obj.cells #[Value.int IntKind.u8 9, Value.int IntKind.u8 2, Value.int IntKind.u8 1] 5)) (some ⟨w1.heap.size, 0, none⟩) 3 [9, 2, 1] := alloc_row w1 [9, 2, 1] (byt_of _ (by decide)) (by decide)
  have HS : Hid (w1.heap.size = w.heap.size + 1 + 1) := hs1
  clear hs1 hb1
  go_wp2_with fail
  refine (get_any _ 3 3 [9, 2, 1] 1 2 _ R2 (by decide) (by decide)).mono ?_
  rintro e w2 ⟨rfl, rfl⟩
  have R3 : Row ((w1.alloc (Obj.cells #[Value.int IntKind.u8 9, Value.int IntKind.u8 2, Value.int IntKind.u8 1] 5)).alloc (Obj.cells #[Value.int IntKind.u8 9] 5)) (some ⟨w1.heap.size + 1, 0, none⟩) 1 [9] := by
    rw [← World.size_alloc w1 (Obj.cells #[Value.int IntKind.u8 9, Value.int IntKind.u8 2, Value.int IntKind.u8 1] 5)]
    exact alloc_row (w1.alloc (Obj.cells #[Value.int IntKind.u8 9, Value.int IntKind.u8 2, Value.int IntKind.u8 1] 5)) [9] (byt_of _ (by decide)) (by decide)
  go_wp2_with fail
  refine (get_any _ 1 1 [9] 0 2 _ R3 (by decide) (by decide)).mono ?_
  rintro e w2 ⟨rfl, rfl⟩
  have Rq := (Rp.below ((Below.refl _ _).alloc (Nat.le_refl _) (Obj.cells #[Value.int IntKind.u8 9, Value.int IntKind.u8 2, Value.int IntKind.u8 1] 5))).below ((Below.refl _ _).alloc (Nat.le_refl _) (Obj.cells #[Value.int IntKind.u8 9] 5))
  have kc := conv_row (P := Try.prog) Rq 3 22 9 Try.underlying22 Try.underlying5 Try.underlying9
  have e1 : getE 3 1 2 = 0 := by decide
  have e2 : getV [9, 2, 1] 1 2 = 258 := by decide
  have e3 : getE 1 0 2 = 9 := by decide
  have e4 : (strOfNums [9, 2, 1]).toList = [9, 2, 1] := by rw [str_toList]; decide
  go_wp2_with (go_at_call 12; refine (num_any _ _).mono ?_; rintro e w' ⟨rfl, rfl⟩)
  go_ret
  refine ⟨rfl, ?_⟩
  have b1 : Below w.heap.size w w1 := ((Below.refl _ _).alloc (Nat.le_refl _) _).trans ((grown_below hg1).mono (by simp))
  exact (b1.alloc (by have := HS.out; omega) _).alloc (by have := HS.out; simp; omega) _
end Go.Proofs.Ythnehebkkfegdaa
