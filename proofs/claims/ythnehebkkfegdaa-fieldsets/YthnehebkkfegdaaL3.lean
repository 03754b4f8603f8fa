/- The walk of FieldSets, out of the contracts. -/
import Derived.Test.YthnehebkkfegdaaA4
import Derived.Deep.RegionHeld
import Derived.Deep.DrawnRows
namespace Go.Proofs.Ythnehebkkfegdaa
open Go.RowKit
attribute [local go_sem ↓] Go.wp_at_zero Go.wp_at_succ

theorem Row.drew' {w : World} {a : Option Addr} {len : Nat} {bs : List Int} (h : Row w a len bs) : Row w.drew a len bs := h.below ((Below.refl _ _).drew)
/-- bytes as a text, behind a letter -/
theorem cvt_ex : ∃ cvt : Option Addr → Nat → Nat → World → Result Value, (∀ a l c w, Sem.run Try.prog (convert 22 9 (.slice a l c)) w = cvt a l c w) ∧ ∀ (w : World) (a : Option Addr) (len cap : Nat) (bs : List Int), Row w a len bs → cvt a len cap w = .ok (.string (strOfNums bs)) w :=
  ⟨_, fun _ _ _ _ => rfl, fun _ _ _ cap _ R => conv_row (P := Try.prog) R cap 22 9 Try.underlying22 Try.underlying5 Try.underlying9⟩
theorem Try.elem22 : Try.prog.elem 22 = 5 := by kernel_rfl
theorem cut_run (a : Option Addr) (len cap k m : Nat) (h : k + m ≤ cap) (hne : ¬ cap = k) (w : World) :
    (Instr.slice 22 (.slice a len cap) (some (.int .i64 k)) (some (.int .i64 ((k : Int) + m))) none).run Try.prog w = .ok (.slice (a.map (·.add k)) m (cap - k)) w := by
  obtain ⟨i5, hi, _, hz1, _⟩ := info_parts Try.info5
  rw [run_slice_lh _ 22 a len cap (by rw [Try.elem22]; exact Try.underlying22) .i64 .i64 k (k + m) (by omega) (by omega) (by omega), Try.elem22]
  have e : ((k : Int) + m).toNat = k + m := by omega
  simp [sizeOf, typeInfo, hi, hz1, Result.andThen, sliced, hne, e]
theorem cut_run0 (a : Option Addr) (len k m : Nat) (h : k + m ≤ k) (w : World) :
    (Instr.slice 22 (.slice a len k) (some (.int .i64 k)) (some (.int .i64 ((k : Int) + m))) none).run Try.prog w = .ok (.slice a m 0) w := by
  obtain ⟨i5, hi, _, hz1, _⟩ := info_parts Try.info5
  rw [run_slice_lh _ 22 a len k (by rw [Try.elem22]; exact Try.underlying22) .i64 .i64 k (k + m) (by omega) (by omega) (by omega), Try.elem22]
  have e : ((k : Int) + m).toNat = k + m := by omega
  simp [sizeOf, typeInfo, hi, hz1, Result.andThen, sliced, e]
theorem below_end {w w1 w3 : World} (hg1 : w.grownBy w1 none) (hb3 : Below w1.heap.size w1 w3) : Below w.heap.size w w3 :=
  (grown_below hg1).trans (hb3.mono hg1.size)
theorem below_end' {w w1 w3 : World} (hg1 : w.grownBy w1 none) (hb3 : Below w1.heap.size w1.drew w3) : Below w.heap.size w w3 :=
  (grown_below hg1).trans (((Below.refl _ w1).drew.trans hb3).mono hg1.size)

set_option maxHeartbeats 800000 in
/-- Set refuses; the part is there -/
theorem sets_bad_in (a0 : Option Addr) (len0 cap0 : Nat) (bs : List Int) (k : Nat) (n : Int) (m : Nat) (w : World) (R : Row w a0 len0 bs) (hc : len0 ≤ cap0) (h : ¬ (70000 : Int) < len0) (hin : k + m ≤ len0) (E : Int)
    (s1 : Calls Try.prog 17 #[.slice a0 len0 cap0, .int .i64 k, .int .u64 n, .int .i64 m] w fun e w' => e = .returned (.tuple #[.slice none 0 0, .int .i64 E]) ∧ w = w')
    (s2 : Calls Try.prog 18 #[.slice a0 len0 cap0, .int .i64 k, .int .u64 n, .int .i64 m] w fun e w' => e = .returned (.tuple #[.slice none 0 0, .int .i64 E]) ∧ w = w') :
    Calls Try.prog 5 #[.slice a0 len0 cap0, .int .i64 k, .int .u64 n, .int .i64 m] w fun e w' => e = .returned (.bool true) ∧ Below w.heap.size w w' := by
  have hp := part_ok a0 len0 cap0 bs k m w R hc (by omega) hin
  have hI := fun w' : World => in_any a0 len0 cap0 k m w' R.le (by omega) (by omega)
  have hi : inB len0 k m = true := by simp [inB]; omega
  have HI : Hid (∀ w' : World, Calls Try.prog 20 #[.slice a0 len0 cap0, .int .i64 k, .int .i64 m] w' fun e w'' => e = .returned (.bool (inB len0 k m)) ∧ w' = w'') := hI
  clear hI
  obtain ⟨cvt, hcv, hcr⟩ := cvt_ex
  have HCR : Hid (∀ (w : World) (a : Option Addr) (len cap : Nat) (bs : List Int), Row w a len bs → cvt a len cap w = .ok (.string (strOfNums bs)) w) := hcr
  clear hcr
  have k0 := fun w' : World => HCR.out w' none 0 0 [] (Row.none_of none rfl rfl)
  have b1 : (0 : Int) ≤ k := by omega
  have b2 : (k : Int) ≤ k + m := by omega
  have b3 : (k : Int) + m ≤ cap0 := by omega
  go_enter Try.func5, Try.ntmps5
  go_wp2_with (first | (go_at_call 17; refine s1.mono ?_; rintro e w' ⟨rfl, rfl⟩) | (go_at_call 18; refine s2.mono ?_; rintro e w' ⟨rfl, rfl⟩) | (go_at_call 19; refine hp.mono ?_; rintro e w1 ⟨rfl, hb1, hg1, hs1⟩; clear hs1) | (go_at_call 12; refine (num_any _ _).mono ?_; rintro e w' ⟨rfl, rfl⟩) | (go_at_call 20; refine (HI.out _).mono ?_; rintro e w' ⟨rfl, rfl⟩))
  have hb1 : Blk w1 w.heap.size (bv ((bs.drop k).take m)) := by assumption
  have hg1 : w.grownBy w1 none := by assumption
  have hsl : ((bs.drop k).take m).length = m := by simp [R.len_eq]; omega
  have Rp := (hb1.row ((R.byt.drop k).take m) (by rw [hsl]; unfold maxLen; omega)).drew'
  rw [hsl] at Rp
  have kp := HCR.out _ _ _ m _ Rp
  have Rs1 : Row w1.drew (a0.map (·.add k)) m ((bs.drop k).take m) := ((R.cut k m hin).grown hg1).drew'
  have ks1 := HCR.out _ _ _ (cap0 - k) _ Rs1
  clear hb1 s1 s2 hp
  by_cases hck : cap0 = k
  · subst hck
    have Rs2 : Row w1.drew a0 m ((bs.drop cap0).take m) := Row.zero a0 bs cap0 m (by omega)
    have ks2 := HCR.out _ _ _ 0 _ Rs2
    have hcut := cut_run0 a0 len0 cap0 m (by omega)
    have hwr : IntKind.i64.wrap ((cap0 : Int) + m) = (cap0 : Int) + m := by rw [IntKind.wrap_i64]; omega
    go_region_held (fun w' => cvt (some ⟨w.heap.size, 0, none⟩) m m w' = .ok (.string (strOfNums ((bs.drop cap0).take m))) w' ∧ cvt a0 m 0 w' = .ok (.string (strOfNums ((bs.drop cap0).take m))) w') (first | exact ⟨kp, ks2⟩ | exact ⟨by assumption, by assumption⟩) (first | (go_at_call 12; refine (num_any _ _).mono ?_; rintro e w' ⟨rfl, rfl⟩) | (go_at_call 9; refine (live_any _).mono ?_; rintro e w3 ⟨rfl, hb3⟩; have kp3 := HCR.out _ _ _ m _ (Rp.below hb3); have ks3 := HCR.out _ _ _ 0 _ (Rs2.below hb3)))
    go_wp2
    go_ret
    exact ⟨rfl, below_end' hg1 (by assumption)⟩
  · have hcut := cut_run a0 len0 cap0 k m (by omega) hck
    have hwr : IntKind.i64.wrap ((k : Int) + m) = (k : Int) + m := by rw [IntKind.wrap_i64]; omega
    go_region_held (fun w' => cvt (some ⟨w.heap.size, 0, none⟩) m m w' = .ok (.string (strOfNums ((bs.drop k).take m))) w' ∧ cvt (a0.map (·.add k)) m (cap0 - k) w' = .ok (.string (strOfNums ((bs.drop k).take m))) w') (first | exact ⟨kp, ks1⟩ | exact ⟨by assumption, by assumption⟩) (first | (go_at_call 12; refine (num_any _ _).mono ?_; rintro e w' ⟨rfl, rfl⟩) | (go_at_call 9; refine (live_any _).mono ?_; rintro e w3 ⟨rfl, hb3⟩; have kp3 := HCR.out _ _ _ m _ (Rp.below hb3); have ks3 := HCR.out _ _ _ (cap0 - k) _ (Rs1.below hb3)))
    go_wp2
    go_ret
    exact ⟨rfl, below_end' hg1 (by assumption)⟩

set_option maxHeartbeats 800000 in
/-- Set refuses; the part is not there -/
theorem sets_bad_out (a0 : Option Addr) (len0 cap0 : Nat) (k n m : Int) (w : World) (hl : len0 ≤ maxLen) (h : ¬ (70000 : Int) < len0) (hk : k ≤ 9223372036854775807) (hm : m ≤ 9223372036854775807) (hi : inB len0 k m = false) (E : Int)
    (s1 : Calls Try.prog 17 #[.slice a0 len0 cap0, .int .i64 k, .int .u64 n, .int .i64 m] w fun e w' => e = .returned (.tuple #[.slice none 0 0, .int .i64 E]) ∧ w = w')
    (s2 : Calls Try.prog 18 #[.slice a0 len0 cap0, .int .i64 k, .int .u64 n, .int .i64 m] w fun e w' => e = .returned (.tuple #[.slice none 0 0, .int .i64 E]) ∧ w = w') :
    Calls Try.prog 5 #[.slice a0 len0 cap0, .int .i64 k, .int .u64 n, .int .i64 m] w fun e w' => e = .returned (.bool true) ∧ Below w.heap.size w w' := by
  have hp := part_no a0 len0 cap0 k m w hl hk hm hi
  have hI := in_any a0 len0 cap0 k m w hl hm hk
  obtain ⟨cvt, hcv, hcr⟩ := cvt_ex
  have k0 := fun w' : World => hcr w' none 0 0 [] (Row.none_of none rfl rfl)
  clear hcr
  go_enter Try.func5, Try.ntmps5
  go_wp2_with (first | (go_at_call 17; refine s1.mono ?_; rintro e w' ⟨rfl, rfl⟩) | (go_at_call 18; refine s2.mono ?_; rintro e w' ⟨rfl, rfl⟩) | (go_at_call 19; refine hp.mono ?_; rintro e w1 ⟨rfl, rfl⟩) | (go_at_call 12; refine (num_any _ _).mono ?_; rintro e w' ⟨rfl, rfl⟩) | (go_at_call 20; refine hI.mono ?_; rintro e w' ⟨rfl, rfl⟩) | (go_at_call 9; refine (live_any _).mono ?_; rintro e w' ⟨rfl, hb⟩))
  go_ret
  exact ⟨rfl, by assumption⟩

set_option maxHeartbeats 1600000 in
/-- Set answers -/
theorem sets_ok (b off len0 cap0 : Nat) (bs : List Int) (k : Nat) (n : Int) (m : Nat) (w : World) (R : Row w (some ⟨b, off, none⟩) len0 bs) (hc : len0 ≤ cap0) (h : ¬ (70000 : Int) < len0) (hin : k + m ≤ len0) (hW : isW m = true) (hf : fits n m = true) (h0 : 0 ≤ n) (h1 : n < 18446744073709551616) :
    Calls Try.prog 5 #[.slice (some ⟨b, off, none⟩) len0 cap0, .int .i64 k, .int .u64 n, .int .i64 m] w fun e w' => e = .returned (.bool true) ∧ Below w.heap.size w w' := by
  have hm := isW_pos hW
  have hck := ckE_fits hW h0
  rw [hf] at hck
  have s1 := set_ok (some ⟨b, off, none⟩) len0 cap0 bs n k m w R (by omega) hck hin
  have s2 : Hid (∀ w' : World, w.grownBy w' none → Calls Try.prog 18 #[.slice (some ⟨b, off, none⟩) len0 cap0, .int .i64 k, .int .u64 n, .int .i64 m] w' fun e w'' => ∃ a c, e = .returned (.tuple #[.slice a len0 c, .int .i64 0]) ∧ Row w'' a len0 (splice bs k (sto n m)) ∧ w'.grownBy w'' none) :=
    fun w' hg => refset_ok b off len0 cap0 bs n k m w' (R.grown hg) hc (by omega) hW hf h0 h1 hin
  have hp : Hid (∀ w' : World, w.grownBy w' none → Calls Try.prog 19 #[.slice (some ⟨b, off, none⟩) len0 cap0, .int .i64 k, .int .i64 m] w' fun e w'' => e = .returned (.tuple #[.slice (some ⟨w'.heap.size, 0, none⟩) m m, .int .i64 0]) ∧ Blk w'' w'.heap.size (bv ((bs.drop k).take m)) ∧ w'.grownBy w'' none ∧ w''.heap.size = w'.heap.size + 1) :=
    fun w' hg => part_ok (some ⟨b, off, none⟩) len0 cap0 bs k m w' (R.grown hg) hc (by omega) hin
  have hi : inB len0 k m = true := by simp [inB]; omega
  have HI : Hid (∀ w' : World, Calls Try.prog 20 #[.slice (some ⟨b, off, none⟩) len0 cap0, .int .i64 k, .int .i64 m] w' fun e w'' => e = .returned (.bool (inB len0 k m)) ∧ w' = w'') := fun w' => in_any (some ⟨b, off, none⟩) len0 cap0 k m w' R.le (by omega) (by omega)
  obtain ⟨cvt, hcv, hcr⟩ := cvt_ex
  have HCR : Hid (∀ (w : World) (a : Option Addr) (len cap : Nat) (bs : List Int), Row w a len bs → cvt a len cap w = .ok (.string (strOfNums bs)) w) := hcr
  clear hcr hck
  have hsp : (splice bs k (sto n m)).length = len0 := by rw [length_splice _ _ _ (by rw [sto_length, R.len_eq]; exact hin)]; exact R.len_eq
  have hspb : Byt (splice bs k (sto n m)) := by
    unfold splice; exact (R.byt.take k).append ((sto_byt n m).append (R.byt.drop _))
  generalize splice bs k (sto n m) = sp at s1 s2 hsp hspb
  have hlm : len0 ≤ maxLen := R.le
  have hsl : ((bs.drop k).take m).length = m := by simp [R.len_eq]; omega
  go_enter Try.func5, Try.ntmps5
  go_wp2_with (first | (go_at_call 17; refine s1.mono ?_; rintro e w1 ⟨rfl, hb1, hg1, hs1⟩; clear hs1))
  have hb1 : Blk w1 w.heap.size (bv sp) := by assumption
  have hg1 : w.grownBy w1 none := by assumption
  clear s1
  refine (s2.out _ hg1).mono ?_
  rintro e w2 ⟨ay, cy, rfl, Ry, hg2⟩
  have G2 : w.grownBy w2 none := grown_trans hg1 hg2
  have Rx := (hb1.row hspb (by rw [hsp]; exact hlm)).grown hg2
  rw [hsp] at Rx
  clear hb1
  go_wp2_with fail
  refine (hp.out _ G2).mono ?_
  rintro e w3 ⟨rfl, hb3, hg3, hs3⟩
  clear hs3
  have G3 : w.grownBy w3 none := grown_trans G2 hg3
  have kx := HCR.out _ _ _ len0 _ (Rx.grown hg3)
  have ky := HCR.out _ _ _ cy _ (Ry.grown hg3)
  have Rp := (hb3.row ((R.byt.drop k).take m) (by rw [hsl]; unfold maxLen; omega)).drew'
  rw [hsl] at Rp
  have Rs : Row w3.drew ((some ⟨b, off, none⟩ : Option Addr).map (·.add k)) m ((bs.drop k).take m) := ((R.cut k m hin).grown G3).drew'
  rw [map_add] at Rs
  have kp := HCR.out _ _ _ m _ Rp
  have ks := HCR.out _ _ _ (cap0 - k) _ Rs
  have hcut := cut_run (some ⟨b, off, none⟩) len0 cap0 k m (by omega) (by omega)
  rw [map_add] at hcut
  have hwr : IntKind.i64.wrap ((k : Int) + m) = (k : Int) + m := by rw [IntKind.wrap_i64]; omega
  clear hb3 hsp hsl
  go_wp2_with (first | (go_at_call 12; refine (num_any _ _).mono ?_; rintro e w' ⟨rfl, rfl⟩) | (go_at_call 20; refine (HI.out _).mono ?_; rintro e w' ⟨rfl, rfl⟩))
  go_region_held (fun w' => cvt (some ⟨w2.heap.size, 0, none⟩) m m w' = .ok (.string (strOfNums ((bs.drop k).take m))) w' ∧ cvt (some ⟨b, off + k, none⟩) m (cap0 - k) w' = .ok (.string (strOfNums ((bs.drop k).take m))) w') (first | exact ⟨kp, ks⟩ | exact ⟨by assumption, by assumption⟩) (first | (go_at_call 12; refine (num_any _ _).mono ?_; rintro e w' ⟨rfl, rfl⟩) | (go_at_call 9; refine (live_any _).mono ?_; rintro e w4 ⟨rfl, hb4⟩; have kp3 := HCR.out _ _ _ m _ (Rp.below hb4); have ks3 := HCR.out _ _ _ (cap0 - k) _ (Rs.below hb4)))
  go_wp2
  go_ret
  exact ⟨rfl, below_end' G3 (by assumption)⟩

theorem fieldSets_walk (a0 : Option Addr) (len0 cap0 : Nat) (z0 : List Int) (a1 : Int) (a2 : Int) (a3 : Int) (w : World) (w0 : IsRow .u8 w a0 len0 cap0 z0) (w1 : (Lit.int .i64 a1).wf = true) (w2 : (Lit.int .u64 a2).wf = true) (w3 : (Lit.int .i64 a3).wf = true) :
    Calls Try.prog 5 #[.slice a0 len0 cap0, .int .i64 a1, .int .u64 a2, .int .i64 a3] w fun e w' => e = .returned (.bool true) ∧ Below w.heap.size w w' := by
  have R := w0.row
  have hlm := R.le
  have hcap : len0 ≤ cap0 := by
    rcases w0 with ⟨_, rfl, rfl, _⟩ | ⟨_, _, hl, _⟩
    · exact Nat.le_refl _
    · exact hl
  have b1 := wf_i64 w1
  have b2 := wf_u64 w2
  have b3 := wf_i64 w3
  by_cases h : (70000 : Int) < len0
  · have hm : len0 ≤ 9223372036854775807 := R.le
    clear w0 R
    go_enter Try.func5, Try.ntmps5
    go_wp2_with (go_at_call 9; refine (live_any _).mono ?_; rintro e w' ⟨rfl, hb⟩)
    go_ret
    exact ⟨rfl, by assumption⟩
  by_cases hok : isW a3 = true ∧ fits a2 a3.toNat = true ∧ inB len0 a1 a3 = true
  · obtain ⟨hW, hf, hi⟩ := hok
    have hi' := hi
    simp only [inB, decide_eq_true_eq] at hi'
    obtain ⟨k, rfl⟩ := Int.eq_ofNat_of_zero_le hi'.1
    obtain ⟨m, rfl⟩ := Int.eq_ofNat_of_zero_le hi'.2.1
    have hm := isW_pos hW
    rw [Int.toNat_natCast] at hf
    obtain ⟨b, off, rfl, _⟩ := R.cells (by omega)
    exact sets_ok b off len0 cap0 _ k a2 m w R hcap h (by omega) hW hf b2.1 b2.2
  · obtain ⟨E, s1, s2⟩ := set_bad a0 len0 cap0 a1 a2 a3 w hlm b1.2 b2.1 b2.2 hok
    by_cases hi : inB len0 a1 a3 = true
    · have hi' := hi
      simp only [inB, decide_eq_true_eq] at hi'
      obtain ⟨k, rfl⟩ := Int.eq_ofNat_of_zero_le hi'.1
      obtain ⟨m, rfl⟩ := Int.eq_ofNat_of_zero_le hi'.2.1
      exact sets_bad_in a0 len0 cap0 _ k a2 m w R hcap h (by omega) E s1 s2
    · exact sets_bad_out a0 len0 cap0 a1 a2 a3 w hlm h b1.2 b3.2 (by simpa using hi) E s1 s2
end Go.Proofs.Ythnehebkkfegdaa
