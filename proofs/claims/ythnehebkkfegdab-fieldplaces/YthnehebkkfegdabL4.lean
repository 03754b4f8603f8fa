/- The walk of FieldPlaces, out of the contracts. -/
import Derived.Test.YthnehebkkfegdabA4
import Derived.WalkSmall
import Derived.Deep.QuietTactic
import Derived.BigQuiet
namespace Go.Proofs.Ythnehebkkfegdab
open Go.RowKit

theorem Row.drew' {w : World} {a : Option Addr} {len : Nat} {bs : List Int} (h : Row w a len bs) : Row w.drew a len bs := h.below ((Below.refl _ _).drew)
theorem below_end {w w1 w3 : World} (hg1 : w.grownBy w1 none) (hb3 : Below w1.heap.size w1 w3) : Below w.heap.size w w3 :=
  (grown_below hg1).trans (hb3.mono hg1.size)
/-- bytes as a text, behind a letter -/
theorem cvt_ex : ∃ cvt : Option Addr → Nat → Nat → World → Result Value, (∀ a l c w, Sem.run Try.prog (convert 22 9 (.slice a l c)) w = cvt a l c w) ∧ ∀ (w : World) (a : Option Addr) (len cap : Nat) (bs : List Int), Row w a len bs → cvt a len cap w = .ok (.string (strOfNums bs)) w :=
  ⟨_, fun _ _ _ _ => rfl, fun _ _ _ cap _ R => conv_row (P := Try.prog) R cap 22 9 Try.underlying22 Try.underlying5 Try.underlying9⟩

theorem splice_seg (bs xs : List Int) (k : Nat) (h : k + xs.length ≤ bs.length) : ((splice bs k xs).drop k).take xs.length = xs := by
  unfold splice
  rw [List.drop_append_of_le_length (by simp; omega), List.drop_eq_nil_of_le (by simp; omega), List.nil_append, List.take_append_of_le_length (Nat.le_refl _), List.take_of_length_le (Nat.le_refl _)]
theorem splice_far (bs xs : List Int) (k j : Nat) (h : k + xs.length ≤ bs.length) (hj : j < k ∨ k + xs.length ≤ j) : (splice bs k xs).getD j 0 = bs.getD j 0 := by
  unfold splice
  rw [List.getD_eq_getElem?_getD, List.getD_eq_getElem?_getD]
  rcases hj with hj | hj
  · rw [List.getElem?_append_left (by simp; omega), List.getElem?_take, if_pos hj]
  · rw [List.getElem?_append_right (by simp; omega), List.getElem?_append_right (by simp; omega), List.getElem?_drop]
    congr 2
    simp
    omega
theorem n_mod {n : Int} {m : Nat} (hW : isW m = true) (h0 : 0 ≤ n) (h : n ≤ lg m) : n % 256 ^ m = n := by
  have hm := isW_pos hW
  obtain rfl | rfl | rfl | rfl : m = 1 ∨ m = 2 ∨ m = 4 ∨ m = 8 := by omega
  · have e : lg ((1 : Nat) : Int) = 255 := by decide
    rw [e] at h; omega
  · have e : lg ((2 : Nat) : Int) = 65535 := by decide
    rw [e] at h; omega
  · have e : lg ((4 : Nat) : Int) = 4294967295 := by decide
    rw [e] at h; omega
  · have e : lg ((8 : Nat) : Int) = 18446744073709551615 := by decide
    rw [e] at h; omega

/-- the first j bytes one greater -/
def inc (bs : List Int) (j : Nat) : List Int := (bs.take j).map (fun b => (b + 1) % 256) ++ bs.drop j
theorem inc_length (bs : List Int) (j : Nat) : (inc bs j).length = bs.length := by simp [inc]; omega
theorem inc_at (bs : List Int) (j : Nat) (h : j < bs.length) : (bv (inc bs j))[j]? = some (.int .u8 (bs.getD j 0)) := by
  rw [bv_getElem? _ _ (by rw [inc_length]; exact h)]
  simp [inc, List.getD_eq_getElem?_getD, List.getElem?_append_right, Nat.min_eq_left (Nat.le_of_lt h)]
theorem inc_step (bs : List Int) (j : Nat) (h : j < bs.length) : (bv (inc bs j)).set j (.int .u8 ((bs.getD j 0 + 1) % 256)) = bv (inc bs (j + 1)) := by
  have e : bv (inc bs j) = bv ((bs.take j).map (fun b => (b + 1) % 256)) ++ bv (bs.drop j) := by simp [inc, bv_append]
  have e2 : bv (inc bs (j + 1)) = bv ((bs.take j).map (fun b => (b + 1) % 256)) ++ (.int .u8 ((bs.getD j 0 + 1) % 256) :: bv (bs.drop (j + 1))) := by
    rw [inc, take_snocI _ _ h]; simp [bv]
  rw [e, e2, List.set_append_right _ _ (by simp [bv]; omega)]
  congr 1
  have e3 : j - (bv ((bs.take j).map (fun b => (b + 1) % 256))).length = 0 := by simp [bv]; omega
  rw [e3, List.drop_eq_getElem_cons h]
  rfl

set_option maxHeartbeats 800000 in
/-- Set refuses -/
theorem places_bad (a0 : Option Addr) (len0 cap0 : Nat) (bs : List Int) (k n m : Int) (w : World) (R : Row w a0 len0 bs) (hnil : a0 = none → cap0 = 0) (h : ¬ (3000 : Int) < len0) (E : Int) (hE : (E != 0) = true)
    (s1 : ∀ a c (w : World), Calls Try.prog 6 #[.slice a len0 c, .int .i64 k, .int .u64 n, .int .i64 m] w fun e w' => e = .returned (.tuple #[.slice none 0 0, .int .i64 E]) ∧ w = w') :
    Calls Try.prog 3 #[.slice a0 len0 cap0, .int .i64 k, .int .u64 n, .int .i64 m] w fun e w' => e = .returned (.bool true) ∧ Below w.heap.size w w' := by
  obtain ⟨i5, hi, hz0, hz1, hz2⟩ := info_parts Try.info5
  have S1 : Hid (∀ a c (w : World), Calls Try.prog 6 #[.slice a len0 c, .int .i64 k, .int .u64 n, .int .i64 m] w fun e w' => e = .returned (.tuple #[.slice none 0 0, .int .i64 E]) ∧ w = w') := s1
  clear s1
  obtain ⟨cvt, hcv, hcr⟩ := cvt_ex
  have HCR : Hid (∀ (w : World) (a : Option Addr) (len cap : Nat) (bs : List Int), Row w a len bs → cvt a len cap w = .ok (.string (strOfNums bs)) w) := hcr
  clear hcr
  have hmade : (w.alloc (.cells #[] 5)).ownsRow w.heap.size 5 1 (.slice (some ⟨w.heap.size, 0, none⟩) 0 0) 0 [] := World.ownsRow_made w #[] 0 (Nat.le_refl _) (Nat.zero_le _) rfl
  have Rb : Row (w.alloc (.cells #[] 5)) a0 len0 bs := R.below ((Below.refl _ _).alloc (Nat.le_refl _) _)
  go_enter Try.func3, Try.ntmps3
  go_wp2_with (first | (at_builtin; refine wpList_append8 rfl (.tmp 19) (.tmp 20) 22 rfl w.heap.size i5 Try.underlying22 hi hz0 hz1 hz2 _ 0 [] rfl hmade _ len0 _ bs rfl Rb hnil (by omega) (by simp) ?_; intro v1 w1 ho1 hg1; obtain ⟨ac, cc, hv, Rc⟩ := owns_row ho1 R.byt (by have := R.le; omega); rw [hv]; have HG : Hid (w.grownBy w1 none) := grown_new (World.grownBy_alloc w _ none) hg1 (Nat.le_refl _); clear hg1 ho1 hv))
  refine (S1.out _ _ _).mono ?_
  rintro e w2 ⟨rfl, rfl⟩
  have HG : w.grownBy w1 none := (show Hid (w.grownBy w1 none) by assumption)
  have Rc : Row w1 ac (0 + len0) bs := by assumption
  have kc := HCR.out _ _ _ cc _ Rc
  have kb := HCR.out _ _ _ cap0 _ (R.grown HG)
  simp only [Nat.zero_add] at kc
  go_wp2_with (first | (go_at_call 7; refine (num_any _ _).mono ?_; rintro e w' ⟨rfl, rfl⟩) | (go_at_call 5; refine (live_any _).mono ?_; rintro e w' ⟨rfl, hb⟩))
  go_ret
  exact ⟨rfl, below_end HG (by assumption)⟩

theorem Row.kept {w w' : World} {a : Option Addr} {len : Nat} {bs : List Int} {g : Nat} (h : Row w a len bs) (hg : w.grownBy w' (some g)) (hne : ∀ b off, a = some ⟨b, off, none⟩ → 0 < len → b ≠ g) : Row w' a len bs := by
  refine ⟨h.len_eq, h.le, h.byt, fun h0 => ?_⟩
  obtain ⟨b, off, e, hc⟩ := h.cells h0
  refine ⟨b, off, e, fun i hi => ?_⟩
  have hbk := hg.block b (cell_lt (hc i hi)) (by have := hne b off e h0; simpa using this)
  rw [World.cell?_of_block (a := ⟨b, off + i, none⟩) hbk]
  exact hc i hi
theorem Row.lt {w : World} {b off len : Nat} {bs : List Int} (h : Row w (some ⟨b, off, none⟩) len bs) (h0 : 0 < len) : b < w.heap.size := by
  obtain ⟨b', off', e, hc⟩ := h.cells h0
  injection e with e; injection e with e1 e2; subst e1
  exact cell_lt (hc 0 h0)

theorem round_end {wr w2 : World} {nq g j : Nat} {v : Value} {cur : List Value} (hset : Blk (wr.setCell ⟨g, j, none⟩ v) g cur) (hgr : w2.grownBy wr (some g)) :
    Blk ((wr.drewN nq).setCell ⟨g, j, none⟩ v) g cur ∧ w2.grownBy ((wr.drewN nq).setCell ⟨g, j, none⟩ v) (some g) :=
  ⟨hset, grown_trans hgr ⟨rfl, rfl, rfl, by simp [World.setCell], fun k _ hr => Below.heap_setCell (wr.drewN nq) _ _ _ (fun e => hr (by rw [e]))⟩⟩

set_option maxHeartbeats 1600000 in
/-- Set answers -/
theorem places_ok (b off len0 cap0 : Nat) (bs : List Int) (k : Nat) (n : Int) (m : Nat) (w : World) (R : Row w (some ⟨b, off, none⟩) len0 bs) (h : ¬ (3000 : Int) < len0) (hin : k + m ≤ len0) (hck : ckE n m = 0) (h0 : 0 ≤ n) :
    Calls Try.prog 3 #[.slice (some ⟨b, off, none⟩) len0 cap0, .int .i64 k, .int .u64 n, .int .i64 m] w fun e w' => e = .returned (.bool true) ∧ Below w.heap.size w w' := by
  obtain ⟨i5, hi, hz0, hz1, hz2⟩ := info_parts Try.info5
  obtain ⟨hW, hlg⟩ := ckE_ok hck
  have hm := isW_pos hW
  have hlen := R.len_eq
  obtain ⟨cvt, hcv, hcr⟩ := cvt_ex
  have HCR : Hid (∀ (w : World) (a : Option Addr) (len cap : Nat) (bs : List Int), Row w a len bs → cvt a len cap w = .ok (.string (strOfNums bs)) w) := hcr
  clear hcr
  have hspl : (splice bs k (sto n m)).length = len0 := by rw [length_splice _ _ _ (by rw [sto_length, R.len_eq]; exact hin)]; exact R.len_eq
  have hspb : Byt (splice bs k (sto n m)) := by
    unfold splice; exact (R.byt.take k).append ((sto_byt n m).append (R.byt.drop _))
  have hfar : Hid (∀ j, j < k ∨ k + m ≤ j → (splice bs k (sto n m)).getD j 0 = bs.getD j 0) := fun j hj => splice_far bs (sto n m) k j (by rw [sto_length, hlen]; exact hin) (by rw [sto_length]; exact hj)
  have hgv : getV (splice bs k (sto n m)) k m = n := by
    rw [getV_in hW (by rw [hspl]; exact hin)]
    have e := splice_seg bs (sto n m) k (by rw [sto_length, hlen]; exact hin)
    rw [sto_length] at e
    rw [e, le_sto, n_mod hW h0 hlg]
  have hge : getE len0 k m = 0 := getE_in hW hin
  have S1 : Hid (∀ a c (w : World), Row w a len0 bs → Calls Try.prog 6 #[.slice a len0 c, .int .i64 k, .int .u64 n, .int .i64 m] w fun e w' => e = .returned (.tuple #[.slice (some ⟨w.heap.size, 0, none⟩) len0 len0, .int .i64 0]) ∧ Blk w' w.heap.size (bv (splice bs k (sto n m))) ∧ w.grownBy w' none ∧ w'.heap.size = w.heap.size + 1) :=
    fun a c w Rw => set_ok a len0 c bs n k m w Rw (by omega) hck hin
  generalize splice bs k (sto n m) = sp at S1 hspl hspb hfar hgv
  have hmade : (w.alloc (.cells #[] 5)).ownsRow w.heap.size 5 1 (.slice (some ⟨w.heap.size, 0, none⟩) 0 0) 0 [] := World.ownsRow_made w #[] 0 (Nat.le_refl _) (Nat.zero_le _) rfl
  have Rb : Row (w.alloc (.cells #[] 5)) (some ⟨b, off, none⟩) len0 bs := R.below ((Below.refl _ _).alloc (Nat.le_refl _) _)
  have HE : Hid (getV sp k m = n ∧ getE len0 k m = 0) := ⟨hgv, hge⟩
  clear hgv hge hck hlg
  go_enter Try.func3, Try.ntmps3
  go_wp2_with (first | (at_builtin; refine wpList_append8 rfl (.tmp 19) (.tmp 20) 22 rfl w.heap.size i5 Try.underlying22 hi hz0 hz1 hz2 _ 0 [] rfl hmade _ len0 _ bs rfl Rb (by intro h; cases h) (by omega) (by simp) ?_; intro v1 w1 ho1 hg1; obtain ⟨ac, cc, hv, Rc⟩ := owns_row ho1 R.byt (by have := R.le; omega); rw [hv]; have HG : Hid (w.grownBy w1 none) := grown_new (World.grownBy_alloc w _ none) hg1 (Nat.le_refl _); clear hg1 ho1 hv))
  have HG1 : w.grownBy w1 none := (show Hid (w.grownBy w1 none) by assumption)
  have Rc : Row w1 ac (0 + len0) bs := by assumption
  rw [Nat.zero_add] at Rc
  refine (S1.out _ _ _ Rc).mono ?_
  rintro e w2 ⟨rfl, hb2, hg2, hs2⟩
  have HS2 : Hid (w2.heap.size = w1.heap.size + 1) := hs2
  clear hs2
  have G2 : w.grownBy w2 none := grown_trans HG1 hg2
  have Rc2 := Rc.grown hg2
  have Rb2 := R.grown G2
  have kc := HCR.out _ _ _ cc _ Rc2
  have kb := HCR.out _ _ _ cap0 _ Rb2
  have Rx2 : Row w2 (some ⟨w1.heap.size, 0, none⟩) len0 sp := by
    have := hb2.row hspb (by rw [hspl]; exact R.le)
    rw [hspl] at this
    exact this
  have hG := get_any (some ⟨w1.heap.size, 0, none⟩) len0 len0 sp k m w2 Rx2 (by omega) (by omega)
  rw [HE.out.1, HE.out.2] at hG
  go_wp2_with (first | (go_at_call 7; refine (num_any _ _).mono ?_; rintro e w' ⟨rfl, rfl⟩) | (go_at_call 8; refine hG.mono ?_; rintro e w' ⟨rfl, rfl⟩))
  have hbg : b ≠ w1.heap.size := by have := R.lt (by omega); have := HG1.size; omega
  have hacg : ∀ b' off', ac = some ⟨b', off', none⟩ → 0 < len0 → b' ≠ w1.heap.size := fun b' off' e h0 => by
    subst e
    have := Rc.lt h0
    omega
  have HAC : Hid (∀ b' off', ac = some ⟨b', off', none⟩ → 0 < len0 → b' ≠ w1.heap.size) := hacg
  clear hacg kc kb hG Rx2 HE
  have hb2' : Blk w2 w1.heap.size (bv (inc sp 0)) := by simpa [inc] using hb2
  clear hb2
  go_loopw [14] (fun i wr => ∃ j : Nat, j ≤ len0 ∧ i = .int .i64 j ∧ Blk wr w1.heap.size (bv (inc sp j)) ∧ w2.grownBy wr (some w1.heap.size)) (fun i _ => len0 - (intOf i).toNat)
  case atStart => exact ⟨0, Nat.zero_le _, rfl, hb2', World.grownBy.refl _ _⟩
  case round =>
    obtain ⟨j, hj, rfl, hbl, hgr⟩ := hrel
    have Rbr := Rb2.kept hgr (fun b' off' e _ => by injection e with e; injection e with e1 e2; omega)
    have Rcr := Rc2.kept hgr HAC.out
    by_cases hlt : j < len0
    · have hbc : wr.cell? ⟨b, off + j, none⟩ = some (.int .u8 (bs.getD j 0)) := by
        obtain ⟨b', off', e, hc⟩ := Rbr.cells (by omega)
        injection e with e; injection e with e1 e2; subst e1; subst e2
        exact hc j hlt
      have hxc : wr.cell? ⟨w1.heap.size, j, none⟩ = some (.int .u8 (sp.getD j 0)) := by
        rw [hbl.cell, inc_at _ _ (by omega)]
      have hxf := hbl.frozen j
      have hxr := hspb.getD j
      have hj0 : (0 : Int) ≤ j := by omega
      have hj1 : (j : Int) < len0 := by omega
      have hst := inc_step sp j (by omega)
      have hset := hbl.set j (.int .u8 ((sp.getD j 0 + 1) % 256))
      rw [hst] at hset
      have HSET : Hid (Blk (wr.setCell ⟨w1.heap.size, j, none⟩ (.int .u8 ((sp.getD j 0 + 1) % 256))) w1.heap.size (bv (inc sp (j + 1)))) := hset
      clear hset hst
      have HF : j < k ∨ k + m ≤ j → sp.getD j 0 = bs.getD j 0 := hfar.out j
      generalize sp.getD j 0 = x at *
      by_cases hjk : (j : Int) < k
      · have hxx : x = bs.getD j 0 := HF (by omega)
        rw [← hxx] at hbc
        clear hxx HF
        go_wp2
        go_quiet (fail)
        go_wp2
        go_roundw
        case rel => exact ⟨j + 1, by omega, by go_num, (round_end HSET.out hgr).1, (round_end HSET.out hgr).2⟩
        case measure => simp [intOf]; omega
      · have hd1 : decide ((j : Int) < k) = false := by simpa using hjk
        have hd1n : decide (j < k) = false := by simp; omega
        have hwr : IntKind.i64.wrap ((k : Int) + m) = (k : Int) + m := by rw [IntKind.wrap_i64]; omega
        by_cases hjm : (k : Int) + m ≤ j
        · have hxx : x = bs.getD j 0 := HF (by omega)
          rw [← hxx] at hbc
          clear hxx HF
          go_wp2
          go_quiet (fail)
          go_wp2
          go_roundw
          case rel => exact ⟨j + 1, by omega, by go_num, (round_end HSET.out hgr).1, (round_end HSET.out hgr).2⟩
          case measure => simp [intOf]; omega
        · have hd2 : decide ((k : Int) + m ≤ j) = false := by simpa using hjm
          have hd2n : decide (k + m ≤ j) = false := by simp; omega
          clear HF
          go_wp2
          go_quiet (fail)
          go_wp2
          go_roundw
          case rel => exact ⟨j + 1, by omega, by go_num, (round_end HSET.out hgr).1, (round_end HSET.out hgr).2⟩
          case measure => simp [intOf]; omega
    · have kc := HCR.out _ _ _ cc _ Rcr
      have kb := HCR.out _ _ _ cap0 _ Rbr
      go_wp2_with (go_at_call 5; refine (live_any _).mono ?_; rintro e w' ⟨rfl, hb⟩)
      go_ret
      have hb : Below wr.heap.size wr w' := by assumption
      exact ⟨rfl, ((grown_below G2).trans (Below.mono ⟨hgr.os, hgr.tape, hgr.output, hgr.size, fun i hi => hgr.block i (by have := hg2.size; omega) (by simp; omega)⟩ HG1.size)).trans (hb.mono (Nat.le_trans G2.size hgr.size))⟩

theorem fieldPlaces_walk (a0 : Option Addr) (len0 cap0 : Nat) (z0 : List Int) (a1 : Int) (a2 : Int) (a3 : Int) (w : World) (w0 : IsRow .u8 w a0 len0 cap0 z0) (w1 : (Lit.int .i64 a1).wf = true) (w2 : (Lit.int .u64 a2).wf = true) (w3 : (Lit.int .i64 a3).wf = true) :
    Calls Try.prog 3 #[.slice a0 len0 cap0, .int .i64 a1, .int .u64 a2, .int .i64 a3] w fun e w' => e = .returned (.bool true) ∧ Below w.heap.size w w' := by
  have R := w0.row
  have hlm := R.le
  have hnil : a0 = none → cap0 = 0 := by
    rcases w0 with ⟨_, _, rfl, _⟩ | ⟨_, rfl, _⟩
    · exact fun _ => rfl
    · intro e; cases e
  have b1 := wf_i64 w1
  have b2 := wf_u64 w2
  by_cases h : (3000 : Int) < len0
  · have hm : len0 ≤ 9223372036854775807 := R.le
    clear w0 R
    go_enter Try.func3, Try.ntmps3
    go_wp2_with (go_at_call 5; refine (live_any _).mono ?_; rintro e w' ⟨rfl, hb⟩)
    go_ret
    exact ⟨rfl, by assumption⟩
  by_cases hck : ckE a2 a3 = 0
  · obtain ⟨hW, _⟩ := ckE_ok hck
    have hm := isW_pos hW
    by_cases hi : inB len0 a1 a3 = true
    · have hi' := hi
      simp only [inB, decide_eq_true_eq] at hi'
      obtain ⟨k, rfl⟩ := Int.eq_ofNat_of_zero_le hi'.1
      obtain ⟨m, rfl⟩ := Int.eq_ofNat_of_zero_le hi'.2.1
      obtain ⟨b, off, rfl, _⟩ := R.cells (by omega)
      exact places_ok b off len0 cap0 _ k a2 m w R h (by omega) hck b2.1
    · exact places_bad a0 len0 cap0 _ a1 a2 a3 w R hnil h 9 (by decide) (fun a c w => set_out a len0 c a1 a2 a3 w hlm b1.2 hck (by simpa using hi))
  · exact places_bad a0 len0 cap0 _ a1 a2 a3 w R hnil h (ckE a2 a3) (by simpa using hck) (fun a c w => set_no a len0 c a1 a2 a3 w hck)
end Go.Proofs.Ythnehebkkfegdab
