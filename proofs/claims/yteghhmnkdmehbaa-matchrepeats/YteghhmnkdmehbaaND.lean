/- The walk of MatchRepeats. -/
import Derived.Test.YteghhmnkdmehbaaNB
namespace Go.Proofs.Yteghhmnkdmehbaa
open Go.RowKit
set_option linter.unusedSimpArgs false
set_option linter.unusedVariables false

/-- a text again and again, n bytes of it -/
def agn (bs : List Int) (n : Nat) : List Int := (List.range n).map fun i => bs.getD (i % bs.length) 0
theorem agn_len (bs : List Int) (n : Nat) : (agn bs n).length = n := by unfold agn; simp
theorem agn_get (bs : List Int) (n i : Nat) (h : i < n) : (agn bs n).getD i 0 = bs.getD (i % bs.length) 0 := by
  unfold agn
  rw [List.getD_eq_getElem?_getD, map_range_get _ _ _ h]
  rfl
theorem agn_rep (bs : List Int) (n : Nat) : Rep6 (agn bs n) bs.length := by
  intro i hi
  rw [agn_len] at hi
  rw [agn_get _ _ _ hi, agn_get _ _ _ (by omega), Nat.add_mod_right]
theorem agn_byt {bs : List Int} (h : Byt bs) (n : Nat) : Byt (agn bs n) := by
  intro x hx
  unfold agn at hx
  rw [List.mem_map] at hx
  obtain ⟨i, _, rfl⟩ := hx
  exact h.getD _
/-- the first j bytes are laid -/
def agv (bs : List Int) (n j : Nat) : List Value := (List.range n).map fun i => Value.int .u8 (if i < j then bs.getD (i % bs.length) 0 else 0)
theorem agv_zero (bs : List Int) (n : Nat) : agv bs n 0 = List.replicate n (.int .u8 0) := by
  rw [List.eq_replicate_iff]
  refine ⟨by simp [agv], fun v hv => ?_⟩
  unfold agv at hv
  rw [List.mem_map] at hv
  obtain ⟨s, _, rfl⟩ := hv
  rfl
theorem agv_all (bs : List Int) (n : Nat) : agv bs n n = bv (agn bs n) := by
  unfold agv bv agn
  rw [List.map_map]
  apply List.map_congr_left
  intro i hi
  rw [List.mem_range] at hi
  simp [hi]
theorem agv_set (bs : List Int) (n j : Nat) : (agv bs n j).set j (.int .u8 (bs.getD (j % bs.length) 0)) = agv bs n (j + 1) := by
  unfold agv
  refine map_range_set _ _ _ _ _ ?_ ?_
  · rw [if_pos (by omega)]
  · intro i hi
    by_cases h : i < j
    · rw [if_pos h, if_pos (by omega)]
    · rw [if_neg h, if_neg (by omega)]
set_option maxHeartbeats 1000000 in
theorem matchRepeats_walk (a : Option Addr) (len cap : Nat) (zs : List Int) (n : Int) (w : World) (hz : IsRow .u8 w a len cap zs) (hn : (Lit.int .i64 n).wf = true) :
    Calls Try.prog 5 #[.slice a len cap, .int .i64 n] w fun e w' => e = .returned (.bool true) ∧ Below w.heap.size w w' := by
  obtain ⟨i5, hi, hz0, hz1, hz2⟩ := info_parts Try.info5
  have hnr := wf_i64 hn
  have B := hz.byte
  generalize zs.take len = bs at B
  clear hz hn
  have hcm : cap ≤ 9223372036854775807 := B.cm
  have hnc := B.nc
  by_cases hl : len < 1 ∨ 64 < len ∨ n < 0 ∨ 20000 < n
  · have key : (∃ b1 b2 b3 b4 : Bool, decide ((len : Int) < 1) = b1 ∧ decide ((64 : Int) < (len : Int)) = b2 ∧ decide (n < 0) = b3 ∧ decide (20000 < n) = b4 ∧ (b1 || b2 || b3 || b4) = true) := by
      refine ⟨_, _, _, _, rfl, rfl, rfl, rfl, ?_⟩
      simp only [Bool.or_eq_true, decide_eq_true_eq]
      omega
    obtain ⟨b1, b2, b3, b4, e1, e2, e3, e4, hb⟩ := key
    clear hl B
    cases b1 <;> cases b2 <;> cases b3 <;> cases b4
    all_goals first | (exact absurd hb (by decide)) | skip
    all_goals
      clear hb
      go_enter Try.func5, Try.ntmps5
      go_wp2_with (first | (go_at_call 8; refine (live6_any _).mono ?_; rintro e w4 ⟨rfl, g3⟩; have H4 : Hid _ := g3; clear g3))
      go_ret
      exact ⟨rfl, grown_below (Hid.out (by assumption))⟩
  · obtain ⟨k, rfl⟩ := Int.eq_ofNat_of_zero_le (by omega : 0 ≤ n)
    have d1 : decide ((len : Int) < 1) = false := decide_eq_false (by omega)
    have d2 : decide ((64 : Int) < (len : Int)) = false := decide_eq_false (by omega)
    have d3 : decide ((k : Int) < 0) = false := decide_eq_false (by omega)
    have d4 : decide ((20000 : Int) < (k : Int)) = false := decide_eq_false (by omega)
    have hl1 : 1 ≤ len ∧ len ≤ 64 := by omega
    have hk : k ≤ 20000 := by omega
    obtain ⟨b, off, rfl, hc⟩ := B.row.cells (by omega)
    have hlb := B.row.len_eq
    have HB : Hid _ := And.intro B hc
    have HLB : Hid _ := hlb
    clear hl B hc hlb
    go_enter Try.func5, Try.ntmps5
    go_wp2_with (first | (at_make; refine wpList_make8 _ rfl _ _ 22 rfl i5 Try.underlying22 hi hz0 hz1 hz2 _ _ _ _ k rfl rfl rfl rfl (by omega) ?_))
    intro w1 b1 g1 s1
    clear d1 d2 d3 d4
    have HX : Hid (Blk w1 w.heap.size (agv bs k 0) ∧ w.grownBy w1 none) := ⟨by rw [agv_zero]; exact b1, g1⟩
    clear b1 g1 s1
    go_wp2
    go_loopw [6] (fun vi wr => ∃ (j : Nat), vi = .int .i64 j ∧ j ≤ k ∧ Hid (Blk wr w.heap.size (agv bs k j) ∧ w.grownBy wr none)) (fun vi _ => k - (intOf vi).toNat)
    case atStart => exact ⟨0, rfl, Nat.zero_le _, HX.out⟩
    case round =>
      clear HX
      obtain ⟨j, rfl, hj, HY⟩ := hrel
      by_cases c1 : j < k
      · have c0 := HY.out.1.cell j
        unfold agv at c0
        rw [map_range_get _ _ _ c1] at c0
        have f0 := HY.out.1.frozen j
        have hs := HY.out.1.set j (.int .u8 (bs.getD (j % bs.length) 0))
        rw [agv_set] at hs
        have HY2 : Hid _ := And.intro hs (grown_new HY.out.2 (grown_set wr w.heap.size j (.int .u8 (bs.getD (j % bs.length) 0))) (Nat.le_refl _))
        have hml : j % len < len := Nat.mod_lt _ (by omega)
        have cb := HB.out.2 (j % len) hml
        rw [← (grown_below HY.out.2).cell (p := ⟨b, off + j % len, none⟩) (cell_lt cb)] at cb
        rw [HLB.out] at HY2
        have hby := HB.out.1.row.byt.getD (j % len)
        generalize bs.getD (j % len) 0 = y at *
        have c2 : (j : Int) < (k : Int) := by omega
        have c3 : (j : Int).tmod (len : Int) = ((j % len : Nat) : Int) := rfl
        clear hs HY
        go_wp2
        go_roundw
        case rel => exact ⟨j + 1, by go_num, by omega, HY2⟩
        case measure => simp [intOf]; omega
      · obtain rfl : j = k := by omega
        have hb := HY.out.1
        rw [agv_all] at hb
        have hr := Blk.row hb (agn_byt HB.out.1.row.byt j) (by rw [agn_len]; unfold maxLen; omega)
        rw [agn_len] at hr
        obtain ⟨e1, e2⟩ := enc_rep (agn_rep bs j) (by rw [HLB.out]; omega) (by rw [HLB.out]; omega)
        have e3 := enc_ok (agn bs j) (by rw [agn_len]; omega)
        have e4 := agn_len bs j
        rw [e4] at e1
        have BT : Byte wr (some ⟨w.heap.size, 0, none⟩) j j (agn bs j) := ⟨hr, (fun e => by cases e), Nat.le_refl _, (by unfold maxLen; omega)⟩
        have he := encode_any (some ⟨w.heap.size, 0, none⟩) j j (agn bs j) wr BT (by omega) (by omega)
        have hri := fun a1 l1 c1 W B C => right_any (some ⟨w.heap.size, 0, none⟩) j j (agn bs j) a1 l1 c1 (enc (agn bs j)) W B C e3 (by omega)
        have HG : Hid _ := HY.out.2
        have HR : Hid _ := And.intro hri BT
        generalize jcat (enc (agn bs j)) = J at *
        clear hr hb HY HB hri BT e2 e3 e4 HLB c1
        go_wp2_with fail
        refine he.mono ?_
        intro e w2 k2
        obtain ⟨a2, n2, c2, rfl, B2, g2⟩ := k2
        have hn2 : J.length = n2 := B2.row.len_eq
        have HG2 : Hid _ := grown_trans HG.out g2
        have hrr := HR.out.1 a2 n2 c2 w2 (HR.out.2.grown g2) B2
        have hle : (n2 : Int) ≤ 256 + (j : Int) / 255 := by omega
        clear he B2 g2 HG hn2 e1 HR
        simp only
        go_wp2_with (first | (go_at_call 10; with_reducible refine (num_any _ _).mono ?_; rintro e w' ⟨rfl, rfl⟩))
        refine hrr.mono ?_
        rintro e w4 ⟨rfl, g4⟩
        have H5 : Hid _ := grown_trans HG2.out g4
        clear hrr g4 HG2
        go_wp2_with fail
        refine (live6_any _).mono ?_
        rintro e w5 ⟨rfl, g5⟩
        have H6 : Hid _ := grown_trans H5.out g5
        clear g5 H5
        go_wp2
        go_ret
        exact ⟨rfl, grown_below H6.out⟩
end Go.Proofs.Yteghhmnkdmehbaa
