/- The walk of LzRuns. -/
import Derived.Test.YtcffncmljfahoabPI
import Derived.Deep.Draws
import Derived.Deep.QuietTactic
namespace Go.Proofs.Ytcffncmljfahoab
open Go.RowKit
set_option linter.unusedSimpArgs false
set_option linter.unusedVariables false

theorem jon_ok (qs : List Sq) (size : Int) (b : List Int) (h : Jok qs size) : jon qs size b = (b ++ jcat qs, 0) := by
  induction qs generalizing size b with
  | nil => simp [jon, jcat]
  | cons q r ih =>
    rw [jon, if_pos h.1, ih _ _ h.2]
    simp [jcat]
theorem join_ok {qs : List Sq} (hne : qs ≠ []) (h : Jok qs 0) : join qs = (jcat qs, 0) := by
  unfold join
  rw [if_neg (by rw [List.isEmpty_iff]; exact hne), jon_ok _ _ _ h]
  simp
theorem pdec_max (bs : List Int) : pdec bs 1048576 = dec bs 1048576 (bs.length + 1) [] [] 0 := by unfold pdec; rw [if_neg (by omega)]
theorem run_jok {bs : List Int} {n : Int} (h1 : 1 ≤ bs.length ∧ bs.length ≤ 14) (h2 : 4 ≤ n ∧ n ≤ 5000) : Jok [(bs, (bs.length : Int), n), ([], 0, 0)] 0 := by
  refine ⟨?_, ?_, trivial⟩
  · unfold jerr
    rw [if_neg (by simp; omega), if_neg (by simp only; omega), if_neg (by simp only; omega)]
  · unfold jerr
    rw [if_neg (by simp), if_neg (by simp only [List.length_nil]; omega), if_neg (by simp only [List.length_nil]; omega)]
theorem run_unp (bs : List Int) (n : Nat) : unp [(bs, (bs.length : Int), (n : Int)), ([], 0, 0)] [] = cpy bs.length n bs := by
  simp [unp, cpy]
theorem run_jlen {bs : List Int} {n : Int} (h1 : bs.length ≤ 14) (h2 : 4 ≤ n ∧ n ≤ 5000) : (jcat [(bs, (bs.length : Int), n), ([], 0, 0)]).length ≤ 4194304 := by
  have t1 := jbytes_le (l := false) (q := (bs, (bs.length : Int), n)) (by show bs.length ≤ 1048576; omega) (by show n ≤ 1048576; omega)
  have t2 := jbytes_le (l := true) (q := ([], 0, 0)) (by simp) (by simp)
  simp only [jcat, List.length_append, List.isEmpty_cons, List.isEmpty_nil, List.length_nil]
  omega
/-- the two sequences that the law makes -/
theorem run_mod {w : World} {a : Option Addr} {len cap : Nat} {bs : List Int} {n : Int} (B : Byte w a len cap bs) (h1 : 1 ≤ len ∧ len ≤ 14) (h2 : 4 ≤ n ∧ n ≤ 5000) :
    SMod (w.alloc (.cells #[.slice a len cap, .int .i64 len, .int .i64 n, .slice none 0 0, .int .i64 0, .int .i64 0] 28)) (some ⟨w.heap.size, 0, none⟩) 2 [⟨a, len, cap, len, n⟩, ⟨none, 0, 0, 0, 0⟩] [(bs, (bs.length : Int), n), ([], 0, 0)] := by
  have hl := B.row.len_eq
  have G := World.grownBy_alloc w (.cells #[.slice a len cap, .int .i64 len, .int .i64 n, .slice none 0 0, .int .i64 0, .int .i64 0] 28) none
  refine ⟨⟨⟨rfl, by decide, fun _ => ⟨w.heap.size, 0, rfl, ?_⟩⟩, ?_, ?_⟩, ?_, by decide⟩
  · intro i s hi
    match i, hi with
    | 0, hi => simp at hi; subst hi; exact ⟨by simp, by simp, by simp⟩
    | 1, hi => simp at hi; subst hi; exact ⟨by simp, by simp, by simp⟩
    | i + 2, hi => simp at hi
  · exact .snoc (.snoc .nil ⟨(B.grown G).row, by simp [hl], rfl, B.nil, B.nc, B.cm⟩) ⟨Row.none0 _, rfl, rfl, fun _ => rfl, Nat.le_refl _, Nat.zero_le _⟩
  · intro q hq
    simp at hq
    rcases hq with rfl | rfl
    · exact ⟨by simp only; omega, by simp only; omega⟩
    · exact ⟨by simp, by simp⟩
  · intro q hq
    simp at hq
    rcases hq with rfl | rfl
    · simp only; omega
    · simp

set_option maxHeartbeats 4000000 in
theorem lzRuns_walk (a : Option Addr) (len cap : Nat) (zs : List Int) (n : Int) (w : World) (hz : IsRow .u8 w a len cap zs) (hn : (Lit.int .i64 n).wf = true) :
    Calls Try.prog 3 #[.slice a len cap, .int .i64 n] w fun e w' => e = .returned (.bool true) ∧ Below w.heap.size w w' := by
  have hnr := wf_i64 hn
  have B := hz.byte
  generalize zs.take len = bs at B
  clear hz hn
  have hcm : cap ≤ 9223372036854775807 := B.cm
  have hnc := B.nc
  by_cases hg : len < 1 ∨ 14 < len ∨ n < 4 ∨ 5000 < n
  · rcases hg with hg | hg | hg | hg
    all_goals
      go_enter Try.func3, Try.ntmps3
      go_wp2_with (first | (go_at_call 4; refine (live_any _).mono ?_; rintro e w4 ⟨rfl, g3⟩; have H4 : Hid _ := g3; clear g3))
      all_goals
        go_ret
        exact ⟨rfl, grown_below (Hid.out (by assumption))⟩
  · have h1 : 1 ≤ len ∧ len ≤ 14 := by omega
    have h2 : 4 ≤ n ∧ n ≤ 5000 := by omega
    have hlb := B.row.len_eq
    have hM := run_mod B h1 h2
    have hj := pjoin_any (some ⟨w.heap.size, 0, none⟩) 2 2 _ _ _ hM (by decide)
    rw [join_ok (by simp) (run_jok (by omega) h2)] at hj
    have hjl := run_jlen (bs := bs) (n := n) (by omega) h2
    have hdj := dec_of_join [(bs, (bs.length : Int), n), ([], 0, 0)] (by simp) (run_jok (by omega) h2) 1048576 (Int.le_refl _)
    obtain ⟨m, rfl⟩ := Int.eq_ofNat_of_zero_le (by omega : 0 ≤ n)
    rw [run_unp] at hdj
    generalize jcat [(bs, (bs.length : Int), (m : Int)), ([], 0, 0)] = C at hj hjl hdj
    have HB : Hid _ := B
    have HD : Hid _ := hdj
    clear B hM hdj hg
    have G0 : Hid (w.grownBy (w.alloc (.cells #[.slice a len cap, .int .i64 len, .int .i64 (m : Int), .slice none 0 0, .int .i64 0, .int .i64 0] 28)) none) := World.grownBy_alloc _ _ _
    have HLB : Hid _ := hlb
    clear hlb
    go_enter Try.func3, Try.ntmps3
    go_wp2_with fail
    all_goals try (exfalso; rename_i h _; omega)
    refine hj.mono ?_
    intro e w1 k1
    obtain ⟨a1, n1, c1, rfl, B1, g1⟩ := k1
    have hl1 : C.length = n1 := B1.row.len_eq
    have hd := pdecode_any a1 n1 c1 C 1048576 w1 B1.row (by omega) B1.nc B1.cm (by omega)
    rw [pdec_max, HD.out] at hd
    have H1 : Hid _ := grown_trans G0.out g1
    clear hj g1 B1 G0 hl1 HD
    simp only
    go_wp2_with fail
    refine hd.mono ?_
    intro e w2 k2
    obtain ⟨a2, n2, c2, rfl, B2, g2⟩ := k2
    have hn2 : (cpy bs.length m bs).length = n2 := B2.row.len_eq
    rw [cpy_len, HLB.out] at hn2
    have H2 : Hid _ := And.intro (grown_trans H1.out g2) B2
    clear hd g2 B2 H1
    simp only
    subst hn2
    go_wp2_with (first | (go_at_call 7; with_reducible refine (num_any _ _).mono ?_; rintro e w' ⟨rfl, rfl⟩))
    have d1 : decide ((len : Int) < 1) = false := decide_eq_false (by omega)
    have d2 : decide ((14 : Int) < (len : Int)) = false := decide_eq_false (by omega)
    have d3 : decide ((m : Int) < 4) = false := decide_eq_false (by omega)
    have d4 : decide ((5000 : Int) < (m : Int)) = false := decide_eq_false (by omega)
    simp only [d1, d2, d3, d4, Bool.or_self, Bool.or_false, Bool.false_or]
    clear d1 d2 d3 d4
    go_loopw [10] (fun vi wr => ∃ j : Nat, vi = .int .i64 j ∧ j ≤ len + m ∧ Hid (w.grownBy wr none ∧ Byte wr a2 (len + m) c2 (cpy bs.length m bs))) (fun vi _ => len + m - (intOf vi).toNat)
    case atStart => exact ⟨0, rfl, Nat.zero_le _, H2⟩
    case round =>
      clear H2
      obtain ⟨j, rfl, hj, HW⟩ := hrel
      obtain ⟨hg, hB⟩ := HW.out
      by_cases k1 : j < len + m
      · obtain ⟨b2, o2, rfl, hc2⟩ := hB.row.cells (by omega)
        obtain ⟨b1, o1, rfl, hc1⟩ := (HB.out.row.grown hg).cells (by omega)
        have hper := cpy_per bs (by rw [HLB.out]; omega) m j (by rw [HLB.out]; exact k1)
        rw [HLB.out] at hper
        have hrl : j % len < len := Nat.mod_lt _ (by omega)
        have cx := hc2 j k1
        have cy := hc1 (j % len) hrl
        rw [HLB.out, hper] at cx
        have hrem : (j : Int).tmod (len : Int) = ((j % len : Nat) : Int) := by rw [Int.tmod_eq_emod_of_nonneg (by omega)]; omega
        have hbx := HB.out.row.byt.getD (j % len)
        generalize j % len = r at cy cx hrem hrl hbx
        generalize bs.getD r 0 = x at cx cy hbx
        have HG2 : Hid _ := And.intro hg hB
        clear hper hc1 hc2 hg hB HW
        go_wp2_with fail
        go_region
        have HG3 : Hid _ := And.intro (grown_trans HG2.out.1 (grown_drew wr)) (HG2.out.2.grown (grown_drew wr))
        clear HG2 cx cy
        generalize wr.drew = w5 at HG3 ⊢
        go_wp2
        go_roundw
        case rel => exact ⟨j + 1, by go_num, by omega, HG3⟩
        case measure => simp [intOf]; omega
      · obtain rfl : j = len + m := by omega
        clear hB
        have HG : Hid _ := hg
        clear hg HW
        go_wp2_with (first | (go_at_call 4; refine (live_any _).mono ?_; rintro e w4 ⟨rfl, g3⟩; have H4 : Hid _ := grown_trans HG.out g3; clear g3))
        go_ret
        exact ⟨rfl, grown_below H4.out⟩
end Go.Proofs.Ytcffncmljfahoab
