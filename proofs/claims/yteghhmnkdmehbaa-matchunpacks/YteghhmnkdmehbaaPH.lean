/- The program's check. -/
import Derived.Test.YteghhmnkdmehbaaPG
import Derived.Test.YteghhmnkdmehbaaRN
import Derived.Test.YteghhmnkdmehbaaAS
namespace Go.Proofs.Yteghhmnkdmehbaa
open Go.RowKit
set_option linter.unusedSimpArgs false
set_option linter.unusedVariables false

/-- what is wrong with the first of sequences -/
def jonE : List Sq → Int → Int
  | [], _ => 0
  | q :: r, size => if jerr r.isEmpty size q = 0 then jonE r (size + q.1.length + q.2.2) else jerr r.isEmpty size q
theorem jon_err (qs : List Sq) (size : Int) (b : List Int) : (jon qs size b).2 = jonE qs size := by
  induction qs generalizing size b with
  | nil => rfl
  | cons q r ih =>
    rw [jon, jonE]
    split
    · exact ih _ _
    · rfl
/-- sequences of moderate literals -/
structure SMod (w : World) (a : Option Addr) (len : Nat) (ss : List SqV) (qs : List Sq) : Prop where
  arg : SArg w a len ss qs
  lit : ∀ q ∈ qs, q.1.length ≤ 16777216
  le : len ≤ 16777216
theorem drop_at {qs : List Sq} {j : Nat} {q : Sq} (h : qs[j]? = some q) : qs.drop j = q :: qs.drop (j + 1) := by
  obtain ⟨h1, h2⟩ := List.getElem?_eq_some_iff.1 h
  rw [List.drop_eq_getElem_cons h1, h2]
theorem empty_at (qs : List Sq) (j : Nat) : (qs.drop (j + 1)).isEmpty = decide (qs.length ≤ j + 1) := by
  by_cases h : qs.length ≤ j + 1
  · rw [List.drop_eq_nil_of_le h, decide_eq_true h]; rfl
  · rw [decide_eq_false h, List.drop_eq_getElem_cons (by omega)]; rfl

set_option maxRecDepth 4000 in
set_option maxHeartbeats 2000000 in
theorem check_any (a : Option Addr) (len cap : Nat) (ss : List SqV) (qs : List Sq) (w : World) (M : SMod w a len ss qs) :
    Calls Try.prog 27 #[.slice a len cap] w fun e w' => e = .returned (.int .i64 (join qs).2) ∧ w.grownBy w' none := by
  have hsl := M.arg.row.len_eq
  have hql := M.arg.sqs.len
  have hle := M.le
  by_cases h0 : len = 0
  · subst h0
    obtain rfl : qs = [] := List.eq_nil_of_length_eq_zero (by omega)
    go_enter Try.func27, Try.ntmps27
    go_wp2
    go_ret
    exact ⟨rfl, World.grownBy.refl _ _⟩
  · have hj0 : (join qs).2 = jonE qs 0 := by
      unfold join
      rw [if_neg (by rw [List.isEmpty_iff]; intro e; have := congrArg List.length e; simp only [List.length_nil] at this; omega), jon_err]
    rw [hj0]
    have HQ : Hid (qs.length = len) := by show qs.length = len; omega
    have HM : Hid _ := M
    clear M hj0 hql hsl
    go_enter Try.func27, Try.ntmps27
    go_wp2_with fail
    go_loopw [3, 12] (fun vl vi wr => ∃ (j : Nat) (size : Int), vi = .int .i64 j ∧ vl = .int .i64 (1048576 - size) ∧ 0 ≤ size ∧ size ≤ 1048576 ∧ j ≤ len ∧ Hid (w.grownBy wr none) ∧ Hid (jonE (qs.drop j) size = jonE qs 0)) (fun _ vi _ => len - (intOf vi).toNat)
    case atStart => exact ⟨0, 0, rfl, rfl, by omega, by omega, by omega, World.grownBy.refl _ _, rfl⟩
    case round =>
      obtain ⟨j, size, rfl, rfl, hs0, hs1, hj, HG, HE⟩ := hrel
      by_cases k1 : j < len
      · obtain ⟨s, q, hs, hq, ok⟩ := (HM.out.arg.sqs.grown HG.out).get j (by rw [HM.out.arg.row.len_eq]; exact k1)
        obtain ⟨ba, oa, rfl, ha⟩ := (HM.out.arg.row.grown HG.out).cells (by omega)
        obtain ⟨x0, x1, x2⟩ := ha j s hs
        have hqm : q ∈ qs := List.mem_of_getElem? hq
        have hbnd := HM.out.arg.bnd q hqm
        have hlit := HM.out.lit q hqm
        have hd := drop_at hq
        have hem := empty_at qs j
        have he := HE.out
        rw [hd] at he
        clear HE
        obtain ⟨lit, o0, m0⟩ := q
        obtain ⟨sa, n, sc, o, m⟩ := s
        have e1 := ok.off
        have e2 := ok.m
        have hll := ok.row.len_eq
        simp only at e1 e2 hll hlit x0 x1 x2
        subst e1 e2
        rw [HQ.out] at hem
        obtain ⟨hb1, hb2⟩ := hbnd
        simp only at hb1 hb2
        have HE : Hid _ := he
        rw [hll] at hlit
        clear hd he ok hs hq hqm ha
        by_cases hlast : j + 1 = len
        · rw [decide_eq_true (by omega)] at hem
          have hnl : ((j : Int) == (len : Int) - 1) = true := by simp; omega
          have HEm : Hid _ := hem
          clear hem
          by_cases c1 : o = 0
          · subst c1
            by_cases c2 : m = 0
            · subst c2
              by_cases c3 : 1048576 - size < n
              · have ej : jerr true size (lit, 0, 0) = 2 := by
                  unfold jerr
                  rw [if_neg (by simp), if_neg (by simp only; omega), if_pos (by left; simp only [hll]; omega)]
                have he := HE.out
                rw [jonE, HEm.out, ej, if_neg (by decide)] at he
                have HF : Hid _ := he
                clear he HE ej
                go_wp2
                go_ret
                refine ⟨?_, grown_trans HG.out (World.grownBy_alloc _ _ _)⟩
                rw [← HF.out]
                rfl
              · have ej : jerr true size (lit, 0, 0) = 0 := by
                  unfold jerr
                  rw [if_neg (by simp), if_neg (by simp only; omega), if_neg (by simp only [hll]; omega)]
                have he := HE.out
                rw [jonE, HEm.out, ej, if_pos rfl] at he
                simp only [hll] at he
                have HF : Hid _ := he
                have HG2 : Hid (w.grownBy (wr.alloc (.cells #[.slice sa n sc, .int .i64 0, .int .i64 0] 51)) none) := grown_trans HG.out (World.grownBy_alloc _ _ _)
                clear he HE ej HG
                go_wp2
                go_roundw
                case rel => exact ⟨j + 1, size + n + 0, by go_num, by go_num, by omega, by omega, by omega, HG2, HF⟩
                case measure => simp [intOf]; omega
            · have c2' : (m == 0) = false := by simp [c2]
              have ej : jerr true size (lit, 0, m) = 1 := by
                unfold jerr
                rw [if_pos (by left; exact ⟨rfl, Or.inr c2⟩)]
              have he := HE.out
              rw [jonE, HEm.out, ej, if_neg (by decide)] at he
              have HF : Hid _ := he
              clear he HE ej
              go_wp2
              go_ret
              refine ⟨?_, grown_trans HG.out (World.grownBy_alloc _ _ _)⟩
              rw [← HF.out]
              rfl
          · have c1' : (o == 0) = false := by simp [c1]
            have ej : jerr true size (lit, o, m) = 1 := by
              unfold jerr
              rw [if_pos (by left; exact ⟨rfl, Or.inl c1⟩)]
            have he := HE.out
            rw [jonE, HEm.out, ej, if_neg (by decide)] at he
            have HF : Hid _ := he
            clear he HE ej
            go_wp2
            go_ret
            refine ⟨?_, grown_trans HG.out (World.grownBy_alloc _ _ _)⟩
            rw [← HF.out]
            rfl
        · rw [decide_eq_false (by omega)] at hem
          have hnl : ((j : Int) == (len : Int) - 1) = false := by simp; omega
          have HEm : Hid _ := hem
          clear hem
          by_cases c1 : o < 1
          · have ej : jerr false size (lit, o, m) = 1 := by
              unfold jerr
              rw [if_pos (by right; exact ⟨rfl, Or.inl c1⟩)]
            have he := HE.out
            rw [jonE, HEm.out, ej, if_neg (by decide)] at he
            have HF : Hid _ := he
            clear he HE ej
            go_wp2
            go_ret
            refine ⟨?_, grown_trans HG.out (World.grownBy_alloc _ _ _)⟩
            rw [← HF.out]
            rfl
          · by_cases c2 : 65535 < o
            · have ej : jerr false size (lit, o, m) = 1 := by
                unfold jerr
                rw [if_pos (by right; exact ⟨rfl, Or.inr (Or.inl c2)⟩)]
              have he := HE.out
              rw [jonE, HEm.out, ej, if_neg (by decide)] at he
              have HF : Hid _ := he
              clear he HE ej
              go_wp2
              go_ret
              refine ⟨?_, grown_trans HG.out (World.grownBy_alloc _ _ _)⟩
              rw [← HF.out]
              rfl
            · by_cases c3 : m < 4
              · have ej : jerr false size (lit, o, m) = 1 := by
                  unfold jerr
                  rw [if_pos (by right; exact ⟨rfl, Or.inr (Or.inr c3)⟩)]
                have he := HE.out
                rw [jonE, HEm.out, ej, if_neg (by decide)] at he
                have HF : Hid _ := he
                clear he HE ej
                go_wp2
                go_ret
                refine ⟨?_, grown_trans HG.out (World.grownBy_alloc _ _ _)⟩
                rw [← HF.out]
                rfl
              · by_cases c4 : size + n < o
                · have ej : jerr false size (lit, o, m) = 9 := by
                    unfold jerr
                    rw [if_neg (by simp; omega), if_pos (by simp only [hll]; omega)]
                  have he := HE.out
                  rw [jonE, HEm.out, ej, if_neg (by decide)] at he
                  have HF : Hid _ := he
                  clear he HE ej
                  go_wp2
                  go_ret
                  refine ⟨?_, grown_trans HG.out (World.grownBy_alloc _ _ _)⟩
                  rw [← HF.out]
                  rfl
                · by_cases c5 : 1048576 - size - n < m
                  · have ej : jerr false size (lit, o, m) = 2 := by
                      unfold jerr
                      rw [if_neg (by simp; omega), if_neg (by simp only [hll]; omega), if_pos (by right; simp only [hll]; omega)]
                    have he := HE.out
                    rw [jonE, HEm.out, ej, if_neg (by decide)] at he
                    have HF : Hid _ := he
                    clear he HE ej
                    go_wp2
                    go_ret
                    refine ⟨?_, grown_trans HG.out (World.grownBy_alloc _ _ _)⟩
                    rw [← HF.out]
                    rfl
                  · have ej : jerr false size (lit, o, m) = 0 := by
                      unfold jerr
                      rw [if_neg (by simp; omega), if_neg (by simp only [hll]; omega), if_neg (by simp only [hll]; omega)]
                    have he := HE.out
                    rw [jonE, HEm.out, ej, if_pos rfl] at he
                    simp only [hll] at he
                    have HF : Hid _ := he
                    have HG2 : Hid (w.grownBy (wr.alloc (.cells #[.slice sa n sc, .int .i64 o, .int .i64 m] 51)) none) := grown_trans HG.out (World.grownBy_alloc _ _ _)
                    clear he HE ej HG
                    go_wp2
                    go_roundw
                    case rel => exact ⟨j + 1, size + n + m, by go_num, by go_num, by omega, by omega, by omega, HG2, HF⟩
                    case measure => simp [intOf]; omega
      · obtain rfl : j = len := by omega
        have he := HE.out
        rw [List.drop_eq_nil_of_le (by rw [HQ.out]; exact Nat.le_refl _)] at he
        have HF : Hid _ := he
        have hg := HG.out
        clear he HE HM
        go_wp2
        go_ret
        exact ⟨by rw [← HF.out]; rfl, hg⟩
end Go.Proofs.Yteghhmnkdmehbaa
