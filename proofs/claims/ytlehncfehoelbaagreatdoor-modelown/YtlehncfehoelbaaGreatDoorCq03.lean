/- The document's fields. -/
import Derived.Test.YtlehncfehoelbaaGreatDoorCq02
namespace Go.Proofs.YtlehncfehoelbaaGreatDoor
open Go.RowKit
set_option maxRecDepth 100000
set_option linter.unusedSimpArgs false
set_option linter.unusedVariables false
def atb (a : Atr) : Bool := !txt a.n 1 255 || decide (4096 < a.v.length)
def twin (l : List Atr) (i k : Nat) : Bool := (List.range k).any fun j => (l[j]?.map (·.n)) == (l[i]?.map (·.n))
theorem twice_succ (l : List Atr) (i : Nat) : twice l (i + 1) = (twice l i || twin l i i) := by
 unfold twice twin
 rw [List.range_succ, List.any_append]
 simp
theorem twice_mono {l : List Atr} {i n : Nat} (h : twice l i = true) (hi : i ≤ n) : twice l n = true := by
 unfold twice at *
 rw [List.any_eq_true] at *
 obtain ⟨j, hj, e⟩ := h
 exact ⟨j, List.mem_range.2 (by have := List.mem_range.1 hj; omega), e⟩
theorem twin_mono {l : List Atr} {i k n : Nat} (h : twin l i k = true) (hi : k ≤ n) : twin l i n = true := by
 unfold twin at *
 rw [List.any_eq_true] at *
 obtain ⟨j, hj, e⟩ := h
 exact ⟨j, List.mem_range.2 (by have := List.mem_range.1 hj; omega), e⟩
theorem twin_succ {l : List AtV} {i k : Nat} {A B : AtV} (hA : l[i]? = some A) (hB : l[k]? = some B) : twin (l.map AtV.at) i (k + 1) = (twin (l.map AtV.at) i k || (B.n.toList == A.n.toList)) := by
 unfold twin
 rw [List.range_succ, List.any_append]
 simp [hA, hB, AtV.at]
theorem atb_snoc {l : List AtV} {i : Nat} {A : AtV} (h : l[i]? = some A) : ((l.map AtV.at).take (i + 1)).any atb = (((l.map AtV.at).take i).any atb || (!txt A.n.toList 1 255 || decide (4096 < A.v.length))) := by
 have hlt : i < l.length := by
  rcases Nat.lt_or_ge i l.length with k | k
  ·exact k
  ·rw [List.getElem?_eq_none k] at h; simp at h
 rw [List.take_succ_eq_append_getElem (by rw [List.length_map]; exact hlt), List.any_append]
 have e : l[i] = A := by rw [List.getElem?_eq_getElem hlt] at h; injection h
 simp [e, atb, AtV.at]
set_option maxHeartbeats 4000000 in
theorem rfields_any (X : EnV) (w : World) (ho : X.ok w) (ht : X.target.size ≤ 1000000) (hn : ∀ A ∈ X.attrs, A.n.size ≤ 1000000) : Calls Tryz.prog 60 #[X.val] w fun e w' => e = .returned (.int .i64 (fld X.en)) ∧ w.grownBy w' none := by
 obtain ⟨P, K, mo, uid, gid, ti, sz_, da, dl, dc, data, tg, dev, aa, al, ac, attrs⟩ := X
 simp only [EnV.val]
 simp only at ht hn
 obtain ⟨hrow, hdc, hats, hac⟩ := ho
 simp only at hrow hdc hats hac
 have hdl := hrow.len_eq
 have hal := hats.len_eq
 have hle1 := hrow.le
 have hle2 := hats.le
 have HE : Hid (fld (EnV.en ⟨P, K, mo, uid, gid, ti, sz_, da, dl, dc, data, tg, dev, aa, al, ac, attrs⟩) =
   if !inI mo 0 4095 || !inI uid 0 4294967295 || !inI gid 0 4294967295 || !inI ti 0 4294967295 then 1 else
   if (decide (K = 1) && !inI sz_ dl 1099511627775) || (decide (K = 3) && !txt tg.toList 1 4096) || (decide (3 < K) && !inI dev 0 4294967295) || decide (64 < al) then 1 else
   if (attrs.map AtV.at).any atb then 1 else if twice (attrs.map AtV.at) al then 110 else 0) := by
  show fld _ = _
  unfold fld EnV.en
  simp only [List.length_map]
  rw [hdl, hal]
  rfl
 generalize fld (EnV.en ⟨P, K, mo, uid, gid, ti, sz_, da, dl, dc, data, tg, dev, aa, al, ac, attrs⟩) = A at *
 have hg : w.grownBy (w.alloc (.cells #[.string P, .int .i64 K, .int .i64 mo, .int .i64 uid, .int .i64 gid, .int .i64 ti, .int .i64 sz_, .slice da dl dc, .string tg, .int .i64 dev, .slice aa al ac] 30)) none := xga _ _ none
 have HG : Hid _ := hg
 have HA : Hid _ := hats.grown hg
 have HL : Hid _ := hal
 clear hg hats hrow hdl hal
 cases c1 : inI mo 0 4095 with
 | false =>
  have HV : Hid (A = 1) := by
   show A = 1
   rw [HE.out, c1, if_pos (by simp)]
  go_enter Tryz.func60, Tryz.ntmps60
  go_wp2_with (first | (go_at_call 58; refine (in_any _ _ _ _).mono ?_; rintro e w' ⟨rfl, rfl⟩) | (go_at_call 89; refine (text_any _ _ _ _ ht).mono ?_; rintro e w' ⟨rfl, rfl⟩))
  go_ret
  exact ⟨by rw [HV.out]; rfl, HG.out⟩
 | true =>
  cases c2 : inI uid 0 4294967295 with
  | false =>
   have HV : Hid (A = 1) := by
    show A = 1
    rw [HE.out, c1, c2, if_pos (by simp)]
   go_enter Tryz.func60, Tryz.ntmps60
   go_wp2_with (first | (go_at_call 58; refine (in_any _ _ _ _).mono ?_; rintro e w' ⟨rfl, rfl⟩) | (go_at_call 89; refine (text_any _ _ _ _ ht).mono ?_; rintro e w' ⟨rfl, rfl⟩))
   go_ret
   exact ⟨by rw [HV.out]; rfl, HG.out⟩
  | true =>
   cases c3 : inI gid 0 4294967295 with
   | false =>
    have HV : Hid (A = 1) := by
     show A = 1
     rw [HE.out, c1, c2, c3, if_pos (by simp)]
    go_enter Tryz.func60, Tryz.ntmps60
    go_wp2_with (first | (go_at_call 58; refine (in_any _ _ _ _).mono ?_; rintro e w' ⟨rfl, rfl⟩) | (go_at_call 89; refine (text_any _ _ _ _ ht).mono ?_; rintro e w' ⟨rfl, rfl⟩))
    go_ret
    exact ⟨by rw [HV.out]; rfl, HG.out⟩
   | true =>
    cases c4 : inI ti 0 4294967295 with
    | false =>
     have HV : Hid (A = 1) := by
      show A = 1
      rw [HE.out, c1, c2, c3, c4, if_pos (by simp)]
     go_enter Tryz.func60, Tryz.ntmps60
     go_wp2_with (first | (go_at_call 58; refine (in_any _ _ _ _).mono ?_; rintro e w' ⟨rfl, rfl⟩) | (go_at_call 89; refine (text_any _ _ _ _ ht).mono ?_; rintro e w' ⟨rfl, rfl⟩))
     go_ret
     exact ⟨by rw [HV.out]; rfl, HG.out⟩
    | true =>
     have HE2 : Hid (A = if (decide (K = 1) && !inI sz_ dl 1099511627775) || (decide (K = 3) && !txt tg.toList 1 4096) || (decide (3 < K) && !inI dev 0 4294967295) || decide (64 < al) then 1 else
       if (attrs.map AtV.at).any atb then 1 else if twice (attrs.map AtV.at) al then 110 else 0) := by
      show A = _
      rw [HE.out, c1, c2, c3, c4, if_neg (by decide)]
     clear HE
     by_cases k1 : K = 1
     ·subst k1
      cases c5 : inI sz_ dl 1099511627775 with
      | false =>
       have HV : Hid (A = 1) := by
        show A = 1
        rw [HE2.out, if_pos (by simp [c5])]
       clear HE2
       go_enter Tryz.func60, Tryz.ntmps60
       go_wp2_with (first | (go_at_call 58; refine (in_any _ _ _ _).mono ?_; rintro e w' ⟨rfl, rfl⟩) | (go_at_call 89; refine (text_any _ _ _ _ ht).mono ?_; rintro e w' ⟨rfl, rfl⟩))
       go_ret
       exact ⟨by rw [HV.out]; rfl, HG.out⟩
      | true =>
       by_cases ha : 64 < al
       ·have HV : Hid (A = 1) := by
         show A = 1
         rw [HE2.out, if_pos (by simp [ha])]
        have hai : (64 : Int) < (al : Int) := by omega
        clear HE2
        go_enter Tryz.func60, Tryz.ntmps60
        go_wp2_with (first | (go_at_call 58; refine (in_any _ _ _ _).mono ?_; rintro e w' ⟨rfl, rfl⟩) | (go_at_call 89; refine (text_any _ _ _ _ ht).mono ?_; rintro e w' ⟨rfl, rfl⟩))
        go_ret
        exact ⟨by rw [HV.out]; rfl, HG.out⟩
       ·have HE3 : Hid (A = if (attrs.map AtV.at).any atb then 1 else if twice (attrs.map AtV.at) al then 110 else 0) := by
         show A = _
         rw [HE2.out, if_neg (by simp [ha, c5])]
        have hai : ¬ (64 : Int) < (al : Int) := by omega
        clear HE2
        go_enter Tryz.func60, Tryz.ntmps60
        go_wp2_with (first | (go_at_call 58; refine (in_any _ _ _ _).mono ?_; rintro e w' ⟨rfl, rfl⟩) | (go_at_call 89; refine (text_any _ _ _ _ ht).mono ?_; rintro e w' ⟨rfl, rfl⟩))
        go_loop [3] (fun i => ∃ j : Nat, j ≤ al ∧ i = .int .i64 j ∧ Hid (((attrs.map AtV.at).take j).any atb = false)) (fun i => al - (intOf i).toNat)
        case atStart => exact ⟨0, Nat.zero_le _, rfl, rfl⟩
        case round =>
         obtain ⟨j, hj, rfl, HB⟩ := hrel
         by_cases hlt : j < al
         ·obtain ⟨b, off, hb, hat⟩ := HA.out.at_ (by omega)
          subst hb
          obtain ⟨A1, hA1⟩ : ∃ A1, attrs[j]? = some A1 := ⟨_, List.getElem?_eq_getElem (by rw [HL.out]; exact hlt)⟩
          obtain ⟨d0, d1, hr1, hcp⟩ := hat j A1 hA1
          have hsz := hn A1 (List.mem_of_getElem? hA1)
          have hsn := atb_snoc hA1
          rw [HB.out, Bool.false_or, hr1.len_eq] at hsn
          have hl1 := hr1.le
          obtain ⟨An, Aa, Al, Ac, Av⟩ := A1
          simp only at d0 d1 hsz hsn hl1 hcp
          have HN : Hid _ := hsn
          clear hsn hat hr1 hA1
          have hlti : (j : Int) < (al : Int) := by omega
          cases c8 : txt An.toList 1 255 with
          | false =>
           have HV : Hid (A = 1) := by
            show A = 1
            have e5 : (attrs.map AtV.at).any atb = true := by
             rw [← List.take_append_drop (j + 1) (attrs.map AtV.at), List.any_append, HN.out, c8]; rfl
            rw [HE3.out, if_pos e5]
           go_wp2_with (go_at_call 89; refine (text_any _ _ _ _ hsz).mono ?_; rintro e w' ⟨rfl, rfl⟩)
           go_ret
           exact ⟨by rw [HV.out]; rfl, HG.out⟩
          | true =>
           by_cases hv9 : 4096 < Al
           ·have HV : Hid (A = 1) := by
             show A = 1
             have e5 : (attrs.map AtV.at).any atb = true := by
              rw [← List.take_append_drop (j + 1) (attrs.map AtV.at), List.any_append, HN.out, decide_eq_true hv9]; simp
             rw [HE3.out, if_pos e5]
            have hv9i : (4096 : Int) < (Al : Int) := by omega
            go_wp2_with (go_at_call 89; refine (text_any _ _ _ _ hsz).mono ?_; rintro e w' ⟨rfl, rfl⟩)
            go_ret
            exact ⟨by rw [HV.out]; rfl, HG.out⟩
           ·have HN2 : Hid (((attrs.map AtV.at).take (j + 1)).any atb = false) := by
             show List.any _ _ = false
             rw [HN.out, c8, decide_eq_false hv9]; rfl
            have hv9i : ¬ (4096 : Int) < (Al : Int) := by omega
            go_wp2_with (go_at_call 89; refine (text_any _ _ _ _ hsz).mono ?_; rintro e w' ⟨rfl, rfl⟩)
            go_round
            case rel => exact ⟨j + 1, by omega, by go_num, HN2⟩
            case measure => simp [intOf]; omega
         ·obtain rfl : j = al := by omega
          have e5 : (attrs.map AtV.at).any atb = false := by
           have := HB.out
           rw [List.take_of_length_le (by rw [List.length_map, HL.out]; exact Nat.le_refl _)] at this
           exact this
          have HE4 : Hid (A = if twice (attrs.map AtV.at) j then 110 else 0) := by
           show A = _
           rw [HE3.out, e5, if_neg (by decide)]
          clear e5 HE3 HB
          go_wp2
          have hx10 : (w.alloc (.cells #[.string P, .int .i64 1, .int .i64 mo, .int .i64 uid, .int .i64 gid, .int .i64 ti, .int .i64 sz_, .slice da dl dc, .string tg, .int .i64 dev, .slice aa j ac] 30)).cell? ⟨w.heap.size, 10, none⟩ = some (.slice aa j ac) := by simp
          generalize w.alloc (.cells #[.string P, .int .i64 1, .int .i64 mo, .int .i64 uid, .int .i64 gid, .int .i64 ti, .int .i64 sz_, .slice da dl dc, .string tg, .int .i64 dev, .slice aa j ac] 30) = W0 at *
          go_loopw [4] (fun i wr => ∃ y : Nat, y ≤ j ∧ i = .int .i64 y ∧ Hid (twice (attrs.map AtV.at) y = false) ∧ ∃ t, wr = W0.drewN t) (fun i _ => j - (intOf i).toNat)
          case atStart => exact ⟨0, Nat.zero_le _, rfl, rfl, 0, rfl⟩
          case round =>
           obtain ⟨y, hy, rfl, HB, t, rfl⟩ := hrel
           by_cases hlt2 : y < j
           ·obtain ⟨b, off, hb, hat⟩ := HA.out.at_ (by omega)
            subst hb
            obtain ⟨A1, hA1⟩ : ∃ A1, attrs[y]? = some A1 := ⟨_, List.getElem?_eq_getElem (by rw [HL.out]; exact hlt2)⟩
            obtain ⟨d0, d1, hr1, hcp⟩ := hat y A1 hA1
            have HAT : Hid _ := xai hat hA1
            clear hat hr1 hA1 d1 hcp
            have hlt2i : (y : Int) < (j : Int) := by omega
            go_wp2
            go_loopw [5] (fun i wr => ∃ z : Nat, z ≤ y ∧ i = .int .i64 z ∧ Hid (twin (attrs.map AtV.at) y z = false) ∧ ∃ t, wr = W0.drewN t) (fun i _ => y - (intOf i).toNat)
            case atStart => exact ⟨0, Nat.zero_le _, rfl, rfl, t, rfl⟩
            case round =>
             obtain ⟨z, hz, rfl, HC, t2, rfl⟩ := hrel
             by_cases hlt3 : z < y
             ·obtain ⟨B1, hB1⟩ : ∃ B1, attrs[z]? = some B1 := ⟨_, List.getElem?_eq_getElem (by rw [HL.out]; omega)⟩
              obtain ⟨f0, f1, hr2, hcp2⟩ := HAT.out.1 z B1 hB1
              have hsn := twin_succ HAT.out.2 hB1
              rw [HC.out, Bool.false_or] at hsn
              have HN : Hid _ := hsn
              clear f1 hr2 hcp2 hsn
              have hlt3i : (z : Int) < (y : Int) := by omega
              cases hq : (B1.n.toList == A1.n.toList) with
              | true =>
               have HV : Hid (A = 110) := by
                show A = 110
                have e6 : twin (attrs.map AtV.at) y y = true := twin_mono (k := z + 1) (by rw [HN.out]; exact hq) (by omega)
                have e7 : twice (attrs.map AtV.at) j = true := twice_mono (i := y + 1) (by rw [twice_succ, e6, Bool.or_true]) (by omega)
                rw [HE4.out, if_pos e7]
               go_wp2
               go_quiet (fail)
               go_wp2
               go_ret
               exact ⟨by rw [HV.out]; rfl, by first | exact drewG11 (drewG11 HG.out _) _ | exact drewG11 HG.out _⟩
              | false =>
               have HN2 : Hid (twin (attrs.map AtV.at) y (z + 1) = false) := by
                show twin _ _ _ = false
                rw [HN.out, hq]
               go_wp2
               go_quiet (fail)
               go_wp2
               exact ⟨⟨z + 1, by omega, by go_num, HN2, _, rfl⟩, by simp [intOf]; omega⟩
             ·obtain rfl : z = y := by omega
              have HN2 : Hid (twice (attrs.map AtV.at) (z + 1) = false) := by
               show twice _ _ = false
               rw [twice_succ, HB.out, HC.out]; rfl
              go_wp2
              go_roundw
              case rel => exact ⟨z + 1, by omega, by go_num, HN2, _, rfl⟩
              case measure => simp [intOf]; omega
           ·obtain rfl : y = j := by omega
            have HV : Hid (A = 0) := by
             show A = 0
             rw [HE4.out, HB.out]; rfl
            go_wp2
            go_ret
            exact ⟨by rw [HV.out]; rfl, drewG11 HG.out _⟩
     ·by_cases k3 : K = 3
      ·subst k3
       cases c6 : txt tg.toList 1 4096 with
       | false =>
        have HV : Hid (A = 1) := by
         show A = 1
         rw [HE2.out, if_pos (by simp [c6])]
        clear HE2
        go_enter Tryz.func60, Tryz.ntmps60
        go_wp2_with (first | (go_at_call 58; refine (in_any _ _ _ _).mono ?_; rintro e w' ⟨rfl, rfl⟩) | (go_at_call 89; refine (text_any _ _ _ _ ht).mono ?_; rintro e w' ⟨rfl, rfl⟩))
        go_ret
        exact ⟨by rw [HV.out]; rfl, HG.out⟩
       | true =>
        by_cases ha : 64 < al
        ·have HV : Hid (A = 1) := by
          show A = 1
          rw [HE2.out, if_pos (by simp [ha])]
         have hai : (64 : Int) < (al : Int) := by omega
         clear HE2
         go_enter Tryz.func60, Tryz.ntmps60
         go_wp2_with (first | (go_at_call 58; refine (in_any _ _ _ _).mono ?_; rintro e w' ⟨rfl, rfl⟩) | (go_at_call 89; refine (text_any _ _ _ _ ht).mono ?_; rintro e w' ⟨rfl, rfl⟩))
         go_ret
         exact ⟨by rw [HV.out]; rfl, HG.out⟩
        ·have HE3 : Hid (A = if (attrs.map AtV.at).any atb then 1 else if twice (attrs.map AtV.at) al then 110 else 0) := by
          show A = _
          rw [HE2.out, if_neg (by simp [ha, c6])]
         have hai : ¬ (64 : Int) < (al : Int) := by omega
         clear HE2
         go_enter Tryz.func60, Tryz.ntmps60
         go_wp2_with (first | (go_at_call 58; refine (in_any _ _ _ _).mono ?_; rintro e w' ⟨rfl, rfl⟩) | (go_at_call 89; refine (text_any _ _ _ _ ht).mono ?_; rintro e w' ⟨rfl, rfl⟩))
         go_loop [3] (fun i => ∃ j : Nat, j ≤ al ∧ i = .int .i64 j ∧ Hid (((attrs.map AtV.at).take j).any atb = false)) (fun i => al - (intOf i).toNat)
         case atStart => exact ⟨0, Nat.zero_le _, rfl, rfl⟩
         case round =>
          obtain ⟨j, hj, rfl, HB⟩ := hrel
          by_cases hlt : j < al
          ·obtain ⟨b, off, hb, hat⟩ := HA.out.at_ (by omega)
           subst hb
           obtain ⟨A1, hA1⟩ : ∃ A1, attrs[j]? = some A1 := ⟨_, List.getElem?_eq_getElem (by rw [HL.out]; exact hlt)⟩
           obtain ⟨d0, d1, hr1, hcp⟩ := hat j A1 hA1
           have hsz := hn A1 (List.mem_of_getElem? hA1)
           have hsn := atb_snoc hA1
           rw [HB.out, Bool.false_or, hr1.len_eq] at hsn
           have hl1 := hr1.le
           obtain ⟨An, Aa, Al, Ac, Av⟩ := A1
           simp only at d0 d1 hsz hsn hl1 hcp
           have HN : Hid _ := hsn
           clear hsn hat hr1 hA1
           have hlti : (j : Int) < (al : Int) := by omega
           cases c8 : txt An.toList 1 255 with
           | false =>
            have HV : Hid (A = 1) := by
             show A = 1
             have e5 : (attrs.map AtV.at).any atb = true := by
              rw [← List.take_append_drop (j + 1) (attrs.map AtV.at), List.any_append, HN.out, c8]; rfl
             rw [HE3.out, if_pos e5]
            go_wp2_with (go_at_call 89; refine (text_any _ _ _ _ hsz).mono ?_; rintro e w' ⟨rfl, rfl⟩)
            go_ret
            exact ⟨by rw [HV.out]; rfl, HG.out⟩
           | true =>
            by_cases hv9 : 4096 < Al
            ·have HV : Hid (A = 1) := by
              show A = 1
              have e5 : (attrs.map AtV.at).any atb = true := by
               rw [← List.take_append_drop (j + 1) (attrs.map AtV.at), List.any_append, HN.out, decide_eq_true hv9]; simp
              rw [HE3.out, if_pos e5]
             have hv9i : (4096 : Int) < (Al : Int) := by omega
             go_wp2_with (go_at_call 89; refine (text_any _ _ _ _ hsz).mono ?_; rintro e w' ⟨rfl, rfl⟩)
             go_ret
             exact ⟨by rw [HV.out]; rfl, HG.out⟩
            ·have HN2 : Hid (((attrs.map AtV.at).take (j + 1)).any atb = false) := by
              show List.any _ _ = false
              rw [HN.out, c8, decide_eq_false hv9]; rfl
             have hv9i : ¬ (4096 : Int) < (Al : Int) := by omega
             go_wp2_with (go_at_call 89; refine (text_any _ _ _ _ hsz).mono ?_; rintro e w' ⟨rfl, rfl⟩)
             go_round
             case rel => exact ⟨j + 1, by omega, by go_num, HN2⟩
             case measure => simp [intOf]; omega
          ·obtain rfl : j = al := by omega
           have e5 : (attrs.map AtV.at).any atb = false := by
            have := HB.out
            rw [List.take_of_length_le (by rw [List.length_map, HL.out]; exact Nat.le_refl _)] at this
            exact this
           have HE4 : Hid (A = if twice (attrs.map AtV.at) j then 110 else 0) := by
            show A = _
            rw [HE3.out, e5, if_neg (by decide)]
           clear e5 HE3 HB
           go_wp2
           have hx10 : (w.alloc (.cells #[.string P, .int .i64 3, .int .i64 mo, .int .i64 uid, .int .i64 gid, .int .i64 ti, .int .i64 sz_, .slice da dl dc, .string tg, .int .i64 dev, .slice aa j ac] 30)).cell? ⟨w.heap.size, 10, none⟩ = some (.slice aa j ac) := by simp
           generalize w.alloc (.cells #[.string P, .int .i64 3, .int .i64 mo, .int .i64 uid, .int .i64 gid, .int .i64 ti, .int .i64 sz_, .slice da dl dc, .string tg, .int .i64 dev, .slice aa j ac] 30) = W0 at *
           go_loopw [4] (fun i wr => ∃ y : Nat, y ≤ j ∧ i = .int .i64 y ∧ Hid (twice (attrs.map AtV.at) y = false) ∧ ∃ t, wr = W0.drewN t) (fun i _ => j - (intOf i).toNat)
           case atStart => exact ⟨0, Nat.zero_le _, rfl, rfl, 0, rfl⟩
           case round =>
            obtain ⟨y, hy, rfl, HB, t, rfl⟩ := hrel
            by_cases hlt2 : y < j
            ·obtain ⟨b, off, hb, hat⟩ := HA.out.at_ (by omega)
             subst hb
             obtain ⟨A1, hA1⟩ : ∃ A1, attrs[y]? = some A1 := ⟨_, List.getElem?_eq_getElem (by rw [HL.out]; exact hlt2)⟩
             obtain ⟨d0, d1, hr1, hcp⟩ := hat y A1 hA1
             have HAT : Hid _ := xai hat hA1
             clear hat hr1 hA1 d1 hcp
             have hlt2i : (y : Int) < (j : Int) := by omega
             go_wp2
             go_loopw [5] (fun i wr => ∃ z : Nat, z ≤ y ∧ i = .int .i64 z ∧ Hid (twin (attrs.map AtV.at) y z = false) ∧ ∃ t, wr = W0.drewN t) (fun i _ => y - (intOf i).toNat)
             case atStart => exact ⟨0, Nat.zero_le _, rfl, rfl, t, rfl⟩
             case round =>
              obtain ⟨z, hz, rfl, HC, t2, rfl⟩ := hrel
              by_cases hlt3 : z < y
              ·obtain ⟨B1, hB1⟩ : ∃ B1, attrs[z]? = some B1 := ⟨_, List.getElem?_eq_getElem (by rw [HL.out]; omega)⟩
               obtain ⟨f0, f1, hr2, hcp2⟩ := HAT.out.1 z B1 hB1
               have hsn := twin_succ HAT.out.2 hB1
               rw [HC.out, Bool.false_or] at hsn
               have HN : Hid _ := hsn
               clear f1 hr2 hcp2 hsn
               have hlt3i : (z : Int) < (y : Int) := by omega
               cases hq : (B1.n.toList == A1.n.toList) with
               | true =>
                have HV : Hid (A = 110) := by
                 show A = 110
                 have e6 : twin (attrs.map AtV.at) y y = true := twin_mono (k := z + 1) (by rw [HN.out]; exact hq) (by omega)
                 have e7 : twice (attrs.map AtV.at) j = true := twice_mono (i := y + 1) (by rw [twice_succ, e6, Bool.or_true]) (by omega)
                 rw [HE4.out, if_pos e7]
                go_wp2
                go_quiet (fail)
                go_wp2
                go_ret
                exact ⟨by rw [HV.out]; rfl, by first | exact drewG11 (drewG11 HG.out _) _ | exact drewG11 HG.out _⟩
               | false =>
                have HN2 : Hid (twin (attrs.map AtV.at) y (z + 1) = false) := by
                 show twin _ _ _ = false
                 rw [HN.out, hq]
                go_wp2
                go_quiet (fail)
                go_wp2
                exact ⟨⟨z + 1, by omega, by go_num, HN2, _, rfl⟩, by simp [intOf]; omega⟩
              ·obtain rfl : z = y := by omega
               have HN2 : Hid (twice (attrs.map AtV.at) (z + 1) = false) := by
                show twice _ _ = false
                rw [twice_succ, HB.out, HC.out]; rfl
               go_wp2
               go_roundw
               case rel => exact ⟨z + 1, by omega, by go_num, HN2, _, rfl⟩
               case measure => simp [intOf]; omega
            ·obtain rfl : y = j := by omega
             have HV : Hid (A = 0) := by
              show A = 0
              rw [HE4.out, HB.out]; rfl
             go_wp2
             go_ret
             exact ⟨by rw [HV.out]; rfl, drewG11 HG.out _⟩
      ·by_cases k4 : 3 < K
       ·have k1b : (K == 1) = false := by rw [beq_eq_false_iff_ne]; exact k1
        have k3b : (K == 3) = false := by rw [beq_eq_false_iff_ne]; exact k3
        cases c7 : inI dev 0 4294967295 with
        | false =>
         have HV : Hid (A = 1) := by
          show A = 1
          rw [HE2.out, if_pos (by simp [k4, c7])]
         clear HE2
         go_enter Tryz.func60, Tryz.ntmps60
         go_wp2_with (first | (go_at_call 58; refine (in_any _ _ _ _).mono ?_; rintro e w' ⟨rfl, rfl⟩) | (go_at_call 89; refine (text_any _ _ _ _ ht).mono ?_; rintro e w' ⟨rfl, rfl⟩))
         go_ret
         exact ⟨by rw [HV.out]; rfl, HG.out⟩
        | true =>
         by_cases ha : 64 < al
         ·have HV : Hid (A = 1) := by
           show A = 1
           rw [HE2.out, if_pos (by simp [ha])]
          have hai : (64 : Int) < (al : Int) := by omega
          clear HE2
          go_enter Tryz.func60, Tryz.ntmps60
          go_wp2_with (first | (go_at_call 58; refine (in_any _ _ _ _).mono ?_; rintro e w' ⟨rfl, rfl⟩) | (go_at_call 89; refine (text_any _ _ _ _ ht).mono ?_; rintro e w' ⟨rfl, rfl⟩))
          go_ret
          exact ⟨by rw [HV.out]; rfl, HG.out⟩
         ·have HE3 : Hid (A = if (attrs.map AtV.at).any atb then 1 else if twice (attrs.map AtV.at) al then 110 else 0) := by
           show A = _
           rw [HE2.out, if_neg (by simp [ha, k1, k3, k4, c7])]
          have hai : ¬ (64 : Int) < (al : Int) := by omega
          clear HE2
          go_enter Tryz.func60, Tryz.ntmps60
          go_wp2_with (first | (go_at_call 58; refine (in_any _ _ _ _).mono ?_; rintro e w' ⟨rfl, rfl⟩) | (go_at_call 89; refine (text_any _ _ _ _ ht).mono ?_; rintro e w' ⟨rfl, rfl⟩))
          go_loop [3] (fun i => ∃ j : Nat, j ≤ al ∧ i = .int .i64 j ∧ Hid (((attrs.map AtV.at).take j).any atb = false)) (fun i => al - (intOf i).toNat)
          case atStart => exact ⟨0, Nat.zero_le _, rfl, rfl⟩
          case round =>
           obtain ⟨j, hj, rfl, HB⟩ := hrel
           by_cases hlt : j < al
           ·obtain ⟨b, off, hb, hat⟩ := HA.out.at_ (by omega)
            subst hb
            obtain ⟨A1, hA1⟩ : ∃ A1, attrs[j]? = some A1 := ⟨_, List.getElem?_eq_getElem (by rw [HL.out]; exact hlt)⟩
            obtain ⟨d0, d1, hr1, hcp⟩ := hat j A1 hA1
            have hsz := hn A1 (List.mem_of_getElem? hA1)
            have hsn := atb_snoc hA1
            rw [HB.out, Bool.false_or, hr1.len_eq] at hsn
            have hl1 := hr1.le
            obtain ⟨An, Aa, Al, Ac, Av⟩ := A1
            simp only at d0 d1 hsz hsn hl1 hcp
            have HN : Hid _ := hsn
            clear hsn hat hr1 hA1
            have hlti : (j : Int) < (al : Int) := by omega
            cases c8 : txt An.toList 1 255 with
            | false =>
             have HV : Hid (A = 1) := by
              show A = 1
              have e5 : (attrs.map AtV.at).any atb = true := by
               rw [← List.take_append_drop (j + 1) (attrs.map AtV.at), List.any_append, HN.out, c8]; rfl
              rw [HE3.out, if_pos e5]
             go_wp2_with (go_at_call 89; refine (text_any _ _ _ _ hsz).mono ?_; rintro e w' ⟨rfl, rfl⟩)
             go_ret
             exact ⟨by rw [HV.out]; rfl, HG.out⟩
            | true =>
             by_cases hv9 : 4096 < Al
             ·have HV : Hid (A = 1) := by
               show A = 1
               have e5 : (attrs.map AtV.at).any atb = true := by
                rw [← List.take_append_drop (j + 1) (attrs.map AtV.at), List.any_append, HN.out, decide_eq_true hv9]; simp
               rw [HE3.out, if_pos e5]
              have hv9i : (4096 : Int) < (Al : Int) := by omega
              go_wp2_with (go_at_call 89; refine (text_any _ _ _ _ hsz).mono ?_; rintro e w' ⟨rfl, rfl⟩)
              go_ret
              exact ⟨by rw [HV.out]; rfl, HG.out⟩
             ·have HN2 : Hid (((attrs.map AtV.at).take (j + 1)).any atb = false) := by
               show List.any _ _ = false
               rw [HN.out, c8, decide_eq_false hv9]; rfl
              have hv9i : ¬ (4096 : Int) < (Al : Int) := by omega
              go_wp2_with (go_at_call 89; refine (text_any _ _ _ _ hsz).mono ?_; rintro e w' ⟨rfl, rfl⟩)
              go_round
              case rel => exact ⟨j + 1, by omega, by go_num, HN2⟩
              case measure => simp [intOf]; omega
           ·obtain rfl : j = al := by omega
            have e5 : (attrs.map AtV.at).any atb = false := by
             have := HB.out
             rw [List.take_of_length_le (by rw [List.length_map, HL.out]; exact Nat.le_refl _)] at this
             exact this
            have HE4 : Hid (A = if twice (attrs.map AtV.at) j then 110 else 0) := by
             show A = _
             rw [HE3.out, e5, if_neg (by decide)]
            clear e5 HE3 HB
            go_wp2
            have hx10 : (w.alloc (.cells #[.string P, .int .i64 K, .int .i64 mo, .int .i64 uid, .int .i64 gid, .int .i64 ti, .int .i64 sz_, .slice da dl dc, .string tg, .int .i64 dev, .slice aa j ac] 30)).cell? ⟨w.heap.size, 10, none⟩ = some (.slice aa j ac) := by simp
            generalize w.alloc (.cells #[.string P, .int .i64 K, .int .i64 mo, .int .i64 uid, .int .i64 gid, .int .i64 ti, .int .i64 sz_, .slice da dl dc, .string tg, .int .i64 dev, .slice aa j ac] 30) = W0 at *
            go_loopw [4] (fun i wr => ∃ y : Nat, y ≤ j ∧ i = .int .i64 y ∧ Hid (twice (attrs.map AtV.at) y = false) ∧ ∃ t, wr = W0.drewN t) (fun i _ => j - (intOf i).toNat)
            case atStart => exact ⟨0, Nat.zero_le _, rfl, rfl, 0, rfl⟩
            case round =>
             obtain ⟨y, hy, rfl, HB, t, rfl⟩ := hrel
             by_cases hlt2 : y < j
             ·obtain ⟨b, off, hb, hat⟩ := HA.out.at_ (by omega)
              subst hb
              obtain ⟨A1, hA1⟩ : ∃ A1, attrs[y]? = some A1 := ⟨_, List.getElem?_eq_getElem (by rw [HL.out]; exact hlt2)⟩
              obtain ⟨d0, d1, hr1, hcp⟩ := hat y A1 hA1
              have HAT : Hid _ := xai hat hA1
              clear hat hr1 hA1 d1 hcp
              have hlt2i : (y : Int) < (j : Int) := by omega
              go_wp2
              go_loopw [5] (fun i wr => ∃ z : Nat, z ≤ y ∧ i = .int .i64 z ∧ Hid (twin (attrs.map AtV.at) y z = false) ∧ ∃ t, wr = W0.drewN t) (fun i _ => y - (intOf i).toNat)
              case atStart => exact ⟨0, Nat.zero_le _, rfl, rfl, t, rfl⟩
              case round =>
               obtain ⟨z, hz, rfl, HC, t2, rfl⟩ := hrel
               by_cases hlt3 : z < y
               ·obtain ⟨B1, hB1⟩ : ∃ B1, attrs[z]? = some B1 := ⟨_, List.getElem?_eq_getElem (by rw [HL.out]; omega)⟩
                obtain ⟨f0, f1, hr2, hcp2⟩ := HAT.out.1 z B1 hB1
                have hsn := twin_succ HAT.out.2 hB1
                rw [HC.out, Bool.false_or] at hsn
                have HN : Hid _ := hsn
                clear f1 hr2 hcp2 hsn
                have hlt3i : (z : Int) < (y : Int) := by omega
                cases hq : (B1.n.toList == A1.n.toList) with
                | true =>
                 have HV : Hid (A = 110) := by
                  show A = 110
                  have e6 : twin (attrs.map AtV.at) y y = true := twin_mono (k := z + 1) (by rw [HN.out]; exact hq) (by omega)
                  have e7 : twice (attrs.map AtV.at) j = true := twice_mono (i := y + 1) (by rw [twice_succ, e6, Bool.or_true]) (by omega)
                  rw [HE4.out, if_pos e7]
                 go_wp2
                 go_quiet (fail)
                 go_wp2
                 go_ret
                 exact ⟨by rw [HV.out]; rfl, by first | exact drewG11 (drewG11 HG.out _) _ | exact drewG11 HG.out _⟩
                | false =>
                 have HN2 : Hid (twin (attrs.map AtV.at) y (z + 1) = false) := by
                  show twin _ _ _ = false
                  rw [HN.out, hq]
                 go_wp2
                 go_quiet (fail)
                 go_wp2
                 exact ⟨⟨z + 1, by omega, by go_num, HN2, _, rfl⟩, by simp [intOf]; omega⟩
               ·obtain rfl : z = y := by omega
                have HN2 : Hid (twice (attrs.map AtV.at) (z + 1) = false) := by
                 show twice _ _ = false
                 rw [twice_succ, HB.out, HC.out]; rfl
                go_wp2
                go_roundw
                case rel => exact ⟨z + 1, by omega, by go_num, HN2, _, rfl⟩
                case measure => simp [intOf]; omega
             ·obtain rfl : y = j := by omega
              have HV : Hid (A = 0) := by
               show A = 0
               rw [HE4.out, HB.out]; rfl
              go_wp2
              go_ret
              exact ⟨by rw [HV.out]; rfl, drewG11 HG.out _⟩
       ·have k1b : (K == 1) = false := by rw [beq_eq_false_iff_ne]; exact k1
        have k3b : (K == 3) = false := by rw [beq_eq_false_iff_ne]; exact k3
        by_cases ha : 64 < al
        ·have HV : Hid (A = 1) := by
          show A = 1
          rw [HE2.out, if_pos (by simp [ha])]
         have hai : (64 : Int) < (al : Int) := by omega
         clear HE2
         go_enter Tryz.func60, Tryz.ntmps60
         go_wp2_with (first | (go_at_call 58; refine (in_any _ _ _ _).mono ?_; rintro e w' ⟨rfl, rfl⟩) | (go_at_call 89; refine (text_any _ _ _ _ ht).mono ?_; rintro e w' ⟨rfl, rfl⟩))
         go_ret
         exact ⟨by rw [HV.out]; rfl, HG.out⟩
        ·have HE3 : Hid (A = if (attrs.map AtV.at).any atb then 1 else if twice (attrs.map AtV.at) al then 110 else 0) := by
          show A = _
          rw [HE2.out, if_neg (by simp [ha, k1, k3, k4])]
         have hai : ¬ (64 : Int) < (al : Int) := by omega
         clear HE2
         go_enter Tryz.func60, Tryz.ntmps60
         go_wp2_with (first | (go_at_call 58; refine (in_any _ _ _ _).mono ?_; rintro e w' ⟨rfl, rfl⟩) | (go_at_call 89; refine (text_any _ _ _ _ ht).mono ?_; rintro e w' ⟨rfl, rfl⟩))
         go_loop [3] (fun i => ∃ j : Nat, j ≤ al ∧ i = .int .i64 j ∧ Hid (((attrs.map AtV.at).take j).any atb = false)) (fun i => al - (intOf i).toNat)
         case atStart => exact ⟨0, Nat.zero_le _, rfl, rfl⟩
         case round =>
          obtain ⟨j, hj, rfl, HB⟩ := hrel
          by_cases hlt : j < al
          ·obtain ⟨b, off, hb, hat⟩ := HA.out.at_ (by omega)
           subst hb
           obtain ⟨A1, hA1⟩ : ∃ A1, attrs[j]? = some A1 := ⟨_, List.getElem?_eq_getElem (by rw [HL.out]; exact hlt)⟩
           obtain ⟨d0, d1, hr1, hcp⟩ := hat j A1 hA1
           have hsz := hn A1 (List.mem_of_getElem? hA1)
           have hsn := atb_snoc hA1
           rw [HB.out, Bool.false_or, hr1.len_eq] at hsn
           have hl1 := hr1.le
           obtain ⟨An, Aa, Al, Ac, Av⟩ := A1
           simp only at d0 d1 hsz hsn hl1 hcp
           have HN : Hid _ := hsn
           clear hsn hat hr1 hA1
           have hlti : (j : Int) < (al : Int) := by omega
           cases c8 : txt An.toList 1 255 with
           | false =>
            have HV : Hid (A = 1) := by
             show A = 1
             have e5 : (attrs.map AtV.at).any atb = true := by
              rw [← List.take_append_drop (j + 1) (attrs.map AtV.at), List.any_append, HN.out, c8]; rfl
             rw [HE3.out, if_pos e5]
            go_wp2_with (go_at_call 89; refine (text_any _ _ _ _ hsz).mono ?_; rintro e w' ⟨rfl, rfl⟩)
            go_ret
            exact ⟨by rw [HV.out]; rfl, HG.out⟩
           | true =>
            by_cases hv9 : 4096 < Al
            ·have HV : Hid (A = 1) := by
              show A = 1
              have e5 : (attrs.map AtV.at).any atb = true := by
               rw [← List.take_append_drop (j + 1) (attrs.map AtV.at), List.any_append, HN.out, decide_eq_true hv9]; simp
              rw [HE3.out, if_pos e5]
             have hv9i : (4096 : Int) < (Al : Int) := by omega
             go_wp2_with (go_at_call 89; refine (text_any _ _ _ _ hsz).mono ?_; rintro e w' ⟨rfl, rfl⟩)
             go_ret
             exact ⟨by rw [HV.out]; rfl, HG.out⟩
            ·have HN2 : Hid (((attrs.map AtV.at).take (j + 1)).any atb = false) := by
              show List.any _ _ = false
              rw [HN.out, c8, decide_eq_false hv9]; rfl
             have hv9i : ¬ (4096 : Int) < (Al : Int) := by omega
             go_wp2_with (go_at_call 89; refine (text_any _ _ _ _ hsz).mono ?_; rintro e w' ⟨rfl, rfl⟩)
             go_round
             case rel => exact ⟨j + 1, by omega, by go_num, HN2⟩
             case measure => simp [intOf]; omega
          ·obtain rfl : j = al := by omega
           have e5 : (attrs.map AtV.at).any atb = false := by
            have := HB.out
            rw [List.take_of_length_le (by rw [List.length_map, HL.out]; exact Nat.le_refl _)] at this
            exact this
           have HE4 : Hid (A = if twice (attrs.map AtV.at) j then 110 else 0) := by
            show A = _
            rw [HE3.out, e5, if_neg (by decide)]
           clear e5 HE3 HB
           go_wp2
           have hx10 : (w.alloc (.cells #[.string P, .int .i64 K, .int .i64 mo, .int .i64 uid, .int .i64 gid, .int .i64 ti, .int .i64 sz_, .slice da dl dc, .string tg, .int .i64 dev, .slice aa j ac] 30)).cell? ⟨w.heap.size, 10, none⟩ = some (.slice aa j ac) := by simp
           generalize w.alloc (.cells #[.string P, .int .i64 K, .int .i64 mo, .int .i64 uid, .int .i64 gid, .int .i64 ti, .int .i64 sz_, .slice da dl dc, .string tg, .int .i64 dev, .slice aa j ac] 30) = W0 at *
           go_loopw [4] (fun i wr => ∃ y : Nat, y ≤ j ∧ i = .int .i64 y ∧ Hid (twice (attrs.map AtV.at) y = false) ∧ ∃ t, wr = W0.drewN t) (fun i _ => j - (intOf i).toNat)
           case atStart => exact ⟨0, Nat.zero_le _, rfl, rfl, 0, rfl⟩
           case round =>
            obtain ⟨y, hy, rfl, HB, t, rfl⟩ := hrel
            by_cases hlt2 : y < j
            ·obtain ⟨b, off, hb, hat⟩ := HA.out.at_ (by omega)
             subst hb
             obtain ⟨A1, hA1⟩ : ∃ A1, attrs[y]? = some A1 := ⟨_, List.getElem?_eq_getElem (by rw [HL.out]; exact hlt2)⟩
             obtain ⟨d0, d1, hr1, hcp⟩ := hat y A1 hA1
             have HAT : Hid _ := xai hat hA1
             clear hat hr1 hA1 d1 hcp
             have hlt2i : (y : Int) < (j : Int) := by omega
             go_wp2
             go_loopw [5] (fun i wr => ∃ z : Nat, z ≤ y ∧ i = .int .i64 z ∧ Hid (twin (attrs.map AtV.at) y z = false) ∧ ∃ t, wr = W0.drewN t) (fun i _ => y - (intOf i).toNat)
             case atStart => exact ⟨0, Nat.zero_le _, rfl, rfl, t, rfl⟩
             case round =>
              obtain ⟨z, hz, rfl, HC, t2, rfl⟩ := hrel
              by_cases hlt3 : z < y
              ·obtain ⟨B1, hB1⟩ : ∃ B1, attrs[z]? = some B1 := ⟨_, List.getElem?_eq_getElem (by rw [HL.out]; omega)⟩
               obtain ⟨f0, f1, hr2, hcp2⟩ := HAT.out.1 z B1 hB1
               have hsn := twin_succ HAT.out.2 hB1
               rw [HC.out, Bool.false_or] at hsn
               have HN : Hid _ := hsn
               clear f1 hr2 hcp2 hsn
               have hlt3i : (z : Int) < (y : Int) := by omega
               cases hq : (B1.n.toList == A1.n.toList) with
               | true =>
                have HV : Hid (A = 110) := by
                 show A = 110
                 have e6 : twin (attrs.map AtV.at) y y = true := twin_mono (k := z + 1) (by rw [HN.out]; exact hq) (by omega)
                 have e7 : twice (attrs.map AtV.at) j = true := twice_mono (i := y + 1) (by rw [twice_succ, e6, Bool.or_true]) (by omega)
                 rw [HE4.out, if_pos e7]
                go_wp2
                go_quiet (fail)
                go_wp2
                go_ret
                exact ⟨by rw [HV.out]; rfl, by first | exact drewG11 (drewG11 HG.out _) _ | exact drewG11 HG.out _⟩
               | false =>
                have HN2 : Hid (twin (attrs.map AtV.at) y (z + 1) = false) := by
                 show twin _ _ _ = false
                 rw [HN.out, hq]
                go_wp2
                go_quiet (fail)
                go_wp2
                exact ⟨⟨z + 1, by omega, by go_num, HN2, _, rfl⟩, by simp [intOf]; omega⟩
              ·obtain rfl : z = y := by omega
               have HN2 : Hid (twice (attrs.map AtV.at) (z + 1) = false) := by
                show twice _ _ = false
                rw [twice_succ, HB.out, HC.out]; rfl
               go_wp2
               go_roundw
               case rel => exact ⟨z + 1, by omega, by go_num, HN2, _, rfl⟩
               case measure => simp [intOf]; omega
            ·obtain rfl : y = j := by omega
             have HV : Hid (A = 0) := by
              show A = 0
              rw [HE4.out, HB.out]; rfl
             go_wp2
             go_ret
             exact ⟨by rw [HV.out]; rfl, drewG11 HG.out _⟩
end Go.Proofs.YtlehncfehoelbaaGreatDoor
