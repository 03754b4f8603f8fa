/- The walk of FieldBack, out of the contracts. -/
import Derived.Test.YthnehebkkfegdaaA8
namespace Go.Proofs.Ythnehebkkfegdaa
open Go.RowKit
attribute [local go_sem ↓] Go.wp_at_zero Go.wp_at_succ

set_option maxRecDepth 100000 in
set_option maxHeartbeats 1600000 in
theorem back_try (b off len0 cap0 : Nat) (A : Nat → Ac) (w : World) (hA : ∀ i, i < len0 → ActAt w b off i (A i)) (h : ¬ (100 : Int) < len0) (hl0 : 0 < len0) :
    Calls Try.prog 8 #[.slice (some ⟨b, off, none⟩) len0 cap0] w fun e w' => e = .returned (.bool true) ∧ Below w.heap.size w w' := by
  have hNW := newwriter_any 1048576 w
  rw [if_neg (by omega)] at hNW
  go_enter Try.func8, Try.ntmps8
  go_wp2_with (go_at_call 28; refine hNW.mono ?_; rintro e w1 ⟨rfl, hW1, hg1⟩)
  obtain ⟨M, hM0, hM1, hW1⟩ : ∃ M : Int, 0 ≤ M ∧ M ≤ 9223372036854775807 ∧ WInv w1 w.heap.size (.slice none 0 0) [] M 0 := ⟨1048576, by omega, by omega, hW1⟩
  go_loopw [4] (fun i wr => ∃ (j : Nat) (v : Value), j ≤ len0 ∧ i = .int .i64 j ∧ WInv wr w.heap.size v (wFold M A j).1 M (wFold M A j).2 ∧ Chg w1 wr w.heap.size (.slice none 0 0) v ∧ (∀ i, i < j → (A i).xs.length ≤ 1000)) (fun i _ => len0 - (intOf i).toNat)
  case atStart => exact ⟨0, _, Nat.zero_le _, rfl, hW1, Chg.refl _ _ _, fun i hi => absurd hi (by omega)⟩
  case round =>
    obtain ⟨j, v, hj, rfl, hWj, hCj, hKj⟩ := hrel
    have hbel : Below w.heap.size w wr := (grown_below hg1).trans (hCj.below hW1.own (Nat.le_of_lt hW1.blk.lt))
    by_cases hlt : j < len0
    · have hAj := (hA j hlt).below hbel
      have c0 := hAj.c0
      have c1 := hAj.c1
      have c2 := hAj.c2
      have c3 := hAj.c3
      have hj0 : (0 : Int) ≤ j := by omega
      have hj1 : (j : Int) < len0 := by omega
      have hlen := hAj.row.len_eq
      have hb0 := wFold_len M A 1000 j hKj
      have hb1 : (wFold M A j).1.length ≤ 100000000 := Nat.le_trans hb0 (Nat.le_trans (Nat.mul_le_mul_right 1008 (show j ≤ 100 by omega)) (by decide))
      have hblt := (hA j hlt).row.ltw
      by_cases hL : (1000 : Int) < (A j).len
      · go_wp2_with (go_at_call 9; refine (live_any _).mono ?_; rintro e w' ⟨rfl, hb⟩)
        go_ret
        exact ⟨rfl, hbel.trans (Below.mono (by assumption) hbel.size)⟩
      · have hK' : ∀ i, i < j + 1 → (A i).xs.length ≤ 1000 := fun i hi => by
          rcases Nat.lt_or_ge i j with h1 | h1
          · exact hKj i h1
          · obtain rfl : i = j := by omega
            omega
        have HK : Hid (∀ i, i < j + 1 → (A i).xs.length ≤ 1000) := hK'
        clear hK' hKj hb0
        by_cases hd : (A j).d = 0
        · have e1 : wFold M A (j + 1) = wNum M (wFold M A j) (A j).v (A j).n := by simp [wFold, wSt, hd]
          have HE : Hid (wFold M A (j + 1) = wNum M (wFold M A j) (A j).v (A j).n) := e1
          rw [hd] at c0
          clear e1 hd
          have hN := wnum_any w.heap.size v M (A j).v (A j).n (wFold M A j) wr.drew hWj.drew hM0 hM1 hb1
          go_wp2
          go_region_held (fun w' => w'.cell? ⟨b, off + j * 4 + 1, none⟩ = some (.int .i64 (A j).n) ∧ w'.cell? ⟨b, off + j * 4 + 2, none⟩ = some (.int .u64 (A j).v)) (first | go_keep | exact ⟨by assumption, by assumption⟩) (first | (go_at_call 30; refine hN.mono ?_; rintro e w2 ⟨rfl, v2, hW2, hC2⟩; have hb2 : Below w.heap.size w w2 := hbel.trans ((Chg.trans (Chg.of_grown (grown_drew wr none)) hC2).below hWj.own (Nat.le_of_lt hWj.blk.lt)); have q1 := ((hA j hlt).below hb2).c1; have q2 := ((hA j hlt).below hb2).c2))
          go_wp2
          go_roundw
          case rel => exact ⟨j + 1, v2, by omega, by go_num, by rw [HE.out]; exact hW2, hCj.trans (Chg.trans (Chg.of_grown (grown_drew wr none)) hC2), HK.out⟩
          case measure => simp [intOf]; omega
        · have hd0 : ((A j).d == 0) = false := by simpa using hd
          by_cases hd1 : (A j).d = 1
          · have e1 : wFold M A (j + 1) = wByt M (wFold M A j) (A j).xs := by simp [wFold, wSt, hd1]
            have HE : Hid (wFold M A (j + 1) = wByt M (wFold M A j) (A j).xs) := e1
            rw [hd1] at c0
            clear e1 hd1 hd hd0
            have hN := wbytes_any w.heap.size v M (wFold M A j) (A j).a (A j).len (A j).cap (A j).xs wr hWj hAj.row hblt hM0 hM1 hb1 (by omega)
            go_wp2_with (go_at_call 31; refine hN.mono ?_; rintro e w2 ⟨rfl, v2, hW2, hC2⟩)
            go_roundw
            case rel => exact ⟨j + 1, v2, by omega, by go_num, by rw [HE.out]; exact hW2, hCj.trans hC2, HK.out⟩
            case measure => simp [intOf]; omega
          · have e1 : wFold M A (j + 1) = wTxt M (wFold M A j) (A j).xs := by simp [wFold, wSt, hd, hd1]
            have HE : Hid (wFold M A (j + 1) = wTxt M (wFold M A j) (A j).xs) := e1
            have hd1b : ((A j).d == 1) = false := by simpa using hd1
            clear e1 hd1 hd
            have hN := wtext_any w.heap.size v M (wFold M A j) (A j).a (A j).len (A j).cap (A j).xs wr hWj hAj.row hblt hM0 hM1 hb1
            go_wp2_with (go_at_call 32; refine hN.mono ?_; rintro e w2 ⟨rfl, v2, hW2, hC2⟩)
            go_roundw
            case rel => exact ⟨j + 1, v2, by omega, by go_num, by rw [HE.out]; exact hW2, hCj.trans hC2, HK.out⟩
            case measure => simp [intOf]; omega
    · obtain rfl : j = len0 := by omega
      by_cases he : (wFold M A j).2 = 0
      · have hbl : (wFold M A j).1.length ≤ 2000000 := Nat.le_trans (wFold_len M A 1000 j hKj) (Nat.le_trans (Nat.mul_le_mul_right 1008 (show j ≤ 100 by omega)) (by decide))
        have hWj' := hWj
        rw [he] at hWj'
        have hD := wdone_ok w.heap.size v (wFold M A j).1 M wr hWj' (by omega)
        have hF : Hid (∀ i, i < j → (wFold M A (i + 1)).1 = (wFold M A i).1 ++ enc (A i) ∧ (∃ t, (wFold M A j).1 = (wFold M A i).1 ++ (enc (A i) ++ t)) ∧ ((A i).d = 0 → ckE (A i).v (A i).n = 0) ∧ (¬ (A i).d = 0 → ¬ (A i).d = 1 → (A i).xs.length ≤ 65535)) := fun i hi => wFold_at M A j i hi he
        have hbyt := hWj.byt
        have HK : Hid (∀ i, i < j → (A i).xs.length ≤ 1000) := hKj
        clear hWj hWj' he hKj
        generalize hbs : (wFold M A j).1 = bs at *
        have HBS : Hid ((wFold M A j).1 = bs) := hbs
        clear hbs
        obtain ⟨cvt, hcv, hcr⟩ := cvt_ex
        have HCR : Hid (∀ (w : World) (a : Option Addr) (len cap : Nat) (bs : List Int), Row w a len bs → cvt a len cap w = .ok (.string (strOfNums bs)) w) := hcr
        clear hcr
        go_wp2_with (first | (go_at_call 33; refine hD.mono ?_; rintro e w2 ⟨rfl, hB2, hg2⟩) | (go_at_call 12; refine (num_any _ _).mono ?_; rintro e w' ⟨rfl, rfl⟩))
        have R2 : Row w2 (some ⟨wr.heap.size, 0, none⟩) bs.length bs := hB2.row hbyt (by unfold maxLen; omega)
        have hb2 : Below w.heap.size w w2 := hbel.trans ((grown_below hg2).mono hbel.size)
        refine (newreader_any _ bs.length bs.length bs w2 R2 hbl).mono ?_
        rintro e w3 ⟨rp, rg, rfl, hR3, hrp, hrg, hg3⟩
        have hb3 : Below w.heap.size w w3 := hb2.trans ((grown_below hg3).mono hb2.size)
        have hrpw : w.heap.size ≤ rp := Nat.le_trans hb2.size hrp
        clear hD hB2 R2 hg2 hb2 hrp hrg hg3 hbel hW1 hCj
        go_wp2_with fail
        go_loopw [8] (fun i wr => ∃ k : Nat, k ≤ j ∧ i = .int .i64 k ∧ RInv wr rp rg bs (wFold M A k).1.length 0 ∧ w3.grownBy wr (some rp)) (fun i _ => j - (intOf i).toNat)
        case atStart => exact ⟨0, Nat.zero_le _, rfl, by simpa [wFold] using hR3, World.grownBy.refl _ _⟩
        case round =>
          obtain ⟨k, hk, rfl, hRk, hgk⟩ := hrel
          have hbq : Below w.heap.size w wr := hb3.trans ⟨hgk.os, hgk.tape, hgk.output, hgk.size, fun i hi => hgk.block i (by have := hb3.size; omega) (by simp; omega)⟩
          by_cases hkj : k < j
          · obtain ⟨f1, ⟨t, f2⟩, f3, f4⟩ := hF.out k hkj
            have hxk := HK.out k hkj
            have hAk := (hA k hkj).below hbq
            have hxl := hAk.row.len_eq
            have hvb := hAk.bv
            have c0 := hAk.c0
            have c1 := hAk.c1
            have c2 := hAk.c2
            have c3 := hAk.c3
            have hk0 : (0 : Int) ≤ k := by omega
            have hk1 : (k : Int) < j := by omega
            obtain ⟨p1, p2⟩ := pre_take _ _ _ _ f2
            by_cases hd : (A k).d = 0
            · have hck := f3 hd
              obtain ⟨hW, hlg⟩ := ckE_ok hck
              obtain ⟨m, hm⟩ : ∃ m : Nat, (A k).n = m := ⟨(A k).n.toNat, by have := isW_pos hW; omega⟩
              have he : enc (A k) = sto (A k).v m := by simp [enc, hd, hm]
              rw [he, sto_length] at p1 p2
              rw [he] at f1
              rw [hm] at hW hlg
              have hN := rnum_ok rp rg bs _ m wr.drew hRk.drew hW p2
              rw [p1, le_sto, n_mod hW hvb.1 hlg, ← hm] at hN
              have hl1 : (wFold M A (k + 1)).1.length = (wFold M A k).1.length + m := by rw [f1, List.length_append, sto_length]
              have HL : Hid ((wFold M A (k + 1)).1.length = (wFold M A k).1.length + m) := hl1
              rw [hd] at c0
              clear hl1 f1 f2 f3 f4 p1 he hm hck hd hlg
              go_wp2
              go_region_held (fun w' => w'.cell? ⟨b, off + k * 4 + 1, none⟩ = some (.int .i64 (A k).n) ∧ w'.cell? ⟨b, off + k * 4 + 2, none⟩ = some (.int .u64 (A k).v)) (first | go_keep | exact ⟨by assumption, by assumption⟩) (first | (go_at_call 23; refine hN.mono ?_; rintro e w5 ⟨rfl, hR5, hg5⟩; have hb5 : Below w.heap.size w w5 := hbq.trans ⟨hg5.os, hg5.tape, hg5.output, hg5.size, fun i hi => hg5.block i (by have := hbq.size; exact Nat.lt_of_lt_of_le hi this) (by simp; omega)⟩; have q1 := ((hA k hkj).below hb5).c1; have q2 := ((hA k hkj).below hb5).c2))
              go_wp2
              go_roundw
              case rel => exact ⟨k + 1, by omega, by go_num, by rw [HL.out]; exact hR5, grown_trans (grown_trans hgk (grown_drew _ _)) hg5⟩
              case measure => simp [intOf]; omega
            · have hd0 : ((A k).d == 0) = false := by simpa using hd
              by_cases hd1 : (A k).d = 1
              · have he : enc (A k) = (A k).xs := by simp [enc, hd1]
                rw [he, hxl] at p1 p2
                rw [he] at f1
                have hN := rbytes_ok rp rg bs _ (A k).len wr.drew hRk.drew p2
                rw [p1] at hN
                have HL : Hid ((wFold M A (k + 1)).1.length = (wFold M A k).1.length + (A k).len) := by
                  show _ = _
                  rw [f1, List.length_append, hxl]
                rw [hd1] at c0
                have hKB := HCR.out _ _ _ (A k).cap _ hAk.row.drew'
                clear f1 f2 f3 f4 p1 he hd hd1 hd0
                go_wp2
                go_region_held (fun w' => w'.cell? ⟨b, off + k * 4 + 3, none⟩ = some (.slice (A k).a (A k).len (A k).cap) ∧ cvt (A k).a (A k).len (A k).cap w' = .ok (.string (strOfNums (A k).xs)) w') (first | exact ⟨c3, hKB⟩ | exact ⟨by assumption, by assumption⟩) (first | (go_at_call 25; refine hN.mono ?_; rintro e w5 ⟨v5, rfl, hres, hR5, hg5⟩; obtain ⟨a5, rfl, R5⟩ := hres.row hAk.row.byt (by unfold maxLen; omega); have hb5 : Below w.heap.size w w5 := hbq.trans ⟨hg5.os, hg5.tape, hg5.output, hg5.size, fun i hi => hg5.block i (by have := hbq.size; exact Nat.lt_of_lt_of_le hi this) (by simp; omega)⟩; have q1 := ((hA k hkj).below hb5).c3; have q2 := HCR.out _ _ _ (A k).cap _ ((hA k hkj).below hb5).row; have q3 := HCR.out _ _ _ (A k).xs.length _ R5; rw [hxl] at q3))
                go_wp2
                go_roundw
                case rel => exact ⟨k + 1, by omega, by go_num, by rw [HL.out]; exact hR5, grown_trans (grown_trans hgk (grown_drew _ _)) hg5⟩
                case measure => simp [intOf]; omega
              · have he : enc (A k) = sto (A k).len 2 ++ (A k).xs := by simp [enc, hd, hd1, hxl]
                rw [he] at f1 f2
                have f5 : bs = ((wFold M A k).1 ++ sto (A k).len 2) ++ ((A k).xs ++ t) := by rw [f2]; simp [List.append_assoc]
                have f6 : bs = (wFold M A k).1 ++ (sto (A k).len 2 ++ ((A k).xs ++ t)) := by rw [f2]; simp [List.append_assoc]
                obtain ⟨r1, r2⟩ := pre_take _ _ _ _ f5
                obtain ⟨r3, r4⟩ := pre_take _ _ _ _ f6
                rw [List.length_append, sto_length, hxl] at r1 r2
                rw [sto_length] at r3 r4
                have hle : le (((bs.drop (wFold M A k).1.length)).take 2) = (A k).len := by
                  rw [r3, le_sto]
                  have e2 : (256 : Int) ^ 2 = 65536 := by decide
                  rw [e2]; omega
                have hN := rtext_ok rp rg bs _ (A k).len 1000 wr.drew hRk.drew (by omega) (by omega) r4 hle (by omega) r2
                rw [r1] at hN
                have HL : Hid ((wFold M A (k + 1)).1.length = (wFold M A k).1.length + (2 + (A k).len)) := by
                  show _ = _
                  rw [f1, List.length_append, List.length_append, sto_length, hxl]
                have hd1b : ((A k).d == 1) = false := by simpa using hd1
                have hKB := HCR.out _ _ _ (A k).cap _ hAk.row.drew'
                clear f1 f2 f3 f4 f5 f6 p1 p2 r1 r3 hle he hd hd1
                go_wp2
                go_region_held (fun w' => w'.cell? ⟨b, off + k * 4 + 3, none⟩ = some (.slice (A k).a (A k).len (A k).cap) ∧ cvt (A k).a (A k).len (A k).cap w' = .ok (.string (strOfNums (A k).xs)) w') (first | exact ⟨c3, hKB⟩ | exact ⟨by assumption, by assumption⟩) (first | (go_at_call 24; refine hN.mono ?_; rintro e w5 ⟨v5, rfl, hres, hR5, hg5⟩; obtain ⟨a5, rfl, R5⟩ := hres.row hAk.row.byt (by unfold maxLen; omega); have hb5 : Below w.heap.size w w5 := hbq.trans ⟨hg5.os, hg5.tape, hg5.output, hg5.size, fun i hi => hg5.block i (by have := hbq.size; exact Nat.lt_of_lt_of_le hi this) (by simp; omega)⟩; have q1 := ((hA k hkj).below hb5).c3; have q2 := HCR.out _ _ _ (A k).cap _ ((hA k hkj).below hb5).row; have q3 := HCR.out _ _ _ (A k).xs.length _ R5; rw [hxl] at q3))
                go_wp2
                go_roundw
                case rel => exact ⟨k + 1, by omega, by go_num, by rw [HL.out]; exact hR5, grown_trans (grown_trans hgk (grown_drew _ _)) hg5⟩
                case measure => simp [intOf]; omega
          · obtain rfl : k = j := by omega
            have hRk' := hRk
            rw [HBS.out] at hRk'
            have hE := rerr_any rp _ _ _ wr hRk'.blk
            go_wp2_with (first | (go_at_call 26; refine hE.mono ?_; rintro e w5 ⟨rfl, hg5, hh5⟩; have hR5 := hRk'.grown hg5 (by simp) (by simp); clear hh5) | (go_at_call 12; refine (num_any _ _).mono ?_; rintro e w' ⟨rfl, rfl⟩) | (go_at_call 27; refine (rleft_any rp rg bs.length bs.length _ _ _ hR5.blk hbl (by omega) (by omega)).mono ?_; rintro e w6 ⟨rfl, hg6, hh6⟩; clear hh6) | (go_at_call 9; refine (live_any _).mono ?_; rintro e w7 ⟨rfl, hb7⟩))
            go_ret
            have hb5 : Below w.heap.size w w5 := hbq.trans ((grown_below hg5).mono hbq.size)
            have hb6 : Below w.heap.size w w6 := hb5.trans ((grown_below hg6).mono hb5.size)
            exact ⟨rfl, hb6.trans (hb7.mono hb6.size)⟩
      · have hD := wdone_bad w.heap.size v (wFold M A j).1 M (wFold M A j).2 wr hWj (by simpa using he)
        have heb : ((wFold M A j).2 != 0) = true := by simpa using he
        generalize (wFold M A j).2 = E at *
        go_wp2_with (first | (go_at_call 33; refine hD.mono ?_; rintro e w2 ⟨rfl, hg2⟩) | (go_at_call 12; refine (num_any _ _).mono ?_; rintro e w' ⟨rfl, rfl⟩) | (go_at_call 9; refine (live_any _).mono ?_; rintro e w' ⟨rfl, hb⟩))
        go_ret
        have hb2 : Below w.heap.size w w2 := hbel.trans ((grown_below hg2).mono hbel.size)
        exact ⟨rfl, hb2.trans (Below.mono (by assumption) hb2.size)⟩

set_option maxRecDepth 100000 in
set_option maxHeartbeats 800000 in
theorem back_none (a0 : Option Addr) (cap0 : Nat) (w : World) :
    Calls Try.prog 8 #[.slice a0 0 cap0] w fun e w' => e = .returned (.bool true) ∧ Below w.heap.size w w' := by
  have hNW := newwriter_any 1048576 w
  rw [if_neg (by omega)] at hNW
  go_enter Try.func8, Try.ntmps8
  go_wp2_with (go_at_call 28; refine hNW.mono ?_; rintro e w1 ⟨rfl, hW1, hg1⟩)
  obtain ⟨M, hW1⟩ : ∃ M : Int, WInv w1 w.heap.size (.slice none 0 0) [] M 0 := ⟨1048576, hW1⟩
  go_loop [4] (fun i => i = .int .i64 0) (fun _ => 0)
  case atStart => rfl
  case round =>
    subst hrel
    have hD := wdone_ok w.heap.size (.slice none 0 0) [] M w1 hW1 (by simp)
    go_wp2_with (first | (go_at_call 33; refine hD.mono ?_; rintro e w2 ⟨rfl, hB2, hg2⟩) | (go_at_call 12; refine (num_any _ _).mono ?_; rintro e w' ⟨rfl, rfl⟩))
    have R2 : Row w2 (some ⟨w1.heap.size, 0, none⟩) 0 [] := Row.none_of _ rfl rfl
    refine (newreader_any _ 0 0 [] w2 R2 (by omega)).mono ?_
    rintro e w3 ⟨rp, rg, rfl, hR3, hrp, hrg, hg3⟩
    go_wp2_with fail
    go_loop [8] (fun i => i = .int .i64 0) (fun _ => 0)
    case atStart => rfl
    case round =>
      subst hrel
      have hE := rerr_any rp _ _ _ w3 hR3.blk
      go_wp2_with (first | (go_at_call 26; refine hE.mono ?_; rintro e w5 ⟨rfl, hg5, hh5⟩; have hR5 := hR3.grown hg5 (by simp) (by simp); clear hh5) | (go_at_call 12; refine (num_any _ _).mono ?_; rintro e w' ⟨rfl, rfl⟩) | (go_at_call 27; refine (rleft_any rp rg 0 0 _ _ _ hR5.blk (by omega) (by omega) (by omega)).mono ?_; rintro e w6 ⟨rfl, hg6, hh6⟩; clear hh6) | (go_at_call 9; refine (live_any _).mono ?_; rintro e w7 ⟨rfl, hb7⟩))
      go_ret
      have G := grown_trans (grown_trans (grown_trans (grown_trans hg1 hg2) hg3) hg5) hg6
      exact ⟨rfl, (grown_below G).trans (hb7.mono G.size)⟩

theorem back_far (a0 : Option Addr) (len0 cap0 : Nat) (w : World) (h : (100 : Int) < len0) :
    Calls Try.prog 8 #[.slice a0 len0 cap0] w fun e w' => e = .returned (.bool true) ∧ Below w.heap.size w w' := by
  go_enter Try.func8, Try.ntmps8
  go_wp2_with (go_at_call 9; refine (live_any _).mono ?_; rintro e w' ⟨rfl, hb⟩)
  go_ret
  exact ⟨rfl, by assumption⟩

theorem fieldBack_walk (a0 : Option Addr) (len0 cap0 : Nat) (A : Nat → Ac) (w : World) (hA : Acts w a0 len0 A) :
    Calls Try.prog 8 #[.slice a0 len0 cap0] w fun e w' => e = .returned (.bool true) ∧ Below w.heap.size w w' := by
  by_cases h : (100 : Int) < len0
  · exact back_far a0 len0 cap0 w h
  · rcases Nat.eq_zero_or_pos len0 with rfl | h0
    · exact back_none a0 cap0 w
    · obtain ⟨b, off, rfl, hAt⟩ := hA.at_ h0
      exact back_try b off len0 cap0 A w hAt h h0
end Go.Proofs.Ythnehebkkfegdaa
