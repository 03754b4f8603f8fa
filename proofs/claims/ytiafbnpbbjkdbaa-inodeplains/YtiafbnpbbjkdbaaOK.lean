/- The walk of InodePlains. -/
import Derived.Test.YtiafbnpbbjkdbaaOJ
import Derived.Test.YtiafbnpbbjkdbaaOBc
namespace Go.Proofs.Ytiafbnpbbjkdbaa
open Go.RowKit
set_option maxRecDepth 100000
set_option linter.unusedSimpArgs false
set_option linter.unusedVariables false
theorem pow_le20 {j : Nat} (h : j ≤ 20) : (1 : Int) ≤ 2 ^ j ∧ (2 : Int) ^ j ≤ 1048576 := by
  have h1 : (2 : Nat) ^ j ≤ 2 ^ 20 := Nat.pow_le_pow_right (by decide) h
  have h2 : 1 ≤ (2 : Nat) ^ j := Nat.one_le_two_pow
  have e : ((2 ^ j : Nat) : Int) = (2 : Int) ^ j := by simp
  rw [← e]
  omega
set_option maxHeartbeats 8000000 in
theorem inodePlains_walk (n : Nd) (log i : Int) (w : World) (hn : n.ok w) (hlg : in64 log) (hi : in64 i) :
    Calls Try.prog 6 #[n.val, .int .i64 log, .int .i64 i] w fun e w' => e = .returned (.bool true) ∧ Below w.heap.size w w' := by
  have HB : Hid (Bx (w.alloc (.cells #[.int .i64 n.kd, .int .i64 n.md, .int .i64 n.ui, .int .i64 n.gi, .int .i64 n.tm, .int .i64 n.ln, .int .i64 n.at_, .int .i64 n.sz, .int .i64 n.st, .slice n.wa n.wl n.wc, .int .i64 n.fr, .int .i64 n.of_, .int .i64 n.tl, .int .i64 n.dr, .int .i64 n.by_, .int .i64 n.pr, .string n.tg, .int .i64 n.dv] 24)) w.heap.size 24 [.int .i64 n.kd, .int .i64 n.md, .int .i64 n.ui, .int .i64 n.gi, .int .i64 n.tm, .int .i64 n.ln, .int .i64 n.at_, .int .i64 n.sz, .int .i64 n.st, .slice n.wa n.wl n.wc, .int .i64 n.fr, .int .i64 n.of_, .int .i64 n.tl, .int .i64 n.dr, .int .i64 n.by_, .int .i64 n.pr, .string n.tg, .int .i64 n.dv]) := Bx.new w _ _
  have HG : Hid (w.grownBy (w.alloc (.cells #[.int .i64 n.kd, .int .i64 n.md, .int .i64 n.ui, .int .i64 n.gi, .int .i64 n.tm, .int .i64 n.ln, .int .i64 n.at_, .int .i64 n.sz, .int .i64 n.st, .slice n.wa n.wl n.wc, .int .i64 n.fr, .int .i64 n.of_, .int .i64 n.tl, .int .i64 n.dr, .int .i64 n.by_, .int .i64 n.pr, .string n.tg, .int .i64 n.dv] 24)) none) := World.grownBy_alloc _ _ _
  have HL : Hid (∀ W : World, Calls Try.prog 7 #[] W fun e w' => e = .returned (.bool true) ∧ W.grownBy w' none) := fun W => live15_any W
  have HC : Hid (∀ W, w.grownBy W none → Calls Try.prog 9 #[.agg #[.int .i64 n.kd, .int .i64 n.md, .int .i64 n.ui, .int .i64 n.gi, .int .i64 n.tm, .int .i64 n.ln, .int .i64 n.at_, .int .i64 n.sz, .int .i64 n.st, .slice n.wa n.wl n.wc, .int .i64 n.fr, .int .i64 n.of_, .int .i64 n.tl, .int .i64 n.dr, .int .i64 n.by_, .int .i64 n.pr, .string n.tg, .int .i64 n.dv]] W fun e w' => e = .returned (.int .i64 (chk15 n)) ∧ W.grownBy w' none) := fun W g => rcheck15_any n W (hn.kept g)
  have HP : Hid (∀ W, w.grownBy W none → Calls Try.prog 17 #[.agg #[.int .i64 n.kd, .int .i64 n.md, .int .i64 n.ui, .int .i64 n.gi, .int .i64 n.tm, .int .i64 n.ln, .int .i64 n.at_, .int .i64 n.sz, .int .i64 n.st, .slice n.wa n.wl n.wc, .int .i64 n.fr, .int .i64 n.of_, .int .i64 n.tl, .int .i64 n.dr, .int .i64 n.by_, .int .i64 n.pr, .string n.tg, .int .i64 n.dv], .int .i64 log, .int .i64 i] W fun e w' => e = .returned (.tuple #[.int .i64 (pln15 n log i).1, .int .i64 (pln15 n log i).2]) ∧ W.grownBy w' none) := fun W g => pplain15_any n log i W (hn.kept g) hlg hi
  by_cases h1 : (1000 : Int) < n.wl
  · clear hn HC HP
    go_enter Try.func6, Try.ntmps6
    unfold Nd.val
    go_wp2_with (first | ((with_reducible refine inoHere ?_); refine wpList_loadG (by first | rfl | fail) 24 _ rfl w.heap.size rfl HB.out Try.underlying24 rfl infoI ?_) | (go_at_call 17; refine (HP.out _ HG.out).mono ?_; rintro e w1 ⟨rfl, g1⟩; have HG : Hid _ := grown_trans HG.out g1; have HB : Hid _ := HB.out.kept g1; have d0 := HB.out.c 0; have d7 := HB.out.c 7; have d9 := HB.out.c 9; have d16 := HB.out.c 16; clear g1) | (go_at_call 9; refine (HC.out _ HG.out).mono ?_; rintro e w1 ⟨rfl, g1⟩; have HG : Hid _ := grown_trans HG.out g1; have HB : Hid _ := HB.out.kept g1; have d0 := HB.out.c 0; have d7 := HB.out.c 7; have d9 := HB.out.c 9; have d16 := HB.out.c 16; clear g1) | (go_at_call 7; refine (HL.out _).mono ?_; rintro e w1 ⟨rfl, g1⟩; have HG : Hid _ := grown_trans HG.out g1; clear g1) | (go_at_call 10; refine (num15_any _ _).mono ?_; rintro e w' ⟨rfl, rfl⟩) | fail)
    go_ret
    exact ⟨rfl, grown_below HG.out⟩
  · have hlen : n.wl ≤ 1000 := by omega
    clear h1
    by_cases h2 : (5000 : Int) < n.tg.size
    · clear hn HC HP
      go_enter Try.func6, Try.ntmps6
      unfold Nd.val
      go_wp2_with (first | ((with_reducible refine inoHere ?_); refine wpList_loadG (by first | rfl | fail) 24 _ rfl w.heap.size rfl HB.out Try.underlying24 rfl infoI ?_) | (go_at_call 17; refine (HP.out _ HG.out).mono ?_; rintro e w1 ⟨rfl, g1⟩; have HG : Hid _ := grown_trans HG.out g1; have HB : Hid _ := HB.out.kept g1; have d0 := HB.out.c 0; have d7 := HB.out.c 7; have d9 := HB.out.c 9; have d16 := HB.out.c 16; clear g1) | (go_at_call 9; refine (HC.out _ HG.out).mono ?_; rintro e w1 ⟨rfl, g1⟩; have HG : Hid _ := grown_trans HG.out g1; have HB : Hid _ := HB.out.kept g1; have d0 := HB.out.c 0; have d7 := HB.out.c 7; have d9 := HB.out.c 9; have d16 := HB.out.c 16; clear g1) | (go_at_call 7; refine (HL.out _).mono ?_; rintro e w1 ⟨rfl, g1⟩; have HG : Hid _ := grown_trans HG.out g1; clear g1) | (go_at_call 10; refine (num15_any _ _).mono ?_; rintro e w' ⟨rfl, rfl⟩) | fail)
      go_ret
      exact ⟨rfl, grown_below HG.out⟩
    · by_cases hk : n.kd = 1
      · have hk1 : (n.kd != 1) = false := by rw [hk]; rfl
        by_cases hc : chk15 n = 0
        · have hR : Hid (Rt15 n) := chk_rt hc
          have hz := (hR.out.k1 hk).1
          cases hL : inn 12 20 log with
          | false =>
            have e : pln15 n log i = (0, 1) := by unfold pln15; rw [if_neg (fun h => by rw [hL] at h; exact absurd h.2.2 (by decide))]
            rw [e] at HP
            rw [hc] at HC
            have hL2 : ¬ (12 ≤ log ∧ log ≤ 20) := fun h => by rw [inn_iff.2 h] at hL; cases hL
            clear e hn hc hR hk hL hz
            by_cases h3 : log < 12
            · clear hL2
              go_enter Try.func6, Try.ntmps6
              unfold Nd.val
              go_wp2_with (first | ((with_reducible refine inoHere ?_); refine wpList_loadG (by first | rfl | fail) 24 _ rfl w.heap.size rfl HB.out Try.underlying24 rfl infoI ?_) | (go_at_call 17; refine (HP.out _ HG.out).mono ?_; rintro e w1 ⟨rfl, g1⟩; have HG : Hid _ := grown_trans HG.out g1; have HB : Hid _ := HB.out.kept g1; have d0 := HB.out.c 0; have d7 := HB.out.c 7; have d9 := HB.out.c 9; have d16 := HB.out.c 16; clear g1) | (go_at_call 9; refine (HC.out _ HG.out).mono ?_; rintro e w1 ⟨rfl, g1⟩; have HG : Hid _ := grown_trans HG.out g1; have HB : Hid _ := HB.out.kept g1; have d0 := HB.out.c 0; have d7 := HB.out.c 7; have d9 := HB.out.c 9; have d16 := HB.out.c 16; clear g1) | (go_at_call 7; refine (HL.out _).mono ?_; rintro e w1 ⟨rfl, g1⟩; have HG : Hid _ := grown_trans HG.out g1; clear g1) | (go_at_call 10; refine (num15_any _ _).mono ?_; rintro e w' ⟨rfl, rfl⟩) | fail)
              go_ret
              exact ⟨rfl, grown_below HG.out⟩
            · have h4 : 20 < log := by omega
              clear hL2
              go_enter Try.func6, Try.ntmps6
              unfold Nd.val
              go_wp2_with (first | ((with_reducible refine inoHere ?_); refine wpList_loadG (by first | rfl | fail) 24 _ rfl w.heap.size rfl HB.out Try.underlying24 rfl infoI ?_) | (go_at_call 17; refine (HP.out _ HG.out).mono ?_; rintro e w1 ⟨rfl, g1⟩; have HG : Hid _ := grown_trans HG.out g1; have HB : Hid _ := HB.out.kept g1; have d0 := HB.out.c 0; have d7 := HB.out.c 7; have d9 := HB.out.c 9; have d16 := HB.out.c 16; clear g1) | (go_at_call 9; refine (HC.out _ HG.out).mono ?_; rintro e w1 ⟨rfl, g1⟩; have HG : Hid _ := grown_trans HG.out g1; have HB : Hid _ := HB.out.kept g1; have d0 := HB.out.c 0; have d7 := HB.out.c 7; have d9 := HB.out.c 9; have d16 := HB.out.c 16; clear g1) | (go_at_call 7; refine (HL.out _).mono ?_; rintro e w1 ⟨rfl, g1⟩; have HG : Hid _ := grown_trans HG.out g1; clear g1) | (go_at_call 10; refine (num15_any _ _).mono ?_; rintro e w' ⟨rfl, rfl⟩) | fail)
              go_ret
              exact ⟨rfl, grown_below HG.out⟩
          | true =>
            have hL2 := inn_iff.1 hL
            obtain ⟨T, hT⟩ : ∃ T : Int, T = 2 ^ log.toNat := ⟨_, rfl⟩
            have hT1 := pow_le20 (j := log.toNat) (by omega)
            rw [← hT] at hT1
            have HT : Hid _ := hT
            rw [hc] at HC
            have hpl : Hid (pln15 n log i = if inn 0 (n.wl - 1) i = true then (if n.sz ≤ i * T then (0, 9) else (min T (n.sz - i * T), 0)) else (0, 9)) := by
              show pln15 n log i = _
              unfold pln15
              rw [if_pos ⟨hk, hc, hL⟩, hT]
            have HLG : Hid (12 ≤ log ∧ log ≤ 20) := hL2
            generalize pln15 n log i = PL at *
            clear hn hc hR hk hL hT
            by_cases c0 : i < 0
            · skip
              have e : PL = (0, 9) := by rw [hpl.out, if_neg (fun h => by have := (inn_iff.1 h).1; omega)]
              rw [e] at HP
              clear e hpl hz
              go_enter Try.func6, Try.ntmps6
              unfold Nd.val
              go_wp2_with (first | ((with_reducible refine inoHere ?_); refine wpList_loadG (by first | rfl | fail) 24 _ rfl w.heap.size rfl HB.out Try.underlying24 rfl infoI ?_) | (go_at_call 17; refine (HP.out _ HG.out).mono ?_; rintro e w1 ⟨rfl, g1⟩; have HG : Hid _ := grown_trans HG.out g1; have HB : Hid _ := HB.out.kept g1; have d0 := HB.out.c 0; have d7 := HB.out.c 7; have d9 := HB.out.c 9; have d16 := HB.out.c 16; clear g1) | (go_at_call 9; refine (HC.out _ HG.out).mono ?_; rintro e w1 ⟨rfl, g1⟩; have HG : Hid _ := grown_trans HG.out g1; have HB : Hid _ := HB.out.kept g1; have d0 := HB.out.c 0; have d7 := HB.out.c 7; have d9 := HB.out.c 9; have d16 := HB.out.c 16; clear g1) | (go_at_call 7; refine (HL.out _).mono ?_; rintro e w1 ⟨rfl, g1⟩; have HG : Hid _ := grown_trans HG.out g1; clear g1) | (go_at_call 10; refine (num15_any _ _).mono ?_; rintro e w' ⟨rfl, rfl⟩) | fail)
              go_loop [9, 10] (fun v u => ∃ j : Nat, (j : Int) ≤ log ∧ u = .int .i64 j ∧ v = .int .i64 (2 ^ j)) (fun v u => log.toNat - (intOf u).toNat)
              case atStart => exact ⟨0, by have := HLG.out; omega, rfl, rfl⟩
              case round =>
                obtain ⟨j, hj, rfl, rfl⟩ := hrel
                by_cases hlt : (j : Int) < log
                · have hj20 := pow_le20 (j := j) (by have := HLG.out; omega)
                  have hp2 : Hid ((2 : Int) ^ j * 2 = 2 ^ (j + 1)) := (Int.pow_succ 2 j).symm
                  obtain ⟨P, hP⟩ : ∃ P : Int, P = 2 ^ j := ⟨_, rfl⟩
                  rw [← hP] at hp2 hj20 ⊢
                  have HPP : Hid _ := hP
                  clear hP
                  have hl20 := HLG.out.2
                  go_wp2
                  go_round
                  case rel => exact ⟨j + 1, by omega, by go_num, by rw [← hp2.out]⟩
                  case measure => simp [intOf]; omega
                · have hje : log.toNat = j := by omega
                  have hTe : (2 : Int) ^ j = T := by rw [HT.out, hje]
                  rw [hTe]
                  clear hTe hje
                  go_wp2_with (first | ((with_reducible refine inoHere ?_); refine wpList_loadG (by first | rfl | fail) 24 _ rfl w.heap.size rfl HB.out Try.underlying24 rfl infoI ?_) | (go_at_call 17; refine (HP.out _ HG.out).mono ?_; rintro e w1 ⟨rfl, g1⟩; have HG : Hid _ := grown_trans HG.out g1; have HB : Hid _ := HB.out.kept g1; have d0 := HB.out.c 0; have d7 := HB.out.c 7; have d9 := HB.out.c 9; have d16 := HB.out.c 16; clear g1) | (go_at_call 9; refine (HC.out _ HG.out).mono ?_; rintro e w1 ⟨rfl, g1⟩; have HG : Hid _ := grown_trans HG.out g1; have HB : Hid _ := HB.out.kept g1; have d0 := HB.out.c 0; have d7 := HB.out.c 7; have d9 := HB.out.c 9; have d16 := HB.out.c 16; clear g1) | (go_at_call 7; refine (HL.out _).mono ?_; rintro e w1 ⟨rfl, g1⟩; have HG : Hid _ := grown_trans HG.out g1; clear g1) | (go_at_call 10; refine (num15_any _ _).mono ?_; rintro e w' ⟨rfl, rfl⟩) | fail)
                  go_ret
                  exact ⟨rfl, grown_below HG.out⟩
            by_cases c1 : (n.wl : Int) ≤ i
            · skip
              have e : PL = (0, 9) := by rw [hpl.out, if_neg (fun h => by have := (inn_iff.1 h).2; omega)]
              rw [e] at HP
              clear e hpl hz
              go_enter Try.func6, Try.ntmps6
              unfold Nd.val
              go_wp2_with (first | ((with_reducible refine inoHere ?_); refine wpList_loadG (by first | rfl | fail) 24 _ rfl w.heap.size rfl HB.out Try.underlying24 rfl infoI ?_) | (go_at_call 17; refine (HP.out _ HG.out).mono ?_; rintro e w1 ⟨rfl, g1⟩; have HG : Hid _ := grown_trans HG.out g1; have HB : Hid _ := HB.out.kept g1; have d0 := HB.out.c 0; have d7 := HB.out.c 7; have d9 := HB.out.c 9; have d16 := HB.out.c 16; clear g1) | (go_at_call 9; refine (HC.out _ HG.out).mono ?_; rintro e w1 ⟨rfl, g1⟩; have HG : Hid _ := grown_trans HG.out g1; have HB : Hid _ := HB.out.kept g1; have d0 := HB.out.c 0; have d7 := HB.out.c 7; have d9 := HB.out.c 9; have d16 := HB.out.c 16; clear g1) | (go_at_call 7; refine (HL.out _).mono ?_; rintro e w1 ⟨rfl, g1⟩; have HG : Hid _ := grown_trans HG.out g1; clear g1) | (go_at_call 10; refine (num15_any _ _).mono ?_; rintro e w' ⟨rfl, rfl⟩) | fail)
              go_loop [9, 10] (fun v u => ∃ j : Nat, (j : Int) ≤ log ∧ u = .int .i64 j ∧ v = .int .i64 (2 ^ j)) (fun v u => log.toNat - (intOf u).toNat)
              case atStart => exact ⟨0, by have := HLG.out; omega, rfl, rfl⟩
              case round =>
                obtain ⟨j, hj, rfl, rfl⟩ := hrel
                by_cases hlt : (j : Int) < log
                · have hj20 := pow_le20 (j := j) (by have := HLG.out; omega)
                  have hp2 : Hid ((2 : Int) ^ j * 2 = 2 ^ (j + 1)) := (Int.pow_succ 2 j).symm
                  obtain ⟨P, hP⟩ : ∃ P : Int, P = 2 ^ j := ⟨_, rfl⟩
                  rw [← hP] at hp2 hj20 ⊢
                  have HPP : Hid _ := hP
                  clear hP
                  have hl20 := HLG.out.2
                  go_wp2
                  go_round
                  case rel => exact ⟨j + 1, by omega, by go_num, by rw [← hp2.out]⟩
                  case measure => simp [intOf]; omega
                · have hje : log.toNat = j := by omega
                  have hTe : (2 : Int) ^ j = T := by rw [HT.out, hje]
                  rw [hTe]
                  clear hTe hje
                  go_wp2_with (first | ((with_reducible refine inoHere ?_); refine wpList_loadG (by first | rfl | fail) 24 _ rfl w.heap.size rfl HB.out Try.underlying24 rfl infoI ?_) | (go_at_call 17; refine (HP.out _ HG.out).mono ?_; rintro e w1 ⟨rfl, g1⟩; have HG : Hid _ := grown_trans HG.out g1; have HB : Hid _ := HB.out.kept g1; have d0 := HB.out.c 0; have d7 := HB.out.c 7; have d9 := HB.out.c 9; have d16 := HB.out.c 16; clear g1) | (go_at_call 9; refine (HC.out _ HG.out).mono ?_; rintro e w1 ⟨rfl, g1⟩; have HG : Hid _ := grown_trans HG.out g1; have HB : Hid _ := HB.out.kept g1; have d0 := HB.out.c 0; have d7 := HB.out.c 7; have d9 := HB.out.c 9; have d16 := HB.out.c 16; clear g1) | (go_at_call 7; refine (HL.out _).mono ?_; rintro e w1 ⟨rfl, g1⟩; have HG : Hid _ := grown_trans HG.out g1; clear g1) | (go_at_call 10; refine (num15_any _ _).mono ?_; rintro e w' ⟨rfl, rfl⟩) | fail)
                  go_ret
                  exact ⟨rfl, grown_below HG.out⟩
            by_cases c2 : n.sz ≤ i * T
            · skip
              have e : PL = (0, 9) := by rw [hpl.out, if_pos (inn_iff.2 ⟨by omega, by omega⟩), if_pos c2]
              rw [e] at HP
              have hm1 : 0 ≤ i * T := Int.mul_nonneg (by omega) (by omega)
              have hm2 : i * T ≤ 1048576000 := by have h5 : i * T ≤ 1000 * 1048576 := Int.mul_le_mul (by omega) hT1.2 (by omega) (by decide); omega
              clear e hpl
              go_enter Try.func6, Try.ntmps6
              unfold Nd.val
              go_wp2_with (first | ((with_reducible refine inoHere ?_); refine wpList_loadG (by first | rfl | fail) 24 _ rfl w.heap.size rfl HB.out Try.underlying24 rfl infoI ?_) | (go_at_call 17; refine (HP.out _ HG.out).mono ?_; rintro e w1 ⟨rfl, g1⟩; have HG : Hid _ := grown_trans HG.out g1; have HB : Hid _ := HB.out.kept g1; have d0 := HB.out.c 0; have d7 := HB.out.c 7; have d9 := HB.out.c 9; have d16 := HB.out.c 16; clear g1) | (go_at_call 9; refine (HC.out _ HG.out).mono ?_; rintro e w1 ⟨rfl, g1⟩; have HG : Hid _ := grown_trans HG.out g1; have HB : Hid _ := HB.out.kept g1; have d0 := HB.out.c 0; have d7 := HB.out.c 7; have d9 := HB.out.c 9; have d16 := HB.out.c 16; clear g1) | (go_at_call 7; refine (HL.out _).mono ?_; rintro e w1 ⟨rfl, g1⟩; have HG : Hid _ := grown_trans HG.out g1; clear g1) | (go_at_call 10; refine (num15_any _ _).mono ?_; rintro e w' ⟨rfl, rfl⟩) | fail)
              go_loop [9, 10] (fun v u => ∃ j : Nat, (j : Int) ≤ log ∧ u = .int .i64 j ∧ v = .int .i64 (2 ^ j)) (fun v u => log.toNat - (intOf u).toNat)
              case atStart => exact ⟨0, by have := HLG.out; omega, rfl, rfl⟩
              case round =>
                obtain ⟨j, hj, rfl, rfl⟩ := hrel
                by_cases hlt : (j : Int) < log
                · have hj20 := pow_le20 (j := j) (by have := HLG.out; omega)
                  have hp2 : Hid ((2 : Int) ^ j * 2 = 2 ^ (j + 1)) := (Int.pow_succ 2 j).symm
                  obtain ⟨P, hP⟩ : ∃ P : Int, P = 2 ^ j := ⟨_, rfl⟩
                  rw [← hP] at hp2 hj20 ⊢
                  have HPP : Hid _ := hP
                  clear hP
                  have hl20 := HLG.out.2
                  go_wp2
                  go_round
                  case rel => exact ⟨j + 1, by omega, by go_num, by rw [← hp2.out]⟩
                  case measure => simp [intOf]; omega
                · have hje : log.toNat = j := by omega
                  have hTe : (2 : Int) ^ j = T := by rw [HT.out, hje]
                  rw [hTe]
                  clear hTe hje
                  have hF2 : IntKind.i64.wrap (i * T) = i * T := by rw [IntKind.wrap_i64]; omega
                  go_wp2_with (first | ((with_reducible refine inoHere ?_); refine wpList_loadG (by first | rfl | fail) 24 _ rfl w.heap.size rfl HB.out Try.underlying24 rfl infoI ?_) | (go_at_call 17; refine (HP.out _ HG.out).mono ?_; rintro e w1 ⟨rfl, g1⟩; have HG : Hid _ := grown_trans HG.out g1; have HB : Hid _ := HB.out.kept g1; have d0 := HB.out.c 0; have d7 := HB.out.c 7; have d9 := HB.out.c 9; have d16 := HB.out.c 16; clear g1) | (go_at_call 9; refine (HC.out _ HG.out).mono ?_; rintro e w1 ⟨rfl, g1⟩; have HG : Hid _ := grown_trans HG.out g1; have HB : Hid _ := HB.out.kept g1; have d0 := HB.out.c 0; have d7 := HB.out.c 7; have d9 := HB.out.c 9; have d16 := HB.out.c 16; clear g1) | (go_at_call 7; refine (HL.out _).mono ?_; rintro e w1 ⟨rfl, g1⟩; have HG : Hid _ := grown_trans HG.out g1; clear g1) | (go_at_call 10; refine (num15_any _ _).mono ?_; rintro e w' ⟨rfl, rfl⟩) | fail)
                  go_ret
                  exact ⟨rfl, grown_below HG.out⟩
            by_cases c3 : T < n.sz - i * T
            · skip
              have hm1 : 0 ≤ i * T := Int.mul_nonneg (by omega) (by omega)
              have hm2 : i * T ≤ 1048576000 := by have h5 : i * T ≤ 1000 * 1048576 := Int.mul_le_mul (by omega) hT1.2 (by omega) (by decide); omega
              have e : PL = (T, 0) := by rw [hpl.out, if_pos (inn_iff.2 ⟨by omega, by omega⟩), if_neg c2, Int.min_eq_left (by omega)]
              rw [e] at HP
              clear e hpl
              go_enter Try.func6, Try.ntmps6
              unfold Nd.val
              go_wp2_with (first | ((with_reducible refine inoHere ?_); refine wpList_loadG (by first | rfl | fail) 24 _ rfl w.heap.size rfl HB.out Try.underlying24 rfl infoI ?_) | (go_at_call 17; refine (HP.out _ HG.out).mono ?_; rintro e w1 ⟨rfl, g1⟩; have HG : Hid _ := grown_trans HG.out g1; have HB : Hid _ := HB.out.kept g1; have d0 := HB.out.c 0; have d7 := HB.out.c 7; have d9 := HB.out.c 9; have d16 := HB.out.c 16; clear g1) | (go_at_call 9; refine (HC.out _ HG.out).mono ?_; rintro e w1 ⟨rfl, g1⟩; have HG : Hid _ := grown_trans HG.out g1; have HB : Hid _ := HB.out.kept g1; have d0 := HB.out.c 0; have d7 := HB.out.c 7; have d9 := HB.out.c 9; have d16 := HB.out.c 16; clear g1) | (go_at_call 7; refine (HL.out _).mono ?_; rintro e w1 ⟨rfl, g1⟩; have HG : Hid _ := grown_trans HG.out g1; clear g1) | (go_at_call 10; refine (num15_any _ _).mono ?_; rintro e w' ⟨rfl, rfl⟩) | fail)
              go_loop [9, 10] (fun v u => ∃ j : Nat, (j : Int) ≤ log ∧ u = .int .i64 j ∧ v = .int .i64 (2 ^ j)) (fun v u => log.toNat - (intOf u).toNat)
              case atStart => exact ⟨0, by have := HLG.out; omega, rfl, rfl⟩
              case round =>
                obtain ⟨j, hj, rfl, rfl⟩ := hrel
                by_cases hlt : (j : Int) < log
                · have hj20 := pow_le20 (j := j) (by have := HLG.out; omega)
                  have hp2 : Hid ((2 : Int) ^ j * 2 = 2 ^ (j + 1)) := (Int.pow_succ 2 j).symm
                  obtain ⟨P, hP⟩ : ∃ P : Int, P = 2 ^ j := ⟨_, rfl⟩
                  rw [← hP] at hp2 hj20 ⊢
                  have HPP : Hid _ := hP
                  clear hP
                  have hl20 := HLG.out.2
                  go_wp2
                  go_round
                  case rel => exact ⟨j + 1, by omega, by go_num, by rw [← hp2.out]⟩
                  case measure => simp [intOf]; omega
                · have hje : log.toNat = j := by omega
                  have hTe : (2 : Int) ^ j = T := by rw [HT.out, hje]
                  rw [hTe]
                  clear hTe hje
                  have hF2 : IntKind.i64.wrap (i * T) = i * T := by rw [IntKind.wrap_i64]; omega
                  have hF3 : IntKind.i64.wrap (n.sz - i * T) = n.sz - i * T := by rw [IntKind.wrap_i64]; omega
                  go_wp2_with (first | ((with_reducible refine inoHere ?_); refine wpList_loadG (by first | rfl | fail) 24 _ rfl w.heap.size rfl HB.out Try.underlying24 rfl infoI ?_) | (go_at_call 17; refine (HP.out _ HG.out).mono ?_; rintro e w1 ⟨rfl, g1⟩; have HG : Hid _ := grown_trans HG.out g1; have HB : Hid _ := HB.out.kept g1; have d0 := HB.out.c 0; have d7 := HB.out.c 7; have d9 := HB.out.c 9; have d16 := HB.out.c 16; clear g1) | (go_at_call 9; refine (HC.out _ HG.out).mono ?_; rintro e w1 ⟨rfl, g1⟩; have HG : Hid _ := grown_trans HG.out g1; have HB : Hid _ := HB.out.kept g1; have d0 := HB.out.c 0; have d7 := HB.out.c 7; have d9 := HB.out.c 9; have d16 := HB.out.c 16; clear g1) | (go_at_call 7; refine (HL.out _).mono ?_; rintro e w1 ⟨rfl, g1⟩; have HG : Hid _ := grown_trans HG.out g1; clear g1) | (go_at_call 10; refine (num15_any _ _).mono ?_; rintro e w' ⟨rfl, rfl⟩) | fail)
                  go_ret
                  exact ⟨rfl, grown_below HG.out⟩
            have hm1 : 0 ≤ i * T := Int.mul_nonneg (by omega) (by omega)
            have hm2 : i * T ≤ 1048576000 := by have h5 : i * T ≤ 1000 * 1048576 := Int.mul_le_mul (by omega) hT1.2 (by omega) (by decide); omega
            have e : PL = (n.sz - i * T, 0) := by rw [hpl.out, if_pos (inn_iff.2 ⟨by omega, by omega⟩), if_neg c2, Int.min_eq_right (by omega)]
            rw [e] at HP
            clear e hpl
            go_enter Try.func6, Try.ntmps6
            unfold Nd.val
            go_wp2_with (first | ((with_reducible refine inoHere ?_); refine wpList_loadG (by first | rfl | fail) 24 _ rfl w.heap.size rfl HB.out Try.underlying24 rfl infoI ?_) | (go_at_call 17; refine (HP.out _ HG.out).mono ?_; rintro e w1 ⟨rfl, g1⟩; have HG : Hid _ := grown_trans HG.out g1; have HB : Hid _ := HB.out.kept g1; have d0 := HB.out.c 0; have d7 := HB.out.c 7; have d9 := HB.out.c 9; have d16 := HB.out.c 16; clear g1) | (go_at_call 9; refine (HC.out _ HG.out).mono ?_; rintro e w1 ⟨rfl, g1⟩; have HG : Hid _ := grown_trans HG.out g1; have HB : Hid _ := HB.out.kept g1; have d0 := HB.out.c 0; have d7 := HB.out.c 7; have d9 := HB.out.c 9; have d16 := HB.out.c 16; clear g1) | (go_at_call 7; refine (HL.out _).mono ?_; rintro e w1 ⟨rfl, g1⟩; have HG : Hid _ := grown_trans HG.out g1; clear g1) | (go_at_call 10; refine (num15_any _ _).mono ?_; rintro e w' ⟨rfl, rfl⟩) | fail)
            go_loop [9, 10] (fun v u => ∃ j : Nat, (j : Int) ≤ log ∧ u = .int .i64 j ∧ v = .int .i64 (2 ^ j)) (fun v u => log.toNat - (intOf u).toNat)
            case atStart => exact ⟨0, by have := HLG.out; omega, rfl, rfl⟩
            case round =>
              obtain ⟨j, hj, rfl, rfl⟩ := hrel
              by_cases hlt : (j : Int) < log
              · have hj20 := pow_le20 (j := j) (by have := HLG.out; omega)
                have hp2 : Hid ((2 : Int) ^ j * 2 = 2 ^ (j + 1)) := (Int.pow_succ 2 j).symm
                obtain ⟨P, hP⟩ : ∃ P : Int, P = 2 ^ j := ⟨_, rfl⟩
                rw [← hP] at hp2 hj20 ⊢
                have HPP : Hid _ := hP
                clear hP
                have hl20 := HLG.out.2
                go_wp2
                go_round
                case rel => exact ⟨j + 1, by omega, by go_num, by rw [← hp2.out]⟩
                case measure => simp [intOf]; omega
              · have hje : log.toNat = j := by omega
                have hTe : (2 : Int) ^ j = T := by rw [HT.out, hje]
                rw [hTe]
                clear hTe hje
                have hF2 : IntKind.i64.wrap (i * T) = i * T := by rw [IntKind.wrap_i64]; omega
                have hF3 : IntKind.i64.wrap (n.sz - i * T) = n.sz - i * T := by rw [IntKind.wrap_i64]; omega
                go_wp2_with (first | ((with_reducible refine inoHere ?_); refine wpList_loadG (by first | rfl | fail) 24 _ rfl w.heap.size rfl HB.out Try.underlying24 rfl infoI ?_) | (go_at_call 17; refine (HP.out _ HG.out).mono ?_; rintro e w1 ⟨rfl, g1⟩; have HG : Hid _ := grown_trans HG.out g1; have HB : Hid _ := HB.out.kept g1; have d0 := HB.out.c 0; have d7 := HB.out.c 7; have d9 := HB.out.c 9; have d16 := HB.out.c 16; clear g1) | (go_at_call 9; refine (HC.out _ HG.out).mono ?_; rintro e w1 ⟨rfl, g1⟩; have HG : Hid _ := grown_trans HG.out g1; have HB : Hid _ := HB.out.kept g1; have d0 := HB.out.c 0; have d7 := HB.out.c 7; have d9 := HB.out.c 9; have d16 := HB.out.c 16; clear g1) | (go_at_call 7; refine (HL.out _).mono ?_; rintro e w1 ⟨rfl, g1⟩; have HG : Hid _ := grown_trans HG.out g1; clear g1) | (go_at_call 10; refine (num15_any _ _).mono ?_; rintro e w' ⟨rfl, rfl⟩) | fail)
                go_ret
                exact ⟨rfl, grown_below HG.out⟩
        · have e : pln15 n log i = (0, 1) := by unfold pln15; rw [if_neg (fun h => hc h.2.1)]
          have hc2 : (chk15 n != 0) = true := by simpa using hc
          rw [e] at HP
          clear e hn hc hk
          generalize chk15 n = c at *
          go_enter Try.func6, Try.ntmps6
          unfold Nd.val
          go_wp2_with (first | ((with_reducible refine inoHere ?_); refine wpList_loadG (by first | rfl | fail) 24 _ rfl w.heap.size rfl HB.out Try.underlying24 rfl infoI ?_) | (go_at_call 17; refine (HP.out _ HG.out).mono ?_; rintro e w1 ⟨rfl, g1⟩; have HG : Hid _ := grown_trans HG.out g1; have HB : Hid _ := HB.out.kept g1; have d0 := HB.out.c 0; have d7 := HB.out.c 7; have d9 := HB.out.c 9; have d16 := HB.out.c 16; clear g1) | (go_at_call 9; refine (HC.out _ HG.out).mono ?_; rintro e w1 ⟨rfl, g1⟩; have HG : Hid _ := grown_trans HG.out g1; have HB : Hid _ := HB.out.kept g1; have d0 := HB.out.c 0; have d7 := HB.out.c 7; have d9 := HB.out.c 9; have d16 := HB.out.c 16; clear g1) | (go_at_call 7; refine (HL.out _).mono ?_; rintro e w1 ⟨rfl, g1⟩; have HG : Hid _ := grown_trans HG.out g1; clear g1) | (go_at_call 10; refine (num15_any _ _).mono ?_; rintro e w' ⟨rfl, rfl⟩) | fail)
          go_ret
          exact ⟨rfl, grown_below HG.out⟩
      · have e : pln15 n log i = (0, 1) := by unfold pln15; rw [if_neg (fun h => hk h.1)]
        have hk2 : (n.kd != 1) = true := by simpa using hk
        rw [e] at HP
        clear e hn hk HC
        go_enter Try.func6, Try.ntmps6
        unfold Nd.val
        go_wp2_with (first | ((with_reducible refine inoHere ?_); refine wpList_loadG (by first | rfl | fail) 24 _ rfl w.heap.size rfl HB.out Try.underlying24 rfl infoI ?_) | (go_at_call 17; refine (HP.out _ HG.out).mono ?_; rintro e w1 ⟨rfl, g1⟩; have HG : Hid _ := grown_trans HG.out g1; have HB : Hid _ := HB.out.kept g1; have d0 := HB.out.c 0; have d7 := HB.out.c 7; have d9 := HB.out.c 9; have d16 := HB.out.c 16; clear g1) | (go_at_call 9; refine (HC.out _ HG.out).mono ?_; rintro e w1 ⟨rfl, g1⟩; have HG : Hid _ := grown_trans HG.out g1; have HB : Hid _ := HB.out.kept g1; have d0 := HB.out.c 0; have d7 := HB.out.c 7; have d9 := HB.out.c 9; have d16 := HB.out.c 16; clear g1) | (go_at_call 7; refine (HL.out _).mono ?_; rintro e w1 ⟨rfl, g1⟩; have HG : Hid _ := grown_trans HG.out g1; clear g1) | (go_at_call 10; refine (num15_any _ _).mono ?_; rintro e w' ⟨rfl, rfl⟩) | fail)
        go_ret
        exact ⟨rfl, grown_below HG.out⟩
end Go.Proofs.Ytiafbnpbbjkdbaa
