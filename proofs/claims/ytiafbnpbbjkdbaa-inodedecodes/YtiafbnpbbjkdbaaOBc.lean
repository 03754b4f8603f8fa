/- The document's Check of links. -/
import Derived.Test.YtiafbnpbbjkdbaaOBb
namespace Go.Proofs.Ytiafbnpbbjkdbaa
open Go.RowKit
set_option maxRecDepth 100000
set_option linter.unusedSimpArgs false
set_option linter.unusedVariables false

set_option maxHeartbeats 8000000 in
theorem rcheck15_3 (n : Nd) (w : World) (hk : n.kd = 3) (hok : n.ok w) : Calls Try.prog 9 #[n.val] w fun e w' => e = .returned (.int .i64 (chk15 n)) ∧ w.grownBy w' none := by
  obtain ⟨kd, md, ui, gi, tm, ln, at_, sz, st, wa, wl, wc, ws, fr, of_, tl, dr, by_, pr, tg, dv⟩ := n
  simp only at hk
  subst hk
  have ek : inn 1 5 3 = true := rfl
  have hsz : tg.size ≤ maxLen := hok.txt
  clear hok
  unfold maxLen at hsz
  unfold Nd.val
  simp only
  go_enter Try.func9, Try.ntmps9
  go_wp2_with (go_at_call 24; refine (rin_any _ _ _ _).mono ?_; rintro e w' ⟨rfl, rfl⟩)
  all_goals first | (go_ret; refine ⟨?_, World.grownBy_alloc _ _ _⟩; (try simp only [Bool.not_eq_true', Bool.not_eq_false', bne_iff_ne, bne_eq_false_iff_eq, ne_eq] at *); simp [chk15, hd15, rest15, nofile15, dir15, nodir15, dev15, nolink15, file15, tail15, link15, has0, *] <;> (intros; omega); done) | skip
  all_goals
    go_loop [4] (fun i => ∃ k : Nat, k ≤ tg.size ∧ i = .int .i64 k ∧ Hid (nul tg k = false)) (fun i => tg.size - (intOf i).toNat)
    case atStart => exact ⟨0, Nat.zero_le _, rfl, rfl⟩
    case round =>
      obtain ⟨k, hk, rfl, hb⟩ := hrel
      by_cases hlt : k < tg.size
      · have hbk := byt_in hlt
        have hs1 := nul_succ tg k
        rw [hb.out, Bool.false_or] at hs1
        have hlt2 := byt_lt tg k
        cases hx : (byt tg k == 0) with
        | true =>
          have hn : nul tg tg.size = true := nul_mono (by rw [hs1, hx]) hlt
          have h0 : byt tg k = 0 := by simpa using hx
          rw [h0] at hbk
          have hbk' : ((tg[k]'hlt).toNat : Int) = 0 := by rw [hbk]; rfl
          clear hs1 hx hb hbk hlt2 h0
          go_wp2_with (go_at_call 24; refine (rin_any _ _ _ _).mono ?_; rintro e w' ⟨rfl, rfl⟩)
          go_ret
          refine ⟨?_, World.grownBy_alloc _ _ _⟩
          (try simp only [Bool.not_eq_true', Bool.not_eq_false', bne_iff_ne, bne_eq_false_iff_eq, ne_eq] at *); simp [chk15, hd15, rest15, nofile15, dir15, nodir15, dev15, nolink15, file15, tail15, link15, has0, *] <;> (intros; omega)
        | false =>
          have h0 : ((((tg[k]'hlt).toNat : Nat) : Int) == 0) = false := by
            have : byt tg k ≠ 0 := by simpa using hx
            rw [hbk, beq_eq_false_iff_ne]
            omega
          have HN : Hid (nul tg (k + 1) = false) := by rw [hs1, hx]; rfl
          clear hs1 hx hb hbk hlt2
          go_wp2_with (go_at_call 24; refine (rin_any _ _ _ _).mono ?_; rintro e w' ⟨rfl, rfl⟩)
          go_round
          case rel => exact ⟨k + 1, by omega, by go_num, HN⟩
          case measure => simp [intOf]; omega
      · obtain rfl : k = tg.size := by omega
        have hn : nul tg tg.size = false := hb.out
        clear hb
        go_wp2_with (go_at_call 24; refine (rin_any _ _ _ _).mono ?_; rintro e w' ⟨rfl, rfl⟩)
        all_goals go_ret
        all_goals refine ⟨?_, World.grownBy_alloc _ _ _⟩
        all_goals ((try simp only [Bool.not_eq_true', Bool.not_eq_false', bne_iff_ne, bne_eq_false_iff_eq, ne_eq] at *); simp [chk15, hd15, rest15, nofile15, dir15, nodir15, dev15, nolink15, file15, tail15, link15, has0, *] <;> (intros; omega))
theorem rcheck15_any (n : Nd) (w : World) (hok : n.ok w) : Calls Try.prog 9 #[n.val] w fun e w' => e = .returned (.int .i64 (chk15 n)) ∧ w.grownBy w' none := by
  cases h : inn 1 5 n.kd with
  | false => exact rcheck15_0 n w h hok
  | true =>
    have h' := inn_iff.1 h
    rcases (by omega : n.kd = 1 ∨ n.kd = 2 ∨ n.kd = 3 ∨ n.kd = 4 ∨ n.kd = 5) with e | e | e | e | e
    · exact rcheck15_1 n w e hok
    · exact rcheck15_2 n w e hok
    · exact rcheck15_3 n w e hok
    · exact rcheck15_4 n w e hok
    · exact rcheck15_5 n w e hok
end Go.Proofs.Ytiafbnpbbjkdbaa
