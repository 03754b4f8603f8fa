/- The document's Check of files. -/
import Derived.Test.YtiafbnpbbjkdbaaOB
namespace Go.Proofs.Ytiafbnpbbjkdbaa
open Go.RowKit
set_option maxRecDepth 100000
set_option linter.unusedSimpArgs false
set_option linter.unusedVariables false

theorem wok_take {ws : List Int} {j : Nat} (h : j < ws.length) : wok (ws.take (j + 1)) = (wok (ws.take j) && inn 0 4294967295 (ws.getD j 0)) := by
  unfold wok
  rw [List.take_succ_eq_append_getElem h, List.all_append]
  simp [List.getD_eq_getElem?_getD, List.getElem?_eq_getElem h]
theorem wok_no {ws : List Int} {j : Nat} (h : j < ws.length) (hw : inn 0 4294967295 (ws.getD j 0) = false) : wok ws = false := by
  cases e : wok ws with
  | false => rfl
  | true =>
    have := List.all_eq_true.1 e (ws.getD j 0) (by rw [List.getD_eq_getElem?_getD, List.getElem?_eq_getElem h]; exact List.getElem_mem h)
    rw [hw] at this
    cases this
set_option maxHeartbeats 8000000 in
theorem rcheck15_1 (n : Nd) (w : World) (hk : n.kd = 1) (hok : n.ok w) : Calls Try.prog 9 #[n.val] w fun e w' => e = .returned (.int .i64 (chk15 n)) ∧ w.grownBy w' none := by
  obtain ⟨kd, md, ui, gi, tm, ln, at_, sz, st, wa, wl, wc, ws, fr, of_, tl, dr, by_, pr, tg, dv⟩ := n
  simp only at hk
  subst hk
  have ek : inn 1 5 1 = true := rfl
  have HR : Hid _ := hok.row
  have e1 : inn (-1) 65535 (-1) = true := rfl
  have e2 : inn 0 1048575 0 = true := rfl
  clear hok
  unfold Nd.val
  simp only
  go_enter Try.func9, Try.ntmps9
  go_wp2_with (go_at_call 24; refine (rin_any _ _ _ _).mono ?_; rintro e w' ⟨rfl, rfl⟩)
  all_goals first | (go_ret; refine ⟨?_, World.grownBy_alloc _ _ _⟩; (try simp only [Bool.not_eq_true', Bool.not_eq_false', bne_iff_ne, bne_eq_false_iff_eq, ne_eq, beq_eq_false_iff_ne, beq_iff_eq] at *); simp [chk15, hd15, rest15, nofile15, dir15, nodir15, dev15, nolink15, file15, tail15, link15, has0, *] <;> (intros; omega); done) | skip
  all_goals
   go_loop [3] (fun i => ∃ j : Nat, j ≤ wl ∧ i = .int .i64 j ∧ wok (ws.take j) = true) (fun i => wl - (intOf i).toNat)
   case atStart => exact ⟨0, Nat.zero_le _, rfl, rfl⟩
   case round =>
     obtain ⟨j, hj, rfl, hw⟩ := hrel
     have hlen : ws.length = wl := HR.out.len_eq
     by_cases hlt : j < wl
     · obtain ⟨b, off, rfl, hc⟩ := HR.out.cells (by omega)
       have hcell : ∀ o, (w.alloc o).cell? ⟨b, off + j, none⟩ = some (.int .i64 (ws.getD j 0)) := fun o => by rw [(grown_below (World.grownBy_alloc w o none)).cell (cell_lt (hc j hlt))]; exact hc j hlt
       have hjl : j < ws.length := by omega
       cases hx : inn 0 4294967295 (ws.getD j 0) with
       | false =>
         have hwo := wok_no hjl hx
         clear hc hlen hw hjl
         generalize ws.getD j 0 = x at *
         go_wp2_with (go_at_call 24; refine (rin_any _ _ _ _).mono ?_; rintro e w' ⟨rfl, rfl⟩)
         go_ret
         refine ⟨?_, World.grownBy_alloc _ _ _⟩
         (try simp only [Bool.not_eq_true', Bool.not_eq_false', bne_iff_ne, bne_eq_false_iff_eq, ne_eq, beq_eq_false_iff_ne, beq_iff_eq] at *); simp [chk15, hd15, rest15, nofile15, dir15, nodir15, dev15, nolink15, file15, tail15, link15, has0, *] <;> (intros; omega)
       | true =>
         have hwo : wok (ws.take (j + 1)) = true := by rw [wok_take hjl, hw, hx]; rfl
         clear hc hlen hw hjl
         generalize ws.getD j 0 = x at *
         go_wp2_with (go_at_call 24; refine (rin_any _ _ _ _).mono ?_; rintro e w' ⟨rfl, rfl⟩)
         go_round
         case rel => exact ⟨j + 1, by omega, by go_num, hwo⟩
         case measure => simp [intOf]; omega
     · obtain rfl : j = wl := by omega
       rw [List.take_of_length_le (by omega)] at hw
       clear hlen
       go_wp2_with (go_at_call 24; refine (rin_any _ _ _ _).mono ?_; rintro e w' ⟨rfl, rfl⟩)
       all_goals go_ret
       all_goals refine ⟨?_, World.grownBy_alloc _ _ _⟩
       all_goals ((try simp only [Bool.not_eq_true', Bool.not_eq_false', bne_iff_ne, bne_eq_false_iff_eq, ne_eq, beq_eq_false_iff_ne, beq_iff_eq] at *); simp [chk15, hd15, rest15, nofile15, dir15, nodir15, dev15, nolink15, file15, tail15, link15, has0, *] <;> (intros; omega))
end Go.Proofs.Ytiafbnpbbjkdbaa
