/- The document's Join. -/
import Derived.Test.YthidnmncekfgaaaNE
namespace Go.Proofs.Ythidnmncekfgaaa
open Go.RowKit
set_option linter.unusedSimpArgs false
set_option linter.unusedVariables false

theorem bad_any (s : ByteArray) : ∀ k, k ≤ s.size → bad s k = (s.toList.take k).any fun c => c == 47 || c == 0
  | 0, _ => rfl
  | k + 1, h => by
    rw [bad_succ, take_get (by omega), List.any_append, bad_any s k (by omega)]
    congr 1
    rw [← byt_in (by omega)]
    simp only [List.any_cons, List.any_nil, Bool.or_false]
    congr 1
    · rw [Bool.eq_iff_iff, beq_iff_eq, beq_iff_eq]; exact ⟨fun h => UInt8.toNat_inj.1 h, fun h => by rw [h]; rfl⟩
    · rw [Bool.eq_iff_iff, beq_iff_eq, beq_iff_eq]; exact ⟨fun h => UInt8.toNat_inj.1 h, fun h => by rw [h]; rfl⟩
theorem val_vld (s : ByteArray) : val s = vld s.toList := by
  unfold val vld
  rw [tl_len, bad_any s s.size (Nat.le_refl _), List.take_of_length_le (by rw [tl_len]; exact Nat.le_refl _)]
theorem tx_app (a b : Tx) : tx a ++ tx b = tx (a ++ b) := by
  apply tl_inj
  rw [tx_tl, ByteArray.toList_eq]
  simp [tx]
theorem tx_app2 (a : Tx) (x : ByteArray) : tx a ++ x = tx (a ++ x.toList) := by rw [← tx_app, tl_tx]
theorem tx_size (a : Tx) : (tx a).size = a.length := by rw [← tl_len, tx_tl]
/-- so long are the first k parts at most, with their slashes -/
theorem joi_len (l : List Tx) (m : Nat) (h : ∀ p ∈ l, p.length ≤ m) : (joi l).length ≤ l.length * (m + 1) := by
  induction l with
  | nil => simp [joi]
  | cons p r ih =>
    have h1 := h p (List.mem_cons_self ..)
    have h2 := ih (fun q hq => h q (List.mem_cons_of_mem _ hq))
    cases r with
    | nil => simp [joi]; omega
    | cons q t =>
      rw [joi, List.length_append, List.length_cons, List.length_cons, Nat.succ_mul]
      omega
set_option maxHeartbeats 2000000 in
theorem rjoin_any (a : Option Addr) (n c : Nat) (l : List ByteArray) (w : World) (R : SRow w a n l) (hn : n ≤ 1000000) (hl : ∀ i, (l.getD i ⟨#[]⟩).size ≤ 5000) :
    Calls Try.prog 17 #[.slice a n c] w fun e w' => e = .returned (.tuple #[.string (tx (jnp (tls l)).1), .int .i64 (jnp (tls l)).2]) ∧ ∃ n, w' = w.drewN n := by
  have hln : (tls l).length = n := by rw [tls_len]; exact R.len_eq
  by_cases hm : 128 < n
  · have e : jnp (tls l) = ([], 3) := by unfold jnp; rw [hln, if_pos hm]
    rw [e]
    have hmi : (128 : Int) < n := by omega
    go_enter Try.func17, Try.ntmps17
    go_wp2
    go_ret2
    exact ⟨rfl, 0, rfl⟩
  · have hmi : ¬ (128 : Int) < n := by omega
    have HJ : Hid (jnp (tls l) = if (tls l).any (fun p => !prt p) then ([], 1) else if 4096 < (joi (tls l)).length then ([], 2) else (joi (tls l), 0)) := by
      show jnp (tls l) = _
      unfold jnp; rw [hln, if_neg hm]
    have HB : Hid (∀ p ∈ tls l, p.length ≤ 5000) := by
      intro p hp
      obtain ⟨x, hx, rfl⟩ := List.mem_map.1 hp
      obtain ⟨i, hi, rfl⟩ := List.getElem_of_mem hx
      have := hl i
      rw [tl_len]
      simpa [List.getD_eq_getElem?_getD, hi] using this
    generalize hT : tls l = T at *
    have HT : Hid _ := And.intro hT hln
    have HR : Hid _ := And.intro R hl
    clear R hl hT hln
    go_enter Try.func17, Try.ntmps17
    go_wp2
    go_loopw [4, 5] (fun vs vi wr => ∃ k : Nat, k ≤ n ∧ vi = .int .i64 k ∧ vs = .string (tx (joi (T.take k))) ∧ Hid ((T.take k).any (fun p => !prt p) = false) ∧ ∃ t, wr = w.drewN t) (fun _ vi _ => n - (intOf vi).toNat)
    case atStart => exact ⟨0, Nat.zero_le _, rfl, rfl, rfl, 0, rfl⟩
    case round =>
      obtain ⟨k, hk, rfl, rfl, HP, t, rfl⟩ := hrel
      by_cases hlt : k < n
      · obtain ⟨b1, o1, rfl, c1⟩ := HR.out.1.cells (by omega)
        have hx := c1 k hlt
        have hsz := HR.out.2 k
        have hTk : T.take (k + 1) = T.take k ++ [(l.getD k ⟨#[]⟩).toList] := by
          rw [List.take_succ_eq_append_getElem (by rw [HT.out.2]; exact hlt)]
          congr 2
          have hkl : k < l.length := by rw [HR.out.1.len_eq]; exact hlt
          simp only [← HT.out.1, tls, List.getElem_map, List.getD_eq_getElem?_getD, List.getElem?_eq_getElem hkl, Option.getD_some]
        generalize l.getD k ⟨#[]⟩ = x at *
        have hJl : (joi (T.take k)).length ≤ 640128 := by
          have h1 := joi_len (T.take k) 5000 (fun p hp => HB.out p (List.mem_of_mem_take hp))
          have h2 : (T.take k).length ≤ 128 := by rw [List.length_take]; omega
          exact Nat.le_trans h1 (Nat.le_trans (Nat.mul_le_mul_right _ h2) (by decide))
        have hv := fun W => rvalid_any x W hsz
        rw [val_vld] at hv
        have HTK : Hid _ := hTk
        clear hTk c1
        have hlti : (k : Int) < n := by omega
        have hjs : (tx (joi (T.take k))).size ≤ 640128 := by rw [tx_size]; exact hJl
        cases hpr : prt x.toList with
        | false =>
          have HV : Hid (jnp T = ([], 1)) := by
            show jnp T = ([], 1)
            rw [HJ.out, if_pos]
            rw [List.any_eq_true]
            refine ⟨x.toList, List.mem_of_mem_take (i := k + 1) ?_, by rw [hpr]; rfl⟩
            rw [HTK.out]; simp
          have hp2 : (x.toList == [46, 46]) = false ∧ vld x.toList = false := by unfold prt at hpr; rwa [Bool.or_eq_false_iff] at hpr
          obtain ⟨hx2, hvv⟩ := hp2
          rw [hvv] at hv
          clear hpr hvv HTK HP
          go_wp2_with (go_at_call 13; refine (hv _).mono ?_; rintro e w' ⟨rfl, rfl⟩)
          go_ret2
          exact ⟨by rw [HV.out]; rfl, _, rfl⟩
        | true =>
          have HP2 : Hid ((T.take (k + 1)).any (fun p => !prt p) = false) := by
            show (T.take (k + 1)).any (fun p => !prt p) = false
            rw [HTK.out, List.any_append, HP.out]; simp [hpr]
          have hp2 : (x.toList == [46, 46]) = true ∨ ((x.toList == [46, 46]) = false ∧ vld x.toList = true) := by
            unfold prt at hpr
            cases h : (x.toList == [46, 46]) with
            | true => exact Or.inl rfl
            | false => rw [h, Bool.false_or] at hpr; exact Or.inr ⟨rfl, hpr⟩
          clear hpr HP
          have HS : Hid (tx (joi (T.take (k + 1))) = if k = 0 then x else tx (joi (T.take k)) ++ ⟨#[47]⟩ ++ x) := by
            show tx (joi (T.take (k + 1))) = _
            by_cases hk0 : k = 0
            · rw [if_pos hk0, HTK.out, hk0]
              simp only [List.take_zero, List.nil_append, joi]
              exact tl_tx x
            · rw [if_neg hk0, HTK.out, joi_snoc _ _ (by intro e; have := congrArg List.length e; rw [List.length_take, HT.out.2] at this; simp at this; omega)]
              rw [show (⟨#[47]⟩ : ByteArray) = tx [47] from rfl, tx_app, tx_app2]
              simp
          clear HTK
          generalize hJ2 : tx (joi (T.take k)) = S0 at *
          by_cases hk0 : k = 0
          · have hS0 : S0 = ⟨#[]⟩ := by rw [← hJ2, hk0]; rfl
            have hs1 := HS.out
            rw [if_pos hk0] at hs1
            have HS1 : Hid _ := hs1
            clear hs1 HS hJ2 hJl
            have hki : ¬ (0 : Int) < k := by omega
            clear hk0
            subst hS0
            rcases hp2 with hx2 | ⟨hx2, hvv⟩
            · go_wp2_with (go_at_call 13; refine (hv _).mono ?_; rintro e w' ⟨rfl, rfl⟩)
              go_roundw
              case rel => exact ⟨k + 1, by omega, by go_num, by rw [HS1.out]; try rfl, HP2, _, rfl⟩
              case measure => simp [intOf]; omega
            · rw [hvv] at hv
              go_wp2_with (go_at_call 13; refine (hv _).mono ?_; rintro e w' ⟨rfl, rfl⟩)
              go_roundw
              case rel => exact ⟨k + 1, by omega, by go_num, by rw [HS1.out]; try rfl, HP2, _, rfl⟩
              case measure => simp [intOf]; omega
          · have hki : (0 : Int) < k := by omega
            have hs1 := HS.out
            rw [if_neg hk0] at hs1
            have HS1 : Hid _ := hs1
            clear hs1 HS hJ2 hJl hk0
            rcases hp2 with hx2 | ⟨hx2, hvv⟩
            · go_wp2_with (go_at_call 13; refine (hv _).mono ?_; rintro e w' ⟨rfl, rfl⟩)
              go_roundw
              case rel => exact ⟨k + 1, by omega, by go_num, by rw [HS1.out]; try rfl, HP2, _, rfl⟩
              case measure => simp [intOf]; omega
            · rw [hvv] at hv
              go_wp2_with (go_at_call 13; refine (hv _).mono ?_; rintro e w' ⟨rfl, rfl⟩)
              go_roundw
              case rel => exact ⟨k + 1, by omega, by go_num, by rw [HS1.out]; try rfl, HP2, _, rfl⟩
              case measure => simp [intOf]; omega
      · have ek : k = n := by omega
        subst ek
        have hTT : T.take k = T := List.take_of_length_le (by rw [HT.out.2]; exact Nat.le_refl _)
        rw [hTT] at HP
        rw [hTT]
        have HJ2 : Hid (jnp T = if 4096 < (joi T).length then ([], 2) else (joi T, 0)) := by
          show jnp T = _
          rw [HJ.out, HP.out, if_neg (by decide)]
        have hsz : (tx (joi T)).size = (joi T).length := tx_size _
        clear HJ HP hTT
        by_cases h4 : 4096 < (joi T).length
        · have HV : Hid (jnp T = ([], 2)) := by
            show jnp T = _
            rw [HJ2.out, if_pos h4]
          have h4i : (4096 : Int) < ((tx (joi T)).size : Nat) := by rw [hsz]; omega
          clear HJ2 hsz h4
          generalize tx (joi T) = S0 at *
          go_wp2
          go_ret2
          exact ⟨by rw [HV.out]; rfl, _, rfl⟩
        · have HV : Hid (jnp T = (joi T, 0)) := by
            show jnp T = _
            rw [HJ2.out, if_neg h4]
          have h4i : ¬ (4096 : Int) < ((tx (joi T)).size : Nat) := by rw [hsz]; omega
          clear HJ2 hsz h4
          have HV1 : Hid (tx (jnp T).1 = tx (joi T)) := by
            show tx (jnp T).1 = tx (joi T)
            rw [HV.out]
          have HV2 : Hid ((jnp T).2 = 0) := by
            show (jnp T).2 = 0
            rw [HV.out]
          generalize tx (joi T) = S0 at *
          go_wp2
          go_ret2
          exact ⟨by rw [HV1.out, HV2.out]; rfl, _, rfl⟩
end Go.Proofs.Ythidnmncekfgaaa
