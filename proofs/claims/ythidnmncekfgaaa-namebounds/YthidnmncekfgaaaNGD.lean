/- The program's Join, as landed. -/
import Derived.Lib.AppendStr
import Derived.Test.YthidnmncekfgaaaRT
import Derived.Test.YthidnmncekfgaaaNGC
namespace Go.Proofs.Ythidnmncekfgaaa
open Go.RowKit
set_option maxRecDepth 100000
set_option linter.unusedSimpArgs false
set_option linter.unusedVariables false

/-- a text's bytes as numbers -/
def nus (l : Tx) : List Int := l.map fun b => (b.toNat : Int)
theorem nus_len (l : Tx) : (nus l).length = l.length := by simp [nus]
theorem nus_app (a b : Tx) : nus (a ++ b) = nus a ++ nus b := by simp [nus]
theorem nus_byt (l : Tx) : Byt (nus l) := fun n hn => by
  obtain ⟨b, _, rfl⟩ := List.mem_map.1 hn
  have := UInt8.toNat_lt b
  omega
theorem nus_cells (s : ByteArray) : Lib.strCells s = bv (nus s.toList) := by
  unfold Lib.strCells bv nus
  rw [ByteArray.toList_eq, List.map_map]
  rfl
theorem nus_str (l : Tx) : strOfNums (nus l) = tx l := by
  apply tl_inj
  rw [str_toList, tx_tl]
  unfold nus
  rw [List.map_map]
  conv => rhs; rw [← List.map_id l]
  apply List.map_congr_left
  intro b _
  simp
set_option maxHeartbeats 2000000 in
theorem pjoin_any (a : Option Addr) (n c : Nat) (l : List ByteArray) (w : World) (R : SRow w a n l) (hnc : n ≤ c) (hn : n ≤ 1000000) (hl : ∀ i, (l.getD i ⟨#[]⟩).size ≤ 5000) :
    Calls Try.prog 16 #[.slice a n c] w fun e w' => e = .returned (.tuple #[.string (tx (jnp (tls l)).1), .int .i64 (jnp (tls l)).2]) ∧ w.grownBy w' none := by
  have hln : (tls l).length = n := by rw [tls_len]; exact R.len_eq
  by_cases hm : 128 < n
  · have e : jnp (tls l) = ([], 3) := by unfold jnp; rw [hln, if_pos hm]
    rw [e]
    have hmi : (128 : Int) < n := by omega
    go_enter Try.func16, Try.ntmps16
    go_wp2
    go_ret2
    exact ⟨rfl, World.grownBy.refl _ _⟩
  · have hmi : ¬ (128 : Int) < n := by omega
    have HJ : Hid (jnp (tls l) = if (tls l).any (fun p => !prt p) then ([], 1) else if 4096 < (joi (tls l)).length then ([], 2) else (joi (tls l), 0)) := by
      show jnp (tls l) = _
      unfold jnp; rw [hln, if_neg hm]
    have HB : Hid (∀ p ∈ tls l, p.length ≤ 5000) := by
      intro p hp
      obtain ⟨x, hx, rfl⟩ := List.mem_map.1 hp
      obtain ⟨i, hi, rfl⟩ := List.getElem_of_mem hx
      have := hl i
      rw [tl_len]
      simpa [List.getD_eq_getElem?_getD, hi] using this
    generalize hT : tls l = T at *
    have HT : Hid _ := And.intro hT hln
    have HR : Hid _ := And.intro R hl
    have HTK : Hid (∀ k, k < n → T.take (k + 1) = T.take k ++ [(l.getD k ⟨#[]⟩).toList]) := by
      intro k hlt
      rw [List.take_succ_eq_append_getElem (by rw [HT.out.2]; exact hlt)]
      congr 2
      have hkl : k < l.length := by rw [HR.out.1.len_eq]; exact hlt
      simp only [← HT.out.1, tls, List.getElem_map, List.getD_eq_getElem?_getD, List.getElem?_eq_getElem hkl, Option.getD_some]
    clear R hl hT hln
    go_enter Try.func16, Try.ntmps16
    go_wp2
    go_loopw [14] (fun vi wr => ∃ k : Nat, k ≤ n ∧ vi = .int .i64 k ∧ Hid ((T.take k).any (fun p => !prt p) = false) ∧ w = wr) (fun vi _ => n - (intOf vi).toNat)
    case atStart => exact ⟨0, Nat.zero_le _, rfl, rfl, rfl⟩
    case round =>
      obtain ⟨k, hk, rfl, HP, rfl⟩ := hrel
      by_cases hlt : k < n
      · obtain ⟨b1, o1, rfl, c1⟩ := HR.out.1.cells (by omega)
        have hx := c1 k hlt
        have hsz := HR.out.2 k
        have hTk := HTK.out k hlt
        generalize l.getD k ⟨#[]⟩ = x at *
        have hv := fun W => pvalid_eq x W (by omega)
        have HTk : Hid _ := hTk
        clear hTk c1
        have hlti : (k : Int) < n := by omega
        cases hpr : prt x.toList with
        | false =>
          have HV : Hid (jnp T = ([], 1)) := by
            show jnp T = ([], 1)
            rw [HJ.out, if_pos]
            rw [List.any_eq_true]
            refine ⟨x.toList, List.mem_of_mem_take (i := k + 1) ?_, by rw [hpr]; rfl⟩
            rw [HTk.out]; simp
          have hp2 : (x.toList == [46, 46]) = false ∧ vld x.toList = false := by unfold prt at hpr; rwa [Bool.or_eq_false_iff] at hpr
          obtain ⟨hx2, hvv⟩ := hp2
          rw [hvv] at hv
          clear hpr hvv HTk HP
          go_wp2_with (go_at_call 12; refine (hv _).mono ?_; rintro e w' ⟨rfl, rfl⟩)
          go_ret2
          exact ⟨by rw [HV.out]; rfl, World.grownBy.refl _ _⟩
        | true =>
          have HP2 : Hid ((T.take (k + 1)).any (fun p => !prt p) = false) := by
            show (T.take (k + 1)).any (fun p => !prt p) = false
            rw [HTk.out, List.any_append, HP.out]; simp [hpr]
          have hp2 : (x.toList == [46, 46]) = true ∨ ((x.toList == [46, 46]) = false ∧ vld x.toList = true) := by
            unfold prt at hpr
            cases h : (x.toList == [46, 46]) with
            | true => exact Or.inl rfl
            | false => rw [h, Bool.false_or] at hpr; exact Or.inr ⟨rfl, hpr⟩
          clear hpr HP HTk
          rcases hp2 with hx2 | ⟨hx2, hvv⟩
          · go_wp2_with (go_at_call 12; refine (hv _).mono ?_; rintro e w' ⟨rfl, rfl⟩)
            go_roundw
            case rel => exact ⟨k + 1, by omega, by go_num, HP2, by first | rfl | trivial⟩
            case measure => simp [intOf]; omega
          · rw [hvv] at hv
            go_wp2_with (go_at_call 12; refine (hv _).mono ?_; rintro e w' ⟨rfl, rfl⟩)
            go_roundw
            case rel => exact ⟨k + 1, by omega, by go_num, HP2, by first | rfl | trivial⟩
            case measure => simp [intOf]; omega
      · obtain rfl : k = n := by omega
        have hnl : ¬ (k : Int) < k := by omega
        have HJ2 : Hid (jnp T = if 4096 < (joi T).length then ([], 2) else (joi T, 0)) := by
          show jnp T = _
          have hTT : T.take k = T := List.take_of_length_le (by rw [HT.out.2]; exact Nat.le_refl _)
          have := HP.out
          rw [hTT] at this
          rw [HJ.out, this, if_neg (by decide)]
        clear HJ HP
        go_wp2
        obtain ⟨i5, hi, hz0, hz1, hz2⟩ := info_parts Try.info5
        go_loopw [6, 28] (fun vp vi wr => ∃ j : Nat, j ≤ k ∧ vi = .int .i64 j ∧ wr.ownsRow w.heap.size 5 1 vp (joi (T.take j)).length (bv (nus (joi (T.take j)))) ∧ w.grownBy wr none) (fun _ vi _ => k - (intOf vi).toNat)
        case atStart => exact ⟨0, Nat.zero_le _, rfl, World.ownsRow_nil _ _ _ _, World.grownBy.refl _ _⟩
        case round =>
          obtain ⟨j, hj, rfl, hown, hgr⟩ := hrel
          have hJl : (joi (T.take j)).length ≤ 640128 := by
            have h1 := joi_len (T.take j) 5000 (fun p hp => HB.out p (List.mem_of_mem_take hp))
            have h2 : (T.take j).length ≤ 128 := by rw [List.length_take]; omega
            exact Nat.le_trans h1 (Nat.le_trans (Nat.mul_le_mul_right _ h2) (by decide))
          by_cases hlt : j < k
          · obtain ⟨b1, o1, rfl, c1⟩ := HR.out.1.cells (by omega)
            have hx := ((HR.out.1.grown hgr).cells (by omega))
            obtain ⟨b2, o2, he2, c2⟩ := hx
            obtain ⟨rfl, rfl⟩ : b1 = b2 ∧ o1 = o2 := by injection he2 with he2; injection he2 with h1 h2; exact ⟨h1, h2⟩
            have hx := c2 j hlt
            have hsz := HR.out.2 j
            have hTk := HTK.out j hlt
            generalize l.getD j ⟨#[]⟩ = x at *
            clear c1 c2 he2
            have hlti : (j : Int) < k := by omega
            by_cases hj0 : j = 0
            · have hs1 : joi (T.take (j + 1)) = joi (T.take j) ++ x.toList := by
                rw [hTk, hj0]
                simp [joi]
              have HS : Hid _ := hs1
              have hji : ¬ (0 : Int) < j := by omega
              clear hs1 hTk hj0
              generalize hq : joi (T.take j) = q at *
              have HQ : Hid _ := hq
              clear hq
              go_wp2_with (at_builtin; refine Lib.wpList_append_own_string _ rfl _ _ 39 9 rfl w.heap.size 5 i5 Try.underlying39 Try.underlying9 hi hz0 hz1 hz2 _ _ _ rfl hown x rfl (by unfold maxLen; omega) (by omega) hgr.size ?_; intro v' w1 hown' hgrow _)
              have hj1 : joi (T.take (j + 1)) = q ++ x.toList := by rw [HS.out]
              have R : w1.ownsRow w.heap.size 5 1 v' (joi (T.take (j + 1))).length (bv (nus (joi (T.take (j + 1))))) := by
                rw [hj1, List.length_append, tl_len, nus_app, bv_append, ← nus_cells]
                exact hown'
              exact ⟨⟨j + 1, by omega, by go_num, R, grown_own hgr hown hgrow (Nat.le_refl _)⟩, by simp [intOf]; omega⟩
            · have hs1 : joi (T.take (j + 1)) = joi (T.take j) ++ [47] ++ x.toList := by
                rw [hTk, joi_snoc _ _ (by intro e; have := congrArg List.length e; rw [List.length_take, HT.out.2] at this; simp at this; omega)]
                simp
              have HS : Hid _ := hs1
              have hji : (0 : Int) < j := by omega
              clear hs1 hTk hj0
              generalize hq : joi (T.take j) = q at *
              have HQ : Hid _ := hq
              clear hq
              go_wp2_with (at_builtin; (refine wpList_append_own _ rfl _ _ 39 rfl w.heap.size 5 i5 (.int .u8 0) 1 1 Try.underlying39 hi hz0 hz1 hz2 rfl (by decide) _ _ _ rfl (hown.alloc _) ⟨wr.heap.size, 0, none⟩ 1 1 (bv [47]) rfl rfl ?c1 (bv_one _) ?c3 ?c4 ?c5 ?_))
              case c1 => first | exact cell_one _ _ _ | exact fun j u h => h
              case c3 => unfold maxLen; omega
              case c4 => omega
              case c5 => have := hgr.size; simp; omega
              · intro v2 w2 hown2 hgrow2 _
                have hgr2 : w.grownBy w2 none := grown_own (grown_tr hgr (World.grownBy_alloc wr _ none)) (hown.alloc _) hgrow2 (Nat.le_refl _)
                clear hgrow2 hown hgr hx
                go_wp2_with (at_builtin; refine Lib.wpList_append_own_string _ rfl _ _ 39 9 rfl w.heap.size 5 i5 Try.underlying39 Try.underlying9 hi hz0 hz1 hz2 _ _ _ rfl hown2 x rfl (by unfold maxLen; omega) (by omega) hgr2.size ?_; intro v' w1 hown' hgrow _)
                have hj1 : joi (T.take (j + 1)) = q ++ [47] ++ x.toList := by rw [HS.out]
                have R : w1.ownsRow w.heap.size 5 1 v' (joi (T.take (j + 1))).length (bv (nus (joi (T.take (j + 1))))) := by
                  rw [hj1, List.length_append, List.length_append, tl_len, nus_app, nus_app, bv_append, bv_append, ← nus_cells]
                  exact hown'
                exact ⟨⟨j + 1, by omega, by go_num, R, grown_own hgr2 hown2 hgrow (Nat.le_refl _)⟩, by simp [intOf]; omega⟩
          · obtain rfl : j = k := by omega
            have hnl2 : ¬ (j : Int) < j := by omega
            have hTT : T.take j = T := List.take_of_length_le (by rw [HT.out.2]; exact Nat.le_refl _)
            rw [hTT] at hown hJl
            obtain ⟨a', c', rfl, RR⟩ := owns_row hown (nus_byt _) (by unfold maxLen; omega)
            have hconv := conv_row (P := Try.prog) RR c' 39 9 Try.underlying39 Try.underlying5 Try.underlying9
            rw [nus_str] at hconv
            generalize (joi T).length = len at *
            by_cases h4 : 4096 < len
            · have HV : Hid (jnp T = ([], 2)) := by
                show jnp T = _
                rw [HJ2.out, if_pos h4]
              have h4i : (4096 : Int) < len := by omega
              clear HJ2 RR hown
              go_wp2
              go_ret2
              exact ⟨by rw [HV.out]; rfl, hgr⟩
            · have HV : Hid (jnp T = (joi T, 0)) := by
                show jnp T = _
                rw [HJ2.out, if_neg h4]
              have h4i : ¬ (4096 : Int) < len := by omega
              have HV1 : Hid (tx (jnp T).1 = tx (joi T)) := by
                show tx (jnp T).1 = tx (joi T)
                rw [HV.out]
              have HV2 : Hid ((jnp T).2 = 0) := by
                show (jnp T).2 = 0
                rw [HV.out]
              clear HJ2 RR hown
              generalize tx (joi T) = S0 at *
              go_wp2
              go_ret2
              exact ⟨by rw [HV1.out, HV2.out]; rfl, hgr⟩
end Go.Proofs.Ythidnmncekfgaaa
