/- The walk of NameBounds. -/
import Derived.Test.YthidnmncekfgaaaNJ
import Derived.Test.YthidnmncekfgaaaRT
import Derived.Laws.BytesArg
namespace Go.Proofs.Ythidnmncekfgaaa
open Go.RowKit
set_option linter.unusedSimpArgs false
set_option linter.unusedVariables false

def aas (m : Nat) : Tx := List.replicate m 97
def part9 (i : Nat) : Tx := aas (1 + i % 2)
def parts9 (k : Nat) : List Tx := (List.range k).map part9
theorem parts9_succ (k : Nat) : parts9 (k + 1) = parts9 k ++ [part9 k] := by unfold parts9; rw [List.range_succ, List.map_append]; rfl
theorem parts9_len (k : Nat) : (parts9 k).length = k := by simp [parts9]
theorem part9_prt (i : Nat) : prt (part9 i) = true := by
  unfold part9
  rcases (by omega : i % 2 = 0 ∨ i % 2 = 1) with h | h <;> rw [h] <;> decide
theorem joi_parts (k : Nat) (h : k ≤ 128) : jnp (parts9 k) = (joi (parts9 k), 0) := by
  unfold jnp
  rw [parts9_len, if_neg (by omega)]
  have h1 : ((parts9 k).any fun p => !prt p) = false := by
    rw [List.any_eq_false]
    intro p hp
    obtain ⟨i, -, rfl⟩ := List.mem_map.1 hp
    rw [part9_prt]; decide
  rw [h1, if_neg (by decide), if_neg]
  have h2 := joi_len (parts9 k) 2 (fun p hp => by
    obtain ⟨i, -, rfl⟩ := List.mem_map.1 hp
    unfold part9 aas
    rw [List.length_replicate]; omega)
  rw [parts9_len] at h2
  omega
theorem jnp_many (k : Nat) (h : 128 < k) : jnp (parts9 k) = ([], 3) := by unfold jnp; rw [parts9_len, if_pos h]
theorem aas_pure (m : Nat) : ∀ c ∈ aas m, c ≠ 47 ∧ c ≠ 0 := fun c hc => by
  rw [(List.mem_replicate.1 hc).2]; decide
theorem spl_xa (n : Nat) (h : 250 ≤ n) (h2 : n ≤ 260) : (spl ([120, 47] ++ aas n)).2 = if n ≤ 255 then 0 else 1 := by
  unfold spl
  have hl : ([120, 47] ++ aas n).length = n + 2 := by simp [aas]
  rw [hl, if_neg (by omega)]
  have h0 : ([120, 47] ++ aas n).any (· == 0) = false := by
    rw [List.any_eq_false]
    intro c hc e
    have e : c = 0 := by simpa using e
    rcases List.mem_append.1 hc with h | h
    · rw [e] at h; revert h; decide
    · exact (aas_pure n c h).2 e
  rw [h0, if_neg (by decide)]
  have hc : cutS ([120, 47] ++ aas n) = [[120], aas n] := by
    have e : [120, 47] ++ aas n = [120] ++ 47 :: aas n := rfl
    rw [e, cutS_app (by intro c hc; rw [List.mem_singleton.1 hc]; decide), cutS_pure (fun c hc => (aas_pure n c hc).1)]
  rw [hc]
  have hlg : [[120], aas n].any longP = decide (255 < n) := by
    simp [longP, aas]
  rw [hlg]
  by_cases hn : n ≤ 255
  · rw [if_pos hn, decide_eq_false (by omega), if_neg (by decide), if_neg]
    have := List.length_filter_le kept [[120], aas n]
    simp only [List.length_cons, List.length_nil] at this
    omega
  · rw [if_neg hn, decide_eq_true (by omega), if_pos rfl]
theorem vld_a (n : Nat) (h : 250 ≤ n) : vld (aas n) = decide (n ≤ 255) := by
  unfold vld
  have h1 : (aas n).length = n := List.length_replicate
  have h2 : (aas n == [46]) = false := by
    rw [beq_eq_false_iff_ne]; intro e
    have := congrArg List.length e
    rw [h1] at this; simp at this; omega
  have h3 : (aas n == [46, 46]) = false := by
    rw [beq_eq_false_iff_ne]; intro e
    have := congrArg List.length e
    rw [h1] at this; simp at this; omega
  have h4 : ((aas n).any fun c => c == 47 || c == 0) = false := by
    rw [List.any_eq_false]; intro c hc e
    have := aas_pure n c hc
    simp [this] at e
  rw [h1, h2, h3, h4, decide_eq_true (by omega)]
  simp
theorem strOf_a (m : Nat) : strOfNums (List.replicate m 97) = tx (aas m) := by
  unfold strOfNums tx aas
  rw [List.map_replicate]; rfl
/-- a string out of the first bytes of a row of 97s -/
theorem conv_a {W : World} {g n : Nat} (B : Blk W g (bv (List.replicate n 97))) (m c : Nat) (h : m ≤ n) (h0 : 0 < m) : (convert 39 9 (.slice (some ⟨g, 0, none⟩) m c)).run Try.prog W = .ok (.string (tx (aas m))) W := by
  have := run_convert_bytes_arg (P := Try.prog) W 39 5 Try.underlying39 Try.underlying5 g 0 m c (List.replicate m 97) (by simp) (fun i hi => by
    rw [Nat.zero_add, B.cell i, bv_getElem? _ i (by simp; omega)]
    simp [List.getD_eq_getElem?_getD, List.getElem?_replicate, hi, (show i < n by omega)]) 9 Try.underlying9
  rw [strOf_a] at this
  exact this
/-- bytes as they are filled -/
def fil (n j : Nat) : List Value := bv (List.replicate j 97 ++ List.replicate (n - j) 0)
theorem fil_len (n j : Nat) (h : j ≤ n) : (fil n j).length = n := by unfold fil; rw [bv_length, List.length_append, List.length_replicate, List.length_replicate]; omega
theorem fil_get (n j i : Nat) (h : j ≤ n) (hi : i < n) : (fil n j)[i]? = some (.int .u8 (if i < j then 97 else 0)) := by
  unfold fil
  rw [bv_getElem? _ i (by rw [List.length_append, List.length_replicate, List.length_replicate]; omega)]
  congr 2
  rw [List.getD_eq_getElem?_getD]
  by_cases hij : i < j
  · rw [List.getElem?_append_left (by rw [List.length_replicate]; exact hij), if_pos hij, List.getElem?_replicate, if_pos hij]; rfl
  · rw [List.getElem?_append_right (by rw [List.length_replicate]; omega), if_neg hij, List.getElem?_replicate, List.length_replicate, if_pos (by omega)]; rfl
theorem fil_set (n j : Nat) (h : j < n) : (fil n j).set j (.int .u8 97) = fil n (j + 1) := by
  apply List.ext_getElem?
  intro i
  rw [List.getElem?_set]
  by_cases hi : i < n
  · rw [fil_get n (j + 1) i (by omega) hi]
    by_cases e : j = i
    · subst e
      rw [if_pos rfl, if_pos (by rw [fil_len n j (by omega)]; exact hi), if_pos (by omega)]
    · rw [if_neg e, fil_get n j i (by omega) hi]
      by_cases h1 : i < j
      · rw [if_pos h1, if_pos (by omega)]
      · rw [if_neg h1, if_neg (by omega)]
  · rw [if_neg (by omega), List.getElem?_eq_none (by rw [fil_len n j (by omega)]; omega), List.getElem?_eq_none (by rw [fil_len n (j + 1) (by omega)]; omega)]
set_option maxHeartbeats 4000000 in
theorem bounds_main (n k : Nat) (w : World) (hn1 : 250 ≤ n) (hn2 : n ≤ 260) (hk1 : 1 ≤ k) (hk2 : k ≤ 140) :
    Calls Try.prog 6 #[.int .i64 n, .int .i64 k] w fun e w' => e = .returned (.bool true) ∧ Below w.heap.size w w' := by
  have HLV : Hid (∀ W : World, Calls Try.prog 7 #[] W fun e w' => e = .returned (.bool true) ∧ W.grownBy w' none) := fun W => live10_any W
  obtain ⟨i5, hi5, hy0, hy1, hy2⟩ := info_parts Try.info5
  obtain ⟨i9, hi9, hz0, hz1, hz2⟩ := info_parts Try.info9
  have b1 : ¬ (n : Int) < 250 := by omega
  have b2 : ¬ (260 : Int) < n := by omega
  have b3 : ¬ (k : Int) < 1 := by omega
  have b4 : ¬ (140 : Int) < k := by omega
  have HN : Hid _ := And.intro (And.intro hn1 hn2) (And.intro hk1 hk2)
  go_enter Try.func6, Try.ntmps6
  go_wp2_with (at_make; refine wpList_make8 _ rfl _ _ 39 rfl i5 Try.underlying39 hi5 hy0 hy1 hy2 _ _ _ _ n rfl rfl rfl rfl (by omega) ?_; intro W0 hb0 hg0 hs0)
  have HS0 : Hid _ := hs0
  clear hs0 hi5 hy0 hy1 hy2
  generalize hgg : w.heap.size = g at *
  go_loopw [6] (fun i wr => ∃ j : Nat, j ≤ n ∧ i = .int .i64 j ∧ Blk wr g (fil n j) ∧ w.grownBy wr none ∧ Hid (wr.heap.size = g + 1)) (fun i _ => n - (intOf i).toNat)
  case atStart => exact ⟨0, Nat.zero_le _, rfl, by have : fil n 0 = List.replicate n (.int .u8 0) := by (simp [fil, bv])
                                                   rw [this]; exact hb0, hg0, HS0⟩
  case round =>
    obtain ⟨j, hj, rfl, hB, hG, HSZ⟩ := hrel
    by_cases hlt : j < n
    · have hji : (j : Int) < n := by omega
      have hc : wr.cell? ⟨g, j, none⟩ = (fil n j)[j]? := hB.cell j
      have hf := hB.frozen j
      have hc2 : (fil n j)[j]? = some (.int .u8 0) := by
        simp [fil, bv, List.getElem?_append, List.getElem?_replicate]
        omega
      rw [hc2] at hc
      have hB2 := hB.set j (.int .u8 97)
      rw [fil_set n j hlt] at hB2
      have HX : Hid _ := And.intro hB2 (And.intro (grown_new hG (grown_set wr g j (.int .u8 97)) (by rw [hgg]; exact Nat.le_refl _)) (by simp [World.setCell, HSZ.out] : (wr.setCell ⟨g, j, none⟩ (.int .u8 97)).heap.size = g + 1))
      clear hc2 hB2 hB hG
      go_wp2
      go_roundw
      case rel => exact ⟨j + 1, by omega, by go_num, HX.out.1, HX.out.2.1, HX.out.2.2⟩
      case measure => simp [intOf]; omega
    · have ej : j = n := by omega
      subst ej
      have hB9 : Blk wr g (bv (List.replicate j 97)) := by
        have : fil j j = bv (List.replicate j 97) := by simp [fil]
        rw [← this]; exact hB
      have HB : Hid _ := And.intro hB9 (And.intro hG HSZ.out)
      have hbz : wr.heap.size = g + 1 := HSZ.out
      clear hB hB9 hG HSZ hlt hj hb0 hg0 HS0 hgg
      generalize wr = Wb at *
      go_wp2
      go_loopw [7, 8] (fun vl vi wx => ∃ i : Nat, i ≤ k ∧ vi = .int .i64 i ∧ wx.ownsRow (g + 1) 9 1 vl i (sv (txs (parts9 i))) ∧ Wb.grownBy wx none) (fun _ vi _ => k - (intOf vi).toNat)
      case atStart => exact ⟨0, Nat.zero_le _, rfl, World.ownsRow_nil _ _ _ _, World.grownBy.refl _ _⟩
      case round =>
        obtain ⟨i, hi, rfl, hown, hgr⟩ := hrel
        by_cases hik : i < k
        · have hBx : Blk wr g (bv (List.replicate j 97)) := HB.out.1.grown hgr (by simp)
          have hc1 := conv_a hBx 1 j (by omega) (by decide)
          have hc2 := conv_a hBx 2 j (by omega) (by decide)
          have hiki : (i : Int) < k := by omega
          have hpr := parts9_succ i
          have HP : Hid _ := hpr
          have hi140 : i ≤ 140 := by omega
          have HZ : Hid (g + 1 ≤ wr.heap.size) := by have := hgr.size; show g + 1 ≤ wr.heap.size; omega
          clear hpr hBx
          rcases (by omega : i % 2 = 0 ∨ i % 2 = 1) with hev | hev
          · have hm : (i : Int) % 2 = 0 := by omega
            have HQ : Hid (part9 i = aas 1) := by show part9 i = aas 1; unfold part9; rw [hev]
            clear hev
            generalize hxx : tx (aas 1) = x at *
            have HX : Hid _ := hxx
            clear hxx
            go_wp2_with (at_builtin; (refine wpList_append_own _ rfl _ _ 23 rfl (g + 1) 9 i9 (.string ⟨#[]⟩) 1 16 Try.underlying23 hi9 hz0 hz1 hz2 rfl (by decide) _ _ _ rfl (hown.alloc _) ⟨wr.heap.size, 0, none⟩ 1 1 (sv [x]) rfl rfl ?c1 (sv_one _) ?c3 ?c4 ?c5 ?_))
            case c1 => first | exact cell_one_newV _ _ _ | exact fun j u h => h
            case c3 => unfold maxLen; omega
            case c4 => omega
            case c5 => have := HZ.out; simp; omega
            · intro v' w1 hown' hgrow _
              have R : w1.ownsRow (g + 1) 9 1 v' (i + 1) (sv (txs (parts9 (i + 1)))) := by
                rw [HP.out, HQ.out]
                unfold txs
                rw [List.map_append, sv_app]
                have : sv (List.map tx [aas 1]) = sv [x] := by rw [← HX.out]; rfl
                rw [this]
                exact hown'
              have hg' : Wb.grownBy w1 none := grown_own9 (grown_tr hgr (World.grownBy_alloc wr _ none)) (hown.alloc _) hgrow (Nat.le_of_eq hbz)
              clear hown' hgrow hown hgr
              go_wp2
              go_roundw
              case rel => exact ⟨i + 1, by omega, by go_num, R, hg'⟩
              case measure => simp [intOf]; omega
          · have hm : (i : Int) % 2 = 1 := by omega
            have HQ : Hid (part9 i = aas 2) := by show part9 i = aas 2; unfold part9; rw [hev]
            clear hev
            generalize hxx : tx (aas 2) = x at *
            have HX : Hid _ := hxx
            clear hxx
            go_wp2_with (at_builtin; (refine wpList_append_own _ rfl _ _ 23 rfl (g + 1) 9 i9 (.string ⟨#[]⟩) 1 16 Try.underlying23 hi9 hz0 hz1 hz2 rfl (by decide) _ _ _ rfl (hown.alloc _) ⟨wr.heap.size, 0, none⟩ 1 1 (sv [x]) rfl rfl ?c1 (sv_one _) ?c3 ?c4 ?c5 ?_))
            case c1 => first | exact cell_one_newV _ _ _ | exact fun j u h => h
            case c3 => unfold maxLen; omega
            case c4 => omega
            case c5 => have := HZ.out; simp; omega
            · intro v' w1 hown' hgrow _
              have R : w1.ownsRow (g + 1) 9 1 v' (i + 1) (sv (txs (parts9 (i + 1)))) := by
                rw [HP.out, HQ.out]
                unfold txs
                rw [List.map_append, sv_app]
                have : sv (List.map tx [aas 2]) = sv [x] := by rw [← HX.out]; rfl
                rw [this]
                exact hown'
              have hg' : Wb.grownBy w1 none := grown_own9 (grown_tr hgr (World.grownBy_alloc wr _ none)) (hown.alloc _) hgrow (Nat.le_of_eq hbz)
              clear hown' hgrow hown hgr
              go_wp2
              go_roundw
              case rel => exact ⟨i + 1, by omega, by go_num, R, hg'⟩
              case measure => simp [intOf]; omega
        · have ek : i = k := by omega
          subst ek
          obtain ⟨aL, cL, rfl, RL, hLc, -⟩ := owns_srow hown
          have hgw : w.grownBy wr none := grown_tr HB.out.2.1 hgr
          have hBx : Blk wr g (bv (List.replicate j 97)) := HB.out.1.grown hgr (by simp)
          have HRL : Hid _ := And.intro RL (And.intro hgw hBx)
          clear hgw hBx RL hown hgr
          have hpj := pjoin_any aL i cL _ wr HRL.out.1 hLc (by omega) (fun x => by
            rcases Nat.lt_or_ge x (txs (parts9 i)).length with hx | hx
            · rw [List.getD_eq_getElem?_getD, List.getElem?_eq_getElem hx]
              simp only [txs, List.getElem_map, Option.getD_some, tx_size, parts9, part9, aas, List.length_replicate]
              omega
            · rw [List.getD_eq_getElem?_getD, List.getElem?_eq_none hx]; exact Nat.zero_le _)
          rw [tls_txs] at hpj
          by_cases hi128 : i ≤ 128
          · have hii : (i : Int) ≤ 128 := by omega
            have hjp := joi_parts i hi128
            have hsj := spl_joi (l := parts9 i) (by rw [hjp])
            rw [hjp] at hpj hsj
            have hjl : (joi (parts9 i)).length ≤ 4096 := by
              have h2 := joi_len (parts9 i) 2 (fun p hp => by
                obtain ⟨q, -, rfl⟩ := List.mem_map.1 hp
                unfold part9 aas
                rw [List.length_replicate]; omega)
              rw [parts9_len] at h2
              omega
            have hps := fun W => psplit_any (tx (joi (parts9 i))) W (by rw [tx_size]; omega)
            rw [tx_tl, hsj] at hps
            simp only at hpj
            generalize tx (joi (parts9 i)) = XJ at *
            clear hjp hsj hjl
            go_wp2_with fail
            refine hpj.mono ?_
            rintro e w4 ⟨rfl, g4⟩
            have M4 : Hid _ := grown_tr HRL.out.2.1 g4
            have N4 : Hid (wr.grownBy w4 none) := g4
            clear g4 hpj
            go_wp2_with fail
            refine (hps _).mono ?_
            rintro e w5 ⟨a5, n5, c5, rfl, o5, g5⟩
            obtain ⟨a5', c5', e5, R5, -, -⟩ := owns_srow o5
            injection e5 with e5 e6 e7
            subst e5
            have M5 : Hid _ := And.intro (grown_tr M4.out g5) (And.intro (grown_tr N4.out g5) R5)
            have hn5 : n5 = i := by have := R5.len_eq; simp [txs, parts9_len] at this; omega
            subst hn5
            clear o5 g5 R5 e6 e7 M4 N4 hps
            go_wp2_with (first | (go_at_call 11; with_reducible refine (num10_any _ _).mono ?_; rintro e w' ⟨rfl, rfl⟩))
            refine (rsame_any aL a5 n5 cL n5 c5 _ _ _ (HRL.out.1.grown M5.out.2.1) M5.out.2.2 (by omega) (by omega)).mono ?_
            rintro e w6 ⟨rfl, t6, rfl⟩
            rw [decide_eq_true rfl]
            have M6 : Hid _ := And.intro (grown_tr M5.out.1 (drewG _ t6)) (grown_tr M5.out.2.1 (drewG _ t6))
            clear M5
            generalize w5.drewN t6 = W6 at *
            have hBk := HRL.out.2.2.grown M6.out.2 (by simp)
            have hcv := conv_a hBk j j (Nat.le_refl _) (by omega)
            clear hBk
            generalize hXA : tx (aas j) = XA at *
            have hcat : (⟨#[120, 47]⟩ : ByteArray) ++ XA = tx ([120, 47] ++ aas j) := by rw [← hXA]; exact tx_app [120, 47] (aas j)
            have hps3 := fun W => psplit_any (tx ([120, 47] ++ aas j)) W (by rw [tx_size]; simp [aas]; omega)
            rw [tx_tl] at hps3
            have hg3 := spl_xa j hn1 hn2
            have hpv := fun W => pvalid_any XA W (by rw [← hXA, tx_size]; simp [aas]; omega)
            rw [← hXA, tx_tl, vld_a j hn1, hXA] at hpv
            rw [← hcat] at hps3
            generalize spl ([120, 47] ++ aas j) = S3 at *
            obtain ⟨s3, e3⟩ := S3
            simp only at hg3
            have HXA : Hid _ := And.intro hXA hcat
            have hXs : XA.size = j := by rw [← hXA, tx_size]; simp [aas]
            clear hcat hXA
            have HG3 : Hid _ := hg3
            clear hg3
            go_wp2_with (first | (go_at_call 11; with_reducible refine (num10_any _ _).mono ?_; rintro e w' ⟨rfl, rfl⟩))
            refine (hps3 _).mono ?_
            rintro e w7 ⟨a7, n7, c7, rfl, -, g7⟩
            have M7 : Hid _ := grown_tr M6.out.1 g7
            have hBk := HRL.out.2.2.grown (grown_tr M6.out.2 g7) (by simp)
            have hcv2 := conv_a hBk j j (Nat.le_refl _) (by omega)
            rw [HXA.out.1] at hcv2
            clear hBk g7 hps3 hcv
            by_cases hj5 : j ≤ 255
            · have hj5i : (j : Int) ≤ 255 := by omega
              have he3 : e3 = 0 := by rw [HG3.out, if_pos hj5]
              subst he3
              rw [decide_eq_true hj5] at hpv
              go_wp2_with fail
              refine (hpv _).mono ?_
              rintro e w8 ⟨rfl, g8⟩
              have M8 : Hid _ := grown_tr M7.out g8
              clear g8 M7 hpv
              go_wp2_with (first | (go_at_call 11; with_reducible refine (num10_any _ _).mono ?_; rintro e w' ⟨rfl, rfl⟩))
              refine (HLV.out _).mono ?_
              rintro e w9 ⟨rfl, g9⟩
              have H9 : Hid _ := grown_below0 (grown_tr M8.out g9)
              clear g9 M8
              go_wp2
              go_ret
              exact ⟨by first | rfl | (simp [hdj]; done) | (rw [hdj]; rfl), H9.out⟩
            · have hdj : decide ((j : Int) ≤ 255) = false := decide_eq_false (by omega)
              have he3 : e3 = 1 := by rw [HG3.out, if_neg hj5]
              subst he3
              rw [decide_eq_false hj5] at hpv
              go_wp2_with fail
              refine (hpv _).mono ?_
              rintro e w8 ⟨rfl, g8⟩
              have M8 : Hid _ := grown_tr M7.out g8
              clear g8 M7 hpv
              go_wp2_with (first | (go_at_call 11; with_reducible refine (num10_any _ _).mono ?_; rintro e w' ⟨rfl, rfl⟩))
              refine (HLV.out _).mono ?_
              rintro e w9 ⟨rfl, g9⟩
              have H9 : Hid _ := grown_below0 (grown_tr M8.out g9)
              clear g9 M8
              go_wp2
              go_ret
              exact ⟨by first | rfl | (simp [hdj]; done) | (rw [hdj]; rfl), H9.out⟩
          · have hii : ¬ (i : Int) ≤ 128 := by omega
            have hjp := jnp_many i (by omega)
            rw [hjp] at hpj
            have hps := fun W => psplit_any (tx []) W (by decide)
            rw [tx_tl] at hps
            rw [show spl [] = ([], 0) from rfl] at hps
            simp only at hpj
            generalize tx [] = XJ at *
            clear hjp
            go_wp2_with fail
            refine hpj.mono ?_
            rintro e w4 ⟨rfl, g4⟩
            have M4 : Hid _ := grown_tr HRL.out.2.1 g4
            have N4 : Hid (wr.grownBy w4 none) := g4
            clear g4 hpj
            go_wp2_with fail
            refine (hps _).mono ?_
            rintro e w5 ⟨a5, n5, c5, rfl, o5, g5⟩
            have M6 : Hid _ := And.intro (grown_tr M4.out g5) (grown_tr N4.out g5)
            clear o5 g5 M4 N4 hps
            have hBk := HRL.out.2.2.grown M6.out.2 (by simp)
            have hcv := conv_a hBk j j (Nat.le_refl _) (by omega)
            clear hBk
            generalize hXA : tx (aas j) = XA at *
            have hcat : (⟨#[120, 47]⟩ : ByteArray) ++ XA = tx ([120, 47] ++ aas j) := by rw [← hXA]; exact tx_app [120, 47] (aas j)
            have hps3 := fun W => psplit_any (tx ([120, 47] ++ aas j)) W (by rw [tx_size]; simp [aas]; omega)
            rw [tx_tl] at hps3
            have hg3 := spl_xa j hn1 hn2
            have hpv := fun W => pvalid_any XA W (by rw [← hXA, tx_size]; simp [aas]; omega)
            rw [← hXA, tx_tl, vld_a j hn1, hXA] at hpv
            rw [← hcat] at hps3
            generalize spl ([120, 47] ++ aas j) = S3 at *
            obtain ⟨s3, e3⟩ := S3
            simp only at hg3
            have HXA : Hid _ := And.intro hXA hcat
            have hXs : XA.size = j := by rw [← hXA, tx_size]; simp [aas]
            clear hcat hXA
            have HG3 : Hid _ := hg3
            clear hg3
            go_wp2_with (first | (go_at_call 11; with_reducible refine (num10_any _ _).mono ?_; rintro e w' ⟨rfl, rfl⟩))
            refine (hps3 _).mono ?_
            rintro e w7 ⟨a7, n7, c7, rfl, -, g7⟩
            have M7 : Hid _ := grown_tr M6.out.1 g7
            have hBk := HRL.out.2.2.grown (grown_tr M6.out.2 g7) (by simp)
            have hcv2 := conv_a hBk j j (Nat.le_refl _) (by omega)
            rw [HXA.out.1] at hcv2
            clear hBk g7 hps3 hcv
            by_cases hj5 : j ≤ 255
            · have hj5i : (j : Int) ≤ 255 := by omega
              have he3 : e3 = 0 := by rw [HG3.out, if_pos hj5]
              subst he3
              rw [decide_eq_true hj5] at hpv
              go_wp2_with fail
              refine (hpv _).mono ?_
              rintro e w8 ⟨rfl, g8⟩
              have M8 : Hid _ := grown_tr M7.out g8
              clear g8 M7 hpv
              go_wp2_with (first | (go_at_call 11; with_reducible refine (num10_any _ _).mono ?_; rintro e w' ⟨rfl, rfl⟩))
              refine (HLV.out _).mono ?_
              rintro e w9 ⟨rfl, g9⟩
              have H9 : Hid _ := grown_below0 (grown_tr M8.out g9)
              clear g9 M8
              go_wp2
              go_ret
              exact ⟨by first | rfl | (simp [hdj]; done) | (rw [hdj]; rfl), H9.out⟩
            · have hdj : decide ((j : Int) ≤ 255) = false := decide_eq_false (by omega)
              have he3 : e3 = 1 := by rw [HG3.out, if_neg hj5]
              subst he3
              rw [decide_eq_false hj5] at hpv
              go_wp2_with fail
              refine (hpv _).mono ?_
              rintro e w8 ⟨rfl, g8⟩
              have M8 : Hid _ := grown_tr M7.out g8
              clear g8 M7 hpv
              go_wp2_with (first | (go_at_call 11; with_reducible refine (num10_any _ _).mono ?_; rintro e w' ⟨rfl, rfl⟩))
              refine (HLV.out _).mono ?_
              rintro e w9 ⟨rfl, g9⟩
              have H9 : Hid _ := grown_below0 (grown_tr M8.out g9)
              clear g9 M8
              go_wp2
              go_ret
              exact ⟨by first | rfl | (simp [hdj]; done) | (rw [hdj]; rfl), H9.out⟩
set_option maxHeartbeats 2000000 in
theorem nameBounds_walk (n k : Int) (w : World) (hn : -9223372036854775808 ≤ n ∧ n ≤ 9223372036854775807) (hk : -9223372036854775808 ≤ k ∧ k ≤ 9223372036854775807) :
    Calls Try.prog 6 #[.int .i64 n, .int .i64 k] w fun e w' => e = .returned (.bool true) ∧ Below w.heap.size w w' := by
  by_cases h : 250 ≤ n ∧ n ≤ 260 ∧ 1 ≤ k ∧ k ≤ 140
  · obtain ⟨n', rfl⟩ := Int.eq_ofNat_of_zero_le (show 0 ≤ n by omega)
    obtain ⟨k', rfl⟩ := Int.eq_ofNat_of_zero_le (show 0 ≤ k by omega)
    exact bounds_main n' k' w (by omega) (by omega) (by omega) (by omega)
  · have HLV : Hid (∀ W : World, Calls Try.prog 7 #[] W fun e w' => e = .returned (.bool true) ∧ W.grownBy w' none) := fun W => live10_any W
    rcases (by omega : n < 250 ∨ (¬ n < 250 ∧ 260 < n) ∨ (¬ n < 250 ∧ ¬ 260 < n ∧ k < 1) ∨ (¬ n < 250 ∧ ¬ 260 < n ∧ ¬ k < 1 ∧ 140 < k)) with h1 | ⟨h1, h2⟩ | ⟨h1, h2, h3⟩ | ⟨h1, h2, h3, h4⟩
    all_goals
      clear h hn hk
      go_enter Try.func6, Try.ntmps6
      go_wp2_with fail
      refine (HLV.out _).mono ?_
      rintro e w9 ⟨rfl, g9⟩
      have H9 : Hid _ := grown_below0 g9
      clear g9
      go_wp2
      go_ret
      exact ⟨rfl, H9.out⟩
end Go.Proofs.Ythidnmncekfgaaa
