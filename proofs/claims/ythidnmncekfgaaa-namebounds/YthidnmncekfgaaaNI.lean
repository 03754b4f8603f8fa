/- The walk of NameSplits. -/
import Derived.Test.YthidnmncekfgaaaNH
namespace Go.Proofs.Ythidnmncekfgaaa
open Go.RowKit
set_option linter.unusedSimpArgs false
set_option linter.unusedVariables false

theorem spl_len (l : Tx) : (spl l).1.length ≤ 128 := by
  unfold spl
  split
  · simp
  · split
    · simp
    · split
      · simp
      · split
        · simp
        · simp only; omega
theorem head_tx {s : ByteArray} (h : 0 < s.size) : s.toList.head? = some s[0] := by
  have := drop_get h
  rw [List.drop_zero] at this
  rw [this]; rfl
set_option maxHeartbeats 2000000 in
theorem nameSplits_walk (s : ByteArray) (w : World) (hs : s.size ≤ maxLen) :
    Calls Try.prog 3 #[.string s] w fun e w' => e = .returned (.bool true) ∧ Below w.heap.size w w' := by
  unfold maxLen at hs
  have HLV : Hid (∀ W : World, Calls Try.prog 7 #[] W fun e w' => e = .returned (.bool true) ∧ W.grownBy w' none) := fun W => live10_any W
  by_cases h5 : 5000 < s.size
  · have h5i : (5000 : Int) < s.size := by omega
    go_enter Try.func3, Try.ntmps3
    go_wp2_with fail
    refine (HLV.out _).mono ?_
    rintro e w' ⟨rfl, g'⟩
    have H : Hid _ := grown_below0 g'
    clear g'
    go_wp2
    go_ret
    exact ⟨rfl, H.out⟩
  · have h5i : ¬ (5000 : Int) < s.size := by omega
    have h1 := psplit_any s w (by omega)
    have h2 := fun W => rsplit_any s W (by omega)
    have h3 := fun W => pvalid_any s W (by omega)
    have h4 := fun W => rvalid_any s W (by omega)
    have h6 := fun W => pabsolute_any s W (by omega)
    simp only [val_vld] at h4
    have hsl := spl_len s.toList
    generalize vld s.toList = V at *
    generalize spl s.toList = SP at *
    obtain ⟨sl, se⟩ := SP
    go_enter Try.func3, Try.ntmps3
    go_wp2_with fail
    refine h1.mono ?_
    rintro e w1 ⟨a1, n1, c1, rfl, o1, g1⟩
    obtain ⟨a1', c1', e1, R1, -, -⟩ := owns_srow o1
    injection e1 with e1 e2 e3
    subst e1
    have H1 : Hid _ := And.intro R1 g1
    clear o1 R1 g1 e2 e3 h1
    go_wp2_with fail
    refine (h2 _).mono ?_
    rintro e w2 ⟨a2, n2, c2, rfl, o2, g2⟩
    obtain ⟨a2', c2', e1, R2, -, -⟩ := owns_srow o2
    injection e1 with e1 e2 e3
    subst e1
    have H2 : Hid _ := And.intro (H1.out.1.grown g2) (And.intro R2 (grown_tr H1.out.2 g2))
    have hn1 : n1 ≤ 128 := by have := H1.out.1.len_eq; unfold txs at this; simp at this hsl; omega
    have hn2 : n2 ≤ 128 := by have := R2.len_eq; unfold txs at this; simp at this hsl; omega
    clear o2 R2 g2 e2 e3 h2 H1
    go_wp2_with fail
    refine (rsame_any a1 a2 n1 c1 n2 c2 _ _ _ H2.out.1 H2.out.2.1 (by omega) (by omega)).mono ?_
    rintro e w3 ⟨rfl, n3, rfl⟩
    rw [decide_eq_true rfl]
    have H3 : Hid _ := grown_tr H2.out.2.2 (drewG _ n3)
    clear H2 hsl hn1 hn2
    generalize w2.drewN n3 = W3 at *
    go_wp2_with (go_at_call 11; with_reducible refine (num10_any _ _).mono ?_; rintro e w' ⟨rfl, rfl⟩)
    refine (h3 _).mono ?_
    rintro e w4 ⟨rfl, g4⟩
    have H4 : Hid _ := grown_tr H3.out g4
    clear g4 H3 h3
    go_wp2_with fail
    refine (h4 _).mono ?_
    rintro e w5 ⟨rfl, rfl⟩
    clear h4
    have hab : abt s.toList = if h : 0 < s.size then (s[0].toNat : Int) == 47 else false := by
      unfold abt
      by_cases h : 0 < s.size
      · rw [dif_pos h, head_tx h]
        rw [Bool.eq_iff_iff]
        simp only [beq_iff_eq, Option.some.injEq]
        exact ⟨fun e => by rw [e]; rfl, fun e => UInt8.toNat_inj.1 (by show s[0].toNat = 47; omega)⟩
      · rw [dif_neg h]
        have : s.toList = [] := List.eq_nil_of_length_eq_zero (by rw [tl_len]; omega)
        rw [this]; rfl
    by_cases h0 : 0 < s.size
    · rw [dif_pos h0] at hab
      have h0i : (0 : Int) < s.size := by omega
      rw [hab] at h6
      clear hab
      go_wp2_with fail
      refine (h6 _).mono ?_
      rintro e w6 ⟨rfl, g6⟩
      have H6 : Hid _ := grown_tr H4.out g6
      clear g6 H4 h6
      generalize hQ : ((s[0].toNat : Int) == 47) = Q at *
      go_wp2_with fail
      refine (HLV.out _).mono ?_
      rintro e w7 ⟨rfl, g7⟩
      have H7 : Hid _ := grown_below0 (grown_tr H6.out g7)
      clear g7 H6
      go_wp2
      go_ret
      exact ⟨rfl, H7.out⟩
    · rw [dif_neg h0] at hab
      have h0i : ¬ (0 : Int) < s.size := by omega
      rw [hab] at h6
      clear hab
      go_wp2_with fail
      refine (h6 _).mono ?_
      rintro e w6 ⟨rfl, g6⟩
      have H6 : Hid _ := grown_tr H4.out g6
      clear g6 H4 h6
      go_wp2_with fail
      refine (HLV.out _).mono ?_
      rintro e w7 ⟨rfl, g7⟩
      have H7 : Hid _ := grown_below0 (grown_tr H6.out g7)
      clear g7 H6
      go_wp2
      go_ret
      exact ⟨rfl, H7.out⟩
end Go.Proofs.Ythidnmncekfgaaa
