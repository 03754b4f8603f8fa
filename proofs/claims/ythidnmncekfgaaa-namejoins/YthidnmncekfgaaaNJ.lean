/- much; the walk of NameJoins. -/
import Derived.Test.YthidnmncekfgaaaNI
namespace Go.Proofs.Ythidnmncekfgaaa
open Go.RowKit
set_option linter.unusedSimpArgs false
set_option linter.unusedVariables false

def mch (l : List ByteArray) : Bool := decide (300 < l.length) || l.any (fun x => decide (5000 < x.size))
theorem mch_no {l : List ByteArray} (h : mch l = false) : l.length ≤ 300 ∧ ∀ i, (l.getD i ⟨#[]⟩).size ≤ 5000 := by
  unfold mch at h
  rw [Bool.or_eq_false_iff, decide_eq_false_iff_not, List.any_eq_false] at h
  refine ⟨by omega, fun i => ?_⟩
  rcases Nat.lt_or_ge i l.length with hi | hi
  · rw [List.getD_eq_getElem?_getD, List.getElem?_eq_getElem hi]
    have := h.2 _ (List.getElem_mem hi)
    simp at this
    simpa using this
  · rw [List.getD_eq_getElem?_getD, List.getElem?_eq_none hi]; exact Nat.zero_le _
theorem szs_no {l : List ByteArray} (h : ∀ i, (l.getD i ⟨#[]⟩).size ≤ 5000) : szs l := fun i => Nat.le_trans (h i) (by decide)
set_option maxHeartbeats 1000000 in
theorem much_any (a : Option Addr) (n c : Nat) (l : List ByteArray) (w : World) (R : SRow w a n l) (hn : n ≤ maxLen) : Calls Try.prog 15 #[.slice a n c] w fun e w' => e = .returned (.bool (mch l)) ∧ ∃ t, w' = w.drewN t := by
  unfold maxLen at hn
  have hl := R.len_eq
  by_cases h3 : 300 < n
  · have e : mch l = true := by unfold mch; rw [hl, decide_eq_true h3]; rfl
    rw [e]
    have h3i : (300 : Int) < n := by omega
    go_enter Try.func15, Try.ntmps15
    go_wp2
    go_ret
    exact ⟨rfl, 0, rfl⟩
  · have HE : Hid (mch l = l.any (fun x => decide (5000 < x.size))) := by
      show mch l = _
      unfold mch; rw [hl, decide_eq_false h3]; rfl
    have h3i : ¬ (300 : Int) < n := by omega
    have HR : Hid _ := R
    have HL : Hid _ := hl
    clear R hl
    go_enter Try.func15, Try.ntmps15
    go_wp2
    go_loopw [3] (fun i wr => ∃ k : Nat, k ≤ n ∧ i = .int .i64 k ∧ Hid ((l.take k).any (fun x => decide (5000 < x.size)) = false) ∧ ∃ t, wr = w.drewN t) (fun i _ => n - (intOf i).toNat)
    case atStart => exact ⟨0, Nat.zero_le _, rfl, rfl, 0, rfl⟩
    case round =>
      obtain ⟨k, h1, rfl, HC, t, rfl⟩ := hrel
      by_cases h4 : k < n
      · obtain ⟨b1, o1, rfl, c1⟩ := HR.out.cells (by omega)
        have hx := c1 k h4
        have hkl : k < l.length := by rw [HL.out]; exact h4
        have hT : l.take (k + 1) = l.take k ++ [l.getD k ⟨#[]⟩] := by
          rw [List.take_succ_eq_append_getElem hkl]
          congr 2
          rw [List.getD_eq_getElem?_getD, List.getElem?_eq_getElem hkl]; rfl
        generalize l.getD k ⟨#[]⟩ = x at *
        have HT : Hid _ := hT
        clear hT c1 hkl
        have h4i : (k : Int) < n := by omega
        by_cases h5 : 5000 < x.size
        · have HV : Hid (mch l = true) := by
            show mch l = true
            rw [HE.out, List.any_eq_true]
            refine ⟨x, List.mem_of_mem_take (i := k + 1) ?_, decide_eq_true h5⟩
            rw [HT.out]; simp
          have h5i : (5000 : Int) < x.size := by omega
          clear HT HC h5
          go_wp2
          go_ret
          exact ⟨by rw [HV.out]; rfl, _, rfl⟩
        · have HC2 : Hid ((l.take (k + 1)).any (fun x => decide (5000 < x.size)) = false) := by
            show (l.take (k + 1)).any (fun x => decide (5000 < x.size)) = false
            rw [HT.out, List.any_append, HC.out]; simp; omega
          have h5i : ¬ (5000 : Int) < x.size := by omega
          clear HT HC h5
          go_wp2
          go_roundw
          case rel => exact ⟨k + 1, by omega, by go_num, HC2, _, rfl⟩
          case measure => simp [intOf]; omega
      · have HV : Hid (mch l = false) := by
          show mch l = false
          rw [HE.out]
          have := HC.out
          rw [List.take_of_length_le (by rw [HL.out]; omega)] at this
          exact this
        clear HC
        go_wp2
        go_ret
        exact ⟨by rw [HV.out]; rfl, _, rfl⟩
set_option maxHeartbeats 2000000 in
theorem nameJoins_walk (a : Option Addr) (n c : Nat) (l : List ByteArray) (w : World) (R : SRow w a n l) (hnc : n ≤ c) (hn : n ≤ maxLen) :
    Calls Try.prog 4 #[.slice a n c] w fun e w' => e = .returned (.bool true) ∧ Below w.heap.size w w' := by
  have HLV : Hid (∀ W : World, Calls Try.prog 7 #[] W fun e w' => e = .returned (.bool true) ∧ W.grownBy w' none) := fun W => live10_any W
  have hm := much_any a n c l w R hn
  cases hM : mch l with
  | true =>
    rw [hM] at hm
    clear hM
    go_enter Try.func4, Try.ntmps4
    go_wp2_with fail
    refine hm.mono ?_
    rintro e w1 ⟨rfl, t1, rfl⟩
    have H1 : Hid _ := drewG w t1
    generalize w.drewN t1 = W1 at *
    clear hm R
    go_wp2_with fail
    refine (HLV.out _).mono ?_
    rintro e w' ⟨rfl, g'⟩
    have H : Hid _ := grown_below0 (grown_tr H1.out g')
    clear g' H1
    go_wp2
    go_ret
    exact ⟨rfl, H.out⟩
  | false =>
    rw [hM] at hm
    obtain ⟨hl3, hl5⟩ := mch_no hM
    clear hM
    have hn3 : n ≤ 300 := by have := R.len_eq; omega
    have h1 := fun W (g : w.grownBy W none) => pjoin_any a n c l W (R.grown g) hnc (by omega) hl5
    have h2 := fun W (g : w.grownBy W none) => rjoin_any a n c l W (R.grown g) (by omega) hl5
    have HSP : Hid ((jnp (tls l)).2 = 0 → spl (jnp (tls l)).1 = (tls l, 0)) := spl_joi
    have HJL : Hid ((jnp (tls l)).1.length ≤ 4096) := by
      show (jnp (tls l)).1.length ≤ 4096
      unfold jnp
      split
      · simp
      · split
        · simp
        · split
          · simp
          · simp only; omega
    have HRT : Hid _ := And.intro R hn3
    generalize jnp (tls l) = J at *
    obtain ⟨js, je⟩ := J
    simp only at h1 h2 HSP HJL
    clear R hl3 hl5 hn hn3
    go_enter Try.func4, Try.ntmps4
    go_wp2_with fail
    refine hm.mono ?_
    rintro e w1 ⟨rfl, t1, rfl⟩
    have H1 : Hid _ := drewG w t1
    generalize w.drewN t1 = W1 at *
    clear hm
    go_wp2_with fail
    refine (h1 _ H1.out).mono ?_
    rintro e w2 ⟨rfl, g2⟩
    have H2 : Hid _ := grown_tr H1.out g2
    clear g2 H1 h1
    go_wp2_with fail
    refine (h2 _ H2.out).mono ?_
    rintro e w3 ⟨rfl, t3, rfl⟩
    have H3 : Hid _ := grown_tr H2.out (drewG _ t3)
    generalize w2.drewN t3 = W3 at *
    clear H2 h2
    have hsz : (tx js).size ≤ 4096 := by rw [tx_size]; exact HJL.out
    have hps := fun W => psplit_any (tx js) W (by omega)
    rw [tx_tl] at hps
    by_cases hje : je = 0
    · subst hje
      rw [HSP.out rfl] at hps
      generalize hX : tx js = X at *
      clear hX
      go_wp2_with (go_at_call 11; with_reducible refine (num10_any _ _).mono ?_; rintro e w' ⟨rfl, rfl⟩)
      refine (hps _).mono ?_
      rintro e w4 ⟨a4, n4, c4, rfl, o4, g4⟩
      obtain ⟨a4', c4', e1, R4, -, -⟩ := owns_srow o4
      injection e1 with e1 e2 e3
      subst e1
      have H4 : Hid _ := And.intro R4 (grown_tr H3.out g4)
      clear o4 R4 g4 e2 e3 hps H3
      go_wp2_with (go_at_call 11; with_reducible refine (num10_any _ _).mono ?_; rintro e w' ⟨rfl, rfl⟩)
      have hl4 : n4 ≤ 300 := by have h := H4.out.1.len_eq; have h' := HRT.out.1.len_eq; simp [txs, tls] at h; have := HRT.out.2; omega
      refine (rsame_any a4 a n4 c4 n c _ l _ H4.out.1 (HRT.out.1.grown H4.out.2) (by omega) (by have := HRT.out.2; omega)).mono ?_
      rintro e w5 ⟨rfl, t5, rfl⟩
      have hee : txs (tls l) = l := by
        unfold txs tls
        rw [List.map_map]
        conv => rhs; rw [← List.map_id l]
        exact List.map_congr_left fun x _ => tl_tx x
      rw [decide_eq_true hee]
      have H5 : Hid _ := grown_tr H4.out.2 (drewG _ t5)
      generalize w4.drewN t5 = W5 at *
      clear H4 hee hl4
      go_wp2_with fail
      refine (HLV.out _).mono ?_
      rintro e w7 ⟨rfl, g7⟩
      have H7 : Hid _ := grown_below0 (grown_tr H5.out g7)
      clear g7 H5
      go_wp2
      go_ret
      exact ⟨rfl, H7.out⟩
    · have hj2 : (je == 0) = false := by simpa using hje
      generalize hX : tx js = X at *
      clear hX hps hje
      go_wp2_with (go_at_call 11; with_reducible refine (num10_any _ _).mono ?_; rintro e w' ⟨rfl, rfl⟩)
      refine (HLV.out _).mono ?_
      rintro e w7 ⟨rfl, g7⟩
      have H7 : Hid _ := grown_below0 (grown_tr H3.out g7)
      clear g7 H3
      go_wp2
      go_ret
      exact ⟨rfl, H7.out⟩
end Go.Proofs.Ythidnmncekfgaaa
