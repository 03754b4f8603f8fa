/- DecodeFrags, the document's. -/
import Derived.Test.YtpahnkodhonlgaaYA17
namespace Go.Proofs.Ytpahnkodhonlgaa
open Go.RowKit
set_option maxRecDepth 100000
set_option linter.unusedSimpArgs false
set_option linter.unusedVariables false
def frc17 (l : List Fr) : List Value := l.flatMap Fr.cells
theorem frc_at : ∀ (l : List Fr) (i : Nat) (f : Fr), l[i]? = some f → (frc17 l)[i * 3]? = some (.int .i64 f.at_) ∧ (frc17 l)[i * 3 + 1]? = some (.int .i64 f.wd) ∧ (frc17 l)[i * 3 + 2]? = some (.int .i64 f.pl)
  | [], i, f, h => by simp at h
  | x :: r, 0, f, h => by
    simp at h
    subst h
    exact ⟨rfl, rfl, rfl⟩
  | x :: r, i + 1, f, h => by
    have k := frc_at r i f (by simpa using h)
    have e : frc17 (x :: r) = .int .i64 x.at_ :: .int .i64 x.wd :: .int .i64 x.pl :: frc17 r := rfl
    rw [e, (by omega : (i + 1) * 3 = i * 3 + 3), (by omega : i * 3 + 3 + 1 = i * 3 + 1 + 3), (by omega : i * 3 + 3 + 2 = i * 3 + 2 + 3)]
    exact k
theorem own_frags17 {W : World} {base n : Nat} {v : Value} {l : List Fr} (h : W.ownsRow base 89 3 v n (frc17 l)) (hn : l.length = n) (hl : n ≤ maxLen) : ∃ a c, v = .slice a n c ∧ Frs W a n l := by
  rcases h.2 with ⟨rfl, rfl⟩ | ⟨g, cap, cur, rfl, _, hg, hc, hm, hs, ht⟩
  · exact ⟨none, 0, rfl, ⟨hn, Nat.zero_le _, fun h => by omega⟩⟩
  · refine ⟨_, cap, rfl, ⟨hn, hl, fun h0 => ⟨g, 0, rfl, fun i f hf => ?_⟩⟩⟩
    have hi : i < n := by have := (List.getElem?_eq_some_iff.1 hf).1; omega
    have e : ∀ k, k < n * 3 → W.cell? ⟨g, 0 + k, none⟩ = (frc17 l)[k]? := fun k hk => by
      have e : W.cell? ⟨g, 0 + k, none⟩ = cur[0 + k]? := by simp [World.cell?, hg]
      rw [e, Nat.zero_add, ← ht, List.getElem?_take, if_pos hk, Array.getElem?_toList]
    obtain ⟨k0, k1, k2⟩ := frc_at l i f hf
    exact ⟨by rw [e _ (by omega)]; exact k0, by rw [Nat.add_assoc, e _ (by omega)]; exact k1, by rw [Nat.add_assoc, e _ (by omega)]; exact k2⟩
theorem frs17_succ (bs : List Int) (j : Nat) : frs17 bs (j + 1) = frs17 bs j ++ [frT17 bs (12 * j)] := by unfold frs17; rw [List.range_succ, List.map_append]; rfl
theorem cell_frag_new (w : World) (x y z : Int) : ∀ j u, ([Value.int .i64 x, .int .i64 y, .int .i64 z] : List Value)[j]? = some u → (w.alloc (.cells #[.int .i64 x, .int .i64 y, .int .i64 z] 89)).cell? ((⟨w.heap.size, 0, none⟩ : Addr).add j) = some u := by
  intro j u hj
  have hB := Bx.new w 89 [Value.int .i64 x, .int .i64 y, .int .i64 z]
  have hadd : (⟨w.heap.size, 0, none⟩ : Addr).add j = ⟨w.heap.size, j, none⟩ := by unfold Addr.add; split <;> simp_all
  rw [hadd]
  exact (hB.c j).trans hj
theorem le4_wide {bs : List Int} (hb : Byt bs) (p : Nat) : 0 ≤ le ((bs.drop p).take 4) ∧ le ((bs.drop p).take 4) < 4294967296 := by
  have hby : Byt ((bs.drop p).take 4) := (hb.drop _).take _
  have := le_lt_of hby 4 (by rw [List.length_take]; omega)
  exact ⟨le_nonneg hby, by omega⟩
set_option maxHeartbeats 4000000 in
theorem rdecodeF17_any (a : Option Addr) (len cap : Nat) (bs : List Int) (w : World) (R : Row w a len bs) (hl : len ≤ 1000000) :
    Calls Try.prog 30 #[.slice a len cap] w (FrPost w (dcF17 bs)) := by
  have hlb := R.len_eq
  obtain ⟨A, hA⟩ : ∃ A, dcF17 bs = A := ⟨_, rfl⟩
  rw [hA]
  unfold dcF17 at hA
  rw [hlb] at hA
  have HA : Hid _ := hA
  have HR : Hid _ := R
  have HWD : Hid _ := fun p => le4_wide R.byt p
  obtain ⟨i5, hi, hz0, hz1, hz2⟩ := info_parts Try.infoFr17
  clear R hA
  go_enter Try.func30, Try.ntmps30
  go_wp2
  go_loopw [4, 5] (fun v i wr => ∃ j q : Nat, i = .int .i64 (q : Int) ∧ q = 12 * j ∧ q ≤ len ∧ Hid (wr.ownsRow w.heap.size 89 3 v j (frc17 (frs17 bs j)) ∧ w.grownBy wr none)) (fun _ i _ => len - (intOf i).toNat)
  case atStart => exact ⟨0, 0, rfl, rfl, Nat.zero_le _, World.ownsRow_nil _ _ _ _, World.grownBy.refl _ _⟩
  case round =>
    obtain ⟨j, q, rfl, h4j, hj, HS⟩ := hrel
    have hw4 : IntKind.i64.wrap ((q : Int) + 12) = (q : Int) + 12 := by rw [IntKind.wrap_i64]; omega
    have hw5 : IntKind.i64.wrap ((q : Int) + 4) = (q : Int) + 4 := by rw [IntKind.wrap_i64]; omega
    have hw6 : IntKind.i64.wrap ((q : Int) + 8) = (q : Int) + 8 := by rw [IntKind.wrap_i64]; omega
    by_cases hlt : q + 12 ≤ len
    · have hji : (q : Int) + 12 ≤ (len : Int) := by omega
      have hL0 : Calls Try.prog 43 #[.slice a len cap, .int .i64 (q : Int), .int .i64 4] wr fun e w' => e = .returned (.int .u64 (le ((bs.drop q).take 4))) ∧ wr = w' := load_row a len cap bs q 4 wr (HR.out.grown HS.out.2) (by decide) (by decide) (by omega)
      have hL1 : Calls Try.prog 43 #[.slice a len cap, .int .i64 ((q : Int) + 4), .int .i64 4] wr fun e w' => e = .returned (.int .u64 (le ((bs.drop (q + 4)).take 4))) ∧ wr = w' := load_row a len cap bs (q + 4) 4 wr (HR.out.grown HS.out.2) (by decide) (by decide) (by omega)
      have hL2 : Calls Try.prog 43 #[.slice a len cap, .int .i64 ((q : Int) + 8), .int .i64 4] wr fun e w' => e = .returned (.int .u64 (le ((bs.drop (q + 8)).take 4))) ∧ wr = w' := load_row a len cap bs (q + 8) 4 wr (HR.out.grown HS.out.2) (by decide) (by decide) (by omega)
      have HSC : Hid (frc17 (frs17 bs (j + 1)) = frc17 (frs17 bs j) ++ [.int .i64 (le ((bs.drop q).take 4)), .int .i64 (le ((bs.drop (q + 4)).take 4)), .int .i64 (le ((bs.drop (q + 8)).take 4))]) := by
        rw [frs17_succ, h4j]; unfold frc17; rw [List.flatMap_append]; rfl
      obtain ⟨hx0, hx1⟩ := HWD.out q
      obtain ⟨hy0, hy1⟩ := HWD.out (q + 4)
      obtain ⟨hz3, hz4⟩ := HWD.out (q + 8)
      generalize le ((bs.drop q).take 4) = X at *
      generalize le ((bs.drop (q + 4)).take 4) = Y at *
      generalize le ((bs.drop (q + 8)).take 4) = Z at *
      have H4 : Hid _ := h4j
      have hjb : j ≤ 100000 := by omega
      clear h4j
      have hwx : IntKind.i64.wrap X = X := by rw [IntKind.wrap_i64]; omega
      have hwy : IntKind.i64.wrap Y = Y := by rw [IntKind.wrap_i64]; omega
      have hwz : IntKind.i64.wrap Z = Z := by rw [IntKind.wrap_i64]; omega
      have hgr := HS.out.2
      have how := HS.out.1
      go_wp2_with fail
      refine hL0.mono ?_
      rintro e w1 ⟨rfl, rfl⟩
      clear hL0
      go_wp2_with fail
      refine hL1.mono ?_
      rintro e w1 ⟨rfl, rfl⟩
      clear hL1
      go_wp2_with fail
      refine hL2.mono ?_
      rintro e w1 ⟨rfl, rfl⟩
      clear hL2
      go_wp2_with (at_builtin; refine wpList_append_own _ rfl _ _ 54 rfl w.heap.size 89 i5 _ 3 24 Try.underlying54 hi hz0 hz1 hz2 rfl (by decide) _ j _ rfl (how.alloc _) ⟨wr.heap.size, 0, none⟩ 1 1 [.int .i64 X, .int .i64 Y, .int .i64 Z] rfl rfl (cell_frag_new wr X Y Z) (by simp [Value.oneCell']) (by unfold maxLen; omega) (by omega) (by have := hgr.size; simp; omega) ?_; intro u9 W9 o9 g9 _)
      have o10 : W9.ownsRow w.heap.size 89 3 u9 (j + 1) (frc17 (frs17 bs (j + 1))) := by
        rw [HSC.out]
        exact o9
      have hgA := grown_trans hgr (World.grownBy_alloc wr (.cells #[.int .i64 X, .int .i64 Y, .int .i64 Z] 89) none)
      have hg9 : w.grownBy W9 none := ⟨g9.os.trans hgA.os, g9.tape.trans hgA.tape, g9.output.trans hgA.output, Nat.le_trans hgA.size g9.size, fun k hk _ => by
        rw [g9.block k (Nat.lt_of_lt_of_le hk hgA.size) (fun e => by have := (how.lt k e.symm).1; omega)]
        exact hgA.block k hk (by simp)⟩
      clear o9 g9
      have h4j := H4.out
      refine ⟨⟨j + 1, q + 12, by go_num, by clear hw4 hw5 hw6; omega, by clear hw4 hw5 hw6; omega, o10, hg9⟩, ?_⟩
      clear hw4 hw5 hw6
      simp [intOf]; omega
    · have hji : ¬ (q : Int) + 12 ≤ (len : Int) := by omega
      obtain ⟨b9, c9, rfl, R9⟩ := own_frags17 HS.out.1 (frs17_len bs j) (by unfold maxLen; omega)
      have HG : Hid _ := HS.out.2
      have hjq : j = len / 12 := by omega
      have hrr := rrightF17_any b9 j c9 _ wr R9
      have HJ : Hid _ := And.intro hjq h4j
      clear hjq h4j
      have HR9 : Hid _ := R9
      clear HS R9
      by_cases h1 : len % 12 = 0
      · have h1b : ((len : Int) % 12 != 0) = false := by simp; omega
        cases hr : rgf17 (frs17 bs j) with
        | true =>
          rw [hr] at hrr
          go_wp2_with (go_at_call 26; refine hrr.mono ?_; rintro e w3 ⟨rfl, g3⟩)
          go_returns
          have e := HA.out
          rw [← HJ.out.1, if_pos ⟨h1, hr⟩] at e
          rw [← e]
          refine ⟨b9, c9, by simp only [frs17_len]; rfl, ?_, grown_trans HG.out g3⟩
          have h := HR9.out.grown g3
          simp only [frs17_len]
          exact h
        | false =>
          rw [hr] at hrr
          go_wp2_with (go_at_call 26; refine hrr.mono ?_; rintro e w3 ⟨rfl, g3⟩)
          go_returns
          have e := HA.out
          rw [← HJ.out.1, if_neg (fun h => by rw [hr] at h; cases h.2)] at e
          rw [← e]
          exact frpost_none (grown_trans HG.out g3)
      · have h1b : ((len : Int) % 12 != 0) = true := by simp; omega
        go_wp2
        go_returns
        have e := HA.out
        rw [if_neg (fun h => h1 h.1)] at e
        rw [← e]
        exact frpost_none HG.out
end Go.Proofs.Ytpahnkodhonlgaa
