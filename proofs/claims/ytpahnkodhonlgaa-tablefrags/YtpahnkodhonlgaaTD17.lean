/- The program's Ids, walked. -/
import Derived.Test.YtpahnkodhonlgaaTC17
namespace Go.Proofs.Ytpahnkodhonlgaa
open Go.RowKit Go.Shelf
set_option maxRecDepth 100000
open Go.Maps (Keyed)
set_option linter.unusedSimpArgs false
set_option linter.unusedVariables false
theorem cell_grown17 {w w' : World} {p : Addr} {v : Value} (h : w.cell? p = some v) (g : w.grownBy w' none) : w'.cell? p = some v := World.grownBy.cell g h (by simp)
theorem own_ints17 {W : World} {base n : Nat} {v : Value} {xs : List Int} (h : W.ownsRow base 3 1 v n (xs.map (Value.int .i64))) (hb : ∀ x ∈ xs, in64 x) (hl : n ≤ maxLen) : ∃ a c, v = .slice a n c ∧ IRow W a n xs ∧ n ≤ c ∧ c ≤ maxLen := by
  have hn : xs.length = n := by have := h.1; rw [List.length_map] at this; omega
  rcases h.2 with ⟨rfl, rfl⟩ | ⟨g, cap, cur, rfl, _, hg, hc, hm, hs, ht⟩
  · exact ⟨none, 0, rfl, ⟨hn, Nat.zero_le _, hb, fun h => by omega⟩, Nat.le_refl _, Nat.zero_le _⟩
  · refine ⟨_, cap, rfl, ⟨hn, hl, hb, fun h0 => ⟨g, 0, rfl, fun i hi => ?_⟩⟩, hc, hm⟩
    have e : W.cell? ⟨g, 0 + i, none⟩ = cur[0 + i]? := by simp [World.cell?, hg]
    have h2 : (cur.toList.take (n * 1))[i]? = (xs.map (Value.int .i64))[i]? := by rw [ht]
    rw [List.getElem?_take, if_pos (by omega), Array.getElem?_toList] at h2
    rw [e, Nat.zero_add, h2, List.getElem?_map, List.getElem?_eq_getElem (by omega), List.getD_eq_getElem?_getD, List.getElem?_eq_getElem (by omega)]
    rfl
set_option maxHeartbeats 4000000 in
theorem pids17_any (a : Option Addr) (len cap : Nat) (l : List Int) (w : World) (R : IRow w a len l) (hl : len ≤ 1000000) :
    Calls Try.prog 9 #[.slice a len cap] w fun e w' => ∃ b c, e = .returned (.slice b (srt17 l).length c) ∧ IRow w' b (srt17 l).length (srt17 l) ∧ (srt17 l).length ≤ c ∧ c ≤ maxLen ∧ Below w.heap.size w w' := by
  have hlb := R.len_eq
  have hmm := @run_makeMap Try.prog
  have H0 : Hid _ := IntK.made w l
  have G0 : Hid _ := World.grownBy_alloc w (.map #[] 0) none
  have HR : Hid _ := R
  have HW : Hid (∀ x ∈ srt17 l, in64 x) := fun x hx => R.wide x ((srt_mem l x).1 hx)
  have HSL : Hid ((srt17 l).length ≤ maxLen) := by have := srt_len l; show _ ≤ _; unfold maxLen; omega
  clear R
  go_enter Try.func9, Try.ntmps9
  go_wp2_with fail
  clear hmm
  generalize hB : w.heap.size = B at *
  have HB : Hid _ := hB
  clear hB
  go_loopw [9] (fun vi wr => ∃ k : Nat, k ≤ len ∧ vi = .int .i64 k ∧ Hid (IntK wr B k l) ∧ Hid (w.grownBy wr none)) (fun vi _ => len - (intOf vi).toNat)
  case atStart => exact ⟨0, Nat.zero_le _, rfl, H0, G0.out⟩
  case round =>
    clear H0 G0
    obtain ⟨k, hk, rfl, HM, HG⟩ := hrel
    by_cases hlt : k < len
    · have hlti : (k : Int) < (len : Int) := by omega
      obtain ⟨b, off, rfl, hc⟩ := HR.out.cells (by omega)
      have x0 := cell_grown17 (hc k hlt) HG.out
      have hX : l[k]? = some (l.getD k 0) := by
        rw [List.getElem?_eq_getElem (by omega), List.getD_eq_getElem?_getD, List.getElem?_eq_getElem (by omega)]
        rfl
      have hx := HR.out.getD k
      generalize l.getD k 0 = X at *
      have HX : Hid _ := And.intro hX hx
      have hwk : IntKind.i64.wrap ((k : Int) + 1) = (k : Int) + 1 := by rw [IntKind.wrap_i64]; omega
      clear hc hX hx
      go_wp2_with ((at_mapUpdate; refine wpList_storeI17 rfl _ rfl _ _ _ 64 rfl 65 Try.underlying64 B k l rfl HM.out (by unfold maxLen; omega) X rfl HX.out.1 HX.out.2 ?_; intro W1 HM1 HG1))
      exact ⟨⟨k + 1, by omega, by go_num, HM1, grown_new HG.out HG1.out (by rw [HB.out]; exact Nat.le_refl _)⟩, by clear hwk; simp [intOf]; omega⟩
    · have hlti : ¬ (k : Int) < (len : Int) := by omega
      obtain rfl : k = len := by omega
      have hK := keys17 (some B) wr
      have hS := sorted17 B k l wr HM.out (by omega) hl
      clear HM
      go_wp2_with fail
      refine hK.mono ?_
      rintro e w1 ⟨rfl, rfl⟩
      go_wp2_with fail
      refine hS.mono ?_
      rintro e w2 ⟨v, rfl, ho, hb⟩
      clear hK hS
      obtain ⟨b2, c2, rfl, hr, h1, h2⟩ := own_ints17 ho HW.out HSL.out
      go_wp2_with fail
      go_ret
      refine ⟨b2, c2, rfl, hr, h1, h2, ?_⟩
      have hsz := HG.out.size
      have e := (grown_below (grown_trans HG.out (World.grownBy_alloc wr (.cells #[.map (some B)] 64) none)))
      exact e.trans (hb.mono (by omega))
end Go.Proofs.Ytpahnkodhonlgaa
