/- EncodeIds; the document's IdBytes. -/
import Derived.Test.YtpahnkodhonlgaaVA17
import Derived.Test.YtpahnkodhonlgaaUC17
import Derived.Test.YtpahnkodhonlgaaSC
import Derived.Test.YtpahnkodhonlgaaDB
namespace Go.Proofs.Ytpahnkodhonlgaa
open Go.RowKit
set_option maxRecDepth 100000
set_option linter.unusedSimpArgs false
set_option linter.unusedVariables false
/-- ids' bytes -/
def enI17 (l : List Int) : List Int := (l.map fun x => sto x 4).flatten
theorem enI_len : ∀ l : List Int, (enI17 l).length = 4 * l.length
  | [] => rfl
  | x :: l => by
    have := enI_len l
    unfold enI17 at this ⊢
    rw [List.map_cons, List.flatten_cons, List.length_append, sto_length, this, List.length_cons]
    omega
theorem enI_byt (l : List Int) : Byt (enI17 l) := fun x hx => by
  obtain ⟨b, hb, hxb⟩ := List.mem_flatten.1 hx
  obtain ⟨y, _, rfl⟩ := List.mem_map.1 hb
  exact sto_byt _ _ x hxb
theorem enI_next {l : List Int} {j : Nat} (h : j < l.length) : enI17 (l.take (j + 1)) = enI17 (l.take j) ++ sto (l.getD j 0) 4 := by
  unfold enI17
  rw [List.take_succ_eq_append_getElem h, List.map_append, List.flatten_append, List.getD_eq_getElem?_getD, List.getElem?_eq_getElem h]
  simp
theorem pencodeI17_bad (a : Option Addr) (len cap : Nat) (l : List Int) (w : World) (K : IRow w a len l) (hr : rgi17 l = false) :
    Calls Try.prog 13 #[.slice a len cap] w fun e w' => e = .returned (.tuple #[.slice none 0 0, .int .i64 1]) ∧ w.grownBy w' none := by
  have hc := prightI17_any a len cap l w K
  rw [hr] at hc
  clear K hr
  go_enter Try.func13, Try.ntmps13
  go_wp2_with (go_at_call 34; refine hc.mono ?_; rintro e w1 ⟨rfl, g1⟩)
  go_returns
  exact ⟨rfl, g1⟩
set_option maxHeartbeats 4000000 in
theorem pencodeI17_ok (a : Option Addr) (len cap : Nat) (l : List Int) (w : World) (K : IRow w a len l) (hr : rgi17 l = true) :
    Calls Try.prog 13 #[.slice a len cap] w fun e w' => ∃ g, e = .returned (.tuple #[.slice (some ⟨g, 0, none⟩) (enI17 l).length (enI17 l).length, .int .i64 0]) ∧ Blk w' g (bv (enI17 l)) ∧ w.heap.size ≤ g ∧ w.grownBy w' none := by
  have hc := prightI17_any a len cap l w K
  rw [hr] at hc
  obtain ⟨h64, hz⟩ := rgi_at hr
  have hl := K.len_eq
  have hnw := fun W => newwriter_any ((len : Int) * 4) W
  have HK : Hid _ := K
  have HZ : Hid _ := hz
  have hmw : IntKind.i64.wrap ((len : Int) * 4) = (len : Int) * 4 := by rw [IntKind.wrap_i64]; omega
  clear K hz hr
  go_enter Try.func13, Try.ntmps13
  go_wp2_with (go_at_call 34; refine hc.mono ?_; rintro e w1 ⟨rfl, g1⟩)
  go_wp2_with (go_at_call 35; refine (hnw _).mono ?_; rintro e w2 ⟨rfl, hI, g2⟩)
  rw [if_neg (by omega)] at hI
  have HS0 : Hid (St17 w w2 w1.heap.size ((len : Int) * 4) (.slice none 0 0) (enI17 (l.take 0))) := ⟨by simpa [enI17] using hI, grown_trans g1 g2, g1.size⟩
  clear hc hnw hI g1 g2 hmw
  generalize w1.heap.size = p at *
  go_loopw [16] (fun i wr => ∃ (j : Nat) (v : Value), i = .int .i64 j ∧ j ≤ len ∧ Hid (St17 w wr p ((len : Int) * 4) v (enI17 (l.take j)))) (fun i _ => len - (intOf i).toNat)
  case atStart => exact ⟨0, .slice none 0 0, rfl, Nat.zero_le _, HS0⟩
  case round =>
    clear HS0
    obtain ⟨j, v, rfl, hj, HS⟩ := hrel
    by_cases hlt : j < len
    · have hji : (j : Int) < (len : Int) := by omega
      obtain ⟨b, off, rfl, hc⟩ := (HK.out.grown HS.out.gr).cells (by omega)
      have x0 := hc j hlt
      obtain ⟨hx0, hx1⟩ := HZ.out j (by omega)
      have HNX : Hid _ := enI_next (l := l) (j := j) (by omega)
      have hel := enI_len (l.take j)
      rw [List.length_take] at hel
      generalize l.getD j 0 = X at *
      have wx : IntKind.u64.wrap X = X := u64_wrap_in _ (by omega) (by omega)
      have hwj : IntKind.i64.wrap ((j : Int) + 1) = (j : Int) + 1 := by rw [IntKind.wrap_i64]; omega
      have hN := wnum_ok p v (enI17 (l.take j)) ((len : Int) * 4) X 4 wr HS.out.wr (ck17 (by decide) (by omega) (by omega)) (by omega) (by omega) (by omega) (by omega)
      clear hc hel
      go_wp2_with (go_at_call 36; refine hN.mono ?_; rintro e W4 ⟨v4, rfl, i4, k4⟩; have HS4 := HS.out.chg i4 k4)
      rw [← HNX.out] at HS4
      refine ⟨⟨j + 1, v4, by go_num, by clear hwj; omega, HS4⟩, ?_⟩
      clear hwj
      simp [intOf]; omega
    · obtain rfl : j = len := by omega
      have hji : ¬ (j : Int) < (j : Int) := by omega
      have hT : enI17 (l.take j) = enI17 l := by rw [List.take_of_length_le (by omega)]
      rw [hT] at HS
      have hel := enI_len l
      have hdn := wdone_ok p v (enI17 l) _ wr HS.out.wr (by omega)
      clear hT hel
      go_wp2_with (go_at_call 37; refine hdn.mono ?_; rintro e w9 ⟨rfl, b9, g9⟩)
      go_returns
      exact ⟨_, rfl, b9, HS.out.gr.size, grown_trans HS.out.gr g9⟩
set_option maxHeartbeats 4000000 in
theorem rbytesI17_any (a : Option Addr) (len cap : Nat) (l : List Int) (w : World) (K : IRow w a len l) (hr : rgi17 l = true) :
    Calls Try.prog 17 #[.slice a len cap] w fun e w' => ∃ b c, e = .returned (.slice b (enI17 l).length c) ∧ Row w' b (enI17 l).length (enI17 l) ∧ w.grownBy w' none := by
  obtain ⟨h64, hz⟩ := rgi_at hr
  have hl := K.len_eq
  have HK : Hid _ := K
  have HZ : Hid _ := hz
  obtain ⟨i5, hi, hz0, hz1, hz2⟩ := info_parts Try.info5
  clear K hz hr
  go_enter Try.func17, Try.ntmps17
  go_wp2
  go_loopw [3, 4] (fun v i wr => ∃ j : Nat, i = .int .i64 j ∧ j ≤ len ∧ Hid (wr.ownsRow w.heap.size 5 1 v (4 * j) (bv (enI17 (l.take j))) ∧ w.grownBy wr none)) (fun _ i _ => len - (intOf i).toNat)
  case atStart => exact ⟨0, rfl, Nat.zero_le _, World.ownsRow_nil _ _ _ _, World.grownBy.refl _ _⟩
  case round =>
    obtain ⟨j, rfl, hj, HS⟩ := hrel
    by_cases hlt : j < len
    · have hji : (j : Int) < (len : Int) := by omega
      obtain ⟨b, off, rfl, hc⟩ := (HK.out.grown HS.out.2).cells (by omega)
      have x0 := hc j hlt
      obtain ⟨hx0, hx1⟩ := HZ.out j (by omega)
      have HNX : Hid _ := enI_next (l := l) (j := j) (by omega)
      generalize l.getD j 0 = X at *
      have wx : IntKind.u64.wrap X = X := u64_wrap_in _ (by omega) (by omega)
      have hwj : IntKind.i64.wrap ((j : Int) + 1) = (j : Int) + 1 := by rw [IntKind.wrap_i64]; omega
      have hS := store_own X 4 wr (by decide) (by omega) (by omega)
      clear hc
      go_wp2_with fail
      refine hS.mono ?_
      rintro e W1 ⟨u, rfl, ou, gu⟩
      have how := HS.out.1.kept gu (by cases u3.ownBlock <;> simp)
      obtain ⟨a7, cs, rfl, Rs, ns, _, _⟩ := own_bytes ou (sto_byt _ _) (by unfold maxLen; omega)
      have hgw := grown_trans HS.out.2 gu
      clear hS ou
      go_wp2_with (at_builtin; refine wpList_append8 rfl _ _ 29 rfl w.heap.size i5 Try.underlying29 hi hz0 hz1 hz2 _ (4 * j) _ rfl how _ 4 cs (sto X 4) rfl Rs ns (by omega) hgw.size ?_)
      intro v9 W9 o9 g9
      have o10 : W9.ownsRow w.heap.size 5 1 v9 (4 * (j + 1)) (bv (enI17 (l.take (j + 1)))) := by
        rw [HNX.out, bv_append, Nat.mul_succ]
        exact o9
      have hg9 : w.grownBy W9 none := ⟨g9.os.trans hgw.os, g9.tape.trans hgw.tape, g9.output.trans hgw.output, Nat.le_trans hgw.size g9.size, fun k hk _ => by
        rw [g9.block k (Nat.lt_of_lt_of_le hk hgw.size) (fun e => by have := (how.lt k e.symm).1; omega)]
        exact hgw.block k hk (by simp)⟩
      clear o9 g9 how Rs
      go_wp2_with fail
      refine ⟨⟨j + 1, by go_num, by clear hwj; omega, o10, hg9⟩, ?_⟩
      clear hwj
      simp [intOf]; omega
    · obtain rfl : j = len := by omega
      have hji : ¬ (j : Int) < (j : Int) := by omega
      have hT : enI17 (l.take j) = enI17 l := by rw [List.take_of_length_le (by omega)]
      rw [hT] at HS
      have hel := enI_len l
      rw [hl] at hel
      obtain ⟨b9, c9, rfl, R9, _, _, _⟩ := own_bytes HS.out.1 (enI_byt l) (by unfold maxLen; omega)
      have HG : Hid _ := HS.out.2
      clear HS hT
      go_wp2
      go_returns
      try rw [hel]
      first | exact ⟨b9, c9, rfl, R9, HG.out⟩ | exact ⟨b9, ⟨c9, rfl⟩, R9, HG.out⟩
end Go.Proofs.Ytpahnkodhonlgaa
