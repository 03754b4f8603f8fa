/- EncodeFrags; SameFrags. -/
import Derived.Test.YtpahnkodhonlgaaWA17
import Derived.Test.YtpahnkodhonlgaaUC17
import Derived.Deep.QuietTactic
import Derived.BigQuiet
namespace Go.Proofs.Ytpahnkodhonlgaa
open Go.RowKit
set_option maxRecDepth 100000
set_option linter.unusedSimpArgs false
set_option linter.unusedVariables false
def frB17 (f : Fr) : List Int := sto f.at_ 4 ++ (sto f.wd 4 ++ sto f.pl 4)
def enF17 (l : List Fr) : List Int := (l.map frB17).flatten
theorem enF_len : ∀ l : List Fr, (enF17 l).length = 12 * l.length
  | [] => rfl
  | x :: l => by
    have := enF_len l
    unfold enF17 at this ⊢
    rw [List.map_cons, List.flatten_cons, List.length_append, this, List.length_cons]
    unfold frB17
    rw [List.length_append, List.length_append, sto_length, sto_length, sto_length]
    omega
theorem enF_byt (l : List Fr) : Byt (enF17 l) := fun x hx => by
  obtain ⟨b, hb, hxb⟩ := List.mem_flatten.1 hx
  obtain ⟨y, _, rfl⟩ := List.mem_map.1 hb
  exact ((sto_byt _ _).append ((sto_byt _ _).append (sto_byt _ _))) x hxb
theorem enF_next {l : List Fr} {j : Nat} {F : Fr} (h : l[j]? = some F) : enF17 (l.take (j + 1)) = ((enF17 (l.take j) ++ sto F.at_ 4) ++ sto F.wd 4) ++ sto F.pl 4 := by
  unfold enF17
  rw [List.take_add_one, h]
  simp only [Option.toList_some, List.map_append, List.map_cons, List.map_nil, List.flatten_append, List.flatten_cons, List.flatten_nil, List.append_nil, frB17, List.append_assoc]
theorem pencodeF17_bad (a : Option Addr) (len cap : Nat) (l : List Fr) (w : World) (K : Frs w a len l) (hr : rgf17 l = false) :
    Calls Try.prog 25 #[.slice a len cap] w fun e w' => e = .returned (.tuple #[.slice none 0 0, .int .i64 1]) ∧ w.grownBy w' none := by
  have hc := prightF17_any a len cap l w K
  rw [hr] at hc
  clear K hr
  go_enter Try.func25, Try.ntmps25
  go_wp2_with (go_at_call 49; refine hc.mono ?_; rintro e w1 ⟨rfl, g1⟩)
  go_returns
  exact ⟨rfl, g1⟩
set_option maxHeartbeats 4000000 in
theorem pencodeF17_ok (a : Option Addr) (len cap : Nat) (l : List Fr) (w : World) (K : Frs w a len l) (hr : rgf17 l = true) :
    Calls Try.prog 25 #[.slice a len cap] w fun e w' => ∃ g, e = .returned (.tuple #[.slice (some ⟨g, 0, none⟩) (enF17 l).length (enF17 l).length, .int .i64 0]) ∧ Blk w' g (bv (enF17 l)) ∧ w.heap.size ≤ g ∧ w.grownBy w' none := by
  have hc := prightF17_any a len cap l w K
  rw [hr] at hc
  obtain ⟨h64, hz⟩ := rgf_at hr
  have hl := K.len_eq
  have hnw := fun W => newwriter_any ((len : Int) * 12) W
  have HK : Hid _ := K
  have HZ : Hid _ := hz
  have hmw : IntKind.i64.wrap ((len : Int) * 12) = (len : Int) * 12 := by rw [IntKind.wrap_i64]; omega
  clear K hz hr
  go_enter Try.func25, Try.ntmps25
  go_wp2_with (go_at_call 49; refine hc.mono ?_; rintro e w1 ⟨rfl, g1⟩)
  go_wp2_with (go_at_call 35; refine (hnw _).mono ?_; rintro e w2 ⟨rfl, hI, g2⟩)
  rw [if_neg (by omega)] at hI
  have HS0 : Hid (St17 w w2 w1.heap.size ((len : Int) * 12) (.slice none 0 0) (enF17 (l.take 0))) := ⟨by simpa [enF17] using hI, grown_trans g1 g2, g1.size⟩
  clear hc hnw hI g1 g2 hmw
  generalize w1.heap.size = p at *
  go_loopw [16] (fun i wr => ∃ (j : Nat) (v : Value), i = .int .i64 j ∧ j ≤ len ∧ Hid (St17 w wr p ((len : Int) * 12) v (enF17 (l.take j)))) (fun i _ => len - (intOf i).toNat)
  case atStart => exact ⟨0, .slice none 0 0, rfl, Nat.zero_le _, HS0⟩
  case round =>
    clear HS0
    obtain ⟨j, v, rfl, hj, HS⟩ := hrel
    by_cases hlt : j < len
    · have hji : (j : Int) < (len : Int) := by omega
      obtain ⟨b, off, rfl, hk⟩ := (HK.out.grown HS.out.gr).at_ (by omega)
      obtain ⟨F, hF⟩ : ∃ F, l[j]? = some F := ⟨_, List.getElem?_eq_getElem (by omega)⟩
      obtain ⟨x0, x1, x2⟩ := hk j F hF
      obtain ⟨⟨p0, p1⟩, ⟨p2, p3⟩, p4, p5⟩ := HZ.out F (List.mem_of_getElem? hF)
      have HNX : Hid _ := enF_next hF
      have hel := enF_len (l.take j)
      rw [List.length_take] at hel
      have hel2 : (enF17 (l.take j)).length + 12 ≤ 12 * len := by omega
      have HB : Hid _ := Vb17.new HS.out.wr 89 F.cells
      have HS1 : Hid _ := HS.out.keep (World.grownBy_alloc wr (.cells #[.int .i64 F.at_, .int .i64 F.wd, .int .i64 F.pl] 89) none)
      generalize enF17 (l.take j) = PB at *
      have w0 : IntKind.u64.wrap F.at_ = F.at_ := u64_wrap_in _ (by omega) (by omega)
      have w1 : IntKind.u64.wrap F.wd = F.wd := u64_wrap_in _ (by omega) (by omega)
      have w2 : IntKind.u64.wrap F.pl = F.pl := u64_wrap_in _ (by omega) (by omega)
      have hwj : IntKind.i64.wrap ((j : Int) + 1) = (j : Int) + 1 := by rw [IntKind.wrap_i64]; omega
      have hN1 := wnum_ok p v PB ((len : Int) * 12) F.at_ 4 _ HS1.out.wr (ck17 (by decide) (by omega) (by omega)) (by omega) (by omega) (by omega) (by omega)
      have HN2 : Hid (∀ (v2 : Value) (W : World), St17 w W p ((len : Int) * 12) v2 (PB ++ sto F.at_ 4) → _) := fun v2 W h => wnum_ok p v2 (PB ++ sto F.at_ 4) ((len : Int) * 12) F.wd 4 W h.wr (ck17 (by decide) (by omega) (by omega)) (by omega) (by omega) (by rw [List.length_append, sto_length]; omega) (by rw [List.length_append, sto_length]; omega)
      have HN3 : Hid (∀ (v3 : Value) (W : World), St17 w W p ((len : Int) * 12) v3 ((PB ++ sto F.at_ 4) ++ sto F.wd 4) → _) := fun v3 W h => wnum_ok p v3 ((PB ++ sto F.at_ 4) ++ sto F.wd 4) ((len : Int) * 12) F.pl 4 W h.wr (ck17 (by decide) (by omega) (by omega)) (by omega) (by omega) (by rw [List.length_append, List.length_append, sto_length, sto_length]; omega) (by rw [List.length_append, List.length_append, sto_length, sto_length]; omega)
      obtain ⟨f0, f1, f2⟩ := F
      simp only [Fr.cells] at x0 x1 x2 HB HS1 hN1 HN2 HN3 HNX w0 w1 w2
      clear hk hF HS hel p0 p1 p2 p3 p4 p5
      go_wp2_with fail
      refine hN1.mono ?_
      rintro e W4 ⟨v4, rfl, i4, k4⟩
      have HS4 : Hid _ := HS1.out.chg i4 k4
      have HB4 : Hid _ := HB.out.chg k4
      have d1 := HB4.out.bx.c 1
      simp only [List.getElem?_cons_zero, List.getElem?_cons_succ] at d1
      have hN2 := HN2.out v4 W4 HS4.out
      clear hN1 i4 k4 HS1 HB HN2 x0 x1 x2
      go_wp2_with fail
      refine hN2.mono ?_
      rintro e W5 ⟨v5, rfl, i5, k5⟩
      have HS5 : Hid _ := HS4.out.chg i5 k5
      have HB5 : Hid _ := HB4.out.chg k5
      have d2 := HB5.out.bx.c 2
      simp only [List.getElem?_cons_zero, List.getElem?_cons_succ] at d2
      have hN3 := HN3.out v5 W5 HS5.out
      clear hN2 i5 k5 HS4 HB4 HN3 d1
      go_wp2_with fail
      refine hN3.mono ?_
      rintro e W6 ⟨v6, rfl, i6, k6⟩
      have HS6 := HS5.out.chg i6 k6
      rw [← HNX.out] at HS6
      clear hN3 i6 k6 HS5 HB5 d2
      go_wp2_with fail
      refine ⟨⟨j + 1, v6, by go_num, by clear hwj; omega, HS6⟩, ?_⟩
      clear hwj
      simp [intOf]; omega
    · obtain rfl : j = len := by omega
      have hji : ¬ (j : Int) < (j : Int) := by omega
      have hT : enF17 (l.take j) = enF17 l := by rw [List.take_of_length_le (by omega)]
      rw [hT] at HS
      have hel := enF_len l
      have hdn := wdone_ok p v (enF17 l) _ wr HS.out.wr (by omega)
      clear hT hel
      go_wp2_with (go_at_call 37; refine hdn.mono ?_; rintro e w9 ⟨rfl, b9, g9⟩)
      go_returns
      exact ⟨_, rfl, b9, HS.out.gr.size, grown_trans HS.out.gr g9⟩
end Go.Proofs.Ytpahnkodhonlgaa
