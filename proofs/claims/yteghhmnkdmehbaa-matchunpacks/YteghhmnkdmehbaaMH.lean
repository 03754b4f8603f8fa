/- The program's sequences. -/
import Derived.Test.YteghhmnkdmehbaaMG
namespace Go.Proofs.Yteghhmnkdmehbaa
open Go.RowKit
set_option linter.unusedSimpArgs false
set_option linter.unusedVariables false

theorem Try.info3x : (Try.prog.info? 3).map (fun i => (i.zero, i.size, i.bytes)) = some (some (.int .i64 0), 1, 8) := by kernel_rfl
def SqPost (w : World) (qs : List Sq) (e : Ending) (w' : World) : Prop := ∃ a n c ss, e = .returned (.slice a n c) ∧ SRow w' a n ss ∧ Sqs w ss qs ∧ w.grownBy w' none
set_option maxRecDepth 4000 in
set_option maxHeartbeats 2000000 in
theorem sequences_any (a : Option Addr) (len cap : Nat) (bs : List Int) (w : World) (B : Byte w a len cap bs) (hl : len ≤ 1048576) :
    Calls Try.prog 21 #[.slice a len cap] w (SqPost w (enc bs)) := by
  obtain ⟨i5, hi, hz0, hz1, hz2⟩ := info_parts Try.info5
  obtain ⟨i6, hi6, hy0, hy1, hy2⟩ := info_parts Try.infoSeq
  obtain ⟨i3, hi3, hx0, hx1, hx2⟩ := info_parts Try.info3x
  have hlb := B.row.len_eq
  obtain ⟨hz, hs⟩ := zero60 bs
  have hbu := built60 bs
  have HZ : Hid _ := hs
  have HBU : Hid _ := hbu
  have HB : Hid _ := B
  have HL : Hid _ := hlb
  have HS : Hid (enc bs = sqs bs (len + 1) 0 0) := by show enc bs = _; unfold enc; rw [hlb]
  generalize enc bs = res at *
  clear B hbu hs hlb
  go_enter Try.func21, Try.ntmps21
  go_wp2_with (at_make; refine wpList_makeI _ rfl _ _ 57 rfl i3 Try.underlying57 hi3 hx0 hx1 hx2 _ _ _ _ len rfl rfl rfl rfl (by omega) ?_)
  intro w1 b1 g1 s1
  have H2 : Hid ((w1.alloc (.cells (hcs bs 0 ++ [Value.slice none 0 0]).toArray 60)).heap[w1.heap.size]? = some (.cells (hcs bs 0 ++ [Value.slice none 0 0]).toArray 60 (0, 0))) := heap_alloc_new _ _
  have HI : Hid ((Try.prog.info? 60).map (·.size) = some (hcs bs 0 ++ [Value.slice (some ⟨w.heap.size, 0, none⟩) len len]).toArray.size) := by show _ = _; rw [chn_size]; exact HZ.out
  have HO : Hid ((hcs bs 0 ++ [Value.slice none 0 0]).toArray.size = (hcs bs 0 ++ [Value.slice (some ⟨w.heap.size, 0, none⟩) len len]).toArray.size) := by show _ = _; rw [chn_size, chn_size]
  have HN : Hid ((hcs bs 0 ++ [Value.slice (some ⟨w.heap.size, 0, none⟩) len len]).toArray.all (·.oneCell') = true) := chn_one bs _ rfl
  have ga : w1.grownBy ((w1.alloc (.cells (hcs bs 0 ++ [Value.slice none 0 0]).toArray 60)).setRow w1.heap.size (hcs bs 0 ++ [Value.slice (some ⟨w.heap.size, 0, none⟩) len len]).toArray) none := by
    refine ⟨rfl, rfl, rfl, by simp, fun k hk _ => ?_⟩
    rw [setRow_other _ _ _ _ (by omega)]
    exact (World.grownBy_alloc w1 (.cells (hcs bs 0 ++ [Value.slice none 0 0]).toArray 60) none).block k hk (by simp)
  have HX : Hid (Sx w ((w1.alloc (.cells (hcs bs 0 ++ [Value.slice none 0 0]).toArray 60)).setRow w1.heap.size (hcs bs 0 ++ [Value.slice (some ⟨w.heap.size, 0, none⟩) len len]).toArray) w1.heap.size w.heap.size bs (.slice none 0 0) [] [] 0) := by
    refine ⟨⟨⟨?_⟩, ?_⟩, World.ownsRow_nil _ _ _ _, .nil, grown_trans g1 ga, by omega, Nat.le_refl _⟩
    · rw [setRow_heap _ _ _ _ _ _ H2.out, HL.out]
    · rw [bcs_zero, HL.out]; exact b1.kept ga (by simp)
  clear b1 g1 s1 ga HZ HL
  go_wp2_with (first | (with_reducible refine build_here ?_; refine wpList_build1 rfl _ _ _ rfl (.slice (some ⟨w.heap.size, 0, none⟩) len len) rfl _ (HBU.out _ rfl) ?_) | (with_reducible refine store_here ?_; refine wpList_store_row rfl 60 _ _ rfl w1.heap.size _ rfl rfl 60 _ H2.out HI.out HO.out HN.out ?_))
  clear H2 HI HO HN HBU hz
  generalize (w1.alloc (.cells (hcs bs 0 ++ [Value.slice none 0 0]).toArray 60)).setRow w1.heap.size (hcs bs 0 ++ [Value.slice (some ⟨w.heap.size, 0, none⟩) len len]).toArray = W0 at *
  generalize w1.heap.size = g at *
  have HG : Hid (∃ gb, Sx w W0 g gb bs (.slice none 0 0) [] [] 0) := ⟨_, HX.out⟩
  clear HX
  obtain ⟨gb, hx⟩ := HG.out
  have HX : Hid _ := hx
  clear hx HG
  go_loopw [3, 5, 6, 7, 8] (fun vl vt va _ _ wr => ∃ (ss : List SqV) (qs : List Sq) (told p f : Nat), vt = .int .i64 told ∧ va = .int .i64 p ∧ told ≤ p ∧ p ≤ len ∧ ss.length ≤ p ∧ Hid (len + 1 ≤ f + p) ∧ Hid (Sx w wr g gb bs vl ss qs p) ∧ Hid (res = qs ++ sqs bs f told p)) (fun _ _ va _ _ _ => len + 1 - (intOf va).toNat)
  case atStart => exact ⟨[], [], 0, 0, len + 1, rfl, rfl, Nat.le_refl _, Nat.zero_le _, Nat.le_refl _, (by show len + 1 ≤ len + 1 + 0; omega), HX.out, HS.out⟩
  case round =>
    clear HS HX
    obtain ⟨ss, qs, told, p, f, rfl, rfl, htp, hpl, hsp, HF, HX, HS⟩ := hrel
    by_cases k1 : p + 12 ≤ len
    · obtain ⟨b, off, rfl, _⟩ := HB.out.row.cells (by omega)
      obtain ⟨f, rfl⟩ : ∃ f', f = f' + 1 := ⟨f - 1, by have := HF.out; omega⟩
      have hlo := longest_any g gb b off len cap bs p wr (HB.out.row.grown HX.out.gr) HX.out.chn k1 hl HB.out.nc HB.out.cm
      have hok := lng6_ok bs p (by rw [HB.out.row.len_eq]; exact k1)
      have he := HS.out
      rw [sqs, HB.out.row.len_eq, if_pos k1] at he
      generalize lng6 bs p = r at *
      obtain ⟨ro, rn⟩ := r
      simp only at hlo hok he
      have HE : Hid _ := he
      have HOK : Hid _ := hok
      clear he hok HS
      go_wp2_with fail
      refine hlo.mono ?_
      rintro e W1 ⟨rfl, m, rfl⟩
      have HX1 := HX.out.drew m
      generalize wr.drewN m = W1 at *
      have HX : Hid _ := HX1
      clear HX1 hlo
      simp only
      by_cases k2 : 0 < rn
      · have hgd : Gd bs p ro rn := by
          rcases HOK.out with h | h
          · omega
          · exact h
        have hb1 := hgd.go
        have hb2 := hgd.gn
        rw [HB.out.row.len_eq] at hb2
        have he := HE.out
        rw [if_pos k2, ← List.singleton_append, ← List.append_assoc] at he
        have HE2 : Hid _ := he
        have d1 : (0 : Int) < (rn : Int) := by omega
        clear he HE HOK hgd
        go_wp2_with (with_reducible refine slice_here ?_; refine wpList_cut8 rfl _ _ _ 22 rfl Try.underlying22 i5 hi hz1 b off len cap told (p - told) _ _ rfl rfl rfl (by go_num) (by go_num) (by have := HB.out.nc; omega) ?_)
        intro o' ho'
        have hok : SqOk w ⟨some ⟨b, o', none⟩, p - told, cap - told, ro, rn⟩ ((bs.drop told).take (p - told), ro, rn) := ⟨HB.out.row.piece told (p - told) o' (by omega) ho', rfl, rfl, (fun e => by cases e), (by have := HB.out.nc; show p - told ≤ cap - told; omega), (by have := HB.out.cm; show cap - told ≤ maxLen; omega)⟩
        have hX := HX.out.keep (World.grownBy_alloc _ (.cells #[.slice (some ⟨b, o', none⟩) (p - told) (cap - told), .int .i64 ro, .int .i64 rn] 51) none)
        have hol := hX.own
        have hsz := hX.gr.size
        have hc1 : (ss.length + 1) * 40 ≤ 140737488355328 := by omega
        have hc2 : ss.length + 1 ≤ maxLen := by unfold maxLen; omega
        have HN : Hid (∀ j u, (SqV.cells ⟨some ⟨b, o', none⟩, p - told, cap - told, ro, rn⟩)[j]? = some u → (W1.alloc (.cells #[.slice (some ⟨b, o', none⟩) (p - told) (cap - told), .int .i64 ro, .int .i64 rn] 51)).cell? ((⟨W1.heap.size, 0, none⟩ : Addr).add j) = some u) := fun j u h => cell_three W1 51 _ _ _ j u h
        have HOK : Hid _ := hok
        have HXX : Hid _ := hX
        clear hok hX ho'
        go_wp2_with (at_builtin; (refine wpList_append_own _ rfl _ _ 46 rfl w.heap.size 51 i6 _ 3 40 Try.underlying46 hi6 hy0 hy1 hy2 rfl (by decide) _ ss.length (sqv ss) rfl hol ⟨W1.heap.size, 0, none⟩ 1 1 (SqV.cells ⟨some ⟨b, o', none⟩, p - told, cap - told, ro, rn⟩) rfl rfl HN.out (sq_one _) hc2 hc1 hsz ?_))
        intro VL w4 o4 g4 _
        have hF := HXX.out.app HOK.out o4 g4
        have HX2 : Hid _ := hF
        have hss : (ss ++ [(⟨some ⟨b, o', none⟩, p - told, cap - told, ro, rn⟩ : SqV)]).length ≤ p + 1 := by simp; exact hsp
        generalize ss ++ [(⟨some ⟨b, o', none⟩, p - told, cap - told, ro, rn⟩ : SqV)] = ss2 at *
        generalize qs ++ [((bs.drop told).take (p - told), (ro : Int), (rn : Int))] = qs2 at *
        have HSS : Hid _ := hss
        clear o4 g4 hF hol HN HOK HXX hsz HX hss hc1 hc2
        go_wp2
        go_loopw [6, 41] (fun va vi wr => ∃ (j : Nat), vi = .int .i64 j ∧ va = .int .i64 ((p + j : Nat) : Int) ∧ j ≤ rn ∧ Hid (Sx w wr g gb bs VL ss2 qs2 (p + j))) (fun _ vi _ => rn - (intOf vi).toNat)
        case atStart => exact ⟨0, rfl, rfl, Nat.zero_le _, HX2.out⟩
        case round =>
          clear HX2
          obtain ⟨j, rfl, rfl, hj, HY⟩ := hrel
          by_cases c1 : j < rn
          · have hen := enter_any g gb b off len cap bs (p + j) wr (HB.out.row.grown HY.out.gr) HY.out.chn (by omega) HB.out.nc HB.out.cm
            have c2 : (j : Int) < (rn : Int) := by omega
            have c3 : ((p + j : Nat) : Int) + 1 ≤ 9223372036854775807 := by omega
            go_wp2_with fail
            refine hen.mono ?_
            rintro e W2 ⟨rfl, C2, T2⟩
            have HY2 : Hid (Sx w W2 g gb bs VL ss2 qs2 (p + (j + 1))) := HY.out.two C2 T2
            clear hen C2 T2 HY
            go_wp2
            go_roundw
            case rel => exact ⟨j + 1, by go_num, by go_num, by omega, HY2⟩
            case measure => simp [intOf]; omega
          · obtain rfl : j = rn := by omega
            go_wp2
            go_roundw
            case rel => exact ⟨_, _, p + j, p + j, f, by go_num, by go_num, by omega, by omega, (by have := HSS.out; omega), (by have := HF.out; show len + 1 ≤ f + (p + j); omega), HY, HE2⟩
            case measure => simp [intOf]; omega
      · obtain rfl : rn = 0 := by omega
        have he := HE.out
        rw [if_neg (by omega)] at he
        have HE2 : Hid _ := he
        have HX2 : Hid _ := HX.out
        clear he HE HOK k2 HX
        generalize hVL : u3 = VL at *
        clear hVL
        go_wp2
        rw [decide_eq_true (show (p : Int) ≤ (len : Int) - 12 by omega)]
        go_loopw [6, 41] (fun va vi wr => ∃ (j : Nat), vi = .int .i64 j ∧ va = .int .i64 ((p : Int) + j) ∧ Hid (j ≤ 1 ∧ Sx w wr g gb bs VL ss qs (p + j))) (fun _ vi _ => 1 - (intOf vi).toNat)
        case atStart => exact ⟨0, rfl, by go_num, Nat.zero_le _, HX2.out⟩
        case round =>
          clear HX2
          obtain ⟨j, rfl, rfl, HY⟩ := hrel
          by_cases c1 : j = 0
          · subst c1
            have hen := enter_any g gb b off len cap bs p wr (HB.out.row.grown HY.out.2.gr) HY.out.2.chn (by omega) HB.out.nc HB.out.cm
            simp only [Int.natCast_zero, Int.add_zero]
            go_wp2_with fail
            refine hen.mono ?_
            rintro e W2 ⟨rfl, C2, T2⟩
            have HY2 : Hid (1 ≤ 1 ∧ Sx w W2 g gb bs VL ss qs (p + 1)) := ⟨Nat.le_refl _, HY.out.2.two C2 T2⟩
            clear hen C2 T2 HY
            go_wp2
            go_roundw
            case rel => exact ⟨1, by go_num, by go_num, HY2⟩
            case measure => simp [intOf]
          · obtain rfl : j = 1 := by have := HY.out.1; omega
            simp only [Int.natCast_one]
            go_wp2
            go_roundw
            case rel => exact ⟨_, _, told, p + 1, f, by go_num, by go_num, by omega, by omega, by omega, (by have := HF.out; show len + 1 ≤ f + (p + 1); omega), HY.out.2, HE2⟩
            case measure => simp [intOf]; omega
    · have he : sqs bs f told p = [(bs.drop told, 0, 0)] := by
        have := HB.out.row.len_eq
        cases f with
        | zero => rfl
        | succ f => rw [sqs, if_neg (by omega)]
      have hs := HS.out
      rw [he] at hs
      have HE : Hid _ := hs
      clear hs he HS HF
      have htl : told ≤ len := by omega
      go_wp2_with (with_reducible refine low_here ?_; refine wpList_lowR rfl _ _ 22 rfl Try.underlying22 i5 hi hz1 w a len cap told bs _ rfl rfl rfl HB.out htl ?_)
      intro ad' HA
      have hok : SqOk w ⟨ad', len - told, cap - told, 0, 0⟩ (bs.drop told, 0, 0) := ⟨HA.out.row, rfl, rfl, HA.out.nil, HA.out.nc, HA.out.cm⟩
      have hX := HX.out.keep (World.grownBy_alloc _ (.cells #[.slice ad' (len - told) (cap - told), .int .i64 0, .int .i64 0] 51) none)
      have hol := hX.own
      have hsz := hX.gr.size
      have hb1 : (ss.length + 1) * 40 ≤ 140737488355328 := by omega
      have hb2 : ss.length + 1 ≤ maxLen := by unfold maxLen; omega
      have HN : Hid (∀ j u, (SqV.cells ⟨ad', len - told, cap - told, 0, 0⟩)[j]? = some u → (wr.alloc (.cells #[.slice ad' (len - told) (cap - told), .int .i64 0, .int .i64 0] 51)).cell? ((⟨wr.heap.size, 0, none⟩ : Addr).add j) = some u) := fun j u h => cell_three wr 51 _ _ _ j u h
      have HOK : Hid _ := hok
      have HXX : Hid _ := hX
      clear hok hX
      go_wp2_with (at_builtin; (refine wpList_append_own _ rfl _ _ 46 rfl w.heap.size 51 i6 _ 3 40 Try.underlying46 hi6 hy0 hy1 hy2 rfl (by decide) _ ss.length (sqv ss) rfl hol ⟨wr.heap.size, 0, none⟩ 1 1 (SqV.cells ⟨ad', len - told, cap - told, 0, 0⟩) rfl rfl HN.out (sq_one _) hb2 hb1 hsz ?_))
      intro v2 w4 o4 g4 _
      have hF := HXX.out.app HOK.out o4 g4
      obtain ⟨a2, c2, rfl, R2⟩ := owns_srow hF.own (by rw [List.length_append]; simpa using hb2)
      have HF : Hid (SqPost w res (.returned (.slice a2 (ss ++ [(⟨ad', len - told, cap - told, 0, 0⟩ : SqV)]).length c2)) w4) := ⟨_, _, _, _, rfl, R2, by rw [HE.out]; exact hF.sq, hF.gr⟩
      clear o4 g4 hF R2 hol HN HOK HXX hsz
      go_wp2
      go_ret
      exact HF.out
end Go.Proofs.Yteghhmnkdmehbaa
