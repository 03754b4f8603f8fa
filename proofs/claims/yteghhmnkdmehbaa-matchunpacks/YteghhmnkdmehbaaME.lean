/- The program's enter: a place more in its chain. -/
import Derived.Test.YteghhmnkdmehbaaMC
namespace Go.Proofs.Yteghhmnkdmehbaa
open Go.RowKit
set_option linter.unusedSimpArgs false
set_option linter.unusedVariables false

theorem grown_any {a b c : World} {row : Option Nat} (h : a.grownBy b row) (k : b.grownBy c row) : a.grownBy c row := grown_trans h k
theorem grown_none {a b : World} (h : a.grownBy b none) (row : Option Nat) : a.grownBy b row := ⟨h.os, h.tape, h.output, h.size, fun k hk _ => h.block k hk (by simp)⟩
theorem grown_drew2 {a b : World} {row : Option Nat} (h : a.grownBy b row) (n : Nat) : a.grownBy (b.drewN n) row := ⟨h.os, h.tape, h.output, h.size, h.block⟩
set_option maxHeartbeats 1000000 in
theorem enter_any (g gb b off len cap : Nat) (bs : List Int) (p : Nat) (W : World) (R : Row W (some ⟨b, off, none⟩) len bs) (C : Chn W g gb bs p) (hp : p + 4 ≤ len) (hc : len ≤ cap) (hcm : cap ≤ maxLen) :
    Calls Try.prog 30 #[.pointer (some ⟨g, 0, none⟩), .slice (some ⟨b, off, none⟩) len cap, .int .i64 p] W fun e W' => e = .returned (.tuple #[]) ∧ Chn W' g gb bs (p + 1) ∧ Two g gb W W' := by
  obtain ⟨i5, hi, hz0, hz1, hz2⟩ := info_parts Try.info5
  have hlb := R.len_eq
  have hm := R.le
  unfold maxLen at hm hcm
  have HR : Hid _ := R
  have HC : Hid _ := C
  clear R C
  go_enter Try.func30, Try.ntmps30
  go_wp2_with (with_reducible refine low_here ?_; refine wpList_low8 rfl _ _ 22 rfl Try.underlying22 i5 hi hz1 b off len cap p _ rfl rfl rfl (by omega) hc ?_)
  intro o' ho'
  have R2 := HR.out.part p (len - p) (by omega)
  obtain rfl := ho' (by omega)
  have hs := slot_any b (off + p) (len - p) (cap - p) _ W R2 (by omega)
  rw [slot_take p (len - p) (by omega)] at hs
  clear R2
  go_wp2_with fail
  refine hs.mono ?_
  rintro e w1 ⟨rfl, m, rfl⟩
  clear hs
  have gm : W.grownBy (W.drewN m) none := grown_drewN5 (World.grownBy.refl _ _) m
  have C1 := HC.out.kept gm
  have hix := index_head g (slt bs p) (slt_lt _ _)
  have c1 := C1.head (slt bs p) (slt_lt _ _)
  have c2 := C1.row
  obtain ⟨x, c3⟩ := C1.any p (by omega)
  have f1 := C1.bf.f p
  have K1 := C1.hd.kept (grown_set (W.drewN m) gb p (.int .i64 ((las bs (slt bs p) p : Int) - 1))) (by simp [C1.ne])
  have f2 := K1.f (slt bs p)
  have c4 := K1.c (slt bs p)
  rw [List.getElem?_append_left (by rw [hcs_len]; exact slt_lt _ _), hcs, map_range_get _ _ _ (slt_lt _ _)] at c4
  have c5 := K1.c 8192
  rw [List.getElem?_append_right (by rw [hcs_len]; exact Nat.le_refl _), hcs_len, Nat.sub_self, List.getElem?_cons_zero, hlb] at c5
  have hst := C1.step
  have hs8 := slt_lt bs p
  have hle := las_le bs (slt bs p) p
  rw [hlb] at c2
  have HH : Hid _ := And.intro hst gm
  generalize hls : las bs (slt bs p) p = l at *
  generalize hsl : slt bs p = s at *
  clear hls hsl hst gm C1 HC HR hlb K1
  generalize W.drewN m = w1 at *
  have i3 : (0 : Int) ≤ (p : Int) := by omega
  have i4 : (p : Int) < (len : Int) := by omega
  have i6 : IntKind.i64.wrap ((l : Int) - 1) = (l : Int) - 1 := by rw [IntKind.wrap_i64]; omega
  have i7 : (p : Int) + 1 ≤ 9223372036854775807 := by omega
  clear hi hz0 hz1 hz2 ho' hm hcm
  go_wp2
  go_region_held3 (fun w' => w'.cell? ⟨g, 8192, none⟩ = some (.slice (some ⟨gb, 0, none⟩) len len) ∧ w'.cell? ⟨g, s, none⟩ = some (.int .i64 (l : Int))) (go_keep) (fail)
  have HX : Hid _ := hix
  clear hix
  go_wp2_with (with_reducible refine head_here ?_; refine wpList_head rfl _ _ _ rfl (.pointer (some ⟨g, 0, none⟩)) (.int .u32 (s : Int)) (.pointer (some ⟨g, s, none⟩)) rfl rfl (HX.out _) ?_)
  go_end0
  refine ⟨rfl, HH.out.1.kept (grown_drew _), ?_⟩
  exact ⟨_, grown_any (grown_none HH.out.2 _) (grown_set _ _ _ _), grown_any (grown_set _ _ _ _) (grown_none (grown_drew _) _)⟩
end Go.Proofs.Yteghhmnkdmehbaa
