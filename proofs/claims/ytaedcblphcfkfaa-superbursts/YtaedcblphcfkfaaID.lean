/- Contracts of More and Crc without a table. -/
import Derived.Test.YtaedcblphcfkfaaIC
import Derived.Lib.SlBytesConst
namespace Go.Proofs.Ytaedcblphcfkfaa
open Go.RowKit
set_option linter.unusedSimpArgs false
set_option linter.unusedVariables false

set_option maxHeartbeats 400000 in
theorem more_nil (c : Nat) (a : Option Addr) (len cap : Nat) (bs : List Int) (w : World) (R : Row w a len bs) (hc : c < 4294967296) :
    Calls Try.prog 38 #[.pointer none, .int .u32 c, .slice a len cap] w fun e w' => e = .returned (.int .u32 (crc ent c bs)) ∧ w.grownBy w' none := by
  have hle := R.le
  unfold maxLen at hle
  unfold crc
  have e1 := not32 hc
  have hd : 4294967295 - c < 4294967296 := by omega
  generalize 4294967295 - c = d at e1 hd
  obtain ⟨hz, hs⟩ := zero24
  have HI : Hid ((Try.prog.info? 84).map (·.size) = some (tcs ent).toArray.size) := by show _ = _; simp [hs, tcs_length]
  clear hs
  have hM := make_any w
  go_enter Try.func38, Try.ntmps38
  go_wp2_with (first | (go_at_call 46; refine hM.mono ?_; rintro e w1 ⟨rfl, hg1⟩; have HG1 : Hid (w.grownBy w1 none) := hg1; clear hg1) | (with_reducible refine store24_here ?_; refine wpList_store_row rfl 84 _ _ rfl w1.heap.size _ rfl rfl 84 _ (heap_alloc_new w1 _) HI.out (by simp [tcs_length]) (tcs_one _) ?_))
  rw [World.setRow_alloc_new]
  have B : SBlk (w1.alloc (.cells (tcs ent).toArray 84)) w1.heap.size (tcs ent) 84 := alloc_sblk _ _ _
  have G : w.grownBy (w1.alloc (.cells (tcs ent).toArray 84)) none := grown_trans HG1.out (World.grownBy_alloc _ _ _)
  have R2 := R.grown G
  have hle := R.le
  unfold maxLen at hle
  clear R hz hM HI HG1
  generalize w1.alloc (.cells (tcs ent).toArray 84) = w2 at B G R2
  generalize w1.heap.size = q at B
  generalize Value.agg (tcs ent).toArray = tv
  have HB : Hid (SBlk w2 q (tcs ent) 84) := B
  have HG : Hid (w.grownBy w2 none) := G
  clear B G e1
  go_loop [1, 9, 17] (fun v _ i => ∃ j : Nat, j ≤ len ∧ i = .int .i64 j ∧ v = .int .u32 (upd ent d (bs.take j))) (fun _ _ i => len - (intOf i).toNat)
  case atStart => exact ⟨0, Nat.zero_le _, rfl, rfl⟩
  case round =>
    obtain ⟨j, hj, rfl, rfl⟩ := hrel
    by_cases hlt : j < len
    · obtain ⟨b, off, rfl, hc⟩ := R2.cells (by omega)
      have hcell := hc j hlt
      have hr := R2.byt.getD j
      have hs := upd_snoc ent d bs j (by rw [R2.len_eq]; exact hlt)
      have hx := upd_lt ent_tab (R2.byt.take j) hd
      generalize bs.getD j 0 = x at hcell hr hs
      generalize upd ent d (bs.take j) = y at hs hx
      clear hc
      have hi := ix8_eq (x := y) hr
      have hk := ix_lt (c := y) hr
      have hS := stp_eq ent_tab hr hx
      generalize y % 256 ^^^ x.toNat = k at hi hk hS
      have ht := HB.out.cell k
      rw [tcs_get _ k hk] at ht
      have hw : IntKind.u8.wrap (y : Int) = (y : Int) % 256 := by rw [IntKind.wrap_u8]
      go_wp2
      go_round
      case rel => exact ⟨j + 1, by omega, by go_num, by rw [hs, ← hS]⟩
      case measure => simp [intOf]; omega
    · have hx := upd_lt ent_tab R2.byt hd
      have : j = len := by omega
      subst this
      rw [List.take_of_length_le (Nat.le_of_eq R2.len_eq)]
      generalize hy : upd ent d bs = y at hx
      have e2 := not32 hx
      go_wp2
      go_ret
      exact ⟨rfl, HG.out⟩

theorem crc_tab (T : Nat → Nat) (hT : Tab T) (q : Nat) (a : Option Addr) (len cap : Nat) (bs : List Int) (w : World) (B : SBlk w q (tcs T) 84) (R : Row w a len bs) :
    Calls Try.prog 21 #[.pointer (some ⟨q, 0, none⟩), .slice a len cap] w fun e w' => e = .returned (.int .u32 (crc T 0 bs)) ∧ w = w' := by
  have h := more_tab T hT q 0 a len cap bs w B R (by decide)
  clear B
  go_enter Try.func21, Try.ntmps21
  go_wp2_with (go_at_call 38; refine h.mono ?_; rintro e w' ⟨rfl, rfl⟩)
  go_ret
  exact ⟨rfl, rfl⟩
theorem crc_nil (a : Option Addr) (len cap : Nat) (bs : List Int) (w : World) (R : Row w a len bs) :
    Calls Try.prog 21 #[.pointer none, .slice a len cap] w fun e w' => e = .returned (.int .u32 (crc ent 0 bs)) ∧ w.grownBy w' none := by
  have h := more_nil 0 a len cap bs w R (by decide)
  go_enter Try.func21, Try.ntmps21
  go_wp2_with (go_at_call 38; refine h.mono ?_; rintro e w' ⟨rfl, hg⟩)
  go_ret
  exact ⟨rfl, by assumption⟩

end Go.Proofs.Ytaedcblphcfkfaa
