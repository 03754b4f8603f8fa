/- The walk of SumCrcs, out of the contracts. -/
import Derived.Test.YtmnejeallnffgaaL2
namespace Go.Proofs.Ytmnejeallnffgaa
open Go.RowKit

set_option maxHeartbeats 1000000 in
theorem sumCrcs_walk (a0 : Int) (a1 : Option Addr) (len1 cap1 : Nat) (z1 : List Int) (w : World) (w0 : (Lit.int .u32 a0).wf = true) (w1 : IsRow .u8 w a1 len1 cap1 z1) :
    Calls Try.prog 4 #[.int .u32 a0, .slice a1 len1 cap1] w fun e w' => e = .returned (.bool true) ∧ Below w.heap.size w w' := by
  have R := w1.row
  obtain ⟨c, rfl⟩ := Int.eq_ofNat_of_zero_le (wf_u32 w0).1
  have hc : c < 4294967296 := by have := (wf_u32 w0).2; omega
  have hL := fun w => live_any w
  have hm : len1 ≤ 9223372036854775807 := R.le
  clear w0 w1
  generalize z1.take len1 = bs at R
  by_cases h : (5000 : Int) < len1
  · go_enter Try.func4, Try.ntmps4
    go_wp2_with (go_at_call 12; refine (hL _).mono ?_; rintro e w' ⟨rfl, hb⟩)
    go_ret
    exact ⟨rfl, grown_below (by assumption)⟩
  · obtain ⟨hz, hs⟩ := zero24
    have HI : Hid ((Try.prog.info? 24).map (·.size) = some (tcs ent).toArray.size) := by show _ = _; simp [hs, tcs_length]
    clear hs
    have hM := make_any w
    go_enter Try.func4, Try.ntmps4
    go_wp2_with (first | (go_at_call 9; refine hM.mono ?_; rintro e w1 ⟨rfl, hg1⟩; have HG1 : Hid (w.grownBy w1 none) := hg1; clear hg1) | (with_reducible refine store24_here ?_; refine wpList_store_row rfl 24 _ _ rfl w1.heap.size _ rfl rfl 24 _ (heap_alloc_new w1 _) HI.out (by simp [tcs_length]) (tcs_one _) ?_))
    rw [World.setRow_alloc_new]
    have B : SBlk (w1.alloc (.cells (tcs ent).toArray 24)) w1.heap.size (tcs ent) 24 := alloc_sblk _ _ _
    have G : w.grownBy (w1.alloc (.cells (tcs ent).toArray 24)) none := grown_trans HG1.out (World.grownBy_alloc _ _ _)
    clear hz hM HI HG1
    generalize w1.alloc (.cells (tcs ent).toArray 24) = w2 at B G
    generalize w1.heap.size = q at B
    have HG : Hid (w.grownBy w2 none) := G
    have HB : Hid (SBlk w2 q (tcs ent) 24) := B
    have HR : Hid (Row w a1 len1 bs) := R
    have hC := refcrc_any c a1 len1 cap1 bs w2 (R.grown G) hc
    have hN := more_nil c a1 len1 cap1 bs w2 (R.grown G) hc
    clear B G R
    refine hC.mono ?_
    rintro e wx ⟨rfl, rfl⟩
    go_wp2_with fail
    refine hN.mono ?_
    rintro e w3 ⟨rfl, hg3⟩
    have HG3 : Hid (w2.grownBy w3 none) := hg3
    clear hg3 hC hN
    have hT := more_tab ent ent_tab q c a1 len1 cap1 bs w3 (HB.out.grown HG3.out (by simp)) (HR.out.grown (grown_trans HG.out HG3.out)) hc
    have hK := crc_tab ent ent_tab q a1 len1 cap1 bs w3 (HB.out.grown HG3.out (by simp)) (HR.out.grown (grown_trans HG.out HG3.out))
    have hC0 := refcrc_any 0 a1 len1 cap1 bs w3 (HR.out.grown (grown_trans HG.out HG3.out)) (by decide)
    go_wp2_with (first | (go_at_call 14; refine hT.mono ?_; rintro e wx ⟨rfl, rfl⟩) | (go_at_call 15; refine hK.mono ?_; rintro e wx ⟨rfl, rfl⟩) | (go_at_call 13; refine hC0.mono ?_; rintro e wx ⟨rfl, rfl⟩) | (go_at_call 12; refine (hL _).mono ?_; rintro e w4 ⟨rfl, hg4⟩))
    go_ret
    exact ⟨rfl, grown_below (grown_trans HG.out (grown_trans HG3.out (by assumption)))⟩
end Go.Proofs.Ytmnejeallnffgaa
