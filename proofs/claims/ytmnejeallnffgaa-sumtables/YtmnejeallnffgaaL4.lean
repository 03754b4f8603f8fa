/- The walk of SumTables, out of the contracts. -/
import Derived.Test.YtmnejeallnffgaaA6
import Derived.Test.YtmnejeallnffgaaL2
namespace Go.Proofs.Ytmnejeallnffgaa
open Go.RowKit
set_option linter.unusedSimpArgs false

/-- two blocks hold the same table; what was there is there -/
structure Two (w w' : World) (q0 q1 : Nat) (F : List Value) : Prop where
  b0 : SBlk w' q0 F 24
  b1 : SBlk w' q1 F 24
  gr : w.grownBy w' none
theorem Two.grown {w w' w2 : World} {q0 q1 : Nat} {F : List Value} (h : Two w w' q0 q1 F) (hg : w'.grownBy w2 none) : Two w w2 q0 q1 F := ⟨h.b0.grown hg (by simp), h.b1.grown hg (by simp), grown_trans h.gr hg⟩
theorem Two.drew {w w' : World} {q0 q1 : Nat} {F : List Value} (h : Two w w' q0 q1 F) : Two w w'.drew q0 q1 F := ⟨h.b0, h.b1, below_grown (grown_below h.gr).drew⟩
theorem Two.all {w w' : World} {q0 q1 : Nat} {F : List Value} (h : Two w w' q0 q1 F) : w'.rangeAt q0 0 F ∧ w'.rangeAt q1 0 F ∧ Two w w' q0 q1 F := ⟨h.b0.range, h.b1.range, h⟩
theorem Two.keep {w w' w2 : World} {q0 q1 : Nat} {F : List Value} (h : w'.rangeAt q0 0 F ∧ w'.rangeAt q1 0 F ∧ Two w w' q0 q1 F) (hg : w'.grownBy w2 none) : w2.rangeAt q0 0 F ∧ w2.rangeAt q1 0 F ∧ Two w w2 q0 q1 F := (h.2.2.grown hg).all

set_option maxHeartbeats 2000000 in
theorem sumTables_walk (T : Nat → Nat) (a1 : Int) (a2 : Option Addr) (len2 cap2 : Nat) (z2 : List Int) (w : World) (hT : Tab T) (w1 : (Lit.int .u32 a1).wf = true) (w2 : IsRow .u8 w a2 len2 cap2 z2) :
    Calls Try.prog 5 #[.agg (tcs T).toArray, .int .u32 a1, .slice a2 len2 cap2] w fun e w' => e = .returned (.bool true) ∧ Below w.heap.size w w' := by
  have R := w2.row
  obtain ⟨c, rfl⟩ := Int.eq_ofNat_of_zero_le (wf_u32 w1).1
  have hc : c < 4294967296 := by have := (wf_u32 w1).2; omega
  have hL := fun w => live_any w
  have hm : len2 ≤ 9223372036854775807 := R.le
  clear w1 w2
  generalize z2.take len2 = bs at R
  by_cases h : (5000 : Int) < len2
  · generalize (tcs T).toArray = F
    go_enter Try.func5, Try.ntmps5
    go_wp2_with (go_at_call 12; refine (hL _).mono ?_; rintro e w' ⟨rfl, hb⟩)
    go_ret
    exact ⟨rfl, grown_below (grown_trans (World.grownBy_alloc _ _ _) (by assumption))⟩
  · obtain ⟨hz, hs⟩ := zero24
    have HI : Hid ((Try.prog.info? 24).map (·.size) = some (tcs T).toArray.size) := by show _ = _; simp [hs, tcs_length]
    have hs' : (Try.prog.info? 24).map (·.size) = some (tcs T).length := by rw [hs, tcs_length]
    have hl := tcs_length T
    have h1 : ∀ v ∈ tcs T, v.oneCell' = true := fun v hv => by have := tcs_one T; simp at this; exact this v hv
    have HZ : Hid ((tcs (upto 0)).toArray.size = (tcs T).toArray.size) := by show _ = _; simp [tcs_length]
    have H1 := tcs_one T
    have HO : Hid ((tcs T).toArray.all (·.oneCell') = true) := H1
    have hE := fun w => run_equal_tab T T w
    rw [eqT_refl] at hE
    have hMT := fun (wx : World) (q0 q1 : Nat) (t2 : Two w wx q0 q1 (tcs T)) => more_tab T hT q1 c a2 len2 cap2 bs wx t2.b1 (R.grown t2.gr) hc
    have hMR := fun (wx : World) (G : w.grownBy wx none) => refmore_any T hT c a2 len2 cap2 bs wx (R.grown G) hc
    have u24 := Try.underlying24
    clear hs R H1
    generalize tcs T = F at *
    go_enter Try.func5, Try.ntmps5
    have HB : Hid ((w.alloc (.cells F.toArray 24)).heap[w.heap.size]? = some (.cells F.toArray 24 (0, 0))) := heap_alloc_new w _
    go_wp2_with (first | (with_reducible refine load24_here ?_; refine wpList_load_row rfl 24 _ rfl w.heap.size rfl 24 _ (0, 0) _ HB.out Try.underlying24 rfl HI.out ?_) | (with_reducible refine store24_here ?_; refine wpList_store_row rfl 24 _ _ rfl (w.heap.size + 1) _ rfl rfl 24 _ (heap_alloc2_new w _ _) HI.out HZ.out HO.out ?_))
    have t2 : Two w (((w.alloc (.cells F.toArray 24)).alloc (.cells (tcs (upto 0)).toArray 24)).setRow (w.heap.size + 1) F.toArray) w.heap.size (w.heap.size + 1) F :=
      ⟨(setRow_other _ _ _ _ (by omega)).trans (heap_alloc2_old w _ _), setRow_heap _ _ _ _ _ _ (heap_alloc2_new w _ _), by
        have g := grown_trans (World.grownBy_alloc w (.cells F.toArray 24) none) (World.grownBy_alloc _ (.cells (tcs (upto 0)).toArray 24) none)
        exact ⟨g.os, g.tape, g.output, by simp; omega, fun k hk hr => (setRow_other _ _ _ _ (by omega)).trans (g.block k hk hr)⟩⟩
    generalize ((w.alloc (.cells F.toArray 24)).alloc (.cells (tcs (upto 0)).toArray 24)).setRow (w.heap.size + 1) F.toArray = w2 at t2
    generalize w.heap.size + 1 = q1 at t2
    generalize hq0 : w.heap.size = q0 at t2
    have HS : Hid (Two w w2 q0 q1 F) := t2
    clear t2 HI HZ HO hz HB hq0
    refine wp_region_held_drew (S := fun w' => w'.rangeAt q0 0 F ∧ w'.rangeAt q1 0 F ∧ Two w w' q0 q1 F) (by kernel_rfl) HS.out.drew.all (fun hH => ?_)
    refine wpAnyH_take (i := 0) (oi := ⟨some 13, _, _, _, _, _⟩) (v := .int .u32 c) rfl (by kernel_rfl) (by kernel_rfl) (by kernel_rfl) (fun _ _ _ h => h) (Or.inl ⟨by rfl, fun w hSw => by go_simp⟩) hH ?_
    simp only [Act.put, List.setIfInBounds_toArray, List.set_cons_zero, List.set_cons_succ]
    refine wpAnyH_take (i := 1) (oi := ⟨some 14, _, _, _, _, _⟩) (v := .slice a2 len2 cap2) rfl (by kernel_rfl) (by kernel_rfl) (by kernel_rfl) (fun _ _ _ h => h) (Or.inl ⟨by rfl, fun w hSw => by go_simp⟩) hH ?_
    simp only [Act.put, List.setIfInBounds_toArray, List.set_cons_zero, List.set_cons_succ]
    refine wpAnyH_take (i := 3) (oi := ⟨some 16, _, _, _, _, _⟩) (v := .agg F.toArray) rfl (by kernel_rfl) (by kernel_rfl) (by kernel_rfl) (fun _ _ _ h => h) (yieldsIf_load_mid (by rfl) 24 _ rfl q0 0 rfl F _ (fun w h => h.1) u24 rfl hs') hH ?_
    simp only [Act.put, List.setIfInBounds_toArray, List.set_cons_zero, List.set_cons_succ]
    refine wpAnyH_take (i := 4) (oi := ⟨some 17, _, _, _, _, _⟩) (v := .int .u32 c) rfl (by kernel_rfl) (by kernel_rfl) (by kernel_rfl) (fun _ _ _ h => h) (Or.inl ⟨by rfl, fun w hSw => by go_simp⟩) hH ?_
    simp only [Act.put, List.setIfInBounds_toArray, List.set_cons_zero, List.set_cons_succ]
    refine wpAnyH_take (i := 5) (oi := ⟨some 18, _, _, _, _, _⟩) (v := .slice a2 len2 cap2) rfl (by kernel_rfl) (by kernel_rfl) (by kernel_rfl) (fun _ _ _ h => h) (Or.inl ⟨by rfl, fun w hSw => by go_simp⟩) hH ?_
    simp only [Act.put, List.setIfInBounds_toArray, List.set_cons_zero, List.set_cons_succ]
    refine wpAnyH_ready (rs := [2]) (by kernel_rfl) (by simp) ?_
    refine AllReadyH.cons rfl (fun K hK => ?_) AllReadyH.nil
    go_simp
    go_wp2_with (go_at_call 14; refine (hMT _ q0 q1 hH.2.2).mono ?_; rintro e wx ⟨rfl, rfl⟩)
    replace hH := hH
    refine hK.out _ _ hH (fun _ => ?_)
    clear hK K
    refine wpAnyH_ready (rs := [6]) (by kernel_rfl) (by simp) ?_
    refine AllReadyH.cons rfl (fun K hK => ?_) AllReadyH.nil
    go_simp
    go_wp2_with (go_at_call 16; refine (hMR _ hH.2.2.gr).mono ?_; rintro e wx ⟨rfl, hgx⟩)
    replace hH := Two.keep hH hgx
    refine hK.out _ _ hH (fun _ => ?_)
    clear hK K
    generalize crc T c bs = cr
    refine wpAnyH_take (i := 7) (oi := ⟨some 20, _, _, _, _, _⟩) (v := .bool true) rfl (by kernel_rfl) (by kernel_rfl) (by kernel_rfl) (fun _ _ _ h => h) (Or.inl ⟨by rfl, fun w hSw => by go_simp⟩) hH ?_
    simp only [Act.put, List.setIfInBounds_toArray, List.set_cons_zero, List.set_cons_succ]
    refine wpAnyH_take (i := 8) (oi := ⟨some 21, _, _, _, _, _⟩) (v := .bool true) rfl (by kernel_rfl) (by kernel_rfl) (by kernel_rfl) (fun _ _ _ h => h) (Or.inl ⟨by rfl, fun w hSw => by go_simp⟩) hH ?_
    simp only [Act.put, List.setIfInBounds_toArray, List.set_cons_zero, List.set_cons_succ]
    refine wpAnyH_take (i := 9) (oi := ⟨some 22, _, _, _, _, _⟩) (v := .agg F.toArray) rfl (by kernel_rfl) (by kernel_rfl) (by kernel_rfl) (fun _ _ _ h => h) (yieldsIf_load_mid (by rfl) 24 _ rfl q1 0 rfl F _ (fun w h => h.2.1) u24 rfl hs') hH ?_
    simp only [Act.put, List.setIfInBounds_toArray, List.set_cons_zero, List.set_cons_succ]
    refine wpAnyH_take (i := 10) (oi := ⟨some 23, _, _, _, _, _⟩) (v := .agg F.toArray) rfl (by kernel_rfl) (by kernel_rfl) (by kernel_rfl) (fun _ _ _ h => h) (yieldsIf_load_mid (by rfl) 24 _ rfl q0 0 rfl F _ (fun w h => h.1) u24 rfl hs') hH ?_
    simp only [Act.put, List.setIfInBounds_toArray, List.set_cons_zero, List.set_cons_succ]
    refine wpAnyH_take (i := 11) (oi := ⟨some 24, _, _, _, _, _⟩) (v := .bool true) rfl (by kernel_rfl) (by kernel_rfl) (by kernel_rfl) (fun _ _ _ h => h) (Or.inl ⟨by rfl, fun w hSw => by go_simp⟩) hH ?_
    simp only [Act.put, List.setIfInBounds_toArray, List.set_cons_zero, List.set_cons_succ]
    refine wpAnyH_take (i := 12) (oi := ⟨some 25, _, _, _, _, _⟩) (v := .bool true) rfl (by kernel_rfl) (by kernel_rfl) (by kernel_rfl) (fun _ _ _ h => h) (Or.inl ⟨by rfl, fun w hSw => by go_simp⟩) hH ?_
    simp only [Act.put, List.setIfInBounds_toArray, List.set_cons_zero, List.set_cons_succ]
    refine wpAnyH_take (i := 13) (oi := ⟨some 26, _, _, _, _, _⟩) (v := .bool true) rfl (by kernel_rfl) (by kernel_rfl) (by kernel_rfl) (fun _ _ _ h => h) (Or.inl ⟨by rfl, fun w hSw => by go_simp⟩) hH ?_
    simp only [Act.put, List.setIfInBounds_toArray, List.set_cons_zero, List.set_cons_succ]
    refine wpAnyH_ready (rs := [14]) (by kernel_rfl) (by simp) ?_
    refine AllReadyH.cons rfl (fun K hK => ?_) AllReadyH.nil
    go_simp
    go_wp2_with (go_at_call 12; refine (hL _).mono ?_; rintro e wy ⟨rfl, hgy⟩)
    replace hH := Two.keep hH hgy
    refine hK.out _ _ hH (fun _ => ?_)
    clear hK K
    refine wpAnyH_take (i := 15) (oi := ⟨some 28, _, _, _, _, _⟩) (v := .bool true) rfl (by kernel_rfl) (by kernel_rfl) (by kernel_rfl) (fun _ _ _ h => h) (Or.inl ⟨by rfl, fun w hSw => by go_simp⟩) hH ?_
    simp only [Act.put, List.setIfInBounds_toArray, List.set_cons_zero, List.set_cons_succ]
    refine wpAnyH_take (i := 16) (oi := ⟨some 6, _, _, _, _, _⟩) (v := .bool true) rfl (by kernel_rfl) (by kernel_rfl) (by kernel_rfl) (fun _ _ _ h => h) (Or.inl ⟨by rfl, fun w hSw => by go_simp⟩) hH ?_
    simp only [Act.put, List.setIfInBounds_toArray, List.set_cons_zero, List.set_cons_succ]
    refine wpAnyH_done (by kernel_rfl) ?_ _
    go_wp2_with fail
    go_ret
    exact ⟨rfl, grown_below hH.2.2.gr⟩
end Go.Proofs.Ytmnejeallnffgaa
