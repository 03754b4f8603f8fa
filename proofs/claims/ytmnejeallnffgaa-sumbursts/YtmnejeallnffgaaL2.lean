/- The walk of SumTable, out of the contracts. -/
import Derived.Test.YtmnejeallnffgaaA5
import Derived.Test.YtmnejeallnffgaaL1
namespace Go.Proofs.Ytmnejeallnffgaa
open Go.RowKit

/-- the table with one entry turned -/
def turned (i t k : Nat) : Nat := if k = i then ent i ^^^ t else ent k
theorem xor_self_iff (a t : Nat) : a ^^^ t = a ↔ t = 0 := by
  constructor
  · intro h
    have h2 : a ^^^ (a ^^^ t) = a ^^^ a := by rw [h]
    rwa [← Nat.xor_assoc, Nat.xor_self, Nat.zero_xor] at h2
  · intro h; subst h; simp
theorem turned_eq (i t : Nat) (hi : i < 256) : eqT (turned i t) ent = decide (t = 0) := by
  rw [Bool.eq_iff_iff, eqT_iff, decide_eq_true_eq]
  constructor
  · intro h
    have := h i hi
    simp [turned] at this
    exact (xor_self_iff _ _).1 this
  · intro h k _
    subst h
    unfold turned
    by_cases e : k = i
    · subst e; simp
    · simp [e]
theorem keepT {w w' : World} {q i : Nat} {v : Value} {cs : List Value} (h : w.cell? ⟨q, i, none⟩ = some v ∧ SBlk w q cs 24) (hg : w.grownBy w' none) : w'.cell? ⟨q, i, none⟩ = some v ∧ SBlk w' q cs 24 :=
  ⟨by rw [(grown_below hg).cell (p := ⟨q, i, none⟩) (cell_lt h.1)]; exact h.1, h.2.grown hg (by simp)⟩

theorem put_none (a : Act) (v : Value) : a.put none v = a := rfl

set_option maxHeartbeats 1000000 in
theorem sumTable_nat (i t : Nat) (hi : i < 256) (ht : t < 4294967296) (w : World) :
    Calls Try.prog 3 #[.int .u8 i, .int .u32 t] w fun e w' => e = .returned (.bool true) ∧ Below w.heap.size w w' := by
  obtain ⟨hz, hs⟩ := zero24
  have HI : Hid ((Try.prog.info? 24).map (·.size) = some (tcs ent).toArray.size) := by show _ = _; simp [hs, tcs_length]
  clear hs
  have hM := make_any w
  have hL := fun w => live_any w
  have hE := fun w => refentry_any i w (by omega)
  go_enter Try.func3, Try.ntmps3
  go_wp2_with (first | (go_at_call 9; refine hM.mono ?_; rintro e w1 ⟨rfl, hg1⟩; have HG1 : Hid (w.grownBy w1 none) := hg1; clear hg1) | (with_reducible refine store24_here ?_; refine wpList_store_row rfl 24 _ _ rfl w1.heap.size _ rfl rfl 24 _ (heap_alloc_new w1 _) HI.out (by simp [tcs_length]) (tcs_one _) ?_))
  rw [World.setRow_alloc_new, put_none]
  have B : SBlk (w1.alloc (.cells (tcs ent).toArray 24)) w1.heap.size (tcs ent) 24 := alloc_sblk _ _ _
  have G : w.grownBy (w1.alloc (.cells (tcs ent).toArray 24)) none := grown_trans HG1.out (World.grownBy_alloc _ _ _)
  have hq : w.heap.size ≤ w1.heap.size := HG1.out.size
  clear hz hM HI HG1
  generalize w1.alloc (.cells (tcs ent).toArray 24) = w2 at B G
  generalize w1.heap.size = q at B hq
  generalize Value.agg (tcs ent).toArray = tv
  have hc : w2.cell? ⟨q, i, none⟩ = some (.int .u32 (ent i)) := by rw [B.cell, tcs_get _ _ hi]
  have hS : w2.drew.cell? ⟨q, i, none⟩ = some (.int .u32 (ent i)) ∧ SBlk w2.drew q (tcs ent) 24 := ⟨hc, B⟩
  have HS : Hid (w2.drew.cell? ⟨q, i, none⟩ = some (.int .u32 (ent i)) ∧ SBlk w2.drew q (tcs ent) 24) := hS
  have HG : Hid (w.grownBy w2 none) := G
  clear B G hc hS
  have hN := fun w => good_nil w
  have hT := fun (w : World) (h : SBlk w q (tcs ent) 24) => good_tab ent q w h
  rw [eqT_refl] at hT
  have hi1 : (i : Int) < 256 := by omega
  have hw : IntKind.u32.wrap (i : Int) = i := by rw [IntKind.wrap_u32]; omega
  go_region_held (fun w' => w'.cell? ⟨q, i, none⟩ = some (.int .u32 (ent i)) ∧ SBlk w' q (tcs ent) 24) (first | exact HS.out | exact keepT (by assumption) (by assumption) | exact ⟨by assumption, by assumption⟩) (first | (go_at_call 10; refine (hE _).mono ?_; rintro e wx ⟨rfl, rfl⟩) | (go_at_call 11; first | (with_reducible refine (hN _).mono ?_; rintro e wx ⟨rfl, hgx⟩) | (with_reducible refine (hT _ (And.right (by assumption))).mono ?_; rintro e wx ⟨rfl, hgx⟩)))
  rename_i wy hgy hh
  obtain ⟨hc, B⟩ := hh
  have hf := B.frozen i
  have G2 : w.grownBy wx none := grown_trans HG.out (grown_drew (grown_trans hgy hgx))
  have B2 : SBlk (wx.setCell ⟨q, i, none⟩ (.int .u32 ((ent i ^^^ t : Nat) : Int))) q (tcs (turned i t)) 24 := by
    have := B.set i (.int .u32 ((ent i ^^^ t : Nat) : Int))
    rw [tcs_set _ _ _ hi] at this
    exact this
  have hX : bits .xor .u32 (ent i : Int) (t : Int) = ((ent i ^^^ t : Nat) : Int) := xor32 (ent_lt (by omega)) ht
  have hG := good_tab (turned i t) q _ B2
  rw [turned_eq i t hi] at hG
  have G3 := grown_new G2 (grown_set wx q i (.int .u32 ((ent i ^^^ t : Nat) : Int))) hq
  have HG3 : Hid (w.grownBy (wx.setCell ⟨q, i, none⟩ (.int .u32 ((ent i ^^^ t : Nat) : Int))) none) := G3
  clear hT hN hE B B2 G2 G3 HG HS hgx hgy
  by_cases h0 : t = 0
  · have hd : decide (t = 0) = true := by simpa using h0
    have he : ((t : Int) == 0) = true := by simp [h0]
    rw [hd] at hG
    clear h0 hd
    go_wp2_with (first | (go_at_call 11; refine hG.mono ?_; rintro e wa ⟨rfl, hga⟩) | (go_at_call 12; refine (hL _).mono ?_; rintro e wb ⟨rfl, hgb⟩))
    go_ret
    exact ⟨rfl, grown_below (grown_trans HG3.out (grown_trans (by assumption) (by assumption)))⟩
  · have hd : decide (t = 0) = false := by simpa using h0
    have he : ((t : Int) == 0) = false := by simp; omega
    rw [hd] at hG
    clear h0 hd
    go_wp2_with (first | (go_at_call 11; refine hG.mono ?_; rintro e wa ⟨rfl, hga⟩) | (go_at_call 12; refine (hL _).mono ?_; rintro e wb ⟨rfl, hgb⟩))
    go_ret
    exact ⟨rfl, grown_below (grown_trans HG3.out (grown_trans (by assumption) (by assumption)))⟩

theorem sumTable_walk (a0 a1 : Int) (w : World) (w0 : (Lit.int .u8 a0).wf = true) (w1 : (Lit.int .u32 a1).wf = true) :
    Calls Try.prog 3 #[.int .u8 a0, .int .u32 a1] w fun e w' => e = .returned (.bool true) ∧ Below w.heap.size w w' := by
  obtain ⟨i, rfl⟩ := Int.eq_ofNat_of_zero_le (wf_u8 w0).1
  obtain ⟨t, rfl⟩ := Int.eq_ofNat_of_zero_le (wf_u32 w1).1
  have h0 := (wf_u8 w0).2
  have h1 := (wf_u32 w1).2
  exact sumTable_nat i t (by omega) (by omega) w
end Go.Proofs.Ytmnejeallnffgaa
