/- The writer of inodes. -/
import Derived.Test.YtiafbnpbbjkdbaaHI
import Derived.Test.YtiafbnpbbjkdbaaOA
import Derived.Deep.RegionHeld3
import Derived.Lib.ConvBytes
namespace Go.Proofs.Ytiafbnpbbjkdbaa
open Go.RowKit
set_option maxRecDepth 100000
set_option linter.unusedSimpArgs false
set_option linter.unusedVariables false
def wr15 (p : Nat) : Value := .agg #[.pointer (some ⟨p, 0, none⟩)]
theorem Row.grownS {w w' : World} {g n : Nat} {a : Option Addr} {xs : List Int} (h : Row w a n xs) (k : w.grownBy w' (some g)) (hlt : ∀ b off, a = some ⟨b, off, none⟩ → 0 < n → b ≠ g) : Row w' a n xs := by
  refine ⟨h.len_eq, h.le, h.byt, fun h0 => ?_⟩
  obtain ⟨b, off, e, hc⟩ := h.cells h0
  refine ⟨b, off, e, fun i hi => ?_⟩
  have h1 := hc i hi
  have h2 := cell_lt h1
  unfold World.cell? at h1 ⊢
  simp only at h1 ⊢
  rw [k.block b h2 (fun e2 => hlt b off e h0 (by injection e2))]
  exact h1
set_option maxHeartbeats 1000000 in
theorem wtext_apart (p : Nat) (v : Value) (bs : List Int) (most : Int) (a : Option Addr) (n c : Nat) (xs : List Int) (w : World) (hI : WInv w p v bs most 0) (R : Row w a n xs) (hlt : ∀ b off, a = some ⟨b, off, none⟩ → 0 < n → b < w.heap.size ∧ b ≠ p ∧ some b ≠ v.ownBlock) (h0 : 0 ≤ most) (h1 : most ≤ 9223372036854775807) (hl : bs.length + (2 + n) ≤ 140737488355328) (hw : ¬ (65535 : Int) < n) (hn : (2 : Int) + n ≤ most - bs.length) :
    Calls Try.prog 37 #[.pointer (some ⟨p, 0, none⟩), .slice a n c] w fun r w' => ∃ v', r = .returned (.tuple #[]) ∧ WInv w' p v' (bs ++ (sto n 2 ++ xs)) most 0 ∧ Chg w w' p v v' := by
  have hG := grow_ok p v bs most (2 + n) _ hI h0 h1 hl (by omega)
  by_cases hz : n = 0
  · exact wtext_ok p v bs most a n c xs w hI R (fun b off e h => by omega) h0 h1 hl hw hn
  · rw [cast_add] at hG
    have e2 : ((2 : Nat) : Int) = 2 := rfl
    rw [e2] at hG
    clear e2
    have hxl := R.len_eq
    have hp := hI.blk.lt
    go_enter Try.func37, Try.ntmps37
    go_wp2_with (first | (go_at_call 48; refine (wstop_any p _ _ 0 w hI.blk).mono ?_; rintro e w' ⟨rfl, rfl⟩) | (go_at_call 51; refine hG.mono ?_; rintro e w1 ⟨v1, a1, k1, rfl, hk1, G⟩; obtain ⟨g, cc, cur, hv, rfl, hB, hcl, hle, ht, hpg, hmx⟩ := G.cur (by omega); have HV := (show Hid _ from hv); have HT := (show Hid _ from ht); clear hv ht; have R1 := R.chg G.chg hlt; have d2 := G.blk.c2))
    refine (hlay_any g bs.length 2 k1 n cur w1 hB (by omega) (by omega)).mono ?_
    rintro e w2 ⟨rfl, hb2, hg2, hs2⟩
    clear hs2
    have hx2 : (bv (sto n 2)).length = 2 := by rw [bv_length, sto_length]
    have hk2 : ¬ k1 = 2 := by omega
    have R2 := R1.grownS hg2 (fun b off e h => by
      obtain ⟨k1, k2, k3⟩ := hlt b off e h
      rcases G.chg.own with q | ⟨j, q, hj⟩
      · rw [HV.out] at q; intro e; apply k3; rw [← q, e]; rfl
      · rw [HV.out] at q
        have q2 : some g = some j := by rw [← q]; rfl
        injection q2 with q2
        omega)
    go_wp2_with (first | ((with_reducible refine copy_here ?_); (refine wpList_copy8 rfl _ _ 26 26 rfl Try.underlying26 Try.size5H _ _ _ _ _ _ rfl rfl g (bs.length + 2) _ hb2 (bv xs) (by rw [bv_length, hxl]; exact (Nat.min_self _).symm) (fun h0 => ⟨rfl, R2.src h0⟩) (by rw [bv_length, hxl, length_splice _ _ _ (by rw [hx2]; omega)]; omega) (bv_one _) ?_; intro w3 hb3 hg3 hs3)))
    have hj := splice_join cur (bv (sto n 2)) (bv xs) bs.length (by rw [hx2, bv_length, hxl]; omega)
    rw [hx2, ← bv_append] at hj
    rw [hj] at hb3
    obtain ⟨hW2, hC2⟩ := wrote hI G HV.out hcl hle hmx HT.out hpg (sto n 2 ++ xs) (by simp [sto_length, hxl]) ((sto_byt _ _).append R.byt) hb3 (grown_trans hg2 hg3)
    exact bodyPost_end (results_none rfl _ _ _) rfl ⟨rfl, _, hW2, hC2⟩
theorem Chg.cellC {w w' : World} {p : Nat} {v v' : Value} (h : Chg w w' p v v') {b k : Nat} {c : Value} (hc : w.cell? ⟨b, k, none⟩ = some c) (hp : b ≠ p) (hv : some b ≠ v.ownBlock) : w'.cell? ⟨b, k, none⟩ = some c := by
  unfold World.cell? at hc ⊢
  simp only at hc ⊢
  rw [h.block b (cell_lt (o := k) (v := c) hc) hp hv]
  exact hc
theorem own_lt15 {w : World} {p : Nat} {v : Value} {bs : List Int} {most e : Int} (h : WInv w p v bs most e) : some w.heap.size ≠ v.ownBlock := fun q => by have := (h.own.lt w.heap.size q.symm).2; omega
/-- a number from anywhere -/
theorem w15num (p b k : Nat) (x : Int) (m : Nat) (v : Value) (bs : List Int) (w : World) (hI : WInv w p v bs 262192 0) (hc : w.cell? ⟨b, k, none⟩ = some (.int .i64 x)) (hbp : b ≠ p) (hbv : some b ≠ v.ownBlock) (hx : 0 ≤ x) (hx2 : x ≤ 9223372036854775807) (hck : ckE x m = 0) (hl : bs.length + m ≤ 262192) :
    Calls Try.prog 20 #[wr15 p, .pointer (some ⟨b, k, none⟩), .int .i64 m] w fun e w' => e = .returned (.tuple #[]) ∧ ∃ v', WInv w' p v' (bs ++ sto x m) 262192 0 ∧ Chg w w' p v v' := by
  have hwr : IntKind.u64.wrap x = x := u64_wrap_in x hx (by omega)
  have hN : Hid (∀ W, w.grownBy W none → Calls Try.prog 36 #[.pointer (some ⟨p, 0, none⟩), .int .u64 x, .int .i64 m] W fun r w' => ∃ v', r = .returned (.tuple #[]) ∧ WInv w' p v' (bs ++ sto x m) 262192 0 ∧ Chg W w' p v v') := fun W hg =>
    wnum_ok p v bs 262192 x m W (hI.grown hg) hck (by decide) (by decide) (by omega) (by omega)
  have HB : Hid (Bx (w.alloc (.cells #[.pointer (some ⟨p, 0, none⟩)] 48)) w.heap.size 48 [.pointer (some ⟨p, 0, none⟩)]) := Bx.new w _ _
  have hG : Hid (w.grownBy (w.alloc (.cells #[.pointer (some ⟨p, 0, none⟩)] 48)) none) := World.grownBy_alloc _ _ _
  have hc2 : (w.alloc (.cells #[.pointer (some ⟨p, 0, none⟩)] 48)).cell? ⟨b, k, none⟩ = some (.int .i64 x) := by rw [(grown_below hG.out).cell (cell_lt hc)]; exact hc
  have hb0 := HB.out.c 0
  simp only [List.getElem?_cons_zero] at hb0
  have HS : Hid (w.heap.size ≠ p ∧ some w.heap.size ≠ v.ownBlock ∧ b ≠ p ∧ some b ≠ v.ownBlock) := ⟨fun e => by have := hI.blk.lt; omega, own_lt15 hI, hbp, hbv⟩
  clear hc hI HB hck hbp hbv
  go_enter Try.func20, Try.ntmps20
  unfold wr15
  go_wp2_with fail
  generalize w.alloc (.cells #[.pointer (some ⟨p, 0, none⟩)] 48) = W at *
  generalize w.heap.size = gb at *
  have HD : Hid (w.grownBy W.drew none) := grown_trans hG.out (grown_drewH _ _)
  have hN2 := hN.out _ HD.out
  have d0 : W.drew.cell? ⟨gb, 0, none⟩ = some (.pointer (some ⟨p, 0, none⟩)) := hb0
  have d1 : W.drew.cell? ⟨b, k, none⟩ = some (.int .i64 x) := hc2
  go_region_held3 (fun w' => w'.cell? ⟨gb, 0, none⟩ = some (.pointer (some ⟨p, 0, none⟩)) ∧ w'.cell? ⟨b, k, none⟩ = some (.int .i64 x)) (first | (refine ⟨?_, ?_⟩ <;> assumption) | go_keep) (first | (go_at_call 36; (with_reducible refine hN2.mono ?_); rintro e w' ⟨v', rfl, hi, hch⟩; have e0 := hch.cellC d0 HS.out.1 HS.out.2.1; have e1 := hch.cellC d1 HS.out.2.2.1 HS.out.2.2.2; have HI : Hid _ := And.intro hi ((Chg.of_grown (p := p) (v := v) HD.out).trans hch); clear hi hch) | fail)
  go_end0
  exact ⟨rfl, v', HI.out.1, HI.out.2⟩
def nums (s : ByteArray) : List Int := s.data.toList.map fun c => (c.toNat : Int)
theorem nums_len (s : ByteArray) : (nums s).length = s.size := by simp [nums]
theorem nums_byt (s : ByteArray) : Byt (nums s) := by
  intro x hx
  obtain ⟨c, _, rfl⟩ := List.mem_map.1 hx
  exact ⟨by omega, by have := c.toNat_lt; omega⟩
/-- a text as bytes -/
theorem conv15 (s : ByteArray) (w : World) (hs : s.size ≤ maxLen) : ∃ cap W, (convert 9 26 (.string s)).run Try.prog w = .ok (.slice (some ⟨w.heap.size, 0, none⟩) s.size cap) W ∧ w.grownBy W none ∧ Row W (some ⟨w.heap.size, 0, none⟩) s.size (nums s) ∧ w.heap.size < W.heap.size := by
  refine ⟨_, _, Lib.run_convert_string_bytes w 9 26 5 s Try.underlying9 Try.underlying26 Try.underlying5, ?_, ?_, ?_⟩
  · refine ⟨rfl, rfl, rfl, by rw [Lib.bytesWorld_size]; omega, fun k hk _ => Lib.bytesWorld_at_old w 5 s k hk⟩
  · refine ⟨nums_len s, hs, nums_byt s, fun _ => ⟨_, _, rfl, fun i hi => ?_⟩⟩
    rw [Nat.zero_add, Lib.bytesWorld_cell w 5 s i hi]
    congr 2
    have h2 : i < s.data.toList.length := by simpa using hi
    simp [nums, List.getD_eq_getElem?_getD, List.getElem?_eq_getElem h2]
  · rw [Lib.bytesWorld_size]; omega
set_option maxHeartbeats 1000000 in
/-- a text from anywhere -/
theorem w15text (p b k : Nat) (s : ByteArray) (v : Value) (bs : List Int) (w : World) (hI : WInv w p v bs 262192 0) (hc : w.cell? ⟨b, k, none⟩ = some (.string s)) (hbp : b ≠ p) (hbv : some b ≠ v.ownBlock) (hs : s.size ≤ 4096) (hl : bs.length ≤ 100000) :
    Calls Try.prog 22 #[wr15 p, .pointer (some ⟨b, k, none⟩)] w fun e w' => e = .returned (.tuple #[]) ∧ ∃ v', WInv w' p v' (bs ++ (sto s.size 2 ++ nums s)) 262192 0 ∧ Chg w w' p v v' := by
  have HB : Hid (Bx (w.alloc (.cells #[.pointer (some ⟨p, 0, none⟩)] 48)) w.heap.size 48 [.pointer (some ⟨p, 0, none⟩)]) := Bx.new w _ _
  have hG : Hid (w.grownBy (w.alloc (.cells #[.pointer (some ⟨p, 0, none⟩)] 48)) none) := World.grownBy_alloc _ _ _
  have hc2 : (w.alloc (.cells #[.pointer (some ⟨p, 0, none⟩)] 48)).cell? ⟨b, k, none⟩ = some (.string s) := by rw [(grown_below hG.out).cell (cell_lt hc)]; exact hc
  have hb0 := HB.out.c 0
  simp only [List.getElem?_cons_zero] at hb0
  have HS : Hid (w.heap.size ≠ p ∧ some w.heap.size ≠ v.ownBlock ∧ b ≠ p ∧ some b ≠ v.ownBlock) := ⟨fun e => by have := hI.blk.lt; omega, own_lt15 hI, hbp, hbv⟩
  have HSz : Hid (s.size ≤ 4096 ∧ bs.length ≤ 100000 ∧ WInv w p v bs 262192 0 ∧ (∀ g, w.heap.size ≤ g → g ≠ p ∧ some g ≠ v.ownBlock)) := ⟨hs, hl, hI, fun g hg => ⟨fun e => by have := hI.blk.lt; omega, fun q => by have := (hI.own.lt g q.symm).2; omega⟩⟩
  have hle : Hid (w.heap.size ≤ (w.alloc (.cells #[.pointer (some ⟨p, 0, none⟩)] 48)).heap.size) := hG.out.size
  clear hc hI HB hbp hbv hs hl
  go_enter Try.func22, Try.ntmps22
  unfold wr15
  go_wp2_with fail
  generalize w.alloc (.cells #[.pointer (some ⟨p, 0, none⟩)] 48) = W at *
  generalize w.heap.size = gb at *
  have HD : Hid (w.grownBy W.drew none) := grown_trans hG.out (grown_drewH _ _)
  have d0 : W.drew.cell? ⟨gb, 0, none⟩ = some (.pointer (some ⟨p, 0, none⟩)) := hb0
  have d1 : W.drew.cell? ⟨b, k, none⟩ = some (.string s) := hc2
  obtain ⟨cap, W2, hconv, g2, r2, sz2⟩ := conv15 s W.drew (by have := HSz.out.1; unfold maxLen; omega)
  have f0 : W2.cell? ⟨gb, 0, none⟩ = some (.pointer (some ⟨p, 0, none⟩)) := by rw [(grown_below g2).cell (cell_lt d0)]; exact d0
  have f1 : W2.cell? ⟨b, k, none⟩ = some (.string s) := by rw [(grown_below g2).cell (cell_lt d1)]; exact d1
  have hT : Hid (Calls Try.prog 37 #[.pointer (some ⟨p, 0, none⟩), .slice (some ⟨W.heap.size, 0, none⟩) s.size cap] W2 fun r w' => ∃ v', r = .returned (.tuple #[]) ∧ WInv w' p v' (bs ++ (sto s.size 2 ++ nums s)) 262192 0 ∧ Chg W2 w' p v v') := by
    obtain ⟨h1, h2, h3, h4⟩ := HSz.out
    refine wtext_apart p v bs 262192 _ s.size cap (nums s) W2 (h3.grown (grown_trans HD.out g2)) r2 (fun b' off e _ => ?_) (by decide) (by decide) (by omega) (by omega) (by omega)
    injection e with e
    injection e with e
    subst e
    have := h4 W.drew.heap.size hle.out
    exact ⟨sz2, this.1, this.2⟩
  have HC2 : Hid (w.grownBy W2 none) := grown_trans HD.out g2
  clear g2 r2 sz2 hle HSz
  refine wp_region_held_drew (S := fun w' => w'.cell? ⟨gb, 0, none⟩ = some (.pointer (some ⟨p, 0, none⟩)) ∧ w'.cell? ⟨b, k, none⟩ = some (.string s)) (by kernel_rfl) ⟨d0, d1⟩ (fun hH => ?_)
  refine wpAnyH_take (i := 0) (oi := ⟨some 4, _, _, _, _, _⟩) (v := .pointer (some ⟨gb, 0, none⟩)) rfl (by kernel_rfl) (by kernel_rfl) (by kernel_rfl) (fun _ _ _ h => h) (Or.inl ⟨by rfl, fun w hSw => by go_simp⟩) hH ?_
  simp only [Act.put, List.setIfInBounds_toArray, List.set_cons_zero, List.set_cons_succ]
  refine wpAnyH_take (i := 1) (oi := ⟨some 5, _, _, _, _, _⟩) (v := .pointer (some ⟨p, 0, none⟩)) rfl (by kernel_rfl) (by kernel_rfl) (by kernel_rfl) (fun _ _ _ h => h) (Or.inl ⟨by rfl, fun w hSw => by obtain ⟨q0, q1⟩ := hSw; go_simp⟩) hH ?_
  simp only [Act.put, List.setIfInBounds_toArray, List.set_cons_zero, List.set_cons_succ]
  refine wpAnyH_take (i := 2) (oi := ⟨some 6, _, _, _, _, _⟩) (v := .pointer (some ⟨b, k, none⟩)) rfl (by kernel_rfl) (by kernel_rfl) (by kernel_rfl) (fun _ _ _ h => h) (Or.inl ⟨by rfl, fun w hSw => by go_simp⟩) hH ?_
  simp only [Act.put, List.setIfInBounds_toArray, List.set_cons_zero, List.set_cons_succ]
  refine wpAnyH_take (i := 3) (oi := ⟨some 7, _, _, _, _, _⟩) (v := .pointer (some ⟨b, k, none⟩)) rfl (by kernel_rfl) (by kernel_rfl) (by kernel_rfl) (fun _ _ _ h => h) (Or.inl ⟨by rfl, fun w hSw => by go_simp⟩) hH ?_
  simp only [Act.put, List.setIfInBounds_toArray, List.set_cons_zero, List.set_cons_succ]
  refine wpAnyH_take (i := 4) (oi := ⟨some 8, _, _, _, _, _⟩) (v := .string s) rfl (by kernel_rfl) (by kernel_rfl) (by kernel_rfl) (fun _ _ _ h => h) (Or.inl ⟨by rfl, fun w hSw => by obtain ⟨q0, q1⟩ := hSw; go_simp⟩) hH ?_
  simp only [Act.put, List.setIfInBounds_toArray, List.set_cons_zero, List.set_cons_succ]
  refine wpAnyH_ready (rs := [5]) (by kernel_rfl) (by simp) ?_
  refine AllReadyH.cons rfl (fun K hK => ?_) AllReadyH.nil
  go_simp
  refine hK.out _ _ ⟨f0, f1⟩ (fun hH2 => ?_)
  clear hK K
  refine wpAnyH_ready (rs := [6]) (by kernel_rfl) (by simp) ?_
  refine AllReadyH.cons rfl (fun K hK => ?_) AllReadyH.nil
  go_simp
  go_wp2_with (go_at_call 37; (with_reducible refine hT.out.mono ?_); rintro e w' ⟨v', rfl, hi, hch⟩; have e0 := hch.cellC f0 HS.out.1 HS.out.2.1; have e1 := hch.cellC f1 HS.out.2.2.1 HS.out.2.2.2; have HI : Hid _ := And.intro hi ((Chg.of_grown (p := p) (v := v) HC2.out).trans hch); clear hi hch)
  refine hK.out _ _ ⟨e0, e1⟩ (fun _ => ?_)
  clear hK K
  refine wpAnyH_done (by kernel_rfl) ?_ _
  go_end0
  exact ⟨rfl, v', HI.out.1, HI.out.2⟩
end Go.Proofs.Ytiafbnpbbjkdbaa
