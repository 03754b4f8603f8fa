/- The writer of inodes: words; numbers that may be -1. -/
import Derived.Test.YtiafbnpbbjkdbaaOF
namespace Go.Proofs.Ytiafbnpbbjkdbaa
open Go.RowKit
set_option maxRecDepth 100000
set_option linter.unusedSimpArgs false
set_option linter.unusedVariables false
def wds (l : List Int) : List Int := l.flatMap fun x => sto x 4
theorem wds_len (l : List Int) : (wds l).length = 4 * l.length := by
  induction l with
  | nil => rfl
  | cons a r ih =>
    have e : wds (a :: r) = sto a 4 ++ wds r := by simp [wds]
    rw [e, List.length_append, sto_length, ih, List.length_cons]; omega
theorem wds_snoc (l : List Int) (x : Int) : wds (l ++ [x]) = wds l ++ sto x 4 := by simp [wds]
theorem ckE4 {x : Int} (h0 : 0 ≤ x) (h1 : x ≤ 4294967295) : ckE x (4 : Nat) = 0 := by
  unfold ckE
  rw [if_pos (by rfl), if_neg (by show ¬ (4294967295 : Int) < x; omega)]
theorem ckE2 {x : Int} (h0 : 0 ≤ x) (h1 : x ≤ 65535) : ckE x (2 : Nat) = 0 := by
  unfold ckE
  rw [if_pos (by rfl), if_neg (by show ¬ (65535 : Int) < x; omega)]
theorem ckE8 {x : Int} (h0 : 0 ≤ x) (h1 : x ≤ 9223372036854775807) : ckE x (8 : Nat) = 0 := by
  unfold ckE
  rw [if_pos (by rfl), if_neg (by show ¬ (18446744073709551615 : Int) < x; omega)]
theorem Chg.apart {w w' : World} {p b : Nat} {v v' : Value} (h : Chg w w' p v v') (hb : b < w.heap.size) (hv : some b ≠ v.ownBlock) : some b ≠ v'.ownBlock := by
  rcases h.own with e | ⟨j, e, hj⟩
  · rw [e]; exact hv
  · rw [e]; intro q; injection q with q; omega
/-- a list of numbers from anywhere -/
structure Ws (w W : World) (p : Nat) (v0 : Value) (bs0 : List Int) (v : Value) (bs : List Int) : Prop where
  wi : WInv W p v (bs0 ++ bs) 262192 0
  ch : Chg w W p v0 v
set_option maxHeartbeats 2000000 in
theorem w15words (p b k : Nat) (wa : Option Addr) (wl wc : Nat) (ws : List Int) (v : Value) (bs : List Int) (w : World) (hI : WInv w p v bs 262192 0) (hc : w.cell? ⟨b, k, none⟩ = some (.slice wa wl wc)) (hbp : b ≠ p) (hbv : some b ≠ v.ownBlock)
    (HR : IRow w wa wl ws) (hap : ∀ b' off, wa = some ⟨b', off, none⟩ → 0 < wl → b' ≠ p ∧ some b' ≠ v.ownBlock) (hw : ∀ x ∈ ws, 0 ≤ x ∧ x ≤ 4294967295) (hl : bs.length + 4 + 4 * wl ≤ 262192) (hl6 : wl ≤ 65536) :
    Calls Try.prog 21 #[wr15 p, .pointer (some ⟨b, k, none⟩)] w fun e w' => e = .returned (.tuple #[]) ∧ ∃ v', WInv w' p v' (bs ++ (sto wl 4 ++ wds ws)) 262192 0 ∧ Chg w w' p v v' := by
  have HG : Hid (w.grownBy ((w.alloc (.cells #[.pointer (some ⟨p, 0, none⟩)] 48)).alloc (.cells #[.int .i64 wl] 3)) none) := grown_trans (World.grownBy_alloc _ _ _) (World.grownBy_alloc _ _ _)
  have c0 : ((w.alloc (.cells #[.pointer (some ⟨p, 0, none⟩)] 48)).alloc (.cells #[.int .i64 wl] 3)).cell? ⟨w.heap.size, 0, none⟩ = some (.pointer (some ⟨p, 0, none⟩)) := by
    have h := (Bx.new w 48 [.pointer (some ⟨p, 0, none⟩)]).kept (World.grownBy_alloc (w.alloc (.cells #[.pointer (some ⟨p, 0, none⟩)] 48)) (.cells #[.int .i64 wl] 3) none)
    exact h.c 0
  have c1 : ((w.alloc (.cells #[.pointer (some ⟨p, 0, none⟩)] 48)).alloc (.cells #[.int .i64 wl] 3)).cell? ⟨w.heap.size + 1, 0, none⟩ = some (.int .i64 wl) := by
    have h := (Bx.new (w.alloc (.cells #[.pointer (some ⟨p, 0, none⟩)] 48)) 3 [.int .i64 wl]).c 0
    have e : (w.alloc (.cells #[.pointer (some ⟨p, 0, none⟩)] 48)).heap.size = w.heap.size + 1 := by show (w.heap.push _).size = _; simp
    rw [e] at h
    exact h
  have HK : Hid (∀ g, w.heap.size ≤ g → g ≠ p ∧ some g ≠ v.ownBlock) := fun g hg => ⟨fun e => by have := hI.blk.lt; omega, fun q => by have := (hI.own.lt g q.symm).2; omega⟩
  have hc' := cell_lt hc
  have HC : Hid (w.cell? ⟨b, k, none⟩ = some (.slice wa wl wc)) := hc
  have HN : Hid (wl ≤ 65536 ∧ (∀ x ∈ ws, 0 ≤ x ∧ x ≤ 4294967295) ∧ bs.length + 4 + 4 * wl ≤ 262192 ∧ b ≠ p ∧ some b ≠ v.ownBlock) := ⟨hl6, hw, hl, hbp, hbv⟩
  have HI : Hid (WInv w p v bs 262192 0) := hI
  have HRR : Hid _ := HR
  have HA : Hid _ := hap
  clear hI hl hbp hbv hw HR hap hl6
  go_enter Try.func21, Try.ntmps21
  unfold wr15
  go_wp2_with fail
  generalize (w.alloc (.cells #[.pointer (some ⟨p, 0, none⟩)] 48)).alloc (.cells #[.int .i64 wl] 3) = W at *
  have H1 := w15num p (w.heap.size + 1) 0 wl 4 v bs W (HI.out.grown HG.out) c1 (HK.out _ (by omega)).1 (HK.out _ (by omega)).2 (by omega) (by have := HN.out.1; omega) (ckE4 (by omega) (by have := HN.out.1; omega)) (by have := HN.out.2.2.1; omega)
  refine H1.mono ?_
  clear H1
  rintro e W2 ⟨rfl, v2, hi2, hc2⟩
  have c2 : W2.cell? ⟨w.heap.size, 0, none⟩ = some (.pointer (some ⟨p, 0, none⟩)) := hc2.cellC c0 (HK.out _ (by omega)).1 (HK.out _ (by omega)).2
  have HB : Hid (W.cell? ⟨b, k, none⟩ = some (.slice wa wl wc)) := by rw [(grown_below HG.out).cell (cell_lt HC.out)]; exact HC.out
  have d2 : W2.cell? ⟨b, k, none⟩ = some (.slice wa wl wc) := hc2.cellC HB.out HN.out.2.2.2.1 HN.out.2.2.2.2
  have HW0 : Hid (Ws W W2 p v (bs ++ sto wl 4) v2 []) := ⟨by rw [List.append_nil]; exact hi2, hc2⟩
  have HR2 : Hid (IRow W wa wl ws) := HRR.out.grown HG.out
  have HS0 : Hid (W.cell? ⟨w.heap.size, 0, none⟩ = some (.pointer (some ⟨p, 0, none⟩))) := c0
  clear hi2 hc2 c0 c1
  go_wp2_with fail
  generalize w.heap.size = gb at *
  go_loopw [5, 16] (fun u i wr => ∃ j : Nat, j ≤ wl ∧ i = .int .i64 j ∧ ∃ v3, Hid (Ws W wr p v (bs ++ sto wl 4) v3 (wds (ws.take j)))) (fun u i _ => wl - (intOf i).toNat)
  case atStart => exact ⟨0, Nat.zero_le _, rfl, v2, HW0⟩
  case round =>
    obtain ⟨j, hj, rfl, v3, hS⟩ := hrel
    clear c2 d2 HW0
    by_cases hlt : j < wl
    · have hx := HRR.out.len_eq
      obtain ⟨bw, off, hwa, hcw⟩ := HR2.out.cells (by omega)
      have hcj := hcw j hlt
      have hA := HA.out bw off hwa (by omega)
      have hjl : j < ws.length := by omega
      have hxj := HN.out.2.1 (ws.getD j 0) (by rw [List.getD_eq_getElem?_getD, List.getElem?_eq_getElem hjl]; exact List.getElem_mem hjl)
      have htk : wds (ws.take (j + 1)) = wds (ws.take j) ++ sto (ws.getD j 0) 4 := by
        rw [List.take_succ_eq_append_getElem hjl, wds_snoc]
        simp [List.getD_eq_getElem?_getD, List.getElem?_eq_getElem hjl]
      have hlen : (wds (ws.take j)).length = 4 * j := by rw [wds_len, List.length_take, Nat.min_eq_left (by omega)]
      subst hwa
      clear hcw hx hjl
      generalize ws.getD j 0 = x at *
      have hcw' : wr.cell? ⟨bw, off + j, none⟩ = some (.int .i64 x) := hS.out.ch.cellC hcj hA.1 hA.2
      have e0 : wr.cell? ⟨gb, 0, none⟩ = some (.pointer (some ⟨p, 0, none⟩)) := hS.out.ch.cellC HS0.out (HK.out _ (Nat.le_refl _)).1 (HK.out _ (Nat.le_refl _)).2
      have e1 : wr.cell? ⟨b, k, none⟩ = some (.slice (some ⟨bw, off, none⟩) wl wc) := hS.out.ch.cellC HB.out HN.out.2.2.2.1 HN.out.2.2.2.2
      have HNum : Hid (∀ V, wr.grownBy V none → Calls Try.prog 20 #[wr15 p, .pointer (some ⟨bw, off + j, none⟩), .int .i64 4] V fun e w' => e = .returned (.tuple #[]) ∧ ∃ v', WInv w' p v' ((bs ++ sto wl 4 ++ wds (ws.take j)) ++ sto x 4) 262192 0 ∧ Chg V w' p v3 v') := fun V hV => by
        refine w15num p bw (off + j) x 4 v3 _ V (hS.out.wi.grown hV) (by rw [(grown_below hV).cell (cell_lt hcw')]; exact hcw') hA.1 (hS.out.ch.apart (cell_lt hcj) hA.2) hxj.1 (by omega) (ckE4 hxj.1 hxj.2) ?_
        rw [List.length_append, List.length_append, sto_length, hlen]
        have := HN.out.2.2.1
        omega
      have HT : Hid _ := htk
      have HAP : Hid (gb ≠ p ∧ some gb ≠ v3.ownBlock ∧ b ≠ p ∧ some b ≠ v3.ownBlock) := ⟨(HK.out _ (Nat.le_refl _)).1, hS.out.ch.apart (cell_lt HS0.out) (HK.out _ (Nat.le_refl _)).2, HN.out.2.2.2.1, hS.out.ch.apart (cell_lt HB.out) HN.out.2.2.2.2⟩
      clear hcj hA hxj htk hlen hcw'
      go_wp2_with fail
      have d0 : wr.drew.cell? ⟨gb, 0, none⟩ = some (.pointer (some ⟨p, 0, none⟩)) := e0
      have d1 : wr.drew.cell? ⟨b, k, none⟩ = some (.slice (some ⟨bw, off, none⟩) wl wc) := e1
      have hN2 := HNum.out wr.drew (grown_drewH _ _)
      unfold wr15 at hN2
      go_region_held3 (fun w' => w'.cell? ⟨gb, 0, none⟩ = some (.pointer (some ⟨p, 0, none⟩)) ∧ w'.cell? ⟨b, k, none⟩ = some (.slice (some ⟨bw, off, none⟩) wl wc)) (first | (refine ⟨?_, ?_⟩ <;> assumption) | go_keep) (first | (go_at_call 20; (with_reducible refine hN2.mono ?_); rintro e w' ⟨rfl, v', hi, hch⟩; have f0 := hch.cellC d0 HAP.out.1 HAP.out.2.1; have f1 := hch.cellC d1 HAP.out.2.2.1 HAP.out.2.2.2; have HE : Hid _ := And.intro hi (hS.out.ch.trans ((Chg.of_grown (p := p) (v := v3) (grown_drewH wr none)).trans hch)); clear hi hch) | fail)
      rename_i hnext hHeld
      clear hHeld
      refine hnext _ _ ?_
      clear hnext
      clear e0 e1 d0 d1 f0 f1 hN2
      have hwl : wl ≤ 65536 := HN.out.1
      go_wp2
      go_roundw
      case rel => exact ⟨j + 1, by omega, by go_num, v', ⟨by rw [HT.out, ← List.append_assoc]; exact HE.out.1, HE.out.2⟩⟩
      case measure => simp [intOf]; omega
    · obtain rfl : j = wl := by omega
      have hx := HRR.out.len_eq
      have hS2 := hS.out
      rw [List.take_of_length_le (by omega)] at hS2
      clear hx hS
      have HS2 : Hid _ := hS2
      clear hS2
      go_wp2
      go_end0
      refine ⟨rfl, v3, ?_, (Chg.of_grown HG.out).trans HS2.out.ch⟩
      have := HS2.out.wi
      rw [List.append_assoc] at this
      exact this
theorem sto_mod4 (x : Int) : sto (x % 4294967296) 4 = sto x 4 := by
  have e : ∀ y : Int, sto y 4 = [y % 256, y / 256 % 256, y / 256 / 256 % 256, y / 256 / 256 / 256 % 256] := fun y => by simp [sto]
  rw [e, e]
  congr 1
  · omega
  · congr 1
    · omega
    · congr 1
      · omega
      · congr 1
        omega
set_option maxHeartbeats 2000000 in
/-- a number that may be -1 -/
theorem w15signed (p b k : Nat) (x : Int) (v : Value) (bs : List Int) (w : World) (hI : WInv w p v bs 262192 0) (hc : w.cell? ⟨b, k, none⟩ = some (.int .i64 x)) (hfz : ∀ {v' : Value} (W : World), Chg w W p v v' → W.frozen? ⟨b, k, none⟩ = false) (hbp : b ≠ p) (hbv : some b ≠ v.ownBlock) (hx : -1 ≤ x) (hx2 : x ≤ 2147483647) (hl : bs.length + 4 ≤ 262192) :
    Calls Try.prog 35 #[.pointer (some ⟨b, k, none⟩), .func (.func 20) #[wr15 p] #[]] w fun e w' => e = .returned (.tuple #[]) ∧ ∃ v' V, WInv V p v' (bs ++ sto x 4) 262192 0 ∧ Chg w V p v v' ∧ w' = V.setCell ⟨b, k, none⟩ (.int .i64 x) := by
  have hc' := cell_lt hc
  have HC : Hid (w.cell? ⟨b, k, none⟩ = some (.int .i64 x) ∧ b ≠ p ∧ some b ≠ v.ownBlock) := ⟨hc, hbp, hbv⟩
  have HK : Hid (w.heap.size ≠ p ∧ some w.heap.size ≠ v.ownBlock) := ⟨fun e => by have := hI.blk.lt; omega, fun q => by have := (hI.own.lt _ q.symm).2; omega⟩
  have HG : Hid (w.grownBy (w.alloc (.cells #[.int .i64 (x % 4294967296)] 3)) none) := World.grownBy_alloc _ _ _
  have HX : Hid (-1 ≤ x ∧ x ≤ 2147483647 ∧ bs.length + 4 ≤ 262192) := ⟨hx, hx2, hl⟩
  have HI : Hid _ := hI
  have HW : Hid (IntKind.i32.wrap (x % 4294967296) = x) := by
    show IntKind.i32.wrap (x % 4294967296) = x
    rw [IntKind.wrap_i32]
    omega
  have c0 : (w.alloc (.cells #[.int .i64 (x % 4294967296)] 3)).cell? ⟨w.heap.size, 0, none⟩ = some (.int .i64 (x % 4294967296)) := (Bx.new w 3 [.int .i64 (x % 4294967296)]).c 0
  clear hI hbp hbv hx hx2 hl
  go_enter Try.func35, Try.ntmps35
  unfold wr15
  go_wp2_with fail
  generalize w.alloc (.cells #[.int .i64 (x % 4294967296)] 3) = W at *
  have H1 := w15num p w.heap.size 0 (x % 4294967296) 4 v bs W (HI.out.grown HG.out) c0 HK.out.1 HK.out.2 (by omega) (by omega) (ckE4 (by omega) (by omega)) HX.out.2.2
  rw [sto_mod4] at H1
  refine H1.mono ?_
  clear H1
  rintro e W2 ⟨rfl, v2, hi2, hc2⟩
  have d0 := hc2.cellC c0 HK.out.1 HK.out.2
  have HB : Hid (W.cell? ⟨b, k, none⟩ = some (.int .i64 x)) := by rw [(grown_below HG.out).cell hc']; exact HC.out.1
  have d1 := hc2.cellC HB.out HC.out.2.1 HC.out.2.2
  have HE : Hid _ := And.intro hi2 ((Chg.of_grown (p := p) (v := v) HG.out).trans hc2)
  have f1 : W2.frozen? ⟨b, k, none⟩ = false := hfz W2 HE.out.2
  have hw1 := HW.out
  clear hi2 hc2 c0
  go_wp2
  go_end0
  exact ⟨rfl, v2, W2, HE.out.1, HE.out.2, by congr 2; have := HX.out; unfold wrap64; omega⟩
end Go.Proofs.Ytiafbnpbbjkdbaa
