/- The walk of InodeEncodes. -/
import Derived.Test.YtiafbnpbbjkdbaaOJ
import Derived.Test.YtiafbnpbbjkdbaaOBc
import Derived.Test.YtiafbnpbbjkdbaaOY
import Derived.Test.YtiafbnpbbjkdbaaPD15
import Derived.Deep.RegionHeld
namespace Go.Proofs.Ytiafbnpbbjkdbaa
open Go.RowKit
set_option maxRecDepth 100000
set_option linter.unusedSimpArgs false
set_option linter.unusedVariables false
theorem yields_load15 {P : Program} {ops : Array Oper} {S : World → Prop} {o : Oper} {a : Act} (hgd : Region.wanted o (yielded ops a.tmps) = true) (ty : TypeId) (x : Operand) (ho : o.op = .load ty x) (g : Nat) (hx : a.eval x = .pointer (some ⟨g, 0, none⟩))
    {T : TypeId} {cs : List Value} (hg : ∀ w, S w → Bx w g T cs) {d : TypeDesc} (hu : P.underlying ty = some d) (hd : (match d with | .struct _ | .array _ _ => true | _ => false) = true) (hi : (P.info? ty).map (·.size) = some cs.toArray.size) :
    YieldsIf P ops S o (.agg cs.toArray) a :=
  Or.inl ⟨hgd, fun w hw => by
    unfold execOp
    simp only [ho, hx, Instr.loadAt, Instr.sureAddr, Sem.run_bind, Sem.run_pure, Result.andThen_ok, run_loadVar_row w g T ty cs.toArray (0, 0) d (hg w hw).blk hu hd hi]
    try rfl⟩
theorem chk_wl {n : Nd} (h : chk15 n = 0) : n.wl ≤ 65536 := by
  have hr := chk_rt h
  by_cases h1 : n.kd = 1
  · exact (hr.k1 h1).2.2.2.2.2.1
  · unfold chk15 at h
    rw [if_pos (inn_iff.2 hr.kd)] at h
    by_cases h2 : (hd15 n && rest15 n) = true
    · rw [Bool.and_eq_true] at h2
      have h4 := h2.2
      unfold rest15 at h4
      simp only [Bool.and_eq_true] at h4
      have b1 := h4.1.1.1
      rw [if_neg (by simpa using h1)] at b1
      unfold nofile15 at b1
      simp only [Bool.and_eq_true] at b1
      have := b1.1.1.1.2
      have h5 : (n.wl : Int) = 0 := by simpa using this
      omega
    · rw [if_neg h2] at h
      exact absurd h (by decide)
theorem enb_max {n : Nd} (hr : Rt15 n) (hl : n.ws.length = n.wl) : (enb15 n).length ≤ 48 + 4 * n.wl + 4096 := by
  have h9 := enb_len hr hl
  have hk := hr.kd
  rcases (by omega : n.kd = 1 ∨ n.kd = 2 ∨ n.kd = 3 ∨ 3 < n.kd) with q | q | q | q
  · rw [h9.1 q]; omega
  · rw [h9.2.1 q]; omega
  · rw [h9.2.2.1 q]; have := (hr.k3 q).2.1; omega
  · rw [h9.2.2.2.1 q]; omega
set_option maxHeartbeats 8000000 in
theorem inodeEncodes_walk (n : Nd) (w : World) (hn : n.ok w) :
    Calls Try.prog 3 #[n.val] w fun e w' => e = .returned (.bool true) ∧ Below w.heap.size w w' := by
  have HB : Hid (Bx (w.alloc (.cells #[.int .i64 n.kd, .int .i64 n.md, .int .i64 n.ui, .int .i64 n.gi, .int .i64 n.tm, .int .i64 n.ln, .int .i64 n.at_, .int .i64 n.sz, .int .i64 n.st, .slice n.wa n.wl n.wc, .int .i64 n.fr, .int .i64 n.of_, .int .i64 n.tl, .int .i64 n.dr, .int .i64 n.by_, .int .i64 n.pr, .string n.tg, .int .i64 n.dv] 24)) w.heap.size 24 [.int .i64 n.kd, .int .i64 n.md, .int .i64 n.ui, .int .i64 n.gi, .int .i64 n.tm, .int .i64 n.ln, .int .i64 n.at_, .int .i64 n.sz, .int .i64 n.st, .slice n.wa n.wl n.wc, .int .i64 n.fr, .int .i64 n.of_, .int .i64 n.tl, .int .i64 n.dr, .int .i64 n.by_, .int .i64 n.pr, .string n.tg, .int .i64 n.dv]) := Bx.new w _ _
  have HG : Hid (w.grownBy (w.alloc (.cells #[.int .i64 n.kd, .int .i64 n.md, .int .i64 n.ui, .int .i64 n.gi, .int .i64 n.tm, .int .i64 n.ln, .int .i64 n.at_, .int .i64 n.sz, .int .i64 n.st, .slice n.wa n.wl n.wc, .int .i64 n.fr, .int .i64 n.of_, .int .i64 n.tl, .int .i64 n.dr, .int .i64 n.by_, .int .i64 n.pr, .string n.tg, .int .i64 n.dv] 24)) none) := World.grownBy_alloc _ _ _
  have HL : Hid (∀ W : World, Calls Try.prog 7 #[] W fun e w' => e = .returned (.bool true) ∧ W.grownBy w' none) := fun W => live15_any W
  have HRC : Hid (∀ W, w.grownBy W none → Calls Try.prog 9 #[.agg #[.int .i64 n.kd, .int .i64 n.md, .int .i64 n.ui, .int .i64 n.gi, .int .i64 n.tm, .int .i64 n.ln, .int .i64 n.at_, .int .i64 n.sz, .int .i64 n.st, .slice n.wa n.wl n.wc, .int .i64 n.fr, .int .i64 n.of_, .int .i64 n.tl, .int .i64 n.dr, .int .i64 n.by_, .int .i64 n.pr, .string n.tg, .int .i64 n.dv]] W fun e w' => e = .returned (.int .i64 (chk15 n)) ∧ W.grownBy w' none) := fun W g => rcheck15_any n W (hn.kept g)
  have HPC : Hid (∀ W, w.grownBy W none → Calls Try.prog 11 #[.agg #[.int .i64 n.kd, .int .i64 n.md, .int .i64 n.ui, .int .i64 n.gi, .int .i64 n.tm, .int .i64 n.ln, .int .i64 n.at_, .int .i64 n.sz, .int .i64 n.st, .slice n.wa n.wl n.wc, .int .i64 n.fr, .int .i64 n.of_, .int .i64 n.tl, .int .i64 n.dr, .int .i64 n.by_, .int .i64 n.pr, .string n.tg, .int .i64 n.dv]] W fun e w' => e = .returned (.int .i64 (chk15 n)) ∧ W.grownBy w' none) := fun W g => pcheck15_any n W (hn.kept g)
  by_cases hG : ((1000 : Int) < n.wl ∧ (n.wl : Int) ≤ 65536) ∨ (5000 : Int) < n.tg.size
  · clear hn HRC HPC
    by_cases h1 : (1000 : Int) < n.wl
    · by_cases h2 : (n.wl : Int) ≤ 65536
      · clear hG
        go_enter Try.func3, Try.ntmps3
        unfold Nd.val
        go_wp2_with (first | (go_at_call 7; refine (HL.out _).mono ?_; rintro e w1 ⟨rfl, g1⟩; have HG : Hid _ := grown_trans HG.out g1; clear g1) | fail)
        go_ret
        exact ⟨rfl, grown_below HG.out⟩
      · have h3 : (5000 : Int) < n.tg.size := by omega
        clear hG
        go_enter Try.func3, Try.ntmps3
        unfold Nd.val
        go_wp2_with (first | (go_at_call 7; refine (HL.out _).mono ?_; rintro e w1 ⟨rfl, g1⟩; have HG : Hid _ := grown_trans HG.out g1; clear g1) | fail)
        go_ret
        exact ⟨rfl, grown_below HG.out⟩
    · have h3 : (5000 : Int) < n.tg.size := by omega
      clear hG
      go_enter Try.func3, Try.ntmps3
      unfold Nd.val
      go_wp2_with (first | (go_at_call 7; refine (HL.out _).mono ?_; rintro e w1 ⟨rfl, g1⟩; have HG : Hid _ := grown_trans HG.out g1; clear g1) | fail)
      go_ret
      exact ⟨rfl, grown_below HG.out⟩
  · by_cases hc : chk15 n = 0
    · have hwl := chk_wl hc
      have hw1 : n.wl ≤ 1000 := by omega
      have hw2 : n.tg.size ≤ 5000 := by omega
      have hr := chk_rt hc
      have hlx := enb_max hr hn.row.len_eq
      have hbyt := enb15_byt n
      have HRB : Hid (∀ W, w.grownBy W none → Calls Try.prog 13 #[.agg #[.int .i64 n.kd, .int .i64 n.md, .int .i64 n.ui, .int .i64 n.gi, .int .i64 n.tm, .int .i64 n.ln, .int .i64 n.at_, .int .i64 n.sz, .int .i64 n.st, .slice n.wa n.wl n.wc, .int .i64 n.fr, .int .i64 n.of_, .int .i64 n.tl, .int .i64 n.dr, .int .i64 n.by_, .int .i64 n.pr, .string n.tg, .int .i64 n.dv]] W fun e w' => ∃ a c, e = .returned (.slice a (enb15 n).length c) ∧ Row w' a (enb15 n).length (enb15 n) ∧ W.grownBy w' none) := fun W g => (rbytes15_any n W (hn.kept g) hr).mono fun e w' ⟨a, c, e1, e2, _, e3⟩ => ⟨a, c, e1, e2, e3⟩
      have HSZ : Hid (∀ W, w.grownBy W none → Calls Try.prog 12 #[.agg #[.int .i64 n.kd, .int .i64 n.md, .int .i64 n.ui, .int .i64 n.gi, .int .i64 n.tm, .int .i64 n.ln, .int .i64 n.at_, .int .i64 n.sz, .int .i64 n.st, .slice n.wa n.wl n.wc, .int .i64 n.fr, .int .i64 n.of_, .int .i64 n.tl, .int .i64 n.dr, .int .i64 n.by_, .int .i64 n.pr, .string n.tg, .int .i64 n.dv]] W fun e w' => e = .returned (.int .i64 (enb15 n).length) ∧ W.grownBy w' none) := fun W g => (psize15_any n W (hn.kept g)).mono fun e w' ⟨e1, e2⟩ => ⟨by rw [e1]; unfold sz15; rw [if_pos hc], e2⟩
      have hen : Calls Try.prog 8 #[n.val] (w.alloc (.cells #[.int .i64 n.kd, .int .i64 n.md, .int .i64 n.ui, .int .i64 n.gi, .int .i64 n.tm, .int .i64 n.ln, .int .i64 n.at_, .int .i64 n.sz, .int .i64 n.st, .slice n.wa n.wl n.wc, .int .i64 n.fr, .int .i64 n.of_, .int .i64 n.tl, .int .i64 n.dr, .int .i64 n.by_, .int .i64 n.pr, .string n.tg, .int .i64 n.dv] 24)) fun e w' => ∃ b, e = .returned (.tuple #[.slice (some ⟨b, 0, none⟩) (enb15 n).length (enb15 n).length, .int .i64 0]) ∧ Row w' (some ⟨b, 0, none⟩) (enb15 n).length (enb15 n) ∧ (w.alloc (.cells #[.int .i64 n.kd, .int .i64 n.md, .int .i64 n.ui, .int .i64 n.gi, .int .i64 n.tm, .int .i64 n.ln, .int .i64 n.at_, .int .i64 n.sz, .int .i64 n.st, .slice n.wa n.wl n.wc, .int .i64 n.fr, .int .i64 n.of_, .int .i64 n.tl, .int .i64 n.dr, .int .i64 n.by_, .int .i64 n.pr, .string n.tg, .int .i64 n.dv] 24)).grownBy w' none := (pencode15_any n (w.alloc (.cells #[.int .i64 n.kd, .int .i64 n.md, .int .i64 n.ui, .int .i64 n.gi, .int .i64 n.tm, .int .i64 n.ln, .int .i64 n.at_, .int .i64 n.sz, .int .i64 n.st, .slice n.wa n.wl n.wc, .int .i64 n.fr, .int .i64 n.of_, .int .i64 n.tl, .int .i64 n.dr, .int .i64 n.by_, .int .i64 n.pr, .string n.tg, .int .i64 n.dv] 24)) (hn.kept HG.out)).mono fun e w' h => by
        unfold EnPost15 at h
        rw [if_pos hc] at h
        obtain ⟨b, e1, e2, e3, e4⟩ := h
        exact ⟨b, e1, e2.row (enb15_byt n) (by unfold maxLen; omega), e4⟩
      rw [hc] at HRC HPC
      have hlx2 : (enb15 n).length ≤ 8144 := by omega
      have h1 : ¬ (1000 : Int) < n.wl := by omega
      have h2 : ¬ (5000 : Int) < n.tg.size := by omega
      clear hG hwl hr hc hn hlx
      generalize enb15 n = X at *
      have HBY : Hid _ := hbyt
      clear hbyt
      go_enter Try.func3, Try.ntmps3
      unfold Nd.val at hen ⊢
      go_wp2_with (first | ((with_reducible refine inoHere ?_); refine wpList_loadG (by first | rfl | fail) 24 _ rfl w.heap.size rfl HB.out Try.underlying24 rfl infoI ?_) | fail)
      refine hen.mono ?_
      clear hen
      rintro e W1 ⟨b, rfl, R1, g1⟩
      have HR1 : Hid _ := R1
      have HG : Hid _ := grown_trans HG.out g1; have HB : Hid _ := HB.out.kept g1; have d0 := HB.out.c 0; have d9 := HB.out.c 9; have d16 := HB.out.c 16; clear g1
      clear R1
      go_wp2_with (first | ((with_reducible refine inoHere ?_); refine wpList_loadG (by first | rfl | fail) 24 _ rfl w.heap.size rfl HB.out Try.underlying24 rfl infoI ?_) | (go_at_call 9; refine (HRC.out _ HG.out).mono ?_; rintro e W2 ⟨rfl, g1⟩; have HR2 : Hid _ := HR1.out.grown g1; have HG : Hid _ := grown_trans HG.out g1; have HB : Hid _ := HB.out.kept g1; have d0 := HB.out.c 0; have d9 := HB.out.c 9; have d16 := HB.out.c 16; clear g1) | (go_at_call 11; refine (HPC.out _ HG.out).mono ?_; rintro e W3 ⟨rfl, g1⟩; have HR3 : Hid _ := HR2.out.grown g1; have HG : Hid _ := grown_trans HG.out g1; have HB : Hid _ := HB.out.kept g1; have d0 := HB.out.c 0; have d9 := HB.out.c 9; have d16 := HB.out.c 16; clear g1) | (go_at_call 10; refine (num15_any _ _).mono ?_; rintro e w' ⟨rfl, rfl⟩) | fail)
      obtain ⟨sb, hsb⟩ : ∃ sb, strOfNums X = sb := ⟨_, rfl⟩
      have HSB : Hid _ := hsb
      clear hsb
      have cvE : ∀ W, W3.grownBy W none → (convert 26 9 (.slice (some ⟨b, 0, none⟩) X.length X.length)).run Try.prog W = .ok (.string sb) W := by
        intro W h
        rw [← HSB.out]
        exact conv_row (P := Try.prog) (HR3.out.grown h) X.length 26 9 Try.underlying26 Try.underlying5 Try.underlying9
      have bxE : ∀ W, W3.grownBy W none → Bx W w.heap.size 24 [.int .i64 n.kd, .int .i64 n.md, .int .i64 n.ui, .int .i64 n.gi, .int .i64 n.tm, .int .i64 n.ln, .int .i64 n.at_, .int .i64 n.sz, .int .i64 n.st, .slice n.wa n.wl n.wc, .int .i64 n.fr, .int .i64 n.of_, .int .i64 n.tl, .int .i64 n.dr, .int .i64 n.by_, .int .i64 n.pr, .string n.tg, .int .i64 n.dv] := fun W h => HB.out.kept h
      refine wp_region_held_drew (S := fun W => World.grownBy W3 W none) (by kernel_rfl) ⟨rfl, rfl, rfl, Nat.le_refl _, fun _ _ _ => rfl⟩ (fun hH => ?_)
      refine wpAnyH_take (i := 0) (oi := ⟨some 54, _, _, _, _, _⟩) (v := .slice (some ⟨b, 0, none⟩) X.length X.length) rfl (by kernel_rfl) (by kernel_rfl) (by kernel_rfl) (fun _ _ _ h => h) (Or.inl ⟨by rfl, fun w hSw => by go_simp⟩) hH ?_
      simp only [Act.put, List.setIfInBounds_toArray, List.set_cons_zero, List.set_cons_succ]
      refine wpAnyH_take (i := 1) (oi := ⟨some 55, _, _, _, _, _⟩) (v := .string sb) rfl (by kernel_rfl) (by kernel_rfl) (by kernel_rfl) (fun _ _ _ h => h) (Or.inl ⟨by rfl, fun w hSw => by have cq := cvE w hSw; go_simp⟩) hH ?_
      simp only [Act.put, List.setIfInBounds_toArray, List.set_cons_zero, List.set_cons_succ]
      refine wpAnyH_take (i := 2) (oi := ⟨some 56, _, _, _, _, _⟩) (v := .agg #[.int .i64 n.kd, .int .i64 n.md, .int .i64 n.ui, .int .i64 n.gi, .int .i64 n.tm, .int .i64 n.ln, .int .i64 n.at_, .int .i64 n.sz, .int .i64 n.st, .slice n.wa n.wl n.wc, .int .i64 n.fr, .int .i64 n.of_, .int .i64 n.tl, .int .i64 n.dr, .int .i64 n.by_, .int .i64 n.pr, .string n.tg, .int .i64 n.dv]) rfl (by kernel_rfl) (by kernel_rfl) (by kernel_rfl) (fun _ _ _ h => h) (yields_load15 (by rfl) 24 _ rfl w.heap.size rfl bxE Try.underlying24 rfl infoI) hH ?_
      simp only [Act.put, List.setIfInBounds_toArray, List.set_cons_zero, List.set_cons_succ]
      refine wpAnyH_ready (rs := [3]) (by kernel_rfl) (by simp) ?_
      refine AllReadyH.cons rfl (fun K hK => ?_) AllReadyH.nil
      go_simp
      go_wp2_with (go_at_call 13; refine (HRB.out _ (grown_trans HG.out hH)).mono ?_; rintro e wx ⟨a4, c4, rfl, R4, gx⟩)
      have cx := conv_row (P := Try.prog) R4 c4 26 9 Try.underlying26 Try.underlying5 Try.underlying9
      rw [HSB.out] at cx
      replace hH := grown_trans hH gx
      refine hK.out _ _ hH (fun _ => ?_)
      clear hK K gx R4
      refine wpAnyH_ready (rs := [4]) (by kernel_rfl) (by simp) ?_
      refine AllReadyH.cons rfl (fun K hK => ?_) AllReadyH.nil
      go_simp
      refine hK.out _ _ hH (fun _ => ?_)
      clear hK K cx
      refine wpAnyH_take (i := 5) (oi := ⟨some 59, _, _, _, _, _⟩) (v := .bool true) rfl (by kernel_rfl) (by kernel_rfl) (by kernel_rfl) (fun _ _ _ h => h) (Or.inl ⟨by rfl, fun w hSw => by go_simp⟩) hH ?_
      simp only [Act.put, List.setIfInBounds_toArray, List.set_cons_zero, List.set_cons_succ]
      refine wpAnyH_take (i := 6) (oi := ⟨some 60, _, _, _, _, _⟩) (v := .bool true) rfl (by kernel_rfl) (by kernel_rfl) (by kernel_rfl) (fun _ _ _ h => h) (Or.inl ⟨by rfl, fun w hSw => by go_simp⟩) hH ?_
      simp only [Act.put, List.setIfInBounds_toArray, List.set_cons_zero, List.set_cons_succ]
      refine wpAnyH_take (i := 7) (oi := ⟨some 61, _, _, _, _, _⟩) (v := .agg #[.int .i64 n.kd, .int .i64 n.md, .int .i64 n.ui, .int .i64 n.gi, .int .i64 n.tm, .int .i64 n.ln, .int .i64 n.at_, .int .i64 n.sz, .int .i64 n.st, .slice n.wa n.wl n.wc, .int .i64 n.fr, .int .i64 n.of_, .int .i64 n.tl, .int .i64 n.dr, .int .i64 n.by_, .int .i64 n.pr, .string n.tg, .int .i64 n.dv]) rfl (by kernel_rfl) (by kernel_rfl) (by kernel_rfl) (fun _ _ _ h => h) (yields_load15 (by rfl) 24 _ rfl w.heap.size rfl bxE Try.underlying24 rfl infoI) hH ?_
      simp only [Act.put, List.setIfInBounds_toArray, List.set_cons_zero, List.set_cons_succ]
      refine wpAnyH_take (i := 9) (oi := ⟨some 63, _, _, _, _, _⟩) (v := .slice (some ⟨b, 0, none⟩) X.length X.length) rfl (by kernel_rfl) (by kernel_rfl) (by kernel_rfl) (fun _ _ _ h => h) (Or.inl ⟨by rfl, fun w hSw => by go_simp⟩) hH ?_
      simp only [Act.put, List.setIfInBounds_toArray, List.set_cons_zero, List.set_cons_succ]
      refine wpAnyH_take (i := 10) (oi := ⟨some 64, _, _, _, _, _⟩) (v := .int .i64 X.length) rfl (by kernel_rfl) (by kernel_rfl) (by kernel_rfl) (fun _ _ _ h => h) (Or.inl ⟨by rfl, fun w hSw => by go_simp⟩) hH ?_
      simp only [Act.put, List.setIfInBounds_toArray, List.set_cons_zero, List.set_cons_succ]
      refine wpAnyH_ready (rs := [8]) (by kernel_rfl) (by simp) ?_
      refine AllReadyH.cons rfl (fun K hK => ?_) AllReadyH.nil
      go_simp
      go_wp2_with (go_at_call 12; refine (HSZ.out _ (grown_trans HG.out hH)).mono ?_; rintro e wx ⟨rfl, gx⟩)
      replace hH := grown_trans hH gx
      refine hK.out _ _ hH (fun _ => ?_)
      clear hK K gx
      refine wpAnyH_take (i := 11) (oi := ⟨some 65, _, _, _, _, _⟩) (v := .bool true) rfl (by kernel_rfl) (by kernel_rfl) (by kernel_rfl) (fun _ _ _ h => h) (Or.inl ⟨by rfl, fun w hSw => by go_simp⟩) hH ?_
      simp only [Act.put, List.setIfInBounds_toArray, List.set_cons_zero, List.set_cons_succ]
      refine wpAnyH_take (i := 12) (oi := ⟨some 66, _, _, _, _, _⟩) (v := .bool true) rfl (by kernel_rfl) (by kernel_rfl) (by kernel_rfl) (fun _ _ _ h => h) (Or.inl ⟨by rfl, fun w hSw => by go_simp⟩) hH ?_
      simp only [Act.put, List.setIfInBounds_toArray, List.set_cons_zero, List.set_cons_succ]
      refine wpAnyH_take (i := 13) (oi := ⟨some 67, _, _, _, _, _⟩) (v := .bool true) rfl (by kernel_rfl) (by kernel_rfl) (by kernel_rfl) (fun _ _ _ h => h) (Or.inl ⟨by rfl, fun w hSw => by go_simp⟩) hH ?_
      simp only [Act.put, List.setIfInBounds_toArray, List.set_cons_zero, List.set_cons_succ]
      refine wpAnyH_ready (rs := [14]) (by kernel_rfl) (by simp) ?_
      refine AllReadyH.cons rfl (fun K hK => ?_) AllReadyH.nil
      go_simp
      go_wp2_with (go_at_call 7; refine (HL.out _).mono ?_; rintro e wx ⟨rfl, gx⟩)
      replace hH := grown_trans hH gx
      refine hK.out _ _ hH (fun _ => ?_)
      clear hK K gx
      refine wpAnyH_take (i := 15) (oi := ⟨some 69, _, _, _, _, _⟩) (v := .bool true) rfl (by kernel_rfl) (by kernel_rfl) (by kernel_rfl) (fun _ _ _ h => h) (Or.inl ⟨by rfl, fun w hSw => by go_simp⟩) hH ?_
      simp only [Act.put, List.setIfInBounds_toArray, List.set_cons_zero, List.set_cons_succ]
      refine wpAnyH_ready (rs := [16]) (by kernel_rfl) (by simp) ?_
      refine AllReadyH.cons rfl (fun K hK => ?_) AllReadyH.nil
      go_simp
      refine hK.out _ _ hH (fun _ => ?_)
      clear hK K
      refine wpAnyH_done (by kernel_rfl) ?_ _
      have HG : Hid _ := grown_trans HG.out hH
      go_wp2_with fail
      go_ret
      exact ⟨rfl, grown_below HG.out⟩
    · have hwl : n.wl ≤ 1000 ∨ 65536 < n.wl := by omega
      have h2 : ¬ (5000 : Int) < n.tg.size := by omega
      have HSZ : Hid (∀ W, w.grownBy W none → Calls Try.prog 12 #[.agg #[.int .i64 n.kd, .int .i64 n.md, .int .i64 n.ui, .int .i64 n.gi, .int .i64 n.tm, .int .i64 n.ln, .int .i64 n.at_, .int .i64 n.sz, .int .i64 n.st, .slice n.wa n.wl n.wc, .int .i64 n.fr, .int .i64 n.of_, .int .i64 n.tl, .int .i64 n.dr, .int .i64 n.by_, .int .i64 n.pr, .string n.tg, .int .i64 n.dv]] W fun e w' => e = .returned (.int .i64 0) ∧ W.grownBy w' none) := fun W g => (psize15_any n W (hn.kept g)).mono fun e w' ⟨e1, e2⟩ => ⟨by rw [e1]; unfold sz15; rw [if_neg hc]; rfl, e2⟩
      have hen : Calls Try.prog 8 #[n.val] (w.alloc (.cells #[.int .i64 n.kd, .int .i64 n.md, .int .i64 n.ui, .int .i64 n.gi, .int .i64 n.tm, .int .i64 n.ln, .int .i64 n.at_, .int .i64 n.sz, .int .i64 n.st, .slice n.wa n.wl n.wc, .int .i64 n.fr, .int .i64 n.of_, .int .i64 n.tl, .int .i64 n.dr, .int .i64 n.by_, .int .i64 n.pr, .string n.tg, .int .i64 n.dv] 24)) fun e w' => e = .returned (.tuple #[.slice none 0 0, .int .i64 (chk15 n)]) ∧ (w.alloc (.cells #[.int .i64 n.kd, .int .i64 n.md, .int .i64 n.ui, .int .i64 n.gi, .int .i64 n.tm, .int .i64 n.ln, .int .i64 n.at_, .int .i64 n.sz, .int .i64 n.st, .slice n.wa n.wl n.wc, .int .i64 n.fr, .int .i64 n.of_, .int .i64 n.tl, .int .i64 n.dr, .int .i64 n.by_, .int .i64 n.pr, .string n.tg, .int .i64 n.dv] 24)).grownBy w' none := (pencode15_any n (w.alloc (.cells #[.int .i64 n.kd, .int .i64 n.md, .int .i64 n.ui, .int .i64 n.gi, .int .i64 n.tm, .int .i64 n.ln, .int .i64 n.at_, .int .i64 n.sz, .int .i64 n.st, .slice n.wa n.wl n.wc, .int .i64 n.fr, .int .i64 n.of_, .int .i64 n.tl, .int .i64 n.dr, .int .i64 n.by_, .int .i64 n.pr, .string n.tg, .int .i64 n.dv] 24)) (hn.kept HG.out)).mono fun e w' h => by
        unfold EnPost15 at h
        rw [if_neg hc] at h
        exact h
      have hc2 : (chk15 n != 0) = true := by simpa using hc
      clear hG hn
      generalize chk15 n = C at *
      rcases hwl with hwl | hwl
      · have h1 : ¬ (1000 : Int) < n.wl := by omega
        clear hwl
        go_enter Try.func3, Try.ntmps3
        unfold Nd.val at hen ⊢
        go_wp2_with (first | ((with_reducible refine inoHere ?_); refine wpList_loadG (by first | rfl | fail) 24 _ rfl w.heap.size rfl HB.out Try.underlying24 rfl infoI ?_) | fail)
        refine hen.mono ?_
        clear hen
        rintro e W1 ⟨rfl, g1⟩
        have HG : Hid _ := grown_trans HG.out g1; have HB : Hid _ := HB.out.kept g1; have d0 := HB.out.c 0; have d9 := HB.out.c 9; have d16 := HB.out.c 16; clear g1
        go_wp2_with (first | ((with_reducible refine inoHere ?_); refine wpList_loadG (by first | rfl | fail) 24 _ rfl w.heap.size rfl HB.out Try.underlying24 rfl infoI ?_) | (go_at_call 9; refine (HRC.out _ HG.out).mono ?_; rintro e w1 ⟨rfl, g1⟩; have HG : Hid _ := grown_trans HG.out g1; have HB : Hid _ := HB.out.kept g1; have d0 := HB.out.c 0; have d9 := HB.out.c 9; have d16 := HB.out.c 16; clear g1) | (go_at_call 11; refine (HPC.out _ HG.out).mono ?_; rintro e w1 ⟨rfl, g1⟩; have HG : Hid _ := grown_trans HG.out g1; have HB : Hid _ := HB.out.kept g1; have d0 := HB.out.c 0; have d9 := HB.out.c 9; have d16 := HB.out.c 16; clear g1) | (go_at_call 12; refine (HSZ.out _ HG.out).mono ?_; rintro e w1 ⟨rfl, g1⟩; have HG : Hid _ := grown_trans HG.out g1; have HB : Hid _ := HB.out.kept g1; have d0 := HB.out.c 0; have d9 := HB.out.c 9; have d16 := HB.out.c 16; clear g1) | (go_at_call 10; refine (num15_any _ _).mono ?_; rintro e w' ⟨rfl, rfl⟩) | (go_at_call 7; refine (HL.out _).mono ?_; rintro e w1 ⟨rfl, g1⟩; have HG : Hid _ := grown_trans HG.out g1; clear g1) | fail)
        go_ret
        exact ⟨rfl, grown_below HG.out⟩
      · have h1 : (1000 : Int) < n.wl := by omega
        have h3 : ¬ (n.wl : Int) ≤ 65536 := by omega
        clear hwl
        go_enter Try.func3, Try.ntmps3
        unfold Nd.val at hen ⊢
        go_wp2_with (first | ((with_reducible refine inoHere ?_); refine wpList_loadG (by first | rfl | fail) 24 _ rfl w.heap.size rfl HB.out Try.underlying24 rfl infoI ?_) | fail)
        refine hen.mono ?_
        clear hen
        rintro e W1 ⟨rfl, g1⟩
        have HG : Hid _ := grown_trans HG.out g1; have HB : Hid _ := HB.out.kept g1; have d0 := HB.out.c 0; have d9 := HB.out.c 9; have d16 := HB.out.c 16; clear g1
        go_wp2_with (first | ((with_reducible refine inoHere ?_); refine wpList_loadG (by first | rfl | fail) 24 _ rfl w.heap.size rfl HB.out Try.underlying24 rfl infoI ?_) | (go_at_call 9; refine (HRC.out _ HG.out).mono ?_; rintro e w1 ⟨rfl, g1⟩; have HG : Hid _ := grown_trans HG.out g1; have HB : Hid _ := HB.out.kept g1; have d0 := HB.out.c 0; have d9 := HB.out.c 9; have d16 := HB.out.c 16; clear g1) | (go_at_call 11; refine (HPC.out _ HG.out).mono ?_; rintro e w1 ⟨rfl, g1⟩; have HG : Hid _ := grown_trans HG.out g1; have HB : Hid _ := HB.out.kept g1; have d0 := HB.out.c 0; have d9 := HB.out.c 9; have d16 := HB.out.c 16; clear g1) | (go_at_call 12; refine (HSZ.out _ HG.out).mono ?_; rintro e w1 ⟨rfl, g1⟩; have HG : Hid _ := grown_trans HG.out g1; have HB : Hid _ := HB.out.kept g1; have d0 := HB.out.c 0; have d9 := HB.out.c 9; have d16 := HB.out.c 16; clear g1) | (go_at_call 10; refine (num15_any _ _).mono ?_; rintro e w' ⟨rfl, rfl⟩) | (go_at_call 7; refine (HL.out _).mono ?_; rintro e w1 ⟨rfl, g1⟩; have HG : Hid _ := grown_trans HG.out g1; clear g1) | fail)
        go_ret
        exact ⟨rfl, grown_below HG.out⟩
end Go.Proofs.Ytiafbnpbbjkdbaa
