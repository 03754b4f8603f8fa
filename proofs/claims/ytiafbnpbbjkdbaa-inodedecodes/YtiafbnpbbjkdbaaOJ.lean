/- The page's example (live), num; Plain. -/
import Derived.Test.YtiafbnpbbjkdbaaOI
namespace Go.Proofs.Ytiafbnpbbjkdbaa
open Go.RowKit
set_option maxRecDepth 100000
set_option linter.unusedSimpArgs false
set_option linter.unusedVariables false
theorem num15_any (x : Int) (w : World) : Calls Try.prog 10 #[.int .i64 x] w fun e w' => e = .returned (.int .i64 x) ∧ w = w' := by
  go_enter Try.func10, Try.ntmps10
  go_wp2
  go_ret
  exact ⟨rfl, rfl⟩
def nx15 : Nd := ⟨5, 384, 0, 0, 0, 1, -1, 0, 0, none, 0, 0, [], 0, 0, 0, 0, 0, 0, ⟨#[]⟩, 5⟩
theorem nx_ok (w : World) : nx15.ok w := by
  refine ⟨by simp [nx15, in64], ⟨rfl, Nat.zero_le _, fun x hx => by simp [nx15] at hx, fun h => absurd h (by decide)⟩, ⟨Nat.le_refl _, Nat.zero_le _⟩, Nat.zero_le _⟩
theorem nx_chk : chk15 nx15 = 0 := by kernel_rfl
theorem nx_enb : enb15 nx15 = [5, 0, 128, 1, 0, 0, 0, 0, 0, 0, 0, 0, 1, 0, 0, 0, 255, 255, 255, 255, 5, 0, 0, 0] := by kernel_rfl
theorem live15_any (w : World) : Calls Try.prog 7 #[] w fun e w' => e = .returned (.bool true) ∧ w.grownBy w' none := by
  have h1 := pencode15_any nx15 w (nx_ok w)
  have hE : Hid (∀ e w', EnPost15 w nx15 e w' → ∃ b, e = Ending.returned (.tuple #[.slice (some ⟨b, 0, none⟩) 24 24, .int .i64 0]) ∧ Blk w' b (bv [5, 0, 128, 1, 0, 0, 0, 0, 0, 0, 0, 0, 1, 0, 0, 0, 255, 255, 255, 255, 5, 0, 0, 0]) ∧ w.grownBy w' none) := fun e w' h => by
    unfold EnPost15 at h
    rw [if_pos nx_chk, nx_enb] at h
    obtain ⟨b, a1, a2, _, a3⟩ := h
    exact ⟨b, a1, a2, a3⟩
  have HB : Hid (Byt [5, 0, 128, 1, 0, 0, 0, 0, 0, 0, 0, 0, 1, 0, 0, 0, 255, 255, 255, 255, 5, 0, 0, 0]) := byt_of _ (by decide)
  generalize EnPost15 w nx15 = Q at *
  simp only [nx15, Nd.val] at h1
  go_enter Try.func7, Try.ntmps7
  go_wp2_with fail
  refine h1.mono ?_
  intro e w1 hq
  obtain ⟨b, rfl, b1, g1⟩ := hE.out e w1 hq
  have hR := b1.row HB.out (by decide)
  have hcv : (convert 26 9 (.slice (some ⟨b, 0, none⟩) 24 24)).run Try.prog w1 = .ok (.string (strOfNums [5, 0, 128, 1, 0, 0, 0, 0, 0, 0, 0, 0, 1, 0, 0, 0, 255, 255, 255, 255, 5, 0, 0, 0])) w1 := conv_row (P := Try.prog) hR 24 26 9 Try.underlying26 Try.underlying5 Try.underlying9
  have HG : Hid _ := g1
  clear h1 b1 hR g1 HB hE hq
  go_wp2_with fail
  refine (num15_any 0 w1).mono ?_
  rintro e w' ⟨rfl, rfl⟩
  have hst : strOfNums [5, 0, 128, 1, 0, 0, 0, 0, 0, 0, 0, 0, 1, 0, 0, 0, 255, 255, 255, 255, 5, 0, 0, 0] = (⟨#[5, 0, 128, 1, 0, 0, 0, 0, 0, 0, 0, 0, 1, 0, 0, 0, 255, 255, 255, 255, 5, 0, 0, 0]⟩ : ByteArray) := by kernel_rfl
  rw [hst] at hcv
  go_wp2
  go_ret
  exact ⟨by first | rfl | decide, HG.out⟩
/-- how many bytes of a file the i-th block tells -/
def pln15 (n : Nd) (log i : Int) : Int × Int :=
  if n.kd = 1 ∧ chk15 n = 0 ∧ inn 12 20 log = true then (if inn 0 (n.wl - 1) i = true then (if n.sz ≤ i * 2 ^ log.toNat then (0, 9) else (min (2 ^ log.toNat) (n.sz - i * 2 ^ log.toNat), 0)) else (0, 9)) else (0, 1)
theorem shl15 {lg i : Int} (h : inn 12 20 lg = true) (h0 : 0 ≤ i) (h1 : i ≤ 65536) (w : World) : (Op.shift BinOp.shl IntKind.i64 i IntKind.i64 lg).run Try.prog w = .ok (.int .i64 (i * 2 ^ lg.toNat)) w := by
  have h' := inn_iff.1 h
  rcases (by omega : lg = 12 ∨ lg = 13 ∨ lg = 14 ∨ lg = 15 ∨ lg = 16 ∨ lg = 17 ∨ lg = 18 ∨ lg = 19 ∨ lg = 20) with rfl | rfl | rfl | rfl | rfl | rfl | rfl | rfl | rfl
  all_goals (simp [Op.shift, go_sem]; try (rw [IntKind.wrap_i64]; omega))
set_option maxHeartbeats 4000000 in
theorem pplain15_any (n : Nd) (log i : Int) (w : World) (hn : n.ok w) (hlg : in64 log) (hi : in64 i) :
    Calls Try.prog 17 #[n.val, .int .i64 log, .int .i64 i] w fun e w' => e = .returned (.tuple #[.int .i64 (pln15 n log i).1, .int .i64 (pln15 n log i).2]) ∧ w.grownBy w' none := by
  have HB : Hid (Bx (w.alloc (.cells #[.int .i64 n.kd, .int .i64 n.md, .int .i64 n.ui, .int .i64 n.gi, .int .i64 n.tm, .int .i64 n.ln, .int .i64 n.at_, .int .i64 n.sz, .int .i64 n.st, .slice n.wa n.wl n.wc, .int .i64 n.fr, .int .i64 n.of_, .int .i64 n.tl, .int .i64 n.dr, .int .i64 n.by_, .int .i64 n.pr, .string n.tg, .int .i64 n.dv] 24)) w.heap.size 24 [.int .i64 n.kd, .int .i64 n.md, .int .i64 n.ui, .int .i64 n.gi, .int .i64 n.tm, .int .i64 n.ln, .int .i64 n.at_, .int .i64 n.sz, .int .i64 n.st, .slice n.wa n.wl n.wc, .int .i64 n.fr, .int .i64 n.of_, .int .i64 n.tl, .int .i64 n.dr, .int .i64 n.by_, .int .i64 n.pr, .string n.tg, .int .i64 n.dv]) := Bx.new w _ _
  have HG : Hid (w.grownBy (w.alloc (.cells #[.int .i64 n.kd, .int .i64 n.md, .int .i64 n.ui, .int .i64 n.gi, .int .i64 n.tm, .int .i64 n.ln, .int .i64 n.at_, .int .i64 n.sz, .int .i64 n.st, .slice n.wa n.wl n.wc, .int .i64 n.fr, .int .i64 n.of_, .int .i64 n.tl, .int .i64 n.dr, .int .i64 n.by_, .int .i64 n.pr, .string n.tg, .int .i64 n.dv] 24)) none) := World.grownBy_alloc _ _ _
  have HC : Hid (∀ W, w.grownBy W none → Calls Try.prog 11 #[.agg #[.int .i64 n.kd, .int .i64 n.md, .int .i64 n.ui, .int .i64 n.gi, .int .i64 n.tm, .int .i64 n.ln, .int .i64 n.at_, .int .i64 n.sz, .int .i64 n.st, .slice n.wa n.wl n.wc, .int .i64 n.fr, .int .i64 n.of_, .int .i64 n.tl, .int .i64 n.dr, .int .i64 n.by_, .int .i64 n.pr, .string n.tg, .int .i64 n.dv]] W fun e w' => e = .returned (.int .i64 (chk15 n)) ∧ W.grownBy w' none) := fun W g => pcheck15_any n W (hn.kept g)
  by_cases hk : n.kd = 1
  · have HK : Hid (n.kd = 1) := hk
    have hk1 : (n.kd != 1) = false := by rw [hk]; rfl
    by_cases hc : chk15 n = 0
    · have hR : Hid (Rt15 n) := chk_rt hc
      rw [hc] at HC
      cases hL : inn 12 20 log with
      | false =>
        have e : pln15 n log i = (0, 1) := by unfold pln15; rw [if_neg (fun h => by rw [hL] at h; exact absurd h.2.2 (by decide))]
        rw [e]
        clear e hn hc hR hk
        go_enter Try.func17, Try.ntmps17
        unfold Nd.val
        go_wp2_with (first | ((with_reducible refine inoHere ?_); refine wpList_loadG (by first | rfl | fail) 24 _ rfl w.heap.size rfl HB.out Try.underlying24 rfl infoI ?_) | (go_at_call 11; refine (HC.out _ HG.out).mono ?_; rintro e w1 ⟨rfl, g1⟩; have HG1 : Hid _ := grown_trans HG.out g1; clear g1) | (go_at_call 25; refine (between_any _ _ _ _).mono ?_; rintro e w' ⟨rfl, rfl⟩))
        go_ret2
        exact ⟨rfl, HG1.out⟩
      | true =>
        have hw6 := (hR.out.k1 hk).2.2.2.2.2.1
        have hz := (hR.out.k1 hk).1
        cases hI : inn 0 (n.wl - 1) i with
        | false =>
          have e : pln15 n log i = (0, 9) := by unfold pln15; rw [if_pos ⟨hk, hc, hL⟩, if_neg (by rw [hI]; decide)]
          rw [e]
          clear e hn hc hR hz hk
          go_enter Try.func17, Try.ntmps17
          unfold Nd.val
          go_wp2_with (first | ((with_reducible refine inoHere ?_); refine wpList_loadG (by first | rfl | fail) 24 _ rfl w.heap.size rfl HB.out Try.underlying24 rfl infoI ?_) | (go_at_call 11; refine (HC.out _ HG.out).mono ?_; rintro e w1 ⟨rfl, g1⟩; have HG1 : Hid _ := grown_trans HG.out g1; have d9 := (HB.out.kept g1).c 9; clear g1) | (go_at_call 25; refine (between_any _ _ _ _).mono ?_; rintro e w' ⟨rfl, rfl⟩))
          go_ret2
          exact ⟨rfl, HG1.out⟩
        | true =>
          have hi2 := inn_iff.1 hI
          have hsh := fun W => shl15 (lg := log) (i := i) hL hi2.1 (by omega) W
          have hs1 := fun W => shl15 (lg := log) (i := 1) hL (by decide) (by decide) W
          simp only [Int.one_mul] at hs1
          obtain ⟨T, hT⟩ : ∃ T : Int, T = 2 ^ log.toNat := ⟨_, rfl⟩
          have hT0 : 0 ≤ i * T := Int.mul_nonneg hi2.1 (by rw [hT]; exact Int.pow_nonneg (by decide))
          by_cases hf : n.sz ≤ i * T
          · have e : pln15 n log i = (0, 9) := by unfold pln15; rw [if_pos ⟨hk, hc, hL⟩, if_pos hI, if_pos (by rw [← hT]; exact hf)]
            rw [e]
            rw [← hT] at hsh hs1
            generalize hF : i * T = f at *
            clear e hn hc hR hi2 hT hF hs1 hk
            go_enter Try.func17, Try.ntmps17
            unfold Nd.val
            go_wp2_with (first | ((with_reducible refine inoHere ?_); refine wpList_loadG (by first | rfl | fail) 24 _ rfl w.heap.size rfl HB.out Try.underlying24 rfl infoI ?_) | (go_at_call 11; refine (HC.out _ HG.out).mono ?_; rintro e w1 ⟨rfl, g1⟩; have HG1 : Hid _ := grown_trans HG.out g1; have d9 := (HB.out.kept g1).c 9; have d7 := (HB.out.kept g1).c 7; clear g1) | (go_at_call 25; refine (between_any _ _ _ _).mono ?_; rintro e w' ⟨rfl, rfl⟩))
            go_ret2
            exact ⟨rfl, HG1.out⟩
          · have e : pln15 n log i = (min T (n.sz - i * T), 0) := by unfold pln15; rw [if_pos ⟨hk, hc, hL⟩, if_pos hI, if_neg (by rw [← hT]; exact hf), ← hT]
            rw [e]
            rw [← hT] at hsh hs1
            generalize hF : i * T = f at *
            have hwr : IntKind.i64.wrap (n.sz - f) = n.sz - f := by rw [IntKind.wrap_i64]; omega
            clear e hn hc hR hi2 hT hF hk
            go_enter Try.func17, Try.ntmps17
            unfold Nd.val
            go_wp2_with (first | ((with_reducible refine inoHere ?_); refine wpList_loadG (by first | rfl | fail) 24 _ rfl w.heap.size rfl HB.out Try.underlying24 rfl infoI ?_) | (go_at_call 11; refine (HC.out _ HG.out).mono ?_; rintro e w1 ⟨rfl, g1⟩; have HG1 : Hid _ := grown_trans HG.out g1; have d9 := (HB.out.kept g1).c 9; have d7 := (HB.out.kept g1).c 7; clear g1) | (go_at_call 25; refine (between_any _ _ _ _).mono ?_; rintro e w' ⟨rfl, rfl⟩))
            go_quiet (fail)
            go_wp2
            go_ret2
            exact ⟨rfl, grown_trans HG1.out ⟨rfl, rfl, rfl, Nat.le_refl _, fun _ _ _ => rfl⟩⟩
    · have e : pln15 n log i = (0, 1) := by unfold pln15; rw [if_neg (fun h => hc h.2.1)]
      have hc2 : (chk15 n != 0) = true := by simpa using hc
      rw [e]
      clear e hn hc hk
      generalize chk15 n = c at *
      go_enter Try.func17, Try.ntmps17
      unfold Nd.val
      go_wp2_with (first | ((with_reducible refine inoHere ?_); refine wpList_loadG (by first | rfl | fail) 24 _ rfl w.heap.size rfl HB.out Try.underlying24 rfl infoI ?_) | (go_at_call 11; refine (HC.out _ HG.out).mono ?_; rintro e w1 ⟨rfl, g1⟩; have HG1 : Hid _ := grown_trans HG.out g1; clear g1) | (go_at_call 25; refine (between_any _ _ _ _).mono ?_; rintro e w' ⟨rfl, rfl⟩))
      go_ret2
      exact ⟨rfl, HG1.out⟩
  · have e : pln15 n log i = (0, 1) := by unfold pln15; rw [if_neg (fun h => hk h.1)]
    have hk2 : (n.kd != 1) = true := by simpa using hk
    rw [e]
    clear e hn hk HC
    go_enter Try.func17, Try.ntmps17
    unfold Nd.val
    go_wp2
    go_ret2
    exact ⟨rfl, HG.out⟩
end Go.Proofs.Ytiafbnpbbjkdbaa
