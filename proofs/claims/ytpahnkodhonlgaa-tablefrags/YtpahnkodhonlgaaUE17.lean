/- The page's examples. -/
import Derived.Test.YtpahnkodhonlgaaUC17
import Derived.Test.YtpahnkodhonlgaaUD17
import Derived.Test.YtpahnkodhonlgaaTD17
import Derived.Lib.SlBytesConst
namespace Go.Proofs.Ytpahnkodhonlgaa
open Go.RowKit Go.Shelf
set_option maxRecDepth 100000
set_option linter.unusedSimpArgs false
set_option linter.unusedVariables false
theorem byt_of17 (l : List Int) (h : l.all (fun x => decide (0 ≤ x) && decide (x ≤ 255)) = true) : Byt l := fun x hx => by
  have := List.all_eq_true.1 h x hx
  simp only [Bool.and_eq_true, decide_eq_true_eq] at this
  exact this
def exA17 (a : Option Addr) : List AtV := [⟨⟨#[107]⟩, a, 1, 1, [118]⟩]
theorem exA_rga (a : Option Addr) : rga17 (exA17 a) = true := by kernel_rfl
theorem exA_enA (a : Option Addr) : enA17 (exA17 a) = [1, 0, 1, 107, 1, 0, 118] := by kernel_rfl
theorem ex_srt : srt17 [5, 0, 5] = [0, 5] := by kernel_rfl
set_option maxHeartbeats 2000000 in
theorem live17_any (w : World) : Calls Try.prog 8 #[] w fun e w' => e = .returned (.bool true) ∧ Below w.heap.size w w' := by
  have hid := Lib.run_convert_bytes_const (P := Try.prog) w 29 5 #[.int .u8 118] 1 1 Try.underlying29 Try.underlying5
  have g0 := World.grownBy_alloc w (.cells #[.int .u8 118] 5 (#[Value.int .u8 118].size, #[Value.int .u8 118].size + 1)) none
  have s0 : (w.alloc (.cells #[.int .u8 118] 5 (#[Value.int .u8 118].size, #[Value.int .u8 118].size + 1))).heap.size = w.heap.size + 1 := by simp
  have B0' : (w.alloc (.cells #[.int .u8 118] 5 (#[Value.int .u8 118].size, #[Value.int .u8 118].size + 1))).cell? ⟨w.heap.size, 0, none⟩ = some (.int .u8 118) := by
    have h := heap_alloc_new w (.cells #[.int .u8 118] 5 (#[Value.int .u8 118].size, #[Value.int .u8 118].size + 1))
    unfold World.cell?
    rw [h]
    rfl
  generalize hWA : w.alloc (.cells #[.int .u8 118] 5 (#[Value.int .u8 118].size, #[Value.int .u8 118].size + 1)) = WA at *
  have B1 := Bx.new WA 43 [.string ⟨#[107]⟩, .slice (some ⟨w.heap.size, 0, none⟩) 1 1]
  have g1 := World.grownBy_alloc WA (.cells #[.string ⟨#[107]⟩, .slice (some ⟨w.heap.size, 0, none⟩) 1 1] 43) none
  rw [s0] at B1
  have K0 : Ats (WA.alloc (.cells #[.string ⟨#[107]⟩, .slice (some ⟨w.heap.size, 0, none⟩) 1 1] 43)) (some ⟨w.heap.size + 1, 0, none⟩) 1 (exA17 (some ⟨w.heap.size, 0, none⟩)) := by
    refine ⟨rfl, by decide, fun _ => ⟨_, _, rfl, fun i X hX => ?_⟩⟩
    match i, hX with
    | 0, hX =>
      injection hX with hX
      subst hX
      refine ⟨B1.c 0, B1.c 1, ⟨rfl, by show 1 ≤ maxLen; unfold maxLen; omega, byt_of17 _ rfl, fun _ => ⟨_, _, rfl, fun i hi => ?_⟩⟩, Nat.le_refl _⟩
      obtain rfl : i = 0 := by have : i < 1 := hi; omega
      exact cell_grown17' B0' g1
  have h1 := pencodeA17_ok _ 1 1 _ _ K0 (exA_rga _)
  rw [exA_enA] at h1
  have HB : Hid (Byt [1, 0, 1, 107, 1, 0, 118]) := byt_of17 _ rfl
  have HG0 : Hid _ := grown_trans g0 g1
  clear B0' B1 K0 g0 g1 hWA
  go_enter Try.func8, Try.ntmps8
  go_wp2_with fail
  refine h1.mono ?_
  rintro e w1 ⟨g, rfl, b1, hg, g2⟩
  have hR := b1.row HB.out (by decide)
  have hst : strOfNums [1, 0, 1, 107, 1, 0, 118] = (⟨#[1, 0, 1, 107, 1, 0, 118]⟩ : ByteArray) := by kernel_rfl
  have hcv : (convert 29 9 (.slice (some ⟨g, 0, none⟩) 7 7)).run Try.prog w1 = .ok (.string (strOfNums [1, 0, 1, 107, 1, 0, 118])) w1 := conv_row (P := Try.prog) hR 7 29 9 Try.underlying29 Try.underlying5 Try.underlying9
  rw [hst] at hcv
  have HG : Hid _ := grown_trans HG0.out g2
  have B3 := Bx.new w1 3 [.int .i64 5, .int .i64 0, .int .i64 5]
  have R3 : IRow (w1.alloc (.cells #[.int .i64 5, .int .i64 0, .int .i64 5] 3)) (some ⟨w1.heap.size, 0, none⟩) 3 [5, 0, 5] := by
    refine ⟨rfl, by decide, fun x hx => ?_, fun _ => ⟨_, _, rfl, fun i hi => ?_⟩⟩
    · simp at hx
      unfold in64
      omega
    · rcases (by omega : i = 0 ∨ i = 1 ∨ i = 2) with rfl | rfl | rfl
      · exact B3.c 0
      · exact B3.c 1
      · exact B3.c 2
  have hI := pids17_any _ 3 3 [5, 0, 5] _ R3 (by decide)
  rw [ex_srt] at hI
  have HG3 : Hid _ := grown_trans HG.out (World.grownBy_alloc w1 (.cells #[.int .i64 5, .int .i64 0, .int .i64 5] 3) none)
  clear h1 b1 hR g2 HG0 HB B3 R3 hst
  go_wp2_with (first | (go_at_call 15; refine (num17_any _ _).mono ?_; rintro e w' ⟨rfl, rfl⟩) | fail)
  refine hI.mono ?_
  rintro e w4 ⟨b4, c4, rfl, R4, _, _, hb⟩
  have hB4 := (grown_below HG3.out).trans (hb.mono HG3.out.size)
  have B5 := Bx.new w4 3 [.int .i64 0, .int .i64 5]
  have R5 : IRow (w4.alloc (.cells #[.int .i64 0, .int .i64 5] 3)) (some ⟨w4.heap.size, 0, none⟩) 2 [0, 5] := by
    refine ⟨rfl, by decide, fun x hx => ?_, fun _ => ⟨_, _, rfl, fun i hi => ?_⟩⟩
    · simp at hx
      unfold in64
      omega
    · rcases (by omega : i = 0 ∨ i = 1) with rfl | rfl
      · exact B5.c 0
      · exact B5.c 1
  have g5 := World.grownBy_alloc w4 (.cells #[.int .i64 0, .int .i64 5] 3) none
  have hS := rsame17_any b4 (some ⟨w4.heap.size, 0, none⟩) 2 c4 2 2 [0, 5] [0, 5] _ (R4.grown g5) R5
  have HB4 : Hid _ := And.intro hB4 g5
  clear hI hb hcv B5 R5 R4 g5 hB4
  go_wp2_with fail
  refine hS.mono ?_
  rintro e w6 ⟨rfl, g6⟩
  clear hS
  go_wp2
  go_ret
  exact ⟨by first | rfl | decide, HB4.out.1.trans ((grown_below (grown_trans HB4.out.2 g6)).mono HB4.out.1.size)⟩
end Go.Proofs.Ytpahnkodhonlgaa
