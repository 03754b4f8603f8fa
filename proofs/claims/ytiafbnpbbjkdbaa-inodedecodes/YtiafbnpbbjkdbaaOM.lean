/- The reader of inodes: a number that may be below 0. -/
import Derived.Test.YtiafbnpbbjkdbaaOL
namespace Go.Proofs.Ytiafbnpbbjkdbaa
open Go.RowKit
set_option maxRecDepth 100000
set_option linter.unusedSimpArgs false
set_option linter.unusedVariables false
theorem Ch2.low {W W1 W2 : World} {q c b : Nat} (h : Ch2 W1 W2 q c) (g : W.grownBy W1 none) (hc : W.heap.size ≤ c) : Ch2 W W2 q b :=
  ⟨h.os.trans g.os, h.tape.trans g.tape, h.output.trans g.output, Nat.le_trans g.size h.size, fun k hk h1 h2 => (h.block k (Nat.lt_of_lt_of_le hk g.size) h1 (by omega)).trans (g.block k hk (by simp))⟩
theorem le4_bd {bs : List Int} (hb : Byt bs) (at_ m : Nat) (hm : m ≤ 4) : 0 ≤ le ((bs.drop at_).take m) ∧ le ((bs.drop at_).take m) < 4294967296 := by
  have h := (hb.drop at_).take m
  refine ⟨le_nonneg h, ?_⟩
  have := le_lt_of h 4 (by simp; omega)
  simpa using this
def sg15 (v : Int) : Int := IntKind.i32.wrap v
theorem sg15_bd (v : Int) : -2147483648 ≤ sg15 v ∧ sg15 v ≤ 2147483647 := by
  unfold sg15
  rw [IntKind.wrap_i32]
  omega
set_option maxHeartbeats 2000000 in
theorem rsigned15 (q b k : Nat) (T : TypeId) (cs : List Value) (a : Option Addr) (len cap at_ : Nat) (bad : Bool) (bs : List Int) (W : World) (hq : Bx W q 60 (rdc a len cap at_ bad)) (hb : Bx W b T cs) (hx : cs[k]? = some (.int .i64 0)) (hne : b ≠ q) (R : Row W a len bs) (hat : at_ ≤ len) :
    Calls Try.prog 35 #[.pointer (some ⟨b, k, none⟩), .func (.func 30) #[.pointer (some ⟨q, 0, none⟩)] #[]] W fun e W' => e = .returned (.tuple #[]) ∧
      (if at_ + 4 ≤ len then Bx W' q 60 (rdc a len cap (at_ + 4) bad) ∧ Bx W' b T (cs.set k (.int .i64 (sg15 (le ((bs.drop at_).take 4))))) ∧ Ch2 W W' q b
       else Bx W' q 60 (rdc a len cap at_ true) ∧ Bx W' b T (cs.set k (.int .i64 0)) ∧ Ch2 W W' q b) := by
  have hB : Bx (W.alloc (.cells #[.int .i64 0] 3)) W.heap.size 3 [.int .i64 0] := Bx.new W _ _
  have hG : W.grownBy (W.alloc (.cells #[.int .i64 0] 3)) none := World.grownBy_alloc _ _ _
  have h1 := rnum15 q W.heap.size 0 3 [.int .i64 0] a len cap at_ 4 bad bs 0 _ (hq.kept hG) hB rfl (by have := hq.lt; omega) (R.grown hG) hat (by omega)
  have hbd := le4_bd R.byt at_ 4 (by decide)
  have b0 := hb.c k
  rw [hx] at b0
  have HN : Hid (b ≠ q ∧ W.heap.size ≠ b ∧ b ≠ W.heap.size) := ⟨hne, by have := hb.lt; omega, by have := hb.lt; omega⟩
  have HB : Hid _ := hb
  have HG : Hid _ := hG
  have hbl := hb.lt
  clear hB hG hq hb R hne hx
  go_enter Try.func35, Try.ntmps35
  go_wp2_with fail
  generalize W.alloc (.cells #[.int .i64 0] 3) = W1 at *
  refine h1.mono ?_
  clear h1
  rintro e W2 ⟨rfl, h2⟩
  by_cases hin : at_ + 4 ≤ len
  · rw [if_pos hin] at h2
    simp only [if_pos hin]
    obtain ⟨v, hv0⟩ : ∃ v, v = le ((bs.drop at_).take 4) := ⟨_, rfl⟩
    obtain ⟨y, hy0⟩ : ∃ y, y = sg15 v := ⟨_, rfl⟩
    rw [← hv0] at h2 hbd
    have HV0 : Hid _ := hv0
    have HY0 : Hid _ := hy0
    obtain ⟨k1, k2, k3⟩ := h2
    have hv : IntKind.i64.wrap v = v := by rw [IntKind.wrap_i64]; omega
    rw [hv] at k2
    have d0 := k2.c 0
    have C : Ch2 W W2 q b := k3.low HG.out (Nat.le_refl _)
    have hb2 : Bx W2 b _ cs := k3.bx (HB.out.kept HG.out) HN.out.1 HN.out.2.2
    have e1 := hb2.c k
    have f1 := hb2.f k
    have HQ : Hid _ := And.intro k1 (And.intro hb2 C)
    have hsb := sg15_bd v
    have hy2 : IntKind.i32.wrap v = y := hy0.symm
    rw [← hy0] at hsb
    have hy3 : IntKind.i64.wrap y = y := by rw [IntKind.wrap_i64]; omega
    rw [show cs[k]? = some (.int .i64 0) from by rw [← HB.out.c k]; exact b0] at e1
    clear k1 k2 k3 hb2 C HG hbd hv0 hy0 hsb
    go_wp2
    have G := grown_set W2 b k (.int .i64 y)
    refine bodyPost_end (results_none rfl _ _ _) rfl ⟨rfl, ?_⟩
    rw [← HV0.out, ← HY0.out]
    exact ⟨⟨by rw [G.block q HQ.out.1.lt (by simp; exact Ne.symm HN.out.1)]; exact HQ.out.1.blk⟩, HQ.out.2.1.set k (.int .i64 y), HQ.out.2.2.trans (Ch2.of_b G)⟩
  · rw [if_neg hin] at h2
    simp only [if_neg hin]
    obtain ⟨k1, k2, k3⟩ := h2
    have d0 := k2.c 0
    have C : Ch2 W W2 q b := k3.low HG.out (Nat.le_refl _)
    have hb2 : Bx W2 b _ cs := k3.bx (HB.out.kept HG.out) HN.out.1 HN.out.2.2
    have e1 := hb2.c k
    have f1 := hb2.f k
    have HQ : Hid _ := And.intro k1 (And.intro hb2 C)
    rw [show cs[k]? = some (.int .i64 0) from by rw [← HB.out.c k]; exact b0] at e1
    clear k1 k2 k3 hb2 C HG hbd
    go_wp2
    have G := grown_set W2 b k (.int .i64 0)
    exact bodyPost_end (results_none rfl _ _ _) rfl ⟨rfl, ⟨by rw [G.block q HQ.out.1.lt (by simp; exact Ne.symm HN.out.1)]; exact HQ.out.1.blk⟩, HQ.out.2.1.set k (.int .i64 0), HQ.out.2.2.trans (Ch2.of_b G)⟩
end Go.Proofs.Ytiafbnpbbjkdbaa
