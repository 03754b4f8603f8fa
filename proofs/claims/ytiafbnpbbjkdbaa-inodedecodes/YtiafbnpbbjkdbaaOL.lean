/- The reader of inodes: a number. -/
import Derived.Test.YtiafbnpbbjkdbaaHD
import Derived.Test.YtiafbnpbbjkdbaaOA
import Derived.Deep.RegionHeld3
namespace Go.Proofs.Ytiafbnpbbjkdbaa
open Go.RowKit
set_option maxRecDepth 100000
set_option linter.unusedSimpArgs false
set_option linter.unusedVariables false
/-- from W to W' the reader's block q and the block b alone have turned -/
structure Ch2 (W W' : World) (q b : Nat) : Prop where
  os : W'.os = W.os
  tape : W'.tape = W.tape
  output : W'.output = W.output
  size : W.heap.size ≤ W'.heap.size
  block : ∀ k, k < W.heap.size → k ≠ q → k ≠ b → W'.heap[k]? = W.heap[k]?
theorem Ch2.bx {W W' : World} {q b g : Nat} {T : TypeId} {cs : List Value} (h : Ch2 W W' q b) (k : Bx W g T cs) (h1 : g ≠ q) (h2 : g ≠ b) : Bx W' g T cs := ⟨by rw [h.block g k.lt h1 h2]; exact k.blk⟩
theorem Ch2.of_grown {W W' : World} {q b : Nat} (h : W.grownBy W' none) : Ch2 W W' q b := ⟨h.os, h.tape, h.output, h.size, fun k hk _ _ => h.block k hk (by simp)⟩
theorem Ch2.of_q {W W' : World} {q b : Nat} (h : W.grownBy W' (some q)) : Ch2 W W' q b := ⟨h.os, h.tape, h.output, h.size, fun k hk hq _ => h.block k hk (by simpa using hq)⟩
theorem Ch2.of_b {W W' : World} {q b : Nat} (h : W.grownBy W' (some b)) : Ch2 W W' q b := ⟨h.os, h.tape, h.output, h.size, fun k hk _ hb => h.block k hk (by simpa using hb)⟩
theorem Ch2.trans {a b c : World} {q k : Nat} (h : Ch2 a b q k) (l : Ch2 b c q k) : Ch2 a c q k := ⟨l.os.trans h.os, l.tape.trans h.tape, l.output.trans h.output, Nat.le_trans h.size l.size, fun j hj h1 h2 => (l.block j (Nat.lt_of_lt_of_le hj h.size) h1 h2).trans (h.block j hj h1 h2)⟩
/-- the reader's variable -/
def rdc (a : Option Addr) (len cap : Nat) (at_ : Nat) (bad : Bool) : List Value := [.slice a len cap, .int .i64 (at_ : Int), .bool bad]
set_option maxHeartbeats 2000000 in
/-- a number is read into a cell, or something is wrong -/
theorem rnum15 (q b k : Nat) (T : TypeId) (cs : List Value) (a : Option Addr) (len cap at_ m : Nat) (bad : Bool) (bs : List Int) (x : Int) (W : World) (hq : Bx W q 60 (rdc a len cap at_ bad)) (hb : Bx W b T cs) (hx : cs[k]? = some (.int .i64 x)) (hne : b ≠ q) (R : Row W a len bs) (hat : at_ ≤ len) (hm : m = 2 ∨ m = 4 ∨ m = 8) :
    Calls Try.prog 30 #[.pointer (some ⟨q, 0, none⟩), .pointer (some ⟨b, k, none⟩), .int .i64 m] W fun e W' => e = .returned (.tuple #[]) ∧
      (if at_ + m ≤ len then Bx W' q 60 (rdc a len cap (at_ + m) bad) ∧ Bx W' b T (cs.set k (.int .i64 (IntKind.i64.wrap (le ((bs.drop at_).take m))))) ∧ Ch2 W W' q b
       else Bx W' q 60 (rdc a len cap at_ true) ∧ Bx W' b T cs ∧ Ch2 W W' q b) := by
  have hlm := R.le
  unfold maxLen at hlm
  have hG := fun V (hV : W.grownBy V none) => get_any a len cap bs at_ m V (R.grown hV) (by omega) (by omega)
  have hW : isW (m : Int) = true := by rcases hm with rfl | rfl | rfl <;> rfl
  have q0 := hq.c 0
  have q1 := hq.c 1
  have q2 := hq.c 2
  have f1 := hq.f 1
  have f2 := hq.f 2
  have b0 := hb.c k
  rw [hx] at b0
  have g0 := hb.f k
  simp only [rdc, List.getElem?_cons_zero, List.getElem?_cons_succ] at q0 q1 q2
  have HN : Hid (b ≠ q ∧ q ≠ b) := ⟨hne, Ne.symm hne⟩
  have HQ : Hid (Bx W q 60 (rdc a len cap at_ bad) ∧ Bx W b T cs) := ⟨hq, hb⟩
  have hmm : (m : Int) ≤ 8 := by omega
  by_cases hin : at_ + m ≤ len
  · simp only [if_pos hin]
    have e1 : getV bs (at_ : Int) (m : Int) = le ((bs.drop at_).take m) := getV_in hW (by rw [R.len_eq]; exact hin)
    have e2 : getE len (at_ : Int) (m : Int) = 0 := getE_in hW hin
    rw [e1, e2] at hG
    have hwr : IntKind.i64.wrap ((at_ : Int) + (m : Int)) = ((at_ + m : Nat) : Int) := by rw [IntKind.wrap_i64]; omega
    generalize le ((bs.drop at_).take m) = v at *
    have H9 : Hid _ := hwr
    clear e1 e2 hq hb hx R hW hne
    have hQ : ∀ n, Calls Try.prog 44 #[.slice a len cap, .int .i64 (at_ : Int), .int .i64 (m : Int)] (W.drewN n) fun e w'' => e = .returned (.tuple #[.int .u64 v, .int .i64 0]) ∧ ∃ m, w'' = W.drewN m := fun n => (hG (W.drewN n) ⟨rfl, rfl, rfl, Nat.le_refl _, fun _ _ _ => rfl⟩).mono fun e w' h => ⟨h.1, n, h.2.symm⟩
    clear hG
    have hn1 := HN.out.1
    have hn2 := HN.out.2
    go_enter Try.func30, Try.ntmps30
    go_wp2_with fail
    go_quiet (first | (go_at_call 44; exact hQ _) | fail)
    go_wp2
    have HK : Hid _ := HQ.out
    have G0 : W.grownBy (W.drewN nq) none := ⟨rfl, rfl, rfl, Nat.le_refl _, fun _ _ _ => rfl⟩
    have A1 := (HQ.out.1.kept G0)
    have A2 := (HQ.out.2.kept G0)
    have G1 := grown_set (W.drewN nq) b k (.int .i64 (IntKind.i64.wrap v))
    have B1 : Bx ((W.drewN nq).setCell ⟨b, k, none⟩ (.int .i64 (IntKind.i64.wrap v))) q 60 (rdc a len cap at_ bad) := ⟨by rw [G1.block q A1.lt (by simp; exact HN.out.2)]; exact A1.blk⟩
    have B2 := A2.set k (.int .i64 (IntKind.i64.wrap v))
    have G2 := grown_set ((W.drewN nq).setCell ⟨b, k, none⟩ (.int .i64 (IntKind.i64.wrap v))) q 1 (.int .i64 ((at_ + m : Nat) : Int))
    have C1 := B1.set 1 (.int .i64 ((at_ + m : Nat) : Int))
    have C2 : Bx (((W.drewN nq).setCell ⟨b, k, none⟩ (.int .i64 (IntKind.i64.wrap v))).setCell ⟨q, 1, none⟩ (.int .i64 ((at_ + m : Nat) : Int))) b T (cs.set k (.int .i64 (IntKind.i64.wrap v))) := ⟨by rw [G2.block b B2.lt (by simp; exact HN.out.1)]; exact B2.blk⟩
    have D : Ch2 W (((W.drewN nq).setCell ⟨b, k, none⟩ (.int .i64 (IntKind.i64.wrap v))).setCell ⟨q, 1, none⟩ (.int .i64 ((at_ + m : Nat) : Int))) q b := ((Ch2.of_grown G0).trans (Ch2.of_b G1)).trans (Ch2.of_q G2)
    refine bodyPost_end (results_none rfl _ _ _) rfl ⟨rfl, ?_⟩
    have ec : ((at_ + m : Nat) : Int) = (at_ : Int) + (m : Int) := by omega
    have ew : IntKind.i64.wrap v = wrap64 v := by rw [IntKind.wrap_i64]; unfold wrap64; rfl
    rw [← ec, ← ew]
    exact ⟨C1, C2, D⟩
  · simp only [if_neg hin]
    have e1 : getE len (at_ : Int) (m : Int) = 9 := getE_out hW (by simp [inB]; omega)
    rw [e1] at hG
    have hQ : ∀ n, Calls Try.prog 44 #[.slice a len cap, .int .i64 (at_ : Int), .int .i64 (m : Int)] (W.drewN n) fun e w'' => e = .returned (.tuple #[.int .u64 (getV bs (at_ : Int) (m : Int)), .int .i64 9]) ∧ ∃ m, w'' = W.drewN m := fun n => (hG (W.drewN n) ⟨rfl, rfl, rfl, Nat.le_refl _, fun _ _ _ => rfl⟩).mono fun e w' h => ⟨h.1, n, h.2.symm⟩
    generalize getV bs (at_ : Int) (m : Int) = v at *
    clear hG e1 hq hb hx R hW hne
    go_enter Try.func30, Try.ntmps30
    go_wp2_with fail
    go_quiet (first | (go_at_call 44; exact hQ _) | fail)
    go_wp2
    have G0 : W.grownBy (W.drewN nq) none := ⟨rfl, rfl, rfl, Nat.le_refl _, fun _ _ _ => rfl⟩
    have A1 := (HQ.out.1.kept G0)
    have A2 := (HQ.out.2.kept G0)
    have G1 := grown_set (W.drewN nq) q 2 (.bool true)
    have B1 := A1.set 2 (.bool true)
    have B2 : Bx ((W.drewN nq).setCell ⟨q, 2, none⟩ (.bool true)) b T cs := ⟨by rw [G1.block b A2.lt (by simp; exact HN.out.1)]; exact A2.blk⟩
    exact bodyPost_ret (results_none rfl _ _ _) rfl ⟨rfl, B1, B2, (Ch2.of_grown G0).trans (Ch2.of_q G1)⟩
end Go.Proofs.Ytiafbnpbbjkdbaa
