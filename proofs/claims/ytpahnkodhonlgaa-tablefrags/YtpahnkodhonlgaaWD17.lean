/- A fragment is read: DecodeFrags' closure. -/
import Derived.Test.YtpahnkodhonlgaaVC17
import Derived.Test.YtpahnkodhonlgaaWB17
import Derived.Deep.WholeRow
namespace Go.Proofs.Ytpahnkodhonlgaa
open Go.RowKit
set_option maxRecDepth 100000
set_option linter.unusedSimpArgs false
set_option linter.unusedVariables false
theorem grown_setRow17 (w : World) (g : Nat) (cs : Array Value) : w.grownBy (w.setRow g cs) (some g) := ⟨rfl, rfl, rfl, by simp, fun k hk hne => setRow_other w g k _ (fun e => hne (by rw [e]))⟩
/-- a variable of several cells stored whole -/
theorem wpList_storeB17 {P : Program} {ops : Array Oper} {rest : List Oper} {o : Oper} {a : Act} {w : World} {Q : Exit → Act → World → Prop} (hgd : o.guard = none) (ty : TypeId) (x y : Operand) (ho : o.op = .store ty x y)
    (g : Nat) (cs : List Value) (hx : a.eval x = .pointer (some ⟨g, 0, none⟩)) (hy : a.eval y = .agg cs.toArray) {T : TypeId} {old : List Value} (hb : Bx w g T old) (hi : (P.info? ty).map (·.size) = some cs.toArray.size)
    (hl : old.length = cs.length) (h1 : cs.all (·.oneCell') = true)
    (h : ∀ W', Bx W' g T cs → w.grownBy W' (some g) → wpList P ops Q rest (a.put o.dst undef) W') : wpList P ops Q (o :: rest) a w :=
  wpList_store_row hgd ty x y ho g cs.toArray hx hy T old.toArray hb.blk hi (by simp [hl]) (by rw [List.all_toArray]; exact h1) (h _ ⟨setRow_heap _ _ _ _ _ _ hb.blk⟩ (grown_setRow17 w g cs.toArray))
theorem storeF_here {P : Program} {w : World} {ops : Array Oper} {rest : List Oper} {a : Act} {Q : Exit → Act → World → Prop} {dst : Option Nat} {x y : Operand} {type : TypeId} {pos : String} {after : Array Edge} {guard : Option (Nat × Bool)}
    (h : wpList P ops Q (⟨dst, .store 89 x y, type, pos, after, guard⟩ :: rest) a w) : wpList P ops Q (⟨dst, .store 89 x y, type, pos, after, guard⟩ :: rest) a w := h
theorem infoF17 : (Try.prog.info? 89).map (·.size) = some 3 := by kernel_rfl
/-- the fragment that lies at a place -/
def frT17 (bs : List Int) (p : Nat) : Fr := ⟨le ((bs.drop p).take 4), le ((bs.drop (p + 4)).take 4), le ((bs.drop (p + 8)).take 4)⟩
theorem grown_some17 {a b c : World} {q : Nat} (h : a.grownBy b (some q)) (k : b.grownBy c (some q)) : a.grownBy c (some q) := grown_trans h k
theorem grown_any17 {a b : World} {q : Nat} (h : a.grownBy b none) : a.grownBy b (some q) := ⟨h.os, h.tape, h.output, h.size, fun k hk _ => h.block k hk (by simp)⟩
set_option maxHeartbeats 4000000 in
theorem pdecF17_any (q : Nat) (a : Option Addr) (len cap at_ : Nat) (bs : List Int) (W : World) (hq : Bx W q 78 (rdc17 a len cap at_ false)) (R : Row W a len bs) (hab : ∀ b off, a = some ⟨b, off, none⟩ → 0 < len → b ≠ q) (hat : at_ + 12 ≤ len) :
    Calls Try.prog 51 #[.pointer (some ⟨q, 0, none⟩)] W fun e W' => e = .returned (.agg (frT17 bs at_).cells.toArray) ∧ Bx W' q 78 (rdc17 a len cap (at_ + 12) false) ∧ W.grownBy W' (some q) := by
  have HR : Hid (∀ V, W.grownBy V (some q) → Row V a len bs) := fun V k => by
    refine ⟨R.len_eq, R.le, R.byt, fun h0 => ?_⟩
    obtain ⟨b, off, e, hc⟩ := R.cells h0
    exact ⟨b, off, e, fun i hi => World.grownBy.cell k (hc i hi) (by simp; exact hab b off e h0)⟩
  have hql := hq.lt
  have HN : Hid (∀ (p : Nat) (V : World), p + 4 ≤ len → W.grownBy V (some q) → Bx V q 78 (rdc17 a len cap p false) → Calls Try.prog 41 #[.pointer (some ⟨q, 0, none⟩), .int .i64 4] V fun e V' => e = .returned (.int .i64 (le ((bs.drop p).take 4))) ∧ Bx V' q 78 (rdc17 a len cap (p + 4) false) ∧ V.grownBy V' (some q)) := fun p V hp k h => by
    have h := pnum17_any q a len cap p 4 false bs V h (HR.out V k) (by omega) (by decide)
    simp only [if_pos hp] at h
    exact h.mono fun e V' ⟨⟨h1, h2⟩, h3⟩ => ⟨h1, h2, h3⟩
  have B0 := Bx.new W 89 [.int .i64 0, .int .i64 0, .int .i64 0]
  have g0 := World.grownBy_alloc W (.cells #[.int .i64 0, .int .i64 0, .int .i64 0] 89) none
  have hn1 := HN.out at_ _ (by omega) (grown_any17 g0) (hq.kept g0)
  have HG0 : Hid (W.grownBy (W.alloc (.cells #[.int .i64 0, .int .i64 0, .int .i64 0] 89)) (some q)) := grown_any17 g0
  have HB0 : Hid _ := B0
  clear hq R hab B0 g0
  go_enter Try.func51, Try.ntmps51
  go_wp2_with fail
  refine hn1.mono ?_
  rintro e W1 ⟨rfl, q1, g1⟩
  have HG1 : Hid _ := grown_trans HG0.out g1
  have HB1 : Hid (Bx W1 W.heap.size 89 [.int .i64 0, .int .i64 0, .int .i64 0]) := ⟨by rw [g1.block _ HB0.out.lt (by simp; omega)]; exact HB0.out.blk⟩
  have hn2 := HN.out (at_ + 4) W1 (by omega) HG1.out q1
  clear hn1 q1 g1 HG0 HB0
  go_wp2_with fail
  refine hn2.mono ?_
  rintro e W2 ⟨rfl, q2, g2⟩
  have HG2 : Hid _ := grown_trans HG1.out g2
  have HB2 : Hid (Bx W2 W.heap.size 89 [.int .i64 0, .int .i64 0, .int .i64 0]) := ⟨by rw [g2.block _ HB1.out.lt (by simp; omega)]; exact HB1.out.blk⟩
  have hn3 := HN.out (at_ + 8) W2 (by omega) HG2.out q2
  clear hn2 q2 g2 HG1 HB1
  go_wp2_with fail
  refine hn3.mono ?_
  rintro e W3 ⟨rfl, q3, g3⟩
  have HG3 : Hid _ := grown_trans HG2.out g3
  have HQ3 : Hid _ := q3
  have hB3 : Bx W3 W.heap.size 89 [.int .i64 0, .int .i64 0, .int .i64 0] := ⟨by rw [g3.block _ HB2.out.lt (by simp; omega)]; exact HB2.out.blk⟩
  have HF : Hid (frT17 bs at_ = ⟨le ((bs.drop at_).take 4), le ((bs.drop (at_ + 4)).take 4), le ((bs.drop (at_ + 8)).take 4)⟩) := rfl
  generalize le ((bs.drop at_).take 4) = X0 at *
  generalize le ((bs.drop (at_ + 4)).take 4) = X1 at *
  generalize le ((bs.drop (at_ + 8)).take 4) = X2 at *
  have HNE : Hid (W.heap.size ≠ q) := by show W.heap.size ≠ q; omega
  clear hn3 q3 g3 HG2 HB2 HN hql
  go_wp2_with ((with_reducible refine storeF_here ?_); refine wpList_storeB17 rfl 89 _ _ rfl W.heap.size [.int .i64 X0, .int .i64 X1, .int .i64 X2] rfl rfl hB3 infoF17 rfl rfl ?_; intro W5 b5 g5)
  have d0 := b5.c 0
  have d1 := b5.c 1
  have d2 := b5.c 2
  simp only [List.getElem?_cons_zero, List.getElem?_cons_succ] at d0 d1 d2
  have HQ5 : Bx W5 q 78 (rdc17 a len cap (at_ + 12) false) := ⟨by rw [g5.block q HQ3.out.lt (by simp; exact fun e => HNE.out e.symm)]; exact HQ3.out.blk⟩
  have HG5 : W.grownBy W5 (some q) := ⟨g5.os.trans HG3.out.os, g5.tape.trans HG3.out.tape, g5.output.trans HG3.out.output, Nat.le_trans HG3.out.size g5.size, fun k hk hne => (g5.block k (Nat.lt_of_lt_of_le hk HG3.out.size) (by simp; omega)).trans (HG3.out.block k hk hne)⟩
  rw [HF.out]
  refine bodyPost_ret (v := .agg #[.int .i64 X0, .int .i64 X1, .int .i64 X2]) (by simp [results, Try.results51, Act.put, go_sem, d0, d1, d2]; try rfl) rfl ?_
  exact ⟨rfl, HQ5, HG5⟩
end Go.Proofs.Ytpahnkodhonlgaa
