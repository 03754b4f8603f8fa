/- The document's bytes: a number of 4 bytes; rows that wait to be appended. -/
import Derived.Test.YtiafbnpbbjkdbaaOI
import Derived.Deep.RegionHeld3
import Derived.Maps.AppendAt
namespace Go.Proofs.Ytiafbnpbbjkdbaa
open Go.RowKit
set_option maxRecDepth 100000
set_option linter.unusedSimpArgs false
set_option linter.unusedVariables false
/-- a row that a call made, not yet appended: its block is there, and is not v's own -/
structure Pd15 (V : World) (a : Option Addr) (m c : Nat) (xs : List Int) (v : Value) : Prop where
  row : Row V a m xs
  nil : a = none → c = 0
  ap : ∀ b off, a = some ⟨b, off, none⟩ → b < V.heap.size ∧ some b ≠ v.ownBlock
theorem Pd15.kept {V V' : World} {a : Option Addr} {m c : Nat} {xs : List Int} {v : Value} (h : Pd15 V a m c xs v) (k : V.grownBy V' none) : Pd15 V' a m c xs v := ⟨h.row.grown k, h.nil, fun b off e => ⟨Nat.lt_of_lt_of_le (h.ap b off e).1 k.size, (h.ap b off e).2⟩⟩
theorem Pd15.app {V V' : World} {a : Option Addr} {m c base n n' : Nat} {xs : List Int} {v v' : Value} {ys : List Value} (h : Pd15 V a m c xs v) (k : V.grownBy V' v.ownBlock) (ho : v'.ownBlock = v.ownBlock ∨ ∃ j, v'.ownBlock = some j ∧ V.heap.size ≤ j) : Pd15 V' a m c xs v' := by
  refine ⟨⟨h.row.len_eq, h.row.le, h.row.byt, fun h0 => ?_⟩, h.nil, fun b off e => ?_⟩
  · obtain ⟨b, off, e, hc⟩ := h.row.cells h0
    refine ⟨b, off, e, fun i hi => ?_⟩
    have h1 := hc i hi
    have h2 := cell_lt h1
    unfold World.cell? at h1 ⊢
    simp only at h1 ⊢
    rw [k.block b h2 (h.ap b off e).2]
    exact h1
  · obtain ⟨h1, h2⟩ := h.ap b off e
    refine ⟨Nat.lt_of_lt_of_le h1 k.size, ?_⟩
    rcases ho with q | ⟨j, q, hj⟩
    · rw [q]; exact h2
    · rw [q]; intro e2; injection e2 with e2; omega
/-- what a call made waits, whatever row grows that was there -/
theorem Pd15.new {W V : World} {m base n : Nat} {v u : Value} {xs : List Int} {ys : List Value} (o : V.ownsRow W.heap.size 5 1 u m (bv xs)) (hb : Byt xs) (hm : m ≤ maxLen) (hv : W.ownsRow base 5 1 v n ys) :
    ∃ a c, u = .slice a m c ∧ Pd15 V a m c xs v := by
  obtain ⟨a, c, e, R, h1, _, _⟩ := own_bytes o hb hm
  refine ⟨a, c, e, R, h1, fun b off ea => ?_⟩
  have hk : u.ownBlock = some b := by rw [e, ea]; rfl
  have := o.lt b hk
  exact ⟨this.2, fun q => by have := (hv.lt b q.symm).2; omega⟩
theorem four15_any (x : Int) (w : World) (h0 : -1 ≤ x) (h1 : x ≤ 4294967295) : Calls Try.prog 29 #[.int .i64 x] w fun e w' => ∃ v, e = .returned v ∧ w'.ownsRow w.heap.size 5 1 v 4 (bv (sto x 4)) ∧ w.grownBy w' none := by
  by_cases hx : x = -1
  · subst hx
    have O := World.ownsRow_lit (base := w.heap.size) (e := 5) (size := 1) w #[.int .u8 255, .int .u8 255, .int .u8 255, .int .u8 255] 4 (by simp) (by unfold maxLen; omega) rfl
    have G := World.grownBy_alloc w (.cells #[.int .u8 255, .int .u8 255, .int .u8 255, .int .u8 255] 5) none
    have HO : Hid _ := And.intro O G
    clear O G
    go_enter Try.func29, Try.ntmps29
    go_wp2
    go_ret
    exact ⟨_, rfl, by simpa [bv, sto] using HO.out.1, HO.out.2⟩
  · have hS := store_own x 4 w (by decide) (by omega) (by omega)
    have hwr : IntKind.u64.wrap x = x := u64_wrap_in x (by omega) (by omega)
    go_enter Try.func29, Try.ntmps29
    go_wp2_with fail
    refine hS.mono ?_
    rintro e w1 ⟨v, rfl, o, g⟩
    have HO : Hid _ := And.intro o g
    clear o g hS
    go_wp2
    go_ret
    exact ⟨_, rfl, HO.out.1, HO.out.2⟩
/-- append as a step of a drawn region; and where the row lies then -/
theorem step_append15 {P : Program} {w : World} {ops : Array Oper} {o : Oper} {a : Act} {K : Act → World → Prop} {Q : Exit → Act → World → Prop} {E : Prop} (hgd : o.guard = none) (s x : Operand) (t : TypeId)
    (ho : o.op = .call { callee := .builtin .append, args := #[s, x], argTypes := #[t, t] })
    (base : Nat) (i : TypeInfo) (ht : P.underlying t = some (.slice 5)) (hi : P.info? 5 = some i) (hz : i.zero = some (.int .u8 0)) (hsize : i.size = 1) (hby : i.bytes = 1)
    (v : Value) (n : Nat) (xs : List Int) (hs : a.eval s = v) (hown : w.ownsRow base 5 1 v n (bv xs))
    (sa : Option Addr) (m c : Nat) (bs : List Int) (hx : a.eval x = .slice sa m c) (B : Pd15 w sa m c bs v) (hm0 : 0 < m)
    (hb : n + m ≤ 140737488355328) (hbase : base ≤ w.heap.size)
    (h : ∀ v' w', w'.ownsRow base 5 1 v' (n + m) (bv (xs ++ bs)) → w.grownBy w' v.ownBlock → (v'.ownBlock = v.ownBlock ∨ ∃ j, v'.ownBlock = some j ∧ w.heap.size ≤ j) → K (a.put o.dst v') w') : if Region.wanted o (yielded ops a.tmps) = true then Oper.wp P o a w K Q else E := by
  rw [if_pos (by simp [Region.wanted, hgd])]
  obtain ⟨b, off, rfl, _⟩ := B.row.cells hm0
  obtain ⟨v', w', hrun, r1, r2, _, r4⟩ := run_append_own_at (P := P) w base t o.type 5 i (.int .u8 0) 1 1 ht hi hz hsize hby rfl (by decide) v n (bv xs) hown ⟨b, off, none⟩ m c (bv bs) (by rw [bv_length, B.row.len_eq]; omega) (by
    intro j u hj
    obtain ⟨ad', e, hc⟩ := B.row.src (by rw [bv_length, B.row.len_eq]; exact hm0)
    injection e with e
    subst e
    exact hc j u hj) (bv_one _) (by unfold maxLen; omega) (by omega) hbase
  unfold Oper.wp
  simp [execOp, ho, resolve, invoke, builtin, hs, hx, hrun, Result.andThen]
  exact h v' w' (by rw [bv_append]; exact r1) r2 (r4.imp id fun e => ⟨_, e, Nat.le_refl _⟩)
end Go.Proofs.Ytiafbnpbbjkdbaa
