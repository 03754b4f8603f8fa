/- Many names, plain: how many rows, how many bytes. The document's Bytes: rows that wait to be appended; two rows of one's own. The document's Bytes. The program's Decode. The document's Decode. The document's Same. num, much; Find. The page's example (live). DirentEncodes' walk. DirentRows' walk. -/
import Derived.Test.YtngalihnckbkfaaTA16
import Derived.Test.YtngalihnckbkfaaDB
import Derived.Deep.RegionHeld3
import Derived.Maps.AppendAt
import Derived.Lib.AppendStr
import Derived.Deep.WholeRow
import Derived.Test.YtngalihnckbkfaaSC
import Derived.BigRegionIn
import Derived.Deep.QuietTactic
import Derived.BigQuiet
import Derived.Test.YtngalihnckbkfaaTC16
import Derived.Test.YtngalihnckbkfaaEM
import Derived.Test.YtngalihnckbkfaaEE
import Derived.Test.YtngalihnckbkfaaEA
import Derived.Test.YtngalihnckbkfaaEH
namespace Go.Proofs.Ytngalihnckbkfaa
open Go.RowKit
set_option maxRecDepth 100000
set_option linter.unusedSimpArgs false
set_option linter.unusedVariables false
/-- a list's bytes: six a row, three and the name's a name -/
theorem rowB_len16 {r : List Kx} (h : 1 ≤ r.length) (h2 : ∀ k ∈ r, k.nm.size = 2) : (rowB r).length = 6 + 5 * r.length := by
  cases r with
  | nil => simp at h
  | cons k r =>
    have hk : ∀ (f : Int) (l : List Kx), (∀ k ∈ l, k.nm.size = 2) → ((l.map (kidB f)).flatten).length = 5 * l.length := by
      intro f l
      induction l with
      | nil => intro _; rfl
      | cons x l ih =>
        intro hx
        rw [List.map_cons, List.flatten_cons, List.length_append, kidB_len, hx x (List.mem_cons_self ..), ih (fun k hk => hx k (List.mem_cons_of_mem _ hk)), List.length_cons]
        omega
    unfold rowB
    rw [List.length_append, List.length_append, sto_length, sto_length, hk _ _ h2]
    omega
theorem rws_bytes : ∀ (n : Nat) (l : List Kx), l.length ≤ n → (∀ k ∈ l, k.nm.size = 2) → (((rws16 n l).map rowB).flatten).length = 6 * (rws16 n l).length + 5 * l.length
  | 0, l, h, _ => by rw [rws16, List.eq_nil_of_length_eq_zero (by omega : l.length = 0)]; rfl
  | n + 1, l, h, h2 => by
    rw [rws16]
    by_cases h0 : l.length = 0
    · rw [if_pos h0, List.eq_nil_of_length_eq_zero h0]; rfl
    · have hp := inr16_pos (l := l) (fun e => h0 (by rw [e]; rfl))
      have hq := inr16_le l
      have hl : (l.take (inr16 l)).length = inr16 l := by rw [List.length_take]; omega
      rw [if_neg h0, List.map_cons, List.flatten_cons, List.length_append, rowB_len16 (by omega) (fun k hk => h2 k (List.mem_of_mem_take hk)), rws_bytes n _ (by rw [List.length_drop]; omega) (fun k hk => h2 k (List.mem_of_mem_drop hk)), List.length_cons, List.length_drop, hl]
      omega
theorem rws_up : ∀ (n : Nat) (l : List Kx), l.length ≤ n → (∀ k, k < l.length → inr16 (l.drop k) = min 256 (l.length - k)) → (rws16 n l).length = (l.length + 255) / 256
  | 0, l, h, _ => by rw [rws16, List.eq_nil_of_length_eq_zero (by omega : l.length = 0)]; rfl
  | n + 1, l, h, hP => by
    rw [rws16]
    by_cases h0 : l.length = 0
    · rw [if_pos h0, h0]; rfl
    · have h1 := hP 0 (by omega)
      rw [List.drop_zero, Nat.sub_zero] at h1
      have ih := rws_up n (l.drop (inr16 l)) (by rw [List.length_drop]; omega) (fun k hk => by
        rw [List.length_drop] at hk ⊢
        rw [List.drop_drop, hP _ (by omega)]
        omega)
      rw [if_neg h0, List.length_cons, ih, List.length_drop]
      omega
theorem rws_down : ∀ (n : Nat) (l : List Kx), l.length ≤ n → (∀ k, k < l.length → inr16 (l.drop k) = 1) → (rws16 n l).length = l.length
  | 0, l, h, _ => by rw [rws16, List.eq_nil_of_length_eq_zero (by omega : l.length = 0)]; rfl
  | n + 1, l, h, hP => by
    rw [rws16]
    by_cases h0 : l.length = 0
    · rw [if_pos h0, h0]; rfl
    · have h1 := hP 0 (by omega)
      rw [List.drop_zero] at h1
      have ih := rws_down n (l.drop (inr16 l)) (by rw [List.length_drop]; omega) (fun k hk => by
        rw [List.length_drop] at hk
        rw [List.drop_drop, hP _ (by omega)])
      rw [if_neg h0, List.length_cons, ih, List.length_drop]
      omega
/-- the i-th name, its letters -/
def ul16 (i : Nat) : List UInt8 := [UInt8.ofNat (97 + i / 26), UInt8.ofNat (97 + i % 26)]
def nm16 (i : Nat) : ByteArray := strOfNums [97 + ((i / 26 : Nat) : Int), 97 + ((i % 26 : Nat) : Int)]
theorem nm_list (i : Nat) : (nm16 i).toList = ul16 i := by
  unfold nm16 ul16
  rw [str_toList]
  simp only [List.map_cons, List.map_nil]
  rw [show (97 + ((i / 26 : Nat) : Int)).toNat = 97 + i / 26 by omega, show (97 + ((i % 26 : Nat) : Int)).toNat = 97 + i % 26 by omega]
theorem nm_size (i : Nat) : (nm16 i).size = 2 := by unfold nm16; rw [str_size16]; rfl
def nmOk (i : Nat) : Bool := vld (ul16 i) && !(Op.bytesLess (ul16 (i + 1)) (ul16 i) || ul16 (i + 1) == ul16 i)
theorem nm_all : (List.range 600).all nmOk = true := by kernel_rfl
theorem nm_ok {i : Nat} (h : i < 600) : vld (ul16 i) = true ∧ (Op.bytesLess (ul16 (i + 1)) (ul16 i) || ul16 (i + 1) == ul16 i) = false := by
  have := List.all_eq_true.1 nm_all i (List.mem_range.2 h)
  unfold nmOk at this
  rw [Bool.and_eq_true] at this
  exact ⟨this.1, by simpa using this.2⟩
/-- the i-th name of n, and its number -/
def kd16 (n : Nat) (dn : Bool) (i : Nat) : Kx := ⟨nm16 i, if dn = true then (n : Int) - (i : Int) else (i : Int)⟩
def ls16 (n : Nat) (dn : Bool) (m : Nat) : List Kx := (List.range m).map (kd16 n dn)
theorem ls_len (n : Nat) (dn : Bool) (m : Nat) : (ls16 n dn m).length = m := by unfold ls16; simp
theorem ls_at {n : Nat} {dn : Bool} {m i : Nat} (h : i < m) : (ls16 n dn m)[i]? = some (kd16 n dn i) := by unfold ls16; simp [h]
theorem ls_next (n : Nat) (dn : Bool) (m : Nat) : ls16 n dn (m + 1) = ls16 n dn m ++ [kd16 n dn m] := by unfold ls16; rw [List.range_succ, List.map_append]; rfl
theorem ls_mem {n : Nat} {dn : Bool} {m : Nat} {k : Kx} (h : k ∈ ls16 n dn m) : ∃ i, i < m ∧ k = kd16 n dn i := by
  unfold ls16 at h
  obtain ⟨i, hi, e⟩ := List.mem_map.1 h
  exact ⟨i, List.mem_range.1 hi, e.symm⟩
theorem kd_okk {n : Nat} {dn : Bool} {i : Nat} (hn : n ≤ 600) (h : i < n) : okk (kd16 n dn i) = true := by
  unfold okk kd16
  simp only [nm_list, (nm_ok (by omega : i < 600)).1, Bool.true_and, Bool.and_eq_true, decide_eq_true_eq]
  cases dn <;> simp <;> omega
theorem ls_rgt {n : Nat} {dn : Bool} (hn : n ≤ 600) : rgt16 (ls16 n dn n) = true := by
  refine rgt_of fun i hi => ?_
  rw [ls_len] at hi
  cases i with
  | zero => simp only [okAt, ls_at hi, kd_okk hn hi]
  | succ m =>
    have h2 : leS (kd16 n dn (m + 1)).nm (kd16 n dn m).nm = false := by
      show leS (nm16 (m + 1)) (nm16 m) = false
      unfold leS
      rw [nm_list, nm_list]
      exact (nm_ok (by omega : m < 600)).2
    simp only [okAt, ls_at hi, ls_at (by omega : m < n), kd_okk hn hi, h2]
    rfl
theorem ls_up {n k : Nat} (h : k < n) : inr16 ((ls16 n false n).drop k) = min 256 (n - k) := by
  have h0 : ((ls16 n false n).drop k)[0]? = some (kd16 n false k) := by rw [List.getElem?_drop, Nat.add_zero]; exact ls_at h
  have hl : ((ls16 n false n).drop k).length = n - k := by rw [List.length_drop, ls_len]
  refine inr16_eq h0 (Nat.min_le_left _ _) (by omega) (fun i K hi hK => ?_) ?_
  · rw [List.getElem?_drop, ls_at (by omega)] at hK
    injection hK with hK
    rw [← hK]
    simp [kd16]
    omega
  · rw [hl]; omega
theorem ls_down {n k : Nat} (h : k < n) : inr16 ((ls16 n true n).drop k) = 1 := by
  have h0 : ((ls16 n true n).drop k)[0]? = some (kd16 n true k) := by rw [List.getElem?_drop, Nat.add_zero]; exact ls_at h
  have hl : ((ls16 n true n).drop k).length = n - k := by rw [List.length_drop, ls_len]
  refine inr16_eq h0 (by omega) (by omega) (fun i K hi hK => ?_) ?_
  · obtain rfl : i = 0 := by omega
    rw [h0] at hK
    injection hK with hK
    rw [← hK]
    omega
  · by_cases c : k + 1 < n
    · refine Or.inr (Or.inr ⟨kd16 n true (k + 1), by rw [List.getElem?_drop]; exact ls_at c, ?_⟩)
      simp [kd16]
      omega
    · exact Or.inr (Or.inl (by omega))
theorem ls_bytes (n : Nat) (dn : Bool) : (enb16 (ls16 n dn n)).length = 6 * (if dn = true then n else (n + 255) / 256) + 5 * n := by
  have h := rws_bytes n (ls16 n dn n) (by rw [ls_len]; exact Nat.le_refl _) (fun k hk => by
    obtain ⟨i, _, rfl⟩ := ls_mem hk
    exact nm_size i)
  unfold enb16
  rw [ls_len] at h ⊢
  rw [h]
  cases dn with
  | true => rw [rws_down n _ (by rw [ls_len]; exact Nat.le_refl _) (fun k hk => by rw [ls_len] at hk; exact ls_down hk), ls_len]; rfl
  | false => rw [rws_up n _ (by rw [ls_len]; exact Nat.le_refl _) (fun k hk => by rw [ls_len] at hk ⊢; exact ls_up hk), ls_len]; rfl
end Go.Proofs.Ytngalihnckbkfaa

namespace Go.Proofs.Ytngalihnckbkfaa
open Go.RowKit
set_option maxRecDepth 100000
set_option linter.unusedSimpArgs false
set_option linter.unusedVariables false
/-- a row that a call made, not yet appended: its block is there, and is not v's own -/
structure Pd16 (V : World) (a : Option Addr) (m c : Nat) (xs : List Int) (v : Value) : Prop where
  row : Row V a m xs
  nil : a = none → c = 0
  ap : ∀ b off, a = some ⟨b, off, none⟩ → b < V.heap.size ∧ some b ≠ v.ownBlock
theorem Pd16.kept {V V' : World} {a : Option Addr} {m c : Nat} {xs : List Int} {v : Value} (h : Pd16 V a m c xs v) (k : V.grownBy V' none) : Pd16 V' a m c xs v := ⟨h.row.grown k, h.nil, fun b off e => ⟨Nat.lt_of_lt_of_le (h.ap b off e).1 k.size, (h.ap b off e).2⟩⟩
theorem Pd16.app {V V' : World} {a : Option Addr} {m c base n n' : Nat} {xs : List Int} {v v' : Value} {ys : List Value} (h : Pd16 V a m c xs v) (k : V.grownBy V' v.ownBlock) (ho : v'.ownBlock = v.ownBlock ∨ ∃ j, v'.ownBlock = some j ∧ V.heap.size ≤ j) : Pd16 V' a m c xs v' := by
  refine ⟨⟨h.row.len_eq, h.row.le, h.row.byt, fun h0 => ?_⟩, h.nil, fun b off e => ?_⟩
  · obtain ⟨b, off, e, hc⟩ := h.row.cells h0
    refine ⟨b, off, e, fun i hi => ?_⟩
    have h1 := hc i hi
    have h2 := cell_lt h1
    unfold World.cell? at h1 ⊢
    simp only at h1 ⊢
    rw [k.block b h2 (h.ap b off e).2]
    exact h1
  · obtain ⟨h1, h2⟩ := h.ap b off e
    refine ⟨Nat.lt_of_lt_of_le h1 k.size, ?_⟩
    rcases ho with q | ⟨j, q, hj⟩
    · rw [q]; exact h2
    · rw [q]; intro e2; injection e2 with e2; omega
/-- what a call made waits, whatever row grows that was there -/
theorem Pd16.new {W V : World} {m base n : Nat} {v u : Value} {xs : List Int} {ys : List Value} (o : V.ownsRow W.heap.size 5 1 u m (bv xs)) (hb : Byt xs) (hm : m ≤ maxLen) (hv : W.ownsRow base 5 1 v n ys) :
    ∃ a c, u = .slice a m c ∧ Pd16 V a m c xs v := by
  obtain ⟨a, c, e, R, h1, _, _⟩ := own_bytes o hb hm
  refine ⟨a, c, e, R, h1, fun b off ea => ?_⟩
  have hk : u.ownBlock = some b := by rw [e, ea]; rfl
  have := o.lt b hk
  exact ⟨this.2, fun q => by have := (hv.lt b q.symm).2; omega⟩
/-- append as a step of a drawn region; and where the row lies then -/
theorem step_append16 {P : Program} {w : World} {ops : Array Oper} {o : Oper} {a : Act} {K : Act → World → Prop} {Q : Exit → Act → World → Prop} {E : Prop} (hgd : o.guard = none) (s x : Operand) (t : TypeId)
    (ho : o.op = .call { callee := .builtin .append, args := #[s, x], argTypes := #[t, t] })
    (base : Nat) (i : TypeInfo) (ht : P.underlying t = some (.slice 5)) (hi : P.info? 5 = some i) (hz : i.zero = some (.int .u8 0)) (hsize : i.size = 1) (hby : i.bytes = 1)
    (v : Value) (n : Nat) (xs : List Int) (hs : a.eval s = v) (hown : w.ownsRow base 5 1 v n (bv xs))
    (sa : Option Addr) (m c : Nat) (bs : List Int) (hx : a.eval x = .slice sa m c) (B : Pd16 w sa m c bs v) (hm0 : 0 < m)
    (hb : n + m ≤ 140737488355328) (hbase : base ≤ w.heap.size)
    (h : ∀ v' w', w'.ownsRow base 5 1 v' (n + m) (bv (xs ++ bs)) → w.grownBy w' v.ownBlock → (v'.ownBlock = v.ownBlock ∨ ∃ j, v'.ownBlock = some j ∧ w.heap.size ≤ j) → K (a.put o.dst v') w') : if Region.wanted o (yielded ops a.tmps) = true then Oper.wp P o a w K Q else E := by
  rw [if_pos (by simp [Region.wanted, hgd])]
  obtain ⟨b, off, rfl, _⟩ := B.row.cells hm0
  obtain ⟨v', w', hrun, r1, r2, _, r4⟩ := run_append_own_at (P := P) w base t o.type 5 i (.int .u8 0) 1 1 ht hi hz hsize hby rfl (by decide) v n (bv xs) hown ⟨b, off, none⟩ m c (bv bs) (by rw [bv_length, B.row.len_eq]; omega) (by
    intro j u hj
    obtain ⟨ad', e, hc⟩ := B.row.src (by rw [bv_length, B.row.len_eq]; exact hm0)
    injection e with e
    subst e
    exact hc j u hj) (bv_one _) (by unfold maxLen; omega) (by omega) hbase
  unfold Oper.wp
  simp [execOp, ho, resolve, invoke, builtin, hs, hx, hrun, Result.andThen]
  exact h v' w' (by rw [bv_append]; exact r1) r2 (r4.imp id fun e => ⟨_, e, Nat.le_refl _⟩)
theorem bv_nums16 (s : ByteArray) : bv (nums s) = Lib.strCells s := by
  unfold bv nums Lib.strCells
  simp
/-- append of a text as a step of a drawn region -/
theorem step_appendS16 {P : Program} {w : World} {ops : Array Oper} {o : Oper} {a : Act} {K : Act → World → Prop} {Q : Exit → Act → World → Prop} {E : Prop} (hgd : o.guard = none) (s x : Operand) (t u : TypeId)
    (ho : o.op = .call { callee := .builtin .append, args := #[s, x], argTypes := #[t, u] })
    (base : Nat) (i : TypeInfo) (ht : P.underlying t = some (.slice 5)) (hu : P.underlying u = some .string) (hi : P.info? 5 = some i) (hz : i.zero = some (.int .u8 0)) (hsize : i.size = 1) (hby : i.bytes = 1)
    (v : Value) (n : Nat) (xs : List Int) (hs : a.eval s = v) (hown : w.ownsRow base 5 1 v n (bv xs)) (st : ByteArray) (hx : a.eval x = .string st)
    (hb : n + st.size ≤ 140737488355328) (hbase : base ≤ w.heap.size)
    (h : ∀ v' w', w'.ownsRow base 5 1 v' (n + st.size) (bv (xs ++ nums st)) → w.grownBy w' v.ownBlock → K (a.put o.dst v') w') : if Region.wanted o (yielded ops a.tmps) = true then Oper.wp P o a w K Q else E := by
  rw [if_pos (by simp [Region.wanted, hgd])]
  obtain ⟨v', w', hrun, r1, r2, _⟩ := Lib.run_append_own_string (P := P) w base t u o.type 5 i ht hu hi hz hsize hby v n (bv xs) hown st (by unfold maxLen; omega) (by omega) hbase
  unfold Oper.wp
  simp [execOp, ho, resolve, invoke, builtin, hs, hx, hrun, Result.andThen]
  exact h v' w' (by rw [bv_append, bv_nums16]; exact r1) r2
/-- the bytes so far, and the row's: two rows of the call's own -/
structure Yb16 (w W : World) (B : Nat) (vb : Value) (nb : Nat) (xb : List Int) (vr : Value) (nr : Nat) (xr : List Int) : Prop where
  b : W.ownsRow w.heap.size 5 1 vb nb (bv xb)
  r : W.ownsRow B 5 1 vr nr (bv xr)
  lt : ∀ k, vb.ownBlock = some k → k < B
  gr : w.grownBy W none
  wB : w.heap.size ≤ B
  BW : B ≤ W.heap.size
theorem Yb16.keep {w W W' : World} {B : Nat} {vb : Value} {nb : Nat} {xb : List Int} {vr : Value} {nr : Nat} {xr : List Int} (h : Yb16 w W B vb nb xb vr nr xr) (k : W.grownBy W' none) : Yb16 w W' B vb nb xb vr nr xr :=
  ⟨h.b.kept k (by cases vb.ownBlock <;> simp), h.r.kept k (by cases vr.ownBlock <;> simp), h.lt, grown_trans h.gr k, h.wB, Nat.le_trans h.BW k.size⟩
theorem Yb16.row {w W W' : World} {B : Nat} {vb : Value} {nb : Nat} {xb : List Int} {vr vr' : Value} {nr nr' : Nat} {xr xr' : List Int} (h : Yb16 w W B vb nb xb vr nr xr) (o : W'.ownsRow B 5 1 vr' nr' (bv xr')) (k : W.grownBy W' vr.ownBlock) : Yb16 w W' B vb nb xb vr' nr' xr' := by
  refine ⟨h.b.kept k ?_, o, h.lt, ?_, h.wB, Nat.le_trans h.BW k.size⟩
  · rcases hb : vb.ownBlock with _ | j
    · exact .inl rfl
    · refine .inr fun e => ?_
      have := h.lt j hb
      have := (h.r.lt j e.symm).1
      omega
  · exact ⟨k.os.trans h.gr.os, k.tape.trans h.gr.tape, k.output.trans h.gr.output, Nat.le_trans h.gr.size k.size, fun j hj _ => by
      have := h.wB
      rw [k.block j (Nat.lt_of_lt_of_le hj h.gr.size) (fun e => by have := (h.r.lt j e.symm).1; omega)]
      exact h.gr.block j hj (by simp)⟩
/-- the bytes alone -/
structure Yc16 (w W : World) (vb : Value) (nb : Nat) (xb : List Int) : Prop where
  b : W.ownsRow w.heap.size 5 1 vb nb (bv xb)
  gr : w.grownBy W none
theorem Yc16.keep {w W W' : World} {vb : Value} {nb : Nat} {xb : List Int} (h : Yc16 w W vb nb xb) (k : W.grownBy W' none) : Yc16 w W' vb nb xb := ⟨h.b.kept k (by cases vb.ownBlock <;> simp), grown_trans h.gr k⟩
theorem Yc16.app {w W W' : World} {vb vb' : Value} {nb nb' : Nat} {xb xb' : List Int} (h : Yc16 w W vb nb xb) (o : W'.ownsRow w.heap.size 5 1 vb' nb' (bv xb')) (k : W.grownBy W' vb.ownBlock) : Yc16 w W' vb' nb' xb' :=
  ⟨o, k.os.trans h.gr.os, k.tape.trans h.gr.tape, k.output.trans h.gr.output, Nat.le_trans h.gr.size k.size, fun j hj _ => by
      rw [k.block j (Nat.lt_of_lt_of_le hj h.gr.size) (fun e => by have := (h.b.lt j e.symm).1; omega)]
      exact h.gr.block j hj (by simp)⟩
/-- a row begins -/
theorem Yc16.start {w W : World} {vb : Value} {nb : Nat} {xb : List Int} (h : Yc16 w W vb nb xb) : Yb16 w W W.heap.size vb nb xb (.slice none 0 0) 0 [] :=
  ⟨h.b, World.ownsRow_nil _ _ _ _, fun k e => (h.b.lt k e).2, h.gr, h.gr.size, Nat.le_refl _⟩
/-- a row ends: it waits -/
theorem Yb16.stop {w W : World} {B : Nat} {vb : Value} {nb : Nat} {xb : List Int} {vr : Value} {nr : Nat} {xr : List Int} (h : Yb16 w W B vb nb xb vr nr xr) (hx : Byt xr) (hn : nr ≤ maxLen) : Yc16 w W vb nb xb ∧ ∃ a c, vr = .slice a nr c ∧ Pd16 W a nr c xr vb := by
  obtain ⟨a, c, e, R, h1, _, _⟩ := own_bytes h.r hx hn
  refine ⟨⟨h.b, h.gr⟩, a, c, e, R, h1, fun b off ea => ?_⟩
  have hk : vr.ownBlock = some b := by rw [e, ea]; rfl
  have := h.r.lt b hk
  exact ⟨this.2, fun q => by have := h.lt b q.symm; omega⟩
/-- while a name is appended: the name's variable, the row's first number -/
structure Yk16 (w W : World) (B : Nat) (vb : Value) (nb : Nat) (xb : List Int) (vr : Value) (nr : Nat) (xr : List Int) (g : Nat) (X : Kx) (b o : Nat) (f : Int) : Prop where
  y : Yb16 w W B vb nb xb vr nr xr
  kb : Bx W g 41 X.cells
  fc : w.cell? ⟨b, o, none⟩ = some (.int .i64 f)
theorem Yk16.keep {w W W' : World} {B : Nat} {vb : Value} {nb : Nat} {xb : List Int} {vr : Value} {nr : Nat} {xr : List Int} {g : Nat} {X : Kx} {b o : Nat} {f : Int} (h : Yk16 w W B vb nb xb vr nr xr g X b o f) (k : W.grownBy W' none) : Yk16 w W' B vb nb xb vr nr xr g X b o f :=
  ⟨h.y.keep k, h.kb.kept k, h.fc⟩
theorem Yk16.row {w W W' : World} {B : Nat} {vb : Value} {nb : Nat} {xb : List Int} {vr vr' : Value} {nr nr' : Nat} {xr xr' : List Int} {g : Nat} {X : Kx} {b o : Nat} {f : Int} (h : Yk16 w W B vb nb xb vr nr xr g X b o f) (q : W'.ownsRow B 5 1 vr' nr' (bv xr')) (k : W.grownBy W' vr.ownBlock) : Yk16 w W' B vb nb xb vr' nr' xr' g X b o f :=
  ⟨h.y.row q k, ⟨by rw [k.block g h.kb.lt (own_bx h.y.r h.kb (by decide))]; exact h.kb.blk⟩, h.fc⟩
theorem Yk16.cells {w W : World} {B : Nat} {vb : Value} {nb : Nat} {xb : List Int} {vr : Value} {nr : Nat} {xr : List Int} {g : Nat} {X : Kx} {b o : Nat} {f : Int} (h : Yk16 w W B vb nb xb vr nr xr g X b o f) : W.cell? ⟨g, 0, none⟩ = some (.string X.nm) ∧ W.cell? ⟨g, 1, none⟩ = some (.int .i64 X.io) ∧ W.cell? ⟨b, o, none⟩ = some (.int .i64 f) :=
  ⟨h.kb.c 0, h.kb.c 1, World.grownBy.cell h.y.gr h.fc (by simp)⟩
/-- a row of one byte, just made -/
theorem Pd16.lit {W : World} {base n : Nat} {v : Value} {ys : List Value} (x : Int) (hx : 0 ≤ x ∧ x ≤ 255) (hv : W.ownsRow base 5 1 v n ys) : Pd16 (W.alloc (.cells #[.int .u8 x] 5)) (some ⟨W.heap.size, 0, none⟩) 1 1 [x] v := by
  have hc : ∀ i, i < 1 → (W.alloc (.cells #[.int .u8 x] 5)).cell? ⟨W.heap.size, 0 + i, none⟩ = some (.int .u8 (([x] : List Int).getD i 0)) := fun i hi => by
    obtain rfl : i = 0 := by omega
    exact (Bx.new W 5 [.int .u8 x]).c 0
  have hb : Byt [x] := fun y hy => by
    rw [List.mem_singleton.1 hy]
    exact hx
  have hm : 1 ≤ maxLen := by unfold maxLen; omega
  refine ⟨⟨rfl, hm, hb, fun _ => ⟨W.heap.size, 0, rfl, hc⟩⟩, (fun e => by cases e), ?_⟩
  intro b off e
  injection e with e
  injection e with e1 e2
  subst e1
  exact ⟨by simp, fun q => by have := (hv.lt _ q.symm).2; omega⟩
theorem grown_setRow16 (w : World) (g : Nat) (cs : Array Value) : w.grownBy (w.setRow g cs) (some g) := ⟨rfl, rfl, rfl, by simp, fun k hk hne => setRow_other w g k _ (fun e => hne (by rw [e]))⟩
/-- a variable of several cells stored whole -/
theorem wpList_storeB16 {P : Program} {ops : Array Oper} {rest : List Oper} {o : Oper} {a : Act} {w : World} {Q : Exit → Act → World → Prop} (hgd : o.guard = none) (ty : TypeId) (x y : Operand) (ho : o.op = .store ty x y)
    (g : Nat) (cs : List Value) (hx : a.eval x = .pointer (some ⟨g, 0, none⟩)) (hy : a.eval y = .agg cs.toArray) {T : TypeId} {old : List Value} (hb : Bx w g T old) (hi : (P.info? ty).map (·.size) = some cs.toArray.size)
    (hl : old.length = cs.length) (h1 : cs.all (·.oneCell') = true)
    (h : ∀ W', Bx W' g T cs → w.grownBy W' (some g) → wpList P ops Q rest (a.put o.dst undef) W') : wpList P ops Q (o :: rest) a w :=
  wpList_store_row hgd ty x y ho g cs.toArray hx hy T old.toArray hb.blk hi (by simp [hl]) (by rw [List.all_toArray]; exact h1) (h _ ⟨setRow_heap _ _ _ _ _ _ hb.blk⟩ (grown_setRow16 w g cs.toArray))
theorem storeK_here {P : Program} {w : World} {ops : Array Oper} {rest : List Oper} {a : Act} {Q : Exit → Act → World → Prop} {dst : Option Nat} {x y : Operand} {type : TypeId} {pos : String} {after : Array Edge} {guard : Option (Nat × Bool)}
    (h : wpList P ops Q (⟨dst, .store 41 x y, type, pos, after, guard⟩ :: rest) a w) : wpList P ops Q (⟨dst, .store 41 x y, type, pos, after, guard⟩ :: rest) a w := h
theorem infoK16 : (Try.prog.info? 41).map (·.size) = some 2 := by kernel_rfl
end Go.Proofs.Ytngalihnckbkfaa

namespace Go.Proofs.Ytngalihnckbkfaa
open Go.RowKit
set_option maxRecDepth 100000
set_option linter.unusedSimpArgs false
set_option linter.unusedVariables false
/-- the rows' bytes, so many rows at most -/
def enbK (k : Nat) (l : List Kx) : List Int := ((rws16 k l).map rowB).flatten
theorem enbK_step {k : Nat} {l : List Kx} (h : l.length ≠ 0) : enbK (k + 1) l = rowB (l.take (inr16 l)) ++ enbK k (l.drop (inr16 l)) := by
  unfold enbK
  rw [rws16, if_neg h, List.map_cons, List.flatten_cons]
theorem rowB_head {r : List Kx} {F : Kx} (h : r[0]? = some F) : rowB r = sto ((r.length : Nat) : Int) 2 ++ (sto F.io 4 ++ (r.map (kidB F.io)).flatten) := by
  cases r with
  | nil => cases h
  | cons k r =>
    rw [List.getElem?_cons_zero] at h
    injection h with h
    subst h
    rfl
/-- a row's names so far, as bytes -/
def kB16 (f : Int) (l : List Kx) (i n : Nat) : List Int := (((l.drop i).take n).map (kidB f)).flatten
theorem kB16_next {f : Int} {l : List Kx} {i n : Nat} {K : Kx} (h : l[i + n]? = some K) : kB16 f l i (n + 1) = kB16 f l i n ++ (sto (K.io - f) 2 ++ ([((K.nm.size : Nat) : Int)] ++ nums K.nm)) := by
  unfold kB16
  rw [List.take_add_one, List.getElem?_drop, h]
  simp only [Option.toList_some, List.map_append, List.map_cons, List.map_nil, List.flatten_append, List.flatten_cons, List.flatten_nil, List.append_nil]
  rfl
theorem kB16_len {f : Int} {l : List Kx} {i n : Nat} (h : ∀ k ∈ l, k.nm.size ≤ 255) : (kB16 f l i n).length ≤ 258 * n := by
  unfold kB16
  refine Nat.le_trans (kids_len f _ fun k hk => h k (List.mem_of_mem_drop (List.mem_of_mem_take hk))) ?_
  rw [List.length_take]
  have := Nat.min_le_left n (l.drop i).length
  omega
theorem kB16_byt {f : Int} {l : List Kx} {i n : Nat} (h : ∀ k ∈ l, k.nm.size ≤ 255) : Byt (kB16 f l i n) := fun x hx => by
  obtain ⟨b, hb, hxb⟩ := List.mem_flatten.1 hx
  obtain ⟨q, hq, rfl⟩ := List.mem_map.1 hb
  exact kidB_byt (h q (List.mem_of_mem_drop (List.mem_of_mem_take hq))) x hxb
set_option maxHeartbeats 16000000 in
theorem rbytes16_any (a : Option Addr) (len cap : Nat) (l : List Kx) (w : World) (K : Kxs w a len l) (hln : len ≤ 100000) (hk : ∀ k ∈ l, k.nm.size ≤ 255 ∧ 0 ≤ k.io ∧ k.io ≤ 16384) :
    Calls Try.prog 13 #[.slice a len cap] w fun e w' => ∃ a c, e = .returned (.slice a (enb16 l).length c) ∧ Row w' a (enb16 l).length (enb16 l) ∧ (a = none → c = 0) ∧ w.grownBy w' none := by
  have hl := K.len_eq
  have hz : ∀ k ∈ l, k.nm.size ≤ 255 := fun k h => (hk k h).1
  have hE := enb16_len hz
  have hEb := enb16_byt hz
  have hE0 : enb16 l = [] ++ enbK len (l.drop 0) := by rw [List.nil_append, List.drop_zero, ← hl]; rfl
  obtain ⟨i5, hi, hz0, hz1, hz2⟩ := info_parts Try.info5
  have HK : Hid _ := K
  have HZ : Hid _ := hz
  have HKK : Hid _ := hk
  generalize enb16 l = EB at *
  have HE0 : Hid _ := hE0
  have HEB : Hid (EB.length ≤ 264 * 100000 ∧ Byt EB) := ⟨by omega, hEb⟩
  clear K hz hk hE hEb hE0
  go_enter Try.func13, Try.ntmps13
  go_wp2
  go_loopw [3, 4] (fun v i wr => ∃ (j k : Nat) (xb : List Int), i = .int .i64 j ∧ j ≤ len ∧ Hid (Yc16 w wr v xb.length xb ∧ EB = xb ++ enbK k (l.drop j) ∧ len - j ≤ k)) (fun _ i _ => len - (intOf i).toNat)
  case atStart => exact ⟨0, len, [], rfl, Nat.zero_le _, ⟨World.ownsRow_nil _ _ _ _, World.grownBy.refl _ _⟩, HE0.out, by omega⟩
  case round =>
    clear HE0
    obtain ⟨j, k, xb, rfl, hj, HX⟩ := hrel
    obtain ⟨hY, hB, hk⟩ := HX.out
    by_cases hlt : j < len
    · have hji : (j : Int) < (len : Int) := by omega
      obtain ⟨k, rfl⟩ : ∃ m, k = m + 1 := ⟨k - 1, by omega⟩
      obtain ⟨F, hF⟩ : ∃ F, l[j]? = some F := ⟨_, List.getElem?_eq_getElem (by omega)⟩
      obtain ⟨b, off, rfl, hcc⟩ := HK.out.at_ (by omega)
      rw [enbK_step (by rw [List.length_drop]; omega)] at hB
      have hdl : (l.drop j).length = len - j := by rw [List.length_drop, hl]
      have hd0 : (l.drop j)[0]? = some F := by rw [List.getElem?_drop, Nat.add_zero]; exact hF
      have HQ : Hid (∀ n : Nat, n ≤ 256 → j + n ≤ len → (∀ i k, i < n → l[j + i]? = some k → F.io ≤ k.io) → (n = 256 ∨ j + n = len ∨ ∃ k, l[j + n]? = some k ∧ k.io < F.io) → inr16 (l.drop j) = n) := fun n h1 h2 h3 h4 =>
        inr16_eq hd0 h1 (by omega) (fun i k hi hk => by rw [List.getElem?_drop] at hk; exact Int.not_lt.2 (h3 i k hi hk)) (by
          rcases h4 with h | h | ⟨k, h, h'⟩
          · exact Or.inl h
          · exact Or.inr (Or.inl (by omega))
          · exact Or.inr (Or.inr ⟨k, by rw [List.getElem?_drop]; exact h, h'⟩))
      have HS0 := hY.start
      generalize wr.heap.size = BQ at HS0
      have HFk : Hid (F.nm.size ≤ 255 ∧ 0 ≤ F.io ∧ F.io ≤ 16384) := HKK.out F (List.mem_of_getElem? hF)
      have HD0 : Hid _ := And.intro hd0 hdl
      have HBB : Hid _ := hB
      have HF : Hid _ := hF
      have HCC : Hid _ := hcc
      have HS : Hid _ := HS0
      clear hY hB HS0 hd0 hdl hF hcc HX
      go_wp2_with fail
      go_loopw [5, 6] (fun vn vr wr2 => ∃ n : Nat, vn = .int .i64 n ∧ n ≤ 256 ∧ j + n ≤ len ∧ Hid (Yb16 w wr2 BQ _ xb.length xb vr (kB16 F.io l j n).length (kB16 F.io l j n) ∧ ∀ i k, i < n → l[j + i]? = some k → F.io ≤ k.io)) (fun vn _ _ => 256 - (intOf vn).toNat)
      case atStart => exact ⟨0, rfl, by omega, by omega, by rw [kB16, List.take_zero]; exact HS.out, fun i k hi => absurd hi (Nat.not_lt_zero _)⟩
      case round =>
        clear HS
        obtain ⟨n, rfl, hn, hjn, HR⟩ := hrel
        have hwjn : IntKind.i64.wrap ((j : Int) + (n : Int)) = (j : Int) + (n : Int) := by rw [IntKind.wrap_i64]; omega
        have hwG : w.grownBy wr none := HR.out.1.gr
        by_cases hlt2 : j + n < len
        · have hjni : (j : Int) + (n : Int) < (len : Int) := by omega
          have hjn0 : ¬ (j : Int) + (n : Int) < 0 := by omega
          have hjnt : ((j : Int) + (n : Int)).toNat = j + n := by omega
          obtain ⟨X, hX⟩ : ∃ X, l[j + n]? = some X := ⟨_, List.getElem?_eq_getElem (by omega)⟩
          have x0 := cell_grown16 (HCC.out (j + n) X hX).c0 hwG
          have x1 := cell_grown16 (HCC.out (j + n) X hX).c1 hwG
          have f1 := cell_grown16 (HCC.out j F HF.out).c1 hwG
          by_cases c1 : n = 256
          · skip
            have hni : ¬ (n : Int) < (256 : Int) := by omega
            have hnd : decide ((n : Int) < (256 : Int)) = false := decide_eq_false hni
            have hjd : decide ((j : Int) + (n : Int) < (len : Int)) = true := decide_eq_true hjni
            have HN : Hid (inr16 (l.drop j) = n) := HQ.out n hn hjn HR.out.2 (Or.inl c1)
            clear hlt2 c1
            have hn1 : 1 ≤ n := by
              have h1 := inr16_pos (l := l.drop j) (fun e => by have := HD0.out.2; rw [e] at this; simp at this; omega)
              rw [HN.out] at h1
              exact h1
            have hkl : (kB16 F.io l j n).length ≤ 258 * 256 := Nat.le_trans (kB16_len HZ.out) (Nat.mul_le_mul_left _ hn)
            obtain ⟨hYc, ar, cr, hu6, hPR⟩ := HR.out.1.stop (kB16_byt HZ.out) (by unfold maxLen; omega)
            subst hu6
            have hBK : EB = (xb ++ sto (n : Int) 2 ++ sto F.io 4 ++ kB16 F.io l j n) ++ enbK k (l.drop (j + n)) := by
              have e := HBB.out
              rw [HN.out, List.drop_drop, rowB_head (F := F) (by rw [List.getElem?_take, if_pos (show 0 < n by omega)]; exact HD0.out.1)] at e
              have el : ((l.drop j).take n).length = n := by rw [List.length_take, HD0.out.2]; omega
              rw [el] at e
              rw [e]
              simp only [List.append_assoc]
              rfl
            have hbl : xb.length + 6 + (kB16 F.io l j n).length ≤ 264 * 100000 := by
              have e := congrArg List.length hBK
              simp only [List.length_append, sto_length] at e
              have := HEB.out.1
              omega
            have hFk := HFk.out
            have HYc : Hid _ := hYc
            have HPR : Hid _ := hPR
            have HBK : Hid _ := hBK
            clear hYc hPR hBK
            have w4 : IntKind.u64.wrap (n : Int) = (n : Int) := u64_wrap_in _ (by omega) (by omega)
            have w5 : IntKind.u64.wrap F.io = F.io := u64_wrap_in _ (by omega) (by omega)
            go_wp2_with fail
            go_quiet (fail)
            have hGd : World.grownBy wr (wr.drewN nq) none := ⟨rfl, rfl, rfl, Nat.le_refl _, fun _ _ _ => rfl⟩
            generalize wr.drewN nq = Wd at *
            go_wp2_with fail
            have hGd2 : World.grownBy wr Wd.drew none := grown_trans hGd ⟨rfl, rfl, rfl, Nat.le_refl _, fun _ _ _ => rfl⟩
            have HC : Hid _ := HYc.out.keep hGd2
            have PR := HPR.out.kept hGd2
            clear HYc HPR hGd hGd2 HR
            have hFc : ∀ W, w.grownBy W none → W.cell? ⟨b, off + j * 2 + 1, none⟩ = some (.int .i64 F.io) := fun W k => cell_grown16 (HCC.out j F HF.out).c1 k
            have HFC : Hid _ := hFc
            clear hFc
            refine wp_region_held_drew (S := fun w' => w'.cell? ⟨b, off + j * 2 + 1, none⟩ = some (.int .i64 F.io)) (by kernel_rfl) (HFC.out _ HC.out.gr) (fun hH => ?_)
            generalize Wd.drew = WW at *
            refine wpAnyH_take (i := 0) (oi := ⟨some 66, _, _, _, _, _⟩) (v := u3) rfl (by kernel_rfl) (by kernel_rfl) (by kernel_rfl) (fun _ _ _ h => h) (Or.inl ⟨by rfl, fun w hSw => by go_simp⟩) hH ?_
            try simp only [Act.put, List.setIfInBounds_toArray, List.set_cons_zero, List.set_cons_succ]
            refine wpAnyH_take (i := 1) (oi := ⟨some 67, _, _, _, _, _⟩) (v := .int .i64 n) rfl (by kernel_rfl) (by kernel_rfl) (by kernel_rfl) (fun _ _ _ h => h) (Or.inl ⟨by rfl, fun w hSw => by go_simp⟩) hH ?_
            try simp only [Act.put, List.setIfInBounds_toArray, List.set_cons_zero, List.set_cons_succ]
            refine wpAnyH_take (i := 2) (oi := ⟨some 68, _, _, _, _, _⟩) (v := .int .u64 (n : Int)) rfl (by kernel_rfl) (by kernel_rfl) (by kernel_rfl) (fun _ _ _ h => h) (Or.inl ⟨by rfl, fun w hSw => by go_simp⟩) hH ?_
            try simp only [Act.put, List.setIfInBounds_toArray, List.set_cons_zero, List.set_cons_succ]
            refine wpAnyH_take (i := 5) (oi := ⟨some 71, _, _, _, _, _⟩) (v := .slice (some ⟨b, off, none⟩) len cap) rfl (by kernel_rfl) (by kernel_rfl) (by kernel_rfl) (fun _ _ _ h => h) (Or.inl ⟨by rfl, fun w hSw => by go_simp⟩) hH ?_
            try simp only [Act.put, List.setIfInBounds_toArray, List.set_cons_zero, List.set_cons_succ]
            refine wpAnyH_take (i := 6) (oi := ⟨some 72, _, _, _, _, _⟩) (v := .int .i64 j) rfl (by kernel_rfl) (by kernel_rfl) (by kernel_rfl) (fun _ _ _ h => h) (Or.inl ⟨by rfl, fun w hSw => by go_simp⟩) hH ?_
            try simp only [Act.put, List.setIfInBounds_toArray, List.set_cons_zero, List.set_cons_succ]
            refine wpAnyH_take (i := 7) (oi := ⟨some 73, _, _, _, _, _⟩) (v := .pointer (some ⟨b, off + j * 2, none⟩)) rfl (by kernel_rfl) (by kernel_rfl) (by kernel_rfl) (fun _ _ _ h => h) (Or.inl ⟨by rfl, fun w hSw => by go_simp⟩) hH ?_
            try simp only [Act.put, List.setIfInBounds_toArray, List.set_cons_zero, List.set_cons_succ]
            refine wpAnyH_take (i := 8) (oi := ⟨some 74, _, _, _, _, _⟩) (v := .pointer (some ⟨b, off + j * 2 + 1, none⟩)) rfl (by kernel_rfl) (by kernel_rfl) (by kernel_rfl) (fun _ _ _ h => h) (Or.inl ⟨by rfl, fun w hSw => by go_simp⟩) hH ?_
            try simp only [Act.put, List.setIfInBounds_toArray, List.set_cons_zero, List.set_cons_succ]
            refine wpAnyH_take (i := 9) (oi := ⟨some 75, _, _, _, _, _⟩) (v := .int .i64 F.io) rfl (by kernel_rfl) (by kernel_rfl) (by kernel_rfl) (fun _ _ _ h => h) (Or.inl ⟨by rfl, fun w hSw => by go_simp⟩) hH ?_
            try simp only [Act.put, List.setIfInBounds_toArray, List.set_cons_zero, List.set_cons_succ]
            refine wpAnyH_take (i := 10) (oi := ⟨some 76, _, _, _, _, _⟩) (v := .int .u64 F.io) rfl (by kernel_rfl) (by kernel_rfl) (by kernel_rfl) (fun _ _ _ h => h) (Or.inl ⟨by rfl, fun w hSw => by go_simp⟩) hH ?_
            try simp only [Act.put, List.setIfInBounds_toArray, List.set_cons_zero, List.set_cons_succ]
            refine wpAnyH_take (i := 13) (oi := ⟨some 79, _, _, _, _, _⟩) (v := .slice ar (kB16 F.io l j n).length cr) rfl (by kernel_rfl) (by kernel_rfl) (by kernel_rfl) (fun _ _ _ h => h) (Or.inl ⟨by rfl, fun w hSw => by go_simp⟩) hH ?_
            try simp only [Act.put, List.setIfInBounds_toArray, List.set_cons_zero, List.set_cons_succ]
            have HKP : Hid (0 < (kB16 F.io l j n).length) := by
              obtain ⟨m, rfl⟩ : ∃ m, n = m + 1 := ⟨n - 1, by omega⟩
              have hm : l[j + m]? = some (l[j + m]'(by omega)) := List.getElem?_eq_getElem _
              show 0 < (kB16 F.io l j (m + 1)).length
              rw [kB16_next hm]
              simp only [List.length_append, sto_length]
              omega
            refine wpAnyH_ready (rs := [3]) (by kernel_rfl) (by simp) ?_
            refine AllReadyH.cons rfl (fun K1 hK => ?_) AllReadyH.nil
            go_simp
            have hw := store_own (n : Int) 2 WW (by decide) (by omega) (by omega)
            go_wp2_with (go_at_call 26; (refine hw.mono ?_); rintro e V3 ⟨u, rfl, ou, gu⟩; obtain ⟨bs, ks, rfl, PS⟩ := Pd16.new ou (sto_byt _ _) (by unfold maxLen; omega) HC.out.b; have HC3 : Hid _ := HC.out.keep gu; have PR := PR.kept gu; clear ou gu)
            clear hw HC
            refine hK.out _ _ (HFC.out _ HC3.out.gr) (fun _ => ?_)
            clear hK K1
            refine wpAnyH_ready (rs := [4]) (by kernel_rfl) (by simp) ?_
            refine AllReadyH.cons rfl (fun K1 hK => ?_) AllReadyH.nil
            refine step_append16 (by rfl) _ _ 25 (by rfl) w.heap.size i5 Try.underlying25 hi hz0 hz1 hz2 _ _ _ (by rfl) HC3.out.b bs 2 ks _ (by rfl) PS (by decide) (by omega) HC3.out.gr.size ?_
            intro v4 V4 oo gg vv
            have HC4 : Hid _ := HC3.out.app oo gg
            have PR := PR.app (base := 0) (n := 0) (n' := 0) (ys := []) gg vv
            clear oo gg vv PS HC3
            refine hK.out _ _ (HFC.out _ HC4.out.gr) (fun _ => ?_)
            clear hK K1
            try simp only [Act.put, List.setIfInBounds_toArray, List.set_cons_zero, List.set_cons_succ]
            refine wpAnyH_ready (rs := [11]) (by kernel_rfl) (by simp) ?_
            refine AllReadyH.cons rfl (fun K1 hK => ?_) AllReadyH.nil
            go_simp
            have hw := store_own (F.io) 4 V4 (by decide) (by omega) (by omega)
            go_wp2_with (go_at_call 26; (refine hw.mono ?_); rintro e V11 ⟨u, rfl, ou, gu⟩; obtain ⟨bs, ks, rfl, PS⟩ := Pd16.new ou (sto_byt _ _) (by unfold maxLen; omega) HC4.out.b; have HC11 : Hid _ := HC4.out.keep gu; have PR := PR.kept gu; clear ou gu)
            clear hw HC4
            refine hK.out _ _ (HFC.out _ HC11.out.gr) (fun _ => ?_)
            clear hK K1
            refine wpAnyH_ready (rs := [12]) (by kernel_rfl) (by simp) ?_
            refine AllReadyH.cons rfl (fun K1 hK => ?_) AllReadyH.nil
            refine step_append16 (by rfl) _ _ 25 (by rfl) w.heap.size i5 Try.underlying25 hi hz0 hz1 hz2 _ _ _ (by rfl) HC11.out.b bs 4 ks _ (by rfl) PS (by decide) (by omega) HC11.out.gr.size ?_
            intro v12 V12 oo gg vv
            have HC12 : Hid _ := HC11.out.app oo gg
            have PR := PR.app (base := 0) (n := 0) (n' := 0) (ys := []) gg vv
            clear oo gg vv PS HC11
            refine hK.out _ _ (HFC.out _ HC12.out.gr) (fun _ => ?_)
            clear hK K1
            try simp only [Act.put, List.setIfInBounds_toArray, List.set_cons_zero, List.set_cons_succ]
            refine wpAnyH_ready (rs := [14]) (by kernel_rfl) (by simp) ?_
            refine AllReadyH.cons rfl (fun K1 hK => ?_) AllReadyH.nil
            refine step_append16 (by rfl) _ _ 25 (by rfl) w.heap.size i5 Try.underlying25 hi hz0 hz1 hz2 _ _ _ (by rfl) HC12.out.b ar _ cr _ (by rfl) PR (by have := HKP.out; omega) (by omega) HC12.out.gr.size ?_
            intro v14 V14 oo gg vv
            have HC14 : Hid _ := HC12.out.app oo gg
            clear oo gg vv PR HC12
            refine hK.out _ _ (HFC.out _ HC14.out.gr) (fun _ => ?_)
            clear hK K1
            try simp only [Act.put, List.setIfInBounds_toArray, List.set_cons_zero, List.set_cons_succ]
            refine wpAnyH_ready (rs := [15]) (by kernel_rfl) (by simp) ?_
            refine AllReadyH.cons rfl (fun K1 hK => ?_) AllReadyH.nil
            go_simp
            have HC15 := HC14
            refine hK.out _ _ (HFC.out _ HC15.out.gr) (fun _ => ?_)
            clear hK K1 HC14
            refine wpAnyH_done (by kernel_rfl) ?_ _
            clear w4 w5 hFk
            go_wp2_with fail
            go_roundw
            case rel =>
              refine ⟨j + n, k, xb ++ sto (n : Int) 2 ++ sto F.io 4 ++ kB16 F.io l j n, by go_num, by omega, ?_, HBK.out, by omega⟩
              have h9 := HC15.out
              simpa only [List.append_assoc, List.length_append, List.length_cons, List.length_nil, sto_length, Nat.add_assoc, Nat.zero_add] using h9
            case measure => clear hwjn; simp [intOf]; omega
          · have hni : (n : Int) < (256 : Int) := by omega
            by_cases c3 : X.io < F.io
            · skip
              have e3 : decide (F.io ≤ X.io) = false := decide_eq_false (Int.not_le.2 c3)
              have hnd : decide ((n : Int) < (256 : Int)) = true := decide_eq_true hni
              have hjd : decide ((j : Int) + (n : Int) < (len : Int)) = true := decide_eq_true hjni
              have HN : Hid (inr16 (l.drop j) = n) := HQ.out n hn hjn HR.out.2 (Or.inr (Or.inr ⟨X, hX, c3⟩))
              clear c1 c3 hlt2
              have hn1 : 1 ≤ n := by
                have h1 := inr16_pos (l := l.drop j) (fun e => by have := HD0.out.2; rw [e] at this; simp at this; omega)
                rw [HN.out] at h1
                exact h1
              have hkl : (kB16 F.io l j n).length ≤ 258 * 256 := Nat.le_trans (kB16_len HZ.out) (Nat.mul_le_mul_left _ hn)
              obtain ⟨hYc, ar, cr, hu6, hPR⟩ := HR.out.1.stop (kB16_byt HZ.out) (by unfold maxLen; omega)
              subst hu6
              have hBK : EB = (xb ++ sto (n : Int) 2 ++ sto F.io 4 ++ kB16 F.io l j n) ++ enbK k (l.drop (j + n)) := by
                have e := HBB.out
                rw [HN.out, List.drop_drop, rowB_head (F := F) (by rw [List.getElem?_take, if_pos (show 0 < n by omega)]; exact HD0.out.1)] at e
                have el : ((l.drop j).take n).length = n := by rw [List.length_take, HD0.out.2]; omega
                rw [el] at e
                rw [e]
                simp only [List.append_assoc]
                rfl
              have hbl : xb.length + 6 + (kB16 F.io l j n).length ≤ 264 * 100000 := by
                have e := congrArg List.length hBK
                simp only [List.length_append, sto_length] at e
                have := HEB.out.1
                omega
              have hFk := HFk.out
              have HYc : Hid _ := hYc
              have HPR : Hid _ := hPR
              have HBK : Hid _ := hBK
              clear hYc hPR hBK
              have w4 : IntKind.u64.wrap (n : Int) = (n : Int) := u64_wrap_in _ (by omega) (by omega)
              have w5 : IntKind.u64.wrap F.io = F.io := u64_wrap_in _ (by omega) (by omega)
              go_wp2_with fail
              go_quiet (fail)
              have hGd : World.grownBy wr (wr.drewN nq) none := ⟨rfl, rfl, rfl, Nat.le_refl _, fun _ _ _ => rfl⟩
              generalize wr.drewN nq = Wd at *
              go_wp2_with fail
              have hGd2 : World.grownBy wr Wd.drew none := grown_trans hGd ⟨rfl, rfl, rfl, Nat.le_refl _, fun _ _ _ => rfl⟩
              have HC : Hid _ := HYc.out.keep hGd2
              have PR := HPR.out.kept hGd2
              clear HYc HPR hGd hGd2 HR
              have hFc : ∀ W, w.grownBy W none → W.cell? ⟨b, off + j * 2 + 1, none⟩ = some (.int .i64 F.io) := fun W k => cell_grown16 (HCC.out j F HF.out).c1 k
              have HFC : Hid _ := hFc
              clear hFc
              refine wp_region_held_drew (S := fun w' => w'.cell? ⟨b, off + j * 2 + 1, none⟩ = some (.int .i64 F.io)) (by kernel_rfl) (HFC.out _ HC.out.gr) (fun hH => ?_)
              generalize Wd.drew = WW at *
              refine wpAnyH_take (i := 0) (oi := ⟨some 66, _, _, _, _, _⟩) (v := u3) rfl (by kernel_rfl) (by kernel_rfl) (by kernel_rfl) (fun _ _ _ h => h) (Or.inl ⟨by rfl, fun w hSw => by go_simp⟩) hH ?_
              try simp only [Act.put, List.setIfInBounds_toArray, List.set_cons_zero, List.set_cons_succ]
              refine wpAnyH_take (i := 1) (oi := ⟨some 67, _, _, _, _, _⟩) (v := .int .i64 n) rfl (by kernel_rfl) (by kernel_rfl) (by kernel_rfl) (fun _ _ _ h => h) (Or.inl ⟨by rfl, fun w hSw => by go_simp⟩) hH ?_
              try simp only [Act.put, List.setIfInBounds_toArray, List.set_cons_zero, List.set_cons_succ]
              refine wpAnyH_take (i := 2) (oi := ⟨some 68, _, _, _, _, _⟩) (v := .int .u64 (n : Int)) rfl (by kernel_rfl) (by kernel_rfl) (by kernel_rfl) (fun _ _ _ h => h) (Or.inl ⟨by rfl, fun w hSw => by go_simp⟩) hH ?_
              try simp only [Act.put, List.setIfInBounds_toArray, List.set_cons_zero, List.set_cons_succ]
              refine wpAnyH_take (i := 5) (oi := ⟨some 71, _, _, _, _, _⟩) (v := .slice (some ⟨b, off, none⟩) len cap) rfl (by kernel_rfl) (by kernel_rfl) (by kernel_rfl) (fun _ _ _ h => h) (Or.inl ⟨by rfl, fun w hSw => by go_simp⟩) hH ?_
              try simp only [Act.put, List.setIfInBounds_toArray, List.set_cons_zero, List.set_cons_succ]
              refine wpAnyH_take (i := 6) (oi := ⟨some 72, _, _, _, _, _⟩) (v := .int .i64 j) rfl (by kernel_rfl) (by kernel_rfl) (by kernel_rfl) (fun _ _ _ h => h) (Or.inl ⟨by rfl, fun w hSw => by go_simp⟩) hH ?_
              try simp only [Act.put, List.setIfInBounds_toArray, List.set_cons_zero, List.set_cons_succ]
              refine wpAnyH_take (i := 7) (oi := ⟨some 73, _, _, _, _, _⟩) (v := .pointer (some ⟨b, off + j * 2, none⟩)) rfl (by kernel_rfl) (by kernel_rfl) (by kernel_rfl) (fun _ _ _ h => h) (Or.inl ⟨by rfl, fun w hSw => by go_simp⟩) hH ?_
              try simp only [Act.put, List.setIfInBounds_toArray, List.set_cons_zero, List.set_cons_succ]
              refine wpAnyH_take (i := 8) (oi := ⟨some 74, _, _, _, _, _⟩) (v := .pointer (some ⟨b, off + j * 2 + 1, none⟩)) rfl (by kernel_rfl) (by kernel_rfl) (by kernel_rfl) (fun _ _ _ h => h) (Or.inl ⟨by rfl, fun w hSw => by go_simp⟩) hH ?_
              try simp only [Act.put, List.setIfInBounds_toArray, List.set_cons_zero, List.set_cons_succ]
              refine wpAnyH_take (i := 9) (oi := ⟨some 75, _, _, _, _, _⟩) (v := .int .i64 F.io) rfl (by kernel_rfl) (by kernel_rfl) (by kernel_rfl) (fun _ _ _ h => h) (Or.inl ⟨by rfl, fun w hSw => by go_simp⟩) hH ?_
              try simp only [Act.put, List.setIfInBounds_toArray, List.set_cons_zero, List.set_cons_succ]
              refine wpAnyH_take (i := 10) (oi := ⟨some 76, _, _, _, _, _⟩) (v := .int .u64 F.io) rfl (by kernel_rfl) (by kernel_rfl) (by kernel_rfl) (fun _ _ _ h => h) (Or.inl ⟨by rfl, fun w hSw => by go_simp⟩) hH ?_
              try simp only [Act.put, List.setIfInBounds_toArray, List.set_cons_zero, List.set_cons_succ]
              refine wpAnyH_take (i := 13) (oi := ⟨some 79, _, _, _, _, _⟩) (v := .slice ar (kB16 F.io l j n).length cr) rfl (by kernel_rfl) (by kernel_rfl) (by kernel_rfl) (fun _ _ _ h => h) (Or.inl ⟨by rfl, fun w hSw => by go_simp⟩) hH ?_
              try simp only [Act.put, List.setIfInBounds_toArray, List.set_cons_zero, List.set_cons_succ]
              have HKP : Hid (0 < (kB16 F.io l j n).length) := by
                obtain ⟨m, rfl⟩ : ∃ m, n = m + 1 := ⟨n - 1, by omega⟩
                have hm : l[j + m]? = some (l[j + m]'(by omega)) := List.getElem?_eq_getElem _
                show 0 < (kB16 F.io l j (m + 1)).length
                rw [kB16_next hm]
                simp only [List.length_append, sto_length]
                omega
              refine wpAnyH_ready (rs := [3]) (by kernel_rfl) (by simp) ?_
              refine AllReadyH.cons rfl (fun K1 hK => ?_) AllReadyH.nil
              go_simp
              have hw := store_own (n : Int) 2 WW (by decide) (by omega) (by omega)
              go_wp2_with (go_at_call 26; (refine hw.mono ?_); rintro e V3 ⟨u, rfl, ou, gu⟩; obtain ⟨bs, ks, rfl, PS⟩ := Pd16.new ou (sto_byt _ _) (by unfold maxLen; omega) HC.out.b; have HC3 : Hid _ := HC.out.keep gu; have PR := PR.kept gu; clear ou gu)
              clear hw HC
              refine hK.out _ _ (HFC.out _ HC3.out.gr) (fun _ => ?_)
              clear hK K1
              refine wpAnyH_ready (rs := [4]) (by kernel_rfl) (by simp) ?_
              refine AllReadyH.cons rfl (fun K1 hK => ?_) AllReadyH.nil
              refine step_append16 (by rfl) _ _ 25 (by rfl) w.heap.size i5 Try.underlying25 hi hz0 hz1 hz2 _ _ _ (by rfl) HC3.out.b bs 2 ks _ (by rfl) PS (by decide) (by omega) HC3.out.gr.size ?_
              intro v4 V4 oo gg vv
              have HC4 : Hid _ := HC3.out.app oo gg
              have PR := PR.app (base := 0) (n := 0) (n' := 0) (ys := []) gg vv
              clear oo gg vv PS HC3
              refine hK.out _ _ (HFC.out _ HC4.out.gr) (fun _ => ?_)
              clear hK K1
              try simp only [Act.put, List.setIfInBounds_toArray, List.set_cons_zero, List.set_cons_succ]
              refine wpAnyH_ready (rs := [11]) (by kernel_rfl) (by simp) ?_
              refine AllReadyH.cons rfl (fun K1 hK => ?_) AllReadyH.nil
              go_simp
              have hw := store_own (F.io) 4 V4 (by decide) (by omega) (by omega)
              go_wp2_with (go_at_call 26; (refine hw.mono ?_); rintro e V11 ⟨u, rfl, ou, gu⟩; obtain ⟨bs, ks, rfl, PS⟩ := Pd16.new ou (sto_byt _ _) (by unfold maxLen; omega) HC4.out.b; have HC11 : Hid _ := HC4.out.keep gu; have PR := PR.kept gu; clear ou gu)
              clear hw HC4
              refine hK.out _ _ (HFC.out _ HC11.out.gr) (fun _ => ?_)
              clear hK K1
              refine wpAnyH_ready (rs := [12]) (by kernel_rfl) (by simp) ?_
              refine AllReadyH.cons rfl (fun K1 hK => ?_) AllReadyH.nil
              refine step_append16 (by rfl) _ _ 25 (by rfl) w.heap.size i5 Try.underlying25 hi hz0 hz1 hz2 _ _ _ (by rfl) HC11.out.b bs 4 ks _ (by rfl) PS (by decide) (by omega) HC11.out.gr.size ?_
              intro v12 V12 oo gg vv
              have HC12 : Hid _ := HC11.out.app oo gg
              have PR := PR.app (base := 0) (n := 0) (n' := 0) (ys := []) gg vv
              clear oo gg vv PS HC11
              refine hK.out _ _ (HFC.out _ HC12.out.gr) (fun _ => ?_)
              clear hK K1
              try simp only [Act.put, List.setIfInBounds_toArray, List.set_cons_zero, List.set_cons_succ]
              refine wpAnyH_ready (rs := [14]) (by kernel_rfl) (by simp) ?_
              refine AllReadyH.cons rfl (fun K1 hK => ?_) AllReadyH.nil
              refine step_append16 (by rfl) _ _ 25 (by rfl) w.heap.size i5 Try.underlying25 hi hz0 hz1 hz2 _ _ _ (by rfl) HC12.out.b ar _ cr _ (by rfl) PR (by have := HKP.out; omega) (by omega) HC12.out.gr.size ?_
              intro v14 V14 oo gg vv
              have HC14 : Hid _ := HC12.out.app oo gg
              clear oo gg vv PR HC12
              refine hK.out _ _ (HFC.out _ HC14.out.gr) (fun _ => ?_)
              clear hK K1
              try simp only [Act.put, List.setIfInBounds_toArray, List.set_cons_zero, List.set_cons_succ]
              refine wpAnyH_ready (rs := [15]) (by kernel_rfl) (by simp) ?_
              refine AllReadyH.cons rfl (fun K1 hK => ?_) AllReadyH.nil
              go_simp
              have HC15 := HC14
              refine hK.out _ _ (HFC.out _ HC15.out.gr) (fun _ => ?_)
              clear hK K1 HC14
              refine wpAnyH_done (by kernel_rfl) ?_ _
              clear w4 w5 hFk
              go_wp2_with fail
              go_roundw
              case rel =>
                refine ⟨j + n, k, xb ++ sto (n : Int) 2 ++ sto F.io 4 ++ kB16 F.io l j n, by go_num, by omega, ?_, HBK.out, by omega⟩
                have h9 := HC15.out
                simpa only [List.append_assoc, List.length_append, List.length_cons, List.length_nil, sto_length, Nat.add_assoc, Nat.zero_add] using h9
              case measure => clear hwjn; simp [intOf]; omega
            · skip
              have e3 : F.io ≤ X.io := Int.not_lt.1 c3
              go_wp2_with fail
              go_quiet (fail)
              have hYd := HR.out.1.keep (show World.grownBy wr (wr.drewN nq) none from ⟨rfl, rfl, rfl, Nat.le_refl _, fun _ _ _ => rfl⟩)
              have xd0 : (wr.drewN nq).cell? ⟨b, off + (j + n) * 2, none⟩ = _ := x0
              have xd1 : (wr.drewN nq).cell? ⟨b, off + (j + n) * 2 + 1, none⟩ = _ := x1
              have fd1 : (wr.drewN nq).cell? ⟨b, off + j * 2 + 1, none⟩ = _ := f1
              have hGd : World.grownBy wr (wr.drewN nq) none := ⟨rfl, rfl, rfl, Nat.le_refl _, fun _ _ _ => rfl⟩
              generalize wr.drewN nq = Wd at *
              have HGd : Hid (World.grownBy wr Wd none) := hGd
              clear hGd
              have hBn := Bx.new Wd 41 [.string ⟨#[]⟩, .int .i64 0]
              go_wp2_with ((with_reducible refine storeK_here ?_); refine wpList_storeB16 rfl 41 _ _ rfl Wd.heap.size [.string X.nm, .int .i64 X.io] rfl rfl hBn infoK16 rfl rfl ?_; intro W5 b5 g5)
              have hG5 : World.grownBy wr W5 none := grown_new (grown_trans (show World.grownBy wr Wd none from HGd.out) (World.grownBy_alloc Wd _ none)) g5 HGd.out.size
              have HY0 : Hid (Yk16 w W5 _ _ xb.length xb _ (kB16 F.io l j n).length (kB16 F.io l j n) Wd.heap.size X b (off + j * 2 + 1) F.io) := ⟨HR.out.1.keep hG5, b5, (HCC.out j F HF.out).c1⟩
              have HP : Hid (∀ i k, i < n + 1 → l[j + i]? = some k → F.io ≤ k.io) := fun i k hi hk => by
                by_cases q : i = n
                · subst q
                  rw [hX] at hk
                  injection hk with hk
                  rw [← hk]
                  exact e3
                · exact HR.out.2 i k (by omega) hk
              have HNX : Hid _ := kB16_next (f := F.io) hX
              have hXk := HKK.out X (List.mem_of_getElem? hX)
              have hFk := HFk.out
              have w1 : IntKind.i64.wrap (X.io - F.io) = X.io - F.io := by rw [IntKind.wrap_i64]; omega
              have w2 : IntKind.u64.wrap (X.io - F.io) = X.io - F.io := u64_wrap_in _ (by omega) (by omega)
              have w3 : IntKind.u8.wrap (X.nm.size : Int) = (X.nm.size : Int) := by rw [IntKind.wrap_u8]; omega
              have hkl : (kB16 F.io l j n).length ≤ 258 * 256 := Nat.le_trans (kB16_len HZ.out) (Nat.mul_le_mul_left _ hn)
              have hwn : IntKind.i64.wrap ((n : Int) + 1) = (n : Int) + 1 := by rw [IntKind.wrap_i64]; omega
              clear HR x0 x1 f1 xd0 xd1 fd1 b5 g5 hBn hYd c1 c3 hX hG5 HGd
              generalize Wd.heap.size = gk at *
              clear hwG
              go_wp2_with fail
              have HD : Hid _ := HY0.out.keep (show World.grownBy W5 W5.drew none from ⟨rfl, rfl, rfl, Nat.le_refl _, fun _ _ _ => rfl⟩)
              clear HY0
              refine wp_region_held_drew (S := fun w' => w'.cell? ⟨gk, 0, none⟩ = some (.string X.nm) ∧ w'.cell? ⟨gk, 1, none⟩ = some (.int .i64 X.io) ∧ w'.cell? ⟨b, off + j * 2 + 1, none⟩ = some (.int .i64 F.io)) (by kernel_rfl) HD.out.cells (fun hH => ?_)
              generalize W5.drew = WW at *
              refine wpAnyH_take (i := 0) (oi := ⟨some 43, _, _, _, _, _⟩) (v := u6) rfl (by kernel_rfl) (by kernel_rfl) (by kernel_rfl) (fun _ _ _ h => h) (Or.inl ⟨by rfl, fun w hSw => by go_simp⟩) hH ?_
              try simp only [Act.put, List.setIfInBounds_toArray, List.set_cons_zero, List.set_cons_succ]
              refine wpAnyH_take (i := 1) (oi := ⟨some 44, _, _, _, _, _⟩) (v := .pointer (some ⟨gk, 1, none⟩)) rfl (by kernel_rfl) (by kernel_rfl) (by kernel_rfl) (fun _ _ _ h => h) (Or.inl ⟨by rfl, fun w hSw => by go_simp⟩) hH ?_
              try simp only [Act.put, List.setIfInBounds_toArray, List.set_cons_zero, List.set_cons_succ]
              refine wpAnyH_take (i := 2) (oi := ⟨some 45, _, _, _, _, _⟩) (v := .int .i64 X.io) rfl (by kernel_rfl) (by kernel_rfl) (by kernel_rfl) (fun _ _ _ h => h) (Or.inl ⟨by rfl, fun w hSw => by obtain ⟨q0, q1, q2⟩ := hSw; go_simp⟩) hH ?_
              try simp only [Act.put, List.setIfInBounds_toArray, List.set_cons_zero, List.set_cons_succ]
              refine wpAnyH_take (i := 3) (oi := ⟨some 46, _, _, _, _, _⟩) (v := .slice (some ⟨b, off, none⟩) len cap) rfl (by kernel_rfl) (by kernel_rfl) (by kernel_rfl) (fun _ _ _ h => h) (Or.inl ⟨by rfl, fun w hSw => by go_simp⟩) hH ?_
              try simp only [Act.put, List.setIfInBounds_toArray, List.set_cons_zero, List.set_cons_succ]
              refine wpAnyH_take (i := 4) (oi := ⟨some 47, _, _, _, _, _⟩) (v := .int .i64 j) rfl (by kernel_rfl) (by kernel_rfl) (by kernel_rfl) (fun _ _ _ h => h) (Or.inl ⟨by rfl, fun w hSw => by go_simp⟩) hH ?_
              try simp only [Act.put, List.setIfInBounds_toArray, List.set_cons_zero, List.set_cons_succ]
              refine wpAnyH_take (i := 5) (oi := ⟨some 48, _, _, _, _, _⟩) (v := .pointer (some ⟨b, off + j * 2, none⟩)) rfl (by kernel_rfl) (by kernel_rfl) (by kernel_rfl) (fun _ _ _ h => h) (Or.inl ⟨by rfl, fun w hSw => by go_simp⟩) hH ?_
              try simp only [Act.put, List.setIfInBounds_toArray, List.set_cons_zero, List.set_cons_succ]
              refine wpAnyH_take (i := 6) (oi := ⟨some 49, _, _, _, _, _⟩) (v := .pointer (some ⟨b, off + j * 2 + 1, none⟩)) rfl (by kernel_rfl) (by kernel_rfl) (by kernel_rfl) (fun _ _ _ h => h) (Or.inl ⟨by rfl, fun w hSw => by go_simp⟩) hH ?_
              try simp only [Act.put, List.setIfInBounds_toArray, List.set_cons_zero, List.set_cons_succ]
              refine wpAnyH_take (i := 7) (oi := ⟨some 50, _, _, _, _, _⟩) (v := .int .i64 F.io) rfl (by kernel_rfl) (by kernel_rfl) (by kernel_rfl) (fun _ _ _ h => h) (Or.inl ⟨by rfl, fun w hSw => by obtain ⟨q0, q1, q2⟩ := hSw; go_simp⟩) hH ?_
              try simp only [Act.put, List.setIfInBounds_toArray, List.set_cons_zero, List.set_cons_succ]
              refine wpAnyH_take (i := 8) (oi := ⟨some 51, _, _, _, _, _⟩) (v := .int .i64 (X.io - F.io)) rfl (by kernel_rfl) (by kernel_rfl) (by kernel_rfl) (fun _ _ _ h => h) (Or.inl ⟨by rfl, fun w hSw => by go_simp⟩) hH ?_
              try simp only [Act.put, List.setIfInBounds_toArray, List.set_cons_zero, List.set_cons_succ]
              refine wpAnyH_take (i := 9) (oi := ⟨some 52, _, _, _, _, _⟩) (v := .int .u64 (X.io - F.io)) rfl (by kernel_rfl) (by kernel_rfl) (by kernel_rfl) (fun _ _ _ h => h) (Or.inl ⟨by rfl, fun w hSw => by go_simp⟩) hH ?_
              try simp only [Act.put, List.setIfInBounds_toArray, List.set_cons_zero, List.set_cons_succ]
              refine wpAnyH_take (i := 12) (oi := ⟨some 55, _, _, _, _, _⟩) (v := .pointer (some ⟨gk, 0, none⟩)) rfl (by kernel_rfl) (by kernel_rfl) (by kernel_rfl) (fun _ _ _ h => h) (Or.inl ⟨by rfl, fun w hSw => by go_simp⟩) hH ?_
              try simp only [Act.put, List.setIfInBounds_toArray, List.set_cons_zero, List.set_cons_succ]
              refine wpAnyH_take (i := 13) (oi := ⟨some 56, _, _, _, _, _⟩) (v := .string X.nm) rfl (by kernel_rfl) (by kernel_rfl) (by kernel_rfl) (fun _ _ _ h => h) (Or.inl ⟨by rfl, fun w hSw => by obtain ⟨q0, q1, q2⟩ := hSw; go_simp⟩) hH ?_
              try simp only [Act.put, List.setIfInBounds_toArray, List.set_cons_zero, List.set_cons_succ]
              refine wpAnyH_take (i := 14) (oi := ⟨some 57, _, _, _, _, _⟩) (v := .int .i64 (X.nm.size : Int)) rfl (by kernel_rfl) (by kernel_rfl) (by kernel_rfl) (fun _ _ _ h => h) (Or.inl ⟨by rfl, fun w hSw => by go_simp⟩) hH ?_
              try simp only [Act.put, List.setIfInBounds_toArray, List.set_cons_zero, List.set_cons_succ]
              refine wpAnyH_take (i := 15) (oi := ⟨some 58, _, _, _, _, _⟩) (v := .int .u8 (X.nm.size : Int)) rfl (by kernel_rfl) (by kernel_rfl) (by kernel_rfl) (fun _ _ _ h => h) (Or.inl ⟨by rfl, fun w hSw => by go_simp⟩) hH ?_
              try simp only [Act.put, List.setIfInBounds_toArray, List.set_cons_zero, List.set_cons_succ]
              refine wpAnyH_take (i := 18) (oi := ⟨some 61, _, _, _, _, _⟩) (v := .pointer (some ⟨gk, 0, none⟩)) rfl (by kernel_rfl) (by kernel_rfl) (by kernel_rfl) (fun _ _ _ h => h) (Or.inl ⟨by rfl, fun w hSw => by go_simp⟩) hH ?_
              try simp only [Act.put, List.setIfInBounds_toArray, List.set_cons_zero, List.set_cons_succ]
              refine wpAnyH_take (i := 19) (oi := ⟨some 62, _, _, _, _, _⟩) (v := .string X.nm) rfl (by kernel_rfl) (by kernel_rfl) (by kernel_rfl) (fun _ _ _ h => h) (Or.inl ⟨by rfl, fun w hSw => by obtain ⟨q0, q1, q2⟩ := hSw; go_simp⟩) hH ?_
              try simp only [Act.put, List.setIfInBounds_toArray, List.set_cons_zero, List.set_cons_succ]
              refine wpAnyH_ready (rs := [10, 16]) (by kernel_rfl) (by simp) ?_
              refine AllReadyH.cons rfl (fun K1 hK => ?_) (AllReadyH.cons rfl (fun K1 hK => ?_) AllReadyH.nil)
              · skip
                go_simp
                have hw := store_own (X.io - F.io) 2 WW (by decide) (by omega) (by omega)
                go_wp2_with (go_at_call 26; (refine hw.mono ?_); rintro e VD10 ⟨u, rfl, ou, gu⟩; obtain ⟨bs, ks, rfl, PS⟩ := Pd16.new ou (sto_byt _ _) (by unfold maxLen; omega) HD.out.y.r; have HD10 : Hid _ := HD.out.keep gu; clear ou gu)
                clear hw HD
                refine hK.out _ _ HD10.out.cells (fun _ => ?_)
                clear hK K1
                refine wpAnyH_ready (rs := [11, 16]) (by kernel_rfl) (by simp) ?_
                refine AllReadyH.cons rfl (fun K1 hK => ?_) (AllReadyH.cons rfl (fun K1 hK => ?_) AllReadyH.nil)
                · skip
                  refine step_append16 (by rfl) _ _ 25 (by rfl) BQ i5 Try.underlying25 hi hz0 hz1 hz2 _ (kB16 F.io l j n).length _ (by rfl) HD10.out.y.r bs 2 ks _ (by rfl) PS (by decide) (by omega) HD10.out.y.BW ?_
                  intro v11 VD10_11 oo gg vv
                  have HD10_11 : Hid _ := HD10.out.row oo gg
                  clear oo gg vv PS HD10
                  refine hK.out _ _ HD10_11.out.cells (fun _ => ?_)
                  clear hK K1
                  try simp only [Act.put, List.setIfInBounds_toArray, List.set_cons_zero, List.set_cons_succ]
                  refine wpAnyH_ready (rs := [16]) (by kernel_rfl) (by simp) ?_
                  refine AllReadyH.cons rfl (fun K1 hK => ?_) AllReadyH.nil
                  have PL := Pd16.lit (W := VD10_11) ((X.nm.size : Nat) : Int) (by omega) HD10_11.out.y.r
                  have HD10_11_16 : Hid _ := HD10_11.out.keep (World.grownBy_alloc VD10_11 (.cells #[.int .u8 (X.nm.size : Int)] 5) none)
                  go_simp
                  generalize VD10_11.alloc (.cells #[.int .u8 (X.nm.size : Int)] 5) = VD10_11_16 at *
                  refine hK.out _ _ HD10_11_16.out.cells (fun _ => ?_)
                  clear hK K1 HD10_11
                  try simp only [Act.put, List.setIfInBounds_toArray, List.set_cons_zero, List.set_cons_succ]
                  refine wpAnyH_ready (rs := [17]) (by kernel_rfl) (by simp) ?_
                  refine AllReadyH.cons rfl (fun K1 hK => ?_) AllReadyH.nil
                  refine step_append16 (by rfl) _ _ 25 (by rfl) BQ i5 Try.underlying25 hi hz0 hz1 hz2 _ _ _ (by rfl) HD10_11_16.out.y.r _ 1 _ _ (by rfl) PL (by decide) (by omega) HD10_11_16.out.y.BW ?_
                  intro v17 VD10_11_16_17 oo gg vv
                  have HD10_11_16_17 : Hid _ := HD10_11_16.out.row oo gg
                  clear oo gg vv PL HD10_11_16
                  refine hK.out _ _ HD10_11_16_17.out.cells (fun _ => ?_)
                  clear hK K1
                  try simp only [Act.put, List.setIfInBounds_toArray, List.set_cons_zero, List.set_cons_succ]
                  refine wpAnyH_ready (rs := [20]) (by kernel_rfl) (by simp) ?_
                  refine AllReadyH.cons rfl (fun K1 hK => ?_) AllReadyH.nil
                  refine step_appendS16 (by rfl) _ _ 25 9 (by rfl) BQ i5 Try.underlying25 Try.underlying9 hi hz0 hz1 hz2 _ _ _ (by rfl) HD10_11_16_17.out.y.r X.nm (by rfl) (by omega) HD10_11_16_17.out.y.BW ?_
                  intro v20 VD10_11_16_17_20 oo gg
                  have HD10_11_16_17_20 : Hid _ := HD10_11_16_17.out.row oo gg
                  clear oo gg HD10_11_16_17
                  refine hK.out _ _ HD10_11_16_17_20.out.cells (fun _ => ?_)
                  clear hK K1
                  try simp only [Act.put, List.setIfInBounds_toArray, List.set_cons_zero, List.set_cons_succ]
                  refine wpAnyH_ready (rs := [21]) (by kernel_rfl) (by simp) ?_
                  refine AllReadyH.cons rfl (fun K1 hK => ?_) AllReadyH.nil
                  go_simp
                  have HD10_11_16_17_20_21 := HD10_11_16_17_20
                  refine hK.out _ _ HD10_11_16_17_20_21.out.cells (fun _ => ?_)
                  clear hK K1 HD10_11_16_17_20
                  refine wpAnyH_done (by kernel_rfl) ?_ _
                  have HY9 : Hid _ := HD10_11_16_17_20_21.out.y
                  clear HD10_11_16_17_20_21 w1 w2 w3 hXk hFk
                  go_wp2_with fail
                  go_roundw
                  case rel =>
                    refine ⟨n + 1, by go_num, by omega, by omega, ?_, HP.out⟩
                    have h9 := HY9.out
                    rw [HNX.out]
                    simpa only [List.append_assoc, List.length_append, List.length_cons, List.length_nil, nums_len, sto_length, Nat.add_assoc, Nat.zero_add] using h9
                  case measure => clear hwn; simp [intOf]; omega
                · skip
                  have PL := Pd16.lit (W := VD10) ((X.nm.size : Nat) : Int) (by omega) HD10.out.y.r
                  have HD10_16 : Hid _ := HD10.out.keep (World.grownBy_alloc VD10 (.cells #[.int .u8 (X.nm.size : Int)] 5) none)
                  have PS := PS.kept (World.grownBy_alloc VD10 (.cells #[.int .u8 (X.nm.size : Int)] 5) none)
                  go_simp
                  generalize VD10.alloc (.cells #[.int .u8 (X.nm.size : Int)] 5) = VD10_16 at *
                  refine hK.out _ _ HD10_16.out.cells (fun _ => ?_)
                  clear hK K1 HD10
                  try simp only [Act.put, List.setIfInBounds_toArray, List.set_cons_zero, List.set_cons_succ]
                  refine wpAnyH_ready (rs := [11]) (by kernel_rfl) (by simp) ?_
                  refine AllReadyH.cons rfl (fun K1 hK => ?_) AllReadyH.nil
                  refine step_append16 (by rfl) _ _ 25 (by rfl) BQ i5 Try.underlying25 hi hz0 hz1 hz2 _ (kB16 F.io l j n).length _ (by rfl) HD10_16.out.y.r bs 2 ks _ (by rfl) PS (by decide) (by omega) HD10_16.out.y.BW ?_
                  intro v11 VD10_11_16 oo gg vv
                  have HD10_11_16 : Hid _ := HD10_16.out.row oo gg
                  have PL := PL.app (base := 0) (n := 0) (n' := 0) (ys := []) gg vv
                  clear oo gg vv PS HD10_16
                  refine hK.out _ _ HD10_11_16.out.cells (fun _ => ?_)
                  clear hK K1
                  try simp only [Act.put, List.setIfInBounds_toArray, List.set_cons_zero, List.set_cons_succ]
                  refine wpAnyH_ready (rs := [17]) (by kernel_rfl) (by simp) ?_
                  refine AllReadyH.cons rfl (fun K1 hK => ?_) AllReadyH.nil
                  refine step_append16 (by rfl) _ _ 25 (by rfl) BQ i5 Try.underlying25 hi hz0 hz1 hz2 _ _ _ (by rfl) HD10_11_16.out.y.r _ 1 _ _ (by rfl) PL (by decide) (by omega) HD10_11_16.out.y.BW ?_
                  intro v17 VD10_11_16_17 oo gg vv
                  have HD10_11_16_17 : Hid _ := HD10_11_16.out.row oo gg
                  clear oo gg vv PL HD10_11_16
                  refine hK.out _ _ HD10_11_16_17.out.cells (fun _ => ?_)
                  clear hK K1
                  try simp only [Act.put, List.setIfInBounds_toArray, List.set_cons_zero, List.set_cons_succ]
                  refine wpAnyH_ready (rs := [20]) (by kernel_rfl) (by simp) ?_
                  refine AllReadyH.cons rfl (fun K1 hK => ?_) AllReadyH.nil
                  refine step_appendS16 (by rfl) _ _ 25 9 (by rfl) BQ i5 Try.underlying25 Try.underlying9 hi hz0 hz1 hz2 _ _ _ (by rfl) HD10_11_16_17.out.y.r X.nm (by rfl) (by omega) HD10_11_16_17.out.y.BW ?_
                  intro v20 VD10_11_16_17_20 oo gg
                  have HD10_11_16_17_20 : Hid _ := HD10_11_16_17.out.row oo gg
                  clear oo gg HD10_11_16_17
                  refine hK.out _ _ HD10_11_16_17_20.out.cells (fun _ => ?_)
                  clear hK K1
                  try simp only [Act.put, List.setIfInBounds_toArray, List.set_cons_zero, List.set_cons_succ]
                  refine wpAnyH_ready (rs := [21]) (by kernel_rfl) (by simp) ?_
                  refine AllReadyH.cons rfl (fun K1 hK => ?_) AllReadyH.nil
                  go_simp
                  have HD10_11_16_17_20_21 := HD10_11_16_17_20
                  refine hK.out _ _ HD10_11_16_17_20_21.out.cells (fun _ => ?_)
                  clear hK K1 HD10_11_16_17_20
                  refine wpAnyH_done (by kernel_rfl) ?_ _
                  have HY9 : Hid _ := HD10_11_16_17_20_21.out.y
                  clear HD10_11_16_17_20_21 w1 w2 w3 hXk hFk
                  go_wp2_with fail
                  go_roundw
                  case rel =>
                    refine ⟨n + 1, by go_num, by omega, by omega, ?_, HP.out⟩
                    have h9 := HY9.out
                    rw [HNX.out]
                    simpa only [List.append_assoc, List.length_append, List.length_cons, List.length_nil, nums_len, sto_length, Nat.add_assoc, Nat.zero_add] using h9
                  case measure => clear hwn; simp [intOf]; omega
              · skip
                have PL := Pd16.lit (W := WW) ((X.nm.size : Nat) : Int) (by omega) HD.out.y.r
                have HD16 : Hid _ := HD.out.keep (World.grownBy_alloc WW (.cells #[.int .u8 (X.nm.size : Int)] 5) none)
                go_simp
                generalize WW.alloc (.cells #[.int .u8 (X.nm.size : Int)] 5) = VD16 at *
                refine hK.out _ _ HD16.out.cells (fun _ => ?_)
                clear hK K1 HD
                try simp only [Act.put, List.setIfInBounds_toArray, List.set_cons_zero, List.set_cons_succ]
                refine wpAnyH_ready (rs := [10]) (by kernel_rfl) (by simp) ?_
                refine AllReadyH.cons rfl (fun K1 hK => ?_) AllReadyH.nil
                go_simp
                have hw := store_own (X.io - F.io) 2 VD16 (by decide) (by omega) (by omega)
                go_wp2_with (go_at_call 26; (refine hw.mono ?_); rintro e VD10_16 ⟨u, rfl, ou, gu⟩; obtain ⟨bs, ks, rfl, PS⟩ := Pd16.new ou (sto_byt _ _) (by unfold maxLen; omega) HD16.out.y.r; have HD10_16 : Hid _ := HD16.out.keep gu; have PL := PL.kept gu; clear ou gu)
                clear hw HD16
                refine hK.out _ _ HD10_16.out.cells (fun _ => ?_)
                clear hK K1
                refine wpAnyH_ready (rs := [11]) (by kernel_rfl) (by simp) ?_
                refine AllReadyH.cons rfl (fun K1 hK => ?_) AllReadyH.nil
                refine step_append16 (by rfl) _ _ 25 (by rfl) BQ i5 Try.underlying25 hi hz0 hz1 hz2 _ (kB16 F.io l j n).length _ (by rfl) HD10_16.out.y.r bs 2 ks _ (by rfl) PS (by decide) (by omega) HD10_16.out.y.BW ?_
                intro v11 VD10_11_16 oo gg vv
                have HD10_11_16 : Hid _ := HD10_16.out.row oo gg
                have PL := PL.app (base := 0) (n := 0) (n' := 0) (ys := []) gg vv
                clear oo gg vv PS HD10_16
                refine hK.out _ _ HD10_11_16.out.cells (fun _ => ?_)
                clear hK K1
                try simp only [Act.put, List.setIfInBounds_toArray, List.set_cons_zero, List.set_cons_succ]
                refine wpAnyH_ready (rs := [17]) (by kernel_rfl) (by simp) ?_
                refine AllReadyH.cons rfl (fun K1 hK => ?_) AllReadyH.nil
                refine step_append16 (by rfl) _ _ 25 (by rfl) BQ i5 Try.underlying25 hi hz0 hz1 hz2 _ _ _ (by rfl) HD10_11_16.out.y.r _ 1 _ _ (by rfl) PL (by decide) (by omega) HD10_11_16.out.y.BW ?_
                intro v17 VD10_11_16_17 oo gg vv
                have HD10_11_16_17 : Hid _ := HD10_11_16.out.row oo gg
                clear oo gg vv PL HD10_11_16
                refine hK.out _ _ HD10_11_16_17.out.cells (fun _ => ?_)
                clear hK K1
                try simp only [Act.put, List.setIfInBounds_toArray, List.set_cons_zero, List.set_cons_succ]
                refine wpAnyH_ready (rs := [20]) (by kernel_rfl) (by simp) ?_
                refine AllReadyH.cons rfl (fun K1 hK => ?_) AllReadyH.nil
                refine step_appendS16 (by rfl) _ _ 25 9 (by rfl) BQ i5 Try.underlying25 Try.underlying9 hi hz0 hz1 hz2 _ _ _ (by rfl) HD10_11_16_17.out.y.r X.nm (by rfl) (by omega) HD10_11_16_17.out.y.BW ?_
                intro v20 VD10_11_16_17_20 oo gg
                have HD10_11_16_17_20 : Hid _ := HD10_11_16_17.out.row oo gg
                clear oo gg HD10_11_16_17
                refine hK.out _ _ HD10_11_16_17_20.out.cells (fun _ => ?_)
                clear hK K1
                try simp only [Act.put, List.setIfInBounds_toArray, List.set_cons_zero, List.set_cons_succ]
                refine wpAnyH_ready (rs := [21]) (by kernel_rfl) (by simp) ?_
                refine AllReadyH.cons rfl (fun K1 hK => ?_) AllReadyH.nil
                go_simp
                have HD10_11_16_17_20_21 := HD10_11_16_17_20
                refine hK.out _ _ HD10_11_16_17_20_21.out.cells (fun _ => ?_)
                clear hK K1 HD10_11_16_17_20
                refine wpAnyH_done (by kernel_rfl) ?_ _
                have HY9 : Hid _ := HD10_11_16_17_20_21.out.y
                clear HD10_11_16_17_20_21 w1 w2 w3 hXk hFk
                go_wp2_with fail
                go_roundw
                case rel =>
                  refine ⟨n + 1, by go_num, by omega, by omega, ?_, HP.out⟩
                  have h9 := HY9.out
                  rw [HNX.out]
                  simpa only [List.append_assoc, List.length_append, List.length_cons, List.length_nil, nums_len, sto_length, Nat.add_assoc, Nat.zero_add] using h9
                case measure => clear hwn; simp [intOf]; omega
        · skip
          have hjni : ¬ (j : Int) + (n : Int) < (len : Int) := by omega
          have hjd : decide ((j : Int) + (n : Int) < (len : Int)) = false := decide_eq_false hjni
          have HN : Hid (inr16 (l.drop j) = n) := HQ.out n hn hjn HR.out.2 (Or.inr (Or.inl (by omega)))
          clear hlt2
          have hn1 : 1 ≤ n := by
            have h1 := inr16_pos (l := l.drop j) (fun e => by have := HD0.out.2; rw [e] at this; simp at this; omega)
            rw [HN.out] at h1
            exact h1
          have hkl : (kB16 F.io l j n).length ≤ 258 * 256 := Nat.le_trans (kB16_len HZ.out) (Nat.mul_le_mul_left _ hn)
          obtain ⟨hYc, ar, cr, hu6, hPR⟩ := HR.out.1.stop (kB16_byt HZ.out) (by unfold maxLen; omega)
          subst hu6
          have hBK : EB = (xb ++ sto (n : Int) 2 ++ sto F.io 4 ++ kB16 F.io l j n) ++ enbK k (l.drop (j + n)) := by
            have e := HBB.out
            rw [HN.out, List.drop_drop, rowB_head (F := F) (by rw [List.getElem?_take, if_pos (show 0 < n by omega)]; exact HD0.out.1)] at e
            have el : ((l.drop j).take n).length = n := by rw [List.length_take, HD0.out.2]; omega
            rw [el] at e
            rw [e]
            simp only [List.append_assoc]
            rfl
          have hbl : xb.length + 6 + (kB16 F.io l j n).length ≤ 264 * 100000 := by
            have e := congrArg List.length hBK
            simp only [List.length_append, sto_length] at e
            have := HEB.out.1
            omega
          have hFk := HFk.out
          have HYc : Hid _ := hYc
          have HPR : Hid _ := hPR
          have HBK : Hid _ := hBK
          clear hYc hPR hBK
          have w4 : IntKind.u64.wrap (n : Int) = (n : Int) := u64_wrap_in _ (by omega) (by omega)
          have w5 : IntKind.u64.wrap F.io = F.io := u64_wrap_in _ (by omega) (by omega)
          go_wp2_with fail
          go_quiet (fail)
          have hGd : World.grownBy wr (wr.drewN nq) none := ⟨rfl, rfl, rfl, Nat.le_refl _, fun _ _ _ => rfl⟩
          generalize wr.drewN nq = Wd at *
          go_wp2_with fail
          have hGd2 : World.grownBy wr Wd.drew none := grown_trans hGd ⟨rfl, rfl, rfl, Nat.le_refl _, fun _ _ _ => rfl⟩
          have HC : Hid _ := HYc.out.keep hGd2
          have PR := HPR.out.kept hGd2
          clear HYc HPR hGd hGd2 HR
          have hFc : ∀ W, w.grownBy W none → W.cell? ⟨b, off + j * 2 + 1, none⟩ = some (.int .i64 F.io) := fun W k => cell_grown16 (HCC.out j F HF.out).c1 k
          have HFC : Hid _ := hFc
          clear hFc
          refine wp_region_held_drew (S := fun w' => w'.cell? ⟨b, off + j * 2 + 1, none⟩ = some (.int .i64 F.io)) (by kernel_rfl) (HFC.out _ HC.out.gr) (fun hH => ?_)
          generalize Wd.drew = WW at *
          refine wpAnyH_take (i := 0) (oi := ⟨some 66, _, _, _, _, _⟩) (v := u3) rfl (by kernel_rfl) (by kernel_rfl) (by kernel_rfl) (fun _ _ _ h => h) (Or.inl ⟨by rfl, fun w hSw => by go_simp⟩) hH ?_
          try simp only [Act.put, List.setIfInBounds_toArray, List.set_cons_zero, List.set_cons_succ]
          refine wpAnyH_take (i := 1) (oi := ⟨some 67, _, _, _, _, _⟩) (v := .int .i64 n) rfl (by kernel_rfl) (by kernel_rfl) (by kernel_rfl) (fun _ _ _ h => h) (Or.inl ⟨by rfl, fun w hSw => by go_simp⟩) hH ?_
          try simp only [Act.put, List.setIfInBounds_toArray, List.set_cons_zero, List.set_cons_succ]
          refine wpAnyH_take (i := 2) (oi := ⟨some 68, _, _, _, _, _⟩) (v := .int .u64 (n : Int)) rfl (by kernel_rfl) (by kernel_rfl) (by kernel_rfl) (fun _ _ _ h => h) (Or.inl ⟨by rfl, fun w hSw => by go_simp⟩) hH ?_
          try simp only [Act.put, List.setIfInBounds_toArray, List.set_cons_zero, List.set_cons_succ]
          refine wpAnyH_take (i := 5) (oi := ⟨some 71, _, _, _, _, _⟩) (v := .slice (some ⟨b, off, none⟩) len cap) rfl (by kernel_rfl) (by kernel_rfl) (by kernel_rfl) (fun _ _ _ h => h) (Or.inl ⟨by rfl, fun w hSw => by go_simp⟩) hH ?_
          try simp only [Act.put, List.setIfInBounds_toArray, List.set_cons_zero, List.set_cons_succ]
          refine wpAnyH_take (i := 6) (oi := ⟨some 72, _, _, _, _, _⟩) (v := .int .i64 j) rfl (by kernel_rfl) (by kernel_rfl) (by kernel_rfl) (fun _ _ _ h => h) (Or.inl ⟨by rfl, fun w hSw => by go_simp⟩) hH ?_
          try simp only [Act.put, List.setIfInBounds_toArray, List.set_cons_zero, List.set_cons_succ]
          refine wpAnyH_take (i := 7) (oi := ⟨some 73, _, _, _, _, _⟩) (v := .pointer (some ⟨b, off + j * 2, none⟩)) rfl (by kernel_rfl) (by kernel_rfl) (by kernel_rfl) (fun _ _ _ h => h) (Or.inl ⟨by rfl, fun w hSw => by go_simp⟩) hH ?_
          try simp only [Act.put, List.setIfInBounds_toArray, List.set_cons_zero, List.set_cons_succ]
          refine wpAnyH_take (i := 8) (oi := ⟨some 74, _, _, _, _, _⟩) (v := .pointer (some ⟨b, off + j * 2 + 1, none⟩)) rfl (by kernel_rfl) (by kernel_rfl) (by kernel_rfl) (fun _ _ _ h => h) (Or.inl ⟨by rfl, fun w hSw => by go_simp⟩) hH ?_
          try simp only [Act.put, List.setIfInBounds_toArray, List.set_cons_zero, List.set_cons_succ]
          refine wpAnyH_take (i := 9) (oi := ⟨some 75, _, _, _, _, _⟩) (v := .int .i64 F.io) rfl (by kernel_rfl) (by kernel_rfl) (by kernel_rfl) (fun _ _ _ h => h) (Or.inl ⟨by rfl, fun w hSw => by go_simp⟩) hH ?_
          try simp only [Act.put, List.setIfInBounds_toArray, List.set_cons_zero, List.set_cons_succ]
          refine wpAnyH_take (i := 10) (oi := ⟨some 76, _, _, _, _, _⟩) (v := .int .u64 F.io) rfl (by kernel_rfl) (by kernel_rfl) (by kernel_rfl) (fun _ _ _ h => h) (Or.inl ⟨by rfl, fun w hSw => by go_simp⟩) hH ?_
          try simp only [Act.put, List.setIfInBounds_toArray, List.set_cons_zero, List.set_cons_succ]
          refine wpAnyH_take (i := 13) (oi := ⟨some 79, _, _, _, _, _⟩) (v := .slice ar (kB16 F.io l j n).length cr) rfl (by kernel_rfl) (by kernel_rfl) (by kernel_rfl) (fun _ _ _ h => h) (Or.inl ⟨by rfl, fun w hSw => by go_simp⟩) hH ?_
          try simp only [Act.put, List.setIfInBounds_toArray, List.set_cons_zero, List.set_cons_succ]
          have HKP : Hid (0 < (kB16 F.io l j n).length) := by
            obtain ⟨m, rfl⟩ : ∃ m, n = m + 1 := ⟨n - 1, by omega⟩
            have hm : l[j + m]? = some (l[j + m]'(by omega)) := List.getElem?_eq_getElem _
            show 0 < (kB16 F.io l j (m + 1)).length
            rw [kB16_next hm]
            simp only [List.length_append, sto_length]
            omega
          refine wpAnyH_ready (rs := [3]) (by kernel_rfl) (by simp) ?_
          refine AllReadyH.cons rfl (fun K1 hK => ?_) AllReadyH.nil
          go_simp
          have hw := store_own (n : Int) 2 WW (by decide) (by omega) (by omega)
          go_wp2_with (go_at_call 26; (refine hw.mono ?_); rintro e V3 ⟨u, rfl, ou, gu⟩; obtain ⟨bs, ks, rfl, PS⟩ := Pd16.new ou (sto_byt _ _) (by unfold maxLen; omega) HC.out.b; have HC3 : Hid _ := HC.out.keep gu; have PR := PR.kept gu; clear ou gu)
          clear hw HC
          refine hK.out _ _ (HFC.out _ HC3.out.gr) (fun _ => ?_)
          clear hK K1
          refine wpAnyH_ready (rs := [4]) (by kernel_rfl) (by simp) ?_
          refine AllReadyH.cons rfl (fun K1 hK => ?_) AllReadyH.nil
          refine step_append16 (by rfl) _ _ 25 (by rfl) w.heap.size i5 Try.underlying25 hi hz0 hz1 hz2 _ _ _ (by rfl) HC3.out.b bs 2 ks _ (by rfl) PS (by decide) (by omega) HC3.out.gr.size ?_
          intro v4 V4 oo gg vv
          have HC4 : Hid _ := HC3.out.app oo gg
          have PR := PR.app (base := 0) (n := 0) (n' := 0) (ys := []) gg vv
          clear oo gg vv PS HC3
          refine hK.out _ _ (HFC.out _ HC4.out.gr) (fun _ => ?_)
          clear hK K1
          try simp only [Act.put, List.setIfInBounds_toArray, List.set_cons_zero, List.set_cons_succ]
          refine wpAnyH_ready (rs := [11]) (by kernel_rfl) (by simp) ?_
          refine AllReadyH.cons rfl (fun K1 hK => ?_) AllReadyH.nil
          go_simp
          have hw := store_own (F.io) 4 V4 (by decide) (by omega) (by omega)
          go_wp2_with (go_at_call 26; (refine hw.mono ?_); rintro e V11 ⟨u, rfl, ou, gu⟩; obtain ⟨bs, ks, rfl, PS⟩ := Pd16.new ou (sto_byt _ _) (by unfold maxLen; omega) HC4.out.b; have HC11 : Hid _ := HC4.out.keep gu; have PR := PR.kept gu; clear ou gu)
          clear hw HC4
          refine hK.out _ _ (HFC.out _ HC11.out.gr) (fun _ => ?_)
          clear hK K1
          refine wpAnyH_ready (rs := [12]) (by kernel_rfl) (by simp) ?_
          refine AllReadyH.cons rfl (fun K1 hK => ?_) AllReadyH.nil
          refine step_append16 (by rfl) _ _ 25 (by rfl) w.heap.size i5 Try.underlying25 hi hz0 hz1 hz2 _ _ _ (by rfl) HC11.out.b bs 4 ks _ (by rfl) PS (by decide) (by omega) HC11.out.gr.size ?_
          intro v12 V12 oo gg vv
          have HC12 : Hid _ := HC11.out.app oo gg
          have PR := PR.app (base := 0) (n := 0) (n' := 0) (ys := []) gg vv
          clear oo gg vv PS HC11
          refine hK.out _ _ (HFC.out _ HC12.out.gr) (fun _ => ?_)
          clear hK K1
          try simp only [Act.put, List.setIfInBounds_toArray, List.set_cons_zero, List.set_cons_succ]
          refine wpAnyH_ready (rs := [14]) (by kernel_rfl) (by simp) ?_
          refine AllReadyH.cons rfl (fun K1 hK => ?_) AllReadyH.nil
          refine step_append16 (by rfl) _ _ 25 (by rfl) w.heap.size i5 Try.underlying25 hi hz0 hz1 hz2 _ _ _ (by rfl) HC12.out.b ar _ cr _ (by rfl) PR (by have := HKP.out; omega) (by omega) HC12.out.gr.size ?_
          intro v14 V14 oo gg vv
          have HC14 : Hid _ := HC12.out.app oo gg
          clear oo gg vv PR HC12
          refine hK.out _ _ (HFC.out _ HC14.out.gr) (fun _ => ?_)
          clear hK K1
          try simp only [Act.put, List.setIfInBounds_toArray, List.set_cons_zero, List.set_cons_succ]
          refine wpAnyH_ready (rs := [15]) (by kernel_rfl) (by simp) ?_
          refine AllReadyH.cons rfl (fun K1 hK => ?_) AllReadyH.nil
          go_simp
          have HC15 := HC14
          refine hK.out _ _ (HFC.out _ HC15.out.gr) (fun _ => ?_)
          clear hK K1 HC14
          refine wpAnyH_done (by kernel_rfl) ?_ _
          clear w4 w5 hFk
          go_wp2_with fail
          go_roundw
          case rel =>
            refine ⟨j + n, k, xb ++ sto (n : Int) 2 ++ sto F.io 4 ++ kB16 F.io l j n, by go_num, by omega, ?_, HBK.out, by omega⟩
            have h9 := HC15.out
            simpa only [List.append_assoc, List.length_append, List.length_cons, List.length_nil, sto_length, Nat.add_assoc, Nat.zero_add] using h9
          case measure => clear hwjn; simp [intOf]; omega
    · obtain rfl : j = len := by omega
      have hji : ¬ (j : Int) < (j : Int) := by omega
      have hB2 : EB = xb := by
        rw [hB, List.drop_of_length_le (by omega)]
        cases k with
        | zero => simp [enbK, rws16]
        | succ k => simp [enbK, rws16]
      subst hB2
      have HY : Hid _ := hY
      clear hB hY HX
      go_wp2_with fail
      go_ret
      obtain ⟨a2, c2, e2, R2, n2, _, _⟩ := own_bytes HY.out.b HEB.out.2 (by have := HEB.out.1; unfold maxLen; omega)
      exact ⟨a2, c2, by rw [← e2]; rfl, R2, n2, HY.out.gr⟩
end Go.Proofs.Ytngalihnckbkfaa

namespace Go.Proofs.Ytngalihnckbkfaa
open Go.RowKit
set_option maxRecDepth 100000
set_option linter.unusedSimpArgs false
set_option linter.unusedVariables false
theorem pequal16_any (a b : Option Addr) (n c m d : Nat) (xs ys : List Int) (w : World) (R : Row w a n xs) (R2 : Row w b m ys) :
    Calls Try.prog 28 #[.slice a n c, .slice b m d] w fun e w' => e = .returned (.bool (decide (xs = ys))) ∧ w = w' := by
  have k1 := conv_row (P := Try.prog) R c 25 9 Try.underlying25 Try.underlying5 Try.underlying9
  have k2 := conv_row (P := Try.prog) R2 d 25 9 Try.underlying25 Try.underlying5 Try.underlying9
  rw [← str_eq xs ys R.byt R2.byt]
  generalize strOfNums xs = A at *
  generalize strOfNums ys = B at *
  clear R R2
  go_enter Try.func28, Try.ntmps28
  go_wp2
  go_ret
  exact ⟨rfl, rfl⟩
/-- what bytes tell, if they are a right list's -/
def dcd16 (bs : List Int) : List Kx × Int := if rgt16 (tldT bs (bs.length + 1) 0) = true ∧ enb16 (tldT bs (bs.length + 1) 0) = bs then (tldT bs (bs.length + 1) 0, 0) else ([], 6)
def KdPost (w : World) (r : List Kx × Int) (e : Ending) (w' : World) : Prop := ∃ a c, e = .returned (.tuple #[.slice a r.1.length c, .int .i64 r.2]) ∧ Kxs w' a r.1.length r.1 ∧ r.1.length ≤ c ∧ c ≤ maxLen ∧ w.grownBy w' none
theorem kxs_nil16 (w : World) : Kxs w none 0 [] := ⟨rfl, Nat.zero_le _, fun h => absurd h (Nat.lt_irrefl 0)⟩
theorem kdpost_none {w w' : World} {er : Int} (h : w.grownBy w' none) : KdPost w ([], er) (.returned (.tuple #[.slice none 0 0, .int .i64 er])) w' := ⟨none, 0, rfl, kxs_nil16 _, Nat.le_refl _, by unfold maxLen; omega, h⟩
set_option maxHeartbeats 2000000 in
theorem pdecode16_any (a : Option Addr) (len cap : Nat) (bs : List Int) (w : World) (R : Row w a len bs) (hl : len ≤ 300000) :
    Calls Try.prog 14 #[.slice a len cap] w (KdPost w (dcd16 bs)) := by
  have hlb := R.len_eq
  have hT := told16_any a len cap bs w R (by omega)
  obtain ⟨t1, t2⟩ := tldT_len R.byt (bs.length + 1) 0 (Nat.zero_le _)
  have hL : (tldT bs (bs.length + 1) 0).length ≤ 100000 := by omega
  obtain ⟨A, hA⟩ : ∃ A, dcd16 bs = A := ⟨_, rfl⟩
  rw [hA]
  unfold dcd16 at hA
  generalize tldT bs (bs.length + 1) 0 = l at *
  have HA : Hid _ := hA
  clear hA
  have HR : Hid _ := R
  clear t1 R
  go_enter Try.func14, Try.ntmps14
  go_wp2_with (go_at_call 27; refine hT.mono ?_; rintro e w1 ⟨b, c, rfl, hk, h1, h2, g1⟩)
  clear hT
  cases hr : rgt16 l with
  | false =>
    have hE := pencode16_bad b l.length c l w1 hk (fun k h => Nat.le_trans (t2 k h) (by decide)) hr
    go_wp2_with (go_at_call 9; refine hE.mono ?_; rintro e w2 ⟨rfl, g2⟩)
    go_returns
    have e := HA.out
    rw [hr, if_neg (fun h => by cases h.1)] at e
    rw [← e]
    exact kdpost_none (grown_trans g1 g2)
  | true =>
    have hE := pencode16_ok b l.length c l w1 hk h1 h2 hL t2 hr
    go_wp2_with (go_at_call 9; refine hE.mono ?_; rintro e w2 ⟨g, rfl, hb, hg, g2⟩)
    have hby := enb16_byt t2
    have hle := enb16_len t2
    have hrow := hb.row hby (by unfold maxLen; omega)
    have hq := pequal16_any (some ⟨g, 0, none⟩) a (enb16 l).length (enb16 l).length len cap (enb16 l) bs w2 hrow (HR.out.grown (grown_trans g1 g2))
    have hk2 := hk.grown g2
    clear hE hrow hb hk hby hle
    by_cases he : enb16 l = bs
    · rw [decide_eq_true he] at hq
      have HE : Hid _ := he
      clear he
      go_wp2_with (go_at_call 28; refine hq.mono ?_; rintro e w3 ⟨rfl, rfl⟩)
      go_returns
      have e := HA.out
      rw [if_pos ⟨hr, HE.out⟩] at e
      rw [← e]
      exact ⟨b, c, rfl, hk2, h1, h2, grown_trans g1 g2⟩
    · rw [decide_eq_false he] at hq
      have HE : Hid _ := he
      clear he
      go_wp2_with (go_at_call 28; refine hq.mono ?_; rintro e w3 ⟨rfl, rfl⟩)
      go_returns
      have e := HA.out
      rw [if_neg (fun h => HE.out h.2)] at e
      rw [← e]
      exact kdpost_none (grown_trans g1 g2)
end Go.Proofs.Ytngalihnckbkfaa

namespace Go.Proofs.Ytngalihnckbkfaa
open Go.RowKit
set_option maxRecDepth 100000
set_option linter.unusedSimpArgs false
set_option linter.unusedVariables false
theorem le_one16 {bs : List Int} (k : Nat) (h : k < bs.length) : le ((bs.drop k).take 1) = bs.getD k 0 := by
  rw [List.drop_eq_getElem_cons h]
  simp only [List.take_succ_cons, List.take_zero, le]
  rw [List.getD_eq_getElem?_getD, List.getElem?_eq_getElem h]
  simp
theorem vld_size16 {s : ByteArray} (h : vld s.toList = true) : s.size ≤ 255 := by
  unfold vld at h
  simp only [Bool.and_eq_true, decide_eq_true_eq] at h
  have h2 := h.1.1.1.2
  rw [ByteArray.toList_eq] at h2
  simpa using h2
/-- append of one of several cells as a step of a drawn region -/
theorem step_appendK16 {P : Program} {w : World} {ops : Array Oper} {o : Oper} {a : Act} {K : Act → World → Prop} {Q : Exit → Act → World → Prop} {E : Prop} (hgd : o.guard = none) (s x : Operand) (t : TypeId)
    (ho : o.op = .call { callee := .builtin .append, args := #[s, x], argTypes := #[t, t] })
    (base : Nat) (e : TypeId) (i : TypeInfo) (z : Value) (size bytes : Nat) (ht : P.underlying t = some (.slice e)) (hi : P.info? e = some i) (hz : i.zero = some z)
    (hsize : i.size = size) (hby : i.bytes = bytes) (hzs : z.cells.size = size) (hsz : 0 < size)
    (v : Value) (n : Nat) (xs : List Value) (hs : a.eval s = v) (hown : w.ownsRow base e size v n xs)
    (ad : Addr) (m c : Nat) (news : List Value) (hx : a.eval x = .slice (some ad) m c) (hl : news.length = m * size) (hnews : ∀ j u, news[j]? = some u → w.cell? (ad.add j) = some u) (h1 : ∀ u ∈ news, u.oneCell' = true)
    (h63 : n + m ≤ maxLen) (hbytes : (n + m) * bytes ≤ 140737488355328) (hbase : base ≤ w.heap.size)
    (h : ∀ v' w', w'.ownsRow base e size v' (n + m) (xs ++ news) → w.grownBy w' v.ownBlock → K (a.put o.dst v') w') : if Region.wanted o (yielded ops a.tmps) = true then Oper.wp P o a w K Q else E := by
  rw [if_pos (by simp [Region.wanted, hgd])]
  obtain ⟨v', w', hr, h2, h3, h4, h5⟩ := run_append_own_at (P := P) w base t o.type e i z size bytes ht hi hz hsize hby hzs hsz v n xs hown ad m c news hl hnews h1 h63 hbytes hbase
  unfold Oper.wp
  simp [execOp, ho, resolve, invoke, builtin, hs, hx, hr, Result.andThen]
  exact h v' w' h2 h3
/-- names told so far: a row of the call's own -/
structure Dk16 (w W : World) (l : List Kx) (v : Value) : Prop where
  own : W.ownsRow w.heap.size 41 2 v l.length (l.flatMap Kx.cells)
  gr : w.grownBy W none
theorem Dk16.keep {w W W' : World} {l : List Kx} {v : Value} (h : Dk16 w W l v) (k : W.grownBy W' none) : Dk16 w W' l v := ⟨h.own.kept k (by cases v.ownBlock <;> simp), grown_trans h.gr k⟩
theorem Dk16.app {w W W' : World} {l : List Kx} {v v' : Value} (h : Dk16 w W l v) (K : Kx) (o : W'.ownsRow w.heap.size 41 2 v' (l.length + 1) (l.flatMap Kx.cells ++ K.cells)) (k : W.grownBy W' v.ownBlock) : Dk16 w W' (l ++ [K]) v' := by
  refine ⟨by rw [List.length_append, List.flatMap_append]; simpa using o, k.os.trans h.gr.os, k.tape.trans h.gr.tape, k.output.trans h.gr.output, Nat.le_trans h.gr.size k.size, fun j hj _ => ?_⟩
  rw [k.block j (Nat.lt_of_lt_of_le hj h.gr.size) (fun e => by have := (h.own.lt j e.symm).1; omega)]
  exact h.gr.block j hj (by simp)
/-- bytes that are rows to their end, and a right list's: what they tell -/
theorem dcd_of_dc {bs : List Int} {l : List Kx} (h : dcT bs (bs.length + 1) 0 = some l) : dcd16 bs = if rgt16 l = true ∧ enb16 l = bs then (l, 0) else ([], 6) := by
  have e := dcT_tld _ _ h
  unfold dcd16
  rw [e]
/-- others tell nothing -/
theorem dcd_of_no {bs : List Int} (hk : ∀ l, rgt16 l = true → ∀ k ∈ l, k.nm.size ≤ 255 ∧ 0 ≤ k.io ∧ k.io ≤ 16384) (h : dcT bs (bs.length + 1) 0 = none) : dcd16 bs = ([], 6) := by
  unfold dcd16
  refine if_neg fun c => ?_
  have := dcT_enb (hk _ c.1)
  rw [c.2, h] at this
  cases this
set_option maxHeartbeats 16000000 in
theorem rdecode16_any (a : Option Addr) (len cap : Nat) (bs : List Int) (w : World) (R : Row w a len bs) (hc : len ≤ cap) (hcm : cap ≤ maxLen) (hl : len ≤ 100000) :
    Calls Try.prog 16 #[.slice a len cap] w (KdPost w (dcd16 bs)) := by
  have hlb := R.len_eq
  obtain ⟨i5, hi, hz0, hz1, hz2⟩ := info_parts Try.infoKid
  have hD0 : dcT bs (bs.length + 1) 0 = (dcT bs (bs.length + 1) 0).map (([] : List Kx) ++ ·) := by cases dcT bs (bs.length + 1) 0 <;> simp
  have hTL := tldT_len R.byt (bs.length + 1) 0 (Nat.zero_le _)
  have HTL : Hid (∀ l, dcT bs (bs.length + 1) 0 = some l → 3 * l.length ≤ 100000 ∧ ∀ k ∈ l, k.nm.size ≤ 255) := fun l h => by
    have e := dcT_tld _ _ h
    rw [e] at hTL
    exact ⟨by omega, hTL.2⟩
  have HNO : Hid (dcT bs (bs.length + 1) 0 = none → dcd16 bs = ([], 6)) := dcd_of_no (fun l hr k hk => ⟨vld_size16 (rgt_mem hr hk).1, (rgt_mem hr hk).2⟩)
  have HYES : Hid (∀ l, dcT bs (bs.length + 1) 0 = some l → dcd16 bs = if rgt16 l = true ∧ enb16 l = bs then (l, 0) else ([], 6)) := fun l h => dcd_of_dc h
  generalize dcd16 bs = A at *
  generalize hD : dcT bs (bs.length + 1) 0 = D at *
  have HD0 : Hid _ := And.intro hD0 hD
  have HR : Hid _ := R
  clear hTL hD0 hD R
  go_enter Try.func16, Try.ntmps16
  go_wp2
  go_loopw [4, 5] (fun v i wr => ∃ (p n : Nat) (l : List Kx), i = .int .i64 p ∧ p ≤ len ∧ Hid (Dk16 w wr l v ∧ D = (dcT bs n p).map (l ++ ·) ∧ len - p < n ∧ 3 * l.length ≤ p)) (fun _ i _ => len - (intOf i).toNat)
  case atStart => exact ⟨0, bs.length + 1, [], rfl, Nat.zero_le _, ⟨World.ownsRow_nil _ _ _ _, World.grownBy.refl _ _⟩, by rw [HD0.out.2]; exact HD0.out.1, by omega, Nat.zero_le _⟩
  case round =>
    clear HD0
    obtain ⟨p, n, l, rfl, hp, HX⟩ := hrel
    obtain ⟨hO, hD, hn, h3⟩ := HX.out
    obtain ⟨n, rfl⟩ : ∃ m, n = m + 1 := ⟨n - 1, by omega⟩
    by_cases hlt : p < len
    · have hpi : (p : Int) < (len : Int) := by omega
      have hw6 : IntKind.i64.wrap ((p : Int) + 6) = (p : Int) + 6 := by rw [IntKind.wrap_i64]; omega
      by_cases h6 : p + 6 ≤ len
      · have h6i : ¬ (len : Int) < (p : Int) + 6 := by omega
        rw [dcT, if_neg (by omega), if_pos (by omega)] at hD
        obtain ⟨b, off, rfl, hcc⟩ := HR.out.cells (by omega)
        have hL1 := fun V (k : w.grownBy V none) => load_row (some ⟨b, off, none⟩) len cap bs p 2 V (HR.out.grown k) (by decide) (by decide) (by omega)
        have hL2 := fun V (k : w.grownBy V none) => load_row (some ⟨b, off, none⟩) len cap bs (p + 2) 4 V (HR.out.grown k) (by decide) (by decide) (by omega)
        have hw2 : IntKind.i64.wrap ((p : Int) + 2) = ((p + 2 : Nat) : Int) := by rw [IntKind.wrap_i64]; omega
        have hby := HR.out.byt
        have x1 := le_lt_of ((hby.drop p).take 2 : Byt ((bs.drop p).take 2)) 2 (by rw [List.length_take]; omega)
        have x2 := le_lt_of ((hby.drop (p + 2)).take 4 : Byt ((bs.drop (p + 2)).take 4)) 4 (by rw [List.length_take]; omega)
        have y1 := le_nonneg ((hby.drop p).take 2 : Byt ((bs.drop p).take 2))
        have y2 := le_nonneg ((hby.drop (p + 2)).take 4 : Byt ((bs.drop (p + 2)).take 4))
        unfold rwT at hD
        generalize le ((bs.drop p).take 2) = c at *
        generalize le ((bs.drop (p + 2)).take 4) = f at *
        obtain ⟨c, rfl⟩ : ∃ m : Nat, c = (m : Int) := ⟨c.toNat, by omega⟩
        rw [Int.toNat_natCast] at hD
        have HDD : Hid _ := hD
        have HO : Hid _ := hO
        have HCC : Hid _ := hcc
        have hwf : IntKind.i64.wrap f = f := by rw [IntKind.wrap_i64]; omega
        have hwc : IntKind.i64.wrap (c : Int) = (c : Int) := by rw [IntKind.wrap_i64]; omega
        clear hD hO hcc HX
        have hq1 := hL1 wr HO.out.gr
        have hq2 := hL2 wr HO.out.gr
        rw [show ((p + 2 : Nat) : Int) = (p : Int) + 2 by omega] at hq2
        clear hL1 hL2
        go_wp2_with fail
        refine hq1.mono ?_
        rintro e w1 ⟨rfl, rfl⟩
        go_wp2_with fail
        refine hq2.mono ?_
        rintro e w1 ⟨rfl, rfl⟩
        clear hq1 hq2
        have HF : Hid (0 ≤ f ∧ f < 4294967296 ∧ (c : Int) < 65536) := ⟨y2, by omega, by omega⟩
        go_wp2_with fail
        clear x1 x2 y1 y2 hwf hwc
        go_loopw [4, 5, 8] (fun v vp i wr => ∃ (j q : Nat) (m : List Kx), i = .int .i64 j ∧ vp = .int .i64 q ∧ j ≤ c ∧ q ≤ len ∧ p + 6 ≤ q ∧ Hid (Dk16 w wr m v ∧ (l ++ (kdT f bs c (p + 6)).1 = m ++ (kdT f bs (c - j) q).1) ∧ (kdT f bs c (p + 6)).2 = (kdT f bs (c - j) q).2 ∧ 3 * m.length ≤ q)) (fun _ _ i _ => c - (intOf i).toNat)
        case atStart => exact ⟨0, p + 6, l, rfl, by go_num, Nat.zero_le _, h6, Nat.le_refl _, HO.out, by rw [Nat.sub_zero], by rw [Nat.sub_zero], by omega⟩
        case round =>
          clear HO
          obtain ⟨j, q, m, rfl, rfl, hj, hq, hpq, HY⟩ := hrel
          obtain ⟨hM, h1, h2, hm3⟩ := HY.out
          by_cases hjc : j < c
          · have hji : (j : Int) < (c : Int) := by omega
            obtain ⟨r, hr⟩ : ∃ r, c - j = r + 1 := ⟨c - j - 1, by omega⟩
            rw [hr] at h1 h2
            have hw3 : IntKind.i64.wrap ((q : Int) + 3) = (q : Int) + 3 := by rw [IntKind.wrap_i64]; omega
            have hw2 : IntKind.i64.wrap ((q : Int) + 2) = (q : Int) + 2 := by rw [IntKind.wrap_i64]; omega
            by_cases h3a : q + 3 ≤ len
            · have h3i : ¬ (len : Int) < (q : Int) + 3 := by omega
              have x0 := cell_grown16 (HCC.out (q + 2) (by omega)) hM.gr
              have hkb := HR.out.byt.getD (q + 2)
              have ek := le_one16 (bs := bs) (q + 2) (by omega)
              rw [kdT, ek] at h1 h2
              generalize bs.getD (q + 2) 0 = kb at *
              obtain ⟨kb, rfl⟩ : ∃ t : Nat, kb = (t : Int) := ⟨kb.toNat, by omega⟩
              rw [Int.toNat_natCast] at h1 h2
              have hwk : IntKind.i64.wrap ((q : Int) + 3 + (kb : Int)) = (q : Int) + 3 + (kb : Int) := by rw [IntKind.wrap_i64]; omega
              have hwb : IntKind.i64.wrap (kb : Int) = (kb : Int) := by rw [IntKind.wrap_i64]; omega
              have hq2i : (q : Int) + 2 < (len : Int) := by omega
              have hq20 : ¬ (q : Int) + 2 < 0 := by omega
              have hq2t : ((q : Int) + 2).toNat = q + 2 := by omega
              by_cases h3b : q + 3 + kb ≤ len
              · have h3k : ¬ (len : Int) < (q : Int) + 3 + (kb : Int) := by omega
                rw [if_pos (by omega)] at h1 h2
                simp only at h1 h2
                have hLd := load_row (some ⟨b, off, none⟩) len cap bs q 2
                have hby := HR.out.byt
                have x1 := le_lt_of ((hby.drop q).take 2 : Byt ((bs.drop q).take 2)) 2 (by rw [List.length_take]; omega)
                have y1 := le_nonneg ((hby.drop q).take 2 : Byt ((bs.drop q).take 2))
                obtain ⟨sv, hsv⟩ : ∃ sv, strOfNums ((bs.drop (q + 3)).take kb) = sv := ⟨_, rfl⟩
                obtain ⟨pa, hpa⟩ : ∃ pa : Option Addr, (pa = some ⟨b, off + (q + 3), none⟩ ∧ ¬ cap = q + 3) ∨ (pa = some ⟨b, off, none⟩ ∧ cap = q + 3) := by
                  by_cases h : cap = q + 3
                  · exact ⟨_, Or.inr ⟨rfl, h⟩⟩
                  · exact ⟨_, Or.inl ⟨rfl, h⟩⟩
                have hcv : ∀ W, w.grownBy W none → (convert 25 9 (.slice pa kb (cap - (q + 3)))).run Try.prog W = .ok (.string sv) W := fun W k => by
                  rw [← hsv]
                  refine conv_row (P := Try.prog) ?_ _ 25 9 Try.underlying25 Try.underlying5 Try.underlying9
                  rcases hpa with ⟨rfl, _⟩ | ⟨rfl, h⟩
                  · exact (HR.out.grown k).part (q + 3) kb (by omega)
                  · exact Row.zero _ bs (q + 3) kb (by omega)
                have HPA : Hid _ := hpa
                clear hpa
                rw [hsv] at h1
                generalize le ((bs.drop q).take 2) = d at *
                have HLd : Hid (∀ V, w.grownBy V none → Calls Try.prog 29 #[.slice (some ⟨b, off, none⟩) len cap, .int .i64 (q : Int), .int .i64 2] V fun e w' => e = .returned (.int .u64 d) ∧ V = w') := fun V k => hLd V (HR.out.grown k) (by decide) (by decide) (by omega)
                have HCV : Hid _ := hcv
                have hwd : IntKind.i64.wrap d = d := by rw [IntKind.wrap_i64]; omega
                have hwfd : IntKind.i64.wrap (f + d) = f + d := by have := HF.out; rw [IntKind.wrap_i64]; omega
                have hwj : IntKind.i64.wrap ((j : Int) + 1) = (j : Int) + 1 := by have := HF.out; rw [IntKind.wrap_i64]; omega
                have HN : Hid (l ++ (kdT f bs c (p + 6)).1 = (m ++ [⟨sv, f + d⟩]) ++ (kdT f bs (c - (j + 1)) (q + 3 + kb)).1 ∧ (kdT f bs c (p + 6)).2 = (kdT f bs (c - (j + 1)) (q + 3 + kb)).2) := by
                  rw [show c - (j + 1) = r by omega]
                  refine ⟨?_, h2⟩
                  rw [h1]
                  simp only [List.append_assoc, List.cons_append, List.nil_append]
                have HM : Hid _ := hM
                have h4a : ¬ (cap : Int) < (q : Int) + 3 + (kb : Int) := by omega
                have h4b : ¬ (q : Int) + 3 + (kb : Int) < (q : Int) + 3 := by omega
                have h4c : ¬ (q : Int) + 3 < 0 := by omega
                have h4d : ((q : Int) + 3 + (kb : Int)).toNat = q + 3 + kb := by omega
                have h4e : ((q : Int) + 3).toNat = q + 3 := by omega
                clear h1 h2 hLd hby x1 y1 hsv hcv hM HY ek
                go_wp2_with fail
                have HM1 : Hid _ := HM.out.keep (show World.grownBy wr wr.drew none from ⟨rfl, rfl, rfl, Nat.le_refl _, fun _ _ _ => rfl⟩)
                refine wp_region_held_drew (S := fun W => World.grownBy w W none) (by kernel_rfl) HM1.out.gr (fun hH => ?_)
                generalize wr.drew = WW at *
                refine wpAnyH_take (i := 0) (oi := ⟨some 60, _, _, _, _, _⟩) (v := u4) rfl (by kernel_rfl) (by kernel_rfl) (by kernel_rfl) (fun _ _ _ h => h) (Or.inl ⟨by rfl, fun w hSw => by go_simp⟩) hH ?_
                simp only [Act.put, List.setIfInBounds_toArray, List.set_cons_zero, List.set_cons_succ]
                refine wpAnyH_take (i := 1) (oi := ⟨some 61, _, _, _, _, _⟩) (v := .slice (some ⟨b, off, none⟩) len cap) rfl (by kernel_rfl) (by kernel_rfl) (by kernel_rfl) (fun _ _ _ h => h) (Or.inl ⟨by rfl, fun w hSw => by go_simp⟩) hH ?_
                simp only [Act.put, List.setIfInBounds_toArray, List.set_cons_zero, List.set_cons_succ]
                refine wpAnyH_take (i := 2) (oi := ⟨some 62, _, _, _, _, _⟩) (v := .int .i64 q) rfl (by kernel_rfl) (by kernel_rfl) (by kernel_rfl) (fun _ _ _ h => h) (Or.inl ⟨by rfl, fun w hSw => by go_simp⟩) hH ?_
                simp only [Act.put, List.setIfInBounds_toArray, List.set_cons_zero, List.set_cons_succ]
                refine wpAnyH_take (i := 3) (oi := ⟨some 63, _, _, _, _, _⟩) (v := .int .i64 ((q : Int) + 3)) rfl (by kernel_rfl) (by kernel_rfl) (by kernel_rfl) (fun _ _ _ h => h) (Or.inl ⟨by rfl, fun w hSw => by go_simp⟩) hH ?_
                simp only [Act.put, List.setIfInBounds_toArray, List.set_cons_zero, List.set_cons_succ]
                refine wpAnyH_take (i := 4) (oi := ⟨some 64, _, _, _, _, _⟩) (v := .int .i64 q) rfl (by kernel_rfl) (by kernel_rfl) (by kernel_rfl) (fun _ _ _ h => h) (Or.inl ⟨by rfl, fun w hSw => by go_simp⟩) hH ?_
                simp only [Act.put, List.setIfInBounds_toArray, List.set_cons_zero, List.set_cons_succ]
                refine wpAnyH_take (i := 5) (oi := ⟨some 65, _, _, _, _, _⟩) (v := .int .i64 ((q : Int) + 3)) rfl (by kernel_rfl) (by kernel_rfl) (by kernel_rfl) (fun _ _ _ h => h) (Or.inl ⟨by rfl, fun w hSw => by go_simp⟩) hH ?_
                simp only [Act.put, List.setIfInBounds_toArray, List.set_cons_zero, List.set_cons_succ]
                refine wpAnyH_take (i := 6) (oi := ⟨some 66, _, _, _, _, _⟩) (v := .int .i64 kb) rfl (by kernel_rfl) (by kernel_rfl) (by kernel_rfl) (fun _ _ _ h => h) (Or.inl ⟨by rfl, fun w hSw => by go_simp⟩) hH ?_
                simp only [Act.put, List.setIfInBounds_toArray, List.set_cons_zero, List.set_cons_succ]
                refine wpAnyH_take (i := 7) (oi := ⟨some 67, _, _, _, _, _⟩) (v := .int .i64 ((q : Int) + 3 + (kb : Int))) rfl (by kernel_rfl) (by kernel_rfl) (by kernel_rfl) (fun _ _ _ h => h) (Or.inl ⟨by rfl, fun w hSw => by go_simp⟩) hH ?_
                simp only [Act.put, List.setIfInBounds_toArray, List.set_cons_zero, List.set_cons_succ]
                refine wpAnyH_take (i := 8) (oi := ⟨some 68, _, _, _, _, _⟩) (v := .slice pa kb (cap - (q + 3))) rfl (by kernel_rfl) (by kernel_rfl) (by kernel_rfl) (fun _ _ _ h => h) (Or.inl ⟨by rfl, fun w hSw => by (rcases HPA.out with ⟨rfl, hcap⟩ | ⟨rfl, hcap⟩ <;> first | (go_simp; done) | ((obtain rfl : kb = 0 := by omega); go_simp))⟩) hH ?_
                simp only [Act.put, List.setIfInBounds_toArray, List.set_cons_zero, List.set_cons_succ]
                refine wpAnyH_take (i := 9) (oi := ⟨some 69, _, _, _, _, _⟩) (v := .string sv) rfl (by kernel_rfl) (by kernel_rfl) (by kernel_rfl) (fun _ _ _ h => h) (Or.inl ⟨by rfl, fun w hSw => by have cq := HCV.out _ hSw; go_simp⟩) hH ?_
                simp only [Act.put, List.setIfInBounds_toArray, List.set_cons_zero, List.set_cons_succ]
                refine wpAnyH_take (i := 10) (oi := ⟨some 70, _, _, _, _, _⟩) (v := .int .i64 f) rfl (by kernel_rfl) (by kernel_rfl) (by kernel_rfl) (fun _ _ _ h => h) (Or.inl ⟨by rfl, fun w hSw => by go_simp⟩) hH ?_
                simp only [Act.put, List.setIfInBounds_toArray, List.set_cons_zero, List.set_cons_succ]
                refine wpAnyH_take (i := 11) (oi := ⟨some 71, _, _, _, _, _⟩) (v := .slice (some ⟨b, off, none⟩) len cap) rfl (by kernel_rfl) (by kernel_rfl) (by kernel_rfl) (fun _ _ _ h => h) (Or.inl ⟨by rfl, fun w hSw => by go_simp⟩) hH ?_
                simp only [Act.put, List.setIfInBounds_toArray, List.set_cons_zero, List.set_cons_succ]
                refine wpAnyH_take (i := 12) (oi := ⟨some 72, _, _, _, _, _⟩) (v := .int .i64 q) rfl (by kernel_rfl) (by kernel_rfl) (by kernel_rfl) (fun _ _ _ h => h) (Or.inl ⟨by rfl, fun w hSw => by go_simp⟩) hH ?_
                simp only [Act.put, List.setIfInBounds_toArray, List.set_cons_zero, List.set_cons_succ]
                refine wpAnyH_ready (rs := [13]) (by kernel_rfl) (by simp) ?_
                refine AllReadyH.cons rfl (fun K hK => ?_) AllReadyH.nil
                go_simp
                go_wp2_with (go_at_call 29; refine (HLd.out _ hH).mono ?_; rintro e wx ⟨rfl, rfl⟩)
                refine hK.out _ _ hH (fun _ => ?_)
                clear hK K
                refine wpAnyH_take (i := 14) (oi := ⟨some 74, _, _, _, _, _⟩) (v := .int .i64 d) rfl (by kernel_rfl) (by kernel_rfl) (by kernel_rfl) (fun _ _ _ h => h) (Or.inl ⟨by rfl, fun w hSw => by go_simp⟩) hH ?_
                simp only [Act.put, List.setIfInBounds_toArray, List.set_cons_zero, List.set_cons_succ]
                refine wpAnyH_take (i := 15) (oi := ⟨some 75, _, _, _, _, _⟩) (v := .int .i64 (f + d)) rfl (by kernel_rfl) (by kernel_rfl) (by kernel_rfl) (fun _ _ _ h => h) (Or.inl ⟨by rfl, fun w hSw => by go_simp⟩) hH ?_
                simp only [Act.put, List.setIfInBounds_toArray, List.set_cons_zero, List.set_cons_succ]
                refine wpAnyH_take (i := 16) (oi := ⟨some 76, _, _, _, _, _⟩) (v := .agg #[.string sv, .int .i64 (f + d)]) rfl (by kernel_rfl) (by kernel_rfl) (by kernel_rfl) (fun _ _ _ h => h) (Or.inl ⟨by rfl, fun w hSw => by go_simp⟩) hH ?_
                simp only [Act.put, List.setIfInBounds_toArray, List.set_cons_zero, List.set_cons_succ]
                refine wpAnyH_ready (rs := [17]) (by kernel_rfl) (by simp) ?_
                refine AllReadyH.cons rfl (fun K hK => ?_) AllReadyH.nil
                go_simp
                have HM2 : Hid _ := HM1.out.keep (World.grownBy_alloc WW (.cells #[.string sv, .int .i64 (f + d)] 41) none)
                refine hK.out _ _ HM2.out.gr (fun _ => ?_)
                clear hK K
                refine wpAnyH_ready (rs := [18]) (by kernel_rfl) (by simp) ?_
                refine AllReadyH.cons rfl (fun K hK => ?_) AllReadyH.nil
                refine step_appendK16 (by rfl) _ _ 22 (by rfl) w.heap.size 41 i5 _ 2 24 Try.underlying22 hi hz0 hz1 hz2 rfl (by decide) _ m.length _ (by rfl) HM2.out.own ⟨WW.heap.size, 0, none⟩ 1 1 (Kx.cells ⟨sv, f + d⟩) (by rfl) rfl (cell_kx_new WW 41 ⟨sv, f + d⟩) (by simp [Kx.cells, Value.oneCell']) (by unfold maxLen; omega) (by omega) HM2.out.gr.size ?_
                intro v18 V18 oo gg
                have HM3 : Hid _ := HM2.out.app ⟨sv, f + d⟩ oo gg
                clear oo gg
                refine hK.out _ _ HM3.out.gr (fun _ => ?_)
                clear hK K
                try simp only [Act.put, List.setIfInBounds_toArray, List.set_cons_zero, List.set_cons_succ]
                refine wpAnyH_ready (rs := [19]) (by kernel_rfl) (by simp) ?_
                refine AllReadyH.cons rfl (fun K hK => ?_) AllReadyH.nil
                go_simp
                refine hK.out _ _ HM3.out.gr (fun _ => ?_)
                clear hK K
                refine wpAnyH_done (by kernel_rfl) ?_ _
                clear hwd hwfd
                go_wp2_with fail
                go_roundw
                case rel => exact ⟨j + 1, q + 3 + kb, m ++ [⟨sv, f + d⟩], by go_num, by go_num, by omega, h3b, by omega, HM3.out, HN.out.1, HN.out.2, by rw [List.length_append, List.length_singleton]; omega⟩
                case measure => clear hwj; simp [intOf]; omega
              · have h3k : (len : Int) < (q : Int) + 3 + (kb : Int) := by omega
                rw [if_neg (by omega)] at h1 h2
                have hDn : D = none := by rw [HDD.out, h2]; rfl
                have HA : Hid _ := HNO.out hDn
                have HG : Hid _ := hM.gr
                clear h1 h2 hDn hM HY ek
                go_wp2_with fail
                go_returns
                rw [HA.out]
                exact kdpost_none HG.out
            · have h3i : (len : Int) < (q : Int) + 3 := by omega
              rw [kdT, if_neg (by omega)] at h2
              have hDn : D = none := by rw [HDD.out, h2]; rfl
              have HA : Hid _ := HNO.out hDn
              have HG : Hid _ := hM.gr
              clear h1 h2 hDn hM HY
              go_wp2_with fail
              go_returns
              rw [HA.out]
              exact kdpost_none HG.out
          · obtain rfl : j = c := by omega
            have hji : ¬ (j : Int) < (j : Int) := by omega
            rw [Nat.sub_self, kdT] at h1 h2
            simp only [List.append_nil] at h1
            have HN : Hid (D = (dcT bs n q).map (m ++ ·)) := by
              show D = _
              rw [HDD.out, h2]
              simp only
              rw [← h1, Option.map_map]
              congr 1
              funext x
              simp only [Function.comp, List.append_assoc]
            have HM : Hid _ := hM
            clear h1 h2 hM HY
            go_wp2_with fail
            go_roundw
            case rel => exact ⟨q, n, m, rfl, hq, HM.out, HN.out, by omega, by omega⟩
            case measure => simp [intOf]; omega
      · have h6i : (len : Int) < (p : Int) + 6 := by omega
        rw [dcT, if_neg (by omega), if_neg (by omega)] at hD
        have hA := HNO.out (by rw [hD]; rfl)
        have HO : Hid _ := hO
        have HA : Hid _ := hA
        clear hA hD hO HX
        go_wp2_with fail
        go_returns
        rw [HA.out]
        exact kdpost_none HO.out.gr
    · obtain rfl : p = len := by omega
      have hpi : ¬ (p : Int) < (p : Int) := by omega
      rw [dcT, if_pos (by omega)] at hD
      simp only [Option.map_some, List.append_nil] at hD
      have hY := HYES.out l hD
      have hT := HTL.out l hD
      obtain ⟨al, cl, rfl, hk, hc1, hc2, _⟩ := own_kxs hO.own rfl (by unfold maxLen; omega)
      have HG : Hid _ := hO.gr
      have HK : Hid _ := hk
      have hRR := rright16_any al l.length cl l wr hk (fun k h => Nat.le_trans (hT.2 k h) (by decide))
      clear hD hO HX
      by_cases hr : rgt16 l = true
      · rw [hr] at hRR
        have hk3 : ∀ k ∈ l, k.nm.size ≤ 255 ∧ 0 ≤ k.io ∧ k.io ≤ 16384 := fun k hk => ⟨hT.2 k hk, (rgt_mem hr hk).2⟩
        have hRB := fun W (g : wr.grownBy W none) => rbytes16_any al l.length cl l W (hk.grown g) (by omega) hk3
        have HRR : Hid (∀ W, wr.grownBy W none → Calls Try.prog 10 #[.slice al l.length cl] W fun e w' => e = .returned (.bool true) ∧ W.grownBy w' none) := fun W g => by
          have h := rright16_any al l.length cl l W (HK.out.grown g) (fun k h => Nat.le_trans (hT.2 k h) (by decide))
          rw [hr] at h
          exact h
        have HRB : Hid _ := hRB
        have hby := enb16_byt hT.2
        have hlx := enb16_len hT.2
        clear hRB hRR hT hk hk3
        obtain ⟨sb, hsb⟩ : ∃ sb, strOfNums bs = sb := ⟨_, rfl⟩
        have cvB : ∀ W, w.grownBy W none → (convert 25 9 (.slice a p cap)).run Try.prog W = .ok (.string sb) W := fun W k => by
          rw [← hsb]
          exact conv_row (P := Try.prog) (HR.out.grown k) cap 25 9 Try.underlying25 Try.underlying5 Try.underlying9
        obtain ⟨se, hse⟩ : ∃ se, strOfNums (enb16 l) = se := ⟨_, rfl⟩
        have hbb := HR.out.byt
        have HSE : Hid _ := hse
        by_cases heq : enb16 l = bs
        · rw [if_pos ⟨hr, heq⟩] at hY
          have HYY : Hid _ := hY
          have hss : se = sb := by rw [← hse, ← hsb, heq]
          have hbe : (se.toList == sb.toList) = true := by rw [hss]; exact beq_self_eq_true _
          subst hss
          have HBE : Hid _ := hbe
          clear heq hse hsb hY hby hbb hr hbe hlx
          have HCVB : Hid _ := cvB
          clear cvB
          go_wp2_with fail
          refine wp_region_held_drew (S := fun W => World.grownBy wr W none) (by kernel_rfl) ⟨rfl, rfl, rfl, Nat.le_refl _, fun _ _ _ => rfl⟩ (fun hH => ?_)
          generalize wr.drew = WW at *
          refine wpAnyH_take (i := 0) (oi := ⟨some 83, _, _, _, _, _⟩) (v := .slice al l.length cl) rfl (by kernel_rfl) (by kernel_rfl) (by kernel_rfl) (fun _ _ _ h => h) (Or.inl ⟨by rfl, fun w hSw => by go_simp⟩) hH ?_
          simp only [Act.put, List.setIfInBounds_toArray, List.set_cons_zero, List.set_cons_succ]
          refine wpAnyH_ready (rs := [1]) (by kernel_rfl) (by simp) ?_
          refine AllReadyH.cons rfl (fun K hK => ?_) AllReadyH.nil
          go_simp
          go_wp2_with (go_at_call 10; refine (HRR.out _ hH).mono ?_; rintro e wx ⟨rfl, gx⟩)
          replace hH := grown_trans hH gx
          refine hK.out _ _ hH (fun _ => ?_)
          clear hK K gx
          refine wpAnyH_take (i := 2) (oi := ⟨some 85, _, _, _, _, _⟩) (v := .bool false) rfl (by kernel_rfl) (by kernel_rfl) (by kernel_rfl) (fun _ _ _ h => h) (Or.inl ⟨by rfl, fun w hSw => by go_simp⟩) hH ?_
          simp only [Act.put, List.setIfInBounds_toArray, List.set_cons_zero, List.set_cons_succ]
          refine wpAnyH_take (i := 3) (oi := ⟨some 86, _, _, _, _, _⟩) (v := .bool false) rfl (by kernel_rfl) (by kernel_rfl) (by kernel_rfl) (fun _ _ _ h => h) (Or.inl ⟨by rfl, fun w hSw => by go_simp⟩) hH ?_
          simp only [Act.put, List.setIfInBounds_toArray, List.set_cons_zero, List.set_cons_succ]
          refine wpAnyH_take (i := 4) (oi := ⟨some 87, _, _, _, _, _⟩) (v := .slice al l.length cl) rfl (by kernel_rfl) (by kernel_rfl) (by kernel_rfl) (fun _ _ _ h => h) (Or.inl ⟨by rfl, fun w hSw => by go_simp⟩) hH ?_
          simp only [Act.put, List.setIfInBounds_toArray, List.set_cons_zero, List.set_cons_succ]
          refine wpAnyH_take (i := 7) (oi := ⟨some 90, _, _, _, _, _⟩) (v := .slice a p cap) rfl (by kernel_rfl) (by kernel_rfl) (by kernel_rfl) (fun _ _ _ h => h) (Or.inl ⟨by rfl, fun w hSw => by go_simp⟩) hH ?_
          simp only [Act.put, List.setIfInBounds_toArray, List.set_cons_zero, List.set_cons_succ]
          refine wpAnyH_take (i := 8) (oi := ⟨some 91, _, _, _, _, _⟩) (v := .string se) rfl (by kernel_rfl) (by kernel_rfl) (by kernel_rfl) (fun _ _ _ h => h) (Or.inl ⟨by rfl, fun w hSw => by have cq := HCVB.out _ (grown_trans HG.out hSw); go_simp⟩) hH ?_
          simp only [Act.put, List.setIfInBounds_toArray, List.set_cons_zero, List.set_cons_succ]
          refine wpAnyH_ready (rs := [5]) (by kernel_rfl) (by simp) ?_
          refine AllReadyH.cons rfl (fun K hK => ?_) AllReadyH.nil
          rw [if_pos (by rfl)]
          go_wp2_with (go_at_call 13; refine (HRB.out _ hH).mono ?_; rintro e wx ⟨a4, c4, rfl, R4, n4, gx⟩)
          have cx := conv_row (P := Try.prog) R4 c4 25 9 Try.underlying25 Try.underlying5 Try.underlying9
          rw [HSE.out] at cx
          replace hH := grown_trans hH gx
          refine hK.out _ _ hH (fun _ => ?_)
          clear hK K gx R4 n4
          refine wpAnyH_ready (rs := [6]) (by kernel_rfl) (by simp) ?_
          refine AllReadyH.cons rfl (fun K hK => ?_) AllReadyH.nil
          rw [if_pos (by rfl)]
          go_wp2_with fail
          refine hK.out _ _ hH (fun _ => ?_)
          clear hK K cx
          refine wpAnyH_take (i := 9) (oi := ⟨some 92, _, _, _, _, _⟩) (v := .bool false) rfl (by kernel_rfl) (by kernel_rfl) (by kernel_rfl) (fun _ _ _ h => h) (Or.inl ⟨by rfl, fun w hSw => by have hbe := HBE.out; go_simp⟩) hH ?_
          simp only [Act.put, List.setIfInBounds_toArray, List.set_cons_zero, List.set_cons_succ]
          refine wpAnyH_ready (rs := [10]) (by kernel_rfl) (by simp) ?_
          refine AllReadyH.cons rfl (fun K hK => ?_) AllReadyH.nil
          go_simp
          refine hK.out _ _ hH (fun _ => ?_)
          clear hK K
          refine wpAnyH_done (by kernel_rfl) ?_ _
          go_wp2_with fail
          go_returns
          rw [HYY.out]
          exact ⟨al, cl, rfl, HK.out.grown hH, hc1, hc2, grown_trans HG.out hH⟩
        · rw [if_neg (fun h => heq h.2)] at hY
          have HYY : Hid _ := hY
          have hss : ¬ se = sb := fun e => heq (by rw [← nums_str16 hby, ← nums_str16 hbb, hse, hsb, e])
          have hbe : (se.toList == sb.toList) = false := beq_eq_false_iff_ne.2 (fun e => hss (by
            rw [ByteArray.toList_eq, ByteArray.toList_eq] at e
            exact ByteArray.ext (Array.toList_inj.1 e)))
          have HBE : Hid _ := hbe
          clear heq hse hsb hY hby hbb hr hbe hss hlx
          have HCVB : Hid _ := cvB
          clear cvB
          go_wp2_with fail
          refine wp_region_held_drew (S := fun W => World.grownBy wr W none) (by kernel_rfl) ⟨rfl, rfl, rfl, Nat.le_refl _, fun _ _ _ => rfl⟩ (fun hH => ?_)
          generalize wr.drew = WW at *
          refine wpAnyH_take (i := 0) (oi := ⟨some 83, _, _, _, _, _⟩) (v := .slice al l.length cl) rfl (by kernel_rfl) (by kernel_rfl) (by kernel_rfl) (fun _ _ _ h => h) (Or.inl ⟨by rfl, fun w hSw => by go_simp⟩) hH ?_
          simp only [Act.put, List.setIfInBounds_toArray, List.set_cons_zero, List.set_cons_succ]
          refine wpAnyH_ready (rs := [1]) (by kernel_rfl) (by simp) ?_
          refine AllReadyH.cons rfl (fun K hK => ?_) AllReadyH.nil
          go_simp
          go_wp2_with (go_at_call 10; refine (HRR.out _ hH).mono ?_; rintro e wx ⟨rfl, gx⟩)
          replace hH := grown_trans hH gx
          refine hK.out _ _ hH (fun _ => ?_)
          clear hK K gx
          refine wpAnyH_take (i := 2) (oi := ⟨some 85, _, _, _, _, _⟩) (v := .bool false) rfl (by kernel_rfl) (by kernel_rfl) (by kernel_rfl) (fun _ _ _ h => h) (Or.inl ⟨by rfl, fun w hSw => by go_simp⟩) hH ?_
          simp only [Act.put, List.setIfInBounds_toArray, List.set_cons_zero, List.set_cons_succ]
          refine wpAnyH_take (i := 3) (oi := ⟨some 86, _, _, _, _, _⟩) (v := .bool false) rfl (by kernel_rfl) (by kernel_rfl) (by kernel_rfl) (fun _ _ _ h => h) (Or.inl ⟨by rfl, fun w hSw => by go_simp⟩) hH ?_
          simp only [Act.put, List.setIfInBounds_toArray, List.set_cons_zero, List.set_cons_succ]
          refine wpAnyH_take (i := 4) (oi := ⟨some 87, _, _, _, _, _⟩) (v := .slice al l.length cl) rfl (by kernel_rfl) (by kernel_rfl) (by kernel_rfl) (fun _ _ _ h => h) (Or.inl ⟨by rfl, fun w hSw => by go_simp⟩) hH ?_
          simp only [Act.put, List.setIfInBounds_toArray, List.set_cons_zero, List.set_cons_succ]
          refine wpAnyH_take (i := 7) (oi := ⟨some 90, _, _, _, _, _⟩) (v := .slice a p cap) rfl (by kernel_rfl) (by kernel_rfl) (by kernel_rfl) (fun _ _ _ h => h) (Or.inl ⟨by rfl, fun w hSw => by go_simp⟩) hH ?_
          simp only [Act.put, List.setIfInBounds_toArray, List.set_cons_zero, List.set_cons_succ]
          refine wpAnyH_take (i := 8) (oi := ⟨some 91, _, _, _, _, _⟩) (v := .string sb) rfl (by kernel_rfl) (by kernel_rfl) (by kernel_rfl) (fun _ _ _ h => h) (Or.inl ⟨by rfl, fun w hSw => by have cq := HCVB.out _ (grown_trans HG.out hSw); go_simp⟩) hH ?_
          simp only [Act.put, List.setIfInBounds_toArray, List.set_cons_zero, List.set_cons_succ]
          refine wpAnyH_ready (rs := [5]) (by kernel_rfl) (by simp) ?_
          refine AllReadyH.cons rfl (fun K hK => ?_) AllReadyH.nil
          rw [if_pos (by rfl)]
          go_wp2_with (go_at_call 13; refine (HRB.out _ hH).mono ?_; rintro e wx ⟨a4, c4, rfl, R4, n4, gx⟩)
          have cx := conv_row (P := Try.prog) R4 c4 25 9 Try.underlying25 Try.underlying5 Try.underlying9
          rw [HSE.out] at cx
          replace hH := grown_trans hH gx
          refine hK.out _ _ hH (fun _ => ?_)
          clear hK K gx R4 n4
          refine wpAnyH_ready (rs := [6]) (by kernel_rfl) (by simp) ?_
          refine AllReadyH.cons rfl (fun K hK => ?_) AllReadyH.nil
          rw [if_pos (by rfl)]
          go_wp2_with fail
          refine hK.out _ _ hH (fun _ => ?_)
          clear hK K cx
          refine wpAnyH_take (i := 9) (oi := ⟨some 92, _, _, _, _, _⟩) (v := .bool true) rfl (by kernel_rfl) (by kernel_rfl) (by kernel_rfl) (fun _ _ _ h => h) (Or.inl ⟨by rfl, fun w hSw => by have hbe := HBE.out; go_simp⟩) hH ?_
          simp only [Act.put, List.setIfInBounds_toArray, List.set_cons_zero, List.set_cons_succ]
          refine wpAnyH_ready (rs := [10]) (by kernel_rfl) (by simp) ?_
          refine AllReadyH.cons rfl (fun K hK => ?_) AllReadyH.nil
          go_simp
          refine hK.out _ _ hH (fun _ => ?_)
          clear hK K
          refine wpAnyH_done (by kernel_rfl) ?_ _
          go_wp2_with fail
          go_returns
          rw [HYY.out]
          exact kdpost_none (grown_trans HG.out hH)
      · rw [Bool.not_eq_true] at hr
        rw [hr] at hRR
        rw [if_neg (fun h => by rw [hr] at h; cases h.1)] at hY
        have HRR : Hid (∀ W, wr.grownBy W none → Calls Try.prog 10 #[.slice al l.length cl] W fun e w' => e = .returned (.bool false) ∧ W.grownBy w' none) := fun W g => by
          have h := rright16_any al l.length cl l W (HK.out.grown g) (fun k h => Nat.le_trans (hT.2 k h) (by decide))
          rw [hr] at h
          exact h
        have HY : Hid _ := hY
        clear hY hT hk hRR hr
        go_wp2_with fail
        refine wp_region_held_drew (S := fun W => World.grownBy wr W none) (by kernel_rfl) ⟨rfl, rfl, rfl, Nat.le_refl _, fun _ _ _ => rfl⟩ (fun hH => ?_)
        generalize wr.drew = WW at *
        refine wpAnyH_take (i := 0) (oi := ⟨some 83, _, _, _, _, _⟩) (v := .slice al l.length cl) rfl (by kernel_rfl) (by kernel_rfl) (by kernel_rfl) (fun _ _ _ h => h) (Or.inl ⟨by rfl, fun w hSw => by go_simp⟩) hH ?_
        simp only [Act.put, List.setIfInBounds_toArray, List.set_cons_zero, List.set_cons_succ]
        refine wpAnyH_ready (rs := [1]) (by kernel_rfl) (by simp) ?_
        refine AllReadyH.cons rfl (fun K hK => ?_) AllReadyH.nil
        go_simp
        go_wp2_with (go_at_call 10; refine (HRR.out _ hH).mono ?_; rintro e wx ⟨rfl, gx⟩)
        replace hH := grown_trans hH gx
        refine hK.out _ _ hH (fun _ => ?_)
        clear hK K gx
        refine wpAnyH_take (i := 2) (oi := ⟨some 85, _, _, _, _, _⟩) (v := .bool true) rfl (by kernel_rfl) (by kernel_rfl) (by kernel_rfl) (fun _ _ _ h => h) (Or.inl ⟨by rfl, fun w hSw => by go_simp⟩) hH ?_
        simp only [Act.put, List.setIfInBounds_toArray, List.set_cons_zero, List.set_cons_succ]
        refine wpAnyH_take (i := 3) (oi := ⟨some 86, _, _, _, _, _⟩) (v := .bool true) rfl (by kernel_rfl) (by kernel_rfl) (by kernel_rfl) (fun _ _ _ h => h) (Or.inl ⟨by rfl, fun w hSw => by go_simp⟩) hH ?_
        simp only [Act.put, List.setIfInBounds_toArray, List.set_cons_zero, List.set_cons_succ]
        refine wpAnyH_take (i := 4) (oi := ⟨some 87, _, _, _, _, _⟩) (v := undef) rfl (by kernel_rfl) (by kernel_rfl) (by kernel_rfl) (fun _ _ _ h => h) (Or.inr ⟨by rfl, rfl⟩) hH ?_
        try simp only [Act.put, List.setIfInBounds_toArray, List.set_cons_zero, List.set_cons_succ]
        refine wpAnyH_take (i := 5) (oi := ⟨some 88, _, _, _, _, _⟩) (v := undef) rfl (by kernel_rfl) (by kernel_rfl) (by kernel_rfl) (fun _ _ _ h => h) (Or.inr ⟨by rfl, rfl⟩) hH ?_
        try simp only [Act.put, List.setIfInBounds_toArray, List.set_cons_zero, List.set_cons_succ]
        refine wpAnyH_take (i := 6) (oi := ⟨some 89, _, _, _, _, _⟩) (v := undef) rfl (by kernel_rfl) (by kernel_rfl) (by kernel_rfl) (fun _ _ _ h => h) (Or.inr ⟨by rfl, rfl⟩) hH ?_
        try simp only [Act.put, List.setIfInBounds_toArray, List.set_cons_zero, List.set_cons_succ]
        refine wpAnyH_take (i := 7) (oi := ⟨some 90, _, _, _, _, _⟩) (v := undef) rfl (by kernel_rfl) (by kernel_rfl) (by kernel_rfl) (fun _ _ _ h => h) (Or.inr ⟨by rfl, rfl⟩) hH ?_
        try simp only [Act.put, List.setIfInBounds_toArray, List.set_cons_zero, List.set_cons_succ]
        refine wpAnyH_take (i := 8) (oi := ⟨some 91, _, _, _, _, _⟩) (v := undef) rfl (by kernel_rfl) (by kernel_rfl) (by kernel_rfl) (fun _ _ _ h => h) (Or.inr ⟨by rfl, rfl⟩) hH ?_
        try simp only [Act.put, List.setIfInBounds_toArray, List.set_cons_zero, List.set_cons_succ]
        refine wpAnyH_take (i := 9) (oi := ⟨some 92, _, _, _, _, _⟩) (v := undef) rfl (by kernel_rfl) (by kernel_rfl) (by kernel_rfl) (fun _ _ _ h => h) (Or.inr ⟨by rfl, rfl⟩) hH ?_
        try simp only [Act.put, List.setIfInBounds_toArray, List.set_cons_zero, List.set_cons_succ]
        refine wpAnyH_ready (rs := [10]) (by kernel_rfl) (by simp) ?_
        refine AllReadyH.cons rfl (fun K hK => ?_) AllReadyH.nil
        go_simp
        refine hK.out _ _ hH (fun _ => ?_)
        clear hK K
        refine wpAnyH_done (by kernel_rfl) ?_ _
        go_wp2_with fail
        go_returns
        rw [HY.out]
        exact kdpost_none (grown_trans HG.out hH)
end Go.Proofs.Ytngalihnckbkfaa

namespace Go.Proofs.Ytngalihnckbkfaa
open Go.RowKit
set_option maxRecDepth 100000
set_option linter.unusedSimpArgs false
set_option linter.unusedVariables false
def sameKx (x y : Kx) : Bool := x.nm.toList == y.nm.toList && x.io == y.io
/-- the same names? -/
def sam16 (l m : List Kx) : Bool := l.length == m.length && (List.range l.length).all fun i => match l[i]?, m[i]? with | some x, some y => sameKx x y | _, _ => true
theorem sam_self (l : List Kx) : sam16 l l = true := by
  unfold sam16
  rw [beq_self_eq_true, Bool.true_and, List.all_eq_true]
  intro i hi
  have := List.mem_range.1 hi
  rw [List.getElem?_eq_getElem this]
  simp [sameKx]
set_option maxHeartbeats 8000000 in
theorem rsame16_any (a a2 : Option Addr) (len cap len2 cap2 : Nat) (l m : List Kx) (w : World) (K : Kxs w a len l) (M : Kxs w a2 len2 m) :
    Calls Try.prog 15 #[.slice a len cap, .slice a2 len2 cap2] w fun e w' => e = .returned (.bool (sam16 l m)) ∧ w.grownBy w' none := by
  have hl := K.len_eq
  have hm := M.len_eq
  by_cases hne : len = len2
  · subst hne
    have HK : Hid _ := K
    have HM : Hid _ := M
    have HS1 : Hid (∀ i x y, i < len → l[i]? = some x → m[i]? = some y → sameKx x y = false → sam16 l m = false) := fun i x y hi h1 h2 h3 => by
      unfold sam16
      rw [hl, hm, beq_self_eq_true, Bool.true_and, List.all_eq_false]
      exact ⟨i, List.mem_range.2 hi, by rw [h1, h2]; simp [h3]⟩
    have HS0 : Hid ((∀ i x y, i < len → l[i]? = some x → m[i]? = some y → sameKx x y = true) → sam16 l m = true) := fun h => by
      unfold sam16
      rw [hl, hm, beq_self_eq_true, Bool.true_and, List.all_eq_true]
      intro i hi
      have hi := List.mem_range.1 hi
      have h1 : l[i]? = some (l[i]'(by omega)) := List.getElem?_eq_getElem (by omega)
      have h2 : m[i]? = some (m[i]'(by omega)) := List.getElem?_eq_getElem (by omega)
      rw [h1, h2]
      exact h i _ _ hi h1 h2
    generalize sam16 l m = R at *
    clear K M
    go_enter Try.func15, Try.ntmps15
    go_wp2
    go_loopw [5] (fun i wr => ∃ j : Nat, i = .int .i64 j ∧ j ≤ len ∧ Hid (w.grownBy wr none ∧ ∀ i x y, i < j → l[i]? = some x → m[i]? = some y → sameKx x y = true)) (fun i _ => len - (intOf i).toNat)
    case atStart => exact ⟨0, rfl, Nat.zero_le _, World.grownBy.refl _ _, fun i x y hi => absurd hi (Nat.not_lt_zero _)⟩
    case round =>
      obtain ⟨j, rfl, hj, HY⟩ := hrel
      by_cases hlt : j < len
      · obtain ⟨b, off, rfl, hk⟩ := (HK.out.grown HY.out.1).at_ (by omega)
        obtain ⟨b2, off2, rfl, hk2⟩ := (HM.out.grown HY.out.1).at_ (by omega)
        have hlj : l[j]? = some (l[j]'(by omega)) := List.getElem?_eq_getElem (by omega)
        have hmj : m[j]? = some (m[j]'(by omega)) := List.getElem?_eq_getElem (by omega)
        have k0 := (hk j _ hlj).c0
        have k1 := (hk j _ hlj).c1
        have q0 := (hk2 j _ hmj).c0
        have q1 := (hk2 j _ hmj).c1
        generalize l[j]'(by omega) = X at *
        generalize m[j]'(by omega) = Y at *
        have hji : (j : Int) < (len : Int) := by omega
        have hmx := HK.out.le
        have hw : IntKind.i64.wrap ((j : Int) + 1) = (j : Int) + 1 := by rw [IntKind.wrap_i64]; unfold maxLen at hmx; omega
        have HG : Hid _ := HY.out.1
        by_cases h1 : X.nm.toList = Y.nm.toList
        · by_cases h2 : X.io = Y.io
          · have HN : Hid (∀ i x y, i < j + 1 → l[i]? = some x → m[i]? = some y → sameKx x y = true) := fun i x y hi e1 e2 => by
              by_cases q : i = j
              · subst q
                rw [hlj] at e1
                rw [hmj] at e2
                injection e1 with e1
                injection e2 with e2
                subst e1 e2
                simp [sameKx, h1, h2]
              · exact HY.out.2 i x y (by omega) e1 e2
            clear HY hk hk2 hlj hmj hmx
            go_wp2_with fail
            go_quiet (fail)
            go_wp2
            go_roundw
            case rel => exact ⟨j + 1, by go_num, by clear hw; omega, grown_trans HG.out (grown_drewN16 _ _), HN.out⟩
            case measure => clear hw; simp [intOf]; omega
          · have HB : Hid (R = false) := HS1.out j X Y hlt hlj hmj (by simp [sameKx, h2])
            have h3 : (X.io == Y.io) = false := beq_eq_false_iff_ne.2 h2
            clear HY hk hk2 hlj hmj hmx hw
            go_wp2_with fail
            go_quiet (fail)
            go_wp2
            go_returns
            exact ⟨by rw [HB.out]; rfl, grown_trans HG.out (grown_drewN16 _ _)⟩
        · have HB : Hid (R = false) := HS1.out j X Y hlt hlj hmj (by simp [sameKx, h1])
          have h3 : (X.nm.toList == Y.nm.toList) = false := beq_eq_false_iff_ne.2 h1
          clear HY hk hk2 hlj hmj hmx hw
          go_wp2_with fail
          go_quiet (fail)
          go_wp2
          go_returns
          exact ⟨by rw [HB.out]; rfl, grown_trans HG.out (grown_drewN16 _ _)⟩
      · obtain rfl : j = len := by omega
        have HB : Hid (R = true) := HS0.out (fun i x y hi => HY.out.2 i x y hi)
        have HG : Hid _ := HY.out.1
        clear HY
        go_wp2
        go_returns
        exact ⟨by rw [HB.out]; rfl, HG.out⟩
  · have hR : sam16 l m = false := by
      unfold sam16
      rw [hl, hm, beq_eq_false_iff_ne.2 hne, Bool.false_and]
    have HR : Hid _ := hR
    generalize sam16 l m = R at *
    have hni : ((len : Int) == (len2 : Int)) = false := by rw [beq_eq_false_iff_ne]; omega
    have hnj : ¬ (len : Int) = (len2 : Int) := by omega
    clear hR K M
    go_enter Try.func15, Try.ntmps15
    go_wp2
    go_returns
    exact ⟨by rw [HR.out]; rfl, World.grownBy.refl _ _⟩
end Go.Proofs.Ytngalihnckbkfaa

namespace Go.Proofs.Ytngalihnckbkfaa
open Go.RowKit
set_option maxRecDepth 100000
set_option linter.unusedSimpArgs false
set_option linter.unusedVariables false
theorem num16_any (x : Int) (w : World) : Calls Try.prog 11 #[.int .i64 x] w fun e w' => e = .returned (.int .i64 x) ∧ w = w' := by
  go_enter Try.func11, Try.ntmps11
  go_wp2
  go_ret
  exact ⟨rfl, rfl⟩
/-- more than is asked? -/
def mch16 (l : List Kx) : Bool := decide (700 < l.length) || l.any fun k => decide (300 < k.nm.size)
theorem much16_any (a : Option Addr) (len cap : Nat) (l : List Kx) (w : World) (K : Kxs w a len l) :
    Calls Try.prog 7 #[.slice a len cap] w fun e w' => e = .returned (.bool (mch16 l)) ∧ w = w' := by
  have hl := K.len_eq
  unfold mch16
  rw [hl]
  by_cases h7 : 700 < len
  · rw [decide_eq_true h7, Bool.true_or]
    have h7i : (700 : Int) < (len : Int) := by omega
    go_enter Try.func7, Try.ntmps7
    go_wp2
    go_ret
    exact ⟨rfl, rfl⟩
  · rw [decide_eq_false h7, Bool.false_or]
    have h7i : ¬ (700 : Int) < (len : Int) := by omega
    go_enter Try.func7, Try.ntmps7
    go_wp2
    go_loop [3] (fun i => ∃ j : Nat, i = .int .i64 j ∧ j ≤ len ∧ (l.take j).any (fun k => decide (300 < k.nm.size)) = false) (fun i => len - (intOf i).toNat)
    case atStart => exact ⟨0, rfl, Nat.zero_le _, by simp⟩
    case round =>
      obtain ⟨j, rfl, hj, hn⟩ := hrel
      by_cases hlt : j < len
      · have hjl : j < l.length := by omega
        obtain ⟨b, off, rfl, hk⟩ := K.at_ (by omega)
        have k0 := (hk j l[j] (List.getElem?_eq_getElem hjl)).c0
        have hji : (j : Int) < (len : Int) := by omega
        have htk : l.take (j + 1) = l.take j ++ [l[j]] := by rw [List.take_succ_eq_append_getElem hjl]
        generalize hX : l[j] = X at *
        by_cases h3 : 300 < X.nm.size
        · have h3i : (300 : Int) < (X.nm.size : Int) := by omega
          have hR : l.any (fun k => decide (300 < k.nm.size)) = true := by
            rw [List.any_eq_true]
            exact ⟨X, by rw [← hX]; exact List.getElem_mem hjl, decide_eq_true h3⟩
          go_wp2
          go_ret
          exact ⟨rfl, rfl⟩
        · have h3i : ¬ (300 : Int) < (X.nm.size : Int) := by omega
          have hn2 : (l.take (j + 1)).any (fun k => decide (300 < k.nm.size)) = false := by rw [htk, List.any_append, hn]; simp; omega
          go_wp2
          go_round
          case rel => exact ⟨j + 1, by go_num, by omega, hn2⟩
          case measure => simp [intOf]; omega
      · obtain rfl : j = len := by omega
        rw [List.take_of_length_le (by omega)] at hn
        go_wp2
        go_ret
        exact ⟨rfl, rfl⟩
/-- the number of a name -/
def fnd16 (l : List Kx) (s : ByteArray) : Int × Bool := match l.find? fun k => k.nm.toList == s.toList with | some k => (k.io, true) | none => (0, false)
theorem pfind_any (a : Option Addr) (len cap : Nat) (l : List Kx) (s : ByteArray) (w : World) (K : Kxs w a len l) :
    Calls Try.prog 17 #[.slice a len cap, .string s] w fun e w' => e = .returned (.tuple #[.int .i64 (fnd16 l s).1, .bool (fnd16 l s).2]) ∧ w.grownBy w' none := by
  have hl := K.len_eq
  have HK : Hid _ := K
  clear K
  go_enter Try.func17, Try.ntmps17
  go_wp2
  go_loopw [10] (fun i wr => ∃ j : Nat, i = .int .i64 j ∧ j ≤ len ∧ Hid (w.grownBy wr none ∧ (l.take j).find? (fun k => k.nm.toList == s.toList) = none)) (fun i _ => len - (intOf i).toNat)
  case atStart => exact ⟨0, rfl, Nat.zero_le _, World.grownBy.refl _ _, by simp⟩
  case round =>
    obtain ⟨j, rfl, hj, HY⟩ := hrel
    by_cases hlt : j < len
    · have hjl : j < l.length := by omega
      obtain ⟨b, off, rfl, hk⟩ := (HK.out.grown HY.out.1).at_ (by omega)
      have kk := hk j l[j] (List.getElem?_eq_getElem hjl)
      have k0 := kk.c0
      have k1 := kk.c1
      have hji : (j : Int) < (len : Int) := by omega
      have htk : l.take (j + 1) = l.take j ++ [l[j]] := by rw [List.take_succ_eq_append_getElem hjl]
      have hsp : l = l.take j ++ (l[j] :: l.drop (j + 1)) := by rw [List.getElem_cons_drop, List.take_append_drop]
      generalize hX : l[j] = X at *
      by_cases h3 : X.nm.toList = s.toList
      · have hR : fnd16 l s = (X.io, true) := by
          unfold fnd16
          rw [hsp, List.find?_append, HY.out.2, List.find?_cons]
          simp [h3]
        have HG : Hid _ := HY.out.1
        have HR : Hid _ := hR
        clear HY hk kk htk hsp hX hR
        go_wp2
        go_returns
        exact ⟨by rw [HR.out]; rfl, grown_trans HG.out (by first | exact World.grownBy_alloc _ _ _ | exact grown_new (World.grownBy_alloc _ _ none) (grown_set _ _ _ _) (Nat.le_refl _))⟩
      · have HN : Hid _ := And.intro HY.out.1 (show (l.take (j + 1)).find? (fun k => k.nm.toList == s.toList) = none by rw [htk, List.find?_append, HY.out.2]; simp [List.find?_cons, beq_eq_false_iff_ne.2 h3])
        have q1 : ¬ X.nm = s := fun e => h3 (by rw [e])
        have q2 : (X.nm.toList == s.toList) = false := beq_eq_false_iff_ne.2 h3
        have hmx := HK.out.le
        have hwj : IntKind.i64.wrap ((j : Int) + 1) = (j : Int) + 1 := by rw [IntKind.wrap_i64]; unfold maxLen at hmx; omega
        clear HY hk kk htk hsp hX hmx
        go_wp2
        refine ⟨⟨j + 1, by go_num, by clear hwj; omega, grown_trans HN.out.1 (World.grownBy_alloc _ _ _), HN.out.2⟩, ?_⟩
        clear hwj
        simp [intOf]; omega
    · obtain rfl : j = len := by omega
      have hR : fnd16 l s = (0, false) := by
        unfold fnd16
        have := HY.out.2
        rw [List.take_of_length_le (by omega)] at this
        rw [this]
      have HG : Hid _ := HY.out.1
      have HR : Hid _ := hR
      clear HY hR
      go_wp2
      go_returns
      exact ⟨by rw [HR.out]; rfl, HG.out⟩
end Go.Proofs.Ytngalihnckbkfaa

namespace Go.Proofs.Ytngalihnckbkfaa
open Go.RowKit Go.Shelf
set_option maxRecDepth 100000
set_option linter.unusedSimpArgs false
set_option linter.unusedVariables false
theorem live16_any (w : World) : Calls Try.prog 8 #[] w fun e w' => e = .returned (.bool true) ∧ w.grownBy w' none := by
  have g0 := World.grownBy_alloc w (.cells #[.string ⟨#[97]⟩, .int .i64 5, .string ⟨#[98]⟩, .int .i64 7, .string ⟨#[99]⟩, .int .i64 2] 41) none
  have B0 := Bx.new w 41 [.string ⟨#[97]⟩, .int .i64 5, .string ⟨#[98]⟩, .int .i64 7, .string ⟨#[99]⟩, .int .i64 2]
  have K0 : Kxs (w.alloc (.cells #[.string ⟨#[97]⟩, .int .i64 5, .string ⟨#[98]⟩, .int .i64 7, .string ⟨#[99]⟩, .int .i64 2] 41)) (some ⟨w.heap.size, 0, none⟩) 3 exK := by
    refine ⟨rfl, by decide, fun _ => ⟨_, _, rfl, fun i X hX => ?_⟩⟩
    match i, hX with
    | 0, hX => injection hX with hX; subst hX; exact ⟨B0.c 0, B0.c 1⟩
    | 1, hX => injection hX with hX; subst hX; exact ⟨B0.c 2, B0.c 3⟩
    | 2, hX => injection hX with hX; subst hX; exact ⟨B0.c 4, B0.c 5⟩
  have h1 := pencode16_ok _ 3 3 exK _ K0 (Nat.le_refl _) (by decide) (by decide) (by decide) ex_rgt
  rw [ex_enb] at h1
  have HB : Hid (Byt [2, 0, 5, 0, 0, 0, 0, 0, 1, 97, 2, 0, 1, 98, 1, 0, 2, 0, 0, 0, 0, 0, 1, 99]) := byt_of _ (by decide)
  clear B0 K0
  go_enter Try.func8, Try.ntmps8
  go_wp2_with fail
  refine h1.mono ?_
  rintro e w1 ⟨g, rfl, b1, hg, g1⟩
  have hR := b1.row HB.out (by decide)
  have hcv : (convert 25 9 (.slice (some ⟨g, 0, none⟩) 24 24)).run Try.prog w1 = .ok (.string (strOfNums [2, 0, 5, 0, 0, 0, 0, 0, 1, 97, 2, 0, 1, 98, 1, 0, 2, 0, 0, 0, 0, 0, 1, 99])) w1 := conv_row (P := Try.prog) hR 24 25 9 Try.underlying25 Try.underlying5 Try.underlying9
  have HG : Hid _ := grown_trans g0 g1
  clear h1 b1 hR g1 g0 HB
  go_wp2_with fail
  refine (num16_any 0 w1).mono ?_
  rintro e w' ⟨rfl, rfl⟩
  have hst : strOfNums [2, 0, 5, 0, 0, 0, 0, 0, 1, 97, 2, 0, 1, 98, 1, 0, 2, 0, 0, 0, 0, 0, 1, 99] = (⟨#[2, 0, 5, 0, 0, 0, 0, 0, 1, 97, 2, 0, 1, 98, 1, 0, 2, 0, 0, 0, 0, 0, 1, 99]⟩ : ByteArray) := by kernel_rfl
  rw [hst] at hcv
  go_wp2
  go_ret
  exact ⟨by first | rfl | decide, HG.out⟩
end Go.Proofs.Ytngalihnckbkfaa

namespace Go.Proofs.Ytngalihnckbkfaa
open Go.RowKit Go.Shelf
set_option maxRecDepth 100000
set_option linter.unusedSimpArgs false
set_option linter.unusedVariables false
theorem vld_size {s : ByteArray} (h : vld s.toList = true) : s.size ≤ 255 := by
  unfold vld at h
  simp only [Bool.and_eq_true, decide_eq_true_eq] at h
  have h2 := h.1.1.1.2
  rw [ByteArray.toList_eq] at h2
  simpa using h2
theorem mch_not {l : List Kx} (h : mch16 l = false) : l.length ≤ 700 ∧ ∀ k ∈ l, k.nm.size ≤ 300 := by
  unfold mch16 at h
  rw [Bool.or_eq_false_iff] at h
  refine ⟨Nat.not_lt.1 (of_decide_eq_false h.1), fun k hk => ?_⟩
  have := List.any_eq_false.1 h.2 k hk
  simpa using this
/-- what a right list's bytes tell is the list itself -/
theorem dcd_enb {l : List Kx} (hr : rgt16 l = true) : dcd16 (enb16 l) = (l, 0) := by
  have hk : ∀ k ∈ l, k.nm.size ≤ 255 ∧ 0 ≤ k.io ∧ k.io ≤ 16384 := fun k hk => by
    obtain ⟨h1, h2, h3⟩ := rgt_mem hr hk
    exact ⟨vld_size h1, h2, h3⟩
  have e := dcT_tld _ _ (dcT_enb hk)
  unfold dcd16
  rw [e, if_pos ⟨hr, rfl⟩]
set_option maxHeartbeats 8000000 in
theorem direntEncodes_walk (a : Option Addr) (len cap : Nat) (l : List Kx) (w : World) (K : Kxs w a len l) (hc : len ≤ cap) (hcm : cap ≤ maxLen) :
    Calls Try.prog 3 #[.slice a len cap] w fun e w' => e = .returned (.bool true) ∧ w.grownBy w' none := by
  have hl := K.len_eq
  have HL : Hid (∀ W : World, Calls Try.prog 8 #[] W fun e w' => e = .returned (.bool true) ∧ W.grownBy w' none) := fun W => live16_any W
  have hM := much16_any a len cap l w K
  by_cases hm : mch16 l = true
  · rw [hm] at hM
    clear K
    go_enter Try.func3, Try.ntmps3
    go_wp2_with (go_at_call 7; refine hM.mono ?_; rintro e w1 ⟨rfl, rfl⟩)
    go_wp2_with (go_at_call 8; refine (HL.out _).mono ?_; rintro e w1 ⟨rfl, g1⟩)
    go_ret
    exact ⟨rfl, g1⟩
  · rw [Bool.not_eq_true] at hm
    rw [hm] at hM
    obtain ⟨hl7, hz3⟩ := mch_not hm
    have HZ3 : Hid _ := hz3
    by_cases hr : rgt16 l = true
    · have hs : ∀ k ∈ l, k.nm.size ≤ 255 := fun k hk => vld_size (rgt_mem hr hk).1
      have hk3 : ∀ k ∈ l, k.nm.size ≤ 255 ∧ 0 ≤ k.io ∧ k.io ≤ 16384 := fun k hk => ⟨hs k hk, (rgt_mem hr hk).2⟩
      have hE := pencode16_ok a len cap l w K hc hcm (by omega) hs hr
      have hlx := enb16_len hs
      have hby := enb16_byt hs
      have HRR : Hid (∀ W, w.grownBy W none → Calls Try.prog 10 #[.slice a len cap] W fun e w' => e = .returned (.bool true) ∧ W.grownBy w' none) := fun W g => by
        have h := rright16_any a len cap l W (K.grown g) (fun k hk => Nat.le_trans (hs k hk) (by decide))
        rw [hr] at h
        exact h
      have HCK : Hid (∀ W, w.grownBy W none → Calls Try.prog 12 #[.slice a len cap] W fun e w' => e = .returned (.int .i64 0) ∧ W.grownBy w' none) := fun W g => by
        have h := pcheck16_any a len cap l W (K.grown g) (fun k hk => Nat.le_trans (hs k hk) (by decide))
        rw [hr, if_pos rfl] at h
        exact h
      have HRB : Hid (∀ W, w.grownBy W none → Calls Try.prog 13 #[.slice a len cap] W fun e w' => ∃ a c, e = .returned (.slice a (enb16 l).length c) ∧ Row w' a (enb16 l).length (enb16 l) ∧ (a = none → c = 0) ∧ W.grownBy w' none) := fun W g => rbytes16_any a len cap l W (K.grown g) (by omega) hk3
      have hdc := dcd_enb hr
      have HDC : Hid (∀ W (a : Option Addr) (c : Nat), Row W a (enb16 l).length (enb16 l) → Calls Try.prog 14 #[.slice a (enb16 l).length c] W fun e w' => ∃ a5 c5, e = .returned (.tuple #[.slice a5 len c5, .int .i64 0]) ∧ Kxs w' a5 len l ∧ W.grownBy w' none) := fun W a c R => by
        have h := pdecode16_any a (enb16 l).length c (enb16 l) W R (by omega)
        rw [hdc] at h
        refine h.mono ?_
        rintro e w' ⟨a5, c5, h1, h2, _, _, h3⟩
        simp only [hl] at h1 h2
        exact ⟨a5, c5, h1, h2, h3⟩
      have HSM : Hid (∀ W (a2 : Option Addr) (len2 cap2 : Nat), w.grownBy W none → Kxs W a2 len2 l → Calls Try.prog 15 #[.slice a len cap, .slice a2 len2 cap2] W fun e w' => e = .returned (.bool true) ∧ W.grownBy w' none) := fun W a2 len2 cap2 g M => by
        have h := rsame16_any a a2 len cap len2 cap2 l l W (K.grown g) M
        rw [sam_self] at h
        exact h
      have hlx2 : (enb16 l).length ≤ 300000 := by omega
      clear K hk3 hs hr hdc hlx
      generalize enb16 l = X at *
      have HBY : Hid _ := hby
      clear hby
      go_enter Try.func3, Try.ntmps3
      go_wp2_with (go_at_call 7; refine hM.mono ?_; rintro e w1 ⟨rfl, rfl⟩)
      go_wp2_with (go_at_call 9; refine hE.mono ?_; rintro e W1 ⟨b, rfl, bb, hbw, g1⟩)
      have HR1 : Hid (Row W1 (some ⟨b, 0, none⟩) X.length X) := bb.row HBY.out (by unfold maxLen; omega)
      clear bb hM hE
      go_wp2_with (go_at_call 10; refine (HRR.out _ g1).mono ?_; rintro e W2 ⟨rfl, g2⟩)
      have HG : Hid _ := grown_trans g1 g2
      have HR2 : Hid _ := HR1.out.grown g2
      clear g1 g2 HR1 HRR
      go_wp2_with fail
      obtain ⟨sb, hsb⟩ : ∃ sb, strOfNums X = sb := ⟨_, rfl⟩
      have HSB : Hid _ := hsb
      clear hsb
      have cvE : ∀ W, W2.grownBy W none → (convert 25 9 (.slice (some ⟨b, 0, none⟩) X.length X.length)).run Try.prog W = .ok (.string sb) W := by
        intro W h
        rw [← HSB.out]
        exact conv_row (P := Try.prog) (HR2.out.grown h) X.length 25 9 Try.underlying25 Try.underlying5 Try.underlying9
      refine wp_region_held_drew (S := fun W => World.grownBy W2 W none) (by kernel_rfl) ⟨rfl, rfl, rfl, Nat.le_refl _, fun _ _ _ => rfl⟩ (fun hH => ?_)
      refine wpAnyH_take (i := 0) (oi := ⟨some 35, _, _, _, _, _⟩) (v := .int .i64 0) rfl (by kernel_rfl) (by kernel_rfl) (by kernel_rfl) (fun _ _ _ h => h) (Or.inl ⟨by rfl, fun w hSw => by go_simp⟩) hH ?_
      simp only [Act.put, List.setIfInBounds_toArray, List.set_cons_zero, List.set_cons_succ]
      refine wpAnyH_ready (rs := [1]) (by kernel_rfl) (by simp) ?_
      refine AllReadyH.cons rfl (fun K hK => ?_) AllReadyH.nil
      go_simp
      go_wp2_with (go_at_call 11; refine (num16_any _ _).mono ?_; rintro e wx ⟨rfl, rfl⟩)
      refine hK.out _ _ hH (fun _ => ?_)
      clear hK K
      refine wpAnyH_take (i := 2) (oi := ⟨some 37, _, _, _, _, _⟩) (v := .bool false) rfl (by kernel_rfl) (by kernel_rfl) (by kernel_rfl) (fun _ _ _ h => h) (Or.inl ⟨by rfl, fun w hSw => by go_simp⟩) hH ?_
      simp only [Act.put, List.setIfInBounds_toArray, List.set_cons_zero, List.set_cons_succ]
      refine wpAnyH_take (i := 3) (oi := ⟨some 38, _, _, _, _, _⟩) (v := .bool false) rfl (by kernel_rfl) (by kernel_rfl) (by kernel_rfl) (fun _ _ _ h => h) (Or.inl ⟨by rfl, fun w hSw => by go_simp⟩) hH ?_
      simp only [Act.put, List.setIfInBounds_toArray, List.set_cons_zero, List.set_cons_succ]
      refine wpAnyH_take (i := 4) (oi := ⟨some 39, _, _, _, _, _⟩) (v := .slice a len cap) rfl (by kernel_rfl) (by kernel_rfl) (by kernel_rfl) (fun _ _ _ h => h) (Or.inl ⟨by rfl, fun w hSw => by go_simp⟩) hH ?_
      simp only [Act.put, List.setIfInBounds_toArray, List.set_cons_zero, List.set_cons_succ]
      refine wpAnyH_ready (rs := [5]) (by kernel_rfl) (by simp) ?_
      refine AllReadyH.cons rfl (fun K hK => ?_) AllReadyH.nil
      go_simp
      go_wp2_with (go_at_call 12; refine (HCK.out _ (grown_trans HG.out hH)).mono ?_; rintro e wx ⟨rfl, gx⟩)
      replace hH := grown_trans hH gx
      refine hK.out _ _ hH (fun _ => ?_)
      clear hK K gx
      refine wpAnyH_ready (rs := [6]) (by kernel_rfl) (by simp) ?_
      refine AllReadyH.cons rfl (fun K hK => ?_) AllReadyH.nil
      go_simp
      go_wp2_with (go_at_call 11; refine (num16_any _ _).mono ?_; rintro e wx ⟨rfl, rfl⟩)
      refine hK.out _ _ hH (fun _ => ?_)
      clear hK K
      refine wpAnyH_take (i := 7) (oi := ⟨some 42, _, _, _, _, _⟩) (v := .bool false) rfl (by kernel_rfl) (by kernel_rfl) (by kernel_rfl) (fun _ _ _ h => h) (Or.inl ⟨by rfl, fun w hSw => by go_simp⟩) hH ?_
      simp only [Act.put, List.setIfInBounds_toArray, List.set_cons_zero, List.set_cons_succ]
      refine wpAnyH_take (i := 8) (oi := ⟨some 43, _, _, _, _, _⟩) (v := .bool false) rfl (by kernel_rfl) (by kernel_rfl) (by kernel_rfl) (fun _ _ _ h => h) (Or.inl ⟨by rfl, fun w hSw => by go_simp⟩) hH ?_
      simp only [Act.put, List.setIfInBounds_toArray, List.set_cons_zero, List.set_cons_succ]
      refine wpAnyH_take (i := 9) (oi := ⟨some 44, _, _, _, _, _⟩) (v := .bool false) rfl (by kernel_rfl) (by kernel_rfl) (by kernel_rfl) (fun _ _ _ h => h) (Or.inl ⟨by rfl, fun w hSw => by go_simp⟩) hH ?_
      simp only [Act.put, List.setIfInBounds_toArray, List.set_cons_zero, List.set_cons_succ]
      refine wpAnyH_take (i := 10) (oi := ⟨some 45, _, _, _, _, _⟩) (v := .slice (some ⟨b, 0, none⟩) X.length X.length) rfl (by kernel_rfl) (by kernel_rfl) (by kernel_rfl) (fun _ _ _ h => h) (Or.inl ⟨by rfl, fun w hSw => by go_simp⟩) hH ?_
      simp only [Act.put, List.setIfInBounds_toArray, List.set_cons_zero, List.set_cons_succ]
      refine wpAnyH_take (i := 11) (oi := ⟨some 46, _, _, _, _, _⟩) (v := .string sb) rfl (by kernel_rfl) (by kernel_rfl) (by kernel_rfl) (fun _ _ _ h => h) (Or.inl ⟨by rfl, fun w hSw => by have cq := cvE w hSw; go_simp⟩) hH ?_
      simp only [Act.put, List.setIfInBounds_toArray, List.set_cons_zero, List.set_cons_succ]
      refine wpAnyH_take (i := 12) (oi := ⟨some 47, _, _, _, _, _⟩) (v := .slice a len cap) rfl (by kernel_rfl) (by kernel_rfl) (by kernel_rfl) (fun _ _ _ h => h) (Or.inl ⟨by rfl, fun w hSw => by go_simp⟩) hH ?_
      simp only [Act.put, List.setIfInBounds_toArray, List.set_cons_zero, List.set_cons_succ]
      refine wpAnyH_ready (rs := [13]) (by kernel_rfl) (by simp) ?_
      refine AllReadyH.cons rfl (fun K hK => ?_) AllReadyH.nil
      go_simp
      go_wp2_with (go_at_call 13; refine (HRB.out _ (grown_trans HG.out hH)).mono ?_; rintro e wx ⟨a4, c4, rfl, R4, n4, gx⟩)
      have cx := conv_row (P := Try.prog) R4 c4 25 9 Try.underlying25 Try.underlying5 Try.underlying9
      rw [HSB.out] at cx
      replace hH := grown_trans hH gx
      refine hK.out _ _ hH (fun _ => ?_)
      clear hK K gx R4 n4
      refine wpAnyH_ready (rs := [14]) (by kernel_rfl) (by simp) ?_
      refine AllReadyH.cons rfl (fun K hK => ?_) AllReadyH.nil
      go_simp
      refine hK.out _ _ hH (fun _ => ?_)
      clear hK K cx
      refine wpAnyH_take (i := 15) (oi := ⟨some 50, _, _, _, _, _⟩) (v := .bool false) rfl (by kernel_rfl) (by kernel_rfl) (by kernel_rfl) (fun _ _ _ h => h) (Or.inl ⟨by rfl, fun w hSw => by go_simp⟩) hH ?_
      simp only [Act.put, List.setIfInBounds_toArray, List.set_cons_zero, List.set_cons_succ]
      refine wpAnyH_ready (rs := [16]) (by kernel_rfl) (by simp) ?_
      refine AllReadyH.cons rfl (fun K hK => ?_) AllReadyH.nil
      go_simp
      refine hK.out _ _ hH (fun _ => ?_)
      clear hK K
      refine wpAnyH_done (by kernel_rfl) ?_ _
      have HG3 : Hid _ := grown_trans HG.out hH
      have HR3 : Hid _ := HR2.out.grown hH
      clear HG HR2 cvE
      go_wp2_with (go_at_call 14; refine (HDC.out _ _ _ HR3.out).mono ?_; rintro e W5 ⟨a5, c5, rfl, K5, g5⟩)
      have HG5 : Hid _ := grown_trans HG3.out g5
      have HK5 : Hid _ := K5
      clear HG3 HR3 g5 K5
      go_wp2_with (first | (go_at_call 11; refine (num16_any _ _).mono ?_; rintro e wx ⟨rfl, rfl⟩) | (go_at_call 15; refine (HSM.out _ _ _ _ HG5.out HK5.out).mono ?_; rintro e W6 ⟨rfl, g6⟩; have HG6 : Hid _ := grown_trans HG5.out g6; clear g6) | (go_at_call 8; refine (HL.out _).mono ?_; rintro e W7 ⟨rfl, g7⟩; have HG7 : Hid _ := grown_trans HG6.out g7; clear g7) | fail)
      go_ret
      exact ⟨rfl, HG7.out⟩
    · rw [Bool.not_eq_true] at hr
      have hz : ∀ k ∈ l, k.nm.size ≤ 1000000 := fun k hk => Nat.le_trans (hz3 k hk) (by decide)
      have hE := pencode16_bad a len cap l w K hz hr
      have HRR : Hid (∀ W, w.grownBy W none → Calls Try.prog 10 #[.slice a len cap] W fun e w' => e = .returned (.bool false) ∧ W.grownBy w' none) := fun W g => by
        have h := rright16_any a len cap l W (K.grown g) (fun k hk => Nat.le_trans (hz3 k hk) (by decide))
        rw [hr] at h
        exact h
      have HCK : Hid (∀ W, w.grownBy W none → Calls Try.prog 12 #[.slice a len cap] W fun e w' => e = .returned (.int .i64 1) ∧ W.grownBy w' none) := fun W g => by
        have h := pcheck16_any a len cap l W (K.grown g) hz
        rw [hr, if_neg (by decide)] at h
        exact h
      clear K hz hz3 hr
      go_enter Try.func3, Try.ntmps3
      go_wp2_with (go_at_call 7; refine hM.mono ?_; rintro e w1 ⟨rfl, rfl⟩)
      go_wp2_with (go_at_call 9; refine hE.mono ?_; rintro e W1 ⟨rfl, g1⟩)
      go_wp2_with (go_at_call 10; refine (HRR.out _ g1).mono ?_; rintro e W2 ⟨rfl, g2⟩)
      have HG : Hid _ := grown_trans g1 g2
      clear g1 g2
      go_wp2_with (first | (go_at_call 11; refine (num16_any _ _).mono ?_; rintro e wx ⟨rfl, rfl⟩) | (go_at_call 12; refine (HCK.out _ HG.out).mono ?_; rintro e W6 ⟨rfl, g6⟩; have HG6 : Hid _ := grown_trans HG.out g6; clear g6) | (go_at_call 8; refine (HL.out _).mono ?_; rintro e W7 ⟨rfl, g7⟩; have HG7 : Hid _ := grown_trans HG6.out g7; clear g7) | fail)
      go_ret
      exact ⟨rfl, HG7.out⟩
end Go.Proofs.Ytngalihnckbkfaa

namespace Go.Proofs.Ytngalihnckbkfaa
open Go.RowKit Go.Shelf
set_option maxRecDepth 100000
set_option linter.unusedSimpArgs false
set_option linter.unusedVariables false
theorem conv_two16 (x y : Int) (hx : 0 ≤ x ∧ x ≤ 255) (hy : 0 ≤ y ∧ y ≤ 255) (W : World) : (convert 25 9 (.slice (some ⟨W.heap.size, 0, none⟩) 2 2)).run Try.prog (W.alloc (.cells #[.int .u8 x, .int .u8 y] 5)) = .ok (.string (strOfNums [x, y])) (W.alloc (.cells #[.int .u8 x, .int .u8 y] 5)) := by
  have hB := Bx.new W 5 [.int .u8 x, .int .u8 y]
  have hc : ∀ i, i < 2 → (W.alloc (.cells #[.int .u8 x, .int .u8 y] 5)).cell? ⟨W.heap.size, 0 + i, none⟩ = some (.int .u8 (([x, y] : List Int).getD i 0)) := fun i hi => by
    rcases (by omega : i = 0 ∨ i = 1) with rfl | rfl
    · exact hB.c 0
    · exact hB.c 1
  have hb : Byt [x, y] := fun z hz => by
    rcases List.mem_cons.1 hz with rfl | hz
    · exact hx
    · rw [List.mem_singleton.1 hz]; exact hy
  have hm : 2 ≤ maxLen := by unfold maxLen; omega
  have hR : Row (W.alloc (.cells #[.int .u8 x, .int .u8 y] 5)) (some ⟨W.heap.size, 0, none⟩) 2 [x, y] := ⟨rfl, hm, hb, fun _ => ⟨W.heap.size, 0, rfl, hc⟩⟩
  exact conv_row (P := Try.prog) hR 2 25 9 Try.underlying25 Try.underlying5 Try.underlying9
set_option maxHeartbeats 8000000 in
theorem direntRows_walk (n : Int) (dn : Bool) (w : World) (hn : -9223372036854775808 ≤ n ∧ n ≤ 9223372036854775807) :
    Calls Try.prog 6 #[.int .i64 n, .bool dn] w fun e w' => e = .returned (.bool true) ∧ w.grownBy w' none := by
  have HL : Hid (∀ W : World, Calls Try.prog 8 #[] W fun e w' => e = .returned (.bool true) ∧ W.grownBy w' none) := fun W => live16_any W
  obtain ⟨i5, hi, hz0, hz1, hz2⟩ := info_parts Try.infoKid
  by_cases h0 : n < 0
  · go_enter Try.func6, Try.ntmps6
    go_wp2_with (go_at_call 8; refine (HL.out _).mono ?_; rintro e w1 ⟨rfl, g1⟩)
    go_ret
    exact ⟨rfl, g1⟩
  by_cases h6 : 600 < n
  · go_enter Try.func6, Try.ntmps6
    go_wp2_with (go_at_call 8; refine (HL.out _).mono ?_; rintro e w1 ⟨rfl, g1⟩)
    go_ret
    exact ⟨rfl, g1⟩
  obtain ⟨n, rfl⟩ : ∃ m : Nat, n = (m : Int) := ⟨n.toNat, by omega⟩
  have hn6 : n ≤ 600 := by omega
  clear hn
  go_enter Try.func6, Try.ntmps6
  go_wp2
  go_loopw [5, 6] (fun v i wr => ∃ j : Nat, i = .int .i64 j ∧ j ≤ n ∧ Hid (Dk16 w wr (ls16 n dn j) v)) (fun _ i _ => n - (intOf i).toNat)
  case atStart => exact ⟨0, rfl, Nat.zero_le _, World.ownsRow_nil _ _ _ _, World.grownBy.refl _ _⟩
  case round =>
    obtain ⟨j, rfl, hj, HD⟩ := hrel
    by_cases hlt : j < n
    · have hji : (j : Int) < (n : Int) := by omega
      have hcv : (convert 25 9 (.slice (some ⟨wr.heap.size, 0, none⟩) 2 2)).run Try.prog (wr.alloc (.cells #[.int .u8 (97 + (j : Int) / 26), .int .u8 (97 + (j : Int) % 26)] 5)) = .ok (.string (nm16 j)) (wr.alloc (.cells #[.int .u8 (97 + (j : Int) / 26), .int .u8 (97 + (j : Int) % 26)] 5)) :=
        conv_two16 (97 + (j : Int) / 26) (97 + (j : Int) % 26) (by omega) (by omega) wr
      obtain ⟨s, hs⟩ : ∃ s, nm16 j = s := ⟨_, rfl⟩
      rw [hs] at hcv
      have gA := World.grownBy_alloc wr (.cells #[.int .u8 (97 + (j : Int) / 26), .int .u8 (97 + (j : Int) % 26)] 5) none
      generalize hWA : wr.alloc (.cells #[.int .u8 (97 + (j : Int) / 26), .int .u8 (97 + (j : Int) % 26)] 5) = WA at hcv gA
      have hBn := Bx.new WA 41 [.string ⟨#[]⟩, .int .i64 0]
      have hsA : WA.heap.size = wr.heap.size + 1 := by rw [← hWA]; simp
      rw [hsA] at hBn
      subst hWA
      have HS : Hid _ := hs
      clear hs
      have hwj : IntKind.i64.wrap ((j : Int) + 1) = (j : Int) + 1 := by rw [IntKind.wrap_i64]; omega
      cases dn with
      | true =>
        have hwd : IntKind.i64.wrap ((n : Int) - (j : Int)) = (n : Int) - (j : Int) := by rw [IntKind.wrap_i64]; omega
        go_wp2_with (first | ((with_reducible refine storeK_here ?_); refine wpList_storeB16 rfl 41 _ _ rfl (wr.heap.size + 1) [.string s, .int .i64 (j : Int)] rfl rfl hBn infoK16 rfl rfl ?_; intro W5 b5 g5; have c0 := b5.c 0; have c1 := b5.c 1; have f1 := b5.f 1; simp only [List.getElem?_cons_zero, List.getElem?_cons_succ] at c0 c1; have hG5 : World.grownBy wr W5 none := grown_new (grown_trans gA (World.grownBy_alloc _ _ none)) g5 (by omega); have hM := HD.out.keep (grown_new hG5 (grown_set W5 (wr.heap.size + 1) 1 (.int .i64 ((n : Int) - (j : Int)))) (Nat.le_succ _))) | (at_builtin; refine wpList_append_own _ rfl _ _ 22 rfl w.heap.size 41 i5 _ 2 24 Try.underlying22 hi hz0 hz1 hz2 rfl (by decide) _ (ls16 n true j).length _ rfl (hM.own.alloc _) ⟨W5.heap.size, 0, none⟩ 1 1 (Kx.cells ⟨s, (n : Int) - (j : Int)⟩) rfl rfl ((by have h := cell_kx_new (W5.setCell ⟨wr.heap.size + 1, 1, none⟩ (.int .i64 ((n : Int) - (j : Int)))) 41 ⟨s, (n : Int) - (j : Int)⟩; rw [size_set] at h; exact h)) (by simp [Kx.cells, Value.oneCell']) (by rw [ls_len]; unfold maxLen; omega) (by rw [ls_len]; omega) (by have := hM.gr.size; simp at this ⊢; omega) ?_; intro v9 W9 o9 g9 _) | fail)
        have hN := (hM.keep (World.grownBy_alloc _ _ none)).app ⟨s, (n : Int) - (j : Int)⟩ o9 g9
        have e9 : ls16 n true j ++ [⟨s, (n : Int) - (j : Int)⟩] = ls16 n true (j + 1) := by rw [ls_next, ← HS.out]; rfl
        rw [e9] at hN
        clear hwj hwd
        refine ⟨⟨j + 1, by go_num, by omega, hN⟩, ?_⟩
        simp [intOf]; omega
      | false =>
        go_wp2_with (first | ((with_reducible refine storeK_here ?_); refine wpList_storeB16 rfl 41 _ _ rfl (wr.heap.size + 1) [.string s, .int .i64 (j : Int)] rfl rfl hBn infoK16 rfl rfl ?_; intro W5 b5 g5; have c0 := b5.c 0; have c1 := b5.c 1; have f1 := b5.f 1; simp only [List.getElem?_cons_zero, List.getElem?_cons_succ] at c0 c1; have hG5 : World.grownBy wr W5 none := grown_new (grown_trans gA (World.grownBy_alloc _ _ none)) g5 (by omega); have hM := HD.out.keep hG5) | (at_builtin; refine wpList_append_own _ rfl _ _ 22 rfl w.heap.size 41 i5 _ 2 24 Try.underlying22 hi hz0 hz1 hz2 rfl (by decide) _ (ls16 n false j).length _ rfl (hM.own.alloc _) ⟨W5.heap.size, 0, none⟩ 1 1 (Kx.cells ⟨s, (j : Int)⟩) rfl rfl (cell_kx_new W5 41 ⟨s, (j : Int)⟩) (by simp [Kx.cells, Value.oneCell']) (by rw [ls_len]; unfold maxLen; omega) (by rw [ls_len]; omega) (by have := hM.gr.size; simp at this ⊢; omega) ?_; intro v9 W9 o9 g9 _) | fail)
        have hN := (hM.keep (World.grownBy_alloc _ _ none)).app ⟨s, (j : Int)⟩ o9 g9
        have e9 : ls16 n false j ++ [⟨s, (j : Int)⟩] = ls16 n false (j + 1) := by rw [ls_next, ← HS.out]; rfl
        rw [e9] at hN
        clear hwj
        refine ⟨⟨j + 1, by go_num, by omega, hN⟩, ?_⟩
        simp [intOf]; omega
    · obtain rfl : j = n := by omega
      have hji : ¬ (j : Int) < (j : Int) := by omega
      obtain ⟨a4, c4, rfl, K4, n4, m4, _⟩ := own_kxs HD.out.own rfl (by rw [ls_len]; unfold maxLen; omega)
      rw [ls_len] at K4 n4
      have hrg := ls_rgt (dn := dn) hn6
      have hs2 : ∀ k ∈ ls16 j dn j, k.nm.size ≤ 255 := fun k hk => by
        obtain ⟨i, _, rfl⟩ := ls_mem hk
        have := nm_size i
        show (nm16 i).size ≤ 255
        omega
      have hE := pencode16_ok a4 j c4 (ls16 j dn j) wr K4 n4 m4 (by omega) hs2 hrg
      have hby := enb16_byt hs2
      have hlx := enb16_len hs2
      rw [ls_len] at hlx
      have hdc := dcd_enb hrg
      have HDC : Hid (∀ W (a : Option Addr) (c : Nat), Row W a (enb16 (ls16 j dn j)).length (enb16 (ls16 j dn j)) → Calls Try.prog 14 #[.slice a (enb16 (ls16 j dn j)).length c] W fun e w' => ∃ a5 c5, e = .returned (.tuple #[.slice a5 j c5, .int .i64 0]) ∧ Kxs w' a5 j (ls16 j dn j) ∧ W.grownBy w' none) := fun W a c R => by
        have h := pdecode16_any a (enb16 (ls16 j dn j)).length c (enb16 (ls16 j dn j)) W R (by omega)
        rw [hdc] at h
        refine h.mono ?_
        rintro e w' ⟨a5, c5, h1, h2, _, _, h3⟩
        simp only [ls_len] at h1 h2
        exact ⟨a5, c5, h1, h2, h3⟩
      generalize hX : enb16 (ls16 j dn j) = X at *
      have HO : Hid _ := HD.out
      have HK : Hid _ := K4
      have HBY : Hid _ := hby
      rw [ls_len]
      clear K4 hby hdc hs2 hrg n4 m4 HD
      cases dn with
      | true =>
        have hEL : ((X.length : Nat) : Int) = 6 * (j : Int) + 5 * (j : Int) := by
          have := ls_bytes j true
          rw [hX] at this
          rw [this]
          simp
          try omega
        have hq0 : IntKind.i64.wrap ((j : Int) + 255) = (j : Int) + 255 := by rw [IntKind.wrap_i64]; omega
        have hw7 : IntKind.i64.wrap (6 * (j : Int)) = 6 * (j : Int) := by rw [IntKind.wrap_i64]; omega
        have hw8 : IntKind.i64.wrap (5 * (j : Int)) = 5 * (j : Int) := by rw [IntKind.wrap_i64]; omega
        have hw9 : IntKind.i64.wrap (6 * (j : Int) + 5 * (j : Int)) = 6 * (j : Int) + 5 * (j : Int) := by rw [IntKind.wrap_i64]; omega
        go_wp2_with (first | (go_at_call 9; refine hE.mono ?_; rintro e W1 ⟨g, rfl, bb, hg, g1⟩; have rr := bb.row HBY.out (by unfold maxLen; omega); have hd := HDC.out W1 _ X.length rr; have HG1 : Hid _ := grown_trans HO.out.gr g1; have HK1 : Hid _ := HK.out.grown g1) | (go_at_call 14; refine hd.mono ?_; rintro e W2 ⟨a5, c5, rfl, K5, g5⟩; have HG2 : Hid _ := grown_trans HG1.out g5; have hs := rsame16_any a4 a5 j c4 j c5 _ _ W2 (HK1.out.grown g5) K5; rw [sam_self] at hs) | (go_at_call 11; refine (num16_any _ _).mono ?_; rintro e wx ⟨rfl, rfl⟩) | (go_at_call 15; refine hs.mono ?_; rintro e W3 ⟨rfl, g6⟩; have HG3 : Hid _ := grown_trans HG2.out g6) | (go_at_call 8; refine (HL.out _).mono ?_; rintro e w7 ⟨rfl, g7⟩) | fail)
        go_ret
        exact ⟨rfl, grown_trans HG3.out g7⟩
      | false =>
        have hEL : ((X.length : Nat) : Int) = 6 * (((j : Int) + 255) / 256) + 5 * (j : Int) := by
          have := ls_bytes j false
          rw [hX] at this
          rw [this]
          simp
          try omega
        have hq0 : IntKind.i64.wrap ((j : Int) + 255) = (j : Int) + 255 := by rw [IntKind.wrap_i64]; omega
        have hw7 : IntKind.i64.wrap (6 * (((j : Int) + 255) / 256)) = 6 * (((j : Int) + 255) / 256) := by rw [IntKind.wrap_i64]; omega
        have hw8 : IntKind.i64.wrap (5 * (j : Int)) = 5 * (j : Int) := by rw [IntKind.wrap_i64]; omega
        have hw9 : IntKind.i64.wrap (6 * (((j : Int) + 255) / 256) + 5 * (j : Int)) = 6 * (((j : Int) + 255) / 256) + 5 * (j : Int) := by rw [IntKind.wrap_i64]; omega
        go_wp2_with (first | (go_at_call 9; refine hE.mono ?_; rintro e W1 ⟨g, rfl, bb, hg, g1⟩; have rr := bb.row HBY.out (by unfold maxLen; omega); have hd := HDC.out W1 _ X.length rr; have HG1 : Hid _ := grown_trans HO.out.gr g1; have HK1 : Hid _ := HK.out.grown g1) | (go_at_call 14; refine hd.mono ?_; rintro e W2 ⟨a5, c5, rfl, K5, g5⟩; have HG2 : Hid _ := grown_trans HG1.out g5; have hs := rsame16_any a4 a5 j c4 j c5 _ _ W2 (HK1.out.grown g5) K5; rw [sam_self] at hs) | (go_at_call 11; refine (num16_any _ _).mono ?_; rintro e wx ⟨rfl, rfl⟩) | (go_at_call 15; refine hs.mono ?_; rintro e W3 ⟨rfl, g6⟩; have HG3 : Hid _ := grown_trans HG2.out g6) | (go_at_call 8; refine (HL.out _).mono ?_; rintro e w7 ⟨rfl, g7⟩) | fail)
        go_ret
        exact ⟨rfl, grown_trans HG3.out g7⟩
end Go.Proofs.Ytngalihnckbkfaa
