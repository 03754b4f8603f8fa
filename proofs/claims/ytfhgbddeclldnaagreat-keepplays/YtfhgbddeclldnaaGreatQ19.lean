/- Contracts of Make, Good, More and Crc: the table lies in a block of 256 cells. Contracts of More, Crc and Good. Contracts of More and Crc without a table. The program's boot: a record's bytes. The program's boot: what bytes say; are bytes the same? -/
import Derived.Deep.WholeRow
import Derived.Deep.DeepCutAuto
import Derived.Lib.SlBytesConst
import Derived.Test.YtfhgbddeclldnaaGreatQ17
import Derived.Test.YtfhgbddeclldnaaGreatQ18
namespace Go.Proofs.YtfhgbddeclldnaaGreat.Fi
open Go.RowKit
set_option maxRecDepth 100000
set_option linter.unusedSimpArgs false
set_option linter.unusedVariables false

/-- the cells of a table -/
def tcs (f : Nat → Nat) : List Value := (List.range 256).map fun i => .int .u32 (f i)
theorem tcs_length (f : Nat → Nat) : (tcs f).length = 256 := by simp [tcs]
theorem tcs_get (f : Nat → Nat) (i : Nat) (h : i < 256) : (tcs f)[i]? = some (.int .u32 (f i)) := by simp [tcs, h]
theorem tcs_one (f : Nat → Nat) : (tcs f).toArray.all (·.oneCell') = true := by simp [tcs, Value.oneCell']
theorem tcs_set (f : Nat → Nat) (j x : Nat) (h : j < 256) : (tcs f).set j (.int .u32 x) = tcs fun i => if i = j then x else f i := by
  apply List.ext_getElem?
  intro i
  rw [List.getElem?_set]
  by_cases hi : i < 256
  · rw [tcs_get _ i hi, tcs_get _ i hi]
    by_cases e : j = i
    · subst e; simp [tcs_length, h]
    · simp [e, Ne.symm e]
  · have h1 : (tcs f)[i]? = none := List.getElem?_eq_none (by rw [tcs_length]; omega)
    rw [h1, List.getElem?_eq_none (by rw [tcs_length]; omega), if_neg (by omega)]
def upto (j i : Nat) : Nat := if i < j then ent i else 0
theorem upto_step (j : Nat) : (fun i => if i = j then ent j else upto j i) = upto (j + 1) := by
  funext i
  unfold upto
  by_cases h : i = j
  · subst h; simp
  · by_cases h2 : i < j
    · simp [h, h2, show i < j + 1 by omega]
    · simp [h, h2, show ¬ i < j + 1 by omega]
theorem upto_zero : upto 0 = fun _ => 0 := by funext i; simp [upto]
theorem tcs_upto : tcs (upto 256) = tcs ent := by
  unfold tcs
  apply List.map_congr_left
  intro i hi
  rw [List.mem_range] at hi
  simp [upto, hi]
/-- guards: the next operation is a load, a store of a whole table -/
theorem load24_here {P : Program} {w : World} {ops : Array Oper} {rest : List Oper} {a : Act} {Q : Exit → Act → World → Prop} {dst : Option Nat} {x : Operand} {type : TypeId} {pos : String} {after : Array Edge} {guard : Option (Nat × Bool)}
    (h : wpList P ops Q (⟨dst, .load 157 x, type, pos, after, guard⟩ :: rest) a w) : wpList P ops Q (⟨dst, .load 157 x, type, pos, after, guard⟩ :: rest) a w := h
theorem store24_here {P : Program} {w : World} {ops : Array Oper} {rest : List Oper} {a : Act} {Q : Exit → Act → World → Prop} {dst : Option Nat} {x y : Operand} {type : TypeId} {pos : String} {after : Array Edge} {guard : Option (Nat × Bool)}
    (h : wpList P ops Q (⟨dst, .store 157 x y, type, pos, after, guard⟩ :: rest) a w) : wpList P ops Q (⟨dst, .store 157 x y, type, pos, after, guard⟩ :: rest) a w := h
theorem zero24 : (∀ w, (zeroValue 157).run Tryz.prog w = .ok (.agg (tcs (upto 0)).toArray) w) ∧ (Tryz.prog.info? 157).map (·.size) = some 256 := by
  rw [upto_zero]
  exact zero_of_info (by kernel_rfl)

set_option maxHeartbeats 400000 in
theorem make_any (w : World) : Calls Tryz.prog 105 #[] w fun e w' => e = .returned (.agg (tcs ent).toArray) ∧ w.grownBy w' none := by
  obtain ⟨hz, hs⟩ := zero24
  go_enter Tryz.func105, Tryz.ntmps105
  go_wp2
  have h1 : SBlk ((w.alloc (.cells (tcs (upto 0)).toArray 157)).alloc (.cells (tcs (upto 0)).toArray 157)) (w.heap.size + 1) (tcs (upto 0)) 157 := heap_alloc2_new w _ _
  have h2 : SBlk ((w.alloc (.cells (tcs (upto 0)).toArray 157)).alloc (.cells (tcs (upto 0)).toArray 157)) w.heap.size (tcs (upto 0)) 157 := heap_alloc2_old w _ _
  have hg : w.grownBy ((w.alloc (.cells (tcs (upto 0)).toArray 157)).alloc (.cells (tcs (upto 0)).toArray 157)) none := grown_trans (World.grownBy_alloc _ _ _) (World.grownBy_alloc _ _ _)
  go_loopw [2, 3] (fun _ i wr => ∃ j : Nat, j ≤ 256 ∧ i = .int .i64 j ∧ SBlk wr (w.heap.size + 1) (tcs (upto j)) 157 ∧ SBlk wr w.heap.size (tcs (upto 0)) 157 ∧ w.grownBy wr none) (fun _ i _ => 256 - (intOf i).toNat)
  case atStart => exact ⟨0, Nat.zero_le _, rfl, h1, h2, hg⟩
  case round =>
    clear h1 h2 hg hz
    obtain ⟨j, hj, rfl, h1, h2, hg⟩ := hrel
    by_cases hlt : j < 256
    · have hE := fun w => entry_any j w (by omega)
      have hc := h1.cell j
      rw [tcs_get _ j hlt] at hc
      have hf := h1.frozen j
      have H1 : Hid (SBlk wr (w.heap.size + 1) (tcs (upto j)) 157) := h1
      have H2 : Hid (SBlk wr w.heap.size (tcs (upto 0)) 157) := h2
      have hj1 : (j : Int) < 256 := by omega
      generalize upto j j = y at hc
      clear h1 h2 hs
      go_wp2_with (go_at_call 108; refine (hE _).mono ?_; rintro e w' ⟨rfl, rfl⟩)
      go_roundw
      case rel =>
        refine ⟨j + 1, by omega, by go_num, ?_, SBlk.grown H2.out (grown_set _ _ _ _) (by simp), grown_new hg (grown_set _ _ _ _) (by omega)⟩
        have := SBlk.set H1.out j (.int .u32 (ent j))
        rw [tcs_set _ _ _ hlt, upto_step] at this
        exact this
      case measure => simp [intOf]; omega
    · have : j = 256 := by omega
      subst this
      rw [tcs_upto] at h1
      have hi : (Tryz.prog.info? 157).map (·.size) = some (tcs ent).toArray.size := by simp [hs, tcs_length]
      have ho : (tcs (upto 0)).toArray.size = (tcs ent).toArray.size := by simp [tcs_length]
      have h3 := setRow_heap wr w.heap.size (tcs (upto 0)).toArray (tcs ent).toArray 157 (0, 0) h2
      have hg2 : w.grownBy (wr.setRow w.heap.size (tcs ent).toArray) none := ⟨hg.os, hg.tape, hg.output, by simpa using hg.size, fun k hk _ => (setRow_other wr w.heap.size k _ (by omega)).trans (hg.block k hk (by simp))⟩
      have H1 : Hid (wr.heap[w.heap.size + 1]? = some (.cells (tcs ent).toArray 157 (0, 0))) := h1
      have H2 : Hid (wr.heap[w.heap.size]? = some (.cells (tcs (upto 0)).toArray 157 (0, 0))) := h2
      have HI : Hid ((Tryz.prog.info? 157).map (·.size) = some (tcs ent).toArray.size) := hi
      have HO : Hid ((tcs (upto 0)).toArray.size = (tcs ent).toArray.size) := ho
      have H3 : Hid ((wr.setRow w.heap.size (tcs ent).toArray).heap[w.heap.size]? = some (.cells (tcs ent).toArray 157 (0, 0))) := h3
      have HG : Hid (w.grownBy (wr.setRow w.heap.size (tcs ent).toArray) none) := hg2
      clear h1 h2 hs hi ho h3 hg2 hg
      go_wp2_with (first | (with_reducible refine load24_here ?_; refine wpList_load_row rfl 157 _ rfl (w.heap.size + 1) rfl 157 _ (0, 0) _ H1.out Tryz.underlying157 rfl HI.out ?_) | (with_reducible refine store24_here ?_; refine wpList_store_row rfl 157 _ _ rfl w.heap.size _ rfl rfl 157 _ H2.out HI.out HO.out (tcs_one _) ?_))
      exact bodyPost_ret (v := .agg (tcs ent).toArray) (results_cell_row rfl _ _ w.heap.size 157 _ (0, 0) _ rfl H3.out Tryz.underlying157 rfl HI.out) rfl ⟨rfl, HG.out⟩
end Go.Proofs.YtfhgbddeclldnaaGreat.Fi

namespace Go.Proofs.YtfhgbddeclldnaaGreat.Fi
open Go.RowKit
set_option maxRecDepth 100000
set_option linter.unusedSimpArgs false
set_option linter.unusedVariables false

theorem ix8_eq {x : Nat} {b : Int} (hb : 0 ≤ b ∧ b ≤ 255) : bits .xor .u8 ((x : Int) % 256) b = ((x % 256 ^^^ b.toNat : Nat) : Int) := by
  obtain ⟨c, rfl⟩ := Int.eq_ofNat_of_zero_le hb.1
  exact xor8 (a := x % 256) (b := c) (by omega) (by omega)
theorem nat_not32 {c : Nat} (h : c < 4294967296) : 4294967295 ^^^ c = 4294967295 - c := by
  apply Nat.eq_of_testBit_eq
  intro i
  have e : 4294967295 - c = 2 ^ 32 - (c + 1) := by omega
  rw [e, Nat.testBit_xor, Nat.testBit_two_pow_sub_succ (by omega), show (4294967295 : Nat) = 2 ^ 32 - 1 from rfl, Nat.testBit_two_pow_sub_one]
  by_cases hi : i < 32
  · simp [hi]
  · have : c.testBit i = false := Nat.testBit_lt_two_pow (Nat.lt_of_lt_of_le h (Nat.pow_le_pow_right (n := 2) (by decide) (Nat.le_of_not_lt hi)))
    simp [hi, this]
theorem not32 {c : Nat} (h : c < 4294967296) : bits .xor .u32 IntKind.u32.max (c : Int) = ((4294967295 - c : Nat) : Int) := by
  have := xor32 (a := 4294967295) (b := c) (by decide) h
  rw [nat_not32 h] at this
  exact this

set_option maxHeartbeats 400000 in
theorem more_tab (T : Nat → Nat) (hT : Tab T) (q c : Nat) (a : Option Addr) (len cap : Nat) (bs : List Int) (w : World) (B : SBlk w q (tcs T) 157) (R : Row w a len bs) (hc : c < 4294967296) :
    Calls Tryz.prog 96 #[.pointer (some ⟨q, 0, none⟩), .int .u32 c, .slice a len cap] w fun e w' => e = .returned (.int .u32 (crc T c bs)) ∧ w = w' := by
  have hle := R.le
  unfold maxLen at hle
  unfold crc
  have e1 := not32 hc
  have hd : 4294967295 - c < 4294967296 := by omega
  generalize 4294967295 - c = d at e1 hd
  have HB : Hid (SBlk w q (tcs T) 157) := B
  clear B
  go_enter Tryz.func96, Tryz.ntmps96
  go_wp2
  clear e1
  go_loop [1, 9, 17] (fun v _ i => ∃ j : Nat, j ≤ len ∧ i = .int .i64 j ∧ v = .int .u32 (upd T d (bs.take j))) (fun _ _ i => len - (intOf i).toNat)
  case atStart => exact ⟨0, Nat.zero_le _, rfl, rfl⟩
  case round =>
    obtain ⟨j, hj, rfl, rfl⟩ := hrel
    by_cases hlt : j < len
    · obtain ⟨b, off, rfl, hc⟩ := R.cells (by omega)
      have hcell := hc j hlt
      have hr := R.byt.getD j
      have hs := upd_snoc T d bs j (by rw [R.len_eq]; exact hlt)
      have hx := upd_lt hT (R.byt.take j) hd
      generalize bs.getD j 0 = x at hcell hr hs
      generalize upd T d (bs.take j) = y at hs hx
      clear hc
      have hi := ix8_eq (x := y) hr
      have hk := ix_lt (c := y) hr
      have hS := stp_eq hT hr hx
      generalize y % 256 ^^^ x.toNat = k at hi hk hS
      have ht := HB.out.cell k
      rw [tcs_get _ k hk] at ht
      have hw : IntKind.u8.wrap (y : Int) = (y : Int) % 256 := by rw [IntKind.wrap_u8]
      go_wp2
      go_round
      case rel => exact ⟨j + 1, by omega, by go_num, by rw [hs, ← hS]⟩
      case measure => simp [intOf]; omega
    · have hx := upd_lt hT R.byt hd
      have : j = len := by omega
      subst this
      rw [List.take_of_length_le (Nat.le_of_eq R.len_eq)]
      generalize hy : upd T d bs = y at hx
      have e2 := not32 hx
      go_wp2
      go_ret
      exact ⟨rfl, rfl⟩
end Go.Proofs.YtfhgbddeclldnaaGreat.Fi

namespace Go.Proofs.YtfhgbddeclldnaaGreat.Fi
open Go.RowKit
set_option maxRecDepth 100000
set_option linter.unusedSimpArgs false
set_option linter.unusedVariables false

set_option maxHeartbeats 400000 in
theorem more_nil (c : Nat) (a : Option Addr) (len cap : Nat) (bs : List Int) (w : World) (R : Row w a len bs) (hc : c < 4294967296) :
    Calls Tryz.prog 96 #[.pointer none, .int .u32 c, .slice a len cap] w fun e w' => e = .returned (.int .u32 (crc ent c bs)) ∧ w.grownBy w' none := by
  have hle := R.le
  unfold maxLen at hle
  unfold crc
  have e1 := not32 hc
  have hd : 4294967295 - c < 4294967296 := by omega
  generalize 4294967295 - c = d at e1 hd
  obtain ⟨hz, hs⟩ := zero24
  have HI : Hid ((Tryz.prog.info? 157).map (·.size) = some (tcs ent).toArray.size) := by show _ = _; simp [hs, tcs_length]
  clear hs
  have hM := make_any w
  go_enter Tryz.func96, Tryz.ntmps96
  go_wp2_with (first | (go_at_call 105; refine hM.mono ?_; rintro e w1 ⟨rfl, hg1⟩; have HG1 : Hid (w.grownBy w1 none) := hg1; clear hg1) | (with_reducible refine store24_here ?_; refine wpList_store_row rfl 157 _ _ rfl w1.heap.size _ rfl rfl 157 _ (heap_alloc_new w1 _) HI.out (by simp [tcs_length]) (tcs_one _) ?_))
  rw [World.setRow_alloc_new]
  have B : SBlk (w1.alloc (.cells (tcs ent).toArray 157)) w1.heap.size (tcs ent) 157 := alloc_sblk _ _ _
  have G : w.grownBy (w1.alloc (.cells (tcs ent).toArray 157)) none := grown_trans HG1.out (World.grownBy_alloc _ _ _)
  have R2 := R.grown G
  have hle := R.le
  unfold maxLen at hle
  clear R hz hM HI HG1
  generalize w1.alloc (.cells (tcs ent).toArray 157) = w2 at B G R2
  generalize w1.heap.size = q at B
  generalize Value.agg (tcs ent).toArray = tv
  have HB : Hid (SBlk w2 q (tcs ent) 157) := B
  have HG : Hid (w.grownBy w2 none) := G
  clear B G e1
  go_loop [1, 9, 17] (fun v _ i => ∃ j : Nat, j ≤ len ∧ i = .int .i64 j ∧ v = .int .u32 (upd ent d (bs.take j))) (fun _ _ i => len - (intOf i).toNat)
  case atStart => exact ⟨0, Nat.zero_le _, rfl, rfl⟩
  case round =>
    obtain ⟨j, hj, rfl, rfl⟩ := hrel
    by_cases hlt : j < len
    · obtain ⟨b, off, rfl, hc⟩ := R2.cells (by omega)
      have hcell := hc j hlt
      have hr := R2.byt.getD j
      have hs := upd_snoc ent d bs j (by rw [R2.len_eq]; exact hlt)
      have hx := upd_lt ent_tab (R2.byt.take j) hd
      generalize bs.getD j 0 = x at hcell hr hs
      generalize upd ent d (bs.take j) = y at hs hx
      clear hc
      have hi := ix8_eq (x := y) hr
      have hk := ix_lt (c := y) hr
      have hS := stp_eq ent_tab hr hx
      generalize y % 256 ^^^ x.toNat = k at hi hk hS
      have ht := HB.out.cell k
      rw [tcs_get _ k hk] at ht
      have hw : IntKind.u8.wrap (y : Int) = (y : Int) % 256 := by rw [IntKind.wrap_u8]
      go_wp2
      go_round
      case rel => exact ⟨j + 1, by omega, by go_num, by rw [hs, ← hS]⟩
      case measure => simp [intOf]; omega
    · have hx := upd_lt ent_tab R2.byt hd
      have : j = len := by omega
      subst this
      rw [List.take_of_length_le (Nat.le_of_eq R2.len_eq)]
      generalize hy : upd ent d bs = y at hx
      have e2 := not32 hx
      go_wp2
      go_ret
      exact ⟨rfl, HG.out⟩

theorem crc_tab (T : Nat → Nat) (hT : Tab T) (q : Nat) (a : Option Addr) (len cap : Nat) (bs : List Int) (w : World) (B : SBlk w q (tcs T) 157) (R : Row w a len bs) :
    Calls Tryz.prog 82 #[.pointer (some ⟨q, 0, none⟩), .slice a len cap] w fun e w' => e = .returned (.int .u32 (crc T 0 bs)) ∧ w = w' := by
  have h := more_tab T hT q 0 a len cap bs w B R (by decide)
  clear B
  go_enter Tryz.func82, Tryz.ntmps82
  go_wp2_with (go_at_call 96; refine h.mono ?_; rintro e w' ⟨rfl, rfl⟩)
  go_ret
  exact ⟨rfl, rfl⟩
theorem crc_nil (a : Option Addr) (len cap : Nat) (bs : List Int) (w : World) (R : Row w a len bs) :
    Calls Tryz.prog 82 #[.pointer none, .slice a len cap] w fun e w' => e = .returned (.int .u32 (crc ent 0 bs)) ∧ w.grownBy w' none := by
  have h := more_nil 0 a len cap bs w R (by decide)
  go_enter Tryz.func82, Tryz.ntmps82
  go_wp2_with (go_at_call 96; refine h.mono ?_; rintro e w' ⟨rfl, hg⟩)
  go_ret
  exact ⟨rfl, by assumption⟩

end Go.Proofs.YtfhgbddeclldnaaGreat.Fi

namespace Go.Proofs.YtfhgbddeclldnaaGreat
open Go.RowKit Go.Proofs.YtfhgbddeclldnaaGreat.Fi
set_option maxRecDepth 100000
set_option linter.unusedSimpArgs false
set_option linter.unusedVariables false

/-- Encode, as a plain function -/
def ren (r : Rc) : List Int × Int := if rrt r = true then (rby r, 0) else ([], 1)
/-- an answer of bytes, in new memory -/
def EnPost (w : World) (r : List Int × Int) (e : Ending) (w' : World) : Prop := ∃ a n c, e = .returned (.tuple #[.slice a n c, .int .i64 r.2]) ∧ w'.ownsRow w.heap.size 5 1 (.slice a n c) n (bv r.1) ∧ w.grownBy w' none
/-- a writer at work on a record's bytes -/
structure Ew (w W : World) (gr p : Nat) (r : Rc) (v : Value) (bs : List Int) : Prop where
  bx : Bx W gr 48 [.int .u64 r.q, .int .i64 r.s, .int .i64 r.l, .int .u64 r.u]
  wi : WInv W p v bs 32 0
  gw : w.grownBy W none
  lo : w.heap.size ≤ gr
  lt : gr < p
theorem Ew.kept {w W W' : World} {gr p : Nat} {r : Rc} {v : Value} {bs : List Int} (h : Ew w W gr p r v bs) (k : W.grownBy W' none) : Ew w W' gr p r v bs :=
  ⟨h.bx.kept k, h.wi.grown k, grown_trans h.gw k, h.lo, h.lt⟩
theorem Ew.on {w W W' : World} {gr p : Nat} {r : Rc} {v v' : Value} {bs bs' : List Int} (h : Ew w W gr p r v bs) (hi : WInv W' p v' bs' 32 0) (k : Fi.Chg W W' p v v') : Ew w W' gr p r v' bs' := by
  have hlt := h.lt
  have hlo := h.lo
  have own : ∀ j, j < p → some j ≠ v.ownBlock := fun j hj e => by have := (h.wi.own.lt j e.symm).1; omega
  refine ⟨⟨by rw [k.block gr h.bx.lt (by omega) (own gr hlt)]; exact h.bx.blk⟩, hi, ⟨k.os.trans h.gw.os, k.tape.trans h.gw.tape, k.output.trans h.gw.output, Nat.le_trans h.gw.size k.size, fun j hj _ => ?_⟩, h.lo, h.lt⟩
  rw [k.block j (by have := h.gw.size; omega) (by omega) (own j (by omega))]
  exact h.gw.block j hj (by simp)
theorem Ew.free {w W : World} {gr p : Nat} {r : Rc} {v : Value} {bs : List Int} (h : Ew w W gr p r v bs) : some W.heap.size ≠ v.ownBlock := fun e => by
  have := (h.wi.own.lt _ e.symm).2; omega
theorem sto_one {s : Int} (h0 : 0 ≤ s) (h1 : s ≤ 255) : sto s 1 = [s] := by
  have e : s % 256 = s := by omega
  first | (simp [sto, e]; done) | (unfold sto; simp [e]; done) | (rw [sto_snoc]; simp [sto, e])
theorem ckE0 {n : Int} {m : Int} (hw : isW m = true) (h : n ≤ lg m) : ckE n m = 0 := by
  unfold ckE; rw [if_pos hw, if_neg (by omega)]

theorem marked_row (w : World) (bs : List Int) (m : Nat × Nat) (hb : Byt bs) (hl : bs.length ≤ maxLen) : Row (w.alloc (.cells (bv bs).toArray 5 m)) (some ⟨w.heap.size, 0, none⟩) bs.length bs := by
  refine ⟨rfl, hl, hb, fun h0 => ⟨_, 0, rfl, fun i hi => ?_⟩⟩
  have e : (w.alloc (.cells (bv bs).toArray 5 m)).heap[w.heap.size]? = some (.cells (bv bs).toArray 5 m) := heap_alloc_new _ _
  unfold World.cell?
  simp only [e, Nat.zero_add]
  rw [List.getElem?_toArray, bv_getElem? bs i hi]
  rfl
set_option maxHeartbeats 2000000 in
theorem pencode_ok (r : Rc) (w : World) (h : r.ok) (hr : rrt r = true) : Calls Tryz.prog 50 #[r.val] w (EnPost w (rby r, 0)) := by
  have hrt := rrt_iff.1 hr
  have h1 := fun W => pright_any r W
  rw [hr] at h1
  obtain ⟨q, s, l, u⟩ := r
  obtain ⟨⟨q0, q1⟩, -, -, u0, u1⟩ := h
  simp only at *
  simp only [Rc.val] at *
  have B0 := Bx.new w 48 [.int .u64 q, .int .i64 s, .int .i64 l, .int .u64 u]
  have G0 := World.grownBy_alloc w (.cells #[.int .u64 q, .int .i64 s, .int .i64 l, .int .u64 u] 48) none
  have H0 : Hid _ := And.intro B0 G0
  clear B0 G0
  have HR : Hid _ := hrt
  have HQ : Hid _ := And.intro (And.intro q0 q1) (And.intro u0 u1)
  clear hrt hr q0 q1 u0 u1
  go_enter Tryz.func50, Tryz.ntmps50
  go_wp2_with fail
  refine (h1 _).mono ?_
  rintro e w1 ⟨rfl, g1⟩
  have H1 : Hid _ := And.intro (H0.out.1.kept g1) (grown_trans H0.out.2 g1)
  clear H0 g1 h1
  go_wp2_with fail
  refine (newwriter_any 32 _).mono ?_
  rintro e w2 ⟨rfl, i2, g2⟩
  rw [if_neg (by decide)] at i2
  have H2 : Hid (Ew w w2 w.heap.size w1.heap.size ⟨q, s, l, u⟩ (.slice none 0 0) []) := ⟨H1.out.1.kept g2, i2, grown_trans H1.out.2 g2, Nat.le_refl _, H1.out.1.lt⟩
  clear i2 g2
  have HP : Hid (w.heap.size < w1.heap.size) := H1.out.1.lt
  clear H1
  generalize w1.heap.size = p at *
  generalize w.heap.size = gr at *
  have hcv := Go.Lib.run_convert_bytes_const (P := Tryz.prog) w2 36 5 #[.int .u8 80, .int .u8 77, .int .u8 66, .int .u8 49] 4 4 Tryz.underlying36 Tryz.underlying5
  have R3 := marked_row w2 [80, 77, 66, 49] (4, 5) (byt_of _ (by decide)) (by decide)
  have HM : Hid _ := And.intro R3 (World.grownBy_alloc w2 (.cells #[.int .u8 80, .int .u8 77, .int .u8 66, .int .u8 49] 5 (4, 5)) none)
  clear R3
  go_wp2_with fail
  clear hcv
  have H3 : Hid _ := H2.out.kept HM.out.2
  refine (wbytes_apart p _ [] 32 _ 4 4 [80, 77, 66, 49] _ H3.out.wi HM.out.1 (fun b off e h => by injection e with e; injection e with e1 e2; subst e1; exact ⟨by simp, Nat.ne_of_gt H2.out.wi.blk.lt, H2.out.free⟩) (by decide) (by decide) (by decide) (by decide)).mono ?_
  rintro e w4 ⟨v4, rfl, i4, k4⟩
  have H4 : Hid (Ew w w4 gr p ⟨q, s, l, u⟩ v4 [80, 77, 66, 49]) := H3.out.on i4 k4
  clear i4 k4 H3 H2 HM
  obtain ⟨a0, a1, a2, a3⟩ := bx4 H4.out.bx
  go_wp2_with fail
  refine (wnum_ok p _ _ 32 q 8 _ H4.out.wi (ckE0 rfl (by show q ≤ 18446744073709551615; have := HQ.out; omega)) (by decide) (by decide) (by decide) (by decide)).mono ?_
  rintro e w5 ⟨v5, rfl, i5, k5⟩
  have H5 : Hid (Ew w w5 gr p ⟨q, s, l, u⟩ v5 ([80, 77, 66, 49] ++ sto q 8)) := H4.out.on i5 k5
  clear i5 k5 H4 a0 a1 a2 a3
  obtain ⟨a0, a1, a2, a3⟩ := bx4 H5.out.bx
  have hws : IntKind.u64.wrap s = s := by rw [IntKind.wrap_u64]; have := HR.out; omega
  have hwl : IntKind.u64.wrap l = l := by rw [IntKind.wrap_u64]; have := HR.out; omega
  go_wp2_with fail
  refine (wnum_ok p _ _ 32 s 1 _ H5.out.wi (ckE0 rfl (by show s ≤ 255; have := HR.out; omega)) (by decide) (by decide) (by simp [sto_len]) (by simp [sto_len])).mono ?_
  rintro e w6 ⟨v6, rfl, i6, k6⟩
  rw [sto_one (by have := HR.out; omega) (by have := HR.out; omega)] at i6
  have H6 : Hid (Ew w w6 gr p ⟨q, s, l, u⟩ v6 ([80, 77, 66, 49] ++ sto q 8 ++ [s])) := H5.out.on i6 k6
  clear i6 k6 H5 a0 a1 a2 a3
  obtain ⟨a0, a1, a2, a3⟩ := bx4 H6.out.bx
  obtain ⟨i5, hi5, hz0, hz1, hz2⟩ := info_parts Tryz.info5
  go_wp2_with (at_make; refine wpList_make8 _ rfl _ _ 36 rfl i5 Tryz.underlying36 hi5 hz0 hz1 hz2 _ _ _ _ 3 rfl rfl rfl rfl (by decide) ?_; intro w7 hb7 hg7 hs7)
  clear hi5 hz0 hz1 hz2 hs7
  have H7 : Hid _ := H6.out.kept hg7
  refine (wbytes_apart p _ _ 32 _ 3 3 [0, 0, 0] _ H7.out.wi (Blk.row (bs := [0, 0, 0]) hb7 (byt_of _ (by decide)) (by decide)) (fun b off e h => by injection e with e; injection e with e1 e2; subst e1; exact ⟨hb7.lt, Nat.ne_of_gt H6.out.wi.blk.lt, H6.out.free⟩) (by decide) (by decide) (by simp [sto_len]) (by simp [sto_len])).mono ?_
  rintro e w8 ⟨v8, rfl, i8, k8⟩
  have H8 : Hid (Ew w w8 gr p ⟨q, s, l, u⟩ v8 ([80, 77, 66, 49] ++ sto q 8 ++ [s] ++ [0, 0, 0])) := H7.out.on i8 k8
  clear i8 k8 H7 H6 hb7 hg7 a0 a1 a2 a3
  obtain ⟨a0, a1, a2, a3⟩ := bx4 H8.out.bx
  go_wp2_with fail
  refine (wnum_ok p _ _ 32 l 4 _ H8.out.wi (ckE0 rfl (by show l ≤ 4294967295; have := HR.out; omega)) (by decide) (by decide) (by simp [sto_len]) (by simp [sto_len])).mono ?_
  rintro e w9 ⟨v9, rfl, i9, k9⟩
  have H9 : Hid (Ew w w9 gr p ⟨q, s, l, u⟩ v9 ([80, 77, 66, 49] ++ sto q 8 ++ [s] ++ [0, 0, 0] ++ sto l 4)) := H8.out.on i9 k9
  clear i9 k9 H8 a0 a1 a2 a3
  obtain ⟨a0, a1, a2, a3⟩ := bx4 H9.out.bx
  go_wp2_with fail
  refine (wnum_ok p _ _ 32 u 8 _ H9.out.wi (ckE0 rfl (by show u ≤ 18446744073709551615; have := HQ.out; omega)) (by decide) (by decide) (by simp [sto_len]) (by simp [sto_len])).mono ?_
  rintro e w10 ⟨v10, rfl, i10, k10⟩
  have e10 : [80, 77, 66, 49] ++ sto q 8 ++ [s] ++ [0, 0, 0] ++ sto l 4 ++ sto u 8 = rb0 ⟨q, s, l, u⟩ := by unfold rb0; simp
  rw [e10] at i10
  have H10 : Hid (Ew w w10 gr p ⟨q, s, l, u⟩ v10 (rb0 ⟨q, s, l, u⟩)) := H9.out.on i10 k10
  clear i10 k10 H9 a0 a1 a2 a3 e10
  have HB : Hid _ := rb0_byt (r := ⟨q, s, l, u⟩) (rrt_iff.2 HR.out)
  have HL : Hid _ := rb0_len ⟨q, s, l, u⟩
  generalize hbb : rb0 ⟨q, s, l, u⟩ = bb at *
  have HE : Hid _ := hbb
  clear hbb
  go_wp2_with fail
  refine (wdone_ok p _ _ 32 _ H10.out.wi (by rw [HL.out]; decide)).mono ?_
  rintro e w11 ⟨rfl, b11, g11⟩
  rw [HL.out]
  have R11 := Blk.row b11 HB.out (by rw [HL.out]; decide)
  have H11 : Hid _ := And.intro (H10.out.kept g11) (Blk.row b11 HB.out (by rw [HL.out]; decide))
  clear R11 b11 g11 H10
  generalize w10.heap.size = k11 at *
  have R11 := H11.out.2
  rw [HL.out] at R11
  have HR11 : Hid _ := R11
  clear R11
  go_wp2_with fail
  refine (crc_nil _ 28 28 bb _ HR11.out).mono ?_
  rintro e w12 ⟨rfl, g12⟩
  have H12 : Hid _ := H11.out.1.kept g12
  clear g12 H11 HR11
  have hcl := crc_lt ent 0 bb
  have hwc : IntKind.u64.wrap (crc ent 0 bb : Nat) = (crc ent 0 bb : Nat) := by rw [IntKind.wrap_u64]; omega
  have HC : Hid (((crc ent 0 bb : Nat) : Int) ≤ 4294967295) := by show ((crc ent 0 bb : Nat) : Int) ≤ 4294967295; omega
  clear hcl
  have HB2 : Hid (rby ⟨q, s, l, u⟩ = bb ++ sto ((crc ent 0 bb : Nat) : Int) 4) := by unfold rby; rw [HE.out]; exact rfl
  generalize ((crc ent 0 bb : Nat) : Int) = cc at *
  go_wp2_with fail
  refine (wnum_ok p _ _ 32 cc 4 _ H12.out.wi (ckE0 rfl HC.out) (by decide) (by decide) (by rw [HL.out]; decide) (by rw [HL.out]; decide)).mono ?_
  rintro e w13 ⟨v13, rfl, i13, k13⟩
  rw [← HB2.out] at i13
  have H13 : Hid (Ew w w13 gr p ⟨q, s, l, u⟩ v13 (rby ⟨q, s, l, u⟩)) := H12.out.on i13 k13
  clear i13 k13 H12
  have HL2 : Hid _ := rby_len ⟨q, s, l, u⟩
  clear HB2
  generalize rby ⟨q, s, l, u⟩ = rb at *
  go_wp2_with fail
  refine (wdone_ok p _ _ 32 _ H13.out.wi (by rw [HL2.out]; decide)).mono ?_
  rintro e w14 ⟨rfl, b14, g14⟩
  rw [HL2.out]
  have H14 : Hid _ := And.intro (H13.out.kept g14) b14
  have HZ : Hid (w.heap.size ≤ w13.heap.size) := H13.out.gw.size
  clear b14 g14 H13
  generalize w13.heap.size = k14 at *
  go_wp2
  go_ret2
  refine ⟨_, _, _, rfl, ⟨by rw [bv_length, HL2.out], Or.inr ⟨k14, 32, (bv rb).toArray, rfl, HZ.out, H14.out.2, Nat.le_refl _, by decide, ?_, ?_⟩⟩, H14.out.1.gw⟩
  · simp only [List.size_toArray, bv_length]; rw [HL2.out]
  · simp only [Nat.mul_one]; exact List.take_of_length_le (by rw [bv_length, HL2.out]; exact Nat.le_refl _)
theorem pencode_no (r : Rc) (w : World) (hr : rrt r = false) : Calls Tryz.prog 50 #[r.val] w (EnPost w ([], 1)) := by
  have h1 := fun W => pright_any r W
  rw [hr] at h1
  obtain ⟨q, s, l, u⟩ := r
  simp only [Rc.val] at *
  have HG : Hid _ := World.grownBy_alloc w (.cells #[.int .u64 q, .int .i64 s, .int .i64 l, .int .u64 u] 48) none
  clear hr
  go_enter Tryz.func50, Tryz.ntmps50
  go_wp2_with fail
  refine (h1 _).mono ?_
  rintro e w1 ⟨rfl, g1⟩
  have H1 : Hid _ := grown_trans HG.out g1
  clear HG g1 h1
  go_wp2
  go_ret2
  exact ⟨_, _, _, rfl, World.ownsRow_nil _ _ _ _, H1.out⟩
theorem pencode_any (r : Rc) (w : World) (h : r.ok) : Calls Tryz.prog 50 #[r.val] w (EnPost w (ren r)) := by
  unfold ren
  cases hr : rrt r
  · rw [if_neg (by decide)]; exact pencode_no r w hr
  · rw [if_pos rfl]; exact pencode_ok r w h hr
end Go.Proofs.YtfhgbddeclldnaaGreat

namespace Go.Proofs.YtfhgbddeclldnaaGreat
open Go.RowKit Go.Proofs.YtfhgbddeclldnaaGreat.Fi
set_option maxRecDepth 100000
set_option linter.unusedSimpArgs false
set_option linter.unusedVariables false

/-- a reader at work on a record's bytes: the answer's variable, the record's, the reader -/
structure Ef (w W : World) (gz gr p g : Nat) (bs : List Int) (k : Nat) (cs : List Value) : Prop where
  z : Bx W gz 48 [.int .u64 0, .int .i64 0, .int .i64 0, .int .u64 0]
  r : Bx W gr 48 cs
  ri : RInv W p g bs k 0
  gw : w.grownBy W none
  lz : w.heap.size ≤ gz
  lr : w.heap.size ≤ gr
  lp : w.heap.size ≤ p
  n1 : gz ≠ p
  n2 : gr ≠ p
  n3 : gr ≠ g
  n4 : gz ≠ gr
  n5 : gz ≠ g
theorem Ef.on {w W W' : World} {gz gr p g k k' : Nat} {bs : List Int} {cs : List Value} (h : Ef w W gz gr p g bs k cs) (hr : RInv W' p g bs k' 0) (hg : W.grownBy W' (some p)) : Ef w W' gz gr p g bs k' cs :=
  ⟨⟨by rw [hg.block _ h.z.lt (by simpa using h.n1)]; exact h.z.blk⟩, ⟨by rw [hg.block _ h.r.lt (by simpa using h.n2)]; exact h.r.blk⟩, hr, grown_new h.gw hg h.lp, h.lz, h.lr, h.lp, h.n1, h.n2, h.n3, h.n4, h.n5⟩
theorem Ef.put {w W : World} {gz gr p g k : Nat} {bs : List Int} {cs : List Value} (h : Ef w W gz gr p g bs k cs) (i : Nat) (v : Value) : Ef w (W.setCell ⟨gr, i, none⟩ v) gz gr p g bs k (cs.set i v) := by
  have hg := grown_set W gr i v
  exact ⟨⟨by rw [hg.block _ h.z.lt (by simpa using h.n4)]; exact h.z.blk⟩, h.r.set i v, h.ri.grown hg (by simpa using fun e => h.n2 e.symm) (by simpa using fun e => h.n3 e.symm), grown_new h.gw hg h.lr, h.lz, h.lr, h.lp, h.n1, h.n2, h.n3, h.n4, h.n5⟩
theorem Ef.ne {w W : World} {gz gr p g k : Nat} {bs : List Int} {cs : List Value} (h : Ef w W gz gr p g bs k cs) : gz ≠ p := h.n1
theorem le_one {bs : List Int} (k : Nat) (h : k < bs.length) : le ((bs.drop k).take 1) = bs.getD k 0 := by
  have e : (bs.drop k).take 1 = [bs[k]] := by rw [List.drop_eq_getElem_cons h]; rfl
  rw [e]
  simp [le, List.getD_eq_getElem?_getD, h]

set_option maxHeartbeats 2000000 in
theorem pfields_any (a : Option Addr) (cap : Nat) (bs : List Int) (w : World) (R : Row w a 32 bs) :
    Calls Tryz.prog 70 #[.slice a 32 cap] w fun e w' => e = .returned (rrd bs).val ∧ w.grownBy w' none := by
  have hlen := R.len_eq
  have HL : Hid _ := hlen
  have HB : Hid _ := R.byt
  have B0 := Bx.new w 48 [.int .u64 0, .int .i64 0, .int .i64 0, .int .u64 0]
  have G0 := World.grownBy_alloc w (.cells #[.int .u64 0, .int .i64 0, .int .i64 0, .int .u64 0] 48) none
  have R0 := R.grown G0
  have H0 : Hid _ := And.intro B0 (And.intro G0 R0)
  clear B0 G0 R0 R hlen
  go_enter Tryz.func70, Tryz.ntmps70
  go_wp2_with fail
  refine (newreader_any a 32 cap bs _ H0.out.2.2 (by decide)).mono ?_
  rintro e w1 ⟨p, g, rfl, i1, hp, hg, g1⟩
  simp only [World.size_alloc] at hp hg
  have H1 : Hid _ := And.intro (H0.out.1.kept g1) (And.intro i1 (And.intro (grown_trans H0.out.2.1 g1) (And.intro hp hg)))
  clear H0 i1 hp hg g1
  go_wp2_with fail
  have gA := World.grownBy_alloc w1 (.cells #[.int .u64 0, .int .i64 0, .int .i64 0, .int .u64 0] 48) none
  have H2 : Hid (Ef w (w1.alloc (.cells #[.int .u64 0, .int .i64 0, .int .i64 0, .int .u64 0] 48)) w.heap.size w1.heap.size p g bs 0 [.int .u64 0, .int .i64 0, .int .i64 0, .int .u64 0]) := by
    have h1 := H1.out
    have l1 := h1.1.lt
    have l2 := h1.2.1.blk.lt
    have l3 := h1.2.1.row.lt
    have l4 := h1.2.2.2
    exact ⟨h1.1.kept gA, Bx.new _ _ _, h1.2.1.grown gA (by simp) (by simp), grown_trans h1.2.2.1 gA, Nat.le_refl _, by omega, by omega, by omega, by omega, by omega, by omega, by omega⟩
  clear gA H1
  generalize w1.alloc (.cells #[.int .u64 0, .int .i64 0, .int .i64 0, .int .u64 0] 48) = W2 at *
  generalize w.heap.size = gz at *
  generalize w1.heap.size = gr at *
  refine (rbytes_ok p g bs 0 4 _ H2.out.ri (by rw [HL.out]; decide)).mono ?_
  rintro e w3 ⟨v3, rfl, -, i3, g3⟩
  have H3 : Hid (Ef w w3 gz gr p g bs 4 _) := H2.out.on i3 g3
  clear H2 i3 g3
  go_wp2_with fail
  refine (rnum_ok p g bs 4 8 _ H3.out.ri rfl (by rw [HL.out]; decide)).mono ?_
  rintro e w4 ⟨rfl, i4, g4⟩
  have H4 : Hid (Ef w w4 gz gr p g bs 12 _) := H3.out.on i4 g4
  clear H3 i4 g4
  obtain ⟨a0, a1, a2, a3⟩ := bx4 H4.out.r
  have f0 := H4.out.r.f 0
  generalize hq : le ((bs.drop 4).take 8) = q
  have HQ : Hid _ := hq
  clear hq
  have H5 : Hid _ := H4.out.put 0 (.int .u64 q)
  clear H4
  go_wp2_with fail
  clear a0 a1 a2 a3 f0
  generalize w4.setCell ⟨gr, 0, none⟩ (.int .u64 q) = W5 at *
  refine (rnum_ok p g bs 12 1 _ H5.out.ri rfl (by rw [HL.out]; decide)).mono ?_
  rintro e w6 ⟨rfl, i6, g6⟩
  have H6 : Hid (Ef w w6 gz gr p g bs 13 [.int .u64 q, .int .i64 0, .int .i64 0, .int .u64 0]) := H5.out.on i6 g6
  clear H5 i6 g6
  have f1 := H6.out.r.f 1
  have hs := le_one (bs := bs) 12 (by rw [HL.out]; decide)
  have hsb : 0 ≤ bs.getD 12 0 ∧ bs.getD 12 0 ≤ 255 := Byt.getD HB.out 12
  rw [hs]
  generalize hsl : bs.getD 12 0 = sl at *
  have HS : Hid _ := hsl
  clear hsl hs
  have hws : IntKind.i64.wrap sl = sl := by rw [IntKind.wrap_i64]; omega
  have c1 := (bx4 H6.out.r).2.1
  clear hsb
  have H7 : Hid (Ef w (w6.setCell ⟨gr, 1, none⟩ (.int .i64 sl)) gz gr p g bs 13 [.int .u64 q, .int .i64 sl, .int .i64 0, .int .u64 0]) := H6.out.put 1 (.int .i64 sl)
  clear H6
  go_wp2_with fail
  generalize w6.setCell ⟨gr, 1, none⟩ (.int .i64 sl) = W7 at *
  clear hws c1 f1
  refine (rbytes_ok p g bs 13 3 _ H7.out.ri (by rw [HL.out]; decide)).mono ?_
  rintro e w8 ⟨v8, rfl, -, i8, g8⟩
  have H8 : Hid (Ef w w8 gz gr p g bs 16 [.int .u64 q, .int .i64 sl, .int .i64 0, .int .u64 0]) := H7.out.on i8 g8
  clear H7 i8 g8
  go_wp2_with fail
  refine (rnum_ok p g bs 16 4 _ H8.out.ri rfl (by rw [HL.out]; decide)).mono ?_
  rintro e w9 ⟨rfl, i9, g9⟩
  have H9 : Hid (Ef w w9 gz gr p g bs 20 [.int .u64 q, .int .i64 sl, .int .i64 0, .int .u64 0]) := H8.out.on i9 g9
  clear H8 i9 g9
  have hb4 : Byt ((bs.drop 16).take 4) := (Byt.drop HB.out 16).take 4
  have hl0 := le_nonneg hb4
  have hl1 := le_lt hb4
  have hl4 : ((bs.drop 16).take 4).length = 4 := by simp [HL.out]
  rw [hl4] at hl1
  clear hl4 hb4
  generalize hll : le ((bs.drop 16).take 4) = ll at *
  have HN : Hid _ := hll
  clear hll
  have hwl : IntKind.i64.wrap ll = ll := by rw [IntKind.wrap_i64]; omega
  clear hl0 hl1
  have f2 := H9.out.r.f 2
  have c2 := (bx4 H9.out.r).2.2.1
  have H10 : Hid (Ef w (w9.setCell ⟨gr, 2, none⟩ (.int .i64 ll)) gz gr p g bs 20 [.int .u64 q, .int .i64 sl, .int .i64 ll, .int .u64 0]) := H9.out.put 2 (.int .i64 ll)
  clear H9
  go_wp2_with fail
  generalize w9.setCell ⟨gr, 2, none⟩ (.int .i64 ll) = W10 at *
  clear hwl c2 f2
  refine (rnum_ok p g bs 20 8 _ H10.out.ri rfl (by rw [HL.out]; decide)).mono ?_
  rintro e w11 ⟨rfl, i11, g11⟩
  have H11 : Hid (Ef w w11 gz gr p g bs 28 [.int .u64 q, .int .i64 sl, .int .i64 ll, .int .u64 0]) := H10.out.on i11 g11
  clear H10 i11 g11
  generalize huu : le ((bs.drop 20).take 8) = uu at *
  have HU : Hid _ := huu
  clear huu
  have f3 := H11.out.r.f 3
  have c3 := (bx4 H11.out.r).2.2.2
  have H12 : Hid (Ef w (w11.setCell ⟨gr, 3, none⟩ (.int .u64 uu)) gz gr p g bs 28 [.int .u64 q, .int .i64 sl, .int .i64 ll, .int .u64 uu]) := H11.out.put 3 (.int .u64 uu)
  clear H11
  have he : rrd bs = ⟨q, sl, ll, uu⟩ := by unfold rrd; rw [HQ.out, HS.out, HN.out, HU.out]
  have HE : Hid _ := he
  clear he
  obtain ⟨b0, b1, b2, b3⟩ := bx4 H12.out.r
  obtain ⟨z0, z1, z2, z3⟩ := bx4 H12.out.z
  have y0 := H12.out.z.f 0
  have y1 := H12.out.z.f 1
  have y2 := H12.out.z.f 2
  have y3 := H12.out.z.f 3
  have R4 := H12.out.z.set4 (.int .u64 q) (.int .i64 sl) (.int .i64 ll) (.int .u64 uu)
  have HG : Hid _ := grown_new H12.out.gw (grown_set4 _ gz (.int .u64 q) (.int .i64 sl) (.int .i64 ll) (.int .u64 uu)) H12.out.lz
  obtain ⟨d0, d1, d2, d3⟩ := bx4 R4
  unfold set4 at d0 d1 d2 d3
  clear R4
  go_wp2
  refine bodyPost_ret (by simp [results, Tryz.results70, go_sem, d0, d1, d2, d3]; try rfl) rfl ?_
  rw [HE.out]
  exact ⟨rfl, HG.out⟩
end Go.Proofs.YtfhgbddeclldnaaGreat
