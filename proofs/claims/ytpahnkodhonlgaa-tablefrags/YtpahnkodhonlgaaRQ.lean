/- Plain facts on memory: rows of bytes that a call made, and what became of the rest. -/
import Derived.Test.YtpahnkodhonlgaaRP
import Derived.Laws.CopyOwn
import Derived.Laws.BytesArg
import Derived.OpenShut
namespace Go.Proofs.Ytpahnkodhonlgaa
open Go.RowKit
set_option maxRecDepth 100000

/-- a number's bytes, the lowest first -/
def sto (n : Int) : Nat → List Int
  | 0 => []
  | k + 1 => n % 256 :: sto (n / 256) k
theorem sto_length (n : Int) (k : Nat) : (sto n k).length = k := by
  induction k generalizing n with
  | zero => rfl
  | succ k ih => simp [sto, ih]
theorem sto_byt (n : Int) (k : Nat) : Byt (sto n k) := by
  induction k generalizing n with
  | zero => intro x hx; simp [sto] at hx
  | succ k ih =>
    intro x hx
    simp only [sto, List.mem_cons] at hx
    rcases hx with rfl | hx
    · omega
    · exact ih _ x hx
theorem sto_snoc (n : Int) (k : Nat) : sto n (k + 1) = sto n k ++ [n / 256 ^ k % 256] := by
  induction k generalizing n with
  | zero => simp [sto]
  | succ k ih =>
    rw [sto, ih, sto, List.cons_append, Int.ediv_ediv_of_nonneg (by decide), Int.pow_succ, Int.mul_comm]
theorem emod_mul' (n a b : Int) (ha : 0 ≤ a) : n % (a * b) = n % a + a * (n / a % b) := by
  rw [Int.emod_def n (a * b), Int.emod_def n a, Int.emod_def (n / a) b, Int.ediv_ediv_of_nonneg ha, Int.mul_sub, Int.mul_assoc]; omega
theorem le_sto (n : Int) (k : Nat) : le (sto n k) = n % 256 ^ k := by
  induction k generalizing n with
  | zero => simp [sto, le, Int.emod_one]
  | succ k ih =>
    simp only [sto, le, ih, Int.pow_succ]
    rw [Int.mul_comm (256 ^ k) 256, emod_mul' n 256 (256 ^ k) (by decide)]

/-- bytes as cells -/
def bv (bs : List Int) : List Value := bs.map (Value.int .u8)
theorem bv_length (bs : List Int) : (bv bs).length = bs.length := by simp [bv]
theorem bv_append (a b : List Int) : bv (a ++ b) = bv a ++ bv b := by simp [bv]
theorem bv_getElem? (bs : List Int) (i : Nat) (h : i < bs.length) : (bv bs)[i]? = some (.int .u8 (bs.getD i 0)) := by
  simp [bv, List.getElem?_eq_getElem h]
theorem bv_one (bs : List Int) : ∀ v ∈ bv bs, v.oneCell' = true := ints_oneCell _ _

/-- block g is a row of these cells, which may be written -/
def Blk (w : World) (g : Nat) (cur : List Value) : Prop := w.heap[g]? = some (.cells cur.toArray 5 (0, 0))

theorem Blk.lt {w : World} {g : Nat} {cur : List Value} (h : Blk w g cur) : g < w.heap.size := (Array.getElem?_eq_some_iff.1 h).1
theorem Blk.cell {w : World} {g : Nat} {cur : List Value} (h : Blk w g cur) (i : Nat) : w.cell? ⟨g, i, none⟩ = cur[i]? := by
  unfold Blk at h; simp [World.cell?, h]
theorem Blk.frozen {w : World} {g : Nat} {cur : List Value} (h : Blk w g cur) (i : Nat) : w.frozen? ⟨g, i, none⟩ = false := by
  unfold Blk at h; simp [World.frozen?, h]
theorem Blk.set {w : World} {g : Nat} {cur : List Value} (h : Blk w g cur) (i : Nat) (v : Value) : Blk (w.setCell ⟨g, i, none⟩ v) g (cur.set i v) := by
  unfold Blk at h ⊢
  rw [setCell_eq_setRow w g i _ _ _ v h, setRow_heap w g _ _ _ _ h]
  simp
theorem Blk.grown {w w' : World} {g : Nat} {cur : List Value} {row : Option Nat} (h : Blk w g cur) (hg : w.grownBy w' row) (hr : some g ≠ row) : Blk w' g cur := by
  unfold Blk; rw [hg.block g h.lt hr]; exact h
theorem Blk.below {w w' : World} {g B : Nat} {cur : List Value} (h : Blk w g cur) (hb : Below B w w') (hr : g < B) : Blk w' g cur := by
  unfold Blk; rw [hb.block g hr]; exact h
theorem Blk.row {w : World} {g : Nat} {bs : List Int} (h : Blk w g (bv bs)) (hb : Byt bs) (hl : bs.length ≤ maxLen) : Row w (some ⟨g, 0, none⟩) bs.length bs :=
  ⟨rfl, hl, hb, fun _ => ⟨g, 0, rfl, fun i hi => by rw [h.cell, Nat.zero_add, bv_getElem? _ _ hi]⟩⟩
theorem Blk.rowAt {w : World} {g : Nat} {cs : List Value} {bs : List Int} (o : Nat) (h : Blk w g cs) (he : (cs.drop o).take bs.length = bv bs) (hb : Byt bs) (hl : bs.length ≤ maxLen) : Row w (some ⟨g, o, none⟩) bs.length bs := by
  refine ⟨rfl, hl, hb, fun _ => ⟨g, o, rfl, fun i hi => ?_⟩⟩
  rw [h.cell, ← bv_getElem? _ _ hi, ← he, List.getElem?_take, if_pos hi, List.getElem?_drop]

theorem grown_trans {a b c : World} {row : Option Nat} (h : a.grownBy b row) (k : b.grownBy c row) : a.grownBy c row :=
  ⟨k.os.trans h.os, k.tape.trans h.tape, k.output.trans h.output, Nat.le_trans h.size k.size, fun i hi hr => (k.block i (Nat.lt_of_lt_of_le hi h.size) hr).trans (h.block i hi hr)⟩
theorem grown_set (w : World) (g i : Nat) (v : Value) : w.grownBy (w.setCell ⟨g, i, none⟩ v) (some g) :=
  ⟨rfl, rfl, rfl, by simp [World.setCell], fun k _ hr => Below.heap_setCell _ _ _ _ (fun e => hr (by rw [e]))⟩
theorem size_set (w : World) (p : Addr) (v : Value) : (w.setCell p v).heap.size = w.heap.size := by simp [World.setCell]

theorem splice_set (cur : List Value) (o : Nat) (cs : List Value) (v : Value) (h : o + cs.length < cur.length) : (splice cur o cs).set (o + cs.length) v = splice cur o (cs ++ [v]) := by
  unfold splice
  rw [List.set_append_right _ _ (by simp; omega), List.length_take, Nat.min_eq_left (by omega), Nat.add_sub_cancel_left, List.set_append_right _ _ (Nat.le_refl _), Nat.sub_self]
  rw [List.drop_eq_getElem_cons h]
  simp [Nat.add_assoc]
theorem splice_nil (cur : List Value) (o : Nat) : splice cur o [] = cur := by simp [splice]

theorem Row.grown {w w' : World} {a : Option Addr} {len : Nat} {bs : List Int} (h : Row w a len bs) (hg : w.grownBy w' none) : Row w' a len bs :=
  h.below ⟨hg.os, hg.tape, hg.output, hg.size, fun k hk => hg.block k hk (by simp)⟩
theorem Row.src {w : World} {a : Option Addr} {len : Nat} {bs : List Int} (h : Row w a len bs) (h0 : 0 < (bv bs).length) : ∃ ad, a = some ad ∧ ∀ j v, (bv bs)[j]? = some v → w.cell? (ad.add j) = some v := by
  rw [bv_length, h.len_eq] at h0
  obtain ⟨b, off, e, hc⟩ := h.cells h0
  refine ⟨_, e, fun j v hj => ?_⟩
  have hjl : j < bs.length := by
    rcases Nat.lt_or_ge j bs.length with h | h
    · exact h
    · rw [List.getElem?_eq_none (by rw [bv_length]; exact h)] at hj; cases hj
  have hadd : (⟨b, off, none⟩ : Addr).add j = ⟨b, off + j, none⟩ := by unfold Addr.add; split <;> simp_all
  rw [hadd, hc j (by rw [← h.len_eq]; exact hjl), ← bv_getElem? _ _ hjl]
  exact hj

/-- 'make([]byte, n)' -/
theorem wpList_make8 {P : Program} (w : World) {ops : Array Oper} {rest : List Oper} {o : Oper} {a : Act} {Q : Exit → Act → World → Prop}
    (hg : o.guard = none) (l c : Operand) (t : TypeId) (hop : o.op = Op.makeSlice t l c)
    (i : TypeInfo) (h1 : P.underlying t = some (.slice 5)) (h2 : P.info? 5 = some i) (h3 : i.zero = some (.int .u8 0)) (_h4 : i.size = 1) (h5 : i.bytes = 1)
    (kl kc : IntKind) (L C : Int) (n : Nat) (hl : a.eval l = .int kl L) (hc : a.eval c = .int kc C) (hL : L = (n : Int)) (hC : C = (n : Int)) (b2 : n ≤ 281474976710656)
    (hK : ∀ w', Blk w' w.heap.size (List.replicate n (.int .u8 0)) → w.grownBy w' none → w'.heap.size = w.heap.size + 1 → wpList P ops Q rest (a.put o.dst (.slice (some ⟨w.heap.size, 0, none⟩) n n)) w') :
    wpList P ops Q (o :: rest) a w := by
  refine wpList_plain hg fun K hK' => ?_
  have hr := run_make (P := P) w t 5 i _ h1 h2 h3 kl kc n n (by omega) (Int.le_refl _) (by rw [h5]; omega) (by omega)
  simp only [Int.toNat_natCast] at hr
  subst hL
  subst hC
  unfold Oper.wp
  simp [execOp, hop, hl, hc, hr, Result.andThen]
  refine hK' _ _ (hK _ ?_ (World.grownBy_alloc w _ none) (by simp))
  unfold Blk
  rw [heap_alloc_new]
  have e := toList_madeCells_one (.int .u8 0) n
  have : (madeCells (Value.int IntKind.u8 0).cells (n * i.size)) = (List.replicate n (Value.int .u8 0)).toArray := by
    rw [_h4, Nat.mul_one, ← e]; simp [Value.cells]
  simp [this]

/-- 'copy' into a row that the call made -/
theorem wpList_copy8 {P : Program} {w : World} {ops : Array Oper} {rest : List Oper} {o : Oper} {a : Act} {Q : Exit → Act → World → Prop} (hgd : o.guard = none) (d s : Operand) (dT sT : TypeId)
    (ho : o.op = .call { callee := .builtin .copy, args := #[d, s], argTypes := #[dT, sT] }) (hu : P.underlying dT = some (.slice 5)) (hsz : (P.info? 5).map (·.size) = some 1)
    (dp sp : Option Addr) (dLen dCap sLen sCap : Nat) (hd : a.eval d = .slice dp dLen dCap) (hs : a.eval s = .slice sp sLen sCap)
    (g off : Nat) (cur : List Value) (hg : Blk w g cur) (cs : List Value) (hn : cs.length = Nat.min sLen dLen)
    (hpos : 0 < cs.length → dp = some ⟨g, off, none⟩ ∧ ∃ ad, sp = some ad ∧ ∀ j v, cs[j]? = some v → w.cell? (ad.add j) = some v)
    (hfit : off + cs.length ≤ cur.length) (h1 : ∀ v ∈ cs, v.oneCell' = true)
    (h : ∀ w', Blk w' g (splice cur off cs) → w.grownBy w' (some g) → w'.heap.size = w.heap.size → wpList P ops Q rest (a.put o.dst (goInt cs.length)) w') :
    wpList P ops Q (o :: rest) a w := by
  by_cases h0 : cs.length = 0
  · obtain rfl : cs = [] := List.eq_nil_of_length_eq_zero h0
    refine wpList_copy_nothing hgd d s dT sT ho 5 hu hsz dp sp dLen dCap sLen sCap hd hs (by simpa using hn.symm) ?_
    exact h w (by rw [splice_nil]; exact hg) (World.grownBy.refl _ _) rfl
  · obtain ⟨rfl, ad, rfl, hsrc⟩ := hpos (by omega)
    refine wpList_copy_own hgd d s dT sT ho 5 hu hsz g off dLen dCap ad sLen sCap hd hs cur.toArray 5 hg cs hn hsrc (by simpa using hfit) h1 ?_
    refine h _ ?_ ⟨rfl, rfl, rfl, by simp [World.setRow], fun k _ hk => setRow_other w g k _ (fun e => hk (by rw [e]))⟩ (by simp [World.setRow])
    unfold Blk
    simpa [splice] using setRow_heap w g _ _ 5 _ hg
/-- a guard: the next operation is a copy -/
theorem copy_here {P : Program} {w : World} {ops : Array Oper} {rest : List Oper} {a : Act} {Q : Exit → Act → World → Prop} {dst : Option Nat} {args : Array Operand} {argTypes : Array TypeId} {type : TypeId} {pos : String} {after : Array Edge} {guard : Option (Nat × Bool)}
    (h : wpList P ops Q (⟨dst, .call { callee := .builtin .copy, args := args, argTypes := argTypes }, type, pos, after, guard⟩ :: rest) a w) : wpList P ops Q (⟨dst, .call { callee := .builtin .copy, args := args, argTypes := argTypes }, type, pos, after, guard⟩ :: rest) a w := h
/-- writes to a block that is new are no writes to what was there -/
theorem grown_new {a b c : World} {g : Nat} (h : a.grownBy b none) (k : b.grownBy c (some g)) (hg : a.heap.size ≤ g) : a.grownBy c none :=
  ⟨k.os.trans h.os, k.tape.trans h.tape, k.output.trans h.output, Nat.le_trans h.size k.size, fun i hi _ => (k.block i (Nat.lt_of_lt_of_le hi h.size) (fun e => by injection e; omega)).trans (h.block i hi (by simp))⟩
theorem grown_below {a b : World} (h : a.grownBy b none) : Below a.heap.size a b := ⟨h.os, h.tape, h.output, h.size, fun k hk => h.block k hk (by simp)⟩
theorem below_grown {a b : World} (h : Below a.heap.size a b) : a.grownBy b none := ⟨h.os, h.tape, h.output, h.size, fun k hk _ => h.block k hk⟩
theorem splice_two (z x y : List Value) (h : z.length = x.length + y.length) : splice (splice z 0 x) x.length y = x ++ y := by
  unfold splice
  rw [List.take_zero, List.nil_append, Nat.zero_add, List.take_append_of_le_length (by simp), List.take_of_length_le (by simp)]
  rw [List.drop_eq_nil_of_le (by simp; omega), List.append_nil]
theorem alloc_blk (w : World) (cs : List Value) : Blk (w.alloc (.cells cs.toArray 5)) w.heap.size cs := heap_alloc_new _ _
theorem alloc_row (w : World) (bs : List Int) (hb : Byt bs) (hl : bs.length ≤ maxLen) : Row (w.alloc (.cells (bv bs).toArray 5)) (some ⟨w.heap.size, 0, none⟩) bs.length bs := (alloc_blk w (bv bs)).row hb hl

/-- bytes as a text -/
theorem conv_row {P : Program} {w : World} {a : Option Addr} {len : Nat} {bs : List Int} (R : Row w a len bs) (cap : Nat) (src dst : TypeId) (hs : P.underlying src = some (.slice 5)) (he : P.underlying 5 = some (.int .u8)) (hd : P.underlying dst = some .string) :
    (convert src dst (.slice a len cap)).run P w = .ok (.string (strOfNums bs)) w := by
  by_cases h0 : 0 < len
  · obtain ⟨b, off, rfl, hc⟩ := R.cells h0
    exact run_convert_bytes_arg w src 5 hs he b off len cap bs R.len_eq hc dst hd
  · obtain rfl : len = 0 := by omega
    obtain rfl : bs = [] := List.eq_nil_of_length_eq_zero R.len_eq
    cases a with
    | none => exact run_convert_bytes_nil w src 5 hs he 0 cap dst hd
    | some x =>
      have hl : (loadCells x 0).run P w = .ok (([] : List Int).map (Value.int .u8)).toArray w := by
        have := run_loadCells_list (P := P) w x [] (fun j v hj => by simp at hj)
        simpa using this
      rw [run_convert_bytes_string w src dst 5 _ 0 cap hs he hd, run_bytesToString w x 0 cap [] hl, foldl_push_bytes]
      rfl
theorem str_toList (bs : List Int) : (strOfNums bs).toList = bs.map fun n => UInt8.ofNat n.toNat := by rw [ByteArray.toList_eq]; rfl
theorem str_eq (a b : List Int) (ha : Byt a) (hb : Byt b) : ((strOfNums a).toList == (strOfNums b).toList) = decide (a = b) := by
  rw [str_toList, str_toList]
  by_cases h : a = b
  · subst h; simp
  · have : (a.map fun n : Int => UInt8.ofNat n.toNat) ≠ b.map fun n : Int => UInt8.ofNat n.toNat := by
      intro e
      apply h
      have key : ∀ (l : List Int), Byt l → (l.map fun n : Int => UInt8.ofNat n.toNat).map (fun u : UInt8 => (u.toNat : Int)) = l := by
        intro l hl
        rw [List.map_map]
        have : ∀ x ∈ l, ((fun u : UInt8 => (u.toNat : Int)) ∘ fun n : Int => UInt8.ofNat n.toNat) x = x := by
          intro x hx
          have := hl x hx
          simp only [Function.comp, UInt8.toNat_ofNat']
          omega
        rw [List.map_congr_left this, List.map_id']
      rw [← key a ha, ← key b hb, e]
    simp [h, this]
/-- what is known of a slice of numbers that came in -/
def IsRow (k : IntKind) (w : World) (a : Option Addr) (len cap : Nat) (zs : List Int) : Prop :=
  (a = none ∧ len = 0 ∧ cap = 0 ∧ zs = []) ∨
  ∃ x, a = some x ∧ len ≤ cap ∧ cap ≤ maxLen ∧ zs.length = cap ∧ (∀ i, i < zs.length → w.cell? (x.add i) = some (.int k (zs.getD i 0))) ∧ ∀ n ∈ zs, (Lit.int k n).wf = true
theorem getD_take (l : List Int) (n i : Nat) (h : i < n) : (l.take n).getD i 0 = l.getD i 0 := by
  rw [List.getD_eq_getElem?_getD, List.getD_eq_getElem?_getD, List.getElem?_take, if_pos h]
theorem wf_u8 {n : Int} (h : (Lit.int .u8 n).wf = true) : 0 ≤ n ∧ n ≤ 255 := by
  have := bounds_u8 h; omega
theorem wf_i64 {n : Int} (h : (Lit.int .i64 n).wf = true) : -9223372036854775808 ≤ n ∧ n ≤ 9223372036854775807 := by
  have := bounds_i64 h; omega
theorem wf_u64 {n : Int} (h : (Lit.int .u64 n).wf = true) : 0 ≤ n ∧ n < 18446744073709551616 := by
  have := bounds_u64 h; omega
theorem IsRow.row {w : World} {a : Option Addr} {len cap : Nat} {zs : List Int} (h : IsRow .u8 w a len cap zs) : Row w a len (zs.take len) := by
  rcases h with ⟨rfl, rfl, rfl, rfl⟩ | ⟨x, rfl, hl, hm, hz, hcell, hwz⟩
  · exact ⟨rfl, Nat.zero_le _, fun n hn => by simp at hn, fun h => absurd h (by omega)⟩
  · refine ⟨by simp; omega, by omega, fun n hn => wf_u8 (hwz n (List.mem_of_mem_take hn)), fun h0 => ?_⟩
    obtain ⟨b, off, spot⟩ := x
    have hc := hcell 0 (by omega)
    have hspot : spot = none := by simpa [Addr.add] using World.cell?_spot hc
    subst hspot
    refine ⟨b, off, rfl, fun i hi => ?_⟩
    have hadd : (⟨b, off, none⟩ : Addr).add i = ⟨b, off + i, none⟩ := by unfold Addr.add; split <;> simp_all
    rw [← hadd, hcell i (by omega), getD_take _ _ _ hi]
theorem splice_all (z cs : List Value) (h : z.length = cs.length) : splice z 0 cs = cs := by
  unfold splice
  rw [List.take_zero, List.nil_append, List.drop_eq_nil_of_le (by omega), List.append_nil]
theorem pow8 (j : Nat) : (2 : Int) ^ (8 * j) = 256 ^ j := by rw [Int.pow_mul]; rfl
end Go.Proofs.Ytpahnkodhonlgaa
