/- Plain facts on memory: rows of bytes that a call made, and what became of the rest. Entries in memory; the document's path. -/
import Derived.Laws.CopyOwn
import Derived.Laws.BytesArg
import Derived.OpenShut
import Derived.Test.YtlehncfehoelbaaGreatDoorB02
namespace Go.Proofs.YtlehncfehoelbaaGreatDoor
open Go.RowKit
set_option maxRecDepth 100000
/-- bytes as cells -/
def bv (bs : List Int) : List Value := bs.map (Value.int .u8)
theorem bv_length (bs : List Int) : (bv bs).length = bs.length := by simp [bv]
theorem bv_append (a b : List Int) : bv (a ++ b) = bv a ++ bv b := by simp [bv]
theorem bv_getElem? (bs : List Int) (i : Nat) (h : i < bs.length) : (bv bs)[i]? = some (.int .u8 (bs.getD i 0)) := by
 simp [bv, List.getElem?_eq_getElem h]
theorem bv_one (bs : List Int) : ∀ v ∈ bv bs, v.oneCell' = true := ints_oneCell _ _

/-- block g is a row of these cells, which may be written -/
def Blk (w : World) (g : Nat) (cur : List Value) : Prop := w.heap[g]? = some (.cells cur.toArray 5 (0, 0))

theorem Blk.lt {w : World} {g : Nat} {cur : List Value} (h : Blk w g cur) : g < w.heap.size := (Array.getElem?_eq_some_iff.1 h).1
theorem Blk.cell {w : World} {g : Nat} {cur : List Value} (h : Blk w g cur) (i : Nat) : w.cell? ⟨g, i, none⟩ = cur[i]? := by
 unfold Blk at h; simp [World.cell?, h]
theorem Blk.frozen {w : World} {g : Nat} {cur : List Value} (h : Blk w g cur) (i : Nat) : w.frozen? ⟨g, i, none⟩ = false := by
 unfold Blk at h; simp [World.frozen?, h]
theorem Blk.set {w : World} {g : Nat} {cur : List Value} (h : Blk w g cur) (i : Nat) (v : Value) : Blk (w.setCell ⟨g, i, none⟩ v) g (cur.set i v) := by
 unfold Blk at h ⊢
 rw [setCell_eq_setRow w g i _ _ _ v h, setRow_heap w g _ _ _ _ h]
 simp
theorem Blk.grown {w w' : World} {g : Nat} {cur : List Value} {row : Option Nat} (h : Blk w g cur) (hg : w.grownBy w' row) (hr : some g ≠ row) : Blk w' g cur := by
 unfold Blk; rw [hg.block g h.lt hr]; exact h
theorem Blk.below {w w' : World} {g B : Nat} {cur : List Value} (h : Blk w g cur) (hb : Below B w w') (hr : g < B) : Blk w' g cur := by
 unfold Blk; rw [hb.block g hr]; exact h
theorem Blk.row {w : World} {g : Nat} {bs : List Int} (h : Blk w g (bv bs)) (hb : Byt bs) (hl : bs.length ≤ maxLen) : Row w (some ⟨g, 0, none⟩) bs.length bs :=
 ⟨rfl, hl, hb, fun _ => ⟨g, 0, rfl, fun i hi => by rw [h.cell, Nat.zero_add, bv_getElem? _ _ hi]⟩⟩
theorem grown_trans {a b c : World} {row : Option Nat} (h : a.grownBy b row) (k : b.grownBy c row) : a.grownBy c row :=
 ⟨k.os.trans h.os, k.tape.trans h.tape, k.output.trans h.output, Nat.le_trans h.size k.size, fun i hi hr => (k.block i (Nat.lt_of_lt_of_le hi h.size) hr).trans (h.block i hi hr)⟩
theorem grown_set (w : World) (g i : Nat) (v : Value) : w.grownBy (w.setCell ⟨g, i, none⟩ v) (some g) :=
 ⟨rfl, rfl, rfl, by simp [World.setCell], fun k _ hr => Below.heap_setCell _ _ _ _ (fun e => hr (by rw [e]))⟩
theorem size_set (w : World) (p : Addr) (v : Value) : (w.setCell p v).heap.size = w.heap.size := by simp [World.setCell]

theorem splice_nil (cur : List Value) (o : Nat) : splice cur o [] = cur := by simp [splice]

theorem Row.grown {w w' : World} {a : Option Addr} {len : Nat} {bs : List Int} (h : Row w a len bs) (hg : w.grownBy w' none) : Row w' a len bs :=
 h.below ⟨hg.os, hg.tape, hg.output, hg.size, fun k hk => hg.block k hk (by simp)⟩
theorem Row.src {w : World} {a : Option Addr} {len : Nat} {bs : List Int} (h : Row w a len bs) (h0 : 0 < (bv bs).length) : ∃ ad, a = some ad ∧ ∀ j v, (bv bs)[j]? = some v → w.cell? (ad.add j) = some v := by
 rw [bv_length, h.len_eq] at h0
 obtain ⟨b, off, e, hc⟩ := h.cells h0
 refine ⟨_, e, fun j v hj => ?_⟩
 have hjl : j < bs.length := by
  rcases Nat.lt_or_ge j bs.length with h | h
  ·exact h
  ·rw [List.getElem?_eq_none (by rw [bv_length]; exact h)] at hj; cases hj
 have hadd : (⟨b, off, none⟩ : Addr).add j = ⟨b, off + j, none⟩ := by unfold Addr.add; split <;> simp_all
 rw [hadd, hc j (by rw [← h.len_eq]; exact hjl), ← bv_getElem? _ _ hjl]
 exact hj

/-- 'make([]byte, n)' -/
theorem wpList_make8 {P : Program} (w : World) {ops : Array Oper} {rest : List Oper} {o : Oper} {a : Act} {Q : Exit → Act → World → Prop}
  (hg : o.guard = none) (l c : Operand) (t : TypeId) (hop : o.op = Op.makeSlice t l c)
  (i : TypeInfo) (h1 : P.underlying t = some (.slice 5)) (h2 : P.info? 5 = some i) (h3 : i.zero = some (.int .u8 0)) (_h4 : i.size = 1) (h5 : i.bytes = 1)
  (kl kc : IntKind) (L C : Int) (n : Nat) (hl : a.eval l = .int kl L) (hc : a.eval c = .int kc C) (hL : L = (n : Int)) (hC : C = (n : Int)) (b2 : n ≤ 281474976710656)
  (hK : ∀ w', Blk w' w.heap.size (List.replicate n (.int .u8 0)) → w.grownBy w' none → w'.heap.size = w.heap.size + 1 → wpList P ops Q rest (a.put o.dst (.slice (some ⟨w.heap.size, 0, none⟩) n n)) w') :
  wpList P ops Q (o :: rest) a w := by
 refine wpList_plain hg fun K hK' => ?_
 have hr := run_make (P := P) w t 5 i _ h1 h2 h3 kl kc n n (by omega) (Int.le_refl _) (by rw [h5]; omega) (by omega)
 simp only [Int.toNat_natCast] at hr
 subst hL
 subst hC
 unfold Oper.wp
 simp [execOp, hop, hl, hc, hr, Result.andThen]
 refine hK' _ _ (hK _ ?_ (World.grownBy_alloc w _ none) (by simp))
 unfold Blk
 rw [heap_alloc_new]
 have e := toList_madeCells_one (.int .u8 0) n
 have : (madeCells (Value.int IntKind.u8 0).cells (n * i.size)) = (List.replicate n (Value.int .u8 0)).toArray := by
  rw [_h4, Nat.mul_one, ← e]; simp [Value.cells]
 simp [this]

/-- 'copy' into a row that the call made -/
theorem wpList_copy8 {P : Program} {w : World} {ops : Array Oper} {rest : List Oper} {o : Oper} {a : Act} {Q : Exit → Act → World → Prop} (hgd : o.guard = none) (d s : Operand) (dT sT : TypeId)
  (ho : o.op = .call { callee := .builtin .copy, args := #[d, s], argTypes := #[dT, sT] }) (hu : P.underlying dT = some (.slice 5)) (hsz : (P.info? 5).map (·.size) = some 1)
  (dp sp : Option Addr) (dLen dCap sLen sCap : Nat) (hd : a.eval d = .slice dp dLen dCap) (hs : a.eval s = .slice sp sLen sCap)
  (g off : Nat) (cur : List Value) (hg : Blk w g cur) (cs : List Value) (hn : cs.length = Nat.min sLen dLen)
  (hpos : 0 < cs.length → dp = some ⟨g, off, none⟩ ∧ ∃ ad, sp = some ad ∧ ∀ j v, cs[j]? = some v → w.cell? (ad.add j) = some v)
  (hfit : off + cs.length ≤ cur.length) (h1 : ∀ v ∈ cs, v.oneCell' = true)
  (h : ∀ w', Blk w' g (splice cur off cs) → w.grownBy w' (some g) → w'.heap.size = w.heap.size → wpList P ops Q rest (a.put o.dst (goInt cs.length)) w') :
  wpList P ops Q (o :: rest) a w := by
 by_cases h0 : cs.length = 0
 ·obtain rfl : cs = [] := List.eq_nil_of_length_eq_zero h0
  refine wpList_copy_nothing hgd d s dT sT ho 5 hu hsz dp sp dLen dCap sLen sCap hd hs (by simpa using hn.symm) ?_
  exact h w (by rw [splice_nil]; exact hg) (World.grownBy.refl _ _) rfl
 ·obtain ⟨rfl, ad, rfl, hsrc⟩ := hpos (by omega)
  refine wpList_copy_own hgd d s dT sT ho 5 hu hsz g off dLen dCap ad sLen sCap hd hs cur.toArray 5 hg cs hn hsrc (by simpa using hfit) h1 ?_
  refine h _ ?_ ⟨rfl, rfl, rfl, by simp [World.setRow], fun k _ hk => setRow_other w g k _ (fun e => hk (by rw [e]))⟩ (by simp [World.setRow])
  unfold Blk
  simpa [splice] using setRow_heap w g _ _ 5 _ hg
/-- a guard: the next operation is a copy -/
theorem copy_here {P : Program} {w : World} {ops : Array Oper} {rest : List Oper} {a : Act} {Q : Exit → Act → World → Prop} {dst : Option Nat} {args : Array Operand} {argTypes : Array TypeId} {type : TypeId} {pos : String} {after : Array Edge} {guard : Option (Nat × Bool)}
  (h : wpList P ops Q (⟨dst, .call { callee := .builtin .copy, args := args, argTypes := argTypes }, type, pos, after, guard⟩ :: rest) a w) : wpList P ops Q (⟨dst, .call { callee := .builtin .copy, args := args, argTypes := argTypes }, type, pos, after, guard⟩ :: rest) a w := h
/-- writes to a block that is new are no writes to what was there -/
theorem grown_new {a b c : World} {g : Nat} (h : a.grownBy b none) (k : b.grownBy c (some g)) (hg : a.heap.size ≤ g) : a.grownBy c none :=
 ⟨k.os.trans h.os, k.tape.trans h.tape, k.output.trans h.output, Nat.le_trans h.size k.size, fun i hi _ => (k.block i (Nat.lt_of_lt_of_le hi h.size) (fun e => by injection e; omega)).trans (h.block i hi (by simp))⟩
theorem below_grown {a b : World} (h : Below a.heap.size a b) : a.grownBy b none := ⟨h.os, h.tape, h.output, h.size, fun k hk _ => h.block k hk⟩
/-- bytes as a text -/
theorem conv_row {P : Program} {w : World} {a : Option Addr} {len : Nat} {bs : List Int} (R : Row w a len bs) (cap : Nat) (src dst : TypeId) (hs : P.underlying src = some (.slice 5)) (he : P.underlying 5 = some (.int .u8)) (hd : P.underlying dst = some .string) :
  (convert src dst (.slice a len cap)).run P w = .ok (.string (strOfNums bs)) w := by
 by_cases h0 : 0 < len
 ·obtain ⟨b, off, rfl, hc⟩ := R.cells h0
  exact run_convert_bytes_arg w src 5 hs he b off len cap bs R.len_eq hc dst hd
 ·obtain rfl : len = 0 := by omega
  obtain rfl : bs = [] := List.eq_nil_of_length_eq_zero R.len_eq
  cases a with
  | none => exact run_convert_bytes_nil w src 5 hs he 0 cap dst hd
  | some x =>
   have hl : (loadCells x 0).run P w = .ok (([] : List Int).map (Value.int .u8)).toArray w := by
    have := run_loadCells_list (P := P) w x [] (fun j v hj => by simp at hj)
    simpa using this
   rw [run_convert_bytes_string w src dst 5 _ 0 cap hs he hd, run_bytesToString w x 0 cap [] hl, foldl_push_bytes]
   rfl
theorem str_toList (bs : List Int) : (strOfNums bs).toList = bs.map fun n => UInt8.ofNat n.toNat := by rw [ByteArray.toList_eq]; rfl
theorem str_eq (a b : List Int) (ha : Byt a) (hb : Byt b) : ((strOfNums a).toList == (strOfNums b).toList) = decide (a = b) := by
 rw [str_toList, str_toList]
 by_cases h : a = b
 ·subst h; simp
 ·have : (a.map fun n : Int => UInt8.ofNat n.toNat) ≠ b.map fun n : Int => UInt8.ofNat n.toNat := by
   intro e
   apply h
   have key : ∀ (l : List Int), Byt l → (l.map fun n : Int => UInt8.ofNat n.toNat).map (fun u : UInt8 => (u.toNat : Int)) = l := by
    intro l hl
    rw [List.map_map]
    have : ∀ x ∈ l, ((fun u : UInt8 => (u.toNat : Int)) ∘ fun n : Int => UInt8.ofNat n.toNat) x = x := by
     intro x hx
     have := hl x hx
     simp only [Function.comp, UInt8.toNat_ofNat']
     omega
    rw [List.map_congr_left this, List.map_id']
   rw [← key a ha, ← key b hb, e]
  simp [h, this]
/-- what is known of a slice of numbers that came in -/
def IsRow (k : IntKind) (w : World) (a : Option Addr) (len cap : Nat) (zs : List Int) : Prop :=
 (a = none ∧ len = 0 ∧ cap = 0 ∧ zs = []) ∨
 ∃ x, a = some x ∧ len ≤ cap ∧ cap ≤ maxLen ∧ zs.length = cap ∧ (∀ i, i < zs.length → w.cell? (x.add i) = some (.int k (zs.getD i 0))) ∧ ∀ n ∈ zs, (Lit.int k n).wf = true
theorem getD_take (l : List Int) (n i : Nat) (h : i < n) : (l.take n).getD i 0 = l.getD i 0 := by
 rw [List.getD_eq_getElem?_getD, List.getD_eq_getElem?_getD, List.getElem?_take, if_pos h]
theorem wf_u8 {n : Int} (h : (Lit.int .u8 n).wf = true) : 0 ≤ n ∧ n ≤ 255 := by
 have := bounds_u8 h; omega
theorem IsRow.row {w : World} {a : Option Addr} {len cap : Nat} {zs : List Int} (h : IsRow .u8 w a len cap zs) : Row w a len (zs.take len) := by
 rcases h with ⟨rfl, rfl, rfl, rfl⟩ | ⟨x, rfl, hl, hm, hz, hcell, hwz⟩
 ·exact ⟨rfl, Nat.zero_le _, fun n hn => by simp at hn, fun h => absurd h (by omega)⟩
 ·refine ⟨by simp; omega, by omega, fun n hn => wf_u8 (hwz n (List.mem_of_mem_take hn)), fun h0 => ?_⟩
  obtain ⟨b, off, spot⟩ := x
  have hc := hcell 0 (by omega)
  have hspot : spot = none := by simpa [Addr.add] using World.cell?_spot hc
  subst hspot
  refine ⟨b, off, rfl, fun i hi => ?_⟩
  have hadd : (⟨b, off, none⟩ : Addr).add i = ⟨b, off + i, none⟩ := by unfold Addr.add; split <;> simp_all
  rw [← hadd, hcell i (by omega), getD_take _ _ _ hi]
theorem pu : (∀ (l : List Value) (i : Nat) (v : Value), l.toArray.setIfInBounds i v = (l.set i v).toArray) ∧ (∀ (x : Value) (l : List Value) (v : Value), (x :: l).set 0 v = v :: l) ∧ (∀ (x : Value) (l : List Value) (n : Nat) (v : Value), (x :: l).set (n + 1) v = x :: l.set n v) :=
 ⟨fun _ _ _ => List.setIfInBounds_toArray .., fun _ _ _ => rfl, fun _ _ _ _ => rfl⟩
end Go.Proofs.YtlehncfehoelbaaGreatDoor
namespace Go.Proofs.YtlehncfehoelbaaGreatDoor
open Go.RowKit
set_option maxRecDepth 100000
set_option linter.unusedSimpArgs false
set_option linter.unusedVariables false
/-- an attribute with its place in memory -/
structure AtV where
 n : ByteArray
 a : Option Addr
 len : Nat
 cap : Nat
 v : List Int
def AtV.at (A : AtV) : Atr := ⟨A.n.toList, A.v⟩
structure AtAt (w : World) (b o : Nat) (A : AtV) : Prop where
 c0 : w.cell? ⟨b, o, none⟩ = some (.string A.n)
 c1 : w.cell? ⟨b, o + 1, none⟩ = some (.slice A.a A.len A.cap)
 row : Row w A.a A.len A.v
 cap : A.len ≤ A.cap
/-- attributes in memory -/
structure Ats (w : World) (a : Option Addr) (len : Nat) (l : List AtV) : Prop where
 len_eq : l.length = len
 le : len ≤ maxLen
 at_ : 0 < len → ∃ b off, a = some ⟨b, off, none⟩ ∧ ∀ i A, l[i]? = some A → AtAt w b (off + i * 2) A
/-- an entry with its places in memory -/
structure EnV where
 path : ByteArray
 k : Int
 mode : Int
 uid : Int
 gid : Int
 time : Int
 size : Int
 da : Option Addr
 dl : Nat
 dc : Nat
 data : List Int
 target : ByteArray
 dev : Int
 aa : Option Addr
 al : Nat
 ac : Nat
 attrs : List AtV
def EnV.en (X : EnV) : En := ⟨X.path.toList, X.k, X.mode, X.uid, X.gid, X.time, X.size, X.data, X.target.toList, X.dev, X.attrs.map AtV.at⟩
def EnV.val (X : EnV) : Value := .agg #[.string X.path, .int .i64 X.k, .int .i64 X.mode, .int .i64 X.uid, .int .i64 X.gid, .int .i64 X.time, .int .i64 X.size, .slice X.da X.dl X.dc, .string X.target, .int .i64 X.dev, .slice X.aa X.al X.ac]
structure EnV.ok (X : EnV) (w : World) : Prop where
 row : Row w X.da X.dl X.data
 dcap : X.dl ≤ X.dc
 ats : Ats w X.aa X.al X.attrs
 acap : X.al ≤ X.ac
structure EnAt (w : World) (b o : Nat) (X : EnV) : Prop where
 c0 : w.cell? ⟨b, o, none⟩ = some (.string X.path)
 c1 : w.cell? ⟨b, o + 1, none⟩ = some (.int .i64 X.k)
 c2 : w.cell? ⟨b, o + 2, none⟩ = some (.int .i64 X.mode)
 c3 : w.cell? ⟨b, o + 3, none⟩ = some (.int .i64 X.uid)
 c4 : w.cell? ⟨b, o + 4, none⟩ = some (.int .i64 X.gid)
 c5 : w.cell? ⟨b, o + 5, none⟩ = some (.int .i64 X.time)
 c6 : w.cell? ⟨b, o + 6, none⟩ = some (.int .i64 X.size)
 c7 : w.cell? ⟨b, o + 7, none⟩ = some (.slice X.da X.dl X.dc)
 c8 : w.cell? ⟨b, o + 8, none⟩ = some (.string X.target)
 c9 : w.cell? ⟨b, o + 9, none⟩ = some (.int .i64 X.dev)
 c10 : w.cell? ⟨b, o + 10, none⟩ = some (.slice X.aa X.al X.ac)
 ok : X.ok w
/-- entries in memory -/
structure Ens (w : World) (a : Option Addr) (len : Nat) (l : List EnV) : Prop where
 len_eq : l.length = len
 le : len ≤ maxLen
 at_ : 0 < len → ∃ b off, a = some ⟨b, off, none⟩ ∧ ∀ i X, l[i]? = some X → EnAt w b (off + i * 11) X
theorem cell_lt11 {w : World} {b o : Nat} {v : Value} (h : w.cell? ⟨b, o, none⟩ = some v) : b < w.heap.size := by
 rcases Nat.lt_or_ge b w.heap.size with k | k
 ·exact k
 ·simp [World.cell?, Array.getElem?_eq_none k] at h
theorem cell_grown {w w' : World} {b o : Nat} {v : Value} (h : w.cell? ⟨b, o, none⟩ = some v) (g : w.grownBy w' none) : w'.cell? ⟨b, o, none⟩ = some v := by
 rw [(grown_below0 g).cell (p := ⟨b, o, none⟩) (cell_lt11 h)]; exact h
theorem AtAt.grown {w w' : World} {b o : Nat} {A : AtV} (h : AtAt w b o A) (g : w.grownBy w' none) : AtAt w' b o A := ⟨cell_grown h.c0 g, cell_grown h.c1 g, h.row.grown g, h.cap⟩
theorem Ats.grown {w w' : World} {a : Option Addr} {len : Nat} {l : List AtV} (h : Ats w a len l) (g : w.grownBy w' none) : Ats w' a len l :=
 ⟨h.len_eq, h.le, fun h0 => by obtain ⟨b, off, e, k⟩ := h.at_ h0; exact ⟨b, off, e, fun i A hA => (k i A hA).grown g⟩⟩
theorem EnV.ok.grown {X : EnV} {w w' : World} (h : X.ok w) (g : w.grownBy w' none) : X.ok w' := ⟨h.row.grown g, h.dcap, h.ats.grown g, h.acap⟩
theorem EnAt.grown {w w' : World} {b o : Nat} {X : EnV} (h : EnAt w b o X) (g : w.grownBy w' none) : EnAt w' b o X :=
 ⟨cell_grown h.c0 g, cell_grown h.c1 g, cell_grown h.c2 g, cell_grown h.c3 g, cell_grown h.c4 g, cell_grown h.c5 g, cell_grown h.c6 g, cell_grown h.c7 g, cell_grown h.c8 g, cell_grown h.c9 g, cell_grown h.c10 g, h.ok.grown g⟩
theorem Ens.grown {w w' : World} {a : Option Addr} {len : Nat} {l : List EnV} (h : Ens w a len l) (g : w.grownBy w' none) : Ens w' a len l :=
 ⟨h.len_eq, h.le, fun h0 => by obtain ⟨b, off, e, k⟩ := h.at_ h0; exact ⟨b, off, e, fun i A hA => (k i A hA).grown g⟩⟩
theorem drewG11 {a b : World} (h : a.grownBy b none) (n : Nat) : a.grownBy (b.drewN n) none := by
 induction n with
 | zero => exact h
 | succ n ih => exact ⟨ih.os, ih.tape, ih.output, ih.size, ih.block⟩
/-- what Split gives is short -/
theorem spl_short {L : Tx} (h : (spl L).2 = 0) : (∀ p ∈ (spl L).1, p.length ≤ 255) ∧ (spl L).1.length ≤ 128 := by
 unfold spl at h ⊢
 split at h <;> rename_i h1
 ·simp at h
 ·rw [if_neg h1]
  split at h <;> rename_i h2
  ·simp at h
  ·rw [if_neg h2]
   split at h <;> rename_i h3
   ·simp at h
   ·rw [if_neg h3]
    split at h <;> rename_i h4
    ·simp at h
    ·rw [if_neg h4]
     refine ⟨fun p hp => ?_, by show ((cutS L).filter kept).length ≤ 128; omega⟩
     have h5 := (List.mem_filter.1 hp).1
     have h6 : (cutS L).any longP = false := by cases e : (cutS L).any longP <;> simp [e] at h3 ⊢
     rw [List.any_eq_false] at h6
     have := h6 p h5
     unfold longP at this
     simp at this
     exact this
theorem txs_size {l : List Tx} (h : ∀ p ∈ l, p.length ≤ 255) (i : Nat) : ((txs l).getD i ⟨#[]⟩).size ≤ 255 := by
 unfold txs
 rw [List.getD_eq_getElem?_getD, List.getElem?_map]
 cases e : l[i]? with
 | none => exact Nat.zero_le _
 | some p =>
  have := h p (List.mem_of_getElem? e)
  simp only [Option.map_some, Option.getD_some]
  rw [tx_size]
  exact this
/-- are the first parts all valid? -/
theorem any_snoc {l : List Tx} {i : Nat} (h : i < l.length) (f : Tx → Bool) : (l.take (i + 1)).any f = ((l.take i).any f || f ((txs l).getD i ⟨#[]⟩).toList) := by
 rw [List.take_succ_eq_append_getElem h, List.any_append]
 have e : (txs l).getD i ⟨#[]⟩ = tx l[i] := by unfold txs; rw [List.getD_eq_getElem?_getD, List.getElem?_map, List.getElem?_eq_getElem h]; rfl
 rw [e, tx_tl]
 simp
set_option maxHeartbeats 2000000 in
theorem rpath_any (X : EnV) (w : World) (hp : X.path.size ≤ 5000) : Calls Tryz.prog 59 #[X.val] w fun e w' => e = .returned (.int .i64 (pth X.en)) ∧ w.grownBy w' none := by
 obtain ⟨P, K, mode, uid, gid, time, size, da, dl, dc, data, target, dev, aa, al, ac, attrs⟩ := X
 simp only [EnV.val]
 simp only at hp
 cases h1 : (P.toList == []) with
 | true =>
  have e1 : P.toList = [] := eq_of_beq h1
  by_cases h2 : K = 2
  ·have HV : Hid (pth (EnV.en ⟨P, K, mode, uid, gid, time, size, da, dl, dc, data, target, dev, aa, al, ac, attrs⟩) = 0) := by
    show pth _ = 0
    unfold pth EnV.en
    simp only
    rw [if_pos e1, if_pos h2]
   clear e1
   have h2b : (K == 2) = true := by rw [beq_iff_eq]; exact h2
   clear h2
   go_enter Tryz.func59, Tryz.ntmps59
   go_wp2
   go_ret
   exact ⟨by rw [HV.out]; rfl, World.grownBy_alloc _ _ none⟩
  ·have HV : Hid (pth (EnV.en ⟨P, K, mode, uid, gid, time, size, da, dl, dc, data, target, dev, aa, al, ac, attrs⟩) = 6) := by
    show pth _ = 6
    unfold pth EnV.en
    simp only
    rw [if_pos e1, if_neg h2]
   clear e1
   have h2b : (K == 2) = false := by rw [beq_eq_false_iff_ne]; exact h2
   clear h2
   go_enter Tryz.func59, Tryz.ntmps59
   go_wp2
   go_ret
   exact ⟨by rw [HV.out]; rfl, World.grownBy_alloc _ _ none⟩
 | false =>
  have e1 : P.toList ≠ [] := by intro e; rw [e] at h1; simp at h1
  have HE : Hid (pth (EnV.en ⟨P, K, mode, uid, gid, time, size, da, dl, dc, data, target, dev, aa, al, ac, attrs⟩) = if (spl P.toList).2 ≠ 0 then 6 else if (spl P.toList).1.any (fun p => !vld p) then 6 else
    if (jnp (spl P.toList).1).2 ≠ 0 ∨ (jnp (spl P.toList).1).1 ≠ P.toList then 6 else if 64 < (spl P.toList).1.length then 3 else 0) := by
   show pth _ = _
   unfold pth EnV.en
   simp only
   rw [if_neg e1]
  have hsh := @spl_short P.toList
  have hsp := fun W => rsplit_any P W (by omega)
  generalize pth (EnV.en ⟨P, K, mode, uid, gid, time, size, da, dl, dc, data, target, dev, aa, al, ac, attrs⟩) = A at *
  clear e1
  generalize spl P.toList = r at *
  obtain ⟨T, E⟩ := r
  simp only at HE hsh
  by_cases h2 : E = 0
  ·subst h2
   rw [if_neg (by simp)] at HE
   obtain ⟨hs1, hs2⟩ := hsh rfl
   have HS : Hid _ := And.intro hs1 hs2
   clear hsh hs1 hs2
   go_enter Tryz.func59, Tryz.ntmps59
   go_wp2_with (go_at_call 77; refine (hsp _).mono ?_; rintro e w1 ⟨a, n, c, rfl, hown, HG⟩)
   have hx0 : w1.cell? ⟨w.heap.size, 0, none⟩ = some (.string P) := cell_grown (by simp) HG
   obtain ⟨a, c, e9, R, hcap, hcm⟩ := owns_srow hown
   injection e9 with e9a e9n e9c
   subst e9a e9c
   have hT : T.length = n := by have := R.len_eq; unfold txs at this; rw [List.length_map] at this; exact this
   have hn : n ≤ 128 := by have := HS.out.2; omega
   have HG2 : Hid _ := grown_trans (World.grownBy_alloc w _ none) HG
   clear HG hown
   have hjo := fun W (RW : SRow W a n (txs T)) => rjoin_any a n c (txs T) W RW (by omega) (fun i => Nat.le_trans (txs_size HS.out.1 i) (by decide))
   rw [tls_txs] at hjo
   have HT : Hid _ := hT
   clear hT
   go_loop [5] (fun i => ∃ k : Nat, k ≤ n ∧ i = .int .i64 k ∧ Hid ((T.take k).any (fun p => !vld p) = false)) (fun i => n - (intOf i).toNat)
   case atStart => exact ⟨0, Nat.zero_le _, rfl, rfl⟩
   case round =>
    obtain ⟨k, hk, rfl, HB⟩ := hrel
    by_cases hlt : k < n
    ·obtain ⟨b, off, rfl, hcell⟩ := R.cells (by omega)
     have hck := hcell k hlt
     have hsn := any_snoc (l := T) (i := k) (by rw [HT.out]; exact hlt) (fun p => !vld p)
     rw [HB.out, Bool.false_or] at hsn
     have hsz := txs_size HS.out.1 k
     generalize (txs T).getD k ⟨#[]⟩ = s0 at *
     have hv := fun W => rvalid_any s0 W (by omega)
     rw [val_vld] at hv
     have HN : Hid _ := hsn
     clear hsn hcell R hjo
     cases hvv : vld s0.toList with
     | true =>
      rw [hvv] at hv
      have HN2 : Hid ((T.take (k + 1)).any (fun p => !vld p) = false) := by
       show List.any _ _ = false
       rw [HN.out, hvv]; rfl
      go_wp2_with (go_at_call 87; refine (hv _).mono ?_; rintro e w' ⟨rfl, rfl⟩)
      go_round
      case rel => exact ⟨k + 1, by omega, by go_num, HN2⟩
      case measure => simp [intOf]; omega
     | false =>
      rw [hvv] at hv
      have HV : Hid (A = 6) := by
       show A = 6
       have e5 : T.any (fun p => !vld p) = true := by
        rw [← List.take_append_drop (k + 1) T, List.any_append, HN.out, hvv]; rfl
       rw [HE.out, if_pos e5]
      go_wp2_with (go_at_call 87; refine (hv _).mono ?_; rintro e w' ⟨rfl, rfl⟩)
      go_ret
      exact ⟨by rw [HV.out]; rfl, HG2.out⟩
    ·obtain rfl : k = n := by omega
     have e5 : T.any (fun p => !vld p) = false := by
      have := HB.out
      rw [List.take_of_length_le (by rw [HT.out]; exact Nat.le_refl _)] at this
      exact this
     have HE2 : Hid (A = if (jnp T).2 ≠ 0 ∨ (jnp T).1 ≠ P.toList then 6 else if 64 < T.length then 3 else 0) := by
      show A = _
      rw [HE.out, e5, if_neg (by decide)]
     clear e5 HE HB hsp
     rw [HT.out] at HE2
     generalize jnp T = j at *
     obtain ⟨J, F⟩ := j
     simp only at HE2 hjo
     have hj1 := hjo w1 R
     clear hjo R
     by_cases hF : F = 0
     ·subst hF
      cases hJ : ((tx J).toList == P.toList) with
      | true =>
       have hJe : J = P.toList := by have := eq_of_beq hJ; rw [tx_tl] at this; exact this
       by_cases h64 : 64 < k
       ·have HV : Hid (A = 3) := by
         show A = 3
         rw [HE2.out, if_neg (by simp [hJe]), if_pos h64]
        have h64i : (64 : Int) < (k : Int) := by omega
        clear HE2 hJe h64
        generalize tx J = j0 at *
        go_wp2_with (go_at_call 88; refine hj1.mono ?_; rintro e w' ⟨rfl, dn, rfl⟩)
        go_ret
        exact ⟨by rw [HV.out]; rfl, drewG11 HG2.out dn⟩
       ·have HV : Hid (A = 0) := by
         show A = 0
         rw [HE2.out, if_neg (by simp [hJe]), if_neg h64]
        have h64i : ¬ (64 : Int) < (k : Int) := by omega
        clear HE2 hJe h64
        generalize tx J = j0 at *
        go_wp2_with (go_at_call 88; refine hj1.mono ?_; rintro e w' ⟨rfl, dn, rfl⟩)
        go_ret
        exact ⟨by rw [HV.out]; rfl, drewG11 HG2.out dn⟩
      | false =>
       have hJe : J ≠ P.toList := by intro e; rw [tx_tl, e] at hJ; simp at hJ
       have HV : Hid (A = 6) := by
        show A = 6
        rw [HE2.out, if_pos (Or.inr hJe)]
       clear HE2 hJe
       generalize tx J = j0 at *
       go_wp2_with (go_at_call 88; refine hj1.mono ?_; rintro e w' ⟨rfl, dn, rfl⟩)
       go_ret
       exact ⟨by rw [HV.out]; rfl, drewG11 HG2.out dn⟩
     ·have HV : Hid (A = 6) := by
       show A = 6
       rw [HE2.out, if_pos (Or.inl hF)]
      have hFb : (F == 0) = false := by rw [beq_eq_false_iff_ne]; exact hF
      clear HE2
      generalize tx J = j0 at *
      go_wp2_with (go_at_call 88; refine hj1.mono ?_; rintro e w' ⟨rfl, dn, rfl⟩)
      go_ret
      exact ⟨by rw [HV.out]; rfl, drewG11 HG2.out dn⟩
  ·have HV : Hid (A = 6) := by
    show A = 6
    rw [HE.out, if_pos h2]
   have h2b : (E == 0) = false := by rw [beq_eq_false_iff_ne]; exact h2
   clear h2 HE hsh
   go_enter Tryz.func59, Tryz.ntmps59
   go_wp2_with (go_at_call 77; refine (hsp _).mono ?_; rintro e w1 ⟨a, n, c, rfl, hown, HG⟩)
   go_ret
   exact ⟨by rw [HV.out]; rfl, grown_trans (World.grownBy_alloc _ _ none) HG⟩
end Go.Proofs.YtlehncfehoelbaaGreatDoor
