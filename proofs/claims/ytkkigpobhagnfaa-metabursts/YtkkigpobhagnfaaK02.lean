/- The document's numbers as bytes. A record; is it right? The one that follows. The document's Decode as a plain function. A piece of bytes; four answers. A record's bytes. A chunk; may it be? How much does it count for, where does it end? Plain facts of dec: a lower bound. -/
import Derived.Test.YtkkigpobhagnfaaProg
import Derived.Handy
import Derived.Laws.OwnMore
import Derived.Deep.QuietTactic
import Derived.BigQuiet
import Derived.Test.YtkkigpobhagnfaaK01
namespace Go.Proofs.Ytkkigpobhagnfaa
open Go.RowKit
set_option maxRecDepth 100000
set_option linter.unusedSimpArgs false
set_option linter.unusedVariables false
theorem div_step (n : Int) (j : Nat) : n / 256 ^ j / 256 = n / 256 ^ (j + 1) := by
 rw [Int.ediv_ediv_of_nonneg (Int.pow_nonneg (by decide)), Int.pow_succ]
theorem div_bd (n : Int) (j : Nat) (h0 : 0 ≤ n) (h1 : n < 18446744073709551616) : 0 ≤ n / 256 ^ j ∧ n / 256 ^ j < 18446744073709551616 := by
 have hp : (0 : Int) ≤ 256 ^ j := Int.pow_nonneg (by decide)
 exact ⟨Int.ediv_nonneg h0 hp, Int.lt_of_le_of_lt (Int.ediv_le_self _ h0) h1⟩
set_option maxHeartbeats 400000 in
theorem load_in (b off len cap : Nat) (bs : List Int) (k n : Nat) (w : World) (hl : len ≤ maxLen) (hlen : bs.length = len) (hb : Byt bs) (hn8 : n ≤ 8) (hin : k + n ≤ len)
  (hc : ∀ i, i < len → w.cell? ⟨b, off + i, none⟩ = some (.int .u8 (bs.getD i 0))) :
  Calls Try.prog 28 #[.slice (some ⟨b, off, none⟩) len cap, .int .i64 k, .int .i64 n] w fun e w' => e = .returned (.int .u64 (le ((bs.drop k).take n))) ∧ w = w' := by
 unfold maxLen at hl
 go_enter Try.func28, Try.ntmps28
 go_wp2
 go_loop [7, 8] (fun v i => ∃ j : Nat, j ≤ n ∧ i = .int .i64 ((j : Int) - 1) ∧ v = .int .u64 (le ((bs.drop (k + j)).take (n - j)))) (fun _ i => (intOf i + 1).toNat)
 case atStart => exact ⟨n, Nat.le_refl _, rfl, by simp [le]⟩
 case round =>
  obtain ⟨j, hj, rfl, rfl⟩ := hrel
  by_cases hlt : 0 < j
  ·obtain ⟨i, rfl⟩ : ∃ i, j = i + 1 := ⟨j - 1, by omega⟩
   have hcell := hc (k + i) (by omega)
   have hr := hb.getD (k + i)
   go_wp2
   go_round
   case rel => exact ⟨i, by omega, rfl, by rw [load_step hb k n i hn8 (by omega) (by omega)]⟩
   case measure => simp [intOf]
  ·go_wp2
   go_ret
   have : j = 0 := by omega
   subst this
   exact ⟨rfl, rfl⟩

theorem load_row (a : Option Addr) (len cap : Nat) (bs : List Int) (k n : Nat) (w : World) (R : Row w a len bs) (h0 : 0 < n) (hn8 : n ≤ 8) (hin : k + n ≤ len) :
  Calls Try.prog 28 #[.slice a len cap, .int .i64 k, .int .i64 n] w fun e w' => e = .returned (.int .u64 (le ((bs.drop k).take n))) ∧ w = w' := by
 obtain ⟨b, off, rfl, hc⟩ := R.cells (by omega)
 exact load_in b off len cap bs k n w R.le R.len_eq R.byt hn8 hin hc
structure Rc where
 q : Int
 s : Int
 l : Int
 u : Int
def Rc.cells (r : Rc) : List Value := [.int .u64 r.q, .int .i64 r.s, .int .i64 r.l, .int .u64 r.u]
def Rc.val (r : Rc) : Value := .agg #[.int .u64 r.q, .int .i64 r.s, .int .i64 r.l, .int .u64 r.u]
def in64 (x : Int) : Prop := -9223372036854775808 ≤ x ∧ x ≤ 9223372036854775807
def inU (x : Int) : Prop := 0 ≤ x ∧ x < 18446744073709551616
def Rc.ok (r : Rc) : Prop := inU r.q ∧ in64 r.s ∧ in64 r.l ∧ inU r.u
def rc0 : Rc := ⟨0, 0, 0, 0⟩
/-- is a record right? -/
def rrt (r : Rc) : Bool := decide (r.q ≤ 4611686018427387904) && decide (0 ≤ r.s) && decide (r.s ≤ 1) && decide (1 ≤ r.l) && decide (r.l ≤ 8388608)
theorem rrt_iff {r : Rc} : rrt r = true ↔ r.q ≤ 4611686018427387904 ∧ (r.s = 0 ∨ r.s = 1) ∧ 1 ≤ r.l ∧ r.l ≤ 8388608 := by
 unfold rrt
 simp only [Bool.and_eq_true, decide_eq_true_eq]
 omega
/-- Next, as a plain function -/
def rnx (r : Rc) (slot n sum : Int) : Rc × Int :=
 if 4611686018427387904 < r.q then (rc0, 1) else if rrt ⟨0, slot, n, sum⟩ = false then (rc0, 1) else if r.q = 4611686018427387904 then (rc0, 2) else (⟨r.q + 1, slot, n, sum⟩, 0)
/-- a variable of several cells -/
structure Bx (W : World) (g : Nat) (T : TypeId) (cs : List Value) : Prop where
 blk : W.heap[g]? = some (.cells cs.toArray T (0, 0))
theorem Bx.lt {W : World} {g : Nat} {T : TypeId} {cs : List Value} (h : Bx W g T cs) : g < W.heap.size := (Array.getElem?_eq_some_iff.1 h.blk).1
theorem Bx.c {W : World} {g : Nat} {T : TypeId} {cs : List Value} (h : Bx W g T cs) (i : Nat) : W.cell? ⟨g, i, none⟩ = cs[i]? := by simp [World.cell?, h.blk]
theorem Bx.f {W : World} {g : Nat} {T : TypeId} {cs : List Value} (h : Bx W g T cs) (i : Nat) : W.frozen? ⟨g, i, none⟩ = false := by simp [World.frozen?, h.blk]
theorem Bx.kept {W W' : World} {g : Nat} {T : TypeId} {cs : List Value} (h : Bx W g T cs) (hg : W.grownBy W' none) : Bx W' g T cs := ⟨by rw [hg.block g h.lt (by simp)]; exact h.blk⟩
theorem Bx.new (w : World) (T : TypeId) (cs : List Value) : Bx (w.alloc (.cells cs.toArray T)) w.heap.size T cs := ⟨heap_alloc_new _ _⟩
theorem Bx.set {W : World} {g : Nat} {T : TypeId} {cs : List Value} (h : Bx W g T cs) (i : Nat) (v : Value) : Bx (W.setCell ⟨g, i, none⟩ v) g T (cs.set i v) := by
 constructor
 rw [setCell_eq_setRow W g i _ _ _ _ h.blk, setRow_heap W g _ _ _ _ h.blk]
 simp
/-- a record stored whole -/
def set4 (W : World) (g : Nat) (a b c d : Value) : World := (((W.setCell ⟨g, 0, none⟩ a).setCell ⟨g, 1, none⟩ b).setCell ⟨g, 2, none⟩ c).setCell ⟨g, 3, none⟩ d
theorem Bx.set4 {W : World} {g : Nat} {T : TypeId} {x y z t : Value} (h : Bx W g T [x, y, z, t]) (a b c d : Value) : Bx (set4 W g a b c d) g T [a, b, c, d] := (((h.set 0 a).set 1 b).set 2 c).set 3 d
theorem grown_set4 (W : World) (g : Nat) (a b c d : Value) : W.grownBy (set4 W g a b c d) (some g) := grown_trans (grown_trans (grown_trans (grown_set _ _ _ _) (grown_set _ _ _ _)) (grown_set _ _ _ _)) (grown_set _ _ _ _)
theorem bx4 {W : World} {g : Nat} {T : TypeId} {a b c d : Value} (h : Bx W g T [a, b, c, d]) : W.cell? ⟨g, 0, none⟩ = some a ∧ W.cell? ⟨g, 1, none⟩ = some b ∧ W.cell? ⟨g, 2, none⟩ = some c ∧ W.cell? ⟨g, 3, none⟩ = some d := ⟨h.c 0, h.c 1, h.c 2, h.c 3⟩
/-- what one round finds: a fault; the last sequence; another one -/
abbrev DR := (Int × Int) ⊕ (Nat × Nat) ⊕ (Nat × Nat × Nat × Nat × Nat)
abbrev DR.bad (e p : Int) : DR := .inl (e, p)
abbrev DR.last (k n : Nat) : DR := .inr (.inl (k, n))
abbrev DR.more (k n off m p : Nat) : DR := .inr (.inr (k, n, off, m, p))
theorem DR.any (d : DR) : (∃ e q, d = .bad e q) ∨ (∃ k n, d = .last k n) ∨ (∃ k n o m q, d = .more k n o m q) := by
 rcases d with ⟨e, q⟩ | ⟨k, n⟩ | ⟨k, n, o, m, q⟩
 ·exact Or.inl ⟨e, q, rfl⟩
 ·exact Or.inr (Or.inl ⟨k, n, rfl⟩)
 ·exact Or.inr (Or.inr ⟨k, n, o, m, q, rfl⟩)
def dst.dst2 (bs : List Int) (most : Int) (ol p k n : Nat) : DR :=
 if k + n = bs.length then .last k n
 else if k + n + 1 = bs.length then .bad 6 bs.length
 else if bs.getD (k + n) 0 + 256 * bs.getD (k + n + 1) 0 = 0 ∨ ((ol + n : Nat) : Int) < bs.getD (k + n) 0 + 256 * bs.getD (k + n + 1) 0 then .bad 9 ((k + n : Nat) : Int)
 else if (lng bs (bs.getD p 0 % 16) (k + n + 2)).1 < 0 then .bad 6 bs.length
 else if most - ((ol + n : Nat) : Int) < (lng bs (bs.getD p 0 % 16) (k + n + 2)).1 + 4 then .bad 2 p
 else .more k n (bs.getD (k + n) 0 + 256 * bs.getD (k + n + 1) 0).toNat ((lng bs (bs.getD p 0 % 16) (k + n + 2)).1 + 4).toNat (lng bs (bs.getD p 0 % 16) (k + n + 2)).2.toNat
def dst (bs : List Int) (most : Int) (ol : Nat) (p : Nat) : DR :=
 if bs.length ≤ p then .bad 6 bs.length
 else if (lng bs (bs.getD p 0 / 16) (p + 1)).1 < 0 then .bad 6 bs.length
 else if most - ol < (lng bs (bs.getD p 0 / 16) (p + 1)).1 then .bad 2 p
 else if (bs.length : Int) - (lng bs (bs.getD p 0 / 16) (p + 1)).2 < (lng bs (bs.getD p 0 / 16) (p + 1)).1 then .bad 6 bs.length
 else dst.dst2 bs most ol p (lng bs (bs.getD p 0 / 16) (p + 1)).2.toNat (lng bs (bs.getD p 0 / 16) (p + 1)).1.toNat

/-- a copy out of what is unpacked -/
def cpy (off : Nat) : Nat → List Int → List Int
 | 0, out => out
 | n + 1, out => cpy off n (out ++ [out.getD (out.length - off) 0])
theorem cpy_len (off n : Nat) (out : List Int) : (cpy off n out).length = out.length + n := by
 induction n generalizing out with
 | zero => rfl
 | succ n ih => rw [cpy, ih]; simp; omega
theorem cpy_byt (off n : Nat) (out : List Int) (h : Byt out) : Byt (cpy off n out) := by
 induction n generalizing out with
 | zero => exact h
 | succ n ih => rw [cpy]; exact ih _ (h.append (fun x hx => by simp at hx; subst hx; rw [← List.getD_eq_getElem?_getD]; exact h.getD _))

/-- sequences: literals, offset, length -/
abbrev Sq := List Int × Int × Int
def dec (bs : List Int) (most : Int) : Nat → List Int → List Sq → Nat → List Int × List Sq × Int × Int
 | 0, _, _, _ => ([], [], 6, bs.length)
 | f + 1, out, sq, p =>
  match dst bs most out.length p with
  | .inl (e, q) => ([], [], e, q)
  | .inr (.inl (k, n)) => (out ++ (bs.drop k).take n, sq ++ [((bs.drop k).take n, 0, 0)], 0, bs.length)
  | .inr (.inr (k, n, off, m, q)) => dec bs most f (cpy off m (out ++ (bs.drop k).take n)) (sq ++ [((bs.drop k).take n, (off : Int), (m : Int))]) q

/-- a length: bounds -/
theorem lnk_in {r : List Int} {n p : Int} (hb : Byt r) (h0 : 0 ≤ n) : (lnk r n p).1 = -1 ∨ (n ≤ (lnk r n p).1 ∧ (lnk r n p).1 ≤ n + 255 * r.length ∧ p + 1 ≤ (lnk r n p).2 ∧ (lnk r n p).2 ≤ p + r.length) := by
 induction r generalizing n p with
 | nil => left; rfl
 | cons b r ih =>
  have hb0 := hb b (List.mem_cons_self ..)
  unfold lnk
  by_cases h : b = 255
  ·rw [if_pos h]
   rcases ih (n := n + 255) (p := p + 1) (fun x hx => hb x (List.mem_cons_of_mem _ hx)) (by omega) with h | h
   ·exact Or.inl h
   ·right; simp only [List.length_cons]; omega
  ·rw [if_neg h]
   right
   simp only [List.length_cons]; omega
theorem lng_in {bs : List Int} {n : Int} {p : Nat} (hb : Byt bs) (h0 : 0 ≤ n ∧ n ≤ 15) (hp : p ≤ bs.length) : (lng bs n p).1 = -1 ∨ (0 ≤ (lng bs n p).1 ∧ (lng bs n p).1 ≤ 15 + 255 * bs.length ∧ p ≤ (lng bs n p).2 ∧ (lng bs n p).2 ≤ bs.length) := by
 unfold lng
 split
 ·right; simp only; omega
 ·rcases lnk_in (r := bs.drop p) (n := n) (p := p) (hb.drop p) h0.1 with h | h
  ·exact Or.inl h
  ·right
   rw [List.length_drop] at h
   omega

/-- sequences in memory: three cells each -/
structure SqV where
 a : Option Addr
 n : Nat
 c : Nat
 off : Int
 m : Int
def SqV.cells (s : SqV) : List Value := [.slice s.a s.n s.c, .int .i64 s.off, .int .i64 s.m]
def sqv (ss : List SqV) : List Value := ss.flatMap SqV.cells
theorem sqv_len (ss : List SqV) : (sqv ss).length = ss.length * 3 := by
 induction ss with
 | nil => rfl
 | cons s r ih => simp [sqv, SqV.cells] at ih ⊢; omega
theorem sqv_append (a b : List SqV) : sqv (a ++ b) = sqv a ++ sqv b := by simp [sqv]
structure SqOk (w : World) (s : SqV) (q : Sq) : Prop where
 row : Row w s.a s.n q.1
 off : s.off = q.2.1
 m : s.m = q.2.2
 nil : s.a = none → s.c = 0
 nc : s.n ≤ s.c
 cm : s.c ≤ maxLen
def Sqs (w : World) (ss : List SqV) (qs : List Sq) : Prop := ss.length = qs.length ∧ ∀ (i : Nat) (s : SqV) (q : Sq), ss[i]? = some s → qs[i]? = some q → SqOk w s q
theorem Sqs.nil {w : World} : Sqs w [] [] := ⟨rfl, fun i s q h => by simp at h⟩
theorem get_snoc {α : Type} {l : List α} {a x : α} {i : Nat} (h : (l ++ [a])[i]? = some x) : l[i]? = some x ∨ (i = l.length ∧ x = a) := by
 rw [List.getElem?_append] at h
 split at h
 ·exact Or.inl h
 ·rename_i k
  have hi : i - l.length = 0 := by
   rcases Nat.eq_zero_or_pos (i - l.length) with h0 | h0
   ·exact h0
   ·rw [List.getElem?_eq_none (by simp; omega)] at h; cases h
  rw [hi] at h
  simp at h
  exact Or.inr ⟨by omega, h.symm⟩
theorem Sqs.snoc {w : World} {ss : List SqV} {qs : List Sq} {s : SqV} {q : Sq} (h : Sqs w ss qs) (k : SqOk w s q) : Sqs w (ss ++ [s]) (qs ++ [q]) := by
 refine ⟨by simp [h.1], fun i s' q' h1 h2 => ?_⟩
 rcases get_snoc h1 with h1 | ⟨e1, rfl⟩
 ·rcases get_snoc h2 with h2 | ⟨e2, rfl⟩
  ·exact h.2 i s' q' h1 h2
  ·have := (List.getElem?_eq_some_iff.1 h1).1
   have := h.1
   omega
 ·rcases get_snoc h2 with h2 | ⟨e2, rfl⟩
  ·have := (List.getElem?_eq_some_iff.1 h2).1
   have := h.1
   omega
  ·exact k
theorem Sqs.grown {w w' : World} {ss : List SqV} {qs : List Sq} (h : Sqs w ss qs) (hg : w.grownBy w' none) : Sqs w' ss qs :=
 ⟨h.1, fun i s q h1 h2 => by have k := h.2 i s q h1 h2; exact ⟨k.row.grown hg, k.off, k.m, k.nil, k.nc, k.cm⟩⟩
theorem Sqs.len {w : World} {ss : List SqV} {qs : List Sq} (h : Sqs w ss qs) : ss.length = qs.length := h.1
theorem results_tmp4 {fn : Func} {t u v x : Tmp} (h : fn.results = #[.tmp t, .tmp u, .tmp v, .tmp x]) (tmps : Array Value) (P : Program) (w : World) :
  (results fn tmps).run P w = .ok (.tuple #[tmps.getD t undef, tmps.getD u undef, tmps.getD v undef, tmps.getD x undef]) w := by
 simp [results, h]
/-- a guard: the next operation is a piece from one place to another -/
theorem slice_here {P : Program} {w : World} {ops : Array Oper} {rest : List Oper} {a : Act} {Q : Exit → Act → World → Prop} {dst : Option Nat} {t : TypeId} {x l h : Operand} {type : TypeId} {pos : String} {after : Array Edge} {guard : Option (Nat × Bool)}
  (k : wpList P ops Q (⟨dst, .slice t x (some l) (some h) none, type, pos, after, guard⟩ :: rest) a w) : wpList P ops Q (⟨dst, .slice t x (some l) (some h) none, type, pos, after, guard⟩ :: rest) a w := k
theorem wpList_cut8 {P : Program} {w : World} {ops : Array Oper} {rest : List Oper} {o : Oper} {a : Act} {Q : Exit → Act → World → Prop} (hg : o.guard = none) (x l h : Operand) (t : TypeId)
  (ho : o.op = .slice t x (some l) (some h) none) (ht : P.underlying t = some (.slice 5)) (i : TypeInfo) (hi : P.info? 5 = some i) (hsz : i.size = 1)
  (b off len cap k n : Nat) (K L : Int) (hx : a.eval x = .slice (some ⟨b, off, none⟩) len cap) (hl : a.eval l = .int .i64 K) (hh : a.eval h = .int .i64 L) (hK : K = (k : Int)) (hL : L = ((k + n : Nat) : Int)) (h1 : k + n ≤ cap)
  (hk : ∀ o', (0 < n → o' = off + k) → wpList P ops Q rest (a.put o.dst (.slice (some ⟨b, o', none⟩) n (cap - k))) w) : wpList P ops Q (o :: rest) a w := by
 refine wpList_plain hg fun K' hK' => ?_
 have he : P.elem t = 5 := by simp [Program.elem, ht]
 have ht' : P.underlying t = some (.slice (P.elem t)) := by rw [he]; exact ht
 have hs : (sizeOf 5).run P w = .ok 1 w := by rw [run_sizeOf w hi]; simp [Program.cellsOf, hi, hsz]
 subst hK hL
 have hr := run_slice_lh (P := P) (w := w) (a := some ⟨b, off, none⟩) (len := len) (cap := cap) (t := t) ht' .i64 .i64 (k : Int) ((k + n : Nat) : Int) (by omega) (by omega) (by omega)
 rw [he, hs] at hr
 simp only [Result.andThen, Int.toNat_natCast] at hr
 have hv : sliced (some ⟨b, off, none⟩) k (k + n) cap 1 = .slice (some ⟨b, if cap = k then off else off + k, none⟩) n (cap - k) := by
  unfold sliced
  by_cases c : cap = k
  ·rw [if_pos c, if_pos c]; congr 1; omega
  ·rw [if_neg c, if_neg c]
   have hadd : (⟨b, off, none⟩ : Addr).add (k * 1) = ⟨b, off + k, none⟩ := by unfold Addr.add; split <;> simp_all
   simp only [Option.map_some, hadd]; congr 1; omega
 rw [hv, Int.natCast_add] at hr
 unfold Oper.wp
 simp [execOp, ho, hx, hl, hh, hr, Result.andThen, run_sliceAt_slice (P := P) (w := w) t _ _ _ _ ht']
 refine hK' _ _ (hk _ ?_)
 intro h0
 rw [if_neg (by omega)]
theorem Row.part {w : World} {b off len : Nat} {bs : List Int} (h : Row w (some ⟨b, off, none⟩) len bs) (at_ n : Nat) (hn : at_ + n ≤ len) : Row w (some ⟨b, off + at_, none⟩) n ((bs.drop at_).take n) := by
 refine ⟨by simp [h.len_eq]; omega, by have := h.le; omega, (h.byt.drop at_).take n, fun h0 => ⟨b, off + at_, rfl, fun i hi => ?_⟩⟩
 obtain ⟨b', off', e, hc⟩ := h.cells (by omega)
 injection e with e
 injection e with e1 e2
 subst e1 e2
 rw [Nat.add_assoc, hc (at_ + i) (by omega)]
 congr 2
 rw [List.getD_eq_getElem?_getD, List.getD_eq_getElem?_getD, List.getElem?_take, if_pos hi, List.getElem?_drop]
theorem Row.none0 {w : World} (a : Option Addr) : Row w a 0 [] := ⟨rfl, Nat.zero_le _, fun n hn => by simp at hn, fun h => by omega⟩
theorem Row.piece {w : World} {b off len : Nat} {bs : List Int} (h : Row w (some ⟨b, off, none⟩) len bs) (k n o' : Nat) (hn : k + n ≤ len) (ho : 0 < n → o' = off + k) : Row w (some ⟨b, o', none⟩) n ((bs.drop k).take n) := by
 rcases Nat.eq_zero_or_pos n with h0 | h0
 ·subst h0; rw [List.take_zero]; exact Row.none0 _
 ·rw [ho h0]; exact h.part k n hn

/-- a variable of several cells -/
structure Box (W : World) (g : Nat) (T : TypeId) (cs : List Value) : Prop where
 blk : W.heap[g]? = some (.cells cs.toArray T (0, 0))
theorem Box.lt {W : World} {g : Nat} {T : TypeId} {cs : List Value} (h : Box W g T cs) : g < W.heap.size := (Array.getElem?_eq_some_iff.1 h.blk).1
theorem Box.c {W : World} {g : Nat} {T : TypeId} {cs : List Value} (h : Box W g T cs) (i : Nat) : W.cell? ⟨g, i, none⟩ = cs[i]? := by simp [World.cell?, h.blk]
theorem Box.f {W : World} {g : Nat} {T : TypeId} {cs : List Value} (h : Box W g T cs) (i : Nat) : W.frozen? ⟨g, i, none⟩ = false := by simp [World.frozen?, h.blk]
theorem Box.set {W : World} {g : Nat} {T : TypeId} {cs : List Value} (h : Box W g T cs) (i : Nat) (v : Value) : Box (W.setCell ⟨g, i, none⟩ v) g T (cs.set i v) := by
 constructor
 rw [setCell_eq_setRow W g i _ _ _ _ h.blk, setRow_heap W g _ _ _ _ h.blk]
 simp
theorem Box.kept {W W' : World} {g : Nat} {T : TypeId} {cs : List Value} {row : Option Nat} (h : Box W g T cs) (hg : W.grownBy W' row) (hr : some g ≠ row) : Box W' g T cs := ⟨by rw [hg.block g h.lt hr]; exact h.blk⟩
theorem Box.new (w : World) (T : TypeId) (cs : List Value) : Box (w.alloc (.cells cs.toArray T)) w.heap.size T cs := ⟨heap_alloc_new _ _⟩
/-- rows of different types are different blocks -/
theorem own_apart {W W' : World} {base base' e e' s s' n n' : Nat} {v v' : Value} {xs xs' : List Value} (h : W.ownsRow base e s v n xs) (h' : W.ownsRow base' e' s' v' n' xs') (hne : e ≠ e') (hg : W.grownBy W' v'.ownBlock) : W'.ownsRow base e s v n xs := by
 refine h.kept hg ?_
 rcases h.2 with ⟨rfl, _⟩ | ⟨g, cap, cur, rfl, hb, hgg, _⟩
 ·left; rfl
 ·right
  intro k
  rcases h'.2 with ⟨rfl, _⟩ | ⟨g', cap', cur', rfl, hb', hgg', _⟩
  ·simp [Value.ownBlock] at k
  ·simp [Value.ownBlock] at k
   subst k
   rw [hgg] at hgg'
   injection hgg' with e1
   injection e1 with e1 e2 e3
   exact hne e2
theorem own_box {W : World} {base e e' s n g : Nat} {v : Value} {xs cs : List Value} (h : W.ownsRow base e s v n xs) (h' : Box W g e' cs) (hne : e ≠ e') : some g ≠ v.ownBlock := by
 intro k
 rcases h.2 with ⟨rfl, _⟩ | ⟨g', cap, cur, rfl, hb, hgg, _⟩
 ·simp [Value.ownBlock] at k
 ·simp [Value.ownBlock] at k
  subst k
  rw [h'.blk] at hgg
  injection hgg with e1
  injection e1 with e1 e2 e3
  exact hne e2.symm

structure St (w wr : World) (vo vl : Value) (out : List Int) (ss : List SqV) (sq : List Sq) : Prop where
 oo : wr.ownsRow w.heap.size 5 1 vo out.length (bv out)
 ol : wr.ownsRow w.heap.size 116 3 vl ss.length (sqv ss)
 g : w.grownBy wr none
 b : Byt out
 s : Sqs w ss sq
theorem St.alloc {w wr : World} {vo vl : Value} {out : List Int} {ss : List SqV} {sq : List Sq} (h : St w wr vo vl out ss sq) (o : Obj) : St w (wr.alloc o) vo vl out ss sq :=
 ⟨h.oo.alloc o, h.ol.alloc o, grown_trans h.g (World.grownBy_alloc _ _ _), h.b, h.s⟩
/-- what is unpacked has grown -/
theorem St.out {w wr w1 : World} {vo vl v1 : Value} {out x : List Int} {ss : List SqV} {sq : List Sq} {n : Nat} (h : St w wr vo vl out ss sq) (ho : w1.ownsRow w.heap.size 5 1 v1 (out.length + n) (bv out ++ bv x)) (hx : Byt x) (hn : x.length = n) (hg : wr.grownBy w1 vo.ownBlock) : St w w1 v1 vl (out ++ x) ss sq :=
 ⟨by rw [bv_append, List.length_append, hn]; exact ho, own_apart h.ol h.oo (by decide) hg, grown_own h.g h.oo hg (Nat.le_refl _), h.b.append hx, h.s⟩
/-- a sequence more -/
theorem St.seq {w wr w1 : World} {vo vl v1 : Value} {out : List Int} {ss : List SqV} {sq : List Sq} {s : SqV} {q : Sq} (h : St w wr vo vl out ss sq) (ho : w1.ownsRow w.heap.size 116 3 v1 (ss.length + 1) (sqv ss ++ s.cells)) (hs : SqOk w s q) (hg : wr.grownBy w1 vl.ownBlock) : St w w1 vo v1 out (ss ++ [s]) (sq ++ [q]) :=
 ⟨own_apart h.oo h.ol (by decide) hg, by rw [sqv_append, List.length_append]; simpa [sqv] using ho, grown_own h.g h.ol hg (Nat.le_refl _), h.b, .snoc h.s hs⟩
/-- within a round: the sequence at hand lies in a block of its own -/
structure Mi (w W : World) (vo vl : Value) (out : List Int) (ss : List SqV) (sq : List Sq) (g0 : Nat) (cs : List Value) : Prop where
 st : St w W vo vl out ss sq
 bx : Box W g0 116 cs
 nl : some g0 ≠ vl.ownBlock
 new : w.heap.size ≤ g0
theorem St.mi {w wr : World} {vo vl : Value} {out : List Int} {ss : List SqV} {sq : List Sq} (h : St w wr vo vl out ss sq) (cs : List Value) : Mi w (wr.alloc (.cells cs.toArray 116)) vo vl out ss sq wr.heap.size cs :=
 ⟨h.alloc _, Box.new _ _ _, fun e => by have := (h.ol.lt _ e.symm).2; omega, h.g.size⟩
theorem Mi.alloc {w W : World} {vo vl : Value} {out : List Int} {ss : List SqV} {sq : List Sq} {g0 : Nat} {cs : List Value} (h : Mi w W vo vl out ss sq g0 cs) (o : Obj) : Mi w (W.alloc o) vo vl out ss sq g0 cs :=
 ⟨h.st.alloc o, h.bx.kept (World.grownBy_alloc _ _ none) (by simp), h.nl, h.new⟩
theorem Mi.set {w W : World} {vo vl : Value} {out : List Int} {ss : List SqV} {sq : List Sq} {g0 : Nat} {cs : List Value} (h : Mi w W vo vl out ss sq g0 cs) (i : Nat) (v : Value) : Mi w (W.setCell ⟨g0, i, none⟩ v) vo vl out ss sq g0 (cs.set i v) :=
 ⟨⟨h.st.oo.kept (grown_set _ _ _ _) (Or.inr (own_box h.st.oo h.bx (by decide)).symm), h.st.ol.kept (grown_set _ _ _ _) (Or.inr h.nl.symm), grown_new h.st.g (grown_set _ _ _ _) h.new, h.st.b, h.st.s⟩, h.bx.set i v, h.nl, h.new⟩
theorem Mi.out {w wr w1 : World} {vo vl v1 : Value} {out x : List Int} {ss : List SqV} {sq : List Sq} {n g0 : Nat} {cs : List Value} (h : Mi w wr vo vl out ss sq g0 cs) (ho : w1.ownsRow w.heap.size 5 1 v1 (out.length + n) (bv out ++ bv x)) (hx : Byt x) (hn : x.length = n) (hg : wr.grownBy w1 vo.ownBlock) : Mi w w1 v1 vl (out ++ x) ss sq g0 cs :=
 ⟨h.st.out ho hx hn hg, h.bx.kept hg (own_box h.st.oo h.bx (by decide)), h.nl, h.new⟩
theorem grown_drew (w : World) : w.grownBy w.drew none := ⟨rfl, rfl, rfl, Nat.le_refl _, fun _ _ _ => rfl⟩
theorem Mi.drew {w W : World} {vo vl : Value} {out : List Int} {ss : List SqV} {sq : List Sq} {g0 : Nat} {cs : List Value} (h : Mi w W vo vl out ss sq g0 cs) : Mi w W.drew vo vl out ss sq g0 cs :=
 ⟨⟨h.st.oo.kept (grown_drew _) (by cases vo.ownBlock <;> simp), h.st.ol.kept (grown_drew _) (by cases vl.ownBlock <;> simp), grown_trans h.st.g (grown_drew _), h.st.b, h.st.s⟩, h.bx.kept (grown_drew _) (by simp), h.nl, h.new⟩
theorem cpy_snoc (off n : Nat) (out : List Int) : cpy off (n + 1) out = cpy off n out ++ [(cpy off n out).getD ((cpy off n out).length - off) 0] := by
 induction n generalizing out with
 | zero => rfl
 | succ n ih => rw [cpy, ih, cpy]
/-- what a call made: its bytes -/
theorem own_bytes {W : World} {base n : Nat} {v : Value} {bs : List Int} (h : W.ownsRow base 5 1 v n (bv bs)) (hb : Byt bs) (hl : n ≤ maxLen) : ∃ a c, v = .slice a n c ∧ Row W a n bs ∧ (a = none → c = 0) ∧ n ≤ c ∧ c ≤ maxLen := by
 have hn : bs.length = n := by have := h.1; rw [bv_length] at this; omega
 rcases h.2 with ⟨rfl, rfl⟩ | ⟨g, cap, cur, rfl, _, hg, hc, hm, hs, ht⟩
 ·exact ⟨none, 0, rfl, ⟨hn, Nat.zero_le _, hb, fun h => by omega⟩, fun _ => rfl, Nat.le_refl _, Nat.zero_le _⟩
 ·refine ⟨_, cap, rfl, ⟨hn, hl, hb, fun _ => ⟨g, 0, rfl, fun i hi => ?_⟩⟩, (fun e => by cases e), hc, hm⟩
  have e : W.cell? ⟨g, 0 + i, none⟩ = cur[i]? := by simp [World.cell?, hg]
  rw [e, ← bv_getElem? bs i (by omega), ← ht, List.getElem?_take, if_pos (by omega), Array.getElem?_toList]
theorem own_bx {W : World} {base e e' s n g : Nat} {v : Value} {xs cs : List Value} (h : W.ownsRow base e s v n xs) (h' : Bx W g e' cs) (hne : e ≠ e') : some g ≠ v.ownBlock := by
 intro k
 rcases h.2 with ⟨rfl, _⟩ | ⟨g', cap, cur, rfl, hb, hgg, _⟩
 ·simp [Value.ownBlock] at k
 ·simp [Value.ownBlock] at k
  subst k
  rw [h'.blk] at hgg
  injection hgg with e1
  injection e1 with e1 e2 e3
  exact hne e2.symm
/-- all bytes of a record but the last four -/
def rb0 (r : Rc) : List Int := [80, 77, 66, 49] ++ sto r.q 8 ++ [r.s, 0, 0, 0] ++ sto r.l 4 ++ sto r.u 8
def rby (r : Rc) : List Int := rb0 r ++ sto (crc ent 0 (rb0 r) : Nat) 4
theorem sto_len (n : Int) (k : Nat) : (sto n k).length = k := by
 induction k generalizing n with
 | zero => rfl
 | succ k ih => rw [sto_snoc, List.length_append, ih]; rfl
theorem rb0_len (r : Rc) : (rb0 r).length = 28 := by unfold rb0; simp [sto_len]
theorem rby_len (r : Rc) : (rby r).length = 32 := by unfold rby; rw [List.length_append, rb0_len, sto_len]
theorem rb0_byt {r : Rc} (h : rrt r = true) : Byt (rb0 r) := by
 have := rrt_iff.1 h
 unfold rb0
 refine (((Byt.append (Byt.append ?_ (sto_byt _ _)) ?_).append (sto_byt _ _)).append (sto_byt _ _))
 ·intro x hx; simp at hx; omega
 ·intro x hx; simp at hx; omega
theorem rby_byt {r : Rc} (h : rrt r = true) : Byt (rby r) := by unfold rby; exact (rb0_byt h).append (sto_byt _ _)
/-- a chunk: At, Plain, Stored, Packed, Crc -/
structure Ck where
 at_ : Int
 pl : Int
 st : Int
 pk : Bool
 cr : Nat
def Ck.cells (c : Ck) : List Value := [.int .i64 c.at_, .int .i64 c.pl, .int .i64 c.st, .bool c.pk, .int .u32 (c.cr : Int)]
def Ck.val (c : Ck) : Value := .agg #[.int .i64 c.at_, .int .i64 c.pl, .int .i64 c.st, .bool c.pk, .int .u32 (c.cr : Int)]
def Ck.ok (c : Ck) : Prop := (-9223372036854775808 ≤ c.at_ ∧ c.at_ ≤ 9223372036854775807) ∧ (-9223372036854775808 ≤ c.pl ∧ c.pl ≤ 9223372036854775807) ∧ (-9223372036854775808 ≤ c.st ∧ c.st ≤ 9223372036854775807) ∧ c.cr < 4294967296
def ck0 : Ck := ⟨0, 0, 0, false, 0⟩
/-- may there be such a chunk? -/
def rgt (c : Ck) : Bool := decide (0 ≤ c.at_) && (decide (1 ≤ c.pl) && decide (c.pl ≤ 8192)) && (decide (1 ≤ c.st) && decide (c.st ≤ 8192)) && (c.pk || decide (c.pl = c.st))
theorem rgt_iff {c : Ck} : rgt c = true ↔ 0 ≤ c.at_ ∧ (1 ≤ c.pl ∧ c.pl ≤ 8192) ∧ (1 ≤ c.st ∧ c.st ≤ 8192) ∧ (c.pk = true ∨ c.pl = c.st) := by
 simp [rgt, and_assoc]
/-- does it lie within so many bytes? -/
def wthn (len : Nat) (c : Ck) : Bool := decide (c.at_ ≤ (len : Int) - 8 - c.st)
/-- how many bytes it counts for -/
def pln (c : Ck) : Int := if c.pl < 0 then 0 else c.pl
theorem pln_nonneg (c : Ck) : 0 ≤ pln c := by unfold pln; split <;> omega

theorem rright14_any (c : Ck) (w : World) : Calls Try.prog 29 #[c.val] w fun e w' => e = .returned (.bool (rgt c)) ∧ w.grownBy w' none := by
 unfold rgt Ck.val
 obtain ⟨at_, pl, st, pk, cr⟩ := c
 by_cases h0 : 0 ≤ at_
 ·by_cases h1 : 1 ≤ pl
  ·by_cases h2 : pl ≤ 8192
   ·by_cases h3 : 1 ≤ st
    ·by_cases h4 : st ≤ 8192
     ·cases pk
      ·by_cases h5 : pl = st
       ·subst h5
        go_enter Try.func29, Try.ntmps29
        go_wp2
        go_ret
        exact ⟨by first | (simp [h0, h1, h2, h3, h4]; done) | (simp [h0, h1, h2, h3, h4]; omega), World.grownBy_alloc _ _ _⟩
       ·go_enter Try.func29, Try.ntmps29
        go_wp2
        go_ret
        exact ⟨by first | (simp [h0, h1, h2, h3, h4, h5]; done) | (simp [h0, h1, h2, h3, h4, h5]; omega), World.grownBy_alloc _ _ _⟩
      ·go_enter Try.func29, Try.ntmps29
       go_wp2
       go_ret
       exact ⟨by first | (simp [h0, h1, h2, h3, h4]; done) | (simp [h0, h1, h2, h3, h4]; omega), World.grownBy_alloc _ _ _⟩
     ·go_enter Try.func29, Try.ntmps29
      go_wp2
      go_ret
      exact ⟨by first | (simp [h0, h1, h2, h3, h4]; done) | (simp [h0, h1, h2, h3, h4]; omega), World.grownBy_alloc _ _ _⟩
    ·go_enter Try.func29, Try.ntmps29
     go_wp2
     go_ret
     exact ⟨by first | (simp [h0, h1, h2, h3]; done) | (simp [h0, h1, h2, h3]; omega), World.grownBy_alloc _ _ _⟩
   ·go_enter Try.func29, Try.ntmps29
    go_wp2
    go_ret
    exact ⟨by first | (simp [h0, h1, h2]; done) | (simp [h0, h1, h2]; omega), World.grownBy_alloc _ _ _⟩
  ·go_enter Try.func29, Try.ntmps29
   go_wp2
   go_ret
   exact ⟨by first | (simp [h0, h1]; done) | (simp [h0, h1]; omega), World.grownBy_alloc _ _ _⟩
 ·go_enter Try.func29, Try.ntmps29
  go_wp2
  go_ret
  exact ⟨by first | (simp [h0]; done) | (simp [h0]; omega), World.grownBy_alloc _ _ _⟩
theorem pcount14_any (n : Int) (w : World) : Calls Try.prog 63 #[.int .i64 n] w fun e w' => e = .returned (.bool (decide (1 ≤ n) && decide (n ≤ 8192))) ∧ w' = w := by
 by_cases h1 : 1 ≤ n
 ·by_cases h2 : n ≤ 8192
  all_goals
   go_enter Try.func63, Try.ntmps63
   go_wp2
   go_ret
   exact ⟨by first | (simp [h1, h2]; done) | (simp [h1, h2]; omega), rfl⟩
 ·go_enter Try.func63, Try.ntmps63
  go_wp2
  go_ret
  exact ⟨by first | (simp [h1]; done) | (simp [h1]; omega), rfl⟩
set_option maxHeartbeats 2000000 in
theorem pright14_any (c : Ck) (w : World) : Calls Try.prog 47 #[c.val] w fun e w' => e = .returned (.bool (rgt c)) ∧ w.grownBy w' none := by
 unfold rgt Ck.val
 obtain ⟨at_, pl, st, pk, cr⟩ := c
 by_cases h0 : 0 ≤ at_
 ·obtain ⟨b1, hb1⟩ : ∃ b, (decide (1 ≤ pl) && decide (pl ≤ 8192)) = b := ⟨_, rfl⟩
  obtain ⟨b2, hb2⟩ : ∃ b, (decide (1 ≤ st) && decide (st ≤ 8192)) = b := ⟨_, rfl⟩
  rw [hb1, hb2]
  cases b1
  ·go_enter Try.func47, Try.ntmps47
   go_wp2_with fail
   refine (pcount14_any _ _).mono ?_
   rintro e w' ⟨rfl, rfl⟩
   rw [hb1]
   go_wp2_with fail
   go_ret
   exact ⟨by first | (simp [h0]; done) | (simp [h0]; omega), World.grownBy_alloc _ _ _⟩
  ·cases b2
   ·go_enter Try.func47, Try.ntmps47
    go_wp2_with fail
    refine (pcount14_any _ _).mono ?_
    rintro e w' ⟨rfl, rfl⟩
    rw [hb1]
    go_wp2_with fail
    refine (pcount14_any _ _).mono ?_
    rintro e w' ⟨rfl, rfl⟩
    rw [hb2]
    go_wp2_with fail
    go_ret
    exact ⟨by first | (simp [h0]; done) | (simp [h0]; omega), World.grownBy_alloc _ _ _⟩
   ·cases pk
    ·by_cases h5 : pl = st
     ·subst h5
      go_enter Try.func47, Try.ntmps47
      go_wp2_with fail
      refine (pcount14_any _ _).mono ?_
      rintro e w' ⟨rfl, rfl⟩
      rw [hb1]
      go_wp2_with fail
      refine (pcount14_any _ _).mono ?_
      rintro e w' ⟨rfl, rfl⟩
      rw [hb1]
      go_wp2_with fail
      go_ret
      exact ⟨by first | (simp [h0]; done) | (simp [h0]; omega), World.grownBy_alloc _ _ _⟩
     ·go_enter Try.func47, Try.ntmps47
      go_wp2_with fail
      refine (pcount14_any _ _).mono ?_
      rintro e w' ⟨rfl, rfl⟩
      rw [hb1]
      go_wp2_with fail
      refine (pcount14_any _ _).mono ?_
      rintro e w' ⟨rfl, rfl⟩
      rw [hb2]
      go_wp2_with fail
      go_ret
      exact ⟨by first | (simp [h0, h5]; done) | (simp [h0, h5]; omega), World.grownBy_alloc _ _ _⟩
    ·go_enter Try.func47, Try.ntmps47
     go_wp2_with fail
     refine (pcount14_any _ _).mono ?_
     rintro e w' ⟨rfl, rfl⟩
     rw [hb1]
     go_wp2_with fail
     refine (pcount14_any _ _).mono ?_
     rintro e w' ⟨rfl, rfl⟩
     rw [hb2]
     go_wp2_with fail
     go_ret
     exact ⟨by first | (simp [h0]; done) | (simp [h0]; omega), World.grownBy_alloc _ _ _⟩
 ·go_enter Try.func47, Try.ntmps47
  go_wp2_with fail
  go_ret
  exact ⟨by first | (simp [h0]; done) | (simp [h0]; omega), World.grownBy_alloc _ _ _⟩
theorem pwithin14_any (a : Option Addr) (len cap : Nat) (c : Ck) (w : World) (hl : len ≤ 16777216) (hc : c.ok) (hr : rgt c = true) :
  Calls Try.prog 48 #[.slice a len cap, c.val] w fun e w' => e = .returned (.bool (wthn len c)) ∧ w.grownBy w' none := by
 have h := rgt_iff.1 hr
 unfold wthn Ck.val
 obtain ⟨at_, pl, st, pk, cr⟩ := c
 simp only at h ⊢
 go_enter Try.func48, Try.ntmps48
 go_wp2
 go_ret
 refine ⟨?_, World.grownBy_alloc _ _ _⟩
 congr 2
theorem pend14_any (c : Ck) (w : World) (h0 : 0 ≤ c.at_) (h1 : c.at_ ≤ 16777216) (h2 : 0 ≤ c.st) (h3 : c.st ≤ 8192) :
  Calls Try.prog 46 #[c.val] w fun e w' => e = .returned (.int .i64 (c.at_ + 8 + c.st)) ∧ w.grownBy w' none := by
 unfold Ck.val
 obtain ⟨at_, pl, st, pk, cr⟩ := c
 simp only at h0 h1 h2 h3 ⊢
 go_enter Try.func46, Try.ntmps46
 go_wp2
 go_ret
 exact ⟨rfl, World.grownBy_alloc _ _ _⟩
theorem pcounts14_any (c : Ck) (w : World) : Calls Try.prog 52 #[c.val] w fun e w' => e = .returned (.int .i64 (pln c)) ∧ w.grownBy w' none := by
 unfold pln Ck.val
 obtain ⟨at_, pl, st, pk, cr⟩ := c
 simp only
 by_cases h : pl < 0
 ·rw [if_pos h]
  go_enter Try.func52, Try.ntmps52
  go_wp2
  go_ret
  exact ⟨by first | (simp; done) | (simp; omega), World.grownBy_alloc _ _ _⟩
 ·rw [if_neg h]
  go_enter Try.func52, Try.ntmps52
  go_wp2
  go_ret
  exact ⟨by first | (simp; done) | (simp; omega), World.grownBy_alloc _ _ _⟩
theorem rplain14_any (c : Ck) (w : World) : Calls Try.prog 36 #[c.val] w fun e w' => e = .returned (.int .i64 (pln c)) ∧ w.grownBy w' none := by
 unfold pln Ck.val
 obtain ⟨at_, pl, st, pk, cr⟩ := c
 simp only
 by_cases h : pl < 0
 ·rw [if_pos h]
  go_enter Try.func36, Try.ntmps36
  go_wp2
  go_ret
  exact ⟨rfl, World.grownBy_alloc _ _ _⟩
 ·rw [if_neg h]
  go_enter Try.func36, Try.ntmps36
  go_wp2
  go_ret
  exact ⟨rfl, World.grownBy_alloc _ _ _⟩
/-- what a round that goes on under a higher bound says of a lower one that stops it -/
def Over (most : Int) (ol : Nat) : DR → Prop
 | .inl (e, _) => e ≠ 0
 | .inr (.inl (_, n)) => most < ((ol + n : Nat) : Int)
 | .inr (.inr (_, n, _, m, _)) => most < ((ol + n + m : Nat) : Int)
theorem over_dst2 (bs : List Int) (most M : Int) (ol p k n : Nat) (h : most < ((ol + n : Nat) : Int)) : Over most ol (dst.dst2 bs M ol p k n) := by
 unfold dst.dst2
 repeat' split
 all_goals simp only [Over]
 all_goals first | decide | omega
theorem dst2_bound (bs : List Int) (most M : Int) (hm : most ≤ M) (ol p k n : Nat) : dst.dst2 bs most ol p k n = dst.dst2 bs M ol p k n ∨ (dst.dst2 bs most ol p k n = .bad 2 p ∧ Over most ol (dst.dst2 bs M ol p k n)) := by
 unfold dst.dst2
 by_cases h1 : k + n = bs.length
 ·left; rw [if_pos h1, if_pos h1]
 ·rw [if_neg h1, if_neg h1]
  by_cases h2 : k + n + 1 = bs.length
  ·left; rw [if_pos h2, if_pos h2]
  ·rw [if_neg h2, if_neg h2]
   by_cases h3 : bs.getD (k + n) 0 + 256 * bs.getD (k + n + 1) 0 = 0 ∨ ((ol + n : Nat) : Int) < bs.getD (k + n) 0 + 256 * bs.getD (k + n + 1) 0
   ·left; rw [if_pos h3, if_pos h3]
   ·rw [if_neg h3, if_neg h3]
    generalize lng bs (bs.getD p 0 % 16) (k + n + 2) = q
    by_cases h4 : q.1 < 0
    ·left; rw [if_pos h4, if_pos h4]
    ·rw [if_neg h4, if_neg h4]
     by_cases h5 : most - ((ol + n : Nat) : Int) < q.1 + 4
     ·right
      rw [if_pos h5]
      refine ⟨rfl, ?_⟩
      split
      ·simp [Over]
      ·simp only [Over]; omega
     ·left
      rw [if_neg h5, if_neg (by omega)]
theorem dst_bound (bs : List Int) (most M : Int) (hm : most ≤ M) (ol p : Nat) : dst bs most ol p = dst bs M ol p ∨ (p < bs.length ∧ dst bs most ol p = .bad 2 p ∧ Over most ol (dst bs M ol p)) := by
 unfold dst
 by_cases h1 : bs.length ≤ p
 ·left; rw [if_pos h1, if_pos h1]
 ·rw [if_neg h1, if_neg h1]
  generalize lng bs (bs.getD p 0 / 16) (p + 1) = q
  by_cases h2 : q.1 < 0
  ·left; rw [if_pos h2, if_pos h2]
  ·rw [if_neg h2, if_neg h2]
   by_cases h3 : most - ol < q.1
   ·right
    rw [if_pos h3]
    refine ⟨by omega, rfl, ?_⟩
    split
    ·simp [Over]
    ·split
     ·simp [Over]
     ·exact over_dst2 _ _ _ _ _ _ _ (by omega)
   ·have h3' : ¬ (M - ol < q.1) := by omega
    rw [if_neg h3, if_neg h3']
    by_cases h4 : (bs.length : Int) - q.2 < q.1
    ·left; rw [if_pos h4, if_pos h4]
    ·rw [if_neg h4, if_neg h4]
     rcases dst2_bound bs most M hm ol p q.2.toNat q.1.toNat with h | h
     ·exact Or.inl h
     ·exact Or.inr ⟨by omega, h.1, h.2⟩
/-- literals lie within the block -/
def Fits (len : Nat) : DR → Prop
 | .inl (e, _) => e ≠ 0
 | .inr (.inl (k, n)) => k + n ≤ len
 | .inr (.inr (k, n, _, _, _)) => k + n ≤ len
theorem dst_fits (bs : List Int) (hb : Byt bs) (most : Int) (ol p : Nat) : Fits bs.length (dst bs most ol p) := by
 unfold dst
 split
 ·simp [Fits]
 ·rename_i h1
  have hq := lng_in (n := bs.getD p 0 / 16) (p := p + 1) hb (by have := hb.getD p; omega) (by omega)
  generalize lng bs (bs.getD p 0 / 16) (p + 1) = q at hq
  split
  ·simp [Fits]
  ·split
   ·simp [Fits]
   ·split
    ·simp [Fits]
    ·unfold dst.dst2
     repeat' split
     all_goals simp only [Fits]
     all_goals first | decide | omega
/-- what is unpacked only grows -/
theorem dec_grows (bs : List Int) (hb : Byt bs) (M : Int) (f : Nat) (out : List Int) (sq : List Sq) (p : Nat) (h : (dec bs M f out sq p).2.2.1 = 0) : out.length ≤ (dec bs M f out sq p).1.length := by
 induction f generalizing out sq p with
 | zero => rw [dec] at h; simp at h
 | succ f ih =>
  have hf := dst_fits bs hb M out.length p
  rw [dec] at h ⊢
  rcases DR.any (dst bs M out.length p) with ⟨e, q, hd⟩ | ⟨k, n, hd⟩ | ⟨k, n, o, m, q, hd⟩
  ·try rw [hd]
   rw [hd] at h hf; simp [Fits] at h hf; exact absurd h hf
  ·try rw [hd]
   simp
  ·try rw [hd]
   rw [hd] at h
   simp only at h ⊢
   have := ih _ _ _ h
   rw [cpy_len, List.length_append] at this
   omega
/-- a lower bound: the same, or it is too long -/
theorem dec_bound (bs : List Int) (hb : Byt bs) (most M : Int) (hm : most ≤ M) (f : Nat) (out : List Int) (sq : List Sq) (p : Nat) :
  dec bs most f out sq p = dec bs M f out sq p ∨ ∃ q : Nat, q < bs.length ∧ dec bs most f out sq p = ([], [], 2, (q : Int)) ∧ ((dec bs M f out sq p).2.2.1 = 0 → most < ((dec bs M f out sq p).1.length : Int)) := by
 induction f generalizing out sq p with
 | zero => left; rw [dec, dec]
 | succ f ih =>
  have hf := dst_fits bs hb M out.length p
  rcases dst_bound bs most M hm out.length p with e | ⟨hp, e, ho⟩
  ·rw [dec, dec, e]
   rcases DR.any (dst bs M out.length p) with ⟨e, q, hd⟩ | ⟨k, n, hd⟩ | ⟨k, n, o, m, q, hd⟩
   ·try rw [hd]
    left; rfl
   ·try rw [hd]
    left; rfl
   ·try rw [hd]
    exact ih _ _ _
  ·right
   refine ⟨p, hp, by rw [dec, e], ?_⟩
   intro h
   rw [dec] at h ⊢
   rcases DR.any (dst bs M out.length p) with ⟨e, q, hd⟩ | ⟨k, n, hd⟩ | ⟨k, n, o, m, q, hd⟩
   ·try rw [hd]
    rw [hd] at h ho; simp [Over] at h ho; exact absurd h ho
   ·try rw [hd]
    rw [hd] at ho hf
    simp only [Over, Fits] at ho hf ⊢
    rw [List.length_append, List.length_take, List.length_drop]
    omega
   ·try rw [hd]
    rw [hd] at h ho hf
    simp only [Over, Fits] at h ho hf ⊢
    have := dec_grows bs hb M f _ _ _ h
    rw [cpy_len, List.length_append, List.length_take, List.length_drop] at this
    omega
/-- a round keeps the bound -/
def Within (most : Int) (ol : Nat) : DR → Prop
 | .inl (_, _) => True
 | .inr (.inl (_, n)) => ((ol + n : Nat) : Int) ≤ most
 | .inr (.inr (_, n, _, m, _)) => ((ol + n + m : Nat) : Int) ≤ most
theorem dst_within (bs : List Int) (most : Int) (ol p : Nat) : Within most ol (dst bs most ol p) := by
 unfold dst
 split
 ·trivial
 ·generalize lng bs (bs.getD p 0 / 16) (p + 1) = q
  split
  ·trivial
  ·split
   ·trivial
   ·split
    ·trivial
    ·unfold dst.dst2
     generalize lng bs (bs.getD p 0 % 16) (q.2.toNat + q.1.toNat + 2) = r
     repeat' split
     all_goals simp only [Within]
     all_goals omega
/-- what is unpacked keeps the bound -/
theorem dec_keeps (bs : List Int) (most : Int) (f : Nat) (out : List Int) (sq : List Sq) (p : Nat) (h0 : 0 ≤ most) : ((dec bs most f out sq p).1.length : Int) ≤ most := by
 induction f generalizing out sq p with
 | zero => rw [dec]; simpa using h0
 | succ f ih =>
  have hw := dst_within bs most out.length p
  rw [dec]
  rcases DR.any (dst bs most out.length p) with ⟨e, q, hd⟩ | ⟨k, n, hd⟩ | ⟨k, n, o, m, q, hd⟩
  ·try rw [hd]
   simpa using h0
  ·try rw [hd]
   rw [hd] at hw
   simp only [Within] at hw ⊢
   rw [List.length_append, List.length_take]
   omega
  ·try rw [hd]
   exact ih _ _ _
/-- where there is a fault nothing is unpacked -/
theorem dec_nil (bs : List Int) (most : Int) (f : Nat) (out : List Int) (sq : List Sq) (p : Nat) (h : (dec bs most f out sq p).2.2.1 ≠ 0) : (dec bs most f out sq p).1 = [] ∧ (dec bs most f out sq p).2.1 = [] := by
 induction f generalizing out sq p with
 | zero => exact ⟨rfl, rfl⟩
 | succ f ih =>
  rw [dec] at h ⊢
  rcases DR.any (dst bs most out.length p) with ⟨e, q, hd⟩ | ⟨k, n, hd⟩ | ⟨k, n, o, m, q, hd⟩
  ·try rw [hd]
   exact ⟨rfl, rfl⟩
  ·try rw [hd]
   rw [hd] at h; simp at h
  ·try rw [hd]
   rw [hd] at h; exact ih _ _ _ h
/-- what is unpacked are bytes -/
theorem dec_byt (bs : List Int) (hb : Byt bs) (most : Int) (f : Nat) (out : List Int) (sq : List Sq) (p : Nat) (ho : Byt out) : Byt (dec bs most f out sq p).1 := by
 induction f generalizing out sq p with
 | zero => intro x hx; simp [dec] at hx
 | succ f ih =>
  rw [dec]
  rcases DR.any (dst bs most out.length p) with ⟨e, q, hd⟩ | ⟨k, n, hd⟩ | ⟨k, n, o, m, q, hd⟩
  ·try rw [hd]
   intro x hx; simp at hx
  ·try rw [hd]
   exact ho.append ((hb.drop k).take n)
  ·try rw [hd]
   exact ih _ _ _ (cpy_byt _ _ _ (ho.append ((hb.drop k).take n)))
end Go.Proofs.Ytkkigpobhagnfaa
