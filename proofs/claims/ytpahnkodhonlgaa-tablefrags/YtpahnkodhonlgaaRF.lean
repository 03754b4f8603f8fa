/- A piece of bytes; four answers. -/
import Derived.Test.YtpahnkodhonlgaaRD
namespace Go.Proofs.Ytpahnkodhonlgaa
open Go.RowKit
set_option maxRecDepth 100000
set_option linter.unusedSimpArgs false
set_option linter.unusedVariables false

theorem results_tmp4 {fn : Func} {t u v x : Tmp} (h : fn.results = #[.tmp t, .tmp u, .tmp v, .tmp x]) (tmps : Array Value) (P : Program) (w : World) :
    (results fn tmps).run P w = .ok (.tuple #[tmps.getD t undef, tmps.getD u undef, tmps.getD v undef, tmps.getD x undef]) w := by
  simp [results, h]
/-- a guard: the next operation is a piece from one place to another -/
theorem slice_here {P : Program} {w : World} {ops : Array Oper} {rest : List Oper} {a : Act} {Q : Exit → Act → World → Prop} {dst : Option Nat} {t : TypeId} {x l h : Operand} {type : TypeId} {pos : String} {after : Array Edge} {guard : Option (Nat × Bool)}
    (k : wpList P ops Q (⟨dst, .slice t x (some l) (some h) none, type, pos, after, guard⟩ :: rest) a w) : wpList P ops Q (⟨dst, .slice t x (some l) (some h) none, type, pos, after, guard⟩ :: rest) a w := k
theorem wpList_cut8 {P : Program} {w : World} {ops : Array Oper} {rest : List Oper} {o : Oper} {a : Act} {Q : Exit → Act → World → Prop} (hg : o.guard = none) (x l h : Operand) (t : TypeId)
    (ho : o.op = .slice t x (some l) (some h) none) (ht : P.underlying t = some (.slice 5)) (i : TypeInfo) (hi : P.info? 5 = some i) (hsz : i.size = 1)
    (b off len cap k n : Nat) (K L : Int) (hx : a.eval x = .slice (some ⟨b, off, none⟩) len cap) (hl : a.eval l = .int .i64 K) (hh : a.eval h = .int .i64 L) (hK : K = (k : Int)) (hL : L = ((k + n : Nat) : Int)) (h1 : k + n ≤ cap)
    (hk : ∀ o', (0 < n → o' = off + k) → wpList P ops Q rest (a.put o.dst (.slice (some ⟨b, o', none⟩) n (cap - k))) w) : wpList P ops Q (o :: rest) a w := by
  refine wpList_plain hg fun K' hK' => ?_
  have he : P.elem t = 5 := by simp [Program.elem, ht]
  have ht' : P.underlying t = some (.slice (P.elem t)) := by rw [he]; exact ht
  have hs : (sizeOf 5).run P w = .ok 1 w := by rw [run_sizeOf w hi]; simp [Program.cellsOf, hi, hsz]
  subst hK hL
  have hr := run_slice_lh (P := P) (w := w) (a := some ⟨b, off, none⟩) (len := len) (cap := cap) (t := t) ht' .i64 .i64 (k : Int) ((k + n : Nat) : Int) (by omega) (by omega) (by omega)
  rw [he, hs] at hr
  simp only [Result.andThen, Int.toNat_natCast] at hr
  have hv : sliced (some ⟨b, off, none⟩) k (k + n) cap 1 = .slice (some ⟨b, if cap = k then off else off + k, none⟩) n (cap - k) := by
    unfold sliced
    by_cases c : cap = k
    · rw [if_pos c, if_pos c]; congr 1; omega
    · rw [if_neg c, if_neg c]
      have hadd : (⟨b, off, none⟩ : Addr).add (k * 1) = ⟨b, off + k, none⟩ := by unfold Addr.add; split <;> simp_all
      simp only [Option.map_some, hadd]; congr 1; omega
  rw [hv, Int.natCast_add] at hr
  unfold Oper.wp
  simp [execOp, ho, hx, hl, hh, hr, Result.andThen, run_sliceAt_slice (P := P) (w := w) t _ _ _ _ ht']
  refine hK' _ _ (hk _ ?_)
  intro h0
  rw [if_neg (by omega)]
theorem Row.part {w : World} {b off len : Nat} {bs : List Int} (h : Row w (some ⟨b, off, none⟩) len bs) (at_ n : Nat) (hn : at_ + n ≤ len) : Row w (some ⟨b, off + at_, none⟩) n ((bs.drop at_).take n) := by
  refine ⟨by simp [h.len_eq]; omega, by have := h.le; omega, (h.byt.drop at_).take n, fun h0 => ⟨b, off + at_, rfl, fun i hi => ?_⟩⟩
  obtain ⟨b', off', e, hc⟩ := h.cells (by omega)
  injection e with e
  injection e with e1 e2
  subst e1 e2
  rw [Nat.add_assoc, hc (at_ + i) (by omega)]
  congr 2
  rw [List.getD_eq_getElem?_getD, List.getD_eq_getElem?_getD, List.getElem?_take, if_pos hi, List.getElem?_drop]
theorem Row.none0 {w : World} (a : Option Addr) : Row w a 0 [] := ⟨rfl, Nat.zero_le _, fun n hn => by simp at hn, fun h => by omega⟩
theorem Row.piece {w : World} {b off len : Nat} {bs : List Int} (h : Row w (some ⟨b, off, none⟩) len bs) (k n o' : Nat) (hn : k + n ≤ len) (ho : 0 < n → o' = off + k) : Row w (some ⟨b, o', none⟩) n ((bs.drop k).take n) := by
  rcases Nat.eq_zero_or_pos n with h0 | h0
  · subst h0; rw [List.take_zero]; exact Row.none0 _
  · rw [ho h0]; exact h.part k n hn

/-- a variable of several cells -/
structure Box (W : World) (g : Nat) (T : TypeId) (cs : List Value) : Prop where
  blk : W.heap[g]? = some (.cells cs.toArray T (0, 0))
theorem Box.lt {W : World} {g : Nat} {T : TypeId} {cs : List Value} (h : Box W g T cs) : g < W.heap.size := (Array.getElem?_eq_some_iff.1 h.blk).1
theorem Box.c {W : World} {g : Nat} {T : TypeId} {cs : List Value} (h : Box W g T cs) (i : Nat) : W.cell? ⟨g, i, none⟩ = cs[i]? := by simp [World.cell?, h.blk]
theorem Box.f {W : World} {g : Nat} {T : TypeId} {cs : List Value} (h : Box W g T cs) (i : Nat) : W.frozen? ⟨g, i, none⟩ = false := by simp [World.frozen?, h.blk]
theorem Box.set {W : World} {g : Nat} {T : TypeId} {cs : List Value} (h : Box W g T cs) (i : Nat) (v : Value) : Box (W.setCell ⟨g, i, none⟩ v) g T (cs.set i v) := by
  constructor
  rw [setCell_eq_setRow W g i _ _ _ _ h.blk, setRow_heap W g _ _ _ _ h.blk]
  simp
theorem Box.kept {W W' : World} {g : Nat} {T : TypeId} {cs : List Value} {row : Option Nat} (h : Box W g T cs) (hg : W.grownBy W' row) (hr : some g ≠ row) : Box W' g T cs := ⟨by rw [hg.block g h.lt hr]; exact h.blk⟩
theorem Box.new (w : World) (T : TypeId) (cs : List Value) : Box (w.alloc (.cells cs.toArray T)) w.heap.size T cs := ⟨heap_alloc_new _ _⟩
/-- rows of different types are different blocks -/
theorem own_apart {W W' : World} {base base' e e' s s' n n' : Nat} {v v' : Value} {xs xs' : List Value} (h : W.ownsRow base e s v n xs) (h' : W.ownsRow base' e' s' v' n' xs') (hne : e ≠ e') (hg : W.grownBy W' v'.ownBlock) : W'.ownsRow base e s v n xs := by
  refine h.kept hg ?_
  rcases h.2 with ⟨rfl, _⟩ | ⟨g, cap, cur, rfl, hb, hgg, _⟩
  · left; rfl
  · right
    intro k
    rcases h'.2 with ⟨rfl, _⟩ | ⟨g', cap', cur', rfl, hb', hgg', _⟩
    · simp [Value.ownBlock] at k
    · simp [Value.ownBlock] at k
      subst k
      rw [hgg] at hgg'
      injection hgg' with e1
      injection e1 with e1 e2 e3
      exact hne e2
theorem own_box {W : World} {base e e' s n g : Nat} {v : Value} {xs cs : List Value} (h : W.ownsRow base e s v n xs) (h' : Box W g e' cs) (hne : e ≠ e') : some g ≠ v.ownBlock := by
  intro k
  rcases h.2 with ⟨rfl, _⟩ | ⟨g', cap, cur, rfl, hb, hgg, _⟩
  · simp [Value.ownBlock] at k
  · simp [Value.ownBlock] at k
    subst k
    rw [h'.blk] at hgg
    injection hgg with e1
    injection e1 with e1 e2 e3
    exact hne e2.symm

theorem grown_drew (w : World) : w.grownBy w.drew none := ⟨rfl, rfl, rfl, Nat.le_refl _, fun _ _ _ => rfl⟩
theorem cpy_snoc (off n : Nat) (out : List Int) : cpy off (n + 1) out = cpy off n out ++ [(cpy off n out).getD ((cpy off n out).length - off) 0] := by
  induction n generalizing out with
  | zero => rfl
  | succ n ih => rw [cpy, ih, cpy]
end Go.Proofs.Ytpahnkodhonlgaa
