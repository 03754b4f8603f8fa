/- What a text's sequences are made in: laws and the state of the walk. -/
import Derived.Test.YteghhmnkdmehbaaMD
import Derived.Test.YteghhmnkdmehbaaME
import Derived.Test.YteghhmnkdmehbaaMF
import Derived.Test.YteghhmnkdmehbaaPI
namespace Go.Proofs.Yteghhmnkdmehbaa
open Go.RowKit
set_option linter.unusedSimpArgs false
set_option linter.unusedVariables false

theorem build_here {P : Program} {w : World} {ops : Array Oper} {rest : List Oper} {a : Act} {Q : Exit → Act → World → Prop} {dst : Option Nat} {x : Array (Nat × Operand)} {type : TypeId} {pos : String} {after : Array Edge} {guard : Option (Nat × Bool)}
    (h : wpList P ops Q (⟨dst, .build 60 x, type, pos, after, guard⟩ :: rest) a w) : wpList P ops Q (⟨dst, .build 60 x, type, pos, after, guard⟩ :: rest) a w := h
theorem store_here {P : Program} {w : World} {ops : Array Oper} {rest : List Oper} {a : Act} {Q : Exit → Act → World → Prop} {dst : Option Nat} {x y : Operand} {type : TypeId} {pos : String} {after : Array Edge} {guard : Option (Nat × Bool)}
    (h : wpList P ops Q (⟨dst, .store 60 x y, type, pos, after, guard⟩ :: rest) a w) : wpList P ops Q (⟨dst, .store 60 x y, type, pos, after, guard⟩ :: rest) a w := h
/-- a composite of one field -/
theorem wpList_build1 {P : Program} {ops : Array Oper} {rest : List Oper} {o : Oper} {a : Act} {w : World} {Q : Exit → Act → World → Prop} (hg : o.guard = none) (t : TypeId) (k : Nat) (x : Operand) (ho : o.op = .build t #[(k, x)]) (v : Value) (hx : a.eval x = v) (cs : Array Value)
    (hf : P.built t [(k, v)] = some cs) (h : wpList P ops Q rest (a.put o.dst (.agg cs)) w) : wpList P ops Q (o :: rest) a w := by
  have e : (#[(k, x)].map fun (i, x) => (i, a.eval x)).toList = [(k, v)] := by simp [hx]
  refine wpList_build hg t _ ho ?_ ?_
  · rw [e, hf]; rfl
  · rw [e, hf]; exact h
/-- 'make([]int, n)' -/
theorem wpList_makeI {P : Program} (w : World) {ops : Array Oper} {rest : List Oper} {o : Oper} {a : Act} {Q : Exit → Act → World → Prop}
    (hg : o.guard = none) (l c : Operand) (t : TypeId) (hop : o.op = Op.makeSlice t l c)
    (i : TypeInfo) (h1 : P.underlying t = some (.slice 3)) (h2 : P.info? 3 = some i) (h3 : i.zero = some (.int .i64 0)) (_h4 : i.size = 1) (h5 : i.bytes = 8)
    (kl kc : IntKind) (L C : Int) (n : Nat) (hl : a.eval l = .int kl L) (hc : a.eval c = .int kc C) (hL : L = (n : Int)) (hC : C = (n : Int)) (b2 : n ≤ 1099511627776)
    (hK : ∀ w', Box w' w.heap.size 3 (List.replicate n (.int .i64 0)) → w.grownBy w' none → w'.heap.size = w.heap.size + 1 → wpList P ops Q rest (a.put o.dst (.slice (some ⟨w.heap.size, 0, none⟩) n n)) w') :
    wpList P ops Q (o :: rest) a w := by
  refine wpList_plain hg fun K hK' => ?_
  have hr := run_make (P := P) w t 3 i _ h1 h2 h3 kl kc n n (by omega) (Int.le_refl _) (by rw [h5]; omega) (by omega)
  simp only [Int.toNat_natCast] at hr
  subst hL
  subst hC
  unfold Oper.wp
  simp [execOp, hop, hl, hc, hr, Result.andThen]
  refine hK' _ _ (hK _ ⟨?_⟩ (World.grownBy_alloc w _ none) (by simp))
  rw [heap_alloc_new]
  have e := toList_madeCells_one (.int .i64 0) n
  have : (madeCells (Value.int IntKind.i64 0).cells (n * i.size)) = (List.replicate n (Value.int .i64 0)).toArray := by
    rw [_h4, Nat.mul_one, ← e]; simp [Value.cells]
  simp [this]
/-- a piece from a place on, of whatever bytes -/
theorem wpList_lowR {P : Program} {w : World} {ops : Array Oper} {rest : List Oper} {o : Oper} {a : Act} {Q : Exit → Act → World → Prop} (hg : o.guard = none) (x l : Operand) (t : TypeId)
    (ho : o.op = .slice t x (some l) none none) (ht : P.underlying t = some (.slice 5)) (i : TypeInfo) (hi : P.info? 5 = some i) (hsz : i.size = 1)
    (w0 : World) (ad : Option Addr) (len cap k : Nat) (bs : List Int) (K : Int) (hx : a.eval x = .slice ad len cap) (hl : a.eval l = .int .i64 K) (hK : K = (k : Int)) (B : Byte w0 ad len cap bs) (h1 : k ≤ len)
    (hk : ∀ ad', Hid (Byte w0 ad' (len - k) (cap - k) (bs.drop k)) → wpList P ops Q rest (a.put o.dst (.slice ad' (len - k) (cap - k))) w) : wpList P ops Q (o :: rest) a w := by
  have e2 : (bs.drop k).take (len - k) = bs.drop k := by apply List.take_of_length_le; have := B.row.len_eq; simp; omega
  cases ad with
  | none =>
    have hl0 : len = 0 := by
      rcases Nat.eq_zero_or_pos len with h | h
      · exact h
      · obtain ⟨_, _, e, _⟩ := B.row.cells h; cases e
    have hc0 := B.nil rfl
    subst hl0 hc0 hK
    obtain rfl : k = 0 := by omega
    have hb : bs = [] := List.eq_nil_of_length_eq_zero B.row.len_eq
    subst hb
    refine wpList_plain hg fun K' hK' => ?_
    have he : P.elem t = 5 := by simp [Program.elem, ht]
    have ht' : P.underlying t = some (.slice (P.elem t)) := by rw [he]; exact ht
    have hs : (sizeOf 5).run P w = .ok 1 w := by rw [run_sizeOf w hi]; simp [Program.cellsOf, hi, hsz]
    have hr := run_slice_l (P := P) (w := w) (a := none) (len := 0) (cap := 0) (t := t) ht' .i64 ((0 : Nat) : Int) (by omega) (by omega)
    rw [he, hs] at hr
    simp only [Result.andThen, Int.toNat_natCast] at hr
    have hv : sliced none 0 0 0 1 = .slice none 0 0 := rfl
    rw [hv] at hr
    unfold Oper.wp
    simp only [Int.natCast_zero] at hr hl
    simp [execOp, ho, hx, hl, hr, Result.andThen, run_sliceAt_slice (P := P) (w := w) t _ _ _ _ ht']
    exact hK' _ _ (hk _ B)
  | some p =>
    rcases Nat.eq_zero_or_pos len with h0 | h0
    · subst h0
      obtain rfl : k = 0 := by omega
      have hb : bs = [] := List.eq_nil_of_length_eq_zero B.row.len_eq
      subst hb hK
      refine wpList_plain hg fun K' hK' => ?_
      have he : P.elem t = 5 := by simp [Program.elem, ht]
      have ht' : P.underlying t = some (.slice (P.elem t)) := by rw [he]; exact ht
      have hs : (sizeOf 5).run P w = .ok 1 w := by rw [run_sizeOf w hi]; simp [Program.cellsOf, hi, hsz]
      have hr := run_slice_l (P := P) (w := w) (a := some p) (len := 0) (cap := cap) (t := t) ht' .i64 ((0 : Nat) : Int) (by omega) (by omega)
      rw [he, hs] at hr
      simp only [Result.andThen, Int.toNat_natCast] at hr
      have hv : ∃ p', sliced (some p) 0 0 cap 1 = .slice (some p') 0 cap := by
        unfold sliced
        split
        · exact ⟨_, rfl⟩
        · exact ⟨_, rfl⟩
      obtain ⟨p', hv⟩ := hv
      rw [hv] at hr
      unfold Oper.wp
      simp only [Int.natCast_zero] at hr hl
      simp [execOp, ho, hx, hl, hr, Result.andThen, run_sliceAt_slice (P := P) (w := w) t _ _ _ _ ht']
      exact hK' _ _ (hk _ ⟨Row.none0 _, (fun e => by cases e), B.nc, B.cm⟩)
    · obtain ⟨b, off, e, _⟩ := B.row.cells h0
      injection e with e
      subst e
      refine wpList_low8 hg x l t ho ht i hi hsz b off len cap k K hx hl hK h1 B.nc fun o' ho' => hk _ ⟨?_, (fun e => by cases e), (by have := B.nc; omega), (by have := B.cm; omega)⟩
      have := B.row.piece k (len - k) o' (by omega) (fun h => ho' (by omega))
      rw [e2] at this
      exact this
theorem bcs_zero (bs : List Int) : bcs bs 0 = List.replicate bs.length (.int .i64 0) := by
  rw [List.eq_replicate_iff]
  refine ⟨bcs_len _ _, fun v hv => ?_⟩
  unfold bcs at hv
  rw [List.mem_map] at hv
  obtain ⟨s, _, rfl⟩ := hv
  rfl
/-- the walk's state: the chains of the places ahead of p, the sequences so far -/
structure Sx (w W : World) (g gb : Nat) (bs : List Int) (v : Value) (ss : List SqV) (qs : List Sq) (p : Nat) : Prop where
  chn : Chn W g gb bs p
  own : W.ownsRow w.heap.size 51 3 v ss.length (sqv ss)
  sq : Sqs w ss qs
  gr : w.grownBy W none
  lg : w.heap.size ≤ g
  lb : w.heap.size ≤ gb
theorem Sx.drew {w W : World} {g gb : Nat} {bs : List Int} {v : Value} {ss : List SqV} {qs : List Sq} {p : Nat} (h : Sx w W g gb bs v ss qs p) (n : Nat) : Sx w (W.drewN n) g gb bs v ss qs p :=
  ⟨h.chn.kept (grown_drewN5 (World.grownBy.refl _ _) n), h.own.kept (grown_drewN5 (World.grownBy.refl _ _) n) (by cases v.ownBlock <;> simp), h.sq, grown_drewN5 h.gr n, h.lg, h.lb⟩
theorem Sx.two {w W W' : World} {g gb : Nat} {bs : List Int} {v : Value} {ss : List SqV} {qs : List Sq} {p p' : Nat} (h : Sx w W g gb bs v ss qs p) (c : Chn W' g gb bs p') (t : Two g gb W W') : Sx w W' g gb bs v ss qs p' := by
  obtain ⟨W1, t1, t2⟩ := t
  have n1 := own_box h.own h.chn.bf (by decide)
  have n2 := own_box h.own h.chn.hd (by decide)
  exact ⟨c, (h.own.kept t1 (Or.inr n1.symm)).kept t2 (Or.inr n2.symm), h.sq, grown_new (grown_new h.gr t1 h.lb) t2 h.lg, h.lg, h.lb⟩
theorem Sx.app {w W W' : World} {g gb : Nat} {bs : List Int} {v v' : Value} {ss : List SqV} {qs : List Sq} {p : Nat} {s : SqV} {q : Sq} (h : Sx w W g gb bs v ss qs p) (S : SqOk w s q) (o : W'.ownsRow w.heap.size 51 3 v' (ss.length + 1) (sqv ss ++ s.cells)) (k : W.grownBy W' v.ownBlock) : Sx w W' g gb bs v' (ss ++ [s]) (qs ++ [q]) p := by
  have n1 := own_box h.own h.chn.bf (by decide)
  have n2 := own_box h.own h.chn.hd (by decide)
  exact ⟨⟨h.chn.hd.kept k n2, h.chn.bf.kept k n1⟩, by rw [sqv_append, List.length_append]; simpa [sqv] using o, .snoc h.sq S, grown_own h.gr h.own k (Nat.le_refl _), h.lg, h.lb⟩
theorem Sx.keep {w W W' : World} {g gb : Nat} {bs : List Int} {v : Value} {ss : List SqV} {qs : List Sq} {p : Nat} (h : Sx w W g gb bs v ss qs p) (k : W.grownBy W' none) : Sx w W' g gb bs v ss qs p :=
  ⟨h.chn.kept k, h.own.kept k (by cases v.ownBlock <;> simp), h.sq, grown_trans h.gr k, h.lg, h.lb⟩
end Go.Proofs.Yteghhmnkdmehbaa
