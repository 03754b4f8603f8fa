/- The program's Join. What a text's sequences are made in: laws and the state of the walk. The program's sequences. Is a list of sequences more than is asked? The program's Size and Cut. The program's Decode: what it answers is new memory. -/
import Derived.Test.YtkkigpobhagnfaaK03
import Derived.Test.YtkkigpobhagnfaaK04
import Derived.Test.YtkkigpobhagnfaaK05
import Derived.Test.YtkkigpobhagnfaaK06
import Derived.Test.YtkkigpobhagnfaaK07
namespace Go.Proofs.Ytkkigpobhagnfaa
open Go.RowKit
set_option maxRecDepth 100000
set_option linter.unusedSimpArgs false
set_option linter.unusedVariables false
theorem tol_le2 {n : Int} (h : n ≤ 1048576) : (tol n).length ≤ 4200 := by
 unfold tol
 split
 ·simp
 ·simp; omega
theorem jbytes_le {l : Bool} {q : Sq} (h1 : q.1.length ≤ 1048576) (h2 : q.2.2 ≤ 1048576) : (jbytes l q).length ≤ 2097152 := by
 have t1 := tol_le2 (n := q.1.length) (by omega)
 have t2 := tol_le2 (n := q.2.2 - 4) (by omega)
 unfold jbytes
 split
 ·simp; omega
 ·simp; omega
theorem lay_any (w W : World) (v : Value) (bts : List Int) (s : SqV) (q : Sq) (l : Bool) (size : Int) (J : Jn w W v bts) (S : SqOk w s q) (h0 : 0 ≤ size) (he : jerr l size q = 0) (hb : bts.length ≤ 549755813888) :
  Calls Try.prog 76 #[v, .agg #[.slice s.a s.n s.c, .int .i64 s.off, .int .i64 s.m]] W fun e W' => ∃ v', e = .returned v' ∧ Jn w W' v' (bts ++ jbytes l q) := by

 cases l with
 | true =>
  obtain ⟨h1, h2, h3⟩ := jerr_last he
  exact lay_last w W v bts s q J S (by omega) h1 h2 hb
 | false =>
  obtain ⟨h1, h2, h3, h4, h5⟩ := jerr_more he
  exact lay_more w W v bts s q J S (by omega) ⟨h1, h2⟩ (by omega) hb
theorem jerr_facts {l : Bool} {size : Int} {q : Sq} (h0 : 0 ≤ size) (he : jerr l size q = 0) : (q.1.length ≤ 1048576 ∧ 0 ≤ q.2.2 ∧ q.2.2 ≤ 1048576) ∧ 0 ≤ size + q.1.length + q.2.2 := by
 cases l with
 | true => have := jerr_last he; omega
 | false => have := jerr_more he; omega
def PJoin (w : World) (r : List Int × Int) (e : Ending) (w' : World) : Prop :=
 ∃ a n c, e = .returned (.tuple #[.slice a n c, .int .i64 r.2]) ∧ Byte w' a n c r.1 ∧ w.grownBy w' none ∧ (∀ b o, a = some ⟨b, o, none⟩ → w.heap.size ≤ b)
theorem owns_new14 {W : World} {base n c m : Nat} {a : Option Addr} {xs : List Value} (h : W.ownsRow base 5 1 (.slice a n c) m xs) : ∀ b o, a = some ⟨b, o, none⟩ → base ≤ b := by
 intro b o e
 subst e
 rcases h.2 with ⟨h1, _⟩ | ⟨g, cap, cur, h1, hb, _⟩
 ·injection h1 with h1; cases h1
 ·injection h1 with h1 h2 h3
  injection h1 with h1
  injection h1 with h1 h2
  omega

set_option maxHeartbeats 2000000 in
theorem pjoin_any (a : Option Addr) (len cap : Nat) (ss : List SqV) (qs : List Sq) (w : World) (M : SMod w a len ss qs) (hle : len ≤ 65536) :
  Calls Try.prog 66 #[.slice a len cap] w (PJoin w (join qs)) := by
 have hc := check_any a len cap ss qs w M
 have hsl := M.arg.row.len_eq
 have hql := M.arg.sqs.len
 have hsp : (join qs = (jcat qs, 0) ∧ Jok qs 0) ∨ ((join qs).2 ≠ 0 ∧ (join qs).1 = []) := by
  unfold join
  split
  ·right; exact ⟨by decide, rfl⟩
  ·simpa using jon_split qs 0 []
 rcases hsp with ⟨ej, hok⟩ | ⟨ej, en⟩
 ·rw [ej] at hc ⊢
  simp only at hc
  have HM : Hid _ := M
  have HK : Hid _ := hok
  have HQ : Hid (qs.length = len) := by show qs.length = len; omega
  clear M hok hsl hql ej
  go_enter Try.func66, Try.ntmps66
  go_wp2_with fail
  refine hc.mono ?_
  rintro e w1 ⟨rfl, g1⟩
  have HG : Hid _ := g1
  clear hc g1
  simp only
  go_wp2_with fail
  go_loopw [5, 15] (fun v vi wr => ∃ (j : Nat) (P : List Int) (size : Int), vi = .int .i64 j ∧ j ≤ len ∧ P.length ≤ j * 2097152 ∧ 0 ≤ size ∧ Hid (Jn w wr v P) ∧ Hid (P ++ jcat (qs.drop j) = jcat qs ∧ Jok (qs.drop j) size)) (fun _ vi _ => len - (intOf vi).toNat)
  case atStart => exact ⟨0, [], 0, rfl, Nat.zero_le _, by simp, by omega, ⟨World.ownsRow_nil _ _ _ _, HG.out, fun x hx => by simp at hx⟩, rfl, HK.out⟩
  case round =>
   clear HK HG
   obtain ⟨j, P, size, rfl, hj, hP, hs0, HJ, HE⟩ := hrel
   by_cases k1 : j < len
   ·obtain ⟨s, q, hs, hq, ok⟩ := HM.out.arg.sqs.get j (by rw [HM.out.arg.row.len_eq]; exact k1)
    obtain ⟨ba, oa, rfl, ha⟩ := (HM.out.arg.row.grown HJ.out.g).cells (by omega)
    obtain ⟨x0, x1, x2⟩ := ha j s hs
    have hd := drop_at hq
    obtain ⟨hE, hK⟩ := HE.out
    rw [hd] at hE hK
    obtain ⟨k2, k3⟩ := hK
    have hfa := jerr_facts hs0 k2
    have hjl := jbytes_le (l := (qs.drop (j + 1)).isEmpty) hfa.1.1 hfa.1.2.2
    have G0 := World.grownBy_alloc wr (.cells #[.slice s.a s.n s.c, .int .i64 s.off, .int .i64 s.m] 116) none
    have hla := lay_any w (wr.alloc (.cells #[.slice s.a s.n s.c, .int .i64 s.off, .int .i64 s.m] 116)) u5 P s q _ size (HJ.out.keep G0) ok hs0 k2 (by omega)
    have HE2 : Hid (P ++ jbytes (qs.drop (j + 1)).isEmpty q ++ jcat (qs.drop (j + 1)) = jcat qs ∧ Jok (qs.drop (j + 1)) (size + q.1.length + q.2.2)) := ⟨by rw [List.append_assoc]; exact hE, k3⟩
    have hs1 : 0 ≤ size + q.1.length + q.2.2 := hfa.2
    have hP1 : (P ++ jbytes (qs.drop (j + 1)).isEmpty q).length ≤ (j + 1) * 2097152 := by rw [List.length_append]; omega
    generalize P ++ jbytes (qs.drop (j + 1)).isEmpty q = P1 at hla HE2 hP1
    generalize size + q.1.length + q.2.2 = size1 at HE2 hs1
    obtain ⟨sa, n, sc, so, sm⟩ := s
    simp only at x0 x1 x2 hla
    clear hE k2 k3 hd hfa hjl HE ok hs hq ha G0
    go_wp2_with fail
    refine hla.mono ?_
    rintro e w2 ⟨v2, rfl, J2⟩
    have HJ2 : Hid _ := J2
    clear hla J2 HJ x0 x1 x2
    simp only
    go_wp2
    go_roundw
    case rel => exact ⟨j + 1, P1, size1, by go_num, by omega, hP1, hs1, HJ2, HE2⟩
    case measure => simp [intOf]; omega
   ·obtain rfl : j = len := by omega
    have hE := HE.out.1
    rw [List.drop_eq_nil_of_le (by rw [HQ.out]; exact Nat.le_refl _)] at hE
    obtain ⟨a1, c1, rfl, B1⟩ := byte_own HJ.out.own HJ.out.byt (by unfold maxLen; omega)
    have HNW : Hid _ := owns_new14 HJ.out.own
    have HB : Hid _ := And.intro B1 HJ.out.g
    have hF : P = jcat qs := by rw [← hE]; simp [jcat]
    have HF : Hid (P = jcat qs) := hF
    clear hF
    clear hE HE B1 HJ HM
    go_wp2
    go_ret2
    rw [← HF.out]
    exact ⟨_, _, _, rfl, HB.out.1, HB.out.2, HNW.out⟩
 ·generalize join qs = r at *
  obtain ⟨ro, re⟩ := r
  simp only at ej en hc
  subst en
  have hne : (re == 0) = false := by simp [ej]
  clear M hsl hql
  go_enter Try.func66, Try.ntmps66
  go_wp2_with fail
  refine hc.mono ?_
  rintro e w1 ⟨rfl, g1⟩
  have HG : Hid _ := g1
  clear hc g1
  simp only
  go_wp2
  go_ret2
  exact ⟨none, 0, 0, rfl, ⟨Row.none0 _, fun _ => rfl, Nat.le_refl _, Nat.zero_le _⟩, HG.out, fun b o e => by cases e⟩
theorem build_here {P : Program} {w : World} {ops : Array Oper} {rest : List Oper} {a : Act} {Q : Exit → Act → World → Prop} {dst : Option Nat} {x : Array (Nat × Operand)} {type : TypeId} {pos : String} {after : Array Edge} {guard : Option (Nat × Bool)}
  (h : wpList P ops Q (⟨dst, .build 130 x, type, pos, after, guard⟩ :: rest) a w) : wpList P ops Q (⟨dst, .build 130 x, type, pos, after, guard⟩ :: rest) a w := h
theorem store_here {P : Program} {w : World} {ops : Array Oper} {rest : List Oper} {a : Act} {Q : Exit → Act → World → Prop} {dst : Option Nat} {x y : Operand} {type : TypeId} {pos : String} {after : Array Edge} {guard : Option (Nat × Bool)}
  (h : wpList P ops Q (⟨dst, .store 130 x y, type, pos, after, guard⟩ :: rest) a w) : wpList P ops Q (⟨dst, .store 130 x y, type, pos, after, guard⟩ :: rest) a w := h
/-- a composite of one field -/
theorem wpList_build1 {P : Program} {ops : Array Oper} {rest : List Oper} {o : Oper} {a : Act} {w : World} {Q : Exit → Act → World → Prop} (hg : o.guard = none) (t : TypeId) (k : Nat) (x : Operand) (ho : o.op = .build t #[(k, x)]) (v : Value) (hx : a.eval x = v) (cs : Array Value)
  (hf : P.built t [(k, v)] = some cs) (h : wpList P ops Q rest (a.put o.dst (.agg cs)) w) : wpList P ops Q (o :: rest) a w := by
 have e : (#[(k, x)].map fun (i, x) => (i, a.eval x)).toList = [(k, v)] := by simp [hx]
 refine wpList_build hg t _ ho ?_ ?_
 ·rw [e, hf]; rfl
 ·rw [e, hf]; exact h
/-- 'make([]int, n)' -/
theorem wpList_makeI {P : Program} (w : World) {ops : Array Oper} {rest : List Oper} {o : Oper} {a : Act} {Q : Exit → Act → World → Prop}
  (hg : o.guard = none) (l c : Operand) (t : TypeId) (hop : o.op = Op.makeSlice t l c)
  (i : TypeInfo) (h1 : P.underlying t = some (.slice 3)) (h2 : P.info? 3 = some i) (h3 : i.zero = some (.int .i64 0)) (_h4 : i.size = 1) (h5 : i.bytes = 8)
  (kl kc : IntKind) (L C : Int) (n : Nat) (hl : a.eval l = .int kl L) (hc : a.eval c = .int kc C) (hL : L = (n : Int)) (hC : C = (n : Int)) (b2 : n ≤ 1099511627776)
  (hK : ∀ w', Box w' w.heap.size 3 (List.replicate n (.int .i64 0)) → w.grownBy w' none → w'.heap.size = w.heap.size + 1 → wpList P ops Q rest (a.put o.dst (.slice (some ⟨w.heap.size, 0, none⟩) n n)) w') :
  wpList P ops Q (o :: rest) a w := by
 refine wpList_plain hg fun K hK' => ?_
 have hr := run_make (P := P) w t 3 i _ h1 h2 h3 kl kc n n (by omega) (Int.le_refl _) (by rw [h5]; omega) (by omega)
 simp only [Int.toNat_natCast] at hr
 subst hL
 subst hC
 unfold Oper.wp
 simp [execOp, hop, hl, hc, hr, Result.andThen]
 refine hK' _ _ (hK _ ⟨?_⟩ (World.grownBy_alloc w _ none) (by simp))
 rw [heap_alloc_new]
 have e := toList_madeCells_one (.int .i64 0) n
 have : (madeCells (Value.int IntKind.i64 0).cells (n * i.size)) = (List.replicate n (Value.int .i64 0)).toArray := by
  rw [_h4, Nat.mul_one, ← e]; simp [Value.cells]
 simp [this]
/-- a piece from a place on, of whatever bytes -/
theorem wpList_lowR {P : Program} {w : World} {ops : Array Oper} {rest : List Oper} {o : Oper} {a : Act} {Q : Exit → Act → World → Prop} (hg : o.guard = none) (x l : Operand) (t : TypeId)
  (ho : o.op = .slice t x (some l) none none) (ht : P.underlying t = some (.slice 5)) (i : TypeInfo) (hi : P.info? 5 = some i) (hsz : i.size = 1)
  (w0 : World) (ad : Option Addr) (len cap k : Nat) (bs : List Int) (K : Int) (hx : a.eval x = .slice ad len cap) (hl : a.eval l = .int .i64 K) (hK : K = (k : Int)) (B : Byte w0 ad len cap bs) (h1 : k ≤ len)
  (hk : ∀ ad', Hid (Byte w0 ad' (len - k) (cap - k) (bs.drop k)) → wpList P ops Q rest (a.put o.dst (.slice ad' (len - k) (cap - k))) w) : wpList P ops Q (o :: rest) a w := by
 have e2 : (bs.drop k).take (len - k) = bs.drop k := by apply List.take_of_length_le; have := B.row.len_eq; simp; omega
 cases ad with
 | none =>
  have hl0 : len = 0 := by
   rcases Nat.eq_zero_or_pos len with h | h
   ·exact h
   ·obtain ⟨_, _, e, _⟩ := B.row.cells h; cases e
  have hc0 := B.nil rfl
  subst hl0 hc0 hK
  obtain rfl : k = 0 := by omega
  have hb : bs = [] := List.eq_nil_of_length_eq_zero B.row.len_eq
  subst hb
  refine wpList_plain hg fun K' hK' => ?_
  have he : P.elem t = 5 := by simp [Program.elem, ht]
  have ht' : P.underlying t = some (.slice (P.elem t)) := by rw [he]; exact ht
  have hs : (sizeOf 5).run P w = .ok 1 w := by rw [run_sizeOf w hi]; simp [Program.cellsOf, hi, hsz]
  have hr := run_slice_l (P := P) (w := w) (a := none) (len := 0) (cap := 0) (t := t) ht' .i64 ((0 : Nat) : Int) (by omega) (by omega)
  rw [he, hs] at hr
  simp only [Result.andThen, Int.toNat_natCast] at hr
  have hv : sliced none 0 0 0 1 = .slice none 0 0 := rfl
  rw [hv] at hr
  unfold Oper.wp
  simp only [Int.natCast_zero] at hr hl
  simp [execOp, ho, hx, hl, hr, Result.andThen, run_sliceAt_slice (P := P) (w := w) t _ _ _ _ ht']
  exact hK' _ _ (hk _ B)
 | some p =>
  rcases Nat.eq_zero_or_pos len with h0 | h0
  ·subst h0
   obtain rfl : k = 0 := by omega
   have hb : bs = [] := List.eq_nil_of_length_eq_zero B.row.len_eq
   subst hb hK
   refine wpList_plain hg fun K' hK' => ?_
   have he : P.elem t = 5 := by simp [Program.elem, ht]
   have ht' : P.underlying t = some (.slice (P.elem t)) := by rw [he]; exact ht
   have hs : (sizeOf 5).run P w = .ok 1 w := by rw [run_sizeOf w hi]; simp [Program.cellsOf, hi, hsz]
   have hr := run_slice_l (P := P) (w := w) (a := some p) (len := 0) (cap := cap) (t := t) ht' .i64 ((0 : Nat) : Int) (by omega) (by omega)
   rw [he, hs] at hr
   simp only [Result.andThen, Int.toNat_natCast] at hr
   have hv : ∃ p', sliced (some p) 0 0 cap 1 = .slice (some p') 0 cap := by
    unfold sliced
    split
    ·exact ⟨_, rfl⟩
    ·exact ⟨_, rfl⟩
   obtain ⟨p', hv⟩ := hv
   rw [hv] at hr
   unfold Oper.wp
   simp only [Int.natCast_zero] at hr hl
   simp [execOp, ho, hx, hl, hr, Result.andThen, run_sliceAt_slice (P := P) (w := w) t _ _ _ _ ht']
   exact hK' _ _ (hk _ ⟨Row.none0 _, (fun e => by cases e), B.nc, B.cm⟩)
  ·obtain ⟨b, off, e, _⟩ := B.row.cells h0
   injection e with e
   subst e
   refine wpList_low8 hg x l t ho ht i hi hsz b off len cap k K hx hl hK h1 B.nc fun o' ho' => hk _ ⟨?_, (fun e => by cases e), (by have := B.nc; omega), (by have := B.cm; omega)⟩
   have := B.row.piece k (len - k) o' (by omega) (fun h => ho' (by omega))
   rw [e2] at this
   exact this
theorem bcs_zero (bs : List Int) : bcs bs 0 = List.replicate bs.length (.int .i64 0) := by
 rw [List.eq_replicate_iff]
 refine ⟨bcs_len _ _, fun v hv => ?_⟩
 unfold bcs at hv
 rw [List.mem_map] at hv
 obtain ⟨s, _, rfl⟩ := hv
 rfl
/-- the walk's state: the chains of the places ahead of p, the sequences so far -/
structure Sx (w W : World) (g gb : Nat) (bs : List Int) (v : Value) (ss : List SqV) (qs : List Sq) (p : Nat) : Prop where
 chn : Chn W g gb bs p
 own : W.ownsRow w.heap.size 116 3 v ss.length (sqv ss)
 sq : Sqs w ss qs
 gr : w.grownBy W none
 lg : w.heap.size ≤ g
 lb : w.heap.size ≤ gb
theorem Sx.drew {w W : World} {g gb : Nat} {bs : List Int} {v : Value} {ss : List SqV} {qs : List Sq} {p : Nat} (h : Sx w W g gb bs v ss qs p) (n : Nat) : Sx w (W.drewN n) g gb bs v ss qs p :=
 ⟨h.chn.kept (grown_drewN5 (World.grownBy.refl _ _) n), h.own.kept (grown_drewN5 (World.grownBy.refl _ _) n) (by cases v.ownBlock <;> simp), h.sq, grown_drewN5 h.gr n, h.lg, h.lb⟩
theorem Sx.two {w W W' : World} {g gb : Nat} {bs : List Int} {v : Value} {ss : List SqV} {qs : List Sq} {p p' : Nat} (h : Sx w W g gb bs v ss qs p) (c : Chn W' g gb bs p') (t : Two g gb W W') : Sx w W' g gb bs v ss qs p' := by
 obtain ⟨W1, t1, t2⟩ := t
 have n1 := own_box h.own h.chn.bf (by decide)
 have n2 := own_box h.own h.chn.hd (by decide)
 exact ⟨c, (h.own.kept t1 (Or.inr n1.symm)).kept t2 (Or.inr n2.symm), h.sq, grown_new (grown_new h.gr t1 h.lb) t2 h.lg, h.lg, h.lb⟩
theorem Sx.app {w W W' : World} {g gb : Nat} {bs : List Int} {v v' : Value} {ss : List SqV} {qs : List Sq} {p : Nat} {s : SqV} {q : Sq} (h : Sx w W g gb bs v ss qs p) (S : SqOk w s q) (o : W'.ownsRow w.heap.size 116 3 v' (ss.length + 1) (sqv ss ++ s.cells)) (k : W.grownBy W' v.ownBlock) : Sx w W' g gb bs v' (ss ++ [s]) (qs ++ [q]) p := by
 have n1 := own_box h.own h.chn.bf (by decide)
 have n2 := own_box h.own h.chn.hd (by decide)
 exact ⟨⟨h.chn.hd.kept k n2, h.chn.bf.kept k n1⟩, by rw [sqv_append, List.length_append]; simpa [sqv] using o, .snoc h.sq S, grown_own h.gr h.own k (Nat.le_refl _), h.lg, h.lb⟩
theorem Sx.keep {w W W' : World} {g gb : Nat} {bs : List Int} {v : Value} {ss : List SqV} {qs : List Sq} {p : Nat} (h : Sx w W g gb bs v ss qs p) (k : W.grownBy W' none) : Sx w W' g gb bs v ss qs p :=
 ⟨h.chn.kept k, h.own.kept k (by cases v.ownBlock <;> simp), h.sq, grown_trans h.gr k, h.lg, h.lb⟩
theorem Try.info3x : (Try.prog.info? 3).map (fun i => (i.zero, i.size, i.bytes)) = some (some (.int .i64 0), 1, 8) := by kernel_rfl
def SqPost (w : World) (qs : List Sq) (e : Ending) (w' : World) : Prop := ∃ a n c ss, e = .returned (.slice a n c) ∧ SRow w' a n ss ∧ Sqs w ss qs ∧ w.grownBy w' none
set_option maxRecDepth 4000 in
set_option maxHeartbeats 2000000 in
theorem sequences_any (a : Option Addr) (len cap : Nat) (bs : List Int) (w : World) (B : Byte w a len cap bs) (hl : len ≤ 1048576) :
  Calls Try.prog 67 #[.slice a len cap] w (SqPost w (enc bs)) := by
 obtain ⟨i5, hi, hz0, hz1, hz2⟩ := info_parts Try.info5
 obtain ⟨i6, hi6, hy0, hy1, hy2⟩ := info_parts Try.infoSeq
 obtain ⟨i3, hi3, hx0, hx1, hx2⟩ := info_parts Try.info3x
 have hlb := B.row.len_eq
 obtain ⟨hz, hs⟩ := zero60 bs
 have hbu := built60 bs
 have HZ : Hid _ := hs
 have HBU : Hid _ := hbu
 have HB : Hid _ := B
 have HL : Hid _ := hlb
 have HS : Hid (enc bs = sqs bs (len + 1) 0 0) := by show enc bs = _; unfold enc; rw [hlb]
 generalize enc bs = res at *
 clear B hbu hs hlb
 go_enter Try.func67, Try.ntmps67
 go_wp2_with (at_make; refine wpList_makeI _ rfl _ _ 127 rfl i3 Try.underlying127 hi3 hx0 hx1 hx2 _ _ _ _ len rfl rfl rfl rfl (by omega) ?_)
 intro w1 b1 g1 s1
 have H2 : Hid ((w1.alloc (.cells (hcs bs 0 ++ [Value.slice none 0 0]).toArray 130)).heap[w1.heap.size]? = some (.cells (hcs bs 0 ++ [Value.slice none 0 0]).toArray 130 (0, 0))) := heap_alloc_new _ _
 have HI : Hid ((Try.prog.info? 130).map (·.size) = some (hcs bs 0 ++ [Value.slice (some ⟨w.heap.size, 0, none⟩) len len]).toArray.size) := by show _ = _; rw [chn_size]; exact HZ.out
 have HO : Hid ((hcs bs 0 ++ [Value.slice none 0 0]).toArray.size = (hcs bs 0 ++ [Value.slice (some ⟨w.heap.size, 0, none⟩) len len]).toArray.size) := by show _ = _; rw [chn_size, chn_size]
 have HN : Hid ((hcs bs 0 ++ [Value.slice (some ⟨w.heap.size, 0, none⟩) len len]).toArray.all (·.oneCell') = true) := chn_one bs _ rfl
 have ga : w1.grownBy ((w1.alloc (.cells (hcs bs 0 ++ [Value.slice none 0 0]).toArray 130)).setRow w1.heap.size (hcs bs 0 ++ [Value.slice (some ⟨w.heap.size, 0, none⟩) len len]).toArray) none := by
  refine ⟨rfl, rfl, rfl, by simp, fun k hk _ => ?_⟩
  rw [setRow_other _ _ _ _ (by omega)]
  exact (World.grownBy_alloc w1 (.cells (hcs bs 0 ++ [Value.slice none 0 0]).toArray 130) none).block k hk (by simp)
 have HX : Hid (Sx w ((w1.alloc (.cells (hcs bs 0 ++ [Value.slice none 0 0]).toArray 130)).setRow w1.heap.size (hcs bs 0 ++ [Value.slice (some ⟨w.heap.size, 0, none⟩) len len]).toArray) w1.heap.size w.heap.size bs (.slice none 0 0) [] [] 0) := by
  refine ⟨⟨⟨?_⟩, ?_⟩, World.ownsRow_nil _ _ _ _, .nil, grown_trans g1 ga, by omega, Nat.le_refl _⟩
  ·rw [setRow_heap _ _ _ _ _ _ H2.out, HL.out]
  ·rw [bcs_zero, HL.out]; exact b1.kept ga (by simp)
 clear b1 g1 s1 ga HZ HL
 go_wp2_with (first | (with_reducible refine build_here ?_; refine wpList_build1 rfl _ _ _ rfl (.slice (some ⟨w.heap.size, 0, none⟩) len len) rfl _ (HBU.out _ rfl) ?_) | (with_reducible refine store_here ?_; refine wpList_store_row rfl 130 _ _ rfl w1.heap.size _ rfl rfl 130 _ H2.out HI.out HO.out HN.out ?_))
 clear H2 HI HO HN HBU hz
 generalize (w1.alloc (.cells (hcs bs 0 ++ [Value.slice none 0 0]).toArray 130)).setRow w1.heap.size (hcs bs 0 ++ [Value.slice (some ⟨w.heap.size, 0, none⟩) len len]).toArray = W0 at *
 generalize w1.heap.size = g at *
 have HG : Hid (∃ gb, Sx w W0 g gb bs (.slice none 0 0) [] [] 0) := ⟨_, HX.out⟩
 clear HX
 obtain ⟨gb, hx⟩ := HG.out
 have HX : Hid _ := hx
 clear hx HG
 go_loopw [3, 5, 6, 7, 8] (fun vl vt va _ _ wr => ∃ (ss : List SqV) (qs : List Sq) (told p f : Nat), vt = .int .i64 told ∧ va = .int .i64 p ∧ told ≤ p ∧ p ≤ len ∧ ss.length ≤ p ∧ Hid (len + 1 ≤ f + p) ∧ Hid (Sx w wr g gb bs vl ss qs p) ∧ Hid (res = qs ++ sqs bs f told p)) (fun _ _ va _ _ _ => len + 1 - (intOf va).toNat)
 case atStart => exact ⟨[], [], 0, 0, len + 1, rfl, rfl, Nat.le_refl _, Nat.zero_le _, Nat.le_refl _, (by show len + 1 ≤ len + 1 + 0; omega), HX.out, HS.out⟩
 case round =>
  clear HS HX
  obtain ⟨ss, qs, told, p, f, rfl, rfl, htp, hpl, hsp, HF, HX, HS⟩ := hrel
  by_cases k1 : p + 12 ≤ len
  ·obtain ⟨b, off, rfl, _⟩ := HB.out.row.cells (by omega)
   obtain ⟨f, rfl⟩ : ∃ f', f = f' + 1 := ⟨f - 1, by have := HF.out; omega⟩
   have hlo := longest_any g gb b off len cap bs p wr (HB.out.row.grown HX.out.gr) HX.out.chn k1 hl HB.out.nc HB.out.cm
   have hok := lng6_ok bs p (by rw [HB.out.row.len_eq]; exact k1)
   have he := HS.out
   rw [sqs, HB.out.row.len_eq, if_pos k1] at he
   generalize lng6 bs p = r at *
   obtain ⟨ro, rn⟩ := r
   simp only at hlo hok he
   have HE : Hid _ := he
   have HOK : Hid _ := hok
   clear he hok HS
   go_wp2_with fail
   refine hlo.mono ?_
   rintro e W1 ⟨rfl, m, rfl⟩
   have HX1 := HX.out.drew m
   generalize wr.drewN m = W1 at *
   have HX : Hid _ := HX1
   clear HX1 hlo
   simp only
   by_cases k2 : 0 < rn
   ·have hgd : Gd bs p ro rn := by
     rcases HOK.out with h | h
     ·omega
     ·exact h
    have hb1 := hgd.go
    have hb2 := hgd.gn
    rw [HB.out.row.len_eq] at hb2
    have he := HE.out
    rw [if_pos k2, ← List.singleton_append, ← List.append_assoc] at he
    have HE2 : Hid _ := he
    have d1 : (0 : Int) < (rn : Int) := by omega
    clear he HE HOK hgd
    go_wp2_with (with_reducible refine slice_here ?_; refine wpList_cut8 rfl _ _ _ 22 rfl Try.underlying22 i5 hi hz1 b off len cap told (p - told) _ _ rfl rfl rfl (by go_num) (by go_num) (by have := HB.out.nc; omega) ?_)
    intro o' ho'
    have hok : SqOk w ⟨some ⟨b, o', none⟩, p - told, cap - told, ro, rn⟩ ((bs.drop told).take (p - told), ro, rn) := ⟨HB.out.row.piece told (p - told) o' (by omega) ho', rfl, rfl, (fun e => by cases e), (by have := HB.out.nc; show p - told ≤ cap - told; omega), (by have := HB.out.cm; show cap - told ≤ maxLen; omega)⟩
    have hX := HX.out.keep (World.grownBy_alloc _ (.cells #[.slice (some ⟨b, o', none⟩) (p - told) (cap - told), .int .i64 ro, .int .i64 rn] 116) none)
    have hol := hX.own
    have hsz := hX.gr.size
    have hc1 : (ss.length + 1) * 40 ≤ 140737488355328 := by omega
    have hc2 : ss.length + 1 ≤ maxLen := by unfold maxLen; omega
    have HN : Hid (∀ j u, (SqV.cells ⟨some ⟨b, o', none⟩, p - told, cap - told, ro, rn⟩)[j]? = some u → (W1.alloc (.cells #[.slice (some ⟨b, o', none⟩) (p - told) (cap - told), .int .i64 ro, .int .i64 rn] 116)).cell? ((⟨W1.heap.size, 0, none⟩ : Addr).add j) = some u) := fun j u h => cell_three W1 116 _ _ _ j u h
    have HOK : Hid _ := hok
    have HXX : Hid _ := hX
    clear hok hX ho'
    go_wp2_with (at_builtin; (refine wpList_append_own _ rfl _ _ 96 rfl w.heap.size 116 i6 _ 3 40 Try.underlying96 hi6 hy0 hy1 hy2 rfl (by decide) _ ss.length (sqv ss) rfl hol ⟨W1.heap.size, 0, none⟩ 1 1 (SqV.cells ⟨some ⟨b, o', none⟩, p - told, cap - told, ro, rn⟩) rfl rfl HN.out (sq_one _) hc2 hc1 hsz ?_))
    intro VL w4 o4 g4 _
    have hF := HXX.out.app HOK.out o4 g4
    have HX2 : Hid _ := hF
    have hss : (ss ++ [(⟨some ⟨b, o', none⟩, p - told, cap - told, ro, rn⟩ : SqV)]).length ≤ p + 1 := by simp; exact hsp
    generalize ss ++ [(⟨some ⟨b, o', none⟩, p - told, cap - told, ro, rn⟩ : SqV)] = ss2 at *
    generalize qs ++ [((bs.drop told).take (p - told), (ro : Int), (rn : Int))] = qs2 at *
    have HSS : Hid _ := hss
    clear o4 g4 hF hol HN HOK HXX hsz HX hss hc1 hc2
    go_wp2
    go_loopw [6, 41] (fun va vi wr => ∃ (j : Nat), vi = .int .i64 j ∧ va = .int .i64 ((p + j : Nat) : Int) ∧ j ≤ rn ∧ Hid (Sx w wr g gb bs VL ss2 qs2 (p + j))) (fun _ vi _ => rn - (intOf vi).toNat)
    case atStart => exact ⟨0, rfl, rfl, Nat.zero_le _, HX2.out⟩
    case round =>
     clear HX2
     obtain ⟨j, rfl, rfl, hj, HY⟩ := hrel
     by_cases c1 : j < rn
     ·have hen := enter_any g gb b off len cap bs (p + j) wr (HB.out.row.grown HY.out.gr) HY.out.chn (by omega) HB.out.nc HB.out.cm
      have c2 : (j : Int) < (rn : Int) := by omega
      have c3 : ((p + j : Nat) : Int) + 1 ≤ 9223372036854775807 := by omega
      go_wp2_with fail
      refine hen.mono ?_
      rintro e W2 ⟨rfl, C2, T2⟩
      have HY2 : Hid (Sx w W2 g gb bs VL ss2 qs2 (p + (j + 1))) := HY.out.two C2 T2
      clear hen C2 T2 HY
      go_wp2
      go_roundw
      case rel => exact ⟨j + 1, by go_num, by go_num, by omega, HY2⟩
      case measure => simp [intOf]; omega
     ·obtain rfl : j = rn := by omega
      go_wp2
      go_roundw
      case rel => exact ⟨_, _, p + j, p + j, f, by go_num, by go_num, by omega, by omega, (by have := HSS.out; omega), (by have := HF.out; show len + 1 ≤ f + (p + j); omega), HY, HE2⟩
      case measure => simp [intOf]; omega
   ·obtain rfl : rn = 0 := by omega
    have he := HE.out
    rw [if_neg (by omega)] at he
    have HE2 : Hid _ := he
    have HX2 : Hid _ := HX.out
    clear he HE HOK k2 HX
    generalize hVL : u3 = VL at *
    clear hVL
    go_wp2
    rw [decide_eq_true (show (p : Int) ≤ (len : Int) - 12 by omega)]
    go_loopw [6, 41] (fun va vi wr => ∃ (j : Nat), vi = .int .i64 j ∧ va = .int .i64 ((p : Int) + j) ∧ Hid (j ≤ 1 ∧ Sx w wr g gb bs VL ss qs (p + j))) (fun _ vi _ => 1 - (intOf vi).toNat)
    case atStart => exact ⟨0, rfl, by go_num, Nat.zero_le _, HX2.out⟩
    case round =>
     clear HX2
     obtain ⟨j, rfl, rfl, HY⟩ := hrel
     by_cases c1 : j = 0
     ·subst c1
      have hen := enter_any g gb b off len cap bs p wr (HB.out.row.grown HY.out.2.gr) HY.out.2.chn (by omega) HB.out.nc HB.out.cm
      simp only [Int.natCast_zero, Int.add_zero]
      go_wp2_with fail
      refine hen.mono ?_
      rintro e W2 ⟨rfl, C2, T2⟩
      have HY2 : Hid (1 ≤ 1 ∧ Sx w W2 g gb bs VL ss qs (p + 1)) := ⟨Nat.le_refl _, HY.out.2.two C2 T2⟩
      clear hen C2 T2 HY
      go_wp2
      go_roundw
      case rel => exact ⟨1, by go_num, by go_num, HY2⟩
      case measure => simp [intOf]
     ·obtain rfl : j = 1 := by have := HY.out.1; omega
      simp only [Int.natCast_one]
      go_wp2
      go_roundw
      case rel => exact ⟨_, _, told, p + 1, f, by go_num, by go_num, by omega, by omega, by omega, (by have := HF.out; show len + 1 ≤ f + (p + 1); omega), HY.out.2, HE2⟩
      case measure => simp [intOf]; omega
  ·have he : sqs bs f told p = [(bs.drop told, 0, 0)] := by
    have := HB.out.row.len_eq
    cases f with
    | zero => rfl
    | succ f => rw [sqs, if_neg (by omega)]
   have hs := HS.out
   rw [he] at hs
   have HE : Hid _ := hs
   clear hs he HS HF
   have htl : told ≤ len := by omega
   go_wp2_with (with_reducible refine low_here ?_; refine wpList_lowR rfl _ _ 22 rfl Try.underlying22 i5 hi hz1 w a len cap told bs _ rfl rfl rfl HB.out htl ?_)
   intro ad' HA
   have hok : SqOk w ⟨ad', len - told, cap - told, 0, 0⟩ (bs.drop told, 0, 0) := ⟨HA.out.row, rfl, rfl, HA.out.nil, HA.out.nc, HA.out.cm⟩
   have hX := HX.out.keep (World.grownBy_alloc _ (.cells #[.slice ad' (len - told) (cap - told), .int .i64 0, .int .i64 0] 116) none)
   have hol := hX.own
   have hsz := hX.gr.size
   have hb1 : (ss.length + 1) * 40 ≤ 140737488355328 := by omega
   have hb2 : ss.length + 1 ≤ maxLen := by unfold maxLen; omega
   have HN : Hid (∀ j u, (SqV.cells ⟨ad', len - told, cap - told, 0, 0⟩)[j]? = some u → (wr.alloc (.cells #[.slice ad' (len - told) (cap - told), .int .i64 0, .int .i64 0] 116)).cell? ((⟨wr.heap.size, 0, none⟩ : Addr).add j) = some u) := fun j u h => cell_three wr 116 _ _ _ j u h
   have HOK : Hid _ := hok
   have HXX : Hid _ := hX
   clear hok hX
   go_wp2_with (at_builtin; (refine wpList_append_own _ rfl _ _ 96 rfl w.heap.size 116 i6 _ 3 40 Try.underlying96 hi6 hy0 hy1 hy2 rfl (by decide) _ ss.length (sqv ss) rfl hol ⟨wr.heap.size, 0, none⟩ 1 1 (SqV.cells ⟨ad', len - told, cap - told, 0, 0⟩) rfl rfl HN.out (sq_one _) hb2 hb1 hsz ?_))
   intro v2 w4 o4 g4 _
   have hF := HXX.out.app HOK.out o4 g4
   obtain ⟨a2, c2, rfl, R2⟩ := owns_srow hF.own (by rw [List.length_append]; simpa using hb2)
   have HF : Hid (SqPost w res (.returned (.slice a2 (ss ++ [(⟨ad', len - told, cap - told, 0, 0⟩ : SqV)]).length c2)) w4) := ⟨_, _, _, _, rfl, R2, by rw [HE.out]; exact hF.sq, hF.gr⟩
   clear o4 g4 hF R2 hol HN HOK HXX hsz
   go_wp2
   go_ret
   exact HF.out
def BigPost (w : World) (len : Nat) (qs : List Sq) (e : Ending) (w' : World) : Prop := ∃ b, e = .returned (.bool b) ∧ w' = w ∧ (b = true ∨ (b = false ∧ len ≤ 300 ∧ ∀ q ∈ qs, q.1.length ≤ 3000))
theorem jon_ok (qs : List Sq) (size : Int) (b : List Int) (h : Jok qs size) : jon qs size b = (b ++ jcat qs, 0) := by
 induction qs generalizing size b with
 | nil => simp [jon, jcat]
 | cons q r ih =>
  rw [jon, if_pos h.1, ih _ _ h.2]
  simp [jcat]
theorem join_ok {qs : List Sq} (hne : qs ≠ []) (h : Jok qs 0) : join qs = (jcat qs, 0) := by
 unfold join
 rw [if_neg (by rw [List.isEmpty_iff]; exact hne), jon_ok _ _ _ h]
 simp
theorem join_bad {qs : List Sq} (h : (join qs).2 = 0) : qs ≠ [] ∧ Jok qs 0 ∧ join qs = (jcat qs, 0) := by
 unfold join at h ⊢
 split at h
 ·simp at h
 ·rename_i hne
  rw [if_neg hne]
  rcases jon_split qs 0 [] with ⟨e, k⟩ | ⟨k, _⟩
  ·refine ⟨fun e0 => ?_, k, by simpa using e⟩
   rw [e0] at hne; simp at hne
  ·exact absurd h k
theorem jok_mod {qs : List Sq} {size : Int} (h0 : 0 ≤ size) (h : Jok qs size) : ∀ q ∈ qs, Bnd q ∧ q.1.length ≤ 1048576 := by
 induction qs generalizing size with
 | nil => intro q hq; cases hq
 | cons x r ih =>
  obtain ⟨h1, h2⟩ := h
  have hf := jerr_facts h0 h1
  intro q hq
  rcases List.mem_cons.1 hq with rfl | hq
  ·refine ⟨⟨?_, by omega⟩, hf.1.1⟩
   generalize r.isEmpty = l at h1
   cases l with
   | true => have := jerr_last h1; omega
   | false => have := jerr_more h1; omega
  ·exact ih hf.2 h2 q hq
theorem tol_le3 (n : Nat) : (tol n).length ≤ n := by
 unfold tol
 split
 ·simp
 ·simp; omega
theorem jcat_le {qs : List Sq} {size : Int} (h0 : 0 ≤ size) (h1 : size ≤ 1048576) (h : Jok qs size) : ((jcat qs).length : Int) ≤ 3 * qs.length + 2 * (1048576 - size) := by
 induction qs generalizing size with
 | nil => simp [jcat]; omega
 | cons x r ih =>
  obtain ⟨h2, h3⟩ := h
  have hf := jerr_facts h0 h2
  have t1 := tol_le3 x.1.length
  simp only [jcat, List.length_append, List.length_cons]
  generalize r.isEmpty = l at h2
  cases l with
  | true =>
   have hl := jerr_last h2
   have := ih hf.2 (by omega) h3
   have e : (jbytes true x).length = 1 + (tol x.1.length).length + x.1.length := by unfold jbytes; simp; omega
   omega
  | false =>
   have hl := jerr_more h2
   have := ih hf.2 (by omega) h3
   obtain ⟨m, hm⟩ := Int.eq_ofNat_of_zero_le (by omega : 0 ≤ x.2.2 - 4)
   have t2 := tol_le3 m
   have e : (jbytes false x).length = 3 + (tol x.1.length).length + x.1.length + (tol (x.2.2 - 4)).length := by unfold jbytes; simp; omega
   rw [hm] at e
   omega
theorem owns_base {w : World} {b b' e s n : Nat} {v : Value} {xs : List Value} (h : w.ownsRow b e s v n xs) (hb : b' ≤ b) : w.ownsRow b' e s v n xs := by
 refine ⟨h.1, ?_⟩
 rcases h.2 with h | ⟨g, cap, cur, h1, h2, h3⟩
 ·exact Or.inl h
 ·exact Or.inr ⟨g, cap, cur, h1, by omega, h3⟩
theorem eql_nil (p : Addr) (n c : Nat) (W : World) : (binOp .eql 22 (.slice (some p) n c) (.slice none 0 0)).run Try.prog W = .ok (.bool false) W := by kernel_rfl
theorem eql_nil0 (c : Nat) (W : World) : (binOp .eql 22 (.slice none 0 c) (.slice none 0 0)).run Try.prog W = .ok (.bool true) W := by kernel_rfl
set_option maxHeartbeats 1000000 in
theorem clone_any (a : Option Addr) (n c : Nat) (xs : List Int) (w : World) (B : Byte w a n c xs) (hn : n ≤ 16777216) :
  Calls Try.prog 56 #[.slice a n c] w fun e w' => ∃ v, e = .returned v ∧ w'.ownsRow 0 5 1 v n (bv xs) ∧ w.grownBy w' none := by
 obtain ⟨i5, hi, hz0, hz1, hz2⟩ := info_parts Try.info5
 cases a with
 | none =>
  obtain rfl : n = 0 := by
   rcases Nat.eq_zero_or_pos n with h | h
   ·exact h
   ·obtain ⟨_, _, e, _⟩ := B.row.cells h; cases e
  obtain rfl : xs = [] := List.eq_nil_of_length_eq_zero B.row.len_eq
  have hen := eql_nil0 c
  go_enter Try.func56, Try.ntmps56
  go_wp2
  go_ret
  exact ⟨_, rfl, World.ownsRow_nil _ _ _ _, World.grownBy.refl _ _⟩
 | some p =>
  have O0 := World.ownsRow_made (base := w.heap.size) (e := 5) (size := 1) w #[] 0 (Nat.le_refl _) (Nat.zero_le _) (by simp)
  have R0 := B.row.grown (World.grownBy_alloc w (.cells #[] 5) none)
  have HB : Hid _ := B
  have hen := eql_nil p n c
  clear B
  go_enter Try.func56, Try.ntmps56
  go_wp2_with (at_builtin; refine wpList_append8 rfl _ _ 22 rfl w.heap.size i5 Try.underlying22 hi hz0 hz1 hz2 _ 0 [] rfl O0 _ n c _ rfl R0 HB.out.nil (by omega) (by simp) ?_)
  intro v1 w1 o1 g1
  have G1 : w.grownBy w1 none := grown_own (World.grownBy_alloc w (.cells #[] 5) none) O0 g1 (Nat.le_refl _)
  have H1 : Hid (w1.ownsRow 0 5 1 v1 n (bv xs) ∧ w.grownBy w1 none) := ⟨owns_base (by simpa using o1) (Nat.zero_le _), G1⟩
  clear O0 R0 o1 g1 G1
  go_wp2
  go_ret
  exact ⟨_, rfl, H1.out.1, H1.out.2⟩

/-- sequences whose literals are copies -/
structure SqO (w : World) (s : SqV) (q : Sq) : Prop where
 own : w.ownsRow 0 5 1 (.slice s.a s.n s.c) s.n (bv q.1)
 byt : Byt q.1
 off : s.off = q.2.1
 m : s.m = q.2.2
 le : s.n ≤ 16777216
def SqsO (w : World) (ss : List SqV) (qs : List Sq) : Prop := ss.length = qs.length ∧ ∀ (i : Nat) (s : SqV) (q : Sq), ss[i]? = some s → qs[i]? = some q → SqO w s q
theorem SqsO.nil {w : World} : SqsO w [] [] := ⟨rfl, fun i s q h => by simp at h⟩
theorem SqsO.snoc {w : World} {ss : List SqV} {qs : List Sq} {s : SqV} {q : Sq} (h : SqsO w ss qs) (k : SqO w s q) : SqsO w (ss ++ [s]) (qs ++ [q]) := by
 refine ⟨by simp [h.1], fun i s' q' h1 h2 => ?_⟩
 rcases get_snoc h1 with h1 | ⟨e1, rfl⟩
 ·rcases get_snoc h2 with h2 | ⟨e2, rfl⟩
  ·exact h.2 i s' q' h1 h2
  ·have := (List.getElem?_eq_some_iff.1 h1).1
   have := h.1
   omega
 ·rcases get_snoc h2 with h2 | ⟨e2, rfl⟩
  ·have := (List.getElem?_eq_some_iff.1 h2).1
   have := h.1
   omega
  ·exact k
theorem SqsO.map {w w' : World} {ss : List SqV} {qs : List Sq} (h : SqsO w ss qs) (k : ∀ v n xs, w.ownsRow 0 5 1 v n xs → w'.ownsRow 0 5 1 v n xs) : SqsO w' ss qs :=
 ⟨h.1, fun i s q h1 h2 => by have j := h.2 i s q h1 h2; exact ⟨k _ _ _ j.own, j.byt, j.off, j.m, j.le⟩⟩
theorem SqsO.sqs {w : World} {ss : List SqV} {qs : List Sq} (h : SqsO w ss qs) : Sqs w ss qs := by
 refine ⟨h.1, fun i s q h1 h2 => ?_⟩
 have j := h.2 i s q h1 h2
 obtain ⟨a, c, e, B⟩ := byte_own j.own j.byt (by have := j.le; unfold maxLen; omega)
 injection e with e1 e2 e3
 rw [← e1, ← e3] at B
 exact ⟨B.row, j.off, j.m, B.nil, B.nc, B.cm⟩
structure Sc (w0 : World) (gc : Nat) (sq : List Sq) (ss : List SqV) (v : Value) (W : World) : Prop where
 grown : w0.grownBy W none
 bx : Box W gc 96 [v]
 own : W.ownsRow w0.heap.size 116 3 v ss.length (sqv ss)
 sqs : SqsO W ss sq
 lc : w0.heap.size ≤ gc
theorem Sc.keep {w0 W W' : World} {gc : Nat} {sq : List Sq} {ss : List SqV} {v : Value} (h : Sc w0 gc sq ss v W) (hg : W.grownBy W' none) : Sc w0 gc sq ss v W' :=
 ⟨grown_trans h.grown hg, h.bx.kept hg (by simp), h.own.kept hg (by cases v.ownBlock <;> simp), h.sqs.map (fun v n xs k => k.kept hg (by cases v.ownBlock <;> simp)), h.lc⟩

theorem sqsO_len {w : World} {ss : List SqV} {qs : List Sq} (h : SqsO w ss qs) : ss.length = qs.length := h.1
theorem dec_seqs (bs : List Int) (most : Int) (f : Nat) (out : List Int) (sq : List Sq) (p : Nat) : (dec bs most f out sq p).2.1.length ≤ sq.length + f := by
 induction f generalizing out sq p with
 | zero => rw [dec]; simp
 | succ f ih =>
  rw [dec]
  split
  ·simp
  ·simp only [List.length_append, List.length_cons, List.length_nil]; omega
  ·refine Nat.le_trans (ih _ _ _) ?_
   simp only [List.length_append, List.length_cons, List.length_nil]; omega
def PCut (w : World) (r : List Int × List Sq × Int × Int) (e : Ending) (w' : World) : Prop :=
 ∃ a n c ss, e = .returned (.tuple #[.slice a n c, .int .i64 r.2.2.1, .int .i64 r.2.2.2]) ∧ SRow w' a n ss ∧ SqsO w' ss r.2.1 ∧ (a = none → c = 0) ∧ w.grownBy w' none
theorem pcut_none {w w' : World} {er p : Int} (h : w.grownBy w' none) : PCut w ([], [], er, p) (.returned (.tuple #[.slice none 0 0, .int .i64 er, .int .i64 p])) w' :=
 ⟨none, 0, 0, [], rfl, ⟨rfl, Nat.zero_le _, fun h => by omega⟩, .nil, fun _ => rfl, h⟩
def PDecN (w : World) (r : List Int × List Sq × Int × Int) (e : Ending) (w' : World) : Prop :=
 ∃ a n c, e = .returned (.tuple #[.slice a n c, .int .i64 r.2.2.1, .int .i64 r.2.2.2]) ∧ Byte w' a n c r.1 ∧ w.grownBy w' none ∧ w'.ownsRow w.heap.size 5 1 (.slice a n c) n (bv r.1)
theorem byte_noneN {w w' : World} {er p : Int} (h : w.grownBy w' none) : PDecN w ([], [], er, p) (.returned (.tuple #[.slice none 0 0, .int .i64 er, .int .i64 p])) w' :=
 ⟨none, 0, 0, rfl, ⟨Row.none0 _, fun _ => rfl, Nat.le_refl _, Nat.zero_le _⟩, h, World.ownsRow_nil _ _ _ _⟩
theorem owns_up {w : World} {b0 b e s n g o c : Nat} {xs : List Value} (h : w.ownsRow b0 e s (.slice (some ⟨g, o, none⟩) n c) n xs) (hb : b ≤ g) : w.ownsRow b e s (.slice (some ⟨g, o, none⟩) n c) n xs := by
 refine ⟨h.1, ?_⟩
 rcases h.2 with ⟨h, _⟩ | ⟨g', cap, cur, h1, h2, h3⟩
 ·cases h
 ·refine Or.inr ⟨g', cap, cur, h1, ?_, h3⟩
  injection h1 with h1
  injection h1 with h1
  injection h1 with h1
  omega
set_option maxHeartbeats 1000000 in
theorem pdecode_own (a : Option Addr) (len cap : Nat) (bs : List Int) (most : Int) (w : World) (R : Row w a len bs) (hl : len ≤ 16777216) (hc : len ≤ cap) (hcm : cap ≤ 9223372036854775807) (hmr : -9223372036854775808 ≤ most ∧ most ≤ 9223372036854775807) :
  Calls Try.prog 64 #[.slice a len cap, .int .i64 most] w (PDecN w (pdec bs most)) := by
 obtain ⟨i5, hi, hz0, hz1, hz2⟩ := info_parts Try.info5
 have hlb := R.len_eq
 by_cases hr : most < 0 ∨ 1048576 < most
 ·have e : pdec bs most = ([], [], 1, 0) := by unfold pdec; rw [if_pos hr]
  rw [e]
  rcases hr with hr | hr
  ·go_enter Try.func64, Try.ntmps64
   go_wp2
   go_returns
   exact byte_noneN (World.grownBy_alloc _ _ _)
  ·go_enter Try.func64, Try.ntmps64
   go_wp2
   go_returns
   exact byte_noneN (World.grownBy_alloc _ _ _)
 ·have e : pdec bs most = dec bs most (len + 1) [] [] 0 := by unfold pdec; rw [if_neg hr, hlb]
  rw [e]
  have G0 := World.grownBy_alloc w (.cells #[.slice none 0 0] 22) none
  have B0 := Box.new w 22 [.slice none 0 0]
  have hw1 := walk_any a len cap bs most 72 #[] _ (tk_pass (R.grown G0) most) (w.alloc (.cells #[.slice none 0 0] 22)) (World.grownBy.refl _ _) hl hc hcm (by omega)
  have hag := fun h0 => dec_again R.byt (M := most) (f := len + 1) h0 (by omega)
  have hkp := dec_keeps bs most (len + 1) [] [] 0 (by omega)
  have hnil := dec_nil bs most (len + 1) [] [] 0
  generalize dec bs most (len + 1) [] [] 0 = r at hw1 hag hkp hnil ⊢
  obtain ⟨ro, rs, re, rp⟩ := r
  simp only at hag hkp hnil
  have HA : Hid _ := And.intro hag hnil
  have hn : ro.length ≤ 1048576 := by omega
  clear hag hkp hnil e
  go_enter Try.func64, Try.ntmps64
  go_wp2_with fail
  refine hw1.mono ?_
  intro e w1 h1
  obtain ⟨rfl, _, _, _, g1⟩ := h1
  have B1 := B0.kept g1 (by simp)
  have c1 : w1.cell? ⟨w.heap.size, 0, none⟩ = some (.slice none 0 0) := B1.c 0
  have f1 := B1.f 0
  have G1 := grown_trans G0 g1
  simp only
  by_cases he : re = 0
  ·subst he
   have hmk := make0 hi hz0 hz1 hz2 ro.length hn
   have hlt1 : w.heap.size < w1.heap.size := B1.lt
   have B2 := (B1.set 0 (.slice (some ⟨w1.heap.size, 0, none⟩) 0 ro.length)).kept (World.grownBy_alloc _ (.cells (madeCells #[.int .u8 0] ro.length) 5) none) (by simp)
   have O2 := World.ownsRow_made (base := 0) (e := 5) (size := 1) (w1.setCell ⟨w.heap.size, 0, none⟩ (.slice (some ⟨w1.heap.size, 0, none⟩) 0 ro.length)) (madeCells #[.int .u8 0] ro.length) ro.length (Nat.zero_le _) (by unfold maxLen; omega) (by rw [size_madeCells, Nat.mul_one])
   rw [size_set] at O2
   have S0 : Sh w w.heap.size w1.heap.size ro.length [] ((w1.setCell ⟨w.heap.size, 0, none⟩ (.slice (some ⟨w1.heap.size, 0, none⟩) 0 ro.length)).alloc (.cells (madeCells #[.int .u8 0] ro.length) 5)) :=
    ⟨grown_trans (grown_new G1 (grown_set _ _ _ _) (Nat.le_refl _)) (World.grownBy_alloc _ _ _), B2, O2, fun x hx => by simp at hx, by omega, Nat.le_refl _, by omega⟩
   have hw2 := walk_any a len cap bs ro.length 73 #[.pointer (some ⟨w.heap.size, 0, none⟩)] _ (tk_dec1 R w.heap.size w1.heap.size ro.length hn) _ S0 hl hc hcm (by omega)
   rw [HA.out.1 rfl] at hw2
   have HS : Hid _ := And.intro G1 hw2
   clear hw2 B2 O2 S0 G1 hw1 B0 B1 G0 g1
   have hmf : ∀ (fn : Fn) (first cap : Array Value) (w : World), (Instr.makeFunc fn first cap).run Try.prog w = .ok (.func fn first cap) w := fun _ _ _ _ => rfl
   go_wp2_with fail
   refine HS.out.2.mono ?_
   intro e w2 h2
   obtain ⟨rfl, h2, _⟩ := h2
   have S2 : Sh w w.heap.size w1.heap.size ro.length ro w2 := h2 rfl
   have c2 : w2.cell? ⟨w.heap.size, 0, none⟩ = some (.slice (some ⟨w1.heap.size, 0, none⟩) ro.length ro.length) := S2.bx.c 0
   have f2 := S2.bx.f 0
   have B3 := S2.bx.set 0 (.slice (some ⟨w1.heap.size, 0, none⟩) ro.length ro.length)
   have cW : (w2.setCell ⟨w.heap.size, 0, none⟩ (.slice (some ⟨w1.heap.size, 0, none⟩) ro.length ro.length)).cell? ⟨w.heap.size, 0, none⟩ = some (.slice (some ⟨w1.heap.size, 0, none⟩) ro.length ro.length) := B3.c 0
   have gW := grown_new S2.grown (grown_set w2 w.heap.size 0 (.slice (some ⟨w1.heap.size, 0, none⟩) ro.length ro.length)) (Nat.le_refl _)
   have O3 := S2.ou.kept (grown_set w2 w.heap.size 0 (.slice (some ⟨w1.heap.size, 0, none⟩) ro.length ro.length)) (by intro e; injection e with e; omega)
   obtain ⟨a7, c7, e7, R7⟩ := owns_row O3 S2.byt (by unfold maxLen; omega)
   injection e7 with e7 e71 e72
   subst e7
   have ON := owns_up O3 (b := w.heap.size) (by omega)
   have HF : Hid _ := And.intro gW (And.intro R7 ON)
   clear S2 B3 gW O3 R7 ON HS h2 e71 e72 hmk hmf
   go_wp2
   try simp only [Exit.inBlock, Exit.then]
   refine bodyPost_ret (by simp [results, Try.results64, go_sem, cW]; try rfl) rfl ?_
   exact ⟨some ⟨w1.heap.size, 0, none⟩, ro.length, ro.length, rfl, ⟨HF.out.2.1, (fun e => by cases e), Nat.le_refl _, (by unfold maxLen; omega)⟩, HF.out.1, HF.out.2.2⟩
  ·obtain ⟨e1, e2⟩ := HA.out.2 he
   subst e1 e2
   have cW : (w1.setCell ⟨w.heap.size, 0, none⟩ (.slice none 0 0)).cell? ⟨w.heap.size, 0, none⟩ = some (.slice none 0 0) := (B1.set 0 (.slice none 0 0)).c 0
   have gW := grown_new G1 (grown_set w1 w.heap.size 0 (.slice none 0 0)) (Nat.le_refl _)
   clear hw1 B0 B1 G0 g1 HA
   go_wp2
   try simp only [Exit.inBlock, Exit.then]
   refine bodyPost_ret (by simp [results, Try.results64, go_sem, cW]; try rfl) rfl ?_
   exact byte_noneN gW
end Go.Proofs.Ytkkigpobhagnfaa
