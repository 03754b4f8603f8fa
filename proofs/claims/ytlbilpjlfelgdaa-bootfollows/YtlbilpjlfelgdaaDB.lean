/- A record's bytes. -/
import Derived.Test.YtlbilpjlfelgdaaDA
import Derived.Laws.OwnMore
namespace Go.Proofs.Ytlbilpjlfelgdaa
open Go.RowKit
set_option linter.unusedSimpArgs false
set_option linter.unusedVariables false

theorem Row.part {w : World} {b off len : Nat} {bs : List Int} (h : Row w (some ⟨b, off, none⟩) len bs) (at_ n : Nat) (hn : at_ + n ≤ len) : Row w (some ⟨b, off + at_, none⟩) n ((bs.drop at_).take n) := by
  refine ⟨by simp [h.len_eq]; omega, by have := h.le; omega, (h.byt.drop at_).take n, fun h0 => ⟨b, off + at_, rfl, fun i hi => ?_⟩⟩
  obtain ⟨b', off', e, hc⟩ := h.cells (by omega)
  injection e with e
  injection e with e1 e2
  subst e1 e2
  rw [Nat.add_assoc, hc (at_ + i) (by omega)]
  congr 2
  rw [List.getD_eq_getElem?_getD, List.getD_eq_getElem?_getD, List.getElem?_take, if_pos hi, List.getElem?_drop]
theorem Row.none0 {w : World} (a : Option Addr) : Row w a 0 [] := ⟨rfl, Nat.zero_le _, fun n hn => by simp at hn, fun h => by omega⟩
theorem Row.piece {w : World} {b off len : Nat} {bs : List Int} (h : Row w (some ⟨b, off, none⟩) len bs) (k n o' : Nat) (hn : k + n ≤ len) (ho : 0 < n → o' = off + k) : Row w (some ⟨b, o', none⟩) n ((bs.drop k).take n) := by
  rcases Nat.eq_zero_or_pos n with h0 | h0
  · subst h0; rw [List.take_zero]; exact Row.none0 _
  · rw [ho h0]; exact h.part k n hn
/-- what a call made: its bytes -/
theorem own_bytes {W : World} {base n : Nat} {v : Value} {bs : List Int} (h : W.ownsRow base 5 1 v n (bv bs)) (hb : Byt bs) (hl : n ≤ maxLen) : ∃ a c, v = .slice a n c ∧ Row W a n bs ∧ (a = none → c = 0) ∧ n ≤ c ∧ c ≤ maxLen := by
  have hn : bs.length = n := by have := h.1; rw [bv_length] at this; omega
  rcases h.2 with ⟨rfl, rfl⟩ | ⟨g, cap, cur, rfl, _, hg, hc, hm, hs, ht⟩
  · exact ⟨none, 0, rfl, ⟨hn, Nat.zero_le _, hb, fun h => by omega⟩, fun _ => rfl, Nat.le_refl _, Nat.zero_le _⟩
  · refine ⟨_, cap, rfl, ⟨hn, hl, hb, fun _ => ⟨g, 0, rfl, fun i hi => ?_⟩⟩, (fun e => by cases e), hc, hm⟩
    have e : W.cell? ⟨g, 0 + i, none⟩ = cur[i]? := by simp [World.cell?, hg]
    rw [e, ← bv_getElem? bs i (by omega), ← ht, List.getElem?_take, if_pos (by omega), Array.getElem?_toList]
theorem own_bx {W : World} {base e e' s n g : Nat} {v : Value} {xs cs : List Value} (h : W.ownsRow base e s v n xs) (h' : Bx W g e' cs) (hne : e ≠ e') : some g ≠ v.ownBlock := by
  intro k
  rcases h.2 with ⟨rfl, _⟩ | ⟨g', cap, cur, rfl, hb, hgg, _⟩
  · simp [Value.ownBlock] at k
  · simp [Value.ownBlock] at k
    subst k
    rw [h'.blk] at hgg
    injection hgg with e1
    injection e1 with e1 e2 e3
    exact hne e2.symm
/-- all bytes of a record but the last four -/
def rb0 (r : Rc) : List Int := [80, 77, 66, 49] ++ sto r.q 8 ++ [r.s, 0, 0, 0] ++ sto r.l 4 ++ sto r.u 8
def rby (r : Rc) : List Int := rb0 r ++ sto (crc ent 0 (rb0 r) : Nat) 4
theorem sto_len (n : Int) (k : Nat) : (sto n k).length = k := by
  induction k generalizing n with
  | zero => rfl
  | succ k ih => rw [sto_snoc, List.length_append, ih]; rfl
theorem rb0_len (r : Rc) : (rb0 r).length = 28 := by unfold rb0; simp [sto_len]
theorem rby_len (r : Rc) : (rby r).length = 32 := by unfold rby; rw [List.length_append, rb0_len, sto_len]
theorem rb0_byt {r : Rc} (h : rrt r = true) : Byt (rb0 r) := by
  have := rrt_iff.1 h
  unfold rb0
  refine (((Byt.append (Byt.append ?_ (sto_byt _ _)) ?_).append (sto_byt _ _)).append (sto_byt _ _))
  · intro x hx; simp at hx; omega
  · intro x hx; simp at hx; omega
theorem rby_byt {r : Rc} (h : rrt r = true) : Byt (rby r) := by unfold rby; exact (rb0_byt h).append (sto_byt _ _)
/-- bytes so far, and the record in its variable -/
structure By (w W : World) (gr : Nat) (r : Rc) (v : Value) (n : Nat) (xs : List Int) : Prop where
  bx : Bx W gr 24 [.int .u64 r.q, .int .i64 r.s, .int .i64 r.l, .int .u64 r.u]
  own : W.ownsRow w.heap.size 5 1 v n (bv xs)
  gr : w.grownBy W none
theorem By.keep {w W W' : World} {gr n : Nat} {r : Rc} {v : Value} {xs : List Int} (h : By w W gr r v n xs) (k : W.grownBy W' none) : By w W' gr r v n xs :=
  ⟨h.bx.kept k, h.own.kept k (by cases v.ownBlock <;> simp), grown_trans h.gr k⟩
theorem By.app {w W W' : World} {gr n m : Nat} {r : Rc} {v v' : Value} {xs ys : List Int} (h : By w W gr r v n xs) (o : W'.ownsRow w.heap.size 5 1 v' (n + m) (bv xs ++ bv ys)) (k : W.grownBy W' v.ownBlock) : By w W' gr r v' (n + m) (xs ++ ys) :=
  ⟨⟨by rw [k.block _ h.bx.lt (own_bx h.own h.bx (by decide))]; exact h.bx.blk⟩, by rw [bv_append]; exact o, grown_own h.gr h.own k (Nat.le_refl _)⟩
set_option maxHeartbeats 2000000 in
theorem rbytes_any (r : Rc) (w : World) (hr : rrt r = true) (hq : 0 ≤ r.q) (hu : inU r.u) :
    Calls Try.prog 12 #[r.val] w fun e w' => ∃ v, e = .returned v ∧ w'.ownsRow w.heap.size 5 1 v 32 (bv (rby r)) ∧ w.grownBy w' none := by
  obtain ⟨i5, hi, hz0, hz1, hz2⟩ := info_parts Try.info5
  have hrt := rrt_iff.1 hr
  have h1 := fun W => store_own r.q 8 W (by omega) hq (by omega)
  have h2 := fun W => store_own r.l 4 W (by omega) (by omega) (by omega)
  have h3 := fun W => store_own r.u 8 W (by omega) hu.1 hu.2
  have O0 := World.ownsRow_lit (base := w.heap.size) (e := 5) (size := 1) (w.alloc (.cells #[.int .u64 r.q, .int .i64 r.s, .int .i64 r.l, .int .u64 r.u] 24)) #[.int .u8 80, .int .u8 77, .int .u8 66, .int .u8 49] 4 (by simp) (by unfold maxLen; omega) rfl
  obtain ⟨q, s, l, u⟩ := r
  simp only [Rc.val] at *
  have H0 : Hid (By w ((w.alloc (.cells #[.int .u64 q, .int .i64 s, .int .i64 l, .int .u64 u] 24)).alloc (.cells #[.int .u8 80, .int .u8 77, .int .u8 66, .int .u8 49] 5)) w.heap.size ⟨q, s, l, u⟩ (.slice (some ⟨w.heap.size + 1, 0, none⟩) 4 4) 4 [80, 77, 66, 49]) := ⟨(Bx.new w 24 _).kept (World.grownBy_alloc _ _ none), by simpa [bv] using O0, grown_trans (World.grownBy_alloc _ _ none) (World.grownBy_alloc _ _ none)⟩
  obtain ⟨b0, b1, b2, b3⟩ := bx4 H0.out.bx
  have HB : Hid _ := rb0_byt hr
  have HB2 : Hid (Byt [s, 0, 0, 0]) := by intro x hx; simp at hx; omega
  clear O0 hr
  have hs8 : IntKind.u8.wrap s = s := by rw [IntKind.wrap_u8]; omega
  have hl64 : IntKind.u64.wrap l = l := by rw [IntKind.wrap_u64]; omega
  go_enter Try.func12, Try.ntmps12
  go_wp2_with fail
  refine (h1 _).mono ?_
  rintro e w1 ⟨x1, rfl, o1, g1⟩
  obtain ⟨a1, c1, rfl, R1, n1, _, _⟩ := own_bytes o1 (sto_byt _ _) (by unfold maxLen; omega)
  have H1 : Hid _ := H0.out.keep g1
  have HR1 : Hid _ := And.intro R1 n1
  clear o1 g1 R1 n1 H0 b0 b1 b2 b3
  obtain ⟨b0, b1, b2, b3⟩ := bx4 H1.out.bx
  simp only
  go_wp2_with (at_builtin; refine wpList_append8 rfl _ _ 25 rfl w.heap.size i5 Try.underlying25 hi hz0 hz1 hz2 _ 4 _ rfl H1.out.own _ 8 c1 (sto q 8) rfl HR1.out.1 HR1.out.2 (by omega) H1.out.gr.size ?_)
  intro x2 w2 o2 g2
  have H2 : Hid (By w w2 w.heap.size ⟨q, s, l, u⟩ x2 12 _) := H1.out.app (n := 4) (m := 8) o2 g2
  clear o2 g2 H1 b0 b1 b2 b3
  obtain ⟨b0, b1, b2, b3⟩ := bx4 H2.out.bx
  have HA : Hid (Row (w2.alloc (.cells #[.int .u8 s, .int .u8 0, .int .u8 0, .int .u8 0] 5)) (some ⟨w2.heap.size, 0, none⟩) 4 [s, 0, 0, 0]) := alloc_row w2 [s, 0, 0, 0] HB2.out (by unfold maxLen; simp)
  have H3 : Hid _ := H2.out.keep (World.grownBy_alloc w2 (.cells #[.int .u8 s, .int .u8 0, .int .u8 0, .int .u8 0] 5) none)
  clear H2
  go_wp2_with (at_builtin; refine wpList_append8 rfl _ _ 25 rfl w.heap.size i5 Try.underlying25 hi hz0 hz1 hz2 _ 12 _ rfl H3.out.own _ 4 4 [s, 0, 0, 0] rfl HA.out (fun e => by cases e) (by omega) H3.out.gr.size ?_)
  intro x4 w4 o4 g4
  have H4 : Hid (By w w4 w.heap.size ⟨q, s, l, u⟩ x4 16 _) := H3.out.app (n := 12) (m := 4) o4 g4
  clear o4 g4 H3 b0 b1 b2 b3
  obtain ⟨b0, b1, b2, b3⟩ := bx4 H4.out.bx
  go_wp2_with fail
  refine (h2 _).mono ?_
  rintro e w5 ⟨x5, rfl, o5, g5⟩
  obtain ⟨a5, c5, rfl, R5, n5, _, _⟩ := own_bytes o5 (sto_byt _ _) (by unfold maxLen; omega)
  have H5 : Hid _ := H4.out.keep g5
  have HR5 : Hid _ := And.intro R5 n5
  clear o5 g5 R5 n5 H4 b0 b1 b2 b3
  obtain ⟨b0, b1, b2, b3⟩ := bx4 H5.out.bx
  simp only
  go_wp2_with (at_builtin; refine wpList_append8 rfl _ _ 25 rfl w.heap.size i5 Try.underlying25 hi hz0 hz1 hz2 _ 16 _ rfl H5.out.own _ 4 c5 (sto l 4) rfl HR5.out.1 HR5.out.2 (by omega) H5.out.gr.size ?_)
  intro x6 w6 o6 g6
  have H6 : Hid (By w w6 w.heap.size ⟨q, s, l, u⟩ x6 20 _) := H5.out.app (n := 16) (m := 4) o6 g6
  clear o6 g6 H5 b0 b1 b2 b3
  obtain ⟨b0, b1, b2, b3⟩ := bx4 H6.out.bx
  go_wp2_with fail
  refine (h3 _).mono ?_
  rintro e w7 ⟨x7, rfl, o7, g7⟩
  obtain ⟨a7, c7, rfl, R7, n7, _, _⟩ := own_bytes o7 (sto_byt _ _) (by unfold maxLen; omega)
  have H7 : Hid _ := H6.out.keep g7
  have HR7 : Hid _ := And.intro R7 n7
  clear o7 g7 R7 n7 H6 b0 b1 b2 b3
  obtain ⟨b0, b1, b2, b3⟩ := bx4 H7.out.bx
  simp only
  go_wp2_with (at_builtin; refine wpList_append8 rfl _ _ 25 rfl w.heap.size i5 Try.underlying25 hi hz0 hz1 hz2 _ 20 _ rfl H7.out.own _ 8 c7 (sto u 8) rfl HR7.out.1 HR7.out.2 (by omega) H7.out.gr.size ?_)
  intro x8 w8 o8 g8
  have H8 : Hid (By w w8 w.heap.size ⟨q, s, l, u⟩ x8 28 _) := H7.out.app (n := 20) (m := 8) o8 g8
  clear o8 g8 H7 b0 b1 b2 b3
  obtain ⟨b0, b1, b2, b3⟩ := bx4 H8.out.bx
  obtain ⟨a8, c8, rfl, R8, n8, _, _⟩ := own_bytes H8.out.own (by have := HB.out; unfold rb0 at this; exact this) (by unfold maxLen; omega)
  have hcr := refcrc_any 0 a8 28 c8 _ w8 R8 (by omega)
  have hcl := crc_lt ent 0 ([80, 77, 66, 49] ++ sto q 8 ++ [s, 0, 0, 0] ++ sto l 4 ++ sto u 8)
  have h4 := fun W => store_own (crc ent 0 ([80, 77, 66, 49] ++ sto q 8 ++ [s, 0, 0, 0] ++ sto l 4 ++ sto u 8) : Nat) 4 W (by omega) (by omega) (by omega)
  have hrb : rby ⟨q, s, l, u⟩ = ([80, 77, 66, 49] ++ sto q 8 ++ [s, 0, 0, 0] ++ sto l 4 ++ sto u 8) ++ sto (crc ent 0 ([80, 77, 66, 49] ++ sto q 8 ++ [s, 0, 0, 0] ++ sto l 4 ++ sto u 8) : Nat) 4 := rfl
  have HRB : Hid _ := hrb
  clear hrb R8 n8
  generalize [80, 77, 66, 49] ++ sto q 8 ++ [s, 0, 0, 0] ++ sto l 4 ++ sto u 8 = ys at *
  generalize crc ent 0 ys = cr at *
  go_wp2_with (first | (go_at_call 27; refine hcr.mono ?_; rintro e w' ⟨rfl, rfl⟩))
  go_wp2_with fail
  refine (h4 _).mono ?_
  rintro e w9 ⟨x9, rfl, o9, g9⟩
  obtain ⟨a9, c9, rfl, R9, n9, _, _⟩ := own_bytes o9 (sto_byt _ _) (by unfold maxLen; omega)
  have H9 : Hid _ := H8.out.keep g9
  have HR9 : Hid _ := And.intro R9 n9
  clear o9 g9 R9 n9 H8 b0 b1 b2 b3
  obtain ⟨b0, b1, b2, b3⟩ := bx4 H9.out.bx
  simp only
  go_wp2_with (at_builtin; refine wpList_append8 rfl _ _ 25 rfl w.heap.size i5 Try.underlying25 hi hz0 hz1 hz2 _ 28 _ rfl H9.out.own _ 4 c9 (sto cr 4) rfl HR9.out.1 HR9.out.2 (by omega) H9.out.gr.size ?_)
  intro x10 w10 o10 g10
  have H10 : Hid (By w w10 w.heap.size ⟨q, s, l, u⟩ x10 32 _) := H9.out.app (n := 28) (m := 4) o10 g10
  clear o10 g10 H9 b0 b1 b2 b3
  obtain ⟨b0, b1, b2, b3⟩ := bx4 H10.out.bx
  have HF : Hid _ := And.intro H10.out.own H10.out.gr
  clear b0 b1 b2 b3 H10
  go_wp2
  go_ret
  refine ⟨_, rfl, ?_, HF.out.2⟩
  rw [HRB.out]
  exact HF.out.1
end Go.Proofs.Ytlbilpjlfelgdaa
