/- The program's chains: a place more. The program's longest: the search along a chain. The program's enter: a place more in its chain. The chains' own memory, as it is made. The program's tell and lay: a sequence's bytes. -/
import Derived.Deep.RegionHeld3
import Derived.Laws.Tables
import Derived.Deep.WholeRow
import Derived.Test.YtkkigpobhagnfaaK03
import Derived.Test.YtkkigpobhagnfaaK05
namespace Go.Proofs.Ytkkigpobhagnfaa
open Go.RowKit
set_option maxRecDepth 100000
set_option linter.unusedSimpArgs false
set_option linter.unusedVariables false
def hcs (bs : List Int) (p : Nat) : List Value := (List.range 8192).map fun s => Value.int .i64 (las bs s p)
def bcs (bs : List Int) (p : Nat) : List Value := (List.range bs.length).map fun j => Value.int .i64 (if j < p then (las bs (slt bs j) j : Int) - 1 else 0)
theorem hcs_len (bs : List Int) (p : Nat) : (hcs bs p).length = 8192 := by unfold hcs; rw [List.length_map, List.length_range]
theorem bcs_len (bs : List Int) (p : Nat) : (bcs bs p).length = bs.length := by unfold bcs; rw [List.length_map, List.length_range]
theorem map_range_get {α : Type} (f : Nat → α) (n i : Nat) (h : i < n) : ((List.range n).map f)[i]? = some (f i) := by simp [h]
theorem map_range_set {α : Type} (f f' : Nat → α) (n j : Nat) (x : α) (hx : f' j = x) (h : ∀ i, i ≠ j → f' i = f i) : ((List.range n).map f).set j x = (List.range n).map f' := by
 apply List.ext_getElem?
 intro i
 rw [List.getElem?_set]
 by_cases hi : i < n
 ·rw [map_range_get _ _ _ hi, map_range_get _ _ _ hi]
  by_cases e : j = i
  ·subst e; simp [hi, hx]
  ·rw [if_neg e, h i (fun k => e k.symm)]
 ·rw [List.getElem?_eq_none (l := (List.range n).map f) (by simp; omega), List.getElem?_eq_none (l := (List.range n).map f') (by simp; omega)]
  split
  ·simp; omega
  ·rfl
theorem hcs_set (bs : List Int) (p : Nat) : (hcs bs p).set (slt bs p) (.int .i64 ((p : Int) + 1)) = hcs bs (p + 1) := by
 unfold hcs
 refine map_range_set _ _ _ _ _ ?_ ?_
 ·show Value.int .i64 (las bs (slt bs p) (p + 1) : Nat) = _; rw [las, if_pos rfl]; rfl
 ·intro i hi; show Value.int .i64 (las bs i (p + 1) : Nat) = Value.int .i64 (las bs i p : Nat); rw [las, if_neg (fun e => hi e.symm)]
theorem bcs_set (bs : List Int) (p : Nat) : (bcs bs p).set p (.int .i64 ((las bs (slt bs p) p : Int) - 1)) = bcs bs (p + 1) := by
 unfold bcs
 refine map_range_set _ _ _ _ _ ?_ ?_
 ·rw [if_pos (by omega)]
 ·intro i hi
  by_cases h : i < p
  ·rw [if_pos h, if_pos (by omega)]
  ·rw [if_neg h, if_neg (by omega)]
/-- the chains of the places ahead of p, in two blocks -/
structure Chn (W : World) (g gb : Nat) (bs : List Int) (p : Nat) : Prop where
 hd : Box W g 130 (hcs bs p ++ [.slice (some ⟨gb, 0, none⟩) bs.length bs.length])
 bf : Box W gb 3 (bcs bs p)
theorem Chn.ne {W : World} {g gb : Nat} {bs : List Int} {p : Nat} (h : Chn W g gb bs p) : g ≠ gb := by
 intro e
 have h1 := h.hd.blk
 have h2 := h.bf.blk
 rw [e, h2] at h1
 injection h1 with h1
 injection h1 with e1 e2 e3
 exact absurd e2 (by decide)
theorem Chn.head {W : World} {g gb : Nat} {bs : List Int} {p : Nat} (h : Chn W g gb bs p) (s : Nat) (hs : s < 8192) : W.cell? ⟨g, s, none⟩ = some (.int .i64 (las bs s p)) := by
 rw [h.hd.c, List.getElem?_append_left (by rw [hcs_len]; exact hs)]
 unfold hcs
 rw [map_range_get _ _ _ hs]
theorem Chn.row {W : World} {g gb : Nat} {bs : List Int} {p : Nat} (h : Chn W g gb bs p) : W.cell? ⟨g, 8192, none⟩ = some (.slice (some ⟨gb, 0, none⟩) bs.length bs.length) := by
 rw [h.hd.c, List.getElem?_append_right (by rw [hcs_len]; exact Nat.le_refl _), hcs_len]
 rfl
theorem Chn.bef {W : World} {g gb : Nat} {bs : List Int} {p : Nat} (h : Chn W g gb bs p) (j : Nat) (hj : j < p) (hl : j < bs.length) : W.cell? ⟨gb, j, none⟩ = some (.int .i64 ((las bs (slt bs j) j : Int) - 1)) := by
 rw [h.bf.c]
 unfold bcs
 rw [map_range_get _ _ _ hl, if_pos hj]
theorem Chn.any {W : World} {g gb : Nat} {bs : List Int} {p : Nat} (h : Chn W g gb bs p) (j : Nat) (hl : j < bs.length) : ∃ x : Int, W.cell? ⟨gb, j, none⟩ = some (.int .i64 x) := by
 rw [h.bf.c]
 unfold bcs
 rw [map_range_get _ _ _ hl]
 exact ⟨_, rfl⟩
theorem Chn.kept {W W' : World} {g gb : Nat} {bs : List Int} {p : Nat} (h : Chn W g gb bs p) (k : W.grownBy W' none) : Chn W' g gb bs p := ⟨h.hd.kept k (by simp), h.bf.kept k (by simp)⟩
theorem Chn.step {W : World} {g gb : Nat} {bs : List Int} {p : Nat} (h : Chn W g gb bs p) : Chn ((W.setCell ⟨gb, p, none⟩ (.int .i64 ((las bs (slt bs p) p : Int) - 1))).setCell ⟨g, slt bs p, none⟩ (.int .i64 ((p : Int) + 1))) g gb bs (p + 1) := by
 have b1 := h.bf.set p (.int .i64 ((las bs (slt bs p) p : Int) - 1))
 rw [bcs_set] at b1
 have h1 := h.hd.kept (grown_set W gb p (.int .i64 ((las bs (slt bs p) p : Int) - 1))) (by simp [h.ne])
 have h3 := h1.set (slt bs p) (.int .i64 ((p : Int) + 1))
 rw [List.set_append_left _ _ (by rw [hcs_len]; exact slt_lt _ _), hcs_set] at h3
 exact ⟨h3, b1.kept (grown_set _ _ _ _) (by simp [h.ne.symm])⟩
theorem slot_take {bs : List Int} (p n : Nat) (h : 4 ≤ n) : hsh (((bs.drop p).take n).getD 0 0) (((bs.drop p).take n).getD 1 0) (((bs.drop p).take n).getD 2 0) (((bs.drop p).take n).getD 3 0) = (slt bs p : Int) := by
 rw [← slt_eq]
 have e : ∀ i, i < 4 → ((bs.drop p).take n).getD i 0 = bs.getD (p + i) 0 := by
  intro i hi
  rw [List.getD_eq_getElem?_getD, List.getD_eq_getElem?_getD, List.getElem?_take, if_pos (by omega), List.getElem?_drop]
 rw [e 0 (by omega), e 1 (by omega), e 2 (by omega), e 3 (by omega)]
 rfl
theorem index_head (g s : Nat) (hs : s < 8192) (w : World) : (Instr.indexAt 128 (.pointer (some ⟨g, 0, none⟩)) (.int .u32 (s : Int))).run Try.prog w = .ok (.pointer (some ⟨g, s, none⟩)) w := by
 have h0 : (0 : Int) ≤ (s : Int) := by omega
 have h1 : (s : Int) < 8192 := by omega
 simp [go_sem, h0, h1]
/-- a guard: the next operation is a place in the heads -/
theorem head_here {P : Program} {w : World} {ops : Array Oper} {rest : List Oper} {a : Act} {Q : Exit → Act → World → Prop} {dst : Option Nat} {x y : Operand} {type : TypeId} {pos : String} {after : Array Edge} {guard : Option (Nat × Bool)}
  (k : wpList P ops Q (⟨dst, .indexAddr 128 x y, type, pos, after, guard⟩ :: rest) a w) : wpList P ops Q (⟨dst, .indexAddr 128 x y, type, pos, after, guard⟩ :: rest) a w := k
theorem wpList_head {P : Program} {w : World} {ops : Array Oper} {rest : List Oper} {o : Oper} {a : Act} {Q : Exit → Act → World → Prop} (hg : o.guard = none) (t : TypeId) (x y : Operand) (ho : o.op = .indexAddr t x y)
  (u v r : Value) (hx : a.eval x = u) (hy : a.eval y = v) (hr : (Instr.indexAt t u v).run P w = .ok r w)
  (hk : wpList P ops Q rest (a.put o.dst r) w) : wpList P ops Q (o :: rest) a w := by
 refine wpList_plain hg fun K' hK' => ?_
 unfold Oper.wp
 simp only [execOp, ho, hx, hy, Sem.run_bind, hr, Result.andThen]
 exact hK' _ _ hk
/-- only these two blocks were written -/
def Two (g gb : Nat) (W W' : World) : Prop := ∃ W1, W.grownBy W1 (some gb) ∧ W1.grownBy W' (some g)
set_option maxHeartbeats 1000000 in
theorem longest_any (g gb b off len cap : Nat) (bs : List Int) (p : Nat) (W : World) (R : Row W (some ⟨b, off, none⟩) len bs) (C : Chn W g gb bs p) (hp : p + 12 ≤ len) (hl : len ≤ 1048576) (hc : len ≤ cap) (hcm : cap ≤ maxLen) :
  Calls Try.prog 77 #[.pointer (some ⟨g, 0, none⟩), .slice (some ⟨b, off, none⟩) len cap, .int .i64 p] W fun e W' => e = .returned (.tuple #[.int .i64 (lng6 bs p).1, .int .i64 (lng6 bs p).2]) ∧ ∃ m, W' = W.drewN m := by
 obtain ⟨i5, hi, hz0, hz1, hz2⟩ := info_parts Try.info5
 have hlb := R.len_eq
 unfold maxLen at hcm
 have HR : Hid _ := R
 have HC : Hid _ := C
 have HST : Hid (lon bs p 64 (las bs (slt bs p) p) 0 0 = lng6 bs p) := rfl
 generalize lng6 bs p = res at *
 clear R C
 go_enter Try.func77, Try.ntmps77
 go_wp2_with (with_reducible refine slice_here ?_; refine wpList_cut8 rfl _ _ _ 22 rfl Try.underlying22 i5 hi hz1 b off len cap p (len - 5 - p) _ _ rfl rfl rfl (by go_num) (by go_num) (by omega) ?_)
 intro o' ho'
 obtain rfl := ho' (by omega)
 clear ho'
 have R2 := HR.out.part p (len - 5 - p) (by omega)
 have hs := fun n => slot_any b (off + p) (len - 5 - p) (cap - p) _ (W.drewN n) (R2.grown (grown_drewN5 (World.grownBy.refl _ _) n)) (by omega)
 rw [slot_take p (len - 5 - p) (by omega)] at hs
 have HS : Hid _ := hs
 have c1 := HC.out.head (slt bs p) (slt_lt _ _)
 have hs8 := slt_lt bs p
 have hle := las_le bs (slt bs p) p
 have hix := index_head g (slt bs p) hs8
 have HR2 : Hid _ := R2
 clear hs R2
 go_wp2
 go_quiet (first | (go_at_call 84; exact Calls.quiet_of (HS.out _)))
 have hbf : ∀ j, j < p → (W.drewN nq).cell? ⟨gb, j, none⟩ = some (.int .i64 ((las bs (slt bs j) j : Int) - 1)) := fun j hj => (HC.out.kept (grown_drewN5 (World.grownBy.refl _ _) nq)).bef j hj (by omega)
 have hrw := (HC.out.kept (grown_drewN5 (World.grownBy.refl _ _) nq)).row
 have hxr := HR2.out.grown (grown_drewN5 (World.grownBy.refl _ _) nq)
 have hyr := fun q (h : q ≤ len) => (HR.out.part q (len - q) (by omega)).grown (grown_drewN5 (World.grownBy.refl _ _) nq)
 have e1 : (bs.drop p).take (len - 5 - p) = her bs p := by unfold her; rw [hlb]
 rw [e1] at hxr
 have e2 : ∀ q, (bs.drop q).take (len - q) = bs.drop q := by intro q; apply List.take_of_length_le; simp; omega
 simp only [e2] at hyr
 rw [hlb] at hrw
 have HB : Hid _ := And.intro hbf (And.intro hxr hyr)
 have HQ : Hid (∃ m, W.drewN nq = W.drewN m) := ⟨nq, rfl⟩
 have hlen5 : ((len - 5 - p : Nat) : Int) = len - 5 - p := by omega
 have hH : ∀ t f o n, lon bs p (t + 1) f o n = if f = 0 ∨ 65535 < p + 1 - f ∨ n = len - 5 - p then (o, n)
  else if 4 ≤ alk (her bs p) (bs.drop (f - 1)) ∧ n < alk (her bs p) (bs.drop (f - 1)) then lon bs p t (las bs (slt bs (f - 1)) (f - 1)) (p + 1 - f) (alk (her bs p) (bs.drop (f - 1)))
  else lon bs p t (las bs (slt bs (f - 1)) (f - 1)) o n := by intro t f o n; rw [lon, hlb]
 have HH : Hid _ := hH
 have hal := fun q => alk_le (her bs p) (bs.drop q)
 rw [her_len, hlb] at hal
 have HA : Hid _ := hal
 have HLE : Hid _ := hle
 clear hbf hxr hyr e1 e2 hH hal HR HR2 HC HS c1 hix hs8 hlb
 generalize W.drewN nq = w1 at *
 generalize las bs (slt bs p) p = f0 at *
 go_wp2
 go_loopw [6, 7, 9, 10, 25] (fun vo vn vf _ vi wr => w1 = wr ∧ ∃ (j t f o n : Nat), vi = .int .i64 j ∧ vo = .int .i64 o ∧ vn = .int .i64 n ∧ vf = .int .i64 ((f : Int) - 1) ∧ t + j = 64 ∧ f ≤ p ∧ Hid (lon bs p t f o n = res)) (fun _ _ _ _ vi _ => 64 - (intOf vi).toNat)
 case atStart => exact ⟨rfl, 0, 64, f0, 0, 0, rfl, rfl, rfl, by go_num, rfl, HLE.out, HST.out⟩
 case round =>
  clear HST HLE
  obtain ⟨rfl, j, t, f, o, n, rfl, rfl, rfl, rfl, ht, hf, HL⟩ := hrel
  cases t with
  | zero =>
   obtain rfl : j = 64 := by omega
   have e := HL.out
   rw [lon] at e
   subst e
   clear ht HL HB HH HA
   go_wp2
   go_ret2
   exact ⟨rfl, HQ.out⟩
  | succ t =>
   have hj : (j : Int) < 64 := by omega
   have HT : Hid (t + 1 + j = 64) := ht
   have e := HL.out
   rw [HH.out] at e
   clear ht HL HH
   by_cases k1 : f = 0
   ·rw [if_pos (Or.inl k1)] at e
    subst e k1
    clear HB HA HT
    go_wp2
    go_ret2
    exact ⟨rfl, HQ.out⟩
   ·obtain ⟨q, rfl⟩ : ∃ q, f = q + 1 := ⟨f - 1, by omega⟩
    have k2 : q < p := by omega
    have eq1 : ((q + 1 : Nat) : Int) - 1 = q := by omega
    rw [eq1]
    clear eq1 k1 hf
    by_cases k3 : 65535 < p - q
    ·rw [if_pos (Or.inr (Or.inl (by omega)))] at e
     subst e
     have k4 : (65535 : Int) < (p : Int) - q := by omega
     clear HB HA HT k3
     go_wp2
     go_ret2
     exact ⟨rfl, HQ.out⟩
    ·have k4 : decide ((65535 : Int) < (p : Int) - q) = false := decide_eq_false (by omega)
     by_cases k5 : n = len - 5 - p
     ·rw [if_pos (Or.inr (Or.inr k5))] at e
      subst e
      clear HB HA HT
      have k6 : (n : Int) = ((len - 5 - p : Nat) : Int) := by omega
      clear k5
      have hq0 : decide ((q : Int) < 0) = false := decide_eq_false (by omega)
      go_wp2
      go_ret2
      exact ⟨rfl, HQ.out⟩
     ·rw [if_neg (by omega)] at e
      have k6 : (n : Int) ≠ ((len - 5 - p : Nat) : Int) := by omega
      have hq0 : decide ((q : Int) < 0) = false := decide_eq_false (by omega)
      obtain ⟨hbf, hxr, hyr⟩ := HB.out
      have cb := hbf q k2
      have hq := HA.out q
      have hak := fun c2 => alike_any b (off + p) (len - 5 - p) (cap - p) b (off + q) (len - q) c2 (her bs p) (bs.drop q) w1 hxr (hyr q (by omega)) (by omega) (by omega)
      have hlq := las_le bs (slt bs q) q
      rw [Nat.add_sub_cancel] at e
      have HE : Hid _ := e
      clear hbf hxr hyr e k5
      generalize las bs (slt bs q) q = f1 at *
      generalize alk (her bs p) (bs.drop q) = k at *
      have HAK : Hid _ := hak
      clear hak
      go_wp2_with (with_reducible refine low_here ?_; refine wpList_low8 rfl _ _ 22 rfl Try.underlying22 i5 hi hz1 b off len cap q _ rfl rfl rfl (by omega) hc ?_)
      intro o' ho'
      obtain rfl := ho' (by omega)
      clear ho'
      go_wp2_with fail
      refine (HAK.out _).mono ?_
      rintro e w2 ⟨rfl, rfl⟩
      clear HAK
      by_cases c1 : 4 ≤ k
      ·by_cases c2 : n < k
       ·have e := HE.out
        rw [if_pos ⟨c1, c2⟩, show p + 1 - (q + 1) = p - q by omega] at e
        have HE2 : Hid _ := e
        have d1 : (4 : Int) ≤ (k : Int) := by omega
        have d2 : (n : Int) < (k : Int) := by omega
        clear e HE
        go_wp2
        go_roundw
        case rel => exact ⟨by trivial, j + 1, t, f1, p - q, k, by go_num, by go_num, by go_num, by go_num, by have := HT.out; omega, by omega, HE2⟩
        case measure => simp [intOf]; omega
       ·have e := HE.out
        rw [if_neg (by omega)] at e
        have HE2 : Hid _ := e
        have d1 : (4 : Int) ≤ (k : Int) := by omega
        have d2 : decide ((n : Int) < (k : Int)) = false := decide_eq_false (by omega)
        clear e HE
        go_wp2
        go_roundw
        case rel => exact ⟨by trivial, j + 1, t, f1, o, n, by go_num, by go_num, by go_num, by go_num, by have := HT.out; omega, by omega, HE2⟩
        case measure => simp [intOf]; omega
      ·have e := HE.out
       rw [if_neg (by omega)] at e
       have HE2 : Hid _ := e
       have d1 : decide ((4 : Int) ≤ (k : Int)) = false := decide_eq_false (by omega)
       clear e HE
       go_wp2
       go_roundw
       case rel => exact ⟨by trivial, j + 1, t, f1, o, n, by go_num, by go_num, by go_num, by go_num, by have := HT.out; omega, by omega, HE2⟩
       case measure => simp [intOf]; omega
theorem grown_any {a b c : World} {row : Option Nat} (h : a.grownBy b row) (k : b.grownBy c row) : a.grownBy c row := grown_trans h k
theorem grown_none {a b : World} (h : a.grownBy b none) (row : Option Nat) : a.grownBy b row := ⟨h.os, h.tape, h.output, h.size, fun k hk _ => h.block k hk (by simp)⟩
theorem grown_drew2 {a b : World} {row : Option Nat} (h : a.grownBy b row) (n : Nat) : a.grownBy (b.drewN n) row := ⟨h.os, h.tape, h.output, h.size, h.block⟩
set_option maxHeartbeats 1000000 in
theorem enter_any (g gb b off len cap : Nat) (bs : List Int) (p : Nat) (W : World) (R : Row W (some ⟨b, off, none⟩) len bs) (C : Chn W g gb bs p) (hp : p + 4 ≤ len) (hc : len ≤ cap) (hcm : cap ≤ maxLen) :
  Calls Try.prog 78 #[.pointer (some ⟨g, 0, none⟩), .slice (some ⟨b, off, none⟩) len cap, .int .i64 p] W fun e W' => e = .returned (.tuple #[]) ∧ Chn W' g gb bs (p + 1) ∧ Two g gb W W' := by
 obtain ⟨i5, hi, hz0, hz1, hz2⟩ := info_parts Try.info5
 have hlb := R.len_eq
 have hm := R.le
 unfold maxLen at hm hcm
 have HR : Hid _ := R
 have HC : Hid _ := C
 clear R C
 go_enter Try.func78, Try.ntmps78
 go_wp2_with (with_reducible refine low_here ?_; refine wpList_low8 rfl _ _ 22 rfl Try.underlying22 i5 hi hz1 b off len cap p _ rfl rfl rfl (by omega) hc ?_)
 intro o' ho'
 have R2 := HR.out.part p (len - p) (by omega)
 obtain rfl := ho' (by omega)
 have hs := slot_any b (off + p) (len - p) (cap - p) _ W R2 (by omega)
 rw [slot_take p (len - p) (by omega)] at hs
 clear R2
 go_wp2_with fail
 refine hs.mono ?_
 rintro e w1 ⟨rfl, m, rfl⟩
 clear hs
 have gm : W.grownBy (W.drewN m) none := grown_drewN5 (World.grownBy.refl _ _) m
 have C1 := HC.out.kept gm
 have hix := index_head g (slt bs p) (slt_lt _ _)
 have c1 := C1.head (slt bs p) (slt_lt _ _)
 have c2 := C1.row
 obtain ⟨x, c3⟩ := C1.any p (by omega)
 have f1 := C1.bf.f p
 have K1 := C1.hd.kept (grown_set (W.drewN m) gb p (.int .i64 ((las bs (slt bs p) p : Int) - 1))) (by simp [C1.ne])
 have f2 := K1.f (slt bs p)
 have c4 := K1.c (slt bs p)
 rw [List.getElem?_append_left (by rw [hcs_len]; exact slt_lt _ _), hcs, map_range_get _ _ _ (slt_lt _ _)] at c4
 have c5 := K1.c 8192
 rw [List.getElem?_append_right (by rw [hcs_len]; exact Nat.le_refl _), hcs_len, Nat.sub_self, List.getElem?_cons_zero, hlb] at c5
 have hst := C1.step
 have hs8 := slt_lt bs p
 have hle := las_le bs (slt bs p) p
 rw [hlb] at c2
 have HH : Hid _ := And.intro hst gm
 generalize hls : las bs (slt bs p) p = l at *
 generalize hsl : slt bs p = s at *
 clear hls hsl hst gm C1 HC HR hlb K1
 generalize W.drewN m = w1 at *
 have i3 : (0 : Int) ≤ (p : Int) := by omega
 have i4 : (p : Int) < (len : Int) := by omega
 have i6 : IntKind.i64.wrap ((l : Int) - 1) = (l : Int) - 1 := by rw [IntKind.wrap_i64]; omega
 have i7 : (p : Int) + 1 ≤ 9223372036854775807 := by omega
 clear hi hz0 hz1 hz2 ho' hm hcm
 go_wp2
 go_region_held3 (fun w' => w'.cell? ⟨g, 8192, none⟩ = some (.slice (some ⟨gb, 0, none⟩) len len) ∧ w'.cell? ⟨g, s, none⟩ = some (.int .i64 (l : Int))) (go_keep) (fail)
 have HX : Hid _ := hix
 clear hix
 go_wp2_with (with_reducible refine head_here ?_; refine wpList_head rfl _ _ _ rfl (.pointer (some ⟨g, 0, none⟩)) (.int .u32 (s : Int)) (.pointer (some ⟨g, s, none⟩)) rfl rfl (HX.out _) ?_)
 go_end0
 refine ⟨rfl, HH.out.1.kept (grown_drew _), ?_⟩
 exact ⟨_, grown_any (grown_none HH.out.2 _) (grown_set _ _ _ _), grown_any (grown_set _ _ _ _) (grown_none (grown_drew _) _)⟩
def isZ (v : Value) : Bool := match v with
 | .int k x => (match k with
  | .i64 => decide (x = 0)
  | _ => false)
 | _ => false
def isN (v : Value) : Bool := match v with
 | .slice a n c => a.isNone && decide (n = 0) && decide (c = 0)
 | _ => false
def chz : List Value → Nat → Bool
 | [], _ => false
 | v :: l, 0 => isN v && l.isEmpty
 | v :: l, n + 1 => isZ v && chz l n
theorem isZ_eq {v : Value} (h : isZ v = true) : v = .int .i64 0 := by
 unfold isZ at h
 split at h
 ·split at h
  ·simp at h; rw [h]
  ·cases h
 ·cases h
theorem isN_eq {v : Value} (h : isN v = true) : v = .slice none 0 0 := by
 unfold isN at h
 split at h
 ·simp at h; obtain ⟨⟨rfl, rfl⟩, rfl⟩ := h; rfl
 ·cases h
theorem chz_eq (L : List Value) (n : Nat) (h : chz L n = true) : L = List.replicate n (.int .i64 0) ++ [.slice none 0 0] := by
 induction L generalizing n with
 | nil => simp [chz] at h
 | cons v l ih =>
  cases n with
  | zero =>
   rw [chz, Bool.and_eq_true] at h
   rw [isN_eq h.1, List.isEmpty_iff.1 h.2]
   rfl
  | succ n =>
   rw [chz, Bool.and_eq_true] at h
   rw [isZ_eq h.1, List.replicate_succ, List.cons_append, ← ih n h.2]
def zof (t : TypeInfo) : List Value := match t.zero with
 | some (.agg c) => c.toList
 | _ => []
theorem z60_zero : Try.t130.zero = some (.agg (zof Try.t130).toArray) := by kernel_rfl
theorem z60_ok : chz (zof Try.t130) 8192 = true := by kernel_rfl
theorem hcs_zero (bs : List Int) : hcs bs 0 = List.replicate 8192 (.int .i64 0) := by
 rw [List.eq_replicate_iff]
 refine ⟨hcs_len _ _, fun v hv => ?_⟩
 unfold hcs at hv
 rw [List.mem_map] at hv
 obtain ⟨s, _, rfl⟩ := hv
 rfl
theorem z60_eq (bs : List Int) : zof Try.t130 = hcs bs 0 ++ [.slice none 0 0] := by rw [hcs_zero]; exact chz_eq _ _ z60_ok
theorem info_of {P : Program} {t : TypeId} {T : TypeInfo} (h : (typeInfo t).run P default = .ok T default) : P.info? t = some T := by
 cases hq : P.info? t with
 | none => simp [typeInfo, hq] at h
 | some i => simp [typeInfo, hq] at h; rw [h]
theorem info60 : Try.prog.info? 130 = some Try.t130 := info_of (Try.typeInfo130 default)
theorem size60 : Try.t130.size = 8193 := by kernel_rfl
theorem size58 : Try.t128.size = 8192 := by kernel_rfl
theorem size57 : Try.t127.size = 1 := by kernel_rfl
theorem zero60 (bs : List Int) : (∀ w, (zeroValue 130).run Try.prog w = .ok (.agg (hcs bs 0 ++ [Value.slice none 0 0]).toArray) w) ∧ (Try.prog.info? 130).map (·.size) = some 8193 := by
 refine zero_of_info ?_
 rw [info60, Option.map_some, z60_zero, z60_eq bs, size60]
theorem chn_size (bs : List Int) (v : Value) : (hcs bs 0 ++ [v]).toArray.size = 8193 := by rw [List.size_toArray, List.length_append, hcs_len]; rfl
theorem chn_one (bs : List Int) (v : Value) (hv : v.oneCell' = true) : (hcs bs 0 ++ [v]).toArray.all (·.oneCell') = true := by
 rw [Array.all_eq_true']
 intro x hx
 rw [List.mem_toArray, List.mem_append] at hx
 rcases hx with hx | hx
 ·rw [hcs_zero] at hx; rw [List.eq_of_mem_replicate hx]; rfl
 ·rw [List.mem_singleton] at hx; rw [hx]; exact hv
theorem built_of {P : Program} {t : TypeId} {T : TypeInfo} {fs : Array Field} {z : Array Value} {places : List (Nat × Nat)} {off : Nat} {v : Value} {k : Nat} (h1 : P.info? t = some T) (h2 : P.underlying t = some (.struct fs)) (h3 : T.zero = some (.agg z))
  (h4 : fs.toList.mapM (fun f => (P.info? f.type).map fun i => (f.offset, i.size)) = some places) (h5 : places[k]? = some (off, 1)) (hv : v.cells = #[v]) (hz : off + 1 ≤ z.size) : P.built t [(k, v)] = some (z.setIfInBounds off v) := by
 unfold Program.built
 rw [h1, h2]
 simp only [h3, h4]
 have e : (Value.agg z).cells = z := rfl
 rw [e]
 unfold Instr.fill
 simp only [List.getElem?_toArray, h5, hv]
 rw [if_neg (by simp; omega)]
 simp [Instr.fill]
theorem set_last (l : List Value) (x v : Value) (n : Nat) (h : l.length = n) : (l ++ [x]).toArray.setIfInBounds n v = (l ++ [v]).toArray := by
 subst h
 rw [List.setIfInBounds_toArray, List.set_append_right _ _ (Nat.le_refl _), Nat.sub_self, List.set_cons_zero]
theorem places60 : (#[{ name := "heads", type := 128, offset := 0, embedded := false, tag := "", pkgPath := "portmanteau/match", byteOffset := 0 }, { name := "before", type := 127, offset := 8192, embedded := false, tag := "", pkgPath := "portmanteau/match", byteOffset := 65536 }] : Array Field).toList.mapM (fun f => (Try.prog.info? f.type).map fun i => (f.offset, i.size)) = some [(0, 8192), (8192, 1)] := by
 simp only [List.mapM_cons, List.mapM_nil, info_of (Try.typeInfo128 default), info_of (Try.typeInfo127 default), Option.map_some, size58, size57, Option.bind_eq_bind, Option.bind_some, Option.pure_def]
theorem built60 (bs : List Int) (v : Value) (hv : v.cells = #[v]) : Try.prog.built 130 [(1, v)] = some (hcs bs 0 ++ [v]).toArray := by
 have hz : 8192 + 1 ≤ (zof Try.t130).toArray.size := by rw [z60_eq bs, chn_size]; exact Nat.le_refl _
 have h := built_of (v := v) (k := 1) (off := 8192) (places := [(0, 8192), (8192, 1)]) info60 Try.underlying130 z60_zero places60 rfl hv hz
 have e := set_last (hcs bs 0) (.slice none 0 0) v 8192 (hcs_len _ _)
 have e2 := congrArg (fun Z : List Value => some (Z.toArray.setIfInBounds 8192 v)) (z60_eq bs)
 exact h.trans (e2.trans (congrArg some e))
/-- bytes that have been appended since w -/
structure Jn (w W : World) (v : Value) (bts : List Int) : Prop where
 own : W.ownsRow w.heap.size 5 1 v bts.length (bv bts)
 g : w.grownBy W none
 byt : Byt bts
theorem Jn.app {w W W' : World} {v v' : Value} {bts xs : List Int} {n : Nat} (h : Jn w W v bts) (o : W'.ownsRow w.heap.size 5 1 v' (bts.length + n) (bv bts ++ bv xs)) (hx : Byt xs) (hn : xs.length = n) (k : W.grownBy W' v.ownBlock) : Jn w W' v' (bts ++ xs) :=
 ⟨by rw [bv_append, List.length_append, hn]; exact o, grown_own h.g h.own k (Nat.le_refl _), h.byt.append hx⟩
theorem Jn.keep {w W W' : World} {v : Value} {bts : List Int} (h : Jn w W v bts) (k : W.grownBy W' none) : Jn w W' v bts :=
 ⟨h.own.kept k (by cases v.ownBlock <;> simp), grown_trans h.g k, h.byt⟩
/-- variables that hold a sequence stay -/
def Kb (W W' : World) : Prop := ∀ g cs, Box W g 116 cs → Box W' g 116 cs
theorem Kb.refl (W : World) : Kb W W := fun _ _ h => h
theorem Kb.trans {a b c : World} (h : Kb a b) (k : Kb b c) : Kb a c := fun g cs x => k g cs (h g cs x)
theorem Kb.of {W W' : World} (h : W.grownBy W' none) : Kb W W' := fun _ _ x => x.kept h (by simp)
theorem Jn.kb {w W W' : World} {v : Value} {bts : List Int} (h : Jn w W v bts) (k : W.grownBy W' v.ownBlock) : Kb W W' := fun _ _ x => x.kept k (own_box h.own x (by decide))

set_option maxHeartbeats 1000000 in
theorem tell_any (w W : World) (v : Value) (bts : List Int) (n : Int) (J : Jn w W v bts) (hn : 0 ≤ n ∧ n ≤ 16777216) (hb : bts.length ≤ 1099511627776) :
  Calls Try.prog 83 #[v, .int .i64 n] W fun e W' => ∃ v', e = .returned v' ∧ Jn w W' v' (bts ++ tol n) ∧ Kb W W' := by
 obtain ⟨i5, hi, hz0, hz1, hz2⟩ := info_parts Try.info5
 by_cases h1 : n < 15
 ·have e : tol n = [] := by unfold tol; rw [if_pos h1]
  rw [e, List.append_nil]
  go_enter Try.func83, Try.ntmps83
  go_wp2
  go_ret
  exact ⟨_, rfl, J, Kb.refl _⟩
 ·have HJ : Hid _ := J
  clear J
  go_enter Try.func83, Try.ntmps83
  go_wp2
  go_loopw [0, 1] (fun v vn wr => ∃ (j : Nat) (m : Int), vn = .int .i64 m ∧ 0 ≤ m ∧ m + 255 * j + 15 = n ∧ Hid (Jn w wr v (bts ++ List.replicate j 255) ∧ Kb W wr)) (fun _ vn _ => (intOf vn).toNat)
  case atStart => exact ⟨0, n - 15, rfl, by omega, by omega, by rw [List.replicate_zero, List.append_nil]; exact ⟨HJ.out, Kb.refl _⟩⟩
  case round =>
   clear HJ
   obtain ⟨j, m, rfl, hm0, hm1, HO⟩ := hrel
   have hsz : w.heap.size ≤ wr.heap.size := HO.out.1.g.size
   have hll : (bts ++ List.replicate j 255).length = bts.length + j := by simp
   have hjb : j ≤ 16777216 := by omega
   have hb1 : (bts.length + j + 1) * 1 ≤ 140737488355328 := by omega
   have hb2 : bts.length + j + 1 ≤ maxLen := by unfold maxLen; omega
   have HM : Hid (m + 255 * j + 15 = n) := hm1
   have hmn : m ≤ 16777216 := by omega
   have hown := HO.out.1.own
   rw [hll] at hown
   clear hm1
   by_cases k1 : 255 ≤ m
   ·go_wp2_with (at_builtin; (refine wpList_append_own _ rfl _ _ 22 rfl w.heap.size 5 i5 (.int .u8 0) 1 1 Try.underlying22 hi hz0 hz1 hz2 rfl (by decide) _ (bts.length + j) _ rfl (hown.alloc _) ⟨wr.heap.size, 0, none⟩ 1 1 [.int .u8 255] rfl rfl (cell_one _ _ _) (by simp [Value.oneCell']) hb2 hb1 (by simp; omega) ?_))
    intro v' w1 o1 g1 _
    have J1 := (HO.out.1.keep (World.grownBy_alloc wr (.cells #[.int .u8 255] 5) none)).app (xs := [255]) (n := 1) (by rw [hll]; exact o1) (by intro x hx; simp at hx; omega) rfl g1
    rw [List.append_assoc, ← List.replicate_succ'] at J1
    have HN : Hid (Jn w w1 v' (bts ++ List.replicate (j + 1) 255) ∧ Kb W w1) := ⟨J1, (HO.out.2.trans (Kb.of (World.grownBy_alloc wr (.cells #[.int .u8 255] 5) none))).trans ((HO.out.1.keep (World.grownBy_alloc wr (.cells #[.int .u8 255] 5) none)).kb g1)⟩
    clear o1 J1 g1 hown HO hb1 hb2 hll
    go_wp2
    go_roundw
    case rel => exact ⟨j + 1, m - 255, by go_num, by omega, by have := HM.out; omega, HN⟩
    case measure => simp [intOf]; omega
   ·have hq := HM.out
    have e1 : (n - 15) / 255 = j := by omega
    have e2 : (n - 15) % 255 = m := by omega
    have et : tol n = List.replicate j 255 ++ [m] := by unfold tol; rw [if_neg (by omega), e1, e2]; simp
    have HT : Hid (tol n = List.replicate j 255 ++ [m]) := et
    clear hq e1 e2 et
    go_wp2_with (at_builtin; (refine wpList_append_own _ rfl _ _ 22 rfl w.heap.size 5 i5 (.int .u8 0) 1 1 Try.underlying22 hi hz0 hz1 hz2 rfl (by decide) _ (bts.length + j) _ rfl (hown.alloc _) ⟨wr.heap.size, 0, none⟩ 1 1 [.int .u8 m] rfl rfl (cell_one _ _ _) (by simp [Value.oneCell']) hb2 hb1 (by simp; omega) ?_))
    intro v' w1 o1 g1 _
    have J1 := (HO.out.1.keep (World.grownBy_alloc wr (.cells #[.int .u8 m] 5) none)).app (xs := [m]) (n := 1) (by rw [hll]; exact o1) (by intro x hx; simp at hx; omega) rfl g1
    rw [List.append_assoc, ← HT.out] at J1
    have HN : Hid (Jn w w1 v' (bts ++ tol n) ∧ Kb W w1) := ⟨J1, (HO.out.2.trans (Kb.of (World.grownBy_alloc wr (.cells #[.int .u8 m] 5) none))).trans ((HO.out.1.keep (World.grownBy_alloc wr (.cells #[.int .u8 m] 5) none)).kb g1)⟩
    clear o1 J1 g1 hown HO hb1 hb2 hll
    go_wp2
    go_ret
    exact ⟨_, rfl, HN.out.1, HN.out.2⟩
end Go.Proofs.Ytkkigpobhagnfaa
