/- The walk of FieldReads, out of the contracts. -/
import Derived.Test.YthnehebkkfegdaaC5
import Derived.Deep.DeepCutAuto
import Derived.Deep.CutBlock
import Derived.Deep.RegionHeld
import Derived.Deep.QuietTactic
import Derived.BigQuiet
import Derived.WalkSmall
namespace Go.Proofs.Ythnehebkkfegdaa
open Go.RowKit
attribute [local go_sem ↓] Go.wp_at_zero Go.wp_at_succ

theorem alc_cell {w : World} {b : Nat} (h : b < w.heap.size) (o : Obj) (i : Nat) : (w.alloc o).cell? ⟨b, i, none⟩ = w.cell? ⟨b, i, none⟩ :=
  World.cell?_of_block (a := ⟨b, i, none⟩) ((World.grownBy_alloc w o none).block b h (by simp))
theorem alc_frozen {w : World} {b : Nat} (h : b < w.heap.size) (o : Obj) (i : Nat) : (w.alloc o).frozen? ⟨b, i, none⟩ = w.frozen? ⟨b, i, none⟩ := by
  have := (World.grownBy_alloc w o none).block b h (by simp)
  simp only [World.frozen?, this]
theorem alc_cell2 (w : World) (o' o : Obj) (i : Nat) : ((w.alloc o').alloc o).cell? ⟨w.heap.size, i, none⟩ = (w.alloc o').cell? ⟨w.heap.size, i, none⟩ := alc_cell (by simp) o i
theorem alc_frozen2 (w : World) (o' o : Obj) (i : Nat) : ((w.alloc o').alloc o).frozen? ⟨w.heap.size, i, none⟩ = (w.alloc o').frozen? ⟨w.heap.size, i, none⟩ := alc_frozen (by simp) o i
theorem alc_cell3 {w : World} {b : Nat} (h : b < w.heap.size) (o o' : Obj) (i : Nat) : ((w.alloc o).alloc o').cell? ⟨b, i, none⟩ = w.cell? ⟨b, i, none⟩ := (alc_cell (by simp; omega) o' i).trans (alc_cell h o i)
/-- what a store into a box asks -/
theorem SBlk.three {w : World} {q : Nat} {a b c : Value} {t : TypeId} (h : SBlk w q [a, b, c] t) : (w.cell? ⟨q, 0, none⟩ = some a ∧ w.cell? ⟨q, 1, none⟩ = some b ∧ w.cell? ⟨q, 2, none⟩ = some c) ∧ w.frozen? ⟨q, 0, none⟩ = false ∧ w.frozen? ⟨q, 1, none⟩ = false ∧ w.frozen? ⟨q, 2, none⟩ = false :=
  ⟨⟨h.c0, h.c1, h.c2⟩, h.frozen 0, h.frozen 1, h.frozen 2⟩
theorem SBlk.two {w : World} {q : Nat} {a b : Value} {t : TypeId} (h : SBlk w q [a, b] t) : (w.cell? ⟨q, 0, none⟩ = some a ∧ w.cell? ⟨q, 1, none⟩ = some b) ∧ w.frozen? ⟨q, 0, none⟩ = false ∧ w.frozen? ⟨q, 1, none⟩ = false :=
  ⟨⟨h.c0, h.c1⟩, h.frozen 0, h.frozen 1⟩
theorem SBlk.new {w : World} {q : Nat} {cs : List Value} {t : TypeId} (h : q = w.heap.size) : SBlk (w.alloc (.cells cs.toArray t)) q cs t := h ▸ alloc_sblk w cs t
theorem SBlk.alc {w : World} {q : Nat} {cs : List Value} {t : TypeId} {o : Obj} (h : SBlk w q cs t) : SBlk (w.alloc o) q cs t := h.grown (World.grownBy_alloc w o none) (by simp)
theorem SBlk.drw {w : World} {q : Nat} {cs : List Value} {t : TypeId} (h : SBlk w q cs t) : SBlk w.drew q cs t := h
theorem SBlk.oth {w : World} {q c i : Nat} {cs : List Value} {t : TypeId} {v : Value} (h : SBlk w q cs t) (hne : q ≠ c) : SBlk (w.setCell ⟨c, i, none⟩ v) q cs t := h.grown (grown_set w c i v) (by simpa using hne)
theorem SBlk.cal {w w2 : World} {q : Nat} {cs : List Value} {t : TypeId} (hg : w.grownBy w2 none) (h : SBlk w q cs t) : SBlk w2 q cs t := h.grown hg (by simp)
theorem SBlk.of_eq {w : World} {q : Nat} {cs ds : List Value} {t : TypeId} (h : SBlk w q cs t) (e : cs = ds) : SBlk w q ds t := e ▸ h
theorem Below.cal {B : Nat} {w w1 w2 : World} (hg : w1.grownBy w2 none) (h : Below B w w1) (hB : B ≤ w.heap.size) : Below B w w2 := h.trans ((grown_below hg).mono (Nat.le_trans hB h.size))
theorem Below.alc {B : Nat} {w w1 : World} {o : Obj} (h : Below B w w1) (hB : B ≤ w.heap.size) : Below B w (w1.alloc o) := h.alloc (Nat.le_trans hB h.size) o
theorem Below.stc {B : Nat} {w w1 : World} {c i : Nat} {v : Value} (h : Below B w w1) (hB : B ≤ c) : Below B w (w1.setCell ⟨c, i, none⟩ v) := h.setCell (p := ⟨c, i, none⟩) hB v

theorem fin0 {w wr wx : World} {p g q : Nat} {a0 : Option Addr} {len0 cap0 : Nat} {bs : List Int} {at_ : Nat} {e : Int} {x0 x1 x2 v : Value} {ta : Option Addr} {n tc qs qt : Nat} {ts : List Int}
    (hR : RR w wr p g q a0 len0 cap0 bs at_ e) (hb : Below wr.heap.size wr wx) (hs : SBlk wx qs [x0, x1, x2] 47) (ht : SBlk wx qt [v, .slice ta n tc] 49) (hta : ∀ w0, Row w0 a0 len0 bs → Row w0 ta n ts)
    (h1 : wr.heap.size ≤ qs) (h2 : wr.heap.size ≤ qt) :
    ∃ qs' qt' ta' tc', Value.pointer (some ⟨qs, 0, none⟩) = .pointer (some ⟨qs', 0, none⟩) ∧ Value.pointer (some ⟨qt, 0, none⟩) = .pointer (some ⟨qt', 0, none⟩) ∧ SBlk wx qs' [x0, x1, x2] 47 ∧ SBlk wx qt' [v, .slice ta' n tc'] 49 ∧ (∀ w0, Row w0 a0 len0 bs → Row w0 ta' n ts) ∧ RR w wx p g q a0 len0 cap0 bs at_ e ∧ qs' ≠ q ∧ qt' ≠ q ∧ qt' ≠ p := by
  have hq := hR.box.lt
  have hp := hR.win.blk.lt
  exact ⟨qs, qt, ta, tc, rfl, rfl, hs, ht, hta, hR.keep hb, by omega, by omega, by omega⟩
theorem fin1 {w wr w2 : World} {p g q : Nat} {a0 : Option Addr} {len0 cap0 : Nat} {bs : List Int} {at_ : Nat} {e : Int} {x0 x1 x2 v y0 y1 y2 u0 u1 : Value} {ta : Option Addr} {n tc qs qt : Nat} {ts : List Int}
    (hR : RR w wr p g q a0 len0 cap0 bs at_ e) (hb : Below wr.heap.size wr w2) (hs : SBlk w2 qs [y0, y1, y2] 47) (ht : SBlk w2 qt [u0, u1] 49) (hta : ∀ w0, Row w0 a0 len0 bs → Row w0 ta n ts)
    (h1 : wr.heap.size ≤ qs) (h2 : wr.heap.size ≤ qt) (hne : qs ≠ qt) :
    ∃ qs' qt' ta' tc', Value.pointer (some ⟨qs, 0, none⟩) = .pointer (some ⟨qs', 0, none⟩) ∧ Value.pointer (some ⟨qt, 0, none⟩) = .pointer (some ⟨qt', 0, none⟩) ∧ SBlk (((((w2.setCell ⟨qs, 0, none⟩ x0).setCell ⟨qs, 1, none⟩ x1).setCell ⟨qs, 2, none⟩ x2).setCell ⟨qt, 0, none⟩ v).setCell ⟨qt, 1, none⟩ (.slice ta n tc)) qs' [x0, x1, x2] 47 ∧ SBlk (((((w2.setCell ⟨qs, 0, none⟩ x0).setCell ⟨qs, 1, none⟩ x1).setCell ⟨qs, 2, none⟩ x2).setCell ⟨qt, 0, none⟩ v).setCell ⟨qt, 1, none⟩ (.slice ta n tc)) qt' [v, .slice ta' n tc'] 49 ∧ (∀ w0, Row w0 a0 len0 bs → Row w0 ta' n ts) ∧ RR w (((((w2.setCell ⟨qs, 0, none⟩ x0).setCell ⟨qs, 1, none⟩ x1).setCell ⟨qs, 2, none⟩ x2).setCell ⟨qt, 0, none⟩ v).setCell ⟨qt, 1, none⟩ (.slice ta n tc)) p g q a0 len0 cap0 bs at_ e ∧ qs' ≠ q ∧ qt' ≠ q ∧ qt' ≠ p :=
  fin0 hR (Below.stc (Below.stc (Below.stc (Below.stc (Below.stc hb h1) h1) h1) h2) h2) (SBlk.oth (SBlk.oth (((hs.set 0 x0).set 1 x1).set 2 x2) hne) hne) (((SBlk.oth (SBlk.oth (SBlk.oth ht hne.symm) hne.symm) hne.symm).set 0 v).set 1 (.slice ta n tc)) hta h1 h2
theorem fin4 {w wr w2 : World} {p g q : Nat} {a0 : Option Addr} {len0 cap0 : Nat} {bs : List Int} {at_ : Nat} {e : Int} {x0 x1 x2 v u0 u1 : Value} {ta : Option Addr} {n tc qt : Nat} {ts : List Int}
    (hR : RR w wr p g q a0 len0 cap0 bs at_ e) (hb : Below wr.heap.size wr w2) (ht : SBlk w2 qt [u0, u1] 49) (hta : ∀ w0, Row w0 a0 len0 bs → Row w0 ta n ts)
    (h2 : wr.heap.size ≤ qt) :
    ∃ qs' qt' ta' tc', Value.pointer (some ⟨w2.heap.size, 0, none⟩) = .pointer (some ⟨qs', 0, none⟩) ∧ Value.pointer (some ⟨qt, 0, none⟩) = .pointer (some ⟨qt', 0, none⟩) ∧ SBlk (((w2.alloc (.cells #[x0, x1, x2] 47)).setCell ⟨qt, 0, none⟩ v).setCell ⟨qt, 1, none⟩ (.slice ta n tc)) qs' [x0, x1, x2] 47 ∧ SBlk (((w2.alloc (.cells #[x0, x1, x2] 47)).setCell ⟨qt, 0, none⟩ v).setCell ⟨qt, 1, none⟩ (.slice ta n tc)) qt' [v, .slice ta' n tc'] 49 ∧ (∀ w0, Row w0 a0 len0 bs → Row w0 ta' n ts) ∧ RR w (((w2.alloc (.cells #[x0, x1, x2] 47)).setCell ⟨qt, 0, none⟩ v).setCell ⟨qt, 1, none⟩ (.slice ta n tc)) p g q a0 len0 cap0 bs at_ e ∧ qs' ≠ q ∧ qt' ≠ q ∧ qt' ≠ p :=
  fin0 hR (Below.stc (Below.stc (Below.alc hb (Nat.le_refl _)) h2) h2) (SBlk.oth (SBlk.oth (alloc_sblk w2 [x0, x1, x2] 47) (Nat.ne_of_gt ht.lt)) (Nat.ne_of_gt ht.lt)) ((ht.alc.set 0 v).set 1 (.slice ta n tc)) hta hb.size h2
theorem fin5 {w wr w2 : World} {p g q : Nat} {a0 : Option Addr} {len0 cap0 : Nat} {bs : List Int} {at_ : Nat} {e : Int} {x0 x1 x2 v : Value} {ta : Option Addr} {n tc : Nat} {ts : List Int}
    (hR : RR w wr p g q a0 len0 cap0 bs at_ e) (hb : Below wr.heap.size wr w2) (hta : ∀ w0, Row w0 a0 len0 bs → Row w0 ta n ts) :
    ∃ qs' qt' ta' tc', Value.pointer (some ⟨w2.heap.size, 0, none⟩) = .pointer (some ⟨qs', 0, none⟩) ∧ Value.pointer (some ⟨w2.heap.size + 1, 0, none⟩) = .pointer (some ⟨qt', 0, none⟩) ∧ SBlk ((w2.alloc (.cells #[x0, x1, x2] 47)).alloc (.cells #[v, .slice ta n tc] 49)) qs' [x0, x1, x2] 47 ∧ SBlk ((w2.alloc (.cells #[x0, x1, x2] 47)).alloc (.cells #[v, .slice ta n tc] 49)) qt' [v, .slice ta' n tc'] 49 ∧ (∀ w0, Row w0 a0 len0 bs → Row w0 ta' n ts) ∧ RR w ((w2.alloc (.cells #[x0, x1, x2] 47)).alloc (.cells #[v, .slice ta n tc] 49)) p g q a0 len0 cap0 bs at_ e ∧ qs' ≠ q ∧ qt' ≠ q ∧ qt' ≠ p :=
  fin0 hR (Below.alc (Below.alc hb (Nat.le_refl _)) (Nat.le_refl _)) (SBlk.alc (alloc_sblk w2 [x0, x1, x2] 47)) (heap_alloc2_new w2 _ _) hta hb.size (Nat.le_trans hb.size (Nat.le_succ _))
theorem fin6 {w wr w2 : World} {p g q : Nat} {a0 : Option Addr} {len0 cap0 : Nat} {bs : List Int} {at_ : Nat} {e : Int} {x0 x1 x2 v : Value} {ta : Option Addr} {n tc : Nat} {ts : List Int}
    (hR : RR w wr p g q a0 len0 cap0 bs at_ e) (hb : Below wr.heap.size wr w2) (hta : ∀ w0, Row w0 a0 len0 bs → Row w0 ta n ts) :
    ∃ qs' qt' ta' tc', Value.pointer (some ⟨w2.heap.size + 1, 0, none⟩) = .pointer (some ⟨qs', 0, none⟩) ∧ Value.pointer (some ⟨w2.heap.size, 0, none⟩) = .pointer (some ⟨qt', 0, none⟩) ∧ SBlk ((w2.alloc (.cells #[v, .slice ta n tc] 49)).alloc (.cells #[x0, x1, x2] 47)) qs' [x0, x1, x2] 47 ∧ SBlk ((w2.alloc (.cells #[v, .slice ta n tc] 49)).alloc (.cells #[x0, x1, x2] 47)) qt' [v, .slice ta' n tc'] 49 ∧ (∀ w0, Row w0 a0 len0 bs → Row w0 ta' n ts) ∧ RR w ((w2.alloc (.cells #[v, .slice ta n tc] 49)).alloc (.cells #[x0, x1, x2] 47)) p g q a0 len0 cap0 bs at_ e ∧ qs' ≠ q ∧ qt' ≠ q ∧ qt' ≠ p :=
  fin0 hR (Below.alc (Below.alc hb (Nat.le_refl _)) (Nat.le_refl _)) (heap_alloc2_new w2 _ _) (SBlk.alc (alloc_sblk w2 [v, .slice ta n tc] 49)) hta (Nat.le_trans hb.size (Nat.le_succ _)) hb.size

set_option maxRecDepth 100000 in
set_option maxHeartbeats 16000000 in
theorem reads_try (a0 : Option Addr) (len0 cap0 : Nat) (bs : List Int) (a1 : Option Addr) (len1 cap1 : Nat) (A : Nat → Ac) (w : World) (R : Row w a0 len0 bs) (hn0 : a0 = none → cap0 = 0) (hc0 : len0 ≤ cap0) (hA : Acts w a1 len1 A) (h0 : ¬ (70000 : Int) < len0) (h1 : ¬ (100 : Int) < len1) :
    Calls Try.prog 6 #[.slice a0 len0 cap0, .slice a1 len1 cap1] w fun e w' => e = .returned (.bool true) ∧ Below w.heap.size w w' := by
  obtain ⟨i5, hi, hz0, hz1, hz2⟩ := info_parts Try.info5
  have hmade : (w.alloc (.cells #[] 5)).ownsRow w.heap.size 5 1 (.slice (some ⟨w.heap.size, 0, none⟩) 0 0) 0 [] := World.ownsRow_made w #[] 0 (Nat.le_refl _) (Nat.zero_le _) rfl
  have bel0 : Below w.heap.size w (w.alloc (.cells #[] 5)) := (Below.refl _ _).alloc (Nat.le_refl _) _
  have b0 : Row (w.alloc (.cells #[] 5)) a0 len0 bs := R.below bel0
  have hbl := R.len_eq
  have HBL : Hid (bs.length = len0) := hbl
  clear hbl
  go_enter Try.func6, Try.ntmps6
  go_wp2_with (at_builtin; refine wpList_append8 rfl (.tmp 26) (.tmp 27) 22 rfl w.heap.size i5 Try.underlying22 hi hz0 hz1 hz2 _ 0 [] rfl hmade _ len0 _ bs rfl b0 hn0 (by omega) (by simp) ?_; intro v3 w3 ho3 hg3; rw [Nat.zero_add, List.nil_append] at ho3; obtain ⟨ca, cc, hv3, hform⟩ := owns_form ho3; rw [hv3])
  have bel3 : Below w.heap.size w w3 := bel0.trans (below_own hg3 hmade (by simp))
  rw [hv3] at ho3
  obtain ⟨ca', cc', ev, Rc⟩ := owns_row ho3 R.byt (by unfold maxLen; omega)
  injection ev with ev1 ev2 ev3
  subst ev1
  refine (newreader_any ca len0 cc bs w3 Rc (by omega)).mono ?_
  rintro e w4 ⟨p, g, rfl, hR4, hp, hg, hg4⟩
  have hcb : 0 < len0 → ∃ c, ca = some ⟨c, 0, none⟩ ∧ w.heap.size ≤ c ∧ c < w3.heap.size ∧ CB w4 c len0 := fun h => by
    obtain ⟨c, e1, e2, e3, e4⟩ := owns_cb ho3 R.byt h
    exact ⟨c, e1, e2, e3, e4.grown hg4 (by simp)⟩
  clear ho3 hv3 hform Rc hmade ev2 ev3
  go_wp2_with fail
  have hst : RR w (w4.alloc (.cells #[.slice a0 len0 cap0, .int .i64 0, .int .i64 0] 47)) p g w4.heap.size a0 len0 cap0 bs 0 0 :=
    ⟨hR4.grown (World.grownBy_alloc w4 _ none) (by simp) (by simp), alloc_sblk w4 [.slice a0 len0 cap0, .int .i64 0, .int .i64 0] 47, bel3.trans ((grown_below (grown_trans hg4 (World.grownBy_alloc w4 _ none))).mono bel3.size), by have := hR4.blk.lt; omega, by have := hR4.row.lt; omega⟩
  have hcb2 : 0 < len0 → ∃ c, ca = some ⟨c, 0, none⟩ ∧ w.heap.size ≤ c ∧ c < w3.heap.size ∧ CB (w4.alloc (.cells #[.slice a0 len0 cap0, .int .i64 0, .int .i64 0] 47)) c len0 := fun h => by
    obtain ⟨c, e1, e2, e3, e4⟩ := hcb h
    exact ⟨c, e1, e2, e3, e4.grown (World.grownBy_alloc w4 _ none) (by simp)⟩
  have hs3 := bel3.size
  have hs4 := hg4.size
  have hp' : w.heap.size ≤ p := by omega
  have hg' : w.heap.size ≤ g := by omega
  have hq' : w.heap.size ≤ w4.heap.size := by omega
  have hq3 : w3.heap.size ≤ w4.heap.size := by omega
  clear hcb hR4
  generalize hq : w4.heap.size = q at hst hq' hq3
  have HQ : Hid (w4.heap.size = q) := hq
  clear hq
  go_loopw [8] (fun i wr => ∃ k : Nat, k ≤ len0 ∧ i = .int .i64 k ∧ RR w wr p g q a0 len0 cap0 bs 0 0 ∧ (0 < len0 → ∃ c, ca = some ⟨c, 0, none⟩ ∧ w.heap.size ≤ c ∧ c < w3.heap.size ∧ CB wr c len0)) (fun i _ => len0 - (intOf i).toNat)
  case atStart => exact ⟨0, Nat.zero_le _, rfl, hst, hcb2⟩
  case round =>
    obtain ⟨k, hk, rfl, hR1, hC1⟩ := hrel
    clear hst hcb2
    by_cases hkl : k < len0
    · obtain ⟨c, rfl, hc1, hc2, hCB⟩ := hC1 (by omega)
      obtain ⟨x, hx, hxf, hx0, hx1⟩ := hCB.at_ k hkl
      have hk0 : (0 : Int) ≤ k := by omega
      have hk1 : (k : Int) < len0 := by omega
      go_wp2_with fail
      go_roundw
      case rel => exact ⟨k + 1, by omega, by go_num, hR1.set c k _ (by omega) (by omega) (by omega) hc1, fun _ => ⟨c, rfl, hc1, hc2, hCB.set k _ (by omega) (by omega)⟩⟩
      case measure => simp [intOf]; omega
    · clear hC1
      go_wp2_with fail
      clear hkl hk hg3 b0 bel0 hg4 hs4
      go_loopw [9] (fun i wr => ∃ (j at_ : Nat) (e : Int), j ≤ len1 ∧ i = .int .i64 j ∧ RR w wr p g q a0 len0 cap0 bs at_ e) (fun i _ => len1 - (intOf i).toNat)
      case atStart => exact ⟨0, 0, 0, Nat.zero_le _, rfl, hR1⟩
      case round =>
        obtain ⟨j, at_, e, hj, rfl, hR⟩ := hrel
        clear hR1
        by_cases hlt : j < len1
        · obtain ⟨b, off, rfl, hAt⟩ := hA.at_ (by omega)
          have hA0 := hAt j hlt
          have HA0 : Hid (ActAt w b off j (A j)) := hA0
          have hAj := hA0.below hR.bel
          have c0 := hAj.c0
          have c1 := hAj.c1
          have c2 := hAj.c2
          have c3 := hAj.c3
          have hj0 : (0 : Int) ≤ j := by omega
          have hj1 : (j : Int) < len1 := by omega
          have d0 := hR.box.c0
          have d1 := hR.box.c1
          have d2 := hR.box.c2
          have hal := hR.win.at_le
          rw [HBL.out] at hal
          have hRd := fun (wx : World) (hb : Below wr.heap.size wr wx) => refread_any a0 len0 cap0 bs at_ e (A j).d (A j).n (A j).v (A j).a (A j).len (A j).cap wx ((R.below hR.bel).below hb) hc0 (by omega) hal hAj.bd.2
          have hSb := rd_byt R.byt at_ e (A j).d (A j).n
          have hSl := rd_len bs at_ e (A j).d (A j).n
          rw [HBL.out] at hSl
          generalize hS : rd bs at_ e (A j).d (A j).n = S at hRd hSb hSl
          have HS : Hid (rd bs at_ e (A j).d (A j).n = S) := hS
          clear hS
          have HRd : Hid (∀ (wx : World), Below wr.heap.size wr wx → Calls Try.prog 22 #[.agg #[.slice a0 len0 cap0, .int .i64 at_, .int .i64 e], .agg #[.int .i64 (A j).d, .int .i64 (A j).n, .int .u64 (A j).v, .slice (A j).a (A j).len (A j).cap]] wx fun r w' => ∃ ta tc, r = .returned (.tuple #[.agg #[.slice a0 len0 cap0, .int .i64 S.at_, .int .i64 S.e], .agg #[.int .u64 S.v, .slice ta S.t.length tc]]) ∧ (∀ w0, Row w0 a0 len0 bs → Row w0 ta S.t.length S.t) ∧ wx.grownBy w' none ∧ Below wr.heap.size wr w') := fun wx hb => (hRd wx hb).mono fun r w' ⟨ta, tc, h1, h2, h3⟩ => ⟨ta, tc, h1, h2, h3, Below.cal h3 hb (Nat.le_refl _)⟩
          clear hRd
          have hql := hR.box.lt
          have hpl := hR.win.blk.lt
          go_upto_region 13 with fail
          go_cut [10, 11] (fun s t wx => ∃ qs qt ta tc, s = .pointer (some ⟨qs, 0, none⟩) ∧ t = .pointer (some ⟨qt, 0, none⟩) ∧ SBlk wx qs [.slice a0 len0 cap0, .int .i64 S.at_, .int .i64 S.e] 47 ∧ SBlk wx qt [.int .u64 S.v, .slice ta S.t.length tc] 49 ∧ (∀ w0, Row w0 a0 len0 bs → Row w0 ta S.t.length S.t) ∧ RR w wx p g q a0 len0 cap0 bs at_ e ∧ qs ≠ q ∧ qt ≠ q ∧ qt ≠ p)
          case first =>
            have hbl := hAj.lt
            have m1 := alc_cell hbl
            have m2 := alc_cell hql
            have m3 := alc_cell3 hbl
            have m4 := alc_cell3 hql
            go_region_with (first | (go_at_call 22; refine (HRd.out _ (by first | exact (Below.refl _ _).drew | exact (Below.alc (Below.refl _ _) (Nat.le_refl _)).drew | exact (Below.alc (Below.alc (Below.refl _ _) (Nat.le_refl _)) (Nat.le_refl _)).drew | exact Below.alc (Below.refl _ _).drew (Nat.le_refl _) | exact Below.alc (Below.alc (Below.refl _ _).drew (Nat.le_refl _)) (Nat.le_refl _))).mono ?_; rintro e w2 ⟨ta, tc, rfl, hta, hg2, hb2⟩; have hz := hg2.size; (first | (have z1 : SBlk w2 (wr.heap.size + 1) [.slice none 0 0, .int .i64 0, .int .i64 0] 47 := SBlk.cal hg2 (SBlk.drw (SBlk.new (by simp))); have z2 : SBlk w2 wr.heap.size [.int .u64 0, .slice none 0 0] 49 := SBlk.cal hg2 (SBlk.drw (SBlk.alc (SBlk.new rfl))); obtain ⟨⟨u1, u2, u3⟩, u4, u5, u6⟩ := z1.three; obtain ⟨⟨v1, v2⟩, v3, v4⟩ := z2.two) | (have z1 : SBlk w2 (wr.heap.size + 1) [.int .u64 0, .slice none 0 0] 49 := SBlk.cal hg2 (SBlk.drw (SBlk.new (by simp))); have z2 : SBlk w2 wr.heap.size [.slice none 0 0, .int .i64 0, .int .i64 0] 47 := SBlk.cal hg2 (SBlk.drw (SBlk.alc (SBlk.new rfl))); obtain ⟨⟨v1, v2⟩, v3, v4⟩ := z1.two; obtain ⟨⟨u1, u2, u3⟩, u4, u5, u6⟩ := z2.three) | (have z1 : SBlk w2 wr.heap.size [.slice none 0 0, .int .i64 0, .int .i64 0] 47 := SBlk.cal hg2 (SBlk.drw (SBlk.new rfl)); have k1 := alc_cell z1.lt; have k2 := alc_frozen z1.lt; have k3 : ¬ wr.heap.size = w2.heap.size := Nat.ne_of_lt z1.lt; have k4 : ¬ w2.heap.size = wr.heap.size := Ne.symm k3; obtain ⟨⟨u1, u2, u3⟩, u4, u5, u6⟩ := z1.three) | (have z1 : SBlk w2 wr.heap.size [.int .u64 0, .slice none 0 0] 49 := SBlk.cal hg2 (SBlk.drw (SBlk.new rfl)); have k1 := alc_cell z1.lt; have k2 := alc_frozen z1.lt; have k3 : ¬ wr.heap.size = w2.heap.size := Nat.ne_of_lt z1.lt; have k4 : ¬ w2.heap.size = wr.heap.size := Ne.symm k3; obtain ⟨⟨v1, v2⟩, v3, v4⟩ := z1.two) | (have k1 := alc_cell2 w2; have k2 := alc_frozen2 w2))))
            all_goals
              go_wp2_with fail
              go_meet
              case rel =>
                first
                  | (with_reducible exact fin1 hR hb2 z1 z2 hta (Nat.le_succ _) (Nat.le_refl _) (Nat.succ_ne_self _))
                  | (with_reducible exact fin1 hR hb2 z2 z1 hta (Nat.le_refl _) (Nat.le_succ _) (Ne.symm (Nat.succ_ne_self _)))
                  | (with_reducible exact fin1 hR (Below.alc hb2 (Nat.le_refl _)) (SBlk.alc z1) (alloc_sblk w2 [.int .u64 0, .slice none 0 0] 49) hta (Nat.le_refl _) hb2.size k3)
                  | (with_reducible exact fin4 hR hb2 z1 hta (Nat.le_refl _))
                  | (with_reducible exact fin5 hR hb2 hta)
                  | (with_reducible exact fin6 hR hb2 hta)
          case rest =>
            obtain ⟨qs, qt, ta, tc, rfl, rfl, hs, ht, hta, hRx, n1, n2, n3⟩ := hcut
            clear HRd hR d0 d1 d2 hAj c0 c1 c2 c3
            have s0 := hs.c0
            have s1 := hs.c1
            have s2 := hs.c2
            have f0 := hRx.box.frozen 0
            have f1 := hRx.box.frozen 1
            have f2 := hRx.box.frozen 2
            have r0 := hRx.box.c0
            have r1 := hRx.box.c1
            have r2 := hRx.box.c2
            have hM := hRx.rm hq' S.at_ S.e
            have htM : SBlk (((wc.setCell ⟨q, 0, none⟩ (.slice a0 len0 cap0)).setCell ⟨q, 1, none⟩ (.int .i64 S.at_)).setCell ⟨q, 2, none⟩ (.int .i64 S.e)) qt [.int .u64 S.v, .slice ta S.t.length tc] 49 := SBlk.oth (SBlk.oth (SBlk.oth ht n2) n2) n2
            have hAc := HA0.out.below hM.bel
            have c0 := hAc.c0
            have c1 := hAc.c1
            have hzs : ∃ N : Nat, N = (((wc.setCell ⟨q, 0, none⟩ (.slice a0 len0 cap0)).setCell ⟨q, 1, none⟩ (.int .i64 S.at_)).setCell ⟨q, 2, none⟩ (.int .i64 S.e)).heap.size := ⟨_, rfl⟩
            obtain ⟨N, hN0⟩ := hzs
            have hNq : q < N := by rw [hN0]; exact hM.box.lt
            have hNp : p < N := by rw [hN0]; exact hM.win.blk.lt
            have hNg : g < N := by rw [hN0]; exact hM.win.row.lt
            have HN0 : Hid (N ≤ (((wc.setCell ⟨q, 0, none⟩ (.slice a0 len0 cap0)).setCell ⟨q, 1, none⟩ (.int .i64 S.at_)).setCell ⟨q, 2, none⟩ (.int .i64 S.e)).heap.size) := Nat.le_of_eq hN0
            clear hN0
            have hbd := HA0.out.bd.2
            go_upto_block 4 with fail
            go_cut [12, 13] (fun n t wx => ∃ tb, n = .int .u64 S.v ∧ t = .slice tb S.t.length S.t.length ∧ Row wx tb S.t.length S.t ∧ (0 < S.t.length → ∃ gt, tb = some ⟨gt, 0, none⟩ ∧ Blk wx gt (bv S.t) ∧ N ≤ gt) ∧ RR w wx p g q a0 len0 cap0 bs S.at_ S.e ∧ SBlk wx qt [.int .u64 S.v, .slice ta S.t.length tc] 49)
            case first =>
              by_cases hd : (A j).d = 0
              · have HF : Hid (S = rN bs at_ e (A j).n) := by show _ = _; rw [← HS.out]; simp [rd, hd]
                have hdb : ((A j).d == 0) = true := by simpa using hd
                clear hd
                have hN := rnum_any p g bs at_ e (A j).n _ hM.win hbd
                go_wp2_with (go_at_call 23; refine hN.mono ?_; rintro e w2 ⟨rfl, hW2, hg2⟩)
                go_meet
                case rel =>
                  have ht0 : S.t = [] := by rw [HF.out]; exact rN_t _ _ _ _
                  rw [← HF.out] at hW2
                  exact ⟨none, by rw [HF.out], by rw [ht0]; rfl, by rw [ht0]; exact Row.nil0 _, fun h => by rw [ht0] at h; exact absurd h (by simp), hM.rr hp' hW2 hg2, htM.grown hg2 (by simpa using n3)⟩
              · have hd0 : ((A j).d == 0) = false := by simpa using hd
                by_cases hd2 : (A j).d = 2
                · have HF : Hid (S = rT bs at_ e (A j).n) := by show _ = _; rw [← HS.out]; simp [rd, hd2]
                  have hd2b : ((A j).d == 2) = true := by simpa using hd2
                  clear hd hd2
                  have hN := rtext_any p g bs at_ e (A j).n _ hM.win hbd
                  go_wp2_with (go_at_call 24; refine hN.mono ?_; rintro e w2 ⟨v2, rfl, hres, hW2, hg2⟩; rw [← HF.out] at hW2 hres; obtain ⟨tb, rfl, hRt, hGt⟩ := hres.tt hSb (by unfold maxLen; omega))
                  go_meet
                  case rel =>
                    have hv0 : S.v = 0 := by rw [HF.out]; exact rT_v _ _ _ _
                    exact ⟨tb, by rw [hv0], rfl, hRt, fun h => by obtain ⟨gt, e1, e2, e3⟩ := hGt h; exact ⟨gt, e1, e2, Nat.le_trans HN0.out e3⟩, hM.rr hp' hW2 hg2, htM.grown hg2 (by simpa using n3)⟩
                · have HF : Hid (S = rB bs at_ e (A j).n) := by show _ = _; rw [← HS.out]; simp [rd, hd, hd2]
                  have hd2b : ((A j).d == 2) = false := by simpa using hd2
                  clear hd hd2
                  have hN := rbytes_any p g bs at_ e (A j).n _ hM.win hbd
                  go_wp2_with (go_at_call 25; refine hN.mono ?_; rintro e w2 ⟨v2, rfl, hres, hW2, hg2⟩; rw [← HF.out] at hW2 hres; obtain ⟨tb, rfl, hRt, hGt⟩ := hres.tt hSb (by unfold maxLen; omega))
                  go_meet
                  case rel =>
                    have hv0 : S.v = 0 := by rw [HF.out]; exact rB_v _ _ _ _
                    exact ⟨tb, by rw [hv0], rfl, hRt, fun h => by obtain ⟨gt, e1, e2, e3⟩ := hGt h; exact ⟨gt, e1, e2, Nat.le_trans HN0.out e3⟩, hM.rr hp' hW2 hg2, htM.grown hg2 (by simpa using n3)⟩
            case rest =>
              obtain ⟨tb, rfl, rfl, hRt, hGt, hR2, ht2⟩ := hcut
              clear hM htM hAc c0 c1 s0 s1 s2 f0 f1 f2 r0 r1 r2 hs ht hRx HN0
              have hE := rerr_any p _ _ _ wc hR2.win.blk
              go_wp2_with (go_at_call 26; refine hE.mono ?_; rintro e w5 ⟨rfl, hg5, hh5⟩)
              clear hh5
              have hb5 : Below wc.heap.size wc w5 := grown_below hg5
              have hR5 := hR2.keep hb5
              have ht5 := ht2.below hb5 ht2.lt
              have y0 := ht5.c0
              have y1 := ht5.c1
              have x1 := hR5.box.c1
              have x2 := hR5.box.c2
              have RT := hRt.below hb5
              have RB := (hta w R).below hR5.bel
              have hat := hR5.win.at_le
              rw [HBL.out] at hat
              have hwr : IntKind.i64.wrap ((len0 : Int) - S.at_) = (len0 : Int) - S.at_ := by rw [IntKind.wrap_i64]; omega
              have HLn : Hid (∀ n, Calls Try.prog 27 #[.pointer (some ⟨p, 0, none⟩)] (w5.drewN n) fun r w' => r = .returned (.int .i64 ((len0 : Int) - S.at_)) ∧ ∃ m, w' = (w5.drewN n).drewN m) := fun n => by
                have h := rleft_q p g bs.length bs.length S.at_ S.e (w5.drewN n) hR5.win.blk hR5.win.len (by omega) (by omega)
                rw [HBL.out] at h
                exact h
              obtain ⟨cvt, hcv, hcr⟩ := cvt_ex
              have kT := fun n => hcr (w5.drewN n) _ _ S.t.length _ (RT.below (below_drewN' _ _ _))
              have kB := fun n => hcr (w5.drewN n) _ _ tc _ (RB.below (below_drewN' _ _ _))
              clear hcr
              go_quiet ((first | (go_at_call 12; exact Calls.quiet_of_same (num_q _ _)) | (go_at_call 27; exact Calls.quiet_of (HLn.out _))))
              have hGt5 : 0 < S.t.length → ∃ gt, tb = some ⟨gt, 0, none⟩ ∧ N ≤ gt ∧ CB w5 gt S.t.length := fun h => by
                obtain ⟨gt, e1, e2, e3⟩ := hGt h
                exact ⟨gt, e1, e3, (e2.cb hSb).grown hg5 (by simp)⟩
              clear hGt kT kB y0 y1 x1 x2 RT RB hE ht5 hRt hta ht2
              go_wp2_with fail
              go_loopw [16] (fun i wx => ∃ k : Nat, k ≤ S.t.length ∧ i = .int .i64 k ∧ RR w wx p g q a0 len0 cap0 bs S.at_ S.e ∧ (0 < S.t.length → ∃ gt, tb = some ⟨gt, 0, none⟩ ∧ N ≤ gt ∧ CB wx gt S.t.length)) (fun i _ => S.t.length - (intOf i).toNat)
              case atStart => exact ⟨0, Nat.zero_le _, rfl, hR5.keep (below_drewN' _ _ _), hGt5⟩
              case round =>
                obtain ⟨k, hk, rfl, hRk, hGk⟩ := hrel
                clear hGt5 hR5 hR2
                by_cases hkl : k < S.t.length
                · obtain ⟨gt, rfl, hgt, hCB⟩ := hGk (by omega)
                  obtain ⟨x, hx, hxf, hx0, hx1⟩ := hCB.at_ k hkl
                  have hk0 : (0 : Int) ≤ k := by omega
                  have hk1 : (k : Int) < S.t.length := by omega
                  go_wp2_with fail
                  go_roundw
                  case rel => exact ⟨k + 1, by omega, by go_num, hRk.set gt k _ (by omega) (by omega) (by omega) (by omega), fun _ => ⟨gt, rfl, hgt, hCB.set k _ (by omega) (by omega)⟩⟩
                  case measure => simp [intOf]; omega
                · go_wp2_with fail
                  go_roundw
                  case rel => exact ⟨j + 1, S.at_, S.e, by omega, by go_num, hRk⟩
                  case measure => simp [intOf]; omega
        · go_wp2_with (go_at_call 9; refine (live_any _).mono ?_; rintro e w' ⟨rfl, hb⟩)
          go_ret
          exact ⟨rfl, hR.bel.trans (Below.mono (by assumption) hR.bel.size)⟩

theorem reads_far (a0 : Option Addr) (len0 cap0 : Nat) (a1 : Option Addr) (len1 cap1 : Nat) (w : World) (h : (70000 : Int) < len0) :
    Calls Try.prog 6 #[.slice a0 len0 cap0, .slice a1 len1 cap1] w fun e w' => e = .returned (.bool true) ∧ Below w.heap.size w w' := by
  go_enter Try.func6, Try.ntmps6
  go_wp2_with (go_at_call 9; refine (live_any _).mono ?_; rintro e w' ⟨rfl, hb⟩)
  go_ret
  exact ⟨rfl, by assumption⟩
theorem reads_far2 (a0 : Option Addr) (len0 cap0 : Nat) (a1 : Option Addr) (len1 cap1 : Nat) (w : World) (h0 : ¬ (70000 : Int) < len0) (h : (100 : Int) < len1) :
    Calls Try.prog 6 #[.slice a0 len0 cap0, .slice a1 len1 cap1] w fun e w' => e = .returned (.bool true) ∧ Below w.heap.size w w' := by
  go_enter Try.func6, Try.ntmps6
  go_wp2_with (go_at_call 9; refine (live_any _).mono ?_; rintro e w' ⟨rfl, hb⟩)
  go_ret
  exact ⟨rfl, by assumption⟩

theorem fieldReads_walk (a0 : Option Addr) (len0 cap0 : Nat) (z0 : List Int) (a1 : Option Addr) (len1 cap1 : Nat) (A : Nat → Ac) (w : World) (w0 : IsRow .u8 w a0 len0 cap0 z0) (hA : Acts w a1 len1 A) :
    Calls Try.prog 6 #[.slice a0 len0 cap0, .slice a1 len1 cap1] w fun e w' => e = .returned (.bool true) ∧ Below w.heap.size w w' := by
  have hn : a0 = none → cap0 = 0 := by
    rcases w0 with ⟨_, _, e, _⟩ | ⟨x, e, _⟩
    · intro _; exact e
    · intro h; rw [e] at h; cases h
  have hc : len0 ≤ cap0 := by
    rcases w0 with ⟨_, e1, e2, _⟩ | ⟨x, _, hl, _⟩
    · omega
    · exact hl
  by_cases h0 : (70000 : Int) < len0
  · exact reads_far a0 len0 cap0 a1 len1 cap1 w h0
  · by_cases h1 : (100 : Int) < len1
    · exact reads_far2 a0 len0 cap0 a1 len1 cap1 w h0 h1
    · exact reads_try a0 len0 cap0 _ a1 len1 cap1 A w w0.row hn hc hA h0 h1
end Go.Proofs.Ythnehebkkfegdaa
