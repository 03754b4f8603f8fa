/- The program's keep: Load. -/
import Derived.Test.YtfhgbddeclldnaaN09
import Derived.Test.YtfhgbddeclldnaaN13
namespace Go.Proofs.Ytfhgbddeclldnaa
open Go.RowKit
set_option maxRecDepth 100000
set_option linter.unusedSimpArgs false
set_option linter.unusedVariables false

theorem ror_kli (m : Fm) : ror (kcp m 0) (kcp m 1) = (kli m).map (fun i : Nat => (i : Int)) := by
  have e0 : ∀ i, (rde (kcp m i)).2 = (kda m i).2 := fun _ => rfl
  rcases load_cases m with ⟨h0, h1, hc, hk⟩ | ⟨h0, hc, h⟩ | ⟨h1, hc, h⟩
  · rw [hk]
    unfold ror
    rw [e0, e0, if_pos ⟨h0, h1⟩]
    rfl
  · unfold ror
    rw [e0, e0, hc, if_neg (fun x => x.1 h0)]
    rcases h with ⟨h1, hk⟩ | ⟨h1, hk⟩
    · rw [hk, if_pos (Or.inr h1)]; rfl
    · rw [hk, if_neg (by rintro (x | x); exact x h0; exact x h1)]; rfl
  · unfold ror
    rw [e0, e0, hc, if_neg (fun x => x.2 h1)]
    rcases h with ⟨h0, hk⟩ | ⟨h0, hk⟩
    · rw [hk, if_pos (Or.inl h0)]; rfl
    · rw [hk, if_neg (by rintro (x | x); exact x h0; exact x h1)]; rfl
theorem kli_len (m : Fm) : (kli m).length ≤ 2 := by
  unfold kli
  exact Nat.le_trans (List.length_filter_le _ _) (Nat.le_refl _)
theorem kcp_len (m : Fm) (i : Nat) : (kcp m i).length ≤ 32 := by unfold kcp; simp; omega
/-- the records' cells -/
def rcs (m : Fm) (l : List Nat) : List Value := l.flatMap fun i => (kda m i).1.cells
theorem rcs_len (m : Fm) (l : List Nat) : (rcs m l).length = l.length * 4 := by
  unfold rcs
  induction l with
  | nil => rfl
  | cons i l ih => rw [List.flatMap_cons, List.length_append, ih]; simp [Rc.cells]; omega
theorem rcs_at (m : Fm) (l : List Nat) (k i t : Nat) (h : l[k]? = some i) (ht : t < 4) : (rcs m l)[4 * k + t]? = (kda m i).1.cells[t]? := by
  induction l generalizing k with
  | nil => simp at h
  | cons x l ih =>
    have e : rcs m (x :: l) = (kda m x).1.cells ++ rcs m l := rfl
    have hx : (kda m x).1.cells.length = 4 := rfl
    rw [e]
    cases k with
    | zero =>
      obtain rfl : x = i := by simpa using h
      rw [List.getElem?_append_left (by omega)]
      simp
    | succ k =>
      rw [List.getElem?_append_right (by omega), hx, show 4 * (k + 1) + t - 4 = 4 * k + t by omega]
      exact ih k (by simpa using h)
theorem ld_of {w W : World} {m : Fm} {P : Pa.Pl} {base cW : Nat} {v : Value} {aW : Option Addr} (g : w.grownBy W none) (h : klo m P = (kli m, 0)) (hb : w.heap.size ≤ base) (ho : W.ownsRow base 26 4 v (kli m).length (rcs m (kli m))) (hw : ∀ (k i : Nat), (kli m)[k]? = some i → ∃ b o, aW = some ⟨b, o, none⟩ ∧ W.cell? ⟨b, o + k, none⟩ = some (.int .i64 i)) (hc : (kli m).length ≤ cW) (hn : ∀ b o, aW = some ⟨b, o, none⟩ → w.heap.size ≤ b) :
    LdPost m P w (.returned (.tuple #[v, .slice aW (kli m).length cW, .int .i64 0])) W := by
  rcases ho.2 with ⟨rfl, h0⟩ | ⟨gb, cap, cur, rfl, hg, hh, hc2, hm, hs, ht⟩
  · refine ⟨g, none, 0, 0, aW, _, cW, by rw [h], Nat.le_refl _, hc, fun _ _ e => (by cases e), hn, ?_⟩
    rw [h]
    refine ⟨h0.symm, rfl, fun k i e => ?_, hw⟩
    rw [List.eq_nil_of_length_eq_zero h0] at e
    simp at e
  · refine ⟨g, _, _, cap, aW, _, cW, by rw [h], hc2, hc, fun b o e => (by injection e with e; injection e with e1; omega), hn, ?_⟩
    rw [h]
    refine ⟨rfl, rfl, fun k i e => ⟨gb, 0, rfl, ?_⟩, hw⟩
    have hk : k < (kli m).length := (List.getElem?_eq_some_iff.1 e).1
    have hcell : ∀ t, t < 4 → W.cell? ⟨gb, 0 + 4 * k + t, none⟩ = (kda m i).1.cells[t]? := by
      intro t ht4
      have e1 : W.cell? ⟨gb, 0 + 4 * k + t, none⟩ = cur[0 + 4 * k + t]? := by simp [World.cell?, hh]
      rw [e1, ← rcs_at m _ k i t e ht4, ← ht, List.getElem?_take, if_pos (by omega), Array.getElem?_toList, Nat.zero_add]
    exact ⟨hcell 0 (by omega), hcell 1 (by omega), hcell 2 (by omega), hcell 3 (by omega)⟩
/-- between two rounds of Load's first loop: the plan, the copies that were read -/
structure Lc (w wr : World) (g gc : Nat) (P : Pa.Pl) (m : Fm) (j : Nat) (v0 v1 : Value) : Prop where
  gr : w.grownBy wr none
  p : Bx wr g 32 P.cells
  c : Bx wr gc 63 [v0, v1]
  lt : w.heap.size ≤ gc
  ne : g ≠ gc
  r0 : 0 < j → ∃ a l c, v0 = .slice a l c ∧ Row wr a l (kcp m 0) ∧ l ≤ c ∧ c ≤ maxLen ∧ ∀ b o, a = some ⟨b, o, none⟩ → b ≠ gc
  r1 : 1 < j → ∃ a l c, v1 = .slice a l c ∧ Row wr a l (kcp m 1) ∧ l ≤ c ∧ c ≤ maxLen ∧ ∀ b o, a = some ⟨b, o, none⟩ → b ≠ gc
theorem Lc.kept {w W W' : World} {g gc : Nat} {P : Pa.Pl} {m : Fm} {j : Nat} {v0 v1 : Value} (h : Lc w W g gc P m j v0 v1) (k : W.grownBy W' none) : Lc w W' g gc P m j v0 v1 := by
  refine ⟨grown_trans h.gr k, h.p.kept k, h.c.kept k, h.lt, h.ne, fun hj => ?_, fun hj => ?_⟩
  · obtain ⟨a, l, c, e, R, h1, h2, h3⟩ := h.r0 hj
    exact ⟨a, l, c, e, R.grown k, h1, h2, h3⟩
  · obtain ⟨a, l, c, e, R, h1, h2, h3⟩ := h.r1 hj
    exact ⟨a, l, c, e, R.grown k, h1, h2, h3⟩
theorem row_set {W : World} {a : Option Addr} {l gc i : Nat} {xs : List Int} {v : Value} (R : Row W a l xs) (h : ∀ b o, a = some ⟨b, o, none⟩ → b ≠ gc) : Row (W.setCell ⟨gc, i, none⟩ v) a l xs :=
  R.but fun b o e hb => (grown_set W gc i v).block b hb (by intro e'; injection e' with e'; exact h b o e e')
theorem Lc.zero {w W : World} {g gc : Nat} {P : Pa.Pl} {m : Fm} {v0 v1 : Value} (h : Lc w W g gc P m 0 v0 v1) {a : Option Addr} {l c : Nat} (R : Row W a l (kcp m 0)) (h1 : l ≤ c) (h2 : c ≤ maxLen) (h3 : ∀ b o, a = some ⟨b, o, none⟩ → b ≠ gc) : Lc w (W.setCell ⟨gc, 0, none⟩ (.slice a l c)) g gc P m 1 (.slice a l c) v1 :=
  ⟨grown_new h.gr (grown_set _ _ _ _) h.lt, h.p.but (grown_set _ _ _ _) h.ne, h.c.set 0 _, h.lt, h.ne, fun _ => ⟨a, l, c, rfl, row_set R h3, h1, h2, h3⟩, fun hj => by omega⟩
theorem Lc.one {w W : World} {g gc : Nat} {P : Pa.Pl} {m : Fm} {v0 v1 : Value} (h : Lc w W g gc P m 1 v0 v1) {a : Option Addr} {l c : Nat} (R : Row W a l (kcp m 1)) (h1 : l ≤ c) (h2 : c ≤ maxLen) (h3 : ∀ b o, a = some ⟨b, o, none⟩ → b ≠ gc) : Lc w (W.setCell ⟨gc, 1, none⟩ (.slice a l c)) g gc P m 2 v0 (.slice a l c) := by
  refine ⟨grown_new h.gr (grown_set _ _ _ _) h.lt, h.p.but (grown_set _ _ _ _) h.ne, h.c.set 1 _, h.lt, h.ne, fun _ => ?_, fun _ => ⟨a, l, c, rfl, row_set R h3, h1, h2, h3⟩⟩
  obtain ⟨a', l', c', e, R', k1, k2, k3⟩ := h.r0 (by omega)
  exact ⟨a', l', c', e, row_set R' k3, k1, k2, k3⟩
theorem box_row {W : World} {g n : Nat} {xs : List Int} (h : Box W g 5 (bv xs)) (hb : Byt xs) (hl : xs.length = n) (hm : n ≤ maxLen) : Row W (some ⟨g, 0, none⟩) n xs := by
  refine ⟨hl, hm, hb, fun _ => ⟨g, 0, rfl, fun i hi => ?_⟩⟩
  rw [h.c (0 + i), Nat.zero_add]
  simp [bv, List.getElem?_eq_getElem (show i < xs.length by omega), List.getD_eq_getElem?_getD]
/-- what is read of a copy, in new memory -/
def CrPost (m : Fm) (i : Nat) (w : World) (e : Ending) (w' : World) : Prop := w.grownBy w' none ∧ ∃ a l c, e = .returned (.tuple #[.slice a l c, .int .i64 (if m.off then 40 else 0)]) ∧ (m.off = false → Row w' a l (kcp m i) ∧ l ≤ c ∧ c ≤ maxLen ∧ ∀ b o, a = some ⟨b, o, none⟩ → w.heap.size ≤ b)
theorem pcopy_any {w : World} {fb bb db wb : Nat} {m : Fm} {G : Nat → Prop} {k : Nat} (h : PRep w fb bb db wb m G) (hg : m.Good k) (hs : 4 ≤ m.s) (hb : 64 ≤ m.b) (i : Nat) (hi : i < 2) :
    Calls Try.prog 27 #[.pointer (some ⟨fb, 0, none⟩), .int .i64 ((i : Int) * m.p * m.b), .int .i64 32] w (CrPost m i w) := by
  have h32 := pb32 hg hb
  have hp := hg.p
  have hb2 := hg.b
  have hq := Nat.mul_le_mul hp.2 hb2.2
  have e : (i : Int) * m.p * m.b = ((i * (m.p * m.b) : Nat) : Int) := by simp [Int.mul_assoc]
  have h1 := Nat.mul_le_mul_right (m.p * m.b) (show i + 1 ≤ m.s by omega)
  rw [Nat.add_mul, Nat.one_mul, ← Nat.mul_assoc m.s, ← hg.lB] at h1
  have h2 : i * (m.p * m.b) ≤ 1024 := Nat.le_trans (Nat.mul_le_mul_right _ (show i ≤ 1 by omega)) (by omega)
  have hfit : ((i * (m.p * m.b) : Nat) : Int) + 32 ≤ m.B.length := by omega
  refine (prep_read h hg ((i : Int) * m.p * m.b) 32 (by rw [e]; omega) ⟨by omega, by omega⟩).mono ?_
  rw [e]
  have er : rdE m.B.length m.off ((i * (m.p * m.b) : Nat) : Int) 32 = if m.off then 40 else 0 := by
    unfold rdE
    rw [if_neg (by omega)]
  rw [er]
  rintro _ w' ⟨v, rfl, g1, hv⟩
  rcases hv with ⟨h0, rfl⟩ | ⟨h0, g, rfl, hgn, hbx, hle⟩
  · refine ⟨g1, _, _, _, rfl, fun ho => ?_⟩
    rw [ho] at h0
    exact absurd rfl h0
  · refine ⟨g1, _, _, _, rfl, fun ho => ⟨?_, Nat.le_refl _, by decide, fun b o e => by (injection e with e; injection e with e1; omega)⟩⟩
    obtain ⟨pw, left, aT, cT, TT, hpf, -, -⟩ := h
    have hbyt : Byt ((m.B.drop (i * (m.p * m.b))).take 32) := (Byt.drop hpf.byt _).take _
    have hlen : ((m.B.drop (i * (m.p * m.b))).take 32).length = 32 := by simp; omega
    exact box_row hbx hbyt hlen (by decide)
theorem pload_nil (P : Pa.Pl) (w : World) (hP : P.ok) : Calls Try.prog 16 #[.pointer none, P.val] w fun e w' => e = .returned (.tuple #[.slice none 0 0, .slice none 0 0, .int .i64 5]) ∧ w.grownBy w' none := by
  have hc := fun W => pk_nil P W
  have Y0 := Bx.new w 32 P.cells
  obtain ⟨s, p, b, x0, x1, y0, y1, nn⟩ := P
  simp only [Pa.Pl.val, Pa.Pl.cells] at *
  have G0 := World.grownBy_alloc w (.cells #[.int .i64 s, .int .i64 p, .int .i64 b, .int .i64 x0, .int .i64 x1, .int .i64 y0, .int .i64 y1, .int .i64 nn] 32) none
  obtain ⟨d0, d1, d2, d3, d4, d5, d6, d7⟩ := plan8 Y0
  clear Y0
  go_enter Try.func16, Try.ntmps16
  go_wp2_with fail
  refine (hc _).mono ?_
  rintro e w1 ⟨rfl, g1⟩
  have HG : Hid _ := grown_trans G0 g1
  clear g1 G0 hc d0 d1 d2 d3 d4 d5 d6 d7
  go_wp2
  go_ret3
  exact ⟨rfl, HG.out⟩
theorem pload_bad {w : World} {fb bb db wb : Nat} {m : Fm} {G : Nat → Prop} {k : Nat} (h : PRep w fb bb db wb m G) (hg : m.Good k) (P : Pa.Pl) (hP : P.ok) (hko : kok m P = false) : Calls Try.prog 16 #[.pointer (some ⟨fb, 0, none⟩), P.val] w (LdPost m P w) := by
  have hlo : klo m P = ([], 1) := by unfold klo; rw [if_pos hko]
  have HB : Hid (∀ W, w.grownBy W none → LdPost m P w (.returned (.tuple #[.slice none 0 0, .slice none 0 0, .int .i64 1])) W) := fun W g => ld_bad g hlo
  have hc := fun W (g : w.grownBy W none) => pk_any (h.grown g) hg P hP
  have hk : kck m P = 1 := by unfold kck; rw [if_neg (by rw [hko]; simp)]
  rw [hk] at hc
  clear hlo hk hko h hg hP
  have Y0 := Bx.new w 32 P.cells
  obtain ⟨s, p, b, x0, x1, y0, y1, nn⟩ := P
  simp only [Pa.Pl.val, Pa.Pl.cells] at *
  have G0 := World.grownBy_alloc w (.cells #[.int .i64 s, .int .i64 p, .int .i64 b, .int .i64 x0, .int .i64 x1, .int .i64 y0, .int .i64 y1, .int .i64 nn] 32) none
  obtain ⟨d0, d1, d2, d3, d4, d5, d6, d7⟩ := plan8 Y0
  clear Y0
  go_enter Try.func16, Try.ntmps16
  go_wp2_with fail
  refine (hc _ G0).mono ?_
  rintro e w1 ⟨rfl, g1⟩
  have HG : Hid _ := grown_trans G0 g1
  clear g1 G0 hc d0 d1 d2 d3 d4 d5 d6 d7
  go_wp2
  go_ret3
  exact HB.out _ HG.out
theorem rec_info9 : (Try.prog.info? 26).map (fun i => (i.zero, i.size, i.bytes)) = some (some (.agg #[.int .u64 0, .int .i64 0, .int .i64 0, .int .u64 0]), 4, 32) := by kernel_rfl
theorem run_ix0 (x y : Int) (W : World) : (Instr.index 30 (.agg #[.int .i64 x, .int .i64 y]) (.int .i64 0)).run Try.prog W = .ok (.int .i64 x) W := by kernel_rfl
theorem run_ix1 (x y : Int) (W : World) : (Instr.index 30 (.agg #[.int .i64 x, .int .i64 y]) (.int .i64 1)).run Try.prog W = .ok (.int .i64 y) W := by kernel_rfl
set_option maxHeartbeats 4000000 in
theorem pload_off {w : World} {fb bb db wb : Nat} {m : Fm} {G : Nat → Prop} {k : Nat} (h : PRep w fb bb db wb m G) (hg : m.Good k) (P : Pa.Pl) (hP : P.ok) (hko : kok m P = true) (hof : m.off = true) : Calls Try.prog 16 #[.pointer (some ⟨fb, 0, none⟩), P.val] w (LdPost m P w) := by
  have hlo : klo m P = if kok m P = false then ([], 1) else if m.off then ([], 40) else (kli m, 0) := rfl
  rw [if_neg (by rw [hko]; simp)] at hlo
  obtain ⟨-, e1, e2, e3, hs, hb, hx0, hx1⟩ := kok_facts hko
  have hc := fun W (g : w.grownBy W none) => pk_any (h.grown g) hg P hP
  have hk : kck m P = 0 := by unfold kck; rw [if_pos hko]
  rw [hk] at hc
  have hp16 := hg.p
  have hb64 := hg.b
  have hf0 := fun W => pfirst_any P 0 W (by unfold in64; omega)
  have hf1 := fun W => pfirst_any P 1 W (by rw [e2]; unfold in64; omega)
  have hrd0 := fun W (g : w.grownBy W none) => pcopy_any (h.grown g) hg hs hb 0 (by omega)
  have hrd1 := fun W (g : w.grownBy W none) => pcopy_any (h.grown g) hg hs hb 1 (by omega)
  unfold CrPost at hrd0 hrd1
  obtain ⟨s, p, b, x0, x1, y0, y1, nn⟩ := P
  simp only at e1 e2 e3 hx0 hx1
  subst hx0 hx1
  rw [← e2, ← e3] at hrd0 hrd1
  have hpb : p ≤ 16 ∧ 0 ≤ p ∧ b ≤ 64 ∧ 0 ≤ b := by omega
  simp only [Int.natCast_zero, Int.natCast_one, Int.ofNat_zero, Int.zero_mul, Int.one_mul] at hrd0 hrd1 hf0 hf1
  have hw0 : IntKind.i64.wrap (0 * b) = 0 := by rw [IntKind.wrap_i64]; omega
  have hwz : IntKind.i64.wrap 0 = 0 := by rw [IntKind.wrap_i64]; omega
  have hmul : 0 ≤ p * b ∧ p * b ≤ 1024 := by
    obtain ⟨p', rfl⟩ := Int.eq_ofNat_of_zero_le hpb.2.1
    obtain ⟨b', rfl⟩ := Int.eq_ofNat_of_zero_le hpb.2.2.2
    have := Nat.mul_le_mul (show p' ≤ 16 by omega) (show b' ≤ 64 by omega)
    rw [show (p' : Int) * b' = ((p' * b' : Nat) : Int) by simp]
    omega
  have hw1 : IntKind.i64.wrap (p * b) = p * b := by rw [IntKind.wrap_i64]; omega
  have Y0 := Bx.new w 32 [.int .i64 s, .int .i64 p, .int .i64 b, .int .i64 0, .int .i64 1, .int .i64 y0, .int .i64 y1, .int .i64 nn]
  have G0 := World.grownBy_alloc w (.cells #[.int .i64 s, .int .i64 p, .int .i64 b, .int .i64 0, .int .i64 1, .int .i64 y0, .int .i64 y1, .int .i64 nn] 32) none
  clear e1 e2 e3 hs hb hk hp16 hb64 h hg hP hpb hmul
  simp only [Pa.Pl.val, Pa.Pl.cells] at *
  rw [hof] at hlo hrd0
  simp only [if_true, reduceIte] at hlo hrd0
  have HB : Hid (∀ W, w.grownBy W none → LdPost m ⟨s, p, b, 0, 1, y0, y1, nn⟩ w (.returned (.tuple #[.slice none 0 0, .slice none 0 0, .int .i64 40])) W) := fun W g => ld_bad g hlo
  clear hlo hof hko hrd1 hf1
  have hix0 := run_ix0 0 1
  have hix1 := run_ix1 0 1
  have HR0 : Hid _ := And.intro Y0 G0
  clear Y0 G0
  go_enter Try.func16, Try.ntmps16
  go_wp2_with fail
  refine (hc _ HR0.out.2).mono ?_
  rintro e w1 ⟨rfl, g1⟩
  have gA := World.grownBy_alloc w1 (.cells #[.slice none 0 0, .slice none 0 0] 63) none
  have lt0 := HR0.out.1.lt
  have HR : Hid (Lc w (w1.alloc (.cells #[.slice none 0 0, .slice none 0 0] 63)) w.heap.size w1.heap.size ⟨s, p, b, 0, 1, y0, y1, nn⟩ m 0 (.slice none 0 0) (.slice none 0 0)) := ⟨grown_trans (grown_trans HR0.out.2 g1) gA, (HR0.out.1.kept g1).kept gA, Bx.new w1 63 [.slice none 0 0, .slice none 0 0], (grown_trans HR0.out.2 g1).size, by have := g1.size; omega, fun hj => by omega, fun hj => by omega⟩
  obtain ⟨d0, d1, d2, d3, d4, d5, d6, d7⟩ := plan8 HR.out.p
  clear HR0 g1 gA lt0 hc
  go_wp2_with fail
  generalize w1.alloc (.cells #[.slice none 0 0, .slice none 0 0] 63) = W1 at *
  clear d0 d1 d2 d3 d4 d5 d6 d7
  generalize hg0 : w.heap.size = g at *
  have HG0 : Hid _ := hg0
  clear hg0
  generalize w1.heap.size = gc at *
  go_loopw [4, 25] (fun v4 vj wr => v4 = .slice none 0 0 ∧ vj = .int .i64 0 ∧ Hid (∃ v0 v1, Lc w wr g gc ⟨s, p, b, 0, 1, y0, y1, nn⟩ m 0 v0 v1)) (fun _ _ _ => 0)
  case atStart => exact ⟨rfl, rfl, _, _, HR.out⟩
  case round =>
    obtain ⟨rfl, rfl, HR1⟩ := hrel
    clear HR
    obtain ⟨v0, v1, HR1⟩ := HR1.out
    have HR : Hid _ := HR1
    clear HR1
    go_wp2_with fail
    refine wp_region_held_drew (S := fun w' => Lc w w' g gc ⟨s, p, b, 0, 1, y0, y1, nn⟩ m 0 v0 v1) (by kernel_rfl) (HR.out.kept (Pa.drewG wr)) (fun hH => ?_)
    clear HR
    refine wpAnyH_take (i := 0) (oi := ⟨some 30, _, _, _, _, _⟩) (v := .pointer (some ⟨fb, 0, none⟩)) rfl (by kernel_rfl) (by kernel_rfl) (by kernel_rfl) (fun _ _ _ h => h) (Or.inl ⟨by rfl, fun w hSw => by go_simp⟩) hH ?_
    simp only [Act.put, List.setIfInBounds_toArray, List.set_cons_zero, List.set_cons_succ]
    refine wpAnyH_take (i := 1) (oi := ⟨some 31, _, _, _, _, _⟩) (v := .agg #[.int .i64 s, .int .i64 p, .int .i64 b, .int .i64 0, .int .i64 1, .int .i64 y0, .int .i64 y1, .int .i64 nn]) rfl (by kernel_rfl) (by kernel_rfl) (by kernel_rfl) (fun _ _ _ h => h) (Or.inl ⟨by rfl, fun w hSw => by obtain ⟨d0, d1, d2, d3, d4, d5, d6, d7⟩ := plan8 hSw.p; go_simp⟩) hH ?_
    simp only [Act.put, List.setIfInBounds_toArray, List.set_cons_zero, List.set_cons_succ]
    refine wpAnyH_take (i := 2) (oi := ⟨some 32, _, _, _, _, _⟩) (v := .int .i64 0) rfl (by kernel_rfl) (by kernel_rfl) (by kernel_rfl) (fun _ _ _ h => h) (Or.inl ⟨by rfl, fun w hSw => by go_simp⟩) hH ?_
    simp only [Act.put, List.setIfInBounds_toArray, List.set_cons_zero, List.set_cons_succ]
    refine wpAnyH_take (i := 4) (oi := ⟨some 34, _, _, _, _, _⟩) (v := .pointer (some ⟨g, 0, none⟩)) rfl (by kernel_rfl) (by kernel_rfl) (by kernel_rfl) (fun _ _ _ h => h) (Or.inl ⟨by rfl, fun w hSw => by go_simp⟩) hH ?_
    simp only [Act.put, List.setIfInBounds_toArray, List.set_cons_zero, List.set_cons_succ]
    refine wpAnyH_take (i := 5) (oi := ⟨some 35, _, _, _, _, _⟩) (v := .pointer (some ⟨g, 2, none⟩)) rfl (by kernel_rfl) (by kernel_rfl) (by kernel_rfl) (fun _ _ _ h => h) (Or.inl ⟨by rfl, fun w hSw => by go_simp⟩) hH ?_
    simp only [Act.put, List.setIfInBounds_toArray, List.set_cons_zero, List.set_cons_succ]
    refine wpAnyH_take (i := 6) (oi := ⟨some 36, _, _, _, _, _⟩) (v := .int .i64 b) rfl (by kernel_rfl) (by kernel_rfl) (by kernel_rfl) (fun _ _ _ h => h) (Or.inl ⟨by rfl, fun w hSw => by obtain ⟨d0, d1, d2, d3, d4, d5, d6, d7⟩ := plan8 hSw.p; go_simp⟩) hH ?_
    simp only [Act.put, List.setIfInBounds_toArray, List.set_cons_zero, List.set_cons_succ]
    refine wpAnyH_ready (rs := [3]) (by kernel_rfl) (by simp) ?_
    refine AllReadyH.cons rfl (fun K hK => ?_) AllReadyH.nil
    go_simp
    go_wp2_with (go_at_call 28; refine (hf0 _).mono ?_; rintro e w1 ⟨rfl, g1⟩)
    replace hH := hH.kept g1
    clear g1
    refine hK.out _ _ hH (fun _ => ?_)
    clear hK K
    refine wpAnyH_take (i := 7) (oi := ⟨some 37, _, _, _, _, _⟩) (v := .int .i64 0) rfl (by kernel_rfl) (by kernel_rfl) (by kernel_rfl) (fun _ _ _ h => h) (Or.inl ⟨by rfl, fun w hSw => by (go_simp; try exact hwz)⟩) hH ?_
    simp only [Act.put, List.setIfInBounds_toArray, List.set_cons_zero, List.set_cons_succ]
    refine wpAnyH_ready (rs := [8]) (by kernel_rfl) (by simp) ?_
    refine AllReadyH.cons rfl (fun K hK => ?_) AllReadyH.nil
    go_simp
    go_wp2_with (go_at_call 27; refine (hrd0 _ hH.gr).mono ?_; rintro e w2 ⟨g2, a, l, c, rfl, hrow⟩)
    have hsz := hH.c.lt
    replace hH := hH.kept g2
    have HC : Hid _ := hrow
    clear g2 hrow
    refine hK.out _ _ hH (fun _ => ?_)
    clear hK K
    refine wpAnyH_take (i := 9) (oi := ⟨some 29, _, _, _, _, _⟩) (v := .tuple #[.slice a l c, .int .i64 40]) rfl (by kernel_rfl) (by kernel_rfl) (by kernel_rfl) (fun _ _ _ h => h) (Or.inl ⟨by rfl, fun w hSw => by go_simp⟩) hH ?_
    simp only [Act.put, List.setIfInBounds_toArray, List.set_cons_zero, List.set_cons_succ]
    refine wpAnyH_take (i := 10) (oi := ⟨some 39, _, _, _, _, _⟩) (v := .slice a l c) rfl (by kernel_rfl) (by kernel_rfl) (by kernel_rfl) (fun _ _ _ h => h) (Or.inl ⟨by rfl, fun w hSw => by go_simp⟩) hH ?_
    simp only [Act.put, List.setIfInBounds_toArray, List.set_cons_zero, List.set_cons_succ]
    refine wpAnyH_take (i := 11) (oi := ⟨some 40, _, _, _, _, _⟩) (v := .int .i64 40) rfl (by kernel_rfl) (by kernel_rfl) (by kernel_rfl) (fun _ _ _ h => h) (Or.inl ⟨by rfl, fun w hSw => by go_simp⟩) hH ?_
    simp only [Act.put, List.setIfInBounds_toArray, List.set_cons_zero, List.set_cons_succ]
    refine wpAnyH_take (i := 12) (oi := ⟨some 11, _, _, _, _, _⟩) (v := .slice a l c) rfl (by kernel_rfl) (by kernel_rfl) (by kernel_rfl) (fun _ _ _ h => h) (Or.inl ⟨by rfl, fun w hSw => by go_simp⟩) hH ?_
    simp only [Act.put, List.setIfInBounds_toArray, List.set_cons_zero, List.set_cons_succ]
    refine wpAnyH_take (i := 13) (oi := ⟨some 12, _, _, _, _, _⟩) (v := .int .i64 40) rfl (by kernel_rfl) (by kernel_rfl) (by kernel_rfl) (fun _ _ _ h => h) (Or.inl ⟨by rfl, fun w hSw => by go_simp⟩) hH ?_
    simp only [Act.put, List.setIfInBounds_toArray, List.set_cons_zero, List.set_cons_succ]
    refine wpAnyH_done (by kernel_rfl) ?_ _
    have HH : Hid _ := And.intro hH hsz
    clear hH hsz
    clear HC
    have HG : Hid _ := HH.out.1.gr
    clear HH hrd0 hf0
    go_wp2
    go_ret3
    exact HB.out _ HG.out
set_option maxHeartbeats 8000000 in
theorem pload_on {w : World} {fb bb db wb : Nat} {m : Fm} {G : Nat → Prop} {k : Nat} (h : PRep w fb bb db wb m G) (hg : m.Good k) (P : Pa.Pl) (hP : P.ok) (hko : kok m P = true) (hof : m.off = false) : Calls Try.prog 16 #[.pointer (some ⟨fb, 0, none⟩), P.val] w (LdPost m P w) := by
  have hlo : klo m P = if kok m P = false then ([], 1) else if m.off then ([], 40) else (kli m, 0) := rfl
  rw [if_neg (by rw [hko]; simp)] at hlo
  obtain ⟨-, e1, e2, e3, hs, hb, hx0, hx1⟩ := kok_facts hko
  have hc := fun W (g : w.grownBy W none) => pk_any (h.grown g) hg P hP
  have hk : kck m P = 0 := by unfold kck; rw [if_pos hko]
  rw [hk] at hc
  have hp16 := hg.p
  have hb64 := hg.b
  have hf0 := fun W => pfirst_any P 0 W (by unfold in64; omega)
  have hf1 := fun W => pfirst_any P 1 W (by rw [e2]; unfold in64; omega)
  have hrd0 := fun W (g : w.grownBy W none) => pcopy_any (h.grown g) hg hs hb 0 (by omega)
  have hrd1 := fun W (g : w.grownBy W none) => pcopy_any (h.grown g) hg hs hb 1 (by omega)
  unfold CrPost at hrd0 hrd1
  obtain ⟨s, p, b, x0, x1, y0, y1, nn⟩ := P
  simp only at e1 e2 e3 hx0 hx1
  subst hx0 hx1
  rw [← e2, ← e3] at hrd0 hrd1
  have hpb : p ≤ 16 ∧ 0 ≤ p ∧ b ≤ 64 ∧ 0 ≤ b := by omega
  simp only [Int.natCast_zero, Int.natCast_one, Int.ofNat_zero, Int.zero_mul, Int.one_mul] at hrd0 hrd1 hf0 hf1
  have hw0 : IntKind.i64.wrap (0 * b) = 0 := by rw [IntKind.wrap_i64]; omega
  have hwz : IntKind.i64.wrap 0 = 0 := by rw [IntKind.wrap_i64]; omega
  have hmul : 0 ≤ p * b ∧ p * b ≤ 1024 := by
    obtain ⟨p', rfl⟩ := Int.eq_ofNat_of_zero_le hpb.2.1
    obtain ⟨b', rfl⟩ := Int.eq_ofNat_of_zero_le hpb.2.2.2
    have := Nat.mul_le_mul (show p' ≤ 16 by omega) (show b' ≤ 64 by omega)
    rw [show (p' : Int) * b' = ((p' * b' : Nat) : Int) by simp]
    omega
  have hw1 : IntKind.i64.wrap (p * b) = p * b := by rw [IntKind.wrap_i64]; omega
  have Y0 := Bx.new w 32 [.int .i64 s, .int .i64 p, .int .i64 b, .int .i64 0, .int .i64 1, .int .i64 y0, .int .i64 y1, .int .i64 nn]
  have G0 := World.grownBy_alloc w (.cells #[.int .i64 s, .int .i64 p, .int .i64 b, .int .i64 0, .int .i64 1, .int .i64 y0, .int .i64 y1, .int .i64 nn] 32) none
  clear e1 e2 e3 hs hb hk hp16 hb64 h hg hP hpb hmul
  simp only [Pa.Pl.val, Pa.Pl.cells] at *
  rw [hof] at hlo hrd0 hrd1
  simp only [Bool.false_eq_true, if_false, reduceIte, true_implies] at hlo hrd0 hrd1
  have HLO : Hid _ := hlo
  clear hlo hof hko
  have hix0 := run_ix0 0 1
  have hix1 := run_ix1 0 1
  have HR0 : Hid _ := And.intro Y0 G0
  clear Y0 G0
  go_enter Try.func16, Try.ntmps16
  go_wp2_with fail
  refine (hc _ HR0.out.2).mono ?_
  rintro e w1 ⟨rfl, g1⟩
  have gA := World.grownBy_alloc w1 (.cells #[.slice none 0 0, .slice none 0 0] 63) none
  have lt0 := HR0.out.1.lt
  have HR : Hid (Lc w (w1.alloc (.cells #[.slice none 0 0, .slice none 0 0] 63)) w.heap.size w1.heap.size ⟨s, p, b, 0, 1, y0, y1, nn⟩ m 0 (.slice none 0 0) (.slice none 0 0)) := ⟨grown_trans (grown_trans HR0.out.2 g1) gA, (HR0.out.1.kept g1).kept gA, Bx.new w1 63 [.slice none 0 0, .slice none 0 0], (grown_trans HR0.out.2 g1).size, by have := g1.size; omega, fun hj => by omega, fun hj => by omega⟩
  obtain ⟨d0, d1, d2, d3, d4, d5, d6, d7⟩ := plan8 HR.out.p
  clear HR0 g1 gA lt0 hc
  go_wp2_with fail
  generalize w1.alloc (.cells #[.slice none 0 0, .slice none 0 0] 63) = W1 at *
  clear d0 d1 d2 d3 d4 d5 d6 d7
  generalize hg0 : w.heap.size = g at *
  have HG0 : Hid _ := hg0
  clear hg0
  generalize w1.heap.size = gc at *
  go_loopw [4, 25] (fun v4 vj wr => v4 = .slice none 0 0 ∧ ∃ j : Nat, vj = .int .i64 j ∧ j ≤ 2 ∧ Hid (∃ v0 v1, Lc w wr g gc ⟨s, p, b, 0, 1, y0, y1, nn⟩ m j v0 v1)) (fun _ vj _ => 2 - (intOf vj).toNat)
  case atStart => exact ⟨rfl, 0, rfl, by omega, _, _, HR.out⟩
  case round =>
    obtain ⟨rfl, j, rfl, hj, HR1⟩ := hrel
    clear HR
    obtain ⟨v0, v1, HR1⟩ := HR1.out
    have HR : Hid _ := HR1
    clear HR1
    obtain rfl | rfl | rfl : j = 0 ∨ j = 1 ∨ j = 2 := by omega
    · have hj0 : ((0 : Nat) : Int) = 0 := rfl
      rw [hj0]
      clear hj0 hj
      go_wp2_with fail
      refine wp_region_held_drew (S := fun w' => Lc w w' g gc ⟨s, p, b, 0, 1, y0, y1, nn⟩ m 0 v0 v1) (by kernel_rfl) (HR.out.kept (Pa.drewG wr)) (fun hH => ?_)
      clear HR
      refine wpAnyH_take (i := 0) (oi := ⟨some 30, _, _, _, _, _⟩) (v := .pointer (some ⟨fb, 0, none⟩)) rfl (by kernel_rfl) (by kernel_rfl) (by kernel_rfl) (fun _ _ _ h => h) (Or.inl ⟨by rfl, fun w hSw => by go_simp⟩) hH ?_
      simp only [Act.put, List.setIfInBounds_toArray, List.set_cons_zero, List.set_cons_succ]
      refine wpAnyH_take (i := 1) (oi := ⟨some 31, _, _, _, _, _⟩) (v := .agg #[.int .i64 s, .int .i64 p, .int .i64 b, .int .i64 0, .int .i64 1, .int .i64 y0, .int .i64 y1, .int .i64 nn]) rfl (by kernel_rfl) (by kernel_rfl) (by kernel_rfl) (fun _ _ _ h => h) (Or.inl ⟨by rfl, fun w hSw => by obtain ⟨d0, d1, d2, d3, d4, d5, d6, d7⟩ := plan8 hSw.p; go_simp⟩) hH ?_
      simp only [Act.put, List.setIfInBounds_toArray, List.set_cons_zero, List.set_cons_succ]
      refine wpAnyH_take (i := 2) (oi := ⟨some 32, _, _, _, _, _⟩) (v := .int .i64 0) rfl (by kernel_rfl) (by kernel_rfl) (by kernel_rfl) (fun _ _ _ h => h) (Or.inl ⟨by rfl, fun w hSw => by go_simp⟩) hH ?_
      simp only [Act.put, List.setIfInBounds_toArray, List.set_cons_zero, List.set_cons_succ]
      refine wpAnyH_take (i := 4) (oi := ⟨some 34, _, _, _, _, _⟩) (v := .pointer (some ⟨g, 0, none⟩)) rfl (by kernel_rfl) (by kernel_rfl) (by kernel_rfl) (fun _ _ _ h => h) (Or.inl ⟨by rfl, fun w hSw => by go_simp⟩) hH ?_
      simp only [Act.put, List.setIfInBounds_toArray, List.set_cons_zero, List.set_cons_succ]
      refine wpAnyH_take (i := 5) (oi := ⟨some 35, _, _, _, _, _⟩) (v := .pointer (some ⟨g, 2, none⟩)) rfl (by kernel_rfl) (by kernel_rfl) (by kernel_rfl) (fun _ _ _ h => h) (Or.inl ⟨by rfl, fun w hSw => by go_simp⟩) hH ?_
      simp only [Act.put, List.setIfInBounds_toArray, List.set_cons_zero, List.set_cons_succ]
      refine wpAnyH_take (i := 6) (oi := ⟨some 36, _, _, _, _, _⟩) (v := .int .i64 b) rfl (by kernel_rfl) (by kernel_rfl) (by kernel_rfl) (fun _ _ _ h => h) (Or.inl ⟨by rfl, fun w hSw => by obtain ⟨d0, d1, d2, d3, d4, d5, d6, d7⟩ := plan8 hSw.p; go_simp⟩) hH ?_
      simp only [Act.put, List.setIfInBounds_toArray, List.set_cons_zero, List.set_cons_succ]
      refine wpAnyH_ready (rs := [3]) (by kernel_rfl) (by simp) ?_
      refine AllReadyH.cons rfl (fun K hK => ?_) AllReadyH.nil
      go_simp
      go_wp2_with (go_at_call 28; refine (hf0 _).mono ?_; rintro e w1 ⟨rfl, g1⟩)
      replace hH := hH.kept g1
      clear g1
      refine hK.out _ _ hH (fun _ => ?_)
      clear hK K
      refine wpAnyH_take (i := 7) (oi := ⟨some 37, _, _, _, _, _⟩) (v := .int .i64 0) rfl (by kernel_rfl) (by kernel_rfl) (by kernel_rfl) (fun _ _ _ h => h) (Or.inl ⟨by rfl, fun w hSw => by (go_simp; try exact hwz)⟩) hH ?_
      simp only [Act.put, List.setIfInBounds_toArray, List.set_cons_zero, List.set_cons_succ]
      refine wpAnyH_ready (rs := [8]) (by kernel_rfl) (by simp) ?_
      refine AllReadyH.cons rfl (fun K hK => ?_) AllReadyH.nil
      go_simp
      go_wp2_with (go_at_call 27; refine (hrd0 _ hH.gr).mono ?_; rintro e w2 ⟨g2, a, l, c, rfl, hrow⟩)
      have hsz := hH.c.lt
      replace hH := hH.kept g2
      have HC : Hid _ := hrow
      clear g2 hrow
      refine hK.out _ _ hH (fun _ => ?_)
      clear hK K
      refine wpAnyH_take (i := 9) (oi := ⟨some 29, _, _, _, _, _⟩) (v := .tuple #[.slice a l c, .int .i64 0]) rfl (by kernel_rfl) (by kernel_rfl) (by kernel_rfl) (fun _ _ _ h => h) (Or.inl ⟨by rfl, fun w hSw => by go_simp⟩) hH ?_
      simp only [Act.put, List.setIfInBounds_toArray, List.set_cons_zero, List.set_cons_succ]
      refine wpAnyH_take (i := 10) (oi := ⟨some 39, _, _, _, _, _⟩) (v := .slice a l c) rfl (by kernel_rfl) (by kernel_rfl) (by kernel_rfl) (fun _ _ _ h => h) (Or.inl ⟨by rfl, fun w hSw => by go_simp⟩) hH ?_
      simp only [Act.put, List.setIfInBounds_toArray, List.set_cons_zero, List.set_cons_succ]
      refine wpAnyH_take (i := 11) (oi := ⟨some 40, _, _, _, _, _⟩) (v := .int .i64 0) rfl (by kernel_rfl) (by kernel_rfl) (by kernel_rfl) (fun _ _ _ h => h) (Or.inl ⟨by rfl, fun w hSw => by go_simp⟩) hH ?_
      simp only [Act.put, List.setIfInBounds_toArray, List.set_cons_zero, List.set_cons_succ]
      refine wpAnyH_take (i := 12) (oi := ⟨some 11, _, _, _, _, _⟩) (v := .slice a l c) rfl (by kernel_rfl) (by kernel_rfl) (by kernel_rfl) (fun _ _ _ h => h) (Or.inl ⟨by rfl, fun w hSw => by go_simp⟩) hH ?_
      simp only [Act.put, List.setIfInBounds_toArray, List.set_cons_zero, List.set_cons_succ]
      refine wpAnyH_take (i := 13) (oi := ⟨some 12, _, _, _, _, _⟩) (v := .int .i64 0) rfl (by kernel_rfl) (by kernel_rfl) (by kernel_rfl) (fun _ _ _ h => h) (Or.inl ⟨by rfl, fun w hSw => by go_simp⟩) hH ?_
      simp only [Act.put, List.setIfInBounds_toArray, List.set_cons_zero, List.set_cons_succ]
      refine wpAnyH_done (by kernel_rfl) ?_ _
      have HH : Hid _ := And.intro hH hsz
      clear hH hsz
      have HN : Hid _ := HH.out.1.zero HC.out.1 HC.out.2.1 HC.out.2.2.1 (fun b' o e => by have := HC.out.2.2.2 b' o e; have := HH.out.2; omega)
      have q0 := HH.out.1.c.c 0
      have q1 := HH.out.1.c.f 0
      simp only [List.getElem?_cons_zero, List.getElem?_cons_succ] at q0
      clear HC HH
      go_wp2
      go_roundw
      case rel => exact ⟨rfl, 1, by go_num, by omega, _, _, HN.out⟩
      case measure => simp [intOf]
    · have hj0 : ((1 : Nat) : Int) = 1 := rfl
      rw [hj0]
      clear hj0 hj
      go_wp2_with fail
      refine wp_region_held_drew (S := fun w' => Lc w w' g gc ⟨s, p, b, 0, 1, y0, y1, nn⟩ m 1 v0 v1) (by kernel_rfl) (HR.out.kept (Pa.drewG wr)) (fun hH => ?_)
      clear HR
      refine wpAnyH_take (i := 0) (oi := ⟨some 30, _, _, _, _, _⟩) (v := .pointer (some ⟨fb, 0, none⟩)) rfl (by kernel_rfl) (by kernel_rfl) (by kernel_rfl) (fun _ _ _ h => h) (Or.inl ⟨by rfl, fun w hSw => by go_simp⟩) hH ?_
      simp only [Act.put, List.setIfInBounds_toArray, List.set_cons_zero, List.set_cons_succ]
      refine wpAnyH_take (i := 1) (oi := ⟨some 31, _, _, _, _, _⟩) (v := .agg #[.int .i64 s, .int .i64 p, .int .i64 b, .int .i64 0, .int .i64 1, .int .i64 y0, .int .i64 y1, .int .i64 nn]) rfl (by kernel_rfl) (by kernel_rfl) (by kernel_rfl) (fun _ _ _ h => h) (Or.inl ⟨by rfl, fun w hSw => by obtain ⟨d0, d1, d2, d3, d4, d5, d6, d7⟩ := plan8 hSw.p; go_simp⟩) hH ?_
      simp only [Act.put, List.setIfInBounds_toArray, List.set_cons_zero, List.set_cons_succ]
      refine wpAnyH_take (i := 2) (oi := ⟨some 32, _, _, _, _, _⟩) (v := .int .i64 1) rfl (by kernel_rfl) (by kernel_rfl) (by kernel_rfl) (fun _ _ _ h => h) (Or.inl ⟨by rfl, fun w hSw => by go_simp⟩) hH ?_
      simp only [Act.put, List.setIfInBounds_toArray, List.set_cons_zero, List.set_cons_succ]
      refine wpAnyH_take (i := 4) (oi := ⟨some 34, _, _, _, _, _⟩) (v := .pointer (some ⟨g, 0, none⟩)) rfl (by kernel_rfl) (by kernel_rfl) (by kernel_rfl) (fun _ _ _ h => h) (Or.inl ⟨by rfl, fun w hSw => by go_simp⟩) hH ?_
      simp only [Act.put, List.setIfInBounds_toArray, List.set_cons_zero, List.set_cons_succ]
      refine wpAnyH_take (i := 5) (oi := ⟨some 35, _, _, _, _, _⟩) (v := .pointer (some ⟨g, 2, none⟩)) rfl (by kernel_rfl) (by kernel_rfl) (by kernel_rfl) (fun _ _ _ h => h) (Or.inl ⟨by rfl, fun w hSw => by go_simp⟩) hH ?_
      simp only [Act.put, List.setIfInBounds_toArray, List.set_cons_zero, List.set_cons_succ]
      refine wpAnyH_take (i := 6) (oi := ⟨some 36, _, _, _, _, _⟩) (v := .int .i64 b) rfl (by kernel_rfl) (by kernel_rfl) (by kernel_rfl) (fun _ _ _ h => h) (Or.inl ⟨by rfl, fun w hSw => by obtain ⟨d0, d1, d2, d3, d4, d5, d6, d7⟩ := plan8 hSw.p; go_simp⟩) hH ?_
      simp only [Act.put, List.setIfInBounds_toArray, List.set_cons_zero, List.set_cons_succ]
      refine wpAnyH_ready (rs := [3]) (by kernel_rfl) (by simp) ?_
      refine AllReadyH.cons rfl (fun K hK => ?_) AllReadyH.nil
      go_simp
      go_wp2_with (go_at_call 28; refine (hf1 _).mono ?_; rintro e w1 ⟨rfl, g1⟩)
      replace hH := hH.kept g1
      clear g1
      refine hK.out _ _ hH (fun _ => ?_)
      clear hK K
      refine wpAnyH_take (i := 7) (oi := ⟨some 37, _, _, _, _, _⟩) (v := .int .i64 (p * b)) rfl (by kernel_rfl) (by kernel_rfl) (by kernel_rfl) (fun _ _ _ h => h) (Or.inl ⟨by rfl, fun w hSw => by (go_simp; try exact hw1)⟩) hH ?_
      simp only [Act.put, List.setIfInBounds_toArray, List.set_cons_zero, List.set_cons_succ]
      refine wpAnyH_ready (rs := [8]) (by kernel_rfl) (by simp) ?_
      refine AllReadyH.cons rfl (fun K hK => ?_) AllReadyH.nil
      go_simp
      go_wp2_with (go_at_call 27; refine (hrd1 _ hH.gr).mono ?_; rintro e w2 ⟨g2, a, l, c, rfl, hrow⟩)
      have hsz := hH.c.lt
      replace hH := hH.kept g2
      have HC : Hid _ := hrow
      clear g2 hrow
      refine hK.out _ _ hH (fun _ => ?_)
      clear hK K
      refine wpAnyH_take (i := 9) (oi := ⟨some 29, _, _, _, _, _⟩) (v := .tuple #[.slice a l c, .int .i64 0]) rfl (by kernel_rfl) (by kernel_rfl) (by kernel_rfl) (fun _ _ _ h => h) (Or.inl ⟨by rfl, fun w hSw => by go_simp⟩) hH ?_
      simp only [Act.put, List.setIfInBounds_toArray, List.set_cons_zero, List.set_cons_succ]
      refine wpAnyH_take (i := 10) (oi := ⟨some 39, _, _, _, _, _⟩) (v := .slice a l c) rfl (by kernel_rfl) (by kernel_rfl) (by kernel_rfl) (fun _ _ _ h => h) (Or.inl ⟨by rfl, fun w hSw => by go_simp⟩) hH ?_
      simp only [Act.put, List.setIfInBounds_toArray, List.set_cons_zero, List.set_cons_succ]
      refine wpAnyH_take (i := 11) (oi := ⟨some 40, _, _, _, _, _⟩) (v := .int .i64 0) rfl (by kernel_rfl) (by kernel_rfl) (by kernel_rfl) (fun _ _ _ h => h) (Or.inl ⟨by rfl, fun w hSw => by go_simp⟩) hH ?_
      simp only [Act.put, List.setIfInBounds_toArray, List.set_cons_zero, List.set_cons_succ]
      refine wpAnyH_take (i := 12) (oi := ⟨some 11, _, _, _, _, _⟩) (v := .slice a l c) rfl (by kernel_rfl) (by kernel_rfl) (by kernel_rfl) (fun _ _ _ h => h) (Or.inl ⟨by rfl, fun w hSw => by go_simp⟩) hH ?_
      simp only [Act.put, List.setIfInBounds_toArray, List.set_cons_zero, List.set_cons_succ]
      refine wpAnyH_take (i := 13) (oi := ⟨some 12, _, _, _, _, _⟩) (v := .int .i64 0) rfl (by kernel_rfl) (by kernel_rfl) (by kernel_rfl) (fun _ _ _ h => h) (Or.inl ⟨by rfl, fun w hSw => by go_simp⟩) hH ?_
      simp only [Act.put, List.setIfInBounds_toArray, List.set_cons_zero, List.set_cons_succ]
      refine wpAnyH_done (by kernel_rfl) ?_ _
      have HH : Hid _ := And.intro hH hsz
      clear hH hsz
      have HN : Hid _ := HH.out.1.one HC.out.1 HC.out.2.1 HC.out.2.2.1 (fun b' o e => by have := HC.out.2.2.2 b' o e; have := HH.out.2; omega)
      have q0 := HH.out.1.c.c 1
      have q1 := HH.out.1.c.f 1
      simp only [List.getElem?_cons_zero, List.getElem?_cons_succ] at q0
      clear HC HH
      go_wp2
      go_roundw
      case rel => exact ⟨rfl, 2, by go_num, by omega, _, _, HN.out⟩
      case measure => simp [intOf]
    · have hj0 : ((2 : Nat) : Int) = 2 := rfl
      rw [hj0]
      clear hj0 hj
      clear hrd0 hrd1 hf0 hf1 hix0 hix1
      obtain ⟨a0, l0, k0, rfl, R0, p1, p2, p3⟩ := HR.out.r0 (by omega)
      obtain ⟨a1, l1, k1, rfl, R1, q1, q2, q3⟩ := HR.out.r1 (by omega)
      have z0 : l0 ≤ 1048576 := by have := R0.len_eq; have := kcp_len m 0; omega
      have z1 : l1 ≤ 1048576 := by have := R1.len_eq; have := kcp_len m 1; omega
      have ho := porder_any a0 l0 k0 (kcp m 0) a1 l1 k1 (kcp m 1) wr R0 p1 p2 z0 R1 q1 q2 z1
      rw [ror_kli] at ho
      have hd0 := fun W (R : Row W a0 l0 (kcp m 0)) => pdecode_any a0 l0 k0 (kcp m 0) W R p1 p2 z0
      have hd1 := fun W (R : Row W a1 l1 (kcp m 1)) => pdecode_any a1 l1 k1 (kcp m 1) W R q1 q2 z1
      have HRR : Hid (∀ W, wr.grownBy W none → Row W a0 l0 (kcp m 0) ∧ Row W a1 l1 (kcp m 1)) := fun W k => ⟨R0.grown k, R1.grown k⟩
      clear R0 R1 p3 q3
      have u0 := HR.out.c.c 0
      have u1 := HR.out.c.c 1
      simp only [List.getElem?_cons_zero, List.getElem?_cons_succ] at u0 u1
      go_wp2_with fail
      clear u0 u1
      refine ho.mono ?_
      rintro e w2 ⟨aW, cW, rfl, hcl, g2, hcw, hnw⟩
      simp only [List.length_map] at hcl hcw ⊢
      have HWs : Hid (∀ W, w2.grownBy W none → ∀ (k i : Nat), (kli m)[k]? = some i → ∃ b o, aW = some ⟨b, o, none⟩ ∧ W.cell? ⟨b, o + k, none⟩ = some (.int .i64 i)) := by
        intro W gW k i hk
        have hkl : k < (kli m).length := (List.getElem?_eq_some_iff.1 hk).1
        obtain ⟨b', o, e, hc⟩ := hcl k hkl
        refine ⟨b', o, e, gW.cell ?_ (by simp)⟩
        rw [hc]
        simp [List.getD_eq_getElem?_getD, List.getElem?_map, hk]
      have H2 : Hid (wr.grownBy w2 none ∧ Lc w w2 g gc ⟨s, p, b, 0, 1, y0, y1, nn⟩ m 2 (.slice a0 l0 k0) (.slice a1 l1 k1) ∧ (kli m).length ≤ cW ∧ (∀ b o, aW = some ⟨b, o, none⟩ → w.heap.size ≤ b)) := ⟨g2, HR.out.kept g2, hcw, fun b' o e => Nat.le_trans HR.out.gr.size (hnw b' o e)⟩
      have hkl2 := kli_len m
      have HKL : Hid _ := kli_lt m
      clear ho hcl g2 hcw hnw HR
      generalize hL : kli m = L at *
      have HL : Hid _ := hL
      clear hL
      generalize hnL : L.length = nL at *
      have HNL : Hid _ := hnL
      clear hnL
      obtain ⟨i26, hi, hz0, hz1, hz2⟩ := info_parts rec_info9
      go_wp2_with fail
      go_loopw [4, 55] (fun v4 vj wq => ∃ j : Nat, vj = .int .i64 j ∧ j ≤ nL ∧ Hid (w2.grownBy wq none ∧ wq.ownsRow w2.heap.size 26 4 v4 j (rcs m (L.take j)))) (fun _ vj _ => nL - (intOf vj).toNat)
      case atStart => exact ⟨0, rfl, Nat.zero_le _, World.grownBy.refl _ _, World.ownsRow_nil _ _ _ _⟩
      case round =>
        obtain ⟨j, rfl, hj, HJ⟩ := hrel
        rcases Nat.lt_or_ge j nL with hlt | hge
        · have hlt' : (j : Int) < nL := by omega
          obtain ⟨x, hx⟩ : ∃ s, L[j]? = some s := ⟨_, List.getElem?_eq_getElem (by rw [HNL.out]; exact hlt)⟩
          have hx2 := HKL.out x (List.mem_of_getElem? hx)
          obtain ⟨b', o', rfl, hcell⟩ := HWs.out wr HJ.out.1 j x hx
          have HX : Hid _ := hx
          clear hx
          obtain rfl | rfl : x = 0 ∨ x = 1 := by omega
          · generalize hrd : rde (kcp m 0) = RD at hd0
            obtain ⟨⟨rq, rs, rl, ru⟩, re⟩ := RD
            have HCS : Hid ((kda m 0).1.cells = [.int .u64 rq, .int .i64 rs, .int .i64 rl, .int .u64 ru]) := by
              show (rde (kcp m 0)).1.cells = _
              rw [hrd]
              rfl
            clear hrd
            simp only [Rc.val] at hd0
            have u0 := (H2.out.2.1.c.kept HJ.out.1).c 0
            simp only [List.getElem?_cons_zero, List.getElem?_cons_succ] at u0
            have HROW : Hid _ := (HRR.out wr (grown_trans H2.out.1 HJ.out.1)).1
            go_wp2_with fail
            refine (hd0 _ HROW.out).mono ?_
            rintro e w3 ⟨rfl, g3⟩
            have gB := World.grownBy_alloc w3 (.cells #[.int .u64 rq, .int .i64 rs, .int .i64 rl, .int .u64 ru] 26) none
            have gC := World.grownBy_alloc (w3.alloc (.cells #[.int .u64 rq, .int .i64 rs, .int .i64 rl, .int .u64 ru] 26)) (.cells #[.int .u64 rq, .int .i64 rs, .int .i64 rl, .int .u64 ru] 26) none
            have gD := grown_trans (grown_trans g3 gB) gC
            have HN : Hid _ := Bx.new (w3.alloc (.cells #[.int .u64 rq, .int .i64 rs, .int .i64 rl, .int .u64 ru] 26)) 26 [.int .u64 rq, .int .i64 rs, .int .i64 rl, .int .u64 ru]
            have HO : Hid _ := And.intro (World.ownsRow.kept HJ.out.2 gD (by cases u4.ownBlock <;> simp)) (grown_trans HJ.out.1 gD)
            have hbs : w2.heap.size ≤ ((w3.alloc (.cells #[.int .u64 rq, .int .i64 rs, .int .i64 rl, .int .u64 ru] 26)).alloc (.cells #[.int .u64 rq, .int .i64 rs, .int .i64 rl, .int .u64 ru] 26)).heap.size := HO.out.2.size
            have HBS : Hid _ := hbs
            clear g3 gB gC gD HROW u0 hbs hd0 hcell
            simp only [World.size_alloc] at HN
            go_wp2_with (at_builtin; refine wpList_append_own _ rfl _ _ 46 rfl w2.heap.size 26 i26 (.agg #[.int .u64 0, .int .i64 0, .int .i64 0, .int .u64 0]) 4 32 Try.underlying46 hi hz0 hz1 hz2 rfl (by decide) _ _ _ rfl HO.out.1 ⟨w3.heap.size + 1, 0, none⟩ 1 1 [.int .u64 rq, .int .i64 rs, .int .i64 rl, .int .u64 ru] rfl rfl ?c1 ?c2 ?c3 ?c4 HBS.out ?_)
            case c1 =>
              intro j' u' h'
              have e : (⟨w3.heap.size + 1, 0, none⟩ : Addr).add j' = ⟨w3.heap.size + 1, j', none⟩ := by (simp [Addr.add]; intro h; exact h.symm)
              rw [e, HN.out.c j']
              exact h'
            case c2 => intro u' h'; simp at h'; rcases h' with rfl | rfl | rfl | rfl <;> rfl
            case c3 => unfold maxLen; omega
            case c4 => omega
            · intro v' w4 o4 g4 _
              have HF : Hid (w2.grownBy w4 none ∧ w4.ownsRow w2.heap.size 26 4 v' (j + 1) (rcs m (L.take (j + 1)))) := by
                refine ⟨grown_own HO.out.2 HO.out.1 g4 (Nat.le_refl _), ?_⟩
                have e : rcs m (L.take (j + 1)) = rcs m (L.take j) ++ [.int .u64 rq, .int .i64 rs, .int .i64 rl, .int .u64 ru] := by
                  rw [List.take_add_one, HX.out, ← HCS.out]
                  unfold rcs
                  rw [List.flatMap_append]
                  simp
                rw [e]
                exact o4
              clear o4 g4 HO HN HBS HJ
              go_wp2
              go_roundw
              case rel => exact ⟨j + 1, by go_num, by omega, HF⟩
              case measure => simp [intOf]; omega
          · generalize hrd : rde (kcp m 1) = RD at hd1
            obtain ⟨⟨rq, rs, rl, ru⟩, re⟩ := RD
            have HCS : Hid ((kda m 1).1.cells = [.int .u64 rq, .int .i64 rs, .int .i64 rl, .int .u64 ru]) := by
              show (rde (kcp m 1)).1.cells = _
              rw [hrd]
              rfl
            clear hrd
            simp only [Rc.val] at hd1
            have u1 := (H2.out.2.1.c.kept HJ.out.1).c 1
            simp only [List.getElem?_cons_zero, List.getElem?_cons_succ] at u1
            have HROW : Hid _ := (HRR.out wr (grown_trans H2.out.1 HJ.out.1)).2
            go_wp2_with fail
            refine (hd1 _ HROW.out).mono ?_
            rintro e w3 ⟨rfl, g3⟩
            have gB := World.grownBy_alloc w3 (.cells #[.int .u64 rq, .int .i64 rs, .int .i64 rl, .int .u64 ru] 26) none
            have gC := World.grownBy_alloc (w3.alloc (.cells #[.int .u64 rq, .int .i64 rs, .int .i64 rl, .int .u64 ru] 26)) (.cells #[.int .u64 rq, .int .i64 rs, .int .i64 rl, .int .u64 ru] 26) none
            have gD := grown_trans (grown_trans g3 gB) gC
            have HN : Hid _ := Bx.new (w3.alloc (.cells #[.int .u64 rq, .int .i64 rs, .int .i64 rl, .int .u64 ru] 26)) 26 [.int .u64 rq, .int .i64 rs, .int .i64 rl, .int .u64 ru]
            have HO : Hid _ := And.intro (World.ownsRow.kept HJ.out.2 gD (by cases u4.ownBlock <;> simp)) (grown_trans HJ.out.1 gD)
            have hbs : w2.heap.size ≤ ((w3.alloc (.cells #[.int .u64 rq, .int .i64 rs, .int .i64 rl, .int .u64 ru] 26)).alloc (.cells #[.int .u64 rq, .int .i64 rs, .int .i64 rl, .int .u64 ru] 26)).heap.size := HO.out.2.size
            have HBS : Hid _ := hbs
            clear g3 gB gC gD HROW u1 hbs hd1 hcell
            simp only [World.size_alloc] at HN
            go_wp2_with (at_builtin; refine wpList_append_own _ rfl _ _ 46 rfl w2.heap.size 26 i26 (.agg #[.int .u64 0, .int .i64 0, .int .i64 0, .int .u64 0]) 4 32 Try.underlying46 hi hz0 hz1 hz2 rfl (by decide) _ _ _ rfl HO.out.1 ⟨w3.heap.size + 1, 0, none⟩ 1 1 [.int .u64 rq, .int .i64 rs, .int .i64 rl, .int .u64 ru] rfl rfl ?c1 ?c2 ?c3 ?c4 HBS.out ?_)
            case c1 =>
              intro j' u' h'
              have e : (⟨w3.heap.size + 1, 0, none⟩ : Addr).add j' = ⟨w3.heap.size + 1, j', none⟩ := by (simp [Addr.add]; intro h; exact h.symm)
              rw [e, HN.out.c j']
              exact h'
            case c2 => intro u' h'; simp at h'; rcases h' with rfl | rfl | rfl | rfl <;> rfl
            case c3 => unfold maxLen; omega
            case c4 => omega
            · intro v' w4 o4 g4 _
              have HF : Hid (w2.grownBy w4 none ∧ w4.ownsRow w2.heap.size 26 4 v' (j + 1) (rcs m (L.take (j + 1)))) := by
                refine ⟨grown_own HO.out.2 HO.out.1 g4 (Nat.le_refl _), ?_⟩
                have e : rcs m (L.take (j + 1)) = rcs m (L.take j) ++ [.int .u64 rq, .int .i64 rs, .int .i64 rl, .int .u64 ru] := by
                  rw [List.take_add_one, HX.out, ← HCS.out]
                  unfold rcs
                  rw [List.flatMap_append]
                  simp
                rw [e]
                exact o4
              clear o4 g4 HO HN HBS HJ
              go_wp2
              go_roundw
              case rel => exact ⟨j + 1, by go_num, by omega, HF⟩
              case measure => simp [intOf]; omega
        · have hge' : ¬ (j : Int) < nL := by omega
          have hjn : j = nL := by omega
          subst hjn
          have hsz := HJ.out.1.size
          have HE : Hid (LdPost m ⟨s, p, b, 0, 1, y0, y1, nn⟩ w (.returned (.tuple #[u4, .slice aW j cW, .int .i64 0])) wr) := by
            have h1 := HJ.out.2
            rw [List.take_of_length_le (by rw [HNL.out]; omega)] at h1
            have hl := HL.out
            have hn := HNL.out
            subst hl
            have := ld_of (cW := cW) (aW := aW) (grown_trans H2.out.2.1.gr HJ.out.1) HLO.out H2.out.2.1.gr.size (by rw [hn]; exact h1) (HWs.out wr HJ.out.1) (by rw [hn]; exact H2.out.2.2.1) H2.out.2.2.2
            rw [hn] at this
            exact this
          clear HJ H2 hd0 hd1 hsz
          go_wp2
          go_ret3
          exact HE.out
theorem pload_any {w : World} {fb bb db wb : Nat} {m : Fm} {G : Nat → Prop} {k : Nat} (h : PRep w fb bb db wb m G) (hg : m.Good k) (P : Pa.Pl) (hP : P.ok) : Calls Try.prog 16 #[.pointer (some ⟨fb, 0, none⟩), P.val] w (LdPost m P w) := by
  cases hko : kok m P with
  | false => exact pload_bad h hg P hP hko
  | true =>
    cases hof : m.off with
    | false => exact pload_on h hg P hP hko hof
    | true => exact pload_off h hg P hP hko hof
end Go.Proofs.Ytfhgbddeclldnaa
