/- The program's boot: the record of bytes. The program's boot: which of two counts. The program's boot: those that count, in their order. -/
import Derived.Laws.BytesArg
import Derived.Lib.Bytes
import Derived.Test.YtfhgbddeclldnaaGreatQ19
namespace Go.Proofs.YtfhgbddeclldnaaGreat
open Go.RowKit Go.Proofs.YtfhgbddeclldnaaGreat.Fi
set_option maxRecDepth 100000
set_option linter.unusedSimpArgs false
set_option linter.unusedVariables false

theorem strOf_inj {xs ys : List Int} (hx : Byt xs) (hy : Byt ys) (h : strOfNums xs = strOfNums ys) : xs = ys := by
  have e : xs.map (fun n => UInt8.ofNat n.toNat) = ys.map fun n => UInt8.ofNat n.toNat := by rw [← strOfNums_data, ← strOfNums_data, h]
  clear h
  induction xs generalizing ys with
  | nil => cases ys with
    | nil => rfl
    | cons y r => simp at e
  | cons x t ih =>
    cases ys with
    | nil => simp at e
    | cons y r =>
      simp only [List.map_cons, List.cons.injEq] at e
      have bx := hx x (List.mem_cons_self ..)
      have bY := hy y (List.mem_cons_self ..)
      have e1 := congrArg UInt8.toNat e.1
      simp only [UInt8.toNat_ofNat'] at e1
      rw [ih (fun z hz => hx z (List.mem_cons_of_mem _ hz)) (fun z hz => hy z (List.mem_cons_of_mem _ hz)) e.2]
      congr 1
      omega
theorem strOf_eq {xs ys : List Int} (hx : Byt xs) (hy : Byt ys) : ((strOfNums xs).toList == (strOfNums ys).toList) = decide (xs = ys) := by
  rw [Go.Lib.strOfNums_toList, Go.Lib.strOfNums_toList]
  by_cases h : xs = ys
  · subst h; simp
  · have : Go.Lib.bytesOf xs ≠ Go.Lib.bytesOf ys := fun e => h (strOf_inj hx hy (by unfold strOfNums; unfold Go.Lib.bytesOf at e; rw [e]))
    simp [h, this]
theorem row_str {w : World} {a : Option Addr} {n : Nat} {xs : List Int} (R : Row w a n xs) (h0 : 0 < n) (c : Nat) : (convert 36 9 (.slice a n c)).run Tryz.prog w = .ok (.string (strOfNums xs)) w := by
  obtain ⟨b, o, rfl, hc⟩ := R.cells h0
  exact run_convert_bytes_arg (P := Tryz.prog) w 36 5 Tryz.underlying36 Tryz.underlying5 b o n c xs R.len_eq hc 9 Tryz.underlying9
theorem pequal_any (a b : Option Addr) (n c m d : Nat) (xs ys : List Int) (w : World) (R : Row w a n xs) (R2 : Row w b m ys) (h0 : 0 < n) (h1 : 0 < m) :
    Calls Tryz.prog 71 #[.slice a n c, .slice b m d] w fun e w' => e = .returned (.bool (decide (xs = ys))) ∧ w = w' := by
  have k1 := row_str R h0 c
  have k2 := row_str R2 h1 d
  rw [← strOf_eq R.byt R2.byt]
  go_enter Tryz.func71, Tryz.ntmps71
  go_wp2
  go_ret
  exact ⟨rfl, rfl⟩
theorem rrd_take {bs : List Int} : rrd (bs.take 32) = rrd bs := by
  unfold rrd
  have e : ∀ k n, k + n ≤ 32 → ((bs.take 32).drop k).take n = (bs.drop k).take n := fun k n h => by
    rw [List.drop_take, List.take_take, Nat.min_eq_left (by omega)]
  rw [e 4 8 (by decide), e 16 4 (by decide), e 20 8 (by decide)]
  congr 1
  rw [List.getD_eq_getElem?_getD, List.getD_eq_getElem?_getD, List.getElem?_take, if_pos (by decide)]
/-- the answer's variable, the record's, the bytes -/
structure Ed (w W : World) (gz gr : Nat) (r : Rc) (a : Option Addr) (bs : List Int) : Prop where
  z : Bx W gz 48 [.int .u64 0, .int .i64 0, .int .i64 0, .int .u64 0]
  r : Bx W gr 48 [.int .u64 r.q, .int .i64 r.s, .int .i64 r.l, .int .u64 r.u]
  row : Row W a 32 bs
  gw : w.grownBy W none
  lz : w.heap.size ≤ gz
  ne : gz ≠ gr
theorem Ed.kept {w W W' : World} {gz gr : Nat} {r : Rc} {a : Option Addr} {bs : List Int} (h : Ed w W gz gr r a bs) (k : W.grownBy W' none) : Ed w W' gz gr r a bs :=
  ⟨h.z.kept k, h.r.kept k, h.row.grown k, grown_trans h.gw k, h.lz, h.ne⟩

set_option maxHeartbeats 2000000 in
theorem pdecode_short (a : Option Addr) (len cap : Nat) (w : World) (h : len < 32) : Calls Tryz.prog 42 #[.slice a len cap] w fun e w' => e = .returned (.tuple #[rc0.val, .int .i64 6]) ∧ w.grownBy w' none := by
  simp only [Rc.val, rc0]
  have hd : decide ((len : Int) < 32) = true := decide_eq_true (by omega)
  go_enter Tryz.func42, Tryz.ntmps42
  go_wp2
  refine bodyPost_ret (by simp [results, Tryz.results42, go_sem]; try rfl) rfl ?_
  exact ⟨rfl, World.grownBy_alloc _ _ _⟩

set_option maxHeartbeats 2000000 in
theorem pdecode_no (b o len cap : Nat) (bs : List Int) (w : World) (R : Row w (some ⟨b, o, none⟩) len bs) (hnc : len ≤ cap) (hcm : cap ≤ maxLen) (h : 32 ≤ len) (hr : rrt (rrd bs) = false) : Calls Tryz.prog 42 #[.slice (some ⟨b, o, none⟩) len cap] w fun e w' => e = .returned (.tuple #[rc0.val, .int .i64 6]) ∧ w.grownBy w' none := by
  have R32 : Row w (some ⟨b, o, none⟩) 32 (bs.take 32) := by have := R.part 0 32 (by omega); simpa using this
  have hF := fun W (R' : Row W (some ⟨b, o, none⟩) 32 (bs.take 32)) => pfields_any (some ⟨b, o, none⟩) cap (bs.take 32) W R'
  rw [rrd_take] at hF
  have hok := rrd_ok R.byt
  have hE := fun W => pencode_any (rrd bs) W hok
  unfold ren at hE
  rw [hr, if_neg (by decide)] at hE
  clear hok hr
  generalize rrd bs = rr at *
  obtain ⟨q, s, l, u⟩ := rr
  have B0 := Bx.new w 48 [.int .u64 0, .int .i64 0, .int .i64 0, .int .u64 0]
  have G0 := World.grownBy_alloc w (.cells #[.int .u64 0, .int .i64 0, .int .i64 0, .int .u64 0] 48) none
  have H0 : Hid _ := And.intro B0 (And.intro G0 (R32.grown G0))
  clear B0 G0 R32 R
  simp only [Rc.val, rc0] at *
  unfold maxLen at hcm
  have hd : decide ((len : Int) < 32) = false := decide_eq_false (by omega)
  have hcap : ¬ (cap : Int) < 32 := by omega
  clear h hnc
  go_enter Tryz.func42, Tryz.ntmps42
  go_wp2_with fail
  refine (hF _ H0.out.2.2).mono ?_
  rintro e w1 ⟨rfl, g1⟩
  have gA := World.grownBy_alloc w1 (.cells #[.int .u64 q, .int .i64 s, .int .i64 l, .int .u64 u] 48) none
  have H1 : Hid (Ed w (w1.alloc (.cells #[.int .u64 q, .int .i64 s, .int .i64 l, .int .u64 u] 48)) w.heap.size w1.heap.size ⟨q, s, l, u⟩ (some ⟨b, o, none⟩) (bs.take 32)) := by
    have h0 := H0.out
    exact ⟨(h0.1.kept g1).kept gA, Bx.new _ _ _, (h0.2.2.grown g1).grown gA, grown_trans (grown_trans h0.2.1 g1) gA, Nat.le_refl _, Nat.ne_of_lt (h0.1.kept g1).lt⟩
  clear gA g1 H0 hF hd hcap
  go_wp2_with fail
  generalize w1.alloc (.cells #[.int .u64 q, .int .i64 s, .int .i64 l, .int .u64 u] 48) = W1 at *
  generalize w.heap.size = gz at *
  generalize w1.heap.size = gr at *
  refine (hE _).mono ?_
  rintro e w2 ⟨a2, n2, c2, rfl, o2, g2⟩
  have H2 : Hid _ := And.intro (H1.out.kept g2) o2
  clear H1 g2 o2 hE
  obtain ⟨z0, z1, z2, z3⟩ := bx4 H2.out.1.z
  obtain ⟨x0, x1, x2, x3⟩ := bx4 H2.out.1.r
  have y0 := H2.out.1.z.f 0
  have y1 := H2.out.1.z.f 1
  have y2 := H2.out.1.z.f 2
  have y3 := H2.out.1.z.f 3
  have R4 := H2.out.1.z.set4 (.int .u64 0) (.int .i64 0) (.int .i64 0) (.int .u64 0)
  have HG : Hid _ := grown_new H2.out.1.gw (grown_set4 _ gz (.int .u64 0) (.int .i64 0) (.int .i64 0) (.int .u64 0)) H2.out.1.lz
  obtain ⟨d0, d1, d2, d3⟩ := bx4 R4
  unfold set4 at d0 d1 d2 d3
  clear R4
  go_wp2
  refine bodyPost_ret (by simp [results, Tryz.results42, go_sem, d0, d1, d2, d3]; try rfl) rfl ?_
  exact ⟨rfl, HG.out⟩
set_option maxHeartbeats 2000000 in
theorem pdecode_ne (b o len cap : Nat) (bs : List Int) (w : World) (R : Row w (some ⟨b, o, none⟩) len bs) (hnc : len ≤ cap) (hcm : cap ≤ maxLen) (h : 32 ≤ len) (hr : rrt (rrd bs) = true) (hq : rby (rrd bs) ≠ bs.take 32) : Calls Tryz.prog 42 #[.slice (some ⟨b, o, none⟩) len cap] w fun e w' => e = .returned (.tuple #[rc0.val, .int .i64 6]) ∧ w.grownBy w' none := by
  have R32 : Row w (some ⟨b, o, none⟩) 32 (bs.take 32) := by have := R.part 0 32 (by omega); simpa using this
  have hF := fun W (R' : Row W (some ⟨b, o, none⟩) 32 (bs.take 32)) => pfields_any (some ⟨b, o, none⟩) cap (bs.take 32) W R'
  rw [rrd_take] at hF
  have hok := rrd_ok R.byt
  have hE := fun W => pencode_any (rrd bs) W hok
  unfold ren at hE
  rw [hr, if_pos rfl] at hE
  have HY : Hid _ := And.intro (rby_byt hr) (And.intro (rby_len (rrd bs)) hq)
  clear hq
  generalize rby (rrd bs) = rb at *
  clear hok hr
  generalize rrd bs = rr at *
  obtain ⟨q, s, l, u⟩ := rr
  have B0 := Bx.new w 48 [.int .u64 0, .int .i64 0, .int .i64 0, .int .u64 0]
  have G0 := World.grownBy_alloc w (.cells #[.int .u64 0, .int .i64 0, .int .i64 0, .int .u64 0] 48) none
  have H0 : Hid _ := And.intro B0 (And.intro G0 (R32.grown G0))
  clear B0 G0 R32 R
  simp only [Rc.val, rc0] at *
  unfold maxLen at hcm
  have hd : decide ((len : Int) < 32) = false := decide_eq_false (by omega)
  have hcap : ¬ (cap : Int) < 32 := by omega
  clear h hnc
  go_enter Tryz.func42, Tryz.ntmps42
  go_wp2_with fail
  refine (hF _ H0.out.2.2).mono ?_
  rintro e w1 ⟨rfl, g1⟩
  have gA := World.grownBy_alloc w1 (.cells #[.int .u64 q, .int .i64 s, .int .i64 l, .int .u64 u] 48) none
  have H1 : Hid (Ed w (w1.alloc (.cells #[.int .u64 q, .int .i64 s, .int .i64 l, .int .u64 u] 48)) w.heap.size w1.heap.size ⟨q, s, l, u⟩ (some ⟨b, o, none⟩) (bs.take 32)) := by
    have h0 := H0.out
    exact ⟨(h0.1.kept g1).kept gA, Bx.new _ _ _, (h0.2.2.grown g1).grown gA, grown_trans (grown_trans h0.2.1 g1) gA, Nat.le_refl _, Nat.ne_of_lt (h0.1.kept g1).lt⟩
  clear gA g1 H0 hF hd hcap
  go_wp2_with fail
  generalize w1.alloc (.cells #[.int .u64 q, .int .i64 s, .int .i64 l, .int .u64 u] 48) = W1 at *
  generalize w.heap.size = gz at *
  generalize w1.heap.size = gr at *
  refine (hE _).mono ?_
  rintro e w2 ⟨a2, n2, c2, rfl, o2, g2⟩
  have H2 : Hid _ := And.intro (H1.out.kept g2) o2
  clear H1 g2 o2 hE
  have hn2 : n2 = 32 := by have := H2.out.2.1; rw [bv_length, HY.out.2.1] at this; omega
  subst hn2
  obtain ⟨a3, c3, e3, R3, -⟩ := own_bytes H2.out.2 HY.out.1 (by decide)
  injection e3 with e3 e4 e5
  subst e3
  clear e4 e5
  have hP := pequal_any (some ⟨b, o, none⟩) a2 32 cap 32 c2 (bs.take 32) rb w2 H2.out.1.row R3 (by decide) (by decide)
  rw [decide_eq_false (by have := HY.out.2.2; first | exact this | exact this.symm | exact fun e => this e.symm)] at hP
  clear R3
  obtain ⟨z0, z1, z2, z3⟩ := bx4 H2.out.1.z
  obtain ⟨x0, x1, x2, x3⟩ := bx4 H2.out.1.r
  have y0 := H2.out.1.z.f 0
  have y1 := H2.out.1.z.f 1
  have y2 := H2.out.1.z.f 2
  have y3 := H2.out.1.z.f 3
  have R4 := H2.out.1.z.set4 (.int .u64 0) (.int .i64 0) (.int .i64 0) (.int .u64 0)
  have HG : Hid _ := grown_new H2.out.1.gw (grown_set4 _ gz (.int .u64 0) (.int .i64 0) (.int .i64 0) (.int .u64 0)) H2.out.1.lz
  obtain ⟨d0, d1, d2, d3⟩ := bx4 R4
  unfold set4 at d0 d1 d2 d3
  clear R4
  go_wp2_with (go_at_call 71; refine hP.mono ?_; rintro e w3 ⟨rfl, rfl⟩)
  refine bodyPost_ret (by simp [results, Tryz.results42, go_sem, d0, d1, d2, d3]; try rfl) rfl ?_
  exact ⟨rfl, HG.out⟩
set_option maxHeartbeats 2000000 in
theorem pdecode_eq (b o len cap : Nat) (bs : List Int) (w : World) (R : Row w (some ⟨b, o, none⟩) len bs) (hnc : len ≤ cap) (hcm : cap ≤ maxLen) (h : 32 ≤ len) (hr : rrt (rrd bs) = true) (hq : rby (rrd bs) = bs.take 32) : Calls Tryz.prog 42 #[.slice (some ⟨b, o, none⟩) len cap] w fun e w' => e = .returned (.tuple #[(rrd bs).val, .int .i64 0]) ∧ w.grownBy w' none := by
  have R32 : Row w (some ⟨b, o, none⟩) 32 (bs.take 32) := by have := R.part 0 32 (by omega); simpa using this
  have hF := fun W (R' : Row W (some ⟨b, o, none⟩) 32 (bs.take 32)) => pfields_any (some ⟨b, o, none⟩) cap (bs.take 32) W R'
  rw [rrd_take] at hF
  have hok := rrd_ok R.byt
  have hE := fun W => pencode_any (rrd bs) W hok
  unfold ren at hE
  rw [hr, if_pos rfl] at hE
  have HY : Hid _ := And.intro (rby_byt hr) (And.intro (rby_len (rrd bs)) hq)
  clear hq
  generalize rby (rrd bs) = rb at *
  clear hok hr
  generalize rrd bs = rr at *
  obtain ⟨q, s, l, u⟩ := rr
  have B0 := Bx.new w 48 [.int .u64 0, .int .i64 0, .int .i64 0, .int .u64 0]
  have G0 := World.grownBy_alloc w (.cells #[.int .u64 0, .int .i64 0, .int .i64 0, .int .u64 0] 48) none
  have H0 : Hid _ := And.intro B0 (And.intro G0 (R32.grown G0))
  clear B0 G0 R32 R
  simp only [Rc.val, rc0] at *
  unfold maxLen at hcm
  have hd : decide ((len : Int) < 32) = false := decide_eq_false (by omega)
  have hcap : ¬ (cap : Int) < 32 := by omega
  clear h hnc
  go_enter Tryz.func42, Tryz.ntmps42
  go_wp2_with fail
  refine (hF _ H0.out.2.2).mono ?_
  rintro e w1 ⟨rfl, g1⟩
  have gA := World.grownBy_alloc w1 (.cells #[.int .u64 q, .int .i64 s, .int .i64 l, .int .u64 u] 48) none
  have H1 : Hid (Ed w (w1.alloc (.cells #[.int .u64 q, .int .i64 s, .int .i64 l, .int .u64 u] 48)) w.heap.size w1.heap.size ⟨q, s, l, u⟩ (some ⟨b, o, none⟩) (bs.take 32)) := by
    have h0 := H0.out
    exact ⟨(h0.1.kept g1).kept gA, Bx.new _ _ _, (h0.2.2.grown g1).grown gA, grown_trans (grown_trans h0.2.1 g1) gA, Nat.le_refl _, Nat.ne_of_lt (h0.1.kept g1).lt⟩
  clear gA g1 H0 hF hd hcap
  go_wp2_with fail
  generalize w1.alloc (.cells #[.int .u64 q, .int .i64 s, .int .i64 l, .int .u64 u] 48) = W1 at *
  generalize w.heap.size = gz at *
  generalize w1.heap.size = gr at *
  refine (hE _).mono ?_
  rintro e w2 ⟨a2, n2, c2, rfl, o2, g2⟩
  have H2 : Hid _ := And.intro (H1.out.kept g2) o2
  clear H1 g2 o2 hE
  have hn2 : n2 = 32 := by have := H2.out.2.1; rw [bv_length, HY.out.2.1] at this; omega
  subst hn2
  obtain ⟨a3, c3, e3, R3, -⟩ := own_bytes H2.out.2 HY.out.1 (by decide)
  injection e3 with e3 e4 e5
  subst e3
  clear e4 e5
  have hP := pequal_any (some ⟨b, o, none⟩) a2 32 cap 32 c2 (bs.take 32) rb w2 H2.out.1.row R3 (by decide) (by decide)
  rw [decide_eq_true (by have := HY.out.2.2; first | exact this | exact this.symm | exact fun e => this e.symm)] at hP
  clear R3
  obtain ⟨z0, z1, z2, z3⟩ := bx4 H2.out.1.z
  obtain ⟨x0, x1, x2, x3⟩ := bx4 H2.out.1.r
  have y0 := H2.out.1.z.f 0
  have y1 := H2.out.1.z.f 1
  have y2 := H2.out.1.z.f 2
  have y3 := H2.out.1.z.f 3
  have R4 := H2.out.1.z.set4 (.int .u64 q) (.int .i64 s) (.int .i64 l) (.int .u64 u)
  have HG : Hid _ := grown_new H2.out.1.gw (grown_set4 _ gz (.int .u64 q) (.int .i64 s) (.int .i64 l) (.int .u64 u)) H2.out.1.lz
  obtain ⟨d0, d1, d2, d3⟩ := bx4 R4
  unfold set4 at d0 d1 d2 d3
  clear R4
  go_wp2_with (go_at_call 71; refine hP.mono ?_; rintro e w3 ⟨rfl, rfl⟩)
  refine bodyPost_ret (by simp [results, Tryz.results42, go_sem, d0, d1, d2, d3]; try rfl) rfl ?_
  exact ⟨rfl, HG.out⟩
theorem pdecode_any (a : Option Addr) (len cap : Nat) (bs : List Int) (w : World) (R : Row w a len bs) (hnc : len ≤ cap) (hcm : cap ≤ maxLen) (hl : len ≤ 1048576) : Calls Tryz.prog 42 #[.slice a len cap] w fun e w' => e = .returned (.tuple #[(rde bs).1.val, .int .i64 (rde bs).2]) ∧ w.grownBy w' none := by
  unfold rde
  rw [R.len_eq]
  by_cases h : len < 32
  · rw [if_pos h]; exact pdecode_short a len cap w h
  · rw [if_neg h]
    obtain ⟨b, o, rfl, -⟩ := R.cells (by omega)
    cases hr : rrt (rrd bs)
    · rw [if_neg (by simp)]; exact pdecode_no b o len cap bs w R hnc hcm (by omega) hr
    · by_cases hq : rby (rrd bs) = bs.take 32
      · rw [if_pos ⟨rfl, hq⟩]; exact pdecode_eq b o len cap bs w R hnc hcm (by omega) hr hq
      · rw [if_neg (by simp [hq])]; exact pdecode_ne b o len cap bs w R hnc hcm (by omega) hr hq
end Go.Proofs.YtfhgbddeclldnaaGreat

namespace Go.Proofs.YtfhgbddeclldnaaGreat
open Go.RowKit Go.Proofs.YtfhgbddeclldnaaGreat.Fi
set_option maxRecDepth 100000
set_option linter.unusedSimpArgs false
set_option linter.unusedVariables false

set_option maxHeartbeats 4000000 in
theorem pchoose_any (a : Option Addr) (len cap : Nat) (xs : List Int) (b : Option Addr) (len2 cap2 : Nat) (ys : List Int) (w : World) (R : Row w a len xs) (hnc : len ≤ cap) (hcm : cap ≤ maxLen) (hl : len ≤ 1048576) (R2 : Row w b len2 ys) (hnc2 : len2 ≤ cap2) (hcm2 : cap2 ≤ maxLen) (hl2 : len2 ≤ 1048576) :
    Calls Tryz.prog 69 #[.slice a len cap, .slice b len2 cap2] w fun e w' => e = .returned (.tuple #[.int .i64 (rch xs ys).1, (rch xs ys).2.1.val, .int .i64 (rch xs ys).2.2]) ∧ w.grownBy w' none := by
  have h1 := fun W R => pdecode_any a len cap xs W R hnc hcm hl
  have h2 := fun W R => pdecode_any b len2 cap2 ys W R hnc2 hcm2 hl2
  have ok1 := (rde_ok R.byt).1
  have ok2 := (rde_ok R2.byt).1
  have er1 := rde_err xs
  have er2 := rde_err ys
  have HRES : Hid (rch xs ys = if (rde xs).2 ≠ 0 ∧ (rde ys).2 ≠ 0 then (0, rc0, 4) else if (rde xs).2 ≠ 0 ∨ ((rde ys).2 = 0 ∧ (rde xs).1.q < (rde ys).1.q) then (1, (rde ys).1, 0) else (0, (rde xs).1, 0)) := rfl
  generalize rch xs ys = RES at *
  generalize rde xs = X at *
  generalize rde ys = Y at *
  obtain ⟨⟨q1, s1, l1, u1⟩, e1⟩ := X
  obtain ⟨⟨q2, s2, l2, u2⟩, e2⟩ := Y
  obtain ⟨k, ⟨p1, p2, p3, p4⟩, pe⟩ := RES
  have hq1 := ok1.1
  have hq2 := ok2.1
  unfold inU at hq1 hq2
  simp only [Rc.val] at *
  have HR : Hid _ := And.intro R R2
  clear R R2 ok1 ok2
  have Z0 := Bx.new w 48 [.int .u64 0, .int .i64 0, .int .i64 0, .int .u64 0]
  have G0 := World.grownBy_alloc w (.cells #[.int .u64 0, .int .i64 0, .int .i64 0, .int .u64 0] 48) none
  have k1 := h1 _ (HR.out.1.grown G0)
  have H0 : Hid _ := And.intro Z0 G0
  clear Z0 G0 h1
  go_enter Tryz.func69, Tryz.ntmps69
  go_wp2_with fail
  refine k1.mono ?_
  rintro e w1 ⟨rfl, g1⟩
  have A1 := World.grownBy_alloc w1 (.cells #[.int .u64 q1, .int .i64 s1, .int .i64 l1, .int .u64 u1] 48) none
  have X1 := Bx.new w1 48 [.int .u64 q1, .int .i64 s1, .int .i64 l1, .int .u64 u1]
  have G1 := grown_trans (grown_trans H0.out.2 g1) A1
  have k2 := h2 _ (HR.out.2.grown G1)
  have H1 : Hid _ := And.intro ((H0.out.1.kept g1).kept A1) (And.intro X1 G1)
  clear X1 G1 A1 g1 H0 k1 h2
  simp only
  go_wp2_with fail
  refine k2.mono ?_
  rintro e w2 ⟨rfl, g2⟩
  have A2 := World.grownBy_alloc w2 (.cells #[.int .u64 q2, .int .i64 s2, .int .i64 l2, .int .u64 u2] 48) none
  have T : Thr w (w2.alloc (.cells #[.int .u64 q2, .int .i64 s2, .int .i64 l2, .int .u64 u2] 48)) w.heap.size w1.heap.size w2.heap.size [.int .u64 q1, .int .i64 s1, .int .i64 l1, .int .u64 u1] [.int .u64 q2, .int .i64 s2, .int .i64 l2, .int .u64 u2] := ⟨(H1.out.1.kept g2).kept A2, (H1.out.2.1.kept g2).kept A2, Bx.new w2 48 _, grown_trans (grown_trans H1.out.2.2 g2) A2⟩
  have HT : Hid _ := T
  clear T A2 g2 H1 k2
  simp only
  obtain ⟨x0, x1, x2, x3⟩ := bx4 HT.out.x
  obtain ⟨y0, y1, y2, y3⟩ := bx4 HT.out.y
  obtain ⟨z0, z1, z2, z3⟩ := bx4 HT.out.z
  have f0 := HT.out.z.f 0
  have f1 := HT.out.z.f 1
  have f2 := HT.out.z.f 2
  have f3 := HT.out.z.f 3
  rcases er1 with rfl | rfl
  · rcases er2 with rfl | rfl
    · by_cases c : q1 < q2
      · obtain ⟨rfl, ⟨rfl, rfl, rfl, rfl⟩, rfl⟩ : k = 1 ∧ (q2 = p1 ∧ s2 = p2 ∧ l2 = p3 ∧ u2 = p4) ∧ pe = 0 := by
          have := HRES.out
          rw [if_neg (by simp), if_pos (Or.inr ⟨rfl, c⟩)] at this
          simp [rc0] at this
          omega
        clear HRES
        have R4 := HT.out.z.set4 (.int .u64 q2) (.int .i64 s2) (.int .i64 l2) (.int .u64 u2)
        have HF : Hid _ := grown_new HT.out.gr (grown_set4 _ w.heap.size (.int .u64 q2) (.int .i64 s2) (.int .i64 l2) (.int .u64 u2)) (Nat.le_refl _)
        obtain ⟨d0, d1, d2, d3⟩ := bx4 R4
        unfold set4 at d0 d1 d2 d3
        clear R4 HR
        go_wp2_with fail
        go_region
        go_wp2
        refine bodyPost_ret (by simp [results, Tryz.results69, go_sem, d0, d1, d2, d3]; try rfl) rfl ?_
        exact ⟨rfl, grown_trans HF.out ⟨rfl, rfl, rfl, Nat.le_refl _, fun _ _ _ => rfl⟩⟩
      · have c' : decide (q1 < q2) = false := decide_eq_false c
        obtain ⟨rfl, ⟨rfl, rfl, rfl, rfl⟩, rfl⟩ : k = 0 ∧ (q1 = p1 ∧ s1 = p2 ∧ l1 = p3 ∧ u1 = p4) ∧ pe = 0 := by
          have := HRES.out
          rw [if_neg (by simp), if_neg (by simp; omega)] at this
          simp [rc0] at this
          omega
        clear HRES
        have R4 := HT.out.z.set4 (.int .u64 q1) (.int .i64 s1) (.int .i64 l1) (.int .u64 u1)
        have HF : Hid _ := grown_new HT.out.gr (grown_set4 _ w.heap.size (.int .u64 q1) (.int .i64 s1) (.int .i64 l1) (.int .u64 u1)) (Nat.le_refl _)
        obtain ⟨d0, d1, d2, d3⟩ := bx4 R4
        unfold set4 at d0 d1 d2 d3
        clear R4 HR
        go_wp2_with fail
        go_region
        go_wp2
        refine bodyPost_ret (by simp [results, Tryz.results69, go_sem, d0, d1, d2, d3]; try rfl) rfl ?_
        exact ⟨rfl, grown_trans HF.out ⟨rfl, rfl, rfl, Nat.le_refl _, fun _ _ _ => rfl⟩⟩
    · obtain ⟨rfl, ⟨rfl, rfl, rfl, rfl⟩, rfl⟩ : k = 0 ∧ (q1 = p1 ∧ s1 = p2 ∧ l1 = p3 ∧ u1 = p4) ∧ pe = 0 := by
        have := HRES.out
        rw [if_neg (by simp), if_neg (by simp)] at this
        simp [rc0] at this
        omega
      clear HRES
      have R4 := HT.out.z.set4 (.int .u64 q1) (.int .i64 s1) (.int .i64 l1) (.int .u64 u1)
      have HF : Hid _ := grown_new HT.out.gr (grown_set4 _ w.heap.size (.int .u64 q1) (.int .i64 s1) (.int .i64 l1) (.int .u64 u1)) (Nat.le_refl _)
      obtain ⟨d0, d1, d2, d3⟩ := bx4 R4
      unfold set4 at d0 d1 d2 d3
      clear R4 HR
      go_wp2_with fail
      go_region
      go_wp2
      refine bodyPost_ret (by simp [results, Tryz.results69, go_sem, d0, d1, d2, d3]; try rfl) rfl ?_
      exact ⟨rfl, grown_trans HF.out ⟨rfl, rfl, rfl, Nat.le_refl _, fun _ _ _ => rfl⟩⟩
  · rcases er2 with rfl | rfl
    · obtain ⟨rfl, ⟨rfl, rfl, rfl, rfl⟩, rfl⟩ : k = 1 ∧ (q2 = p1 ∧ s2 = p2 ∧ l2 = p3 ∧ u2 = p4) ∧ pe = 0 := by
        have := HRES.out
        rw [if_neg (by simp), if_pos (Or.inl (by simp))] at this
        simp [rc0] at this
        omega
      clear HRES
      have R4 := HT.out.z.set4 (.int .u64 q2) (.int .i64 s2) (.int .i64 l2) (.int .u64 u2)
      have HF : Hid _ := grown_new HT.out.gr (grown_set4 _ w.heap.size (.int .u64 q2) (.int .i64 s2) (.int .i64 l2) (.int .u64 u2)) (Nat.le_refl _)
      obtain ⟨d0, d1, d2, d3⟩ := bx4 R4
      unfold set4 at d0 d1 d2 d3
      clear R4 HR
      go_wp2_with fail
      go_region
      go_wp2
      refine bodyPost_ret (by simp [results, Tryz.results69, go_sem, d0, d1, d2, d3]; try rfl) rfl ?_
      exact ⟨rfl, grown_trans HF.out ⟨rfl, rfl, rfl, Nat.le_refl _, fun _ _ _ => rfl⟩⟩
    · obtain ⟨rfl, ⟨rfl, rfl, rfl, rfl⟩, rfl⟩ : k = 0 ∧ (p1 = 0 ∧ p2 = 0 ∧ p3 = 0 ∧ p4 = 0) ∧ pe = 4 := by
        have := HRES.out
        rw [if_pos ⟨by simp, by simp⟩] at this
        simp [rc0] at this
        omega
      clear HRES
      have R4 := HT.out.z.set4 (.int .u64 0) (.int .i64 0) (.int .i64 0) (.int .u64 0)
      have HF : Hid _ := grown_new HT.out.gr (grown_set4 _ w.heap.size (.int .u64 0) (.int .i64 0) (.int .i64 0) (.int .u64 0)) (Nat.le_refl _)
      obtain ⟨d0, d1, d2, d3⟩ := bx4 R4
      unfold set4 at d0 d1 d2 d3
      clear R4 HR
      go_wp2
      refine bodyPost_ret (by simp [results, Tryz.results69, go_sem, d0, d1, d2, d3]; try rfl) rfl ?_
      exact ⟨rfl, HF.out⟩
end Go.Proofs.YtfhgbddeclldnaaGreat

namespace Go.Proofs.YtfhgbddeclldnaaGreat
open Go.RowKit Go.Proofs.YtfhgbddeclldnaaGreat.Fi
set_option maxRecDepth 100000
set_option linter.unusedSimpArgs false
set_option linter.unusedVariables false

/-- Order, as a plain function -/
def ror (a b : List Int) : List Int := if (rde a).2 ≠ 0 ∧ (rde b).2 ≠ 0 then [] else if (rde a).2 ≠ 0 ∨ (rde b).2 ≠ 0 then [(rch a b).1] else [(rch a b).1, 1 - (rch a b).1]
/-- an answer of ints -/
def OrPost (w : World) (xs : List Int) (e : Ending) (w' : World) : Prop := ∃ a c, e = .returned (.slice a xs.length c) ∧ (∀ i, i < xs.length → ∃ g o, a = some ⟨g, o, none⟩ ∧ w'.cell? ⟨g, o + i, none⟩ = some (.int .i64 (xs.getD i 0))) ∧ w.grownBy w' none ∧ xs.length ≤ c ∧ ∀ g o, a = some ⟨g, o, none⟩ → w.heap.size ≤ g
theorem or_new (w W : World) (xs : List Int) (T c g n : Nat) (h : w.grownBy W none) (hg : W.heap.size = g) (hn : xs.length = n) (hnc : n ≤ c) : OrPost w xs (.returned (.slice (some ⟨g, 0, none⟩) n c)) (W.alloc (.cells (xs.map fun x => Value.int .i64 x).toArray T)) := by
  subst hg hn
  refine ⟨_, _, rfl, fun i hi => ⟨_, _, rfl, ?_⟩, grown_trans h (World.grownBy_alloc _ _ _), hnc, fun g o e => by (injection e with e; injection e with e1; rw [← e1]; exact h.size)⟩
  have e := (Bx.new W T (xs.map fun x => Value.int .i64 x)).c i
  rw [Nat.zero_add, e]
  simp [List.getElem?_map, List.getD_eq_getElem?_getD, hi]
/-- one of two slices, taken out of an array that is built at once -/
theorem run_pick0 (a b : Option Addr) (n c m d : Nat) (W : World) : (Instr.index 85 (.agg #[.slice a n c, .slice b m d]) (.int .i64 0)).run Tryz.prog W = .ok (.slice a n c) W := by
  simp [Instr.index, run_underlying Tryz.underlying85, asIntOf, go_sem]
theorem run_pick1 (a b : Option Addr) (n c m d : Nat) (W : World) : (Instr.index 85 (.agg #[.slice a n c, .slice b m d]) (.int .i64 1)).run Tryz.prog W = .ok (.slice b m d) W := by
  simp [Instr.index, run_underlying Tryz.underlying85, asIntOf, go_sem]
/-- what Choose tells, case by case -/
theorem rch_cases (a b : List Int) : ((rde a).2 ≠ 0 ∧ (rde b).2 ≠ 0 ∧ rch a b = (0, rc0, 4) ∧ ror a b = [])
    ∨ ((rde a).2 ≠ 0 ∧ (rde b).2 = 0 ∧ rch a b = (1, (rde b).1, 0) ∧ ror a b = [1])
    ∨ ((rde a).2 = 0 ∧ (rde b).2 ≠ 0 ∧ rch a b = (0, (rde a).1, 0) ∧ ror a b = [0])
    ∨ ((rde a).2 = 0 ∧ (rde b).2 = 0 ∧ rch a b = (1, (rde b).1, 0) ∧ ror a b = [1, 0])
    ∨ ((rde a).2 = 0 ∧ (rde b).2 = 0 ∧ rch a b = (0, (rde a).1, 0) ∧ ror a b = [0, 1]) := by
  unfold ror rch
  by_cases h1 : (rde a).2 = 0 <;> by_cases h2 : (rde b).2 = 0 <;> by_cases h3 : (rde a).1.q < (rde b).1.q <;> simp [h1, h2, h3]
set_option maxHeartbeats 2000000 in
theorem porder_none (a : Option Addr) (len cap : Nat) (xs : List Int) (b : Option Addr) (len2 cap2 : Nat) (ys : List Int) (w : World) (R : Row w a len xs) (hnc : len ≤ cap) (hcm : cap ≤ maxLen) (hl : len ≤ 1048576) (R2 : Row w b len2 ys) (hnc2 : len2 ≤ cap2) (hcm2 : cap2 ≤ maxLen) (hl2 : len2 ≤ 1048576) (hc : rch xs ys = (0, rc0, 4))  :
    Calls Tryz.prog 41 #[.slice a len cap, .slice b len2 cap2] w (OrPost w []) := by
  have h1 := pchoose_any a len cap xs b len2 cap2 ys w R hnc hcm hl R2 hnc2 hcm2 hl2
  rw [hc] at h1
  clear hc
  simp only [Rc.val, rc0] at *
  go_enter Tryz.func41, Tryz.ntmps41
  go_wp2_with fail
  refine h1.mono ?_
  rintro e w1 ⟨rfl, g1⟩
  have HG : Hid _ := grown_trans g1 (World.grownBy_alloc w1 (.cells #[.int .u64 0, .int .i64 0, .int .i64 0, .int .u64 0] 48) none)
  clear h1 g1 R R2
  go_wp2
  go_ret
  exact ⟨_, _, rfl, fun i hi => absurd hi (by simp), HG.out, Nat.le_refl _, fun _ _ e => by cases e⟩
set_option maxHeartbeats 2000000 in
theorem porder_1 (a : Option Addr) (len cap : Nat) (xs : List Int) (b : Option Addr) (len2 cap2 : Nat) (ys : List Int) (w : World) (R : Row w a len xs) (hnc : len ≤ cap) (hcm : cap ≤ maxLen) (hl : len ≤ 1048576) (R2 : Row w b len2 ys) (hnc2 : len2 ≤ cap2) (hcm2 : cap2 ≤ maxLen) (hl2 : len2 ≤ 1048576) (hc : rch xs ys = (1, (rde ys).1, 0)) (HE : (rde xs).2 = 6) :
    Calls Tryz.prog 41 #[.slice a len cap, .slice b len2 cap2] w (OrPost w [1]) := by
  have h1 := pchoose_any a len cap xs b len2 cap2 ys w R hnc hcm hl R2 hnc2 hcm2 hl2
  rw [hc] at h1
  have h2 := fun W (R' : Row W a len xs) => pdecode_any a len cap xs W R' hnc hcm hl
  have HR : Hid _ := R
  rw [HE] at h2
  generalize (rde xs).1 = rz at *
  clear hc R R2
  generalize (rde ys).1 = rk at *
  obtain ⟨q1, s1, l1, u1⟩ := rk
  obtain ⟨q2, s2, l2, u2⟩ := rz
  simp only [Rc.val] at *
  go_enter Tryz.func41, Tryz.ntmps41
  go_wp2_with fail
  refine h1.mono ?_
  rintro e w1 ⟨rfl, g1⟩
  have HG : Hid _ := grown_trans g1 (World.grownBy_alloc w1 (.cells #[.int .u64 q1, .int .i64 s1, .int .i64 l1, .int .u64 u1] 48) none)
  clear h1 g1
  have hi0 := run_pick0 b a len2 cap2 len cap
  have hi1 := run_pick1 b a len2 cap2 len cap
  go_wp2_with fail
  clear hi0 hi1
  generalize w1.alloc (.cells #[.int .u64 q1, .int .i64 s1, .int .i64 l1, .int .u64 u1] 48) = W1 at *
  refine (h2 _ (HR.out.grown HG.out)).mono ?_
  rintro e w2 ⟨rfl, g2⟩
  have HG2 : Hid _ := grown_trans (grown_trans HG.out g2) (World.grownBy_alloc w2 (.cells #[.int .u64 q2, .int .i64 s2, .int .i64 l2, .int .u64 u2] 48) none)
  clear h2 g2 HG
  go_wp2
  go_ret
  exact or_new w _ [1] 3 _ _ _ HG2.out (World.size_alloc _ _) rfl (Nat.le_refl _)
set_option maxHeartbeats 2000000 in
theorem porder_0 (a : Option Addr) (len cap : Nat) (xs : List Int) (b : Option Addr) (len2 cap2 : Nat) (ys : List Int) (w : World) (R : Row w a len xs) (hnc : len ≤ cap) (hcm : cap ≤ maxLen) (hl : len ≤ 1048576) (R2 : Row w b len2 ys) (hnc2 : len2 ≤ cap2) (hcm2 : cap2 ≤ maxLen) (hl2 : len2 ≤ 1048576) (hc : rch xs ys = (0, (rde xs).1, 0)) (HE : (rde ys).2 = 6) :
    Calls Tryz.prog 41 #[.slice a len cap, .slice b len2 cap2] w (OrPost w [0]) := by
  have h1 := pchoose_any a len cap xs b len2 cap2 ys w R hnc hcm hl R2 hnc2 hcm2 hl2
  rw [hc] at h1
  have h2 := fun W (R' : Row W b len2 ys) => pdecode_any b len2 cap2 ys W R' hnc2 hcm2 hl2
  have HR : Hid _ := R2
  rw [HE] at h2
  generalize (rde ys).1 = rz at *
  clear hc R R2
  generalize (rde xs).1 = rk at *
  obtain ⟨q1, s1, l1, u1⟩ := rk
  obtain ⟨q2, s2, l2, u2⟩ := rz
  simp only [Rc.val] at *
  go_enter Tryz.func41, Tryz.ntmps41
  go_wp2_with fail
  refine h1.mono ?_
  rintro e w1 ⟨rfl, g1⟩
  have HG : Hid _ := grown_trans g1 (World.grownBy_alloc w1 (.cells #[.int .u64 q1, .int .i64 s1, .int .i64 l1, .int .u64 u1] 48) none)
  clear h1 g1
  have hi0 := run_pick0 b a len2 cap2 len cap
  have hi1 := run_pick1 b a len2 cap2 len cap
  go_wp2_with fail
  clear hi0 hi1
  generalize w1.alloc (.cells #[.int .u64 q1, .int .i64 s1, .int .i64 l1, .int .u64 u1] 48) = W1 at *
  refine (h2 _ (HR.out.grown HG.out)).mono ?_
  rintro e w2 ⟨rfl, g2⟩
  have HG2 : Hid _ := grown_trans (grown_trans HG.out g2) (World.grownBy_alloc w2 (.cells #[.int .u64 q2, .int .i64 s2, .int .i64 l2, .int .u64 u2] 48) none)
  clear h2 g2 HG
  go_wp2
  go_ret
  exact or_new w _ [0] 3 _ _ _ HG2.out (World.size_alloc _ _) rfl (Nat.le_refl _)
set_option maxHeartbeats 2000000 in
theorem porder_10 (a : Option Addr) (len cap : Nat) (xs : List Int) (b : Option Addr) (len2 cap2 : Nat) (ys : List Int) (w : World) (R : Row w a len xs) (hnc : len ≤ cap) (hcm : cap ≤ maxLen) (hl : len ≤ 1048576) (R2 : Row w b len2 ys) (hnc2 : len2 ≤ cap2) (hcm2 : cap2 ≤ maxLen) (hl2 : len2 ≤ 1048576) (hc : rch xs ys = (1, (rde ys).1, 0)) (HE : (rde xs).2 = 0) :
    Calls Tryz.prog 41 #[.slice a len cap, .slice b len2 cap2] w (OrPost w [1, 0]) := by
  have h1 := pchoose_any a len cap xs b len2 cap2 ys w R hnc hcm hl R2 hnc2 hcm2 hl2
  rw [hc] at h1
  have h2 := fun W (R' : Row W a len xs) => pdecode_any a len cap xs W R' hnc hcm hl
  have HR : Hid _ := R
  rw [HE] at h2
  generalize (rde xs).1 = rz at *
  clear hc R R2
  generalize (rde ys).1 = rk at *
  obtain ⟨q1, s1, l1, u1⟩ := rk
  obtain ⟨q2, s2, l2, u2⟩ := rz
  simp only [Rc.val] at *
  go_enter Tryz.func41, Tryz.ntmps41
  go_wp2_with fail
  refine h1.mono ?_
  rintro e w1 ⟨rfl, g1⟩
  have HG : Hid _ := grown_trans g1 (World.grownBy_alloc w1 (.cells #[.int .u64 q1, .int .i64 s1, .int .i64 l1, .int .u64 u1] 48) none)
  clear h1 g1
  have hi0 := run_pick0 b a len2 cap2 len cap
  have hi1 := run_pick1 b a len2 cap2 len cap
  go_wp2_with fail
  clear hi0 hi1
  generalize w1.alloc (.cells #[.int .u64 q1, .int .i64 s1, .int .i64 l1, .int .u64 u1] 48) = W1 at *
  refine (h2 _ (HR.out.grown HG.out)).mono ?_
  rintro e w2 ⟨rfl, g2⟩
  have HG2 : Hid _ := grown_trans (grown_trans HG.out g2) (World.grownBy_alloc w2 (.cells #[.int .u64 q2, .int .i64 s2, .int .i64 l2, .int .u64 u2] 48) none)
  clear h2 g2 HG
  go_wp2
  go_ret
  exact or_new w _ [1, 0] 3 _ _ _ HG2.out (World.size_alloc _ _) rfl (Nat.le_refl _)
set_option maxHeartbeats 2000000 in
theorem porder_01 (a : Option Addr) (len cap : Nat) (xs : List Int) (b : Option Addr) (len2 cap2 : Nat) (ys : List Int) (w : World) (R : Row w a len xs) (hnc : len ≤ cap) (hcm : cap ≤ maxLen) (hl : len ≤ 1048576) (R2 : Row w b len2 ys) (hnc2 : len2 ≤ cap2) (hcm2 : cap2 ≤ maxLen) (hl2 : len2 ≤ 1048576) (hc : rch xs ys = (0, (rde xs).1, 0)) (HE : (rde ys).2 = 0) :
    Calls Tryz.prog 41 #[.slice a len cap, .slice b len2 cap2] w (OrPost w [0, 1]) := by
  have h1 := pchoose_any a len cap xs b len2 cap2 ys w R hnc hcm hl R2 hnc2 hcm2 hl2
  rw [hc] at h1
  have h2 := fun W (R' : Row W b len2 ys) => pdecode_any b len2 cap2 ys W R' hnc2 hcm2 hl2
  have HR : Hid _ := R2
  rw [HE] at h2
  generalize (rde ys).1 = rz at *
  clear hc R R2
  generalize (rde xs).1 = rk at *
  obtain ⟨q1, s1, l1, u1⟩ := rk
  obtain ⟨q2, s2, l2, u2⟩ := rz
  simp only [Rc.val] at *
  go_enter Tryz.func41, Tryz.ntmps41
  go_wp2_with fail
  refine h1.mono ?_
  rintro e w1 ⟨rfl, g1⟩
  have HG : Hid _ := grown_trans g1 (World.grownBy_alloc w1 (.cells #[.int .u64 q1, .int .i64 s1, .int .i64 l1, .int .u64 u1] 48) none)
  clear h1 g1
  have hi0 := run_pick0 b a len2 cap2 len cap
  have hi1 := run_pick1 b a len2 cap2 len cap
  go_wp2_with fail
  clear hi0 hi1
  generalize w1.alloc (.cells #[.int .u64 q1, .int .i64 s1, .int .i64 l1, .int .u64 u1] 48) = W1 at *
  refine (h2 _ (HR.out.grown HG.out)).mono ?_
  rintro e w2 ⟨rfl, g2⟩
  have HG2 : Hid _ := grown_trans (grown_trans HG.out g2) (World.grownBy_alloc w2 (.cells #[.int .u64 q2, .int .i64 s2, .int .i64 l2, .int .u64 u2] 48) none)
  clear h2 g2 HG
  go_wp2
  go_ret
  exact or_new w _ [0, 1] 3 _ _ _ HG2.out (World.size_alloc _ _) rfl (Nat.le_refl _)
theorem porder_any (a : Option Addr) (len cap : Nat) (xs : List Int) (b : Option Addr) (len2 cap2 : Nat) (ys : List Int) (w : World) (R : Row w a len xs) (hnc : len ≤ cap) (hcm : cap ≤ maxLen) (hl : len ≤ 1048576) (R2 : Row w b len2 ys) (hnc2 : len2 ≤ cap2) (hcm2 : cap2 ≤ maxLen) (hl2 : len2 ≤ 1048576) :
    Calls Tryz.prog 41 #[.slice a len cap, .slice b len2 cap2] w (OrPost w (ror xs ys)) := by
  have e1 := rde_err xs
  have e2 := rde_err ys
  rcases rch_cases xs ys with ⟨h1, h2, hc, ho⟩ | ⟨h1, h2, hc, ho⟩ | ⟨h1, h2, hc, ho⟩ | ⟨h1, h2, hc, ho⟩ | ⟨h1, h2, hc, ho⟩ <;> rw [ho]
  · exact porder_none a len cap xs b len2 cap2 ys w R hnc hcm hl R2 hnc2 hcm2 hl2 hc
  · exact porder_1 a len cap xs b len2 cap2 ys w R hnc hcm hl R2 hnc2 hcm2 hl2 hc (by omega)
  · exact porder_0 a len cap xs b len2 cap2 ys w R hnc hcm hl R2 hnc2 hcm2 hl2 hc (by omega)
  · exact porder_10 a len cap xs b len2 cap2 ys w R hnc hcm hl R2 hnc2 hcm2 hl2 hc h1
  · exact porder_01 a len cap xs b len2 cap2 ys w R hnc hcm hl R2 hnc2 hcm2 hl2 hc h2
end Go.Proofs.YtfhgbddeclldnaaGreat
