/- The program's boot: the record of bytes. -/
import Derived.Test.YtlbilpjlfelgdaaES
import Derived.Laws.BytesArg
import Derived.Lib.Bytes
namespace Go.Proofs.Ytlbilpjlfelgdaa
open Go.RowKit
set_option linter.unusedSimpArgs false
set_option linter.unusedVariables false

theorem strOf_inj {xs ys : List Int} (hx : Byt xs) (hy : Byt ys) (h : strOfNums xs = strOfNums ys) : xs = ys := by
  have e : xs.map (fun n => UInt8.ofNat n.toNat) = ys.map fun n => UInt8.ofNat n.toNat := by rw [← strOfNums_data, ← strOfNums_data, h]
  clear h
  induction xs generalizing ys with
  | nil => cases ys with
    | nil => rfl
    | cons y r => simp at e
  | cons x t ih =>
    cases ys with
    | nil => simp at e
    | cons y r =>
      simp only [List.map_cons, List.cons.injEq] at e
      have bx := hx x (List.mem_cons_self ..)
      have bY := hy y (List.mem_cons_self ..)
      have e1 := congrArg UInt8.toNat e.1
      simp only [UInt8.toNat_ofNat'] at e1
      rw [ih (fun z hz => hx z (List.mem_cons_of_mem _ hz)) (fun z hz => hy z (List.mem_cons_of_mem _ hz)) e.2]
      congr 1
      omega
theorem strOf_eq {xs ys : List Int} (hx : Byt xs) (hy : Byt ys) : ((strOfNums xs).toList == (strOfNums ys).toList) = decide (xs = ys) := by
  rw [Go.Lib.strOfNums_toList, Go.Lib.strOfNums_toList]
  by_cases h : xs = ys
  · subst h; simp
  · have : Go.Lib.bytesOf xs ≠ Go.Lib.bytesOf ys := fun e => h (strOf_inj hx hy (by unfold strOfNums; unfold Go.Lib.bytesOf at e; rw [e]))
    simp [h, this]
theorem row_str {w : World} {a : Option Addr} {n : Nat} {xs : List Int} (R : Row w a n xs) (h0 : 0 < n) (c : Nat) : (convert 25 9 (.slice a n c)).run Try.prog w = .ok (.string (strOfNums xs)) w := by
  obtain ⟨b, o, rfl, hc⟩ := R.cells h0
  exact run_convert_bytes_arg (P := Try.prog) w 25 5 Try.underlying25 Try.underlying5 b o n c xs R.len_eq hc 9 Try.underlying9
theorem pequal_any (a b : Option Addr) (n c m d : Nat) (xs ys : List Int) (w : World) (R : Row w a n xs) (R2 : Row w b m ys) (h0 : 0 < n) (h1 : 0 < m) :
    Calls Try.prog 29 #[.slice a n c, .slice b m d] w fun e w' => e = .returned (.bool (decide (xs = ys))) ∧ w = w' := by
  have k1 := row_str R h0 c
  have k2 := row_str R2 h1 d
  rw [← strOf_eq R.byt R2.byt]
  go_enter Try.func29, Try.ntmps29
  go_wp2
  go_ret
  exact ⟨rfl, rfl⟩
theorem rrd_take {bs : List Int} : rrd (bs.take 32) = rrd bs := by
  unfold rrd
  have e : ∀ k n, k + n ≤ 32 → ((bs.take 32).drop k).take n = (bs.drop k).take n := fun k n h => by
    rw [List.drop_take, List.take_take, Nat.min_eq_left (by omega)]
  rw [e 4 8 (by decide), e 16 4 (by decide), e 20 8 (by decide)]
  congr 1
  rw [List.getD_eq_getElem?_getD, List.getD_eq_getElem?_getD, List.getElem?_take, if_pos (by decide)]
/-- the answer's variable, the record's, the bytes -/
structure Ed (w W : World) (gz gr : Nat) (r : Rc) (a : Option Addr) (bs : List Int) : Prop where
  z : Bx W gz 24 [.int .u64 0, .int .i64 0, .int .i64 0, .int .u64 0]
  r : Bx W gr 24 [.int .u64 r.q, .int .i64 r.s, .int .i64 r.l, .int .u64 r.u]
  row : Row W a 32 bs
  gw : w.grownBy W none
  lz : w.heap.size ≤ gz
  ne : gz ≠ gr
theorem Ed.kept {w W W' : World} {gz gr : Nat} {r : Rc} {a : Option Addr} {bs : List Int} (h : Ed w W gz gr r a bs) (k : W.grownBy W' none) : Ed w W' gz gr r a bs :=
  ⟨h.z.kept k, h.r.kept k, h.row.grown k, grown_trans h.gw k, h.lz, h.ne⟩

set_option maxHeartbeats 2000000 in
theorem pdecode_short (a : Option Addr) (len cap : Nat) (w : World) (h : len < 32) : Calls Try.prog 13 #[.slice a len cap] w fun e w' => e = .returned (.tuple #[rc0.val, .int .i64 6]) ∧ w.grownBy w' none := by
  simp only [Rc.val, rc0]
  have hd : decide ((len : Int) < 32) = true := decide_eq_true (by omega)
  go_enter Try.func13, Try.ntmps13
  go_wp2
  refine bodyPost_ret (by simp [results, Try.results13, go_sem]; try rfl) rfl ?_
  exact ⟨rfl, World.grownBy_alloc _ _ _⟩

set_option maxHeartbeats 2000000 in
theorem pdecode_no (b o len cap : Nat) (bs : List Int) (w : World) (R : Row w (some ⟨b, o, none⟩) len bs) (hnc : len ≤ cap) (hcm : cap ≤ maxLen) (h : 32 ≤ len) (hr : rrt (rrd bs) = false) : Calls Try.prog 13 #[.slice (some ⟨b, o, none⟩) len cap] w fun e w' => e = .returned (.tuple #[rc0.val, .int .i64 6]) ∧ w.grownBy w' none := by
  have R32 : Row w (some ⟨b, o, none⟩) 32 (bs.take 32) := by have := R.part 0 32 (by omega); simpa using this
  have hF := fun W (R' : Row W (some ⟨b, o, none⟩) 32 (bs.take 32)) => pfields_any (some ⟨b, o, none⟩) cap (bs.take 32) W R'
  rw [rrd_take] at hF
  have hok := rrd_ok R.byt
  have hE := fun W => pencode_any (rrd bs) W hok
  unfold ren at hE
  rw [hr, if_neg (by decide)] at hE
  clear hok hr
  generalize rrd bs = rr at *
  obtain ⟨q, s, l, u⟩ := rr
  have B0 := Bx.new w 24 [.int .u64 0, .int .i64 0, .int .i64 0, .int .u64 0]
  have G0 := World.grownBy_alloc w (.cells #[.int .u64 0, .int .i64 0, .int .i64 0, .int .u64 0] 24) none
  have H0 : Hid _ := And.intro B0 (And.intro G0 (R32.grown G0))
  clear B0 G0 R32 R
  simp only [Rc.val, rc0] at *
  unfold maxLen at hcm
  have hd : decide ((len : Int) < 32) = false := decide_eq_false (by omega)
  have hcap : ¬ (cap : Int) < 32 := by omega
  clear h hnc
  go_enter Try.func13, Try.ntmps13
  go_wp2_with fail
  refine (hF _ H0.out.2.2).mono ?_
  rintro e w1 ⟨rfl, g1⟩
  have gA := World.grownBy_alloc w1 (.cells #[.int .u64 q, .int .i64 s, .int .i64 l, .int .u64 u] 24) none
  have H1 : Hid (Ed w (w1.alloc (.cells #[.int .u64 q, .int .i64 s, .int .i64 l, .int .u64 u] 24)) w.heap.size w1.heap.size ⟨q, s, l, u⟩ (some ⟨b, o, none⟩) (bs.take 32)) := by
    have h0 := H0.out
    exact ⟨(h0.1.kept g1).kept gA, Bx.new _ _ _, (h0.2.2.grown g1).grown gA, grown_trans (grown_trans h0.2.1 g1) gA, Nat.le_refl _, Nat.ne_of_lt (h0.1.kept g1).lt⟩
  clear gA g1 H0 hF hd hcap
  go_wp2_with fail
  generalize w1.alloc (.cells #[.int .u64 q, .int .i64 s, .int .i64 l, .int .u64 u] 24) = W1 at *
  generalize w.heap.size = gz at *
  generalize w1.heap.size = gr at *
  refine (hE _).mono ?_
  rintro e w2 ⟨a2, n2, c2, rfl, o2, g2⟩
  have H2 : Hid _ := And.intro (H1.out.kept g2) o2
  clear H1 g2 o2 hE
  obtain ⟨z0, z1, z2, z3⟩ := bx4 H2.out.1.z
  obtain ⟨x0, x1, x2, x3⟩ := bx4 H2.out.1.r
  have y0 := H2.out.1.z.f 0
  have y1 := H2.out.1.z.f 1
  have y2 := H2.out.1.z.f 2
  have y3 := H2.out.1.z.f 3
  have R4 := H2.out.1.z.set4 (.int .u64 0) (.int .i64 0) (.int .i64 0) (.int .u64 0)
  have HG : Hid _ := grown_new H2.out.1.gw (grown_set4 _ gz (.int .u64 0) (.int .i64 0) (.int .i64 0) (.int .u64 0)) H2.out.1.lz
  obtain ⟨d0, d1, d2, d3⟩ := bx4 R4
  unfold set4 at d0 d1 d2 d3
  clear R4
  go_wp2
  refine bodyPost_ret (by simp [results, Try.results13, go_sem, d0, d1, d2, d3]; try rfl) rfl ?_
  exact ⟨rfl, HG.out⟩
set_option maxHeartbeats 2000000 in
theorem pdecode_ne (b o len cap : Nat) (bs : List Int) (w : World) (R : Row w (some ⟨b, o, none⟩) len bs) (hnc : len ≤ cap) (hcm : cap ≤ maxLen) (h : 32 ≤ len) (hr : rrt (rrd bs) = true) (hq : rby (rrd bs) ≠ bs.take 32) : Calls Try.prog 13 #[.slice (some ⟨b, o, none⟩) len cap] w fun e w' => e = .returned (.tuple #[rc0.val, .int .i64 6]) ∧ w.grownBy w' none := by
  have R32 : Row w (some ⟨b, o, none⟩) 32 (bs.take 32) := by have := R.part 0 32 (by omega); simpa using this
  have hF := fun W (R' : Row W (some ⟨b, o, none⟩) 32 (bs.take 32)) => pfields_any (some ⟨b, o, none⟩) cap (bs.take 32) W R'
  rw [rrd_take] at hF
  have hok := rrd_ok R.byt
  have hE := fun W => pencode_any (rrd bs) W hok
  unfold ren at hE
  rw [hr, if_pos rfl] at hE
  have HY : Hid _ := And.intro (rby_byt hr) (And.intro (rby_len (rrd bs)) hq)
  clear hq
  generalize rby (rrd bs) = rb at *
  clear hok hr
  generalize rrd bs = rr at *
  obtain ⟨q, s, l, u⟩ := rr
  have B0 := Bx.new w 24 [.int .u64 0, .int .i64 0, .int .i64 0, .int .u64 0]
  have G0 := World.grownBy_alloc w (.cells #[.int .u64 0, .int .i64 0, .int .i64 0, .int .u64 0] 24) none
  have H0 : Hid _ := And.intro B0 (And.intro G0 (R32.grown G0))
  clear B0 G0 R32 R
  simp only [Rc.val, rc0] at *
  unfold maxLen at hcm
  have hd : decide ((len : Int) < 32) = false := decide_eq_false (by omega)
  have hcap : ¬ (cap : Int) < 32 := by omega
  clear h hnc
  go_enter Try.func13, Try.ntmps13
  go_wp2_with fail
  refine (hF _ H0.out.2.2).mono ?_
  rintro e w1 ⟨rfl, g1⟩
  have gA := World.grownBy_alloc w1 (.cells #[.int .u64 q, .int .i64 s, .int .i64 l, .int .u64 u] 24) none
  have H1 : Hid (Ed w (w1.alloc (.cells #[.int .u64 q, .int .i64 s, .int .i64 l, .int .u64 u] 24)) w.heap.size w1.heap.size ⟨q, s, l, u⟩ (some ⟨b, o, none⟩) (bs.take 32)) := by
    have h0 := H0.out
    exact ⟨(h0.1.kept g1).kept gA, Bx.new _ _ _, (h0.2.2.grown g1).grown gA, grown_trans (grown_trans h0.2.1 g1) gA, Nat.le_refl _, Nat.ne_of_lt (h0.1.kept g1).lt⟩
  clear gA g1 H0 hF hd hcap
  go_wp2_with fail
  generalize w1.alloc (.cells #[.int .u64 q, .int .i64 s, .int .i64 l, .int .u64 u] 24) = W1 at *
  generalize w.heap.size = gz at *
  generalize w1.heap.size = gr at *
  refine (hE _).mono ?_
  rintro e w2 ⟨a2, n2, c2, rfl, o2, g2⟩
  have H2 : Hid _ := And.intro (H1.out.kept g2) o2
  clear H1 g2 o2 hE
  have hn2 : n2 = 32 := by have := H2.out.2.1; rw [bv_length, HY.out.2.1] at this; omega
  subst hn2
  obtain ⟨a3, c3, e3, R3, -⟩ := own_bytes H2.out.2 HY.out.1 (by decide)
  injection e3 with e3 e4 e5
  subst e3
  clear e4 e5
  have hP := pequal_any (some ⟨b, o, none⟩) a2 32 cap 32 c2 (bs.take 32) rb w2 H2.out.1.row R3 (by decide) (by decide)
  rw [decide_eq_false (by have := HY.out.2.2; first | exact this | exact this.symm | exact fun e => this e.symm)] at hP
  clear R3
  obtain ⟨z0, z1, z2, z3⟩ := bx4 H2.out.1.z
  obtain ⟨x0, x1, x2, x3⟩ := bx4 H2.out.1.r
  have y0 := H2.out.1.z.f 0
  have y1 := H2.out.1.z.f 1
  have y2 := H2.out.1.z.f 2
  have y3 := H2.out.1.z.f 3
  have R4 := H2.out.1.z.set4 (.int .u64 0) (.int .i64 0) (.int .i64 0) (.int .u64 0)
  have HG : Hid _ := grown_new H2.out.1.gw (grown_set4 _ gz (.int .u64 0) (.int .i64 0) (.int .i64 0) (.int .u64 0)) H2.out.1.lz
  obtain ⟨d0, d1, d2, d3⟩ := bx4 R4
  unfold set4 at d0 d1 d2 d3
  clear R4
  go_wp2_with (go_at_call 29; refine hP.mono ?_; rintro e w3 ⟨rfl, rfl⟩)
  refine bodyPost_ret (by simp [results, Try.results13, go_sem, d0, d1, d2, d3]; try rfl) rfl ?_
  exact ⟨rfl, HG.out⟩
set_option maxHeartbeats 2000000 in
theorem pdecode_eq (b o len cap : Nat) (bs : List Int) (w : World) (R : Row w (some ⟨b, o, none⟩) len bs) (hnc : len ≤ cap) (hcm : cap ≤ maxLen) (h : 32 ≤ len) (hr : rrt (rrd bs) = true) (hq : rby (rrd bs) = bs.take 32) : Calls Try.prog 13 #[.slice (some ⟨b, o, none⟩) len cap] w fun e w' => e = .returned (.tuple #[(rrd bs).val, .int .i64 0]) ∧ w.grownBy w' none := by
  have R32 : Row w (some ⟨b, o, none⟩) 32 (bs.take 32) := by have := R.part 0 32 (by omega); simpa using this
  have hF := fun W (R' : Row W (some ⟨b, o, none⟩) 32 (bs.take 32)) => pfields_any (some ⟨b, o, none⟩) cap (bs.take 32) W R'
  rw [rrd_take] at hF
  have hok := rrd_ok R.byt
  have hE := fun W => pencode_any (rrd bs) W hok
  unfold ren at hE
  rw [hr, if_pos rfl] at hE
  have HY : Hid _ := And.intro (rby_byt hr) (And.intro (rby_len (rrd bs)) hq)
  clear hq
  generalize rby (rrd bs) = rb at *
  clear hok hr
  generalize rrd bs = rr at *
  obtain ⟨q, s, l, u⟩ := rr
  have B0 := Bx.new w 24 [.int .u64 0, .int .i64 0, .int .i64 0, .int .u64 0]
  have G0 := World.grownBy_alloc w (.cells #[.int .u64 0, .int .i64 0, .int .i64 0, .int .u64 0] 24) none
  have H0 : Hid _ := And.intro B0 (And.intro G0 (R32.grown G0))
  clear B0 G0 R32 R
  simp only [Rc.val, rc0] at *
  unfold maxLen at hcm
  have hd : decide ((len : Int) < 32) = false := decide_eq_false (by omega)
  have hcap : ¬ (cap : Int) < 32 := by omega
  clear h hnc
  go_enter Try.func13, Try.ntmps13
  go_wp2_with fail
  refine (hF _ H0.out.2.2).mono ?_
  rintro e w1 ⟨rfl, g1⟩
  have gA := World.grownBy_alloc w1 (.cells #[.int .u64 q, .int .i64 s, .int .i64 l, .int .u64 u] 24) none
  have H1 : Hid (Ed w (w1.alloc (.cells #[.int .u64 q, .int .i64 s, .int .i64 l, .int .u64 u] 24)) w.heap.size w1.heap.size ⟨q, s, l, u⟩ (some ⟨b, o, none⟩) (bs.take 32)) := by
    have h0 := H0.out
    exact ⟨(h0.1.kept g1).kept gA, Bx.new _ _ _, (h0.2.2.grown g1).grown gA, grown_trans (grown_trans h0.2.1 g1) gA, Nat.le_refl _, Nat.ne_of_lt (h0.1.kept g1).lt⟩
  clear gA g1 H0 hF hd hcap
  go_wp2_with fail
  generalize w1.alloc (.cells #[.int .u64 q, .int .i64 s, .int .i64 l, .int .u64 u] 24) = W1 at *
  generalize w.heap.size = gz at *
  generalize w1.heap.size = gr at *
  refine (hE _).mono ?_
  rintro e w2 ⟨a2, n2, c2, rfl, o2, g2⟩
  have H2 : Hid _ := And.intro (H1.out.kept g2) o2
  clear H1 g2 o2 hE
  have hn2 : n2 = 32 := by have := H2.out.2.1; rw [bv_length, HY.out.2.1] at this; omega
  subst hn2
  obtain ⟨a3, c3, e3, R3, -⟩ := own_bytes H2.out.2 HY.out.1 (by decide)
  injection e3 with e3 e4 e5
  subst e3
  clear e4 e5
  have hP := pequal_any (some ⟨b, o, none⟩) a2 32 cap 32 c2 (bs.take 32) rb w2 H2.out.1.row R3 (by decide) (by decide)
  rw [decide_eq_true (by have := HY.out.2.2; first | exact this | exact this.symm | exact fun e => this e.symm)] at hP
  clear R3
  obtain ⟨z0, z1, z2, z3⟩ := bx4 H2.out.1.z
  obtain ⟨x0, x1, x2, x3⟩ := bx4 H2.out.1.r
  have y0 := H2.out.1.z.f 0
  have y1 := H2.out.1.z.f 1
  have y2 := H2.out.1.z.f 2
  have y3 := H2.out.1.z.f 3
  have R4 := H2.out.1.z.set4 (.int .u64 q) (.int .i64 s) (.int .i64 l) (.int .u64 u)
  have HG : Hid _ := grown_new H2.out.1.gw (grown_set4 _ gz (.int .u64 q) (.int .i64 s) (.int .i64 l) (.int .u64 u)) H2.out.1.lz
  obtain ⟨d0, d1, d2, d3⟩ := bx4 R4
  unfold set4 at d0 d1 d2 d3
  clear R4
  go_wp2_with (go_at_call 29; refine hP.mono ?_; rintro e w3 ⟨rfl, rfl⟩)
  refine bodyPost_ret (by simp [results, Try.results13, go_sem, d0, d1, d2, d3]; try rfl) rfl ?_
  exact ⟨rfl, HG.out⟩
theorem pdecode_any (a : Option Addr) (len cap : Nat) (bs : List Int) (w : World) (R : Row w a len bs) (hnc : len ≤ cap) (hcm : cap ≤ maxLen) (hl : len ≤ 1048576) : Calls Try.prog 13 #[.slice a len cap] w fun e w' => e = .returned (.tuple #[(rde bs).1.val, .int .i64 (rde bs).2]) ∧ w.grownBy w' none := by
  unfold rde
  rw [R.len_eq]
  by_cases h : len < 32
  · rw [if_pos h]; exact pdecode_short a len cap w h
  · rw [if_neg h]
    obtain ⟨b, o, rfl, -⟩ := R.cells (by omega)
    cases hr : rrt (rrd bs)
    · rw [if_neg (by simp)]; exact pdecode_no b o len cap bs w R hnc hcm (by omega) hr
    · by_cases hq : rby (rrd bs) = bs.take 32
      · rw [if_pos ⟨rfl, hq⟩]; exact pdecode_eq b o len cap bs w R hnc hcm (by omega) hr hq
      · rw [if_neg (by simp [hq])]; exact pdecode_ne b o len cap bs w R hnc hcm (by omega) hr hq
end Go.Proofs.Ytlbilpjlfelgdaa
