/- The program's keep: is the plan right, and of this flash? A sector's first page. The program's boot: which records are right; the one that follows. Contracts of the reading functions: each returns just what the plain function of the same shape reckons, and memory stands. Contracts of the functions that make memory, and of the law that holds the examples of the page. Contracts of Fits and Store. Contracts of Set and Part, and of the document's Set. A variable of several cells. Contracts of readers. -/
import Derived.Deep.RegionHeld3
import Derived.Test.YtfhgbddeclldnaaGreatProg
import Derived.WalkLawsBesides
import Derived.Deep.QuietTactic
import Derived.BigQuiet
import Derived.WalkSpells
import Derived.Laws.AppendOwnNone
import Derived.Deep.RegionHeld
import Derived.Deep.DrawnRows
import Derived.WalkSmall
import Derived.Test.YtfhgbddeclldnaaGreatQ01
import Derived.Test.YtfhgbddeclldnaaGreatQ07
import Derived.Test.YtfhgbddeclldnaaGreatQ08
import Derived.Test.YtfhgbddeclldnaaGreatQ12
import Derived.Test.YtfhgbddeclldnaaGreatQ15
import Derived.Test.YtfhgbddeclldnaaGreatQ16
namespace Go.Proofs.YtfhgbddeclldnaaGreat
open Go.RowKit
set_option maxRecDepth 100000
set_option linter.unusedSimpArgs false
set_option linter.unusedVariables false

set_option maxRecDepth 100000 in
theorem geo_neq {s p b s' p' b' : Int} (w : World) (h1 : Pa.bnd64 s) (h2 : Pa.bnd64 p) (h3 : Pa.bnd64 b) (h4 : Pa.bnd64 s') (h5 : Pa.bnd64 p') (h6 : Pa.bnd64 b') :
    (binOp .neq 23 (.agg #[.int .i64 s, .int .i64 p, .int .i64 b]) (.agg #[.int .i64 s', .int .i64 p', .int .i64 b'])).run Tryz.prog w = .ok (.bool (!decide (s = s' ∧ p = p' ∧ b = b'))) w := by
  obtain ⟨r, k1, k2⟩ := run_equalIn_deep (P := Tryz.prog) 9990 10 23 (by kernel_rfl) w 8 8 (.agg #[.int .i64 s, .int .i64 p, .int .i64 b]) (.agg #[.int .i64 s', .int .i64 p', .int .i64 b']) _ _ (by rfl) (by rfl) (Pa.kl_geo 6 h1 h2 h3) (Pa.kl_geo 6 h4 h5 h6)
  rw [run_neq_struct, show (10000 : Nat) = 9990 + 10 from rfl, k1]
  have e : r = decide (s = s' ∧ p = p' ∧ b = b') := by
    by_cases h : s = s' ∧ p = p' ∧ b = b'
    · rw [decide_eq_true h]
      obtain ⟨rfl, rfl, rfl⟩ := h
      exact k2.2 rfl
    · rw [decide_eq_false h]
      cases r with
      | false => rfl
      | true =>
        have := k2.1 rfl
        simp at this
        exact absurd ⟨this.1, this.2.1, this.2.2⟩ h
  rw [e]
  rfl
/-- what check answers -/
def kck (m : Fm) (P : Pa.Pl) : Int := if kok m P = true then 0 else 1
theorem pk_nil (P : Pa.Pl) (w : World) : Calls Tryz.prog 39 #[.pointer none, P.val] w fun e w' => e = .returned (.int .i64 5) ∧ w.grownBy w' none := by
  obtain ⟨s, p, b, x0, x1, y0, y1, n⟩ := P
  simp only [Pa.Pl.val, Pa.Pl.cells]
  go_enter Tryz.func39, Tryz.ntmps39
  go_wp2
  go_returns
  exact ⟨rfl, World.grownBy_alloc _ _ _⟩
set_option maxHeartbeats 2000000 in
theorem pk_any {w : World} {fb bb db wb : Nat} {m : Fm} {G : Nat → Prop} {k : Nat} (h : PRep w fb bb db wb m G) (hg : m.Good k) (P : Pa.Pl) (hP : P.ok) :
    Calls Tryz.prog 39 #[.pointer (some ⟨fb, 0, none⟩), P.val] w fun e w' => e = .returned (.int .i64 (kck m P)) ∧ w.grownBy w' none := by
  have hr := fun W => Pa.pcheck_any P W hP
  have hs := hg.s
  have hp := hg.p
  have hb := hg.b
  have he := fun W => geo_neq (s := P.s) (p := P.p) (b := P.b) (s' := m.s) (p' := m.p) (b' := m.b) W hP.1 hP.2.1 hP.2.2.1 ⟨by omega, by omega⟩ ⟨by omega, by omega⟩ ⟨by omega, by omega⟩
  have hge : ∀ W, w.grownBy W none → Calls Tryz.prog 31 #[.pointer (some ⟨fb, 0, none⟩)] W fun e w' => e = .returned (.agg #[.int .i64 m.s, .int .i64 m.p, .int .i64 m.b]) ∧ W.grownBy w' none := by
    intro W hW
    obtain ⟨pw, left, aT, cT, TT, hpf, -, -⟩ := h.grown hW
    exact geometry_any fb m.s m.p m.b W (hpf.box.c 0) (hpf.box.c 1) (hpf.box.c 2)
  unfold kck kok
  unfold Pa.pchk at hr
  generalize decide (P.s = m.s ∧ P.p = m.p ∧ P.b = m.b) = d at *
  generalize Pa.rgt P = r at *
  obtain ⟨s, p, b, x0, x1, y0, y1, n⟩ := P
  generalize (m.s : Int) = ms at *
  generalize (m.p : Int) = mp at *
  generalize (m.b : Int) = mb at *
  have Y0 := Bx.new w 26 (Pa.Pl.cells ⟨s, p, b, x0, x1, y0, y1, n⟩)
  have G0 := World.grownBy_alloc w (.cells (Pa.Pl.cells ⟨s, p, b, x0, x1, y0, y1, n⟩).toArray 26) none
  have H0 : Hid _ := And.intro Y0 G0
  clear Y0 G0 h hs hp hb hP hg
  simp only [Pa.Pl.val, Pa.Pl.cells] at *
  cases r
  · rw [Bool.false_and, if_neg (by simp)]
    simp only [Bool.false_eq_true, if_false] at hr
    go_enter Tryz.func39, Tryz.ntmps39
    go_wp2_with fail
    refine (hr _).mono ?_
    rintro e w1 ⟨rfl, g1⟩
    have HG : Hid _ := grown_trans H0.out.2 g1
    clear H0 g1 hr
    go_wp2
    go_returns
    exact ⟨rfl, HG.out⟩
  · rw [Bool.true_and]
    simp only [if_true] at hr
    go_enter Tryz.func39, Tryz.ntmps39
    go_wp2_with fail
    refine (hr _).mono ?_
    rintro e w1 ⟨rfl, g1⟩
    have H1 : Hid (Bx w1 w.heap.size 26 [.int .i64 s, .int .i64 p, .int .i64 b, .int .i64 x0, .int .i64 x1, .int .i64 y0, .int .i64 y1, .int .i64 n] ∧ w.grownBy w1 none) := ⟨H0.out.1.kept g1, grown_trans H0.out.2 g1⟩
    clear H0 g1 hr
    generalize w.heap.size = g at *
    go_wp2_with fail
    refine wp_region_held_drew (S := fun w' => Bx w' g 26 [.int .i64 s, .int .i64 p, .int .i64 b, .int .i64 x0, .int .i64 x1, .int .i64 y0, .int .i64 y1, .int .i64 n] ∧ w.grownBy w' none) (by kernel_rfl) ⟨H1.out.1.kept (Pa.drewG w1), grown_trans H1.out.2 (Pa.drewG w1)⟩ (fun hH => ?_)
    clear H1
    refine wpAnyH_take (i := 0) (oi := ⟨some 12, _, _, _, _, _⟩) (v := .pointer (some ⟨g, 0, none⟩)) rfl (by kernel_rfl) (by kernel_rfl) (by kernel_rfl) (fun _ _ _ h => h) (Or.inl ⟨by rfl, fun w hSw => by go_simp⟩) hH ?_
    simp only [Act.put, List.setIfInBounds_toArray, List.set_cons_zero, List.set_cons_succ]
    refine wpAnyH_take (i := 1) (oi := ⟨some 13, _, _, _, _, _⟩) (v := .agg #[.int .i64 s, .int .i64 p, .int .i64 b]) rfl (by kernel_rfl) (by kernel_rfl) (by kernel_rfl) (fun _ _ _ h => h) (Or.inl ⟨by rfl, fun w hSw => by obtain ⟨d0, d1, d2, d3, d4, d5, d6, d7⟩ := plan8 hSw.1; go_simp⟩) hH ?_
    simp only [Act.put, List.setIfInBounds_toArray, List.set_cons_zero, List.set_cons_succ]
    refine wpAnyH_take (i := 2) (oi := ⟨some 14, _, _, _, _, _⟩) (v := .pointer (some ⟨fb, 0, none⟩)) rfl (by kernel_rfl) (by kernel_rfl) (by kernel_rfl) (fun _ _ _ h => h) (Or.inl ⟨by rfl, fun w hSw => by go_simp⟩) hH ?_
    simp only [Act.put, List.setIfInBounds_toArray, List.set_cons_zero, List.set_cons_succ]
    refine wpAnyH_ready (rs := [3]) (by kernel_rfl) (by simp) ?_
    refine AllReadyH.cons rfl (fun K hK => ?_) AllReadyH.nil
    go_simp
    go_wp2_with (go_at_call 31; refine (hge _ hH.2).mono ?_; rintro e w2 ⟨rfl, g2⟩)
    replace hH := And.intro (hH.1.kept g2) (grown_trans hH.2 g2)
    clear g2
    refine hK.out _ _ hH (fun _ => ?_)
    clear hK K
    refine wpAnyH_take (i := 4) (oi := ⟨some 16, _, _, _, _, _⟩) (v := .bool (!d)) rfl (by kernel_rfl) (by kernel_rfl) (by kernel_rfl) (fun _ _ _ h => h) (Or.inl ⟨by rfl, fun w hSw => by (go_simp; try exact he _)⟩) hH ?_
    simp only [Act.put, List.setIfInBounds_toArray, List.set_cons_zero, List.set_cons_succ]
    refine wpAnyH_take (i := 5) (oi := ⟨some 8, _, _, _, _, _⟩) (v := .bool (!d)) rfl (by kernel_rfl) (by kernel_rfl) (by kernel_rfl) (fun _ _ _ h => h) (Or.inl ⟨by rfl, fun w hSw => by go_simp⟩) hH ?_
    simp only [Act.put, List.setIfInBounds_toArray, List.set_cons_zero, List.set_cons_succ]
    refine wpAnyH_done (by kernel_rfl) ?_ _
    have HG : Hid _ := hH.2
    clear hH
    cases d
    · go_wp2
      go_returns
      exact ⟨rfl, HG.out⟩
    · go_wp2
      go_returns
      exact ⟨rfl, HG.out⟩
/-- a sector's first page -/
theorem pfirst_any (P : Pa.Pl) (i : Int) (w : World) (hi : in64 (i * P.p)) : Calls Tryz.prog 40 #[P.val, .int .i64 i] w fun e w' => e = .returned (.int .i64 (i * P.p)) ∧ w.grownBy w' none := by
  obtain ⟨s, p, b, x0, x1, y0, y1, n⟩ := P
  simp only at hi
  have hw : IntKind.i64.wrap (i * p) = i * p := by unfold in64 at hi; rw [IntKind.wrap_i64]; omega
  have Y0 := Bx.new w 26 (Pa.Pl.cells ⟨s, p, b, x0, x1, y0, y1, n⟩)
  simp only [Pa.Pl.val, Pa.Pl.cells] at *
  obtain ⟨d0, d1, d2, d3, d4, d5, d6, d7⟩ := plan8 Y0
  clear Y0
  go_enter Tryz.func40, Tryz.ntmps40
  go_wp2
  go_returns
  exact ⟨by simp [hw], World.grownBy_alloc _ _ _⟩
end Go.Proofs.YtfhgbddeclldnaaGreat

namespace Go.Proofs.YtfhgbddeclldnaaGreat
open Go.RowKit
set_option maxRecDepth 100000
set_option linter.unusedSimpArgs false
set_option linter.unusedVariables false

set_option maxHeartbeats 1000000 in
theorem pright_any (r : Rc) (w : World) : Calls Tryz.prog 77 #[r.val] w fun e w' => e = .returned (.bool (rrt r)) ∧ w.grownBy w' none := by
  obtain ⟨q, s, l, u⟩ := r
  unfold Rc.val
  by_cases h1 : q ≤ 4611686018427387904
  · by_cases h2 : s = 0
    · by_cases h3 : 1 ≤ l
      · have e : rrt ⟨q, s, l, u⟩ = decide (l ≤ 8388608) := by unfold rrt; subst h2; simp [h1, h3]
        rw [e]
        subst h2
        have d1 : decide (q ≤ 4611686018427387904) = true := decide_eq_true h1
        have d3 : decide (1 ≤ l) = true := decide_eq_true h3
        go_enter Tryz.func77, Tryz.ntmps77
        go_wp2
        go_ret
        exact ⟨rfl, World.grownBy_alloc _ _ _⟩
      · have e : rrt ⟨q, s, l, u⟩ = false := by unfold rrt; simp [h3]
        rw [e]
        subst h2
        have d1 : decide (q ≤ 4611686018427387904) = true := decide_eq_true h1
        have d3 : decide (1 ≤ l) = false := decide_eq_false h3
        go_enter Tryz.func77, Tryz.ntmps77
        go_wp2
        go_ret
        exact ⟨rfl, World.grownBy_alloc _ _ _⟩
    · by_cases h4 : s = 1
      · by_cases h3 : 1 ≤ l
        · have e : rrt ⟨q, s, l, u⟩ = decide (l ≤ 8388608) := by unfold rrt; subst h4; simp [h1, h3]
          rw [e]
          subst h4
          have d1 : decide (q ≤ 4611686018427387904) = true := decide_eq_true h1
          have d3 : decide (1 ≤ l) = true := decide_eq_true h3
          clear h2
          go_enter Tryz.func77, Tryz.ntmps77
          go_wp2
          go_ret
          exact ⟨rfl, World.grownBy_alloc _ _ _⟩
        · have e : rrt ⟨q, s, l, u⟩ = false := by unfold rrt; simp [h3]
          rw [e]
          subst h4
          have d1 : decide (q ≤ 4611686018427387904) = true := decide_eq_true h1
          have d3 : decide (1 ≤ l) = false := decide_eq_false h3
          clear h2
          go_enter Tryz.func77, Tryz.ntmps77
          go_wp2
          go_ret
          exact ⟨rfl, World.grownBy_alloc _ _ _⟩
      · have e : rrt ⟨q, s, l, u⟩ = false := by
          unfold rrt
          have : (decide (0 ≤ s) && decide (s ≤ 1)) = false := by simp; omega
          rw [Bool.and_assoc (decide (q ≤ 4611686018427387904)), this]; simp
        rw [e]
        have d1 : decide (q ≤ 4611686018427387904) = true := decide_eq_true h1
        have d2 : (s == 0) = false := by simpa using h2
        have d4 : (s == 1) = false := by simpa using h4
        go_enter Tryz.func77, Tryz.ntmps77
        go_wp2
        go_ret
        exact ⟨rfl, World.grownBy_alloc _ _ _⟩
  · have e : rrt ⟨q, s, l, u⟩ = false := by unfold rrt; simp [h1]
    rw [e]
    have d1 : decide (q ≤ 4611686018427387904) = false := decide_eq_false h1
    go_enter Tryz.func77, Tryz.ntmps77
    go_wp2
    go_ret
    exact ⟨rfl, World.grownBy_alloc _ _ _⟩
theorem rnx_eq (r : Rc) (slot n sum : Int) : rnx r slot n sum = if rrt ⟨r.q, slot, n, sum⟩ = false then (rc0, 1) else if r.q = 4611686018427387904 then (rc0, 2) else (⟨r.q + 1, slot, n, sum⟩, 0) := by
  obtain ⟨q, s, l, u⟩ := r
  unfold rnx rrt
  simp only
  by_cases c1 : 4611686018427387904 < q
  · have : ¬ q ≤ 4611686018427387904 := by omega
    simp [c1, this]
  · have h2 : q ≤ 4611686018427387904 := by omega
    simp [c1, h2]
end Go.Proofs.YtfhgbddeclldnaaGreat

namespace Go.Proofs.YtfhgbddeclldnaaGreat.Fi
open Go.RowKit
set_option maxRecDepth 100000
set_option linter.unusedSimpArgs false
set_option linter.unusedVariables false

theorem largest_any (n : Int) (w : World) : Calls Tryz.prog 104 #[.int .i64 n] w fun e w' => e = .returned (.int .u64 (lg n)) ∧ w = w' := by
  by_cases h1 : n = 1
  · subst h1
    go_enter Tryz.func104, Tryz.ntmps104
    go_wp2
    go_ret
    exact ⟨rfl, rfl⟩
  by_cases h2 : n = 2
  · subst h2
    go_enter Tryz.func104, Tryz.ntmps104
    go_wp2
    go_ret
    exact ⟨rfl, rfl⟩
  by_cases h4 : n = 4
  · subst h4
    go_enter Tryz.func104, Tryz.ntmps104
    go_wp2
    go_ret
    exact ⟨rfl, rfl⟩
  by_cases h8 : n = 8
  · subst h8
    go_enter Tryz.func104, Tryz.ntmps104
    go_wp2
    go_ret
    exact ⟨rfl, rfl⟩
  have g1 : (n == 1) = false := by simpa using h1
  have g2 : (n == 2) = false := by simpa using h2
  have g4 : (n == 4) = false := by simpa using h4
  have g8 : (n == 8) = false := by simpa using h8
  go_enter Tryz.func104, Tryz.ntmps104
  go_wp2
  go_ret
  exact ⟨by simp [lg, h1, h2, h4, h8], rfl⟩

theorem holds_any (a : Option Addr) (len cap : Nat) (at_ n : Int) (w : World) (hl : len ≤ maxLen) (hn : 0 ≤ n) (hn' : n ≤ 9223372036854775807) (ha : at_ ≤ 9223372036854775807) : Calls Tryz.prog 106 #[.slice a len cap, .int .i64 at_, .int .i64 n] w fun e w' => e = .returned (.bool (inB len at_ n)) ∧ w = w' := by
  unfold maxLen at hl
  by_cases h1 : 0 ≤ at_
  · go_enter Tryz.func106, Tryz.ntmps106
    go_wp2
    go_ret
    refine ⟨?_, rfl⟩
    have : decide (n ≤ ↑len - at_) = inB len at_ n := by
      rw [Bool.eq_iff_iff]; simp [inB]; omega
    rw [this]; rfl
  · have hd : decide (0 ≤ at_) = false := by simpa using h1
    go_enter Tryz.func106, Tryz.ntmps106
    go_wp2
    go_ret
    exact ⟨by simp [inB, hd], rfl⟩

set_option maxHeartbeats 400000 in
theorem get_in (b off len cap : Nat) (bs : List Int) (k n : Nat) (w : World) (hl : len ≤ maxLen) (hlen : bs.length = len) (hb : Byt bs) (hW : isW n = true) (hin : k + n ≤ len)
    (hc : ∀ i, i < len → w.cell? ⟨b, off + i, none⟩ = some (.int .u8 (bs.getD i 0))) :
    Calls Tryz.prog 101 #[.slice (some ⟨b, off, none⟩) len cap, .int .i64 k, .int .i64 n] w fun e w' => e = .returned (.tuple #[.int .u64 (le ((bs.drop k).take n)), .int .i64 0]) ∧ w = w' := by
  have hH := holds_any (some ⟨b, off, none⟩) len cap k n w hl (by omega) (by unfold maxLen at hl; omega) (by unfold maxLen at hl; omega)
  unfold maxLen at hl
  have hz := lg_ne hW
  have hi : inB len k n = true := by simp [inB]; omega
  have n8 : n ≤ 8 := by have := isW_pos hW; omega
  go_enter Tryz.func101, Tryz.ntmps101
  go_wp2_with (first | (go_at_call 104; refine (largest_any _ _).mono ?_; rintro e w' ⟨rfl, rfl⟩) | (go_at_call 106; refine hH.mono ?_; rintro e w' ⟨rfl, rfl⟩))
  go_loop [8, 9, 19] (fun v _ i => ∃ j : Nat, j ≤ n ∧ i = .int .i64 j ∧ v = .int .u64 (le ((bs.drop k).take j))) (fun _ _ i => n - (intOf i).toNat)
  case atStart => exact ⟨0, Nat.zero_le _, rfl, by simp [le]⟩
  case round =>
    obtain ⟨j, hj, rfl, rfl⟩ := hrel
    by_cases hlt : j < n
    · have hcell := hc (k + j) (by omega)
      have hr := hb.getD (k + j)
      go_wp2
      go_round
      case rel => exact ⟨j + 1, by omega, by go_num, by rw [le_step hb k j (by omega) (by omega)]⟩
      case measure => simp [intOf]; omega
    · go_wp2
      go_ret2
      have : j = n := by omega
      subst this
      exact ⟨rfl, rfl⟩

/-- Get, of whatever comes in -/
theorem get_any (a : Option Addr) (len cap : Nat) (bs : List Int) (at_ n : Int) (w : World) (R : Row w a len bs) (h1 : at_ ≤ 9223372036854775807) (h2 : n ≤ 9223372036854775807) :
    Calls Tryz.prog 101 #[.slice a len cap, .int .i64 at_, .int .i64 n] w fun e w' => e = .returned (.tuple #[.int .u64 (getV bs at_ n), .int .i64 (getE len at_ n)]) ∧ w = w' := by
  by_cases hW : isW n = true
  · have hn := isW_pos hW
    by_cases hi : inB len at_ n = true
    · have hi' := hi
      simp only [inB, decide_eq_true_eq] at hi'
      obtain ⟨k, rfl⟩ := Int.eq_ofNat_of_zero_le hi'.1
      obtain ⟨m, rfl⟩ := Int.eq_ofNat_of_zero_le hi'.2.1
      obtain ⟨b, off, rfl, hc⟩ := R.cells (by omega)
      have := get_in b off len cap bs k m w R.le R.len_eq R.byt hW (by omega) hc
      rw [getV_in hW (by rw [R.len_eq]; omega), getE_in hW (by omega)]
      exact this
    · have hi' : inB len at_ n = false := by simpa using hi
      have hz := lg_ne hW
      have hH := holds_any a len cap at_ n w R.le (by omega) (by omega) h1
      rw [getV_out (by rw [R.len_eq]; exact hi'), getE_out hW hi']
      go_enter Tryz.func101, Tryz.ntmps101
      go_wp2_with (first | (go_at_call 104; refine (largest_any _ _).mono ?_; rintro e w' ⟨rfl, rfl⟩) | (go_at_call 106; refine hH.mono ?_; rintro e w' ⟨rfl, rfl⟩))
      go_ret2
      exact ⟨rfl, rfl⟩
  · have hW' : isW n = false := by simpa using hW
    have hz : lg n = 0 := lg_eq hW'
    rw [getV_no hW', getE_no hW']
    go_enter Tryz.func101, Tryz.ntmps101
    go_wp2_with (first | (go_at_call 104; refine (largest_any _ _).mono ?_; rintro e w' ⟨rfl, rfl⟩))
    go_ret2
    exact ⟨rfl, rfl⟩

end Go.Proofs.YtfhgbddeclldnaaGreat.Fi

namespace Go.Proofs.YtfhgbddeclldnaaGreat.Fi
open Go.RowKit
set_option maxRecDepth 100000
set_option linter.unusedSimpArgs false
set_option linter.unusedVariables false

def ckE (n width : Int) : Int := if isW width then (if lg width < n then 9 else 0) else 1

theorem check_any (n width : Int) (w : World) : Calls Tryz.prog 93 #[.int .u64 n, .int .i64 width] w fun e w' => e = .returned (.int .i64 (ckE n width)) ∧ w = w' := by
  by_cases hW : isW width = true
  · have hz := lg_ne hW
    by_cases hn : lg width < n
    · go_enter Tryz.func93, Tryz.ntmps93
      go_wp2_with (first | (go_at_call 104; refine (largest_any _ _).mono ?_; rintro e w' ⟨rfl, rfl⟩))
      go_ret
      exact ⟨by simp [ckE, hW, hn], rfl⟩
    · go_enter Tryz.func93, Tryz.ntmps93
      go_wp2_with (first | (go_at_call 104; refine (largest_any _ _).mono ?_; rintro e w' ⟨rfl, rfl⟩))
      go_ret
      exact ⟨by simp [ckE, hW, hn], rfl⟩
  · have hW' : isW width = false := by simpa using hW
    have hz : lg width = 0 := lg_eq hW'
    go_enter Tryz.func93, Tryz.ntmps93
    go_wp2_with (first | (go_at_call 104; refine (largest_any _ _).mono ?_; rintro e w' ⟨rfl, rfl⟩))
    go_ret
    exact ⟨by simp [ckE, hW'], rfl⟩

set_option maxHeartbeats 400000 in
theorem lay_any (g o len cap : Nat) (n : Int) (cur : List Value) (w : World) (hB : Blk w g cur) (hl : len ≤ 8) (hf : o + len ≤ cur.length) :
    Calls Tryz.prog 94 #[.slice (some ⟨g, o, none⟩) len cap, .int .u64 n] w fun e w' => e = .returned (.tuple #[]) ∧ Blk w' g (splice cur o (bv (sto n len))) ∧ w.grownBy w' (some g) ∧ w'.heap.size = w.heap.size := by
  go_enter Tryz.func94, Tryz.ntmps94
  go_wp2
  go_loopw [7] (fun i wr => ∃ j : Nat, j ≤ len ∧ i = .int .i64 j ∧ Blk wr g (splice cur o (bv (sto n j))) ∧ w.grownBy wr (some g) ∧ wr.heap.size = w.heap.size) (fun i _ => len - (intOf i).toNat)
  case atStart => exact ⟨0, Nat.zero_le _, rfl, by simpa [sto, bv, splice_nil] using hB, World.grownBy.refl _ _, rfl⟩
  case round =>
    obtain ⟨j, hj, rfl, hb, hg, hs⟩ := hrel
    by_cases hlt : j < len
    · obtain ⟨c, hc⟩ : ∃ c, wr.cell? ⟨g, o + j, none⟩ = some c := by
        have hL : o + j < (splice cur o (bv (sto n j))).length := by
          rw [length_splice _ _ _ (by rw [bv_length, sto_length]; omega)]; omega
        exact ⟨_, by rw [hb.cell, List.getElem?_eq_getElem hL]⟩
      have hz := hb.frozen (o + j)
      go_wp2
      go_roundw
      case rel =>
        refine ⟨j + 1, by omega, by go_num, ?_, grown_trans hg (grown_set _ _ _ _), by rw [size_set]; exact hs⟩
        have h1 := hb.set (o + j) (.int .u8 (n / 2 ^ (8 * j) % 256))
        have e : o + j = o + (bv (sto n j)).length := by rw [bv_length, sto_length]
        rw [sto_snoc, bv_append, ← pow8]
        rw [e] at h1
        rw [splice_set _ _ _ _ (by rw [← e]; omega), ← e] at h1
        exact h1
      case measure => simp [intOf]; omega
    · have : j = len := by omega
      subst this
      go_wp2
      go_end0
      exact ⟨rfl, hb, hg, hs⟩

theorem lay_none (a : Option Addr) (cap : Nat) (n : Int) (w : World) :
    Calls Tryz.prog 94 #[.slice a 0 cap, .int .u64 n] w fun e w' => e = .returned (.tuple #[]) ∧ w = w' := by
  go_enter Tryz.func94, Tryz.ntmps94
  go_wp2
  go_loop [7] (fun i => i = .int .i64 0) (fun _ => 0)
  case atStart => rfl
  case round =>
    subst hrel
    go_wp2
    go_end0
    exact ⟨rfl, rfl⟩

theorem Tryz.size5 : (Tryz.prog.info? 5).map (·.size) = some 1 := by kernel_rfl

/-- a copy in memory of its own -/
theorem fresh_any (a : Option Addr) (len cap : Nat) (bs : List Int) (w : World) (R : Row w a len bs) (hl : len ≤ 281474976710656) :
    Calls Tryz.prog 95 #[.slice a len cap] w fun e w' => e = .returned (.slice (some ⟨w.heap.size, 0, none⟩) len len) ∧ Blk w' w.heap.size (bv bs) ∧ w.grownBy w' none ∧ w'.heap.size = w.heap.size + 1 := by
  obtain ⟨i5, hi, hz0, hz1, hz2⟩ := info_parts Tryz.info5
  go_enter Tryz.func95, Tryz.ntmps95
  go_wp2_with (first | (at_make; refine wpList_make8 _ rfl _ _ 36 rfl i5 Tryz.underlying36 hi hz0 hz1 hz2 _ _ _ _ len rfl rfl rfl rfl hl ?_; intro w1 hb1 hg1 hs1) | ((with_reducible refine copy_here ?_); (refine wpList_copy8 rfl _ _ 36 36 rfl Tryz.underlying36 Tryz.size5 _ _ _ _ _ _ rfl rfl w.heap.size 0 _ hb1 (bv bs) (by rw [bv_length, R.len_eq]; exact (Nat.min_self _).symm) (fun h0 => ⟨rfl, (R.grown hg1).src h0⟩) (by rw [bv_length, R.len_eq, List.length_replicate]; omega) (bv_one _) ?_; intro w2 hb2 hg2 hs2)))
  go_ret
  rw [splice_all _ _ (by simp [bv_length, R.len_eq])] at hb2
  exact ⟨rfl, hb2, grown_new hg1 hg2 (Nat.le_refl _), by omega⟩

theorem ckE_ok {n width : Int} (h : ckE n width = 0) : isW width = true ∧ n ≤ lg width := by
  unfold ckE at h
  split at h
  · split at h
    · simp at h
    · exact ⟨by assumption, by omega⟩
  · simp at h

end Go.Proofs.YtfhgbddeclldnaaGreat.Fi

namespace Go.Proofs.YtfhgbddeclldnaaGreat.Fi
open Go.RowKit
set_option maxRecDepth 100000
set_option linter.unusedSimpArgs false
set_option linter.unusedVariables false

def fits (n : Int) (m : Nat) : Bool := n / 256 ^ m == 0

theorem fits_lg {n : Int} {m : Nat} (hW : isW m = true) (h0 : 0 ≤ n) : fits n m = !decide (lg m < n) := by
  have hm := isW_pos hW
  unfold fits
  rw [Bool.eq_iff_iff]
  obtain rfl | rfl | rfl | rfl : m = 1 ∨ m = 2 ∨ m = 4 ∨ m = 8 := by omega
  · have e : lg ((1 : Nat) : Int) = 255 := by decide
    rw [e]; simp; omega
  · have e : lg ((2 : Nat) : Int) = 65535 := by decide
    rw [e]; simp; omega
  · have e : lg ((4 : Nat) : Int) = 4294967295 := by decide
    rw [e]; simp; omega
  · have e : lg ((8 : Nat) : Int) = 18446744073709551615 := by decide
    rw [e]; simp; omega

theorem ckE_fits {n : Int} {m : Nat} (hW : isW m = true) (h0 : 0 ≤ n) : ckE n m = if fits n m then 0 else 9 := by
  rw [fits_lg hW h0]
  by_cases h : lg m < n <;> simp [ckE, hW, h]

end Go.Proofs.YtfhgbddeclldnaaGreat.Fi

namespace Go.Proofs.YtfhgbddeclldnaaGreat.Fi
open Go.RowKit
set_option maxRecDepth 100000
set_option linter.unusedSimpArgs false
set_option linter.unusedVariables false

theorem _root_.Go.Proofs.YtfhgbddeclldnaaGreat.Row.cut {w : World} {a : Option Addr} {len : Nat} {bs : List Int} (R : Row w a len bs) (k m : Nat) (h : k + m ≤ len) : Row w (a.map (·.add k)) m ((bs.drop k).take m) := by
  have hl := R.len_eq
  refine ⟨by simp; omega, by have := R.le; omega, (R.byt.drop k).take m, fun h0 => ?_⟩
  obtain ⟨b, off, rfl, hc⟩ := R.cells (by omega)
  have hadd : (⟨b, off, none⟩ : Addr).add k = ⟨b, off + k, none⟩ := by unfold Addr.add; split <;> simp_all
  refine ⟨b, off + k, by simp [hadd], fun i hi => ?_⟩
  rw [Nat.add_assoc, hc (k + i) (by omega), getD_take _ _ _ hi, List.getD_eq_getElem?_getD, List.getD_eq_getElem?_getD, List.getElem?_drop]
theorem _root_.Go.Proofs.YtfhgbddeclldnaaGreat.Row.zero {w : World} (a : Option Addr) (bs : List Int) (k m : Nat) (h : m = 0) : Row w a m ((bs.drop k).take m) := by
  subst h
  exact ⟨by simp, Nat.zero_le _, fun n hn => by simp at hn, fun h => absurd h (by omega)⟩

set_option maxHeartbeats 400000 in
theorem part_ok (a : Option Addr) (len cap : Nat) (bs : List Int) (k m : Nat) (w : World) (R : Row w a len bs) (hc : len ≤ cap) (hl : len ≤ 140737488355328) (hin : k + m ≤ len) :
    Calls Tryz.prog 107 #[.slice a len cap, .int .i64 k, .int .i64 m] w fun e w' => e = .returned (.tuple #[.slice (some ⟨w.heap.size, 0, none⟩) m m, .int .i64 0]) ∧ Blk w' w.heap.size (bv ((bs.drop k).take m)) ∧ w.grownBy w' none ∧ w'.heap.size = w.heap.size + 1 := by
  have hH := holds_any a len cap k m w R.le (by omega) (by omega) (by omega)
  have hi : inB len k m = true := by simp [inB]; omega
  go_enter Tryz.func107, Tryz.ntmps107
  go_wp2_with (first | (go_at_call 106; refine hH.mono ?_; rintro e w' ⟨rfl, rfl⟩))
  · refine (fresh_any _ m _ _ w (Row.zero a bs k m (by omega)) (by omega)).mono ?_
    rintro e w1 ⟨rfl, hb1, hg1, hs1⟩
    go_wp2
    go_ret2
    exact ⟨rfl, hb1, hg1, hs1⟩
  · refine (fresh_any _ m _ _ w (R.cut k m hin) (by omega)).mono ?_
    rintro e w1 ⟨rfl, hb1, hg1, hs1⟩
    go_wp2
    go_ret2
    exact ⟨rfl, hb1, hg1, hs1⟩

theorem part_no (a : Option Addr) (len cap : Nat) (k m : Int) (w : World) (hl : len ≤ maxLen) (h1 : k ≤ 9223372036854775807) (h2 : m ≤ 9223372036854775807) (hin : inB len k m = false) :
    Calls Tryz.prog 107 #[.slice a len cap, .int .i64 k, .int .i64 m] w fun e w' => e = .returned (.tuple #[.slice none 0 0, .int .i64 9]) ∧ w = w' := by
  by_cases hm : m < 0
  · go_enter Tryz.func107, Tryz.ntmps107
    go_wp2
    go_ret2
    exact ⟨rfl, rfl⟩
  · have hH := holds_any a len cap k m w hl (by omega) h2 h1
    have hd : decide (m < 0) = false := by simpa using hm
    go_enter Tryz.func107, Tryz.ntmps107
    go_wp2_with (first | (go_at_call 106; refine hH.mono ?_; rintro e w' ⟨rfl, rfl⟩))
    go_ret2
    exact ⟨rfl, rfl⟩

theorem bv_splice (bs : List Int) (k : Nat) (xs : List Int) : bv (splice bs k xs) = splice (bv bs) k (bv xs) := by
  simp [bv, splice, List.map_take, List.map_drop]

theorem _root_.Go.Proofs.YtfhgbddeclldnaaGreat.Row.none_of {w : World} (a : Option Addr) {len : Nat} {bs : List Int} (h : len = 0) (hb : bs.length = len) : Row w a len bs := by
  subst h
  obtain rfl : bs = [] := List.eq_nil_of_length_eq_zero hb
  exact ⟨rfl, Nat.zero_le _, fun n hn => by simp at hn, fun h => absurd h (by omega)⟩
theorem map_add (b off k : Nat) : (some ⟨b, off, none⟩ : Option Addr).map (·.add k) = some ⟨b, off + k, none⟩ := by
  have hadd : (⟨b, off, none⟩ : Addr).add k = ⟨b, off + k, none⟩ := by unfold Addr.add; split <;> simp_all
  simp [hadd]

end Go.Proofs.YtfhgbddeclldnaaGreat.Fi

namespace Go.Proofs.YtfhgbddeclldnaaGreat.Fi
open Go.RowKit
set_option maxRecDepth 100000
set_option linter.unusedSimpArgs false
set_option linter.unusedVariables false

/-- block p is a row of these cells, of this type, which may be written -/
def SBlk (w : World) (p : Nat) (cs : List Value) (t : TypeId) : Prop := w.heap[p]? = some (.cells cs.toArray t (0, 0))
theorem SBlk.lt {w : World} {p : Nat} {cs : List Value} {t : TypeId} (h : SBlk w p cs t) : p < w.heap.size := (Array.getElem?_eq_some_iff.1 h).1
theorem SBlk.cell {w : World} {p : Nat} {cs : List Value} {t : TypeId} (h : SBlk w p cs t) (i : Nat) : w.cell? ⟨p, i, none⟩ = cs[i]? := by
  unfold SBlk at h; simp [World.cell?, h]
theorem SBlk.c0 {w : World} {p : Nat} {a : Value} {l : List Value} {t : TypeId} (h : SBlk w p (a :: l) t) : w.cell? ⟨p, 0, none⟩ = some a := h.cell 0
theorem SBlk.c1 {w : World} {p : Nat} {a b : Value} {l : List Value} {t : TypeId} (h : SBlk w p (a :: b :: l) t) : w.cell? ⟨p, 1, none⟩ = some b := h.cell 1
theorem SBlk.c2 {w : World} {p : Nat} {a b c : Value} {l : List Value} {t : TypeId} (h : SBlk w p (a :: b :: c :: l) t) : w.cell? ⟨p, 2, none⟩ = some c := h.cell 2
theorem SBlk.frozen {w : World} {p : Nat} {cs : List Value} {t : TypeId} (h : SBlk w p cs t) (i : Nat) : w.frozen? ⟨p, i, none⟩ = false := by
  unfold SBlk at h; simp [World.frozen?, h]
theorem SBlk.set {w : World} {p : Nat} {cs : List Value} {t : TypeId} (h : SBlk w p cs t) (i : Nat) (v : Value) : SBlk (w.setCell ⟨p, i, none⟩ v) p (cs.set i v) t := by
  unfold SBlk at h ⊢
  rw [setCell_eq_setRow w p i _ _ _ v h, setRow_heap w p _ _ _ _ h]
  simp
theorem SBlk.grown {w w' : World} {p : Nat} {cs : List Value} {t : TypeId} {row : Option Nat} (h : SBlk w p cs t) (hg : w.grownBy w' row) (hr : some p ≠ row) : SBlk w' p cs t := by
  unfold SBlk; rw [hg.block p h.lt hr]; exact h
theorem SBlk.below {w w' : World} {p B : Nat} {cs : List Value} {t : TypeId} (h : SBlk w p cs t) (hb : Below B w w') (hr : p < B) : SBlk w' p cs t := by
  unfold SBlk; rw [hb.block p hr]; exact h
theorem alloc_sblk (w : World) (cs : List Value) (t : TypeId) : SBlk (w.alloc (.cells cs.toArray t)) w.heap.size cs t := heap_alloc_new _ _
theorem grown_drew (w : World) (row : Option Nat) : w.grownBy w.drew row := ⟨rfl, rfl, rfl, Nat.le_refl _, fun _ _ _ => rfl⟩
theorem grown_some {a b : World} (h : a.grownBy b none) (row : Option Nat) : a.grownBy b row := ⟨h.os, h.tape, h.output, h.size, fun k hk _ => h.block k hk (by simp)⟩

end Go.Proofs.YtfhgbddeclldnaaGreat.Fi

namespace Go.Proofs.YtfhgbddeclldnaaGreat.Fi
open Go.RowKit
set_option maxRecDepth 100000
set_option linter.unusedSimpArgs false
set_option linter.unusedVariables false
attribute [local go_sem ↓] Go.wp_at_zero Go.wp_at_succ

/-- a reader at p over the row g: its bytes, its place, its error -/
structure RInv (w : World) (p g : Nat) (bs : List Int) (at_ : Nat) (e : Int) : Prop where
  blk : SBlk w p [.slice (some ⟨g, 0, none⟩) bs.length bs.length, .int .i64 at_, .int .i64 e] 151
  row : Blk w g (bv bs)
  byt : Byt bs
  len : bs.length ≤ 2000000
  at_le : at_ ≤ bs.length
  ne : g ≠ p

theorem RInv.Row {w : World} {p g : Nat} {bs : List Int} {at_ : Nat} {e : Int} (h : RInv w p g bs at_ e) : Row w (some ⟨g, 0, none⟩) bs.length bs := h.row.row h.byt (by have := h.len; unfold maxLen; omega)
theorem RInv.grown {w w' : World} {p g : Nat} {bs : List Int} {at_ : Nat} {e : Int} {row : Option Nat} (h : RInv w p g bs at_ e) (hg : w.grownBy w' row) (h1 : some p ≠ row) (h2 : some g ≠ row) : RInv w' p g bs at_ e :=
  ⟨h.blk.grown hg h1, h.row.grown hg h2, h.byt, h.len, h.at_le, h.ne⟩
theorem RInv.setE {w : World} {p g : Nat} {bs : List Int} {at_ : Nat} {e : Int} (h : RInv w p g bs at_ e) (e' : Int) : RInv (w.setCell ⟨p, 2, none⟩ (.int .i64 e')) p g bs at_ e' :=
  ⟨h.blk.set 2 (.int .i64 e'), h.row.grown (grown_set w p 2 _) (by have := h.ne; simp [this]), h.byt, h.len, h.at_le, h.ne⟩
theorem RInv.setAt {w : World} {p g : Nat} {bs : List Int} {at_ : Nat} {e : Int} (h : RInv w p g bs at_ e) (k : Nat) (hk : k ≤ bs.length) : RInv (w.setCell ⟨p, 1, none⟩ (.int .i64 k)) p g bs k e :=
  ⟨h.blk.set 1 (.int .i64 k), h.row.grown (grown_set w p 1 _) (by have := h.ne; simp [this]), h.byt, h.len, hk, h.ne⟩
theorem RInv.drew {w : World} {p g : Nat} {bs : List Int} {at_ : Nat} {e : Int} (h : RInv w p g bs at_ e) : RInv w.drew p g bs at_ e := ⟨h.blk, h.row, h.byt, h.len, h.at_le, h.ne⟩

theorem rstop_any (p : Nat) (x y : Value) (e : Int) (w : World) (hB : SBlk w p [x, y, .int .i64 e] 151) :
    Calls Tryz.prog 100 #[.pointer (some ⟨p, 0, none⟩)] w fun r w' => r = .returned (.bool (e != 0)) ∧ w = w' := by
  have c2 := hB.c2
  go_enter Tryz.func100, Tryz.ntmps100
  go_wp2
  go_ret
  exact ⟨rfl, rfl⟩

def inR (x : Int) : Int := if x = 9 then 6 else x
theorem inr_any (x : Int) (w : World) : Calls Tryz.prog 102 #[.int .i64 x] w fun r w' => r = .returned (.int .i64 (inR x)) ∧ w = w' := by
  by_cases h : x = 9
  · subst h
    go_enter Tryz.func102, Tryz.ntmps102
    go_wp2
    go_ret
    exact ⟨rfl, rfl⟩
  · have hb : (x == 9) = false := by simpa using h
    go_enter Tryz.func102, Tryz.ntmps102
    go_wp2
    go_ret
    exact ⟨by simp [inR, h], rfl⟩

/-- a reader that stands still answers 0 -/
theorem rnum_stop (p : Nat) (x y : Value) (e n : Int) (w : World) (hB : SBlk w p [x, y, .int .i64 e] 151) (he : (e != 0) = true) :
    Calls Tryz.prog 89 #[.pointer (some ⟨p, 0, none⟩), .int .i64 n] w fun r w' => r = .returned (.int .u64 0) ∧ w = w' := by
  go_enter Tryz.func89, Tryz.ntmps89
  go_wp2_with (go_at_call 100; refine (rstop_any p x y e w hB).mono ?_; rintro e w' ⟨rfl, rfl⟩)
  go_ret
  exact ⟨rfl, rfl⟩

theorem cast_add (a b : Nat) : ((a + b : Nat) : Int) = (a : Int) + b := by omega
theorem RInv.setAt' {w : World} {p g : Nat} {bs : List Int} {at_ : Nat} {e : Int} (h : RInv w p g bs at_ e) (m : Nat) (hk : at_ + m ≤ bs.length) : RInv (w.setCell ⟨p, 1, none⟩ (.int .i64 ((at_ : Int) + m))) p g bs (at_ + m) e := by
  rw [← cast_add]; exact h.setAt _ hk
theorem grown_set_drew (w : World) (g i : Nat) (v : Value) : w.grownBy (w.setCell ⟨g, i, none⟩ v).drew (some g) := grown_trans (grown_set w g i v) (grown_drew _ _)

set_option maxHeartbeats 800000 in
theorem rnum_ok (p g : Nat) (bs : List Int) (at_ m : Nat) (w : World) (hI : RInv w p g bs at_ 0) (hW : isW m = true) (hin : at_ + m ≤ bs.length) :
    Calls Tryz.prog 89 #[.pointer (some ⟨p, 0, none⟩), .int .i64 m] w fun r w' => r = .returned (.int .u64 (le ((bs.drop at_).take m))) ∧ RInv w' p g bs (at_ + m) 0 ∧ w.grownBy w' (some p) := by
  have hlen := hI.len
  have hB := hI.blk
  have c0 := hB.c0
  have c1 := hB.c1
  have f1 := hB.frozen 1
  have hm := isW_pos hW
  have hG := get_any (some ⟨g, 0, none⟩) bs.length bs.length bs at_ m w.drew hI.drew.Row (by omega) (by omega)
  rw [getV_in hW hin, getE_in hW hin] at hG
  generalize le ((bs.drop at_).take m) = V at *
  go_enter Tryz.func89, Tryz.ntmps89
  go_wp2_with (go_at_call 100; refine (rstop_any p _ _ 0 w hB).mono ?_; rintro e w' ⟨rfl, rfl⟩)
  go_region_held (fun w' => w'.cell? ⟨p, 0, none⟩ = some (.slice (some ⟨g, 0, none⟩) bs.length bs.length) ∧ w'.cell? ⟨p, 1, none⟩ = some (.int .i64 at_)) (go_keep) (first | (go_at_call 101; refine hG.mono ?_; rintro e w' ⟨rfl, rfl⟩))
  go_wp2_with fail
  go_ret
  exact ⟨rfl, (hI.setAt' m hin).drew, grown_set_drew _ _ _ _⟩

set_option maxHeartbeats 800000 in
theorem rnum_bad (p g : Nat) (bs : List Int) (at_ : Nat) (n : Int) (w : World) (hI : RInv w p g bs at_ 0) (hn : n ≤ 9223372036854775807) (E : Int) (hE : getE bs.length at_ n = E) (hE0 : (E != 0) = true) :
    Calls Tryz.prog 89 #[.pointer (some ⟨p, 0, none⟩), .int .i64 n] w fun r w' => r = .returned (.int .u64 0) ∧ RInv w' p g bs at_ (inR E) ∧ w.grownBy w' (some p) := by
  have hlen := hI.len
  have hat := hI.at_le
  have hB := hI.blk
  have c0 := hB.c0
  have c1 := hB.c1
  have c2 := hB.c2
  have f2 := hB.frozen 2
  have hG := get_any (some ⟨g, 0, none⟩) bs.length bs.length bs at_ n w.drew hI.drew.Row (by omega) hn
  rw [hE] at hG
  clear hE
  go_enter Tryz.func89, Tryz.ntmps89
  go_wp2_with (go_at_call 100; refine (rstop_any p _ _ 0 w hB).mono ?_; rintro e w' ⟨rfl, rfl⟩)
  go_region_held (fun w' => w'.cell? ⟨p, 0, none⟩ = some (.slice (some ⟨g, 0, none⟩) bs.length bs.length) ∧ w'.cell? ⟨p, 1, none⟩ = some (.int .i64 at_)) (go_keep) (first | (go_at_call 101; refine hG.mono ?_; rintro e w' ⟨rfl, rfl⟩))
  go_wp2_with (go_at_call 102; refine (inr_any _ _).mono ?_; rintro e w' ⟨rfl, rfl⟩)
  go_ret
  exact ⟨rfl, (hI.setE (inR E)).drew, grown_set_drew _ _ _ _⟩

/-- bytes that a call told: nothing, or a row of their own -/
def Res (w w' : World) (v : Value) (t : List Int) : Prop := (v = .slice none 0 0 ∧ t = []) ∨ ∃ g, v = .slice (some ⟨g, 0, none⟩) t.length t.length ∧ Blk w' g (bv t) ∧ w.heap.size ≤ g

set_option maxHeartbeats 800000 in
theorem take_ok (p g : Nat) (bs : List Int) (at_ h m : Nat) (w : World) (hI : RInv w p g bs at_ 0) (hin : at_ + h + m ≤ bs.length) :
    Calls Tryz.prog 103 #[.pointer (some ⟨p, 0, none⟩), .int .i64 h, .int .i64 m] w fun r w' => ∃ v, r = .returned v ∧ Res w w' v ((bs.drop (at_ + h)).take m) ∧ RInv w' p g bs (at_ + (h + m)) 0 ∧ w.grownBy w' (some p) := by
  have hlen := hI.len
  have hB := hI.blk
  have c0 := hB.c0
  have c1 := hB.c1
  have f1 := hB.frozen 1
  have hP := part_ok (some ⟨g, 0, none⟩) bs.length bs.length bs (at_ + h) m w.drew hI.drew.Row (Nat.le_refl _) (by omega) hin
  rw [cast_add] at hP
  have hwr : IntKind.i64.wrap ((at_ : Int) + h) = (at_ : Int) + h := by rw [IntKind.wrap_i64]; omega
  have hml : ((bs.drop (at_ + h)).take m).length = m := by simp; omega
  go_enter Tryz.func103, Tryz.ntmps103
  go_wp2
  go_region_held (fun w' => w'.cell? ⟨p, 0, none⟩ = some (.slice (some ⟨g, 0, none⟩) bs.length bs.length) ∧ w'.cell? ⟨p, 1, none⟩ = some (.int .i64 at_)) (first | go_keep | exact ⟨by assumption, by assumption⟩) (first | (go_at_call 107; refine hP.mono ?_; rintro e w1 ⟨rfl, hb1, hg1, hs1⟩; have hI1 := hI.drew.grown hg1 (by simp) (by simp); have d0 := hI1.blk.c0; have d1 := hI1.blk.c1; have e1 := hI1.blk.frozen 1; clear hs1))
  go_wp2_with fail
  go_ret
  have hg1 : w.drew.grownBy w1 none := by assumption
  have hb1 : Blk w1 w.drew.heap.size (bv ((bs.drop (at_ + h)).take m)) := by assumption
  have hI1 := hI.drew.grown hg1 (by simp) (by simp)
  have hI2 := hI1.setAt' (h + m) (by omega)
  rw [cast_add] at hI2
  have hpn : ¬ w.heap.size = p := by have := hB.lt; omega
  refine ⟨_, rfl, Or.inr ⟨w.heap.size, by rw [hml]; rfl, hb1.grown (grown_set w1 p 1 _) (by simpa using hpn), Nat.le_refl _⟩, hI2, grown_trans (grown_trans (grown_drew w _) (grown_some hg1 _)) (grown_set w1 p 1 _)⟩

set_option maxHeartbeats 800000 in
theorem take_bad (p g : Nat) (bs : List Int) (at_ h : Nat) (m : Nat) (w : World) (hI : RInv w p g bs at_ 0) (hh : h ≤ 2) (hm : m ≤ 9223372036854775807) (hin : ¬ at_ + h + m ≤ bs.length) :
    Calls Tryz.prog 103 #[.pointer (some ⟨p, 0, none⟩), .int .i64 h, .int .i64 m] w fun r w' => r = .returned (.slice none 0 0) ∧ RInv w' p g bs at_ 6 ∧ w.grownBy w' (some p) := by
  have hlen := hI.len
  have hat := hI.at_le
  have hB := hI.blk
  have c0 := hB.c0
  have c1 := hB.c1
  have c2 := hB.c2
  have f2 := hB.frozen 2
  have hP := part_no (some ⟨g, 0, none⟩) bs.length bs.length ((at_ : Int) + h) m w.drew hI.drew.Row.le (by omega) (by omega) (by simp [inB]; omega)
  have hwr : IntKind.i64.wrap ((at_ : Int) + h) = (at_ : Int) + h := by rw [IntKind.wrap_i64]; omega
  have h6 : inR 9 = 6 := by decide
  go_enter Tryz.func103, Tryz.ntmps103
  go_wp2
  go_region_held (fun w' => w'.cell? ⟨p, 0, none⟩ = some (.slice (some ⟨g, 0, none⟩) bs.length bs.length) ∧ w'.cell? ⟨p, 1, none⟩ = some (.int .i64 at_)) (first | go_keep | exact ⟨by assumption, by assumption⟩) (first | (go_at_call 107; refine hP.mono ?_; rintro e w1 ⟨rfl, rfl⟩))
  go_wp2_with (go_at_call 102; refine (inr_any _ _).mono ?_; rintro e w' ⟨rfl, rfl⟩)
  go_ret
  exact ⟨rfl, (hI.setE 6).drew, grown_set_drew _ _ _ _⟩

theorem rbytes_stop (p : Nat) (x y : Value) (e n : Int) (w : World) (hB : SBlk w p [x, y, .int .i64 e] 151) (he : (e != 0) = true) :
    Calls Tryz.prog 90 #[.pointer (some ⟨p, 0, none⟩), .int .i64 n] w fun r w' => r = .returned (.slice none 0 0) ∧ w = w' := by
  go_enter Tryz.func90, Tryz.ntmps90
  go_wp2_with (go_at_call 100; refine (rstop_any p x y e w hB).mono ?_; rintro e w' ⟨rfl, rfl⟩)
  go_ret
  exact ⟨rfl, rfl⟩
theorem rbytes_neg (p g : Nat) (bs : List Int) (at_ : Nat) (n : Int) (w : World) (hI : RInv w p g bs at_ 0) (hn : n < 0) :
    Calls Tryz.prog 90 #[.pointer (some ⟨p, 0, none⟩), .int .i64 n] w fun r w' => r = .returned (.slice none 0 0) ∧ RInv w' p g bs at_ 1 ∧ w.grownBy w' (some p) := by
  have hB := hI.blk
  have c2 := hB.c2
  have f2 := hB.frozen 2
  go_enter Tryz.func90, Tryz.ntmps90
  go_wp2_with (go_at_call 100; refine (rstop_any p _ _ 0 w hB).mono ?_; rintro e w' ⟨rfl, rfl⟩)
  go_ret
  exact ⟨rfl, hI.setE 1, grown_set _ _ _ _⟩
theorem rbytes_ok (p g : Nat) (bs : List Int) (at_ m : Nat) (w : World) (hI : RInv w p g bs at_ 0) (hin : at_ + m ≤ bs.length) :
    Calls Tryz.prog 90 #[.pointer (some ⟨p, 0, none⟩), .int .i64 m] w fun r w' => ∃ v, r = .returned v ∧ Res w w' v ((bs.drop at_).take m) ∧ RInv w' p g bs (at_ + m) 0 ∧ w.grownBy w' (some p) := by
  have hlen := hI.len
  have hB := hI.blk
  have hT := take_ok p g bs at_ 0 m w hI hin
  simp only [Nat.add_zero, Nat.zero_add] at hT
  go_enter Tryz.func90, Tryz.ntmps90
  go_wp2_with (first | (go_at_call 100; refine (rstop_any p _ _ 0 w hB).mono ?_; rintro e w' ⟨rfl, rfl⟩) | (go_at_call 103; refine hT.mono ?_; rintro e w1 ⟨v, rfl, hR, hI1, hg1⟩))
  go_ret
  exact ⟨_, rfl, by assumption, by assumption, by assumption⟩
theorem rbytes_out (p g : Nat) (bs : List Int) (at_ m : Nat) (w : World) (hI : RInv w p g bs at_ 0) (hm : m ≤ 9223372036854775807) (hin : ¬ at_ + m ≤ bs.length) :
    Calls Tryz.prog 90 #[.pointer (some ⟨p, 0, none⟩), .int .i64 m] w fun r w' => r = .returned (.slice none 0 0) ∧ RInv w' p g bs at_ 6 ∧ w.grownBy w' (some p) := by
  have hlen := hI.len
  have hB := hI.blk
  have hT := take_bad p g bs at_ 0 m w hI (by omega) hm hin
  go_enter Tryz.func90, Tryz.ntmps90
  go_wp2_with (first | (go_at_call 100; refine (rstop_any p _ _ 0 w hB).mono ?_; rintro e w' ⟨rfl, rfl⟩) | (go_at_call 103; refine hT.mono ?_; rintro e w1 ⟨rfl, hI1, hg1⟩))
  go_ret
  exact ⟨rfl, by assumption, by assumption⟩

theorem le_two {bs : List Int} (hb : Byt bs) (k : Nat) : 0 ≤ le ((bs.drop k).take 2) ∧ le ((bs.drop k).take 2) < 65536 := by
  have hB := (hb.drop k).take 2
  have h1 := le_lt_of hB 2 (by simp; omega)
  exact ⟨le_nonneg hB, by have e : (256 : Int) ^ 2 = 65536 := by decide
                          rw [e] at h1; exact h1⟩

theorem newreader_any (a : Option Addr) (len cap : Nat) (bs : List Int) (w : World) (R : Row w a len bs) (hl : len ≤ 2000000) :
    Calls Tryz.prog 88 #[.slice a len cap] w fun r w' => ∃ p g, r = .returned (.pointer (some ⟨p, 0, none⟩)) ∧ RInv w' p g bs 0 0 ∧ w.heap.size ≤ p ∧ w.heap.size ≤ g ∧ w.grownBy w' none := by
  have hF := fresh_any a len cap bs w R (by omega)
  go_enter Tryz.func88, Tryz.ntmps88
  go_wp2_with (go_at_call 95; refine hF.mono ?_; rintro e w1 ⟨rfl, hb1, hg1, hs1⟩; have HS : Hid (w1.heap.size = w.heap.size + 1) := hs1; clear hs1)
  go_ret
  have hb1 : Blk w1 w.heap.size (bv bs) := by assumption
  have hg1 : w.grownBy w1 none := by assumption
  have HS : w1.heap.size = w.heap.size + 1 := (show Hid (w1.heap.size = w.heap.size + 1) by assumption)
  obtain rfl := R.len_eq
  exact ⟨w1.heap.size, w.heap.size, rfl, ⟨alloc_sblk w1 [.slice (some ⟨w.heap.size, 0, none⟩) bs.length bs.length, .int .i64 0, .int .i64 0] 151, hb1.below ((Below.refl _ _).alloc (Nat.le_refl _) _) hb1.lt, R.byt, hl, Nat.zero_le _, by omega⟩, by omega, Nat.le_refl _, grown_trans hg1 (World.grownBy_alloc w1 _ none)⟩
end Go.Proofs.YtfhgbddeclldnaaGreat.Fi
