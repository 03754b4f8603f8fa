/- keep, over a flash without memory: what becomes of the copies (plain). The page's example (live), num. A call of a script: as plain data; what it makes of a flash; step's variables. The same records, and copies? step: Load. -/
import Derived.Deep.QuietTactic
import Derived.BigQuiet
import Derived.Test.YtfhgbddeclldnaaGreatQ12
import Derived.Test.YtfhgbddeclldnaaGreatQ25
namespace Go.Proofs.YtfhgbddeclldnaaGreat
open Go.RowKit
set_option maxRecDepth 100000
set_option linter.unusedSimpArgs false
set_option linter.unusedVariables false

theorem kda_of {m n : Fm} {i : Nat} (h : kcp n i = kcp m i) : kda n i = kda m i := by unfold kda; rw [h]
/-- Write, where the power is on: the other copy stays -/
structure KwF (m : Fm) (k : Nat) (i : Nat) (r : Rc) (q : Fm × Int) : Prop where
  like : Like m q.1
  good : q.1.Good (k + 2)
  other : kda q.1 (1 - i) = kda m (1 - i)
  how : (q.2 = 40 ∧ q.1.off = true ∧ (m.after = 1 ∨ m.after = 2)) ∨ (q.2 = 0 ∧ q.1.off = false ∧ m.after ≠ 1 ∧ m.after ≠ 2 ∧ q.1.after = (if m.after = 0 then 0 else m.after - 2) ∧ kda q.1 i = (r, 0))
theorem kwr_facts {m : Fm} {P : Pa.Pl} {k : Nat} {i : Nat} {r : Rc} (hg : m.Good k) (hk : kok m P = true) (hi : i < 2) (hr : rrt r = true) (hq : 0 ≤ r.q) (hu : inU r.u) (ho : m.off = false) : KwF m k i r (kwr m P i r) := by
  obtain ⟨-, -, -, -, hs, hb, -, -⟩ := kok_facts hk
  have hgd := good_kwr hg P i r
  have hlk := like_kwr m P i r
  have hj : 1 - i < 2 := by omega
  have hij : i ≠ 1 - i := by omega
  have c1 := cp_erase hg hb hs hi hj hij
  rcases kwr_on hg hk hi hr ho with ⟨ha, e⟩ | ⟨ha, e⟩
  · rw [e] at hgd hlk ⊢
    exact ⟨hlk, hgd, kda_of c1, Or.inl ⟨rfl, decide_eq_true ha, Or.inl ha⟩⟩
  · have hE : (m.erased i).Good (k + 1) := by
      have := Fm.good_erase hg (i : Int)
      unfold Fm.erase at this
      rw [erE_two hg hs hi, ho] at this
      exact this
    have c2 := cp_write (m := m.erased i) hE hb hs hi hj hij (ys := rby r) (by rw [rby_len]; show 32 ≤ m.b; omega)
    have c3 : kda ((m.erased i).written (i * m.p) (rby r)) (1 - i) = kda m (1 - i) := kda_of (c2.trans c1)
    have hl : (m.erased i).after = m.left := rfl
    rw [e] at hgd hlk ⊢
    refine ⟨hlk, hgd, c3, ?_⟩
    by_cases h2 : (m.erased i).after = 1
    · left
      refine ⟨by simp [h2], decide_eq_true h2, Or.inr ?_⟩
      rw [hl] at h2
      unfold Fm.left at h2
      split at h2 <;> omega
    · right
      have ht := cp_written (m := m.erased i) hE hb hs hi (ys := rby r) (rby_len r) h2
      have ho2 : ((m.erased i).written (i * m.p) (rby r)).off = false := decide_eq_false h2
      refine ⟨by simp [h2], ho2, ha, ?_, ?_, ?_⟩
      · intro h
        apply h2
        rw [hl]
        unfold Fm.left
        rw [if_neg (by omega)]
        omega
      · show (m.erased i).left = _
        unfold Fm.left
        rw [hl]
        unfold Fm.left
        by_cases h0 : m.after = 0
        · rw [if_pos h0, if_pos rfl, if_pos h0]
        · rw [if_neg h0, if_neg h0, if_neg (by omega)]
          omega
      · unfold kda
        rw [show kcp ((m.erased i).written (i * m.p) (rby r)) i = rby r from ht]
        exact rde_rby0 hr hq hu
/-- one of the two writes, where no failure is ahead -/
theorem kon_calm {m n : Fm} {P : Pa.Pl} {k : Nat} {i : Nat} {r : Rc} {all : Bool} (hg : n.Good k) (hk : kok n P = true) (hi : i < 2) (hr : rrt r = true) (hq : 0 ≤ r.q) (hu : inU r.u) (ho : n.off = false) (ha : n.after = 0) (hm : khs m i r = true → kda n i = (r, 0)) :
    (kon m P r all i n).2 = 0 ∧ Like n (kon m P r all i n).1 ∧ (kon m P r all i n).1.Good (k + 2) ∧ (kon m P r all i n).1.off = false ∧ (kon m P r all i n).1.after = 0 ∧ kda (kon m P r all i n).1 i = (r, 0) ∧ kda (kon m P r all i n).1 (1 - i) = kda n (1 - i) := by
  unfold kon
  split
  · rename_i h
    rw [Bool.and_eq_true] at h
    exact ⟨rfl, Like.refl n, hg.mono (by omega), ho, ha, hm h.2, rfl⟩
  · have f := kwr_facts hg hk hi hr hq hu ho
    rcases f.how with ⟨-, -, h | h⟩ | ⟨h1, h2, -, -, h3, h4⟩
    · omega
    · omega
    · exact ⟨h1, f.like, f.good, h2, by rw [h3, if_pos ha], h4, f.other⟩
/-- both copies tell r -/
def kbo (m : Fm) (r : Rc) : Prop := kda m 0 = (r, 0) ∧ kda m 1 = (r, 0)
theorem khs_iff {m : Fm} {i : Nat} {r : Rc} : khs m i r = true ↔ kda m i = (r, 0) := by
  unfold khs
  rw [Bool.and_eq_true, decide_eq_true_iff, Rc.same_iff]
  constructor
  · rintro ⟨h1, h2⟩; exact Prod.ext h2 h1
  · intro h; rw [h]; exact ⟨rfl, rfl⟩
/-- Switch and Repair, where no failure is ahead -/
theorem krn_calm {m : Fm} {P : Pa.Pl} {k : Nat} {r : Rc} {all : Bool} (hg : m.Good k) (hk : kok m P = true) (hr : rrt r = true) (hq : 0 ≤ r.q) (hu : inU r.u) (ho : m.off = false) (ha : m.after = 0) :
    (krn m P r all).2 = 0 ∧ Like m (krn m P r all).1 ∧ (krn m P r all).1.Good (k + 4) ∧ (krn m P r all).1.off = false ∧ (krn m P r all).1.after = 0 ∧ kbo (krn m P r all).1 r := by
  have hf := kfi_lt m
  obtain ⟨a1, a2, a3, a4, a5, a6, a7⟩ := kon_calm (m := m) (n := m) (all := all) (i := 1 - kfi m) hg hk (by omega) hr hq hu ho ha khs_iff.1
  rw [show 1 - (1 - kfi m) = kfi m by omega] at a7
  unfold krn
  rw [if_neg (by rw [hk, hr]; simp), if_neg (by rw [ho]; simp), if_neg (by rw [a1]; simp)]
  generalize (kon m P r all (1 - kfi m) m).1 = n at *
  obtain ⟨b1, b2, b3, b4, b5, b6, b7⟩ := kon_calm (m := m) (n := n) (all := all) (i := kfi m) a3 (by rw [a2.kok]; exact hk) hf hr hq hu a4 a5 (fun h => a7.trans (khs_iff.1 h))
  refine ⟨b1, a2.trans b2, b3, b4, b5, ?_⟩
  rw [a6] at b7
  obtain h | h : kfi m = 0 ∨ kfi m = 1 := by omega
  · rw [h] at b6 b7 ⊢; exact ⟨b6, b7⟩
  · rw [h] at b6 b7 ⊢; exact ⟨b7, b6⟩
theorem kfi_both {m : Fm} {r : Rc} (h : kbo m r) : kfi m = 0 ∧ kli m = [0, 1] := by
  have h0 : kfi m = 0 := by
    unfold kfi
    rw [if_neg]
    rintro ⟨-, h1 | h1⟩
    · rw [h.1] at h1; exact h1 rfl
    · rw [h.1, h.2] at h1; exact absurd h1 (Int.lt_irrefl _)
  refine ⟨h0, ?_⟩
  unfold kli
  rw [h0]
  simp [h.1, h.2]
/-- a Switch from r to s, with a failure ahead -/
theorem krn_switch {m : Fm} {P : Pa.Pl} {k : Nat} {r s : Rc} (hg : m.Good k) (hk : kok m P = true) (hs : rrt s = true) (hq : 0 ≤ s.q) (hu : inU s.u) (ho : m.off = false) (ha : 1 ≤ m.after) (hb : kbo m r) :
    Like m (krn m P s true).1 ∧ (krn m P s true).1.Good (k + 4) ∧ ((krn m P s true).2 = 0 ∧ 4 < m.after ∧ (krn m P s true).1.off = false ∧ kbo (krn m P s true).1 s ∨ (krn m P s true).2 = 40 ∧ m.after ≤ 4 ∧ (krn m P s true).1.off = true ∧ (kda (krn m P s true).1 0 = (r, 0) ∨ kda (krn m P s true).1 1 = (s, 0))) := by
  have hf := (kfi_both hb).1
  have f1 := kwr_facts (i := 1) hg hk (by omega) hs hq hu ho
  unfold krn
  rw [if_neg (by rw [hk, hs]; simp), if_neg (by rw [ho]; simp), hf]
  have e1 : kon m P s true (1 - 0) m = kwr m P 1 s := rfl
  rw [e1]
  change KwF m k 1 s (kwr m P 1 s) at f1
  rcases f1.how with ⟨h1, h2, h3⟩ | ⟨h1, h2, h3, h4, h5, h6⟩
  · rw [if_pos (by rw [h1]; decide)]
    refine ⟨f1.like, f1.good.mono (by omega), Or.inr ⟨h1, by omega, h2, Or.inl ?_⟩⟩
    exact f1.other.trans hb.1
  · rw [if_neg (by rw [h1]; simp)]
    have e2 : kon m P s true 0 (kwr m P 1 s).1 = kwr (kwr m P 1 s).1 P 0 s := rfl
    rw [e2]
    have f2 := kwr_facts (m := (kwr m P 1 s).1) (P := P) (i := 0) f1.good (by rw [f1.like.kok]; exact hk) (by omega) hs hq hu h2
    change KwF (kwr m P 1 s).1 (k + 2) 0 s (kwr (kwr m P 1 s).1 P 0 s) at f2
    rw [if_neg (by omega)] at h5
    rcases f2.how with ⟨g1, g2, g3⟩ | ⟨g1, g2, g3, g4, g5, g6⟩
    · exact ⟨f1.like.trans f2.like, f2.good, Or.inr ⟨g1, by omega, g2, Or.inr (f2.other.trans h6)⟩⟩
    · exact ⟨f1.like.trans f2.like, f2.good, Or.inl ⟨g1, by omega, g2, g6, f2.other.trans h6⟩⟩
/-- a Repair of what copy i, which comes first, tells, with a failure ahead -/
theorem krn_repair {m : Fm} {P : Pa.Pl} {k : Nat} {r : Rc} (hg : m.Good k) (hk : kok m P = true) (hr : rrt r = true) (hq : 0 ≤ r.q) (hu : inU r.u) (ho : m.off = false) (hd : kda m (kfi m) = (r, 0)) :
    Like m (krn m P r false).1 ∧ (krn m P r false).1.Good (k + 4) ∧ ((krn m P r false).2 = 0 ∨ (krn m P r false).2 = 40) ∧ kda (krn m P r false).1 (kfi m) = (r, 0) := by
  have hf := kfi_lt m
  have e0 : ∀ n, kon m P r false (kfi m) n = (n, 0) := fun n => by unfold kon; rw [if_pos (by rw [khs_iff.2 hd]; rfl)]
  unfold krn
  rw [if_neg (by rw [hk, hr]; simp), if_neg (by rw [ho]; simp)]
  have hc : Like m (kon m P r false (1 - kfi m) m).1 ∧ (kon m P r false (1 - kfi m) m).1.Good (k + 4) ∧ ((kon m P r false (1 - kfi m) m).2 = 0 ∨ (kon m P r false (1 - kfi m) m).2 = 40) ∧ kda (kon m P r false (1 - kfi m) m).1 (kfi m) = (r, 0) := by
    unfold kon
    split
    · exact ⟨Like.refl m, hg.mono (by omega), Or.inl rfl, hd⟩
    · have f := kwr_facts (i := 1 - kfi m) hg hk (by omega) hr hq hu ho
      have h := f.other
      rw [show 1 - (1 - kfi m) = kfi m by omega, hd] at h
      refine ⟨f.like, f.good.mono (by omega), ?_, h⟩
      rcases f.how with ⟨h1, -⟩ | ⟨h1, -⟩
      · exact Or.inr h1
      · exact Or.inl h1
  split
  · exact hc
  · rw [e0]
    exact ⟨hc.1, hc.2.1, Or.inl rfl, hc.2.2.2⟩
/-- a Repair of what both tell -/
theorem krn_both {m : Fm} {P : Pa.Pl} {r : Rc} (hk : kok m P = true) (hr : rrt r = true) (ho : m.off = false) (hb : kbo m r) : krn m P r false = (m, 0) := by
  have hf := (kfi_both hb).1
  have e0 : ∀ i n, i < 2 → kon m P r false i n = (n, 0) := fun i n hi => by
    unfold kon
    rw [if_pos]
    obtain rfl | rfl : i = 0 ∨ i = 1 := by omega
    · rw [khs_iff.2 hb.1]; rfl
    · rw [khs_iff.2 hb.2]; rfl
  unfold krn
  rw [if_neg (by rw [hk, hr]; simp), if_neg (by rw [ho]; simp), hf, e0 _ _ (by omega), if_neg (by simp), e0 _ _ (by omega)]
end Go.Proofs.YtfhgbddeclldnaaGreat

namespace Go.Proofs.YtfhgbddeclldnaaGreat
open Go.RowKit
set_option maxRecDepth 100000
set_option linter.unusedSimpArgs false
set_option linter.unusedVariables false

theorem num9_any (x : Int) (w : World) : Calls Tryz.prog 8 #[.int .i64 x] w fun e w' => e = .returned (.int .i64 x) ∧ w = w' := by
  go_enter Tryz.func8, Tryz.ntmps8
  go_wp2
  go_ret
  exact ⟨rfl, rfl⟩
/-- the program's flash, made behind w -/
structure Fs (w W : World) (fb bb db wb : Nat) (m : Fm) (G : Nat → Prop) : Prop where
  rep : PRep W fb bb db wb m G
  gr : w.grownBy W none
  ft : ∀ k, foot fb bb db wb k → w.heap.size ≤ k
theorem Fs.kept {w W W' : World} {fb bb db wb : Nat} {m : Fm} {G : Nat → Prop} (h : Fs w W fb bb db wb m G) (k : W.grownBy W' none) : Fs w W' fb bb db wb m G := ⟨h.rep.grown k, grown_trans h.gr k, h.ft⟩
theorem Fs.call {w W W' : World} {fb bb db wb : Nat} {m m' : Fm} {G : Nat → Prop} (h : Fs w W fb bb db wb m G) (k : Chg (foot fb bb db wb) W W') (r : PRep W' fb bb db wb m' G) : Fs w W' fb bb db wb m' G :=
  ⟨r, ⟨k.os.trans h.gr.os, k.tape.trans h.gr.tape, k.output.trans h.gr.output, Nat.le_trans h.gr.size k.size, fun x hx _ => (k.block x (Nat.lt_of_lt_of_le hx h.gr.size) (fun y => by have := h.ft x y; omega)).trans (h.gr.block x hx (by simp))⟩, h.ft⟩
def plL : Pa.Pl := ⟨4, 1, 64, 0, 1, 2, 3, 1⟩
def rcL : Rc := ⟨1, 0, 5, 9⟩
def mK0 : Fm := Fm.new 4 1 64
theorem mkL : Pa.mk 4 1 64 = (plL, 0) := by kernel_rfl
theorem plL_ok : plL.ok := by unfold plL Pa.Pl.ok Pa.bnd64; simp
theorem rcL_ok : rcL.ok := by unfold rcL Rc.ok inU in64; simp
theorem kokL : kok mK0 plL = true := by kernel_rfl
theorem kloL : klo mK0 plL = ([], 0) := by
  have h0 : (kda mK0 0).2 = 6 := by kernel_rfl
  have h1 : (kda mK0 1).2 = 6 := by kernel_rfl
  unfold klo
  rw [kokL, if_neg (by simp), if_neg (by decide)]
  rcases load_cases mK0 with ⟨-, -, -, h⟩ | ⟨h, -⟩ | ⟨h, -⟩
  · rw [h]
  · rw [h0] at h; exact absurd h (by decide)
  · rw [h1] at h; exact absurd h (by decide)
theorem goodL : mK0.Good 0 := Fm.good_new (by decide) (by decide) (by decide)
theorem swL : (krn mK0 plL rcL true).2 = 0 ∧ (krn mK0 plL rcL true).1.Good 4 ∧ klo (krn mK0 plL rcL true).1 plL = ([0, 1], 0) ∧ kbo (krn mK0 plL rcL true).1 rcL := by
  obtain ⟨h1, h2, h3, h4, h5, h6⟩ := krn_calm (all := true) goodL kokL (r := rcL) (by kernel_rfl) (by decide) (by unfold inU rcL; simp) rfl rfl
  refine ⟨h1, h3, ?_, h6⟩
  unfold klo
  rw [h2.kok, kokL, if_neg (by simp), h4, if_neg (by simp), (kfi_both h6).2]
set_option maxHeartbeats 2000000 in
theorem live9_any (w : World) : Calls Tryz.prog 6 #[] w fun e w' => e = .returned (.bool true) ∧ w.grownBy w' none := by
  have hm := Pa.make_any 4 1 64 w (by omega) (by omega) (by omega)
  rw [mkL] at hm
  have hnw := fun W => prep_new 4 1 64 W (fun _ => False) (by decide) (by decide) (by decide)
  obtain ⟨s1, s2, s3, s4⟩ := swL
  have hld0 := fun W fb bb db wb (h : PRep W fb bb db wb mK0 (fun _ => False)) => pload_any h goodL plL plL_ok
  have hsw := fun W fb bb db wb (h : PRep W fb bb db wb mK0 (fun _ => False)) => pswitch_any h goodL (by decide) plL plL_ok rcL rcL_ok
  have hld1 := fun W fb bb db wb (h : PRep W fb bb db wb (krn mK0 plL rcL true).1 (fun _ => False)) => pload_any h s2 plL plL_ok
  unfold LdPost at hld0 hld1
  unfold PkPost at hsw
  rw [kloL] at hld0
  rw [s3] at hld1
  rw [s1] at hsw
  have HB : Hid _ := s4
  clear s1 s2 s3 s4
  generalize (krn mK0 plL rcL true).1 = m1 at *
  have HNW : Hid (∀ W, Calls Tryz.prog 7 #[.agg #[.int .i64 4, .int .i64 1, .int .i64 64]] W fun e w' => ∃ fb bb db wb, e = .returned (.tuple #[.pointer (some ⟨fb, 0, none⟩), .int .i64 0]) ∧ W.grownBy w' none ∧ PRep w' fb bb db wb mK0 (fun _ => False) ∧ (∀ k, foot fb bb db wb k → W.heap.size ≤ k)) := hnw
  clear hnw
  simp only [plL, Pa.Pl.val, rcL, Rc.val] at hm hld0 hld1 hsw
  go_enter Tryz.func6, Tryz.ntmps6
  go_wp2_with fail
  refine hm.mono ?_
  rintro e w1 ⟨rfl, g1⟩
  clear hm
  have hB := Bx.new w1 26 [.int .i64 4, .int .i64 1, .int .i64 64, .int .i64 0, .int .i64 1, .int .i64 2, .int .i64 3, .int .i64 1]
  have HW1 : Hid _ := And.intro hB (grown_trans g1 (World.grownBy_alloc w1 (.cells #[.int .i64 4, .int .i64 1, .int .i64 64, .int .i64 0, .int .i64 1, .int .i64 2, .int .i64 3, .int .i64 1] 26) none))
  clear hB g1
  simp only
  go_wp2_with fail
  generalize w1.alloc (.cells #[.int .i64 4, .int .i64 1, .int .i64 64, .int .i64 0, .int .i64 1, .int .i64 2, .int .i64 3, .int .i64 1] 26) = W1 at *
  generalize w1.heap.size = gp at *
  refine (HNW.out _).mono ?_
  rintro e w2 ⟨fb, bb, db, wb, rfl, g2, hP2, hF2⟩
  have HF : Hid (Fs W1 w2 fb bb db wb mK0 (fun _ => False)) := ⟨hP2, g2, hF2⟩
  clear g2 hP2 hF2 HNW
  obtain ⟨p0, p1, p2, p3, p4, p5, p6, p7⟩ := plan8 (s := 4) (p := 1) (b := 64) (x0 := 0) (x1 := 1) (y0 := 2) (y1 := 3) (n := 1) (HW1.out.1.kept HF.out.gr)
  simp only
  go_wp2_with (first | (go_at_call 8; with_reducible refine (num9_any _ _).mono ?_; rintro e w' ⟨rfl, rfl⟩))
  refine (hld0 _ _ _ _ _ HF.out.rep).mono ?_
  rintro e w3 ⟨g3, aL, nL, cL, aX, nX, cX, rfl, hnl, hnx, hfl, hfx, hls⟩
  have hn0 := hls.nL
  simp only [List.length_nil] at hn0
  subst hn0
  have HF3 : Hid _ := HF.out.kept g3
  clear hnl hnx hfl hfx hls g3 HF p0 p1 p2 p3 p4 p5 p6 p7 hld0
  obtain ⟨p0, p1, p2, p3, p4, p5, p6, p7⟩ := plan8 (s := 4) (p := 1) (b := 64) (x0 := 0) (x1 := 1) (y0 := 2) (y1 := 3) (n := 1) (HW1.out.1.kept HF3.out.gr)
  simp only
  go_wp2_with fail
  refine (hsw _ _ _ _ _ HF3.out.rep).mono ?_
  rintro e w4 ⟨rfl, hC4, hP4⟩
  have HF4 : Hid _ := HF3.out.call hC4 hP4
  clear hC4 hP4 HF3 p0 p1 p2 p3 p4 p5 p6 p7 hsw
  obtain ⟨p0, p1, p2, p3, p4, p5, p6, p7⟩ := plan8 (s := 4) (p := 1) (b := 64) (x0 := 0) (x1 := 1) (y0 := 2) (y1 := 3) (n := 1) (HW1.out.1.kept HF4.out.gr)
  simp only
  go_wp2_with fail
  refine (hld1 _ _ _ _ _ HF4.out.rep).mono ?_
  rintro e w5 ⟨g5, aM, nM, cM, aY, nY, cY, rfl, hnl, hnx, hfl, hfx, hls⟩
  have hn1 := hls.nL
  have hn2 := hls.nW
  simp only [List.length_cons, List.length_nil] at hn1 hn2
  subst hn1 hn2
  obtain ⟨b, o, rfl, -, -, -, l0⟩ := hls.rs 0 0 rfl
  obtain ⟨b', o', e', -, -, -, l1⟩ := hls.rs 1 1 rfl
  injection e' with e'
  injection e' with e1 e2
  subst e1 e2
  rw [HB.out.1] at l0
  rw [HB.out.2] at l1
  simp only [rcL, Nat.mul_zero, Nat.mul_one, Nat.add_zero] at l0 l1
  have HF5 : Hid _ := grown_trans HW1.out.2 (HF4.out.kept g5).gr
  clear hnl hnx hfl hfx hls g5 HF4 p0 p1 p2 p3 p4 p5 p6 p7 hld1 HB HW1
  simp only
  go_wp2_with (first | (go_at_call 8; with_reducible refine (num9_any _ _).mono ?_; rintro e w' ⟨rfl, rfl⟩))
  go_ret
  exact ⟨rfl, HF5.out⟩
end Go.Proofs.YtfhgbddeclldnaaGreat

namespace Go.Proofs.YtfhgbddeclldnaaGreat
open Go.RowKit
set_option maxRecDepth 100000
set_option linter.unusedSimpArgs false
set_option linter.unusedVariables false

/-- a call, as plain data -/
structure A9 where
  d : Int
  c : Int
  t : Int
  r : Rc
  n : Int
  aT : Option Addr
  lT : Nat
  cT : Nat
  ts : List Int
  aB : Option Addr
  lB : Nat
  cB : Nat
  xs : List Int
def A9.cells (A : A9) : List Value := [.int .i64 A.d, .int .i64 A.c, .int .i64 A.t, .int .u64 A.r.q, .int .i64 A.r.s, .int .i64 A.r.l, .int .u64 A.r.u, .int .i64 A.n, .slice A.aT A.lT A.cT, .slice A.aB A.lB A.cB]
def A9.val (A : A9) : Value := .agg #[.int .i64 A.d, .int .i64 A.c, .int .i64 A.t, .int .u64 A.r.q, .int .i64 A.r.s, .int .i64 A.r.l, .int .u64 A.r.u, .int .i64 A.n, .slice A.aT A.lT A.cT, .slice A.aB A.lB A.cB]
structure A9.ok (A : A9) (w : World) : Prop where
  bc : in64 A.c
  bt : in64 A.t
  br : A.r.ok
  bn : in64 A.n
  rT : Row w A.aT A.lT A.ts
  nT : A.aT = none → A.cT = 0
  mT : A.lT ≤ 140737488355328
  rB : Row w A.aB A.lB A.xs
  nB : A.aB = none → A.cB = 0
/-- its bytes lie in no block of the flash -/
def A9.off (A : A9) (F : Nat → Prop) : Prop := (∀ b o, A.aT = some ⟨b, o, none⟩ → 0 < A.lT → ¬ F b) ∧ (∀ b o, A.aB = some ⟨b, o, none⟩ → 0 < A.lB → ¬ F b)
/-- what a call makes of a flash -/
def Fm.act9 (m : Fm) (P : Pa.Pl) (A : A9) : Fm := if A.d = 0 then m else if A.d = 1 then (kwr m P A.c A.r).1 else if A.d = 2 then (krn m P A.r true).1 else if A.d = 3 then (krn m P A.r false).1 else if A.d = 4 then (m.arm A.n A.ts).1 else if A.d = 6 then (m.write A.t A.xs).1 else if A.d = 7 then (m.erase A.t).1 else m.boot
theorem Row.chg4 {w w' : World} {F : Nat → Prop} {a : Option Addr} {n : Nat} {xs : List Int} (h : Row w a n xs) (k : Chg F w w') (hf : ∀ b o, a = some ⟨b, o, none⟩ → 0 < n → ¬ F b) : Row w' a n xs := h.but' (fun b o e h0 hb => k.block b hb (hf b o e h0))
theorem PRep.less9 {w : World} {fb bb db wb : Nat} {m : Fm} {G G' : Nat → Prop} (h : PRep w fb bb db wb m G) (hG : ∀ k, G' k → G k) : PRep w fb bb db wb m G' := by
  obtain ⟨pw, left, aT, cT, T, hp, hw, hg⟩ := h
  exact ⟨pw, left, aT, cT, T, hp, hw, fun tb o e h0 x => hg tb o e h0 (hG _ x)⟩
theorem PRep.fresh9 {w : World} {fb bb db wb : Nat} {m : Fm} {G G' : Nat → Prop} (h : PRep w fb bb db wb m G) (hG : ∀ k, G' k → G k ∨ w.heap.size ≤ k) : PRep w fb bb db wb m G' := by
  obtain ⟨pw, left, aT, cT, T, hp, hw, hg⟩ := h
  refine ⟨pw, left, aT, cT, T, hp, hw, fun tb o e h0 x => ?_⟩
  rcases hG _ x with y | y
  · exact hg tb o e h0 y
  · obtain ⟨b, o', e', hc⟩ := hp.row.cells h0
    rw [e] at e'
    injection e' with e'
    injection e' with e1 e2
    subst e1
    have := cell_lt (hc 0 h0)
    omega
/-- its own blocks -/
def ow9 (F : Nat → Prop) (g H k : Nat) : Prop := F k ∨ (g ≤ k ∧ k < H)
/-- behind the making of step's variables -/
structure S9 (w W : World) (g fb bb db wb : Nat) (cs : List Value) (P : Pa.Pl) (A : A9) (ds : List Value) : Prop where
  ch : Chg (foot fb bb db wb) w W
  b0 : Box W g 42 cs
  b1 : Box W (g + 1) 26 P.cells
  b2 : Box W (g + 1 + 1) 50 A.cells
  b3 : Box W (g + 1 + 1 + 1) 42 ds
  eg : w.heap.size = g
  ft : ∀ k, foot fb bb db wb k → k < g
theorem S9.step {w W W' : World} {g fb bb db wb : Nat} {cs ds : List Value} {P : Pa.Pl} {A : A9} (h : S9 w W g fb bb db wb cs P A ds) (hc : Chg (foot fb bb db wb) W W') : S9 w W' g fb bb db wb cs P A ds := by
  have f : ∀ i, g ≤ i → ¬ foot fb bb db wb i := fun i hi x => by have := h.ft _ x; omega
  exact ⟨h.ch.trans hc, hc.box h.b0 (f _ (by omega)), hc.box h.b1 (f _ (by omega)), hc.box h.b2 (f _ (by omega)), hc.box h.b3 (f _ (by omega)), h.eg, h.ft⟩
theorem S9.grown {w W W' : World} {g fb bb db wb : Nat} {cs ds : List Value} {P : Pa.Pl} {A : A9} (h : S9 w W g fb bb db wb cs P A ds) (hg : W.grownBy W' none) : S9 w W' g fb bb db wb cs P A ds := h.step (Chg.of_none hg _)
/-- the world behind the making of them -/
def W9 (w : World) (cs : List Value) (P : Pa.Pl) (A : A9) (ds : List Value) : World := ((((w.alloc (.cells cs.toArray 42)).alloc (.cells P.cells.toArray 26)).alloc (.cells A.cells.toArray 50)).alloc (.cells ds.toArray 42))
theorem w9_grown (w : World) (cs : List Value) (P : Pa.Pl) (A : A9) (ds : List Value) : w.grownBy (W9 w cs P A ds) none := grown_trans (grown_trans (grown_trans (World.grownBy_alloc _ _ _) (World.grownBy_alloc _ _ _)) (World.grownBy_alloc _ _ _)) (World.grownBy_alloc _ _ _)
theorem w9_size (w : World) (cs : List Value) (P : Pa.Pl) (A : A9) (ds : List Value) : (W9 w cs P A ds).heap.size = w.heap.size + 4 := by unfold W9; simp [World.size_alloc]
theorem s9_made {w : World} {fb bb db wb : Nat} (cs : List Value) (P : Pa.Pl) (A : A9) (ds : List Value) (hf : ∀ k, foot fb bb db wb k → k < w.heap.size) : S9 w (W9 w cs P A ds) w.heap.size fb bb db wb cs P A ds := by
  have a0 := Box.new w 42 cs
  have a1 := Box.new (w.alloc (.cells cs.toArray 42)) 26 P.cells
  have a2 := Box.new ((w.alloc (.cells cs.toArray 42)).alloc (.cells P.cells.toArray 26)) 50 A.cells
  have a3 := Box.new (((w.alloc (.cells cs.toArray 42)).alloc (.cells P.cells.toArray 26)).alloc (.cells A.cells.toArray 50)) 42 ds
  simp only [World.size_alloc] at a1 a2 a3
  refine ⟨Chg.of_none (w9_grown _ _ _ _ _) _, ?_, ?_, ?_, a3, rfl, hf⟩
  · exact ((a0.grown (World.grownBy_alloc _ _ _)).grown (World.grownBy_alloc _ _ _)).grown (World.grownBy_alloc _ _ _)
  · exact (a1.grown (World.grownBy_alloc _ _ _)).grown (World.grownBy_alloc _ _ _)
  · exact a2.grown (World.grownBy_alloc _ _ _)
/-- what step answers -/
def P9 (w : World) (fb bb db wb : Nat) (F : Nat → Prop) (m : Fm) (e : Ending) (w' : World) : Prop :=
  ∃ v', e = .returned (.tuple #[v', .bool true]) ∧ Chg (foot fb bb db wb) w w' ∧ PRep w' fb bb db wb m F ∧ Rep w' v' m F
/-- the result is stored, and read -/
theorem s9_end {w W W' : World} {g H fb bb db wb : Nat} {F : Nat → Prop} {cs : List Value} {P : Pa.Pl} {A : A9} {x0 x1 x2 x3 x4 x5 x6 x7 x8 x9 : Value} {m : Fm} {v : Value} (h : S9 w W g fb bb db wb cs P A [x0, x1, x2, x3, x4, x5, x6, x7, x8, x9]) (hP : PRep W fb bb db wb m (ow9 F g H)) (hR : Rep W v m (ow9 F g H)) (hH : g + 3 < H) (y0 y1 y2 y3 y4 y5 y6 y7 y8 y9 : Value) (hW : W' = ((((((((((W.setCell ⟨g + 1 + 1 + 1, 0, none⟩ y0).setCell ⟨g + 1 + 1 + 1, 1, none⟩ y1).setCell ⟨g + 1 + 1 + 1, 2, none⟩ y2).setCell ⟨g + 1 + 1 + 1, 3, none⟩ y3).setCell ⟨g + 1 + 1 + 1, 4, none⟩ y4).setCell ⟨g + 1 + 1 + 1, 5, none⟩ y5).setCell ⟨g + 1 + 1 + 1, 6, none⟩ y6).setCell ⟨g + 1 + 1 + 1, 7, none⟩ y7).setCell ⟨g + 1 + 1 + 1, 8, none⟩ y8).setCell ⟨g + 1 + 1 + 1, 9, none⟩ y9)) :
    Box W' (g + 1 + 1 + 1) 42 [y0, y1, y2, y3, y4, y5, y6, y7, y8, y9] ∧ Chg (foot fb bb db wb) w W' ∧ PRep W' fb bb db wb m F ∧ Rep W' v m F := by
  have hb := (((((((((h.b3.set 0 y0).set 1 y1).set 2 y2).set 3 y3).set 4 y4).set 5 y5).set 6 y6).set 7 y7).set 8 y8).set 9 y9
  have c1 : ∀ (V : World) i u, Chg (fun k => k = g + 1 + 1 + 1) V (V.setCell ⟨g + 1 + 1 + 1, i, none⟩ u) := fun V i u => Chg.set rfl
  have hc : Chg (fun k => k = g + 1 + 1 + 1) W W' := by
    rw [hW]
    exact ((((((((((c1 _ _ _).trans (c1 _ _ _)).trans (c1 _ _ _)).trans (c1 _ _ _)).trans (c1 _ _ _)).trans (c1 _ _ _)).trans (c1 _ _ _)).trans (c1 _ _ _)).trans (c1 _ _ _)).trans (c1 _ _ _))
  have hlt := h.b3.lt
  have he := h.eg
  refine ⟨by rw [hW]; exact hb, ?_, ?_, ?_⟩
  · refine ⟨hc.os.trans h.ch.os, hc.tape.trans h.ch.tape, hc.output.trans h.ch.output, Nat.le_trans h.ch.size hc.size, fun k hk hF => ?_⟩
    rw [hc.block k (Nat.lt_of_lt_of_le hk h.ch.size) (by omega)]
    exact h.ch.block k hk hF
  · exact (hP.but hc (fun k e => .inr (by omega)) (fun k x e => by have := h.ft _ x; omega)).less9 (fun _ x => .inl x)
  · exact (hR.but (fun k hk hF => hc.block k hk fun e => hF (.inr (by omega)))).less (fun k x => .inl x)
theorem Box.c8 {W : World} {g : Nat} {T : TypeId} {v0 v1 v2 v3 v4 v5 v6 v7 : Value} (h : Box W g T [v0, v1, v2, v3, v4, v5, v6, v7]) : W.cell? ⟨g, 0, none⟩ = some v0 ∧ W.cell? ⟨g, 1, none⟩ = some v1 ∧ W.cell? ⟨g, 2, none⟩ = some v2 ∧ W.cell? ⟨g, 3, none⟩ = some v3 ∧ W.cell? ⟨g, 4, none⟩ = some v4 ∧ W.cell? ⟨g, 5, none⟩ = some v5 ∧ W.cell? ⟨g, 6, none⟩ = some v6 ∧ W.cell? ⟨g, 7, none⟩ = some v7 := ⟨h.c 0, h.c 1, h.c 2, h.c 3, h.c 4, h.c 5, h.c 6, h.c 7⟩
end Go.Proofs.YtfhgbddeclldnaaGreat

namespace Go.Proofs.YtfhgbddeclldnaaGreat
open Go.RowKit
set_option maxRecDepth 100000
set_option linter.unusedSimpArgs false
set_option linter.unusedVariables false

set_option maxHeartbeats 4000000 in
theorem same9_any {w : World} {m : Fm} {aL aX bL bX : Option Addr} {nL nX kL kX : Nat} (cL cX dL dX : Nat) {l : List Nat} (h1 : Lst w m aL nL aX nX l) (h2 : Lst w m bL kL bX kX l) (hl : l.length ≤ 2) (hB : Byt m.B) :
    Calls Tryz.prog 18 #[.slice aL nL cL, .slice bL kL dL, .slice aX nX cX, .slice bX kX dX] w fun e w' => e = .returned (.bool true) ∧ ∃ n, w' = w.drewN n := by
  obtain rfl : nL = l.length := h1.nL
  obtain rfl : nX = l.length := h1.nW
  obtain rfl : kL = l.length := h2.nL
  obtain rfl : kX = l.length := h2.nW
  have H1 : Hid _ := And.intro h1 h2
  have HB : Hid (∀ x, (kda m x).1.ok) := fun x => kda_ok hB x
  clear h1 h2 hB
  have HN : Hid (∀ k, k < l.length → ∃ x, l[k]? = some x) := fun k hk => ⟨_, List.getElem?_eq_getElem hk⟩
  have hrr := fun (k x : Nat) (h : l[k]? = some x) => And.intro (H1.out.1.rs k x h) (And.intro (H1.out.2.rs k x h) (And.intro (H1.out.1.ws k x h) (H1.out.2.ws k x h)))
  have HRR : Hid _ := hrr
  clear hrr H1
  generalize hn : l.length = n at *
  have HL : Hid _ := hn
  clear hn
  have hb : (n != n) = false := by simp
  go_enter Tryz.func18, Tryz.ntmps18
  go_wp2_with fail
  go_loopw [9] (fun vi wr => ∃ q : Nat, vi = .int .i64 q ∧ q ≤ n ∧ ∃ t, wr = w.drewN t) (fun vi _ => n - (intOf vi).toNat)
  case atStart => exact ⟨0, rfl, Nat.zero_le _, 0, rfl⟩
  case round =>
    obtain ⟨q, rfl, hq, t, rfl⟩ := hrel
    by_cases hq2 : q = n
    · subst hq2
      clear hq
      go_wp2
      go_ret
      exact ⟨rfl, t, rfl⟩
    · have hq3 : q < n := by omega
      have hqi : (q : Int) < n := by omega
      clear hq hq2
      obtain ⟨x, hx⟩ := HN.out q hq3
      obtain ⟨⟨b1, o1, rfl, c0, c1, c2, c3⟩, ⟨b2, o2, rfl, d0, d1, d2, d3⟩, ⟨b3, o3, rfl, e0⟩, ⟨b4, o4, rfl, f0⟩⟩ := HRR.out q x hx
      have hok := HB.out x
      generalize (kda m x).1 = D at *
      obtain ⟨kq, ks, kl, ku⟩ := D
      obtain ⟨k1, k2, k3, k4⟩ := hok
      unfold inU at k1 k4
      unfold in64 at k2 k3
      simp only at *
      rw [Nat.mul_comm] at c0 c1 c2 c3 d0 d1 d2 d3
      clear hx
      go_wp2_with fail
      go_quiet (fail)
      go_wp2_with fail
      exact ⟨⟨q + 1, by go_num, by omega, _, rfl⟩, by simp [intOf]; omega⟩
end Go.Proofs.YtfhgbddeclldnaaGreat

namespace Go.Proofs.YtfhgbddeclldnaaGreat
open Go.RowKit
set_option maxRecDepth 100000
set_option linter.unusedSimpArgs false
set_option linter.unusedVariables false
attribute [local go_sem ↓] Go.wp_at_zero Go.wp_at_succ

theorem drewN_drewN9 (w : World) (a b : Nat) : (w.drewN a).drewN b = w.drewN (a + b) := by
  induction b with
  | zero => rfl
  | succ b ih => first | (show ((w.drewN a).drewN b).drew = (w.drewN (a + b)).drew; rw [ih]) | (simp [World.drewN, Nat.add_assoc])
theorem s9_stored {w W W' : World} {g H fb bb db wb : Nat} {F : Nat → Prop} {cs ds : List Value} {P : Pa.Pl} {A : A9} {m : Fm} {v : Value} (h : S9 w W g fb bb db wb cs P A ds) (hP : PRep W fb bb db wb m (ow9 F g H)) (hR : Rep W v m (ow9 F g H)) (hH : g + 3 < H) (hg : W.grownBy W' (some (g + 1 + 1 + 1))) : Chg (foot fb bb db wb) w W' ∧ PRep W' fb bb db wb m F ∧ Rep W' v m F := by
  have hc : Chg (fun k => k = g + 1 + 1 + 1) W W' := ⟨hg.os, hg.tape, hg.output, hg.size, fun k hk hn => hg.block k hk (by intro e; injection e with e; exact hn e)⟩
  have he := h.eg
  refine ⟨?_, ?_, ?_⟩
  · refine ⟨hc.os.trans h.ch.os, hc.tape.trans h.ch.tape, hc.output.trans h.ch.output, Nat.le_trans h.ch.size hc.size, fun k hk hF => ?_⟩
    rw [hc.block k (Nat.lt_of_lt_of_le hk h.ch.size) (by omega)]
    exact h.ch.block k hk hF
  · exact (hP.but hc (fun k e => .inr (by omega)) (fun k x e => by have := h.ft _ x; omega)).less9 (fun _ x => .inl x)
  · exact (hR.but (fun k hk hF => hc.block k hk fun e => hF (.inr (by omega)))).less (fun k x => .inl x)
set_option maxRecDepth 100000 in
set_option maxHeartbeats 4000000 in
theorem step9_load {w : World} {fb bb db wb : Nat} {m : Fm} {v : Value} {k : Nat} {A : A9} {F : Nat → Prop} (P : Pa.Pl) (hP : PRep w fb bb db wb m F) (hFf : ∀ k, foot fb bb db wb k → F k) (hFs : ∀ k, F k → k < w.heap.size) (hR : Rep w v m F) (hg : m.Good k) (hk : k < 80000) (hPl : P.ok) (hA : A.ok w) (hAo : A.off (foot fb bb db wb)) (hd : A.d = 0) :
    Calls Tryz.prog 10 #[.pointer (some ⟨fb, 0, none⟩), v, P.val, A.val] w fun e w' => P9 w fb bb db wb F (m) e w' := by
  have HFF : Hid _ := And.intro hFf hFs
  have HAO : Hid _ := And.intro hAo (And.intro hPl (And.intro hA hk))
  clear hFf hFs hAo hPl hk
  have t0 : (A.d == 0) = true := by rw [hd]; rfl
  clear hd
  obtain ⟨s, p, b, ops, after, off, aB, aD, aW, aT, lB, cB, lD, cD, lW, cW, lT, cT, rfl⟩ := hR.shape
  have hST := s9_made [.int .i64 s, .int .i64 p, .int .i64 b, .slice aB lB cB, .slice aD lD cD, .slice aW lW cW, .int .i64 ops, .bool off, .int .i64 after, .slice aT lT cT] P A [.int .i64 0, .int .i64 0, .int .i64 0, .slice none 0 0, .slice none 0 0, .slice none 0 0, .int .i64 0, .bool false, .int .i64 0, .slice none 0 0] hP.lt
  have hgW := w9_grown w [.int .i64 s, .int .i64 p, .int .i64 b, .slice aB lB cB, .slice aD lD cD, .slice aW lW cW, .int .i64 ops, .bool off, .int .i64 after, .slice aT lT cT] P A [.int .i64 0, .int .i64 0, .int .i64 0, .slice none 0 0, .slice none 0 0, .slice none 0 0, .int .i64 0, .bool false, .int .i64 0, .slice none 0 0]
  have hszW := w9_size w [.int .i64 s, .int .i64 p, .int .i64 b, .slice aB lB cB, .slice aD lD cD, .slice aW lW cW, .int .i64 ops, .bool off, .int .i64 after, .slice aT lT cT] P A [.int .i64 0, .int .i64 0, .int .i64 0, .slice none 0 0, .slice none 0 0, .slice none 0 0, .int .i64 0, .bool false, .int .i64 0, .slice none 0 0]
  have hPW := (hP.fresh9 (G' := ow9 F w.heap.size (W9 w [.int .i64 s, .int .i64 p, .int .i64 b, .slice aB lB cB, .slice aD lD cD, .slice aW lW cW, .int .i64 ops, .bool off, .int .i64 after, .slice aT lT cT] P A [.int .i64 0, .int .i64 0, .int .i64 0, .slice none 0 0, .slice none 0 0, .slice none 0 0, .int .i64 0, .bool false, .int .i64 0, .slice none 0 0]).heap.size) (fun _ x => x.elim .inl fun y => .inr y.1)).grown hgW
  have hRW := (hR.fresh (F' := ow9 F w.heap.size (W9 w [.int .i64 s, .int .i64 p, .int .i64 b, .slice aB lB cB, .slice aD lD cD, .slice aW lW cW, .int .i64 ops, .bool off, .int .i64 after, .slice aT lT cT] P A [.int .i64 0, .int .i64 0, .int .i64 0, .slice none 0 0, .slice none 0 0, .slice none 0 0, .int .i64 0, .bool false, .int .i64 0, .slice none 0 0]).heap.size) hg (fun x hx => hx.elim .inl fun y => .inr y.1)).grown hgW
  have hAW : A.ok (W9 w [.int .i64 s, .int .i64 p, .int .i64 b, .slice aB lB cB, .slice aD lD cD, .slice aW lW cW, .int .i64 ops, .bool off, .int .i64 after, .slice aT lT cT] P A [.int .i64 0, .int .i64 0, .int .i64 0, .slice none 0 0, .slice none 0 0, .slice none 0 0, .int .i64 0, .bool false, .int .i64 0, .slice none 0 0]) := ⟨hA.bc, hA.bt, hA.br, hA.bn, hA.rT.grown hgW, hA.nT, hA.mT, hA.rB.grown hgW, hA.nB⟩
  have H0 : Hid _ := And.intro hST (And.intro hPW (And.intro hRW (And.intro hszW (And.intro hAW hg))))
  clear hST hP hR hg hszW hgW hPW hRW hAW hA
  unfold W9 at H0
  obtain ⟨ad, ac, at_, ⟨rq, rs, rl, ru⟩, an, aT2, lT2, cT2, ts2, aB2, lB2, cB2, xs2⟩ := A
  obtain ⟨ps, pp, pb, px0, px1, py0, py1, pn⟩ := P
  simp only [Pa.Pl.val, Pa.Pl.cells, A9.val, A9.cells] at *
  go_enter Tryz.func10, Tryz.ntmps10
  go_wp2_with fail
  generalize ((((w.alloc (.cells #[.int .i64 s, .int .i64 p, .int .i64 b, .slice aB lB cB, .slice aD lD cD, .slice aW lW cW, .int .i64 ops, .bool off, .int .i64 after, .slice aT lT cT] 42)).alloc (.cells #[.int .i64 ps, .int .i64 pp, .int .i64 pb, .int .i64 px0, .int .i64 px1, .int .i64 py0, .int .i64 py1, .int .i64 pn] 26)).alloc (.cells #[.int .i64 ad, .int .i64 ac, .int .i64 at_, .int .u64 rq, .int .i64 rs, .int .i64 rl, .int .u64 ru, .int .i64 an, .slice aT2 lT2 cT2, .slice aB2 lB2 cB2] 50)).alloc (.cells #[.int .i64 0, .int .i64 0, .int .i64 0, .slice none 0 0, .slice none 0 0, .slice none 0 0, .int .i64 0, .bool false, .int .i64 0, .slice none 0 0] 42)) = W at *
  generalize hgg : w.heap.size = g at *
  have H6 := H0.out.2.2.2.2.2
  have hB : Byt m.B := H0.out.2.2.1.byt
  have hlo : (klo m ⟨ps, pp, pb, px0, px1, py0, py1, pn⟩).1.length ≤ 2 := by unfold klo; split; (· simp); split; (· simp); exact kli_le m
  refine (pload_any H0.out.2.1 H6 ⟨ps, pp, pb, px0, px1, py0, py1, pn⟩ HAO.out.2.1).mono ?_
  rintro e W2 ⟨hg2, aL1, nL1, cL1, aX1, nX1, cX1, rfl, -, -, -, -, hl1⟩
  have hS2 := H0.out.1.grown hg2
  have H2 : Hid _ := And.intro hS2 (And.intro (H0.out.2.1.grown hg2) (And.intro (H0.out.2.2.1.grown hg2) hl1))
  obtain ⟨c0, c1, c2, c3, c4, c5, c6, c7, c8, c9⟩ := hS2.b0.c10
  obtain ⟨p0, p1, p2, p3, p4, p5, p6, p7⟩ := hS2.b1.c8
  clear hS2 hg2 H6 hl1
  go_wp2_with fail
  refine (kload_any H2.out.2.2.1 H0.out.2.2.2.2.2 ⟨ps, pp, pb, px0, px1, py0, py1, pn⟩ HAO.out.2.1).mono ?_
  rintro e W3 ⟨hg3, aL2, nL2, cL2, aX2, nX2, cX2, rfl, -, -, -, -, hl2⟩
  have H3 : Hid _ := And.intro (H2.out.1.grown hg3) (And.intro (H2.out.2.1.grown hg3) (And.intro (H2.out.2.2.1.grown hg3) (And.intro (by have := H0.out.2.2.2.1; omega : g + 3 < W.heap.size) (And.intro (H2.out.2.2.2.kept hg3) hl2))))
  clear hg3 H2 H0 HAO hl2 c0 c1 c2 c3 c4 c5 c6 c7 c8 c9 p0 p1 p2 p3 p4 p5 p6 p7
  generalize hE : (klo m ⟨ps, pp, pb, px0, px1, py0, py1, pn⟩).2 = E at *
  have HKE : Hid _ := hE
  clear hE
  obtain ⟨c0, c1, c2, c3, c4, c5, c6, c7, c8, c9⟩ := H3.out.1.b0.c10
  have hS3 : W3.grownBy W3.drew (some (g + 1 + 1 + 1)) := ⟨rfl, rfl, rfl, Nat.le_refl _, fun _ _ _ => rfl⟩
  have HSM : Hid (∀ n, Calls Tryz.prog 18 #[.slice aL1 nL1 cL1, .slice aL2 nL2 cL2, .slice aX1 nX1 cX1, .slice aX2 nX2 cX2] (W3.drewN n) fun e w' => e = .returned (.bool true) ∧ ∃ n, w' = W3.drewN n) := by
    intro n
    have g4 : W3.grownBy (W3.drewN n) none := grown_drewN (World.grownBy.refl _ _) n
    refine (same9_any cL1 cX1 cL2 cX2 (H3.out.2.2.2.2.1.kept g4) (H3.out.2.2.2.2.2.kept g4) hlo hB).mono ?_
    rintro e w' ⟨rfl, n', rfl⟩
    exact ⟨rfl, n + n', by rw [drewN_drewN9]⟩
  clear hlo hB c0 c1 c2 c3 c4 c5 c6 c7 c8 c9
  go_wp2_with fail
  refine wp_region_held_drew (S := fun w' => W3.grownBy w' (some (g + 1 + 1 + 1))) (by kernel_rfl) hS3 (fun hH => ?_)
  clear hS3
  refine wpAnyH_take (i := 0) (oi := ⟨some 52, _, _, _, _, _⟩) (v := .agg #[.int .i64 s, .int .i64 p, .int .i64 b, .slice aB lB cB, .slice aD lD cD, .slice aW lW cW, .int .i64 ops, .bool off, .int .i64 after, .slice aT lT cT]) rfl (by kernel_rfl) (by kernel_rfl) (by kernel_rfl) (fun _ _ _ h => h) (Or.inl ⟨by rfl, fun w hSw => by obtain ⟨c0, c1, c2, c3, c4, c5, c6, c7, c8, c9⟩ := flash10 (Bx.but ⟨H3.out.1.b0.blk⟩ hSw (by omega)); go_simp⟩) hH ?_
  simp only [Act.put, List.setIfInBounds_toArray, List.set_cons_zero, List.set_cons_succ]
  refine wpAnyH_take (i := 1) (oi := ⟨some 53, _, _, _, _, _⟩) (v := .slice aL1 nL1 cL1) rfl (by kernel_rfl) (by kernel_rfl) (by kernel_rfl) (fun _ _ _ h => h) (Or.inl ⟨by rfl, fun w hSw => by go_simp⟩) hH ?_
  simp only [Act.put, List.setIfInBounds_toArray, List.set_cons_zero, List.set_cons_succ]
  refine wpAnyH_take (i := 2) (oi := ⟨some 54, _, _, _, _, _⟩) (v := .slice aL2 nL2 cL2) rfl (by kernel_rfl) (by kernel_rfl) (by kernel_rfl) (fun _ _ _ h => h) (Or.inl ⟨by rfl, fun w hSw => by go_simp⟩) hH ?_
  simp only [Act.put, List.setIfInBounds_toArray, List.set_cons_zero, List.set_cons_succ]
  refine wpAnyH_take (i := 3) (oi := ⟨some 55, _, _, _, _, _⟩) (v := .slice aX1 nX1 cX1) rfl (by kernel_rfl) (by kernel_rfl) (by kernel_rfl) (fun _ _ _ h => h) (Or.inl ⟨by rfl, fun w hSw => by go_simp⟩) hH ?_
  simp only [Act.put, List.setIfInBounds_toArray, List.set_cons_zero, List.set_cons_succ]
  refine wpAnyH_take (i := 4) (oi := ⟨some 56, _, _, _, _, _⟩) (v := .slice aX2 nX2 cX2) rfl (by kernel_rfl) (by kernel_rfl) (by kernel_rfl) (fun _ _ _ h => h) (Or.inl ⟨by rfl, fun w hSw => by go_simp⟩) hH ?_
  simp only [Act.put, List.setIfInBounds_toArray, List.set_cons_zero, List.set_cons_succ]
  refine wpAnyH_ready (rs := [5]) (by kernel_rfl) (by simp) ?_
  refine AllReadyH.cons rfl (fun K hK => ?_) AllReadyH.nil
  go_simp
  go_wp2_with (go_at_call 18; refine (HSM.out 1).mono ?_; rintro e w4 ⟨rfl, n4, rfl⟩)
  clear HSM
  have g4 : W3.grownBy (W3.drewN n4) none := grown_drewN (World.grownBy.refl _ _) n4
  have hH4 : W3.grownBy (W3.drewN n4) (some (g + 1 + 1 + 1)) := ⟨g4.os, g4.tape, g4.output, g4.size, fun k hk _ => g4.block k hk (by simp)⟩
  have HE : Hid _ := And.intro (H3.out.1.grown g4) (And.intro (H3.out.2.1.grown g4) (And.intro (H3.out.2.2.1.grown g4) H3.out.2.2.2.1))
  clear g4
  refine hK.out _ _ hH4 (fun hH => ?_)
  clear hK K hH4
  refine wpAnyH_take (i := 6) (oi := ⟨some 58, _, _, _, _, _⟩) (v := .bool true) rfl (by kernel_rfl) (by kernel_rfl) (by kernel_rfl) (fun _ _ _ h => h) (Or.inl ⟨by rfl, fun w hSw => by go_simp⟩) hH ?_
  simp only [Act.put, List.setIfInBounds_toArray, List.set_cons_zero, List.set_cons_succ]
  refine wpAnyH_take (i := 7) (oi := ⟨some 59, _, _, _, _, _⟩) (v := .int .i64 E) rfl (by kernel_rfl) (by kernel_rfl) (by kernel_rfl) (fun _ _ _ h => h) (Or.inl ⟨by rfl, fun w hSw => by go_simp⟩) hH ?_
  simp only [Act.put, List.setIfInBounds_toArray, List.set_cons_zero, List.set_cons_succ]
  refine wpAnyH_take (i := 9) (oi := ⟨some 61, _, _, _, _, _⟩) (v := .int .i64 E) rfl (by kernel_rfl) (by kernel_rfl) (by kernel_rfl) (fun _ _ _ h => h) (Or.inl ⟨by rfl, fun w hSw => by go_simp⟩) hH ?_
  simp only [Act.put, List.setIfInBounds_toArray, List.set_cons_zero, List.set_cons_succ]
  refine wpAnyH_ready (rs := [8]) (by kernel_rfl) (by simp) ?_
  refine AllReadyH.cons rfl (fun K hK => ?_) AllReadyH.nil
  go_simp
  go_wp2_with (go_at_call 8; refine (num9_any E _).mono ?_; rintro e w5 ⟨rfl, rfl⟩)
  refine hK.out _ _ hH (fun hH => ?_)
  clear hK K
  refine wpAnyH_take (i := 10) (oi := ⟨some 62, _, _, _, _, _⟩) (v := .bool true) rfl (by kernel_rfl) (by kernel_rfl) (by kernel_rfl) (fun _ _ _ h => h) (Or.inl ⟨by rfl, fun w hSw => by go_simp⟩) hH ?_
  simp only [Act.put, List.setIfInBounds_toArray, List.set_cons_zero, List.set_cons_succ]
  refine wpAnyH_take (i := 11) (oi := ⟨some 63, _, _, _, _, _⟩) (v := .bool true) rfl (by kernel_rfl) (by kernel_rfl) (by kernel_rfl) (fun _ _ _ h => h) (Or.inl ⟨by rfl, fun w hSw => by go_simp⟩) hH ?_
  simp only [Act.put, List.setIfInBounds_toArray, List.set_cons_zero, List.set_cons_succ]
  refine wpAnyH_ready (rs := [12]) (by kernel_rfl) (by simp) ?_
  refine AllReadyH.cons rfl (fun K hK => ?_) AllReadyH.nil
  refine ifw (by rfl) ?_
  refine op_store_bx 42 _ _ rfl _ [.int .i64 s, .int .i64 p, .int .i64 b, .slice aB lB cB, .slice aD lD cD, .slice aW lW cW, .int .i64 ops, .bool off, .int .i64 after, .slice aT lT cT] rfl rfl (Bx.mk HE.out.1.b3.blk) fl_size rfl rfl ?_
  intro W8 hb8 hg8
  obtain ⟨hce, hpe, hre⟩ := s9_stored HE.out.1 HE.out.2.1 HE.out.2.2.1 HE.out.2.2.2 hg8
  have HF : Hid _ := And.intro hb8 (And.intro hce (And.intro hpe hre))
  have hH8 := grown_trans hH hg8
  clear hb8 hg8 hce hpe hre HE
  refine hK.out _ _ hH8 (fun hH => ?_)
  clear hK K hH8
  refine wpAnyH_take (i := 13) (oi := ⟨some 9, _, _, _, _, _⟩) (v := .bool true) rfl (by kernel_rfl) (by kernel_rfl) (by kernel_rfl) (fun _ _ _ h => h) (Or.inl ⟨by rfl, fun w hSw => by go_simp⟩) hH ?_
  simp only [Act.put, List.setIfInBounds_toArray, List.set_cons_zero, List.set_cons_succ]
  refine wpAnyH_done (by kernel_rfl) ?_ _
  clear hH
  obtain ⟨z0, z1, z2, z3, z4, z5, z6, z7, z8, z9⟩ := flash10 HF.out.1
  go_wp2_with fail
  refine bodyPost_ret (v := .tuple #[.agg #[.int .i64 s, .int .i64 p, .int .i64 b, .slice aB lB cB, .slice aD lD cD, .slice aW lW cW, .int .i64 ops, .bool off, .int .i64 after, .slice aT lT cT], .bool true]) (by simp [results, Tryz.results10, go_sem, z0, z1, z2, z3, z4, z5, z6, z7, z8, z9]) rfl ?_
  exact ⟨_, rfl, HF.out.2.1, HF.out.2.2.1, HF.out.2.2.2⟩
end Go.Proofs.YtfhgbddeclldnaaGreat
