/- keep, over a flash without memory: what becomes of the copies (plain). The page's example (live), num. A plan, a geometry that came in. A record, a failure of power that came in. The walk of KeepNils. -/
import Derived.OpenShut
import Derived.ChangeSame
import Derived.Lib.SmallJoins
import Derived.ProofKit
import Derived.ChangeOld
import Derived.Deep.Slices
import Derived.SizedLaws
import Derived.Test.YtfhgbddeclldnaaN04
import Derived.Test.YtfhgbddeclldnaaN18
namespace Go.Proofs.Ytfhgbddeclldnaa
open Go.RowKit
set_option maxRecDepth 100000
set_option linter.unusedSimpArgs false
set_option linter.unusedVariables false

theorem kda_of {m n : Fm} {i : Nat} (h : kcp n i = kcp m i) : kda n i = kda m i := by unfold kda; rw [h]
/-- Write, where the power is on: the other copy stays -/
structure KwF (m : Fm) (k : Nat) (i : Nat) (r : Rc) (q : Fm × Int) : Prop where
  like : Like m q.1
  good : q.1.Good (k + 2)
  other : kda q.1 (1 - i) = kda m (1 - i)
  how : (q.2 = 40 ∧ q.1.off = true ∧ (m.after = 1 ∨ m.after = 2)) ∨ (q.2 = 0 ∧ q.1.off = false ∧ m.after ≠ 1 ∧ m.after ≠ 2 ∧ q.1.after = (if m.after = 0 then 0 else m.after - 2) ∧ kda q.1 i = (r, 0))
theorem kwr_facts {m : Fm} {P : Pa.Pl} {k : Nat} {i : Nat} {r : Rc} (hg : m.Good k) (hk : kok m P = true) (hi : i < 2) (hr : rrt r = true) (hq : 0 ≤ r.q) (hu : inU r.u) (ho : m.off = false) : KwF m k i r (kwr m P i r) := by
  obtain ⟨-, -, -, -, hs, hb, -, -⟩ := kok_facts hk
  have hgd := good_kwr hg P i r
  have hlk := like_kwr m P i r
  have hj : 1 - i < 2 := by omega
  have hij : i ≠ 1 - i := by omega
  have c1 := cp_erase hg hb hs hi hj hij
  rcases kwr_on hg hk hi hr ho with ⟨ha, e⟩ | ⟨ha, e⟩
  · rw [e] at hgd hlk ⊢
    exact ⟨hlk, hgd, kda_of c1, Or.inl ⟨rfl, decide_eq_true ha, Or.inl ha⟩⟩
  · have hE : (m.erased i).Good (k + 1) := by
      have := Fm.good_erase hg (i : Int)
      unfold Fm.erase at this
      rw [erE_two hg hs hi, ho] at this
      exact this
    have c2 := cp_write (m := m.erased i) hE hb hs hi hj hij (ys := rby r) (by rw [rby_len]; show 32 ≤ m.b; omega)
    have c3 : kda ((m.erased i).written (i * m.p) (rby r)) (1 - i) = kda m (1 - i) := kda_of (c2.trans c1)
    have hl : (m.erased i).after = m.left := rfl
    rw [e] at hgd hlk ⊢
    refine ⟨hlk, hgd, c3, ?_⟩
    by_cases h2 : (m.erased i).after = 1
    · left
      refine ⟨by simp [h2], decide_eq_true h2, Or.inr ?_⟩
      rw [hl] at h2
      unfold Fm.left at h2
      split at h2 <;> omega
    · right
      have ht := cp_written (m := m.erased i) hE hb hs hi (ys := rby r) (rby_len r) h2
      have ho2 : ((m.erased i).written (i * m.p) (rby r)).off = false := decide_eq_false h2
      refine ⟨by simp [h2], ho2, ha, ?_, ?_, ?_⟩
      · intro h
        apply h2
        rw [hl]
        unfold Fm.left
        rw [if_neg (by omega)]
        omega
      · show (m.erased i).left = _
        unfold Fm.left
        rw [hl]
        unfold Fm.left
        by_cases h0 : m.after = 0
        · rw [if_pos h0, if_pos rfl, if_pos h0]
        · rw [if_neg h0, if_neg h0, if_neg (by omega)]
          omega
      · unfold kda
        rw [show kcp ((m.erased i).written (i * m.p) (rby r)) i = rby r from ht]
        exact rde_rby0 hr hq hu
/-- one of the two writes, where no failure is ahead -/
theorem kon_calm {m n : Fm} {P : Pa.Pl} {k : Nat} {i : Nat} {r : Rc} {all : Bool} (hg : n.Good k) (hk : kok n P = true) (hi : i < 2) (hr : rrt r = true) (hq : 0 ≤ r.q) (hu : inU r.u) (ho : n.off = false) (ha : n.after = 0) (hm : khs m i r = true → kda n i = (r, 0)) :
    (kon m P r all i n).2 = 0 ∧ Like n (kon m P r all i n).1 ∧ (kon m P r all i n).1.Good (k + 2) ∧ (kon m P r all i n).1.off = false ∧ (kon m P r all i n).1.after = 0 ∧ kda (kon m P r all i n).1 i = (r, 0) ∧ kda (kon m P r all i n).1 (1 - i) = kda n (1 - i) := by
  unfold kon
  split
  · rename_i h
    rw [Bool.and_eq_true] at h
    exact ⟨rfl, Like.refl n, hg.mono (by omega), ho, ha, hm h.2, rfl⟩
  · have f := kwr_facts hg hk hi hr hq hu ho
    rcases f.how with ⟨-, -, h | h⟩ | ⟨h1, h2, -, -, h3, h4⟩
    · omega
    · omega
    · exact ⟨h1, f.like, f.good, h2, by rw [h3, if_pos ha], h4, f.other⟩
/-- both copies tell r -/
def kbo (m : Fm) (r : Rc) : Prop := kda m 0 = (r, 0) ∧ kda m 1 = (r, 0)
theorem khs_iff {m : Fm} {i : Nat} {r : Rc} : khs m i r = true ↔ kda m i = (r, 0) := by
  unfold khs
  rw [Bool.and_eq_true, decide_eq_true_iff, Rc.same_iff]
  constructor
  · rintro ⟨h1, h2⟩; exact Prod.ext h2 h1
  · intro h; rw [h]; exact ⟨rfl, rfl⟩
/-- Switch and Repair, where no failure is ahead -/
theorem krn_calm {m : Fm} {P : Pa.Pl} {k : Nat} {r : Rc} {all : Bool} (hg : m.Good k) (hk : kok m P = true) (hr : rrt r = true) (hq : 0 ≤ r.q) (hu : inU r.u) (ho : m.off = false) (ha : m.after = 0) :
    (krn m P r all).2 = 0 ∧ Like m (krn m P r all).1 ∧ (krn m P r all).1.Good (k + 4) ∧ (krn m P r all).1.off = false ∧ (krn m P r all).1.after = 0 ∧ kbo (krn m P r all).1 r := by
  have hf := kfi_lt m
  obtain ⟨a1, a2, a3, a4, a5, a6, a7⟩ := kon_calm (m := m) (n := m) (all := all) (i := 1 - kfi m) hg hk (by omega) hr hq hu ho ha khs_iff.1
  rw [show 1 - (1 - kfi m) = kfi m by omega] at a7
  unfold krn
  rw [if_neg (by rw [hk, hr]; simp), if_neg (by rw [ho]; simp), if_neg (by rw [a1]; simp)]
  generalize (kon m P r all (1 - kfi m) m).1 = n at *
  obtain ⟨b1, b2, b3, b4, b5, b6, b7⟩ := kon_calm (m := m) (n := n) (all := all) (i := kfi m) a3 (by rw [a2.kok]; exact hk) hf hr hq hu a4 a5 (fun h => a7.trans (khs_iff.1 h))
  refine ⟨b1, a2.trans b2, b3, b4, b5, ?_⟩
  rw [a6] at b7
  obtain h | h : kfi m = 0 ∨ kfi m = 1 := by omega
  · rw [h] at b6 b7 ⊢; exact ⟨b6, b7⟩
  · rw [h] at b6 b7 ⊢; exact ⟨b7, b6⟩
theorem kfi_both {m : Fm} {r : Rc} (h : kbo m r) : kfi m = 0 ∧ kli m = [0, 1] := by
  have h0 : kfi m = 0 := by
    unfold kfi
    rw [if_neg]
    rintro ⟨-, h1 | h1⟩
    · rw [h.1] at h1; exact h1 rfl
    · rw [h.1, h.2] at h1; exact absurd h1 (Int.lt_irrefl _)
  refine ⟨h0, ?_⟩
  unfold kli
  rw [h0]
  simp [h.1, h.2]
/-- a Switch from r to s, with a failure ahead -/
theorem krn_switch {m : Fm} {P : Pa.Pl} {k : Nat} {r s : Rc} (hg : m.Good k) (hk : kok m P = true) (hs : rrt s = true) (hq : 0 ≤ s.q) (hu : inU s.u) (ho : m.off = false) (ha : 1 ≤ m.after) (hb : kbo m r) :
    Like m (krn m P s true).1 ∧ (krn m P s true).1.Good (k + 4) ∧ ((krn m P s true).2 = 0 ∧ 4 < m.after ∧ (krn m P s true).1.off = false ∧ kbo (krn m P s true).1 s ∨ (krn m P s true).2 = 40 ∧ m.after ≤ 4 ∧ (krn m P s true).1.off = true ∧ (kda (krn m P s true).1 0 = (r, 0) ∨ kda (krn m P s true).1 1 = (s, 0))) := by
  have hf := (kfi_both hb).1
  have f1 := kwr_facts (i := 1) hg hk (by omega) hs hq hu ho
  unfold krn
  rw [if_neg (by rw [hk, hs]; simp), if_neg (by rw [ho]; simp), hf]
  have e1 : kon m P s true (1 - 0) m = kwr m P 1 s := rfl
  rw [e1]
  change KwF m k 1 s (kwr m P 1 s) at f1
  rcases f1.how with ⟨h1, h2, h3⟩ | ⟨h1, h2, h3, h4, h5, h6⟩
  · rw [if_pos (by rw [h1]; decide)]
    refine ⟨f1.like, f1.good.mono (by omega), Or.inr ⟨h1, by omega, h2, Or.inl ?_⟩⟩
    exact f1.other.trans hb.1
  · rw [if_neg (by rw [h1]; simp)]
    have e2 : kon m P s true 0 (kwr m P 1 s).1 = kwr (kwr m P 1 s).1 P 0 s := rfl
    rw [e2]
    have f2 := kwr_facts (m := (kwr m P 1 s).1) (P := P) (i := 0) f1.good (by rw [f1.like.kok]; exact hk) (by omega) hs hq hu h2
    change KwF (kwr m P 1 s).1 (k + 2) 0 s (kwr (kwr m P 1 s).1 P 0 s) at f2
    rw [if_neg (by omega)] at h5
    rcases f2.how with ⟨g1, g2, g3⟩ | ⟨g1, g2, g3, g4, g5, g6⟩
    · exact ⟨f1.like.trans f2.like, f2.good, Or.inr ⟨g1, by omega, g2, Or.inr (f2.other.trans h6)⟩⟩
    · exact ⟨f1.like.trans f2.like, f2.good, Or.inl ⟨g1, by omega, g2, g6, f2.other.trans h6⟩⟩
/-- a Repair of what copy i, which comes first, tells, with a failure ahead -/
theorem krn_repair {m : Fm} {P : Pa.Pl} {k : Nat} {r : Rc} (hg : m.Good k) (hk : kok m P = true) (hr : rrt r = true) (hq : 0 ≤ r.q) (hu : inU r.u) (ho : m.off = false) (hd : kda m (kfi m) = (r, 0)) :
    Like m (krn m P r false).1 ∧ (krn m P r false).1.Good (k + 4) ∧ ((krn m P r false).2 = 0 ∨ (krn m P r false).2 = 40) ∧ kda (krn m P r false).1 (kfi m) = (r, 0) := by
  have hf := kfi_lt m
  have e0 : ∀ n, kon m P r false (kfi m) n = (n, 0) := fun n => by unfold kon; rw [if_pos (by rw [khs_iff.2 hd]; rfl)]
  unfold krn
  rw [if_neg (by rw [hk, hr]; simp), if_neg (by rw [ho]; simp)]
  have hc : Like m (kon m P r false (1 - kfi m) m).1 ∧ (kon m P r false (1 - kfi m) m).1.Good (k + 4) ∧ ((kon m P r false (1 - kfi m) m).2 = 0 ∨ (kon m P r false (1 - kfi m) m).2 = 40) ∧ kda (kon m P r false (1 - kfi m) m).1 (kfi m) = (r, 0) := by
    unfold kon
    split
    · exact ⟨Like.refl m, hg.mono (by omega), Or.inl rfl, hd⟩
    · have f := kwr_facts (i := 1 - kfi m) hg hk (by omega) hr hq hu ho
      have h := f.other
      rw [show 1 - (1 - kfi m) = kfi m by omega, hd] at h
      refine ⟨f.like, f.good.mono (by omega), ?_, h⟩
      rcases f.how with ⟨h1, -⟩ | ⟨h1, -⟩
      · exact Or.inr h1
      · exact Or.inl h1
  split
  · exact hc
  · rw [e0]
    exact ⟨hc.1, hc.2.1, Or.inl rfl, hc.2.2.2⟩
/-- a Repair of what both tell -/
theorem krn_both {m : Fm} {P : Pa.Pl} {r : Rc} (hk : kok m P = true) (hr : rrt r = true) (ho : m.off = false) (hb : kbo m r) : krn m P r false = (m, 0) := by
  have hf := (kfi_both hb).1
  have e0 : ∀ i n, i < 2 → kon m P r false i n = (n, 0) := fun i n hi => by
    unfold kon
    rw [if_pos]
    obtain rfl | rfl : i = 0 ∨ i = 1 := by omega
    · rw [khs_iff.2 hb.1]; rfl
    · rw [khs_iff.2 hb.2]; rfl
  unfold krn
  rw [if_neg (by rw [hk, hr]; simp), if_neg (by rw [ho]; simp), hf, e0 _ _ (by omega), if_neg (by simp), e0 _ _ (by omega)]
end Go.Proofs.Ytfhgbddeclldnaa

namespace Go.Proofs.Ytfhgbddeclldnaa
open Go.RowKit
set_option maxRecDepth 100000
set_option linter.unusedSimpArgs false
set_option linter.unusedVariables false

theorem num9_any (x : Int) (w : World) : Calls Try.prog 10 #[.int .i64 x] w fun e w' => e = .returned (.int .i64 x) ∧ w = w' := by
  go_enter Try.func10, Try.ntmps10
  go_wp2
  go_ret
  exact ⟨rfl, rfl⟩
/-- the program's flash, made behind w -/
structure Fs (w W : World) (fb bb db wb : Nat) (m : Fm) (G : Nat → Prop) : Prop where
  rep : PRep W fb bb db wb m G
  gr : w.grownBy W none
  ft : ∀ k, foot fb bb db wb k → w.heap.size ≤ k
theorem Fs.kept {w W W' : World} {fb bb db wb : Nat} {m : Fm} {G : Nat → Prop} (h : Fs w W fb bb db wb m G) (k : W.grownBy W' none) : Fs w W' fb bb db wb m G := ⟨h.rep.grown k, grown_trans h.gr k, h.ft⟩
theorem Fs.call {w W W' : World} {fb bb db wb : Nat} {m m' : Fm} {G : Nat → Prop} (h : Fs w W fb bb db wb m G) (k : Chg (foot fb bb db wb) W W') (r : PRep W' fb bb db wb m' G) : Fs w W' fb bb db wb m' G :=
  ⟨r, ⟨k.os.trans h.gr.os, k.tape.trans h.gr.tape, k.output.trans h.gr.output, Nat.le_trans h.gr.size k.size, fun x hx _ => (k.block x (Nat.lt_of_lt_of_le hx h.gr.size) (fun y => by have := h.ft x y; omega)).trans (h.gr.block x hx (by simp))⟩, h.ft⟩
def plL : Pa.Pl := ⟨4, 1, 64, 0, 1, 2, 3, 1⟩
def rcL : Rc := ⟨1, 0, 5, 9⟩
def mK0 : Fm := Fm.new 4 1 64
theorem mkL : Pa.mk 4 1 64 = (plL, 0) := by kernel_rfl
theorem plL_ok : plL.ok := by unfold plL Pa.Pl.ok Pa.bnd64; simp
theorem rcL_ok : rcL.ok := by unfold rcL Rc.ok inU in64; simp
theorem kokL : kok mK0 plL = true := by kernel_rfl
theorem kloL : klo mK0 plL = ([], 0) := by
  have h0 : (kda mK0 0).2 = 6 := by kernel_rfl
  have h1 : (kda mK0 1).2 = 6 := by kernel_rfl
  unfold klo
  rw [kokL, if_neg (by simp), if_neg (by decide)]
  rcases load_cases mK0 with ⟨-, -, -, h⟩ | ⟨h, -⟩ | ⟨h, -⟩
  · rw [h]
  · rw [h0] at h; exact absurd h (by decide)
  · rw [h1] at h; exact absurd h (by decide)
theorem goodL : mK0.Good 0 := Fm.good_new (by decide) (by decide) (by decide)
theorem swL : (krn mK0 plL rcL true).2 = 0 ∧ (krn mK0 plL rcL true).1.Good 4 ∧ klo (krn mK0 plL rcL true).1 plL = ([0, 1], 0) ∧ kbo (krn mK0 plL rcL true).1 rcL := by
  obtain ⟨h1, h2, h3, h4, h5, h6⟩ := krn_calm (all := true) goodL kokL (r := rcL) (by kernel_rfl) (by decide) (by unfold inU rcL; simp) rfl rfl
  refine ⟨h1, h3, ?_, h6⟩
  unfold klo
  rw [h2.kok, kokL, if_neg (by simp), h4, if_neg (by simp), (kfi_both h6).2]
set_option maxHeartbeats 2000000 in
theorem live9_any (w : World) : Calls Try.prog 8 #[] w fun e w' => e = .returned (.bool true) ∧ w.grownBy w' none := by
  have hm := Pa.make_any 4 1 64 w (by omega) (by omega) (by omega)
  rw [mkL] at hm
  have hnw := fun W => prep_new 4 1 64 W (fun _ => False) (by decide) (by decide) (by decide)
  obtain ⟨s1, s2, s3, s4⟩ := swL
  have hld0 := fun W fb bb db wb (h : PRep W fb bb db wb mK0 (fun _ => False)) => pload_any h goodL plL plL_ok
  have hsw := fun W fb bb db wb (h : PRep W fb bb db wb mK0 (fun _ => False)) => pswitch_any h goodL (by decide) plL plL_ok rcL rcL_ok
  have hld1 := fun W fb bb db wb (h : PRep W fb bb db wb (krn mK0 plL rcL true).1 (fun _ => False)) => pload_any h s2 plL plL_ok
  unfold LdPost at hld0 hld1
  unfold PkPost at hsw
  rw [kloL] at hld0
  rw [s3] at hld1
  rw [s1] at hsw
  have HB : Hid _ := s4
  clear s1 s2 s3 s4
  generalize (krn mK0 plL rcL true).1 = m1 at *
  have HNW : Hid (∀ W, Calls Try.prog 9 #[.agg #[.int .i64 4, .int .i64 1, .int .i64 64]] W fun e w' => ∃ fb bb db wb, e = .returned (.tuple #[.pointer (some ⟨fb, 0, none⟩), .int .i64 0]) ∧ W.grownBy w' none ∧ PRep w' fb bb db wb mK0 (fun _ => False) ∧ (∀ k, foot fb bb db wb k → W.heap.size ≤ k)) := hnw
  clear hnw
  simp only [plL, Pa.Pl.val, rcL, Rc.val] at hm hld0 hld1 hsw
  go_enter Try.func8, Try.ntmps8
  go_wp2_with fail
  refine hm.mono ?_
  rintro e w1 ⟨rfl, g1⟩
  clear hm
  have hB := Bx.new w1 32 [.int .i64 4, .int .i64 1, .int .i64 64, .int .i64 0, .int .i64 1, .int .i64 2, .int .i64 3, .int .i64 1]
  have HW1 : Hid _ := And.intro hB (grown_trans g1 (World.grownBy_alloc w1 (.cells #[.int .i64 4, .int .i64 1, .int .i64 64, .int .i64 0, .int .i64 1, .int .i64 2, .int .i64 3, .int .i64 1] 32) none))
  clear hB g1
  simp only
  go_wp2_with fail
  generalize w1.alloc (.cells #[.int .i64 4, .int .i64 1, .int .i64 64, .int .i64 0, .int .i64 1, .int .i64 2, .int .i64 3, .int .i64 1] 32) = W1 at *
  generalize w1.heap.size = gp at *
  refine (HNW.out _).mono ?_
  rintro e w2 ⟨fb, bb, db, wb, rfl, g2, hP2, hF2⟩
  have HF : Hid (Fs W1 w2 fb bb db wb mK0 (fun _ => False)) := ⟨hP2, g2, hF2⟩
  clear g2 hP2 hF2 HNW
  obtain ⟨p0, p1, p2, p3, p4, p5, p6, p7⟩ := plan8 (s := 4) (p := 1) (b := 64) (x0 := 0) (x1 := 1) (y0 := 2) (y1 := 3) (n := 1) (HW1.out.1.kept HF.out.gr)
  simp only
  go_wp2_with (first | (go_at_call 10; with_reducible refine (num9_any _ _).mono ?_; rintro e w' ⟨rfl, rfl⟩))
  refine (hld0 _ _ _ _ _ HF.out.rep).mono ?_
  rintro e w3 ⟨g3, aL, nL, cL, aX, nX, cX, rfl, hnl, hnx, hfl, hfx, hls⟩
  have hn0 := hls.nL
  simp only [List.length_nil] at hn0
  subst hn0
  have HF3 : Hid _ := HF.out.kept g3
  clear hnl hnx hfl hfx hls g3 HF p0 p1 p2 p3 p4 p5 p6 p7 hld0
  obtain ⟨p0, p1, p2, p3, p4, p5, p6, p7⟩ := plan8 (s := 4) (p := 1) (b := 64) (x0 := 0) (x1 := 1) (y0 := 2) (y1 := 3) (n := 1) (HW1.out.1.kept HF3.out.gr)
  simp only
  go_wp2_with fail
  refine (hsw _ _ _ _ _ HF3.out.rep).mono ?_
  rintro e w4 ⟨rfl, hC4, hP4⟩
  have HF4 : Hid _ := HF3.out.call hC4 hP4
  clear hC4 hP4 HF3 p0 p1 p2 p3 p4 p5 p6 p7 hsw
  obtain ⟨p0, p1, p2, p3, p4, p5, p6, p7⟩ := plan8 (s := 4) (p := 1) (b := 64) (x0 := 0) (x1 := 1) (y0 := 2) (y1 := 3) (n := 1) (HW1.out.1.kept HF4.out.gr)
  simp only
  go_wp2_with fail
  refine (hld1 _ _ _ _ _ HF4.out.rep).mono ?_
  rintro e w5 ⟨g5, aM, nM, cM, aY, nY, cY, rfl, hnl, hnx, hfl, hfx, hls⟩
  have hn1 := hls.nL
  have hn2 := hls.nW
  simp only [List.length_cons, List.length_nil] at hn1 hn2
  subst hn1 hn2
  obtain ⟨b, o, rfl, -, -, -, l0⟩ := hls.rs 0 0 rfl
  obtain ⟨b', o', e', -, -, -, l1⟩ := hls.rs 1 1 rfl
  injection e' with e'
  injection e' with e1 e2
  subst e1 e2
  rw [HB.out.1] at l0
  rw [HB.out.2] at l1
  simp only [rcL, Nat.mul_zero, Nat.mul_one, Nat.add_zero] at l0 l1
  have HF5 : Hid _ := grown_trans HW1.out.2 (HF4.out.kept g5).gr
  clear hnl hnx hfl hfx hls g5 HF4 p0 p1 p2 p3 p4 p5 p6 p7 hld1 HB HW1
  simp only
  go_wp2_with (first | (go_at_call 10; with_reducible refine (num9_any _ _).mono ?_; rintro e w' ⟨rfl, rfl⟩))
  go_ret
  exact ⟨rfl, HF5.out⟩
end Go.Proofs.Ytfhgbddeclldnaa

namespace Go.Proofs.Ytfhgbddeclldnaa.Pa
open Go.RowKit Go.ChangeShapes Go.WideShapes Go.ChangeAt Go.Joins
set_option maxRecDepth 100000
set_option linter.unusedSimpArgs false
set_option linter.unusedVariables false

theorem bnd_wf {x : Int} (h : (Lit.int .i64 x).wf = true) : bnd64 x := wf_i64 h
theorem trod_two {H : Type} {enc : TypeId × Value → H} {w : World} {base : Nat} {spare : Nat → Bool} {held : Bool} {fuel : Nat} {cs : List Value} {x : DataW H × List MemPlace} (h : DataW.trod enc Try.prog w base spare held fuel 30 cs = some x) :
    ∃ a b, cs = [.int .i64 a, .int .i64 b] ∧ bnd64 a ∧ bnd64 b := by
  obtain ⟨xs, m, _, _, hl, hn, hi⟩ := DataW.trod_array Try.underlying30 h
  rw [Try.cz2] at hl
  match cs, hl with
  | [c, d], _ =>
    have h0 := hi 0 (by decide)
    have h1 := hi 1 (by decide)
    rw [Try.cz3] at h0 h1
    obtain ⟨y0, e0⟩ : ∃ y, xs[0]? = some y := ⟨_, List.getElem?_eq_getElem (by omega)⟩
    obtain ⟨y1, e1⟩ : ∃ y, xs[1]? = some y := ⟨_, List.getElem?_eq_getElem (by omega)⟩
    rw [e0] at h0
    rw [e1] at h1
    simp at h0 h1
    obtain ⟨a, ea, _, wa⟩ := DataW.trod_int Try.underlying3 h0
    obtain ⟨b, eb, _, wb⟩ := DataW.trod_int Try.underlying3 h1
    simp at ea eb
    subst ea eb
    exact ⟨a, b, rfl, bnd_wf wa, bnd_wf wb⟩
theorem trod_geo {H : Type} {enc : TypeId × Value → H} {w : World} {base : Nat} {spare : Nat → Bool} {held : Bool} {fuel : Nat} {cs : List Value} {x : DataW H × List MemPlace} (h : DataW.trod enc Try.prog w base spare held fuel 23 cs = some x) :
    ∃ s p b, cs = [.int .i64 s, .int .i64 p, .int .i64 b] ∧ bnd64 s ∧ bnd64 p ∧ bnd64 b := by
  obtain ⟨y0, y1, y2, n, _, hl, h0, h1, h2⟩ := Deep.trod_struct3 Try.underlying23 h
  rw [Try.czG] at hl
  match cs, hl with
  | [c, d, e], _ =>
    simp [Try.cz3] at h0 h1 h2
    obtain ⟨a, ea, _, wa⟩ := DataW.trod_int Try.underlying3 h0
    obtain ⟨b, eb, _, wb⟩ := DataW.trod_int Try.underlying3 h1
    obtain ⟨g, eg, _, wg⟩ := DataW.trod_int Try.underlying3 h2
    simp at ea eb eg
    subst ea eb eg
    exact ⟨a, b, g, rfl, bnd_wf wa, bnd_wf wb, bnd_wf wg⟩
theorem trod_plan {H : Type} {enc : TypeId × Value → H} {w : World} {base : Nat} {spare : Nat → Bool} {held : Bool} {fuel : Nat} {cs : List Value} {x : DataW H × List MemPlace} (h : DataW.trod enc Try.prog w base spare held fuel 32 cs = some x) :
    ∃ P : Pl, cs = P.cells ∧ P.ok := by
  obtain ⟨y0, y1, y2, y3, n, _, hl, h0, h1, h2, h3⟩ := trod_struct4 Try.underlying32 h
  rw [Try.czP] at hl
  match cs, hl with
  | [c0, c1, c2, c3, c4, c5, c6, c7], _ =>
    simp [Try.cz3, Try.cz2, Try.czG] at h0 h1 h2 h3
    obtain ⟨s, p, b, e0, k0, k1, k2⟩ := trod_geo h0
    obtain ⟨x0, x1, e1, k3, k4⟩ := trod_two h1
    obtain ⟨z0, z1, e2, k5, k6⟩ := trod_two h2
    obtain ⟨n, e3, _, k7⟩ := DataW.trod_int Try.underlying3 h3
    simp at e0 e1 e2 e3
    obtain ⟨rfl, rfl, rfl⟩ := e0
    obtain ⟨rfl, rfl⟩ := e1
    obtain ⟨rfl, rfl⟩ := e2
    subst e3
    exact ⟨⟨s, p, b, x0, x1, z0, z1, n⟩, rfl, k0, k1, k2, k3, k4, k5, k6, bnd_wf k7⟩
theorem open_plan {H : Type} {enc : TypeId × Value → H} {w : World} {base : Nat} {spare : Nat → Bool} {held : Bool} {r : Reach} {b0 : Nat} {v : Value} {d : DataW H} {ps : List MemPlace} (hv : Value.okWide Try.prog w r b0 32 v) (h : DataW.Trod enc Try.prog w base spare held 32 v d ps) :
    ∃ P : Pl, v = P.val ∧ P.ok := by
  obtain ⟨cs, rfl, hsz⟩ := okWide_struct Try.underlying32 hv
  obtain ⟨fuel, hf⟩ := h
  obtain ⟨P, e, k⟩ := trod_plan hf
  refine ⟨P, ?_, k⟩
  have e' : cs = P.cells.toArray := by
    apply Array.ext'
    simpa [Value.cells] using e
  rw [e']
  rfl
theorem open_geo {H : Type} {enc : TypeId × Value → H} {w : World} {base : Nat} {spare : Nat → Bool} {held : Bool} {r : Reach} {b0 : Nat} {v : Value} {d : DataW H} {ps : List MemPlace} (hv : Value.okWide Try.prog w r b0 23 v) (h : DataW.Trod enc Try.prog w base spare held 23 v d ps) :
    ∃ s p b, v = .agg #[.int .i64 s, .int .i64 p, .int .i64 b] ∧ bnd64 s ∧ bnd64 p ∧ bnd64 b := by
  obtain ⟨cs, rfl, hsz⟩ := okWide_struct Try.underlying23 hv
  obtain ⟨fuel, hf⟩ := h
  obtain ⟨s, p, b, e, k⟩ := trod_geo hf
  refine ⟨s, p, b, ?_, k⟩
  have e' : cs = #[.int .i64 s, .int .i64 p, .int .i64 b] := by
    apply Array.ext'
    simpa [Value.cells] using e
  rw [e']
end Go.Proofs.Ytfhgbddeclldnaa.Pa

namespace Go.Proofs.Ytfhgbddeclldnaa
open Go.ChangeShapes Go.WideShapes Go.RowKit Go.Joins
set_option maxRecDepth 100000
set_option linter.unusedVariables false
set_option linter.unusedSimpArgs false

theorem Try.cb5 : Try.prog.cellsOf 5 = 1 := by kernel_rfl
theorem Try.cbB : Try.prog.cellsOf 27 = 1 := by kernel_rfl
theorem Try.cbC : Try.prog.cellsOf 29 = 2 := by kernel_rfl
theorem bytes59 : Try.prog.bytesOf 5 = 1 := by kernel_rfl
theorem all_mem9 {H : Type} {P : Program} {e : TypeId} : ∀ {l : List (DataW H)} {d : DataW H}, d ∈ l → ∀ n ∈ d.weights P e, n ∈ DataW.weightsAll P e l
  | x :: r, d, hd, n, hn => by
    simp only [DataW.weightsAll, List.mem_append]
    rcases List.mem_cons.1 hd with h | h
    · subst h; exact Or.inl hn
    · exact Or.inr (all_mem9 h n hn)
  | [], d, hd, _, _ => by cases hd
theorem row_sized9 {H : Type} {enc : TypeId × Value → H} {w : World} {fuel : Nat} {v : Value} {x : DataW H × List MemPlace} (h : DataW.trod enc Try.prog w 0 (fun _ => true) true fuel 27 [v] = some x) :
    ∃ a len cap zs, v = .slice a len cap ∧ IsRow .u8 w a len cap zs ∧ ((∀ n ∈ x.1.weights Try.prog 27, n ≤ reachBytes) → len ≤ 140737488355328) := by
  rcases open_ints Try.underlying27 Try.underlying5 Try.cb5 h with ⟨hcs, _⟩ | ⟨y, l, c, zs, hcs, _, hl, hm, hz, hx, hcell, hwz⟩
  · simp at hcs
    exact ⟨none, 0, 0, [], hcs, .inl ⟨rfl, rfl, rfl, rfl⟩, fun _ => Nat.zero_le _⟩
  · simp at hcs hz
    refine ⟨some y, l, c, zs, hcs, .inr ⟨_, rfl, hl, hm, hz, hcell, hwz⟩, fun hw => ?_⟩
    rw [hx] at hw
    have h1 := hw _ (by simp only [DataW.weights, Try.underlying27]; exact List.mem_cons_self)
    rw [bytes59, Nat.mul_one] at h1
    have h2 : (lits (H := H) IntKind.u8 (zs.take l)).length + (lits (H := H) IntKind.u8 (zs.drop l)).length = zs.length := by
      simp [lits]; omega
    rw [h2, hz] at h1
    have := reachBytes_lt
    omega
theorem isRow_nil {w : World} {a : Option Addr} {len cap : Nat} {zs : List Int} (hr : IsRow .u8 w a len cap zs) : a = none → cap = 0 := by
  rcases hr with ⟨_, _, h, _⟩ | ⟨y, e, _⟩
  · exact fun _ => h
  · intro e2; rw [e2] at e; cases e
theorem trod_rec9 {H : Type} {enc : TypeId × Value → H} {w : World} {base : Nat} {spare : Nat → Bool} {held : Bool} {fuel : Nat} {cs : List Value} {x : DataW H × List MemPlace} (h : DataW.trod enc Try.prog w base spare held fuel 26 cs = some x) :
    ∃ r : Rc, cs = r.cells ∧ r.ok := by
  obtain ⟨y0, y1, y2, y3, n, _, hl, h0, h1, h2, h3⟩ := trod_struct4 Try.underlying26 h
  rw [Try.czR] at hl
  match cs, hl with
  | [c0, c1, c2, c3], _ =>
    simp [Try.cz3, Try.czU] at h0 h1 h2 h3
    obtain ⟨q, e0, _, k0⟩ := DataW.trod_int Try.underlying24 h0
    obtain ⟨s, e1, _, k1⟩ := DataW.trod_int Try.underlying3 h1
    obtain ⟨l, e2, _, k2⟩ := DataW.trod_int Try.underlying3 h2
    obtain ⟨u, e3, _, k3⟩ := DataW.trod_int Try.underlying24 h3
    simp at e0 e1 e2 e3
    subst e0 e1 e2 e3
    exact ⟨⟨q, s, l, u⟩, rfl, wf_u64 k0, wf_i64 k1, wf_i64 k2, wf_u64 k3⟩
theorem open_rec9 {H : Type} {enc : TypeId × Value → H} {w : World} {base : Nat} {spare : Nat → Bool} {held : Bool} {r : Reach} {b0 : Nat} {v : Value} {d : DataW H} {ps : List MemPlace} (hv : Value.okWide Try.prog w r b0 26 v) (h : DataW.Trod enc Try.prog w base spare held 26 v d ps) :
    ∃ r : Rc, v = r.val ∧ r.ok := by
  obtain ⟨cs, rfl, hsz⟩ := okWide_struct Try.underlying26 hv
  obtain ⟨fuel, hf⟩ := h
  obtain ⟨r, e, k⟩ := trod_rec9 hf
  refine ⟨r, ?_, k⟩
  have e' : cs = r.cells.toArray := by
    apply Array.ext'
    simpa [Value.cells] using e
  rw [e']
  rfl
/-- a failure of power, out of its reading -/
theorem trod_crash {H : Type} {enc : TypeId × Value → H} {w : World} {fuel : Nat} {cs : List Value} {x : DataW H × List MemPlace} (h : DataW.trod enc Try.prog w 0 (fun _ => true) true fuel 29 cs = some x) :
    ∃ (n : Int) (a : Option Addr) (len cap : Nat) (xs : List Int), cs = [.int .i64 n, .slice a len cap] ∧ in64 n ∧ Row w a len xs ∧ (a = none → cap = 0) ∧ ((∀ n ∈ x.1.weights Try.prog 29, n ≤ reachBytes) → len ≤ 140737488355328) := by
  obtain ⟨y0, y1, m, hx, hl, h0, h1⟩ := trod_struct2 Try.underlying29 h
  rw [Try.cbC] at hl
  match cs, hl with
  | [c0, c1], _ =>
    simp [Try.cz3, Try.cbB] at h0 h1
    obtain ⟨n, e0, _, k0⟩ := DataW.trod_int Try.underlying3 h0
    obtain ⟨a, len, cap, zs, e1, hr, hsz⟩ := row_sized9 h1
    simp at e0
    subst e0 e1
    refine ⟨n, a, len, cap, zs.take len, rfl, wf_i64 k0, hr.row, isRow_nil hr, fun hw => hsz fun k hk => hw k ?_⟩
    rw [hx]
    simp only [DataW.weights, Try.underlying29]
    exact DataW.weights_mem_each (j := 1) (t := 27) (d := y1.1) rfl rfl k hk
theorem open_crash {H : Type} {enc : TypeId × Value → H} {w : World} {r : Reach} {b0 : Nat} {v : Value} {d : DataW H} {ps : List MemPlace} (hv : Value.okWide Try.prog w r b0 29 v) (h : DataW.Trod enc Try.prog w 0 (fun _ => true) true 29 v d ps) :
    ∃ (n : Int) (a : Option Addr) (cap : Nat) (xs : List Int), v = .agg #[.int .i64 n, .slice a xs.length cap] ∧ in64 n ∧ Row w a xs.length xs := by
  obtain ⟨cs, rfl, hsz⟩ := okWide_struct Try.underlying29 hv
  obtain ⟨fuel, hf⟩ := h
  obtain ⟨n, a, len, cap, xs, e, k1, k2, -, -⟩ := trod_crash hf
  obtain rfl := k2.len_eq
  refine ⟨n, a, cap, xs, ?_, k1, k2⟩
  have e' : cs = #[.int .i64 n, .slice a xs.length cap] := by
    apply Array.ext'
    simpa [Value.cells] using e
  rw [e']
end Go.Proofs.Ytfhgbddeclldnaa

namespace Go.Proofs.Ytfhgbddeclldnaa
open Go.RowKit
set_option maxRecDepth 100000
set_option linter.unusedSimpArgs false
set_option linter.unusedVariables false

/-- KeepNils' variables -/
structure Kn (w W : World) (g : Nat) (P : Pa.Pl) (r : Rc) (a b c : Int) : Prop where
  p : Bx W g 32 P.cells
  r : Bx W (g + 1) 26 r.cells
  ge : Bx W (g + 1 + 1) 23 [.int .i64 a, .int .i64 b, .int .i64 c]
  gr : w.grownBy W none
theorem Kn.kept {w W W' : World} {g : Nat} {P : Pa.Pl} {r : Rc} {a b c : Int} (h : Kn w W g P r a b c) (k : W.grownBy W' none) : Kn w W' g P r a b c := ⟨h.p.kept k, h.r.kept k, h.ge.kept k, grown_trans h.gr k⟩
theorem hidKn {w W W' : World} {g : Nat} {P : Pa.Pl} {r : Rc} {a b c : Int} (h : Hid (Kn w W g P r a b c)) (k : W.grownBy W' none) : Hid (Kn w W' g P r a b c) := h.out.kept k
theorem Kn.new (w : World) (P : Pa.Pl) (r : Rc) (a b c : Int) : Kn w (((w.alloc (.cells P.cells.toArray 32)).alloc (.cells r.cells.toArray 26)).alloc (.cells #[.int .i64 a, .int .i64 b, .int .i64 c] 23)) w.heap.size P r a b c := by
  have h1 := Bx.new w 32 P.cells
  have h2 := Bx.new (w.alloc (.cells P.cells.toArray 32)) 26 r.cells
  have h3 := Bx.new ((w.alloc (.cells P.cells.toArray 32)).alloc (.cells r.cells.toArray 26)) 23 [.int .i64 a, .int .i64 b, .int .i64 c]
  simp only [World.size_alloc] at h2 h3
  have a2 := World.grownBy_alloc (w.alloc (.cells P.cells.toArray 32)) (.cells r.cells.toArray 26) none
  have a3 := World.grownBy_alloc ((w.alloc (.cells P.cells.toArray 32)).alloc (.cells r.cells.toArray 26)) (.cells #[.int .i64 a, .int .i64 b, .int .i64 c] 23) none
  exact ⟨(h1.kept a2).kept a3, h2.kept a3, h3, grown_trans (grown_trans (World.grownBy_alloc _ _ _) a2) a3⟩
theorem geo3 {W : World} {g : Nat} {T : TypeId} {x y z : Value} (h : Bx W g T [x, y, z]) : W.cell? ⟨g, 0, none⟩ = some x ∧ W.cell? ⟨g, 1, none⟩ = some y ∧ W.cell? ⟨g, 2, none⟩ = some z := ⟨h.c 0, h.c 1, h.c 2⟩
set_option maxHeartbeats 4000000 in
theorem keepNils_walk (P : Pa.Pl) (i : Int) (r : Rc) (ga gb gc : Int) (w : World) (hP : P.ok) (hi : in64 i) (hr : r.ok) (h1 : Pa.bnd64 ga) (h2 : Pa.bnd64 gb) (h3 : Pa.bnd64 gc) :
    Calls Try.prog 4 #[P.val, .int .i64 i, r.val, .agg #[.int .i64 ga, .int .i64 gb, .int .i64 gc]] w fun e w' => e = .returned (.bool true) ∧ Below w.heap.size w w' := by
  have n1 := fun W => pload_nil P W hP
  have n2 := fun W => pwrite9_nil P i r W hP hi hr
  have n3 := fun W => pswitch_nil P r W hP hr
  have n4 := fun W => prepair_nil P r W hP hr
  have hsm := fun W => small_any ga gb gc W h1 h2 h3
  have hck := fun W => check_any ga gb gc W h1 h2 h3
  have hge := fun W => geo_eql (s := ga) (p := gb) (b := gc) (s' := P.s) (p' := P.p) (b' := P.b) W h1 h2 h3 hP.1 hP.2.1 hP.2.2.1
  have HL : Hid (∀ W : World, Calls Try.prog 8 #[] W fun e w' => e = .returned (.bool true) ∧ W.grownBy w' none) := fun W => live9_any W
  have K0 : Hid (Kn w _ w.heap.size P r ga gb gc) := Kn.new w P r ga gb gc
  have HX : Hid _ := And.intro hP (And.intro hi hr)
  clear hP hi hr h1 h2 h3
  obtain ⟨s, p, b, x0, x1, y0, y1, n⟩ := P
  obtain ⟨rq, rs, rl, ru⟩ := r
  simp only [Pa.Pl.val, Rc.val, Pa.Pl.cells, Rc.cells] at n1 n2 n3 n4 K0 hge ⊢
  go_enter Try.func4, Try.ntmps4
  go_wp2_with fail
  refine (n1 _).mono ?_
  rintro e w1 ⟨rfl, g1⟩
  have K1 := hidKn K0 g1
  clear K0 g1 n1
  generalize w.heap.size = g at *
  obtain ⟨d0, d1, d2, d3, d4, d5, d6, d7⟩ := plan8 K1.out.p
  obtain ⟨r0, r1, r2, r3⟩ := rec4 K1.out.r
  obtain ⟨q0, q1, q2⟩ := geo3 K1.out.ge
  simp only
  go_wp2_with (first | (go_at_call 10; with_reducible refine (num9_any _ _).mono ?_; rintro e w' ⟨rfl, rfl⟩))
  refine (n2 _).mono ?_
  rintro e w2 ⟨rfl, gg⟩
  have K2 := hidKn K1 gg
  clear gg K1 n2 d0 d1 d2 d3 d4 d5 d6 d7 r0 r1 r2 r3 q0 q1 q2
  obtain ⟨d0, d1, d2, d3, d4, d5, d6, d7⟩ := plan8 K2.out.p
  obtain ⟨r0, r1, r2, r3⟩ := rec4 K2.out.r
  obtain ⟨q0, q1, q2⟩ := geo3 K2.out.ge
  simp only
  go_wp2_with (first | (go_at_call 10; with_reducible refine (num9_any _ _).mono ?_; rintro e w' ⟨rfl, rfl⟩))
  refine (n3 _).mono ?_
  rintro e w3 ⟨rfl, gg⟩
  have K3 := hidKn K2 gg
  clear gg K2 n3 d0 d1 d2 d3 d4 d5 d6 d7 r0 r1 r2 r3 q0 q1 q2
  obtain ⟨d0, d1, d2, d3, d4, d5, d6, d7⟩ := plan8 K3.out.p
  obtain ⟨r0, r1, r2, r3⟩ := rec4 K3.out.r
  obtain ⟨q0, q1, q2⟩ := geo3 K3.out.ge
  simp only
  go_wp2_with (first | (go_at_call 10; with_reducible refine (num9_any _ _).mono ?_; rintro e w' ⟨rfl, rfl⟩))
  refine (n4 _).mono ?_
  rintro e w4 ⟨rfl, gg⟩
  have K4 := hidKn K3 gg
  clear gg K3 n4 d0 d1 d2 d3 d4 d5 d6 d7 r0 r1 r2 r3 q0 q1 q2
  obtain ⟨d0, d1, d2, d3, d4, d5, d6, d7⟩ := plan8 K4.out.p
  obtain ⟨r0, r1, r2, r3⟩ := rec4 K4.out.r
  obtain ⟨q0, q1, q2⟩ := geo3 K4.out.ge
  simp only
  go_wp2_with (first | (go_at_call 10; with_reducible refine (num9_any _ _).mono ?_; rintro e w' ⟨rfl, rfl⟩))
  refine (hsm _).mono ?_
  rintro e w5 ⟨rfl, gg⟩
  have K5 := hidKn K4 gg
  clear gg K4 hsm d0 d1 d2 d3 d4 d5 d6 d7 r0 r1 r2 r3 q0 q1 q2
  obtain ⟨d0, d1, d2, d3, d4, d5, d6, d7⟩ := plan8 K5.out.p
  obtain ⟨r0, r1, r2, r3⟩ := rec4 K5.out.r
  obtain ⟨q0, q1, q2⟩ := geo3 K5.out.ge
  simp only
  cases hs0 : sml ga gb gc with
  | false =>
    go_wp2_with (first | (go_at_call 10; with_reducible refine (num9_any _ _).mono ?_; rintro e w' ⟨rfl, rfl⟩) | (go_at_call 8; refine (HL.out _).mono ?_; rintro e wl ⟨rfl, gl⟩; have HF : Hid _ := grown_trans K5.out.gr gl; clear gl))
    go_ret
    exact ⟨rfl, grown_below HF.out⟩
  | true =>
    go_wp2_with (first | (go_at_call 10; with_reducible refine (num9_any _ _).mono ?_; rintro e w' ⟨rfl, rfl⟩))
    refine (hck _).mono ?_
    rintro e w6 ⟨rfl, rfl⟩
    have K6 := hidKn K5 (World.grownBy_alloc w5 (.cells #[.int .i64 ga, .int .i64 gb, .int .i64 gc] 23) none)
    clear K5 hck d0 d1 d2 d3 d4 d5 d6 d7 r0 r1 r2 r3 q0 q1 q2
    have HS0 : Hid _ := hs0
    clear hs0
    generalize w5.alloc (.cells #[.int .i64 ga, .int .i64 gb, .int .i64 gc] 23) = W6 at *
    obtain ⟨d0, d1, d2, d3, d4, d5, d6, d7⟩ := plan8 K6.out.p
    obtain ⟨r0, r1, r2, r3⟩ := rec4 K6.out.r
    obtain ⟨q0, q1, q2⟩ := geo3 K6.out.ge
    simp only
    by_cases hc0 : chk ga gb gc = 0
    · rw [hc0]
      have HC0 : Hid _ := hc0
      clear hc0
      by_cases hg0 : ga = s ∧ gb = p ∧ gc = b
      · have hd : decide (ga = s ∧ gb = p ∧ gc = b) = true := decide_eq_true hg0
        rw [hd] at hge
        clear hd hg0
        go_wp2_with (first | (go_at_call 10; with_reducible refine (num9_any _ _).mono ?_; rintro e w' ⟨rfl, rfl⟩) | (go_at_call 8; refine (HL.out _).mono ?_; rintro e wl ⟨rfl, gl⟩; have HF : Hid _ := grown_trans K6.out.gr gl; clear gl))
        go_ret
        exact ⟨rfl, grown_below HF.out⟩
      · have hd : decide (ga = s ∧ gb = p ∧ gc = b) = false := decide_eq_false hg0
        rw [hd] at hge
        have HG0 : Hid _ := hg0
        clear hd hg0
        obtain ⟨gs, gp, gy, rfl, rfl, rfl, k1, k2, k3⟩ := sml_geo HS0.out HC0.out
        have hko : kok (Fm.new gs gp gy) ⟨s, p, b, x0, x1, y0, y1, n⟩ = false := by
          unfold kok
          rw [decide_eq_false (by intro h; exact HG0.out ⟨h.1.symm, h.2.1.symm, h.2.2.symm⟩), Bool.and_false]
        have hkl : klo (Fm.new gs gp gy) ⟨s, p, b, x0, x1, y0, y1, n⟩ = ([], 1) := by unfold klo; rw [if_pos hko]
        have hkw : kwr (Fm.new gs gp gy) ⟨s, p, b, x0, x1, y0, y1, n⟩ i ⟨rq, rs, rl, ru⟩ = (Fm.new gs gp gy, 1) := kwr_bad (Or.inl hko)
        have hkr : ∀ all, krn (Fm.new gs gp gy) ⟨s, p, b, x0, x1, y0, y1, n⟩ ⟨rq, rs, rl, ru⟩ all = (Fm.new gs gp gy, 1) := fun all => by unfold krn; rw [if_pos (Or.inl hko)]
        have hgd : (Fm.new gs gp gy).Good 0 := Fm.good_new k1 k2 (by omega)
        have hops : (Fm.new gs gp gy).ops = 0 := rfl
        have hnw := fun W => prep_new gs gp gy W (fun _ => False) k1 k2 k3
        have m1 := fun W fb bb db wb (h : PRep W fb bb db wb (Fm.new gs gp gy) (fun _ => False)) => pload_any h hgd ⟨s, p, b, x0, x1, y0, y1, n⟩ HX.out.1
        have m2 := fun W fb bb db wb (h : PRep W fb bb db wb (Fm.new gs gp gy) (fun _ => False)) => pwrite9_any h hgd (by decide) ⟨s, p, b, x0, x1, y0, y1, n⟩ HX.out.1 i HX.out.2.1 ⟨rq, rs, rl, ru⟩ HX.out.2.2
        have m3 := fun W fb bb db wb (h : PRep W fb bb db wb (Fm.new gs gp gy) (fun _ => False)) => pswitch_any h hgd (by decide) ⟨s, p, b, x0, x1, y0, y1, n⟩ HX.out.1 ⟨rq, rs, rl, ru⟩ HX.out.2.2
        have m4 := fun W fb bb db wb (h : PRep W fb bb db wb (Fm.new gs gp gy) (fun _ => False)) => prepair_any h hgd (by decide) ⟨s, p, b, x0, x1, y0, y1, n⟩ HX.out.1 ⟨rq, rs, rl, ru⟩ HX.out.2.2
        have m5 := fun W fb bb db wb (h : PRep W fb bb db wb (Fm.new gs gp gy) (fun _ => False)) => h.ops
        unfold LdPost at m1
        unfold PkPost at m2 m3 m4
        rw [hkl] at m1
        rw [hkw] at m2
        rw [hkr] at m3 m4
        rw [hops] at m5
        clear hkl hkw hkr hops hgd hko k1 k2 k3 HG0 HS0 HC0
        generalize Fm.new gs gp gy = M at *
        generalize (gs : Int) = ga at *
        generalize (gp : Int) = gb at *
        generalize (gy : Int) = gc at *
        simp only [Pa.Pl.val, Rc.val] at m1 m2 m3 m4
        go_wp2_with (first | (go_at_call 10; with_reducible refine (num9_any _ _).mono ?_; rintro e w' ⟨rfl, rfl⟩))
        refine (hnw _).mono ?_
        rintro e w7 ⟨fb, bb, db, wb, rfl, g7, hP7, hF7⟩
        have F7 : Hid (Fs W6 w7 fb bb db wb M (fun _ => False)) := ⟨hP7, g7, hF7⟩
        clear g7 hP7 hF7 hnw d0 d1 d2 d3 d4 d5 d6 d7 r0 r1 r2 r3 q0 q1 q2
        have KK := hidKn K6 F7.out.gr
        obtain ⟨d0, d1, d2, d3, d4, d5, d6, d7⟩ := plan8 KK.out.p
        obtain ⟨r0, r1, r2, r3⟩ := rec4 KK.out.r
        obtain ⟨q0, q1, q2⟩ := geo3 KK.out.ge
        simp only
        go_wp2_with (first | (go_at_call 10; with_reducible refine (num9_any _ _).mono ?_; rintro e w' ⟨rfl, rfl⟩))
        refine (m1 _ _ _ _ _ F7.out.rep).mono ?_
        rintro e w8 ⟨g8, aL, nL, cL, aX, nX, cX, rfl, hnl, hnx, hfl, hfx, hls⟩
        have F8 : Hid _ := F7.out.kept g8
        clear hnl hnx hfl hfx hls g8 F7 KK m1 d0 d1 d2 d3 d4 d5 d6 d7 r0 r1 r2 r3 q0 q1 q2
        have KK := hidKn K6 F8.out.gr
        obtain ⟨d0, d1, d2, d3, d4, d5, d6, d7⟩ := plan8 KK.out.p
        obtain ⟨r0, r1, r2, r3⟩ := rec4 KK.out.r
        obtain ⟨q0, q1, q2⟩ := geo3 KK.out.ge
        simp only
        go_wp2_with (first | (go_at_call 10; with_reducible refine (num9_any _ _).mono ?_; rintro e w' ⟨rfl, rfl⟩))
        refine (m2 _ _ _ _ _ F8.out.rep).mono ?_
        rintro e w9 ⟨rfl, hC, hQ⟩
        have F9 : Hid _ := F8.out.call hC hQ
        clear hC hQ F8 KK m2 d0 d1 d2 d3 d4 d5 d6 d7 r0 r1 r2 r3 q0 q1 q2
        have KK := hidKn K6 F9.out.gr
        obtain ⟨d0, d1, d2, d3, d4, d5, d6, d7⟩ := plan8 KK.out.p
        obtain ⟨r0, r1, r2, r3⟩ := rec4 KK.out.r
        obtain ⟨q0, q1, q2⟩ := geo3 KK.out.ge
        simp only
        go_wp2_with (first | (go_at_call 10; with_reducible refine (num9_any _ _).mono ?_; rintro e w' ⟨rfl, rfl⟩))
        refine (m3 _ _ _ _ _ F9.out.rep).mono ?_
        rintro e w10 ⟨rfl, hC, hQ⟩
        have F10 : Hid _ := F9.out.call hC hQ
        clear hC hQ F9 KK m3 d0 d1 d2 d3 d4 d5 d6 d7 r0 r1 r2 r3 q0 q1 q2
        have KK := hidKn K6 F10.out.gr
        obtain ⟨d0, d1, d2, d3, d4, d5, d6, d7⟩ := plan8 KK.out.p
        obtain ⟨r0, r1, r2, r3⟩ := rec4 KK.out.r
        obtain ⟨q0, q1, q2⟩ := geo3 KK.out.ge
        simp only
        go_wp2_with (first | (go_at_call 10; with_reducible refine (num9_any _ _).mono ?_; rintro e w' ⟨rfl, rfl⟩))
        refine (m4 _ _ _ _ _ F10.out.rep).mono ?_
        rintro e w11 ⟨rfl, hC, hQ⟩
        have F11 : Hid _ := F10.out.call hC hQ
        clear hC hQ F10 KK m4 d0 d1 d2 d3 d4 d5 d6 d7 r0 r1 r2 r3 q0 q1 q2
        have KK := hidKn K6 F11.out.gr
        obtain ⟨d0, d1, d2, d3, d4, d5, d6, d7⟩ := plan8 KK.out.p
        obtain ⟨r0, r1, r2, r3⟩ := rec4 KK.out.r
        obtain ⟨q0, q1, q2⟩ := geo3 KK.out.ge
        simp only
        go_wp2_with (first | (go_at_call 10; with_reducible refine (num9_any _ _).mono ?_; rintro e w' ⟨rfl, rfl⟩))
        refine (m5 _ _ _ _ _ F11.out.rep).mono ?_
        rintro e w12 ⟨rfl, rfl⟩
        simp only
        go_wp2_with (first | (go_at_call 10; with_reducible refine (num9_any _ _).mono ?_; rintro e w' ⟨rfl, rfl⟩) | (go_at_call 8; refine (HL.out _).mono ?_; rintro e wl ⟨rfl, gl⟩; have HF : Hid _ := grown_trans KK.out.gr gl; clear gl))
        go_ret
        exact ⟨rfl, grown_below HF.out⟩
    · have hc1 : (chk ga gb gc == 0) = false := by simpa using hc0
      generalize chk ga gb gc = ce at *
      go_wp2_with (first | (go_at_call 10; with_reducible refine (num9_any _ _).mono ?_; rintro e w' ⟨rfl, rfl⟩) | (go_at_call 8; refine (HL.out _).mono ?_; rintro e wl ⟨rfl, gl⟩; have HF : Hid _ := grown_trans K6.out.gr gl; clear gl))
      go_ret
      exact ⟨rfl, grown_below HF.out⟩
end Go.Proofs.Ytfhgbddeclldnaa
