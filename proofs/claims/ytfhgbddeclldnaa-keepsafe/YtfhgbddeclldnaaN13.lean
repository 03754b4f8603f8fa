/- The program's boot: those that count, in their order. -/
import Derived.Test.YtfhgbddeclldnaaN12
namespace Go.Proofs.Ytfhgbddeclldnaa
open Go.RowKit Go.Proofs.Ytfhgbddeclldnaa.Fi
set_option maxRecDepth 100000
set_option linter.unusedSimpArgs false
set_option linter.unusedVariables false

/-- Order, as a plain function -/
def ror (a b : List Int) : List Int := if (rde a).2 ≠ 0 ∧ (rde b).2 ≠ 0 then [] else if (rde a).2 ≠ 0 ∨ (rde b).2 ≠ 0 then [(rch a b).1] else [(rch a b).1, 1 - (rch a b).1]
/-- an answer of ints -/
def OrPost (w : World) (xs : List Int) (e : Ending) (w' : World) : Prop := ∃ a c, e = .returned (.slice a xs.length c) ∧ (∀ i, i < xs.length → ∃ g o, a = some ⟨g, o, none⟩ ∧ w'.cell? ⟨g, o + i, none⟩ = some (.int .i64 (xs.getD i 0))) ∧ w.grownBy w' none ∧ xs.length ≤ c ∧ ∀ g o, a = some ⟨g, o, none⟩ → w.heap.size ≤ g
theorem or_new (w W : World) (xs : List Int) (T c g n : Nat) (h : w.grownBy W none) (hg : W.heap.size = g) (hn : xs.length = n) (hnc : n ≤ c) : OrPost w xs (.returned (.slice (some ⟨g, 0, none⟩) n c)) (W.alloc (.cells (xs.map fun x => Value.int .i64 x).toArray T)) := by
  subst hg hn
  refine ⟨_, _, rfl, fun i hi => ⟨_, _, rfl, ?_⟩, grown_trans h (World.grownBy_alloc _ _ _), hnc, fun g o e => by (injection e with e; injection e with e1; rw [← e1]; exact h.size)⟩
  have e := (Bx.new W T (xs.map fun x => Value.int .i64 x)).c i
  rw [Nat.zero_add, e]
  simp [List.getElem?_map, List.getD_eq_getElem?_getD, hi]
/-- one of two slices, taken out of an array that is built at once -/
theorem run_pick0 (a b : Option Addr) (n c m d : Nat) (W : World) : (Instr.index 63 (.agg #[.slice a n c, .slice b m d]) (.int .i64 0)).run Try.prog W = .ok (.slice a n c) W := by
  simp [Instr.index, run_underlying Try.underlying63, asIntOf, go_sem]
theorem run_pick1 (a b : Option Addr) (n c m d : Nat) (W : World) : (Instr.index 63 (.agg #[.slice a n c, .slice b m d]) (.int .i64 1)).run Try.prog W = .ok (.slice b m d) W := by
  simp [Instr.index, run_underlying Try.underlying63, asIntOf, go_sem]
/-- what Choose tells, case by case -/
theorem rch_cases (a b : List Int) : ((rde a).2 ≠ 0 ∧ (rde b).2 ≠ 0 ∧ rch a b = (0, rc0, 4) ∧ ror a b = [])
    ∨ ((rde a).2 ≠ 0 ∧ (rde b).2 = 0 ∧ rch a b = (1, (rde b).1, 0) ∧ ror a b = [1])
    ∨ ((rde a).2 = 0 ∧ (rde b).2 ≠ 0 ∧ rch a b = (0, (rde a).1, 0) ∧ ror a b = [0])
    ∨ ((rde a).2 = 0 ∧ (rde b).2 = 0 ∧ rch a b = (1, (rde b).1, 0) ∧ ror a b = [1, 0])
    ∨ ((rde a).2 = 0 ∧ (rde b).2 = 0 ∧ rch a b = (0, (rde a).1, 0) ∧ ror a b = [0, 1]) := by
  unfold ror rch
  by_cases h1 : (rde a).2 = 0 <;> by_cases h2 : (rde b).2 = 0 <;> by_cases h3 : (rde a).1.q < (rde b).1.q <;> simp [h1, h2, h3]
set_option maxHeartbeats 2000000 in
theorem porder_none (a : Option Addr) (len cap : Nat) (xs : List Int) (b : Option Addr) (len2 cap2 : Nat) (ys : List Int) (w : World) (R : Row w a len xs) (hnc : len ≤ cap) (hcm : cap ≤ maxLen) (hl : len ≤ 1048576) (R2 : Row w b len2 ys) (hnc2 : len2 ≤ cap2) (hcm2 : cap2 ≤ maxLen) (hl2 : len2 ≤ 1048576) (hc : rch xs ys = (0, rc0, 4))  :
    Calls Try.prog 29 #[.slice a len cap, .slice b len2 cap2] w (OrPost w []) := by
  have h1 := pchoose_any a len cap xs b len2 cap2 ys w R hnc hcm hl R2 hnc2 hcm2 hl2
  rw [hc] at h1
  clear hc
  simp only [Rc.val, rc0] at *
  go_enter Try.func29, Try.ntmps29
  go_wp2_with fail
  refine h1.mono ?_
  rintro e w1 ⟨rfl, g1⟩
  have HG : Hid _ := grown_trans g1 (World.grownBy_alloc w1 (.cells #[.int .u64 0, .int .i64 0, .int .i64 0, .int .u64 0] 26) none)
  clear h1 g1 R R2
  go_wp2
  go_ret
  exact ⟨_, _, rfl, fun i hi => absurd hi (by simp), HG.out, Nat.le_refl _, fun _ _ e => by cases e⟩
set_option maxHeartbeats 2000000 in
theorem porder_1 (a : Option Addr) (len cap : Nat) (xs : List Int) (b : Option Addr) (len2 cap2 : Nat) (ys : List Int) (w : World) (R : Row w a len xs) (hnc : len ≤ cap) (hcm : cap ≤ maxLen) (hl : len ≤ 1048576) (R2 : Row w b len2 ys) (hnc2 : len2 ≤ cap2) (hcm2 : cap2 ≤ maxLen) (hl2 : len2 ≤ 1048576) (hc : rch xs ys = (1, (rde ys).1, 0)) (HE : (rde xs).2 = 6) :
    Calls Try.prog 29 #[.slice a len cap, .slice b len2 cap2] w (OrPost w [1]) := by
  have h1 := pchoose_any a len cap xs b len2 cap2 ys w R hnc hcm hl R2 hnc2 hcm2 hl2
  rw [hc] at h1
  have h2 := fun W (R' : Row W a len xs) => pdecode_any a len cap xs W R' hnc hcm hl
  have HR : Hid _ := R
  rw [HE] at h2
  generalize (rde xs).1 = rz at *
  clear hc R R2
  generalize (rde ys).1 = rk at *
  obtain ⟨q1, s1, l1, u1⟩ := rk
  obtain ⟨q2, s2, l2, u2⟩ := rz
  simp only [Rc.val] at *
  go_enter Try.func29, Try.ntmps29
  go_wp2_with fail
  refine h1.mono ?_
  rintro e w1 ⟨rfl, g1⟩
  have HG : Hid _ := grown_trans g1 (World.grownBy_alloc w1 (.cells #[.int .u64 q1, .int .i64 s1, .int .i64 l1, .int .u64 u1] 26) none)
  clear h1 g1
  have hi0 := run_pick0 b a len2 cap2 len cap
  have hi1 := run_pick1 b a len2 cap2 len cap
  go_wp2_with fail
  clear hi0 hi1
  generalize w1.alloc (.cells #[.int .u64 q1, .int .i64 s1, .int .i64 l1, .int .u64 u1] 26) = W1 at *
  refine (h2 _ (HR.out.grown HG.out)).mono ?_
  rintro e w2 ⟨rfl, g2⟩
  have HG2 : Hid _ := grown_trans (grown_trans HG.out g2) (World.grownBy_alloc w2 (.cells #[.int .u64 q2, .int .i64 s2, .int .i64 l2, .int .u64 u2] 26) none)
  clear h2 g2 HG
  go_wp2
  go_ret
  exact or_new w _ [1] 3 _ _ _ HG2.out (World.size_alloc _ _) rfl (Nat.le_refl _)
set_option maxHeartbeats 2000000 in
theorem porder_0 (a : Option Addr) (len cap : Nat) (xs : List Int) (b : Option Addr) (len2 cap2 : Nat) (ys : List Int) (w : World) (R : Row w a len xs) (hnc : len ≤ cap) (hcm : cap ≤ maxLen) (hl : len ≤ 1048576) (R2 : Row w b len2 ys) (hnc2 : len2 ≤ cap2) (hcm2 : cap2 ≤ maxLen) (hl2 : len2 ≤ 1048576) (hc : rch xs ys = (0, (rde xs).1, 0)) (HE : (rde ys).2 = 6) :
    Calls Try.prog 29 #[.slice a len cap, .slice b len2 cap2] w (OrPost w [0]) := by
  have h1 := pchoose_any a len cap xs b len2 cap2 ys w R hnc hcm hl R2 hnc2 hcm2 hl2
  rw [hc] at h1
  have h2 := fun W (R' : Row W b len2 ys) => pdecode_any b len2 cap2 ys W R' hnc2 hcm2 hl2
  have HR : Hid _ := R2
  rw [HE] at h2
  generalize (rde ys).1 = rz at *
  clear hc R R2
  generalize (rde xs).1 = rk at *
  obtain ⟨q1, s1, l1, u1⟩ := rk
  obtain ⟨q2, s2, l2, u2⟩ := rz
  simp only [Rc.val] at *
  go_enter Try.func29, Try.ntmps29
  go_wp2_with fail
  refine h1.mono ?_
  rintro e w1 ⟨rfl, g1⟩
  have HG : Hid _ := grown_trans g1 (World.grownBy_alloc w1 (.cells #[.int .u64 q1, .int .i64 s1, .int .i64 l1, .int .u64 u1] 26) none)
  clear h1 g1
  have hi0 := run_pick0 b a len2 cap2 len cap
  have hi1 := run_pick1 b a len2 cap2 len cap
  go_wp2_with fail
  clear hi0 hi1
  generalize w1.alloc (.cells #[.int .u64 q1, .int .i64 s1, .int .i64 l1, .int .u64 u1] 26) = W1 at *
  refine (h2 _ (HR.out.grown HG.out)).mono ?_
  rintro e w2 ⟨rfl, g2⟩
  have HG2 : Hid _ := grown_trans (grown_trans HG.out g2) (World.grownBy_alloc w2 (.cells #[.int .u64 q2, .int .i64 s2, .int .i64 l2, .int .u64 u2] 26) none)
  clear h2 g2 HG
  go_wp2
  go_ret
  exact or_new w _ [0] 3 _ _ _ HG2.out (World.size_alloc _ _) rfl (Nat.le_refl _)
set_option maxHeartbeats 2000000 in
theorem porder_10 (a : Option Addr) (len cap : Nat) (xs : List Int) (b : Option Addr) (len2 cap2 : Nat) (ys : List Int) (w : World) (R : Row w a len xs) (hnc : len ≤ cap) (hcm : cap ≤ maxLen) (hl : len ≤ 1048576) (R2 : Row w b len2 ys) (hnc2 : len2 ≤ cap2) (hcm2 : cap2 ≤ maxLen) (hl2 : len2 ≤ 1048576) (hc : rch xs ys = (1, (rde ys).1, 0)) (HE : (rde xs).2 = 0) :
    Calls Try.prog 29 #[.slice a len cap, .slice b len2 cap2] w (OrPost w [1, 0]) := by
  have h1 := pchoose_any a len cap xs b len2 cap2 ys w R hnc hcm hl R2 hnc2 hcm2 hl2
  rw [hc] at h1
  have h2 := fun W (R' : Row W a len xs) => pdecode_any a len cap xs W R' hnc hcm hl
  have HR : Hid _ := R
  rw [HE] at h2
  generalize (rde xs).1 = rz at *
  clear hc R R2
  generalize (rde ys).1 = rk at *
  obtain ⟨q1, s1, l1, u1⟩ := rk
  obtain ⟨q2, s2, l2, u2⟩ := rz
  simp only [Rc.val] at *
  go_enter Try.func29, Try.ntmps29
  go_wp2_with fail
  refine h1.mono ?_
  rintro e w1 ⟨rfl, g1⟩
  have HG : Hid _ := grown_trans g1 (World.grownBy_alloc w1 (.cells #[.int .u64 q1, .int .i64 s1, .int .i64 l1, .int .u64 u1] 26) none)
  clear h1 g1
  have hi0 := run_pick0 b a len2 cap2 len cap
  have hi1 := run_pick1 b a len2 cap2 len cap
  go_wp2_with fail
  clear hi0 hi1
  generalize w1.alloc (.cells #[.int .u64 q1, .int .i64 s1, .int .i64 l1, .int .u64 u1] 26) = W1 at *
  refine (h2 _ (HR.out.grown HG.out)).mono ?_
  rintro e w2 ⟨rfl, g2⟩
  have HG2 : Hid _ := grown_trans (grown_trans HG.out g2) (World.grownBy_alloc w2 (.cells #[.int .u64 q2, .int .i64 s2, .int .i64 l2, .int .u64 u2] 26) none)
  clear h2 g2 HG
  go_wp2
  go_ret
  exact or_new w _ [1, 0] 3 _ _ _ HG2.out (World.size_alloc _ _) rfl (Nat.le_refl _)
set_option maxHeartbeats 2000000 in
theorem porder_01 (a : Option Addr) (len cap : Nat) (xs : List Int) (b : Option Addr) (len2 cap2 : Nat) (ys : List Int) (w : World) (R : Row w a len xs) (hnc : len ≤ cap) (hcm : cap ≤ maxLen) (hl : len ≤ 1048576) (R2 : Row w b len2 ys) (hnc2 : len2 ≤ cap2) (hcm2 : cap2 ≤ maxLen) (hl2 : len2 ≤ 1048576) (hc : rch xs ys = (0, (rde xs).1, 0)) (HE : (rde ys).2 = 0) :
    Calls Try.prog 29 #[.slice a len cap, .slice b len2 cap2] w (OrPost w [0, 1]) := by
  have h1 := pchoose_any a len cap xs b len2 cap2 ys w R hnc hcm hl R2 hnc2 hcm2 hl2
  rw [hc] at h1
  have h2 := fun W (R' : Row W b len2 ys) => pdecode_any b len2 cap2 ys W R' hnc2 hcm2 hl2
  have HR : Hid _ := R2
  rw [HE] at h2
  generalize (rde ys).1 = rz at *
  clear hc R R2
  generalize (rde xs).1 = rk at *
  obtain ⟨q1, s1, l1, u1⟩ := rk
  obtain ⟨q2, s2, l2, u2⟩ := rz
  simp only [Rc.val] at *
  go_enter Try.func29, Try.ntmps29
  go_wp2_with fail
  refine h1.mono ?_
  rintro e w1 ⟨rfl, g1⟩
  have HG : Hid _ := grown_trans g1 (World.grownBy_alloc w1 (.cells #[.int .u64 q1, .int .i64 s1, .int .i64 l1, .int .u64 u1] 26) none)
  clear h1 g1
  have hi0 := run_pick0 b a len2 cap2 len cap
  have hi1 := run_pick1 b a len2 cap2 len cap
  go_wp2_with fail
  clear hi0 hi1
  generalize w1.alloc (.cells #[.int .u64 q1, .int .i64 s1, .int .i64 l1, .int .u64 u1] 26) = W1 at *
  refine (h2 _ (HR.out.grown HG.out)).mono ?_
  rintro e w2 ⟨rfl, g2⟩
  have HG2 : Hid _ := grown_trans (grown_trans HG.out g2) (World.grownBy_alloc w2 (.cells #[.int .u64 q2, .int .i64 s2, .int .i64 l2, .int .u64 u2] 26) none)
  clear h2 g2 HG
  go_wp2
  go_ret
  exact or_new w _ [0, 1] 3 _ _ _ HG2.out (World.size_alloc _ _) rfl (Nat.le_refl _)
theorem porder_any (a : Option Addr) (len cap : Nat) (xs : List Int) (b : Option Addr) (len2 cap2 : Nat) (ys : List Int) (w : World) (R : Row w a len xs) (hnc : len ≤ cap) (hcm : cap ≤ maxLen) (hl : len ≤ 1048576) (R2 : Row w b len2 ys) (hnc2 : len2 ≤ cap2) (hcm2 : cap2 ≤ maxLen) (hl2 : len2 ≤ 1048576) :
    Calls Try.prog 29 #[.slice a len cap, .slice b len2 cap2] w (OrPost w (ror xs ys)) := by
  have e1 := rde_err xs
  have e2 := rde_err ys
  rcases rch_cases xs ys with ⟨h1, h2, hc, ho⟩ | ⟨h1, h2, hc, ho⟩ | ⟨h1, h2, hc, ho⟩ | ⟨h1, h2, hc, ho⟩ | ⟨h1, h2, hc, ho⟩ <;> rw [ho]
  · exact porder_none a len cap xs b len2 cap2 ys w R hnc hcm hl R2 hnc2 hcm2 hl2 hc
  · exact porder_1 a len cap xs b len2 cap2 ys w R hnc hcm hl R2 hnc2 hcm2 hl2 hc (by omega)
  · exact porder_0 a len cap xs b len2 cap2 ys w R hnc hcm hl R2 hnc2 hcm2 hl2 hc (by omega)
  · exact porder_10 a len cap xs b len2 cap2 ys w R hnc hcm hl R2 hnc2 hcm2 hl2 hc h1
  · exact porder_01 a len cap xs b len2 cap2 ys w R hnc hcm hl R2 hnc2 hcm2 hl2 hc h2
end Go.Proofs.Ytfhgbddeclldnaa
