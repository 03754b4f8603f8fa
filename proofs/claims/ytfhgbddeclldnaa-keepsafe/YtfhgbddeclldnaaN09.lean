/- What the program's Make calls: flash's Check, how many sectors each slot has, how many bytes a sector. The program's part: what each call answers. The program's keep: is the plan right, and of this flash? A sector's first page. The program's boot: which records are right; the one that follows. Contracts of the reading functions: each returns just what the plain function of the same shape reckons, and memory stands. Contracts of the functions that make memory, and of the law that holds the examples of the page. -/
import Derived.Deep.DrawnRows
import Derived.BigRegion
import Derived.Deep.RegionHeld3
import Derived.Test.YtfhgbddeclldnaaProg
import Derived.WalkLawsBesides
import Derived.Deep.QuietTactic
import Derived.BigQuiet
import Derived.Test.YtfhgbddeclldnaaN01
import Derived.Test.YtfhgbddeclldnaaN03
import Derived.Test.YtfhgbddeclldnaaN04
import Derived.Test.YtfhgbddeclldnaaN08
namespace Go.Proofs.Ytfhgbddeclldnaa.Pa
open Go.RowKit
set_option maxRecDepth 100000
set_option linter.unusedSimpArgs false
set_option linter.unusedVariables false

theorem within_any (n lo hi : Int) (w : World) : Calls Try.prog 35 #[.int .i64 n, .int .i64 lo, .int .i64 hi] w fun e w' => e = .returned (.bool (decide (lo ≤ n ∧ n ≤ hi))) ∧ w = w' := by
  by_cases h1 : lo ≤ n
  · have hd : decide (lo ≤ n ∧ n ≤ hi) = decide (n ≤ hi) := by simp [h1]
    rw [hd]
    go_enter Try.func35, Try.ntmps35
    go_wp2
    go_ret
    exact ⟨rfl, rfl⟩
  · have hd : decide (lo ≤ n ∧ n ≤ hi) = false := by simp [h1]
    rw [hd]
    go_enter Try.func35, Try.ntmps35
    go_wp2
    go_ret
    exact ⟨rfl, rfl⟩
theorem quo_iff {q b : Int} (hb : 0 < b) : Int.tdiv 16777216 b < q ↔ 16777216 < q * b := by
  rw [Int.tdiv_eq_ediv_of_nonneg (by decide)]
  exact Int.ediv_lt_iff_lt_mul hb
theorem drewNG (w : World) (n : Nat) : w.grownBy (w.drewN n) none := ⟨by simp [World.drewN], by simp [World.drewN], by simp [World.drewN], by simp [World.drewN], fun _ _ _ => by simp [World.drewN]⟩
theorem grown_drewN {w w' : World} (h : w.grownBy w' none) (n : Nat) : w.grownBy (w'.drewN n) none := grown_trans h (drewNG w' n)
set_option maxHeartbeats 1000000 in
theorem fcheck_any (s p b : Int) (w : World) :
    Calls Try.prog 21 #[.agg #[.int .i64 s, .int .i64 p, .int .i64 b]] w fun e w' => e = .returned (.int .i64 (chk s p b)) ∧ w.grownBy w' none := by
  have hs : ∀ W, _ := fun W => within_any s 1 4096 W
  have hp : ∀ W, _ := fun W => within_any p 1 1024 W
  have hb : ∀ W, _ := fun W => within_any b 16 65536 W
  by_cases h1 : 1 ≤ s ∧ s ≤ 4096
  · rw [decide_eq_true h1] at hs
    by_cases h2 : 1 ≤ p ∧ p ≤ 1024
    · rw [decide_eq_true h2] at hp
      by_cases h3 : 16 ≤ b ∧ b ≤ 65536
      · rw [decide_eq_true h3] at hb
        obtain ⟨q1, q2, q3⟩ := prod_in (s := s) (p := p) (b := b) (by omega) (by omega) (by omega) (by omega) (by omega) (by omega)
        have hq := quo_iff (q := s * p) (b := b) (by omega)
        have hb0 : ¬ b = 0 := by omega
        have hb1 : (b == 0) = false := by simpa using hb0
        have e : chk s p b = if 16777216 < s * p * b then 2 else 0 := by unfold chk; rw [if_neg (by omega)]
        rw [e]
        clear e q2
        have hdv : 0 ≤ Int.tdiv 16777216 b ∧ Int.tdiv 16777216 b ≤ 16777216 := ⟨Int.tdiv_nonneg (by decide) (by omega), by
          rw [Int.tdiv_eq_ediv_of_nonneg (by decide)]; exact Int.ediv_le_self _ (by decide)⟩
        have hw4 : IntKind.i64.wrap (Int.tdiv 16777216 b) = Int.tdiv 16777216 b := by rw [IntKind.wrap_i64]; omega
        by_cases h4 : 16777216 < s * p * b
        · rw [if_pos h4]
          have h5 := hq.2 h4
          clear hq h4
          go_enter Try.func21, Try.ntmps21
          go_wp2_with (first | (go_at_call 35; with_reducible refine (hs _).mono ?_; rintro e w' ⟨rfl, rfl⟩) | (go_at_call 35; with_reducible refine (hp _).mono ?_; rintro e w' ⟨rfl, rfl⟩) | (go_at_call 35; with_reducible refine (hb _).mono ?_; rintro e w' ⟨rfl, rfl⟩))
          go_quiet (fail)
          go_wp2
          go_ret
          exact ⟨rfl, grown_drewN (World.grownBy_alloc _ _ _) _⟩
        · rw [if_neg h4]
          have h5 : ¬ Int.tdiv 16777216 b < s * p := fun x => h4 (hq.1 x)
          clear hq h4
          go_enter Try.func21, Try.ntmps21
          go_wp2_with (first | (go_at_call 35; with_reducible refine (hs _).mono ?_; rintro e w' ⟨rfl, rfl⟩) | (go_at_call 35; with_reducible refine (hp _).mono ?_; rintro e w' ⟨rfl, rfl⟩) | (go_at_call 35; with_reducible refine (hb _).mono ?_; rintro e w' ⟨rfl, rfl⟩))
          go_quiet (fail)
          go_wp2
          go_ret
          exact ⟨rfl, grown_drewN (World.grownBy_alloc _ _ _) _⟩
      · rw [decide_eq_false h3] at hb
        have e : chk s p b = 1 := by unfold chk; rw [if_pos (by omega)]
        rw [e]
        go_enter Try.func21, Try.ntmps21
        go_wp2_with (first | (go_at_call 35; with_reducible refine (hs _).mono ?_; rintro e w' ⟨rfl, rfl⟩) | (go_at_call 35; with_reducible refine (hp _).mono ?_; rintro e w' ⟨rfl, rfl⟩) | (go_at_call 35; with_reducible refine (hb _).mono ?_; rintro e w' ⟨rfl, rfl⟩))
        go_ret
        exact ⟨rfl, World.grownBy_alloc _ _ _⟩
    · rw [decide_eq_false h2] at hp
      have e : chk s p b = 1 := by unfold chk; rw [if_pos (by omega)]
      rw [e]
      go_enter Try.func21, Try.ntmps21
      go_wp2_with (first | (go_at_call 35; with_reducible refine (hs _).mono ?_; rintro e w' ⟨rfl, rfl⟩) | (go_at_call 35; with_reducible refine (hp _).mono ?_; rintro e w' ⟨rfl, rfl⟩))
      go_ret
      exact ⟨rfl, World.grownBy_alloc _ _ _⟩
  · rw [decide_eq_false h1] at hs
    have e : chk s p b = 1 := by unfold chk; rw [if_pos (by omega)]
    rw [e]
    go_enter Try.func21, Try.ntmps21
    go_wp2_with (first | (go_at_call 35; with_reducible refine (hs _).mono ?_; rintro e w' ⟨rfl, rfl⟩))
    go_ret
    exact ⟨rfl, World.grownBy_alloc _ _ _⟩
theorem psb_any (s p b : Int) (w : World) (h2 : 1 ≤ p ∧ p ≤ 1024) (h3 : 16 ≤ b ∧ b ≤ 65536) : Calls Try.prog 72 #[.agg #[.int .i64 s, .int .i64 p, .int .i64 b]] w fun e w' => e = .returned (.int .i64 (p * b)) ∧ w.grownBy w' none := by
  have e1 : p * b ≤ 1024 * 65536 := Int.mul_le_mul h2.2 h3.2 (by omega) (by omega)
  have e0 : 0 ≤ p * b := Int.mul_nonneg (by omega) (by omega)
  have w1 : IntKind.i64.wrap (p * b) = p * b := by rw [IntKind.wrap_i64]; omega
  go_enter Try.func72, Try.ntmps72
  go_wp2
  go_ret
  exact ⟨rfl, World.grownBy_alloc _ _ _⟩
theorem pshare_any (s z : Int) (w : World) (hs : 2 ≤ s ∧ s ≤ 4096) (hz : 1 ≤ z ∧ z ≤ 67108864) : Calls Try.prog 71 #[.int .i64 s, .int .i64 z] w fun e w' => e = .returned (.int .i64 (max 1 (min (s / 2) (8388608 / z)))) ∧ w.grownBy w' none := by
  have hq : Int.tdiv 8388608 z = 8388608 / z := Int.tdiv_eq_ediv_of_nonneg (by decide)
  have hd : Int.tdiv s 2 = s / 2 := Int.tdiv_eq_ediv_of_nonneg (by omega)
  have hqb : 0 ≤ 8388608 / z ∧ 8388608 / z ≤ 8388608 := ⟨Int.ediv_nonneg (by decide) (by omega), Int.ediv_le_self _ (by decide)⟩
  have hz0 : (z == 0) = false := by simp; omega
  generalize 8388608 / z = D at *
  go_enter Try.func71, Try.ntmps71
  go_wp2
  all_goals
    go_ret
    refine ⟨congrArg (fun x => Ending.returned (Value.int IntKind.i64 x)) (?_ : _ = max 1 (min (s / 2) D)), ⟨rfl, rfl, rfl, Nat.le_refl _, fun _ _ _ => rfl⟩⟩
    rename_i k
    clear hq hd hz0
    omega
end Go.Proofs.Ytfhgbddeclldnaa.Pa

namespace Go.Proofs.Ytfhgbddeclldnaa.Pa
open Go.RowKit
set_option maxRecDepth 100000
set_option linter.unusedSimpArgs false
set_option linter.unusedVariables false

def pchk (P : Pl) : Int := if rgt P = true then 0 else 1
def psz (P : Pl) : Int := if rgt P = true then sze P else 0
def pbs (P : Pl) (slot : Int) : Int × Int := if rgt P = false ∨ slot < 0 ∨ 1 < slot then (0, 1) else ((if slot = 0 then P.y0 else P.y1) * P.p * P.b, 0)
def psc (P : Pl) (slot i : Int) : Int × Int := if rgt P = false ∨ slot < 0 ∨ 1 < slot then (0, 1) else if i < 0 ∨ P.n ≤ i then (0, 9) else ((if slot = 0 then P.y0 else P.y1) + i, 0)
def oth (slot : Int) : Int := if slot = 0 then 1 else 0
/-- a guard: the next operation stores a plan -/
theorem plan_here {P : Program} {w : World} {ops : Array Oper} {rest : List Oper} {a : Act} {Q : Exit → Act → World → Prop} {dst : Option Nat} {x y : Operand} {type : TypeId} {pos : String} {after : Array Edge} {guard : Option (Nat × Bool)}
    (h : wpList P ops Q (⟨dst, .store 32 x y, type, pos, after, guard⟩ :: rest) a w) : wpList P ops Q (⟨dst, .store 32 x y, type, pos, after, guard⟩ :: rest) a w := h
theorem setRow_grown (w : World) (g : Nat) (cs : Array Value) : w.grownBy (w.setRow g cs) (some g) := ⟨rfl, rfl, rfl, by simp [World.setRow], fun k _ hk => setRow_other w g k _ (fun e => hk (by rw [e]))⟩
/-- a variable of several cells, stored whole -/
theorem wpList_store_bx {P : Program} {ops : Array Oper} {rest : List Oper} {o : Oper} {a : Act} {w : World} {Q : Exit → Act → World → Prop} (hgd : o.guard = none) (ty : TypeId) (x y : Operand) (ho : o.op = .store ty x y)
    (g : Nat) (cs : List Value) (hx : a.eval x = .pointer (some ⟨g, 0, none⟩)) (hy : a.eval y = .agg cs.toArray) {T : TypeId} {old : List Value} (hb : Bx w g T old) (hi : (P.info? ty).map (·.size) = some cs.length)
    (hl : old.length = cs.length) (h1 : cs.all (·.oneCell') = true)
    (h : ∀ W', Bx W' g T cs → w.grownBy W' (some g) → wpList P ops Q rest (a.put o.dst undef) W') : wpList P ops Q (o :: rest) a w :=
  wpList_store_row hgd ty x y ho g cs.toArray hx hy T old.toArray hb.blk (by rw [List.size_toArray]; exact hi) (by simp [hl]) (by rw [List.all_toArray]; exact h1) (h _ ⟨setRow_heap _ _ _ _ _ _ hb.blk⟩ (setRow_grown w g cs.toArray))
theorem plan_size : (Try.prog.info? 32).map (·.size) = some 8 := by kernel_rfl
theorem bc8 {W : World} {g : Nat} {T : TypeId} {a b c d e f i j : Value} (h : Bx W g T [a, b, c, d, e, f, i, j]) : W.cell? ⟨g, 0, none⟩ = some a ∧ W.cell? ⟨g, 1, none⟩ = some b ∧ W.cell? ⟨g, 2, none⟩ = some c ∧ W.cell? ⟨g, 3, none⟩ = some d ∧ W.cell? ⟨g, 4, none⟩ = some e ∧ W.cell? ⟨g, 5, none⟩ = some f ∧ W.cell? ⟨g, 6, none⟩ = some i ∧ W.cell? ⟨g, 7, none⟩ = some j := ⟨h.c 0, h.c 1, h.c 2, h.c 3, h.c 4, h.c 5, h.c 6, h.c 7⟩
theorem bc3 {W : World} {g : Nat} {T : TypeId} {x y z : Value} (h : Bx W g T [x, y, z]) : W.cell? ⟨g, 0, none⟩ = some x ∧ W.cell? ⟨g, 1, none⟩ = some y ∧ W.cell? ⟨g, 2, none⟩ = some z := ⟨h.c 0, h.c 1, h.c 2⟩
theorem bc2 {W : World} {g : Nat} {T : TypeId} {x y : Value} (h : Bx W g T [x, y]) : W.cell? ⟨g, 0, none⟩ = some x ∧ W.cell? ⟨g, 1, none⟩ = some y := ⟨h.c 0, h.c 1⟩
/-- Make's variables: the geometry, the answer, the boot records -/
structure MkH (s p b : Int) (w w' : World) (g gz gb : Nat) : Prop where
  gr : w.grownBy w' none
  ge : Bx w' g 23 [.int .i64 s, .int .i64 p, .int .i64 b]
  z : Bx w' gz 32 [.int .i64 0, .int .i64 0, .int .i64 0, .int .i64 0, .int .i64 0, .int .i64 0, .int .i64 0, .int .i64 0]
  two : Bx w' gb 30 [.int .i64 0, .int .i64 1]
theorem MkH.kept {s p b : Int} {w w' w2 : World} {g gz gb : Nat} (h : MkH s p b w w' g gz gb) (k : w'.grownBy w2 none) : MkH s p b w w2 g gz gb := ⟨grown_trans h.gr k, h.ge.kept k, h.z.kept k, h.two.kept k⟩
theorem hidM {s p b : Int} {w w' w2 : World} {g gz gb : Nat} (h : Hid (MkH s p b w w' g gz gb)) (k : w'.grownBy w2 none) : Hid (MkH s p b w w2 g gz gb) := h.out.kept k
set_option maxHeartbeats 2000000 in
theorem pmake_any (s p b : Int) (w : World) (hs : bnd64 s) (hp : bnd64 p) (hb : bnd64 b) : Calls Try.prog 53 #[.agg #[.int .i64 s, .int .i64 p, .int .i64 b]] w fun e w' => e = .returned (.tuple #[(mk s p b).1.val, .int .i64 (mk s p b).2]) ∧ w.grownBy w' none := by
  have hc := fun W => fcheck_any s p b W
  have A0 := (Bx.new w 23 [.int .i64 s, .int .i64 p, .int .i64 b]).kept (World.grownBy_alloc _ (.cells #[.int .i64 0, .int .i64 0, .int .i64 0, .int .i64 0, .int .i64 0, .int .i64 0, .int .i64 0, .int .i64 0] 32) none)
  have G0 := grown_trans (World.grownBy_alloc w (.cells #[.int .i64 s, .int .i64 p, .int .i64 b] 23) none) (World.grownBy_alloc _ (.cells #[.int .i64 0, .int .i64 0, .int .i64 0, .int .i64 0, .int .i64 0, .int .i64 0, .int .i64 0, .int .i64 0] 32) none)
  have Z0 := Bx.new (w.alloc (.cells #[.int .i64 s, .int .i64 p, .int .i64 b] 23)) 32 [.int .i64 0, .int .i64 0, .int .i64 0, .int .i64 0, .int .i64 0, .int .i64 0, .int .i64 0, .int .i64 0]
  simp only [World.size_alloc] at Z0
  have HA : Hid _ := And.intro A0 (And.intro G0 Z0)
  clear A0 G0 Z0
  by_cases h0 : chk s p b = 0
  · have hg := chk_zero h0
    rw [h0] at hc
    by_cases h1 : s < 4 ∨ b < 64
    · have e : mk s p b = (pl0, 1) := by unfold mk; rw [if_neg (by simp [h0]), if_pos h1]
      rw [e]
      have hgs : 1 ≤ s ∧ s ≤ 4096 := by omega
      have hgb : 16 ≤ b ∧ b ≤ 65536 := by omega
      clear hg h0 e
      go_enter Try.func53, Try.ntmps53
      go_wp2_with fail
      refine (hc _).mono ?_
      rintro e w1 ⟨rfl, g1⟩
      have A1 := HA.out.1.kept g1
      have HZ : Hid _ := HA.out.2.2.kept g1
      have HG : Hid _ := grown_trans HA.out.2.1 g1
      obtain ⟨c0, -, c2⟩ := bc3 A1
      clear g1 A1 HA hc
      generalize hgw : w.heap.size = g at *
      have HH : Hid (w.heap.size ≤ g + 1) := by show _ ≤ _; omega
      clear hgw
      simp only
      rcases h1 with h1 | h1
      all_goals
        go_wp2_with ((with_reducible refine plan_here ?_); refine wpList_store_bx rfl 32 _ _ rfl (g + 1) [.int .i64 0, .int .i64 0, .int .i64 0, .int .i64 0, .int .i64 0, .int .i64 0, .int .i64 0, .int .i64 0] rfl rfl HZ.out plan_size rfl rfl ?_; intro W' hb hg; obtain ⟨d0, d1, d2, d3, d4, d5, d6, d7⟩ := bc8 hb; have HF : Hid _ := grown_new (Hid.out HG) hg (Hid.out HH); clear hb hg HZ)
        all_goals
          refine bodyPost_ret (by simp [results, Try.results53, go_sem, d0, d1, d2, d3, d4, d5, d6, d7]; try rfl) rfl ?_
          exact ⟨rfl, HF.out⟩
    · have e : mk s p b = (⟨s, p, b, 0, 1, 2, 2 + slots s p b, slots s p b⟩, 0) := by unfold mk; rw [if_neg (by simp [h0]), if_neg h1]
      rw [e]
      have hpb : 1 ≤ p * b ∧ p * b ≤ 67108864 := by
        have e1 : p * b ≤ 1024 * 65536 := Int.mul_le_mul (by omega) (by omega) (by omega) (by omega)
        have e0 : 1 * 1 ≤ p * b := Int.mul_le_mul (by omega) (by omega) (by omega) (by omega)
        omega
      have hsb := fun W => psb_any s p b W (by omega) (by omega)
      have hsh := fun W => pshare_any (s - 2) (p * b) W (by omega) hpb
      have hsl : slots s p b = max 1 (min ((s - 2) / 2) (8388608 / (p * b))) := rfl
      have hN : 1 ≤ slots s p b ∧ slots s p b ≤ 4096 := by
        rw [hsl]
        have : 0 ≤ (s - 2) / 2 ∧ (s - 2) / 2 ≤ 4096 := by omega
        generalize (s - 2) / 2 = X at *
        generalize 8388608 / (p * b) = Y at *
        omega
      rw [← hsl] at hsh
      clear e hsl
      generalize slots s p b = N at *
      generalize p * b = Z at *
      have d1 : decide (s < 4) = false := decide_eq_false (by omega)
      have d2 : decide (b < 64) = false := decide_eq_false (by omega)
      have hg4 : 4 ≤ s ∧ s ≤ 4096 := by omega
      have hgb : 64 ≤ b ∧ b ≤ 65536 := by omega
      clear hg h1 h0
      go_enter Try.func53, Try.ntmps53
      go_wp2_with fail
      refine (hc _).mono ?_
      rintro e w1 ⟨rfl, g1⟩
      obtain ⟨c0, c1, c2⟩ := bc3 (HA.out.1.kept g1)
      have a2 := World.grownBy_alloc w1 (.cells #[.int .i64 0, .int .i64 1] 30) none
      have M0 : Hid (MkH s p b w (w1.alloc (.cells #[.int .i64 0, .int .i64 1] 30)) w.heap.size (w.heap.size + 1) w1.heap.size) := ⟨grown_trans (grown_trans HA.out.2.1 g1) a2, (HA.out.1.kept g1).kept a2, (HA.out.2.2.kept g1).kept a2, Bx.new w1 30 [.int .i64 0, .int .i64 1]⟩
      clear g1 HA hc a2
      generalize hgw : w.heap.size = g at *
      have HH : Hid (w.heap.size ≤ g + 1) := by show _ ≤ _; omega
      clear hgw
      simp only
      go_wp2_with fail
      clear c0 c1 c2
      obtain ⟨c0, c1, c2⟩ := bc3 M0.out.ge
      generalize w1.alloc (.cells #[.int .i64 0, .int .i64 1] 30) = w2 at *
      generalize w1.heap.size = gb at *
      have hw : IntKind.i64.wrap (s - 2) = s - 2 := by rw [IntKind.wrap_i64]; omega
      clear w1
      have M1 := hidM M0 (drewG w2)
      clear M0
      go_region_held3 (fun w' => w'.cell? ⟨g, 0, none⟩ = some (.int .i64 s) ∧ w'.cell? ⟨g, 1, none⟩ = some (.int .i64 p) ∧ w'.cell? ⟨g, 2, none⟩ = some (.int .i64 b) ∧ Hid (MkH s p b w w' g (g + 1) gb)) (first | (refine ⟨?_, ?_, ?_, ?_⟩ <;> assumption) | (refine ⟨?_, ?_, ?_, ?_⟩ <;> first | assumption | go_keep)) (first | (go_at_call 72; refine (hsb _).mono ?_; rintro e w' ⟨rfl, hg'⟩; have q8 := hidM (by assumption) hg'; have q0 := (bc3 q8.out.ge).1; have q1 := (bc3 q8.out.ge).2.1; have q2 := (bc3 q8.out.ge).2.2; clear hg') | (go_at_call 71; refine (hsh _).mono ?_; rintro e w' ⟨rfl, hg'⟩; have q8 := hidM (by assumption) hg'; have q0 := (bc3 q8.out.ge).1; have q1 := (bc3 q8.out.ge).2.1; have q2 := (bc3 q8.out.ge).2.2; clear hg'))
      all_goals
        have M1 := q8
        clear q8 q0 q1 q2 c0 c1 c2
        try rename_i M9
        try clear M9
        have hw2 : IntKind.i64.wrap (2 + N) = 2 + N := by rw [IntKind.wrap_i64]; omega
        have HZ : Hid _ := M1.out.z
        have HG : Hid _ := M1.out.gr
        obtain ⟨c0, c1, c2⟩ := bc3 M1.out.ge
        obtain ⟨t0, t1⟩ := bc2 M1.out.two
        clear M1
        go_wp2_with ((with_reducible refine plan_here ?_); refine wpList_store_bx rfl 32 _ _ rfl (g + 1) [.int .i64 s, .int .i64 p, .int .i64 b, .int .i64 0, .int .i64 1, .int .i64 2, .int .i64 (2 + N), .int .i64 N] rfl rfl HZ.out plan_size rfl rfl ?_; intro W' hb hg; obtain ⟨d0, d1, d2, d3, d4, d5, d6, d7⟩ := bc8 hb; have HF : Hid _ := grown_new (Hid.out HG) hg (Hid.out HH); clear hb hg HZ)
        refine bodyPost_ret (by simp [results, Try.results53, go_sem, d0, d1, d2, d3, d4, d5, d6, d7]; try rfl) rfl ?_
        exact ⟨rfl, HF.out⟩
  · have e : mk s p b = (pl0, chk s p b) := by unfold mk; rw [if_pos h0]
    rw [e]
    generalize chk s p b = E at *
    have h0' : (E == 0) = false := by simp [h0]
    go_enter Try.func53, Try.ntmps53
    go_wp2_with fail
    refine (hc _).mono ?_
    rintro e w1 ⟨rfl, g1⟩
    have HZ : Hid _ := HA.out.2.2.kept g1
    have HG : Hid _ := grown_trans HA.out.2.1 g1
    clear g1 HA hc
    generalize hgw : w.heap.size = g at *
    have HH : Hid (w.heap.size ≤ g + 1) := by show _ ≤ _; omega
    clear hgw
    simp only
    go_wp2_with ((with_reducible refine plan_here ?_); refine wpList_store_bx rfl 32 _ _ rfl (g + 1) [.int .i64 0, .int .i64 0, .int .i64 0, .int .i64 0, .int .i64 0, .int .i64 0, .int .i64 0, .int .i64 0] rfl rfl HZ.out plan_size rfl rfl ?_; intro W' hb hg; obtain ⟨d0, d1, d2, d3, d4, d5, d6, d7⟩ := bc8 hb; have HF : Hid _ := grown_new (Hid.out HG) hg (Hid.out HH); clear hb hg HZ)
    refine bodyPost_ret (by simp [results, Try.results53, go_sem, d0, d1, d2, d3, d4, d5, d6, d7]; try rfl) rfl ?_
    exact ⟨rfl, HF.out⟩
theorem slots_in {s p b : Int} (h : 4 ≤ s ∧ s ≤ 4096) : 1 ≤ slots s p b ∧ 2 + 2 * slots s p b ≤ s := by
  unfold slots
  rw [Int.max_def, Int.min_def]
  split <;> split <;> omega
theorem mk_ok (s p b : Int) : (mk s p b).1.ok ∧ bnd64 (mk s p b).2 ∧ (rgt (mk s p b).1 = true ↔ (mk s p b).2 = 0) := by
  have hr : (mk s p b).2 = 0 → rgt (mk s p b).1 = true := by
    intro h
    obtain ⟨h1, h2, h3⟩ := mk_geo h
    rw [rgt_iff, h1, h2, h3]
    exact Prod.ext rfl h
  have h0 : rgt pl0 = false := by kernel_rfl
  unfold mk at hr ⊢
  split
  · rename_i k
    refine ⟨by unfold pl0 Pl.ok bnd64; simp, ?_, ?_⟩
    · show bnd64 (chk s p b)
      unfold chk bnd64; split
      · decide
      · split <;> decide
    · show rgt pl0 = true ↔ chk s p b = 0
      rw [h0]
      simpa using k
  · rename_i k0
    rw [if_neg k0] at hr
    split
    · refine ⟨by unfold pl0 Pl.ok bnd64; simp, by unfold bnd64; simp, ?_⟩
      show rgt pl0 = true ↔ _
      rw [h0]; simp
    · rename_i k1
      rw [if_neg k1] at hr
      have hg := chk_zero (by simpa using k0)
      have hn := slots_in (s := s) (p := p) (b := b) (by omega)
      generalize slots s p b = N at *
      refine ⟨?_, by unfold bnd64; simp, fun _ => rfl, fun h => hr h⟩
      unfold Pl.ok bnd64
      simp only
      omega
set_option maxHeartbeats 2000000 in
theorem pcheck_any (P : Pl) (w : World) (h : P.ok) : Calls Try.prog 38 #[P.val] w fun e w' => e = .returned (.int .i64 (pchk P)) ∧ w.grownBy w' none := by
  have hm := fun W => pmake_any P.s P.p P.b W h.1 h.2.1 h.2.2.1
  obtain ⟨m1, m2, -⟩ := mk_ok P.s P.p P.b
  have hn := fun W => plan_ne P (mk P.s P.p P.b).1 W h m1
  have hr : pchk P = if (mk P.s P.p P.b).2 = 0 then (if P.same (mk P.s P.p P.b).1 = true then 0 else 1) else 1 := by
    unfold pchk rgt
    by_cases k : (mk P.s P.p P.b).2 = 0
    · rw [if_pos k]
      by_cases k2 : P.same (mk P.s P.p P.b).1 = true
      · have := Pl.same_iff.1 k2
        rw [if_pos k2, if_pos (by rw [k, ← this, Pl.same_self]; rfl)]
      · rw [if_neg k2, if_neg]
        intro x
        rw [Bool.and_eq_true, Pl.same_iff] at x
        exact k2 (Pl.same_iff.2 x.1.symm)
    · rw [if_neg k, if_neg]
      intro x
      rw [Bool.and_eq_true, decide_eq_true_iff] at x
      exact k x.2
  rw [hr]
  clear hr
  generalize P.same (mk P.s P.p P.b).1 = r at hn ⊢
  generalize mk P.s P.p P.b = M at hm hn m2 ⊢
  obtain ⟨⟨qs, qp, qb, q0, q1, q2, q3, qn⟩, qe⟩ := M
  obtain ⟨s, p, b, x0, x1, y0, y1, n⟩ := P
  have B0 := Bx.new w 32 [.int .i64 s, .int .i64 p, .int .i64 b, .int .i64 x0, .int .i64 x1, .int .i64 y0, .int .i64 y1, .int .i64 n]
  have G0 := World.grownBy_alloc w (.cells #[.int .i64 s, .int .i64 p, .int .i64 b, .int .i64 x0, .int .i64 x1, .int .i64 y0, .int .i64 y1, .int .i64 n] 32) none
  simp only [Pl.val] at *
  have HB : Hid _ := And.intro B0 G0
  clear B0 G0 m1 h
  go_enter Try.func38, Try.ntmps38
  go_wp2_with fail
  refine (hm _).mono ?_
  rintro e w1 ⟨rfl, g1⟩
  have a1 := World.grownBy_alloc w1 (.cells #[.int .i64 qs, .int .i64 qp, .int .i64 qb, .int .i64 q0, .int .i64 q1, .int .i64 q2, .int .i64 q3, .int .i64 qn] 32) none
  have B2 := (HB.out.1.kept g1).kept a1
  have C2 := Bx.new w1 32 [.int .i64 qs, .int .i64 qp, .int .i64 qb, .int .i64 q0, .int .i64 q1, .int .i64 q2, .int .i64 q3, .int .i64 qn]
  have HG : Hid _ := grown_trans (grown_trans HB.out.2 g1) a1
  obtain ⟨c0, c1, c2, c3, c4, c5, c6, c7⟩ := bc8 B2
  clear B2 C2 a1 g1 HB hm
  simp only
  by_cases k : qe = 0
  · subst k
    cases r
    all_goals
      go_wp2
      go_ret
      exact ⟨rfl, HG.out⟩
  · have k' : (qe == 0) = false := by simp [k]
    go_wp2
    go_ret
    exact ⟨rfl, HG.out⟩
end Go.Proofs.Ytfhgbddeclldnaa.Pa

namespace Go.Proofs.Ytfhgbddeclldnaa
open Go.RowKit
set_option maxRecDepth 100000
set_option linter.unusedSimpArgs false
set_option linter.unusedVariables false

set_option maxRecDepth 100000 in
theorem geo_neq {s p b s' p' b' : Int} (w : World) (h1 : Pa.bnd64 s) (h2 : Pa.bnd64 p) (h3 : Pa.bnd64 b) (h4 : Pa.bnd64 s') (h5 : Pa.bnd64 p') (h6 : Pa.bnd64 b') :
    (binOp .neq 23 (.agg #[.int .i64 s, .int .i64 p, .int .i64 b]) (.agg #[.int .i64 s', .int .i64 p', .int .i64 b'])).run Try.prog w = .ok (.bool (!decide (s = s' ∧ p = p' ∧ b = b'))) w := by
  obtain ⟨r, k1, k2⟩ := run_equalIn_deep (P := Try.prog) 9990 10 23 (by kernel_rfl) w 8 8 (.agg #[.int .i64 s, .int .i64 p, .int .i64 b]) (.agg #[.int .i64 s', .int .i64 p', .int .i64 b']) _ _ (by rfl) (by rfl) (Pa.kl_geo 6 h1 h2 h3) (Pa.kl_geo 6 h4 h5 h6)
  rw [run_neq_struct, show (10000 : Nat) = 9990 + 10 from rfl, k1]
  have e : r = decide (s = s' ∧ p = p' ∧ b = b') := by
    by_cases h : s = s' ∧ p = p' ∧ b = b'
    · rw [decide_eq_true h]
      obtain ⟨rfl, rfl, rfl⟩ := h
      exact k2.2 rfl
    · rw [decide_eq_false h]
      cases r with
      | false => rfl
      | true =>
        have := k2.1 rfl
        simp at this
        exact absurd ⟨this.1, this.2.1, this.2.2⟩ h
  rw [e]
  rfl
/-- what check answers -/
def kck (m : Fm) (P : Pa.Pl) : Int := if kok m P = true then 0 else 1
theorem pk_nil (P : Pa.Pl) (w : World) : Calls Try.prog 26 #[.pointer none, P.val] w fun e w' => e = .returned (.int .i64 5) ∧ w.grownBy w' none := by
  obtain ⟨s, p, b, x0, x1, y0, y1, n⟩ := P
  simp only [Pa.Pl.val, Pa.Pl.cells]
  go_enter Try.func26, Try.ntmps26
  go_wp2
  go_returns
  exact ⟨rfl, World.grownBy_alloc _ _ _⟩
set_option maxHeartbeats 2000000 in
theorem pk_any {w : World} {fb bb db wb : Nat} {m : Fm} {G : Nat → Prop} {k : Nat} (h : PRep w fb bb db wb m G) (hg : m.Good k) (P : Pa.Pl) (hP : P.ok) :
    Calls Try.prog 26 #[.pointer (some ⟨fb, 0, none⟩), P.val] w fun e w' => e = .returned (.int .i64 (kck m P)) ∧ w.grownBy w' none := by
  have hr := fun W => Pa.pcheck_any P W hP
  have hs := hg.s
  have hp := hg.p
  have hb := hg.b
  have he := fun W => geo_neq (s := P.s) (p := P.p) (b := P.b) (s' := m.s) (p' := m.p) (b' := m.b) W hP.1 hP.2.1 hP.2.2.1 ⟨by omega, by omega⟩ ⟨by omega, by omega⟩ ⟨by omega, by omega⟩
  have hge : ∀ W, w.grownBy W none → Calls Try.prog 39 #[.pointer (some ⟨fb, 0, none⟩)] W fun e w' => e = .returned (.agg #[.int .i64 m.s, .int .i64 m.p, .int .i64 m.b]) ∧ W.grownBy w' none := by
    intro W hW
    obtain ⟨pw, left, aT, cT, TT, hpf, -, -⟩ := h.grown hW
    exact geometry_any fb m.s m.p m.b W (hpf.box.c 0) (hpf.box.c 1) (hpf.box.c 2)
  unfold kck kok
  unfold Pa.pchk at hr
  generalize decide (P.s = m.s ∧ P.p = m.p ∧ P.b = m.b) = d at *
  generalize Pa.rgt P = r at *
  obtain ⟨s, p, b, x0, x1, y0, y1, n⟩ := P
  generalize (m.s : Int) = ms at *
  generalize (m.p : Int) = mp at *
  generalize (m.b : Int) = mb at *
  have Y0 := Bx.new w 32 (Pa.Pl.cells ⟨s, p, b, x0, x1, y0, y1, n⟩)
  have G0 := World.grownBy_alloc w (.cells (Pa.Pl.cells ⟨s, p, b, x0, x1, y0, y1, n⟩).toArray 32) none
  have H0 : Hid _ := And.intro Y0 G0
  clear Y0 G0 h hs hp hb hP hg
  simp only [Pa.Pl.val, Pa.Pl.cells] at *
  cases r
  · rw [Bool.false_and, if_neg (by simp)]
    simp only [Bool.false_eq_true, if_false] at hr
    go_enter Try.func26, Try.ntmps26
    go_wp2_with fail
    refine (hr _).mono ?_
    rintro e w1 ⟨rfl, g1⟩
    have HG : Hid _ := grown_trans H0.out.2 g1
    clear H0 g1 hr
    go_wp2
    go_returns
    exact ⟨rfl, HG.out⟩
  · rw [Bool.true_and]
    simp only [if_true] at hr
    go_enter Try.func26, Try.ntmps26
    go_wp2_with fail
    refine (hr _).mono ?_
    rintro e w1 ⟨rfl, g1⟩
    have H1 : Hid (Bx w1 w.heap.size 32 [.int .i64 s, .int .i64 p, .int .i64 b, .int .i64 x0, .int .i64 x1, .int .i64 y0, .int .i64 y1, .int .i64 n] ∧ w.grownBy w1 none) := ⟨H0.out.1.kept g1, grown_trans H0.out.2 g1⟩
    clear H0 g1 hr
    generalize w.heap.size = g at *
    go_wp2_with fail
    refine wp_region_held_drew (S := fun w' => Bx w' g 32 [.int .i64 s, .int .i64 p, .int .i64 b, .int .i64 x0, .int .i64 x1, .int .i64 y0, .int .i64 y1, .int .i64 n] ∧ w.grownBy w' none) (by kernel_rfl) ⟨H1.out.1.kept (Pa.drewG w1), grown_trans H1.out.2 (Pa.drewG w1)⟩ (fun hH => ?_)
    clear H1
    refine wpAnyH_take (i := 0) (oi := ⟨some 12, _, _, _, _, _⟩) (v := .pointer (some ⟨g, 0, none⟩)) rfl (by kernel_rfl) (by kernel_rfl) (by kernel_rfl) (fun _ _ _ h => h) (Or.inl ⟨by rfl, fun w hSw => by go_simp⟩) hH ?_
    simp only [Act.put, List.setIfInBounds_toArray, List.set_cons_zero, List.set_cons_succ]
    refine wpAnyH_take (i := 1) (oi := ⟨some 13, _, _, _, _, _⟩) (v := .agg #[.int .i64 s, .int .i64 p, .int .i64 b]) rfl (by kernel_rfl) (by kernel_rfl) (by kernel_rfl) (fun _ _ _ h => h) (Or.inl ⟨by rfl, fun w hSw => by obtain ⟨d0, d1, d2, d3, d4, d5, d6, d7⟩ := plan8 hSw.1; go_simp⟩) hH ?_
    simp only [Act.put, List.setIfInBounds_toArray, List.set_cons_zero, List.set_cons_succ]
    refine wpAnyH_take (i := 2) (oi := ⟨some 14, _, _, _, _, _⟩) (v := .pointer (some ⟨fb, 0, none⟩)) rfl (by kernel_rfl) (by kernel_rfl) (by kernel_rfl) (fun _ _ _ h => h) (Or.inl ⟨by rfl, fun w hSw => by go_simp⟩) hH ?_
    simp only [Act.put, List.setIfInBounds_toArray, List.set_cons_zero, List.set_cons_succ]
    refine wpAnyH_ready (rs := [3]) (by kernel_rfl) (by simp) ?_
    refine AllReadyH.cons rfl (fun K hK => ?_) AllReadyH.nil
    go_simp
    go_wp2_with (go_at_call 39; refine (hge _ hH.2).mono ?_; rintro e w2 ⟨rfl, g2⟩)
    replace hH := And.intro (hH.1.kept g2) (grown_trans hH.2 g2)
    clear g2
    refine hK.out _ _ hH (fun _ => ?_)
    clear hK K
    refine wpAnyH_take (i := 4) (oi := ⟨some 16, _, _, _, _, _⟩) (v := .bool (!d)) rfl (by kernel_rfl) (by kernel_rfl) (by kernel_rfl) (fun _ _ _ h => h) (Or.inl ⟨by rfl, fun w hSw => by (go_simp; try exact he _)⟩) hH ?_
    simp only [Act.put, List.setIfInBounds_toArray, List.set_cons_zero, List.set_cons_succ]
    refine wpAnyH_take (i := 5) (oi := ⟨some 8, _, _, _, _, _⟩) (v := .bool (!d)) rfl (by kernel_rfl) (by kernel_rfl) (by kernel_rfl) (fun _ _ _ h => h) (Or.inl ⟨by rfl, fun w hSw => by go_simp⟩) hH ?_
    simp only [Act.put, List.setIfInBounds_toArray, List.set_cons_zero, List.set_cons_succ]
    refine wpAnyH_done (by kernel_rfl) ?_ _
    have HG : Hid _ := hH.2
    clear hH
    cases d
    · go_wp2
      go_returns
      exact ⟨rfl, HG.out⟩
    · go_wp2
      go_returns
      exact ⟨rfl, HG.out⟩
/-- a sector's first page -/
theorem pfirst_any (P : Pa.Pl) (i : Int) (w : World) (hi : in64 (i * P.p)) : Calls Try.prog 28 #[P.val, .int .i64 i] w fun e w' => e = .returned (.int .i64 (i * P.p)) ∧ w.grownBy w' none := by
  obtain ⟨s, p, b, x0, x1, y0, y1, n⟩ := P
  simp only at hi
  have hw : IntKind.i64.wrap (i * p) = i * p := by unfold in64 at hi; rw [IntKind.wrap_i64]; omega
  have Y0 := Bx.new w 32 (Pa.Pl.cells ⟨s, p, b, x0, x1, y0, y1, n⟩)
  simp only [Pa.Pl.val, Pa.Pl.cells] at *
  obtain ⟨d0, d1, d2, d3, d4, d5, d6, d7⟩ := plan8 Y0
  clear Y0
  go_enter Try.func28, Try.ntmps28
  go_wp2
  go_returns
  exact ⟨by simp [hw], World.grownBy_alloc _ _ _⟩
end Go.Proofs.Ytfhgbddeclldnaa

namespace Go.Proofs.Ytfhgbddeclldnaa
open Go.RowKit
set_option maxRecDepth 100000
set_option linter.unusedSimpArgs false
set_option linter.unusedVariables false

set_option maxHeartbeats 1000000 in
theorem pright_any (r : Rc) (w : World) : Calls Try.prog 43 #[r.val] w fun e w' => e = .returned (.bool (rrt r)) ∧ w.grownBy w' none := by
  obtain ⟨q, s, l, u⟩ := r
  unfold Rc.val
  by_cases h1 : q ≤ 4611686018427387904
  · by_cases h2 : s = 0
    · by_cases h3 : 1 ≤ l
      · have e : rrt ⟨q, s, l, u⟩ = decide (l ≤ 8388608) := by unfold rrt; subst h2; simp [h1, h3]
        rw [e]
        subst h2
        have d1 : decide (q ≤ 4611686018427387904) = true := decide_eq_true h1
        have d3 : decide (1 ≤ l) = true := decide_eq_true h3
        go_enter Try.func43, Try.ntmps43
        go_wp2
        go_ret
        exact ⟨rfl, World.grownBy_alloc _ _ _⟩
      · have e : rrt ⟨q, s, l, u⟩ = false := by unfold rrt; simp [h3]
        rw [e]
        subst h2
        have d1 : decide (q ≤ 4611686018427387904) = true := decide_eq_true h1
        have d3 : decide (1 ≤ l) = false := decide_eq_false h3
        go_enter Try.func43, Try.ntmps43
        go_wp2
        go_ret
        exact ⟨rfl, World.grownBy_alloc _ _ _⟩
    · by_cases h4 : s = 1
      · by_cases h3 : 1 ≤ l
        · have e : rrt ⟨q, s, l, u⟩ = decide (l ≤ 8388608) := by unfold rrt; subst h4; simp [h1, h3]
          rw [e]
          subst h4
          have d1 : decide (q ≤ 4611686018427387904) = true := decide_eq_true h1
          have d3 : decide (1 ≤ l) = true := decide_eq_true h3
          clear h2
          go_enter Try.func43, Try.ntmps43
          go_wp2
          go_ret
          exact ⟨rfl, World.grownBy_alloc _ _ _⟩
        · have e : rrt ⟨q, s, l, u⟩ = false := by unfold rrt; simp [h3]
          rw [e]
          subst h4
          have d1 : decide (q ≤ 4611686018427387904) = true := decide_eq_true h1
          have d3 : decide (1 ≤ l) = false := decide_eq_false h3
          clear h2
          go_enter Try.func43, Try.ntmps43
          go_wp2
          go_ret
          exact ⟨rfl, World.grownBy_alloc _ _ _⟩
      · have e : rrt ⟨q, s, l, u⟩ = false := by
          unfold rrt
          have : (decide (0 ≤ s) && decide (s ≤ 1)) = false := by simp; omega
          rw [Bool.and_assoc (decide (q ≤ 4611686018427387904)), this]; simp
        rw [e]
        have d1 : decide (q ≤ 4611686018427387904) = true := decide_eq_true h1
        have d2 : (s == 0) = false := by simpa using h2
        have d4 : (s == 1) = false := by simpa using h4
        go_enter Try.func43, Try.ntmps43
        go_wp2
        go_ret
        exact ⟨rfl, World.grownBy_alloc _ _ _⟩
  · have e : rrt ⟨q, s, l, u⟩ = false := by unfold rrt; simp [h1]
    rw [e]
    have d1 : decide (q ≤ 4611686018427387904) = false := decide_eq_false h1
    go_enter Try.func43, Try.ntmps43
    go_wp2
    go_ret
    exact ⟨rfl, World.grownBy_alloc _ _ _⟩
theorem rnx_eq (r : Rc) (slot n sum : Int) : rnx r slot n sum = if rrt ⟨r.q, slot, n, sum⟩ = false then (rc0, 1) else if r.q = 4611686018427387904 then (rc0, 2) else (⟨r.q + 1, slot, n, sum⟩, 0) := by
  obtain ⟨q, s, l, u⟩ := r
  unfold rnx rrt
  simp only
  by_cases c1 : 4611686018427387904 < q
  · have : ¬ q ≤ 4611686018427387904 := by omega
    simp [c1, this]
  · have h2 : q ≤ 4611686018427387904 := by omega
    simp [c1, h2]
end Go.Proofs.Ytfhgbddeclldnaa

namespace Go.Proofs.Ytfhgbddeclldnaa.Fi
open Go.RowKit
set_option maxRecDepth 100000
set_option linter.unusedSimpArgs false
set_option linter.unusedVariables false

theorem largest_any (n : Int) (w : World) : Calls Try.prog 77 #[.int .i64 n] w fun e w' => e = .returned (.int .u64 (lg n)) ∧ w = w' := by
  by_cases h1 : n = 1
  · subst h1
    go_enter Try.func77, Try.ntmps77
    go_wp2
    go_ret
    exact ⟨rfl, rfl⟩
  by_cases h2 : n = 2
  · subst h2
    go_enter Try.func77, Try.ntmps77
    go_wp2
    go_ret
    exact ⟨rfl, rfl⟩
  by_cases h4 : n = 4
  · subst h4
    go_enter Try.func77, Try.ntmps77
    go_wp2
    go_ret
    exact ⟨rfl, rfl⟩
  by_cases h8 : n = 8
  · subst h8
    go_enter Try.func77, Try.ntmps77
    go_wp2
    go_ret
    exact ⟨rfl, rfl⟩
  have g1 : (n == 1) = false := by simpa using h1
  have g2 : (n == 2) = false := by simpa using h2
  have g4 : (n == 4) = false := by simpa using h4
  have g8 : (n == 8) = false := by simpa using h8
  go_enter Try.func77, Try.ntmps77
  go_wp2
  go_ret
  exact ⟨by simp [lg, h1, h2, h4, h8], rfl⟩

theorem holds_any (a : Option Addr) (len cap : Nat) (at_ n : Int) (w : World) (hl : len ≤ maxLen) (hn : 0 ≤ n) (hn' : n ≤ 9223372036854775807) (ha : at_ ≤ 9223372036854775807) : Calls Try.prog 79 #[.slice a len cap, .int .i64 at_, .int .i64 n] w fun e w' => e = .returned (.bool (inB len at_ n)) ∧ w = w' := by
  unfold maxLen at hl
  by_cases h1 : 0 ≤ at_
  · go_enter Try.func79, Try.ntmps79
    go_wp2
    go_ret
    refine ⟨?_, rfl⟩
    have : decide (n ≤ ↑len - at_) = inB len at_ n := by
      rw [Bool.eq_iff_iff]; simp [inB]; omega
    rw [this]; rfl
  · have hd : decide (0 ≤ at_) = false := by simpa using h1
    go_enter Try.func79, Try.ntmps79
    go_wp2
    go_ret
    exact ⟨by simp [inB, hd], rfl⟩

set_option maxHeartbeats 400000 in
theorem get_in (b off len cap : Nat) (bs : List Int) (k n : Nat) (w : World) (hl : len ≤ maxLen) (hlen : bs.length = len) (hb : Byt bs) (hW : isW n = true) (hin : k + n ≤ len)
    (hc : ∀ i, i < len → w.cell? ⟨b, off + i, none⟩ = some (.int .u8 (bs.getD i 0))) :
    Calls Try.prog 74 #[.slice (some ⟨b, off, none⟩) len cap, .int .i64 k, .int .i64 n] w fun e w' => e = .returned (.tuple #[.int .u64 (le ((bs.drop k).take n)), .int .i64 0]) ∧ w = w' := by
  have hH := holds_any (some ⟨b, off, none⟩) len cap k n w hl (by omega) (by unfold maxLen at hl; omega) (by unfold maxLen at hl; omega)
  unfold maxLen at hl
  have hz := lg_ne hW
  have hi : inB len k n = true := by simp [inB]; omega
  have n8 : n ≤ 8 := by have := isW_pos hW; omega
  go_enter Try.func74, Try.ntmps74
  go_wp2_with (first | (go_at_call 77; refine (largest_any _ _).mono ?_; rintro e w' ⟨rfl, rfl⟩) | (go_at_call 79; refine hH.mono ?_; rintro e w' ⟨rfl, rfl⟩))
  go_loop [8, 9, 19] (fun v _ i => ∃ j : Nat, j ≤ n ∧ i = .int .i64 j ∧ v = .int .u64 (le ((bs.drop k).take j))) (fun _ _ i => n - (intOf i).toNat)
  case atStart => exact ⟨0, Nat.zero_le _, rfl, by simp [le]⟩
  case round =>
    obtain ⟨j, hj, rfl, rfl⟩ := hrel
    by_cases hlt : j < n
    · have hcell := hc (k + j) (by omega)
      have hr := hb.getD (k + j)
      go_wp2
      go_round
      case rel => exact ⟨j + 1, by omega, by go_num, by rw [le_step hb k j (by omega) (by omega)]⟩
      case measure => simp [intOf]; omega
    · go_wp2
      go_ret2
      have : j = n := by omega
      subst this
      exact ⟨rfl, rfl⟩

/-- Get, of whatever comes in -/
theorem get_any (a : Option Addr) (len cap : Nat) (bs : List Int) (at_ n : Int) (w : World) (R : Row w a len bs) (h1 : at_ ≤ 9223372036854775807) (h2 : n ≤ 9223372036854775807) :
    Calls Try.prog 74 #[.slice a len cap, .int .i64 at_, .int .i64 n] w fun e w' => e = .returned (.tuple #[.int .u64 (getV bs at_ n), .int .i64 (getE len at_ n)]) ∧ w = w' := by
  by_cases hW : isW n = true
  · have hn := isW_pos hW
    by_cases hi : inB len at_ n = true
    · have hi' := hi
      simp only [inB, decide_eq_true_eq] at hi'
      obtain ⟨k, rfl⟩ := Int.eq_ofNat_of_zero_le hi'.1
      obtain ⟨m, rfl⟩ := Int.eq_ofNat_of_zero_le hi'.2.1
      obtain ⟨b, off, rfl, hc⟩ := R.cells (by omega)
      have := get_in b off len cap bs k m w R.le R.len_eq R.byt hW (by omega) hc
      rw [getV_in hW (by rw [R.len_eq]; omega), getE_in hW (by omega)]
      exact this
    · have hi' : inB len at_ n = false := by simpa using hi
      have hz := lg_ne hW
      have hH := holds_any a len cap at_ n w R.le (by omega) (by omega) h1
      rw [getV_out (by rw [R.len_eq]; exact hi'), getE_out hW hi']
      go_enter Try.func74, Try.ntmps74
      go_wp2_with (first | (go_at_call 77; refine (largest_any _ _).mono ?_; rintro e w' ⟨rfl, rfl⟩) | (go_at_call 79; refine hH.mono ?_; rintro e w' ⟨rfl, rfl⟩))
      go_ret2
      exact ⟨rfl, rfl⟩
  · have hW' : isW n = false := by simpa using hW
    have hz : lg n = 0 := lg_eq hW'
    rw [getV_no hW', getE_no hW']
    go_enter Try.func74, Try.ntmps74
    go_wp2_with (first | (go_at_call 77; refine (largest_any _ _).mono ?_; rintro e w' ⟨rfl, rfl⟩))
    go_ret2
    exact ⟨rfl, rfl⟩

end Go.Proofs.Ytfhgbddeclldnaa.Fi

namespace Go.Proofs.Ytfhgbddeclldnaa.Fi
open Go.RowKit
set_option maxRecDepth 100000
set_option linter.unusedSimpArgs false
set_option linter.unusedVariables false

def ckE (n width : Int) : Int := if isW width then (if lg width < n then 9 else 0) else 1

theorem check_any (n width : Int) (w : World) : Calls Try.prog 59 #[.int .u64 n, .int .i64 width] w fun e w' => e = .returned (.int .i64 (ckE n width)) ∧ w = w' := by
  by_cases hW : isW width = true
  · have hz := lg_ne hW
    by_cases hn : lg width < n
    · go_enter Try.func59, Try.ntmps59
      go_wp2_with (first | (go_at_call 77; refine (largest_any _ _).mono ?_; rintro e w' ⟨rfl, rfl⟩))
      go_ret
      exact ⟨by simp [ckE, hW, hn], rfl⟩
    · go_enter Try.func59, Try.ntmps59
      go_wp2_with (first | (go_at_call 77; refine (largest_any _ _).mono ?_; rintro e w' ⟨rfl, rfl⟩))
      go_ret
      exact ⟨by simp [ckE, hW, hn], rfl⟩
  · have hW' : isW width = false := by simpa using hW
    have hz : lg width = 0 := lg_eq hW'
    go_enter Try.func59, Try.ntmps59
    go_wp2_with (first | (go_at_call 77; refine (largest_any _ _).mono ?_; rintro e w' ⟨rfl, rfl⟩))
    go_ret
    exact ⟨by simp [ckE, hW'], rfl⟩

set_option maxHeartbeats 400000 in
theorem lay_any (g o len cap : Nat) (n : Int) (cur : List Value) (w : World) (hB : Blk w g cur) (hl : len ≤ 8) (hf : o + len ≤ cur.length) :
    Calls Try.prog 60 #[.slice (some ⟨g, o, none⟩) len cap, .int .u64 n] w fun e w' => e = .returned (.tuple #[]) ∧ Blk w' g (splice cur o (bv (sto n len))) ∧ w.grownBy w' (some g) ∧ w'.heap.size = w.heap.size := by
  go_enter Try.func60, Try.ntmps60
  go_wp2
  go_loopw [7] (fun i wr => ∃ j : Nat, j ≤ len ∧ i = .int .i64 j ∧ Blk wr g (splice cur o (bv (sto n j))) ∧ w.grownBy wr (some g) ∧ wr.heap.size = w.heap.size) (fun i _ => len - (intOf i).toNat)
  case atStart => exact ⟨0, Nat.zero_le _, rfl, by simpa [sto, bv, splice_nil] using hB, World.grownBy.refl _ _, rfl⟩
  case round =>
    obtain ⟨j, hj, rfl, hb, hg, hs⟩ := hrel
    by_cases hlt : j < len
    · obtain ⟨c, hc⟩ : ∃ c, wr.cell? ⟨g, o + j, none⟩ = some c := by
        have hL : o + j < (splice cur o (bv (sto n j))).length := by
          rw [length_splice _ _ _ (by rw [bv_length, sto_length]; omega)]; omega
        exact ⟨_, by rw [hb.cell, List.getElem?_eq_getElem hL]⟩
      have hz := hb.frozen (o + j)
      go_wp2
      go_roundw
      case rel =>
        refine ⟨j + 1, by omega, by go_num, ?_, grown_trans hg (grown_set _ _ _ _), by rw [size_set]; exact hs⟩
        have h1 := hb.set (o + j) (.int .u8 (n / 2 ^ (8 * j) % 256))
        have e : o + j = o + (bv (sto n j)).length := by rw [bv_length, sto_length]
        rw [sto_snoc, bv_append, ← pow8]
        rw [e] at h1
        rw [splice_set _ _ _ _ (by rw [← e]; omega), ← e] at h1
        exact h1
      case measure => simp [intOf]; omega
    · have : j = len := by omega
      subst this
      go_wp2
      go_end0
      exact ⟨rfl, hb, hg, hs⟩

theorem lay_none (a : Option Addr) (cap : Nat) (n : Int) (w : World) :
    Calls Try.prog 60 #[.slice a 0 cap, .int .u64 n] w fun e w' => e = .returned (.tuple #[]) ∧ w = w' := by
  go_enter Try.func60, Try.ntmps60
  go_wp2
  go_loop [7] (fun i => i = .int .i64 0) (fun _ => 0)
  case atStart => rfl
  case round =>
    subst hrel
    go_wp2
    go_end0
    exact ⟨rfl, rfl⟩

theorem Try.size5 : (Try.prog.info? 5).map (·.size) = some 1 := by kernel_rfl

/-- a copy in memory of its own -/
theorem fresh_any (a : Option Addr) (len cap : Nat) (bs : List Int) (w : World) (R : Row w a len bs) (hl : len ≤ 281474976710656) :
    Calls Try.prog 61 #[.slice a len cap] w fun e w' => e = .returned (.slice (some ⟨w.heap.size, 0, none⟩) len len) ∧ Blk w' w.heap.size (bv bs) ∧ w.grownBy w' none ∧ w'.heap.size = w.heap.size + 1 := by
  obtain ⟨i5, hi, hz0, hz1, hz2⟩ := info_parts Try.info5
  go_enter Try.func61, Try.ntmps61
  go_wp2_with (first | (at_make; refine wpList_make8 _ rfl _ _ 27 rfl i5 Try.underlying27 hi hz0 hz1 hz2 _ _ _ _ len rfl rfl rfl rfl hl ?_; intro w1 hb1 hg1 hs1) | ((with_reducible refine copy_here ?_); (refine wpList_copy8 rfl _ _ 27 27 rfl Try.underlying27 Try.size5 _ _ _ _ _ _ rfl rfl w.heap.size 0 _ hb1 (bv bs) (by rw [bv_length, R.len_eq]; exact (Nat.min_self _).symm) (fun h0 => ⟨rfl, (R.grown hg1).src h0⟩) (by rw [bv_length, R.len_eq, List.length_replicate]; omega) (bv_one _) ?_; intro w2 hb2 hg2 hs2)))
  go_ret
  rw [splice_all _ _ (by simp [bv_length, R.len_eq])] at hb2
  exact ⟨rfl, hb2, grown_new hg1 hg2 (Nat.le_refl _), by omega⟩

theorem ckE_ok {n width : Int} (h : ckE n width = 0) : isW width = true ∧ n ≤ lg width := by
  unfold ckE at h
  split at h
  · split at h
    · simp at h
    · exact ⟨by assumption, by omega⟩
  · simp at h

end Go.Proofs.Ytfhgbddeclldnaa.Fi
