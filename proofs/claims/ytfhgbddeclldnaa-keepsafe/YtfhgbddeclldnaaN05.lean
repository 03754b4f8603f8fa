/- The program's flash: what only reads. The program's flash: pieces, filled rows. The program's flash: one step of the device, what is torn, what is laid. -/
import Derived.Deep.RegionHeld
import Derived.Deep.DrawnRows
import Derived.Test.YtfhgbddeclldnaaN02
import Derived.Test.YtfhgbddeclldnaaN04
namespace Go.Proofs.Ytfhgbddeclldnaa
open Go.RowKit
set_option maxRecDepth 100000
set_option linter.unusedSimpArgs false
set_option linter.unusedVariables false
attribute [local go_sem ↓] Go.wp_at_zero Go.wp_at_succ

theorem within_any (n lo hi : Int) (w : World) : Calls Try.prog 35 #[.int .i64 n, .int .i64 lo, .int .i64 hi] w fun e w' => e = .returned (.bool (decide (lo ≤ n ∧ n ≤ hi))) ∧ w = w' := by
  by_cases h1 : lo ≤ n
  · have hd : decide (lo ≤ n ∧ n ≤ hi) = decide (n ≤ hi) := by simp [h1]
    rw [hd]
    go_enter Try.func35, Try.ntmps35
    go_wp2
    go_ret
    exact ⟨rfl, rfl⟩
  · have hd : decide (lo ≤ n ∧ n ≤ hi) = false := by simp [h1]
    rw [hd]
    go_enter Try.func35, Try.ntmps35
    go_wp2
    go_ret
    exact ⟨rfl, rfl⟩
theorem haspage_nil (page : Int) (w : World) : Calls Try.prog 69 #[.pointer none, .int .i64 page] w fun e w' => e = .returned (.bool false) ∧ w = w' := by
  go_enter Try.func69, Try.ntmps69
  go_wp2
  go_ret
  exact ⟨rfl, rfl⟩
theorem hassector_nil (sec : Int) (w : World) : Calls Try.prog 63 #[.pointer none, .int .i64 sec] w fun e w' => e = .returned (.bool false) ∧ w = w' := by
  go_enter Try.func63, Try.ntmps63
  go_wp2
  go_ret
  exact ⟨rfl, rfl⟩
/-- is there such a one of n? -/
def inL (n : Nat) (i : Int) : Bool := decide (0 ≤ i ∧ i < n)
theorem inL_eq (n : Nat) (i : Int) : (decide (0 ≤ i) && decide (i ≤ (n : Int) - 1)) = inL n i := by
  unfold inL; rw [← Bool.decide_and]; exact decide_eq_decide.2 (by omega)
theorem haspage_any (fb : Nat) (aD : Option Addr) (lD cD : Nat) (page : Int) (w : World) (c4 : w.cell? ⟨fb, 4, none⟩ = some (.slice aD lD cD)) (hl : lD ≤ 1000000) : Calls Try.prog 69 #[.pointer (some ⟨fb, 0, none⟩), .int .i64 page] w fun e w' => e = .returned (.bool (inL lD page)) ∧ w = w' := by
  have hwr : IntKind.i64.wrap ((lD : Int) - 1) = (lD : Int) - 1 := by rw [IntKind.wrap_i64]; omega
  rw [← inL_eq]
  go_enter Try.func69, Try.ntmps69
  go_wp2_with (go_at_call 35; refine (within_any _ _ _ _).mono ?_; rintro e w' ⟨rfl, rfl⟩)
  go_ret
  exact ⟨rfl, rfl⟩
theorem hassector_any (fb : Nat) (aW : Option Addr) (lW cW : Nat) (sec : Int) (w : World) (c5 : w.cell? ⟨fb, 5, none⟩ = some (.slice aW lW cW)) (hl : lW ≤ 1000000) : Calls Try.prog 63 #[.pointer (some ⟨fb, 0, none⟩), .int .i64 sec] w fun e w' => e = .returned (.bool (inL lW sec)) ∧ w = w' := by
  have hwr : IntKind.i64.wrap ((lW : Int) - 1) = (lW : Int) - 1 := by rw [IntKind.wrap_i64]; omega
  rw [← inL_eq]
  go_enter Try.func63, Try.ntmps63
  go_wp2_with (go_at_call 35; refine (within_any _ _ _ _).mono ?_; rintro e w' ⟨rfl, rfl⟩)
  go_ret
  exact ⟨rfl, rfl⟩
theorem inL_true {n : Nat} {i : Int} (h : inL n i = true) : ∃ k : Nat, i = k ∧ k < n := by
  have h := of_decide_eq_true h
  exact ⟨i.toNat, by omega, by omega⟩
theorem inL_nat {n k : Nat} (h : k < n) : inL n k = true := decide_eq_true (by omega)
theorem sectorbytes_any (fb : Nat) (p b n : Nat) (w : World) (c1 : w.cell? ⟨fb, 1, none⟩ = some (.int .i64 p)) (c2 : w.cell? ⟨fb, 2, none⟩ = some (.int .i64 b)) (hn : p * b = n) (hl : n ≤ 100000000) : Calls Try.prog 25 #[.pointer (some ⟨fb, 0, none⟩)] w fun e w' => e = .returned (.int .i64 n) ∧ ∃ m, w' = w.drewN m := by
  have hwr : IntKind.i64.wrap ((p : Int) * (b : Int)) = (n : Int) := by rw [← Int.natCast_mul, hn, IntKind.wrap_i64]; omega
  clear hn
  go_enter Try.func25, Try.ntmps25
  go_wp2
  go_quiet (fail)
  go_wp2
  go_ret
  exact ⟨rfl, _, rfl⟩
theorem on_nil (w : World) : Calls Try.prog 13 #[.pointer none] w fun e w' => e = .returned (.bool false) ∧ w = w' := by
  go_enter Try.func13, Try.ntmps13
  go_wp2
  go_ret
  exact ⟨rfl, rfl⟩
theorem on_any (fb : Nat) (pw : Int) (w : World) (c7 : w.cell? ⟨fb, 7, none⟩ = some (.int .i64 pw)) : Calls Try.prog 13 #[.pointer (some ⟨fb, 0, none⟩)] w fun e w' => e = .returned (.bool (pw != 0)) ∧ w = w' := by
  go_enter Try.func13, Try.ntmps13
  go_wp2
  go_ret
  exact ⟨rfl, rfl⟩
theorem ops_nil (w : World) : Calls Try.prog 18 #[.pointer none] w fun e w' => e = .returned (.int .i64 0) ∧ w = w' := by
  go_enter Try.func18, Try.ntmps18
  go_wp2
  go_ret
  exact ⟨rfl, rfl⟩
theorem ops_any (fb : Nat) (n : Int) (w : World) (c6 : w.cell? ⟨fb, 6, none⟩ = some (.int .i64 n)) : Calls Try.prog 18 #[.pointer (some ⟨fb, 0, none⟩)] w fun e w' => e = .returned (.int .i64 n) ∧ w = w' := by
  go_enter Try.func18, Try.ntmps18
  go_wp2
  go_ret
  exact ⟨rfl, rfl⟩
theorem geometry_nil (w : World) : Calls Try.prog 39 #[.pointer none] w fun e w' => e = .returned (.agg #[.int .i64 0, .int .i64 0, .int .i64 0]) ∧ w.grownBy w' none := by
  go_enter Try.func39, Try.ntmps39
  go_wp2
  exact bodyPost_ret (v := .agg #[.int .i64 0, .int .i64 0, .int .i64 0]) (by simp [results, Try.results39, go_sem]) rfl ⟨rfl, World.grownBy_alloc _ _ _⟩
theorem geometry_any (fb : Nat) (s p b : Int) (w : World) (c0 : w.cell? ⟨fb, 0, none⟩ = some (.int .i64 s)) (c1 : w.cell? ⟨fb, 1, none⟩ = some (.int .i64 p)) (c2 : w.cell? ⟨fb, 2, none⟩ = some (.int .i64 b)) : Calls Try.prog 39 #[.pointer (some ⟨fb, 0, none⟩)] w fun e w' => e = .returned (.agg #[.int .i64 s, .int .i64 p, .int .i64 b]) ∧ w.grownBy w' none := by
  have d0 : ∀ o, (w.alloc o).cell? ⟨fb, 0, none⟩ = some (.int .i64 s) := fun o => by rw [((Below.refl _ w).alloc (Nat.le_refl _) o).cell (cell_lt c0)]; exact c0
  have d1 : ∀ o, (w.alloc o).cell? ⟨fb, 1, none⟩ = some (.int .i64 p) := fun o => by rw [((Below.refl _ w).alloc (Nat.le_refl _) o).cell (cell_lt c1)]; exact c1
  have d2 : ∀ o, (w.alloc o).cell? ⟨fb, 2, none⟩ = some (.int .i64 b) := fun o => by rw [((Below.refl _ w).alloc (Nat.le_refl _) o).cell (cell_lt c2)]; exact c2
  go_enter Try.func39, Try.ntmps39
  go_wp2
  exact bodyPost_ret (v := .agg #[.int .i64 s, .int .i64 p, .int .i64 b]) (by simp [results, Try.results39, go_sem]) rfl ⟨rfl, World.grownBy_alloc _ _ _⟩
/-- which page is dirty -/
def drt (D : List Bool) (i : Int) : Bool := inL D.length i && D.getD i.toNat false
def wrn (W : List Int) (i : Int) : Int := if inL W.length i then W.getD i.toNat 0 else 0
end Go.Proofs.Ytfhgbddeclldnaa

namespace Go.Proofs.Ytfhgbddeclldnaa
open Go.RowKit
set_option maxRecDepth 100000
set_option linter.unusedSimpArgs false
set_option linter.unusedVariables false

theorem pieceb_any (g n i b lo : Nat) (w : World) (hlo : i * b = lo) (hfit : lo + b ≤ n) (h0 : 0 < b) (hn : n ≤ 100000000) (hi : i ≤ 100000000) :
    Calls Try.prog 64 #[.slice (some ⟨g, 0, none⟩) n n, .int .i64 i, .int .i64 b] w fun e w' => e = .returned (.slice (some ⟨g, lo, none⟩) b (n - lo)) ∧ w = w' := by
  have hw1 : IntKind.i64.wrap ((i : Int) * (b : Int)) = (lo : Int) := by rw [← Int.natCast_mul, hlo, IntKind.wrap_i64]; omega
  have hw2 : IntKind.i64.wrap ((i : Int) + 1) = (i : Int) + 1 := by rw [IntKind.wrap_i64]; omega
  have hw3 : IntKind.i64.wrap (((i : Int) + 1) * (b : Int)) = ((lo + b : Nat) : Int) := by rw [Int.add_mul, Int.one_mul, ← Int.natCast_mul, hlo, IntKind.wrap_i64]; omega
  have hbb : lo + b - lo = b := by omega
  have hne : ¬ n = lo := by omega
  clear hlo
  generalize hh : lo + b = hi' at hw3 hbb hfit
  have h1 : lo ≤ hi' := by omega
  clear hh
  go_enter Try.func64, Try.ntmps64
  go_wp2
  go_ret
  exact ⟨rfl, rfl⟩
theorem pieced_any (g n i b lo : Nat) (w : World) (hlo : i * b = lo) (hfit : lo + b ≤ n) (h0 : 0 < b) (hn : n ≤ 100000000) (hi : i ≤ 100000000) :
    Calls Try.prog 65 #[.slice (some ⟨g, 0, none⟩) n n, .int .i64 i, .int .i64 b] w fun e w' => e = .returned (.slice (some ⟨g, lo, none⟩) b (n - lo)) ∧ w = w' := by
  have hw1 : IntKind.i64.wrap ((i : Int) * (b : Int)) = (lo : Int) := by rw [← Int.natCast_mul, hlo, IntKind.wrap_i64]; omega
  have hw2 : IntKind.i64.wrap ((i : Int) + 1) = (i : Int) + 1 := by rw [IntKind.wrap_i64]; omega
  have hw3 : IntKind.i64.wrap (((i : Int) + 1) * (b : Int)) = ((lo + b : Nat) : Int) := by rw [Int.add_mul, Int.one_mul, ← Int.natCast_mul, hlo, IntKind.wrap_i64]; omega
  have hbb : lo + b - lo = b := by omega
  have hne : ¬ n = lo := by omega
  clear hlo
  generalize hh : lo + b = hi' at hw3 hbb hfit
  have h1 : lo ≤ hi' := by omega
  clear hh
  go_enter Try.func65, Try.ntmps65
  go_wp2
  go_ret
  exact ⟨rfl, rfl⟩
theorem splice_len {cur cs : List Value} {o : Nat} (h : o + cs.length ≤ cur.length) : (splice cur o cs).length = cur.length := by
  unfold splice; simp; omega
/-- where a row was filled so far -/
structure Fd (w0 W : World) (g : Nat) (t : TypeId) (cs : List Value) : Prop where
  box : Box W g t cs
  gr : w0.grownBy W (some g)
  sz : W.heap.size = w0.heap.size
theorem Fd.step {w0 W : World} {g : Nat} {t : TypeId} {cur : List Value} {o j : Nat} {v : Value} (h : Fd w0 W g t (splice cur o (List.replicate j v))) (hf : o + j < cur.length) : Fd w0 (W.setCell ⟨g, o + j, none⟩ v) g t (splice cur o (List.replicate (j + 1) v)) := by
  refine ⟨?_, grown_trans h.gr (grown_set _ _ _ _), by rw [size_set]; exact h.sz⟩
  have := h.box.set (o + j) v
  have e := splice_set cur o (List.replicate j v) v (by simpa using hf)
  rw [List.length_replicate] at e
  rw [e, ← List.replicate_succ'] at this
  exact this
theorem Fd.cell {w0 W : World} {g : Nat} {t : TypeId} {cur : List Value} {o j : Nat} {v : Value} (h : Fd w0 W g t (splice cur o (List.replicate j v))) (hf : o + j < cur.length) : ∃ u, W.cell? ⟨g, o + j, none⟩ = some u := by
  rw [h.box.c]
  exact ⟨_, List.getElem?_eq_getElem (by rw [splice_len (by simp; omega)]; exact hf)⟩
set_option maxHeartbeats 1000000 in
theorem fillb_any (a : Option Addr) (g off n cap : Nat) (cur : List Value) (x : Int) (w : World) (hB : Box w g 5 cur) (ha : 0 < n → a = some ⟨g, off, none⟩) (hfit : off + n ≤ cur.length) (hn : n ≤ 100000000) :
    Calls Try.prog 22 #[.slice a n cap, .int .u8 x] w fun e w' => e = .returned (.tuple #[]) ∧ Fd w w' g 5 (splice cur off (List.replicate n (.int .u8 x))) := by
  have HF : Hid (Fd w w g 5 (splice cur off (List.replicate 0 (.int .u8 x)))) := ⟨by rw [List.replicate_zero, splice_nil]; exact hB, World.grownBy.refl _ _, rfl⟩
  clear hB
  go_enter Try.func22, Try.ntmps22
  go_wp2
  go_loopw [7] (fun vi wr => ∃ j : Nat, vi = .int .i64 j ∧ j ≤ n ∧ Hid (Fd w wr g 5 (splice cur off (List.replicate j (.int .u8 x))))) (fun vi _ => n - (intOf vi).toNat)
  case atStart => exact ⟨0, rfl, Nat.zero_le _, HF⟩
  case round =>
    clear HF
    obtain ⟨j, rfl, j1, HO⟩ := hrel
    by_cases k1 : j < n
    · obtain rfl := ha (by omega)
      obtain ⟨u, cu⟩ := HO.out.cell (by omega)
      have fu := HO.out.box.f (off + j)
      have HS : Hid _ := HO.out.step (by omega)
      clear HO ha
      go_wp2
      go_roundw
      case rel => exact ⟨j + 1, by go_num, by omega, HS⟩
      case measure => simp [intOf]; omega
    · have ej : j = n := by omega
      subst ej
      go_wp2
      go_end0
      exact ⟨rfl, HO.out⟩
set_option maxHeartbeats 1000000 in
theorem filld_any (a : Option Addr) (g off n cap : Nat) (cur : List Value) (x : Bool) (w : World) (hB : Box w g 4 cur) (ha : 0 < n → a = some ⟨g, off, none⟩) (hfit : off + n ≤ cur.length) (hn : n ≤ 100000000) :
    Calls Try.prog 67 #[.slice a n cap, .bool x] w fun e w' => e = .returned (.tuple #[]) ∧ Fd w w' g 4 (splice cur off (List.replicate n (.bool x))) := by
  have HF : Hid (Fd w w g 4 (splice cur off (List.replicate 0 (.bool x)))) := ⟨by rw [List.replicate_zero, splice_nil]; exact hB, World.grownBy.refl _ _, rfl⟩
  clear hB
  go_enter Try.func67, Try.ntmps67
  go_wp2
  go_loopw [7] (fun vi wr => ∃ j : Nat, vi = .int .i64 j ∧ j ≤ n ∧ Hid (Fd w wr g 4 (splice cur off (List.replicate j (.bool x))))) (fun vi _ => n - (intOf vi).toNat)
  case atStart => exact ⟨0, rfl, Nat.zero_le _, HF⟩
  case round =>
    clear HF
    obtain ⟨j, rfl, j1, HO⟩ := hrel
    by_cases k1 : j < n
    · obtain rfl := ha (by omega)
      obtain ⟨u, cu⟩ := HO.out.cell (by omega)
      have fu := HO.out.box.f (off + j)
      have HS : Hid _ := HO.out.step (by omega)
      clear HO ha
      go_wp2
      go_roundw
      case rel => exact ⟨j + 1, by go_num, by omega, HS⟩
      case measure => simp [intOf]; omega
    · have ej : j = n := by omega
      subst ej
      go_wp2
      go_end0
      exact ⟨rfl, HO.out⟩
end Go.Proofs.Ytfhgbddeclldnaa

namespace Go.Proofs.Ytfhgbddeclldnaa
open Go.RowKit
set_option maxRecDepth 100000
set_option linter.unusedSimpArgs false
set_option linter.unusedVariables false

/-- only blocks of F were written, and new ones made -/
structure Chg (F : Nat → Prop) (w w' : World) : Prop where
  os : w'.os = w.os
  tape : w'.tape = w.tape
  output : w'.output = w.output
  size : w.heap.size ≤ w'.heap.size
  block : ∀ k, k < w.heap.size → ¬ F k → w'.heap[k]? = w.heap[k]?
theorem Chg.refl (F : Nat → Prop) (w : World) : Chg F w w := ⟨rfl, rfl, rfl, Nat.le_refl _, fun _ _ _ => rfl⟩
theorem Chg.trans {F : Nat → Prop} {a b c : World} (h : Chg F a b) (k : Chg F b c) : Chg F a c :=
  ⟨k.os.trans h.os, k.tape.trans h.tape, k.output.trans h.output, Nat.le_trans h.size k.size, fun i hi hF => (k.block i (Nat.lt_of_lt_of_le hi h.size) hF).trans (h.block i hi hF)⟩
theorem Chg.mono {F F' : Nat → Prop} {a b : World} (h : Chg F a b) (hF : ∀ k, F k → F' k) : Chg F' a b := ⟨h.os, h.tape, h.output, h.size, fun k hk hn => h.block k hk fun x => hn (hF k x)⟩
theorem Chg.of_none {a b : World} (h : a.grownBy b none) (F : Nat → Prop) : Chg F a b := ⟨h.os, h.tape, h.output, h.size, fun k hk _ => h.block k hk (by simp)⟩
theorem Chg.of_some {a b : World} {g : Nat} (h : a.grownBy b (some g)) {F : Nat → Prop} (hF : F g) : Chg F a b := ⟨h.os, h.tape, h.output, h.size, fun k hk hn => h.block k hk (by intro e; injection e with e; subst e; exact hn hF)⟩
theorem Chg.set {F : Nat → Prop} {w : World} {g i : Nat} {v : Value} (hF : F g) : Chg F w (w.setCell ⟨g, i, none⟩ v) := Chg.of_some (grown_set w g i v) hF
theorem Chg.drewN {F : Nat → Prop} {a b : World} (h : Chg F a b) (n : Nat) : Chg F a (b.drewN n) := by
  have hd : ∀ m, Chg F b (b.drewN m) := fun m => by
    have := (Chg.refl F b)
    induction m with
    | zero => exact this
    | succ k ih => exact ⟨ih.os, ih.tape, ih.output, ih.size, ih.block⟩
  exact h.trans (hd n)
theorem Chg.box {F : Nat → Prop} {w w' : World} {g : Nat} {t : TypeId} {cs : List Value} (h : Chg F w w') (hb : Box w g t cs) (hF : ¬ F g) : Box w' g t cs := ⟨by rw [h.block g hb.lt hF]; exact hb.blk⟩
theorem Chg.row' {F : Nat → Prop} {w w' : World} {a : Option Addr} {n : Nat} {xs : List Int} (h : Chg F w w') (R : Row w a n xs) (hF : ∀ b o, a = some ⟨b, o, none⟩ → 0 < n → ¬ F b) : Row w' a n xs := R.but' fun b o e h0 hb => h.block b hb (hF b o e h0)
theorem Chg.row {F : Nat → Prop} {w w' : World} {a : Option Addr} {n : Nat} {xs : List Int} (h : Chg F w w') (R : Row w a n xs) (hF : ∀ b o, a = some ⟨b, o, none⟩ → ¬ F b) : Row w' a n xs := R.but fun b o e hb => h.block b hb (hF b o e)
theorem Chg.below {F : Nat → Prop} {w w' : World} {B : Nat} (h : Chg F w w') (hB : B ≤ w.heap.size) (hF : ∀ k, F k → B ≤ k) : Below B w w' := ⟨h.os, h.tape, h.output, h.size, fun k hk => h.block k (by omega) fun x => by have := hF k x; omega⟩
theorem Fd.chg {w w' : World} {g : Nat} {t : TypeId} {cs : List Value} (h : Fd w w' g t cs) {F : Nat → Prop} (hF : F g) : Chg F w w' := Chg.of_some h.gr hF
theorem Fd.box' {w w' : World} {g g' : Nat} {t t' : TypeId} {cs cs' : List Value} (h : Fd w w' g t cs) (hb : Box w g' t' cs') (hne : g' ≠ g) : Box w' g' t' cs' := (h.chg (F := fun k => k = g) rfl).box hb hne

section
variable (fb : Nat) (x0 x1 x2 x3 x4 x5 x9 : Value) (ops left : Int) (w : World)
theorem step_off (hB : Box w fb 59 [x0, x1, x2, x3, x4, x5, .int .i64 ops, .int .i64 0, .int .i64 left, x9]) : Calls Try.prog 66 #[.pointer (some ⟨fb, 0, none⟩)] w fun e w' => e = .returned (.int .i64 0) ∧ w = w' := by
  obtain ⟨c0, c1, c2, c3, c4, c5, c6, c7, c8, c9⟩ := hB.c10
  clear hB c0 c1 c2 c3 c4 c5 c9
  go_enter Try.func66, Try.ntmps66
  go_wp2
  go_ret
  exact ⟨rfl, rfl⟩
theorem step_on (hB : Box w fb 59 [x0, x1, x2, x3, x4, x5, .int .i64 ops, .int .i64 1, .int .i64 left, x9]) (ho : 0 ≤ ops ∧ ops < 1000000) : Calls Try.prog 66 #[.pointer (some ⟨fb, 0, none⟩)] w fun e w' => e = .returned (.int .i64 1) ∧ Fd w w' fb 59 [x0, x1, x2, x3, x4, x5, .int .i64 (ops + 1), .int .i64 1, .int .i64 left, x9] := by
  obtain ⟨c0, c1, c2, c3, c4, c5, c6, c7, c8, c9⟩ := hB.c10
  have f6 := hB.f 6
  have hwr : IntKind.i64.wrap (ops + 1) = ops + 1 := by rw [IntKind.wrap_i64]; omega
  have HF : Hid (Fd w (w.setCell ⟨fb, 6, none⟩ (.int .i64 (ops + 1))) fb 59 [x0, x1, x2, x3, x4, x5, .int .i64 (ops + 1), .int .i64 1, .int .i64 left, x9]) := ⟨hB.set 6 _, grown_set _ _ _ _, size_set _ _ _⟩
  clear hB c0 c1 c2 c3 c4 c5 c9
  go_enter Try.func66, Try.ntmps66
  go_wp2
  go_ret
  exact ⟨rfl, HF.out⟩
theorem step_more (hB : Box w fb 59 [x0, x1, x2, x3, x4, x5, .int .i64 ops, .int .i64 2, .int .i64 left, x9]) (ho : 0 ≤ ops ∧ ops < 1000000) (hl : 1 < left ∧ left ≤ 9223372036854775807) : Calls Try.prog 66 #[.pointer (some ⟨fb, 0, none⟩)] w fun e w' => e = .returned (.int .i64 1) ∧ Fd w w' fb 59 [x0, x1, x2, x3, x4, x5, .int .i64 (ops + 1), .int .i64 2, .int .i64 (left - 1), x9] := by
  obtain ⟨c0, c1, c2, c3, c4, c5, c6, c7, c8, c9⟩ := hB.c10
  have f6 := hB.f 6
  have f8 := hB.f 8
  have hwr : IntKind.i64.wrap (ops + 1) = ops + 1 := by rw [IntKind.wrap_i64]; omega
  have hwl : IntKind.i64.wrap (left - 1) = left - 1 := by rw [IntKind.wrap_i64]; omega
  have hz : (left - 1 == 0) = false := by simp; omega
  have HF : Hid (Fd w ((w.setCell ⟨fb, 8, none⟩ (.int .i64 (left - 1))).setCell ⟨fb, 6, none⟩ (.int .i64 (ops + 1))) fb 59 [x0, x1, x2, x3, x4, x5, .int .i64 (ops + 1), .int .i64 2, .int .i64 (left - 1), x9]) := ⟨(hB.set 8 _).set 6 _, grown_trans (grown_set _ _ _ _) (grown_set _ _ _ _), by rw [size_set, size_set]⟩
  clear hB c0 c1 c2 c3 c4 c5 c9
  go_enter Try.func66, Try.ntmps66
  go_wp2
  go_ret
  exact ⟨rfl, HF.out⟩
theorem step_last (hB : Box w fb 59 [x0, x1, x2, x3, x4, x5, .int .i64 ops, .int .i64 2, .int .i64 1, x9]) (ho : 0 ≤ ops ∧ ops < 1000000) : Calls Try.prog 66 #[.pointer (some ⟨fb, 0, none⟩)] w fun e w' => e = .returned (.int .i64 2) ∧ Fd w w' fb 59 [x0, x1, x2, x3, x4, x5, .int .i64 (ops + 1), .int .i64 0, .int .i64 0, x9] := by
  obtain ⟨c0, c1, c2, c3, c4, c5, c6, c7, c8, c9⟩ := hB.c10
  have f6 := hB.f 6
  have f7 := hB.f 7
  have f8 := hB.f 8
  have hwr : IntKind.i64.wrap (ops + 1) = ops + 1 := by rw [IntKind.wrap_i64]; omega
  have HF : Hid (Fd w (((w.setCell ⟨fb, 8, none⟩ (.int .i64 0)).setCell ⟨fb, 7, none⟩ (.int .i64 0)).setCell ⟨fb, 6, none⟩ (.int .i64 (ops + 1))) fb 59 [x0, x1, x2, x3, x4, x5, .int .i64 (ops + 1), .int .i64 0, .int .i64 0, x9]) := ⟨((hB.set 8 _).set 7 _).set 6 _, grown_trans (grown_trans (grown_set _ _ _ _) (grown_set _ _ _ _)) (grown_set _ _ _ _), by rw [size_set, size_set, size_set]⟩
  clear hB c0 c1 c2 c3 c4 c5 c9
  go_enter Try.func66, Try.ntmps66
  go_wp2
  go_ret
  exact ⟨rfl, HF.out⟩
end
theorem Try.size5 : (Try.prog.info? 5).map (·.size) = some 1 := by kernel_rfl
/-- what is copied over a row of bytes -/
theorem splice_bv {B X : List Int} {o : Nat} : splice (bv B) o (bv X) = bv (B.take o ++ X ++ B.drop (o + X.length)) := by
  unfold splice bv; simp [List.map_take, List.map_drop]
set_option maxHeartbeats 1000000 in
theorem tear_any (fb bb lo n cP : Nat) (B : List Int) (x0 x1 x2 x3 x4 x5 x6 x7 x8 : Value) (aT : Option Addr) (cT : Nat) (T : List Int) (w : World) (hB : Box w fb 59 [x0, x1, x2, x3, x4, x5, x6, x7, x8, .slice aT T.length cT]) (hb : Box w bb 5 (bv B)) (hne : fb ≠ bb) (RT : Row w aT T.length T) (hfit : lo + n ≤ B.length) :
    Calls Try.prog 68 #[.pointer (some ⟨fb, 0, none⟩), .slice (some ⟨bb, lo, none⟩) n cP] w fun e w' => e = .returned (.tuple #[]) ∧ Box w' fb 59 [x0, x1, x2, x3, x4, x5, x6, x7, x8, .slice none 0 0] ∧ Box w' bb 5 (bv (B.take lo ++ T.take n ++ B.drop (lo + (T.take n).length))) ∧ Chg (fun k => k = fb ∨ k = bb) w w' := by
  have c9 : w.cell? ⟨fb, 9, none⟩ = some (.slice aT T.length cT) := hB.c 9
  have hsrc : 0 < (bv (T.take n)).length → ∃ ad, aT = some ad ∧ ∀ j v, (bv (T.take n))[j]? = some v → w.cell? (ad.add j) = some v := by
    intro h0
    obtain ⟨ad, e, hc⟩ := RT.src (by rw [bv_length, List.length_take] at h0; rw [bv_length]; omega)
    refine ⟨ad, e, fun j v hj => hc j v ?_⟩
    rw [← hj]
    unfold bv
    rw [List.map_take, List.getElem?_take]
    split
    · rfl
    · rename_i hn
      unfold bv at hj
      rw [List.map_take, List.getElem?_take, if_neg hn] at hj
      cases hj
  have HB : Hid _ := hB
  have Hb : Hid _ := hb
  have HS : Hid _ := hsrc
  clear hB hb hsrc
  go_enter Try.func68, Try.ntmps68
  go_wp2_with (first | ((with_reducible refine copy_here ?_); go_loud (refine wpList_copy8 rfl _ _ 27 27 rfl Try.underlying27 Try.size5 _ _ _ _ _ _ rfl rfl bb lo (bv B) Hb.out.blk (bv (T.take n)) (by rw [bv_length, List.length_take, Nat.min_comm]) (fun h0 => ⟨rfl, HS.out h0⟩) (by rw [bv_length, bv_length, List.length_take]; omega) (bv_one _) ?_)))
  intro w1 hb1 hg1 hs1
  have hB1 : Box w1 fb 59 _ := (Chg.of_some hg1 (F := fun k => k = bb) rfl).box HB.out hne
  have f9 := hB1.f 9
  have d9 : w1.cell? ⟨fb, 9, none⟩ = some (.slice aT T.length cT) := hB1.c 9
  have HX : Hid _ := And.intro hB1 (And.intro hb1 hg1)
  clear HB Hb HS c9 hB1 hb1 hg1
  go_wp2
  go_end0
  obtain ⟨hB1, hb1, hg1⟩ := HX.out
  refine ⟨rfl, hB1.set 9 _, ?_, (Chg.of_some hg1 (Or.inr rfl)).trans (Chg.set (Or.inl rfl))⟩
  rw [splice_bv] at hb1
  exact (Box.mk hb1).far 9 _ (Ne.symm hne)
theorem splice_two' (B Y : List Int) (lo k : Nat) (h : lo + Y.length + k ≤ B.length) : splice (splice (bv B) lo (bv Y)) (lo + Y.length) (List.replicate k (.int .u8 255)) = bv (B.take lo ++ (Y ++ ffs k) ++ B.drop (lo + (Y.length + k))) := by
  have e : List.replicate k (Value.int .u8 255) = bv (ffs k) := by unfold bv ffs; simp
  rw [e, splice_bv, splice_bv]
  congr 1
  rw [List.take_append_of_le_length (by simp; omega), List.take_of_length_le (by simp; omega), List.drop_append, List.drop_eq_nil_of_le (by simp; omega), List.drop_drop]
  simp [ffs]
  omega
set_option maxHeartbeats 1000000 in
theorem play_any (fb bb db lo n cP i : Nat) (B : List Int) (D : List Bool) (cD : Nat) (x0 x1 x2 x3 x5 x6 x7 x8 x9 : Value) (a2 : Option Addr) (c2 : Nat) (ys : List Int) (w : World) (hB : Box w fb 59 [x0, x1, x2, x3, .slice (some ⟨db, 0, none⟩) D.length cD, x5, x6, x7, x8, x9]) (hb : Box w bb 5 (bv B)) (hd : Box w db 4 (D.map Value.bool)) (n1 : fb ≠ bb) (n2 : bb ≠ db) (RY : Row w a2 ys.length ys) (hfit : lo + n ≤ B.length) (hly : ys.length ≤ n) (hcP : n ≤ cP) (hcm : cP ≤ 100000000) (hi : i < D.length) :
    Calls Try.prog 70 #[.pointer (some ⟨fb, 0, none⟩), .int .i64 i, .slice (some ⟨bb, lo, none⟩) n cP, .slice a2 ys.length c2] w fun e w' => e = .returned (.tuple #[]) ∧ Box w' bb 5 (bv (B.take lo ++ (ys ++ ffs (n - ys.length)) ++ B.drop (lo + n))) ∧ Box w' db 4 ((D.set i true).map Value.bool) ∧ Chg (fun k => k = bb ∨ k = db) w w' := by
  have HB : Hid _ := hB
  have Hb : Hid _ := hb
  have Hd : Hid _ := hd
  have HS : Hid _ := RY.src
  have hmn : (bv ys).length = Nat.min ys.length n := by rw [bv_length]; exact (Nat.min_eq_left hly).symm
  have HM : Hid _ := hmn
  clear hB hb hd hmn
  go_enter Try.func70, Try.ntmps70
  go_wp2_with (first | ((with_reducible refine copy_here ?_); go_loud (refine wpList_copy8 rfl _ _ 27 27 rfl Try.underlying27 Try.size5 _ _ _ _ _ _ rfl rfl bb lo (bv B) Hb.out.blk (bv ys) HM.out (fun h0 => ⟨rfl, HS.out h0⟩) (by rw [bv_length, bv_length]; omega) (bv_one _) ?_)))
  intro w1 hb1 hg1 hs1
  rw [bv_length]
  have hB1 : Box w1 fb 59 _ := (Chg.of_some hg1 (F := fun k => k = bb) rfl).box HB.out n1
  have hd1 : Box w1 db 4 _ := (Chg.of_some hg1 (F := fun k => k = bb) rfl).box Hd.out (Ne.symm n2)
  have Hg : Hid _ := And.intro hB1 (And.intro hd1 hg1)
  have fin : ∀ aa ll, (0 < n - ys.length → aa = some ⟨bb, lo + ys.length, none⟩) → Calls Try.prog 22 #[.slice aa (n - ys.length) ll, .int .u8 255] w1 fun e w' => e = .returned (.tuple #[]) ∧ Fd w1 w' bb 5 (bv (B.take lo ++ (ys ++ ffs (n - ys.length)) ++ B.drop (lo + n))) := by
    intro aa ll haa
    refine (fillb_any aa bb (lo + ys.length) (n - ys.length) ll _ 255 w1 ⟨hb1⟩ haa (by rw [splice_bv, bv_length]; simp; omega) (by omega)).mono ?_
    rintro e w' ⟨rfl, h⟩
    refine ⟨rfl, ?_⟩
    rw [splice_two' _ _ _ _ (by omega)] at h
    rw [show ys.length + (n - ys.length) = n by omega] at h
    exact h
  have Hf : Hid _ := fin
  clear HB Hb Hd HS HM hB1 hd1 hb1 hg1 hs1 fin RY
  have hcase : cP = ys.length ∨ ¬ cP = ys.length := by omega
  have tl : ∀ w2, Fd w1 w2 bb 5 (bv (B.take lo ++ (ys ++ ffs (n - ys.length)) ++ B.drop (lo + n))) → w2.cell? ⟨fb, 4, none⟩ = some (.slice (some ⟨db, 0, none⟩) D.length cD) ∧ (∃ u, w2.cell? ⟨db, i, none⟩ = some u) ∧ w2.frozen? ⟨db, i, none⟩ = false ∧ Hid (Box (w2.setCell ⟨db, i, none⟩ (.bool true)) bb 5 (bv (B.take lo ++ (ys ++ ffs (n - ys.length)) ++ B.drop (lo + n))) ∧ Box (w2.setCell ⟨db, i, none⟩ (.bool true)) db 4 ((D.set i true).map Value.bool) ∧ Chg (fun k => k = bb ∨ k = db) w (w2.setCell ⟨db, i, none⟩ (.bool true))) := by
    intro w2 hF
    obtain ⟨hB1, hd1, hg1⟩ := Hg.out
    have hB2 := hF.box' hB1 n1
    have hd2 := hF.box' hd1 (Ne.symm n2)
    refine ⟨hB2.c 4, ⟨_, by rw [hd2.c i, List.getElem?_map, List.getElem?_eq_getElem hi]; rfl⟩, hd2.f i, hF.box.far i _ n2, ?_, ?_⟩
    · rw [List.map_set]; exact hd2.set i _
    · exact ((Chg.of_some hg1 (Or.inl rfl)).trans (hF.chg (Or.inl rfl))).trans (Chg.set (Or.inr rfl))
  have HT : Hid _ := tl
  clear tl Hg
  generalize hBN : (bv (B.take lo ++ (ys ++ ffs (n - ys.length)) ++ B.drop (lo + n))) = BN at Hf HT
  generalize hDN : (D.set i true).map Value.bool = DN at HT
  have HN : Hid _ := And.intro hBN hDN
  clear hBN hDN
  rcases hcase with hc | hc
  · subst hc
    have hz : n - ys.length = 0 := by omega
    have hcl := Hf.out (some ⟨bb, lo, none⟩) 0 (by omega)
    rw [hz] at hcl
    go_wp2_with fail
    with_reducible refine hcl.mono ?_
    rintro e w2 ⟨rfl, hF⟩
    obtain ⟨c4, ⟨u, cu⟩, fu, HZ⟩ := HT.out w2 hF
    clear HT Hf hF hcl
    go_wp2
    go_end0
    exact ⟨rfl, by rw [HN.out.1, HN.out.2]; exact HZ.out⟩
  · have hcl := Hf.out (some ⟨bb, lo + ys.length, none⟩) (cP - ys.length) (fun _ => rfl)
    go_wp2_with fail
    with_reducible refine hcl.mono ?_
    rintro e w2 ⟨rfl, hF⟩
    obtain ⟨c4, ⟨u, cu⟩, fu, HZ⟩ := HT.out w2 hF
    clear HT Hf hF hcl
    go_wp2
    go_end0
    exact ⟨rfl, by rw [HN.out.1, HN.out.2]; exact HZ.out⟩
end Go.Proofs.Ytfhgbddeclldnaa
