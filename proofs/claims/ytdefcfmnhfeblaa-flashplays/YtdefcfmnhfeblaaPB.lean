/- The program's flash: pieces, filled rows. -/
import Derived.Test.YtdefcfmnhfeblaaPA
namespace Go.Proofs.Ytdefcfmnhfeblaa
open Go.RowKit
set_option linter.unusedSimpArgs false
set_option linter.unusedVariables false

theorem pieceb_any (g n i b lo : Nat) (w : World) (hlo : i * b = lo) (hfit : lo + b ≤ n) (h0 : 0 < b) (hn : n ≤ 100000000) (hi : i ≤ 100000000) :
    Calls Try.prog 36 #[.slice (some ⟨g, 0, none⟩) n n, .int .i64 i, .int .i64 b] w fun e w' => e = .returned (.slice (some ⟨g, lo, none⟩) b (n - lo)) ∧ w = w' := by
  have hw1 : IntKind.i64.wrap ((i : Int) * (b : Int)) = (lo : Int) := by rw [← Int.natCast_mul, hlo, IntKind.wrap_i64]; omega
  have hw2 : IntKind.i64.wrap ((i : Int) + 1) = (i : Int) + 1 := by rw [IntKind.wrap_i64]; omega
  have hw3 : IntKind.i64.wrap (((i : Int) + 1) * (b : Int)) = ((lo + b : Nat) : Int) := by rw [Int.add_mul, Int.one_mul, ← Int.natCast_mul, hlo, IntKind.wrap_i64]; omega
  have hbb : lo + b - lo = b := by omega
  have hne : ¬ n = lo := by omega
  clear hlo
  generalize hh : lo + b = hi' at hw3 hbb hfit
  have h1 : lo ≤ hi' := by omega
  clear hh
  go_enter Try.func36, Try.ntmps36
  go_wp2
  go_ret
  exact ⟨rfl, rfl⟩
theorem pieced_any (g n i b lo : Nat) (w : World) (hlo : i * b = lo) (hfit : lo + b ≤ n) (h0 : 0 < b) (hn : n ≤ 100000000) (hi : i ≤ 100000000) :
    Calls Try.prog 42 #[.slice (some ⟨g, 0, none⟩) n n, .int .i64 i, .int .i64 b] w fun e w' => e = .returned (.slice (some ⟨g, lo, none⟩) b (n - lo)) ∧ w = w' := by
  have hw1 : IntKind.i64.wrap ((i : Int) * (b : Int)) = (lo : Int) := by rw [← Int.natCast_mul, hlo, IntKind.wrap_i64]; omega
  have hw2 : IntKind.i64.wrap ((i : Int) + 1) = (i : Int) + 1 := by rw [IntKind.wrap_i64]; omega
  have hw3 : IntKind.i64.wrap (((i : Int) + 1) * (b : Int)) = ((lo + b : Nat) : Int) := by rw [Int.add_mul, Int.one_mul, ← Int.natCast_mul, hlo, IntKind.wrap_i64]; omega
  have hbb : lo + b - lo = b := by omega
  have hne : ¬ n = lo := by omega
  clear hlo
  generalize hh : lo + b = hi' at hw3 hbb hfit
  have h1 : lo ≤ hi' := by omega
  clear hh
  go_enter Try.func42, Try.ntmps42
  go_wp2
  go_ret
  exact ⟨rfl, rfl⟩
theorem splice_len {cur cs : List Value} {o : Nat} (h : o + cs.length ≤ cur.length) : (splice cur o cs).length = cur.length := by
  unfold splice; simp; omega
/-- where a row was filled so far -/
structure Fd (w0 W : World) (g : Nat) (t : TypeId) (cs : List Value) : Prop where
  box : Box W g t cs
  gr : w0.grownBy W (some g)
  sz : W.heap.size = w0.heap.size
theorem Fd.step {w0 W : World} {g : Nat} {t : TypeId} {cur : List Value} {o j : Nat} {v : Value} (h : Fd w0 W g t (splice cur o (List.replicate j v))) (hf : o + j < cur.length) : Fd w0 (W.setCell ⟨g, o + j, none⟩ v) g t (splice cur o (List.replicate (j + 1) v)) := by
  refine ⟨?_, grown_trans h.gr (grown_set _ _ _ _), by rw [size_set]; exact h.sz⟩
  have := h.box.set (o + j) v
  have e := splice_set cur o (List.replicate j v) v (by simpa using hf)
  rw [List.length_replicate] at e
  rw [e, ← List.replicate_succ'] at this
  exact this
theorem Fd.cell {w0 W : World} {g : Nat} {t : TypeId} {cur : List Value} {o j : Nat} {v : Value} (h : Fd w0 W g t (splice cur o (List.replicate j v))) (hf : o + j < cur.length) : ∃ u, W.cell? ⟨g, o + j, none⟩ = some u := by
  rw [h.box.c]
  exact ⟨_, List.getElem?_eq_getElem (by rw [splice_len (by simp; omega)]; exact hf)⟩
set_option maxHeartbeats 1000000 in
theorem fillb_any (a : Option Addr) (g off n cap : Nat) (cur : List Value) (x : Int) (w : World) (hB : Box w g 5 cur) (ha : 0 < n → a = some ⟨g, off, none⟩) (hfit : off + n ≤ cur.length) (hn : n ≤ 100000000) :
    Calls Try.prog 29 #[.slice a n cap, .int .u8 x] w fun e w' => e = .returned (.tuple #[]) ∧ Fd w w' g 5 (splice cur off (List.replicate n (.int .u8 x))) := by
  have HF : Hid (Fd w w g 5 (splice cur off (List.replicate 0 (.int .u8 x)))) := ⟨by rw [List.replicate_zero, splice_nil]; exact hB, World.grownBy.refl _ _, rfl⟩
  clear hB
  go_enter Try.func29, Try.ntmps29
  go_wp2
  go_loopw [7] (fun vi wr => ∃ j : Nat, vi = .int .i64 j ∧ j ≤ n ∧ Hid (Fd w wr g 5 (splice cur off (List.replicate j (.int .u8 x))))) (fun vi _ => n - (intOf vi).toNat)
  case atStart => exact ⟨0, rfl, Nat.zero_le _, HF⟩
  case round =>
    clear HF
    obtain ⟨j, rfl, j1, HO⟩ := hrel
    by_cases k1 : j < n
    · obtain rfl := ha (by omega)
      obtain ⟨u, cu⟩ := HO.out.cell (by omega)
      have fu := HO.out.box.f (off + j)
      have HS : Hid _ := HO.out.step (by omega)
      clear HO ha
      go_wp2
      go_roundw
      case rel => exact ⟨j + 1, by go_num, by omega, HS⟩
      case measure => simp [intOf]; omega
    · have ej : j = n := by omega
      subst ej
      go_wp2
      go_end0
      exact ⟨rfl, HO.out⟩
set_option maxHeartbeats 1000000 in
theorem filld_any (a : Option Addr) (g off n cap : Nat) (cur : List Value) (x : Bool) (w : World) (hB : Box w g 4 cur) (ha : 0 < n → a = some ⟨g, off, none⟩) (hfit : off + n ≤ cur.length) (hn : n ≤ 100000000) :
    Calls Try.prog 43 #[.slice a n cap, .bool x] w fun e w' => e = .returned (.tuple #[]) ∧ Fd w w' g 4 (splice cur off (List.replicate n (.bool x))) := by
  have HF : Hid (Fd w w g 4 (splice cur off (List.replicate 0 (.bool x)))) := ⟨by rw [List.replicate_zero, splice_nil]; exact hB, World.grownBy.refl _ _, rfl⟩
  clear hB
  go_enter Try.func43, Try.ntmps43
  go_wp2
  go_loopw [7] (fun vi wr => ∃ j : Nat, vi = .int .i64 j ∧ j ≤ n ∧ Hid (Fd w wr g 4 (splice cur off (List.replicate j (.bool x))))) (fun vi _ => n - (intOf vi).toNat)
  case atStart => exact ⟨0, rfl, Nat.zero_le _, HF⟩
  case round =>
    clear HF
    obtain ⟨j, rfl, j1, HO⟩ := hrel
    by_cases k1 : j < n
    · obtain rfl := ha (by omega)
      obtain ⟨u, cu⟩ := HO.out.cell (by omega)
      have fu := HO.out.box.f (off + j)
      have HS : Hid _ := HO.out.step (by omega)
      clear HO ha
      go_wp2
      go_roundw
      case rel => exact ⟨j + 1, by go_num, by omega, HS⟩
      case measure => simp [intOf]; omega
    · have ej : j = n := by omega
      subst ej
      go_wp2
      go_end0
      exact ⟨rfl, HO.out⟩
end Go.Proofs.Ytdefcfmnhfeblaa
