/- The program's boot: the record of bytes. -/
import Derived.Test.YtaedcblphcfkfaaES
import Derived.Laws.BytesArg
import Derived.Lib.Bytes
namespace Go.Proofs.Ytaedcblphcfkfaa
open Go.RowKit
set_option linter.unusedSimpArgs false
set_option linter.unusedVariables false

theorem strOf_inj {xs ys : List Int} (hx : Byt xs) (hy : Byt ys) (h : strOfNums xs = strOfNums ys) : xs = ys := by
  have e : xs.map (fun n => UInt8.ofNat n.toNat) = ys.map fun n => UInt8.ofNat n.toNat := by rw [← strOfNums_data, ← strOfNums_data, h]
  clear h
  induction xs generalizing ys with
  | nil => cases ys with
    | nil => rfl
    | cons y r => simp at e
  | cons x t ih =>
    cases ys with
    | nil => simp at e
    | cons y r =>
      simp only [List.map_cons, List.cons.injEq] at e
      have bx := hx x (List.mem_cons_self ..)
      have bY := hy y (List.mem_cons_self ..)
      have e1 := congrArg UInt8.toNat e.1
      simp only [UInt8.toNat_ofNat'] at e1
      rw [ih (fun z hz => hx z (List.mem_cons_of_mem _ hz)) (fun z hz => hy z (List.mem_cons_of_mem _ hz)) e.2]
      congr 1
      omega
theorem strOf_eq {xs ys : List Int} (hx : Byt xs) (hy : Byt ys) : ((strOfNums xs).toList == (strOfNums ys).toList) = decide (xs = ys) := by
  rw [Go.Lib.strOfNums_toList, Go.Lib.strOfNums_toList]
  by_cases h : xs = ys
  · subst h; simp
  · have : Go.Lib.bytesOf xs ≠ Go.Lib.bytesOf ys := fun e => h (strOf_inj hx hy (by unfold strOfNums; unfold Go.Lib.bytesOf at e; rw [e]))
    simp [h, this]
theorem row_str {w : World} {a : Option Addr} {n : Nat} {xs : List Int} (R : Row w a n xs) (h0 : 0 < n) (c : Nat) : (convert 27 9 (.slice a n c)).run Try.prog w = .ok (.string (strOfNums xs)) w := by
  obtain ⟨b, o, rfl, hc⟩ := R.cells h0
  exact run_convert_bytes_arg (P := Try.prog) w 27 5 Try.underlying27 Try.underlying5 b o n c xs R.len_eq hc 9 Try.underlying9
theorem pequal_any (a b : Option Addr) (n c m d : Nat) (xs ys : List Int) (w : World) (R : Row w a n xs) (R2 : Row w b m ys) (h0 : 0 < n) (h1 : 0 < m) :
    Calls Try.prog 40 #[.slice a n c, .slice b m d] w fun e w' => e = .returned (.bool (decide (xs = ys))) ∧ w = w' := by
  have k1 := row_str R h0 c
  have k2 := row_str R2 h1 d
  rw [← strOf_eq R.byt R2.byt]
  go_enter Try.func40, Try.ntmps40
  go_wp2
  go_ret
  exact ⟨rfl, rfl⟩
theorem rrd_take {bs : List Int} : rrd (bs.take 32) = rrd bs := by
  unfold rrd
  have e : ∀ k n, k + n ≤ 32 → ((bs.take 32).drop k).take n = (bs.drop k).take n := fun k n h => by
    rw [List.drop_take, List.take_take, Nat.min_eq_left (by omega)]
  rw [e 4 8 (by decide), e 16 4 (by decide), e 20 8 (by decide)]
  congr 1
  rw [List.getD_eq_getElem?_getD, List.getD_eq_getElem?_getD, List.getElem?_take, if_pos (by decide)]
end Go.Proofs.Ytaedcblphcfkfaa
