/- The document's Join. -/
import Derived.Test.YtngalihnckbkfaaNE
namespace Go.Proofs.Ytngalihnckbkfaa
open Go.RowKit
set_option maxRecDepth 100000
set_option linter.unusedSimpArgs false
set_option linter.unusedVariables false

theorem bad_any (s : ByteArray) : ∀ k, k ≤ s.size → bad s k = (s.toList.take k).any fun c => c == 47 || c == 0
  | 0, _ => rfl
  | k + 1, h => by
    rw [bad_succ, take_get (by omega), List.any_append, bad_any s k (by omega)]
    congr 1
    rw [← byt_in (by omega)]
    simp only [List.any_cons, List.any_nil, Bool.or_false]
    congr 1
    · rw [Bool.eq_iff_iff, beq_iff_eq, beq_iff_eq]; exact ⟨fun h => UInt8.toNat_inj.1 h, fun h => by rw [h]; rfl⟩
    · rw [Bool.eq_iff_iff, beq_iff_eq, beq_iff_eq]; exact ⟨fun h => UInt8.toNat_inj.1 h, fun h => by rw [h]; rfl⟩
theorem val_vld (s : ByteArray) : val s = vld s.toList := by
  unfold val vld
  rw [tl_len, bad_any s s.size (Nat.le_refl _), List.take_of_length_le (by rw [tl_len]; exact Nat.le_refl _)]
theorem tx_app (a b : Tx) : tx a ++ tx b = tx (a ++ b) := by
  apply tl_inj
  rw [tx_tl, ByteArray.toList_eq]
  simp [tx]
theorem tx_app2 (a : Tx) (x : ByteArray) : tx a ++ x = tx (a ++ x.toList) := by rw [← tx_app, tl_tx]
theorem tx_size (a : Tx) : (tx a).size = a.length := by rw [← tl_len, tx_tl]
/-- so long are the first k parts at most, with their slashes -/
theorem joi_len (l : List Tx) (m : Nat) (h : ∀ p ∈ l, p.length ≤ m) : (joi l).length ≤ l.length * (m + 1) := by
  induction l with
  | nil => simp [joi]
  | cons p r ih =>
    have h1 := h p (List.mem_cons_self ..)
    have h2 := ih (fun q hq => h q (List.mem_cons_of_mem _ hq))
    cases r with
    | nil => simp [joi]; omega
    | cons q t =>
      rw [joi, List.length_append, List.length_cons, List.length_cons, Nat.succ_mul]
      omega
end Go.Proofs.Ytngalihnckbkfaa
