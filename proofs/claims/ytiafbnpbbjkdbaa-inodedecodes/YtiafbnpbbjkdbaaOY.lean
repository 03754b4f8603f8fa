/- An inode's fields come from the reader: the walk. -/
import Derived.Test.YtiafbnpbbjkdbaaOX
import Derived.Test.YtiafbnpbbjkdbaaOI
namespace Go.Proofs.Ytiafbnpbbjkdbaa
open Go.RowKit
set_option maxRecDepth 100000
set_option linter.unusedSimpArgs false
set_option linter.unusedVariables false
/-- a right inode's bytes begin there -/
def Pre15 (bs : List Int) (at_ : Nat) (n : Nd) : Prop := (Rt15 n ∧ chk15 n = 0) ∧ n.ws.length = n.wl ∧ enb15 n <+: bs.drop at_
def No15 (bs : List Int) (at_ : Nat) : Prop := ∀ n, ¬ Pre15 bs at_ n
/-- a number at an offset of bytes that begin so -/
theorem fv_of {bs : List Int} {at_ : Nat} {A B : List Int} {x : Int} {m : Nat} (h : (A ++ (sto x m ++ B)) <+: bs.drop at_) : fv15 bs at_ A.length m = x % 256 ^ m := by
  obtain ⟨t, ht⟩ := h
  unfold fv15
  rw [← List.drop_drop, ← ht, List.append_assoc, List.append_assoc, List.drop_left, List.take_append_of_le_length (by rw [sto_length]; exact Nat.le_refl _), List.take_of_length_le (by rw [sto_length]; exact Nat.le_refl _), le_sto]
theorem pre_len {bs : List Int} {at_ : Nat} {n : Nd} (h : enb15 n <+: bs.drop at_) (hz : 0 < (enb15 n).length) : at_ + (enb15 n).length ≤ bs.length := by
  have := h.length_le
  rw [List.length_drop] at this
  omega
theorem enb_len {n : Nd} (h : Rt15 n) (hw : n.ws.length = n.wl) : (n.kd = 1 → (enb15 n).length = 48 + 4 * n.wl) ∧ (n.kd = 2 → (enb15 n).length = 32) ∧ (n.kd = 3 → (enb15 n).length = 22 + n.tg.size) ∧ (3 < n.kd → (enb15 n).length = 24) ∧ 23 ≤ (enb15 n).length := by
  have hk := h.kd
  have e1 : n.kd = 1 → (enb15 n).length = 48 + 4 * n.wl := fun e => by
    unfold enb15; rw [if_pos e]; unfold kb1; simp only [List.length_append, sto_length, hdb15_len, wds_len]; omega
  have e2 : n.kd = 2 → (enb15 n).length = 32 := fun e => by
    unfold enb15; rw [if_neg (by omega), if_pos e]; unfold kb2; simp only [List.length_append, sto_length, hdb15_len]
  have e3 : n.kd = 3 → (enb15 n).length = 22 + n.tg.size := fun e => by
    unfold enb15; rw [if_neg (by omega), if_neg (by omega), if_pos e]; unfold kb3; simp only [List.length_append, sto_length, hdb15_len, nums_len]; omega
  have e4 : 3 < n.kd → (enb15 n).length = 24 := fun e => by
    unfold enb15; rw [if_neg (by omega), if_neg (by omega), if_neg (by omega)]; unfold kb4; simp only [List.length_append, sto_length, hdb15_len]
  refine ⟨e1, e2, e3, e4, ?_⟩
  rcases (by omega : n.kd = 1 ∨ n.kd = 2 ∨ n.kd = 3 ∨ 3 < n.kd) with e | e | e | e
  · rw [e1 e]; omega
  · rw [e2 e]; omega
  · rw [e3 e]; have := (h.k3 e).1; omega
  · rw [e4 e]; omega
theorem enb_head (n : Nd) : ∃ t, enb15 n = hdb15 n ++ t := by
  unfold enb15
  split
  · unfold kb1; exact ⟨_, by simp only [List.append_assoc]; rfl⟩
  · split
    · unfold kb2; exact ⟨_, by simp only [List.append_assoc]; rfl⟩
    · split
      · unfold kb3; exact ⟨_, rfl⟩
      · unfold kb4; exact ⟨_, rfl⟩
theorem pre_kd {bs : List Int} {at_ : Nat} {n : Nd} (h : Pre15 bs at_ n) : IntKind.i64.wrap (fv15 bs at_ 0 2) = n.kd := by
  obtain ⟨⟨hr, _⟩, hw, hp⟩ := h
  obtain ⟨t, ht⟩ := enb_head n
  have e : enb15 n = [] ++ (sto n.kd 2 ++ (sto n.md 2 ++ sto n.ui 2 ++ sto n.gi 2 ++ sto n.tm 4 ++ sto n.ln 4 ++ sto n.at_ 4 ++ t)) := by
    rw [ht]; unfold hdb15; simp only [List.append_assoc, List.nil_append]
  rw [e] at hp
  have := fv_of hp
  rw [List.length_nil] at this
  rw [this, IntKind.wrap_i64]
  have hk := hr.kd
  have e256 : (256 : Int) ^ 2 = 65536 := rfl
  rw [e256]
  omega
theorem no_head {bs : List Int} {at_ L : Nat} (hL : L ≤ 22) (h : bs.length < at_ + L) : No15 bs at_ := fun n ⟨⟨hr, _⟩, hw, hp⟩ => by
  have h1 := enb_len hr hw
  have := pre_len hp (by omega)
  omega
theorem no_kind {bs : List Int} {at_ : Nat} {x0 : Int} (hx : x0 = IntKind.i64.wrap (fv15 bs at_ 0 2)) {P : Prop} (h : ∀ n, Pre15 bs at_ n → n.kd = x0 → False) : No15 bs at_ := fun n hn => h n hn (by rw [hx]; exact (pre_kd hn).symm)
theorem no_1 {bs : List Int} {at_ L : Nat} (hx : (1 : Int) = IntKind.i64.wrap (fv15 bs at_ 0 2)) (hL : L ≤ 48) (h : bs.length < at_ + L) : No15 bs at_ := no_kind hx (P := True) fun n hn e => by
  have h1 := (enb_len hn.1.1 hn.2.1).1 e
  have := pre_len hn.2.2 (by omega)
  omega
theorem no_2 {bs : List Int} {at_ L : Nat} (hx : (2 : Int) = IntKind.i64.wrap (fv15 bs at_ 0 2)) (hL : L ≤ 32) (h : bs.length < at_ + L) : No15 bs at_ := no_kind hx (P := True) fun n hn e => by
  have h1 := (enb_len hn.1.1 hn.2.1).2.1 e
  have := pre_len hn.2.2 (by omega)
  omega
theorem no_4 {bs : List Int} {at_ L : Nat} {x0 : Int} (h3 : 3 < x0) (hx : x0 = IntKind.i64.wrap (fv15 bs at_ 0 2)) (hL : L ≤ 24) (h : bs.length < at_ + L) : No15 bs at_ := no_kind hx (P := True) fun n hn e => by
  have h1 := (enb_len hn.1.1 hn.2.1).2.2.2.1 (by omega)
  have := pre_len hn.2.2 (by omega)
  omega
theorem pre_wl {bs : List Int} {at_ : Nat} {n : Nd} (h : Pre15 bs at_ n) (e : n.kd = 1) : (fv15 bs at_ 44 4).toNat = n.wl := by
  obtain ⟨⟨hr, _⟩, hw, hp⟩ := h
  have hx : enb15 n = (hdb15 n ++ (sto n.sz 8 ++ sto n.st 4 ++ sto n.fr 4 ++ sto n.of_ 4 ++ sto n.tl 4)) ++ (sto n.wl 4 ++ wds n.ws) := by
    unfold enb15; rw [if_pos e]; unfold kb1; simp only [List.append_assoc]
  rw [hx] at hp
  have := fv_of hp
  have hl : (hdb15 n ++ (sto n.sz 8 ++ sto n.st 4 ++ sto n.fr 4 ++ sto n.of_ 4 ++ sto n.tl 4)).length = 44 := by simp only [List.length_append, sto_length, hdb15_len]
  rw [hl] at this
  rw [this]
  have h6 := (hr.k1 e).2.2.2.2.2.1
  have e256 : (256 : Int) ^ 4 = 4294967296 := rfl
  rw [e256]
  omega
theorem pre_tl {bs : List Int} {at_ : Nat} {n : Nd} (h : Pre15 bs at_ n) (e : n.kd = 3) : (fv15 bs at_ 20 2).toNat = n.tg.size := by
  obtain ⟨⟨hr, _⟩, hw, hp⟩ := h
  have hx : enb15 n = hdb15 n ++ (sto n.tg.size 2 ++ nums n.tg) := by
    unfold enb15; rw [if_neg (by omega), if_neg (by omega), if_pos e]; unfold kb3; rfl
  rw [hx] at hp
  have := fv_of hp
  rw [hdb15_len] at this
  rw [this]
  have h6 := (hr.k3 e).2.1
  have e256 : (256 : Int) ^ 2 = 65536 := rfl
  rw [e256]
  omega
theorem no_1w {bs : List Int} {at_ : Nat} (hx : (1 : Int) = IntKind.i64.wrap (fv15 bs at_ 0 2)) (h : bs.length < at_ + 44 + 4 ∨ 65536 < (fv15 bs at_ 44 4).toNat ∨ bs.length < at_ + 44 + 4 + 4 * (fv15 bs at_ 44 4).toNat) : No15 bs at_ := no_kind hx (P := True) fun n hn e => by
  have h1 := (enb_len hn.1.1 hn.2.1).1 e
  have h2 := pre_len hn.2.2 (by omega)
  have h3 := pre_wl hn e
  have h4 := (hn.1.1.k1 e).2.2.2.2.2.1
  omega
theorem no_3t {bs : List Int} {at_ : Nat} (hx : (3 : Int) = IntKind.i64.wrap (fv15 bs at_ 0 2)) (h : bs.length < at_ + 20 + 2 ∨ bs.length < at_ + 20 + 2 + (fv15 bs at_ 20 2).toNat) : No15 bs at_ := no_kind hx (P := True) fun n hn e => by
  have h1 := (enb_len hn.1.1 hn.2.1).2.2.1 e
  have h2 := pre_len hn.2.2 (by omega)
  have h3 := pre_tl hn e
  have h4 := (hn.1.1.k3 e).1
  omega
end Go.Proofs.Ytiafbnpbbjkdbaa
