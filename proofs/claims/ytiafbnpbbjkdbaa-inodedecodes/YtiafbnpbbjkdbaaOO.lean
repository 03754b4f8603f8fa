/- What is read is what was told, and the other way round. -/
import Derived.Test.YtiafbnpbbjkdbaaOY
namespace Go.Proofs.Ytiafbnpbbjkdbaa
open Go.RowKit
set_option maxRecDepth 100000
set_option linter.unusedSimpArgs false
set_option linter.unusedVariables false
theorem sto_le : ∀ (l : List Int), Byt l → sto (le l) l.length = l
  | [], _ => rfl
  | b :: r, h => by
    have ih := sto_le r (fun x hx => h x (List.mem_cons_of_mem _ hx))
    have hb := h b (List.mem_cons_self ..)
    have e1 : le (b :: r) = b + 256 * le r := rfl
    have e2 : sto (le (b :: r)) (r.length + 1) = (le (b :: r) % 256) :: sto (le (b :: r) / 256) r.length := rfl
    show sto (le (b :: r)) (r.length + 1) = b :: r
    rw [e2, e1]
    have e3 : (b + 256 * le r) % 256 = b := by omega
    have e4 : (b + 256 * le r) / 256 = le r := by omega
    rw [e3, e4, ih]
theorem fv_bd {bs : List Int} (hb : Byt bs) (at_ L m : Nat) : 0 ≤ fv15 bs at_ L m ∧ fv15 bs at_ L m < 256 ^ m := by
  have h := (hb.drop (at_ + L)).take m
  exact ⟨le_nonneg h, le_lt_of h m (by simp; omega)⟩
theorem sto_fv {bs : List Int} (hb : Byt bs) {at_ L m : Nat} (h : at_ + L + m ≤ bs.length) : sto (fv15 bs at_ L m) m = ((bs.drop at_).drop L).take m := by
  have h1 := sto_le ((bs.drop (at_ + L)).take m) ((hb.drop (at_ + L)).take m)
  have h2 : ((bs.drop (at_ + L)).take m).length = m := by rw [List.length_take, List.length_drop]; omega
  rw [h2] at h1
  rw [List.drop_drop]
  exact h1
theorem sto_fw {bs : List Int} (hb : Byt bs) {at_ L m : Nat} (hm : m ≤ 4) (h : at_ + L + m ≤ bs.length) {x : Int} (hx : x = IntKind.i64.wrap (fv15 bs at_ L m)) : sto x m = ((bs.drop at_).drop L).take m := by
  have hbd := fv_bd hb at_ L m
  have h3 : (256 : Int) ^ m ≤ 256 ^ 4 := by
    rcases (by omega : m = 0 ∨ m = 1 ∨ m = 2 ∨ m = 3 ∨ m = 4) with rfl | rfl | rfl | rfl | rfl <;> decide
  have e4 : (256 : Int) ^ 4 = 4294967296 := rfl
  have e : IntKind.i64.wrap (fv15 bs at_ L m) = fv15 bs at_ L m := by rw [IntKind.wrap_i64]; omega
  rw [hx, e]
  exact sto_fv hb h
theorem sto_f8 {bs : List Int} (hb : Byt bs) {at_ L : Nat} (h : at_ + L + 8 ≤ bs.length) {x : Int} (hx : x = IntKind.i64.wrap (fv15 bs at_ L 8)) (h0 : 0 ≤ x) : sto x 8 = ((bs.drop at_).drop L).take 8 := by
  have hbd := fv_bd hb at_ L 8
  have e4 : (256 : Int) ^ 8 = 18446744073709551616 := rfl
  have e : IntKind.i64.wrap (fv15 bs at_ L 8) = fv15 bs at_ L 8 := by
    rw [hx] at h0
    rw [IntKind.wrap_i64] at h0 ⊢
    omega
  rw [hx, e]
  exact sto_fv hb h
theorem sto_fs {bs : List Int} (hb : Byt bs) {at_ L : Nat} (h : at_ + L + 4 ≤ bs.length) {x : Int} (hx : x = sg15 (fv15 bs at_ L 4)) : sto x 4 = ((bs.drop at_).drop L).take 4 := by
  rw [← sto_fv hb h, hx, ← sto_mod4 (sg15 _), ← sto_mod4 (fv15 _ _ _ _)]
  congr 1
  unfold sg15
  rw [IntKind.wrap_i32]
  omega
theorem acc15 {l A s : List Int} {L m : Nat} (h : A = l.take L) (k : s = (l.drop L).take m) : A ++ s = l.take (L + m) := by
  rw [h, k, List.take_add]
theorem wds_rdw {bs : List Int} (hb : Byt bs) (p : Nat) : ∀ n, p + 4 * n ≤ bs.length → wds (rdw bs p n) = (bs.drop p).take (4 * n)
  | 0, _ => by simp [wds, rdw]
  | n + 1, h => by
    have ih := wds_rdw hb p n (by omega)
    have h2 := sto_fv hb (at_ := p) (L := 4 * n) (m := 4) (by omega)
    rw [rdw_succ, wds_snoc, ih]
    unfold fv15 at h2
    rw [h2]
    exact acc15 rfl rfl
theorem nums_str {xs : List Int} (h : Byt xs) : nums (strOfNums xs) = xs := by
  unfold nums
  have e := str_toList xs
  rw [ByteArray.toList_eq] at e
  rw [e, List.map_map]
  have : ∀ x ∈ xs, ((fun c : UInt8 => (c.toNat : Int)) ∘ fun n : Int => UInt8.ofNat n.toNat) x = x := fun x hx => by
    have := h x hx
    simp only [Function.comp]
    have e2 : (UInt8.ofNat x.toNat).toNat = x.toNat % 256 := by simp
    rw [e2]
    omega
  conv => rhs; rw [← List.map_id xs]
  exact List.map_congr_left (fun x hx => by rw [this x hx]; rfl)
theorem nums_inj {s t : ByteArray} (h : nums s = nums t) : s = t := by
  unfold nums at h
  have h2 : s.data.toList = t.data.toList := by
    exact (List.map_inj_right (fun a b e => UInt8.toNat_inj.1 (by omega))).1 h
  cases s; cases t
  simp only at h2
  congr 1
  exact Array.toList_inj.1 h2
theorem str_size (xs : List Int) : (strOfNums xs).size = xs.length := by
  rw [← nums_len]
  unfold nums
  have e := str_toList xs
  rw [ByteArray.toList_eq] at e
  rw [List.length_map, e, List.length_map]
theorem read_1 {bs : List Int} (hb : Byt bs) {at_ len : Nat} (hl : bs.length = len) {x1 x2 x3 x4 x5 x6 x7 x8 x9 x10 x11 : Int} {wa : Option Addr} {wl wc : Nat} {ws : List Int} (hwl : ws.length = wl) (h0 : 0 ≤ x7) (hle : at_ + 48 ≤ len) (e : (((((((((((((True ∧ 1 = IntKind.i64.wrap (fv15 bs at_ 0 2)) ∧ x1 = IntKind.i64.wrap (fv15 bs at_ 2 2)) ∧ x2 = IntKind.i64.wrap (fv15 bs at_ 4 2)) ∧ x3 = IntKind.i64.wrap (fv15 bs at_ 6 2)) ∧ x4 = IntKind.i64.wrap (fv15 bs at_ 8 4)) ∧ x5 = IntKind.i64.wrap (fv15 bs at_ 12 4)) ∧ x6 = sg15 (fv15 bs at_ 16 4)) ∧ x7 = IntKind.i64.wrap (fv15 bs at_ 20 8)) ∧ x8 = IntKind.i64.wrap (fv15 bs at_ 28 4)) ∧ x9 = sg15 (fv15 bs at_ 32 4)) ∧ x10 = IntKind.i64.wrap (fv15 bs at_ 36 4)) ∧ x11 = IntKind.i64.wrap (fv15 bs at_ 40 4)) ∧ ws = rdw bs (at_ + 44 + 4) (fv15 bs at_ 44 4).toNat ∧ (fv15 bs at_ 44 4).toNat ≤ 65536 ∧ at_ + 44 + 4 + 4 * (fv15 bs at_ 44 4).toNat ≤ len)) : enb15 ⟨1, x1, x2, x3, x4, x5, x6, x7, x8, wa, wl, wc, ws, x9, x10, x11, 0, 0, 0, ⟨#[]⟩, 0⟩ = (bs.drop at_).take ((44 + 4 + 4 * (fv15 bs at_ 44 4).toNat)) := by
  have s0 : ([] : List Int) = (bs.drop at_).take 0 := rfl
  have s1 := acc15 s0 (sto_fw hb (by decide) (by omega) e.1.1.1.1.1.1.1.1.1.1.1.1.2)
  have s2 := acc15 s1 (sto_fw hb (by decide) (by omega) e.1.1.1.1.1.1.1.1.1.1.1.2)
  have s3 := acc15 s2 (sto_fw hb (by decide) (by omega) e.1.1.1.1.1.1.1.1.1.1.2)
  have s4 := acc15 s3 (sto_fw hb (by decide) (by omega) e.1.1.1.1.1.1.1.1.1.2)
  have s5 := acc15 s4 (sto_fw hb (by decide) (by omega) e.1.1.1.1.1.1.1.1.2)
  have s6 := acc15 s5 (sto_fw hb (by decide) (by omega) e.1.1.1.1.1.1.1.2)
  have s7 := acc15 s6 (sto_fs hb (by omega) e.1.1.1.1.1.1.2)
  have s8 := acc15 s7 (sto_f8 hb (by omega) e.1.1.1.1.1.2 h0)
  have s9 := acc15 s8 (sto_fw hb (by decide) (by omega) e.1.1.1.1.2)
  have s10 := acc15 s9 (sto_fs hb (by omega) e.1.1.1.2)
  have s11 := acc15 s10 (sto_fw hb (by decide) (by omega) e.1.1.2)
  have s12 := acc15 s11 (sto_fw hb (by decide) (by omega) e.1.2)
  have d12 := e.2
  have hn : wl = (fv15 bs at_ 44 4).toNat := by rw [← hwl, d12.1, rdw_len]
  have hbd := fv_bd hb at_ 44 4
  have q1 : sto (wl : Int) 4 = ((bs.drop at_).drop 44).take 4 := by rw [← sto_fv hb (by omega), hn]; congr 1; omega
  have q2 : wds ws = ((bs.drop at_).drop 48).take (4 * (fv15 bs at_ 44 4).toNat) := by rw [d12.1, wds_rdw hb _ _ (by have := d12.2.2; omega), List.drop_drop]
  have s13 := acc15 (acc15 s12 q1) q2
  unfold enb15
  rw [if_pos rfl]
  unfold kb1 hdb15
  simp only [List.append_assoc] at s13 ⊢
  exact s13
theorem read_2 {bs : List Int} (hb : Byt bs) {at_ len : Nat} (hl : bs.length = len) {x1 x2 x3 x4 x5 x6 x7 x8 x9 : Int} (hle : at_ + 32 ≤ len) (e : ((((((((((True ∧ 2 = IntKind.i64.wrap (fv15 bs at_ 0 2)) ∧ x1 = IntKind.i64.wrap (fv15 bs at_ 2 2)) ∧ x2 = IntKind.i64.wrap (fv15 bs at_ 4 2)) ∧ x3 = IntKind.i64.wrap (fv15 bs at_ 6 2)) ∧ x4 = IntKind.i64.wrap (fv15 bs at_ 8 4)) ∧ x5 = IntKind.i64.wrap (fv15 bs at_ 12 4)) ∧ x6 = sg15 (fv15 bs at_ 16 4)) ∧ x7 = IntKind.i64.wrap (fv15 bs at_ 20 4)) ∧ x8 = IntKind.i64.wrap (fv15 bs at_ 24 4)) ∧ x9 = IntKind.i64.wrap (fv15 bs at_ 28 4))) : enb15 ⟨2, x1, x2, x3, x4, x5, x6, 0, 0, none, 0, 0, [], 0, 0, 0, x7, x8, x9, ⟨#[]⟩, 0⟩ = (bs.drop at_).take (32) := by
  have s0 : ([] : List Int) = (bs.drop at_).take 0 := rfl
  have s1 := acc15 s0 (sto_fw hb (by decide) (by omega) e.1.1.1.1.1.1.1.1.1.2)
  have s2 := acc15 s1 (sto_fw hb (by decide) (by omega) e.1.1.1.1.1.1.1.1.2)
  have s3 := acc15 s2 (sto_fw hb (by decide) (by omega) e.1.1.1.1.1.1.1.2)
  have s4 := acc15 s3 (sto_fw hb (by decide) (by omega) e.1.1.1.1.1.1.2)
  have s5 := acc15 s4 (sto_fw hb (by decide) (by omega) e.1.1.1.1.1.2)
  have s6 := acc15 s5 (sto_fw hb (by decide) (by omega) e.1.1.1.1.2)
  have s7 := acc15 s6 (sto_fs hb (by omega) e.1.1.1.2)
  have s8 := acc15 s7 (sto_fw hb (by decide) (by omega) e.1.1.2)
  have s9 := acc15 s8 (sto_fw hb (by decide) (by omega) e.1.2)
  have s10 := acc15 s9 (sto_fw hb (by decide) (by omega) e.2)
  unfold enb15
  rw [if_neg (show ¬ (2 : Int) = 1 by decide), if_pos rfl]
  exact s10
theorem read_3 {bs : List Int} (hb : Byt bs) {at_ len : Nat} (hl : bs.length = len) {x1 x2 x3 x4 x5 x6 : Int} {xs : List Int} (hxs : Byt xs) (hle : at_ + 22 ≤ len) (e : ((((((((True ∧ 3 = IntKind.i64.wrap (fv15 bs at_ 0 2)) ∧ x1 = IntKind.i64.wrap (fv15 bs at_ 2 2)) ∧ x2 = IntKind.i64.wrap (fv15 bs at_ 4 2)) ∧ x3 = IntKind.i64.wrap (fv15 bs at_ 6 2)) ∧ x4 = IntKind.i64.wrap (fv15 bs at_ 8 4)) ∧ x5 = IntKind.i64.wrap (fv15 bs at_ 12 4)) ∧ x6 = sg15 (fv15 bs at_ 16 4)) ∧ xs = (bs.drop (at_ + 20 + 2)).take (fv15 bs at_ 20 2).toNat ∧ at_ + 20 + 2 + (fv15 bs at_ 20 2).toNat ≤ len)) : enb15 ⟨3, x1, x2, x3, x4, x5, x6, 0, 0, none, 0, 0, [], 0, 0, 0, 0, 0, 0, (strOfNums xs), 0⟩ = (bs.drop at_).take ((20 + 2 + (fv15 bs at_ 20 2).toNat)) := by
  have s0 : ([] : List Int) = (bs.drop at_).take 0 := rfl
  have s1 := acc15 s0 (sto_fw hb (by decide) (by omega) e.1.1.1.1.1.1.1.2)
  have s2 := acc15 s1 (sto_fw hb (by decide) (by omega) e.1.1.1.1.1.1.2)
  have s3 := acc15 s2 (sto_fw hb (by decide) (by omega) e.1.1.1.1.1.2)
  have s4 := acc15 s3 (sto_fw hb (by decide) (by omega) e.1.1.1.1.2)
  have s5 := acc15 s4 (sto_fw hb (by decide) (by omega) e.1.1.1.2)
  have s6 := acc15 s5 (sto_fw hb (by decide) (by omega) e.1.1.2)
  have s7 := acc15 s6 (sto_fs hb (by omega) e.1.2)
  have d7 := e.2
  have hn : ((strOfNums xs).size : Int) = fv15 bs at_ 20 2 := by
    have hbd := fv_bd hb at_ 20 2
    have := d7.2
    rw [str_size, d7.1, List.length_take, List.length_drop]
    omega
  have q1 : sto ((strOfNums xs).size : Int) 2 = ((bs.drop at_).drop 20).take 2 := by rw [hn]; exact sto_fv hb (by omega)
  have q2 : nums (strOfNums xs) = ((bs.drop at_).drop 22).take (fv15 bs at_ 20 2).toNat := by rw [nums_str hxs, d7.1, List.drop_drop]
  have s8 := acc15 (acc15 s7 q1) q2
  unfold enb15
  rw [if_neg (show ¬ (3 : Int) = 1 by decide), if_neg (show ¬ (3 : Int) = 2 by decide), if_pos rfl]
  unfold kb3 hdb15
  simp only [List.append_assoc] at s8 ⊢
  exact s8
theorem read_4 {bs : List Int} (hb : Byt bs) {at_ len : Nat} (hl : bs.length = len) {x1 x2 x3 x4 x5 x6 x7 : Int} (hle : at_ + 24 ≤ len) (e : ((((((((True ∧ 4 = IntKind.i64.wrap (fv15 bs at_ 0 2)) ∧ x1 = IntKind.i64.wrap (fv15 bs at_ 2 2)) ∧ x2 = IntKind.i64.wrap (fv15 bs at_ 4 2)) ∧ x3 = IntKind.i64.wrap (fv15 bs at_ 6 2)) ∧ x4 = IntKind.i64.wrap (fv15 bs at_ 8 4)) ∧ x5 = IntKind.i64.wrap (fv15 bs at_ 12 4)) ∧ x6 = sg15 (fv15 bs at_ 16 4)) ∧ x7 = IntKind.i64.wrap (fv15 bs at_ 20 4))) : enb15 ⟨4, x1, x2, x3, x4, x5, x6, 0, 0, none, 0, 0, [], 0, 0, 0, 0, 0, 0, ⟨#[]⟩, x7⟩ = (bs.drop at_).take (24) := by
  have s0 : ([] : List Int) = (bs.drop at_).take 0 := rfl
  have s1 := acc15 s0 (sto_fw hb (by decide) (by omega) e.1.1.1.1.1.1.1.2)
  have s2 := acc15 s1 (sto_fw hb (by decide) (by omega) e.1.1.1.1.1.1.2)
  have s3 := acc15 s2 (sto_fw hb (by decide) (by omega) e.1.1.1.1.1.2)
  have s4 := acc15 s3 (sto_fw hb (by decide) (by omega) e.1.1.1.1.2)
  have s5 := acc15 s4 (sto_fw hb (by decide) (by omega) e.1.1.1.2)
  have s6 := acc15 s5 (sto_fw hb (by decide) (by omega) e.1.1.2)
  have s7 := acc15 s6 (sto_fs hb (by omega) e.1.2)
  have s8 := acc15 s7 (sto_fw hb (by decide) (by omega) e.2)
  unfold enb15
  rw [if_neg (show ¬ (4 : Int) = 1 by decide), if_neg (show ¬ (4 : Int) = 2 by decide), if_neg (show ¬ (4 : Int) = 3 by decide)]
  exact s8
theorem read_5 {bs : List Int} (hb : Byt bs) {at_ len : Nat} (hl : bs.length = len) {x1 x2 x3 x4 x5 x6 x7 : Int} (hle : at_ + 24 ≤ len) (e : ((((((((True ∧ 5 = IntKind.i64.wrap (fv15 bs at_ 0 2)) ∧ x1 = IntKind.i64.wrap (fv15 bs at_ 2 2)) ∧ x2 = IntKind.i64.wrap (fv15 bs at_ 4 2)) ∧ x3 = IntKind.i64.wrap (fv15 bs at_ 6 2)) ∧ x4 = IntKind.i64.wrap (fv15 bs at_ 8 4)) ∧ x5 = IntKind.i64.wrap (fv15 bs at_ 12 4)) ∧ x6 = sg15 (fv15 bs at_ 16 4)) ∧ x7 = IntKind.i64.wrap (fv15 bs at_ 20 4))) : enb15 ⟨5, x1, x2, x3, x4, x5, x6, 0, 0, none, 0, 0, [], 0, 0, 0, 0, 0, 0, ⟨#[]⟩, x7⟩ = (bs.drop at_).take (24) := by
  have s0 : ([] : List Int) = (bs.drop at_).take 0 := rfl
  have s1 := acc15 s0 (sto_fw hb (by decide) (by omega) e.1.1.1.1.1.1.1.2)
  have s2 := acc15 s1 (sto_fw hb (by decide) (by omega) e.1.1.1.1.1.1.2)
  have s3 := acc15 s2 (sto_fw hb (by decide) (by omega) e.1.1.1.1.1.2)
  have s4 := acc15 s3 (sto_fw hb (by decide) (by omega) e.1.1.1.1.2)
  have s5 := acc15 s4 (sto_fw hb (by decide) (by omega) e.1.1.1.2)
  have s6 := acc15 s5 (sto_fw hb (by decide) (by omega) e.1.1.2)
  have s7 := acc15 s6 (sto_fs hb (by omega) e.1.2)
  have s8 := acc15 s7 (sto_fw hb (by decide) (by omega) e.2)
  unfold enb15
  rw [if_neg (show ¬ (5 : Int) = 1 by decide), if_neg (show ¬ (5 : Int) = 2 by decide), if_neg (show ¬ (5 : Int) = 3 by decide)]
  exact s8
end Go.Proofs.Ytiafbnpbbjkdbaa
