/- What was told is what is read. -/
import Derived.Test.YtiafbnpbbjkdbaaOO
namespace Go.Proofs.Ytiafbnpbbjkdbaa
open Go.RowKit
set_option maxRecDepth 100000
set_option linter.unusedSimpArgs false
set_option linter.unusedVariables false
/-- the same inodes -/
structure Same15 (n m : Nd) : Prop where
  kd : n.kd = m.kd
  md : n.md = m.md
  ui : n.ui = m.ui
  gi : n.gi = m.gi
  tm : n.tm = m.tm
  ln : n.ln = m.ln
  at_ : n.at_ = m.at_
  sz : n.sz = m.sz
  st : n.st = m.st
  fr : n.fr = m.fr
  of_ : n.of_ = m.of_
  tl : n.tl = m.tl
  dr : n.dr = m.dr
  by_ : n.by_ = m.by_
  pr : n.pr = m.pr
  dv : n.dv = m.dv
  ws : n.ws = m.ws
  tg : n.tg = m.tg
theorem chk_zero {n : Nd} (h : chk15 n = 0) : (n.kd ≠ 1 → n.sz = 0 ∧ n.st = 0 ∧ n.wl = 0 ∧ n.fr = 0 ∧ n.of_ = 0 ∧ n.tl = 0) ∧ (n.kd ≠ 2 → n.dr = 0 ∧ n.by_ = 0 ∧ n.pr = 0) ∧ (n.kd ≠ 3 → n.tg = ⟨#[]⟩) ∧ (¬ 3 < n.kd → n.dv = 0) := by
  unfold chk15 at h
  by_cases h1 : inn 1 5 n.kd = true
  · rw [if_pos h1] at h
    by_cases h2 : (hd15 n && rest15 n) = true
    · rw [Bool.and_eq_true] at h2
      have h4 := h2.2
      unfold rest15 at h4
      simp only [Bool.and_eq_true] at h4
      obtain ⟨⟨⟨b1, b2⟩, b3⟩, b4⟩ := h4
      refine ⟨fun e => ?_, fun e => ?_, fun e => ?_, fun e => ?_⟩
      · rw [if_neg (by simpa using e)] at b1
        unfold nofile15 at b1
        simp only [Bool.and_eq_true, beq_iff_eq] at b1
        obtain ⟨⟨⟨⟨⟨c1, c2⟩, c3⟩, c4⟩, c5⟩, c6⟩ := b1
        exact ⟨c1, c2, by omega, c4, c5, c6⟩
      · rw [if_neg (by simpa using e)] at b2
        unfold nodir15 at b2
        simp only [Bool.and_eq_true, beq_iff_eq] at b2
        exact ⟨b2.1.1, b2.1.2, b2.2⟩
      · rw [if_neg (by simpa using e)] at b3
        unfold nolink15 at b3
        have b5 : n.tg.toList = [] := by simpa using b3
        refine nums_inj ?_
        rw [ByteArray.toList_eq] at b5
        unfold nums
        rw [b5]
      · rw [if_neg (by simpa using e)] at b4
        simpa using b4
    · rw [if_neg h2] at h; exact absurd h (by decide)
  · rw [if_neg h1] at h; exact absurd h (by decide)
theorem wds_at {ws : List Int} {i : Nat} (h : i < ws.length) : wds ws = wds (ws.take i) ++ (sto ws[i] 4 ++ wds (ws.drop (i + 1))) := by
  have e : ws = ws.take i ++ (ws[i] :: ws.drop (i + 1)) := by
    rw [List.getElem_cons_drop, List.take_append_drop]
  have k : ∀ (a r : List Int) (x : Int), wds (a ++ (x :: r)) = wds a ++ (sto x 4 ++ wds r) := fun a r x => by simp [wds]
  exact (congrArg wds e).trans (k _ _ _)
theorem rdw_of {bs : List Int} {at_ : Nat} {A ws : List Int} (h : (A ++ wds ws) <+: bs.drop at_) (hw : ∀ x ∈ ws, 0 ≤ x ∧ x ≤ 4294967295) : rdw bs (at_ + A.length) ws.length = ws := by
  apply List.ext_getElem
  · rw [rdw_len]
  · intro i h1 h2
    have hp : ((A ++ wds (ws.take i)) ++ (sto ws[i] 4 ++ wds (ws.drop (i + 1)))) <+: bs.drop at_ := by
      rw [List.append_assoc, ← wds_at h2]; exact h
    have k := fv_of hp
    have hl : (A ++ wds (ws.take i)).length = A.length + 4 * i := by rw [List.length_append, wds_len, List.length_take, Nat.min_eq_left (by omega)]
    rw [hl] at k
    have hx := hw ws[i] (List.getElem_mem h2)
    have e4 : (256 : Int) ^ 4 = 4294967296 := rfl
    rw [e4] at k
    unfold fv15 at k
    simp only [rdw, List.getElem_map, List.getElem_range]
    rw [← Nat.add_assoc] at k
    rw [k]
    omega
theorem same_1 {bs : List Int} {at_ len : Nat} {n0 : Nd} (h : Pre15 bs at_ n0) {x1 x2 x3 x4 x5 x6 x7 x8 x9 x10 x11 : Int} {wa : Option Addr} {wl wc : Nat} {ws : List Int} (e : (((((((((((((True ∧ 1 = IntKind.i64.wrap (fv15 bs at_ 0 2)) ∧ x1 = IntKind.i64.wrap (fv15 bs at_ 2 2)) ∧ x2 = IntKind.i64.wrap (fv15 bs at_ 4 2)) ∧ x3 = IntKind.i64.wrap (fv15 bs at_ 6 2)) ∧ x4 = IntKind.i64.wrap (fv15 bs at_ 8 4)) ∧ x5 = IntKind.i64.wrap (fv15 bs at_ 12 4)) ∧ x6 = sg15 (fv15 bs at_ 16 4)) ∧ x7 = IntKind.i64.wrap (fv15 bs at_ 20 8)) ∧ x8 = IntKind.i64.wrap (fv15 bs at_ 28 4)) ∧ x9 = sg15 (fv15 bs at_ 32 4)) ∧ x10 = IntKind.i64.wrap (fv15 bs at_ 36 4)) ∧ x11 = IntKind.i64.wrap (fv15 bs at_ 40 4)) ∧ ws = rdw bs (at_ + 44 + 4) (fv15 bs at_ 44 4).toNat ∧ (fv15 bs at_ 44 4).toNat ≤ 65536 ∧ at_ + 44 + 4 + 4 * (fv15 bs at_ 44 4).toNat ≤ len)) : Same15 ⟨1, x1, x2, x3, x4, x5, x6, x7, x8, wa, wl, wc, ws, x9, x10, x11, 0, 0, 0, ⟨#[]⟩, 0⟩ n0 := by
  have hk : n0.kd = 1 := by rw [← pre_kd h]; exact (e.1.1.1.1.1.1.1.1.1.1.1.1.2).symm
  have hwl := fun q => pre_wl h q
  have htl := fun q => pre_tl h q
  obtain ⟨⟨hr, hc⟩, hw, hp⟩ := h
  obtain ⟨z1, z2, z3, z4⟩ := chk_zero hc
  have hx : enb15 n0 = (((((((((((((([] ++ sto n0.kd 2) ++ sto n0.md 2) ++ sto n0.ui 2) ++ sto n0.gi 2) ++ sto n0.tm 4) ++ sto n0.ln 4) ++ sto n0.at_ 4) ++ sto n0.sz 8) ++ sto n0.st 4) ++ sto n0.fr 4) ++ sto n0.of_ 4) ++ sto n0.tl 4) ++ sto n0.wl 4) ++ wds n0.ws) := by unfold enb15; rw [if_pos hk]; unfold kb1 hdb15; simp only [List.append_assoc]
  rw [hx] at hp
  have f0 : fv15 bs at_ 0 2 = n0.kd % 65536 := by
    have q := fv_of (A := []) (B := (sto n0.md 2 ++ (sto n0.ui 2 ++ (sto n0.gi 2 ++ (sto n0.tm 4 ++ (sto n0.ln 4 ++ (sto n0.at_ 4 ++ (sto n0.sz 8 ++ (sto n0.st 4 ++ (sto n0.fr 4 ++ (sto n0.of_ 4 ++ (sto n0.tl 4 ++ (sto n0.wl 4 ++ (wds n0.ws ++ [])))))))))))))) (x := n0.kd) (m := 2) (bs := bs) (at_ := at_) (by have := hp; simp only [List.append_assoc, List.nil_append, List.append_nil] at this ⊢; exact this)
    have hA : (([] : List Int)).length = 0 := by simp only [List.length_append, sto_length, List.length_nil]
    rw [hA] at q
    exact q
  have g0 : (1 : Int) = n0.kd := by
    exact hk.symm
  have f1 : fv15 bs at_ 2 2 = n0.md % 65536 := by
    have q := fv_of (A := ([] ++ sto n0.kd 2)) (B := (sto n0.ui 2 ++ (sto n0.gi 2 ++ (sto n0.tm 4 ++ (sto n0.ln 4 ++ (sto n0.at_ 4 ++ (sto n0.sz 8 ++ (sto n0.st 4 ++ (sto n0.fr 4 ++ (sto n0.of_ 4 ++ (sto n0.tl 4 ++ (sto n0.wl 4 ++ (wds n0.ws ++ []))))))))))))) (x := n0.md) (m := 2) (bs := bs) (at_ := at_) (by have := hp; simp only [List.append_assoc, List.nil_append, List.append_nil] at this ⊢; exact this)
    have hA : ((([] : List Int) ++ sto n0.kd 2)).length = 2 := by simp only [List.length_append, sto_length, List.length_nil]
    rw [hA] at q
    exact q
  have g1 : x1 = n0.md := by
    rw [e.1.1.1.1.1.1.1.1.1.1.1.2, f1]
    have r := hr.md
    rw [IntKind.wrap_i64]
    omega
  have f2 : fv15 bs at_ 4 2 = n0.ui % 65536 := by
    have q := fv_of (A := (([] ++ sto n0.kd 2) ++ sto n0.md 2)) (B := (sto n0.gi 2 ++ (sto n0.tm 4 ++ (sto n0.ln 4 ++ (sto n0.at_ 4 ++ (sto n0.sz 8 ++ (sto n0.st 4 ++ (sto n0.fr 4 ++ (sto n0.of_ 4 ++ (sto n0.tl 4 ++ (sto n0.wl 4 ++ (wds n0.ws ++ [])))))))))))) (x := n0.ui) (m := 2) (bs := bs) (at_ := at_) (by have := hp; simp only [List.append_assoc, List.nil_append, List.append_nil] at this ⊢; exact this)
    have hA : (((([] : List Int) ++ sto n0.kd 2) ++ sto n0.md 2)).length = 4 := by simp only [List.length_append, sto_length, List.length_nil]
    rw [hA] at q
    exact q
  have g2 : x2 = n0.ui := by
    rw [e.1.1.1.1.1.1.1.1.1.1.2, f2]
    have r := hr.ui
    rw [IntKind.wrap_i64]
    omega
  have f3 : fv15 bs at_ 6 2 = n0.gi % 65536 := by
    have q := fv_of (A := ((([] ++ sto n0.kd 2) ++ sto n0.md 2) ++ sto n0.ui 2)) (B := (sto n0.tm 4 ++ (sto n0.ln 4 ++ (sto n0.at_ 4 ++ (sto n0.sz 8 ++ (sto n0.st 4 ++ (sto n0.fr 4 ++ (sto n0.of_ 4 ++ (sto n0.tl 4 ++ (sto n0.wl 4 ++ (wds n0.ws ++ []))))))))))) (x := n0.gi) (m := 2) (bs := bs) (at_ := at_) (by have := hp; simp only [List.append_assoc, List.nil_append, List.append_nil] at this ⊢; exact this)
    have hA : ((((([] : List Int) ++ sto n0.kd 2) ++ sto n0.md 2) ++ sto n0.ui 2)).length = 6 := by simp only [List.length_append, sto_length, List.length_nil]
    rw [hA] at q
    exact q
  have g3 : x3 = n0.gi := by
    rw [e.1.1.1.1.1.1.1.1.1.2, f3]
    have r := hr.gi
    rw [IntKind.wrap_i64]
    omega
  have f4 : fv15 bs at_ 8 4 = n0.tm % 4294967296 := by
    have q := fv_of (A := (((([] ++ sto n0.kd 2) ++ sto n0.md 2) ++ sto n0.ui 2) ++ sto n0.gi 2)) (B := (sto n0.ln 4 ++ (sto n0.at_ 4 ++ (sto n0.sz 8 ++ (sto n0.st 4 ++ (sto n0.fr 4 ++ (sto n0.of_ 4 ++ (sto n0.tl 4 ++ (sto n0.wl 4 ++ (wds n0.ws ++ [])))))))))) (x := n0.tm) (m := 4) (bs := bs) (at_ := at_) (by have := hp; simp only [List.append_assoc, List.nil_append, List.append_nil] at this ⊢; exact this)
    have hA : (((((([] : List Int) ++ sto n0.kd 2) ++ sto n0.md 2) ++ sto n0.ui 2) ++ sto n0.gi 2)).length = 8 := by simp only [List.length_append, sto_length, List.length_nil]
    rw [hA] at q
    exact q
  have g4 : x4 = n0.tm := by
    rw [e.1.1.1.1.1.1.1.1.2, f4]
    have r := hr.tm
    rw [IntKind.wrap_i64]
    omega
  have f5 : fv15 bs at_ 12 4 = n0.ln % 4294967296 := by
    have q := fv_of (A := ((((([] ++ sto n0.kd 2) ++ sto n0.md 2) ++ sto n0.ui 2) ++ sto n0.gi 2) ++ sto n0.tm 4)) (B := (sto n0.at_ 4 ++ (sto n0.sz 8 ++ (sto n0.st 4 ++ (sto n0.fr 4 ++ (sto n0.of_ 4 ++ (sto n0.tl 4 ++ (sto n0.wl 4 ++ (wds n0.ws ++ []))))))))) (x := n0.ln) (m := 4) (bs := bs) (at_ := at_) (by have := hp; simp only [List.append_assoc, List.nil_append, List.append_nil] at this ⊢; exact this)
    have hA : ((((((([] : List Int) ++ sto n0.kd 2) ++ sto n0.md 2) ++ sto n0.ui 2) ++ sto n0.gi 2) ++ sto n0.tm 4)).length = 12 := by simp only [List.length_append, sto_length, List.length_nil]
    rw [hA] at q
    exact q
  have g5 : x5 = n0.ln := by
    rw [e.1.1.1.1.1.1.1.2, f5]
    have r := hr.ln
    rw [IntKind.wrap_i64]
    omega
  have f6 : fv15 bs at_ 16 4 = n0.at_ % 4294967296 := by
    have q := fv_of (A := (((((([] ++ sto n0.kd 2) ++ sto n0.md 2) ++ sto n0.ui 2) ++ sto n0.gi 2) ++ sto n0.tm 4) ++ sto n0.ln 4)) (B := (sto n0.sz 8 ++ (sto n0.st 4 ++ (sto n0.fr 4 ++ (sto n0.of_ 4 ++ (sto n0.tl 4 ++ (sto n0.wl 4 ++ (wds n0.ws ++ [])))))))) (x := n0.at_) (m := 4) (bs := bs) (at_ := at_) (by have := hp; simp only [List.append_assoc, List.nil_append, List.append_nil] at this ⊢; exact this)
    have hA : (((((((([] : List Int) ++ sto n0.kd 2) ++ sto n0.md 2) ++ sto n0.ui 2) ++ sto n0.gi 2) ++ sto n0.tm 4) ++ sto n0.ln 4)).length = 16 := by simp only [List.length_append, sto_length, List.length_nil]
    rw [hA] at q
    exact q
  have g6 : x6 = n0.at_ := by
    rw [e.1.1.1.1.1.1.2, f6]
    have r := hr.at_
    unfold sg15
    rw [IntKind.wrap_i32]
    omega
  have f7 : fv15 bs at_ 20 8 = n0.sz % 18446744073709551616 := by
    have q := fv_of (A := ((((((([] ++ sto n0.kd 2) ++ sto n0.md 2) ++ sto n0.ui 2) ++ sto n0.gi 2) ++ sto n0.tm 4) ++ sto n0.ln 4) ++ sto n0.at_ 4)) (B := (sto n0.st 4 ++ (sto n0.fr 4 ++ (sto n0.of_ 4 ++ (sto n0.tl 4 ++ (sto n0.wl 4 ++ (wds n0.ws ++ []))))))) (x := n0.sz) (m := 8) (bs := bs) (at_ := at_) (by have := hp; simp only [List.append_assoc, List.nil_append, List.append_nil] at this ⊢; exact this)
    have hA : ((((((((([] : List Int) ++ sto n0.kd 2) ++ sto n0.md 2) ++ sto n0.ui 2) ++ sto n0.gi 2) ++ sto n0.tm 4) ++ sto n0.ln 4) ++ sto n0.at_ 4)).length = 20 := by simp only [List.length_append, sto_length, List.length_nil]
    rw [hA] at q
    exact q
  have g7 : x7 = n0.sz := by
    rw [e.1.1.1.1.1.2, f7]
    have r := (hr.k1 hk).1
    rw [IntKind.wrap_i64]
    omega
  have f8 : fv15 bs at_ 28 4 = n0.st % 4294967296 := by
    have q := fv_of (A := (((((((([] ++ sto n0.kd 2) ++ sto n0.md 2) ++ sto n0.ui 2) ++ sto n0.gi 2) ++ sto n0.tm 4) ++ sto n0.ln 4) ++ sto n0.at_ 4) ++ sto n0.sz 8)) (B := (sto n0.fr 4 ++ (sto n0.of_ 4 ++ (sto n0.tl 4 ++ (sto n0.wl 4 ++ (wds n0.ws ++ [])))))) (x := n0.st) (m := 4) (bs := bs) (at_ := at_) (by have := hp; simp only [List.append_assoc, List.nil_append, List.append_nil] at this ⊢; exact this)
    have hA : (((((((((([] : List Int) ++ sto n0.kd 2) ++ sto n0.md 2) ++ sto n0.ui 2) ++ sto n0.gi 2) ++ sto n0.tm 4) ++ sto n0.ln 4) ++ sto n0.at_ 4) ++ sto n0.sz 8)).length = 28 := by simp only [List.length_append, sto_length, List.length_nil]
    rw [hA] at q
    exact q
  have g8 : x8 = n0.st := by
    rw [e.1.1.1.1.2, f8]
    have r := (hr.k1 hk).2.1
    rw [IntKind.wrap_i64]
    omega
  have f9 : fv15 bs at_ 32 4 = n0.fr % 4294967296 := by
    have q := fv_of (A := ((((((((([] ++ sto n0.kd 2) ++ sto n0.md 2) ++ sto n0.ui 2) ++ sto n0.gi 2) ++ sto n0.tm 4) ++ sto n0.ln 4) ++ sto n0.at_ 4) ++ sto n0.sz 8) ++ sto n0.st 4)) (B := (sto n0.of_ 4 ++ (sto n0.tl 4 ++ (sto n0.wl 4 ++ (wds n0.ws ++ []))))) (x := n0.fr) (m := 4) (bs := bs) (at_ := at_) (by have := hp; simp only [List.append_assoc, List.nil_append, List.append_nil] at this ⊢; exact this)
    have hA : ((((((((((([] : List Int) ++ sto n0.kd 2) ++ sto n0.md 2) ++ sto n0.ui 2) ++ sto n0.gi 2) ++ sto n0.tm 4) ++ sto n0.ln 4) ++ sto n0.at_ 4) ++ sto n0.sz 8) ++ sto n0.st 4)).length = 32 := by simp only [List.length_append, sto_length, List.length_nil]
    rw [hA] at q
    exact q
  have g9 : x9 = n0.fr := by
    rw [e.1.1.1.2, f9]
    have r := (hr.k1 hk).2.2.1
    unfold sg15
    rw [IntKind.wrap_i32]
    omega
  have f10 : fv15 bs at_ 36 4 = n0.of_ % 4294967296 := by
    have q := fv_of (A := (((((((((([] ++ sto n0.kd 2) ++ sto n0.md 2) ++ sto n0.ui 2) ++ sto n0.gi 2) ++ sto n0.tm 4) ++ sto n0.ln 4) ++ sto n0.at_ 4) ++ sto n0.sz 8) ++ sto n0.st 4) ++ sto n0.fr 4)) (B := (sto n0.tl 4 ++ (sto n0.wl 4 ++ (wds n0.ws ++ [])))) (x := n0.of_) (m := 4) (bs := bs) (at_ := at_) (by have := hp; simp only [List.append_assoc, List.nil_append, List.append_nil] at this ⊢; exact this)
    have hA : (((((((((((([] : List Int) ++ sto n0.kd 2) ++ sto n0.md 2) ++ sto n0.ui 2) ++ sto n0.gi 2) ++ sto n0.tm 4) ++ sto n0.ln 4) ++ sto n0.at_ 4) ++ sto n0.sz 8) ++ sto n0.st 4) ++ sto n0.fr 4)).length = 36 := by simp only [List.length_append, sto_length, List.length_nil]
    rw [hA] at q
    exact q
  have g10 : x10 = n0.of_ := by
    rw [e.1.1.2, f10]
    have r := (hr.k1 hk).2.2.2.1
    rw [IntKind.wrap_i64]
    omega
  have f11 : fv15 bs at_ 40 4 = n0.tl % 4294967296 := by
    have q := fv_of (A := ((((((((((([] ++ sto n0.kd 2) ++ sto n0.md 2) ++ sto n0.ui 2) ++ sto n0.gi 2) ++ sto n0.tm 4) ++ sto n0.ln 4) ++ sto n0.at_ 4) ++ sto n0.sz 8) ++ sto n0.st 4) ++ sto n0.fr 4) ++ sto n0.of_ 4)) (B := (sto n0.wl 4 ++ (wds n0.ws ++ []))) (x := n0.tl) (m := 4) (bs := bs) (at_ := at_) (by have := hp; simp only [List.append_assoc, List.nil_append, List.append_nil] at this ⊢; exact this)
    have hA : ((((((((((((([] : List Int) ++ sto n0.kd 2) ++ sto n0.md 2) ++ sto n0.ui 2) ++ sto n0.gi 2) ++ sto n0.tm 4) ++ sto n0.ln 4) ++ sto n0.at_ 4) ++ sto n0.sz 8) ++ sto n0.st 4) ++ sto n0.fr 4) ++ sto n0.of_ 4)).length = 40 := by simp only [List.length_append, sto_length, List.length_nil]
    rw [hA] at q
    exact q
  have g11 : x11 = n0.tl := by
    rw [e.1.2, f11]
    have r := (hr.k1 hk).2.2.2.2.1
    rw [IntKind.wrap_i64]
    omega
  have gw : ws = n0.ws := by
    have d := e.2.1
    have hwl2 := hwl hk
    rw [hwl2, ← hw] at d
    rw [d]
    have hA : ((((((((((((((([] : List Int) ++ sto n0.kd 2) ++ sto n0.md 2) ++ sto n0.ui 2) ++ sto n0.gi 2) ++ sto n0.tm 4) ++ sto n0.ln 4) ++ sto n0.at_ 4) ++ sto n0.sz 8) ++ sto n0.st 4) ++ sto n0.fr 4) ++ sto n0.of_ 4) ++ sto n0.tl 4) ++ sto n0.wl 4)).length = 48 := by simp only [List.length_append, sto_length, List.length_nil]
    have := rdw_of (A := ((((((((((((([] ++ sto n0.kd 2) ++ sto n0.md 2) ++ sto n0.ui 2) ++ sto n0.gi 2) ++ sto n0.tm 4) ++ sto n0.ln 4) ++ sto n0.at_ 4) ++ sto n0.sz 8) ++ sto n0.st 4) ++ sto n0.fr 4) ++ sto n0.of_ 4) ++ sto n0.tl 4) ++ sto n0.wl 4)) (ws := n0.ws) (bs := bs) (at_ := at_) hp (hr.k1 hk).2.2.2.2.2.2
    rw [hA] at this
    exact this
  exact ⟨g0, g1, g2, g3, g4, g5, g6, g7, g8, g9, g10, g11, (z2 (by omega)).1.symm, (z2 (by omega)).2.1.symm, (z2 (by omega)).2.2.symm, (z4 (by omega)).symm, gw, (z3 (by omega)).symm⟩
theorem same_2 {bs : List Int} {at_ len : Nat} {n0 : Nd} (h : Pre15 bs at_ n0) {x1 x2 x3 x4 x5 x6 x7 x8 x9 : Int} (e : ((((((((((True ∧ 2 = IntKind.i64.wrap (fv15 bs at_ 0 2)) ∧ x1 = IntKind.i64.wrap (fv15 bs at_ 2 2)) ∧ x2 = IntKind.i64.wrap (fv15 bs at_ 4 2)) ∧ x3 = IntKind.i64.wrap (fv15 bs at_ 6 2)) ∧ x4 = IntKind.i64.wrap (fv15 bs at_ 8 4)) ∧ x5 = IntKind.i64.wrap (fv15 bs at_ 12 4)) ∧ x6 = sg15 (fv15 bs at_ 16 4)) ∧ x7 = IntKind.i64.wrap (fv15 bs at_ 20 4)) ∧ x8 = IntKind.i64.wrap (fv15 bs at_ 24 4)) ∧ x9 = IntKind.i64.wrap (fv15 bs at_ 28 4))) : Same15 ⟨2, x1, x2, x3, x4, x5, x6, 0, 0, none, 0, 0, [], 0, 0, 0, x7, x8, x9, ⟨#[]⟩, 0⟩ n0 := by
  have hk : n0.kd = 2 := by rw [← pre_kd h]; exact (e.1.1.1.1.1.1.1.1.1.2).symm
  have hwl := fun q => pre_wl h q
  have htl := fun q => pre_tl h q
  obtain ⟨⟨hr, hc⟩, hw, hp⟩ := h
  obtain ⟨z1, z2, z3, z4⟩ := chk_zero hc
  have hx : enb15 n0 = (((((((((([] ++ sto n0.kd 2) ++ sto n0.md 2) ++ sto n0.ui 2) ++ sto n0.gi 2) ++ sto n0.tm 4) ++ sto n0.ln 4) ++ sto n0.at_ 4) ++ sto n0.dr 4) ++ sto n0.by_ 4) ++ sto n0.pr 4) := by unfold enb15; rw [if_neg (by omega), if_pos hk]; unfold kb2 hdb15; simp only [List.append_assoc]
  rw [hx] at hp
  have f0 : fv15 bs at_ 0 2 = n0.kd % 65536 := by
    have q := fv_of (A := []) (B := (sto n0.md 2 ++ (sto n0.ui 2 ++ (sto n0.gi 2 ++ (sto n0.tm 4 ++ (sto n0.ln 4 ++ (sto n0.at_ 4 ++ (sto n0.dr 4 ++ (sto n0.by_ 4 ++ (sto n0.pr 4 ++ [])))))))))) (x := n0.kd) (m := 2) (bs := bs) (at_ := at_) (by have := hp; simp only [List.append_assoc, List.nil_append, List.append_nil] at this ⊢; exact this)
    have hA : (([] : List Int)).length = 0 := by simp only [List.length_append, sto_length, List.length_nil]
    rw [hA] at q
    exact q
  have g0 : (2 : Int) = n0.kd := by
    exact hk.symm
  have f1 : fv15 bs at_ 2 2 = n0.md % 65536 := by
    have q := fv_of (A := ([] ++ sto n0.kd 2)) (B := (sto n0.ui 2 ++ (sto n0.gi 2 ++ (sto n0.tm 4 ++ (sto n0.ln 4 ++ (sto n0.at_ 4 ++ (sto n0.dr 4 ++ (sto n0.by_ 4 ++ (sto n0.pr 4 ++ []))))))))) (x := n0.md) (m := 2) (bs := bs) (at_ := at_) (by have := hp; simp only [List.append_assoc, List.nil_append, List.append_nil] at this ⊢; exact this)
    have hA : ((([] : List Int) ++ sto n0.kd 2)).length = 2 := by simp only [List.length_append, sto_length, List.length_nil]
    rw [hA] at q
    exact q
  have g1 : x1 = n0.md := by
    rw [e.1.1.1.1.1.1.1.1.2, f1]
    have r := hr.md
    rw [IntKind.wrap_i64]
    omega
  have f2 : fv15 bs at_ 4 2 = n0.ui % 65536 := by
    have q := fv_of (A := (([] ++ sto n0.kd 2) ++ sto n0.md 2)) (B := (sto n0.gi 2 ++ (sto n0.tm 4 ++ (sto n0.ln 4 ++ (sto n0.at_ 4 ++ (sto n0.dr 4 ++ (sto n0.by_ 4 ++ (sto n0.pr 4 ++ [])))))))) (x := n0.ui) (m := 2) (bs := bs) (at_ := at_) (by have := hp; simp only [List.append_assoc, List.nil_append, List.append_nil] at this ⊢; exact this)
    have hA : (((([] : List Int) ++ sto n0.kd 2) ++ sto n0.md 2)).length = 4 := by simp only [List.length_append, sto_length, List.length_nil]
    rw [hA] at q
    exact q
  have g2 : x2 = n0.ui := by
    rw [e.1.1.1.1.1.1.1.2, f2]
    have r := hr.ui
    rw [IntKind.wrap_i64]
    omega
  have f3 : fv15 bs at_ 6 2 = n0.gi % 65536 := by
    have q := fv_of (A := ((([] ++ sto n0.kd 2) ++ sto n0.md 2) ++ sto n0.ui 2)) (B := (sto n0.tm 4 ++ (sto n0.ln 4 ++ (sto n0.at_ 4 ++ (sto n0.dr 4 ++ (sto n0.by_ 4 ++ (sto n0.pr 4 ++ []))))))) (x := n0.gi) (m := 2) (bs := bs) (at_ := at_) (by have := hp; simp only [List.append_assoc, List.nil_append, List.append_nil] at this ⊢; exact this)
    have hA : ((((([] : List Int) ++ sto n0.kd 2) ++ sto n0.md 2) ++ sto n0.ui 2)).length = 6 := by simp only [List.length_append, sto_length, List.length_nil]
    rw [hA] at q
    exact q
  have g3 : x3 = n0.gi := by
    rw [e.1.1.1.1.1.1.2, f3]
    have r := hr.gi
    rw [IntKind.wrap_i64]
    omega
  have f4 : fv15 bs at_ 8 4 = n0.tm % 4294967296 := by
    have q := fv_of (A := (((([] ++ sto n0.kd 2) ++ sto n0.md 2) ++ sto n0.ui 2) ++ sto n0.gi 2)) (B := (sto n0.ln 4 ++ (sto n0.at_ 4 ++ (sto n0.dr 4 ++ (sto n0.by_ 4 ++ (sto n0.pr 4 ++ [])))))) (x := n0.tm) (m := 4) (bs := bs) (at_ := at_) (by have := hp; simp only [List.append_assoc, List.nil_append, List.append_nil] at this ⊢; exact this)
    have hA : (((((([] : List Int) ++ sto n0.kd 2) ++ sto n0.md 2) ++ sto n0.ui 2) ++ sto n0.gi 2)).length = 8 := by simp only [List.length_append, sto_length, List.length_nil]
    rw [hA] at q
    exact q
  have g4 : x4 = n0.tm := by
    rw [e.1.1.1.1.1.2, f4]
    have r := hr.tm
    rw [IntKind.wrap_i64]
    omega
  have f5 : fv15 bs at_ 12 4 = n0.ln % 4294967296 := by
    have q := fv_of (A := ((((([] ++ sto n0.kd 2) ++ sto n0.md 2) ++ sto n0.ui 2) ++ sto n0.gi 2) ++ sto n0.tm 4)) (B := (sto n0.at_ 4 ++ (sto n0.dr 4 ++ (sto n0.by_ 4 ++ (sto n0.pr 4 ++ []))))) (x := n0.ln) (m := 4) (bs := bs) (at_ := at_) (by have := hp; simp only [List.append_assoc, List.nil_append, List.append_nil] at this ⊢; exact this)
    have hA : ((((((([] : List Int) ++ sto n0.kd 2) ++ sto n0.md 2) ++ sto n0.ui 2) ++ sto n0.gi 2) ++ sto n0.tm 4)).length = 12 := by simp only [List.length_append, sto_length, List.length_nil]
    rw [hA] at q
    exact q
  have g5 : x5 = n0.ln := by
    rw [e.1.1.1.1.2, f5]
    have r := hr.ln
    rw [IntKind.wrap_i64]
    omega
  have f6 : fv15 bs at_ 16 4 = n0.at_ % 4294967296 := by
    have q := fv_of (A := (((((([] ++ sto n0.kd 2) ++ sto n0.md 2) ++ sto n0.ui 2) ++ sto n0.gi 2) ++ sto n0.tm 4) ++ sto n0.ln 4)) (B := (sto n0.dr 4 ++ (sto n0.by_ 4 ++ (sto n0.pr 4 ++ [])))) (x := n0.at_) (m := 4) (bs := bs) (at_ := at_) (by have := hp; simp only [List.append_assoc, List.nil_append, List.append_nil] at this ⊢; exact this)
    have hA : (((((((([] : List Int) ++ sto n0.kd 2) ++ sto n0.md 2) ++ sto n0.ui 2) ++ sto n0.gi 2) ++ sto n0.tm 4) ++ sto n0.ln 4)).length = 16 := by simp only [List.length_append, sto_length, List.length_nil]
    rw [hA] at q
    exact q
  have g6 : x6 = n0.at_ := by
    rw [e.1.1.1.2, f6]
    have r := hr.at_
    unfold sg15
    rw [IntKind.wrap_i32]
    omega
  have f7 : fv15 bs at_ 20 4 = n0.dr % 4294967296 := by
    have q := fv_of (A := ((((((([] ++ sto n0.kd 2) ++ sto n0.md 2) ++ sto n0.ui 2) ++ sto n0.gi 2) ++ sto n0.tm 4) ++ sto n0.ln 4) ++ sto n0.at_ 4)) (B := (sto n0.by_ 4 ++ (sto n0.pr 4 ++ []))) (x := n0.dr) (m := 4) (bs := bs) (at_ := at_) (by have := hp; simp only [List.append_assoc, List.nil_append, List.append_nil] at this ⊢; exact this)
    have hA : ((((((((([] : List Int) ++ sto n0.kd 2) ++ sto n0.md 2) ++ sto n0.ui 2) ++ sto n0.gi 2) ++ sto n0.tm 4) ++ sto n0.ln 4) ++ sto n0.at_ 4)).length = 20 := by simp only [List.length_append, sto_length, List.length_nil]
    rw [hA] at q
    exact q
  have g7 : x7 = n0.dr := by
    rw [e.1.1.2, f7]
    have r := (hr.k2 hk).1
    rw [IntKind.wrap_i64]
    omega
  have f8 : fv15 bs at_ 24 4 = n0.by_ % 4294967296 := by
    have q := fv_of (A := (((((((([] ++ sto n0.kd 2) ++ sto n0.md 2) ++ sto n0.ui 2) ++ sto n0.gi 2) ++ sto n0.tm 4) ++ sto n0.ln 4) ++ sto n0.at_ 4) ++ sto n0.dr 4)) (B := (sto n0.pr 4 ++ [])) (x := n0.by_) (m := 4) (bs := bs) (at_ := at_) (by have := hp; simp only [List.append_assoc, List.nil_append, List.append_nil] at this ⊢; exact this)
    have hA : (((((((((([] : List Int) ++ sto n0.kd 2) ++ sto n0.md 2) ++ sto n0.ui 2) ++ sto n0.gi 2) ++ sto n0.tm 4) ++ sto n0.ln 4) ++ sto n0.at_ 4) ++ sto n0.dr 4)).length = 24 := by simp only [List.length_append, sto_length, List.length_nil]
    rw [hA] at q
    exact q
  have g8 : x8 = n0.by_ := by
    rw [e.1.2, f8]
    have r := (hr.k2 hk).2.1
    rw [IntKind.wrap_i64]
    omega
  have f9 : fv15 bs at_ 28 4 = n0.pr % 4294967296 := by
    have q := fv_of (A := ((((((((([] ++ sto n0.kd 2) ++ sto n0.md 2) ++ sto n0.ui 2) ++ sto n0.gi 2) ++ sto n0.tm 4) ++ sto n0.ln 4) ++ sto n0.at_ 4) ++ sto n0.dr 4) ++ sto n0.by_ 4)) (B := []) (x := n0.pr) (m := 4) (bs := bs) (at_ := at_) (by have := hp; simp only [List.append_assoc, List.nil_append, List.append_nil] at this ⊢; exact this)
    have hA : ((((((((((([] : List Int) ++ sto n0.kd 2) ++ sto n0.md 2) ++ sto n0.ui 2) ++ sto n0.gi 2) ++ sto n0.tm 4) ++ sto n0.ln 4) ++ sto n0.at_ 4) ++ sto n0.dr 4) ++ sto n0.by_ 4)).length = 28 := by simp only [List.length_append, sto_length, List.length_nil]
    rw [hA] at q
    exact q
  have g9 : x9 = n0.pr := by
    rw [e.2, f9]
    have r := (hr.k2 hk).2.2
    rw [IntKind.wrap_i64]
    omega
  exact ⟨g0, g1, g2, g3, g4, g5, g6, (z1 (by omega)).1.symm, (z1 (by omega)).2.1.symm, (z1 (by omega)).2.2.2.1.symm, (z1 (by omega)).2.2.2.2.1.symm, (z1 (by omega)).2.2.2.2.2.symm, g7, g8, g9, (z4 (by omega)).symm, (List.eq_nil_of_length_eq_zero (by rw [hw]; exact (z1 (by omega)).2.2.1)).symm, (z3 (by omega)).symm⟩
theorem same_3 {bs : List Int} {at_ len : Nat} {n0 : Nd} (h : Pre15 bs at_ n0) {x1 x2 x3 x4 x5 x6 : Int} {xs : List Int} (hxs : Byt xs) (e : ((((((((True ∧ 3 = IntKind.i64.wrap (fv15 bs at_ 0 2)) ∧ x1 = IntKind.i64.wrap (fv15 bs at_ 2 2)) ∧ x2 = IntKind.i64.wrap (fv15 bs at_ 4 2)) ∧ x3 = IntKind.i64.wrap (fv15 bs at_ 6 2)) ∧ x4 = IntKind.i64.wrap (fv15 bs at_ 8 4)) ∧ x5 = IntKind.i64.wrap (fv15 bs at_ 12 4)) ∧ x6 = sg15 (fv15 bs at_ 16 4)) ∧ xs = (bs.drop (at_ + 20 + 2)).take (fv15 bs at_ 20 2).toNat ∧ at_ + 20 + 2 + (fv15 bs at_ 20 2).toNat ≤ len)) : Same15 ⟨3, x1, x2, x3, x4, x5, x6, 0, 0, none, 0, 0, [], 0, 0, 0, 0, 0, 0, (strOfNums xs), 0⟩ n0 := by
  have hk : n0.kd = 3 := by rw [← pre_kd h]; exact (e.1.1.1.1.1.1.1.2).symm
  have hwl := fun q => pre_wl h q
  have htl := fun q => pre_tl h q
  obtain ⟨⟨hr, hc⟩, hw, hp⟩ := h
  obtain ⟨z1, z2, z3, z4⟩ := chk_zero hc
  have hx : enb15 n0 = ((((((((([] ++ sto n0.kd 2) ++ sto n0.md 2) ++ sto n0.ui 2) ++ sto n0.gi 2) ++ sto n0.tm 4) ++ sto n0.ln 4) ++ sto n0.at_ 4) ++ sto n0.tg.size 2) ++ nums n0.tg) := by unfold enb15; rw [if_neg (by omega), if_neg (by omega), if_pos hk]; unfold kb3 hdb15; simp only [List.append_assoc]
  rw [hx] at hp
  have f0 : fv15 bs at_ 0 2 = n0.kd % 65536 := by
    have q := fv_of (A := []) (B := (sto n0.md 2 ++ (sto n0.ui 2 ++ (sto n0.gi 2 ++ (sto n0.tm 4 ++ (sto n0.ln 4 ++ (sto n0.at_ 4 ++ (sto n0.tg.size 2 ++ (nums n0.tg ++ []))))))))) (x := n0.kd) (m := 2) (bs := bs) (at_ := at_) (by have := hp; simp only [List.append_assoc, List.nil_append, List.append_nil] at this ⊢; exact this)
    have hA : (([] : List Int)).length = 0 := by simp only [List.length_append, sto_length, List.length_nil]
    rw [hA] at q
    exact q
  have g0 : (3 : Int) = n0.kd := by
    exact hk.symm
  have f1 : fv15 bs at_ 2 2 = n0.md % 65536 := by
    have q := fv_of (A := ([] ++ sto n0.kd 2)) (B := (sto n0.ui 2 ++ (sto n0.gi 2 ++ (sto n0.tm 4 ++ (sto n0.ln 4 ++ (sto n0.at_ 4 ++ (sto n0.tg.size 2 ++ (nums n0.tg ++ [])))))))) (x := n0.md) (m := 2) (bs := bs) (at_ := at_) (by have := hp; simp only [List.append_assoc, List.nil_append, List.append_nil] at this ⊢; exact this)
    have hA : ((([] : List Int) ++ sto n0.kd 2)).length = 2 := by simp only [List.length_append, sto_length, List.length_nil]
    rw [hA] at q
    exact q
  have g1 : x1 = n0.md := by
    rw [e.1.1.1.1.1.1.2, f1]
    have r := hr.md
    rw [IntKind.wrap_i64]
    omega
  have f2 : fv15 bs at_ 4 2 = n0.ui % 65536 := by
    have q := fv_of (A := (([] ++ sto n0.kd 2) ++ sto n0.md 2)) (B := (sto n0.gi 2 ++ (sto n0.tm 4 ++ (sto n0.ln 4 ++ (sto n0.at_ 4 ++ (sto n0.tg.size 2 ++ (nums n0.tg ++ []))))))) (x := n0.ui) (m := 2) (bs := bs) (at_ := at_) (by have := hp; simp only [List.append_assoc, List.nil_append, List.append_nil] at this ⊢; exact this)
    have hA : (((([] : List Int) ++ sto n0.kd 2) ++ sto n0.md 2)).length = 4 := by simp only [List.length_append, sto_length, List.length_nil]
    rw [hA] at q
    exact q
  have g2 : x2 = n0.ui := by
    rw [e.1.1.1.1.1.2, f2]
    have r := hr.ui
    rw [IntKind.wrap_i64]
    omega
  have f3 : fv15 bs at_ 6 2 = n0.gi % 65536 := by
    have q := fv_of (A := ((([] ++ sto n0.kd 2) ++ sto n0.md 2) ++ sto n0.ui 2)) (B := (sto n0.tm 4 ++ (sto n0.ln 4 ++ (sto n0.at_ 4 ++ (sto n0.tg.size 2 ++ (nums n0.tg ++ [])))))) (x := n0.gi) (m := 2) (bs := bs) (at_ := at_) (by have := hp; simp only [List.append_assoc, List.nil_append, List.append_nil] at this ⊢; exact this)
    have hA : ((((([] : List Int) ++ sto n0.kd 2) ++ sto n0.md 2) ++ sto n0.ui 2)).length = 6 := by simp only [List.length_append, sto_length, List.length_nil]
    rw [hA] at q
    exact q
  have g3 : x3 = n0.gi := by
    rw [e.1.1.1.1.2, f3]
    have r := hr.gi
    rw [IntKind.wrap_i64]
    omega
  have f4 : fv15 bs at_ 8 4 = n0.tm % 4294967296 := by
    have q := fv_of (A := (((([] ++ sto n0.kd 2) ++ sto n0.md 2) ++ sto n0.ui 2) ++ sto n0.gi 2)) (B := (sto n0.ln 4 ++ (sto n0.at_ 4 ++ (sto n0.tg.size 2 ++ (nums n0.tg ++ []))))) (x := n0.tm) (m := 4) (bs := bs) (at_ := at_) (by have := hp; simp only [List.append_assoc, List.nil_append, List.append_nil] at this ⊢; exact this)
    have hA : (((((([] : List Int) ++ sto n0.kd 2) ++ sto n0.md 2) ++ sto n0.ui 2) ++ sto n0.gi 2)).length = 8 := by simp only [List.length_append, sto_length, List.length_nil]
    rw [hA] at q
    exact q
  have g4 : x4 = n0.tm := by
    rw [e.1.1.1.2, f4]
    have r := hr.tm
    rw [IntKind.wrap_i64]
    omega
  have f5 : fv15 bs at_ 12 4 = n0.ln % 4294967296 := by
    have q := fv_of (A := ((((([] ++ sto n0.kd 2) ++ sto n0.md 2) ++ sto n0.ui 2) ++ sto n0.gi 2) ++ sto n0.tm 4)) (B := (sto n0.at_ 4 ++ (sto n0.tg.size 2 ++ (nums n0.tg ++ [])))) (x := n0.ln) (m := 4) (bs := bs) (at_ := at_) (by have := hp; simp only [List.append_assoc, List.nil_append, List.append_nil] at this ⊢; exact this)
    have hA : ((((((([] : List Int) ++ sto n0.kd 2) ++ sto n0.md 2) ++ sto n0.ui 2) ++ sto n0.gi 2) ++ sto n0.tm 4)).length = 12 := by simp only [List.length_append, sto_length, List.length_nil]
    rw [hA] at q
    exact q
  have g5 : x5 = n0.ln := by
    rw [e.1.1.2, f5]
    have r := hr.ln
    rw [IntKind.wrap_i64]
    omega
  have f6 : fv15 bs at_ 16 4 = n0.at_ % 4294967296 := by
    have q := fv_of (A := (((((([] ++ sto n0.kd 2) ++ sto n0.md 2) ++ sto n0.ui 2) ++ sto n0.gi 2) ++ sto n0.tm 4) ++ sto n0.ln 4)) (B := (sto n0.tg.size 2 ++ (nums n0.tg ++ []))) (x := n0.at_) (m := 4) (bs := bs) (at_ := at_) (by have := hp; simp only [List.append_assoc, List.nil_append, List.append_nil] at this ⊢; exact this)
    have hA : (((((((([] : List Int) ++ sto n0.kd 2) ++ sto n0.md 2) ++ sto n0.ui 2) ++ sto n0.gi 2) ++ sto n0.tm 4) ++ sto n0.ln 4)).length = 16 := by simp only [List.length_append, sto_length, List.length_nil]
    rw [hA] at q
    exact q
  have g6 : x6 = n0.at_ := by
    rw [e.1.2, f6]
    have r := hr.at_
    unfold sg15
    rw [IntKind.wrap_i32]
    omega
  have gt : strOfNums xs = n0.tg := by
    refine nums_inj ?_
    rw [nums_str hxs, e.2.1, htl hk]
    have hA : (((((((((([] : List Int) ++ sto n0.kd 2) ++ sto n0.md 2) ++ sto n0.ui 2) ++ sto n0.gi 2) ++ sto n0.tm 4) ++ sto n0.ln 4) ++ sto n0.at_ 4) ++ sto n0.tg.size 2)).length = 22 := by simp only [List.length_append, sto_length, List.length_nil]
    obtain ⟨t, ht⟩ := hp
    have e22 : at_ + 20 + 2 = at_ + 22 := rfl
    rw [e22, ← List.drop_drop, ← ht, List.append_assoc, ← hA, List.drop_left, List.take_append_of_le_length (by rw [nums_len]; exact Nat.le_refl _), List.take_of_length_le (by rw [nums_len]; exact Nat.le_refl _)]
  exact ⟨g0, g1, g2, g3, g4, g5, g6, (z1 (by omega)).1.symm, (z1 (by omega)).2.1.symm, (z1 (by omega)).2.2.2.1.symm, (z1 (by omega)).2.2.2.2.1.symm, (z1 (by omega)).2.2.2.2.2.symm, (z2 (by omega)).1.symm, (z2 (by omega)).2.1.symm, (z2 (by omega)).2.2.symm, (z4 (by omega)).symm, (List.eq_nil_of_length_eq_zero (by rw [hw]; exact (z1 (by omega)).2.2.1)).symm, gt⟩
theorem same_4 {bs : List Int} {at_ len : Nat} {n0 : Nd} (h : Pre15 bs at_ n0) {x1 x2 x3 x4 x5 x6 x7 : Int} (e : ((((((((True ∧ 4 = IntKind.i64.wrap (fv15 bs at_ 0 2)) ∧ x1 = IntKind.i64.wrap (fv15 bs at_ 2 2)) ∧ x2 = IntKind.i64.wrap (fv15 bs at_ 4 2)) ∧ x3 = IntKind.i64.wrap (fv15 bs at_ 6 2)) ∧ x4 = IntKind.i64.wrap (fv15 bs at_ 8 4)) ∧ x5 = IntKind.i64.wrap (fv15 bs at_ 12 4)) ∧ x6 = sg15 (fv15 bs at_ 16 4)) ∧ x7 = IntKind.i64.wrap (fv15 bs at_ 20 4))) : Same15 ⟨4, x1, x2, x3, x4, x5, x6, 0, 0, none, 0, 0, [], 0, 0, 0, 0, 0, 0, ⟨#[]⟩, x7⟩ n0 := by
  have hk : n0.kd = 4 := by rw [← pre_kd h]; exact (e.1.1.1.1.1.1.1.2).symm
  have hwl := fun q => pre_wl h q
  have htl := fun q => pre_tl h q
  obtain ⟨⟨hr, hc⟩, hw, hp⟩ := h
  obtain ⟨z1, z2, z3, z4⟩ := chk_zero hc
  have hx : enb15 n0 = (((((((([] ++ sto n0.kd 2) ++ sto n0.md 2) ++ sto n0.ui 2) ++ sto n0.gi 2) ++ sto n0.tm 4) ++ sto n0.ln 4) ++ sto n0.at_ 4) ++ sto n0.dv 4) := by unfold enb15; rw [if_neg (by omega), if_neg (by omega), if_neg (by omega)]; unfold kb4 hdb15; simp only [List.append_assoc]
  rw [hx] at hp
  have f0 : fv15 bs at_ 0 2 = n0.kd % 65536 := by
    have q := fv_of (A := []) (B := (sto n0.md 2 ++ (sto n0.ui 2 ++ (sto n0.gi 2 ++ (sto n0.tm 4 ++ (sto n0.ln 4 ++ (sto n0.at_ 4 ++ (sto n0.dv 4 ++ [])))))))) (x := n0.kd) (m := 2) (bs := bs) (at_ := at_) (by have := hp; simp only [List.append_assoc, List.nil_append, List.append_nil] at this ⊢; exact this)
    have hA : (([] : List Int)).length = 0 := by simp only [List.length_append, sto_length, List.length_nil]
    rw [hA] at q
    exact q
  have g0 : (4 : Int) = n0.kd := by
    exact hk.symm
  have f1 : fv15 bs at_ 2 2 = n0.md % 65536 := by
    have q := fv_of (A := ([] ++ sto n0.kd 2)) (B := (sto n0.ui 2 ++ (sto n0.gi 2 ++ (sto n0.tm 4 ++ (sto n0.ln 4 ++ (sto n0.at_ 4 ++ (sto n0.dv 4 ++ []))))))) (x := n0.md) (m := 2) (bs := bs) (at_ := at_) (by have := hp; simp only [List.append_assoc, List.nil_append, List.append_nil] at this ⊢; exact this)
    have hA : ((([] : List Int) ++ sto n0.kd 2)).length = 2 := by simp only [List.length_append, sto_length, List.length_nil]
    rw [hA] at q
    exact q
  have g1 : x1 = n0.md := by
    rw [e.1.1.1.1.1.1.2, f1]
    have r := hr.md
    rw [IntKind.wrap_i64]
    omega
  have f2 : fv15 bs at_ 4 2 = n0.ui % 65536 := by
    have q := fv_of (A := (([] ++ sto n0.kd 2) ++ sto n0.md 2)) (B := (sto n0.gi 2 ++ (sto n0.tm 4 ++ (sto n0.ln 4 ++ (sto n0.at_ 4 ++ (sto n0.dv 4 ++ [])))))) (x := n0.ui) (m := 2) (bs := bs) (at_ := at_) (by have := hp; simp only [List.append_assoc, List.nil_append, List.append_nil] at this ⊢; exact this)
    have hA : (((([] : List Int) ++ sto n0.kd 2) ++ sto n0.md 2)).length = 4 := by simp only [List.length_append, sto_length, List.length_nil]
    rw [hA] at q
    exact q
  have g2 : x2 = n0.ui := by
    rw [e.1.1.1.1.1.2, f2]
    have r := hr.ui
    rw [IntKind.wrap_i64]
    omega
  have f3 : fv15 bs at_ 6 2 = n0.gi % 65536 := by
    have q := fv_of (A := ((([] ++ sto n0.kd 2) ++ sto n0.md 2) ++ sto n0.ui 2)) (B := (sto n0.tm 4 ++ (sto n0.ln 4 ++ (sto n0.at_ 4 ++ (sto n0.dv 4 ++ []))))) (x := n0.gi) (m := 2) (bs := bs) (at_ := at_) (by have := hp; simp only [List.append_assoc, List.nil_append, List.append_nil] at this ⊢; exact this)
    have hA : ((((([] : List Int) ++ sto n0.kd 2) ++ sto n0.md 2) ++ sto n0.ui 2)).length = 6 := by simp only [List.length_append, sto_length, List.length_nil]
    rw [hA] at q
    exact q
  have g3 : x3 = n0.gi := by
    rw [e.1.1.1.1.2, f3]
    have r := hr.gi
    rw [IntKind.wrap_i64]
    omega
  have f4 : fv15 bs at_ 8 4 = n0.tm % 4294967296 := by
    have q := fv_of (A := (((([] ++ sto n0.kd 2) ++ sto n0.md 2) ++ sto n0.ui 2) ++ sto n0.gi 2)) (B := (sto n0.ln 4 ++ (sto n0.at_ 4 ++ (sto n0.dv 4 ++ [])))) (x := n0.tm) (m := 4) (bs := bs) (at_ := at_) (by have := hp; simp only [List.append_assoc, List.nil_append, List.append_nil] at this ⊢; exact this)
    have hA : (((((([] : List Int) ++ sto n0.kd 2) ++ sto n0.md 2) ++ sto n0.ui 2) ++ sto n0.gi 2)).length = 8 := by simp only [List.length_append, sto_length, List.length_nil]
    rw [hA] at q
    exact q
  have g4 : x4 = n0.tm := by
    rw [e.1.1.1.2, f4]
    have r := hr.tm
    rw [IntKind.wrap_i64]
    omega
  have f5 : fv15 bs at_ 12 4 = n0.ln % 4294967296 := by
    have q := fv_of (A := ((((([] ++ sto n0.kd 2) ++ sto n0.md 2) ++ sto n0.ui 2) ++ sto n0.gi 2) ++ sto n0.tm 4)) (B := (sto n0.at_ 4 ++ (sto n0.dv 4 ++ []))) (x := n0.ln) (m := 4) (bs := bs) (at_ := at_) (by have := hp; simp only [List.append_assoc, List.nil_append, List.append_nil] at this ⊢; exact this)
    have hA : ((((((([] : List Int) ++ sto n0.kd 2) ++ sto n0.md 2) ++ sto n0.ui 2) ++ sto n0.gi 2) ++ sto n0.tm 4)).length = 12 := by simp only [List.length_append, sto_length, List.length_nil]
    rw [hA] at q
    exact q
  have g5 : x5 = n0.ln := by
    rw [e.1.1.2, f5]
    have r := hr.ln
    rw [IntKind.wrap_i64]
    omega
  have f6 : fv15 bs at_ 16 4 = n0.at_ % 4294967296 := by
    have q := fv_of (A := (((((([] ++ sto n0.kd 2) ++ sto n0.md 2) ++ sto n0.ui 2) ++ sto n0.gi 2) ++ sto n0.tm 4) ++ sto n0.ln 4)) (B := (sto n0.dv 4 ++ [])) (x := n0.at_) (m := 4) (bs := bs) (at_ := at_) (by have := hp; simp only [List.append_assoc, List.nil_append, List.append_nil] at this ⊢; exact this)
    have hA : (((((((([] : List Int) ++ sto n0.kd 2) ++ sto n0.md 2) ++ sto n0.ui 2) ++ sto n0.gi 2) ++ sto n0.tm 4) ++ sto n0.ln 4)).length = 16 := by simp only [List.length_append, sto_length, List.length_nil]
    rw [hA] at q
    exact q
  have g6 : x6 = n0.at_ := by
    rw [e.1.2, f6]
    have r := hr.at_
    unfold sg15
    rw [IntKind.wrap_i32]
    omega
  have f7 : fv15 bs at_ 20 4 = n0.dv % 4294967296 := by
    have q := fv_of (A := ((((((([] ++ sto n0.kd 2) ++ sto n0.md 2) ++ sto n0.ui 2) ++ sto n0.gi 2) ++ sto n0.tm 4) ++ sto n0.ln 4) ++ sto n0.at_ 4)) (B := []) (x := n0.dv) (m := 4) (bs := bs) (at_ := at_) (by have := hp; simp only [List.append_assoc, List.nil_append, List.append_nil] at this ⊢; exact this)
    have hA : ((((((((([] : List Int) ++ sto n0.kd 2) ++ sto n0.md 2) ++ sto n0.ui 2) ++ sto n0.gi 2) ++ sto n0.tm 4) ++ sto n0.ln 4) ++ sto n0.at_ 4)).length = 20 := by simp only [List.length_append, sto_length, List.length_nil]
    rw [hA] at q
    exact q
  have g7 : x7 = n0.dv := by
    rw [e.2, f7]
    have r := (hr.k4 (by omega))
    rw [IntKind.wrap_i64]
    omega
  exact ⟨g0, g1, g2, g3, g4, g5, g6, (z1 (by omega)).1.symm, (z1 (by omega)).2.1.symm, (z1 (by omega)).2.2.2.1.symm, (z1 (by omega)).2.2.2.2.1.symm, (z1 (by omega)).2.2.2.2.2.symm, (z2 (by omega)).1.symm, (z2 (by omega)).2.1.symm, (z2 (by omega)).2.2.symm, g7, (List.eq_nil_of_length_eq_zero (by rw [hw]; exact (z1 (by omega)).2.2.1)).symm, (z3 (by omega)).symm⟩
theorem same_5 {bs : List Int} {at_ len : Nat} {n0 : Nd} (h : Pre15 bs at_ n0) {x1 x2 x3 x4 x5 x6 x7 : Int} (e : ((((((((True ∧ 5 = IntKind.i64.wrap (fv15 bs at_ 0 2)) ∧ x1 = IntKind.i64.wrap (fv15 bs at_ 2 2)) ∧ x2 = IntKind.i64.wrap (fv15 bs at_ 4 2)) ∧ x3 = IntKind.i64.wrap (fv15 bs at_ 6 2)) ∧ x4 = IntKind.i64.wrap (fv15 bs at_ 8 4)) ∧ x5 = IntKind.i64.wrap (fv15 bs at_ 12 4)) ∧ x6 = sg15 (fv15 bs at_ 16 4)) ∧ x7 = IntKind.i64.wrap (fv15 bs at_ 20 4))) : Same15 ⟨5, x1, x2, x3, x4, x5, x6, 0, 0, none, 0, 0, [], 0, 0, 0, 0, 0, 0, ⟨#[]⟩, x7⟩ n0 := by
  have hk : n0.kd = 5 := by rw [← pre_kd h]; exact (e.1.1.1.1.1.1.1.2).symm
  have hwl := fun q => pre_wl h q
  have htl := fun q => pre_tl h q
  obtain ⟨⟨hr, hc⟩, hw, hp⟩ := h
  obtain ⟨z1, z2, z3, z4⟩ := chk_zero hc
  have hx : enb15 n0 = (((((((([] ++ sto n0.kd 2) ++ sto n0.md 2) ++ sto n0.ui 2) ++ sto n0.gi 2) ++ sto n0.tm 4) ++ sto n0.ln 4) ++ sto n0.at_ 4) ++ sto n0.dv 4) := by unfold enb15; rw [if_neg (by omega), if_neg (by omega), if_neg (by omega)]; unfold kb4 hdb15; simp only [List.append_assoc]
  rw [hx] at hp
  have f0 : fv15 bs at_ 0 2 = n0.kd % 65536 := by
    have q := fv_of (A := []) (B := (sto n0.md 2 ++ (sto n0.ui 2 ++ (sto n0.gi 2 ++ (sto n0.tm 4 ++ (sto n0.ln 4 ++ (sto n0.at_ 4 ++ (sto n0.dv 4 ++ [])))))))) (x := n0.kd) (m := 2) (bs := bs) (at_ := at_) (by have := hp; simp only [List.append_assoc, List.nil_append, List.append_nil] at this ⊢; exact this)
    have hA : (([] : List Int)).length = 0 := by simp only [List.length_append, sto_length, List.length_nil]
    rw [hA] at q
    exact q
  have g0 : (5 : Int) = n0.kd := by
    exact hk.symm
  have f1 : fv15 bs at_ 2 2 = n0.md % 65536 := by
    have q := fv_of (A := ([] ++ sto n0.kd 2)) (B := (sto n0.ui 2 ++ (sto n0.gi 2 ++ (sto n0.tm 4 ++ (sto n0.ln 4 ++ (sto n0.at_ 4 ++ (sto n0.dv 4 ++ []))))))) (x := n0.md) (m := 2) (bs := bs) (at_ := at_) (by have := hp; simp only [List.append_assoc, List.nil_append, List.append_nil] at this ⊢; exact this)
    have hA : ((([] : List Int) ++ sto n0.kd 2)).length = 2 := by simp only [List.length_append, sto_length, List.length_nil]
    rw [hA] at q
    exact q
  have g1 : x1 = n0.md := by
    rw [e.1.1.1.1.1.1.2, f1]
    have r := hr.md
    rw [IntKind.wrap_i64]
    omega
  have f2 : fv15 bs at_ 4 2 = n0.ui % 65536 := by
    have q := fv_of (A := (([] ++ sto n0.kd 2) ++ sto n0.md 2)) (B := (sto n0.gi 2 ++ (sto n0.tm 4 ++ (sto n0.ln 4 ++ (sto n0.at_ 4 ++ (sto n0.dv 4 ++ [])))))) (x := n0.ui) (m := 2) (bs := bs) (at_ := at_) (by have := hp; simp only [List.append_assoc, List.nil_append, List.append_nil] at this ⊢; exact this)
    have hA : (((([] : List Int) ++ sto n0.kd 2) ++ sto n0.md 2)).length = 4 := by simp only [List.length_append, sto_length, List.length_nil]
    rw [hA] at q
    exact q
  have g2 : x2 = n0.ui := by
    rw [e.1.1.1.1.1.2, f2]
    have r := hr.ui
    rw [IntKind.wrap_i64]
    omega
  have f3 : fv15 bs at_ 6 2 = n0.gi % 65536 := by
    have q := fv_of (A := ((([] ++ sto n0.kd 2) ++ sto n0.md 2) ++ sto n0.ui 2)) (B := (sto n0.tm 4 ++ (sto n0.ln 4 ++ (sto n0.at_ 4 ++ (sto n0.dv 4 ++ []))))) (x := n0.gi) (m := 2) (bs := bs) (at_ := at_) (by have := hp; simp only [List.append_assoc, List.nil_append, List.append_nil] at this ⊢; exact this)
    have hA : ((((([] : List Int) ++ sto n0.kd 2) ++ sto n0.md 2) ++ sto n0.ui 2)).length = 6 := by simp only [List.length_append, sto_length, List.length_nil]
    rw [hA] at q
    exact q
  have g3 : x3 = n0.gi := by
    rw [e.1.1.1.1.2, f3]
    have r := hr.gi
    rw [IntKind.wrap_i64]
    omega
  have f4 : fv15 bs at_ 8 4 = n0.tm % 4294967296 := by
    have q := fv_of (A := (((([] ++ sto n0.kd 2) ++ sto n0.md 2) ++ sto n0.ui 2) ++ sto n0.gi 2)) (B := (sto n0.ln 4 ++ (sto n0.at_ 4 ++ (sto n0.dv 4 ++ [])))) (x := n0.tm) (m := 4) (bs := bs) (at_ := at_) (by have := hp; simp only [List.append_assoc, List.nil_append, List.append_nil] at this ⊢; exact this)
    have hA : (((((([] : List Int) ++ sto n0.kd 2) ++ sto n0.md 2) ++ sto n0.ui 2) ++ sto n0.gi 2)).length = 8 := by simp only [List.length_append, sto_length, List.length_nil]
    rw [hA] at q
    exact q
  have g4 : x4 = n0.tm := by
    rw [e.1.1.1.2, f4]
    have r := hr.tm
    rw [IntKind.wrap_i64]
    omega
  have f5 : fv15 bs at_ 12 4 = n0.ln % 4294967296 := by
    have q := fv_of (A := ((((([] ++ sto n0.kd 2) ++ sto n0.md 2) ++ sto n0.ui 2) ++ sto n0.gi 2) ++ sto n0.tm 4)) (B := (sto n0.at_ 4 ++ (sto n0.dv 4 ++ []))) (x := n0.ln) (m := 4) (bs := bs) (at_ := at_) (by have := hp; simp only [List.append_assoc, List.nil_append, List.append_nil] at this ⊢; exact this)
    have hA : ((((((([] : List Int) ++ sto n0.kd 2) ++ sto n0.md 2) ++ sto n0.ui 2) ++ sto n0.gi 2) ++ sto n0.tm 4)).length = 12 := by simp only [List.length_append, sto_length, List.length_nil]
    rw [hA] at q
    exact q
  have g5 : x5 = n0.ln := by
    rw [e.1.1.2, f5]
    have r := hr.ln
    rw [IntKind.wrap_i64]
    omega
  have f6 : fv15 bs at_ 16 4 = n0.at_ % 4294967296 := by
    have q := fv_of (A := (((((([] ++ sto n0.kd 2) ++ sto n0.md 2) ++ sto n0.ui 2) ++ sto n0.gi 2) ++ sto n0.tm 4) ++ sto n0.ln 4)) (B := (sto n0.dv 4 ++ [])) (x := n0.at_) (m := 4) (bs := bs) (at_ := at_) (by have := hp; simp only [List.append_assoc, List.nil_append, List.append_nil] at this ⊢; exact this)
    have hA : (((((((([] : List Int) ++ sto n0.kd 2) ++ sto n0.md 2) ++ sto n0.ui 2) ++ sto n0.gi 2) ++ sto n0.tm 4) ++ sto n0.ln 4)).length = 16 := by simp only [List.length_append, sto_length, List.length_nil]
    rw [hA] at q
    exact q
  have g6 : x6 = n0.at_ := by
    rw [e.1.2, f6]
    have r := hr.at_
    unfold sg15
    rw [IntKind.wrap_i32]
    omega
  have f7 : fv15 bs at_ 20 4 = n0.dv % 4294967296 := by
    have q := fv_of (A := ((((((([] ++ sto n0.kd 2) ++ sto n0.md 2) ++ sto n0.ui 2) ++ sto n0.gi 2) ++ sto n0.tm 4) ++ sto n0.ln 4) ++ sto n0.at_ 4)) (B := []) (x := n0.dv) (m := 4) (bs := bs) (at_ := at_) (by have := hp; simp only [List.append_assoc, List.nil_append, List.append_nil] at this ⊢; exact this)
    have hA : ((((((((([] : List Int) ++ sto n0.kd 2) ++ sto n0.md 2) ++ sto n0.ui 2) ++ sto n0.gi 2) ++ sto n0.tm 4) ++ sto n0.ln 4) ++ sto n0.at_ 4)).length = 20 := by simp only [List.length_append, sto_length, List.length_nil]
    rw [hA] at q
    exact q
  have g7 : x7 = n0.dv := by
    rw [e.2, f7]
    have r := (hr.k4 (by omega))
    rw [IntKind.wrap_i64]
    omega
  exact ⟨g0, g1, g2, g3, g4, g5, g6, (z1 (by omega)).1.symm, (z1 (by omega)).2.1.symm, (z1 (by omega)).2.2.2.1.symm, (z1 (by omega)).2.2.2.2.1.symm, (z1 (by omega)).2.2.2.2.2.symm, (z2 (by omega)).1.symm, (z2 (by omega)).2.1.symm, (z2 (by omega)).2.2.symm, g7, (List.eq_nil_of_length_eq_zero (by rw [hw]; exact (z1 (by omega)).2.2.1)).symm, (z3 (by omega)).symm⟩
end Go.Proofs.Ytiafbnpbbjkdbaa
