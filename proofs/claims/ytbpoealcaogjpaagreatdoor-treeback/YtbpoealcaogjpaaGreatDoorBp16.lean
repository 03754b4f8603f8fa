/- slices.Repeat of one number. The program's tree: has a list the root's entry? The document's lz: a length and its four bits. The document's lz: the bytes that tell a length. The program's Join, as landed. A range over an iterator that itself goes through another iterator (a law of the walk's own kind, for texts). The program's pieces, as landed: an iterator over what stands between the slashes of a text. -/
import Derived.Laws.CopyOwn
import Derived.Deep.RegionHeld3
import Derived.WalkLawsBesides
import Derived.WalkKit
import Derived.Below
import Derived.BigRegion
import Derived.Deep.QuietTactic
import Derived.Lib.AppendStr
import Derived.RangeFuncNested
import Derived.RangeFuncBound
import Derived.RangeFuncCalls
import Derived.RangeFuncLeaves
import Derived.RangeFuncBox
import Derived.Shelf.Abstract
import Derived.Shelf.RegionOpen
import Derived.OwnWalkIn
import Derived.TacticsInMore
import Derived.LoopNIn
import Derived.LoopIn
import Derived.Maps.AppendAt
import Derived.Test.YtbpoealcaogjpaaGreatDoorBp07
import Derived.Test.YtbpoealcaogjpaaGreatDoorBp10
import Derived.Test.YtbpoealcaogjpaaGreatDoorBp12
import Derived.Test.YtbpoealcaogjpaaGreatDoorBp15
namespace Go.Proofs.YtbpoealcaogjpaaGreatDoor
open Go.RowKit
set_option maxRecDepth 100000
set_option linter.unusedSimpArgs false
set_option linter.unusedVariables false

theorem bmul1 (n : Nat) (hn : n ≤ 100000) (w : World) : Calls Tryz.prog 77 #[.int .u64 1, .int .u64 n] w fun e w' => e = .returned (.tuple #[.int .u64 0, .int .u64 (n : Int)]) ∧ w = w' := by
  have h := bmul_any 1 n (by decide) (by omega) w
  rw [Nat.one_mul, Nat.div_eq_of_lt (by omega), Nat.mod_eq_of_lt (by omega)] at h
  exact h.mono fun e w' ⟨h1, h2⟩ => ⟨h1, h2.symm⟩
theorem Tryz.sizeI : (Tryz.prog.info? 3).map (·.size) = some 1 := by kernel_rfl
theorem Tryz.infoI : (Tryz.prog.info? 3).map (fun i => (i.zero, i.size, i.bytes)) = some (some (.int .i64 0), 1, 8) := by kernel_rfl
theorem step_copyI {P : Program} {ops : Array Oper} {o : Oper} {a : Act} {w : World} {K : Act → World → Prop} {Q : Exit → Act → World → Prop} {E : Prop} (hgd : o.guard = none) (d s : Operand) (dT sT : TypeId)
    (ho : o.op = .call { callee := .builtin .copy, args := #[d, s], argTypes := #[dT, sT] }) (elem : TypeId) (hu : P.underlying dT = some (.slice elem)) (hsz : (P.info? elem).map (·.size) = some 1)
    (dLen dCap sLen sCap : Nat) (g off : Nat) (ad : Addr) (hd : a.eval d = .slice (some ⟨g, off, none⟩) dLen dCap) (hs : a.eval s = .slice (some ad) sLen sCap)
    (cur : List Value) (t : TypeId) (hg : Bx w g t cur) (cs : List Value) (hn : cs.length = Nat.min sLen dLen)
    (hsrc : ∀ j v, cs[j]? = some v → w.cell? (ad.add j) = some v) (hfit : off + cs.length ≤ cur.length) (h1 : ∀ v ∈ cs, v.oneCell' = true)
    (h : ∀ w', Bx w' g t (splice cur off cs) → w.grownBy w' (some g) → K (a.put o.dst (.int .i64 (cs.length : Int))) w') :
    if Region.wanted o (yielded ops a.tmps) = true then Oper.wp P o a w K Q else E := by
  rw [if_pos (by simp [Region.wanted, hgd])]
  have hrun := run_copy_row (P := P) w dT sT o.type elem g off dLen dCap ad sLen sCap cur.toArray t cs hu hsz hg.blk hn hsrc (by simpa using hfit) h1
  unfold Oper.wp
  simp [execOp, ho, resolve, invoke, builtin, hd, hs, hrun, Result.andThen]
  exact h _ ⟨by simpa [splice] using setRow_heap w g _ _ t _ hg.blk⟩ ⟨rfl, rfl, rfl, by simp, fun k _ hk => setRow_other w g k _ (fun e => hk (by rw [e]))⟩
theorem wpList_copyI {P : Program} {ops : Array Oper} {rest : List Oper} {o : Oper} {a : Act} {w : World} {Q : Exit → Act → World → Prop} (hgd : o.guard = none) (d s : Operand) (dT sT : TypeId)
    (ho : o.op = .call { callee := .builtin .copy, args := #[d, s], argTypes := #[dT, sT] }) (elem : TypeId) (hu : P.underlying dT = some (.slice elem)) (hsz : (P.info? elem).map (·.size) = some 1)
    (dLen dCap sLen sCap : Nat) (g off : Nat) (ad : Addr) (hd : a.eval d = .slice (some ⟨g, off, none⟩) dLen dCap) (hs : a.eval s = .slice (some ad) sLen sCap)
    (cur : List Value) (t : TypeId) (hg : Bx w g t cur) (cs : List Value) (hn : cs.length = Nat.min sLen dLen)
    (hsrc : ∀ j v, cs[j]? = some v → w.cell? (ad.add j) = some v) (hfit : off + cs.length ≤ cur.length) (h1 : ∀ v ∈ cs, v.oneCell' = true)
    (h : ∀ w', Hid (Bx w' g t (splice cur off cs)) → Hid (w.grownBy w' (some g)) → wpList P ops Q rest (a.put o.dst (.int .i64 (cs.length : Int))) w') : wpList P ops Q (o :: rest) a w := by
  refine wpList_plain hgd fun K hK => ?_
  have := step_copyI (P := P) (ops := ops) (o := o) (a := a) (w := w) (K := K) (Q := Q) (E := False) hgd d s dT sT ho elem hu hsz dLen dCap sLen sCap g off ad hd hs cur t hg cs hn hsrc hfit h1 (fun w' hb hg => hK _ _ (h w' hb hg))
  rwa [if_pos (by simp [Region.wanted, hgd])] at this
/-- k of n numbers are laid -/
def rpt (k n : Nat) : List Value := List.replicate k (.int .i64 (-1)) ++ List.replicate (n - k) (.int .i64 0)
theorem rpt_len {k n : Nat} (h : k ≤ n) : (rpt k n).length = n := by unfold rpt; simp; omega
theorem rpt_splice {k m n : Nat} (h : k + m ≤ n) : splice (rpt k n) k (List.replicate m (.int .i64 (-1))) = rpt (k + m) n := by
  unfold splice rpt
  rw [List.take_left' (by simp), List.length_replicate, List.drop_append, List.drop_eq_nil_of_le (by simp), List.nil_append, List.length_replicate, Nat.add_sub_cancel_left, List.drop_replicate, ← List.append_assoc, List.replicate_append_replicate, Nat.sub_sub]
theorem rpt_get {k n i : Nat} (h : i < k) : (rpt k n)[i]? = some (.int .i64 (-1)) := by
  unfold rpt
  rw [List.getElem?_append_left (by simpa using h), List.getElem?_replicate, if_pos h]
theorem made_int (n : Nat) : (madeCells (Value.int .i64 0).cells (n * 1)).toList = rpt 0 n := by
  unfold madeCells rpt
  simp [Value.cells]
  apply List.ext_getElem?
  intro i
  rw [List.getElem?_map, List.getElem?_replicate]
  by_cases h : i < n
  · rw [List.getElem?_range h, if_pos h]
    simp [Nat.mod_one]
  · rw [if_neg h, List.getElem?_eq_none (by simpa using h)]
    rfl
theorem own_bx {W : World} {base e n : Nat} {g : Nat} {xs : List Value} (h : W.ownsRow base e 1 (.slice (some ⟨g, 0, none⟩) n n) n xs) : Bx W g e xs := by
  rcases h.2 with ⟨h0, _⟩ | ⟨g', cap', cur, hv, hg, hb, hn, hcap, hsz, ht⟩
  · cases h0
  · injection hv with h1 h2 h3
    injection h1 with h1
    injection h1 with h1
    subst h1 h3
    rw [List.take_of_length_le (by rw [Array.length_toList, hsz]; exact Nat.le_refl _)] at ht
    exact ⟨by rw [hb, ← ht]⟩
theorem bx_own {W : World} {base e n g : Nat} {xs : List Value} (h : Bx W g e xs) (hb : base ≤ g) (hl : xs.length = n) (hm : n ≤ maxLen) : W.ownsRow base e 1 (.slice (some ⟨g, 0, none⟩) n n) n xs :=
  ⟨by rw [Nat.mul_one]; exact hl, .inr ⟨g, n, xs.toArray, rfl, hb, h.blk, Nat.le_refl _, hm, by simp [hl], by simp [← hl]⟩⟩
theorem copyI_here {P : Program} {w : World} {ops : Array Oper} {rest : List Oper} {a : Act} {Q : Exit → Act → World → Prop} {dst : Option Nat} {as_ : Array Operand} {ts : Array TypeId} {type : TypeId} {pos : String} {after : Array Edge} {guard : Option (Nat × Bool)}
    (h : wpList P ops Q (⟨dst, .call ⟨.builtin .copy, as_, ts⟩, type, pos, after, guard⟩ :: rest) a w) : wpList P ops Q (⟨dst, .call ⟨.builtin .copy, as_, ts⟩, type, pos, after, guard⟩ :: rest) a w := h
theorem one_rep (m : Nat) : ∀ v ∈ List.replicate m (Value.int .i64 (-1)), v.oneCell' = true := fun v hv => by rw [List.eq_of_mem_replicate hv]; rfl
set_option maxHeartbeats 4000000 in
theorem prepeat_any (b n : Nat) (w : World) (hc : w.cell? ⟨b, 0, none⟩ = some (.int .i64 (-1))) (h1 : 1 ≤ n) (hn : n ≤ 100000) :
    Calls Tryz.prog 50 #[.slice (some ⟨b, 0, none⟩) 1 1, .int .i64 n] w fun e w' => ∃ g, e = .returned (.slice (some ⟨g, 0, none⟩) n n) ∧ w'.ownsRow w.heap.size 3 1 (.slice (some ⟨g, 0, none⟩) n n) n (List.replicate n (.int .i64 (-1))) ∧ w.grownBy w' none := by
  obtain ⟨ia, hi, hz0, hz1, hz2⟩ := info_parts Tryz.infoI
  have hm := fun W => bmul1 n hn W
  have hb := cell_lt11 hc
  go_enter Tryz.func50, Tryz.ntmps50
  go_wp2_with (first | (go_at_call 77; refine (hm _).mono ?_; rintro e w' ⟨rfl, rfl⟩) | (at_make; refine wpList_make_full _ rfl _ _ 45 rfl w.heap.size 3 ia _ 1 Tryz.underlying45 hi hz0 hz1 .i64 .i64 _ _ n rfl rfl rfl rfl (by rw [hz2]; omega) (by unfold maxLen; omega) (Nat.le_refl _) ?_; intro W1 ho1 g1; have hc1 := cell_grown hc g1; have HB1 : Hid (Bx W1 w.heap.size 3 (rpt 0 n)) := own_bx (by rw [← made_int]; exact ho1); have HG1 : Hid _ := g1; clear ho1 g1) | ((with_reducible refine copyI_here ?_); refine wpList_copyI rfl _ _ 45 45 rfl 3 Tryz.underlying45 Tryz.sizeI n n 1 1 w.heap.size 0 ⟨b, 0, none⟩ rfl rfl (rpt 0 n) 3 HB1.out (List.replicate 1 (.int .i64 (-1))) (by show 1 = Nat.min 1 n; exact (Nat.min_eq_left h1).symm) (fun j v hv => by cases j with | zero => (injection hv with hv; rw [← hv]; exact hc1) | succ j => cases hv) (by rw [rpt_len (Nat.zero_le n)]; simp; omega) (one_rep 1) ?_; intro W2 hb2 g2; have HB2 : Hid (Bx W2 w.heap.size 3 (rpt 1 n)) := (by have h3 := hb2.out; have h4 := rpt_splice (k := 0) (m := 1) (n := n) (by omega); rw [h4] at h3; exact h3); have HG2 : Hid (w.grownBy W2 none) := grown_new HG1.out g2.out (Nat.le_refl _); clear hb2 g2 HB1 HG1 hc1))
  clear hm hc
  generalize hg : w.heap.size = g at *
  have HGS : Hid _ := hg
  clear hg
  go_loopw [8] (fun v wr => ∃ k : Nat, 1 ≤ k ∧ k ≤ n ∧ v = .int .i64 k ∧ Hid (Bx wr g 3 (rpt k n)) ∧ Hid (w.grownBy wr none)) (fun v _ => n - (intOf v).toNat)
  case atStart => exact ⟨1, Nat.le_refl _, h1, rfl, HB2.out, HG2.out⟩
  case round =>
    clear HB2 HG2
    obtain ⟨k, hk1, hk, rfl, HB, HG⟩ := hrel
    by_cases hlt : k < n
    · have hlti : (k : Int) < (n : Int) := by omega
      go_wp2_with fail
      refine wp_region_held_drew (S := fun w' => w.grownBy w' none) (by kernel_rfl) (grown_trans HG.out (drewG0 wr)) (fun hH => ?_)
      have hB := HB.out.kept (drewG0 wr)
      clear HB HG
      generalize wr.drew = WD at *
      refine wpAnyH_take (i := 0) (oi := ⟨some 38, _, _, _, _, _⟩) (v := .int .i64 k) rfl (by kernel_rfl) (by kernel_rfl) (by kernel_rfl) (fun _ _ _ h => h) (Or.inl ⟨by rfl, fun w hSw => by go_simp⟩) hH ?_
      simp only [Act.put, pu]
      refine wpAnyH_take (i := 1) (oi := ⟨some 39, _, _, _, _, _⟩) (v := .slice (some ⟨g, 0, none⟩) n n) rfl (by kernel_rfl) (by kernel_rfl) (by kernel_rfl) (fun _ _ _ h => h) (Or.inl ⟨by rfl, fun w hSw => by go_simp⟩) hH ?_
      simp only [Act.put, pu]
      refine wpAnyH_take (i := 2) (oi := ⟨some 40, _, _, _, _, _⟩) (v := .int .i64 k) rfl (by kernel_rfl) (by kernel_rfl) (by kernel_rfl) (fun _ _ _ h => h) (Or.inl ⟨by rfl, fun w hSw => by go_simp⟩) hH ?_
      simp only [Act.put, pu]
      refine wpAnyH_take (i := 3) (oi := ⟨some 41, _, _, _, _, _⟩) (v := .slice (some ⟨g, k, none⟩) (n - k) (n - k)) rfl (by kernel_rfl) (by kernel_rfl) (by kernel_rfl) (fun _ _ _ h => h) (Or.inl ⟨by rfl, fun w hSw => by go_simp; omega⟩) hH ?_
      simp only [Act.put, pu]
      refine wpAnyH_take (i := 4) (oi := ⟨some 42, _, _, _, _, _⟩) (v := .slice (some ⟨g, 0, none⟩) n n) rfl (by kernel_rfl) (by kernel_rfl) (by kernel_rfl) (fun _ _ _ h => h) (Or.inl ⟨by rfl, fun w hSw => by go_simp⟩) hH ?_
      simp only [Act.put, pu]
      refine wpAnyH_take (i := 5) (oi := ⟨some 43, _, _, _, _, _⟩) (v := .int .i64 k) rfl (by kernel_rfl) (by kernel_rfl) (by kernel_rfl) (fun _ _ _ h => h) (Or.inl ⟨by rfl, fun w hSw => by go_simp⟩) hH ?_
      simp only [Act.put, pu]
      refine wpAnyH_take (i := 6) (oi := ⟨some 44, _, _, _, _, _⟩) (v := .slice (some ⟨g, 0, none⟩) k n) rfl (by kernel_rfl) (by kernel_rfl) (by kernel_rfl) (fun _ _ _ h => h) (Or.inl ⟨by rfl, fun w hSw => by go_simp⟩) hH ?_
      simp only [Act.put, pu]
      obtain ⟨m, hm⟩ : ∃ m, m = Nat.min k (n - k) := ⟨_, rfl⟩
      have hm1 : m ≤ k := by rw [hm]; exact Nat.min_le_left _ _
      have hm2 : m ≤ n - k := by rw [hm]; exact Nat.min_le_right _ _
      have hm3 : 1 ≤ m := by rw [hm]; exact Nat.le_min.2 ⟨hk1, by omega⟩
      have HM : Hid _ := hm
      clear hm
      have hwr : IntKind.i64.wrap ((k : Int) + (m : Int)) = (k : Int) + (m : Int) := by simp [IntKind.wrap, IntKind.bits, IntKind.signed]; omega
      refine wpAnyH_ready (rs := [7]) (by kernel_rfl) (by simp) ?_
      refine AllReadyH.cons rfl (fun K1 hK => ?_) AllReadyH.nil
      refine step_copyI rfl _ _ 45 45 rfl 3 Tryz.underlying45 Tryz.sizeI (n - k) (n - k) k n g k ⟨g, 0, none⟩ rfl rfl (rpt k n) 3 hB (List.replicate m (.int .i64 (-1))) (by rw [List.length_replicate]; exact HM.out) (fun j v hv => ?_) (by rw [rpt_len hk, List.length_replicate]; omega) (one_rep _) (fun W3 hb3 g3 => ?_)
      · have hj : j < m := by have := (List.getElem?_eq_some_iff.1 hv).1; simpa using this
        rw [List.getElem?_replicate, if_pos hj] at hv
        injection hv with hv
        have e : (⟨g, 0, none⟩ : Addr).add j = ⟨g, j, none⟩ := by (simp [Addr.add]; intro h; exact h.symm)
        rw [e, hB.c j, rpt_get (by omega), hv]
      rw [rpt_splice (by omega)] at hb3
      rw [List.length_replicate]
      replace hH := grown_new hH g3 (by rw [HGS.out]; exact Nat.le_refl _)
      have HB3 : Hid _ := hb3
      clear g3 hb3 hB
      refine hK.out _ _ hH (fun _ => ?_)
      clear hK K1
      simp only [Act.put, List.getElem_toArray, List.getElem_cons_succ, List.getElem_cons_zero, List.setIfInBounds_toArray, List.set_cons_zero, List.set_cons_succ]
      refine wpAnyH_take (i := 8) (oi := ⟨some 46, _, _, _, _, _⟩) (v := .int .i64 ((k + m : Nat) : Int)) rfl (by kernel_rfl) (by kernel_rfl) (by kernel_rfl) (fun _ _ _ h => h) (Or.inl ⟨by rfl, fun w hSw => by go_simp⟩) hH ?_
      simp only [Act.put, pu]
      refine wpAnyH_take (i := 9) (oi := ⟨some 8, _, _, _, _, _⟩) (v := .int .i64 ((k + m : Nat) : Int)) rfl (by kernel_rfl) (by kernel_rfl) (by kernel_rfl) (fun _ _ _ h => h) (Or.inl ⟨by rfl, fun w hSw => by go_simp⟩) hH ?_
      simp only [Act.put, pu]
      refine wpAnyH_done (by kernel_rfl) ?_ _
      clear hwr
      go_wp2_with fail
      exact ⟨⟨k + m, by omega, by omega, rfl, HB3, hH⟩, by simp [intOf]; omega⟩
    · have hlti : ¬ (k : Int) < (n : Int) := by omega
      obtain rfl : k = n := by omega
      have HO : Hid (wr.ownsRow g 3 1 (.slice (some ⟨g, 0, none⟩) k k) k (List.replicate k (.int .i64 (-1)))) := bx_own (by have := HB.out; unfold rpt at this; rw [Nat.sub_self, List.replicate_zero, List.append_nil] at this; exact this) (Nat.le_refl _) (by simp) (by unfold maxLen; omega)
      clear HB
      go_wp2_with fail
      go_ret
      exact ⟨g, rfl, by rw [HGS.out]; exact HO.out, HG.out⟩
end Go.Proofs.YtbpoealcaogjpaaGreatDoor

namespace Go.Proofs.YtbpoealcaogjpaaGreatDoor
open Go.RowKit
set_option maxRecDepth 100000
set_option linter.unusedSimpArgs false
set_option linter.unusedVariables false

/-- has it the root's entry? -/
def hasR (l : List EnV) : Bool := l.any fun X => X.path.toList == []
theorem pwr1_any (X : EnV) (w : World) : Calls Tryz.prog 55 #[X.val] w fun e w' => e = .returned (.bool (X.path.toList == [])) ∧ w.grownBy w' none := by
  obtain ⟨path, K, mode, uid, gid, time, size, da, dl, dc, data, target, dev, aa, al, ac, attrs⟩ := X
  simp only [EnV.val]
  generalize hB : (path.toList == []) = B
  cases B <;>
  · go_enter Tryz.func55, Tryz.ntmps55
    go_wp2_with fail
    go_ret
    exact ⟨by first | rfl | simpa using hB, World.grownBy_alloc _ _ none⟩
set_option maxHeartbeats 4000000 in
theorem pidxf_any (a : Option Addr) (len cap : Nat) (l : List EnV) (w : World) (E : Ens w a len l) :
    Calls Tryz.prog 85 #[.slice a len cap, .func (.func 55) #[] #[]] w fun e w' => ∃ i : Int, e = .returned (.int .i64 i) ∧ decide (0 ≤ i) = hasR l ∧ w.grownBy w' none := by
  have hll := E.len_eq
  have hle : len ≤ 9223372036854775807 := E.le
  have hta : l.take len = l := List.take_of_length_le (by omega)
  have HI : Hid _ := And.intro E (And.intro hll hta)
  clear E hll hta
  go_enter Tryz.func85, Tryz.ntmps85
  go_wp2_with fail
  go_loopw [8] (fun vi wr => ∃ (k : Nat), k ≤ len ∧ vi = .int .i64 k ∧ Hid (hasR (l.take k) = false) ∧ Hid (w.grownBy wr none)) (fun vi _ => len - (intOf vi).toNat)
  case atStart => exact ⟨0, Nat.zero_le _, rfl, rfl, World.grownBy.refl _ _⟩
  case round =>
    obtain ⟨k, hk, rfl, HS, HG⟩ := hrel
    by_cases hlt : k < len
    · obtain ⟨Y, hY⟩ : ∃ Y, l[k]? = some Y := ⟨_, List.getElem?_eq_getElem (by have := HI.out.2.1; omega)⟩
      obtain ⟨b, off, rfl, hat⟩ := (HI.out.1.grown HG.out).at_ (by omega)
      obtain ⟨y0, y1, y2, y3, y4, y5, y6, y7, y8, y9, y10, yok⟩ := hat k Y hY
      have hcl := fun W => pwr1_any Y W
      have hst : hasR (l.take (k + 1)) = (Y.path.toList == []) := by
        unfold hasR at *
        rw [List.take_add_one, hY, List.any_append, HS.out]
        simp
      have HN : Hid _ := hst
      clear hst hat yok hY
      obtain ⟨path, KY, mode, uid, gid, time, size, da, D, dc, data, target, dev, aa, al, ac, attrs⟩ := Y
      simp only [EnV.val] at hcl
      simp only at y0 y1 y2 y3 y4 y5 y6 y7 y8 y9 y10 HN
      generalize (path.toList == []) = B at *
      have hlti : (k : Int) < (len : Int) := by omega
      cases B with
      | true =>
        have HV : Hid (hasR l = true) := by
          show hasR l = true
          rw [← List.take_append_drop (k + 1) l]
          unfold hasR at *
          rw [List.any_append, HN.out]; rfl
        go_wp2_with (go_at_call 55; refine (hcl _).mono ?_; rintro e w' ⟨rfl, hg⟩)
        go_ret
        exact ⟨k, rfl, by rw [HV.out]; exact decide_eq_true (by omega), grown_trans HG.out hg⟩
      | false =>
        go_wp2_with (go_at_call 55; refine (hcl _).mono ?_; rintro e w' ⟨rfl, hg⟩)
        exact ⟨⟨k + 1, by omega, by go_num, HN, grown_trans HG.out hg⟩, by simp [intOf]; omega⟩
    · have hlti : ¬ (k : Int) < (len : Int) := by omega
      obtain rfl : k = len := by omega
      have HV : Hid (hasR l = false) := by
        have := HS.out
        rw [HI.out.2.2] at this
        exact this
      go_wp2_with fail
      go_ret
      exact ⟨-1, rfl, by rw [HV.out]; rfl, HG.out⟩
theorem pconf_any (a : Option Addr) (len cap : Nat) (l : List EnV) (w : World) (E : Ens w a len l) :
    Calls Tryz.prog 54 #[.slice a len cap, .func (.func 55) #[] #[]] w fun e w' => e = .returned (.bool (hasR l)) ∧ w.grownBy w' none := by
  have h := pidxf_any a len cap l w E
  generalize hasR l = B at *
  clear E
  go_enter Tryz.func54, Tryz.ntmps54
  go_wp2_with (go_at_call 85; refine h.mono ?_; rintro e w' ⟨i, rfl, hi, hg⟩; have HI : Hid _ := hi; clear hi)
  go_ret
  exact ⟨by rw [← HI.out]; rfl, hg⟩
end Go.Proofs.YtbpoealcaogjpaaGreatDoor

namespace Go.Proofs.YtbpoealcaogjpaaGreatDoor
open Go.RowKit
set_option maxRecDepth 100000
set_option linter.unusedSimpArgs false
set_option linter.unusedVariables false

end Go.Proofs.YtbpoealcaogjpaaGreatDoor

namespace Go.Proofs.YtbpoealcaogjpaaGreatDoor
open Go.RowKit
set_option maxRecDepth 100000
set_option linter.unusedSimpArgs false
set_option linter.unusedVariables false

theorem info_parts {P : Program} {t : TypeId} {z : Option Value} {s b : Nat} (h : (P.info? t).map (fun i => (i.zero, i.size, i.bytes)) = some (z, s, b)) : ∃ i, P.info? t = some i ∧ i.zero = z ∧ i.size = s ∧ i.bytes = b := by
  cases e : P.info? t with
  | none => rw [e] at h; simp at h
  | some i => rw [e] at h; simp at h; exact ⟨i, rfl, h.1, h.2.1, h.2.2⟩
theorem cell_one (w : World) (t : TypeId) (v : Value) (j : Nat) (u : Value) (h : ([v])[j]? = some u) : (w.alloc (.cells #[v] t)).cell? ((⟨w.heap.size, 0, none⟩ : Addr).add j) = some u := by
  cases j with
  | zero =>
    simp at h
    subst h
    simp [Addr.add]
  | succ j => simp at h
theorem grown_own {a b c : World} {base t s n : Nat} {v : Value} {xs : List Value} (h : a.grownBy b none) (ho : b.ownsRow base t s v n xs) (k : b.grownBy c v.ownBlock) (hb : a.heap.size ≤ base) : a.grownBy c none :=
  ⟨k.os.trans h.os, k.tape.trans h.tape, k.output.trans h.output, Nat.le_trans h.size k.size, fun i hi hr => (k.block i (Nat.lt_of_lt_of_le hi h.size) (fun e => by have := (ho.lt i e.symm).1; omega)).trans (h.block i hi hr)⟩

end Go.Proofs.YtbpoealcaogjpaaGreatDoor

namespace Go.Proofs.YtbpoealcaogjpaaGreatDoor
open Go.RowKit
set_option maxRecDepth 100000
set_option linter.unusedSimpArgs false
set_option linter.unusedVariables false

/-- a text's bytes as numbers -/
def nus (l : Tx) : List Int := l.map fun b => (b.toNat : Int)
theorem nus_app (a b : Tx) : nus (a ++ b) = nus a ++ nus b := by simp [nus]
theorem nus_byt (l : Tx) : Byt (nus l) := fun n hn => by
  obtain ⟨b, _, rfl⟩ := List.mem_map.1 hn
  have := UInt8.toNat_lt b
  omega
theorem nus_cells (s : ByteArray) : Lib.strCells s = bv (nus s.toList) := by
  unfold Lib.strCells bv nus
  rw [ByteArray.toList_eq, List.map_map]
  rfl
theorem nus_str (l : Tx) : strOfNums (nus l) = tx l := by
  apply tl_inj
  rw [str_toList, tx_tl]
  unfold nus
  rw [List.map_map]
  conv => rhs; rw [← List.map_id l]
  apply List.map_congr_left
  intro b _
  simp
set_option maxHeartbeats 2000000 in
theorem pjoin_any (a : Option Addr) (n c : Nat) (l : List ByteArray) (w : World) (R : SRow w a n l) (hnc : n ≤ c) (hn : n ≤ 1000000) (hl : ∀ i, (l.getD i ⟨#[]⟩).size ≤ 5000) :
    Calls Tryz.prog 70 #[.slice a n c] w fun e w' => e = .returned (.tuple #[.string (tx (jnp (tls l)).1), .int .i64 (jnp (tls l)).2]) ∧ w.grownBy w' none := by
  have hln : (tls l).length = n := by rw [tls_len]; exact R.len_eq
  by_cases hm : 128 < n
  · have e : jnp (tls l) = ([], 3) := by unfold jnp; rw [hln, if_pos hm]
    rw [e]
    have hmi : (128 : Int) < n := by omega
    go_enter Tryz.func70, Tryz.ntmps70
    go_wp2
    go_ret2
    exact ⟨rfl, World.grownBy.refl _ _⟩
  · have hmi : ¬ (128 : Int) < n := by omega
    have HJ : Hid (jnp (tls l) = if (tls l).any (fun p => !prt p) then ([], 1) else if 4096 < (joi (tls l)).length then ([], 2) else (joi (tls l), 0)) := by
      show jnp (tls l) = _
      unfold jnp; rw [hln, if_neg hm]
    have HB : Hid (∀ p ∈ tls l, p.length ≤ 5000) := by
      intro p hp
      obtain ⟨x, hx, rfl⟩ := List.mem_map.1 hp
      obtain ⟨i, hi, rfl⟩ := List.getElem_of_mem hx
      have := hl i
      rw [tl_len]
      simpa [List.getD_eq_getElem?_getD, hi] using this
    generalize hT : tls l = T at *
    have HT : Hid _ := And.intro hT hln
    have HR : Hid _ := And.intro R hl
    have HTK : Hid (∀ k, k < n → T.take (k + 1) = T.take k ++ [(l.getD k ⟨#[]⟩).toList]) := by
      intro k hlt
      rw [List.take_succ_eq_append_getElem (by rw [HT.out.2]; exact hlt)]
      congr 2
      have hkl : k < l.length := by rw [HR.out.1.len_eq]; exact hlt
      simp only [← HT.out.1, tls, List.getElem_map, List.getD_eq_getElem?_getD, List.getElem?_eq_getElem hkl, Option.getD_some]
    clear R hl hT hln
    go_enter Tryz.func70, Tryz.ntmps70
    go_wp2
    go_loopw [14] (fun vi wr => ∃ k : Nat, k ≤ n ∧ vi = .int .i64 k ∧ Hid ((T.take k).any (fun p => !prt p) = false) ∧ w = wr) (fun vi _ => n - (intOf vi).toNat)
    case atStart => exact ⟨0, Nat.zero_le _, rfl, rfl, rfl⟩
    case round =>
      obtain ⟨k, hk, rfl, HP, rfl⟩ := hrel
      by_cases hlt : k < n
      · obtain ⟨b1, o1, rfl, c1⟩ := HR.out.1.cells (by omega)
        have hx := c1 k hlt
        have hsz := HR.out.2 k
        have hTk := HTK.out k hlt
        generalize l.getD k ⟨#[]⟩ = x at *
        have hv := fun W => pvalid_eq x W (by omega)
        have HTk : Hid _ := hTk
        clear hTk c1
        have hlti : (k : Int) < n := by omega
        cases hpr : prt x.toList with
        | false =>
          have HV : Hid (jnp T = ([], 1)) := by
            show jnp T = ([], 1)
            rw [HJ.out, if_pos]
            rw [List.any_eq_true]
            refine ⟨x.toList, List.mem_of_mem_take (i := k + 1) ?_, by rw [hpr]; rfl⟩
            rw [HTk.out]; simp
          have hp2 : (x.toList == [46, 46]) = false ∧ vld x.toList = false := by unfold prt at hpr; rwa [Bool.or_eq_false_iff] at hpr
          obtain ⟨hx2, hvv⟩ := hp2
          rw [hvv] at hv
          clear hpr hvv HTk HP
          go_wp2_with (go_at_call 69; refine (hv _).mono ?_; rintro e w' ⟨rfl, rfl⟩)
          go_ret2
          exact ⟨by rw [HV.out]; rfl, World.grownBy.refl _ _⟩
        | true =>
          have HP2 : Hid ((T.take (k + 1)).any (fun p => !prt p) = false) := by
            show (T.take (k + 1)).any (fun p => !prt p) = false
            rw [HTk.out, List.any_append, HP.out]; simp [hpr]
          have hp2 : (x.toList == [46, 46]) = true ∨ ((x.toList == [46, 46]) = false ∧ vld x.toList = true) := by
            unfold prt at hpr
            cases h : (x.toList == [46, 46]) with
            | true => exact Or.inl rfl
            | false => rw [h, Bool.false_or] at hpr; exact Or.inr ⟨rfl, hpr⟩
          clear hpr HP HTk
          rcases hp2 with hx2 | ⟨hx2, hvv⟩
          · go_wp2_with (go_at_call 69; refine (hv _).mono ?_; rintro e w' ⟨rfl, rfl⟩)
            go_roundw
            case rel => exact ⟨k + 1, by omega, by go_num, HP2, by first | rfl | trivial⟩
            case measure => simp [intOf]; omega
          · rw [hvv] at hv
            go_wp2_with (go_at_call 69; refine (hv _).mono ?_; rintro e w' ⟨rfl, rfl⟩)
            go_roundw
            case rel => exact ⟨k + 1, by omega, by go_num, HP2, by first | rfl | trivial⟩
            case measure => simp [intOf]; omega
      · obtain rfl : k = n := by omega
        have hnl : ¬ (k : Int) < k := by omega
        have HJ2 : Hid (jnp T = if 4096 < (joi T).length then ([], 2) else (joi T, 0)) := by
          show jnp T = _
          have hTT : T.take k = T := List.take_of_length_le (by rw [HT.out.2]; exact Nat.le_refl _)
          have := HP.out
          rw [hTT] at this
          rw [HJ.out, this, if_neg (by decide)]
        clear HJ HP
        go_wp2
        obtain ⟨i5, hi, hz0, hz1, hz2⟩ := info_parts Tryz.info5
        go_loopw [6, 28] (fun vp vi wr => ∃ j : Nat, j ≤ k ∧ vi = .int .i64 j ∧ wr.ownsRow w.heap.size 5 1 vp (joi (T.take j)).length (bv (nus (joi (T.take j)))) ∧ w.grownBy wr none) (fun _ vi _ => k - (intOf vi).toNat)
        case atStart => exact ⟨0, Nat.zero_le _, rfl, World.ownsRow_nil _ _ _ _, World.grownBy.refl _ _⟩
        case round =>
          obtain ⟨j, hj, rfl, hown, hgr⟩ := hrel
          have hJl : (joi (T.take j)).length ≤ 640128 := by
            have h1 := joi_len (T.take j) 5000 (fun p hp => HB.out p (List.mem_of_mem_take hp))
            have h2 : (T.take j).length ≤ 128 := by rw [List.length_take]; omega
            exact Nat.le_trans h1 (Nat.le_trans (Nat.mul_le_mul_right _ h2) (by decide))
          by_cases hlt : j < k
          · obtain ⟨b1, o1, rfl, c1⟩ := HR.out.1.cells (by omega)
            have hx := ((HR.out.1.grown hgr).cells (by omega))
            obtain ⟨b2, o2, he2, c2⟩ := hx
            obtain ⟨rfl, rfl⟩ : b1 = b2 ∧ o1 = o2 := by injection he2 with he2; injection he2 with h1 h2; exact ⟨h1, h2⟩
            have hx := c2 j hlt
            have hsz := HR.out.2 j
            have hTk := HTK.out j hlt
            generalize l.getD j ⟨#[]⟩ = x at *
            clear c1 c2 he2
            have hlti : (j : Int) < k := by omega
            by_cases hj0 : j = 0
            · have hs1 : joi (T.take (j + 1)) = joi (T.take j) ++ x.toList := by
                rw [hTk, hj0]
                simp [joi]
              have HS : Hid _ := hs1
              have hji : ¬ (0 : Int) < j := by omega
              clear hs1 hTk hj0
              generalize hq : joi (T.take j) = q at *
              have HQ : Hid _ := hq
              clear hq
              go_wp2_with (at_builtin; refine Lib.wpList_append_own_string _ rfl _ _ 41 9 rfl w.heap.size 5 i5 Tryz.underlying41 Tryz.underlying9 hi hz0 hz1 hz2 _ _ _ rfl hown x rfl (by unfold maxLen; omega) (by omega) hgr.size ?_; intro v' w1 hown' hgrow _)
              have hj1 : joi (T.take (j + 1)) = q ++ x.toList := by rw [HS.out]
              have R : w1.ownsRow w.heap.size 5 1 v' (joi (T.take (j + 1))).length (bv (nus (joi (T.take (j + 1))))) := by
                rw [hj1, List.length_append, tl_len, nus_app, bv_append, ← nus_cells]
                exact hown'
              exact ⟨⟨j + 1, by omega, by go_num, R, grown_own hgr hown hgrow (Nat.le_refl _)⟩, by simp [intOf]; omega⟩
            · have hs1 : joi (T.take (j + 1)) = joi (T.take j) ++ [47] ++ x.toList := by
                rw [hTk, joi_snoc _ _ (by intro e; have := congrArg List.length e; rw [List.length_take, HT.out.2] at this; simp at this; omega)]
                simp
              have HS : Hid _ := hs1
              have hji : (0 : Int) < j := by omega
              clear hs1 hTk hj0
              generalize hq : joi (T.take j) = q at *
              have HQ : Hid _ := hq
              clear hq
              go_wp2_with (at_builtin; (refine wpList_append_own _ rfl _ _ 41 rfl w.heap.size 5 i5 (.int .u8 0) 1 1 Tryz.underlying41 hi hz0 hz1 hz2 rfl (by decide) _ _ _ rfl (hown.alloc _) ⟨wr.heap.size, 0, none⟩ 1 1 (bv [47]) rfl rfl ?c1 (bv_one _) ?c3 ?c4 ?c5 ?_))
              case c1 => first | exact cell_one _ _ _ | exact fun j u h => h
              case c3 => unfold maxLen; omega
              case c4 => omega
              case c5 => have := hgr.size; simp; omega
              · intro v2 w2 hown2 hgrow2 _
                have hgr2 : w.grownBy w2 none := grown_own (grown_tr hgr (World.grownBy_alloc wr _ none)) (hown.alloc _) hgrow2 (Nat.le_refl _)
                clear hgrow2 hown hgr hx
                go_wp2_with (at_builtin; refine Lib.wpList_append_own_string _ rfl _ _ 41 9 rfl w.heap.size 5 i5 Tryz.underlying41 Tryz.underlying9 hi hz0 hz1 hz2 _ _ _ rfl hown2 x rfl (by unfold maxLen; omega) (by omega) hgr2.size ?_; intro v' w1 hown' hgrow _)
                have hj1 : joi (T.take (j + 1)) = q ++ [47] ++ x.toList := by rw [HS.out]
                have R : w1.ownsRow w.heap.size 5 1 v' (joi (T.take (j + 1))).length (bv (nus (joi (T.take (j + 1))))) := by
                  rw [hj1, List.length_append, List.length_append, tl_len, nus_app, nus_app, bv_append, bv_append, ← nus_cells]
                  exact hown'
                exact ⟨⟨j + 1, by omega, by go_num, R, grown_own hgr2 hown2 hgrow (Nat.le_refl _)⟩, by simp [intOf]; omega⟩
          · obtain rfl : j = k := by omega
            have hnl2 : ¬ (j : Int) < j := by omega
            have hTT : T.take j = T := List.take_of_length_le (by rw [HT.out.2]; exact Nat.le_refl _)
            rw [hTT] at hown hJl
            obtain ⟨a', c', rfl, RR⟩ := owns_row hown (nus_byt _) (by unfold maxLen; omega)
            have hconv := conv_row (P := Tryz.prog) RR c' 41 9 Tryz.underlying41 Tryz.underlying5 Tryz.underlying9
            rw [nus_str] at hconv
            generalize (joi T).length = len at *
            by_cases h4 : 4096 < len
            · have HV : Hid (jnp T = ([], 2)) := by
                show jnp T = _
                rw [HJ2.out, if_pos h4]
              have h4i : (4096 : Int) < len := by omega
              clear HJ2 RR hown
              go_wp2
              go_ret2
              exact ⟨by rw [HV.out]; rfl, hgr⟩
            · have HV : Hid (jnp T = (joi T, 0)) := by
                show jnp T = _
                rw [HJ2.out, if_neg h4]
              have h4i : ¬ (4096 : Int) < len := by omega
              have HV1 : Hid (tx (jnp T).1 = tx (joi T)) := by
                show tx (jnp T).1 = tx (joi T)
                rw [HV.out]
              have HV2 : Hid ((jnp T).2 = 0) := by
                show (jnp T).2 = 0
                rw [HV.out]
              clear HJ2 RR hown
              generalize tx (joi T) = S0 at *
              go_wp2
              go_ret2
              exact ⟨by rw [HV1.out, HV2.out]; rfl, hgr⟩
end Go.Proofs.YtbpoealcaogjpaaGreatDoor

namespace Go.Proofs.YtbpoealcaogjpaaGreatDoor
open Go.RowKit Go.Shelf
set_option maxRecDepth 100000
set_option linter.unusedSimpArgs false
set_option linter.unusedVariables false

/-- what lies from lo on, below m, lies as it lay -/
def KeptO (lo m : Nat) (W W' : World) : Prop := ∀ k, lo ≤ k → k < m → W'.heap[k]? = W.heap[k]?
theorem KeptO.refl (lo m : Nat) (W : World) : KeptO lo m W W := fun _ _ _ => rfl
theorem KeptO.trans {lo m : Nat} {A B C : World} (h : KeptO lo m A B) (k : KeptO lo m B C) : KeptO lo m A C := fun i h1 h2 => (k i h1 h2).trans (h i h1 h2)
theorem KeptO.put {lo m l : Nat} {W : World} (o : Obj) (h : l < lo) : KeptO lo m W (W.putObj l o) := fun k h1 _ => World.putObj_heap_other (by omega)
theorem keepsFrom_up {B C : Nat} {X Y : World} (h : KeepsFrom B X Y) (hBC : B ≤ C) : KeepsFrom C X Y := ⟨h.size, fun k o hk => h.same k o (by omega)⟩
theorem keepsFrom_put {B l : Nat} {W : World} (o : Obj) (h : l < B) : KeepsFrom B W (W.putObj l o) := ⟨by simp, fun k o' hk hs _ => (World.putObj_heap_other (by omega)).trans hs⟩
theorem own_up {β : Type} {B C : Nat} {I : β → World → Prop} (h : OwnFrom B I) (hBC : B ≤ C) : OwnFrom C I := fun s W W' row hs hg hr => h s W W' row hs hg (fun r e => ⟨Nat.le_trans hBC (hr r e).1, (hr r e).2⟩)
theorem round_depth {m : Nat} (m' : Nat) {P : Program} {l : Nat} {f : FuncId} {tmps : Array Value} {assign body : Code} {w : World} {R : Ending → World → Prop} (h : RoundIn Fence.wide m P l f tmps assign body w R) : RoundIn Fence.wide m' P l f tmps assign body w R :=
  ⟨h.1, fun c cs _ => h.2 c cs (fun d hd => by cases hd)⟩
/-- an iterator over texts whose rounds keep what it has laid itself -/
def SeqO (d : Nat) (P : Program) (g : Nat) (lb : Array Value) (S Sp : List ByteArray → Prop) (N : Nat) (w : World) : Prop :=
  ∀ (l : Nat) (J : Nat → List ByteArray → World → Prop) (Jx : List ByteArray → World → Prop) (W : World), Below w.heap.size w W → (∀ m, OwnFrom W.heap.size (J m)) → OwnFrom W.heap.size Jx →
    (∀ d' m pre x W1, W.heap.size ≤ m → m ≤ W1.heap.size → J m pre W1 → pre.length < N → YieldAt Fence.wide d' P l #[.string x] W1 fun e W' =>
      KeepsFrom W.heap.size W1 W' ∧ ((e = .returned (.bool true) ∧ J m (pre ++ [x]) W' ∧ KeptO W.heap.size m W1 W') ∨ (e = .returned (.bool false) ∧ Jx (pre ++ [x]) W'))) →
    (∀ m, W.heap.size ≤ m → J m [] W) →
    CallsIn Fence.wide d P g (#[.func (.yield l) #[] #[]] ++ lb) W fun e W' => (∃ v, e = .returned v) ∧ ((∃ m xs, S xs ∧ J m xs W') ∨ (∃ pre, Sp pre ∧ Jx pre W'))
set_option maxHeartbeats 1000000 in
/-- the loop over such an iterator -/
theorem rangeO {P : Program} {n : Nat} {g : Operand} {ps : Array Tmp} {assign body : Code} {Q : Exit → Act → World → Prop} {a : Act} {w : World}
    {gf : Nat} {lb : Array Value} (hg : a.eval g = .func (.func gf) #[] lb) (eg : ∀ args w, (callFunc gf args).run P w = .ok (.enter gf args) w)
    {S Sp : List ByteArray → Prop} {N : Nat} {w0 : World} (hseq : SeqO (n - 1) P gf lb S Sp N w0) (hb0 : Below w0.heap.size w0 w) (hps : ps.size = 1)
    (I : Nat → List ByteArray → World → Prop) (Ix : Code → List ByteArray → World → Prop) (hI : ∀ m, OwnFrom w.heap.size (I m)) (hIx : ∀ c, OwnFrom w.heap.size (Ix c))
    (h0 : ∀ m, w.heap.size + 2 ≤ m → I m [] w) (a₁ : ByteArray → Act)
    (hassign : ∀ (l d : Nat) (x : ByteArray) (W : World) (K : Act → World → Prop), K (a₁ x) W →
      assign.wpIn (Fence.wide.inRound l) d P (Exit.then K (fun _ _ _ => False)) { tmps := (ps.zip #[.string x]).foldl (fun t (p, v) => t.setIfInBounds p v) a.tmps, defers := [] } W)
    (hbody : ∀ (l d m : Nat) (pre : List ByteArray) (x : ByteArray) (W : World), w.heap.size + 2 ≤ m → m ≤ W.heap.size → I m pre W → pre.length < N →
      body.wpIn (Fence.wide.inRound l) d P (ownPostG w.heap.size (KeptO (w.heap.size + 2) m) (I m) Ix (pre ++ [x]) W) (a₁ x) W)
    (hdone : ∀ (D m : Nat) (xs : List ByteArray) (W : World), w.heap.size ≤ D → S xs → I m xs W → W.heap[D]? = some (.deferred (some [])) → Q .normal { a with defers := { target := .collected D, args := #[] } :: a.defers } W)
    (hstop : ∀ (D : Nat) (c : Code) (pre : List ByteArray) (W : World), w.heap.size ≤ D → Sp pre → Ix c pre W → W.heap[D]? = some (.deferred (some [])) → c.wpIn Fence.wide n P Q { a with defers := { target := .collected D, args := #[] } :: a.defers } W) :
    (Code.rangeFunc g ps assign body).wpIn Fence.wide n P Q a w := by
  refine wpIn_rangeFunc fun fn hfn => ?_
  -- the loop's record, as it is from the first round on
  obtain ⟨rc, hrc⟩ : ∃ rc : LoopState → Option Code → Loop, rc = fun st pe => { state := st, pending := pe, fn, tmps := a.tmps, params := ps, assign, body, defers := w.heap.size } := ⟨_, rfl⟩
  have hen := run_enterLoop_outer (P := P) (w := w) fn a.tmps ps assign body
  have hrr : ({ state := .ready, pending := none, fn, tmps := a.tmps, params := ps, assign, body, defers := w.heap.size } : Loop) = rc .ready none := by rw [hrc]
  rw [hrr] at hen
  generalize hW1 : (w.alloc (.deferred (some []))).alloc (.loop (rc .ready none)) = W1 at hen
  have hsz : W1.heap.size = w.heap.size + 2 := by rw [← hW1]; simp
  have hL1 : W1.heap[w.heap.size + 1]? = some (.loop (rc .ready none)) := by
    have := World.alloc_heap_new (w.alloc (.deferred (some []))) (.loop (rc .ready none))
    rw [World.size_alloc, hW1] at this; exact this
  have hK1 : W1.heap[w.heap.size]? = some (.deferred (some [])) := by
    rw [← hW1]; exact (Below.heap_alloc _ _ _ (by simp)).trans (World.alloc_heap_new w _)
  have hb1 : Below w0.heap.size w0 W1 := by
    rw [← hW1]; exact hb0.trans ((((Below.refl _ w).alloc (Nat.le_refl _) _).alloc (by simp) _).mono hb0.size)
  refine ⟨w.heap.size + 1, [{ target := .collected w.heap.size, args := #[] }], W1, { target := .fn (.func gf) lb, args := #[.func (.yield (w.heap.size + 1)) #[] #[]] }, W1, gf,
    #[.func (.yield (w.heap.size + 1)) #[] #[]] ++ lb, W1, hen, ?_, fun _ _ => trivial, ?_, (fun h => by cases h), ?_⟩
  · simp only [resolve, hg]
    simp [go_sem]
  · simp [invoke, go_sem, eg]
  -- the iterator, at what the loop's own variables hold and the record beside it
  have hJ : ∀ m, OwnFrom W1.heap.size (fun (pre : List ByteArray) W => I m pre W ∧ W.heap[w.heap.size + 1]? = some (.loop (rc .ready none)) ∧ W.heap[w.heap.size]? = some (.deferred (some []))) := by
    rintro m s A B row ⟨h1, h2, h3⟩ hgr hr
    have hne : ∀ k, k < w.heap.size + 2 → some k ≠ row := fun k hk e => by have := (hr k e.symm).1; omega
    exact ⟨hI m s A B row h1 hgr (fun r e => ⟨by have := (hr r e).1; omega, (hr r e).2⟩), (hgr.block _ (Array.getElem?_eq_some_iff.1 h2).1 (hne _ (by omega))).trans h2, (hgr.block _ (Array.getElem?_eq_some_iff.1 h3).1 (hne _ (by omega))).trans h3⟩
  have hJx : OwnFrom W1.heap.size (fun (pre : List ByteArray) W => ∃ c, Ix c pre W ∧ W.heap[w.heap.size + 1]? = some (.loop (rc .done (some c))) ∧ W.heap[w.heap.size]? = some (.deferred (some []))) := by
    rintro s A B row ⟨c, h1, h2, h3⟩ hgr hr
    have hne : ∀ k, k < w.heap.size + 2 → some k ≠ row := fun k hk e => by have := (hr k e.symm).1; omega
    exact ⟨c, hIx c s A B row h1 hgr (fun r e => ⟨by have := (hr r e).1; omega, (hr r e).2⟩), (hgr.block _ (Array.getElem?_eq_some_iff.1 h2).1 (hne _ (by omega))).trans h2, (hgr.block _ (Array.getElem?_eq_some_iff.1 h3).1 (hne _ (by omega))).trans h3⟩
  refine (hseq (w.heap.size + 1) _ _ W1 hb1 hJ hJx ?_ ?_).mono ?_
  · -- one round
    rintro d' m pre x W hm1 hm2 ⟨hi, hl, hk⟩ hlen
    have hlt : w.heap.size + 1 < W.heap.size := (Array.getElem?_eq_some_iff.1 hl).1
    have hy := run_yield (P := P) (args := #[.string x]) hl (by rw [hrc]; exact hps.symm)
    rw [hrc] at hy
    refine ⟨fn, _, assign, body, hy, roundIn_of_wpIn hfn (hassign _ d' x W _ ⟨_, run_beginRound hl (by rw [hrc]), ?_⟩)⟩
    generalize hB2 : W.putObj (w.heap.size + 1) (.loop { rc .ready none with state := .busy }) = B2
    have hl2 : B2.heap[w.heap.size + 1]? = some (.loop { rc .ready none with state := .busy }) := by rw [← hB2]; exact World.putObj_heap_same hlt
    have hk2 : B2.heap[w.heap.size]? = some (.deferred (some [])) := by rw [← hB2]; exact (World.putObj_heap_other (by omega)).trans hk
    have hi2 : I m pre B2 := by rw [← hB2]; exact (hI m).putObj _ hi (by omega) hl rfl
    have hs2 : B2.heap.size = W.heap.size := by rw [← hB2]; simp
    have hkp2 : KeptO W1.heap.size m W B2 := by rw [← hB2]; exact KeptO.put _ (by omega)
    have hkf2 : KeepsFrom W1.heap.size W B2 := by rw [← hB2]; exact keepsFrom_put _ (by omega)
    refine wpIn_mono (hbody _ _ m pre x B2 (by omega) (by omega) hi2 hlen) ?_
    have fin : ∀ (jump : Option Code) (W3 : World), KeepsFrom w.heap.size B2 W3 →
        ∃ W4, (Instr.endRound (w.heap.size + 1) jump).run P W3 = .ok (.bool jump.isNone) W4 ∧ W4 = W3.putObj (w.heap.size + 1) (.loop (rc (if jump.isNone then .ready else .done) jump)) ∧
        W3.heap[w.heap.size + 1]? = some (.loop { rc .ready none with state := .busy }) ∧ W4.heap[w.heap.size + 1]? = some (.loop (rc (if jump.isNone then .ready else .done) jump)) ∧
        W4.heap[w.heap.size]? = some (.deferred (some [])) ∧ KeepsFrom W1.heap.size W W4 := by
      intro jump W3 hk3
      have hl3 := hk3.same _ _ (by omega) hl2 rfl
      have hr := run_endRound (P := P) jump hl3
      have hre : ({ ({ rc .ready none with state := .busy } : Loop) with state := if jump.isNone then .ready else .done, pending := jump } : Loop) = rc (if jump.isNone then .ready else .done) jump := by rw [hrc]
      rw [hre] at hr
      exact ⟨_, hr, rfl, hl3, World.putObj_heap_same (Array.getElem?_eq_some_iff.1 hl3).1, (World.putObj_heap_other (by omega)).trans (hk3.same _ _ (Nat.le_refl _) hk2 rfl), (hkf2.trans (keepsFrom_up hk3 (by omega))).trans (keepsFrom_put _ (by omega))⟩
    have left : ∀ (c : Code) (W3 : World), KeepsFrom w.heap.size B2 W3 → Ix c (pre ++ [x]) W3 → ∃ v W4, (Instr.endRound (w.heap.size + 1) (some c)).run P W3 = .ok v W4 ∧ (KeepsFrom W1.heap.size W W4 ∧
        ((Ending.returned v = .returned (.bool true) ∧ (I m (pre ++ [x]) W4 ∧ W4.heap[w.heap.size + 1]? = some (.loop (rc .ready none)) ∧ W4.heap[w.heap.size]? = some (.deferred (some []))) ∧ KeptO W1.heap.size m W W4) ∨
         (Ending.returned v = .returned (.bool false) ∧ ∃ c, Ix c (pre ++ [x]) W4 ∧ W4.heap[w.heap.size + 1]? = some (.loop (rc .done (some c))) ∧ W4.heap[w.heap.size]? = some (.deferred (some []))))) := by
      intro c W3 hk3 hi3
      obtain ⟨W4, hr, rfl, hl3, hl4, hk4, hkf⟩ := fin (some c) W3 hk3
      exact ⟨_, _, hr, hkf, .inr ⟨rfl, c, (hIx c).putObj _ hi3 (by omega) hl3 rfl, hl4, hk4⟩⟩
    rintro e a3 W3 hp
    cases e with
    | normal =>
      obtain ⟨hk3, hkp3, hi3⟩ := hp
      obtain ⟨W4, hr, rfl, hl3, hl4, hk4, hkf⟩ := fin none W3 hk3
      refine ⟨_, _, hr, hkf, .inl ⟨rfl, ⟨(hI m).putObj _ hi3 (by omega) hl3 rfl, hl4, hk4⟩, ?_⟩⟩
      rw [← hsz] at hkp3
      exact (hkp2.trans hkp3).trans (KeptO.put _ (by omega))
    | ret => exact left .ret W3 hp.1 hp.2
    | exit id => exact left (.exit id) W3 hp.1 hp.2
    | goto t => exact left (.goto t) W3 hp.1 hp.2
    | panic ch => exact hp.elim
    | outgrown => exact hp.elim
  · intro m hm
    refine ⟨?_, hL1, hK1⟩
    rw [← hW1]
    exact (hI m).alloc _ ((hI m).alloc _ (h0 m (by omega)))
  · -- behind the iterator
    rintro e W2 ⟨⟨v, rfl⟩, (⟨m, xs, hS, hi, hl, hk⟩ | ⟨pre, hSp, c, hi, hl, hk⟩)⟩
    · have he := run_endLoop (P := P) hl (by rw [hrc]; simp)
      exact ⟨none, _, by rw [he, hrc], hdone _ m xs _ (Nat.le_refl _) hS ((hI m).putObj _ hi (by omega) hl rfl) ((World.putObj_heap_other (by omega)).trans hk)⟩
    · have he := run_endLoop (P := P) hl (by rw [hrc]; simp)
      exact ⟨some c, _, by rw [he, hrc], hstop _ c pre _ (Nat.le_refl _) hSp ((hIx c).putObj _ hi (by omega) hl rfl) ((World.putObj_heap_other (by omega)).trans hk)⟩
end Go.Proofs.YtbpoealcaogjpaaGreatDoor

namespace Go.Proofs.YtbpoealcaogjpaaGreatDoor
open Go.RowKit Go.Shelf
set_option maxRecDepth 100000
set_option linter.unusedSimpArgs false
set_option linter.unusedVariables false
attribute [local go_sem] Oper.semAt_some

/-- the pieces of a text -/
def pcs (s : ByteArray) : List ByteArray := txs (cutS s.toList)
/-- a round keeps the text in its box -/
def Kpt (Bn : Nat) (s : ByteArray) (W W' : World) : Prop := W.cell? ⟨Bn, 0, none⟩ = some (.string s) → W'.cell? ⟨Bn, 0, none⟩ = some (.string s)
/-- between two rounds of the iterator -/
def Cv (L : Tx) (i f : Nat) (ps : List Tx) : Prop := i ≤ L.length ∧ f ≤ i ∧ cutS (L.take i) = ps ++ [(L.drop f).take (i - f)]
/-- a byte that is no slash -/
theorem cv_byte {s : ByteArray} {i f : Nat} {ps : List Tx} (h : Cv s.toList i f ps) (hi : i < s.size) (hne : s[i] ≠ 47) : Cv s.toList (i + 1) f ps := by
  obtain ⟨h1, h2, h3⟩ := h
  refine ⟨by rw [tl_len]; omega, by omega, ?_⟩
  rw [take_get hi, cutS_byte hne h3, show i + 1 - f = i - f + 1 by omega]
  congr 2
  have hlen : i - f < (s.toList.drop f).length := by rw [List.length_drop, tl_len]; omega
  rw [List.take_succ_eq_append_getElem hlen, List.getElem_drop]
  congr 2
  rw [← tl_get hi]
  congr 1
  omega
/-- a slash: a piece more -/
theorem cv_slash {s : ByteArray} {i f : Nat} {ps : List Tx} (h : Cv s.toList i f ps) (hi : i < s.size) (he : s[i] = 47) : Cv s.toList (i + 1) (i + 1) (ps ++ [(s.toList.drop f).take (i - f)]) ∧ ∃ r, cutS s.toList = ps ++ [(s.toList.drop f).take (i - f)] ++ r ∧ r ≠ [] := by
  obtain ⟨h1, h2, h3⟩ := h
  refine ⟨⟨by rw [tl_len]; omega, Nat.le_refl _, ?_⟩, cutS (s.toList.drop (i + 1)), ?_, cutS_ne _⟩
  · rw [take_get hi, he, cutS_slash h3, Nat.sub_self, List.take_zero]
  · have e2 : s.toList = s.toList.take i ++ 47 :: s.toList.drop (i + 1) := by
      conv => lhs; rw [← List.take_append_drop i s.toList, drop_get hi, he]
    have e3 := congrArg cutS e2
    rw [cutS_cat, h3] at e3
    exact e3
/-- the last piece -/
theorem cv_end {s : ByteArray} {f : Nat} {ps : List Tx} (h : Cv s.toList s.size f ps) : cutS s.toList = ps ++ [(s.toList.drop f).take (s.size - f)] := by
  obtain ⟨h1, h2, h3⟩ := h
  rw [List.take_of_length_le (by rw [tl_len]; omega)] at h3
  exact h3
set_option maxRecDepth 100000 in
set_option maxHeartbeats 2000000 in
theorem pieces1_in (F : Fence) (n : Nat) (hf : F.fn 129) (hro : F.round = none) (hn : 1 ≤ n) (l Bn : Nat) (s : ByteArray) (hs : s.size ≤ 1000000) (J Jx : List ByteArray → World → Prop)
    (hY : ∀ pre x W, J pre W → pre.length < (pcs s).length → YieldAt F (n - 1) Tryz.prog l #[.string x] W fun e W' =>
      (e = .returned (.bool true) ∧ J (pre ++ [x]) W' ∧ Kpt Bn s W W') ∨ (e = .returned (.bool false) ∧ Jx (pre ++ [x]) W'))
    (W : World) (hBn : W.cell? ⟨Bn, 0, none⟩ = some (.string s)) (h0 : J [] W) :
    CallsIn F n Tryz.prog 129 #[.func (.yield l) #[] #[], .pointer (some ⟨Bn, 0, none⟩)] W fun e W' => (∃ v, e = .returned v) ∧
      ((∃ ys, ys = pcs s ∧ J ys W') ∨ (∃ pre, pre <+: pcs s ∧ Jx pre W')) := by
  refine callsIn_of_wp Tryz.func129 rfl hf ?_ hro
  simp only [Tryz.ntmps129, List.size_toArray, List.length_cons, List.length_nil, Nat.reduceAdd, Nat.reduceSub, Array.replicate_succ, Array.replicate_zero, List.push_toArray, List.append_toArray, List.nil_append, List.cons_append]
  gi_wp2
  gi_loopw [3, 7] (fun vf vi wr => ∃ (i f : Nat) (ps : List Tx), vi = .int .i64 i ∧ vf = .int .i64 f ∧ i ≤ s.size ∧ Hid (Cv s.toList i f ps) ∧ wr.cell? ⟨Bn, 0, none⟩ = some (.string s) ∧ J (txs ps) wr) (fun _ vi _ => s.size - (intOf vi).toNat)
  case atStart => exact ⟨0, 0, [], rfl, rfl, by omega, ⟨Nat.zero_le _, Nat.le_refl _, by simp [cutS]⟩, hBn, h0⟩
  case round =>
    obtain ⟨i, f, ps, rfl, rfl, hi1, HC, hb, hJ⟩ := hrel
    have hfi : f ≤ i := HC.out.2.1
    by_cases hlt : i < s.size
    · have hlti : (i : Int) < s.size := by omega
      have hfii : (f : Int) ≤ (i : Int) := by omega
      by_cases hne : s[i] = 47
      · obtain ⟨hn2, r, hr, _⟩ := cv_slash HC.out hlt hne
        have hbb : ((s[i].toNat : Int) == 47) = true := by rw [hne]; rfl
        have hex := extract_tx s f i
        generalize (s.toList.drop f).take (i - f) = q at *
        have hlen : (txs ps).length < (pcs s).length := by unfold pcs txs; rw [hr]; simp
        have hpre : txs ps ++ [tx q] <+: pcs s := ⟨txs r, by unfold pcs; rw [hr]; unfold txs; simp⟩
        have HN : Hid _ := And.intro hn2 hpre
        obtain ⟨fn, tmps, assign, body, hy, hR⟩ := hY (txs ps) (tx q) wr hJ hlen
        clear hn2 hpre hr HC hlen hne
        gi_wp2
        refine hR.mono ?_
        rintro e W3 (⟨rfl, hJ3, hk3⟩ | ⟨rfl, hJx3⟩)
        · have hb3 : W3.cell? ⟨Bn, 0, none⟩ = some (.string s) := hk3 hb
          gi_wp2
          go_roundw
          case rel => exact ⟨i + 1, i + 1, ps ++ [q], by go_num, by go_num, by omega, HN.out.1, hb3, by unfold txs at hJ3 ⊢; rw [List.map_append]; exact hJ3⟩
          case measure => simp [intOf]; omega
        · gi_wp2
          refine bodyPost_ret (results_none rfl _ _ _) rfl ?_
          exact ⟨⟨_, rfl⟩, .inr ⟨txs ps ++ [tx q], HN.out.2, hJx3⟩⟩
      · have hbb : ((s[i].toNat : Int) == 47) = false := by
          rw [beq_eq_false_iff_ne]
          intro e
          exact hne (by apply UInt8.toNat_inj.1; show s[i].toNat = 47; omega)
        have HN : Hid _ := cv_byte HC.out hlt hne
        clear hne HC
        gi_wp2
        go_roundw
        case rel => exact ⟨i + 1, f, ps, by go_num, rfl, by omega, HN, hb, hJ⟩
        case measure => simp [intOf]; omega
    · obtain rfl : i = s.size := by omega
      have hlti : ¬ (s.size : Int) < s.size := by omega
      have hfii : (f : Int) ≤ (s.size : Int) := by omega
      have hr := cv_end HC.out
      have hex := extract_tx s f s.size
      generalize (s.toList.drop f).take (s.size - f) = q at *
      have hlen : (txs ps).length < (pcs s).length := by unfold pcs txs; rw [hr]; simp
      have hps : txs ps ++ [tx q] = pcs s := by unfold pcs; rw [hr]; unfold txs; simp
      have HN : Hid _ := hps
      obtain ⟨fn, tmps, assign, body, hy, hR⟩ := hY (txs ps) (tx q) wr hJ hlen
      clear hr HC hlen hps
      gi_wp2
      refine hR.mono ?_
      rintro e W3 (⟨rfl, hJ3, hk3⟩ | ⟨rfl, hJx3⟩)
      · gi_wp2
        go_end0
        have hJ2 : J (pcs s) W3 := by rw [← HN.out]; exact hJ3
        exact ⟨⟨_, rfl⟩, .inl (by first | exact hJ2 | exact ⟨_, rfl, hJ2⟩)⟩
      · gi_wp2
        go_end0
        exact ⟨⟨_, rfl⟩, .inr ⟨txs ps ++ [tx q], by rw [HN.out]; exact List.prefix_refl _, hJx3⟩⟩
theorem pieces_in (F : Fence) (n : Nat) (hf : F.fn 105) (hro : F.round = none) (s : ByteArray) (w : World) :
    CallsIn F n Tryz.prog 105 #[.string s] w fun e w' => e = .returned (.func (.func 129) #[] #[.pointer (some ⟨w.heap.size, 0, none⟩)]) ∧ w' = w.alloc (.cells #[.string s] 9) := by
  refine callsIn_of_wp Tryz.func105 rfl hf ?_ hro
  simp only [Tryz.ntmps105, List.size_toArray, List.length_cons, List.length_nil, Nat.reduceAdd, Nat.reduceSub, Array.replicate_succ, Array.replicate_zero, List.push_toArray, List.append_toArray, List.nil_append, List.cons_append]
  gi_wp2
  go_ret
  exact ⟨rfl, rfl⟩
theorem pieces_stops (F : Fence) (n : Nat) (hf : F.fn 129) (hro : F.round = none) (hn : 1 ≤ n) (Bn : Nat) (s : ByteArray) (hs : s.size ≤ 1000000) (w : World) (hBn : Bn < w.heap.size) (hc : w.cell? ⟨Bn, 0, none⟩ = some (.string s)) :
    SeqStopsK F n Tryz.prog 129 #[.pointer (some ⟨Bn, 0, none⟩)] (fun x : ByteArray => #[Value.string x]) (Kpt Bn s) (fun ys => ys = pcs s) (fun pre => pre <+: pcs s) (pcs s).length w := fun l J Jx W hW _ _ hY h0 =>
  pieces1_in F n hf hro hn l Bn s hs J Jx hY W ((hW.cell (p := ⟨Bn, 0, none⟩) hBn).trans hc) h0
end Go.Proofs.YtbpoealcaogjpaaGreatDoor
