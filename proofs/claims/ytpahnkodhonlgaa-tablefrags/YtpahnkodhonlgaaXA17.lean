/- A list of fragments is read. -/
import Derived.Test.YtpahnkodhonlgaaWD17
import Derived.Deep.MidRow
import Derived.Laws.MakeOwn
namespace Go.Proofs.Ytpahnkodhonlgaa
open Go.RowKit
set_option maxRecDepth 100000
set_option linter.unusedSimpArgs false
set_option linter.unusedVariables false
theorem wpList_makeF17 (w : World) {ops : Array Oper} {rest : List Oper} {o : Oper} {a : Act} {Q : Exit → Act → World → Prop}
    (hg : o.guard = none) (l c : Operand) (t : TypeId) (hop : o.op = Op.makeSlice t l c)
    (i : TypeInfo) (z : Value) (h1 : Try.prog.underlying t = some (.slice 89)) (h2 : Try.prog.info? 89 = some i) (h3 : i.zero = some z) (h4 : i.size = 3) (h5 : i.bytes = 24)
    (n : Nat) (hl : a.eval l = .int .i64 (n : Int)) (hc : a.eval c = .int .i64 (n : Int)) (b2 : n ≤ 1000000000)
    (hK : ∀ w' cs, Bx w' w.heap.size 89 cs → cs.length = n * 3 → w.grownBy w' none → w'.heap.size = w.heap.size + 1 → wpList Try.prog ops Q rest (a.put o.dst (.slice (some ⟨w.heap.size, 0, none⟩) n n)) w') :
    wpList Try.prog ops Q (o :: rest) a w := by
  refine wpList_plain hg fun K hK' => ?_
  have hr := run_make (P := Try.prog) w t 89 i z h1 h2 h3 .i64 .i64 n n (by omega) (Int.le_refl _) (by rw [h5]; omega) (by omega)
  simp only [Int.toNat_natCast] at hr
  unfold Oper.wp
  simp [execOp, hop, hl, hc, hr, Result.andThen]
  refine hK' _ _ (hK _ (madeCells z.cells (n * i.size)).toList ⟨?_⟩ (by rw [Array.length_toList, size_madeCells, h4]) (World.grownBy_alloc w _ none) (by simp))
  rw [heap_alloc_new]
/-- what was read so far lies in the row -/
def RdF17 (bs : List Int) (cs : List Value) (j : Nat) : Prop := ∀ i, i < j → cs[i * 3]? = some (.int .i64 (frT17 bs (12 * i)).at_) ∧ cs[i * 3 + 1]? = some (.int .i64 (frT17 bs (12 * i)).wd) ∧ cs[i * 3 + 2]? = some (.int .i64 (frT17 bs (12 * i)).pl)
theorem RdF17.next {bs : List Int} {cs : List Value} {j n : Nat} (h : RdF17 bs cs j) (hl : cs.length = n * 3) (hj : j < n) : RdF17 bs (((cs.set (j * 3) (.int .i64 (frT17 bs (12 * j)).at_)).set (j * 3 + 1) (.int .i64 (frT17 bs (12 * j)).wd)).set (j * 3 + 2) (.int .i64 (frT17 bs (12 * j)).pl)) (j + 1) := by
  intro i hi
  by_cases q : i = j
  · subst q
    refine ⟨?_, ?_, ?_⟩
    · rw [List.getElem?_set_ne (by omega), List.getElem?_set_ne (by omega), List.getElem?_set_self (by omega)]
    · rw [List.getElem?_set_ne (by omega), List.getElem?_set_self (by rw [List.length_set]; omega)]
    · rw [List.getElem?_set_self (by rw [List.length_set, List.length_set]; omega)]
  · obtain ⟨a0, a1, a2⟩ := h i (by omega)
    refine ⟨?_, ?_, ?_⟩
    · rw [List.getElem?_set_ne (by omega), List.getElem?_set_ne (by omega), List.getElem?_set_ne (by omega)]; exact a0
    · rw [List.getElem?_set_ne (by omega), List.getElem?_set_ne (by omega), List.getElem?_set_ne (by omega)]; exact a1
    · rw [List.getElem?_set_ne (by omega), List.getElem?_set_ne (by omega), List.getElem?_set_ne (by omega)]; exact a2
structure Lf17 (W0 W : World) (q g : Nat) (a : Option Addr) (len cap : Nat) (bs : List Int) (n j : Nat) : Prop where
  rd : Bx W q 78 (rdc17 a len cap (12 * j) false)
  ro : ∃ cs, Bx W g 89 cs ∧ cs.length = n * 3 ∧ RdF17 bs cs j
  gr : W0.grownBy W (some q)
theorem Try.infoFr17 : (Try.prog.info? 89).map (fun i => (i.zero, i.size, i.bytes)) = some (some (.agg #[.int .i64 0, .int .i64 0, .int .i64 0]), 3, 24) := by kernel_rfl
/-- the fragments that lie there -/
def frs17 (bs : List Int) (n : Nat) : List Fr := (List.range n).map fun i => frT17 bs (12 * i)
set_option maxHeartbeats 4000000 in
theorem plistF17_any (q : Nat) (a : Option Addr) (len cap n : Nat) (bs : List Int) (w : World) (hq : Bx w q 78 (rdc17 a len cap 0 false)) (R : Row w a len bs) (hab : ∀ b off, a = some ⟨b, off, none⟩ → 0 < len → b ≠ q) (hn : 12 * n ≤ len) (hl : len ≤ 100000000) :
    Calls Try.prog 50 #[.int .i64 n, .func (.func 51) #[] #[.pointer (some ⟨q, 0, none⟩)]] w fun e w' => ∃ g, e = .returned (.slice (some ⟨g, 0, none⟩) n n) ∧ Frs w' (some ⟨g, 0, none⟩) n (frs17 bs n) ∧ w.heap.size ≤ g ∧ w.grownBy w' (some q) := by
  obtain ⟨i5, hi, hz0, hz1, hz2⟩ := info_parts Try.infoFr17
  have HQ : Hid _ := hq
  have hql := hq.lt
  have HRR : Hid (∀ W, w.grownBy W (some q) → Row W a len bs) := fun W k => by
    refine ⟨R.len_eq, R.le, R.byt, fun h0 => ?_⟩
    obtain ⟨b, off, e, hc⟩ := R.cells h0
    exact ⟨b, off, e, fun i hi => World.grownBy.cell k (hc i hi) (by simp; exact hab b off e h0)⟩
  have HAB : Hid _ := hab
  clear hq R hab
  go_enter Try.func50, Try.ntmps50
  go_wp2_with (at_make; refine wpList_makeF17 _ rfl _ _ 54 rfl i5 _ Try.underlying54 hi hz0 hz1 hz2 n rfl rfl (by omega) ?_; intro w1 cs1 b1 l1 g1 s1)
  have HL0 : Hid (Lf17 w w1 q w.heap.size a len cap bs n 0) := ⟨HQ.out.kept g1, ⟨cs1, b1, l1, fun i hi => absurd hi (Nat.not_lt_zero _)⟩, ⟨g1.os, g1.tape, g1.output, g1.size, fun k hk _ => g1.block k hk (by simp)⟩⟩
  clear b1 g1 s1 HQ l1
  have HNE : Hid (w.heap.size ≠ q ∧ q < w.heap.size) := ⟨by omega, hql⟩
  clear hql
  generalize hgg : w.heap.size = g at *
  have HGG : Hid _ := hgg
  clear hgg
  go_loopw [6, 11] (fun _ i wr => ∃ j : Nat, i = .int .i64 j ∧ j ≤ n ∧ Hid (Lf17 w wr q g a len cap bs n j)) (fun _ i _ => n - (intOf i).toNat)
  case atStart => exact ⟨0, rfl, Nat.zero_le _, HL0⟩
  case round =>
    clear HL0
    obtain ⟨j, rfl, hj, HL⟩ := hrel
    by_cases hlt : j < n
    · have hji : (j : Int) < (n : Int) := by omega
      have hD := pdecF17_any q a len cap (12 * j) bs wr HL.out.rd (HRR.out wr HL.out.gr) HAB.out (by omega)
      have hwj : IntKind.i64.wrap ((j : Int) + 1) = (j : Int) + 1 := by rw [IntKind.wrap_i64]; omega
      go_wp2_with fail
      refine hD.mono ?_
      rintro e W1 ⟨rfl, r1, k1⟩
      obtain ⟨cs, hb, hcl, hrd⟩ := HL.out.ro
      have hb1 : Bx W1 g 89 cs := ⟨by rw [k1.block g hb.lt (by simp; exact HNE.out.1)]; exact hb.blk⟩
      have HRD : Hid _ := r1
      have HG : Hid (w.grownBy W1 (some q)) := ⟨k1.os.trans HL.out.gr.os, k1.tape.trans HL.out.gr.tape, k1.output.trans HL.out.gr.output, Nat.le_trans HL.out.gr.size k1.size, fun k hk hne => (k1.block k (Nat.lt_of_lt_of_le hk HL.out.gr.size) hne).trans (HL.out.gr.block k hk hne)⟩
      have HNXT : Hid _ := hrd.next hcl hlt
      have hth : W1.there g (j * 3) 3 := fun i hi => ⟨by rw [hb1.c]; rw [List.getElem?_eq_getElem (by omega)]; rfl, hb1.f _⟩
      have HBB : Hid _ := And.intro hb1 hcl
      clear hD r1 k1 HL hb hrd
      have hone : (frT17 bs (12 * j)).cells.toArray.all (·.oneCell') = true := by rw [List.all_toArray]; rfl
      have hth' : W1.there g (j * 3) (frT17 bs (12 * j)).cells.toArray.size := hth
      have hinf : (Try.prog.info? 89).map (·.size) = some (frT17 bs (12 * j)).cells.toArray.size := infoF17
      have HX : Hid _ := And.intro hone (And.intro hth' hinf)
      clear hone hth' hinf hth
      go_wp2_with ((with_reducible refine storeF_here ?_); refine wpList_store_mid rfl 89 _ _ rfl g (j * 3) (frT17 bs (12 * j)).cells.toArray rfl rfl HX.out.2.1 HX.out.2.2 HX.out.1 ?_)
      have hE : (frT17 bs (12 * j)).cells = [.int .i64 (frT17 bs (12 * j)).at_, .int .i64 (frT17 bs (12 * j)).wd, .int .i64 (frT17 bs (12 * j)).pl] := rfl
      rw [hE]
      unfold World.setCells World.setCells World.setCells World.setCells
      have B2 := ((HBB.out.1.set (j * 3) (.int .i64 (frT17 bs (12 * j)).at_)).set (j * 3 + 1) (.int .i64 (frT17 bs (12 * j)).wd)).set (j * 3 + 2) (.int .i64 (frT17 bs (12 * j)).pl)
      have G2 := grown_some17 (grown_some17 (grown_set W1 g (j * 3) (.int .i64 (frT17 bs (12 * j)).at_)) (grown_set _ g (j * 3 + 1) (.int .i64 (frT17 bs (12 * j)).wd))) (grown_set _ g (j * 3 + 2) (.int .i64 (frT17 bs (12 * j)).pl))
      have B3 : Bx _ q 78 (rdc17 a len cap (12 * (j + 1)) false) := ⟨by rw [G2.block q HRD.out.lt (by simp; exact fun e => HNE.out.1 e.symm)]; exact HRD.out.blk⟩
      have G3 : w.grownBy _ (some q) := ⟨G2.os.trans HG.out.os, G2.tape.trans HG.out.tape, G2.output.trans HG.out.output, Nat.le_trans HG.out.size G2.size, fun k hk hne => (G2.block k (Nat.lt_of_lt_of_le hk HG.out.size) (by simp; have := HGG.out; omega)).trans (HG.out.block k hk hne)⟩
      refine ⟨⟨j + 1, by go_num, by clear hwj; omega, B3, ⟨_, B2, by simp only [List.length_set]; exact HBB.out.2, HNXT.out⟩, G3⟩, ?_⟩
      clear hwj
      simp [intOf]; omega
    · obtain rfl : j = n := by omega
      have hji : ¬ (j : Int) < (j : Int) := by omega
      obtain ⟨cs, hb, hcl, hrd⟩ := HL.out.ro
      have HO : Hid (Frs wr (some ⟨g, 0, none⟩) j (frs17 bs j) ∧ w.grownBy wr (some q)) := ⟨⟨by unfold frs17; simp, by unfold maxLen; omega, fun _ => ⟨g, 0, rfl, fun i f hf => by
        have hi : i < j := by have := (List.getElem?_eq_some_iff.1 hf).1; unfold frs17 at this; simpa using this
        have e : f = frT17 bs (12 * i) := by
          unfold frs17 at hf
          rw [List.getElem?_map, List.getElem?_range hi] at hf
          injection hf with hf
          exact hf.symm
        subst e
        obtain ⟨a0, a1, a2⟩ := hrd i hi
        exact ⟨by rw [hb.c, Nat.zero_add]; exact a0, by rw [hb.c, Nat.zero_add]; exact a1, by rw [hb.c, Nat.zero_add]; exact a2⟩⟩⟩, HL.out.gr⟩
      clear hb hrd HL hcl
      go_wp2
      go_returns
      exact ⟨g, rfl, HO.out.1, by rw [HGG.out]; exact Nat.le_refl _, HO.out.2⟩
end Go.Proofs.Ytpahnkodhonlgaa
