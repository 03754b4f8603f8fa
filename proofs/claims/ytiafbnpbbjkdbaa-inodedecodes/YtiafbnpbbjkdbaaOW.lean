/- The reader of inodes: a list of numbers. -/
import Derived.Test.YtiafbnpbbjkdbaaON
namespace Go.Proofs.Ytiafbnpbbjkdbaa
open Go.RowKit
set_option maxRecDepth 100000
set_option linter.unusedSimpArgs false
set_option linter.unusedVariables false
theorem wpList_makeI15 {P : Program} (w : World) {ops : Array Oper} {rest : List Oper} {o : Oper} {a : Act} {Q : Exit → Act → World → Prop}
    (hg : o.guard = none) (l c : Operand) (t : TypeId) (hop : o.op = Op.makeSlice t l c)
    (i : TypeInfo) (h1 : P.underlying t = some (.slice 3)) (h2 : P.info? 3 = some i) (h3 : i.zero = some (.int .i64 0)) (_h4 : i.size = 1) (h5 : i.bytes = 8)
    (kl kc : IntKind) (L C : Int) (n : Nat) (hl : a.eval l = .int kl L) (hc : a.eval c = .int kc C) (hL : L = (n : Int)) (hC : C = (n : Int)) (b2 : n ≤ 1099511627776)
    (hK : ∀ w', Bx w' w.heap.size 3 (List.replicate n (.int .i64 0)) → w.grownBy w' none → w'.heap.size = w.heap.size + 1 → wpList P ops Q rest (a.put o.dst (.slice (some ⟨w.heap.size, 0, none⟩) n n)) w') :
    wpList P ops Q (o :: rest) a w := by
  refine wpList_plain hg fun K hK' => ?_
  have hr := run_make (P := P) w t 3 i _ h1 h2 h3 kl kc n n (by omega) (Int.le_refl _) (by rw [h5]; omega) (by omega)
  simp only [Int.toNat_natCast] at hr
  subst hL
  subst hC
  unfold Oper.wp
  simp [execOp, hop, hl, hc, hr, Result.andThen]
  refine hK' _ _ (hK _ ⟨?_⟩ (World.grownBy_alloc w _ none) (by simp))
  rw [heap_alloc_new]
  have e := toList_madeCells_one (.int .i64 0) n
  have : (madeCells (Value.int IntKind.i64 0).cells (n * i.size)) = (List.replicate n (Value.int .i64 0)).toArray := by
    rw [_h4, Nat.mul_one, ← e]; simp [Value.cells]
  simp [this]
theorem Try.info3W : (Try.prog.info? 3).map (fun i => (i.zero, i.size, i.bytes)) = some (some (.int .i64 0), 1, 8) := by kernel_rfl
/-- the numbers of 4 bytes from a place on -/
def rdw (bs : List Int) (at_ n : Nat) : List Int := (List.range n).map fun i => le ((bs.drop (at_ + 4 * i)).take 4)
theorem rdw_len (bs : List Int) (at_ n : Nat) : (rdw bs at_ n).length = n := by simp [rdw]
theorem rdw_succ (bs : List Int) (at_ n : Nat) : rdw bs at_ (n + 1) = rdw bs at_ n ++ [le ((bs.drop (at_ + 4 * n)).take 4)] := by simp [rdw, List.range_succ]
/-- j numbers read, the rest nought -/
def rwc (bs : List Int) (at_ n j : Nat) : List Value := (rdw bs at_ j).map (Value.int .i64) ++ List.replicate (n - j) (.int .i64 0)
theorem rwc_zero (bs : List Int) (at_ n : Nat) : rwc bs at_ n 0 = List.replicate n (.int .i64 0) := by simp [rwc, rdw]
theorem rwc_full (bs : List Int) (at_ n : Nat) : rwc bs at_ n n = (rdw bs at_ n).map (Value.int .i64) := by simp [rwc]
theorem rwc_at (bs : List Int) (at_ n j : Nat) (h : j < n) : (rwc bs at_ n j)[j]? = some (.int .i64 0) := by
  unfold rwc
  rw [List.getElem?_append_right (by simp [rdw_len])]
  have h2 : j - ((rdw bs at_ j).map (Value.int IntKind.i64)).length = 0 := by simp [rdw_len]
  rw [h2]
  obtain ⟨m, hm⟩ : ∃ m, n - j = m + 1 := ⟨n - j - 1, by omega⟩
  rw [hm]
  rfl
theorem rwc_set (bs : List Int) (at_ n j : Nat) (h : j < n) : (rwc bs at_ n j).set j (.int .i64 (le ((bs.drop (at_ + 4 * j)).take 4))) = rwc bs at_ n (j + 1) := by
  unfold rwc
  rw [rdw_succ, List.map_append, List.append_assoc]
  obtain ⟨m, hm⟩ : ∃ m, n - j = m + 1 := ⟨n - j - 1, by omega⟩
  have hm2 : n - (j + 1) = m := by omega
  rw [hm, hm2, List.replicate_succ]
  have e : j = ((rdw bs at_ j).map (Value.int .i64)).length := by simp [rdw_len]
  rw [List.set_append_right _ _ (by simp [rdw_len])]
  simp [rdw_len]
theorem Ch2.step {W wr W' : World} {q b d : Nat} (h : Ch2 W wr q b) (k : Ch2 wr W' q d) (hd : W.heap.size ≤ d) : Ch2 W W' q b :=
  ⟨k.os.trans h.os, k.tape.trans h.tape, k.output.trans h.output, Nat.le_trans h.size k.size, fun j hj h1 h2 => (k.block j (Nat.lt_of_lt_of_le hj h.size) h1 (by omega)).trans (h.block j hj h1 h2)⟩
/-- where the loop over the numbers stands -/
structure Lw15 (W wr : World) (q b k d : Nat) (T : TypeId) (cs : List Value) (a : Option Addr) (len cap at1 n : Nat) (bad1 : Bool) (bs : List Int) (j : Nat) : Prop where
  rq : Bx wr q 60 (rdc a len cap (at1 + 4 * j) bad1)
  rb : Bx wr b T (cs.set k (.slice (some ⟨d, 0, none⟩) n n))
  rd : Bx wr d 3 (rwc bs at1 n j)
  ch : Ch2 W wr q b
/-- what is read of a list of numbers -/
def WxP15 (W : World) (q b k : Nat) (T : TypeId) (cs : List Value) (a : Option Addr) (len cap at_ : Nat) (bad : Bool) (bs : List Int) (W' : World) : Prop :=
  if at_ + 4 ≤ len then
    (if (le ((bs.drop at_).take 4)).toNat ≤ 65536 ∧ at_ + 4 + 4 * (le ((bs.drop at_).take 4)).toNat ≤ len then
      Bx W' q 60 (rdc a len cap (at_ + 4 + 4 * (le ((bs.drop at_).take 4)).toNat) bad) ∧ ∃ d, W.heap.size ≤ d ∧ Bx W' b T (cs.set k (.slice (some ⟨d, 0, none⟩) (le ((bs.drop at_).take 4)).toNat (le ((bs.drop at_).take 4)).toNat)) ∧
        Bx W' d 3 ((rdw bs (at_ + 4) (le ((bs.drop at_).take 4)).toNat).map (Value.int .i64))
     else Bx W' q 60 (rdc a len cap (at_ + 4) true) ∧ Bx W' b T cs)
  else Bx W' q 60 (rdc a len cap at_ true) ∧ ∃ d, W.heap.size ≤ d ∧ Bx W' b T (cs.set k (.slice (some ⟨d, 0, none⟩) 0 0)) ∧ Bx W' d 3 []
set_option maxHeartbeats 4000000 in
theorem rwords15 (q b k : Nat) (T : TypeId) (cs : List Value) (a : Option Addr) (len cap at_ : Nat) (bad : Bool) (bs : List Int) (v0 : Value) (W : World) (hq : Bx W q 60 (rdc a len cap at_ bad)) (hb : Bx W b T cs) (hx : cs[k]? = some v0) (hv0 : ∃ a l c, v0 = .slice a l c) (hne : b ≠ q) (R : Row W a len bs)
    (hap : ∀ b' off, a = some ⟨b', off, none⟩ → 0 < len → b' ≠ q ∧ b' ≠ b) (hcap : len ≤ cap) (hl : len ≤ 16777216) (hat : at_ ≤ len) :
    Calls Try.prog 31 #[.pointer (some ⟨q, 0, none⟩), .pointer (some ⟨b, k, none⟩)] W fun e W' => e = .returned (.tuple #[]) ∧ Ch2 W W' q b ∧ WxP15 W q b k T cs a len cap at_ bad bs W' := by
  obtain ⟨i3, hi3, hx0, hx1, hx2⟩ := info_parts Try.info3W
  have hB : Bx (W.alloc (.cells #[.int .i64 0] 3)) W.heap.size 3 [.int .i64 0] := Bx.new W _ _
  have hG : W.grownBy (W.alloc (.cells #[.int .i64 0] 3)) none := World.grownBy_alloc _ _ _
  have h1 := rnum15 q W.heap.size 0 3 [.int .i64 0] a len cap at_ 4 bad bs 0 _ (hq.kept hG) hB rfl (by have := hq.lt; omega) (R.grown hG) hat (by omega)
  have hbd := le4_bd R.byt at_ 4 (by decide)
  have HN : Hid (b ≠ q ∧ W.heap.size ≠ b ∧ b ≠ W.heap.size ∧ W.heap.size ≠ q ∧ q < W.heap.size ∧ b < W.heap.size) := ⟨hne, by have := hb.lt; omega, by have := hb.lt; omega, by have := hq.lt; omega, hq.lt, hb.lt⟩
  have HB : Hid _ := hb
  have HG : Hid _ := hG
  have HR : Hid (∀ W', Ch2 W W' q b → Row W' a len bs) := fun W' c => c.row R hap
  have HRB : Hid (Byt bs) := R.byt
  have HX : Hid _ := hx
  clear hB hG hq hb R hne hx hap
  go_enter Try.func31, Try.ntmps31
  go_wp2_with fail
  generalize W.alloc (.cells #[.int .i64 0] 3) = W1 at *
  refine h1.mono ?_
  clear h1
  rintro e W2 ⟨rfl, h2⟩
  obtain ⟨at1, n, bad1, HS⟩ : ∃ (at1 n : Nat) (bad1 : Bool), Hid ((at1 ≤ len ∧ n < 4294967296) ∧ Bx W2 q 60 (rdc a len cap at1 bad1) ∧ Bx W2 W.heap.size 3 [.int .i64 (n : Int)] ∧ Ch2 W1 W2 q W.heap.size ∧
      (if at_ + 4 ≤ len then n = (le ((bs.drop at_).take 4)).toNat ∧ at1 = at_ + 4 ∧ bad1 = bad else n = 0 ∧ at1 = at_ ∧ bad1 = true)) := by
    by_cases hin : at_ + 4 ≤ len
    · rw [if_pos hin] at h2
      obtain ⟨k1, k2, k3⟩ := h2
      refine ⟨at_ + 4, (le ((bs.drop at_).take 4)).toNat, bad, ⟨hin, by omega⟩, k1, ?_, k3, ?_⟩
      · have e : IntKind.i64.wrap (le ((bs.drop at_).take 4)) = (((le ((bs.drop at_).take 4)).toNat : Nat) : Int) := by rw [IntKind.wrap_i64]; omega
        rw [e] at k2
        exact k2
      · rw [if_pos hin]; exact ⟨rfl, rfl, rfl⟩
    · rw [if_neg hin] at h2
      obtain ⟨k1, k2, k3⟩ := h2
      exact ⟨at_, 0, true, ⟨hat, by omega⟩, k1, k2, k3, by rw [if_neg hin]; exact ⟨rfl, rfl, rfl⟩⟩
  have HC : Hid (Ch2 W W2 q b) := HS.out.2.2.2.1.low HG.out (Nat.le_refl _)
  have q0 := HS.out.2.1.c 0
  have q1 := HS.out.2.1.c 1
  have q2 := HS.out.2.1.c 2
  have f2 := HS.out.2.1.f 2
  have c0 := HS.out.2.2.1.c 0
  simp only [rdc, List.getElem?_cons_zero, List.getElem?_cons_succ] at q0 q1 q2 c0
  have hn6 := HS.out.1.2
  have ha6 := HS.out.1.1
  have hb2 : Bx W2 b T cs := HS.out.2.2.2.1.bx (HB.out.kept HG.out) HN.out.1 HN.out.2.2.1
  have HB2 : Hid _ := hb2
  clear h2 hbd hb2
  have w1 : IntKind.i64.wrap ((len : Int) - (at1 : Int)) = (len : Int) - (at1 : Int) := by rw [IntKind.wrap_i64]; omega
  have w2 : ((len : Int) - (at1 : Int)).tdiv 4 = (((len - at1) / 4 : Nat) : Int) := by
    rw [Int.tdiv_eq_ediv_of_nonneg (by omega)]; omega
  go_wp2_with fail
  go_region
  have HG0 : Hid (W2.grownBy W2.drew none) := ⟨rfl, rfl, rfl, Nat.le_refl _, fun _ _ _ => rfl⟩
  have HHV : Hid _ := hv0
  clear hv0 hcap
  by_cases hbig : n ≤ 65536 ∧ at1 + 4 * n ≤ len
  · have hcmp : decide ((if ((len - at1 : Nat) : Int) / 4 < 65536 then ((len - at1 : Nat) : Int) / 4 else 65536) < (n : Int)) = false := by
      rw [decide_eq_false_iff_not]
      split <;> omega
    rw [hcmp]
    clear hcmp
    generalize ((len - at1 : Nat) : Int) / 4 = zq
    generalize (if zq < 65536 then zq else 65536) = zr
    generalize (len : Int) - (at1 : Int) = zs at *
    have HBIG : Hid _ := hbig
    have hnb : n ≤ 65536 := hbig.1
    have p0 : W2.drew.cell? ⟨b, k, none⟩ = some v0 := by rw [(HB2.out.kept HG0.out).c k]; exact HX.out
    have p1 := (HB2.out.kept HG0.out).f k
    have c1 : W2.drew.cell? ⟨W.heap.size, 0, none⟩ = some (.int .i64 (n : Int)) := c0
    clear w1 w2 q0 q1 q2 f2 c0 hbig
    generalize W2.drew = W3 at *
    go_wp2_with (at_make; refine wpList_makeI15 _ rfl _ _ 22 rfl i3 Try.underlying22 hi3 hx0 hx1 hx2 _ _ _ _ n rfl rfl rfl rfl (by omega) ?_; intro W4 b4 g4 s4; have p2 := keep15 p0 g4; have p3 : W4.frozen? ⟨b, k, none⟩ = false := ((HB2.out.kept HG0.out).kept g4).f k; have H4 : Hid _ := And.intro b4 (And.intro g4 s4); clear b4 g4 s4)
    have HD : Hid (W.heap.size ≤ W3.heap.size ∧ W3.heap.size ≠ q ∧ W3.heap.size ≠ b) := by
      have h1 := HC.out.size
      have h2 := HG0.out.size
      have h3 := HN.out.2.2.2.2
      exact ⟨by omega, by omega, by omega⟩
    have G1 := grown_set W4 b k (.slice (some ⟨W3.heap.size, 0, none⟩) n n)
    have hb4 := (HB2.out.kept HG0.out).kept H4.out.2.1
    have hq4 := (HS.out.2.1.kept HG0.out).kept H4.out.2.1
    have HL0 : Hid (Lw15 W (W4.setCell ⟨b, k, none⟩ (.slice (some ⟨W3.heap.size, 0, none⟩) n n)) q b k W3.heap.size T cs a len cap at1 n bad1 bs 0) := by
      refine ⟨⟨by rw [G1.block q hq4.lt (by simp; exact Ne.symm HN.out.1)]; exact hq4.blk⟩, hb4.set k _, ?_, ((HC.out.trans (Ch2.of_grown HG0.out)).trans (Ch2.of_grown H4.out.2.1)).trans (Ch2.of_b G1)⟩
      rw [rwc_zero]
      exact ⟨by rw [G1.block _ H4.out.1.lt (by simp; exact HD.out.2.2)]; exact H4.out.1.blk⟩
    have hcell : (cs.set k (.slice (some ⟨W3.heap.size, 0, none⟩) n n))[k]? = some (.slice (some ⟨W3.heap.size, 0, none⟩) n n) := by
      have hk : k < cs.length := by
        rcases Nat.lt_or_ge k cs.length with h | h
        · exact h
        · have := HX.out
          rw [List.getElem?_eq_none h] at this
          cases this
      rw [List.getElem?_set_self hk]
    have HCE : Hid _ := hcell
    have hl4 := HBIG.out.2
    clear hb4 hq4 G1 hcell p0 p1 p2 p3 c1 H4
    generalize W3.heap.size = d at *
    go_loopw [5, 33] (fun u i wr => ∃ j : Nat, j ≤ n ∧ i = .int .i64 j ∧ Hid (Lw15 W wr q b k d T cs a len cap at1 n bad1 bs j)) (fun u i _ => n - (intOf i).toNat)
    case atStart => exact ⟨0, Nat.zero_le _, rfl, HL0⟩
    case round =>
      obtain ⟨j, hj, rfl, HJ⟩ := hrel
      clear HL0
      by_cases hlt : j < n
      · have e1 : wr.cell? ⟨b, k, none⟩ = some (.slice (some ⟨d, 0, none⟩) n n) := by rw [HJ.out.rb.c k]; exact HCE.out
        have hN := rnum15 q d j 3 (rwc bs at1 n j) a len cap (at1 + 4 * j) 4 bad1 bs 0 wr HJ.out.rq HJ.out.rd (rwc_at _ _ _ _ hlt) HD.out.2.1 (HR.out wr HJ.out.ch) (by omega) (by omega)
        have hbd := le4_bd HRB.out (at1 + 4 * j) 4 (by decide)
        have hwv : IntKind.i64.wrap (le ((bs.drop (at1 + 4 * j)).take 4)) = le ((bs.drop (at1 + 4 * j)).take 4) := by rw [IntKind.wrap_i64]; omega
        have hin4 : at1 + 4 * j + 4 ≤ len := by omega
        simp only [if_pos hin4, hwv, rwc_set _ _ _ _ hlt] at hN
        clear hbd hwv hin4
        go_wp2_with fail
        refine hN.mono ?_
        rintro e W5 ⟨rfl, k1, k2, k3⟩
        have HJ2 : Hid (Lw15 W W5 q b k d T cs a len cap at1 n bad1 bs (j + 1)) := ⟨by rw [Nat.mul_succ, ← Nat.add_assoc]; exact k1, k3.bx HJ.out.rb HN.out.1 (Ne.symm HD.out.2.2), k2, HJ.out.ch.step k3 HD.out.1⟩
        clear hN k1 k2 k3 HJ e1
        go_wp2
        go_roundw
        case rel => exact ⟨j + 1, by omega, by go_num, HJ2⟩
        case measure => simp [intOf]; omega
      · obtain rfl : j = n := by omega
        go_wp2
        have HE := HS.out.2.2.2.2
        refine bodyPost_end (results_none rfl _ _ _) rfl ⟨rfl, HJ.out.ch, ?_⟩
        have r1 := HJ.out.rq
        have r2 := HJ.out.rb
        have r3 := HJ.out.rd
        rw [rwc_full] at r3
        unfold WxP15
        by_cases hin : at_ + 4 ≤ len
        · rw [if_pos hin] at HE
          obtain ⟨e1, e2, e3⟩ := HE
          rw [if_pos hin, ← e1, ← e2, if_pos HBIG.out, ← e3]
          exact ⟨r1, d, HD.out.1, r2, r3⟩
        · rw [if_neg hin] at HE
          obtain ⟨e1, e2, e3⟩ := HE
          rw [if_neg hin]
          rw [e1, e2, e3] at r1
          rw [e1] at r2 r3
          exact ⟨r1, d, HD.out.1, r2, r3⟩
  · have hcmp : decide ((if ((len - at1 : Nat) : Int) / 4 < 65536 then ((len - at1 : Nat) : Int) / 4 else 65536) < (n : Int)) = true := by
      rw [decide_eq_true_iff]
      split <;> omega
    rw [hcmp]
    clear hcmp
    generalize ((len - at1 : Nat) : Int) / 4 = zq
    generalize (if zq < 65536 then zq else 65536) = zr
    have HBIG : Hid _ := hbig
    clear w1 w2 hbig
    go_wp2
    have G1 := grown_set W2.drew q 2 (.bool true)
    have A1 := HS.out.2.1.kept HG0.out
    have hb3 := HB2.out.kept HG0.out
    have B2 : Bx (W2.drew.setCell ⟨q, 2, none⟩ (.bool true)) b T cs := ⟨by rw [G1.block b hb3.lt (by simp; exact HN.out.1)]; exact hb3.blk⟩
    have B1 := A1.set 2 (.bool true)
    have D : Ch2 W (W2.drew.setCell ⟨q, 2, none⟩ (.bool true)) q b := (HC.out.trans (Ch2.of_grown HG0.out)).trans (Ch2.of_q G1)
    refine bodyPost_ret (results_none rfl _ _ _) rfl ⟨rfl, ⟨D.os, D.tape, D.output, D.size, D.block⟩, ?_⟩
    have HE := HS.out.2.2.2.2
    unfold WxP15
    by_cases hin : at_ + 4 ≤ len
    · rw [if_pos hin] at HE
      obtain ⟨e1, e2, e3⟩ := HE
      rw [if_pos hin, ← e1, ← e2, if_neg HBIG.out]
      exact ⟨⟨B1.blk⟩, ⟨B2.blk⟩⟩
    · rw [if_neg hin] at HE
      obtain ⟨e1, e2, e3⟩ := HE
      exact absurd (by omega) HBIG.out
end Go.Proofs.Ytiafbnpbbjkdbaa
