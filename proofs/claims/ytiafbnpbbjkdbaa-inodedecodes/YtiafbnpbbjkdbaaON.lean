/- The reader of inodes: a text. -/
import Derived.Test.YtiafbnpbbjkdbaaOM
import Derived.BigRegion
namespace Go.Proofs.Ytiafbnpbbjkdbaa
open Go.RowKit
set_option maxRecDepth 100000
set_option linter.unusedSimpArgs false
set_option linter.unusedVariables false
theorem Ch2.row {W W' : World} {q b len : Nat} {a : Option Addr} {bs : List Int} (h : Ch2 W W' q b) (R : Row W a len bs) (hap : ∀ b' off, a = some ⟨b', off, none⟩ → 0 < len → b' ≠ q ∧ b' ≠ b) : Row W' a len bs := by
  refine ⟨R.len_eq, R.le, R.byt, fun h0 => ?_⟩
  obtain ⟨b', off, e, hc⟩ := R.cells h0
  obtain ⟨h1, h2⟩ := hap b' off e h0
  refine ⟨b', off, e, fun i hi => ?_⟩
  have k := hc i hi
  have k2 := cell_lt k
  unfold World.cell? at k ⊢
  simp only at k ⊢
  rw [h.block b' k2 h1 h2]
  exact k
theorem keep15 {W W' : World} {b k : Nat} {v : Value} (h : W.cell? ⟨b, k, none⟩ = some v) (g : W.grownBy W' none) : W'.cell? ⟨b, k, none⟩ = some v := by rw [(grown_below g).cell (cell_lt h)]; exact h
theorem le2_bd {bs : List Int} (hb : Byt bs) (at_ : Nat) : 0 ≤ le ((bs.drop at_).take 2) ∧ le ((bs.drop at_).take 2) < 65536 := by
  have h := (hb.drop at_).take 2
  refine ⟨le_nonneg h, ?_⟩
  have := le_lt_of h 2 (by simp; omega)
  simpa using this
/-- what is read of a text -/
def TxP15 (q b k : Nat) (T : TypeId) (cs : List Value) (a : Option Addr) (len cap at_ : Nat) (bad : Bool) (bs : List Int) (W' : World) : Prop :=
      (if at_ + 2 ≤ len then
        (if at_ + 2 + (le ((bs.drop at_).take 2)).toNat ≤ len then Bx W' q 60 (rdc a len cap (at_ + 2 + (le ((bs.drop at_).take 2)).toNat) bad) ∧ Bx W' b T (cs.set k (.string (strOfNums ((bs.drop (at_ + 2)).take (le ((bs.drop at_).take 2)).toNat))))
         else Bx W' q 60 (rdc a len cap (at_ + 2) true) ∧ Bx W' b T cs)
       else Bx W' q 60 (rdc a len cap at_ true) ∧ Bx W' b T (cs.set k (.string (strOfNums []))))
set_option maxHeartbeats 2000000 in
theorem rtext15 (q b k : Nat) (T : TypeId) (cs : List Value) (a : Option Addr) (len cap at_ : Nat) (bad : Bool) (bs : List Int) (s0 : ByteArray) (W : World) (hq : Bx W q 60 (rdc a len cap at_ bad)) (hb : Bx W b T cs) (hx : cs[k]? = some (.string s0)) (hne : b ≠ q) (R : Row W a len bs)
    (hap : ∀ b' off, a = some ⟨b', off, none⟩ → 0 < len → b' ≠ q) (hcap : len ≤ cap) (hl : len ≤ 16777216) (hat : at_ ≤ len) :
    Calls Try.prog 32 #[.pointer (some ⟨q, 0, none⟩), .pointer (some ⟨b, k, none⟩)] W fun e W' => e = .returned (.tuple #[]) ∧ Ch2 W W' q b ∧
      TxP15 q b k T cs a len cap at_ bad bs W' := by
  have hB : Bx (W.alloc (.cells #[.int .i64 0] 3)) W.heap.size 3 [.int .i64 0] := Bx.new W _ _
  have hG : W.grownBy (W.alloc (.cells #[.int .i64 0] 3)) none := World.grownBy_alloc _ _ _
  have h1 := rnum15 q W.heap.size 0 3 [.int .i64 0] a len cap at_ 2 bad bs 0 _ (hq.kept hG) hB rfl (by have := hq.lt; omega) (R.grown hG) hat (by omega)
  have hbd := le2_bd R.byt at_
  have HN : Hid (b ≠ q ∧ W.heap.size ≠ b ∧ b ≠ W.heap.size ∧ W.heap.size ≠ q) := ⟨hne, by have := hb.lt; omega, by have := hb.lt; omega, by have := hq.lt; omega⟩
  have HB : Hid _ := hb
  have HG : Hid _ := hG
  have HR : Hid (∀ W', Ch2 W W' q W.heap.size → Row W' a len bs) := fun W' c => c.row R (fun b' off e h0 => ⟨hap b' off e h0, fun e2 => by
    obtain ⟨b2, o2, e3, hc⟩ := R.cells h0
    rw [e] at e3
    injection e3 with e3
    injection e3 with e3
    have := cell_lt (hc 0 h0)
    omega⟩)
  have HX : Hid _ := hx
  clear hB hG hq hb R hne hx hap
  go_enter Try.func32, Try.ntmps32
  go_wp2_with fail
  generalize W.alloc (.cells #[.int .i64 0] 3) = W1 at *
  refine h1.mono ?_
  clear h1
  rintro e W2 ⟨rfl, h2⟩
  obtain ⟨at1, n, bad1, HS⟩ : ∃ (at1 n : Nat) (bad1 : Bool), Hid ((at1 ≤ len ∧ n ≤ 65535) ∧ Bx W2 q 60 (rdc a len cap at1 bad1) ∧ Bx W2 W.heap.size 3 [.int .i64 (n : Int)] ∧ Ch2 W1 W2 q W.heap.size ∧
      (if at_ + 2 ≤ len then n = (le ((bs.drop at_).take 2)).toNat ∧ at1 = at_ + 2 ∧ bad1 = bad else n = 0 ∧ at1 = at_ ∧ bad1 = true)) := by
    by_cases hin : at_ + 2 ≤ len
    · rw [if_pos hin] at h2
      obtain ⟨k1, k2, k3⟩ := h2
      refine ⟨at_ + 2, (le ((bs.drop at_).take 2)).toNat, bad, ⟨hin, by omega⟩, k1, ?_, k3, ?_⟩
      · have e : IntKind.i64.wrap (le ((bs.drop at_).take 2)) = (((le ((bs.drop at_).take 2)).toNat : Nat) : Int) := by rw [IntKind.wrap_i64]; omega
        rw [e] at k2
        exact k2
      · rw [if_pos hin]; exact ⟨rfl, rfl, rfl⟩
    · rw [if_neg hin] at h2
      obtain ⟨k1, k2, k3⟩ := h2
      exact ⟨at_, 0, true, ⟨hat, by omega⟩, k1, k2, k3, by rw [if_neg hin]; exact ⟨rfl, rfl, rfl⟩⟩
  have R2 : Row W2 a len bs := HR.out _ (HS.out.2.2.2.1.low HG.out (Nat.le_refl _))
  have HC : Hid (Ch2 W W2 q b) := HS.out.2.2.2.1.low HG.out (Nat.le_refl _)
  have q0 := HS.out.2.1.c 0
  have q1 := HS.out.2.1.c 1
  have c0 := HS.out.2.2.1.c 0
  simp only [rdc, List.getElem?_cons_zero, List.getElem?_cons_succ] at q0 q1 c0
  have hn6 := HS.out.1.2
  clear h2 hbd HR
  generalize W.heap.size = c at *
  by_cases hin2 : at1 + n ≤ len
  · have hP := part_ok a len cap bs at1 n W2.drew (R2.grown ⟨rfl, rfl, rfl, Nat.le_refl _, fun _ _ _ => rfl⟩) hcap (by omega) hin2
    have d0 : W2.drew.cell? ⟨q, 0, none⟩ = some (.slice a len cap) := q0
    have d1 : W2.drew.cell? ⟨q, 1, none⟩ = some (.int .i64 (at1 : Int)) := q1
    have d2 : W2.drew.cell? ⟨c, 0, none⟩ = some (.int .i64 (n : Int)) := c0
    have R3 : Hid (bs.length = len) := R2.len_eq
    have RB : Hid (Byt bs) := R2.byt
    clear R2
    go_wp2_with fail
    go_region_held3 (fun w' => w'.cell? ⟨q, 0, none⟩ = some (.slice a len cap) ∧ w'.cell? ⟨q, 1, none⟩ = some (.int .i64 (at1 : Int)) ∧ w'.cell? ⟨c, 0, none⟩ = some (.int .i64 (n : Int))) (first | (refine ⟨?_, ?_, ?_⟩ <;> assumption) | go_keep) (first | (go_at_call 45; (with_reducible refine hP.mono ?_); rintro e W3 ⟨rfl, b3, g3, s3⟩; have e0 := keep15 d0 g3; have e1 := keep15 d1 g3; have e2 := keep15 d2 g3; have H3 : Hid _ := And.intro b3 (And.intro g3 s3); clear b3 g3 s3) | fail)
    clear hP
    rename_i hnext hHeld
    clear hHeld
    refine hnext _ _ ?_
    clear hnext
    have hlen : ((bs.drop at1).take n).length = n := by
      have hl2 : (bs.drop at1).length = bs.length - at1 := List.length_drop
      have hl3 := R3.out
      rw [List.length_take, hl2]
      omega
    have cv := conv_row (P := Try.prog) (H3.out.1.row ((RB.out.drop at1).take n) (by rw [hlen]; unfold maxLen; omega)) n 26 9 Try.underlying26 Try.underlying5 Try.underlying9
    rw [hlen] at cv
    have cv2 : (convert 26 9 (.slice (some ⟨W2.heap.size, 0, none⟩) n n)).run Try.prog W3 = .ok (.string (strOfNums ((bs.drop at1).take n))) W3 := cv
    clear cv
    have HW2 : Hid (W2.grownBy W3 none) := ⟨H3.out.2.1.os, H3.out.2.1.tape, H3.out.2.1.output, H3.out.2.1.size, fun k hk _ => H3.out.2.1.block k hk (by simp)⟩
    have hb3 : Bx W3 b T cs := (HS.out.2.2.2.1.bx (HB.out.kept HG.out) HN.out.1 HN.out.2.2.1).kept HW2.out
    have hq3 : Bx W3 q 60 (rdc a len cap at1 bad1) := HS.out.2.1.kept HW2.out
    have p0 := hb3.c k
    rw [HX.out] at p0
    have p1 := hb3.f k
    have p2 := hq3.f 1
    have HY : Hid _ := And.intro hb3 hq3
    have hn1 := HN.out.1
    have hn2 := Ne.symm HN.out.1
    have hn3 := HN.out.2.1
    have hn4 := HN.out.2.2.1
    have hn5 := HN.out.2.2.2
    clear hb3 hq3 d0 d1 d2 hlen
    obtain ⟨st, hst⟩ : ∃ st, st = strOfNums ((bs.drop at1).take n) := ⟨_, rfl⟩
    rw [← hst] at cv2
    have HST : Hid _ := hst
    clear hst
    go_wp2_with fail
    have hwr : IntKind.i64.wrap ((at1 : Int) + (n : Int)) = (at1 : Int) + (n : Int) := by rw [IntKind.wrap_i64]; omega
    go_region
    have G1 := grown_set W3 b k (.string st)
    have B1 : Bx (W3.setCell ⟨b, k, none⟩ (.string st)) q 60 (rdc a len cap at1 bad1) := ⟨by rw [G1.block q HY.out.2.lt (by simp; exact hn2)]; exact HY.out.2.blk⟩
    have B2 := HY.out.1.set k (.string st)
    have G2 := grown_set (W3.setCell ⟨b, k, none⟩ (.string st)) q 1 (.int .i64 ((at1 + n : Nat) : Int))
    have C1 : Bx ((W3.setCell ⟨b, k, none⟩ (.string st)).setCell ⟨q, 1, none⟩ (.int .i64 ((at1 + n : Nat) : Int))) q 60 (rdc a len cap (at1 + n) bad1) := B1.set 1 (.int .i64 ((at1 + n : Nat) : Int))
    have C2 : Bx ((W3.setCell ⟨b, k, none⟩ (.string st)).setCell ⟨q, 1, none⟩ (.int .i64 ((at1 + n : Nat) : Int))) b T (cs.set k (.string st)) := ⟨by rw [G2.block b B2.lt (by simp; exact hn1)]; exact B2.blk⟩
    have D : Ch2 W ((W3.setCell ⟨b, k, none⟩ (.string st)).setCell ⟨q, 1, none⟩ (.int .i64 ((at1 + n : Nat) : Int))) q b := ((HC.out.trans (Ch2.of_grown HW2.out)).trans (Ch2.of_b G1)).trans (Ch2.of_q G2)
    have ec : ((at1 + n : Nat) : Int) = (at1 : Int) + (n : Int) := by omega
    refine bodyPost_end (results_none rfl _ _ _) rfl ⟨rfl, ?_⟩
    rw [← ec]
    have k1 : Bx _ q 60 (rdc a len cap (at1 + n) bad1) := ⟨C1.blk⟩
    refine ⟨⟨D.os, D.tape, D.output, D.size, D.block⟩, ?_⟩
    have HE := HS.out.2.2.2.2
    unfold TxP15
    by_cases hin : at_ + 2 ≤ len
    · rw [if_pos hin] at HE
      obtain ⟨e1, e2, e3⟩ := HE
      rw [if_pos hin, ← e1, ← e2, if_pos hin2, ← e3, ← HST.out]
      exact ⟨⟨C1.blk⟩, ⟨C2.blk⟩⟩
    · rw [if_neg hin] at HE
      obtain ⟨e1, e2, e3⟩ := HE
      have hs0 := HST.out
      rw [e1, List.take_zero] at hs0
      rw [if_neg hin, ← hs0]
      rw [e1, e2, e3] at C1
      rw [e1, e2] at C2
      refine ⟨⟨?_⟩, ⟨?_⟩⟩
      · rw [e1, e2]; exact C1.blk
      · rw [e1, e2]; exact C2.blk
  · have hP := part_no a len cap (at1 : Int) (n : Int) W2.drew R2.le (by have := HS.out.1.1; omega) (by omega) (by simp [inB]; omega)
    have d0 : W2.drew.cell? ⟨q, 0, none⟩ = some (.slice a len cap) := q0
    have d1 : W2.drew.cell? ⟨q, 1, none⟩ = some (.int .i64 (at1 : Int)) := q1
    have d2 : W2.drew.cell? ⟨c, 0, none⟩ = some (.int .i64 (n : Int)) := c0
    have f2 := HS.out.2.1.f 2
    have q2 := HS.out.2.1.c 2
    simp only [rdc, List.getElem?_cons_zero, List.getElem?_cons_succ] at q2
    clear R2
    go_wp2_with fail
    go_region_held3 (fun w' => w'.cell? ⟨q, 0, none⟩ = some (.slice a len cap) ∧ w'.cell? ⟨q, 1, none⟩ = some (.int .i64 (at1 : Int)) ∧ w'.cell? ⟨c, 0, none⟩ = some (.int .i64 (n : Int))) (first | (refine ⟨?_, ?_, ?_⟩ <;> assumption) | go_keep) (first | (go_at_call 45; (with_reducible refine hP.mono ?_); rintro e W3 ⟨rfl, rfl⟩) | fail)
    clear hP
    rename_i hnext hHeld
    clear hHeld
    refine hnext _ _ ?_
    clear hnext
    go_wp2
    have G1 := grown_set W2 q 2 (.bool true)
    have hb3 : Bx W2 b T cs := HS.out.2.2.2.1.bx (HB.out.kept HG.out) HN.out.1 HN.out.2.2.1
    have B2 : Bx (W2.setCell ⟨q, 2, none⟩ (.bool true)) b T cs := ⟨by rw [G1.block b hb3.lt (by simp; exact HN.out.1)]; exact hb3.blk⟩
    have B1 := HS.out.2.1.set 2 (.bool true)
    have D : Ch2 W (W2.setCell ⟨q, 2, none⟩ (.bool true)) q b := HC.out.trans (Ch2.of_q G1)
    refine bodyPost_ret (results_none rfl _ _ _) rfl ⟨rfl, ⟨D.os, D.tape, D.output, D.size, D.block⟩, ?_⟩
    have HE := HS.out.2.2.2.2
    unfold TxP15
    by_cases hin : at_ + 2 ≤ len
    · rw [if_pos hin] at HE
      obtain ⟨e1, e2, e3⟩ := HE
      rw [if_pos hin, ← e1, ← e2, if_neg hin2]
      exact ⟨⟨B1.blk⟩, ⟨B2.blk⟩⟩
    · rw [if_neg hin] at HE
      obtain ⟨e1, e2, e3⟩ := HE
      omega
end Go.Proofs.Ytiafbnpbbjkdbaa
