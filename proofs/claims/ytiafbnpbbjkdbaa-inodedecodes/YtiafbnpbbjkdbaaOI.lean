/- Encode, Size. -/
import Derived.Test.YtiafbnpbbjkdbaaOH
import Derived.Test.YtiafbnpbbjkdbaaOE
namespace Go.Proofs.Ytiafbnpbbjkdbaa
open Go.RowKit
set_option maxRecDepth 100000
set_option linter.unusedSimpArgs false
set_option linter.unusedVariables false
theorem enb15_len {n : Nd} (h : Rt15 n) (hw : n.ws.length = n.wl) : (enb15 n).length ≤ 262192 := by
  unfold enb15
  split
  · rename_i e
    have := (h.k1 e).2.2.2.2.2.1
    unfold kb1
    simp only [List.length_append, sto_length, hdb15_len, wds_len]
    omega
  · split
    · unfold kb2
      simp only [List.length_append, sto_length, hdb15_len]
      omega
    · split
      · rename_i e
        have := (h.k3 e).2.1
        unfold kb3
        simp only [List.length_append, sto_length, hdb15_len, nums_len]
        omega
      · unfold kb4
        simp only [List.length_append, sto_length, hdb15_len]
        omega
theorem hdb15_byt (n : Nd) : Byt (hdb15 n) := by
  unfold hdb15
  exact (((((((Byt.append (fun x hx => by simp at hx) (sto_byt _ _)).append (sto_byt _ _)).append (sto_byt _ _)).append (sto_byt _ _)).append (sto_byt _ _)).append (sto_byt _ _)).append (sto_byt _ _))
theorem wds_byt (l : List Int) : Byt (wds l) := by
  intro x hx
  obtain ⟨y, _, hy⟩ := List.mem_flatMap.1 hx
  exact sto_byt y 4 x hy
theorem enb15_byt (n : Nd) : Byt (enb15 n) := by
  unfold enb15
  split
  · unfold kb1
    exact ((((((hdb15_byt n).append (sto_byt _ _)).append (sto_byt _ _)).append (sto_byt _ _)).append (sto_byt _ _)).append (sto_byt _ _)).append ((sto_byt _ _).append (wds_byt _))
  · split
    · unfold kb2
      exact (((hdb15_byt n).append (sto_byt _ _)).append (sto_byt _ _)).append (sto_byt _ _)
    · split
      · unfold kb3
        exact (hdb15_byt n).append ((sto_byt _ _).append (nums_byt _))
      · unfold kb4
        exact (hdb15_byt n).append (sto_byt _ _)
/-- what Encode answers -/
def EnPost15 (w : World) (n : Nd) (e : Ending) (w' : World) : Prop :=
  if chk15 n = 0 then ∃ b, e = .returned (.tuple #[.slice (some ⟨b, 0, none⟩) (enb15 n).length (enb15 n).length, .int .i64 0]) ∧ Blk w' b (bv (enb15 n)) ∧ w.heap.size ≤ b ∧ w.grownBy w' none
  else e = .returned (.tuple #[.slice none 0 0, .int .i64 (chk15 n)]) ∧ w.grownBy w' none
set_option maxHeartbeats 4000000 in
theorem pencode15_any (n : Nd) (w : World) (hn : n.ok w) : Calls Try.prog 8 #[n.val] w (EnPost15 w n) := by
  have HB : Hid (Bx (w.alloc (.cells #[.int .i64 n.kd, .int .i64 n.md, .int .i64 n.ui, .int .i64 n.gi, .int .i64 n.tm, .int .i64 n.ln, .int .i64 n.at_, .int .i64 n.sz, .int .i64 n.st, .slice n.wa n.wl n.wc, .int .i64 n.fr, .int .i64 n.of_, .int .i64 n.tl, .int .i64 n.dr, .int .i64 n.by_, .int .i64 n.pr, .string n.tg, .int .i64 n.dv] 24)) w.heap.size 24 [.int .i64 n.kd, .int .i64 n.md, .int .i64 n.ui, .int .i64 n.gi, .int .i64 n.tm, .int .i64 n.ln, .int .i64 n.at_, .int .i64 n.sz, .int .i64 n.st, .slice n.wa n.wl n.wc, .int .i64 n.fr, .int .i64 n.of_, .int .i64 n.tl, .int .i64 n.dr, .int .i64 n.by_, .int .i64 n.pr, .string n.tg, .int .i64 n.dv]) := Bx.new w _ _
  have HG : Hid (w.grownBy (w.alloc (.cells #[.int .i64 n.kd, .int .i64 n.md, .int .i64 n.ui, .int .i64 n.gi, .int .i64 n.tm, .int .i64 n.ln, .int .i64 n.at_, .int .i64 n.sz, .int .i64 n.st, .slice n.wa n.wl n.wc, .int .i64 n.fr, .int .i64 n.of_, .int .i64 n.tl, .int .i64 n.dr, .int .i64 n.by_, .int .i64 n.pr, .string n.tg, .int .i64 n.dv] 24)) none) := World.grownBy_alloc _ _ _
  have HN : Hid (n.ok w) := hn
  have HC : Hid (∀ W, w.grownBy W none → Calls Try.prog 11 #[.agg #[.int .i64 n.kd, .int .i64 n.md, .int .i64 n.ui, .int .i64 n.gi, .int .i64 n.tm, .int .i64 n.ln, .int .i64 n.at_, .int .i64 n.sz, .int .i64 n.st, .slice n.wa n.wl n.wc, .int .i64 n.fr, .int .i64 n.of_, .int .i64 n.tl, .int .i64 n.dr, .int .i64 n.by_, .int .i64 n.pr, .string n.tg, .int .i64 n.dv]] W fun e w' => e = .returned (.int .i64 (chk15 n)) ∧ W.grownBy w' none) := fun W g => pcheck15_any n W (hn.kept g)
  by_cases hc : chk15 n = 0
  · have HP : Hid (∀ e w', (∃ b, e = Ending.returned (.tuple #[.slice (some ⟨b, 0, none⟩) (enb15 n).length (enb15 n).length, .int .i64 0]) ∧ Blk w' b (bv (enb15 n)) ∧ w.heap.size ≤ b ∧ w.grownBy w' none) → EnPost15 w n e w') := fun e w' h => by unfold EnPost15; rw [if_pos hc]; exact h
    have HR : Hid (Rt15 n) := chk_rt hc
    have HE : Hid ((enb15 n).length ≤ 262192) := enb15_len (chk_rt hc) hn.row.len_eq
    rw [hc] at HC
    generalize EnPost15 w n = Q at *
    clear hn hc
    go_enter Try.func8, Try.ntmps8
    unfold Nd.val
    go_wp2_with (first | ((with_reducible refine inoHere ?_); refine wpList_loadB rfl 24 _ rfl w.heap.size rfl HB.out Try.underlying24 rfl infoI ?_))
    refine (HC.out _ HG.out).mono ?_
    rintro e W2 ⟨rfl, g2⟩
    have HB2 : Hid (Bx W2 w.heap.size 24 [.int .i64 n.kd, .int .i64 n.md, .int .i64 n.ui, .int .i64 n.gi, .int .i64 n.tm, .int .i64 n.ln, .int .i64 n.at_, .int .i64 n.sz, .int .i64 n.st, .slice n.wa n.wl n.wc, .int .i64 n.fr, .int .i64 n.of_, .int .i64 n.tl, .int .i64 n.dr, .int .i64 n.by_, .int .i64 n.pr, .string n.tg, .int .i64 n.dv]) := HB.out.kept g2
    have HG2 : Hid (w.grownBy W2 none) := grown_trans HG.out g2
    clear g2 HB HC
    go_wp2_with fail
    refine (newwriter_any 262192 W2).mono ?_
    rintro e W3 ⟨rfl, hi, g3⟩
    rw [if_neg (by decide)] at hi
    have HS : Hid (WInv W3 W2.heap.size (.slice none 0 0) [] 262192 0 ∧ Bx W3 w.heap.size 24 [.int .i64 n.kd, .int .i64 n.md, .int .i64 n.ui, .int .i64 n.gi, .int .i64 n.tm, .int .i64 n.ln, .int .i64 n.at_, .int .i64 n.sz, .int .i64 n.st, .slice n.wa n.wl n.wc, .int .i64 n.fr, .int .i64 n.of_, .int .i64 n.tl, .int .i64 n.dr, .int .i64 n.by_, .int .i64 n.pr, .string n.tg, .int .i64 n.dv] ∧ w.grownBy W3 none ∧ w.heap.size < W2.heap.size) := ⟨hi, HB2.out.kept g3, grown_trans HG2.out g3, HB2.out.lt⟩
    clear hi g3
    generalize W2.heap.size = p at *
    go_wp2_with fail
    have HS4 : Hid (Wst w (W3.alloc (.cells #[.pointer (some ⟨p, 0, none⟩)] 48)) p w.heap.size W3.heap.size n (.slice none 0 0) []) := by
      obtain ⟨h1, h2, h3, h4⟩ := HS.out
      have k := World.grownBy_alloc W3 (.cells #[.pointer (some ⟨p, 0, none⟩)] 48) none
      exact ⟨h1.grown k, h2.kept k, grown_trans h3 k, Nat.le_refl _, h4, Bx.new W3 _ _, by have := h1.blk.lt; omega, by have := h2.lt; omega, by intro q; cases q⟩
    refine (wthrough_any n p w.heap.size W3.heap.size _ w _ HN.out HR.out HS4.out).mono ?_
    rintro e W5 ⟨rfl, v5, hs5⟩
    have HS5 : Hid _ := hs5
    have q0 := hs5.bq.c 0
    simp only [List.getElem?_cons_zero] at q0
    clear hs5 HS4 HS HB2 HG2
    go_wp2_with fail
    refine (wdone_ok p v5 (enb15 n) 262192 W5 HS5.out.wi (by have := HE.out; omega)).mono ?_
    rintro e W6 ⟨rfl, hb, g6⟩
    have HZ : Hid _ := And.intro hb (And.intro HS5.out.gr.size (grown_trans HS5.out.gr g6))
    clear hb g6
    go_wp2
    exact HP.out _ _ ⟨_, rfl, HZ.out.1, HZ.out.2.1, HZ.out.2.2⟩
  · have HP : Hid (∀ e w', (e = Ending.returned (.tuple #[.slice none 0 0, .int .i64 (chk15 n)]) ∧ w.grownBy w' none) → EnPost15 w n e w') := fun e w' h => by unfold EnPost15; rw [if_neg hc]; exact h
    have hc2 : (chk15 n != 0) = true := by simpa using hc
    generalize EnPost15 w n = Q at *
    generalize chk15 n = c at *
    clear hn hc
    go_enter Try.func8, Try.ntmps8
    unfold Nd.val
    go_wp2_with (first | ((with_reducible refine inoHere ?_); refine wpList_loadB rfl 24 _ rfl w.heap.size rfl HB.out Try.underlying24 rfl infoI ?_))
    refine (HC.out _ HG.out).mono ?_
    rintro e W2 ⟨rfl, g2⟩
    have HG2 : Hid (w.grownBy W2 none) := grown_trans HG.out g2
    clear g2 HB HC
    go_wp2
    exact HP.out _ _ ⟨rfl, HG2.out⟩
/-- how many bytes they are -/
def sz15 (n : Nd) : Nat := if chk15 n = 0 then (enb15 n).length else 0
set_option maxHeartbeats 4000000 in
theorem psize15_any (n : Nd) (w : World) (hn : n.ok w) : Calls Try.prog 12 #[n.val] w fun e w' => e = .returned (.int .i64 (sz15 n)) ∧ w.grownBy w' none := by
  have HB : Hid (Bx (w.alloc (.cells #[.int .i64 n.kd, .int .i64 n.md, .int .i64 n.ui, .int .i64 n.gi, .int .i64 n.tm, .int .i64 n.ln, .int .i64 n.at_, .int .i64 n.sz, .int .i64 n.st, .slice n.wa n.wl n.wc, .int .i64 n.fr, .int .i64 n.of_, .int .i64 n.tl, .int .i64 n.dr, .int .i64 n.by_, .int .i64 n.pr, .string n.tg, .int .i64 n.dv] 24)) w.heap.size 24 [.int .i64 n.kd, .int .i64 n.md, .int .i64 n.ui, .int .i64 n.gi, .int .i64 n.tm, .int .i64 n.ln, .int .i64 n.at_, .int .i64 n.sz, .int .i64 n.st, .slice n.wa n.wl n.wc, .int .i64 n.fr, .int .i64 n.of_, .int .i64 n.tl, .int .i64 n.dr, .int .i64 n.by_, .int .i64 n.pr, .string n.tg, .int .i64 n.dv]) := Bx.new w _ _
  have HG : Hid (w.grownBy (w.alloc (.cells #[.int .i64 n.kd, .int .i64 n.md, .int .i64 n.ui, .int .i64 n.gi, .int .i64 n.tm, .int .i64 n.ln, .int .i64 n.at_, .int .i64 n.sz, .int .i64 n.st, .slice n.wa n.wl n.wc, .int .i64 n.fr, .int .i64 n.of_, .int .i64 n.tl, .int .i64 n.dr, .int .i64 n.by_, .int .i64 n.pr, .string n.tg, .int .i64 n.dv] 24)) none) := World.grownBy_alloc _ _ _
  have HC : Hid (∀ W, w.grownBy W none → Calls Try.prog 8 #[.agg #[.int .i64 n.kd, .int .i64 n.md, .int .i64 n.ui, .int .i64 n.gi, .int .i64 n.tm, .int .i64 n.ln, .int .i64 n.at_, .int .i64 n.sz, .int .i64 n.st, .slice n.wa n.wl n.wc, .int .i64 n.fr, .int .i64 n.of_, .int .i64 n.tl, .int .i64 n.dr, .int .i64 n.by_, .int .i64 n.pr, .string n.tg, .int .i64 n.dv]] W fun e w' => (∃ a len c v, len = sz15 n ∧ e = .returned (.tuple #[.slice a len c, v])) ∧ W.grownBy w' none) := fun W g => (pencode15_any n W (hn.kept g)).mono fun e w' h => by
    unfold EnPost15 at h
    unfold sz15
    split at h
    · rename_i hc
      obtain ⟨b, e1, _, _, g⟩ := h
      exact ⟨⟨_, _, _, _, (if_pos hc).symm, e1⟩, g⟩
    · rename_i hc
      exact ⟨⟨_, _, _, _, (if_neg hc).symm, h.1⟩, h.2⟩
  generalize sz15 n = L at *
  clear hn
  go_enter Try.func12, Try.ntmps12
  unfold Nd.val
  go_wp2_with (first | ((with_reducible refine inoHere ?_); refine wpList_loadB rfl 24 _ rfl w.heap.size rfl HB.out Try.underlying24 rfl infoI ?_))
  refine (HC.out _ HG.out).mono ?_
  rintro e W2 ⟨⟨a, len, c, v, rfl, rfl⟩, g2⟩
  have HG2 : Hid (w.grownBy W2 none) := grown_trans HG.out g2
  clear g2 HB HC HG
  go_wp2
  go_ret
  exact ⟨rfl, HG2.out⟩
end Go.Proofs.Ytiafbnpbbjkdbaa
