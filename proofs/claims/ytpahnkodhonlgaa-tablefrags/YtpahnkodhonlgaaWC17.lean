/- The document's FragBytes. -/
import Derived.Test.YtpahnkodhonlgaaWB17
import Derived.Test.YtpahnkodhonlgaaSC
import Derived.Test.YtpahnkodhonlgaaDB
import Derived.Deep.RegionHeld3
import Derived.Maps.AppendAt
namespace Go.Proofs.Ytpahnkodhonlgaa
open Go.RowKit
set_option maxRecDepth 100000
set_option linter.unusedSimpArgs false
set_option linter.unusedVariables false

/-- a row that a call made, not yet appended: its block is there, and is not v's own -/
structure Pd17 (V : World) (a : Option Addr) (m c : Nat) (xs : List Int) (v : Value) : Prop where
  row : Row V a m xs
  nil : a = none → c = 0
  ap : ∀ b off, a = some ⟨b, off, none⟩ → b < V.heap.size ∧ some b ≠ v.ownBlock
theorem Pd17.kept {V V' : World} {a : Option Addr} {m c : Nat} {xs : List Int} {v : Value} (h : Pd17 V a m c xs v) (k : V.grownBy V' none) : Pd17 V' a m c xs v := ⟨h.row.grown k, h.nil, fun b off e => ⟨Nat.lt_of_lt_of_le (h.ap b off e).1 k.size, (h.ap b off e).2⟩⟩
theorem Pd17.app {V V' : World} {a : Option Addr} {m c base n n' : Nat} {xs : List Int} {v v' : Value} {ys : List Value} (h : Pd17 V a m c xs v) (k : V.grownBy V' v.ownBlock) (ho : v'.ownBlock = v.ownBlock ∨ ∃ j, v'.ownBlock = some j ∧ V.heap.size ≤ j) : Pd17 V' a m c xs v' := by
  refine ⟨⟨h.row.len_eq, h.row.le, h.row.byt, fun h0 => ?_⟩, h.nil, fun b off e => ?_⟩
  · obtain ⟨b, off, e, hc⟩ := h.row.cells h0
    refine ⟨b, off, e, fun i hi => ?_⟩
    have h1 := hc i hi
    have h2 := cell_lt h1
    unfold World.cell? at h1 ⊢
    simp only at h1 ⊢
    rw [k.block b h2 (h.ap b off e).2]
    exact h1
  · obtain ⟨h1, h2⟩ := h.ap b off e
    refine ⟨Nat.lt_of_lt_of_le h1 k.size, ?_⟩
    rcases ho with q | ⟨j, q, hj⟩
    · rw [q]; exact h2
    · rw [q]; intro e2; injection e2 with e2; omega
/-- what a call made waits, whatever row grows that was there -/
theorem Pd17.new {W V : World} {m base n : Nat} {v u : Value} {xs : List Int} {ys : List Value} (o : V.ownsRow W.heap.size 5 1 u m (bv xs)) (hb : Byt xs) (hm : m ≤ maxLen) (hv : W.ownsRow base 5 1 v n ys) :
    ∃ a c, u = .slice a m c ∧ Pd17 V a m c xs v := by
  obtain ⟨a, c, e, R, h1, _, _⟩ := own_bytes o hb hm
  refine ⟨a, c, e, R, h1, fun b off ea => ?_⟩
  have hk : u.ownBlock = some b := by rw [e, ea]; rfl
  have := o.lt b hk
  exact ⟨this.2, fun q => by have := (hv.lt b q.symm).2; omega⟩
/-- append as a step of a drawn region; and where the row lies then -/
theorem step_append17 {P : Program} {w : World} {ops : Array Oper} {o : Oper} {a : Act} {K : Act → World → Prop} {Q : Exit → Act → World → Prop} {E : Prop} (hgd : o.guard = none) (s x : Operand) (t : TypeId)
    (ho : o.op = .call { callee := .builtin .append, args := #[s, x], argTypes := #[t, t] })
    (base : Nat) (i : TypeInfo) (ht : P.underlying t = some (.slice 5)) (hi : P.info? 5 = some i) (hz : i.zero = some (.int .u8 0)) (hsize : i.size = 1) (hby : i.bytes = 1)
    (v : Value) (n : Nat) (xs : List Int) (hs : a.eval s = v) (hown : w.ownsRow base 5 1 v n (bv xs))
    (sa : Option Addr) (m c : Nat) (bs : List Int) (hx : a.eval x = .slice sa m c) (B : Pd17 w sa m c bs v) (hm0 : 0 < m)
    (hb : n + m ≤ 140737488355328) (hbase : base ≤ w.heap.size)
    (h : ∀ v' w', w'.ownsRow base 5 1 v' (n + m) (bv (xs ++ bs)) → w.grownBy w' v.ownBlock → (v'.ownBlock = v.ownBlock ∨ ∃ j, v'.ownBlock = some j ∧ w.heap.size ≤ j) → K (a.put o.dst v') w') : if Region.wanted o (yielded ops a.tmps) = true then Oper.wp P o a w K Q else E := by
  rw [if_pos (by simp [Region.wanted, hgd])]
  obtain ⟨b, off, rfl, _⟩ := B.row.cells hm0
  obtain ⟨v', w', hrun, r1, r2, _, r4⟩ := run_append_own_at (P := P) w base t o.type 5 i (.int .u8 0) 1 1 ht hi hz hsize hby rfl (by decide) v n (bv xs) hown ⟨b, off, none⟩ m c (bv bs) (by rw [bv_length, B.row.len_eq]; omega) (by
    intro j u hj
    obtain ⟨ad', e, hc⟩ := B.row.src (by rw [bv_length, B.row.len_eq]; exact hm0)
    injection e with e
    subst e
    exact hc j u hj) (bv_one _) (by unfold maxLen; omega) (by omega) hbase
  unfold Oper.wp
  simp [execOp, ho, resolve, invoke, builtin, hs, hx, hrun, Result.andThen]
  exact h v' w' (by rw [bv_append]; exact r1) r2 (r4.imp id fun e => ⟨_, e, Nat.le_refl _⟩)
/-- the bytes alone -/
structure Yc17 (w W : World) (vb : Value) (nb : Nat) (xb : List Int) : Prop where
  b : W.ownsRow w.heap.size 5 1 vb nb (bv xb)
  gr : w.grownBy W none
theorem Yc17.keep {w W W' : World} {vb : Value} {nb : Nat} {xb : List Int} (h : Yc17 w W vb nb xb) (k : W.grownBy W' none) : Yc17 w W' vb nb xb := ⟨h.b.kept k (by cases vb.ownBlock <;> simp), grown_trans h.gr k⟩
theorem Yc17.app {w W W' : World} {vb vb' : Value} {nb nb' : Nat} {xb xb' : List Int} (h : Yc17 w W vb nb xb) (o : W'.ownsRow w.heap.size 5 1 vb' nb' (bv xb')) (k : W.grownBy W' vb.ownBlock) : Yc17 w W' vb' nb' xb' :=
  ⟨o, k.os.trans h.gr.os, k.tape.trans h.gr.tape, k.output.trans h.gr.output, Nat.le_trans h.gr.size k.size, fun j hj _ => by
      rw [k.block j (Nat.lt_of_lt_of_le hj h.gr.size) (fun e => by have := (h.b.lt j e.symm).1; omega)]
      exact h.gr.block j hj (by simp)⟩

set_option maxHeartbeats 8000000 in
theorem rbytesF17_any (a : Option Addr) (len cap : Nat) (l : List Fr) (w : World) (K : Frs w a len l) (hr : rgf17 l = true) :
    Calls Try.prog 28 #[.slice a len cap] w fun e w' => ∃ b c, e = .returned (.slice b (enF17 l).length c) ∧ Row w' b (enF17 l).length (enF17 l) ∧ w.grownBy w' none := by
  obtain ⟨h64, hz⟩ := rgf_at hr
  have hl := K.len_eq
  have HK : Hid _ := K
  have HZ : Hid _ := hz
  obtain ⟨i5, hi, hz0, hz1, hz2⟩ := info_parts Try.info5
  clear K hz hr
  go_enter Try.func28, Try.ntmps28
  go_wp2
  go_loopw [3, 4] (fun v i wr => ∃ j : Nat, i = .int .i64 j ∧ j ≤ len ∧ Hid (Yc17 w wr v (12 * j) (enF17 (l.take j)))) (fun _ i _ => len - (intOf i).toNat)
  case atStart => exact ⟨0, rfl, Nat.zero_le _, World.ownsRow_nil _ _ _ _, World.grownBy.refl _ _⟩
  case round =>
    obtain ⟨j, rfl, hj, HS⟩ := hrel
    by_cases hlt : j < len
    · have hji : (j : Int) < (len : Int) := by omega
      obtain ⟨b, off, rfl, hk⟩ := HK.out.at_ (by omega)
      obtain ⟨F, hF⟩ : ∃ F, l[j]? = some F := ⟨_, List.getElem?_eq_getElem (by omega)⟩
      have HFA : Hid (FrAt w b (off + j * 3) F) := hk j F hF
      obtain ⟨⟨p0, p1⟩, ⟨p2, p3⟩, p4, p5⟩ := HZ.out F (List.mem_of_getElem? hF)
      have HNX : Hid _ := enF_next hF
      have w0 : IntKind.u64.wrap F.at_ = F.at_ := u64_wrap_in _ (by omega) (by omega)
      have w1 : IntKind.u64.wrap F.wd = F.wd := u64_wrap_in _ (by omega) (by omega)
      have w2 : IntKind.u64.wrap F.pl = F.pl := u64_wrap_in _ (by omega) (by omega)
      have hwj : IntKind.i64.wrap ((j : Int) + 1) = (j : Int) + 1 := by rw [IntKind.wrap_i64]; omega
      have HCE : Hid (∀ W, w.grownBy W none → W.cell? ⟨b, off + j * 3, none⟩ = some (.int .i64 F.at_) ∧ W.cell? ⟨b, off + j * 3 + 1, none⟩ = some (.int .i64 F.wd) ∧ W.cell? ⟨b, off + j * 3 + 2, none⟩ = some (.int .i64 F.pl)) := fun W k => ⟨cell_grown17' HFA.out.c0 k, cell_grown17' HFA.out.c1 k, cell_grown17' HFA.out.c2 k⟩
      generalize enF17 (l.take j) = PB at *
      clear hk hF
      go_wp2_with fail
      have HC : Hid _ := HS.out.keep (show World.grownBy wr wr.drew none from ⟨rfl, rfl, rfl, Nat.le_refl _, fun _ _ _ => rfl⟩)
      refine wp_region_held_drew (S := fun W => W.cell? ⟨b, off + j * 3, none⟩ = some (.int .i64 F.at_) ∧ W.cell? ⟨b, off + j * 3 + 1, none⟩ = some (.int .i64 F.wd) ∧ W.cell? ⟨b, off + j * 3 + 2, none⟩ = some (.int .i64 F.pl)) (by kernel_rfl) (HCE.out _ HC.out.gr) (fun hH => ?_)
      generalize wr.drew = WW at *
      refine wpAnyH_take (i := 0) (oi := ⟨some 11, _, _, _, _, _⟩) (v := u3) rfl (by kernel_rfl) (by kernel_rfl) (by kernel_rfl) (fun _ _ _ h => h) (Or.inl ⟨by rfl, fun w hSw => by go_simp⟩) hH ?_
      try simp only [Act.put, List.setIfInBounds_toArray, List.set_cons_zero, List.set_cons_succ]
      refine wpAnyH_take (i := 1) (oi := ⟨some 12, _, _, _, _, _⟩) (v := .slice (some ⟨b, off, none⟩) len cap) rfl (by kernel_rfl) (by kernel_rfl) (by kernel_rfl) (fun _ _ _ h => h) (Or.inl ⟨by rfl, fun w hSw => by go_simp⟩) hH ?_
      try simp only [Act.put, List.setIfInBounds_toArray, List.set_cons_zero, List.set_cons_succ]
      refine wpAnyH_take (i := 2) (oi := ⟨some 13, _, _, _, _, _⟩) (v := .int .i64 j) rfl (by kernel_rfl) (by kernel_rfl) (by kernel_rfl) (fun _ _ _ h => h) (Or.inl ⟨by rfl, fun w hSw => by go_simp⟩) hH ?_
      try simp only [Act.put, List.setIfInBounds_toArray, List.set_cons_zero, List.set_cons_succ]
      refine wpAnyH_take (i := 3) (oi := ⟨some 14, _, _, _, _, _⟩) (v := .pointer (some ⟨b, off + j * 3, none⟩)) rfl (by kernel_rfl) (by kernel_rfl) (by kernel_rfl) (fun _ _ _ h => h) (Or.inl ⟨by rfl, fun w hSw => by go_simp⟩) hH ?_
      try simp only [Act.put, List.setIfInBounds_toArray, List.set_cons_zero, List.set_cons_succ]
      refine wpAnyH_take (i := 4) (oi := ⟨some 15, _, _, _, _, _⟩) (v := .pointer (some ⟨b, off + j * 3, none⟩)) rfl (by kernel_rfl) (by kernel_rfl) (by kernel_rfl) (fun _ _ _ h => h) (Or.inl ⟨by rfl, fun w hSw => by go_simp⟩) hH ?_
      try simp only [Act.put, List.setIfInBounds_toArray, List.set_cons_zero, List.set_cons_succ]
      refine wpAnyH_take (i := 5) (oi := ⟨some 16, _, _, _, _, _⟩) (v := .int .i64 F.at_) rfl (by kernel_rfl) (by kernel_rfl) (by kernel_rfl) (fun _ _ _ h => h) (Or.inl ⟨by rfl, fun w hSw => by obtain ⟨q0, q1, q2⟩ := hSw; go_simp⟩) hH ?_
      try simp only [Act.put, List.setIfInBounds_toArray, List.set_cons_zero, List.set_cons_succ]
      refine wpAnyH_take (i := 6) (oi := ⟨some 17, _, _, _, _, _⟩) (v := .int .u64 F.at_) rfl (by kernel_rfl) (by kernel_rfl) (by kernel_rfl) (fun _ _ _ h => h) (Or.inl ⟨by rfl, fun w hSw => by go_simp⟩) hH ?_
      try simp only [Act.put, List.setIfInBounds_toArray, List.set_cons_zero, List.set_cons_succ]
      refine wpAnyH_take (i := 9) (oi := ⟨some 20, _, _, _, _, _⟩) (v := .slice (some ⟨b, off, none⟩) len cap) rfl (by kernel_rfl) (by kernel_rfl) (by kernel_rfl) (fun _ _ _ h => h) (Or.inl ⟨by rfl, fun w hSw => by go_simp⟩) hH ?_
      try simp only [Act.put, List.setIfInBounds_toArray, List.set_cons_zero, List.set_cons_succ]
      refine wpAnyH_take (i := 10) (oi := ⟨some 21, _, _, _, _, _⟩) (v := .int .i64 j) rfl (by kernel_rfl) (by kernel_rfl) (by kernel_rfl) (fun _ _ _ h => h) (Or.inl ⟨by rfl, fun w hSw => by go_simp⟩) hH ?_
      try simp only [Act.put, List.setIfInBounds_toArray, List.set_cons_zero, List.set_cons_succ]
      refine wpAnyH_take (i := 11) (oi := ⟨some 22, _, _, _, _, _⟩) (v := .pointer (some ⟨b, off + j * 3, none⟩)) rfl (by kernel_rfl) (by kernel_rfl) (by kernel_rfl) (fun _ _ _ h => h) (Or.inl ⟨by rfl, fun w hSw => by go_simp⟩) hH ?_
      try simp only [Act.put, List.setIfInBounds_toArray, List.set_cons_zero, List.set_cons_succ]
      refine wpAnyH_take (i := 12) (oi := ⟨some 23, _, _, _, _, _⟩) (v := .pointer (some ⟨b, off + j * 3 + 1, none⟩)) rfl (by kernel_rfl) (by kernel_rfl) (by kernel_rfl) (fun _ _ _ h => h) (Or.inl ⟨by rfl, fun w hSw => by go_simp⟩) hH ?_
      try simp only [Act.put, List.setIfInBounds_toArray, List.set_cons_zero, List.set_cons_succ]
      refine wpAnyH_take (i := 13) (oi := ⟨some 24, _, _, _, _, _⟩) (v := .int .i64 F.wd) rfl (by kernel_rfl) (by kernel_rfl) (by kernel_rfl) (fun _ _ _ h => h) (Or.inl ⟨by rfl, fun w hSw => by obtain ⟨q0, q1, q2⟩ := hSw; go_simp⟩) hH ?_
      try simp only [Act.put, List.setIfInBounds_toArray, List.set_cons_zero, List.set_cons_succ]
      refine wpAnyH_take (i := 14) (oi := ⟨some 25, _, _, _, _, _⟩) (v := .int .u64 F.wd) rfl (by kernel_rfl) (by kernel_rfl) (by kernel_rfl) (fun _ _ _ h => h) (Or.inl ⟨by rfl, fun w hSw => by go_simp⟩) hH ?_
      try simp only [Act.put, List.setIfInBounds_toArray, List.set_cons_zero, List.set_cons_succ]
      refine wpAnyH_take (i := 17) (oi := ⟨some 28, _, _, _, _, _⟩) (v := .slice (some ⟨b, off, none⟩) len cap) rfl (by kernel_rfl) (by kernel_rfl) (by kernel_rfl) (fun _ _ _ h => h) (Or.inl ⟨by rfl, fun w hSw => by go_simp⟩) hH ?_
      try simp only [Act.put, List.setIfInBounds_toArray, List.set_cons_zero, List.set_cons_succ]
      refine wpAnyH_take (i := 18) (oi := ⟨some 29, _, _, _, _, _⟩) (v := .int .i64 j) rfl (by kernel_rfl) (by kernel_rfl) (by kernel_rfl) (fun _ _ _ h => h) (Or.inl ⟨by rfl, fun w hSw => by go_simp⟩) hH ?_
      try simp only [Act.put, List.setIfInBounds_toArray, List.set_cons_zero, List.set_cons_succ]
      refine wpAnyH_take (i := 19) (oi := ⟨some 30, _, _, _, _, _⟩) (v := .pointer (some ⟨b, off + j * 3, none⟩)) rfl (by kernel_rfl) (by kernel_rfl) (by kernel_rfl) (fun _ _ _ h => h) (Or.inl ⟨by rfl, fun w hSw => by go_simp⟩) hH ?_
      try simp only [Act.put, List.setIfInBounds_toArray, List.set_cons_zero, List.set_cons_succ]
      refine wpAnyH_take (i := 20) (oi := ⟨some 31, _, _, _, _, _⟩) (v := .pointer (some ⟨b, off + j * 3 + 2, none⟩)) rfl (by kernel_rfl) (by kernel_rfl) (by kernel_rfl) (fun _ _ _ h => h) (Or.inl ⟨by rfl, fun w hSw => by go_simp⟩) hH ?_
      try simp only [Act.put, List.setIfInBounds_toArray, List.set_cons_zero, List.set_cons_succ]
      refine wpAnyH_take (i := 21) (oi := ⟨some 32, _, _, _, _, _⟩) (v := .int .i64 F.pl) rfl (by kernel_rfl) (by kernel_rfl) (by kernel_rfl) (fun _ _ _ h => h) (Or.inl ⟨by rfl, fun w hSw => by obtain ⟨q0, q1, q2⟩ := hSw; go_simp⟩) hH ?_
      try simp only [Act.put, List.setIfInBounds_toArray, List.set_cons_zero, List.set_cons_succ]
      refine wpAnyH_take (i := 22) (oi := ⟨some 33, _, _, _, _, _⟩) (v := .int .u64 F.pl) rfl (by kernel_rfl) (by kernel_rfl) (by kernel_rfl) (fun _ _ _ h => h) (Or.inl ⟨by rfl, fun w hSw => by go_simp⟩) hH ?_
      try simp only [Act.put, List.setIfInBounds_toArray, List.set_cons_zero, List.set_cons_succ]
      refine wpAnyH_ready (rs := [7]) (by kernel_rfl) (by simp) ?_
      refine AllReadyH.cons rfl (fun K1 hK => ?_) AllReadyH.nil
      go_simp
      have hw := store_own F.at_ 4 WW (by decide) (by omega) (by omega)
      go_wp2_with (go_at_call 42; (refine hw.mono ?_); rintro e V7 ⟨u, rfl, ou, gu⟩; obtain ⟨bs, ks, rfl, PS⟩ := Pd17.new ou (sto_byt _ _) (by unfold maxLen; omega) HC.out.b; have HC7 : Hid _ := HC.out.keep gu; clear ou gu)
      clear hw HC
      refine hK.out _ _ (HCE.out _ HC7.out.gr) (fun _ => ?_)
      clear hK K1
      refine wpAnyH_ready (rs := [8]) (by kernel_rfl) (by simp) ?_
      refine AllReadyH.cons rfl (fun K1 hK => ?_) AllReadyH.nil
      refine step_append17 (by rfl) _ _ 29 (by rfl) w.heap.size i5 Try.underlying29 hi hz0 hz1 hz2 _ _ _ (by rfl) HC7.out.b bs 4 ks _ (by rfl) PS (by decide) (by omega) HC7.out.gr.size ?_
      intro v8 V8 oo gg vv
      have HC8 : Hid _ := HC7.out.app oo gg
      clear oo gg vv PS HC7
      refine hK.out _ _ (HCE.out _ HC8.out.gr) (fun _ => ?_)
      clear hK K1
      try simp only [Act.put, List.setIfInBounds_toArray, List.set_cons_zero, List.set_cons_succ]
      refine wpAnyH_ready (rs := [15]) (by kernel_rfl) (by simp) ?_
      refine AllReadyH.cons rfl (fun K1 hK => ?_) AllReadyH.nil
      go_simp
      have hw := store_own F.wd 4 V8 (by decide) (by omega) (by omega)
      go_wp2_with (go_at_call 42; (refine hw.mono ?_); rintro e V15 ⟨u, rfl, ou, gu⟩; obtain ⟨bs, ks, rfl, PS⟩ := Pd17.new ou (sto_byt _ _) (by unfold maxLen; omega) HC8.out.b; have HC15 : Hid _ := HC8.out.keep gu; clear ou gu)
      clear hw HC8
      refine hK.out _ _ (HCE.out _ HC15.out.gr) (fun _ => ?_)
      clear hK K1
      refine wpAnyH_ready (rs := [16]) (by kernel_rfl) (by simp) ?_
      refine AllReadyH.cons rfl (fun K1 hK => ?_) AllReadyH.nil
      refine step_append17 (by rfl) _ _ 29 (by rfl) w.heap.size i5 Try.underlying29 hi hz0 hz1 hz2 _ _ _ (by rfl) HC15.out.b bs 4 ks _ (by rfl) PS (by decide) (by omega) HC15.out.gr.size ?_
      intro v16 V16 oo gg vv
      have HC16 : Hid _ := HC15.out.app oo gg
      clear oo gg vv PS HC15
      refine hK.out _ _ (HCE.out _ HC16.out.gr) (fun _ => ?_)
      clear hK K1
      try simp only [Act.put, List.setIfInBounds_toArray, List.set_cons_zero, List.set_cons_succ]
      refine wpAnyH_ready (rs := [23]) (by kernel_rfl) (by simp) ?_
      refine AllReadyH.cons rfl (fun K1 hK => ?_) AllReadyH.nil
      go_simp
      have hw := store_own F.pl 4 V16 (by decide) (by omega) (by omega)
      go_wp2_with (go_at_call 42; (refine hw.mono ?_); rintro e V23 ⟨u, rfl, ou, gu⟩; obtain ⟨bs, ks, rfl, PS⟩ := Pd17.new ou (sto_byt _ _) (by unfold maxLen; omega) HC16.out.b; have HC23 : Hid _ := HC16.out.keep gu; clear ou gu)
      clear hw HC16
      refine hK.out _ _ (HCE.out _ HC23.out.gr) (fun _ => ?_)
      clear hK K1
      refine wpAnyH_ready (rs := [24]) (by kernel_rfl) (by simp) ?_
      refine AllReadyH.cons rfl (fun K1 hK => ?_) AllReadyH.nil
      refine step_append17 (by rfl) _ _ 29 (by rfl) w.heap.size i5 Try.underlying29 hi hz0 hz1 hz2 _ _ _ (by rfl) HC23.out.b bs 4 ks _ (by rfl) PS (by decide) (by omega) HC23.out.gr.size ?_
      intro v24 V24 oo gg vv
      have HC24 : Hid _ := HC23.out.app oo gg
      clear oo gg vv PS HC23
      refine hK.out _ _ (HCE.out _ HC24.out.gr) (fun _ => ?_)
      clear hK K1
      try simp only [Act.put, List.setIfInBounds_toArray, List.set_cons_zero, List.set_cons_succ]
      refine wpAnyH_ready (rs := [25]) (by kernel_rfl) (by simp) ?_
      refine AllReadyH.cons rfl (fun K1 hK => ?_) AllReadyH.nil
      go_simp
      have HC25 := HC24
      refine hK.out _ _ (HCE.out _ HC25.out.gr) (fun _ => ?_)
      clear hK K1 HC24
      refine wpAnyH_done (by kernel_rfl) ?_ _
      have HF9 : Hid _ := HC25.out
      clear w0 w1 w2 HC25
      go_wp2_with fail
      have h9 := HF9.out
      rw [← HNX.out] at h9
      refine ⟨⟨j + 1, by go_num, by clear hwj; omega, ?_⟩, ?_⟩
      · rw [Nat.mul_succ]; exact h9
      · clear hwj
        simp [intOf]; omega
    · obtain rfl : j = len := by omega
      have hji : ¬ (j : Int) < (j : Int) := by omega
      have hT : enF17 (l.take j) = enF17 l := by rw [List.take_of_length_le (by omega)]
      rw [hT] at HS
      have hel := enF_len l
      rw [hl] at hel
      obtain ⟨b9, c9, rfl, R9, _, _, _⟩ := own_bytes HS.out.b (enF_byt l) (by unfold maxLen; omega)
      have HG : Hid _ := HS.out.gr
      clear HS hT
      go_wp2
      go_returns
      try rw [hel]
      first | exact ⟨b9, c9, rfl, R9, HG.out⟩ | exact ⟨b9, ⟨c9, rfl⟩, R9, HG.out⟩
end Go.Proofs.Ytpahnkodhonlgaa
