/- Encode of a right list. -/
import Derived.Test.YtngalihnckbkfaaEN
import Derived.Test.YtngalihnckbkfaaEI
import Derived.BigRegionIn
import Derived.Laws.EntriesVeiled
namespace Go.Proofs.Ytngalihnckbkfaa
open Go.RowKit Go.Shelf
set_option maxRecDepth 100000
attribute [local go_sem] Oper.semAt_some
set_option linter.unusedSimpArgs false
set_option linter.unusedVariables false
/-- what the rounds keep of what the iterator reads -/
def Kw (h : Nat) (W W' : World) : Prop := (∀ k, k < h → k < W.heap.size → W'.heap[k]? = W.heap[k]?) ∧ W.heap.size ≤ W'.heap.size
theorem Kw.trans {h : Nat} {A B C : World} (h1 : Kw h A B) (h2 : Kw h B C) : Kw h A C := ⟨fun k hk hs => (h2.1 k hk (Nat.lt_of_lt_of_le hs h1.2)).trans (h1.1 k hk hs), Nat.le_trans h1.2 h2.2⟩
theorem Kw.put {h q : Nat} (W : World) (o : Obj) (h1 : h ≤ q) : Kw h W (W.putObj q o) := ⟨fun k hk _ => World.putObj_heap_other (by omega), by simp⟩
theorem Kw.grown {h : Nat} {A B : World} (g : A.grownBy B none) : Kw h A B := ⟨fun k _ hs => g.block k hs (by simp), g.size⟩
theorem kxs_kept {h len : Nat} {a : Option Addr} {l : List Kx} {W W' : World} (hab : ∀ b off, a = some ⟨b, off, none⟩ → 0 < len → b < h) (k : Kw h W W') (K : Kxs W a len l) : Kxs W' a len l := by
  refine ⟨K.len_eq, K.le, fun h0 => ?_⟩
  obtain ⟨b, off, e, hk⟩ := K.at_ h0
  have hb := hab b off e h0
  have hc : ∀ {p : Addr} {v : Value}, W.cell? p = some v → p.block < h → W'.cell? p = some v := fun {p v} hv hp => by
    have hlt : p.block < W.heap.size := by
      rcases Nat.lt_or_ge p.block W.heap.size with h1 | h1
      · exact h1
      · simp [World.cell?, Array.getElem?_eq_none h1] at hv
    unfold World.cell? at hv ⊢
    rw [k.1 _ hp hlt]
    exact hv
  exact ⟨b, off, e, fun i K hK => ⟨hc (hk i K hK).c0 hb, hc (hk i K hK).c1 hb⟩⟩
/-- the rows' bytes so far -/
def preB (l : List Kx) (pre : List (Nat × Nat)) : List Int := ((pre.map (rowAt l)).map rowB).flatten
/-- between two rows -/
structure Ew (w : World) (q p : Nat) (l : List Kx) (most : Int) (pre : List (Nat × Nat)) (W : World) : Prop where
  b5 : Bx W q 44 [.pointer (some ⟨p, 0, none⟩)]
  b6 : Bx W (q + 1) 48 [.func (.func 19) #[] #[.pointer (some ⟨q, 0, none⟩)]]
  wr : ∃ v, WInv W p v (preB l pre) most 0 ∧ (∀ j, v.ownBlock = some j → w.heap.size ≤ j ∧ j ≠ q ∧ j ≠ q + 1)
  gr : w.grownBy W none
theorem ew_own (w : World) (q p : Nat) (l : List Kx) (most : Int) (B : Nat) (hB : w.heap.size ≤ B) (hq : q + 2 ≤ B) : OwnFrom B (Ew w q p l most) := by
  rintro s W W' row ⟨h5, h6, ⟨v, hw, ho⟩, hgr⟩ hg hr
  have hne : ∀ k, k < B → some k ≠ row := fun k hk e => by have := (hr k e.symm).1; omega
  exact ⟨⟨by rw [hg.block q h5.lt (hne _ (by omega))]; exact h5.blk⟩, ⟨by rw [hg.block (q + 1) h6.lt (hne _ (by omega))]; exact h6.blk⟩, ⟨v, hw.turn16 hg (fun r e => (hr r e).2), ho⟩,
    ⟨hg.os.trans hgr.os, hg.tape.trans hgr.tape, hg.output.trans hgr.output, Nat.le_trans hgr.size hg.size, fun i hi _ => (hg.block i (Nat.lt_of_lt_of_le hi hgr.size) (fun e => by have := (hr i e.symm).1; omega)).trans (hgr.block i hi (by simp))⟩⟩
theorem ew_post {w W0 W W' : World} {q p B : Nat} {l : List Kx} {most : Int} {pre' : List (Nat × Nat)} {bs : List Int} {v v' : Value} (hqB : q + 2 ≤ B) (hB0 : B ≤ W0.heap.size) (hp0 : w.heap.size ≤ p) (hpq : p < q)
    (h5 : Bx W0 q 44 [.pointer (some ⟨p, 0, none⟩)]) (h6 : Bx W0 (q + 1) 48 [.func (.func 19) #[] #[.pointer (some ⟨q, 0, none⟩)]]) (hw : WInv W0 p v bs most 0) (ho : ∀ j, v.ownBlock = some j → w.heap.size ≤ j ∧ j ≠ q ∧ j ≠ q + 1) (hgr : w.grownBy W0 none) (hg : W0.grownBy W none)
    (k : Chg W W' p v v') (hw' : WInv W' p v' (preB l pre') most 0) : KeepsFrom B W W' ∧ Kw w.heap.size W W' ∧ KeptO W0.heap.size W.heap.size W W' ∧ Ew w q p l most pre' W' := by
  have hwW := hw.grown hg
  have hlt := hw.blk.lt
  refine ⟨⟨k.size, fun i o hi hio hc => ?_⟩, ⟨fun i hi hs => k.block i hs (by omega) (fun e => by have := (ho i e.symm).1; omega), k.size⟩, fun i h1 h2 => k.block i h2 (by omega) (fun e => by have := (hw.own.lt i e.symm).2; omega), ?_⟩
  · have hil : i < W.heap.size := (Array.getElem?_eq_some_iff.1 hio).1
    refine (k.block i hil (by omega) (fun e => ?_)).trans hio
    rcases hwW.own.2 with ⟨rfl, _⟩ | ⟨g, cap, cur, rfl, _, hgb, _⟩
    · cases e
    · injection e with e
      subst e
      rw [hgb] at hio
      cases hio
      cases hc
  · refine ⟨k.bx16 (h5.kept hg) (by omega) (fun e => (ho q e.symm).2.1 rfl), k.bx16 (h6.kept hg) (by omega) (fun e => (ho (q + 1) e.symm).2.2 rfl), ⟨v', hw', fun j e => ?_⟩, ?_⟩
    · have hs1 := hgr.size
      have hs2 := hg.size
      rcases k.own with q1 | ⟨j', q1, q2⟩
      · exact ho j (by rw [← q1]; exact e)
      · rw [e] at q1
        injection q1 with q1
        exact ⟨by omega, by omega, by omega⟩
    · exact ⟨k.os.trans (hg.os.trans hgr.os), k.tape.trans (hg.tape.trans hgr.tape), k.output.trans (hg.output.trans hgr.output), Nat.le_trans hgr.size (Nat.le_trans hg.size k.size), fun i hi _ => by
        have h1 := hgr.size
        have h2 := hg.size
        rw [k.block i (by omega) (by omega) (fun e => by have := (ho i e.symm).1; omega), hg.block i (by omega) (by simp)]
        exact hgr.block i hi (by simp)⟩
set_option maxHeartbeats 4000000 in
theorem pencode16_ok (a : Option Addr) (len cap : Nat) (l : List Kx) (w : World) (K : Kxs w a len l) (hcap : len ≤ cap) (hcm : cap ≤ maxLen) (hln : len ≤ 100000) (hs : ∀ k ∈ l, k.nm.size ≤ 255) (hr : rgt16 l = true) :
    Calls Try.prog 9 #[.slice a len cap] w fun e w' => ∃ g, e = .returned (.tuple #[.slice (some ⟨g, 0, none⟩) (enb16 l).length (enb16 l).length, .int .i64 0]) ∧ Blk w' g (bv (enb16 l)) ∧ w.heap.size ≤ g ∧ w.grownBy w' none := by
  have hc := pcheck16_any a len cap l w K (fun k hk => Nat.le_trans (hs k hk) (by decide))
  rw [hr, if_pos rfl] at hc
  have hmw : IntKind.i64.wrap ((len : Int) * 264) = (len : Int) * 264 := by rw [IntKind.wrap_i64]; omega
  have hnw := fun W => newwriter_any ((len : Int) * 264) W
  refine (callsIn_wide (n := 5)).1 ?_
  refine callsIn_of_wp_marks Try.func9 rfl trivial ?_ rfl
  simp only [Try.ntmps9, List.size_toArray, List.length_cons, List.length_nil, Nat.reduceAdd, Nat.reduceSub, Array.replicate_succ, Array.replicate_zero, List.push_toArray, List.append_toArray, List.nil_append, List.cons_append]
  gi_wp2
  refine ⟨trivial, ?_⟩
  refine CallsIn.mono (callsIn_wide.2 hc) ?_
  rintro e w1 ⟨rfl, g1⟩
  gi_wp2
  refine ⟨trivial, ?_⟩
  refine CallsIn.mono (callsIn_wide.2 (hnw _)) ?_
  rintro e w2 ⟨rfl, hI, g2⟩
  rw [if_neg (by omega)] at hI
  gi_wp2
  have hB5 := Bx.new w2 44 [.pointer (some ⟨w1.heap.size, 0, none⟩)]
  have g5 := World.grownBy_alloc w2 (.cells #[.pointer (some ⟨w1.heap.size, 0, none⟩)] 44) none
  generalize hW3 : w2.alloc (.cells #[.pointer (some ⟨w1.heap.size, 0, none⟩)] 44) = W3 at *
  have s3 : W3.heap.size = w2.heap.size + 1 := by rw [← hW3]; simp
  have hB6 := Bx.new W3 48 [.func (.func 19) #[] #[.pointer (some ⟨w2.heap.size, 0, none⟩)]]
  rw [s3] at hB6
  have g6 := World.grownBy_alloc W3 (.cells #[.func (.func 19) #[] #[.pointer (some ⟨w2.heap.size, 0, none⟩)]] 48) none
  generalize hW4 : W3.alloc (.cells #[.func (.func 19) #[] #[.pointer (some ⟨w2.heap.size, 0, none⟩)]] 48) = W4 at *
  have s4 : W4.heap.size = w2.heap.size + 2 := by rw [← hW4]; simp; omega
  refine ⟨trivial, ?_⟩
  refine CallsIn.mono (callsIn_wide.2 (dirRows_any a len cap W4)) ?_
  rintro e w5 ⟨rfl, rfl⟩
  have g7 := World.grownBy_alloc W4 (.cells #[.slice a len cap] 22) none
  have hb7 := (Bx.new W4 22 [.slice a len cap]).c 0
  simp only [List.getElem?_cons_zero] at hb7
  generalize hW5 : W4.alloc (.cells #[.slice a len cap] 22) = W5 at *
  have s5 : W5.heap.size = w2.heap.size + 3 := by rw [← hW5]; simp; omega
  rw [s4] at hb7 ⊢
  have gA : w.grownBy W5 none := grown_trans (grown_trans (grown_trans (grown_trans g1 g2) g5) g6) g7
  have hp : w1.heap.size < w2.heap.size := hI.blk.lt
  have hw0 : w.heap.size ≤ w1.heap.size := g1.size
  have hEw : Ew w w2.heap.size w1.heap.size l ((len : Int) * 264) [] W5 := ⟨(hB5.kept g6).kept g7, hB6.kept g7, ⟨_, ((hI.grown g5).grown g6).grown g7, fun j e => by cases e⟩, gA⟩
  have hL5 : Kxs W5 a len l := K.grown gA
  obtain ⟨b, off, hab⟩ : ∃ b off, 0 < len → a = some ⟨b, off, none⟩ := by
    rcases Nat.eq_zero_or_pos len with h0 | h0
    · exact ⟨0, 0, fun h => by omega⟩
    · obtain ⟨b, off, e, _⟩ := K.at_ h0
      exact ⟨b, off, fun _ => e⟩
  have hbl : ∀ b off, a = some ⟨b, off, none⟩ → 0 < len → b < w.heap.size := fun b' off' e h0 => by
    obtain ⟨b2, off2, e2, hk⟩ := K.at_ h0
    rw [e] at e2
    injection e2 with e2
    injection e2 with e3 e4
    subst e3
    have := (hk 0 (l[0]'(by rw [K.len_eq]; exact h0)) (List.getElem?_eq_getElem _)).c0
    exact cell_lt this
  have hseq := rows_seq (Kw w.heap.size) (w2.heap.size + 2) b off len cap a l hcap hcm hab (fun W W' k h => kxs_kept hbl k h) W5 hL5 hb7
  clear hW3 hW4 hW5 hB5 hB6 g5 g6 g7 hI hc hnw hL5
  simp only
  gi_wp2
  refine rangeB (gf := 34) (lb := #[.pointer (some ⟨w2.heap.size + 2, 0, none⟩)]) rfl (enters_of Try.func34 (by kernel_rfl) rfl) hseq (Below.refl _ _) (fun x => rfl)
    Kw.trans (fun W o => Kw.put W o (by omega)) (fun A B g => Kw.grown g) (Ew w w2.heap.size w1.heap.size l ((len : Int) * 264)) (fun _ _ _ => False) (ew_own w _ _ l _ _ (by omega) (by omega)) (fun c => fun s A B row h _ _ => h) hEw
    (fun x a' m W => a' = { tmps := #[.slice a len cap, undef, .slice none 0 0, .int .i64 0, .int .i64 0, .pointer (some ⟨w2.heap.size, 0, none⟩), .pointer (some ⟨w2.heap.size + 1, 0, none⟩), .slice (some ⟨b, off + x.1 * 2, none⟩) x.2 (cap - x.1), undef, undef, undef, .slice a len cap, .int .i64 0, .int .i64 0, .bool false, undef, .slice a len cap, .int .i64 (len : Int), .int .i64 ((len : Int) * 264), .pointer (some ⟨w1.heap.size, 0, none⟩), .func (.func 19) #[] #[.pointer (some ⟨w2.heap.size, 0, none⟩)], .slice a len cap, .func (.func 34) #[] #[.pointer (some ⟨w2.heap.size + 2, 0, none⟩)], .slice (some ⟨b, off + x.1 * 2, none⟩) x.2 (cap - x.1), undef, undef, undef, undef, undef, undef, undef, undef, undef, undef, undef, undef, undef, undef, undef, undef, undef, undef, undef, undef, undef, undef, undef, undef, undef, undef, undef, undef, undef, undef, undef, undef, undef, undef, undef, undef, undef, undef], defers := [] })
    (fun x a' m s W W' row h _ _ => h) ?assign ?body ?done ?stop
  case assign =>
    intro lp d x W K hK
    gi_wp2
    exact hK _ _ (World.grownBy.refl _ _) rfl
  case stop =>
    rintro D c pre W hD hpre h hK
    exact h.elim
  case done =>
    rintro D ys W hD rfl ⟨h5, h6, ⟨v, hw, ho⟩, hgr⟩ hK
    have hE : preB l (rwp len 0 l) = enb16 l := by unfold preB; rw [enb_rwp, K.len_eq]
    rw [hE] at hw
    have hlen16 := enb16_len hs
    rw [K.len_eq] at hlen16
    have hdn := wdone_ok w1.heap.size v (enb16 l) _ W hw (by omega)
    have c5 := h5.c 0
    simp only [List.getElem?_cons_zero] at c5
    clear hE hseq ho h6 hw hEw
    gi_wp2
    refine ⟨trivial, ?_⟩
    refine CallsIn.mono (callsIn_wide.2 hdn) ?_
    rintro e w9 ⟨rfl, b9, g9⟩
    have hK9 : w9.heap[D]? = some (.deferred (some [])) := (g9.block D (Array.getElem?_eq_some_iff.1 hK).1 (by simp)).trans hK
    have g09 := grown_trans hgr g9
    have hszW := hgr.size
    gi_wp2
    refine ⟨by simp, .inl ⟨_, _, rfl, run_takeDeferred hK9, ?_⟩⟩
    refine ⟨_, results_tmp2 rfl _ _ _, ?_⟩
    have gF : w.grownBy (w9.putObj D (.deferred none)) none := by
      have k := grownBy_putObj' w9 D (.deferred none)
      exact ⟨k.os.trans g09.os, k.tape.trans g09.tape, k.output.trans g09.output, Nat.le_trans g09.size k.size, fun i hi _ => (k.block i (Nat.lt_of_lt_of_le hi g09.size) (fun e => by injection e with e; omega)).trans (g09.block i hi (by simp))⟩
    refine ⟨W.heap.size, rfl, ?_, hszW, gF⟩
    unfold Blk at b9 ⊢
    rw [World.putObj_heap_other (by have hlt := (Array.getElem?_eq_some_iff.1 hK).1; omega)]
    exact b9
  case body =>
    rintro lp d m pre x a' W0 W hs0 hm ⟨h5, h6, ⟨v, hw, ho⟩, hgr⟩ hg rfl hsp
    have hmem : x ∈ rwp len 0 l := by
      obtain ⟨t, ht⟩ := hsp
      rw [← ht]
      simp
    obtain ⟨_, hx1, hx2, hx3, F, hF, hFge⟩ := rwp_mem l len 0 x (by rw [List.drop_zero]; exact hmem)
    have hkl := K.len_eq
    obtain rfl := hab (by omega)
    have hKW := (K.grown hgr).grown hg
    have hKR := hKW.part x.1 x.2 (by omega)
    obtain ⟨kq, nq⟩ := x
    simp only at hx1 hx2 hx3 hF hFge hKR ⊢
    obtain ⟨b2, off2, e2, hkc⟩ := hKR.at_ (by omega)
    injection e2 with e2
    injection e2 with e3 e4
    subst e3 e4
    have hrF : ((l.drop kq).take nq)[0]? = some F := by rw [List.getElem?_take, if_pos (by omega), List.getElem?_drop, Nat.add_zero]; exact hF
    have f1 := (hkc 0 F hrF).c1
    simp only [Nat.zero_mul, Nat.add_zero] at f1
    have c6 := (h6.kept hg).c 0
    simp only [List.getElem?_cons_zero] at c6
    have hni : (0 : Int) < (nq : Int) := by omega
    obtain ⟨row, hrow⟩ : ∃ row, row = (l.drop kq).take nq := ⟨_, rfl⟩
    rw [← hrow] at hrF hkc
    have hrl : row.length = nq := by rw [hrow, List.length_take, List.length_drop]; omega
    have hrm : ∀ k ∈ row, k ∈ l := fun k hk => by rw [hrow] at hk; exact List.mem_of_mem_drop (List.mem_of_mem_take hk)
    have hrow2 : rowAt l (kq, nq) = row := hrow.symm
    rw [hrow2] at hFge
    obtain ⟨_, hFi0, hFi1⟩ := rgt_mem hr (hrm F (List.mem_of_getElem? hrF))
    obtain ⟨fi, hfi⟩ : ∃ fi : Nat, F.io = (fi : Int) := ⟨F.io.toNat, by omega⟩
    have hRB : rowB row = sto ((nq : Nat) : Int) 2 ++ (sto F.io 4 ++ (row.map (kidB F.io)).flatten) := by
      cases hc : row with
      | nil => rw [hc] at hrl; simp at hrl; omega
      | cons k r =>
        rw [hc] at hrF hrl
        rw [List.getElem?_cons_zero] at hrF
        injection hrF with hrF
        subst hrF
        unfold rowB
        rw [hrl]
    have hpreB : preB l (pre ++ [(kq, nq)]) = preB l pre ++ rowB row := by
      unfold preB
      rw [List.map_append, List.map_append, List.flatten_append, List.map_cons, List.map_nil, List.map_cons, List.map_nil, List.flatten_cons, List.flatten_nil, List.append_nil, hrow2]
    have htot : (preB l pre).length + (rowB row).length ≤ 264 * len := by
      obtain ⟨t, ht⟩ := hsp
      have h1 := enb16_len hs
      rw [enb_rwp, hkl, ← ht, List.map_append, List.map_append, List.flatten_append] at h1
      have h2 := congrArg List.length hpreB
      rw [List.length_append] at h2
      have h3 : (preB l (pre ++ [(kq, nq)])).length ≤ 264 * len := by
        unfold preB
        rw [List.length_append] at h1
        omega
      omega
    have hbytR : ∀ k ∈ row, k.nm.size ≤ 255 := fun k hk => hs k (hrm k hk)
    rw [hRB, List.length_append, List.length_append, sto_length, sto_length] at htot
    have HCEL : Hid (∀ V vv, Chg W V w1.heap.size v vv → V.cell? ⟨w2.heap.size, 0, none⟩ = some (.pointer (some ⟨w1.heap.size, 0, none⟩)) ∧ V.cell? ⟨w2.heap.size + 1, 0, none⟩ = some (.func (.func 19) #[] #[.pointer (some ⟨w2.heap.size, 0, none⟩)]) ∧ Kxs V (some ⟨b, off, none⟩) len l) := fun V vv k =>
      ⟨(k.bx16 (h5.kept hg) (by omega) (fun e => (ho _ e.symm).2.1 rfl)).c 0, (k.bx16 (h6.kept hg) (by omega) (fun e => (ho _ e.symm).2.2 rfl)).c 0, k.kxs16 hKW hbl (by omega) (fun j e => (ho j e).1)⟩
    have hp1 := pput_any w1.heap.size w2.heap.size nq 2 v (preB l pre) ((len : Int) * 264) W (hw.grown hg) (HCEL.out W v (Chg.refl _ _ _)).1 (ck2_16 (by omega) (by omega)) (by omega) (by omega) (by omega) (by omega) (by omega)
    rw [hfi] at f1
    gi_wp2
    refine ⟨trivial, (fun h => by cases h), ?_⟩
    refine CallsIn.mono (CallsIn.inRound lp (callsIn_wide.2 hp1)) ?_
    rintro e w6 ⟨rfl, v6, hw6, k6⟩
    have hp2 := pput_any w1.heap.size w2.heap.size fi 4 v6 _ ((len : Int) * 264) w6 hw6 (HCEL.out w6 v6 k6).1 (ck4_16 (by omega) (by omega)) (by omega) (by omega) (by omega) (by rw [List.length_append, sto_length]; omega) (by rw [List.length_append, sto_length]; omega)
    have c66 := (HCEL.out w6 v6 k6).2.1
    clear hp1 c6 f1
    gi_wp2
    refine ⟨trivial, (fun h => by cases h), ?_⟩
    refine CallsIn.mono (CallsIn.inRound lp (callsIn_wide.2 hp2)) ?_
    rintro e w7 ⟨rfl, v7, hw7, k7⟩
    have k67 := k6.trans k7
    clear hp2 c66 hw6 k6 k7
    have HKV : Hid (∀ V vv, Chg W V w1.heap.size v vv → ∀ i X, row[i]? = some X → KxAt V b (off + kq * 2 + i * 2) X) := fun V vv k i X hX => by
      obtain ⟨b3, off3, e3, hk3⟩ := ((HCEL.out V vv k).2.2.part kq nq (by omega)).at_ (by omega)
      injection e3 with e3
      injection e3 with e3 e4
      subst e3 e4
      rw [← hrow] at hk3
      exact hk3 i X hX
    gi_wp2
    gi_loopw [37] (fun vi wr => ∃ (i : Nat) (vr : Value), vi = .int .i64 (i : Int) ∧ i ≤ nq ∧ Hid (WInv wr w1.heap.size vr (preB l pre ++ sto ((nq : Nat) : Int) 2 ++ sto ((fi : Nat) : Int) 4 ++ ((row.take i).map (kidB ((fi : Nat) : Int))).flatten) ((len : Int) * 264) 0) ∧ Hid (Chg W wr w1.heap.size v vr)) (fun vi _ => nq - (intOf vi).toNat)
    case atStart => exact ⟨0, v7, rfl, by omega, by rw [List.take_zero, List.map_nil, List.flatten_nil, List.append_nil]; exact hw7, k67⟩
    case round =>
      obtain ⟨i, vr, rfl, hi, HW, HC⟩ := hrel
      clear hw7 k67
      by_cases h0 : i < nq
      · obtain ⟨X, hX⟩ : ∃ X, row[i]? = some X := ⟨_, List.getElem?_eq_getElem (by omega)⟩
        have hXm : X ∈ row := List.mem_of_getElem? hX
        have hXK := HKV.out wr vr HC.out i X hX
        obtain ⟨c0, c1⟩ := hXK
        have h0i : (i : Int) < (nq : Int) := by omega
        obtain ⟨_, hX0, hX1⟩ := rgt_mem hr (hrm X hXm)
        have hXF := hFge X hXm
        have hXs := hbytR X hXm
        obtain ⟨xo, hxo⟩ : ∃ xo : Nat, X.io = (xo : Int) := ⟨X.io.toNat, by omega⟩
        obtain ⟨xi, hxi⟩ : ∃ xi : Nat, (xi : Int) = (xo : Int) - (fi : Int) := ⟨((xo : Int) - fi).toNat, by omega⟩
        have hsub : IntKind.i64.wrap ((xo : Int) - (fi : Int)) = (xi : Int) := by rw [IntKind.wrap_i64]; omega
        rw [hxo] at c1
        have hKB : kidB (fi : Int) X = sto (xi : Int) 2 ++ (((X.nm.size : Nat) : Int) :: nums X.nm) := by unfold kidB; rw [hxo, ← hxi]
        have hlen3 : ((row.take i).map (kidB (fi : Int))).flatten.length + (kidB (fi : Int) X).length ≤ ((row.map (kidB F.io)).flatten).length := by
          rw [hfi]
          have h1 : (row.take (i + 1)).map (kidB (fi : Int)) ++ (row.drop (i + 1)).map (kidB (fi : Int)) = row.map (kidB (fi : Int)) := by rw [← List.map_append, List.take_append_drop]
          rw [← h1, List.flatten_append, List.length_append, (by rw [List.take_add_one, hX]; rfl : row.take (i + 1) = row.take i ++ [X]), List.map_append, List.flatten_append, List.length_append, List.map_cons, List.map_nil, List.flatten_cons, List.flatten_nil, List.append_nil]
          omega
        rw [hKB, List.length_append, List.length_cons, sto_length, nums_len] at hlen3
        generalize hPB : preB l pre ++ sto ((nq : Nat) : Int) 2 ++ sto ((fi : Nat) : Int) 4 ++ ((row.take i).map (kidB ((fi : Nat) : Int))).flatten = PB at HW
        have hPBl : PB.length + (2 + (X.nm.size + 1)) ≤ 264 * len := by
          rw [← hPB, List.length_append, List.length_append, List.length_append, sto_length, sto_length]
          omega
        obtain ⟨wk, hwk⟩ : ∃ wk, wk = wr.alloc (.cells #[.string X.nm, .int .i64 (xo : Int)] 41) := ⟨_, rfl⟩
        have gk : wr.grownBy wk none := by rw [hwk]; exact World.grownBy_alloc _ _ _
        have bk : Bx wk wr.heap.size 41 [.string X.nm, .int .i64 (xo : Int)] := by rw [hwk]; exact Bx.new wr 41 _
        have kk : Hid (Chg W wk w1.heap.size v vr) := HC.out.trans (Chg.of_grown gk)
        have hvo : some wr.heap.size ≠ vr.ownBlock := fun e => by have := (HW.out.own.lt _ e.symm).2; omega
        have hpw : w1.heap.size < wr.heap.size := HW.out.blk.lt
        have hp3 := pput_any w1.heap.size w2.heap.size xi 2 vr PB ((len : Int) * 264) wk (HW.out.grown gk) (HCEL.out wk vr kk.out).1 (ck2_16 (by omega) (by omega)) (by omega) (by omega) (by omega) (by omega) (by omega)
        have ck6 := (HCEL.out wk vr kk.out).2.1
        have bc1 := bk.c 1
        simp only [List.getElem?_cons_zero, List.getElem?_cons_succ] at bc1
        subst hwk
        have HBK : Hid _ := bk
        clear bk gk hlen3
        rw [hxi] at hp3
        gi_wp2
        refine ⟨trivial, (fun h => by cases h), ?_⟩
        refine CallsIn.mono (CallsIn.inRound lp (callsIn_wide.2 hp3)) ?_
        rintro e w8 ⟨rfl, v8, hw8, k8⟩
        rw [← hxi] at hw8
        have kk8 : Hid (Chg W w8 w1.heap.size v v8) := kk.out.trans k8
        have bk8 := k8.bx16 HBK.out (by omega) hvo
        have hvo8 : some wr.heap.size ≠ v8.ownBlock := fun e => by
          rcases k8.own with q1 | ⟨j', q1, q2⟩
          · exact hvo (by rw [← q1]; exact e)
          · rw [← e] at q1
            injection q1 with q1
            simp at q2
            omega
        have hp4 := pput_any w1.heap.size w2.heap.size X.nm.size 1 v8 _ ((len : Int) * 264) w8 hw8 (HCEL.out w8 v8 kk8.out).1 (ck1_16 (by omega) (by omega)) (by omega) (by omega) (by omega) (by rw [List.length_append, sto_length]; omega) (by rw [List.length_append, sto_length]; omega)
        have ck68 := (HCEL.out w8 v8 kk8.out).2.1
        have bc0 := bk8.c 0
        simp only [List.getElem?_cons_zero] at bc0
        clear hp3 ck6 bc1 HBK kk c0 c1
        gi_wp2
        refine ⟨trivial, (fun h => by cases h), ?_⟩
        refine CallsIn.mono (CallsIn.inRound lp (callsIn_wide.2 hp4)) ?_
        rintro e w9 ⟨rfl, v9, hw9, k9⟩
        have kk9 : Hid (Chg W w9 w1.heap.size v v9) := kk8.out.trans k9
        have bk9 := k9.bx16 bk8 (by omega) hvo8
        have ck59 := (HCEL.out w9 v9 kk9.out).1
        have bc09 := bk9.c 0
        simp only [List.getElem?_cons_zero] at bc09
        obtain ⟨cap9, WC, hconv, g9, r9, sz9⟩ := conv15 X.nm w9 (by unfold maxLen; omega)
        have hp5 := wbytes_apart w1.heap.size v9 _ ((len : Int) * 264) (some ⟨w9.heap.size, 0, none⟩) X.nm.size cap9 (nums X.nm) WC (hw9.grown g9) r9 (fun b' off' e _ => by
          injection e with e
          injection e with e1 e2
          subst e1
          have h1 := hw9.blk.lt
          exact ⟨sz9, by omega, fun e3 => by have := (hw9.own.lt _ e3.symm).2; omega⟩) (by omega) (by omega) (by rw [List.length_append, List.length_append, sto_length, sto_length]; omega) (by rw [List.length_append, List.length_append, sto_length, sto_length]; omega)
        have kkC : Hid (Chg W WC w1.heap.size v v9) := kk9.out.trans (Chg.of_grown g9)
        clear hp4 ck68 bc0 g9 r9 bk8 bk9 kk8 kk9 hw8 hw9
        gi_wp2
        refine ⟨trivial, (fun h => by cases h), ?_⟩
        refine CallsIn.mono (CallsIn.inRound lp (callsIn_wide.2 hp5)) ?_
        rintro e wz ⟨vz, rfl, hwz, kz⟩
        have kkz : Hid (Chg W wz w1.heap.size v vz) := kkC.out.trans kz
        have hwi : IntKind.i64.wrap ((i : Int) + 1) = ((i + 1 : Nat) : Int) := by rw [IntKind.wrap_i64]; omega
        have hts : row.take (i + 1) = row.take i ++ [X] := by rw [List.take_add_one, hX]; rfl
        have hwz2 : Hid (WInv wz w1.heap.size vz (preB l pre ++ sto ((nq : Nat) : Int) 2 ++ sto ((fi : Nat) : Int) 4 ++ ((row.take (i + 1)).map (kidB ((fi : Nat) : Int))).flatten) ((len : Int) * 264) 0) := by
          have hbx : ((X.nm.size : Nat) : Int) % 256 = ((X.nm.size : Nat) : Int) := by omega
          have h1 : sto ((X.nm.size : Nat) : Int) 1 = [((X.nm.size : Nat) : Int)] := by
            show ((X.nm.size : Nat) : Int) % 256 :: sto (((X.nm.size : Nat) : Int) / 256) 0 = _
            rw [hbx]
            rfl
          rw [← hPB, h1] at hwz
          rw [hts, List.map_append, List.flatten_append, List.map_cons, List.map_nil, List.flatten_cons, List.flatten_nil, List.append_nil, hKB]
          simp only [List.append_assoc, List.cons_append, List.nil_append] at hwz ⊢
          exact hwz
        clear hp5 kkC kz hwz
        gi_wp2
        exact ⟨⟨i + 1, vz, by rw [Int.natCast_add]; rfl, by omega, hwz2, kkz⟩, by simp only [intOf]; omega⟩
      · obtain rfl : i = nq := by omega
        gi_wp2
        have hTK : row.take i = row := List.take_of_length_le (by omega)
        have hww := HW.out
        rw [hTK] at hww
        refine ew_post (by omega) (by omega) (by omega) (by omega) h5 h6 hw ho hgr hg HC.out ?_
        rw [hpreB, hRB, hfi]
        simpa only [List.append_assoc] using hww
end Go.Proofs.Ytngalihnckbkfaa
