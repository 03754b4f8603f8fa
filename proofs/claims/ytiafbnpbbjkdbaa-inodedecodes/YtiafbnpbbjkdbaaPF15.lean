/- The document's minus, guess. -/
import Derived.Test.YtiafbnpbbjkdbaaOS
import Derived.Test.YtiafbnpbbjkdbaaOY
import Derived.Test.YtiafbnpbbjkdbaaOP
import Derived.Deep.RegionHeld
import Derived.Maps.AppendAt
namespace Go.Proofs.Ytiafbnpbbjkdbaa
open Go.RowKit
set_option maxRecDepth 100000
set_option linter.unusedSimpArgs false
set_option linter.unusedVariables false
def mn15 (v : Int) : Int := if IntKind.i64.wrap v = 4294967295 then -1 else IntKind.i64.wrap v
theorem mn_in (v : Int) : in64 (mn15 v) := by
  unfold mn15
  split
  · exact ⟨by decide, by decide⟩
  · exact in64_wrap v
theorem mn_sg {v x : Int} (h : v = x % 4294967296) (h0 : -1 ≤ x) (h1 : x ≤ 16777216) : mn15 v = x := by
  unfold mn15
  rw [IntKind.wrap_i64, h]
  by_cases q : x = -1
  · subst q; rfl
  · rw [if_neg (by omega)]; omega
theorem sg_of {v x : Int} (h : v = x % 4294967296) (h0 : -1 ≤ x) (h1 : x ≤ 16777216) : sg15 v = x := by
  unfold sg15
  rw [IntKind.wrap_i32, h]
  omega
theorem minus_any (a : Option Addr) (len cap : Nat) (bs : List Int) (k : Nat) (w : World) (R : Row w a len bs) (hin : k + 4 ≤ len) :
    Calls Try.prog 47 #[.slice a len cap, .int .i64 k] w fun e w' => e = .returned (.int .i64 (mn15 (le ((bs.drop k).take 4)))) ∧ w = w' := by
  have h := load_row a len cap bs k 4 w R (by decide) (by decide) hin
  unfold mn15
  generalize le ((bs.drop k).take 4) = x at *
  clear R
  generalize hy : IntKind.i64.wrap x = y
  by_cases q : y = 4294967295
  · rw [if_pos q]
    go_enter Try.func47, Try.ntmps47
    go_wp2_with (go_at_call 46; refine h.mono ?_; rintro e w' ⟨rfl, rfl⟩)
    go_ret
    exact ⟨rfl, rfl⟩
  · rw [if_neg q]
    go_enter Try.func47, Try.ntmps47
    go_wp2_with (go_at_call 46; refine h.mono ?_; rintro e w' ⟨rfl, rfl⟩)
    go_ret
    exact ⟨rfl, rfl⟩
theorem results_cell_1 {P : Program} {fn : Func} {p x : Tmp} {ty : TypeId} (h : fn.results = #[.cell p ty, .tmp x]) (tmps : Array Value) (w : World) (g : Nat) (t : TypeId) (cs : Array Value) (fr : Nat × Nat) (d : TypeDesc)
    (hp : tmps.getD p undef = .pointer (some ⟨g, 0, none⟩)) (hg : w.heap[g]? = some (.cells cs t fr))
    (hu : P.underlying ty = some d) (hd : (match d with | .struct _ | .array _ _ => true | _ => false) = true) (hi : (P.info? ty).map (·.size) = some cs.size) :
    (results fn tmps).run P w = .ok (.tuple #[.agg cs, tmps.getD x undef]) w := by
  have hp' : tmps[p]?.getD undef = .pointer (some ⟨g, 0, none⟩) := by simpa using hp
  simp [results, h, hp', asAddr, run_loadVar_row w g t ty cs fr d hg hu hd hi]
/-- cut behind a region: what follows is shown once -/
theorem wp_tail15 {P : Program} {c : Code} {Q : Exit → Act → World → Prop} {a : Act} {w : World} (af : Act) (T : World → Prop) (h2 : Hid (∀ W, T W → Q .normal af W) → c.wp P Q a w) (h1 : ∀ W, T W → Q .normal af W) : c.wp P Q a w := h2 h1
/-- the answer's variable, the inode's -/
structure Gs15 (w W : World) (gz gs : Nat) (cs : List Value) : Prop where
  z : Bx W gz 24 [.int .i64 0, .int .i64 0, .int .i64 0, .int .i64 0, .int .i64 0, .int .i64 0, .int .i64 0, .int .i64 0, .int .i64 0, .slice none 0 0, .int .i64 0, .int .i64 0, .int .i64 0, .int .i64 0, .int .i64 0, .int .i64 0, .string ⟨#[]⟩, .int .i64 0]
  r : Bx W gs 24 cs
  gw : w.grownBy W none
  lz : w.heap.size ≤ gz
  lr : gz < gs
theorem wr_in {x : Int} (h0 : -9223372036854775808 ≤ x) (h1 : x ≤ 9223372036854775807) : IntKind.i64.wrap x = x := by rw [IntKind.wrap_i64]; omega
theorem info3_15 : (Try.prog.info? 3).map (fun i => (i.zero, i.size, i.bytes)) = some (some (.int .i64 0), 1, 8) := by kernel_rfl
theorem le4_15 {bs : List Int} (h : Byt bs) (k : Nat) : 0 ≤ le ((bs.drop k).take 4) ∧ le ((bs.drop k).take 4) < 4294967296 := by have := fv_bd h k 0 4; unfold fv15 at this; have e : (256 : Int) ^ 4 = 4294967296 := rfl; rw [e] at this; exact this
theorem in64_w64 (v : Int) : in64 (wrap64 v) := by rw [← Go.IntWalk.i64_left]; exact in64_wrap v
theorem bx_frz {W : World} {g : Nat} {T : TypeId} {cs : List Value} (h : Bx W g T cs) (i : Nat) : W.frozen? ⟨g, i, none⟩ = false := by simp [World.frozen?, h.blk]
theorem Gs15.kept {w W W' : World} {gz gs : Nat} {cs : List Value} (h : Gs15 w W gz gs cs) (k : W.grownBy W' none) : Gs15 w W' gz gs cs := ⟨h.z.kept k, h.r.kept k, grown_trans h.gw k, h.lz, h.lr⟩
theorem Gs15.put {w W : World} {gz gs : Nat} {cs : List Value} (h : Gs15 w W gz gs cs) (i : Nat) (v : Value) : Gs15 w (W.setCell ⟨gs, i, none⟩ v) gz gs (cs.set i v) := by
  have hg := grown_set W gs i v
  have hl := h.lr
  exact ⟨⟨by rw [hg.block _ h.z.lt (by simp; omega)]; exact h.z.blk⟩, h.r.set i v, grown_new h.gw hg (by have := h.lz; omega), h.lz, h.lr⟩
theorem Gs15.but0 {w W W' : World} {gz gs : Nat} {cs cs' : List Value} (h : Gs15 w W gz gs cs) (b : Bx W' gs 24 cs') (k : W.grownBy W' (some gs)) : Gs15 w W' gz gs cs' := by
  have hl := h.lr
  exact ⟨⟨by rw [k.block gz h.z.lt (fun e => by injection e with e; omega)]; exact h.z.blk⟩, b, grown_new h.gw k (by have := h.lz; omega), h.lz, h.lr⟩
theorem Gs15.but {w W W' : World} {gz gs : Nat} {cs : List Value} {r : Option Nat} (h : Gs15 w W gz gs cs) (k : W.grownBy W' r) (hr : ∀ b, r = some b → gs < b) : Gs15 w W' gz gs cs := by
  have hl := h.lr
  refine ⟨⟨by rw [k.block gz h.z.lt (fun e => by have := hr _ e.symm; omega)]; exact h.z.blk⟩, ⟨by rw [k.block gs h.r.lt (fun e => by have := hr _ e.symm; omega)]; exact h.r.blk⟩, ?_, h.lz, h.lr⟩
  exact ⟨k.os.trans h.gw.os, k.tape.trans h.gw.tape, k.output.trans h.gw.output, Nat.le_trans h.gw.size k.size, fun j hj _ => by
    rw [k.block j (Nat.lt_of_lt_of_le hj h.gw.size) (fun q => by have := hr _ q.symm; have := h.lz; omega)]
    exact h.gw.block j hj (by simp)⟩
theorem far_none {n : Nat} : ∀ (b o : Nat), (none : Option Addr) = some ⟨b, o, none⟩ → n ≤ b := fun b o e => by cases e
/-- what guess answers: whatever inode begins there, it is this one -/
def GsP15 (w : World) (len : Nat) (bs : List Int) (at_ : Nat) (e : Ending) (w' : World) : Prop :=
  ∃ (m : Nd) (ok : Bool), e = .returned (.tuple #[m.val, .bool ok]) ∧ m.ok w' ∧ m.ws.length = m.wl ∧ (∀ n0, Pre15 bs at_ n0 → at_ + 24 ≤ len → ok = true ∧ Same15 m n0) ∧ (∀ b o, m.wa = some ⟨b, o, none⟩ → w.heap.size ≤ b) ∧ w.grownBy w' none
theorem nz_ok (w : World) : nz15.ok w := by
  refine ⟨by simp [nz15, in64], irow_nil w, ⟨Nat.le_refl _, Nat.zero_le _⟩, Nat.zero_le _⟩
theorem own_slice15 {W : World} {base n : Nat} {v : Value} {xs : List Value} (h : W.ownsRow base 3 1 v n xs) : ∃ a m c, v = .slice a m c := by
  rcases h.2 with ⟨rfl, rfl⟩ | ⟨g, cap, cur, rfl, _⟩
  · exact ⟨none, 0, 0, rfl⟩
  · exact ⟨_, _, _, rfl⟩
theorem own_ints15 {W : World} {base n : Nat} {v : Value} {xs : List Int} (h : W.ownsRow base 3 1 v n (xs.map (Value.int .i64))) (hb : ∀ x ∈ xs, in64 x) (hl : n ≤ maxLen) : ∃ a c, v = .slice a n c ∧ IRow W a n xs ∧ n ≤ c ∧ c ≤ maxLen := by
  have hn : xs.length = n := by have := h.1; simp at this; omega
  rcases h.2 with ⟨rfl, rfl⟩ | ⟨g, cap, cur, rfl, _, hg, hc, hm, hs, ht⟩
  · exact ⟨none, 0, rfl, ⟨hn, Nat.zero_le _, hb, fun h => by omega⟩, Nat.le_refl _, Nat.zero_le _⟩
  · refine ⟨_, cap, rfl, ⟨hn, hl, hb, fun _ => ⟨g, 0, rfl, fun i hi => ?_⟩⟩, hc, hm⟩
    have e1 : cur[i]? = some (.int .i64 (xs.getD i 0)) := by
      have := congrArg (fun l => l[i]?) ht
      simp only [List.getElem?_map, List.getElem?_take] at this
      rw [if_pos (by omega)] at this
      rw [List.getElem?_eq_getElem (by omega : i < xs.length)] at this
      rw [List.getD_eq_getElem?_getD, List.getElem?_eq_getElem (by omega : i < xs.length)]
      simpa using this
    simp [World.cell?, hg, e1]
theorem irow_but6 {w W W' : World} {gz gs n : Nat} {cs : List Value} {a : Option Addr} {m c : Nat} {xs : List Int} {l : List Value} (h : IRow W a m xs) (g : Gs15 w W gz gs cs) (k : W.grownBy W' (some gz)) (o : W.ownsRow (gs + 1) 3 1 (.slice a m c) n l) : IRow W' a m xs := by
  refine ⟨h.len_eq, h.le, h.wide, fun h0 => ?_⟩
  obtain ⟨b, off, rfl, hc⟩ := h.cells h0
  refine ⟨b, off, rfl, fun i hi => ?_⟩
  refine World.grownBy.cell k (hc i hi) (fun e => ?_)
  injection e with e
  have := (o.lt b rfl).1
  have := g.lr
  simp only at e
  omega
theorem pre_b0 {bs : List Int} {at_ : Nat} {n : Nd} (h : Pre15 bs at_ n) (hlt : at_ < bs.length) : bs.getD at_ 0 = n.kd := by
  obtain ⟨t, ht⟩ := enb_head n
  have hp := h.2.2
  rw [ht] at hp
  have hk := h.1.1.kd
  have q := fv_of (A := []) (B := (sto n.md 2 ++ (sto n.ui 2 ++ (sto n.gi 2 ++ (sto n.tm 4 ++ (sto n.ln 4 ++ (sto n.at_ 4 ++ t))))))) (x := n.kd) (m := 2) (bs := bs) (at_ := at_) (by have := hp; unfold hdb15 at this; simp only [List.append_assoc, List.nil_append] at this ⊢; exact this)
  obtain ⟨r, hr⟩ := hp
  have e1 : bs.drop at_ = (sto n.kd 2) ++ (((sto n.md 2 ++ (sto n.ui 2 ++ (sto n.gi 2 ++ (sto n.tm 4 ++ (sto n.ln 4 ++ (sto n.at_ 4 ++ t))))))) ++ r) := by rw [← hr]; unfold hdb15; simp only [List.append_assoc, List.nil_append]
  have e2 : (bs.drop at_)[0]? = some (n.kd % 256) := by rw [e1]; simp [sto]
  rw [List.getElem?_drop, Nat.add_zero] at e2
  rw [List.getD_eq_getElem?_getD, e2]
  simp; omega
theorem pre_at {bs : List Int} {at_ : Nat} {n : Nd} (h : Pre15 bs at_ n) : fv15 bs at_ 16 4 = n.at_ % 4294967296 := by
  obtain ⟨t, ht⟩ := enb_head n
  have hp := h.2.2
  rw [ht] at hp
  have q := fv_of (A := ((((((([] ++ sto n.kd 2) ++ sto n.md 2) ++ sto n.ui 2) ++ sto n.gi 2) ++ sto n.tm 4) ++ sto n.ln 4))) (B := t) (x := n.at_) (m := 4) (bs := bs) (at_ := at_) (by have := hp; unfold hdb15 at this; simp only [List.append_assoc, List.nil_append] at this ⊢; exact this)
  have hA : ((((((([] : List Int) ++ sto n.kd 2) ++ sto n.md 2) ++ sto n.ui 2) ++ sto n.gi 2) ++ sto n.tm 4) ++ sto n.ln 4).length = 16 := by simp only [List.length_append, sto_length, List.length_nil]
  rw [hA] at q
  exact q
theorem pre_fr {bs : List Int} {at_ : Nat} {n : Nd} (h : Pre15 bs at_ n) (hk : n.kd = 1) : fv15 bs at_ 32 4 = n.fr % 4294967296 := by
  have hp := h.2.2
  have hx : enb15 n = (((((((((([] ++ sto n.kd 2) ++ sto n.md 2) ++ sto n.ui 2) ++ sto n.gi 2) ++ sto n.tm 4) ++ sto n.ln 4) ++ sto n.at_ 4) ++ sto n.sz 8) ++ sto n.st 4)) ++ (sto n.fr 4 ++ (sto n.of_ 4 ++ (sto n.tl 4 ++ (sto n.wl 4 ++ wds n.ws)))) := by unfold enb15; rw [if_pos hk]; unfold kb1 hdb15; simp only [List.append_assoc, List.nil_append]
  rw [hx] at hp
  have q := fv_of (A := (((((((((([] ++ sto n.kd 2) ++ sto n.md 2) ++ sto n.ui 2) ++ sto n.gi 2) ++ sto n.tm 4) ++ sto n.ln 4) ++ sto n.at_ 4) ++ sto n.sz 8) ++ sto n.st 4))) (B := (sto n.of_ 4 ++ (sto n.tl 4 ++ (sto n.wl 4 ++ wds n.ws)))) (x := n.fr) (m := 4) (bs := bs) (at_ := at_) (by have := hp; simp only [List.append_assoc, List.nil_append] at this ⊢; exact this)
  have hA : (((((((((([] : List Int) ++ sto n.kd 2) ++ sto n.md 2) ++ sto n.ui 2) ++ sto n.gi 2) ++ sto n.tm 4) ++ sto n.ln 4) ++ sto n.at_ 4) ++ sto n.sz 8) ++ sto n.st 4).length = 32 := by simp only [List.length_append, sto_length, List.length_nil]
  rw [hA] at q
  exact q
theorem pre_l {bs : List Int} {at_ : Nat} {n : Nd} (h : Pre15 bs at_ n) : at_ + (enb15 n).length ≤ bs.length := pre_len h.2.2 (by have := (enb_len h.1.1 h.2.1).2.2.2.2; omega)

set_option maxHeartbeats 4000000 in
theorem rguess_short (a : Option Addr) (len cap at_ : Nat) (bs : List Int) (w : World) (R : Row w a len bs) (hcap : len ≤ cap) (hl : len ≤ 100000) (hat : at_ ≤ len) (hs : len < at_ + 24) :
    Calls Try.prog 33 #[.slice a len cap, .int .i64 (at_ : Int)] w (GsP15 w len bs at_) := by
  have hd : decide ((len : Int) < (at_ : Int) + 24) = true := decide_eq_true (by omega)
  have w24 : IntKind.i64.wrap ((at_ : Int) + 24) = (at_ : Int) + 24 := by rw [IntKind.wrap_i64]; omega
  have HN : Hid (∀ W, w.grownBy W none → GsP15 w len bs at_ (.returned (.tuple #[nz15.val, .bool false])) W) := fun W g => ⟨nz15, false, rfl, nz_ok W, rfl, fun n0 _ hh => absurd hh (by omega), far_none, g⟩
  clear R hcap hl hat
  generalize GsP15 w len bs at_ = Q at *
  have hs24 : (len : Int) < (at_ : Int) + 24 := by omega
  clear hs
  go_enter Try.func33, Try.ntmps33
  go_wp2_with ((with_reducible refine inoStore ?_); refine wpList_storeB rfl 24 _ _ rfl w.heap.size [.int .i64 0, .int .i64 0, .int .i64 0, .int .i64 0, .int .i64 0, .int .i64 0, .int .i64 0, .int .i64 0, .int .i64 0, .slice none 0 0, .int .i64 0, .int .i64 0, .int .i64 0, .int .i64 0, .int .i64 0, .int .i64 0, .string ⟨#[]⟩, .int .i64 0] rfl rfl (Bx.new w _ _) infoI rfl rfl ?_; intro W6 b6 g6)
  exact bodyPost_ret (results_cell_1 rfl _ _ w.heap.size 24 _ (0, 0) _ rfl b6.blk Try.underlying24 rfl infoI) rfl (by exact HN.out _ (grown_new (World.grownBy_alloc w _ none) g6 (Nat.le_refl _)))
theorem step_store15 {P : Program} {w : World} {ops : Array Oper} {o : Oper} {a : Act} {K : Act → World → Prop} {Q : Exit → Act → World → Prop} {E : Prop} (hgd : o.guard = none) (ty : TypeId) (x y : Operand) (ho : o.op = .store ty x y)
    (g : Nat) (cs : List Value) (hx : a.eval x = .pointer (some ⟨g, 0, none⟩)) (hy : a.eval y = .agg cs.toArray) {T : TypeId} {old : List Value} (hb : Bx w g T old) (hi : (P.info? ty).map (·.size) = some cs.toArray.size)
    (hl : old.length = cs.length) (h1 : cs.all (·.oneCell') = true)
    (h : ∀ W', Bx W' g T cs → w.grownBy W' (some g) → K (a.put o.dst undef) W') : if Region.wanted o (yielded ops a.tmps) = true then Oper.wp P o a w K Q else E := by
  rw [if_pos (by simp [Region.wanted, hgd])]
  exact wp_store_row ty x y ho g cs.toArray hx hy T old.toArray hb.blk hi (by simp [hl]) (by rw [List.all_toArray]; exact h1) (h _ ⟨setRow_heap _ _ _ _ _ _ hb.blk⟩ (grown_setRow w g cs.toArray))
theorem step_appI15 {P : Program} {w : World} {ops : Array Oper} {o : Oper} {a : Act} {K : Act → World → Prop} {Q : Exit → Act → World → Prop} {E : Prop} (hgd : o.guard = none) (s x : Operand) (t : TypeId)
    (ho : o.op = .call { callee := .builtin .append, args := #[s, x], argTypes := #[t, t] })
    (base : Nat) (i : TypeInfo) (ht : P.underlying t = some (.slice 3)) (hi : P.info? 3 = some i) (hz : i.zero = some (.int .i64 0)) (hsize : i.size = 1) (hby : i.bytes = 8)
    (v : Value) (n : Nat) (xs : List Int) (hs : a.eval s = v) (hown : w.ownsRow base 3 1 v n (xs.map (Value.int .i64)))
    (g c : Nat) (y : Int) (hx : a.eval x = .slice (some ⟨g, 0, none⟩) 1 c) (hnew : w.cell? ⟨g, 0, none⟩ = some (.int .i64 y))
    (hb : n ≤ 1000000000) (hbase : base ≤ w.heap.size)
    (h : ∀ v' w', w'.ownsRow base 3 1 v' (n + 1) ((xs ++ [y]).map (Value.int .i64)) → w.grownBy w' v.ownBlock → K (a.put o.dst v') w') : if Region.wanted o (yielded ops a.tmps) = true then Oper.wp P o a w K Q else E := by
  rw [if_pos (by simp [Region.wanted, hgd])]
  obtain ⟨v', w', hrun, r1, r2, _, r4⟩ := run_append_own_at (P := P) w base t o.type 3 i (.int .i64 0) 1 8 ht hi hz hsize hby rfl (by decide) v n _ hown ⟨g, 0, none⟩ 1 c [.int .i64 y] rfl (fun j u hj => by
    cases j with
    | zero => simp at hj; subst hj; simpa [Addr.add] using hnew
    | succ j => simp at hj) (by simp [Value.oneCell']) (by unfold maxLen; omega) (by omega) hbase
  unfold Oper.wp
  simp [execOp, ho, resolve, invoke, builtin, hs, hx, hrun, Result.andThen]
  exact h v' w' (by simpa using r1) r2
theorem gs_1 {bs : List Int} {at_ len : Nat} {n0 : Nd} (h : Pre15 bs at_ n0) (hk : n0.kd = 1) (hl : bs.length = len) {wa : Option Addr} {wl wc : Nat} : Same15 ⟨(1), (IntKind.i64.wrap (fv15 bs at_ 2 2)), (IntKind.i64.wrap (fv15 bs at_ 4 2)), (IntKind.i64.wrap (fv15 bs at_ 6 2)), (IntKind.i64.wrap (fv15 bs at_ 8 4)), (IntKind.i64.wrap (fv15 bs at_ 12 4)), (mn15 (fv15 bs at_ 16 4)), (wrap64 (fv15 bs at_ 20 8)), (wrap64 (fv15 bs at_ 28 4)), wa, wl, wc, (rdw bs (at_ + 44 + 4) (fv15 bs at_ 44 4).toNat), (mn15 (fv15 bs at_ 32 4)), (wrap64 (fv15 bs at_ 36 4)), (wrap64 (fv15 bs at_ 40 4)), (0), (0), (0), ⟨#[]⟩, (0)⟩ n0 := by
  have hf := (h.1.1.k1 hk).2.2.1
  have hw := pre_wl h hk
  have hL := pre_l h
  have h1 := (enb_len h.1.1 h.2.1).1 hk
  have h2 := (h.1.1.k1 hk).2.2.2.2.2.1
  exact same_1 h (len := len) ⟨⟨⟨⟨⟨⟨⟨⟨⟨⟨⟨⟨⟨trivial, hk.symm.trans (pre_kd h).symm⟩, rfl⟩, rfl⟩, rfl⟩, rfl⟩, rfl⟩, ((mn_sg (pre_at h) h.1.1.at_.1 h.1.1.at_.2).trans (sg_of (pre_at h) h.1.1.at_.1 h.1.1.at_.2).symm)⟩, (Go.IntWalk.i64_left _).symm⟩, (Go.IntWalk.i64_left _).symm⟩, ((mn_sg (pre_fr h hk) hf.1 (by omega)).trans (sg_of (pre_fr h hk) hf.1 (by omega)).symm)⟩, (Go.IntWalk.i64_left _).symm⟩, (Go.IntWalk.i64_left _).symm⟩, rfl, by omega, by omega⟩
theorem gs_2 {bs : List Int} {at_ : Nat} {n0 : Nd} (h : Pre15 bs at_ n0) (hk : n0.kd = 2) : Same15 ⟨(2), (IntKind.i64.wrap (fv15 bs at_ 2 2)), (IntKind.i64.wrap (fv15 bs at_ 4 2)), (IntKind.i64.wrap (fv15 bs at_ 6 2)), (IntKind.i64.wrap (fv15 bs at_ 8 4)), (IntKind.i64.wrap (fv15 bs at_ 12 4)), (mn15 (fv15 bs at_ 16 4)), (0), (0), none, 0, 0, [], (0), (0), (0), (wrap64 (fv15 bs at_ 20 4)), (wrap64 (fv15 bs at_ 24 4)), (wrap64 (fv15 bs at_ 28 4)), ⟨#[]⟩, (0)⟩ n0 := same_2 h (len := 0) ⟨⟨⟨⟨⟨⟨⟨⟨⟨⟨trivial, hk.symm.trans (pre_kd h).symm⟩, rfl⟩, rfl⟩, rfl⟩, rfl⟩, rfl⟩, ((mn_sg (pre_at h) h.1.1.at_.1 h.1.1.at_.2).trans (sg_of (pre_at h) h.1.1.at_.1 h.1.1.at_.2).symm)⟩, (Go.IntWalk.i64_left _).symm⟩, (Go.IntWalk.i64_left _).symm⟩, (Go.IntWalk.i64_left _).symm⟩
theorem gs_3 {bs : List Int} {at_ len : Nat} {n0 : Nd} (h : Pre15 bs at_ n0) (hk : n0.kd = 3) (hl : bs.length = len) (hb : Byt bs) : Same15 ⟨(3), (IntKind.i64.wrap (fv15 bs at_ 2 2)), (IntKind.i64.wrap (fv15 bs at_ 4 2)), (IntKind.i64.wrap (fv15 bs at_ 6 2)), (IntKind.i64.wrap (fv15 bs at_ 8 4)), (IntKind.i64.wrap (fv15 bs at_ 12 4)), (mn15 (fv15 bs at_ 16 4)), (0), (0), none, 0, 0, [], (0), (0), (0), (0), (0), (0), (strOfNums ((bs.drop (at_ + 20 + 2)).take (fv15 bs at_ 20 2).toNat)), (0)⟩ n0 := by
  have hw := pre_tl h hk
  have hL := pre_l h
  have h1 := (enb_len h.1.1 h.2.1).2.2.1 hk
  exact same_3 h (len := len) (fun x hx => hb x (List.mem_of_mem_drop (List.mem_of_mem_take hx))) ⟨⟨⟨⟨⟨⟨⟨⟨trivial, hk.symm.trans (pre_kd h).symm⟩, rfl⟩, rfl⟩, rfl⟩, rfl⟩, rfl⟩, ((mn_sg (pre_at h) h.1.1.at_.1 h.1.1.at_.2).trans (sg_of (pre_at h) h.1.1.at_.1 h.1.1.at_.2).symm)⟩, rfl, by omega⟩
theorem gs_0 {bs : List Int} {at_ : Nat} {n0 : Nd} {x0 : Int} (h : Pre15 bs at_ n0) (hk : n0.kd = x0) (h1 : x0 ≠ 1) (h2 : x0 ≠ 2) (h3 : x0 ≠ 3) : Same15 ⟨(x0), (IntKind.i64.wrap (fv15 bs at_ 2 2)), (IntKind.i64.wrap (fv15 bs at_ 4 2)), (IntKind.i64.wrap (fv15 bs at_ 6 2)), (IntKind.i64.wrap (fv15 bs at_ 8 4)), (IntKind.i64.wrap (fv15 bs at_ 12 4)), (mn15 (fv15 bs at_ 16 4)), (0), (0), none, 0, 0, [], (0), (0), (0), (0), (0), (0), ⟨#[]⟩, (wrap64 (fv15 bs at_ 20 4))⟩ n0 := by
  have := h.1.1.kd
  rcases (by omega : x0 = 4 ∨ x0 = 5) with rfl | rfl
  · exact same_4 h (len := 0) ⟨⟨⟨⟨⟨⟨⟨⟨trivial, hk.symm.trans (pre_kd h).symm⟩, rfl⟩, rfl⟩, rfl⟩, rfl⟩, rfl⟩, ((mn_sg (pre_at h) h.1.1.at_.1 h.1.1.at_.2).trans (sg_of (pre_at h) h.1.1.at_.1 h.1.1.at_.2).symm)⟩, (Go.IntWalk.i64_left _).symm⟩
  · exact same_5 h (len := 0) ⟨⟨⟨⟨⟨⟨⟨⟨trivial, hk.symm.trans (pre_kd h).symm⟩, rfl⟩, rfl⟩, rfl⟩, rfl⟩, rfl⟩, ((mn_sg (pre_at h) h.1.1.at_.1 h.1.1.at_.2).trans (sg_of (pre_at h) h.1.1.at_.1 h.1.1.at_.2).symm)⟩, (Go.IntWalk.i64_left _).symm⟩
end Go.Proofs.Ytiafbnpbbjkdbaa
