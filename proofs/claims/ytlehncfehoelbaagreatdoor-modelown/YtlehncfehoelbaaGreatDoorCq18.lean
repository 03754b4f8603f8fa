/- The program's tree: has a list the root's entry? The program's tree: t. -/
import Derived.Test.YtlehncfehoelbaaGreatDoorCq02
import Derived.Test.YtlehncfehoelbaaGreatDoorCq07
import Derived.Test.YtlehncfehoelbaaGreatDoorCq09
import Derived.Test.YtlehncfehoelbaaGreatDoorCq13
import Derived.Test.YtlehncfehoelbaaGreatDoorCq14
import Derived.Test.YtlehncfehoelbaaGreatDoorCq15
import Derived.Test.YtlehncfehoelbaaGreatDoorCq16
import Derived.Test.YtlehncfehoelbaaGreatDoorCq17
namespace Go.Proofs.YtlehncfehoelbaaGreatDoor
open Go.RowKit
set_option maxRecDepth 100000
set_option linter.unusedSimpArgs false
set_option linter.unusedVariables false
def hasR (l : List EnV) : Bool := l.any fun X => X.path.toList == []
theorem pwr1_any (X : EnV) (w : World) : Calls Tryz.prog 70 #[X.val] w fun e w' => e = .returned (.bool (X.path.toList == [])) ∧ w.grownBy w' none := by
 obtain ⟨path, K, mo, uid, gid, ti, sz_, da, dl, dc, data, tg, dev, aa, al, ac, attrs⟩ := X
 simp only [EnV.val]
 generalize hB : (path.toList == []) = B
 cases B <;>
 ·go_enter Tryz.func70, Tryz.ntmps70
  go_wp2_with fail
  go_ret
  exact ⟨by first | rfl | simpa using hB, xga _ _ none⟩
set_option maxHeartbeats 4000000 in
theorem pidxf_any (a : Option Addr) (len cap : Nat) (l : List EnV) (w : World) (E : Ens w a len l) :
  Calls Tryz.prog 104 #[.slice a len cap, .func (.func 70) #[] #[]] w fun e w' => ∃ i : Int, e = .returned (.int .i64 i) ∧ decide (0 ≤ i) = hasR l ∧ w.grownBy w' none := by
 have hll := E.len_eq
 have hle : len ≤ 9223372036854775807 := E.le
 have hta : l.take len = l := List.take_of_length_le (by omega)
 have HI : Hid _ := xai E (xai hll hta)
 clear E hll hta
 go_enter Tryz.func104, Tryz.ntmps104
 go_wp2_with fail
 go_loopw [8] (fun vi wr => ∃ (k : Nat), k ≤ len ∧ vi = .int .i64 k ∧ Hid (hasR (l.take k) = false) ∧ Hid (w.grownBy wr none)) (fun vi _ => len - (intOf vi).toNat)
 case atStart => exact ⟨0, Nat.zero_le _, rfl, rfl, World.grownBy.refl _ _⟩
 case round =>
  obtain ⟨k, hk, rfl, HS, HG⟩ := hrel
  by_cases hlt : k < len
  ·obtain ⟨Y, hY⟩ : ∃ Y, l[k]? = some Y := ⟨_, List.getElem?_eq_getElem (by have := HI.out.2.1; omega)⟩
   obtain ⟨b, off, rfl, hat⟩ := (HI.out.1.grown HG.out).at_ (by omega)
   obtain ⟨y0, y1, y2, y3, y4, y5, y6, y7, y8, y9, y10, yok⟩ := hat k Y hY
   have hcl := fun W => pwr1_any Y W
   have hst : hasR (l.take (k + 1)) = (Y.path.toList == []) := by
    unfold hasR at *
    rw [List.take_add_one, hY, List.any_append, HS.out]
    simp
   have HN : Hid _ := hst
   clear hst hat yok hY
   obtain ⟨path, KY, mo, uid, gid, ti, sz_, da, D, dc, data, tg, dev, aa, al, ac, attrs⟩ := Y
   simp only [EnV.val] at hcl
   simp only at y0 y1 y2 y3 y4 y5 y6 y7 y8 y9 y10 HN
   generalize (path.toList == []) = B at *
   have hlti : (k : Int) < (len : Int) := by omega
   cases B with
   | true =>
    have HV : Hid (hasR l = true) := by
     show hasR l = true
     rw [← List.take_append_drop (k + 1) l]
     unfold hasR at *
     rw [List.any_append, HN.out]; rfl
    go_wp2_with (go_at_call 70; refine (hcl _).mono ?_; rintro e w' ⟨rfl, hg⟩)
    go_ret
    exact ⟨k, rfl, by rw [HV.out]; exact decide_eq_true (by omega), xgt HG.out hg⟩
   | false =>
    go_wp2_with (go_at_call 70; refine (hcl _).mono ?_; rintro e w' ⟨rfl, hg⟩)
    exact ⟨⟨k + 1, by omega, by go_num, HN, xgt HG.out hg⟩, by simp [intOf]; omega⟩
  ·have hlti : ¬ (k : Int) < (len : Int) := by omega
   obtain rfl : k = len := by omega
   have HV : Hid (hasR l = false) := by
    have := HS.out
    rw [HI.out.2.2] at this
    exact this
   go_wp2_with fail
   go_ret
   exact ⟨-1, rfl, by rw [HV.out]; rfl, HG.out⟩
theorem pconf_any (a : Option Addr) (len cap : Nat) (l : List EnV) (w : World) (E : Ens w a len l) :
  Calls Tryz.prog 69 #[.slice a len cap, .func (.func 70) #[] #[]] w fun e w' => e = .returned (.bool (hasR l)) ∧ w.grownBy w' none := by
 have h := pidxf_any a len cap l w E
 generalize hasR l = B at *
 clear E
 go_enter Tryz.func69, Tryz.ntmps69
 go_wp2_with (go_at_call 104; refine h.mono ?_; rintro e w' ⟨i, rfl, hi, hg⟩; have HI : Hid _ := hi; clear hi)
 go_ret
 exact ⟨by rw [← HI.out]; rfl, hg⟩
end Go.Proofs.YtlehncfehoelbaaGreatDoor
namespace Go.Proofs.YtlehncfehoelbaaGreatDoor
open Go.RowKit Go.Shelf Go.Sort
set_option maxRecDepth 100000
set_option linter.unusedSimpArgs false
set_option linter.unusedVariables false
theorem porderN_any (a b : Option Addr) (n c m d : Nat) (l r : List ByteArray) (w : World) (R : SRow w a n l) (R2 : SRow w b m r) (hn : n ≤ 1000000) (hm : m ≤ 1000000) :
  Calls Tryz.prog 98 #[.slice a n c, .slice b m d] w fun e w' => e = .returned (.int .i64 (ord (tls l) (tls r))) ∧ ∃ n, w' = w.drewN n := by
 have hcf := pcomparefunc_any a b n c m d l r w R R2 hn hm
 clear R R2
 go_enter Tryz.func98, Tryz.ntmps98
 go_wp2_with (go_at_call 119; refine hcf.mono ?_; rintro e w' ⟨rfl, t, rfl⟩)
 go_ret
 exact ⟨rfl, t, rfl⟩
structure Sl where
 a : Option Addr
 n : Nat
 c : Nat
def Sl.v (s : Sl) : Value := .slice s.a s.n s.c
structure Pth (W : World) (base : Nat) (s : Sl) (p : Tx) : Prop where
 own : W.ownsRow base 9 1 s.v s.n (sv (txs (spl p).1))
theorem Pth.row {W : World} {base : Nat} {s : Sl} {p : Tx} (h : Pth W base s p) : SRow W s.a s.n (txs (spl p).1) := by
 obtain ⟨a, c, e, R, _⟩ := owns_srow h.own
 unfold Sl.v at e
 injection e with e1 e2 e3
 rw [e1]; exact R
theorem Pth.kept {W W' : World} {base : Nat} {s : Sl} {p : Tx} (h : Pth W base s p) (g : W.grownBy W' none) : Pth W' base s p := ⟨owns_kept11 h.own g⟩
theorem Pth.but {W W' : World} {base g T : Nat} {cs : List Value} {s : Sl} {p : Tx} (h : Pth W base s p) (hb : Bx W g T cs) (hT : T ≠ 9) (k : W.grownBy W' (some g)) : Pth W' base s p := ⟨h.own.kept k (.inr (bx_ne hb h.own hT).symm)⟩
def irow (k n : Nat) : List Value := (List.range k).map (fun i : Nat => Value.int .i64 (i : Int)) ++ List.replicate (n - k) (.int .i64 0)
def prow (ps : List Sl) (n : Nat) : List Value := ps.map Sl.v ++ List.replicate (n - ps.length) (.slice none 0 0)
theorem irow_set {k n : Nat} (h : k < n) : (irow k n).set k (.int .i64 (k : Int)) = irow (k + 1) n := by
 unfold irow
 rw [List.set_append_right _ _ (by simp), List.length_map, List.length_range, Nat.sub_self, List.range_succ, List.map_append]
 have e : n - k = (n - (k + 1)) + 1 := by omega
 rw [e, List.replicate_succ, List.set_cons_zero, List.append_assoc]
 rfl
theorem irow_len {k n : Nat} (h : k ≤ n) : (irow k n).length = n := by unfold irow; simp; omega
theorem prow_set {ps : List Sl} {n : Nat} {s : Sl} (h : ps.length < n) : (prow ps n).set ps.length s.v = prow (ps ++ [s]) n := by
 unfold prow
 rw [List.set_append_right _ _ (by simp), List.length_map, Nat.sub_self, List.map_append, List.length_append]
 have e : n - ps.length = (n - (ps.length + 1)) + 1 := by omega
 rw [e, List.replicate_succ, List.set_cons_zero, List.append_assoc]
 rfl
theorem prow_len {ps : List Sl} {n : Nat} (h : ps.length ≤ n) : (prow ps n).length = n := by unfold prow; simp; omega
theorem prow_get {ps : List Sl} {n i : Nat} {s : Sl} (h : ps[i]? = some s) : (prow ps n)[i]? = some s.v := by
 unfold prow
 have hi := (List.getElem?_eq_some_iff.1 h).1
 rw [List.getElem?_append_left (by simpa using hi), List.getElem?_map, h]
 rfl
structure Io (w W : World) (g0 gp gv n : Nat) (l : List EnV) (k : Nat) (ps : List Sl) : Prop where
 gr : w.grownBy W none
 row : Bx W g0 3 (irow k n)
 pv : Bx W gv 150 [.slice (some ⟨gp, 0, none⟩) n n]
 pc : Bx W gp 104 (prow ps n)
 len : ps.length = k
 each : ∀ (i : Nat) (s : Sl) (X : EnV), ps[i]? = some s → l[i]? = some X → Pth W w.heap.size s X.path.toList
 lo : w.heap.size ≤ g0 ∧ w.heap.size ≤ gp ∧ w.heap.size ≤ gv
theorem Io.kept {w W W' : World} {g0 gp gv n k : Nat} {l : List EnV} {ps : List Sl} (h : Io w W g0 gp gv n l k ps) (g : W.grownBy W' none) : Io w W' g0 gp gv n l k ps := ⟨xgt h.gr g, h.row.kept g, h.pv.kept g, h.pc.kept g, h.len, fun i s X h1 h2 => (h.each i s X h1 h2).kept g, h.lo⟩
theorem bx_apart {W : World} {g h T U : Nat} {cs ds : List Value} (h1 : Bx W g T cs) (h2 : Bx W h U ds) (hT : T ≠ U) : some g ≠ some h := by
 intro e
 injection e with e
 subst e
 have := h1.blk
 rw [h2.blk] at this
 injection this with this
 injection this with _ this
 exact hT this.symm

theorem Io.num {w W W' : World} {g0 gp gv n k : Nat} {l : List EnV} {ps : List Sl} (h : Io w W g0 gp gv n l k ps) (hb : Bx W' g0 3 (irow (k + 1) n)) (g : W.grownBy W' (some g0)) : w.grownBy W' none ∧ Bx W' gv 150 [.slice (some ⟨gp, 0, none⟩) n n] ∧ Bx W' gp 104 (prow ps n) ∧ (∀ (i : Nat) (s : Sl) (X : EnV), ps[i]? = some s → l[i]? = some X → Pth W' w.heap.size s X.path.toList) :=
 ⟨grown_new h.gr g h.lo.1, h.pv.but g (bx_apart h.pv h.row (by decide)), h.pc.but g (bx_apart h.pc h.row (by decide)), fun i s X h1 h2 => (h.each i s X h1 h2).but h.row (by decide) g⟩
set_option maxHeartbeats 4000000 in
theorem pinO1_any (w W : World) (g0 gp gv n : Nat) (l : List EnV) (ps : List Sl) (hl : l.length = n) (hps : ps.length = n) (pv : Bx W gv 150 [.slice (some ⟨gp, 0, none⟩) n n]) (pc : Bx W gp 104 (prow ps n)) (each : ∀ (i : Nat) (s : Sl) (X : EnV), ps[i]? = some s → l[i]? = some X → Pth W w.heap.size s X.path.toList)
  (hok : ∀ X ∈ l, (spl X.path.toList).2 = 0) (hn : n ≤ 100000) (i j : Nat) (X Y : EnV) (hX : l[i]? = some X) (hY : l[j]? = some Y) :
  Calls Tryz.prog 97 #[.int .i64 i, .int .i64 j, .pointer (some ⟨gv, 0, none⟩)] W fun e w' => e = .returned (.int .i64 (ord (spl X.path.toList).1 (spl Y.path.toList).1)) ∧ ∃ q, w' = W.drewN q := by
 have hi := (List.getElem?_eq_some_iff.1 hX).1
 have hj := (List.getElem?_eq_some_iff.1 hY).1
 obtain ⟨s, hs⟩ : ∃ s, ps[i]? = some s := ⟨_, List.getElem?_eq_getElem (by omega)⟩
 obtain ⟨t, ht⟩ : ∃ t, ps[j]? = some t := ⟨_, List.getElem?_eq_getElem (by omega)⟩
 have r1 := each i s X hs hX
 have r2 := each j t Y ht hY
 have s1 := (spl_short (hok X (List.mem_of_getElem? hX))).2
 have s2 := (spl_short (hok Y (List.mem_of_getElem? hY))).2
 have n1 : s.n ≤ 128 := by have := r1.row.len_eq; unfold txs at this; rw [List.length_map] at this; omega
 have n2 : t.n ≤ 128 := by have := r2.row.len_eq; unfold txs at this; rw [List.length_map] at this; omega
 have hcall := fun q => porderN_any s.a t.a s.n s.c t.n t.c _ _ (W.drewN q) ((r1.kept (drewG11 (World.grownBy.refl _ _) q)).row) ((r2.kept (drewG11 (World.grownBy.refl _ _) q)).row) (by omega) (by omega)
 rw [tls_txs, tls_txs] at hcall
 have c0 : W.cell? ⟨gv, 0, none⟩ = some (.slice (some ⟨gp, 0, none⟩) n n) := pv.c 0
 have c1 : W.cell? ⟨gp, i, none⟩ = some (.slice s.a s.n s.c) := by rw [pc.c i, prow_get hs]; rfl
 have c2 : W.cell? ⟨gp, j, none⟩ = some (.slice t.a t.n t.c) := by rw [pc.c j, prow_get ht]; rfl
 generalize ord (spl X.path.toList).1 (spl Y.path.toList).1 = r at *
 obtain ⟨sa, sn, sc⟩ := s
 obtain ⟨ta, tn, tc⟩ := t
 simp only at hcall c1 c2
 have hii : (i : Int) < n := by omega
 have hji : (j : Int) < n := by omega
 clear each r1 r2 s1 s2 n1 n2 hs ht pv pc hX hY hok
 go_enter Tryz.func97, Tryz.ntmps97
 go_wp2_with fail
 go_quiet ((go_at_call 98; exact Calls.quiet_of (hcall _)))
 go_wp2_with fail
 go_ret
 exact ⟨rfl, _, rfl⟩
theorem Tryz.infoS : (Tryz.prog.info? 104).map (fun i => (i.zero, i.size, i.bytes)) = some (some (.slice none 0 0), 1, 24) := by kernel_rfl
theorem made_sl (n : Nat) : (madeCells (Value.slice none 0 0).cells (n * 1)).toList = prow [] n := by
 unfold madeCells prow
 simp [Value.cells]
 apply List.ext_getElem?
 intro i
 rw [List.getElem?_map, List.getElem?_replicate]
 by_cases h : i < n
 ·rw [List.getElem?_range h, if_pos h]
  simp [Nat.mod_one]
 ·rw [if_neg h, List.getElem?_eq_none (by simpa using h)]
  rfl
theorem sizestrs (w : World) : (Go.sizeOf 104).run Tryz.prog w = .ok 1 w := by kernel_rfl
theorem step_store1 {P : Program} {ops : Array Oper} {o : Oper} {a : Act} {w : World} {K : Act → World → Prop} {Q : Exit → Act → World → Prop} {E : Prop} (hgd : o.guard = none) (ty : TypeId) (x y : Operand) (ho : o.op = .store ty x y)
  (g i : Nat) (v : Value) (hx : a.eval x = .pointer (some ⟨g, i, none⟩)) (hy : a.eval y = v) {T : TypeId} {old : List Value} (hb : Bx w g T old) (hi : i < old.length) (h1 : plV v = true) (hs : ∀ w, (Go.sizeOf ty).run P w = .ok 1 w)
  (h : ∀ W', Bx W' g T (old.set i v) → w.grownBy W' (some g) → K (a.put o.dst undef) W') : if Region.wanted o (yielded ops a.tmps) = true then Oper.wp P o a w K Q else E := by
 rw [if_pos (by simp [Region.wanted, hgd])]
 have c := hb.c i
 rw [List.getElem?_eq_getElem hi] at c
 have f := hb.f i
 unfold Oper.wp
 simp only [execOp, ho, hx, hy]
 cases v <;> first
  | (simp [plV] at h1; done)
  | (simp [hs, c, f, go_sem, Result.andThen]
     exact h _ (hb.set i _) (grown_set _ _ _ _))
def notA (ps : List Tx) (i j : Nat) : Prop := ¬ ord (spl (ps.getD j [])).1 (spl (ps.getD i [])).1 < 0
theorem swo_ord {n : Nat} (ps : List Tx) : SWO (ltOf fun x y : Fin n => ord (spl (ps.getD x.val [])).1 (spl (ps.getD y.val [])).1) where
 irrefl x := decide_eq_false (by show ¬ ord _ _ < 0; rw [ord_self]; decide)
 trans x y z h1 h2 := by
  unfold ltOf at *
  rw [decide_eq_true_iff] at *
  rw [ord_neg] at *
  exact ord_trans h1 h2
 ntrans x y z h1 h2 := by
  unfold ltOf at *
  rw [decide_eq_false_iff_not] at *
  rw [ord_neg] at *
  intro h3
  rcases ord_val (spl (ps.getD x.val [])).1 (spl (ps.getD y.val [])).1 with e | e | e
  ·exact h1 e
  ·rw [ord_eq e] at h3; exact h2 h3
  ·have e1 : ord (spl (ps.getD y.val [])).1 (spl (ps.getD x.val [])).1 = -1 := by rw [ord_flip, e]
   exact h2 (ord_trans e1 h3)
def InPost (w : World) (l : List EnV) (n : Nat) (e : Ending) (w' : World) : Prop := ∃ g, ∃ o : List Nat, e = .returned (.slice (some ⟨g, 0, none⟩) n n) ∧ w'.ownsRow w.heap.size 3 1 (.slice (some ⟨g, 0, none⟩) n n) n (o.map fun i : Nat => Value.int .i64 (i : Int)) ∧ o.Perm (List.range n) ∧ o.Pairwise (notA (l.map fun X => X.path.toList)) ∧ w.grownBy w' none
set_option maxHeartbeats 8000000 in
theorem pinorder_any (a : Option Addr) (n cap : Nat) (l : List EnV) (w : World) (E : Ens w a n l) (h1 : 1 ≤ n) (hn : n ≤ 100000) (hp : ∀ X ∈ l, X.path.size ≤ 5000) (hok : ∀ X ∈ l, (spl X.path.toList).2 = 0) :
  Calls Tryz.prog 65 #[.slice a n cap] w (InPost w l n) := by
 obtain ⟨ii, hi, hz0, hz1, hz2⟩ := info_parts Tryz.infoI
 obtain ⟨is, ji, jz0, jz1, jz2⟩ := info_parts Tryz.infoS
 have hll := E.len_eq
 have HE : Hid _ := xai E (xai hll (xai hp hok))
 clear E hll hp hok
 go_enter Tryz.func65, Tryz.ntmps65
 go_wp2_with (first | (at_make; refine wpList_make_full _ rfl _ _ 83 rfl w.heap.size 3 ii _ 1 Tryz.underlying83 hi hz0 hz1 .i64 .i64 _ _ n rfl rfl rfl rfl (by rw [hz2]; omega) (by unfold maxLen; omega) (Nat.le_refl _) ?_; intro W1 ho1 g1; have HB1 : Hid (Bx W1 w.heap.size 3 (rpt 0 n)) := own_bx (by rw [← made_int]; exact ho1); have HG1 : Hid _ := g1; clear ho1 g1) | (at_make; refine wpList_make_full _ rfl _ _ 150 rfl w.heap.size 104 is _ 1 Tryz.underlying150 ji jz0 jz1 .i64 .i64 _ _ n rfl rfl rfl rfl (by rw [jz2]; omega) (by unfold maxLen; omega) HG1.out.size ?_; intro W2 ho2 g2; have HB2 : Hid (Bx W2 W1.heap.size 104 (prow [] n)) := own_bx (by rw [← made_sl]; exact ho2); have HG2 : Hid _ := g2; clear ho2 g2))
 have HI0 : Hid (Io w (W2.alloc (.cells #[.slice (some ⟨W1.heap.size, 0, none⟩) n n] 150)) w.heap.size W1.heap.size W2.heap.size n l 0 []) := by
  have gA := xga W2 (.cells #[.slice (some ⟨W1.heap.size, 0, none⟩) n n] 150) none
  refine ⟨xgt (xgt HG1.out HG2.out) gA, (HB1.out.kept HG2.out).kept gA, Bx.new W2 _ [_], HB2.out.kept gA, rfl, fun i s X h => by simp at h, Nat.le_refl _, HG1.out.size, (xgt HG1.out HG2.out).size⟩
 generalize W2.alloc (.cells #[.slice (some ⟨W1.heap.size, 0, none⟩) n n] 150) = W3 at *
 generalize W2.heap.size = gv at *
 generalize W1.heap.size = gp at *
 have HWS : Hid (w.heap.size = w.heap.size) := rfl
 generalize hg0 : w.heap.size = g0 at *
 have HG0 : Hid _ := hg0
 clear hg0 HB1 HB2 HG1 HG2 HWS hi hz0 hz1 hz2 ji jz0 jz1 jz2
 go_loopw [15] (fun vi wr => ∃ k : Nat, k ≤ n ∧ vi = .int .i64 k ∧ Hid (∃ ps, Io w wr g0 gp gv n l k ps)) (fun vi _ => n - (intOf vi).toNat)
 case atStart => exact ⟨0, Nat.zero_le _, rfl, [], HI0.out⟩
 case round =>
  clear HI0
  obtain ⟨k, hk, rfl, HP⟩ := hrel
  obtain ⟨ps, hI⟩ := HP.out
  by_cases hlt : k < n
  ·obtain ⟨Y, hY⟩ : ∃ Y, l[k]? = some Y := ⟨_, List.getElem?_eq_getElem (by have := HE.out.2.1; omega)⟩
   obtain ⟨b, off, rfl, hat⟩ := (HE.out.1.grown hI.gr).at_ (by omega)
   obtain ⟨y0, y1, y2, y3, y4, y5, y6, y7, y8, y9, y10, yok⟩ := hat k Y hY
   have hpz := HE.out.2.2.1 Y (List.mem_of_getElem? hY)
   have hsp := fun W => psplit_any Y.path W (by omega)
   unfold SpPost at hsp
   have HY : Hid _ := xai hY (HE.out.2.2.2 Y (List.mem_of_getElem? hY))
   clear hat yok hY hpz
   have HII : Hid _ := hI
   have hl0 : k < (irow k n).length := by rw [irow_len hk]; exact hlt
   clear hI HP
   obtain ⟨P, K, mo, uid, gid, ti, sz_, da, dl, dc, data, tg, dev, aa, al, ac, attrs⟩ := Y
   simp only at y0 y1 y2 y3 y4 y5 y6 y7 y8 y9 y10 hsp HY
   have hlti : (k : Int) < (n : Int) := by omega
   have G1 : Hid _ := xga wr (.cells #[.string P, .int .i64 K, .int .i64 mo, .int .i64 uid, .int .i64 gid, .int .i64 ti, .int .i64 sz_, .slice da dl dc, .string tg, .int .i64 dev, .slice aa al ac] 30) none
   have B1 : Hid _ := Bx.new wr 30 [.string P, .int .i64 K, .int .i64 mo, .int .i64 uid, .int .i64 gid, .int .i64 ti, .int .i64 sz_, .slice da dl dc, .string tg, .int .i64 dev, .slice aa al ac]
   go_wp2_with ((with_reducible refine int_here ?_); refine wpList_store1 rfl 3 _ _ rfl g0 k (.int .i64 k) rfl rfl (HII.out.row.kept G1.out) hl0 rfl size3 ?_; intro W4 hb4 g4)
   have hI4 := (HII.out.kept G1.out).num (by have := hb4.out; rw [irow_set hlt] at this; exact this) g4.out
   have hX4 : Bx W4 wr.heap.size 30 [.string P, .int .i64 K, .int .i64 mo, .int .i64 uid, .int .i64 gid, .int .i64 ti, .int .i64 sz_, .slice da dl dc, .string tg, .int .i64 dev, .slice aa al ac] := B1.out.but g4.out (bx_apart B1.out (HII.out.row.kept G1.out) (by decide))
   have hr4 : Bx W4 g0 3 (irow (k + 1) n) := by have := hb4.out; rw [irow_set hlt] at this; exact this
   have hpl := HII.out.len
   have hlo := HII.out.lo
   clear hb4 g4 G1 B1 HII hl0 y0 y1 y2 y3 y4 y5 y6 y7 y8 y9 y10
   generalize wr.heap.size = gx at *
   refine wp_region_held_drew (S := fun w' => w.grownBy w' none ∧ Bx w' gv 150 [.slice (some ⟨gp, 0, none⟩) n n] ∧ Bx w' gx 30 [.string P, .int .i64 K, .int .i64 mo, .int .i64 uid, .int .i64 gid, .int .i64 ti, .int .i64 sz_, .slice da dl dc, .string tg, .int .i64 dev, .slice aa al ac]) (by kernel_rfl) ⟨xgt hI4.1 (drewG0 W4), hI4.2.1.kept (drewG0 W4), hX4.kept (drewG0 W4)⟩ (fun hH => ?_)
   have hpc := hI4.2.2.1.kept (drewG0 W4)
   have hea := fun i s X h1 h2 => (hI4.2.2.2 i s X h1 h2).kept (drewG0 W4)
   replace hr4 := hr4.kept (drewG0 W4)
   clear hI4 hX4
   generalize W4.drew = WD at *
   refine tk (i := 0) (oi := ⟨some 25, _, _, _, _, _⟩) (v := .slice (some ⟨gp, 0, none⟩) n n) rfl (Or.inl ⟨by rfl, fun w hSw => by have c0 : _ = some _ := hSw.2.1.c 0; go_simp⟩) hH ?_
   simp only [Act.put, pu]
   refine tk (i := 1) (oi := ⟨some 26, _, _, _, _, _⟩) (v := .int .i64 k) rfl (Or.inl ⟨by rfl, fun w hSw => by go_simp⟩) hH ?_
   simp only [Act.put, pu]
   refine tk (i := 2) (oi := ⟨some 27, _, _, _, _, _⟩) (v := .pointer (some ⟨gx, 0, none⟩)) rfl (Or.inl ⟨by rfl, fun w hSw => by go_simp⟩) hH ?_
   simp only [Act.put, pu]
   refine tk (i := 3) (oi := ⟨some 28, _, _, _, _, _⟩) (v := .string P) rfl (Or.inl ⟨by rfl, fun w hSw => by obtain ⟨c0, c1, -⟩ := bx11 hSw.2.2; go_simp⟩) hH ?_
   simp only [Act.put, pu]
   refine wpAnyH_ready (rs := [4]) (by kernel_rfl) (by simp) ?_
   refine AllReadyH.cons rfl (fun K1 hK => ?_) AllReadyH.nil
   go_simp
   go_wp2_with (go_at_call 85; refine (hsp _).mono ?_; rintro e W5 ⟨pa, pn, pcc, rfl, ho5, g5⟩)
   have hP5 : Pth W5 w.heap.size ⟨pa, pn, pcc⟩ P.toList := ⟨owns_low11 ho5 hH.1.size⟩
   replace hH := xai (xgt hH.1 g5) (xai (hH.2.1.kept g5) (hH.2.2.kept g5))
   replace hpc := hpc.kept g5
   replace hea := fun i s X h1 h2 => (hea i s X h1 h2).kept g5
   replace hr4 := hr4.kept g5
   have he0 : (spl P.toList).2 = 0 := HY.out.2
   have HE0 : Hid _ := he0
   generalize (spl P.toList).2 = er at *
   clear g5 ho5 hsp he0
   refine hK.out _ _ hH (fun _ => ?_)
   clear hK K1
   refine tk (i := 5) (oi := ⟨some 24, _, _, _, _, _⟩) (v := .tuple #[.slice pa pn pcc, .int .i64 er]) rfl (Or.inl ⟨by rfl, fun w hSw => by go_simp⟩) hH ?_
   simp only [Act.put, pu]
   refine tk (i := 6) (oi := ⟨some 30, _, _, _, _, _⟩) (v := .slice pa pn pcc) rfl (Or.inl ⟨by rfl, fun w hSw => by go_simp⟩) hH ?_
   simp only [Act.put, pu]
   refine tk (i := 7) (oi := ⟨some 31, _, _, _, _, _⟩) (v := .int .i64 er) rfl (Or.inl ⟨by rfl, fun w hSw => by go_simp⟩) hH ?_
   simp only [Act.put, pu]
   refine tk (i := 8) (oi := ⟨some 32, _, _, _, _, _⟩) (v := .pointer (some ⟨gp, k, none⟩)) rfl (Or.inl ⟨by rfl, fun w hSw => by go_simp⟩) hH ?_
   simp only [Act.put, pu]
   refine wpAnyH_ready (rs := [9]) (by kernel_rfl) (by simp) ?_
   refine AllReadyH.cons rfl (fun K1 hK => ?_) AllReadyH.nil
   refine step_store1 (by rfl) 104 _ _ (by rfl) gp k (.slice pa pn pcc) rfl rfl hpc (by rw [prow_len (by omega)]; exact hlt) rfl sizestrs (fun W6 hb6 g6 => ?_)
   have hb7 : Bx W6 gp 104 (prow (ps ++ [⟨pa, pn, pcc⟩]) n) := by
    have h2 := prow_set (s := ⟨pa, pn, pcc⟩) (ps := ps) (n := n) (by omega)
    rw [hpl] at h2
    rw [← h2]
    exact hb6
   have hgr6 := grown_new hH.1 g6 hlo.2.1
   have HI6 : Hid (Io w W6 g0 gp gv n l (k + 1) (ps ++ [⟨pa, pn, pcc⟩])) := by
    refine ⟨hgr6, hr4.but g6 (bx_apart hr4 hpc (by decide)), hH.2.1.but g6 (bx_apart hH.2.1 hpc (by decide)), hb7, by rw [List.length_append, hpl]; rfl, fun i s X h1 h2 => ?_, hlo⟩
    rcases Nat.lt_or_ge i ps.length with h | h
    ·rw [List.getElem?_append_left h] at h1
     exact (hea i s X h1 h2).but hpc (by decide) g6
    ·have hi : i = ps.length := by
      have := (List.getElem?_eq_some_iff.1 h1).1
      rw [List.length_append] at this
      simp at this
      omega
     subst hi
     rw [List.getElem?_append_right (Nat.le_refl _), Nat.sub_self] at h1
     injection h1 with h1
     rw [hpl, HY.out.1] at h2
     injection h2 with h2
     rw [← h1, ← h2]
     exact hP5.but hpc (by decide) g6
   have hH6 := xai hgr6 (xai (hH.2.1.but g6 (bx_apart hH.2.1 hpc (by decide))) (hH.2.2.but g6 (bx_apart hH.2.2 hpc (by decide))))
   clear hgr6 hb6 hb7 hr4 hpc hea hP5 g6
   refine hK.out _ _ hH6 (fun _ => ?_)
   clear hK K1 hH hH6
   refine wpAnyH_done (by kernel_rfl) ?_ _
   go_wp2_with fail
   exact ⟨⟨k + 1, by omega, by go_num, _, HI6.out⟩, by simp [intOf]; omega⟩
  ·have hlti : ¬ (k : Int) < (n : Int) := by omega
   obtain rfl : k = n := by omega
   have HII : Hid _ := hI
   have hmf : ∀ (fn : Fn) (first cap : Array Value) (w : World), (Instr.makeFunc fn first cap).run Tryz.prog w = .ok (.func fn first cap) w := fun _ _ _ _ => rfl
   clear hI HP
   obtain ⟨m, rfl⟩ : ∃ m, k = m + 1 := ⟨k - 1, by omega⟩
   have hsort : Calls Tryz.prog 96 #[.slice (some ⟨g0, 0, none⟩) (m + 1) (m + 1), .func (.func 97) #[] #[.pointer (some ⟨gv, 0, none⟩)]] wr fun e w' => e = .returned (.tuple #[]) ∧ ∃ o : List Nat, w'.ownsRow w.heap.size 3 1 (.slice (some ⟨g0, 0, none⟩) (m + 1) (m + 1)) (m + 1) (o.map fun i : Nat => Value.int .i64 (i : Int)) ∧ o.Perm (List.range (m + 1)) ∧ o.Pairwise (notA (l.map fun X => X.path.toList)) ∧ w.grownBy w' none := by
    have eg : ∀ args w, (callFunc 97 args).run Tryz.prog w = .ok (.enter 97 args) w := enters_of Tryz.func97 (by kernel_rfl) rfl
    obtain ⟨dA, hdA⟩ : ∃ dA : Array (Fin (m + 1)), dA = Array.ofFn (fun i : Fin (m + 1) => i) := ⟨_, rfl⟩
    have hdz : dA.size = m + 1 := by rw [hdA]; simp
    have hdl : dA.toList.map (fun i : Fin (m + 1) => Value.int .i64 ((i.val : Nat) : Int)) = irow (m + 1) (m + 1) := by
     unfold irow
     rw [Nat.sub_self, List.replicate_zero, List.append_nil, hdA]
     apply List.ext_getElem?
     intro i
     rw [List.getElem?_map, List.getElem?_map, Array.getElem?_toList]
     by_cases h : i < m + 1
     ·rw [List.getElem?_range h]
      simp [h]
     ·rw [List.getElem?_eq_none (by simpa using h), Array.getElem?_eq_none (by simpa using h)]
      rfl
    have hown : wr.ownsRow w.heap.size 3 1 (.slice (some ⟨g0, 0, none⟩) (m + 1) (m + 1)) (m + 1) (dA.toList.map (fun i : Fin (m + 1) => Value.int .i64 ((i.val : Nat) : Int))) := by
     rw [hdl]
     exact bx_own HII.out.row HII.out.lo.1 (irow_len (Nat.le_refl _)) (by unfold maxLen; omega)
    have hH := holds_own hown
    have hlk : ∀ x : Fin (m + 1), ∃ X, l[x.val]? = some X := fun x => ⟨_, List.getElem?_eq_getElem (by rw [HE.out.2.1]; exact x.isLt)⟩
    have hgd : ∀ (x : Fin (m + 1)) (X : EnV), l[x.val]? = some X → (l.map fun X => X.path.toList).getD x.val [] = X.path.toList := fun x X h => by
     rw [List.getD_eq_getElem?_getD, List.getElem?_map, h]; rfl
    have hcmp : CmpLays1 Tryz.prog 97 #[.pointer (some ⟨gv, 0, none⟩)] (fun i : Fin (m + 1) => Value.int .i64 ((i.val : Nat) : Int)) (fun x y => ord (spl ((l.map fun X => X.path.toList).getD x.val [])).1 (spl ((l.map fun X => X.path.toList).getD y.val [])).1) g0 0 dA.size wr := by
     intro q os dk hdk x y
     obtain ⟨X, hX⟩ := hlk x
     obtain ⟨Y, hY⟩ := hlk y
     have hgr : wr.grownBy (sortWorld (fun i : Fin (m + 1) => Value.int .i64 ((i.val : Nat) : Int)) wr g0 0 q dk os) (some g0) := sorted_grown dk
     simp only [hgd x X hX, hgd y Y hY]
     refine (pinO1_any w _ g0 gp gv (m + 1) l ps HE.out.2.1 HII.out.len (HII.out.pv.but hgr (bx_apart HII.out.pv HII.out.row (by decide))) (HII.out.pc.but hgr (bx_apart HII.out.pc HII.out.row (by decide))) (fun i s X h1 h2 => (HII.out.each i s X h1 h2).but HII.out.row (by decide) hgr) HE.out.2.2.2 (by omega) x.val y.val X Y hX hY).mono ?_
     rintro e w' ⟨rfl, q', rfl⟩
     exact ⟨rfl, q', #[], by rw [grow_empty]⟩
    have hcon := Any.slices_SortFunc laysI (fun i : Fin (m + 1) => Value.int .i64 ((i.val : Nat) : Int)) (fun x => rfl) (fun x y => ord (spl ((l.map fun X => X.path.toList).getD x.val [])).1 (spl ((l.map fun X => X.path.toList).getD y.val [])).1) (swo_ord _) 97 #[.pointer (some ⟨gv, 0, none⟩)] g0 0 (m + 1) dA wr eg hcmp hH HII.out.row.lt (by rw [hdz]; omega)
    rw [hdz] at hcon
    change Calls Tryz.prog 96 _ _ _ at hcon
    refine hcon.mono ?_
    rintro e w' ⟨rfl, d', q, os, hp, hst, rfl⟩
    have hp2 : PermIn 0 dA.size dA d' := by rw [hdz]; exact hp
    have hst2 := hst
    have hd : d'.size = dA.size := hp.1
    have hd2 : d'.size = m + 1 := by rw [hd, hdz]
    have hpl : d'.toList.Perm dA.toList := perm_list hp2
    have hgr : wr.grownBy (sortWorld (fun i : Fin (m + 1) => Value.int .i64 ((i.val : Nat) : Int)) wr g0 0 q d' os) (some g0) := sorted_grown d'
    refine ⟨rfl, d'.toList.map Fin.val, ?_, ?_, ?_, grown_new HII.out.gr hgr HII.out.lo.1⟩
    ·rw [List.map_map]
     exact sorted_own hown hd
    ·have h2 := hpl.map Fin.val
     have h3 : dA.toList.map Fin.val = List.range (m + 1) := by
      rw [hdA]
      apply List.ext_getElem?
      intro i
      rw [List.getElem?_map, Array.getElem?_toList]
      by_cases h : i < m + 1
      ·rw [List.getElem?_range h]
       simp [h]
      ·rw [List.getElem?_eq_none (by simpa using h), Array.getElem?_eq_none (by simpa using h)]
       rfl
     rw [h3] at h2
     exact h2
    ·refine List.pairwise_map.2 ((sorted_list hst2 hd2).imp ?_)
     intro x y h
     unfold ltOf at h
     exact of_decide_eq_false h
   go_wp2_with (go_at_call 96; refine hsort.mono ?_; rintro e W9 ⟨rfl, o, h1, h2, h3, h4⟩; have HF : Hid _ := xai h1 (xai h2 (xai h3 h4)); clear h1 h2 h3 h4)
   go_ret
   exact ⟨g0, o, rfl, HF.out.1, HF.out.2.1, HF.out.2.2.1, HF.out.2.2.2⟩
end Go.Proofs.YtlehncfehoelbaaGreatDoor
namespace Go.Proofs.YtlehncfehoelbaaGreatDoor
open Go.RowKit
set_option maxRecDepth 100000
set_option linter.unusedSimpArgs false
set_option linter.unusedVariables false
def lsi (p : Tx) : Int := match lsl p p.length with
 | none => -1
 | some i => i
set_option maxHeartbeats 1000000 in
theorem llast_any (s : ByteArray) (w : World) (hs : s.size ≤ 1000000) : Calls Tryz.prog 126 #[.string s, .int .u8 47] w fun e w' => e = .returned (.int .i64 (lsi s.toList)) ∧ w = w' := by
 go_enter Tryz.func126, Tryz.ntmps126
 go_wp2_with fail
 go_loop [5] (fun i => ∃ k : Nat, k ≤ s.size ∧ i = .int .i64 ((k : Int) - 1) ∧ Hid (lsl s.toList s.size = lsl s.toList k)) (fun i => (intOf i + 1).toNat)
 case atStart => exact ⟨s.size, Nat.le_refl _, by go_num, rfl⟩
 case round =>
  obtain ⟨k, hk, rfl, HB⟩ := hrel
  cases k with
  | zero =>
   have HV : Hid (lsi s.toList = -1) := by
    show lsi s.toList = -1
    unfold lsi
    rw [tl_len, HB.out]
    rfl
   go_wp2
   go_ret
   exact ⟨by rw [HV.out]; rfl, rfl⟩
  | succ k =>
   have hlt : k < s.size := by omega
   have hki : ((k + 1 : Nat) : Int) - 1 = k := by omega
   rw [hki]
   clear hki
   cases h5 : ((s[k].toNat : Int) == 47) with
   | true =>
    have e5 : s[k].toNat = 47 := by have h5' : (s[k].toNat : Int) = 47 := eq_of_beq h5; omega
    have HV : Hid (lsi s.toList = k) := by
     show lsi s.toList = k
     unfold lsi
     rw [tl_len, HB.out, lsl_hit hlt e5]
    clear e5 HB
    go_wp2
    go_ret
    exact ⟨by rw [HV.out]; rfl, rfl⟩
   | false =>
    have e5 : s[k].toNat ≠ 47 := by intro e; rw [e] at h5; simp at h5
    have HV : Hid (lsl s.toList s.size = lsl s.toList k) := by
     show lsl s.toList s.size = lsl s.toList k
     rw [HB.out, lsl_miss hlt e5]
    clear e5 HB
    go_wp2
    go_round
    case rel => exact ⟨k, by omega, by go_num, HV⟩
    case measure => first | (simp [intOf]; done) | (simp [intOf]; omega)
theorem slast_any (s : ByteArray) (w : World) (hs : s.size ≤ 1000000) : Calls Tryz.prog 103 #[.string s, .int .u8 47] w fun e w' => e = .returned (.int .i64 (lsi s.toList)) ∧ w = w' := by
 have h := llast_any s w hs
 go_enter Tryz.func103, Tryz.ntmps103
 go_wp2_with (go_at_call 126; refine h.mono ?_; rintro e w' ⟨rfl, rfl⟩)
 go_ret
 exact ⟨rfl, rfl⟩
set_option maxHeartbeats 1000000 in
theorem pcut_any (s : ByteArray) (w : World) (hs : s.size ≤ 1000000) : Calls Tryz.prog 67 #[.string s] w fun e w' => e = .returned (.tuple #[.string (tx (upT s.toList)), .string (tx (lastT s.toList))]) ∧ ∃ n, w' = w.drewN n := by
 have h := slast_any s w hs
 cases hl : lsl s.toList s.toList.length with
 | none =>
  have HU : Hid (tx (upT s.toList) = s.extract 0 0 ∧ tx (lastT s.toList) = s) := by
   show _ ∧ _
   unfold upT lastT
   rw [hl, extract_tx]
   exact ⟨rfl, tl_tx s⟩
  have hi : lsi s.toList = -1 := by unfold lsi; rw [hl]
  rw [hi] at h
  clear hl hi
  go_enter Tryz.func67, Tryz.ntmps67
  go_wp2_with (go_at_call 103; refine h.mono ?_; rintro e w' ⟨rfl, rfl⟩)
  go_quiet (fail)
  go_wp2_with fail
  go_ret2
  exact ⟨by rw [HU.out.1, HU.out.2]; rfl, _, rfl⟩
 | some i =>
  have hlt := lsl_lt hl
  rw [tl_len] at hlt
  have HU : Hid (tx (upT s.toList) = s.extract 0 i ∧ tx (lastT s.toList) = s.extract (i + 1) s.size) := by
   show _ ∧ _
   unfold upT lastT
   rw [hl, extract_tx, extract_tx]
   refine ⟨rfl, ?_⟩
   rw [List.take_of_length_le (by rw [List.length_drop, tl_len]; omega)]
  have hi : lsi s.toList = i := by unfold lsi; rw [hl]
  rw [hi] at h
  clear hl hi
  go_enter Tryz.func67, Tryz.ntmps67
  go_wp2_with (go_at_call 103; refine h.mono ?_; rintro e w' ⟨rfl, rfl⟩)
  go_quiet (fail)
  go_wp2_with fail
  go_ret2
  exact ⟨by rw [HU.out.1, HU.out.2]; rfl, _, rfl⟩
theorem pupto_any (n m : Int) (w : World) : Calls Tryz.prog 113 #[.int .i64 n, .int .i64 m] w fun e w' => e = .returned (.bool (inI n 0 m)) ∧ w = w' := by
 unfold inI
 by_cases h : 0 ≤ n
 ·by_cases k : n ≤ m
  ·rw [decide_eq_true h, decide_eq_true k]
   go_enter Tryz.func113, Tryz.ntmps113
   go_wp2_with fail
   go_ret
   exact ⟨rfl, rfl⟩
  ·rw [decide_eq_true h, decide_eq_false k]
   go_enter Tryz.func113, Tryz.ntmps113
   go_wp2_with fail
   go_ret
   exact ⟨rfl, rfl⟩
 ·rw [decide_eq_false h, Bool.false_and]
  go_enter Tryz.func113, Tryz.ntmps113
  go_wp2_with fail
  go_ret
  exact ⟨rfl, rfl⟩
set_option maxHeartbeats 1000000 in
theorem pistext_any (s : ByteArray) (m : Int) (w : World) (hs : s.size ≤ 9223372036854775807) : Calls Tryz.prog 114 #[.string s, .int .i64 m] w fun e w' => e = .returned (.bool (txt s.toList 1 m)) ∧ w = w' := by
 have h := sindex_any s 0 w
 rw [← ByteArray.toList_eq] at h
 have hh := index_has s.toList 0
 have HE : Hid (txt s.toList 1 m = ((!(s.toList == [])) && (decide ((s.size : Int) ≤ m) && decide (Lib.indexByte s.toList 0 < 0)))) := by
  show _ = _
  unfold txt inI
  rw [← hh, tl_len]
  have e1 : decide (1 ≤ (s.size : Int)) = !(s.toList == []) := by
   rw [← tl_len]
   cases s.toList <;> simp <;> omega
  have e2 : (!decide (0 ≤ Lib.indexByte s.toList 0)) = decide (Lib.indexByte s.toList 0 < 0) := by
   by_cases c : 0 ≤ Lib.indexByte s.toList 0
   ·rw [decide_eq_true c, decide_eq_false (by omega)]; rfl
   ·rw [decide_eq_false c, decide_eq_true (by omega)]; rfl
  rw [e1, e2, Bool.and_assoc]
 have e0 : (0 : Int).toNat.toUInt8 = 0 := rfl
 rw [e0] at h
 generalize Lib.indexByte s.toList 0 = I at *
 clear hh e0
 generalize txt s.toList 1 m = T at *
 cases h1 : (s.toList == []) with
 | true =>
  rw [h1] at HE
  go_enter Tryz.func114, Tryz.ntmps114
  go_wp2_with fail
  go_ret
  exact ⟨by rw [HE.out]; rfl, rfl⟩
 | false =>
  rw [h1] at HE
  by_cases h2 : (s.size : Int) ≤ m
  ·rw [decide_eq_true h2] at HE
   go_enter Tryz.func114, Tryz.ntmps114
   go_wp2_with (go_at_call 127; refine h.mono ?_; rintro e w' ⟨rfl, rfl⟩)
   go_ret
   exact ⟨by rw [HE.out]; rfl, rfl⟩
  ·rw [decide_eq_false h2] at HE
   go_enter Tryz.func114, Tryz.ntmps114
   go_wp2_with fail
   go_ret
   exact ⟨by rw [HE.out]; rfl, rfl⟩
end Go.Proofs.YtlehncfehoelbaaGreatDoor
namespace Go.Proofs.YtlehncfehoelbaaGreatDoor
open Go.RowKit
set_option maxRecDepth 100000
theorem twice_snoc (l : List Atr) (i : Nat) : twice l (i + 1) = (twice l i || (List.range i).any fun k => (l[k]?.map (·.n)) == (l[i]?.map (·.n))) := by
 unfold twice
 rw [List.range_succ, List.any_append]
 simp
theorem range_any_take (l : List Atr) (i : Nat) (s : Tx) (hi : i ≤ l.length) : ((List.range i).any fun k => (l[k]?.map (·.n)) == some s) = (l.take i).any fun a => decide (a.n = s) := by
 induction i with
 | zero => rfl
 | succ i ih =>
  rw [List.range_succ, List.any_append, ih (by omega), List.take_succ_eq_append_getElem (by omega), List.any_append]
  simp [List.getElem?_eq_getElem (show i < l.length by omega)]
  congr 1
  by_cases h : l[i].n = s <;> simp [h]
theorem twice_step (l : List Atr) (i : Nat) (x : Atr) (h : l[i]? = some x) : twice l (i + 1) = (twice l i || (l.take i).any fun a => decide (a.n = x.n)) := by
 rw [twice_snoc, h]
 have hi : i < l.length := by
  rcases Nat.lt_or_ge i l.length with k | k
  ·exact k
  ·rw [List.getElem?_eq_none k] at h; cases h
 rw [← range_any_take l i x.n (by omega)]
 rfl
end Go.Proofs.YtlehncfehoelbaaGreatDoor
namespace Go.Proofs.YtlehncfehoelbaaGreatDoor
open Go.RowKit
set_option maxRecDepth 100000
set_option linter.unusedSimpArgs false
set_option linter.unusedVariables false
def prt11 (p : Tx) : Int × Bool := if (spl p).2 ≠ 0 then (0, false) else if (spl p).1.any (fun q => !vld q) then (0, false) else (((spl p).1.length : Int), decide ((jnp (spl p).1).2 = 0) && ((jnp (spl p).1).1 == p))
def atFit (x : Atr) : Bool := txt x.n 1 255 && !decide (4096 < x.v.length)
def fldF (x : En) : Bool := inI x.mode 0 4095 && (inI x.uid 0 4294967295 && (inI x.gid 0 4294967295 && (inI x.time 0 4294967295 && (if x.k = 1 then inI x.size x.data.length 1099511627775 else if x.k = 3 then txt x.target 1 4096 else if x.k = 4 ∨ x.k = 5 then inI x.dev 0 4294967295 else true))))
def flt11 (l : List En) (i : Nat) (x : En) : Int :=
 if x.k < 1 ∨ 6 < x.k then 8 else if (prt11 x.path).2 = false ∨ (x.path = [] ∧ x.k ≠ 2) then 6 else if 64 < (prt11 x.path).1 then 3 else if plF l x.path ≠ i then 110 else
 if 1 < (prt11 x.path).1 ∧ folder l (upT x.path) = false then 4 else if x.k = 6 then (if thing l x.target then 0 else 4) else
 if fldF x = false ∨ (!decide (64 < x.attrs.length) && x.attrs.all atFit) = false then 1 else if twice x.attrs x.attrs.length then 110 else 0
theorem plF_at {l : List En} {i : Nat} {x : En} (h : l[i]? = some x) : plF l x.path = i ↔ ¬ (l.take i).any (fun y => decide (y.path = x.path)) = true := by
 unfold plF
 cases e : fstI l x.path with
 | none => exact absurd rfl (fstI_none e x (List.mem_of_getElem? h))
 | some j =>
  obtain ⟨z, h1, h2, h3⟩ := fstI_some e
  show ((j : Nat) : Int) = i ↔ _
  constructor
  ·intro hj
   have hji : j = i := by omega
   subst hji
   intro ha
   obtain ⟨y, hy, hp⟩ := List.any_eq_true.1 ha
   obtain ⟨m, hm, hm2⟩ := take_mem.1 hy
   exact h3 m y hm hm2 (of_decide_eq_true hp)
  ·intro ha
   rcases Nat.lt_trichotomy j i with c | c | c
   ·exact absurd (List.any_eq_true.2 ⟨z, take_mem.2 ⟨j, c, h1⟩, decide_eq_true h2⟩) ha
   ·rw [c]
   ·exact absurd rfl (h3 i x c h)
theorem prt_a {p : Tx} (h : (spl p).2 ≠ 0) : prt11 p = (0, false) := by unfold prt11; rw [if_pos h]
theorem prt_b {p : Tx} (h : (spl p).2 = 0) (h2 : (spl p).1.any (fun q => !vld q) = true) : prt11 p = (0, false) := by unfold prt11; rw [if_neg (fun k => k h), if_pos h2]
theorem prt_c {p : Tx} (h : (spl p).2 = 0) (h2 : (spl p).1.any (fun q => !vld q) = false) : prt11 p = (((spl p).1.length : Int), decide ((jnp (spl p).1).2 = 0) && ((jnp (spl p).1).1 == p)) := by
 unfold prt11; rw [if_neg (fun k => k h), if_neg (by rw [h2]; exact Bool.false_ne_true)]
theorem prt_nil : prt11 [] = (0, true) := rfl
theorem prt_pth (x : En) (hk : 1 ≤ x.k ∧ x.k ≤ 6) : pth x = if (prt11 x.path).2 = false ∨ (x.path = [] ∧ x.k ≠ 2) then 6 else if 64 < (prt11 x.path).1 then 3 else 0 := by
 unfold pth
 by_cases h0 : x.path = []
 ·rw [if_pos h0, h0, prt_nil]
  by_cases h2 : x.k = 2
  ·simp [h2]
  ·rw [if_neg h2, if_pos (Or.inr ⟨rfl, h2⟩)]
 ·rw [if_neg h0]
  by_cases h1 : (spl x.path).2 = 0
  ·rw [if_neg (fun k => k h1)]
   cases h2 : (spl x.path).1.any (fun p => !vld p) with
   | true => rw [prt_b h1 h2, if_pos rfl, if_pos (Or.inl rfl)]
   | false =>
    rw [prt_c h1 h2, if_neg Bool.false_ne_true]
    by_cases h3 : (jnp (spl x.path).1).2 = 0
    ·by_cases h4 : (jnp (spl x.path).1).1 = x.path
     ·have hb : (decide ((jnp (spl x.path).1).2 = 0) && ((jnp (spl x.path).1).1 == x.path)) = true := by simp [h3, h4]
      have hc : ¬ ((jnp (spl x.path).1).2 ≠ 0 ∨ (jnp (spl x.path).1).1 ≠ x.path) := by rintro (k | k); exact k h3; exact k h4
      rw [hb, if_neg hc]
      have hd : ¬ (((((spl x.path).1.length : Int), true) : Int × Bool).2 = false ∨ (x.path = [] ∧ x.k ≠ 2)) := by rintro (k | k); cases k; exact h0 k.1
      by_cases h5 : 64 < (spl x.path).1.length
      ·have h6 : (64 : Int) < ((((spl x.path).1.length : Int), true) : Int × Bool).1 := by show (64 : Int) < ((spl x.path).1.length : Int); omega
       rw [if_pos h5]
       exact ((if_neg hd).trans (if_pos h6)).symm
      ·have h6 : ¬ (64 : Int) < ((((spl x.path).1.length : Int), true) : Int × Bool).1 := by show ¬ (64 : Int) < ((spl x.path).1.length : Int); omega
       rw [if_neg h5]
       exact ((if_neg hd).trans (if_neg h6)).symm
     ·rw [if_pos (Or.inr h4), if_pos (Or.inl (by simp [h4]))]
    ·rw [if_pos (Or.inl h3), if_pos (Or.inl (by simp [h3]))]
  ·rw [if_pos h1, prt_a h1, if_pos (Or.inl rfl)]
theorem depth_up {x : En} (h : pth x = 0) : 1 < (prt11 x.path).1 ↔ upT x.path ≠ [] := by
 by_cases hn : x.path = []
 ·rw [hn]
  have e1 : (prt11 []).1 = 0 := rfl
  rw [e1]
  constructor
  ·intro h; omega
  ·intro h; exact absurd rfl h
 ·have hp : (prt11 x.path).1 = ((spl x.path).1.length : Int) := by
   unfold pth at h
   rw [if_neg hn] at h
   by_cases h1 : (spl x.path).2 = 0
   ·rw [if_neg (fun k => k h1)] at h
    cases h2 : (spl x.path).1.any (fun p => !vld p) with
    | true => rw [h2, if_pos rfl] at h; cases h
    | false => rw [prt_c h1 h2]
   ·rw [if_pos h1] at h; cases h
  rw [hp]
  rcases up_parts h hn with ⟨h1, h2⟩ | ⟨h1, h2⟩
  ·rw [h1, h2]; simp
  ·have h3 : upT x.path ≠ [] := fun e => h2 (by rw [e]; rfl)
   have h4 : 1 < (spl x.path).1.length := by
    rw [← h1, List.length_append]
    have := List.length_pos_iff.2 h2
    simp only [List.length_cons, List.length_nil]
    omega
   exact ⟨fun _ => h3, fun _ => by omega⟩
theorem fld_bool (M U G T A B C D L F : Bool) (tw : Int) (h : (A || B || C) = !D) : (if (!M || !U || !G || !T) = true then (1 : Int) else if (A || B || C || L) = true then 1 else if (!F) = true then 1 else tw) = if (M && (U && (G && (T && D)))) = false ∨ (!L && F) = false then 1 else tw := by
 rw [h]
 cases M <;> cases U <;> cases G <;> cases T <;> cases D <;> cases L <;> cases F <;> rfl
theorem fld_eq {x : En} (h1 : 1 ≤ x.k) (h5 : x.k ≤ 5) : fld x = if fldF x = false ∨ (!decide (64 < x.attrs.length) && x.attrs.all atFit) = false then 1 else if twice x.attrs x.attrs.length then 110 else 0 := by
 have ea : x.attrs.any (fun a => !txt a.n 1 255 || decide (4096 < a.v.length)) = !x.attrs.all atFit := by
  rw [List.not_all_eq_any_not]
  congr 1
  funext a
  unfold atFit
  simp
 have hk : x.k = 1 ∨ x.k = 2 ∨ x.k = 3 ∨ x.k = 4 ∨ x.k = 5 := by omega
 unfold fld fldF
 rw [ea]
 refine fld_bool _ _ _ _ _ _ _ _ _ _ _ ?_
 rcases hk with e | e | e | e | e <;> rw [e] <;> simp
theorem flt_ent {l : List En} {i : Nat} {x : En} (h : l[i]? = some x) : flt11 l i x = ent11 l i x := by
 unfold flt11 ent11
 by_cases hk : 1 ≤ x.k ∧ x.k ≤ 6
 ·rw [if_neg (by omega)]
  have hki : (!inI x.k 1 6) = false := by unfold inI; simp [hk.1, hk.2]
  rw [hki, if_neg Bool.false_ne_true]
  have hp := prt_pth x hk
  by_cases c1 : (prt11 x.path).2 = false ∨ (x.path = [] ∧ x.k ≠ 2)
  ·rw [if_pos c1] at hp ⊢
   rw [hp, if_pos (by omega)]
  ·rw [if_neg c1] at hp ⊢
   by_cases c2 : 64 < (prt11 x.path).1
   ·rw [if_pos c2] at hp ⊢
    rw [hp, if_pos (by omega)]
   ·rw [if_neg c2] at hp ⊢
    have hp0 : ¬ pth x ≠ 0 := fun k => k hp
    rw [if_neg hp0]
    have hpl := plF_at h
    by_cases c3 : plF l x.path = i
    ·rw [if_neg (by simp [c3]), if_neg (hpl.1 c3)]
     have hd := depth_up hp
     by_cases c4 : 1 < (prt11 x.path).1 ∧ folder l (upT x.path) = false
     ·rw [if_pos c4, if_pos]
      have := hd.1 c4.1
      simp [this, c4.2]
     ·rw [if_neg c4]
      have hup : (decide (upT x.path = []) || folder l (upT x.path)) = true := by
       by_cases c5 : upT x.path = []
       ·simp [c5]
       ·have : folder l (upT x.path) = true := by
         cases e : folder l (upT x.path) with
         | true => rfl
         | false => exact absurd ⟨hd.2 c5, e⟩ c4
        simp [this]
      rw [hup]
      by_cases c6 : x.k = 6
      ·rw [if_pos c6, if_pos c6]
       cases ht : thing l x.target <;> simp [c6]
      ·have h8 : (!true || decide (x.k = 6) && !thing l x.target) = false := by simp [c6]
       rw [if_neg c6, if_neg c6, h8, if_neg Bool.false_ne_true, fld_eq hk.1 (by omega)]
    ·rw [if_pos c3, if_pos]
     cases e : (l.take i).any (fun y => decide (y.path = x.path)) with
     | true => rfl
     | false => exact absurd (hpl.2 (by rw [e]; simp)) c3
 ·rw [if_pos (by omega)]
  have hki : (!inI x.k 1 6) = true := by
   unfold inI
   by_cases c : 1 ≤ x.k
   ·have : ¬ x.k ≤ 6 := fun d => hk ⟨c, d⟩
    simp [this]
   ·simp [c]
  rw [hki, if_pos rfl]
end Go.Proofs.YtlehncfehoelbaaGreatDoor
namespace Go.Proofs.YtlehncfehoelbaaGreatDoor
open Go.RowKit
set_option maxRecDepth 100000
open Go.Maps (Keyed)
set_option linter.unusedSimpArgs false
set_option linter.unusedVariables false
def SetK (w : World) (B k : Nat) (l : List Atr) : Prop := ∃ D, w.ownsMap Tryz.prog 9 hvR B k D ∧ (∀ s : Tx, Maps.has D (.string s) = (l.take k).any fun a => decide (a.n = s)) ∧ twice l k = decide (Maps.size D < k)
theorem SetK.made (w : World) (l : List Atr) : SetK (w.alloc (.map #[] 0)) w.heap.size 0 l := ⟨_, World.ownsMap_made w Tryz.prog 9 hvR, fun s => by simp [Maps.has], rfl⟩
theorem SetK.kept {w w' : World} {B k : Nat} {l : List Atr} {row : Option Nat} (h : SetK w B k l) (g : w.grownBy w' row) (hne : some B ≠ row) : SetK w' B k l := by
 obtain ⟨D, o, r⟩ := h
 exact ⟨D, o.kept g hne, r⟩
theorem SetK.lt {w : World} {B k : Nat} {l : List Atr} (h : SetK w B k l) : B < w.heap.size := by
 obtain ⟨D, o, r⟩ := h
 exact o.lt
theorem SetK.store {w : World} {t e : TypeId} {B k : Nat} {l : List Atr} (h : SetK w B k l) (ht : Tryz.prog.underlying t = some (.map 9 e)) (hn : k < maxLen) {s : ByteArray} {val : Value} {x : Atr} (hx : l[k]? = some x) (hs : x.n = s.toList) (hsz : s.size ≤ 9223372036854775807) :
  ∃ w', (Instr.mapUpdate t (.map (some B)) (.string s) val).run Tryz.prog w = .ok () w' ∧ SetK w' B (k + 1) l ∧ w.grownBy w' (some B) := by
 obtain ⟨D, o, r, tw⟩ := h
 obtain ⟨w', hrun, o', g⟩ := o.update key9 ht hn (d := .held val) (ps := []) (keyp hsz) rfl
 have hk : WideAt.IsKeyLit (Lit.string s.toList) := by simp [WideAt.IsKeyLit]
 have hlt : k < l.length := by
  rcases Nat.lt_or_ge k l.length with h1 | h1
  ·exact h1
  ·rw [List.getElem?_eq_none h1] at hx; cases hx
 have hxe : l[k] = x := by rw [List.getElem?_eq_getElem hlt] at hx; injection hx
 refine ⟨w', hrun, ⟨_, o', fun y => ?_, ?_⟩, g⟩
 ·rw [List.take_succ_eq_append_getElem hlt, List.any_append, hxe, ← r y]
  by_cases hy : y = s.toList
  ·subst hy
   rw [Maps.has_put_same o.isMap hk]
   simp [hs]
  ·rw [Maps.has_put_other (by intro e; injection e with e; exact hy e)]
   have : ¬ x.n = y := by rw [hs]; exact fun e => hy e.symm
   simp [this]
 ·rw [twice_step l k x hx, hs, ← r, tw, Maps.size_put (o.tidy key9)]
  have hle := o.size_le
  cases hh : Maps.has D (.string s.toList) with
  | true => simp; omega
  | false => simp
theorem wpList_storeS {P : Program} (hP : P = Tryz.prog) (w : World) {ops : Array Oper} {rest : List Oper} {o : Oper} {a : Act} {Q : Exit → Act → World → Prop}
  (hg : o.guard = none) (m x v : Operand) (t : TypeId) (hop : o.op = Op.mapUpdate t m x v) (e : TypeId) (ht : Tryz.prog.underlying t = some (.map 9 e)) (B k : Nat) (l : List Atr)
  (hm : a.eval m = .map (some B)) (h : SetK w B k l) (hn : k < maxLen) (s : ByteArray) (X : Atr) (hx : a.eval x = .string s) (hX : l[k]? = some X) (hs : X.n = s.toList) (hsz : s.size ≤ 9223372036854775807)
  (hK : ∀ w', Hid (SetK w' B (k + 1) l) → Hid (w.grownBy w' (some B)) → wpList P ops Q rest (a.put o.dst undef) w') : wpList P ops Q (o :: rest) a w := by
 subst hP
 refine wpList_plain hg fun K' hK' => ?_
 obtain ⟨w', hrun, r1, r2⟩ := h.store (val := a.eval v) ht hn hX hs hsz
 unfold Oper.wp
 simp [execOp, hop, hm, hx, hrun, Result.andThen]
 exact hK' _ _ (hK w' r1 r2)
set_option maxHeartbeats 2000000 in
theorem pattrtwice_any (a : Option Addr) (n c : Nat) (l : List AtV) (w : World) (R : Ats w a n l) (hn : n ≤ 100000) (hz : ∀ A ∈ l, A.n.size ≤ 9223372036854775807) :
  Calls Tryz.prog 94 #[.slice a n c] w fun e w' => e = .returned (.bool (twice (l.map AtV.at) n)) ∧ w.grownBy w' none := by
 have HI : Hid _ := xai R hz
 clear R hz
 have hmm := run_makeMapN Tryz.underlying174 n w
 have H0 : Hid _ := SetK.made w (l.map AtV.at)
 have G0 : Hid _ := xga w (.map #[] 0) none
 go_enter Tryz.func94, Tryz.ntmps94
 go_wp2_with fail
 clear hmm
 generalize hB : w.heap.size = B at *
 have HB : Hid _ := hB
 clear hB
 go_loopw [11] (fun vi wr => ∃ (k : Nat), k ≤ n ∧ vi = .int .i64 k ∧ Hid (SetK wr B k (l.map AtV.at)) ∧ Hid (w.grownBy wr none)) (fun vi _ => n - (intOf vi).toNat)
 case atStart => exact ⟨0, Nat.zero_le _, rfl, H0, G0.out⟩
 case round =>
  clear H0 G0
  obtain ⟨k, hk, rfl, HM, HG⟩ := hrel
  by_cases hlt : k < n
  ·obtain ⟨Y, hY⟩ : ∃ Y, l[k]? = some Y := ⟨_, List.getElem?_eq_getElem (by have := HI.out.1.len_eq; omega)⟩
   obtain ⟨b, off, rfl, hat⟩ := (HI.out.1.grown HG.out).at_ (by omega)
   obtain ⟨y0, y1, yr, yc⟩ := hat k Y hY
   have hps : Y.n.size ≤ 9223372036854775807 := HI.out.2 Y (List.mem_of_getElem? hY)
   have HX : Hid ((l.map AtV.at)[k]? = some Y.at ∧ Y.at.n = Y.n.toList) := by
    show _ ∧ _
    rw [List.getElem?_map, hY]
    exact ⟨rfl, rfl⟩
   clear hat yr yc hY
   obtain ⟨nm, va, vl, vc, vv⟩ := Y
   simp only at y0 y1 hps HX
   have hlti : (k : Int) < (n : Int) := by omega
   go_wp2_with ((at_mapUpdate; refine wpList_storeS rfl _ rfl _ _ _ 174 rfl 175 Tryz.underlying174 B k _ rfl (HM.out.kept (xga _ _ none) (by simp)) (by unfold maxLen; omega) nm _ rfl HX.out.1 HX.out.2 hps ?_; intro W1 HM1 HG1))
   exact ⟨⟨k + 1, by omega, by go_num, HM1, grown_new (xgt HG.out (xga _ _ none)) HG1.out (by rw [HB.out]; exact Nat.le_refl _)⟩, by simp [intOf]; omega⟩
  ·have hlti : ¬ (k : Int) < (n : Int) := by omega
   obtain rfl : k = n := by omega
   obtain ⟨D, ho, hr, ht⟩ := HM.out
   have HT : Hid _ := ht
   clear hr ht HM
   have hl := fun ty => ho.len Tryz.underlying174 ty
   clear ho
   go_wp2_with fail
   go_ret
   exact ⟨by rw [HT.out]; simp, HG.out⟩
set_option maxHeartbeats 2000000 in
theorem pattrsfit_any (a : Option Addr) (n c : Nat) (l : List AtV) (w : World) (R : Ats w a n l) (hz : ∀ A ∈ l, A.n.size ≤ 9223372036854775807) :
  Calls Tryz.prog 93 #[.slice a n c] w fun e w' => e = .returned (.bool (!decide (64 < n) && (l.map AtV.at).all atFit)) ∧ w.grownBy w' none := by
 have hle : n ≤ 9223372036854775807 := R.le
 by_cases h64 : 64 < n
 ·have h64i : (64 : Int) < n := by omega
  rw [decide_eq_true h64]
  clear R
  go_enter Tryz.func93, Tryz.ntmps93
  go_wp2_with fail
  go_ret
  exact ⟨by simp, World.grownBy.refl _ _⟩
 ·have h64i : ¬ (64 : Int) < n := by omega
  rw [decide_eq_false h64]
  have hta : (l.map AtV.at).take n = l.map AtV.at := List.take_of_length_le (by rw [List.length_map, R.len_eq]; omega)
  have HI : Hid _ := xai R (xai hz hta)
  clear R hz hta
  generalize hA : (!false && (l.map AtV.at).all atFit) = A
  have HA : Hid _ := hA
  clear hA
  go_enter Tryz.func93, Tryz.ntmps93
  go_wp2_with fail
  go_loopw [10] (fun vi wr => ∃ (k : Nat), k ≤ n ∧ vi = .int .i64 k ∧ Hid (((l.map AtV.at).take k).all atFit = true) ∧ Hid (w.grownBy wr none)) (fun vi _ => n - (intOf vi).toNat)
  case atStart => exact ⟨0, Nat.zero_le _, rfl, rfl, World.grownBy.refl _ _⟩
  case round =>
   obtain ⟨k, hk, rfl, HM, HG⟩ := hrel
   by_cases hlt : k < n
   ·obtain ⟨Y, hY⟩ : ∃ Y, l[k]? = some Y := ⟨_, List.getElem?_eq_getElem (by have := HI.out.1.len_eq; omega)⟩
    obtain ⟨b, off, rfl, hat⟩ := (HI.out.1.grown HG.out).at_ (by omega)
    obtain ⟨y0, y1, yr, yc⟩ := hat k Y hY
    have hps : Y.n.size ≤ 9223372036854775807 := HI.out.2.1 Y (List.mem_of_getElem? hY)
    have hvl := yr.le
    have hsn : ((l.map AtV.at).take (k + 1)).all atFit = (txt Y.n.toList 1 255 && !decide (4096 < Y.len)) := by
     have hlt2 : k < (l.map AtV.at).length := by rw [List.length_map, HI.out.1.len_eq]; exact hlt
     rw [List.take_succ_eq_append_getElem hlt2, List.all_append, HM.out]
     have e : (l.map AtV.at)[k] = Y.at := by
      have := List.getElem?_eq_getElem hlt2
      rw [List.getElem?_map, hY] at this
      injection this with this
      exact this.symm
     rw [e]
     simp [atFit, AtV.at, yr.len_eq]
    have hbad : (txt Y.n.toList 1 255 && !decide (4096 < Y.len)) = false → A = false := fun hb => by
     rw [hb] at hsn
     rw [← HA.out]
     show (l.map AtV.at).all atFit = false
     rw [← List.take_append_drop (k + 1) (l.map AtV.at), List.all_append, hsn, Bool.false_and]
    have HS : Hid _ := xai hsn hbad
    clear hat yr yc hY hsn hbad
    have htx := fun W => pistext_any Y.n 255 W
    obtain ⟨nm, va, vl, vc, vv⟩ := Y
    simp only at y0 y1 hps HS htx hvl
    generalize txt nm.toList 1 255 = TT at *
    have hlti : (k : Int) < (n : Int) := by omega
    have hvl2 : vl ≤ 9223372036854775807 := hvl
    clear hvl
    cases TT with
    | false =>
     go_wp2_with (go_at_call 114; refine (htx _ hps).mono ?_; rintro e w' ⟨rfl, rfl⟩)
     go_ret
     exact ⟨by rw [HS.out.2 rfl]; rfl, xgt HG.out (xga _ _ none)⟩
    | true =>
     by_cases hv : 4096 < vl
     ·have hvi : (4096 : Int) < vl := by omega
      have HV : Hid (A = false) := HS.out.2 (by rw [decide_eq_true hv]; rfl)
      clear HS hv
      go_wp2_with (go_at_call 114; refine (htx _ hps).mono ?_; rintro e w' ⟨rfl, rfl⟩)
      go_ret
      exact ⟨by rw [HV.out]; rfl, xgt HG.out (xga _ _ none)⟩
     ·have hvi : ¬ (4096 : Int) < vl := by omega
      have HV : Hid (((l.map AtV.at).take (k + 1)).all atFit = true) := by
       show _ = _
       rw [HS.out.1, decide_eq_false hv]; rfl
      clear HS hv
      go_wp2_with (go_at_call 114; refine (htx _ hps).mono ?_; rintro e w' ⟨rfl, rfl⟩)
      exact ⟨⟨k + 1, by omega, by go_num, HV, xgt HG.out (xga _ _ none)⟩, by simp [intOf]; omega⟩
   ·have hlti : ¬ (k : Int) < (n : Int) := by omega
    obtain rfl : k = n := by omega
    have HV : Hid (A = true) := by
     show A = true
     rw [← HA.out]
     have := HM.out
     rw [HI.out.2.2] at this
     rw [this]; rfl
    go_wp2_with fail
    go_ret
    exact ⟨by rw [HV.out]; rfl, HG.out⟩
end Go.Proofs.YtlehncfehoelbaaGreatDoor
