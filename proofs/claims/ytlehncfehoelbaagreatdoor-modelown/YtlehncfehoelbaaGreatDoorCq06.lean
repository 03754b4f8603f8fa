/- The document's Order. -/
import Derived.Deep.OwnRows
import Derived.Laws.MakeOwn
import Derived.Laws.AppendOwn
import Derived.Deep.QuietTactic
import Derived.BigQuiet
import Derived.Test.YtlehncfehoelbaaGreatDoorCq04
import Derived.Test.YtlehncfehoelbaaGreatDoorCq05
namespace Go.Proofs.YtlehncfehoelbaaGreatDoor
open Go.RowKit
set_option maxRecDepth 100000
set_option linter.unusedSimpArgs false
set_option linter.unusedVariables false
structure Bx (W : World) (g : Nat) (T : TypeId) (cs : List Value) : Prop where
 blk : W.heap[g]? = some (.cells cs.toArray T (0, 0))
theorem Bx.lt {W : World} {g : Nat} {T : TypeId} {cs : List Value} (h : Bx W g T cs) : g < W.heap.size := (Array.getElem?_eq_some_iff.1 h.blk).1
theorem Bx.c {W : World} {g : Nat} {T : TypeId} {cs : List Value} (h : Bx W g T cs) (i : Nat) : W.cell? ⟨g, i, none⟩ = cs[i]? := by simp [World.cell?, h.blk]
theorem Bx.f {W : World} {g : Nat} {T : TypeId} {cs : List Value} (h : Bx W g T cs) (i : Nat) : W.frozen? ⟨g, i, none⟩ = false := by simp [World.frozen?, h.blk]
theorem Bx.kept {W W' : World} {g : Nat} {T : TypeId} {cs : List Value} (h : Bx W g T cs) (hg : W.grownBy W' none) : Bx W' g T cs := ⟨by rw [hg.block g h.lt (by simp)]; exact h.blk⟩
theorem Bx.but {W W' : World} {g : Nat} {r : Option Nat} {T : TypeId} {cs : List Value} (h : Bx W g T cs) (hg : W.grownBy W' r) (hn : some g ≠ r) : Bx W' g T cs := ⟨by rw [hg.block g h.lt hn]; exact h.blk⟩
theorem Bx.new (w : World) (T : TypeId) (cs : List Value) : Bx (w.alloc (.cells cs.toArray T)) w.heap.size T cs := ⟨heap_alloc_new _ _⟩
theorem Bx.set {W : World} {g : Nat} {T : TypeId} {cs : List Value} (h : Bx W g T cs) (i : Nat) (v : Value) : Bx (W.setCell ⟨g, i, none⟩ v) g T (cs.set i v) := by
 constructor
 rw [setCell_eq_setRow W g i _ _ _ _ h.blk, setRow_heap W g _ _ _ _ h.blk]
 simp
theorem made_list11 (z : Value) (n : Nat) : madeCells #[z] n = (List.replicate n z).toArray := by rw [← toList_madeCells_one]
theorem owns_low11 {w : World} {b b' e s n : Nat} {v : Value} {xs : List Value} (h : w.ownsRow b e s v n xs) (hb : b' ≤ b) : w.ownsRow b' e s v n xs := by
 refine ⟨h.1, ?_⟩
 rcases h.2 with h0 | ⟨g, cap, cur, e1, e2, e3⟩
 ·exact Or.inl h0
 ·exact Or.inr ⟨g, cap, cur, e1, by omega, e3⟩
theorem own_set11 {w : World} {base g' e sz_ n : Nat} {v : Value} {xs : List Value} (h : w.ownsRow base e sz_ v n xs) (hg : g' < base) (i : Nat) (u : Value) : (w.setCell ⟨g', i, none⟩ u).ownsRow base e sz_ v n xs := by
 refine ⟨h.1, ?_⟩
 rcases h.2 with h0 | ⟨g, cap, cur, e1, e2, e3, e4⟩
 ·exact Or.inl h0
 ·exact Or.inr ⟨g, cap, cur, e1, e2, by rw [Below.heap_setCell _ _ _ _ (show g ≠ g' by omega)]; exact e3, e4⟩
theorem news_set (wr : World) (gd b : Nat) (x : Value) (t : TypeId) (v : Value) : ∀ j u, [v][j]? = some u → ((wr.setCell ⟨gd, b, none⟩ x).alloc (.cells #[v] t)).cell? ((⟨wr.heap.size, 0, none⟩ : Addr).add j) = some u := by
 intro j u h
 have e : (wr.setCell ⟨gd, b, none⟩ x).heap.size = wr.heap.size := by simp
 have := cell_one_newV (wr.setCell ⟨gd, b, none⟩ x) t v j u h
 rw [e] at this
 exact this
theorem owns_kept11 {w w' : World} {b e s n : Nat} {v : Value} {xs : List Value} (h : w.ownsRow b e s v n xs) (k : w.grownBy w' none) : w'.ownsRow b e s v n xs := h.kept k (by cases v.ownBlock <;> simp)
def bls (len : Nat) (acc : List Nat) : List Value := (List.range len).map fun i => .bool (acc.contains i)
theorem bls_nil (len : Nat) : bls len [] = List.replicate len (.bool false) := by
 unfold bls
 apply List.ext_getElem?
 intro i
 rw [List.getElem?_map, List.getElem?_replicate]
 rcases Nat.lt_or_ge i len with h | h
 ·rw [List.getElem?_range h, if_pos h]; rfl
 ·rw [List.getElem?_eq_none (by simpa using h), if_neg (by omega)]; rfl
theorem bls_at {len : Nat} {acc : List Nat} {i : Nat} (h : i < len) : (bls len acc)[i]? = some (.bool (acc.contains i)) := by
 unfold bls
 rw [List.getElem?_map, List.getElem?_range h]
 rfl
theorem bls_set {len : Nat} {acc : List Nat} {b : Nat} (h : b < len) : (bls len acc).set b (.bool true) = bls len (acc ++ [b]) := by
 apply List.ext_getElem?
 intro i
 have hl : (bls len acc).length = len := by unfold bls; simp
 rcases Nat.lt_or_ge i len with hi | hi
 ·rw [bls_at hi, List.getElem?_set]
  by_cases e : b = i
  ·subst e
   rw [if_pos rfl, if_pos (by omega)]
   simp
  ·rw [if_neg e, bls_at hi]
   have : (acc ++ [b]).contains i = acc.contains i := by
    have hne : i ≠ b := fun x => e x.symm
    simp [hne]
   rw [this]
 ·rw [List.getElem?_eq_none (by rw [List.length_set]; omega), List.getElem?_eq_none (by unfold bls; simp; exact hi)]
theorem nxt_in {l : List Tx} {done : List Nat} {k b : Nat} (h : nxt l done k = some b) : b < k ∧ b ∉ done ∧ l.getD b [] ≠ [] := by
 induction k generalizing b with
 | zero => simp [nxt] at h
 | succ k ih =>
  unfold nxt at h
  split at h
  ·obtain ⟨h1, h2, h3⟩ := ih h
   exact ⟨by omega, h2, h3⟩
  ·rename_i hc
   have hkd : k ∉ done := fun x => hc (Or.inl (by simpa using x))
   have hkn : l.getD k [] ≠ [] := fun x => hc (Or.inr x)
   cases hm : nxt l done k with
   | none =>
    rw [hm] at h
    injection h with h
    subst h
    exact ⟨by omega, hkd, hkn⟩
   | some b' =>
    rw [hm] at h
    obtain ⟨h1, h2, h3⟩ := ih hm
    simp only at h
    split at h
    ·injection h with h
     subst h
     exact ⟨by omega, hkd, hkn⟩
    ·injection h with h
     subst h
     exact ⟨by omega, h2, h3⟩
theorem nxt_skip {l : List Tx} {done : List Nat} {k : Nat} (h : done.contains k = true ∨ l.getD k [] = []) : nxt l done (k + 1) = nxt l done k := by
 rw [nxt, if_pos h]
theorem nxt_none' {l : List Tx} {done : List Nat} {k : Nat} (h : ¬ (done.contains k = true ∨ l.getD k [] = [])) (hm : nxt l done k = none) : nxt l done (k + 1) = some k := by
 rw [nxt, if_neg h, hm]
theorem nxt_less {l : List Tx} {done : List Nat} {k b : Nat} (h : ¬ (done.contains k = true ∨ l.getD k [] = [])) (hm : nxt l done k = some b) (hl : ord (spl (l.getD k [])).1 (spl (l.getD b [])).1 < 0) : nxt l done (k + 1) = some k := by
 rw [nxt, if_neg h, hm]
 simp only
 rw [if_pos hl]
theorem nxt_more {l : List Tx} {done : List Nat} {k b : Nat} (h : ¬ (done.contains k = true ∨ l.getD k [] = [])) (hm : nxt l done k = some b) (hl : ¬ ord (spl (l.getD k [])).1 (spl (l.getD b [])).1 < 0) : nxt l done (k + 1) = some b := by
 rw [nxt, if_neg h, hm]
 simp only
 rw [if_neg hl]
def ivN (acc : List Nat) : List Value := acc.map fun (i : Nat) => Value.int .i64 (i : Int)
structure Oo (w wr : World) (gd len : Nat) (ps : List Tx) (acc : List Nat) (v : Value) (f : Nat) : Prop where
 gr : w.grownBy wr none
 dn : Bx wr gd 4 (bls len acc)
 own : wr.ownsRow (gd + 1) 3 1 v acc.length (ivN acc)
 lt : w.heap.size ≤ gd
 eq : ordL ps = ordr ps f acc
 fu : acc.length + f = len + 1
 lf : left ps acc < f
theorem Oo.kept {w W W' : World} {gd len : Nat} {ps : List Tx} {acc : List Nat} {v : Value} {f : Nat} (h : Oo w W gd len ps acc v f) (k : W.grownBy W' none) : Oo w W' gd len ps acc v f := ⟨xgt h.gr k, h.dn.kept k, owns_kept11 h.own k, h.lt, h.eq, h.fu, h.lf⟩
def Bt (W : World) (ps : List Tx) (acc : List Nat) (k : Nat) (v5 v6 : Value) : Prop :=
 (nxt ps acc k = none ∧ v5 = .int .i64 (-1)) ∨ ∃ (b : Nat) (a : Option Addr) (n c : Nat), nxt ps acc k = some b ∧ v5 = .int .i64 b ∧ v6 = .slice a n c ∧ SRow W a n (txs (spl (ps.getD b [])).1) ∧ n ≤ 128
theorem Bt.kept {W W' : World} {ps : List Tx} {acc : List Nat} {k : Nat} {v5 v6 : Value} (h : Bt W ps acc k v5 v6) (g : W.grownBy W' none) : Bt W' ps acc k v5 v6 := by
 rcases h with h | ⟨b, a, n, c, h1, h2, h3, h4, h5⟩
 ·exact Or.inl h
 ·exact Or.inr ⟨b, a, n, c, h1, h2, h3, h4.grown g, h5⟩
theorem spl_szs (L : Tx) : szs (txs (spl L).1) ∧ (spl L).1.length ≤ 128 := by
 by_cases h : (spl L).2 = 0
 ·obtain ⟨h1, h2⟩ := spl_short h
  exact ⟨fun i => Nat.le_trans (txs_size h1 i) (by decide), h2⟩
 ·have : (spl L).1 = [] := by
   unfold spl at h ⊢
   split
   ·rfl
   ·rename_i h1
    rw [if_neg h1] at h
    split
    ·rfl
    ·rename_i h2
     rw [if_neg h2] at h
     split
     ·rfl
     ·rename_i h3
      rw [if_neg h3] at h
      split
      ·rfl
      ·rename_i h4
       rw [if_neg h4] at h
       exact absurd rfl h
  rw [this]
  exact ⟨fun i => by (simp [txs]; exact Nat.zero_le _), by simp⟩
def slLen : Value → Nat
 | .slice _ n _ => n
 | _ => 0
theorem own_len {w : World} {b e n : Nat} {v : Value} {xs : List Value} (h : w.ownsRow b e 1 v n xs) : slLen v = n := by
 rcases h.2 with ⟨rfl, h0⟩ | ⟨g, cap, cur, rfl, _⟩
 ·exact h0.symm
 ·rfl
theorem Tryz.info4 : (Tryz.prog.info? 4).map (fun i => (i.zero, i.size, i.bytes)) = some (some (.bool false), 1, 1) := by kernel_rfl
theorem Tryz.info3 : (Tryz.prog.info? 3).map (fun i => (i.zero, i.size, i.bytes)) = some (some (.int .i64 0), 1, 8) := by kernel_rfl
def IoPost (w : World) (l : List Nat) (e : Ending) (w' : World) : Prop := ∃ v, e = .returned v ∧ w'.ownsRow w.heap.size 3 1 v l.length (ivN l) ∧ w.grownBy w' none
set_option maxHeartbeats 4000000 in
theorem rorder11_any (a : Option Addr) (len cap : Nat) (l : List EnV) (w : World) (E : Ens w a len l) (hs : Sml l) (hlen : len ≤ 100000) :
  Calls Tryz.prog 38 #[.slice a len cap] w (IoPost w (ordL (pths (ens l)))) := by
 have hll := E.len_eq
 have hk1 : ∀ w, (Instr.makeSlice 126 (.int .i64 (len : Int)) (.int .i64 (len : Int))).run Tryz.prog w = .ok (.slice (some ⟨w.heap.size, 0, none⟩) len len) (w.alloc (.cells (madeCells #[.bool false] len) 4)) := run_make_row' _ _ _ _ (by kernel_rfl) Tryz.info4 rfl .i64 .i64 len (by omega) (by omega)
 obtain ⟨i3, hi, hz0, hz1, hz2⟩ := info_parts Tryz.info3
 have hps : (pths (ens l)).length = len := by unfold pths ens; rw [List.length_map, List.length_map]; exact hll
 have hpa : ∀ (k : Nat) (Y : EnV), l[k]? = some Y → (pths (ens l)).getD k [] = Y.path.toList := by
  intro k Y hY
  exact pths_getD (x := Y.en) (by unfold ens; rw [List.getElem?_map, hY]; rfl)
 generalize hpp : pths (ens l) = ps at *
 have HPS : Hid _ := xai hps hpa
 clear hpp hps hpa
 have H0 : Hid (Oo w (w.alloc (.cells (madeCells #[.bool false] len) 4)) w.heap.size len ps [] (.slice none 0 0) (len + 1)) := by
  refine ⟨xga _ _ _, ?_, World.ownsRow_nil _ _ _ _, Nat.le_refl _, ?_, by simp, ?_⟩
  ·rw [made_list11, bls_nil]; exact Bx.new w 4 _
  ·unfold ordL; rw [HPS.out.1]
  ·have := left_le ps []; have := HPS.out.1; omega
 have HE : Hid _ := xai E hs
 clear E hs hll
 unfold IoPost
 go_enter Tryz.func38, Tryz.ntmps38
 go_wp2
 generalize w.alloc (.cells (madeCells #[.bool false] len) 4) = W1 at *
 generalize hg0 : w.heap.size = gd at *
 have HG0 : Hid _ := hg0
 clear hg0 hk1
 go_loopw [3] (fun v3 wr => Hid (∃ acc f, Oo w wr gd len ps acc v3 f)) (fun v3 _ => len + 1 - slLen v3)
 case atStart => exact ⟨[], len + 1, H0.out⟩
 case round =>
  obtain ⟨acc, f, hO⟩ := hrel.out
  clear H0
  obtain ⟨wo, hwo⟩ : ∃ wo, wo = wr := ⟨wr, rfl⟩
  subst hwo
  have HO : Hid _ := hO
  clear hO
  go_wp2
  go_loopw [5, 6, 7] (fun v5 v6 vi wq => ∃ k : Nat, vi = .int .i64 k ∧ k ≤ len ∧ Hid (wo.grownBy wq none ∧ Bt wq ps acc k v5 v6)) (fun _ _ vi _ => len - (intOf vi).toNat)
  case atStart => exact ⟨0, rfl, Nat.zero_le _, World.grownBy.refl _ _, Or.inl ⟨rfl, rfl⟩⟩
  case round =>
   obtain ⟨k, rfl, hk, HB⟩ := hrel
   rcases Nat.lt_or_ge k len with hlt | hge
   ·have hlti : (k : Int) < (len : Int) := by omega
    obtain ⟨Y, hY⟩ : ∃ Y, l[k]? = some Y := ⟨_, List.getElem?_eq_getElem (by have := HE.out.1.len_eq; omega)⟩
    obtain ⟨eb, eo, rfl, hat⟩ := HE.out.1.at_ (by omega)
    have gq := xgt HO.out.gr HB.out.1
    have y0 := cell_grown (hat k Y hY).c0 gq
    have d0 := (HO.out.dn.kept HB.out.1).c k
    rw [bls_at hlt] at d0
    have hpk := HPS.out.2 k Y hY
    have hsz := (HE.out.2 Y (List.mem_of_getElem? hY)).1
    have HGQ : Hid _ := gq
    clear hat gq hY
    generalize Y.path = Q at *
    clear Y
    cases hdn : acc.contains k with
    | true =>
     rw [hdn] at d0
     have HN : Hid (wo.grownBy wr none ∧ Bt wr ps acc (k + 1) u5 u6) := by
      refine ⟨HB.out.1, ?_⟩
      unfold Bt
      rw [nxt_skip (Or.inl hdn)]
      exact HB.out.2
     clear HB hpk hsz
     go_wp2
     go_roundw
     case rel => exact ⟨k + 1, by go_num, by omega, HN⟩
     case measure => simp [intOf]; omega
    | false =>
     rw [hdn] at d0
     cases hq : (Q.toList == []) with
     | true =>
      have hq' := eq_of_beq hq
      have HN : Hid (wo.grownBy wr none ∧ Bt wr ps acc (k + 1) u5 u6) := by
       refine ⟨HB.out.1, ?_⟩
       unfold Bt
       rw [nxt_skip (Or.inr (by rw [hpk]; exact hq'))]
       exact HB.out.2
      clear HB hpk hsz hq'
      go_wp2
      go_roundw
      case rel => exact ⟨k + 1, by go_num, by omega, HN⟩
      case measure => simp [intOf]; omega
     | false =>
      have hno : ¬ (acc.contains k = true ∨ ps.getD k [] = []) := by
       rw [hdn, hpk]
       rintro (x | x)
       ·cases x
       ·rw [x] at hq; simp at hq
      have hsp := fun W => rsplit_any Q W (by omega)
      have hsz2 := spl_szs Q.toList
      unfold SpPost at hsp
      rcases HB.out.2 with ⟨hn, rfl⟩ | ⟨b, ab, nb, cb, hn, rfl, rfl, hsr, hnb⟩
      ·have HK : Hid _ := xai hno (xai hn (xai hpk (xai HB.out.1 hsz2)))
       clear HB hno hn hpk hsz hsz2
       go_wp2_with fail
       refine (hsp _).mono ?_
       rintro e w2 ⟨a2, n2, c2, rfl, hown, g2⟩
       obtain ⟨a3, c3, ev, hrow, -, -⟩ := owns_srow hown
       injection ev with ev1 ev2 ev3
       subst ev1 ev3
       have HN : Hid (wo.grownBy w2 none ∧ Bt w2 ps acc (k + 1) (.int .i64 k) (.slice a2 n2 c2)) := by
        refine ⟨xgt HK.out.2.2.2.1 g2, Or.inr ⟨k, a2, n2, c2, nxt_none' HK.out.1 HK.out.2.1, rfl, rfl, by rw [HK.out.2.2.1]; exact hrow, ?_⟩⟩
        have := hrow.len_eq
        have := HK.out.2.2.2.2.2
        rw [← hrow.len_eq]
        unfold txs
        rw [List.length_map]
        exact this
       clear hown g2 hrow HK hsp
       go_wp2
       go_roundw
       case rel => exact ⟨k + 1, by go_num, by omega, HN⟩
       case measure => simp [intOf]; omega
      ·have hszb := spl_szs (ps.getD b [])
       have HK : Hid _ := xai hno (xai hn (xai hpk (xai HB.out.1 (xai hsz2 (xai hsr (xai hnb hszb))))))
       have hb0 : ¬ (b : Int) < 0 := by omega
       clear HB hno hn hpk hsz hsz2 hsr hnb hszb
       go_wp2_with fail
       refine (hsp _).mono ?_
       rintro e w2 ⟨a2, n2, c2, rfl, hown, g2⟩
       obtain ⟨a3, c3, ev, hrow, -, -⟩ := owns_srow hown
       injection ev with ev1 ev2 ev3
       subst ev1 ev3
       have hn2 : n2 ≤ 128 := by
        have := HK.out.2.2.2.2.1.2
        rw [← hrow.len_eq]
        unfold txs
        rw [List.length_map]
        exact this
       have hor := rorder_any a2 ab n2 c2 nb cb _ _ w2 hrow (HK.out.2.2.2.2.2.1.grown g2) HK.out.2.2.2.2.1.1 HK.out.2.2.2.2.2.2.2.1 (by omega) (by have := HK.out.2.2.2.2.2.2.1; omega)
       rw [tls_txs, tls_txs] at hor
       have HW : Hid _ := xai g2 (xai hrow hn2)
       clear hown g2 hrow hsp hn2
       generalize hov : ord (spl Q.toList).1 (spl (ps.getD b [])).1 = ov at hor
       have HOV : Hid _ := hov
       clear hov
       by_cases hneg : ov < 0
       ·have HN : Hid (∀ t, wo.grownBy (w2.drewN t) none ∧ Bt (w2.drewN t) ps acc (k + 1) (.int .i64 k) (.slice a2 n2 c2)) := by
         intro t
         have gt := drewG11 (World.grownBy.refl w2 none) t
         refine ⟨xgt HK.out.2.2.2.1 (xgt HW.out.1 gt), Or.inr ⟨k, a2, n2, c2, nxt_less HK.out.1 HK.out.2.1 (by rw [HK.out.2.2.1, HOV.out]; exact hneg), rfl, rfl, ?_, HW.out.2.2⟩⟩
         rw [HK.out.2.2.1]
         exact HW.out.2.1.grown gt
        clear HK HW HOV
        go_wp2_with fail
        refine hor.mono ?_
        rintro e w3 ⟨rfl, t, rfl⟩
        clear hor
        go_wp2
        go_roundw
        case rel => exact ⟨k + 1, by go_num, by omega, HN.out t⟩
        case measure => simp [intOf]; omega
       ·have HN : Hid (∀ t, wo.grownBy (w2.drewN t) none ∧ Bt (w2.drewN t) ps acc (k + 1) (.int .i64 b) (.slice ab nb cb)) := by
         intro t
         have gt := drewG11 (World.grownBy.refl w2 none) t
         exact ⟨xgt HK.out.2.2.2.1 (xgt HW.out.1 gt), Or.inr ⟨b, ab, nb, cb, nxt_more HK.out.1 HK.out.2.1 (by rw [HK.out.2.2.1, HOV.out]; exact hneg), rfl, rfl, HK.out.2.2.2.2.2.1.grown (xgt HW.out.1 gt), HK.out.2.2.2.2.2.2.1⟩⟩
        clear HK HW HOV
        go_wp2_with fail
        refine hor.mono ?_
        rintro e w3 ⟨rfl, t, rfl⟩
        clear hor
        go_wp2
        go_roundw
        case rel => exact ⟨k + 1, by go_num, by omega, HN.out t⟩
        case measure => simp [intOf]; omega
   ·have hge' : ¬ (k : Int) < (len : Int) := by omega
    have hkl : k = len := by omega
    subst hkl
    have hpl := HPS.out.1
    rcases HB.out.2 with ⟨hn, rfl⟩ | ⟨b, ab, nb, cb, hn, rfl, rfl, hsr, hnb⟩
    ·have HV : Hid (wr.ownsRow w.heap.size 3 1 u3 (ordL ps).length (ivN (ordL ps)) ∧ w.grownBy wr none) := by
      have e : ordL ps = acc := by
       rw [HO.out.eq]
       have hf := HO.out.lf
       cases f with
       | zero => omega
       | succ f => rw [ordr, hpl, hn]
      rw [e]
      have hB := HB.out.1
      refine ⟨?_, xgt HO.out.gr hB⟩
      have := owns_kept11 HO.out.own hB
      exact owns_low11 this (by have := HG0.out; omega)
     clear HB HO hn hpl
     go_wp2
     go_ret
     exact ⟨_, rfl, HV.out.1, HV.out.2⟩
    ·have hin := nxt_in hn
     have hbl : b < k := hin.1
     have hbi : (b : Int) < (k : Int) := by omega
     have hb0 : ¬ (b : Int) < 0 := by omega
     have hdk := HO.out.dn.kept HB.out.1
     have d0 := hdk.c b
     rw [bls_at hbl] at d0
     have d1 := hdk.f b
     have hos := own_set11 (owns_kept11 HO.out.own HB.out.1) (Nat.lt_succ_self gd) b (.bool true)
     have gS := grown_set wr gd b (.bool true)
     have gA := xga (wr.setCell ⟨gd, b, none⟩ (.bool true)) (.cells #[.int .i64 (b : Int)] 3) none
     have HX : Hid (Bx ((wr.setCell ⟨gd, b, none⟩ (.bool true)).alloc (.cells #[.int .i64 (b : Int)] 3)) gd 4 (bls k (acc ++ [b])) ∧ ((wr.setCell ⟨gd, b, none⟩ (.bool true)).alloc (.cells #[.int .i64 (b : Int)] 3)).ownsRow (gd + 1) 3 1 u3 acc.length (ivN acc) ∧ w.grownBy ((wr.setCell ⟨gd, b, none⟩ (.bool true)).alloc (.cells #[.int .i64 (b : Int)] 3)) none) := by
      refine ⟨?_, owns_kept11 hos gA, xgt (grown_new (xgt HO.out.gr HB.out.1) gS HO.out.lt) gA⟩
      rw [← bls_set hbl]
      exact (hdk.set b _).kept gA
     have HNX : Hid _ := xai hn (xai hin hpl)
     have hsz : gd + 1 ≤ ((wr.setCell ⟨gd, b, none⟩ (.bool true)).alloc (.cells #[.int .i64 (b : Int)] 3)).heap.size := HX.out.1.lt
     have HSZ : Hid _ := hsz
     clear hn hin hpl hdk hos gS gA hsr hsz
     go_wp2_with (at_builtin; refine wpList_append_own _ rfl _ _ 83 rfl (gd + 1) 3 i3 (.int .i64 0) 1 8 Tryz.underlying83 hi hz0 hz1 hz2 rfl (by decide) _ _ _ rfl HX.out.2.1 ⟨wr.heap.size, 0, none⟩ 1 1 [.int .i64 (b : Int)] rfl rfl (news_set wr gd b (.bool true) 3 (.int .i64 (b : Int))) ?c2 ?c3 ?c4 HSZ.out ?_)
     case c2 => rfl
     case c3 => have := HO.out.fu; unfold maxLen; omega
     case c4 => have := HO.out.fu; omega
     ·intro v' w4 o4 g4 _
      have hlt := HX.out.2.1.lt
      have HN : Hid (∃ acc f, Oo w w4 gd k ps acc v' f) := by
       have hf := HO.out.lf
       have hfu := HO.out.fu
       cases f with
       | zero => omega
       | succ f =>
        refine ⟨acc ++ [b], f, grown_own9 HX.out.2.2 HX.out.2.1 g4 (by have := HG0.out; omega), HX.out.1.but g4 (fun e => by have := (hlt gd e.symm).1; omega), ?_, HO.out.lt, ?_, by simp; omega, ?_⟩
        ·have e : ivN (acc ++ [b]) = ivN acc ++ [.int .i64 (b : Int)] := by simp [ivN]
         rw [e, List.length_append]
         exact o4
        ·rw [HO.out.eq, ordr, HNX.out.2.2, HNX.out.1]
        ·have := left_next (l := ps) (acc := acc) (b := b) (by rw [HNX.out.2.2]; exact hbl) HNX.out.2.1.2.1 HNX.out.2.1.2.2
         omega
      have hl1 := own_len HO.out.own
      have hl2 := own_len o4
      have hfu := HO.out.fu
      have hf := HO.out.lf
      have HM : Hid (slLen u3 = acc.length ∧ slLen v' = acc.length + 1 ∧ acc.length < k + 1) := ⟨hl1, hl2, by omega⟩
      clear o4 g4 HX HO HNX HB d0 d1 hlt hl1 hl2 hfu hf HSZ
      go_wp2
      go_roundw
      case rel => exact HN
      case measure => have := HM.out; omega
theorem less_ctx (a b : Tx) : Op.bytesLess a b = decide (ctx a b < 0) := by
 induction a generalizing b with
 | nil =>
  cases b with
  | nil => rfl
  | cons y b => rfl
 | cons x a ih =>
  cases b with
  | nil => rfl
  | cons y b =>
   unfold Op.bytesLess ctx
   rw [ih]
   by_cases h1 : x < y
   ·rw [if_pos h1]; simp [h1]
   ·rw [if_neg h1]
    by_cases h2 : y < x
    ·rw [if_pos h2]
     have hne : (x == y) = false := by
      rw [beq_eq_false_iff_ne]
      intro e; subst e; exact UInt8.lt_irrefl x h2
     simp [h1, hne]
    ·rw [if_neg h2]
     have he : x = y := UInt8.le_antisymm (UInt8.not_lt.1 h2) (UInt8.not_lt.1 h1)
     subst he
     simp
def avc (A : AtV) : List Value := [.string A.n, .slice A.a A.len A.cap]
def srtV (l : List AtV) : Nat → List AtV → List AtV
 | 0, out => out
 | n + 1, out => match abst (l.map AtV.at) (out.map AtV.at) l.length with
  | none => out
  | some b => srtV l n (out ++ (l[b]?).toList)
theorem srtV_map (l : List AtV) (n : Nat) (out : List AtV) : (srtV l n out).map AtV.at = srtA (l.map AtV.at) n (out.map AtV.at) := by
 induction n generalizing out with
 | zero => rfl
 | succ n ih =>
  unfold srtV srtA
  rw [List.length_map]
  cases h : abst (l.map AtV.at) (out.map AtV.at) l.length with
  | none => rfl
  | some b =>
   simp only
   rw [ih, List.map_append, List.getElem?_map]
   cases l[b]? <;> rfl
theorem srtV_mem (l : List AtV) (n : Nat) (out : List AtV) (h : ∀ A ∈ out, A ∈ l) : ∀ A ∈ srtV l n out, A ∈ l := by
 induction n generalizing out with
 | zero => exact h
 | succ n ih =>
  unfold srtV
  split
  ·exact h
  ·rename_i b _
   refine ih _ fun A hA => ?_
   rcases List.mem_append.1 hA with k | k
   ·exact h A k
   ·cases e : l[b]? with
    | none => rw [e] at k; simp at k
    | some x => rw [e] at k; simp at k; subst k; exact List.mem_of_getElem? e
theorem avc_at (l : List AtV) (k : Nat) (A : AtV) (h : l[k]? = some A) : (l.flatMap avc)[k * 2]? = some (.string A.n) ∧ (l.flatMap avc)[k * 2 + 1]? = some (.slice A.a A.len A.cap) := by
 induction l generalizing k with
 | nil => simp at h
 | cons x l ih =>
  rw [List.flatMap_cons]
  cases k with
  | zero =>
   obtain rfl : x = A := by simpa using h
   exact ⟨rfl, rfl⟩
  | succ k =>
   have := ih k (by simpa using h)
   rw [List.getElem?_append_right (by simp [avc]; omega), List.getElem?_append_right (by simp [avc]; omega)]
   have e1 : (k + 1) * 2 - (avc x).length = k * 2 := by simp [avc]; omega
   have e2 : (k + 1) * 2 + 1 - (avc x).length = k * 2 + 1 := by simp [avc]; omega
   rw [e1, e2]
   exact this
theorem own_at {w : World} {base t n : Nat} {v : Value} {out : List AtV} (h : w.ownsRow base t 2 v n (out.flatMap avc)) (hn : n = out.length) {k : Nat} {A : AtV} (hk : out[k]? = some A) : ∃ g c, v = .slice (some ⟨g, 0, none⟩) n c ∧ w.cell? ⟨g, 0 + k * 2, none⟩ = some (.string A.n) ∧ w.cell? ⟨g, 0 + k * 2 + 1, none⟩ = some (.slice A.a A.len A.cap) ∧ base ≤ g := by
 have hk' : k < out.length := (List.getElem?_eq_some_iff.1 hk).1
 rcases h.2 with ⟨rfl, h0⟩ | ⟨g, cap, cur, rfl, hg, hh, hc, hm, hs, ht⟩
 ·omega
 ·obtain ⟨e1, e2⟩ := avc_at out k A hk
  refine ⟨g, cap, rfl, ?_, ?_, hg⟩
  ·have e : w.cell? ⟨g, 0 + k * 2, none⟩ = cur[0 + k * 2]? := by simp [World.cell?, hh]
   rw [e, Nat.zero_add, ← e1, ← ht, List.getElem?_take, if_pos (by omega), Array.getElem?_toList]
  ·have e : w.cell? ⟨g, 0 + k * 2 + 1, none⟩ = cur[0 + k * 2 + 1]? := by simp [World.cell?, hh]
   rw [e, Nat.zero_add, ← e2, ← ht, List.getElem?_take, if_pos (by omega), Array.getElem?_toList]
theorem own_ats {w : World} {base t n : Nat} {v : Value} {out : List AtV} (h : w.ownsRow base t 2 v n (out.flatMap avc)) (hn : n = out.length) (hr : ∀ A ∈ out, Row w A.a A.len A.v ∧ A.len ≤ A.cap) : ∃ a c, v = .slice a n c ∧ Ats w a n out ∧ n ≤ c ∧ (∀ b o, a = some ⟨b, o, none⟩ → base ≤ b) := by
 rcases h.2 with ⟨rfl, h0⟩ | ⟨g, cap, cur, rfl, hg, hh, hc, hm, hs, ht⟩
 ·subst h0
  exact ⟨none, 0, rfl, ⟨by omega, Nat.zero_le _, fun h => by omega⟩, Nat.le_refl _, fun _ _ e => by cases e⟩
 ·refine ⟨_, cap, rfl, ⟨hn.symm, Nat.le_trans hc hm, fun _ => ⟨g, 0, rfl, fun i A hA => ?_⟩⟩, hc, fun b o e => by (injection e with e; injection e with e1; omega)⟩
  obtain ⟨g', c', e0, e1, e2, _⟩ := own_at h hn hA
  injection e0 with e0
  injection e0 with e0
  injection e0 with e0
  subst e0
  obtain ⟨r1, r2⟩ := hr A (List.mem_of_getElem? hA)
  exact ⟨e1, e2, r1, r2⟩
structure Ao (w wr : World) (l out : List AtV) (v : Value) (f : Nat) : Prop where
 gr : w.grownBy wr none
 own : wr.ownsRow w.heap.size 45 2 v out.length (out.flatMap avc)
 eq : srtV l l.length [] = srtV l f out
 fu : out.length + f = l.length
def best (o : Option Nat) : Value := match o with
 | none => .int .i64 (-1)
 | some b => .int .i64 b
theorem abst_skip {l out : List AtV} {k : Nat} {A : AtV} (hA : l[k]? = some A) (h : (out.map AtV.at).any (fun a : Atr => decide (a.n = A.at.n)) = true) : abst (l.map AtV.at) (out.map AtV.at) (k + 1) = abst (l.map AtV.at) (out.map AtV.at) k := by
 rw [abst, nameD (a := A.at) (by rw [List.getElem?_map, hA]; rfl), if_pos h]
theorem abst_first {l out : List AtV} {k : Nat} {A : AtV} (hA : l[k]? = some A) (h : (out.map AtV.at).any (fun a : Atr => decide (a.n = A.at.n)) = false) (hm : abst (l.map AtV.at) (out.map AtV.at) k = none) : abst (l.map AtV.at) (out.map AtV.at) (k + 1) = some k := by
 rw [abst, nameD (a := A.at) (by rw [List.getElem?_map, hA]; rfl), if_neg (by rw [h]; simp), hm]
theorem abst_other {l out : List AtV} {k b : Nat} {A B : AtV} (hA : l[k]? = some A) (hB : l[b]? = some B) (h : (out.map AtV.at).any (fun a : Atr => decide (a.n = A.at.n)) = false) (hm : abst (l.map AtV.at) (out.map AtV.at) k = some b) : abst (l.map AtV.at) (out.map AtV.at) (k + 1) = if ctx A.n.toList B.n.toList < 0 then some k else some b := by
 rw [abst, nameD (a := A.at) (by rw [List.getElem?_map, hA]; rfl), if_neg (by rw [h]; simp), hm]
 simp only
 rw [nameD (l := l.map AtV.at) (k := b) (a := B.at) (by rw [List.getElem?_map, hB]; rfl)]
 rfl
theorem abst_lt {l out : List Atr} {k b : Nat} (h : abst l out k = some b) : b < k := by
 induction k generalizing b with
 | zero => simp [abst] at h
 | succ k ih =>
  unfold abst at h
  split at h
  ·have := ih h; omega
  ·split at h
   ·injection h with h; omega
   ·rename_i b' hm
    split at h
    ·injection h with h; omega
    ·injection h with h
     have := ih hm
     omega
theorem Tryz.infoA : (Tryz.prog.info? 45).map (fun i => (i.zero, i.size, i.bytes)) = some (some (.agg #[.string ⟨#[]⟩, .slice none 0 0]), 2, 40) := by kernel_rfl
def AsPost (w : World) (l : List AtV) (e : Ending) (w' : World) : Prop := ∃ v, e = .returned v ∧ w'.ownsRow w.heap.size 45 2 v (srtV l l.length []).length ((srtV l l.length []).flatMap avc) ∧ w.grownBy w' none
theorem own_len2 {w : World} {b e n s : Nat} {v : Value} {xs : List Value} (h : w.ownsRow b e s v n xs) : slLen v = n := by
 rcases h.2 with ⟨rfl, h0⟩ | ⟨g, cap, cur, rfl, _⟩
 ·exact h0.symm
 ·rfl
theorem news_bx {W : World} {g g' : Nat} {T : TypeId} {x y : Value} (h : Bx W g T [x, y]) (e : g = g') : ∀ j u, [x, y][j]? = some u → W.cell? ((⟨g', 0, none⟩ : Addr).add j) = some u := by
 intro j u hu
 subst e
 have e : (⟨g, 0, none⟩ : Addr).add j = ⟨g, j, none⟩ := by (simp [Addr.add]; intro h; exact h.symm)
 rw [e, h.c j]
 exact hu
theorem one2 (s : ByteArray) (a : Option Addr) {n c : Nat} : ∀ u ∈ [Value.string s, .slice a n c], u.oneCell' = true := by
 intro u hu
 simp at hu
 rcases hu with rfl | rfl <;> rfl
theorem grown_own11 {a b c : World} {t n s : Nat} {v : Value} {xs : List Value} (h : a.grownBy b none) (ho : b.ownsRow a.heap.size t s v n xs) (k : b.grownBy c v.ownBlock) : a.grownBy c none := by
 cases e : v.ownBlock with
 | none => rw [e] at k; exact xgt h k
 | some g => rw [e] at k; exact grown_new h k (ho.lt g e).1
theorem take_any {out : List AtV} {q : Nat} {A : AtV} (h : out[q]? = some A) (f : Atr → Bool) : ((out.map AtV.at).take (q + 1)).any f = (((out.map AtV.at).take q).any f || f A.at) := by
 rw [List.take_add_one, List.getElem?_map, h, List.any_append]
 simp
set_option maxHeartbeats 4000000 in
theorem rattrs_any (a : Option Addr) (len cap : Nat) (l : List AtV) (w : World) (E : Ats w a len l) (hlen : len ≤ 100000) :
  Calls Tryz.prog 76 #[.slice a len cap] w (AsPost w l) := by
 have hll := E.len_eq
 obtain ⟨ia, hi, hz0, hz1, hz2⟩ := info_parts Tryz.infoA
 have H0 : Hid (Ao w w l [] (.slice none 0 0) len) := ⟨World.grownBy.refl _ _, World.ownsRow_nil _ _ _ _, by rw [hll], by simp [hll]⟩
 have HE : Hid _ := xai E.at_ hll
 clear E hll
 unfold AsPost
 go_enter Tryz.func76, Tryz.ntmps76
 go_wp2
 go_loopw [3] (fun v3 wr => Hid (∃ out f, Ao w wr l out v3 f)) (fun v3 _ => len - slLen v3)
 case atStart => exact ⟨[], len, H0.out⟩
 case round =>
  obtain ⟨out, f, hO⟩ := hrel.out
  clear H0
  obtain ⟨wo, hwo⟩ : ∃ wo, wo = wr := ⟨wr, rfl⟩
  subst hwo
  obtain ⟨a3, c3, rfl⟩ : ∃ a3 c3, u3 = .slice a3 out.length c3 := by
   rcases hO.own.2 with ⟨e, h0⟩ | ⟨g, c, cur, e, _⟩
   ·exact ⟨none, 0, by rw [e, h0]⟩
   ·exact ⟨_, c, e⟩
  have HO : Hid _ := hO
  clear hO hrel
  rcases Nat.lt_or_ge out.length len with hol | hol
  ·have holi : (out.length : Int) < (len : Int) := by omega
   obtain ⟨n3, hn3⟩ : ∃ n3, n3 = out.length := ⟨_, rfl⟩
   rw [← hn3] at HO holi hol
   rw [← hn3]
   have HN3 : Hid _ := hn3
   clear hn3
   go_wp2
   go_loopw [4, 5] (fun v4 vi wq => ∃ k : Nat, vi = .int .i64 k ∧ k ≤ len ∧ v4 = best (abst (l.map AtV.at) (out.map AtV.at) k) ∧ ∃ t, wq = wo.drewN t) (fun _ vi _ => len - (intOf vi).toNat)
   case atStart => exact ⟨0, rfl, Nat.zero_le _, rfl, 0, rfl⟩
   case round =>
    obtain ⟨k, rfl, hk, rfl, t, rfl⟩ := hrel
    rcases Nat.lt_or_ge k len with hlt | hge
    ·have hlti : (k : Int) < (len : Int) := by omega
     obtain ⟨A, hA⟩ : ∃ A, l[k]? = some A := ⟨_, List.getElem?_eq_getElem (by have := HE.out.2; omega)⟩
     obtain ⟨eb, eo, rfl, hat⟩ := HE.out.1 (by omega)
     have y0 := cell_grown (hat k A hA).c0 HO.out.gr
     have HA : Hid _ := xai hA hat
     clear hA hat
     obtain ⟨Q, hQ⟩ : ∃ Q, Q = A.n := ⟨_, rfl⟩
     rw [← hQ] at y0
     have HQ : Hid _ := hQ
     clear hQ
     go_wp2
     go_loopw [6, 7] (fun v6 vq wz => ∃ q : Nat, vq = .int .i64 q ∧ q ≤ n3 ∧ v6 = .bool (((out.map AtV.at).take q).any (fun a : Atr => decide (a.n = A.at.n))) ∧ ∃ t, wz = wo.drewN t) (fun _ vq _ => n3 - (intOf vq).toNat)
     case atStart => exact ⟨0, rfl, Nat.zero_le _, rfl, t, rfl⟩
     case round =>
      obtain ⟨q, rfl, hq, rfl, t2, rfl⟩ := hrel
      rcases Nat.lt_or_ge q n3 with hql | hqg
      ·have hqi : (q : Int) < (n3 : Int) := by omega
       obtain ⟨B, hB⟩ : ∃ B, out[q]? = some B := ⟨_, List.getElem?_eq_getElem (by have := HN3.out; omega)⟩
       obtain ⟨og, oc, oe, o1, -, -⟩ := own_at HO.out.own rfl hB
       injection oe with oe1 oe2 oe3
       subst oe1 oe3
       rw [Nat.zero_add] at o1
       have hst := take_any hB (fun a : Atr => decide (a.n = A.at.n))
       have hbn : decide (B.at.n = A.at.n) = (B.n.toList == Q.toList) := by
        rw [HQ.out]
        show decide (B.n.toList = A.n.toList) = _
        by_cases h : B.n.toList = A.n.toList <;> simp [h]
       rw [hbn] at hst
       have HST : Hid _ := hst
       clear hst hbn hB
       generalize B.n = Z at *
       generalize ((out.map AtV.at).take q).any (fun a : Atr => decide (a.n = A.at.n)) = db at *
       cases db with
       | true =>
        go_wp2
        go_quiet (fail)
        go_wp2
        exact ⟨⟨q + 1, by go_num, by omega, by rw [HST.out]; rfl, _, rfl⟩, by simp [intOf]; omega⟩
       | false =>
        go_wp2
        go_quiet (fail)
        go_wp2
        exact ⟨⟨q + 1, by go_num, by omega, by rw [HST.out]; rfl, _, rfl⟩, by simp [intOf]; omega⟩
      ·have hqe : q = n3 := by omega
       subst hqe
       have hqi : ¬ (q : Int) < (q : Int) := by omega
       have hta : (out.map AtV.at).take q = out.map AtV.at := List.take_of_length_le (by rw [List.length_map]; have := HN3.out; omega)
       rw [hta]
       clear hta
       generalize hdb : (out.map AtV.at).any (fun a : Atr => decide (a.n = A.at.n)) = db
       have HDB : Hid _ := hdb
       clear hdb
       cases db with
       | true =>
        have HN : Hid (abst (l.map AtV.at) (out.map AtV.at) (k + 1) = abst (l.map AtV.at) (out.map AtV.at) k) := abst_skip HA.out.1 HDB.out
        generalize hbe : best (abst (l.map AtV.at) (out.map AtV.at) k) = vb at *
        have HBE : Hid _ := hbe
        clear hbe HDB
        go_wp2
        go_quiet (fail)
        go_wp2
        exact ⟨⟨k + 1, by go_num, by omega, by rw [HN.out, HBE.out], _, rfl⟩, by simp [intOf]; omega⟩
       | false =>
        cases hab : abst (l.map AtV.at) (out.map AtV.at) k with
        | none =>
         have HN : Hid (abst (l.map AtV.at) (out.map AtV.at) (k + 1) = some k) := abst_first HA.out.1 HDB.out hab
         clear HDB hab
         simp only [best]
         go_wp2
         go_quiet (fail)
         go_wp2
         exact ⟨⟨k + 1, by go_num, by omega, by rw [HN.out]; rfl, _, rfl⟩, by simp [intOf]; omega⟩
        | some bb =>
         have hbk := abst_lt hab
         obtain ⟨B, hB⟩ : ∃ B, l[bb]? = some B := ⟨_, List.getElem?_eq_getElem (by have := HE.out.2; omega)⟩
         have hNN := abst_other HA.out.1 hB HDB.out hab
         have z0 := cell_grown (HA.out.2 bb B hB).c0 HO.out.gr
         rw [← HQ.out] at hNN
         have hbi : (bb : Int) < (len : Int) := by omega
         have hb0 : ¬ (bb : Int) < 0 := by omega
         have hles := less_ctx Q.toList B.n.toList
         clear hB hab HDB hbk
         generalize B.n = Z at *
         simp only [best]
         by_cases hng : ctx Q.toList Z.toList < 0
         ·rw [if_pos hng] at hNN
          rw [decide_eq_true hng] at hles
          have HN : Hid _ := hNN
          clear hNN hng
          go_wp2
          go_quiet (fail)
          go_wp2
          exact ⟨⟨k + 1, by go_num, by omega, by rw [HN.out]; rfl, _, rfl⟩, by simp [intOf]; omega⟩
         ·rw [if_neg hng] at hNN
          rw [decide_eq_false hng] at hles
          have HN : Hid _ := hNN
          clear hNN hng
          go_wp2
          go_quiet (fail)
          go_wp2
          exact ⟨⟨k + 1, by go_num, by omega, by rw [HN.out]; rfl, _, rfl⟩, by simp [intOf]; omega⟩
    ·have hkl : k = len := by omega
     subst hkl
     have hki : ¬ (k : Int) < (k : Int) := by omega
     have hfu := HO.out.fu
     have hln := HE.out.2
     obtain ⟨f, rfl⟩ : ∃ f', f = f' + 1 := ⟨f - 1, by have := HN3.out; omega⟩
     cases hab : abst (l.map AtV.at) (out.map AtV.at) k with
     | none =>
      have HV : Hid (srtV l l.length [] = out) := by
       show _ = _
       rw [HO.out.eq, srtV, hln, hab]
      have HF : Hid _ := xai HO.out.own HO.out.gr
      clear hab HO hfu hln
      simp only [best]
      go_wp2
      go_ret
      refine ⟨_, rfl, ?_, drewG11 HF.out.2 _⟩
      rw [HV.out]
      exact owns_kept11 HF.out.1 (drewG11 (World.grownBy.refl _ _) _)
     | some bb =>
      have hbk := abst_lt hab
      have hbi : (bb : Int) < (k : Int) := by omega
      have hb0 : ¬ (bb : Int) < 0 := by omega
      obtain ⟨B, hB⟩ : ∃ B, l[bb]? = some B := ⟨_, List.getElem?_eq_getElem (by omega)⟩
      obtain ⟨eb, eo, rfl, hat⟩ := HE.out.1 (by omega)
      have y0 := cell_grown (hat bb B hB).c0 HO.out.gr
      have y1 := cell_grown (hat bb B hB).c1 HO.out.gr
      have HV : Hid (srtV l l.length [] = srtV l f (out ++ [B])) := by
       show _ = _
       rw [HO.out.eq, srtV, hln, hab]
       simp only
       rw [hB]
       rfl
      have gA := xgt (drewG11 (World.grownBy.refl wo none) t) (xga (wo.drewN t) (.cells #[.string B.n, .slice B.a B.len B.cap] 45) none)
      have HX : Hid (((wo.drewN t).alloc (.cells #[.string B.n, .slice B.a B.len B.cap] 45)).ownsRow w.heap.size 45 2 (.slice a3 n3 c3) out.length (out.flatMap avc) ∧ w.grownBy ((wo.drewN t).alloc (.cells #[.string B.n, .slice B.a B.len B.cap] 45)) none ∧ Bx ((wo.drewN t).alloc (.cells #[.string B.n, .slice B.a B.len B.cap] 45)) (wo.drewN t).heap.size 45 [.string B.n, .slice B.a B.len B.cap]) := ⟨owns_kept11 HO.out.own gA, xgt HO.out.gr gA, Bx.new _ _ _⟩
      have HSZ : Hid (w.heap.size ≤ ((wo.drewN t).alloc (.cells #[.string B.n, .slice B.a B.len B.cap] 45)).heap.size) := HX.out.2.1.size
      have hds : (wo.drewN t).heap.size = wo.heap.size := by simp
      have HB : Hid (avc B = [.string B.n, .slice B.a B.len B.cap]) := rfl
      clear hab hat gA
      generalize hbn : B.n = bn at *
      generalize hba : B.a = ba at *
      generalize hbl : B.len = bl at *
      generalize hbc : B.cap = bc at *
      clear hbn hba hbl hbc hB
      simp only [best]
      go_wp2_with (at_builtin; refine wpList_append_own _ rfl _ _ 28 rfl w.heap.size 45 ia (.agg #[.string ⟨#[]⟩, .slice none 0 0]) 2 40 Tryz.underlying28 hi hz0 hz1 hz2 rfl (by decide) _ _ _ rfl HX.out.1 ⟨wo.heap.size, 0, none⟩ 1 1 [.string bn, .slice ba bl bc] rfl rfl (news_bx HX.out.2.2 hds) (one2 _ _) ?c3 ?c4 HSZ.out ?_)
      case c3 => unfold maxLen; omega
      case c4 => omega
      ·intro v' w4 o4 g4 _
       have HN : Hid (∃ out f, Ao w w4 l out v' f) := by
        refine ⟨out ++ [B], f, grown_own11 HX.out.2.1 HX.out.1 g4, ?_, HV.out, by simp; omega⟩
        rw [List.flatMap_append, List.length_append]
        have e : [B].flatMap avc = [.string bn, .slice ba bl bc] := by rw [← HB.out]; simp
        rw [e]
        exact o4
       have HM : Hid (slLen v' = out.length + 1 ∧ out.length = n3) := ⟨own_len2 o4, HN3.out.symm⟩
       clear o4 g4 HX HV HO HSZ HB
       go_wp2
       go_roundw
       case rel => exact HN
       case measure => have := HM.out; show k - slLen v' < k - n3; omega
  ·have holi : ¬ (out.length : Int) < (len : Int) := by omega
   have HV : Hid (srtV l l.length [] = out) := by
    show _ = _
    have h1 := HO.out.fu
    have h2 := HE.out.2
    rw [HO.out.eq]
    have : f = 0 := by omega
    subst this
    rfl
   have HF : Hid _ := xai HO.out.own HO.out.gr
   obtain ⟨n3, hn3⟩ : ∃ n3, n3 = out.length := ⟨_, rfl⟩
   rw [← hn3] at HF holi
   rw [← hn3]
   have HN3 : Hid _ := hn3
   clear hn3 HO
   go_wp2
   go_ret
   refine ⟨_, rfl, ?_, HF.out.2⟩
   rw [HV.out, ← HN3.out]
   exact HF.out.1
theorem foldl_add (l : List Int) (a : Int) : l.foldl (· + ·) a = a + l.foldl (· + ·) 0 := by
 induction l generalizing a with
 | nil => simp
 | cons x r ih => rw [List.foldl_cons, List.foldl_cons, ih, ih (0 + x)]; omega
theorem sums_app (a b : List En) : sums (a ++ b) = sums a + sums b := by
 unfold sums
 rw [List.map_append, List.foldl_append, foldl_add]
theorem sums_nonneg (l : List En) : 0 ≤ sums l := by
 induction l with
 | nil => simp [sums]
 | cons x r ih =>
  have e : x :: r = [x] ++ r := rfl
  rw [e, sums_app]
  have h1 : 0 ≤ sums [x] := by
   unfold sums
   simp only [List.map_cons, List.map_nil, List.foldl_cons, List.foldl_nil]
   split <;> omega
  omega
theorem sums_snoc {l : List EnV} {k : Nat} {Y : EnV} (h : l[k]? = some Y) : sums ((ens l).take (k + 1)) = sums ((ens l).take k) + (if Y.k = 1 then (Y.data.length : Int) else 0) := by
 unfold ens
 have hlt : k < l.length := by
  rcases Nat.lt_or_ge k l.length with h1 | h1
  ·exact h1
  ·rw [List.getElem?_eq_none h1] at h; simp at h
 rw [List.take_succ_eq_append_getElem (by rw [List.length_map]; exact hlt), sums_app]
 have e : l[k] = Y := by rw [List.getElem?_eq_getElem hlt] at h; injection h
 simp [e, sums, EnV.en]
theorem sums_mono {l : List EnV} {k n : Nat} (h : k ≤ n) : sums ((ens l).take k) ≤ sums ((ens l).take n) := by
 have e : (ens l).take n = ((ens l).take n).take k ++ ((ens l).take n).drop k := (List.take_append_drop k _).symm
 rw [e, sums_app, List.take_take, Nat.min_eq_left h]
 have := sums_nonneg (((ens l).take n).drop k)
 omega
theorem fault_skip {l : List En} {m : List En} {i : Nat} {x : En} (h : ent11 l i x = 0) : fault l (x :: m) i = fault l m (i + 1) := by
 rw [fault, if_neg (by simp [h])]
theorem fault_hit {l : List En} {m : List En} {i : Nat} {x : En} (h : ent11 l i x ≠ 0) : fault l (x :: m) i = ((i : Int), ent11 l i x) := by
 rw [fault, if_pos h]
theorem ens_drop {l : List EnV} {k : Nat} {Y : EnV} (h : l[k]? = some Y) : (ens l).drop k = Y.en :: (ens l).drop (k + 1) := by
 unfold ens
 have hlt : k < l.length := by
  rcases Nat.lt_or_ge k l.length with h1 | h1
  ·exact h1
  ·rw [List.getElem?_eq_none h1] at h; simp at h
 rw [List.drop_eq_getElem_cons (by rw [List.length_map]; exact hlt)]
 have e : l[k] = Y := by rw [List.getElem?_eq_getElem hlt] at h; injection h
 simp [e]
theorem ens_len (l : List EnV) : (ens l).length = l.length := by unfold ens; rw [List.length_map]
set_option maxHeartbeats 2000000 in
theorem rcheck_any (a : Option Addr) (len cap : Nat) (l : List EnV) (w : World) (E : Ens w a len l) (hs : Sml l) (hlen : len ≤ 100000) :
  Calls Tryz.prog 9 #[.slice a len cap] w fun e w' => e = .returned (.tuple #[.int .i64 (chk11 (ens l)).1, .int .i64 (chk11 (ens l)).2]) ∧ w.grownBy w' none := by
 have hll := E.len_eq
 by_cases h1 : 16384 < len
 ·have HV : Hid (chk11 (ens l) = (0, 3)) := by
   show chk11 (ens l) = (0, 3)
   unfold chk11
   rw [if_pos (by rw [ens_len]; omega)]
  have h1i : (16384 : Int) < (len : Int) := by omega
  clear E hll
  go_enter Tryz.func9, Tryz.ntmps9
  go_wp2
  go_ret2
  exact ⟨by rw [HV.out]; rfl, World.grownBy.refl _ _⟩
 ·have HE : Hid (chk11 (ens l) = if 8388608 < sums (ens l) then (0, 2) else fault (ens l) (ens l) 0) := by
   show chk11 (ens l) = _
   unfold chk11
   rw [if_neg (by rw [ens_len]; omega)]
  have h1i : ¬ (16384 : Int) < (len : Int) := by omega
  have hta : (ens l).take len = ens l := List.take_of_length_le (by rw [ens_len]; omega)
  have HI : Hid _ := xai E (xai hll (xai hs hta))
  clear E hll hta
  have hen := fun W (EW : Ens W a len l) i X hX => rentry_any a len cap l W EW hs hlen i X hX
  clear hs
  generalize chk11 (ens l) = A at *
  go_enter Tryz.func9, Tryz.ntmps9
  go_wp2

  go_loop [4, 5] (fun vs vi => ∃ (k : Nat) (sm : Int), k ≤ len ∧ vi = .int .i64 k ∧ vs = .int .i64 sm ∧ 0 ≤ sm ∧ sm ≤ 8388608 ∧ Hid (sm = sums ((ens l).take k))) (fun _ vi => len - (intOf vi).toNat)
  case atStart => exact ⟨0, 0, Nat.zero_le _, rfl, rfl, by omega, by omega, rfl⟩
  case round =>
   obtain ⟨k, sm, hk, rfl, rfl, hs0, hs1, HS⟩ := hrel
   by_cases hlt : k < len
   ·obtain ⟨Y, hY⟩ : ∃ Y, l[k]? = some Y := ⟨_, List.getElem?_eq_getElem (by have := HI.out.2.1; omega)⟩
    obtain ⟨b, off, rfl, hat⟩ := HI.out.1.at_ (by omega)
    have hy := hat k Y hY
    have y1 := hy.c1
    have y7 := hy.c7
    have hsn := sums_snoc hY
    have hmo := sums_mono (l := l) (k := k + 1) (n := len) (by omega)
    rw [HI.out.2.2.2, hsn, ← HS.out, hy.ok.row.len_eq] at hmo
    rw [← HS.out, hy.ok.row.len_eq] at hsn
    have hdl := hy.ok.row.le
    have HN : Hid _ := xai hsn hmo
    clear hsn hmo hat hy
    generalize Y.k = KY at *
    generalize Y.dl = D at *
    generalize Y.da = da at *
    generalize Y.dc = dc at *
    have hlti : (k : Int) < (len : Int) := by omega
    by_cases hK : KY = 1
    ·have hKb : (KY == 1) = true := by rw [hK]; rfl
     have hKn : (KY != 1) = false := by rw [hK]; rfl
     by_cases hD : 8388608 - sm < D
     ·have HV : Hid (A = (0, 2)) := by
       show A = (0, 2)
       have := HN.out.2
       rw [if_pos hK] at this
       rw [HE.out, if_pos (by omega)]
      go_wp2
      go_ret2
      exact ⟨by rw [HV.out]; rfl, World.grownBy.refl _ _⟩
     ·have HN2 : Hid (sm + D = sums ((ens l).take (k + 1))) := by
       show _ = _
       rw [HN.out.1, if_pos hK]
      clear hK
      go_wp2
      go_round
      case rel => exact ⟨k + 1, sm + D, by omega, by go_num, by go_num, by omega, by omega, HN2⟩
      case measure => simp [intOf]; omega
    ·have hKb : (KY == 1) = false := by rw [beq_eq_false_iff_ne]; exact hK
     have hKn : (KY != 1) = true := by simp [hK]
     have HN2 : Hid (sm = sums ((ens l).take (k + 1))) := by
      show _ = _
      rw [HN.out.1, if_neg hK]; omega
     go_wp2
     go_round
     case rel => exact ⟨k + 1, sm, by omega, by go_num, rfl, by omega, by omega, HN2⟩
     case measure => simp [intOf]; omega
   ·have hk9 : k = len := by omega
    subst hk9
    have HE2 : Hid (A = fault (ens l) ((ens l).drop 0) 0) := by
     show A = _
     have := HS.out
     rw [HI.out.2.2.2] at this
     rw [HE.out, if_neg (by omega), List.drop_zero]
    clear HE HS
    go_wp2
    go_loopw [6] (fun vi wr => ∃ i : Nat, i ≤ k ∧ vi = .int .i64 i ∧ Hid (A = fault (ens l) ((ens l).drop i) i) ∧ Hid (w.grownBy wr none)) (fun vi _ => k - (intOf vi).toNat)
    case atStart => exact ⟨0, Nat.zero_le _, rfl, HE2, World.grownBy.refl _ _⟩
    case round =>
     obtain ⟨i, hi, rfl, HF, HG⟩ := hrel
     by_cases hlt2 : i < k
     ·obtain ⟨Y, hY⟩ : ∃ Y, l[i]? = some Y := ⟨_, List.getElem?_eq_getElem (by have := HI.out.2.1; omega)⟩
      have he := hen wr (HI.out.1.grown HG.out) i Y hY
      have hd := ens_drop hY
      have hlt2i : (i : Int) < (k : Int) := by omega
      by_cases hz : ent11 (ens l) i Y.en = 0
      ·have HF2 : Hid (A = fault (ens l) ((ens l).drop (i + 1)) (i + 1)) := by
        show A = _
        rw [HF.out, hd, fault_skip hz]
       rw [hz] at he
       clear hd hz
       go_wp2_with (go_at_call 30; refine he.mono ?_; rintro e w3 ⟨rfl, HG3⟩)
       go_roundw
       case rel => exact ⟨i + 1, by omega, by go_num, HF2, xgt HG.out HG3⟩
       case measure => simp [intOf]; omega
      ·have HV : Hid (A = ((i : Int), ent11 (ens l) i Y.en)) := by
        show A = _
        rw [HF.out, hd, fault_hit hz]
       generalize ent11 (ens l) i Y.en = F at *
       clear hd
       have hzb : (F == 0) = false := by rw [beq_eq_false_iff_ne]; exact hz
       go_wp2_with (go_at_call 30; refine he.mono ?_; rintro e w3 ⟨rfl, HG3⟩)
       go_ret2
       exact ⟨by rw [HV.out]; rfl, xgt HG.out HG3⟩
     ·have hk9 : i = k := by omega
      subst hk9
      have HV : Hid (A = (0, 0)) := by
       show A = _
       rw [HF.out, List.drop_eq_nil_of_le (by rw [ens_len, HI.out.2.1]; exact Nat.le_refl _)]
       rfl
      go_wp2
      go_ret2
      exact ⟨by rw [HV.out]; rfl, HG.out⟩
def AtV.sm (A : AtV) : Prop := A.n.size ≤ 300 ∧ A.len ≤ 5000
structure EnV.sm (X : EnV) : Prop where
 d : X.dl ≤ 70000
 p : X.path.size ≤ 5000
 t : X.target.size ≤ 5000
 a : X.al ≤ 70
 at_ : ∀ (i : Nat) (A : AtV), X.attrs[i]? = some A → AtV.sm A
def Smal (l : List EnV) : Prop := ∀ (i : Nat) (X : EnV), l[i]? = some X → EnV.sm X
structure KdAt (w : World) (b o : Nat) (K : Kd) : Prop where
 c0 : w.cell? ⟨b, o, none⟩ = some (.string (tx K.n))
 c1 : w.cell? ⟨b, o + 1, none⟩ = some (.int .i64 K.i)
structure Kds (w : World) (a : Option Addr) (len : Nat) (l : List Kd) : Prop where
 len_eq : l.length = len
 le : len ≤ maxLen
 at_ : 0 < len → ∃ b off, a = some ⟨b, off, none⟩ ∧ ∀ (i : Nat) (K : Kd), l[i]? = some K → KdAt w b (off + i * 2) K
theorem Kds.grown {w w' : World} {a : Option Addr} {len : Nat} {l : List Kd} (h : Kds w a len l) (g : w.grownBy w' none) : Kds w' a len l :=
 ⟨h.len_eq, h.le, fun h0 => by obtain ⟨b, off, e, k⟩ := h.at_ h0; exact ⟨b, off, e, fun i K hK => ⟨cell_grown (k i K hK).c0 g, cell_grown (k i K hK).c1 g⟩⟩⟩
def sameKd (x y : Kd) : Bool := (x.n == y.n) && (x.i == y.i)
def sameKds : List Kd → List Kd → Bool
 | [], [] => true
 | x :: a, y :: b => sameKd x y && sameKds a b
 | _, _ => false
theorem sameKds_len {a b : List Kd} (h : a.length ≠ b.length) : sameKds a b = false := by
 induction a generalizing b with
 | nil => cases b with
  | nil => simp at h
  | cons y b => rfl
 | cons x a ih => cases b with
  | nil => rfl
  | cons y b => rw [sameKds, ih (by simpa using h), Bool.and_false]
theorem sameKds_step {a b : List Kd} {k : Nat} {x y : Kd} (hx : a[k]? = some x) (hy : b[k]? = some y) : sameKds (a.drop k) (b.drop k) = (sameKd x y && sameKds (a.drop (k + 1)) (b.drop (k + 1))) := by
 have h1 : k < a.length := by
  rcases Nat.lt_or_ge k a.length with h | h
  ·exact h
  ·rw [List.getElem?_eq_none h] at hx; cases hx
 have h2 : k < b.length := by
  rcases Nat.lt_or_ge k b.length with h | h
  ·exact h
  ·rw [List.getElem?_eq_none h] at hy; cases hy
 rw [List.getElem?_eq_getElem h1] at hx
 rw [List.getElem?_eq_getElem h2] at hy
 injection hx with hx
 injection hy with hy
 rw [List.drop_eq_getElem_cons h1, List.drop_eq_getElem_cons h2, sameKds, hx, hy]
theorem sameKds_eq (a b : List Kd) : sameKds a b = true ↔ a = b := by
 induction a generalizing b with
 | nil => cases b <;> simp [sameKds]
 | cons x a ih => cases b with
  | nil => simp [sameKds]
  | cons y b =>
   rw [sameKds, Bool.and_eq_true, ih, List.cons.injEq]
   refine and_congr_left fun _ => ?_
   obtain ⟨n, i⟩ := x
   obtain ⟨m, j⟩ := y
   simp [sameKd]
set_option maxHeartbeats 2000000 in
theorem rsamekids_any (a b : Option Addr) (n c m d : Nat) (l r : List Kd) (w : World) (R : Kds w a n l) (R2 : Kds w b m r) :
  Calls Tryz.prog 29 #[.slice a n c, .slice b m d] w fun e w' => e = .returned (.bool (sameKds l r)) ∧ ∃ n, w' = w.drewN n := by
 have hle1 : n ≤ 9223372036854775807 := R.le
 have hle2 : m ≤ 9223372036854775807 := R2.le
 by_cases hnm : n = m
 ·subst hnm
  have HE : Hid _ := xai R.len_eq R2.len_eq
  have HR : Hid _ := xai R R2
  clear R R2
  have hb : (n != n) = false := by simp
  go_enter Tryz.func29, Tryz.ntmps29
  go_wp2
  go_loopw [5] (fun i wr => ∃ k : Nat, k ≤ n ∧ i = .int .i64 k ∧ Hid (sameKds l r = sameKds (l.drop k) (r.drop k)) ∧ ∃ n, wr = w.drewN n) (fun i _ => n - (intOf i).toNat)
  case atStart => exact ⟨0, Nat.zero_le _, rfl, rfl, 0, rfl⟩
  case round =>
   obtain ⟨k, h1, rfl, HC, t, rfl⟩ := hrel
   by_cases h3 : k < n
   ·obtain ⟨b1, o1, rfl, c1⟩ := HR.out.1.at_ (by omega)
    obtain ⟨b2, o2, rfl, c2⟩ := HR.out.2.at_ (by omega)
    obtain ⟨x, hx⟩ : ∃ x, l[k]? = some x := ⟨_, List.getElem?_eq_getElem (by rw [HE.out.1]; exact h3)⟩
    obtain ⟨y, hy⟩ : ∃ y, r[k]? = some y := ⟨_, List.getElem?_eq_getElem (by rw [HE.out.2]; exact h3)⟩
    obtain ⟨p0, p1⟩ := c1 k x hx
    obtain ⟨q0, q1⟩ := c2 k y hy
    have hst := sameKds_step hx hy
    rw [← HC.out] at hst
    unfold sameKd at hst
    obtain ⟨xn, xi⟩ := x
    obtain ⟨yn, yi⟩ := y
    simp only at p0 p1 q0 q1 hst
    rw [← tx_tl xn, ← tx_tl yn] at hst
    generalize tx xn = sx at *
    generalize tx yn = sy at *
    have HD : Hid _ := hst
    clear hst c1 c2
    have h3i : (k : Int) < n := by omega
    cases hq : (sx.toList == sy.toList) with
    | true =>
     by_cases hi : xi = yi
     ·subst hi
      have HV : Hid (sameKds l r = sameKds (l.drop (k + 1)) (r.drop (k + 1))) := by
       show _ = _
       rw [HD.out, hq]; simp
      clear HD HC
      go_wp2
      go_quiet (fail)
      go_wp2
      exact ⟨⟨k + 1, by omega, by go_num, HV, _, rfl⟩, by simp [intOf]; omega⟩
     ·have HV : Hid (sameKds l r = false) := by
       show _ = _
       rw [HD.out, hq]; simp [hi]
      have hib : (xi == yi) = false := by rw [beq_eq_false_iff_ne]; exact hi
      have hin : (xi != yi) = true := by simp [hi]
      clear HD HC
      go_wp2
      go_quiet (fail)
      go_wp2
      go_ret
      exact ⟨by rw [HV.out]; rfl, _, dd _ _ _⟩
    | false =>
     have HV : Hid (sameKds l r = false) := by
      show _ = _
      rw [HD.out, hq]; simp
     clear HD HC
     go_wp2
     go_quiet (fail)
     go_wp2
     go_ret
     exact ⟨by rw [HV.out]; rfl, _, dd _ _ _⟩
   ·have HV : Hid (sameKds l r = true) := by
     show _ = _
     rw [HC.out, List.drop_eq_nil_of_le (by rw [HE.out.1]; omega), List.drop_eq_nil_of_le (by rw [HE.out.2]; omega)]
     rfl
    clear HC
    go_wp2
    go_ret
    exact ⟨by rw [HV.out]; rfl, _, rfl⟩
 ·have HV : Hid (sameKds l r = false) := by
   show _ = _
   exact sameKds_len (by rw [R.len_eq, R2.len_eq]; exact hnm)
  have hb : ((n : Int) == (m : Int)) = false := by rw [beq_eq_false_iff_ne]; omega
  clear R R2
  go_enter Tryz.func29, Tryz.ntmps29
  go_wp2
  go_ret
  exact ⟨by rw [HV.out]; rfl, 0, rfl⟩
def sameAt (x y : Atr) : Bool := (x.n == y.n) && decide (x.v = y.v)
def sameAts : List Atr → List Atr → Bool
 | [], [] => true
 | x :: a, y :: b => sameAt x y && sameAts a b
 | _, _ => false
theorem sameAts_len {a b : List Atr} (h : a.length ≠ b.length) : sameAts a b = false := by
 induction a generalizing b with
 | nil => cases b with
  | nil => simp at h
  | cons y b => rfl
 | cons x a ih => cases b with
  | nil => rfl
  | cons y b => rw [sameAts, ih (by simpa using h), Bool.and_false]
theorem sameAts_step {a b : List AtV} {k : Nat} {x y : AtV} (hx : a[k]? = some x) (hy : b[k]? = some y) : sameAts ((a.map AtV.at).drop k) ((b.map AtV.at).drop k) = (((x.n.toList == y.n.toList) && decide (x.v = y.v)) && sameAts ((a.map AtV.at).drop (k + 1)) ((b.map AtV.at).drop (k + 1))) := by
 have h1 : k < a.length := by
  rcases Nat.lt_or_ge k a.length with h | h
  ·exact h
  ·rw [List.getElem?_eq_none h] at hx; cases hx
 have h2 : k < b.length := by
  rcases Nat.lt_or_ge k b.length with h | h
  ·exact h
  ·rw [List.getElem?_eq_none h] at hy; cases hy
 rw [List.getElem?_eq_getElem h1] at hx
 rw [List.getElem?_eq_getElem h2] at hy
 injection hx with hx
 injection hy with hy
 rw [List.drop_eq_getElem_cons (l := a.map AtV.at) (i := k) (by rw [List.length_map]; exact h1), List.drop_eq_getElem_cons (l := b.map AtV.at) (i := k) (by rw [List.length_map]; exact h2), sameAts, List.getElem_map, List.getElem_map, hx, hy]
 rfl
theorem sameAts_eq (a b : List Atr) : sameAts a b = true ↔ a = b := by
 induction a generalizing b with
 | nil => cases b <;> simp [sameAts]
 | cons x a ih => cases b with
  | nil => simp [sameAts]
  | cons y b =>
   rw [sameAts, Bool.and_eq_true, ih, List.cons.injEq]
   refine and_congr_left fun _ => ?_
   obtain ⟨n, i⟩ := x
   obtain ⟨m, j⟩ := y
   simp [sameAt]
end Go.Proofs.YtlehncfehoelbaaGreatDoor
