/- The document's Canon. -/
import Derived.Test.YtlehncfehoelbaaGreatDoorCq12
namespace Go.Proofs.YtlehncfehoelbaaGreatDoor
open Go.RowKit
set_option maxRecDepth 100000
set_option linter.unusedSimpArgs false
set_option linter.unusedVariables false
def evc (X : EnV) : List Value := [.string X.path, .int .i64 X.k, .int .i64 X.mode, .int .i64 X.uid, .int .i64 X.gid, .int .i64 X.time, .int .i64 X.size, .slice X.da X.dl X.dc, .string X.target, .int .i64 X.dev, .slice X.aa X.al X.ac]
def rootV : EnV := ⟨⟨#[]⟩, 2, 493, 0, 0, 0, 0, none, 0, 0, [], ⟨#[]⟩, 0, none, 0, 0, []⟩
theorem rootV_en : rootV.en = rootE := by
 unfold rootV EnV.en rootE
 simp [tl_nil]
theorem rootV_ok (w : World) : rootV.ok w := ⟨row_zero none, Nat.le_refl _, ⟨rfl, Nat.zero_le _, fun h => by cases h⟩, Nat.le_refl _⟩
structure Rk (w W : World) (l : List EnV) (k : Nat) (R : EnV) : Prop where
 bx : Bx W (w.heap.size + 1) 30 (evc R)
 br : Bx W w.heap.size 33 [.slice none 0 0]
 gr : w.grownBy W none
 is : (R = rootV ∧ ∀ X ∈ l.take k, X.path.toList ≠ []) ∨ (R ∈ l ∧ R.path.toList = [])
theorem entry_here {P : Program} {w : World} {ops : Array Oper} {rest : List Oper} {a : Act} {Q : Exit → Act → World → Prop} {dst : Option Nat} {x y : Operand} {type : TypeId} {pos : String} {after : Array Edge} {guard : Option (Nat × Bool)}
  (h : wpList P ops Q (⟨dst, .store 30 x y, type, pos, after, guard⟩ :: rest) a w) : wpList P ops Q (⟨dst, .store 30 x y, type, pos, after, guard⟩ :: rest) a w := h
theorem entry_size : (Tryz.prog.info? 30).map (·.size) = some 11 := by kernel_rfl
theorem Rk.step {w W W' : World} {l : List EnV} {k : Nat} {R X : EnV} (h : Rk w W l k R) (hX : l[k]? = some X) (hp : X.path.toList = []) (hb : Bx W' (w.heap.size + 1) 30 (evc X)) (g : W.grownBy W' (some (w.heap.size + 1))) : Rk w W' l (k + 1) X :=
 ⟨hb, h.br.but g (by intro e; injection e with e; omega), grown_new h.gr g (by omega), .inr ⟨List.mem_of_getElem? hX, hp⟩⟩
theorem Rk.over {w W : World} {l : List EnV} {k : Nat} {R X : EnV} (h : Rk w W l k R) (hX : l[k]? = some X) (hp : X.path.toList ≠ []) : Rk w W l (k + 1) R := by
 refine ⟨h.bx, h.br, h.gr, ?_⟩
 rcases h.is with ⟨e, ha⟩ | h2
 ·refine .inl ⟨e, fun Y hY => ?_⟩
  have hk : k < l.length := (List.getElem?_eq_some_iff.1 hX).1
  rw [List.take_succ_eq_append_getElem hk] at hY
  rcases List.mem_append.1 hY with hY | hY
  ·exact ha Y hY
  ·rw [List.mem_singleton] at hY
   rw [hY, (List.getElem?_eq_some_iff.1 hX).2]
   exact hp
 ·exact .inr h2
theorem Rk.look {w W : World} {l : List EnV} {R : EnV} (h : Rk w W l l.length R) (ok : OkS (ens l)) : look (ens l) [] = R.en := by
 rcases h.is with ⟨e, ha⟩ | ⟨hm, hp⟩
 ·rw [e, rootV_en]
  apply look_none
  intro hm
  unfold pths ens at hm
  rw [List.map_map] at hm
  obtain ⟨X, hX, e⟩ := List.mem_map.1 hm
  exact ha X (by rw [List.take_length]; exact hX) e
 ·have := look_mem (x := R.en) ok.once (by unfold ens; exact List.mem_map_of_mem hm)
  rw [show R.en.path = [] from hp] at this
  exact this
theorem ens_at {w : World} {a : Option Addr} {len : Nat} {l : List EnV} (E : Ens w a len l) {X : EnV} (hX : X ∈ l) : X.ok w := by
 obtain ⟨i, hi⟩ := List.mem_iff_getElem?.1 hX
 obtain ⟨b, o, _, k⟩ := E.at_ (by have := (List.getElem?_eq_some_iff.1 hi).1; have := E.len_eq; omega)
 exact (k i X hi).ok
theorem Rk.rok {w W : World} {a : Option Addr} {len k : Nat} {l : List EnV} {R : EnV} (h : Rk w W l k R) (E : Ens w a len l) (hal : ∀ X ∈ l, X.al ≤ 100000) : R.ok w ∧ R.al ≤ 100000 := by
 rcases h.is with ⟨rfl, _⟩ | ⟨hm, _⟩
 ·exact ⟨rootV_ok w, Nat.zero_le _⟩
 ·exact ⟨ens_at E hm, hal R hm⟩
theorem no_kids {N : NoV} {x : En} (h : N.no = ndOf x) : N.kids = [] ∧ N.parent = 0 ∧ N.links = 0 := by
 have h1 := congrArg No.kids h
 have h2 := congrArg No.parent h
 have h3 := congrArg No.links h
 exact ⟨h1, h2, h3⟩
theorem cs_first {w W2 W4 : World} {N : NoV} {vr : Value} {ord : List Nat} (hN : Nk w W2 w.heap.size N) (hk : N.ka = none) (hg : w.grownBy W2 none) (br : Bx W2 w.heap.size 33 [.slice none 0 0])
  (ho : W4.ownsRow ((W2.alloc (.cells (nvc { N with links := 2 }).toArray 43)).alloc (.cells #[.slice (some ⟨W2.heap.size, 0, none⟩) 1 1] 33)).heap.size 3 1 vr ord.length (ivN ord)) (g : ((W2.alloc (.cells (nvc { N with links := 2 }).toArray 43)).alloc (.cells #[.slice (some ⟨W2.heap.size, 0, none⟩) 1 1] 33)).grownBy W4 none) :
  Cs w W4 (W2.heap.size + 1) W4.heap.size (.slice (some ⟨W2.heap.size, 0, none⟩) 1 1) (.slice none 0 0) vr [{ N with links := 2 }] [] ord := by
 have ga := xga W2 (.cells (nvc { N with links := 2 }).toArray 43) none
 have gb := xga (W2.alloc (.cells (nvc { N with links := 2 }).toArray 43)) (.cells #[.slice (some ⟨W2.heap.size, 0, none⟩) 1 1] 33) none
 have b1 := Bx.new W2 43 (nvc { N with links := 2 })
 have b2 := Bx.new (W2.alloc (.cells (nvc { N with links := 2 }).toArray 43)) 33 [.slice (some ⟨W2.heap.size, 0, none⟩) 1 1]
 rw [World.size_alloc] at b2
 have gg := xgt (xgt ga gb) g
 have hk1 : Nk w W2 w.heap.size { N with links := 2 } := ⟨hN.row, hN.own, hN.len, hN.rows, hN.kid, hN.klen, hN.dcap⟩
 have hsz : W2.heap.size + 2 ≤ W4.heap.size := by have := g.size; simp at this; omega
 refine ⟨⟨xgt hg gg, Nat.le_refl _, ?_, ?_, ?_⟩, b2.kept g, br.kept gg, by have := br.lt; omega, World.ownsRow_nil _ _ _ _, owns_low11 ho (by have := br.lt; simp; omega), fun b hb => (ho.lt b hb).2, by have := br.lt; omega, Nat.le_refl _⟩
 ·refine ⟨rfl, .inr ⟨W2.heap.size, 1, (nvc { N with links := 2 }).toArray, rfl, by have := br.lt; omega, ((b1.kept gb).kept g).blk, Nat.le_refl _, by decide, rfl, rfl⟩⟩
 ·intro i X hX
  cases i with
  | zero =>
   simp at hX
   subst hX
   exact hk1.but gg (ne_none _) (ne_none _)
  | succ i => simp at hX
 ·intro i j X Y hX hY hij
  cases i with
  | zero =>
   cases j with
   | zero => exact absurd rfl hij
   | succ j => simp at hY
  | succ i => simp at hX
theorem order_cell {W : World} {b n i k : Nat} {ra : Option Addr} {rc : Nat} {ord : List Nat} (h : W.ownsRow b 3 1 (.slice ra n rc) ord.length (ivN ord)) (hn : ord.length = n) (hk : ord[i]? = some k) : ∃ g, ra = some ⟨g, 0, none⟩ ∧ W.cell? ⟨g, i, none⟩ = some (.int .i64 k) := by
 have hi : i < ord.length := (List.getElem?_eq_some_iff.1 hk).1
 rw [hn] at h
 rcases h.2 with ⟨e, h0⟩ | ⟨g, cap, cur, e, _⟩
 ·omega
 ·injection e with e1 e2 e3
  subst e1
  refine ⟨g, rfl, ?_⟩
  rw [h.cellAt i (by omega)]
  unfold ivN
  rw [List.getElem?_map, hk]
  rfl
theorem ordr_len (l : List Tx) : ∀ (n : Nat) (acc : List Nat), (ordr l n acc).length ≤ acc.length + n
 | 0, acc => by simp [ordr]
 | n + 1, acc => by
  unfold ordr
  split
  ·omega
  ·rename_i b _
   have := ordr_len l n (acc ++ [b])
   exact Nat.le_trans this (by simp; omega)
theorem ordL_len (l : List Tx) : (ordL l).length ≤ l.length + 1 := by
 have := ordr_len l (l.length + 1) []
 unfold ordL
 simpa using this
def ino3 (os : List Nat) (o j : Nat) : Int := match idx (os.take j) o with
 | some q => (q : Int) + 1
 | none => -1
theorem ino3_step {os : List Nat} {o j x : Nat} (hn : os.Nodup) (hx : os[j]? = some x) : ino3 os o (j + 1) = if x = o then (j : Int) + 1 else ino3 os o j := by
 unfold ino3
 rw [idx_step hn hx]
 by_cases h : x = o
 ·rw [if_pos h, if_pos h]
 ·rw [if_neg h, if_neg h]
theorem ino3_end (os : List Nat) (o : Nat) : ino3 os o os.length = match idx os o with
  | some q => (q : Int) + 1
  | none => -1 := by
 unfold ino3
 rw [List.take_length]
def stI (l : List En) (i : Nat) : Bs Nat := (((ordL (pths l)).take i).map (trI l)).foldl bst ⟨[], [{ ndOf (look l []) with links := 2 }]⟩
theorem newO_len (s : Bs Nat) (t : Tp Nat) : (newO s t).os.length ≤ s.os.length + 1 := by
 unfold newO
 split
 ·omega
 ·simp
theorem fold_len : ∀ (ts : List (Tp Nat)) (s : Bs Nat), (ts.foldl bst s).os.length ≤ s.os.length + ts.length
 | [], s => by simp
 | t :: ts, s => by
  have h1 := fold_len ts (bst s t)
  have h2 : (bst s t).os.length ≤ s.os.length + 1 := newO_len s t
  rw [List.foldl_cons, List.length_cons]
  omega
theorem os_len {l : List En} {i : Nat} {os : List Nat} (h : Pl l (stI l i) os) : os.length ≤ i := by
 have h1 := fold_len (((ordL (pths l)).take i).map (trI l)) ⟨[], [{ ndOf (look l []) with links := 2 }]⟩
 have h2 : (stI l i).os.length = os.length := by rw [h.os_eq, List.length_map]
 unfold stI at h2
 rw [h2, List.length_map, List.length_take] at h1
 simp at h1
 omega
theorem stI_step {l : List En} {i k : Nat} (h : (ordL (pths l))[i]? = some k) : stI l (i + 1) = bst (stI l i) (trI l k) := by
 have hi : i < (ordL (pths l)).length := (List.getElem?_eq_some_iff.1 h).1
 have he : (ordL (pths l))[i] = k := (List.getElem?_eq_some_iff.1 h).2
 unfold stI
 rw [List.take_succ_eq_append_getElem hi, he, List.map_append, List.foldl_append]
 rfl
theorem kmax_stI (l : List En) (i : Nat) : kmax (stI l i).ns i := by
 have h0 : kmax [{ ndOf (look l []) with links := 2 }] 0 := by
  intro j n hn
  cases j with
  | zero => simp at hn; rw [← hn]; exact Nat.le_refl _
  | succ j => simp at hn
 have := kmax_fold (((ordL (pths l)).take i).map (trI l)) ⟨[], [{ ndOf (look l []) with links := 2 }]⟩ 0 h0 (by
  intro t ht
  obtain ⟨k, _, rfl⟩ := List.mem_map.1 ht
  rfl)
 unfold stI
 intro j n hn
 have h1 := this j n hn
 rw [List.length_map, List.length_take] at h1
 omega
theorem lmax_stI (l : List En) (i : Nat) : lmax (stI l i).ns (i + 2) := by
 have h0 : lmax [{ ndOf (look l []) with links := 2 }] 2 := by
  intro j n hn
  cases j with
  | zero =>
   simp at hn
   rw [← hn]
   show (0 : Int) ≤ 2 ∧ (2 : Int) ≤ ((2 : Nat) : Int)
   decide
  | succ j => simp at hn
 have := lmax_fold (((ordL (pths l)).take i).map (trI l)) ⟨[], [{ ndOf (look l []) with links := 2 }]⟩ 2 h0 (Nat.le_refl _)
 unfold stI
 intro j n hn
 have h1 := this j n hn
 rw [List.length_map, List.length_take] at h1
 omega
theorem canon_next {l : List En} {i kk up ino o : Nat} {os : List Nat} {ns : List No} {p : Tx} {d : Bool} (hk : (ordL (pths l))[i]? = some kk) (hp : Pl l (newO (stI l i) (trI l kk)) os) (hup : upOf (newO (stI l i) (trI l kk)).os (upT p) = up) (hino : inoOf (newO (stI l i) (trI l kk)).os o = ino) (hto : (trI l kk).o = o) (htp : (trI l kk).p = p) (hd : (trI l kk).dir = d)
  (hns : ns = if d = true then addLink up (setUp ino up (addKid up ⟨lastT p, ino⟩ (newO (stI l i) (trI l kk)).ns)) else addLink ino (addKid up ⟨lastT p, ino⟩ (newO (stI l i) (trI l kk)).ns)) : Pl l (stI l (i + 1)) os ∧ ns = (stI l (i + 1)).ns := by
 rw [stI_step hk]
 subst hto htp hd hup hino
 refine ⟨?_, hns⟩
 unfold bst
 apply hp.mod
 split <;> simp [addLink, setUp, addKid]
theorem stI_end {l : List En} (ok : OkS l) : (stI l (ordL (pths l)).length).ns = canon l := by
 rw [← canonI_eq ok]
 unfold stI canonI bld
 rw [List.take_length]
theorem bx_news {W : World} {g : Nat} {T : TypeId} {cs : List Value} (h : Bx W g T cs) : ∀ j u, cs[j]? = some u → W.cell? ((⟨g, 0, none⟩ : Addr).add j) = some u := by
 intro j u hu
 have e : (⟨g, 0, none⟩ : Addr).add j = ⟨g, j, none⟩ := by (simp [Addr.add]; intro h; exact h.symm)
 rw [e, h.c, hu]
theorem Tryz.infoN : (Tryz.prog.info? 43).map (fun i => (i.zero, i.size, i.bytes)) = some (some (.agg #[.int .i64 0, .int .i64 0, .int .i64 0, .int .i64 0, .int .i64 0, .int .i64 0, .slice none 0 0, .string ⟨#[]⟩, .int .i64 0, .slice none 0 0, .slice none 0 0, .int .i64 0, .int .i64 0]), 13, 160) := by kernel_rfl
theorem wp_append {P : Program} {o : Oper} {a : Act} {w w' : World} {K : Act → World → Prop} {Q : Exit → Act → World → Prop} {s x : Operand} {t : TypeId} {v u v' : Value} (hop : o.op = .call { callee := .builtin .append, args := #[s, x], argTypes := #[t, t] })
  (hs : a.eval s = v) (hx : a.eval x = u) (hrun : (Builtin.append_ #[t, t] o.type #[v, u]).run P w = .ok v' w') (hK : K (a.put o.dst v') w') : Oper.wp P o a w K Q := by
 unfold Oper.wp execOp
 simp only [hop, resolve, invoke, builtin, Sem.run_bind, Sem.run_pure, Result.andThen_ok, List.map_toArray, List.map_cons, List.map_nil, hs, hx, hrun]
 exact hK
def up4 (l : List En) (os : List Nat) (q : Tx) (j : Nat) : Int := match udx l (os.take j) q with
 | some p => (p : Int) + 1
 | none => 0
theorem up4_step {l : List En} (ok : OkS l) {os : List Nat} {q : Tx} {j x : Nat} (hn : os.Nodup) (hl : ∀ o ∈ os, o < l.length) (hx : os[j]? = some x) : up4 l os q (j + 1) = if (decide ((entI l x).k = 2) && decide ((entI l x).path = q)) = true then (j : Int) + 1 else up4 l os q j := by
 unfold up4
 rw [udx_step ok hn hl hx]
 by_cases h : (decide ((entI l x).k = 2) && decide ((entI l x).path = q)) = true
 ·rw [if_pos h, if_pos h]
 ·rw [if_neg h, if_neg h]
theorem drewn_more {W W0 : World} (h : ∃ t, W = W0.drewN t) (n : Nat) : ∃ t, W.drewN n = W0.drewN t := by
 obtain ⟨t, rfl⟩ := h
 exact ⟨t + n, dd _ _ _⟩
theorem Tryz.infoK : (Tryz.prog.info? 47).map (fun i => (i.zero, i.size, i.bytes)) = some (some (.agg #[.string ⟨#[]⟩, .int .i64 0]), 2, 24) := by kernel_rfl
def CaPost (w : World) (l : List En) (e : Ending) (w' : World) : Prop := ∃ (b : Option Addr) (n c : Nat) (ns : List NoV), e = .returned (.agg #[.slice b n c]) ∧ Td w w' w.heap.size (.slice b n c) ns ∧ ns.length = n ∧ nos ns = canon l


set_option maxRecDepth 100000 in
set_option maxHeartbeats 16000000 in
theorem rcanon_any (a : Option Addr) (len cap : Nat) (l : List EnV) (w : World) (E : Ens w a len l) (hs : Sml l) (hlen : len ≤ 100000) (hal : ∀ X ∈ l, X.al ≤ 100000) (ok : OkS (ens l)) :
  Calls Tryz.prog 14 #[.slice a len cap] w (CaPost w (ens l)) := by
 have HE : Hid _ := xai E (xai hs (xai hal ok))
 have hll : l.length = len := E.len_eq
 have HL : Hid _ := hll
 clear E hs hal ok hll
 have H0 : Hid (Rk w ((w.alloc (.cells #[.slice none 0 0] 33)).alloc (.cells #[.string ⟨#[]⟩, .int .i64 2, .int .i64 493, .int .i64 0, .int .i64 0, .int .i64 0, .int .i64 0, .slice none 0 0, .string ⟨#[]⟩, .int .i64 0, .slice none 0 0] 30)) l 0 rootV) := by
  refine ⟨?_, ?_, xgt (xga _ _ none) (xga _ _ none), .inl ⟨rfl, fun X hX => by simp at hX⟩⟩
  ·have := Bx.new (w.alloc (.cells #[.slice none 0 0] 33)) 30 (evc rootV)
   rw [World.size_alloc] at this
   exact this
  ·exact (Bx.new w 33 [.slice none 0 0]).kept (xga _ _ none)
 go_enter Tryz.func14, Tryz.ntmps14
 go_wp2
 generalize (w.alloc (.cells #[.slice none 0 0] 33)).alloc (.cells #[.string ⟨#[]⟩, .int .i64 2, .int .i64 493, .int .i64 0, .int .i64 0, .int .i64 0, .int .i64 0, .slice none 0 0, .string ⟨#[]⟩, .int .i64 0, .slice none 0 0] 30) = W1 at *
 go_loopw [4] (fun i wr => ∃ k : Nat, k ≤ len ∧ i = .int .i64 k ∧ Hid (∃ R, Rk w wr l k R)) (fun i _ => len - (intOf i).toNat)
 case atStart => exact ⟨0, Nat.zero_le _, rfl, _, H0.out⟩
 case round =>
  obtain ⟨k, hk, rfl, HR⟩ := hrel
  by_cases hlt : k < len
  ·have hlti : (k : Int) < len := by omega
   obtain ⟨X, hX⟩ : ∃ X, l[k]? = some X := ⟨_, List.getElem?_eq_getElem (by rw [HL.out]; exact hlt)⟩
   obtain ⟨R, hR⟩ := HR.out
   obtain ⟨b1, o1, rfl, c1⟩ := HE.out.1.at_ (by omega)
   obtain ⟨p0, p1, p2, p3, p4, p5, p6, p7, p8, p9, p10, -⟩ := (c1 k X hX).grown hR.gr
   have HRR : Hid _ := hR
   clear hR HR c1
   have HXX : Hid _ := hX
   clear hX
   cases hp : (X.path.toList == []) with
   | true =>
    have hpn : X.path.toList = [] := by simpa using hp
    have HPN : Hid _ := hpn
    clear hpn
    go_wp2_with ((with_reducible refine entry_here ?_); refine wpList_store_bx13 rfl 30 _ _ rfl (w.heap.size + 1) (evc X) rfl rfl HRR.out.bx entry_size rfl rfl ?_; intro W9 hz9 g9)
    exact ⟨⟨k + 1, by omega, by go_num, _, HRR.out.step HXX.out HPN.out hz9 g9⟩, by simp [intOf]; omega⟩
   | false =>
    have hpn : X.path.toList ≠ [] := by simpa using hp
    have HN : Hid _ := HRR.out.over HXX.out hpn
    clear hpn HRR
    go_wp2
    exact ⟨⟨k + 1, by omega, by go_num, _, HN.out⟩, by simp [intOf]; omega⟩
  ·have hlti : ¬ (k : Int) < len := by omega
   obtain rfl : k = len := by omega
   obtain ⟨R, hR⟩ := HR.out
   have hrk := hR.rok HE.out.1 HE.out.2.2.1
   have hnode := rnode_new R w wr hrk.1 hR.gr hrk.2
   have hlook : look (ens l) [] = R.en := by
    have h2 := hR
    rw [← HL.out] at h2
    exact h2.look HE.out.2.2.2
   have HLK : Hid _ := hlook
   obtain ⟨r0, r1, r2, r3, r4, r5, r6, r7, r8, r9, r10⟩ := bx11 hR.bx
   have HRR : Hid _ := hR
   clear hR HR hrk hlook
   go_wp2_with fail
   refine hnode.mono ?_
   clear hnode
   rintro e W2 ⟨N, rfl, hNok, hNno, hNk, hNg, hNn⟩
   obtain ⟨n0, n1, n2⟩ := no_kids hNno
   have HN : Hid _ := xai hNno (xai hNk (xai (nk_new hNn HRR.out.gr hNk n0) (xai n1 n2)))
   have HG2 : Hid _ := xgt HRR.out.gr hNg
   have HBR : Hid _ := HRR.out.br.kept hNg
   clear hNok hNno hNk hNn n0 n1 n2 r0 r1 r2 r3 r4 r5 r6 r7 r8 r9 r10
   simp only [NoV.val]
   have HLE : Hid _ := hlen
   clear hlt hlti hlen H0 hk
   go_wp2_with fail
   have hord := rorder11_any a k cap l ((W2.alloc (.cells (nvc { N with links := 2 }).toArray 43)).alloc (.cells #[.slice (some ⟨W2.heap.size, 0, none⟩) 1 1] 33)) (HE.out.1.grown (xgt (xgt HG2.out (xga _ _ none)) (xga _ _ none))) HE.out.2.1 HLE.out
   refine hord.mono ?_
   clear hord
   rintro e W4 ⟨vr, rfl, hro, hrg⟩
   have hcs := cs_first HN.out.2.2.1 HN.out.2.1.1 HG2.out HBR.out hro hrg
   have HC0 : Hid (∃ v ns os, Cs w W4 (W2.heap.size + 1) W4.heap.size v (.slice none 0 0) vr ns os (ordL (pths (ens l))) ∧ Pl (ens l) (stI (ens l) 0) os ∧ nos ns = (stI (ens l) 0).ns) := by
    refine ⟨_, _, _, hcs, Pl.nil _ _, ?_⟩
    show [NoV.no { N with links := 2 }] = [{ ndOf (look (ens l) []) with links := 2 }]
    rw [HLK.out, ← HN.out.1]
    rfl
   clear hcs hrg HN HG2 HBR HLK HRR
   obtain ⟨ra, rc, rfl⟩ := own_shape hro
   generalize W2.heap.size + 1 = gt at *
   generalize W4.heap.size = bo at *
   clear hro
   have hnO : (ordL (pths (ens l))).length ≤ 100001 := by
    have h1 := ordL_len (pths (ens l))
    have h2 : (pths (ens l)).length = l.length := by unfold pths ens; rw [List.length_map, List.length_map]
    have := HL.out
    have := HLE.out
    omega
   generalize hORD : ordL (pths (ens l)) = ORD at *
   have HORD : Hid _ := hORD
   clear hORD
   generalize hnn : ORD.length = nO at *
   have HNN : Hid _ := hnn
   clear hnn
   go_wp2_with fail
   generalize (Value.agg #[.string ⟨#[]⟩, .int .i64 2, .int .i64 493, .int .i64 0, .int .i64 0, .int .i64 0, .int .i64 0, .slice none 0 0, .string ⟨#[]⟩, .int .i64 0, .slice none 0 0]) = q15
   generalize (Value.agg #[.string R.path, .int .i64 R.k, .int .i64 R.mode, .int .i64 R.uid, .int .i64 R.gid, .int .i64 R.time, .int .i64 R.size, .slice R.da R.dl R.dc, .string R.target, .int .i64 R.dev, .slice R.aa R.al R.ac]) = q32
   generalize (Value.agg #[.int .i64 N.k, .int .i64 N.mode, .int .i64 N.uid, .int .i64 N.gid, .int .i64 N.time, .int .i64 N.size, .slice N.da N.dl N.dc, .string N.target, .int .i64 N.dev, .slice N.aa N.al N.ac, .slice N.ka N.kl N.kc, .int .i64 N.parent, .int .i64 N.links]) = q33
   generalize (Value.slice (some ⟨W2.heap.size, 0, none⟩) 1 1) = q34
   generalize (Value.pointer (some ⟨W2.heap.size, 0, none⟩)) = q38
   generalize (Value.pointer (some ⟨W2.heap.size, 12, none⟩)) = q39
   go_loopw [6, 8] (fun vo vi wr => ∃ i : Nat, i ≤ nO ∧ vi = .int .i64 i ∧ Hid (∃ v ns os, Cs w wr gt bo v vo (.slice ra nO rc) ns os ORD ∧ Pl (ens l) (stI (ens l) i) os ∧ nos ns = (stI (ens l) i).ns)) (fun _ vi _ => nO - (intOf vi).toNat)
   case atStart => exact ⟨0, Nat.zero_le _, rfl, HC0.out⟩
   case round =>
    obtain ⟨i, hi, rfl, HS⟩ := hrel
    by_cases hlt : i < nO
    ·have hlti : (i : Int) < nO := by omega
     obtain ⟨v, ns, os, hcs, hpl, hns⟩ := HS.out
     obtain ⟨kk, hkk⟩ : ∃ kk, ORD[i]? = some kk := ⟨_, List.getElem?_eq_getElem (by rw [HNN.out]; exact hlt)⟩
     obtain ⟨x, hx, hxp⟩ := ordL_lt HE.out.2.2.2 (i := kk) (by rw [HORD.out]; exact List.mem_of_getElem? hkk)
     obtain ⟨X, hX, hXe⟩ : ∃ X, l[kk]? = some X ∧ X.en = x := by
      unfold ens at hx
      rw [List.getElem?_map] at hx
      cases hq : l[kk]? with
      | none => rw [hq] at hx; cases hx
      | some X => rw [hq] at hx; simp at hx; exact ⟨X, rfl, hx⟩
     have hcr := order_cell hcs.orr HNN.out hkk
     obtain ⟨rg, rfl, hrc⟩ := hcr
     have how := rowner_any a k cap l wr (HE.out.1.grown hcs.td.gr) HLE.out kk X hX
     have HI : Hid _ := xai hcs (xai hpl (xai hns (xai hkk (xai hX (xai hx hXe)))))
     clear hcs hpl hns HS hkk hx hxp hXe hX HC0
     generalize hoo : ownI (ens l) kk X.en = o at *
     have HOO : Hid _ := hoo
     clear hoo
     go_wp2_with fail
     refine how.mono ?_
     clear how
     rintro e W5 ⟨rfl, g5⟩
     have HC5 : Hid _ := HI.out.1.kept g5
     have HI2 : Hid _ := HI.out.2
     clear HI hrc g5
     obtain ⟨oa, oc, hvo⟩ := own_shape HC5.out.own
     subst hvo
     have hmO : os.length ≤ 100001 := by
      have h1 := os_len HI2.out.1
      omega
     generalize hmm : os.length = m at *
     have HMM : Hid _ := hmm
     clear hmm
     go_wp2_with fail
     go_loopw [11, 12] (fun vn vj wq => ∃ j : Nat, j ≤ m ∧ vj = .int .i64 j ∧ vn = .int .i64 (ino3 os o j) ∧ W5 = wq) (fun _ vj _ => m - (intOf vj).toNat)
     case atStart => exact ⟨0, Nat.zero_le _, rfl, rfl, rfl⟩
     case round =>
      obtain ⟨j, hj, rfl, rfl, rfl⟩ := hrel
      by_cases hjlt : j < m
      ·have hjlti : (j : Int) < m := by omega
       obtain ⟨oj, hoj⟩ : ∃ oj, os[j]? = some oj := ⟨_, List.getElem?_eq_getElem (by rw [HMM.out]; exact hjlt)⟩
       have hstep := ino3_step (o := o) HI2.out.1.nd hoj
       obtain ⟨og, rfl, hoc⟩ := order_cell HC5.out.own HMM.out hoj
       have HST : Hid _ := hstep
       clear hstep hoj
       by_cases he : oj = o
       ·have heb : ((oj : Int) == (o : Int)) = true := by rw [he]; simp
        have h1 := HST.out
        rw [if_pos he] at h1
        have H1 : Hid _ := h1
        clear h1 he HST
        go_wp2
        exact ⟨⟨j + 1, by omega, by go_num, by rw [H1.out], by first | rfl | trivial⟩, by simp [intOf]; omega⟩
       ·have heb : ((oj : Int) == (o : Int)) = false := by rw [beq_eq_false_iff_ne]; omega
        have h1 := HST.out
        rw [if_neg he] at h1
        have H1 : Hid _ := h1
        clear h1 he HST
        go_wp2
        exact ⟨⟨j + 1, by omega, by go_num, by rw [H1.out], by first | rfl | trivial⟩, by simp [intOf]; omega⟩
      ·have hjlti : ¬ (j : Int) < m := by omega
       obtain rfl : j = m := by omega
       have hend := ino3_end os o
       rw [HMM.out] at hend
       generalize hIN : ino3 os o j = IN at *
       have HIN : Hid _ := hend
       clear hend hIN
       rename_i hnext
       have HNX : Hid _ := hnext
       clear hnext
       go_wp2
       refine HNX.out _ _ ?_
       clear HNX
       refine wp_seq_k (fun K7 hK7 => ?_)
       have tail : ∀ (W7 : World) (v7 : Value) (oa7 : Option Addr) (m7 oc7 ino7 : Nat) (ns7 : List NoV) (os7 : List Nat) (x12 x55 x56 x57 x58 x69 x70 x71 x72 x73 x74 x75 x76 x77 x78 x79 x80 x81 x82 x83 x84 x85 x86 x87 x88 x89 x90 x91 x92 x93 x94 x95 x96 x97 : Value), Hid (Cs w W7 gt bo v7 (.slice oa7 m7 oc7) (.slice (some ⟨rg, 0, none⟩) nO rc) ns7 os7 ORD ∧ Pl (ens l) (newO (stI (ens l) i) (trI (ens l) kk)) os7 ∧ nos ns7 = (newO (stI (ens l) i) (trI (ens l) kk)).ns ∧ os7.length = m7 ∧ inoOf (newO (stI (ens l) i) (trI (ens l) kk)).os o = ino7 ∧ 1 ≤ ino7 ∧ ino7 ≤ m7 ∧ m7 ≤ 100002) → K7 { tmps := #[Value.slice a k cap, undef, Value.pointer (some ⟨w.heap.size, 0, none⟩), Value.pointer (some ⟨w.heap.size + 1, 0, none⟩), Value.int IntKind.i64 k, Value.pointer (some ⟨gt, 0, none⟩), Value.slice oa7 m7 oc7, Value.slice (some ⟨rg, 0, none⟩) nO rc, Value.int IntKind.i64 i, Value.int IntKind.i64 kk, Value.int IntKind.i64 o, Value.int IntKind.i64 (ino7 : Int), x12, u13, u14, q15, Value.int IntKind.i64 k, Value.slice a k cap, Value.int IntKind.i64 k, Value.bool false, u20, u21, u22, u23, u24, u25, u26, u27, u28, u29, u30, u31, q32, q33, q34, Value.agg #[q34], Value.pointer (some ⟨gt, 0, none⟩), q34, q38, q39, Value.slice a k cap, Value.slice (some ⟨rg, 0, none⟩) nO rc, Value.int IntKind.i64 i, Value.slice (some ⟨rg, 0, none⟩) nO rc, Value.int IntKind.i64 nO, Value.bool true, u46, u47, Value.slice (some ⟨rg, 0, none⟩) nO rc, Value.int IntKind.i64 i, Value.pointer (some ⟨rg, i, none⟩), Value.int IntKind.i64 kk, Value.slice a k cap, Value.int IntKind.i64 kk, Value.int IntKind.i64 o, x55, x56, x57, x58, u59, u60, u61, u62, u63, u64, u65, u66, u67, u68, x69, x70, x71, x72, x73, x74, x75, x76, x77, x78, x79, x80, x81, x82, x83, x84, x85, x86, x87, x88, x89, x90, x91, x92, x93, x94, x95, x96, x97, u98, u99, u100, u101, u102, u103, u104, u105, u106, u107, u108, u109, u110, u111, u112, u113, u114, u115, u116, u117, u118, u119, u120, u121, u122, u123, u124, u125, u126, u127, u128, u129, u130, u131, u132, u133, u134, u135, u136, u137, u138, u139, u140, u141, u142, u143, u144, u145, u146, u147, u148, u149, u150, u151, u152, u153, u154, u155, u156, u157, u158, u159, u160, u161, u162, u163, u164, u165, u166, u167, u168, u169, u170, u171, u172, u173, u174, u175, u176, u177, u178, u179, u180, u181, u182, undef], defers := [] } W7 := by
        intro W7 v7 oa7 m7 oc7 ino7 ns7 os7 x12 x55 x56 x57 x58 x69 x70 x71 x72 x73 x74 x75 x76 x77 x78 x79 x80 x81 x82 x83 x84 x85 x86 x87 x88 x89 x90 x91 x92 x93 x94 x95 x96 x97 H7
        refine hK7 _ _ ?_
        clear hK7
        obtain ⟨b1, o1, rfl, c1⟩ := HE.out.1.at_ (by have := (List.getElem?_eq_some_iff.1 HI2.out.2.2.2.1).1; have := HL.out; omega)
        have HXX : Hid _ := xai (c1 kk X HI2.out.2.2.2.1) HI2.out.2.2.2.1
        have hkl : kk < k := by have := (List.getElem?_eq_some_iff.1 HXX.out.2).1; have := HL.out; omega
        have hUp := fun W => up_any X.path W (Nat.le_trans (HE.out.2.1 X (List.mem_of_getElem? HXX.out.2)).1 (by decide))
        have HC1 : Hid _ := c1
        have hm7 : m7 ≤ 100002 := H7.out.2.2.2.2.2.2.2
        clear c1
        go_wp2_with fail
        go_loopw [13, 14] (fun vu vj wq => ∃ j7 : Nat, j7 ≤ m7 ∧ vj = .int .i64 j7 ∧ vu = .int .i64 (up4 (ens l) os7 (upT X.path.toList) j7) ∧ Hid (∃ t, wq = W7.drewN t)) (fun _ vj _ => m7 - (intOf vj).toNat)
        case atStart => exact ⟨0, Nat.zero_le _, rfl, rfl, 0, rfl⟩
        case round =>
         obtain ⟨j7, hj7, rfl, rfl, HW8⟩ := hrel
         have hC8 : Cs w wr gt bo v7 (.slice oa7 m7 oc7) (.slice (some ⟨rg, 0, none⟩) nO rc) ns7 os7 ORD := by
          obtain ⟨t, e⟩ := HW8.out
          rw [e]
          exact H7.out.1.kept (drewG11 (World.grownBy.refl _ _) t)
         by_cases hjlt7 : j7 < m7
         ·have hjlti7 : (j7 : Int) < m7 := by omega
          obtain ⟨oj, hoj⟩ : ∃ oj, os7[j7]? = some oj := ⟨_, List.getElem?_eq_getElem (by rw [H7.out.2.2.2.1]; exact hjlt7)⟩
          have hstep := up4_step (q := upT X.path.toList) HE.out.2.2.2 H7.out.2.1.nd H7.out.2.1.lt hoj
          obtain ⟨og7, rfl, hoc⟩ := order_cell hC8.own H7.out.2.2.2.1 hoj
          have hojl : oj < (ens l).length := H7.out.2.1.lt oj (List.mem_of_getElem? hoj)
          obtain ⟨Y, hY⟩ : ∃ Y, l[oj]? = some Y := ⟨_, List.getElem?_eq_getElem (by unfold ens at hojl; rwa [List.length_map] at hojl)⟩
          have hent : entI (ens l) oj = Y.en := by unfold entI; rw [show (ens l)[oj]? = some Y.en from by unfold ens; rw [List.getElem?_map, hY]; rfl]; rfl
          rw [hent] at hstep
          have hokk : oj < k := by have := (List.getElem?_eq_some_iff.1 hY).1; have := HL.out; omega
          have y1 := ((HC1.out oj Y hY).grown hC8.td.gr).c1
          have y0 := ((HC1.out oj Y hY).grown hC8.td.gr).c0
          have x0 := (HXX.out.1.grown hC8.td.gr).c0
          have hup8 := fun n => hUp (wr.drewN n)
          have HST : Hid _ := hstep
          clear hstep hent hojl hY hoj hC8
          cases hk2 : (Y.k == 2) with
          | false =>
           have h2 : ¬ Y.k = 2 := by simpa using hk2
           have h1 := HST.out
           rw [if_neg (by show ¬ (decide (Y.k = 2) && _) = true; rw [decide_eq_false h2]; simp)] at h1
           have H1 : Hid _ := h1
           clear h1 HST h2
           go_wp2_with fail
           go_quiet ((go_at_call 40; exact quiet_eq11 (hup8 _)))
           go_wp2
           exact ⟨⟨j7 + 1, by omega, by go_num, by rw [H1.out], drewn_more HW8.out _⟩, by simp [intOf]; omega⟩
          | true =>
           have h2 : Y.k = 2 := by simpa using hk2
           have hux : (tx (upT X.path.toList)).toList = upT X.path.toList := tx_tl _
           generalize tx (upT X.path.toList) = ups at *
           have HUX : Hid _ := hux
           clear hux
           cases hpe : (Y.path.toList == ups.toList) with
           | false =>
            have h1 := HST.out
            rw [if_neg (by intro hh; rw [Bool.and_eq_true, decide_eq_true_eq, decide_eq_true_eq] at hh; exact (by simpa using hpe : ¬ Y.path.toList = ups.toList) (by rw [HUX.out]; exact hh.2))] at h1
            have H1 : Hid _ := h1
            clear h1 HST h2
            go_wp2_with fail
            go_quiet ((go_at_call 40; exact quiet_eq11 (hup8 _)))
            go_wp2
            exact ⟨⟨j7 + 1, by omega, by go_num, by rw [H1.out], drewn_more HW8.out _⟩, by simp [intOf]; omega⟩
           | true =>
            have h1 := HST.out
            rw [if_pos (by show (decide (Y.k = 2) && decide (Y.path.toList = upT X.path.toList)) = true; rw [← HUX.out, decide_eq_true h2, decide_eq_true (by simpa using hpe)]; rfl)] at h1
            have H1 : Hid _ := h1
            clear h1 HST h2
            go_wp2_with fail
            go_quiet ((go_at_call 40; exact quiet_eq11 (hup8 _)))
            go_wp2
            exact ⟨⟨j7 + 1, by omega, by go_num, by rw [H1.out], drewn_more HW8.out _⟩, by simp [intOf]; omega⟩
         ·have hjlti7 : ¬ (j7 : Int) < m7 := by omega
          obtain rfl : j7 = m7 := by omega
          have hupe : up4 (ens l) os7 (upT X.path.toList) j7 = ((upOf (newO (stI (ens l) i) (trI (ens l) kk)).os (upT X.path.toList) : Nat) : Int) := by
           rw [udx_up H7.out.2.1]
           unfold up4
           rw [List.take_of_length_le (by rw [H7.out.2.2.2.1]; exact Nat.le_refl _)]
           cases udx (ens l) os7 (upT X.path.toList) <;> simp
          have hupl : upOf (newO (stI (ens l) i) (trI (ens l) kk)).os (upT X.path.toList) ≤ j7 := by
           rw [udx_up H7.out.2.1]
           cases hu : udx (ens l) os7 (upT X.path.toList) with
           | none => exact Nat.zero_le _
           | some p => have := udx_lt hu; have := H7.out.2.2.2.1; simp only; omega
          rw [hupe]
          generalize hUO : upOf (newO (stI (ens l) i) (trI (ens l) kk)).os (upT X.path.toList) = up at *
          have HUO : Hid _ := hUO
          have HC8 : Hid _ := hC8
          clear hupe hUO hC8 HW8
          rename_i hnext8
          have HN8 : Hid _ := hnext8
          clear hnext8
          go_wp2
          refine HN8.out _ _ ?_
          clear HN8
          refine wp_seq_k (fun K9 hK9 => ?_)
          have hn7 : ns7.length = j7 + 1 := by have h1 := congrArg List.length H7.out.2.2.1; rw [nos_len, H7.out.2.1.len, H7.out.2.2.2.1] at h1; exact h1
          obtain ⟨vg, vc, hve, -, -, -, -⟩ := HC8.out.td.form (by intro e; rw [e] at hn7; simp at hn7)
          rw [hn7] at hve
          subst hve
          obtain ⟨U, hU⟩ : ∃ U, ns7[up]? = some U := ⟨_, List.getElem?_eq_getElem (by rw [hn7]; omega)⟩
          have HKS : Hid (U.kl ≤ 100002) := by
           have h1 := (HC8.out.td.each up U hU).klen
           have h2 := kmax_new (kmax_stI (ens l) i) (t := trI (ens l) kk) rfl up U.no (by rw [← H7.out.2.2.1]; unfold nos; rw [List.getElem?_map, hU]; rfl)
           have h3 : U.no.kids = U.kids := rfl
           rw [h3] at h2
           show U.kl ≤ 100002
           omega
          have HU : Hid _ := xai hn7 hU
          clear hn7 hU
          have hLast := fun W => last_any X.path W (Nat.le_trans (HE.out.2.1 X (List.mem_of_getElem? HXX.out.2)).1 (by decide))
          obtain ⟨ik, hik, hz0, hz1, hz2⟩ := info_parts Tryz.infoK
          have HIK : Hid _ := xai hik (xai hz0 (xai hz1 hz2))
          clear hik hz0 hz1 hz2 hUp
          have hup13 : (up : Int) < ((j7 + 1 : Nat) : Int) := by omega
          have tail34 : ∀ (W10 : World) (ka : Option Addr) (kl kc : Nat) (y132 y133 y134 y135 y136 y137 y138 y139 y140 y141 y142 y143 y144 y145 y146 y147 y148 y149 y150 y151 y152 : Value), Hid (Cs w W10 gt bo (.slice (some ⟨vg, 0, none⟩) (j7 + 1) vc) (.slice oa7 j7 oc7) (.slice (some ⟨rg, 0, none⟩) nO rc) (ns7.set up { U with ka := ka, kl := kl, kc := kc, kids := U.kids ++ [⟨lastT X.path.toList, ino7⟩] }) os7 ORD) → K9 { tmps := #[Value.slice (some ⟨b1, o1, none⟩) k cap, undef, Value.pointer (some ⟨w.heap.size, 0, none⟩), Value.pointer (some ⟨w.heap.size + 1, 0, none⟩), Value.int IntKind.i64 k, Value.pointer (some ⟨gt, 0, none⟩), Value.slice oa7 j7 oc7, Value.slice (some ⟨rg, 0, none⟩) nO rc, Value.int IntKind.i64 i, Value.int IntKind.i64 kk, Value.int IntKind.i64 o, Value.int IntKind.i64 ino7, x12, Value.int IntKind.i64 up, Value.int IntKind.i64 j7, q15, Value.int IntKind.i64 k, Value.slice (some ⟨b1, o1, none⟩) k cap, Value.int IntKind.i64 k, Value.bool false, u20, u21, u22, u23, u24, u25, u26, u27, u28, u29, u30, u31, q32, q33, q34, Value.agg #[q34], Value.pointer (some ⟨gt, 0, none⟩), q34, q38, q39, Value.slice (some ⟨b1, o1, none⟩) k cap, Value.slice (some ⟨rg, 0, none⟩) nO rc, Value.int IntKind.i64 i, Value.slice (some ⟨rg, 0, none⟩) nO rc, Value.int IntKind.i64 nO, Value.bool true, u46, u47, Value.slice (some ⟨rg, 0, none⟩) nO rc, Value.int IntKind.i64 i, Value.pointer (some ⟨rg, i, none⟩), Value.int IntKind.i64 kk, Value.slice (some ⟨b1, o1, none⟩) k cap, Value.int IntKind.i64 kk, Value.int IntKind.i64 o, x55, x56, x57, x58, u59, u60, u61, u62, u63, u64, u65, u66, u67, u68, x69, x70, x71, x72, x73, x74, x75, x76, x77, x78, x79, x80, x81, x82, x83, x84, x85, x86, x87, x88, x89, x90, x91, x92, x93, x94, x95, x96, x97, Value.int IntKind.i64 j7, Value.slice oa7 j7 oc7, Value.int IntKind.i64 j7, Value.bool false, u102, u103, u104, u105, u106, u107, u108, u109, u110, u111, u112, u113, u114, u115, u116, u117, u118, u119, u120, u121, u122, u123, u124, u125, u126, u127, u128, u129, u130, u131, y132, y133, y134, y135, y136, y137, y138, y139, y140, y141, y142, y143, y144, y145, y146, y147, y148, y149, y150, y151, y152, u153, u154, u155, u156, u157, u158, u159, u160, u161, u162, u163, u164, u165, u166, u167, u168, u169, u170, u171, u172, u173, u174, u175, u176, u177, u178, u179, u180, u181, u182, undef], defers := [] } W10 := by
           intro W10 ka kl kc y132 y133 y134 y135 y136 y137 y138 y139 y140 y141 y142 y143 y144 y145 y146 y147 y148 y149 y150 y151 y152 H10
           refine hK9 _ _ ?_
           clear hK9
           have hkk8 : kk < (ens l).length := (List.getElem?_eq_some_iff.1 HI2.out.2.2.2.2.1).1
           have hent : entI (ens l) kk = X.en := by unfold entI; rw [HI2.out.2.2.2.2.1, HI2.out.2.2.2.2.2]; rfl
           have hto : (trI (ens l) kk).o = o := by show ownI (ens l) kk (entI (ens l) kk) = o; rw [hent, HOO.out]
           have htp : (trI (ens l) kk).p = X.path.toList := by show (entI (ens l) kk).path = _; rw [hent]; rfl
           obtain ⟨y, hy, -⟩ := ownI_facts HE.out.2.2.2 HI2.out.2.2.2.2.1
           rw [← HI2.out.2.2.2.2.2, HOO.out] at hy
           obtain ⟨Y, hY, hYe⟩ : ∃ Y, l[o]? = some Y ∧ Y.en = y := by
            unfold ens at hy
            rw [List.getElem?_map] at hy
            cases hq : l[o]? with
            | none => rw [hq] at hy; cases hy
            | some Y => rw [hq] at hy; simp at hy; exact ⟨Y, rfl, hy⟩
           have hentY : entI (ens l) o = Y.en := by unfold entI; rw [show (ens l)[o]? = some Y.en from by unfold ens; rw [List.getElem?_map, hY]; rfl]; rfl
           have hdir : (trI (ens l) kk).dir = decide (Y.k = 2) := by
            show decide ((entI (ens l) (ownI (ens l) kk (entI (ens l) kk))).k = 2) = _
            rw [hent, HOO.out, hentY]
            rfl
           have hlo : o < k := by have := (List.getElem?_eq_some_iff.1 hY).1; have := HL.out; omega
           have y1 := ((HC1.out o Y hY).grown H10.out.td.gr).c1
           have HD : Hid _ := xai hto (xai htp hdir)
           clear hy hYe hentY hent hto htp hdir hY hkk8
           have hn8 : (ns7.set up { U with ka := ka, kl := kl, kc := kc, kids := U.kids ++ [⟨lastT X.path.toList, ino7⟩] }).length = j7 + 1 := by rw [List.length_set]; exact HU.out.1
           have hU8 : (ns7.set up { U with ka := ka, kl := kl, kc := kc, kids := U.kids ++ [⟨lastT X.path.toList, ino7⟩] })[up]? = some { U with ka := ka, kl := kl, kc := kc, kids := U.kids ++ [⟨lastT X.path.toList, ino7⟩] } := by rw [List.getElem?_set, if_pos rfl, if_pos (by rw [HU.out.1]; omega)]
           obtain ⟨Q, hQ⟩ : ∃ Q, (ns7.set up { U with ka := ka, kl := kl, kc := kc, kids := U.kids ++ [⟨lastT X.path.toList, ino7⟩] })[ino7]? = some Q := ⟨_, List.getElem?_eq_getElem (by rw [hn8]; have := H7.out.2.2.2.2.2.2.1; omega)⟩
           have hno8 : nos (ns7.set up { U with ka := ka, kl := kl, kc := kc, kids := U.kids ++ [⟨lastT X.path.toList, ino7⟩] }) = addKid up ⟨lastT X.path.toList, ino7⟩ (newO (stI (ens l) i) (trI (ens l) kk)).ns := by
            rw [nos_set HU.out.2 (f := fun n => { n with kids := n.kids ++ [⟨lastT X.path.toList, ino7⟩] }) rfl, H7.out.2.2.1]
            rfl
           have hlm : lmax (nos (ns7.set up { U with ka := ka, kl := kl, kc := kc, kids := U.kids ++ [⟨lastT X.path.toList, ino7⟩] })) (i + 2) := by
            rw [hno8]
            exact lmax_mod (d := 0) (lmax_new (lmax_stI (ens l) i) (by omega)) (fun n => ⟨Int.le_refl _, by simp⟩)
           have hino : ino7 < j7 + 1 := by have := H7.out.2.2.2.2.2.2.1; omega
           generalize hNS : ns7.set up { U with ka := ka, kl := kl, kc := kc, kids := U.kids ++ [⟨lastT X.path.toList, ino7⟩] } = ns8 at *
           clear hNS
           have hino2 : ¬ ((j7 : Int) + 1 ≤ (ino7 : Int)) := by omega
           have hup2 : ¬ ((j7 : Int) + 1 ≤ (up : Int)) := by omega
           have bt10 : _ = some _ := H10.out.bt.c 0
           have hi1 : i + 1 ≤ nO := by omega
           cases hk2 : (Y.k == 2) with
           | true =>
            have h2 : decide (Y.k = 2) = true := by simpa using hk2
            have c11 : W10.cell? ⟨vg, ino7 * 13 + 11, none⟩ = some (.int .i64 Q.parent) := H10.out.td.cell hn8 hQ (f := 11) (by decide)
            have f11 := H10.out.td.froz hn8 (ino7 * 13 + 11)
            have T1 := H10.out.set hn8 hQ (f := 11) (X' := { Q with parent := up }) (u := .int .i64 up) (by decide) rfl ⟨rfl, rfl, rfl, rfl, rfl, rfl, rfl, rfl, rfl, rfl, rfl⟩
            have hno9 := nos_set (X' := { Q with parent := up }) hQ (f := fun n => { n with parent := up }) rfl
            have hn9 : (ns8.set ino7 { Q with parent := up }).length = j7 + 1 := by rw [List.length_set]; exact hn8
            generalize ns8.set ino7 { Q with parent := up } = ns9 at *
            obtain ⟨V, hV⟩ : ∃ V, ns9[up]? = some V := ⟨_, List.getElem?_eq_getElem (by rw [hn9]; omega)⟩
            have c12 : _ = some (Value.int .i64 V.links) := T1.td.cell hn9 hV (f := 12) (by decide)
            have f12 := T1.td.froz hn9 (up * 13 + 12)
            have bt11 : _ = some _ := T1.bt.c 0
            have hvl : 0 ≤ V.links ∧ V.links ≤ 100010 := by
             have h1 := lmax_mod (i := ino7) (d := 0) (f := fun n => { n with parent := (up : Int) }) hlm (fun n => ⟨Int.le_refl _, by simp⟩)
             rw [← hno9] at h1
             have h3 := h1 up V.no (by unfold nos; rw [List.getElem?_map, hV]; rfl)
             have h4 : V.no.links = V.links := rfl
             rw [h4] at h3
             omega
            obtain ⟨hv0, hv1⟩ := hvl
            have T2 := T1.set hn9 hV (f := 12) (X' := { V with links := V.links + 1 }) (u := .int .i64 (V.links + 1)) (by decide) rfl ⟨rfl, rfl, rfl, rfl, rfl, rfl, rfl, rfl, rfl, rfl, rfl⟩
            have hno10 := nos_set (X' := { V with links := V.links + 1 }) hV (f := fun n => { n with links := n.links + 1 }) rfl
            have HFIN : Hid (∃ v ns os, Cs w ((W10.setCell ⟨vg, ino7 * 13 + 11, none⟩ (.int .i64 up)).setCell ⟨vg, up * 13 + 12, none⟩ (.int .i64 (V.links + 1))) gt bo v (.slice oa7 j7 oc7) (.slice (some ⟨rg, 0, none⟩) nO rc) ns os ORD ∧ Pl (ens l) (stI (ens l) (i + 1)) os ∧ nos ns = (stI (ens l) (i + 1)).ns) := by
             refine ⟨_, _, os7, T2, canon_next (by rw [HORD.out]; exact HI2.out.2.2.1) H7.out.2.1 HUO.out H7.out.2.2.2.2.1 HD.out.1 HD.out.2.1 (HD.out.2.2.trans h2) ?_⟩
             rw [if_pos rfl, hno10, hno9, hno8]
             rfl
            clear T1 T2 hno8 hno9 hno10 hlm hQ hV hn8 hn9 hU8 h2
            go_wp2
            exact ⟨⟨i + 1, by omega, by go_num, HFIN⟩, by simp [intOf]; omega⟩
           | false =>
            have h2 : decide (Y.k = 2) = false := by simpa using hk2
            have c12 : W10.cell? ⟨vg, ino7 * 13 + 12, none⟩ = some (.int .i64 Q.links) := H10.out.td.cell hn8 hQ (f := 12) (by decide)
            have f12 := H10.out.td.froz hn8 (ino7 * 13 + 12)
            have hvl : 0 ≤ Q.links ∧ Q.links ≤ 100010 := by
             have h3 := hlm ino7 Q.no (by unfold nos; rw [List.getElem?_map, hQ]; rfl)
             have h4 : Q.no.links = Q.links := rfl
             rw [h4] at h3
             omega
            obtain ⟨hv0, hv1⟩ := hvl
            have T2 := H10.out.set hn8 hQ (f := 12) (X' := { Q with links := Q.links + 1 }) (u := .int .i64 (Q.links + 1)) (by decide) rfl ⟨rfl, rfl, rfl, rfl, rfl, rfl, rfl, rfl, rfl, rfl, rfl⟩
            have hno10 := nos_set (X' := { Q with links := Q.links + 1 }) hQ (f := fun n => { n with links := n.links + 1 }) rfl
            have HFIN : Hid (∃ v ns os, Cs w (W10.setCell ⟨vg, ino7 * 13 + 12, none⟩ (.int .i64 (Q.links + 1))) gt bo v (.slice oa7 j7 oc7) (.slice (some ⟨rg, 0, none⟩) nO rc) ns os ORD ∧ Pl (ens l) (stI (ens l) (i + 1)) os ∧ nos ns = (stI (ens l) (i + 1)).ns) := by
             refine ⟨_, _, os7, T2, canon_next (by rw [HORD.out]; exact HI2.out.2.2.1) H7.out.2.1 HUO.out H7.out.2.2.2.2.1 HD.out.1 HD.out.2.1 (HD.out.2.2.trans h2) ?_⟩
             rw [if_neg (by decide), hno10, hno8]
             rfl
            clear T2 hno8 hno10 hlm hQ hn8 hU8 h2
            go_wp2
            exact ⟨⟨i + 1, by omega, by go_num, HFIN⟩, by simp [intOf]; omega⟩
          clear hK9
          have hC := HC8.out.kept (drewG0 wr)
          refine wp_region_held_drew (S := fun w' => w.grownBy w' none ∧ Bx w' gt 33 [.slice (some ⟨vg, 0, none⟩) (j7 + 1) vc]) (by kernel_rfl) ⟨hC.td.gr, hC.bt⟩ (fun hH => ?_)
          generalize wr.drew = WD at *
          clear HC8
          refine tk (i := 0) (oi := ⟨some 132, _, _, _, _, _⟩) (v := .pointer (some ⟨gt, 0, none⟩)) rfl (Or.inl ⟨by rfl, fun w hSw => by go_simp⟩) hH ?_
          simp only [Act.put, pu]
          refine tk (i := 1) (oi := ⟨some 133, _, _, _, _, _⟩) (v := .slice (some ⟨vg, 0, none⟩) (j7 + 1) vc) rfl (Or.inl ⟨by rfl, fun w hSw => by have e1 : _ = some _ := hSw.2.c 0; go_simp⟩) hH ?_
          simp only [Act.put, pu]
          refine tk (i := 2) (oi := ⟨some 134, _, _, _, _, _⟩) (v := .int .i64 up) rfl (Or.inl ⟨by rfl, fun w hSw => by go_simp⟩) hH ?_
          simp only [Act.put, pu]
          refine tk (i := 3) (oi := ⟨some 135, _, _, _, _, _⟩) (v := .pointer (some ⟨gt, 0, none⟩)) rfl (Or.inl ⟨by rfl, fun w hSw => by go_simp⟩) hH ?_
          simp only [Act.put, pu]
          refine tk (i := 4) (oi := ⟨some 136, _, _, _, _, _⟩) (v := .slice (some ⟨vg, 0, none⟩) (j7 + 1) vc) rfl (Or.inl ⟨by rfl, fun w hSw => by have e1 : _ = some _ := hSw.2.c 0; go_simp⟩) hH ?_
          simp only [Act.put, pu]
          refine tk (i := 5) (oi := ⟨some 137, _, _, _, _, _⟩) (v := .int .i64 up) rfl (Or.inl ⟨by rfl, fun w hSw => by go_simp⟩) hH ?_
          simp only [Act.put, pu]
          refine tk (i := 6) (oi := ⟨some 138, _, _, _, _, _⟩) (v := .pointer (some ⟨vg, up * 13, none⟩)) rfl (Or.inl ⟨by rfl, fun w hSw => by go_simp; intro hh; omega⟩) hH ?_
          simp only [Act.put, pu]
          refine tk (i := 7) (oi := ⟨some 139, _, _, _, _, _⟩) (v := .pointer (some ⟨vg, up * 13 + 10, none⟩)) rfl (Or.inl ⟨by rfl, fun w hSw => by go_simp⟩) hH ?_
          simp only [Act.put, pu]
          refine tk (i := 9) (oi := ⟨some 141, _, _, _, _, _⟩) (v := .slice (some ⟨b1, o1, none⟩) k cap) rfl (Or.inl ⟨by rfl, fun w hSw => by go_simp⟩) hH ?_
          simp only [Act.put, pu]
          refine tk (i := 10) (oi := ⟨some 142, _, _, _, _, _⟩) (v := .int .i64 kk) rfl (Or.inl ⟨by rfl, fun w hSw => by go_simp⟩) hH ?_
          simp only [Act.put, pu]
          refine tk (i := 11) (oi := ⟨some 143, _, _, _, _, _⟩) (v := .pointer (some ⟨b1, o1 + kk * 11, none⟩)) rfl (Or.inl ⟨by rfl, fun w hSw => by go_simp⟩) hH ?_
          simp only [Act.put, pu]
          refine tk (i := 12) (oi := ⟨some 144, _, _, _, _, _⟩) (v := .pointer (some ⟨b1, o1 + kk * 11, none⟩)) rfl (Or.inl ⟨by rfl, fun w hSw => by go_simp⟩) hH ?_
          simp only [Act.put, pu]
          refine tk (i := 13) (oi := ⟨some 145, _, _, _, _, _⟩) (v := .string X.path) rfl (Or.inl ⟨by rfl, fun w hSw => by have p0 := (HXX.out.1.grown hSw.1).c0; go_simp⟩) hH ?_
          simp only [Act.put, pu]
          refine tk (i := 15) (oi := ⟨some 147, _, _, _, _, _⟩) (v := .int .i64 ino7) rfl (Or.inl ⟨by rfl, fun w hSw => by go_simp⟩) hH ?_
          simp only [Act.put, pu]
          refine wpAnyH_ready (rs := [8, 14]) (by kernel_rfl) (by simp) ?_
          refine AllReadyH.cons rfl (fun K1 hK => ?_) (AllReadyH.cons rfl (fun K1 hK => ?_) AllReadyH.nil)
          ·skip
           have c1 : _ = some _ := hC.td.cell HU.out.1 HU.out.2 (f := 10) (by decide)
           try simp only [nvc, List.getElem?_cons_succ, List.getElem?_cons_zero] at c1
           go_simp
           refine hK.out _ _ hH (fun h0 => ?_)
           clear h0 hK K1 c1
           refine wpAnyH_ready (rs := [14]) (by kernel_rfl) (by simp) ?_
           refine AllReadyH.cons rfl (fun K1 hK => ?_) AllReadyH.nil
           go_simp
           refine (hLast _).mono ?_
           rintro e W7' ⟨rfl, rfl⟩
           refine hK.out _ _ hH (fun h0 => ?_)
           clear h0 hK K1
           try simp only [Act.put, pu]
           refine tk (i := 16) (oi := ⟨some 148, _, _, _, _, _⟩) (v := .agg #[.string (tx (lastT X.path.toList)), .int .i64 ino7]) rfl (Or.inl ⟨by rfl, fun w hSw => by go_simp⟩) hH ?_
           simp only [Act.put, pu]
           refine wpAnyH_ready (rs := [17]) (by kernel_rfl) (by simp) ?_
           refine AllReadyH.cons rfl (fun K1 hK => ?_) AllReadyH.nil
           have g8 := xga WD (.cells (kdc ⟨lastT X.path.toList, ino7⟩).toArray 47) none
           have b8 := Bx.new WD 47 (kdc ⟨lastT X.path.toList, ino7⟩)
           go_simp
           replace hC := hC.kept g8
           replace hH := xai (xgt hH.1 g8) (hH.2.kept g8)
           change K1 _ (WD.alloc (.cells (kdc ⟨lastT X.path.toList, ino7⟩).toArray 47))
           generalize hW8 : WD.alloc (.cells (kdc ⟨lastT X.path.toList, ino7⟩).toArray 47) = W8 at *
           clear hW8 g8
           refine hK.out _ _ hH (fun h0 => ?_)
           clear h0 hK K1
           refine wpAnyH_ready (rs := [18]) (by kernel_rfl) (by simp) ?_
           refine AllReadyH.cons rfl (fun K1 hK => ?_) AllReadyH.nil
           have hUk := (hC.td.each up U HU.out.2).kid
           have hkl0 := (hC.td.each up U HU.out.2).klen
           obtain ⟨v', W9, hrun, hown', hgrow, _, hat⟩ := run_append_own_at (P := Tryz.prog) W8 w.heap.size 41 41 47 ik _ 2 _ Tryz.underlying41 HIK.out.1 HIK.out.2.1 HIK.out.2.2.1 HIK.out.2.2.2 rfl (by decide) _ _ _ hUk ⟨WD.heap.size, 0, none⟩ 1 1 (kdc ⟨lastT X.path.toList, ino7⟩) rfl (bx_news b8) (by intro u hu; simp [kdc] at hu; rcases hu with h | h <;> rw [h] <;> rfl) (by have := HKS.out; unfold maxLen; omega) (by have := HKS.out; omega) hC.td.gr.size
           obtain ⟨ka, kc, rfl⟩ : ∃ ka kc, v' = .slice ka (U.kl + 1) kc := own_shape hown'
           have hC9 := hC.addK HU.out.1 HU.out.2 hown' rfl hgrow (by rcases hat with h | h; (exact Or.inl h); exact Or.inr ⟨_, h, Nat.le_refl _⟩)
           have bt9 := hH.2.but hgrow (bx_ne hH.2 hUk (by decide))
           have gr9 := grown_ownB hH.1 hUk hgrow (Nat.le_refl _)
           have c9 : W9.cell? ⟨vg, up * 13 + 10, none⟩ = (nvc U)[10]? := by
            have h1 := (hC.td.own.kept hgrow (owns_ne hC.td.own hUk (by decide)))
            rw [HU.out.1] at h1
            rw [h1.cellAt (up * 13 + 10) (by omega), flat_at nvc 13 nvc_len ns7 up 10 U HU.out.2 (by decide)]
           have f9 : W9.frozen? ⟨vg, up * 13 + 10, none⟩ = false := by
            have h1 := (hC.td.own.kept hgrow (owns_ne hC.td.own hUk (by decide)))
            rw [HU.out.1] at h1
            exact h1.frozenAt _
           try simp only [nvc, List.getElem?_cons_succ, List.getElem?_cons_zero] at c9
           rw [if_pos (by rfl)]
           replace hH := xai gr9 bt9
           refine wp_append (u := .slice (some ⟨WD.heap.size, 0, none⟩) 1 1) rfl rfl rfl hrun (hK.out _ _ hH (fun h0 => ?_))
           clear h0 hK K1 hrun hgrow hC hown' hat hUk hkl0 gr9 bt9
           simp only [Act.put, pu]
           refine tk (i := 19) (oi := ⟨some 151, _, _, _, _, _⟩) (v := .pointer (some ⟨vg, up * 13, none⟩)) rfl (Or.inl ⟨by rfl, fun w hSw => by go_simp; intro hh; omega⟩) hH ?_
           simp only [Act.put, pu]
           refine tk (i := 20) (oi := ⟨some 152, _, _, _, _, _⟩) (v := .pointer (some ⟨vg, up * 13 + 10, none⟩)) rfl (Or.inl ⟨by rfl, fun w hSw => by go_simp⟩) hH ?_
           simp only [Act.put, pu]
           refine wpAnyH_ready (rs := [21]) (by kernel_rfl) (by simp) ?_
           refine AllReadyH.cons rfl (fun K1 hK => ?_) AllReadyH.nil
           go_simp
           have hH2 := xai hC9.td.gr hC9.bt
           refine hK.out _ _ hH2 (fun h0 => ?_)
           clear h0 hK K1
           refine wpAnyH_done (by kernel_rfl) ?_ _
           exact tail34 _ ka (U.kl + 1) kc _ _ _ _ _ _ _ _ _ _ _ _ _ _ _ _ _ _ _ _ _ hC9
          ·skip
           go_simp
           refine (hLast _).mono ?_
           rintro e W7' ⟨rfl, rfl⟩
           refine hK.out _ _ hH (fun h0 => ?_)
           clear h0 hK K1
           try simp only [Act.put, pu]
           refine tk (i := 16) (oi := ⟨some 148, _, _, _, _, _⟩) (v := .agg #[.string (tx (lastT X.path.toList)), .int .i64 ino7]) rfl (Or.inl ⟨by rfl, fun w hSw => by go_simp⟩) hH ?_
           simp only [Act.put, pu]
           refine wpAnyH_ready (rs := [8, 17]) (by kernel_rfl) (by simp) ?_
           refine AllReadyH.cons rfl (fun K1 hK => ?_) (AllReadyH.cons rfl (fun K1 hK => ?_) AllReadyH.nil)
           ·skip
            have c1 : _ = some _ := hC.td.cell HU.out.1 HU.out.2 (f := 10) (by decide)
            try simp only [nvc, List.getElem?_cons_succ, List.getElem?_cons_zero] at c1
            go_simp
            refine hK.out _ _ hH (fun h0 => ?_)
            clear h0 hK K1 c1
            refine wpAnyH_ready (rs := [17]) (by kernel_rfl) (by simp) ?_
            refine AllReadyH.cons rfl (fun K1 hK => ?_) AllReadyH.nil
            have g8 := xga WD (.cells (kdc ⟨lastT X.path.toList, ino7⟩).toArray 47) none
            have b8 := Bx.new WD 47 (kdc ⟨lastT X.path.toList, ino7⟩)
            go_simp
            replace hC := hC.kept g8
            replace hH := xai (xgt hH.1 g8) (hH.2.kept g8)
            change K1 _ (WD.alloc (.cells (kdc ⟨lastT X.path.toList, ino7⟩).toArray 47))
            generalize hW8 : WD.alloc (.cells (kdc ⟨lastT X.path.toList, ino7⟩).toArray 47) = W8 at *
            clear hW8 g8
            refine hK.out _ _ hH (fun h0 => ?_)
            clear h0 hK K1
            refine wpAnyH_ready (rs := [18]) (by kernel_rfl) (by simp) ?_
            refine AllReadyH.cons rfl (fun K1 hK => ?_) AllReadyH.nil
            have hUk := (hC.td.each up U HU.out.2).kid
            have hkl0 := (hC.td.each up U HU.out.2).klen
            obtain ⟨v', W9, hrun, hown', hgrow, _, hat⟩ := run_append_own_at (P := Tryz.prog) W8 w.heap.size 41 41 47 ik _ 2 _ Tryz.underlying41 HIK.out.1 HIK.out.2.1 HIK.out.2.2.1 HIK.out.2.2.2 rfl (by decide) _ _ _ hUk ⟨WD.heap.size, 0, none⟩ 1 1 (kdc ⟨lastT X.path.toList, ino7⟩) rfl (bx_news b8) (by intro u hu; simp [kdc] at hu; rcases hu with h | h <;> rw [h] <;> rfl) (by have := HKS.out; unfold maxLen; omega) (by have := HKS.out; omega) hC.td.gr.size
            obtain ⟨ka, kc, rfl⟩ : ∃ ka kc, v' = .slice ka (U.kl + 1) kc := own_shape hown'
            have hC9 := hC.addK HU.out.1 HU.out.2 hown' rfl hgrow (by rcases hat with h | h; (exact Or.inl h); exact Or.inr ⟨_, h, Nat.le_refl _⟩)
            have bt9 := hH.2.but hgrow (bx_ne hH.2 hUk (by decide))
            have gr9 := grown_ownB hH.1 hUk hgrow (Nat.le_refl _)
            have c9 : W9.cell? ⟨vg, up * 13 + 10, none⟩ = (nvc U)[10]? := by
             have h1 := (hC.td.own.kept hgrow (owns_ne hC.td.own hUk (by decide)))
             rw [HU.out.1] at h1
             rw [h1.cellAt (up * 13 + 10) (by omega), flat_at nvc 13 nvc_len ns7 up 10 U HU.out.2 (by decide)]
            have f9 : W9.frozen? ⟨vg, up * 13 + 10, none⟩ = false := by
             have h1 := (hC.td.own.kept hgrow (owns_ne hC.td.own hUk (by decide)))
             rw [HU.out.1] at h1
             exact h1.frozenAt _
            try simp only [nvc, List.getElem?_cons_succ, List.getElem?_cons_zero] at c9
            rw [if_pos (by rfl)]
            replace hH := xai gr9 bt9
            refine wp_append (u := .slice (some ⟨WD.heap.size, 0, none⟩) 1 1) rfl rfl rfl hrun (hK.out _ _ hH (fun h0 => ?_))
            clear h0 hK K1 hrun hgrow hC hown' hat hUk hkl0 gr9 bt9
            simp only [Act.put, pu]
            refine tk (i := 19) (oi := ⟨some 151, _, _, _, _, _⟩) (v := .pointer (some ⟨vg, up * 13, none⟩)) rfl (Or.inl ⟨by rfl, fun w hSw => by go_simp; intro hh; omega⟩) hH ?_
            simp only [Act.put, pu]
            refine tk (i := 20) (oi := ⟨some 152, _, _, _, _, _⟩) (v := .pointer (some ⟨vg, up * 13 + 10, none⟩)) rfl (Or.inl ⟨by rfl, fun w hSw => by go_simp⟩) hH ?_
            simp only [Act.put, pu]
            refine wpAnyH_ready (rs := [21]) (by kernel_rfl) (by simp) ?_
            refine AllReadyH.cons rfl (fun K1 hK => ?_) AllReadyH.nil
            go_simp
            have hH2 := xai hC9.td.gr hC9.bt
            refine hK.out _ _ hH2 (fun h0 => ?_)
            clear h0 hK K1
            refine wpAnyH_done (by kernel_rfl) ?_ _
            exact tail34 _ ka (U.kl + 1) kc _ _ _ _ _ _ _ _ _ _ _ _ _ _ _ _ _ _ _ _ _ hC9
           ·skip
            have g8 := xga WD (.cells (kdc ⟨lastT X.path.toList, ino7⟩).toArray 47) none
            have b8 := Bx.new WD 47 (kdc ⟨lastT X.path.toList, ino7⟩)
            go_simp
            replace hC := hC.kept g8
            replace hH := xai (xgt hH.1 g8) (hH.2.kept g8)
            change K1 _ (WD.alloc (.cells (kdc ⟨lastT X.path.toList, ino7⟩).toArray 47))
            generalize hW8 : WD.alloc (.cells (kdc ⟨lastT X.path.toList, ino7⟩).toArray 47) = W8 at *
            clear hW8 g8
            refine hK.out _ _ hH (fun h0 => ?_)
            clear h0 hK K1
            refine wpAnyH_ready (rs := [8]) (by kernel_rfl) (by simp) ?_
            refine AllReadyH.cons rfl (fun K1 hK => ?_) AllReadyH.nil
            have c1 : _ = some _ := hC.td.cell HU.out.1 HU.out.2 (f := 10) (by decide)
            try simp only [nvc, List.getElem?_cons_succ, List.getElem?_cons_zero] at c1
            go_simp
            refine hK.out _ _ hH (fun h0 => ?_)
            clear h0 hK K1 c1
            refine wpAnyH_ready (rs := [18]) (by kernel_rfl) (by simp) ?_
            refine AllReadyH.cons rfl (fun K1 hK => ?_) AllReadyH.nil
            have hUk := (hC.td.each up U HU.out.2).kid
            have hkl0 := (hC.td.each up U HU.out.2).klen
            obtain ⟨v', W9, hrun, hown', hgrow, _, hat⟩ := run_append_own_at (P := Tryz.prog) W8 w.heap.size 41 41 47 ik _ 2 _ Tryz.underlying41 HIK.out.1 HIK.out.2.1 HIK.out.2.2.1 HIK.out.2.2.2 rfl (by decide) _ _ _ hUk ⟨WD.heap.size, 0, none⟩ 1 1 (kdc ⟨lastT X.path.toList, ino7⟩) rfl (bx_news b8) (by intro u hu; simp [kdc] at hu; rcases hu with h | h <;> rw [h] <;> rfl) (by have := HKS.out; unfold maxLen; omega) (by have := HKS.out; omega) hC.td.gr.size
            obtain ⟨ka, kc, rfl⟩ : ∃ ka kc, v' = .slice ka (U.kl + 1) kc := own_shape hown'
            have hC9 := hC.addK HU.out.1 HU.out.2 hown' rfl hgrow (by rcases hat with h | h; (exact Or.inl h); exact Or.inr ⟨_, h, Nat.le_refl _⟩)
            have bt9 := hH.2.but hgrow (bx_ne hH.2 hUk (by decide))
            have gr9 := grown_ownB hH.1 hUk hgrow (Nat.le_refl _)
            have c9 : W9.cell? ⟨vg, up * 13 + 10, none⟩ = (nvc U)[10]? := by
             have h1 := (hC.td.own.kept hgrow (owns_ne hC.td.own hUk (by decide)))
             rw [HU.out.1] at h1
             rw [h1.cellAt (up * 13 + 10) (by omega), flat_at nvc 13 nvc_len ns7 up 10 U HU.out.2 (by decide)]
            have f9 : W9.frozen? ⟨vg, up * 13 + 10, none⟩ = false := by
             have h1 := (hC.td.own.kept hgrow (owns_ne hC.td.own hUk (by decide)))
             rw [HU.out.1] at h1
             exact h1.frozenAt _
            try simp only [nvc, List.getElem?_cons_succ, List.getElem?_cons_zero] at c9
            rw [if_pos (by rfl)]
            replace hH := xai gr9 bt9
            refine wp_append (u := .slice (some ⟨WD.heap.size, 0, none⟩) 1 1) rfl rfl rfl hrun (hK.out _ _ hH (fun h0 => ?_))
            clear h0 hK K1 hrun hgrow hC hown' hat hUk hkl0 gr9 bt9
            simp only [Act.put, pu]
            refine tk (i := 19) (oi := ⟨some 151, _, _, _, _, _⟩) (v := .pointer (some ⟨vg, up * 13, none⟩)) rfl (Or.inl ⟨by rfl, fun w hSw => by go_simp; intro hh; omega⟩) hH ?_
            simp only [Act.put, pu]
            refine tk (i := 20) (oi := ⟨some 152, _, _, _, _, _⟩) (v := .pointer (some ⟨vg, up * 13 + 10, none⟩)) rfl (Or.inl ⟨by rfl, fun w hSw => by go_simp⟩) hH ?_
            simp only [Act.put, pu]
            refine wpAnyH_ready (rs := [21]) (by kernel_rfl) (by simp) ?_
            refine AllReadyH.cons rfl (fun K1 hK => ?_) AllReadyH.nil
            go_simp
            have hH2 := xai hC9.td.gr hC9.bt
            refine hK.out _ _ hH2 (fun h0 => ?_)
            clear h0 hK K1
            refine wpAnyH_done (by kernel_rfl) ?_ _
            exact tail34 _ ka (U.kl + 1) kc _ _ _ _ _ _ _ _ _ _ _ _ _ _ _ _ _ _ _ _ _ hC9

       clear hK7
       have hkl : kk < (ens l).length := (List.getElem?_eq_some_iff.1 HI2.out.2.2.2.2.1).1
       have hto : (trI (ens l) kk).o = o := by
        have h1 : entI (ens l) kk = X.en := by unfold entI; rw [HI2.out.2.2.2.2.1, HI2.out.2.2.2.2.2]; rfl
        show ownI (ens l) kk (entI (ens l) kk) = o
        rw [h1, HOO.out]
       have HTO : Hid _ := xai hkl hto
       clear hkl hto
       cases hix : idx os o with
       | some q =>
        have hq : q < j := by have := idx_lt' hix; rw [HMM.out] at this; exact this
        have hin : IN = ((q + 1 : Nat) : Int) := by rw [HIN.out, hix]; simp
        subst hin
        have HF : Hid _ := hix
        clear hix
        have hge : ¬ (((q + 1 : Nat) : Int)) < 0 := by omega
        go_wp2
        refine tail W5 v oa j oc (q + 1) ns os _ _ _ _ _ _ _ _ _ _ _ _ _ _ _ _ _ _ _ _ _ _ _ _ _ _ _ _ _ _ _ _ _ _ ?_
        have hno : newO (stI (ens l) i) (trI (ens l) kk) = stI (ens l) i := new_old HI2.out.1 (j := q) (by rw [HTO.out.2]; exact HF.out)
        rw [hno]
        refine ⟨HC5.out, HI2.out.1, HI2.out.2.1, HMM.out, ?_, by omega, by omega, by omega⟩
        rw [idx_ino HI2.out.1, HF.out]
       | none =>
        have hin : IN = -1 := by rw [HIN.out, hix]
        subst hin
        have HF : Hid _ := hix
        clear hix
        obtain ⟨i3, hi3, hz0, hz1, hz2⟩ := info_parts Tryz.info3
        have HIF : Hid _ := xai hi3 (xai hz0 (xai hz1 hz2))
        clear hi3 hz0 hz1 hz2
        have hm1 : os.length + 1 ≤ 100002 := by have := HMM.out; omega
        have hbb : bo ≤ (W5.alloc (.cells #[.int .i64 o] 3)).heap.size := by have := HC5.out.bos; simp; omega
        go_wp2_with (at_builtin; refine wpList_append_own _ rfl _ _ 83 rfl bo 3 i3 (.int .i64 0) 1 8 Tryz.underlying83 HIF.out.1 HIF.out.2.1 HIF.out.2.2.1 HIF.out.2.2.2 rfl (by decide) _ _ _ rfl (HC5.out.own.alloc _) ⟨W5.heap.size, 0, none⟩ 1 1 [.int .i64 o] rfl rfl (cell_one_new _ _ _) (by simp [Value.oneCell']) (by unfold maxLen; omega) (by omega) hbb ?_; intro vo6 W6 hown6 hg6 hiff; have HC6 : Hid _ := (HC5.out.kept (xga W5 _ none)).addO hown6 hg6; have hsh := own_shape hown6; rw [HMM.out] at hsh; obtain ⟨oa6, oc6, rfl⟩ := hsh; clear hown6 hg6 HC5 hbb hiff)
        rename_i KA hKA
        obtain ⟨y, hy, hyp⟩ := ownI_facts HE.out.2.2.2 HI2.out.2.2.2.2.1
        rw [← HI2.out.2.2.2.2.2, HOO.out] at hy
        obtain ⟨Y, hY, hYe⟩ : ∃ Y, l[o]? = some Y ∧ Y.en = y := by
         unfold ens at hy
         rw [List.getElem?_map] at hy
         cases hq : l[o]? with
         | none => rw [hq] at hy; cases hy
         | some Y => rw [hq] at hy; simp at hy; exact ⟨Y, rfl, hy⟩
        obtain ⟨b1, o1, rfl, c1⟩ := HE.out.1.at_ (by have := (List.getElem?_eq_some_iff.1 hY).1; have := HL.out; omega)
        have hoY := c1 o Y hY
        have hlo : o < k := by have := (List.getElem?_eq_some_iff.1 hY).1; have := HL.out; omega
        have hYa : Y.al ≤ 100000 := HE.out.2.2.1 Y (List.mem_of_getElem? hY)
        have hent : entI (ens l) o = Y.en := by unfold entI; rw [show (ens l)[o]? = some Y.en from by unfold ens; rw [List.getElem?_map, hY]; rfl]; rfl
        have HY : Hid _ := xai hoY (xai hYa (xai hY hent))
        clear hy hyp hYe c1 hoY hYa hY hent
        have hns : ns.length = j + 1 := by have h1 := congrArg List.length HI2.out.2.1; rw [nos_len, HI2.out.1.len, HMM.out] at h1; exact h1
        obtain ⟨vg, vc, hve, -, -, -, -⟩ := HC6.out.td.form (by intro e; rw [e] at hns; simp at hns)
        rw [hns] at hve
        subst hve
        have HNS : Hid _ := hns
        clear hns
        obtain ⟨in_, hin, hy0, hy1, hy2⟩ := info_parts Tryz.infoN
        have HIN2 : Hid _ := xai hin (xai hy0 (xai hy1 hy2))
        clear hin hy0 hy1 hy2
        have tail25 : ∀ (W10 : World) (v10 : Value) (N2 : NoV) (x77 x78 x79 x80 x81 x82 x83 x84 x85 x86 : Value), Hid (Cs w W10 gt bo v10 (.slice oa6 (j + 1) oc6) (.slice (some ⟨rg, 0, none⟩) nO rc) (ns ++ [N2]) (os ++ [o]) ORD ∧ N2.no = ndOf Y.en) → KA { tmps := #[Value.slice (some ⟨b1, o1, none⟩) k cap, undef, Value.pointer (some ⟨w.heap.size, 0, none⟩), Value.pointer (some ⟨w.heap.size + 1, 0, none⟩), Value.int IntKind.i64 k, Value.pointer (some ⟨gt, 0, none⟩), Value.slice oa6 (j + 1) oc6, Value.slice (some ⟨rg, 0, none⟩) nO rc, Value.int IntKind.i64 i, Value.int IntKind.i64 kk, Value.int IntKind.i64 o, Value.int IntKind.i64 (↑j + 1), Value.int IntKind.i64 j, u13, u14, q15, Value.int IntKind.i64 k, Value.slice (some ⟨b1, o1, none⟩) k cap, Value.int IntKind.i64 k, Value.bool false, u20, u21, u22, u23, u24, u25, u26, u27, u28, u29, u30, u31, q32, q33, q34, Value.agg #[q34], Value.pointer (some ⟨gt, 0, none⟩), q34, q38, q39, Value.slice (some ⟨b1, o1, none⟩) k cap, Value.slice (some ⟨rg, 0, none⟩) nO rc, Value.int IntKind.i64 i, Value.slice (some ⟨rg, 0, none⟩) nO rc, Value.int IntKind.i64 nO, Value.bool true, u46, u47, Value.slice (some ⟨rg, 0, none⟩) nO rc, Value.int IntKind.i64 i, Value.pointer (some ⟨rg, i, none⟩), Value.int IntKind.i64 kk, Value.slice (some ⟨b1, o1, none⟩) k cap, Value.int IntKind.i64 kk, Value.int IntKind.i64 o, Value.int IntKind.i64 j, Value.slice oa j oc, Value.int IntKind.i64 j, Value.bool false, u59, u60, u61, u62, u63, u64, u65, u66, u67, u68, Value.int IntKind.i64 (-1), Value.bool true, Value.slice oa j oc, Value.int IntKind.i64 o, Value.slice (some ⟨W5.heap.size, 0, none⟩) 1 1, Value.slice oa6 (j + 1) oc6, Value.slice oa6 (j + 1) oc6, Value.int IntKind.i64 (↑j + 1), x77, x78, x79, x80, x81, x82, x83, x84, x85, x86, u87, u88, u89, u90, u91, u92, u93, u94, u95, u96, u97, u98, u99, u100, u101, u102, u103, u104, u105, u106, u107, u108, u109, u110, u111, u112, u113, u114, u115, u116, u117, u118, u119, u120, u121, u122, u123, u124, u125, u126, u127, u128, u129, u130, u131, u132, u133, u134, u135, u136, u137, u138, u139, u140, u141, u142, u143, u144, u145, u146, u147, u148, u149, u150, u151, u152, u153, u154, u155, u156, u157, u158, u159, u160, u161, u162, u163, u164, u165, u166, u167, u168, u169, u170, u171, u172, u173, u174, u175, u176, u177, u178, u179, u180, u181, u182, undef], defers := [] } W10 := by
         intro W10 v10 N2 x77 x78 x79 x80 x81 x82 x83 x84 x85 x86 H10
         refine hKA _ _ ?_
         clear hKA
         have y1 := (HY.out.1.grown H10.out.1.td.gr).c1
         have hn10 : (ns ++ [N2]).length = j + 1 + 1 := by rw [List.length_append, HNS.out]; rfl
         obtain ⟨vg9, vc9, hve, -, -, -, -⟩ := H10.out.1.td.form (by intro e; rw [e] at hn10; simp at hn10)
         rw [hn10] at hve
         subst hve
         have hN9 : (ns ++ [N2])[j + 1]? = some N2 := by rw [List.getElem?_append_right (by rw [HNS.out]; exact Nat.le_refl _), HNS.out, Nat.sub_self]; rfl
         have hidx : idx os (trI (ens l) kk).o = none := by rw [HTO.out.2]; exact HF.out
         have hnew := new_new HI2.out.1 hidx
         have hofo := trI_ofo HE.out.2.2.2 HTO.out.1
         rw [hofo, HTO.out.2] at hnew
         have hdir : (trI (ens l) kk).dir = decide (Y.k = 2) := by
          show decide ((entI (ens l) (trI (ens l) kk).o).k = 2) = _
          rw [HTO.out.2, HY.out.2.2.2]
          rfl
         have hnd : (trI (ens l) kk).nd = ndOf Y.en := by
          show ndOf (entI (ens l) (trI (ens l) kk).o) = _
          rw [HTO.out.2, HY.out.2.2.2]
         have hol : o < (ens l).length := by unfold ens; rw [List.length_map, HL.out]; exact hlo
         have hpl := Pl.add (n := { (trI (ens l) kk).nd with links := if (trI (ens l) kk).dir = true then 2 else 0 }) HI2.out.1 HF.out hol
         rw [← hnew] at hpl
         have hinew : inoOf (newO (stI (ens l) i) (trI (ens l) kk)).os o = j + 1 := by
          rw [idx_ino hpl, idx_snoc HF.out, HMM.out]
         have hnsn : (newO (stI (ens l) i) (trI (ens l) kk)).ns = (stI (ens l) i).ns ++ [{ ndOf Y.en with links := if decide (Y.k = 2) = true then 2 else 0 }] := by
          rw [hnew, hnd, hdir]
         have hosl : (os ++ [o]).length = j + 1 := by rw [List.length_append, HMM.out]; rfl
         have HP : Hid _ := xai hpl (xai hinew hosl)
         have hl0 := (no_kids H10.out.2).2.2
         have hj2 : ¬ ((j : Int) + 1 + 1 ≤ (j : Int) + 1) := by omega
         have c12 : W10.cell? ⟨vg9, (j + 1) * 13 + 12, none⟩ = some (Value.int .i64 N2.links) := H10.out.1.td.cell hn10 hN9 (f := 12) (by decide)
         have f12 := H10.out.1.td.froz hn10 ((j + 1) * 13 + 12)
         have bt10 : _ = some _ := H10.out.1.bt.c 0
         cases hk2 : (Y.k == 2) with
         | true =>
          have h2 : decide (Y.k = 2) = true := by simpa using hk2
          have T1 := H10.out.1.set hn10 hN9 (f := 12) (X' := { N2 with links := 2 }) (u := .int .i64 2) (by decide) rfl ⟨rfl, rfl, rfl, rfl, rfl, rfl, rfl, rfl, rfl, rfl, rfl⟩
          have hset : (ns ++ [N2]).set (j + 1) { N2 with links := 2 } = ns ++ [{ N2 with links := 2 }] := by rw [List.set_append_right _ _ (by rw [HNS.out]; exact Nat.le_refl _), HNS.out, Nat.sub_self]; rfl
          rw [hset] at T1
          have hnos : nos (ns ++ [{ N2 with links := 2 }]) = (newO (stI (ens l) i) (trI (ens l) kk)).ns := by
           rw [hnsn, h2, if_pos rfl, ← HI2.out.2.1, ← H10.out.2]
           unfold nos
           rw [List.map_append]
           rfl
          have HT : Hid _ := xai T1 hnos
          clear T1 hnos hset hnsn hnew hofo hpl hinew hosl hdir hnd hN9 hn10 h2
          go_wp2
          exact tail _ _ oa6 (j + 1) oc6 (j + 1) _ (os ++ [o]) _ _ _ _ _ _ _ _ _ _ _ _ _ _ _ _ _ _ _ _ _ _ _ _ _ _ _ _ _ _ _ _ _ _ ⟨HT.out.1, HP.out.1, HT.out.2, HP.out.2.2, HP.out.2.1, by omega, Nat.le_refl _, by omega⟩
         | false =>
          have h2 : decide (Y.k = 2) = false := by simpa using hk2
          have hnos : nos (ns ++ [N2]) = (newO (stI (ens l) i) (trI (ens l) kk)).ns := by
           rw [hnsn, h2, if_neg (by decide), ← HI2.out.2.1]
           unfold nos
           rw [List.map_append, List.map_cons, List.map_nil, H10.out.2]
           rfl
          have HT : Hid _ := hnos
          clear hnos hnsn hnew hofo hpl hinew hosl hdir hnd hN9 hn10 h2
          go_wp2
          exact tail _ _ oa6 (j + 1) oc6 (j + 1) _ (os ++ [o]) _ _ _ _ _ _ _ _ _ _ _ _ _ _ _ _ _ _ _ _ _ _ _ _ _ _ _ _ _ _ _ _ _ _ ⟨H10.out.1, HP.out.1, HT.out, HP.out.2.2, HP.out.2.1, by omega, Nat.le_refl _, by omega⟩
        clear hKA tail
        have hC := HC6.out.kept (drewG0 W6)
        refine wp_region_held_drew (S := fun w' => w.grownBy w' none) (by kernel_rfl) hC.td.gr (fun hH => ?_)
        generalize W6.drew = WD at *
        clear HC6
        refine tk (i := 0) (oi := ⟨some 77, _, _, _, _, _⟩) (v := .pointer (some ⟨gt, 0, none⟩)) rfl (Or.inl ⟨by rfl, fun w hSw => by go_simp⟩) hH ?_
        simp only [Act.put, pu]
        refine tk (i := 2) (oi := ⟨some 79, _, _, _, _, _⟩) (v := .slice (some ⟨b1, o1, none⟩) k cap) rfl (Or.inl ⟨by rfl, fun w hSw => by go_simp⟩) hH ?_
        simp only [Act.put, pu]
        refine tk (i := 3) (oi := ⟨some 80, _, _, _, _, _⟩) (v := .int .i64 o) rfl (Or.inl ⟨by rfl, fun w hSw => by go_simp⟩) hH ?_
        simp only [Act.put, pu]
        refine tk (i := 4) (oi := ⟨some 81, _, _, _, _, _⟩) (v := .pointer (some ⟨b1, o1 + o * 11, none⟩)) rfl (Or.inl ⟨by rfl, fun w hSw => by go_simp⟩) hH ?_
        simp only [Act.put, pu]
        refine tk (i := 5) (oi := ⟨some 82, _, _, _, _, _⟩) (v := .agg #[.string Y.path, .int .i64 Y.k, .int .i64 Y.mode, .int .i64 Y.uid, .int .i64 Y.gid, .int .i64 Y.time, .int .i64 Y.size, .slice Y.da Y.dl Y.dc, .string Y.target, .int .i64 Y.dev, .slice Y.aa Y.al Y.ac]) rfl (Or.inl ⟨by rfl, fun w hSw => by obtain ⟨p0, p1, p2, p3, p4, p5, p6, p7, p8, p9, p10, -⟩ := HY.out.1.grown hSw; go_simp⟩) hH ?_
        simp only [Act.put, pu]
        refine wpAnyH_ready (rs := [1, 6]) (by kernel_rfl) (by simp) ?_
        refine AllReadyH.cons rfl (fun K1 hK => ?_) (AllReadyH.cons rfl (fun K1 hK => ?_) AllReadyH.nil)
        ·skip
         have c1 : _ = some _ := hC.bt.c 0
         go_simp
         refine hK.out _ _ hH (fun h0 => ?_)
         clear h0 hK K1 c1
         refine wpAnyH_ready (rs := [6]) (by kernel_rfl) (by simp) ?_
         refine AllReadyH.cons rfl (fun K1 hK => ?_) AllReadyH.nil
         go_simp
         refine (rnode_new Y w WD HY.out.1.ok hC.td.gr HY.out.2.1).mono ?_
         rintro e W7 ⟨N2, rfl, -, hno, hnk, hng, hnn⟩
         have HN2 : Hid _ := xai hno (xai hnk (nk_new hnn hC.td.gr hnk (no_kids hno).1))
         replace hC := hC.kept hng
         replace hH := xgt hH hng
         clear hno hnk hng hnn
         simp only [NoV.val]
         refine hK.out _ _ hH (fun h0 => ?_)
         clear h0 hK K1
         refine wpAnyH_ready (rs := [7]) (by kernel_rfl) (by simp) ?_
         refine AllReadyH.cons rfl (fun K1 hK => ?_) AllReadyH.nil
         have g8 := xga W7 (.cells (nvc N2).toArray 43) none
         have b8 := Bx.new W7 43 (nvc N2)
         go_simp
         replace hC := hC.kept g8
         replace hH := xgt hH g8
         have HNK : Hid _ := HN2.out.2.2.but g8 (ne_none _) (ne_none _)
         change K1 _ (W7.alloc (.cells (nvc N2).toArray 43))
         generalize hW8 : W7.alloc (.cells (nvc N2).toArray 43) = W8 at *
         clear hW8 g8
         refine hK.out _ _ hH (fun h0 => ?_)
         clear h0 hK K1
         refine wpAnyH_ready (rs := [8]) (by kernel_rfl) (by simp) ?_
         refine AllReadyH.cons rfl (fun K1 hK => ?_) AllReadyH.nil
         obtain ⟨v', W9, hrun, hown', hgrow, _⟩ := run_append_own (P := Tryz.prog) W8 w.heap.size 31 31 43 in_ _ 13 _ Tryz.underlying31 HIN2.out.1 HIN2.out.2.1 HIN2.out.2.2.1 HIN2.out.2.2.2 rfl (by decide) _ _ _ hC.td.own ⟨W7.heap.size, 0, none⟩ 1 1 (nvc N2) rfl (bx_news b8) (by intro u hu; simp [nvc] at hu; rcases hu with h | h | h | h | h | h | h | h | h | h | h | h | h <;> rw [h] <;> rfl) (by have := HNS.out; unfold maxLen; omega) (by have := HNS.out; omega) hC.td.gr.size
         rw [if_pos (by rfl)]
         skip
         have hC9 := hC.addN HNK.out HN2.out.2.1.1 hown' hgrow
         have bt9 := hC.bt.but hgrow (bx_ne hC.bt hC.td.own (by decide))
         replace hH := grown_ownB hH hC.td.own hgrow (Nat.le_refl _)
         refine wp_append (u := .slice (some ⟨W7.heap.size, 0, none⟩) 1 1) rfl rfl rfl hrun (hK.out _ _ hH (fun h0 => ?_))
         clear h0 hK K1 hrun hgrow hC hown'
         simp only [Act.put, pu]
         refine tk (i := 9) (oi := ⟨some 86, _, _, _, _, _⟩) (v := .pointer (some ⟨gt, 0, none⟩)) rfl (Or.inl ⟨by rfl, fun w hSw => by go_simp⟩) hH ?_
         simp only [Act.put, pu]
         refine wpAnyH_ready (rs := [10]) (by kernel_rfl) (by simp) ?_
         refine AllReadyH.cons rfl (fun K1 hK => ?_) AllReadyH.nil
         have c9 : _ = some _ := bt9.c 0
         have f9 := bt9.f 0
         obtain ⟨va, vcc, rfl⟩ : ∃ va vcc, v' = .slice va (j + 1 + 1) vcc := by
          have := own_shape hC9.td.own
          rw [List.length_append, HNS.out] at this
          exact this
         go_simp
         have hH2 := hC9.td.gr
         refine hK.out _ _ hH2 (fun h0 => ?_)
         clear h0 hK K1
         refine wpAnyH_done (by kernel_rfl) ?_ _
         refine tail25 _ (.slice va (j + 1 + 1) vcc) N2 _ _ _ _ _ _ _ _ _ _ ?_
         exact ⟨hC9, HN2.out.1⟩
        ·skip
         go_simp
         refine (rnode_new Y w WD HY.out.1.ok hC.td.gr HY.out.2.1).mono ?_
         rintro e W7 ⟨N2, rfl, -, hno, hnk, hng, hnn⟩
         have HN2 : Hid _ := xai hno (xai hnk (nk_new hnn hC.td.gr hnk (no_kids hno).1))
         replace hC := hC.kept hng
         replace hH := xgt hH hng
         clear hno hnk hng hnn
         simp only [NoV.val]
         refine hK.out _ _ hH (fun h0 => ?_)
         clear h0 hK K1
         refine wpAnyH_ready (rs := [1, 7]) (by kernel_rfl) (by simp) ?_
         refine AllReadyH.cons rfl (fun K1 hK => ?_) (AllReadyH.cons rfl (fun K1 hK => ?_) AllReadyH.nil)
         ·skip
          have c1 : _ = some _ := hC.bt.c 0
          go_simp
          refine hK.out _ _ hH (fun h0 => ?_)
          clear h0 hK K1 c1
          refine wpAnyH_ready (rs := [7]) (by kernel_rfl) (by simp) ?_
          refine AllReadyH.cons rfl (fun K1 hK => ?_) AllReadyH.nil
          have g8 := xga W7 (.cells (nvc N2).toArray 43) none
          have b8 := Bx.new W7 43 (nvc N2)
          go_simp
          replace hC := hC.kept g8
          replace hH := xgt hH g8
          have HNK : Hid _ := HN2.out.2.2.but g8 (ne_none _) (ne_none _)
          change K1 _ (W7.alloc (.cells (nvc N2).toArray 43))
          generalize hW8 : W7.alloc (.cells (nvc N2).toArray 43) = W8 at *
          clear hW8 g8
          refine hK.out _ _ hH (fun h0 => ?_)
          clear h0 hK K1
          refine wpAnyH_ready (rs := [8]) (by kernel_rfl) (by simp) ?_
          refine AllReadyH.cons rfl (fun K1 hK => ?_) AllReadyH.nil
          obtain ⟨v', W9, hrun, hown', hgrow, _⟩ := run_append_own (P := Tryz.prog) W8 w.heap.size 31 31 43 in_ _ 13 _ Tryz.underlying31 HIN2.out.1 HIN2.out.2.1 HIN2.out.2.2.1 HIN2.out.2.2.2 rfl (by decide) _ _ _ hC.td.own ⟨W7.heap.size, 0, none⟩ 1 1 (nvc N2) rfl (bx_news b8) (by intro u hu; simp [nvc] at hu; rcases hu with h | h | h | h | h | h | h | h | h | h | h | h | h <;> rw [h] <;> rfl) (by have := HNS.out; unfold maxLen; omega) (by have := HNS.out; omega) hC.td.gr.size
          rw [if_pos (by rfl)]
          skip
          have hC9 := hC.addN HNK.out HN2.out.2.1.1 hown' hgrow
          have bt9 := hC.bt.but hgrow (bx_ne hC.bt hC.td.own (by decide))
          replace hH := grown_ownB hH hC.td.own hgrow (Nat.le_refl _)
          refine wp_append (u := .slice (some ⟨W7.heap.size, 0, none⟩) 1 1) rfl rfl rfl hrun (hK.out _ _ hH (fun h0 => ?_))
          clear h0 hK K1 hrun hgrow hC hown'
          simp only [Act.put, pu]
          refine tk (i := 9) (oi := ⟨some 86, _, _, _, _, _⟩) (v := .pointer (some ⟨gt, 0, none⟩)) rfl (Or.inl ⟨by rfl, fun w hSw => by go_simp⟩) hH ?_
          simp only [Act.put, pu]
          refine wpAnyH_ready (rs := [10]) (by kernel_rfl) (by simp) ?_
          refine AllReadyH.cons rfl (fun K1 hK => ?_) AllReadyH.nil
          have c9 : _ = some _ := bt9.c 0
          have f9 := bt9.f 0
          obtain ⟨va, vcc, rfl⟩ : ∃ va vcc, v' = .slice va (j + 1 + 1) vcc := by
           have := own_shape hC9.td.own
           rw [List.length_append, HNS.out] at this
           exact this
          go_simp
          have hH2 := hC9.td.gr
          refine hK.out _ _ hH2 (fun h0 => ?_)
          clear h0 hK K1
          refine wpAnyH_done (by kernel_rfl) ?_ _
          refine tail25 _ (.slice va (j + 1 + 1) vcc) N2 _ _ _ _ _ _ _ _ _ _ ?_
          exact ⟨hC9, HN2.out.1⟩
         ·skip
          have g8 := xga W7 (.cells (nvc N2).toArray 43) none
          have b8 := Bx.new W7 43 (nvc N2)
          go_simp
          replace hC := hC.kept g8
          replace hH := xgt hH g8
          have HNK : Hid _ := HN2.out.2.2.but g8 (ne_none _) (ne_none _)
          change K1 _ (W7.alloc (.cells (nvc N2).toArray 43))
          generalize hW8 : W7.alloc (.cells (nvc N2).toArray 43) = W8 at *
          clear hW8 g8
          refine hK.out _ _ hH (fun h0 => ?_)
          clear h0 hK K1
          refine wpAnyH_ready (rs := [1]) (by kernel_rfl) (by simp) ?_
          refine AllReadyH.cons rfl (fun K1 hK => ?_) AllReadyH.nil
          have c1 : _ = some _ := hC.bt.c 0
          go_simp
          refine hK.out _ _ hH (fun h0 => ?_)
          clear h0 hK K1 c1
          refine wpAnyH_ready (rs := [8]) (by kernel_rfl) (by simp) ?_
          refine AllReadyH.cons rfl (fun K1 hK => ?_) AllReadyH.nil
          obtain ⟨v', W9, hrun, hown', hgrow, _⟩ := run_append_own (P := Tryz.prog) W8 w.heap.size 31 31 43 in_ _ 13 _ Tryz.underlying31 HIN2.out.1 HIN2.out.2.1 HIN2.out.2.2.1 HIN2.out.2.2.2 rfl (by decide) _ _ _ hC.td.own ⟨W7.heap.size, 0, none⟩ 1 1 (nvc N2) rfl (bx_news b8) (by intro u hu; simp [nvc] at hu; rcases hu with h | h | h | h | h | h | h | h | h | h | h | h | h <;> rw [h] <;> rfl) (by have := HNS.out; unfold maxLen; omega) (by have := HNS.out; omega) hC.td.gr.size
          rw [if_pos (by rfl)]
          skip
          have hC9 := hC.addN HNK.out HN2.out.2.1.1 hown' hgrow
          have bt9 := hC.bt.but hgrow (bx_ne hC.bt hC.td.own (by decide))
          replace hH := grown_ownB hH hC.td.own hgrow (Nat.le_refl _)
          refine wp_append (u := .slice (some ⟨W7.heap.size, 0, none⟩) 1 1) rfl rfl rfl hrun (hK.out _ _ hH (fun h0 => ?_))
          clear h0 hK K1 hrun hgrow hC hown'
          simp only [Act.put, pu]
          refine tk (i := 9) (oi := ⟨some 86, _, _, _, _, _⟩) (v := .pointer (some ⟨gt, 0, none⟩)) rfl (Or.inl ⟨by rfl, fun w hSw => by go_simp⟩) hH ?_
          simp only [Act.put, pu]
          refine wpAnyH_ready (rs := [10]) (by kernel_rfl) (by simp) ?_
          refine AllReadyH.cons rfl (fun K1 hK => ?_) AllReadyH.nil
          have c9 : _ = some _ := bt9.c 0
          have f9 := bt9.f 0
          obtain ⟨va, vcc, rfl⟩ : ∃ va vcc, v' = .slice va (j + 1 + 1) vcc := by
           have := own_shape hC9.td.own
           rw [List.length_append, HNS.out] at this
           exact this
          go_simp
          have hH2 := hC9.td.gr
          refine hK.out _ _ hH2 (fun h0 => ?_)
          clear h0 hK K1
          refine wpAnyH_done (by kernel_rfl) ?_ _
          refine tail25 _ (.slice va (j + 1 + 1) vcc) N2 _ _ _ _ _ _ _ _ _ _ ?_
          exact ⟨hC9, HN2.out.1⟩

    ·have hlti : ¬ (i : Int) < nO := by omega
     obtain rfl : i = nO := by omega
     obtain ⟨v, ns, os, hcs, hpl, hns⟩ := HS.out
     obtain ⟨va, vc, hve⟩ := own_shape hcs.td.own
     subst hve
     have ct : _ = some _ := hcs.bt.c 0
     have cr : _ = some _ := hcs.br.c 0
     have fr := hcs.br.f 0
     have hrow : wr.ownsRow w.heap.size 33 1 (.slice (some ⟨w.heap.size, 0, none⟩) 1 1) 1 [.slice none 0 0] := ⟨rfl, .inr ⟨w.heap.size, 1, #[.slice none 0 0], rfl, Nat.le_refl _, hcs.br.blk, Nat.le_refl _, by decide, rfl, rfl⟩⟩
     have T9 := hcs.td.other hrow (by decide) (by decide) (by decide) (grown_set wr w.heap.size 0 (.slice va ns.length vc))
     have c9 : _ = some _ := (hcs.br.set 0 (.slice va ns.length vc)).c 0
     have hfin : nos ns = canon (ens l) := by
      rw [hns, ← HNN.out, ← HORD.out]
      exact stI_end HE.out.2.2.2
     have HT : Hid _ := xai T9 hfin
     clear T9 hfin hrow hns hpl hcs HS HC0
     go_wp2
     refine bodyPost_ret (v := .agg #[.slice va ns.length vc]) (by simp [results, Tryz.results14, go_sem, c9]) rfl ?_
     exact ⟨va, ns.length, vc, ns, rfl, HT.out.1, rfl, HT.out.2⟩
end Go.Proofs.YtlehncfehoelbaaGreatDoor
