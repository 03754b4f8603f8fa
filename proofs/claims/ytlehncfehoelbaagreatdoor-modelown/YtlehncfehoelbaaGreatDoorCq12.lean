/- The document's Canon, step by step, as plain facts: whose number a nam. -/
import Derived.Test.YtlehncfehoelbaaGreatDoorCq05
import Derived.Test.YtlehncfehoelbaaGreatDoorCq10
import Derived.Test.YtlehncfehoelbaaGreatDoorCq11
namespace Go.Proofs.YtlehncfehoelbaaGreatDoor
set_option linter.unusedVariables false
set_option linter.unusedSimpArgs false
theorem fnd_step {α : Type} (p : α → Bool) {l : List α} {j : Nat} {x : α} (hx : l[j]? = some x) (h1 : p x = true → (l.take j).findIdx? p = none) : (l.take (j + 1)).findIdx? p = if p x = true then some j else (l.take j).findIdx? p := by
 have hj : j < l.length := (List.getElem?_eq_some_iff.1 hx).1
 have hxe : l[j] = x := (List.getElem?_eq_some_iff.1 hx).2
 rw [List.take_succ_eq_append_getElem hj, hxe, List.findIdx?_append]
 by_cases hp : p x = true
 ·rw [if_pos hp, h1 hp]
  simp [hp, List.length_take]
  omega
 ·rw [if_neg hp]
  cases (l.take j).findIdx? p with
  | some q => simp
  | none => simp [hp]
def ofo (l : List En) (o : Nat) : Nat × Option Tx := (o, if (entI l o).k = 2 then some (entI l o).path else none)
structure Pl (l : List En) (s : Bs Nat) (os : List Nat) : Prop where
 os_eq : s.os = os.map (ofo l)
 nd : os.Nodup
 lt : ∀ o ∈ os, o < l.length
 len : s.ns.length = os.length + 1
theorem Pl.nil (l : List En) (r : No) : Pl l ⟨[], [r]⟩ [] := ⟨rfl, List.nodup_nil, fun _ h => (by cases h), rfl⟩
def idx (os : List Nat) (o : Nat) : Option Nat := os.findIdx? fun x => decide (x = o)
theorem idx_step {os : List Nat} {o j : Nat} {x : Nat} (hn : os.Nodup) (hx : os[j]? = some x) : idx (os.take (j + 1)) o = if x = o then some j else idx (os.take j) o := by
 unfold idx
 rw [fnd_step _ hx (fun e => ?_)]
 ·by_cases h : x = o <;> simp [h]
 ·rw [List.findIdx?_eq_none_iff]
  intro y hy
  obtain ⟨i, hi, rfl⟩ := List.getElem_of_mem hy
  rw [List.length_take] at hi
  have e : x = o := by simpa using e
  have hxe : os[j]'(List.getElem?_eq_some_iff.1 hx).1 = x := (List.getElem?_eq_some_iff.1 hx).2
  simp only [List.getElem_take, decide_eq_false_iff_not]
  intro e2
  have := (List.getElem_inj hn).1 (show os[i]'(by omega) = os[j]'(List.getElem?_eq_some_iff.1 hx).1 by rw [e2, hxe, e])
  omega
theorem idx_ino {l : List En} {s : Bs Nat} {os : List Nat} (h : Pl l s os) (o : Nat) : inoOf s.os o = match idx os o with
  | some j => j + 1
  | none => 0 := by
 unfold inoOf idx
 rw [h.os_eq, findIdx_map]
 rfl
theorem idx_any {l : List En} {s : Bs Nat} {os : List Nat} (h : Pl l s os) (o : Nat) : s.os.any (fun x => decide (x.1 = o)) = (idx os o).isSome := by
 unfold idx
 rw [h.os_eq, List.any_map, List.findIdx?_isSome]
 rfl
theorem new_old {l : List En} {s : Bs Nat} {os : List Nat} (h : Pl l s os) {t : Tp Nat} {j : Nat} (hj : idx os t.o = some j) : newO s t = s := by
 unfold newO
 rw [idx_any h, hj]
 simp
theorem new_new {l : List En} {s : Bs Nat} {os : List Nat} (h : Pl l s os) {t : Tp Nat} (hj : idx os t.o = none) : newO s t = ⟨s.os ++ [(t.o, if t.dir = true then some t.p else none)], s.ns ++ [{ t.nd with links := if t.dir = true then 2 else 0 }]⟩ := by
 unfold newO
 rw [idx_any h, hj]
 simp
theorem Pl.add {l : List En} {s : Bs Nat} {os : List Nat} (h : Pl l s os) {o : Nat} {n : No} (hj : idx os o = none) (ho : o < l.length) : Pl l ⟨s.os ++ [ofo l o], s.ns ++ [n]⟩ (os ++ [o]) := by
 refine ⟨by rw [h.os_eq, List.map_append]; rfl, ?_, ?_, by simp [h.len]⟩
 ·rw [List.nodup_append]
  refine ⟨h.nd, by simp, fun a ha b hb => ?_⟩
  unfold idx at hj
  rw [List.findIdx?_eq_none_iff] at hj
  have := hj a ha
  simp at hb this
  rw [hb]; exact this
 ·intro x hx
  rcases List.mem_append.1 hx with hx | hx
  ·exact h.lt x hx
  ·simp at hx; rw [hx]; exact ho
theorem idx_snoc {os : List Nat} {o : Nat} (h : idx os o = none) : idx (os ++ [o]) o = some os.length := by
 unfold idx at *
 rw [List.findIdx?_append, h]
 simp
def udx (l : List En) (os : List Nat) (q : Tx) : Option Nat := os.findIdx? fun o => decide ((entI l o).k = 2) && decide ((entI l o).path = q)
theorem udx_up {l : List En} {s : Bs Nat} {os : List Nat} (h : Pl l s os) (q : Tx) : upOf s.os q = match udx l os q with
  | some j => j + 1
  | none => 0 := by
 unfold upOf udx
 rw [h.os_eq, findIdx_map]
 have : (fun x => decide ((ofo l x).2 = some q)) = fun o => decide ((entI l o).k = 2) && decide ((entI l o).path = q) := by
  funext o
  unfold ofo
  by_cases h2 : (entI l o).k = 2
  ·simp [h2]
  ·simp [h2]
 rw [this]
 rfl
theorem udx_step {l : List En} (ok : OkS l) {os : List Nat} {q : Tx} {j x : Nat} (hn : os.Nodup) (hl : ∀ o ∈ os, o < l.length) (hx : os[j]? = some x) : udx l (os.take (j + 1)) q = if (decide ((entI l x).k = 2) && decide ((entI l x).path = q)) = true then some j else udx l (os.take j) q := by
 unfold udx
 rw [fnd_step _ hx (fun e => ?_)]
 rw [List.findIdx?_eq_none_iff]
 intro y hy
 rw [Bool.and_eq_true, decide_eq_true_eq, decide_eq_true_eq] at e
 obtain ⟨i, hi, rfl⟩ := List.getElem_of_mem hy
 rw [List.length_take] at hi
 rw [Bool.and_eq_false_iff]
 by_cases h2 : (entI l (os.take j)[i]).path = q
 ·exfalso
  have hj : j < os.length := (List.getElem?_eq_some_iff.1 hx).1
  have hxe : os[j] = x := (List.getElem?_eq_some_iff.1 hx).2
  rw [List.getElem_take] at h2
  have ha : os[i]'(by omega) < l.length := hl _ (List.getElem_mem _)
  have hb : x < l.length := by rw [← hxe]; exact hl _ (List.getElem_mem _)
  have e1 : entI l (os[i]'(by omega)) = l[os[i]'(by omega)] := by unfold entI; rw [List.getElem?_eq_getElem ha]; rfl
  have e2 : entI l x = l[x] := by unfold entI; rw [List.getElem?_eq_getElem hb]; rfl
  have e3 : os[i]'(by omega) = x := by
   rcases Nat.lt_trichotomy (os[i]'(by omega)) x with h | h | h
   ·exact absurd (by rw [← e1, ← e2, h2, e.2]) (once_iff.1 ok.once _ _ _ _ h (List.getElem?_eq_getElem ha) (List.getElem?_eq_getElem hb))
   ·exact h
   ·exact absurd (by rw [← e1, ← e2, h2, e.2]) (once_iff.1 ok.once _ _ _ _ h (List.getElem?_eq_getElem hb) (List.getElem?_eq_getElem ha))
  have := (List.getElem_inj hn).1 (show os[i]'(by omega) = os[j] by rw [e3, hxe])
  omega
 ·right; simpa using h2
theorem udx_lt {l : List En} {os : List Nat} {q : Tx} {j : Nat} (h : udx l os q = some j) : j < os.length := by
 unfold udx at h
 rw [List.findIdx?_eq_some_iff_getElem] at h
 exact h.1
theorem idx_lt' {os : List Nat} {o j : Nat} (h : idx os o = some j) : j < os.length := by
 unfold idx at h
 rw [List.findIdx?_eq_some_iff_getElem] at h
 exact h.1
theorem trI_dir {l : List En} (ok : OkS l) {k : Nat} (hk : k < l.length) (hd : (trI l k).dir = true) : (trI l k).o = k ∧ (trI l k).p = (entI l k).path := by
 refine ⟨?_, rfl⟩
 unfold trI at hd ⊢
 simp only [decide_eq_true_eq] at hd ⊢
 have ex : entI l k = l[k] := by unfold entI; rw [List.getElem?_eq_getElem hk]; rfl
 by_cases h6 : (entI l k).k = 6
 ·exfalso
  obtain ⟨y, hy, e⟩ := ownI_facts ok (List.getElem?_eq_getElem hk)
  rw [← ex] at hy e
  have ey : entI l (ownI l k (entI l k)) = y := by unfold entI at hy ⊢; rw [hy]; rfl
  rw [ey] at hd
  have hm : entI l k ∈ l := by rw [ex]; exact List.getElem_mem hk
  obtain ⟨z, hz, e1, e3, e2⟩ := thing_mem ((ok.each _ hm).hard h6)
  have : y = z := by
   have h1 := look_mem ok.once (List.mem_of_getElem? hy)
   have h2 := look_mem ok.once hz
   rw [← h1, ← h2]
   unfold opath at e
   rw [if_pos h6] at e
   rw [e, e1]
  rw [this] at hd
  exact e3 hd
 ·unfold ownI
  rw [if_neg h6]
theorem trI_ofo {l : List En} (ok : OkS l) {k : Nat} (hk : k < l.length) : ((trI l k).o, if (trI l k).dir = true then some (trI l k).p else none) = ofo l (trI l k).o := by
 unfold ofo
 cases hd : (trI l k).dir with
 | false =>
  have : ¬ (entI l (trI l k).o).k = 2 := by
   have h2 : decide ((entI l (trI l k).o).k = 2) = false := hd
   simpa using h2
  rw [if_neg this]
  rfl
 | true =>
  obtain ⟨h1, h2⟩ := trI_dir ok hk hd
  have h3 : (entI l (trI l k).o).k = 2 := by
   have h2 : decide ((entI l (trI l k).o).k = 2) = true := hd
   simpa using h2
  rw [if_pos h3, h1, h2]
  rfl
def kmax (ns : List No) (K : Nat) : Prop := ∀ (j : Nat) (n : No), ns[j]? = some n → n.kids.length ≤ K
theorem kmax_mod {ns : List No} {K i d : Nat} {f : No → No} (h : kmax ns K) (hf : ∀ n, (f n).kids.length ≤ n.kids.length + d) : kmax (ns.modify i f) (K + d) := by
 intro j n hn
 rw [List.getElem?_modify] at hn
 cases hq : ns[j]? with
 | none => rw [hq] at hn; simp at hn
 | some m =>
  rw [hq] at hn
  have := h j m hq
  have := hf m
  by_cases hij : i = j
  ·simp [hij] at hn
   rw [← hn]; omega
  ·simp [hij] at hn
   rw [← hn]; omega
theorem kmax_new {s : Bs Nat} {t : Tp Nat} {K : Nat} (h : kmax s.ns K) (ht : t.nd.kids = []) : kmax (newO s t).ns K := by
 unfold newO
 split
 ·exact h
 ·intro j n hn
  simp only at hn
  rcases Nat.lt_or_ge j s.ns.length with hj | hj
  ·rw [List.getElem?_append_left hj] at hn
   exact h j n hn
  ·rw [List.getElem?_append_right hj] at hn
   cases hjj : j - s.ns.length with
   | zero => rw [hjj] at hn; simp at hn; rw [← hn]; simp [ht]
   | succ q => rw [hjj] at hn; simp at hn
theorem kmax_bst {s : Bs Nat} {t : Tp Nat} {K : Nat} (h : kmax s.ns K) (ht : t.nd.kids = []) : kmax (bst s t).ns (K + 1) := by
 have h1 := kmax_new h ht
 unfold bst
 have h2 : ∀ i c, kmax (addKid i c (newO s t).ns) (K + 1) := fun i c => kmax_mod h1 (fun n => by simp)
 have h3 : ∀ i (ns : List No), kmax ns (K + 1) → kmax (addLink i ns) (K + 1) := fun i ns hns => kmax_mod (d := 0) hns (fun n => Nat.le_refl _)
 have h4 : ∀ i u (ns : List No), kmax ns (K + 1) → kmax (setUp i u ns) (K + 1) := fun i u ns hns => kmax_mod (d := 0) hns (fun n => Nat.le_refl _)
 simp only
 split
 ·exact h3 _ _ (h4 _ _ _ (h2 _ _))
 ·exact h3 _ _ (h2 _ _)
theorem kmax_fold : ∀ (ts : List (Tp Nat)) (s : Bs Nat) (K : Nat), kmax s.ns K → (∀ t ∈ ts, t.nd.kids = []) → kmax (ts.foldl bst s).ns (K + ts.length)
 | [], s, K, h, _ => h
 | t :: ts, s, K, h, ht => by
  have := kmax_fold ts (bst s t) (K + 1) (kmax_bst h (ht t (by simp))) (fun u hu => ht u (by simp [hu]))
  rw [List.foldl_cons, List.length_cons]
  rw [show K + (ts.length + 1) = K + 1 + ts.length by omega]
  exact this
def lmax (ns : List No) (K : Nat) : Prop := ∀ (j : Nat) (n : No), ns[j]? = some n → 0 ≤ n.links ∧ n.links ≤ K
theorem lmax_mod {ns : List No} {K i d : Nat} {f : No → No} (h : lmax ns K) (hf : ∀ n, n.links ≤ (f n).links ∧ (f n).links ≤ n.links + d) : lmax (ns.modify i f) (K + d) := by
 intro j n hn
 rw [List.getElem?_modify] at hn
 cases hq : ns[j]? with
 | none => rw [hq] at hn; simp at hn
 | some m =>
  rw [hq] at hn
  have := h j m hq
  have := hf m
  by_cases hij : i = j
  ·simp [hij] at hn
   rw [← hn]; omega
  ·simp [hij] at hn
   rw [← hn]; omega
theorem lmax_new {s : Bs Nat} {t : Tp Nat} {K : Nat} (h : lmax s.ns K) (hK : 2 ≤ K) : lmax (newO s t).ns K := by
 unfold newO
 split
 ·exact h
 ·intro j n hn
  simp only at hn
  rcases Nat.lt_or_ge j s.ns.length with hj | hj
  ·rw [List.getElem?_append_left hj] at hn
   exact h j n hn
  ·rw [List.getElem?_append_right hj] at hn
   cases hjj : j - s.ns.length with
   | zero =>
    rw [hjj] at hn
    simp at hn
    rw [← hn]
    simp only
    split <;> omega
   | succ q => rw [hjj] at hn; simp at hn
theorem lmax_bst {s : Bs Nat} {t : Tp Nat} {K : Nat} (h : lmax s.ns K) (hK : 2 ≤ K) : lmax (bst s t).ns (K + 1) := by
 have h1 := lmax_new (t := t) h hK
 unfold bst
 have h2 : ∀ i c, lmax (addKid i c (newO s t).ns) K := fun i c => lmax_mod (d := 0) h1 (fun n => ⟨Int.le_refl _, by simp⟩)
 have h3 : ∀ i (ns : List No), lmax ns K → lmax (addLink i ns) (K + 1) := fun i ns hns => lmax_mod (d := 1) hns (fun n => ⟨by simp only; omega, by simp⟩)
 have h4 : ∀ i u (ns : List No), lmax ns K → lmax (setUp i u ns) K := fun i u ns hns => lmax_mod (d := 0) hns (fun n => ⟨Int.le_refl _, by simp⟩)
 simp only
 split
 ·exact h3 _ _ (h4 _ _ _ (h2 _ _))
 ·exact h3 _ _ (h2 _ _)
theorem lmax_fold : ∀ (ts : List (Tp Nat)) (s : Bs Nat) (K : Nat), lmax s.ns K → 2 ≤ K → lmax (ts.foldl bst s).ns (K + ts.length)
 | [], s, K, h, _ => h
 | t :: ts, s, K, h, hK => by
  have := lmax_fold ts (bst s t) (K + 1) (lmax_bst h hK) (by omega)
  rw [List.foldl_cons, List.length_cons, show K + (ts.length + 1) = K + 1 + ts.length by omega]
  exact this
theorem Pl.mod {l : List En} {s : Bs Nat} {os : List Nat} {ns : List No} (h : Pl l s os) (hl : ns.length = s.ns.length) : Pl l ⟨s.os, ns⟩ os := ⟨h.os_eq, h.nd, h.lt, by rw [hl]; exact h.len⟩
end Go.Proofs.YtlehncfehoelbaaGreatDoor
namespace Go.Proofs.YtlehncfehoelbaaGreatDoor
open Go.RowKit
set_option maxRecDepth 100000
set_option linter.unusedSimpArgs false
set_option linter.unusedVariables false
theorem bx_ne {W : World} {g T b e s n : Nat} {cs xs : List Value} {v : Value} (h : Bx W g T cs) (ho : W.ownsRow b e s v n xs) (he : T ≠ e) : some g ≠ v.ownBlock := by
 rcases ho.2 with ⟨rfl, _⟩ | ⟨g', cap', cur', rfl, _, hg', _⟩
 ·simp [Value.ownBlock]
 ·intro e
  simp only [Value.ownBlock, Option.some.injEq] at e
  subst e
  have := h.blk
  rw [hg'] at this
  injection this with this
  injection this with _ this
  exact he this.symm
structure Cs (w W : World) (gt bo : Nat) (v vo vr : Value) (ns : List NoV) (os ord : List Nat) : Prop where
 td : Td w W w.heap.size v ns
 bt : Bx W gt 33 [v]
 br : Bx W w.heap.size 33 [.slice none 0 0]
 gtl : w.heap.size < gt
 own : W.ownsRow bo 3 1 vo os.length (ivN os)
 orr : W.ownsRow w.heap.size 3 1 vr ord.length (ivN ord)
 sep : ∀ b, vr.ownBlock = some b → b < bo
 bol : w.heap.size ≤ bo
 bos : bo ≤ W.heap.size
theorem Cs.kept {w W W' : World} {gt bo : Nat} {v vo vr : Value} {ns : List NoV} {os ord : List Nat} (h : Cs w W gt bo v vo vr ns os ord) (g : W.grownBy W' none) : Cs w W' gt bo v vo vr ns os ord :=
 ⟨h.td.kept g, h.bt.kept g, h.br.kept g, h.gtl, h.own.kept g (ne_none _), h.orr.kept g (ne_none _), h.sep, h.bol, Nat.le_trans h.bos g.size⟩
theorem Cs.row {w W W' : World} {gt bo : Nat} {v vo vr : Value} {ns ns' : List NoV} {os ord : List Nat} {e s n b : Nat} {u : Value} {xs : List Value} (h : Cs w W gt bo v vo vr ns os ord) (ho : W.ownsRow b e s u n xs) (h3 : 3 ≠ e) (hT : 33 ≠ e) (g : W.grownBy W' u.ownBlock) (htd : Td w W' w.heap.size v ns') : Cs w W' gt bo v vo vr ns' os ord :=
 ⟨htd, h.bt.but g (bx_ne h.bt ho hT), h.br.but g (bx_ne h.br ho hT), h.gtl, h.own.kept g (owns_ne h.own ho h3), h.orr.kept g (owns_ne h.orr ho h3), h.sep, h.bol, Nat.le_trans h.bos g.size⟩
theorem Cs.addO {w W W' : World} {gt bo : Nat} {v vo vo' vr : Value} {ns : List NoV} {os ord : List Nat} {o : Nat} (h : Cs w W gt bo v vo vr ns os ord) (hown : W'.ownsRow bo 3 1 vo' (os.length + 1) (ivN os ++ [.int .i64 o])) (g : W.grownBy W' vo.ownBlock) : Cs w W' gt bo v vo' vr ns (os ++ [o]) ord := by
 have hlow : W.ownsRow w.heap.size 3 1 vo os.length (ivN os) := owns_low11 h.own h.bol
 refine ⟨h.td.other hlow (by decide) (by decide) (by decide) g, h.bt.but g (bx_ne h.bt h.own (by decide)), h.br.but g (bx_ne h.br h.own (by decide)), h.gtl, ?_, h.orr.kept g ?_, h.sep, h.bol, Nat.le_trans h.bos g.size⟩
 ·have e : ivN (os ++ [o]) = ivN os ++ [.int .i64 o] := by unfold ivN; simp
  rw [List.length_append, e]
  exact hown
 ·cases hb : vr.ownBlock with
  | none => exact .inl rfl
  | some b =>
   right
   intro e
   have h1 := h.sep b hb
   have h2 := (h.own.lt b e.symm).1
   omega
theorem Cs.addN {w W W1 : World} {gt bo : Nat} {v v' vo vr : Value} {ns : List NoV} {os ord : List Nat} {N : NoV} (h : Cs w W gt bo v vo vr ns os ord) (hN : Nk w W w.heap.size N) (hk : N.ka = none) (hown : W1.ownsRow w.heap.size 43 13 v' (ns.length + 1) (ns.flatMap nvc ++ nvc N)) (g : W.grownBy W1 v.ownBlock) : Cs w (W1.setCell ⟨gt, 0, none⟩ v') gt bo v' vo vr (ns ++ [N]) os ord := by
 have htd := h.td.add hN hk hown g
 have bt1 := h.bt.but g (bx_ne h.bt h.td.own (by decide))
 have br1 := h.br.but g (bx_ne h.br h.td.own (by decide))
 have ow1 := h.own.kept g (owns_ne h.own h.td.own (by decide))
 have or1 := h.orr.kept g (owns_ne h.orr h.td.own (by decide))
 have g2 := grown_set W1 gt 0 v'
 have hb2 : W1.ownsRow w.heap.size 33 1 (.slice (some ⟨gt, 0, none⟩) 1 1) 1 [v] := ⟨rfl, .inr ⟨gt, 1, #[v], rfl, Nat.le_of_lt h.gtl, bt1.blk, Nat.le_refl _, by decide, rfl, rfl⟩⟩
 refine ⟨htd.other hb2 (by decide) (by decide) (by decide) g2, bt1.set 0 v', br1.but g2 (by intro e; injection e with e; have := h.gtl; omega), h.gtl, ow1.kept g2 (owns_ne ow1 hb2 (by decide)), or1.kept g2 (owns_ne or1 hb2 (by decide)), h.sep, h.bol, ?_⟩
 have := g.size
 have := h.bos
 rw [size_set]
 omega
theorem Cs.addK {w W W1 : World} {gt bo g c n : Nat} {vo vr : Value} {ns : List NoV} {os ord : List Nat} (h : Cs w W gt bo (.slice (some ⟨g, 0, none⟩) n c) vo vr ns os ord) (hn : ns.length = n) {i : Nat} {X : NoV} (hX : ns[i]? = some X) {K : Kd} {ka : Option Addr} {kl kc : Nat}
  (hown : W1.ownsRow w.heap.size 47 2 (.slice ka kl kc) (X.kl + 1) (X.kids.flatMap kdc ++ kdc K)) (hkl : kl = X.kl + 1) (g1 : W.grownBy W1 X.kv.ownBlock) (hat : (Value.slice ka kl kc).ownBlock = X.kv.ownBlock ∨ (∃ q, (Value.slice ka kl kc).ownBlock = some q ∧ W.heap.size ≤ q)) :
  Cs w (W1.setCell ⟨g, i * 13 + 10, none⟩ (.slice ka kl kc)) gt bo (.slice (some ⟨g, 0, none⟩) n c) vo vr (ns.set i { X with ka := ka, kl := kl, kc := kc, kids := X.kids ++ [K] }) os ord := by
 have hkX := (h.td.each i X hX).kid
 have hno : W1.ownsRow w.heap.size 43 13 (.slice (some ⟨g, 0, none⟩) n c) n (ns.flatMap nvc) := by
  have := h.td.own.kept g1 (owns_ne h.td.own hkX (by decide))
  rwa [hn] at this
 have bt1 := h.bt.but g1 (bx_ne h.bt hkX (by decide))
 have br1 := h.br.but g1 (bx_ne h.br hkX (by decide))
 have ow1 := h.own.kept g1 (owns_ne h.own hkX (by decide))
 have or1 := h.orr.kept g1 (owns_ne h.orr hkX (by decide))
 have g2 : W1.grownBy (W1.setCell ⟨g, i * 13 + 10, none⟩ (.slice ka kl kc)) (Value.slice (some ⟨g, 0, none⟩) n c).ownBlock := grown_set W1 g (i * 13 + 10) _
 refine ⟨h.td.kid hn hX hown hkl g1 hat, bt1.but g2 (bx_ne bt1 hno (by decide)), br1.but g2 (bx_ne br1 hno (by decide)), h.gtl, ow1.kept g2 (owns_ne ow1 hno (by decide)), or1.kept g2 (owns_ne or1 hno (by decide)), h.sep, h.bol, ?_⟩
 have := g1.size
 have := h.bos
 rw [size_set]
 omega
theorem Cs.set {w W : World} {gt bo g c n : Nat} {vo vr : Value} {ns : List NoV} {os ord : List Nat} (h : Cs w W gt bo (.slice (some ⟨g, 0, none⟩) n c) vo vr ns os ord) (hn : ns.length = n) {i f : Nat} {X X' : NoV} {u : Value} (hX : ns[i]? = some X) (hf : f < 13) (e : nvc X' = (nvc X).set f u)
  (hk : X'.da = X.da ∧ X'.dl = X.dl ∧ X'.data = X.data ∧ X'.aa = X.aa ∧ X'.al = X.al ∧ X'.ac = X.ac ∧ X'.attrs = X.attrs ∧ X'.ka = X.ka ∧ X'.kl = X.kl ∧ X'.kc = X.kc ∧ X'.kids = X.kids) (hf6 : f ≠ 6 := by decide) :
  Cs w (W.setCell ⟨g, i * 13 + f, none⟩ u) gt bo (.slice (some ⟨g, 0, none⟩) n c) vo vr (ns.set i X') os ord := by
 have g2 : W.grownBy (W.setCell ⟨g, i * 13 + f, none⟩ u) (Value.slice (some ⟨g, 0, none⟩) n c).ownBlock := grown_set W g (i * 13 + f) _
 refine h.row h.td.own (by decide) (by decide) g2 (h.td.set hn hX hf e hk hf6)
theorem nk_new {w W W' : World} {N : NoV} (h : NodeNew w W W' N) (hg : w.grownBy W none) (hk : N.ka = none ∧ N.kl = 0 ∧ N.kc = 0) (hn : N.kids = []) : Nk w W' w.heap.size N := by
 refine ⟨h.row, owns_low11 h.own hg.size, h.len, h.rows, ?_, by rw [hk.2.1, hn]; rfl, h.dcap⟩
 rw [hk.1, hk.2.1, hk.2.2, hn]
 exact World.ownsRow_nil _ _ _ _
theorem nos_set {l : List NoV} {i : Nat} {X X' : NoV} {f : No → No} (hX : l[i]? = some X) (e : X'.no = f X.no) : nos (l.set i X') = (nos l).modify i f := by
 unfold nos
 apply List.ext_getElem?
 intro j
 rw [List.getElem?_map, List.getElem?_set, List.getElem?_modify, List.getElem?_map]
 have hi : i < l.length := (List.getElem?_eq_some_iff.1 hX).1
 by_cases hij : i = j
 ·subst hij
  have hxe : l[i] = X := (List.getElem?_eq_some_iff.1 hX).2
  simp [e, hi, hxe]
 ·rw [if_neg hij]
  cases l[j]? <;> simp [hij]
end Go.Proofs.YtlehncfehoelbaaGreatDoor
