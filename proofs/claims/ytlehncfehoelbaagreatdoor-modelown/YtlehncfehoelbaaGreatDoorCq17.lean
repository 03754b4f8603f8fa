/- The program's tree, plain: lay. -/
import Derived.Test.YtlehncfehoelbaaGreatDoorProg
import Derived.Shelf.Bits.Mul64
import Derived.Laws.CopyOwn
import Derived.Deep.RegionHeld3
import Derived.Test.YtlehncfehoelbaaGreatDoorCq02
import Derived.Test.YtlehncfehoelbaaGreatDoorCq06
import Derived.Test.YtlehncfehoelbaaGreatDoorCq07
import Derived.Test.YtlehncfehoelbaaGreatDoorCq10
import Derived.Test.YtlehncfehoelbaaGreatDoorCq16
namespace Go.Proofs.YtlehncfehoelbaaGreatDoor
set_option linter.unusedVariables false
set_option linter.unusedSimpArgs false
def hngQ (u i : Nat) (s : Tx) (dir : Bool) (ns : List No) : List No := if dir then addLink u (setUp i u (addKid u ⟨s, i⟩ ns)) else addLink i (addKid u ⟨s, i⟩ ns)
structure Ly where
 ns : List No
 nm : List Int
def nd0 (x : En) : No := { ndOf x with links := if x.k = 2 then 2 else 0 }
def lyNew (l : List En) (s : Ly) (o : Nat) : Ly := if s.nm.getD o (-1) < 0 then ⟨s.ns ++ [nd0 (entI l o)], s.nm.set o s.ns.length⟩ else s
def lySt (l : List En) (s : Ly) (i : Nat) : Ly :=
 if (entI l i).path = [] then lyNew l s (ownI l i (entI l i)) else
 ⟨hngQ ((lyNew l s (ownI l i (entI l i))).nm.getD (plF l (upT (entI l i).path)).toNat (-1)).toNat ((lyNew l s (ownI l i (entI l i))).nm.getD (ownI l i (entI l i)) (-1)).toNat (lastT (entI l i).path) (decide ((entI l (ownI l i (entI l i))).k = 2)) (lyNew l s (ownI l i (entI l i))).ns, (lyNew l s (ownI l i (entI l i))).nm⟩
def ly0 (l : List En) : Ly := ⟨[], List.replicate l.length (-1)⟩
def nmOf (r : Nat) (os : List Nat) (o : Nat) : Int := if o = r then 0 else match idx os o with
 | some j => (j : Int) + 1
 | none => -1
structure Lr (l : List En) (r : Nat) (s : Bs Nat) (os : List Nat) (K : Nat) (y : Ly) : Prop where
 pl : Pl l s os
 ns : y.ns = s.ns
 len : y.nm.length = l.length
 nr : r ∉ os
 nm : ∀ o, o < l.length → y.nm.getD o (-1) = nmOf r os o
 kinds : s.ns.map No.k = 2 :: os.map fun o => (entI l o).k
 km : kmax s.ns K
 lm : lmax s.ns (K + 2)
theorem idx_none_iff {os : List Nat} {o : Nat} : idx os o = none ↔ o ∉ os := by
 unfold idx
 rw [List.findIdx?_eq_none_iff]
 constructor
 ·intro h k; have := h o k; simp at this
 ·intro h x hx
  simp only [decide_eq_false_iff_not]
  exact fun e => h (e ▸ hx)
theorem Lr.root {l : List En} (ok : OkS l) {r : Nat} {x : En} (hr : l[r]? = some x) (hx : x.path = []) : Lr l r ⟨[], [{ ndOf (look l []) with links := 2 }]⟩ [] 0 (lySt l (ly0 l) r) := by
 have hrl := (List.getElem?_eq_some_iff.1 hr).1
 have ex : entI l r = x := by unfold entI; rw [hr]; rfl
 have okx := ok.each x (List.mem_of_getElem? hr)
 have hk : x.k = 2 := by
  have := okx.path
  unfold pth at this
  rw [if_pos hx] at this
  by_cases h2 : x.k = 2
  ·exact h2
  ·rw [if_neg h2] at this; cases this
 have el : look l [] = x := by rw [← hx]; exact look_mem ok.once (List.mem_of_getElem? hr)
 have eo : ownI l r x = r := by unfold ownI; rw [if_neg (by rw [hk]; decide)]
 have e0 : (List.replicate l.length (-1 : Int)).getD r (-1) = -1 := by simp [List.getD_eq_getElem?_getD, List.getElem?_replicate, hrl]
 have es : lySt l (ly0 l) r = ⟨[nd0 x], (List.replicate l.length (-1 : Int)).set r 0⟩ := by
  unfold lySt
  rw [ex, if_pos hx, eo]
  unfold lyNew ly0
  simp only [e0, ex]
  rfl
 rw [es]
 refine ⟨Pl.nil l _, ?_, by simp, by simp, fun o ho => ?_, ?_, ?_, ?_⟩
 ·rw [el]; unfold nd0; rw [if_pos hk]
 ·simp only [List.getD_eq_getElem?_getD, List.getElem?_set, List.length_replicate, nmOf, idx, List.findIdx?_nil]
  by_cases e : o = r
  ·subst e; simp [hrl]
  ·rw [if_neg (fun k => e k.symm), if_neg e]; simp [List.getElem?_replicate, ho]
 ·rw [el]; show [(ndOf x).k] = [2]; show [x.k] = [2]; rw [hk]
 ·intro j n hj
  cases j with
  | zero => simp only [List.getElem?_cons_zero, Option.some.injEq] at hj; subst hj; exact Nat.le_refl _
  | succ j => simp at hj
 ·intro j n hj
  cases j with
  | zero => simp only [List.getElem?_cons_zero, Option.some.injEq] at hj; subst hj; exact ⟨show (0 : Int) ≤ 2 by decide, show (2 : Int) ≤ ((0 + 2 : Nat) : Int) by decide⟩
  | succ j => simp at hj
theorem Lr.new {l : List En} (ok : OkS l) {r : Nat} {s : Bs Nat} {os : List Nat} {K : Nat} {y : Ly} (h : Lr l r s os K y) {i : Nat} (hi : i < l.length) (hr : ownI l i (entI l i) ≠ r) (ho : ownI l i (entI l i) < l.length) :
  ∃ os', (os' = os ∨ os' = os ++ [ownI l i (entI l i)]) ∧ ownI l i (entI l i) ∈ os' ∧ Lr l r (newO s (trI l i)) os' K (lyNew l y (ownI l i (entI l i))) := by
 unfold lyNew
 rw [h.nm _ ho]
 have hto : (trI l i).o = ownI l i (entI l i) := rfl
 cases hx : idx os (ownI l i (entI l i)) with
 | some j =>
  have e : nmOf r os (ownI l i (entI l i)) = (j : Int) + 1 := by unfold nmOf; rw [if_neg hr, hx]
  rw [e, if_neg (by omega), new_old h.pl (by rw [hto]; exact hx)]
  refine ⟨os, .inl rfl, ?_, h⟩
  apply Classical.byContradiction
  intro k
  rw [idx_none_iff.2 k] at hx
  cases hx
 | none =>
  have e : nmOf r os (ownI l i (entI l i)) = -1 := by unfold nmOf; rw [if_neg hr, hx]
  have hno := idx_none_iff.1 hx
  have km := kmax_new (t := trI l i) h.km rfl
  have lm := lmax_new (t := trI l i) h.lm (by omega)
  have e0 := new_new (t := trI l i) h.pl (by rw [hto]; exact hx)
  rw [e0, trI_ofo ok hi] at km lm
  rw [e, if_pos (by decide), e0, trI_ofo ok hi, hto]
  refine ⟨os ++ [ownI l i (entI l i)], .inr rfl, by simp, h.pl.add hx ho, ?_, ?_, ?_, fun o hol => ?_, ?_, km, lm⟩
  ·show y.ns ++ [nd0 (entI l (ownI l i (entI l i)))] = s.ns ++ [{ (trI l i).nd with links := if (trI l i).dir = true then 2 else 0 }]
   rw [h.ns]
   unfold nd0 trI
   simp only [decide_eq_true_eq]
  ·rw [List.length_set]; exact h.len
  ·intro k
   rcases List.mem_append.1 k with k | k
   ·exact h.nr k
   ·exact hr (List.mem_singleton.1 k).symm
  ·by_cases eo : o = ownI l i (entI l i)
   ·rw [← eo]
    rw [← eo] at hr hx
    have e1 : (y.nm.set o (y.ns.length : Int)).getD o (-1) = y.ns.length := by
     rw [List.getD_eq_getElem?_getD, List.getElem?_set_self (by rw [h.len]; exact hol)]; rfl
    show (y.nm.set o (y.ns.length : Int)).getD o (-1) = _
    rw [e1]
    unfold nmOf
    rw [if_neg hr, idx_snoc hx, h.ns, h.pl.len]
    simp
   ·have e1 : (y.nm.set (ownI l i (entI l i)) (y.ns.length : Int)).getD o (-1) = y.nm.getD o (-1) := by
     rw [List.getD_eq_getElem?_getD, List.getElem?_set_ne (fun k => eo k.symm), ← List.getD_eq_getElem?_getD]
    show (y.nm.set (ownI l i (entI l i)) (y.ns.length : Int)).getD o (-1) = _
    rw [e1, h.nm o hol]
    unfold nmOf
    by_cases er : o = r
    ·rw [if_pos er, if_pos er]
    ·rw [if_neg er, if_neg er]
     have : idx (os ++ [ownI l i (entI l i)]) o = idx os o := by
      unfold idx
      rw [List.findIdx?_append]
      cases os.findIdx? (fun x => decide (x = o)) with
      | some j => rfl
      | none => simp [List.findIdx?_cons]; exact fun k => eo k.symm
     rw [this]
  ·rw [List.map_append, h.kinds, List.map_append]
   rfl
theorem hngQ_k (u i : Nat) (s : Tx) (d : Bool) (ns : List No) : (hngQ u i s d ns).map No.k = ns.map No.k := by
 have hm : ∀ (j : Nat) (f : No → No) (ns : List No), (∀ n, (f n).k = n.k) → (ns.modify j f).map No.k = ns.map No.k := by
  intro j f ns hf
  apply List.ext_getElem?
  intro m
  rw [List.getElem?_map, List.getElem?_map, List.getElem?_modify]
  by_cases e : j = m
  ·cases hn : ns[m]? with
   | none => simp [hn]
   | some n => simp [e, hf]
  ·simp [e]
 unfold hngQ addLink setUp addKid
 cases d
 ·rw [if_neg Bool.false_ne_true, hm, hm] <;> (intro n; rfl)
 ·rw [if_pos rfl, hm, hm, hm] <;> (intro n; rfl)
theorem nd_len {os : List Nat} {n : Nat} (h : os.Nodup) (hl : ∀ o ∈ os, o < n) : os.length ≤ n := by
 induction n generalizing os with
 | zero =>
  cases os with
  | nil => exact Nat.le_refl _
  | cons a r => exact absurd (hl a (by simp)) (by omega)
 | succ n ih =>
  have h1 := ih (h.erase n) fun o ho => by
   have := (h.mem_erase_iff).1 ho
   have := hl o this.2
   omega
  rw [List.length_erase] at h1
  split at h1 <;> omega
theorem Lr.nsl {l : List En} {r : Nat} {s : Bs Nat} {os : List Nat} {K : Nat} {y : Ly} (h : Lr l r s os K y) {x : En} (hr : l[r]? = some x) : y.ns.length ≤ l.length := by
 rw [h.ns, h.pl.len]
 have := nd_len (os := r :: os) (n := l.length) (List.nodup_cons.2 ⟨h.nr, h.pl.nd⟩) fun o ho => by
  rcases List.mem_cons.1 ho with e | e
  ·rw [e]; exact (List.getElem?_eq_some_iff.1 hr).1
  ·exact h.pl.lt o e
 simpa using this
theorem plFz {l : List En} (ok : OkS l) {z : Nat} {x : En} (hz : l[z]? = some x) : plF l x.path = z := by
 unfold plF
 cases h : fstI l x.path with
 | none => exact absurd rfl (fstI_none h x (List.mem_of_getElem? hz))
 | some j =>
  obtain ⟨y, hy, e, -⟩ := fstI_some h
  have : j = z := by
   apply ok.rt.once j z
   ·unfold pths; rw [List.length_map]; exact (List.getElem?_eq_some_iff.1 hy).1
   ·unfold pths; rw [List.length_map]; exact (List.getElem?_eq_some_iff.1 hz).1
   ·rw [pths_getD hy, pths_getD hz, e]
  show (j : Int) = z
  rw [this]
theorem plF_own {l : List En} (ok : OkS l) {i : Nat} {x : En} (hx : l[i]? = some x) (h6 : x.k = 6) : plF l x.target = ownI l i x := by
 obtain ⟨y, hy, e⟩ := ownI_facts ok hx
 unfold opath at e
 rw [if_pos h6] at e
 rw [← e]
 exact plFz ok hy
structure Ls (l : List En) (y : Ly) (i K : Nat) : Prop where
 own : ownI l i (entI l i) < l.length
 ino : (entI l i).path ≠ [] → ∃ j : Nat, (lyNew l y (ownI l i (entI l i))).nm.getD (ownI l i (entI l i)) (-1) = j ∧ j < (lyNew l y (ownI l i (entI l i))).ns.length ∧ ((lyNew l y (ownI l i (entI l i))).ns[j]?.map No.k) = some (entI l (ownI l i (entI l i))).k
 up : (entI l i).path ≠ [] → ∃ f j : Nat, plF l (upT (entI l i).path) = f ∧ f < l.length ∧ (lyNew l y (ownI l i (entI l i))).nm.getD f (-1) = j ∧ j < (lyNew l y (ownI l i (entI l i))).ns.length
 okd : 1 ≤ (entI l (ownI l i (entI l i))).k ∧ (entI l (ownI l i (entI l i))).k ≤ 5
 km : kmax (lyNew l y (ownI l i (entI l i))).ns K
 lm : lmax (lyNew l y (ownI l i (entI l i))).ns (K + 2)
 len : y.nm.length = l.length
 nsl : y.ns.length ≤ l.length
theorem hngQ_len (u i : Nat) (s : Tx) (d : Bool) (ns : List No) : (hngQ u i s d ns).length = ns.length := by
 have := congrArg List.length (hngQ_k u i s d ns)
 rwa [List.length_map, List.length_map] at this
theorem bst_hng (s : Bs Nat) (t : Tp Nat) : bst s t = ⟨(newO s t).os, hngQ (upOf (newO s t).os (upT t.p)) (inoOf (newO s t).os t.o) (lastT t.p) t.dir (newO s t).ns⟩ := rfl
theorem root_k {l : List En} (ok : OkS l) {x : En} (hx : x ∈ l) (hp : x.path = []) : x.k = 2 := by
 have := (ok.each x hx).path
 unfold pth at this
 rw [if_pos hp] at this
 by_cases h2 : x.k = 2
 ·exact h2
 ·rw [if_neg h2] at this; cases this
theorem entI_of {l : List En} {i : Nat} {x : En} (h : l[i]? = some x) : entI l i = x := by unfold entI; rw [h]; rfl
theorem Lr.step {l : List En} (ok : OkS l) {r : Nat} {s : Bs Nat} {os : List Nat} {K : Nat} {y : Ly} (h : Lr l r s os K y) {xr : En} (hr : l[r]? = some xr) (hxr : xr.path = []) {i : Nat} {x : En} (hi : l[i]? = some x) (hne : x.path ≠ [])
  (hup : upT x.path = [] ∨ ∃ f z, f ∈ os ∧ l[f]? = some z ∧ z.path = upT x.path ∧ z.k = 2) :
  Ls l y i K ∧ ∃ os', ownI l i x ∈ os' ∧ (∀ o ∈ os, o ∈ os') ∧ Lr l r (bst s (trI l i)) os' (K + 1) (lySt l y i) := by
 have ex := entI_of hi
 have hil := (List.getElem?_eq_some_iff.1 hi).1
 obtain ⟨z, hz, ez⟩ := ownI_facts ok hi
 have hzl := (List.getElem?_eq_some_iff.1 hz).1
 have hone : ∀ (i j : Nat) (x y : En), l[i]? = some x → l[j]? = some y → x.path = y.path → i = j := fun i j x y hx hy e => by
  apply ok.rt.once i j
  ·unfold pths; rw [List.length_map]; exact (List.getElem?_eq_some_iff.1 hx).1
  ·unfold pths; rw [List.length_map]; exact (List.getElem?_eq_some_iff.1 hy).1
  ·rw [pths_getD hx, pths_getD hy, e]
 have hzk : 1 ≤ z.k ∧ z.k ≤ 5 ∧ ownI l i x ≠ r := by
  have hxm := List.mem_of_getElem? hi
  have hzm := List.mem_of_getElem? hz
  have hk := (ok.each z hzm).kind
  unfold inI at hk
  rw [Bool.and_eq_true, decide_eq_true_iff, decide_eq_true_iff] at hk
  unfold opath at ez
  by_cases h6 : x.k = 6
  ·rw [if_pos h6] at ez
   obtain ⟨v, hv, e1, e2, e3⟩ := thing_mem ((ok.each x hxm).hard h6)
   have : z = v := by
    rw [← look_mem ok.once hzm, ← look_mem ok.once hv, ez, e1]
   subst this
   refine ⟨hk.1, by omega, fun e => e2 ?_⟩
   rw [e, hr] at hz
   injection hz with hz
   exact root_k ok hv (by rw [← hz]; exact hxr)
  ·have : ownI l i x = i := by unfold ownI; rw [if_neg h6]
   rw [this, hi] at hz
   injection hz with hz
   subst hz
   refine ⟨hk.1, by omega, fun e => hne ?_⟩
   rw [this] at e
   rw [e, hr] at hi
   injection hi with hi
   rw [← hi]; exact hxr
 obtain ⟨k1, k2, hor⟩ := hzk
 have exo := entI_of hz
 obtain ⟨os', hos, hin, h1⟩ := h.new ok hil (by rw [ex]; exact hor) (by rw [ex]; exact hzl)
 rw [ex] at hos hin h1
 have hsub : ∀ o ∈ os, o ∈ os' := fun o ho => by
  rcases hos with e | e
  ·rw [e]; exact ho
  ·rw [e]; exact List.mem_append.2 (.inl ho)
 -- the numbers
 obtain ⟨j, hj⟩ : ∃ j, idx os' (ownI l i x) = some j := by
  cases hx : idx os' (ownI l i x) with
  | some j => exact ⟨j, rfl⟩
  | none => exact absurd hin (idx_none_iff.1 hx)
 have n1 : (lyNew l y (ownI l i x)).nm.getD (ownI l i x) (-1) = ((j + 1 : Nat) : Int) := by
  rw [h1.nm _ hzl]; unfold nmOf; rw [if_neg hor, hj]; simp
 have i1 : inoOf (newO s (trI l i)).os (trI l i).o = j + 1 := by
  rw [idx_ino h1.pl]
  show (match idx os' (ownI l i (entI l i)) with | some j => j + 1 | none => 0) = j + 1
  rw [ex, hj]
 have hjl : j + 1 < (lyNew l y (ownI l i x)).ns.length := by rw [h1.ns, h1.pl.len]; have := idx_lt' hj; omega
 have hkj : (lyNew l y (ownI l i x)).ns[j + 1]?.map No.k = some (entI l (ownI l i x)).k := by
  rw [h1.ns, ← List.getElem?_map, h1.kinds, List.getElem?_cons_succ, List.getElem?_map]
  have hjo : os'[j]? = some (ownI l i x) := by
   unfold idx at hj
   rw [List.findIdx?_eq_some_iff_getElem] at hj
   obtain ⟨hj1, hj2, -⟩ := hj
   rw [List.getElem?_eq_getElem hj1]
   simp only [decide_eq_true_eq] at hj2
   rw [hj2]
  rw [hjo]; rfl
 obtain ⟨f, u, hf, hfl, n2, hul, u1⟩ : ∃ f u : Nat, plF l (upT x.path) = f ∧ f < l.length ∧ (lyNew l y (ownI l i x)).nm.getD f (-1) = u ∧ u < (lyNew l y (ownI l i x)).ns.length ∧ upOf (newO s (trI l i)).os (upT x.path) = u := by
  rw [udx_up h1.pl]
  rcases hup with e | ⟨f, v, hfo, hv, e, k⟩
  ·have hrl := (List.getElem?_eq_some_iff.1 hr).1
   refine ⟨r, 0, by rw [e, ← hxr]; exact plFz ok hr, hrl, ?_, by rw [h1.ns, h1.pl.len]; omega, ?_⟩
   ·rw [h1.nm r hrl]; unfold nmOf; rw [if_pos rfl]; rfl
   ·have : udx l os' (upT x.path) = none := by
     unfold udx
     rw [List.findIdx?_eq_none_iff]
     intro o ho
     rw [Bool.and_eq_false_iff, decide_eq_false_iff_not, decide_eq_false_iff_not]
     right
     intro eo
     have hol := h1.pl.lt o ho
     have h3 := List.getElem?_eq_getElem hol
     rw [entI_of h3, e, ← hxr] at eo
     have := hone _ _ _ _ h3 hr eo
     exact h1.nr (this ▸ ho)
    rw [this]
  ·have hfl := (List.getElem?_eq_some_iff.1 hv).1
   have hfo' := hsub f hfo
   have hfr : f ≠ r := fun k => h1.nr (k ▸ hfo')
   obtain ⟨q, hq⟩ : ∃ q, idx os' f = some q := by
    cases hx : idx os' f with
    | some j => exact ⟨j, rfl⟩
    | none => exact absurd hfo' (idx_none_iff.1 hx)
   refine ⟨f, q + 1, by rw [← e]; exact plFz ok hv, hfl, ?_, by rw [h1.ns, h1.pl.len]; have := idx_lt' hq; omega, ?_⟩
   ·rw [h1.nm f hfl]; unfold nmOf; rw [if_neg hfr, hq]; simp
   ·have : udx l os' (upT x.path) = idx os' f := by
     unfold udx idx
     apply findIdx_congr
     intro o ho
     have hol := h1.pl.lt o ho
     have h3 := List.getElem?_eq_getElem hol
     rw [entI_of h3]
     by_cases eo : o = f
     ·subst eo
      rw [h3] at hv
      injection hv with hv
      rw [hv, k, e]
      simp
     ·rw [decide_eq_false eo, Bool.and_eq_false_iff]
      right
      rw [decide_eq_false_iff_not]
      exact fun e2 => eo (hone _ _ _ _ h3 hv (by rw [e2, e]))
    rw [this, hq]
 refine ⟨⟨by rw [ex]; exact hzl, fun _ => by rw [ex]; exact ⟨j + 1, n1, hjl, hkj⟩, fun _ => by rw [ex]; exact ⟨f, u, hf, hfl, n2, hul⟩, by rw [ex, exo]; exact ⟨k1, k2⟩, by rw [ex, h1.ns]; exact h1.km, by rw [ex, h1.ns]; exact h1.lm, h.len, h.nsl hr⟩, os', hin, hsub, ?_⟩
 have e1 : lySt l y i = ⟨hngQ u (j + 1) (lastT x.path) (trI l i).dir (lyNew l y (ownI l i x)).ns, (lyNew l y (ownI l i x)).nm⟩ := by
  unfold lySt
  rw [ex, if_neg hne, hf, n1]
  show (⟨hngQ ((lyNew l y (ownI l i x)).nm.getD f (-1)).toNat _ _ _ _, _⟩ : Ly) = _
  rw [n2]
  have : (trI l i).dir = decide ((entI l (ownI l i x)).k = 2) := by unfold trI; rw [ex]
  rw [this]
  rfl
 have e2 : bst s (trI l i) = ⟨(newO s (trI l i)).os, hngQ u (j + 1) (lastT x.path) (trI l i).dir (newO s (trI l i)).ns⟩ := by
  rw [bst_hng, i1]
  have : (trI l i).p = x.path := by unfold trI; rw [ex]
  rw [this, u1]
 have km := kmax_bst (t := trI l i) h.km rfl
 have lm := lmax_bst (t := trI l i) h.lm (by omega)
 rw [e2] at km lm
 rw [e1, e2]
 refine ⟨h1.pl.mod (hngQ_len _ _ _ _ _), by rw [h1.ns], h1.len, h1.nr, h1.nm, by rw [hngQ_k]; exact h1.kinds, km, ?_⟩
 have e3 : K + 1 + 2 = K + 2 + 1 := by omega
 rw [e3]
 exact lm
theorem take_snoc {α : Type} {l : List α} {j : Nat} {x : α} (h : l[j]? = some x) : l.take (j + 1) = l.take j ++ [x] := by
 rw [List.take_add_one, h]; rfl
theorem up_ahead {l : List En} (ok : OkS l) {j i : Nat} {x : En} (hj : (ordL (pths l))[j]? = some i) (hi : l[i]? = some x) (hne : x.path ≠ []) : upT x.path = [] ∨ ∃ f z, f ∈ (ordL (pths l)).take j ∧ l[f]? = some z ∧ z.path = upT x.path ∧ z.k = 2 := by
 have okx := ok.each x (List.mem_of_getElem? hi)
 have hacc := ordr_acc ok.rt ((pths l).length + 1) [] (Acc.nil _) (by have := left_le (pths l) []; omega)
 by_cases hu : upT x.path = []
 ·exact .inl hu
 ·right
  rcases okx.up with k | k
  ·exact absurd k hu
  ·obtain ⟨z, hz, ez, kz⟩ := folder_mem k
   obtain ⟨f, hf⟩ := List.mem_iff_getElem?.1 hz
   have hfl := (List.getElem?_eq_some_iff.1 hf).1
   have hpl : (pths l).length = l.length := by unfold pths; rw [List.length_map]
   have hlt : plt (upT x.path) x.path := up_lt okx.path hne hu
   have hin : f ∈ ordL (pths l) := hacc.2 f (by omega) (by rw [pths_getD hf, ez]; exact hu)
   refine ⟨f, z, ?_, hf, ez, kz⟩
   have hsort : (ordL (pths l)).Pairwise fun i j => plt ((pths l).getD i []) ((pths l).getD j []) := hacc.1.sorted
   have hd := List.take_append_drop j (ordL (pths l))
   rw [← hd] at hin
   rcases List.mem_append.1 hin with m | m
   ·exact m
   ·exfalso
    have hjl := (List.getElem?_eq_some_iff.1 hj).1
    have e2 : (ordL (pths l)).drop j = i :: (ordL (pths l)).drop (j + 1) := by
     rw [List.drop_eq_getElem_cons hjl, (List.getElem?_eq_some_iff.1 hj).2]
    rw [← hd, e2, List.pairwise_append, List.pairwise_cons] at hsort
    rw [e2] at m
    rcases List.mem_cons.1 m with m | m
    ·rw [m, hi] at hf
     injection hf with hf
     rw [← ez, ← hf] at hlt
     exact plt_irrefl _ hlt
    ·have h1 := hsort.2.1.1 f m
     rw [pths_getD hi, pths_getD hf, ez] at h1
     exact plt_asymm hlt h1
theorem lay_inv {l : List En} (ok : OkS l) {r : Nat} {xr : En} (hr : l[r]? = some xr) (hxr : xr.path = []) : ∀ j, j ≤ (ordL (pths l)).length →
  ∃ os, Lr l r (((((ordL (pths l)).take j).map (trI l)).foldl bst ⟨[], [{ ndOf (look l []) with links := 2 }]⟩)) os j ((r :: (ordL (pths l)).take j).foldl (lySt l) (ly0 l)) ∧ ∀ i ∈ (ordL (pths l)).take j, ownI l i (entI l i) ∈ os
 | 0, _ => ⟨[], Lr.root ok hr hxr, fun i hi => by simp at hi⟩
 | j + 1, hj => by
  obtain ⟨os, h, ho⟩ := lay_inv ok hr hxr j (by omega)
  have hji : (ordL (pths l))[j]? = some ((ordL (pths l))[j]'(by omega)) := List.getElem?_eq_getElem (by omega)
  generalize (ordL (pths l))[j]'(by omega) = i at hji
  obtain ⟨x, hi, hne⟩ := ordL_lt ok (List.mem_of_getElem? hji)
  have hup : upT x.path = [] ∨ ∃ f z, f ∈ os ∧ l[f]? = some z ∧ z.path = upT x.path ∧ z.k = 2 := by
   rcases up_ahead ok hji hi hne with k | ⟨f, z, m, hf, ez, kz⟩
   ·exact .inl k
   ·refine .inr ⟨f, z, ?_, hf, ez, kz⟩
    have := ho f m
    rw [entI_of hf] at this
    unfold ownI at this
    rwa [if_neg (by rw [kz]; decide)] at this
  obtain ⟨-, os', h1, h2, h3⟩ := h.step ok hr hxr hi hne hup
  refine ⟨os', ?_, fun q hq => ?_⟩
  ·rw [take_snoc hji, List.map_append, List.foldl_append, ← List.cons_append, List.foldl_append]
   exact h3
  ·rw [take_snoc hji] at hq
   rcases List.mem_append.1 hq with m | m
   ·exact h2 _ (ho q m)
   ·rw [List.mem_singleton.1 m, entI_of hi]; exact h1
theorem lay_ls {l : List En} (ok : OkS l) {r : Nat} {xr : En} (hr : l[r]? = some xr) (hxr : xr.path = []) {j i : Nat} (hj : (r :: ordL (pths l))[j]? = some i) : Ls l (((r :: ordL (pths l)).take j).foldl (lySt l) (ly0 l)) i j := by
 cases j with
 | zero =>
  simp only [List.getElem?_cons_zero, Option.some.injEq] at hj
  subst hj
  have ex := entI_of hr
  have hk := root_k ok (List.mem_of_getElem? hr) hxr
  have hrl := (List.getElem?_eq_some_iff.1 hr).1
  have eo : ownI l r xr = r := by unfold ownI; rw [if_neg (by rw [hk]; decide)]
  have e0 : (List.replicate l.length (-1 : Int)).getD r (-1) = -1 := by simp [List.getD_eq_getElem?_getD, List.getElem?_replicate, hrl]
  have en : (lyNew l (ly0 l) r).ns = [nd0 xr] := by
   unfold lyNew ly0
   simp only [e0, ex]
   rfl
  refine ⟨by rw [ex, eo]; exact hrl, fun h => absurd (by rw [ex]; exact hxr) h, fun h => absurd (by rw [ex]; exact hxr) h, by rw [ex, eo, ex, hk]; decide, ?_, ?_, by simp [ly0], by simp [ly0]⟩
  ·rw [ex, eo]
   show kmax (lyNew l (ly0 l) r).ns 0
   rw [en]
   intro j n hj
   cases j with
   | zero => simp only [List.getElem?_cons_zero, Option.some.injEq] at hj; subst hj; exact Nat.le_refl _
   | succ j => simp at hj
  ·rw [ex, eo]
   show lmax (lyNew l (ly0 l) r).ns (0 + 2)
   rw [en]
   intro j n hj
   cases j with
   | zero => simp only [List.getElem?_cons_zero, Option.some.injEq] at hj; subst hj; unfold nd0; rw [if_pos hk]; exact ⟨show (0 : Int) ≤ 2 by decide, show (2 : Int) ≤ ((0 + 2 : Nat) : Int) by decide⟩
   | succ j => simp at hj
 | succ j =>
  rw [List.getElem?_cons_succ] at hj
  have hjl := (List.getElem?_eq_some_iff.1 hj).1
  obtain ⟨os, h, ho⟩ := lay_inv ok hr hxr j (by omega)
  obtain ⟨x, hi, hne⟩ := ordL_lt ok (List.mem_of_getElem? hj)
  have hup : upT x.path = [] ∨ ∃ f z, f ∈ os ∧ l[f]? = some z ∧ z.path = upT x.path ∧ z.k = 2 := by
   rcases up_ahead ok hj hi hne with k | ⟨f, z, m, hf, ez, kz⟩
   ·exact .inl k
   ·refine .inr ⟨f, z, ?_, hf, ez, kz⟩
    have := ho f m
    rw [entI_of hf] at this
    unfold ownI at this
    rwa [if_neg (by rw [kz]; decide)] at this
  obtain ⟨a, -⟩ := h.step ok hr hxr hi hne hup
  rw [List.take_succ_cons]
  exact ⟨a.own, a.ino, a.up, a.okd, fun q n hq => Nat.le_trans (a.km q n hq) (by omega), fun q n hq => ⟨(a.lm q n hq).1, by have := (a.lm q n hq).2; omega⟩, a.len, a.nsl⟩
theorem lay_canon {l : List En} (ok : OkS l) {r : Nat} {xr : En} (hr : l[r]? = some xr) (hxr : xr.path = []) : ((r :: ordL (pths l)).foldl (lySt l) (ly0 l)).ns = canon l := by
 obtain ⟨os, h, -⟩ := lay_inv ok hr hxr (ordL (pths l)).length (Nat.le_refl _)
 rw [List.take_length] at h
 rw [h.ns, ← canonI_eq ok]
 rfl
end Go.Proofs.YtlehncfehoelbaaGreatDoor
namespace Go.Proofs.YtlehncfehoelbaaGreatDoor
open Go.RowKit
set_option maxRecDepth 100000
open Go.Maps (Keyed)
set_option linter.unusedSimpArgs false
set_option linter.unusedVariables false
theorem key9 : Keyed Tryz.prog 9 := Maps.string_keyed Tryz.underlying9
theorem zplace (w : World) : (zeroValue 116).run Tryz.prog w = .ok plZ w := by kernel_rfl
theorem keyp {s : ByteArray} (h : s.size ≤ 9223372036854775807) : keyOf Tryz.prog 9 (.string s) = some (.string s.toList) := keyS Tryz.underlying9 s (by unfold maxLen; omega)
theorem look57 {w : World} {b n : Nat} {l : List En} (h : MapF w 9 b n (plK l)) {s : ByteArray} (hs : s.size ≤ 9223372036854775807) :
  (Instr.lookup 111 (.map (some b)) (.string s) false).run Tryz.prog w = .ok (.agg #[.int .i64 (plF l s.toList), .bool (folder l s.toList), .bool (thing l s.toList)]) w := by
 rw [h.look key9 Tryz.underlying111 (zplace w) (keyp hs)]
 show Result.ok ((plE l s.toList).getD plZ) w = _
 rw [plE_getD]
theorem look57_ok {w : World} {b n : Nat} {l : List En} (h : MapF w 9 b n (plK l)) {s : ByteArray} (hs : s.size ≤ 9223372036854775807) :
  (Instr.lookup 111 (.map (some b)) (.string s) true).run Tryz.prog w = .ok (.tuple #[.agg #[.int .i64 (plF l s.toList), .bool (folder l s.toList), .bool (thing l s.toList)], .bool (fstI l s.toList).isSome]) w := by
 rw [h.look_ok key9 Tryz.underlying111 (zplace w) (keyp hs)]
 show Result.ok (Value.tuple #[(plE l s.toList).getD plZ, .bool (plE l s.toList).isSome]) w = _
 rw [plE_getD, plE_isSome]
theorem run_makeMapN {t k e : TypeId} (ht : Tryz.prog.underlying t = some (.map k e)) (n : Nat) (w : World) : (Instr.makeMap t (some (.int .i64 (n : Int)))).run Tryz.prog w = .ok (.map (some w.heap.size)) (w.alloc (.map #[] 0)) := by
 simp only [Instr.makeMap, Sem.run_bind, run_underlying ht, Result.andThen, asInt, Sem.run_pure]
 rfl
theorem ens_take {l : List EnV} {k : Nat} {Y : EnV} (h : l[k]? = some Y) : (l.map EnV.en).take (k + 1) = (l.map EnV.en).take k ++ [Y.en] := by
 have hlt : k < l.length := by
  rcases Nat.lt_or_ge k l.length with h1 | h1
  ·exact h1
  ·rw [List.getElem?_eq_none h1] at h; simp at h
 rw [List.take_succ_eq_append_getElem (by rw [List.length_map]; exact hlt)]
 have e : l[k] = Y := by rw [List.getElem?_eq_getElem hlt] at h; injection h
 simp [e]
theorem plK_next {l : List EnV} {k : Nat} {Y : EnV} (hk : k ≤ l.length) (h : l[k]? = some Y) {W : World} {b n : Nat} {v : Value} (hm : MapF W 9 b n (updF (plK ((l.map EnV.en).take k)) (.string Y.path.toList) v))
  (hv : some v = plE ((l.map EnV.en).take k ++ [Y.en]) Y.en.path) : MapF W 9 b n (plK ((l.map EnV.en).take (k + 1))) := by
 rw [ens_take h, ← plK_snoc ((l.map EnV.en).take k) Y.en _ rfl (kl := .string Y.path.toList) rfl hv]
 exact hm
set_option maxHeartbeats 4000000 in
theorem pplaces_any (a : Option Addr) (len cap : Nat) (l : List EnV) (w : World) (E : Ens w a len l) (hp : ∀ X ∈ l, X.path.size ≤ 5000) (hlen : len ≤ 100000) :
  Calls Tryz.prog 62 #[.slice a len cap] w fun e w' => e = .returned (.map (some w.heap.size)) ∧ MapF w' 9 w.heap.size len (plK (l.map EnV.en)) ∧ w.grownBy w' none := by
 have hll := E.len_eq
 have hta : (l.map EnV.en).take len = l.map EnV.en := List.take_of_length_le (by rw [List.length_map]; omega)
 have HI : Hid _ := xai E (xai hll (xai hta hp))
 clear E hll hta hp
 have hmm := run_makeMapN Tryz.underlying111 len w
 have H0 : Hid _ := MapF.made w 9
 have G0 : Hid _ := xga w (.map #[] 0) none
 go_enter Tryz.func62, Tryz.ntmps62
 go_wp2_with fail
 clear hmm
 have hgs : w.heap.size ≤ w.heap.size := Nat.le_refl _
 generalize hB : w.heap.size = B at *
 have HB : Hid _ := hB
 clear hB hgs
 go_loopw [13] (fun vi wr => ∃ (k : Nat), k ≤ len ∧ vi = .int .i64 k ∧ Hid (MapF wr 9 B k (plK ((l.map EnV.en).take k))) ∧ Hid (w.grownBy wr none)) (fun vi _ => len - (intOf vi).toNat)
 case atStart => exact ⟨0, Nat.zero_le _, rfl, by show MapF _ _ _ _ _; have e : plK ((l.map EnV.en).take 0) = fun _ => none := (by funext x; cases x <;> rfl); rw [e]; exact H0.out, G0.out⟩
 case round =>
  clear H0 G0
  obtain ⟨k, hk, rfl, HM, HG⟩ := hrel
  by_cases hlt : k < len
  ·obtain ⟨Y, hY⟩ : ∃ Y, l[k]? = some Y := ⟨_, List.getElem?_eq_getElem (by have := HI.out.2.1; omega)⟩
   obtain ⟨b, off, rfl, hat⟩ := (HI.out.1.grown HG.out).at_ (by omega)
   obtain ⟨y0, y1, y2, y3, y4, y5, y6, y7, y8, y9, y10, yok⟩ := hat k Y hY
   have hps : Y.path.size ≤ 9223372036854775807 := by have := HI.out.2.2.2 Y (List.mem_of_getElem? hY); omega
   have hkl := HI.out.2.1
   have hnx := fun W n v h1 h2 => plK_next (W := W) (b := B) (n := n) (v := v) (by omega : k ≤ l.length) hY h1 h2
   have hsm := plE_same ((l.map EnV.en).take k) Y.en
   rw [List.length_take, List.length_map, Nat.min_eq_left (by omega)] at hsm
   rw [hsm] at hnx
   have HN : Hid _ := hnx
   clear hsm hnx hkl hat yok hY
   have hwr : w.heap.size ≤ wr.heap.size := HG.out.size
   have hBl := HM.out.lt
   have hlk := fun W (g : wr.grownBy W none) => look57_ok (HM.out.kept g (by simp)) hps
   have hkey := keyp hps
   obtain ⟨path, KY, mo, uid, gid, ti, sz_, da, D, dc, data, tg, dev, aa, al, ac, attrs⟩ := Y
   simp only [EnV.en] at y0 y1 y2 y3 y4 y5 y6 y7 y8 y9 y10 HN hlk hkey
   clear hps
   generalize plF (List.take k (List.map EnV.en l)) path.toList = PF at *
   generalize folder (List.take k (List.map EnV.en l)) path.toList = PD at *
   generalize thing (List.take k (List.map EnV.en l)) path.toList = PT at *
   generalize (fstI (List.take k (List.map EnV.en l)) path.toList).isSome = TH at *
   generalize plK (List.take k (List.map EnV.en l)) = PK at *
   have hlti : (k : Int) < (len : Int) := by omega
   have hl2 := hlk (wr.alloc (.cells #[.string path, .int .i64 KY, .int .i64 mo, .int .i64 uid, .int .i64 gid, .int .i64 ti, .int .i64 sz_, .slice da D dc, .string tg, .int .i64 dev, .slice aa al ac] 30)) (xga _ _ none)
   clear hlk
   cases TH with
   | true =>
    by_cases h2 : KY = 2
    ·subst h2
     go_wp2_with ((at_mapUpdate; refine wpList_storeF rfl _ rfl _ _ _ 111 rfl 9 116 key9 Tryz.underlying111 B k _ rfl (HM.out.kept (xgt (xga _ _ none) (xga _ _ none)) (by simp)) (by unfold maxLen; omega) _ _ _ rfl rfl hkey (by simp [WideAt.IsKeyLit]) ?_; intro W1 HM1 HG1))
     exact ⟨⟨k + 1, by omega, by go_num, HN.out _ _ _ HM1.out (by show some (Value.agg #[.int .i64 _, .bool _, .bool _]) = some _; simp [inI]), grown_new (xgt (xgt HG.out (xga _ _ none)) (xga _ _ none)) HG1.out (by rw [HB.out]; exact Nat.le_refl _)⟩, by simp [intOf]; omega⟩
    ·have b2 : (KY == 2) = false := by rw [beq_eq_false_iff_ne]; exact h2
     by_cases h1 : KY = 1
     ·subst h1
      go_wp2_with ((at_mapUpdate; refine wpList_storeF rfl _ rfl _ _ _ 111 rfl 9 116 key9 Tryz.underlying111 B k _ rfl (HM.out.kept (xgt (xga _ _ none) (xga _ _ none)) (by simp)) (by unfold maxLen; omega) _ _ _ rfl rfl hkey (by simp [WideAt.IsKeyLit]) ?_; intro W1 HM1 HG1))
      exact ⟨⟨k + 1, by omega, by go_num, HN.out _ _ _ HM1.out (by show some (Value.agg #[.int .i64 _, .bool _, .bool _]) = some _; simp [inI]), grown_new (xgt (xgt HG.out (xga _ _ none)) (xga _ _ none)) HG1.out (by rw [HB.out]; exact Nat.le_refl _)⟩, by simp [intOf]; omega⟩
     ·have b1 : (KY == 1) = false := by rw [beq_eq_false_iff_ne]; exact h1
      by_cases h3 : KY = 3
      ·subst h3
       go_wp2_with ((at_mapUpdate; refine wpList_storeF rfl _ rfl _ _ _ 111 rfl 9 116 key9 Tryz.underlying111 B k _ rfl (HM.out.kept (xgt (xga _ _ none) (xga _ _ none)) (by simp)) (by unfold maxLen; omega) _ _ _ rfl rfl hkey (by simp [WideAt.IsKeyLit]) ?_; intro W1 HM1 HG1))
       exact ⟨⟨k + 1, by omega, by go_num, HN.out _ _ _ HM1.out (by show some (Value.agg #[.int .i64 _, .bool _, .bool _]) = some _; simp [inI]), grown_new (xgt (xgt HG.out (xga _ _ none)) (xga _ _ none)) HG1.out (by rw [HB.out]; exact Nat.le_refl _)⟩, by simp [intOf]; omega⟩
      ·have b3 : (KY == 3) = false := by rw [beq_eq_false_iff_ne]; exact h3
       by_cases h4 : KY = 4
       ·subst h4
        go_wp2_with ((at_mapUpdate; refine wpList_storeF rfl _ rfl _ _ _ 111 rfl 9 116 key9 Tryz.underlying111 B k _ rfl (HM.out.kept (xgt (xga _ _ none) (xga _ _ none)) (by simp)) (by unfold maxLen; omega) _ _ _ rfl rfl hkey (by simp [WideAt.IsKeyLit]) ?_; intro W1 HM1 HG1))
        exact ⟨⟨k + 1, by omega, by go_num, HN.out _ _ _ HM1.out (by show some (Value.agg #[.int .i64 _, .bool _, .bool _]) = some _; simp [inI]), grown_new (xgt (xgt HG.out (xga _ _ none)) (xga _ _ none)) HG1.out (by rw [HB.out]; exact Nat.le_refl _)⟩, by simp [intOf]; omega⟩
       ·have b4 : (KY == 4) = false := by rw [beq_eq_false_iff_ne]; exact h4
        by_cases h5 : KY = 5
        ·subst h5
         go_wp2_with ((at_mapUpdate; refine wpList_storeF rfl _ rfl _ _ _ 111 rfl 9 116 key9 Tryz.underlying111 B k _ rfl (HM.out.kept (xgt (xga _ _ none) (xga _ _ none)) (by simp)) (by unfold maxLen; omega) _ _ _ rfl rfl hkey (by simp [WideAt.IsKeyLit]) ?_; intro W1 HM1 HG1))
         exact ⟨⟨k + 1, by omega, by go_num, HN.out _ _ _ HM1.out (by show some (Value.agg #[.int .i64 _, .bool _, .bool _]) = some _; simp [inI]), grown_new (xgt (xgt HG.out (xga _ _ none)) (xga _ _ none)) HG1.out (by rw [HB.out]; exact Nat.le_refl _)⟩, by simp [intOf]; omega⟩
        ·have b5 : (KY == 5) = false := by rw [beq_eq_false_iff_ne]; exact h5
         have HE : Hid (KY ≠ 2 ∧ inI KY 1 5 = false) := by
          show _ ∧ _
          unfold inI
          refine ⟨h2, ?_⟩
          by_cases c1 : 1 ≤ KY
          ·by_cases c2 : KY ≤ 5
           ·omega
           ·rw [decide_eq_false c2]; simp
          ·rw [decide_eq_false c1]; simp
         clear h1 h2 h3 h4 h5
         go_wp2_with ((at_mapUpdate; refine wpList_storeF rfl _ rfl _ _ _ 111 rfl 9 116 key9 Tryz.underlying111 B k _ rfl (HM.out.kept (xgt (xga _ _ none) (xga _ _ none)) (by simp)) (by unfold maxLen; omega) _ _ _ rfl rfl hkey (by simp [WideAt.IsKeyLit]) ?_; intro W1 HM1 HG1))
         exact ⟨⟨k + 1, by omega, by go_num, HN.out _ _ _ HM1.out (by show some (Value.agg #[.int .i64 _, .bool _, .bool _]) = some _; simp [HE.out.1, HE.out.2]), grown_new (xgt (xgt HG.out (xga _ _ none)) (xga _ _ none)) HG1.out (by rw [HB.out]; exact Nat.le_refl _)⟩, by simp [intOf]; omega⟩
   | false =>
    by_cases h2 : KY = 2
    ·subst h2
     go_wp2_with ((at_mapUpdate; refine wpList_storeF rfl _ rfl _ _ _ 111 rfl 9 116 key9 Tryz.underlying111 B k _ rfl (HM.out.kept (xgt (xga _ _ none) (xga _ _ none)) (by simp)) (by unfold maxLen; omega) _ _ _ rfl rfl hkey (by simp [WideAt.IsKeyLit]) ?_; intro W1 HM1 HG1))
     exact ⟨⟨k + 1, by omega, by go_num, HN.out _ _ _ HM1.out (by show some (Value.agg #[.int .i64 _, .bool _, .bool _]) = some _; simp [inI]), grown_new (xgt (xgt HG.out (xga _ _ none)) (xga _ _ none)) HG1.out (by rw [HB.out]; exact Nat.le_refl _)⟩, by simp [intOf]; omega⟩
    ·have b2 : (KY == 2) = false := by rw [beq_eq_false_iff_ne]; exact h2
     by_cases h1 : KY = 1
     ·subst h1
      go_wp2_with ((at_mapUpdate; refine wpList_storeF rfl _ rfl _ _ _ 111 rfl 9 116 key9 Tryz.underlying111 B k _ rfl (HM.out.kept (xgt (xga _ _ none) (xga _ _ none)) (by simp)) (by unfold maxLen; omega) _ _ _ rfl rfl hkey (by simp [WideAt.IsKeyLit]) ?_; intro W1 HM1 HG1))
      exact ⟨⟨k + 1, by omega, by go_num, HN.out _ _ _ HM1.out (by show some (Value.agg #[.int .i64 _, .bool _, .bool _]) = some _; simp [inI]), grown_new (xgt (xgt HG.out (xga _ _ none)) (xga _ _ none)) HG1.out (by rw [HB.out]; exact Nat.le_refl _)⟩, by simp [intOf]; omega⟩
     ·have b1 : (KY == 1) = false := by rw [beq_eq_false_iff_ne]; exact h1
      by_cases h3 : KY = 3
      ·subst h3
       go_wp2_with ((at_mapUpdate; refine wpList_storeF rfl _ rfl _ _ _ 111 rfl 9 116 key9 Tryz.underlying111 B k _ rfl (HM.out.kept (xgt (xga _ _ none) (xga _ _ none)) (by simp)) (by unfold maxLen; omega) _ _ _ rfl rfl hkey (by simp [WideAt.IsKeyLit]) ?_; intro W1 HM1 HG1))
       exact ⟨⟨k + 1, by omega, by go_num, HN.out _ _ _ HM1.out (by show some (Value.agg #[.int .i64 _, .bool _, .bool _]) = some _; simp [inI]), grown_new (xgt (xgt HG.out (xga _ _ none)) (xga _ _ none)) HG1.out (by rw [HB.out]; exact Nat.le_refl _)⟩, by simp [intOf]; omega⟩
      ·have b3 : (KY == 3) = false := by rw [beq_eq_false_iff_ne]; exact h3
       by_cases h4 : KY = 4
       ·subst h4
        go_wp2_with ((at_mapUpdate; refine wpList_storeF rfl _ rfl _ _ _ 111 rfl 9 116 key9 Tryz.underlying111 B k _ rfl (HM.out.kept (xgt (xga _ _ none) (xga _ _ none)) (by simp)) (by unfold maxLen; omega) _ _ _ rfl rfl hkey (by simp [WideAt.IsKeyLit]) ?_; intro W1 HM1 HG1))
        exact ⟨⟨k + 1, by omega, by go_num, HN.out _ _ _ HM1.out (by show some (Value.agg #[.int .i64 _, .bool _, .bool _]) = some _; simp [inI]), grown_new (xgt (xgt HG.out (xga _ _ none)) (xga _ _ none)) HG1.out (by rw [HB.out]; exact Nat.le_refl _)⟩, by simp [intOf]; omega⟩
       ·have b4 : (KY == 4) = false := by rw [beq_eq_false_iff_ne]; exact h4
        by_cases h5 : KY = 5
        ·subst h5
         go_wp2_with ((at_mapUpdate; refine wpList_storeF rfl _ rfl _ _ _ 111 rfl 9 116 key9 Tryz.underlying111 B k _ rfl (HM.out.kept (xgt (xga _ _ none) (xga _ _ none)) (by simp)) (by unfold maxLen; omega) _ _ _ rfl rfl hkey (by simp [WideAt.IsKeyLit]) ?_; intro W1 HM1 HG1))
         exact ⟨⟨k + 1, by omega, by go_num, HN.out _ _ _ HM1.out (by show some (Value.agg #[.int .i64 _, .bool _, .bool _]) = some _; simp [inI]), grown_new (xgt (xgt HG.out (xga _ _ none)) (xga _ _ none)) HG1.out (by rw [HB.out]; exact Nat.le_refl _)⟩, by simp [intOf]; omega⟩
        ·have b5 : (KY == 5) = false := by rw [beq_eq_false_iff_ne]; exact h5
         have HE : Hid (KY ≠ 2 ∧ inI KY 1 5 = false) := by
          show _ ∧ _
          unfold inI
          refine ⟨h2, ?_⟩
          by_cases c1 : 1 ≤ KY
          ·by_cases c2 : KY ≤ 5
           ·omega
           ·rw [decide_eq_false c2]; simp
          ·rw [decide_eq_false c1]; simp
         clear h1 h2 h3 h4 h5
         go_wp2_with ((at_mapUpdate; refine wpList_storeF rfl _ rfl _ _ _ 111 rfl 9 116 key9 Tryz.underlying111 B k _ rfl (HM.out.kept (xgt (xga _ _ none) (xga _ _ none)) (by simp)) (by unfold maxLen; omega) _ _ _ rfl rfl hkey (by simp [WideAt.IsKeyLit]) ?_; intro W1 HM1 HG1))
         exact ⟨⟨k + 1, by omega, by go_num, HN.out _ _ _ HM1.out (by show some (Value.agg #[.int .i64 _, .bool _, .bool _]) = some _; simp [HE.out.1, HE.out.2]), grown_new (xgt (xgt HG.out (xga _ _ none)) (xga _ _ none)) HG1.out (by rw [HB.out]; exact Nat.le_refl _)⟩, by simp [intOf]; omega⟩
  ·have hlti : ¬ (k : Int) < (len : Int) := by omega
   obtain rfl : k = len := by omega
   have e := HI.out.2.2.1
   rw [e] at HM
   clear e
   go_wp2_with fail
   go_ret
   exact ⟨by rw [HB.out]; rfl, by rw [HB.out]; exact HM.out, HG.out⟩
end Go.Proofs.YtlehncfehoelbaaGreatDoor
namespace Go.Proofs.YtlehncfehoelbaaGreatDoor
open Go.RowKit
set_option maxRecDepth 100000
set_option linter.unusedSimpArgs false
set_option linter.unusedVariables false
def iv (i : Int) : Value := .int .i64 i
def nv (i : Nat) : Value := .int .i64 (i : Int)
theorem Kp.owns {W W' : World} {b e s n : Nat} {v : Value} {xs : List Value} (h : W.ownsRow b e s v n xs) (k : Kp W W') (h1 : e ≠ 47) (h2 : e ≠ 43) : W'.ownsRow b e s v n xs := by
 refine ⟨h.1, ?_⟩
 rcases h.2 with h0 | ⟨q, cap, cur, hv, hb, hq, r⟩
 ·exact .inl h0
 ·exact .inr ⟨q, cap, cur, hv, hb, k.keep q _ hq (fun c f e => by injection e with _ e; exact h1 e) (fun c f e => by injection e with _ e; exact h2 e), r⟩
structure Lm (w W : World) (base gt gm gn go_ len : Nat) (en : List En) (v : Value) (ns : List NoV) (nm : List Int) (o : List Nat) : Prop where
 tq : Tq w W base v ns
 res : Bx W gt 33 [.slice none 0 0]
 map : MapF W 9 gm len (plK en)
 nums : W.ownsRow w.heap.size 3 1 (.slice (some ⟨gn, 0, none⟩) len len) len (nm.map iv)
 ord : W.ownsRow w.heap.size 3 1 (.slice (some ⟨go_, 0, none⟩) len len) len (o.map nv)
 ne : gn ≠ go_
theorem Lm.move {w W W' : World} {base gt gm gn go_ len : Nat} {en : List En} {v v' : Value} {ns ns' : List NoV} {nm : List Int} {o : List Nat} (h : Lm w W base gt gm gn go_ len en v ns nm o) (k : Kp W W') (t : Tq w W' base v' ns') : Lm w W' base gt gm gn go_ len en v' ns' nm o :=
 ⟨t, h.res.kp k (by decide) (by decide), h.map.kp k, k.owns h.nums (by decide) (by decide), k.owns h.ord (by decide) (by decide), h.ne⟩
theorem Lm.kept {w W W' : World} {base gt gm gn go_ len : Nat} {en : List En} {v : Value} {ns : List NoV} {nm : List Int} {o : List Nat} (h : Lm w W base gt gm gn go_ len en v ns nm o) (g : W.grownBy W' none) : Lm w W' base gt gm gn go_ len en v ns nm o :=
 h.move (Kp.none g) (h.tq.kept g)
theorem Lm.num {w W : World} {base gt gm gn go_ len : Nat} {en : List En} {v : Value} {ns : List NoV} {nm : List Int} {o : List Nat} (h : Lm w W base gt gm gn go_ len en v ns nm o) (k : Nat) (hb : base = base) (x : Int) :
  Lm w (W.setCell ⟨gn, k, none⟩ (.int .i64 x)) base gt gm gn go_ len en v ns (nm.set k x) o ∧ W.grownBy (W.setCell ⟨gn, k, none⟩ (.int .i64 x)) (some gn) := by
 obtain ⟨s1, s2⟩ := h.nums.stored k (.int .i64 x)
 have hm : some gm ≠ some gn := by
  intro e
  injection e with e
  obtain ⟨D, ⟨es, clock, hb, r⟩, h2⟩ := h.map
  rcases h.nums.2 with ⟨h0, _⟩ | ⟨q, cap, cur, hv, _, hq, _⟩
  ·cases h0
  ·injection hv with e1
   injection e1 with e1
   injection e1 with e1
   rw [← e1, ← e, hb] at hq
   cases hq
 refine ⟨⟨h.tq.other h.nums (Nat.le_refl _) (by decide) (by decide) (by decide) (by decide) s2, h.res.but s2 (bx_ne h.res h.nums (by decide)), h.map.kept s2 hm, ?_, h.ord.kept s2 (.inr fun e => h.ne ?_), h.ne⟩, s2⟩
 ·have e : (nm.set k x).map iv = (nm.map iv).set k (.int .i64 x) := by rw [List.map_set]; rfl
  rw [e]; exact s1
 ·have e2 : some go_ = some gn := e
  injection e2 with e2
  exact e2.symm
theorem Lm.numC {w W : World} {base gt gm gn go_ len : Nat} {en : List En} {v : Value} {ns : List NoV} {nm : List Int} {o : List Nat} (h : Lm w W base gt gm gn go_ len en v ns nm o) (hl : nm.length = len) {k : Nat} (hk : k < len) : W.cell? ⟨gn, k, none⟩ = some (.int .i64 (nm.getD k (-1))) := by
 have hl2 : k < nm.length := by omega
 rw [h.nums.cellAt k (by omega), List.getElem?_map, List.getD_eq_getElem?_getD, List.getElem?_eq_getElem hl2]
 rfl
theorem Lm.numF {w W : World} {base gt gm gn go_ len : Nat} {en : List En} {v : Value} {ns : List NoV} {nm : List Int} {o : List Nat} (h : Lm w W base gt gm gn go_ len en v ns nm o) (k : Nat) : W.frozen? ⟨gn, k, none⟩ = false := h.nums.frozenAt k
theorem Lm.ordC {w W : World} {base gt gm gn go_ len : Nat} {en : List En} {v : Value} {ns : List NoV} {nm : List Int} {o : List Nat} (h : Lm w W base gt gm gn go_ len en v ns nm o) {k i : Nat} (hk : o[k]? = some i) (hl : k < len) : W.cell? ⟨go_, k, none⟩ = some (.int .i64 (i : Int)) := by
 rw [h.ord.cellAt k (by omega), List.getElem?_map, hk]
 rfl
theorem wpList_storeN {P : Program} {ops : Array Oper} {rest : List Oper} {oo : Oper} {a : Act} {w W : World} {Q : Exit → Act → World → Prop} (hgd : oo.guard = none) (x y : Operand) (ho : oo.op = .store 3 x y) {base gt gm gn go_ len : Nat} {en : List En} {v : Value} {ns : List NoV} {nm : List Int} {o : List Nat}
  (h : Lm w W base gt gm gn go_ len en v ns nm o) (hl : nm.length = len) (k : Nat) (hk : k < len) (m : Int) (hx : a.eval x = .pointer (some ⟨gn, k, none⟩)) (hy : a.eval y = .int .i64 m) (hs : ∀ w, (Go.sizeOf 3).run P w = .ok 1 w)
  (hK : ∀ W', Hid (Lm w W' base gt gm gn go_ len en v ns (nm.set k m) o) → Hid (W.grownBy W' (some gn)) → wpList P ops Q rest (a.put oo.dst undef) W') : wpList P ops Q (oo :: rest) a W := by
 obtain ⟨h1, h2⟩ := h.num k rfl m
 exact wpList_storeC hgd 3 x y ho gn k (.int .i64 m) hx hy (h.numC hl hk) (h.numF k) rfl hs (hK _ h1 h2)
theorem Lm.add {w W W' : World} {base gt gm gn go_ len : Nat} {en : List En} {v v' : Value} {ns : List NoV} {nm : List Int} {o : List Nat} {N : NoV} (h : Lm w W base gt gm gn go_ len en v ns nm o) (hN : Pk W base N) (hk : N.ka = none)
  (hown : W'.ownsRow base 43 13 v' (ns.length + 1) (ns.flatMap nvc ++ nvc N)) (g : W.grownBy W' v.ownBlock) : Lm w W' base gt gm gn go_ len en v' (ns ++ [N]) nm o ∧ Kp W W' :=
 have k := Kp.row h.tq.own (.inr rfl) g
 ⟨h.move k (h.tq.add hN hk hown g), k⟩
theorem Lm.lookF {w W : World} {base gt gm gn go_ len : Nat} {en : List En} {v : Value} {ns : List NoV} {nm : List Int} {o : List Nat} (h : Lm w W base gt gm gn go_ len en v ns nm o) (s : ByteArray) (hs : s.size ≤ 9223372036854775807) {F : Int} (hF : plF en s.toList = F) :
  (Instr.lookup 111 (.map (some gm)) (.string s) false).run Tryz.prog W = .ok (.agg #[.int .i64 F, .bool (folder en s.toList), .bool (thing en s.toList)]) W := by
 rw [← hF]; exact look57 h.map hs
end Go.Proofs.YtlehncfehoelbaaGreatDoor
namespace Go.Proofs.YtlehncfehoelbaaGreatDoor
open Go.RowKit Go.Shelf
set_option maxRecDepth 100000
set_option linter.unusedSimpArgs false
set_option linter.unusedVariables false
def renM : Ren := ⟨fun k => if k = 212 then 95 else if k = 263 then 115 else if k = 264 then 116 else k, fun k => if k = 46 then 147 else if k = 51 then 176 else if k = 53 then 179 else if k = 146 then 177 else if k = 148 then 180 else k, fun k => k⟩
set_option maxHeartbeats 4000000 in
set_option maxRecDepth 100000 in
theorem laysM : Lays.n212 Tryz.prog renM := by
 constructor <;> first | kernel_rfl | (intro w; kernel_rfl)
theorem bmul_any (x y : Nat) (hx : x < 18446744073709551616) (hy : y < 18446744073709551616) (w : World) :
  Calls Tryz.prog 95 #[.int .u64 x, .int .u64 y] w fun e w' => e = .returned (.tuple #[.int .u64 ((x * y / 18446744073709551616 : Nat) : Int), .int .u64 ((x * y % 18446744073709551616 : Nat) : Int)]) ∧ w' = w := Any.bits_Mul laysM x y hx hy w
end Go.Proofs.YtlehncfehoelbaaGreatDoor
namespace Go.Proofs.YtlehncfehoelbaaGreatDoor
open Go.RowKit
set_option maxRecDepth 100000
set_option linter.unusedSimpArgs false
set_option linter.unusedVariables false
theorem bmul1 (n : Nat) (hn : n ≤ 100000) (w : World) : Calls Tryz.prog 95 #[.int .u64 1, .int .u64 n] w fun e w' => e = .returned (.tuple #[.int .u64 0, .int .u64 (n : Int)]) ∧ w = w' := by
 have h := bmul_any 1 n (by decide) (by omega) w
 rw [Nat.one_mul, Nat.div_eq_of_lt (by omega), Nat.mod_eq_of_lt (by omega)] at h
 exact h.mono fun e w' ⟨h1, h2⟩ => ⟨h1, h2.symm⟩
theorem Tryz.sizeI : (Tryz.prog.info? 3).map (·.size) = some 1 := by kernel_rfl
theorem Tryz.infoI : (Tryz.prog.info? 3).map (fun i => (i.zero, i.size, i.bytes)) = some (some (.int .i64 0), 1, 8) := by kernel_rfl
theorem step_copyI {P : Program} {ops : Array Oper} {o : Oper} {a : Act} {w : World} {K : Act → World → Prop} {Q : Exit → Act → World → Prop} {E : Prop} (hgd : o.guard = none) (d s : Operand) (dT sT : TypeId)
  (ho : o.op = .call { callee := .builtin .copy, args := #[d, s], argTypes := #[dT, sT] }) (elem : TypeId) (hu : P.underlying dT = some (.slice elem)) (hsz : (P.info? elem).map (·.size) = some 1)
  (dLen dCap sLen sCap : Nat) (g off : Nat) (ad : Addr) (hd : a.eval d = .slice (some ⟨g, off, none⟩) dLen dCap) (hs : a.eval s = .slice (some ad) sLen sCap)
  (cur : List Value) (t : TypeId) (hg : Bx w g t cur) (cs : List Value) (hn : cs.length = Nat.min sLen dLen)
  (hsrc : ∀ j v, cs[j]? = some v → w.cell? (ad.add j) = some v) (hfit : off + cs.length ≤ cur.length) (h1 : ∀ v ∈ cs, v.oneCell' = true)
  (h : ∀ w', Bx w' g t (splice cur off cs) → w.grownBy w' (some g) → K (a.put o.dst (.int .i64 (cs.length : Int))) w') :
  if Region.wanted o (yielded ops a.tmps) = true then Oper.wp P o a w K Q else E := by
 rw [if_pos (by simp [Region.wanted, hgd])]
 have hrun := run_copy_row (P := P) w dT sT o.type elem g off dLen dCap ad sLen sCap cur.toArray t cs hu hsz hg.blk hn hsrc (by simpa using hfit) h1
 unfold Oper.wp
 simp [execOp, ho, resolve, invoke, builtin, hd, hs, hrun, Result.andThen]
 exact h _ ⟨by simpa [splice] using setRow_heap w g _ _ t _ hg.blk⟩ ⟨rfl, rfl, rfl, by simp, fun k _ hk => setRow_other w g k _ (fun e => hk (by rw [e]))⟩
theorem wpList_copyI {P : Program} {ops : Array Oper} {rest : List Oper} {o : Oper} {a : Act} {w : World} {Q : Exit → Act → World → Prop} (hgd : o.guard = none) (d s : Operand) (dT sT : TypeId)
  (ho : o.op = .call { callee := .builtin .copy, args := #[d, s], argTypes := #[dT, sT] }) (elem : TypeId) (hu : P.underlying dT = some (.slice elem)) (hsz : (P.info? elem).map (·.size) = some 1)
  (dLen dCap sLen sCap : Nat) (g off : Nat) (ad : Addr) (hd : a.eval d = .slice (some ⟨g, off, none⟩) dLen dCap) (hs : a.eval s = .slice (some ad) sLen sCap)
  (cur : List Value) (t : TypeId) (hg : Bx w g t cur) (cs : List Value) (hn : cs.length = Nat.min sLen dLen)
  (hsrc : ∀ j v, cs[j]? = some v → w.cell? (ad.add j) = some v) (hfit : off + cs.length ≤ cur.length) (h1 : ∀ v ∈ cs, v.oneCell' = true)
  (h : ∀ w', Hid (Bx w' g t (splice cur off cs)) → Hid (w.grownBy w' (some g)) → wpList P ops Q rest (a.put o.dst (.int .i64 (cs.length : Int))) w') : wpList P ops Q (o :: rest) a w := by
 refine wpList_plain hgd fun K hK => ?_
 have := step_copyI (P := P) (ops := ops) (o := o) (a := a) (w := w) (K := K) (Q := Q) (E := False) hgd d s dT sT ho elem hu hsz dLen dCap sLen sCap g off ad hd hs cur t hg cs hn hsrc hfit h1 (fun w' hb hg => hK _ _ (h w' hb hg))
 rwa [if_pos (by simp [Region.wanted, hgd])] at this
def rpt (k n : Nat) : List Value := List.replicate k (.int .i64 (-1)) ++ List.replicate (n - k) (.int .i64 0)
theorem rpt_len {k n : Nat} (h : k ≤ n) : (rpt k n).length = n := by unfold rpt; simp; omega
theorem rpt_splice {k m n : Nat} (h : k + m ≤ n) : splice (rpt k n) k (List.replicate m (.int .i64 (-1))) = rpt (k + m) n := by
 unfold splice rpt
 rw [List.take_left' (by simp), List.length_replicate, List.drop_append, List.drop_eq_nil_of_le (by simp), List.nil_append, List.length_replicate, Nat.add_sub_cancel_left, List.drop_replicate, ← List.append_assoc, List.replicate_append_replicate, Nat.sub_sub]
theorem rpt_get {k n i : Nat} (h : i < k) : (rpt k n)[i]? = some (.int .i64 (-1)) := by
 unfold rpt
 rw [List.getElem?_append_left (by simpa using h), List.getElem?_replicate, if_pos h]
theorem made_int (n : Nat) : (madeCells (Value.int .i64 0).cells (n * 1)).toList = rpt 0 n := by
 unfold madeCells rpt
 simp [Value.cells]
 apply List.ext_getElem?
 intro i
 rw [List.getElem?_map, List.getElem?_replicate]
 by_cases h : i < n
 ·rw [List.getElem?_range h, if_pos h]
  simp [Nat.mod_one]
 ·rw [if_neg h, List.getElem?_eq_none (by simpa using h)]
  rfl
theorem own_bx {W : World} {base e n : Nat} {g : Nat} {xs : List Value} (h : W.ownsRow base e 1 (.slice (some ⟨g, 0, none⟩) n n) n xs) : Bx W g e xs := by
 rcases h.2 with ⟨h0, _⟩ | ⟨g', cap', cur, hv, hg, hb, hn, hcap, hsz, ht⟩
 ·cases h0
 ·injection hv with h1 h2 h3
  injection h1 with h1
  injection h1 with h1
  subst h1 h3
  rw [List.take_of_length_le (by rw [Array.length_toList, hsz]; exact Nat.le_refl _)] at ht
  exact ⟨by rw [hb, ← ht]⟩
theorem bx_own {W : World} {base e n g : Nat} {xs : List Value} (h : Bx W g e xs) (hb : base ≤ g) (hl : xs.length = n) (hm : n ≤ maxLen) : W.ownsRow base e 1 (.slice (some ⟨g, 0, none⟩) n n) n xs :=
 ⟨by rw [Nat.mul_one]; exact hl, .inr ⟨g, n, xs.toArray, rfl, hb, h.blk, Nat.le_refl _, hm, by simp [hl], by simp [← hl]⟩⟩
theorem copyI_here {P : Program} {w : World} {ops : Array Oper} {rest : List Oper} {a : Act} {Q : Exit → Act → World → Prop} {dst : Option Nat} {as_ : Array Operand} {ts : Array TypeId} {type : TypeId} {pos : String} {after : Array Edge} {guard : Option (Nat × Bool)}
  (h : wpList P ops Q (⟨dst, .call ⟨.builtin .copy, as_, ts⟩, type, pos, after, guard⟩ :: rest) a w) : wpList P ops Q (⟨dst, .call ⟨.builtin .copy, as_, ts⟩, type, pos, after, guard⟩ :: rest) a w := h
theorem one_rep (m : Nat) : ∀ v ∈ List.replicate m (Value.int .i64 (-1)), v.oneCell' = true := fun v hv => by rw [List.eq_of_mem_replicate hv]; rfl
set_option maxHeartbeats 4000000 in
theorem prepeat_any (b n : Nat) (w : World) (hc : w.cell? ⟨b, 0, none⟩ = some (.int .i64 (-1))) (h1 : 1 ≤ n) (hn : n ≤ 100000) :
  Calls Tryz.prog 64 #[.slice (some ⟨b, 0, none⟩) 1 1, .int .i64 n] w fun e w' => ∃ g, e = .returned (.slice (some ⟨g, 0, none⟩) n n) ∧ w'.ownsRow w.heap.size 3 1 (.slice (some ⟨g, 0, none⟩) n n) n (List.replicate n (.int .i64 (-1))) ∧ w.grownBy w' none := by
 obtain ⟨ia, hi, hz0, hz1, hz2⟩ := info_parts Tryz.infoI
 have hm := fun W => bmul1 n hn W
 have hb := cell_lt11 hc
 go_enter Tryz.func64, Tryz.ntmps64
 go_wp2_with (first | (go_at_call 95; refine (hm _).mono ?_; rintro e w' ⟨rfl, rfl⟩) | (at_make; refine wpList_make_full _ rfl _ _ 83 rfl w.heap.size 3 ia _ 1 Tryz.underlying83 hi hz0 hz1 .i64 .i64 _ _ n rfl rfl rfl rfl (by rw [hz2]; omega) (by unfold maxLen; omega) (Nat.le_refl _) ?_; intro W1 ho1 g1; have hc1 := cell_grown hc g1; have HB1 : Hid (Bx W1 w.heap.size 3 (rpt 0 n)) := own_bx (by rw [← made_int]; exact ho1); have HG1 : Hid _ := g1; clear ho1 g1) | ((with_reducible refine copyI_here ?_); refine wpList_copyI rfl _ _ 83 83 rfl 3 Tryz.underlying83 Tryz.sizeI n n 1 1 w.heap.size 0 ⟨b, 0, none⟩ rfl rfl (rpt 0 n) 3 HB1.out (List.replicate 1 (.int .i64 (-1))) (by show 1 = Nat.min 1 n; exact (Nat.min_eq_left h1).symm) (fun j v hv => by cases j with | zero => (injection hv with hv; rw [← hv]; exact hc1) | succ j => cases hv) (by rw [rpt_len (Nat.zero_le n)]; simp; omega) (one_rep 1) ?_; intro W2 hb2 g2; have HB2 : Hid (Bx W2 w.heap.size 3 (rpt 1 n)) := (by have h3 := hb2.out; have h4 := rpt_splice (k := 0) (m := 1) (n := n) (by omega); rw [h4] at h3; exact h3); have HG2 : Hid (w.grownBy W2 none) := grown_new HG1.out g2.out (Nat.le_refl _); clear hb2 g2 HB1 HG1 hc1))
 clear hm hc
 generalize hg : w.heap.size = g at *
 have HGS : Hid _ := hg
 clear hg
 go_loopw [8] (fun v wr => ∃ k : Nat, 1 ≤ k ∧ k ≤ n ∧ v = .int .i64 k ∧ Hid (Bx wr g 3 (rpt k n)) ∧ Hid (w.grownBy wr none)) (fun v _ => n - (intOf v).toNat)
 case atStart => exact ⟨1, Nat.le_refl _, h1, rfl, HB2.out, HG2.out⟩
 case round =>
  clear HB2 HG2
  obtain ⟨k, hk1, hk, rfl, HB, HG⟩ := hrel
  by_cases hlt : k < n
  ·have hlti : (k : Int) < (n : Int) := by omega
   go_wp2_with fail
   refine wp_region_held_drew (S := fun w' => w.grownBy w' none) (by kernel_rfl) (xgt HG.out (drewG0 wr)) (fun hH => ?_)
   have hB := HB.out.kept (drewG0 wr)
   clear HB HG
   generalize wr.drew = WD at *
   refine tk (i := 0) (oi := ⟨some 38, _, _, _, _, _⟩) (v := .int .i64 k) rfl (Or.inl ⟨by rfl, fun w hSw => by go_simp⟩) hH ?_
   simp only [Act.put, pu]
   refine tk (i := 1) (oi := ⟨some 39, _, _, _, _, _⟩) (v := .slice (some ⟨g, 0, none⟩) n n) rfl (Or.inl ⟨by rfl, fun w hSw => by go_simp⟩) hH ?_
   simp only [Act.put, pu]
   refine tk (i := 2) (oi := ⟨some 40, _, _, _, _, _⟩) (v := .int .i64 k) rfl (Or.inl ⟨by rfl, fun w hSw => by go_simp⟩) hH ?_
   simp only [Act.put, pu]
   refine tk (i := 3) (oi := ⟨some 41, _, _, _, _, _⟩) (v := .slice (some ⟨g, k, none⟩) (n - k) (n - k)) rfl (Or.inl ⟨by rfl, fun w hSw => by go_simp; omega⟩) hH ?_
   simp only [Act.put, pu]
   refine tk (i := 4) (oi := ⟨some 42, _, _, _, _, _⟩) (v := .slice (some ⟨g, 0, none⟩) n n) rfl (Or.inl ⟨by rfl, fun w hSw => by go_simp⟩) hH ?_
   simp only [Act.put, pu]
   refine tk (i := 5) (oi := ⟨some 43, _, _, _, _, _⟩) (v := .int .i64 k) rfl (Or.inl ⟨by rfl, fun w hSw => by go_simp⟩) hH ?_
   simp only [Act.put, pu]
   refine tk (i := 6) (oi := ⟨some 44, _, _, _, _, _⟩) (v := .slice (some ⟨g, 0, none⟩) k n) rfl (Or.inl ⟨by rfl, fun w hSw => by go_simp⟩) hH ?_
   simp only [Act.put, pu]
   obtain ⟨m, hm⟩ : ∃ m, m = Nat.min k (n - k) := ⟨_, rfl⟩
   have hm1 : m ≤ k := by rw [hm]; exact Nat.min_le_left _ _
   have hm2 : m ≤ n - k := by rw [hm]; exact Nat.min_le_right _ _
   have hm3 : 1 ≤ m := by rw [hm]; exact Nat.le_min.2 ⟨hk1, by omega⟩
   have HM : Hid _ := hm
   clear hm
   have hwr : IntKind.i64.wrap ((k : Int) + (m : Int)) = (k : Int) + (m : Int) := by simp [IntKind.wrap, IntKind.bits, IntKind.signed]; omega
   refine wpAnyH_ready (rs := [7]) (by kernel_rfl) (by simp) ?_
   refine AllReadyH.cons rfl (fun K1 hK => ?_) AllReadyH.nil
   refine step_copyI rfl _ _ 83 83 rfl 3 Tryz.underlying83 Tryz.sizeI (n - k) (n - k) k n g k ⟨g, 0, none⟩ rfl rfl (rpt k n) 3 hB (List.replicate m (.int .i64 (-1))) (by rw [List.length_replicate]; exact HM.out) (fun j v hv => ?_) (by rw [rpt_len hk, List.length_replicate]; omega) (one_rep _) (fun W3 hb3 g3 => ?_)
   ·have hj : j < m := by have := (List.getElem?_eq_some_iff.1 hv).1; simpa using this
    rw [List.getElem?_replicate, if_pos hj] at hv
    injection hv with hv
    have e : (⟨g, 0, none⟩ : Addr).add j = ⟨g, j, none⟩ := by (simp [Addr.add]; intro h; exact h.symm)
    rw [e, hB.c j, rpt_get (by omega), hv]
   rw [rpt_splice (by omega)] at hb3
   rw [List.length_replicate]
   replace hH := grown_new hH g3 (by rw [HGS.out]; exact Nat.le_refl _)
   have HB3 : Hid _ := hb3
   clear g3 hb3 hB
   refine hK.out _ _ hH (fun _ => ?_)
   clear hK K1
   simp only [Act.put, List.getElem_toArray, List.getElem_cons_succ, List.getElem_cons_zero, List.setIfInBounds_toArray, List.set_cons_zero, List.set_cons_succ]
   refine tk (i := 8) (oi := ⟨some 46, _, _, _, _, _⟩) (v := .int .i64 ((k + m : Nat) : Int)) rfl (Or.inl ⟨by rfl, fun w hSw => by go_simp⟩) hH ?_
   simp only [Act.put, pu]
   refine tk (i := 9) (oi := ⟨some 8, _, _, _, _, _⟩) (v := .int .i64 ((k + m : Nat) : Int)) rfl (Or.inl ⟨by rfl, fun w hSw => by go_simp⟩) hH ?_
   simp only [Act.put, pu]
   refine wpAnyH_done (by kernel_rfl) ?_ _
   clear hwr
   go_wp2_with fail
   exact ⟨⟨k + m, by omega, by omega, rfl, HB3, hH⟩, by simp [intOf]; omega⟩
  ·have hlti : ¬ (k : Int) < (n : Int) := by omega
   obtain rfl : k = n := by omega
   have HO : Hid (wr.ownsRow g 3 1 (.slice (some ⟨g, 0, none⟩) k k) k (List.replicate k (.int .i64 (-1)))) := bx_own (by have := HB.out; unfold rpt at this; rw [Nat.sub_self, List.replicate_zero, List.append_nil] at this; exact this) (Nat.le_refl _) (by simp) (by unfold maxLen; omega)
   clear HB
   go_wp2_with fail
   go_ret
   exact ⟨g, rfl, by rw [HGS.out]; exact HO.out, HG.out⟩
end Go.Proofs.YtlehncfehoelbaaGreatDoor
