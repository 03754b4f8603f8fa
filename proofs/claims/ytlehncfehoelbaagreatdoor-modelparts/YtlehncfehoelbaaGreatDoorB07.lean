/- The entries that say a tree: the root's first, each node at its first name, further names at the others. The tree with owners as places: what the document's Canon builds. The document's owner: the place of the entry whose node an entry names. The document's Order. -/
import Derived.Deep.OwnRows
import Derived.Laws.MakeOwn
import Derived.Laws.AppendOwn
import Derived.Test.YtlehncfehoelbaaGreatDoorB05
import Derived.Test.YtlehncfehoelbaaGreatDoorB06
namespace Go.Proofs.YtlehncfehoelbaaGreatDoor
set_option linter.unusedVariables false
set_option linter.unusedSimpArgs false
/-- a further name -/
def hrd (p q : Tx) : En := ⟨p, 6, 0, 0, 0, 0, 0, [], q, 0, []⟩
/-- the first name of an owner -/
def fstN (ts : List (Tp Tx)) (o : Tx) : Tx := ((ts.find? fun t => decide (t.o = o)).map Tp.p).getD []
def mkE (ts : List (Tp Tx)) (t : Tp Tx) : En := if fstN ts t.o = t.p then enOf t.p t.nd else hrd t.p (fstN ts t.o)
/-- the entries -/
def mkL (root : No) (ts : List (Tp Tx)) : List En := enOf [] root :: ts.map (mkE ts)
theorem mkE_path (ts : List (Tp Tx)) (t : Tp Tx) : (mkE ts t).path = t.p := by unfold mkE; split <;> rfl
theorem fst_some {ts : List (Tp Tx)} {t : Tp Tx} (h : t ∈ ts) : ∃ u ∈ ts, u.o = t.o ∧ fstN ts t.o = u.p := by
 unfold fstN
 cases hf : ts.find? (fun u => decide (u.o = t.o)) with
 | none => exact absurd (List.find?_eq_none.1 hf t h) (by simp)
 | some u =>
  have h0 := List.find?_some hf
  exact ⟨u, List.mem_of_find?_eq_some hf, by simpa using h0, rfl⟩
/-- the names of a list that is right -/
def trs (l : List En) : List (Tp Tx) := (psL (pths l)).map (tpOf l)
def lstL (l : List En) : List En := mkL (ndOf (look l [])) (trs l)
theorem canon_trs (l : List En) : canon l = bld (ndOf (look l [])) (trs l) := rfl
/-- what is known of a name -/
structure Nm (l : List En) (t : Tp Tx) : Prop where
 x : ∃ x ∈ l, x.path = t.p ∧ t.o = opath x
 ne : t.p ≠ []
 y : ∃ y ∈ l, y.path = t.o ∧ y.k ≠ 6 ∧ t.nd = ndOf y ∧ t.dir = decide (y.k = 2)
 self : ∀ y ∈ l, y.path = t.o → y.k = 2 → t.p = t.o
theorem nm_of {l : List En} (ok : OkS l) {t : Tp Tx} (h : t ∈ trs l) : Nm l t := by
 obtain ⟨p, hp, rfl⟩ := List.mem_map.1 h
 obtain ⟨hm, hne⟩ := (psL_mem ok.rt p).1 hp
 obtain ⟨x, hx, rfl⟩ := List.mem_map.1 hm
 have ex := look_mem ok.once hx
 have eo : (tpOf l x.path).o = opath x := by unfold tpOf; rw [ex]
 have ey : ∃ y ∈ l, y.path = opath x ∧ y.k ≠ 6 ∧ (x.k = 6 → y.k ≠ 2) ∧ (x.k ≠ 6 → y = x) := by
  unfold opath
  by_cases h6 : x.k = 6
  ·rw [if_pos h6]
   obtain ⟨y, hy, q1, q2, q3⟩ := thing_mem ((ok.each x hx).hard h6)
   exact ⟨y, hy, q1, q3, fun _ => q2, fun e => absurd h6 e⟩
  ·rw [if_neg h6]
   exact ⟨x, hx, rfl, h6, fun e => absurd e h6, fun _ => rfl⟩
 obtain ⟨y, hy, q1, q2, q3, q4⟩ := ey
 have el : look l (opath x) = y := by rw [← q1]; exact look_mem ok.once hy
 refine ⟨⟨x, hx, rfl, eo⟩, hne, ⟨y, hy, by rw [eo]; exact q1, q2, ?_, ?_⟩, ?_⟩
 ·show ndOf (look l (opath (look l x.path))) = ndOf y
  rw [ex, el]
 ·show decide ((look l (opath (look l x.path))).k = 2) = decide (y.k = 2)
  rw [ex, el]
 ·intro z hz ez kz
  have e1 : z = y := by rw [← look_mem ok.once hz, ez, eo, el]
  subst e1
  by_cases h6 : x.k = 6
  ·exact absurd kz (q3 h6)
  ·have := q4 h6
   subst this
   rw [eo]
   unfold opath
   rw [if_neg h6]
   rfl
theorem trs_paths (l : List En) : (trs l).map Tp.p = psL (pths l) := by
 unfold trs
 rw [List.map_map]
 have : (Tp.p ∘ tpOf l) = id := by funext p; rfl
 rw [this, List.map_id]
theorem trs_inj {l : List En} {t u : Tp Tx} (ht : t ∈ trs l) (hu : u ∈ trs l) (e : t.p = u.p) : t = u := by
 obtain ⟨p, _, rfl⟩ := List.mem_map.1 ht
 obtain ⟨q, _, rfl⟩ := List.mem_map.1 hu
 have : p = q := e
 rw [this]
/-- two names with one owner have one node -/
theorem nm_same {l : List En} (ok : OkS l) {t u : Tp Tx} (ht : Nm l t) (hu : Nm l u) (e : t.o = u.o) : t.nd = u.nd ∧ t.dir = u.dir := by
 obtain ⟨y, hy, a1, a2, a3, a4⟩ := ht.y
 obtain ⟨z, hz, b1, b2, b3, b4⟩ := hu.y
 have : y = z := by rw [← look_mem ok.once hy, ← look_mem ok.once hz, a1, b1, e]
 subst this
 exact ⟨by rw [a3, b3], by rw [a4, b4]⟩
/-- a folder's one name is its first -/
theorem nm_dir {l : List En} (ok : OkS l) {t : Tp Tx} (h : t ∈ trs l) (hd : t.dir = true) : fstN (trs l) t.o = t.p := by
 obtain ⟨u, hu, e1, e2⟩ := fst_some h
 have nt := nm_of ok h
 have nu := nm_of ok hu
 obtain ⟨y, hy, a1, a2, a3, a4⟩ := nt.y
 have ky : y.k = 2 := by rw [a4] at hd; exact of_decide_eq_true hd
 have h1 := nt.self y hy a1 ky
 have h2 := nu.self y hy (by rw [e1]; exact a1) ky
 rw [e2, h2, e1, h1]
theorem pths_lstL {l : List En} : pths (lstL l) = [] :: psL (pths l) := by
 unfold lstL mkL pths
 rw [List.map_cons, List.map_map]
 have : (En.path ∘ mkE (trs l)) = Tp.p := by funext t; exact mkE_path _ t
 rw [this, trs_paths]
 rfl
theorem pairwise_nodup {l : List Tx} (h : l.Pairwise plt) : l.Nodup := h.imp fun {a b} hab e => by subst e; exact plt_irrefl a hab
theorem root_ok {l : List En} (ok : OkS l) : (look l []).k = 2 ∧ fld (look l []) = 0 := by
 by_cases hin : ([] : Tx) ∈ pths l
 ·obtain ⟨x, hx, e⟩ := List.mem_map.1 hin
  have e2 := look_mem ok.once hx
  rw [e] at e2
  rw [e2]
  have hk : x.k = 2 := by
   have := (ok.each x hx).path
   unfold pth at this
   rw [if_pos e] at this
   split at this
   ·assumption
   ·cases this
  exact ⟨hk, (ok.each x hx).fld (by rw [hk]; decide)⟩
 ·rw [look_none hin]
  exact ⟨rfl, by decide⟩
/-- the entry of a name stands in the list -/
theorem lstL_mem {l : List En} {x : En} : x ∈ lstL l ↔ x = enOf [] (ndOf (look l [])) ∨ ∃ t ∈ trs l, mkE (trs l) t = x := by
 unfold lstL mkL
 rw [List.mem_cons, List.mem_map]
/-- nothing wrong with these entries -/
theorem lstL_ok {l : List En} (ok : OkS l) : OkS (lstL l) := by
 have hroot := root_ok ok
 have hfol : ∀ p, p ≠ [] → folder l p = true → folder (lstL l) p = true := by
  intro p hn hp
  unfold folder at hp ⊢
  obtain ⟨z, hz, e⟩ := List.any_eq_true.1 hp
  rw [Bool.and_eq_true, decide_eq_true_iff, decide_eq_true_iff] at e
  have hin : p ∈ psL (pths l) := (psL_mem ok.rt p).2 ⟨List.mem_map.2 ⟨z, hz, e.1⟩, hn⟩
  have ht : tpOf l p ∈ trs l := List.mem_map.2 ⟨p, hin, rfl⟩
  have el : look l p = z := by rw [← e.1]; exact look_mem ok.once hz
  have eo : opath z = p := by unfold opath; rw [if_neg (by rw [e.2]; decide)]; exact e.1
  have hd : (tpOf l p).dir = true := by show decide ((look l (opath (look l p))).k = 2) = true; rw [el, eo, el]; exact decide_eq_true e.2
  refine List.any_eq_true.2 ⟨mkE (trs l) (tpOf l p), lstL_mem.2 (Or.inr ⟨_, ht, rfl⟩), ?_⟩
  rw [Bool.and_eq_true, decide_eq_true_iff, decide_eq_true_iff, mkE_path]
  refine ⟨rfl, ?_⟩
  unfold mkE
  rw [if_pos (nm_dir ok ht hd)]
  show (ndOf (look l (opath (look l p)))).k = 2
  rw [el, eo, el]
  exact e.2
 refine ⟨?_, fun x hx => ?_⟩
 ·rw [pths_lstL]
  refine List.nodup_cons.2 ⟨fun h => ((psL_mem ok.rt []).1 h).2 rfl, pairwise_nodup (psL_sorted ok.rt)⟩
 ·rcases lstL_mem.1 hx with rfl | ⟨t, ht, rfl⟩
  ·have hk : (enOf [] (ndOf (look l []))).k = 2 := hroot.1
   refine ⟨by rw [hk]; rfl, ?_, Or.inl rfl, fun e => (by rw [hk] at e; cases e), fun _ => fld_en hroot.2 (by rw [hroot.1]; decide) []⟩
   unfold pth
   rw [if_pos (show (enOf [] (ndOf (look l []))).path = [] from rfl), if_pos hk]
  ·have nt := nm_of ok ht
   obtain ⟨x, hx2, hxp, hxo⟩ := nt.x
   obtain ⟨y, hy, a1, a2, a3, a4⟩ := nt.y
   have okx := ok.each x hx2
   have oky := ok.each y hy
   have hxn : x.path ≠ [] := by rw [hxp]; exact nt.ne
   have hky := oky.kind
   unfold inI at hky
   rw [Bool.and_eq_true, decide_eq_true_iff, decide_eq_true_iff] at hky
   have hup : upT (mkE (trs l) t).path = [] ∨ folder (lstL l) (upT (mkE (trs l) t).path) = true := by
    rw [mkE_path, ← hxp]
    by_cases hu : upT x.path = []
    ·exact Or.inl hu
    ·rcases okx.up with h | h
     ·exact absurd h hu
     ·exact Or.inr (hfol _ hu h)
   have hpt : pth (mkE (trs l) t) = 0 := by
    rw [← pth_full (x := x) hxn (by rw [mkE_path]; exact hxp)]
    exact okx.path
   by_cases hf : fstN (trs l) t.o = t.p
   ·have em : mkE (trs l) t = enOf t.p t.nd := by unfold mkE; rw [if_pos hf]
    rw [em] at hup hpt ⊢
    have hk : (enOf t.p t.nd).k = y.k := by show t.nd.k = y.k; rw [a3]; rfl
    refine ⟨?_, hpt, hup, fun e => ?_, fun _ => ?_⟩
    ·rw [hk]; unfold inI; rw [Bool.and_eq_true, decide_eq_true_iff, decide_eq_true_iff]; exact hky
    ·rw [hk] at e; exact absurd e a2
    ·rw [a3]; exact fld_en (oky.fld a2) (by omega) t.p
   ·have em : mkE (trs l) t = hrd t.p (fstN (trs l) t.o) := by unfold mkE; rw [if_neg hf]
    rw [em] at hup hpt ⊢
    refine ⟨by rfl, hpt, hup, fun _ => ?_, fun e => absurd rfl e⟩
    show thing (lstL l) (fstN (trs l) t.o) = true
    obtain ⟨u, hu, e1, e2⟩ := fst_some ht
    have nu := nm_of ok hu
    have hs := nm_same ok nu nt e1
    have hfu : fstN (trs l) u.o = u.p := by rw [e1, e2]
    have hy2 : y.k ≠ 2 := by
     intro h2
     exact hf (nm_dir ok ht (by rw [a4]; exact decide_eq_true h2))
    unfold thing
    refine List.any_eq_true.2 ⟨mkE (trs l) u, lstL_mem.2 (Or.inr ⟨u, hu, rfl⟩), ?_⟩
    have em2 : mkE (trs l) u = enOf u.p u.nd := by unfold mkE; rw [if_pos hfu]
    have hk : (enOf u.p u.nd).k = y.k := by show u.nd.k = y.k; rw [hs.1, a3]; rfl
    rw [em2, hk]
    unfold inI
    rw [Bool.and_eq_true, Bool.and_eq_true, Bool.and_eq_true, decide_eq_true_iff, decide_eq_true_iff, decide_eq_true_iff, decide_eq_true_iff]
    exact ⟨⟨e2.symm, hky.1, by omega⟩, hy2⟩
theorem psL_lstL {l : List En} (ok : OkS l) : psL (pths (lstL l)) = psL (pths l) := by
 have okm := lstL_ok ok
 refine sorted_eq (psL_sorted okm.rt) (psL_sorted ok.rt) fun p => ?_
 rw [psL_mem okm.rt, pths_lstL, List.mem_cons]
 constructor
 ·rintro ⟨h | h, hn⟩
  ·exact absurd h hn
  ·exact h
 ·intro h
  exact ⟨Or.inr h, ((psL_mem ok.rt p).1 h).2⟩
theorem lstL_tp {l : List En} (ok : OkS l) {t : Tp Tx} (ht : t ∈ trs l) : tpOf (lstL l) t.p = t.map (fstN (trs l)) := by
 have okm := lstL_ok ok
 have hl : ∀ u ∈ trs l, look (lstL l) u.p = mkE (trs l) u := by
  intro u hu
  have := look_mem okm.once (lstL_mem.2 (Or.inr ⟨u, hu, rfl⟩))
  rwa [mkE_path] at this
 have hnd : ∀ u ∈ trs l, ndOf (enOf u.p u.nd) = u.nd ∧ decide ((enOf u.p u.nd).k = 2) = u.dir := by
  intro u hu
  obtain ⟨y, hy, a1, a2, a3, a4⟩ := (nm_of ok hu).y
  rw [a3, a4]
  exact ⟨nd_en ((ok.each y hy).fld a2) u.p, rfl⟩
 obtain ⟨u, hu, e1, e2⟩ := fst_some ht
 have hfu : fstN (trs l) u.o = u.p := by rw [e1, e2]
 have eu : look (lstL l) u.p = enOf u.p u.nd := by rw [hl u hu]; unfold mkE; rw [if_pos hfu]
 have hs := nm_same ok (nm_of ok hu) (nm_of ok ht) e1
 have eo : opath (look (lstL l) t.p) = u.p := by
  rw [hl t ht]
  by_cases hf : fstN (trs l) t.o = t.p
  ·unfold mkE
   rw [if_pos hf]
   have k6 : (enOf t.p t.nd).k ≠ 6 := by
    obtain ⟨y, hy, a1, a2, a3, a4⟩ := (nm_of ok ht).y
    show t.nd.k ≠ 6
    rw [a3]
    exact a2
   unfold opath
   rw [if_neg k6]
   show t.p = u.p
   rw [← hf, e2]
  ·unfold mkE
   rw [if_neg hf]
   show (if (6 : Int) = 6 then fstN (trs l) t.o else t.p) = u.p
   rw [if_pos rfl, e2]
 unfold tpOf Tp.map
 rw [eo, eu]
 obtain ⟨g1, g2⟩ := hnd u hu
 rw [g1, g2, hs.1, hs.2, e2]
/-- P11.4: Canon of these entries is the tree -/
theorem lstL_canon {l : List En} (ok : OkS l) : canon (lstL l) = canon l := by
 have okm := lstL_ok ok
 have er : ndOf (look (lstL l) []) = ndOf (look l []) := by
  have e : look (lstL l) [] = enOf [] (ndOf (look l [])) := look_mem okm.once (x := enOf [] (ndOf (look l []))) (lstL_mem.2 (Or.inl rfl))
  rw [e]
  exact nd_en (root_ok ok).2 []
 have em : trs (lstL l) = (trs l).map (Tp.map (fstN (trs l))) := by
  have e1 : trs (lstL l) = (psL (pths l)).map (tpOf (lstL l)) := by unfold trs; rw [psL_lstL ok]
  rw [e1, ← trs_paths, List.map_map]
  apply List.map_congr_left
  intro t ht
  exact lstL_tp ok ht
 rw [canon_trs, canon_trs, er, em]
 apply bld_map
 intro x hx y hy e
 obtain ⟨u, hu, e1, e2⟩ := fst_some hx
 obtain ⟨v, hv, f1, f2⟩ := fst_some hy
 have := trs_inj hu hv (by rw [← e2, ← f2]; exact e)
 rw [← e1, ← f1, this]
/-- the place of the entry whose node an entry names -/
def ownI (l : List En) (i : Nat) (x : En) : Nat := if x.k = 6 then (l.findIdx? fun y => decide (y.path = x.target)).getD i else i
def entI (l : List En) (i : Nat) : En := (l[i]?).getD rootE
/-- a name, its owner a place -/
def trI (l : List En) (k : Nat) : Tp Nat := ⟨(entI l k).path, ownI l k (entI l k), ndOf (entI l (ownI l k (entI l k))), decide ((entI l (ownI l k (entI l k))).k = 2)⟩
/-- what the document's Canon builds -/
def canonI (l : List En) : List No := bld (ndOf (look l [])) ((ordL (pths l)).map (trI l))
theorem ownI_facts {l : List En} (ok : OkS l) {i : Nat} {x : En} (hx : l[i]? = some x) : ∃ y, l[ownI l i x]? = some y ∧ y.path = opath x := by
 unfold ownI opath
 have hm := List.mem_of_getElem? hx
 by_cases h6 : x.k = 6
 ·rw [if_pos h6, if_pos h6]
  obtain ⟨y, hy, e1, -, -⟩ := thing_mem ((ok.each x hm).hard h6)
  cases hf : l.findIdx? (fun y => decide (y.path = x.target)) with
  | none =>
   rw [List.findIdx?_eq_none_iff] at hf
   exact absurd e1 (by simpa using hf y hy)
  | some j =>
   rw [List.findIdx?_eq_some_iff_getElem] at hf
   obtain ⟨hj, h1, -⟩ := hf
   exact ⟨l[j], by simp [List.getElem?_eq_getElem hj], by simpa using h1⟩
 ·rw [if_neg h6, if_neg h6]
  exact ⟨x, hx, rfl⟩
theorem ordL_lt {l : List En} (ok : OkS l) {i : Nat} (hi : i ∈ ordL (pths l)) : ∃ x, l[i]? = some x ∧ x.path ≠ [] := by
 have h := (ordr_acc ok.rt ((pths l).length + 1) [] (Acc.nil _) (by have := left_le (pths l) []; omega)).1.lt i hi
 have hl : i < l.length := by have := h.1; unfold pths at this; rwa [List.length_map] at this
 refine ⟨l[i], List.getElem?_eq_getElem hl, ?_⟩
 have := h.2
 rwa [pths_getD (List.getElem?_eq_getElem hl)] at this
theorem canonI_eq {l : List En} (ok : OkS l) : canonI l = canon l := by
 unfold canonI
 have em : trs l = ((ordL (pths l)).map (trI l)).map (Tp.map fun i => (entI l i).path) := by
  unfold trs psL
  rw [List.map_map, List.map_map]
  apply List.map_congr_left
  intro i hi
  obtain ⟨x, hx, -⟩ := ordL_lt ok hi
  obtain ⟨y, hy, e⟩ := ownI_facts ok hx
  have ex : entI l i = x := by unfold entI; rw [hx]; rfl
  have ey : entI l (ownI l i x) = y := by unfold entI; rw [hy]; rfl
  have el : look l x.path = x := look_mem ok.once (List.mem_of_getElem? hx)
  have elo : look l (opath x) = y := by rw [← e]; exact look_mem ok.once (List.mem_of_getElem? hy)
  show tpOf l ((pths l).getD i []) = Tp.map (fun i => (entI l i).path) (trI l i)
  rw [pths_getD hx]
  unfold tpOf trI Tp.map
  simp only [el, elo, ex, ey, e]
 rw [canon_trs, em, bld_map]
 intro t ht u hu e
 obtain ⟨i, hi, rfl⟩ := List.mem_map.1 ht
 obtain ⟨j, hj, rfl⟩ := List.mem_map.1 hu
 obtain ⟨x, hx, -⟩ := ordL_lt ok hi
 obtain ⟨z, hz, -⟩ := ordL_lt ok hj
 obtain ⟨y, hy, -⟩ := ownI_facts ok hx
 obtain ⟨v, hv, -⟩ := ownI_facts ok hz
 have ex : entI l i = x := by unfold entI; rw [hx]; rfl
 have ez : entI l j = z := by unfold entI; rw [hz]; rfl
 unfold trI at e ⊢
 simp only [ex, ez] at e ⊢
 have ey : entI l (ownI l i x) = y := by unfold entI; rw [hy]; rfl
 have ev : entI l (ownI l j z) = v := by unfold entI; rw [hv]; rfl
 rw [ey, ev] at e
 apply ok.rt.once
 ·unfold pths; rw [List.length_map]; exact (List.getElem?_eq_some_iff.1 hy).1
 ·unfold pths; rw [List.length_map]; exact (List.getElem?_eq_some_iff.1 hv).1
 ·rw [pths_getD hy, pths_getD hv, e]
end Go.Proofs.YtlehncfehoelbaaGreatDoor
namespace Go.Proofs.YtlehncfehoelbaaGreatDoor
open Go.RowKit
set_option maxRecDepth 100000
set_option linter.unusedSimpArgs false
set_option linter.unusedVariables false
theorem findIdx_hit {l : List EnV} {k : Nat} {Y : EnV} {f : En → Bool} (hY : l[k]? = some Y) (h0 : ((ens l).take k).any f = false) (h1 : f Y.en = true) : (ens l).findIdx? f = some k := by
 rw [List.findIdx?_eq_some_iff_getElem]
 have hk : k < l.length := (List.getElem?_eq_some_iff.1 hY).1
 have hke : k < (ens l).length := by unfold ens; rw [List.length_map]; exact hk
 have hg : ∀ (j : Nat) (hj : j < (ens l).length), (ens l)[j] = (l[j]'(by unfold ens at hj; rw [List.length_map] at hj; exact hj)).en := fun j hj => by simp [ens]
 refine ⟨hke, ?_, fun j hj => ?_⟩
 ·rw [hg k hke]
  have : l[k] = Y := (List.getElem?_eq_some_iff.1 hY).2
  rw [this]
  exact h1
 ·rw [List.any_eq_false] at h0
  have hjl : j < (ens l).length := by omega
  apply h0
  rw [List.mem_iff_getElem?]
  exact ⟨j, by rw [List.getElem?_take, if_pos hj]; exact List.getElem?_eq_getElem hjl⟩
theorem findIdx_miss {l : List EnV} {f : En → Bool} (h0 : (ens l).any f = false) : (ens l).findIdx? f = none := by
 rw [List.findIdx?_eq_none_iff]
 intro x hx
 rw [List.any_eq_false] at h0
 simpa using h0 x hx
set_option maxHeartbeats 1000000 in
theorem rowner_any (a : Option Addr) (len cap : Nat) (l : List EnV) (w : World) (E : Ens w a len l) (hlen : len ≤ 100000) (i : Nat) (X : EnV) (hX : l[i]? = some X) :
  Calls Tryz.prog 39 #[.slice a len cap, .int .i64 i] w fun e w' => e = .returned (.int .i64 (ownI (ens l) i X.en)) ∧ w.grownBy w' none := by
 have hll := E.len_eq
 have hi : i < len := by have := (List.getElem?_eq_some_iff.1 hX).1; omega
 obtain ⟨b, off, rfl, hat⟩ := E.at_ (by omega)
 obtain ⟨c0, c1, c2, c3, c4, c5, c6, c7, c8, c9, c10, hok⟩ := hat i X hX
 have hii : (i : Int) < (len : Int) := by omega
 by_cases h6 : X.k = 6
 ·have HE : Hid (ownI (ens l) i X.en = ((ens l).findIdx? (sameP X.target.toList)).getD i) := by
   show ownI _ _ _ = _
   unfold ownI
   rw [if_pos (show X.en.k = 6 from h6)]
   rfl
  rw [h6] at c1
  generalize ownI (ens l) i X.en = A at *
  have HI : Hid _ := And.intro hat hll
  generalize X.target = T at *
  clear E hat hll hok c0 c2 c3 c4 c5 c6 c7 c9 c10
  go_enter Tryz.func39, Tryz.ntmps39
  go_wp2
  go_loopw [5] (fun v wr => ∃ k : Nat, k ≤ len ∧ v = .int .i64 k ∧ Hid (((ens l).take k).any (sameP T.toList) = false) ∧ ∃ t, wr = w.drewN t) (fun v _ => len - (intOf v).toNat)
  case atStart => exact ⟨0, Nat.zero_le _, rfl, rfl, 0, rfl⟩
  case round =>
   obtain ⟨k, hk, rfl, HB, t, rfl⟩ := hrel
   by_cases hlt : k < len
   ·obtain ⟨Y, hY⟩ : ∃ Y, l[k]? = some Y := ⟨_, List.getElem?_eq_getElem (by have := HI.out.2; omega)⟩
    have y0 := (HI.out.1 k Y hY).c0
    have hsn := ens_snoc hY (sameP T.toList)
    rw [HB.out, Bool.false_or] at hsn
    have hsn2 : sameP T.toList Y.en = (Y.path.toList == T.toList) := by
     unfold sameP EnV.en; simp only; by_cases h : Y.path.toList = T.toList <;> simp [h]
    have HY : Hid _ := And.intro hY hsn2
    rw [hsn2] at hsn
    have HN : Hid _ := hsn
    clear hsn hsn2 hY
    generalize Y.path = Q at *
    have hlti : (k : Int) < (len : Int) := by omega
    cases hq : (Q.toList == T.toList) with
    | true =>
     have HV : Hid (A = k) := by
      show A = k
      rw [HE.out, findIdx_hit HY.out.1 HB.out (HY.out.2.trans hq)]
      rfl
     clear HE HB HN HY
     go_wp2
     go_quiet (fail)
     go_wp2
     go_ret
     exact ⟨by rw [HV.out]; rfl, drewG11 (drewG11 (World.grownBy.refl _ _) _) _⟩
    | false =>
     have HN2 : Hid (((ens l).take (k + 1)).any (sameP T.toList) = false) := by
      show List.any _ _ = false
      rw [HN.out, hq]
     clear HN HY HB
     go_wp2
     go_quiet (fail)
     go_wp2
     exact ⟨⟨k + 1, by omega, by go_num, HN2, _, rfl⟩, by simp [intOf]; omega⟩
   ·obtain rfl : k = len := by omega
    have HV : Hid (A = i) := by
     show A = i
     have h0 := HB.out
     rw [List.take_of_length_le (by rw [show (ens l).length = l.length by unfold ens; rw [List.length_map]]; have := HI.out.2; omega)] at h0
     rw [HE.out, findIdx_miss h0]
     rfl
    clear HE HB
    go_wp2
    go_ret
    exact ⟨by rw [HV.out]; rfl, drewG11 (World.grownBy.refl _ _) _⟩
 ·have HE : Hid (ownI (ens l) i X.en = i) := by
   show ownI _ _ _ = _
   unfold ownI
   rw [if_neg (show X.en.k ≠ 6 from h6)]
  have h6' : (X.k == 6) = false := by simpa using h6
  generalize ownI (ens l) i X.en = A at *
  generalize X.k = K at *
  clear E hat hll hok c0 c2 c3 c4 c5 c6 c7 c8 c9 c10
  go_enter Tryz.func39, Tryz.ntmps39
  go_wp2
  go_ret
  exact ⟨by rw [HE.out]; rfl, World.grownBy.refl _ _⟩
/-- a variable of several cells -/
structure Bx (W : World) (g : Nat) (T : TypeId) (cs : List Value) : Prop where
 blk : W.heap[g]? = some (.cells cs.toArray T (0, 0))
theorem Bx.lt {W : World} {g : Nat} {T : TypeId} {cs : List Value} (h : Bx W g T cs) : g < W.heap.size := (Array.getElem?_eq_some_iff.1 h.blk).1
theorem Bx.c {W : World} {g : Nat} {T : TypeId} {cs : List Value} (h : Bx W g T cs) (i : Nat) : W.cell? ⟨g, i, none⟩ = cs[i]? := by simp [World.cell?, h.blk]
theorem Bx.f {W : World} {g : Nat} {T : TypeId} {cs : List Value} (h : Bx W g T cs) (i : Nat) : W.frozen? ⟨g, i, none⟩ = false := by simp [World.frozen?, h.blk]
theorem Bx.kept {W W' : World} {g : Nat} {T : TypeId} {cs : List Value} (h : Bx W g T cs) (hg : W.grownBy W' none) : Bx W' g T cs := ⟨by rw [hg.block g h.lt (by simp)]; exact h.blk⟩
theorem Bx.but {W W' : World} {g : Nat} {r : Option Nat} {T : TypeId} {cs : List Value} (h : Bx W g T cs) (hg : W.grownBy W' r) (hn : some g ≠ r) : Bx W' g T cs := ⟨by rw [hg.block g h.lt hn]; exact h.blk⟩
theorem Bx.new (w : World) (T : TypeId) (cs : List Value) : Bx (w.alloc (.cells cs.toArray T)) w.heap.size T cs := ⟨heap_alloc_new _ _⟩
theorem Bx.set {W : World} {g : Nat} {T : TypeId} {cs : List Value} (h : Bx W g T cs) (i : Nat) (v : Value) : Bx (W.setCell ⟨g, i, none⟩ v) g T (cs.set i v) := by
 constructor
 rw [setCell_eq_setRow W g i _ _ _ _ h.blk, setRow_heap W g _ _ _ _ h.blk]
 simp
theorem made_list11 (z : Value) (n : Nat) : madeCells #[z] n = (List.replicate n z).toArray := by rw [← toList_madeCells_one]
theorem owns_low11 {w : World} {b b' e s n : Nat} {v : Value} {xs : List Value} (h : w.ownsRow b e s v n xs) (hb : b' ≤ b) : w.ownsRow b' e s v n xs := by
 refine ⟨h.1, ?_⟩
 rcases h.2 with h0 | ⟨g, cap, cur, e1, e2, e3⟩
 ·exact Or.inl h0
 ·exact Or.inr ⟨g, cap, cur, e1, by omega, e3⟩
theorem own_set11 {w : World} {base g' e size n : Nat} {v : Value} {xs : List Value} (h : w.ownsRow base e size v n xs) (hg : g' < base) (i : Nat) (u : Value) : (w.setCell ⟨g', i, none⟩ u).ownsRow base e size v n xs := by
 refine ⟨h.1, ?_⟩
 rcases h.2 with h0 | ⟨g, cap, cur, e1, e2, e3, e4⟩
 ·exact Or.inl h0
 ·exact Or.inr ⟨g, cap, cur, e1, e2, by rw [Below.heap_setCell _ _ _ _ (show g ≠ g' by omega)]; exact e3, e4⟩
theorem news_set (wr : World) (gd b : Nat) (x : Value) (t : TypeId) (v : Value) : ∀ j u, [v][j]? = some u → ((wr.setCell ⟨gd, b, none⟩ x).alloc (.cells #[v] t)).cell? ((⟨wr.heap.size, 0, none⟩ : Addr).add j) = some u := by
 intro j u h
 have e : (wr.setCell ⟨gd, b, none⟩ x).heap.size = wr.heap.size := by simp
 have := cell_one_newV (wr.setCell ⟨gd, b, none⟩ x) t v j u h
 rw [e] at this
 exact this
theorem owns_kept11 {w w' : World} {b e s n : Nat} {v : Value} {xs : List Value} (h : w.ownsRow b e s v n xs) (k : w.grownBy w' none) : w'.ownsRow b e s v n xs := h.kept k (by cases v.ownBlock <;> simp)
/-- which places are done -/
def bls (len : Nat) (acc : List Nat) : List Value := (List.range len).map fun i => .bool (acc.contains i)
theorem bls_nil (len : Nat) : bls len [] = List.replicate len (.bool false) := by
 unfold bls
 apply List.ext_getElem?
 intro i
 rw [List.getElem?_map, List.getElem?_replicate]
 rcases Nat.lt_or_ge i len with h | h
 ·rw [List.getElem?_range h, if_pos h]; rfl
 ·rw [List.getElem?_eq_none (by simpa using h), if_neg (by omega)]; rfl
theorem bls_at {len : Nat} {acc : List Nat} {i : Nat} (h : i < len) : (bls len acc)[i]? = some (.bool (acc.contains i)) := by
 unfold bls
 rw [List.getElem?_map, List.getElem?_range h]
 rfl
theorem bls_set {len : Nat} {acc : List Nat} {b : Nat} (h : b < len) : (bls len acc).set b (.bool true) = bls len (acc ++ [b]) := by
 apply List.ext_getElem?
 intro i
 have hl : (bls len acc).length = len := by unfold bls; simp
 rcases Nat.lt_or_ge i len with hi | hi
 ·rw [bls_at hi, List.getElem?_set]
  by_cases e : b = i
  ·subst e
   rw [if_pos rfl, if_pos (by omega)]
   simp
  ·rw [if_neg e, bls_at hi]
   have : (acc ++ [b]).contains i = acc.contains i := by
    have hne : i ≠ b := fun x => e x.symm
    simp [hne]
   rw [this]
 ·rw [List.getElem?_eq_none (by rw [List.length_set]; omega), List.getElem?_eq_none (by unfold bls; simp; exact hi)]
theorem nxt_in {l : List Tx} {done : List Nat} {k b : Nat} (h : nxt l done k = some b) : b < k ∧ b ∉ done ∧ l.getD b [] ≠ [] := by
 induction k generalizing b with
 | zero => simp [nxt] at h
 | succ k ih =>
  unfold nxt at h
  split at h
  ·obtain ⟨h1, h2, h3⟩ := ih h
   exact ⟨by omega, h2, h3⟩
  ·rename_i hc
   have hkd : k ∉ done := fun x => hc (Or.inl (by simpa using x))
   have hkn : l.getD k [] ≠ [] := fun x => hc (Or.inr x)
   cases hm : nxt l done k with
   | none =>
    rw [hm] at h
    injection h with h
    subst h
    exact ⟨by omega, hkd, hkn⟩
   | some b' =>
    rw [hm] at h
    obtain ⟨h1, h2, h3⟩ := ih hm
    simp only at h
    split at h
    ·injection h with h
     subst h
     exact ⟨by omega, hkd, hkn⟩
    ·injection h with h
     subst h
     exact ⟨by omega, h2, h3⟩
theorem nxt_skip {l : List Tx} {done : List Nat} {k : Nat} (h : done.contains k = true ∨ l.getD k [] = []) : nxt l done (k + 1) = nxt l done k := by
 rw [nxt, if_pos h]
theorem nxt_none' {l : List Tx} {done : List Nat} {k : Nat} (h : ¬ (done.contains k = true ∨ l.getD k [] = [])) (hm : nxt l done k = none) : nxt l done (k + 1) = some k := by
 rw [nxt, if_neg h, hm]
theorem nxt_less {l : List Tx} {done : List Nat} {k b : Nat} (h : ¬ (done.contains k = true ∨ l.getD k [] = [])) (hm : nxt l done k = some b) (hl : ord (spl (l.getD k [])).1 (spl (l.getD b [])).1 < 0) : nxt l done (k + 1) = some k := by
 rw [nxt, if_neg h, hm]
 simp only
 rw [if_pos hl]
theorem nxt_more {l : List Tx} {done : List Nat} {k b : Nat} (h : ¬ (done.contains k = true ∨ l.getD k [] = [])) (hm : nxt l done k = some b) (hl : ¬ ord (spl (l.getD k [])).1 (spl (l.getD b [])).1 < 0) : nxt l done (k + 1) = some b := by
 rw [nxt, if_neg h, hm]
 simp only
 rw [if_neg hl]
def ivN (acc : List Nat) : List Value := acc.map fun (i : Nat) => Value.int .i64 (i : Int)
/-- between two rounds of Order's outer loop -/
structure Oo (w wr : World) (gd len : Nat) (ps : List Tx) (acc : List Nat) (v : Value) (f : Nat) : Prop where
 gr : w.grownBy wr none
 dn : Bx wr gd 4 (bls len acc)
 own : wr.ownsRow (gd + 1) 3 1 v acc.length (ivN acc)
 lt : w.heap.size ≤ gd
 eq : ordL ps = ordr ps f acc
 fu : acc.length + f = len + 1
 lf : left ps acc < f
theorem Oo.kept {w W W' : World} {gd len : Nat} {ps : List Tx} {acc : List Nat} {v : Value} {f : Nat} (h : Oo w W gd len ps acc v f) (k : W.grownBy W' none) : Oo w W' gd len ps acc v f := ⟨grown_trans h.gr k, h.dn.kept k, owns_kept11 h.own k, h.lt, h.eq, h.fu, h.lf⟩
/-- what is known of the best place so far -/
def Bt (W : World) (ps : List Tx) (acc : List Nat) (k : Nat) (v5 v6 : Value) : Prop :=
 (nxt ps acc k = none ∧ v5 = .int .i64 (-1)) ∨ ∃ (b : Nat) (a : Option Addr) (n c : Nat), nxt ps acc k = some b ∧ v5 = .int .i64 b ∧ v6 = .slice a n c ∧ SRow W a n (txs (spl (ps.getD b [])).1) ∧ n ≤ 128
theorem Bt.kept {W W' : World} {ps : List Tx} {acc : List Nat} {k : Nat} {v5 v6 : Value} (h : Bt W ps acc k v5 v6) (g : W.grownBy W' none) : Bt W' ps acc k v5 v6 := by
 rcases h with h | ⟨b, a, n, c, h1, h2, h3, h4, h5⟩
 ·exact Or.inl h
 ·exact Or.inr ⟨b, a, n, c, h1, h2, h3, h4.grown g, h5⟩
theorem spl_szs (L : Tx) : szs (txs (spl L).1) ∧ (spl L).1.length ≤ 128 := by
 by_cases h : (spl L).2 = 0
 ·obtain ⟨h1, h2⟩ := spl_short h
  exact ⟨fun i => Nat.le_trans (txs_size h1 i) (by decide), h2⟩
 ·have : (spl L).1 = [] := by
   unfold spl at h ⊢
   split
   ·rfl
   ·rename_i h1
    rw [if_neg h1] at h
    split
    ·rfl
    ·rename_i h2
     rw [if_neg h2] at h
     split
     ·rfl
     ·rename_i h3
      rw [if_neg h3] at h
      split
      ·rfl
      ·rename_i h4
       rw [if_neg h4] at h
       exact absurd rfl h
  rw [this]
  exact ⟨fun i => by (simp [txs]; exact Nat.zero_le _), by simp⟩
def slLen : Value → Nat
 | .slice _ n _ => n
 | _ => 0
theorem own_len {w : World} {b e n : Nat} {v : Value} {xs : List Value} (h : w.ownsRow b e 1 v n xs) : slLen v = n := by
 rcases h.2 with ⟨rfl, h0⟩ | ⟨g, cap, cur, rfl, _⟩
 ·exact h0.symm
 ·rfl
theorem Tryz.info4 : (Tryz.prog.info? 4).map (fun i => (i.zero, i.size, i.bytes)) = some (some (.bool false), 1, 1) := by kernel_rfl
theorem Tryz.info3 : (Tryz.prog.info? 3).map (fun i => (i.zero, i.size, i.bytes)) = some (some (.int .i64 0), 1, 8) := by kernel_rfl
/-- what Order answers -/
def IoPost (w : World) (l : List Nat) (e : Ending) (w' : World) : Prop := ∃ v, e = .returned v ∧ w'.ownsRow w.heap.size 3 1 v l.length (ivN l) ∧ w.grownBy w' none
set_option maxHeartbeats 4000000 in
theorem rorder11_any (a : Option Addr) (len cap : Nat) (l : List EnV) (w : World) (E : Ens w a len l) (hs : Sml l) (hlen : len ≤ 100000) :
  Calls Tryz.prog 38 #[.slice a len cap] w (IoPost w (ordL (pths (ens l)))) := by
 have hll := E.len_eq
 have hk1 : ∀ w, (Instr.makeSlice 126 (.int .i64 (len : Int)) (.int .i64 (len : Int))).run Tryz.prog w = .ok (.slice (some ⟨w.heap.size, 0, none⟩) len len) (w.alloc (.cells (madeCells #[.bool false] len) 4)) := run_make_row' _ _ _ _ (by kernel_rfl) Tryz.info4 rfl .i64 .i64 len (by omega) (by omega)
 obtain ⟨i3, hi, hz0, hz1, hz2⟩ := info_parts Tryz.info3
 have hps : (pths (ens l)).length = len := by unfold pths ens; rw [List.length_map, List.length_map]; exact hll
 have hpa : ∀ (k : Nat) (Y : EnV), l[k]? = some Y → (pths (ens l)).getD k [] = Y.path.toList := by
  intro k Y hY
  exact pths_getD (x := Y.en) (by unfold ens; rw [List.getElem?_map, hY]; rfl)
 generalize hpp : pths (ens l) = ps at *
 have HPS : Hid _ := And.intro hps hpa
 clear hpp hps hpa
 have H0 : Hid (Oo w (w.alloc (.cells (madeCells #[.bool false] len) 4)) w.heap.size len ps [] (.slice none 0 0) (len + 1)) := by
  refine ⟨World.grownBy_alloc _ _ _, ?_, World.ownsRow_nil _ _ _ _, Nat.le_refl _, ?_, by simp, ?_⟩
  ·rw [made_list11, bls_nil]; exact Bx.new w 4 _
  ·unfold ordL; rw [HPS.out.1]
  ·have := left_le ps []; have := HPS.out.1; omega
 have HE : Hid _ := And.intro E hs
 clear E hs hll
 unfold IoPost
 go_enter Tryz.func38, Tryz.ntmps38
 go_wp2
 generalize w.alloc (.cells (madeCells #[.bool false] len) 4) = W1 at *
 generalize hg0 : w.heap.size = gd at *
 have HG0 : Hid _ := hg0
 clear hg0 hk1
 go_loopw [3] (fun v3 wr => Hid (∃ acc f, Oo w wr gd len ps acc v3 f)) (fun v3 _ => len + 1 - slLen v3)
 case atStart => exact ⟨[], len + 1, H0.out⟩
 case round =>
  obtain ⟨acc, f, hO⟩ := hrel.out
  clear H0
  obtain ⟨wo, hwo⟩ : ∃ wo, wo = wr := ⟨wr, rfl⟩
  subst hwo
  have HO : Hid _ := hO
  clear hO
  go_wp2
  go_loopw [5, 6, 7] (fun v5 v6 vi wq => ∃ k : Nat, vi = .int .i64 k ∧ k ≤ len ∧ Hid (wo.grownBy wq none ∧ Bt wq ps acc k v5 v6)) (fun _ _ vi _ => len - (intOf vi).toNat)
  case atStart => exact ⟨0, rfl, Nat.zero_le _, World.grownBy.refl _ _, Or.inl ⟨rfl, rfl⟩⟩
  case round =>
   obtain ⟨k, rfl, hk, HB⟩ := hrel
   rcases Nat.lt_or_ge k len with hlt | hge
   ·have hlti : (k : Int) < (len : Int) := by omega
    obtain ⟨Y, hY⟩ : ∃ Y, l[k]? = some Y := ⟨_, List.getElem?_eq_getElem (by have := HE.out.1.len_eq; omega)⟩
    obtain ⟨eb, eo, rfl, hat⟩ := HE.out.1.at_ (by omega)
    have gq := grown_trans HO.out.gr HB.out.1
    have y0 := cell_grown (hat k Y hY).c0 gq
    have d0 := (HO.out.dn.kept HB.out.1).c k
    rw [bls_at hlt] at d0
    have hpk := HPS.out.2 k Y hY
    have hsz := (HE.out.2 Y (List.mem_of_getElem? hY)).1
    have HGQ : Hid _ := gq
    clear hat gq hY
    generalize Y.path = Q at *
    clear Y
    cases hdn : acc.contains k with
    | true =>
     rw [hdn] at d0
     have HN : Hid (wo.grownBy wr none ∧ Bt wr ps acc (k + 1) u5 u6) := by
      refine ⟨HB.out.1, ?_⟩
      unfold Bt
      rw [nxt_skip (Or.inl hdn)]
      exact HB.out.2
     clear HB hpk hsz
     go_wp2
     go_roundw
     case rel => exact ⟨k + 1, by go_num, by omega, HN⟩
     case measure => simp [intOf]; omega
    | false =>
     rw [hdn] at d0
     cases hq : (Q.toList == []) with
     | true =>
      have hq' := eq_of_beq hq
      have HN : Hid (wo.grownBy wr none ∧ Bt wr ps acc (k + 1) u5 u6) := by
       refine ⟨HB.out.1, ?_⟩
       unfold Bt
       rw [nxt_skip (Or.inr (by rw [hpk]; exact hq'))]
       exact HB.out.2
      clear HB hpk hsz hq'
      go_wp2
      go_roundw
      case rel => exact ⟨k + 1, by go_num, by omega, HN⟩
      case measure => simp [intOf]; omega
     | false =>
      have hno : ¬ (acc.contains k = true ∨ ps.getD k [] = []) := by
       rw [hdn, hpk]
       rintro (x | x)
       ·cases x
       ·rw [x] at hq; simp at hq
      have hsp := fun W => rsplit_any Q W (by omega)
      have hsz2 := spl_szs Q.toList
      unfold SpPost at hsp
      rcases HB.out.2 with ⟨hn, rfl⟩ | ⟨b, ab, nb, cb, hn, rfl, rfl, hsr, hnb⟩
      ·have HK : Hid _ := And.intro hno (And.intro hn (And.intro hpk (And.intro HB.out.1 hsz2)))
       clear HB hno hn hpk hsz hsz2
       go_wp2_with fail
       refine (hsp _).mono ?_
       rintro e w2 ⟨a2, n2, c2, rfl, hown, g2⟩
       obtain ⟨a3, c3, ev, hrow, -, -⟩ := owns_srow hown
       injection ev with ev1 ev2 ev3
       subst ev1 ev3
       have HN : Hid (wo.grownBy w2 none ∧ Bt w2 ps acc (k + 1) (.int .i64 k) (.slice a2 n2 c2)) := by
        refine ⟨grown_trans HK.out.2.2.2.1 g2, Or.inr ⟨k, a2, n2, c2, nxt_none' HK.out.1 HK.out.2.1, rfl, rfl, by rw [HK.out.2.2.1]; exact hrow, ?_⟩⟩
        have := hrow.len_eq
        have := HK.out.2.2.2.2.2
        rw [← hrow.len_eq]
        unfold txs
        rw [List.length_map]
        exact this
       clear hown g2 hrow HK hsp
       go_wp2
       go_roundw
       case rel => exact ⟨k + 1, by go_num, by omega, HN⟩
       case measure => simp [intOf]; omega
      ·have hszb := spl_szs (ps.getD b [])
       have HK : Hid _ := And.intro hno (And.intro hn (And.intro hpk (And.intro HB.out.1 (And.intro hsz2 (And.intro hsr (And.intro hnb hszb))))))
       have hb0 : ¬ (b : Int) < 0 := by omega
       clear HB hno hn hpk hsz hsz2 hsr hnb hszb
       go_wp2_with fail
       refine (hsp _).mono ?_
       rintro e w2 ⟨a2, n2, c2, rfl, hown, g2⟩
       obtain ⟨a3, c3, ev, hrow, -, -⟩ := owns_srow hown
       injection ev with ev1 ev2 ev3
       subst ev1 ev3
       have hn2 : n2 ≤ 128 := by
        have := HK.out.2.2.2.2.1.2
        rw [← hrow.len_eq]
        unfold txs
        rw [List.length_map]
        exact this
       have hor := rorder_any a2 ab n2 c2 nb cb _ _ w2 hrow (HK.out.2.2.2.2.2.1.grown g2) HK.out.2.2.2.2.1.1 HK.out.2.2.2.2.2.2.2.1 (by omega) (by have := HK.out.2.2.2.2.2.2.1; omega)
       rw [tls_txs, tls_txs] at hor
       have HW : Hid _ := And.intro g2 (And.intro hrow hn2)
       clear hown g2 hrow hsp hn2
       generalize hov : ord (spl Q.toList).1 (spl (ps.getD b [])).1 = ov at hor
       have HOV : Hid _ := hov
       clear hov
       by_cases hneg : ov < 0
       ·have HN : Hid (∀ t, wo.grownBy (w2.drewN t) none ∧ Bt (w2.drewN t) ps acc (k + 1) (.int .i64 k) (.slice a2 n2 c2)) := by
         intro t
         have gt := drewG11 (World.grownBy.refl w2 none) t
         refine ⟨grown_trans HK.out.2.2.2.1 (grown_trans HW.out.1 gt), Or.inr ⟨k, a2, n2, c2, nxt_less HK.out.1 HK.out.2.1 (by rw [HK.out.2.2.1, HOV.out]; exact hneg), rfl, rfl, ?_, HW.out.2.2⟩⟩
         rw [HK.out.2.2.1]
         exact HW.out.2.1.grown gt
        clear HK HW HOV
        go_wp2_with fail
        refine hor.mono ?_
        rintro e w3 ⟨rfl, t, rfl⟩
        clear hor
        go_wp2
        go_roundw
        case rel => exact ⟨k + 1, by go_num, by omega, HN.out t⟩
        case measure => simp [intOf]; omega
       ·have HN : Hid (∀ t, wo.grownBy (w2.drewN t) none ∧ Bt (w2.drewN t) ps acc (k + 1) (.int .i64 b) (.slice ab nb cb)) := by
         intro t
         have gt := drewG11 (World.grownBy.refl w2 none) t
         exact ⟨grown_trans HK.out.2.2.2.1 (grown_trans HW.out.1 gt), Or.inr ⟨b, ab, nb, cb, nxt_more HK.out.1 HK.out.2.1 (by rw [HK.out.2.2.1, HOV.out]; exact hneg), rfl, rfl, HK.out.2.2.2.2.2.1.grown (grown_trans HW.out.1 gt), HK.out.2.2.2.2.2.2.1⟩⟩
        clear HK HW HOV
        go_wp2_with fail
        refine hor.mono ?_
        rintro e w3 ⟨rfl, t, rfl⟩
        clear hor
        go_wp2
        go_roundw
        case rel => exact ⟨k + 1, by go_num, by omega, HN.out t⟩
        case measure => simp [intOf]; omega
   ·have hge' : ¬ (k : Int) < (len : Int) := by omega
    have hkl : k = len := by omega
    subst hkl
    have hpl := HPS.out.1
    rcases HB.out.2 with ⟨hn, rfl⟩ | ⟨b, ab, nb, cb, hn, rfl, rfl, hsr, hnb⟩
    ·have HV : Hid (wr.ownsRow w.heap.size 3 1 u3 (ordL ps).length (ivN (ordL ps)) ∧ w.grownBy wr none) := by
      have e : ordL ps = acc := by
       rw [HO.out.eq]
       have hf := HO.out.lf
       cases f with
       | zero => omega
       | succ f => rw [ordr, hpl, hn]
      rw [e]
      have hB := HB.out.1
      refine ⟨?_, grown_trans HO.out.gr hB⟩
      have := owns_kept11 HO.out.own hB
      exact owns_low11 this (by have := HG0.out; omega)
     clear HB HO hn hpl
     go_wp2
     go_ret
     exact ⟨_, rfl, HV.out.1, HV.out.2⟩
    ·have hin := nxt_in hn
     have hbl : b < k := hin.1
     have hbi : (b : Int) < (k : Int) := by omega
     have hb0 : ¬ (b : Int) < 0 := by omega
     have hdk := HO.out.dn.kept HB.out.1
     have d0 := hdk.c b
     rw [bls_at hbl] at d0
     have d1 := hdk.f b
     have hos := own_set11 (owns_kept11 HO.out.own HB.out.1) (Nat.lt_succ_self gd) b (.bool true)
     have gS := grown_set wr gd b (.bool true)
     have gA := World.grownBy_alloc (wr.setCell ⟨gd, b, none⟩ (.bool true)) (.cells #[.int .i64 (b : Int)] 3) none
     have HX : Hid (Bx ((wr.setCell ⟨gd, b, none⟩ (.bool true)).alloc (.cells #[.int .i64 (b : Int)] 3)) gd 4 (bls k (acc ++ [b])) ∧ ((wr.setCell ⟨gd, b, none⟩ (.bool true)).alloc (.cells #[.int .i64 (b : Int)] 3)).ownsRow (gd + 1) 3 1 u3 acc.length (ivN acc) ∧ w.grownBy ((wr.setCell ⟨gd, b, none⟩ (.bool true)).alloc (.cells #[.int .i64 (b : Int)] 3)) none) := by
      refine ⟨?_, owns_kept11 hos gA, grown_trans (grown_new (grown_trans HO.out.gr HB.out.1) gS HO.out.lt) gA⟩
      rw [← bls_set hbl]
      exact (hdk.set b _).kept gA
     have HNX : Hid _ := And.intro hn (And.intro hin hpl)
     have hsz : gd + 1 ≤ ((wr.setCell ⟨gd, b, none⟩ (.bool true)).alloc (.cells #[.int .i64 (b : Int)] 3)).heap.size := HX.out.1.lt
     have HSZ : Hid _ := hsz
     clear hn hin hpl hdk hos gS gA hsr hsz
     go_wp2_with (at_builtin; refine wpList_append_own _ rfl _ _ 83 rfl (gd + 1) 3 i3 (.int .i64 0) 1 8 Tryz.underlying83 hi hz0 hz1 hz2 rfl (by decide) _ _ _ rfl HX.out.2.1 ⟨wr.heap.size, 0, none⟩ 1 1 [.int .i64 (b : Int)] rfl rfl (news_set wr gd b (.bool true) 3 (.int .i64 (b : Int))) ?c2 ?c3 ?c4 HSZ.out ?_)
     case c2 => rfl
     case c3 => have := HO.out.fu; unfold maxLen; omega
     case c4 => have := HO.out.fu; omega
     ·intro v' w4 o4 g4 _
      have hlt := HX.out.2.1.lt
      have HN : Hid (∃ acc f, Oo w w4 gd k ps acc v' f) := by
       have hf := HO.out.lf
       have hfu := HO.out.fu
       cases f with
       | zero => omega
       | succ f =>
        refine ⟨acc ++ [b], f, grown_own9 HX.out.2.2 HX.out.2.1 g4 (by have := HG0.out; omega), HX.out.1.but g4 (fun e => by have := (hlt gd e.symm).1; omega), ?_, HO.out.lt, ?_, by simp; omega, ?_⟩
        ·have e : ivN (acc ++ [b]) = ivN acc ++ [.int .i64 (b : Int)] := by simp [ivN]
         rw [e, List.length_append]
         exact o4
        ·rw [HO.out.eq, ordr, HNX.out.2.2, HNX.out.1]
        ·have := left_next (l := ps) (acc := acc) (b := b) (by rw [HNX.out.2.2]; exact hbl) HNX.out.2.1.2.1 HNX.out.2.1.2.2
         omega
      have hl1 := own_len HO.out.own
      have hl2 := own_len o4
      have hfu := HO.out.fu
      have hf := HO.out.lf
      have HM : Hid (slLen u3 = acc.length ∧ slLen v' = acc.length + 1 ∧ acc.length < k + 1) := ⟨hl1, hl2, by omega⟩
      clear o4 g4 HX HO HNX HB d0 d1 hlt hl1 hl2 hfu hf HSZ
      go_wp2
      go_roundw
      case rel => exact HN
      case measure => have := HM.out; omega
end Go.Proofs.YtlehncfehoelbaaGreatDoor
