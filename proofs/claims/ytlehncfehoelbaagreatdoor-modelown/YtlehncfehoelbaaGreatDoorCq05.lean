/- The tree of a list of entries, as plain data; it hangs on what is in t. -/
import Derived.Test.YtlehncfehoelbaaGreatDoorCq04
namespace Go.Proofs.YtlehncfehoelbaaGreatDoor
set_option linter.unusedVariables false
set_option linter.unusedSimpArgs false
def abst (l out : List Atr) : Nat → Option Nat
 | 0 => none
 | k + 1 => if out.any (fun a => decide (a.n = ((l[k]?).map Atr.n).getD [])) = true then abst l out k else
  match abst l out k with
  | none => some k
  | some b => if ctx (((l[k]?).map Atr.n).getD []) (((l[b]?).map Atr.n).getD []) < 0 then some k else some b
def srtA (l : List Atr) : Nat → List Atr → List Atr
 | 0, out => out
 | n + 1, out => match abst l out l.length with
  | none => out
  | some b => srtA l n (out ++ (l[b]?).toList)
def ndOf (x : En) : No := ⟨x.k, x.mode, x.uid, x.gid, x.time, if x.k = 1 then x.size else 0, if x.k = 1 then strip x.data else [], if x.k = 3 then x.target else [], if x.k = 4 ∨ x.k = 5 then x.dev else 0, srtA x.attrs x.attrs.length [], [], 0, 0⟩
def rootE : En := ⟨[], 2, 493, 0, 0, 0, 0, [], [], 0, []⟩
def look (l : List En) (p : Tx) : En := (l.find? fun x => decide (x.path = p)).getD rootE
def opath (x : En) : Tx := if x.k = 6 then x.target else x.path
def tpOf (l : List En) (p : Tx) : Tp Tx := ⟨p, opath (look l p), ndOf (look l (opath (look l p))), decide ((look l (opath (look l p))).k = 2)⟩
def pths (l : List En) : List Tx := l.map En.path
def canon (l : List En) : List No := bld (ndOf (look l [])) ((psL (pths l)).map (tpOf l))

structure OkE (l : List En) (x : En) : Prop where
 kind : inI x.k 1 6 = true
 path : pth x = 0
 up : upT x.path = [] ∨ folder l (upT x.path) = true
 hard : x.k = 6 → thing l x.target = true
 fld : x.k ≠ 6 → fld x = 0
structure OkS (l : List En) : Prop where
 once : (pths l).Nodup
 each : ∀ x ∈ l, OkE l x
theorem ent_ok {l : List En} {i : Nat} {x : En} : ent11 l i x = 0 ↔ OkE l x ∧ ∀ y ∈ l.take i, y.path ≠ x.path := by
 unfold ent11
 constructor
 ·intro h
  split at h
  ·cases h
  ·rename_i h1
   split at h
   ·rename_i h2; exact absurd h h2
   ·rename_i h2
    split at h
    ·cases h
    ·rename_i h3
     split at h
     ·cases h
     ·rename_i h4
      have h2' : pth x = 0 := by simpa using h2
      have h3' : ∀ y ∈ l.take i, y.path ≠ x.path := by
       intro y hy e
       exact h3 (List.any_eq_true.2 ⟨y, hy, decide_eq_true e⟩)
      have h5 : (decide (upT x.path = []) || folder l (upT x.path)) = true := by
       cases hc : (decide (upT x.path = []) || folder l (upT x.path)) with
       | true => rfl
       | false => rw [hc] at h4; simp at h4
      have h6 : x.k = 6 → thing l x.target = true := by
       intro e
       cases hc : thing l x.target with
       | true => rfl
       | false => rw [hc, e] at h4; simp at h4
      refine ⟨⟨by simpa using h1, h2', ?_, h6, ?_⟩, h3'⟩
      ·rw [Bool.or_eq_true, decide_eq_true_iff] at h5; exact h5
      ·intro e
       rw [if_neg e] at h
       exact h
 ·rintro ⟨⟨k1, k2, k3, k4, k5⟩, k6⟩
  rw [if_neg (by rw [k1]; simp), if_neg (by rw [k2]; simp), if_neg, if_neg]
  ·by_cases e : x.k = 6
   ·rw [if_pos e]
   ·rw [if_neg e]; exact k5 e
  ·intro h
   rw [Bool.or_eq_true] at h
   rcases h with h | h
   ·rcases k3 with k | k
    ·rw [k] at h; simp at h
    ·rw [k] at h; simp at h
   ·rw [Bool.and_eq_true] at h
    have := k4 (of_decide_eq_true h.1)
    rw [this] at h
    simp at h
  ·intro h
   obtain ⟨y, hy, e⟩ := List.any_eq_true.1 h
   exact k6 y hy (of_decide_eq_true e)
theorem fault_ok {l r : List En} {i : Nat} : (fault l r i).2 = 0 ↔ ∀ (j : Nat) (x : En), r[j]? = some x → ent11 l (i + j) x = 0 := by
 induction r generalizing i with
 | nil => simp [fault]
 | cons x r ih =>
  unfold fault
  constructor
  ·intro h
   split at h
   ·rename_i h1; exact absurd h h1
   ·rename_i h1
    intro j y hj
    cases j with
    | zero =>
     obtain rfl : x = y := by simpa using hj
     simpa using h1
    | succ j =>
     have := ih.1 h j y (by simpa using hj)
     rwa [Nat.add_assoc, Nat.add_comm 1 j] at this
  ·intro h
   have h0 := h 0 x rfl
   rw [Nat.add_zero] at h0
   rw [if_neg (by rw [h0]; simp)]
   exact ih.2 fun j y hj => by
    have := h (j + 1) y (by simpa using hj)
    rwa [Nat.add_assoc, Nat.add_comm 1 j]
theorem take_mem {l : List En} {i : Nat} {y : En} : y ∈ l.take i ↔ ∃ j, j < i ∧ l[j]? = some y := by
 rw [List.mem_iff_getElem?]
 constructor
 ·rintro ⟨j, h⟩
  rw [List.getElem?_take] at h
  split at h
  ·exact ⟨j, by assumption, h⟩
  ·cases h
 ·rintro ⟨j, h1, h2⟩
  exact ⟨j, by rw [List.getElem?_take, if_pos h1]; exact h2⟩
theorem once_iff {l : List En} : (pths l).Nodup ↔ ∀ (i j : Nat) (x y : En), i < j → l[i]? = some x → l[j]? = some y → x.path ≠ y.path := by
 unfold pths List.Nodup
 rw [List.pairwise_map, List.pairwise_iff_getElem]
 constructor
 ·intro h i j x y hij hx hy
  obtain ⟨hi, rfl⟩ := List.getElem?_eq_some_iff.1 hx
  obtain ⟨hj, rfl⟩ := List.getElem?_eq_some_iff.1 hy
  exact h i j hi hj hij
 ·intro h i j hi hj hij
  exact h i j _ _ hij (List.getElem?_eq_getElem hi) (List.getElem?_eq_getElem hj)
theorem chk_ok {l : List En} : (chk11 l).2 = 0 ↔ l.length ≤ 16384 ∧ sums l ≤ 8388608 ∧ OkS l := by
 unfold chk11
 by_cases h1 : 16384 < l.length
 ·rw [if_pos h1]
  constructor
  ·intro h; cases h
  ·rintro ⟨h, -⟩; omega
 ·rw [if_neg h1]
  by_cases h2 : 8388608 < sums l
  ·rw [if_pos h2]
   constructor
   ·intro h; cases h
   ·rintro ⟨-, h, -⟩; omega
  ·rw [if_neg h2, fault_ok]
   constructor
   ·intro h
    refine ⟨by omega, by omega, once_iff.2 fun i j x y hij hx hy => ?_, fun x hx => ?_⟩
    ·have := (ent_ok.1 (h j y hy)).2
     rw [Nat.zero_add] at this
     exact this x (take_mem.2 ⟨i, hij, hx⟩)
    ·obtain ⟨i, hi⟩ := List.mem_iff_getElem?.1 hx
     exact (ent_ok.1 (h i x hi)).1
   ·rintro ⟨-, -, h⟩ j x hx
    rw [Nat.zero_add]
    refine ent_ok.2 ⟨h.each x (List.mem_of_getElem? hx), fun y hy => ?_⟩
    obtain ⟨i, hi, e⟩ := take_mem.1 hy
    exact once_iff.1 h.once i j y x hi e hx
theorem OkE.rgt {l : List En} {x : En} (h : OkE l x) (hn : x.path ≠ []) : rgtP x.path := by
 have := h.path
 unfold pth at this
 rw [if_neg hn] at this
 split at this
 ·cases this
 ·split at this
  ·cases this
  ·split at this
   ·cases this
   ·rename_i h3
    unfold rgtP
    exact Classical.byContradiction fun e => h3 (Or.inr e)
theorem pths_getD {l : List En} {i : Nat} {x : En} (h : l[i]? = some x) : (pths l).getD i [] = x.path := by
 unfold pths
 rw [List.getD_eq_getElem?_getD, List.getElem?_map, h]
 rfl
theorem OkS.rt {l : List En} (h : OkS l) : Rt (pths l) := by
 refine ⟨fun p hp hn => ?_, fun i j hi hj e => ?_⟩
 ·obtain ⟨x, hx, rfl⟩ := List.mem_map.1 hp
  exact (h.each x hx).rgt hn
 ·have hl : (pths l).length = l.length := by unfold pths; rw [List.length_map]
  have ei := List.getElem?_eq_getElem (l := l) (i := i) (by omega)
  have ej := List.getElem?_eq_getElem (l := l) (i := j) (by omega)
  rw [pths_getD ei, pths_getD ej] at e
  rcases Nat.lt_trichotomy i j with h1 | h1 | h1
  ·exact absurd e (once_iff.1 h.once i j _ _ h1 ei ej)
  ·exact h1
  ·exact absurd e.symm (once_iff.1 h.once j i _ _ h1 ej ei)
theorem look_mem {l : List En} {x : En} (h : (pths l).Nodup) (hx : x ∈ l) : look l x.path = x := by
 unfold look
 cases hf : l.find? (fun y => decide (y.path = x.path)) with
 | none => exact absurd (List.find?_eq_none.1 hf x hx) (by simp)
 | some y =>
  show y = x
  have h1 : y.path = x.path := by have h0 := List.find?_some hf; simpa using h0
  obtain ⟨i, hi⟩ := List.mem_iff_getElem?.1 (List.mem_of_find?_eq_some hf)
  obtain ⟨j, hj⟩ := List.mem_iff_getElem?.1 hx
  rcases Nat.lt_trichotomy i j with h2 | h2 | h2
  ·exact absurd h1 (once_iff.1 h i j _ _ h2 hi hj)
  ·subst h2; rw [hi] at hj; injection hj
  ·exact absurd h1.symm (once_iff.1 h j i _ _ h2 hj hi)
theorem look_none {l : List En} {p : Tx} (h : p ∉ pths l) : look l p = rootE := by
 unfold look
 cases hf : l.find? (fun y => decide (y.path = p)) with
 | none => rfl
 | some y =>
  exfalso
  exact h (List.mem_map.2 ⟨y, List.mem_of_find?_eq_some hf, by have h0 := List.find?_some hf; simpa using h0⟩)
theorem OkS.mem {l m : List En} (h : OkS l) (ho : (pths m).Nodup) (hm : ∀ x, x ∈ m ↔ x ∈ l) : OkS m := by
 have hany : ∀ f : En → Bool, m.any f = l.any f := by
  intro f
  apply Bool.eq_iff_iff.2
  rw [List.any_eq_true, List.any_eq_true]
  constructor
  ·rintro ⟨x, hx, e⟩; exact ⟨x, (hm x).1 hx, e⟩
  ·rintro ⟨x, hx, e⟩; exact ⟨x, (hm x).2 hx, e⟩
 refine ⟨ho, fun x hx => ?_⟩
 obtain ⟨k1, k2, k3, k4, k5⟩ := h.each x ((hm x).1 hx)
 unfold folder at k3
 unfold thing at k4
 exact ⟨k1, k2, by unfold folder; rw [hany]; exact k3, by unfold thing; rw [hany]; exact k4, k5⟩
theorem thing_mem {l : List En} {p : Tx} (h : thing l p = true) : ∃ y ∈ l, y.path = p ∧ y.k ≠ 2 ∧ y.k ≠ 6 := by
 unfold thing at h
 obtain ⟨y, hy, e⟩ := List.any_eq_true.1 h
 rw [Bool.and_eq_true, Bool.and_eq_true, decide_eq_true_iff, decide_eq_true_iff] at e
 refine ⟨y, hy, e.1.1, e.2, fun h6 => ?_⟩
 have := e.1.2
 rw [h6] at this
 exact absurd this (by decide)
def swp (a h : Tx) (x : En) : En := if x.path = a then { x with path := h } else if x.path = h then { x with path := a } else x
def ret (a h : Tx) (x : En) : En := if x.k = 6 ∧ x.target = a then { x with target := h } else x
def ren11 (a h : Tx) (x : En) : En := ret a h (swp a h x)
def swT (a h p : Tx) : Tx := if p = a then h else if p = h then a else p
theorem ren_path (a h : Tx) (x : En) : (ren11 a h x).path = swT a h x.path := by
 unfold ren11 ret swp swT
 split <;> split <;> first | rfl | (split <;> rfl)
theorem ren_k (a h : Tx) (x : En) : (ren11 a h x).k = x.k := by
 unfold ren11 ret swp
 split <;> split <;> first | rfl | (split <;> rfl)
theorem ren_target (a h : Tx) (x : En) : (ren11 a h x).target = if x.k = 6 ∧ x.target = a then h else x.target := by
 unfold ren11 ret
 have e1 : (swp a h x).k = x.k := by unfold swp; split; rfl; split <;> rfl
 have e2 : (swp a h x).target = x.target := by unfold swp; split; rfl; split <;> rfl
 rw [e1, e2]
 split
 ·rfl
 ·exact e2
theorem swT_swT {a h p : Tx} : swT a h (swT a h p) = p := by
 unfold swT
 by_cases h1 : p = a
 ·subst h1
  rw [if_pos rfl]
  by_cases h2 : h = p
  ·rw [if_pos h2, h2]
  ·rw [if_neg h2, if_pos rfl]
 ·rw [if_neg h1]
  by_cases h2 : p = h
  ·rw [if_pos h2, if_pos rfl, h2]
  ·rw [if_neg h2, if_neg h1, if_neg h2]
theorem swT_inj {a h p q : Tx} (e : swT a h p = swT a h q) : p = q := by rw [← swT_swT (a := a) (h := h) (p := p), e, swT_swT]
structure Two (l : List En) (A H : En) : Prop where
 a : A ∈ l
 h : H ∈ l
 ka : A.k ≠ 2 ∧ A.k ≠ 6
 kh : H.k = 6
 t : H.target = A.path
theorem Two.ne {l : List En} {A H : En} (h : Two l A H) (ok : OkS l) : A.path ≠ H.path := by
 intro e
 have e1 := look_mem ok.once h.a
 have e2 := look_mem ok.once h.h
 rw [e] at e1
 rw [e1] at e2
 exact h.ka.2 (by rw [e2]; exact h.kh)
theorem Two.full {l : List En} {A H : En} (h : Two l A H) (ok : OkS l) : A.path ≠ [] ∧ H.path ≠ [] := by
 constructor
 ·intro e
  have := (ok.each A h.a).path
  unfold pth at this
  rw [if_pos e, if_neg h.ka.1] at this
  cases this
 ·intro e
  have := (ok.each H h.h).path
  unfold pth at this
  rw [if_pos e, if_neg (by rw [h.kh]; decide)] at this
  cases this
theorem pths_ren (a h : Tx) (l : List En) : pths (l.map (ren11 a h)) = (pths l).map (swT a h) := by
 unfold pths
 rw [List.map_map, List.map_map]
 exact List.map_congr_left fun x _ => ren_path a h x
theorem Two.once {l : List En} {A H : En} (_ : Two l A H) (ok : OkS l) : (pths (l.map (ren11 A.path H.path))).Nodup := by
 rw [pths_ren]
 unfold List.Nodup
 rw [List.pairwise_map]
 exact ok.once.imp fun hn e => hn (swT_inj e)
theorem Two.mem {l : List En} {A H : En} (h : Two l A H) (p : Tx) : p ∈ pths l ↔ p ∈ pths (l.map (ren11 A.path H.path)) := by
 rw [pths_ren]
 have ha : A.path ∈ pths l := List.mem_map.2 ⟨A, h.a, rfl⟩
 have hh : H.path ∈ pths l := List.mem_map.2 ⟨H, h.h, rfl⟩
 have key : ∀ q, q ∈ pths l → swT A.path H.path q ∈ pths l := by
  intro q hq
  unfold swT
  split
  ·exact hh
  ·split
   ·exact ha
   ·exact hq
 constructor
 ·intro hp
  exact List.mem_map.2 ⟨swT A.path H.path p, key p hp, swT_swT⟩
 ·intro hp
  obtain ⟨q, hq, rfl⟩ := List.mem_map.1 hp
  exact key q hq
theorem swT_other {a h p : Tx} (h1 : p ≠ a) (h2 : p ≠ h) : swT a h p = p := by unfold swT; rw [if_neg h1, if_neg h2]
theorem Two.path2 {l : List En} {A H : En} (h : Two l A H) (ok : OkS l) {x : En} (hx : x ∈ l) (hk : x.k = 2) : x.path ≠ A.path ∧ x.path ≠ H.path := by
 constructor
 ·intro e
  have e1 := look_mem ok.once h.a
  have e2 := look_mem ok.once hx
  rw [e, e1] at e2
  exact h.ka.1 (by rw [e2]; exact hk)
 ·intro e
  have e1 := look_mem ok.once h.h
  have e2 := look_mem ok.once hx
  rw [e, e1] at e2
  have := h.kh
  rw [e2, hk] at this
  cases this
theorem pth_path {x y : En} (hp : x.path = y.path) (hk : x.k = y.k) : pth x = pth y := by unfold pth; rw [hp, hk]
theorem pth_full {x y : En} (hn : x.path ≠ []) (hp : x.path = y.path) : pth x = pth y := by
 unfold pth
 rw [hp] at hn ⊢
 rw [if_neg hn, if_neg hn]
theorem Two.ok {l : List En} {A H : En} (h : Two l A H) (ok : OkS l) : OkS (l.map (ren11 A.path H.path)) := by
 have hne := h.ne ok
 have hfull := h.full ok
 have hfol : ∀ p, folder l p = true → folder (l.map (ren11 A.path H.path)) p = true := by
  intro p hp
  unfold folder at hp ⊢
  obtain ⟨x, hx, e⟩ := List.any_eq_true.1 hp
  rw [Bool.and_eq_true, decide_eq_true_iff, decide_eq_true_iff] at e
  obtain ⟨n1, n2⟩ := h.path2 ok hx e.2
  refine List.any_eq_true.2 ⟨ren11 A.path H.path x, List.mem_map.2 ⟨x, hx, rfl⟩, ?_⟩
  rw [ren_path, ren_k, swT_other n1 n2, Bool.and_eq_true, decide_eq_true_iff, decide_eq_true_iff]
  exact e
 -- what stands at a path in the old list, under its new path
 have hth : ∀ y ∈ l, y.k ≠ 2 → y.k ≠ 6 → thing (l.map (ren11 A.path H.path)) (swT A.path H.path y.path) = true := by
  intro y hy h2 h6
  unfold thing
  refine List.any_eq_true.2 ⟨ren11 A.path H.path y, List.mem_map.2 ⟨y, hy, rfl⟩, ?_⟩
  have hk := (ok.each y hy).kind
  unfold inI at hk ⊢
  rw [Bool.and_eq_true, decide_eq_true_iff, decide_eq_true_iff] at hk
  rw [ren_path, ren_k, Bool.and_eq_true, Bool.and_eq_true, Bool.and_eq_true, decide_eq_true_iff, decide_eq_true_iff, decide_eq_true_iff, decide_eq_true_iff]
  exact ⟨⟨rfl, hk.1, by omega⟩, h2⟩
 refine ⟨h.once ok, fun y hy => ?_⟩
 obtain ⟨x, hx, rfl⟩ := List.mem_map.1 hy
 obtain ⟨k1, k2, k3, k4, k5⟩ := ok.each x hx
 -- the entry that stood at the new path
 have hin : swT A.path H.path x.path ∈ pths l := by
  have := (h.mem (ren11 A.path H.path x).path).2 (List.mem_map.2 ⟨_, hy, rfl⟩)
  rwa [ren_path] at this
 obtain ⟨z, hz, ez⟩ := List.mem_map.1 hin
 obtain ⟨z1, z2, z3, z4, z5⟩ := ok.each z hz
 refine ⟨by rw [ren_k]; exact k1, ?_, ?_, ?_, ?_⟩
 ·by_cases hm : x.path = A.path ∨ x.path = H.path
  ·have hzn : z.path ≠ [] := by
    rw [ez]
    rcases hm with e | e
    ·rw [e]; unfold swT; rw [if_pos rfl]; exact hfull.2
    ·rw [e]; unfold swT; rw [if_neg (Ne.symm hne), if_pos rfl]; exact hfull.1
   rw [← pth_full hzn (by rw [ren_path]; exact ez)]
   exact z2
  ·have e : swT A.path H.path x.path = x.path := swT_other (fun e => hm (Or.inl e)) (fun e => hm (Or.inr e))
   rw [pth_path (y := x) (by rw [ren_path, e]) (ren_k _ _ _)]
   exact k2
 ·rw [ren_path]
  rw [← ez]
  rcases z3 with z3 | z3
  ·exact Or.inl z3
  ·exact Or.inr (hfol _ z3)
 ·intro h6
  rw [ren_k] at h6
  obtain ⟨y, hy2, e1, e2, e3⟩ := thing_mem (k4 h6)
  rw [ren_target]
  by_cases ht : x.target = A.path
  ·rw [if_pos ⟨h6, ht⟩]
   have := hth A h.a h.ka.1 h.ka.2
   unfold swT at this
   rwa [if_pos rfl] at this
  ·rw [if_neg (fun x => ht x.2)]
   have hnh : x.target ≠ H.path := by
    intro e
    rw [e] at e1
    have q1 := look_mem ok.once h.h
    have q2 := look_mem ok.once hy2
    rw [e1, q1] at q2
    exact e3 (by rw [← q2]; exact h.kh)
   have := hth y hy2 e2 e3
   rw [e1, swT_other ht hnh] at this
   exact this
 ·intro h6
  rw [ren_k] at h6
  have e : fld (ren11 A.path H.path x) = fld x := by
   unfold ren11 ret
   have e1 : (swp A.path H.path x).k = x.k := by unfold swp; split; rfl; split <;> rfl
   rw [if_neg (by rw [e1]; exact fun q => h6 q.1)]
   unfold swp
   split
   ·rfl
   ·split <;> rfl
  rw [e]
  exact k5 h6
theorem sorted_eqG {α : Type} {R : α → α → Prop} (irr : ∀ a, ¬ R a a) (tr : ∀ a b c, R a b → R b c → R a c) {a b : List α} (ha : a.Pairwise R) (hb : b.Pairwise R) (h : ∀ p, p ∈ a ↔ p ∈ b) : a = b := by
 induction a generalizing b with
 | nil =>
  cases b with
  | nil => rfl
  | cons q b => exact absurd ((h q).2 (by simp)) (by simp)
 | cons p a ih =>
  cases b with
  | nil => exact absurd ((h p).1 (by simp)) (by simp)
  | cons q b =>
   rw [List.pairwise_cons] at ha hb
   have e : p = q := by
    rcases List.mem_cons.1 ((h p).1 (by simp)) with e | e
    ·exact e
    ·rcases List.mem_cons.1 ((h q).2 (by simp)) with e2 | e2
     ·exact e2.symm
     ·exact absurd (tr _ _ _ (ha.1 q e2) (hb.1 p e)) (irr p)
   subst e
   rw [ih ha.2 hb.2 fun x => ?_]
   constructor
   ·intro hx
    rcases List.mem_cons.1 ((h x).1 (by simp [hx])) with e | e
    ·subst e; exact absurd (ha.1 x hx) (irr x)
    ·exact e
   ·intro hx
    rcases List.mem_cons.1 ((h x).2 (by simp [hx])) with e | e
    ·subst e; exact absurd (hb.1 x hx) (irr x)
    ·exact e
def alt (a b : Atr) : Prop := ctx a.n b.n = -1
theorem alt_irr (a : Atr) : ¬ alt a a := by unfold alt; rw [ctx_self]; simp
theorem alt_tr (a b c : Atr) (h : alt a b) (k : alt b c) : alt a c := ctx_trans h k
theorem ctx_neg {a b : Tx} : ctx a b < 0 ↔ ctx a b = -1 := by rcases ctx_val a b with e | e | e <;> rw [e] <;> decide
def Dn (l : List Atr) : Prop := ∀ (i j : Nat) (a b : Atr), l[i]? = some a → l[j]? = some b → a.n = b.n → i = j
theorem alt_total {a b : Atr} (h : a.n ≠ b.n) : alt a b ∨ alt b a := by
 unfold alt
 rcases ctx_val a.n b.n with e | e | e
 ·exact Or.inl e
 ·exact absurd (ctx_eq e) h
 ·right; rw [ctx_flip, e]
theorem twice_dn {l : List Atr} : twice l l.length = false ↔ Dn l := by
 unfold twice Dn
 rw [List.any_eq_false]
 constructor
 ·intro h i j a b ha hb e
  have hi := (List.getElem?_eq_some_iff.1 ha).1
  have hj := (List.getElem?_eq_some_iff.1 hb).1
  rcases Nat.lt_trichotomy i j with h1 | h1 | h1
  ·exfalso
   apply h j (List.mem_range.2 hj)
   rw [List.any_eq_true]
   exact ⟨i, List.mem_range.2 h1, by rw [ha, hb]; simp [e]⟩
  ·exact h1
  ·exfalso
   apply h i (List.mem_range.2 hi)
   rw [List.any_eq_true]
   exact ⟨j, List.mem_range.2 h1, by rw [ha, hb]; simp [e]⟩
 ·intro h j hj hc
  rw [List.any_eq_true] at hc
  obtain ⟨k, hk, e⟩ := hc
  have hj' := List.mem_range.1 hj
  have hk' := List.mem_range.1 hk
  have ea := List.getElem?_eq_getElem (l := l) (i := k) (by omega)
  have eb := List.getElem?_eq_getElem (l := l) (i := j) hj'
  rw [ea, eb] at e
  have := h k j _ _ ea eb (by simpa using e)
  omega
theorem nameD {l : List Atr} {k : Nat} {a : Atr} (h : l[k]? = some a) : ((l[k]?).map Atr.n).getD [] = a.n := by rw [h]; rfl
def inN (out : List Atr) (a : Atr) : Prop := ∃ b ∈ out, b.n = a.n
theorem abst_in {l out : List Atr} {k : Nat} {a : Atr} (h : l[k]? = some a) : (out.any (fun b => decide (b.n = ((l[k]?).map Atr.n).getD [])) = true) ↔ inN out a := by
 rw [nameD h, List.any_eq_true]
 unfold inN
 constructor
 ·rintro ⟨b, hb, e⟩; exact ⟨b, hb, of_decide_eq_true e⟩
 ·rintro ⟨b, hb, e⟩; exact ⟨b, hb, decide_eq_true e⟩
theorem abst_none {l out : List Atr} {k : Nat} (hk : k ≤ l.length) (h : abst l out k = none) : ∀ (i : Nat) (a : Atr), i < k → l[i]? = some a → inN out a := by
 induction k with
 | zero => intro i a hi; omega
 | succ k ih =>
  have ek := List.getElem?_eq_getElem (l := l) (i := k) (by omega)
  unfold abst at h
  split at h
  ·rename_i hc
   intro i a hi ha
   rcases Nat.lt_or_ge i k with h1 | h1
   ·exact ih (by omega) h i a h1 ha
   ·obtain rfl : i = k := by omega
    exact (abst_in ha).1 hc
  ·split at h
   ·cases h
   ·split at h <;> cases h
theorem abst_some {l out : List Atr} {k b : Nat} (D : Dn l) (hk : k ≤ l.length) (h : abst l out k = some b) : ∃ x, b < k ∧ l[b]? = some x ∧ ¬ inN out x ∧ ∀ (i : Nat) (a : Atr), i < k → l[i]? = some a → ¬ inN out a → i = b ∨ alt x a := by
 induction k generalizing b with
 | zero => simp [abst] at h
 | succ k ih =>
  have ek := List.getElem?_eq_getElem (l := l) (i := k) (by omega)
  unfold abst at h
  split at h
  ·rename_i hc
   obtain ⟨x, h1, h2, h3, h4⟩ := ih (by omega) h
   refine ⟨x, by omega, h2, h3, fun i a hi ha hn => ?_⟩
   rcases Nat.lt_or_ge i k with h5 | h5
   ·exact h4 i a h5 ha hn
   ·obtain rfl : i = k := by omega
    exact absurd ((abst_in ha).1 hc) hn
  ·rename_i hc
   have hkn : ¬ inN out l[k] := fun x => hc ((abst_in ek).2 x)
   cases hm : abst l out k with
   | none =>
    rw [hm] at h
    injection h with h
    subst h
    refine ⟨_, by omega, ek, hkn, fun i a hi ha hn => ?_⟩
    rcases Nat.lt_or_ge i k with h5 | h5
    ·exact absurd (abst_none (by omega) hm i a h5 ha) hn
    ·exact Or.inl (by omega)
   | some b' =>
    rw [hm] at h
    obtain ⟨x, h1, h2, h3, h4⟩ := ih (by omega) hm
    simp only at h
    rw [nameD ek, nameD h2] at h
    split at h
    ·rename_i hlt
     injection h with h
     subst h
     have hlt' : alt l[k] x := ctx_neg.1 hlt
     refine ⟨_, by omega, ek, hkn, fun i a hi ha hn => ?_⟩
     rcases Nat.lt_or_ge i k with h5 | h5
     ·rcases h4 i a h5 ha hn with rfl | h6
      ·rw [h2] at ha; injection ha with ha; subst ha; exact Or.inr hlt'
      ·exact Or.inr (alt_tr _ _ _ hlt' h6)
     ·exact Or.inl (by omega)
    ·rename_i hlt
     injection h with h
     subst h
     refine ⟨x, by omega, h2, h3, fun i a hi ha hn => ?_⟩
     rcases Nat.lt_or_ge i k with h5 | h5
     ·exact h4 i a h5 ha hn
     ·obtain rfl : i = k := by omega
      rw [ek] at ha
      injection ha with ha
      subst ha
      right
      have hne : x.n ≠ l[i].n := fun e => by have := D _ _ _ _ h2 ek e; omega
      rcases alt_total hne with h6 | h6
      ·exact h6
      ·exact absurd (ctx_neg.2 h6) hlt
structure AccA (l out : List Atr) : Prop where
 mem : ∀ a ∈ out, a ∈ l
 sorted : out.Pairwise alt
 ahead : ∀ a ∈ out, ∀ b ∈ l, ¬ inN out b → alt a b
def leftA (l out : List Atr) : Nat := (l.filter fun a => !(out.any fun b => decide (b.n = a.n))).length
theorem inN_any {out : List Atr} {a : Atr} : (out.any fun b => decide (b.n = a.n)) = true ↔ inN out a := by
 rw [List.any_eq_true]
 unfold inN
 constructor
 ·rintro ⟨b, hb, e⟩; exact ⟨b, hb, of_decide_eq_true e⟩
 ·rintro ⟨b, hb, e⟩; exact ⟨b, hb, decide_eq_true e⟩
theorem leftA_next {l out : List Atr} {x : Atr} (hx : x ∈ l) (hn : ¬ inN out x) : leftA l (out ++ [x]) < leftA l out := by
 unfold leftA
 have e : (l.filter fun a => !((out ++ [x]).any fun b => decide (b.n = a.n))) = (l.filter fun a => !(out.any fun b => decide (b.n = a.n))).filter fun a => !decide (x.n = a.n) := by
  rw [List.filter_filter]
  apply List.filter_congr
  intro a _
  rw [List.any_append]
  simp only [List.any_cons, List.any_nil, Bool.or_false]
  cases (out.any fun b => decide (b.n = a.n)) <;> simp
 rw [e]
 apply List.length_filter_lt_length_iff_exists.2
 refine ⟨x, ?_, by simp⟩
 rw [List.mem_filter]
 refine ⟨hx, ?_⟩
 cases h : (out.any fun b => decide (b.n = x.n)) with
 | false => rfl
 | true => exact absurd (inN_any.1 h) hn
theorem srtA_acc {l : List Atr} (D : Dn l) (n : Nat) (out : List Atr) (h : AccA l out) (hn : leftA l out ≤ n) : AccA l (srtA l n out) ∧ ∀ a ∈ l, inN (srtA l n out) a := by
 induction n generalizing out with
 | zero =>
  refine ⟨h, fun a ha => ?_⟩
  show inN out a
  apply Classical.byContradiction
  intro hc
  have : a ∈ l.filter fun a => !(out.any fun b => decide (b.n = a.n)) := by
   rw [List.mem_filter]
   refine ⟨ha, ?_⟩
   cases h : (out.any fun b => decide (b.n = a.n)) with
   | false => rfl
   | true => exact absurd (inN_any.1 h) hc
  have h2 := List.length_pos_of_mem this
  unfold leftA at hn
  omega
 | succ n ih =>
  unfold srtA
  cases hm : abst l out l.length with
  | none =>
   refine ⟨h, fun a ha => ?_⟩
   obtain ⟨i, hi⟩ := List.mem_iff_getElem?.1 ha
   exact abst_none (Nat.le_refl _) hm i a (List.getElem?_eq_some_iff.1 hi).1 hi
  | some b =>
   obtain ⟨x, h1, h2, h3, h4⟩ := abst_some D (Nat.le_refl _) hm
   simp only [h2, Option.toList]
   have hx := List.mem_of_getElem? h2
   refine ih (out ++ [x]) ⟨fun a ha => ?_, ?_, fun a ha b' hb hn' => ?_⟩ (by have := leftA_next hx h3; omega)
   ·rcases List.mem_append.1 ha with k | k
    ·exact h.mem a k
    ·rw [List.mem_singleton.1 k]; exact hx
   ·rw [List.pairwise_append]
    refine ⟨h.sorted, List.pairwise_singleton _ _, fun a ha c hc => ?_⟩
    rw [List.mem_singleton.1 hc]
    exact h.ahead a ha x hx h3
   ·have n1 : ¬ inN out b' := fun ⟨c, hc, e⟩ => hn' ⟨c, by simp [hc], e⟩
    rcases List.mem_append.1 ha with k | k
    ·exact h.ahead a k b' hb n1
    ·rw [List.mem_singleton.1 k]
     obtain ⟨i, hi⟩ := List.mem_iff_getElem?.1 hb
     rcases h4 i b' (List.getElem?_eq_some_iff.1 hi).1 hi n1 with k2 | k2
     ·subst k2
      rw [h2] at hi
      injection hi with hi
      exact absurd ⟨x, by simp, by rw [hi]⟩ hn'
     ·exact k2
theorem leftA_le (l out : List Atr) : leftA l out ≤ l.length := List.length_filter_le _ _
def srt (l : List Atr) : List Atr := srtA l l.length []
theorem srt_facts {l : List Atr} (D : Dn l) : (srt l).Pairwise alt ∧ ∀ a, a ∈ srt l ↔ a ∈ l := by
 obtain ⟨h1, h2⟩ := srtA_acc D l.length [] ⟨fun a h => (by cases h), List.Pairwise.nil, fun a h => (by cases h)⟩ (leftA_le l [])
 refine ⟨h1.sorted, fun a => ⟨h1.mem a, fun ha => ?_⟩⟩
 obtain ⟨b, hb, e⟩ := h2 a ha
 obtain ⟨i, hi⟩ := List.mem_iff_getElem?.1 ha
 obtain ⟨j, hj⟩ := List.mem_iff_getElem?.1 (h1.mem b hb)
 have := D j i b a hj hi e
 subst this
 rw [hj] at hi
 injection hi with hi
 rw [← hi]
 exact hb
theorem sorted_dn {l : List Atr} (h : l.Pairwise alt) : Dn l := by
 intro i j a b ha hb e
 rw [List.pairwise_iff_getElem] at h
 obtain ⟨hi, rfl⟩ := List.getElem?_eq_some_iff.1 ha
 obtain ⟨hj, rfl⟩ := List.getElem?_eq_some_iff.1 hb
 rcases Nat.lt_trichotomy i j with h1 | h1 | h1
 ·have := h i j hi hj h1
  unfold alt at this
  rw [e, ctx_self] at this
  cases this
 ·exact h1
 ·have := h j i hj hi h1
  unfold alt at this
  rw [e, ctx_self] at this
  cases this
theorem srt_srt {l : List Atr} (D : Dn l) : srt (srt l) = srt l := by
 obtain ⟨h1, h2⟩ := srt_facts D
 obtain ⟨h3, h4⟩ := srt_facts (sorted_dn h1)
 exact sorted_eqG alt_irr alt_tr h3 h1 h4
theorem srtA_len (l : List Atr) (n : Nat) (out : List Atr) : (srtA l n out).length ≤ out.length + n := by
 induction n generalizing out with
 | zero => exact Nat.le_refl _
 | succ n ih =>
  unfold srtA
  split
  ·omega
  ·rename_i b _
   refine Nat.le_trans (ih _) ?_
   rw [List.length_append]
   cases l[b]? with
   | none => simp
   | some x => simp; omega
theorem srt_len (l : List Atr) : (srt l).length ≤ l.length := by have := srtA_len l l.length []; unfold srt; simpa using this
theorem strip_len (l : List Int) : (strip l).length ≤ l.length := by
 unfold strip
 rw [List.length_reverse]
 exact Nat.le_trans (List.Sublist.length_le (List.dropWhile_sublist _)) (by simp)
theorem strip_strip (l : List Int) : strip (strip l) = strip l := by
 unfold strip
 rw [List.reverse_reverse]
 congr 1
 generalize l.reverse = r
 induction r with
 | nil => rfl
 | cons a r ih =>
  rw [List.dropWhile_cons]
  split
  ·exact ih
  ·rename_i h
   rw [List.dropWhile_cons, if_neg h]
def enOf (p : Tx) (n : No) : En := ⟨p, n.k, n.mode, n.uid, n.gid, n.time, n.size, n.data, n.target, n.dev, n.attrs⟩
theorem fld_dn {x : En} (h : fld x = 0) : Dn x.attrs ∧ x.attrs.length ≤ 64 := by
 unfold fld at h
 split at h
 ·cases h
 ·split at h
  ·cases h
  ·rename_i h2
   split at h
   ·cases h
   ·split at h
    ·cases h
    ·rename_i h4
     refine ⟨twice_dn.1 (by simpa using h4), ?_⟩
     simp only [Bool.or_eq_true, not_or, decide_eq_true_eq, Nat.not_lt] at h2
     exact h2.2
theorem nd_en {x : En} (h : fld x = 0) (p : Tx) : ndOf (enOf p (ndOf x)) = ndOf x := by
 have D := (fld_dn h).1
 have e : srtA (ndOf x).attrs (ndOf x).attrs.length [] = (ndOf x).attrs := srt_srt D
 have e1 : (ndOf x).size = if x.k = 1 then x.size else 0 := rfl
 unfold enOf ndOf at *
 simp only at e ⊢
 rw [e]
 by_cases h1 : x.k = 1
 ·simp [h1, strip_strip]
 ·by_cases h3 : x.k = 3
  ·simp [h3]
  ·by_cases h4 : x.k = 4 ∨ x.k = 5
   ·simp [h1, h3, h4]
   ·simp [h1, h3, h4]
theorem fld_en {x : En} (h : fld x = 0) (h5 : x.k ≤ 5) (p : Tx) : fld (enOf p (ndOf x)) = 0 := by
 obtain ⟨D, hl⟩ := fld_dn h
 obtain ⟨s1, s2⟩ := srt_facts D
 have s3 := srt_len x.attrs
 have ea : (ndOf x).attrs = srt x.attrs := rfl
 unfold fld at h ⊢
 split at h
 ·cases h
 ·rename_i h1
  rw [if_neg (show ¬ (!inI (enOf p (ndOf x)).mode 0 4095 || !inI (enOf p (ndOf x)).uid 0 4294967295 || !inI (enOf p (ndOf x)).gid 0 4294967295 || !inI (enOf p (ndOf x)).time 0 4294967295) = true from h1)]
  split at h
  ·cases h
  ·rename_i h2
   split at h
   ·cases h
   ·rename_i h3
    rw [if_neg, if_neg, if_neg]
    ·show ¬ twice (srt x.attrs) (srt x.attrs).length = true
     rw [twice_dn.2 (sorted_dn s1)]
     simp
    ·show ¬ (srt x.attrs).any _ = true
     intro hc
     obtain ⟨a, ha, e⟩ := List.any_eq_true.1 hc
     exact h3 (List.any_eq_true.2 ⟨a, (s2 a).1 ha, e⟩)
    ·intro hc
     apply h2
     simp only [Bool.or_eq_true, Bool.and_eq_true, decide_eq_true_eq, Bool.not_eq_true'] at hc ⊢
     rcases hc with ((hc | hc) | hc) | hc
     ·left; left; left
      have hk : x.k = 1 := hc.1
      refine ⟨hk, ?_⟩
      have hsz : (enOf p (ndOf x)).size = x.size := by show (if x.k = 1 then x.size else 0) = _; rw [if_pos hk]
      have hda : (enOf p (ndOf x)).data = strip x.data := by show (if x.k = 1 then strip x.data else []) = _; rw [if_pos hk]
      have hc2 := hc.2
      rw [hsz, hda] at hc2
      have := strip_len x.data
      unfold inI at hc2 ⊢
      rw [Bool.and_eq_false_iff, decide_eq_false_iff_not, decide_eq_false_iff_not] at hc2 ⊢
      omega
     ·left; left; right
      have hk : x.k = 3 := hc.1
      refine ⟨hk, ?_⟩
      have ht : (enOf p (ndOf x)).target = x.target := by show (if x.k = 3 then x.target else []) = _; rw [if_pos hk]
      have hc2 := hc.2
      rw [ht] at hc2
      exact hc2
     ·left; right
      have hk : 3 < x.k := hc.1
      refine ⟨hk, ?_⟩
      have ht : (enOf p (ndOf x)).dev = x.dev := by show (if x.k = 4 ∨ x.k = 5 then x.dev else 0) = _; rw [if_pos (by omega)]
      have hc2 := hc.2
      rw [ht] at hc2
      exact hc2
     ·right
      have : 64 < (srt x.attrs).length := hc
      omega
def hrd (p q : Tx) : En := ⟨p, 6, 0, 0, 0, 0, 0, [], q, 0, []⟩
def fstN (ts : List (Tp Tx)) (o : Tx) : Tx := ((ts.find? fun t => decide (t.o = o)).map Tp.p).getD []
def mkE (ts : List (Tp Tx)) (t : Tp Tx) : En := if fstN ts t.o = t.p then enOf t.p t.nd else hrd t.p (fstN ts t.o)
def mkL (root : No) (ts : List (Tp Tx)) : List En := enOf [] root :: ts.map (mkE ts)
theorem mkE_path (ts : List (Tp Tx)) (t : Tp Tx) : (mkE ts t).path = t.p := by unfold mkE; split <;> rfl
theorem fst_some {ts : List (Tp Tx)} {t : Tp Tx} (h : t ∈ ts) : ∃ u ∈ ts, u.o = t.o ∧ fstN ts t.o = u.p := by
 unfold fstN
 cases hf : ts.find? (fun u => decide (u.o = t.o)) with
 | none => exact absurd (List.find?_eq_none.1 hf t h) (by simp)
 | some u =>
  have h0 := List.find?_some hf
  exact ⟨u, List.mem_of_find?_eq_some hf, by simpa using h0, rfl⟩
def trs (l : List En) : List (Tp Tx) := (psL (pths l)).map (tpOf l)
def lstL (l : List En) : List En := mkL (ndOf (look l [])) (trs l)
theorem canon_trs (l : List En) : canon l = bld (ndOf (look l [])) (trs l) := rfl
structure Nm (l : List En) (t : Tp Tx) : Prop where
 x : ∃ x ∈ l, x.path = t.p ∧ t.o = opath x
 ne : t.p ≠ []
 y : ∃ y ∈ l, y.path = t.o ∧ y.k ≠ 6 ∧ t.nd = ndOf y ∧ t.dir = decide (y.k = 2)
 self : ∀ y ∈ l, y.path = t.o → y.k = 2 → t.p = t.o
theorem nm_of {l : List En} (ok : OkS l) {t : Tp Tx} (h : t ∈ trs l) : Nm l t := by
 obtain ⟨p, hp, rfl⟩ := List.mem_map.1 h
 obtain ⟨hm, hne⟩ := (psL_mem ok.rt p).1 hp
 obtain ⟨x, hx, rfl⟩ := List.mem_map.1 hm
 have ex := look_mem ok.once hx
 have eo : (tpOf l x.path).o = opath x := by unfold tpOf; rw [ex]
 have ey : ∃ y ∈ l, y.path = opath x ∧ y.k ≠ 6 ∧ (x.k = 6 → y.k ≠ 2) ∧ (x.k ≠ 6 → y = x) := by
  unfold opath
  by_cases h6 : x.k = 6
  ·rw [if_pos h6]
   obtain ⟨y, hy, q1, q2, q3⟩ := thing_mem ((ok.each x hx).hard h6)
   exact ⟨y, hy, q1, q3, fun _ => q2, fun e => absurd h6 e⟩
  ·rw [if_neg h6]
   exact ⟨x, hx, rfl, h6, fun e => absurd e h6, fun _ => rfl⟩
 obtain ⟨y, hy, q1, q2, q3, q4⟩ := ey
 have el : look l (opath x) = y := by rw [← q1]; exact look_mem ok.once hy
 refine ⟨⟨x, hx, rfl, eo⟩, hne, ⟨y, hy, by rw [eo]; exact q1, q2, ?_, ?_⟩, ?_⟩
 ·show ndOf (look l (opath (look l x.path))) = ndOf y
  rw [ex, el]
 ·show decide ((look l (opath (look l x.path))).k = 2) = decide (y.k = 2)
  rw [ex, el]
 ·intro z hz ez kz
  have e1 : z = y := by rw [← look_mem ok.once hz, ez, eo, el]
  subst e1
  by_cases h6 : x.k = 6
  ·exact absurd kz (q3 h6)
  ·have := q4 h6
   subst this
   rw [eo]
   unfold opath
   rw [if_neg h6]
   rfl
theorem trs_paths (l : List En) : (trs l).map Tp.p = psL (pths l) := by
 unfold trs
 rw [List.map_map]
 have : (Tp.p ∘ tpOf l) = id := by funext p; rfl
 rw [this, List.map_id]
theorem trs_inj {l : List En} {t u : Tp Tx} (ht : t ∈ trs l) (hu : u ∈ trs l) (e : t.p = u.p) : t = u := by
 obtain ⟨p, _, rfl⟩ := List.mem_map.1 ht
 obtain ⟨q, _, rfl⟩ := List.mem_map.1 hu
 have : p = q := e
 rw [this]
theorem nm_same {l : List En} (ok : OkS l) {t u : Tp Tx} (ht : Nm l t) (hu : Nm l u) (e : t.o = u.o) : t.nd = u.nd ∧ t.dir = u.dir := by
 obtain ⟨y, hy, a1, a2, a3, a4⟩ := ht.y
 obtain ⟨z, hz, b1, b2, b3, b4⟩ := hu.y
 have : y = z := by rw [← look_mem ok.once hy, ← look_mem ok.once hz, a1, b1, e]
 subst this
 exact ⟨by rw [a3, b3], by rw [a4, b4]⟩
theorem nm_dir {l : List En} (ok : OkS l) {t : Tp Tx} (h : t ∈ trs l) (hd : t.dir = true) : fstN (trs l) t.o = t.p := by
 obtain ⟨u, hu, e1, e2⟩ := fst_some h
 have nt := nm_of ok h
 have nu := nm_of ok hu
 obtain ⟨y, hy, a1, a2, a3, a4⟩ := nt.y
 have ky : y.k = 2 := by rw [a4] at hd; exact of_decide_eq_true hd
 have h1 := nt.self y hy a1 ky
 have h2 := nu.self y hy (by rw [e1]; exact a1) ky
 rw [e2, h2, e1, h1]
theorem pths_lstL {l : List En} : pths (lstL l) = [] :: psL (pths l) := by
 unfold lstL mkL pths
 rw [List.map_cons, List.map_map]
 have : (En.path ∘ mkE (trs l)) = Tp.p := by funext t; exact mkE_path _ t
 rw [this, trs_paths]
 rfl
theorem pairwise_nodup {l : List Tx} (h : l.Pairwise plt) : l.Nodup := h.imp fun {a b} hab e => by subst e; exact plt_irrefl a hab
theorem root_ok {l : List En} (ok : OkS l) : (look l []).k = 2 ∧ fld (look l []) = 0 := by
 by_cases hin : ([] : Tx) ∈ pths l
 ·obtain ⟨x, hx, e⟩ := List.mem_map.1 hin
  have e2 := look_mem ok.once hx
  rw [e] at e2
  rw [e2]
  have hk : x.k = 2 := by
   have := (ok.each x hx).path
   unfold pth at this
   rw [if_pos e] at this
   split at this
   ·assumption
   ·cases this
  exact ⟨hk, (ok.each x hx).fld (by rw [hk]; decide)⟩
 ·rw [look_none hin]
  exact ⟨rfl, by decide⟩
theorem lstL_mem {l : List En} {x : En} : x ∈ lstL l ↔ x = enOf [] (ndOf (look l [])) ∨ ∃ t ∈ trs l, mkE (trs l) t = x := by
 unfold lstL mkL
 rw [List.mem_cons, List.mem_map]
theorem lstL_ok {l : List En} (ok : OkS l) : OkS (lstL l) := by
 have hroot := root_ok ok
 have hfol : ∀ p, p ≠ [] → folder l p = true → folder (lstL l) p = true := by
  intro p hn hp
  unfold folder at hp ⊢
  obtain ⟨z, hz, e⟩ := List.any_eq_true.1 hp
  rw [Bool.and_eq_true, decide_eq_true_iff, decide_eq_true_iff] at e
  have hin : p ∈ psL (pths l) := (psL_mem ok.rt p).2 ⟨List.mem_map.2 ⟨z, hz, e.1⟩, hn⟩
  have ht : tpOf l p ∈ trs l := List.mem_map.2 ⟨p, hin, rfl⟩
  have el : look l p = z := by rw [← e.1]; exact look_mem ok.once hz
  have eo : opath z = p := by unfold opath; rw [if_neg (by rw [e.2]; decide)]; exact e.1
  have hd : (tpOf l p).dir = true := by show decide ((look l (opath (look l p))).k = 2) = true; rw [el, eo, el]; exact decide_eq_true e.2
  refine List.any_eq_true.2 ⟨mkE (trs l) (tpOf l p), lstL_mem.2 (Or.inr ⟨_, ht, rfl⟩), ?_⟩
  rw [Bool.and_eq_true, decide_eq_true_iff, decide_eq_true_iff, mkE_path]
  refine ⟨rfl, ?_⟩
  unfold mkE
  rw [if_pos (nm_dir ok ht hd)]
  show (ndOf (look l (opath (look l p)))).k = 2
  rw [el, eo, el]
  exact e.2
 refine ⟨?_, fun x hx => ?_⟩
 ·rw [pths_lstL]
  refine List.nodup_cons.2 ⟨fun h => ((psL_mem ok.rt []).1 h).2 rfl, pairwise_nodup (psL_sorted ok.rt)⟩
 ·rcases lstL_mem.1 hx with rfl | ⟨t, ht, rfl⟩
  ·have hk : (enOf [] (ndOf (look l []))).k = 2 := hroot.1
   refine ⟨by rw [hk]; rfl, ?_, Or.inl rfl, fun e => (by rw [hk] at e; cases e), fun _ => fld_en hroot.2 (by rw [hroot.1]; decide) []⟩
   unfold pth
   rw [if_pos (show (enOf [] (ndOf (look l []))).path = [] from rfl), if_pos hk]
  ·have nt := nm_of ok ht
   obtain ⟨x, hx2, hxp, hxo⟩ := nt.x
   obtain ⟨y, hy, a1, a2, a3, a4⟩ := nt.y
   have okx := ok.each x hx2
   have oky := ok.each y hy
   have hxn : x.path ≠ [] := by rw [hxp]; exact nt.ne
   have hky := oky.kind
   unfold inI at hky
   rw [Bool.and_eq_true, decide_eq_true_iff, decide_eq_true_iff] at hky
   have hup : upT (mkE (trs l) t).path = [] ∨ folder (lstL l) (upT (mkE (trs l) t).path) = true := by
    rw [mkE_path, ← hxp]
    by_cases hu : upT x.path = []
    ·exact Or.inl hu
    ·rcases okx.up with h | h
     ·exact absurd h hu
     ·exact Or.inr (hfol _ hu h)
   have hpt : pth (mkE (trs l) t) = 0 := by
    rw [← pth_full (x := x) hxn (by rw [mkE_path]; exact hxp)]
    exact okx.path
   by_cases hf : fstN (trs l) t.o = t.p
   ·have em : mkE (trs l) t = enOf t.p t.nd := by unfold mkE; rw [if_pos hf]
    rw [em] at hup hpt ⊢
    have hk : (enOf t.p t.nd).k = y.k := by show t.nd.k = y.k; rw [a3]; rfl
    refine ⟨?_, hpt, hup, fun e => ?_, fun _ => ?_⟩
    ·rw [hk]; unfold inI; rw [Bool.and_eq_true, decide_eq_true_iff, decide_eq_true_iff]; exact hky
    ·rw [hk] at e; exact absurd e a2
    ·rw [a3]; exact fld_en (oky.fld a2) (by omega) t.p
   ·have em : mkE (trs l) t = hrd t.p (fstN (trs l) t.o) := by unfold mkE; rw [if_neg hf]
    rw [em] at hup hpt ⊢
    refine ⟨by rfl, hpt, hup, fun _ => ?_, fun e => absurd rfl e⟩
    show thing (lstL l) (fstN (trs l) t.o) = true
    obtain ⟨u, hu, e1, e2⟩ := fst_some ht
    have nu := nm_of ok hu
    have hs := nm_same ok nu nt e1
    have hfu : fstN (trs l) u.o = u.p := by rw [e1, e2]
    have hy2 : y.k ≠ 2 := by
     intro h2
     exact hf (nm_dir ok ht (by rw [a4]; exact decide_eq_true h2))
    unfold thing
    refine List.any_eq_true.2 ⟨mkE (trs l) u, lstL_mem.2 (Or.inr ⟨u, hu, rfl⟩), ?_⟩
    have em2 : mkE (trs l) u = enOf u.p u.nd := by unfold mkE; rw [if_pos hfu]
    have hk : (enOf u.p u.nd).k = y.k := by show u.nd.k = y.k; rw [hs.1, a3]; rfl
    rw [em2, hk]
    unfold inI
    rw [Bool.and_eq_true, Bool.and_eq_true, Bool.and_eq_true, decide_eq_true_iff, decide_eq_true_iff, decide_eq_true_iff, decide_eq_true_iff]
    exact ⟨⟨e2.symm, hky.1, by omega⟩, hy2⟩
theorem psL_lstL {l : List En} (ok : OkS l) : psL (pths (lstL l)) = psL (pths l) := by
 have okm := lstL_ok ok
 refine sorted_eq (psL_sorted okm.rt) (psL_sorted ok.rt) fun p => ?_
 rw [psL_mem okm.rt, pths_lstL, List.mem_cons]
 constructor
 ·rintro ⟨h | h, hn⟩
  ·exact absurd h hn
  ·exact h
 ·intro h
  exact ⟨Or.inr h, ((psL_mem ok.rt p).1 h).2⟩
theorem lstL_tp {l : List En} (ok : OkS l) {t : Tp Tx} (ht : t ∈ trs l) : tpOf (lstL l) t.p = t.map (fstN (trs l)) := by
 have okm := lstL_ok ok
 have hl : ∀ u ∈ trs l, look (lstL l) u.p = mkE (trs l) u := by
  intro u hu
  have := look_mem okm.once (lstL_mem.2 (Or.inr ⟨u, hu, rfl⟩))
  rwa [mkE_path] at this
 have hnd : ∀ u ∈ trs l, ndOf (enOf u.p u.nd) = u.nd ∧ decide ((enOf u.p u.nd).k = 2) = u.dir := by
  intro u hu
  obtain ⟨y, hy, a1, a2, a3, a4⟩ := (nm_of ok hu).y
  rw [a3, a4]
  exact ⟨nd_en ((ok.each y hy).fld a2) u.p, rfl⟩
 obtain ⟨u, hu, e1, e2⟩ := fst_some ht
 have hfu : fstN (trs l) u.o = u.p := by rw [e1, e2]
 have eu : look (lstL l) u.p = enOf u.p u.nd := by rw [hl u hu]; unfold mkE; rw [if_pos hfu]
 have hs := nm_same ok (nm_of ok hu) (nm_of ok ht) e1
 have eo : opath (look (lstL l) t.p) = u.p := by
  rw [hl t ht]
  by_cases hf : fstN (trs l) t.o = t.p
  ·unfold mkE
   rw [if_pos hf]
   have k6 : (enOf t.p t.nd).k ≠ 6 := by
    obtain ⟨y, hy, a1, a2, a3, a4⟩ := (nm_of ok ht).y
    show t.nd.k ≠ 6
    rw [a3]
    exact a2
   unfold opath
   rw [if_neg k6]
   show t.p = u.p
   rw [← hf, e2]
  ·unfold mkE
   rw [if_neg hf]
   show (if (6 : Int) = 6 then fstN (trs l) t.o else t.p) = u.p
   rw [if_pos rfl, e2]
 unfold tpOf Tp.map
 rw [eo, eu]
 obtain ⟨g1, g2⟩ := hnd u hu
 rw [g1, g2, hs.1, hs.2, e2]
theorem lstL_canon {l : List En} (ok : OkS l) : canon (lstL l) = canon l := by
 have okm := lstL_ok ok
 have er : ndOf (look (lstL l) []) = ndOf (look l []) := by
  have e : look (lstL l) [] = enOf [] (ndOf (look l [])) := look_mem okm.once (x := enOf [] (ndOf (look l []))) (lstL_mem.2 (Or.inl rfl))
  rw [e]
  exact nd_en (root_ok ok).2 []
 have em : trs (lstL l) = (trs l).map (Tp.map (fstN (trs l))) := by
  have e1 : trs (lstL l) = (psL (pths l)).map (tpOf (lstL l)) := by unfold trs; rw [psL_lstL ok]
  rw [e1, ← trs_paths, List.map_map]
  apply List.map_congr_left
  intro t ht
  exact lstL_tp ok ht
 rw [canon_trs, canon_trs, er, em]
 apply bld_map
 intro x hx y hy e
 obtain ⟨u, hu, e1, e2⟩ := fst_some hx
 obtain ⟨v, hv, f1, f2⟩ := fst_some hy
 have := trs_inj hu hv (by rw [← e2, ← f2]; exact e)
 rw [← e1, ← f1, this]
def ownI (l : List En) (i : Nat) (x : En) : Nat := if x.k = 6 then (l.findIdx? fun y => decide (y.path = x.target)).getD i else i
def entI (l : List En) (i : Nat) : En := (l[i]?).getD rootE
def trI (l : List En) (k : Nat) : Tp Nat := ⟨(entI l k).path, ownI l k (entI l k), ndOf (entI l (ownI l k (entI l k))), decide ((entI l (ownI l k (entI l k))).k = 2)⟩
def canonI (l : List En) : List No := bld (ndOf (look l [])) ((ordL (pths l)).map (trI l))
theorem ownI_facts {l : List En} (ok : OkS l) {i : Nat} {x : En} (hx : l[i]? = some x) : ∃ y, l[ownI l i x]? = some y ∧ y.path = opath x := by
 unfold ownI opath
 have hm := List.mem_of_getElem? hx
 by_cases h6 : x.k = 6
 ·rw [if_pos h6, if_pos h6]
  obtain ⟨y, hy, e1, -, -⟩ := thing_mem ((ok.each x hm).hard h6)
  cases hf : l.findIdx? (fun y => decide (y.path = x.target)) with
  | none =>
   rw [List.findIdx?_eq_none_iff] at hf
   exact absurd e1 (by simpa using hf y hy)
  | some j =>
   rw [List.findIdx?_eq_some_iff_getElem] at hf
   obtain ⟨hj, h1, -⟩ := hf
   exact ⟨l[j], by simp [List.getElem?_eq_getElem hj], by simpa using h1⟩
 ·rw [if_neg h6, if_neg h6]
  exact ⟨x, hx, rfl⟩
theorem ordL_lt {l : List En} (ok : OkS l) {i : Nat} (hi : i ∈ ordL (pths l)) : ∃ x, l[i]? = some x ∧ x.path ≠ [] := by
 have h := (ordr_acc ok.rt ((pths l).length + 1) [] (Acc.nil _) (by have := left_le (pths l) []; omega)).1.lt i hi
 have hl : i < l.length := by have := h.1; unfold pths at this; rwa [List.length_map] at this
 refine ⟨l[i], List.getElem?_eq_getElem hl, ?_⟩
 have := h.2
 rwa [pths_getD (List.getElem?_eq_getElem hl)] at this
theorem canonI_eq {l : List En} (ok : OkS l) : canonI l = canon l := by
 unfold canonI
 have em : trs l = ((ordL (pths l)).map (trI l)).map (Tp.map fun i => (entI l i).path) := by
  unfold trs psL
  rw [List.map_map, List.map_map]
  apply List.map_congr_left
  intro i hi
  obtain ⟨x, hx, -⟩ := ordL_lt ok hi
  obtain ⟨y, hy, e⟩ := ownI_facts ok hx
  have ex : entI l i = x := by unfold entI; rw [hx]; rfl
  have ey : entI l (ownI l i x) = y := by unfold entI; rw [hy]; rfl
  have el : look l x.path = x := look_mem ok.once (List.mem_of_getElem? hx)
  have elo : look l (opath x) = y := by rw [← e]; exact look_mem ok.once (List.mem_of_getElem? hy)
  show tpOf l ((pths l).getD i []) = Tp.map (fun i => (entI l i).path) (trI l i)
  rw [pths_getD hx]
  unfold tpOf trI Tp.map
  simp only [el, elo, ex, ey, e]
 rw [canon_trs, em, bld_map]
 intro t ht u hu e
 obtain ⟨i, hi, rfl⟩ := List.mem_map.1 ht
 obtain ⟨j, hj, rfl⟩ := List.mem_map.1 hu
 obtain ⟨x, hx, -⟩ := ordL_lt ok hi
 obtain ⟨z, hz, -⟩ := ordL_lt ok hj
 obtain ⟨y, hy, -⟩ := ownI_facts ok hx
 obtain ⟨v, hv, -⟩ := ownI_facts ok hz
 have ex : entI l i = x := by unfold entI; rw [hx]; rfl
 have ez : entI l j = z := by unfold entI; rw [hz]; rfl
 unfold trI at e ⊢
 simp only [ex, ez] at e ⊢
 have ey : entI l (ownI l i x) = y := by unfold entI; rw [hy]; rfl
 have ev : entI l (ownI l j z) = v := by unfold entI; rw [hv]; rfl
 rw [ey, ev] at e
 apply ok.rt.once
 ·unfold pths; rw [List.length_map]; exact (List.getElem?_eq_some_iff.1 hy).1
 ·unfold pths; rw [List.length_map]; exact (List.getElem?_eq_some_iff.1 hv).1
 ·rw [pths_getD hy, pths_getD hv, e]
end Go.Proofs.YtlehncfehoelbaaGreatDoor
namespace Go.Proofs.YtlehncfehoelbaaGreatDoor
open Go.RowKit
set_option maxRecDepth 100000
set_option linter.unusedSimpArgs false
set_option linter.unusedVariables false
theorem findIdx_hit {l : List EnV} {k : Nat} {Y : EnV} {f : En → Bool} (hY : l[k]? = some Y) (h0 : ((ens l).take k).any f = false) (h1 : f Y.en = true) : (ens l).findIdx? f = some k := by
 rw [List.findIdx?_eq_some_iff_getElem]
 have hk : k < l.length := (List.getElem?_eq_some_iff.1 hY).1
 have hke : k < (ens l).length := by unfold ens; rw [List.length_map]; exact hk
 have hg : ∀ (j : Nat) (hj : j < (ens l).length), (ens l)[j] = (l[j]'(by unfold ens at hj; rw [List.length_map] at hj; exact hj)).en := fun j hj => by simp [ens]
 refine ⟨hke, ?_, fun j hj => ?_⟩
 ·rw [hg k hke]
  have : l[k] = Y := (List.getElem?_eq_some_iff.1 hY).2
  rw [this]
  exact h1
 ·rw [List.any_eq_false] at h0
  have hjl : j < (ens l).length := by omega
  apply h0
  rw [List.mem_iff_getElem?]
  exact ⟨j, by rw [List.getElem?_take, if_pos hj]; exact List.getElem?_eq_getElem hjl⟩
theorem findIdx_miss {l : List EnV} {f : En → Bool} (h0 : (ens l).any f = false) : (ens l).findIdx? f = none := by
 rw [List.findIdx?_eq_none_iff]
 intro x hx
 rw [List.any_eq_false] at h0
 simpa using h0 x hx
set_option maxHeartbeats 1000000 in
theorem rowner_any (a : Option Addr) (len cap : Nat) (l : List EnV) (w : World) (E : Ens w a len l) (hlen : len ≤ 100000) (i : Nat) (X : EnV) (hX : l[i]? = some X) :
  Calls Tryz.prog 39 #[.slice a len cap, .int .i64 i] w fun e w' => e = .returned (.int .i64 (ownI (ens l) i X.en)) ∧ w.grownBy w' none := by
 have hll := E.len_eq
 have hi : i < len := by have := (List.getElem?_eq_some_iff.1 hX).1; omega
 obtain ⟨b, off, rfl, hat⟩ := E.at_ (by omega)
 obtain ⟨c0, c1, c2, c3, c4, c5, c6, c7, c8, c9, c10, hok⟩ := hat i X hX
 have hii : (i : Int) < (len : Int) := by omega
 by_cases h6 : X.k = 6
 ·have HE : Hid (ownI (ens l) i X.en = ((ens l).findIdx? (sameP X.target.toList)).getD i) := by
   show ownI _ _ _ = _
   unfold ownI
   rw [if_pos (show X.en.k = 6 from h6)]
   rfl
  rw [h6] at c1
  generalize ownI (ens l) i X.en = A at *
  have HI : Hid _ := xai hat hll
  generalize X.target = T at *
  clear E hat hll hok c0 c2 c3 c4 c5 c6 c7 c9 c10
  go_enter Tryz.func39, Tryz.ntmps39
  go_wp2
  go_loopw [5] (fun v wr => ∃ k : Nat, k ≤ len ∧ v = .int .i64 k ∧ Hid (((ens l).take k).any (sameP T.toList) = false) ∧ ∃ t, wr = w.drewN t) (fun v _ => len - (intOf v).toNat)
  case atStart => exact ⟨0, Nat.zero_le _, rfl, rfl, 0, rfl⟩
  case round =>
   obtain ⟨k, hk, rfl, HB, t, rfl⟩ := hrel
   by_cases hlt : k < len
   ·obtain ⟨Y, hY⟩ : ∃ Y, l[k]? = some Y := ⟨_, List.getElem?_eq_getElem (by have := HI.out.2; omega)⟩
    have y0 := (HI.out.1 k Y hY).c0
    have hsn := ens_snoc hY (sameP T.toList)
    rw [HB.out, Bool.false_or] at hsn
    have hsn2 : sameP T.toList Y.en = (Y.path.toList == T.toList) := by
     unfold sameP EnV.en; simp only; by_cases h : Y.path.toList = T.toList <;> simp [h]
    have HY : Hid _ := xai hY hsn2
    rw [hsn2] at hsn
    have HN : Hid _ := hsn
    clear hsn hsn2 hY
    generalize Y.path = Q at *
    have hlti : (k : Int) < (len : Int) := by omega
    cases hq : (Q.toList == T.toList) with
    | true =>
     have HV : Hid (A = k) := by
      show A = k
      rw [HE.out, findIdx_hit HY.out.1 HB.out (HY.out.2.trans hq)]
      rfl
     clear HE HB HN HY
     go_wp2
     go_quiet (fail)
     go_wp2
     go_ret
     exact ⟨by rw [HV.out]; rfl, drewG11 (drewG11 (World.grownBy.refl _ _) _) _⟩
    | false =>
     have HN2 : Hid (((ens l).take (k + 1)).any (sameP T.toList) = false) := by
      show List.any _ _ = false
      rw [HN.out, hq]
     clear HN HY HB
     go_wp2
     go_quiet (fail)
     go_wp2
     exact ⟨⟨k + 1, by omega, by go_num, HN2, _, rfl⟩, by simp [intOf]; omega⟩
   ·obtain rfl : k = len := by omega
    have HV : Hid (A = i) := by
     show A = i
     have h0 := HB.out
     rw [List.take_of_length_le (by rw [show (ens l).length = l.length by unfold ens; rw [List.length_map]]; have := HI.out.2; omega)] at h0
     rw [HE.out, findIdx_miss h0]
     rfl
    clear HE HB
    go_wp2
    go_ret
    exact ⟨by rw [HV.out]; rfl, drewG11 (World.grownBy.refl _ _) _⟩
 ·have HE : Hid (ownI (ens l) i X.en = i) := by
   show ownI _ _ _ = _
   unfold ownI
   rw [if_neg (show X.en.k ≠ 6 from h6)]
  have h6' : (X.k == 6) = false := by simpa using h6
  generalize ownI (ens l) i X.en = A at *
  generalize X.k = K at *
  clear E hat hll hok c0 c2 c3 c4 c5 c6 c7 c8 c9 c10
  go_enter Tryz.func39, Tryz.ntmps39
  go_wp2
  go_ret
  exact ⟨by rw [HE.out]; rfl, World.grownBy.refl _ _⟩
end Go.Proofs.YtlehncfehoelbaaGreatDoor
