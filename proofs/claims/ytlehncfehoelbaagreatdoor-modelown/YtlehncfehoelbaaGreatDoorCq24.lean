/- The walk of List along the names of a tree, as a plain function. -/
import Derived.WalkLawsBesides
import Derived.Test.YtlehncfehoelbaaGreatDoorCq12
import Derived.Test.YtlehncfehoelbaaGreatDoorCq16
import Derived.Test.YtlehncfehoelbaaGreatDoorCq23
namespace Go.Proofs.YtlehncfehoelbaaGreatDoor
set_option linter.unusedVariables false
set_option linter.unusedSimpArgs false
structure Le where
 path : Tx
 src : Nat ⊕ Tx
structure Wk where
 met : List (Nat × Nat)
 list : List Le
def Wk.at_ (s : Wk) (i : Nat) : Option Nat := (s.met.find? fun x => decide (x.1 = i)).map (·.2)
def ahd (p : Tx) : Tx := if p = [] then [] else p ++ [47]
def kidsP (meet : Wk → Int → Tx → Option Wk) (a : Tx) : List Kd → Wk → Option Wk
 | [], s => some s
 | k :: ks, s => if vld k.n = true then (match meet s k.i (a ++ k.n) with
  | none => none
  | some s' => kidsP meet a ks s') else none
def addN (s : Wk) (i : Nat) (p : Tx) : Wk := ⟨(i, s.list.length) :: s.met, s.list ++ [⟨p, .inl i⟩]⟩
def addF (s : Wk) (f : Nat) (p : Tx) : Wk := ⟨s.met, s.list ++ [⟨p, .inr ((s.list[f]?.map Le.path).getD [])⟩]⟩
def meetP (ns : List No) : Nat → Wk → Int → Tx → Option Wk
 | 0, _, _, _ => none
 | f + 1, s, i, p => if 0 ≤ i ∧ p.length ≤ 4096 ∧ s.list.length ≤ 16384 then (match ns[i.toNat]? with
  | none => none
  | some n => match s.at_ i.toNat with
   | some j => if n.k = 2 then none else some (addF s j p)
   | none => if n.k = 2 then kidsP (meetP ns f) (ahd p) n.kids (addN s i.toNat p) else some (addN s i.toNat p)) else none
structure Wk.ok (s : Wk) (n : Nat) : Prop where
 nd : (s.met.map (·.1)).Nodup
 lt : ∀ x ∈ s.met, x.1 < n ∧ x.2 < s.list.length
 le : s.list.length ≤ 16385
 pl : ∀ x ∈ s.list, x.path.length ≤ 4096
 ql : ∀ x ∈ s.list, ∀ q, x.src = .inr q → q.length ≤ 4096
theorem Wk.ok.at_lt {s : Wk} {n : Nat} (h : s.ok n) {i j : Nat} (e : s.at_ i = some j) : j < s.list.length := by
 unfold Wk.at_ at e
 cases hf : s.met.find? (fun x => decide (x.1 = i)) with
 | none => rw [hf] at e; cases e
 | some x =>
  rw [hf] at e
  injection e with e
  rw [← e]
  exact (h.lt x (List.mem_of_find?_eq_some hf)).2
theorem Wk.ok.addN {s : Wk} {n : Nat} (h : s.ok n) {i : Nat} {p : Tx} (hi : i < n) (hp : p.length ≤ 4096) (hl : s.list.length ≤ 16384) (hn : s.at_ i = none) : (addN s i p).ok n := by
 refine ⟨?_, ?_, ?_, ?_, ?_⟩
 ·show ((i, s.list.length) :: s.met).map (·.1) |>.Nodup
  rw [List.map_cons, List.nodup_cons]
  refine ⟨fun hm => ?_, h.nd⟩
  obtain ⟨x, hx, e⟩ := List.mem_map.1 hm
  unfold Wk.at_ at hn
  have h0 : s.met.find? (fun x => decide (x.1 = i)) = none := by
   cases hf : s.met.find? (fun x => decide (x.1 = i)) with
   | none => rfl
   | some y => rw [hf] at hn; cases hn
  rw [List.find?_eq_none] at h0
  exact h0 x hx (by simpa using e)
 ·intro x hx
  show x.1 < n ∧ x.2 < (s.list ++ [_]).length
  rw [List.length_append, List.length_singleton]
  rcases List.mem_cons.1 hx with rfl | hx
  ·exact ⟨hi, by simp⟩
  ·have := h.lt x hx; omega
 ·show (s.list ++ [_]).length ≤ _
  rw [List.length_append, List.length_singleton]; omega
 ·intro x hx
  rcases List.mem_append.1 hx with hx | hx
  ·exact h.pl x hx
  ·rw [List.mem_singleton] at hx; subst hx; exact hp
 ·intro x hx q hq
  rcases List.mem_append.1 hx with hx | hx
  ·exact h.ql x hx q hq
  ·rw [List.mem_singleton] at hx; subst hx; cases hq
theorem Wk.ok.addF {s : Wk} {n : Nat} (h : s.ok n) {f : Nat} {p : Tx} (hp : p.length ≤ 4096) (hl : s.list.length ≤ 16384) : (addF s f p).ok n := by
 refine ⟨h.nd, ?_, ?_, ?_, ?_⟩
 ·intro x hx
  show x.1 < n ∧ x.2 < (s.list ++ [_]).length
  rw [List.length_append, List.length_singleton]
  have := h.lt x hx; omega
 ·show (s.list ++ [_]).length ≤ _
  rw [List.length_append, List.length_singleton]; omega
 ·intro x hx
  rcases List.mem_append.1 hx with hx | hx
  ·exact h.pl x hx
  ·rw [List.mem_singleton] at hx; subst hx; exact hp
 ·intro x hx q hq
  rcases List.mem_append.1 hx with hx | hx
  ·exact h.ql x hx q hq
  ·rw [List.mem_singleton] at hx
   subst hx
   injection hq with hq
   rw [← hq]
   cases hf : s.list[f]? with
   | none => exact Nat.zero_le _
   | some y => exact h.pl y (List.mem_of_getElem? hf)
theorem nodup_le {os : List Nat} {n : Nat} (h : os.Nodup) (hl : ∀ o ∈ os, o < n) : os.length ≤ n := by
 induction n generalizing os with
 | zero =>
  cases os with
  | nil => exact Nat.le_refl _
  | cons a r => exact absurd (hl a (by simp)) (by omega)
 | succ n ih =>
  have h1 := ih (h.erase n) fun o ho => by
   have := (h.mem_erase_iff).1 ho
   have := hl o this.2
   omega
  rw [List.length_erase] at h1
  split at h1 <;> omega
theorem Wk.ok.fewer {s : Wk} {n : Nat} (h : s.ok n) {i : Nat} (hi : i < n) (hn : s.at_ i = none) : s.met.length < n := by
 have h0 : ∀ x ∈ s.met, ¬ x.1 = i := by
  unfold Wk.at_ at hn
  have h0 : s.met.find? (fun x => decide (x.1 = i)) = none := by
   cases hf : s.met.find? (fun x => decide (x.1 = i)) with
   | none => rfl
   | some y => rw [hf] at hn; cases hn
  rw [List.find?_eq_none] at h0
  intro x hx e
  exact h0 x hx (by simpa using e)
 have hd : (i :: s.met.map (·.1)).Nodup := List.nodup_cons.2 ⟨fun hm => by obtain ⟨x, hx, e⟩ := List.mem_map.1 hm; exact h0 x hx e, h.nd⟩
 have := nodup_le hd (n := n) (fun x hx => by
  rcases List.mem_cons.1 hx with rfl | hx
  ·exact hi
  ·obtain ⟨y, hy, rfl⟩ := List.mem_map.1 hx; exact (h.lt y hy).1)
 simp only [List.length_cons, List.length_map] at this
 omega
structure Wk.le (s s' : Wk) : Prop where
 met : s.met.length ≤ s'.met.length
theorem kidsP_ok {n : Nat} {meet : Wk → Int → Tx → Option Wk} (hm : ∀ s i p s', s.ok n → meet s i p = some s' → s'.ok n ∧ s.met.length ≤ s'.met.length) (a : Tx) : ∀ (ks : List Kd) (s s' : Wk), s.ok n → kidsP meet a ks s = some s' → s'.ok n ∧ s.met.length ≤ s'.met.length
 | [], s, s', h, e => by
  unfold kidsP at e
  injection e with e
  subst e
  exact ⟨h, Nat.le_refl _⟩
 | k :: ks, s, s', h, e => by
  unfold kidsP at e
  split at e
  ·cases hk : meet s k.i (a ++ k.n) with
   | none => rw [hk] at e; cases e
   | some s1 =>
    rw [hk] at e
    obtain ⟨h1, h2⟩ := hm _ _ _ _ h hk
    obtain ⟨h3, h4⟩ := kidsP_ok hm a ks s1 s' h1 e
    exact ⟨h3, Nat.le_trans h2 h4⟩
  ·cases e
theorem meetP_ok {ns : List No} : ∀ (f : Nat) (s : Wk) (i : Int) (p : Tx) (s' : Wk), s.ok ns.length → meetP ns f s i p = some s' → s'.ok ns.length ∧ s.met.length ≤ s'.met.length
 | 0, s, i, p, s', h, e => by cases e
 | f + 1, s, i, p, s', h, e => by
  unfold meetP at e
  split at e <;> rename_i hc
  ·cases hn : ns[i.toNat]? with
   | none => rw [hn] at e; cases e
   | some n =>
    rw [hn] at e
    simp only at e
    have hi := (List.getElem?_eq_some_iff.1 hn).1
    cases ha : s.at_ i.toNat with
    | some j =>
     rw [ha] at e
     simp only at e
     split at e
     ·cases e
     ·injection e with e
      subst e
      exact ⟨h.addF hc.2.1 hc.2.2, Nat.le_refl _⟩
    | none =>
     rw [ha] at e
     simp only at e
     have h1 := h.addN hi hc.2.1 hc.2.2 ha
     have h2 : s.met.length ≤ (addN s i.toNat p).met.length := by show _ ≤ (_ :: s.met).length; simp
     split at e
     ·obtain ⟨h3, h4⟩ := kidsP_ok (meetP_ok f) _ _ _ _ h1 e
      exact ⟨h3, Nat.le_trans h2 h4⟩
     ·injection e with e
      subst e
      exact ⟨h1, h2⟩
  ·cases e
def kdT (ino : Tx → Nat) (t : Tp Tx) : Kd := ⟨lastT t.p, ino t.o⟩
structure Wt (ts : List (Tp Tx)) (ns : List No) (ino : Tx → Nat) : Prop where
 srt : ts.Pairwise fun a b => plt a.p b.p
 up : ∀ (k : Nat) (t : Tp Tx), ts[k]? = some t → upT t.p = [] ∨ ∃ u ∈ ts.take k, u.dir = true ∧ u.p = upT t.p
 path : ∀ t ∈ ts, t.p ≠ [] ∧ t.p.length ≤ 4096 ∧ ahd (upT t.p) ++ lastT t.p = t.p ∧ vld (lastT t.p) = true
 parts : ∀ t ∈ ts, (upT t.p = [] ∧ (spl t.p).1 = [lastT t.p]) ∨ ((spl (upT t.p)).1 ++ [lastT t.p] = (spl t.p).1 ∧ (spl (upT t.p)).1 ≠ [])
 dir1 : ∀ t ∈ ts, ∀ u ∈ ts, t.dir = true → u.o = t.o → u.p = t.p
 ino1 : ∀ t ∈ ts, ∀ u ∈ ts, ino t.o = ino u.o → t.o = u.o
 ino0 : ∀ t ∈ ts, 1 ≤ ino t.o
 nd : ∀ t ∈ ts, ∃ n, ns[ino t.o]? = some n ∧ (∀ p, enOf p n = enOf p t.nd) ∧ (n.k = 2 ↔ t.dir = true) ∧ (t.dir = true → n.kids = (ts.filter fun u => decide (upT u.p = t.p)).map (kdT ino))
 root : ∃ n, ns[0]? = some n ∧ n.k = 2 ∧ n.kids = (ts.filter fun u => decide (upT u.p = [])).map (kdT ino)
 len : ts.length ≤ 16384
def wst (ino : Tx → Nat) (s : Wk) (t : Tp Tx) : Wk := match s.at_ (ino t.o) with
 | some j => addF s j t.p
 | none => addN s (ino t.o) t.p
def s0 : Wk := addN ⟨[], []⟩ 0 []
def St (ts : List (Tp Tx)) (ino : Tx → Nat) (k : Nat) : Wk := (ts.take k).foldl (wst ino) s0
def cnd (ts : List (Tp Tx)) (k : Nat) (t : Tp Tx) : Bool := decide (upT t.p = []) || (ts.take k).any fun u => u.dir && decide (u.p = upT t.p)
def pend (ts : List (Tp Tx)) (k : Nat) : List (Tp Tx) := (ts.drop k).filter (cnd ts k)
theorem take_succ' {α : Type} {l : List α} {k : Nat} {t : α} (h : l[k]? = some t) : l.take (k + 1) = l.take k ++ [t] := by
 have hk := (List.getElem?_eq_some_iff.1 h).1
 rw [List.take_add_one, h]; rfl
theorem drop_at {α : Type} {l : List α} {k : Nat} {t : α} (h : l[k]? = some t) : l.drop k = t :: l.drop (k + 1) := by
 obtain ⟨hk, e⟩ := List.getElem?_eq_some_iff.1 h
 rw [List.drop_eq_getElem_cons hk, e]
theorem St_next {ts : List (Tp Tx)} {ino : Tx → Nat} {k : Nat} {t : Tp Tx} (h : ts[k]? = some t) : St ts ino (k + 1) = wst ino (St ts ino k) t := by
 unfold St
 rw [take_succ' h, List.foldl_append]; rfl
theorem pend_head {ts : List (Tp Tx)} {ns : List No} {ino : Tx → Nat} (W : Wt ts ns ino) {k : Nat} {t : Tp Tx} (h : ts[k]? = some t) : pend ts k = t :: (ts.drop (k + 1)).filter (cnd ts k) := by
 unfold pend
 rw [drop_at h, List.filter_cons, if_pos]
 unfold cnd
 rcases W.up k t h with e | ⟨u, hu, h1, h2⟩
 ·rw [e]; simp
 ·rw [Bool.or_eq_true]
  right
  rw [List.any_eq_true]
  exact ⟨u, hu, by rw [h1, h2]; simp⟩
theorem ord_past : ∀ (T U : List Tx) (x y : Tx), ord T (U ++ [y]) = -1 → ord U T = -1 → ord (T ++ [x]) (U ++ [y]) = -1
 | [], [], x, y, h1, h2 => by simp [ord] at h2
 | c :: r, [], x, y, h1, h2 => by
  simp only [List.nil_append, List.cons_append] at *
  unfold ord at h1 ⊢
  by_cases e : ctx c y ≠ 0
  ·rw [if_pos e] at h1 ⊢; exact h1
  ·rw [if_neg e] at h1
   cases r with
   | nil => simp [ord] at h1
   | cons => simp [ord] at h1
 | [], d :: V, x, y, h1, h2 => by simp [ord] at h2
 | c :: r, d :: V, x, y, h1, h2 => by
  simp only [List.cons_append] at *
  unfold ord at h1 h2 ⊢
  by_cases e : ctx c d ≠ 0
  ·rw [if_pos e] at h1
   rw [ctx_flip, h1, if_pos (by decide)] at h2
   simp at h2
  ·rw [if_neg e] at h1 ⊢
   have e0 : ctx d c = 0 := by rw [ctx_flip]; have : ctx c d = 0 := Classical.byContradiction e; rw [this]; rfl
   rw [if_neg (by rw [e0]; simp)] at h2
   exact ord_past r V x y h1 h2
theorem mem_drop_iff {α : Type} {l : List α} {k : Nat} {x : α} : x ∈ l.drop k ↔ ∃ i, k ≤ i ∧ l[i]? = some x := by
 rw [List.mem_iff_getElem?]
 constructor
 ·rintro ⟨i, hi⟩
  rw [List.getElem?_drop] at hi
  exact ⟨k + i, by omega, hi⟩
 ·rintro ⟨i, hi, e⟩
  exact ⟨i - k, by rw [List.getElem?_drop, show k + (i - k) = i by omega]; exact e⟩
theorem mem_take_iff {α : Type} {l : List α} {k : Nat} {x : α} : x ∈ l.take k ↔ ∃ i, i < k ∧ l[i]? = some x := by
 rw [List.mem_iff_getElem?]
 constructor
 ·rintro ⟨i, hi⟩
  rw [List.getElem?_take] at hi
  split at hi
  ·exact ⟨i, by assumption, hi⟩
  ·cases hi
 ·rintro ⟨i, hi, e⟩
  exact ⟨i, by rw [List.getElem?_take, if_pos hi]; exact e⟩
theorem Wt.lt {ts : List (Tp Tx)} {ns : List No} {ino : Tx → Nat} (W : Wt ts ns ino) {i j : Nat} {a b : Tp Tx} (ha : ts[i]? = some a) (hb : ts[j]? = some b) (h : i < j) : plt a.p b.p := by
 obtain ⟨hi, ea⟩ := List.getElem?_eq_some_iff.1 ha
 obtain ⟨hj, eb⟩ := List.getElem?_eq_some_iff.1 hb
 have := List.pairwise_iff_getElem.1 W.srt i j hi hj h
 rwa [ea, eb] at this
theorem Wt.once {ts : List (Tp Tx)} {ns : List No} {ino : Tx → Nat} (W : Wt ts ns ino) {i j : Nat} {a b : Tp Tx} (ha : ts[i]? = some a) (hb : ts[j]? = some b) (h : a.p = b.p) : i = j := by
 rcases Nat.lt_trichotomy i j with k | k | k
 ·have := W.lt ha hb k; rw [h] at this; exact absurd this (plt_irrefl _)
 ·exact k
 ·have := W.lt hb ha k; rw [h] at this; exact absurd this (plt_irrefl _)
theorem Wt.behind {ts : List (Tp Tx)} {ns : List No} {ino : Tx → Nat} (W : Wt ts ns ino) {i j : Nat} {a b : Tp Tx} (ha : ts[i]? = some a) (hb : ts[j]? = some b) (h : plt a.p b.p) : i < j := by
 rcases Nat.lt_trichotomy i j with k | k | k
 ·exact k
 ·subst k
  rw [ha] at hb
  injection hb with hb
  subst hb
  exact absurd h (plt_irrefl _)
 ·exact absurd (W.lt hb ha k) (plt_asymm h)
theorem Wt.up_lt {ts : List (Tp Tx)} {ns : List No} {ino : Tx → Nat} (W : Wt ts ns ino) {a : Tp Tx} (ha : a ∈ ts) (h : upT a.p ≠ []) : plt (upT a.p) a.p := by
 rcases W.parts a ha with ⟨e, -⟩ | ⟨e, -⟩
 ·exact absurd e h
 ·unfold plt; rw [← e]; exact ord_snoc _ _
theorem pend_next {ts : List (Tp Tx)} {ns : List No} {ino : Tx → Nat} (W : Wt ts ns ino) {k : Nat} {t : Tp Tx} (h : ts[k]? = some t) : pend ts (k + 1) = (if t.dir = true then ts.filter fun u => decide (upT u.p = t.p) else []) ++ (ts.drop (k + 1)).filter (cnd ts k) := by
 have htm : t ∈ ts := List.mem_of_getElem? h
 by_cases hd : t.dir = true
 ·rw [if_pos hd]
  have hne := (W.path t htm).1
  apply sorted_eqG (R := fun a b : Tp Tx => plt a.p b.p) (fun a => plt_irrefl _) (fun a b c => plt_trans)
  ·exact ((W.srt.sublist (List.drop_sublist _ _))).sublist List.filter_sublist
  ·rw [List.pairwise_append]
   refine ⟨W.srt.sublist List.filter_sublist, (W.srt.sublist (List.drop_sublist _ _)).sublist List.filter_sublist, fun a ha b hb => ?_⟩
   obtain ⟨ham, hau⟩ := List.mem_filter.1 ha
   obtain ⟨hbd, hbc⟩ := List.mem_filter.1 hb
   have hau : upT a.p = t.p := of_decide_eq_true hau
   obtain ⟨j, hj, hjb⟩ := mem_drop_iff.1 hbd
   have hbm : b ∈ ts := List.mem_of_getElem? hjb
   have htb : plt t.p b.p := W.lt h hjb (by omega)
   have hA : (spl a.p).1 = (spl t.p).1 ++ [lastT a.p] := by
    rcases W.parts a ham with ⟨e, -⟩ | ⟨e, -⟩
    ·rw [hau] at e; exact absurd e hne
    ·rw [hau] at e; exact e.symm
   have hT0 : (spl t.p).1 ≠ [] := by
    rcases W.parts t htm with ⟨-, e⟩ | ⟨e, -⟩
    ·rw [e]; simp
    ·rw [← e]; simp
   have hB : ∃ U, (spl b.p).1 = U ++ [lastT b.p] ∧ ord U (spl t.p).1 = -1 := by
    rcases W.parts b hbm with ⟨-, e⟩ | ⟨e, e2⟩
    ·refine ⟨[], by rw [e]; rfl, ?_⟩
     cases hq : (spl t.p).1 with
     | nil => exact absurd hq hT0
     | cons c r => rfl
    ·refine ⟨_, e.symm, ?_⟩
     unfold cnd at hbc
     rw [Bool.or_eq_true] at hbc
     rcases hbc with c | c
     ·rw [of_decide_eq_true c] at e2
      exact absurd rfl e2
     ·obtain ⟨u, hu, c2⟩ := List.any_eq_true.1 c
      rw [Bool.and_eq_true, decide_eq_true_iff] at c2
      obtain ⟨i, hi, hiu⟩ := mem_take_iff.1 hu
      have := W.lt hiu h hi
      rw [c2.2] at this
      exact this
   obtain ⟨U, e1, e2⟩ := hB
   unfold plt at htb ⊢
   rw [hA, e1]
   rw [e1] at htb
   exact ord_past _ _ _ _ htb e2
  ·intro x
   unfold pend
   rw [List.mem_append, List.mem_filter, List.mem_filter, List.mem_filter]
   have hc : cnd ts (k + 1) x = true ↔ cnd ts k x = true ∨ upT x.p = t.p := by
    unfold cnd
    rw [take_succ' h, List.any_append, Bool.or_eq_true, Bool.or_eq_true, Bool.or_eq_true]
    simp only [List.any_cons, List.any_nil, Bool.or_false, hd, Bool.true_and, decide_eq_true_iff]
    constructor
    ·rintro (a | a | a)
     ·exact Or.inl (Or.inl a)
     ·exact Or.inl (Or.inr a)
     ·exact Or.inr a.symm
    ·rintro ((a | a) | a)
     ·exact Or.inl a
     ·exact Or.inr (Or.inl a)
     ·exact Or.inr (Or.inr a.symm)
   rw [hc, decide_eq_true_iff]
   constructor
   ·rintro ⟨a, b | b⟩
    ·exact Or.inr ⟨a, b⟩
    ·exact Or.inl ⟨List.mem_of_mem_drop a, b⟩
   ·rintro (⟨a, b⟩ | ⟨a, b⟩)
    ·refine ⟨?_, Or.inr b⟩
     obtain ⟨i, hi⟩ := List.mem_iff_getElem?.1 a
     have := W.up_lt a (by rw [b]; exact hne)
     rw [b] at this
     exact mem_drop_iff.2 ⟨i, W.behind h hi this, hi⟩
    ·exact ⟨a, Or.inl b⟩
 ·rw [if_neg hd, List.nil_append]
  unfold pend
  congr 1
  funext x
  unfold cnd
  rw [take_succ' h, List.any_append]
  simp [hd]
theorem pend_end {ts : List (Tp Tx)} {ns : List No} {ino : Tx → Nat} (W : Wt ts ns ino) {k : Nat} (h : pend ts k = []) : ts.length ≤ k := by
 rcases Nat.lt_or_ge k ts.length with hk | hk
 ·have e := pend_head W (List.getElem?_eq_getElem hk)
  rw [h] at e
  cases e
 ·exact hk
theorem pend_some {ts : List (Tp Tx)} {ns : List No} {ino : Tx → Nat} (W : Wt ts ns ino) {k : Nat} {t : Tp Tx} {R : List (Tp Tx)} (h : pend ts k = t :: R) : ts[k]? = some t ∧ R = (ts.drop (k + 1)).filter (cnd ts k) := by
 rcases Nat.lt_or_ge k ts.length with hk | hk
 ·have e := pend_head W (List.getElem?_eq_getElem hk)
  rw [h] at e
  injection e with e1 e2
  exact ⟨by rw [List.getElem?_eq_getElem hk, e1], e2⟩
 ·unfold pend at h
  rw [List.drop_eq_nil_of_le hk] at h
  cases h
def leT (ts : List (Tp Tx)) (ino : Tx → Nat) (t : Tp Tx) : Le := ⟨t.p, if fstN ts t.o = t.p then .inl (ino t.o) else .inr (fstN ts t.o)⟩
structure Wi (ts : List (Tp Tx)) (n : Nat) (ino : Tx → Nat) (k : Nat) (s : Wk) : Prop where
 ok : s.ok n
 list : s.list = ⟨[], .inl 0⟩ :: (ts.take k).map (leT ts ino)
 new : ∀ u ∈ ts, s.at_ (ino u.o) = none ↔ ∀ v ∈ ts.take k, v.o ≠ u.o
 old : ∀ u ∈ ts, ∀ j, s.at_ (ino u.o) = some j → (s.list[j]?.map Le.path).getD [] = fstN ts u.o
theorem fst_new {ts : List (Tp Tx)} {k : Nat} {t : Tp Tx} (h : ts[k]? = some t) (hn : ∀ v ∈ ts.take k, v.o ≠ t.o) : fstN ts t.o = t.p := by
 unfold fstN
 rw [← List.take_append_drop k ts, List.find?_append, List.find?_eq_none.2 (fun v hv => by simpa using hn v hv), drop_at h]
 simp
theorem fst_old {ts : List (Tp Tx)} {k : Nat} {o : Tx} (hn : ∃ v ∈ ts.take k, v.o = o) : ∃ u ∈ ts.take k, fstN ts o = u.p := by
 unfold fstN
 cases hf : (ts.take k).find? (fun t => decide (t.o = o)) with
 | none =>
  obtain ⟨v, hv, e⟩ := hn
  exact absurd (List.find?_eq_none.1 hf v hv) (by simp [e])
 | some u =>
  refine ⟨u, List.mem_of_find?_eq_some hf, ?_⟩
  rw [← List.take_append_drop k ts, List.find?_append, hf]
  rfl
theorem at_addN {s : Wk} {i j : Nat} {p : Tx} : (addN s i p).at_ j = if i = j then some s.list.length else s.at_ j := by
 unfold Wk.at_ addN
 simp only [List.find?_cons]
 by_cases h : i = j
 ·rw [if_pos h]; simp [h]
 ·rw [if_neg h]; simp [h]
theorem at_addF {s : Wk} {f j : Nat} {p : Tx} : (addF s f p).at_ j = s.at_ j := rfl
theorem Wi.start {ts : List (Tp Tx)} {ns : List No} {ino : Tx → Nat} (W : Wt ts ns ino) : Wi ts ns.length ino 0 (St ts ino 0) := by
 obtain ⟨n, hn, -⟩ := W.root
 have h0 := (List.getElem?_eq_some_iff.1 hn).1
 refine ⟨⟨?_, ?_, ?_, ?_, ?_⟩, rfl, fun u hu => ?_, fun u hu j e => ?_⟩
 ·show [0].Nodup; simp
 ·intro x hx
  have hx : x ∈ [(0, 0)] := hx
  rw [List.mem_singleton] at hx
  subst hx
  exact ⟨h0, by show 0 < 1; omega⟩
 ·show 1 ≤ 16385; omega
 ·intro x hx
  have hx : x ∈ [(⟨[], .inl 0⟩ : Le)] := hx
  rw [List.mem_singleton] at hx
  subst hx
  exact Nat.zero_le _
 ·intro x hx q hq
  have hx : x ∈ [(⟨[], .inl 0⟩ : Le)] := hx
  rw [List.mem_singleton] at hx
  subst hx
  cases hq
 ·have := W.ino0 u hu
  have e : (St ts ino 0).at_ (ino u.o) = none := by
   show (addN ⟨[], []⟩ 0 []).at_ (ino u.o) = none
   rw [at_addN, if_neg (by omega)]; rfl
  rw [e]
  simp
 ·have := W.ino0 u hu
  have e2 : (St ts ino 0).at_ (ino u.o) = none := by
   show (addN ⟨[], []⟩ 0 []).at_ (ino u.o) = none
   rw [at_addN, if_neg (by omega)]; rfl
  rw [e2] at e
  cases e
theorem Wi.next {ts : List (Tp Tx)} {ns : List No} {ino : Tx → Nat} (W : Wt ts ns ino) {k : Nat} {t : Tp Tx} (h : ts[k]? = some t) {s : Wk} (I : Wi ts ns.length ino k s) : Wi ts ns.length ino (k + 1) (wst ino s t) := by
 have htm : t ∈ ts := List.mem_of_getElem? h
 have hk := (List.getElem?_eq_some_iff.1 h).1
 have hl : s.list.length = k + 1 := by rw [I.list, List.length_cons, List.length_map, List.length_take]; omega
 have hl2 : s.list.length ≤ 16384 := by have := W.len; omega
 obtain ⟨n, hn, -, -, -⟩ := W.nd t htm
 have hi := (List.getElem?_eq_some_iff.1 hn).1
 unfold wst
 cases ha : s.at_ (ino t.o) with
 | none =>
  simp only
  have hnew := (I.new t htm).1 ha
  have hf := fst_new h hnew
  refine ⟨I.ok.addN hi (W.path t htm).2.1 hl2 ha, ?_, fun u hu => ?_, fun u hu j e => ?_⟩
  ·show s.list ++ [_] = _
   rw [I.list, take_succ' h, List.map_append]
   show _ = _ :: (_ ++ [leT ts ino t])
   unfold leT
   rw [if_pos hf]; rfl
  ·rw [at_addN, take_succ' h]
   by_cases e : ino t.o = ino u.o
   ·rw [if_pos e]
    have eo := W.ino1 t htm u hu e
    constructor
    ·intro c; cases c
    ·intro c; exact absurd eo (c t (by simp))
   ·rw [if_neg e, I.new u hu]
    constructor
    ·intro c v hv
     rcases List.mem_append.1 hv with hv | hv
     ·exact c v hv
     ·rw [List.mem_singleton] at hv; subst hv; exact fun eo => e (by rw [eo])
    ·intro c v hv; exact c v (by simp [hv])
  ·rw [at_addN] at e
   show ((s.list ++ [_])[j]?.map Le.path).getD [] = _
   by_cases e2 : ino t.o = ino u.o
   ·rw [if_pos e2] at e
    injection e with e
    subst e
    rw [List.getElem?_append_right (Nat.le_refl _), Nat.sub_self, ← W.ino1 t htm u hu e2, hf]
    rfl
   ·rw [if_neg e2] at e
    rw [List.getElem?_append_left (I.ok.at_lt e)]
    exact I.old u hu j e
 | some f =>
  simp only
  have hex : ∃ v ∈ ts.take k, v.o = t.o := by
   apply Classical.byContradiction
   intro c
   have := (I.new t htm).2 fun v hv e => c ⟨v, hv, e⟩
   rw [ha] at this
   cases this
  have hfo := I.old t htm f ha
  have hne : fstN ts t.o ≠ t.p := by
   obtain ⟨u, hu, e⟩ := fst_old hex
   obtain ⟨i, hi, hiu⟩ := mem_take_iff.1 hu
   intro c
   have := W.once hiu h (by rw [← e, c])
   omega
  refine ⟨I.ok.addF (W.path t htm).2.1 hl2, ?_, fun u hu => ?_, fun u hu j e => ?_⟩
  ·show s.list ++ [_] = _
   rw [hfo]
   rw [I.list, take_succ' h, List.map_append]
   show _ = _ :: (_ ++ [leT ts ino t])
   unfold leT
   rw [if_neg hne]; rfl
  ·rw [at_addF, I.new u hu, take_succ' h]
   constructor
   ·intro c v hv
    rcases List.mem_append.1 hv with hv | hv
    ·exact c v hv
    ·rw [List.mem_singleton] at hv
     subst hv
     obtain ⟨v2, hv2, e2⟩ := hex
     rw [← e2]; exact c v2 hv2
   ·intro c v hv; exact c v (by simp [hv])
  ·rw [at_addF] at e
   show ((s.list ++ [_])[j]?.map Le.path).getD [] = _
   rw [List.getElem?_append_left (I.ok.at_lt e)]
   exact I.old u hu j e
theorem Wi.all {ts : List (Tp Tx)} {ns : List No} {ino : Tx → Nat} (W : Wt ts ns ino) : ∀ k, k ≤ ts.length → Wi ts ns.length ino k (St ts ino k)
 | 0, _ => Wi.start W
 | k + 1, h => by
  have e := List.getElem?_eq_getElem (l := ts) (i := k) (by omega)
  rw [St_next e]
  exact Wi.next W e (Wi.all W k (by omega))
def MeetOk (ts : List (Tp Tx)) (ns : List No) (ino : Tx → Nat) (f : Nat) : Prop := ∀ (k : Nat) (t : Tp Tx) (R : List (Tp Tx)), k ≤ ts.length → pend ts k = t :: R → ns.length - (St ts ino k).met.length < f →
  ∃ k', k' ≤ ts.length ∧ meetP ns f (St ts ino k) (ino t.o) t.p = some (St ts ino k') ∧ pend ts k' = R
theorem kids_ok {ts : List (Tp Tx)} {ns : List No} {ino : Tx → Nat} (W : Wt ts ns ino) {f : Nat} (A : MeetOk ts ns ino f) (q : Tx) : ∀ (K : List (Tp Tx)) (k : Nat) (R : List (Tp Tx)), (∀ t ∈ K, t ∈ ts ∧ upT t.p = q) → k ≤ ts.length → pend ts k = K ++ R → ns.length - (St ts ino k).met.length < f →
  ∃ k', k' ≤ ts.length ∧ kidsP (meetP ns f) (ahd q) (K.map (kdT ino)) (St ts ino k) = some (St ts ino k') ∧ pend ts k' = R
 | [], k, R, hK, hk, hp, hf => ⟨k, hk, rfl, hp⟩
 | t :: K, k, R, hK, hk, hp, hf => by
  obtain ⟨htm, hu⟩ := hK t (by simp)
  have hpt := W.path t htm
  obtain ⟨k1, hk1, e1, p1⟩ := A k t (K ++ R) hk hp hf
  have hm := (meetP_ok f _ _ _ _ (Wi.all W k hk).ok e1).2
  obtain ⟨k2, hk2, e2, p2⟩ := kids_ok W A q K k1 R (fun u hu => hK u (by simp [hu])) hk1 p1 (by omega)
  refine ⟨k2, hk2, ?_, p2⟩
  rw [List.map_cons]
  unfold kidsP
  have e3 : ahd q ++ (kdT ino t).n = t.p := by rw [← hu]; exact hpt.2.2.1
  rw [if_pos (show vld (kdT ino t).n = true from hpt.2.2.2), e3]
  show (match meetP ns f (St ts ino k) (ino t.o) t.p with
   | none => none
   | some s' => kidsP (meetP ns f) (ahd q) (K.map (kdT ino)) s') = _
  rw [e1]
  exact e2
theorem meet_ok {ts : List (Tp Tx)} {ns : List No} {ino : Tx → Nat} (W : Wt ts ns ino) : ∀ f, MeetOk ts ns ino f
 | 0, k, t, R, hk, hp, hf => by omega
 | f + 1, k, t, R, hk, hp, hf => by
  obtain ⟨ht, rfl⟩ := pend_some W hp
  have htm : t ∈ ts := List.mem_of_getElem? ht
  have hkl := (List.getElem?_eq_some_iff.1 ht).1
  have I := Wi.all W k hk
  have hl : (St ts ino k).list.length = k + 1 := by rw [I.list, List.length_cons, List.length_map, List.length_take]; omega
  have hpt := W.path t htm
  have hlen := W.len
  obtain ⟨n, hn, hc, h2, hkids⟩ := W.nd t htm
  have hnx := pend_next W ht
  have hst := St_next (ino := ino) ht
  unfold meetP
  rw [if_pos ⟨Int.natCast_nonneg _, hpt.2.1, by omega⟩]
  rw [Int.toNat_natCast, hn]
  simp only
  cases ha : (St ts ino k).at_ (ino t.o) with
  | some j =>
   simp only
   have hd : ¬ t.dir = true := fun hd => by
    have : ¬ ∀ v ∈ ts.take k, v.o ≠ t.o := fun c => by rw [(I.new t htm).2 c] at ha; cases ha
    apply this
    intro v hv e
    obtain ⟨i, hi, hiv⟩ := mem_take_iff.1 hv
    have := W.dir1 t htm v (List.mem_of_getElem? hiv) hd e
    have := W.once hiv ht this
    omega
   rw [if_neg (fun c => hd (h2.1 c))]
   rw [if_neg hd, List.nil_append] at hnx
   refine ⟨k + 1, hkl, ?_, hnx⟩
   rw [hst]
   unfold wst
   rw [ha]
  | none =>
   simp only
   have hw : wst ino (St ts ino k) t = addN (St ts ino k) (ino t.o) t.p := by unfold wst; rw [ha]
   rw [hw] at hst
   by_cases hd : t.dir = true
   ·rw [if_pos (h2.2 hd), hkids hd, ← hst]
    rw [if_pos hd] at hnx
    have hfew := I.ok.fewer (List.getElem?_eq_some_iff.1 hn).1 ha
    have hml : (St ts ino (k + 1)).met.length = (St ts ino k).met.length + 1 := by rw [hst]; rfl
    exact kids_ok W (meet_ok W f) t.p _ (k + 1) _ (fun u hu => by
     obtain ⟨a, b⟩ := List.mem_filter.1 hu
     exact ⟨a, of_decide_eq_true b⟩) hkl hnx (by omega)
   ·rw [if_neg (fun c => hd (h2.1 c))]
    rw [if_neg hd, List.nil_append] at hnx
    exact ⟨k + 1, hkl, by rw [hst], hnx⟩
theorem walk_all {ts : List (Tp Tx)} {ns : List No} {ino : Tx → Nat} (W : Wt ts ns ino) (f : Nat) (hf : ns.length ≤ f) : ∃ s, meetP ns (f + 1) ⟨[], []⟩ 0 [] = some s ∧ s.list = ⟨[], .inl 0⟩ :: ts.map (leT ts ino) := by
 obtain ⟨n, hn, h2, hk⟩ := W.root
 have hn0 := (List.getElem?_eq_some_iff.1 hn).1
 have e0 : pend ts 0 = (ts.filter fun u => decide (upT u.p = [])) ++ [] := by
  unfold pend
  rw [List.append_nil, List.drop_zero]
  congr 1
  funext x
  unfold cnd
  simp
 obtain ⟨k', hk', e1, p1⟩ := kids_ok W (meet_ok W f) [] _ 0 [] (fun u hu => by
  obtain ⟨a, b⟩ := List.mem_filter.1 hu
  exact ⟨a, of_decide_eq_true b⟩) (Nat.zero_le _) e0 (by show ns.length - 1 < f; omega)
 have hend := pend_end W p1
 obtain rfl : k' = ts.length := by omega
 refine ⟨St ts ino ts.length, ?_, ?_⟩
 ·unfold meetP
  rw [if_pos ⟨Int.le_refl _, Nat.zero_le _, Nat.zero_le _⟩]
  show (match ns[0]? with
   | none => none
   | some n => match (⟨[], []⟩ : Wk).at_ 0 with
    | some j => if n.k = 2 then none else some (addF ⟨[], []⟩ j [])
    | none => if n.k = 2 then kidsP (meetP ns f) (ahd []) n.kids (addN ⟨[], []⟩ 0 []) else some (addN ⟨[], []⟩ 0 [])) = _
  rw [hn]
  show (if n.k = 2 then kidsP (meetP ns f) (ahd []) n.kids (addN ⟨[], []⟩ 0 []) else some (addN ⟨[], []⟩ 0 [])) = _
  rw [if_pos h2, hk]
  exact e1
 ·have := (Wi.all W ts.length (Nat.le_refl _)).list
  rw [List.take_length] at this
  exact this
def coreN (n : No) : No := { n with kids := [], parent := 0, links := 0 }
def coreAt (ns : List No) (j : Nat) : Option No := (ns[j]?).map coreN
theorem core_modify {ns : List No} {i j : Nat} {f : No → No} (h : ∀ n, coreN (f n) = coreN n) : coreAt (ns.modify i f) j = coreAt ns j := by
 unfold coreAt
 rw [List.getElem?_modify]
 cases e : ns[j]? with
 | none => simp
 | some n =>
  by_cases hij : i = j
  ·simp [hij, h]
  ·simp [hij]
theorem core_bst {α : Type} [DecidableEq α] (s : Bs α) (t : Tp α) (j : Nat) : coreAt (bst s t).ns j = coreAt (newO s t).ns j := by
 have e1 : ∀ ns i, coreAt (addLink i ns) j = coreAt ns j := fun ns i => core_modify (f := fun n => { n with links := n.links + 1 }) fun _ => rfl
 have e2 : ∀ ns i u, coreAt (setUp i u ns) j = coreAt ns j := fun ns i u => core_modify (f := fun n => { n with parent := (u : Nat) }) fun _ => rfl
 have e3 : ∀ ns i c, coreAt (addKid i c ns) j = coreAt ns j := fun ns i c => core_modify (f := fun n => { n with kids := n.kids ++ [c] }) fun _ => rfl
 unfold bst
 simp only
 split
 ·rw [e1, e2, e3]
 ·rw [e1, e3]
theorem core_new {α : Type} [DecidableEq α] {s : Bs α} {t : Tp α} (hl : s.ns.length = s.os.length + 1) {j : Nat} (hj : j ≤ s.os.length) : coreAt (newO s t).ns j = coreAt s.ns j := by
 unfold newO
 split
 ·rfl
 ·unfold coreAt
  rw [List.getElem?_append_left (by omega)]
theorem idx_lt {α : Type} {os : List (α × Option Tx)} {p : (α × Option Tx) → Bool} (h : ∃ x ∈ os, p x = true) : ∃ j, os.findIdx? p = some j ∧ j < os.length := by
 cases e : os.findIdx? p with
 | none =>
  rw [List.findIdx?_eq_none_iff] at e
  obtain ⟨x, hx, k⟩ := h
  have := e x hx
  rw [k] at this
  cases this
 | some j =>
  refine ⟨j, rfl, ?_⟩
  rw [List.findIdx?_eq_some_iff_getElem] at e
  exact e.1
theorem inoOf_le {α : Type} [DecidableEq α] {os : List (α × Option Tx)} {o : α} (h : ∃ x ∈ os, x.1 = o) : 1 ≤ inoOf os o ∧ inoOf os o ≤ os.length := by
 obtain ⟨x, hx, k⟩ := h
 obtain ⟨j, e, hj⟩ := idx_lt (p := fun x => decide (x.1 = o)) ⟨x, hx, decide_eq_true k⟩
 unfold inoOf
 rw [e]
 simp only
 omega
structure Kc {α : Type} [DecidableEq α] (root : No) (us : List (Tp α)) (s : Bs α) : Prop where
 met : Met us s.os
 len : s.ns.length = s.os.length + 1
 root : coreAt s.ns 0 = some (coreN root)
 core : ∀ u ∈ us, coreAt s.ns (inoOf s.os u.o) = some (coreN u.nd)
theorem Kc.step {α : Type} [DecidableEq α] {root : No} {us : List (Tp α)} {s : Bs α} (h : Kc root us s) (t : Tp α) (hs : ∀ u ∈ us, u.o = t.o → u.nd = t.nd) : Kc root (us ++ [t]) (bst s t) := by
 have hso : (bst s t).os = (newO s t).os := rfl
 obtain ⟨q, hq, -⟩ := newO_os s t
 refine ⟨by rw [hso]; exact h.met.step t, by rw [len_bst, hso]; exact len_newO t h.len, ?_, fun u hu => ?_⟩
 ·rw [core_bst, core_new h.len (Nat.zero_le _)]
  exact h.root
 ·rw [core_bst, hso]
  have old : ∀ v ∈ us, coreAt (newO s t).ns (inoOf (newO s t).os v.o) = some (coreN v.nd) := by
   intro v hv
   have hm := h.met.has v hv
   rw [hq, inoOf_app hm, core_new h.len (inoOf_le hm).2]
   exact h.core v hv
  rcases List.mem_append.1 hu with k | k
  ·exact old u k
  ·rw [List.mem_singleton.1 k]
   by_cases hin : s.os.any (fun x => decide (x.1 = t.o)) = true
   ·obtain ⟨x, hx, e⟩ := List.any_eq_true.1 hin
    obtain ⟨v, hv, e2⟩ := h.met.own x hx
    have e3 : v.o = t.o := by rw [← e2]; exact of_decide_eq_true e
    have := old v hv
    rw [e3, hs v hv e3] at this
    exact this
   ·have e1 : (newO s t).os = s.os ++ [(t.o, if t.dir = true then some t.p else none)] := by unfold newO; rw [if_neg hin]
    have e2 : (newO s t).ns = s.ns ++ [{ t.nd with links := if t.dir = true then 2 else 0 }] := by unfold newO; rw [if_neg hin]
    have e3 : inoOf (newO s t).os t.o = s.os.length + 1 := by
     unfold inoOf
     rw [e1, List.findIdx?_append]
     have : s.os.findIdx? (fun x => decide (x.1 = t.o)) = none := by
      rw [List.findIdx?_eq_none_iff]
      intro x hx
      cases hc : decide (x.1 = t.o) with
      | false => rfl
      | true => exact absurd (List.any_eq_true.2 ⟨x, hx, hc⟩) hin
     rw [this]
     simp
    rw [e3, e2]
    unfold coreAt
    rw [List.getElem?_append_right (by rw [h.len]; omega), h.len]
    simp [coreN]
theorem bld_core {α : Type} [DecidableEq α] {root : No} {ts : List (Tp α)} (hs : ∀ u ∈ ts, ∀ v ∈ ts, u.o = v.o → u.nd = v.nd) : Kc root ts (ts.foldl bst ⟨[], [{ root with links := 2 }]⟩) := by
 have key : ∀ (vs us : List (Tp α)) (s : Bs α), ts = us ++ vs → Kc root us s → Kc root ts (vs.foldl bst s) := by
  intro vs
  induction vs with
  | nil => intro us s e h; rw [List.append_nil] at e; rw [e]; exact h
  | cons t vs ih =>
   intro us s e h
   rw [List.foldl_cons]
   exact ih (us ++ [t]) (bst s t) (by rw [e]; simp) (h.step t fun u hu k => hs u (by rw [e]; simp [hu]) t (by rw [e]; simp) k)
 refine key ts [] _ rfl ⟨⟨fun x h => (by cases h), fun x h => (by cases h), fun u h => (by cases h), fun za bs u e => by simp at e⟩, rfl, rfl, fun u h => (by cases h)⟩
theorem canon_core {l : List En} (ok : OkS l) : Kc (ndOf (look l [])) (trs l) ((trs l).foldl bst ⟨[], [{ ndOf (look l []) with links := 2 }]⟩) := bld_core fun u hu v hv e => (nm_same ok (nm_of ok hu) (nm_of ok hv) e).1
theorem os_from {ts : List (Tp Tx)} {r : No} : ∀ x ∈ (ts.foldl bst ⟨[], [r]⟩).os, ∃ t ∈ ts, x.1 = t.o ∧ x.2 = if t.dir = true then some t.p else none := by
 have key : ∀ (vs : List (Tp Tx)) (s : Bs Tx) (P : (Tx × Option Tx) → Prop), (∀ x ∈ s.os, P x) → (∀ t ∈ vs, P (t.o, if t.dir = true then some t.p else none)) → ∀ x ∈ (vs.foldl bst s).os, P x := by
  intro vs
  induction vs with
  | nil => intro s P h _ x hx; exact h x hx
  | cons t vs ih =>
   intro s P h k x hx
   refine ih (bst s t) P (fun y hy => ?_) (fun u hu => k u (by simp [hu])) x hx
   rcases newO_dir s t y hy with h1 | ⟨h1, h2⟩
   ·exact h y h1
   ·have := k t (by simp)
    rw [← h1, ← h2] at this
    exact this
 intro x hx
 exact key ts ⟨[], [r]⟩ (fun x => ∃ t ∈ ts, x.1 = t.o ∧ x.2 = if t.dir = true then some t.p else none) (fun x h => by cases h) (fun t ht => ⟨t, ht, rfl, rfl⟩) x hx
theorem ino_inj {os : List (Tx × Option Tx)} {a b : Tx} (ha : ∃ x ∈ os, x.1 = a) (hb : ∃ x ∈ os, x.1 = b) (e : inoOf os a = inoOf os b) : a = b := by
 obtain ⟨x, hx, ea⟩ := ha
 obtain ⟨y, hy, eb⟩ := hb
 obtain ⟨i, hi, hil⟩ := idx_lt (p := fun x : Tx × Option Tx => decide (x.1 = a)) ⟨x, hx, decide_eq_true ea⟩
 obtain ⟨j, hj, hjl⟩ := idx_lt (p := fun x : Tx × Option Tx => decide (x.1 = b)) ⟨y, hy, decide_eq_true eb⟩
 unfold inoOf at e
 rw [hi, hj] at e
 simp only at e
 obtain rfl : i = j := by omega
 rw [List.findIdx?_eq_some_iff_getElem] at hi hj
 have h1 := of_decide_eq_true hi.2.1
 have h2 := of_decide_eq_true hj.2.1
 rw [← h1, h2]
theorem up_ino {os : List (Tx × Option Tx)} {q o : Tx} (h : ∀ x ∈ os, x.1 = o ↔ x.2 = some q) : upOf os q = inoOf os o := by
 unfold upOf inoOf
 rw [findIdx_congr (l := os) (p := fun x => decide (x.2 = some q)) (q := fun x => decide (x.1 = o)) fun x hx => by
  have := h x hx
  by_cases e : x.1 = o
  ·rw [decide_eq_true e, decide_eq_true (this.1 e)]
  ·rw [decide_eq_false e, decide_eq_false (fun c => e (this.2 c))]]
theorem path_form {x : En} (h : pth x = 0) (hn : x.path ≠ []) : x.path.length ≤ 4096 ∧ ahd (upT x.path) ++ lastT x.path = x.path ∧ vld (lastT x.path) = true := by
 unfold pth at h
 rw [if_neg hn] at h
 split at h
 ·cases h
 ·split at h
  ·cases h
  ·rename_i hv
   split at h
   ·cases h
   ·rename_i h3
    have hj2 : (jnp (spl x.path).1).2 = 0 := Classical.byContradiction fun e => h3 (Or.inl e)
    have hj1 : (jnp (spl x.path).1).1 = x.path := Classical.byContradiction fun e => h3 (Or.inr e)
    obtain ⟨k1, k2, k3, k4⟩ := jnp_ok hj2
    have hv2 : ∀ p ∈ (spl x.path).1, vld p = true := fun p hp => by
     cases hq : vld p with
     | true => rfl
     | false => exact absurd (List.any_eq_true.2 ⟨p, hp, by rw [hq]; rfl⟩) hv
    generalize (spl x.path).1 = L at *
    rw [k4] at hj1
    rcases List.eq_nil_or_concat L with e | ⟨M, y, e⟩
    ·subst e
     exact absurd hj1.symm hn
    ·rw [List.concat_eq_append] at e
     subst e
     have hy : ∀ c ∈ y, c ≠ 47 := fun c hc => ((prt_facts (k2 y (by simp))).1 c hc).1
     have hvy := hv2 y (by simp)
     by_cases hM : M = []
     ·subst hM
      have e : joi ([] ++ [y]) = y := rfl
      rw [e] at hj1 k3
      rw [← hj1]
      obtain ⟨u1, u2⟩ := up_one hy
      rw [u1, u2]
      exact ⟨k3, rfl, hvy⟩
     ·rw [joi_snoc M y hM] at hj1 k3
      rw [← hj1]
      obtain ⟨u1, u2⟩ := up_app (a := joi M) hy
      rw [u1, u2]
      refine ⟨k3, ?_, hvy⟩
      unfold ahd
      rw [if_neg]
      ·simp
      ·intro e
       have hs := jnp_of (l := M) (by simp at k1; omega) (fun p hp => k2 p (by simp [hp])) (by rw [List.length_append] at k3; omega)
       cases M with
       | nil => exact hM rfl
       | cons a r =>
        have hva := hv2 a (by simp)
        cases r with
        | nil =>
         have e : a = [] := e
         rw [e] at hva
         simp [vld] at hva
        | cons b r =>
         have e : a ++ 47 :: joi (b :: r) = [] := e
         simp at e
theorem nm_k2 {l : List En} {t : Tp Tx} (h : Nm l t) : t.nd.k = 2 ↔ t.dir = true := by
 obtain ⟨y, hy, a1, a2, a3, a4⟩ := h.y
 rw [a3, a4, decide_eq_true_iff]
 exact Iff.rfl
theorem canon_wt {l : List En} (ok : OkS l) (hl : l.length ≤ 16384) : Wt (trs l) (canon l) (inoOf ((trs l).foldl bst ⟨[], [{ ndOf (look l []) with links := 2 }]⟩).os) := by
 obtain ⟨os, K, hos⟩ := canon_kids ok
 have C := canon_core ok
 have hF : ∀ x ∈ os, ∃ t ∈ trs l, x.1 = t.o ∧ x.2 = if t.dir = true then some t.p else none := by rw [← hos]; exact os_from
 rw [canon_trs]
 unfold bld
 generalize (trs l).foldl bst ⟨[], [{ ndOf (look l []) with links := 2 }]⟩ = s at *
 subst hos
 have hsort := psL_sorted ok.rt
 rw [← trs_paths, List.pairwise_map] at hsort
 have hroot : ∀ x ∈ s.os, x.2 ≠ some [] := fun x hx e => by
  obtain ⟨t, ht, e1, e2⟩ := hF x hx
  rw [e] at e2
  split at e2
  ·injection e2 with e2
   exact (nm_of ok ht).ne e2.symm
  ·cases e2
 have hdir1 : ∀ t ∈ trs l, ∀ u ∈ trs l, t.dir = true → u.o = t.o → u.p = t.p := fun t ht u hu hd e => by
  have h1 := nm_dir ok ht hd
  have h2 := nm_dir ok hu (by rw [(nm_same ok (nm_of ok hu) (nm_of ok ht) e).2]; exact hd)
  rw [← h1, ← h2, e]
 have hup : ∀ t ∈ trs l, t.dir = true → upOf s.os t.p = inoOf s.os t.o := fun t ht hd => up_ino fun x hx => by
  obtain ⟨u, hu, e1, e2⟩ := hF x hx
  rw [e1, e2]
  constructor
  ·intro e
   rw [if_pos (by rw [(nm_same ok (nm_of ok hu) (nm_of ok ht) e).2]; exact hd), hdir1 t ht u hu hd e]
  ·intro e
   split at e
   ·injection e with e
    rw [trs_inj hu ht e]
   ·cases e
 have hahead : ∀ (k : Nat) (t : Tp Tx), (trs l)[k]? = some t → upT t.p = [] ∨ ∃ u ∈ (trs l).take k, u.dir = true ∧ u.p = upT t.p := fun k t ht => by
  have e : trs l = (trs l).take k ++ t :: (trs l).drop (k + 1) := by rw [← drop_at ht, List.take_append_drop]
  rcases trs_ahead ok _ _ t e with h | ⟨u, hu, h1, h2, -⟩
  ·exact Or.inl h
  ·exact Or.inr ⟨u, hu, h1, h2⟩
 -- a name is in which folder
 have hin : ∀ u ∈ trs l, ∀ t ∈ trs l, t.dir = true → (upOf s.os (upT u.p) = inoOf s.os t.o ↔ upT u.p = t.p) := fun u hu t ht hd => by
  constructor
  ·intro e
   obtain ⟨k, hk⟩ := List.mem_iff_getElem?.1 hu
   rcases hahead k u hk with h | ⟨v, hv, h1, h2⟩
   ·rw [h, upOf_none hroot] at e
    have := (inoOf_le (K.met.has t ht)).1
    omega
   ·have hvm := List.mem_of_mem_take hv
    rw [← h2, hup v hvm h1] at e
    rw [← h2]
    exact hdir1 t ht v hvm hd (ino_inj (K.met.has v hvm) (K.met.has t ht) e)
  ·intro e
   rw [e]; exact hup t ht hd
 have hin0 : ∀ u ∈ trs l, (upOf s.os (upT u.p) = 0 ↔ upT u.p = []) := fun u hu => by
  constructor
  ·intro e
   obtain ⟨k, hk⟩ := List.mem_iff_getElem?.1 hu
   rcases hahead k u hk with h | ⟨v, hv, h1, h2⟩
   ·exact h
   ·have hvm := List.mem_of_mem_take hv
    rw [← h2, hup v hvm h1] at e
    have := (inoOf_le (K.met.has v hvm)).1
    omega
  ·intro e
   rw [e]; exact upOf_none hroot
 have hkid : ∀ (j : Nat) (n : No), s.ns[j]? = some n → n.kids = ((trs l).filter fun t => decide (upOf s.os (upT t.p) = j)).map (kdT (inoOf s.os)) := fun j n hn => by
  have hj := (List.getElem?_eq_some_iff.1 hn).1
  have := K.kids j (by have := K.len; omega)
  unfold kidsAt at this
  rw [hn] at this
  injection this with this
 have hcore : ∀ (a b : No), coreN a = coreN b → (∀ p, enOf p a = enOf p b) ∧ a.k = b.k := fun a b e => by
  have h1 : ∀ n p, enOf p n = enOf p (coreN n) := fun n p => rfl
  exact ⟨fun p => by rw [h1 a, h1 b, e], (congrArg No.k e : (coreN a).k = (coreN b).k)⟩
 refine ⟨hsort, hahead, fun t ht => ?_, fun t ht => ?_, hdir1, fun t ht u hu e => ino_inj (K.met.has t ht) (K.met.has u hu) e, fun t ht => (inoOf_le (K.met.has t ht)).1, fun t ht => ?_, ?_, ?_⟩
 ·have nt := nm_of ok ht
  obtain ⟨x, hx, hxp, -⟩ := nt.x
  have := path_form (ok.each x hx).path (by rw [hxp]; exact nt.ne)
  rw [hxp] at this
  exact ⟨nt.ne, this⟩
 ·have nt := nm_of ok ht
  obtain ⟨x, hx, hxp, -⟩ := nt.x
  have := up_parts (ok.each x hx).path (by rw [hxp]; exact nt.ne)
  rw [hxp] at this
  exact this
 ·have hc := C.core t ht
  unfold coreAt at hc
  cases hn : s.ns[inoOf s.os t.o]? with
  | none => rw [hn] at hc; cases hc
  | some n =>
   rw [hn] at hc
   injection hc with hc
   obtain ⟨h1, h2⟩ := hcore _ _ hc
   refine ⟨n, rfl, h1, by rw [h2]; exact nm_k2 (nm_of ok ht), fun hd => ?_⟩
   rw [hkid _ n hn]
   congr 1
   apply List.filter_congr
   intro u hu
   have := hin u hu t ht hd
   by_cases e : upT u.p = t.p
   ·rw [decide_eq_true e, decide_eq_true (this.2 e)]
   ·rw [decide_eq_false e, decide_eq_false (fun c => e (this.1 c))]
 ·have hc := C.root
  unfold coreAt at hc
  cases hn : s.ns[0]? with
  | none => rw [hn] at hc; cases hc
  | some n =>
   rw [hn] at hc
   injection hc with hc
   obtain ⟨h1, h2⟩ := hcore _ _ hc
   refine ⟨n, rfl, by rw [h2]; exact (root_ok ok).1, ?_⟩
   rw [hkid _ n hn]
   congr 1
   apply List.filter_congr
   intro u hu
   have := hin0 u hu
   by_cases e : upT u.p = []
   ·rw [decide_eq_true e, decide_eq_true (this.2 e)]
   ·rw [decide_eq_false e, decide_eq_false (fun c => e (this.1 c))]
 ·have h1 : (trs l).length = ((trs l).map Tp.p).length := by rw [List.length_map]
  rw [trs_paths] at h1
  unfold psL at h1
  rw [List.length_map] at h1
  have A := (ordr_acc ok.rt ((pths l).length + 1) [] (Acc.nil _) (by have := left_le (pths l) []; omega)).1
  have : (ordL (pths l)).length ≤ l.length := nodup_le (n := l.length) (by
   have h3 : ((ordL (pths l)).map fun i => (pths l).getD i []).Nodup := pairwise_nodup (psL_sorted ok.rt)
   exact (List.pairwise_map.1 h3).imp fun hne e => hne (by rw [e])) fun i hi => by
    obtain ⟨x, hx, -⟩ := ordL_lt ok hi
    exact (List.getElem?_eq_some_iff.1 hx).1
  omega
def enL (ns : List No) (x : Le) : En := match x.src with
 | .inl i => enOf x.path ((ns[i]?).getD ⟨0, 0, 0, 0, 0, 0, [], [], 0, [], [], 0, 0⟩)
 | .inr q => hrd x.path q
theorem list_canon {l : List En} (ok : OkS l) (hl : l.length ≤ 16384) (f : Nat) (hf : (canon l).length ≤ f) : ∃ s, meetP (canon l) (f + 1) ⟨[], []⟩ 0 [] = some s ∧ s.list.map (enL (canon l)) = lstL l := by
 have W := canon_wt ok hl
 obtain ⟨s, hs, e⟩ := walk_all W f hf
 refine ⟨s, hs, ?_⟩
 rw [e]
 unfold lstL mkL
 rw [List.map_cons, List.map_map]
 congr 1
 ·obtain ⟨n, hn, -, -⟩ := W.root
  show enOf [] (((canon l)[0]?).getD _) = _
  have hc := (canon_core ok).root
  rw [canon_trs] at hn ⊢
  unfold bld at hn ⊢
  unfold coreAt at hc
  rw [hn] at hc ⊢
  injection hc with hc
  have h1 : ∀ n p, enOf p n = enOf p (coreN n) := fun n p => rfl
  show enOf [] n = _
  rw [h1 n, h1 (ndOf _), hc]
 ·apply List.map_congr_left
  intro t ht
  obtain ⟨n, hn, h1, -, -⟩ := W.nd t ht
  show enL (canon l) (leT _ _ t) = mkE _ t
  unfold leT mkE enL
  by_cases hc : fstN (trs l) t.o = t.p
  ·rw [if_pos hc, if_pos hc]
   show enOf t.p (((canon l)[inoOf _ t.o]?).getD _) = _
   rw [hn]
   exact h1 t.p
  ·rw [if_neg hc, if_neg hc]
end Go.Proofs.YtlehncfehoelbaaGreatDoor
namespace Go.Proofs.YtlehncfehoelbaaGreatDoor
open Go.RowKit
set_option maxRecDepth 100000
open Go.Maps (Keyed)
set_option linter.unusedSimpArgs false
set_option linter.unusedVariables false
structure Ncp (N : NoV) : Prop where
 d : N.dl ≤ N.dc
 a : N.al ≤ N.ac
 t : N.target.size ≤ 9223372036854775807
 n : ∀ A ∈ N.attrs, A.n.size ≤ 9223372036854775807
 k : ∀ k ∈ N.kids, k.n.length ≤ 1000000
def nz : NoV := ⟨0, 0, 0, 0, 0, 0, none, 0, 0, [], tx [], 0, none, 0, 0, [], none, 0, 0, [], 0, 0⟩
def hrv (p q : ByteArray) : EnV := ⟨p, 6, 0, 0, 0, 0, 0, none, 0, 0, [], q, 0, none, 0, 0, []⟩
def evL (ns : List NoV) (x : Le) : EnV := match x.src with
 | .inl i => ((ns[i]?).getD nz).ent (tx x.path)
 | .inr q => hrv (tx x.path) (tx q)
theorem ent_en (N : NoV) (p : Tx) : (N.ent (tx p)).en = enOf p N.no := by
 unfold NoV.ent EnV.en enOf NoV.no
 simp only [tx_tl]
theorem evL_en (ns : List NoV) (x : Le) : (evL ns x).en = enL (nos ns) x := by
 unfold evL enL
 cases hx : x.src with
 | inl i =>
  simp only [ent_en]
  unfold nos
  rw [List.getElem?_map]
  cases hn : ns[i]? with
  | none =>
   simp only [Option.getD_none, Option.map_none]
   unfold nz NoV.no
   simp only [tx_tl]; rfl
  | some N => rfl
 | inr q =>
  show (hrv (tx x.path) (tx q)).en = hrd x.path q
  unfold hrv hrd EnV.en
  simp only [tx_tl]; rfl
theorem evL_path (ns : List NoV) (x : Le) : (evL ns x).path = tx x.path := by
 unfold evL
 split <;> rfl
theorem row_none0 (w : World) : Row w none 0 [] := row_zero none
theorem ats_none (w : World) : Ats w none 0 [] := ⟨rfl, Nat.zero_le _, fun h => absurd h (by omega)⟩
theorem evL_ok {w : World} {a : Option Addr} {n : Nat} {ns : List NoV} (h : Nos w a n ns) (hc : ∀ N ∈ ns, Ncp N) (x : Le) : (evL ns x).ok w := by
 unfold evL
 split
 ·rename_i i _
  cases hn : ns[i]? with
  | none => exact ⟨row_none0 w, Nat.le_refl _, ats_none w, Nat.le_refl _⟩
  | some N =>
   have hi := (List.getElem?_eq_some_iff.1 hn).1
   obtain ⟨b, off, -, k⟩ := h.at_ (by rw [← h.len_eq]; omega)
   have o := (k i N hn).ok
   have c := hc N (List.mem_of_getElem? hn)
   exact ⟨o.row, c.d, o.ats, c.a⟩
 ·exact ⟨row_none0 w, Nat.le_refl _, ats_none w, Nat.le_refl _⟩
theorem evL_sz {ns : List NoV} (hc : ∀ N ∈ ns, Ncp N) {l : List Le} (hp : ∀ x ∈ l, x.path.length ≤ 4096) (hq : ∀ x ∈ l, ∀ q, x.src = .inr q → q.length ≤ 4096) : Szs (l.map (evL ns)) := by
 intro X hX
 obtain ⟨x, hx, rfl⟩ := List.mem_map.1 hX
 refine ⟨by rw [evL_path, tx_size]; have := hp x hx; omega, ?_⟩
 unfold evL
 cases hs : x.src with
 | inl i =>
  simp only
  cases hn : ns[i]? with
  | none => exact ⟨by show (tx []).size ≤ _; rw [tx_size]; simp, fun A hA => by cases hA⟩
  | some N =>
   have c := hc N (List.mem_of_getElem? hn)
   exact ⟨c.t, c.n⟩
 | inr q => exact ⟨by show (tx q).size ≤ _; rw [tx_size]; have := hq x hx q hs; omega, fun A hA => by cases hA⟩
def metF (s : Wk) : Lit → Option Value := fun k => match k with
 | .int .i64 i => if 0 ≤ i then (s.at_ i.toNat).map (fun (j : Nat) => Value.int .i64 j) else none
 | _ => none
theorem metF_nat (s : Wk) (i : Nat) : metF s (.int .i64 (i : Int)) = (s.at_ i).map (fun (j : Nat) => Value.int .i64 j) := by
 show (if (0 : Int) ≤ (i : Int) then (s.at_ (i : Int).toNat).map (fun (j : Nat) => Value.int .i64 j) else none) = _
 rw [if_pos (Int.natCast_nonneg _), Int.toNat_natCast]
theorem metF_upd (s : Wk) (i : Nat) (p : Tx) (hk : WideAt.IsKeyLit (.int .i64 (i : Int))) : updF (metF s) (.int .i64 (i : Int)) (.int .i64 (s.list.length : Int)) = metF (addN s i p) := by
 funext x
 unfold updF
 by_cases hx : x = .int .i64 (i : Int)
 ·subst hx
  rw [if_pos (WideAt.sameKey_self hk), metF_nat]
  have e := at_addN (s := s) (i := i) (j := i) (p := p)
  rw [if_pos rfl] at e
  rw [e]; rfl
 ·rw [Maps.sameKey_ne hx, if_neg Bool.false_ne_true]
  unfold metF
  split
  ·rename_i j
   by_cases hj : 0 ≤ j
   ·rw [if_pos hj, if_pos hj]
    have e := at_addN (s := s) (i := i) (j := j.toNat) (p := p)
    rw [if_neg (fun c => hx (by rw [c, Int.toNat_of_nonneg hj]))] at e
    rw [e]
   ·rw [if_neg hj, if_neg hj]
  ·rfl
theorem metF_none : metF ⟨[], []⟩ = fun _ => none := by
 funext x
 unfold metF
 split
 ·split <;> rfl
 ·rfl
theorem key3 : Keyed Tryz.prog 3 := Maps.int_keyed Tryz.underlying3
theorem keyi (i : Nat) (h : i ≤ maxLen) : keyOf Tryz.prog 3 (.int .i64 (i : Int)) = some (.int .i64 (i : Int)) := by
 have e : ∀ v, keyOf Tryz.prog 3 v = mapKey Tryz.prog 3 v := fun v => by simp [keyOf, Tryz.underlying3]
 rw [e]
 unfold maxLen at h
 have hw : (Lit.int .i64 (i : Int)).wf = true := by
  simp [Lit.wf, IntKind.wrap, IntKind.bits, IntKind.signed, IntKind.min, IntKind.max]
  omega
 simp [mapKey, Tryz.underlying3, hw]
structure Wm (w W : World) (gw gm : Nat) (na : Option Addr) (n nc : Nat) (ns : List NoV) (s : Wk) (va : Option Addr) (vc : Nat) : Prop where
 eo : Eo w W w.heap.size (.slice va s.list.length vc) (s.list.map (evL ns))
 bx : Bx W gw 132 [.slice na n nc, .map (some gm), .slice va s.list.length vc]
 gwl : w.heap.size ≤ gw
 gml : w.heap.size ≤ gm
 map : MapF W 3 gm s.met.length (metF s)
theorem Wm.kept {w W W' : World} {gw gm n nc vc : Nat} {na va : Option Addr} {ns : List NoV} {s : Wk} (h : Wm w W gw gm na n nc ns s va vc) (g : W.grownBy W' none) : Wm w W' gw gm na n nc ns s va vc :=
 ⟨h.eo.kept g, h.bx.kept g, h.gwl, h.gml, h.map.kept g (by simp)⟩
theorem map_blk {W : World} {k gm n : Nat} {f : Lit → Option Value} (h : MapF W k gm n f) : ∃ es clock, W.heap[gm]? = some (.map es clock) := by
 obtain ⟨D, ⟨es, clock, hb, r⟩, h2⟩ := h
 exact ⟨es, clock, hb⟩
theorem map_ne_own {W : World} {k gm n b e s m : Nat} {f : Lit → Option Value} {v : Value} {xs : List Value} (h : MapF W k gm n f) (ho : W.ownsRow b e s v m xs) : some gm ≠ v.ownBlock := by
 obtain ⟨es, clock, hb⟩ := map_blk h
 rcases ho.2 with ⟨h0, _⟩ | ⟨q, cap, cur, hv, _, hq, _⟩
 ·rw [h0]; intro c; cases c
 ·rw [hv]
  intro c
  have c : some gm = some q := c
  injection c with c
  rw [← c, hb] at hq
  cases hq
theorem map_ne_bx {W : World} {k gm n g T : Nat} {f : Lit → Option Value} {cs : List Value} (h : MapF W k gm n f) (ho : Bx W g T cs) : gm ≠ g := by
 obtain ⟨es, clock, hb⟩ := map_blk h
 intro c
 rw [c, ho.blk] at hb
 cases hb
theorem Wm.met {w W W' : World} {gw gm n nc vc : Nat} {na va : Option Addr} {ns : List NoV} {s : Wk} {i : Nat} {p : Tx} (h : Wm w W gw gm na n nc ns s va vc) (hk : WideAt.IsKeyLit (.int .i64 (i : Int))) (hm : MapF W' 3 gm (s.met.length + 1) (updF (metF s) (.int .i64 (i : Int)) (.int .i64 (s.list.length : Int)))) (g : W.grownBy W' (some gm)) :
  Eo w W' w.heap.size (.slice va s.list.length vc) (s.list.map (evL ns)) ∧ Bx W' gw 132 [.slice na n nc, .map (some gm), .slice va s.list.length vc] ∧ MapF W' 3 gm (addN s i p).met.length (metF (addN s i p)) := by
 have hne := map_ne_own h.map h.eo.own
 refine ⟨⟨grown_new h.eo.gr g h.gml, h.eo.low, h.eo.own.kept g (Or.inr (fun c => hne c.symm)), h.eo.each⟩, h.bx.but g (fun c => map_ne_bx h.map h.bx (by injection c with c; exact c.symm)), ?_⟩
 rw [← metF_upd s i p hk]
 exact hm
theorem eo_add {w W W' : World} {v v' : Value} {l : List EnV} {X : EnV} (h : Eo w W w.heap.size v l) (hX : X.ok w) (ho : W'.ownsRow w.heap.size 30 11 v' (l.length + 1) (l.flatMap evc ++ evc X)) (g : W.grownBy W' v.ownBlock) : Eo w W' w.heap.size v' (l ++ [X]) := by
 refine ⟨grown_ownB h.gr h.own g h.low, h.low, ?_, fun Y hY => ?_⟩
 ·have e : (l ++ [X]).flatMap evc = l.flatMap evc ++ evc X := by rw [List.flatMap_append]; simp
  rw [List.length_append, e]
  exact ho
 ·rcases List.mem_append.1 hY with hY | hY
  ·exact h.each Y hY
  ·obtain rfl : Y = X := by simpa using hY
   exact hX
theorem eo_set {w W : World} {gw : Nat} {v : Value} {l : List EnV} {cs : List Value} (h : Eo w W w.heap.size v l) (b : Bx W gw 132 cs) (hg : w.heap.size ≤ gw) (i : Nat) (u : Value) : Eo w (W.setCell ⟨gw, i, none⟩ u) w.heap.size v l := by
 have g := grown_set W gw i u
 exact ⟨grown_new h.gr g hg, h.low, h.own.kept g (Or.inr fun c => bx_ne b h.own (by decide) c.symm), h.each⟩
def pan : List PanicEntry := [{ v := .iface 34 (.int .i64 1), recovered := false }]
theorem pnotree_any (w : World) : Calls Tryz.prog 81 #[] w fun e w' => e = .panicked pan ∧ w' = w := by
 go_enter Tryz.func81, Tryz.ntmps81
 go_wp2
 exact ⟨rfl, rfl, rfl⟩
end Go.Proofs.YtlehncfehoelbaaGreatDoor
