/- A tree in memory of its own while it is built. The program's tree: a name more. -/
import Derived.Test.YtlehncfehoelbaaGreatDoorB09
import Derived.Test.YtlehncfehoelbaaGreatDoorB15
namespace Go.Proofs.YtlehncfehoelbaaGreatDoor
open Go.RowKit
set_option maxRecDepth 100000
set_option linter.unusedSimpArgs false
set_option linter.unusedVariables false
theorem Pk.kept {W W' : World} {base : Nat} {X : NoV} (h : Pk W base X) (g : W.grownBy W' none) : Pk W' base X := ⟨h.row.kept g, h.ar.kept g, h.len, owns_kept11 h.kid g, h.klen⟩
/-- a row of another type is written, or grows -/
theorem Pk.other {W W' : World} {base b e s n : Nat} {X : NoV} {u : Value} {ys : List Value} (h : Pk W base X) (ho : W.ownsRow b e s u n ys) (h1 : 45 ≠ e) (h2 : 5 ≠ e) (h3 : X.kv.ownBlock = none ∨ X.kv.ownBlock ≠ u.ownBlock) (g : W.grownBy W' u.ownBlock) : Pk W' base X :=
 ⟨h.row.other ho h2 g, h.ar.other ho h1 h2 g, h.len, h.kid.kept g h3, h.klen⟩
theorem Pk.low {W : World} {base b : Nat} {X : NoV} (h : Pk W base X) (hb : b ≤ base) : Pk W b X := ⟨h.row.low hb, h.ar.low hb, h.len, owns_low11 h.kid hb, h.klen⟩
theorem Pk.ok {W : World} {base : Nat} {X : NoV} (h : Pk W base X) : X.ok W := by
 have ho := h.ar.own
 rw [← h.len] at ho
 obtain ⟨a, c, e, hats, -, -⟩ := own_ats ho h.len (fun A hA => ⟨(h.ar.rows A hA).row, (h.ar.rows A hA).cap⟩)
 injection e with e1 e2 e3
 subst e1
 exact ⟨h.row.row, hats, own_kds h.kid h.klen⟩
/-- a tree in memory of its own while it is built -/
structure Tq (w W : World) (base : Nat) (v : Value) (l : List NoV) : Prop where
 gr : w.grownBy W none
 low : w.heap.size ≤ base
 own : W.ownsRow base 43 13 v l.length (l.flatMap nvc)
 each : ∀ (i : Nat) (X : NoV), l[i]? = some X → Pk W base X
 apart : ∀ (i j : Nat) (X Y : NoV), l[i]? = some X → l[j]? = some Y → i ≠ j → ∀ b, X.kv.ownBlock = some b → Y.kv.ownBlock = some b → False
theorem Tq.kept {w W W' : World} {base : Nat} {v : Value} {l : List NoV} (h : Tq w W base v l) (g : W.grownBy W' none) : Tq w W' base v l :=
 ⟨grown_trans h.gr g, h.low, owns_kept11 h.own g, fun i X hX => (h.each i X hX).kept g, h.apart⟩
theorem Tq.other {w W W' : World} {base b e s n : Nat} {v u : Value} {l : List NoV} {xs : List Value} (h : Tq w W base v l) (ho : W.ownsRow b e s u n xs) (hb : w.heap.size ≤ b) (hN : 43 ≠ e) (hA : 45 ≠ e) (hK : 47 ≠ e) (h5 : 5 ≠ e) (g : W.grownBy W' u.ownBlock) : Tq w W' base v l :=
 ⟨grown_ownB h.gr ho g hb, h.low, h.own.kept g (owns_ne h.own ho hN), fun i X hX => (h.each i X hX).other ho hA h5 (owns_ne (h.each i X hX).kid ho hK) g, h.apart⟩
theorem Tq.form {w W : World} {base : Nat} {v : Value} {l : List NoV} (h : Tq w W base v l) (h0 : l ≠ []) : ∃ g c, v = .slice (some ⟨g, 0, none⟩) l.length c ∧ base ≤ g ∧ l.length ≤ c ∧ c ≤ maxLen ∧ W.heap.size > g := by
 rcases h.own.2 with ⟨rfl, h1⟩ | ⟨g, c, cur, rfl, hg, hh, hc, hm, _⟩
 ·exact absurd (List.eq_nil_of_length_eq_zero h1) h0
 ·exact ⟨g, c, rfl, hg, hc, hm, (Array.getElem?_eq_some_iff.1 hh).1⟩
theorem Tq.cell {w W : World} {base g c n : Nat} {l : List NoV} (h : Tq w W base (.slice (some ⟨g, 0, none⟩) n c) l) (hn : l.length = n) {i f : Nat} {X : NoV} (hX : l[i]? = some X) (hf : f < 13) : W.cell? ⟨g, i * 13 + f, none⟩ = (nvc X)[f]? := by
 have hi : i < l.length := (List.getElem?_eq_some_iff.1 hX).1
 have ho := h.own
 rw [← hn] at ho
 rw [ho.cellAt (i * 13 + f) (by omega), flat_at nvc 13 nvc_len l i f X hX hf]
theorem Tq.froz {w W : World} {base g c n : Nat} {l : List NoV} (h : Tq w W base (.slice (some ⟨g, 0, none⟩) n c) l) (hn : l.length = n) (j : Nat) : W.frozen? ⟨g, j, none⟩ = false := by
 have ho := h.own
 rw [← hn] at ho
 exact ho.frozenAt j
/-- a field of a node is written that is no row -/
theorem Tq.set {w W : World} {base g c n : Nat} {l : List NoV} (h : Tq w W base (.slice (some ⟨g, 0, none⟩) n c) l) (hn : l.length = n) {i f : Nat} {X X' : NoV} {u : Value} (hX : l[i]? = some X) (hf : f < 13) (e : nvc X' = (nvc X).set f u)
  (hk : X'.da = X.da ∧ X'.dl = X.dl ∧ X'.dc = X.dc ∧ X'.data = X.data ∧ X'.aa = X.aa ∧ X'.al = X.al ∧ X'.ac = X.ac ∧ X'.attrs = X.attrs ∧ X'.ka = X.ka ∧ X'.kl = X.kl ∧ X'.kc = X.kc ∧ X'.kids = X.kids) :
  Tq w (W.setCell ⟨g, i * 13 + f, none⟩ u) base (.slice (some ⟨g, 0, none⟩) n c) (l.set i X') := by
 have ho := h.own
 rw [hn] at ho
 obtain ⟨h1, h2⟩ := ho.stored (i * 13 + f) u
 rw [flat_set nvc 13 nvc_len u l i f X X' hX hf e] at h1
 obtain ⟨k1, k2, k3, k4, k5, k6, k7, k8, k9, k10, k11, k12⟩ := hk
 have hsame : X'.kv = X.kv := by unfold NoV.kv; rw [k9, k10, k11]
 have hnk : ∀ (j : Nat) (Y : NoV), l[j]? = some Y → Pk (W.setCell ⟨g, i * 13 + f, none⟩ u) base Y := fun j Y hY =>
  (h.each j Y hY).other h.own (by decide) (by decide) (owns_ne (h.each j Y hY).kid h.own (by decide)) h2
 refine ⟨grown_ownB h.gr h.own h2 h.low, h.low, by rw [List.length_set, hn]; exact h1, fun j Y hY => ?_, fun a b A B hA hB hab k hA2 hB2 => ?_⟩
 ·rcases get_set hY with ⟨rfl, rfl⟩ | ⟨_, hY⟩
  ·have := hnk j X hX
   exact ⟨by rw [k1, k2, k3, k4]; exact this.row, by rw [k5, k6, k7, k8]; exact this.ar, by rw [k6, k8]; exact this.len, by rw [k9, k10, k11, k12]; exact this.kid, by rw [k10, k12]; exact this.klen⟩
  ·exact hnk j Y hY
 ·rcases get_set hA with ⟨ea, eA⟩ | ⟨ha, hA'⟩
  ·rcases get_set hB with ⟨eb, eB⟩ | ⟨hb, hB'⟩
   ·omega
   ·rw [ea] at hab
    exact h.apart i b X B hX hB' hab k (by rw [← hsame, ← eA]; exact hA2) hB2
  ·rcases get_set hB with ⟨eb, eB⟩ | ⟨hb, hB'⟩
   ·rw [eb] at hab
    exact h.apart a i A X hA' hX hab k hA2 (by rw [← hsame, ← eB]; exact hB2)
   ·exact h.apart a b A B hA' hB' hab k hA2 hB2
theorem Tq.add {w W W' : World} {base : Nat} {v v' : Value} {l : List NoV} {N : NoV} (h : Tq w W base v l) (hN : Pk W base N) (hk : N.ka = none) (hown : W'.ownsRow base 43 13 v' (l.length + 1) (l.flatMap nvc ++ nvc N)) (g : W.grownBy W' v.ownBlock) : Tq w W' base v' (l ++ [N]) := by
 have hkv : N.kv.ownBlock = none := by unfold NoV.kv; rw [hk]; rfl
 have hnk : ∀ (Y : NoV), Pk W base Y → Pk W' base Y := fun Y hY => hY.other h.own (by decide) (by decide) (owns_ne hY.kid h.own (by decide)) g
 have hget : ∀ (j : Nat) (Y : NoV), (l ++ [N])[j]? = some Y → l[j]? = some Y ∨ (j = l.length ∧ Y = N) := fun j Y hY => by
  rcases Nat.lt_or_ge j l.length with hj | hj
  ·left; rwa [List.getElem?_append_left hj] at hY
  ·right
   rw [List.getElem?_append_right hj] at hY
   cases hjj : j - l.length with
   | zero => rw [hjj] at hY; simp at hY; exact ⟨by omega, hY.symm⟩
   | succ q => rw [hjj] at hY; simp at hY
 refine ⟨grown_ownB h.gr h.own g h.low, h.low, by rw [List.length_append, List.flatMap_append]; simpa using hown, fun j Y hY => ?_, fun a b A B hA hB hab k hA2 hB2 => ?_⟩
 ·rcases hget j Y hY with hY | ⟨_, rfl⟩
  ·exact hnk Y (h.each j Y hY)
  ·exact hnk Y hN
 ·rcases hget a A hA with hA | ⟨ha, rfl⟩
  ·rcases hget b B hB with hB | ⟨hb, rfl⟩
   ·exact h.apart a b A B hA hB hab k hA2 hB2
   ·rw [hkv] at hB2; cases hB2
  ·rw [hkv] at hA2; cases hA2
/-- a kid more: its row grows, then the node's field is written -/
theorem Tq.kid {w W W1 : World} {base g c n : Nat} {l : List NoV} (h : Tq w W base (.slice (some ⟨g, 0, none⟩) n c) l) (hn : l.length = n) {i : Nat} {X : NoV} (hX : l[i]? = some X) {K : Kd} {ka : Option Addr} {kl kc : Nat}
  (hown : W1.ownsRow base 47 2 (.slice ka kl kc) (X.kl + 1) (X.kids.flatMap kdc ++ kdc K)) (hkl : kl = X.kl + 1) (g1 : W.grownBy W1 X.kv.ownBlock) (hat : (Value.slice ka kl kc).ownBlock = X.kv.ownBlock ∨ (∃ q, (Value.slice ka kl kc).ownBlock = some q ∧ W.heap.size ≤ q)) :
  Tq w (W1.setCell ⟨g, i * 13 + 10, none⟩ (.slice ka kl kc)) base (.slice (some ⟨g, 0, none⟩) n c) (l.set i { X with ka := ka, kl := kl, kc := kc, kids := X.kids ++ [K] }) := by
 have hkX := (h.each i X hX).kid
 have hno : W1.ownsRow base 43 13 (.slice (some ⟨g, 0, none⟩) n c) n (l.flatMap nvc) := by
  have := h.own.kept g1 (owns_ne h.own hkX (by decide))
  rwa [hn] at this
 have hro1 : ∀ (j : Nat) (Y : NoV), l[j]? = some Y → OwnB W1 base Y.da Y.dl Y.dc Y.data := fun j Y hY => (h.each j Y hY).row.other hkX (by decide) g1
 have har1 : ∀ (j : Nat) (Y : NoV), l[j]? = some Y → Ar W1 base (.slice Y.aa Y.al Y.ac) Y.attrs := fun j Y hY => (h.each j Y hY).ar.other hkX (by decide) (by decide) g1
 have hkd1 : ∀ (j : Nat) (Y : NoV), l[j]? = some Y → j ≠ i → W1.ownsRow base 47 2 (.slice Y.ka Y.kl Y.kc) Y.kl (Y.kids.flatMap kdc) := fun j Y hY hji => (h.each j Y hY).kid.kept g1 (by
  show Y.kv.ownBlock = none ∨ Y.kv.ownBlock ≠ X.kv.ownBlock
  cases hb : Y.kv.ownBlock with
  | none => exact .inl rfl
  | some b => exact .inr fun e => h.apart j i Y X hY hX hji b hb e.symm)
 obtain ⟨s1, s2⟩ := hno.stored (i * 13 + 10) (.slice ka kl kc)
 rw [flat_set nvc 13 nvc_len (.slice ka kl kc) l i 10 X { X with ka := ka, kl := kl, kc := kc, kids := X.kids ++ [K] } hX (by decide) rfl] at s1
 have hgr1 : w.grownBy W1 none := grown_ownB h.gr hkX g1 h.low
 refine ⟨grown_ownB hgr1 hno s2 h.low, h.low, by rw [List.length_set, hn]; exact s1, fun j Y hY => ?_, fun a b A B hA hB hab k hA2 hB2 => ?_⟩
 ·rcases get_set hY with ⟨rfl, rfl⟩ | ⟨hji, hY'⟩
  ·have hx := h.each j X hX
   refine ⟨(hro1 j X hX).other hno (by decide) s2, (har1 j X hX).other hno (by decide) (by decide) s2, hx.len, ?_, ?_⟩
   ·show World.ownsRow _ base 47 2 (.slice ka kl kc) kl ((X.kids ++ [K]).flatMap kdc)
    have e : (X.kids ++ [K]).flatMap kdc = X.kids.flatMap kdc ++ kdc K := by rw [List.flatMap_append]; simp
    rw [e]
    have hown2 : W1.ownsRow base 47 2 (.slice ka kl kc) kl (X.kids.flatMap kdc ++ kdc K) := by rw [hkl] at hown ⊢; exact hown
    exact hown2.kept s2 (owns_ne hown2 hno (by decide))
   ·show kl = (X.kids ++ [K]).length
    rw [hkl, List.length_append, hx.klen]; rfl
  ·have hy := h.each j Y hY'
   exact ⟨(hro1 j Y hY').other hno (by decide) s2, (har1 j Y hY').other hno (by decide) (by decide) s2, hy.len, (hkd1 j Y hY' hji).kept s2 (owns_ne (hkd1 j Y hY' hji) hno (by decide)), hy.klen⟩
 ·have hnew : ∀ (j : Nat) (Y : NoV), l[j]? = some Y → j ≠ i → ∀ b, (Value.slice ka kl kc).ownBlock = some b → Y.kv.ownBlock = some b → False := fun j Y hY hji b hb hy => by
   rcases hat with e | ⟨q, e, hq⟩
   ·exact h.apart j i Y X hY hX hji b hy (by rw [← e]; exact hb)
   ·rw [e] at hb
    injection hb with hb
    have := ((h.each j Y hY).kid.lt b hy).2
    omega
  rcases get_set hA with ⟨ea, eA⟩ | ⟨ha, hA'⟩
  ·rcases get_set hB with ⟨eb, eB⟩ | ⟨hb, hB'⟩
   ·omega
   ·exact hnew b B hB' hb k (by rw [eA] at hA2; exact hA2) hB2
  ·rcases get_set hB with ⟨eb, eB⟩ | ⟨hb, hB'⟩
   ·exact hnew a A hA' ha k (by rw [eB] at hB2; exact hB2) hA2
   ·exact h.apart a b A B hA' hB' hab k hA2 hB2
/-- the tree that is read -/
theorem Tq.nos {w W : World} {base n c : Nat} {a : Option Addr} {l : List NoV} (h : Tq w W base (.slice a n c) l) (hn : l.length = n) : Nos W a n l := by
 have ho := h.own
 rw [hn] at ho
 rcases ho.2 with ⟨e, h0⟩ | ⟨g, cap, cur, e, hg, hh, hc, hm, hs, ht⟩
 ·exact ⟨hn, by omega, fun h => by omega⟩
 ·injection e with e1 e2 e3
  subst e1 e3
  refine ⟨hn, Nat.le_trans hc hm, fun _ => ⟨g, 0, rfl, fun i X hX => ?_⟩⟩
  have k := fun f (hf : f < 13) => h.cell hn hX hf
  rw [Nat.zero_add]
  exact ⟨k 0 (by decide), k 1 (by decide), k 2 (by decide), k 3 (by decide), k 4 (by decide), k 5 (by decide), k 6 (by decide), k 7 (by decide), k 8 (by decide), k 9 (by decide), k 10 (by decide), k 11 (by decide), k 12 (by decide), (h.each i X hX).ok⟩
/-- whatever is no row of nodes or kids stays as it is -/
structure Kp (W W' : World) : Prop where
 size : W.heap.size ≤ W'.heap.size
 keep : ∀ (k : Nat) (o : Obj), W.heap[k]? = some o → (∀ cs fr, o ≠ .cells cs 47 fr) → (∀ cs fr, o ≠ .cells cs 43 fr) → W'.heap[k]? = some o
theorem Kp.refl (W : World) : Kp W W := ⟨Nat.le_refl _, fun k o h _ _ => h⟩
theorem Kp.trans {A B C : World} (h : Kp A B) (k : Kp B C) : Kp A C := ⟨Nat.le_trans h.size k.size, fun i o h1 h2 h3 => k.keep i o (h.keep i o h1 h2 h3) h2 h3⟩
theorem Kp.none {W W' : World} (g : W.grownBy W' none) : Kp W W' := ⟨g.size, fun k o h _ _ => by rw [g.block k (Array.getElem?_eq_some_iff.1 h).1 (by simp)]; exact h⟩
theorem Kp.row {W W' : World} {base e s n : Nat} {v : Value} {xs : List Value} (ho : W.ownsRow base e s v n xs) (he : e = 47 ∨ e = 43) (g : W.grownBy W' v.ownBlock) : Kp W W' := by
 refine ⟨g.size, fun k o h h1 h2 => ?_⟩
 rw [g.block k (Array.getElem?_eq_some_iff.1 h).1 ?_]
 ·exact h
 ·rcases ho.2 with ⟨rfl, _⟩ | ⟨q, cap, cur, rfl, _, hq, _⟩
  ·simp [Value.ownBlock]
  ·intro e2
   simp only [Value.ownBlock, Option.some.injEq] at e2
   subst e2
   rw [hq] at h
   injection h with h
   rcases he with he | he
   ·subst he; exact h1 cur (0, 0) h.symm
   ·subst he; exact h2 cur (0, 0) h.symm
theorem Bx.kp {W W' : World} {g T : Nat} {cs : List Value} (h : Bx W g T cs) (k : Kp W W') (h1 : T ≠ 47) (h2 : T ≠ 43) : Bx W' g T cs :=
 ⟨k.keep g _ h.blk (fun c f e => by injection e with _ e; exact h1 e) (fun c f e => by injection e with _ e; exact h2 e)⟩
theorem MapF.kp {W W' : World} {t : TypeId} {b n : Nat} {f : Lit → Option Value} (h : MapF W t b n f) (k : Kp W W') : MapF W' t b n f := by
 obtain ⟨D, ⟨es, clock, hb, r⟩, h2⟩ := h
 exact ⟨D, ⟨es, clock, k.keep b _ hb (fun c f e => by cases e) (fun c f e => by cases e), r⟩, h2⟩
/-- what hang leaves of the plain tree -/
def hangP (u i : Nat) (s : Tx) (dir : Bool) (ns : List No) : List No := if dir then addLink u (setUp i u (addKid u ⟨s, i⟩ ns)) else addLink i (addKid u ⟨s, i⟩ ns)
/-- what hang answers -/
def HgPost (w W : World) (base g n c u i : Nat) (s : Tx) (l : List NoV) (k : Int) (e : Ending) (w' : World) : Prop := e = .returned (.tuple #[]) ∧ ∃ l', Tq w w' base (.slice (some ⟨g, 0, none⟩) n c) l' ∧ l'.length = n ∧ nos l' = hangP u i s (decide (k = 2)) (nos l) ∧ Kp W w'
theorem wpList_storeC {P : Program} {ops : Array Oper} {rest : List Oper} {o : Oper} {a : Act} {w : World} {Q : Exit → Act → World → Prop} (hgd : o.guard = none) (ty : TypeId) (x y : Operand) (ho : o.op = .store ty x y)
  (g i : Nat) (v : Value) (hx : a.eval x = .pointer (some ⟨g, i, none⟩)) (hy : a.eval y = v) {old : Value} (c : w.cell? ⟨g, i, none⟩ = some old) (f : w.frozen? ⟨g, i, none⟩ = false) (h1 : plV v = true) (hs : ∀ w, (Go.sizeOf ty).run P w = .ok 1 w)
  (h : wpList P ops Q rest (a.put o.dst undef) (w.setCell ⟨g, i, none⟩ v)) : wpList P ops Q (o :: rest) a w := by
 refine wpList_plain hgd fun K hK => ?_
 unfold Oper.wp
 simp only [execOp, ho, hx, hy]
 cases v <;> first
  | (simp [plV] at h1; done)
  | (simp [hs, c, f, go_sem, Result.andThen]
     exact hK _ _ h)
/-- a number of a node is stored -/
theorem wpList_storeT {P : Program} {ops : Array Oper} {rest : List Oper} {o : Oper} {a : Act} {w W : World} {Q : Exit → Act → World → Prop} (hgd : o.guard = none) (x y : Operand) (ho : o.op = .store 3 x y) {base g n c : Nat} {l : List NoV} (h : Tq w W base (.slice (some ⟨g, 0, none⟩) n c) l) (hn : l.length = n)
  (i f : Nat) (X X' : NoV) (m : Int) (hX : l[i]? = some X) (hf : f < 13) (hx : a.eval x = .pointer (some ⟨g, i * 13 + f, none⟩)) (hy : a.eval y = .int .i64 m) (e : nvc X' = (nvc X).set f (.int .i64 m))
  (hk : X'.da = X.da ∧ X'.dl = X.dl ∧ X'.dc = X.dc ∧ X'.data = X.data ∧ X'.aa = X.aa ∧ X'.al = X.al ∧ X'.ac = X.ac ∧ X'.attrs = X.attrs ∧ X'.ka = X.ka ∧ X'.kl = X.kl ∧ X'.kc = X.kc ∧ X'.kids = X.kids) (hs : ∀ w, (Go.sizeOf 3).run P w = .ok 1 w)
  (hK : ∀ W', Hid (Tq w W' base (.slice (some ⟨g, 0, none⟩) n c) (l.set i X')) → Hid (Kp W W') → wpList P ops Q rest (a.put o.dst undef) W') : wpList P ops Q (o :: rest) a W := by
 have c1 := h.cell hn hX hf
 have hl : f < (nvc X).length := by rw [nvc_len]; exact hf
 rw [List.getElem?_eq_getElem hl] at c1
 exact wpList_storeC hgd 3 x y ho g (i * 13 + f) (.int .i64 m) hx hy c1 (h.froz hn _) rfl hs (hK _ (h.set hn hX hf e hk) (Kp.row h.own (.inr rfl) (grown_set W g (i * 13 + f) _)))
theorem nvc_kids (U : NoV) : (nvc U)[10]? = some (.slice U.ka U.kl U.kc) := rfl
set_option maxHeartbeats 8000000 in
theorem phang_any (w W : World) (base g n c u i : Nat) (s : ByteArray) (l : List NoV) (U N : NoV) (h : Tq w W base (.slice (some ⟨g, 0, none⟩) n c) l) (hn : l.length = n) (hU : l[u]? = some U) (hN : l[i]? = some N) (hk : U.kl ≤ 1000000) (hlm : ∀ X ∈ l, 0 ≤ X.links ∧ X.links ≤ 1000000) (hs : s.size ≤ 1000000) (hnm : n ≤ 100000) (hb : base ≤ W.heap.size) :
  Calls Tryz.prog 68 #[.slice (some ⟨g, 0, none⟩) n c, .int .i64 u, .string s, .int .i64 i] W (HgPost w W base g n c u i s.toList l N.k) := by
 obtain ⟨ik, hi0, hz0, hz1, hz2⟩ := info_parts Tryz.infoK
 have HIK : Hid _ := And.intro hi0 (And.intro hz0 (And.intro hz1 hz2))
 clear hi0 hz0 hz1 hz2
 have hu : u < n := by have := (List.getElem?_eq_some_iff.1 hU).1; omega
 have hi : i < n := by have := (List.getElem?_eq_some_iff.1 hN).1; omega
 have hui : (u : Int) < n := by omega
 have hii : (i : Int) < n := by omega
 have hsc := fun W => psclone_any s W hs
 have HI : Hid _ := And.intro h (And.intro hn (And.intro hU (And.intro hN hlm)))
 clear h hn hU hN hlm
 go_enter Tryz.func68, Tryz.ntmps68
 go_wp2_with fail
 go_quiet (fail)
 go_wp2_with fail
 rename_i K9 hnext
 have tail : ∀ (W10 : World) (gb : Nat) (ka : Option Addr) (kc : Nat), Hid (Tq w W10 base (.slice (some ⟨g, 0, none⟩) n c) (l.set u { U with ka := ka, kl := U.kl + 1, kc := kc, kids := U.kids ++ [⟨s.toList, i⟩] }) ∧ Kp W W10) → K9 { tmps := #[.slice (some ⟨g, 0, none⟩) n c, .int .i64 u, .string s, .int .i64 i, undef, undef, undef, undef, .pointer (some ⟨g, u * 13, none⟩), .pointer (some ⟨g, i * 13, none⟩), .slice (some ⟨g, 0, none⟩) n c, .int .i64 u, .pointer (some ⟨g, u * 13, none⟩), .slice (some ⟨g, 0, none⟩) n c, .int .i64 i, .pointer (some ⟨g, i * 13, none⟩), .pointer (some ⟨g, u * 13, none⟩), .pointer (some ⟨g, u * 13, none⟩), .pointer (some ⟨g, u * 13, none⟩), .pointer (some ⟨g, u * 13 + 10, none⟩), .slice U.ka U.kl U.kc, .string s, .string s, .int .i64 i, .agg #[.string s, .int .i64 i], .slice (some ⟨gb, 0, none⟩) 1 1, .slice ka (U.kl + 1) kc, .pointer (some ⟨g, u * 13, none⟩), .pointer (some ⟨g, u * 13 + 10, none⟩), undef, undef, undef, undef, undef, undef, undef, undef, undef, undef, undef, undef, undef, undef, undef, undef, undef, undef, undef, undef, undef, undef, undef], defers := [] } W10 := by
  intro W10 gb ka kc HT
  refine hnext _ _ ?_
  clear hnext hsc
  have hul : u < l.length := by rw [HI.out.2.1]; exact hu
  obtain ⟨N2, hN2, hNk⟩ : ∃ N2, (l.set u { U with ka := ka, kl := U.kl + 1, kc := kc, kids := U.kids ++ [⟨s.toList, i⟩] })[i]? = some N2 ∧ N2.k = N.k ∧ 0 ≤ N2.links ∧ N2.links ≤ 1000000 := by
   rw [List.getElem?_set]
   by_cases hq : u = i
   ·subst hq
    rw [if_pos rfl, if_pos hul]
    have e1 := HI.out.2.2.1
    rw [HI.out.2.2.2.1] at e1
    injection e1 with e1
    exact ⟨_, rfl, by rw [← e1], by rw [← e1]; exact HI.out.2.2.2.2 N (List.mem_of_getElem? HI.out.2.2.2.1)⟩
   ·rw [if_neg hq]
    exact ⟨N, HI.out.2.2.2.1, rfl, HI.out.2.2.2.2 N (List.mem_of_getElem? HI.out.2.2.2.1)⟩
  have HN2 : Hid _ := And.intro hN2 hNk
  have hlen : (l.set u { U with ka := ka, kl := U.kl + 1, kc := kc, kids := U.kids ++ [⟨s.toList, i⟩] }).length = n := by rw [List.length_set, HI.out.2.1]
  have HLN : Hid _ := hlen
  have hnos : nos (l.set u { U with ka := ka, kl := U.kl + 1, kc := kc, kids := U.kids ++ [⟨s.toList, i⟩] }) = addKid u ⟨s.toList, i⟩ (nos l) := nos_set (f := fun n => { n with kids := n.kids ++ [⟨s.toList, i⟩] }) HI.out.2.2.1 rfl
  have HNO : Hid _ := hnos
  have hU2 : (l.set u { U with ka := ka, kl := U.kl + 1, kc := kc, kids := U.kids ++ [⟨s.toList, i⟩] })[u]? = some { U with ka := ka, kl := U.kl + 1, kc := kc, kids := U.kids ++ [⟨s.toList, i⟩] } := by rw [List.getElem?_set_self hul]
  have HU2 : Hid _ := And.intro hU2 (HI.out.2.2.2.2 U (List.mem_of_getElem? HI.out.2.2.1))
  generalize l.set u { U with ka := ka, kl := U.kl + 1, kc := kc, kids := U.kids ++ [⟨s.toList, i⟩] } = l2 at *
  have ck : W10.cell? ⟨g, i * 13 + 0, none⟩ = some (.int .i64 N.k) := by rw [HT.out.1.cell hlen hN2 (by decide), ← hNk.1]; rfl
  rw [Nat.add_zero] at ck
  have cl : W10.cell? ⟨g, i * 13 + 12, none⟩ = some (.int .i64 N2.links) := by rw [HT.out.1.cell hlen hN2 (by decide)]; rfl
  clear hU2 hN2 hNk hlen hnos hul
  have hlb : 0 ≤ N2.links ∧ N2.links ≤ 1000000 := HN2.out.2.2
  generalize hK0 : N.k = KN at *
  have HKN : Hid _ := hK0
  clear hK0
  by_cases h2 : KN = 2
  ·subst h2
   clear cl
   go_wp2_with ((with_reducible refine int_here ?_); refine wpList_storeT rfl _ _ rfl HT.out.1 HLN.out i 11 N2 { N2 with parent := (u : Int) } u HN2.out.1 (by decide) rfl rfl rfl ⟨rfl, rfl, rfl, rfl, rfl, rfl, rfl, rfl, rfl, rfl, rfl, rfl⟩ size3 ?_; intro W11 HT11 HP11; rename_i hnext; have HNX : Hid _ := hnext; clear hnext)
   have hui2 : u < l2.length := by rw [HLN.out]; exact hu
   obtain ⟨U3, hU3, hU3l⟩ : ∃ U3, (l2.set i { N2 with parent := (u : Int) })[u]? = some U3 ∧ 0 ≤ U3.links ∧ U3.links ≤ 1000000 := by
    rw [List.getElem?_set]
    by_cases hq : i = u
    ·subst hq
     rw [if_pos rfl, if_pos hui2]
     exact ⟨_, rfl, hlb⟩
    ·rw [if_neg hq]
     exact ⟨_, HU2.out.1, HU2.out.2⟩
   have hlen3 : (l2.set i { N2 with parent := (u : Int) }).length = n := by rw [List.length_set, HLN.out]
   have cl3 : W11.cell? ⟨g, u * 13 + 12, none⟩ = some (.int .i64 U3.links) := by rw [HT11.out.cell hlen3 hU3 (by decide)]; rfl
   have HU3 : Hid _ := And.intro hU3 hlen3
   have hno3 : nos (l2.set i { N2 with parent := (u : Int) }) = setUp i u (nos l2) := nos_set (f := fun n => { n with parent := (u : Int) }) HN2.out.1 rfl
   have HN3 : Hid _ := hno3
   generalize l2.set i { N2 with parent := (u : Int) } = l3 at *
   clear hU3 hlen3 hno3 ck
   have hw : IntKind.i64.wrap (U3.links + 1) = U3.links + 1 := by simp [IntKind.wrap, IntKind.bits, IntKind.signed]; omega
   refine HNX.out _ _ ?_
   clear HNX
   go_wp2_with ((with_reducible refine int_here ?_); refine wpList_storeT rfl _ _ rfl HT11.out HU3.out.2 u 12 U3 { U3 with links := U3.links + 1 } (U3.links + 1) HU3.out.1 (by decide) rfl rfl rfl ⟨rfl, rfl, rfl, rfl, rfl, rfl, rfl, rfl, rfl, rfl, rfl, rfl⟩ size3 ?_; intro W12 HT12 HP12)
   go_end0
   refine ⟨rfl, _, HT12.out, by rw [List.length_set, HU3.out.2], ?_, HT.out.2.trans (HP11.out.trans HP12.out)⟩
   rw [nos_set (f := fun n => { n with links := n.links + 1 }) HU3.out.1 rfl, HN3.out, HNO.out]
   unfold hangP
   first | rw [decide_eq_true (show (2 : Int) = 2 from rfl), if_pos rfl] | rw [HKN.out, decide_eq_true (show (2 : Int) = 2 from rfl), if_pos rfl] | simp
   try rfl
  ·have hb2 : (KN == 2) = false := by rw [beq_eq_false_iff_ne]; exact h2
   have hbn : (KN != 2) = true := by simp [h2]
   have hw : IntKind.i64.wrap (N2.links + 1) = N2.links + 1 := by simp [IntKind.wrap, IntKind.bits, IntKind.signed]; omega
   go_wp2_with ((with_reducible refine int_here ?_); refine wpList_storeT rfl _ _ rfl HT.out.1 HLN.out i 12 N2 { N2 with links := N2.links + 1 } (N2.links + 1) HN2.out.1 (by decide) rfl rfl rfl ⟨rfl, rfl, rfl, rfl, rfl, rfl, rfl, rfl, rfl, rfl, rfl, rfl⟩ size3 ?_; intro W11 HT11 HP11)
   first | go_end0 | refine bodyPost_ret (results_none rfl _ _ _) rfl ?_
   refine ⟨rfl, _, HT11.out, by rw [List.length_set, HLN.out], ?_, HT.out.2.trans HP11.out⟩
   rw [nos_set (f := fun n => { n with links := n.links + 1 }) HN2.out.1 rfl, HNO.out]
   unfold hangP
   first | rw [decide_eq_false h2, if_neg Bool.false_ne_true] | rw [HKN.out, decide_eq_false h2, if_neg Bool.false_ne_true]
   rfl
 clear hnext
 obtain ⟨hT, hn, hU, hN, hlm⟩ := HI.out
 clear HI hN hlm
 have gD0 : W.grownBy (W.drewN nq).drew none := ⟨rfl, rfl, rfl, Nat.le_refl _, fun _ _ _ => rfl⟩
 replace hT := hT.kept gD0
 have hP := Kp.none gD0
 have hbz : base ≤ (W.drewN nq).drew.heap.size := Nat.le_trans hb gD0.size
 have hkdc : kdc ⟨s.toList, i⟩ = [.string s, .int .i64 i] := by unfold kdc; rw [show tx s.toList = s from tl_tx s]
 clear gD0
 have HU0 : Hid _ := And.intro hn hU
 clear hn hU hb
 refine wp_region_held_drew (S := fun w' => w.grownBy w' none) (by kernel_rfl) hT.gr (fun hH => ?_)
 generalize (W.drewN nq).drew = WD at *
 refine wpAnyH_take (i := 0) (oi := ⟨some 16, _, _, _, _, _⟩) (v := .pointer (some ⟨g, u * 13, none⟩)) rfl (by kernel_rfl) (by kernel_rfl) (by kernel_rfl) (fun _ _ _ h => h) (Or.inl ⟨by rfl, fun w hSw => by go_simp⟩) hH ?_
 simp only [Act.put, pu]
 refine wpAnyH_take (i := 1) (oi := ⟨some 17, _, _, _, _, _⟩) (v := .pointer (some ⟨g, u * 13, none⟩)) rfl (by kernel_rfl) (by kernel_rfl) (by kernel_rfl) (fun _ _ _ h => h) (Or.inl ⟨by rfl, fun w hSw => by go_simp⟩) hH ?_
 simp only [Act.put, pu]
 refine wpAnyH_take (i := 2) (oi := ⟨some 18, _, _, _, _, _⟩) (v := .pointer (some ⟨g, u * 13, none⟩)) rfl (by kernel_rfl) (by kernel_rfl) (by kernel_rfl) (fun _ _ _ h => h) (Or.inl ⟨by rfl, fun w hSw => by go_simp⟩) hH ?_
 simp only [Act.put, pu]
 refine wpAnyH_take (i := 3) (oi := ⟨some 19, _, _, _, _, _⟩) (v := .pointer (some ⟨g, u * 13 + 10, none⟩)) rfl (by kernel_rfl) (by kernel_rfl) (by kernel_rfl) (fun _ _ _ h => h) (Or.inl ⟨by rfl, fun w hSw => by go_simp⟩) hH ?_
 simp only [Act.put, pu]
 refine wpAnyH_take (i := 5) (oi := ⟨some 21, _, _, _, _, _⟩) (v := .string s) rfl (by kernel_rfl) (by kernel_rfl) (by kernel_rfl) (fun _ _ _ h => h) (Or.inl ⟨by rfl, fun w hSw => by go_simp⟩) hH ?_
 simp only [Act.put, pu]
 refine wpAnyH_take (i := 7) (oi := ⟨some 23, _, _, _, _, _⟩) (v := .int .i64 i) rfl (by kernel_rfl) (by kernel_rfl) (by kernel_rfl) (fun _ _ _ h => h) (Or.inl ⟨by rfl, fun w hSw => by go_simp⟩) hH ?_
 simp only [Act.put, pu]
 refine wpAnyH_ready (rs := [4, 6]) (by kernel_rfl) (by simp) ?_
 refine AllReadyH.cons rfl (fun K1 hK => ?_) (AllReadyH.cons rfl (fun K1 hK => ?_) AllReadyH.nil)
 ·skip
  have c1 : _ = some _ := (hT.cell HU0.out.1 HU0.out.2 (f := 10) (by decide)).trans (nvc_kids U)
  go_simp
  refine hK.out _ _ hH (fun h0 => ?_)
  clear h0 hK K1 c1
  try simp only [Act.put, pu]
  refine wpAnyH_ready (rs := [6]) (by kernel_rfl) (by simp) ?_
  refine AllReadyH.cons rfl (fun K1 hK => ?_) AllReadyH.nil
  go_simp
  refine (hsc _).mono ?_
  rintro e W7 ⟨rfl, g7⟩
  replace hT := hT.kept g7
  replace hP := hP.trans (Kp.none g7)
  replace hbz := Nat.le_trans hbz g7.size
  replace hH := grown_trans hH g7
  clear g7
  refine hK.out _ _ hH (fun h0 => ?_)
  clear h0 hK K1
  try simp only [Act.put, pu]
  refine wpAnyH_take (i := 8) (oi := ⟨some 24, _, _, _, _, _⟩) (v := .agg #[.string s, .int .i64 i]) rfl (by kernel_rfl) (by kernel_rfl) (by kernel_rfl) (fun _ _ _ h => h) (Or.inl ⟨by rfl, fun w hSw => by go_simp⟩) hH ?_
  simp only [Act.put, pu]
  refine wpAnyH_ready (rs := [9]) (by kernel_rfl) (by simp) ?_
  refine AllReadyH.cons rfl (fun K1 hK => ?_) AllReadyH.nil
  have g8 := World.grownBy_alloc W7 (.cells #[.string s, .int .i64 i] 47) none
  have b8 := Bx.new W7 47 [.string s, .int .i64 i]
  go_simp
  replace hT := hT.kept g8
  replace hP := hP.trans (Kp.none g8)
  replace hbz := Nat.le_trans hbz g8.size
  replace hH := grown_trans hH g8
  change K1 _ (W7.alloc (.cells #[.string s, .int .i64 i] 47))
  change Bx (W7.alloc (.cells #[.string s, .int .i64 i] 47)) _ _ _ at b8
  generalize hW8 : W7.alloc (.cells #[.string s, .int .i64 i] 47) = W8 at *
  clear hW8 g8
  refine hK.out _ _ hH (fun h0 => ?_)
  clear h0 hK K1
  generalize W7.heap.size = gb at *
  try simp only [Act.put, pu]
  refine wpAnyH_ready (rs := [10]) (by kernel_rfl) (by simp) ?_
  refine AllReadyH.cons rfl (fun K1 hK => ?_) AllReadyH.nil
  have hUk := (hT.each u U HU0.out.2).kid
  obtain ⟨v', W9, hrun, hown', hgrow, _, hat⟩ := run_append_own_at (P := Tryz.prog) W8 base 41 41 47 ik _ 2 _ Tryz.underlying41 HIK.out.1 HIK.out.2.1 HIK.out.2.2.1 HIK.out.2.2.2 rfl (by decide) _ _ _ hUk ⟨gb, 0, none⟩ 1 1 [.string s, .int .i64 i] rfl (bx_news b8) (by intro u hu; simp at hu; rcases hu with h | h <;> rw [h] <;> rfl) (by unfold maxLen; omega) (by omega) hbz
  obtain ⟨ka, kc, rfl⟩ : ∃ ka kc, v' = .slice ka (U.kl + 1) kc := own_shape hown'
  have hown2 := hown'
  rw [← hkdc] at hown2
  have hT9 := hT.kid HU0.out.1 HU0.out.2 hown2 rfl hgrow (by rcases hat with h | h; (exact Or.inl h); exact Or.inr ⟨_, h, Nat.le_refl _⟩)
  have hno := hT.own.kept hgrow (owns_ne hT.own hUk (by decide))
  rw [HU0.out.1] at hno
  have hP9 := (hP.trans (Kp.row hUk (.inl rfl) hgrow)).trans (Kp.row hno (.inr rfl) (hno.stored (u * 13 + 10) (.slice ka (U.kl + 1) kc)).2)
  have c9 : W9.cell? ⟨g, u * 13 + 10, none⟩ = some (.slice U.ka U.kl U.kc) := by
   rw [hno.cellAt (u * 13 + 10) (by omega), flat_at nvc 13 nvc_len l u 10 U HU0.out.2 (by decide)]
   rfl
  have f9 : W9.frozen? ⟨g, u * 13 + 10, none⟩ = false := hno.frozenAt _
  have hH9 := grown_ownB hH hUk hgrow hT.low
  clear hH
  have hH := hH9
  clear hH9
  rw [if_pos (by rfl)]
  refine wp_append (u := .slice (some ⟨gb, 0, none⟩) 1 1) rfl rfl rfl hrun (hK.out _ _ hH (fun h0 => ?_))
  clear h0 hK K1 hrun hgrow hT hown' hown2 hat hUk hP hno b8
  try simp only [Act.put, pu]
  refine wpAnyH_take (i := 11) (oi := ⟨some 27, _, _, _, _, _⟩) (v := .pointer (some ⟨g, u * 13, none⟩)) rfl (by kernel_rfl) (by kernel_rfl) (by kernel_rfl) (fun _ _ _ h => h) (Or.inl ⟨by rfl, fun w hSw => by go_simp⟩) hH ?_
  simp only [Act.put, pu]
  refine wpAnyH_take (i := 12) (oi := ⟨some 28, _, _, _, _, _⟩) (v := .pointer (some ⟨g, u * 13 + 10, none⟩)) rfl (by kernel_rfl) (by kernel_rfl) (by kernel_rfl) (fun _ _ _ h => h) (Or.inl ⟨by rfl, fun w hSw => by go_simp⟩) hH ?_
  simp only [Act.put, pu]
  refine wpAnyH_ready (rs := [13]) (by kernel_rfl) (by simp) ?_
  refine AllReadyH.cons rfl (fun K1 hK => ?_) AllReadyH.nil
  go_simp
  have hH2 := hT9.gr
  refine hK.out _ _ hH2 (fun h0 => ?_)
  clear h0 hK K1
  refine wpAnyH_done (by kernel_rfl) ?_ _
  exact tail _ gb ka kc ⟨hT9, hP9⟩
 ·skip
  go_simp
  refine (hsc _).mono ?_
  rintro e W7 ⟨rfl, g7⟩
  replace hT := hT.kept g7
  replace hP := hP.trans (Kp.none g7)
  replace hbz := Nat.le_trans hbz g7.size
  replace hH := grown_trans hH g7
  clear g7
  refine hK.out _ _ hH (fun h0 => ?_)
  clear h0 hK K1
  try simp only [Act.put, pu]
  refine wpAnyH_take (i := 8) (oi := ⟨some 24, _, _, _, _, _⟩) (v := .agg #[.string s, .int .i64 i]) rfl (by kernel_rfl) (by kernel_rfl) (by kernel_rfl) (fun _ _ _ h => h) (Or.inl ⟨by rfl, fun w hSw => by go_simp⟩) hH ?_
  simp only [Act.put, pu]
  refine wpAnyH_ready (rs := [4, 9]) (by kernel_rfl) (by simp) ?_
  refine AllReadyH.cons rfl (fun K1 hK => ?_) (AllReadyH.cons rfl (fun K1 hK => ?_) AllReadyH.nil)
  ·skip
   have c1 : _ = some _ := (hT.cell HU0.out.1 HU0.out.2 (f := 10) (by decide)).trans (nvc_kids U)
   go_simp
   refine hK.out _ _ hH (fun h0 => ?_)
   clear h0 hK K1 c1
   try simp only [Act.put, pu]
   refine wpAnyH_ready (rs := [9]) (by kernel_rfl) (by simp) ?_
   refine AllReadyH.cons rfl (fun K1 hK => ?_) AllReadyH.nil
   have g8 := World.grownBy_alloc W7 (.cells #[.string s, .int .i64 i] 47) none
   have b8 := Bx.new W7 47 [.string s, .int .i64 i]
   go_simp
   replace hT := hT.kept g8
   replace hP := hP.trans (Kp.none g8)
   replace hbz := Nat.le_trans hbz g8.size
   replace hH := grown_trans hH g8
   change K1 _ (W7.alloc (.cells #[.string s, .int .i64 i] 47))
   change Bx (W7.alloc (.cells #[.string s, .int .i64 i] 47)) _ _ _ at b8
   generalize hW8 : W7.alloc (.cells #[.string s, .int .i64 i] 47) = W8 at *
   clear hW8 g8
   refine hK.out _ _ hH (fun h0 => ?_)
   clear h0 hK K1
   generalize W7.heap.size = gb at *
   try simp only [Act.put, pu]
   refine wpAnyH_ready (rs := [10]) (by kernel_rfl) (by simp) ?_
   refine AllReadyH.cons rfl (fun K1 hK => ?_) AllReadyH.nil
   have hUk := (hT.each u U HU0.out.2).kid
   obtain ⟨v', W9, hrun, hown', hgrow, _, hat⟩ := run_append_own_at (P := Tryz.prog) W8 base 41 41 47 ik _ 2 _ Tryz.underlying41 HIK.out.1 HIK.out.2.1 HIK.out.2.2.1 HIK.out.2.2.2 rfl (by decide) _ _ _ hUk ⟨gb, 0, none⟩ 1 1 [.string s, .int .i64 i] rfl (bx_news b8) (by intro u hu; simp at hu; rcases hu with h | h <;> rw [h] <;> rfl) (by unfold maxLen; omega) (by omega) hbz
   obtain ⟨ka, kc, rfl⟩ : ∃ ka kc, v' = .slice ka (U.kl + 1) kc := own_shape hown'
   have hown2 := hown'
   rw [← hkdc] at hown2
   have hT9 := hT.kid HU0.out.1 HU0.out.2 hown2 rfl hgrow (by rcases hat with h | h; (exact Or.inl h); exact Or.inr ⟨_, h, Nat.le_refl _⟩)
   have hno := hT.own.kept hgrow (owns_ne hT.own hUk (by decide))
   rw [HU0.out.1] at hno
   have hP9 := (hP.trans (Kp.row hUk (.inl rfl) hgrow)).trans (Kp.row hno (.inr rfl) (hno.stored (u * 13 + 10) (.slice ka (U.kl + 1) kc)).2)
   have c9 : W9.cell? ⟨g, u * 13 + 10, none⟩ = some (.slice U.ka U.kl U.kc) := by
    rw [hno.cellAt (u * 13 + 10) (by omega), flat_at nvc 13 nvc_len l u 10 U HU0.out.2 (by decide)]
    rfl
   have f9 : W9.frozen? ⟨g, u * 13 + 10, none⟩ = false := hno.frozenAt _
   have hH9 := grown_ownB hH hUk hgrow hT.low
   clear hH
   have hH := hH9
   clear hH9
   rw [if_pos (by rfl)]
   refine wp_append (u := .slice (some ⟨gb, 0, none⟩) 1 1) rfl rfl rfl hrun (hK.out _ _ hH (fun h0 => ?_))
   clear h0 hK K1 hrun hgrow hT hown' hown2 hat hUk hP hno b8
   try simp only [Act.put, pu]
   refine wpAnyH_take (i := 11) (oi := ⟨some 27, _, _, _, _, _⟩) (v := .pointer (some ⟨g, u * 13, none⟩)) rfl (by kernel_rfl) (by kernel_rfl) (by kernel_rfl) (fun _ _ _ h => h) (Or.inl ⟨by rfl, fun w hSw => by go_simp⟩) hH ?_
   simp only [Act.put, pu]
   refine wpAnyH_take (i := 12) (oi := ⟨some 28, _, _, _, _, _⟩) (v := .pointer (some ⟨g, u * 13 + 10, none⟩)) rfl (by kernel_rfl) (by kernel_rfl) (by kernel_rfl) (fun _ _ _ h => h) (Or.inl ⟨by rfl, fun w hSw => by go_simp⟩) hH ?_
   simp only [Act.put, pu]
   refine wpAnyH_ready (rs := [13]) (by kernel_rfl) (by simp) ?_
   refine AllReadyH.cons rfl (fun K1 hK => ?_) AllReadyH.nil
   go_simp
   have hH2 := hT9.gr
   refine hK.out _ _ hH2 (fun h0 => ?_)
   clear h0 hK K1
   refine wpAnyH_done (by kernel_rfl) ?_ _
   exact tail _ gb ka kc ⟨hT9, hP9⟩
  ·skip
   have g8 := World.grownBy_alloc W7 (.cells #[.string s, .int .i64 i] 47) none
   have b8 := Bx.new W7 47 [.string s, .int .i64 i]
   go_simp
   replace hT := hT.kept g8
   replace hP := hP.trans (Kp.none g8)
   replace hbz := Nat.le_trans hbz g8.size
   replace hH := grown_trans hH g8
   change K1 _ (W7.alloc (.cells #[.string s, .int .i64 i] 47))
   change Bx (W7.alloc (.cells #[.string s, .int .i64 i] 47)) _ _ _ at b8
   generalize hW8 : W7.alloc (.cells #[.string s, .int .i64 i] 47) = W8 at *
   clear hW8 g8
   refine hK.out _ _ hH (fun h0 => ?_)
   clear h0 hK K1
   generalize W7.heap.size = gb at *
   try simp only [Act.put, pu]
   refine wpAnyH_ready (rs := [4]) (by kernel_rfl) (by simp) ?_
   refine AllReadyH.cons rfl (fun K1 hK => ?_) AllReadyH.nil
   have c1 : _ = some _ := (hT.cell HU0.out.1 HU0.out.2 (f := 10) (by decide)).trans (nvc_kids U)
   go_simp
   refine hK.out _ _ hH (fun h0 => ?_)
   clear h0 hK K1 c1
   try simp only [Act.put, pu]
   refine wpAnyH_ready (rs := [10]) (by kernel_rfl) (by simp) ?_
   refine AllReadyH.cons rfl (fun K1 hK => ?_) AllReadyH.nil
   have hUk := (hT.each u U HU0.out.2).kid
   obtain ⟨v', W9, hrun, hown', hgrow, _, hat⟩ := run_append_own_at (P := Tryz.prog) W8 base 41 41 47 ik _ 2 _ Tryz.underlying41 HIK.out.1 HIK.out.2.1 HIK.out.2.2.1 HIK.out.2.2.2 rfl (by decide) _ _ _ hUk ⟨gb, 0, none⟩ 1 1 [.string s, .int .i64 i] rfl (bx_news b8) (by intro u hu; simp at hu; rcases hu with h | h <;> rw [h] <;> rfl) (by unfold maxLen; omega) (by omega) hbz
   obtain ⟨ka, kc, rfl⟩ : ∃ ka kc, v' = .slice ka (U.kl + 1) kc := own_shape hown'
   have hown2 := hown'
   rw [← hkdc] at hown2
   have hT9 := hT.kid HU0.out.1 HU0.out.2 hown2 rfl hgrow (by rcases hat with h | h; (exact Or.inl h); exact Or.inr ⟨_, h, Nat.le_refl _⟩)
   have hno := hT.own.kept hgrow (owns_ne hT.own hUk (by decide))
   rw [HU0.out.1] at hno
   have hP9 := (hP.trans (Kp.row hUk (.inl rfl) hgrow)).trans (Kp.row hno (.inr rfl) (hno.stored (u * 13 + 10) (.slice ka (U.kl + 1) kc)).2)
   have c9 : W9.cell? ⟨g, u * 13 + 10, none⟩ = some (.slice U.ka U.kl U.kc) := by
    rw [hno.cellAt (u * 13 + 10) (by omega), flat_at nvc 13 nvc_len l u 10 U HU0.out.2 (by decide)]
    rfl
   have f9 : W9.frozen? ⟨g, u * 13 + 10, none⟩ = false := hno.frozenAt _
   have hH9 := grown_ownB hH hUk hgrow hT.low
   clear hH
   have hH := hH9
   clear hH9
   rw [if_pos (by rfl)]
   refine wp_append (u := .slice (some ⟨gb, 0, none⟩) 1 1) rfl rfl rfl hrun (hK.out _ _ hH (fun h0 => ?_))
   clear h0 hK K1 hrun hgrow hT hown' hown2 hat hUk hP hno b8
   try simp only [Act.put, pu]
   refine wpAnyH_take (i := 11) (oi := ⟨some 27, _, _, _, _, _⟩) (v := .pointer (some ⟨g, u * 13, none⟩)) rfl (by kernel_rfl) (by kernel_rfl) (by kernel_rfl) (fun _ _ _ h => h) (Or.inl ⟨by rfl, fun w hSw => by go_simp⟩) hH ?_
   simp only [Act.put, pu]
   refine wpAnyH_take (i := 12) (oi := ⟨some 28, _, _, _, _, _⟩) (v := .pointer (some ⟨g, u * 13 + 10, none⟩)) rfl (by kernel_rfl) (by kernel_rfl) (by kernel_rfl) (fun _ _ _ h => h) (Or.inl ⟨by rfl, fun w hSw => by go_simp⟩) hH ?_
   simp only [Act.put, pu]
   refine wpAnyH_ready (rs := [13]) (by kernel_rfl) (by simp) ?_
   refine AllReadyH.cons rfl (fun K1 hK => ?_) AllReadyH.nil
   go_simp
   have hH2 := hT9.gr
   refine hK.out _ _ hH2 (fun h0 => ?_)
   clear h0 hK K1
   refine wpAnyH_done (by kernel_rfl) ?_ _
   exact tail _ gb ka kc ⟨hT9, hP9⟩
end Go.Proofs.YtlehncfehoelbaaGreatDoor
