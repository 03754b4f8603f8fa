/- A tree in memory while it is built. A tree in memory while it is built: a kid more; the tree that is read. -/
import Derived.Maps.AppendAt
import Derived.Laws.OwnMore
import Derived.Test.YtbpoealcaogjpaaGreatDoorCk09
namespace Go.Proofs.YtbpoealcaogjpaaGreatDoor
open Go.RowKit
set_option maxRecDepth 100000
set_option linter.unusedSimpArgs false
set_option linter.unusedVariables false

/-- rows of things of several cells -/
theorem flat_len {α : Type} (f : α → List Value) (c : Nat) (hf : ∀ x, (f x).length = c) (l : List α) : (l.flatMap f).length = l.length * c := by
  induction l with
  | nil => simp
  | cons x l ih => rw [List.flatMap_cons, List.length_append, ih, hf, List.length_cons, Nat.succ_mul, Nat.add_comm]
theorem flat_at {α : Type} (f : α → List Value) (c : Nat) (hf : ∀ x, (f x).length = c) : ∀ (l : List α) (i j : Nat) (X : α), l[i]? = some X → j < c → (l.flatMap f)[i * c + j]? = (f X)[j]?
  | [], i, j, X, h, _ => by simp at h
  | x :: l, 0, j, X, h, hj => by
    simp at h
    subst h
    rw [List.flatMap_cons, Nat.zero_mul, Nat.zero_add, List.getElem?_append_left (by rw [hf]; exact hj)]
  | x :: l, i + 1, j, X, h, hj => by
    rw [List.flatMap_cons, List.getElem?_append_right (by rw [hf, Nat.succ_mul]; omega), hf, show (i + 1) * c + j - c = i * c + j by rw [Nat.succ_mul]; omega]
    exact flat_at f c hf l i j X (by simpa using h) hj
theorem flat_set {α : Type} (f : α → List Value) (c : Nat) (hf : ∀ x, (f x).length = c) (u : Value) : ∀ (l : List α) (i j : Nat) (X X' : α), l[i]? = some X → j < c → f X' = (f X).set j u → (l.flatMap f).set (i * c + j) u = (l.set i X').flatMap f
  | [], i, j, X, X', h, _, _ => by simp at h
  | x :: l, 0, j, X, X', h, hj, e => by
    simp at h
    subst h
    rw [List.flatMap_cons, Nat.zero_mul, Nat.zero_add, List.set_append_left _ _ (by rw [hf]; exact hj), List.set_cons_zero, List.flatMap_cons, e]
  | x :: l, i + 1, j, X, X', h, hj, e => by
    rw [List.flatMap_cons, List.set_append_right _ _ (by rw [hf, Nat.succ_mul]; omega), hf, show (i + 1) * c + j - c = i * c + j by rw [Nat.succ_mul]; omega, flat_set f c hf u l i j X X' (by simpa using h) hj e, List.set_cons_succ, List.flatMap_cons]
/-- a node's cells -/
def nvc (X : NoV) : List Value := [.int .i64 X.k, .int .i64 X.mode, .int .i64 X.uid, .int .i64 X.gid, .int .i64 X.time, .int .i64 X.size, .slice X.da X.dl X.dc, .string X.target, .int .i64 X.dev, .slice X.aa X.al X.ac, .slice X.ka X.kl X.kc, .int .i64 X.parent, .int .i64 X.links]
theorem nvc_len (X : NoV) : (nvc X).length = 13 := rfl
/-- a kid's cells -/
def kdc (c : Kd) : List Value := [.string (tx c.n), .int .i64 c.i]
theorem kdc_len (c : Kd) : (kdc c).length = 2 := rfl
/-- rows of other types lie in other blocks -/
theorem owns_ne {W : World} {b1 b2 e1 e2 s1 s2 n1 n2 : Nat} {v1 v2 : Value} {x1 x2 : List Value} (h1 : W.ownsRow b1 e1 s1 v1 n1 x1) (h2 : W.ownsRow b2 e2 s2 v2 n2 x2) (he : e1 ≠ e2) : v1.ownBlock = none ∨ v1.ownBlock ≠ v2.ownBlock := by
  rcases h1.2 with ⟨rfl, _⟩ | ⟨g, cap, cur, rfl, _, hg, _⟩
  · exact .inl rfl
  · right
    rcases h2.2 with ⟨rfl, _⟩ | ⟨g', cap', cur', rfl, _, hg', _⟩
    · simp [Value.ownBlock]
    · intro e
      simp only [Value.ownBlock, Option.some.injEq] at e
      subst e
      rw [hg] at hg'
      injection hg' with hg'
      injection hg' with _ hg'
      exact he hg'
theorem grown_ownB {a b c : World} {base t s n : Nat} {v : Value} {xs : List Value} (h : a.grownBy b none) (ho : b.ownsRow base t s v n xs) (k : b.grownBy c v.ownBlock) (hb : a.heap.size ≤ base) : a.grownBy c none := by
  rcases ho.2 with ⟨rfl, _⟩ | ⟨g, cap, cur, rfl, hg, _⟩
  · exact grown_trans h k
  · exact grown_new h k (show a.heap.size ≤ g by omega)
/-- what a node's rows are -/
structure Nk (w W : World) (base : Nat) (X : NoV) : Prop where
  row : Row w X.da X.dl X.data
  own : W.ownsRow base 50 2 (.slice X.aa X.al X.ac) X.al (X.attrs.flatMap avc)
  len : X.al = X.attrs.length
  rows : ∀ A ∈ X.attrs, Row w A.a A.len A.v ∧ A.len ≤ A.cap
  kid : W.ownsRow base 56 2 (.slice X.ka X.kl X.kc) X.kl (X.kids.flatMap kdc)
  klen : X.kl = X.kids.length
def NoV.kv (X : NoV) : Value := .slice X.ka X.kl X.kc
/-- a tree in memory while it is built: its nodes in a row, each one's rows of their own -/
structure Td (w W : World) (base : Nat) (v : Value) (l : List NoV) : Prop where
  gr : w.grownBy W none
  low : w.heap.size ≤ base
  own : W.ownsRow base 54 13 v l.length (l.flatMap nvc)
  each : ∀ (i : Nat) (X : NoV), l[i]? = some X → Nk w W base X
  apart : ∀ (i j : Nat) (X Y : NoV), l[i]? = some X → l[j]? = some Y → i ≠ j → ∀ b, X.kv.ownBlock = some b → Y.kv.ownBlock = some b → False
theorem Nk.but {w W W' : World} {base : Nat} {X : NoV} {r : Option Nat} (h : Nk w W base X) (g : W.grownBy W' r) (h1 : (Value.slice X.aa X.al X.ac).ownBlock = none ∨ (Value.slice X.aa X.al X.ac).ownBlock ≠ r) (h2 : X.kv.ownBlock = none ∨ X.kv.ownBlock ≠ r) : Nk w W' base X :=
  ⟨h.row, h.own.kept g h1, h.len, h.rows, h.kid.kept g h2, h.klen⟩
theorem ne_none (o : Option Nat) : o = none ∨ o ≠ none := by cases o <;> simp
theorem Td.kept {w W W' : World} {base : Nat} {v : Value} {l : List NoV} (h : Td w W base v l) (g : W.grownBy W' none) : Td w W' base v l :=
  ⟨grown_trans h.gr g, h.low, h.own.kept g (ne_none _), fun i X hX => (h.each i X hX).but g (ne_none _) (ne_none _), h.apart⟩
/-- a row of another type is written, or grows -/
theorem Td.other {w W W' : World} {base : Nat} {v : Value} {l : List NoV} {e s n : Nat} {u : Value} {xs : List Value} (h : Td w W base v l) (ho : W.ownsRow base e s u n xs) (hN : 54 ≠ e) (hA : 50 ≠ e) (hK : 56 ≠ e) (g : W.grownBy W' u.ownBlock) : Td w W' base v l := by
  refine ⟨?_, h.low, h.own.kept g (owns_ne h.own ho hN), fun i X hX => (h.each i X hX).but g (owns_ne (h.each i X hX).own ho hA) (owns_ne (h.each i X hX).kid ho hK), h.apart⟩
  exact grown_ownB h.gr ho g h.low
/-- a block that lies ahead of the rows is written -/
theorem Td.ahead {w W W' : World} {base b : Nat} {v : Value} {l : List NoV} (h : Td w W base v l) (hb : b < base) (hw : w.heap.size ≤ b) (g : W.grownBy W' (some b)) : Td w W' base v l := by
  have hlt : ∀ {e s n : Nat} {u : Value} {xs : List Value}, W.ownsRow base e s u n xs → u.ownBlock = none ∨ u.ownBlock ≠ some b := fun {e s n u xs} ho => by
    right
    intro e
    have := (ho.lt _ e).1
    omega
  exact ⟨grown_new h.gr g hw, h.low, h.own.kept g (hlt h.own), fun i X hX => (h.each i X hX).but g (hlt (h.each i X hX).own) (hlt (h.each i X hX).kid), h.apart⟩
theorem Td.form {w W : World} {base : Nat} {v : Value} {l : List NoV} (h : Td w W base v l) (h0 : l ≠ []) : ∃ g c, v = .slice (some ⟨g, 0, none⟩) l.length c ∧ base ≤ g ∧ l.length ≤ c ∧ c ≤ maxLen ∧ W.heap.size > g := by
  rcases h.own.2 with ⟨rfl, h1⟩ | ⟨g, c, cur, rfl, hg, hh, hc, hm, _⟩
  · exact absurd (List.eq_nil_of_length_eq_zero h1) h0
  · exact ⟨g, c, rfl, hg, hc, hm, (Array.getElem?_eq_some_iff.1 hh).1⟩
/-- a field of a node -/
theorem Td.cell {w W : World} {base g c n : Nat} {l : List NoV} (h : Td w W base (.slice (some ⟨g, 0, none⟩) n c) l) (hn : l.length = n) {i f : Nat} {X : NoV} (hX : l[i]? = some X) (hf : f < 13) : W.cell? ⟨g, i * 13 + f, none⟩ = (nvc X)[f]? := by
  have hi : i < l.length := (List.getElem?_eq_some_iff.1 hX).1
  have ho := h.own
  rw [← hn] at ho
  rw [ho.cellAt (i * 13 + f) (by omega), flat_at nvc 13 nvc_len l i f X hX hf]
theorem Td.froz {w W : World} {base g c n : Nat} {l : List NoV} (h : Td w W base (.slice (some ⟨g, 0, none⟩) n c) l) (hn : l.length = n) (j : Nat) : W.frozen? ⟨g, j, none⟩ = false := by
  have ho := h.own
  rw [← hn] at ho
  exact ho.frozenAt j
theorem get_set {l : List NoV} {i j : Nat} {X' Y : NoV} (h : (l.set i X')[j]? = some Y) : (j = i ∧ Y = X') ∨ (j ≠ i ∧ l[j]? = some Y) := by
  rw [List.getElem?_set] at h
  by_cases e : i = j
  · subst e
    left
    simp at h
    exact ⟨rfl, h.2.symm⟩
  · right
    rw [if_neg e] at h
    exact ⟨fun q => e q.symm, h⟩
/-- a field of a node is written that is no row -/
theorem Td.set {w W : World} {base g c n : Nat} {l : List NoV} (h : Td w W base (.slice (some ⟨g, 0, none⟩) n c) l) (hn : l.length = n) {i f : Nat} {X X' : NoV} {u : Value} (hX : l[i]? = some X) (hf : f < 13) (e : nvc X' = (nvc X).set f u)
    (hk : X'.da = X.da ∧ X'.dl = X.dl ∧ X'.data = X.data ∧ X'.aa = X.aa ∧ X'.al = X.al ∧ X'.ac = X.ac ∧ X'.attrs = X.attrs ∧ X'.ka = X.ka ∧ X'.kl = X.kl ∧ X'.kc = X.kc ∧ X'.kids = X.kids) :
    Td w (W.setCell ⟨g, i * 13 + f, none⟩ u) base (.slice (some ⟨g, 0, none⟩) n c) (l.set i X') := by
  have ho := h.own
  rw [hn] at ho
  obtain ⟨h1, h2⟩ := ho.stored (i * 13 + f) u
  rw [flat_set nvc 13 nvc_len u l i f X X' hX hf e] at h1
  have hsame : X'.kv = X.kv := by unfold NoV.kv; rw [hk.2.2.2.2.2.2.2.1, hk.2.2.2.2.2.2.2.2.1, hk.2.2.2.2.2.2.2.2.2.1]
  have hnk : ∀ (j : Nat) (Y : NoV), l[j]? = some Y → Nk w (W.setCell ⟨g, i * 13 + f, none⟩ u) base Y := fun j Y hY =>
    (h.each j Y hY).but h2 (owns_ne (h.each j Y hY).own h.own (by decide)) (owns_ne (h.each j Y hY).kid h.own (by decide))
  refine ⟨grown_ownB h.gr h.own h2 h.low, h.low, by rw [List.length_set, hn]; exact h1, fun j Y hY => ?_, fun a b A B hA hB hab k hA2 hB2 => ?_⟩
  · rcases get_set hY with ⟨rfl, rfl⟩ | ⟨_, hY⟩
    · have := hnk j X hX
      obtain ⟨k1, k2, k3, k4, k5, k6, k7, k8, k9, k10, k11⟩ := hk
      exact ⟨by rw [k1, k2, k3]; exact this.row, by rw [k4, k5, k6, k7]; exact this.own, by rw [k5, k7]; exact this.len, by rw [k7]; exact this.rows, by rw [k8, k9, k10, k11]; exact this.kid, by rw [k9, k11]; exact this.klen⟩
    · exact hnk j Y hY
  · rcases get_set hA with ⟨ea, eA⟩ | ⟨ha, hA'⟩
    · rcases get_set hB with ⟨eb, eB⟩ | ⟨hb, hB'⟩
      · omega
      · rw [ea] at hab
        exact h.apart i b X B hX hB' hab k (by rw [← hsame, ← eA]; exact hA2) hB2
    · rcases get_set hB with ⟨eb, eB⟩ | ⟨hb, hB'⟩
      · rw [eb] at hab
        exact h.apart a i A X hA' hX hab k hA2 (by rw [← hsame, ← eB]; exact hB2)
      · exact h.apart a b A B hA' hB' hab k hA2 hB2
/-- a node more -/
theorem Td.add {w W W' : World} {base : Nat} {v v' : Value} {l : List NoV} {N : NoV} (h : Td w W base v l) (hN : Nk w W base N) (hk : N.ka = none) (hown : W'.ownsRow base 54 13 v' (l.length + 1) (l.flatMap nvc ++ nvc N)) (g : W.grownBy W' v.ownBlock) : Td w W' base v' (l ++ [N]) := by
  have hkv : N.kv.ownBlock = none := by unfold NoV.kv; rw [hk]; rfl
  have hnk : ∀ (Y : NoV), Nk w W base Y → Nk w W' base Y := fun Y hY => hY.but g (owns_ne hY.own h.own (by decide)) (owns_ne hY.kid h.own (by decide))
  have hget : ∀ (j : Nat) (Y : NoV), (l ++ [N])[j]? = some Y → l[j]? = some Y ∨ (j = l.length ∧ Y = N) := fun j Y hY => by
    rcases Nat.lt_or_ge j l.length with hj | hj
    · left; rwa [List.getElem?_append_left hj] at hY
    · right
      rw [List.getElem?_append_right hj] at hY
      cases hjj : j - l.length with
      | zero => rw [hjj] at hY; simp at hY; exact ⟨by omega, hY.symm⟩
      | succ q => rw [hjj] at hY; simp at hY
  refine ⟨grown_ownB h.gr h.own g h.low, h.low, by rw [List.length_append, List.flatMap_append]; simpa using hown, fun j Y hY => ?_, fun a b A B hA hB hab k hA2 hB2 => ?_⟩
  · rcases hget j Y hY with hY | ⟨_, rfl⟩
    · exact hnk Y (h.each j Y hY)
    · exact hnk Y hN
  · rcases hget a A hA with hA | ⟨ha, rfl⟩
    · rcases hget b B hB with hB | ⟨hb, rfl⟩
      · exact h.apart a b A B hA hB hab k hA2 hB2
      · rw [hkv] at hB2; cases hB2
    · rw [hkv] at hA2; cases hA2
end Go.Proofs.YtbpoealcaogjpaaGreatDoor

namespace Go.Proofs.YtbpoealcaogjpaaGreatDoor
open Go.RowKit
set_option maxRecDepth 100000
set_option linter.unusedSimpArgs false
set_option linter.unusedVariables false

/-- a kid more: its row grows, then the node's field is written -/
theorem Td.kid {w W W1 : World} {base g c n : Nat} {l : List NoV} (h : Td w W base (.slice (some ⟨g, 0, none⟩) n c) l) (hn : l.length = n) {i : Nat} {X : NoV} (hX : l[i]? = some X) {K : Kd} {ka : Option Addr} {kl kc : Nat}
    (hown : W1.ownsRow base 56 2 (.slice ka kl kc) (X.kl + 1) (X.kids.flatMap kdc ++ kdc K)) (hkl : kl = X.kl + 1) (g1 : W.grownBy W1 X.kv.ownBlock) (hat : (Value.slice ka kl kc).ownBlock = X.kv.ownBlock ∨ (∃ q, (Value.slice ka kl kc).ownBlock = some q ∧ W.heap.size ≤ q)) :
    Td w (W1.setCell ⟨g, i * 13 + 10, none⟩ (.slice ka kl kc)) base (.slice (some ⟨g, 0, none⟩) n c) (l.set i { X with ka := ka, kl := kl, kc := kc, kids := X.kids ++ [K] }) := by
  have hkX := (h.each i X hX).kid
  -- all but the kids' row that grew
  have hno : W1.ownsRow base 54 13 (.slice (some ⟨g, 0, none⟩) n c) n (l.flatMap nvc) := by
    have := h.own.kept g1 (owns_ne h.own hkX (by decide))
    rwa [hn] at this
  have hat1 : ∀ (j : Nat) (Y : NoV), l[j]? = some Y → W1.ownsRow base 50 2 (.slice Y.aa Y.al Y.ac) Y.al (Y.attrs.flatMap avc) := fun j Y hY => (h.each j Y hY).own.kept g1 (owns_ne (h.each j Y hY).own hkX (by decide))
  have hkd1 : ∀ (j : Nat) (Y : NoV), l[j]? = some Y → j ≠ i → W1.ownsRow base 56 2 (.slice Y.ka Y.kl Y.kc) Y.kl (Y.kids.flatMap kdc) := fun j Y hY hji => (h.each j Y hY).kid.kept g1 (by
    show Y.kv.ownBlock = none ∨ Y.kv.ownBlock ≠ X.kv.ownBlock
    cases hb : Y.kv.ownBlock with
    | none => exact .inl rfl
    | some b => exact .inr fun e => h.apart j i Y X hY hX hji b hb e.symm)
  obtain ⟨s1, s2⟩ := hno.stored (i * 13 + 10) (.slice ka kl kc)
  rw [flat_set nvc 13 nvc_len (.slice ka kl kc) l i 10 X { X with ka := ka, kl := kl, kc := kc, kids := X.kids ++ [K] } hX (by decide) rfl] at s1
  have hgr1 : w.grownBy W1 none := grown_ownB h.gr hkX g1 h.low
  refine ⟨grown_ownB hgr1 hno s2 h.low, h.low, by rw [List.length_set, hn]; exact s1, fun j Y hY => ?_, fun a b A B hA hB hab k hA2 hB2 => ?_⟩
  · rcases get_set hY with ⟨rfl, rfl⟩ | ⟨hji, hY'⟩
    · have hx := h.each j X hX
      refine ⟨hx.row, (hat1 j X hX).kept s2 (owns_ne (hat1 j X hX) hno (by decide)), hx.len, hx.rows, ?_, ?_⟩
      · show World.ownsRow _ base 56 2 (.slice ka kl kc) kl ((X.kids ++ [K]).flatMap kdc)
        have e : (X.kids ++ [K]).flatMap kdc = X.kids.flatMap kdc ++ kdc K := by rw [List.flatMap_append]; simp
        rw [e]
        have hown2 : W1.ownsRow base 56 2 (.slice ka kl kc) kl (X.kids.flatMap kdc ++ kdc K) := by rw [hkl] at hown ⊢; exact hown
        exact hown2.kept s2 (owns_ne hown2 hno (by decide))
      · show kl = (X.kids ++ [K]).length
        rw [hkl, List.length_append, hx.klen]; rfl
    · have hy := h.each j Y hY'
      exact ⟨hy.row, (hat1 j Y hY').kept s2 (owns_ne (hat1 j Y hY') hno (by decide)), hy.len, hy.rows, (hkd1 j Y hY' hji).kept s2 (owns_ne (hkd1 j Y hY' hji) hno (by decide)), hy.klen⟩
  · have hnew : ∀ (j : Nat) (Y : NoV), l[j]? = some Y → j ≠ i → ∀ b, (Value.slice ka kl kc).ownBlock = some b → Y.kv.ownBlock = some b → False := fun j Y hY hji b hb hy => by
      rcases hat with e | ⟨q, e, hq⟩
      · exact h.apart j i Y X hY hX hji b hy (by rw [← e]; exact hb)
      · rw [e] at hb
        injection hb with hb
        have := ((h.each j Y hY).kid.lt b hy).2
        omega
    rcases get_set hA with ⟨ea, eA⟩ | ⟨ha, hA'⟩
    · rcases get_set hB with ⟨eb, eB⟩ | ⟨hb, hB'⟩
      · omega
      · exact hnew b B hB' hb k (by rw [eA] at hA2; exact hA2) hB2
    · rcases get_set hB with ⟨eb, eB⟩ | ⟨hb, hB'⟩
      · exact hnew a A hA' ha k (by rw [eB] at hB2; exact hB2) hA2
      · exact h.apart a b A B hA' hB' hab k hA2 hB2
/-- kids in a row of their own -/
theorem own_kds {w : World} {base t n : Nat} {a : Option Addr} {c : Nat} {l : List Kd} (h : w.ownsRow base t 2 (.slice a n c) n (l.flatMap kdc)) (hn : n = l.length) : Kds w a n l := by
  rcases h.2 with ⟨e, h0⟩ | ⟨g, cap, cur, e, hg, hh, hc, hm, hs, ht⟩
  · subst h0
    exact ⟨by omega, Nat.zero_le _, fun h => by omega⟩
  · injection e with e1 e2 e3
    subst e1 e3
    refine ⟨hn.symm, Nat.le_trans hc hm, fun _ => ⟨g, 0, rfl, fun i K hK => ?_⟩⟩
    have hi : i < l.length := (List.getElem?_eq_some_iff.1 hK).1
    constructor
    · have h1 := h.cellAt (i * 2 + 0) (by omega)
      rw [flat_at kdc 2 kdc_len l i 0 K hK (by decide)] at h1
      simpa [kdc] using h1
    · have h1 := h.cellAt (i * 2 + 1) (by omega)
      rw [flat_at kdc 2 kdc_len l i 1 K hK (by decide)] at h1
      simpa [kdc] using h1
theorem Nk.ok {w W : World} {base : Nat} {X : NoV} (h : Nk w W base X) (g : w.grownBy W none) : X.ok W := by
  obtain ⟨a, c, e, hats, -, -⟩ := own_ats h.own h.len (fun A hA => ⟨((h.rows A hA).1).grown g, (h.rows A hA).2⟩)
  injection e with e1 e2 e3
  subst e1
  exact ⟨h.row.grown g, hats, own_kds h.kid h.klen⟩
/-- the tree that is read -/
theorem Td.nos {w W : World} {base n c : Nat} {a : Option Addr} {l : List NoV} (h : Td w W base (.slice a n c) l) (hn : l.length = n) : Nos W a n l := by
  have ho := h.own
  rw [hn] at ho
  rcases ho.2 with ⟨e, h0⟩ | ⟨g, cap, cur, e, hg, hh, hc, hm, hs, ht⟩
  · exact ⟨hn, by omega, fun h => by omega⟩
  · injection e with e1 e2 e3
    subst e1 e3
    refine ⟨hn, Nat.le_trans hc hm, fun _ => ⟨g, 0, rfl, fun i X hX => ?_⟩⟩
    have k := fun f (hf : f < 13) => h.cell hn hX hf
    rw [Nat.zero_add]
    exact ⟨k 0 (by decide), k 1 (by decide), k 2 (by decide), k 3 (by decide), k 4 (by decide), k 5 (by decide), k 6 (by decide), k 7 (by decide), k 8 (by decide), k 9 (by decide), k 10 (by decide), k 11 (by decide), k 12 (by decide), (h.each i X hX).ok h.gr⟩
end Go.Proofs.YtbpoealcaogjpaaGreatDoor
