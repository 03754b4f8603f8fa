/- The document's Much: what is small. Kids in memory; the document's SameKids. The document's SameAttrs. Nodes in memory. The document's Node. A tree in memory while it is built. A tree in memory while it is built: a kid more; the tree that is read. -/
import Derived.Deep.RegionHeld3
import Derived.Laws.Tables
import Derived.Maps.AppendAt
import Derived.Laws.OwnMore
import Derived.Test.YtbpoealcaogjpaaGreatDoorBp04
import Derived.Test.YtbpoealcaogjpaaGreatDoorBp06
namespace Go.Proofs.YtbpoealcaogjpaaGreatDoor
open Go.RowKit
set_option maxRecDepth 100000
set_option linter.unusedSimpArgs false
set_option linter.unusedVariables false

/-- a small attribute -/
def AtV.sm (A : AtV) : Prop := A.n.size ≤ 300 ∧ A.len ≤ 5000
/-- a small entry -/
structure EnV.sm (X : EnV) : Prop where
  d : X.dl ≤ 70000
  p : X.path.size ≤ 5000
  t : X.target.size ≤ 5000
  a : X.al ≤ 70
  at_ : ∀ (i : Nat) (A : AtV), X.attrs[i]? = some A → AtV.sm A
/-- entries that are not much -/
def Smal (l : List EnV) : Prop := ∀ (i : Nat) (X : EnV), l[i]? = some X → EnV.sm X
theorem Smal.sml {l : List EnV} (h : Smal l) : Sml l := fun X hX => by
  obtain ⟨i, hi, rfl⟩ := List.getElem_of_mem hX
  have k := h i l[i] (List.getElem?_eq_getElem hi)
  refine ⟨k.p, k.t, fun A hA => ?_⟩
  obtain ⟨j, hj, rfl⟩ := List.getElem_of_mem hA
  have := (k.at_ j _ (List.getElem?_eq_getElem hj)).1
  omega
/-- what Much tells -/
def MuPost (w : World) (len : Nat) (l : List EnV) (e : Ending) (w' : World) : Prop := (e = .returned (.bool true) ∨ (e = .returned (.bool false) ∧ len ≤ 40 ∧ Smal l)) ∧ w.grownBy w' none
set_option maxHeartbeats 4000000 in
theorem rmuch_any (a : Option Addr) (len cap : Nat) (l : List EnV) (w : World) (E : Ens w a len l) : Calls Tryz.prog 9 #[.slice a len cap] w (MuPost w len l) := by
  have hll := E.len_eq
  by_cases h1 : 40 < len
  · have h1i : (40 : Int) < (len : Int) := by omega
    clear E hll
    go_enter Tryz.func9, Tryz.ntmps9
    go_wp2
    go_ret
    exact ⟨Or.inl rfl, World.grownBy.refl _ _⟩
  · have h1i : ¬ (40 : Int) < (len : Int) := by omega
    have HI : Hid _ := And.intro E hll
    clear E hll
    go_enter Tryz.func9, Tryz.ntmps9
    go_wp2
    go_loopw [3, 4] (fun vs vi wr => ∃ (k : Nat) (sm : Int), k ≤ len ∧ vi = .int .i64 k ∧ vs = .int .i64 sm ∧ 0 ≤ sm ∧ sm ≤ 1000000 ∧ Hid (∀ (i : Nat) (X : EnV), i < k → l[i]? = some X → EnV.sm X) ∧ ∃ t, wr = w.drewN t) (fun _ vi _ => len - (intOf vi).toNat)
    case atStart => exact ⟨0, 0, Nat.zero_le _, rfl, rfl, by omega, by omega, fun i X h => by omega, 0, rfl⟩
    case round =>
      obtain ⟨k, sm, hk, rfl, rfl, hs0, hs1, HS, t, rfl⟩ := hrel
      by_cases hlt : k < len
      · obtain ⟨Y, hY⟩ : ∃ Y, l[k]? = some Y := ⟨_, List.getElem?_eq_getElem (by have := HI.out.2; omega)⟩
        obtain ⟨b, off, rfl, hat⟩ := HI.out.1.at_ (by omega)
        have hy := hat k Y hY
        have y0 := hy.c0
        have y7 := hy.c7
        have y8 := hy.c8
        have y10 := hy.c10
        have HY : Hid _ := And.intro hY hy.ok
        have hle1 := hy.ok.row.le
        have hle2 := hy.ok.ats.le
        clear hat hy hY
        have hlti : (k : Int) < (len : Int) := by omega
        by_cases q1 : 70000 < Y.dl
        · have q1i : (70000 : Int) < (Y.dl : Int) := by omega
          go_wp2
          go_ret
          exact ⟨Or.inl rfl, drewG11 (World.grownBy.refl _ _) _⟩
        have q1i : ¬ (70000 : Int) < (Y.dl : Int) := by omega
        by_cases q2 : 5000 < Y.path.size
        · have q2i : (5000 : Int) < (Y.path.size : Int) := by omega
          go_wp2
          go_ret
          exact ⟨Or.inl rfl, drewG11 (World.grownBy.refl _ _) _⟩
        have q2i : ¬ (5000 : Int) < (Y.path.size : Int) := by omega
        by_cases q3 : 5000 < Y.target.size
        · have q3i : (5000 : Int) < (Y.target.size : Int) := by omega
          go_wp2
          go_ret
          exact ⟨Or.inl rfl, drewG11 (World.grownBy.refl _ _) _⟩
        have q3i : ¬ (5000 : Int) < (Y.target.size : Int) := by omega
        by_cases q4 : 70 < Y.al
        · have q4i : (70 : Int) < (Y.al : Int) := by omega
          go_wp2
          go_ret
          exact ⟨Or.inl rfl, drewG11 (World.grownBy.refl _ _) _⟩
        have q4i : ¬ (70 : Int) < (Y.al : Int) := by omega
        have HQ : Hid _ := And.intro q1 (And.intro q2 (And.intro q3 q4))
        clear q1 q2 q3
        go_wp2
        go_loopw [3, 5] (fun vs vj wr => ∃ (j : Nat) (sm : Int), j ≤ Y.al ∧ vj = .int .i64 j ∧ vs = .int .i64 sm ∧ 0 ≤ sm ∧ sm ≤ 1000000 ∧ Hid (∀ (i : Nat) (A : AtV), i < j → Y.attrs[i]? = some A → AtV.sm A) ∧ ∃ t, wr = w.drewN t) (fun _ vj _ => Y.al - (intOf vj).toNat)
        case atStart => exact ⟨0, sm, Nat.zero_le _, rfl, rfl, hs0, hs1, fun i A h => by omega, t, rfl⟩
        case round =>
          obtain ⟨j, s2, hj, rfl, rfl, hs2, hs3, HJ, t2, rfl⟩ := hrel
          by_cases hlt2 : j < Y.al
          · obtain ⟨b2, o2, hb2, hat2⟩ := HY.out.2.ats.at_ (by omega)
            obtain ⟨B, hB⟩ : ∃ B, Y.attrs[j]? = some B := ⟨_, List.getElem?_eq_getElem (by have := HY.out.2.ats.len_eq; omega)⟩
            obtain ⟨d0, d1, hr1, hcp⟩ := hat2 j B hB
            have hle3 := hr1.le
            have HB : Hid _ := hB
            rw [hb2] at y10
            clear hat2 hr1 hB hb2 hcp
            have hlt2i : (j : Int) < (Y.al : Int) := by omega
            generalize Y.al = yl at *
            by_cases r1 : B.n.size ≤ 300 ∧ B.len ≤ 5000
            · obtain ⟨r1a, r1b⟩ := r1
              have HJ2 : Hid (∀ (i : Nat) (A : AtV), i < j + 1 → Y.attrs[i]? = some A → AtV.sm A) := by
                intro i A hi hA
                rcases Nat.lt_or_ge i j with h | h
                · exact HJ.out i A h hA
                · have : i = j := by omega
                  subst this
                  rw [HB.out] at hA
                  injection hA with hA
                  subst hA
                  exact ⟨r1a, r1b⟩
              have g1 : ¬ (300 : Int) < (B.n.size : Int) := by omega
              have g2 : ¬ (5000 : Int) < (B.len : Int) := by omega
              by_cases r3 : 1000000 < s2 + B.n.size + B.len
              · have r3i := r3
                go_wp2
                go_quiet (fail)
                go_wp2
                go_ret
                exact ⟨Or.inl rfl, drewG11 (World.grownBy.refl _ _) _⟩
              · go_wp2
                go_quiet (fail)
                go_wp2
                go_roundw
                case rel => exact ⟨j + 1, s2 + B.n.size + B.len, by omega, by go_num, by go_num, by omega, by omega, HJ2, _, rfl⟩
                case measure => simp [intOf]; omega
            · by_cases r2 : 300 < B.n.size
              · have g1 : (300 : Int) < (B.n.size : Int) := by omega
                go_wp2
                go_quiet (fail)
                go_wp2
                go_ret
                exact ⟨Or.inl rfl, drewG11 (World.grownBy.refl _ _) _⟩
              · have g1 : ¬ (300 : Int) < (B.n.size : Int) := by omega
                have g2 : (5000 : Int) < (B.len : Int) := by omega
                go_wp2
                go_quiet (fail)
                go_wp2
                go_ret
                exact ⟨Or.inl rfl, drewG11 (World.grownBy.refl _ _) _⟩
          · have hlt2i : ¬ (j : Int) < (Y.al : Int) := by omega
            have HS2 : Hid (∀ (i : Nat) (X : EnV), i < k + 1 → l[i]? = some X → EnV.sm X) := by
              intro i X hi hX
              rcases Nat.lt_or_ge i k with h | h
              · exact HS.out i X h hX
              · have : i = k := by omega
                subst this
                rw [HY.out.1] at hX
                injection hX with hX
                subst hX
                have q := HQ.out
                exact ⟨by omega, by omega, by omega, by omega, fun i A hA => HJ.out i A (by
                  rcases Nat.lt_or_ge i Y.attrs.length with h | h
                  · have := HY.out.2.ats.len_eq; omega
                  · rw [List.getElem?_eq_none h] at hA; simp at hA) hA⟩
            go_wp2
            go_roundw
            case rel => exact ⟨k + 1, s2, by omega, by go_num, rfl, hs2, hs3, HS2, _, rfl⟩
            case measure => simp [intOf]; omega
      · have hk9 : k = len := by omega
        subst hk9
        have hlti : ¬ (k : Int) < (k : Int) := by omega
        have HF : Hid (Smal l) := by
          intro i X hX
          refine HS.out i X ?_ hX
          rcases Nat.lt_or_ge i l.length with h | h
          · have := HI.out.2; omega
          · rw [List.getElem?_eq_none h] at hX; simp at hX
        go_wp2
        go_ret
        exact ⟨Or.inr ⟨rfl, by omega, HF.out⟩, drewG11 (World.grownBy.refl _ _) _⟩
end Go.Proofs.YtbpoealcaogjpaaGreatDoor

namespace Go.Proofs.YtbpoealcaogjpaaGreatDoor
open Go.RowKit
set_option maxRecDepth 100000
set_option linter.unusedSimpArgs false
set_option linter.unusedVariables false

structure KdAt (w : World) (b o : Nat) (K : Kd) : Prop where
  c0 : w.cell? ⟨b, o, none⟩ = some (.string (tx K.n))
  c1 : w.cell? ⟨b, o + 1, none⟩ = some (.int .i64 K.i)
/-- kids in memory -/
structure Kds (w : World) (a : Option Addr) (len : Nat) (l : List Kd) : Prop where
  len_eq : l.length = len
  le : len ≤ maxLen
  at_ : 0 < len → ∃ b off, a = some ⟨b, off, none⟩ ∧ ∀ (i : Nat) (K : Kd), l[i]? = some K → KdAt w b (off + i * 2) K
theorem Kds.grown {w w' : World} {a : Option Addr} {len : Nat} {l : List Kd} (h : Kds w a len l) (g : w.grownBy w' none) : Kds w' a len l :=
  ⟨h.len_eq, h.le, fun h0 => by obtain ⟨b, off, e, k⟩ := h.at_ h0; exact ⟨b, off, e, fun i K hK => ⟨cell_grown (k i K hK).c0 g, cell_grown (k i K hK).c1 g⟩⟩⟩
def sameKd (x y : Kd) : Bool := (x.n == y.n) && (x.i == y.i)
/-- are they the same? -/
def sameKds : List Kd → List Kd → Bool
  | [], [] => true
  | x :: a, y :: b => sameKd x y && sameKds a b
  | _, _ => false
theorem sameKds_len {a b : List Kd} (h : a.length ≠ b.length) : sameKds a b = false := by
  induction a generalizing b with
  | nil => cases b with
    | nil => simp at h
    | cons y b => rfl
  | cons x a ih => cases b with
    | nil => rfl
    | cons y b => rw [sameKds, ih (by simpa using h), Bool.and_false]
theorem sameKds_step {a b : List Kd} {k : Nat} {x y : Kd} (hx : a[k]? = some x) (hy : b[k]? = some y) : sameKds (a.drop k) (b.drop k) = (sameKd x y && sameKds (a.drop (k + 1)) (b.drop (k + 1))) := by
  have h1 : k < a.length := by
    rcases Nat.lt_or_ge k a.length with h | h
    · exact h
    · rw [List.getElem?_eq_none h] at hx; cases hx
  have h2 : k < b.length := by
    rcases Nat.lt_or_ge k b.length with h | h
    · exact h
    · rw [List.getElem?_eq_none h] at hy; cases hy
  rw [List.getElem?_eq_getElem h1] at hx
  rw [List.getElem?_eq_getElem h2] at hy
  injection hx with hx
  injection hy with hy
  rw [List.drop_eq_getElem_cons h1, List.drop_eq_getElem_cons h2, sameKds, hx, hy]
theorem sameKds_eq (a b : List Kd) : sameKds a b = true ↔ a = b := by
  induction a generalizing b with
  | nil => cases b <;> simp [sameKds]
  | cons x a ih => cases b with
    | nil => simp [sameKds]
    | cons y b =>
      rw [sameKds, Bool.and_eq_true, ih, List.cons.injEq]
      refine and_congr_left fun _ => ?_
      obtain ⟨n, i⟩ := x
      obtain ⟨m, j⟩ := y
      simp [sameKd]
set_option maxHeartbeats 2000000 in
theorem rsamekids_any (a b : Option Addr) (n c m d : Nat) (l r : List Kd) (w : World) (R : Kds w a n l) (R2 : Kds w b m r) :
    Calls Tryz.prog 21 #[.slice a n c, .slice b m d] w fun e w' => e = .returned (.bool (sameKds l r)) ∧ ∃ n, w' = w.drewN n := by
  have hle1 : n ≤ 9223372036854775807 := R.le
  have hle2 : m ≤ 9223372036854775807 := R2.le
  by_cases hnm : n = m
  · subst hnm
    have HE : Hid _ := And.intro R.len_eq R2.len_eq
    have HR : Hid _ := And.intro R R2
    clear R R2
    have hb : (n != n) = false := by simp
    go_enter Tryz.func21, Tryz.ntmps21
    go_wp2
    go_loopw [5] (fun i wr => ∃ k : Nat, k ≤ n ∧ i = .int .i64 k ∧ Hid (sameKds l r = sameKds (l.drop k) (r.drop k)) ∧ ∃ n, wr = w.drewN n) (fun i _ => n - (intOf i).toNat)
    case atStart => exact ⟨0, Nat.zero_le _, rfl, rfl, 0, rfl⟩
    case round =>
      obtain ⟨k, h1, rfl, HC, t, rfl⟩ := hrel
      by_cases h3 : k < n
      · obtain ⟨b1, o1, rfl, c1⟩ := HR.out.1.at_ (by omega)
        obtain ⟨b2, o2, rfl, c2⟩ := HR.out.2.at_ (by omega)
        obtain ⟨x, hx⟩ : ∃ x, l[k]? = some x := ⟨_, List.getElem?_eq_getElem (by rw [HE.out.1]; exact h3)⟩
        obtain ⟨y, hy⟩ : ∃ y, r[k]? = some y := ⟨_, List.getElem?_eq_getElem (by rw [HE.out.2]; exact h3)⟩
        obtain ⟨p0, p1⟩ := c1 k x hx
        obtain ⟨q0, q1⟩ := c2 k y hy
        have hst := sameKds_step hx hy
        rw [← HC.out] at hst
        unfold sameKd at hst
        obtain ⟨xn, xi⟩ := x
        obtain ⟨yn, yi⟩ := y
        simp only at p0 p1 q0 q1 hst
        rw [← tx_tl xn, ← tx_tl yn] at hst
        generalize tx xn = sx at *
        generalize tx yn = sy at *
        have HD : Hid _ := hst
        clear hst c1 c2
        have h3i : (k : Int) < n := by omega
        cases hq : (sx.toList == sy.toList) with
        | true =>
          by_cases hi : xi = yi
          · subst hi
            have HV : Hid (sameKds l r = sameKds (l.drop (k + 1)) (r.drop (k + 1))) := by
              show _ = _
              rw [HD.out, hq]; simp
            clear HD HC
            go_wp2
            go_quiet (fail)
            go_wp2
            exact ⟨⟨k + 1, by omega, by go_num, HV, _, rfl⟩, by simp [intOf]; omega⟩
          · have HV : Hid (sameKds l r = false) := by
              show _ = _
              rw [HD.out, hq]; simp [hi]
            have hib : (xi == yi) = false := by rw [beq_eq_false_iff_ne]; exact hi
            have hin : (xi != yi) = true := by simp [hi]
            clear HD HC
            go_wp2
            go_quiet (fail)
            go_wp2
            go_ret
            exact ⟨by rw [HV.out]; rfl, _, dd _ _ _⟩
        | false =>
          have HV : Hid (sameKds l r = false) := by
            show _ = _
            rw [HD.out, hq]; simp
          clear HD HC
          go_wp2
          go_quiet (fail)
          go_wp2
          go_ret
          exact ⟨by rw [HV.out]; rfl, _, dd _ _ _⟩
      · have HV : Hid (sameKds l r = true) := by
          show _ = _
          rw [HC.out, List.drop_eq_nil_of_le (by rw [HE.out.1]; omega), List.drop_eq_nil_of_le (by rw [HE.out.2]; omega)]
          rfl
        clear HC
        go_wp2
        go_ret
        exact ⟨by rw [HV.out]; rfl, _, rfl⟩
  · have HV : Hid (sameKds l r = false) := by
      show _ = _
      exact sameKds_len (by rw [R.len_eq, R2.len_eq]; exact hnm)
    have hb : ((n : Int) == (m : Int)) = false := by rw [beq_eq_false_iff_ne]; omega
    clear R R2
    go_enter Tryz.func21, Tryz.ntmps21
    go_wp2
    go_ret
    exact ⟨by rw [HV.out]; rfl, 0, rfl⟩
end Go.Proofs.YtbpoealcaogjpaaGreatDoor

namespace Go.Proofs.YtbpoealcaogjpaaGreatDoor
open Go.RowKit
set_option maxRecDepth 100000
set_option linter.unusedSimpArgs false
set_option linter.unusedVariables false

def sameAt (x y : Atr) : Bool := (x.n == y.n) && decide (x.v = y.v)
/-- are they the same? -/
def sameAts : List Atr → List Atr → Bool
  | [], [] => true
  | x :: a, y :: b => sameAt x y && sameAts a b
  | _, _ => false
theorem sameAts_len {a b : List Atr} (h : a.length ≠ b.length) : sameAts a b = false := by
  induction a generalizing b with
  | nil => cases b with
    | nil => simp at h
    | cons y b => rfl
  | cons x a ih => cases b with
    | nil => rfl
    | cons y b => rw [sameAts, ih (by simpa using h), Bool.and_false]
theorem sameAts_step {a b : List AtV} {k : Nat} {x y : AtV} (hx : a[k]? = some x) (hy : b[k]? = some y) : sameAts ((a.map AtV.at).drop k) ((b.map AtV.at).drop k) = (((x.n.toList == y.n.toList) && decide (x.v = y.v)) && sameAts ((a.map AtV.at).drop (k + 1)) ((b.map AtV.at).drop (k + 1))) := by
  have h1 : k < a.length := by
    rcases Nat.lt_or_ge k a.length with h | h
    · exact h
    · rw [List.getElem?_eq_none h] at hx; cases hx
  have h2 : k < b.length := by
    rcases Nat.lt_or_ge k b.length with h | h
    · exact h
    · rw [List.getElem?_eq_none h] at hy; cases hy
  rw [List.getElem?_eq_getElem h1] at hx
  rw [List.getElem?_eq_getElem h2] at hy
  injection hx with hx
  injection hy with hy
  rw [List.drop_eq_getElem_cons (l := a.map AtV.at) (i := k) (by rw [List.length_map]; exact h1), List.drop_eq_getElem_cons (l := b.map AtV.at) (i := k) (by rw [List.length_map]; exact h2), sameAts, List.getElem_map, List.getElem_map, hx, hy]
  rfl
theorem sameAts_eq (a b : List Atr) : sameAts a b = true ↔ a = b := by
  induction a generalizing b with
  | nil => cases b <;> simp [sameAts]
  | cons x a ih => cases b with
    | nil => simp [sameAts]
    | cons y b =>
      rw [sameAts, Bool.and_eq_true, ih, List.cons.injEq]
      refine and_congr_left fun _ => ?_
      obtain ⟨n, i⟩ := x
      obtain ⟨m, j⟩ := y
      simp [sameAt]
set_option maxHeartbeats 2000000 in
theorem rsameattrs_any (a b : Option Addr) (n c m d : Nat) (l r : List AtV) (w : World) (R : Ats w a n l) (R2 : Ats w b m r) :
    Calls Tryz.prog 28 #[.slice a n c, .slice b m d] w fun e w' => e = .returned (.bool (sameAts (l.map AtV.at) (r.map AtV.at))) ∧ ∃ n, w' = w.drewN n := by
  have hle1 : n ≤ 9223372036854775807 := R.le
  have hle2 : m ≤ 9223372036854775807 := R2.le
  by_cases hnm : n = m
  · subst hnm
    have HE : Hid _ := And.intro R.len_eq R2.len_eq
    have HR : Hid _ := And.intro R R2
    clear R R2
    have hb : (n != n) = false := by simp
    go_enter Tryz.func28, Tryz.ntmps28
    go_wp2
    go_loopw [5] (fun i wr => ∃ k : Nat, k ≤ n ∧ i = .int .i64 k ∧ Hid (sameAts (l.map AtV.at) (r.map AtV.at) = sameAts ((l.map AtV.at).drop k) ((r.map AtV.at).drop k)) ∧ ∃ n, wr = w.drewN n) (fun i _ => n - (intOf i).toNat)
    case atStart => exact ⟨0, Nat.zero_le _, rfl, rfl, 0, rfl⟩
    case round =>
      obtain ⟨k, h1, rfl, HC, t, rfl⟩ := hrel
      by_cases h3 : k < n
      · obtain ⟨b1, o1, rfl, c1⟩ := HR.out.1.at_ (by omega)
        obtain ⟨b2, o2, rfl, c2⟩ := HR.out.2.at_ (by omega)
        obtain ⟨x, hx⟩ : ∃ x, l[k]? = some x := ⟨_, List.getElem?_eq_getElem (by rw [HE.out.1]; exact h3)⟩
        obtain ⟨y, hy⟩ : ∃ y, r[k]? = some y := ⟨_, List.getElem?_eq_getElem (by rw [HE.out.2]; exact h3)⟩
        obtain ⟨p0, p1, pr, pc⟩ := c1 k x hx
        obtain ⟨q0, q1, qr, qc⟩ := c2 k y hy
        have hst := sameAts_step hx hy
        rw [← HC.out] at hst
        have cx : ∀ k, (convert 41 9 (.slice x.a x.len x.cap)).run Tryz.prog (w.drewN k) = .ok (.string (strOfNums x.v)) (w.drewN k) := fun k => conv_row (P := Tryz.prog) (pr.grown (drewG11 (World.grownBy.refl _ _) k)) x.cap 41 9 Tryz.underlying41 Tryz.underlying5 Tryz.underlying9
        have cy : ∀ k, (convert 41 9 (.slice y.a y.len y.cap)).run Tryz.prog (w.drewN k) = .ok (.string (strOfNums y.v)) (w.drewN k) := fun k => conv_row (P := Tryz.prog) (qr.grown (drewG11 (World.grownBy.refl _ _) k)) y.cap 41 9 Tryz.underlying41 Tryz.underlying5 Tryz.underlying9
        have hse := str_eq x.v y.v pr.byt qr.byt
        obtain ⟨xn, xa, xl, xc, xv⟩ := x
        obtain ⟨yn, ya, yl, yc, yv⟩ := y
        simp only at p0 p1 q0 q1 hst cx cy hse
        generalize strOfNums xv = Sa at *
        generalize strOfNums yv = Sb at *
        rw [← hse] at hst
        have HD : Hid _ := hst
        clear hst c1 c2 pr qr pc qc hx hy hse
        have h3i : (k : Int) < n := by omega
        cases hq : (xn.toList == yn.toList) with
        | true =>
          cases hi : (Sa.toList == Sb.toList) with
          | true =>
            have HV : Hid (sameAts (l.map AtV.at) (r.map AtV.at) = sameAts ((l.map AtV.at).drop (k + 1)) ((r.map AtV.at).drop (k + 1))) := by
              show _ = _
              rw [HD.out, hq, hi]; rfl
            clear HD HC
            go_wp2
            go_quiet (fail)
            go_wp2
            exact ⟨⟨k + 1, by omega, by go_num, HV, _, rfl⟩, by simp [intOf]; omega⟩
          | false =>
            have HV : Hid (sameAts (l.map AtV.at) (r.map AtV.at) = false) := by
              show _ = _
              rw [HD.out, hq, hi]; rfl
            clear HD HC
            go_wp2
            go_quiet (fail)
            go_wp2
            go_ret
            exact ⟨by rw [HV.out]; rfl, _, dd _ _ _⟩
        | false =>
          have HV : Hid (sameAts (l.map AtV.at) (r.map AtV.at) = false) := by
            show _ = _
            rw [HD.out, hq]; rfl
          clear HD HC
          go_wp2
          go_quiet (fail)
          go_wp2
          go_ret
          exact ⟨by rw [HV.out]; rfl, _, dd _ _ _⟩
      · have HV : Hid (sameAts (l.map AtV.at) (r.map AtV.at) = true) := by
          show _ = _
          rw [HC.out, List.drop_eq_nil_of_le (by rw [List.length_map, HE.out.1]; omega), List.drop_eq_nil_of_le (by rw [List.length_map, HE.out.2]; omega)]
          rfl
        clear HC
        go_wp2
        go_ret
        exact ⟨by rw [HV.out]; rfl, _, rfl⟩
  · have HV : Hid (sameAts (l.map AtV.at) (r.map AtV.at) = false) := by
      show _ = _
      exact sameAts_len (by rw [List.length_map, List.length_map, R.len_eq, R2.len_eq]; exact hnm)
    have hb : ((n : Int) == (m : Int)) = false := by rw [beq_eq_false_iff_ne]; omega
    clear R R2
    go_enter Tryz.func28, Tryz.ntmps28
    go_wp2
    go_ret
    exact ⟨by rw [HV.out]; rfl, 0, rfl⟩
end Go.Proofs.YtbpoealcaogjpaaGreatDoor

namespace Go.Proofs.YtbpoealcaogjpaaGreatDoor
open Go.RowKit
set_option maxRecDepth 100000
set_option linter.unusedSimpArgs false
set_option linter.unusedVariables false

/-- a node with its places in memory -/
structure NoV where
  k : Int
  mode : Int
  uid : Int
  gid : Int
  time : Int
  size : Int
  da : Option Addr
  dl : Nat
  dc : Nat
  data : List Int
  target : ByteArray
  dev : Int
  aa : Option Addr
  al : Nat
  ac : Nat
  attrs : List AtV
  ka : Option Addr
  kl : Nat
  kc : Nat
  kids : List Kd
  parent : Int
  links : Int
def NoV.no (X : NoV) : No := ⟨X.k, X.mode, X.uid, X.gid, X.time, X.size, X.data, X.target.toList, X.dev, X.attrs.map AtV.at, X.kids, X.parent, X.links⟩
structure NoV.ok (X : NoV) (w : World) : Prop where
  row : Row w X.da X.dl X.data
  ats : Ats w X.aa X.al X.attrs
  kds : Kds w X.ka X.kl X.kids
structure NoAt (w : World) (b o : Nat) (X : NoV) : Prop where
  c0 : w.cell? ⟨b, o, none⟩ = some (.int .i64 X.k)
  c1 : w.cell? ⟨b, o + 1, none⟩ = some (.int .i64 X.mode)
  c2 : w.cell? ⟨b, o + 2, none⟩ = some (.int .i64 X.uid)
  c3 : w.cell? ⟨b, o + 3, none⟩ = some (.int .i64 X.gid)
  c4 : w.cell? ⟨b, o + 4, none⟩ = some (.int .i64 X.time)
  c5 : w.cell? ⟨b, o + 5, none⟩ = some (.int .i64 X.size)
  c6 : w.cell? ⟨b, o + 6, none⟩ = some (.slice X.da X.dl X.dc)
  c7 : w.cell? ⟨b, o + 7, none⟩ = some (.string X.target)
  c8 : w.cell? ⟨b, o + 8, none⟩ = some (.int .i64 X.dev)
  c9 : w.cell? ⟨b, o + 9, none⟩ = some (.slice X.aa X.al X.ac)
  c10 : w.cell? ⟨b, o + 10, none⟩ = some (.slice X.ka X.kl X.kc)
  c11 : w.cell? ⟨b, o + 11, none⟩ = some (.int .i64 X.parent)
  c12 : w.cell? ⟨b, o + 12, none⟩ = some (.int .i64 X.links)
  ok : X.ok w
/-- nodes in memory -/
structure Nos (w : World) (a : Option Addr) (len : Nat) (l : List NoV) : Prop where
  len_eq : l.length = len
  le : len ≤ maxLen
  at_ : 0 < len → ∃ b off, a = some ⟨b, off, none⟩ ∧ ∀ (i : Nat) (X : NoV), l[i]? = some X → NoAt w b (off + i * 13) X
theorem NoV.ok.grown {X : NoV} {w w' : World} (h : X.ok w) (g : w.grownBy w' none) : X.ok w' := ⟨h.row.grown g, h.ats.grown g, h.kds.grown g⟩
theorem NoAt.grown {w w' : World} {b o : Nat} {X : NoV} (h : NoAt w b o X) (g : w.grownBy w' none) : NoAt w' b o X :=
  ⟨cell_grown h.c0 g, cell_grown h.c1 g, cell_grown h.c2 g, cell_grown h.c3 g, cell_grown h.c4 g, cell_grown h.c5 g, cell_grown h.c6 g, cell_grown h.c7 g, cell_grown h.c8 g, cell_grown h.c9 g, cell_grown h.c10 g, cell_grown h.c11 g, cell_grown h.c12 g, h.ok.grown g⟩
theorem Nos.grown {w w' : World} {a : Option Addr} {len : Nat} {l : List NoV} (h : Nos w a len l) (g : w.grownBy w' none) : Nos w' a len l :=
  ⟨h.len_eq, h.le, fun h0 => by obtain ⟨b, off, e, k⟩ := h.at_ h0; exact ⟨b, off, e, fun i X hX => (k i X hX).grown g⟩⟩
def sameNo (x y : No) : Bool := (x.k == y.k) && ((x.mode == y.mode) && ((x.uid == y.uid) && ((x.gid == y.gid) && ((x.time == y.time) && ((x.size == y.size) && (decide (x.data = y.data) && ((x.target == y.target) && ((x.dev == y.dev) && ((x.parent == y.parent) && ((x.links == y.links) && (sameAts x.attrs y.attrs && sameKds x.kids y.kids)))))))))))
/-- are they the same? -/
def sameNos : List No → List No → Bool
  | [], [] => true
  | x :: a, y :: b => sameNo x y && sameNos a b
  | _, _ => false
theorem sameNos_len {a b : List No} (h : a.length ≠ b.length) : sameNos a b = false := by
  induction a generalizing b with
  | nil => cases b with
    | nil => simp at h
    | cons y b => rfl
  | cons x a ih => cases b with
    | nil => rfl
    | cons y b => rw [sameNos, ih (by simpa using h), Bool.and_false]
def nos (l : List NoV) : List No := l.map NoV.no
theorem nos_len (l : List NoV) : (nos l).length = l.length := by unfold nos; rw [List.length_map]
theorem sameNos_step {a b : List NoV} {k : Nat} {x y : NoV} (hx : a[k]? = some x) (hy : b[k]? = some y) : sameNos ((nos a).drop k) ((nos b).drop k) = (sameNo x.no y.no && sameNos ((nos a).drop (k + 1)) ((nos b).drop (k + 1))) := by
  have h1 : k < a.length := by
    rcases Nat.lt_or_ge k a.length with h | h
    · exact h
    · rw [List.getElem?_eq_none h] at hx; cases hx
  have h2 : k < b.length := by
    rcases Nat.lt_or_ge k b.length with h | h
    · exact h
    · rw [List.getElem?_eq_none h] at hy; cases hy
  rw [List.getElem?_eq_getElem h1] at hx
  rw [List.getElem?_eq_getElem h2] at hy
  injection hx with hx
  injection hy with hy
  unfold nos
  rw [List.drop_eq_getElem_cons (l := a.map NoV.no) (i := k) (by rw [List.length_map]; exact h1), List.drop_eq_getElem_cons (l := b.map NoV.no) (i := k) (by rw [List.length_map]; exact h2), sameNos, List.getElem_map, List.getElem_map, hx, hy]
theorem sameNo_eq (x y : No) : sameNo x y = true ↔ x = y := by
  obtain ⟨x0, x1, x2, x3, x4, x5, x6, x7, x8, x9, x10, x11, x12⟩ := x
  obtain ⟨y0, y1, y2, y3, y4, y5, y6, y7, y8, y9, y10, y11, y12⟩ := y
  simp only [sameNo, Bool.and_eq_true, beq_iff_eq, decide_eq_true_eq, sameAts_eq, sameKds_eq, No.mk.injEq]
  constructor
  · rintro ⟨h0, h1, h2, h3, h4, h5, h6, h7, h8, h9, h10, h11, h12⟩
    exact ⟨h0, h1, h2, h3, h4, h5, h6, h7, h8, h11, h12, h9, h10⟩
  · rintro ⟨h0, h1, h2, h3, h4, h5, h6, h7, h8, h11, h12, h9, h10⟩
    exact ⟨h0, h1, h2, h3, h4, h5, h6, h7, h8, h9, h10, h11, h12⟩
theorem sameNos_eq (a b : List No) : sameNos a b = true ↔ a = b := by
  induction a generalizing b with
  | nil => cases b <;> simp [sameNos]
  | cons x a ih => cases b with
    | nil => simp [sameNos]
    | cons y b => rw [sameNos, Bool.and_eq_true, ih, List.cons.injEq, sameNo_eq]
end Go.Proofs.YtbpoealcaogjpaaGreatDoor

namespace Go.Proofs.YtbpoealcaogjpaaGreatDoor
open Go.RowKit
set_option maxRecDepth 100000
set_option linter.unusedSimpArgs false
set_option linter.unusedVariables false

theorem grown_setRow (w : World) (g : Nat) (cs : Array Value) : w.grownBy (w.setRow g cs) (some g) := ⟨rfl, rfl, rfl, by simp [World.setRow], fun k _ hk => setRow_other w g k _ (fun e => hk (by rw [e]))⟩
/-- a variable of several cells, stored whole, within a region -/
theorem step_store_bx {P : Program} {w : World} {ops : Array Oper} {o : Oper} {a : Act} {K : Act → World → Prop} {Q : Exit → Act → World → Prop} {E : Prop} (hgd : o.guard = none) (ty : TypeId) (x y : Operand) (ho : o.op = .store ty x y)
    (g : Nat) (cs : List Value) (hx : a.eval x = .pointer (some ⟨g, 0, none⟩)) (hy : a.eval y = .agg cs.toArray) {T : TypeId} {old : List Value} (hb : Bx w g T old) (hi : (P.info? ty).map (·.size) = some cs.length)
    (hl : old.length = cs.length) (h1 : cs.all (·.oneCell') = true)
    (h : ∀ W', Bx W' g T cs → w.grownBy W' (some g) → K (a.put o.dst undef) W') : if Region.wanted o (yielded ops a.tmps) = true then Oper.wp P o a w K Q else E := by
  rw [if_pos (by simp [Region.wanted, hgd])]
  exact wp_store_row ty x y ho g cs.toArray hx hy T old.toArray hb.blk (by rw [List.size_toArray]; exact hi) (by simp [hl]) (by rw [List.all_toArray]; exact h1) (h _ ⟨setRow_heap _ _ _ _ _ _ hb.blk⟩ (grown_setRow w g cs.toArray))
theorem drewG0 (w : World) : w.grownBy w.drew none := ⟨rfl, rfl, rfl, Nat.le_refl _, fun _ _ _ => rfl⟩
theorem node_size : (Tryz.prog.info? 54).map (·.size) = some 13 := by kernel_rfl
/-- Node's variables ahead of the node: the entry, the answer -/
structure Nv (w W : World) (gx : Nat) (xc : List Value) : Prop where
  x : Bx W gx 44 xc
  z : Bx W (gx + 1) 54 [.int .i64 0, .int .i64 0, .int .i64 0, .int .i64 0, .int .i64 0, .int .i64 0, .slice none 0 0, .string ⟨#[]⟩, .int .i64 0, .slice none 0 0, .slice none 0 0, .int .i64 0, .int .i64 0]
  gr : w.grownBy W none
  sz : w.heap.size = gx
theorem Nv.kept {w W W' : World} {gx : Nat} {xc : List Value} (h : Nv w W gx xc) (k : W.grownBy W' none) : Nv w W' gx xc := ⟨h.x.kept k, h.z.kept k, grown_trans h.gr k, h.sz⟩
theorem Nv.but {w W W' : World} {gx g : Nat} {xc : List Value} (h : Nv w W gx xc) (k : W.grownBy W' (some g)) (hg : gx + 1 < g) : Nv w W' gx xc := ⟨h.x.but k (by intro e; injection e with e; omega), h.z.but k (by intro e; injection e with e; omega), grown_new h.gr k (by have := h.sz; omega), h.sz⟩
theorem bx11 {W : World} {g : Nat} {T : TypeId} {x0 x1 x2 x3 x4 x5 x6 x7 x8 x9 x10 : Value} (h : Bx W g T [x0, x1, x2, x3, x4, x5, x6, x7, x8, x9, x10]) : W.cell? ⟨g, 0, none⟩ = some x0 ∧ W.cell? ⟨g, 1, none⟩ = some x1 ∧ W.cell? ⟨g, 2, none⟩ = some x2 ∧ W.cell? ⟨g, 3, none⟩ = some x3 ∧ W.cell? ⟨g, 4, none⟩ = some x4 ∧ W.cell? ⟨g, 5, none⟩ = some x5 ∧ W.cell? ⟨g, 6, none⟩ = some x6 ∧ W.cell? ⟨g, 7, none⟩ = some x7 ∧ W.cell? ⟨g, 8, none⟩ = some x8 ∧ W.cell? ⟨g, 9, none⟩ = some x9 ∧ W.cell? ⟨g, 10, none⟩ = some x10 := ⟨h.c 0, h.c 1, h.c 2, h.c 3, h.c 4, h.c 5, h.c 6, h.c 7, h.c 8, h.c 9, h.c 10⟩
theorem Nv.new (w : World) (xc : List Value) : Nv w ((w.alloc (.cells xc.toArray 44)).alloc (.cells #[.int .i64 0, .int .i64 0, .int .i64 0, .int .i64 0, .int .i64 0, .int .i64 0, .slice none 0 0, .string ⟨#[]⟩, .int .i64 0, .slice none 0 0, .slice none 0 0, .int .i64 0, .int .i64 0] 54)) w.heap.size xc := by
  have h2 := Bx.new (w.alloc (.cells xc.toArray 44)) 54 [.int .i64 0, .int .i64 0, .int .i64 0, .int .i64 0, .int .i64 0, .int .i64 0, .slice none 0 0, .string ⟨#[]⟩, .int .i64 0, .slice none 0 0, .slice none 0 0, .int .i64 0, .int .i64 0]
  simp only [World.size_alloc] at h2
  exact ⟨(Bx.new w 44 xc).kept (World.grownBy_alloc _ _ _), h2, grown_trans (World.grownBy_alloc _ _ _) (World.grownBy_alloc _ _ _), rfl⟩
theorem own_shape {W : World} {b e n s : Nat} {v : Value} {xs : List Value} (h : W.ownsRow b e s v n xs) : ∃ a c, v = .slice a n c := by
  rcases h.2 with ⟨e, h0⟩ | ⟨g, c, cur, e, _⟩
  · exact ⟨none, 0, by rw [e, h0]⟩
  · exact ⟨_, c, e⟩
/-- .. behind it -/
structure Nw (w W : World) (gx gn : Nat) (xc nc : List Value) (v : Value) (out : List AtV) : Prop where
  nv : Nv w W gx xc
  n : Bx W gn 54 nc
  lt : gx + 1 < gn
  own : W.ownsRow (gx + 2) 50 2 v out.length (out.flatMap avc)
  ne : v.ownBlock ≠ some gn
theorem Nw.kept {w W W' : World} {gx gn : Nat} {xc nc : List Value} {v : Value} {out : List AtV} (h : Nw w W gx gn xc nc v out) (k : W.grownBy W' none) : Nw w W' gx gn xc nc v out := ⟨h.nv.kept k, h.n.kept k, h.lt, owns_kept11 h.own k, h.ne⟩
theorem Nw.set {w W : World} {gx gn : Nat} {xc nc : List Value} {v : Value} {out : List AtV} (h : Nw w W gx gn xc nc v out) (i : Nat) (u : Value) : Nw w (W.setCell ⟨gn, i, none⟩ u) gx gn xc (nc.set i u) v out := ⟨h.nv.but (grown_set _ _ _ _) h.lt, h.n.set i u, h.lt, h.own.kept (grown_set _ _ _ _) (Or.inr h.ne), h.ne⟩
theorem Nw.fin {w W W9 : World} {gx gn : Nat} {xc nc nc' : List Value} {v : Value} {out : List AtV} (h : Nw w W gx gn xc nc v out) (hz : Bx W9 (gx + 1) 54 nc') (g : W.grownBy W9 (some (gx + 1))) : w.grownBy W9 none ∧ W9.ownsRow (gx + 2) 50 2 v out.length (out.flatMap avc) := by
  refine ⟨grown_new h.nv.gr g (by have := h.nv.sz; omega), h.own.kept g ?_⟩
  right
  intro e
  have := (h.own.lt _ e).1
  omega
theorem bx13 {W : World} {g : Nat} {T : TypeId} {x0 x1 x2 x3 x4 x5 x6 x7 x8 x9 x10 x11 x12 : Value} (h : Bx W g T [x0, x1, x2, x3, x4, x5, x6, x7, x8, x9, x10, x11, x12]) : W.cell? ⟨g, 0, none⟩ = some x0 ∧ W.cell? ⟨g, 1, none⟩ = some x1 ∧ W.cell? ⟨g, 2, none⟩ = some x2 ∧ W.cell? ⟨g, 3, none⟩ = some x3 ∧ W.cell? ⟨g, 4, none⟩ = some x4 ∧ W.cell? ⟨g, 5, none⟩ = some x5 ∧ W.cell? ⟨g, 6, none⟩ = some x6 ∧ W.cell? ⟨g, 7, none⟩ = some x7 ∧ W.cell? ⟨g, 8, none⟩ = some x8 ∧ W.cell? ⟨g, 9, none⟩ = some x9 ∧ W.cell? ⟨g, 10, none⟩ = some x10 ∧ W.cell? ⟨g, 11, none⟩ = some x11 ∧ W.cell? ⟨g, 12, none⟩ = some x12 := ⟨h.c 0, h.c 1, h.c 2, h.c 3, h.c 4, h.c 5, h.c 6, h.c 7, h.c 8, h.c 9, h.c 10, h.c 11, h.c 12⟩
/-- a guard: the next operation stores a node -/
theorem node_here {P : Program} {w : World} {ops : Array Oper} {rest : List Oper} {a : Act} {Q : Exit → Act → World → Prop} {dst : Option Nat} {x y : Operand} {type : TypeId} {pos : String} {after : Array Edge} {guard : Option (Nat × Bool)}
    (h : wpList P ops Q (⟨dst, .store 54 x y, type, pos, after, guard⟩ :: rest) a w) : wpList P ops Q (⟨dst, .store 54 x y, type, pos, after, guard⟩ :: rest) a w := h
theorem wpList_store_bx13 {P : Program} {ops : Array Oper} {rest : List Oper} {o : Oper} {a : Act} {w : World} {Q : Exit → Act → World → Prop} (hgd : o.guard = none) (ty : TypeId) (x y : Operand) (ho : o.op = .store ty x y)
    (g : Nat) (cs : List Value) (hx : a.eval x = .pointer (some ⟨g, 0, none⟩)) (hy : a.eval y = .agg cs.toArray) {T : TypeId} {old : List Value} (hb : Bx w g T old) (hi : (P.info? ty).map (·.size) = some cs.length)
    (hl : old.length = cs.length) (h1 : cs.all (·.oneCell') = true)
    (h : ∀ W', Bx W' g T cs → w.grownBy W' (some g) → wpList P ops Q rest (a.put o.dst undef) W') : wpList P ops Q (o :: rest) a w :=
  wpList_store_row hgd ty x y ho g cs.toArray hx hy T old.toArray hb.blk (by rw [List.size_toArray]; exact hi) (by simp [hl]) (by rw [List.all_toArray]; exact h1) (h _ ⟨setRow_heap _ _ _ _ _ _ hb.blk⟩ (grown_setRow w g cs.toArray))
theorem row_take {w : World} {a : Option Addr} {l m : Nat} {xs : List Int} (R : Row w a l xs) (h : m ≤ l) : Row w a m (xs.take m) := by
  refine ⟨by rw [List.length_take, R.len_eq]; omega, Nat.le_trans h R.le, fun x hx => R.byt x (List.mem_of_mem_take hx), fun h0 => ?_⟩
  obtain ⟨b, o, e, hc⟩ := R.cells (by omega)
  refine ⟨b, o, e, fun i hi => ?_⟩
  rw [hc i (by omega), List.getD_eq_getElem?_getD, List.getD_eq_getElem?_getD, List.getElem?_take, if_pos hi]
theorem row_zero (a : Option Addr) {w : World} : Row w a 0 [] := ⟨rfl, Nat.zero_le _, fun _ h => (by cases h), fun h => by omega⟩
theorem tl_nil : (⟨#[]⟩ : ByteArray).toList = [] := by simp [ByteArray.toList_eq]
theorem kds_none (w : World) : Kds w none 0 [] := ⟨rfl, Nat.zero_le _, fun h => by omega⟩
def NoV.val (X : NoV) : Value := .agg #[.int .i64 X.k, .int .i64 X.mode, .int .i64 X.uid, .int .i64 X.gid, .int .i64 X.time, .int .i64 X.size, .slice X.da X.dl X.dc, .string X.target, .int .i64 X.dev, .slice X.aa X.al X.ac, .slice X.ka X.kl X.kc, .int .i64 X.parent, .int .i64 X.links]
theorem strip_zero {l : List Int} {n : Nat} (hn : n < l.length) (h : l.getD n 0 = 0) : strip (l.take (n + 1)) = strip (l.take n) := by
  have e : l.take (n + 1) = l.take n ++ List.replicate 1 0 := by
    rw [List.take_succ_eq_append_getElem hn]
    rw [List.getD_eq_getElem?_getD, List.getElem?_eq_getElem hn] at h
    simp at h
    rw [h]
    rfl
  rw [e, strip_zeros]
theorem strip_stop {l : List Int} {n : Nat} (hn : n < l.length) (h : l.getD n 0 ≠ 0) : strip (l.take (n + 1)) = l.take (n + 1) := by
  rw [List.take_succ_eq_append_getElem hn]
  rw [List.getD_eq_getElem?_getD, List.getElem?_eq_getElem hn] at h
  unfold strip
  rw [List.reverse_append]
  have : ([l[n]].reverse ++ (l.take n).reverse).dropWhile (· == 0) = [l[n]].reverse ++ (l.take n).reverse := by
    simp only [List.reverse_cons, List.reverse_nil, List.nil_append, List.cons_append]
    rw [List.dropWhile_cons, if_neg (by simpa using h)]
  rw [this, ← List.reverse_append, List.reverse_reverse]
def dlen (gn : Nat) (w : World) : Nat := match w.cell? ⟨gn, 6, none⟩ with
  | some (.slice _ n _) => n
  | _ => 0
theorem srtV_atts {l out : List AtV} (h : srtV l l.length [] = out) : out.map AtV.at = srtA (l.map AtV.at) (l.map AtV.at).length [] := by
  rw [← h, srtV_map, List.length_map]
  rfl
theorem srt_rows {w W : World} {a : Option Addr} {n : Nat} {l : List AtV} (h : Ats w a n l) (g : w.grownBy W none) : ∀ A ∈ srtV l l.length [], Row W A.a A.len A.v ∧ A.len ≤ A.cap := by
  intro A hA
  have hm := srtV_mem l l.length [] (fun _ h => by cases h) A hA
  obtain ⟨i, hi⟩ := List.mem_iff_getElem?.1 hm
  obtain ⟨b, o, _, k⟩ := h.at_ (by have := (List.getElem?_eq_some_iff.1 hi).1; have := h.len_eq; omega)
  exact ⟨(k i A hi).row.grown g, (k i A hi).cap⟩
end Go.Proofs.YtbpoealcaogjpaaGreatDoor

namespace Go.Proofs.YtbpoealcaogjpaaGreatDoor
open Go.RowKit
set_option maxRecDepth 100000
set_option linter.unusedSimpArgs false
set_option linter.unusedVariables false

/-- rows of things of several cells -/
theorem flat_len {α : Type} (f : α → List Value) (c : Nat) (hf : ∀ x, (f x).length = c) (l : List α) : (l.flatMap f).length = l.length * c := by
  induction l with
  | nil => simp
  | cons x l ih => rw [List.flatMap_cons, List.length_append, ih, hf, List.length_cons, Nat.succ_mul, Nat.add_comm]
theorem flat_at {α : Type} (f : α → List Value) (c : Nat) (hf : ∀ x, (f x).length = c) : ∀ (l : List α) (i j : Nat) (X : α), l[i]? = some X → j < c → (l.flatMap f)[i * c + j]? = (f X)[j]?
  | [], i, j, X, h, _ => by simp at h
  | x :: l, 0, j, X, h, hj => by
    simp at h
    subst h
    rw [List.flatMap_cons, Nat.zero_mul, Nat.zero_add, List.getElem?_append_left (by rw [hf]; exact hj)]
  | x :: l, i + 1, j, X, h, hj => by
    rw [List.flatMap_cons, List.getElem?_append_right (by rw [hf, Nat.succ_mul]; omega), hf, show (i + 1) * c + j - c = i * c + j by rw [Nat.succ_mul]; omega]
    exact flat_at f c hf l i j X (by simpa using h) hj
theorem flat_set {α : Type} (f : α → List Value) (c : Nat) (hf : ∀ x, (f x).length = c) (u : Value) : ∀ (l : List α) (i j : Nat) (X X' : α), l[i]? = some X → j < c → f X' = (f X).set j u → (l.flatMap f).set (i * c + j) u = (l.set i X').flatMap f
  | [], i, j, X, X', h, _, _ => by simp at h
  | x :: l, 0, j, X, X', h, hj, e => by
    simp at h
    subst h
    rw [List.flatMap_cons, Nat.zero_mul, Nat.zero_add, List.set_append_left _ _ (by rw [hf]; exact hj), List.set_cons_zero, List.flatMap_cons, e]
  | x :: l, i + 1, j, X, X', h, hj, e => by
    rw [List.flatMap_cons, List.set_append_right _ _ (by rw [hf, Nat.succ_mul]; omega), hf, show (i + 1) * c + j - c = i * c + j by rw [Nat.succ_mul]; omega, flat_set f c hf u l i j X X' (by simpa using h) hj e, List.set_cons_succ, List.flatMap_cons]
/-- a node's cells -/
def nvc (X : NoV) : List Value := [.int .i64 X.k, .int .i64 X.mode, .int .i64 X.uid, .int .i64 X.gid, .int .i64 X.time, .int .i64 X.size, .slice X.da X.dl X.dc, .string X.target, .int .i64 X.dev, .slice X.aa X.al X.ac, .slice X.ka X.kl X.kc, .int .i64 X.parent, .int .i64 X.links]
theorem nvc_len (X : NoV) : (nvc X).length = 13 := rfl
/-- a kid's cells -/
def kdc (c : Kd) : List Value := [.string (tx c.n), .int .i64 c.i]
theorem kdc_len (c : Kd) : (kdc c).length = 2 := rfl
/-- rows of other types lie in other blocks -/
theorem owns_ne {W : World} {b1 b2 e1 e2 s1 s2 n1 n2 : Nat} {v1 v2 : Value} {x1 x2 : List Value} (h1 : W.ownsRow b1 e1 s1 v1 n1 x1) (h2 : W.ownsRow b2 e2 s2 v2 n2 x2) (he : e1 ≠ e2) : v1.ownBlock = none ∨ v1.ownBlock ≠ v2.ownBlock := by
  rcases h1.2 with ⟨rfl, _⟩ | ⟨g, cap, cur, rfl, _, hg, _⟩
  · exact .inl rfl
  · right
    rcases h2.2 with ⟨rfl, _⟩ | ⟨g', cap', cur', rfl, _, hg', _⟩
    · simp [Value.ownBlock]
    · intro e
      simp only [Value.ownBlock, Option.some.injEq] at e
      subst e
      rw [hg] at hg'
      injection hg' with hg'
      injection hg' with _ hg'
      exact he hg'
theorem grown_ownB {a b c : World} {base t s n : Nat} {v : Value} {xs : List Value} (h : a.grownBy b none) (ho : b.ownsRow base t s v n xs) (k : b.grownBy c v.ownBlock) (hb : a.heap.size ≤ base) : a.grownBy c none := by
  rcases ho.2 with ⟨rfl, _⟩ | ⟨g, cap, cur, rfl, hg, _⟩
  · exact grown_trans h k
  · exact grown_new h k (show a.heap.size ≤ g by omega)
/-- what a node's rows are -/
structure Nk (w W : World) (base : Nat) (X : NoV) : Prop where
  row : Row w X.da X.dl X.data
  own : W.ownsRow base 50 2 (.slice X.aa X.al X.ac) X.al (X.attrs.flatMap avc)
  len : X.al = X.attrs.length
  rows : ∀ A ∈ X.attrs, Row w A.a A.len A.v ∧ A.len ≤ A.cap
  kid : W.ownsRow base 56 2 (.slice X.ka X.kl X.kc) X.kl (X.kids.flatMap kdc)
  klen : X.kl = X.kids.length
  dcap : X.dl ≤ X.dc
def NoV.kv (X : NoV) : Value := .slice X.ka X.kl X.kc
/-- a tree in memory while it is built: its nodes in a row, each one's rows of their own -/
structure Td (w W : World) (base : Nat) (v : Value) (l : List NoV) : Prop where
  gr : w.grownBy W none
  low : w.heap.size ≤ base
  own : W.ownsRow base 54 13 v l.length (l.flatMap nvc)
  each : ∀ (i : Nat) (X : NoV), l[i]? = some X → Nk w W base X
  apart : ∀ (i j : Nat) (X Y : NoV), l[i]? = some X → l[j]? = some Y → i ≠ j → ∀ b, X.kv.ownBlock = some b → Y.kv.ownBlock = some b → False
theorem Nk.but {w W W' : World} {base : Nat} {X : NoV} {r : Option Nat} (h : Nk w W base X) (g : W.grownBy W' r) (h1 : (Value.slice X.aa X.al X.ac).ownBlock = none ∨ (Value.slice X.aa X.al X.ac).ownBlock ≠ r) (h2 : X.kv.ownBlock = none ∨ X.kv.ownBlock ≠ r) : Nk w W' base X :=
  ⟨h.row, h.own.kept g h1, h.len, h.rows, h.kid.kept g h2, h.klen, h.dcap⟩
theorem ne_none (o : Option Nat) : o = none ∨ o ≠ none := by cases o <;> simp
theorem Td.kept {w W W' : World} {base : Nat} {v : Value} {l : List NoV} (h : Td w W base v l) (g : W.grownBy W' none) : Td w W' base v l :=
  ⟨grown_trans h.gr g, h.low, h.own.kept g (ne_none _), fun i X hX => (h.each i X hX).but g (ne_none _) (ne_none _), h.apart⟩
/-- a row of another type is written, or grows -/
theorem Td.other {w W W' : World} {base : Nat} {v : Value} {l : List NoV} {e s n : Nat} {u : Value} {xs : List Value} (h : Td w W base v l) (ho : W.ownsRow base e s u n xs) (hN : 54 ≠ e) (hA : 50 ≠ e) (hK : 56 ≠ e) (g : W.grownBy W' u.ownBlock) : Td w W' base v l := by
  refine ⟨?_, h.low, h.own.kept g (owns_ne h.own ho hN), fun i X hX => (h.each i X hX).but g (owns_ne (h.each i X hX).own ho hA) (owns_ne (h.each i X hX).kid ho hK), h.apart⟩
  exact grown_ownB h.gr ho g h.low
/-- a block that lies ahead of the rows is written -/
theorem Td.ahead {w W W' : World} {base b : Nat} {v : Value} {l : List NoV} (h : Td w W base v l) (hb : b < base) (hw : w.heap.size ≤ b) (g : W.grownBy W' (some b)) : Td w W' base v l := by
  have hlt : ∀ {e s n : Nat} {u : Value} {xs : List Value}, W.ownsRow base e s u n xs → u.ownBlock = none ∨ u.ownBlock ≠ some b := fun {e s n u xs} ho => by
    right
    intro e
    have := (ho.lt _ e).1
    omega
  exact ⟨grown_new h.gr g hw, h.low, h.own.kept g (hlt h.own), fun i X hX => (h.each i X hX).but g (hlt (h.each i X hX).own) (hlt (h.each i X hX).kid), h.apart⟩
theorem Td.form {w W : World} {base : Nat} {v : Value} {l : List NoV} (h : Td w W base v l) (h0 : l ≠ []) : ∃ g c, v = .slice (some ⟨g, 0, none⟩) l.length c ∧ base ≤ g ∧ l.length ≤ c ∧ c ≤ maxLen ∧ W.heap.size > g := by
  rcases h.own.2 with ⟨rfl, h1⟩ | ⟨g, c, cur, rfl, hg, hh, hc, hm, _⟩
  · exact absurd (List.eq_nil_of_length_eq_zero h1) h0
  · exact ⟨g, c, rfl, hg, hc, hm, (Array.getElem?_eq_some_iff.1 hh).1⟩
/-- a field of a node -/
theorem Td.cell {w W : World} {base g c n : Nat} {l : List NoV} (h : Td w W base (.slice (some ⟨g, 0, none⟩) n c) l) (hn : l.length = n) {i f : Nat} {X : NoV} (hX : l[i]? = some X) (hf : f < 13) : W.cell? ⟨g, i * 13 + f, none⟩ = (nvc X)[f]? := by
  have hi : i < l.length := (List.getElem?_eq_some_iff.1 hX).1
  have ho := h.own
  rw [← hn] at ho
  rw [ho.cellAt (i * 13 + f) (by omega), flat_at nvc 13 nvc_len l i f X hX hf]
theorem Td.froz {w W : World} {base g c n : Nat} {l : List NoV} (h : Td w W base (.slice (some ⟨g, 0, none⟩) n c) l) (hn : l.length = n) (j : Nat) : W.frozen? ⟨g, j, none⟩ = false := by
  have ho := h.own
  rw [← hn] at ho
  exact ho.frozenAt j
theorem get_set {l : List NoV} {i j : Nat} {X' Y : NoV} (h : (l.set i X')[j]? = some Y) : (j = i ∧ Y = X') ∨ (j ≠ i ∧ l[j]? = some Y) := by
  rw [List.getElem?_set] at h
  by_cases e : i = j
  · subst e
    left
    simp at h
    exact ⟨rfl, h.2.symm⟩
  · right
    rw [if_neg e] at h
    exact ⟨fun q => e q.symm, h⟩
/-- a field of a node is written that is no row -/
theorem Td.set {w W : World} {base g c n : Nat} {l : List NoV} (h : Td w W base (.slice (some ⟨g, 0, none⟩) n c) l) (hn : l.length = n) {i f : Nat} {X X' : NoV} {u : Value} (hX : l[i]? = some X) (hf : f < 13) (e : nvc X' = (nvc X).set f u)
    (hk : X'.da = X.da ∧ X'.dl = X.dl ∧ X'.data = X.data ∧ X'.aa = X.aa ∧ X'.al = X.al ∧ X'.ac = X.ac ∧ X'.attrs = X.attrs ∧ X'.ka = X.ka ∧ X'.kl = X.kl ∧ X'.kc = X.kc ∧ X'.kids = X.kids) (hf6 : f ≠ 6 := by decide) :
    Td w (W.setCell ⟨g, i * 13 + f, none⟩ u) base (.slice (some ⟨g, 0, none⟩) n c) (l.set i X') := by
  have ho := h.own
  rw [hn] at ho
  obtain ⟨h1, h2⟩ := ho.stored (i * 13 + f) u
  rw [flat_set nvc 13 nvc_len u l i f X X' hX hf e] at h1
  have hsame : X'.kv = X.kv := by unfold NoV.kv; rw [hk.2.2.2.2.2.2.2.1, hk.2.2.2.2.2.2.2.2.1, hk.2.2.2.2.2.2.2.2.2.1]
  have hnk : ∀ (j : Nat) (Y : NoV), l[j]? = some Y → Nk w (W.setCell ⟨g, i * 13 + f, none⟩ u) base Y := fun j Y hY =>
    (h.each j Y hY).but h2 (owns_ne (h.each j Y hY).own h.own (by decide)) (owns_ne (h.each j Y hY).kid h.own (by decide))
  refine ⟨grown_ownB h.gr h.own h2 h.low, h.low, by rw [List.length_set, hn]; exact h1, fun j Y hY => ?_, fun a b A B hA hB hab k hA2 hB2 => ?_⟩
  · rcases get_set hY with ⟨rfl, rfl⟩ | ⟨_, hY⟩
    · have := hnk j X hX
      obtain ⟨k1, k2, k3, k4, k5, k6, k7, k8, k9, k10, k11⟩ := hk
      exact ⟨by rw [k1, k2, k3]; exact this.row, by rw [k4, k5, k6, k7]; exact this.own, by rw [k5, k7]; exact this.len, by rw [k7]; exact this.rows, by rw [k8, k9, k10, k11]; exact this.kid, by rw [k9, k11]; exact this.klen, by
        have e6 : (nvc Y)[6]? = (nvc X)[6]? := by rw [e, List.getElem?_set_ne hf6]
        have e7 : some (Value.slice Y.da Y.dl Y.dc) = some (Value.slice X.da X.dl X.dc) := e6
        injection e7 with e7
        injection e7 with _ e8 e9
        rw [e8, e9]
        exact this.dcap⟩
    · exact hnk j Y hY
  · rcases get_set hA with ⟨ea, eA⟩ | ⟨ha, hA'⟩
    · rcases get_set hB with ⟨eb, eB⟩ | ⟨hb, hB'⟩
      · omega
      · rw [ea] at hab
        exact h.apart i b X B hX hB' hab k (by rw [← hsame, ← eA]; exact hA2) hB2
    · rcases get_set hB with ⟨eb, eB⟩ | ⟨hb, hB'⟩
      · rw [eb] at hab
        exact h.apart a i A X hA' hX hab k hA2 (by rw [← hsame, ← eB]; exact hB2)
      · exact h.apart a b A B hA' hB' hab k hA2 hB2
/-- a node more -/
theorem Td.add {w W W' : World} {base : Nat} {v v' : Value} {l : List NoV} {N : NoV} (h : Td w W base v l) (hN : Nk w W base N) (hk : N.ka = none) (hown : W'.ownsRow base 54 13 v' (l.length + 1) (l.flatMap nvc ++ nvc N)) (g : W.grownBy W' v.ownBlock) : Td w W' base v' (l ++ [N]) := by
  have hkv : N.kv.ownBlock = none := by unfold NoV.kv; rw [hk]; rfl
  have hnk : ∀ (Y : NoV), Nk w W base Y → Nk w W' base Y := fun Y hY => hY.but g (owns_ne hY.own h.own (by decide)) (owns_ne hY.kid h.own (by decide))
  have hget : ∀ (j : Nat) (Y : NoV), (l ++ [N])[j]? = some Y → l[j]? = some Y ∨ (j = l.length ∧ Y = N) := fun j Y hY => by
    rcases Nat.lt_or_ge j l.length with hj | hj
    · left; rwa [List.getElem?_append_left hj] at hY
    · right
      rw [List.getElem?_append_right hj] at hY
      cases hjj : j - l.length with
      | zero => rw [hjj] at hY; simp at hY; exact ⟨by omega, hY.symm⟩
      | succ q => rw [hjj] at hY; simp at hY
  refine ⟨grown_ownB h.gr h.own g h.low, h.low, by rw [List.length_append, List.flatMap_append]; simpa using hown, fun j Y hY => ?_, fun a b A B hA hB hab k hA2 hB2 => ?_⟩
  · rcases hget j Y hY with hY | ⟨_, rfl⟩
    · exact hnk Y (h.each j Y hY)
    · exact hnk Y hN
  · rcases hget a A hA with hA | ⟨ha, rfl⟩
    · rcases hget b B hB with hB | ⟨hb, rfl⟩
      · exact h.apart a b A B hA hB hab k hA2 hB2
      · rw [hkv] at hB2; cases hB2
    · rw [hkv] at hA2; cases hA2
end Go.Proofs.YtbpoealcaogjpaaGreatDoor

namespace Go.Proofs.YtbpoealcaogjpaaGreatDoor
open Go.RowKit
set_option maxRecDepth 100000
set_option linter.unusedSimpArgs false
set_option linter.unusedVariables false

/-- a kid more: its row grows, then the node's field is written -/
theorem Td.kid {w W W1 : World} {base g c n : Nat} {l : List NoV} (h : Td w W base (.slice (some ⟨g, 0, none⟩) n c) l) (hn : l.length = n) {i : Nat} {X : NoV} (hX : l[i]? = some X) {K : Kd} {ka : Option Addr} {kl kc : Nat}
    (hown : W1.ownsRow base 56 2 (.slice ka kl kc) (X.kl + 1) (X.kids.flatMap kdc ++ kdc K)) (hkl : kl = X.kl + 1) (g1 : W.grownBy W1 X.kv.ownBlock) (hat : (Value.slice ka kl kc).ownBlock = X.kv.ownBlock ∨ (∃ q, (Value.slice ka kl kc).ownBlock = some q ∧ W.heap.size ≤ q)) :
    Td w (W1.setCell ⟨g, i * 13 + 10, none⟩ (.slice ka kl kc)) base (.slice (some ⟨g, 0, none⟩) n c) (l.set i { X with ka := ka, kl := kl, kc := kc, kids := X.kids ++ [K] }) := by
  have hkX := (h.each i X hX).kid
  -- all but the kids' row that grew
  have hno : W1.ownsRow base 54 13 (.slice (some ⟨g, 0, none⟩) n c) n (l.flatMap nvc) := by
    have := h.own.kept g1 (owns_ne h.own hkX (by decide))
    rwa [hn] at this
  have hat1 : ∀ (j : Nat) (Y : NoV), l[j]? = some Y → W1.ownsRow base 50 2 (.slice Y.aa Y.al Y.ac) Y.al (Y.attrs.flatMap avc) := fun j Y hY => (h.each j Y hY).own.kept g1 (owns_ne (h.each j Y hY).own hkX (by decide))
  have hkd1 : ∀ (j : Nat) (Y : NoV), l[j]? = some Y → j ≠ i → W1.ownsRow base 56 2 (.slice Y.ka Y.kl Y.kc) Y.kl (Y.kids.flatMap kdc) := fun j Y hY hji => (h.each j Y hY).kid.kept g1 (by
    show Y.kv.ownBlock = none ∨ Y.kv.ownBlock ≠ X.kv.ownBlock
    cases hb : Y.kv.ownBlock with
    | none => exact .inl rfl
    | some b => exact .inr fun e => h.apart j i Y X hY hX hji b hb e.symm)
  obtain ⟨s1, s2⟩ := hno.stored (i * 13 + 10) (.slice ka kl kc)
  rw [flat_set nvc 13 nvc_len (.slice ka kl kc) l i 10 X { X with ka := ka, kl := kl, kc := kc, kids := X.kids ++ [K] } hX (by decide) rfl] at s1
  have hgr1 : w.grownBy W1 none := grown_ownB h.gr hkX g1 h.low
  refine ⟨grown_ownB hgr1 hno s2 h.low, h.low, by rw [List.length_set, hn]; exact s1, fun j Y hY => ?_, fun a b A B hA hB hab k hA2 hB2 => ?_⟩
  · rcases get_set hY with ⟨rfl, rfl⟩ | ⟨hji, hY'⟩
    · have hx := h.each j X hX
      refine ⟨hx.row, (hat1 j X hX).kept s2 (owns_ne (hat1 j X hX) hno (by decide)), hx.len, hx.rows, ?_, ?_, hx.dcap⟩
      · show World.ownsRow _ base 56 2 (.slice ka kl kc) kl ((X.kids ++ [K]).flatMap kdc)
        have e : (X.kids ++ [K]).flatMap kdc = X.kids.flatMap kdc ++ kdc K := by rw [List.flatMap_append]; simp
        rw [e]
        have hown2 : W1.ownsRow base 56 2 (.slice ka kl kc) kl (X.kids.flatMap kdc ++ kdc K) := by rw [hkl] at hown ⊢; exact hown
        exact hown2.kept s2 (owns_ne hown2 hno (by decide))
      · show kl = (X.kids ++ [K]).length
        rw [hkl, List.length_append, hx.klen]; rfl
    · have hy := h.each j Y hY'
      exact ⟨hy.row, (hat1 j Y hY').kept s2 (owns_ne (hat1 j Y hY') hno (by decide)), hy.len, hy.rows, (hkd1 j Y hY' hji).kept s2 (owns_ne (hkd1 j Y hY' hji) hno (by decide)), hy.klen, hy.dcap⟩
  · have hnew : ∀ (j : Nat) (Y : NoV), l[j]? = some Y → j ≠ i → ∀ b, (Value.slice ka kl kc).ownBlock = some b → Y.kv.ownBlock = some b → False := fun j Y hY hji b hb hy => by
      rcases hat with e | ⟨q, e, hq⟩
      · exact h.apart j i Y X hY hX hji b hy (by rw [← e]; exact hb)
      · rw [e] at hb
        injection hb with hb
        have := ((h.each j Y hY).kid.lt b hy).2
        omega
    rcases get_set hA with ⟨ea, eA⟩ | ⟨ha, hA'⟩
    · rcases get_set hB with ⟨eb, eB⟩ | ⟨hb, hB'⟩
      · omega
      · exact hnew b B hB' hb k (by rw [eA] at hA2; exact hA2) hB2
    · rcases get_set hB with ⟨eb, eB⟩ | ⟨hb, hB'⟩
      · exact hnew a A hA' ha k (by rw [eB] at hB2; exact hB2) hA2
      · exact h.apart a b A B hA' hB' hab k hA2 hB2
/-- kids in a row of their own -/
theorem own_kds {w : World} {base t n : Nat} {a : Option Addr} {c : Nat} {l : List Kd} (h : w.ownsRow base t 2 (.slice a n c) n (l.flatMap kdc)) (hn : n = l.length) : Kds w a n l := by
  rcases h.2 with ⟨e, h0⟩ | ⟨g, cap, cur, e, hg, hh, hc, hm, hs, ht⟩
  · subst h0
    exact ⟨by omega, Nat.zero_le _, fun h => by omega⟩
  · injection e with e1 e2 e3
    subst e1 e3
    refine ⟨hn.symm, Nat.le_trans hc hm, fun _ => ⟨g, 0, rfl, fun i K hK => ?_⟩⟩
    have hi : i < l.length := (List.getElem?_eq_some_iff.1 hK).1
    constructor
    · have h1 := h.cellAt (i * 2 + 0) (by omega)
      rw [flat_at kdc 2 kdc_len l i 0 K hK (by decide)] at h1
      simpa [kdc] using h1
    · have h1 := h.cellAt (i * 2 + 1) (by omega)
      rw [flat_at kdc 2 kdc_len l i 1 K hK (by decide)] at h1
      simpa [kdc] using h1
theorem Nk.ok {w W : World} {base : Nat} {X : NoV} (h : Nk w W base X) (g : w.grownBy W none) : X.ok W := by
  obtain ⟨a, c, e, hats, -, -⟩ := own_ats h.own h.len (fun A hA => ⟨((h.rows A hA).1).grown g, (h.rows A hA).2⟩)
  injection e with e1 e2 e3
  subst e1
  exact ⟨h.row.grown g, hats, own_kds h.kid h.klen⟩
/-- the tree that is read -/
theorem Td.nos {w W : World} {base n c : Nat} {a : Option Addr} {l : List NoV} (h : Td w W base (.slice a n c) l) (hn : l.length = n) : Nos W a n l := by
  have ho := h.own
  rw [hn] at ho
  rcases ho.2 with ⟨e, h0⟩ | ⟨g, cap, cur, e, hg, hh, hc, hm, hs, ht⟩
  · exact ⟨hn, by omega, fun h => by omega⟩
  · injection e with e1 e2 e3
    subst e1 e3
    refine ⟨hn, Nat.le_trans hc hm, fun _ => ⟨g, 0, rfl, fun i X hX => ?_⟩⟩
    have k := fun f (hf : f < 13) => h.cell hn hX hf
    rw [Nat.zero_add]
    exact ⟨k 0 (by decide), k 1 (by decide), k 2 (by decide), k 3 (by decide), k 4 (by decide), k 5 (by decide), k 6 (by decide), k 7 (by decide), k 8 (by decide), k 9 (by decide), k 10 (by decide), k 11 (by decide), k 12 (by decide), (h.each i X hX).ok h.gr⟩
end Go.Proofs.YtbpoealcaogjpaaGreatDoor
