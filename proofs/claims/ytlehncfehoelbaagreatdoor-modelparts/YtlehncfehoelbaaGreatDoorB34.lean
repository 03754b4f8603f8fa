/- The names in a folder are apart; what nodes of a kind have not. Entries that came in. -/
import Derived.ProofKit
import Derived.OpenShut
import Derived.ChangeOld
import Derived.Lib.SmallJoins
import Derived.Deep.Slices
import Derived.Test.YtlehncfehoelbaaGreatDoorB08
import Derived.Test.YtlehncfehoelbaaGreatDoorB32
namespace Go.Proofs.YtlehncfehoelbaaGreatDoor
set_option linter.unusedVariables false
set_option linter.unusedSimpArgs false
theorem upOf_inj {os : List (Tx × Option Tx)} {p q : Tx} (h : upOf os p = upOf os q) (h0 : upOf os p ≠ 0) : p = q := by
 unfold upOf at h h0
 cases hp : os.findIdx? (fun x => decide (x.2 = some p)) with
 | none => rw [hp] at h0; exact absurd rfl h0
 | some i =>
  rw [hp] at h
  cases hq : os.findIdx? (fun x => decide (x.2 = some q)) with
  | none => rw [hq] at h; simp at h
  | some j =>
   rw [hq] at h
   simp at h
   subst h
   obtain ⟨h1, h2, -⟩ := List.findIdx?_eq_some_iff_getElem.1 hp
   obtain ⟨h3, h4, -⟩ := List.findIdx?_eq_some_iff_getElem.1 hq
   simp at h2 h4
   rw [h2] at h4
   injection h4
theorem names_apart {ts : List (Tp Tx)} (hs : ts.Pairwise fun a b => plt a.p b.p) (hp : ∀ t ∈ ts, ahd (upT t.p) ++ lastT t.p = t.p) (P : Tp Tx → Bool) (hP : ∀ u ∈ ts, ∀ v ∈ ts, P u = true → P v = true → upT u.p = upT v.p) (f : Tp Tx → Kd) (hf : ∀ t, (f t).n = lastT t.p) :
  ((ts.filter P).map f).Pairwise (fun a b => a.n ≠ b.n) := by
 rw [List.pairwise_map]
 have h2 : (ts.filter P).Pairwise (fun a b => (a ∈ ts ∧ P a = true) ∧ (b ∈ ts ∧ P b = true) ∧ plt a.p b.p) := by
  refine List.Pairwise.imp_of_mem ?_ (hs.filter P)
  intro a b ha hb h
  exact ⟨List.mem_filter.1 ha, List.mem_filter.1 hb, h⟩
 refine h2.imp ?_
 rintro a b ⟨⟨a1, a2⟩, ⟨b1, b2⟩, hlt⟩ e
 rw [hf, hf] at e
 have := hP a a1 b b1 a2 b2
 rw [← hp a a1, ← hp b b1, this, e] at hlt
 exact plt_irrefl _ hlt
theorem kids_apart {l : List En} (ok : OkS l) (hl : l.length ≤ 16384) : ∀ n ∈ canon l, n.kids.Pairwise (fun a b => a.n ≠ b.n) ∧ n.kids.length ≤ 16384 := by
 have W := canon_wt ok hl
 have hpa : ∀ t ∈ trs l, ahd (upT t.p) ++ lastT t.p = t.p := fun t ht => (W.path t ht).2.2.1
 obtain ⟨os, K, hos⟩ := canon_kids ok
 intro n hn
 obtain ⟨j, hj⟩ := List.mem_iff_getElem?.1 hn
 by_cases h0 : j = 0
 ·subst h0
  obtain ⟨m, h1, h2, h3⟩ := W.root
  rw [hj] at h1
  injection h1 with h1
  subst h1
  rw [h3]
  refine ⟨names_apart W.srt hpa _ (fun u hu v hv a b => ?_) _ (fun t => rfl), ?_⟩
  ·simp at a b; rw [a, b]
  ·rw [List.length_map]; exact Nat.le_trans (List.length_filter_le _ _) W.len
 ·rw [canon_trs] at hj
  unfold bld at hj
  generalize (trs l).foldl bst ⟨[], [{ ndOf (look l []) with links := 2 }]⟩ = z at *
  have hjl := (List.getElem?_eq_some_iff.1 hj).1
  have h := K.kids j (by have := K.len; omega)
  unfold kidsAt at h
  rw [hj] at h
  injection h with h
  have h : n.kids = _ := h
  rw [h]
  refine ⟨names_apart W.srt hpa _ (fun u hu v hv a b => ?_) _ (fun t => rfl), ?_⟩
  ·simp at a b
   exact upOf_inj (by rw [a, b]) (by rw [a]; exact h0)
  ·rw [List.length_map]; exact Nat.le_trans (List.length_filter_le _ _) W.len
/-- what nodes of a kind have not -/
structure Dv (n : No) : Prop where
 dev : n.k = 1 ∨ n.k = 2 ∨ n.k = 3 → n.dev = 0
 size : n.k ≠ 1 → n.size = 0
 data : (n.data.length : Int) ≤ n.size
 le : n.size ≤ 1099511627775
theorem fld_size {x : En} (h : fld x = 0) (hk : x.k = 1) : (x.data.length : Int) ≤ x.size ∧ x.size ≤ 1099511627775 := by
 unfold fld at h
 split at h
 ·cases h
 ·split at h
  ·cases h
  ·rename_i h2
   have e : inI x.size x.data.length 1099511627775 = true := by
    cases hq : inI x.size x.data.length 1099511627775 with
    | true => rfl
    | false => exact absurd (by simp [hk, hq]) h2
   unfold inI at e
   rw [Bool.and_eq_true, decide_eq_true_eq, decide_eq_true_eq] at e
   exact e
theorem nd_dv {x : En} (h : fld x = 0) : Dv (ndOf x) := by
 refine ⟨fun hk => ?_, fun hk => ?_, ?_, ?_⟩
 ·have hk : x.k = 1 ∨ x.k = 2 ∨ x.k = 3 := hk
  show (if x.k = 4 ∨ x.k = 5 then x.dev else 0) = 0
  rw [if_neg (by omega)]
 ·have hk : x.k ≠ 1 := hk
  show (if x.k = 1 then x.size else 0) = 0
  rw [if_neg hk]
 ·show (((if x.k = 1 then strip x.data else []).length : Nat) : Int) ≤ (if x.k = 1 then x.size else 0)
  by_cases hk : x.k = 1
  ·rw [if_pos hk, if_pos hk]
   have h1 := (fld_size h hk).1
   have h2 := strip_len x.data
   omega
  ·rw [if_neg hk, if_neg hk]; simp
 ·show (if x.k = 1 then x.size else 0) ≤ 1099511627775
  by_cases hk : x.k = 1
  ·rw [if_pos hk]; exact (fld_size h hk).2
  ·rw [if_neg hk]; decide
theorem canon_dv {l : List En} (ok : OkS l) : ∀ n ∈ canon l, Dv n := by
 have key : ∀ n ∈ canon l, Dv (coreN n) := by
  rw [canon_trs]
  refine core_all (Q := Dv) (trs l) _ (fun n hn => ?_) (fun t ht => ?_)
  ·have hn : n ∈ [{ ndOf (look l []) with links := 2 }] := hn
   rw [List.mem_singleton] at hn
   subst hn
   have hr : Dv (ndOf (look l [])) := nd_dv (root_ok ok).2
   exact ⟨hr.dev, hr.size, hr.data, hr.le⟩
  ·obtain ⟨y, hy, a1, a2, a3, a4⟩ := (nm_of ok ht).y
   have hy2 := nd_dv ((ok.each y hy).fld a2)
   rw [← a3] at hy2
   exact ⟨hy2.dev, hy2.size, hy2.data, hy2.le⟩
 intro n hn
 have := key n hn
 exact ⟨this.dev, this.size, this.data, this.le⟩
end Go.Proofs.YtlehncfehoelbaaGreatDoor
namespace Go.Proofs.YtlehncfehoelbaaGreatDoor
open Go.ChangeShapes Go.WideShapes Go.RowKit Go.Joins
set_option maxRecDepth 100000
set_option linter.unusedVariables false
set_option linter.unusedSimpArgs false
theorem Tryz.ce3 : Tryz.prog.cellsOf 3 = 1 := by kernel_rfl
theorem Tryz.ce5 : Tryz.prog.cellsOf 5 = 1 := by kernel_rfl
theorem Tryz.ce9 : Tryz.prog.cellsOf 9 = 1 := by kernel_rfl
theorem Tryz.ceB : Tryz.prog.cellsOf 23 = 1 := by kernel_rfl
theorem Tryz.ceA : Tryz.prog.cellsOf 45 = 2 := by kernel_rfl
theorem Tryz.ceAs : Tryz.prog.cellsOf 28 = 1 := by kernel_rfl
theorem Tryz.ceE : Tryz.prog.cellsOf 30 = 11 := by kernel_rfl
theorem row_of_trod11 {H : Type} {enc : TypeId × Value → H} {w : World} {fuel : Nat} {v : Value} {x : DataW H × List MemPlace} (h : DataW.trod enc Tryz.prog w 0 (fun _ => true) true fuel 23 [v] = some x) :
  ∃ a len cap xs, v = .slice a len cap ∧ Row w a len xs ∧ len ≤ cap := by
 rcases open_ints Tryz.underlying23 Tryz.underlying5 Tryz.ce5 h with ⟨hcs, _⟩ | ⟨y, l, c, zs, hcs, _, hl, hm, hz, _, hcell, hwz⟩
 ·simp at hcs
  have hr : IsRow .u8 w none 0 0 [] := .inl ⟨rfl, rfl, rfl, rfl⟩
  exact ⟨none, 0, 0, _, hcs, hr.row, Nat.le_refl _⟩
 ·simp at hcs
  have hr : IsRow .u8 w (some y) l c zs := .inr ⟨_, rfl, hl, hm, by simpa using hz, hcell, hwz⟩
  exact ⟨some y, l, c, _, hcs, hr.row, hl⟩
theorem trod_struct11 {H : Type} {P : Program} {enc : TypeId × Value → H} {w : World} {base : Nat} {spare : Nat → Bool} {held : Bool} {t : TypeId} {f0 f1 f2 f3 f4 f5 f6 f7 f8 f9 f10 : Field} {fuel : Nat} {cs : List Value} {x : DataW H × List MemPlace} (ht : P.underlying t = some (.struct #[f0, f1, f2, f3, f4, f5, f6, f7, f8, f9, f10])) (h : DataW.trod enc P w base spare held fuel t cs = some x) :
  ∃ y0 y1 y2 y3 y4 y5 y6 y7 y8 y9 y10 n, cs.length = P.cellsOf t ∧ DataW.trod enc P w base spare held n f0.type ((cs.drop f0.offset).take (P.cellsOf f0.type)) = some y0 ∧
   DataW.trod enc P w base spare held n f1.type ((cs.drop f1.offset).take (P.cellsOf f1.type)) = some y1 ∧
   DataW.trod enc P w base spare held n f2.type ((cs.drop f2.offset).take (P.cellsOf f2.type)) = some y2 ∧
   DataW.trod enc P w base spare held n f3.type ((cs.drop f3.offset).take (P.cellsOf f3.type)) = some y3 ∧
   DataW.trod enc P w base spare held n f4.type ((cs.drop f4.offset).take (P.cellsOf f4.type)) = some y4 ∧
   DataW.trod enc P w base spare held n f5.type ((cs.drop f5.offset).take (P.cellsOf f5.type)) = some y5 ∧
   DataW.trod enc P w base spare held n f6.type ((cs.drop f6.offset).take (P.cellsOf f6.type)) = some y6 ∧
   DataW.trod enc P w base spare held n f7.type ((cs.drop f7.offset).take (P.cellsOf f7.type)) = some y7 ∧
   DataW.trod enc P w base spare held n f8.type ((cs.drop f8.offset).take (P.cellsOf f8.type)) = some y8 ∧
   DataW.trod enc P w base spare held n f9.type ((cs.drop f9.offset).take (P.cellsOf f9.type)) = some y9 ∧
   DataW.trod enc P w base spare held n f10.type ((cs.drop f10.offset).take (P.cellsOf f10.type)) = some y10 := by
 obtain ⟨xs, n, _, rfl, hl, hlen, hf⟩ := DataW.trod_struct ht h
 match xs, hlen with
 | [y0, y1, y2, y3, y4, y5, y6, y7, y8, y9, y10], _ => exact ⟨y0, y1, y2, y3, y4, y5, y6, y7, y8, y9, y10, n, hl, by simpa using hf 0 f0 rfl, by simpa using hf 1 f1 rfl, by simpa using hf 2 f2 rfl, by simpa using hf 3 f3 rfl, by simpa using hf 4 f4 rfl, by simpa using hf 5 f5 rfl, by simpa using hf 6 f6 rfl, by simpa using hf 7 f7 rfl, by simpa using hf 8 f8 rfl, by simpa using hf 9 f9 rfl, by simpa using hf 10 f10 rfl⟩
theorem list11 {α : Type} {l : List α} (h : l.length = 11) : ∃ x0 x1 x2 x3 x4 x5 x6 x7 x8 x9 x10, l = [x0, x1, x2, x3, x4, x5, x6, x7, x8, x9, x10] := by
 match l, h with
 | [x0, x1, x2, x3, x4, x5, x6, x7, x8, x9, x10], _ => exact ⟨x0, x1, x2, x3, x4, x5, x6, x7, x8, x9, x10, rfl⟩
theorem list2 {α : Type} {l : List α} (h : l.length = 2) : ∃ x0 x1, l = [x0, x1] := by
 match l, h with
 | [x0, x1], _ => exact ⟨x0, x1, rfl⟩
/-- one attribute, out of its reading -/
theorem at_of_trod {H : Type} {enc : TypeId × Value → H} {w : World} {n : Nat} {cs : List Value} {x : DataW H × List MemPlace} {b o : Nat} (hl : cs.length = 2) (hc : ∀ t, t < 2 → w.cell? ⟨b, o + t, none⟩ = cs[t]?)
  (h : DataW.trod enc Tryz.prog w 0 (fun _ => true) true n 45 cs = some x) : ∃ A : AtV, AtAt w b o A := by
 obtain ⟨x0, x1, rfl⟩ := list2 hl
 obtain ⟨y0, y1, m, _, _, h0, h1⟩ := trod_struct2 Tryz.underlying45 h
 simp only [Tryz.ce9, Tryz.ceB, List.drop_zero, List.drop_succ_cons, List.take_succ_cons, List.take_zero] at h0 h1
 obtain ⟨s, e0, _, _⟩ := DataW.trod_string Tryz.underlying9 h0
 obtain ⟨a, len, cap, xs, e1, hr, hcp⟩ := row_of_trod11 h1
 simp only [List.cons.injEq, and_true] at e0
 subst e0 e1
 exact ⟨⟨s, a, len, cap, xs⟩, hc 0 (by omega), hc 1 (by omega), hr, hcp⟩
theorem ats_of_trod {H : Type} {enc : TypeId × Value → H} {w : World} {fuel : Nat} {v : Value} {x : DataW H × List MemPlace} (h : DataW.trod enc Tryz.prog w 0 (fun _ => true) true fuel 28 [v] = some x) :
  ∃ a len cap l, v = .slice a len cap ∧ Ats w a len l ∧ len ≤ cap ∧ (a = none → cap = 0) := by
 rcases Deep.open_slice Tryz.underlying28 h with ⟨hcs, _⟩ | ⟨y, len, cap, m, n, D, Pl, hcs, _, hl, hm, hmm, _, hel⟩
 ·simp at hcs
  exact ⟨none, 0, 0, [], hcs, ⟨rfl, Nat.zero_le _, fun h => absurd h (by omega)⟩, Nat.le_refl _, fun _ => rfl⟩
 ·simp at hcs
  simp only [if_true] at hmm
  subst hmm
  rcases Nat.eq_zero_or_pos len with rfl | h0
  ·exact ⟨some y, 0, _, [], hcs, ⟨rfl, Nat.zero_le _, fun h => absurd h (by omega)⟩, hl, fun e => by cases e⟩
  ·obtain ⟨b, off, spot⟩ := y
   rw [Tryz.ceA] at hel
   have hspot : spot = none := by
    obtain ⟨cs, h1, _⟩ := hel 0 (by omega)
    obtain ⟨_, hl4, hc⟩ := World.cells?_some h1
    have := hc 0 (by omega)
    obtain ⟨x0, x1, rfl⟩ := list2 hl4
    have h2 : w.cell? ((Addr.add ⟨b, off, spot⟩ (0 * 2)).add 0) = some x0 := this
    simpa [Addr.add] using World.cell?_spot h2
   subst hspot
   have hadd : ∀ i t, ((⟨b, off, none⟩ : Addr).add (i * 2)).add t = ⟨b, off + i * 2 + t, none⟩ := by
    intro i t
    have e : ∀ o k, (⟨b, o, none⟩ : Addr).add k = ⟨b, o + k, none⟩ := by intro o k; unfold Addr.add; split <;> simp_all
    rw [e, e]
   obtain ⟨A, hA⟩ := @Deep.choose_lt AtV ⟨⟨⟨#[]⟩, none, 0, 0, []⟩⟩ len (fun i A => AtAt w b (off + i * 2) A) (fun i hi => by
    obtain ⟨cs, h1, h2⟩ := hel i (by omega)
    obtain ⟨_, hl4, hc⟩ := World.cells?_some h1
    exact at_of_trod hl4 (fun t ht => by rw [← hadd]; exact hc t ht) h2)
   refine ⟨_, len, _, (List.range len).map A, hcs, ⟨by simp, by omega, fun _ => ⟨b, off, rfl, fun i X hX => ?_⟩⟩, hl, fun e => by cases e⟩
   have hi : i < len := by
    rcases Nat.lt_or_ge i len with h | h
    ·exact h
    ·rw [List.getElem?_eq_none (by simp; omega)] at hX; cases hX
   rw [List.getElem?_map, List.getElem?_range hi] at hX
   simp at hX
   subst hX
   exact hA i hi
/-- one entry, out of its reading -/
theorem en_of_trod {H : Type} {enc : TypeId × Value → H} {w : World} {n : Nat} {cs : List Value} {x : DataW H × List MemPlace} {b o : Nat} (hl : cs.length = 11) (hc : ∀ t, t < 11 → w.cell? ⟨b, o + t, none⟩ = cs[t]?)
  (h : DataW.trod enc Tryz.prog w 0 (fun _ => true) true n 30 cs = some x) : ∃ X : EnV, EnAt w b o X := by
 obtain ⟨x0, x1, x2, x3, x4, x5, x6, x7, x8, x9, x10, rfl⟩ := list11 hl
 obtain ⟨y0, y1, y2, y3, y4, y5, y6, y7, y8, y9, y10, m, _, h0, h1, h2, h3, h4, h5, h6, h7, h8, h9, h10⟩ := trod_struct11 Tryz.underlying30 h
 simp only [Tryz.ce3, Tryz.ce9, Tryz.ceB, Tryz.ceAs, List.drop_zero, List.drop_succ_cons, List.take_succ_cons, List.take_zero] at h0 h1 h2 h3 h4 h5 h6 h7 h8 h9 h10
 obtain ⟨s0, e0, _, _⟩ := DataW.trod_string Tryz.underlying9 h0
 obtain ⟨z1, e1, _, w1⟩ := DataW.trod_int Tryz.underlying3 h1
 obtain ⟨z2, e2, _, w2⟩ := DataW.trod_int Tryz.underlying3 h2
 obtain ⟨z3, e3, _, w3⟩ := DataW.trod_int Tryz.underlying3 h3
 obtain ⟨z4, e4, _, w4⟩ := DataW.trod_int Tryz.underlying3 h4
 obtain ⟨z5, e5, _, w5⟩ := DataW.trod_int Tryz.underlying3 h5
 obtain ⟨z6, e6, _, w6⟩ := DataW.trod_int Tryz.underlying3 h6
 obtain ⟨da, dl, dc, ds, e7, hr, hcp⟩ := row_of_trod11 h7
 obtain ⟨s8, e8, _, _⟩ := DataW.trod_string Tryz.underlying9 h8
 obtain ⟨z9, e9, _, w9⟩ := DataW.trod_int Tryz.underlying3 h9
 obtain ⟨aa, al, ac, tts, e10, ha, hac, _⟩ := ats_of_trod h10
 simp only [List.cons.injEq, and_true] at e0 e1 e2 e3 e4 e5 e6 e8 e9
 subst e0 e1 e2 e3 e4 e5 e6 e7 e8 e9 e10
 exact ⟨⟨s0, z1, z2, z3, z4, z5, z6, da, dl, dc, ds, s8, z9, aa, al, ac, tts⟩, hc 0 (by omega), hc 1 (by omega), hc 2 (by omega), hc 3 (by omega), hc 4 (by omega), hc 5 (by omega), hc 6 (by omega), hc 7 (by omega), hc 8 (by omega), hc 9 (by omega), hc 10 (by omega), ⟨hr, hcp, ha, hac⟩⟩
theorem ens_of_trod {H : Type} {enc : TypeId × Value → H} {w : World} {fuel : Nat} {v : Value} {x : DataW H × List MemPlace} (h : DataW.trod enc Tryz.prog w 0 (fun _ => true) true fuel 22 [v] = some x) :
  ∃ a len cap l, v = .slice a len cap ∧ Ens w a len l ∧ len ≤ cap ∧ (a = none → cap = 0) := by
 rcases Deep.open_slice Tryz.underlying22 h with ⟨hcs, _⟩ | ⟨y, len, cap, m, n, D, Pl, hcs, _, hl, hm, hmm, _, hel⟩
 ·simp at hcs
  exact ⟨none, 0, 0, [], hcs, ⟨rfl, Nat.zero_le _, fun h => absurd h (by omega)⟩, Nat.le_refl _, fun _ => rfl⟩
 ·simp at hcs
  simp only [if_true] at hmm
  subst hmm
  rcases Nat.eq_zero_or_pos len with rfl | h0
  ·exact ⟨some y, 0, _, [], hcs, ⟨rfl, Nat.zero_le _, fun h => absurd h (by omega)⟩, hl, fun e => by cases e⟩
  ·obtain ⟨b, off, spot⟩ := y
   rw [Tryz.ceE] at hel
   have hspot : spot = none := by
    obtain ⟨cs, h1, _⟩ := hel 0 (by omega)
    obtain ⟨_, hl4, hc⟩ := World.cells?_some h1
    have := hc 0 (by omega)
    obtain ⟨x0, x1, x2, x3, x4, x5, x6, x7, x8, x9, x10, rfl⟩ := list11 hl4
    have h2 : w.cell? ((Addr.add ⟨b, off, spot⟩ (0 * 11)).add 0) = some x0 := this
    simpa [Addr.add] using World.cell?_spot h2
   subst hspot
   have hadd : ∀ i t, ((⟨b, off, none⟩ : Addr).add (i * 11)).add t = ⟨b, off + i * 11 + t, none⟩ := by
    intro i t
    have e : ∀ o k, (⟨b, o, none⟩ : Addr).add k = ⟨b, o + k, none⟩ := by intro o k; unfold Addr.add; split <;> simp_all
    rw [e, e]
   obtain ⟨A, hA⟩ := @Deep.choose_lt EnV ⟨⟨⟨#[]⟩, 0, 0, 0, 0, 0, 0, none, 0, 0, [], ⟨#[]⟩, 0, none, 0, 0, []⟩⟩ len (fun i A => EnAt w b (off + i * 11) A) (fun i hi => by
    obtain ⟨cs, h1, h2⟩ := hel i (by omega)
    obtain ⟨_, hl4, hc⟩ := World.cells?_some h1
    exact en_of_trod hl4 (fun t ht => by rw [← hadd]; exact hc t ht) h2)
   refine ⟨_, len, _, (List.range len).map A, hcs, ⟨by simp, by omega, fun _ => ⟨b, off, rfl, fun i X hX => ?_⟩⟩, hl, fun e => by cases e⟩
   have hi : i < len := by
    rcases Nat.lt_or_ge i len with h | h
    ·exact h
    ·rw [List.getElem?_eq_none (by simp; omega)] at hX; cases hX
   rw [List.getElem?_map, List.getElem?_range hi] at hX
   simp at hX
   subst hX
   exact hA i hi
end Go.Proofs.YtlehncfehoelbaaGreatDoor
