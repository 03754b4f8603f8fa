/- The program's Same. The program's tree: what each call answers. A list of entries in memory of its own, over the rows of another one: what TreeNames and TreeOrders write. The program's tree: a node's entry. The walk of List along the names of a tree, as a plain function. The walk of List along the names of a tree in the one way: it tells the names in their order. The walk of List along the names of a tree in the one way, to its end. A further name's node has a name ahead of it; a node's own fields stay as they were laid. List tells the entries of a tree in the one way. The program's tree: the walker in memory. The program's tree: what is in a folder is met. -/
import Derived.WalkLawsBesides
import Derived.Test.YtbpoealcaogjpaaGreatDoorLp06
import Derived.Test.YtbpoealcaogjpaaGreatDoorLp09
import Derived.Test.YtbpoealcaogjpaaGreatDoorLp10
import Derived.Test.YtbpoealcaogjpaaGreatDoorLp11
import Derived.Test.YtbpoealcaogjpaaGreatDoorLp12
import Derived.Test.YtbpoealcaogjpaaGreatDoorLp14
import Derived.Test.YtbpoealcaogjpaaGreatDoorLp22
import Derived.Test.YtbpoealcaogjpaaGreatDoorLp23
namespace Go.Proofs.YtbpoealcaogjpaaGreatDoor
open Go.RowKit
set_option maxRecDepth 100000
set_option linter.unusedSimpArgs false
set_option linter.unusedVariables false

set_option maxHeartbeats 8000000 in
theorem peqn_any (a b : Option Addr) (n c m d : Nat) (l r : List NoV) (w : World) (R : Nos w a n l) (R2 : Nos w b m r) :
    Calls Tryz.prog 37 #[.slice a n c, .slice b m d, .func (.func 38) #[] #[]] w fun e w' => e = .returned (.bool (sameNos (nos l) (nos r))) ∧ w.grownBy w' none := by
  have hle1 : n ≤ 9223372036854775807 := R.le
  have hle2 : m ≤ 9223372036854775807 := R2.le
  by_cases hnm : n = m
  · subst hnm
    have HE : Hid _ := And.intro R.len_eq R2.len_eq
    have HR : Hid _ := And.intro R R2
    clear R R2
    have hb : (n != n) = false := by simp
    go_enter Tryz.func37, Tryz.ntmps37
    go_wp2_with fail
    go_loopw [17] (fun i wr => ∃ k : Nat, k ≤ n ∧ i = .int .i64 k ∧ Hid (sameNos (nos l) (nos r) = sameNos ((nos l).drop k) ((nos r).drop k)) ∧ Hid (w.grownBy wr none)) (fun i _ => n - (intOf i).toNat)
    case atStart => exact ⟨0, Nat.zero_le _, rfl, rfl, World.grownBy.refl _ _⟩
    case round =>
      obtain ⟨k, h1, rfl, HC, HG⟩ := hrel
      by_cases h3 : k < n
      · obtain ⟨b1, o1, rfl, c1⟩ := (HR.out.1.grown HG.out).at_ (by omega)
        obtain ⟨b2, o2, rfl, c2⟩ := (HR.out.2.grown HG.out).at_ (by omega)
        obtain ⟨x, hx⟩ : ∃ x, l[k]? = some x := ⟨_, List.getElem?_eq_getElem (by rw [HE.out.1]; exact h3)⟩
        obtain ⟨y, hy⟩ : ∃ y, r[k]? = some y := ⟨_, List.getElem?_eq_getElem (by rw [HE.out.2]; exact h3)⟩
        obtain ⟨p0, p1, p2, p3, p4, p5, p6, p7, p8, p9, p10, p11, p12, pok⟩ := c1 k x hx
        obtain ⟨q0, q1, q2, q3, q4, q5, q6, q7, q8, q9, q10, q11, q12, qok⟩ := c2 k y hy
        have hst := sameNos_step hx hy
        rw [← HC.out] at hst
        have hcall := fun W (g : wr.grownBy W none) => psnode_any x y W (pok.grown g) (qok.grown g)
        generalize sameNo x.no y.no = B at *
        obtain ⟨xk, xm, xu, xg, xi, xz, xda, xdl, xdc, xd, xt, xv, xaa, xal, xac, xat, xka, xkl, xkc, xki, xp, xl⟩ := x
        obtain ⟨yk, ym, yu, yg, yi, yz, yda, ydl, ydc, yd, yt, yv, yaa, yal, yac, yat, yka, ykl, ykc, yki, yp, yl⟩ := y
        simp only [NoV.val] at hcall
        simp only at p0 p1 p2 p3 p4 p5 p6 p7 p8 p9 p10 p11 p12 q0 q1 q2 q3 q4 q5 q6 q7 q8 q9 q10 q11 q12
        have HD : Hid _ := hst
        have hb1 := cell_lt11 p0
        have hb2 := cell_lt11 q0
        clear hst c1 c2 pok qok hx hy
        have h3i : (k : Int) < n := by omega
        cases B with
        | true =>
          go_wp2_with (go_at_call 38; refine (hcall _ (grown_trans (World.grownBy_alloc _ _ none) (World.grownBy_alloc _ _ none))).mono ?_; rintro e w' ⟨rfl, hg⟩)
          exact ⟨⟨k + 1, by omega, by go_num, by show _ = _; rw [HD.out]; rfl, grown_trans HG.out (grown_trans (grown_trans (World.grownBy_alloc _ _ none) (World.grownBy_alloc _ _ none)) hg)⟩, by simp [intOf]; omega⟩
        | false =>
          go_wp2_with (go_at_call 38; refine (hcall _ (grown_trans (World.grownBy_alloc _ _ none) (World.grownBy_alloc _ _ none))).mono ?_; rintro e w' ⟨rfl, hg⟩)
          go_ret
          exact ⟨by rw [HD.out]; rfl, grown_trans HG.out (grown_trans (grown_trans (World.grownBy_alloc _ _ none) (World.grownBy_alloc _ _ none)) hg)⟩
      · have HV : Hid (sameNos (nos l) (nos r) = true) := by
          show _ = _
          rw [HC.out, List.drop_eq_nil_of_le (by rw [nos_len, HE.out.1]; omega), List.drop_eq_nil_of_le (by rw [nos_len, HE.out.2]; omega)]
          rfl
        clear HC
        go_wp2_with fail
        go_ret
        exact ⟨by rw [HV.out]; rfl, HG.out⟩
  · have HV : Hid (sameNos (nos l) (nos r) = false) := by
      show _ = _
      exact sameNos_len (by rw [nos_len, nos_len, R.len_eq, R2.len_eq]; exact hnm)
    have hb : ((n : Int) == (m : Int)) = false := by rw [beq_eq_false_iff_ne]; omega
    clear R R2
    go_enter Tryz.func37, Tryz.ntmps37
    go_wp2_with fail
    go_ret
    exact ⟨by rw [HV.out]; rfl, World.grownBy.refl _ _⟩
theorem psame_any (a b : Option Addr) (n c m d : Nat) (l r : List NoV) (w : World) (R : Nos w a n l) (R2 : Nos w b m r) : Calls Tryz.prog 19 #[.agg #[.slice a n c], .agg #[.slice b m d]] w fun e w' => e = .returned (.bool (sameNos (nos l) (nos r))) ∧ w.grownBy w' none := by
  have hq := fun W (g : w.grownBy W none) => peqn_any a b n c m d l r W (R.grown g) (R2.grown g)
  generalize sameNos (nos l) (nos r) = B at *
  clear R R2
  go_enter Tryz.func19, Tryz.ntmps19
  go_wp2_with (go_at_call 37; refine (hq _ (grown_trans (World.grownBy_alloc _ _ none) (World.grownBy_alloc _ _ none))).mono ?_; rintro e w' ⟨rfl, hg⟩)
  go_ret
  exact ⟨rfl, grown_trans (grown_trans (World.grownBy_alloc _ _ none) (World.grownBy_alloc _ _ none)) hg⟩
end Go.Proofs.YtbpoealcaogjpaaGreatDoor

namespace Go.Proofs.YtbpoealcaogjpaaGreatDoor
open Go.RowKit
set_option maxRecDepth 100000
set_option linter.unusedSimpArgs false
set_option linter.unusedVariables false

theorem szs_of {l : List EnV} (h : Sml l) : Szs l := fun X hX => ⟨(h X hX).1, by have := (h X hX).2.1; omega, fun A hA => by have := (h X hX).2.2 A hA; omega⟩
end Go.Proofs.YtbpoealcaogjpaaGreatDoor

namespace Go.Proofs.YtbpoealcaogjpaaGreatDoor
open Go.RowKit
set_option maxRecDepth 100000
set_option linter.unusedSimpArgs false
set_option linter.unusedVariables false

structure Eo (w W : World) (base : Nat) (v : Value) (l : List EnV) : Prop where
  gr : w.grownBy W none
  low : w.heap.size ≤ base
  own : W.ownsRow base 44 11 v l.length (l.flatMap evc)
  each : ∀ X ∈ l, X.ok w
theorem Eo.kept {w W W' : World} {base : Nat} {v : Value} {l : List EnV} (h : Eo w W base v l) (g : W.grownBy W' none) : Eo w W' base v l := ⟨grown_trans h.gr g, h.low, owns_kept11 h.own g, h.each⟩
theorem Eo.ens {w W : World} {base n c : Nat} {a : Option Addr} {l : List EnV} (h : Eo w W base (.slice a n c) l) (hn : l.length = n) : Ens W a n l := by
  obtain ⟨a', c', e, k⟩ := own_ens h.own rfl (fun X hX => (h.each X hX).grown h.gr)
  injection e with e1 e2 e3
  rw [e1, ← hn]; exact k
theorem Eo.cell {w W : World} {base g c n : Nat} {l : List EnV} (h : Eo w W base (.slice (some ⟨g, 0, none⟩) n c) l) (hn : l.length = n) {i f : Nat} {X : EnV} (hX : l[i]? = some X) (hf : f < 11) : W.cell? ⟨g, i * 11 + f, none⟩ = (evc X)[f]? := by
  have hi : i < l.length := (List.getElem?_eq_some_iff.1 hX).1
  have ho := h.own
  rw [← hn] at ho
  rw [ho.cellAt (i * 11 + f) (by omega), flat_at evc 11 evc_len l i f X hX hf]
theorem Eo.froz {w W : World} {base g c n : Nat} {l : List EnV} (h : Eo w W base (.slice (some ⟨g, 0, none⟩) n c) l) (hn : l.length = n) (j : Nat) : W.frozen? ⟨g, j, none⟩ = false := by
  have ho := h.own
  rw [← hn] at ho
  exact ho.frozenAt j
/-- a field is written; the rows stay -/
theorem Eo.set {w W : World} {base g c n : Nat} {l : List EnV} (h : Eo w W base (.slice (some ⟨g, 0, none⟩) n c) l) (hn : l.length = n) {i f : Nat} {X X' : EnV} {u : Value} (hX : l[i]? = some X) (hf : f < 11) (e : evc X' = (evc X).set f u) (ho' : X'.ok w) :
    Eo w (W.setCell ⟨g, i * 11 + f, none⟩ u) base (.slice (some ⟨g, 0, none⟩) n c) (l.set i X') ∧ W.grownBy (W.setCell ⟨g, i * 11 + f, none⟩ u) (some g) := by
  have ho := h.own
  rw [hn] at ho
  obtain ⟨h1, h2⟩ := ho.stored (i * 11 + f) u
  rw [flat_set evc 11 evc_len u l i f X X' hX hf e] at h1
  refine ⟨⟨grown_ownB h.gr h.own h2 h.low, h.low, by rw [List.length_set, hn]; exact h1, fun Y hY => ?_⟩, h2⟩
  rcases List.mem_or_eq_of_mem_set hY with hY' | rfl
  · exact h.each Y hY'
  · exact ho'
theorem Eo.form {w W : World} {base : Nat} {v : Value} {l : List EnV} (h : Eo w W base v l) (h0 : l ≠ []) : ∃ g c, v = .slice (some ⟨g, 0, none⟩) l.length c ∧ base ≤ g ∧ l.length ≤ c ∧ c ≤ maxLen ∧ W.heap.size > g := by
  rcases h.own.2 with ⟨_, hn⟩ | ⟨g, cap, cur, hv, hb, hq, hc, hm, _⟩
  · exact absurd (List.eq_nil_of_length_eq_zero hn) h0
  · exact ⟨g, cap, hv, hb, hc, hm, by
      have := (Array.getElem?_eq_some_iff.1 hq).1
      exact this⟩
end Go.Proofs.YtbpoealcaogjpaaGreatDoor

namespace Go.Proofs.YtbpoealcaogjpaaGreatDoor
open Go.RowKit
set_option maxRecDepth 100000
set_option linter.unusedSimpArgs false
set_option linter.unusedVariables false

/-- a node's entry, in the node's memory -/
def NoV.ent (N : NoV) (p : ByteArray) : EnV := ⟨p, N.k, N.mode, N.uid, N.gid, N.time, N.size, N.da, N.dl, N.dc, N.data, N.target, N.dev, N.aa, N.al, N.ac, N.attrs⟩
set_option maxHeartbeats 4000000 in
theorem pentry_any (N : NoV) (p : ByteArray) (w : World) : Calls Tryz.prog 87 #[N.val, .string p] w fun e w' => e = .returned (N.ent p).val ∧ w.grownBy w' none := by
  have g0 : ∀ cs ds, w.grownBy ((w.alloc (.cells cs 54)).alloc (.cells ds 44)) none := fun cs ds => grown_trans (World.grownBy_alloc _ _ none) (World.grownBy_alloc _ _ none)
  have HG : Hid _ := g0
  clear g0
  simp only [NoV.val, NoV.ent, EnV.val]
  go_enter Tryz.func87, Tryz.ntmps87
  go_wp2_with fail
  refine bodyPost_ret (v := .agg #[.string p, .int .i64 N.k, .int .i64 N.mode, .int .i64 N.uid, .int .i64 N.gid, .int .i64 N.time, .int .i64 N.size, .slice N.da N.dl N.dc, .string N.target, .int .i64 N.dev, .slice N.aa N.al N.ac]) (by simp [results, Tryz.results87, go_sem]) rfl ?_
  exact ⟨rfl, HG.out _ _⟩
end Go.Proofs.YtbpoealcaogjpaaGreatDoor

namespace Go.Proofs.YtbpoealcaogjpaaGreatDoor
set_option linter.unusedVariables false
set_option linter.unusedSimpArgs false

/-- what is listed: at a path a node's first entry (its number), or a further name (of what) -/
structure Le where
  path : Tx
  src : Nat ⊕ Tx
/-- the walker: what was met (the number, where it is listed first), what is listed -/
structure Wk where
  met : List (Nat × Nat)
  list : List Le
def Wk.at_ (s : Wk) (i : Nat) : Option Nat := (s.met.find? fun x => decide (x.1 = i)).map (·.2)
def ahd (p : Tx) : Tx := if p = [] then [] else p ++ [47]
def kidsP (meet : Wk → Int → Tx → Option Wk) (a : Tx) : List Kd → Wk → Option Wk
  | [], s => some s
  | k :: ks, s => if vld k.n = true then (match meet s k.i (a ++ k.n) with
    | none => none
    | some s' => kidsP meet a ks s') else none
def addN (s : Wk) (i : Nat) (p : Tx) : Wk := ⟨(i, s.list.length) :: s.met, s.list ++ [⟨p, .inl i⟩]⟩
def addF (s : Wk) (f : Nat) (p : Tx) : Wk := ⟨s.met, s.list ++ [⟨p, .inr ((s.list[f]?.map Le.path).getD [])⟩]⟩
def meetP (ns : List No) : Nat → Wk → Int → Tx → Option Wk
  | 0, _, _, _ => none
  | f + 1, s, i, p => if 0 ≤ i ∧ p.length ≤ 4096 ∧ s.list.length ≤ 16384 then (match ns[i.toNat]? with
    | none => none
    | some n => match s.at_ i.toNat with
      | some j => if n.k = 2 then none else some (addF s j p)
      | none => if n.k = 2 then kidsP (meetP ns f) (ahd p) n.kids (addN s i.toNat p) else some (addN s i.toNat p)) else none
/-- what holds of a walker -/
structure Wk.ok (s : Wk) (n : Nat) : Prop where
  nd : (s.met.map (·.1)).Nodup
  lt : ∀ x ∈ s.met, x.1 < n ∧ x.2 < s.list.length
  le : s.list.length ≤ 16385
  pl : ∀ x ∈ s.list, x.path.length ≤ 4096
  ql : ∀ x ∈ s.list, ∀ q, x.src = .inr q → q.length ≤ 4096
theorem Wk.ok.at_lt {s : Wk} {n : Nat} (h : s.ok n) {i j : Nat} (e : s.at_ i = some j) : j < s.list.length := by
  unfold Wk.at_ at e
  cases hf : s.met.find? (fun x => decide (x.1 = i)) with
  | none => rw [hf] at e; cases e
  | some x =>
    rw [hf] at e
    injection e with e
    rw [← e]
    exact (h.lt x (List.mem_of_find?_eq_some hf)).2
theorem Wk.ok.addN {s : Wk} {n : Nat} (h : s.ok n) {i : Nat} {p : Tx} (hi : i < n) (hp : p.length ≤ 4096) (hl : s.list.length ≤ 16384) (hn : s.at_ i = none) : (addN s i p).ok n := by
  refine ⟨?_, ?_, ?_, ?_, ?_⟩
  · show ((i, s.list.length) :: s.met).map (·.1) |>.Nodup
    rw [List.map_cons, List.nodup_cons]
    refine ⟨fun hm => ?_, h.nd⟩
    obtain ⟨x, hx, e⟩ := List.mem_map.1 hm
    unfold Wk.at_ at hn
    have h0 : s.met.find? (fun x => decide (x.1 = i)) = none := by
      cases hf : s.met.find? (fun x => decide (x.1 = i)) with
      | none => rfl
      | some y => rw [hf] at hn; cases hn
    rw [List.find?_eq_none] at h0
    exact h0 x hx (by simpa using e)
  · intro x hx
    show x.1 < n ∧ x.2 < (s.list ++ [_]).length
    rw [List.length_append, List.length_singleton]
    rcases List.mem_cons.1 hx with rfl | hx
    · exact ⟨hi, by simp⟩
    · have := h.lt x hx; omega
  · show (s.list ++ [_]).length ≤ _
    rw [List.length_append, List.length_singleton]; omega
  · intro x hx
    rcases List.mem_append.1 hx with hx | hx
    · exact h.pl x hx
    · rw [List.mem_singleton] at hx; subst hx; exact hp
  · intro x hx q hq
    rcases List.mem_append.1 hx with hx | hx
    · exact h.ql x hx q hq
    · rw [List.mem_singleton] at hx; subst hx; cases hq
theorem Wk.ok.addF {s : Wk} {n : Nat} (h : s.ok n) {f : Nat} {p : Tx} (hp : p.length ≤ 4096) (hl : s.list.length ≤ 16384) : (addF s f p).ok n := by
  refine ⟨h.nd, ?_, ?_, ?_, ?_⟩
  · intro x hx
    show x.1 < n ∧ x.2 < (s.list ++ [_]).length
    rw [List.length_append, List.length_singleton]
    have := h.lt x hx; omega
  · show (s.list ++ [_]).length ≤ _
    rw [List.length_append, List.length_singleton]; omega
  · intro x hx
    rcases List.mem_append.1 hx with hx | hx
    · exact h.pl x hx
    · rw [List.mem_singleton] at hx; subst hx; exact hp
  · intro x hx q hq
    rcases List.mem_append.1 hx with hx | hx
    · exact h.ql x hx q hq
    · rw [List.mem_singleton] at hx
      subst hx
      injection hq with hq
      rw [← hq]
      cases hf : s.list[f]? with
      | none => exact Nat.zero_le _
      | some y => exact h.pl y (List.mem_of_getElem? hf)
theorem nodup_le {os : List Nat} {n : Nat} (h : os.Nodup) (hl : ∀ o ∈ os, o < n) : os.length ≤ n := by
  induction n generalizing os with
  | zero =>
    cases os with
    | nil => exact Nat.le_refl _
    | cons a r => exact absurd (hl a (by simp)) (by omega)
  | succ n ih =>
    have h1 := ih (h.erase n) fun o ho => by
      have := (h.mem_erase_iff).1 ho
      have := hl o this.2
      omega
    rw [List.length_erase] at h1
    split at h1 <;> omega
theorem Wk.ok.fewer {s : Wk} {n : Nat} (h : s.ok n) {i : Nat} (hi : i < n) (hn : s.at_ i = none) : s.met.length < n := by
  have h0 : ∀ x ∈ s.met, ¬ x.1 = i := by
    unfold Wk.at_ at hn
    have h0 : s.met.find? (fun x => decide (x.1 = i)) = none := by
      cases hf : s.met.find? (fun x => decide (x.1 = i)) with
      | none => rfl
      | some y => rw [hf] at hn; cases hn
    rw [List.find?_eq_none] at h0
    intro x hx e
    exact h0 x hx (by simpa using e)
  have hd : (i :: s.met.map (·.1)).Nodup := List.nodup_cons.2 ⟨fun hm => by obtain ⟨x, hx, e⟩ := List.mem_map.1 hm; exact h0 x hx e, h.nd⟩
  have := nodup_le hd (n := n) (fun x hx => by
    rcases List.mem_cons.1 hx with rfl | hx
    · exact hi
    · obtain ⟨y, hy, rfl⟩ := List.mem_map.1 hx; exact (h.lt y hy).1)
  simp only [List.length_cons, List.length_map] at this
  omega
/-- what a walk leaves as it was -/
structure Wk.le (s s' : Wk) : Prop where
  met : s.met.length ≤ s'.met.length
theorem kidsP_ok {n : Nat} {meet : Wk → Int → Tx → Option Wk} (hm : ∀ s i p s', s.ok n → meet s i p = some s' → s'.ok n ∧ s.met.length ≤ s'.met.length) (a : Tx) : ∀ (ks : List Kd) (s s' : Wk), s.ok n → kidsP meet a ks s = some s' → s'.ok n ∧ s.met.length ≤ s'.met.length
  | [], s, s', h, e => by
    unfold kidsP at e
    injection e with e
    subst e
    exact ⟨h, Nat.le_refl _⟩
  | k :: ks, s, s', h, e => by
    unfold kidsP at e
    split at e
    · cases hk : meet s k.i (a ++ k.n) with
      | none => rw [hk] at e; cases e
      | some s1 =>
        rw [hk] at e
        obtain ⟨h1, h2⟩ := hm _ _ _ _ h hk
        obtain ⟨h3, h4⟩ := kidsP_ok hm a ks s1 s' h1 e
        exact ⟨h3, Nat.le_trans h2 h4⟩
    · cases e
theorem meetP_ok {ns : List No} : ∀ (f : Nat) (s : Wk) (i : Int) (p : Tx) (s' : Wk), s.ok ns.length → meetP ns f s i p = some s' → s'.ok ns.length ∧ s.met.length ≤ s'.met.length
  | 0, s, i, p, s', h, e => by cases e
  | f + 1, s, i, p, s', h, e => by
    unfold meetP at e
    split at e <;> rename_i hc
    · cases hn : ns[i.toNat]? with
      | none => rw [hn] at e; cases e
      | some n =>
        rw [hn] at e
        simp only at e
        have hi := (List.getElem?_eq_some_iff.1 hn).1
        cases ha : s.at_ i.toNat with
        | some j =>
          rw [ha] at e
          simp only at e
          split at e
          · cases e
          · injection e with e
            subst e
            exact ⟨h.addF hc.2.1 hc.2.2, Nat.le_refl _⟩
        | none =>
          rw [ha] at e
          simp only at e
          have h1 := h.addN hi hc.2.1 hc.2.2 ha
          have h2 : s.met.length ≤ (addN s i.toNat p).met.length := by show _ ≤ (_ :: s.met).length; simp
          split at e
          · obtain ⟨h3, h4⟩ := kidsP_ok (meetP_ok f) _ _ _ _ h1 e
            exact ⟨h3, Nat.le_trans h2 h4⟩
          · injection e with e
            subst e
            exact ⟨h1, h2⟩
    · cases e
end Go.Proofs.YtbpoealcaogjpaaGreatDoor

namespace Go.Proofs.YtbpoealcaogjpaaGreatDoor
set_option linter.unusedVariables false
set_option linter.unusedSimpArgs false

def kdT (ino : Tx → Nat) (t : Tp Tx) : Kd := ⟨lastT t.p, ino t.o⟩
/-- what the walk needs of a tree -/
structure Wt (ts : List (Tp Tx)) (ns : List No) (ino : Tx → Nat) : Prop where
  srt : ts.Pairwise fun a b => plt a.p b.p
  up : ∀ (k : Nat) (t : Tp Tx), ts[k]? = some t → upT t.p = [] ∨ ∃ u ∈ ts.take k, u.dir = true ∧ u.p = upT t.p
  path : ∀ t ∈ ts, t.p ≠ [] ∧ t.p.length ≤ 4096 ∧ ahd (upT t.p) ++ lastT t.p = t.p ∧ vld (lastT t.p) = true
  parts : ∀ t ∈ ts, (upT t.p = [] ∧ (spl t.p).1 = [lastT t.p]) ∨ ((spl (upT t.p)).1 ++ [lastT t.p] = (spl t.p).1 ∧ (spl (upT t.p)).1 ≠ [])
  dir1 : ∀ t ∈ ts, ∀ u ∈ ts, t.dir = true → u.o = t.o → u.p = t.p
  ino1 : ∀ t ∈ ts, ∀ u ∈ ts, ino t.o = ino u.o → t.o = u.o
  ino0 : ∀ t ∈ ts, 1 ≤ ino t.o
  nd : ∀ t ∈ ts, ∃ n, ns[ino t.o]? = some n ∧ (∀ p, enOf p n = enOf p t.nd) ∧ (n.k = 2 ↔ t.dir = true) ∧ (t.dir = true → n.kids = (ts.filter fun u => decide (upT u.p = t.p)).map (kdT ino))
  root : ∃ n, ns[0]? = some n ∧ n.k = 2 ∧ n.kids = (ts.filter fun u => decide (upT u.p = [])).map (kdT ino)
  len : ts.length ≤ 16384
/-- a name more -/
def wst (ino : Tx → Nat) (s : Wk) (t : Tp Tx) : Wk := match s.at_ (ino t.o) with
  | some j => addF s j t.p
  | none => addN s (ino t.o) t.p
def s0 : Wk := addN ⟨[], []⟩ 0 []
def St (ts : List (Tp Tx)) (ino : Tx → Nat) (k : Nat) : Wk := (ts.take k).foldl (wst ino) s0
theorem take_succ' {α : Type} {l : List α} {k : Nat} {t : α} (h : l[k]? = some t) : l.take (k + 1) = l.take k ++ [t] := by
  have hk := (List.getElem?_eq_some_iff.1 h).1
  rw [List.take_add_one, h]; rfl
theorem drop_at {α : Type} {l : List α} {k : Nat} {t : α} (h : l[k]? = some t) : l.drop k = t :: l.drop (k + 1) := by
  obtain ⟨hk, e⟩ := List.getElem?_eq_some_iff.1 h
  rw [List.drop_eq_getElem_cons hk, e]
theorem St_next {ts : List (Tp Tx)} {ino : Tx → Nat} {k : Nat} {t : Tp Tx} (h : ts[k]? = some t) : St ts ino (k + 1) = wst ino (St ts ino k) t := by
  unfold St
  rw [take_succ' h, List.foldl_append]; rfl
theorem mem_take_iff {α : Type} {l : List α} {k : Nat} {x : α} : x ∈ l.take k ↔ ∃ i, i < k ∧ l[i]? = some x := by
  rw [List.mem_iff_getElem?]
  constructor
  · rintro ⟨i, hi⟩
    rw [List.getElem?_take] at hi
    split at hi
    · exact ⟨i, by assumption, hi⟩
    · cases hi
  · rintro ⟨i, hi, e⟩
    exact ⟨i, by rw [List.getElem?_take, if_pos hi]; exact e⟩
theorem Wt.lt {ts : List (Tp Tx)} {ns : List No} {ino : Tx → Nat} (W : Wt ts ns ino) {i j : Nat} {a b : Tp Tx} (ha : ts[i]? = some a) (hb : ts[j]? = some b) (h : i < j) : plt a.p b.p := by
  obtain ⟨hi, ea⟩ := List.getElem?_eq_some_iff.1 ha
  obtain ⟨hj, eb⟩ := List.getElem?_eq_some_iff.1 hb
  have := List.pairwise_iff_getElem.1 W.srt i j hi hj h
  rwa [ea, eb] at this
theorem Wt.once {ts : List (Tp Tx)} {ns : List No} {ino : Tx → Nat} (W : Wt ts ns ino) {i j : Nat} {a b : Tp Tx} (ha : ts[i]? = some a) (hb : ts[j]? = some b) (h : a.p = b.p) : i = j := by
  rcases Nat.lt_trichotomy i j with k | k | k
  · have := W.lt ha hb k; rw [h] at this; exact absurd this (plt_irrefl _)
  · exact k
  · have := W.lt hb ha k; rw [h] at this; exact absurd this (plt_irrefl _)
theorem Wt.behind {ts : List (Tp Tx)} {ns : List No} {ino : Tx → Nat} (W : Wt ts ns ino) {i j : Nat} {a b : Tp Tx} (ha : ts[i]? = some a) (hb : ts[j]? = some b) (h : plt a.p b.p) : i < j := by
  rcases Nat.lt_trichotomy i j with k | k | k
  · exact k
  · subst k
    rw [ha] at hb
    injection hb with hb
    subst hb
    exact absurd h (plt_irrefl _)
  · exact absurd (W.lt hb ha k) (plt_asymm h)
/-- what is in a folder comes behind it -/
theorem Wt.up_lt {ts : List (Tp Tx)} {ns : List No} {ino : Tx → Nat} (W : Wt ts ns ino) {a : Tp Tx} (ha : a ∈ ts) (h : upT a.p ≠ []) : plt (upT a.p) a.p := by
  rcases W.parts a ha with ⟨e, -⟩ | ⟨e, -⟩
  · exact absurd e h
  · unfold plt; rw [← e]; exact ord_snoc _ _
end Go.Proofs.YtbpoealcaogjpaaGreatDoor

namespace Go.Proofs.YtbpoealcaogjpaaGreatDoor
set_option linter.unusedVariables false
set_option linter.unusedSimpArgs false

def leT (ts : List (Tp Tx)) (ino : Tx → Nat) (t : Tp Tx) : Le := ⟨t.p, if fstN ts t.o = t.p then .inl (ino t.o) else .inr (fstN ts t.o)⟩
/-- what holds when k names are listed -/
structure Wi (ts : List (Tp Tx)) (n : Nat) (ino : Tx → Nat) (k : Nat) (s : Wk) : Prop where
  ok : s.ok n
  list : s.list = ⟨[], .inl 0⟩ :: (ts.take k).map (leT ts ino)
  new : ∀ u ∈ ts, s.at_ (ino u.o) = none ↔ ∀ v ∈ ts.take k, v.o ≠ u.o
  old : ∀ u ∈ ts, ∀ j, s.at_ (ino u.o) = some j → (s.list[j]?.map Le.path).getD [] = fstN ts u.o
theorem fst_new {ts : List (Tp Tx)} {k : Nat} {t : Tp Tx} (h : ts[k]? = some t) (hn : ∀ v ∈ ts.take k, v.o ≠ t.o) : fstN ts t.o = t.p := by
  unfold fstN
  rw [← List.take_append_drop k ts, List.find?_append, List.find?_eq_none.2 (fun v hv => by simpa using hn v hv), drop_at h]
  simp
theorem fst_old {ts : List (Tp Tx)} {k : Nat} {o : Tx} (hn : ∃ v ∈ ts.take k, v.o = o) : ∃ u ∈ ts.take k, fstN ts o = u.p := by
  unfold fstN
  cases hf : (ts.take k).find? (fun t => decide (t.o = o)) with
  | none =>
    obtain ⟨v, hv, e⟩ := hn
    exact absurd (List.find?_eq_none.1 hf v hv) (by simp [e])
  | some u =>
    refine ⟨u, List.mem_of_find?_eq_some hf, ?_⟩
    rw [← List.take_append_drop k ts, List.find?_append, hf]
    rfl
theorem at_addN {s : Wk} {i j : Nat} {p : Tx} : (addN s i p).at_ j = if i = j then some s.list.length else s.at_ j := by
  unfold Wk.at_ addN
  simp only [List.find?_cons]
  by_cases h : i = j
  · rw [if_pos h]; simp [h]
  · rw [if_neg h]; simp [h]
theorem at_addF {s : Wk} {f j : Nat} {p : Tx} : (addF s f p).at_ j = s.at_ j := rfl
theorem Wi.start {ts : List (Tp Tx)} {ns : List No} {ino : Tx → Nat} (W : Wt ts ns ino) : Wi ts ns.length ino 0 (St ts ino 0) := by
  obtain ⟨n, hn, -⟩ := W.root
  have h0 := (List.getElem?_eq_some_iff.1 hn).1
  refine ⟨⟨?_, ?_, ?_, ?_, ?_⟩, rfl, fun u hu => ?_, fun u hu j e => ?_⟩
  · show [0].Nodup; simp
  · intro x hx
    have hx : x ∈ [(0, 0)] := hx
    rw [List.mem_singleton] at hx
    subst hx
    exact ⟨h0, by show 0 < 1; omega⟩
  · show 1 ≤ 16385; omega
  · intro x hx
    have hx : x ∈ [(⟨[], .inl 0⟩ : Le)] := hx
    rw [List.mem_singleton] at hx
    subst hx
    exact Nat.zero_le _
  · intro x hx q hq
    have hx : x ∈ [(⟨[], .inl 0⟩ : Le)] := hx
    rw [List.mem_singleton] at hx
    subst hx
    cases hq
  · have := W.ino0 u hu
    have e : (St ts ino 0).at_ (ino u.o) = none := by
      show (addN ⟨[], []⟩ 0 []).at_ (ino u.o) = none
      rw [at_addN, if_neg (by omega)]; rfl
    rw [e]
    simp
  · have := W.ino0 u hu
    have e2 : (St ts ino 0).at_ (ino u.o) = none := by
      show (addN ⟨[], []⟩ 0 []).at_ (ino u.o) = none
      rw [at_addN, if_neg (by omega)]; rfl
    rw [e2] at e
    cases e
theorem Wi.next {ts : List (Tp Tx)} {ns : List No} {ino : Tx → Nat} (W : Wt ts ns ino) {k : Nat} {t : Tp Tx} (h : ts[k]? = some t) {s : Wk} (I : Wi ts ns.length ino k s) : Wi ts ns.length ino (k + 1) (wst ino s t) := by
  have htm : t ∈ ts := List.mem_of_getElem? h
  have hk := (List.getElem?_eq_some_iff.1 h).1
  have hl : s.list.length = k + 1 := by rw [I.list, List.length_cons, List.length_map, List.length_take]; omega
  have hl2 : s.list.length ≤ 16384 := by have := W.len; omega
  obtain ⟨n, hn, -, -, -⟩ := W.nd t htm
  have hi := (List.getElem?_eq_some_iff.1 hn).1
  unfold wst
  cases ha : s.at_ (ino t.o) with
  | none =>
    simp only
    have hnew := (I.new t htm).1 ha
    have hf := fst_new h hnew
    refine ⟨I.ok.addN hi (W.path t htm).2.1 hl2 ha, ?_, fun u hu => ?_, fun u hu j e => ?_⟩
    · show s.list ++ [_] = _
      rw [I.list, take_succ' h, List.map_append]
      show _ = _ :: (_ ++ [leT ts ino t])
      unfold leT
      rw [if_pos hf]; rfl
    · rw [at_addN, take_succ' h]
      by_cases e : ino t.o = ino u.o
      · rw [if_pos e]
        have eo := W.ino1 t htm u hu e
        constructor
        · intro c; cases c
        · intro c; exact absurd eo (c t (by simp))
      · rw [if_neg e, I.new u hu]
        constructor
        · intro c v hv
          rcases List.mem_append.1 hv with hv | hv
          · exact c v hv
          · rw [List.mem_singleton] at hv; subst hv; exact fun eo => e (by rw [eo])
        · intro c v hv; exact c v (by simp [hv])
    · rw [at_addN] at e
      show ((s.list ++ [_])[j]?.map Le.path).getD [] = _
      by_cases e2 : ino t.o = ino u.o
      · rw [if_pos e2] at e
        injection e with e
        subst e
        rw [List.getElem?_append_right (Nat.le_refl _), Nat.sub_self, ← W.ino1 t htm u hu e2, hf]
        rfl
      · rw [if_neg e2] at e
        rw [List.getElem?_append_left (I.ok.at_lt e)]
        exact I.old u hu j e
  | some f =>
    simp only
    have hex : ∃ v ∈ ts.take k, v.o = t.o := by
      apply Classical.byContradiction
      intro c
      have := (I.new t htm).2 fun v hv e => c ⟨v, hv, e⟩
      rw [ha] at this
      cases this
    have hfo := I.old t htm f ha
    have hne : fstN ts t.o ≠ t.p := by
      obtain ⟨u, hu, e⟩ := fst_old hex
      obtain ⟨i, hi, hiu⟩ := mem_take_iff.1 hu
      intro c
      have := W.once hiu h (by rw [← e, c])
      omega
    refine ⟨I.ok.addF (W.path t htm).2.1 hl2, ?_, fun u hu => ?_, fun u hu j e => ?_⟩
    · show s.list ++ [_] = _
      rw [hfo]
      rw [I.list, take_succ' h, List.map_append]
      show _ = _ :: (_ ++ [leT ts ino t])
      unfold leT
      rw [if_neg hne]; rfl
    · rw [at_addF, I.new u hu, take_succ' h]
      constructor
      · intro c v hv
        rcases List.mem_append.1 hv with hv | hv
        · exact c v hv
        · rw [List.mem_singleton] at hv
          subst hv
          obtain ⟨v2, hv2, e2⟩ := hex
          rw [← e2]; exact c v2 hv2
      · intro c v hv; exact c v (by simp [hv])
    · rw [at_addF] at e
      show ((s.list ++ [_])[j]?.map Le.path).getD [] = _
      rw [List.getElem?_append_left (I.ok.at_lt e)]
      exact I.old u hu j e
theorem Wi.all {ts : List (Tp Tx)} {ns : List No} {ino : Tx → Nat} (W : Wt ts ns ino) : ∀ k, k ≤ ts.length → Wi ts ns.length ino k (St ts ino k)
  | 0, _ => Wi.start W
  | k + 1, h => by
    have e := List.getElem?_eq_getElem (l := ts) (i := k) (by omega)
    rw [St_next e]
    exact Wi.next W e (Wi.all W k (by omega))
end Go.Proofs.YtbpoealcaogjpaaGreatDoor

namespace Go.Proofs.YtbpoealcaogjpaaGreatDoor
set_option linter.unusedVariables false
set_option linter.unusedSimpArgs false

/-- a node without kids, parent, links -/
def coreN (n : No) : No := { n with kids := [], parent := 0, links := 0 }
def coreAt (ns : List No) (j : Nat) : Option No := (ns[j]?).map coreN
theorem core_modify {ns : List No} {i j : Nat} {f : No → No} (h : ∀ n, coreN (f n) = coreN n) : coreAt (ns.modify i f) j = coreAt ns j := by
  unfold coreAt
  rw [List.getElem?_modify]
  cases e : ns[j]? with
  | none => simp
  | some n =>
    by_cases hij : i = j
    · simp [hij, h]
    · simp [hij]
theorem core_bst {α : Type} [DecidableEq α] (s : Bs α) (t : Tp α) (j : Nat) : coreAt (bst s t).ns j = coreAt (newO s t).ns j := by
  have e1 : ∀ ns i, coreAt (addLink i ns) j = coreAt ns j := fun ns i => core_modify (f := fun n => { n with links := n.links + 1 }) fun _ => rfl
  have e2 : ∀ ns i u, coreAt (setUp i u ns) j = coreAt ns j := fun ns i u => core_modify (f := fun n => { n with parent := (u : Nat) }) fun _ => rfl
  have e3 : ∀ ns i c, coreAt (addKid i c ns) j = coreAt ns j := fun ns i c => core_modify (f := fun n => { n with kids := n.kids ++ [c] }) fun _ => rfl
  unfold bst
  simp only
  split
  · rw [e1, e2, e3]
  · rw [e1, e3]
theorem core_new {α : Type} [DecidableEq α] {s : Bs α} {t : Tp α} (hl : s.ns.length = s.os.length + 1) {j : Nat} (hj : j ≤ s.os.length) : coreAt (newO s t).ns j = coreAt s.ns j := by
  unfold newO
  split
  · rfl
  · unfold coreAt
    rw [List.getElem?_append_left (by omega)]
theorem idx_lt {α : Type} {os : List (α × Option Tx)} {p : (α × Option Tx) → Bool} (h : ∃ x ∈ os, p x = true) : ∃ j, os.findIdx? p = some j ∧ j < os.length := by
  cases e : os.findIdx? p with
  | none =>
    rw [List.findIdx?_eq_none_iff] at e
    obtain ⟨x, hx, k⟩ := h
    have := e x hx
    rw [k] at this
    cases this
  | some j =>
    refine ⟨j, rfl, ?_⟩
    rw [List.findIdx?_eq_some_iff_getElem] at e
    exact e.1
theorem inoOf_le {α : Type} [DecidableEq α] {os : List (α × Option Tx)} {o : α} (h : ∃ x ∈ os, x.1 = o) : 1 ≤ inoOf os o ∧ inoOf os o ≤ os.length := by
  obtain ⟨x, hx, k⟩ := h
  obtain ⟨j, e, hj⟩ := idx_lt (p := fun x => decide (x.1 = o)) ⟨x, hx, decide_eq_true k⟩
  unfold inoOf
  rw [e]
  simp only
  omega
/-- each name's node bears the fields that were laid for its owner -/
structure Kc {α : Type} [DecidableEq α] (root : No) (us : List (Tp α)) (s : Bs α) : Prop where
  met : Met us s.os
  len : s.ns.length = s.os.length + 1
  root : coreAt s.ns 0 = some (coreN root)
  core : ∀ u ∈ us, coreAt s.ns (inoOf s.os u.o) = some (coreN u.nd)
theorem Kc.step {α : Type} [DecidableEq α] {root : No} {us : List (Tp α)} {s : Bs α} (h : Kc root us s) (t : Tp α) (hs : ∀ u ∈ us, u.o = t.o → u.nd = t.nd) : Kc root (us ++ [t]) (bst s t) := by
  have hso : (bst s t).os = (newO s t).os := rfl
  obtain ⟨q, hq, -⟩ := newO_os s t
  refine ⟨by rw [hso]; exact h.met.step t, by rw [len_bst, hso]; exact len_newO t h.len, ?_, fun u hu => ?_⟩
  · rw [core_bst, core_new h.len (Nat.zero_le _)]
    exact h.root
  · rw [core_bst, hso]
    have old : ∀ v ∈ us, coreAt (newO s t).ns (inoOf (newO s t).os v.o) = some (coreN v.nd) := by
      intro v hv
      have hm := h.met.has v hv
      rw [hq, inoOf_app hm, core_new h.len (inoOf_le hm).2]
      exact h.core v hv
    rcases List.mem_append.1 hu with k | k
    · exact old u k
    · rw [List.mem_singleton.1 k]
      by_cases hin : s.os.any (fun x => decide (x.1 = t.o)) = true
      · obtain ⟨x, hx, e⟩ := List.any_eq_true.1 hin
        obtain ⟨v, hv, e2⟩ := h.met.own x hx
        have e3 : v.o = t.o := by rw [← e2]; exact of_decide_eq_true e
        have := old v hv
        rw [e3, hs v hv e3] at this
        exact this
      · have e1 : (newO s t).os = s.os ++ [(t.o, if t.dir = true then some t.p else none)] := by unfold newO; rw [if_neg hin]
        have e2 : (newO s t).ns = s.ns ++ [{ t.nd with links := if t.dir = true then 2 else 0 }] := by unfold newO; rw [if_neg hin]
        have e3 : inoOf (newO s t).os t.o = s.os.length + 1 := by
          unfold inoOf
          rw [e1, List.findIdx?_append]
          have : s.os.findIdx? (fun x => decide (x.1 = t.o)) = none := by
            rw [List.findIdx?_eq_none_iff]
            intro x hx
            cases hc : decide (x.1 = t.o) with
            | false => rfl
            | true => exact absurd (List.any_eq_true.2 ⟨x, hx, hc⟩) hin
          rw [this]
          simp
        rw [e3, e2]
        unfold coreAt
        rw [List.getElem?_append_right (by rw [h.len]; omega), h.len]
        simp [coreN]
end Go.Proofs.YtbpoealcaogjpaaGreatDoor

namespace Go.Proofs.YtbpoealcaogjpaaGreatDoor
set_option linter.unusedVariables false
set_option linter.unusedSimpArgs false

/-- an entry that is listed -/
def enL (ns : List No) (x : Le) : En := match x.src with
  | .inl i => enOf x.path ((ns[i]?).getD ⟨0, 0, 0, 0, 0, 0, [], [], 0, [], [], 0, 0⟩)
  | .inr q => hrd x.path q
end Go.Proofs.YtbpoealcaogjpaaGreatDoor

namespace Go.Proofs.YtbpoealcaogjpaaGreatDoor
open Go.RowKit
set_option maxRecDepth 100000
open Go.Maps (Keyed)
set_option linter.unusedSimpArgs false
set_option linter.unusedVariables false

/-- what else is asked of a node -/
structure Ncp (N : NoV) : Prop where
  d : N.dl ≤ N.dc
  a : N.al ≤ N.ac
  t : N.target.size ≤ 9223372036854775807
  n : ∀ A ∈ N.attrs, A.n.size ≤ 9223372036854775807
  k : ∀ k ∈ N.kids, k.n.length ≤ 1000000
def nz : NoV := ⟨0, 0, 0, 0, 0, 0, none, 0, 0, [], tx [], 0, none, 0, 0, [], none, 0, 0, [], 0, 0⟩
def hrv (p q : ByteArray) : EnV := ⟨p, 6, 0, 0, 0, 0, 0, none, 0, 0, [], q, 0, none, 0, 0, []⟩
/-- an entry that is listed, in the tree's memory -/
def evL (ns : List NoV) (x : Le) : EnV := match x.src with
  | .inl i => ((ns[i]?).getD nz).ent (tx x.path)
  | .inr q => hrv (tx x.path) (tx q)
theorem ent_en (N : NoV) (p : Tx) : (N.ent (tx p)).en = enOf p N.no := by
  unfold NoV.ent EnV.en enOf NoV.no
  simp only [tx_tl]
theorem evL_en (ns : List NoV) (x : Le) : (evL ns x).en = enL (nos ns) x := by
  unfold evL enL
  cases hx : x.src with
  | inl i =>
    simp only [ent_en]
    unfold nos
    rw [List.getElem?_map]
    cases hn : ns[i]? with
    | none =>
      simp only [Option.getD_none, Option.map_none]
      unfold nz NoV.no
      simp only [tx_tl]; rfl
    | some N => rfl
  | inr q =>
    show (hrv (tx x.path) (tx q)).en = hrd x.path q
    unfold hrv hrd EnV.en
    simp only [tx_tl]; rfl
theorem evL_path (ns : List NoV) (x : Le) : (evL ns x).path = tx x.path := by
  unfold evL
  split <;> rfl
theorem row_none0 (w : World) : Row w none 0 [] := row_zero none
theorem ats_none (w : World) : Ats w none 0 [] := ⟨rfl, Nat.zero_le _, fun h => absurd h (by omega)⟩
theorem evL_ok {w : World} {a : Option Addr} {n : Nat} {ns : List NoV} (h : Nos w a n ns) (hc : ∀ N ∈ ns, Ncp N) (x : Le) : (evL ns x).ok w := by
  unfold evL
  split
  · rename_i i _
    cases hn : ns[i]? with
    | none => exact ⟨row_none0 w, Nat.le_refl _, ats_none w, Nat.le_refl _⟩
    | some N =>
      have hi := (List.getElem?_eq_some_iff.1 hn).1
      obtain ⟨b, off, -, k⟩ := h.at_ (by rw [← h.len_eq]; omega)
      have o := (k i N hn).ok
      have c := hc N (List.mem_of_getElem? hn)
      exact ⟨o.row, c.d, o.ats, c.a⟩
  · exact ⟨row_none0 w, Nat.le_refl _, ats_none w, Nat.le_refl _⟩
theorem evL_sz {ns : List NoV} (hc : ∀ N ∈ ns, Ncp N) {l : List Le} (hp : ∀ x ∈ l, x.path.length ≤ 4096) (hq : ∀ x ∈ l, ∀ q, x.src = .inr q → q.length ≤ 4096) : Szs (l.map (evL ns)) := by
  intro X hX
  obtain ⟨x, hx, rfl⟩ := List.mem_map.1 hX
  refine ⟨by rw [evL_path, tx_size]; have := hp x hx; omega, ?_⟩
  unfold evL
  cases hs : x.src with
  | inl i =>
    simp only
    cases hn : ns[i]? with
    | none => exact ⟨by show (tx []).size ≤ _; rw [tx_size]; simp, fun A hA => by cases hA⟩
    | some N =>
      have c := hc N (List.mem_of_getElem? hn)
      exact ⟨c.t, c.n⟩
  | inr q => exact ⟨by show (tx q).size ≤ _; rw [tx_size]; have := hq x hx q hs; omega, fun A hA => by cases hA⟩
/-- what was met, as the map has it -/
def metF (s : Wk) : Lit → Option Value := fun k => match k with
  | .int .i64 i => if 0 ≤ i then (s.at_ i.toNat).map (fun (j : Nat) => Value.int .i64 j) else none
  | _ => none
theorem metF_nat (s : Wk) (i : Nat) : metF s (.int .i64 (i : Int)) = (s.at_ i).map (fun (j : Nat) => Value.int .i64 j) := by
  show (if (0 : Int) ≤ (i : Int) then (s.at_ (i : Int).toNat).map (fun (j : Nat) => Value.int .i64 j) else none) = _
  rw [if_pos (Int.natCast_nonneg _), Int.toNat_natCast]
theorem metF_upd (s : Wk) (i : Nat) (p : Tx) (hk : WideAt.IsKeyLit (.int .i64 (i : Int))) : updF (metF s) (.int .i64 (i : Int)) (.int .i64 (s.list.length : Int)) = metF (addN s i p) := by
  funext x
  unfold updF
  by_cases hx : x = .int .i64 (i : Int)
  · subst hx
    rw [if_pos (WideAt.sameKey_self hk), metF_nat]
    have e := at_addN (s := s) (i := i) (j := i) (p := p)
    rw [if_pos rfl] at e
    rw [e]; rfl
  · rw [Maps.sameKey_ne hx, if_neg Bool.false_ne_true]
    unfold metF
    split
    · rename_i j
      by_cases hj : 0 ≤ j
      · rw [if_pos hj, if_pos hj]
        have e := at_addN (s := s) (i := i) (j := j.toNat) (p := p)
        rw [if_neg (fun c => hx (by rw [c, Int.toNat_of_nonneg hj]))] at e
        rw [e]
      · rw [if_neg hj, if_neg hj]
    · rfl
theorem metF_none : metF ⟨[], []⟩ = fun _ => none := by
  funext x
  unfold metF
  split
  · split <;> rfl
  · rfl
theorem key3 : Keyed Tryz.prog 3 := Maps.int_keyed Tryz.underlying3
theorem keyi (i : Nat) (h : i ≤ maxLen) : keyOf Tryz.prog 3 (.int .i64 (i : Int)) = some (.int .i64 (i : Int)) := by
  have e : ∀ v, keyOf Tryz.prog 3 v = mapKey Tryz.prog 3 v := fun v => by simp [keyOf, Tryz.underlying3]
  rw [e]
  unfold maxLen at h
  have hw : (Lit.int .i64 (i : Int)).wf = true := by
    simp [Lit.wf, IntKind.wrap, IntKind.bits, IntKind.signed, IntKind.min, IntKind.max]
    omega
  simp [mapKey, Tryz.underlying3, hw]
/-- the walker in memory: w is the world ahead of it -/
structure Wm (w W : World) (gw gm : Nat) (na : Option Addr) (n nc : Nat) (ns : List NoV) (s : Wk) (va : Option Addr) (vc : Nat) : Prop where
  eo : Eo w W w.heap.size (.slice va s.list.length vc) (s.list.map (evL ns))
  bx : Bx W gw 93 [.slice na n nc, .map (some gm), .slice va s.list.length vc]
  gwl : w.heap.size ≤ gw
  gml : w.heap.size ≤ gm
  map : MapF W 3 gm s.met.length (metF s)
theorem Wm.kept {w W W' : World} {gw gm n nc vc : Nat} {na va : Option Addr} {ns : List NoV} {s : Wk} (h : Wm w W gw gm na n nc ns s va vc) (g : W.grownBy W' none) : Wm w W' gw gm na n nc ns s va vc :=
  ⟨h.eo.kept g, h.bx.kept g, h.gwl, h.gml, h.map.kept g (by simp)⟩
theorem map_blk {W : World} {k gm n : Nat} {f : Lit → Option Value} (h : MapF W k gm n f) : ∃ es clock, W.heap[gm]? = some (.map es clock) := by
  obtain ⟨D, ⟨es, clock, hb, r⟩, h2⟩ := h
  exact ⟨es, clock, hb⟩
theorem map_ne_own {W : World} {k gm n b e s m : Nat} {f : Lit → Option Value} {v : Value} {xs : List Value} (h : MapF W k gm n f) (ho : W.ownsRow b e s v m xs) : some gm ≠ v.ownBlock := by
  obtain ⟨es, clock, hb⟩ := map_blk h
  rcases ho.2 with ⟨h0, _⟩ | ⟨q, cap, cur, hv, _, hq, _⟩
  · rw [h0]; intro c; cases c
  · rw [hv]
    intro c
    have c : some gm = some q := c
    injection c with c
    rw [← c, hb] at hq
    cases hq
theorem map_ne_bx {W : World} {k gm n g T : Nat} {f : Lit → Option Value} {cs : List Value} (h : MapF W k gm n f) (ho : Bx W g T cs) : gm ≠ g := by
  obtain ⟨es, clock, hb⟩ := map_blk h
  intro c
  rw [c, ho.blk] at hb
  cases hb
/-- a number is met -/
theorem Wm.met {w W W' : World} {gw gm n nc vc : Nat} {na va : Option Addr} {ns : List NoV} {s : Wk} {i : Nat} {p : Tx} (h : Wm w W gw gm na n nc ns s va vc) (hk : WideAt.IsKeyLit (.int .i64 (i : Int))) (hm : MapF W' 3 gm (s.met.length + 1) (updF (metF s) (.int .i64 (i : Int)) (.int .i64 (s.list.length : Int)))) (g : W.grownBy W' (some gm)) :
    Eo w W' w.heap.size (.slice va s.list.length vc) (s.list.map (evL ns)) ∧ Bx W' gw 93 [.slice na n nc, .map (some gm), .slice va s.list.length vc] ∧ MapF W' 3 gm (addN s i p).met.length (metF (addN s i p)) := by
  have hne := map_ne_own h.map h.eo.own
  refine ⟨⟨grown_new h.eo.gr g h.gml, h.eo.low, h.eo.own.kept g (Or.inr (fun c => hne c.symm)), h.eo.each⟩, h.bx.but g (fun c => map_ne_bx h.map h.bx (by injection c with c; exact c.symm)), ?_⟩
  rw [← metF_upd s i p hk]
  exact hm
/-- an entry more -/
theorem eo_add {w W W' : World} {v v' : Value} {l : List EnV} {X : EnV} (h : Eo w W w.heap.size v l) (hX : X.ok w) (ho : W'.ownsRow w.heap.size 44 11 v' (l.length + 1) (l.flatMap evc ++ evc X)) (g : W.grownBy W' v.ownBlock) : Eo w W' w.heap.size v' (l ++ [X]) := by
  refine ⟨grown_ownB h.gr h.own g h.low, h.low, ?_, fun Y hY => ?_⟩
  · have e : (l ++ [X]).flatMap evc = l.flatMap evc ++ evc X := by rw [List.flatMap_append]; simp
    rw [List.length_append, e]
    exact ho
  · rcases List.mem_append.1 hY with hY | hY
    · exact h.each Y hY
    · obtain rfl : Y = X := by simpa using hY
      exact hX
/-- the walker's list is laid anew -/
theorem eo_set {w W : World} {gw : Nat} {v : Value} {l : List EnV} {cs : List Value} (h : Eo w W w.heap.size v l) (b : Bx W gw 93 cs) (hg : w.heap.size ≤ gw) (i : Nat) (u : Value) : Eo w (W.setCell ⟨gw, i, none⟩ u) w.heap.size v l := by
  have g := grown_set W gw i u
  exact ⟨grown_new h.gr g hg, h.low, h.own.kept g (Or.inr fun c => bx_ne b h.own (by decide) c.symm), h.each⟩
def pan : List PanicEntry := [{ v := .iface 25 (.int .i64 1), recovered := false }]
theorem pnotree_any (w : World) : Calls Tryz.prog 60 #[] w fun e w' => e = .panicked pan ∧ w' = w := by
  go_enter Tryz.func60, Tryz.ntmps60
  go_wp2
  exact ⟨rfl, rfl, rfl⟩
end Go.Proofs.YtbpoealcaogjpaaGreatDoor

namespace Go.Proofs.YtbpoealcaogjpaaGreatDoor
open Go.RowKit
set_option maxRecDepth 100000
set_option linter.unusedSimpArgs false
set_option linter.unusedVariables false

/-- what meet and enter answer -/
def MtPost (w : World) (gw gm : Nat) (na : Option Addr) (n nc : Nat) (ns : List NoV) (o : Option Wk) (e : Ending) (W' : World) : Prop :=
  (o = none ∧ e = .panicked pan ∧ w.grownBy W' none) ∨ ∃ s' va vc, o = some s' ∧ e = .returned (.tuple #[]) ∧ Wm w W' gw gm na n nc ns s' va vc
/-- meet, with so much fuel -/
def MeetC (w : World) (gw gm : Nat) (na : Option Addr) (n nc : Nat) (ns : List NoV) (f : Nat) : Prop := ∀ (s : Wk) (i : Int) (p : ByteArray) (W : World) (va : Option Addr) (vc : Nat), Wm w W gw gm na n nc ns s va vc → s.ok n → p.size ≤ 2000000 → n - s.met.length < f →
    Calls Tryz.prog 59 #[.pointer (some ⟨gw, 0, none⟩), .int .i64 i, .string p] W (MtPost w gw gm na n nc ns (meetP (nos ns) f s i p.toList))
theorem vld_len {p : Tx} (h : vld p = true) : p.length ≤ 255 := by
  unfold vld at h
  simp only [Bool.and_eq_true, decide_eq_true_iff] at h
  exact h.1.1.1.2
theorem kidsP_drop {m : Wk → Int → Tx → Option Wk} {a : Tx} {ks : List Kd} {k : Nat} {K : Kd} (h : ks[k]? = some K) (s : Wk) : kidsP m a (ks.drop k) s = if vld K.n = true then (match m s K.i (a ++ K.n) with
    | none => none
    | some s' => kidsP m a (ks.drop (k + 1)) s') else none := by
  rw [drop_at h]
  rfl
theorem app_tx {p : ByteArray} {q : Tx} : (p ++ tx q).toList = p.toList ++ q := by
  rw [ByteArray.toList_eq, ByteArray.toList_eq]
  simp [tx]
theorem wrapk {k : Nat} (h : k < 9223372036854775807) : wrap64 ((k : Int) + 1) = ((k + 1 : Nat) : Int) := by
  unfold wrap64
  omega
set_option maxHeartbeats 8000000 in
theorem penter_any (w : World) (gw gm : Nat) (na : Option Addr) (n nc : Nat) (ns : List NoV) (f : Nat) (M : MeetC w gw gm na n nc ns f) (hns : ns.length = n) (N : NoV) (hk : Kds w N.ka N.kl N.kids) (hc : Ncp N) (s : Wk) (p : ByteArray) (W : World) (va : Option Addr) (vc : Nat)
    (h : Wm w W gw gm na n nc ns s va vc) (hok : s.ok n) (hp : p.size ≤ 4096) (hf : n - s.met.length < f) :
    Calls Tryz.prog 88 #[.pointer (some ⟨gw, 0, none⟩), N.val, .string p] W (MtPost w gw gm na n nc ns (kidsP (meetP (nos ns) f) (ahd p.toList) N.kids s)) := by
  have HK : Hid _ := And.intro hk (And.intro hk.len_eq hc.k)
  have HM : Hid _ := M
  have HW : Hid _ := And.intro h (And.intro hok hf)
  have HN : Hid _ := hns
  clear hk hc M h hok hf hns
  obtain ⟨k, mode, uid, gid, time, size, da, dl, dc, data, target, dev, aa, al, ac, attrs, ka, kl, kc, kids, parent, links⟩ := N
  simp only [NoV.val] at HK ⊢
  obtain ⟨pa, hpa⟩ : ∃ pa : Tx, pa = ahd p.toList := ⟨_, rfl⟩
  rw [← hpa]
  have hpl : pa.length ≤ 4097 := by
    rw [hpa]; unfold ahd
    split
    · simp
    · rw [List.length_append, tl_len]; simp; omega
  have HPA : Hid _ := And.intro hpa hpl
  have e47 : ∀ q : ByteArray, q ++ (⟨#[47]⟩ : ByteArray) = tx (q.toList ++ [47]) := fun q => by
    apply tl_inj
    rw [tx_tl]
    exact app_tx (q := [47])
  cases hb : (p.toList == []) with
  | true =>
    have hp0 : p.toList = [] := eq_of_beq hb
    have hpe : pa = [] := by rw [hpa, hp0]; rfl
    clear hpa hpl hpe
    go_enter Tryz.func88, Tryz.ntmps88
    go_wp2_with fail
    clear e47
    go_loopw [16] (fun v16 wr => ∃ k : Nat, k ≤ kl ∧ v16 = .int .i64 k ∧ Hid (∃ s' va' vc', kidsP (meetP (nos ns) f) pa kids s = kidsP (meetP (nos ns) f) pa (kids.drop k) s' ∧ Wm w wr gw gm na n nc ns s' va' vc' ∧ s'.ok n ∧ n - s'.met.length < f)) (fun v16 _ => kl - (intOf v16).toNat)
    case atStart => exact ⟨0, Nat.zero_le _, rfl, s, va, vc, by rw [List.drop_zero], HW.out.1.kept (World.grownBy_alloc _ _ none), HW.out.2⟩
    case round =>
      clear HW
      obtain ⟨k, hk, rfl, HI⟩ := hrel
      obtain ⟨s1, va1, vc1, e1, hm1, ho1, hf1⟩ := HI.out
      clear HI
      by_cases hlt : k < kl
      · obtain ⟨K, hK⟩ : ∃ K, kids[k]? = some K := ⟨_, List.getElem?_eq_getElem (by rw [HK.out.2.1]; exact hlt)⟩
        obtain ⟨b, off, rfl, hat⟩ := HK.out.1.at_ (by omega)
        have y0 := cell_grown (hat k K hK).c0 hm1.eo.gr
        have y1 := cell_grown (hat k K hK).c1 hm1.eo.gr
        have hkn := HK.out.2.2 K (List.mem_of_getElem? hK)
        rw [kidsP_drop hK] at e1
        have HE : Hid _ := e1
        obtain ⟨kn, ki⟩ := K
        simp only at y0 y1 hkn HE
        have hlti : (k : Int) < (kl : Int) := by omega
        have gA := World.grownBy_alloc wr (.cells #[.string (tx kn), .int .i64 ki] 56) none
        have HM1 : Hid _ := And.intro (hm1.kept gA) (And.intro ho1 hf1)
        have bK := Bx.new wr 56 [.string (tx kn), .int .i64 ki]
        have c0 := bK.c 0
        have c1 := bK.c 1
        clear bK
        clear hm1 ho1 hf1 gA e1 hat hK
        go_wp2_with fail
        generalize wr.alloc (.cells #[.string (tx kn), .int .i64 ki] 56) = WA at *
        refine (pvalid_eq (tx kn) _ (by rw [tx_size]; exact hkn)).mono ?_
        rintro e W2 ⟨rfl, rfl⟩
        rw [tx_tl]
        cases hv : vld kn with
        | false =>
          rw [hv, if_neg Bool.false_ne_true] at HE
          go_wp2_with fail
          refine (pnotree_any _).mono ?_
          rintro e W3 ⟨rfl, rfl⟩
          go_wp2_with fail
          exact ⟨rfl, Or.inl ⟨HE.out, rfl, HM1.out.1.eo.gr⟩⟩
        | true =>
          rw [hv, if_pos rfl] at HE
          have hpq : ((⟨#[]⟩ : ByteArray) ++ tx kn).toList = pa ++ kn := by rw [app_tx, HPA.out.1]; rw [hp0]; show (tx []).toList ++ kn = _; rw [tx_tl]; rfl
          have hvl := vld_len hv
          have hsz : ((⟨#[]⟩ : ByteArray) ++ tx kn).size ≤ 2000000 := by rw [← tl_len, hpq, List.length_append]; have := HPA.out.2; omega
          have hmc := HM.out s1 ki ((⟨#[]⟩ : ByteArray) ++ tx kn) WA va1 vc1 HM1.out.1 HM1.out.2.1 hsz HM1.out.2.2
          rw [hpq] at hmc
          have hs1 : ¬ 9223372036854775807 < (tx kn).size := by rw [tx_size]; omega
          cases hq : meetP (nos ns) f s1 ki (pa ++ kn) with
          | none =>
            rw [hq] at HE hmc
            simp only at HE
            go_wp2_with fail
            refine hmc.mono ?_
            rintro e W3 (⟨-, rfl, hg⟩ | ⟨s2, va2, vc2, ho, -⟩)
            · go_wp2_with fail
              exact ⟨rfl, Or.inl ⟨HE.out, rfl, hg⟩⟩
            · cases ho
          | some s2 =>
            rw [hq] at HE hmc
            simp only at HE
            have hok2 := meetP_ok f s1 ki (pa ++ kn) s2 (by rw [nos_len, HN.out]; exact HM1.out.2.1) hq
            go_wp2_with fail
            refine hmc.mono ?_
            rintro e W3 (⟨ho, -⟩ | ⟨s3, va2, vc2, ho, rfl, hm2⟩)
            · cases ho
            · injection ho with ho
              subst ho
              have HM2 : Hid _ := hm2
              clear hm2 hmc
              go_wp2_with fail
              have hf2 := HM1.out.2.2
              have hkl := HK.out.1.le
              unfold maxLen at hkl
              have hk1 : wrap64 ((k : Int) + 1) = ((k + 1 : Nat) : Int) := wrapk (by omega)
              have hI : Hid (∃ s' va' vc', kidsP (meetP (nos ns) f) pa kids s = kidsP (meetP (nos ns) f) pa (kids.drop (k + 1)) s' ∧ Wm w W3 gw gm na n nc ns s' va' vc' ∧ s'.ok n ∧ n - s'.met.length < f) := by
                refine ⟨s2, va2, vc2, HE.out, HM2.out, ?_, ?_⟩
                · have := hok2.1
                  rw [nos_len, HN.out] at this
                  exact this
                · have := hok2.2
                  omega
              rw [hk1]
              refine ⟨⟨k + 1, hlt, rfl, hI⟩, ?_⟩
              simp only [intOf, Int.toNat_natCast]
              exact Nat.sub_lt_sub_left hlt (Nat.lt_succ_self k)
      · obtain rfl : k = kl := by omega
        have hlti : ¬ (k : Int) < (k : Int) := by omega
        rw [List.drop_eq_nil_of_le (by rw [HK.out.2.1]; exact Nat.le_refl _)] at e1
        have HE : Hid _ := And.intro e1 hm1
        clear e1 hm1 ho1 hf1
        go_wp2_with fail
        go_end0
        exact Or.inr ⟨s1, va1, vc1, HE.out.1, rfl, HE.out.2⟩
  | false =>
    have hp0 : ¬ p.toList = [] := fun e => by rw [e] at hb; simp at hb
    clear hpa hpl
    go_enter Tryz.func88, Tryz.ntmps88
    go_wp2_with fail
    have hql : (tx (p.toList ++ [47])).toList = p.toList ++ [47] := tx_tl _
    generalize tx (p.toList ++ [47]) = q at *
    have HQ : Hid _ := hql
    clear hql
    clear e47
    go_loopw [16] (fun v16 wr => ∃ k : Nat, k ≤ kl ∧ v16 = .int .i64 k ∧ Hid (∃ s' va' vc', kidsP (meetP (nos ns) f) pa kids s = kidsP (meetP (nos ns) f) pa (kids.drop k) s' ∧ Wm w wr gw gm na n nc ns s' va' vc' ∧ s'.ok n ∧ n - s'.met.length < f)) (fun v16 _ => kl - (intOf v16).toNat)
    case atStart => exact ⟨0, Nat.zero_le _, rfl, s, va, vc, by rw [List.drop_zero], HW.out.1.kept (World.grownBy_alloc _ _ none), HW.out.2⟩
    case round =>
      clear HW
      obtain ⟨k, hk, rfl, HI⟩ := hrel
      obtain ⟨s1, va1, vc1, e1, hm1, ho1, hf1⟩ := HI.out
      clear HI
      by_cases hlt : k < kl
      · obtain ⟨K, hK⟩ : ∃ K, kids[k]? = some K := ⟨_, List.getElem?_eq_getElem (by rw [HK.out.2.1]; exact hlt)⟩
        obtain ⟨b, off, rfl, hat⟩ := HK.out.1.at_ (by omega)
        have y0 := cell_grown (hat k K hK).c0 hm1.eo.gr
        have y1 := cell_grown (hat k K hK).c1 hm1.eo.gr
        have hkn := HK.out.2.2 K (List.mem_of_getElem? hK)
        rw [kidsP_drop hK] at e1
        have HE : Hid _ := e1
        obtain ⟨kn, ki⟩ := K
        simp only at y0 y1 hkn HE
        have hlti : (k : Int) < (kl : Int) := by omega
        have gA := World.grownBy_alloc wr (.cells #[.string (tx kn), .int .i64 ki] 56) none
        have HM1 : Hid _ := And.intro (hm1.kept gA) (And.intro ho1 hf1)
        have bK := Bx.new wr 56 [.string (tx kn), .int .i64 ki]
        have c0 := bK.c 0
        have c1 := bK.c 1
        clear bK
        clear hm1 ho1 hf1 gA e1 hat hK
        go_wp2_with fail
        generalize wr.alloc (.cells #[.string (tx kn), .int .i64 ki] 56) = WA at *
        refine (pvalid_eq (tx kn) _ (by rw [tx_size]; exact hkn)).mono ?_
        rintro e W2 ⟨rfl, rfl⟩
        rw [tx_tl]
        cases hv : vld kn with
        | false =>
          rw [hv, if_neg Bool.false_ne_true] at HE
          go_wp2_with fail
          refine (pnotree_any _).mono ?_
          rintro e W3 ⟨rfl, rfl⟩
          go_wp2_with fail
          exact ⟨rfl, Or.inl ⟨HE.out, rfl, HM1.out.1.eo.gr⟩⟩
        | true =>
          rw [hv, if_pos rfl] at HE
          have hpq : (q ++ tx kn).toList = pa ++ kn := by rw [app_tx, HPA.out.1]; rw [HQ.out]; unfold ahd; rw [if_neg hp0]
          have hvl := vld_len hv
          have hsz : (q ++ tx kn).size ≤ 2000000 := by rw [← tl_len, hpq, List.length_append]; have := HPA.out.2; omega
          have hmc := HM.out s1 ki (q ++ tx kn) WA va1 vc1 HM1.out.1 HM1.out.2.1 hsz HM1.out.2.2
          rw [hpq] at hmc
          have hs1 : ¬ 9223372036854775807 < (tx kn).size := by rw [tx_size]; omega
          have hs2 : ¬ 9223372036854775807 < q.size + (tx kn).size := by
            have h1 := tl_len q
            rw [HQ.out, List.length_append, tl_len, List.length_singleton] at h1
            rw [tx_size]; omega
          cases hq : meetP (nos ns) f s1 ki (pa ++ kn) with
          | none =>
            rw [hq] at HE hmc
            simp only at HE
            go_wp2_with fail
            refine hmc.mono ?_
            rintro e W3 (⟨-, rfl, hg⟩ | ⟨s2, va2, vc2, ho, -⟩)
            · go_wp2_with fail
              exact ⟨rfl, Or.inl ⟨HE.out, rfl, hg⟩⟩
            · cases ho
          | some s2 =>
            rw [hq] at HE hmc
            simp only at HE
            have hok2 := meetP_ok f s1 ki (pa ++ kn) s2 (by rw [nos_len, HN.out]; exact HM1.out.2.1) hq
            go_wp2_with fail
            refine hmc.mono ?_
            rintro e W3 (⟨ho, -⟩ | ⟨s3, va2, vc2, ho, rfl, hm2⟩)
            · cases ho
            · injection ho with ho
              subst ho
              have HM2 : Hid _ := hm2
              clear hm2 hmc
              go_wp2_with fail
              have hf2 := HM1.out.2.2
              have hkl := HK.out.1.le
              unfold maxLen at hkl
              have hk1 : wrap64 ((k : Int) + 1) = ((k + 1 : Nat) : Int) := wrapk (by omega)
              have hI : Hid (∃ s' va' vc', kidsP (meetP (nos ns) f) pa kids s = kidsP (meetP (nos ns) f) pa (kids.drop (k + 1)) s' ∧ Wm w W3 gw gm na n nc ns s' va' vc' ∧ s'.ok n ∧ n - s'.met.length < f) := by
                refine ⟨s2, va2, vc2, HE.out, HM2.out, ?_, ?_⟩
                · have := hok2.1
                  rw [nos_len, HN.out] at this
                  exact this
                · have := hok2.2
                  omega
              rw [hk1]
              refine ⟨⟨k + 1, hlt, rfl, hI⟩, ?_⟩
              simp only [intOf, Int.toNat_natCast]
              exact Nat.sub_lt_sub_left hlt (Nat.lt_succ_self k)
      · obtain rfl : k = kl := by omega
        have hlti : ¬ (k : Int) < (k : Int) := by omega
        rw [List.drop_eq_nil_of_le (by rw [HK.out.2.1]; exact Nat.le_refl _)] at e1
        have HE : Hid _ := And.intro e1 hm1
        clear e1 hm1 ho1 hf1
        go_wp2_with fail
        go_end0
        exact Or.inr ⟨s1, va1, vc1, HE.out.1, rfl, HE.out.2⟩
end Go.Proofs.YtbpoealcaogjpaaGreatDoor
