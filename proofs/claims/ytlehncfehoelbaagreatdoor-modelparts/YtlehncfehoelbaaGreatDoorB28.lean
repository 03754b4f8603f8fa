/- The program's Same. The program's tree: what each call answers. A list of entries in memory of its own, over the rows of another one: what TreeNames and TreeOrders write. The program's tree: a node's entry. The walk of List along the names of a tree, as a plain function. The walk of List along the names of a tree in the one way: it tells the names in their order. The walk of List along the names of a tree in the one way, to its end. A further name's node has a name ahead of it; a node's own fields stay as they were laid. -/
import Derived.Test.YtlehncfehoelbaaGreatDoorB08
import Derived.Test.YtlehncfehoelbaaGreatDoorB12
import Derived.Test.YtlehncfehoelbaaGreatDoorB13
import Derived.Test.YtlehncfehoelbaaGreatDoorB14
import Derived.Test.YtlehncfehoelbaaGreatDoorB17
import Derived.Test.YtlehncfehoelbaaGreatDoorB26
import Derived.Test.YtlehncfehoelbaaGreatDoorB27
namespace Go.Proofs.YtlehncfehoelbaaGreatDoor
open Go.RowKit
set_option maxRecDepth 100000
set_option linter.unusedSimpArgs false
set_option linter.unusedVariables false
set_option maxHeartbeats 8000000 in
theorem peqn_any (a b : Option Addr) (n c m d : Nat) (l r : List NoV) (w : World) (R : Nos w a n l) (R2 : Nos w b m r) :
  Calls Tryz.prog 34 #[.slice a n c, .slice b m d, .func (.func 35) #[] #[]] w fun e w' => e = .returned (.bool (sameNos (nos l) (nos r))) ∧ w.grownBy w' none := by
 have hle1 : n ≤ 9223372036854775807 := R.le
 have hle2 : m ≤ 9223372036854775807 := R2.le
 by_cases hnm : n = m
 ·subst hnm
  have HE : Hid _ := And.intro R.len_eq R2.len_eq
  have HR : Hid _ := And.intro R R2
  clear R R2
  have hb : (n != n) = false := by simp
  go_enter Tryz.func34, Tryz.ntmps34
  go_wp2_with fail
  go_loopw [17] (fun i wr => ∃ k : Nat, k ≤ n ∧ i = .int .i64 k ∧ Hid (sameNos (nos l) (nos r) = sameNos ((nos l).drop k) ((nos r).drop k)) ∧ Hid (w.grownBy wr none)) (fun i _ => n - (intOf i).toNat)
  case atStart => exact ⟨0, Nat.zero_le _, rfl, rfl, World.grownBy.refl _ _⟩
  case round =>
   obtain ⟨k, h1, rfl, HC, HG⟩ := hrel
   by_cases h3 : k < n
   ·obtain ⟨b1, o1, rfl, c1⟩ := (HR.out.1.grown HG.out).at_ (by omega)
    obtain ⟨b2, o2, rfl, c2⟩ := (HR.out.2.grown HG.out).at_ (by omega)
    obtain ⟨x, hx⟩ : ∃ x, l[k]? = some x := ⟨_, List.getElem?_eq_getElem (by rw [HE.out.1]; exact h3)⟩
    obtain ⟨y, hy⟩ : ∃ y, r[k]? = some y := ⟨_, List.getElem?_eq_getElem (by rw [HE.out.2]; exact h3)⟩
    obtain ⟨p0, p1, p2, p3, p4, p5, p6, p7, p8, p9, p10, p11, p12, pok⟩ := c1 k x hx
    obtain ⟨q0, q1, q2, q3, q4, q5, q6, q7, q8, q9, q10, q11, q12, qok⟩ := c2 k y hy
    have hst := sameNos_step hx hy
    rw [← HC.out] at hst
    have hcall := fun W (g : wr.grownBy W none) => psnode_any x y W (pok.grown g) (qok.grown g)
    generalize sameNo x.no y.no = B at *
    obtain ⟨xk, xm, xu, xg, xi, xz, xda, xdl, xdc, xd, xt, xv, xaa, xal, xac, xat, xka, xkl, xkc, xki, xp, xl⟩ := x
    obtain ⟨yk, ym, yu, yg, yi, yz, yda, ydl, ydc, yd, yt, yv, yaa, yal, yac, yat, yka, ykl, ykc, yki, yp, yl⟩ := y
    simp only [NoV.val] at hcall
    simp only at p0 p1 p2 p3 p4 p5 p6 p7 p8 p9 p10 p11 p12 q0 q1 q2 q3 q4 q5 q6 q7 q8 q9 q10 q11 q12
    have HD : Hid _ := hst
    have hb1 := cell_lt11 p0
    have hb2 := cell_lt11 q0
    clear hst c1 c2 pok qok hx hy
    have h3i : (k : Int) < n := by omega
    cases B with
    | true =>
     go_wp2_with (go_at_call 35; refine (hcall _ (grown_trans (World.grownBy_alloc _ _ none) (World.grownBy_alloc _ _ none))).mono ?_; rintro e w' ⟨rfl, hg⟩)
     exact ⟨⟨k + 1, by omega, by go_num, by show _ = _; rw [HD.out]; rfl, grown_trans HG.out (grown_trans (grown_trans (World.grownBy_alloc _ _ none) (World.grownBy_alloc _ _ none)) hg)⟩, by simp [intOf]; omega⟩
    | false =>
     go_wp2_with (go_at_call 35; refine (hcall _ (grown_trans (World.grownBy_alloc _ _ none) (World.grownBy_alloc _ _ none))).mono ?_; rintro e w' ⟨rfl, hg⟩)
     go_ret
     exact ⟨by rw [HD.out]; rfl, grown_trans HG.out (grown_trans (grown_trans (World.grownBy_alloc _ _ none) (World.grownBy_alloc _ _ none)) hg)⟩
   ·have HV : Hid (sameNos (nos l) (nos r) = true) := by
     show _ = _
     rw [HC.out, List.drop_eq_nil_of_le (by rw [nos_len, HE.out.1]; omega), List.drop_eq_nil_of_le (by rw [nos_len, HE.out.2]; omega)]
     rfl
    clear HC
    go_wp2_with fail
    go_ret
    exact ⟨by rw [HV.out]; rfl, HG.out⟩
 ·have HV : Hid (sameNos (nos l) (nos r) = false) := by
   show _ = _
   exact sameNos_len (by rw [nos_len, nos_len, R.len_eq, R2.len_eq]; exact hnm)
  have hb : ((n : Int) == (m : Int)) = false := by rw [beq_eq_false_iff_ne]; omega
  clear R R2
  go_enter Tryz.func34, Tryz.ntmps34
  go_wp2_with fail
  go_ret
  exact ⟨by rw [HV.out]; rfl, World.grownBy.refl _ _⟩
theorem psame_any (a b : Option Addr) (n c m d : Nat) (l r : List NoV) (w : World) (R : Nos w a n l) (R2 : Nos w b m r) : Calls Tryz.prog 12 #[.agg #[.slice a n c], .agg #[.slice b m d]] w fun e w' => e = .returned (.bool (sameNos (nos l) (nos r))) ∧ w.grownBy w' none := by
 have hq := fun W (g : w.grownBy W none) => peqn_any a b n c m d l r W (R.grown g) (R2.grown g)
 generalize sameNos (nos l) (nos r) = B at *
 clear R R2
 go_enter Tryz.func12, Tryz.ntmps12
 go_wp2_with (go_at_call 34; refine (hq _ (grown_trans (World.grownBy_alloc _ _ none) (World.grownBy_alloc _ _ none))).mono ?_; rintro e w' ⟨rfl, hg⟩)
 go_ret
 exact ⟨rfl, grown_trans (grown_trans (World.grownBy_alloc _ _ none) (World.grownBy_alloc _ _ none)) hg⟩
theorem szs_of {l : List EnV} (h : Sml l) : Szs l := fun X hX => ⟨(h X hX).1, by have := (h X hX).2.1; omega, fun A hA => by have := (h X hX).2.2 A hA; omega⟩
structure Eo (w W : World) (base : Nat) (v : Value) (l : List EnV) : Prop where
 gr : w.grownBy W none
 low : w.heap.size ≤ base
 own : W.ownsRow base 30 11 v l.length (l.flatMap evc)
 each : ∀ X ∈ l, X.ok w
theorem Eo.kept {w W W' : World} {base : Nat} {v : Value} {l : List EnV} (h : Eo w W base v l) (g : W.grownBy W' none) : Eo w W' base v l := ⟨grown_trans h.gr g, h.low, owns_kept11 h.own g, h.each⟩
theorem Eo.ens {w W : World} {base n c : Nat} {a : Option Addr} {l : List EnV} (h : Eo w W base (.slice a n c) l) (hn : l.length = n) : Ens W a n l := by
 obtain ⟨a', c', e, k⟩ := own_ens h.own rfl (fun X hX => (h.each X hX).grown h.gr)
 injection e with e1 e2 e3
 rw [e1, ← hn]; exact k
theorem Eo.cell {w W : World} {base g c n : Nat} {l : List EnV} (h : Eo w W base (.slice (some ⟨g, 0, none⟩) n c) l) (hn : l.length = n) {i f : Nat} {X : EnV} (hX : l[i]? = some X) (hf : f < 11) : W.cell? ⟨g, i * 11 + f, none⟩ = (evc X)[f]? := by
 have hi : i < l.length := (List.getElem?_eq_some_iff.1 hX).1
 have ho := h.own
 rw [← hn] at ho
 rw [ho.cellAt (i * 11 + f) (by omega), flat_at evc 11 evc_len l i f X hX hf]
theorem Eo.froz {w W : World} {base g c n : Nat} {l : List EnV} (h : Eo w W base (.slice (some ⟨g, 0, none⟩) n c) l) (hn : l.length = n) (j : Nat) : W.frozen? ⟨g, j, none⟩ = false := by
 have ho := h.own
 rw [← hn] at ho
 exact ho.frozenAt j
/-- a field is written; the rows stay -/
theorem Eo.set {w W : World} {base g c n : Nat} {l : List EnV} (h : Eo w W base (.slice (some ⟨g, 0, none⟩) n c) l) (hn : l.length = n) {i f : Nat} {X X' : EnV} {u : Value} (hX : l[i]? = some X) (hf : f < 11) (e : evc X' = (evc X).set f u) (ho' : X'.ok w) :
  Eo w (W.setCell ⟨g, i * 11 + f, none⟩ u) base (.slice (some ⟨g, 0, none⟩) n c) (l.set i X') ∧ W.grownBy (W.setCell ⟨g, i * 11 + f, none⟩ u) (some g) := by
 have ho := h.own
 rw [hn] at ho
 obtain ⟨h1, h2⟩ := ho.stored (i * 11 + f) u
 rw [flat_set evc 11 evc_len u l i f X X' hX hf e] at h1
 refine ⟨⟨grown_ownB h.gr h.own h2 h.low, h.low, by rw [List.length_set, hn]; exact h1, fun Y hY => ?_⟩, h2⟩
 rcases List.mem_or_eq_of_mem_set hY with hY' | rfl
 ·exact h.each Y hY'
 ·exact ho'
theorem Eo.form {w W : World} {base : Nat} {v : Value} {l : List EnV} (h : Eo w W base v l) (h0 : l ≠ []) : ∃ g c, v = .slice (some ⟨g, 0, none⟩) l.length c ∧ base ≤ g ∧ l.length ≤ c ∧ c ≤ maxLen ∧ W.heap.size > g := by
 rcases h.own.2 with ⟨_, hn⟩ | ⟨g, cap, cur, hv, hb, hq, hc, hm, _⟩
 ·exact absurd (List.eq_nil_of_length_eq_zero hn) h0
 ·exact ⟨g, cap, hv, hb, hc, hm, by
   have := (Array.getElem?_eq_some_iff.1 hq).1
   exact this⟩
/-- a node's entry, in the node's memory -/
def NoV.ent (N : NoV) (p : ByteArray) : EnV := ⟨p, N.k, N.mode, N.uid, N.gid, N.time, N.size, N.da, N.dl, N.dc, N.data, N.target, N.dev, N.aa, N.al, N.ac, N.attrs⟩
set_option maxHeartbeats 4000000 in
theorem pentry_any (N : NoV) (p : ByteArray) (w : World) : Calls Tryz.prog 108 #[N.val, .string p] w fun e w' => e = .returned (N.ent p).val ∧ w.grownBy w' none := by
 have g0 : ∀ cs ds, w.grownBy ((w.alloc (.cells cs 43)).alloc (.cells ds 30)) none := fun cs ds => grown_trans (World.grownBy_alloc _ _ none) (World.grownBy_alloc _ _ none)
 have HG : Hid _ := g0
 clear g0
 simp only [NoV.val, NoV.ent, EnV.val]
 go_enter Tryz.func108, Tryz.ntmps108
 go_wp2_with fail
 refine bodyPost_ret (v := .agg #[.string p, .int .i64 N.k, .int .i64 N.mode, .int .i64 N.uid, .int .i64 N.gid, .int .i64 N.time, .int .i64 N.size, .slice N.da N.dl N.dc, .string N.target, .int .i64 N.dev, .slice N.aa N.al N.ac]) (by simp [results, Tryz.results108, go_sem]) rfl ?_
 exact ⟨rfl, HG.out _ _⟩
end Go.Proofs.YtlehncfehoelbaaGreatDoor
namespace Go.Proofs.YtlehncfehoelbaaGreatDoor
set_option linter.unusedVariables false
set_option linter.unusedSimpArgs false
/-- what is listed: at a path a node's first entry (its number), or a further name (of what) -/
structure Le where
 path : Tx
 src : Nat ⊕ Tx
/-- the walker: what was met (the number, where it is listed first), what is listed -/
structure Wk where
 met : List (Nat × Nat)
 list : List Le
def Wk.at_ (s : Wk) (i : Nat) : Option Nat := (s.met.find? fun x => decide (x.1 = i)).map (·.2)
def ahd (p : Tx) : Tx := if p = [] then [] else p ++ [47]
def kidsP (meet : Wk → Int → Tx → Option Wk) (a : Tx) : List Kd → Wk → Option Wk
 | [], s => some s
 | k :: ks, s => if vld k.n = true then (match meet s k.i (a ++ k.n) with
  | none => none
  | some s' => kidsP meet a ks s') else none
def addN (s : Wk) (i : Nat) (p : Tx) : Wk := ⟨(i, s.list.length) :: s.met, s.list ++ [⟨p, .inl i⟩]⟩
def addF (s : Wk) (f : Nat) (p : Tx) : Wk := ⟨s.met, s.list ++ [⟨p, .inr ((s.list[f]?.map Le.path).getD [])⟩]⟩
def meetP (ns : List No) : Nat → Wk → Int → Tx → Option Wk
 | 0, _, _, _ => none
 | f + 1, s, i, p => if 0 ≤ i ∧ p.length ≤ 4096 ∧ s.list.length ≤ 16384 then (match ns[i.toNat]? with
  | none => none
  | some n => match s.at_ i.toNat with
   | some j => if n.k = 2 then none else some (addF s j p)
   | none => if n.k = 2 then kidsP (meetP ns f) (ahd p) n.kids (addN s i.toNat p) else some (addN s i.toNat p)) else none
/-- what holds of a walker -/
structure Wk.ok (s : Wk) (n : Nat) : Prop where
 nd : (s.met.map (·.1)).Nodup
 lt : ∀ x ∈ s.met, x.1 < n ∧ x.2 < s.list.length
 le : s.list.length ≤ 16385
 pl : ∀ x ∈ s.list, x.path.length ≤ 4096
 ql : ∀ x ∈ s.list, ∀ q, x.src = .inr q → q.length ≤ 4096
theorem Wk.ok.at_lt {s : Wk} {n : Nat} (h : s.ok n) {i j : Nat} (e : s.at_ i = some j) : j < s.list.length := by
 unfold Wk.at_ at e
 cases hf : s.met.find? (fun x => decide (x.1 = i)) with
 | none => rw [hf] at e; cases e
 | some x =>
  rw [hf] at e
  injection e with e
  rw [← e]
  exact (h.lt x (List.mem_of_find?_eq_some hf)).2
theorem Wk.ok.addN {s : Wk} {n : Nat} (h : s.ok n) {i : Nat} {p : Tx} (hi : i < n) (hp : p.length ≤ 4096) (hl : s.list.length ≤ 16384) (hn : s.at_ i = none) : (addN s i p).ok n := by
 refine ⟨?_, ?_, ?_, ?_, ?_⟩
 ·show ((i, s.list.length) :: s.met).map (·.1) |>.Nodup
  rw [List.map_cons, List.nodup_cons]
  refine ⟨fun hm => ?_, h.nd⟩
  obtain ⟨x, hx, e⟩ := List.mem_map.1 hm
  unfold Wk.at_ at hn
  have h0 : s.met.find? (fun x => decide (x.1 = i)) = none := by
   cases hf : s.met.find? (fun x => decide (x.1 = i)) with
   | none => rfl
   | some y => rw [hf] at hn; cases hn
  rw [List.find?_eq_none] at h0
  exact h0 x hx (by simpa using e)
 ·intro x hx
  show x.1 < n ∧ x.2 < (s.list ++ [_]).length
  rw [List.length_append, List.length_singleton]
  rcases List.mem_cons.1 hx with rfl | hx
  ·exact ⟨hi, by simp⟩
  ·have := h.lt x hx; omega
 ·show (s.list ++ [_]).length ≤ _
  rw [List.length_append, List.length_singleton]; omega
 ·intro x hx
  rcases List.mem_append.1 hx with hx | hx
  ·exact h.pl x hx
  ·rw [List.mem_singleton] at hx; subst hx; exact hp
 ·intro x hx q hq
  rcases List.mem_append.1 hx with hx | hx
  ·exact h.ql x hx q hq
  ·rw [List.mem_singleton] at hx; subst hx; cases hq
theorem Wk.ok.addF {s : Wk} {n : Nat} (h : s.ok n) {f : Nat} {p : Tx} (hp : p.length ≤ 4096) (hl : s.list.length ≤ 16384) : (addF s f p).ok n := by
 refine ⟨h.nd, ?_, ?_, ?_, ?_⟩
 ·intro x hx
  show x.1 < n ∧ x.2 < (s.list ++ [_]).length
  rw [List.length_append, List.length_singleton]
  have := h.lt x hx; omega
 ·show (s.list ++ [_]).length ≤ _
  rw [List.length_append, List.length_singleton]; omega
 ·intro x hx
  rcases List.mem_append.1 hx with hx | hx
  ·exact h.pl x hx
  ·rw [List.mem_singleton] at hx; subst hx; exact hp
 ·intro x hx q hq
  rcases List.mem_append.1 hx with hx | hx
  ·exact h.ql x hx q hq
  ·rw [List.mem_singleton] at hx
   subst hx
   injection hq with hq
   rw [← hq]
   cases hf : s.list[f]? with
   | none => exact Nat.zero_le _
   | some y => exact h.pl y (List.mem_of_getElem? hf)
theorem nodup_le {os : List Nat} {n : Nat} (h : os.Nodup) (hl : ∀ o ∈ os, o < n) : os.length ≤ n := by
 induction n generalizing os with
 | zero =>
  cases os with
  | nil => exact Nat.le_refl _
  | cons a r => exact absurd (hl a (by simp)) (by omega)
 | succ n ih =>
  have h1 := ih (h.erase n) fun o ho => by
   have := (h.mem_erase_iff).1 ho
   have := hl o this.2
   omega
  rw [List.length_erase] at h1
  split at h1 <;> omega
theorem Wk.ok.fewer {s : Wk} {n : Nat} (h : s.ok n) {i : Nat} (hi : i < n) (hn : s.at_ i = none) : s.met.length < n := by
 have h0 : ∀ x ∈ s.met, ¬ x.1 = i := by
  unfold Wk.at_ at hn
  have h0 : s.met.find? (fun x => decide (x.1 = i)) = none := by
   cases hf : s.met.find? (fun x => decide (x.1 = i)) with
   | none => rfl
   | some y => rw [hf] at hn; cases hn
  rw [List.find?_eq_none] at h0
  intro x hx e
  exact h0 x hx (by simpa using e)
 have hd : (i :: s.met.map (·.1)).Nodup := List.nodup_cons.2 ⟨fun hm => by obtain ⟨x, hx, e⟩ := List.mem_map.1 hm; exact h0 x hx e, h.nd⟩
 have := nodup_le hd (n := n) (fun x hx => by
  rcases List.mem_cons.1 hx with rfl | hx
  ·exact hi
  ·obtain ⟨y, hy, rfl⟩ := List.mem_map.1 hx; exact (h.lt y hy).1)
 simp only [List.length_cons, List.length_map] at this
 omega
/-- what a walk leaves as it was -/
structure Wk.le (s s' : Wk) : Prop where
 met : s.met.length ≤ s'.met.length
theorem kidsP_ok {n : Nat} {meet : Wk → Int → Tx → Option Wk} (hm : ∀ s i p s', s.ok n → meet s i p = some s' → s'.ok n ∧ s.met.length ≤ s'.met.length) (a : Tx) : ∀ (ks : List Kd) (s s' : Wk), s.ok n → kidsP meet a ks s = some s' → s'.ok n ∧ s.met.length ≤ s'.met.length
 | [], s, s', h, e => by
  unfold kidsP at e
  injection e with e
  subst e
  exact ⟨h, Nat.le_refl _⟩
 | k :: ks, s, s', h, e => by
  unfold kidsP at e
  split at e
  ·cases hk : meet s k.i (a ++ k.n) with
   | none => rw [hk] at e; cases e
   | some s1 =>
    rw [hk] at e
    obtain ⟨h1, h2⟩ := hm _ _ _ _ h hk
    obtain ⟨h3, h4⟩ := kidsP_ok hm a ks s1 s' h1 e
    exact ⟨h3, Nat.le_trans h2 h4⟩
  ·cases e
theorem meetP_ok {ns : List No} : ∀ (f : Nat) (s : Wk) (i : Int) (p : Tx) (s' : Wk), s.ok ns.length → meetP ns f s i p = some s' → s'.ok ns.length ∧ s.met.length ≤ s'.met.length
 | 0, s, i, p, s', h, e => by cases e
 | f + 1, s, i, p, s', h, e => by
  unfold meetP at e
  split at e <;> rename_i hc
  ·cases hn : ns[i.toNat]? with
   | none => rw [hn] at e; cases e
   | some n =>
    rw [hn] at e
    simp only at e
    have hi := (List.getElem?_eq_some_iff.1 hn).1
    cases ha : s.at_ i.toNat with
    | some j =>
     rw [ha] at e
     simp only at e
     split at e
     ·cases e
     ·injection e with e
      subst e
      exact ⟨h.addF hc.2.1 hc.2.2, Nat.le_refl _⟩
    | none =>
     rw [ha] at e
     simp only at e
     have h1 := h.addN hi hc.2.1 hc.2.2 ha
     have h2 : s.met.length ≤ (addN s i.toNat p).met.length := by show _ ≤ (_ :: s.met).length; simp
     split at e
     ·obtain ⟨h3, h4⟩ := kidsP_ok (meetP_ok f) _ _ _ _ h1 e
      exact ⟨h3, Nat.le_trans h2 h4⟩
     ·injection e with e
      subst e
      exact ⟨h1, h2⟩
  ·cases e
def kdT (ino : Tx → Nat) (t : Tp Tx) : Kd := ⟨lastT t.p, ino t.o⟩
/-- what the walk needs of a tree -/
structure Wt (ts : List (Tp Tx)) (ns : List No) (ino : Tx → Nat) : Prop where
 srt : ts.Pairwise fun a b => plt a.p b.p
 up : ∀ (k : Nat) (t : Tp Tx), ts[k]? = some t → upT t.p = [] ∨ ∃ u ∈ ts.take k, u.dir = true ∧ u.p = upT t.p
 path : ∀ t ∈ ts, t.p ≠ [] ∧ t.p.length ≤ 4096 ∧ ahd (upT t.p) ++ lastT t.p = t.p ∧ vld (lastT t.p) = true
 parts : ∀ t ∈ ts, (upT t.p = [] ∧ (spl t.p).1 = [lastT t.p]) ∨ ((spl (upT t.p)).1 ++ [lastT t.p] = (spl t.p).1 ∧ (spl (upT t.p)).1 ≠ [])
 dir1 : ∀ t ∈ ts, ∀ u ∈ ts, t.dir = true → u.o = t.o → u.p = t.p
 ino1 : ∀ t ∈ ts, ∀ u ∈ ts, ino t.o = ino u.o → t.o = u.o
 ino0 : ∀ t ∈ ts, 1 ≤ ino t.o
 nd : ∀ t ∈ ts, ∃ n, ns[ino t.o]? = some n ∧ (∀ p, enOf p n = enOf p t.nd) ∧ (n.k = 2 ↔ t.dir = true) ∧ (t.dir = true → n.kids = (ts.filter fun u => decide (upT u.p = t.p)).map (kdT ino))
 root : ∃ n, ns[0]? = some n ∧ n.k = 2 ∧ n.kids = (ts.filter fun u => decide (upT u.p = [])).map (kdT ino)
 len : ts.length ≤ 16384
/-- a name more -/
def wst (ino : Tx → Nat) (s : Wk) (t : Tp Tx) : Wk := match s.at_ (ino t.o) with
 | some j => addF s j t.p
 | none => addN s (ino t.o) t.p
def s0 : Wk := addN ⟨[], []⟩ 0 []
def St (ts : List (Tp Tx)) (ino : Tx → Nat) (k : Nat) : Wk := (ts.take k).foldl (wst ino) s0
/-- is what a name is in listed? -/
def cnd (ts : List (Tp Tx)) (k : Nat) (t : Tp Tx) : Bool := decide (upT t.p = []) || (ts.take k).any fun u => u.dir && decide (u.p = upT t.p)
/-- the names that wait -/
def pend (ts : List (Tp Tx)) (k : Nat) : List (Tp Tx) := (ts.drop k).filter (cnd ts k)
theorem take_succ' {α : Type} {l : List α} {k : Nat} {t : α} (h : l[k]? = some t) : l.take (k + 1) = l.take k ++ [t] := by
 have hk := (List.getElem?_eq_some_iff.1 h).1
 rw [List.take_add_one, h]; rfl
theorem drop_at {α : Type} {l : List α} {k : Nat} {t : α} (h : l[k]? = some t) : l.drop k = t :: l.drop (k + 1) := by
 obtain ⟨hk, e⟩ := List.getElem?_eq_some_iff.1 h
 rw [List.drop_eq_getElem_cons hk, e]
theorem St_next {ts : List (Tp Tx)} {ino : Tx → Nat} {k : Nat} {t : Tp Tx} (h : ts[k]? = some t) : St ts ino (k + 1) = wst ino (St ts ino k) t := by
 unfold St
 rw [take_succ' h, List.foldl_append]; rfl
theorem pend_head {ts : List (Tp Tx)} {ns : List No} {ino : Tx → Nat} (W : Wt ts ns ino) {k : Nat} {t : Tp Tx} (h : ts[k]? = some t) : pend ts k = t :: (ts.drop (k + 1)).filter (cnd ts k) := by
 unfold pend
 rw [drop_at h, List.filter_cons, if_pos]
 unfold cnd
 rcases W.up k t h with e | ⟨u, hu, h1, h2⟩
 ·rw [e]; simp
 ·rw [Bool.or_eq_true]
  right
  rw [List.any_eq_true]
  exact ⟨u, hu, by rw [h1, h2]; simp⟩
theorem ord_past : ∀ (T U : List Tx) (x y : Tx), ord T (U ++ [y]) = -1 → ord U T = -1 → ord (T ++ [x]) (U ++ [y]) = -1
 | [], [], x, y, h1, h2 => by simp [ord] at h2
 | c :: r, [], x, y, h1, h2 => by
  simp only [List.nil_append, List.cons_append] at *
  unfold ord at h1 ⊢
  by_cases e : ctx c y ≠ 0
  ·rw [if_pos e] at h1 ⊢; exact h1
  ·rw [if_neg e] at h1
   cases r with
   | nil => simp [ord] at h1
   | cons => simp [ord] at h1
 | [], d :: V, x, y, h1, h2 => by simp [ord] at h2
 | c :: r, d :: V, x, y, h1, h2 => by
  simp only [List.cons_append] at *
  unfold ord at h1 h2 ⊢
  by_cases e : ctx c d ≠ 0
  ·rw [if_pos e] at h1
   rw [ctx_flip, h1, if_pos (by decide)] at h2
   simp at h2
  ·rw [if_neg e] at h1 ⊢
   have e0 : ctx d c = 0 := by rw [ctx_flip]; have : ctx c d = 0 := Classical.byContradiction e; rw [this]; rfl
   rw [if_neg (by rw [e0]; simp)] at h2
   exact ord_past r V x y h1 h2
theorem mem_drop_iff {α : Type} {l : List α} {k : Nat} {x : α} : x ∈ l.drop k ↔ ∃ i, k ≤ i ∧ l[i]? = some x := by
 rw [List.mem_iff_getElem?]
 constructor
 ·rintro ⟨i, hi⟩
  rw [List.getElem?_drop] at hi
  exact ⟨k + i, by omega, hi⟩
 ·rintro ⟨i, hi, e⟩
  exact ⟨i - k, by rw [List.getElem?_drop, show k + (i - k) = i by omega]; exact e⟩
theorem mem_take_iff {α : Type} {l : List α} {k : Nat} {x : α} : x ∈ l.take k ↔ ∃ i, i < k ∧ l[i]? = some x := by
 rw [List.mem_iff_getElem?]
 constructor
 ·rintro ⟨i, hi⟩
  rw [List.getElem?_take] at hi
  split at hi
  ·exact ⟨i, by assumption, hi⟩
  ·cases hi
 ·rintro ⟨i, hi, e⟩
  exact ⟨i, by rw [List.getElem?_take, if_pos hi]; exact e⟩
theorem Wt.lt {ts : List (Tp Tx)} {ns : List No} {ino : Tx → Nat} (W : Wt ts ns ino) {i j : Nat} {a b : Tp Tx} (ha : ts[i]? = some a) (hb : ts[j]? = some b) (h : i < j) : plt a.p b.p := by
 obtain ⟨hi, ea⟩ := List.getElem?_eq_some_iff.1 ha
 obtain ⟨hj, eb⟩ := List.getElem?_eq_some_iff.1 hb
 have := List.pairwise_iff_getElem.1 W.srt i j hi hj h
 rwa [ea, eb] at this
theorem Wt.once {ts : List (Tp Tx)} {ns : List No} {ino : Tx → Nat} (W : Wt ts ns ino) {i j : Nat} {a b : Tp Tx} (ha : ts[i]? = some a) (hb : ts[j]? = some b) (h : a.p = b.p) : i = j := by
 rcases Nat.lt_trichotomy i j with k | k | k
 ·have := W.lt ha hb k; rw [h] at this; exact absurd this (plt_irrefl _)
 ·exact k
 ·have := W.lt hb ha k; rw [h] at this; exact absurd this (plt_irrefl _)
theorem Wt.behind {ts : List (Tp Tx)} {ns : List No} {ino : Tx → Nat} (W : Wt ts ns ino) {i j : Nat} {a b : Tp Tx} (ha : ts[i]? = some a) (hb : ts[j]? = some b) (h : plt a.p b.p) : i < j := by
 rcases Nat.lt_trichotomy i j with k | k | k
 ·exact k
 ·subst k
  rw [ha] at hb
  injection hb with hb
  subst hb
  exact absurd h (plt_irrefl _)
 ·exact absurd (W.lt hb ha k) (plt_asymm h)
/-- what is in a folder comes behind it -/
theorem Wt.up_lt {ts : List (Tp Tx)} {ns : List No} {ino : Tx → Nat} (W : Wt ts ns ino) {a : Tp Tx} (ha : a ∈ ts) (h : upT a.p ≠ []) : plt (upT a.p) a.p := by
 rcases W.parts a ha with ⟨e, -⟩ | ⟨e, -⟩
 ·exact absurd e h
 ·unfold plt; rw [← e]; exact ord_snoc _ _
theorem pend_next {ts : List (Tp Tx)} {ns : List No} {ino : Tx → Nat} (W : Wt ts ns ino) {k : Nat} {t : Tp Tx} (h : ts[k]? = some t) : pend ts (k + 1) = (if t.dir = true then ts.filter fun u => decide (upT u.p = t.p) else []) ++ (ts.drop (k + 1)).filter (cnd ts k) := by
 have htm : t ∈ ts := List.mem_of_getElem? h
 by_cases hd : t.dir = true
 ·rw [if_pos hd]
  have hne := (W.path t htm).1
  apply sorted_eqG (R := fun a b : Tp Tx => plt a.p b.p) (fun a => plt_irrefl _) (fun a b c => plt_trans)
  ·exact ((W.srt.sublist (List.drop_sublist _ _))).sublist List.filter_sublist
  ·rw [List.pairwise_append]
   refine ⟨W.srt.sublist List.filter_sublist, (W.srt.sublist (List.drop_sublist _ _)).sublist List.filter_sublist, fun a ha b hb => ?_⟩
   obtain ⟨ham, hau⟩ := List.mem_filter.1 ha
   obtain ⟨hbd, hbc⟩ := List.mem_filter.1 hb
   have hau : upT a.p = t.p := of_decide_eq_true hau
   obtain ⟨j, hj, hjb⟩ := mem_drop_iff.1 hbd
   have hbm : b ∈ ts := List.mem_of_getElem? hjb
   have htb : plt t.p b.p := W.lt h hjb (by omega)
   have hA : (spl a.p).1 = (spl t.p).1 ++ [lastT a.p] := by
    rcases W.parts a ham with ⟨e, -⟩ | ⟨e, -⟩
    ·rw [hau] at e; exact absurd e hne
    ·rw [hau] at e; exact e.symm
   have hT0 : (spl t.p).1 ≠ [] := by
    rcases W.parts t htm with ⟨-, e⟩ | ⟨e, -⟩
    ·rw [e]; simp
    ·rw [← e]; simp
   have hB : ∃ U, (spl b.p).1 = U ++ [lastT b.p] ∧ ord U (spl t.p).1 = -1 := by
    rcases W.parts b hbm with ⟨-, e⟩ | ⟨e, e2⟩
    ·refine ⟨[], by rw [e]; rfl, ?_⟩
     cases hq : (spl t.p).1 with
     | nil => exact absurd hq hT0
     | cons c r => rfl
    ·refine ⟨_, e.symm, ?_⟩
     unfold cnd at hbc
     rw [Bool.or_eq_true] at hbc
     rcases hbc with c | c
     ·rw [of_decide_eq_true c] at e2
      exact absurd rfl e2
     ·obtain ⟨u, hu, c2⟩ := List.any_eq_true.1 c
      rw [Bool.and_eq_true, decide_eq_true_iff] at c2
      obtain ⟨i, hi, hiu⟩ := mem_take_iff.1 hu
      have := W.lt hiu h hi
      rw [c2.2] at this
      exact this
   obtain ⟨U, e1, e2⟩ := hB
   unfold plt at htb ⊢
   rw [hA, e1]
   rw [e1] at htb
   exact ord_past _ _ _ _ htb e2
  ·intro x
   unfold pend
   rw [List.mem_append, List.mem_filter, List.mem_filter, List.mem_filter]
   have hc : cnd ts (k + 1) x = true ↔ cnd ts k x = true ∨ upT x.p = t.p := by
    unfold cnd
    rw [take_succ' h, List.any_append, Bool.or_eq_true, Bool.or_eq_true, Bool.or_eq_true]
    simp only [List.any_cons, List.any_nil, Bool.or_false, hd, Bool.true_and, decide_eq_true_iff]
    constructor
    ·rintro (a | a | a)
     ·exact Or.inl (Or.inl a)
     ·exact Or.inl (Or.inr a)
     ·exact Or.inr a.symm
    ·rintro ((a | a) | a)
     ·exact Or.inl a
     ·exact Or.inr (Or.inl a)
     ·exact Or.inr (Or.inr a.symm)
   rw [hc, decide_eq_true_iff]
   constructor
   ·rintro ⟨a, b | b⟩
    ·exact Or.inr ⟨a, b⟩
    ·exact Or.inl ⟨List.mem_of_mem_drop a, b⟩
   ·rintro (⟨a, b⟩ | ⟨a, b⟩)
    ·refine ⟨?_, Or.inr b⟩
     obtain ⟨i, hi⟩ := List.mem_iff_getElem?.1 a
     have := W.up_lt a (by rw [b]; exact hne)
     rw [b] at this
     exact mem_drop_iff.2 ⟨i, W.behind h hi this, hi⟩
    ·exact ⟨a, Or.inl b⟩
 ·rw [if_neg hd, List.nil_append]
  unfold pend
  congr 1
  funext x
  unfold cnd
  rw [take_succ' h, List.any_append]
  simp [hd]
theorem pend_end {ts : List (Tp Tx)} {ns : List No} {ino : Tx → Nat} (W : Wt ts ns ino) {k : Nat} (h : pend ts k = []) : ts.length ≤ k := by
 rcases Nat.lt_or_ge k ts.length with hk | hk
 ·have e := pend_head W (List.getElem?_eq_getElem hk)
  rw [h] at e
  cases e
 ·exact hk
theorem pend_some {ts : List (Tp Tx)} {ns : List No} {ino : Tx → Nat} (W : Wt ts ns ino) {k : Nat} {t : Tp Tx} {R : List (Tp Tx)} (h : pend ts k = t :: R) : ts[k]? = some t ∧ R = (ts.drop (k + 1)).filter (cnd ts k) := by
 rcases Nat.lt_or_ge k ts.length with hk | hk
 ·have e := pend_head W (List.getElem?_eq_getElem hk)
  rw [h] at e
  injection e with e1 e2
  exact ⟨by rw [List.getElem?_eq_getElem hk, e1], e2⟩
 ·unfold pend at h
  rw [List.drop_eq_nil_of_le hk] at h
  cases h
def leT (ts : List (Tp Tx)) (ino : Tx → Nat) (t : Tp Tx) : Le := ⟨t.p, if fstN ts t.o = t.p then .inl (ino t.o) else .inr (fstN ts t.o)⟩
/-- what holds when k names are listed -/
structure Wi (ts : List (Tp Tx)) (n : Nat) (ino : Tx → Nat) (k : Nat) (s : Wk) : Prop where
 ok : s.ok n
 list : s.list = ⟨[], .inl 0⟩ :: (ts.take k).map (leT ts ino)
 new : ∀ u ∈ ts, s.at_ (ino u.o) = none ↔ ∀ v ∈ ts.take k, v.o ≠ u.o
 old : ∀ u ∈ ts, ∀ j, s.at_ (ino u.o) = some j → (s.list[j]?.map Le.path).getD [] = fstN ts u.o
theorem fst_new {ts : List (Tp Tx)} {k : Nat} {t : Tp Tx} (h : ts[k]? = some t) (hn : ∀ v ∈ ts.take k, v.o ≠ t.o) : fstN ts t.o = t.p := by
 unfold fstN
 rw [← List.take_append_drop k ts, List.find?_append, List.find?_eq_none.2 (fun v hv => by simpa using hn v hv), drop_at h]
 simp
theorem fst_old {ts : List (Tp Tx)} {k : Nat} {o : Tx} (hn : ∃ v ∈ ts.take k, v.o = o) : ∃ u ∈ ts.take k, fstN ts o = u.p := by
 unfold fstN
 cases hf : (ts.take k).find? (fun t => decide (t.o = o)) with
 | none =>
  obtain ⟨v, hv, e⟩ := hn
  exact absurd (List.find?_eq_none.1 hf v hv) (by simp [e])
 | some u =>
  refine ⟨u, List.mem_of_find?_eq_some hf, ?_⟩
  rw [← List.take_append_drop k ts, List.find?_append, hf]
  rfl
theorem at_addN {s : Wk} {i j : Nat} {p : Tx} : (addN s i p).at_ j = if i = j then some s.list.length else s.at_ j := by
 unfold Wk.at_ addN
 simp only [List.find?_cons]
 by_cases h : i = j
 ·rw [if_pos h]; simp [h]
 ·rw [if_neg h]; simp [h]
theorem at_addF {s : Wk} {f j : Nat} {p : Tx} : (addF s f p).at_ j = s.at_ j := rfl
theorem Wi.start {ts : List (Tp Tx)} {ns : List No} {ino : Tx → Nat} (W : Wt ts ns ino) : Wi ts ns.length ino 0 (St ts ino 0) := by
 obtain ⟨n, hn, -⟩ := W.root
 have h0 := (List.getElem?_eq_some_iff.1 hn).1
 refine ⟨⟨?_, ?_, ?_, ?_, ?_⟩, rfl, fun u hu => ?_, fun u hu j e => ?_⟩
 ·show [0].Nodup; simp
 ·intro x hx
  have hx : x ∈ [(0, 0)] := hx
  rw [List.mem_singleton] at hx
  subst hx
  exact ⟨h0, by show 0 < 1; omega⟩
 ·show 1 ≤ 16385; omega
 ·intro x hx
  have hx : x ∈ [(⟨[], .inl 0⟩ : Le)] := hx
  rw [List.mem_singleton] at hx
  subst hx
  exact Nat.zero_le _
 ·intro x hx q hq
  have hx : x ∈ [(⟨[], .inl 0⟩ : Le)] := hx
  rw [List.mem_singleton] at hx
  subst hx
  cases hq
 ·have := W.ino0 u hu
  have e : (St ts ino 0).at_ (ino u.o) = none := by
   show (addN ⟨[], []⟩ 0 []).at_ (ino u.o) = none
   rw [at_addN, if_neg (by omega)]; rfl
  rw [e]
  simp
 ·have := W.ino0 u hu
  have e2 : (St ts ino 0).at_ (ino u.o) = none := by
   show (addN ⟨[], []⟩ 0 []).at_ (ino u.o) = none
   rw [at_addN, if_neg (by omega)]; rfl
  rw [e2] at e
  cases e
theorem Wi.next {ts : List (Tp Tx)} {ns : List No} {ino : Tx → Nat} (W : Wt ts ns ino) {k : Nat} {t : Tp Tx} (h : ts[k]? = some t) {s : Wk} (I : Wi ts ns.length ino k s) : Wi ts ns.length ino (k + 1) (wst ino s t) := by
 have htm : t ∈ ts := List.mem_of_getElem? h
 have hk := (List.getElem?_eq_some_iff.1 h).1
 have hl : s.list.length = k + 1 := by rw [I.list, List.length_cons, List.length_map, List.length_take]; omega
 have hl2 : s.list.length ≤ 16384 := by have := W.len; omega
 obtain ⟨n, hn, -, -, -⟩ := W.nd t htm
 have hi := (List.getElem?_eq_some_iff.1 hn).1
 unfold wst
 cases ha : s.at_ (ino t.o) with
 | none =>
  simp only
  have hnew := (I.new t htm).1 ha
  have hf := fst_new h hnew
  refine ⟨I.ok.addN hi (W.path t htm).2.1 hl2 ha, ?_, fun u hu => ?_, fun u hu j e => ?_⟩
  ·show s.list ++ [_] = _
   rw [I.list, take_succ' h, List.map_append]
   show _ = _ :: (_ ++ [leT ts ino t])
   unfold leT
   rw [if_pos hf]; rfl
  ·rw [at_addN, take_succ' h]
   by_cases e : ino t.o = ino u.o
   ·rw [if_pos e]
    have eo := W.ino1 t htm u hu e
    constructor
    ·intro c; cases c
    ·intro c; exact absurd eo (c t (by simp))
   ·rw [if_neg e, I.new u hu]
    constructor
    ·intro c v hv
     rcases List.mem_append.1 hv with hv | hv
     ·exact c v hv
     ·rw [List.mem_singleton] at hv; subst hv; exact fun eo => e (by rw [eo])
    ·intro c v hv; exact c v (by simp [hv])
  ·rw [at_addN] at e
   show ((s.list ++ [_])[j]?.map Le.path).getD [] = _
   by_cases e2 : ino t.o = ino u.o
   ·rw [if_pos e2] at e
    injection e with e
    subst e
    rw [List.getElem?_append_right (Nat.le_refl _), Nat.sub_self, ← W.ino1 t htm u hu e2, hf]
    rfl
   ·rw [if_neg e2] at e
    rw [List.getElem?_append_left (I.ok.at_lt e)]
    exact I.old u hu j e
 | some f =>
  simp only
  have hex : ∃ v ∈ ts.take k, v.o = t.o := by
   apply Classical.byContradiction
   intro c
   have := (I.new t htm).2 fun v hv e => c ⟨v, hv, e⟩
   rw [ha] at this
   cases this
  have hfo := I.old t htm f ha
  have hne : fstN ts t.o ≠ t.p := by
   obtain ⟨u, hu, e⟩ := fst_old hex
   obtain ⟨i, hi, hiu⟩ := mem_take_iff.1 hu
   intro c
   have := W.once hiu h (by rw [← e, c])
   omega
  refine ⟨I.ok.addF (W.path t htm).2.1 hl2, ?_, fun u hu => ?_, fun u hu j e => ?_⟩
  ·show s.list ++ [_] = _
   rw [hfo]
   rw [I.list, take_succ' h, List.map_append]
   show _ = _ :: (_ ++ [leT ts ino t])
   unfold leT
   rw [if_neg hne]; rfl
  ·rw [at_addF, I.new u hu, take_succ' h]
   constructor
   ·intro c v hv
    rcases List.mem_append.1 hv with hv | hv
    ·exact c v hv
    ·rw [List.mem_singleton] at hv
     subst hv
     obtain ⟨v2, hv2, e2⟩ := hex
     rw [← e2]; exact c v2 hv2
   ·intro c v hv; exact c v (by simp [hv])
  ·rw [at_addF] at e
   show ((s.list ++ [_])[j]?.map Le.path).getD [] = _
   rw [List.getElem?_append_left (I.ok.at_lt e)]
   exact I.old u hu j e
theorem Wi.all {ts : List (Tp Tx)} {ns : List No} {ino : Tx → Nat} (W : Wt ts ns ino) : ∀ k, k ≤ ts.length → Wi ts ns.length ino k (St ts ino k)
 | 0, _ => Wi.start W
 | k + 1, h => by
  have e := List.getElem?_eq_getElem (l := ts) (i := k) (by omega)
  rw [St_next e]
  exact Wi.next W e (Wi.all W k (by omega))
/-- a name that waits is met, and all that is below it -/
def MeetOk (ts : List (Tp Tx)) (ns : List No) (ino : Tx → Nat) (f : Nat) : Prop := ∀ (k : Nat) (t : Tp Tx) (R : List (Tp Tx)), k ≤ ts.length → pend ts k = t :: R → ns.length - (St ts ino k).met.length < f →
  ∃ k', k' ≤ ts.length ∧ meetP ns f (St ts ino k) (ino t.o) t.p = some (St ts ino k') ∧ pend ts k' = R
theorem kids_ok {ts : List (Tp Tx)} {ns : List No} {ino : Tx → Nat} (W : Wt ts ns ino) {f : Nat} (A : MeetOk ts ns ino f) (q : Tx) : ∀ (K : List (Tp Tx)) (k : Nat) (R : List (Tp Tx)), (∀ t ∈ K, t ∈ ts ∧ upT t.p = q) → k ≤ ts.length → pend ts k = K ++ R → ns.length - (St ts ino k).met.length < f →
  ∃ k', k' ≤ ts.length ∧ kidsP (meetP ns f) (ahd q) (K.map (kdT ino)) (St ts ino k) = some (St ts ino k') ∧ pend ts k' = R
 | [], k, R, hK, hk, hp, hf => ⟨k, hk, rfl, hp⟩
 | t :: K, k, R, hK, hk, hp, hf => by
  obtain ⟨htm, hu⟩ := hK t (by simp)
  have hpt := W.path t htm
  obtain ⟨k1, hk1, e1, p1⟩ := A k t (K ++ R) hk hp hf
  have hm := (meetP_ok f _ _ _ _ (Wi.all W k hk).ok e1).2
  obtain ⟨k2, hk2, e2, p2⟩ := kids_ok W A q K k1 R (fun u hu => hK u (by simp [hu])) hk1 p1 (by omega)
  refine ⟨k2, hk2, ?_, p2⟩
  rw [List.map_cons]
  unfold kidsP
  have e3 : ahd q ++ (kdT ino t).n = t.p := by rw [← hu]; exact hpt.2.2.1
  rw [if_pos (show vld (kdT ino t).n = true from hpt.2.2.2), e3]
  show (match meetP ns f (St ts ino k) (ino t.o) t.p with
   | none => none
   | some s' => kidsP (meetP ns f) (ahd q) (K.map (kdT ino)) s') = _
  rw [e1]
  exact e2
theorem meet_ok {ts : List (Tp Tx)} {ns : List No} {ino : Tx → Nat} (W : Wt ts ns ino) : ∀ f, MeetOk ts ns ino f
 | 0, k, t, R, hk, hp, hf => by omega
 | f + 1, k, t, R, hk, hp, hf => by
  obtain ⟨ht, rfl⟩ := pend_some W hp
  have htm : t ∈ ts := List.mem_of_getElem? ht
  have hkl := (List.getElem?_eq_some_iff.1 ht).1
  have I := Wi.all W k hk
  have hl : (St ts ino k).list.length = k + 1 := by rw [I.list, List.length_cons, List.length_map, List.length_take]; omega
  have hpt := W.path t htm
  have hlen := W.len
  obtain ⟨n, hn, hc, h2, hkids⟩ := W.nd t htm
  have hnx := pend_next W ht
  have hst := St_next (ino := ino) ht
  unfold meetP
  rw [if_pos ⟨Int.natCast_nonneg _, hpt.2.1, by omega⟩]
  rw [Int.toNat_natCast, hn]
  simp only
  cases ha : (St ts ino k).at_ (ino t.o) with
  | some j =>
   simp only
   have hd : ¬ t.dir = true := fun hd => by
    have : ¬ ∀ v ∈ ts.take k, v.o ≠ t.o := fun c => by rw [(I.new t htm).2 c] at ha; cases ha
    apply this
    intro v hv e
    obtain ⟨i, hi, hiv⟩ := mem_take_iff.1 hv
    have := W.dir1 t htm v (List.mem_of_getElem? hiv) hd e
    have := W.once hiv ht this
    omega
   rw [if_neg (fun c => hd (h2.1 c))]
   rw [if_neg hd, List.nil_append] at hnx
   refine ⟨k + 1, hkl, ?_, hnx⟩
   rw [hst]
   unfold wst
   rw [ha]
  | none =>
   simp only
   have hw : wst ino (St ts ino k) t = addN (St ts ino k) (ino t.o) t.p := by unfold wst; rw [ha]
   rw [hw] at hst
   by_cases hd : t.dir = true
   ·rw [if_pos (h2.2 hd), hkids hd, ← hst]
    rw [if_pos hd] at hnx
    have hfew := I.ok.fewer (List.getElem?_eq_some_iff.1 hn).1 ha
    have hml : (St ts ino (k + 1)).met.length = (St ts ino k).met.length + 1 := by rw [hst]; rfl
    exact kids_ok W (meet_ok W f) t.p _ (k + 1) _ (fun u hu => by
     obtain ⟨a, b⟩ := List.mem_filter.1 hu
     exact ⟨a, of_decide_eq_true b⟩) hkl hnx (by omega)
   ·rw [if_neg (fun c => hd (h2.1 c))]
    rw [if_neg hd, List.nil_append] at hnx
    exact ⟨k + 1, hkl, by rw [hst], hnx⟩
/-- the whole walk -/
theorem walk_all {ts : List (Tp Tx)} {ns : List No} {ino : Tx → Nat} (W : Wt ts ns ino) (f : Nat) (hf : ns.length ≤ f) : ∃ s, meetP ns (f + 1) ⟨[], []⟩ 0 [] = some s ∧ s.list = ⟨[], .inl 0⟩ :: ts.map (leT ts ino) := by
 obtain ⟨n, hn, h2, hk⟩ := W.root
 have hn0 := (List.getElem?_eq_some_iff.1 hn).1
 have e0 : pend ts 0 = (ts.filter fun u => decide (upT u.p = [])) ++ [] := by
  unfold pend
  rw [List.append_nil, List.drop_zero]
  congr 1
  funext x
  unfold cnd
  simp
 obtain ⟨k', hk', e1, p1⟩ := kids_ok W (meet_ok W f) [] _ 0 [] (fun u hu => by
  obtain ⟨a, b⟩ := List.mem_filter.1 hu
  exact ⟨a, of_decide_eq_true b⟩) (Nat.zero_le _) e0 (by show ns.length - 1 < f; omega)
 have hend := pend_end W p1
 obtain rfl : k' = ts.length := by omega
 refine ⟨St ts ino ts.length, ?_, ?_⟩
 ·unfold meetP
  rw [if_pos ⟨Int.le_refl _, Nat.zero_le _, Nat.zero_le _⟩]
  show (match ns[0]? with
   | none => none
   | some n => match (⟨[], []⟩ : Wk).at_ 0 with
    | some j => if n.k = 2 then none else some (addF ⟨[], []⟩ j [])
    | none => if n.k = 2 then kidsP (meetP ns f) (ahd []) n.kids (addN ⟨[], []⟩ 0 []) else some (addN ⟨[], []⟩ 0 [])) = _
  rw [hn]
  show (if n.k = 2 then kidsP (meetP ns f) (ahd []) n.kids (addN ⟨[], []⟩ 0 []) else some (addN ⟨[], []⟩ 0 [])) = _
  rw [if_pos h2, hk]
  exact e1
 ·have := (Wi.all W ts.length (Nat.le_refl _)).list
  rw [List.take_length] at this
  exact this
/-- a node without kids, parent, links -/
def coreN (n : No) : No := { n with kids := [], parent := 0, links := 0 }
def coreAt (ns : List No) (j : Nat) : Option No := (ns[j]?).map coreN
theorem core_modify {ns : List No} {i j : Nat} {f : No → No} (h : ∀ n, coreN (f n) = coreN n) : coreAt (ns.modify i f) j = coreAt ns j := by
 unfold coreAt
 rw [List.getElem?_modify]
 cases e : ns[j]? with
 | none => simp
 | some n =>
  by_cases hij : i = j
  ·simp [hij, h]
  ·simp [hij]
theorem core_bst {α : Type} [DecidableEq α] (s : Bs α) (t : Tp α) (j : Nat) : coreAt (bst s t).ns j = coreAt (newO s t).ns j := by
 have e1 : ∀ ns i, coreAt (addLink i ns) j = coreAt ns j := fun ns i => core_modify (f := fun n => { n with links := n.links + 1 }) fun _ => rfl
 have e2 : ∀ ns i u, coreAt (setUp i u ns) j = coreAt ns j := fun ns i u => core_modify (f := fun n => { n with parent := (u : Nat) }) fun _ => rfl
 have e3 : ∀ ns i c, coreAt (addKid i c ns) j = coreAt ns j := fun ns i c => core_modify (f := fun n => { n with kids := n.kids ++ [c] }) fun _ => rfl
 unfold bst
 simp only
 split
 ·rw [e1, e2, e3]
 ·rw [e1, e3]
theorem core_new {α : Type} [DecidableEq α] {s : Bs α} {t : Tp α} (hl : s.ns.length = s.os.length + 1) {j : Nat} (hj : j ≤ s.os.length) : coreAt (newO s t).ns j = coreAt s.ns j := by
 unfold newO
 split
 ·rfl
 ·unfold coreAt
  rw [List.getElem?_append_left (by omega)]
theorem idx_lt {α : Type} {os : List (α × Option Tx)} {p : (α × Option Tx) → Bool} (h : ∃ x ∈ os, p x = true) : ∃ j, os.findIdx? p = some j ∧ j < os.length := by
 cases e : os.findIdx? p with
 | none =>
  rw [List.findIdx?_eq_none_iff] at e
  obtain ⟨x, hx, k⟩ := h
  have := e x hx
  rw [k] at this
  cases this
 | some j =>
  refine ⟨j, rfl, ?_⟩
  rw [List.findIdx?_eq_some_iff_getElem] at e
  exact e.1
theorem inoOf_le {α : Type} [DecidableEq α] {os : List (α × Option Tx)} {o : α} (h : ∃ x ∈ os, x.1 = o) : 1 ≤ inoOf os o ∧ inoOf os o ≤ os.length := by
 obtain ⟨x, hx, k⟩ := h
 obtain ⟨j, e, hj⟩ := idx_lt (p := fun x => decide (x.1 = o)) ⟨x, hx, decide_eq_true k⟩
 unfold inoOf
 rw [e]
 simp only
 omega
/-- each name's node bears the fields that were laid for its owner -/
structure Kc {α : Type} [DecidableEq α] (root : No) (us : List (Tp α)) (s : Bs α) : Prop where
 met : Met us s.os
 len : s.ns.length = s.os.length + 1
 root : coreAt s.ns 0 = some (coreN root)
 core : ∀ u ∈ us, coreAt s.ns (inoOf s.os u.o) = some (coreN u.nd)
theorem Kc.step {α : Type} [DecidableEq α] {root : No} {us : List (Tp α)} {s : Bs α} (h : Kc root us s) (t : Tp α) (hs : ∀ u ∈ us, u.o = t.o → u.nd = t.nd) : Kc root (us ++ [t]) (bst s t) := by
 have hso : (bst s t).os = (newO s t).os := rfl
 obtain ⟨q, hq, -⟩ := newO_os s t
 refine ⟨by rw [hso]; exact h.met.step t, by rw [len_bst, hso]; exact len_newO t h.len, ?_, fun u hu => ?_⟩
 ·rw [core_bst, core_new h.len (Nat.zero_le _)]
  exact h.root
 ·rw [core_bst, hso]
  have old : ∀ v ∈ us, coreAt (newO s t).ns (inoOf (newO s t).os v.o) = some (coreN v.nd) := by
   intro v hv
   have hm := h.met.has v hv
   rw [hq, inoOf_app hm, core_new h.len (inoOf_le hm).2]
   exact h.core v hv
  rcases List.mem_append.1 hu with k | k
  ·exact old u k
  ·rw [List.mem_singleton.1 k]
   by_cases hin : s.os.any (fun x => decide (x.1 = t.o)) = true
   ·obtain ⟨x, hx, e⟩ := List.any_eq_true.1 hin
    obtain ⟨v, hv, e2⟩ := h.met.own x hx
    have e3 : v.o = t.o := by rw [← e2]; exact of_decide_eq_true e
    have := old v hv
    rw [e3, hs v hv e3] at this
    exact this
   ·have e1 : (newO s t).os = s.os ++ [(t.o, if t.dir = true then some t.p else none)] := by unfold newO; rw [if_neg hin]
    have e2 : (newO s t).ns = s.ns ++ [{ t.nd with links := if t.dir = true then 2 else 0 }] := by unfold newO; rw [if_neg hin]
    have e3 : inoOf (newO s t).os t.o = s.os.length + 1 := by
     unfold inoOf
     rw [e1, List.findIdx?_append]
     have : s.os.findIdx? (fun x => decide (x.1 = t.o)) = none := by
      rw [List.findIdx?_eq_none_iff]
      intro x hx
      cases hc : decide (x.1 = t.o) with
      | false => rfl
      | true => exact absurd (List.any_eq_true.2 ⟨x, hx, hc⟩) hin
     rw [this]
     simp
    rw [e3, e2]
    unfold coreAt
    rw [List.getElem?_append_right (by rw [h.len]; omega), h.len]
    simp [coreN]
theorem bld_core {α : Type} [DecidableEq α] {root : No} {ts : List (Tp α)} (hs : ∀ u ∈ ts, ∀ v ∈ ts, u.o = v.o → u.nd = v.nd) : Kc root ts (ts.foldl bst ⟨[], [{ root with links := 2 }]⟩) := by
 have key : ∀ (vs us : List (Tp α)) (s : Bs α), ts = us ++ vs → Kc root us s → Kc root ts (vs.foldl bst s) := by
  intro vs
  induction vs with
  | nil => intro us s e h; rw [List.append_nil] at e; rw [e]; exact h
  | cons t vs ih =>
   intro us s e h
   rw [List.foldl_cons]
   exact ih (us ++ [t]) (bst s t) (by rw [e]; simp) (h.step t fun u hu k => hs u (by rw [e]; simp [hu]) t (by rw [e]; simp) k)
 refine key ts [] _ rfl ⟨⟨fun x h => (by cases h), fun x h => (by cases h), fun u h => (by cases h), fun za bs u e => by simp at e⟩, rfl, rfl, fun u h => (by cases h)⟩
/-- the nodes of a right list's tree -/
theorem canon_core {l : List En} (ok : OkS l) : Kc (ndOf (look l [])) (trs l) ((trs l).foldl bst ⟨[], [{ ndOf (look l []) with links := 2 }]⟩) := bld_core fun u hu v hv e => (nm_same ok (nm_of ok hu) (nm_of ok hv) e).1
end Go.Proofs.YtlehncfehoelbaaGreatDoor
