/- List tells the entries of a tree in the one way. The program's tree: the walker in memory. The program's tree: what is in a folder is met. -/
import Derived.WalkLawsBesides
import Derived.Test.YtlehncfehoelbaaGreatDoorB09
import Derived.Test.YtlehncfehoelbaaGreatDoorB28
namespace Go.Proofs.YtlehncfehoelbaaGreatDoor
set_option linter.unusedVariables false
set_option linter.unusedSimpArgs false
/-- an owner's entry: from its name -/
theorem os_from {ts : List (Tp Tx)} {r : No} : ∀ x ∈ (ts.foldl bst ⟨[], [r]⟩).os, ∃ t ∈ ts, x.1 = t.o ∧ x.2 = if t.dir = true then some t.p else none := by
 have key : ∀ (vs : List (Tp Tx)) (s : Bs Tx) (P : (Tx × Option Tx) → Prop), (∀ x ∈ s.os, P x) → (∀ t ∈ vs, P (t.o, if t.dir = true then some t.p else none)) → ∀ x ∈ (vs.foldl bst s).os, P x := by
  intro vs
  induction vs with
  | nil => intro s P h _ x hx; exact h x hx
  | cons t vs ih =>
   intro s P h k x hx
   refine ih (bst s t) P (fun y hy => ?_) (fun u hu => k u (by simp [hu])) x hx
   rcases newO_dir s t y hy with h1 | ⟨h1, h2⟩
   ·exact h y h1
   ·have := k t (by simp)
    rw [← h1, ← h2] at this
    exact this
 intro x hx
 exact key ts ⟨[], [r]⟩ (fun x => ∃ t ∈ ts, x.1 = t.o ∧ x.2 = if t.dir = true then some t.p else none) (fun x h => by cases h) (fun t ht => ⟨t, ht, rfl, rfl⟩) x hx
theorem ino_inj {os : List (Tx × Option Tx)} {a b : Tx} (ha : ∃ x ∈ os, x.1 = a) (hb : ∃ x ∈ os, x.1 = b) (e : inoOf os a = inoOf os b) : a = b := by
 obtain ⟨x, hx, ea⟩ := ha
 obtain ⟨y, hy, eb⟩ := hb
 obtain ⟨i, hi, hil⟩ := idx_lt (p := fun x : Tx × Option Tx => decide (x.1 = a)) ⟨x, hx, decide_eq_true ea⟩
 obtain ⟨j, hj, hjl⟩ := idx_lt (p := fun x : Tx × Option Tx => decide (x.1 = b)) ⟨y, hy, decide_eq_true eb⟩
 unfold inoOf at e
 rw [hi, hj] at e
 simp only at e
 obtain rfl : i = j := by omega
 rw [List.findIdx?_eq_some_iff_getElem] at hi hj
 have h1 := of_decide_eq_true hi.2.1
 have h2 := of_decide_eq_true hj.2.1
 rw [← h1, h2]
/-- a folder's number is its owner's -/
theorem up_ino {os : List (Tx × Option Tx)} {q o : Tx} (h : ∀ x ∈ os, x.1 = o ↔ x.2 = some q) : upOf os q = inoOf os o := by
 unfold upOf inoOf
 rw [findIdx_congr (l := os) (p := fun x => decide (x.2 = some q)) (q := fun x => decide (x.1 = o)) fun x hx => by
  have := h x hx
  by_cases e : x.1 = o
  ·rw [decide_eq_true e, decide_eq_true (this.1 e)]
  ·rw [decide_eq_false e, decide_eq_false (fun c => e (this.2 c))]]
theorem path_form {x : En} (h : pth x = 0) (hn : x.path ≠ []) : x.path.length ≤ 4096 ∧ ahd (upT x.path) ++ lastT x.path = x.path ∧ vld (lastT x.path) = true := by
 unfold pth at h
 rw [if_neg hn] at h
 split at h
 ·cases h
 ·split at h
  ·cases h
  ·rename_i hv
   split at h
   ·cases h
   ·rename_i h3
    have hj2 : (jnp (spl x.path).1).2 = 0 := Classical.byContradiction fun e => h3 (Or.inl e)
    have hj1 : (jnp (spl x.path).1).1 = x.path := Classical.byContradiction fun e => h3 (Or.inr e)
    obtain ⟨k1, k2, k3, k4⟩ := jnp_ok hj2
    have hv2 : ∀ p ∈ (spl x.path).1, vld p = true := fun p hp => by
     cases hq : vld p with
     | true => rfl
     | false => exact absurd (List.any_eq_true.2 ⟨p, hp, by rw [hq]; rfl⟩) hv
    generalize (spl x.path).1 = L at *
    rw [k4] at hj1
    rcases List.eq_nil_or_concat L with e | ⟨M, y, e⟩
    ·subst e
     exact absurd hj1.symm hn
    ·rw [List.concat_eq_append] at e
     subst e
     have hy : ∀ c ∈ y, c ≠ 47 := fun c hc => ((prt_facts (k2 y (by simp))).1 c hc).1
     have hvy := hv2 y (by simp)
     by_cases hM : M = []
     ·subst hM
      have e : joi ([] ++ [y]) = y := rfl
      rw [e] at hj1 k3
      rw [← hj1]
      obtain ⟨u1, u2⟩ := up_one hy
      rw [u1, u2]
      exact ⟨k3, rfl, hvy⟩
     ·rw [joi_snoc M y hM] at hj1 k3
      rw [← hj1]
      obtain ⟨u1, u2⟩ := up_app (a := joi M) hy
      rw [u1, u2]
      refine ⟨k3, ?_, hvy⟩
      unfold ahd
      rw [if_neg]
      ·simp
      ·intro e
       have hs := jnp_of (l := M) (by simp at k1; omega) (fun p hp => k2 p (by simp [hp])) (by rw [List.length_append] at k3; omega)
       cases M with
       | nil => exact hM rfl
       | cons a r =>
        have hva := hv2 a (by simp)
        cases r with
        | nil =>
         have e : a = [] := e
         rw [e] at hva
         simp [vld] at hva
        | cons b r =>
         have e : a ++ 47 :: joi (b :: r) = [] := e
         simp at e
theorem nm_k2 {l : List En} {t : Tp Tx} (h : Nm l t) : t.nd.k = 2 ↔ t.dir = true := by
 obtain ⟨y, hy, a1, a2, a3, a4⟩ := h.y
 rw [a3, a4, decide_eq_true_iff]
 exact Iff.rfl
/-- the tree of a right list is walked -/
theorem canon_wt {l : List En} (ok : OkS l) (hl : l.length ≤ 16384) : Wt (trs l) (canon l) (inoOf ((trs l).foldl bst ⟨[], [{ ndOf (look l []) with links := 2 }]⟩).os) := by
 obtain ⟨os, K, hos⟩ := canon_kids ok
 have C := canon_core ok
 have hF : ∀ x ∈ os, ∃ t ∈ trs l, x.1 = t.o ∧ x.2 = if t.dir = true then some t.p else none := by rw [← hos]; exact os_from
 rw [canon_trs]
 unfold bld
 generalize (trs l).foldl bst ⟨[], [{ ndOf (look l []) with links := 2 }]⟩ = s at *
 subst hos
 have hsort := psL_sorted ok.rt
 rw [← trs_paths, List.pairwise_map] at hsort
 have hroot : ∀ x ∈ s.os, x.2 ≠ some [] := fun x hx e => by
  obtain ⟨t, ht, e1, e2⟩ := hF x hx
  rw [e] at e2
  split at e2
  ·injection e2 with e2
   exact (nm_of ok ht).ne e2.symm
  ·cases e2
 have hdir1 : ∀ t ∈ trs l, ∀ u ∈ trs l, t.dir = true → u.o = t.o → u.p = t.p := fun t ht u hu hd e => by
  have h1 := nm_dir ok ht hd
  have h2 := nm_dir ok hu (by rw [(nm_same ok (nm_of ok hu) (nm_of ok ht) e).2]; exact hd)
  rw [← h1, ← h2, e]
 have hup : ∀ t ∈ trs l, t.dir = true → upOf s.os t.p = inoOf s.os t.o := fun t ht hd => up_ino fun x hx => by
  obtain ⟨u, hu, e1, e2⟩ := hF x hx
  rw [e1, e2]
  constructor
  ·intro e
   rw [if_pos (by rw [(nm_same ok (nm_of ok hu) (nm_of ok ht) e).2]; exact hd), hdir1 t ht u hu hd e]
  ·intro e
   split at e
   ·injection e with e
    rw [trs_inj hu ht e]
   ·cases e
 have hahead : ∀ (k : Nat) (t : Tp Tx), (trs l)[k]? = some t → upT t.p = [] ∨ ∃ u ∈ (trs l).take k, u.dir = true ∧ u.p = upT t.p := fun k t ht => by
  have e : trs l = (trs l).take k ++ t :: (trs l).drop (k + 1) := by rw [← drop_at ht, List.take_append_drop]
  rcases trs_ahead ok _ _ t e with h | ⟨u, hu, h1, h2, -⟩
  ·exact Or.inl h
  ·exact Or.inr ⟨u, hu, h1, h2⟩
 -- a name is in which folder
 have hin : ∀ u ∈ trs l, ∀ t ∈ trs l, t.dir = true → (upOf s.os (upT u.p) = inoOf s.os t.o ↔ upT u.p = t.p) := fun u hu t ht hd => by
  constructor
  ·intro e
   obtain ⟨k, hk⟩ := List.mem_iff_getElem?.1 hu
   rcases hahead k u hk with h | ⟨v, hv, h1, h2⟩
   ·rw [h, upOf_none hroot] at e
    have := (inoOf_le (K.met.has t ht)).1
    omega
   ·have hvm := List.mem_of_mem_take hv
    rw [← h2, hup v hvm h1] at e
    rw [← h2]
    exact hdir1 t ht v hvm hd (ino_inj (K.met.has v hvm) (K.met.has t ht) e)
  ·intro e
   rw [e]; exact hup t ht hd
 have hin0 : ∀ u ∈ trs l, (upOf s.os (upT u.p) = 0 ↔ upT u.p = []) := fun u hu => by
  constructor
  ·intro e
   obtain ⟨k, hk⟩ := List.mem_iff_getElem?.1 hu
   rcases hahead k u hk with h | ⟨v, hv, h1, h2⟩
   ·exact h
   ·have hvm := List.mem_of_mem_take hv
    rw [← h2, hup v hvm h1] at e
    have := (inoOf_le (K.met.has v hvm)).1
    omega
  ·intro e
   rw [e]; exact upOf_none hroot
 have hkid : ∀ (j : Nat) (n : No), s.ns[j]? = some n → n.kids = ((trs l).filter fun t => decide (upOf s.os (upT t.p) = j)).map (kdT (inoOf s.os)) := fun j n hn => by
  have hj := (List.getElem?_eq_some_iff.1 hn).1
  have := K.kids j (by have := K.len; omega)
  unfold kidsAt at this
  rw [hn] at this
  injection this with this
 have hcore : ∀ (a b : No), coreN a = coreN b → (∀ p, enOf p a = enOf p b) ∧ a.k = b.k := fun a b e => by
  have h1 : ∀ n p, enOf p n = enOf p (coreN n) := fun n p => rfl
  exact ⟨fun p => by rw [h1 a, h1 b, e], (congrArg No.k e : (coreN a).k = (coreN b).k)⟩
 refine ⟨hsort, hahead, fun t ht => ?_, fun t ht => ?_, hdir1, fun t ht u hu e => ino_inj (K.met.has t ht) (K.met.has u hu) e, fun t ht => (inoOf_le (K.met.has t ht)).1, fun t ht => ?_, ?_, ?_⟩
 ·have nt := nm_of ok ht
  obtain ⟨x, hx, hxp, -⟩ := nt.x
  have := path_form (ok.each x hx).path (by rw [hxp]; exact nt.ne)
  rw [hxp] at this
  exact ⟨nt.ne, this⟩
 ·have nt := nm_of ok ht
  obtain ⟨x, hx, hxp, -⟩ := nt.x
  have := up_parts (ok.each x hx).path (by rw [hxp]; exact nt.ne)
  rw [hxp] at this
  exact this
 ·have hc := C.core t ht
  unfold coreAt at hc
  cases hn : s.ns[inoOf s.os t.o]? with
  | none => rw [hn] at hc; cases hc
  | some n =>
   rw [hn] at hc
   injection hc with hc
   obtain ⟨h1, h2⟩ := hcore _ _ hc
   refine ⟨n, rfl, h1, by rw [h2]; exact nm_k2 (nm_of ok ht), fun hd => ?_⟩
   rw [hkid _ n hn]
   congr 1
   apply List.filter_congr
   intro u hu
   have := hin u hu t ht hd
   by_cases e : upT u.p = t.p
   ·rw [decide_eq_true e, decide_eq_true (this.2 e)]
   ·rw [decide_eq_false e, decide_eq_false (fun c => e (this.1 c))]
 ·have hc := C.root
  unfold coreAt at hc
  cases hn : s.ns[0]? with
  | none => rw [hn] at hc; cases hc
  | some n =>
   rw [hn] at hc
   injection hc with hc
   obtain ⟨h1, h2⟩ := hcore _ _ hc
   refine ⟨n, rfl, by rw [h2]; exact (root_ok ok).1, ?_⟩
   rw [hkid _ n hn]
   congr 1
   apply List.filter_congr
   intro u hu
   have := hin0 u hu
   by_cases e : upT u.p = []
   ·rw [decide_eq_true e, decide_eq_true (this.2 e)]
   ·rw [decide_eq_false e, decide_eq_false (fun c => e (this.1 c))]
 ·have h1 : (trs l).length = ((trs l).map Tp.p).length := by rw [List.length_map]
  rw [trs_paths] at h1
  unfold psL at h1
  rw [List.length_map] at h1
  have A := (ordr_acc ok.rt ((pths l).length + 1) [] (Acc.nil _) (by have := left_le (pths l) []; omega)).1
  have : (ordL (pths l)).length ≤ l.length := nodup_le (n := l.length) (by
   have h3 : ((ordL (pths l)).map fun i => (pths l).getD i []).Nodup := pairwise_nodup (psL_sorted ok.rt)
   exact (List.pairwise_map.1 h3).imp fun hne e => hne (by rw [e])) fun i hi => by
    obtain ⟨x, hx, -⟩ := ordL_lt ok hi
    exact (List.getElem?_eq_some_iff.1 hx).1
  omega
/-- an entry that is listed -/
def enL (ns : List No) (x : Le) : En := match x.src with
 | .inl i => enOf x.path ((ns[i]?).getD ⟨0, 0, 0, 0, 0, 0, [], [], 0, [], [], 0, 0⟩)
 | .inr q => hrd x.path q
/-- what List tells of the tree of a right list -/
theorem list_canon {l : List En} (ok : OkS l) (hl : l.length ≤ 16384) (f : Nat) (hf : (canon l).length ≤ f) : ∃ s, meetP (canon l) (f + 1) ⟨[], []⟩ 0 [] = some s ∧ s.list.map (enL (canon l)) = lstL l := by
 have W := canon_wt ok hl
 obtain ⟨s, hs, e⟩ := walk_all W f hf
 refine ⟨s, hs, ?_⟩
 rw [e]
 unfold lstL mkL
 rw [List.map_cons, List.map_map]
 congr 1
 ·obtain ⟨n, hn, -, -⟩ := W.root
  show enOf [] (((canon l)[0]?).getD _) = _
  have hc := (canon_core ok).root
  rw [canon_trs] at hn ⊢
  unfold bld at hn ⊢
  unfold coreAt at hc
  rw [hn] at hc ⊢
  injection hc with hc
  have h1 : ∀ n p, enOf p n = enOf p (coreN n) := fun n p => rfl
  show enOf [] n = _
  rw [h1 n, h1 (ndOf _), hc]
 ·apply List.map_congr_left
  intro t ht
  obtain ⟨n, hn, h1, -, -⟩ := W.nd t ht
  show enL (canon l) (leT _ _ t) = mkE _ t
  unfold leT mkE enL
  by_cases hc : fstN (trs l) t.o = t.p
  ·rw [if_pos hc, if_pos hc]
   show enOf t.p (((canon l)[inoOf _ t.o]?).getD _) = _
   rw [hn]
   exact h1 t.p
  ·rw [if_neg hc, if_neg hc]
end Go.Proofs.YtlehncfehoelbaaGreatDoor
namespace Go.Proofs.YtlehncfehoelbaaGreatDoor
open Go.RowKit
set_option maxRecDepth 100000
open Go.Maps (Keyed)
set_option linter.unusedSimpArgs false
set_option linter.unusedVariables false
/-- what else is asked of a node -/
structure Ncp (N : NoV) : Prop where
 d : N.dl ≤ N.dc
 a : N.al ≤ N.ac
 t : N.target.size ≤ 9223372036854775807
 n : ∀ A ∈ N.attrs, A.n.size ≤ 9223372036854775807
 k : ∀ k ∈ N.kids, k.n.length ≤ 1000000
def nz : NoV := ⟨0, 0, 0, 0, 0, 0, none, 0, 0, [], tx [], 0, none, 0, 0, [], none, 0, 0, [], 0, 0⟩
def hrv (p q : ByteArray) : EnV := ⟨p, 6, 0, 0, 0, 0, 0, none, 0, 0, [], q, 0, none, 0, 0, []⟩
/-- an entry that is listed, in the tree's memory -/
def evL (ns : List NoV) (x : Le) : EnV := match x.src with
 | .inl i => ((ns[i]?).getD nz).ent (tx x.path)
 | .inr q => hrv (tx x.path) (tx q)
theorem ent_en (N : NoV) (p : Tx) : (N.ent (tx p)).en = enOf p N.no := by
 unfold NoV.ent EnV.en enOf NoV.no
 simp only [tx_tl]
theorem evL_en (ns : List NoV) (x : Le) : (evL ns x).en = enL (nos ns) x := by
 unfold evL enL
 cases hx : x.src with
 | inl i =>
  simp only [ent_en]
  unfold nos
  rw [List.getElem?_map]
  cases hn : ns[i]? with
  | none =>
   simp only [Option.getD_none, Option.map_none]
   unfold nz NoV.no
   simp only [tx_tl]; rfl
  | some N => rfl
 | inr q =>
  show (hrv (tx x.path) (tx q)).en = hrd x.path q
  unfold hrv hrd EnV.en
  simp only [tx_tl]; rfl
theorem evL_path (ns : List NoV) (x : Le) : (evL ns x).path = tx x.path := by
 unfold evL
 split <;> rfl
theorem row_none0 (w : World) : Row w none 0 [] := row_zero none
theorem ats_none (w : World) : Ats w none 0 [] := ⟨rfl, Nat.zero_le _, fun h => absurd h (by omega)⟩
theorem evL_ok {w : World} {a : Option Addr} {n : Nat} {ns : List NoV} (h : Nos w a n ns) (hc : ∀ N ∈ ns, Ncp N) (x : Le) : (evL ns x).ok w := by
 unfold evL
 split
 ·rename_i i _
  cases hn : ns[i]? with
  | none => exact ⟨row_none0 w, Nat.le_refl _, ats_none w, Nat.le_refl _⟩
  | some N =>
   have hi := (List.getElem?_eq_some_iff.1 hn).1
   obtain ⟨b, off, -, k⟩ := h.at_ (by rw [← h.len_eq]; omega)
   have o := (k i N hn).ok
   have c := hc N (List.mem_of_getElem? hn)
   exact ⟨o.row, c.d, o.ats, c.a⟩
 ·exact ⟨row_none0 w, Nat.le_refl _, ats_none w, Nat.le_refl _⟩
theorem evL_sz {ns : List NoV} (hc : ∀ N ∈ ns, Ncp N) {l : List Le} (hp : ∀ x ∈ l, x.path.length ≤ 4096) (hq : ∀ x ∈ l, ∀ q, x.src = .inr q → q.length ≤ 4096) : Szs (l.map (evL ns)) := by
 intro X hX
 obtain ⟨x, hx, rfl⟩ := List.mem_map.1 hX
 refine ⟨by rw [evL_path, tx_size]; have := hp x hx; omega, ?_⟩
 unfold evL
 cases hs : x.src with
 | inl i =>
  simp only
  cases hn : ns[i]? with
  | none => exact ⟨by show (tx []).size ≤ _; rw [tx_size]; simp, fun A hA => by cases hA⟩
  | some N =>
   have c := hc N (List.mem_of_getElem? hn)
   exact ⟨c.t, c.n⟩
 | inr q => exact ⟨by show (tx q).size ≤ _; rw [tx_size]; have := hq x hx q hs; omega, fun A hA => by cases hA⟩
/-- what was met, as the map has it -/
def metF (s : Wk) : Lit → Option Value := fun k => match k with
 | .int .i64 i => if 0 ≤ i then (s.at_ i.toNat).map (fun (j : Nat) => Value.int .i64 j) else none
 | _ => none
theorem metF_nat (s : Wk) (i : Nat) : metF s (.int .i64 (i : Int)) = (s.at_ i).map (fun (j : Nat) => Value.int .i64 j) := by
 show (if (0 : Int) ≤ (i : Int) then (s.at_ (i : Int).toNat).map (fun (j : Nat) => Value.int .i64 j) else none) = _
 rw [if_pos (Int.natCast_nonneg _), Int.toNat_natCast]
theorem metF_upd (s : Wk) (i : Nat) (p : Tx) (hk : WideAt.IsKeyLit (.int .i64 (i : Int))) : updF (metF s) (.int .i64 (i : Int)) (.int .i64 (s.list.length : Int)) = metF (addN s i p) := by
 funext x
 unfold updF
 by_cases hx : x = .int .i64 (i : Int)
 ·subst hx
  rw [if_pos (WideAt.sameKey_self hk), metF_nat]
  have e := at_addN (s := s) (i := i) (j := i) (p := p)
  rw [if_pos rfl] at e
  rw [e]; rfl
 ·rw [Maps.sameKey_ne hx, if_neg Bool.false_ne_true]
  unfold metF
  split
  ·rename_i j
   by_cases hj : 0 ≤ j
   ·rw [if_pos hj, if_pos hj]
    have e := at_addN (s := s) (i := i) (j := j.toNat) (p := p)
    rw [if_neg (fun c => hx (by rw [c, Int.toNat_of_nonneg hj]))] at e
    rw [e]
   ·rw [if_neg hj, if_neg hj]
  ·rfl
theorem metF_none : metF ⟨[], []⟩ = fun _ => none := by
 funext x
 unfold metF
 split
 ·split <;> rfl
 ·rfl
theorem key3 : Keyed Tryz.prog 3 := Maps.int_keyed Tryz.underlying3
theorem keyi (i : Nat) (h : i ≤ maxLen) : keyOf Tryz.prog 3 (.int .i64 (i : Int)) = some (.int .i64 (i : Int)) := by
 have e : ∀ v, keyOf Tryz.prog 3 v = mapKey Tryz.prog 3 v := fun v => by simp [keyOf, Tryz.underlying3]
 rw [e]
 unfold maxLen at h
 have hw : (Lit.int .i64 (i : Int)).wf = true := by
  simp [Lit.wf, IntKind.wrap, IntKind.bits, IntKind.signed, IntKind.min, IntKind.max]
  omega
 simp [mapKey, Tryz.underlying3, hw]
/-- the walker in memory: w is the world ahead of it -/
structure Wm (w W : World) (gw gm : Nat) (na : Option Addr) (n nc : Nat) (ns : List NoV) (s : Wk) (va : Option Addr) (vc : Nat) : Prop where
 eo : Eo w W w.heap.size (.slice va s.list.length vc) (s.list.map (evL ns))
 bx : Bx W gw 132 [.slice na n nc, .map (some gm), .slice va s.list.length vc]
 gwl : w.heap.size ≤ gw
 gml : w.heap.size ≤ gm
 map : MapF W 3 gm s.met.length (metF s)
theorem Wm.kept {w W W' : World} {gw gm n nc vc : Nat} {na va : Option Addr} {ns : List NoV} {s : Wk} (h : Wm w W gw gm na n nc ns s va vc) (g : W.grownBy W' none) : Wm w W' gw gm na n nc ns s va vc :=
 ⟨h.eo.kept g, h.bx.kept g, h.gwl, h.gml, h.map.kept g (by simp)⟩
theorem map_blk {W : World} {k gm n : Nat} {f : Lit → Option Value} (h : MapF W k gm n f) : ∃ es clock, W.heap[gm]? = some (.map es clock) := by
 obtain ⟨D, ⟨es, clock, hb, r⟩, h2⟩ := h
 exact ⟨es, clock, hb⟩
theorem map_ne_own {W : World} {k gm n b e s m : Nat} {f : Lit → Option Value} {v : Value} {xs : List Value} (h : MapF W k gm n f) (ho : W.ownsRow b e s v m xs) : some gm ≠ v.ownBlock := by
 obtain ⟨es, clock, hb⟩ := map_blk h
 rcases ho.2 with ⟨h0, _⟩ | ⟨q, cap, cur, hv, _, hq, _⟩
 ·rw [h0]; intro c; cases c
 ·rw [hv]
  intro c
  have c : some gm = some q := c
  injection c with c
  rw [← c, hb] at hq
  cases hq
theorem map_ne_bx {W : World} {k gm n g T : Nat} {f : Lit → Option Value} {cs : List Value} (h : MapF W k gm n f) (ho : Bx W g T cs) : gm ≠ g := by
 obtain ⟨es, clock, hb⟩ := map_blk h
 intro c
 rw [c, ho.blk] at hb
 cases hb
/-- a number is met -/
theorem Wm.met {w W W' : World} {gw gm n nc vc : Nat} {na va : Option Addr} {ns : List NoV} {s : Wk} {i : Nat} {p : Tx} (h : Wm w W gw gm na n nc ns s va vc) (hk : WideAt.IsKeyLit (.int .i64 (i : Int))) (hm : MapF W' 3 gm (s.met.length + 1) (updF (metF s) (.int .i64 (i : Int)) (.int .i64 (s.list.length : Int)))) (g : W.grownBy W' (some gm)) :
  Eo w W' w.heap.size (.slice va s.list.length vc) (s.list.map (evL ns)) ∧ Bx W' gw 132 [.slice na n nc, .map (some gm), .slice va s.list.length vc] ∧ MapF W' 3 gm (addN s i p).met.length (metF (addN s i p)) := by
 have hne := map_ne_own h.map h.eo.own
 refine ⟨⟨grown_new h.eo.gr g h.gml, h.eo.low, h.eo.own.kept g (Or.inr (fun c => hne c.symm)), h.eo.each⟩, h.bx.but g (fun c => map_ne_bx h.map h.bx (by injection c with c; exact c.symm)), ?_⟩
 rw [← metF_upd s i p hk]
 exact hm
/-- an entry more -/
theorem eo_add {w W W' : World} {v v' : Value} {l : List EnV} {X : EnV} (h : Eo w W w.heap.size v l) (hX : X.ok w) (ho : W'.ownsRow w.heap.size 30 11 v' (l.length + 1) (l.flatMap evc ++ evc X)) (g : W.grownBy W' v.ownBlock) : Eo w W' w.heap.size v' (l ++ [X]) := by
 refine ⟨grown_ownB h.gr h.own g h.low, h.low, ?_, fun Y hY => ?_⟩
 ·have e : (l ++ [X]).flatMap evc = l.flatMap evc ++ evc X := by rw [List.flatMap_append]; simp
  rw [List.length_append, e]
  exact ho
 ·rcases List.mem_append.1 hY with hY | hY
  ·exact h.each Y hY
  ·obtain rfl : Y = X := by simpa using hY
   exact hX
/-- the walker's list is laid anew -/
theorem eo_set {w W : World} {gw : Nat} {v : Value} {l : List EnV} {cs : List Value} (h : Eo w W w.heap.size v l) (b : Bx W gw 132 cs) (hg : w.heap.size ≤ gw) (i : Nat) (u : Value) : Eo w (W.setCell ⟨gw, i, none⟩ u) w.heap.size v l := by
 have g := grown_set W gw i u
 exact ⟨grown_new h.gr g hg, h.low, h.own.kept g (Or.inr fun c => bx_ne b h.own (by decide) c.symm), h.each⟩
def pan : List PanicEntry := [{ v := .iface 34 (.int .i64 1), recovered := false }]
theorem pnotree_any (w : World) : Calls Tryz.prog 81 #[] w fun e w' => e = .panicked pan ∧ w' = w := by
 go_enter Tryz.func81, Tryz.ntmps81
 go_wp2
 exact ⟨rfl, rfl, rfl⟩
end Go.Proofs.YtlehncfehoelbaaGreatDoor
namespace Go.Proofs.YtlehncfehoelbaaGreatDoor
open Go.RowKit
set_option maxRecDepth 100000
set_option linter.unusedSimpArgs false
set_option linter.unusedVariables false
/-- what meet and enter answer -/
def MtPost (w : World) (gw gm : Nat) (na : Option Addr) (n nc : Nat) (ns : List NoV) (o : Option Wk) (e : Ending) (W' : World) : Prop :=
 (o = none ∧ e = .panicked pan ∧ w.grownBy W' none) ∨ ∃ s' va vc, o = some s' ∧ e = .returned (.tuple #[]) ∧ Wm w W' gw gm na n nc ns s' va vc
/-- meet, with so much fuel -/
def MeetC (w : World) (gw gm : Nat) (na : Option Addr) (n nc : Nat) (ns : List NoV) (f : Nat) : Prop := ∀ (s : Wk) (i : Int) (p : ByteArray) (W : World) (va : Option Addr) (vc : Nat), Wm w W gw gm na n nc ns s va vc → s.ok n → p.size ≤ 2000000 → n - s.met.length < f →
  Calls Tryz.prog 80 #[.pointer (some ⟨gw, 0, none⟩), .int .i64 i, .string p] W (MtPost w gw gm na n nc ns (meetP (nos ns) f s i p.toList))
theorem vld_len {p : Tx} (h : vld p = true) : p.length ≤ 255 := by
 unfold vld at h
 simp only [Bool.and_eq_true, decide_eq_true_iff] at h
 exact h.1.1.1.2
theorem kidsP_drop {m : Wk → Int → Tx → Option Wk} {a : Tx} {ks : List Kd} {k : Nat} {K : Kd} (h : ks[k]? = some K) (s : Wk) : kidsP m a (ks.drop k) s = if vld K.n = true then (match m s K.i (a ++ K.n) with
  | none => none
  | some s' => kidsP m a (ks.drop (k + 1)) s') else none := by
 rw [drop_at h]
 rfl
theorem app_tx {p : ByteArray} {q : Tx} : (p ++ tx q).toList = p.toList ++ q := by
 rw [ByteArray.toList_eq, ByteArray.toList_eq]
 simp [tx]
theorem wrapk {k : Nat} (h : k < 9223372036854775807) : wrap64 ((k : Int) + 1) = ((k + 1 : Nat) : Int) := by
 unfold wrap64
 omega
set_option maxHeartbeats 8000000 in
theorem penter_any (w : World) (gw gm : Nat) (na : Option Addr) (n nc : Nat) (ns : List NoV) (f : Nat) (M : MeetC w gw gm na n nc ns f) (hns : ns.length = n) (N : NoV) (hk : Kds w N.ka N.kl N.kids) (hc : Ncp N) (s : Wk) (p : ByteArray) (W : World) (va : Option Addr) (vc : Nat)
  (h : Wm w W gw gm na n nc ns s va vc) (hok : s.ok n) (hp : p.size ≤ 4096) (hf : n - s.met.length < f) :
  Calls Tryz.prog 109 #[.pointer (some ⟨gw, 0, none⟩), N.val, .string p] W (MtPost w gw gm na n nc ns (kidsP (meetP (nos ns) f) (ahd p.toList) N.kids s)) := by
 have HK : Hid _ := And.intro hk (And.intro hk.len_eq hc.k)
 have HM : Hid _ := M
 have HW : Hid _ := And.intro h (And.intro hok hf)
 have HN : Hid _ := hns
 clear hk hc M h hok hf hns
 obtain ⟨k, mode, uid, gid, time, size, da, dl, dc, data, target, dev, aa, al, ac, attrs, ka, kl, kc, kids, parent, links⟩ := N
 simp only [NoV.val] at HK ⊢
 obtain ⟨pa, hpa⟩ : ∃ pa : Tx, pa = ahd p.toList := ⟨_, rfl⟩
 rw [← hpa]
 have hpl : pa.length ≤ 4097 := by
  rw [hpa]; unfold ahd
  split
  ·simp
  ·rw [List.length_append, tl_len]; simp; omega
 have HPA : Hid _ := And.intro hpa hpl
 have e47 : ∀ q : ByteArray, q ++ (⟨#[47]⟩ : ByteArray) = tx (q.toList ++ [47]) := fun q => by
  apply tl_inj
  rw [tx_tl]
  exact app_tx (q := [47])
 cases hb : (p.toList == []) with
 | true =>
  have hp0 : p.toList = [] := eq_of_beq hb
  have hpe : pa = [] := by rw [hpa, hp0]; rfl
  clear hpa hpl hpe
  go_enter Tryz.func109, Tryz.ntmps109
  go_wp2_with fail
  clear e47
  go_loopw [16] (fun v16 wr => ∃ k : Nat, k ≤ kl ∧ v16 = .int .i64 k ∧ Hid (∃ s' va' vc', kidsP (meetP (nos ns) f) pa kids s = kidsP (meetP (nos ns) f) pa (kids.drop k) s' ∧ Wm w wr gw gm na n nc ns s' va' vc' ∧ s'.ok n ∧ n - s'.met.length < f)) (fun v16 _ => kl - (intOf v16).toNat)
  case atStart => exact ⟨0, Nat.zero_le _, rfl, s, va, vc, by rw [List.drop_zero], HW.out.1.kept (World.grownBy_alloc _ _ none), HW.out.2⟩
  case round =>
   clear HW
   obtain ⟨k, hk, rfl, HI⟩ := hrel
   obtain ⟨s1, va1, vc1, e1, hm1, ho1, hf1⟩ := HI.out
   clear HI
   by_cases hlt : k < kl
   ·obtain ⟨K, hK⟩ : ∃ K, kids[k]? = some K := ⟨_, List.getElem?_eq_getElem (by rw [HK.out.2.1]; exact hlt)⟩
    obtain ⟨b, off, rfl, hat⟩ := HK.out.1.at_ (by omega)
    have y0 := cell_grown (hat k K hK).c0 hm1.eo.gr
    have y1 := cell_grown (hat k K hK).c1 hm1.eo.gr
    have hkn := HK.out.2.2 K (List.mem_of_getElem? hK)
    rw [kidsP_drop hK] at e1
    have HE : Hid _ := e1
    obtain ⟨kn, ki⟩ := K
    simp only at y0 y1 hkn HE
    have hlti : (k : Int) < (kl : Int) := by omega
    have gA := World.grownBy_alloc wr (.cells #[.string (tx kn), .int .i64 ki] 47) none
    have HM1 : Hid _ := And.intro (hm1.kept gA) (And.intro ho1 hf1)
    have bK := Bx.new wr 47 [.string (tx kn), .int .i64 ki]
    have c0 := bK.c 0
    have c1 := bK.c 1
    clear bK
    clear hm1 ho1 hf1 gA e1 hat hK
    go_wp2_with fail
    generalize wr.alloc (.cells #[.string (tx kn), .int .i64 ki] 47) = WA at *
    refine (pvalid_eq (tx kn) _ (by rw [tx_size]; exact hkn)).mono ?_
    rintro e W2 ⟨rfl, rfl⟩
    rw [tx_tl]
    cases hv : vld kn with
    | false =>
     rw [hv, if_neg Bool.false_ne_true] at HE
     go_wp2_with fail
     refine (pnotree_any _).mono ?_
     rintro e W3 ⟨rfl, rfl⟩
     go_wp2_with fail
     exact ⟨rfl, Or.inl ⟨HE.out, rfl, HM1.out.1.eo.gr⟩⟩
    | true =>
     rw [hv, if_pos rfl] at HE
     have hpq : ((⟨#[]⟩ : ByteArray) ++ tx kn).toList = pa ++ kn := by rw [app_tx, HPA.out.1]; rw [hp0]; show (tx []).toList ++ kn = _; rw [tx_tl]; rfl
     have hvl := vld_len hv
     have hsz : ((⟨#[]⟩ : ByteArray) ++ tx kn).size ≤ 2000000 := by rw [← tl_len, hpq, List.length_append]; have := HPA.out.2; omega
     have hmc := HM.out s1 ki ((⟨#[]⟩ : ByteArray) ++ tx kn) WA va1 vc1 HM1.out.1 HM1.out.2.1 hsz HM1.out.2.2
     rw [hpq] at hmc
     have hs1 : ¬ 9223372036854775807 < (tx kn).size := by rw [tx_size]; omega
     cases hq : meetP (nos ns) f s1 ki (pa ++ kn) with
     | none =>
      rw [hq] at HE hmc
      simp only at HE
      go_wp2_with fail
      refine hmc.mono ?_
      rintro e W3 (⟨-, rfl, hg⟩ | ⟨s2, va2, vc2, ho, -⟩)
      ·go_wp2_with fail
       exact ⟨rfl, Or.inl ⟨HE.out, rfl, hg⟩⟩
      ·cases ho
     | some s2 =>
      rw [hq] at HE hmc
      simp only at HE
      have hok2 := meetP_ok f s1 ki (pa ++ kn) s2 (by rw [nos_len, HN.out]; exact HM1.out.2.1) hq
      go_wp2_with fail
      refine hmc.mono ?_
      rintro e W3 (⟨ho, -⟩ | ⟨s3, va2, vc2, ho, rfl, hm2⟩)
      ·cases ho
      ·injection ho with ho
       subst ho
       have HM2 : Hid _ := hm2
       clear hm2 hmc
       go_wp2_with fail
       have hf2 := HM1.out.2.2
       have hkl := HK.out.1.le
       unfold maxLen at hkl
       have hk1 : wrap64 ((k : Int) + 1) = ((k + 1 : Nat) : Int) := wrapk (by omega)
       have hI : Hid (∃ s' va' vc', kidsP (meetP (nos ns) f) pa kids s = kidsP (meetP (nos ns) f) pa (kids.drop (k + 1)) s' ∧ Wm w W3 gw gm na n nc ns s' va' vc' ∧ s'.ok n ∧ n - s'.met.length < f) := by
        refine ⟨s2, va2, vc2, HE.out, HM2.out, ?_, ?_⟩
        ·have := hok2.1
         rw [nos_len, HN.out] at this
         exact this
        ·have := hok2.2
         omega
       rw [hk1]
       refine ⟨⟨k + 1, hlt, rfl, hI⟩, ?_⟩
       simp only [intOf, Int.toNat_natCast]
       exact Nat.sub_lt_sub_left hlt (Nat.lt_succ_self k)
   ·obtain rfl : k = kl := by omega
    have hlti : ¬ (k : Int) < (k : Int) := by omega
    rw [List.drop_eq_nil_of_le (by rw [HK.out.2.1]; exact Nat.le_refl _)] at e1
    have HE : Hid _ := And.intro e1 hm1
    clear e1 hm1 ho1 hf1
    go_wp2_with fail
    go_end0
    exact Or.inr ⟨s1, va1, vc1, HE.out.1, rfl, HE.out.2⟩
 | false =>
  have hp0 : ¬ p.toList = [] := fun e => by rw [e] at hb; simp at hb
  clear hpa hpl
  go_enter Tryz.func109, Tryz.ntmps109
  go_wp2_with fail
  have hql : (tx (p.toList ++ [47])).toList = p.toList ++ [47] := tx_tl _
  generalize tx (p.toList ++ [47]) = q at *
  have HQ : Hid _ := hql
  clear hql
  clear e47
  go_loopw [16] (fun v16 wr => ∃ k : Nat, k ≤ kl ∧ v16 = .int .i64 k ∧ Hid (∃ s' va' vc', kidsP (meetP (nos ns) f) pa kids s = kidsP (meetP (nos ns) f) pa (kids.drop k) s' ∧ Wm w wr gw gm na n nc ns s' va' vc' ∧ s'.ok n ∧ n - s'.met.length < f)) (fun v16 _ => kl - (intOf v16).toNat)
  case atStart => exact ⟨0, Nat.zero_le _, rfl, s, va, vc, by rw [List.drop_zero], HW.out.1.kept (World.grownBy_alloc _ _ none), HW.out.2⟩
  case round =>
   clear HW
   obtain ⟨k, hk, rfl, HI⟩ := hrel
   obtain ⟨s1, va1, vc1, e1, hm1, ho1, hf1⟩ := HI.out
   clear HI
   by_cases hlt : k < kl
   ·obtain ⟨K, hK⟩ : ∃ K, kids[k]? = some K := ⟨_, List.getElem?_eq_getElem (by rw [HK.out.2.1]; exact hlt)⟩
    obtain ⟨b, off, rfl, hat⟩ := HK.out.1.at_ (by omega)
    have y0 := cell_grown (hat k K hK).c0 hm1.eo.gr
    have y1 := cell_grown (hat k K hK).c1 hm1.eo.gr
    have hkn := HK.out.2.2 K (List.mem_of_getElem? hK)
    rw [kidsP_drop hK] at e1
    have HE : Hid _ := e1
    obtain ⟨kn, ki⟩ := K
    simp only at y0 y1 hkn HE
    have hlti : (k : Int) < (kl : Int) := by omega
    have gA := World.grownBy_alloc wr (.cells #[.string (tx kn), .int .i64 ki] 47) none
    have HM1 : Hid _ := And.intro (hm1.kept gA) (And.intro ho1 hf1)
    have bK := Bx.new wr 47 [.string (tx kn), .int .i64 ki]
    have c0 := bK.c 0
    have c1 := bK.c 1
    clear bK
    clear hm1 ho1 hf1 gA e1 hat hK
    go_wp2_with fail
    generalize wr.alloc (.cells #[.string (tx kn), .int .i64 ki] 47) = WA at *
    refine (pvalid_eq (tx kn) _ (by rw [tx_size]; exact hkn)).mono ?_
    rintro e W2 ⟨rfl, rfl⟩
    rw [tx_tl]
    cases hv : vld kn with
    | false =>
     rw [hv, if_neg Bool.false_ne_true] at HE
     go_wp2_with fail
     refine (pnotree_any _).mono ?_
     rintro e W3 ⟨rfl, rfl⟩
     go_wp2_with fail
     exact ⟨rfl, Or.inl ⟨HE.out, rfl, HM1.out.1.eo.gr⟩⟩
    | true =>
     rw [hv, if_pos rfl] at HE
     have hpq : (q ++ tx kn).toList = pa ++ kn := by rw [app_tx, HPA.out.1]; rw [HQ.out]; unfold ahd; rw [if_neg hp0]
     have hvl := vld_len hv
     have hsz : (q ++ tx kn).size ≤ 2000000 := by rw [← tl_len, hpq, List.length_append]; have := HPA.out.2; omega
     have hmc := HM.out s1 ki (q ++ tx kn) WA va1 vc1 HM1.out.1 HM1.out.2.1 hsz HM1.out.2.2
     rw [hpq] at hmc
     have hs1 : ¬ 9223372036854775807 < (tx kn).size := by rw [tx_size]; omega
     have hs2 : ¬ 9223372036854775807 < q.size + (tx kn).size := by
      have h1 := tl_len q
      rw [HQ.out, List.length_append, tl_len, List.length_singleton] at h1
      rw [tx_size]; omega
     cases hq : meetP (nos ns) f s1 ki (pa ++ kn) with
     | none =>
      rw [hq] at HE hmc
      simp only at HE
      go_wp2_with fail
      refine hmc.mono ?_
      rintro e W3 (⟨-, rfl, hg⟩ | ⟨s2, va2, vc2, ho, -⟩)
      ·go_wp2_with fail
       exact ⟨rfl, Or.inl ⟨HE.out, rfl, hg⟩⟩
      ·cases ho
     | some s2 =>
      rw [hq] at HE hmc
      simp only at HE
      have hok2 := meetP_ok f s1 ki (pa ++ kn) s2 (by rw [nos_len, HN.out]; exact HM1.out.2.1) hq
      go_wp2_with fail
      refine hmc.mono ?_
      rintro e W3 (⟨ho, -⟩ | ⟨s3, va2, vc2, ho, rfl, hm2⟩)
      ·cases ho
      ·injection ho with ho
       subst ho
       have HM2 : Hid _ := hm2
       clear hm2 hmc
       go_wp2_with fail
       have hf2 := HM1.out.2.2
       have hkl := HK.out.1.le
       unfold maxLen at hkl
       have hk1 : wrap64 ((k : Int) + 1) = ((k + 1 : Nat) : Int) := wrapk (by omega)
       have hI : Hid (∃ s' va' vc', kidsP (meetP (nos ns) f) pa kids s = kidsP (meetP (nos ns) f) pa (kids.drop (k + 1)) s' ∧ Wm w W3 gw gm na n nc ns s' va' vc' ∧ s'.ok n ∧ n - s'.met.length < f) := by
        refine ⟨s2, va2, vc2, HE.out, HM2.out, ?_, ?_⟩
        ·have := hok2.1
         rw [nos_len, HN.out] at this
         exact this
        ·have := hok2.2
         omega
       rw [hk1]
       refine ⟨⟨k + 1, hlt, rfl, hI⟩, ?_⟩
       simp only [intOf, Int.toNat_natCast]
       exact Nat.sub_lt_sub_left hlt (Nat.lt_succ_self k)
   ·obtain rfl : k = kl := by omega
    have hlti : ¬ (k : Int) < (k : Int) := by omega
    rw [List.drop_eq_nil_of_le (by rw [HK.out.2.1]; exact Nat.le_refl _)] at e1
    have HE : Hid _ := And.intro e1 hm1
    clear e1 hm1 ho1 hf1
    go_wp2_with fail
    go_end0
    exact Or.inr ⟨s1, va1, vc1, HE.out.1, rfl, HE.out.2⟩
end Go.Proofs.YtlehncfehoelbaaGreatDoor
