/- The program's tree: Canon. -/
import Derived.Test.YtlehncfehoelbaaGreatDoorCq06
import Derived.Test.YtlehncfehoelbaaGreatDoorCq07
import Derived.Test.YtlehncfehoelbaaGreatDoorCq14
import Derived.Test.YtlehncfehoelbaaGreatDoorCq20
import Derived.Test.YtlehncfehoelbaaGreatDoorCq21
namespace Go.Proofs.YtlehncfehoelbaaGreatDoor
open Go.RowKit
set_option maxRecDepth 100000
set_option linter.unusedSimpArgs false
set_option linter.unusedVariables false
def newA (b : Nat) (a : Option Addr) (n : Nat) : Prop := 0 < n → ∃ g o, a = some ⟨g, o, none⟩ ∧ b ≤ g
structure NoFr (b : Nat) (X : NoV) : Prop where
 data : newA b X.da X.dl
 ats : newA b X.aa X.al
 vals : ∀ A ∈ X.attrs, newA b A.a A.len
 kids : newA b X.ka X.kl
def CnPost (w : World) (l : List En) (e : Ending) (w' : World) : Prop := w.grownBy w' none ∧ ∃ (b : Option Addr) (n c : Nat) (ns : List NoV), e = .returned (.tuple #[.agg #[.slice b n c], .int .i64 (chk11 l).2]) ∧ Nos w' b n ns ∧ newA w.heap.size b n ∧ (∀ X ∈ ns, NoFr w.heap.size X) ∧ nos ns = if (chk11 l).2 = 0 then canon l else []
theorem newA_of {W : World} {b e s n m : Nat} {a : Option Addr} {c : Nat} {xs : List Value} (h : W.ownsRow b e s (.slice a n c) m xs) : newA b a n := by
 intro h0
 rcases h.2 with ⟨hv, hn⟩ | ⟨q, cap, cur, hv, hb, _⟩
 ·injection hv with _ e2
  omega
 ·injection hv with e1
  exact ⟨q, 0, e1, hb⟩
theorem newA_low {b b' n : Nat} {a : Option Addr} (h : newA b a n) (hb : b' ≤ b) : newA b' a n := fun h0 => by
 obtain ⟨g, o, e, k⟩ := h h0
 exact ⟨g, o, e, by omega⟩
theorem Pk.nofr {W : World} {base : Nat} {X : NoV} (h : Pk W base X) : NoFr base X :=
 ⟨newA_of h.row.own, newA_of h.ar.own, fun A hA => newA_of (h.ar.rows A hA).own, newA_of h.kid⟩
theorem Tq.up {w w2 W : World} {base : Nat} {v : Value} {l : List NoV} (h : Tq w2 W base v l) (g : w.grownBy w2 none) : Tq w W base v l :=
 ⟨xgt g h.gr, Nat.le_trans g.size h.low, h.own, h.each, h.apart⟩
theorem foldl_ge : ∀ (l : List Int) (a : Int), (∀ x ∈ l, 0 ≤ x) → a ≤ l.foldl (· + ·) a ∧ ∀ x ∈ l, a + x ≤ l.foldl (· + ·) a
 | [], a, _ => ⟨Int.le_refl _, fun x h => by cases h⟩
 | y :: l, a, h => by
  obtain ⟨h1, h2⟩ := foldl_ge l (a + y) (fun x hx => h x (List.mem_cons_of_mem _ hx))
  have hy := h y List.mem_cons_self
  refine ⟨?_, fun x hx => ?_⟩
  ·show a ≤ l.foldl (· + ·) (a + y); omega
  ·show a + x ≤ l.foldl (· + ·) (a + y)
   rcases List.mem_cons.1 hx with e | hx
   ·subst e; exact h1
   ·have := h2 x hx; omega
theorem sums_ge {l : List En} {x : En} (hx : x ∈ l) (h1 : x.k = 1) : (x.data.length : Int) ≤ sums l := by
 unfold sums
 have := (foldl_ge (l.map fun x => if x.k = 1 then (x.data.length : Int) else 0) 0 (fun y hy => by
  obtain ⟨z, _, e⟩ := List.mem_map.1 hy
  rw [← e]
  split <;> omega)).2 (x.data.length : Int) (List.mem_map.2 ⟨x, hx, if_pos h1⟩)
 omega
theorem szn_of {w : World} {X : EnV} (ho : X.ok w) (hf : fld X.en = 0) (hd : X.k = 1 → (X.data.length : Int) ≤ 8388608) : Szn X := by
 obtain ⟨d1, d2⟩ := fld_dn hf
 have hal : X.al ≤ 64 := by
  rw [← ho.ats.len_eq]
  have e : X.en.attrs = X.attrs.map AtV.at := rfl
  rw [e, List.length_map] at d2
  exact d2
 unfold fld at hf
 by_cases c1 : (!inI X.en.mode 0 4095 || !inI X.en.uid 0 4294967295 || !inI X.en.gid 0 4294967295 || !inI X.en.time 0 4294967295) = true
 ·rw [if_pos c1] at hf; cases hf
 ·rw [if_neg c1] at hf
  by_cases c2 : ((decide (X.en.k = 1) && !inI X.en.size X.en.data.length 1099511627775) || (decide (X.en.k = 3) && !txt X.en.target 1 4096) || (decide (3 < X.en.k) && !inI X.en.dev 0 4294967295) || decide (64 < X.en.attrs.length)) = true
  ·rw [if_pos c2] at hf; cases hf
  ·rw [if_neg c2] at hf
   by_cases c3 : (X.en.attrs.any fun a => !txt a.n 1 255 || decide (4096 < a.v.length)) = true
   ·rw [if_pos c3] at hf; cases hf
   ·refine ⟨by omega, d1, fun A hA => ?_, fun h1 => ?_, fun h3 => ?_⟩
    ·rw [Bool.not_eq_true, List.any_eq_false] at c3
     have k := c3 A.at (List.mem_map.2 ⟨A, hA, rfl⟩)
     rw [Bool.or_eq_true] at k
     have k1 : txt A.n.toList 1 255 = true := by
      cases ht : txt A.n.toList 1 255 with
      | true => rfl
      | false => exact absurd (.inl (by show (!txt A.n.toList 1 255) = true; rw [ht]; rfl)) k
     have k2 : ¬ 4096 < A.v.length := fun h => k (.inr (decide_eq_true h))
     unfold txt inI at k1
     rw [Bool.and_eq_true, Bool.and_eq_true, decide_eq_true_iff, decide_eq_true_iff, tl_len] at k1
     have hl : A.v.length = A.len := by
      obtain ⟨i, hi⟩ := List.mem_iff_getElem?.1 hA
      have hil := (List.getElem?_eq_some_iff.1 hi).1
      obtain ⟨b, o, _, kk⟩ := ho.ats.at_ (by have := ho.ats.len_eq; omega)
      exact (kk i A hi).row.len_eq
     omega
    ·have := hd h1
     have e := ho.row.len_eq
     omega
    ·have k : txt X.target.toList 1 4096 = true := by
      cases ht : txt X.target.toList 1 4096 with
      | true => rfl
      | false =>
       refine absurd ?_ c2
       have e1 : decide (X.en.k = 3) = true := decide_eq_true h3
       have e2 : txt X.en.target 1 4096 = false := ht
       rw [e1, e2]
       simp
     unfold txt inI at k
     rw [Bool.and_eq_true, Bool.and_eq_true, decide_eq_true_iff, decide_eq_true_iff, tl_len] at k
     omega
theorem szl_of {w : World} {a : Option Addr} {len : Nat} {l : List EnV} (E : Ens w a len l) (ok : OkS (ens l)) (hsum : sums (ens l) ≤ 8388608) (hs : Szs l) : Szl l := by
 intro X hX
 have hm : X.en ∈ ens l := List.mem_map.2 ⟨X, hX, rfl⟩
 refine ⟨(hs X hX).1, (hs X hX).2.1, fun h6 => szn_of (E.ok X hX) ((ok.each _ hm).fld h6) fun h1 => ?_⟩
 have := sums_ge hm h1
 exact Int.le_trans this hsum
theorem rootP : rootV.path.toList = [] := ByteArray.toList_mk []
theorem rootEn : rootV.en = rootE := by
 have e : (⟨#[]⟩ : ByteArray).toList = [] := ByteArray.toList_mk []
 show En.mk (⟨#[]⟩ : ByteArray).toList 2 493 0 0 0 0 [] (⟨#[]⟩ : ByteArray).toList 0 [] = rootE
 rw [e]; rfl
theorem ens_root (l : List EnV) : ens (rootV :: l) = rootE :: ens l := by show rootV.en :: ens l = _; rw [rootEn]
theorem szn_root : Szn rootV := ⟨by decide, fun i j a b h => (by cases h), fun A hA => (by cases hA), fun h => (by cases h), fun h => (by cases h)⟩
theorem wroot_ok {w : World} {a : Option Addr} {len : Nat} {l : List EnV} (E : Ens w a len l) (hs : Szs l) (hc : (chk11 (ens l)).2 = 0) :
  len ≤ 16384 ∧ OkS (ens (wRoot l)) ∧ canon (ens (wRoot l)) = canon (ens l) ∧ Szl (wRoot l) ∧ (wRoot l).length ≤ len + 1 ∧ ∃ (r : Nat) (x : EnV), (wRoot l)[r]? = some x ∧ x.path.toList = [] := by
 obtain ⟨c1, c2, ok⟩ := chk_ok.1 hc
 have hl : (ens l).length = len := by unfold ens; rw [List.length_map, E.len_eq]
 have hsz := szl_of E ok c2 hs
 rw [hl] at c1
 unfold wRoot
 by_cases h : hasR l = true
 ·rw [if_pos h]
  unfold hasR at h
  obtain ⟨x, hx, e⟩ := List.any_eq_true.1 h
  obtain ⟨r, hr⟩ := List.mem_iff_getElem?.1 hx
  exact ⟨c1, ok, rfl, hsz, by rw [E.len_eq]; omega, r, x, hr, by simpa using e⟩
 ·rw [if_neg h]
  have hn : ∀ x ∈ ens l, x.path ≠ [] := by
   intro x hx e
   obtain ⟨X, hX, rfl⟩ := List.mem_map.1 hx
   apply h
   unfold hasR
   exact List.any_eq_true.2 ⟨X, hX, by have e2 : X.path.toList = [] := e; rw [e2]; rfl⟩
  refine ⟨c1, by rw [ens_root]; exact ok_root ok hn, by rw [ens_root]; exact canon_root ok hn, fun X hX => ?_, by rw [List.length_cons, E.len_eq]; exact Nat.le_refl _, 0, rootV, rfl, rootP⟩
  rcases List.mem_cons.1 hX with e | hX
  ·subst e; exact ⟨by decide, by decide, fun _ => szn_root⟩
  ·exact hsz X hX
set_option maxHeartbeats 4000000 in
theorem pcanon_any (a : Option Addr) (len cap : Nat) (l : List EnV) (w : World) (E : Ens w a len l) (hs : Szs l) (hlen : len ≤ 100000) :
  Calls Tryz.prog 10 #[.slice a len cap] w (CnPost w (ens l)) := by
 have hck := fun W g => pcheck_any a len cap l W (E.grown g) hs hlen
 have HI : Hid _ := xai E hs
 clear E hs
 have B0 : Hid _ := Bx.new w 33 [.slice none 0 0]
 have G0 : Hid _ := xga w (.cells #[.slice none 0 0] 33) none
 go_enter Tryz.func10, Tryz.ntmps10
 go_wp2_with fail
 refine (hck _ G0.out).mono ?_
 clear hck
 rintro e W1 ⟨rfl, g1⟩
 have HP1 : Hid _ := xai (B0.out.kept g1) (xgt G0.out g1)
 clear B0 G0 g1
 generalize hC1 : (chk11 (ens l)).1 = C1 at *
 generalize hC2 : (chk11 (ens l)).2 = C2 at *
 have HC : Hid _ := hC2
 clear hC1 hC2
 generalize hB : w.heap.size = B at *
 have HB : Hid _ := hB
 clear hB
 by_cases hc : C2 = 0
 ·subst hc
  go_wp2_with fail
  refine (pwithroot_any a len cap l W1 (HI.out.1.grown HP1.out.2) hlen).mono ?_
  rintro e W2 ⟨a', n', c', rfl, E', g2⟩
  obtain ⟨k1, k2, k3, k4, k5, r, x, k6, k7⟩ := wroot_ok HI.out.1 HI.out.2 HC.out
  have hn' := E'.len_eq
  have hl := play_any a' n' c' (wRoot l) W2 E' (by have := (List.getElem?_eq_some_iff.1 k6).1; omega) (by omega) k2 r x k6 k7 k4
  unfold LyPost at hl
  rw [k3] at hl
  have HP2 : Hid _ := xai (HP1.out.1.kept g2) (xgt HP1.out.2 g2)
  clear E' HP1 g2 k1 k2 k3 k4 k5 k6 k7 hn'
  go_wp2_with fail
  refine hl.mono ?_
  rintro e W3 ⟨v, ns, rfl, hT, hno⟩
  have b3 := HP2.out.1.kept hT.gr
  obtain ⟨va, vc, rfl⟩ := own_shape hT.own
  have hT2 := hT.up HP2.out.2
  have ho := bx_own (base := B) b3 (Nat.le_refl _) rfl (by decide)
  obtain ⟨s1, s2⟩ := ho.stored 0 (.slice va ns.length vc)
  have hT3 := hT2.other ho (by rw [HB.out]; exact Nat.le_refl _) (by decide) (by decide) (by decide) (by decide) s2
  have c2 := b3.c 0
  have f2 : W3.frozen? ⟨B, 0, none⟩ = false := by simp [World.frozen?, b3.blk]
  have cR := s1.cellAt 0 (by decide)
  have HT : Hid _ := xai hT3 hno
  have HCR : Hid _ := cR
  have HW2 : Hid _ := HP2.out.2.size
  clear hT hT2 hT3 ho s1 s2 cR b3 HP2 hno hl
  go_wp2_with fail
  have cR := HCR.out
  refine bodyPost_ret (v := .tuple #[.agg #[.slice va ns.length vc], .int .i64 0]) (by simp [results, Tryz.results10, go_sem, *]) rfl ?_
  have hT := HT.out.1
  refine ⟨hT.gr, va, ns.length, vc, ns, by rw [HC.out], hT.nos rfl, newA_low (newA_of hT.own) HW2.out, fun X hX => ?_, by rw [HC.out, if_pos rfl]; exact HT.out.2⟩
  obtain ⟨i, hi⟩ := List.mem_iff_getElem?.1 hX
  exact ((hT.each i X hi).low HW2.out).nofr
 ·have hb : (C2 == 0) = false := by rw [beq_eq_false_iff_ne]; exact hc
  have hb2 : (C2 != 0) = true := by simp [hc]
  have c2 := HP1.out.1.c 0
  have f2 : W1.frozen? ⟨B, 0, none⟩ = false := by simp [World.frozen?, HP1.out.1.blk]
  have ho := bx_own (base := B) HP1.out.1 (Nat.le_refl _) rfl (by decide)
  obtain ⟨s1, s2⟩ := ho.stored 0 (.slice none 0 0)
  have HCR : Hid _ := s1.cellAt 0 (by decide)
  have HG : Hid _ := grown_ownB HP1.out.2 ho s2 (by rw [HB.out]; exact Nat.le_refl _)
  clear ho s1 s2
  go_wp2_with fail
  have cR := HCR.out
  refine bodyPost_ret (v := .tuple #[.agg #[.slice none 0 0], .int .i64 C2]) (by simp [results, Tryz.results10, go_sem, *]) rfl ?_
  refine ⟨HG.out, none, 0, 0, [], by rw [HC.out], ⟨rfl, by decide, fun h => absurd h (by decide)⟩, fun h => absurd h (by decide), fun X hX => (by cases hX), by rw [HC.out, if_neg hc]; rfl⟩
theorem pequal11_any (a b : Option Addr) (n c m d : Nat) (xs ys : List Int) (w : World) (R : Row w a n xs) (R2 : Row w b m ys) :
  Calls Tryz.prog 72 #[.slice a n c, .slice b m d] w fun e w' => e = .returned (.bool (decide (xs = ys))) ∧ w = w' := by
 have k1 := conv_row (P := Tryz.prog) R c 23 9 Tryz.underlying23 Tryz.underlying5 Tryz.underlying9
 have k2 := conv_row (P := Tryz.prog) R2 d 23 9 Tryz.underlying23 Tryz.underlying5 Tryz.underlying9
 rw [← str_eq xs ys R.byt R2.byt]
 generalize strOfNums xs = A at *
 generalize strOfNums ys = B at *
 clear R R2
 go_enter Tryz.func72, Tryz.ntmps72
 go_wp2
 go_ret
 exact ⟨rfl, rfl⟩
theorem psattr_any (X Y : AtV) (w : World) (R : Row w X.a X.len X.v) (R2 : Row w Y.a Y.len Y.v) :
  Calls Tryz.prog 74 #[.agg #[.string X.n, .slice X.a X.len X.cap], .agg #[.string Y.n, .slice Y.a Y.len Y.cap]] w fun e w' => e = .returned (.bool ((X.n.toList == Y.n.toList) && decide (X.v = Y.v))) ∧ w.grownBy w' none := by
 obtain ⟨xn, xa, xl, xc, xv⟩ := X
 obtain ⟨yn, ya, yl, yc, yv⟩ := Y
 simp only at R R2 ⊢
 have hq := fun W (g : w.grownBy W none) => pequal11_any xa ya xl xc yl yc xv yv W (R.grown g) (R2.grown g)
 generalize decide (xv = yv) = D at *
 clear R R2
 cases h : (xn.toList == yn.toList) with
 | true =>
  go_enter Tryz.func74, Tryz.ntmps74
  go_wp2_with (go_at_call 72; refine (hq _ (xgt (xga _ _ none) (xga _ _ none))).mono ?_; rintro e w' ⟨rfl, rfl⟩)
  go_ret
  exact ⟨by simp, xgt (xga _ _ none) (xga _ _ none)⟩
 | false =>
  go_enter Tryz.func74, Tryz.ntmps74
  go_wp2_with fail
  go_ret
  exact ⟨by simp, xgt (xga _ _ none) (xga _ _ none)⟩
set_option maxHeartbeats 2000000 in
theorem peqa_any (a b : Option Addr) (n c m d : Nat) (l r : List AtV) (w : World) (R : Ats w a n l) (R2 : Ats w b m r) :
  Calls Tryz.prog 73 #[.slice a n c, .slice b m d, .func (.func 74) #[] #[]] w fun e w' => e = .returned (.bool (sameAts (l.map AtV.at) (r.map AtV.at))) ∧ w.grownBy w' none := by
 have hle1 : n ≤ 9223372036854775807 := R.le
 have hle2 : m ≤ 9223372036854775807 := R2.le
 by_cases hnm : n = m
 ·subst hnm
  have HE : Hid _ := xai R.len_eq R2.len_eq
  have HR : Hid _ := xai R R2
  clear R R2
  have hb : (n != n) = false := by simp
  go_enter Tryz.func73, Tryz.ntmps73
  go_wp2_with fail
  go_loopw [17] (fun i wr => ∃ k : Nat, k ≤ n ∧ i = .int .i64 k ∧ Hid (sameAts (l.map AtV.at) (r.map AtV.at) = sameAts ((l.map AtV.at).drop k) ((r.map AtV.at).drop k)) ∧ Hid (w.grownBy wr none)) (fun i _ => n - (intOf i).toNat)
  case atStart => exact ⟨0, Nat.zero_le _, rfl, rfl, World.grownBy.refl _ _⟩
  case round =>
   obtain ⟨k, h1, rfl, HC, HG⟩ := hrel
   by_cases h3 : k < n
   ·obtain ⟨b1, o1, rfl, c1⟩ := (HR.out.1.grown HG.out).at_ (by omega)
    obtain ⟨b2, o2, rfl, c2⟩ := (HR.out.2.grown HG.out).at_ (by omega)
    obtain ⟨x, hx⟩ : ∃ x, l[k]? = some x := ⟨_, List.getElem?_eq_getElem (by rw [HE.out.1]; exact h3)⟩
    obtain ⟨y, hy⟩ : ∃ y, r[k]? = some y := ⟨_, List.getElem?_eq_getElem (by rw [HE.out.2]; exact h3)⟩
    obtain ⟨p0, p1, pr, pc⟩ := c1 k x hx
    obtain ⟨q0, q1, qr, qc⟩ := c2 k y hy
    have hst := sameAts_step hx hy
    rw [← HC.out] at hst
    have hcall := fun W (g : wr.grownBy W none) => psattr_any x y W (pr.grown g) (qr.grown g)
    obtain ⟨xn, xa, xl, xc, xv⟩ := x
    obtain ⟨yn, ya, yl, yc, yv⟩ := y
    simp only at p0 p1 q0 q1 hst hcall
    generalize ((xn.toList == yn.toList) && decide (xv = yv)) = B at *
    have HD : Hid _ := hst
    have hb1 := cell_lt11 p0
    have hb2 := cell_lt11 q0
    clear hst c1 c2 pr qr pc qc hx hy
    have h3i : (k : Int) < n := by omega
    cases B with
    | true =>
     go_wp2_with (go_at_call 74; refine (hcall _ (xgt (xga _ _ none) (xga _ _ none))).mono ?_; rintro e w' ⟨rfl, hg⟩)
     exact ⟨⟨k + 1, by omega, by go_num, by show _ = _; rw [HD.out]; rfl, xgt HG.out (xgt (xgt (xga _ _ none) (xga _ _ none)) hg)⟩, by simp [intOf]; omega⟩
    | false =>
     go_wp2_with (go_at_call 74; refine (hcall _ (xgt (xga _ _ none) (xga _ _ none))).mono ?_; rintro e w' ⟨rfl, hg⟩)
     go_ret
     exact ⟨by rw [HD.out]; rfl, xgt HG.out (xgt (xgt (xga _ _ none) (xga _ _ none)) hg)⟩
   ·have HV : Hid (sameAts (l.map AtV.at) (r.map AtV.at) = true) := by
     show _ = _
     rw [HC.out, List.drop_eq_nil_of_le (by rw [List.length_map, HE.out.1]; omega), List.drop_eq_nil_of_le (by rw [List.length_map, HE.out.2]; omega)]
     rfl
    clear HC
    go_wp2_with fail
    go_ret
    exact ⟨by rw [HV.out]; rfl, HG.out⟩
 ·have HV : Hid (sameAts (l.map AtV.at) (r.map AtV.at) = false) := by
   show _ = _
   exact sameAts_len (by rw [List.length_map, List.length_map, R.len_eq, R2.len_eq]; exact hnm)
  have hb : ((n : Int) == (m : Int)) = false := by rw [beq_eq_false_iff_ne]; omega
  clear R R2
  go_enter Tryz.func73, Tryz.ntmps73
  go_wp2_with fail
  go_ret
  exact ⟨by rw [HV.out]; rfl, World.grownBy.refl _ _⟩
set_option maxHeartbeats 2000000 in
theorem peqk_any (a b : Option Addr) (n c m d : Nat) (l r : List Kd) (w : World) (R : Kds w a n l) (R2 : Kds w b m r) :
  Calls Tryz.prog 75 #[.slice a n c, .slice b m d] w fun e w' => e = .returned (.bool (sameKds l r)) ∧ ∃ n, w' = w.drewN n := by
 have hle1 : n ≤ 9223372036854775807 := R.le
 have hle2 : m ≤ 9223372036854775807 := R2.le
 by_cases hnm : n = m
 ·subst hnm
  have HE : Hid _ := xai R.len_eq R2.len_eq
  have HR : Hid _ := xai R R2
  clear R R2
  have hb : (n != n) = false := by simp
  go_enter Tryz.func75, Tryz.ntmps75
  go_wp2_with fail
  go_loopw [13] (fun i wr => ∃ k : Nat, k ≤ n ∧ i = .int .i64 k ∧ Hid (sameKds l r = sameKds (l.drop k) (r.drop k)) ∧ ∃ n, wr = w.drewN n) (fun i _ => n - (intOf i).toNat)
  case atStart => exact ⟨0, Nat.zero_le _, rfl, rfl, 0, rfl⟩
  case round =>
   obtain ⟨k, h1, rfl, HC, t, rfl⟩ := hrel
   by_cases h3 : k < n
   ·obtain ⟨b1, o1, rfl, c1⟩ := HR.out.1.at_ (by omega)
    obtain ⟨b2, o2, rfl, c2⟩ := HR.out.2.at_ (by omega)
    obtain ⟨x, hx⟩ : ∃ x, l[k]? = some x := ⟨_, List.getElem?_eq_getElem (by rw [HE.out.1]; exact h3)⟩
    obtain ⟨y, hy⟩ : ∃ y, r[k]? = some y := ⟨_, List.getElem?_eq_getElem (by rw [HE.out.2]; exact h3)⟩
    obtain ⟨p0, p1⟩ := c1 k x hx
    obtain ⟨q0, q1⟩ := c2 k y hy
    have hst := sameKds_step hx hy
    rw [← HC.out] at hst
    obtain ⟨xn, xi⟩ := x
    obtain ⟨yn, yi⟩ := y
    simp only at p0 p1 q0 q1
    unfold sameKd at hst
    simp only at hst
    have ex := tx_tl xn
    have ey := tx_tl yn
    rw [← ex, ← ey] at hst
    generalize tx xn = Xn at *
    generalize tx yn = Yn at *
    have HD : Hid _ := hst
    clear hst c1 c2 hx hy ex ey
    have h3i : (k : Int) < n := by omega
    cases hq : (Xn.toList == Yn.toList) with
    | true =>
     cases hi : (xi == yi) with
     | true =>
      have HV : Hid (sameKds l r = sameKds (l.drop (k + 1)) (r.drop (k + 1))) := by
       show _ = _
       rw [HD.out, hq, hi]; rfl
      clear HD HC
      go_wp2_with fail
      go_quiet (fail)
      go_wp2_with fail
      exact ⟨⟨k + 1, by omega, by go_num, HV, _, rfl⟩, by simp [intOf]; omega⟩
     | false =>
      have HV : Hid (sameKds l r = false) := by
       show _ = _
       rw [HD.out, hq, hi]; rfl
      clear HD HC
      go_wp2_with fail
      go_quiet (fail)
      go_wp2_with fail
      go_ret
      exact ⟨by rw [HV.out]; rfl, _, dd _ _ _⟩
    | false =>
     have HV : Hid (sameKds l r = false) := by
      show _ = _
      rw [HD.out, hq]; rfl
     clear HD HC
     go_wp2_with fail
     go_quiet (fail)
     go_wp2_with fail
     go_ret
     exact ⟨by rw [HV.out]; rfl, _, dd _ _ _⟩
   ·have HV : Hid (sameKds l r = true) := by
     show _ = _
     rw [HC.out, List.drop_eq_nil_of_le (by rw [HE.out.1]; omega), List.drop_eq_nil_of_le (by rw [HE.out.2]; omega)]
     rfl
    clear HC
    go_wp2_with fail
    go_ret
    exact ⟨by rw [HV.out]; rfl, _, rfl⟩
 ·have HV : Hid (sameKds l r = false) := by
   show _ = _
   exact sameKds_len (by rw [R.len_eq, R2.len_eq]; exact hnm)
  have hb : ((n : Int) == (m : Int)) = false := by rw [beq_eq_false_iff_ne]; omega
  clear R R2
  go_enter Tryz.func75, Tryz.ntmps75
  go_wp2_with fail
  go_ret
  exact ⟨by rw [HV.out]; rfl, 0, rfl⟩
end Go.Proofs.YtlehncfehoelbaaGreatDoor
