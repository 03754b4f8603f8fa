/- The document's Attrs: in the order of their names. The document's Attrs. The document's Check. The document's Much: what is small. Kids in memory; the document's SameKids. The document's SameAttrs. Nodes in memory. -/
import Derived.Deep.QuietTactic
import Derived.BigQuiet
import Derived.Test.YtlehncfehoelbaaGreatDoorB05
import Derived.Test.YtlehncfehoelbaaGreatDoorB07
namespace Go.Proofs.YtlehncfehoelbaaGreatDoor
open Go.RowKit
set_option maxRecDepth 100000
set_option linter.unusedSimpArgs false
set_option linter.unusedVariables false
theorem less_ctx (a b : Tx) : Op.bytesLess a b = decide (ctx a b < 0) := by
 induction a generalizing b with
 | nil =>
  cases b with
  | nil => rfl
  | cons y b => rfl
 | cons x a ih =>
  cases b with
  | nil => rfl
  | cons y b =>
   unfold Op.bytesLess ctx
   rw [ih]
   by_cases h1 : x < y
   ·rw [if_pos h1]; simp [h1]
   ·rw [if_neg h1]
    by_cases h2 : y < x
    ·rw [if_pos h2]
     have hne : (x == y) = false := by
      rw [beq_eq_false_iff_ne]
      intro e; subst e; exact UInt8.lt_irrefl x h2
     simp [h1, hne]
    ·rw [if_neg h2]
     have he : x = y := UInt8.le_antisymm (UInt8.not_lt.1 h2) (UInt8.not_lt.1 h1)
     subst he
     simp
def avc (A : AtV) : List Value := [.string A.n, .slice A.a A.len A.cap]
/-- Attrs, with their places in memory -/
def srtV (l : List AtV) : Nat → List AtV → List AtV
 | 0, out => out
 | n + 1, out => match abst (l.map AtV.at) (out.map AtV.at) l.length with
  | none => out
  | some b => srtV l n (out ++ (l[b]?).toList)
theorem srtV_map (l : List AtV) (n : Nat) (out : List AtV) : (srtV l n out).map AtV.at = srtA (l.map AtV.at) n (out.map AtV.at) := by
 induction n generalizing out with
 | zero => rfl
 | succ n ih =>
  unfold srtV srtA
  rw [List.length_map]
  cases h : abst (l.map AtV.at) (out.map AtV.at) l.length with
  | none => rfl
  | some b =>
   simp only
   rw [ih, List.map_append, List.getElem?_map]
   cases l[b]? <;> rfl
theorem srtV_mem (l : List AtV) (n : Nat) (out : List AtV) (h : ∀ A ∈ out, A ∈ l) : ∀ A ∈ srtV l n out, A ∈ l := by
 induction n generalizing out with
 | zero => exact h
 | succ n ih =>
  unfold srtV
  split
  ·exact h
  ·rename_i b _
   refine ih _ fun A hA => ?_
   rcases List.mem_append.1 hA with k | k
   ·exact h A k
   ·cases e : l[b]? with
    | none => rw [e] at k; simp at k
    | some x => rw [e] at k; simp at k; subst k; exact List.mem_of_getElem? e
theorem avc_at (l : List AtV) (k : Nat) (A : AtV) (h : l[k]? = some A) : (l.flatMap avc)[k * 2]? = some (.string A.n) ∧ (l.flatMap avc)[k * 2 + 1]? = some (.slice A.a A.len A.cap) := by
 induction l generalizing k with
 | nil => simp at h
 | cons x l ih =>
  rw [List.flatMap_cons]
  cases k with
  | zero =>
   obtain rfl : x = A := by simpa using h
   exact ⟨rfl, rfl⟩
  | succ k =>
   have := ih k (by simpa using h)
   rw [List.getElem?_append_right (by simp [avc]; omega), List.getElem?_append_right (by simp [avc]; omega)]
   have e1 : (k + 1) * 2 - (avc x).length = k * 2 := by simp [avc]; omega
   have e2 : (k + 1) * 2 + 1 - (avc x).length = k * 2 + 1 := by simp [avc]; omega
   rw [e1, e2]
   exact this
theorem own_at {w : World} {base t n : Nat} {v : Value} {out : List AtV} (h : w.ownsRow base t 2 v n (out.flatMap avc)) (hn : n = out.length) {k : Nat} {A : AtV} (hk : out[k]? = some A) : ∃ g c, v = .slice (some ⟨g, 0, none⟩) n c ∧ w.cell? ⟨g, 0 + k * 2, none⟩ = some (.string A.n) ∧ w.cell? ⟨g, 0 + k * 2 + 1, none⟩ = some (.slice A.a A.len A.cap) ∧ base ≤ g := by
 have hk' : k < out.length := (List.getElem?_eq_some_iff.1 hk).1
 rcases h.2 with ⟨rfl, h0⟩ | ⟨g, cap, cur, rfl, hg, hh, hc, hm, hs, ht⟩
 ·omega
 ·obtain ⟨e1, e2⟩ := avc_at out k A hk
  refine ⟨g, cap, rfl, ?_, ?_, hg⟩
  ·have e : w.cell? ⟨g, 0 + k * 2, none⟩ = cur[0 + k * 2]? := by simp [World.cell?, hh]
   rw [e, Nat.zero_add, ← e1, ← ht, List.getElem?_take, if_pos (by omega), Array.getElem?_toList]
  ·have e : w.cell? ⟨g, 0 + k * 2 + 1, none⟩ = cur[0 + k * 2 + 1]? := by simp [World.cell?, hh]
   rw [e, Nat.zero_add, ← e2, ← ht, List.getElem?_take, if_pos (by omega), Array.getElem?_toList]
/-- a list of attributes that is owned, in memory -/
theorem own_ats {w : World} {base t n : Nat} {v : Value} {out : List AtV} (h : w.ownsRow base t 2 v n (out.flatMap avc)) (hn : n = out.length) (hr : ∀ A ∈ out, Row w A.a A.len A.v ∧ A.len ≤ A.cap) : ∃ a c, v = .slice a n c ∧ Ats w a n out ∧ n ≤ c ∧ (∀ b o, a = some ⟨b, o, none⟩ → base ≤ b) := by
 rcases h.2 with ⟨rfl, h0⟩ | ⟨g, cap, cur, rfl, hg, hh, hc, hm, hs, ht⟩
 ·subst h0
  exact ⟨none, 0, rfl, ⟨by omega, Nat.zero_le _, fun h => by omega⟩, Nat.le_refl _, fun _ _ e => by cases e⟩
 ·refine ⟨_, cap, rfl, ⟨hn.symm, Nat.le_trans hc hm, fun _ => ⟨g, 0, rfl, fun i A hA => ?_⟩⟩, hc, fun b o e => by (injection e with e; injection e with e1; omega)⟩
  obtain ⟨g', c', e0, e1, e2, _⟩ := own_at h hn hA
  injection e0 with e0
  injection e0 with e0
  injection e0 with e0
  subst e0
  obtain ⟨r1, r2⟩ := hr A (List.mem_of_getElem? hA)
  exact ⟨e1, e2, r1, r2⟩
/-- between two rounds of Attrs' outer loop -/
structure Ao (w wr : World) (l out : List AtV) (v : Value) (f : Nat) : Prop where
 gr : w.grownBy wr none
 own : wr.ownsRow w.heap.size 45 2 v out.length (out.flatMap avc)
 eq : srtV l l.length [] = srtV l f out
 fu : out.length + f = l.length
def best (o : Option Nat) : Value := match o with
 | none => .int .i64 (-1)
 | some b => .int .i64 b
theorem abst_skip {l out : List AtV} {k : Nat} {A : AtV} (hA : l[k]? = some A) (h : (out.map AtV.at).any (fun a : Atr => decide (a.n = A.at.n)) = true) : abst (l.map AtV.at) (out.map AtV.at) (k + 1) = abst (l.map AtV.at) (out.map AtV.at) k := by
 rw [abst, nameD (a := A.at) (by rw [List.getElem?_map, hA]; rfl), if_pos h]
theorem abst_first {l out : List AtV} {k : Nat} {A : AtV} (hA : l[k]? = some A) (h : (out.map AtV.at).any (fun a : Atr => decide (a.n = A.at.n)) = false) (hm : abst (l.map AtV.at) (out.map AtV.at) k = none) : abst (l.map AtV.at) (out.map AtV.at) (k + 1) = some k := by
 rw [abst, nameD (a := A.at) (by rw [List.getElem?_map, hA]; rfl), if_neg (by rw [h]; simp), hm]
theorem abst_other {l out : List AtV} {k b : Nat} {A B : AtV} (hA : l[k]? = some A) (hB : l[b]? = some B) (h : (out.map AtV.at).any (fun a : Atr => decide (a.n = A.at.n)) = false) (hm : abst (l.map AtV.at) (out.map AtV.at) k = some b) : abst (l.map AtV.at) (out.map AtV.at) (k + 1) = if ctx A.n.toList B.n.toList < 0 then some k else some b := by
 rw [abst, nameD (a := A.at) (by rw [List.getElem?_map, hA]; rfl), if_neg (by rw [h]; simp), hm]
 simp only
 rw [nameD (l := l.map AtV.at) (k := b) (a := B.at) (by rw [List.getElem?_map, hB]; rfl)]
 rfl
theorem abst_lt {l out : List Atr} {k b : Nat} (h : abst l out k = some b) : b < k := by
 induction k generalizing b with
 | zero => simp [abst] at h
 | succ k ih =>
  unfold abst at h
  split at h
  ·have := ih h; omega
  ·split at h
   ·injection h with h; omega
   ·rename_i b' hm
    split at h
    ·injection h with h; omega
    ·injection h with h
     have := ih hm
     omega
theorem Tryz.infoA : (Tryz.prog.info? 45).map (fun i => (i.zero, i.size, i.bytes)) = some (some (.agg #[.string ⟨#[]⟩, .slice none 0 0]), 2, 40) := by kernel_rfl
/-- what Attrs answers -/
def AsPost (w : World) (l : List AtV) (e : Ending) (w' : World) : Prop := ∃ v, e = .returned v ∧ w'.ownsRow w.heap.size 45 2 v (srtV l l.length []).length ((srtV l l.length []).flatMap avc) ∧ w.grownBy w' none
theorem own_len2 {w : World} {b e n s : Nat} {v : Value} {xs : List Value} (h : w.ownsRow b e s v n xs) : slLen v = n := by
 rcases h.2 with ⟨rfl, h0⟩ | ⟨g, cap, cur, rfl, _⟩
 ·exact h0.symm
 ·rfl
theorem news_bx {W : World} {g g' : Nat} {T : TypeId} {x y : Value} (h : Bx W g T [x, y]) (e : g = g') : ∀ j u, [x, y][j]? = some u → W.cell? ((⟨g', 0, none⟩ : Addr).add j) = some u := by
 intro j u hu
 subst e
 have e : (⟨g, 0, none⟩ : Addr).add j = ⟨g, j, none⟩ := by (simp [Addr.add]; intro h; exact h.symm)
 rw [e, h.c j]
 exact hu
theorem one2 (s : ByteArray) (a : Option Addr) {n c : Nat} : ∀ u ∈ [Value.string s, .slice a n c], u.oneCell' = true := by
 intro u hu
 simp at hu
 rcases hu with rfl | rfl <;> rfl
theorem grown_own11 {a b c : World} {t n s : Nat} {v : Value} {xs : List Value} (h : a.grownBy b none) (ho : b.ownsRow a.heap.size t s v n xs) (k : b.grownBy c v.ownBlock) : a.grownBy c none := by
 cases e : v.ownBlock with
 | none => rw [e] at k; exact grown_trans h k
 | some g => rw [e] at k; exact grown_new h k (ho.lt g e).1
theorem take_any {out : List AtV} {q : Nat} {A : AtV} (h : out[q]? = some A) (f : Atr → Bool) : ((out.map AtV.at).take (q + 1)).any f = (((out.map AtV.at).take q).any f || f A.at) := by
 rw [List.take_add_one, List.getElem?_map, h, List.any_append]
 simp
set_option maxHeartbeats 4000000 in
theorem rattrs_any (a : Option Addr) (len cap : Nat) (l : List AtV) (w : World) (E : Ats w a len l) (hlen : len ≤ 100000) :
  Calls Tryz.prog 76 #[.slice a len cap] w (AsPost w l) := by
 have hll := E.len_eq
 obtain ⟨ia, hi, hz0, hz1, hz2⟩ := info_parts Tryz.infoA
 have H0 : Hid (Ao w w l [] (.slice none 0 0) len) := ⟨World.grownBy.refl _ _, World.ownsRow_nil _ _ _ _, by rw [hll], by simp [hll]⟩
 have HE : Hid _ := And.intro E.at_ hll
 clear E hll
 unfold AsPost
 go_enter Tryz.func76, Tryz.ntmps76
 go_wp2
 go_loopw [3] (fun v3 wr => Hid (∃ out f, Ao w wr l out v3 f)) (fun v3 _ => len - slLen v3)
 case atStart => exact ⟨[], len, H0.out⟩
 case round =>
  obtain ⟨out, f, hO⟩ := hrel.out
  clear H0
  obtain ⟨wo, hwo⟩ : ∃ wo, wo = wr := ⟨wr, rfl⟩
  subst hwo
  obtain ⟨a3, c3, rfl⟩ : ∃ a3 c3, u3 = .slice a3 out.length c3 := by
   rcases hO.own.2 with ⟨e, h0⟩ | ⟨g, c, cur, e, _⟩
   ·exact ⟨none, 0, by rw [e, h0]⟩
   ·exact ⟨_, c, e⟩
  have HO : Hid _ := hO
  clear hO hrel
  rcases Nat.lt_or_ge out.length len with hol | hol
  ·have holi : (out.length : Int) < (len : Int) := by omega
   obtain ⟨n3, hn3⟩ : ∃ n3, n3 = out.length := ⟨_, rfl⟩
   rw [← hn3] at HO holi hol
   rw [← hn3]
   have HN3 : Hid _ := hn3
   clear hn3
   go_wp2
   go_loopw [4, 5] (fun v4 vi wq => ∃ k : Nat, vi = .int .i64 k ∧ k ≤ len ∧ v4 = best (abst (l.map AtV.at) (out.map AtV.at) k) ∧ ∃ t, wq = wo.drewN t) (fun _ vi _ => len - (intOf vi).toNat)
   case atStart => exact ⟨0, rfl, Nat.zero_le _, rfl, 0, rfl⟩
   case round =>
    obtain ⟨k, rfl, hk, rfl, t, rfl⟩ := hrel
    rcases Nat.lt_or_ge k len with hlt | hge
    ·have hlti : (k : Int) < (len : Int) := by omega
     obtain ⟨A, hA⟩ : ∃ A, l[k]? = some A := ⟨_, List.getElem?_eq_getElem (by have := HE.out.2; omega)⟩
     obtain ⟨eb, eo, rfl, hat⟩ := HE.out.1 (by omega)
     have y0 := cell_grown (hat k A hA).c0 HO.out.gr
     have HA : Hid _ := And.intro hA hat
     clear hA hat
     obtain ⟨Q, hQ⟩ : ∃ Q, Q = A.n := ⟨_, rfl⟩
     rw [← hQ] at y0
     have HQ : Hid _ := hQ
     clear hQ
     go_wp2
     go_loopw [6, 7] (fun v6 vq wz => ∃ q : Nat, vq = .int .i64 q ∧ q ≤ n3 ∧ v6 = .bool (((out.map AtV.at).take q).any (fun a : Atr => decide (a.n = A.at.n))) ∧ ∃ t, wz = wo.drewN t) (fun _ vq _ => n3 - (intOf vq).toNat)
     case atStart => exact ⟨0, rfl, Nat.zero_le _, rfl, t, rfl⟩
     case round =>
      obtain ⟨q, rfl, hq, rfl, t2, rfl⟩ := hrel
      rcases Nat.lt_or_ge q n3 with hql | hqg
      ·have hqi : (q : Int) < (n3 : Int) := by omega
       obtain ⟨B, hB⟩ : ∃ B, out[q]? = some B := ⟨_, List.getElem?_eq_getElem (by have := HN3.out; omega)⟩
       obtain ⟨og, oc, oe, o1, -, -⟩ := own_at HO.out.own rfl hB
       injection oe with oe1 oe2 oe3
       subst oe1 oe3
       rw [Nat.zero_add] at o1
       have hst := take_any hB (fun a : Atr => decide (a.n = A.at.n))
       have hbn : decide (B.at.n = A.at.n) = (B.n.toList == Q.toList) := by
        rw [HQ.out]
        show decide (B.n.toList = A.n.toList) = _
        by_cases h : B.n.toList = A.n.toList <;> simp [h]
       rw [hbn] at hst
       have HST : Hid _ := hst
       clear hst hbn hB
       generalize B.n = Z at *
       generalize ((out.map AtV.at).take q).any (fun a : Atr => decide (a.n = A.at.n)) = db at *
       cases db with
       | true =>
        go_wp2
        go_quiet (fail)
        go_wp2
        exact ⟨⟨q + 1, by go_num, by omega, by rw [HST.out]; rfl, _, rfl⟩, by simp [intOf]; omega⟩
       | false =>
        go_wp2
        go_quiet (fail)
        go_wp2
        exact ⟨⟨q + 1, by go_num, by omega, by rw [HST.out]; rfl, _, rfl⟩, by simp [intOf]; omega⟩
      ·have hqe : q = n3 := by omega
       subst hqe
       have hqi : ¬ (q : Int) < (q : Int) := by omega
       have hta : (out.map AtV.at).take q = out.map AtV.at := List.take_of_length_le (by rw [List.length_map]; have := HN3.out; omega)
       rw [hta]
       clear hta
       generalize hdb : (out.map AtV.at).any (fun a : Atr => decide (a.n = A.at.n)) = db
       have HDB : Hid _ := hdb
       clear hdb
       cases db with
       | true =>
        have HN : Hid (abst (l.map AtV.at) (out.map AtV.at) (k + 1) = abst (l.map AtV.at) (out.map AtV.at) k) := abst_skip HA.out.1 HDB.out
        generalize hbe : best (abst (l.map AtV.at) (out.map AtV.at) k) = vb at *
        have HBE : Hid _ := hbe
        clear hbe HDB
        go_wp2
        go_quiet (fail)
        go_wp2
        exact ⟨⟨k + 1, by go_num, by omega, by rw [HN.out, HBE.out], _, rfl⟩, by simp [intOf]; omega⟩
       | false =>
        cases hab : abst (l.map AtV.at) (out.map AtV.at) k with
        | none =>
         have HN : Hid (abst (l.map AtV.at) (out.map AtV.at) (k + 1) = some k) := abst_first HA.out.1 HDB.out hab
         clear HDB hab
         simp only [best]
         go_wp2
         go_quiet (fail)
         go_wp2
         exact ⟨⟨k + 1, by go_num, by omega, by rw [HN.out]; rfl, _, rfl⟩, by simp [intOf]; omega⟩
        | some bb =>
         have hbk := abst_lt hab
         obtain ⟨B, hB⟩ : ∃ B, l[bb]? = some B := ⟨_, List.getElem?_eq_getElem (by have := HE.out.2; omega)⟩
         have hNN := abst_other HA.out.1 hB HDB.out hab
         have z0 := cell_grown (HA.out.2 bb B hB).c0 HO.out.gr
         rw [← HQ.out] at hNN
         have hbi : (bb : Int) < (len : Int) := by omega
         have hb0 : ¬ (bb : Int) < 0 := by omega
         have hles := less_ctx Q.toList B.n.toList
         clear hB hab HDB hbk
         generalize B.n = Z at *
         simp only [best]
         by_cases hng : ctx Q.toList Z.toList < 0
         ·rw [if_pos hng] at hNN
          rw [decide_eq_true hng] at hles
          have HN : Hid _ := hNN
          clear hNN hng
          go_wp2
          go_quiet (fail)
          go_wp2
          exact ⟨⟨k + 1, by go_num, by omega, by rw [HN.out]; rfl, _, rfl⟩, by simp [intOf]; omega⟩
         ·rw [if_neg hng] at hNN
          rw [decide_eq_false hng] at hles
          have HN : Hid _ := hNN
          clear hNN hng
          go_wp2
          go_quiet (fail)
          go_wp2
          exact ⟨⟨k + 1, by go_num, by omega, by rw [HN.out]; rfl, _, rfl⟩, by simp [intOf]; omega⟩
    ·have hkl : k = len := by omega
     subst hkl
     have hki : ¬ (k : Int) < (k : Int) := by omega
     have hfu := HO.out.fu
     have hln := HE.out.2
     obtain ⟨f, rfl⟩ : ∃ f', f = f' + 1 := ⟨f - 1, by have := HN3.out; omega⟩
     cases hab : abst (l.map AtV.at) (out.map AtV.at) k with
     | none =>
      have HV : Hid (srtV l l.length [] = out) := by
       show _ = _
       rw [HO.out.eq, srtV, hln, hab]
      have HF : Hid _ := And.intro HO.out.own HO.out.gr
      clear hab HO hfu hln
      simp only [best]
      go_wp2
      go_ret
      refine ⟨_, rfl, ?_, drewG11 HF.out.2 _⟩
      rw [HV.out]
      exact owns_kept11 HF.out.1 (drewG11 (World.grownBy.refl _ _) _)
     | some bb =>
      have hbk := abst_lt hab
      have hbi : (bb : Int) < (k : Int) := by omega
      have hb0 : ¬ (bb : Int) < 0 := by omega
      obtain ⟨B, hB⟩ : ∃ B, l[bb]? = some B := ⟨_, List.getElem?_eq_getElem (by omega)⟩
      obtain ⟨eb, eo, rfl, hat⟩ := HE.out.1 (by omega)
      have y0 := cell_grown (hat bb B hB).c0 HO.out.gr
      have y1 := cell_grown (hat bb B hB).c1 HO.out.gr
      have HV : Hid (srtV l l.length [] = srtV l f (out ++ [B])) := by
       show _ = _
       rw [HO.out.eq, srtV, hln, hab]
       simp only
       rw [hB]
       rfl
      have gA := grown_trans (drewG11 (World.grownBy.refl wo none) t) (World.grownBy_alloc (wo.drewN t) (.cells #[.string B.n, .slice B.a B.len B.cap] 45) none)
      have HX : Hid (((wo.drewN t).alloc (.cells #[.string B.n, .slice B.a B.len B.cap] 45)).ownsRow w.heap.size 45 2 (.slice a3 n3 c3) out.length (out.flatMap avc) ∧ w.grownBy ((wo.drewN t).alloc (.cells #[.string B.n, .slice B.a B.len B.cap] 45)) none ∧ Bx ((wo.drewN t).alloc (.cells #[.string B.n, .slice B.a B.len B.cap] 45)) (wo.drewN t).heap.size 45 [.string B.n, .slice B.a B.len B.cap]) := ⟨owns_kept11 HO.out.own gA, grown_trans HO.out.gr gA, Bx.new _ _ _⟩
      have HSZ : Hid (w.heap.size ≤ ((wo.drewN t).alloc (.cells #[.string B.n, .slice B.a B.len B.cap] 45)).heap.size) := HX.out.2.1.size
      have hds : (wo.drewN t).heap.size = wo.heap.size := by simp
      have HB : Hid (avc B = [.string B.n, .slice B.a B.len B.cap]) := rfl
      clear hab hat gA
      generalize hbn : B.n = bn at *
      generalize hba : B.a = ba at *
      generalize hbl : B.len = bl at *
      generalize hbc : B.cap = bc at *
      clear hbn hba hbl hbc hB
      simp only [best]
      go_wp2_with (at_builtin; refine wpList_append_own _ rfl _ _ 28 rfl w.heap.size 45 ia (.agg #[.string ⟨#[]⟩, .slice none 0 0]) 2 40 Tryz.underlying28 hi hz0 hz1 hz2 rfl (by decide) _ _ _ rfl HX.out.1 ⟨wo.heap.size, 0, none⟩ 1 1 [.string bn, .slice ba bl bc] rfl rfl (news_bx HX.out.2.2 hds) (one2 _ _) ?c3 ?c4 HSZ.out ?_)
      case c3 => unfold maxLen; omega
      case c4 => omega
      ·intro v' w4 o4 g4 _
       have HN : Hid (∃ out f, Ao w w4 l out v' f) := by
        refine ⟨out ++ [B], f, grown_own11 HX.out.2.1 HX.out.1 g4, ?_, HV.out, by simp; omega⟩
        rw [List.flatMap_append, List.length_append]
        have e : [B].flatMap avc = [.string bn, .slice ba bl bc] := by rw [← HB.out]; simp
        rw [e]
        exact o4
       have HM : Hid (slLen v' = out.length + 1 ∧ out.length = n3) := ⟨own_len2 o4, HN3.out.symm⟩
       clear o4 g4 HX HV HO HSZ HB
       go_wp2
       go_roundw
       case rel => exact HN
       case measure => have := HM.out; show k - slLen v' < k - n3; omega
  ·have holi : ¬ (out.length : Int) < (len : Int) := by omega
   have HV : Hid (srtV l l.length [] = out) := by
    show _ = _
    have h1 := HO.out.fu
    have h2 := HE.out.2
    rw [HO.out.eq]
    have : f = 0 := by omega
    subst this
    rfl
   have HF : Hid _ := And.intro HO.out.own HO.out.gr
   obtain ⟨n3, hn3⟩ : ∃ n3, n3 = out.length := ⟨_, rfl⟩
   rw [← hn3] at HF holi
   rw [← hn3]
   have HN3 : Hid _ := hn3
   clear hn3 HO
   go_wp2
   go_ret
   refine ⟨_, rfl, ?_, HF.out.2⟩
   rw [HV.out, ← HN3.out]
   exact HF.out.1
theorem foldl_add (l : List Int) (a : Int) : l.foldl (· + ·) a = a + l.foldl (· + ·) 0 := by
 induction l generalizing a with
 | nil => simp
 | cons x r ih => rw [List.foldl_cons, List.foldl_cons, ih, ih (0 + x)]; omega
theorem sums_app (a b : List En) : sums (a ++ b) = sums a + sums b := by
 unfold sums
 rw [List.map_append, List.foldl_append, foldl_add]
theorem sums_nonneg (l : List En) : 0 ≤ sums l := by
 induction l with
 | nil => simp [sums]
 | cons x r ih =>
  have e : x :: r = [x] ++ r := rfl
  rw [e, sums_app]
  have h1 : 0 ≤ sums [x] := by
   unfold sums
   simp only [List.map_cons, List.map_nil, List.foldl_cons, List.foldl_nil]
   split <;> omega
  omega
theorem sums_snoc {l : List EnV} {k : Nat} {Y : EnV} (h : l[k]? = some Y) : sums ((ens l).take (k + 1)) = sums ((ens l).take k) + (if Y.k = 1 then (Y.data.length : Int) else 0) := by
 unfold ens
 have hlt : k < l.length := by
  rcases Nat.lt_or_ge k l.length with h1 | h1
  ·exact h1
  ·rw [List.getElem?_eq_none h1] at h; simp at h
 rw [List.take_succ_eq_append_getElem (by rw [List.length_map]; exact hlt), sums_app]
 have e : l[k] = Y := by rw [List.getElem?_eq_getElem hlt] at h; injection h
 simp [e, sums, EnV.en]
theorem sums_mono {l : List EnV} {k n : Nat} (h : k ≤ n) : sums ((ens l).take k) ≤ sums ((ens l).take n) := by
 have e : (ens l).take n = ((ens l).take n).take k ++ ((ens l).take n).drop k := (List.take_append_drop k _).symm
 rw [e, sums_app, List.take_take, Nat.min_eq_left h]
 have := sums_nonneg (((ens l).take n).drop k)
 omega
theorem fault_skip {l : List En} {m : List En} {i : Nat} {x : En} (h : ent11 l i x = 0) : fault l (x :: m) i = fault l m (i + 1) := by
 rw [fault, if_neg (by simp [h])]
theorem fault_hit {l : List En} {m : List En} {i : Nat} {x : En} (h : ent11 l i x ≠ 0) : fault l (x :: m) i = ((i : Int), ent11 l i x) := by
 rw [fault, if_pos h]
theorem ens_drop {l : List EnV} {k : Nat} {Y : EnV} (h : l[k]? = some Y) : (ens l).drop k = Y.en :: (ens l).drop (k + 1) := by
 unfold ens
 have hlt : k < l.length := by
  rcases Nat.lt_or_ge k l.length with h1 | h1
  ·exact h1
  ·rw [List.getElem?_eq_none h1] at h; simp at h
 rw [List.drop_eq_getElem_cons (by rw [List.length_map]; exact hlt)]
 have e : l[k] = Y := by rw [List.getElem?_eq_getElem hlt] at h; injection h
 simp [e]
theorem ens_len (l : List EnV) : (ens l).length = l.length := by unfold ens; rw [List.length_map]
set_option maxHeartbeats 2000000 in
theorem rcheck_any (a : Option Addr) (len cap : Nat) (l : List EnV) (w : World) (E : Ens w a len l) (hs : Sml l) (hlen : len ≤ 100000) :
  Calls Tryz.prog 9 #[.slice a len cap] w fun e w' => e = .returned (.tuple #[.int .i64 (chk11 (ens l)).1, .int .i64 (chk11 (ens l)).2]) ∧ w.grownBy w' none := by
 have hll := E.len_eq
 by_cases h1 : 16384 < len
 ·have HV : Hid (chk11 (ens l) = (0, 3)) := by
   show chk11 (ens l) = (0, 3)
   unfold chk11
   rw [if_pos (by rw [ens_len]; omega)]
  have h1i : (16384 : Int) < (len : Int) := by omega
  clear E hll
  go_enter Tryz.func9, Tryz.ntmps9
  go_wp2
  go_ret2
  exact ⟨by rw [HV.out]; rfl, World.grownBy.refl _ _⟩
 ·have HE : Hid (chk11 (ens l) = if 8388608 < sums (ens l) then (0, 2) else fault (ens l) (ens l) 0) := by
   show chk11 (ens l) = _
   unfold chk11
   rw [if_neg (by rw [ens_len]; omega)]
  have h1i : ¬ (16384 : Int) < (len : Int) := by omega
  have hta : (ens l).take len = ens l := List.take_of_length_le (by rw [ens_len]; omega)
  have HI : Hid _ := And.intro E (And.intro hll (And.intro hs hta))
  clear E hll hta
  have hen := fun W (EW : Ens W a len l) i X hX => rentry_any a len cap l W EW hs hlen i X hX
  clear hs
  generalize chk11 (ens l) = A at *
  go_enter Tryz.func9, Tryz.ntmps9
  go_wp2

  go_loop [4, 5] (fun vs vi => ∃ (k : Nat) (sm : Int), k ≤ len ∧ vi = .int .i64 k ∧ vs = .int .i64 sm ∧ 0 ≤ sm ∧ sm ≤ 8388608 ∧ Hid (sm = sums ((ens l).take k))) (fun _ vi => len - (intOf vi).toNat)
  case atStart => exact ⟨0, 0, Nat.zero_le _, rfl, rfl, by omega, by omega, rfl⟩
  case round =>
   obtain ⟨k, sm, hk, rfl, rfl, hs0, hs1, HS⟩ := hrel
   by_cases hlt : k < len
   ·obtain ⟨Y, hY⟩ : ∃ Y, l[k]? = some Y := ⟨_, List.getElem?_eq_getElem (by have := HI.out.2.1; omega)⟩
    obtain ⟨b, off, rfl, hat⟩ := HI.out.1.at_ (by omega)
    have hy := hat k Y hY
    have y1 := hy.c1
    have y7 := hy.c7
    have hsn := sums_snoc hY
    have hmo := sums_mono (l := l) (k := k + 1) (n := len) (by omega)
    rw [HI.out.2.2.2, hsn, ← HS.out, hy.ok.row.len_eq] at hmo
    rw [← HS.out, hy.ok.row.len_eq] at hsn
    have hdl := hy.ok.row.le
    have HN : Hid _ := And.intro hsn hmo
    clear hsn hmo hat hy
    generalize Y.k = KY at *
    generalize Y.dl = D at *
    generalize Y.da = da at *
    generalize Y.dc = dc at *
    have hlti : (k : Int) < (len : Int) := by omega
    by_cases hK : KY = 1
    ·have hKb : (KY == 1) = true := by rw [hK]; rfl
     have hKn : (KY != 1) = false := by rw [hK]; rfl
     by_cases hD : 8388608 - sm < D
     ·have HV : Hid (A = (0, 2)) := by
       show A = (0, 2)
       have := HN.out.2
       rw [if_pos hK] at this
       rw [HE.out, if_pos (by omega)]
      go_wp2
      go_ret2
      exact ⟨by rw [HV.out]; rfl, World.grownBy.refl _ _⟩
     ·have HN2 : Hid (sm + D = sums ((ens l).take (k + 1))) := by
       show _ = _
       rw [HN.out.1, if_pos hK]
      clear hK
      go_wp2
      go_round
      case rel => exact ⟨k + 1, sm + D, by omega, by go_num, by go_num, by omega, by omega, HN2⟩
      case measure => simp [intOf]; omega
    ·have hKb : (KY == 1) = false := by rw [beq_eq_false_iff_ne]; exact hK
     have hKn : (KY != 1) = true := by simp [hK]
     have HN2 : Hid (sm = sums ((ens l).take (k + 1))) := by
      show _ = _
      rw [HN.out.1, if_neg hK]; omega
     go_wp2
     go_round
     case rel => exact ⟨k + 1, sm, by omega, by go_num, rfl, by omega, by omega, HN2⟩
     case measure => simp [intOf]; omega
   ·have hk9 : k = len := by omega
    subst hk9
    have HE2 : Hid (A = fault (ens l) ((ens l).drop 0) 0) := by
     show A = _
     have := HS.out
     rw [HI.out.2.2.2] at this
     rw [HE.out, if_neg (by omega), List.drop_zero]
    clear HE HS
    go_wp2
    go_loopw [6] (fun vi wr => ∃ i : Nat, i ≤ k ∧ vi = .int .i64 i ∧ Hid (A = fault (ens l) ((ens l).drop i) i) ∧ Hid (w.grownBy wr none)) (fun vi _ => k - (intOf vi).toNat)
    case atStart => exact ⟨0, Nat.zero_le _, rfl, HE2, World.grownBy.refl _ _⟩
    case round =>
     obtain ⟨i, hi, rfl, HF, HG⟩ := hrel
     by_cases hlt2 : i < k
     ·obtain ⟨Y, hY⟩ : ∃ Y, l[i]? = some Y := ⟨_, List.getElem?_eq_getElem (by have := HI.out.2.1; omega)⟩
      have he := hen wr (HI.out.1.grown HG.out) i Y hY
      have hd := ens_drop hY
      have hlt2i : (i : Int) < (k : Int) := by omega
      by_cases hz : ent11 (ens l) i Y.en = 0
      ·have HF2 : Hid (A = fault (ens l) ((ens l).drop (i + 1)) (i + 1)) := by
        show A = _
        rw [HF.out, hd, fault_skip hz]
       rw [hz] at he
       clear hd hz
       go_wp2_with (go_at_call 30; refine he.mono ?_; rintro e w3 ⟨rfl, HG3⟩)
       go_roundw
       case rel => exact ⟨i + 1, by omega, by go_num, HF2, grown_trans HG.out HG3⟩
       case measure => simp [intOf]; omega
      ·have HV : Hid (A = ((i : Int), ent11 (ens l) i Y.en)) := by
        show A = _
        rw [HF.out, hd, fault_hit hz]
       generalize ent11 (ens l) i Y.en = F at *
       clear hd
       have hzb : (F == 0) = false := by rw [beq_eq_false_iff_ne]; exact hz
       go_wp2_with (go_at_call 30; refine he.mono ?_; rintro e w3 ⟨rfl, HG3⟩)
       go_ret2
       exact ⟨by rw [HV.out]; rfl, grown_trans HG.out HG3⟩
     ·have hk9 : i = k := by omega
      subst hk9
      have HV : Hid (A = (0, 0)) := by
       show A = _
       rw [HF.out, List.drop_eq_nil_of_le (by rw [ens_len, HI.out.2.1]; exact Nat.le_refl _)]
       rfl
      go_wp2
      go_ret2
      exact ⟨by rw [HV.out]; rfl, HG.out⟩
/-- a small attribute -/
def AtV.sm (A : AtV) : Prop := A.n.size ≤ 300 ∧ A.len ≤ 5000
/-- a small entry -/
structure EnV.sm (X : EnV) : Prop where
 d : X.dl ≤ 70000
 p : X.path.size ≤ 5000
 t : X.target.size ≤ 5000
 a : X.al ≤ 70
 at_ : ∀ (i : Nat) (A : AtV), X.attrs[i]? = some A → AtV.sm A
/-- entries that are not much -/
def Smal (l : List EnV) : Prop := ∀ (i : Nat) (X : EnV), l[i]? = some X → EnV.sm X
structure KdAt (w : World) (b o : Nat) (K : Kd) : Prop where
 c0 : w.cell? ⟨b, o, none⟩ = some (.string (tx K.n))
 c1 : w.cell? ⟨b, o + 1, none⟩ = some (.int .i64 K.i)
/-- kids in memory -/
structure Kds (w : World) (a : Option Addr) (len : Nat) (l : List Kd) : Prop where
 len_eq : l.length = len
 le : len ≤ maxLen
 at_ : 0 < len → ∃ b off, a = some ⟨b, off, none⟩ ∧ ∀ (i : Nat) (K : Kd), l[i]? = some K → KdAt w b (off + i * 2) K
theorem Kds.grown {w w' : World} {a : Option Addr} {len : Nat} {l : List Kd} (h : Kds w a len l) (g : w.grownBy w' none) : Kds w' a len l :=
 ⟨h.len_eq, h.le, fun h0 => by obtain ⟨b, off, e, k⟩ := h.at_ h0; exact ⟨b, off, e, fun i K hK => ⟨cell_grown (k i K hK).c0 g, cell_grown (k i K hK).c1 g⟩⟩⟩
def sameKd (x y : Kd) : Bool := (x.n == y.n) && (x.i == y.i)
/-- are they the same? -/
def sameKds : List Kd → List Kd → Bool
 | [], [] => true
 | x :: a, y :: b => sameKd x y && sameKds a b
 | _, _ => false
theorem sameKds_len {a b : List Kd} (h : a.length ≠ b.length) : sameKds a b = false := by
 induction a generalizing b with
 | nil => cases b with
  | nil => simp at h
  | cons y b => rfl
 | cons x a ih => cases b with
  | nil => rfl
  | cons y b => rw [sameKds, ih (by simpa using h), Bool.and_false]
theorem sameKds_step {a b : List Kd} {k : Nat} {x y : Kd} (hx : a[k]? = some x) (hy : b[k]? = some y) : sameKds (a.drop k) (b.drop k) = (sameKd x y && sameKds (a.drop (k + 1)) (b.drop (k + 1))) := by
 have h1 : k < a.length := by
  rcases Nat.lt_or_ge k a.length with h | h
  ·exact h
  ·rw [List.getElem?_eq_none h] at hx; cases hx
 have h2 : k < b.length := by
  rcases Nat.lt_or_ge k b.length with h | h
  ·exact h
  ·rw [List.getElem?_eq_none h] at hy; cases hy
 rw [List.getElem?_eq_getElem h1] at hx
 rw [List.getElem?_eq_getElem h2] at hy
 injection hx with hx
 injection hy with hy
 rw [List.drop_eq_getElem_cons h1, List.drop_eq_getElem_cons h2, sameKds, hx, hy]
theorem sameKds_eq (a b : List Kd) : sameKds a b = true ↔ a = b := by
 induction a generalizing b with
 | nil => cases b <;> simp [sameKds]
 | cons x a ih => cases b with
  | nil => simp [sameKds]
  | cons y b =>
   rw [sameKds, Bool.and_eq_true, ih, List.cons.injEq]
   refine and_congr_left fun _ => ?_
   obtain ⟨n, i⟩ := x
   obtain ⟨m, j⟩ := y
   simp [sameKd]
set_option maxHeartbeats 2000000 in
theorem rsamekids_any (a b : Option Addr) (n c m d : Nat) (l r : List Kd) (w : World) (R : Kds w a n l) (R2 : Kds w b m r) :
  Calls Tryz.prog 29 #[.slice a n c, .slice b m d] w fun e w' => e = .returned (.bool (sameKds l r)) ∧ ∃ n, w' = w.drewN n := by
 have hle1 : n ≤ 9223372036854775807 := R.le
 have hle2 : m ≤ 9223372036854775807 := R2.le
 by_cases hnm : n = m
 ·subst hnm
  have HE : Hid _ := And.intro R.len_eq R2.len_eq
  have HR : Hid _ := And.intro R R2
  clear R R2
  have hb : (n != n) = false := by simp
  go_enter Tryz.func29, Tryz.ntmps29
  go_wp2
  go_loopw [5] (fun i wr => ∃ k : Nat, k ≤ n ∧ i = .int .i64 k ∧ Hid (sameKds l r = sameKds (l.drop k) (r.drop k)) ∧ ∃ n, wr = w.drewN n) (fun i _ => n - (intOf i).toNat)
  case atStart => exact ⟨0, Nat.zero_le _, rfl, rfl, 0, rfl⟩
  case round =>
   obtain ⟨k, h1, rfl, HC, t, rfl⟩ := hrel
   by_cases h3 : k < n
   ·obtain ⟨b1, o1, rfl, c1⟩ := HR.out.1.at_ (by omega)
    obtain ⟨b2, o2, rfl, c2⟩ := HR.out.2.at_ (by omega)
    obtain ⟨x, hx⟩ : ∃ x, l[k]? = some x := ⟨_, List.getElem?_eq_getElem (by rw [HE.out.1]; exact h3)⟩
    obtain ⟨y, hy⟩ : ∃ y, r[k]? = some y := ⟨_, List.getElem?_eq_getElem (by rw [HE.out.2]; exact h3)⟩
    obtain ⟨p0, p1⟩ := c1 k x hx
    obtain ⟨q0, q1⟩ := c2 k y hy
    have hst := sameKds_step hx hy
    rw [← HC.out] at hst
    unfold sameKd at hst
    obtain ⟨xn, xi⟩ := x
    obtain ⟨yn, yi⟩ := y
    simp only at p0 p1 q0 q1 hst
    rw [← tx_tl xn, ← tx_tl yn] at hst
    generalize tx xn = sx at *
    generalize tx yn = sy at *
    have HD : Hid _ := hst
    clear hst c1 c2
    have h3i : (k : Int) < n := by omega
    cases hq : (sx.toList == sy.toList) with
    | true =>
     by_cases hi : xi = yi
     ·subst hi
      have HV : Hid (sameKds l r = sameKds (l.drop (k + 1)) (r.drop (k + 1))) := by
       show _ = _
       rw [HD.out, hq]; simp
      clear HD HC
      go_wp2
      go_quiet (fail)
      go_wp2
      exact ⟨⟨k + 1, by omega, by go_num, HV, _, rfl⟩, by simp [intOf]; omega⟩
     ·have HV : Hid (sameKds l r = false) := by
       show _ = _
       rw [HD.out, hq]; simp [hi]
      have hib : (xi == yi) = false := by rw [beq_eq_false_iff_ne]; exact hi
      have hin : (xi != yi) = true := by simp [hi]
      clear HD HC
      go_wp2
      go_quiet (fail)
      go_wp2
      go_ret
      exact ⟨by rw [HV.out]; rfl, _, dd _ _ _⟩
    | false =>
     have HV : Hid (sameKds l r = false) := by
      show _ = _
      rw [HD.out, hq]; simp
     clear HD HC
     go_wp2
     go_quiet (fail)
     go_wp2
     go_ret
     exact ⟨by rw [HV.out]; rfl, _, dd _ _ _⟩
   ·have HV : Hid (sameKds l r = true) := by
     show _ = _
     rw [HC.out, List.drop_eq_nil_of_le (by rw [HE.out.1]; omega), List.drop_eq_nil_of_le (by rw [HE.out.2]; omega)]
     rfl
    clear HC
    go_wp2
    go_ret
    exact ⟨by rw [HV.out]; rfl, _, rfl⟩
 ·have HV : Hid (sameKds l r = false) := by
   show _ = _
   exact sameKds_len (by rw [R.len_eq, R2.len_eq]; exact hnm)
  have hb : ((n : Int) == (m : Int)) = false := by rw [beq_eq_false_iff_ne]; omega
  clear R R2
  go_enter Tryz.func29, Tryz.ntmps29
  go_wp2
  go_ret
  exact ⟨by rw [HV.out]; rfl, 0, rfl⟩
def sameAt (x y : Atr) : Bool := (x.n == y.n) && decide (x.v = y.v)
/-- are they the same? -/
def sameAts : List Atr → List Atr → Bool
 | [], [] => true
 | x :: a, y :: b => sameAt x y && sameAts a b
 | _, _ => false
theorem sameAts_len {a b : List Atr} (h : a.length ≠ b.length) : sameAts a b = false := by
 induction a generalizing b with
 | nil => cases b with
  | nil => simp at h
  | cons y b => rfl
 | cons x a ih => cases b with
  | nil => rfl
  | cons y b => rw [sameAts, ih (by simpa using h), Bool.and_false]
theorem sameAts_step {a b : List AtV} {k : Nat} {x y : AtV} (hx : a[k]? = some x) (hy : b[k]? = some y) : sameAts ((a.map AtV.at).drop k) ((b.map AtV.at).drop k) = (((x.n.toList == y.n.toList) && decide (x.v = y.v)) && sameAts ((a.map AtV.at).drop (k + 1)) ((b.map AtV.at).drop (k + 1))) := by
 have h1 : k < a.length := by
  rcases Nat.lt_or_ge k a.length with h | h
  ·exact h
  ·rw [List.getElem?_eq_none h] at hx; cases hx
 have h2 : k < b.length := by
  rcases Nat.lt_or_ge k b.length with h | h
  ·exact h
  ·rw [List.getElem?_eq_none h] at hy; cases hy
 rw [List.getElem?_eq_getElem h1] at hx
 rw [List.getElem?_eq_getElem h2] at hy
 injection hx with hx
 injection hy with hy
 rw [List.drop_eq_getElem_cons (l := a.map AtV.at) (i := k) (by rw [List.length_map]; exact h1), List.drop_eq_getElem_cons (l := b.map AtV.at) (i := k) (by rw [List.length_map]; exact h2), sameAts, List.getElem_map, List.getElem_map, hx, hy]
 rfl
theorem sameAts_eq (a b : List Atr) : sameAts a b = true ↔ a = b := by
 induction a generalizing b with
 | nil => cases b <;> simp [sameAts]
 | cons x a ih => cases b with
  | nil => simp [sameAts]
  | cons y b =>
   rw [sameAts, Bool.and_eq_true, ih, List.cons.injEq]
   refine and_congr_left fun _ => ?_
   obtain ⟨n, i⟩ := x
   obtain ⟨m, j⟩ := y
   simp [sameAt]
/-- a node with its places in memory -/
structure NoV where
 k : Int
 mode : Int
 uid : Int
 gid : Int
 time : Int
 size : Int
 da : Option Addr
 dl : Nat
 dc : Nat
 data : List Int
 target : ByteArray
 dev : Int
 aa : Option Addr
 al : Nat
 ac : Nat
 attrs : List AtV
 ka : Option Addr
 kl : Nat
 kc : Nat
 kids : List Kd
 parent : Int
 links : Int
def NoV.no (X : NoV) : No := ⟨X.k, X.mode, X.uid, X.gid, X.time, X.size, X.data, X.target.toList, X.dev, X.attrs.map AtV.at, X.kids, X.parent, X.links⟩
structure NoV.ok (X : NoV) (w : World) : Prop where
 row : Row w X.da X.dl X.data
 ats : Ats w X.aa X.al X.attrs
 kds : Kds w X.ka X.kl X.kids
structure NoAt (w : World) (b o : Nat) (X : NoV) : Prop where
 c0 : w.cell? ⟨b, o, none⟩ = some (.int .i64 X.k)
 c1 : w.cell? ⟨b, o + 1, none⟩ = some (.int .i64 X.mode)
 c2 : w.cell? ⟨b, o + 2, none⟩ = some (.int .i64 X.uid)
 c3 : w.cell? ⟨b, o + 3, none⟩ = some (.int .i64 X.gid)
 c4 : w.cell? ⟨b, o + 4, none⟩ = some (.int .i64 X.time)
 c5 : w.cell? ⟨b, o + 5, none⟩ = some (.int .i64 X.size)
 c6 : w.cell? ⟨b, o + 6, none⟩ = some (.slice X.da X.dl X.dc)
 c7 : w.cell? ⟨b, o + 7, none⟩ = some (.string X.target)
 c8 : w.cell? ⟨b, o + 8, none⟩ = some (.int .i64 X.dev)
 c9 : w.cell? ⟨b, o + 9, none⟩ = some (.slice X.aa X.al X.ac)
 c10 : w.cell? ⟨b, o + 10, none⟩ = some (.slice X.ka X.kl X.kc)
 c11 : w.cell? ⟨b, o + 11, none⟩ = some (.int .i64 X.parent)
 c12 : w.cell? ⟨b, o + 12, none⟩ = some (.int .i64 X.links)
 ok : X.ok w
/-- nodes in memory -/
structure Nos (w : World) (a : Option Addr) (len : Nat) (l : List NoV) : Prop where
 len_eq : l.length = len
 le : len ≤ maxLen
 at_ : 0 < len → ∃ b off, a = some ⟨b, off, none⟩ ∧ ∀ (i : Nat) (X : NoV), l[i]? = some X → NoAt w b (off + i * 13) X
theorem NoV.ok.grown {X : NoV} {w w' : World} (h : X.ok w) (g : w.grownBy w' none) : X.ok w' := ⟨h.row.grown g, h.ats.grown g, h.kds.grown g⟩
theorem NoAt.grown {w w' : World} {b o : Nat} {X : NoV} (h : NoAt w b o X) (g : w.grownBy w' none) : NoAt w' b o X :=
 ⟨cell_grown h.c0 g, cell_grown h.c1 g, cell_grown h.c2 g, cell_grown h.c3 g, cell_grown h.c4 g, cell_grown h.c5 g, cell_grown h.c6 g, cell_grown h.c7 g, cell_grown h.c8 g, cell_grown h.c9 g, cell_grown h.c10 g, cell_grown h.c11 g, cell_grown h.c12 g, h.ok.grown g⟩
theorem Nos.grown {w w' : World} {a : Option Addr} {len : Nat} {l : List NoV} (h : Nos w a len l) (g : w.grownBy w' none) : Nos w' a len l :=
 ⟨h.len_eq, h.le, fun h0 => by obtain ⟨b, off, e, k⟩ := h.at_ h0; exact ⟨b, off, e, fun i X hX => (k i X hX).grown g⟩⟩
def sameNo (x y : No) : Bool := (x.k == y.k) && ((x.mode == y.mode) && ((x.uid == y.uid) && ((x.gid == y.gid) && ((x.time == y.time) && ((x.size == y.size) && (decide (x.data = y.data) && ((x.target == y.target) && ((x.dev == y.dev) && ((x.parent == y.parent) && ((x.links == y.links) && (sameAts x.attrs y.attrs && sameKds x.kids y.kids)))))))))))
/-- are they the same? -/
def sameNos : List No → List No → Bool
 | [], [] => true
 | x :: a, y :: b => sameNo x y && sameNos a b
 | _, _ => false
theorem sameNos_len {a b : List No} (h : a.length ≠ b.length) : sameNos a b = false := by
 induction a generalizing b with
 | nil => cases b with
  | nil => simp at h
  | cons y b => rfl
 | cons x a ih => cases b with
  | nil => rfl
  | cons y b => rw [sameNos, ih (by simpa using h), Bool.and_false]
def nos (l : List NoV) : List No := l.map NoV.no
theorem nos_len (l : List NoV) : (nos l).length = l.length := by unfold nos; rw [List.length_map]
theorem sameNos_step {a b : List NoV} {k : Nat} {x y : NoV} (hx : a[k]? = some x) (hy : b[k]? = some y) : sameNos ((nos a).drop k) ((nos b).drop k) = (sameNo x.no y.no && sameNos ((nos a).drop (k + 1)) ((nos b).drop (k + 1))) := by
 have h1 : k < a.length := by
  rcases Nat.lt_or_ge k a.length with h | h
  ·exact h
  ·rw [List.getElem?_eq_none h] at hx; cases hx
 have h2 : k < b.length := by
  rcases Nat.lt_or_ge k b.length with h | h
  ·exact h
  ·rw [List.getElem?_eq_none h] at hy; cases hy
 rw [List.getElem?_eq_getElem h1] at hx
 rw [List.getElem?_eq_getElem h2] at hy
 injection hx with hx
 injection hy with hy
 unfold nos
 rw [List.drop_eq_getElem_cons (l := a.map NoV.no) (i := k) (by rw [List.length_map]; exact h1), List.drop_eq_getElem_cons (l := b.map NoV.no) (i := k) (by rw [List.length_map]; exact h2), sameNos, List.getElem_map, List.getElem_map, hx, hy]
theorem sameNo_eq (x y : No) : sameNo x y = true ↔ x = y := by
 obtain ⟨x0, x1, x2, x3, x4, x5, x6, x7, x8, x9, x10, x11, x12⟩ := x
 obtain ⟨y0, y1, y2, y3, y4, y5, y6, y7, y8, y9, y10, y11, y12⟩ := y
 simp only [sameNo, Bool.and_eq_true, beq_iff_eq, decide_eq_true_eq, sameAts_eq, sameKds_eq, No.mk.injEq]
 constructor
 ·rintro ⟨h0, h1, h2, h3, h4, h5, h6, h7, h8, h9, h10, h11, h12⟩
  exact ⟨h0, h1, h2, h3, h4, h5, h6, h7, h8, h11, h12, h9, h10⟩
 ·rintro ⟨h0, h1, h2, h3, h4, h5, h6, h7, h8, h11, h12, h9, h10⟩
  exact ⟨h0, h1, h2, h3, h4, h5, h6, h7, h8, h9, h10, h11, h12⟩
theorem sameNos_eq (a b : List No) : sameNos a b = true ↔ a = b := by
 induction a generalizing b with
 | nil => cases b <;> simp [sameNos]
 | cons x a ih => cases b with
  | nil => simp [sameNos]
  | cons y b => rw [sameNos, Bool.and_eq_true, ih, List.cons.injEq, sameNo_eq]
end Go.Proofs.YtlehncfehoelbaaGreatDoor
