/- The document's Split. The document's Join. Lists of entries, as plain data; which are trees. The document's Up, Last, in, text. Plain facts: bytes as lists of numbers, numbers out of bytes, the lowest first. -/
import Derived.Laws.AppendOwn
import Derived.WalkKit
import Derived.Test.YtlehncfehoelbaaGreatDoorB01
namespace Go.Proofs.YtlehncfehoelbaaGreatDoor
open Go.RowKit
set_option maxRecDepth 100000
set_option linter.unusedSimpArgs false
set_option linter.unusedVariables false
def tx (l : Tx) : ByteArray := ⟨l.toArray⟩
theorem tx_tl (l : Tx) : (tx l).toList = l := ByteArray.toList_mk l
theorem tl_tx (s : ByteArray) : tx s.toList = s := tl_inj (tx_tl _)
def txs (l : List Tx) : List ByteArray := l.map tx
theorem tls_txs (l : List Tx) : tls (txs l) = l := by unfold tls txs; rw [List.map_map]; conv => rhs; rw [← List.map_id l]
                                                      apply List.map_congr_left; intro x _; exact tx_tl x
def sv (l : List ByteArray) : List Value := l.map Value.string
theorem sv_len (l : List ByteArray) : (sv l).length = l.length := by simp [sv]
theorem sv_app (a b : List ByteArray) : sv (a ++ b) = sv a ++ sv b := by simp [sv]
theorem sv_one (l : List ByteArray) : ∀ v ∈ sv l, v.oneCell' = true := by
 intro v hv
 obtain ⟨s, _, rfl⟩ := List.mem_map.1 hv
 rfl
theorem extract_tx (s : ByteArray) (f i : Nat) : s.extract f i = tx ((s.toList.drop f).take (i - f)) := by
 conv => lhs; rw [← tl_tx s]
 exact ByteArray.extract_mk _ _ _
/-- a part of a text behind a slash -/
theorem cutS_cat (a b : Tx) : cutS (a ++ 47 :: b) = cutS a ++ cutS b := by
 induction a with
 | nil => simp [cutS]
 | cons c r ih =>
  rw [List.cons_append, cutS.eq_2, cutS.eq_2, ih]
  by_cases hc : c = 47
  ·simp [hc]
  ·rw [if_neg hc, if_neg hc]
   cases h : cutS r with
   | nil => exact absurd h (cutS_ne r)
   | cons p ps => simp
theorem cutS_len (l : Tx) : (cutS l).length ≤ l.length + 1 := by
 induction l with
 | nil => simp [cutS]
 | cons c r ih =>
  rw [cutS.eq_2]
  split
  ·simp only [List.length_cons]; omega
  ·split
   ·simp
   ·rename_i h
    rw [h] at ih
    simp only [List.length_cons] at *
    omega
theorem cell_one_newV (w : World) (t : TypeId) (v : Value) (j : Nat) (u : Value) (h : ([v])[j]? = some u) : (w.alloc (.cells #[v] t)).cell? ((⟨w.heap.size, 0, none⟩ : Addr).add j) = some u := by
 cases j with
 | zero =>
  simp at h
  subst h
  simp [Addr.add]
 | succ j => simp at h
theorem grown_tr {a b c : World} {row : Option Nat} (h : a.grownBy b row) (k : b.grownBy c row) : a.grownBy c row :=
 ⟨k.os.trans h.os, k.tape.trans h.tape, k.output.trans h.output, Nat.le_trans h.size k.size, fun x hx hr => (k.block x (Nat.lt_of_lt_of_le hx h.size) hr).trans (h.block x hx hr)⟩
theorem grown_own9 {a b c : World} {base t : Nat} {v : Value} {n : Nat} {xs : List Value} (h : a.grownBy b none) (ho : b.ownsRow base t 1 v n xs) (k : b.grownBy c v.ownBlock) (hb : a.heap.size ≤ base) : a.grownBy c none :=
 ⟨k.os.trans h.os, k.tape.trans h.tape, k.output.trans h.output, Nat.le_trans h.size k.size, fun x hx _ => (k.block x (Nat.lt_of_lt_of_le hx h.size) (fun e => by have := (ho.lt x e.symm).1; omega)).trans (h.block x hx (by simp))⟩
theorem filt (ps : List Tx) (q : Tx) : (ps ++ [q]).filter kept = ps.filter kept ++ (if kept q = true then [q] else []) := by
 rw [List.filter_append]
 cases h : kept q <;> simp [h]
theorem keptx {x : ByteArray} {q : Tx} (h : x.toList = q) : kept q = (!(x.toList == []) && !(x.toList == [46])) := by subst h; rfl
theorem owns_srow {w : World} {base : Nat} {v : Value} {n : Nat} {l : List ByteArray} (h : w.ownsRow base 9 1 v n (sv l)) : ∃ a c, v = .slice a n c ∧ SRow w a n l ∧ n ≤ c ∧ c ≤ maxLen := by
 have hn : l.length = n := by have := h.1; rw [sv_len] at this; omega
 rcases h.2 with ⟨rfl, rfl⟩ | ⟨g, cap, cur, rfl, _, hg, hc, hm, hs, ht⟩
 ·exact ⟨none, 0, rfl, ⟨hn, fun h => by omega⟩, Nat.le_refl _, Nat.zero_le _⟩
 ·refine ⟨_, cap, rfl, ⟨hn, fun _ => ⟨g, 0, rfl, fun i hi => ?_⟩⟩, hc, hm⟩
  have e : w.cell? ⟨g, 0 + i, none⟩ = cur[i]? := by simp [World.cell?, hg]
  have e2 : (sv l)[i]? = some (.string (l.getD i ⟨#[]⟩)) := by simp [sv, List.getElem?_eq_getElem (show i < l.length by omega)]
  rw [e, ← e2, ← ht, List.getElem?_take, if_pos (by omega), Array.getElem?_toList]
theorem Tryz.info9 : (Tryz.prog.info? 9).map (fun i => (i.zero, i.size, i.bytes)) = some (some (.string ⟨#[]⟩), 1, 16) := by kernel_rfl
/-- what Split answers -/
def SpPost (w : World) (r : List Tx × Int) (e : Ending) (w' : World) : Prop := ∃ a n c, e = .returned (.tuple #[.slice a n c, .int .i64 r.2]) ∧ w'.ownsRow w.heap.size 9 1 (.slice a n c) n (sv (txs r.1)) ∧ w.grownBy w' none
/-- Split of a text that is not too long and has no 0 -/
def sp2 (L : Tx) : List Tx × Int := if (cutS L).any longP then ([], 1) else if 128 < ((cutS L).filter kept).length then ([], 3) else ((cutS L).filter kept, 0)
/-- between two rounds of Split's second loop -/
def Cu (L : Tx) (sz i f : Nat) (ps : List Tx) : Prop := ((i ≤ sz ∧ f ≤ i ∧ cutS (L.take i) = ps ++ [(L.drop f).take (i - f)]) ∨ (i = sz + 1 ∧ f = i ∧ cutS L = ps)) ∧ ps.any longP = false
set_option maxHeartbeats 2000000 in
theorem rsplit_main (s : ByteArray) (w : World) (hs : s.size ≤ 4096) (h0 : s.toList.any (· == 0) = false) : Calls Tryz.prog 77 #[.string s] w (SpPost w (sp2 s.toList)) := by
 obtain ⟨i9, hi, hz0, hz1, hz2⟩ := info_parts Tryz.info9
 have g1 : ¬ (4096 : Int) < s.size := by omega
 have HZ : Hid _ := h0
 clear h0
 go_enter Tryz.func77, Tryz.ntmps77
 go_wp2
 go_loop [4] (fun i => ∃ k : Nat, k ≤ s.size ∧ i = .int .i64 k) (fun i => s.size - (intOf i).toNat)
 case atStart => exact ⟨0, Nat.zero_le _, rfl⟩
 case round =>
  obtain ⟨k, hk, rfl⟩ := hrel
  by_cases hlt : k < s.size
  ·have hb : ((s[k].toNat : Int) == 0) = false := by
    rw [beq_eq_false_iff_ne]
    intro e
    have h1 := HZ.out
    rw [List.any_eq_false] at h1
    have h2 := h1 s[k] (by rw [← tl_get hlt]; exact List.getElem_mem _)
    apply h2
    have e2 : s[k] = 0 := by apply UInt8.toNat_inj.1; show s[k].toNat = 0; omega
    rw [e2]; rfl
   go_wp2
   go_round
   case rel => exact ⟨k + 1, by omega, by go_num⟩
   case measure => simp [intOf]; omega
  ·go_wp2
   go_loopw [5, 6, 7] (fun vl vf vi wr => ∃ (i f : Nat) (ps : List Tx), vi = .int .i64 i ∧ vf = .int .i64 f ∧ i ≤ s.size + 1 ∧ Hid (Cu s.toList s.size i f ps) ∧ wr.ownsRow w.heap.size 9 1 vl ((ps.filter kept).length) (sv (txs (ps.filter kept))) ∧ w.grownBy wr none) (fun _ _ vi _ => s.size + 1 - (intOf vi).toNat)
   case atStart => exact ⟨0, 0, [], rfl, rfl, by omega, ⟨Or.inl ⟨Nat.zero_le _, Nat.le_refl _, by simp [cutS]⟩, rfl⟩, World.ownsRow_nil _ _ _ _, World.grownBy.refl _ _⟩
   case round =>
    obtain ⟨i, f, ps, rfl, rfl, hi1, HC, hown, hgr⟩ := hrel
    by_cases hin : i ≤ s.size
    ·have hc := HC.out
     obtain ⟨⟨h1, h2, h3⟩ | ⟨h1, h2, h3⟩, h4⟩ := hc
     ·have hfi : (f : Int) ≤ (i : Int) := by omega
      have hii : (i : Int) ≤ s.size := by omega
      have hex := extract_tx s f i
      have hql : ((s.toList.drop f).take (i - f)).length = i - f := by rw [List.length_take, List.length_drop, tl_len]; omega
      generalize hQ : (s.toList.drop f).take (i - f) = q at *
      have HQ : Hid _ := And.intro hQ (And.intro h3 (And.intro h4 hql))
      clear hQ h3 h4
      cases hcon : (decide (i < s.size) && !(byt s i == 47)) with
      | true =>
       rw [Bool.and_eq_true, decide_eq_true_eq, Bool.not_eq_true', beq_eq_false_iff_ne] at hcon
       obtain ⟨hlt2, hne⟩ := hcon
       have hb : ((s[i].toNat : Int) == 47) = false := by rw [beq_eq_false_iff_ne]; rw [byt_in hlt2]; omega
       have hne2 : s[i] ≠ 47 := fun e => hne (by rw [← byt_in hlt2, e]; rfl)
       have HN : Hid (Cu s.toList s.size (i + 1) f ps) := by
        refine ⟨Or.inl ⟨by omega, by omega, ?_⟩, HQ.out.2.2.1⟩
        rw [take_get hlt2, cutS_byte hne2 HQ.out.2.1, ← HQ.out.1, show i + 1 - f = i - f + 1 by omega]
        congr 2
        have hlen : i - f < (s.toList.drop f).length := by rw [List.length_drop, tl_len]; omega
        rw [List.take_succ_eq_append_getElem hlen, List.getElem_drop]
        congr 2
        rw [← tl_get hlt2]
        congr 1
        omega
       clear hne hne2 HQ hex hql HC
       go_wp2
       go_roundw
       case rel => exact ⟨i + 1, f, ps, by go_num, rfl, by omega, HN, hown, hgr⟩
       case measure => simp [intOf]; omega
      | false =>
       have hend : i = s.size ∨ ∃ h : i < s.size, s[i] = 47 := by
        rcases Nat.lt_or_ge i s.size with h | h
        ·right
         refine ⟨h, ?_⟩
         rw [Bool.and_eq_false_iff] at hcon
         rcases hcon with hcon | hcon
         ·simp at hcon; omega
         ·have : byt s i = 47 := by simpa using hcon
          apply UInt8.toNat_inj.1
          rw [byt_in h, this]; rfl
        ·left; omega
       have HT : Hid (∃ r : List Tx, cutS s.toList = ps ++ [q] ++ r) := by
        rcases hend with h | ⟨h, e⟩
        ·refine ⟨[], ?_⟩
         have := HQ.out.2.1
         rw [List.take_of_length_le (by rw [tl_len]; omega)] at this
         rw [this]; simp
        ·refine ⟨cutS (s.toList.drop (i + 1)), ?_⟩
         have e2 : s.toList = s.toList.take i ++ 47 :: s.toList.drop (i + 1) := by
          conv => lhs; rw [← List.take_append_drop i s.toList, drop_get h, e]
         have e3 := congrArg cutS e2
         rw [cutS_cat, HQ.out.2.1] at e3
         exact e3
       have HN : Hid (longP q = false → Cu s.toList s.size (i + 1) (i + 1) (ps ++ [q])) := by
        intro hlg
        refine ⟨?_, by rw [List.any_append, HQ.out.2.2.1]; simp [hlg]⟩
        rcases hend with h | ⟨h, e⟩
        ·refine Or.inr ⟨by omega, rfl, ?_⟩
         have := HQ.out.2.1
         rw [List.take_of_length_le (by rw [tl_len]; omega)] at this
         exact this
        ·refine Or.inl ⟨by omega, Nat.le_refl _, ?_⟩
         rw [take_get h, e, cutS_slash HQ.out.2.1, Nat.sub_self, List.take_zero]
       have HL : Hid _ := HQ.out.2.2.2
       have hxs : (tx q).size = i - f := by rw [← tl_len, tx_tl]; exact HL.out
       have hxl : (tx q).toList = q := tx_tl q
       generalize htx : tx q = x at *
       have HX : Hid _ := And.intro htx hxl
       cases hlg : longP q with
       | true =>
        have HV : Hid (sp2 s.toList = ([], 1)) := by
         show sp2 s.toList = ([], 1)
         obtain ⟨r, e⟩ := HT.out
         unfold sp2
         rw [e, if_pos (by rw [List.any_append, List.any_append]; simp [hlg])]
        have hbig : (255 : Int) < ((x.size : Nat) : Int) := by
         have : 255 < q.length := by unfold longP at hlg; simpa using hlg
         have := HL.out
         omega
        clear hlg hxl htx hql HT HN hcon
        have hcond : ¬ i < s.size ∨ ∃ h : i < s.size, s[i].toNat = 47 := hend.elim (fun h => Or.inl (by omega)) (fun ⟨h, e⟩ => Or.inr ⟨h, by rw [e]; rfl⟩)
        clear hend
        rcases hcond with hnl | ⟨hyl, he47⟩
        ·have hnli : ¬ (i : Int) < s.size := by omega
         go_wp2
         go_ret2
         rw [HV.out]
         exact ⟨_, _, _, rfl, World.ownsRow_nil _ _ _ _, hgr⟩
        ·have hb47 : ((s[i].toNat : Int) == 47) = true := by rw [he47]; rfl
         clear he47
         go_wp2
         go_ret2
         rw [HV.out]
         exact ⟨_, _, _, rfl, World.ownsRow_nil _ _ _ _, hgr⟩
       | false =>
        have HN2 : Hid (Cu s.toList s.size (i + 1) (i + 1) (ps ++ [q])) := HN.out hlg
        have hbig : ¬ (255 : Int) < ((x.size : Nat) : Int) := by
         have : ¬ 255 < q.length := by unfold longP at hlg; simpa using hlg
         have := HL.out
         omega
        have hpl : (ps.filter kept).length ≤ 4097 := by
         have h1 := List.length_filter_le kept ps
         have h2 := cutS_len (s.toList.take i)
         rw [HQ.out.2.1, List.length_append, List.length_take, tl_len] at h2
         simp at h2
         omega
        have hcond : ¬ i < s.size ∨ ∃ h : i < s.size, s[i].toNat = 47 := hend.elim (fun h => Or.inl (by omega)) (fun ⟨h, e⟩ => Or.inr ⟨h, by rw [e]; rfl⟩)
        have HK : Hid _ := keptx hxl
        have HF : Hid _ := filt ps q
        clear hlg hxl htx hql HT HN hcon hend HC HQ
        cases hke : kept q with
        | true =>
         have hk2 := HK.out
         rw [hke] at hk2
         have hx1 : (x.toList == []) = false := by cases h : (x.toList == []) <;> simp [h] at hk2 ⊢
         have hx2 : (x.toList == [46]) = false := by cases h : (x.toList == [46]) <;> simp [h] at hk2 ⊢
         clear hk2
         rcases hcond with hnl | ⟨hyl, he47⟩
         ·have hnli : ¬ (i : Int) < s.size := by omega
          go_wp2_with (at_builtin; (refine wpList_append_own _ rfl _ _ 104 rfl w.heap.size 9 i9 (.string ⟨#[]⟩) 1 16 Tryz.underlying104 hi hz0 hz1 hz2 rfl (by decide) _ _ _ rfl (hown.alloc _) ⟨wr.heap.size, 0, none⟩ 1 1 (sv [x]) rfl rfl ?c1 (sv_one _) ?c3 ?c4 ?c5 ?_))
          case c1 => first | exact cell_one_newV _ _ _ | exact fun j u h => h
          case c3 => unfold maxLen; omega
          case c4 => omega
          case c5 => have := hgr.size; simp; omega
          ·intro v' w1 hown' hgrow _
           have R : w1.ownsRow w.heap.size 9 1 v' (((ps ++ [q]).filter kept).length) (sv (txs ((ps ++ [q]).filter kept))) := by
            rw [HF.out, if_pos hke, List.length_append]
            unfold txs
            rw [List.map_append, sv_app]
            have : sv (List.map tx [q]) = sv [x] := by rw [← HX.out.1]; rfl
            rw [this]
            exact hown'
           have hg' : w.grownBy w1 none := grown_own9 (grown_tr hgr (World.grownBy_alloc wr _ none)) (hown.alloc _) hgrow (Nat.le_refl _)
           clear hown' hgrow hown hgr
           go_wp2
           go_roundw
           case rel => exact ⟨i + 1, i + 1, ps ++ [q], by go_num, by go_num, by omega, HN2, R, hg'⟩
           case measure => simp [intOf]; omega
         ·have hb47 : ((s[i].toNat : Int) == 47) = true := by rw [he47]; rfl
          clear he47
          go_wp2_with (at_builtin; (refine wpList_append_own _ rfl _ _ 104 rfl w.heap.size 9 i9 (.string ⟨#[]⟩) 1 16 Tryz.underlying104 hi hz0 hz1 hz2 rfl (by decide) _ _ _ rfl (hown.alloc _) ⟨wr.heap.size, 0, none⟩ 1 1 (sv [x]) rfl rfl ?c1 (sv_one _) ?c3 ?c4 ?c5 ?_))
          case c1 => first | exact cell_one_newV _ _ _ | exact fun j u h => h
          case c3 => unfold maxLen; omega
          case c4 => omega
          case c5 => have := hgr.size; simp; omega
          ·intro v' w1 hown' hgrow _
           have R : w1.ownsRow w.heap.size 9 1 v' (((ps ++ [q]).filter kept).length) (sv (txs ((ps ++ [q]).filter kept))) := by
            rw [HF.out, if_pos hke, List.length_append]
            unfold txs
            rw [List.map_append, sv_app]
            have : sv (List.map tx [q]) = sv [x] := by rw [← HX.out.1]; rfl
            rw [this]
            exact hown'
           have hg' : w.grownBy w1 none := grown_own9 (grown_tr hgr (World.grownBy_alloc wr _ none)) (hown.alloc _) hgrow (Nat.le_refl _)
           clear hown' hgrow hown hgr
           go_wp2
           go_roundw
           case rel => exact ⟨i + 1, i + 1, ps ++ [q], by go_num, by go_num, by omega, HN2, R, hg'⟩
           case measure => simp [intOf]; omega
        | false =>
         have hk2 := HK.out
         rw [hke] at hk2
         have hx12 : (x.toList == []) = true ∨ ((x.toList == []) = false ∧ (x.toList == [46]) = true) := by
          cases h : (x.toList == []) <;> simp [h] at hk2 ⊢
          simpa using hk2
         clear hk2
         rcases hx12 with hx1 | ⟨hx1, hx2⟩
         ·skip
          rcases hcond with hnl | ⟨hyl, he47⟩
          ·have hnli : ¬ (i : Int) < s.size := by omega
           have R : wr.ownsRow w.heap.size 9 1 u5 (((ps ++ [q]).filter kept).length) (sv (txs ((ps ++ [q]).filter kept))) := by
            rw [HF.out, if_neg (by rw [hke]; decide), List.append_nil]
            exact hown
           clear hown
           go_wp2
           go_roundw
           case rel => exact ⟨i + 1, i + 1, ps ++ [q], by go_num, by go_num, by omega, HN2, R, hgr⟩
           case measure => simp [intOf]; omega
          ·have hb47 : ((s[i].toNat : Int) == 47) = true := by rw [he47]; rfl
           clear he47
           have R : wr.ownsRow w.heap.size 9 1 u5 (((ps ++ [q]).filter kept).length) (sv (txs ((ps ++ [q]).filter kept))) := by
            rw [HF.out, if_neg (by rw [hke]; decide), List.append_nil]
            exact hown
           clear hown
           go_wp2
           go_roundw
           case rel => exact ⟨i + 1, i + 1, ps ++ [q], by go_num, by go_num, by omega, HN2, R, hgr⟩
           case measure => simp [intOf]; omega
         ·skip
          rcases hcond with hnl | ⟨hyl, he47⟩
          ·have hnli : ¬ (i : Int) < s.size := by omega
           have R : wr.ownsRow w.heap.size 9 1 u5 (((ps ++ [q]).filter kept).length) (sv (txs ((ps ++ [q]).filter kept))) := by
            rw [HF.out, if_neg (by rw [hke]; decide), List.append_nil]
            exact hown
           clear hown
           go_wp2
           go_roundw
           case rel => exact ⟨i + 1, i + 1, ps ++ [q], by go_num, by go_num, by omega, HN2, R, hgr⟩
           case measure => simp [intOf]; omega
          ·have hb47 : ((s[i].toNat : Int) == 47) = true := by rw [he47]; rfl
           clear he47
           have R : wr.ownsRow w.heap.size 9 1 u5 (((ps ++ [q]).filter kept).length) (sv (txs ((ps ++ [q]).filter kept))) := by
            rw [HF.out, if_neg (by rw [hke]; decide), List.append_nil]
            exact hown
           clear hown
           go_wp2
           go_roundw
           case rel => exact ⟨i + 1, i + 1, ps ++ [q], by go_num, by go_num, by omega, HN2, R, hgr⟩
           case measure => simp [intOf]; omega
     ·omega
    ·have hc := HC.out
     obtain ⟨⟨h1, h2, h3⟩ | ⟨h1, h2, h3⟩, h4⟩ := hc
     ·omega
     ·have hni : ¬ (i : Int) ≤ s.size := by omega
      have hsp : sp2 s.toList = if 128 < (ps.filter kept).length then ([], 3) else (ps.filter kept, 0) := by
       unfold sp2
       rw [h3, h4, if_neg (by decide)]
      have HS : Hid _ := hsp
      clear hsp h3 h4 HC h1 h2
      obtain ⟨a', c', rfl, -, -, -⟩ := owns_srow hown
      by_cases hm : 128 < (ps.filter kept).length
      ·have hmi : (128 : Int) < ((ps.filter kept).length : Nat) := by omega
       have HV : Hid (sp2 s.toList = ([], 3)) := by
        show sp2 s.toList = ([], 3)
        rw [HS.out, if_pos hm]
       generalize (ps.filter kept).length = nn at *
       clear HS hm
       go_wp2
       go_ret2
       rw [HV.out]
       exact ⟨_, _, _, rfl, World.ownsRow_nil _ _ _ _, hgr⟩
      ·have hmi : ¬ (128 : Int) < ((ps.filter kept).length : Nat) := by omega
       have HV : Hid (sp2 s.toList = (ps.filter kept, 0)) := by
        show sp2 s.toList = (ps.filter kept, 0)
        rw [HS.out, if_neg hm]
       have HO : Hid _ := hown
       generalize (ps.filter kept).length = nn at *
       clear HS hm hown
       go_wp2
       go_ret2
       rw [HV.out]
       exact ⟨_, _, _, rfl, HO.out, hgr⟩
theorem rsplit_any (s : ByteArray) (w : World) (hs : s.size ≤ 1000000) : Calls Tryz.prog 77 #[.string s] w (SpPost w (spl s.toList)) := by
 by_cases h1 : 4096 < s.size
 ·have e : spl s.toList = ([], 2) := by unfold spl; rw [if_pos (by rw [tl_len]; exact h1)]
  rw [e]
  have g1 : (4096 : Int) < s.size := by omega
  go_enter Tryz.func77, Tryz.ntmps77
  go_wp2
  go_ret2
  exact ⟨_, _, _, rfl, World.ownsRow_nil _ _ _ _, World.grownBy.refl _ _⟩
 ·cases h0 : s.toList.any (· == 0) with
  | false =>
   have e : spl s.toList = sp2 s.toList := by unfold spl sp2; rw [if_neg (by rw [tl_len]; exact h1), h0, if_neg (by decide)]
   rw [e]
   exact rsplit_main s w (by omega) h0
  | true =>
   have e : spl s.toList = ([], 6) := by unfold spl; rw [if_neg (by rw [tl_len]; exact h1), h0, if_pos rfl]
   rw [e]
   clear e
   have HZ : Hid _ := h0
   clear h0
   have g1 : ¬ (4096 : Int) < s.size := by omega
   go_enter Tryz.func77, Tryz.ntmps77
   go_wp2
   go_loop [4] (fun i => ∃ k : Nat, k ≤ s.size ∧ i = .int .i64 k ∧ Hid ((s.toList.drop k).any (· == 0) = true)) (fun i => s.size - (intOf i).toNat)
   case atStart => exact ⟨0, Nat.zero_le _, rfl, HZ⟩
   case round =>
    obtain ⟨k, hk, rfl, HD⟩ := hrel
    by_cases hlt : k < s.size
    ·have hd := HD.out
     rw [drop_get hlt, List.any_cons] at hd
     cases hb : ((s[k].toNat : Int) == 0) with
     | true =>
      clear hd HD
      go_wp2
      go_ret2
      exact ⟨_, _, _, rfl, World.ownsRow_nil _ _ _ _, World.grownBy.refl _ _⟩
     | false =>
      have hb2 : (s[k] == 0) = false := by
       rw [beq_eq_false_iff_ne] at hb ⊢
       intro e
       rw [e] at hb
       exact hb rfl
      rw [hb2, Bool.false_or] at hd
      have HD2 : Hid _ := hd
      clear hd HD hb2
      go_wp2
      go_round
      case rel => exact ⟨k + 1, by omega, by go_num, HD2⟩
      case measure => simp [intOf]; omega
    ·have hd := HD.out
     rw [List.drop_eq_nil_of_le (by rw [tl_len]; omega)] at hd
     exact absurd hd (by decide)
theorem bad_any (s : ByteArray) : ∀ k, k ≤ s.size → bad s k = (s.toList.take k).any fun c => c == 47 || c == 0
 | 0, _ => rfl
 | k + 1, h => by
  rw [bad_succ, take_get (by omega), List.any_append, bad_any s k (by omega)]
  congr 1
  rw [← byt_in (by omega)]
  simp only [List.any_cons, List.any_nil, Bool.or_false]
  congr 1
  ·rw [Bool.eq_iff_iff, beq_iff_eq, beq_iff_eq]; exact ⟨fun h => UInt8.toNat_inj.1 h, fun h => by rw [h]; rfl⟩
  ·rw [Bool.eq_iff_iff, beq_iff_eq, beq_iff_eq]; exact ⟨fun h => UInt8.toNat_inj.1 h, fun h => by rw [h]; rfl⟩
theorem val_vld (s : ByteArray) : val s = vld s.toList := by
 unfold val vld
 rw [tl_len, bad_any s s.size (Nat.le_refl _), List.take_of_length_le (by rw [tl_len]; exact Nat.le_refl _)]
theorem tx_app (a b : Tx) : tx a ++ tx b = tx (a ++ b) := by
 apply tl_inj
 rw [tx_tl, ByteArray.toList_eq]
 simp [tx]
theorem tx_app2 (a : Tx) (x : ByteArray) : tx a ++ x = tx (a ++ x.toList) := by rw [← tx_app, tl_tx]
theorem tx_size (a : Tx) : (tx a).size = a.length := by rw [← tl_len, tx_tl]
/-- so long are the first k parts at most, with their slashes -/
theorem joi_len (l : List Tx) (m : Nat) (h : ∀ p ∈ l, p.length ≤ m) : (joi l).length ≤ l.length * (m + 1) := by
 induction l with
 | nil => simp [joi]
 | cons p r ih =>
  have h1 := h p (List.mem_cons_self ..)
  have h2 := ih (fun q hq => h q (List.mem_cons_of_mem _ hq))
  cases r with
  | nil => simp [joi]; omega
  | cons q t =>
   rw [joi, List.length_append, List.length_cons, List.length_cons, Nat.succ_mul]
   omega
set_option maxHeartbeats 2000000 in
theorem rjoin_any (a : Option Addr) (n c : Nat) (l : List ByteArray) (w : World) (R : SRow w a n l) (hn : n ≤ 1000000) (hl : ∀ i, (l.getD i ⟨#[]⟩).size ≤ 5000) :
  Calls Tryz.prog 88 #[.slice a n c] w fun e w' => e = .returned (.tuple #[.string (tx (jnp (tls l)).1), .int .i64 (jnp (tls l)).2]) ∧ ∃ n, w' = w.drewN n := by
 have hln : (tls l).length = n := by rw [tls_len]; exact R.len_eq
 by_cases hm : 128 < n
 ·have e : jnp (tls l) = ([], 3) := by unfold jnp; rw [hln, if_pos hm]
  rw [e]
  have hmi : (128 : Int) < n := by omega
  go_enter Tryz.func88, Tryz.ntmps88
  go_wp2
  go_ret2
  exact ⟨rfl, 0, rfl⟩
 ·have hmi : ¬ (128 : Int) < n := by omega
  have HJ : Hid (jnp (tls l) = if (tls l).any (fun p => !prt p) then ([], 1) else if 4096 < (joi (tls l)).length then ([], 2) else (joi (tls l), 0)) := by
   show jnp (tls l) = _
   unfold jnp; rw [hln, if_neg hm]
  have HB : Hid (∀ p ∈ tls l, p.length ≤ 5000) := by
   intro p hp
   obtain ⟨x, hx, rfl⟩ := List.mem_map.1 hp
   obtain ⟨i, hi, rfl⟩ := List.getElem_of_mem hx
   have := hl i
   rw [tl_len]
   simpa [List.getD_eq_getElem?_getD, hi] using this
  generalize hT : tls l = T at *
  have HT : Hid _ := And.intro hT hln
  have HR : Hid _ := And.intro R hl
  clear R hl hT hln
  go_enter Tryz.func88, Tryz.ntmps88
  go_wp2
  go_loopw [4, 5] (fun vs vi wr => ∃ k : Nat, k ≤ n ∧ vi = .int .i64 k ∧ vs = .string (tx (joi (T.take k))) ∧ Hid ((T.take k).any (fun p => !prt p) = false) ∧ ∃ t, wr = w.drewN t) (fun _ vi _ => n - (intOf vi).toNat)
  case atStart => exact ⟨0, Nat.zero_le _, rfl, rfl, rfl, 0, rfl⟩
  case round =>
   obtain ⟨k, hk, rfl, rfl, HP, t, rfl⟩ := hrel
   by_cases hlt : k < n
   ·obtain ⟨b1, o1, rfl, c1⟩ := HR.out.1.cells (by omega)
    have hx := c1 k hlt
    have hsz := HR.out.2 k
    have hTk : T.take (k + 1) = T.take k ++ [(l.getD k ⟨#[]⟩).toList] := by
     rw [List.take_succ_eq_append_getElem (by rw [HT.out.2]; exact hlt)]
     congr 2
     have hkl : k < l.length := by rw [HR.out.1.len_eq]; exact hlt
     simp only [← HT.out.1, tls, List.getElem_map, List.getD_eq_getElem?_getD, List.getElem?_eq_getElem hkl, Option.getD_some]
    generalize l.getD k ⟨#[]⟩ = x at *
    have hJl : (joi (T.take k)).length ≤ 640128 := by
     have h1 := joi_len (T.take k) 5000 (fun p hp => HB.out p (List.mem_of_mem_take hp))
     have h2 : (T.take k).length ≤ 128 := by rw [List.length_take]; omega
     exact Nat.le_trans h1 (Nat.le_trans (Nat.mul_le_mul_right _ h2) (by decide))
    have hv := fun W => rvalid_any x W hsz
    rw [val_vld] at hv
    have HTK : Hid _ := hTk
    clear hTk c1
    have hlti : (k : Int) < n := by omega
    have hjs : (tx (joi (T.take k))).size ≤ 640128 := by rw [tx_size]; exact hJl
    cases hpr : prt x.toList with
    | false =>
     have HV : Hid (jnp T = ([], 1)) := by
      show jnp T = ([], 1)
      rw [HJ.out, if_pos]
      rw [List.any_eq_true]
      refine ⟨x.toList, List.mem_of_mem_take (i := k + 1) ?_, by rw [hpr]; rfl⟩
      rw [HTK.out]; simp
     have hp2 : (x.toList == [46, 46]) = false ∧ vld x.toList = false := by unfold prt at hpr; rwa [Bool.or_eq_false_iff] at hpr
     obtain ⟨hx2, hvv⟩ := hp2
     rw [hvv] at hv
     clear hpr hvv HTK HP
     go_wp2_with (go_at_call 87; refine (hv _).mono ?_; rintro e w' ⟨rfl, rfl⟩)
     go_ret2
     exact ⟨by rw [HV.out]; rfl, _, rfl⟩
    | true =>
     have HP2 : Hid ((T.take (k + 1)).any (fun p => !prt p) = false) := by
      show (T.take (k + 1)).any (fun p => !prt p) = false
      rw [HTK.out, List.any_append, HP.out]; simp [hpr]
     have hp2 : (x.toList == [46, 46]) = true ∨ ((x.toList == [46, 46]) = false ∧ vld x.toList = true) := by
      unfold prt at hpr
      cases h : (x.toList == [46, 46]) with
      | true => exact Or.inl rfl
      | false => rw [h, Bool.false_or] at hpr; exact Or.inr ⟨rfl, hpr⟩
     clear hpr HP
     have HS : Hid (tx (joi (T.take (k + 1))) = if k = 0 then x else tx (joi (T.take k)) ++ ⟨#[47]⟩ ++ x) := by
      show tx (joi (T.take (k + 1))) = _
      by_cases hk0 : k = 0
      ·rw [if_pos hk0, HTK.out, hk0]
       simp only [List.take_zero, List.nil_append, joi]
       exact tl_tx x
      ·rw [if_neg hk0, HTK.out, joi_snoc _ _ (by intro e; have := congrArg List.length e; rw [List.length_take, HT.out.2] at this; simp at this; omega)]
       rw [show (⟨#[47]⟩ : ByteArray) = tx [47] from rfl, tx_app, tx_app2]
       simp
     clear HTK
     generalize hJ2 : tx (joi (T.take k)) = S0 at *
     by_cases hk0 : k = 0
     ·have hS0 : S0 = ⟨#[]⟩ := by rw [← hJ2, hk0]; rfl
      have hs1 := HS.out
      rw [if_pos hk0] at hs1
      have HS1 : Hid _ := hs1
      clear hs1 HS hJ2 hJl
      have hki : ¬ (0 : Int) < k := by omega
      clear hk0
      subst hS0
      rcases hp2 with hx2 | ⟨hx2, hvv⟩
      ·go_wp2_with (go_at_call 87; refine (hv _).mono ?_; rintro e w' ⟨rfl, rfl⟩)
       go_roundw
       case rel => exact ⟨k + 1, by omega, by go_num, by rw [HS1.out]; try rfl, HP2, _, rfl⟩
       case measure => simp [intOf]; omega
      ·rw [hvv] at hv
       go_wp2_with (go_at_call 87; refine (hv _).mono ?_; rintro e w' ⟨rfl, rfl⟩)
       go_roundw
       case rel => exact ⟨k + 1, by omega, by go_num, by rw [HS1.out]; try rfl, HP2, _, rfl⟩
       case measure => simp [intOf]; omega
     ·have hki : (0 : Int) < k := by omega
      have hs1 := HS.out
      rw [if_neg hk0] at hs1
      have HS1 : Hid _ := hs1
      clear hs1 HS hJ2 hJl hk0
      rcases hp2 with hx2 | ⟨hx2, hvv⟩
      ·go_wp2_with (go_at_call 87; refine (hv _).mono ?_; rintro e w' ⟨rfl, rfl⟩)
       go_roundw
       case rel => exact ⟨k + 1, by omega, by go_num, by rw [HS1.out]; try rfl, HP2, _, rfl⟩
       case measure => simp [intOf]; omega
      ·rw [hvv] at hv
       go_wp2_with (go_at_call 87; refine (hv _).mono ?_; rintro e w' ⟨rfl, rfl⟩)
       go_roundw
       case rel => exact ⟨k + 1, by omega, by go_num, by rw [HS1.out]; try rfl, HP2, _, rfl⟩
       case measure => simp [intOf]; omega
   ·have ek : k = n := by omega
    subst ek
    have hTT : T.take k = T := List.take_of_length_le (by rw [HT.out.2]; exact Nat.le_refl _)
    rw [hTT] at HP
    rw [hTT]
    have HJ2 : Hid (jnp T = if 4096 < (joi T).length then ([], 2) else (joi T, 0)) := by
     show jnp T = _
     rw [HJ.out, HP.out, if_neg (by decide)]
    have hsz : (tx (joi T)).size = (joi T).length := tx_size _
    clear HJ HP hTT
    by_cases h4 : 4096 < (joi T).length
    ·have HV : Hid (jnp T = ([], 2)) := by
      show jnp T = _
      rw [HJ2.out, if_pos h4]
     have h4i : (4096 : Int) < ((tx (joi T)).size : Nat) := by rw [hsz]; omega
     clear HJ2 hsz h4
     generalize tx (joi T) = S0 at *
     go_wp2
     go_ret2
     exact ⟨by rw [HV.out]; rfl, _, rfl⟩
    ·have HV : Hid (jnp T = (joi T, 0)) := by
      show jnp T = _
      rw [HJ2.out, if_neg h4]
     have h4i : ¬ (4096 : Int) < ((tx (joi T)).size : Nat) := by rw [hsz]; omega
     clear HJ2 hsz h4
     have HV1 : Hid (tx (jnp T).1 = tx (joi T)) := by
      show tx (jnp T).1 = tx (joi T)
      rw [HV.out]
     have HV2 : Hid ((jnp T).2 = 0) := by
      show (jnp T).2 = 0
      rw [HV.out]
     generalize tx (joi T) = S0 at *
     go_wp2
     go_ret2
     exact ⟨by rw [HV1.out, HV2.out]; rfl, _, rfl⟩
end Go.Proofs.YtlehncfehoelbaaGreatDoor
namespace Go.Proofs.YtlehncfehoelbaaGreatDoor
open Go.RowKit
set_option maxRecDepth 100000
/-- an attribute -/
structure Atr where
 n : Tx
 v : List Int
/-- an entry -/
structure En where
 path : Tx
 k : Int
 mode : Int
 uid : Int
 gid : Int
 time : Int
 size : Int
 data : List Int
 target : Tx
 dev : Int
 attrs : List Atr
/-- the place of the last slash among the first k bytes -/
def lsl (p : Tx) : Nat → Option Nat
 | 0 => none
 | k + 1 => if p.getD k 0 = 47 then some k else lsl p k
theorem lsl_lt {p : Tx} {k i : Nat} (h : lsl p k = some i) : i < k := by
 induction k with
 | zero => simp [lsl] at h
 | succ k ih =>
  unfold lsl at h
  split at h
  ·injection h with h; omega
  ·have := ih h; omega
/-- what a path is in -/
def upT (p : Tx) : Tx := match lsl p p.length with
 | none => []
 | some i => p.take i
/-- a path's last part -/
def lastT (p : Tx) : Tx := match lsl p p.length with
 | none => p
 | some i => p.drop (i + 1)
def inI (n low high : Int) : Bool := decide (low ≤ n) && decide (n ≤ high)
/-- from low to high bytes, and no 0? -/
def txt (s : Tx) (low high : Int) : Bool := inI s.length low high && !(s.any (· == 0))
/-- what is wrong with a path -/
def pth (x : En) : Int :=
 if x.path = [] then (if x.k = 2 then 0 else 6) else
 if (spl x.path).2 ≠ 0 then 6 else if (spl x.path).1.any (fun p => !vld p) then 6 else
 if (jnp (spl x.path).1).2 ≠ 0 ∨ (jnp (spl x.path).1).1 ≠ x.path then 6 else if 64 < (spl x.path).1.length then 3 else 0
/-- do two of the first attributes have one name? -/
def twice (l : List Atr) (i : Nat) : Bool := (List.range i).any fun j => (List.range j).any fun k => (l[k]?.map (·.n)) == (l[j]?.map (·.n))
/-- what is wrong with the fields that are asked of a kind -/
def fld (x : En) : Int :=
 if !inI x.mode 0 4095 || !inI x.uid 0 4294967295 || !inI x.gid 0 4294967295 || !inI x.time 0 4294967295 then 1 else
 if (decide (x.k = 1) && !inI x.size x.data.length 1099511627775) || (decide (x.k = 3) && !txt x.target 1 4096) || (decide (3 < x.k) && !inI x.dev 0 4294967295) || decide (64 < x.attrs.length) then 1 else
 if x.attrs.any (fun a => !txt a.n 1 255 || decide (4096 < a.v.length)) then 1 else
 if twice x.attrs x.attrs.length then 110 else 0
/-- is there a folder of this path? -/
def folder (l : List En) (p : Tx) : Bool := l.any fun y => decide (y.path = p) && decide (y.k = 2)
/-- is there something of this path, no folder and no further name? -/
def thing (l : List En) (p : Tx) : Bool := l.any fun y => decide (y.path = p) && inI y.k 1 5 && decide (y.k ≠ 2)
/-- what is wrong with entry x at place i -/
def ent11 (l : List En) (i : Nat) (x : En) : Int :=
 if !inI x.k 1 6 then 8 else if pth x ≠ 0 then pth x else if (l.take i).any (fun y => decide (y.path = x.path)) then 110 else
 if !(decide (upT x.path = []) || folder l (upT x.path)) || (decide (x.k = 6) && !thing l x.target) then 4 else if x.k = 6 then 0 else fld x
/-- the bytes of all files -/
def sums (l : List En) : Int := (l.map fun x => if x.k = 1 then (x.data.length : Int) else 0).foldl (· + ·) 0
/-- the first fault of the entries from place i on -/
def fault (l : List En) : List En → Nat → Int × Int
 | [], _ => (0, 0)
 | x :: r, i => if ent11 l i x ≠ 0 then (i, ent11 l i x) else fault l r (i + 1)
/-- Check -/
def chk11 (l : List En) : Int × Int := if 16384 < l.length then (0, 3) else if 8388608 < sums l then (0, 2) else fault l l 0
end Go.Proofs.YtlehncfehoelbaaGreatDoor
namespace Go.Proofs.YtlehncfehoelbaaGreatDoor
open Go.RowKit
set_option maxRecDepth 100000
set_option linter.unusedSimpArgs false
set_option linter.unusedVariables false
theorem in_any (n lo hi : Int) (w : World) : Calls Tryz.prog 58 #[.int .i64 n, .int .i64 lo, .int .i64 hi] w fun e w' => e = .returned (.bool (inI n lo hi)) ∧ w = w' := by
 unfold inI
 by_cases h : lo ≤ n
 ·by_cases k : n ≤ hi
  ·rw [decide_eq_true h, decide_eq_true k]
   go_enter Tryz.func58, Tryz.ntmps58
   go_wp2
   go_ret
   exact ⟨rfl, rfl⟩
  ·rw [decide_eq_true h, decide_eq_false k]
   go_enter Tryz.func58, Tryz.ntmps58
   go_wp2
   go_ret
   exact ⟨rfl, rfl⟩
 ·rw [decide_eq_false h, Bool.false_and]
  go_enter Tryz.func58, Tryz.ntmps58
  go_wp2
  go_ret
  exact ⟨rfl, rfl⟩
theorem lsl_hit {s : ByteArray} {k : Nat} (h : k < s.size) (e : s[k].toNat = 47) : lsl s.toList (k + 1) = some k := by
 have e2 : s.toList.getD k 0 = 47 := by
  rw [List.getD_eq_getElem?_getD, List.getElem?_eq_getElem (by rw [tl_len]; exact h), tl_get h]
  apply UInt8.toNat_inj.1
  exact e
 rw [lsl, if_pos e2]
theorem lsl_miss {s : ByteArray} {k : Nat} (h : k < s.size) (e : s[k].toNat ≠ 47) : lsl s.toList (k + 1) = lsl s.toList k := by
 have e2 : ¬ s.toList.getD k 0 = 47 := by
  rw [List.getD_eq_getElem?_getD, List.getElem?_eq_getElem (by rw [tl_len]; exact h), tl_get h]
  intro e3
  apply e
  have e4 : s[k] = 47 := e3
  rw [e4]
  rfl
 rw [lsl, if_neg e2]
set_option maxHeartbeats 1000000 in
theorem up_any (s : ByteArray) (w : World) (hs : s.size ≤ 1000000) : Calls Tryz.prog 40 #[.string s] w fun e w' => e = .returned (.string (tx (upT s.toList))) ∧ w = w' := by
 go_enter Tryz.func40, Tryz.ntmps40
 go_wp2
 go_loop [3] (fun i => ∃ k : Nat, k ≤ s.size ∧ i = .int .i64 ((k : Int) - 1) ∧ Hid (lsl s.toList s.size = lsl s.toList k)) (fun i => (intOf i + 1).toNat)
 case atStart => exact ⟨s.size, Nat.le_refl _, by go_num, rfl⟩
 case round =>
  obtain ⟨k, hk, rfl, HB⟩ := hrel
  cases k with
  | zero =>
   have HV : Hid (upT s.toList = []) := by
    show upT s.toList = []
    unfold upT
    rw [tl_len, HB.out]
    rfl
   go_wp2
   go_ret
   exact ⟨by rw [HV.out]; rfl, rfl⟩
  | succ k =>
   have hlt : k < s.size := by omega
   have hki : ((k + 1 : Nat) : Int) - 1 = k := by omega
   rw [hki]
   clear hki
   cases h5 : ((s[k].toNat : Int) == 47) with
   | true =>
    have e5 : s[k].toNat = 47 := by have h5' : (s[k].toNat : Int) = 47 := eq_of_beq h5; omega
    have HV : Hid (tx (upT s.toList) = s.extract 0 k) := by
     show tx (upT s.toList) = s.extract 0 k
     unfold upT
     rw [tl_len, HB.out, lsl_hit hlt e5, extract_tx]
     rfl
    clear e5 HB
    go_wp2
    go_ret
    exact ⟨by rw [HV.out]; rfl, rfl⟩
   | false =>
    have e5 : s[k].toNat ≠ 47 := by intro e; rw [e] at h5; simp at h5
    have HV : Hid (lsl s.toList s.size = lsl s.toList k) := by
     show lsl s.toList s.size = lsl s.toList k
     rw [HB.out, lsl_miss hlt e5]
    clear e5 HB
    go_wp2
    go_round
    case rel => exact ⟨k, by omega, by go_num, HV⟩
    case measure => first | (simp [intOf]; done) | (simp [intOf]; omega)
set_option maxHeartbeats 1000000 in
theorem last_any (s : ByteArray) (w : World) (hs : s.size ≤ 1000000) : Calls Tryz.prog 41 #[.string s] w fun e w' => e = .returned (.string (tx (lastT s.toList))) ∧ w = w' := by
 go_enter Tryz.func41, Tryz.ntmps41
 go_wp2
 go_loop [3] (fun i => ∃ k : Nat, k ≤ s.size ∧ i = .int .i64 ((k : Int) - 1) ∧ Hid (lsl s.toList s.size = lsl s.toList k)) (fun i => (intOf i + 1).toNat)
 case atStart => exact ⟨s.size, Nat.le_refl _, by go_num, rfl⟩
 case round =>
  obtain ⟨k, hk, rfl, HB⟩ := hrel
  cases k with
  | zero =>
   have HV : Hid (lastT s.toList = s.toList) := by
    show lastT s.toList = s.toList
    unfold lastT
    rw [tl_len, HB.out]
    rfl
   go_wp2
   go_ret
   exact ⟨by rw [HV.out, tl_tx]; rfl, rfl⟩
  | succ k =>
   have hlt : k < s.size := by omega
   have hki : ((k + 1 : Nat) : Int) - 1 = k := by omega
   rw [hki]
   clear hki
   cases h5 : ((s[k].toNat : Int) == 47) with
   | true =>
    have e5 : s[k].toNat = 47 := by have h5' : (s[k].toNat : Int) = 47 := eq_of_beq h5; omega
    have HV : Hid (tx (lastT s.toList) = s.extract (k + 1) s.size) := by
     show tx (lastT s.toList) = s.extract (k + 1) s.size
     unfold lastT
     rw [tl_len, HB.out, lsl_hit hlt e5, extract_tx, List.take_of_length_le (by rw [List.length_drop, tl_len]; omega)]
    clear e5 HB
    go_wp2
    go_ret
    exact ⟨by rw [HV.out]; rfl, rfl⟩
   | false =>
    have e5 : s[k].toNat ≠ 47 := by intro e; rw [e] at h5; simp at h5
    have HV : Hid (lsl s.toList s.size = lsl s.toList k) := by
     show lsl s.toList s.size = lsl s.toList k
     rw [HB.out, lsl_miss hlt e5]
    clear e5 HB
    go_wp2
    go_round
    case rel => exact ⟨k, by omega, by go_num, HV⟩
    case measure => first | (simp [intOf]; done) | (simp [intOf]; omega)
theorem nul_any (s : ByteArray) : s.toList.any (· == 0) = nul s s.size := by
 unfold nul
 rw [Bool.eq_iff_iff, List.any_eq_true, List.any_eq_true]
 constructor
 ·rintro ⟨x, hx, e⟩
  obtain ⟨i, hi, rfl⟩ := List.getElem_of_mem hx
  rw [tl_len] at hi
  refine ⟨i, List.mem_range.2 hi, ?_⟩
  rw [tl_get hi] at e
  have e2 : s[i] = 0 := eq_of_beq e
  rw [← byt_in hi, e2]
  rfl
 ·rintro ⟨i, hi, e⟩
  have hi' : i < s.size := List.mem_range.1 hi
  refine ⟨s[i], by rw [← tl_get hi']; exact List.getElem_mem _, ?_⟩
  rw [← byt_in hi'] at e
  have e2 : s[i].toNat = 0 := eq_of_beq e
  have e3 : s[i] = 0 := by apply UInt8.toNat_inj.1; exact e2
  rw [e3]
  rfl
set_option maxHeartbeats 1000000 in
theorem text_any (s : ByteArray) (lo hi : Int) (w : World) (hs : s.size ≤ 1000000) : Calls Tryz.prog 89 #[.string s, .int .i64 lo, .int .i64 hi] w fun e w' => e = .returned (.bool (txt s.toList lo hi)) ∧ w = w' := by
 have hv := fun W => in_any (s.size : Int) lo hi W
 have HE : Hid (txt s.toList lo hi = (inI s.size lo hi && !nul s s.size)) := by
  show txt s.toList lo hi = _
  unfold txt
  rw [nul_any, tl_len]
 cases hin : inI (s.size : Int) lo hi with
 | false =>
  rw [hin] at hv HE
  go_enter Tryz.func89, Tryz.ntmps89
  go_wp2_with (go_at_call 58; refine (hv _).mono ?_; rintro e w' ⟨rfl, rfl⟩)
  go_ret
  exact ⟨by rw [HE.out]; rfl, rfl⟩
 | true =>
  rw [hin] at hv HE
  go_enter Tryz.func89, Tryz.ntmps89
  go_wp2_with (go_at_call 58; refine (hv _).mono ?_; rintro e w' ⟨rfl, rfl⟩)

  go_loop [7] (fun i => ∃ k : Nat, k ≤ s.size ∧ i = .int .i64 k ∧ Hid (nul s k = false)) (fun i => s.size - (intOf i).toNat)
  case atStart => exact ⟨0, Nat.zero_le _, rfl, rfl⟩
  case round =>
   obtain ⟨k, hk, rfl, HB⟩ := hrel
   by_cases hlt : k < s.size
   ·have hbn := nul_succ s k
    rw [HB.out, ← byt_in hlt] at hbn
    have HN : Hid _ := hbn
    clear hbn
    cases h6 : ((s[k].toNat : Int) == 0) with
    | true =>
     have e5 : s[k].toNat = 0 := by have h5' : (s[k].toNat : Int) = 0 := eq_of_beq h6; omega
     have HV : Hid (txt s.toList lo hi = false) := by
      show txt s.toList lo hi = false
      rw [HE.out, nul_mono (k := k + 1) (by rw [HN.out]; simp [e5]) (by omega)]; rfl
     clear e5
     go_wp2
     go_ret
     exact ⟨by rw [HV.out]; rfl, rfl⟩
    | false =>
     have e6 : s[k].toNat ≠ 0 := by intro e; rw [e] at h6; simp at h6
     have HV : Hid (nul s (k + 1) = false) := by
      show nul s (k + 1) = false
      rw [HN.out]; simp [e6]
     clear e6
     go_wp2
     go_round
     case rel => exact ⟨k + 1, by omega, by go_num, HV⟩
     case measure => simp [intOf]; omega
   ·obtain rfl : k = s.size := by omega
    go_wp2
    go_ret
    exact ⟨by rw [HE.out, HB.out]; rfl, rfl⟩
end Go.Proofs.YtlehncfehoelbaaGreatDoor
namespace Go.Proofs.YtlehncfehoelbaaGreatDoor
open Go.RowKit
set_option maxRecDepth 100000
/-- the greatest number of a width, or 0 -/
def lg (n : Int) : Int := if n = 1 then 255 else if n = 2 then 65535 else if n = 4 then 4294967295 else if n = 8 then 18446744073709551615 else 0
/-- the number that bytes spell, the lowest first -/
def le : List Int → Int
 | [] => 0
 | b :: r => b + 256 * le r
def Byt (bs : List Int) : Prop := ∀ n ∈ bs, 0 ≤ n ∧ n ≤ 255
theorem Byt.getD {bs : List Int} (h : Byt bs) (i : Nat) : 0 ≤ bs.getD i 0 ∧ bs.getD i 0 ≤ 255 := by
 rcases Nat.lt_or_ge i bs.length with hi | hi
 ·rw [List.getD_eq_getElem?_getD, List.getElem?_eq_getElem hi]; exact h _ (List.getElem_mem hi)
 ·rw [List.getD_eq_getElem?_getD, List.getElem?_eq_none hi]; decide
theorem Byt.take {bs : List Int} (h : Byt bs) (n : Nat) : Byt (bs.take n) := fun x hx => h x (List.mem_of_mem_take hx)
theorem Byt.drop {bs : List Int} (h : Byt bs) (n : Nat) : Byt (bs.drop n) := fun x hx => h x (List.mem_of_mem_drop hx)
theorem Byt.append {a b : List Int} (h : Byt a) (k : Byt b) : Byt (a ++ b) := fun x hx => (List.mem_append.1 hx).elim (h x) (k x)

/-- what is told of bytes that a slice leads to -/
structure Row (w : World) (a : Option Addr) (len : Nat) (bs : List Int) : Prop where
 len_eq : bs.length = len
 le : len ≤ maxLen
 byt : Byt bs
 cells : 0 < len → ∃ b off, a = some ⟨b, off, none⟩ ∧ ∀ i, i < len → w.cell? ⟨b, off + i, none⟩ = some (.int .u8 (bs.getD i 0))

theorem cell_lt {w : World} {b o : Nat} {v : Value} (h : w.cell? ⟨b, o, none⟩ = some v) : b < w.heap.size := by
 rcases Nat.lt_or_ge b w.heap.size with h1 | h1
 ·exact h1
 ·simp [World.cell?, Array.getElem?_eq_none h1] at h

theorem Row.below {w w' : World} {a : Option Addr} {len : Nat} {bs : List Int} (h : Row w a len bs) (hb : Below w.heap.size w w') : Row w' a len bs := by
 refine ⟨h.len_eq, h.le, h.byt, fun h0 => ?_⟩
 obtain ⟨b, off, e, hc⟩ := h.cells h0
 exact ⟨b, off, e, fun i hi => by rw [hb.cell (p := ⟨b, off + i, none⟩) (cell_lt (hc i hi))]; exact hc i hi⟩
end Go.Proofs.YtlehncfehoelbaaGreatDoor
