/- The document's Split. -/
import Derived.Test.YthidnmncekfgaaaND
import Derived.Laws.AppendOwn
namespace Go.Proofs.Ythidnmncekfgaaa
open Go.RowKit
set_option linter.unusedSimpArgs false
set_option linter.unusedVariables false

def tx (l : Tx) : ByteArray := ⟨l.toArray⟩
theorem tx_tl (l : Tx) : (tx l).toList = l := ByteArray.toList_mk l
theorem tl_tx (s : ByteArray) : tx s.toList = s := tl_inj (tx_tl _)
def txs (l : List Tx) : List ByteArray := l.map tx
theorem tls_txs (l : List Tx) : tls (txs l) = l := by unfold tls txs; rw [List.map_map]; conv => rhs; rw [← List.map_id l]
                                                      apply List.map_congr_left; intro x _; exact tx_tl x
def sv (l : List ByteArray) : List Value := l.map Value.string
theorem sv_len (l : List ByteArray) : (sv l).length = l.length := by simp [sv]
theorem sv_app (a b : List ByteArray) : sv (a ++ b) = sv a ++ sv b := by simp [sv]
theorem sv_one (l : List ByteArray) : ∀ v ∈ sv l, v.oneCell' = true := by
  intro v hv
  obtain ⟨s, _, rfl⟩ := List.mem_map.1 hv
  rfl
theorem extract_tx (s : ByteArray) (f i : Nat) : s.extract f i = tx ((s.toList.drop f).take (i - f)) := by
  conv => lhs; rw [← tl_tx s]
  exact ByteArray.extract_mk _ _ _
/-- a part of a text behind a slash -/
theorem cutS_cat (a b : Tx) : cutS (a ++ 47 :: b) = cutS a ++ cutS b := by
  induction a with
  | nil => simp [cutS]
  | cons c r ih =>
    rw [List.cons_append, cutS.eq_2, cutS.eq_2, ih]
    by_cases hc : c = 47
    · simp [hc]
    · rw [if_neg hc, if_neg hc]
      cases h : cutS r with
      | nil => exact absurd h (cutS_ne r)
      | cons p ps => simp
theorem cutS_len (l : Tx) : (cutS l).length ≤ l.length + 1 := by
  induction l with
  | nil => simp [cutS]
  | cons c r ih =>
    rw [cutS.eq_2]
    split
    · simp only [List.length_cons]; omega
    · split
      · simp
      · rename_i h
        rw [h] at ih
        simp only [List.length_cons] at *
        omega
theorem cell_one_newV (w : World) (t : TypeId) (v : Value) (j : Nat) (u : Value) (h : ([v])[j]? = some u) : (w.alloc (.cells #[v] t)).cell? ((⟨w.heap.size, 0, none⟩ : Addr).add j) = some u := by
  cases j with
  | zero =>
    simp at h
    subst h
    simp [Addr.add]
  | succ j => simp at h
theorem grown_tr {a b c : World} {row : Option Nat} (h : a.grownBy b row) (k : b.grownBy c row) : a.grownBy c row :=
  ⟨k.os.trans h.os, k.tape.trans h.tape, k.output.trans h.output, Nat.le_trans h.size k.size, fun x hx hr => (k.block x (Nat.lt_of_lt_of_le hx h.size) hr).trans (h.block x hx hr)⟩
theorem grown_own9 {a b c : World} {base t : Nat} {v : Value} {n : Nat} {xs : List Value} (h : a.grownBy b none) (ho : b.ownsRow base t 1 v n xs) (k : b.grownBy c v.ownBlock) (hb : a.heap.size ≤ base) : a.grownBy c none :=
  ⟨k.os.trans h.os, k.tape.trans h.tape, k.output.trans h.output, Nat.le_trans h.size k.size, fun x hx _ => (k.block x (Nat.lt_of_lt_of_le hx h.size) (fun e => by have := (ho.lt x e.symm).1; omega)).trans (h.block x hx (by simp))⟩
theorem filt (ps : List Tx) (q : Tx) : (ps ++ [q]).filter kept = ps.filter kept ++ (if kept q = true then [q] else []) := by
  rw [List.filter_append]
  cases h : kept q <;> simp [h]
theorem keptx {x : ByteArray} {q : Tx} (h : x.toList = q) : kept q = (!(x.toList == []) && !(x.toList == [46])) := by subst h; rfl
theorem owns_srow {w : World} {base : Nat} {v : Value} {n : Nat} {l : List ByteArray} (h : w.ownsRow base 9 1 v n (sv l)) : ∃ a c, v = .slice a n c ∧ SRow w a n l ∧ n ≤ c ∧ c ≤ maxLen := by
  have hn : l.length = n := by have := h.1; rw [sv_len] at this; omega
  rcases h.2 with ⟨rfl, rfl⟩ | ⟨g, cap, cur, rfl, _, hg, hc, hm, hs, ht⟩
  · exact ⟨none, 0, rfl, ⟨hn, fun h => by omega⟩, Nat.le_refl _, Nat.zero_le _⟩
  · refine ⟨_, cap, rfl, ⟨hn, fun _ => ⟨g, 0, rfl, fun i hi => ?_⟩⟩, hc, hm⟩
    have e : w.cell? ⟨g, 0 + i, none⟩ = cur[i]? := by simp [World.cell?, hg]
    have e2 : (sv l)[i]? = some (.string (l.getD i ⟨#[]⟩)) := by simp [sv, List.getElem?_eq_getElem (show i < l.length by omega)]
    rw [e, ← e2, ← ht, List.getElem?_take, if_pos (by omega), Array.getElem?_toList]
theorem Try.info9 : (Try.prog.info? 9).map (fun i => (i.zero, i.size, i.bytes)) = some (some (.string ⟨#[]⟩), 1, 16) := by kernel_rfl
/-- what Split answers -/
def SpPost (w : World) (r : List Tx × Int) (e : Ending) (w' : World) : Prop := ∃ a n c, e = .returned (.tuple #[.slice a n c, .int .i64 r.2]) ∧ w'.ownsRow w.heap.size 9 1 (.slice a n c) n (sv (txs r.1)) ∧ w.grownBy w' none
/-- Split of a text that is not too long and has no 0 -/
def sp2 (L : Tx) : List Tx × Int := if (cutS L).any longP then ([], 1) else if 128 < ((cutS L).filter kept).length then ([], 3) else ((cutS L).filter kept, 0)
/-- between two rounds of Split's second loop -/
def Cu (L : Tx) (sz i f : Nat) (ps : List Tx) : Prop := ((i ≤ sz ∧ f ≤ i ∧ cutS (L.take i) = ps ++ [(L.drop f).take (i - f)]) ∨ (i = sz + 1 ∧ f = i ∧ cutS L = ps)) ∧ ps.any longP = false
set_option maxHeartbeats 2000000 in
theorem rsplit_main (s : ByteArray) (w : World) (hs : s.size ≤ 4096) (h0 : s.toList.any (· == 0) = false) : Calls Try.prog 9 #[.string s] w (SpPost w (sp2 s.toList)) := by
  obtain ⟨i9, hi, hz0, hz1, hz2⟩ := info_parts Try.info9
  have g1 : ¬ (4096 : Int) < s.size := by omega
  have HZ : Hid _ := h0
  clear h0
  go_enter Try.func9, Try.ntmps9
  go_wp2
  go_loop [4] (fun i => ∃ k : Nat, k ≤ s.size ∧ i = .int .i64 k) (fun i => s.size - (intOf i).toNat)
  case atStart => exact ⟨0, Nat.zero_le _, rfl⟩
  case round =>
    obtain ⟨k, hk, rfl⟩ := hrel
    by_cases hlt : k < s.size
    · have hb : ((s[k].toNat : Int) == 0) = false := by
        rw [beq_eq_false_iff_ne]
        intro e
        have h1 := HZ.out
        rw [List.any_eq_false] at h1
        have h2 := h1 s[k] (by rw [← tl_get hlt]; exact List.getElem_mem _)
        apply h2
        have e2 : s[k] = 0 := by apply UInt8.toNat_inj.1; show s[k].toNat = 0; omega
        rw [e2]; rfl
      go_wp2
      go_round
      case rel => exact ⟨k + 1, by omega, by go_num⟩
      case measure => simp [intOf]; omega
    · go_wp2
      go_loopw [5, 6, 7] (fun vl vf vi wr => ∃ (i f : Nat) (ps : List Tx), vi = .int .i64 i ∧ vf = .int .i64 f ∧ i ≤ s.size + 1 ∧ Hid (Cu s.toList s.size i f ps) ∧ wr.ownsRow w.heap.size 9 1 vl ((ps.filter kept).length) (sv (txs (ps.filter kept))) ∧ w.grownBy wr none) (fun _ _ vi _ => s.size + 1 - (intOf vi).toNat)
      case atStart => exact ⟨0, 0, [], rfl, rfl, by omega, ⟨Or.inl ⟨Nat.zero_le _, Nat.le_refl _, by simp [cutS]⟩, rfl⟩, World.ownsRow_nil _ _ _ _, World.grownBy.refl _ _⟩
      case round =>
        obtain ⟨i, f, ps, rfl, rfl, hi1, HC, hown, hgr⟩ := hrel
        by_cases hin : i ≤ s.size
        · have hc := HC.out
          obtain ⟨⟨h1, h2, h3⟩ | ⟨h1, h2, h3⟩, h4⟩ := hc
          · have hfi : (f : Int) ≤ (i : Int) := by omega
            have hii : (i : Int) ≤ s.size := by omega
            have hex := extract_tx s f i
            have hql : ((s.toList.drop f).take (i - f)).length = i - f := by rw [List.length_take, List.length_drop, tl_len]; omega
            generalize hQ : (s.toList.drop f).take (i - f) = q at *
            have HQ : Hid _ := And.intro hQ (And.intro h3 (And.intro h4 hql))
            clear hQ h3 h4
            cases hcon : (decide (i < s.size) && !(byt s i == 47)) with
            | true =>
              rw [Bool.and_eq_true, decide_eq_true_eq, Bool.not_eq_true', beq_eq_false_iff_ne] at hcon
              obtain ⟨hlt2, hne⟩ := hcon
              have hb : ((s[i].toNat : Int) == 47) = false := by rw [beq_eq_false_iff_ne]; rw [byt_in hlt2]; omega
              have hne2 : s[i] ≠ 47 := fun e => hne (by rw [← byt_in hlt2, e]; rfl)
              have HN : Hid (Cu s.toList s.size (i + 1) f ps) := by
                refine ⟨Or.inl ⟨by omega, by omega, ?_⟩, HQ.out.2.2.1⟩
                rw [take_get hlt2, cutS_byte hne2 HQ.out.2.1, ← HQ.out.1, show i + 1 - f = i - f + 1 by omega]
                congr 2
                have hlen : i - f < (s.toList.drop f).length := by rw [List.length_drop, tl_len]; omega
                rw [List.take_succ_eq_append_getElem hlen, List.getElem_drop]
                congr 2
                rw [← tl_get hlt2]
                congr 1
                omega
              clear hne hne2 HQ hex hql HC
              go_wp2
              go_roundw
              case rel => exact ⟨i + 1, f, ps, by go_num, rfl, by omega, HN, hown, hgr⟩
              case measure => simp [intOf]; omega
            | false =>
              have hend : i = s.size ∨ ∃ h : i < s.size, s[i] = 47 := by
                rcases Nat.lt_or_ge i s.size with h | h
                · right
                  refine ⟨h, ?_⟩
                  rw [Bool.and_eq_false_iff] at hcon
                  rcases hcon with hcon | hcon
                  · simp at hcon; omega
                  · have : byt s i = 47 := by simpa using hcon
                    apply UInt8.toNat_inj.1
                    rw [byt_in h, this]; rfl
                · left; omega
              have HT : Hid (∃ r : List Tx, cutS s.toList = ps ++ [q] ++ r) := by
                rcases hend with h | ⟨h, e⟩
                · refine ⟨[], ?_⟩
                  have := HQ.out.2.1
                  rw [List.take_of_length_le (by rw [tl_len]; omega)] at this
                  rw [this]; simp
                · refine ⟨cutS (s.toList.drop (i + 1)), ?_⟩
                  have e2 : s.toList = s.toList.take i ++ 47 :: s.toList.drop (i + 1) := by
                    conv => lhs; rw [← List.take_append_drop i s.toList, drop_get h, e]
                  have e3 := congrArg cutS e2
                  rw [cutS_cat, HQ.out.2.1] at e3
                  exact e3
              have HN : Hid (longP q = false → Cu s.toList s.size (i + 1) (i + 1) (ps ++ [q])) := by
                intro hlg
                refine ⟨?_, by rw [List.any_append, HQ.out.2.2.1]; simp [hlg]⟩
                rcases hend with h | ⟨h, e⟩
                · refine Or.inr ⟨by omega, rfl, ?_⟩
                  have := HQ.out.2.1
                  rw [List.take_of_length_le (by rw [tl_len]; omega)] at this
                  exact this
                · refine Or.inl ⟨by omega, Nat.le_refl _, ?_⟩
                  rw [take_get h, e, cutS_slash HQ.out.2.1, Nat.sub_self, List.take_zero]
              have HL : Hid _ := HQ.out.2.2.2
              have hxs : (tx q).size = i - f := by rw [← tl_len, tx_tl]; exact HL.out
              have hxl : (tx q).toList = q := tx_tl q
              generalize htx : tx q = x at *
              have HX : Hid _ := And.intro htx hxl
              cases hlg : longP q with
              | true =>
                have HV : Hid (sp2 s.toList = ([], 1)) := by
                  show sp2 s.toList = ([], 1)
                  obtain ⟨r, e⟩ := HT.out
                  unfold sp2
                  rw [e, if_pos (by rw [List.any_append, List.any_append]; simp [hlg])]
                have hbig : (255 : Int) < ((x.size : Nat) : Int) := by
                  have : 255 < q.length := by unfold longP at hlg; simpa using hlg
                  have := HL.out
                  omega
                clear hlg hxl htx hql HT HN hcon
                have hcond : ¬ i < s.size ∨ ∃ h : i < s.size, s[i].toNat = 47 := hend.elim (fun h => Or.inl (by omega)) (fun ⟨h, e⟩ => Or.inr ⟨h, by rw [e]; rfl⟩)
                clear hend
                rcases hcond with hnl | ⟨hyl, he47⟩
                · have hnli : ¬ (i : Int) < s.size := by omega
                  go_wp2
                  go_ret2
                  rw [HV.out]
                  exact ⟨_, _, _, rfl, World.ownsRow_nil _ _ _ _, hgr⟩
                · have hb47 : ((s[i].toNat : Int) == 47) = true := by rw [he47]; rfl
                  clear he47
                  go_wp2
                  go_ret2
                  rw [HV.out]
                  exact ⟨_, _, _, rfl, World.ownsRow_nil _ _ _ _, hgr⟩
              | false =>
                have HN2 : Hid (Cu s.toList s.size (i + 1) (i + 1) (ps ++ [q])) := HN.out hlg
                have hbig : ¬ (255 : Int) < ((x.size : Nat) : Int) := by
                  have : ¬ 255 < q.length := by unfold longP at hlg; simpa using hlg
                  have := HL.out
                  omega
                have hpl : (ps.filter kept).length ≤ 4097 := by
                  have h1 := List.length_filter_le kept ps
                  have h2 := cutS_len (s.toList.take i)
                  rw [HQ.out.2.1, List.length_append, List.length_take, tl_len] at h2
                  simp at h2
                  omega
                have hcond : ¬ i < s.size ∨ ∃ h : i < s.size, s[i].toNat = 47 := hend.elim (fun h => Or.inl (by omega)) (fun ⟨h, e⟩ => Or.inr ⟨h, by rw [e]; rfl⟩)
                have HK : Hid _ := keptx hxl
                have HF : Hid _ := filt ps q
                clear hlg hxl htx hql HT HN hcon hend HC HQ
                cases hke : kept q with
                | true =>
                  have hk2 := HK.out
                  rw [hke] at hk2
                  have hx1 : (x.toList == []) = false := by cases h : (x.toList == []) <;> simp [h] at hk2 ⊢
                  have hx2 : (x.toList == [46]) = false := by cases h : (x.toList == [46]) <;> simp [h] at hk2 ⊢
                  clear hk2
                  rcases hcond with hnl | ⟨hyl, he47⟩
                  · have hnli : ¬ (i : Int) < s.size := by omega
                    go_wp2_with (at_builtin; (refine wpList_append_own _ rfl _ _ 23 rfl w.heap.size 9 i9 (.string ⟨#[]⟩) 1 16 Try.underlying23 hi hz0 hz1 hz2 rfl (by decide) _ _ _ rfl (hown.alloc _) ⟨wr.heap.size, 0, none⟩ 1 1 (sv [x]) rfl rfl ?c1 (sv_one _) ?c3 ?c4 ?c5 ?_))
                    case c1 => first | exact cell_one_newV _ _ _ | exact fun j u h => h
                    case c3 => unfold maxLen; omega
                    case c4 => omega
                    case c5 => have := hgr.size; simp; omega
                    · intro v' w1 hown' hgrow _
                      have R : w1.ownsRow w.heap.size 9 1 v' (((ps ++ [q]).filter kept).length) (sv (txs ((ps ++ [q]).filter kept))) := by
                        rw [HF.out, if_pos hke, List.length_append]
                        unfold txs
                        rw [List.map_append, sv_app]
                        have : sv (List.map tx [q]) = sv [x] := by rw [← HX.out.1]; rfl
                        rw [this]
                        exact hown'
                      have hg' : w.grownBy w1 none := grown_own9 (grown_tr hgr (World.grownBy_alloc wr _ none)) (hown.alloc _) hgrow (Nat.le_refl _)
                      clear hown' hgrow hown hgr
                      go_wp2
                      go_roundw
                      case rel => exact ⟨i + 1, i + 1, ps ++ [q], by go_num, by go_num, by omega, HN2, R, hg'⟩
                      case measure => simp [intOf]; omega
                  · have hb47 : ((s[i].toNat : Int) == 47) = true := by rw [he47]; rfl
                    clear he47
                    go_wp2_with (at_builtin; (refine wpList_append_own _ rfl _ _ 23 rfl w.heap.size 9 i9 (.string ⟨#[]⟩) 1 16 Try.underlying23 hi hz0 hz1 hz2 rfl (by decide) _ _ _ rfl (hown.alloc _) ⟨wr.heap.size, 0, none⟩ 1 1 (sv [x]) rfl rfl ?c1 (sv_one _) ?c3 ?c4 ?c5 ?_))
                    case c1 => first | exact cell_one_newV _ _ _ | exact fun j u h => h
                    case c3 => unfold maxLen; omega
                    case c4 => omega
                    case c5 => have := hgr.size; simp; omega
                    · intro v' w1 hown' hgrow _
                      have R : w1.ownsRow w.heap.size 9 1 v' (((ps ++ [q]).filter kept).length) (sv (txs ((ps ++ [q]).filter kept))) := by
                        rw [HF.out, if_pos hke, List.length_append]
                        unfold txs
                        rw [List.map_append, sv_app]
                        have : sv (List.map tx [q]) = sv [x] := by rw [← HX.out.1]; rfl
                        rw [this]
                        exact hown'
                      have hg' : w.grownBy w1 none := grown_own9 (grown_tr hgr (World.grownBy_alloc wr _ none)) (hown.alloc _) hgrow (Nat.le_refl _)
                      clear hown' hgrow hown hgr
                      go_wp2
                      go_roundw
                      case rel => exact ⟨i + 1, i + 1, ps ++ [q], by go_num, by go_num, by omega, HN2, R, hg'⟩
                      case measure => simp [intOf]; omega
                | false =>
                  have hk2 := HK.out
                  rw [hke] at hk2
                  have hx12 : (x.toList == []) = true ∨ ((x.toList == []) = false ∧ (x.toList == [46]) = true) := by
                    cases h : (x.toList == []) <;> simp [h] at hk2 ⊢
                    simpa using hk2
                  clear hk2
                  rcases hx12 with hx1 | ⟨hx1, hx2⟩
                  · skip
                    rcases hcond with hnl | ⟨hyl, he47⟩
                    · have hnli : ¬ (i : Int) < s.size := by omega
                      have R : wr.ownsRow w.heap.size 9 1 u5 (((ps ++ [q]).filter kept).length) (sv (txs ((ps ++ [q]).filter kept))) := by
                        rw [HF.out, if_neg (by rw [hke]; decide), List.append_nil]
                        exact hown
                      clear hown
                      go_wp2
                      go_roundw
                      case rel => exact ⟨i + 1, i + 1, ps ++ [q], by go_num, by go_num, by omega, HN2, R, hgr⟩
                      case measure => simp [intOf]; omega
                    · have hb47 : ((s[i].toNat : Int) == 47) = true := by rw [he47]; rfl
                      clear he47
                      have R : wr.ownsRow w.heap.size 9 1 u5 (((ps ++ [q]).filter kept).length) (sv (txs ((ps ++ [q]).filter kept))) := by
                        rw [HF.out, if_neg (by rw [hke]; decide), List.append_nil]
                        exact hown
                      clear hown
                      go_wp2
                      go_roundw
                      case rel => exact ⟨i + 1, i + 1, ps ++ [q], by go_num, by go_num, by omega, HN2, R, hgr⟩
                      case measure => simp [intOf]; omega
                  · skip
                    rcases hcond with hnl | ⟨hyl, he47⟩
                    · have hnli : ¬ (i : Int) < s.size := by omega
                      have R : wr.ownsRow w.heap.size 9 1 u5 (((ps ++ [q]).filter kept).length) (sv (txs ((ps ++ [q]).filter kept))) := by
                        rw [HF.out, if_neg (by rw [hke]; decide), List.append_nil]
                        exact hown
                      clear hown
                      go_wp2
                      go_roundw
                      case rel => exact ⟨i + 1, i + 1, ps ++ [q], by go_num, by go_num, by omega, HN2, R, hgr⟩
                      case measure => simp [intOf]; omega
                    · have hb47 : ((s[i].toNat : Int) == 47) = true := by rw [he47]; rfl
                      clear he47
                      have R : wr.ownsRow w.heap.size 9 1 u5 (((ps ++ [q]).filter kept).length) (sv (txs ((ps ++ [q]).filter kept))) := by
                        rw [HF.out, if_neg (by rw [hke]; decide), List.append_nil]
                        exact hown
                      clear hown
                      go_wp2
                      go_roundw
                      case rel => exact ⟨i + 1, i + 1, ps ++ [q], by go_num, by go_num, by omega, HN2, R, hgr⟩
                      case measure => simp [intOf]; omega
          · omega
        · have hc := HC.out
          obtain ⟨⟨h1, h2, h3⟩ | ⟨h1, h2, h3⟩, h4⟩ := hc
          · omega
          · have hni : ¬ (i : Int) ≤ s.size := by omega
            have hsp : sp2 s.toList = if 128 < (ps.filter kept).length then ([], 3) else (ps.filter kept, 0) := by
              unfold sp2
              rw [h3, h4, if_neg (by decide)]
            have HS : Hid _ := hsp
            clear hsp h3 h4 HC h1 h2
            obtain ⟨a', c', rfl, -, -, -⟩ := owns_srow hown
            by_cases hm : 128 < (ps.filter kept).length
            · have hmi : (128 : Int) < ((ps.filter kept).length : Nat) := by omega
              have HV : Hid (sp2 s.toList = ([], 3)) := by
                show sp2 s.toList = ([], 3)
                rw [HS.out, if_pos hm]
              generalize (ps.filter kept).length = nn at *
              clear HS hm
              go_wp2
              go_ret2
              rw [HV.out]
              exact ⟨_, _, _, rfl, World.ownsRow_nil _ _ _ _, hgr⟩
            · have hmi : ¬ (128 : Int) < ((ps.filter kept).length : Nat) := by omega
              have HV : Hid (sp2 s.toList = (ps.filter kept, 0)) := by
                show sp2 s.toList = (ps.filter kept, 0)
                rw [HS.out, if_neg hm]
              have HO : Hid _ := hown
              generalize (ps.filter kept).length = nn at *
              clear HS hm hown
              go_wp2
              go_ret2
              rw [HV.out]
              exact ⟨_, _, _, rfl, HO.out, hgr⟩
theorem rsplit_any (s : ByteArray) (w : World) (hs : s.size ≤ 1000000) : Calls Try.prog 9 #[.string s] w (SpPost w (spl s.toList)) := by
  by_cases h1 : 4096 < s.size
  · have e : spl s.toList = ([], 2) := by unfold spl; rw [if_pos (by rw [tl_len]; exact h1)]
    rw [e]
    have g1 : (4096 : Int) < s.size := by omega
    go_enter Try.func9, Try.ntmps9
    go_wp2
    go_ret2
    exact ⟨_, _, _, rfl, World.ownsRow_nil _ _ _ _, World.grownBy.refl _ _⟩
  · cases h0 : s.toList.any (· == 0) with
    | false =>
      have e : spl s.toList = sp2 s.toList := by unfold spl sp2; rw [if_neg (by rw [tl_len]; exact h1), h0, if_neg (by decide)]
      rw [e]
      exact rsplit_main s w (by omega) h0
    | true =>
      have e : spl s.toList = ([], 6) := by unfold spl; rw [if_neg (by rw [tl_len]; exact h1), h0, if_pos rfl]
      rw [e]
      clear e
      have HZ : Hid _ := h0
      clear h0
      have g1 : ¬ (4096 : Int) < s.size := by omega
      go_enter Try.func9, Try.ntmps9
      go_wp2
      go_loop [4] (fun i => ∃ k : Nat, k ≤ s.size ∧ i = .int .i64 k ∧ Hid ((s.toList.drop k).any (· == 0) = true)) (fun i => s.size - (intOf i).toNat)
      case atStart => exact ⟨0, Nat.zero_le _, rfl, HZ⟩
      case round =>
        obtain ⟨k, hk, rfl, HD⟩ := hrel
        by_cases hlt : k < s.size
        · have hd := HD.out
          rw [drop_get hlt, List.any_cons] at hd
          cases hb : ((s[k].toNat : Int) == 0) with
          | true =>
            clear hd HD
            go_wp2
            go_ret2
            exact ⟨_, _, _, rfl, World.ownsRow_nil _ _ _ _, World.grownBy.refl _ _⟩
          | false =>
            have hb2 : (s[k] == 0) = false := by
              rw [beq_eq_false_iff_ne] at hb ⊢
              intro e
              rw [e] at hb
              exact hb rfl
            rw [hb2, Bool.false_or] at hd
            have HD2 : Hid _ := hd
            clear hd HD hb2
            go_wp2
            go_round
            case rel => exact ⟨k + 1, by omega, by go_num, HD2⟩
            case measure => simp [intOf]; omega
        · have hd := HD.out
          rw [List.drop_eq_nil_of_le (by rw [tl_len]; omega)] at hd
          exact absurd hd (by decide)
end Go.Proofs.Ythidnmncekfgaaa
