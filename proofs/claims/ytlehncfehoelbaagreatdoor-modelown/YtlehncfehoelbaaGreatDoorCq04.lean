/- The document's entry. -/
import Derived.Test.YtlehncfehoelbaaGreatDoorCq02
import Derived.Test.YtlehncfehoelbaaGreatDoorCq03
namespace Go.Proofs.YtlehncfehoelbaaGreatDoor
open Go.RowKit
set_option maxRecDepth 100000
set_option linter.unusedSimpArgs false
set_option linter.unusedVariables false
def Sml (l : List EnV) : Prop := ∀ X ∈ l, X.path.size ≤ 5000 ∧ X.target.size ≤ 5000 ∧ ∀ A ∈ X.attrs, A.n.size ≤ 1000000
def ens (l : List EnV) : List En := l.map EnV.en
theorem ens_snoc {l : List EnV} {k : Nat} {Y : EnV} (h : l[k]? = some Y) (f : En → Bool) : ((ens l).take (k + 1)).any f = (((ens l).take k).any f || f Y.en) := by
 unfold ens
 have hlt : k < l.length := by
  rcases Nat.lt_or_ge k l.length with h1 | h1
  ·exact h1
  ·rw [List.getElem?_eq_none h1] at h; simp at h
 rw [List.take_succ_eq_append_getElem (by rw [List.length_map]; exact hlt), List.any_append]
 have e : l[k] = Y := by rw [List.getElem?_eq_getElem hlt] at h; injection h
 simp [e]
theorem ens_take_any {l : List EnV} {k n : Nat} {f : En → Bool} (h : ((ens l).take k).any f = true) (hk : k ≤ n) : ((ens l).take n).any f = true := by
 have e : (ens l).take k = ((ens l).take n).take k := by rw [List.take_take, Nat.min_eq_left hk]
 rw [e] at h
 rw [← List.take_append_drop k ((ens l).take n), List.any_append, h, Bool.true_or]
theorem quiet_eq11 {P : Program} {f : FuncId} {args : Array Value} {w : World} {n : Nat} {v : Value} (h : Calls P f args (w.drewN n) fun e w' => e = .returned v ∧ w.drewN n = w') : Calls P f args (w.drewN n) fun e w'' => e = .returned v ∧ ∃ m, w'' = w.drewN m :=
 h.mono fun e w'' h => ⟨h.1, n, h.2.symm⟩
def sameP (p : Tx) (y : En) : Bool := decide (y.path = p)
def foldP (p : Tx) (y : En) : Bool := decide (y.path = p) && decide (y.k = 2)
def thingP (p : Tx) (y : En) : Bool := decide (y.path = p) && inI y.k 1 5 && decide (y.k ≠ 2)
set_option maxHeartbeats 4000000 in
theorem rentry_any (a : Option Addr) (len cap : Nat) (l : List EnV) (w : World) (E : Ens w a len l) (hs : Sml l) (hlen : len ≤ 100000) (i : Nat) (X : EnV) (hX : l[i]? = some X) :
  Calls Tryz.prog 30 #[.slice a len cap, .int .i64 i] w fun e w' => e = .returned (.int .i64 (ent11 (ens l) i X.en)) ∧ w.grownBy w' none := by
 have hll := E.len_eq
 have hi : i < len := by
  rcases Nat.lt_or_ge i l.length with h1 | h1
  ·omega
  ·rw [List.getElem?_eq_none h1] at hX; simp at hX
 obtain ⟨b, off, rfl, hat⟩ := E.at_ (by omega)
 obtain ⟨c0, c1, c2, c3, c4, c5, c6, c7, c8, c9, c10, hok⟩ := hat i X hX
 obtain ⟨hs1, hs2, hs3⟩ := hs X (List.mem_of_getElem? hX)
 have HE : Hid (ent11 (ens l) i X.en = if !inI X.k 1 6 then 8 else if pth X.en ≠ 0 then pth X.en else if ((ens l).take i).any (sameP X.path.toList) then 110 else
   if !(decide (upT X.path.toList = []) || (ens l).any (foldP (upT X.path.toList))) || (decide (X.k = 6) && !(ens l).any (thingP X.target.toList)) then 4 else if X.k = 6 then 0 else fld X.en) := rfl
 have hpa := fun W => rpath_any X W hs1
 have hfi := fun W (h : X.ok W) => rfields_any X W h (by omega) hs3
 have HI : Hid _ := xai E (xai hat (xai hll (xai hs hok)))
 clear E hat hll hs hok
 generalize ent11 (ens l) i X.en = A at *
 generalize fld X.en = FL at *
 generalize pth X.en = PT at *
 have HX : Hid _ := hX
 clear hX hs3
 obtain ⟨P, K, mo, uid, gid, ti, sz_, da, dl, dc, data, tg, dev, aa, al, ac, attrs⟩ := X
 simp only at *
 simp only [EnV.val] at hpa hfi
 have hii : (i : Int) < (len : Int) := by omega
 cases d1 : inI K 1 6 with
 | false =>
  have HV : Hid (A = 8) := by
   show A = 8
   rw [HE.out, d1, if_pos (by simp)]
  clear HE
  go_enter Tryz.func30, Tryz.ntmps30
  go_wp2_with (go_at_call 58; refine (in_any _ _ _ _).mono ?_; rintro e w' ⟨rfl, rfl⟩)
  go_ret
  exact ⟨by rw [HV.out]; rfl, xga _ _ none⟩
 | true =>
  have HE2 : Hid (A = if PT ≠ 0 then PT else if ((ens l).take i).any (sameP P.toList) then 110 else
   if !(decide (upT P.toList = []) || (ens l).any (foldP (upT P.toList))) || (decide (K = 6) && !(ens l).any (thingP tg.toList)) then 4 else if K = 6 then 0 else FL) := by
   show A = _
   rw [HE.out, d1, if_neg (by simp)]
  clear HE
  by_cases hPT : PT = 0
  ·subst hPT
   rw [if_neg (by simp)] at HE2
   go_enter Tryz.func30, Tryz.ntmps30
   go_wp2_with (first | (go_at_call 58; refine (in_any _ _ _ _).mono ?_; rintro e w' ⟨rfl, rfl⟩) | (go_at_call 59; refine (hpa _).mono ?_; rintro e w1 ⟨rfl, HG⟩))
   have hx0 : w1.cell? ⟨w.heap.size, 0, none⟩ = some (.string P) := cell_grown (by simp) HG
   have hx1 : w1.cell? ⟨w.heap.size, 1, none⟩ = some (.int .i64 K) := cell_grown (by simp) HG
   have hx2 : w1.cell? ⟨w.heap.size, 2, none⟩ = some (.int .i64 mo) := cell_grown (by simp) HG
   have hx3 : w1.cell? ⟨w.heap.size, 3, none⟩ = some (.int .i64 uid) := cell_grown (by simp) HG
   have hx4 : w1.cell? ⟨w.heap.size, 4, none⟩ = some (.int .i64 gid) := cell_grown (by simp) HG
   have hx5 : w1.cell? ⟨w.heap.size, 5, none⟩ = some (.int .i64 ti) := cell_grown (by simp) HG
   have hx6 : w1.cell? ⟨w.heap.size, 6, none⟩ = some (.int .i64 sz_) := cell_grown (by simp) HG
   have hx7 : w1.cell? ⟨w.heap.size, 7, none⟩ = some (.slice da dl dc) := cell_grown (by simp) HG
   have hx8 : w1.cell? ⟨w.heap.size, 8, none⟩ = some (.string tg) := cell_grown (by simp) HG
   have hx9 : w1.cell? ⟨w.heap.size, 9, none⟩ = some (.int .i64 dev) := cell_grown (by simp) HG
   have hx10 : w1.cell? ⟨w.heap.size, 10, none⟩ = some (.slice aa al ac) := cell_grown (by simp) HG
   have HG2 : Hid _ := xgt (xga w _ none) HG
   clear HG hpa c0 c1 c2 c3 c4 c5 c6 c7 c8 c9 c10
   go_loopw [7] (fun v wr => ∃ k : Nat, k ≤ i ∧ v = .int .i64 k ∧ Hid (((ens l).take k).any (sameP P.toList) = false) ∧ ∃ t, wr = w1.drewN t) (fun v _ => i - (intOf v).toNat)
   case atStart => exact ⟨0, Nat.zero_le _, rfl, rfl, 0, rfl⟩
   case round =>
    obtain ⟨k, hk, rfl, HB, t, rfl⟩ := hrel
    by_cases hlt : k < i
    ·obtain ⟨Y, hY⟩ : ∃ Y, l[k]? = some Y := ⟨_, List.getElem?_eq_getElem (by have := HI.out.2.2.1; omega)⟩
     have y0 := cell_grown (HI.out.2.1 k Y hY).c0 HG2.out
     have hsn := ens_snoc hY (sameP P.toList)
     rw [HB.out, Bool.false_or] at hsn
     have hsn2 : sameP P.toList Y.en = (Y.path.toList == P.toList) := by
      unfold sameP EnV.en; simp only; by_cases h : Y.path.toList = P.toList <;> simp [h]
     rw [hsn2] at hsn
     have HN : Hid _ := hsn
     clear hsn hsn2
     generalize Y.path = Q at *
     have hlti : (k : Int) < (i : Int) := by omega
     have hlti2 : (k : Int) < (len : Int) := by omega
     cases hq : (Q.toList == P.toList) with
     | true =>
      have HV : Hid (A = 110) := by
       show A = 110
       have e5 := ens_take_any (n := i) (HN.out.trans hq) (by omega)
       rw [HE2.out, if_pos e5]
      go_wp2
      go_quiet (fail)
      go_wp2
      go_ret
      exact ⟨by rw [HV.out]; rfl, drewG11 (drewG11 HG2.out _) _⟩
     | false =>
      have HN2 : Hid (((ens l).take (k + 1)).any (sameP P.toList) = false) := by
       show List.any _ _ = false
       rw [HN.out, hq]
      go_wp2
      go_quiet (fail)
      go_wp2
      exact ⟨⟨k + 1, by omega, by go_num, HN2, _, rfl⟩, by simp [intOf]; omega⟩
    ·obtain rfl : k = i := by omega
     have HE3 : Hid (A = if !(decide (upT P.toList = []) || (ens l).any (foldP (upT P.toList))) || (decide (K = 6) && !(ens l).any (thingP tg.toList)) then 4 else if K = 6 then 0 else FL) := by
      show A = _
      rw [HE2.out, HB.out, if_neg (by decide)]
     clear HE2 HB
     obtain ⟨u0, hu0⟩ : ∃ u0 : ByteArray, upT P.toList = u0.toList := ⟨tx (upT P.toList), (tx_tl _).symm⟩
     have hup := fun W => up_any P W (by omega)
     rw [hu0, tl_tx] at hup
     rw [hu0] at HE3
     clear hu0
     go_wp2_with (go_at_call 40; refine (hup _).mono ?_; rintro e w' ⟨rfl, rfl⟩)
     go_loopw [8, 9, 10] (fun vu vn vk wr => ∃ (k2 : Nat) (ub nb : Bool), k2 ≤ len ∧ vk = .int .i64 k2 ∧ vu = .bool ub ∧ vn = .bool nb ∧ Hid (ub = ((u0.toList == []) || ((ens l).take k2).any (foldP u0.toList))) ∧ Hid (nb = ((ens l).take k2).any (thingP tg.toList)) ∧ ∃ t, wr = w1.drewN t) (fun _ _ vk _ => len - (intOf vk).toNat)
     case atStart => exact ⟨0, u0.toList.isEmpty, false, Nat.zero_le _, rfl, rfl, rfl, by show _ = _; simp, by show _ = _; simp, _, rfl⟩
     case round =>
      obtain ⟨k2, ub, nb, hk2, rfl, rfl, rfl, HUB, HNB, t2, rfl⟩ := hrel
      by_cases hlt : k2 < len
      ·obtain ⟨Y, hY⟩ : ∃ Y, l[k2]? = some Y := ⟨_, List.getElem?_eq_getElem (by have := HI.out.2.2.1; omega)⟩
       have y0 := cell_grown (HI.out.2.1 k2 Y hY).c0 HG2.out
       have y1 := cell_grown (HI.out.2.1 k2 Y hY).c1 HG2.out
       have hf := ens_snoc hY (foldP u0.toList)
       have hg := ens_snoc hY (thingP tg.toList)
       have hf2 : foldP u0.toList Y.en = ((Y.path.toList == u0.toList) && (Y.k == 2)) := by
        unfold foldP EnV.en; simp only; by_cases h : Y.path.toList = u0.toList <;> by_cases h2 : Y.k = 2 <;> simp [h, h2]
       have hg2 : thingP tg.toList Y.en = ((Y.path.toList == tg.toList) && inI Y.k 1 5 && !(Y.k == 2)) := by
        unfold thingP EnV.en; simp only; by_cases h : Y.path.toList = tg.toList <;> by_cases h2 : Y.k = 2 <;> simp [h, h2]
       rw [hf2] at hf
       rw [hg2, ← HNB.out] at hg
       have hf3 : ((u0.toList == []) || ((ens l).take (k2 + 1)).any (foldP u0.toList)) = (ub || ((Y.path.toList == u0.toList) && (Y.k == 2))) := by
        rw [hf, ← Bool.or_assoc, ← HUB.out]
       have HF : Hid _ := hf3
       have HT : Hid _ := hg
       clear hf hg hf2 hg2 hf3 HUB HNB
       generalize Y.path = Q at *
       generalize Y.k = KY at *
       have hlti : (k2 : Int) < (len : Int) := by omega
       have z0 : (w1.drewN t2).cell? ⟨b, off + k2 * 11, none⟩ = some (.string Q) := by simpa using y0
       have z1 : (w1.drewN t2).cell? ⟨b, off + k2 * 11 + 1, none⟩ = some (.int .i64 KY) := by simpa using y1
       have zx : (w1.drewN t2).cell? ⟨w.heap.size, 0, none⟩ = some (.string P) := by simpa using hx0
       have z8 : (w1.drewN t2).cell? ⟨w.heap.size, 8, none⟩ = some (.string tg) := by simpa using hx8
       clear y0 y1 hx0 hx1 hx2 hx3 hx4 hx5 hx6 hx7 hx8 hx9 hx10
       generalize hWW : w1.drewN t2 = W0 at *
       have HW : Hid _ := hWW
       clear hWW
       by_cases hK2 : KY = 2
       ·have hK2b : (KY == 2) = true := by rw [hK2]; rfl
        have hK2n : (KY != 2) = false := by rw [hK2]; rfl
        clear hK2
        cases ub with
        | true =>
         cases nb with
         | true =>
          go_wp2
          go_quiet ((go_at_call 40; exact quiet_eq11 (hup _)))
          go_wp2
          have v0 : (W0.drewN nq).cell? ⟨b, off + k2 * 11, none⟩ = some (.string Q) := by simpa using z0
          have v1 : (W0.drewN nq).cell? ⟨b, off + k2 * 11 + 1, none⟩ = some (.int .i64 KY) := by simpa using z1
          have v8 : (W0.drewN nq).cell? ⟨w.heap.size, 8, none⟩ = some (.string tg) := by simpa using z8
          generalize hW3 : W0.drewN nq = W3 at *
          have HW3 : Hid _ := hW3
          clear hW3
          go_quiet ((go_at_call 58; exact quiet_eq11 (in_any _ _ _ _)))
          go_wp2
          exact ⟨⟨k2 + 1, true, true, by omega, by go_num, rfl, rfl, by show _ = _; rw [HF.out]; simp [*], by show _ = _; rw [HT.out]; simp [*], _, by rw [← HW3.out, ← HW.out, dd, dd]⟩, by simp [intOf]; omega⟩
         | false =>
          cases e2 : (Q.toList == tg.toList) with
          | false =>
           go_wp2
           go_quiet ((go_at_call 40; exact quiet_eq11 (hup _)))
           go_wp2
           have v0 : (W0.drewN nq).cell? ⟨b, off + k2 * 11, none⟩ = some (.string Q) := by simpa using z0
           have v1 : (W0.drewN nq).cell? ⟨b, off + k2 * 11 + 1, none⟩ = some (.int .i64 KY) := by simpa using z1
           have v8 : (W0.drewN nq).cell? ⟨w.heap.size, 8, none⟩ = some (.string tg) := by simpa using z8
           generalize hW3 : W0.drewN nq = W3 at *
           have HW3 : Hid _ := hW3
           clear hW3
           go_quiet ((go_at_call 58; exact quiet_eq11 (in_any _ _ _ _)))
           go_wp2
           exact ⟨⟨k2 + 1, true, false, by omega, by go_num, rfl, rfl, by show _ = _; rw [HF.out]; simp [*], by show _ = _; rw [HT.out]; simp [*], _, by rw [← HW3.out, ← HW.out, dd, dd]⟩, by simp [intOf]; omega⟩
          | true =>
           cases i5 : inI KY 1 5 with
           | false =>
            go_wp2
            go_quiet ((go_at_call 40; exact quiet_eq11 (hup _)))
            go_wp2
            have v0 : (W0.drewN nq).cell? ⟨b, off + k2 * 11, none⟩ = some (.string Q) := by simpa using z0
            have v1 : (W0.drewN nq).cell? ⟨b, off + k2 * 11 + 1, none⟩ = some (.int .i64 KY) := by simpa using z1
            have v8 : (W0.drewN nq).cell? ⟨w.heap.size, 8, none⟩ = some (.string tg) := by simpa using z8
            generalize hW3 : W0.drewN nq = W3 at *
            have HW3 : Hid _ := hW3
            clear hW3
            go_quiet ((go_at_call 58; exact quiet_eq11 (in_any _ _ _ _)))
            go_wp2
            exact ⟨⟨k2 + 1, true, false, by omega, by go_num, rfl, rfl, by show _ = _; rw [HF.out]; simp [*], by show _ = _; rw [HT.out]; simp [*], _, by rw [← HW3.out, ← HW.out, dd, dd]⟩, by simp [intOf]; omega⟩
           | true =>
            go_wp2
            go_quiet ((go_at_call 40; exact quiet_eq11 (hup _)))
            go_wp2
            have v0 : (W0.drewN nq).cell? ⟨b, off + k2 * 11, none⟩ = some (.string Q) := by simpa using z0
            have v1 : (W0.drewN nq).cell? ⟨b, off + k2 * 11 + 1, none⟩ = some (.int .i64 KY) := by simpa using z1
            have v8 : (W0.drewN nq).cell? ⟨w.heap.size, 8, none⟩ = some (.string tg) := by simpa using z8
            generalize hW3 : W0.drewN nq = W3 at *
            have HW3 : Hid _ := hW3
            clear hW3
            go_quiet ((go_at_call 58; exact quiet_eq11 (in_any _ _ _ _)))
            go_wp2
            exact ⟨⟨k2 + 1, true, false, by omega, by go_num, rfl, rfl, by show _ = _; rw [HF.out]; simp [*], by show _ = _; rw [HT.out]; simp [*], _, by rw [← HW3.out, ← HW.out, dd, dd]⟩, by simp [intOf]; omega⟩
        | false =>
         cases e1 : (Q.toList == u0.toList) with
         | false =>
          cases nb with
          | true =>
           go_wp2
           go_quiet ((go_at_call 40; exact quiet_eq11 (hup _)))
           go_wp2
           have v0 : (W0.drewN nq).cell? ⟨b, off + k2 * 11, none⟩ = some (.string Q) := by simpa using z0
           have v1 : (W0.drewN nq).cell? ⟨b, off + k2 * 11 + 1, none⟩ = some (.int .i64 KY) := by simpa using z1
           have v8 : (W0.drewN nq).cell? ⟨w.heap.size, 8, none⟩ = some (.string tg) := by simpa using z8
           generalize hW3 : W0.drewN nq = W3 at *
           have HW3 : Hid _ := hW3
           clear hW3
           go_quiet ((go_at_call 58; exact quiet_eq11 (in_any _ _ _ _)))
           go_wp2
           exact ⟨⟨k2 + 1, false, true, by omega, by go_num, rfl, rfl, by show _ = _; rw [HF.out]; simp [*], by show _ = _; rw [HT.out]; simp [*], _, by rw [← HW3.out, ← HW.out, dd, dd]⟩, by simp [intOf]; omega⟩
          | false =>
           cases e2 : (Q.toList == tg.toList) with
           | false =>
            go_wp2
            go_quiet ((go_at_call 40; exact quiet_eq11 (hup _)))
            go_wp2
            have v0 : (W0.drewN nq).cell? ⟨b, off + k2 * 11, none⟩ = some (.string Q) := by simpa using z0
            have v1 : (W0.drewN nq).cell? ⟨b, off + k2 * 11 + 1, none⟩ = some (.int .i64 KY) := by simpa using z1
            have v8 : (W0.drewN nq).cell? ⟨w.heap.size, 8, none⟩ = some (.string tg) := by simpa using z8
            generalize hW3 : W0.drewN nq = W3 at *
            have HW3 : Hid _ := hW3
            clear hW3
            go_quiet ((go_at_call 58; exact quiet_eq11 (in_any _ _ _ _)))
            go_wp2
            exact ⟨⟨k2 + 1, false, false, by omega, by go_num, rfl, rfl, by show _ = _; rw [HF.out]; simp [*], by show _ = _; rw [HT.out]; simp [*], _, by rw [← HW3.out, ← HW.out, dd, dd]⟩, by simp [intOf]; omega⟩
           | true =>
            cases i5 : inI KY 1 5 with
            | false =>
             go_wp2
             go_quiet ((go_at_call 40; exact quiet_eq11 (hup _)))
             go_wp2
             have v0 : (W0.drewN nq).cell? ⟨b, off + k2 * 11, none⟩ = some (.string Q) := by simpa using z0
             have v1 : (W0.drewN nq).cell? ⟨b, off + k2 * 11 + 1, none⟩ = some (.int .i64 KY) := by simpa using z1
             have v8 : (W0.drewN nq).cell? ⟨w.heap.size, 8, none⟩ = some (.string tg) := by simpa using z8
             generalize hW3 : W0.drewN nq = W3 at *
             have HW3 : Hid _ := hW3
             clear hW3
             go_quiet ((go_at_call 58; exact quiet_eq11 (in_any _ _ _ _)))
             go_wp2
             exact ⟨⟨k2 + 1, false, false, by omega, by go_num, rfl, rfl, by show _ = _; rw [HF.out]; simp [*], by show _ = _; rw [HT.out]; simp [*], _, by rw [← HW3.out, ← HW.out, dd, dd]⟩, by simp [intOf]; omega⟩
            | true =>
             go_wp2
             go_quiet ((go_at_call 40; exact quiet_eq11 (hup _)))
             go_wp2
             have v0 : (W0.drewN nq).cell? ⟨b, off + k2 * 11, none⟩ = some (.string Q) := by simpa using z0
             have v1 : (W0.drewN nq).cell? ⟨b, off + k2 * 11 + 1, none⟩ = some (.int .i64 KY) := by simpa using z1
             have v8 : (W0.drewN nq).cell? ⟨w.heap.size, 8, none⟩ = some (.string tg) := by simpa using z8
             generalize hW3 : W0.drewN nq = W3 at *
             have HW3 : Hid _ := hW3
             clear hW3
             go_quiet ((go_at_call 58; exact quiet_eq11 (in_any _ _ _ _)))
             go_wp2
             exact ⟨⟨k2 + 1, false, false, by omega, by go_num, rfl, rfl, by show _ = _; rw [HF.out]; simp [*], by show _ = _; rw [HT.out]; simp [*], _, by rw [← HW3.out, ← HW.out, dd, dd]⟩, by simp [intOf]; omega⟩
         | true =>
          cases nb with
          | true =>
           go_wp2
           go_quiet ((go_at_call 40; exact quiet_eq11 (hup _)))
           go_wp2
           have v0 : (W0.drewN nq).cell? ⟨b, off + k2 * 11, none⟩ = some (.string Q) := by simpa using z0
           have v1 : (W0.drewN nq).cell? ⟨b, off + k2 * 11 + 1, none⟩ = some (.int .i64 KY) := by simpa using z1
           have v8 : (W0.drewN nq).cell? ⟨w.heap.size, 8, none⟩ = some (.string tg) := by simpa using z8
           generalize hW3 : W0.drewN nq = W3 at *
           have HW3 : Hid _ := hW3
           clear hW3
           go_quiet ((go_at_call 58; exact quiet_eq11 (in_any _ _ _ _)))
           go_wp2
           exact ⟨⟨k2 + 1, true, true, by omega, by go_num, rfl, rfl, by show _ = _; rw [HF.out]; simp [*], by show _ = _; rw [HT.out]; simp [*], _, by rw [← HW3.out, ← HW.out, dd, dd]⟩, by simp [intOf]; omega⟩
          | false =>
           cases e2 : (Q.toList == tg.toList) with
           | false =>
            go_wp2
            go_quiet ((go_at_call 40; exact quiet_eq11 (hup _)))
            go_wp2
            have v0 : (W0.drewN nq).cell? ⟨b, off + k2 * 11, none⟩ = some (.string Q) := by simpa using z0
            have v1 : (W0.drewN nq).cell? ⟨b, off + k2 * 11 + 1, none⟩ = some (.int .i64 KY) := by simpa using z1
            have v8 : (W0.drewN nq).cell? ⟨w.heap.size, 8, none⟩ = some (.string tg) := by simpa using z8
            generalize hW3 : W0.drewN nq = W3 at *
            have HW3 : Hid _ := hW3
            clear hW3
            go_quiet ((go_at_call 58; exact quiet_eq11 (in_any _ _ _ _)))
            go_wp2
            exact ⟨⟨k2 + 1, true, false, by omega, by go_num, rfl, rfl, by show _ = _; rw [HF.out]; simp [*], by show _ = _; rw [HT.out]; simp [*], _, by rw [← HW3.out, ← HW.out, dd, dd]⟩, by simp [intOf]; omega⟩
           | true =>
            cases i5 : inI KY 1 5 with
            | false =>
             go_wp2
             go_quiet ((go_at_call 40; exact quiet_eq11 (hup _)))
             go_wp2
             have v0 : (W0.drewN nq).cell? ⟨b, off + k2 * 11, none⟩ = some (.string Q) := by simpa using z0
             have v1 : (W0.drewN nq).cell? ⟨b, off + k2 * 11 + 1, none⟩ = some (.int .i64 KY) := by simpa using z1
             have v8 : (W0.drewN nq).cell? ⟨w.heap.size, 8, none⟩ = some (.string tg) := by simpa using z8
             generalize hW3 : W0.drewN nq = W3 at *
             have HW3 : Hid _ := hW3
             clear hW3
             go_quiet ((go_at_call 58; exact quiet_eq11 (in_any _ _ _ _)))
             go_wp2
             exact ⟨⟨k2 + 1, true, false, by omega, by go_num, rfl, rfl, by show _ = _; rw [HF.out]; simp [*], by show _ = _; rw [HT.out]; simp [*], _, by rw [← HW3.out, ← HW.out, dd, dd]⟩, by simp [intOf]; omega⟩
            | true =>
             go_wp2
             go_quiet ((go_at_call 40; exact quiet_eq11 (hup _)))
             go_wp2
             have v0 : (W0.drewN nq).cell? ⟨b, off + k2 * 11, none⟩ = some (.string Q) := by simpa using z0
             have v1 : (W0.drewN nq).cell? ⟨b, off + k2 * 11 + 1, none⟩ = some (.int .i64 KY) := by simpa using z1
             have v8 : (W0.drewN nq).cell? ⟨w.heap.size, 8, none⟩ = some (.string tg) := by simpa using z8
             generalize hW3 : W0.drewN nq = W3 at *
             have HW3 : Hid _ := hW3
             clear hW3
             go_quiet ((go_at_call 58; exact quiet_eq11 (in_any _ _ _ _)))
             go_wp2
             exact ⟨⟨k2 + 1, true, false, by omega, by go_num, rfl, rfl, by show _ = _; rw [HF.out]; simp [*], by show _ = _; rw [HT.out]; simp [*], _, by rw [← HW3.out, ← HW.out, dd, dd]⟩, by simp [intOf]; omega⟩
       ·have hK2b : (KY == 2) = false := by rw [beq_eq_false_iff_ne]; exact hK2
        have hK2n : (KY != 2) = true := by simp [hK2]
        cases ub with
        | true =>
         cases nb with
         | true =>
          go_wp2
          go_quiet ((go_at_call 40; exact quiet_eq11 (hup _)))
          go_wp2
          have v0 : (W0.drewN nq).cell? ⟨b, off + k2 * 11, none⟩ = some (.string Q) := by simpa using z0
          have v1 : (W0.drewN nq).cell? ⟨b, off + k2 * 11 + 1, none⟩ = some (.int .i64 KY) := by simpa using z1
          have v8 : (W0.drewN nq).cell? ⟨w.heap.size, 8, none⟩ = some (.string tg) := by simpa using z8
          generalize hW3 : W0.drewN nq = W3 at *
          have HW3 : Hid _ := hW3
          clear hW3
          go_quiet ((go_at_call 58; exact quiet_eq11 (in_any _ _ _ _)))
          go_wp2
          exact ⟨⟨k2 + 1, true, true, by omega, by go_num, rfl, rfl, by show _ = _; rw [HF.out]; simp [*], by show _ = _; rw [HT.out]; simp [*], _, by rw [← HW3.out, ← HW.out, dd, dd]⟩, by simp [intOf]; omega⟩
         | false =>
          cases e2 : (Q.toList == tg.toList) with
          | false =>
           go_wp2
           go_quiet ((go_at_call 40; exact quiet_eq11 (hup _)))
           go_wp2
           have v0 : (W0.drewN nq).cell? ⟨b, off + k2 * 11, none⟩ = some (.string Q) := by simpa using z0
           have v1 : (W0.drewN nq).cell? ⟨b, off + k2 * 11 + 1, none⟩ = some (.int .i64 KY) := by simpa using z1
           have v8 : (W0.drewN nq).cell? ⟨w.heap.size, 8, none⟩ = some (.string tg) := by simpa using z8
           generalize hW3 : W0.drewN nq = W3 at *
           have HW3 : Hid _ := hW3
           clear hW3
           go_quiet ((go_at_call 58; exact quiet_eq11 (in_any _ _ _ _)))
           go_wp2
           exact ⟨⟨k2 + 1, true, false, by omega, by go_num, rfl, rfl, by show _ = _; rw [HF.out]; simp [*], by show _ = _; rw [HT.out]; simp [*], _, by rw [← HW3.out, ← HW.out, dd, dd]⟩, by simp [intOf]; omega⟩
          | true =>
           cases i5 : inI KY 1 5 with
           | false =>
            go_wp2
            go_quiet ((go_at_call 40; exact quiet_eq11 (hup _)))
            go_wp2
            have v0 : (W0.drewN nq).cell? ⟨b, off + k2 * 11, none⟩ = some (.string Q) := by simpa using z0
            have v1 : (W0.drewN nq).cell? ⟨b, off + k2 * 11 + 1, none⟩ = some (.int .i64 KY) := by simpa using z1
            have v8 : (W0.drewN nq).cell? ⟨w.heap.size, 8, none⟩ = some (.string tg) := by simpa using z8
            generalize hW3 : W0.drewN nq = W3 at *
            have HW3 : Hid _ := hW3
            clear hW3
            go_quiet ((go_at_call 58; exact quiet_eq11 (in_any _ _ _ _)))
            go_wp2
            exact ⟨⟨k2 + 1, true, false, by omega, by go_num, rfl, rfl, by show _ = _; rw [HF.out]; simp [*], by show _ = _; rw [HT.out]; simp [*], _, by rw [← HW3.out, ← HW.out, dd, dd]⟩, by simp [intOf]; omega⟩
           | true =>
            go_wp2
            go_quiet ((go_at_call 40; exact quiet_eq11 (hup _)))
            go_wp2
            have v0 : (W0.drewN nq).cell? ⟨b, off + k2 * 11, none⟩ = some (.string Q) := by simpa using z0
            have v1 : (W0.drewN nq).cell? ⟨b, off + k2 * 11 + 1, none⟩ = some (.int .i64 KY) := by simpa using z1
            have v8 : (W0.drewN nq).cell? ⟨w.heap.size, 8, none⟩ = some (.string tg) := by simpa using z8
            generalize hW3 : W0.drewN nq = W3 at *
            have HW3 : Hid _ := hW3
            clear hW3
            go_quiet ((go_at_call 58; exact quiet_eq11 (in_any _ _ _ _)))
            go_wp2
            exact ⟨⟨k2 + 1, true, true, by omega, by go_num, rfl, rfl, by show _ = _; rw [HF.out]; simp [*], by show _ = _; rw [HT.out]; simp [*], _, by rw [← HW3.out, ← HW.out, dd, dd]⟩, by simp [intOf]; omega⟩
        | false =>
         cases e1 : (Q.toList == u0.toList) with
         | false =>
          cases nb with
          | true =>
           go_wp2
           go_quiet ((go_at_call 40; exact quiet_eq11 (hup _)))
           go_wp2
           have v0 : (W0.drewN nq).cell? ⟨b, off + k2 * 11, none⟩ = some (.string Q) := by simpa using z0
           have v1 : (W0.drewN nq).cell? ⟨b, off + k2 * 11 + 1, none⟩ = some (.int .i64 KY) := by simpa using z1
           have v8 : (W0.drewN nq).cell? ⟨w.heap.size, 8, none⟩ = some (.string tg) := by simpa using z8
           generalize hW3 : W0.drewN nq = W3 at *
           have HW3 : Hid _ := hW3
           clear hW3
           go_quiet ((go_at_call 58; exact quiet_eq11 (in_any _ _ _ _)))
           go_wp2
           exact ⟨⟨k2 + 1, false, true, by omega, by go_num, rfl, rfl, by show _ = _; rw [HF.out]; simp [*], by show _ = _; rw [HT.out]; simp [*], _, by rw [← HW3.out, ← HW.out, dd, dd]⟩, by simp [intOf]; omega⟩
          | false =>
           cases e2 : (Q.toList == tg.toList) with
           | false =>
            go_wp2
            go_quiet ((go_at_call 40; exact quiet_eq11 (hup _)))
            go_wp2
            have v0 : (W0.drewN nq).cell? ⟨b, off + k2 * 11, none⟩ = some (.string Q) := by simpa using z0
            have v1 : (W0.drewN nq).cell? ⟨b, off + k2 * 11 + 1, none⟩ = some (.int .i64 KY) := by simpa using z1
            have v8 : (W0.drewN nq).cell? ⟨w.heap.size, 8, none⟩ = some (.string tg) := by simpa using z8
            generalize hW3 : W0.drewN nq = W3 at *
            have HW3 : Hid _ := hW3
            clear hW3
            go_quiet ((go_at_call 58; exact quiet_eq11 (in_any _ _ _ _)))
            go_wp2
            exact ⟨⟨k2 + 1, false, false, by omega, by go_num, rfl, rfl, by show _ = _; rw [HF.out]; simp [*], by show _ = _; rw [HT.out]; simp [*], _, by rw [← HW3.out, ← HW.out, dd, dd]⟩, by simp [intOf]; omega⟩
           | true =>
            cases i5 : inI KY 1 5 with
            | false =>
             go_wp2
             go_quiet ((go_at_call 40; exact quiet_eq11 (hup _)))
             go_wp2
             have v0 : (W0.drewN nq).cell? ⟨b, off + k2 * 11, none⟩ = some (.string Q) := by simpa using z0
             have v1 : (W0.drewN nq).cell? ⟨b, off + k2 * 11 + 1, none⟩ = some (.int .i64 KY) := by simpa using z1
             have v8 : (W0.drewN nq).cell? ⟨w.heap.size, 8, none⟩ = some (.string tg) := by simpa using z8
             generalize hW3 : W0.drewN nq = W3 at *
             have HW3 : Hid _ := hW3
             clear hW3
             go_quiet ((go_at_call 58; exact quiet_eq11 (in_any _ _ _ _)))
             go_wp2
             exact ⟨⟨k2 + 1, false, false, by omega, by go_num, rfl, rfl, by show _ = _; rw [HF.out]; simp [*], by show _ = _; rw [HT.out]; simp [*], _, by rw [← HW3.out, ← HW.out, dd, dd]⟩, by simp [intOf]; omega⟩
            | true =>
             go_wp2
             go_quiet ((go_at_call 40; exact quiet_eq11 (hup _)))
             go_wp2
             have v0 : (W0.drewN nq).cell? ⟨b, off + k2 * 11, none⟩ = some (.string Q) := by simpa using z0
             have v1 : (W0.drewN nq).cell? ⟨b, off + k2 * 11 + 1, none⟩ = some (.int .i64 KY) := by simpa using z1
             have v8 : (W0.drewN nq).cell? ⟨w.heap.size, 8, none⟩ = some (.string tg) := by simpa using z8
             generalize hW3 : W0.drewN nq = W3 at *
             have HW3 : Hid _ := hW3
             clear hW3
             go_quiet ((go_at_call 58; exact quiet_eq11 (in_any _ _ _ _)))
             go_wp2
             exact ⟨⟨k2 + 1, false, true, by omega, by go_num, rfl, rfl, by show _ = _; rw [HF.out]; simp [*], by show _ = _; rw [HT.out]; simp [*], _, by rw [← HW3.out, ← HW.out, dd, dd]⟩, by simp [intOf]; omega⟩
         | true =>
          cases nb with
          | true =>
           go_wp2
           go_quiet ((go_at_call 40; exact quiet_eq11 (hup _)))
           go_wp2
           have v0 : (W0.drewN nq).cell? ⟨b, off + k2 * 11, none⟩ = some (.string Q) := by simpa using z0
           have v1 : (W0.drewN nq).cell? ⟨b, off + k2 * 11 + 1, none⟩ = some (.int .i64 KY) := by simpa using z1
           have v8 : (W0.drewN nq).cell? ⟨w.heap.size, 8, none⟩ = some (.string tg) := by simpa using z8
           generalize hW3 : W0.drewN nq = W3 at *
           have HW3 : Hid _ := hW3
           clear hW3
           go_quiet ((go_at_call 58; exact quiet_eq11 (in_any _ _ _ _)))
           go_wp2
           exact ⟨⟨k2 + 1, false, true, by omega, by go_num, rfl, rfl, by show _ = _; rw [HF.out]; simp [*], by show _ = _; rw [HT.out]; simp [*], _, by rw [← HW3.out, ← HW.out, dd, dd]⟩, by simp [intOf]; omega⟩
          | false =>
           cases e2 : (Q.toList == tg.toList) with
           | false =>
            go_wp2
            go_quiet ((go_at_call 40; exact quiet_eq11 (hup _)))
            go_wp2
            have v0 : (W0.drewN nq).cell? ⟨b, off + k2 * 11, none⟩ = some (.string Q) := by simpa using z0
            have v1 : (W0.drewN nq).cell? ⟨b, off + k2 * 11 + 1, none⟩ = some (.int .i64 KY) := by simpa using z1
            have v8 : (W0.drewN nq).cell? ⟨w.heap.size, 8, none⟩ = some (.string tg) := by simpa using z8
            generalize hW3 : W0.drewN nq = W3 at *
            have HW3 : Hid _ := hW3
            clear hW3
            go_quiet ((go_at_call 58; exact quiet_eq11 (in_any _ _ _ _)))
            go_wp2
            exact ⟨⟨k2 + 1, false, false, by omega, by go_num, rfl, rfl, by show _ = _; rw [HF.out]; simp [*], by show _ = _; rw [HT.out]; simp [*], _, by rw [← HW3.out, ← HW.out, dd, dd]⟩, by simp [intOf]; omega⟩
           | true =>
            cases i5 : inI KY 1 5 with
            | false =>
             go_wp2
             go_quiet ((go_at_call 40; exact quiet_eq11 (hup _)))
             go_wp2
             have v0 : (W0.drewN nq).cell? ⟨b, off + k2 * 11, none⟩ = some (.string Q) := by simpa using z0
             have v1 : (W0.drewN nq).cell? ⟨b, off + k2 * 11 + 1, none⟩ = some (.int .i64 KY) := by simpa using z1
             have v8 : (W0.drewN nq).cell? ⟨w.heap.size, 8, none⟩ = some (.string tg) := by simpa using z8
             generalize hW3 : W0.drewN nq = W3 at *
             have HW3 : Hid _ := hW3
             clear hW3
             go_quiet ((go_at_call 58; exact quiet_eq11 (in_any _ _ _ _)))
             go_wp2
             exact ⟨⟨k2 + 1, false, false, by omega, by go_num, rfl, rfl, by show _ = _; rw [HF.out]; simp [*], by show _ = _; rw [HT.out]; simp [*], _, by rw [← HW3.out, ← HW.out, dd, dd]⟩, by simp [intOf]; omega⟩
            | true =>
             go_wp2
             go_quiet ((go_at_call 40; exact quiet_eq11 (hup _)))
             go_wp2
             have v0 : (W0.drewN nq).cell? ⟨b, off + k2 * 11, none⟩ = some (.string Q) := by simpa using z0
             have v1 : (W0.drewN nq).cell? ⟨b, off + k2 * 11 + 1, none⟩ = some (.int .i64 KY) := by simpa using z1
             have v8 : (W0.drewN nq).cell? ⟨w.heap.size, 8, none⟩ = some (.string tg) := by simpa using z8
             generalize hW3 : W0.drewN nq = W3 at *
             have HW3 : Hid _ := hW3
             clear hW3
             go_quiet ((go_at_call 58; exact quiet_eq11 (in_any _ _ _ _)))
             go_wp2
             exact ⟨⟨k2 + 1, false, true, by omega, by go_num, rfl, rfl, by show _ = _; rw [HF.out]; simp [*], by show _ = _; rw [HT.out]; simp [*], _, by rw [← HW3.out, ← HW.out, dd, dd]⟩, by simp [intOf]; omega⟩
      ·have hk9 : k2 = len := by omega
       subst hk9
       have hta : (ens l).take k2 = ens l := List.take_of_length_le (by unfold ens; rw [List.length_map, HI.out.2.2.1]; exact Nat.le_refl _)
       rw [hta] at HUB HNB
       have hd : decide (u0.toList = []) = (u0.toList == []) := by by_cases h : u0.toList = [] <;> simp [h]
       rw [hd, ← HUB.out, ← HNB.out] at HE3
       clear hd hta HUB HNB
       have hlti : ¬ (k2 : Int) < (k2 : Int) := by omega
       cases ub with
       | false =>
        have HV : Hid (A = 4) := by
         show A = 4
         rw [HE3.out, if_pos (by simp)]
        clear HE3
        go_wp2
        go_ret
        exact ⟨by rw [HV.out]; rfl, drewG11 HG2.out _⟩
       | true =>
        by_cases hK6 : K = 6
        ·have hK6b : (K == 6) = true := by rw [hK6]; rfl
         cases nb with
         | false =>
          have HV : Hid (A = 4) := by
           show A = 4
           rw [HE3.out, if_pos (by simp [hK6])]
          clear HE3 hK6
          go_wp2
          go_ret
          exact ⟨by rw [HV.out]; rfl, drewG11 HG2.out _⟩
         | true =>
          have HV : Hid (A = 0) := by
           show A = 0
           rw [HE3.out, if_neg (by simp), if_pos hK6]
          clear HE3 hK6
          go_wp2
          go_ret
          exact ⟨by rw [HV.out]; rfl, drewG11 HG2.out _⟩
        ·have hK6b : (K == 6) = false := by rw [beq_eq_false_iff_ne]; exact hK6
         have HV : Hid (A = FL) := by
          show A = FL
          rw [HE3.out, if_neg (by simp [hK6]), if_neg hK6]
         clear HE3
         have hok9 := (HI.out.2.2.2.2).grown (drewG11 HG2.out t2)
         have hf9 := hfi _ hok9
         clear hfi hok9
         go_wp2_with (go_at_call 60; refine hf9.mono ?_; rintro e w3 ⟨rfl, HG3⟩)
         go_ret
         exact ⟨by rw [HV.out]; rfl, xgt (drewG11 HG2.out t2) HG3⟩
  ·have HV : Hid (A = PT) := by
    show A = PT
    rw [HE2.out, if_pos hPT]
   have hPTb : (PT == 0) = false := by rw [beq_eq_false_iff_ne]; exact hPT
   clear HE2
   go_enter Tryz.func30, Tryz.ntmps30
   go_wp2_with (first | (go_at_call 58; refine (in_any _ _ _ _).mono ?_; rintro e w' ⟨rfl, rfl⟩) | (go_at_call 59; refine (hpa _).mono ?_; rintro e w1 ⟨rfl, HG⟩))
   go_ret
   exact ⟨by rw [HV.out]; rfl, xgt (xga _ _ none) HG⟩
end Go.Proofs.YtlehncfehoelbaaGreatDoor
namespace Go.Proofs.YtlehncfehoelbaaGreatDoor
set_option linter.unusedVariables false
set_option linter.unusedSimpArgs false
structure Kd where
 n : Tx
 i : Int
structure No where
 k : Int
 mode : Int
 uid : Int
 gid : Int
 time : Int
 size : Int
 data : List Int
 target : Tx
 dev : Int
 attrs : List Atr
 kids : List Kd
 parent : Int
 links : Int
def strip (l : List Int) : List Int := (l.reverse.dropWhile (· == 0)).reverse
theorem strip_zeros (l : List Int) (n : Nat) : strip (l ++ List.replicate n 0) = strip l := by
 unfold strip
 rw [List.reverse_append, List.reverse_replicate]
 congr 1
 induction n with
 | zero => rfl
 | succ n ih => rw [List.replicate_succ, List.cons_append, List.dropWhile_cons, if_pos (by rfl), ih]
structure Tp (α : Type) where
 p : Tx
 o : α
 nd : No
 dir : Bool
structure Bs (α : Type) where
 os : List (α × Option Tx)
 ns : List No
def inoOf {α : Type} [DecidableEq α] (os : List (α × Option Tx)) (o : α) : Nat := match os.findIdx? (fun x => decide (x.1 = o)) with
 | some j => j + 1
 | none => 0
def upOf {α : Type} (os : List (α × Option Tx)) (q : Tx) : Nat := match os.findIdx? (fun x => decide (x.2 = some q)) with
 | some j => j + 1
 | none => 0
def newO {α : Type} [DecidableEq α] (s : Bs α) (t : Tp α) : Bs α := if s.os.any (fun x => decide (x.1 = t.o)) = true then s else ⟨s.os ++ [(t.o, if t.dir = true then some t.p else none)], s.ns ++ [{ t.nd with links := if t.dir = true then 2 else 0 }]⟩
def addKid (i : Nat) (c : Kd) (ns : List No) : List No := ns.modify i fun n => { n with kids := n.kids ++ [c] }
def setUp (i : Nat) (u : Nat) (ns : List No) : List No := ns.modify i fun n => { n with parent := u }
def addLink (i : Nat) (ns : List No) : List No := ns.modify i fun n => { n with links := n.links + 1 }
def bst {α : Type} [DecidableEq α] (s : Bs α) (t : Tp α) : Bs α :=
 ⟨(newO s t).os, if t.dir = true then addLink (upOf (newO s t).os (upT t.p)) (setUp (inoOf (newO s t).os t.o) (upOf (newO s t).os (upT t.p)) (addKid (upOf (newO s t).os (upT t.p)) ⟨lastT t.p, inoOf (newO s t).os t.o⟩ (newO s t).ns)) else addLink (inoOf (newO s t).os t.o) (addKid (upOf (newO s t).os (upT t.p)) ⟨lastT t.p, inoOf (newO s t).os t.o⟩ (newO s t).ns)⟩
def bld {α : Type} [DecidableEq α] (root : No) (ts : List (Tp α)) : List No := (ts.foldl bst ⟨[], [{ root with links := 2 }]⟩).ns
def Tp.map {α β : Type} (f : α → β) (t : Tp α) : Tp β := ⟨t.p, f t.o, t.nd, t.dir⟩
def Bs.map {α β : Type} (f : α → β) (s : Bs α) : Bs β := ⟨s.os.map fun x => (f x.1, x.2), s.ns⟩
theorem findIdx_map {α β : Type} (g : α → β) (p : β → Bool) (l : List α) : (l.map g).findIdx? p = l.findIdx? (fun x => p (g x)) := by
 induction l with
 | nil => rfl
 | cons x l ih => simp only [List.map_cons, List.findIdx?_cons, ih]
theorem findIdx_congr {α : Type} {p q : α → Bool} {l : List α} (h : ∀ x ∈ l, p x = q x) : l.findIdx? p = l.findIdx? q := by
 induction l with
 | nil => rfl
 | cons x l ih => simp only [List.findIdx?_cons, h x (by simp), ih fun y hy => h y (by simp [hy])]
theorem upOf_map {α β : Type} (f : α → β) (os : List (α × Option Tx)) (q : Tx) : upOf (os.map fun x => (f x.1, x.2)) q = upOf os q := by
 unfold upOf
 rw [findIdx_map]
theorem inoOf_map {α β : Type} [DecidableEq α] [DecidableEq β] (f : α → β) (os : List (α × Option Tx)) (o : α) (h : ∀ x ∈ os, f x.1 = f o → x.1 = o) : inoOf (os.map fun x => (f x.1, x.2)) (f o) = inoOf os o := by
 unfold inoOf
 rw [findIdx_map, findIdx_congr (q := fun x => decide (x.1 = o))]
 intro x hx
 exact decide_eq_decide.2 ⟨fun e => h x hx e, fun e => by rw [e]⟩
theorem newO_map {α β : Type} [DecidableEq α] [DecidableEq β] (f : α → β) (s : Bs α) (t : Tp α) (h : ∀ x ∈ s.os, f x.1 = f t.o → x.1 = t.o) : newO (s.map f) (t.map f) = (newO s t).map f := by
 unfold newO
 have e : (s.map f).os.any (fun x => decide (x.1 = (t.map f).o)) = s.os.any (fun x => decide (x.1 = t.o)) := by
  show (s.os.map _).any _ = _
  rw [List.any_map]
  apply Bool.eq_iff_iff.2
  rw [List.any_eq_true, List.any_eq_true]
  constructor
  ·rintro ⟨x, hx, e⟩
   exact ⟨x, hx, decide_eq_true (h x hx (of_decide_eq_true e))⟩
  ·rintro ⟨x, hx, e⟩
   refine ⟨x, hx, decide_eq_true ?_⟩
   show f x.1 = f t.o
   rw [of_decide_eq_true e]
 rw [e]
 split
 ·rfl
 ·simp [Bs.map, Tp.map]
  exact ⟨rfl, rfl⟩
theorem newO_mem {α : Type} [DecidableEq α] (s : Bs α) (t : Tp α) : ∀ x ∈ (newO s t).os, x ∈ s.os ∨ x.1 = t.o := by
 intro x hx
 unfold newO at hx
 split at hx
 ·exact Or.inl hx
 ·rcases List.mem_append.1 hx with h | h
  ·exact Or.inl h
  ·right
   rw [List.mem_singleton.1 h]
theorem bst_map {α β : Type} [DecidableEq α] [DecidableEq β] (f : α → β) (s : Bs α) (t : Tp α) (h : ∀ x ∈ s.os, f x.1 = f t.o → x.1 = t.o) : bst (s.map f) (t.map f) = (bst s t).map f := by
 have e := newO_map f s t h
 have h2 : ∀ x ∈ (newO s t).os, f x.1 = f t.o → x.1 = t.o := by
  intro x hx k
  rcases newO_mem s t x hx with h3 | h3
  ·exact h x h3 k
  ·exact h3
 have e1 : inoOf (newO (s.map f) (t.map f)).os (t.map f).o = inoOf (newO s t).os t.o := by
  rw [e]
  exact inoOf_map f _ _ h2
 have e2 : upOf (newO (s.map f) (t.map f)).os (upT (t.map f).p) = upOf (newO s t).os (upT t.p) := by
  rw [e]
  exact upOf_map f _ _
 unfold bst
 rw [e1, e2, e]
 rfl
theorem bld_map {α β : Type} [DecidableEq α] [DecidableEq β] (f : α → β) (root : No) (ts : List (Tp α)) (h : ∀ x ∈ ts, ∀ y ∈ ts, f x.o = f y.o → x.o = y.o) : bld root (ts.map (Tp.map f)) = bld root ts := by
 have key : ∀ (us vs : List (Tp α)) (s : Bs α), us ++ vs = ts → (∀ x ∈ s.os, ∃ t ∈ us, x.1 = t.o) → (vs.map (Tp.map f)).foldl bst (s.map f) = (vs.foldl bst s).map f := by
  intro us vs
  induction vs generalizing us with
  | nil => intros; rfl
  | cons t vs ih =>
   intro s e hs
   rw [List.map_cons, List.foldl_cons, List.foldl_cons, bst_map f s t, ih (us ++ [t]) (bst s t) (by rw [← e]; simp)]
   ·intro x hx
    rcases newO_mem s t x hx with h3 | h3
    ·obtain ⟨u, hu, k⟩ := hs x h3
     exact ⟨u, by simp [hu], k⟩
    ·exact ⟨t, by simp, h3⟩
   ·intro x hx k
    obtain ⟨u, hu, k2⟩ := hs x hx
    rw [k2] at k ⊢
    exact h u (by rw [← e]; simp [hu]) t (by rw [← e]; simp) k
 have := key [] ts ⟨[], [{ root with links := 2 }]⟩ rfl (fun x hx => by simp at hx)
 unfold bld
 have e : (⟨[], [{ root with links := 2 }]⟩ : Bs β) = (⟨[], [{ root with links := 2 }]⟩ : Bs α).map f := rfl
 rw [e, this]
 rfl
def plt (a b : Tx) : Prop := ord (spl a).1 (spl b).1 = -1
def rgtP (p : Tx) : Prop := (jnp (spl p).1).1 = p
theorem plt_irrefl (a : Tx) : ¬ plt a a := by unfold plt; rw [ord_self]; simp
theorem plt_trans {a b c : Tx} (h : plt a b) (k : plt b c) : plt a c := ord_trans h k
theorem plt_asymm {a b : Tx} (h : plt a b) : ¬ plt b a := fun k => plt_irrefl a (plt_trans h k)
theorem plt_total {a b : Tx} (ha : rgtP a) (hb : rgtP b) (h : a ≠ b) : plt a b ∨ plt b a := by
 unfold plt
 rcases ord_val (spl a).1 (spl b).1 with e | e | e
 ·exact Or.inl e
 ·exfalso
  have := ord_eq e
  exact h (by rw [← ha, ← hb, this])
 ·right
  rw [ord_flip, e]
theorem ord_neg {a b : List Tx} : ord a b < 0 ↔ ord a b = -1 := by rcases ord_val a b with e | e | e <;> rw [e] <;> decide
def nxt (l : List Tx) (done : List Nat) : Nat → Option Nat
 | 0 => none
 | k + 1 => if done.contains k = true ∨ l.getD k [] = [] then nxt l done k else
  match nxt l done k with
  | none => some k
  | some b => if ord (spl (l.getD k [])).1 (spl (l.getD b [])).1 < 0 then some k else some b
def ordr (l : List Tx) : Nat → List Nat → List Nat
 | 0, acc => acc
 | n + 1, acc => match nxt l acc l.length with
  | none => acc
  | some b => ordr l n (acc ++ [b])
def ordL (l : List Tx) : List Nat := ordr l (l.length + 1) []
structure Rt (l : List Tx) : Prop where
 right : ∀ p ∈ l, p ≠ [] → rgtP p
 once : ∀ i j : Nat, i < l.length → j < l.length → l.getD i [] = l.getD j [] → i = j
theorem getD_mem {l : List Tx} {i : Nat} (h : i < l.length) : l.getD i [] ∈ l := by
 rw [List.getD_eq_getElem?_getD, List.getElem?_eq_getElem h]
 exact List.getElem_mem h
theorem Rt.total {l : List Tx} (h : Rt l) {i j : Nat} (hi : i < l.length) (hj : j < l.length) (ni : l.getD i [] ≠ []) (nj : l.getD j [] ≠ []) (hn : i ≠ j) : plt (l.getD i []) (l.getD j []) ∨ plt (l.getD j []) (l.getD i []) :=
 plt_total (h.right _ (getD_mem hi) ni) (h.right _ (getD_mem hj) nj) fun e => hn (h.once i j hi hj e)
theorem nxt_none {l : List Tx} {done : List Nat} {k : Nat} (h : nxt l done k = none) : ∀ i, i < k → i ∈ done ∨ l.getD i [] = [] := by
 induction k with
 | zero => intro i hi; omega
 | succ k ih =>
  unfold nxt at h
  split at h
  ·rename_i hc
   intro i hi
   rcases Nat.lt_or_ge i k with h1 | h1
   ·exact ih h i h1
   ·obtain rfl : i = k := by omega
    rcases hc with hc | hc
    ·exact Or.inl (by simpa using hc)
    ·exact Or.inr hc
  ·split at h
   ·cases h
   ·split at h <;> cases h
theorem nxt_some {l : List Tx} {done : List Nat} {k b : Nat} (R : Rt l) (hk : k ≤ l.length) (h : nxt l done k = some b) : b < k ∧ b ∉ done ∧ l.getD b [] ≠ [] ∧ ∀ i, i < k → i ∉ done → l.getD i [] ≠ [] → i = b ∨ plt (l.getD b []) (l.getD i []) := by
 induction k generalizing b with
 | zero => simp [nxt] at h
 | succ k ih =>
  unfold nxt at h
  split at h
  ·rename_i hc
   obtain ⟨h1, h2, h3, h4⟩ := ih (by omega) h
   refine ⟨by omega, h2, h3, fun i hi hd hn => ?_⟩
   rcases Nat.lt_or_ge i k with h5 | h5
   ·exact h4 i h5 hd hn
   ·obtain rfl : i = k := by omega
    rcases hc with hc | hc
    ·exact absurd (by simpa using hc) hd
    ·exact absurd hc hn
  ·rename_i hc
   have hkd : k ∉ done := fun x => hc (Or.inl (by simpa using x))
   have hkn : l.getD k [] ≠ [] := fun x => hc (Or.inr x)
   cases hm : nxt l done k with
   | none =>
    rw [hm] at h
    injection h with h
    subst h
    refine ⟨by omega, hkd, hkn, fun i hi hd hn => ?_⟩
    rcases Nat.lt_or_ge i k with h5 | h5
    ·rcases nxt_none hm i h5 with h6 | h6
     ·exact absurd h6 hd
     ·exact absurd h6 hn
    ·exact Or.inl (by omega)
   | some b' =>
    rw [hm] at h
    obtain ⟨h1, h2, h3, h4⟩ := ih (by omega) hm
    simp only at h
    split at h
    ·rename_i hlt
     injection h with h
     subst h
     have hlt' : plt (l.getD k []) (l.getD b' []) := ord_neg.1 hlt
     refine ⟨by omega, hkd, hkn, fun i hi hd hn => ?_⟩
     rcases Nat.lt_or_ge i k with h5 | h5
     ·rcases h4 i h5 hd hn with rfl | h6
      ·exact Or.inr hlt'
      ·exact Or.inr (plt_trans hlt' h6)
     ·exact Or.inl (by omega)
    ·rename_i hlt
     injection h with h
     subst h
     refine ⟨by omega, h2, h3, fun i hi hd hn => ?_⟩
     rcases Nat.lt_or_ge i k with h5 | h5
     ·exact h4 i h5 hd hn
     ·obtain rfl : i = k := by omega
      right
      rcases R.total (i := b') (j := i) (by omega) (by omega) h3 hkn (by omega) with h6 | h6
      ·exact h6
      ·exact absurd (ord_neg.2 h6) hlt
structure Acc (l : List Tx) (acc : List Nat) : Prop where
 lt : ∀ i ∈ acc, i < l.length ∧ l.getD i [] ≠ []
 sorted : acc.Pairwise fun i j => plt (l.getD i []) (l.getD j [])
 ahead : ∀ i ∈ acc, ∀ j, j < l.length → j ∉ acc → l.getD j [] ≠ [] → plt (l.getD i []) (l.getD j [])
theorem Acc.nil (l : List Tx) : Acc l [] := ⟨fun i h => (by cases h), List.Pairwise.nil, fun i h => (by cases h)⟩
theorem Acc.next {l : List Tx} {acc : List Nat} {b : Nat} (R : Rt l) (h : Acc l acc) (hb : nxt l acc l.length = some b) : Acc l (acc ++ [b]) := by
 obtain ⟨h1, h2, h3, h4⟩ := nxt_some R (Nat.le_refl _) hb
 refine ⟨fun i hi => ?_, ?_, fun i hi j hj hn hr => ?_⟩
 ·rcases List.mem_append.1 hi with h5 | h5
  ·exact h.lt i h5
  ·obtain rfl := List.mem_singleton.1 h5
   exact ⟨h1, h3⟩
 ·rw [List.pairwise_append]
  refine ⟨h.sorted, List.pairwise_singleton _ _, fun i hi j hj => ?_⟩
  obtain rfl := List.mem_singleton.1 hj
  exact h.ahead i hi j h1 h2 h3
 ·have hn1 : j ∉ acc := fun x => hn (by simp [x])
  have hn2 : j ≠ b := fun x => hn (by simp [x])
  rcases List.mem_append.1 hi with h5 | h5
  ·exact h.ahead i h5 j hj hn1 hr
  ·obtain rfl := List.mem_singleton.1 h5
   rcases h4 j hj hn1 hr with h6 | h6
   ·exact absurd h6 hn2
   ·exact h6
def left (l : List Tx) (acc : List Nat) : Nat := ((List.range l.length).filter fun i => !acc.contains i && !(l.getD i [] == [])).length
theorem left_next {l : List Tx} {acc : List Nat} {b : Nat} (hb : b < l.length) (h2 : b ∉ acc) (h3 : l.getD b [] ≠ []) : left l (acc ++ [b]) < left l acc := by
 unfold left
 have e : ((List.range l.length).filter fun i => !(acc ++ [b]).contains i && !(l.getD i [] == [])) = ((List.range l.length).filter fun i => !acc.contains i && !(l.getD i [] == [])).filter fun i => !(i == b) := by
  rw [List.filter_filter]
  apply List.filter_congr
  intro i _
  cases h : (i == b) with
  | true =>
   have := eq_of_beq h
   subst this
   simp
  | false =>
   have hne : i ≠ b := fun e => by subst e; simp at h
   simp [hne]
 rw [e]
 apply List.length_filter_lt_length_iff_exists.2
 refine ⟨b, ?_, by simp⟩
 rw [List.mem_filter]
 refine ⟨List.mem_range.2 hb, ?_⟩
 simp [h2]
 exact h3
theorem ordr_acc {l : List Tx} (R : Rt l) (n : Nat) (acc : List Nat) (h : Acc l acc) (hn : left l acc < n) : Acc l (ordr l n acc) ∧ ∀ i, i < l.length → l.getD i [] ≠ [] → i ∈ ordr l n acc := by
 induction n generalizing acc with
 | zero => omega
 | succ n ih =>
  unfold ordr
  cases hm : nxt l acc l.length with
  | none =>
   refine ⟨h, fun i hi hr => ?_⟩
   rcases nxt_none hm i hi with h1 | h1
   ·exact h1
   ·exact absurd h1 hr
  | some b =>
   obtain ⟨h1, h2, h3, h4⟩ := nxt_some R (Nat.le_refl _) hm
   have := left_next h1 h2 h3
   exact ih (acc ++ [b]) (h.next R hm) (by omega)
theorem left_le (l : List Tx) (acc : List Nat) : left l acc ≤ l.length := by
 unfold left
 exact Nat.le_trans (List.length_filter_le _ _) (by simp)
def psL (l : List Tx) : List Tx := (ordL l).map fun i => l.getD i []
theorem psL_sorted {l : List Tx} (R : Rt l) : (psL l).Pairwise plt := by
 have := (ordr_acc R (l.length + 1) [] (Acc.nil l) (by have := left_le l []; omega)).1.sorted
 unfold psL ordL
 rw [List.pairwise_map]
 exact this
theorem psL_mem {l : List Tx} (R : Rt l) (p : Tx) : p ∈ psL l ↔ p ∈ l ∧ p ≠ [] := by
 obtain ⟨h1, h2⟩ := ordr_acc R (l.length + 1) [] (Acc.nil l) (by have := left_le l []; omega)
 unfold psL
 rw [List.mem_map]
 constructor
 ·rintro ⟨i, hi, rfl⟩
  obtain ⟨k1, k2⟩ := h1.lt i hi
  exact ⟨getD_mem k1, k2⟩
 ·rintro ⟨hp, hn⟩
  obtain ⟨i, hi, e⟩ := List.mem_iff_getElem.1 hp
  have e2 : l.getD i [] = p := by rw [List.getD_eq_getElem?_getD, List.getElem?_eq_getElem hi, e]; rfl
  exact ⟨i, h2 i hi (by rw [e2]; exact hn), e2⟩
theorem sorted_eq {a b : List Tx} (ha : a.Pairwise plt) (hb : b.Pairwise plt) (h : ∀ p, p ∈ a ↔ p ∈ b) : a = b := by
 induction a generalizing b with
 | nil =>
  cases b with
  | nil => rfl
  | cons q b => exact absurd ((h q).2 (by simp)) (by simp)
 | cons p a ih =>
  cases b with
  | nil => exact absurd ((h p).1 (by simp)) (by simp)
  | cons q b =>
   rw [List.pairwise_cons] at ha hb
   have e : p = q := by
    rcases List.mem_cons.1 ((h p).1 (by simp)) with e | e
    ·exact e
    ·rcases List.mem_cons.1 ((h q).2 (by simp)) with e2 | e2
     ·exact e2.symm
     ·exact absurd (ha.1 q e2) (plt_asymm (hb.1 p e))
   subst e
   rw [ih ha.2 hb.2 fun x => ?_]
   constructor
   ·intro hx
    rcases List.mem_cons.1 ((h x).1 (by simp [hx])) with e | e
    ·subst e; exact absurd (ha.1 x hx) (plt_irrefl x)
    ·exact e
   ·intro hx
    rcases List.mem_cons.1 ((h x).2 (by simp [hx])) with e | e
    ·subst e; exact absurd (hb.1 x hx) (plt_irrefl x)
    ·exact e
end Go.Proofs.YtlehncfehoelbaaGreatDoor
