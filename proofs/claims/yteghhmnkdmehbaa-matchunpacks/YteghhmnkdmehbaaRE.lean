/- The document's Decode. -/
import Derived.Test.YteghhmnkdmehbaaRF
namespace Go.Proofs.Yteghhmnkdmehbaa
open Go.RowKit
set_option linter.unusedSimpArgs false
set_option linter.unusedVariables false

def DecPost (w : World) (r : List Int × List Sq × Int × Int) (e : Ending) (w' : World) : Prop :=
  ∃ vo vl ss, e = .returned (.tuple #[vo, vl, .int .i64 r.2.2.1, .int .i64 r.2.2.2]) ∧ St w w' vo vl r.1 ss r.2.1
theorem dec_bad (w wr : World) (er q : Int) (h : w.grownBy wr none) : DecPost w ([], [], er, q) (.returned (.tuple #[.slice none 0 0, .slice none 0 0, .int .i64 er, .int .i64 q])) wr :=
  ⟨_, _, [], rfl, World.ownsRow_nil _ _ _ _, World.ownsRow_nil _ _ _ _, h, fun x hx => by simp at hx, .nil⟩
theorem dec_succ_bad {bs : List Int} {most : Int} {f : Nat} {out : List Int} {sq : List Sq} {p : Nat} {e q : Int} (h : dst bs most out.length p = .bad e q) : dec bs most (f + 1) out sq p = ([], [], e, q) := by
  rw [dec, h]
/-- the first length's four bits -/
theorem tok_hi {x : Int} (h : 0 ≤ x ∧ x ≤ 255) : 0 ≤ x / 16 ∧ x / 16 ≤ 15 := by omega
theorem Try.infoSeq : (Try.prog.info? 51).map (fun i => (i.zero, i.size, i.bytes)) = some (some (.agg #[.slice none 0 0, .int .i64 0, .int .i64 0]), 3, 40) := by kernel_rfl
theorem cell_three (w : World) (t : TypeId) (a b c : Value) (j : Nat) (u : Value) (h : ([a, b, c])[j]? = some u) : (w.alloc (.cells #[a, b, c] t)).cell? ((⟨w.heap.size, 0, none⟩ : Addr).add j) = some u := by
  match j, h with
  | 0, h => simp at h; subst h; simp [Addr.add]
  | 1, h => simp at h; subst h; simp [Addr.add]
  | 2, h => simp at h; subst h; simp [Addr.add]
  | j + 3, h => simp at h
theorem sq_one (s : SqV) : ∀ u ∈ s.cells, u.oneCell' = true := by
  intro u hu
  simp [SqV.cells] at hu
  rcases hu with rfl | rfl | rfl <;> rfl
theorem Box.c3 {W : World} {g : Nat} {T : TypeId} {a b c : Value} (h : Box W g T [a, b, c]) : W.cell? ⟨g, 0, none⟩ = some a ∧ W.cell? ⟨g, 1, none⟩ = some b ∧ W.cell? ⟨g, 2, none⟩ = some c := ⟨h.c 0, h.c 1, h.c 2⟩
theorem dec_succ_last {bs : List Int} {most : Int} {f : Nat} {out : List Int} {sq : List Sq} {p k n : Nat} (h : dst bs most out.length p = .last k n) : dec bs most (f + 1) out sq p = (out ++ (bs.drop k).take n, sq ++ [((bs.drop k).take n, 0, 0)], 0, (bs.length : Int)) := by
  rw [dec, h]
theorem dec_succ_more {bs : List Int} {most : Int} {f : Nat} {out : List Int} {sq : List Sq} {p k n o m q : Nat} (h : dst bs most out.length p = .more k n o m q) : dec bs most (f + 1) out sq p = dec bs most f (cpy o m (out ++ (bs.drop k).take n)) (sq ++ [((bs.drop k).take n, (o : Int), (m : Int))]) q := by
  rw [dec, h]
theorem tok_lo {x : Int} (h : 0 ≤ x ∧ x ≤ 255) : 0 ≤ x % 16 ∧ x % 16 ≤ 15 := by omega

set_option maxRecDepth 4000 in
set_option maxHeartbeats 2000000 in
theorem decode_any (a : Option Addr) (len cap : Nat) (bs : List Int) (most : Int) (w : World) (R : Row w a len bs) (hl : len ≤ 16777216) (hc : len ≤ cap) (hcm : cap ≤ 9223372036854775807) (hm : 0 ≤ most ∧ most ≤ 1048576) :
    Calls Try.prog 22 #[.slice a len cap, .int .i64 most] w (DecPost w (dec bs most (len + 1) [] [] 0)) := by
  obtain ⟨i5, hi, hz0, hz1, hz2⟩ := info_parts Try.info5
  obtain ⟨i6, hi6, hy0, hy1, hy2⟩ := info_parts Try.infoSeq
  have hlb := R.len_eq
  generalize hres : dec bs most (len + 1) [] [] 0 = res
  go_enter Try.func22, Try.ntmps22
  go_wp2
  go_loopw [8, 9, 10] (fun vo vl vp wr => ∃ (p f : Nat) (out : List Int) (sq : List Sq) (ss : List SqV), vp = .int .i64 p ∧ p ≤ len ∧ ss.length ≤ p ∧ len ≤ f + p ∧ (out.length : Int) ≤ most ∧ Hid (St w wr vo vl out ss sq) ∧ Hid (dec bs most (f + 1) out sq p = res)) (fun _ _ vp _ => len + 1 - (intOf vp).toNat)
  case atStart => exact ⟨0, len, [], [], [], rfl, Nat.zero_le _, Nat.le_refl _, Nat.le_refl _, hm.1, ⟨World.ownsRow_nil _ _ _ _, World.ownsRow_nil _ _ _ _, World.grownBy.refl _ _, fun x hx => by simp at hx, .nil⟩, hres⟩
  case round =>
    clear hres
    obtain ⟨p, f, out, sq, ss, rfl, hp, hss, hf, ho, HS, HD⟩ := hrel
    by_cases k1 : p < len
    · obtain ⟨b, off, rfl, hcl⟩ := (R.grown HS.out.g).cells (by omega)
      have ca := hcl p k1
      have hx := R.byt.getD p
      have hlen := length_any (some ⟨b, off, none⟩) len cap bs (bs.getD p 0 / 16) (p + 1) wr (R.grown HS.out.g) hl (tok_hi hx) (by omega)
      rw [show ((p + 1 : Nat) : Int) = (p : Int) + 1 by omega] at hlen
      have hq := lng_in (n := bs.getD p 0 / 16) (p := p + 1) R.byt (tok_hi hx) (by omega)
      obtain ⟨oa, oc, rfl, oo1, oo2, oo3⟩ := owns_form HS.out.oo
      have HC : Hid _ := hcl
      clear hcl
      have hdst : dst bs most out.length p = (if (lng bs (bs.getD p 0 / 16) (p + 1)).1 < 0 then .bad 6 bs.length
        else if most - out.length < (lng bs (bs.getD p 0 / 16) (p + 1)).1 then .bad 2 p
        else if (bs.length : Int) - (lng bs (bs.getD p 0 / 16) (p + 1)).2 < (lng bs (bs.getD p 0 / 16) (p + 1)).1 then .bad 6 bs.length
        else dst.dst2 bs most out.length p (lng bs (bs.getD p 0 / 16) (p + 1)).2.toNat (lng bs (bs.getD p 0 / 16) (p + 1)).1.toNat) := by
        conv => lhs; unfold dst
        rw [if_neg (by omega)]
      rw [hlb] at hdst
      generalize lng bs (bs.getD p 0 / 16) (p + 1) = q at hlen hq hdst
      obtain ⟨q1, q2⟩ := q
      simp only at hlen hq hdst
      have HQ : Hid _ := hdst
      have HX : Hid _ := hx
      clear hdst
      generalize hxe : bs.getD p 0 = x at ca hx hlen
      have HXE : Hid _ := hxe
      clear hxe
      go_wp2_with fail
      refine hlen.mono ?_
      rintro e w' ⟨rfl, rfl⟩
      clear hlen
      by_cases k2 : q1 < 0
      · have e := HQ.out
        rw [if_pos k2] at e
        have hd := HD.out
        rw [dec_succ_bad e] at hd
        subst hd
        have hg := HS.out.g
        clear HS HD HQ e
        go_wp2
        try simp only [Exit.inBlock, Exit.then]
        refine bodyPost_ret (results_tmp4 rfl _ _ _) rfl ?_
        exact dec_bad _ _ _ _ hg
      · by_cases k3 : most - out.length < q1
        · have e := HQ.out
          rw [if_neg k2, if_pos k3] at e
          have hd := HD.out
          rw [dec_succ_bad e] at hd
          subst hd
          have hg := HS.out.g
          clear HS HD HQ e
          go_wp2
          try simp only [Exit.inBlock, Exit.then]
          refine bodyPost_ret (results_tmp4 rfl _ _ _) rfl ?_
          exact dec_bad _ _ _ _ hg
        · by_cases k4 : (len : Int) - q2 < q1
          · have e := HQ.out
            rw [if_neg k2, if_neg k3, if_pos k4] at e
            have hd := HD.out
            rw [dec_succ_bad e] at hd
            subst hd
            have hg := HS.out.g
            clear HS HD HQ e
            go_wp2
            try simp only [Exit.inBlock, Exit.then]
            refine bodyPost_ret (results_tmp4 rfl _ _ _) rfl ?_
            exact dec_bad _ _ _ _ hg
          · have hq' : 0 ≤ q1 ∧ p + 1 ≤ q2 ∧ q2 + q1 ≤ len := by omega
            clear hq
            obtain ⟨n, rfl⟩ := Int.eq_ofNat_of_zero_le (by omega : 0 ≤ q1)
            obtain ⟨k, rfl⟩ := Int.eq_ofNat_of_zero_le (by omega : 0 ≤ q2)
            have e := HQ.out
            rw [if_neg k2, if_neg k3, if_neg k4, Int.toNat_natCast, Int.toNat_natCast] at e
            have HE : Hid _ := e
            clear HQ e
            have k5 : p + 1 ≤ k := by omega
            have k6 : k + n ≤ len := by omega
            have k7 : (out.length : Int) + n ≤ most := by omega
            clear k2 k3 k4 hq'
            go_wp2_with (refine slice_here ?_; refine wpList_cut8 rfl _ _ _ 22 rfl Try.underlying22 i5 hi hz1 b off len cap k n _ _ rfl rfl rfl (by go_num) (by go_num) (by omega) ?_)
            intro o' ho'
            have RL := R.piece k n o' k6 ho'
            have M0 := HS.out.mi [.slice (some ⟨b, o', none⟩) n (cap - k), .int .i64 0, .int .i64 0]
            have RW := (RL.grown HS.out.g).grown (World.grownBy_alloc w' (.cells #[.slice (some ⟨b, o', none⟩) n (cap - k), .int .i64 0, .int .i64 0] 51) none)
            have HL : Hid _ := RL
            have HM : Hid _ := M0
            have ho1 := M0.st.oo
            have hsz := M0.st.g.size
            clear M0 RL ho' HS
            go_wp2_with (at_builtin; refine wpList_append8 rfl _ _ 22 rfl w.heap.size i5 Try.underlying22 hi hz0 hz1 hz2 _ out.length (bv out) rfl ho1 _ n _ _ rfl RW (fun e => by cases e) (by omega) hsz ?_)
            intro v1 w1 o1 g1
            have hll : ((bs.drop k).take n).length = n := by simp; omega
            have M1 := HM.out.out o1 ((R.byt.drop k).take n) hll g1
            obtain ⟨a1, c1, rfl, f1, f2, f3⟩ := owns_form o1
            have HLL : Hid _ := hll
            clear HM o1 g1 ho1 hsz RW hll ca oo1 oo2 oo3
            generalize w'.heap.size = g0 at M1 ⊢
            by_cases k8 : k + n = len
            · have e := HE.out
              unfold dst.dst2 at e
              rw [if_pos (by omega)] at e
              have hd := HD.out
              rw [dec_succ_last e] at hd
              have hol := M1.st.ol.alloc (.cells #[.slice (some ⟨b, o', none⟩) n (cap - k), .int .i64 0, .int .i64 0] 51)
              have hsz := (M1.alloc (.cells #[.slice (some ⟨b, o', none⟩) n (cap - k), .int .i64 0, .int .i64 0] 51)).st.g.size
              obtain ⟨b0, b1, b2⟩ := M1.bx.c3
              have HM : Hid _ := M1
              have HD2 : Hid _ := hd
              have hb1 : (ss.length + 1) * 40 ≤ 140737488355328 := by omega
              have hb2 : ss.length + 1 ≤ maxLen := by unfold maxLen; omega
              clear M1 HE HD e hd
              go_wp2_with (at_builtin; (refine wpList_append_own _ rfl _ _ 46 rfl w.heap.size 51 i6 _ 3 40 Try.underlying46 hi6 hy0 hy1 hy2 rfl (by decide) _ ss.length (sqv ss) rfl hol ⟨w1.heap.size, 0, none⟩ 1 1 (SqV.cells ⟨some ⟨b, o', none⟩, n, cap - k, 0, 0⟩) rfl rfl (cell_three _ _ _ _ _) (sq_one _) hb2 hb1 hsz ?_))
              intro v2 w2 o2 g2 _
              have hok : SqOk w ⟨some ⟨b, o', none⟩, n, cap - k, 0, 0⟩ ((bs.drop k).take n, 0, 0) := ⟨HL.out, rfl, rfl, (fun e => by cases e), (by show n ≤ cap - k; omega), (by show cap - k ≤ maxLen; unfold maxLen; omega)⟩
              have S2 := (HM.out.alloc _).st.seq o2 hok g2
              have HS : Hid _ := S2
              clear S2 hok o2 g2 HM hol hsz b0 b1 b2 hb1 hb2
              go_wp2
              try simp only [Exit.inBlock, Exit.then]
              refine bodyPost_ret (results_tmp4 rfl _ _ _) rfl ?_
              rw [← HD2.out]
              exact ⟨_, _, _, by rw [hlb]; rfl, HS.out⟩
            · by_cases k9 : k + n + 1 = len
              · have e := HE.out
                unfold dst.dst2 at e
                rw [if_neg (by omega), if_pos (by omega), hlb] at e
                have hd := HD.out
                rw [dec_succ_bad e] at hd
                subst hd
                have hg := M1.st.g
                clear M1 HE HD e
                go_wp2
                try simp only [Exit.inBlock, Exit.then]
                refine bodyPost_ret (results_tmp4 rfl _ _ _) rfl ?_
                exact dec_bad _ _ _ _ hg
              · have RW := R.grown M1.st.g
                obtain ⟨b', off', e, hcl⟩ := RW.cells (by omega)
                injection e with e
                injection e with e1 e2
                subst e1 e2
                have k10 : k + n + 1 < len := by omega
                have ca := hcl (k + n) (by omega)
                have cb := hcl (k + n + 1) (by omega)
                have hxa := R.byt.getD (k + n)
                have hxb := R.byt.getD (k + n + 1)
                have ct := hcl p k1
                rw [HXE.out] at ct
                obtain ⟨b0, b1, b2⟩ := M1.bx.c3
                have fr := M1.bx.f 1
                have HM : Hid _ := M1
                clear hcl RW M1
                go_wp2_with fail
                obtain ⟨r, hr⟩ : ∃ r : Nat, r = k + n := ⟨_, rfl⟩
                rw [show (k : Int) + n = (r : Int) by omega]
                rw [← hr] at ca cb hxa hxb k10
                have HR : Hid _ := hr
                clear hr k8 k9
                generalize hya : bs.getD r 0 = ya at ca hxa
                generalize hyb : bs.getD (r + 1) 0 = yb at cb hxb
                have HYA : Hid _ := hya
                have HYB : Hid _ := hyb
                clear hya hyb
                go_region
                have M2 := (HM.out.set 1 (.int .i64 (ya + 256 * yb))).drew
                simp only [List.set_cons_succ, List.set_cons_zero] at M2
                clear HM b0 b1 b2 fr ca cb ct
                generalize (w1.setCell ⟨g0, 1, none⟩ (.int .i64 (ya + 256 * yb))).drew = w2 at M2 ⊢
                obtain ⟨y, hy⟩ := Int.eq_ofNat_of_zero_le (by omega : 0 ≤ ya + 256 * yb)
                rw [hy] at M2
                have hyy : y ≤ 65535 := by omega
                have e3 := HE.out
                unfold dst.dst2 at e3
                rw [if_neg (by have := HR.out; omega), if_neg (by have := HR.out; omega), ← HR.out, HYA.out, HYB.out, hy, hlb] at e3
                have HE2 : Hid _ := e3
                clear e3 HE hy HYA HYB
                obtain ⟨b0, b1, b2⟩ := M2.bx.c3
                have hg := M2.st.g
                by_cases z1 : y = 0
                · subst z1
                  have e3 := HE2.out
                  rw [if_pos (by omega)] at e3
                  have hd := HD.out
                  rw [dec_succ_bad e3] at hd
                  subst hd
                  clear M2 HE2 HD e3
                  go_wp2
                  try simp only [Exit.inBlock, Exit.then]
                  refine bodyPost_ret (results_tmp4 rfl _ _ _) rfl ?_
                  exact dec_bad _ _ _ _ hg
                · by_cases z2 : ((out.length + n : Nat) : Int) < y
                  · have e3 := HE2.out
                    rw [if_pos (Or.inr z2)] at e3
                    have hd := HD.out
                    rw [dec_succ_bad e3] at hd
                    subst hd
                    clear M2 HE2 HD e3
                    go_wp2
                    try simp only [Exit.inBlock, Exit.then]
                    refine bodyPost_ret (results_tmp4 rfl _ _ _) rfl ?_
                    exact dec_bad _ _ _ _ hg
                  · have e3 := HE2.out
                    rw [if_neg (by omega)] at e3
                    have RW := R.grown hg
                    have hlen := length_any (some ⟨b, off, none⟩) len cap bs (x % 16) (r + 2) w2 RW hl (tok_lo hx) (by omega)
                    have hq := lng_in (n := x % 16) (p := r + 2) R.byt (tok_lo hx) (by omega)
                    rw [show ((r + 2 : Nat) : Int) = (r : Int) + 2 by omega] at hlen
                    rw [HXE.out] at e3
                    obtain ⟨b', off', e, hcl⟩ := RW.cells (by omega)
                    injection e with e
                    injection e with e1 e2
                    subst e1 e2
                    have ct := hcl p k1
                    rw [HXE.out] at ct
                    generalize lng bs (x % 16) (r + 2) = q at hlen hq e3
                    obtain ⟨q1, q2⟩ := q
                    simp only at hlen hq e3
                    have HE3 : Hid _ := e3
                    have HM : Hid _ := M2
                    have z2' : y ≤ out.length + n := by omega
                    clear e3 HE2 M2 hcl RW z2
                    go_wp2_with fail
                    · exfalso
                      rename_i h _
                      rcases h with h | h
                      · simp at h; omega
                      · omega
                    refine hlen.mono ?_
                    rintro e w3 ⟨rfl, rfl⟩
                    clear hlen ct
                    by_cases z3 : q1 < 0
                    · have e3 := HE3.out
                      rw [if_pos z3] at e3
                      have hd := HD.out
                      rw [dec_succ_bad e3] at hd
                      subst hd
                      clear HE3 HD e3 HM
                      go_wp2
                      try simp only [Exit.inBlock, Exit.then]
                      refine bodyPost_ret (results_tmp4 rfl _ _ _) rfl ?_
                      exact dec_bad _ _ _ _ hg
                    · have f0 := HM.out.bx.f 2
                      have M3 := HM.out.set 2 (.int .i64 (q1 + 4))
                      simp only [List.set_cons_succ, List.set_cons_zero] at M3
                      have hq' : 0 ≤ q1 ∧ q1 ≤ 15 + 255 * len ∧ r + 2 ≤ q2 ∧ q2 ≤ len := by omega
                      clear hq HM
                      have hg3 := M3.st.g
                      have HM3 : Hid _ := M3
                      clear M3
                      by_cases z4 : most - ((out.length + n : Nat) : Int) < q1 + 4
                      · have e3 := HE3.out
                        rw [if_neg z3, if_pos z4] at e3
                        have hd := HD.out
                        rw [dec_succ_bad e3] at hd
                        subst hd
                        clear HE3 HD e3 HM3
                        go_wp2
                        try simp only [Exit.inBlock, Exit.then]
                        refine bodyPost_ret (results_tmp4 rfl _ _ _) rfl ?_
                        exact dec_bad _ _ _ _ hg3
                      · have e3 := HE3.out
                        rw [if_neg z3, if_neg z4] at e3
                        obtain ⟨m, hm'⟩ := Int.eq_ofNat_of_zero_le (by omega : 0 ≤ q1 + 4)
                        obtain ⟨s', rfl⟩ := Int.eq_ofNat_of_zero_le (by omega : 0 ≤ q2)
                        obtain rfl : q1 = (m : Int) - 4 := by omega
                        rw [show (m : Int) - 4 + 4 = m by omega, Int.toNat_natCast, Int.toNat_natCast, Int.toNat_natCast] at e3
                        have hd := HD.out
                        rw [dec_succ_more e3] at hd
                        have HD2 : Hid _ := hd
                        have M3 := HM3.out
                        rw [show (m : Int) - 4 + 4 = m by omega] at M3
                        have k11 : r + 2 ≤ s' := by omega
                        have k12 : s' ≤ len := by omega
                        have k13 : ((out.length + n + m : Nat) : Int) ≤ most := by omega
                        have k14 : 4 ≤ m := by omega
                        clear hd e3 HE3 HD hm' hq' z3 z4 hg3 HM3
                        have HM3 : Hid _ := M3
                        clear M3
                        have HLn : Hid (∀ j, (cpy y j (out ++ (bs.drop k).take n)).length = out.length + n + j) := by
                          intro j; rw [cpy_len, List.length_append, HLL.out]
                        obtain ⟨f', rfl⟩ : ∃ f', f = f' + 1 := ⟨f - 1, by omega⟩
                        go_wp2_with fail
                        clear b0 b1 b2 f0
                        go_loopw [8, 16] (fun vo vi wr => ∃ j : Nat, vi = .int .i64 j ∧ j ≤ m ∧ Hid (Mi w wr vo u9 (cpy y j (out ++ (bs.drop k).take n)) ss sq g0 [.slice (some ⟨b, o', none⟩) n (cap - k), .int .i64 y, .int .i64 m])) (fun _ vi _ => m - (intOf vi).toNat)
                        case atStart => exact ⟨0, rfl, Nat.zero_le _, HM3⟩
                        case round =>
                          clear HM3
                          obtain ⟨j, rfl, hj, HM⟩ := hrel
                          obtain ⟨b0, b1, b2⟩ := HM.out.bx.c3
                          have hoo := HM.out.st.oo
                          have hbo := HM.out.st.b
                          rw [HLn.out j] at hoo
                          obtain ⟨oa', oc', rfl, w1', w2', w3'⟩ := owns_form hoo
                          by_cases hjm : j < m
                          · obtain ⟨ga, rfl, hga⟩ : ∃ g, oa' = some ⟨g, 0, none⟩ ∧ w.heap.size ≤ g := by
                              rcases w3' with ⟨_, h, _⟩ | h
                              · omega
                              · exact h
                            obtain ⟨d, hd⟩ : ∃ d, out.length + n + j = d + y := ⟨out.length + n + j - y, by omega⟩
                            obtain ⟨a7, c7, e7, R7⟩ := owns_row hoo hbo (by unfold maxLen; omega)
                            injection e7 with e7 _ _
                            subst e7
                            obtain ⟨b8, o8, e8, hc8⟩ := R7.cells (by omega)
                            injection e8 with e8
                            injection e8 with e8 e9
                            subst e8 e9
                            have cz := hc8 d (by omega)
                            have hzb := hbo.getD d
                            have hsn := cpy_snoc y j (out ++ (bs.drop k).take n)
                            rw [HLn.out j, hd, show d + y - y = d by omega] at hsn
                            generalize (cpy y j (out ++ (bs.drop k).take n)).getD d 0 = z at cz hzb hsn
                            rw [Nat.zero_add] at cz
                            have HSN : Hid _ := hsn
                            have hb1 : (d + y + 1) * 1 ≤ 140737488355328 := by omega
                            have hb2 : d + y + 1 ≤ maxLen := by unfold maxLen; omega
                            have hsz := (HM.out.alloc (.cells #[.int .u8 z] 5)).st.g.size
                            rw [hd] at HM hoo w1' ⊢
                            have hown := hoo.alloc (.cells #[.int .u8 z] 5)
                            have HDY : Hid _ := hd
                            clear hsn hd hc8 R7 hoo hbo w3' hga
                            unfold maxLen at w2'
                            go_wp2_with (at_builtin; (refine wpList_append_own _ rfl _ _ 22 rfl w.heap.size 5 i5 (.int .u8 0) 1 1 Try.underlying22 hi hz0 hz1 hz2 rfl (by decide) _ (d + y) _ rfl hown ⟨wr.heap.size, 0, none⟩ 1 1 [.int .u8 z] rfl rfl (cell_one _ _ _) (by simp [Value.oneCell']) hb2 hb1 hsz ?_))
                            intro v' w5 o5 g5 _
                            have M5 := (HM.out.alloc _).out (n := 1) (x := [z]) (by rw [HLn.out j, HDY.out]; exact o5) (fun t ht => by simp at ht; subst ht; exact hzb) rfl g5
                            rw [← HSN.out] at M5
                            have HM5 : Hid _ := M5
                            clear M5 o5 g5 HM hown hsz hb1 hb2 cz b0 b1 b2 HSN
                            go_wp2
                            go_roundw
                            case rel => exact ⟨j + 1, by go_num, by omega, HM5⟩
                            case measure => simp [intOf]; omega
                          · obtain rfl : j = m := by omega
                            have hol := HM.out.st.ol.alloc (.cells #[.slice (some ⟨b, o', none⟩) n (cap - k), .int .i64 y, .int .i64 j] 51)
                            have hsz := (HM.out.alloc (.cells #[.slice (some ⟨b, o', none⟩) n (cap - k), .int .i64 y, .int .i64 j] 51)).st.g.size
                            have hb1 : (ss.length + 1) * 40 ≤ 140737488355328 := by omega
                            have hb2 : ss.length + 1 ≤ maxLen := by unfold maxLen; omega
                            clear hoo hbo w1' w2' w3'
                            go_wp2_with (at_builtin; (refine wpList_append_own _ rfl _ _ 46 rfl w.heap.size 51 i6 _ 3 40 Try.underlying46 hi6 hy0 hy1 hy2 rfl (by decide) _ ss.length (sqv ss) rfl hol ⟨wr.heap.size, 0, none⟩ 1 1 (SqV.cells ⟨some ⟨b, o', none⟩, n, cap - k, y, j⟩) rfl rfl (cell_three _ _ _ _ _) (sq_one _) hb2 hb1 hsz ?_))
                            intro v2 w5 o2 g2 _
                            have hok : SqOk w ⟨some ⟨b, o', none⟩, n, cap - k, y, j⟩ ((bs.drop k).take n, (y : Int), (j : Int)) := ⟨HL.out, rfl, rfl, (fun e => by cases e), (by show n ≤ cap - k; omega), (by show cap - k ≤ maxLen; unfold maxLen; omega)⟩
                            have S2 := (HM.out.alloc _).st.seq o2 hok g2
                            have HS : Hid _ := S2
                            have hln := HLn.out j
                            have HLJ : Hid _ := hln
                            have k15 : p + 3 ≤ s' := by have := HR.out; omega
                            clear S2 hok o2 g2 HM hol hsz b0 b1 b2 hb1 hb2 hln
                            go_wp2
                            go_roundw
                            case rel => exact ⟨s', f', _, _, _, by go_num, k12, by simp; omega, by omega, by rw [HLJ.out]; omega, HS, HD2⟩
                            case measure => simp [intOf]; omega
    · have e : dst bs most out.length p = .bad 6 len := by unfold dst; rw [if_pos (by omega), hlb]
      have hd := HD.out
      rw [dec_succ_bad e] at hd
      subst hd
      have hg := HS.out.g
      clear HS HD e
      go_wp2
      try simp only [Exit.inBlock, Exit.then]
      refine bodyPost_ret (results_tmp4 rfl _ _ _) rfl ?_
      exact dec_bad _ _ _ _ hg
end Go.Proofs.Yteghhmnkdmehbaa
