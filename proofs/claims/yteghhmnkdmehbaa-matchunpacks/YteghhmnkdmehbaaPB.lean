/- The program's walk through a block's sequences, whatever takes them. -/
import Derived.Test.YteghhmnkdmehbaaPA
import Derived.Test.YteghhmnkdmehbaaRE
import Derived.Laws.EntriesVeiled
import Derived.WalkMore
namespace Go.Proofs.Yteghhmnkdmehbaa
open Go.RowKit
set_option linter.unusedSimpArgs false
set_option linter.unusedVariables false

theorem pass_any (v : Value) (s : SqV) (w : World) (hv : v = .agg #[.slice s.a s.n s.c, .int .i64 s.off, .int .i64 s.m]) : Calls Try.prog 33 #[v] w fun e w' => e = .returned (.tuple #[]) ∧ w.grownBy w' none := by
  subst hv
  go_enter Try.func33, Try.ntmps33
  go_wp2
  go_end0
  exact ⟨rfl, World.grownBy_alloc _ _ _⟩

/-- what takes the sequences: I is kept -/
structure Tk (a : Option Addr) (len : Nat) (bs : List Int) (most : Int) (K : Nat) (caps : Array Value) (I : List Int → List Sq → World → Prop) : Prop where
  ent : ∀ args W, (callFunc K args).run Try.prog W = .ok (.enter K args) W
  row : ∀ out sq W, I out sq W → Row W a len bs
  keep : ∀ out sq W W', I out sq W → W.grownBy W' none → I out sq W'
  call : ∀ out sq W s q, 4 * sq.length ≤ out.length → I out sq W → SqOk W s q → ((out.length + q.1.length : Nat) : Int) + q.2.2 ≤ most → (q.2.1 = 0 ∧ q.2.2 = 0 ∨ 1 ≤ q.2.1 ∧ q.2.1 ≤ ((out.length + q.1.length : Nat) : Int) ∧ 4 ≤ q.2.2) →
    Calls Try.prog K (#[.agg #[.slice s.a s.n s.c, .int .i64 s.off, .int .i64 s.m]] ++ caps) W fun e W' => e = .returned (.tuple #[]) ∧ I (cpy q.2.1.toNat q.2.2.toNat (out ++ q.1)) (sq ++ [q]) W'

def WalkPost (I : List Int → List Sq → World → Prop) (r : List Int × List Sq × Int × Int) (e : Ending) (w' : World) : Prop :=
  e = .returned (.tuple #[.int .i64 r.1.length, .int .i64 r.2.2.1, .int .i64 r.2.2.2]) ∧ (r.2.2.1 = 0 → I r.1 r.2.1 w') ∧ ∃ out sq, I out sq w'
theorem walk_bad {I : List Int → List Sq → World → Prop} {out : List Int} {sq : List Sq} {w' : World} (er q : Int) (h : I out sq w') (he : er ≠ 0) : WalkPost I ([], [], er, q) (.returned (.tuple #[.int .i64 0, .int .i64 er, .int .i64 q])) w' := ⟨rfl, fun e => absurd e he, _, _, h⟩

set_option maxRecDepth 4000 in
set_option maxHeartbeats 2000000 in
theorem walk_any (a : Option Addr) (len cap : Nat) (bs : List Int) (most : Int) (K : Nat) (caps : Array Value) (I : List Int → List Sq → World → Prop) (T : Tk a len bs most K caps I) (w : World) (h0 : I [] [] w) (hl : len ≤ 16777216) (hc : len ≤ cap) (hcm : cap ≤ 9223372036854775807) (hm : 0 ≤ most ∧ most ≤ 1048576) :
    Calls Try.prog 32 #[.slice a len cap, .int .i64 most, .func (.func K) #[] caps] w (WalkPost I (dec bs most (len + 1) [] [] 0)) := by
  obtain ⟨i5, hi, hz0, hz1, hz2⟩ := info_parts Try.info5
  have hbyt := (T.row _ _ _ h0).byt
  have hlb := (T.row _ _ _ h0).len_eq
  generalize hres : dec bs most (len + 1) [] [] 0 = res
  go_enter Try.func32, Try.ntmps32
  go_wp2
  go_step3
  go_wp2
  go_step3
  go_wp2
  go_loopw [6, 7, 8, 9] (fun vn ve va vp wr => ve = .int .i64 6 ∧ va = .int .i64 len ∧ ∃ (p f : Nat) (out : List Int) (sq : List Sq), vp = .int .i64 p ∧ vn = .int .i64 out.length ∧ p ≤ len ∧ len ≤ f + p ∧ (out.length : Int) ≤ most ∧ 4 * sq.length ≤ out.length ∧ Hid (I out sq wr) ∧ Hid (dec bs most (f + 1) out sq p = res)) (fun _ _ _ vp _ => len + 1 - (intOf vp).toNat)
  case atStart => exact ⟨rfl, rfl, 0, len, [], [], rfl, rfl, Nat.zero_le _, Nat.le_refl _, hm.1, Nat.le_refl _, h0, hres⟩
  case round =>
    clear hres h0
    obtain ⟨rfl, rfl, p, f, out, sq, rfl, rfl, hp, hf, ho, hsq, HS, HD⟩ := hrel
    by_cases k1 : p < len
    · have R := T.row _ _ _ HS.out
      obtain ⟨b, off, rfl, hcl⟩ := R.cells (by omega)
      have ca := hcl p k1
      have hx := hbyt.getD p
      have hlen := plen_any (some ⟨b, off, none⟩) len cap bs (bs.getD p 0 / 16) (p + 1) wr R hl (tok_hi hx) (by omega)
      rw [show ((p + 1 : Nat) : Int) = (p : Int) + 1 by omega] at hlen
      have hq := lng_in (n := bs.getD p 0 / 16) (p := p + 1) R.byt (tok_hi hx) (by omega)
      have HC : Hid _ := hcl
      clear hcl
      have hdst : dst bs most out.length p = (if (lng bs (bs.getD p 0 / 16) (p + 1)).1 < 0 then .bad 6 bs.length
        else if most - out.length < (lng bs (bs.getD p 0 / 16) (p + 1)).1 then .bad 2 p
        else if (bs.length : Int) - (lng bs (bs.getD p 0 / 16) (p + 1)).2 < (lng bs (bs.getD p 0 / 16) (p + 1)).1 then .bad 6 bs.length
        else dst.dst2 bs most out.length p (lng bs (bs.getD p 0 / 16) (p + 1)).2.toNat (lng bs (bs.getD p 0 / 16) (p + 1)).1.toNat) := by
        conv => lhs; unfold dst
        rw [if_neg (by omega)]
      rw [hlb] at hdst
      generalize lng bs (bs.getD p 0 / 16) (p + 1) = q at hlen hq hdst
      obtain ⟨q1, q2⟩ := q
      simp only [lenAns] at hlen hq hdst
      have HQ : Hid _ := hdst
      have HX : Hid _ := hx
      clear hdst
      generalize hxe : bs.getD p 0 = x at ca hx hlen
      have HXE : Hid _ := hxe
      clear hxe
      go_wp2_with fail
      refine hlen.mono ?_
      rintro e w' ⟨rfl, rfl⟩
      clear hlen
      have hin := HS.out
      by_cases k2 : q1 < 0
      · rw [if_pos k2, decide_eq_false (by omega)]
        have e := HQ.out
        rw [if_pos k2] at e
        have hd := HD.out
        rw [dec_succ_bad e] at hd
        subst hd
        clear HD HQ e
        go_wp2
        go_ret3
        exact walk_bad _ _ hin (by decide)
      · rw [if_neg k2, decide_eq_true (by omega)]
        by_cases k3 : most - out.length < q1
        · have e := HQ.out
          rw [if_neg k2, if_pos k3] at e
          have hd := HD.out
          rw [dec_succ_bad e] at hd
          subst hd
          clear HD HQ e
          go_wp2
          go_ret3
          exact walk_bad _ _ hin (by decide)
        · by_cases k4 : (len : Int) - q2 < q1
          · have e := HQ.out
            rw [if_neg k2, if_neg k3, if_pos k4] at e
            have hd := HD.out
            rw [dec_succ_bad e] at hd
            subst hd
            clear HD HQ e
            go_wp2
            go_ret3
            exact walk_bad _ _ hin (by decide)
          · have hq' : 0 ≤ q1 ∧ p + 1 ≤ q2 ∧ q2 + q1 ≤ len := by omega
            clear hq
            obtain ⟨n, rfl⟩ := Int.eq_ofNat_of_zero_le (by omega : 0 ≤ q1)
            obtain ⟨k, rfl⟩ := Int.eq_ofNat_of_zero_le (by omega : 0 ≤ q2)
            have e := HQ.out
            rw [if_neg k2, if_neg k3, if_neg k4, Int.toNat_natCast, Int.toNat_natCast] at e
            have HE : Hid _ := e
            clear HQ e
            have k5 : p + 1 ≤ k := by omega
            have k6 : k + n ≤ len := by omega
            have k7 : (out.length : Int) + n ≤ most := by omega
            clear k2 k3 k4 hq'
            go_wp2_with (refine slice_here ?_; refine wpList_cut8 rfl _ _ _ 22 rfl Try.underlying22 i5 hi hz1 b off len cap k n _ _ rfl rfl rfl (by go_num) (by go_num) (by omega) ?_)
            intro o' ho'
            have RL := R.piece k n o' k6 ho'
            have G0 : w'.grownBy (w'.alloc (.cells #[.slice (some ⟨b, o', none⟩) n (cap - k), .int .i64 0, .int .i64 0] 51)) none := World.grownBy_alloc _ _ _
            have B0 : Box (w'.alloc (.cells #[.slice (some ⟨b, o', none⟩) n (cap - k), .int .i64 0, .int .i64 0] 51)) w'.heap.size 51 [.slice (some ⟨b, o', none⟩) n (cap - k), .int .i64 0, .int .i64 0] := Box.new _ _ _
            have hll : ((bs.drop k).take n).length = n := by simp; omega
            have HLL : Hid _ := hll
            have HL : Hid _ := RL
            clear RL ho' hll ca hin
            by_cases k8 : k + n = len
            · have e := HE.out
              unfold dst.dst2 at e
              rw [if_pos (by omega)] at e
              have hd := HD.out
              rw [dec_succ_last e] at hd
              have HD2 : Hid _ := hd
              obtain ⟨b0, b1, b2⟩ := B0.c3
              clear HE HD e hd
              go_wp2_with fail
              rw [T.ent, Oper.upon_enter]
              have hok : SqOk (w'.alloc (.cells #[.slice (some ⟨b, o', none⟩) n (cap - k), .int .i64 0, .int .i64 0] 51)) ⟨some ⟨b, o', none⟩, n, cap - k, 0, 0⟩ ((bs.drop k).take n, 0, 0) := ⟨HL.out.grown G0, rfl, rfl, (fun e => by cases e), (by show n ≤ cap - k; omega), (by show cap - k ≤ maxLen; unfold maxLen; omega)⟩
              have hcall := T.call _ _ _ _ _ hsq (T.keep _ _ _ _ HS.out G0) hok (by have := HLL.out; simp only at this ⊢; omega) (Or.inl ⟨rfl, rfl⟩)
              refine hcall.mono ?_
              rintro e w2 ⟨rfl, hin⟩
              have HIN : Hid _ := hin
              have hl2 := HLL.out
              have HL2 : Hid _ := hl2
              clear hin hok hcall HS HL b0 b1 b2 G0 B0 HLL hl2
              go_wp2
              try rw [Exit.noGoto_ret]
              go_ret3
              rw [← HD2.out]
              exact ⟨by rw [List.length_append, HL2.out, hlb]; simp, fun _ => HIN.out, _, _, HIN.out⟩
            · by_cases k9 : k + n + 1 = len
              · have e := HE.out
                unfold dst.dst2 at e
                rw [if_neg (by omega), if_pos (by omega), hlb] at e
                have hd := HD.out
                rw [dec_succ_bad e] at hd
                subst hd
                have hin := T.keep _ _ _ _ HS.out G0
                clear HE HD e
                go_wp2
                try rw [Exit.noGoto_ret]
                go_ret3
                exact walk_bad _ _ hin (by decide)
              · have RW := R.grown G0
                obtain ⟨b', off', e, hcl⟩ := RW.cells (by omega)
                injection e with e
                injection e with e1 e2
                subst e1 e2
                have k10 : k + n + 1 < len := by omega
                have ca := hcl (k + n) (by omega)
                have cb := hcl (k + n + 1) (by omega)
                have hxa := R.byt.getD (k + n)
                have hxb := R.byt.getD (k + n + 1)
                obtain ⟨b0, b1, b2⟩ := B0.c3
                have fr := B0.f 1
                have HM : Hid _ := And.intro G0 B0
                have HR0 : Hid _ := R
                clear hcl RW G0 B0 R HC
                go_wp2_with fail
                obtain ⟨r, hr⟩ : ∃ r : Nat, r = k + n := ⟨_, rfl⟩
                rw [show (k : Int) + n = (r : Int) by omega]
                rw [← hr] at ca cb hxa hxb k10
                have HR : Hid _ := hr
                clear hr k8 k9
                generalize hya : bs.getD r 0 = ya at ca hxa
                generalize hyb : bs.getD (r + 1) 0 = yb at cb hxb
                have HYA : Hid _ := hya
                have HYB : Hid _ := hyb
                clear hya hyb
                go_region
                obtain ⟨G0, B0⟩ := HM.out
                have hos := off_sum hxa hxb
                rw [hos]
                have G2 : w'.grownBy (w'.alloc (.cells #[.slice (some ⟨b, o', none⟩) n (cap - k), .int .i64 (ya + 256 * yb), .int .i64 0] 51)).drew none := grown_trans (World.grownBy_alloc _ _ _) (grown_drew _)
                have B2 : Box (w'.alloc (.cells #[.slice (some ⟨b, o', none⟩) n (cap - k), .int .i64 (ya + 256 * yb), .int .i64 0] 51)).drew w'.heap.size 51 [.slice (some ⟨b, o', none⟩) n (cap - k), .int .i64 (ya + 256 * yb), .int .i64 0] := (Box.new _ _ _).kept (grown_drew _) (by simp)
                clear HM b0 b1 b2 fr ca cb G0 B0 hos
                have hg0 : w'.heap.size ≤ w'.heap.size := Nat.le_refl _
                generalize (w'.alloc (.cells #[.slice (some ⟨b, o', none⟩) n (cap - k), .int .i64 (ya + 256 * yb), .int .i64 0] 51)).drew = w2 at G2 B2 ⊢
                generalize hge : w'.heap.size = g0 at B2 hg0 ⊢
                have HG0 : Hid _ := hge
                clear hge hg0
                obtain ⟨y, hy⟩ := Int.eq_ofNat_of_zero_le (by omega : 0 ≤ ya + 256 * yb)
                rw [hy] at B2
                have hyy : y ≤ 65535 := by omega
                have e3 := HE.out
                unfold dst.dst2 at e3
                rw [if_neg (by have := HR.out; omega), if_neg (by have := HR.out; omega), ← HR.out, HYA.out, HYB.out, hy, hlb] at e3
                rw [hy]
                have HE2 : Hid _ := e3
                clear e3 HE hy HYA HYB hxa hxb
                obtain ⟨b0, b1, b2⟩ := B2.c3
                by_cases z1 : y = 0
                · subst z1
                  have e3 := HE2.out
                  rw [if_pos (by omega)] at e3
                  have hd := HD.out
                  rw [dec_succ_bad e3] at hd
                  subst hd
                  have hin := T.keep _ _ _ _ HS.out G2
                  clear HE2 HD e3
                  go_wp2
                  try rw [Exit.noGoto_ret]
                  go_ret3
                  exact walk_bad _ _ hin (by decide)
                · by_cases z2 : ((out.length + n : Nat) : Int) < y
                  · skip
                    have e3 := HE2.out
                    rw [if_pos (Or.inr z2)] at e3
                    have hd := HD.out
                    rw [dec_succ_bad e3] at hd
                    subst hd
                    have hin := T.keep _ _ _ _ HS.out G2
                    clear HE2 HD e3
                    go_wp2
                    try rw [Exit.noGoto_ret]
                    go_ret3
                    exact walk_bad _ _ hin (by decide)
                  · have e3 := HE2.out
                    rw [if_neg (by omega)] at e3
                    have RW := HR0.out.grown G2
                    have hlen := plen_any (some ⟨b, off, none⟩) len cap bs (x % 16) (r + 2) w2 RW hl (tok_lo hx) (by omega)
                    have hq := lng_in (n := x % 16) (p := r + 2) hbyt (tok_lo hx) (by omega)
                    rw [show ((r + 2 : Nat) : Int) = (r : Int) + 2 by omega] at hlen
                    rw [HXE.out] at e3
                    obtain ⟨b', off', e, hcl⟩ := RW.cells (by omega)
                    injection e with e
                    injection e with e1 e2
                    subst e1 e2
                    have ct := hcl p k1
                    rw [HXE.out] at ct
                    generalize lng bs (x % 16) (r + 2) = q at hlen hq e3
                    obtain ⟨q1, q2⟩ := q
                    simp only [lenAns] at hlen hq e3
                    have HE3 : Hid _ := e3
                    have z2' : y ≤ out.length + n := by omega
                    have h15 := and15 hx
                    have f2 := B2.f 2
                    have HB : Hid _ := And.intro G2 B2
                    clear e3 HE2 G2 B2 hcl RW z2
                    go_wp2_with fail
                    · exfalso
                      rename_i h _
                      rcases h with h | h
                      · simp at h; omega
                      · omega
                    refine hlen.mono ?_
                    rintro e w3 ⟨rfl, rfl⟩
                    clear hlen ct h15
                    obtain ⟨G2, B2⟩ := HB.out
                    by_cases z3 : q1 < 0
                    · rw [if_pos z3, decide_eq_false (by omega)]
                      have e3 := HE3.out
                      rw [if_pos z3] at e3
                      have hd := HD.out
                      rw [dec_succ_bad e3] at hd
                      subst hd
                      have hin : ∀ v1 v2, I out sq ((w3.setCell ⟨g0, 2, none⟩ v1).setCell ⟨g0, 2, none⟩ v2) := fun v1 v2 => T.keep _ _ _ _ HS.out (grown_new (grown_new G2 (grown_set _ _ _ _) (Nat.le_of_eq HG0.out)) (grown_set _ _ _ _) (Nat.le_of_eq HG0.out))
                      clear HE3 HD e3 HB G2 B2
                      go_wp2
                      try rw [Exit.noGoto_ret]
                      go_ret3
                      exact walk_bad _ _ (hin _ _) (by decide)
                    · rw [if_neg z3, decide_eq_true (by omega)]
                      have hq' : 0 ≤ q1 ∧ q1 ≤ 15 + 255 * len ∧ r + 2 ≤ q2 ∧ q2 ≤ len := by omega
                      clear hq HB
                      have G3 : w'.grownBy ((w3.setCell ⟨g0, 2, none⟩ (.int .i64 q1)).setCell ⟨g0, 2, none⟩ (.int .i64 (q1 + 4))) none := grown_new (grown_new G2 (grown_set _ _ _ _) (Nat.le_of_eq HG0.out)) (grown_set _ _ _ _) (Nat.le_of_eq HG0.out)
                      have B3 := (B2.set 2 (.int .i64 q1)).set 2 (.int .i64 (q1 + 4))
                      simp only [List.set_cons_succ, List.set_cons_zero] at B3
                      have HB3 : Hid _ := And.intro G3 B3
                      clear G2 B2 G3 B3
                      by_cases z4 : most - ((out.length + n : Nat) : Int) < q1 + 4
                      · have e3 := HE3.out
                        rw [if_neg z3, if_pos z4] at e3
                        have hd := HD.out
                        rw [dec_succ_bad e3] at hd
                        subst hd
                        clear HE3 HD e3
                        go_wp2
                        try rw [Exit.noGoto_ret]
                        go_ret3
                        exact walk_bad _ _ (T.keep _ _ _ _ HS.out HB3.out.1) (by decide)
                      · have e3 := HE3.out
                        rw [if_neg z3, if_neg z4] at e3
                        obtain ⟨m, hm'⟩ := Int.eq_ofNat_of_zero_le (by omega : 0 ≤ q1 + 4)
                        obtain ⟨s', rfl⟩ := Int.eq_ofNat_of_zero_le (by omega : 0 ≤ q2)
                        obtain rfl : q1 = (m : Int) - 4 := by omega
                        rw [show (m : Int) - 4 + 4 = m by omega, Int.toNat_natCast, Int.toNat_natCast, Int.toNat_natCast] at e3
                        have hd := HD.out
                        rw [dec_succ_more e3] at hd
                        have HD2 : Hid _ := hd
                        have k11 : r + 2 ≤ s' := by omega
                        have k12 : s' ≤ len := by omega
                        have k13 : ((out.length + n + m : Nat) : Int) ≤ most := by omega
                        have k14 : 4 ≤ m := by omega
                        clear hd e3 HE3 HD hm' hq' z3 z4
                        obtain ⟨f', rfl⟩ : ∃ f', f = f' + 1 := ⟨f - 1, by omega⟩
                        go_wp2_with fail
                        rw [T.ent, Oper.upon_enter]
                        obtain ⟨G3, B3⟩ := HB3.out
                        rw [show (m : Int) - 4 + 4 = m by omega] at G3 B3
                        clear HB3
                        generalize ((w3.setCell ⟨g0, 2, none⟩ (.int .i64 ((m : Int) - 4))).setCell ⟨g0, 2, none⟩ (.int .i64 m)) = w4 at G3 B3 ⊢
                        have hok : SqOk w4 ⟨some ⟨b, o', none⟩, n, cap - k, y, m⟩ ((bs.drop k).take n, (y : Int), (m : Int)) := ⟨HL.out.grown G3, rfl, rfl, (fun e => by cases e), (by show n ≤ cap - k; omega), (by show cap - k ≤ maxLen; unfold maxLen; omega)⟩
                        have hcall := T.call _ _ _ _ _ hsq (T.keep _ _ _ _ HS.out G3) hok (by have := HLL.out; simp only at this ⊢; omega) (Or.inr (by have := HLL.out; simp only at this ⊢; omega))
                        refine hcall.mono ?_
                        rintro e w5 ⟨rfl, hin⟩
                        simp only [Int.toNat_natCast] at hin
                        have HIN : Hid _ := hin
                        have hl2 : (cpy y m (out ++ (bs.drop k).take n)).length = out.length + n + m := by rw [cpy_len, List.length_append, HLL.out]
                        have HL2 : Hid _ := hl2
                        have k15 : p + 3 ≤ s' := by have := HR.out; omega
                        clear hin hok hcall HS HL b0 b1 b2 G3 B3 HLL hl2
                        go_wp2
                        go_roundw
                        case rel => exact ⟨rfl, rfl, s', f', _, _, rfl, by rw [HL2.out]; go_num, k12, by omega, by rw [HL2.out]; omega, by rw [HL2.out, List.length_append, List.length_singleton]; omega, HIN, HD2⟩
                        case measure => simp [intOf]; omega
    · have e : dst bs most out.length p = .bad 6 len := by unfold dst; rw [if_pos (by omega), hlb]
      have hd := HD.out
      rw [dec_succ_bad e] at hd
      subst hd
      have hg := HS.out
      clear HS HD e
      go_wp2
      go_ret3
      exact walk_bad _ _ hg (by decide)
end Go.Proofs.Yteghhmnkdmehbaa
