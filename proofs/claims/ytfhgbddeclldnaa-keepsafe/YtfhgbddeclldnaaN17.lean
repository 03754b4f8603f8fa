/- The program's keep: Switch. -/
import Derived.Test.YtfhgbddeclldnaaN16
namespace Go.Proofs.Ytfhgbddeclldnaa
open Go.RowKit
set_option maxRecDepth 100000
set_option linter.unusedSimpArgs false
set_option linter.unusedVariables false

set_option maxHeartbeats 8000000 in
theorem pb_sw {w : World} {fb bb db wb : Nat} {m : Fm} {G : Nat → Prop} {k : Nat} (h : PRep w fb bb db wb m G) (hg : m.Good k) (hk9 : k < 90000) (P : Pa.Pl) (hP : P.ok) (r : Rc) (hr : r.ok) (hk : kok m P = true) (hrr : rrt r = true) (hof : m.off = false) : Calls Try.prog 23 #[.pointer (some ⟨fb, 0, none⟩), P.val, r.val, .func (.func 24) #[] #[]] w (SpPost fb bb db wb (krn m P r true) G w) := by
  have hc := fun W (g : w.grownBy W none) => pk_any (h.grown g) hg P hP
  have hen := fun W => pencode_any r W hr
  have hld := fun W (g : w.grownBy W none) => pload_any (h.grown g) hg P hP
  have hlo : klo m P = (kli m, 0) := by unfold klo; rw [if_neg (by rw [hk]; simp), if_neg (by rw [hof]; simp)]
  unfold LdPost at hld
  rw [hlo] at hld
  rw [kck_ok hk] at hc
  rw [ren_ok hrr] at hen
  unfold EnPost at hen
  obtain ⟨-, -, e2, -, -, -, hx0, hx1⟩ := kok_facts hk
  have hlt := h.lt
  have hok : ∀ x, (kda m x).1.ok := by
    obtain ⟨pw, left, aT, cT, TT, hpf, -, -⟩ := h
    exact fun x => kda_ok hpf.byt x
  have han := fun W (g : w.grownBy W none) (a : Option Addr) (c : Nat) (i : Nat) (hi : i < 2) (hrow : Row W a 32 (rby r)) (hn : ∀ b o, a = some ⟨b, o, none⟩ → w.heap.size ≤ b) => panew_any (w := W) (fb := fb) (bb := bb) (db := db) (wb := wb) (fun k hk => Nat.lt_of_lt_of_le (hlt k hk) g.size) (P := P) hx0 hx1 (ys := rby r) (a := a) (c := c) hi (by rw [rby_len]; exact hrow) (fun b o e _ x => by have := hn b o e; have := hlt b x; omega)
  have hrn := fun W (g : w.grownBy W none) (a : Option Addr) (c len : Nat) (hs : Sts W fb bb db wb P (rby r) a (stps (skf m r true) [1 - kfi m, kfi m])) (hl : len = (stps (skf m r true) [1 - kfi m, kfi m]).length) => prun_any (G := G) (h.grown g) hg (by omega) e2 (c := c) hs hl (stps_len _ _ _)
  rw [krw_krn hk hrr hof] at hrn
  have hrl := rby_len r
  have hrb : Byt (rby r) := rby_byt hrr
  have htu := fun W (a : Option Addr) (n c : Nat) (hn : n = (kli m).length) hc => pturns_any W a n c (kli m) hn hc (kli_lt m) (by rw [hn]; exact kli_len m)
  have hcast : (1 - (kfi m : Int)) = ((1 - kfi m : Nat) : Int) := by have := kfi_lt m; omega
  rw [head_kfi, hcast] at htu
  clear hcast
  have hi0 : 1 - kfi m < 2 := by omega
  have hi1 := kfi_lt m
  unfold SpPost at hrn ⊢
  generalize krn m P r true = M at *
  obtain ⟨m2, x⟩ := M
  generalize rby r = ys at *
  generalize 1 - kfi m = i0 at *
  generalize kfi m = i1 at *
  have HIX : Hid (∀ (W : World) (a : Option Addr) (n c : Nat) (y : Nat) (hn : n = (kli m).length) hc, _) := fun (W : World) (a : Option Addr) (n c : Nat) (y : Nat) (hn : n = (kli m).length) hc => pindex_any W a n c (kli m) y hn hc (by rw [hn]; exact kli_len m)
  have hst := fun (R : Rc) (W : World) => psw1_any R W
  have HSK : Hid (∀ i, skf m r true i = false) := fun i => by unfold skf; simp
  generalize skf m r true = sk at *
  have HL : Hid _ := hrl
  rw [hrl] at han
  have HR : Hid _ := hrb
  have HLT : Hid _ := hlt
  clear h hg hP hk hr hrr e2 hx0 hx1 hrl hrb hlt hk9 hlo hof hok
  obtain ⟨PP, hPP⟩ : ∃ PP, PP = P := ⟨P, rfl⟩
  rw [← hPP] at han hrn
  have HPP : Hid _ := hPP
  have HAN : Hid _ := han
  have HRN : Hid _ := hrn
  have HTU : Hid _ := htu
  have HLD : Hid _ := hld
  have HST : Hid _ := hst
  clear hPP han hrn htu hld hst
  obtain ⟨s, p, b, x0, x1, y0, y1, nn⟩ := P
  obtain ⟨rq, rs, rl, ru⟩ := r
  simp only [Pa.Pl.val, Pa.Pl.cells, Rc.val, Rc.cells] at *
  have G0 := two_grown w [.int .i64 s, .int .i64 p, .int .i64 b, .int .i64 x0, .int .i64 x1, .int .i64 y0, .int .i64 y1, .int .i64 nn] [.int .u64 rq, .int .i64 rs, .int .i64 rl, .int .u64 ru] 32 26
  have HB0 : Hid _ := two_bx w [.int .i64 s, .int .i64 p, .int .i64 b, .int .i64 x0, .int .i64 x1, .int .i64 y0, .int .i64 y1, .int .i64 nn] [.int .u64 rq, .int .i64 rs, .int .i64 rl, .int .u64 ru] 32 26
  obtain ⟨d0, d1, d2, d3, d4, d5, d6, d7⟩ := plan8 HB0.out.1
  go_enter Try.func23, Try.ntmps23
  go_wp2_with fail
  generalize hW : (w.alloc (.cells #[.int .i64 s, .int .i64 p, .int .i64 b, .int .i64 x0, .int .i64 x1, .int .i64 y0, .int .i64 y1, .int .i64 nn] 32)).alloc (.cells #[.int .u64 rq, .int .i64 rs, .int .i64 rl, .int .u64 ru] 26) = W at *
  clear hW d0 d1 d2 d3 d4 d5 d6 d7
  refine (hc _ G0).mono ?_
  rintro e w1 ⟨rfl, g1⟩
  obtain ⟨d0, d1, d2, d3⟩ := bx4 (HB0.out.2.kept g1)
  have HG : Hid _ := And.intro (grown_trans G0 g1) (HB0.out.1.kept g1)
  clear g1 G0 hc HB0
  go_wp2_with fail
  clear d0 d1 d2 d3
  refine (hen _).mono ?_
  rintro e w2 ⟨aB, n, cB, rfl, hown, g2⟩
  obtain ⟨a', c', ev, hrow, -, -, -⟩ := own_bytes hown HR.out (by have := hown.1; rw [bv_length, HL.out] at this; unfold maxLen; omega)
  obtain ⟨rfl, -, rfl⟩ : aB = a' ∧ n = n ∧ cB = c' := by injection ev with e1 e2 e3; exact ⟨e1, rfl, e3⟩
  have hn32 : n = 32 := by have := hown.1; rw [bv_length, HL.out] at this; omega
  subst hn32
  have HG2 : Hid (w.grownBy w2 none ∧ Row w2 aB 32 ys ∧ (∀ b o, aB = some ⟨b, o, none⟩ → w.heap.size ≤ b ∧ b < w2.heap.size) ∧ Bx w2 w.heap.size 32 [.int .i64 s, .int .i64 p, .int .i64 b, .int .i64 x0, .int .i64 x1, .int .i64 y0, .int .i64 y1, .int .i64 nn]) := ⟨grown_trans HG.out.1 g2, hrow, fun b o e => ⟨Nat.le_trans HG.out.1.size (hown.lt b (by rw [e]; rfl)).1, (hown.lt b (by rw [e]; rfl)).2⟩, HG.out.2.kept g2⟩
  obtain ⟨d0, d1, d2, d3, d4, d5, d6, d7⟩ := plan8 HG2.out.2.2.2
  clear g2 HG hen hown hrow ev
  go_wp2_with fail
  clear d0 d1 d2 d3 d4 d5 d6 d7
  refine (HLD.out _ HG2.out.1).mono ?_
  rintro e w3 ⟨g3, aL, nL, cL, aW, nW, cW, rfl, -, -, -, -, hls⟩
  have HG3 : Hid (w2.grownBy w3 none ∧ Lst w3 m aL nL aW nW (kli m)) := ⟨g3, hls⟩
  clear g3 hls HLD
  go_wp2_with fail
  refine (HTU.out w3 aW nW cW HG3.out.2.nW HG3.out.2.ws).mono ?_
  rintro e w4 ⟨rfl, g4⟩
  generalize hg0 : w.heap.size = g at *
  have HE : Hid (Be w w4 g ⟨s, p, b, x0, x1, y0, y1, nn⟩ m ys aB aL nL aW nW) := ⟨grown_trans HG2.out.1 (grown_trans HG3.out.1 g4), HG2.out.2.2.2.kept (grown_trans HG3.out.1 g4), HG2.out.2.1.grown (grown_trans HG3.out.1 g4), fun b' o e => ⟨by rw [hg0]; exact (HG2.out.2.2.1 b' o e).1, Nat.lt_of_lt_of_le (HG2.out.2.2.1 b' o e).2 (grown_trans HG3.out.1 g4).size⟩, HG3.out.2.kept g4⟩
  have HG0 : Hid _ := hg0
  clear g4 HG2 HG3 HTU hg0
  have hix0 := run_ix0 i0 i1
  have hix1 := run_ix1 i0 i1
  obtain ⟨ist, hi, hz0, hz1, hz2⟩ := info_parts step_info9
  go_wp2_with fail
  go_loopw [14, 44] (fun v14 vj wr => ∃ j : Nat, vj = .int .i64 j ∧ j ≤ 2 ∧ Hid (Bo w4 wr fb bb db wb PP ys j (stps sk ([i0, i1].take j)) v14)) (fun _ vj _ => 2 - (intOf vj).toNat)
  case atStart => exact ⟨0, rfl, by omega, Bo.start _ _ _ _ _ _ _⟩
  case round =>
    obtain ⟨j, rfl, hj, HB⟩ := hrel
    obtain rfl | rfl | rfl : j = 0 ∨ j = 1 ∨ j = 2 := by omega
    · have hj0 : ((0 : Nat) : Int) = 0 := rfl
      rw [hj0]
      clear hj0 hj
      go_wp2_with fail
      refine (HIX.out wr aW nW cW i0 (HE.out.ls.kept HB.out.gr).nW (HE.out.ls.kept HB.out.gr).ws).mono ?_
      rintro e w5 ⟨z, rfl, hw5, hz⟩
      subst hw5
      rcases hz with ⟨rfl, hnot⟩ | ⟨q, rfl, hq⟩
      · have HSF : Hid (sk i0 = false) := HSK.out i0
        clear hnot
        have HBk : Hid _ := HB.out
        clear HB
        obtain ⟨d0, d1, d2, d3, d4, d5, d6, d7⟩ := plan8 (HE.out.p.kept HBk.out.gr)
        have hgw : Hid (w.grownBy w5 none) := grown_trans HE.out.gr HBk.out.gr
        go_wp2_with fail
        clear d0 d1 d2 d3 d4 d5 d6 d7
        have h3 := HAN.out w5 hgw.out aB cB i0 hi0 (HE.out.row.grown HBk.out.gr) (fun b' o e => by rw [← HG0.out]; exact (HE.out.rb b' o e).1)
        rw [HPP.out] at h3
        refine h3.mono ?_
        unfold AnPost
        rintro e w6 ⟨nb, cf, cp, cs, cb, rfl, g6, k1, k2, n1, n2, n3, n4, n5, cap⟩
        clear h3
        rw [← HPP.out] at cap
        obtain ⟨B, vals, b1, b2, own, bE, bs, bo, bl⟩ := HBk.out.ready (by omega) g6
        have HW : Hid _ := And.intro b1 (And.intro b2 (And.intro own (And.intro bE (And.intro bs (And.intro bo bl)))))
        have HK : Hid _ := And.intro g6 (And.intro k1 (And.intro k2 (And.intro n1 (And.intro n2 (And.intro n3 (And.intro n4 cap))))))
        clear g6 k1 k2 n1 n2 n3 n4 n5 cap b1 b2 own bE bs bo bl
        have hln := stps_len1 sk i0 i1 0
        go_wp2_with (at_builtin; refine wpList_append_own _ rfl _ _ 72 rfl B 91 ist .nilFunc 1 8 Try.underlying72 hi hz0 hz1 hz2 rfl (by decide) _ _ _ rfl HW.out.2.2.1 ⟨nb, 0, none⟩ 2 2 [StV cf cp cs cb false, StV cf cp cs cb true] rfl rfl (two_news HK.out.2.1 HK.out.2.2.1) (stv_one _ _ _ _) ?c3 ?c4 HW.out.2.1 ?_)
        case c3 => unfold maxLen; omega
        case c4 => omega
        · intro v' w7 o7 g7 _
          have HN : Hid (Bo w4 w7 fb bb db wb PP ys (0 + 1) (stps sk ([i0, i1].take (0 + 1))) v') := by
            have := Bo.app (j := 0) (by omega) (grown_trans HBk.out.gr HK.out.1) HW.out.1 HW.out.2.1 HW.out.2.2.1 (fun _ => HW.out.2.2.2.1 (by first | trivial | rfl)) HW.out.2.2.2.2.1 HW.out.2.2.2.2.2.1 HW.out.2.2.2.2.2.2 HBk.out.two (fun e => (HBk.out.nil e).2) HK.out.2.2.2.1 HK.out.2.2.2.2.1 HK.out.2.2.2.2.2.1 HK.out.2.2.2.2.2.2.1 HK.out.2.2.2.2.2.2.2 hi0 (fun b' o e => (HE.out.rb b' o e).2) o7 g7
            have e := stps_take (sk := sk) (i0 := i0) (i1 := i1) (j := 0) (i := i0) (by omega) rfl
            rw [HSF.out, if_neg (by simp)] at e
            rw [e]
            exact this
          clear o7 g7 HW HK hln HBk HSF hgw
          go_wp2
          go_roundw
          case rel => exact ⟨0 + 1, by go_num, by omega, HN⟩
          case measure => simp [intOf]
      · have hql : q < (kli m).length := (List.getElem?_eq_some_iff.1 hq).1
        have hq2 := kli_len m
        have hnl : (nL : Int) = (kli m).length := by have := HE.out.ls.nL; omega
        obtain ⟨lb, lo, rfl, r0, r1, r2, r3⟩ := (HE.out.ls.kept HB.out.gr).rs q i0 hq
        have hqm : i0 ∈ kli m := List.mem_of_getElem? hq
        have HSF : Hid (sk i0 = false) := HSK.out i0
        clear hqm hq
        have hst2 := HST.out (kda m i0).1
        generalize (kda m i0).1 = RR at *
        obtain ⟨tq, ts, tl, tu⟩ := RR
        simp only [Rc.val, Rc.cells] at hst2 r0 r1 r2 r3
        have hqp : (0 : Int) ≤ q := by omega
        have hqn : (q : Int) < nL := by omega
        obtain rfl | rfl : q = 0 ∨ q = 1 := by omega
        · simp only [Nat.mul_zero, Nat.mul_one, Nat.add_zero, Int.natCast_zero, Int.natCast_one, Int.ofNat_zero] at r0 r1 r2 r3 hqn hqp ⊢
          clear hql hq2 hnl
          go_wp2_with fail
          refine (hst2 _).mono ?_
          rintro e w8 ⟨rfl, g8⟩
          have HBk : Hid _ := HB.out.kept g8
          clear g8 HB r0 r1 r2 r3 hst2 hqp hqn
          obtain ⟨d0, d1, d2, d3, d4, d5, d6, d7⟩ := plan8 (HE.out.p.kept HBk.out.gr)
          have hgw : Hid (w.grownBy w8 none) := grown_trans HE.out.gr HBk.out.gr
          go_wp2_with fail
          clear d0 d1 d2 d3 d4 d5 d6 d7
          have h3 := HAN.out w8 hgw.out aB cB i0 hi0 (HE.out.row.grown HBk.out.gr) (fun b' o e => by rw [← HG0.out]; exact (HE.out.rb b' o e).1)
          rw [HPP.out] at h3
          refine h3.mono ?_
          unfold AnPost
          rintro e w6 ⟨nb, cf, cp, cs, cb, rfl, g6, k1, k2, n1, n2, n3, n4, n5, cap⟩
          clear h3
          rw [← HPP.out] at cap
          obtain ⟨B, vals, b1, b2, own, bE, bs, bo, bl⟩ := HBk.out.ready (by omega) g6
          have HW : Hid _ := And.intro b1 (And.intro b2 (And.intro own (And.intro bE (And.intro bs (And.intro bo bl)))))
          have HK : Hid _ := And.intro g6 (And.intro k1 (And.intro k2 (And.intro n1 (And.intro n2 (And.intro n3 (And.intro n4 cap))))))
          clear g6 k1 k2 n1 n2 n3 n4 n5 cap b1 b2 own bE bs bo bl
          have hln := stps_len1 sk i0 i1 0
          go_wp2_with (at_builtin; refine wpList_append_own _ rfl _ _ 72 rfl B 91 ist .nilFunc 1 8 Try.underlying72 hi hz0 hz1 hz2 rfl (by decide) _ _ _ rfl HW.out.2.2.1 ⟨nb, 0, none⟩ 2 2 [StV cf cp cs cb false, StV cf cp cs cb true] rfl rfl (two_news HK.out.2.1 HK.out.2.2.1) (stv_one _ _ _ _) ?c3 ?c4 HW.out.2.1 ?_)
          case c3 => unfold maxLen; omega
          case c4 => omega
          · intro v' w7 o7 g7 _
            have HN : Hid (Bo w4 w7 fb bb db wb PP ys (0 + 1) (stps sk ([i0, i1].take (0 + 1))) v') := by
              have := Bo.app (j := 0) (by omega) (grown_trans HBk.out.gr HK.out.1) HW.out.1 HW.out.2.1 HW.out.2.2.1 (fun _ => HW.out.2.2.2.1 (by first | trivial | rfl)) HW.out.2.2.2.2.1 HW.out.2.2.2.2.2.1 HW.out.2.2.2.2.2.2 HBk.out.two (fun e => (HBk.out.nil e).2) HK.out.2.2.2.1 HK.out.2.2.2.2.1 HK.out.2.2.2.2.2.1 HK.out.2.2.2.2.2.2.1 HK.out.2.2.2.2.2.2.2 hi0 (fun b' o e => (HE.out.rb b' o e).2) o7 g7
              have e := stps_take (sk := sk) (i0 := i0) (i1 := i1) (j := 0) (i := i0) (by omega) rfl
              rw [HSF.out, if_neg (by simp)] at e
              rw [e]
              exact this
            clear o7 g7 HW HK hln HBk HSF hgw
            go_wp2
            go_roundw
            case rel => exact ⟨0 + 1, by go_num, by omega, HN⟩
            case measure => simp [intOf]
        · simp only [Nat.mul_zero, Nat.mul_one, Nat.add_zero, Int.natCast_zero, Int.natCast_one, Int.ofNat_zero] at r0 r1 r2 r3 hqn hqp ⊢
          clear hql hq2 hnl
          go_wp2_with fail
          refine (hst2 _).mono ?_
          rintro e w8 ⟨rfl, g8⟩
          have HBk : Hid _ := HB.out.kept g8
          clear g8 HB r0 r1 r2 r3 hst2 hqp hqn
          obtain ⟨d0, d1, d2, d3, d4, d5, d6, d7⟩ := plan8 (HE.out.p.kept HBk.out.gr)
          have hgw : Hid (w.grownBy w8 none) := grown_trans HE.out.gr HBk.out.gr
          go_wp2_with fail
          clear d0 d1 d2 d3 d4 d5 d6 d7
          have h3 := HAN.out w8 hgw.out aB cB i0 hi0 (HE.out.row.grown HBk.out.gr) (fun b' o e => by rw [← HG0.out]; exact (HE.out.rb b' o e).1)
          rw [HPP.out] at h3
          refine h3.mono ?_
          unfold AnPost
          rintro e w6 ⟨nb, cf, cp, cs, cb, rfl, g6, k1, k2, n1, n2, n3, n4, n5, cap⟩
          clear h3
          rw [← HPP.out] at cap
          obtain ⟨B, vals, b1, b2, own, bE, bs, bo, bl⟩ := HBk.out.ready (by omega) g6
          have HW : Hid _ := And.intro b1 (And.intro b2 (And.intro own (And.intro bE (And.intro bs (And.intro bo bl)))))
          have HK : Hid _ := And.intro g6 (And.intro k1 (And.intro k2 (And.intro n1 (And.intro n2 (And.intro n3 (And.intro n4 cap))))))
          clear g6 k1 k2 n1 n2 n3 n4 n5 cap b1 b2 own bE bs bo bl
          have hln := stps_len1 sk i0 i1 0
          go_wp2_with (at_builtin; refine wpList_append_own _ rfl _ _ 72 rfl B 91 ist .nilFunc 1 8 Try.underlying72 hi hz0 hz1 hz2 rfl (by decide) _ _ _ rfl HW.out.2.2.1 ⟨nb, 0, none⟩ 2 2 [StV cf cp cs cb false, StV cf cp cs cb true] rfl rfl (two_news HK.out.2.1 HK.out.2.2.1) (stv_one _ _ _ _) ?c3 ?c4 HW.out.2.1 ?_)
          case c3 => unfold maxLen; omega
          case c4 => omega
          · intro v' w7 o7 g7 _
            have HN : Hid (Bo w4 w7 fb bb db wb PP ys (0 + 1) (stps sk ([i0, i1].take (0 + 1))) v') := by
              have := Bo.app (j := 0) (by omega) (grown_trans HBk.out.gr HK.out.1) HW.out.1 HW.out.2.1 HW.out.2.2.1 (fun _ => HW.out.2.2.2.1 (by first | trivial | rfl)) HW.out.2.2.2.2.1 HW.out.2.2.2.2.2.1 HW.out.2.2.2.2.2.2 HBk.out.two (fun e => (HBk.out.nil e).2) HK.out.2.2.2.1 HK.out.2.2.2.2.1 HK.out.2.2.2.2.2.1 HK.out.2.2.2.2.2.2.1 HK.out.2.2.2.2.2.2.2 hi0 (fun b' o e => (HE.out.rb b' o e).2) o7 g7
              have e := stps_take (sk := sk) (i0 := i0) (i1 := i1) (j := 0) (i := i0) (by omega) rfl
              rw [HSF.out, if_neg (by simp)] at e
              rw [e]
              exact this
            clear o7 g7 HW HK hln HBk HSF hgw
            go_wp2
            go_roundw
            case rel => exact ⟨0 + 1, by go_num, by omega, HN⟩
            case measure => simp [intOf]
    · have hj0 : ((1 : Nat) : Int) = 1 := rfl
      rw [hj0]
      clear hj0 hj
      go_wp2_with fail
      refine (HIX.out wr aW nW cW i1 (HE.out.ls.kept HB.out.gr).nW (HE.out.ls.kept HB.out.gr).ws).mono ?_
      rintro e w5 ⟨z, rfl, hw5, hz⟩
      subst hw5
      rcases hz with ⟨rfl, hnot⟩ | ⟨q, rfl, hq⟩
      · have HSF : Hid (sk i1 = false) := HSK.out i1
        clear hnot
        have HBk : Hid _ := HB.out
        clear HB
        obtain ⟨d0, d1, d2, d3, d4, d5, d6, d7⟩ := plan8 (HE.out.p.kept HBk.out.gr)
        have hgw : Hid (w.grownBy w5 none) := grown_trans HE.out.gr HBk.out.gr
        go_wp2_with fail
        clear d0 d1 d2 d3 d4 d5 d6 d7
        have h3 := HAN.out w5 hgw.out aB cB i1 hi1 (HE.out.row.grown HBk.out.gr) (fun b' o e => by rw [← HG0.out]; exact (HE.out.rb b' o e).1)
        rw [HPP.out] at h3
        refine h3.mono ?_
        unfold AnPost
        rintro e w6 ⟨nb, cf, cp, cs, cb, rfl, g6, k1, k2, n1, n2, n3, n4, n5, cap⟩
        clear h3
        rw [← HPP.out] at cap
        obtain ⟨B, vals, b1, b2, own, bE, bs, bo, bl⟩ := HBk.out.ready (by omega) g6
        have HW : Hid _ := And.intro b1 (And.intro b2 (And.intro own (And.intro bE (And.intro bs (And.intro bo bl)))))
        have HK : Hid _ := And.intro g6 (And.intro k1 (And.intro k2 (And.intro n1 (And.intro n2 (And.intro n3 (And.intro n4 cap))))))
        clear g6 k1 k2 n1 n2 n3 n4 n5 cap b1 b2 own bE bs bo bl
        have hln := stps_len1 sk i0 i1 1
        go_wp2_with (at_builtin; refine wpList_append_own _ rfl _ _ 72 rfl B 91 ist .nilFunc 1 8 Try.underlying72 hi hz0 hz1 hz2 rfl (by decide) _ _ _ rfl HW.out.2.2.1 ⟨nb, 0, none⟩ 2 2 [StV cf cp cs cb false, StV cf cp cs cb true] rfl rfl (two_news HK.out.2.1 HK.out.2.2.1) (stv_one _ _ _ _) ?c3 ?c4 HW.out.2.1 ?_)
        case c3 => unfold maxLen; omega
        case c4 => omega
        · intro v' w7 o7 g7 _
          have HN : Hid (Bo w4 w7 fb bb db wb PP ys (1 + 1) (stps sk ([i0, i1].take (1 + 1))) v') := by
            have := Bo.app (j := 1) (by omega) (grown_trans HBk.out.gr HK.out.1) HW.out.1 HW.out.2.1 HW.out.2.2.1 (fun e => by omega) HW.out.2.2.2.2.1 HW.out.2.2.2.2.2.1 HW.out.2.2.2.2.2.2 HBk.out.two (fun e => (HBk.out.nil e).2) HK.out.2.2.2.1 HK.out.2.2.2.2.1 HK.out.2.2.2.2.2.1 HK.out.2.2.2.2.2.2.1 HK.out.2.2.2.2.2.2.2 hi1 (fun b' o e => (HE.out.rb b' o e).2) o7 g7
            have e := stps_take (sk := sk) (i0 := i0) (i1 := i1) (j := 1) (i := i1) (by omega) rfl
            rw [HSF.out, if_neg (by simp)] at e
            rw [e]
            exact this
          clear o7 g7 HW HK hln HBk HSF hgw
          go_wp2
          go_roundw
          case rel => exact ⟨1 + 1, by go_num, by omega, HN⟩
          case measure => simp [intOf]
      · have hql : q < (kli m).length := (List.getElem?_eq_some_iff.1 hq).1
        have hq2 := kli_len m
        have hnl : (nL : Int) = (kli m).length := by have := HE.out.ls.nL; omega
        obtain ⟨lb, lo, rfl, r0, r1, r2, r3⟩ := (HE.out.ls.kept HB.out.gr).rs q i1 hq
        have hqm : i1 ∈ kli m := List.mem_of_getElem? hq
        have HSF : Hid (sk i1 = false) := HSK.out i1
        clear hqm hq
        have hst2 := HST.out (kda m i1).1
        generalize (kda m i1).1 = RR at *
        obtain ⟨tq, ts, tl, tu⟩ := RR
        simp only [Rc.val, Rc.cells] at hst2 r0 r1 r2 r3
        have hqp : (0 : Int) ≤ q := by omega
        have hqn : (q : Int) < nL := by omega
        obtain rfl | rfl : q = 0 ∨ q = 1 := by omega
        · simp only [Nat.mul_zero, Nat.mul_one, Nat.add_zero, Int.natCast_zero, Int.natCast_one, Int.ofNat_zero] at r0 r1 r2 r3 hqn hqp ⊢
          clear hql hq2 hnl
          go_wp2_with fail
          refine (hst2 _).mono ?_
          rintro e w8 ⟨rfl, g8⟩
          have HBk : Hid _ := HB.out.kept g8
          clear g8 HB r0 r1 r2 r3 hst2 hqp hqn
          obtain ⟨d0, d1, d2, d3, d4, d5, d6, d7⟩ := plan8 (HE.out.p.kept HBk.out.gr)
          have hgw : Hid (w.grownBy w8 none) := grown_trans HE.out.gr HBk.out.gr
          go_wp2_with fail
          clear d0 d1 d2 d3 d4 d5 d6 d7
          have h3 := HAN.out w8 hgw.out aB cB i1 hi1 (HE.out.row.grown HBk.out.gr) (fun b' o e => by rw [← HG0.out]; exact (HE.out.rb b' o e).1)
          rw [HPP.out] at h3
          refine h3.mono ?_
          unfold AnPost
          rintro e w6 ⟨nb, cf, cp, cs, cb, rfl, g6, k1, k2, n1, n2, n3, n4, n5, cap⟩
          clear h3
          rw [← HPP.out] at cap
          obtain ⟨B, vals, b1, b2, own, bE, bs, bo, bl⟩ := HBk.out.ready (by omega) g6
          have HW : Hid _ := And.intro b1 (And.intro b2 (And.intro own (And.intro bE (And.intro bs (And.intro bo bl)))))
          have HK : Hid _ := And.intro g6 (And.intro k1 (And.intro k2 (And.intro n1 (And.intro n2 (And.intro n3 (And.intro n4 cap))))))
          clear g6 k1 k2 n1 n2 n3 n4 n5 cap b1 b2 own bE bs bo bl
          have hln := stps_len1 sk i0 i1 1
          go_wp2_with (at_builtin; refine wpList_append_own _ rfl _ _ 72 rfl B 91 ist .nilFunc 1 8 Try.underlying72 hi hz0 hz1 hz2 rfl (by decide) _ _ _ rfl HW.out.2.2.1 ⟨nb, 0, none⟩ 2 2 [StV cf cp cs cb false, StV cf cp cs cb true] rfl rfl (two_news HK.out.2.1 HK.out.2.2.1) (stv_one _ _ _ _) ?c3 ?c4 HW.out.2.1 ?_)
          case c3 => unfold maxLen; omega
          case c4 => omega
          · intro v' w7 o7 g7 _
            have HN : Hid (Bo w4 w7 fb bb db wb PP ys (1 + 1) (stps sk ([i0, i1].take (1 + 1))) v') := by
              have := Bo.app (j := 1) (by omega) (grown_trans HBk.out.gr HK.out.1) HW.out.1 HW.out.2.1 HW.out.2.2.1 (fun e => by omega) HW.out.2.2.2.2.1 HW.out.2.2.2.2.2.1 HW.out.2.2.2.2.2.2 HBk.out.two (fun e => (HBk.out.nil e).2) HK.out.2.2.2.1 HK.out.2.2.2.2.1 HK.out.2.2.2.2.2.1 HK.out.2.2.2.2.2.2.1 HK.out.2.2.2.2.2.2.2 hi1 (fun b' o e => (HE.out.rb b' o e).2) o7 g7
              have e := stps_take (sk := sk) (i0 := i0) (i1 := i1) (j := 1) (i := i1) (by omega) rfl
              rw [HSF.out, if_neg (by simp)] at e
              rw [e]
              exact this
            clear o7 g7 HW HK hln HBk HSF hgw
            go_wp2
            go_roundw
            case rel => exact ⟨1 + 1, by go_num, by omega, HN⟩
            case measure => simp [intOf]
        · simp only [Nat.mul_zero, Nat.mul_one, Nat.add_zero, Int.natCast_zero, Int.natCast_one, Int.ofNat_zero] at r0 r1 r2 r3 hqn hqp ⊢
          clear hql hq2 hnl
          go_wp2_with fail
          refine (hst2 _).mono ?_
          rintro e w8 ⟨rfl, g8⟩
          have HBk : Hid _ := HB.out.kept g8
          clear g8 HB r0 r1 r2 r3 hst2 hqp hqn
          obtain ⟨d0, d1, d2, d3, d4, d5, d6, d7⟩ := plan8 (HE.out.p.kept HBk.out.gr)
          have hgw : Hid (w.grownBy w8 none) := grown_trans HE.out.gr HBk.out.gr
          go_wp2_with fail
          clear d0 d1 d2 d3 d4 d5 d6 d7
          have h3 := HAN.out w8 hgw.out aB cB i1 hi1 (HE.out.row.grown HBk.out.gr) (fun b' o e => by rw [← HG0.out]; exact (HE.out.rb b' o e).1)
          rw [HPP.out] at h3
          refine h3.mono ?_
          unfold AnPost
          rintro e w6 ⟨nb, cf, cp, cs, cb, rfl, g6, k1, k2, n1, n2, n3, n4, n5, cap⟩
          clear h3
          rw [← HPP.out] at cap
          obtain ⟨B, vals, b1, b2, own, bE, bs, bo, bl⟩ := HBk.out.ready (by omega) g6
          have HW : Hid _ := And.intro b1 (And.intro b2 (And.intro own (And.intro bE (And.intro bs (And.intro bo bl)))))
          have HK : Hid _ := And.intro g6 (And.intro k1 (And.intro k2 (And.intro n1 (And.intro n2 (And.intro n3 (And.intro n4 cap))))))
          clear g6 k1 k2 n1 n2 n3 n4 n5 cap b1 b2 own bE bs bo bl
          have hln := stps_len1 sk i0 i1 1
          go_wp2_with (at_builtin; refine wpList_append_own _ rfl _ _ 72 rfl B 91 ist .nilFunc 1 8 Try.underlying72 hi hz0 hz1 hz2 rfl (by decide) _ _ _ rfl HW.out.2.2.1 ⟨nb, 0, none⟩ 2 2 [StV cf cp cs cb false, StV cf cp cs cb true] rfl rfl (two_news HK.out.2.1 HK.out.2.2.1) (stv_one _ _ _ _) ?c3 ?c4 HW.out.2.1 ?_)
          case c3 => unfold maxLen; omega
          case c4 => omega
          · intro v' w7 o7 g7 _
            have HN : Hid (Bo w4 w7 fb bb db wb PP ys (1 + 1) (stps sk ([i0, i1].take (1 + 1))) v') := by
              have := Bo.app (j := 1) (by omega) (grown_trans HBk.out.gr HK.out.1) HW.out.1 HW.out.2.1 HW.out.2.2.1 (fun e => by omega) HW.out.2.2.2.2.1 HW.out.2.2.2.2.2.1 HW.out.2.2.2.2.2.2 HBk.out.two (fun e => (HBk.out.nil e).2) HK.out.2.2.2.1 HK.out.2.2.2.2.1 HK.out.2.2.2.2.2.1 HK.out.2.2.2.2.2.2.1 HK.out.2.2.2.2.2.2.2 hi1 (fun b' o e => (HE.out.rb b' o e).2) o7 g7
              have e := stps_take (sk := sk) (i0 := i0) (i1 := i1) (j := 1) (i := i1) (by omega) rfl
              rw [HSF.out, if_neg (by simp)] at e
              rw [e]
              exact this
            clear o7 g7 HW HK hln HBk HSF hgw
            go_wp2
            go_roundw
            case rel => exact ⟨1 + 1, by go_num, by omega, HN⟩
            case measure => simp [intOf]
    · have hj0 : ((2 : Nat) : Int) = 2 := rfl
      rw [hj0]
      clear hj0 hj
      obtain ⟨a9, c9, rfl, hs9⟩ := HB.out.sts (fun k hk => Nat.lt_of_lt_of_le (HLT.out k hk) (by have := HE.out.gr.size; have := HG0.out; omega))
      have hgw : w.grownBy wr none := grown_trans HE.out.gr HB.out.gr
      have hr9 := HRN.out wr hgw a9 c9 _ hs9 rfl
      have HGW : Hid _ := hgw
      simp only [List.take_succ_cons, List.take_zero, List.take_nil] at hr9 ⊢
      clear hs9 hgw HRN HB HAN
      generalize (stps sk [i0, i1]).length = n9 at *
      go_wp2_with fail
      refine hr9.mono ?_
      rintro e w9 ⟨rfl, c1, c2⟩
      have HF : Hid _ := And.intro ((Chg.of_none HGW.out _).trans c1) c2
      clear c1 c2 HGW hr9
      go_wp2
      go_ret
      exact ⟨rfl, HF.out.1, HF.out.2⟩
end Go.Proofs.Ytfhgbddeclldnaa
