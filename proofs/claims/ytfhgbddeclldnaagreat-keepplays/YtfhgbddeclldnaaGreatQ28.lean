/- The document's keep: Switch and Repair, where nothing was told. -/
import Derived.Test.YtfhgbddeclldnaaGreatQ12
namespace Go.Proofs.YtfhgbddeclldnaaGreat
open Go.RowKit
set_option maxRecDepth 100000
set_option linter.unusedSimpArgs false
set_option linter.unusedVariables false

set_option maxHeartbeats 4000000 in
theorem krenew_at {w : World} {v : Value} {m : Fm} {F : Nat → Prop} {k : Nat} (hR : Rep w v m F) (hg : m.Good k) (hk : k < 90000) (hF : ∀ x, F x → x < w.heap.size) (P : Pa.Pl) (hP : P.ok) (r : Rc) (hr : r.ok) (hko : kok m P = true) (hrr : rrt r = true) (hof : m.off = false) (hkl : kli m = []) :
    Calls Tryz.prog 21 #[v, P.val, r.val, .bool true] w (WrPost (krn m P r true).1 (krn m P r true).2 F w) := by
  have hrt := fun W (g : w.grownBy W none) => kright_any (hR.grown g) hg P hP
  have hbr := fun W => rright_any r W
  have hld := fun W (g : w.grownBy W none) => kload_any (hR.grown g) hg P hP
  have hlo : klo m P = (kli m, 0) := by unfold klo; rw [if_neg (by rw [hko]; simp), if_neg (by rw [hof]; simp)]
  unfold LdPost at hld
  rw [hlo] at hld
  rw [hko] at hrt
  rw [hrr] at hbr
  have hkr : krn m P r true = krs m P r true 0 m := by unfold krn krs; rw [if_neg (by rw [hko, hrr]; simp), if_neg (by rw [hof]; simp), if_pos rfl]
  rw [hkr]
  have HWR : Hid (∀ W (n : Fm) v1 (i : Int) c (F2 : Nat → Prop), (∀ x, F2 x → x < W.heap.size) → Rep W v1 n F2 → n.Good c → c < 100000 → in64 i → Calls Tryz.prog 20 #[v1, P.val, .int .i64 i, r.val] W (WrPost (kwr n P i r).1 (kwr n P i r).2 F2 W)) := fun W n v1 i c F2 h2 h1 hgn hc hi => kwrite_any h1 hgn hc h2 P hP i hi r hr
  have HFF : Hid (∀ x, F x → x < w.heap.size) := hF
  have HRo : Hid (Rep w v m (own4 F w)) := hR.own hg
  have HOK : Hid (∀ x, (kda m x).1.ok) := fun x => kda_ok hR.byt x
  have HKL : Hid _ := hkl
  clear hkl
  clear hkr hlo hF
  obtain ⟨aB, aD, aW, aT, lB, cB, lD, cD, lW, cW, lT, cT, rfl⟩ := hR.form
  have K0 : Hid (Kw w _ w.heap.size [.int .i64 m.s, .int .i64 m.p, .int .i64 m.b, .slice aB lB cB, .slice aD lD cD, .slice aW lW cW, .int .i64 m.ops, .bool m.off, .int .i64 m.after, .slice aT lT cT] P r fz) := Kw.new w _ P r fz
  clear hR
  unfold fz at K0
  have HE : Hid (∃ R, R = krs m P r true 0 m) := ⟨_, rfl⟩
  obtain ⟨R, hRR⟩ := HE.out
  rw [← hRR]
  have HRR : Hid _ := hRR
  clear hRR HE
  generalize (m.s : Int) = ms at *
  generalize (m.p : Int) = mp at *
  generalize (m.b : Int) = mb at *
  generalize m.ops = ops at *
  generalize m.off = off at *
  generalize m.after = after at *
  have HX : Hid _ := And.intro hg (And.intro hk (And.intro hP hr))
  clear hg hk hP hr hko hrr hof
  obtain ⟨s, p, b, x0, x1, y0, y1, n⟩ := P
  obtain ⟨rq, rs, rl, ru⟩ := r
  obtain ⟨Rm, Re⟩ := R
  simp only [Pa.Pl.val, Pa.Pl.cells, Rc.val, Rc.cells] at hrt hbr K0 hld ⊢
  go_enter Tryz.func21, Tryz.ntmps21
  go_wp2_with fail
  refine (hrt _ K0.out.gr).mono ?_
  rintro e w1 ⟨rfl, g1⟩
  have KN := hidKw K0 g1
  clear K0 g1 hrt
  generalize w.heap.size = g at *
  obtain ⟨r0, r1, r2, r3⟩ := rec4 KN.out.r
  simp only
  go_wp2_with fail
  refine (hbr _).mono ?_
  rintro e w2 ⟨rfl, g2⟩
  have KN2 := hidKw KN g2
  clear KN g2 r0 r1 r2 r3 hbr
  obtain ⟨c0, c1, c2, c3, c4, c5, c6, c7, c8, c9⟩ := flash10 KN2.out.f
  obtain ⟨d0, d1, d2, d3, d4, d5, d6, d7⟩ := plan8 KN2.out.p
  simp only
  go_wp2_with fail
  refine (hld _ KN2.out.gr).mono ?_
  rintro e w3 ⟨g3, aL, nL, cL, aX, nX, cX, rfl, hnl, hnx, hfl, hfx, hls⟩
  have HLS : Hid _ := And.intro hls (And.intro hfl hfx)
  have KN3 := hidKw KN2 g3
  have HSZ : Hid (g + 4 ≤ w2.heap.size ∧ w2.grownBy w3 none) := ⟨(KN2.out.any rfl rfl).lt, g3⟩
  clear KN2 g3 c0 c1 c2 c3 c4 c5 c6 c7 c8 c9 d0 d1 d2 d3 d4 d5 d6 d7 hld hls hfl hfx
  have hxl : nX ≤ 2 := by
    have h1 := HLS.out.1.nW
    have h2 := kli_le m
    try simp only at h1
    omega
  have hff : 0 ≤ (kfi m : Int) ∧ (kfi m : Int) ≤ 1 := by have := kfi_lt m; omega
  have hcase : (nX = 0 ∧ (kfi m : Int) = 0) ∨ (0 < nX ∧ ∃ bx ox, aX = some ⟨bx, ox, none⟩ ∧ w3.cell? ⟨bx, ox, none⟩ = some (.int .i64 (kfi m : Int))) := by
    have hn := HLS.out.1.nW
    have hh := kfi_head m
    have hw := HLS.out.1.ws
    try simp only at hn hw
    cases hl : kli m with
    | nil => rw [hl] at hn hh; left; refine ⟨hn, ?_⟩; rw [← hh]; rfl
    | cons x xs =>
      right
      rw [hl] at hn hh hw
      obtain ⟨bx, ox, h1, h2⟩ := hw 0 x rfl
      have : x = kfi m := by rw [← hh]; rfl
      subst this
      exact ⟨by rw [hn]; simp, bx, ox, h1, h2⟩
  generalize hfi : (kfi m : Int) = fi at *
  have HFI : Hid _ := hfi
  clear hfi
  simp only
  rcases hcase with ⟨h0, h1⟩ | ⟨h0, bx, ox, rfl, hcx⟩
  · subst h0 h1
    go_wp2_with fail
    have ha4 := World.grownBy_alloc w3 (.cells #[.int .i64 1, .int .i64 0] 24) none
    have HK0 : Hid (Kl w (w3.alloc (.cells #[.int .i64 1, .int .i64 0] 24)) g w3.heap.size ⟨s, p, b, x0, x1, y0, y1, n⟩ ⟨rq, rs, rl, ru⟩ m F aL nL aX 0 k 0 m [.int .i64 ms, .int .i64 mp, .int .i64 mb, .slice aB lB cB, .slice aD lD cD, .slice aW lW cW, .int .i64 ops, .bool off, .int .i64 after, .slice aT lT cT]) := by
      refine ⟨KN3.out.kept ha4, ?_, HLS.out.1.kept ha4, ?_, ?_, ?_, HRo.out.grown (KN3.out.kept ha4).gr, ?_, rfl⟩
      · rw [HFI.out]
        exact Bx.new w3 24 [.int .i64 1, .int .i64 0]
      · intro b o e; have h1 := HLS.out.2.1 b o e; have h2 := HSZ.out.1; omega
      · intro b o e; have h1 := HLS.out.2.2 b o e; have h2 := HSZ.out.1; omega
      · have h2 := HSZ.out.1; have h3 := HSZ.out.2.size; omega
      · exact HX.out.1
    clear ha4 KN3 HLS HSZ HRo
    generalize w3.alloc (.cells #[.int .i64 1, .int .i64 0] 24) = W4 at *
    generalize w3.heap.size = gb at *
    go_loopw [15, 16, 17, 18, 19] (fun vi _ _ _ _ wr => ∃ (j : Nat) (n' : Fm) (s' p' b' ops' after' : Int) (off' : Bool) (aB' aD' aW' aT' : Option Addr) (lB' cB' lD' cD' lW' cW' lT' cT' : Nat), vi = .int .i64 j ∧ j ≤ 2 ∧ Hid (Kl w wr g gb ⟨s, p, b, x0, x1, y0, y1, n⟩ ⟨rq, rs, rl, ru⟩ m F aL nL aX 0 k j n' [.int .i64 s', .int .i64 p', .int .i64 b', .slice aB' lB' cB', .slice aD' lD' cD', .slice aW' lW' cW', .int .i64 ops', .bool off', .int .i64 after', .slice aT' lT' cT']) ∧ Hid ((Rm, Re) = krs m ⟨s, p, b, x0, x1, y0, y1, n⟩ ⟨rq, rs, rl, ru⟩ true j n')) (fun vi _ _ _ _ _ => 2 - (intOf vi).toNat)
    case atStart => exact ⟨0, m, _, _, _, _, _, _, _, _, _, _, _, _, _, _, _, _, _, _, rfl, by omega, HK0, HRR⟩
    case round =>
      clear HK0 HRR
      obtain ⟨j, n', s', p', b', ops', after', off', aB', aD', aW', aT', lB', cB', lD', cD', lW', cW', lT', cT', rfl, hj, HK, HR⟩ := hrel
      by_cases hj2 : j = 2
      · subst hj2
        obtain ⟨c0, c1, c2, c3, c4, c5, c6, c7, c8, c9⟩ := flash10 HK.out.kw.f
        have e := HR.out
        unfold krs at e
        rw [if_neg (by decide), if_neg (by decide)] at e
        injection e with e1 e2
        subst e1 e2
        clear HR
        go_wp2_with (((with_reducible refine fl_here ?_); refine wpList_store_bx rfl 42 _ _ rfl (g + 1 + 1 + 1) [.int .i64 s', .int .i64 p', .int .i64 b', .slice aB' lB' cB', .slice aD' lD' cD', .slice aW' lW' cW', .int .i64 ops', .bool off', .int .i64 after', .slice aT' lT' cT'] rfl rfl HK.out.kw.z fl_size rfl rfl ?_; intro W7 hb7 hg7; have KZ : Hid _ := HK.out.kw.setZ hb7 hg7; have H2 : Hid (Rep W7 _ Rm (own4 F w)) := HK.out.rep.stored hg7 (Or.inr (by have := HK.out.kw.sz; omega)); clear hb7 hg7; obtain ⟨z0, z1, z2, z3, z4, z5, z6, z7, z8, z9⟩ := flash10 KZ.out.z))
        refine bodyPost_ret (v := .tuple #[.agg #[.int .i64 s', .int .i64 p', .int .i64 b', .slice aB' lB' cB', .slice aD' lD' cD', .slice aW' lW' cW', .int .i64 ops', .bool off', .int .i64 after', .slice aT' lT' cT'], .int .i64 0]) (by simp [results, Tryz.results21, go_sem, z0, z1, z2, z3, z4, z5, z6, z7, z8, z9]) rfl ?_
        exact ⟨_, rfl, KZ.out.gr, H2.out.back⟩
      · have hj3 : j < 2 := by omega
        clear hj hj2
        have hjj : (j : Int) < 2 := by omega
        obtain rfl | rfl : j = 0 ∨ j = 1 := by omega
        · skip
          have HOJ : Hid ((kor m 0 : Int) = 1) := by
            have h1 := HFI.out
            have h2 := kfi_lt m
            show _ = _
            unfold kor
            rw [if_pos rfl]
            omega
          go_wp2_with fail
          go_loopw [16, 17] (fun vh vk wr' => ∃ q : Nat, vk = .int .i64 q ∧ q ≤ 0 ∧ vh = .bool (khk m ⟨rq, rs, rl, ru⟩ (kor m 0) (kli m) q) ∧ Hid (Kl w wr' g gb ⟨s, p, b, x0, x1, y0, y1, n⟩ ⟨rq, rs, rl, ru⟩ m F aL nL aX 0 k 0 n' [.int .i64 s', .int .i64 p', .int .i64 b', .slice aB' lB' cB', .slice aD' lD' cD', .slice aW' lW' cW', .int .i64 ops', .bool off', .int .i64 after', .slice aT' lT' cT'])) (fun _ vk _ => 0 - (intOf vk).toNat)
          case atStart => exact ⟨0, rfl, Nat.zero_le _, by unfold khk; rfl, HK⟩
          case round =>
            clear HK
            obtain ⟨q, rfl, hq, rfl, HK⟩ := hrel
            by_cases hq2 : q = 0
            · subst hq2
              have hkh : khk m ⟨rq, rs, rl, ru⟩ (kor m 0) (kli m) 0 = khs m (kor m 0) ⟨rq, rs, rl, ru⟩ := by
                have e := HK.out.ls.nW
                try simp only at e
                rw [e]
                exact khk_all (by unfold kor; have := kfi_lt m; split <;> omega)
              rw [hkh]
              clear hkh
              have hst := krs_step m ⟨s, p, b, x0, x1, y0, y1, n⟩ ⟨rq, rs, rl, ru⟩ true 0 (by decide) n'
              rw [← HR.out] at hst
              have hko : kon m ⟨s, p, b, x0, x1, y0, y1, n⟩ ⟨rq, rs, rl, ru⟩ true (kor m 0) n' = if (!true && khs m (kor m 0) ⟨rq, rs, rl, ru⟩) = true then (n', 0) else kwr n' ⟨s, p, b, x0, x1, y0, y1, n⟩ (kor m 0 : Int) ⟨rq, rs, rl, ru⟩ := rfl
              rw [HOJ.out] at hko
              generalize khs m (kor m 0) ⟨rq, rs, rl, ru⟩ = hs at *
              generalize kon m ⟨s, p, b, x0, x1, y0, y1, n⟩ ⟨rq, rs, rl, ru⟩ true (kor m 0) n' = KO at *
              rw [if_neg (by simp)] at hko
              subst hko
              have HREL : Hid (∀ (a : Fm) (e : Int), kwr n' ⟨s, p, b, x0, x1, y0, y1, n⟩ 1 ⟨rq, rs, rl, ru⟩ = (a, e) → e = 0 → (Rm, Re) = krs m ⟨s, p, b, x0, x1, y0, y1, n⟩ ⟨rq, rs, rl, ru⟩ true 1 a) := by
                intro a e h1 h2
                rw [h1, if_neg (by simpa using h2)] at hst
                exact hst
              have HREL2 : Hid (∀ (a : Fm) (e : Int), kwr n' ⟨s, p, b, x0, x1, y0, y1, n⟩ 1 ⟨rq, rs, rl, ru⟩ = (a, e) → e ≠ 0 → (Rm, Re) = (a, e)) := by
                intro a e h1 h2
                rw [h1, if_pos h2] at hst
                exact hst
              clear hst HR
              have HSZW : Hid (w.heap.size = g) := HK.out.kw.sz
              go_wp2_with fail
              have hS9 := HK.out.kept (Pa.drewG _)
              refine wp_region_held_drew (S := fun w' => Kl w w' g gb ⟨s, p, b, x0, x1, y0, y1, n⟩ ⟨rq, rs, rl, ru⟩ m F aL nL aX 0 k 0 n' [.int .i64 s', .int .i64 p', .int .i64 b', .slice aB' lB' cB', .slice aD' lD' cD', .slice aW' lW' cW', .int .i64 ops', .bool off', .int .i64 after', .slice aT' lT' cT']) (by kernel_rfl) hS9 (fun hH => ?_)
              clear hS9 HK
              refine wpAnyH_take (i := 0) (oi := ⟨some 86, _, _, _, _, _⟩) (v := .agg #[.int .i64 s', .int .i64 p', .int .i64 b', .slice aB' lB' cB', .slice aD' lD' cD', .slice aW' lW' cW', .int .i64 ops', .bool off', .int .i64 after', .slice aT' lT' cT']) rfl (by kernel_rfl) (by kernel_rfl) (by kernel_rfl) (fun _ _ _ h => h) (Or.inl ⟨by rfl, fun w hSw => by obtain ⟨c0, c1, c2, c3, c4, c5, c6, c7, c8, c9⟩ := flash10 hSw.kw.f; go_simp⟩) hH ?_
              simp only [Act.put, List.setIfInBounds_toArray, List.set_cons_zero, List.set_cons_succ]
              refine wpAnyH_take (i := 1) (oi := ⟨some 87, _, _, _, _, _⟩) (v := .agg #[.int .i64 s, .int .i64 p, .int .i64 b, .int .i64 x0, .int .i64 x1, .int .i64 y0, .int .i64 y1, .int .i64 n]) rfl (by kernel_rfl) (by kernel_rfl) (by kernel_rfl) (fun _ _ _ h => h) (Or.inl ⟨by rfl, fun w hSw => by obtain ⟨d0, d1, d2, d3, d4, d5, d6, d7⟩ := plan8 hSw.kw.p; go_simp⟩) hH ?_
              simp only [Act.put, List.setIfInBounds_toArray, List.set_cons_zero, List.set_cons_succ]
              refine wpAnyH_take (i := 2) (oi := ⟨some 88, _, _, _, _, _⟩) (v := .int .i64 0) rfl (by kernel_rfl) (by kernel_rfl) (by kernel_rfl) (fun _ _ _ h => h) (Or.inl ⟨by rfl, fun w hSw => by go_simp⟩) hH ?_
              simp only [Act.put, List.setIfInBounds_toArray, List.set_cons_zero, List.set_cons_succ]
              refine wpAnyH_take (i := 3) (oi := ⟨some 89, _, _, _, _, _⟩) (v := .pointer (some ⟨gb, 0, none⟩)) rfl (by kernel_rfl) (by kernel_rfl) (by kernel_rfl) (fun _ _ _ h => h) (Or.inl ⟨by rfl, fun w hSw => by go_simp⟩) hH ?_
              simp only [Act.put, List.setIfInBounds_toArray, List.set_cons_zero, List.set_cons_succ]
              refine wpAnyH_take (i := 4) (oi := ⟨some 90, _, _, _, _, _⟩) (v := .int .i64 1) rfl (by kernel_rfl) (by kernel_rfl) (by kernel_rfl) (fun _ _ _ h => h) (Or.inl ⟨by rfl, fun w hSw => by obtain ⟨od0, od1⟩ := bx2 hSw.od; rw [HFI.out] at od0 od1; go_simp⟩) hH ?_
              simp only [Act.put, List.setIfInBounds_toArray, List.set_cons_zero, List.set_cons_succ]
              refine wpAnyH_take (i := 5) (oi := ⟨some 91, _, _, _, _, _⟩) (v := .agg #[.int .u64 rq, .int .i64 rs, .int .i64 rl, .int .u64 ru]) rfl (by kernel_rfl) (by kernel_rfl) (by kernel_rfl) (fun _ _ _ h => h) (Or.inl ⟨by rfl, fun w hSw => by obtain ⟨r0, r1, r2, r3⟩ := rec4 hSw.kw.r; go_simp⟩) hH ?_
              simp only [Act.put, List.setIfInBounds_toArray, List.set_cons_zero, List.set_cons_succ]
              refine wpAnyH_ready (rs := [6, 10]) (by kernel_rfl) (by simp) ?_
              refine AllReadyH.cons rfl (fun K hK => ?_) (AllReadyH.cons rfl (fun K hK => ?_) AllReadyH.nil)
              · skip
                go_simp
                go_wp2_with (go_at_call 20; refine (HWR.out _ _ _ _ _ _ (hH.own HFF.out rfl) hH.rep hH.good (by have := HX.out.2.1; omega) (by unfold in64; omega)).mono ?_; rintro e wA ⟨v2, rfl, gA, hR2⟩)
                have hgd : (kwr n' ⟨s, p, b, x0, x1, y0, y1, n⟩ 1 ⟨rq, rs, rl, ru⟩).1.Good (k + 2 * (0 + 1)) := good_kwr hH.good _ _ _
                replace hH := hH.kept gA
                obtain ⟨aB2, aD2, aW2, aT2, lB2, cB2, lD2, cD2, lW2, cW2, lT2, cT2, rfl⟩ := hR2.form
                have H3 : Hid (Rep wA _ (kwr n' ⟨s, p, b, x0, x1, y0, y1, n⟩ 1 ⟨rq, rs, rl, ru⟩).1 (own4 F w)) := hR2
                clear gA hR2
                generalize hkw : kwr n' ⟨s, p, b, x0, x1, y0, y1, n⟩ 1 ⟨rq, rs, rl, ru⟩ = KW at *
                obtain ⟨m2, eW⟩ := KW
                have HGD : Hid _ := And.intro hgd hkw
                clear hgd hkw
                simp only at H3 ⊢
                generalize (m2.s : Int) = s2 at *
                generalize (m2.p : Int) = p2 at *
                generalize (m2.b : Int) = b2 at *
                generalize m2.ops = ops2 at *
                generalize m2.off = off2 at *
                generalize m2.after = after2 at *
                have HBASE : Hid _ := hH
                refine hK.out _ _ hH (fun _ => ?_)
                clear hK K
                refine wpAnyH_take (i := 7) (oi := ⟨some 85, _, _, _, _, _⟩) (v := .tuple #[.agg #[.int .i64 s2, .int .i64 p2, .int .i64 b2, .slice aB2 lB2 cB2, .slice aD2 lD2 cD2, .slice aW2 lW2 cW2, .int .i64 ops2, .bool off2, .int .i64 after2, .slice aT2 lT2 cT2], .int .i64 eW]) rfl (by kernel_rfl) (by kernel_rfl) (by kernel_rfl) (fun _ _ _ h => h) (Or.inl ⟨by rfl, fun w hSw => by go_simp⟩) hH ?_
                simp only [Act.put, List.setIfInBounds_toArray, List.set_cons_zero, List.set_cons_succ]
                refine wpAnyH_take (i := 8) (oi := ⟨some 93, _, _, _, _, _⟩) (v := .agg #[.int .i64 s2, .int .i64 p2, .int .i64 b2, .slice aB2 lB2 cB2, .slice aD2 lD2 cD2, .slice aW2 lW2 cW2, .int .i64 ops2, .bool off2, .int .i64 after2, .slice aT2 lT2 cT2]) rfl (by kernel_rfl) (by kernel_rfl) (by kernel_rfl) (fun _ _ _ h => h) (Or.inl ⟨by rfl, fun w hSw => by go_simp⟩) hH ?_
                simp only [Act.put, List.setIfInBounds_toArray, List.set_cons_zero, List.set_cons_succ]
                refine wpAnyH_take (i := 9) (oi := ⟨some 94, _, _, _, _, _⟩) (v := .int .i64 eW) rfl (by kernel_rfl) (by kernel_rfl) (by kernel_rfl) (fun _ _ _ h => h) (Or.inl ⟨by rfl, fun w hSw => by go_simp⟩) hH ?_
                simp only [Act.put, List.setIfInBounds_toArray, List.set_cons_zero, List.set_cons_succ]
                refine wpAnyH_ready (rs := [10]) (by kernel_rfl) (by simp) ?_
                refine AllReadyH.cons rfl (fun K hK => ?_) AllReadyH.nil
                refine ifw (by rfl) ?_
                go_wp2
                have HAL : Hid _ := HBASE.out.alc [.int .i64 0, .int .i64 0, .int .i64 0, .slice none 0 0, .slice none 0 0, .slice none 0 0, .int .i64 0, .bool false, .int .i64 0, .slice none 0 0]
                refine hK.out _ _ (HBASE.out.kept HAL.out.1) (fun hH => ?_)
                clear hK K
                refine wpAnyH_ready (rs := [11]) (by kernel_rfl) (by simp) ?_
                refine AllReadyH.cons rfl (fun K hK => ?_) AllReadyH.nil
                refine ifw (by rfl) ?_
                refine op_store_bx 42 _ _ rfl _ [.int .i64 s2, .int .i64 p2, .int .i64 b2, .slice aB2 lB2 cB2, .slice aD2 lD2 cD2, .slice aW2 lW2 cW2, .int .i64 ops2, .bool off2, .int .i64 after2, .slice aT2 lT2 cT2] rfl rfl HAL.out.2.1 fl_size rfl rfl ?_
                intro W8 hb8 hg8
                have GX : wA.grownBy W8 none := grown_new HAL.out.1 hg8 (Nat.le_refl _)
                have HK8 : Hid _ := HBASE.out.kept GX
                have H8 : Hid (Rep W8 _ m2 (own4 F w)) := H3.out.grown GX
                have HV : Hid _ := hb8
                clear hb8 hg8 GX HAL HBASE H3 hH
                have hH := HK8.out
                refine hK.out _ _ hH (fun _ => ?_)
                clear hK K
                refine wpAnyH_take (i := 12) (oi := ⟨some 19, _, _, _, _, _⟩) (v := .int .i64 eW) rfl (by kernel_rfl) (by kernel_rfl) (by kernel_rfl) (fun _ _ _ h => h) (Or.inl ⟨by rfl, fun w hSw => by go_simp⟩) hH ?_
                simp only [Act.put, List.setIfInBounds_toArray, List.set_cons_zero, List.set_cons_succ]
                refine wpAnyH_done (by kernel_rfl) ?_ _
                clear hH
                obtain ⟨v0, v1, v2, v3, v4, v5, v6, v7, v8, v9⟩ := flash10 HV.out
                clear HV
                have hew : eW = 0 ∨ eW ≠ 0 := Decidable.em _
                rcases hew with rfl | hew
                · go_wp2_with (((with_reducible refine fl_here ?_); refine wpList_store_bx rfl 42 _ _ rfl g [.int .i64 s2, .int .i64 p2, .int .i64 b2, .slice aB2 lB2 cB2, .slice aD2 lD2 cD2, .slice aW2 lW2 cW2, .int .i64 ops2, .bool off2, .int .i64 after2, .slice aT2 lT2 cT2] rfl rfl HK8.out.kw.f fl_size rfl rfl ?_; intro W9 hb9 hg9; have HK9 : Hid _ := HK8.out.setF H8.out HGD.out.1 rfl hb9 hg9; clear hb9 hg9; obtain ⟨c0, c1, c2, c3, c4, c5, c6, c7, c8, c9⟩ := flash10 HK9.out.kw.f))
                  go_roundw
                  case rel => exact ⟨1, m2, _, _, _, _, _, _, _, _, _, _, _, _, _, _, _, _, _, _, by go_num, by omega, HK9, HREL.out _ _ rfl rfl⟩
                  case measure => simp [intOf]
                · have hew2 : (eW == 0) = false := by simpa using hew
                  have e := HREL2.out _ _ rfl hew
                  injection e with e1 e2
                  subst e1 e2
                  go_wp2_with (first | ((with_reducible refine fl_here ?_); refine wpList_store_bx rfl 42 _ _ rfl g [.int .i64 s2, .int .i64 p2, .int .i64 b2, .slice aB2 lB2 cB2, .slice aD2 lD2 cD2, .slice aW2 lW2 cW2, .int .i64 ops2, .bool off2, .int .i64 after2, .slice aT2 lT2 cT2] rfl rfl HK8.out.kw.f fl_size rfl rfl ?_; intro W9 hb9 hg9; have HK9 : Hid _ := HK8.out.setF H8.out HGD.out.1 rfl hb9 hg9; clear hb9 hg9; obtain ⟨c0, c1, c2, c3, c4, c5, c6, c7, c8, c9⟩ := flash10 HK9.out.kw.f) | ((with_reducible refine fl_here ?_); refine wpList_store_bx rfl 42 _ _ rfl (g + 1 + 1 + 1) [.int .i64 s2, .int .i64 p2, .int .i64 b2, .slice aB2 lB2 cB2, .slice aD2 lD2 cD2, .slice aW2 lW2 cW2, .int .i64 ops2, .bool off2, .int .i64 after2, .slice aT2 lT2 cT2] rfl rfl HK9.out.kw.z fl_size rfl rfl ?_; intro W7 hb7 hg7; have KZ : Hid _ := HK9.out.kw.setZ hb7 hg7; have H2 : Hid (Rep W7 _ Rm (own4 F w)) := HK9.out.rep.stored hg7 (Or.inr (by have := HK9.out.kw.sz; omega)); clear hb7 hg7; obtain ⟨z0, z1, z2, z3, z4, z5, z6, z7, z8, z9⟩ := flash10 KZ.out.z))
                  refine bodyPost_ret (v := .tuple #[.agg #[.int .i64 s2, .int .i64 p2, .int .i64 b2, .slice aB2 lB2 cB2, .slice aD2 lD2 cD2, .slice aW2 lW2 cW2, .int .i64 ops2, .bool off2, .int .i64 after2, .slice aT2 lT2 cT2], .int .i64 Re]) (by simp [results, Tryz.results21, go_sem, z0, z1, z2, z3, z4, z5, z6, z7, z8, z9]) rfl ?_
                  exact ⟨_, rfl, KZ.out.gr, H2.out.back⟩
              · skip
                refine ifw (by rfl) ?_
                go_wp2
                have HBASE : Hid _ := hH
                have HAL : Hid _ := hH.alc [.int .i64 0, .int .i64 0, .int .i64 0, .slice none 0 0, .slice none 0 0, .slice none 0 0, .int .i64 0, .bool false, .int .i64 0, .slice none 0 0]
                refine hK.out _ _ (hH.kept HAL.out.1) (fun hH2 => ?_)
                clear hK K hH
                have hH := hH2
                clear hH2
                have HLX : Hid _ := hH.own1 HFF.out rfl HBASE.out HAL.out.1
                refine wpAnyH_ready (rs := [6]) (by kernel_rfl) (by simp) ?_
                refine AllReadyH.cons rfl (fun K hK => ?_) AllReadyH.nil
                go_simp
                go_wp2_with (go_at_call 20; refine (HWR.out _ _ _ _ _ _ HLX.out HAL.out.2.2 HBASE.out.good (by have := HX.out.2.1; omega) (by unfold in64; omega)).mono ?_; rintro e wA ⟨v2, rfl, gA, hR2⟩)
                have hgd : (kwr n' ⟨s, p, b, x0, x1, y0, y1, n⟩ 1 ⟨rq, rs, rl, ru⟩).1.Good (k + 2 * (0 + 1)) := good_kwr hH.good _ _ _
                replace hH := hH.kept gA
                obtain ⟨aB2, aD2, aW2, aT2, lB2, cB2, lD2, cD2, lW2, cW2, lT2, cT2, rfl⟩ := hR2.form
                have H3 : Hid (Rep wA _ (kwr n' ⟨s, p, b, x0, x1, y0, y1, n⟩ 1 ⟨rq, rs, rl, ru⟩).1 _) := hR2
                have HBN : Hid _ := HAL.out.2.1.kept gA
                have HGA : Hid _ := grown_trans HAL.out.1 gA
                clear gA hR2 HLX
                generalize hkw : kwr n' ⟨s, p, b, x0, x1, y0, y1, n⟩ 1 ⟨rq, rs, rl, ru⟩ = KW at *
                obtain ⟨m2, eW⟩ := KW
                have HGD : Hid _ := And.intro hgd hkw
                clear hgd hkw
                simp only at H3 ⊢
                generalize (m2.s : Int) = s2 at *
                generalize (m2.p : Int) = p2 at *
                generalize (m2.b : Int) = b2 at *
                generalize m2.ops = ops2 at *
                generalize m2.off = off2 at *
                generalize m2.after = after2 at *
                refine hK.out _ _ hH (fun _ => ?_)
                clear hK K
                refine wpAnyH_take (i := 7) (oi := ⟨some 85, _, _, _, _, _⟩) (v := .tuple #[.agg #[.int .i64 s2, .int .i64 p2, .int .i64 b2, .slice aB2 lB2 cB2, .slice aD2 lD2 cD2, .slice aW2 lW2 cW2, .int .i64 ops2, .bool off2, .int .i64 after2, .slice aT2 lT2 cT2], .int .i64 eW]) rfl (by kernel_rfl) (by kernel_rfl) (by kernel_rfl) (fun _ _ _ h => h) (Or.inl ⟨by rfl, fun w hSw => by go_simp⟩) hH ?_
                simp only [Act.put, List.setIfInBounds_toArray, List.set_cons_zero, List.set_cons_succ]
                refine wpAnyH_take (i := 8) (oi := ⟨some 93, _, _, _, _, _⟩) (v := .agg #[.int .i64 s2, .int .i64 p2, .int .i64 b2, .slice aB2 lB2 cB2, .slice aD2 lD2 cD2, .slice aW2 lW2 cW2, .int .i64 ops2, .bool off2, .int .i64 after2, .slice aT2 lT2 cT2]) rfl (by kernel_rfl) (by kernel_rfl) (by kernel_rfl) (fun _ _ _ h => h) (Or.inl ⟨by rfl, fun w hSw => by go_simp⟩) hH ?_
                simp only [Act.put, List.setIfInBounds_toArray, List.set_cons_zero, List.set_cons_succ]
                refine wpAnyH_take (i := 9) (oi := ⟨some 94, _, _, _, _, _⟩) (v := .int .i64 eW) rfl (by kernel_rfl) (by kernel_rfl) (by kernel_rfl) (fun _ _ _ h => h) (Or.inl ⟨by rfl, fun w hSw => by go_simp⟩) hH ?_
                simp only [Act.put, List.setIfInBounds_toArray, List.set_cons_zero, List.set_cons_succ]
                refine wpAnyH_ready (rs := [11]) (by kernel_rfl) (by simp) ?_
                refine AllReadyH.cons rfl (fun K hK => ?_) AllReadyH.nil
                refine ifw (by rfl) ?_
                refine op_store_bx 42 _ _ rfl _ [.int .i64 s2, .int .i64 p2, .int .i64 b2, .slice aB2 lB2 cB2, .slice aD2 lD2 cD2, .slice aW2 lW2 cW2, .int .i64 ops2, .bool off2, .int .i64 after2, .slice aT2 lT2 cT2] rfl rfl HBN.out fl_size rfl rfl ?_
                intro W8 hb8 hg8
                have GX := grown_new HGA.out hg8 (Nat.le_refl _)
                have HK8 : Hid _ := HBASE.out.kept GX
                have H8 : Hid (Rep W8 _ m2 (own4 F w)) := (H3.out.stored hg8 (Or.inr rfl)).less (fun _ h => Or.inl h)
                have HV : Hid _ := hb8
                clear hb8 hg8 GX HAL HBASE H3 hH HBN HGA
                have hH := HK8.out
                refine hK.out _ _ hH (fun _ => ?_)
                clear hK K
                refine wpAnyH_take (i := 12) (oi := ⟨some 19, _, _, _, _, _⟩) (v := .int .i64 eW) rfl (by kernel_rfl) (by kernel_rfl) (by kernel_rfl) (fun _ _ _ h => h) (Or.inl ⟨by rfl, fun w hSw => by go_simp⟩) hH ?_
                simp only [Act.put, List.setIfInBounds_toArray, List.set_cons_zero, List.set_cons_succ]
                refine wpAnyH_done (by kernel_rfl) ?_ _
                clear hH
                obtain ⟨v0, v1, v2, v3, v4, v5, v6, v7, v8, v9⟩ := flash10 HV.out
                clear HV
                have hew : eW = 0 ∨ eW ≠ 0 := Decidable.em _
                rcases hew with rfl | hew
                · go_wp2_with (((with_reducible refine fl_here ?_); refine wpList_store_bx rfl 42 _ _ rfl g [.int .i64 s2, .int .i64 p2, .int .i64 b2, .slice aB2 lB2 cB2, .slice aD2 lD2 cD2, .slice aW2 lW2 cW2, .int .i64 ops2, .bool off2, .int .i64 after2, .slice aT2 lT2 cT2] rfl rfl HK8.out.kw.f fl_size rfl rfl ?_; intro W9 hb9 hg9; have HK9 : Hid _ := HK8.out.setF H8.out HGD.out.1 rfl hb9 hg9; clear hb9 hg9; obtain ⟨c0, c1, c2, c3, c4, c5, c6, c7, c8, c9⟩ := flash10 HK9.out.kw.f))
                  go_roundw
                  case rel => exact ⟨1, m2, _, _, _, _, _, _, _, _, _, _, _, _, _, _, _, _, _, _, by go_num, by omega, HK9, HREL.out _ _ rfl rfl⟩
                  case measure => simp [intOf]
                · have hew2 : (eW == 0) = false := by simpa using hew
                  have e := HREL2.out _ _ rfl hew
                  injection e with e1 e2
                  subst e1 e2
                  go_wp2_with (first | ((with_reducible refine fl_here ?_); refine wpList_store_bx rfl 42 _ _ rfl g [.int .i64 s2, .int .i64 p2, .int .i64 b2, .slice aB2 lB2 cB2, .slice aD2 lD2 cD2, .slice aW2 lW2 cW2, .int .i64 ops2, .bool off2, .int .i64 after2, .slice aT2 lT2 cT2] rfl rfl HK8.out.kw.f fl_size rfl rfl ?_; intro W9 hb9 hg9; have HK9 : Hid _ := HK8.out.setF H8.out HGD.out.1 rfl hb9 hg9; clear hb9 hg9; obtain ⟨c0, c1, c2, c3, c4, c5, c6, c7, c8, c9⟩ := flash10 HK9.out.kw.f) | ((with_reducible refine fl_here ?_); refine wpList_store_bx rfl 42 _ _ rfl (g + 1 + 1 + 1) [.int .i64 s2, .int .i64 p2, .int .i64 b2, .slice aB2 lB2 cB2, .slice aD2 lD2 cD2, .slice aW2 lW2 cW2, .int .i64 ops2, .bool off2, .int .i64 after2, .slice aT2 lT2 cT2] rfl rfl HK9.out.kw.z fl_size rfl rfl ?_; intro W7 hb7 hg7; have KZ : Hid _ := HK9.out.kw.setZ hb7 hg7; have H2 : Hid (Rep W7 _ Rm (own4 F w)) := HK9.out.rep.stored hg7 (Or.inr (by have := HK9.out.kw.sz; omega)); clear hb7 hg7; obtain ⟨z0, z1, z2, z3, z4, z5, z6, z7, z8, z9⟩ := flash10 KZ.out.z))
                  refine bodyPost_ret (v := .tuple #[.agg #[.int .i64 s2, .int .i64 p2, .int .i64 b2, .slice aB2 lB2 cB2, .slice aD2 lD2 cD2, .slice aW2 lW2 cW2, .int .i64 ops2, .bool off2, .int .i64 after2, .slice aT2 lT2 cT2], .int .i64 Re]) (by simp [results, Tryz.results21, go_sem, z0, z1, z2, z3, z4, z5, z6, z7, z8, z9]) rfl ?_
                  exact ⟨_, rfl, KZ.out.gr, H2.out.back⟩
            · omega
        · skip
          have HOJ : Hid ((kor m 1 : Int) = 0) := by
            have h1 := HFI.out
            have h2 := kfi_lt m
            show _ = _
            unfold kor
            rw [if_neg (by decide)]
            omega
          go_wp2_with fail
          go_loopw [16, 17] (fun vh vk wr' => ∃ q : Nat, vk = .int .i64 q ∧ q ≤ 0 ∧ vh = .bool (khk m ⟨rq, rs, rl, ru⟩ (kor m 1) (kli m) q) ∧ Hid (Kl w wr' g gb ⟨s, p, b, x0, x1, y0, y1, n⟩ ⟨rq, rs, rl, ru⟩ m F aL nL aX 0 k 1 n' [.int .i64 s', .int .i64 p', .int .i64 b', .slice aB' lB' cB', .slice aD' lD' cD', .slice aW' lW' cW', .int .i64 ops', .bool off', .int .i64 after', .slice aT' lT' cT'])) (fun _ vk _ => 0 - (intOf vk).toNat)
          case atStart => exact ⟨0, rfl, Nat.zero_le _, by unfold khk; rfl, HK⟩
          case round =>
            clear HK
            obtain ⟨q, rfl, hq, rfl, HK⟩ := hrel
            by_cases hq2 : q = 0
            · subst hq2
              have hkh : khk m ⟨rq, rs, rl, ru⟩ (kor m 1) (kli m) 0 = khs m (kor m 1) ⟨rq, rs, rl, ru⟩ := by
                have e := HK.out.ls.nW
                try simp only at e
                rw [e]
                exact khk_all (by unfold kor; have := kfi_lt m; split <;> omega)
              rw [hkh]
              clear hkh
              have hst := krs_step m ⟨s, p, b, x0, x1, y0, y1, n⟩ ⟨rq, rs, rl, ru⟩ true 1 (by decide) n'
              rw [← HR.out] at hst
              have hko : kon m ⟨s, p, b, x0, x1, y0, y1, n⟩ ⟨rq, rs, rl, ru⟩ true (kor m 1) n' = if (!true && khs m (kor m 1) ⟨rq, rs, rl, ru⟩) = true then (n', 0) else kwr n' ⟨s, p, b, x0, x1, y0, y1, n⟩ (kor m 1 : Int) ⟨rq, rs, rl, ru⟩ := rfl
              rw [HOJ.out] at hko
              generalize khs m (kor m 1) ⟨rq, rs, rl, ru⟩ = hs at *
              generalize kon m ⟨s, p, b, x0, x1, y0, y1, n⟩ ⟨rq, rs, rl, ru⟩ true (kor m 1) n' = KO at *
              rw [if_neg (by simp)] at hko
              subst hko
              have HREL : Hid (∀ (a : Fm) (e : Int), kwr n' ⟨s, p, b, x0, x1, y0, y1, n⟩ 0 ⟨rq, rs, rl, ru⟩ = (a, e) → e = 0 → (Rm, Re) = krs m ⟨s, p, b, x0, x1, y0, y1, n⟩ ⟨rq, rs, rl, ru⟩ true 2 a) := by
                intro a e h1 h2
                rw [h1, if_neg (by simpa using h2)] at hst
                exact hst
              have HREL2 : Hid (∀ (a : Fm) (e : Int), kwr n' ⟨s, p, b, x0, x1, y0, y1, n⟩ 0 ⟨rq, rs, rl, ru⟩ = (a, e) → e ≠ 0 → (Rm, Re) = (a, e)) := by
                intro a e h1 h2
                rw [h1, if_pos h2] at hst
                exact hst
              clear hst HR
              have HSZW : Hid (w.heap.size = g) := HK.out.kw.sz
              go_wp2_with fail
              have hS9 := HK.out.kept (Pa.drewG _)
              refine wp_region_held_drew (S := fun w' => Kl w w' g gb ⟨s, p, b, x0, x1, y0, y1, n⟩ ⟨rq, rs, rl, ru⟩ m F aL nL aX 0 k 1 n' [.int .i64 s', .int .i64 p', .int .i64 b', .slice aB' lB' cB', .slice aD' lD' cD', .slice aW' lW' cW', .int .i64 ops', .bool off', .int .i64 after', .slice aT' lT' cT']) (by kernel_rfl) hS9 (fun hH => ?_)
              clear hS9 HK
              refine wpAnyH_take (i := 0) (oi := ⟨some 86, _, _, _, _, _⟩) (v := .agg #[.int .i64 s', .int .i64 p', .int .i64 b', .slice aB' lB' cB', .slice aD' lD' cD', .slice aW' lW' cW', .int .i64 ops', .bool off', .int .i64 after', .slice aT' lT' cT']) rfl (by kernel_rfl) (by kernel_rfl) (by kernel_rfl) (fun _ _ _ h => h) (Or.inl ⟨by rfl, fun w hSw => by obtain ⟨c0, c1, c2, c3, c4, c5, c6, c7, c8, c9⟩ := flash10 hSw.kw.f; go_simp⟩) hH ?_
              simp only [Act.put, List.setIfInBounds_toArray, List.set_cons_zero, List.set_cons_succ]
              refine wpAnyH_take (i := 1) (oi := ⟨some 87, _, _, _, _, _⟩) (v := .agg #[.int .i64 s, .int .i64 p, .int .i64 b, .int .i64 x0, .int .i64 x1, .int .i64 y0, .int .i64 y1, .int .i64 n]) rfl (by kernel_rfl) (by kernel_rfl) (by kernel_rfl) (fun _ _ _ h => h) (Or.inl ⟨by rfl, fun w hSw => by obtain ⟨d0, d1, d2, d3, d4, d5, d6, d7⟩ := plan8 hSw.kw.p; go_simp⟩) hH ?_
              simp only [Act.put, List.setIfInBounds_toArray, List.set_cons_zero, List.set_cons_succ]
              refine wpAnyH_take (i := 2) (oi := ⟨some 88, _, _, _, _, _⟩) (v := .int .i64 1) rfl (by kernel_rfl) (by kernel_rfl) (by kernel_rfl) (fun _ _ _ h => h) (Or.inl ⟨by rfl, fun w hSw => by go_simp⟩) hH ?_
              simp only [Act.put, List.setIfInBounds_toArray, List.set_cons_zero, List.set_cons_succ]
              refine wpAnyH_take (i := 3) (oi := ⟨some 89, _, _, _, _, _⟩) (v := .pointer (some ⟨gb, 1, none⟩)) rfl (by kernel_rfl) (by kernel_rfl) (by kernel_rfl) (fun _ _ _ h => h) (Or.inl ⟨by rfl, fun w hSw => by go_simp⟩) hH ?_
              simp only [Act.put, List.setIfInBounds_toArray, List.set_cons_zero, List.set_cons_succ]
              refine wpAnyH_take (i := 4) (oi := ⟨some 90, _, _, _, _, _⟩) (v := .int .i64 0) rfl (by kernel_rfl) (by kernel_rfl) (by kernel_rfl) (fun _ _ _ h => h) (Or.inl ⟨by rfl, fun w hSw => by obtain ⟨od0, od1⟩ := bx2 hSw.od; rw [HFI.out] at od0 od1; go_simp⟩) hH ?_
              simp only [Act.put, List.setIfInBounds_toArray, List.set_cons_zero, List.set_cons_succ]
              refine wpAnyH_take (i := 5) (oi := ⟨some 91, _, _, _, _, _⟩) (v := .agg #[.int .u64 rq, .int .i64 rs, .int .i64 rl, .int .u64 ru]) rfl (by kernel_rfl) (by kernel_rfl) (by kernel_rfl) (fun _ _ _ h => h) (Or.inl ⟨by rfl, fun w hSw => by obtain ⟨r0, r1, r2, r3⟩ := rec4 hSw.kw.r; go_simp⟩) hH ?_
              simp only [Act.put, List.setIfInBounds_toArray, List.set_cons_zero, List.set_cons_succ]
              refine wpAnyH_ready (rs := [6, 10]) (by kernel_rfl) (by simp) ?_
              refine AllReadyH.cons rfl (fun K hK => ?_) (AllReadyH.cons rfl (fun K hK => ?_) AllReadyH.nil)
              · skip
                go_simp
                go_wp2_with (go_at_call 20; refine (HWR.out _ _ _ _ _ _ (hH.own HFF.out rfl) hH.rep hH.good (by have := HX.out.2.1; omega) (by unfold in64; omega)).mono ?_; rintro e wA ⟨v2, rfl, gA, hR2⟩)
                have hgd : (kwr n' ⟨s, p, b, x0, x1, y0, y1, n⟩ 0 ⟨rq, rs, rl, ru⟩).1.Good (k + 2 * (1 + 1)) := good_kwr hH.good _ _ _
                replace hH := hH.kept gA
                obtain ⟨aB2, aD2, aW2, aT2, lB2, cB2, lD2, cD2, lW2, cW2, lT2, cT2, rfl⟩ := hR2.form
                have H3 : Hid (Rep wA _ (kwr n' ⟨s, p, b, x0, x1, y0, y1, n⟩ 0 ⟨rq, rs, rl, ru⟩).1 (own4 F w)) := hR2
                clear gA hR2
                generalize hkw : kwr n' ⟨s, p, b, x0, x1, y0, y1, n⟩ 0 ⟨rq, rs, rl, ru⟩ = KW at *
                obtain ⟨m2, eW⟩ := KW
                have HGD : Hid _ := And.intro hgd hkw
                clear hgd hkw
                simp only at H3 ⊢
                generalize (m2.s : Int) = s2 at *
                generalize (m2.p : Int) = p2 at *
                generalize (m2.b : Int) = b2 at *
                generalize m2.ops = ops2 at *
                generalize m2.off = off2 at *
                generalize m2.after = after2 at *
                have HBASE : Hid _ := hH
                refine hK.out _ _ hH (fun _ => ?_)
                clear hK K
                refine wpAnyH_take (i := 7) (oi := ⟨some 85, _, _, _, _, _⟩) (v := .tuple #[.agg #[.int .i64 s2, .int .i64 p2, .int .i64 b2, .slice aB2 lB2 cB2, .slice aD2 lD2 cD2, .slice aW2 lW2 cW2, .int .i64 ops2, .bool off2, .int .i64 after2, .slice aT2 lT2 cT2], .int .i64 eW]) rfl (by kernel_rfl) (by kernel_rfl) (by kernel_rfl) (fun _ _ _ h => h) (Or.inl ⟨by rfl, fun w hSw => by go_simp⟩) hH ?_
                simp only [Act.put, List.setIfInBounds_toArray, List.set_cons_zero, List.set_cons_succ]
                refine wpAnyH_take (i := 8) (oi := ⟨some 93, _, _, _, _, _⟩) (v := .agg #[.int .i64 s2, .int .i64 p2, .int .i64 b2, .slice aB2 lB2 cB2, .slice aD2 lD2 cD2, .slice aW2 lW2 cW2, .int .i64 ops2, .bool off2, .int .i64 after2, .slice aT2 lT2 cT2]) rfl (by kernel_rfl) (by kernel_rfl) (by kernel_rfl) (fun _ _ _ h => h) (Or.inl ⟨by rfl, fun w hSw => by go_simp⟩) hH ?_
                simp only [Act.put, List.setIfInBounds_toArray, List.set_cons_zero, List.set_cons_succ]
                refine wpAnyH_take (i := 9) (oi := ⟨some 94, _, _, _, _, _⟩) (v := .int .i64 eW) rfl (by kernel_rfl) (by kernel_rfl) (by kernel_rfl) (fun _ _ _ h => h) (Or.inl ⟨by rfl, fun w hSw => by go_simp⟩) hH ?_
                simp only [Act.put, List.setIfInBounds_toArray, List.set_cons_zero, List.set_cons_succ]
                refine wpAnyH_ready (rs := [10]) (by kernel_rfl) (by simp) ?_
                refine AllReadyH.cons rfl (fun K hK => ?_) AllReadyH.nil
                refine ifw (by rfl) ?_
                go_wp2
                have HAL : Hid _ := HBASE.out.alc [.int .i64 0, .int .i64 0, .int .i64 0, .slice none 0 0, .slice none 0 0, .slice none 0 0, .int .i64 0, .bool false, .int .i64 0, .slice none 0 0]
                refine hK.out _ _ (HBASE.out.kept HAL.out.1) (fun hH => ?_)
                clear hK K
                refine wpAnyH_ready (rs := [11]) (by kernel_rfl) (by simp) ?_
                refine AllReadyH.cons rfl (fun K hK => ?_) AllReadyH.nil
                refine ifw (by rfl) ?_
                refine op_store_bx 42 _ _ rfl _ [.int .i64 s2, .int .i64 p2, .int .i64 b2, .slice aB2 lB2 cB2, .slice aD2 lD2 cD2, .slice aW2 lW2 cW2, .int .i64 ops2, .bool off2, .int .i64 after2, .slice aT2 lT2 cT2] rfl rfl HAL.out.2.1 fl_size rfl rfl ?_
                intro W8 hb8 hg8
                have GX : wA.grownBy W8 none := grown_new HAL.out.1 hg8 (Nat.le_refl _)
                have HK8 : Hid _ := HBASE.out.kept GX
                have H8 : Hid (Rep W8 _ m2 (own4 F w)) := H3.out.grown GX
                have HV : Hid _ := hb8
                clear hb8 hg8 GX HAL HBASE H3 hH
                have hH := HK8.out
                refine hK.out _ _ hH (fun _ => ?_)
                clear hK K
                refine wpAnyH_take (i := 12) (oi := ⟨some 19, _, _, _, _, _⟩) (v := .int .i64 eW) rfl (by kernel_rfl) (by kernel_rfl) (by kernel_rfl) (fun _ _ _ h => h) (Or.inl ⟨by rfl, fun w hSw => by go_simp⟩) hH ?_
                simp only [Act.put, List.setIfInBounds_toArray, List.set_cons_zero, List.set_cons_succ]
                refine wpAnyH_done (by kernel_rfl) ?_ _
                clear hH
                obtain ⟨v0, v1, v2, v3, v4, v5, v6, v7, v8, v9⟩ := flash10 HV.out
                clear HV
                have hew : eW = 0 ∨ eW ≠ 0 := Decidable.em _
                rcases hew with rfl | hew
                · go_wp2_with (((with_reducible refine fl_here ?_); refine wpList_store_bx rfl 42 _ _ rfl g [.int .i64 s2, .int .i64 p2, .int .i64 b2, .slice aB2 lB2 cB2, .slice aD2 lD2 cD2, .slice aW2 lW2 cW2, .int .i64 ops2, .bool off2, .int .i64 after2, .slice aT2 lT2 cT2] rfl rfl HK8.out.kw.f fl_size rfl rfl ?_; intro W9 hb9 hg9; have HK9 : Hid _ := HK8.out.setF H8.out HGD.out.1 rfl hb9 hg9; clear hb9 hg9; obtain ⟨c0, c1, c2, c3, c4, c5, c6, c7, c8, c9⟩ := flash10 HK9.out.kw.f))
                  go_roundw
                  case rel => exact ⟨2, m2, _, _, _, _, _, _, _, _, _, _, _, _, _, _, _, _, _, _, by go_num, by omega, HK9, HREL.out _ _ rfl rfl⟩
                  case measure => simp [intOf]
                · have hew2 : (eW == 0) = false := by simpa using hew
                  have e := HREL2.out _ _ rfl hew
                  injection e with e1 e2
                  subst e1 e2
                  go_wp2_with (first | ((with_reducible refine fl_here ?_); refine wpList_store_bx rfl 42 _ _ rfl g [.int .i64 s2, .int .i64 p2, .int .i64 b2, .slice aB2 lB2 cB2, .slice aD2 lD2 cD2, .slice aW2 lW2 cW2, .int .i64 ops2, .bool off2, .int .i64 after2, .slice aT2 lT2 cT2] rfl rfl HK8.out.kw.f fl_size rfl rfl ?_; intro W9 hb9 hg9; have HK9 : Hid _ := HK8.out.setF H8.out HGD.out.1 rfl hb9 hg9; clear hb9 hg9; obtain ⟨c0, c1, c2, c3, c4, c5, c6, c7, c8, c9⟩ := flash10 HK9.out.kw.f) | ((with_reducible refine fl_here ?_); refine wpList_store_bx rfl 42 _ _ rfl (g + 1 + 1 + 1) [.int .i64 s2, .int .i64 p2, .int .i64 b2, .slice aB2 lB2 cB2, .slice aD2 lD2 cD2, .slice aW2 lW2 cW2, .int .i64 ops2, .bool off2, .int .i64 after2, .slice aT2 lT2 cT2] rfl rfl HK9.out.kw.z fl_size rfl rfl ?_; intro W7 hb7 hg7; have KZ : Hid _ := HK9.out.kw.setZ hb7 hg7; have H2 : Hid (Rep W7 _ Rm (own4 F w)) := HK9.out.rep.stored hg7 (Or.inr (by have := HK9.out.kw.sz; omega)); clear hb7 hg7; obtain ⟨z0, z1, z2, z3, z4, z5, z6, z7, z8, z9⟩ := flash10 KZ.out.z))
                  refine bodyPost_ret (v := .tuple #[.agg #[.int .i64 s2, .int .i64 p2, .int .i64 b2, .slice aB2 lB2 cB2, .slice aD2 lD2 cD2, .slice aW2 lW2 cW2, .int .i64 ops2, .bool off2, .int .i64 after2, .slice aT2 lT2 cT2], .int .i64 Re]) (by simp [results, Tryz.results21, go_sem, z0, z1, z2, z3, z4, z5, z6, z7, z8, z9]) rfl ?_
                  exact ⟨_, rfl, KZ.out.gr, H2.out.back⟩
              · skip
                refine ifw (by rfl) ?_
                go_wp2
                have HBASE : Hid _ := hH
                have HAL : Hid _ := hH.alc [.int .i64 0, .int .i64 0, .int .i64 0, .slice none 0 0, .slice none 0 0, .slice none 0 0, .int .i64 0, .bool false, .int .i64 0, .slice none 0 0]
                refine hK.out _ _ (hH.kept HAL.out.1) (fun hH2 => ?_)
                clear hK K hH
                have hH := hH2
                clear hH2
                have HLX : Hid _ := hH.own1 HFF.out rfl HBASE.out HAL.out.1
                refine wpAnyH_ready (rs := [6]) (by kernel_rfl) (by simp) ?_
                refine AllReadyH.cons rfl (fun K hK => ?_) AllReadyH.nil
                go_simp
                go_wp2_with (go_at_call 20; refine (HWR.out _ _ _ _ _ _ HLX.out HAL.out.2.2 HBASE.out.good (by have := HX.out.2.1; omega) (by unfold in64; omega)).mono ?_; rintro e wA ⟨v2, rfl, gA, hR2⟩)
                have hgd : (kwr n' ⟨s, p, b, x0, x1, y0, y1, n⟩ 0 ⟨rq, rs, rl, ru⟩).1.Good (k + 2 * (1 + 1)) := good_kwr hH.good _ _ _
                replace hH := hH.kept gA
                obtain ⟨aB2, aD2, aW2, aT2, lB2, cB2, lD2, cD2, lW2, cW2, lT2, cT2, rfl⟩ := hR2.form
                have H3 : Hid (Rep wA _ (kwr n' ⟨s, p, b, x0, x1, y0, y1, n⟩ 0 ⟨rq, rs, rl, ru⟩).1 _) := hR2
                have HBN : Hid _ := HAL.out.2.1.kept gA
                have HGA : Hid _ := grown_trans HAL.out.1 gA
                clear gA hR2 HLX
                generalize hkw : kwr n' ⟨s, p, b, x0, x1, y0, y1, n⟩ 0 ⟨rq, rs, rl, ru⟩ = KW at *
                obtain ⟨m2, eW⟩ := KW
                have HGD : Hid _ := And.intro hgd hkw
                clear hgd hkw
                simp only at H3 ⊢
                generalize (m2.s : Int) = s2 at *
                generalize (m2.p : Int) = p2 at *
                generalize (m2.b : Int) = b2 at *
                generalize m2.ops = ops2 at *
                generalize m2.off = off2 at *
                generalize m2.after = after2 at *
                refine hK.out _ _ hH (fun _ => ?_)
                clear hK K
                refine wpAnyH_take (i := 7) (oi := ⟨some 85, _, _, _, _, _⟩) (v := .tuple #[.agg #[.int .i64 s2, .int .i64 p2, .int .i64 b2, .slice aB2 lB2 cB2, .slice aD2 lD2 cD2, .slice aW2 lW2 cW2, .int .i64 ops2, .bool off2, .int .i64 after2, .slice aT2 lT2 cT2], .int .i64 eW]) rfl (by kernel_rfl) (by kernel_rfl) (by kernel_rfl) (fun _ _ _ h => h) (Or.inl ⟨by rfl, fun w hSw => by go_simp⟩) hH ?_
                simp only [Act.put, List.setIfInBounds_toArray, List.set_cons_zero, List.set_cons_succ]
                refine wpAnyH_take (i := 8) (oi := ⟨some 93, _, _, _, _, _⟩) (v := .agg #[.int .i64 s2, .int .i64 p2, .int .i64 b2, .slice aB2 lB2 cB2, .slice aD2 lD2 cD2, .slice aW2 lW2 cW2, .int .i64 ops2, .bool off2, .int .i64 after2, .slice aT2 lT2 cT2]) rfl (by kernel_rfl) (by kernel_rfl) (by kernel_rfl) (fun _ _ _ h => h) (Or.inl ⟨by rfl, fun w hSw => by go_simp⟩) hH ?_
                simp only [Act.put, List.setIfInBounds_toArray, List.set_cons_zero, List.set_cons_succ]
                refine wpAnyH_take (i := 9) (oi := ⟨some 94, _, _, _, _, _⟩) (v := .int .i64 eW) rfl (by kernel_rfl) (by kernel_rfl) (by kernel_rfl) (fun _ _ _ h => h) (Or.inl ⟨by rfl, fun w hSw => by go_simp⟩) hH ?_
                simp only [Act.put, List.setIfInBounds_toArray, List.set_cons_zero, List.set_cons_succ]
                refine wpAnyH_ready (rs := [11]) (by kernel_rfl) (by simp) ?_
                refine AllReadyH.cons rfl (fun K hK => ?_) AllReadyH.nil
                refine ifw (by rfl) ?_
                refine op_store_bx 42 _ _ rfl _ [.int .i64 s2, .int .i64 p2, .int .i64 b2, .slice aB2 lB2 cB2, .slice aD2 lD2 cD2, .slice aW2 lW2 cW2, .int .i64 ops2, .bool off2, .int .i64 after2, .slice aT2 lT2 cT2] rfl rfl HBN.out fl_size rfl rfl ?_
                intro W8 hb8 hg8
                have GX := grown_new HGA.out hg8 (Nat.le_refl _)
                have HK8 : Hid _ := HBASE.out.kept GX
                have H8 : Hid (Rep W8 _ m2 (own4 F w)) := (H3.out.stored hg8 (Or.inr rfl)).less (fun _ h => Or.inl h)
                have HV : Hid _ := hb8
                clear hb8 hg8 GX HAL HBASE H3 hH HBN HGA
                have hH := HK8.out
                refine hK.out _ _ hH (fun _ => ?_)
                clear hK K
                refine wpAnyH_take (i := 12) (oi := ⟨some 19, _, _, _, _, _⟩) (v := .int .i64 eW) rfl (by kernel_rfl) (by kernel_rfl) (by kernel_rfl) (fun _ _ _ h => h) (Or.inl ⟨by rfl, fun w hSw => by go_simp⟩) hH ?_
                simp only [Act.put, List.setIfInBounds_toArray, List.set_cons_zero, List.set_cons_succ]
                refine wpAnyH_done (by kernel_rfl) ?_ _
                clear hH
                obtain ⟨v0, v1, v2, v3, v4, v5, v6, v7, v8, v9⟩ := flash10 HV.out
                clear HV
                have hew : eW = 0 ∨ eW ≠ 0 := Decidable.em _
                rcases hew with rfl | hew
                · go_wp2_with (((with_reducible refine fl_here ?_); refine wpList_store_bx rfl 42 _ _ rfl g [.int .i64 s2, .int .i64 p2, .int .i64 b2, .slice aB2 lB2 cB2, .slice aD2 lD2 cD2, .slice aW2 lW2 cW2, .int .i64 ops2, .bool off2, .int .i64 after2, .slice aT2 lT2 cT2] rfl rfl HK8.out.kw.f fl_size rfl rfl ?_; intro W9 hb9 hg9; have HK9 : Hid _ := HK8.out.setF H8.out HGD.out.1 rfl hb9 hg9; clear hb9 hg9; obtain ⟨c0, c1, c2, c3, c4, c5, c6, c7, c8, c9⟩ := flash10 HK9.out.kw.f))
                  go_roundw
                  case rel => exact ⟨2, m2, _, _, _, _, _, _, _, _, _, _, _, _, _, _, _, _, _, _, by go_num, by omega, HK9, HREL.out _ _ rfl rfl⟩
                  case measure => simp [intOf]
                · have hew2 : (eW == 0) = false := by simpa using hew
                  have e := HREL2.out _ _ rfl hew
                  injection e with e1 e2
                  subst e1 e2
                  go_wp2_with (first | ((with_reducible refine fl_here ?_); refine wpList_store_bx rfl 42 _ _ rfl g [.int .i64 s2, .int .i64 p2, .int .i64 b2, .slice aB2 lB2 cB2, .slice aD2 lD2 cD2, .slice aW2 lW2 cW2, .int .i64 ops2, .bool off2, .int .i64 after2, .slice aT2 lT2 cT2] rfl rfl HK8.out.kw.f fl_size rfl rfl ?_; intro W9 hb9 hg9; have HK9 : Hid _ := HK8.out.setF H8.out HGD.out.1 rfl hb9 hg9; clear hb9 hg9; obtain ⟨c0, c1, c2, c3, c4, c5, c6, c7, c8, c9⟩ := flash10 HK9.out.kw.f) | ((with_reducible refine fl_here ?_); refine wpList_store_bx rfl 42 _ _ rfl (g + 1 + 1 + 1) [.int .i64 s2, .int .i64 p2, .int .i64 b2, .slice aB2 lB2 cB2, .slice aD2 lD2 cD2, .slice aW2 lW2 cW2, .int .i64 ops2, .bool off2, .int .i64 after2, .slice aT2 lT2 cT2] rfl rfl HK9.out.kw.z fl_size rfl rfl ?_; intro W7 hb7 hg7; have KZ : Hid _ := HK9.out.kw.setZ hb7 hg7; have H2 : Hid (Rep W7 _ Rm (own4 F w)) := HK9.out.rep.stored hg7 (Or.inr (by have := HK9.out.kw.sz; omega)); clear hb7 hg7; obtain ⟨z0, z1, z2, z3, z4, z5, z6, z7, z8, z9⟩ := flash10 KZ.out.z))
                  refine bodyPost_ret (v := .tuple #[.agg #[.int .i64 s2, .int .i64 p2, .int .i64 b2, .slice aB2 lB2 cB2, .slice aD2 lD2 cD2, .slice aW2 lW2 cW2, .int .i64 ops2, .bool off2, .int .i64 after2, .slice aT2 lT2 cT2], .int .i64 Re]) (by simp [results, Tryz.results21, go_sem, z0, z1, z2, z3, z4, z5, z6, z7, z8, z9]) rfl ?_
                  exact ⟨_, rfl, KZ.out.gr, H2.out.back⟩
            · omega
  · have h2 := HLS.out.1.nW
    rw [HKL.out] at h2
    simp at h2
    omega
end Go.Proofs.YtfhgbddeclldnaaGreat
