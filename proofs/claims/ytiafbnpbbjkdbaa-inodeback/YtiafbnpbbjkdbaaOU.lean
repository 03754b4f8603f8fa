/- The walk of InodeBack. -/
import Derived.Test.YtiafbnpbbjkdbaaOJ
import Derived.Test.YtiafbnpbbjkdbaaOR
import Derived.Test.YtiafbnpbbjkdbaaOS
namespace Go.Proofs.Ytiafbnpbbjkdbaa
open Go.RowKit
set_option maxRecDepth 100000
set_option linter.unusedSimpArgs false
set_option linter.unusedVariables false
theorem Same15.symm {n m : Nd} (h : Same15 n m) : Same15 m n := ⟨h.kd.symm, h.md.symm, h.ui.symm, h.gi.symm, h.tm.symm, h.ln.symm, h.at_.symm, h.sz.symm, h.st.symm, h.fr.symm, h.of_.symm, h.tl.symm, h.dr.symm, h.by_.symm, h.pr.symm, h.dv.symm, h.ws.symm, h.tg.symm⟩
theorem same_enb {n m : Nd} (h : Same15 n m) (h1 : n.ws.length = n.wl) (h2 : m.ws.length = m.wl) : enb15 n = enb15 m := by
  obtain ⟨h_kd, h_md, h_ui, h_gi, h_tm, h_ln, h_at_, h_sz, h_st, h_fr, h_of_, h_tl, h_dr, h_by_, h_pr, h_dv, hws, htg⟩ := h
  cases n
  cases m
  simp only at h_kd h_md h_ui h_gi h_tm h_ln h_at_ h_sz h_st h_fr h_of_ h_tl h_dr h_by_ h_pr h_dv hws htg h1 h2
  subst h_kd h_md h_ui h_gi h_tm h_ln h_at_ h_sz h_st h_fr h_of_ h_tl h_dr h_by_ h_pr h_dv hws htg
  subst h1 h2
  rfl
theorem grown_own15 {a b c : World} {base e s n : Nat} {v : Value} {xs : List Value} (h : a.grownBy b none) (o : b.ownsRow base e s v n xs) (k : b.grownBy c v.ownBlock) (hb : a.heap.size ≤ base) : a.grownBy c none :=
  ⟨k.os.trans h.os, k.tape.trans h.tape, k.output.trans h.output, Nat.le_trans h.size k.size, fun j hj _ => by
    rw [k.block j (Nat.lt_of_lt_of_le hj h.size) (fun q => by have := (o.lt j q.symm).1; omega)]
    exact h.block j hj (by simp)⟩
structure By15 (w : World) (a : Option Addr) (n c : Nat) (xs : List Int) : Prop where
  row : Row w a n xs
  nil : a = none → c = 0
  nc : n ≤ c
  cm : c ≤ maxLen
theorem IsRow.by15 {w : World} {a : Option Addr} {len cap : Nat} {zs : List Int} (h : IsRow .u8 w a len cap zs) : By15 w a len cap (zs.take len) := by
  refine ⟨h.row, h.nilcap, ?_, ?_⟩
  · rcases h with ⟨rfl, rfl, rfl, rfl⟩ | ⟨x, rfl, hl, hm, _⟩
    · exact Nat.le_refl _
    · exact hl
  · rcases h with ⟨rfl, rfl, rfl, rfl⟩ | ⟨x, rfl, hl, hm, _⟩
    · exact Nat.zero_le _
    · exact hm

set_option maxHeartbeats 8000000 in
theorem inodeBack_walk (n : Nd) (a : Option Addr) (la ca : Nat) (za : List Int) (b : Option Addr) (lb cb : Nat) (zb : List Int) (w : World) (hn : n.ok w) (hza : IsRow .u8 w a la ca za) (hzb : IsRow .u8 w b lb cb zb) :
    Calls Try.prog 5 #[n.val, .slice a la ca, .slice b lb cb] w fun e w' => e = .returned (.bool true) ∧ Below w.heap.size w w' := by
  obtain ⟨i5, hi, hz0, hz1, hz2⟩ := info_parts Try.info5
  have HBA : Hid _ := hza.by15
  have HBB : Hid _ := hzb.by15
  generalize za.take la = aa at *
  generalize zb.take lb = bb at *
  clear hza hzb
  have HB : Hid (Bx (w.alloc (.cells #[.int .i64 n.kd, .int .i64 n.md, .int .i64 n.ui, .int .i64 n.gi, .int .i64 n.tm, .int .i64 n.ln, .int .i64 n.at_, .int .i64 n.sz, .int .i64 n.st, .slice n.wa n.wl n.wc, .int .i64 n.fr, .int .i64 n.of_, .int .i64 n.tl, .int .i64 n.dr, .int .i64 n.by_, .int .i64 n.pr, .string n.tg, .int .i64 n.dv] 24)) w.heap.size 24 [.int .i64 n.kd, .int .i64 n.md, .int .i64 n.ui, .int .i64 n.gi, .int .i64 n.tm, .int .i64 n.ln, .int .i64 n.at_, .int .i64 n.sz, .int .i64 n.st, .slice n.wa n.wl n.wc, .int .i64 n.fr, .int .i64 n.of_, .int .i64 n.tl, .int .i64 n.dr, .int .i64 n.by_, .int .i64 n.pr, .string n.tg, .int .i64 n.dv]) := Bx.new w _ _
  have HG : Hid (w.grownBy (w.alloc (.cells #[.int .i64 n.kd, .int .i64 n.md, .int .i64 n.ui, .int .i64 n.gi, .int .i64 n.tm, .int .i64 n.ln, .int .i64 n.at_, .int .i64 n.sz, .int .i64 n.st, .slice n.wa n.wl n.wc, .int .i64 n.fr, .int .i64 n.of_, .int .i64 n.tl, .int .i64 n.dr, .int .i64 n.by_, .int .i64 n.pr, .string n.tg, .int .i64 n.dv] 24)) none) := World.grownBy_alloc _ _ _
  have HL : Hid (∀ W : World, Calls Try.prog 7 #[] W fun e w' => e = .returned (.bool true) ∧ W.grownBy w' none) := fun W => live15_any W
  have hca : ca ≤ 9223372036854775807 := HBA.out.cm
  have hcb : cb ≤ 9223372036854775807 := HBB.out.cm
  have hac := HBA.out.nc
  have hbc := HBB.out.nc
  by_cases h1 : (1000 : Int) < n.wl
  · clear hn
    go_enter Try.func5, Try.ntmps5
    unfold Nd.val
    go_wp2_with (first | (go_at_call 7; refine (HL.out _).mono ?_; rintro e w1 ⟨rfl, g1⟩; have HG : Hid _ := grown_trans HG.out g1; clear g1) | fail)
    go_ret
    exact ⟨rfl, grown_below HG.out⟩
  · by_cases h2 : (5000 : Int) < n.tg.size
    · clear hn
      go_enter Try.func5, Try.ntmps5
      unfold Nd.val
      go_wp2_with (first | (go_at_call 7; refine (HL.out _).mono ?_; rintro e w1 ⟨rfl, g1⟩; have HG : Hid _ := grown_trans HG.out g1; clear g1) | fail)
      go_ret
      exact ⟨rfl, grown_below HG.out⟩
    · by_cases h3 : (300 : Int) < la
      · clear hn
        go_enter Try.func5, Try.ntmps5
        unfold Nd.val
        go_wp2_with (first | (go_at_call 7; refine (HL.out _).mono ?_; rintro e w1 ⟨rfl, g1⟩; have HG : Hid _ := grown_trans HG.out g1; clear g1) | fail)
        go_ret
        exact ⟨rfl, grown_below HG.out⟩
      · by_cases h4 : (300 : Int) < lb
        · clear hn
          go_enter Try.func5, Try.ntmps5
          unfold Nd.val
          go_wp2_with (first | (go_at_call 7; refine (HL.out _).mono ?_; rintro e w1 ⟨rfl, g1⟩; have HG : Hid _ := grown_trans HG.out g1; clear g1) | fail)
          go_ret
          exact ⟨rfl, grown_below HG.out⟩
        · have HN : Hid _ := hn
          have hen := pencode15_any n (w.alloc (.cells #[.int .i64 n.kd, .int .i64 n.md, .int .i64 n.ui, .int .i64 n.gi, .int .i64 n.tm, .int .i64 n.ln, .int .i64 n.at_, .int .i64 n.sz, .int .i64 n.st, .slice n.wa n.wl n.wc, .int .i64 n.fr, .int .i64 n.of_, .int .i64 n.tl, .int .i64 n.dr, .int .i64 n.by_, .int .i64 n.pr, .string n.tg, .int .i64 n.dv] 24)) (hn.kept HG.out)
          have HLN : Hid (la ≤ 300 ∧ lb ≤ 300 ∧ n.wl ≤ 1000) := ⟨by omega, by omega, by omega⟩
          have HEP : Hid (∀ e w', EnPost15 (w.alloc (.cells #[.int .i64 n.kd, .int .i64 n.md, .int .i64 n.ui, .int .i64 n.gi, .int .i64 n.tm, .int .i64 n.ln, .int .i64 n.at_, .int .i64 n.sz, .int .i64 n.st, .slice n.wa n.wl n.wc, .int .i64 n.fr, .int .i64 n.of_, .int .i64 n.tl, .int .i64 n.dr, .int .i64 n.by_, .int .i64 n.pr, .string n.tg, .int .i64 n.dv] 24)) n e w' → if chk15 n = 0 then ∃ b, e = .returned (.tuple #[.slice (some ⟨b, 0, none⟩) (enb15 n).length (enb15 n).length, .int .i64 0]) ∧ Blk w' b (bv (enb15 n)) ∧ (w.alloc (.cells #[.int .i64 n.kd, .int .i64 n.md, .int .i64 n.ui, .int .i64 n.gi, .int .i64 n.tm, .int .i64 n.ln, .int .i64 n.at_, .int .i64 n.sz, .int .i64 n.st, .slice n.wa n.wl n.wc, .int .i64 n.fr, .int .i64 n.of_, .int .i64 n.tl, .int .i64 n.dr, .int .i64 n.by_, .int .i64 n.pr, .string n.tg, .int .i64 n.dv] 24)).heap.size ≤ b ∧ (w.alloc (.cells #[.int .i64 n.kd, .int .i64 n.md, .int .i64 n.ui, .int .i64 n.gi, .int .i64 n.tm, .int .i64 n.ln, .int .i64 n.at_, .int .i64 n.sz, .int .i64 n.st, .slice n.wa n.wl n.wc, .int .i64 n.fr, .int .i64 n.of_, .int .i64 n.tl, .int .i64 n.dr, .int .i64 n.by_, .int .i64 n.pr, .string n.tg, .int .i64 n.dv] 24)).grownBy w' none
            else e = .returned (.tuple #[.slice none 0 0, .int .i64 (chk15 n)]) ∧ (w.alloc (.cells #[.int .i64 n.kd, .int .i64 n.md, .int .i64 n.ui, .int .i64 n.gi, .int .i64 n.tm, .int .i64 n.ln, .int .i64 n.at_, .int .i64 n.sz, .int .i64 n.st, .slice n.wa n.wl n.wc, .int .i64 n.fr, .int .i64 n.of_, .int .i64 n.tl, .int .i64 n.dr, .int .i64 n.by_, .int .i64 n.pr, .string n.tg, .int .i64 n.dv] 24)).grownBy w' none) := fun e w' h => h
          clear hn
          go_enter Try.func5, Try.ntmps5
          unfold Nd.val at hen ⊢
          go_wp2_with (first | ((with_reducible refine inoHere ?_); refine wpList_loadG (by first | rfl | fail) 24 _ rfl w.heap.size rfl HB.out Try.underlying24 rfl infoI ?_) | fail)
          generalize EnPost15 (w.alloc (.cells #[.int .i64 n.kd, .int .i64 n.md, .int .i64 n.ui, .int .i64 n.gi, .int .i64 n.tm, .int .i64 n.ln, .int .i64 n.at_, .int .i64 n.sz, .int .i64 n.st, .slice n.wa n.wl n.wc, .int .i64 n.fr, .int .i64 n.of_, .int .i64 n.tl, .int .i64 n.dr, .int .i64 n.by_, .int .i64 n.pr, .string n.tg, .int .i64 n.dv] 24)) n = QE at *
          refine hen.mono ?_
          clear hen
          intro e W1 hq
          have hq2 := HEP.out e W1 hq
          clear hq HEP
          generalize w.alloc (.cells #[.int .i64 n.kd, .int .i64 n.md, .int .i64 n.ui, .int .i64 n.gi, .int .i64 n.tm, .int .i64 n.ln, .int .i64 n.at_, .int .i64 n.sz, .int .i64 n.st, .slice n.wa n.wl n.wc, .int .i64 n.fr, .int .i64 n.of_, .int .i64 n.tl, .int .i64 n.dr, .int .i64 n.by_, .int .i64 n.pr, .string n.tg, .int .i64 n.dv] 24) = W0 at *
          by_cases hc : chk15 n = 0
          · rw [if_pos hc] at hq2
            obtain ⟨bx, rfl, hbx, hb0, g1⟩ := hq2
            have HB : Hid _ := HB.out.kept g1
            have HG : Hid _ := grown_trans HG.out g1
            have hlx : (enb15 n).length ≤ 4048 + 4096 + 20 := by
              have hr := chk_rt hc
              have h9 := enb_len hr HN.out.row.len_eq
              have hk := hr.kd
              have := HLN.out.2.2
              rcases (by omega : n.kd = 1 ∨ n.kd = 2 ∨ n.kd = 3 ∨ 3 < n.kd) with q | q | q | q
              · rw [h9.1 q]; omega
              · rw [h9.2.1 q]; omega
              · rw [h9.2.2.1 q]; have := (hr.k3 q).2.1; omega
              · rw [h9.2.2.2.1 q]; omega
            have hPre : ∀ bs : List Int, enb15 n <+: bs.drop la → Pre15 bs la n := fun bs h => ⟨⟨chk_rt hc, hc⟩, HN.out.row.len_eq, h⟩
            have HPre : Hid _ := hPre
            have RX := hbx.row (enb15_byt n) (by unfold maxLen; omega)
            have HEN : Hid (∀ m : Nd, Same15 m n → m.ws.length = m.wl → enb15 m = enb15 n) := fun m h h2 => same_enb h h2 HN.out.row.len_eq
            obtain ⟨X, hX⟩ : ∃ X, X = enb15 n := ⟨_, rfl⟩
            have HX : Hid _ := hX
            rw [← hX] at RX hlx ⊢
            have HRX : Hid _ := RX
            have O0 := World.ownsRow_made (base := W1.heap.size) (e := 5) (size := 1) W1 #[] 0 (Nat.le_refl _) (Nat.zero_le _) (by simp)
            have R0 := HBA.out.row.grown (grown_trans HG.out (World.grownBy_alloc W1 (.cells #[] 5) none))
            have hlen := HLN.out
            clear hbx hb0 g1 hPre RX hX hc
            go_wp2_with (first | (go_at_call 10; refine (num15_any _ _).mono ?_; rintro e w' ⟨rfl, rfl⟩) | (at_builtin; refine wpList_append8 rfl _ _ 26 rfl W1.heap.size i5 Try.underlying26 hi hz0 hz1 hz2 _ 0 [] rfl O0 _ la ca _ rfl R0 HBA.out.nil (by omega) (by simp) ?_))
            intro v1 W2 o1 g2
            have G2 : W1.grownBy W2 none := grown_own15 (World.grownBy_alloc W1 (.cells #[] 5) none) O0 g2 (Nat.le_refl _)
            have R2 := HRX.out.grown G2
            have HO1 : Hid _ := And.intro o1 G2
            clear O0 R0 g2 o1 G2
            go_wp2_with (at_builtin; refine wpList_append8 rfl _ _ 26 rfl W1.heap.size i5 Try.underlying26 hi hz0 hz1 hz2 _ la (bv aa) rfl HO1.out.1 _ X.length X.length _ rfl R2 (fun h => by cases h) (by omega) HO1.out.2.size ?_)
            intro v2 W3 o2 g3
            have G3 : W1.grownBy W3 none := grown_own15 HO1.out.2 HO1.out.1 g3 (Nat.le_refl _)
            have R3 := HBB.out.row.grown (grown_trans HG.out G3)
            have HO2 : Hid _ := And.intro o2 G3
            clear R2 g3 o2 G3 HO1
            go_wp2_with (at_builtin; refine wpList_append8 rfl _ _ 26 rfl W1.heap.size i5 Try.underlying26 hi hz0 hz1 hz2 _ (la + X.length) _ rfl HO2.out.1 _ lb cb _ rfl R3 HBB.out.nil (by omega) HO2.out.2.size ?_)
            intro v3 W4 o3 g4
            have G4 : W1.grownBy W4 none := grown_own15 HO2.out.2 HO2.out.1 g4 (Nat.le_refl _)
            have hO3 : W4.ownsRow W1.heap.size 5 1 v3 (la + X.length + lb) (bv (aa ++ X ++ bb)) := by rw [bv_append, bv_append, List.append_assoc]; exact o3
            obtain ⟨a4, c4, rfl, R4, n4, hc4, hm4⟩ := own_bytes hO3 ((HBA.out.row.byt.append (by rw [HX.out]; exact enb15_byt n)).append HBB.out.row.byt) (by unfold maxLen; omega)
            have hla := HBA.out.row.len_eq
            have hD := pdecode15_any a4 (la + X.length + lb) c4 la _ W4 R4 hc4 (by omega) (by omega)
            have HPr : Hid (Pre15 (aa ++ X ++ bb) la n) := HPre.out _ (by
              rw [List.append_assoc, ← hla, List.drop_left, ← HX.out]
              exact List.prefix_append _ _)
            have HG4 : Hid (w.grownBy W4 none) := grown_trans HG.out G4
            have HB4 : Hid _ := HB.out.kept G4
            have HBL : Hid ((aa ++ X ++ bb).length = la + X.length + lb) := by show (aa ++ X ++ bb).length = _; rw [List.length_append, List.length_append, hla, HBB.out.row.len_eq]
            have hm4' : c4 ≤ 9223372036854775807 := hm4
            have HDP : Hid (∀ e w', DeP15 W4 (la + X.length + lb) (aa ++ X ++ bb) la e w' → ∃ (m : Nd) (next : Nat), e = .returned (.tuple #[m.val, .int .i64 (next : Int), .int .i64 0]) ∧ m.ok w' ∧ Same15 m n ∧ next = la + X.length ∧ W4.grownBy w' none) := fun e w' h => by
              rcases h with ⟨m, next, q1, q2, q3, q4, q5, q6, q7, q8, q9⟩ | ⟨_, hno, _⟩
              · have hs := q8 n HPr.out
                refine ⟨m, next, q1, q2, hs, ?_, q9⟩
                have e1 := HEN.out m hs q4
                have e2 := congrArg List.length q5
                rw [e1, ← HX.out, List.length_take, List.length_drop, HBL.out] at e2
                omega
              · exact absurd HPr.out (hno n)
            clear R3 g4 o3 G4 hO3 R4 n4 HO2 HRX HPr HPre HEN HBL
            generalize DeP15 W4 (la + X.length + lb) (aa ++ X ++ bb) la = QD at *
            go_wp2_with fail
            refine hD.mono ?_
            clear hD
            intro e W5 hq
            obtain ⟨m, next, rfl, hmk, hsm, hnx, g5⟩ := HDP.out e W5 hq
            have HM : Hid _ := And.intro hmk (And.intro hsm g5)
            clear hq HDP hmk hsm g5
            subst hnx
            unfold Nd.val
            go_wp2_with (first | ((with_reducible refine inoStore ?_); refine wpList_storeB rfl 24 _ _ rfl W5.heap.size [.int .i64 m.kd, .int .i64 m.md, .int .i64 m.ui, .int .i64 m.gi, .int .i64 m.tm, .int .i64 m.ln, .int .i64 m.at_, .int .i64 m.sz, .int .i64 m.st, .slice m.wa m.wl m.wc, .int .i64 m.fr, .int .i64 m.of_, .int .i64 m.tl, .int .i64 m.dr, .int .i64 m.by_, .int .i64 m.pr, .string m.tg, .int .i64 m.dv] rfl rfl (Bx.new W5 _ _) infoI rfl rfl ?_; intro W6 b6 g6; have HG6 : Hid _ := And.intro b6 (grown_new (World.grownBy_alloc W5 _ none) g6 (Nat.le_refl _)); clear b6 g6) | fail)
            have HG : Hid (w.grownBy W6 none) := grown_trans (grown_trans HG4.out HM.out.2.2) HG6.out.2
            have HB : Hid (Bx W6 w.heap.size 24 [.int .i64 n.kd, .int .i64 n.md, .int .i64 n.ui, .int .i64 n.gi, .int .i64 n.tm, .int .i64 n.ln, .int .i64 n.at_, .int .i64 n.sz, .int .i64 n.st, .slice n.wa n.wl n.wc, .int .i64 n.fr, .int .i64 n.of_, .int .i64 n.tl, .int .i64 n.dr, .int .i64 n.by_, .int .i64 n.pr, .string n.tg, .int .i64 n.dv]) := (HB4.out.kept HM.out.2.2).kept HG6.out.2
            have hSm := rsame15_eq n m W6 (HN.out.kept HG.out) (HM.out.1.kept HG6.out.2) HM.out.2.1.symm
            have hwl : IntKind.i64.wrap ((la : Int) + (X.length : Int)) = (la : Int) + (X.length : Int) := by rw [IntKind.wrap_i64]; omega
            have HMB : Hid _ := HG6.out.1
            unfold Nd.val at hSm
            clear HB4 HG4 HG6 HM HN HBA HBB HX hac hbc hca hcb
            go_wp2_with (first | (go_at_call 10; refine (num15_any _ _).mono ?_; rintro e w' ⟨rfl, rfl⟩) | ((with_reducible refine inoHere ?_); refine wpList_loadG (by first | rfl | fail) 24 _ rfl w.heap.size rfl HB.out Try.underlying24 rfl infoI ?_) | ((with_reducible refine inoHere ?_); refine wpList_loadG (by first | rfl | fail) 24 _ rfl W5.heap.size rfl HMB.out Try.underlying24 rfl infoI ?_) | (go_at_call 16; refine hSm.mono ?_; rintro e w1 ⟨rfl, g1⟩; have HG : Hid _ := grown_trans HG.out g1; clear g1) | (go_at_call 7; refine (HL.out _).mono ?_; rintro e w1 ⟨rfl, g1⟩; have HG : Hid _ := grown_trans HG.out g1; clear g1) | fail)
            go_ret
            exact ⟨rfl, grown_below HG.out⟩
          · rw [if_neg hc] at hq2
            obtain ⟨rfl, g1⟩ := hq2
            have hc2 : (chk15 n != 0) = true := by simpa using hc
            have HG : Hid _ := grown_trans HG.out g1
            clear hc g1
            generalize chk15 n = c at *
            go_wp2_with (first | (go_at_call 10; refine (num15_any _ _).mono ?_; rintro e w' ⟨rfl, rfl⟩) | (go_at_call 7; refine (HL.out _).mono ?_; rintro e w1 ⟨rfl, g1⟩; have HG : Hid _ := grown_trans HG.out g1; clear g1) | fail)
            go_ret
            exact ⟨rfl, grown_below HG.out⟩
end Go.Proofs.Ytiafbnpbbjkdbaa
