/- told: the names that bytes tell. -/
import Derived.Test.YtngalihnckbkfaaTB16
import Derived.BigRegionIn
namespace Go.Proofs.Ytngalihnckbkfaa
open Go.RowKit
set_option maxRecDepth 100000
set_option linter.unusedSimpArgs false
set_option linter.unusedVariables false
/-- a list of names that a call told -/
def KxPost (w : World) (R : List Kx) (e : Ending) (w' : World) : Prop := ∃ a c, e = .returned (.slice a R.length c) ∧ Kxs w' a R.length R ∧ R.length ≤ c ∧ c ≤ maxLen ∧ w.grownBy w' none
theorem To16.post {w W : World} {q p g : Nat} {bs : List Int} {at_ : Nat} {e : Int} {l : List Kx} {v : Value} (h : To16 w W q p g bs at_ e l v) (hl : l.length ≤ maxLen) : KxPost w l (.returned v) W := by
  obtain ⟨a, c, rfl, hk, h1, h2, _⟩ := own_kxs h.own rfl hl
  exact ⟨a, c, rfl, hk, h1, h2, h.gr⟩
set_option maxHeartbeats 8000000 in
theorem told16_any (a : Option Addr) (len cap : Nat) (bs : List Int) (w : World) (R : Row w a len bs) (hl : len ≤ 2000000) :
    Calls Try.prog 27 #[.slice a len cap] w (KxPost w (tldT bs (bs.length + 1) 0)) := by
  have hlb := R.len_eq
  have hN := newreader_any a len cap bs w R hl
  obtain ⟨i5, hi, hz0, hz1, hz2⟩ := info_parts Try.infoKid
  have hbt := R.byt
  have hTL := tldT_len hbt (bs.length + 1) 0 (Nat.zero_le _)
  generalize hRR : tldT bs (bs.length + 1) 0 = RR at *
  have HTL : Hid (RR.length ≤ 1000000) := by show RR.length ≤ 1000000; omega
  have HRR : Hid _ := hRR
  clear hTL hRR R
  go_enter Try.func27, Try.ntmps27
  go_wp2_with (go_at_call 38; refine hN.mono ?_; rintro e w1 ⟨p, g, rfl, hI, hp, hg, g1⟩)
  have hB := Bx.new w1 67 [.pointer (some ⟨p, 0, none⟩)]
  have g2 := World.grownBy_alloc w1 (.cells #[.pointer (some ⟨p, 0, none⟩)] 67) none
  have hI2 := hI.grown g2 (by simp) (by simp)
  have hgl := (Array.getElem?_eq_some_iff.1 hI.row).1
  have hT0 : To16 w (w1.alloc (.cells #[.pointer (some ⟨p, 0, none⟩)] 67)) w1.heap.size p g bs 0 0 [] (.slice none 0 0) := ⟨hB, hI2, World.ownsRow_nil _ _ _ _, grown_trans g1 g2, hI.blk.lt, hgl, hp⟩
  have HT0 : Hid _ := hT0
  clear hN hB g2 hI2 hgl hT0 g1 hI
  generalize w1.heap.size = q at *
  go_loopw [3] (fun v wr => ∃ (at_ : Nat) (e : Int) (l : List Kx) (n : Nat), Hid (To16 w wr q p g bs at_ e l v ∧ (e = 0 → RR = l ++ tldT bs n at_ ∧ bs.length - at_ < n) ∧ (¬ e = 0 → RR = l))) (fun _ wr => lft16 bs.length p wr)
  case atStart => exact ⟨0, 0, [], bs.length + 1, HT0.out, fun _ => ⟨HRR.out.symm, by omega⟩, fun h => absurd rfl h⟩
  case round =>
    obtain ⟨at_, e, l, n, HH⟩ := hrel
    clear HT0
    obtain ⟨hT, h1, h2⟩ := HH.out
    have HM0 : Hid _ := lft_eq hT.rd
    have c4 := hT.bx.c 0
    have hLf := rleft_any p g bs.length bs.length at_ e wr hT.rd.blk hT.rd.len (by omega) (by have := hT.rd.at_le; have := hT.rd.len; omega)
    by_cases hlt : at_ < bs.length
    · have q1 : (0 : Int) < (bs.length : Int) - (at_ : Int) := by omega
      go_wp2_with (go_at_call 43; refine hLf.mono ?_; rintro e1 w2 ⟨rfl, k1, _⟩)
      have hT2 := hT.keep k1
      have c4 := hT2.bx.c 0
      have hWh := pwhole_any p g q bs at_ e w2 hT2.rd c4
      go_wp2_with fail
      refine hWh.mono ?_
      rintro e3 w3 ⟨rfl, k3⟩
      have hT3 := hT2.keep k3
      clear hT hT2 k1 k3 c4 hWh hLf HH
      by_cases he : e = 0
      · subst he
        obtain ⟨hR, hn⟩ := h1 rfl
        obtain ⟨n, rfl⟩ : ∃ m, n = m + 1 := ⟨n - 1, by omega⟩
        clear h1 h2
        have c4 := hT3.bx.c 0
        have hG1 := pget_any p g q bs at_ 2 0 w3 hT3.rd c4 (by decide)
        go_wp2_with fail
        refine hG1.mono ?_
        rintro e3 w4 ⟨x1, a1, s1, rfl, r1, k1, u1, u2, u3, u4⟩
        have hT4 := hT3.call r1 k1
        clear hT3 r1 k1 c4 hG1
        have c4 := hT4.bx.c 0
        have hG2 := pget_any p g q bs a1 4 s1 w4 hT4.rd c4 (by decide)
        go_wp2_with fail
        refine hG2.mono ?_
        rintro e4 w5 ⟨x2, a2, s2, rfl, r2, k2, v1, v2, v3, v4⟩
        have hT5 := hT4.call r2 k2
        clear hT4 r2 k2 c4 hG2
        have hS : s2 = 0 ↔ at_ + 6 ≤ bs.length := by
          rw [v1, u1]
          constructor
          · rintro ⟨⟨_, b⟩, c⟩
            have := (u2 (u1.2 ⟨by trivial, b⟩)).2
            omega
          · intro h
            have := (u2 (u1.2 ⟨by trivial, by omega⟩)).2
            exact ⟨⟨by trivial, by omega⟩, by omega⟩
        have hS2 : s2 = 0 → x1 = le ((bs.drop at_).take 2) ∧ x2 = le ((bs.drop (at_ + 2)).take 4) ∧ a2 = at_ + 6 := fun h => by
          obtain ⟨h3, h4⟩ := v1.1 h
          obtain ⟨h5, h6⟩ := u2 h3
          obtain ⟨h7, h8⟩ := v2 h
          subst h6
          exact ⟨h5, h7, by omega⟩
        obtain ⟨c, hc⟩ : ∃ c : Nat, x1 = (c : Int) := ⟨x1.toNat, by omega⟩
        subst hc
        have hEq : (s2 = 0 → RR = match (kdT x2 bs c a2).2 with | some q => (l ++ (kdT x2 bs c a2).1) ++ tldT bs n q | none => l ++ (kdT x2 bs c a2).1) ∧ (¬ s2 = 0 → RR = l) := by
          refine ⟨fun h => ?_, fun h => ?_⟩
          · obtain ⟨h3, h4, h5⟩ := hS2 h
            rw [tldT, if_pos (hS.1 h)] at hR
            have e : rwT bs at_ = kdT x2 bs c a2 := by unfold rwT; rw [← h3, ← h4, ← h5, Int.toNat_natCast]
            rw [e] at hR
            rw [hR]
            split
            · rename_i q hq; rw [hq]; simp only [List.append_assoc]
            · rename_i hq; rw [hq]
          · rw [tldT, if_neg (fun h2 => h (hS.2 h2)), List.append_nil] at hR
            exact hR
        have hax : at_ ≤ a2 := by omega
        have hat : a2 ≤ bs.length := hT5.rd.at_le
        have hz : s2 = 0 → a2 = at_ + 6 := fun h => (hS2 h).2.2
        clear hS hS2 v1 v2 v4 u1 u2 u4 hR
        have HF : Hid ((0 ≤ x2 ∧ x2 < 4294967296) ∧ at_ ≤ a2 ∧ bs.length - at_ < n + 1 ∧ ((c : Int) < 4294967296)) := ⟨v3, hax, hn, u3.2⟩
        have HQ : Hid _ := hEq
        have HZ : Hid _ := hz
        have HT5 : Hid _ := hT5
        clear v3 hax hn hEq hz u3 hT5 hat
        go_wp2_with fail
        go_loopw [3, 27] (fun v i wr => ∃ (j a3 : Nat) (s3 : Int) (m : List Kx), i = .int .i64 j ∧ j ≤ c ∧ Hid (To16 w wr q p g bs a3 s3 m v ∧ at_ ≤ a3 ∧ (s3 = 0 → at_ + 6 ≤ a3 ∧ (l ++ (kdT x2 bs c a2).1) = m ++ (kdT x2 bs (c - j) a3).1 ∧ (kdT x2 bs c a2).2 = (kdT x2 bs (c - j) a3).2 ∧ s2 = 0) ∧ (¬ s3 = 0 → RR = m))) (fun _ i _ => c - (intOf i).toNat)
        case atStart => exact ⟨0, a2, s2, l, rfl, Nat.zero_le _, HT5.out, HF.out.2.1, fun h => ⟨by have := HZ.out h; omega, by rw [Nat.sub_zero], by rw [Nat.sub_zero], h⟩, HQ.out.2⟩
        case round =>
          clear HT5
          obtain ⟨j, a3, s3, m, rfl, hj, HX⟩ := hrel
          obtain ⟨hT, h1, h2, h3⟩ := HX.out
          by_cases hlt : j < c
          · have hji : (j : Int) < (c : Int) := by omega
            have c4 := hT.bx.c 0
            have hG1 := pget_any p g q bs a3 2 s3 wr hT.rd c4 (by decide)
            go_wp2_with fail
            refine hG1.mono ?_
            rintro e3 w4 ⟨y1, b1, t1, rfl, r1, k1, u1, u2, u3, u4⟩
            have hT4 := hT.call r1 k1
            clear hT r1 k1 c4 hG1 HX
            have hw1 : IntKind.i64.wrap (x2 + y1) = x2 + y1 := by have := HF.out.1; rw [IntKind.wrap_i64]; omega
            go_wp2_with fail
            have c4 := hT4.bx.c 0
            have hT4d : To16 w w4.drew q p g bs b1 t1 m _ := hT4.keep ⟨rfl, rfl, rfl, Nat.le_refl _, fun _ _ _ => rfl⟩
            refine wp_region_held_drew (S := fun w' => w'.cell? ⟨q, 0, none⟩ = some (.pointer (some ⟨p, 0, none⟩))) (by kernel_rfl) c4 (fun hH => ?_)
            refine wpAnyH_take (i := 0) (oi := ⟨some 33, _, _, _, _, _⟩) (v := .pointer (some ⟨p, 0, none⟩)) rfl (by kernel_rfl) (by kernel_rfl) (by kernel_rfl) (fun _ _ _ h => h) (Or.inl ⟨by rfl, fun w hSw => by go_simp⟩) hH ?_
            try simp only [Act.put, List.setIfInBounds_toArray, List.set_cons_zero, List.set_cons_succ]
            refine wpAnyH_take (i := 1) (oi := ⟨some 34, _, _, _, _, _⟩) (v := .func (.func 39) #[] #[.pointer (some ⟨q, 0, none⟩)]) rfl (by kernel_rfl) (by kernel_rfl) (by kernel_rfl) (fun _ _ _ h => h) (Or.inl ⟨by rfl, fun w hSw => by go_simp⟩) hH ?_
            try simp only [Act.put, List.setIfInBounds_toArray, List.set_cons_zero, List.set_cons_succ]
            have hG2 := pget_any p g q bs b1 1 t1 w4.drew hT4d.rd c4 (by decide)
            refine wpAnyH_ready (rs := [2]) (by kernel_rfl) (by simp) ?_
            refine AllReadyH.cons rfl (fun K hK => ?_) AllReadyH.nil
            go_simp
            go_wp2_with fail
            refine hG2.mono ?_
            rintro e5 w5 ⟨y2, b2, t2, rfl, r2, k2, v1, v2, v3, v4⟩
            have hT5 := hT4d.call r2 k2
            clear hG2 hT4 hT4d r2 k2 c4
            have c4 := hT5.bx.c 0
            refine hK.out _ _ c4 (fun _ => ?_)
            clear hK K
            obtain ⟨y2, rfl⟩ : ∃ n : Nat, y2 = (n : Int) := ⟨y2.toNat, by omega⟩
            have hG3 := rbytesA_any p g bs b2 y2 t2 w5 hT5.rd (by omega)
            refine wpAnyH_ready (rs := [3]) (by kernel_rfl) (by simp) ?_
            refine AllReadyH.cons rfl (fun K hK => ?_) AllReadyH.nil
            go_simp
            go_wp2_with (go_at_call 44; refine hG3.mono ?_; rintro e6 w6 ⟨v, b3, t3, rfl, r3, k3, z1, z2, z3, z4⟩)
            have hT6 := hT5.call r3 k3
            have hk35 : w5.heap.size ≤ w6.heap.size := k3.size
            clear hG3 hT5 r3 k3 c4
            have c4 := hT6.bx.c 0
            refine hK.out _ _ c4 (fun _ => ?_)
            clear hK K
            try simp only [Act.put, List.setIfInBounds_toArray, List.set_cons_zero, List.set_cons_succ]
            refine wpAnyH_ready (rs := [4]) (by kernel_rfl) (by simp) ?_
            refine AllReadyH.cons rfl (fun K hK => ?_) AllReadyH.nil
            go_simp
            refine hK.out _ _ c4 (fun _ => ?_)
            clear hK K
            refine wpAnyH_done (by kernel_rfl) ?_ _
            have hWh := pwhole_any p g q bs b3 t3 w6 hT6.rd c4
            go_wp2_with fail
            refine hWh.mono ?_
            rintro e7 w7 ⟨rfl, k7⟩
            have hT7 := hT6.keep k7
            clear hWh
            have hT1 : t3 = 0 → s3 = 0 ∧ b1 = a3 + 2 ∧ b2 = a3 + 3 ∧ b3 = a3 + 3 + y2 ∧ y1 = le ((bs.drop a3).take 2) ∧ (y2 : Int) = le ((bs.drop (a3 + 2)).take 1) ∧ a3 + 3 + y2 ≤ bs.length := fun h => by
              obtain ⟨i1, i2⟩ := z1.1 h
              obtain ⟨i3, i4⟩ := v1.1 i1
              obtain ⟨i5, i6⟩ := u1.1 i3
              obtain ⟨o1, o2⟩ := u2 i3
              obtain ⟨o3, o4⟩ := v2 i1
              obtain ⟨o5, o6⟩ := z2 h
              subst o2
              subst o4
              exact ⟨i5, rfl, rfl, o6, o1, o3, i2⟩
            obtain ⟨r, hr⟩ : ∃ r, c - j = r + 1 := ⟨c - j - 1, by omega⟩
            rw [hr] at h2
            by_cases ht : t3 = 0
            · obtain ⟨o1, o2, o3, o4, o5, o6, o7⟩ := hT1 ht
              obtain ⟨i1, i2, i3, i4⟩ := h2 o1
              subst o4 o3
              have hby : Byt ((bs.drop (a3 + 3)).take y2) := (hT7.rd.byt.drop _).take _
              have hyl : ((bs.drop (a3 + 3)).take y2).length = y2 := by rw [List.length_take, List.length_drop]; omega
              obtain ⟨av, rfl, hrow⟩ := (z2 ht).1.row16 hby (by have := hT7.rd.len; unfold maxLen; omega)
              have hrow7 := hrow.grown k7
              rw [kdT, ← o6, Int.toNat_natCast, if_pos o7] at i2 i3
              have hcv := fun W (k : w7.grownBy W none) => conv_row (P := Try.prog) (hrow7.grown k) ((bs.drop (a3 + 3)).take y2).length 25 9 Try.underlying25 Try.underlying5 Try.underlying9
              have hml : m.length + 1 ≤ 1000000 := by
                have e := HQ.out.1 i4
                have l1 := congrArg List.length i2
                simp only [List.length_append, List.length_cons] at l1
                have l2 : l.length + (kdT x2 bs c a2).1.length ≤ RR.length := by
                  rw [e]
                  split
                  · simp only [List.length_append]; omega
                  · simp only [List.length_append]; omega
                have := HTL.out
                omega
              have hb : (t3 == 0) = true := by simpa using ht
              rw [hb]
              have HRel : Hid (at_ + 6 ≤ a3 + 3 + y2 ∧ l ++ (kdT x2 bs c a2).1 = (m ++ [⟨strOfNums ((bs.drop (a3 + 3)).take y2), x2 + y1⟩]) ++ (kdT x2 bs (c - (j + 1)) (a3 + 3 + y2)).1 ∧ (kdT x2 bs c a2).2 = (kdT x2 bs (c - (j + 1)) (a3 + 3 + y2)).2 ∧ s2 = 0) := by
                rw [show c - (j + 1) = r by omega]
                refine ⟨by omega, ?_, i3, i4⟩
                rw [i2, o5]
                simp only [List.append_assoc, List.cons_append, List.nil_append]
              obtain ⟨K, hK0⟩ : ∃ K : Kx, K = ⟨strOfNums ((bs.drop (a3 + 3)).take y2), x2 + y1⟩ := ⟨_, rfl⟩
              rw [← hK0] at HRel
              have hKs : strOfNums ((bs.drop (a3 + 3)).take y2) = K.nm := by rw [hK0]
              have hKi : x2 + y1 = K.io := by rw [hK0]
              rw [hKs] at hcv
              rw [hKi]
              rw [hyl] at hcv ⊢
              have HTe : Hid _ := ht
              clear hb hK0 hKs hKi i2 i3 i4 i1 h1 h2 h3 o1 o2 o5 o6 o7 hby hT1 z1 z2 z3 z4 v1 v2 v3 v4 u1 u2 u3 u4 hT6 k7 hrow hrow7 hyl ht hr hw1 hk35
              have hcv0 := hcv w7 (World.grownBy.refl _ _)
              have hwj : IntKind.i64.wrap ((j : Int) + 1) = (j : Int) + 1 := by have := HF.out.2.2.2; rw [IntKind.wrap_i64]; omega
              have hsz : q + 1 ≤ w7.heap.size := by have := hT7.bx.lt; omega
              go_wp2_with (at_builtin; refine wpList_append_own _ rfl _ _ 22 rfl (q + 1) 41 i5 _ 2 24 Try.underlying22 hi hz0 hz1 hz2 rfl (by decide) _ m.length _ rfl (hT7.own.alloc _) ⟨w7.heap.size, 0, none⟩ 1 1 K.cells rfl rfl (cell_kx_new w7 41 K) (by simp [Kx.cells, Value.oneCell']) (by unfold maxLen; omega) (by omega) (by simp; omega) ?_; intro u9 W9 hown9 hgrow9 _)
              have hT9 := (hT7.keep (World.grownBy_alloc w7 (.cells #[.string K.nm, .int .i64 K.io] 41) none)).app K hown9 hgrow9
              have he9 : t3 = 0 := HTe.out
              have hj5 : j < c := hlt
              have hc5 := HF.out.2.2.2
              have hy5 := HRel.out.1
              clear hwj
              refine ⟨⟨j + 1, a3 + 3 + y2, t3, m ++ [K], by go_num, by omega, hT9, by omega, fun _ => HRel.out, fun h => absurd he9 h⟩, ?_⟩
              simp [intOf]; omega
            · have hb : (t3 == 0) = false := by simpa using ht
              have hRm : RR = m := by
                by_cases hs : s3 = 0
                · obtain ⟨i1, i2, i3, i4⟩ := h2 hs
                  have hno : ¬ a3 + 3 + (le ((bs.drop (a3 + 2)).take 1)).toNat ≤ bs.length := fun hh => by
                    have j1 := u1.2 ⟨hs, by omega⟩
                    have j2 := (u2 j1).2
                    have j3 := v1.2 ⟨j1, by omega⟩
                    have j4 := v2 j3
                    rw [j2] at j4
                    have j5 := z1.2 ⟨j3, by rw [← j4.1] at hh; omega⟩
                    exact ht j5
                  rw [kdT, if_neg hno] at i2 i3
                  have := HQ.out.1 i4
                  rw [i3, i2, List.append_nil] at this
                  exact this
                · exact h3 hs
              have HRm : Hid _ := hRm
              have hml : m.length ≤ 1000000 := by rw [← hRm]; exact HTL.out
              rw [hb]
              clear hb z1 z2 z3 z4 v1 v2 v3 v4 u1 u2 u3 u4 h1 h2 h3 hT1 hRm hT6 k7
              go_wp2_with fail
              go_returns
              rw [HRm.out]
              exact hT7.post (by unfold maxLen; omega)
          · obtain rfl : j = c := by omega
            have hji : ¬ (j : Int) < (j : Int) := by omega
            rw [Nat.sub_self] at h2
            go_wp2_with fail
            go_roundw
            case rel =>
              refine ⟨a3, s3, m, n, hT, fun h => ?_, h3⟩
              obtain ⟨h4, h5, h6, h7⟩ := h2 h
              have := HQ.out.1 h7
              rw [h5, h6, kdT] at this
              simp only [List.append_nil] at this
              have := HF.out.2.2.1
              have := hT.rd.at_le
              exact ⟨by assumption, by omega⟩
            case measure =>
              rw [lft_eq hT.rd, HM0.out]
              have h4 := HF.out.2.2.1
              by_cases h : s3 = 0
              · have := (h2 h).1
                rw [if_pos h]
                simp only [if_true]
                omega
              · rw [if_neg h]
                simp only [if_true]
                omega
      · have hR := h2 he
        have hb : (e == 0) = false := by simpa using he
        rw [hb]
        clear h1 h2 hb
        go_wp2_with fail
        go_returns
        rw [hR]
        exact hT3.post (by rw [← hR]; have := HTL.out; unfold maxLen; omega)
    · have q1 : ¬ (0 : Int) < (bs.length : Int) - (at_ : Int) := by omega
      go_wp2_with (go_at_call 43; refine hLf.mono ?_; rintro e1 w2 ⟨rfl, k1, _⟩)
      have hT2 := hT.keep k1
      have hR : RR = l := by
        by_cases he : e = 0
        · obtain ⟨hR, hn⟩ := h1 he
          obtain ⟨n, rfl⟩ : ∃ m, n = m + 1 := ⟨n - 1, by omega⟩
          rw [tldT, if_neg (by omega), List.append_nil] at hR
          exact hR
        · exact h2 he
      clear h1 h2 hT HH
      go_wp2_with fail
      go_returns
      rw [hR]
      exact hT2.post (by rw [← hR]; have := HTL.out; unfold maxLen; omega)
end Go.Proofs.Ytngalihnckbkfaa
