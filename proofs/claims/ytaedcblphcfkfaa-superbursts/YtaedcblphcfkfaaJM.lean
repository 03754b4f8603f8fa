/- The walk of SuperBursts. -/
import Derived.Test.YtaedcblphcfkfaaJH
import Derived.Test.YtaedcblphcfkfaaJP
import Derived.BigRegion
namespace Go.Proofs.Ytaedcblphcfkfaa
open Go.RowKit
set_option linter.unusedSimpArgs false
set_option linter.unusedVariables false

/-- a row of bytes of the call's own, which may be written -/
structure Cst (w : World) (g n : Nat) (cs : List Int) : Prop where
  len : cs.length = n
  byt : Byt cs
  blk : ∃ cur : List Value, Blk w g cur ∧ cur.take n = bv cs
theorem Cst.cell {w : World} {g n : Nat} {cs : List Int} (h : Cst w g n cs) (k : Nat) (hk : k < n) : w.cell? ⟨g, k, none⟩ = some (.int .u8 (cs.getD k 0)) ∧ w.frozen? ⟨g, k, none⟩ = false := by
  obtain ⟨cur, hb, ht⟩ := h.blk
  refine ⟨?_, hb.frozen k⟩
  rw [hb.cell, ← bv_getElem? _ _ (by rw [h.len]; exact hk), ← ht, List.getElem?_take, if_pos hk]
theorem Cst.set {w : World} {g n : Nat} {cs : List Int} (h : Cst w g n cs) (k : Nat) (x : Int) (hx : 0 ≤ x ∧ x ≤ 255) : Cst (w.setCell ⟨g, k, none⟩ (.int .u8 x)) g n (cs.set k x) := by
  obtain ⟨cur, hb, ht⟩ := h.blk
  refine ⟨by rw [List.length_set]; exact h.len, ?_, _, hb.set k _, ?_⟩
  · intro z hz
    rcases List.mem_or_eq_of_mem_set hz with h1 | h1
    · exact h.byt z h1
    · subst h1; exact hx
  · rw [List.take_set, ht]; unfold bv; rw [List.map_set]
theorem Cst.row {w : World} {g n : Nat} {cs : List Int} (h : Cst w g n cs) (hn : n ≤ maxLen) : Row w (some ⟨g, 0, none⟩) n cs :=
  ⟨h.len, hn, h.byt, fun _ => ⟨g, 0, rfl, fun i hi => by rw [Nat.zero_add]; exact (h.cell i hi).1⟩⟩
theorem owns_cst {w : World} {base n c : Nat} {a : Option Addr} {bs : List Int} (h : w.ownsRow base 5 1 (.slice a n c) n (bv bs)) (hb : Byt bs) (h0 : 0 < n) : ∃ g, a = some ⟨g, 0, none⟩ ∧ base ≤ g ∧ g < w.heap.size ∧ Cst w g n bs := by
  obtain ⟨h1, h2⟩ := h
  rw [bv_length, Nat.mul_one] at h1
  rcases h2 with ⟨e, rfl⟩ | ⟨g, cap, cur, e, hbg, hg, hc, hm, hs, ht⟩
  · omega
  · injection e with e1 e2 e3
    refine ⟨g, e1, hbg, (Array.getElem?_eq_some_iff.1 hg).1, h1, hb, cur.toList, by simpa [Blk] using hg, ?_⟩
    rw [← ht, Nat.mul_one]

theorem halves_zero (k : Nat) : halves k 0 = 0 := by
  have := halves_mul k 0
  rwa [Nat.mul_zero] at this
theorem and_bit (t j : Nat) (ht : t < 4294967296) : bits .and .u32 ((t : Int) / 2 ^ j) 1 = ((t / 2 ^ j % 2 : Nat) : Int) := by
  have h := and1 (n := t / 2 ^ j) (Nat.lt_of_le_of_lt (Nat.div_le_self _ _) ht)
  rw [Int.natCast_ediv, Int.natCast_pow] at h
  exact h
theorem shl8 (j : Nat) (h : j < 8) : (2 : Nat) ^ j < 256 := Nat.pow_lt_pow_right (a := 2) (n := 8) (by decide) h
theorem flip8 {x : Int} (hx : 0 ≤ x ∧ x ≤ 255) {j : Nat} (h : j < 8) : bits .xor .u8 x ((2 : Int) ^ j % 256) = ((x.toNat ^^^ 2 ^ j : Nat) : Int) ∧ x.toNat ^^^ 2 ^ j < 256 := by
  obtain ⟨n, rfl⟩ := Int.eq_ofNat_of_zero_le hx.1
  have e : (2 : Int) ^ j % 256 = ((2 ^ j : Nat) : Int) := by
    have h1 := shl8 j h
    have h2 : (2 : Int) ^ j = ((2 ^ j : Nat) : Int) := by rw [Int.natCast_pow]; rfl
    rw [h2]
    generalize 2 ^ j = p at h1
    omega
  rw [e]
  exact ⟨xor8 (by omega) (shl8 j h), Nat.xor_lt_two_pow (n := 8) (by omega) (shl8 j h)⟩
theorem Cst.drew {w : World} {g n : Nat} {cs : List Int} (h : Cst w g n cs) : Cst w.drew g n cs := ⟨h.len, h.byt, h.blk⟩
theorem Cst.grown {w w' : World} {g n : Nat} {cs : List Int} (h : Cst w g n cs) (hg : w.grownBy w' none) : Cst w' g n cs := by
  obtain ⟨cur, hb, ht⟩ := h.blk
  exact ⟨h.len, h.byt, cur, hb.grown hg (by simp), ht⟩

theorem own_cap {w : World} {base n c : Nat} {a : Option Addr} {xs : List Value} (h : w.ownsRow base 5 1 (.slice a n c) n xs) : n ≤ c ∧ c ≤ maxLen := by
  rcases h.2 with ⟨e, _⟩ | ⟨g, cap, cur, e, _, _, h1, h2, _⟩
  · injection e with _ e2 e3
    subst e2 e3
    exact ⟨Nat.le_refl _, Nat.zero_le _⟩
  · injection e with _ _ e3
    subst e3
    exact ⟨h1, h2⟩
/-- region 3's memory -/
structure Vb13 (w W : World) (gr : Nat) (cr : List Value) : Prop where
  r : Bx W gr 26 cr
  gr' : w.grownBy W none
theorem Vb13.keep {w W W' : World} {gr : Nat} {cr : List Value} (h : Vb13 w W gr cr) (k : W.grownBy W' none) : Vb13 w W' gr cr := ⟨h.r.kept k, grown_trans h.gr' k⟩
set_option maxHeartbeats 40000000 in
theorem superBursts_walk (s : Sp) (A t : Nat) (w : World) (hs : s.ok) (hA : A ≤ 65535) (ht : t < 4294967296) :
    Calls Try.prog 6 #[s.val, .int .u16 A, .int .u32 t] w fun e w' => e = .returned (.bool true) ∧ Below w.heap.size w w' := by
  have HL : Hid (∀ W : World, Calls Try.prog 7 #[] W fun e w' => e = .returned (.bool true) ∧ W.grownBy w' none) := fun W => live13_any W
  have h4 := fun W => pencode13 s W
  have hK1 := fun W => pcheck13_any s W
  unfold pck at hK1
  have heq := fun W => sup_eql sp0 W sp0_ok
  have H0 : Hid (Vb13 w (w.alloc (.cells s.cells.toArray 26)) w.heap.size s.cells) := ⟨Bx.new w 26 s.cells, World.grownBy_alloc w (.cells s.cells.toArray 26) none⟩
  simp only [sp0, Sp.val] at heq
  cases hrr : srt s with
  | false =>
    have hen : sen s = ([], 1) := by unfold sen; rw [if_neg (by rw [hrr]; decide)]
    rw [hen] at h4
    rw [hrr, if_neg (by decide)] at hK1
    clear hen hrr heq hs
    obtain ⟨lg, no, ln, a0, z0, a1, z1, a2, z2, a3, z3, a4, z4, a5, z5⟩ := s
    simp only [Sp.val, Sp.cells] at *
    go_enter Try.func6, Try.ntmps6
    go_wp2_with ((with_reducible refine loadS_here ?_); refine wpList_loadB rfl 26 _ rfl w.heap.size rfl H0.out.r Try.underlying26 rfl infoS ?_)
    refine (h4 _).mono ?_
    intro e w4 k4
    obtain ⟨q4, m4, c4, rfl, o4, g4⟩ := k4
    have H4 : Hid _ := H0.out.keep g4
    clear g4 o4 H0 h4
    simp only
    go_wp2_with (first | (go_at_call 10; (with_reducible refine (num13_any _ _).mono ?_); rintro e w' ⟨rfl, rfl⟩))
    go_wp2_with fail
    refine wp_region_held_drew (S := fun w' => Vb13 w w' w.heap.size [.int .i64 lg, .int .i64 no, .int .i64 ln, .int .i64 a0, .int .i64 z0, .int .i64 a1, .int .i64 z1, .int .i64 a2, .int .i64 z2, .int .i64 a3, .int .i64 z3, .int .i64 a4, .int .i64 z4, .int .i64 a5, .int .i64 z5]) (by kernel_rfl) (H4.out.keep ⟨rfl, rfl, rfl, Nat.le_refl _, fun _ _ _ => rfl⟩) (fun hH => ?_)
    refine wpAnyH_take (i := 0) (oi := ⟨some 25, _, _, _, _, _⟩) (v := .int .i64 1) rfl (by kernel_rfl) (by kernel_rfl) (by kernel_rfl) (fun _ _ _ h => h) (Or.inl ⟨by rfl, fun w hSw => by go_simp⟩) hH ?_
    simp only [Act.put, List.setIfInBounds_toArray, List.set_cons_zero, List.set_cons_succ]
    refine wpAnyH_take (i := 3) (oi := ⟨some 28, _, _, _, _, _⟩) (v := .agg #[.int .i64 lg, .int .i64 no, .int .i64 ln, .int .i64 a0, .int .i64 z0, .int .i64 a1, .int .i64 z1, .int .i64 a2, .int .i64 z2, .int .i64 a3, .int .i64 z3, .int .i64 a4, .int .i64 z4, .int .i64 a5, .int .i64 z5]) rfl (by kernel_rfl) (by kernel_rfl) (by kernel_rfl) (fun _ _ _ h => h) (Or.inl ⟨by rfl, fun w hSw => by obtain ⟨d0, d1, d2, d3, d4, d5, d6, d7, d8, d9, d10, d11, d12, d13, d14⟩ := bx15 hSw.r; go_simp⟩) hH ?_
    simp only [Act.put, List.setIfInBounds_toArray, List.set_cons_zero, List.set_cons_succ]
    refine wpAnyH_ready (rs := [1]) (by kernel_rfl) (by simp) ?_
    refine AllReadyH.cons rfl (fun K hK => ?_) AllReadyH.nil
    go_simp
    go_wp2_with (go_at_call 10; refine (num13_any _ _).mono ?_; rintro e wx ⟨rfl, rfl⟩)
    refine hK.out _ _ hH (fun _ => ?_)
    clear hK K
    refine wpAnyH_take (i := 2) (oi := ⟨some 27, _, _, _, _, _⟩) (v := .bool true) rfl (by kernel_rfl) (by kernel_rfl) (by kernel_rfl) (fun _ _ _ h => h) (Or.inl ⟨by rfl, fun w hSw => by go_simp⟩) hH ?_
    simp only [Act.put, List.setIfInBounds_toArray, List.set_cons_zero, List.set_cons_succ]
    refine wpAnyH_ready (rs := [4]) (by kernel_rfl) (by simp) ?_
    refine AllReadyH.cons rfl (fun K hK => ?_) AllReadyH.nil
    go_simp
    go_wp2_with (go_at_call 11; refine (hK1 _).mono ?_; rintro e wx ⟨rfl, hgx⟩)
    replace hH := hH.keep hgx
    refine hK.out _ _ hH (fun _ => ?_)
    clear hK K hgx
    refine wpAnyH_ready (rs := [5]) (by kernel_rfl) (by simp) ?_
    refine AllReadyH.cons rfl (fun K hK => ?_) AllReadyH.nil
    go_simp
    go_wp2_with (go_at_call 10; refine (num13_any _ _).mono ?_; rintro e wx ⟨rfl, rfl⟩)
    refine hK.out _ _ hH (fun _ => ?_)
    clear hK K
    refine wpAnyH_take (i := 6) (oi := ⟨some 31, _, _, _, _, _⟩) (v := .bool true) rfl (by kernel_rfl) (by kernel_rfl) (by kernel_rfl) (fun _ _ _ h => h) (Or.inl ⟨by rfl, fun w hSw => by go_simp⟩) hH ?_
    simp only [Act.put, List.setIfInBounds_toArray, List.set_cons_zero, List.set_cons_succ]
    refine wpAnyH_take (i := 7) (oi := ⟨some 32, _, _, _, _, _⟩) (v := .bool true) rfl (by kernel_rfl) (by kernel_rfl) (by kernel_rfl) (fun _ _ _ h => h) (Or.inl ⟨by rfl, fun w hSw => by go_simp⟩) hH ?_
    simp only [Act.put, List.setIfInBounds_toArray, List.set_cons_zero, List.set_cons_succ]
    refine wpAnyH_take (i := 8) (oi := ⟨some 33, _, _, _, _, _⟩) (v := .bool true) rfl (by kernel_rfl) (by kernel_rfl) (by kernel_rfl) (fun _ _ _ h => h) (Or.inl ⟨by rfl, fun w hSw => by go_simp⟩) hH ?_
    simp only [Act.put, List.setIfInBounds_toArray, List.set_cons_zero, List.set_cons_succ]
    refine wpAnyH_ready (rs := [9]) (by kernel_rfl) (by simp) ?_
    refine AllReadyH.cons rfl (fun K hK => ?_) AllReadyH.nil
    go_simp
    go_wp2_with (go_at_call 7; refine (HL.out _).mono ?_; rintro e wx ⟨rfl, hgx⟩)
    replace hH := hH.keep hgx
    refine hK.out _ _ hH (fun _ => ?_)
    clear hK K hgx
    refine wpAnyH_take (i := 10) (oi := ⟨some 35, _, _, _, _, _⟩) (v := .bool true) rfl (by kernel_rfl) (by kernel_rfl) (by kernel_rfl) (fun _ _ _ h => h) (Or.inl ⟨by rfl, fun w hSw => by go_simp⟩) hH ?_
    simp only [Act.put, List.setIfInBounds_toArray, List.set_cons_zero, List.set_cons_succ]
    refine wpAnyH_take (i := 11) (oi := ⟨some 6, _, _, _, _, _⟩) (v := .bool true) rfl (by kernel_rfl) (by kernel_rfl) (by kernel_rfl) (fun _ _ _ h => h) (Or.inl ⟨by rfl, fun w hSw => by go_simp⟩) hH ?_
    simp only [Act.put, List.setIfInBounds_toArray, List.set_cons_zero, List.set_cons_succ]
    refine wpAnyH_done (by kernel_rfl) ?_ _
    have HF : Hid _ := hH.gr'
    go_wp2
    go_ret
    exact ⟨rfl, grown_below HF.out⟩
  | true =>
    have hlg := (srt_iff.1 hrr).1
    unfold Hok at hlg
    rw [sen_right hrr] at h4
    rw [hrr, if_pos rfl] at hK1
    have hres := upd_spb (s := s) ⟨by omega, by omega⟩
    have hby := spb_byt (s := s) ⟨by omega, by omega⟩
    have hln := spb_len s
    clear hrr hlg hs
    generalize spb s = bs at *
    have HB : Hid _ := And.intro hres (And.intro hby hln)
    clear hres hby hln
    obtain ⟨lg, no, ln, a0, z0, a1, z1, a2, z2, a3, z3, a4, z4, a5, z5⟩ := s
    simp only [Sp.val, Sp.cells] at *
    by_cases ht0 : t = 0
    · subst ht0
      clear heq
      go_enter Try.func6, Try.ntmps6
      go_wp2_with ((with_reducible refine loadS_here ?_); refine wpList_loadB rfl 26 _ rfl w.heap.size rfl H0.out.r Try.underlying26 rfl infoS ?_)
      refine (h4 _).mono ?_
      intro e w4 k4
      obtain ⟨q4, m4, c4, rfl, o4, g4⟩ := k4
      have H4 : Hid _ := H0.out.keep g4
      clear g4 o4 H0 h4 HB
      simp only
      go_wp2_with (first | (go_at_call 10; (with_reducible refine (num13_any _ _).mono ?_); rintro e w' ⟨rfl, rfl⟩))
      go_wp2_with fail
      refine wp_region_held_drew (S := fun w' => Vb13 w w' w.heap.size [.int .i64 lg, .int .i64 no, .int .i64 ln, .int .i64 a0, .int .i64 z0, .int .i64 a1, .int .i64 z1, .int .i64 a2, .int .i64 z2, .int .i64 a3, .int .i64 z3, .int .i64 a4, .int .i64 z4, .int .i64 a5, .int .i64 z5]) (by kernel_rfl) (H4.out.keep ⟨rfl, rfl, rfl, Nat.le_refl _, fun _ _ _ => rfl⟩) (fun hH => ?_)
      refine wpAnyH_take (i := 0) (oi := ⟨some 25, _, _, _, _, _⟩) (v := .int .i64 0) rfl (by kernel_rfl) (by kernel_rfl) (by kernel_rfl) (fun _ _ _ h => h) (Or.inl ⟨by rfl, fun w hSw => by go_simp⟩) hH ?_
      simp only [Act.put, List.setIfInBounds_toArray, List.set_cons_zero, List.set_cons_succ]
      refine wpAnyH_take (i := 3) (oi := ⟨some 28, _, _, _, _, _⟩) (v := .agg #[.int .i64 lg, .int .i64 no, .int .i64 ln, .int .i64 a0, .int .i64 z0, .int .i64 a1, .int .i64 z1, .int .i64 a2, .int .i64 z2, .int .i64 a3, .int .i64 z3, .int .i64 a4, .int .i64 z4, .int .i64 a5, .int .i64 z5]) rfl (by kernel_rfl) (by kernel_rfl) (by kernel_rfl) (fun _ _ _ h => h) (Or.inl ⟨by rfl, fun w hSw => by obtain ⟨d0, d1, d2, d3, d4, d5, d6, d7, d8, d9, d10, d11, d12, d13, d14⟩ := bx15 hSw.r; go_simp⟩) hH ?_
      simp only [Act.put, List.setIfInBounds_toArray, List.set_cons_zero, List.set_cons_succ]
      refine wpAnyH_ready (rs := [1]) (by kernel_rfl) (by simp) ?_
      refine AllReadyH.cons rfl (fun K hK => ?_) AllReadyH.nil
      go_simp
      go_wp2_with (go_at_call 10; refine (num13_any _ _).mono ?_; rintro e wx ⟨rfl, rfl⟩)
      refine hK.out _ _ hH (fun _ => ?_)
      clear hK K
      refine wpAnyH_take (i := 2) (oi := ⟨some 27, _, _, _, _, _⟩) (v := .bool false) rfl (by kernel_rfl) (by kernel_rfl) (by kernel_rfl) (fun _ _ _ h => h) (Or.inl ⟨by rfl, fun w hSw => by go_simp⟩) hH ?_
      simp only [Act.put, List.setIfInBounds_toArray, List.set_cons_zero, List.set_cons_succ]
      refine wpAnyH_ready (rs := [4]) (by kernel_rfl) (by simp) ?_
      refine AllReadyH.cons rfl (fun K hK => ?_) AllReadyH.nil
      go_simp
      go_wp2_with (go_at_call 11; refine (hK1 _).mono ?_; rintro e wx ⟨rfl, hgx⟩)
      replace hH := hH.keep hgx
      refine hK.out _ _ hH (fun _ => ?_)
      clear hK K hgx
      refine wpAnyH_ready (rs := [5]) (by kernel_rfl) (by simp) ?_
      refine AllReadyH.cons rfl (fun K hK => ?_) AllReadyH.nil
      go_simp
      go_wp2_with (go_at_call 10; refine (num13_any _ _).mono ?_; rintro e wx ⟨rfl, rfl⟩)
      refine hK.out _ _ hH (fun _ => ?_)
      clear hK K
      refine wpAnyH_take (i := 6) (oi := ⟨some 31, _, _, _, _, _⟩) (v := .bool false) rfl (by kernel_rfl) (by kernel_rfl) (by kernel_rfl) (fun _ _ _ h => h) (Or.inl ⟨by rfl, fun w hSw => by go_simp⟩) hH ?_
      simp only [Act.put, List.setIfInBounds_toArray, List.set_cons_zero, List.set_cons_succ]
      refine wpAnyH_take (i := 7) (oi := ⟨some 32, _, _, _, _, _⟩) (v := .bool true) rfl (by kernel_rfl) (by kernel_rfl) (by kernel_rfl) (fun _ _ _ h => h) (Or.inl ⟨by rfl, fun w hSw => by go_simp⟩) hH ?_
      simp only [Act.put, List.setIfInBounds_toArray, List.set_cons_zero, List.set_cons_succ]
      refine wpAnyH_take (i := 8) (oi := ⟨some 33, _, _, _, _, _⟩) (v := .bool true) rfl (by kernel_rfl) (by kernel_rfl) (by kernel_rfl) (fun _ _ _ h => h) (Or.inl ⟨by rfl, fun w hSw => by go_simp⟩) hH ?_
      simp only [Act.put, List.setIfInBounds_toArray, List.set_cons_zero, List.set_cons_succ]
      refine wpAnyH_ready (rs := [9]) (by kernel_rfl) (by simp) ?_
      refine AllReadyH.cons rfl (fun K hK => ?_) AllReadyH.nil
      go_simp
      go_wp2_with (go_at_call 7; refine (HL.out _).mono ?_; rintro e wx ⟨rfl, hgx⟩)
      replace hH := hH.keep hgx
      refine hK.out _ _ hH (fun _ => ?_)
      clear hK K hgx
      refine wpAnyH_take (i := 10) (oi := ⟨some 35, _, _, _, _, _⟩) (v := .bool true) rfl (by kernel_rfl) (by kernel_rfl) (by kernel_rfl) (fun _ _ _ h => h) (Or.inl ⟨by rfl, fun w hSw => by go_simp⟩) hH ?_
      simp only [Act.put, List.setIfInBounds_toArray, List.set_cons_zero, List.set_cons_succ]
      refine wpAnyH_take (i := 11) (oi := ⟨some 6, _, _, _, _, _⟩) (v := .bool true) rfl (by kernel_rfl) (by kernel_rfl) (by kernel_rfl) (fun _ _ _ h => h) (Or.inl ⟨by rfl, fun w hSw => by go_simp⟩) hH ?_
      simp only [Act.put, List.setIfInBounds_toArray, List.set_cons_zero, List.set_cons_succ]
      refine wpAnyH_done (by kernel_rfl) ?_ _
      have HF : Hid _ := hH.gr'
      go_wp2
      go_ret
      exact ⟨rfl, grown_below HF.out⟩
    · have hte : ((t : Int) == 0) = false := by simp; omega
      have HT : Hid (t ≠ 0 ∧ t < 4294967296) := ⟨ht0, ht⟩
      clear ht0 ht hK1
      go_enter Try.func6, Try.ntmps6
      go_wp2_with ((with_reducible refine loadS_here ?_); refine wpList_loadB rfl 26 _ rfl w.heap.size rfl H0.out.r Try.underlying26 rfl infoS ?_)
      refine (h4 _).mono ?_
      intro e w4 k4
      obtain ⟨q4, m4, c4, rfl, o4, g4⟩ := k4
      obtain rfl : m4 = 68 := by have h := o4.1; simp only [bv_length] at h; have := HB.out.2.2; omega
      obtain ⟨nc4, cm4⟩ : 68 ≤ c4 ∧ c4 ≤ maxLen := own_cap o4
      obtain ⟨g, rfl, hgb, hgl, hC⟩ := owns_cst o4 HB.out.2.1 (by omega)
      have hgw : w.heap.size ≤ g := by simp at hgb; omega
      have HC0 : Hid _ := And.intro hC (And.intro nc4 cm4)
      have H4 : Hid _ := grown_trans H0.out.gr' g4
      clear g4 o4 H0 h4 hC nc4 cm4
      simp only
      go_wp2_with (first | (go_at_call 10; (with_reducible refine (num13_any _ _).mono ?_); rintro e w' ⟨rfl, rfl⟩))
      go_loopw [9, 10] (fun i _ wr => ∃ (j : Nat) (cs : List Int), i = .int .i64 j ∧ j ≤ 32 ∧ Hid (Cst wr g 68 cs ∧ upd ent 4294967295 cs = upd ent 4294967295 bs ^^^ halves (8 * 68 - A) (t % 2 ^ j) ∧ w.grownBy wr none)) (fun i _ _ => 32 - (intOf i).toNat)
      case atStart => exact ⟨0, bs, rfl, Nat.zero_le _, HC0.out.1, by rw [Nat.pow_zero, Nat.mod_one, halves_zero, Nat.xor_zero], H4.out⟩
      case round =>
        clear H4
        obtain ⟨j, cs, rfl, hj, HY⟩ := hrel
        by_cases hlt : j < 32
        · have hj1 : (j : Int) < 32 := by omega
          have hbit := and_bit t j HT.out.2
          by_cases hb : t / 2 ^ j % 2 = 0
          · rw [hb] at hbit
            have HY2 : Hid (Cst wr g 68 cs ∧ upd ent 4294967295 cs = upd ent 4294967295 bs ^^^ halves (8 * 68 - A) (t % 2 ^ (j + 1)) ∧ w.grownBy wr none) := by
              show _ ∧ _ ∧ _
              rw [mod_bit0 hb]; exact HY.out
            clear hb HY
            go_wp2_with fail
            go_roundw
            case rel => exact ⟨j + 1, cs, by go_num, by omega, HY2⟩
            case measure => simp [intOf]; omega
          · have hb1 : t / 2 ^ j % 2 = 1 := by omega
            rw [hb1] at hbit
            by_cases ho : A + j < 544
            · have hoi : ¬ (544 : Int) ≤ (A : Int) + j := by omega
              obtain ⟨k, hk⟩ : ∃ k : Nat, k = (A + j) / 8 := ⟨_, rfl⟩
              obtain ⟨m, hm⟩ : ∃ m : Nat, m = (A + j) % 8 := ⟨_, rfl⟩
              have hkI : ((A : Int) + j) / 8 = (k : Int) := by omega
              have hmI : ((A : Int) + j) % 8 = (m : Int) := by omega
              have hm8 : m < 8 := by omega
              have hkn : k < 68 := by omega
              have hkm : 8 * k + m = A + j := by omega
              obtain ⟨hcell, hfr⟩ := HY.out.1.cell k hkn
              have hy := HY.out.1.byt.getD k
              obtain ⟨hfl, hfl2⟩ := flip8 hy hm8
              have hS := HY.out.1.set k (((cs.getD k 0).toNat ^^^ 2 ^ m : Nat) : Int) ⟨by omega, by omega⟩
              have hF := upd_flip 4294967295 m hm8 HY.out.1.byt k (by rw [HY.out.1.len]; exact hkn)
              have hU2 : upd ent 4294967295 (cs.set k (((cs.getD k 0).toNat ^^^ 2 ^ m : Nat) : Int)) = upd ent 4294967295 bs ^^^ halves (8 * 68 - A) (t % 2 ^ (j + 1)) := by
                rw [hF, HY.out.1.len, halves_bit 68 A j k m hkn hm8 hkm, HY.out.2.1, mod_bit1 hb1, halves_xor, Nat.xor_assoc]
              have HN : Hid _ := And.intro hS (And.intro hU2 (grown_new HY.out.2.2 (grown_set wr g k (.int .u8 (((cs.getD k 0).toNat ^^^ 2 ^ m : Nat) : Int))) hgw))
              clear hS hU2 hF HY hb hb1 ho hk hm hkm
              generalize cs.set k (((cs.getD k 0).toNat ^^^ 2 ^ m : Nat) : Int) = cs2 at HN
              generalize (cs.getD k 0).toNat ^^^ 2 ^ m = y2 at HN hfl hfl2
              generalize cs.getD k 0 = y at hcell hy hfl
              go_wp2_with fail
              go_region
              go_wp2_with fail
              go_roundw
              case rel => exact ⟨j + 1, cs2, by go_num, by omega, HN.out.1.drew, HN.out.2.1, grown_trans HN.out.2.2 ⟨rfl, rfl, rfl, Nat.le_refl _, fun _ _ _ => rfl⟩⟩
              case measure => simp [intOf]; omega
            · have hoi : (544 : Int) ≤ (A : Int) + j := by omega
              have HG : Hid _ := HY.out.2.2
              clear HY hb hb1 ho
              go_wp2_with (first | (go_at_call 7; refine (HL.out _).mono ?_; rintro e wl ⟨rfl, gl⟩; have HF : Hid _ := grown_trans HG.out gl; clear gl))
              go_ret
              exact ⟨rfl, grown_below HF.out⟩
        · obtain rfl : j = 32 := by omega
          have hRc := HY.out.1.row (by unfold maxLen; omega)
          have hbad : sde cs = (sp0, 6) ∨ sde cs = (sp0, 140) := by
            refine sde_bad HY.out.1.len HY.out.1.byt ?_
            intro e
            have h2 := HY.out.2.1
            rw [e, HB.out.1, Nat.mod_eq_of_lt HT.out.2] at h2
            have h3 := halves_ne HT.out.2 HT.out.1 (8 * 68 - A)
            have h4 : halves 32 4294967295 ^^^ halves 32 4294967295 = halves 32 4294967295 ^^^ (halves 32 4294967295 ^^^ halves (8 * 68 - A) t) := congrArg _ h2
            rw [Nat.xor_self, ← Nat.xor_assoc, Nat.xor_self, Nat.zero_xor] at h4
            exact h3 h4.symm
          have k9 := pdecode13 _ 68 c4 cs wr hRc HC0.out.2.1 HC0.out.2.2
          have HG : Hid _ := HY.out.2.2
          clear HY hRc
          rcases hbad with hbad | hbad
          all_goals
            rw [hbad] at k9
            simp only [Sp.val, sp0] at k9
            clear hbad
            go_wp2_with fail
            refine k9.mono ?_
            rintro e w9 ⟨rfl, g9⟩
            have A9 := World.grownBy_alloc w9 (.cells #[.int .i64 0, .int .i64 0, .int .i64 0, .int .i64 0, .int .i64 0, .int .i64 0, .int .i64 0, .int .i64 0, .int .i64 0, .int .i64 0, .int .i64 0, .int .i64 0, .int .i64 0, .int .i64 0, .int .i64 0] 26) none
            obtain ⟨d0, d1, d2, d3, d4, d5, d6, d7, d8, d9, d10, d11, d12, d13, d14⟩ := bx15 (Bx.new w9 26 [.int .i64 0, .int .i64 0, .int .i64 0, .int .i64 0, .int .i64 0, .int .i64 0, .int .i64 0, .int .i64 0, .int .i64 0, .int .i64 0, .int .i64 0, .int .i64 0, .int .i64 0, .int .i64 0, .int .i64 0])
            have H9 : Hid _ := grown_trans (grown_trans HG.out g9) A9
            clear A9 g9 k9 HG
            simp only
            go_wp2_with (first | (go_at_call 10; (with_reducible refine (num13_any _ _).mono ?_); rintro e w' ⟨rfl, rfl⟩) | (go_at_call 7; refine (HL.out _).mono ?_; rintro e wl ⟨rfl, gl⟩; have HF : Hid _ := grown_trans H9.out gl; clear gl))
            go_ret
            exact ⟨rfl, grown_below HF.out⟩
end Go.Proofs.Ytaedcblphcfkfaa
