/- The walk of BootEncodes. -/
import Derived.Test.YtlbilpjlfelgdaaEC
namespace Go.Proofs.Ytlbilpjlfelgdaa
open Go.RowKit
set_option linter.unusedSimpArgs false
set_option linter.unusedVariables false

theorem owns_low {w : World} {b b' e s n : Nat} {v : Value} {xs : List Value} (h : w.ownsRow b e s v n xs) (hb : b' ≤ b) : w.ownsRow b' e s v n xs := by
  refine ⟨h.1, ?_⟩
  rcases h.2 with h | ⟨g, cap, cur, h1, h2, h3⟩
  · exact Or.inl h
  · exact Or.inr ⟨g, cap, cur, h1, by omega, h3⟩
/-- a record's variable, its bytes -/
structure Ve (w W : World) (gr : Nat) (cr : List Value) (v : Value) (xs : List Int) : Prop where
  r : Bx W gr 24 cr
  own : W.ownsRow w.heap.size 5 1 v 32 (bv xs)
  gr' : w.grownBy W none
theorem Ve.keep {w W W' : World} {gr : Nat} {cr : List Value} {v : Value} {xs : List Int} (h : Ve w W gr cr v xs) (k : W.grownBy W' none) : Ve w W' gr cr v xs := ⟨h.r.kept k, h.own.kept k (by cases v.ownBlock <;> simp), grown_trans h.gr' k⟩
set_option maxHeartbeats 4000000 in
theorem bootEncodes_walk (r : Rc) (a : Option Addr) (len cap : Nat) (zs : List Int) (w : World) (hr : r.ok) (hz : IsRow .u8 w a len cap zs) :
    Calls Try.prog 3 #[r.val, .slice a len cap] w fun e w' => e = .returned (.bool true) ∧ Below w.heap.size w w' := by
  obtain ⟨i5, hi, hz0, hz1, hz2⟩ := info_parts Try.info5
  have B := hz.byte8
  generalize zs.take len = bs at B
  clear hz
  have hcm : cap ≤ 9223372036854775807 := B.cm
  have hnc := B.nc
  have HL : Hid (∀ W : World, Calls Try.prog 8 #[] W fun e w' => e = .returned (.bool true) ∧ W.grownBy w' none) := fun W => live_any W
  have h3 := fun W => rright_any r W
  have h4 := fun W => pencode_any r W hr
  have h6 := fun W hrr => rbytes_any r W hrr hr.1.1 hr.2.2.2
  have HD : Hid (rrt r = true → ∀ more, rde (rby r ++ more) = (r, 0)) := fun h more => rde_rby more h hr.1.1 hr.2.2.2
  obtain ⟨q, s, l, u⟩ := r
  have heq := rec_eql_self hr
  simp only [Rc.val] at h3 h4 h6 ⊢
  have A0 := Bx.new w 24 [.int .u64 q, .int .i64 s, .int .i64 l, .int .u64 u]
  have G0 := World.grownBy_alloc w (.cells #[.int .u64 q, .int .i64 s, .int .i64 l, .int .u64 u] 24) none
  have H0 : Hid _ := And.intro A0 G0
  obtain ⟨r0, r1, r2, r3⟩ := bx4 A0
  clear A0 G0
  by_cases hl : 300 < len
  · go_enter Try.func3, Try.ntmps3
    go_wp2_with (first | (go_at_call 8; refine (HL.out _).mono ?_; rintro e wl ⟨rfl, gl⟩; have HF : Hid _ := grown_trans H0.out.2 gl; clear gl))
    go_ret
    exact ⟨rfl, grown_below HF.out⟩
  · cases hrr : rrt ⟨q, s, l, u⟩ with
    | false =>
      have hen : ren ⟨q, s, l, u⟩ = ([], 1) := by unfold ren; rw [if_neg (by rw [hrr]; decide)]
      rw [hen] at h4
      rw [hrr] at h3
      clear hen hrr h6 HD B
      go_enter Try.func3, Try.ntmps3
      go_wp2_with fail
      refine (h4 _).mono ?_
      intro e w4 k4
      obtain ⟨a4, m4, c4, rfl, o4, g4⟩ := k4
      obtain rfl : m4 = 0 := by have h := o4.1; simp [bv] at h; omega
      have H4 : Hid _ := And.intro (H0.out.1.kept g4) (grown_trans H0.out.2 g4)
      clear g4 o4 H0 r0 r1 r2 r3 h4
      obtain ⟨r0, r1, r2, r3⟩ := bx4 H4.out.1
      simp only
      go_wp2_with fail
      refine (h3 _).mono ?_
      rintro e w5 ⟨rfl, g5⟩
      have H5 : Hid _ := grown_trans H4.out.2 g5
      clear g5 H4 r0 r1 r2 r3 h3
      simp only
      go_wp2_with (first | (go_at_call 11; with_reducible refine (num_any _ _).mono ?_; rintro e w' ⟨rfl, rfl⟩) | (go_at_call 8; refine (HL.out _).mono ?_; rintro e wl ⟨rfl, gl⟩; have HF : Hid _ := grown_trans H5.out gl; clear gl))
      go_ret
      exact ⟨rfl, grown_below HF.out⟩
    | true =>
      rw [ren_right hrr] at h4
      rw [hrr] at h3
      have h6 := fun W => h6 W hrr
      have HDE : Hid _ := HD.out hrr
      have HB : Hid _ := And.intro (rby_byt hrr) (And.intro (rby_len ⟨q, s, l, u⟩) B)
      have HSB : Hid (∃ sb, strOfNums (rby ⟨q, s, l, u⟩) = sb) := ⟨_, rfl⟩
      obtain ⟨sb, hsb⟩ := HSB.out
      have HSB : Hid _ := hsb
      clear hsb HD hrr B
      generalize rby ⟨q, s, l, u⟩ = b1 at *
      go_enter Try.func3, Try.ntmps3
      go_wp2_with fail
      refine (h4 _).mono ?_
      intro e w4 k4
      obtain ⟨a4, m4, c4, rfl, o4, g4⟩ := k4
      obtain rfl : m4 = 32 := by have h := o4.1; simp only [bv_length] at h; have := HB.out.2.1; omega
      have o4' : w4.ownsRow w.heap.size 5 1 (.slice a4 32 c4) 32 (bv b1) := owns_low o4 (by simp)
      have H4 : Hid (Ve w w4 w.heap.size [.int .u64 q, .int .i64 s, .int .i64 l, .int .u64 u] (.slice a4 32 c4) b1) := ⟨H0.out.1.kept g4, o4', grown_trans H0.out.2 g4⟩
      clear g4 o4 o4' H0 r0 r1 r2 r3 h4
      obtain ⟨r0, r1, r2, r3⟩ := bx4 H4.out.r
      simp only
      go_wp2_with fail
      refine (h3 _).mono ?_
      rintro e w5 ⟨rfl, g5⟩
      have H5 : Hid _ := H4.out.keep g5
      clear g5 H4 r0 r1 r2 r3 h3
      have cvE : ∀ W, Ve w W w.heap.size [.int .u64 q, .int .i64 s, .int .i64 l, .int .u64 u] (.slice a4 32 c4) b1 → (convert 25 9 (.slice a4 32 c4)).run Try.prog W = .ok (.string sb) W := by
        intro W h
        obtain ⟨a', c', e', R', _, _, _⟩ := own_bytes h.own HB.out.1 (by unfold maxLen; omega)
        injection e' with e1 e2 e3
        subst e1 e3
        rw [← HSB.out]
        exact conv_row (P := Try.prog) R' c4 25 9 Try.underlying25 Try.underlying5 Try.underlying9
      simp only
      go_wp2_with fail
      refine wp_region_held_drew (S := fun w' => Ve w w' w.heap.size [.int .u64 q, .int .i64 s, .int .i64 l, .int .u64 u] (.slice a4 32 c4) b1) (by kernel_rfl) (H5.out.keep ⟨rfl, rfl, rfl, Nat.le_refl _, fun _ _ _ => rfl⟩) (fun hH => ?_)
      refine wpAnyH_take (i := 0) (oi := ⟨some 32, _, _, _, _, _⟩) (v := .int .i64 0) rfl (by kernel_rfl) (by kernel_rfl) (by kernel_rfl) (fun _ _ _ h => h) (Or.inl ⟨by rfl, fun w hSw => by go_simp⟩) hH ?_
      simp only [Act.put, List.setIfInBounds_toArray, List.set_cons_zero, List.set_cons_succ]
      refine wpAnyH_ready (rs := [1]) (by kernel_rfl) (by simp) ?_
      refine AllReadyH.cons rfl (fun K hK => ?_) AllReadyH.nil
      go_simp
      go_wp2_with (go_at_call 11; refine (num_any _ _).mono ?_; rintro e wx ⟨rfl, rfl⟩)
      refine hK.out _ _ hH (fun _ => ?_)
      clear hK K
      refine wpAnyH_take (i := 2) (oi := ⟨some 34, _, _, _, _, _⟩) (v := .bool false) rfl (by kernel_rfl) (by kernel_rfl) (by kernel_rfl) (fun _ _ _ h => h) (Or.inl ⟨by rfl, fun w hSw => by go_simp⟩) hH ?_
      simp only [Act.put, List.setIfInBounds_toArray, List.set_cons_zero, List.set_cons_succ]
      refine wpAnyH_take (i := 3) (oi := ⟨some 35, _, _, _, _, _⟩) (v := .bool false) rfl (by kernel_rfl) (by kernel_rfl) (by kernel_rfl) (fun _ _ _ h => h) (Or.inl ⟨by rfl, fun w hSw => by go_simp⟩) hH ?_
      simp only [Act.put, List.setIfInBounds_toArray, List.set_cons_zero, List.set_cons_succ]
      refine wpAnyH_take (i := 4) (oi := ⟨some 36, _, _, _, _, _⟩) (v := .slice a4 32 c4) rfl (by kernel_rfl) (by kernel_rfl) (by kernel_rfl) (fun _ _ _ h => h) (Or.inl ⟨by rfl, fun w hSw => by go_simp⟩) hH ?_
      simp only [Act.put, List.setIfInBounds_toArray, List.set_cons_zero, List.set_cons_succ]
      refine wpAnyH_take (i := 5) (oi := ⟨some 37, _, _, _, _, _⟩) (v := .string sb) rfl (by kernel_rfl) (by kernel_rfl) (by kernel_rfl) (fun _ _ _ h => h) (Or.inl ⟨by rfl, fun w hSw => by have cq := cvE w hSw; go_simp⟩) hH ?_
      simp only [Act.put, List.setIfInBounds_toArray, List.set_cons_zero, List.set_cons_succ]
      refine wpAnyH_take (i := 6) (oi := ⟨some 38, _, _, _, _, _⟩) (v := .agg #[.int .u64 q, .int .i64 s, .int .i64 l, .int .u64 u]) rfl (by kernel_rfl) (by kernel_rfl) (by kernel_rfl) (fun _ _ _ h => h) (Or.inl ⟨by rfl, fun w hSw => by obtain ⟨c0, c1, c2, c3⟩ := bx4 hSw.r; go_simp⟩) hH ?_
      simp only [Act.put, List.setIfInBounds_toArray, List.set_cons_zero, List.set_cons_succ]
      refine wpAnyH_ready (rs := [7]) (by kernel_rfl) (by simp) ?_
      refine AllReadyH.cons rfl (fun K hK => ?_) AllReadyH.nil
      go_simp
      go_wp2_with (go_at_call 12; refine (h6 _).mono ?_; rintro e wx ⟨v7, rfl, o7, hgx⟩)
      obtain ⟨a7, c7, rfl, R7, _, _, _⟩ := own_bytes o7 HB.out.1 (by unfold maxLen; omega)
      have cx := conv_row (P := Try.prog) R7 c7 25 9 Try.underlying25 Try.underlying5 Try.underlying9
      rw [HSB.out] at cx
      replace hH := hH.keep hgx
      refine hK.out _ _ hH (fun _ => ?_)
      clear hK K hgx o7 R7
      refine wpAnyH_ready (rs := [8]) (by kernel_rfl) (by simp) ?_
      refine AllReadyH.cons rfl (fun K hK => ?_) AllReadyH.nil
      go_simp
      refine hK.out _ _ hH (fun _ => ?_)
      clear hK K cx
      refine wpAnyH_take (i := 9) (oi := ⟨some 41, _, _, _, _, _⟩) (v := .bool false) rfl (by kernel_rfl) (by kernel_rfl) (by kernel_rfl) (fun _ _ _ h => h) (Or.inl ⟨by rfl, fun w hSw => by go_simp⟩) hH ?_
      simp only [Act.put, List.setIfInBounds_toArray, List.set_cons_zero, List.set_cons_succ]
      refine wpAnyH_take (i := 10) (oi := ⟨some 42, _, _, _, _, _⟩) (v := .bool false) rfl (by kernel_rfl) (by kernel_rfl) (by kernel_rfl) (fun _ _ _ h => h) (Or.inl ⟨by rfl, fun w hSw => by go_simp⟩) hH ?_
      simp only [Act.put, List.setIfInBounds_toArray, List.set_cons_zero, List.set_cons_succ]
      refine wpAnyH_done (by kernel_rfl) ?_ _
      have RM := HB.out.2.2.row.grown hH.gr'
      have hnil := HB.out.2.2.nil
      have hsz := hH.gr'.size
      have HX : Hid _ := hH
      clear hH cvE h6
      go_wp2_with (at_builtin; refine wpList_append8 rfl _ _ 25 rfl w.heap.size i5 Try.underlying25 hi hz0 hz1 hz2 _ 32 _ rfl HX.out.own _ len cap bs rfl RM hnil (by omega) hsz ?_)
      intro v8 w8 o8 g8
      have o8' : w8.ownsRow w.heap.size 5 1 v8 (32 + len) (bv (b1 ++ bs)) := by rw [bv_append]; exact o8
      obtain ⟨a8, c8, rfl, R8, _, nc8, cm8⟩ := own_bytes o8' (HB.out.1.append HB.out.2.2.row.byt) (by unfold maxLen; omega)
      have BR : Bx w8 w.heap.size 24 [.int .u64 q, .int .i64 s, .int .i64 l, .int .u64 u] := ⟨by rw [g8.block _ HX.out.r.lt (own_bx HX.out.own HX.out.r (by decide))]; exact HX.out.r.blk⟩
      have k9 := pdecode_any a8 (32 + len) c8 (b1 ++ bs) w8 R8 nc8 cm8 (by omega)
      rw [HDE.out] at k9
      simp only [Rc.val] at k9
      have H8 : Hid _ := And.intro BR (grown_own HX.out.gr' HX.out.own g8 (Nat.le_refl _))
      clear o8 o8' g8 R8 nc8 cm8 BR HX RM hnil hsz
      go_wp2_with fail
      refine k9.mono ?_
      rintro e w9 ⟨rfl, g9⟩
      have A9 := World.grownBy_alloc w9 (.cells #[.int .u64 q, .int .i64 s, .int .i64 l, .int .u64 u] 24) none
      have X9 := Bx.new w9 24 [.int .u64 q, .int .i64 s, .int .i64 l, .int .u64 u]
      have R9 := (H8.out.1.kept g9).kept A9
      obtain ⟨x0, x1, x2, x3⟩ := bx4 X9
      obtain ⟨r0, r1, r2, r3⟩ := bx4 R9
      have H9 : Hid _ := grown_trans (grown_trans H8.out.2 g9) A9
      clear X9 R9 A9 g9 k9 H8
      simp only
      go_wp2_with (first | (go_at_call 11; with_reducible refine (num_any _ _).mono ?_; rintro e w' ⟨rfl, rfl⟩) | (go_at_call 8; refine (HL.out _).mono ?_; rintro e wl ⟨rfl, gl⟩; have HF : Hid _ := grown_trans H9.out gl; clear gl))
      go_ret
      exact ⟨rfl, grown_below HF.out⟩
end Go.Proofs.Ytlbilpjlfelgdaa
