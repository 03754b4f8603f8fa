/- The walk of SumParts, out of the contracts. -/
import Derived.Test.YtmnejeallnffgaaA7
import Derived.Test.YtmnejeallnffgaaL2
namespace Go.Proofs.Ytmnejeallnffgaa
open Go.RowKit
set_option linter.unusedVariables false

/-- both texts, the two together, and the table -/
structure Prt (w w' : World) (a0 : Option Addr) (len0 : Nat) (bs0 : List Int) (a1 : Option Addr) (len1 : Nat) (bs1 : List Int) (ca : Option Addr) (q : Nat) (F : List Value) : Prop where
  r0 : Row w' a0 len0 bs0
  r1 : Row w' a1 len1 bs1
  rc : Row w' ca (len0 + len1) (bs0 ++ bs1)
  tb : SBlk w' q F 24
  bel : Below w.heap.size w w'
theorem Prt.grown {w w' w2 : World} {a0 : Option Addr} {len0 : Nat} {bs0 : List Int} {a1 : Option Addr} {len1 : Nat} {bs1 : List Int} {ca : Option Addr} {q : Nat} {F : List Value} (h : Prt w w' a0 len0 bs0 a1 len1 bs1 ca q F) (hg : w'.grownBy w2 none) : Prt w w2 a0 len0 bs0 a1 len1 bs1 ca q F :=
  ⟨h.r0.grown hg, h.r1.grown hg, h.rc.grown hg, h.tb.grown hg (by simp), h.bel.trans ((grown_below hg).mono h.bel.size)⟩

theorem parts_long (T : Nat → Nat) (a0 : Option Addr) (len0 cap0 : Nat) (a1 : Option Addr) (len1 cap1 : Nat) (w : World) (h0 : len0 ≤ 9223372036854775807) (h1 : len1 ≤ 9223372036854775807) (h : (5000 : Int) < len0 ∨ (5000 : Int) < len1) :
    Calls Try.prog 7 #[.slice a0 len0 cap0, .slice a1 len1 cap1, .agg (tcs T).toArray] w fun e w' => e = .returned (.bool true) ∧ Below w.heap.size w w' := by
  have hL := fun w => live_any w
  generalize (tcs T).toArray = F
  by_cases k0 : (5000 : Int) < len0
  · clear h
    go_enter Try.func7, Try.ntmps7
    go_wp2_with (go_at_call 12; refine (hL _).mono ?_; rintro e w' ⟨rfl, hb⟩)
    go_ret
    exact ⟨rfl, grown_below (grown_trans (World.grownBy_alloc _ _ _) (by assumption))⟩
  · have k1 : (5000 : Int) < len1 := h.resolve_left k0
    clear h
    go_enter Try.func7, Try.ntmps7
    go_wp2_with (go_at_call 12; refine (hL _).mono ?_; rintro e w' ⟨rfl, hb⟩)
    go_ret
    exact ⟨rfl, grown_below (grown_trans (World.grownBy_alloc _ _ _) (by assumption))⟩

set_option maxHeartbeats 2000000 in
theorem parts_short (T : Nat → Nat) (hT : Tab T) (a0 : Option Addr) (len0 cap0 : Nat) (bs0 : List Int) (a1 : Option Addr) (len1 cap1 : Nat) (bs1 : List Int) (w : World) (R0 : Row w a0 len0 bs0) (R1 : Row w a1 len1 bs1) (n0 : a0 = none → cap0 = 0) (n1 : a1 = none → cap1 = 0) (h0 : ¬ (5000 : Int) < len0) (h1 : ¬ (5000 : Int) < len1) :
    Calls Try.prog 7 #[.slice a0 len0 cap0, .slice a1 len1 cap1, .agg (tcs T).toArray] w fun e w' => e = .returned (.bool true) ∧ Below w.heap.size w w' := by
  obtain ⟨i5, hi, hz0, hz1, hz2⟩ := info_parts Try.info5
  have hL := fun w => live_any w
  have gA : w.grownBy (w.alloc (.cells (tcs T).toArray 24)) none := World.grownBy_alloc _ _ _
  have bA : SBlk (w.alloc (.cells (tcs T).toArray 24)) w.heap.size (tcs T) 24 := alloc_sblk _ _ _
  have hsz : (w.alloc (.cells (tcs T).toArray 24)).heap.size = w.heap.size + 1 := by simp
  have hmade : ((w.alloc (.cells (tcs T).toArray 24)).alloc (.cells #[] 5)).ownsRow (w.heap.size + 1) 5 1 (.slice (some ⟨w.heap.size + 1, 0, none⟩) 0 0) 0 [] := by
    rw [← hsz]
    exact World.ownsRow_made _ #[] 0 (Nat.le_refl _) (Nat.zero_le _) rfl
  have gB : w.grownBy ((w.alloc (.cells (tcs T).toArray 24)).alloc (.cells #[] 5)) none := grown_trans gA (World.grownBy_alloc _ _ _)
  have bB : SBlk ((w.alloc (.cells (tcs T).toArray 24)).alloc (.cells #[] 5)) w.heap.size (tcs T) 24 := bA.grown (World.grownBy_alloc _ _ none) (by simp)
  have hsB : w.heap.size + 1 ≤ ((w.alloc (.cells (tcs T).toArray 24)).alloc (.cells #[] 5)).heap.size := by simp
  have RB := R0.grown gB
  have HB : Hid (w.grownBy ((w.alloc (.cells (tcs T).toArray 24)).alloc (.cells #[] 5)) none ∧ SBlk ((w.alloc (.cells (tcs T).toArray 24)).alloc (.cells #[] 5)) w.heap.size (tcs T) 24 ∧ w.heap.size + 1 ≤ ((w.alloc (.cells (tcs T).toArray 24)).alloc (.cells #[] 5)).heap.size ∧ Row ((w.alloc (.cells (tcs T).toArray 24)).alloc (.cells #[] 5)) a0 len0 bs0 ∧ Row ((w.alloc (.cells (tcs T).toArray 24)).alloc (.cells #[] 5)) a1 len1 bs1 ∧ ((w.alloc (.cells (tcs T).toArray 24)).alloc (.cells #[] 5)).ownsRow (w.heap.size + 1) 5 1 (.slice (some ⟨w.heap.size + 1, 0, none⟩) 0 0) 0 []) := ⟨gB, bB, hsB, RB, R1.grown gB, hmade⟩
  have HR : Hid (Row w a0 len0 bs0 ∧ Row w a1 len1 bs1) := ⟨R0, R1⟩
  clear gA bA hsz gB bB hsB RB hmade R0 R1
  go_enter Try.func7, Try.ntmps7
  go_wp2_with (first | (at_builtin; refine wpList_append8 rfl (.tmp 17) (.tmp 18) 31 rfl (w.heap.size + 1) i5 Try.underlying31 hi hz0 hz1 hz2 _ 0 [] rfl HB.out.2.2.2.2.2 _ len0 _ bs0 rfl HB.out.2.2.2.1 n0 (by omega) HB.out.2.2.1 ?_; intro v3 w3 ho3 hg3; rw [Nat.zero_add, List.nil_append] at ho3; have HX : Hid (w3.ownsRow (w.heap.size + 1) 5 1 v3 len0 (bv bs0) ∧ Below (w.heap.size + 1) ((w.alloc (.cells (tcs T).toArray 24)).alloc (.cells #[] 5)) w3) := ⟨ho3, below_own hg3 HB.out.2.2.2.2.2 HB.out.2.2.1⟩; clear ho3 hg3) | (at_builtin; refine wpList_append8 rfl (.tmp 19) (.tmp 20) 31 rfl (w.heap.size + 1) i5 Try.underlying31 hi hz0 hz1 hz2 v3 len0 (bv bs0) rfl HX.out.1 _ len1 _ bs1 rfl (HR.out.2.below ((grown_below HB.out.1).trans (HX.out.2.mono (Nat.le_succ _)))) n1 (by omega) (Nat.le_trans HB.out.2.2.1 HX.out.2.size) ?_; intro v4 w4 ho4 hg4; have HZ : Hid (w4.ownsRow (w.heap.size + 1) 5 1 v4 (len0 + len1) (bv (bs0 ++ bs1)) ∧ Below (w.heap.size + 1) w3 w4) := ⟨by rw [bv_append]; exact ho4, below_own hg4 HX.out.1 (Nat.le_trans HB.out.2.2.1 HX.out.2.size)⟩; clear ho4 hg4; obtain ⟨ca, cc, hv4, hform⟩ := owns_form HZ.out.1; rw [hv4]))
  have hP : Prt w w4 a0 len0 bs0 a1 len1 bs1 ca w.heap.size (tcs T) := by
    have b3 := HX.out.2
    have b4 := b3.trans HZ.out.2
    have bw := (grown_below HB.out.1).trans (b4.mono (Nat.le_succ _))
    have ho := HZ.out.1
    rw [hv4] at ho
    obtain ⟨ca', cc', ev, Rc⟩ := owns_row ho (HR.out.1.byt.append HR.out.2.byt) (by unfold maxLen; omega)
    injection ev with ev1 ev2 ev3
    subst ev1
    exact ⟨HR.out.1.below bw, HR.out.2.below bw, Rc, HB.out.2.1.below b4 (Nat.lt_succ_self _), bw⟩
  have hy0 := HR.out.1.byt
  have hl0 := crc_lt ent 0 bs0
  have hl1 := crc_lt T 0 bs0
  have hd0 := dig_lt (d := 14695981039346656037) (by decide) bs0
  have e1 := crc_append ent_tab 0 bs1 hy0
  have e2 := crc_append hT 0 bs1 hy0
  have e3 := dig_append 14695981039346656037 bs0 bs1
  have HE : Hid (crc ent 0 (bs0 ++ bs1) = crc ent (crc ent 0 bs0) bs1 ∧ crc T 0 (bs0 ++ bs1) = crc T (crc T 0 bs0) bs1 ∧ dig 14695981039346656037 (bs0 ++ bs1) = dig (dig 14695981039346656037 bs0) bs1) := ⟨e1, e2, e3⟩
  clear e1 e2 e3 HB HX HZ HR hform hv4 hi hz0 hz1 hz2 n0 n1 hy0
  have HP : Hid (Prt w w4 a0 len0 bs0 a1 len1 bs1 ca w.heap.size (tcs T)) := hP
  clear hP
  generalize Value.agg (tcs T).toArray = tv
  generalize hq : w.heap.size = q at HP
  have k1 := crc_nil ca (len0 + len1) cc (bs0 ++ bs1) w4 HP.out.rc
  rw [HE.out.1] at k1
  refine k1.mono ?_
  rintro e w5 ⟨rfl, hg5⟩
  have HP5 : Hid (Prt w w5 a0 len0 bs0 a1 len1 bs1 ca q (tcs T)) := HP.out.grown hg5
  clear k1 HP hg5
  have k2 := crc_nil a0 len0 cap0 bs0 w5 HP5.out.r0
  go_wp2_with fail
  refine k2.mono ?_
  rintro e w6 ⟨rfl, hg6⟩
  have HP6 : Hid (Prt w w6 a0 len0 bs0 a1 len1 bs1 ca q (tcs T)) := HP5.out.grown hg6
  clear k2 HP5 hg6
  have k3 := more_nil (crc ent 0 bs0) a1 len1 cap1 bs1 w6 HP6.out.r1 hl0
  go_wp2_with fail
  refine k3.mono ?_
  rintro e w7 ⟨rfl, hg7⟩
  have HP7 : Hid (Prt w w7 a0 len0 bs0 a1 len1 bs1 ca q (tcs T)) := HP6.out.grown hg7
  clear k3 HP6 hg7
  have k4 := crc_tab T hT q ca (len0 + len1) cc (bs0 ++ bs1) w7 HP7.out.tb HP7.out.rc
  rw [HE.out.2.1] at k4
  go_wp2_with fail
  refine k4.mono ?_
  rintro e wx ⟨rfl, rfl⟩
  clear k4
  have k5 := crc_tab T hT q a0 len0 cap0 bs0 w7 HP7.out.tb HP7.out.r0
  go_wp2_with fail
  refine k5.mono ?_
  rintro e wx ⟨rfl, rfl⟩
  clear k5
  have k6 := more_tab T hT q (crc T 0 bs0) a1 len1 cap1 bs1 w7 HP7.out.tb HP7.out.r1 hl1
  go_wp2_with fail
  refine k6.mono ?_
  rintro e wx ⟨rfl, rfl⟩
  clear k6
  have k7 := digest_any ca (len0 + len1) cc (bs0 ++ bs1) w7 HP7.out.rc
  rw [HE.out.2.2] at k7
  go_wp2_with fail
  refine k7.mono ?_
  rintro e wx ⟨rfl, rfl⟩
  clear k7
  have k8 := digest_any a0 len0 cap0 bs0 w7 HP7.out.r0
  go_wp2_with fail
  refine k8.mono ?_
  rintro e wx ⟨rfl, rfl⟩
  clear k8
  have k9 := on_any (dig 14695981039346656037 bs0) a1 len1 cap1 bs1 w7 HP7.out.r1 hd0
  go_wp2_with (first | (go_at_call 17; refine k9.mono ?_; rintro e wx ⟨rfl, rfl⟩) | (go_at_call 12; refine (hL _).mono ?_; rintro e w8 ⟨rfl, hg8⟩))
  go_ret
  exact ⟨rfl, (HP7.out.grown (by assumption)).bel⟩

theorem sumParts_walk (a0 : Option Addr) (len0 cap0 : Nat) (z0 : List Int) (a1 : Option Addr) (len1 cap1 : Nat) (z1 : List Int) (T : Nat → Nat) (w : World) (w0 : IsRow .u8 w a0 len0 cap0 z0) (w1 : IsRow .u8 w a1 len1 cap1 z1) (hT : Tab T) :
    Calls Try.prog 7 #[.slice a0 len0 cap0, .slice a1 len1 cap1, .agg (tcs T).toArray] w fun e w' => e = .returned (.bool true) ∧ Below w.heap.size w w' := by
  by_cases h : (5000 : Int) < len0 ∨ (5000 : Int) < len1
  · exact parts_long T a0 len0 cap0 a1 len1 cap1 w w0.row.le w1.row.le h
  · exact parts_short T hT a0 len0 cap0 _ a1 len1 cap1 _ w w0.row w1.row w0.nilcap w1.nilcap (fun k => h (Or.inl k)) (fun k => h (Or.inr k))
end Go.Proofs.Ytmnejeallnffgaa
