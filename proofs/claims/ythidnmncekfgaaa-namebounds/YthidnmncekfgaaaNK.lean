/- The walk of NameOrders. -/
import Derived.Test.YthidnmncekfgaaaNJ
import Derived.Laws.AppendOwnNone
namespace Go.Proofs.Ythidnmncekfgaaa
open Go.RowKit
set_option linter.unusedSimpArgs false
set_option linter.unusedVariables false

theorem srow_any {w : World} {ad : Addr} {n : Nat} {l : List ByteArray} (R : SRow w (some ad) n l) : ∀ j u, (sv l)[j]? = some u → w.cell? (ad.add j) = some u := by
  rcases Nat.eq_zero_or_pos n with h0 | h0
  · intro j u h
    have : l = [] := List.eq_nil_of_length_eq_zero (by rw [R.len_eq]; exact h0)
    subst this
    simp [sv] at h
  · intro j u h
    obtain ⟨b, off, e, hc⟩ := R.cells h0
    injection e with e
    subst e
    have hj : j < l.length := by
      rcases Nat.lt_or_ge j l.length with h' | h'
      · exact h'
      · rw [List.getElem?_eq_none (by rw [sv_len]; exact h')] at h; cases h
    have hjn : j < n := by rw [← R.len_eq]; exact hj
    have e3 : (⟨b, off, none⟩ : Addr).add j = ⟨b, off + j, none⟩ := by unfold Addr.add; split <;> simp_all
    rw [e3, hc j hjn]
    simp [sv, List.getElem?_eq_getElem hj] at h
    simp [List.getD_eq_getElem?_getD, List.getElem?_eq_getElem hj, h]
/-- a list of texts that came in -/
structure SArg (w : World) (a : Option Addr) (n c : Nat) (l : List ByteArray) : Prop where
  row : SRow w a n l
  nc : n ≤ c
  cm : c ≤ maxLen
  nil : a = none → c = 0
theorem tls_inj {l r : List ByteArray} (h : tls l = tls r) : l = r := by
  have e : ∀ l : List ByteArray, txs (tls l) = l := fun l => by
    unfold txs tls
    rw [List.map_map]
    conv => rhs; rw [← List.map_id l]
    exact List.map_congr_left fun x _ => tl_tx x
  rw [← e l, ← e r, h]
theorem ord_same (l r : List ByteArray) : decide (l = r) = (ord (tls l) (tls r) == 0) := by
  by_cases h : l = r
  · subst h; rw [ord_self, decide_eq_true rfl]; rfl
  · rw [decide_eq_false h]
    symm
    rw [beq_eq_false_iff_ne]
    exact fun e => h (tls_inj (ord_eq e))
theorem empty_own (w : World) (base : Nat) (hb : base ≤ w.heap.size) : (w.alloc (.cells #[] 9)).ownsRow base 9 1 (.slice (some ⟨w.heap.size, 0, none⟩) 0 0) 0 (sv []) :=
  ⟨rfl, .inr ⟨w.heap.size, 0, #[], rfl, hb, heap_alloc_new _ _, Nat.le_refl _, Nat.zero_le _, rfl, rfl⟩⟩
set_option maxHeartbeats 2000000 in
theorem ord_m1 (a1 : Option Addr) (n1 c1 : Nat) (l1 : List ByteArray) (a2 : Option Addr) (n2 c2 : Nat) (l2 : List ByteArray) (a3 : Option Addr) (n3 c3 : Nat) (l3 : List ByteArray) (w : World) (R1 : SArg w a1 n1 c1 l1) (R2 : SArg w a2 n2 c2 l2) (R3 : SArg w a3 n3 c3 l3) (h1 : mch l1 = true) :
    Calls Try.prog 5 #[.slice a1 n1 c1, .slice a2 n2 c2, .slice a3 n3 c3] w fun e w' => e = .returned (.bool true) ∧ Below w.heap.size w w' := by
  have HLV : Hid (∀ W : World, Calls Try.prog 7 #[] W fun e w' => e = .returned (.bool true) ∧ W.grownBy w' none) := fun W => live10_any W
  have hm1 := fun W (g : w.grownBy W none) => much_any a1 n1 c1 l1 W (R1.row.grown g) (Nat.le_trans R1.nc R1.cm)
  have hm2 := fun W (g : w.grownBy W none) => much_any a2 n2 c2 l2 W (R2.row.grown g) (Nat.le_trans R2.nc R2.cm)
  have hm3 := fun W (g : w.grownBy W none) => much_any a3 n3 c3 l3 W (R3.row.grown g) (Nat.le_trans R3.nc R3.cm)
  have M0 : Hid (w.grownBy w none) := World.grownBy.refl _ _
  simp only [h1] at hm1
  clear R1 R2 R3
  go_enter Try.func5, Try.ntmps5
  go_wp2_with fail
  refine (hm1 _ M0.out).mono ?_
  rintro e w1 ⟨rfl, t1, rfl⟩
  have M1 : Hid _ := grown_tr M0.out (drewG _ t1)
  clear hm1 M0
  generalize w.drewN t1 = W1 at *
  go_wp2_with fail
  refine (HLV.out _).mono ?_
  rintro e w9 ⟨rfl, g9⟩
  have H9 : Hid _ := grown_below0 (grown_tr M1.out g9)
  clear g9
  go_wp2
  go_ret
  exact ⟨rfl, H9.out⟩
set_option maxHeartbeats 2000000 in
theorem ord_m2 (a1 : Option Addr) (n1 c1 : Nat) (l1 : List ByteArray) (a2 : Option Addr) (n2 c2 : Nat) (l2 : List ByteArray) (a3 : Option Addr) (n3 c3 : Nat) (l3 : List ByteArray) (w : World) (R1 : SArg w a1 n1 c1 l1) (R2 : SArg w a2 n2 c2 l2) (R3 : SArg w a3 n3 c3 l3) (h1 : mch l1 = false) (h2 : mch l2 = true) :
    Calls Try.prog 5 #[.slice a1 n1 c1, .slice a2 n2 c2, .slice a3 n3 c3] w fun e w' => e = .returned (.bool true) ∧ Below w.heap.size w w' := by
  have HLV : Hid (∀ W : World, Calls Try.prog 7 #[] W fun e w' => e = .returned (.bool true) ∧ W.grownBy w' none) := fun W => live10_any W
  have hm1 := fun W (g : w.grownBy W none) => much_any a1 n1 c1 l1 W (R1.row.grown g) (Nat.le_trans R1.nc R1.cm)
  have hm2 := fun W (g : w.grownBy W none) => much_any a2 n2 c2 l2 W (R2.row.grown g) (Nat.le_trans R2.nc R2.cm)
  have hm3 := fun W (g : w.grownBy W none) => much_any a3 n3 c3 l3 W (R3.row.grown g) (Nat.le_trans R3.nc R3.cm)
  have M0 : Hid (w.grownBy w none) := World.grownBy.refl _ _
  simp only [h1] at hm1
  simp only [h2] at hm2
  clear R1 R2 R3
  go_enter Try.func5, Try.ntmps5
  go_wp2_with fail
  refine (hm1 _ M0.out).mono ?_
  rintro e w1 ⟨rfl, t1, rfl⟩
  have M1 : Hid _ := grown_tr M0.out (drewG _ t1)
  clear hm1 M0
  generalize w.drewN t1 = W1 at *
  go_wp2_with fail
  refine (hm2 _ M1.out).mono ?_
  rintro e w1 ⟨rfl, t2, rfl⟩
  have M2 : Hid _ := grown_tr M1.out (drewG _ t2)
  clear hm2 M1
  generalize W1.drewN t2 = W2 at *
  go_wp2_with fail
  refine (HLV.out _).mono ?_
  rintro e w9 ⟨rfl, g9⟩
  have H9 : Hid _ := grown_below0 (grown_tr M2.out g9)
  clear g9
  go_wp2
  go_ret
  exact ⟨rfl, H9.out⟩
set_option maxHeartbeats 2000000 in
theorem ord_m3 (a1 : Option Addr) (n1 c1 : Nat) (l1 : List ByteArray) (a2 : Option Addr) (n2 c2 : Nat) (l2 : List ByteArray) (a3 : Option Addr) (n3 c3 : Nat) (l3 : List ByteArray) (w : World) (R1 : SArg w a1 n1 c1 l1) (R2 : SArg w a2 n2 c2 l2) (R3 : SArg w a3 n3 c3 l3) (h1 : mch l1 = false) (h2 : mch l2 = false) (h3 : mch l3 = true) :
    Calls Try.prog 5 #[.slice a1 n1 c1, .slice a2 n2 c2, .slice a3 n3 c3] w fun e w' => e = .returned (.bool true) ∧ Below w.heap.size w w' := by
  have HLV : Hid (∀ W : World, Calls Try.prog 7 #[] W fun e w' => e = .returned (.bool true) ∧ W.grownBy w' none) := fun W => live10_any W
  have hm1 := fun W (g : w.grownBy W none) => much_any a1 n1 c1 l1 W (R1.row.grown g) (Nat.le_trans R1.nc R1.cm)
  have hm2 := fun W (g : w.grownBy W none) => much_any a2 n2 c2 l2 W (R2.row.grown g) (Nat.le_trans R2.nc R2.cm)
  have hm3 := fun W (g : w.grownBy W none) => much_any a3 n3 c3 l3 W (R3.row.grown g) (Nat.le_trans R3.nc R3.cm)
  have M0 : Hid (w.grownBy w none) := World.grownBy.refl _ _
  simp only [h1] at hm1
  simp only [h2] at hm2
  simp only [h3] at hm3
  clear R1 R2 R3
  go_enter Try.func5, Try.ntmps5
  go_wp2_with fail
  refine (hm1 _ M0.out).mono ?_
  rintro e w1 ⟨rfl, t1, rfl⟩
  have M1 : Hid _ := grown_tr M0.out (drewG _ t1)
  clear hm1 M0
  generalize w.drewN t1 = W1 at *
  go_wp2_with fail
  refine (hm2 _ M1.out).mono ?_
  rintro e w1 ⟨rfl, t2, rfl⟩
  have M2 : Hid _ := grown_tr M1.out (drewG _ t2)
  clear hm2 M1
  generalize W1.drewN t2 = W2 at *
  go_wp2_with fail
  refine (hm3 _ M2.out).mono ?_
  rintro e w1 ⟨rfl, t3, rfl⟩
  have M3 : Hid _ := grown_tr M2.out (drewG _ t3)
  clear hm3 M2
  generalize W2.drewN t3 = W3 at *
  go_wp2_with fail
  refine (HLV.out _).mono ?_
  rintro e w9 ⟨rfl, g9⟩
  have H9 : Hid _ := grown_below0 (grown_tr M3.out g9)
  clear g9
  go_wp2
  go_ret
  exact ⟨rfl, H9.out⟩
set_option maxHeartbeats 4000000 in
theorem ord_main (a1 : Option Addr) (n1 c1 : Nat) (l1 : List ByteArray) (a2 : Option Addr) (n2 c2 : Nat) (l2 : List ByteArray) (a3 : Option Addr) (n3 c3 : Nat) (l3 : List ByteArray) (w : World) (R1 : SArg w a1 n1 c1 l1) (R2 : SArg w a2 n2 c2 l2) (R3 : SArg w a3 n3 c3 l3) (h1 : mch l1 = false) (h2 : mch l2 = false) (h3 : mch l3 = false) :
    Calls Try.prog 5 #[.slice a1 n1 c1, .slice a2 n2 c2, .slice a3 n3 c3] w fun e w' => e = .returned (.bool true) ∧ Below w.heap.size w w' := by
  have HLV : Hid (∀ W : World, Calls Try.prog 7 #[] W fun e w' => e = .returned (.bool true) ∧ W.grownBy w' none) := fun W => live10_any W
  have hm1 := fun W (g : w.grownBy W none) => much_any a1 n1 c1 l1 W (R1.row.grown g) (Nat.le_trans R1.nc R1.cm)
  have hm2 := fun W (g : w.grownBy W none) => much_any a2 n2 c2 l2 W (R2.row.grown g) (Nat.le_trans R2.nc R2.cm)
  have hm3 := fun W (g : w.grownBy W none) => much_any a3 n3 c3 l3 W (R3.row.grown g) (Nat.le_trans R3.nc R3.cm)
  have M0 : Hid (w.grownBy w none) := World.grownBy.refl _ _
  simp only [h1] at hm1
  simp only [h2] at hm2
  simp only [h3] at hm3
  obtain ⟨p1, q1⟩ := mch_no h1
  obtain ⟨p2, q2⟩ := mch_no h2
  obtain ⟨p3, q3⟩ := mch_no h3
  have e1 : n1 ≤ 300 := by have := R1.row.len_eq; omega
  have e2 : n2 ≤ 300 := by have := R2.row.len_eq; omega
  have e3 : n3 ≤ 300 := by have := R3.row.len_eq; omega
  have k12 := fun W (g : w.grownBy W none) => porder_any a1 a2 n1 c1 n2 c2 l1 l2 W (R1.row.grown g) (R2.row.grown g) R1.nc R2.nc (szs_no q1) (szs_no q2) (by omega) (by omega)
  have k21 := fun W (g : w.grownBy W none) => porder_any a2 a1 n2 c2 n1 c1 l2 l1 W (R2.row.grown g) (R1.row.grown g) R2.nc R1.nc (szs_no q2) (szs_no q1) (by omega) (by omega)
  have k23 := fun W (g : w.grownBy W none) => porder_any a2 a3 n2 c2 n3 c3 l2 l3 W (R2.row.grown g) (R3.row.grown g) R2.nc R3.nc (szs_no q2) (szs_no q3) (by omega) (by omega)
  have k13 := fun W (g : w.grownBy W none) => porder_any a1 a3 n1 c1 n3 c3 l1 l3 W (R1.row.grown g) (R3.row.grown g) R1.nc R3.nc (szs_no q1) (szs_no q3) (by omega) (by omega)
  have r12 := fun W (g : w.grownBy W none) => rorder_any a1 a2 n1 c1 n2 c2 l1 l2 W (R1.row.grown g) (R2.row.grown g) (szs_no q1) (szs_no q2) (by omega) (by omega)
  have s12 := fun W (g : w.grownBy W none) => rsame_any a1 a2 n1 c1 n2 c2 l1 l2 W (R1.row.grown g) (R2.row.grown g) (by omega) (by omega)
  have hsx : szs (l1 ++ [⟨#[120]⟩]) := szs_of fun x hx => by
    rcases List.mem_append.1 hx with h | h
    · obtain ⟨i, hi, rfl⟩ := List.getElem_of_mem h
      have := q1 i
      rw [List.getD_eq_getElem?_getD, List.getElem?_eq_getElem hi] at this
      exact Nat.le_trans this (by decide)
    · rw [List.mem_singleton.1 h]; decide
  have HO1 : Hid (ord (tls l1) (tls (l1 ++ [⟨#[120]⟩])) = -1) := by
    show ord (tls l1) (tls (l1 ++ [⟨#[120]⟩])) = -1
    unfold tls
    rw [List.map_append]
    exact ord_snoc _ _
  have HO2 : Hid (ord (tls (l1 ++ [⟨#[120]⟩])) (tls l1) = 1) := by
    show ord (tls (l1 ++ [⟨#[120]⟩])) (tls l1) = 1
    rw [ord_flip, HO1.out]; rfl
  have HLG : Hid (∀ W (g : w.grownBy W none) (v : Value) (k : Nat), W.ownsRow w.heap.size 9 1 v k (sv (l1 ++ [⟨#[120]⟩])) → ∃ a c, v = .slice a k c ∧ (Calls Try.prog 18 #[.slice a1 n1 c1, .slice a k c] W fun e w' => e = .returned (.int .i64 (-1)) ∧ W.grownBy w' none) ∧ (∀ W' (g' : W.grownBy W' none), Calls Try.prog 18 #[.slice a k c, .slice a1 n1 c1] W' fun e w' => e = .returned (.int .i64 1) ∧ W'.grownBy w' none)) := by
    intro W g v k ho
    obtain ⟨a, c, rfl, Ra, hkc, hcm⟩ := owns_srow ho
    have hk : k ≤ 301 := by have h1 := Ra.len_eq; have h2 := R1.row.len_eq; rw [List.length_append] at h1; simp only [List.length_cons, List.length_nil] at h1; omega
    refine ⟨a, c, rfl, ?_, fun W' g' => ?_⟩
    · have := porder_any a1 a n1 c1 k c l1 _ W (R1.row.grown g) Ra R1.nc hkc (szs_no q1) hsx (by omega) (by omega)
      rw [HO1.out] at this
      exact this
    · have := porder_any a a1 k c n1 c1 _ l1 W' (Ra.grown g') (R1.row.grown (grown_tr g g')) hkc R1.nc hsx (szs_no q1) (by omega) (by omega)
      rw [HO2.out] at this
      exact this
  rw [show ord (tls l2) (tls l1) = - ord (tls l1) (tls l2) from ord_flip _ _] at k21
  simp only [ord_same] at s12
  have HTR : Hid (ord (tls l1) (tls l2) = -1 → ord (tls l2) (tls l3) = -1 → ord (tls l1) (tls l3) = -1) := fun h k => ord_trans h k
  have v12 := ord_val (tls l1) (tls l2)
  have v23 := ord_val (tls l2) (tls l3)
  have v13 := ord_val (tls l1) (tls l3)
  generalize ord (tls l1) (tls l2) = O at *
  generalize ord (tls l2) (tls l3) = Q at *
  generalize ord (tls l1) (tls l3) = Z at *
  have hng : IntKind.i64.wrap (-O) = -O := by rw [IntKind.wrap_i64]; omega
  obtain ⟨i9, hi9, hz0, hz1, hz2⟩ := info_parts Try.info9
  have HR1 : Hid _ := And.intro R1 e1
  clear R1 R2 R3 q1 q2 q3 p1 p2 p3 e1 e2 e3 hsx h1 h2 h3
  have TAIL : Hid (∀ W, w.grownBy W none → True) := fun _ _ => trivial
  go_enter Try.func5, Try.ntmps5
  go_wp2_with fail
  refine (hm1 _ M0.out).mono ?_
  rintro e w1 ⟨rfl, t1, rfl⟩
  have M1 : Hid _ := grown_tr M0.out (drewG _ t1)
  clear hm1 M0
  generalize w.drewN t1 = W1 at *
  go_wp2_with fail
  refine (hm2 _ M1.out).mono ?_
  rintro e w1 ⟨rfl, t2, rfl⟩
  have M2 : Hid _ := grown_tr M1.out (drewG _ t2)
  clear hm2 M1
  generalize W1.drewN t2 = W2 at *
  go_wp2_with fail
  refine (hm3 _ M2.out).mono ?_
  rintro e w1 ⟨rfl, t3, rfl⟩
  have M3 : Hid _ := grown_tr M2.out (drewG _ t3)
  clear hm3 M2
  generalize W2.drewN t3 = W3 at *
  go_wp2_with fail
  refine (k12 _ M3.out).mono ?_
  rintro e w4 ⟨rfl, g4⟩
  have M4 : Hid _ := grown_tr M3.out g4
  clear g4 M3 k12
  go_wp2_with fail
  refine (r12 _ M4.out).mono ?_
  rintro e w5 ⟨rfl, t5, rfl⟩
  have M5 : Hid _ := grown_tr M4.out (drewG _ t5)
  clear M4 r12
  generalize w4.drewN t5 = W5 at *
  go_wp2_with fail
  refine (k21 _ M5.out).mono ?_
  rintro e w6 ⟨rfl, g6⟩
  have M6 : Hid _ := grown_tr M5.out g6
  clear g6 M5 k21
  go_wp2_with fail
  refine (s12 _ M6.out).mono ?_
  rintro e w7 ⟨rfl, t7, rfl⟩
  have M7 : Hid _ := grown_tr M6.out (drewG _ t7)
  clear M6 s12
  generalize w6.drewN t7 = W7 at *
  rcases v12 with rfl | rfl | rfl
  · rcases v23 with rfl | rfl | rfl
    · have hZ := HTR.out rfl rfl
      subst hZ
      clear v13 HTR
      go_wp2_with fail
      refine (k23 _ M7.out).mono ?_
      rintro e w8 ⟨rfl, g8⟩
      have M8 : Hid _ := grown_tr M7.out g8
      clear g8 M7 k23
      go_wp2_with fail
      refine (k13 _ M8.out).mono ?_
      rintro e w9 ⟨rfl, g9⟩
      have M9 : Hid _ := grown_tr M8.out g9
      clear g9 M8 k13
      have hown0 := empty_own w9 w.heap.size M9.out.size
      have gA := World.grownBy_alloc w9 (.cells #[] 9) none
      have HA : Hid _ := And.intro hown0 (grown_tr M9.out gA)
      have HB : Hid (w.heap.size ≤ w9.heap.size) := M9.out.size
      clear gA hown0 M9
      rcases a1 with _ | ad
      · have hc0 : c1 = 0 := HR1.out.1.nil rfl
        have hn0 : n1 = 0 := by have := HR1.out.1.nc; omega
        have hl0 : l1 = [] := List.eq_nil_of_length_eq_zero (by rw [HR1.out.1.row.len_eq]; exact hn0)
        subst hc0 hn0 hl0
        go_wp2_with (at_builtin; first | refine wpList_append_own_none rfl _ _ 23 rfl w.heap.size 9 i9 1 Try.underlying23 hi9 _ 0 (sv []) rfl HA.out.1 rfl ?_ | refine wpList_append_own _ rfl _ _ 23 rfl w.heap.size 9 i9 (.string ⟨#[]⟩) 1 16 Try.underlying23 hi9 hz0 hz1 hz2 rfl (by decide) _ _ _ rfl (HA.out.1.alloc _) ⟨w9.heap.size + 1, 0, none⟩ 1 1 (sv [⟨#[120]⟩]) rfl rfl ?c1 (sv_one _) ?c3 ?c4 ?c5 ?_)
        case c1 => first | exact cell_one_newV _ _ _ | exact fun j u h => h | (have := cell_one_newV (w9.alloc (.cells #[] 9)) 9 (.string ⟨#[120]⟩); rw [World.size_alloc] at this; exact this)
        case c3 => unfold maxLen; omega
        case c4 => omega
        case c5 => have := HB.out; simp; omega
        · intro v2 w2 own2 grow2 _
          have G2 : w.grownBy w2 none := grown_own9 (grown_tr HA.out.2 (World.grownBy_alloc _ _ none)) (HA.out.1.alloc _) grow2 (Nat.le_refl _)
          have own3 : w2.ownsRow w.heap.size 9 1 v2 1 (sv ([] ++ [⟨#[120]⟩])) := own2
          obtain ⟨aL, cL, rfl, kL1, kL2⟩ := HLG.out w2 G2 v2 _ own3
          have HG2 : Hid _ := G2
          clear own2 own3 grow2 G2
          go_wp2_with fail
          refine kL1.mono ?_
          rintro e w8 ⟨rfl, g8⟩
          have kL3 := kL2 _ g8
          have H8 : Hid _ := grown_tr HG2.out g8
          clear g8 kL1 kL2
          go_wp2_with fail
          refine kL3.mono ?_
          rintro e w10 ⟨rfl, g10⟩
          have H10 : Hid _ := grown_tr H8.out g10
          clear g10 kL3 H8
          go_wp2_with fail
          refine (HLV.out _).mono ?_
          rintro e w11 ⟨rfl, g11⟩
          have H11 : Hid _ := grown_below0 (grown_tr H10.out g11)
          clear g11 H10
          go_wp2
          go_ret
          exact ⟨rfl, H11.out⟩
      · have hn1 : n1 ≤ 300 := HR1.out.2
        go_wp2_with (at_builtin; refine wpList_append_own _ rfl _ _ 23 rfl w.heap.size 9 i9 (.string ⟨#[]⟩) 1 16 Try.underlying23 hi9 hz0 hz1 hz2 rfl (by decide) _ _ _ rfl HA.out.1 ad n1 c1 (sv l1) rfl ?d1 ?d2 (sv_one _) ?d3 ?d4 ?d5 ?_)
        case d1 => rw [sv_len, HR1.out.1.row.len_eq, Nat.mul_one]
        case d2 => exact srow_any (HR1.out.1.row.grown HA.out.2)
        case d3 => unfold maxLen; omega
        case d4 => omega
        case d5 => have := HB.out; simp; omega
        · intro v1 w1 own1 grow1 _
          have G1 : w.grownBy w1 none := grown_own9 HA.out.2 HA.out.1 grow1 (Nat.le_refl _)
          have HS1 : Hid (w.heap.size ≤ w1.heap.size) := G1.size
          have O1 : w1.ownsRow w.heap.size 9 1 v1 n1 (sv l1) := by first | exact own1 | (have := own1; rw [Nat.zero_add] at this; exact this)
          have HX : Hid _ := And.intro O1 G1
          clear own1 grow1 O1 G1
          go_wp2_with (at_builtin; refine wpList_append_own _ rfl _ _ 23 rfl w.heap.size 9 i9 (.string ⟨#[]⟩) 1 16 Try.underlying23 hi9 hz0 hz1 hz2 rfl (by decide) _ _ _ rfl (HX.out.1.alloc _) ⟨w1.heap.size, 0, none⟩ 1 1 (sv [⟨#[120]⟩]) rfl rfl ?c1 (sv_one _) ?c3 ?c4 ?c5 ?_)
          case c1 => first | exact cell_one_newV _ _ _ | exact fun j u h => h
          case c3 => unfold maxLen; omega
          case c4 => omega
          case c5 => have := HS1.out; simp; omega
          · intro v2 w2 own2 grow2 _
            have G2 : w.grownBy w2 none := grown_own9 (grown_tr HX.out.2 (World.grownBy_alloc _ _ none)) (HX.out.1.alloc _) grow2 (Nat.le_refl _)
            have own3 : w2.ownsRow w.heap.size 9 1 v2 (n1 + 1) (sv (l1 ++ [⟨#[120]⟩])) := by rw [sv_app]; exact own2
            obtain ⟨aL, cL, rfl, kL1, kL2⟩ := HLG.out w2 G2 v2 _ own3
            have HG2 : Hid _ := G2
            clear own2 own3 grow2 G2
            go_wp2_with fail
            refine kL1.mono ?_
            rintro e w8 ⟨rfl, g8⟩
            have kL3 := kL2 _ g8
            have H8 : Hid _ := grown_tr HG2.out g8
            clear g8 kL1 kL2
            go_wp2_with fail
            refine kL3.mono ?_
            rintro e w10 ⟨rfl, g10⟩
            have H10 : Hid _ := grown_tr H8.out g10
            clear g10 kL3 H8
            go_wp2_with fail
            refine (HLV.out _).mono ?_
            rintro e w11 ⟨rfl, g11⟩
            have H11 : Hid _ := grown_below0 (grown_tr H10.out g11)
            clear g11 H10
            go_wp2
            go_ret
            exact ⟨rfl, H11.out⟩
    · clear v13 HTR k13
      go_wp2_with fail
      refine (k23 _ M7.out).mono ?_
      rintro e w8 ⟨rfl, g8⟩
      have M8 : Hid _ := grown_tr M7.out g8
      clear g8 M7 k23
      have hown0 := empty_own w8 w.heap.size M8.out.size
      have gA := World.grownBy_alloc w8 (.cells #[] 9) none
      have HA : Hid _ := And.intro hown0 (grown_tr M8.out gA)
      have HB : Hid (w.heap.size ≤ w8.heap.size) := M8.out.size
      clear gA hown0 M8
      rcases a1 with _ | ad
      · have hc0 : c1 = 0 := HR1.out.1.nil rfl
        have hn0 : n1 = 0 := by have := HR1.out.1.nc; omega
        have hl0 : l1 = [] := List.eq_nil_of_length_eq_zero (by rw [HR1.out.1.row.len_eq]; exact hn0)
        subst hc0 hn0 hl0
        go_wp2_with (at_builtin; first | refine wpList_append_own_none rfl _ _ 23 rfl w.heap.size 9 i9 1 Try.underlying23 hi9 _ 0 (sv []) rfl HA.out.1 rfl ?_ | refine wpList_append_own _ rfl _ _ 23 rfl w.heap.size 9 i9 (.string ⟨#[]⟩) 1 16 Try.underlying23 hi9 hz0 hz1 hz2 rfl (by decide) _ _ _ rfl (HA.out.1.alloc _) ⟨w8.heap.size + 1, 0, none⟩ 1 1 (sv [⟨#[120]⟩]) rfl rfl ?c1 (sv_one _) ?c3 ?c4 ?c5 ?_)
        case c1 => first | exact cell_one_newV _ _ _ | exact fun j u h => h | (have := cell_one_newV (w8.alloc (.cells #[] 9)) 9 (.string ⟨#[120]⟩); rw [World.size_alloc] at this; exact this)
        case c3 => unfold maxLen; omega
        case c4 => omega
        case c5 => have := HB.out; simp; omega
        · intro v2 w2 own2 grow2 _
          have G2 : w.grownBy w2 none := grown_own9 (grown_tr HA.out.2 (World.grownBy_alloc _ _ none)) (HA.out.1.alloc _) grow2 (Nat.le_refl _)
          have own3 : w2.ownsRow w.heap.size 9 1 v2 1 (sv ([] ++ [⟨#[120]⟩])) := own2
          obtain ⟨aL, cL, rfl, kL1, kL2⟩ := HLG.out w2 G2 v2 _ own3
          have HG2 : Hid _ := G2
          clear own2 own3 grow2 G2
          go_wp2_with fail
          refine kL1.mono ?_
          rintro e w8 ⟨rfl, g8⟩
          have kL3 := kL2 _ g8
          have H8 : Hid _ := grown_tr HG2.out g8
          clear g8 kL1 kL2
          go_wp2_with fail
          refine kL3.mono ?_
          rintro e w10 ⟨rfl, g10⟩
          have H10 : Hid _ := grown_tr H8.out g10
          clear g10 kL3 H8
          go_wp2_with fail
          refine (HLV.out _).mono ?_
          rintro e w11 ⟨rfl, g11⟩
          have H11 : Hid _ := grown_below0 (grown_tr H10.out g11)
          clear g11 H10
          go_wp2
          go_ret
          exact ⟨rfl, H11.out⟩
      · have hn1 : n1 ≤ 300 := HR1.out.2
        go_wp2_with (at_builtin; refine wpList_append_own _ rfl _ _ 23 rfl w.heap.size 9 i9 (.string ⟨#[]⟩) 1 16 Try.underlying23 hi9 hz0 hz1 hz2 rfl (by decide) _ _ _ rfl HA.out.1 ad n1 c1 (sv l1) rfl ?d1 ?d2 (sv_one _) ?d3 ?d4 ?d5 ?_)
        case d1 => rw [sv_len, HR1.out.1.row.len_eq, Nat.mul_one]
        case d2 => exact srow_any (HR1.out.1.row.grown HA.out.2)
        case d3 => unfold maxLen; omega
        case d4 => omega
        case d5 => have := HB.out; simp; omega
        · intro v1 w1 own1 grow1 _
          have G1 : w.grownBy w1 none := grown_own9 HA.out.2 HA.out.1 grow1 (Nat.le_refl _)
          have HS1 : Hid (w.heap.size ≤ w1.heap.size) := G1.size
          have O1 : w1.ownsRow w.heap.size 9 1 v1 n1 (sv l1) := by first | exact own1 | (have := own1; rw [Nat.zero_add] at this; exact this)
          have HX : Hid _ := And.intro O1 G1
          clear own1 grow1 O1 G1
          go_wp2_with (at_builtin; refine wpList_append_own _ rfl _ _ 23 rfl w.heap.size 9 i9 (.string ⟨#[]⟩) 1 16 Try.underlying23 hi9 hz0 hz1 hz2 rfl (by decide) _ _ _ rfl (HX.out.1.alloc _) ⟨w1.heap.size, 0, none⟩ 1 1 (sv [⟨#[120]⟩]) rfl rfl ?c1 (sv_one _) ?c3 ?c4 ?c5 ?_)
          case c1 => first | exact cell_one_newV _ _ _ | exact fun j u h => h
          case c3 => unfold maxLen; omega
          case c4 => omega
          case c5 => have := HS1.out; simp; omega
          · intro v2 w2 own2 grow2 _
            have G2 : w.grownBy w2 none := grown_own9 (grown_tr HX.out.2 (World.grownBy_alloc _ _ none)) (HX.out.1.alloc _) grow2 (Nat.le_refl _)
            have own3 : w2.ownsRow w.heap.size 9 1 v2 (n1 + 1) (sv (l1 ++ [⟨#[120]⟩])) := by rw [sv_app]; exact own2
            obtain ⟨aL, cL, rfl, kL1, kL2⟩ := HLG.out w2 G2 v2 _ own3
            have HG2 : Hid _ := G2
            clear own2 own3 grow2 G2
            go_wp2_with fail
            refine kL1.mono ?_
            rintro e w8 ⟨rfl, g8⟩
            have kL3 := kL2 _ g8
            have H8 : Hid _ := grown_tr HG2.out g8
            clear g8 kL1 kL2
            go_wp2_with fail
            refine kL3.mono ?_
            rintro e w10 ⟨rfl, g10⟩
            have H10 : Hid _ := grown_tr H8.out g10
            clear g10 kL3 H8
            go_wp2_with fail
            refine (HLV.out _).mono ?_
            rintro e w11 ⟨rfl, g11⟩
            have H11 : Hid _ := grown_below0 (grown_tr H10.out g11)
            clear g11 H10
            go_wp2
            go_ret
            exact ⟨rfl, H11.out⟩
    · clear v13 HTR k13
      go_wp2_with fail
      refine (k23 _ M7.out).mono ?_
      rintro e w8 ⟨rfl, g8⟩
      have M8 : Hid _ := grown_tr M7.out g8
      clear g8 M7 k23
      have hown0 := empty_own w8 w.heap.size M8.out.size
      have gA := World.grownBy_alloc w8 (.cells #[] 9) none
      have HA : Hid _ := And.intro hown0 (grown_tr M8.out gA)
      have HB : Hid (w.heap.size ≤ w8.heap.size) := M8.out.size
      clear gA hown0 M8
      rcases a1 with _ | ad
      · have hc0 : c1 = 0 := HR1.out.1.nil rfl
        have hn0 : n1 = 0 := by have := HR1.out.1.nc; omega
        have hl0 : l1 = [] := List.eq_nil_of_length_eq_zero (by rw [HR1.out.1.row.len_eq]; exact hn0)
        subst hc0 hn0 hl0
        go_wp2_with (at_builtin; first | refine wpList_append_own_none rfl _ _ 23 rfl w.heap.size 9 i9 1 Try.underlying23 hi9 _ 0 (sv []) rfl HA.out.1 rfl ?_ | refine wpList_append_own _ rfl _ _ 23 rfl w.heap.size 9 i9 (.string ⟨#[]⟩) 1 16 Try.underlying23 hi9 hz0 hz1 hz2 rfl (by decide) _ _ _ rfl (HA.out.1.alloc _) ⟨w8.heap.size + 1, 0, none⟩ 1 1 (sv [⟨#[120]⟩]) rfl rfl ?c1 (sv_one _) ?c3 ?c4 ?c5 ?_)
        case c1 => first | exact cell_one_newV _ _ _ | exact fun j u h => h | (have := cell_one_newV (w8.alloc (.cells #[] 9)) 9 (.string ⟨#[120]⟩); rw [World.size_alloc] at this; exact this)
        case c3 => unfold maxLen; omega
        case c4 => omega
        case c5 => have := HB.out; simp; omega
        · intro v2 w2 own2 grow2 _
          have G2 : w.grownBy w2 none := grown_own9 (grown_tr HA.out.2 (World.grownBy_alloc _ _ none)) (HA.out.1.alloc _) grow2 (Nat.le_refl _)
          have own3 : w2.ownsRow w.heap.size 9 1 v2 1 (sv ([] ++ [⟨#[120]⟩])) := own2
          obtain ⟨aL, cL, rfl, kL1, kL2⟩ := HLG.out w2 G2 v2 _ own3
          have HG2 : Hid _ := G2
          clear own2 own3 grow2 G2
          go_wp2_with fail
          refine kL1.mono ?_
          rintro e w8 ⟨rfl, g8⟩
          have kL3 := kL2 _ g8
          have H8 : Hid _ := grown_tr HG2.out g8
          clear g8 kL1 kL2
          go_wp2_with fail
          refine kL3.mono ?_
          rintro e w10 ⟨rfl, g10⟩
          have H10 : Hid _ := grown_tr H8.out g10
          clear g10 kL3 H8
          go_wp2_with fail
          refine (HLV.out _).mono ?_
          rintro e w11 ⟨rfl, g11⟩
          have H11 : Hid _ := grown_below0 (grown_tr H10.out g11)
          clear g11 H10
          go_wp2
          go_ret
          exact ⟨rfl, H11.out⟩
      · have hn1 : n1 ≤ 300 := HR1.out.2
        go_wp2_with (at_builtin; refine wpList_append_own _ rfl _ _ 23 rfl w.heap.size 9 i9 (.string ⟨#[]⟩) 1 16 Try.underlying23 hi9 hz0 hz1 hz2 rfl (by decide) _ _ _ rfl HA.out.1 ad n1 c1 (sv l1) rfl ?d1 ?d2 (sv_one _) ?d3 ?d4 ?d5 ?_)
        case d1 => rw [sv_len, HR1.out.1.row.len_eq, Nat.mul_one]
        case d2 => exact srow_any (HR1.out.1.row.grown HA.out.2)
        case d3 => unfold maxLen; omega
        case d4 => omega
        case d5 => have := HB.out; simp; omega
        · intro v1 w1 own1 grow1 _
          have G1 : w.grownBy w1 none := grown_own9 HA.out.2 HA.out.1 grow1 (Nat.le_refl _)
          have HS1 : Hid (w.heap.size ≤ w1.heap.size) := G1.size
          have O1 : w1.ownsRow w.heap.size 9 1 v1 n1 (sv l1) := by first | exact own1 | (have := own1; rw [Nat.zero_add] at this; exact this)
          have HX : Hid _ := And.intro O1 G1
          clear own1 grow1 O1 G1
          go_wp2_with (at_builtin; refine wpList_append_own _ rfl _ _ 23 rfl w.heap.size 9 i9 (.string ⟨#[]⟩) 1 16 Try.underlying23 hi9 hz0 hz1 hz2 rfl (by decide) _ _ _ rfl (HX.out.1.alloc _) ⟨w1.heap.size, 0, none⟩ 1 1 (sv [⟨#[120]⟩]) rfl rfl ?c1 (sv_one _) ?c3 ?c4 ?c5 ?_)
          case c1 => first | exact cell_one_newV _ _ _ | exact fun j u h => h
          case c3 => unfold maxLen; omega
          case c4 => omega
          case c5 => have := HS1.out; simp; omega
          · intro v2 w2 own2 grow2 _
            have G2 : w.grownBy w2 none := grown_own9 (grown_tr HX.out.2 (World.grownBy_alloc _ _ none)) (HX.out.1.alloc _) grow2 (Nat.le_refl _)
            have own3 : w2.ownsRow w.heap.size 9 1 v2 (n1 + 1) (sv (l1 ++ [⟨#[120]⟩])) := by rw [sv_app]; exact own2
            obtain ⟨aL, cL, rfl, kL1, kL2⟩ := HLG.out w2 G2 v2 _ own3
            have HG2 : Hid _ := G2
            clear own2 own3 grow2 G2
            go_wp2_with fail
            refine kL1.mono ?_
            rintro e w8 ⟨rfl, g8⟩
            have kL3 := kL2 _ g8
            have H8 : Hid _ := grown_tr HG2.out g8
            clear g8 kL1 kL2
            go_wp2_with fail
            refine kL3.mono ?_
            rintro e w10 ⟨rfl, g10⟩
            have H10 : Hid _ := grown_tr H8.out g10
            clear g10 kL3 H8
            go_wp2_with fail
            refine (HLV.out _).mono ?_
            rintro e w11 ⟨rfl, g11⟩
            have H11 : Hid _ := grown_below0 (grown_tr H10.out g11)
            clear g11 H10
            go_wp2
            go_ret
            exact ⟨rfl, H11.out⟩
  · clear k23 k13 v23 v13 HTR
    have hown0 := empty_own W7 w.heap.size M7.out.size
    have gA := World.grownBy_alloc W7 (.cells #[] 9) none
    have HA : Hid _ := And.intro hown0 (grown_tr M7.out gA)
    have HB : Hid (w.heap.size ≤ W7.heap.size) := M7.out.size
    clear gA hown0 M7
    rcases a1 with _ | ad
    · have hc0 : c1 = 0 := HR1.out.1.nil rfl
      have hn0 : n1 = 0 := by have := HR1.out.1.nc; omega
      have hl0 : l1 = [] := List.eq_nil_of_length_eq_zero (by rw [HR1.out.1.row.len_eq]; exact hn0)
      subst hc0 hn0 hl0
      go_wp2_with (at_builtin; first | refine wpList_append_own_none rfl _ _ 23 rfl w.heap.size 9 i9 1 Try.underlying23 hi9 _ 0 (sv []) rfl HA.out.1 rfl ?_ | refine wpList_append_own _ rfl _ _ 23 rfl w.heap.size 9 i9 (.string ⟨#[]⟩) 1 16 Try.underlying23 hi9 hz0 hz1 hz2 rfl (by decide) _ _ _ rfl (HA.out.1.alloc _) ⟨W7.heap.size + 1, 0, none⟩ 1 1 (sv [⟨#[120]⟩]) rfl rfl ?c1 (sv_one _) ?c3 ?c4 ?c5 ?_)
      case c1 => first | exact cell_one_newV _ _ _ | exact fun j u h => h | (have := cell_one_newV (W7.alloc (.cells #[] 9)) 9 (.string ⟨#[120]⟩); rw [World.size_alloc] at this; exact this)
      case c3 => unfold maxLen; omega
      case c4 => omega
      case c5 => have := HB.out; simp; omega
      · intro v2 w2 own2 grow2 _
        have G2 : w.grownBy w2 none := grown_own9 (grown_tr HA.out.2 (World.grownBy_alloc _ _ none)) (HA.out.1.alloc _) grow2 (Nat.le_refl _)
        have own3 : w2.ownsRow w.heap.size 9 1 v2 1 (sv ([] ++ [⟨#[120]⟩])) := own2
        obtain ⟨aL, cL, rfl, kL1, kL2⟩ := HLG.out w2 G2 v2 _ own3
        have HG2 : Hid _ := G2
        clear own2 own3 grow2 G2
        go_wp2_with fail
        refine kL1.mono ?_
        rintro e w8 ⟨rfl, g8⟩
        have kL3 := kL2 _ g8
        have H8 : Hid _ := grown_tr HG2.out g8
        clear g8 kL1 kL2
        go_wp2_with fail
        refine kL3.mono ?_
        rintro e w10 ⟨rfl, g10⟩
        have H10 : Hid _ := grown_tr H8.out g10
        clear g10 kL3 H8
        go_wp2_with fail
        refine (HLV.out _).mono ?_
        rintro e w11 ⟨rfl, g11⟩
        have H11 : Hid _ := grown_below0 (grown_tr H10.out g11)
        clear g11 H10
        go_wp2
        go_ret
        exact ⟨rfl, H11.out⟩
    · have hn1 : n1 ≤ 300 := HR1.out.2
      go_wp2_with (at_builtin; refine wpList_append_own _ rfl _ _ 23 rfl w.heap.size 9 i9 (.string ⟨#[]⟩) 1 16 Try.underlying23 hi9 hz0 hz1 hz2 rfl (by decide) _ _ _ rfl HA.out.1 ad n1 c1 (sv l1) rfl ?d1 ?d2 (sv_one _) ?d3 ?d4 ?d5 ?_)
      case d1 => rw [sv_len, HR1.out.1.row.len_eq, Nat.mul_one]
      case d2 => exact srow_any (HR1.out.1.row.grown HA.out.2)
      case d3 => unfold maxLen; omega
      case d4 => omega
      case d5 => have := HB.out; simp; omega
      · intro v1 w1 own1 grow1 _
        have G1 : w.grownBy w1 none := grown_own9 HA.out.2 HA.out.1 grow1 (Nat.le_refl _)
        have HS1 : Hid (w.heap.size ≤ w1.heap.size) := G1.size
        have O1 : w1.ownsRow w.heap.size 9 1 v1 n1 (sv l1) := by first | exact own1 | (have := own1; rw [Nat.zero_add] at this; exact this)
        have HX : Hid _ := And.intro O1 G1
        clear own1 grow1 O1 G1
        go_wp2_with (at_builtin; refine wpList_append_own _ rfl _ _ 23 rfl w.heap.size 9 i9 (.string ⟨#[]⟩) 1 16 Try.underlying23 hi9 hz0 hz1 hz2 rfl (by decide) _ _ _ rfl (HX.out.1.alloc _) ⟨w1.heap.size, 0, none⟩ 1 1 (sv [⟨#[120]⟩]) rfl rfl ?c1 (sv_one _) ?c3 ?c4 ?c5 ?_)
        case c1 => first | exact cell_one_newV _ _ _ | exact fun j u h => h
        case c3 => unfold maxLen; omega
        case c4 => omega
        case c5 => have := HS1.out; simp; omega
        · intro v2 w2 own2 grow2 _
          have G2 : w.grownBy w2 none := grown_own9 (grown_tr HX.out.2 (World.grownBy_alloc _ _ none)) (HX.out.1.alloc _) grow2 (Nat.le_refl _)
          have own3 : w2.ownsRow w.heap.size 9 1 v2 (n1 + 1) (sv (l1 ++ [⟨#[120]⟩])) := by rw [sv_app]; exact own2
          obtain ⟨aL, cL, rfl, kL1, kL2⟩ := HLG.out w2 G2 v2 _ own3
          have HG2 : Hid _ := G2
          clear own2 own3 grow2 G2
          go_wp2_with fail
          refine kL1.mono ?_
          rintro e w8 ⟨rfl, g8⟩
          have kL3 := kL2 _ g8
          have H8 : Hid _ := grown_tr HG2.out g8
          clear g8 kL1 kL2
          go_wp2_with fail
          refine kL3.mono ?_
          rintro e w10 ⟨rfl, g10⟩
          have H10 : Hid _ := grown_tr H8.out g10
          clear g10 kL3 H8
          go_wp2_with fail
          refine (HLV.out _).mono ?_
          rintro e w11 ⟨rfl, g11⟩
          have H11 : Hid _ := grown_below0 (grown_tr H10.out g11)
          clear g11 H10
          go_wp2
          go_ret
          exact ⟨rfl, H11.out⟩
  · clear k23 k13 v23 v13 HTR
    have hown0 := empty_own W7 w.heap.size M7.out.size
    have gA := World.grownBy_alloc W7 (.cells #[] 9) none
    have HA : Hid _ := And.intro hown0 (grown_tr M7.out gA)
    have HB : Hid (w.heap.size ≤ W7.heap.size) := M7.out.size
    clear gA hown0 M7
    rcases a1 with _ | ad
    · have hc0 : c1 = 0 := HR1.out.1.nil rfl
      have hn0 : n1 = 0 := by have := HR1.out.1.nc; omega
      have hl0 : l1 = [] := List.eq_nil_of_length_eq_zero (by rw [HR1.out.1.row.len_eq]; exact hn0)
      subst hc0 hn0 hl0
      go_wp2_with (at_builtin; first | refine wpList_append_own_none rfl _ _ 23 rfl w.heap.size 9 i9 1 Try.underlying23 hi9 _ 0 (sv []) rfl HA.out.1 rfl ?_ | refine wpList_append_own _ rfl _ _ 23 rfl w.heap.size 9 i9 (.string ⟨#[]⟩) 1 16 Try.underlying23 hi9 hz0 hz1 hz2 rfl (by decide) _ _ _ rfl (HA.out.1.alloc _) ⟨W7.heap.size + 1, 0, none⟩ 1 1 (sv [⟨#[120]⟩]) rfl rfl ?c1 (sv_one _) ?c3 ?c4 ?c5 ?_)
      case c1 => first | exact cell_one_newV _ _ _ | exact fun j u h => h | (have := cell_one_newV (W7.alloc (.cells #[] 9)) 9 (.string ⟨#[120]⟩); rw [World.size_alloc] at this; exact this)
      case c3 => unfold maxLen; omega
      case c4 => omega
      case c5 => have := HB.out; simp; omega
      · intro v2 w2 own2 grow2 _
        have G2 : w.grownBy w2 none := grown_own9 (grown_tr HA.out.2 (World.grownBy_alloc _ _ none)) (HA.out.1.alloc _) grow2 (Nat.le_refl _)
        have own3 : w2.ownsRow w.heap.size 9 1 v2 1 (sv ([] ++ [⟨#[120]⟩])) := own2
        obtain ⟨aL, cL, rfl, kL1, kL2⟩ := HLG.out w2 G2 v2 _ own3
        have HG2 : Hid _ := G2
        clear own2 own3 grow2 G2
        go_wp2_with fail
        refine kL1.mono ?_
        rintro e w8 ⟨rfl, g8⟩
        have kL3 := kL2 _ g8
        have H8 : Hid _ := grown_tr HG2.out g8
        clear g8 kL1 kL2
        go_wp2_with fail
        refine kL3.mono ?_
        rintro e w10 ⟨rfl, g10⟩
        have H10 : Hid _ := grown_tr H8.out g10
        clear g10 kL3 H8
        go_wp2_with fail
        refine (HLV.out _).mono ?_
        rintro e w11 ⟨rfl, g11⟩
        have H11 : Hid _ := grown_below0 (grown_tr H10.out g11)
        clear g11 H10
        go_wp2
        go_ret
        exact ⟨rfl, H11.out⟩
    · have hn1 : n1 ≤ 300 := HR1.out.2
      go_wp2_with (at_builtin; refine wpList_append_own _ rfl _ _ 23 rfl w.heap.size 9 i9 (.string ⟨#[]⟩) 1 16 Try.underlying23 hi9 hz0 hz1 hz2 rfl (by decide) _ _ _ rfl HA.out.1 ad n1 c1 (sv l1) rfl ?d1 ?d2 (sv_one _) ?d3 ?d4 ?d5 ?_)
      case d1 => rw [sv_len, HR1.out.1.row.len_eq, Nat.mul_one]
      case d2 => exact srow_any (HR1.out.1.row.grown HA.out.2)
      case d3 => unfold maxLen; omega
      case d4 => omega
      case d5 => have := HB.out; simp; omega
      · intro v1 w1 own1 grow1 _
        have G1 : w.grownBy w1 none := grown_own9 HA.out.2 HA.out.1 grow1 (Nat.le_refl _)
        have HS1 : Hid (w.heap.size ≤ w1.heap.size) := G1.size
        have O1 : w1.ownsRow w.heap.size 9 1 v1 n1 (sv l1) := by first | exact own1 | (have := own1; rw [Nat.zero_add] at this; exact this)
        have HX : Hid _ := And.intro O1 G1
        clear own1 grow1 O1 G1
        go_wp2_with (at_builtin; refine wpList_append_own _ rfl _ _ 23 rfl w.heap.size 9 i9 (.string ⟨#[]⟩) 1 16 Try.underlying23 hi9 hz0 hz1 hz2 rfl (by decide) _ _ _ rfl (HX.out.1.alloc _) ⟨w1.heap.size, 0, none⟩ 1 1 (sv [⟨#[120]⟩]) rfl rfl ?c1 (sv_one _) ?c3 ?c4 ?c5 ?_)
        case c1 => first | exact cell_one_newV _ _ _ | exact fun j u h => h
        case c3 => unfold maxLen; omega
        case c4 => omega
        case c5 => have := HS1.out; simp; omega
        · intro v2 w2 own2 grow2 _
          have G2 : w.grownBy w2 none := grown_own9 (grown_tr HX.out.2 (World.grownBy_alloc _ _ none)) (HX.out.1.alloc _) grow2 (Nat.le_refl _)
          have own3 : w2.ownsRow w.heap.size 9 1 v2 (n1 + 1) (sv (l1 ++ [⟨#[120]⟩])) := by rw [sv_app]; exact own2
          obtain ⟨aL, cL, rfl, kL1, kL2⟩ := HLG.out w2 G2 v2 _ own3
          have HG2 : Hid _ := G2
          clear own2 own3 grow2 G2
          go_wp2_with fail
          refine kL1.mono ?_
          rintro e w8 ⟨rfl, g8⟩
          have kL3 := kL2 _ g8
          have H8 : Hid _ := grown_tr HG2.out g8
          clear g8 kL1 kL2
          go_wp2_with fail
          refine kL3.mono ?_
          rintro e w10 ⟨rfl, g10⟩
          have H10 : Hid _ := grown_tr H8.out g10
          clear g10 kL3 H8
          go_wp2_with fail
          refine (HLV.out _).mono ?_
          rintro e w11 ⟨rfl, g11⟩
          have H11 : Hid _ := grown_below0 (grown_tr H10.out g11)
          clear g11 H10
          go_wp2
          go_ret
          exact ⟨rfl, H11.out⟩
theorem nameOrders_walk (a1 : Option Addr) (n1 c1 : Nat) (l1 : List ByteArray) (a2 : Option Addr) (n2 c2 : Nat) (l2 : List ByteArray) (a3 : Option Addr) (n3 c3 : Nat) (l3 : List ByteArray) (w : World) (R1 : SArg w a1 n1 c1 l1) (R2 : SArg w a2 n2 c2 l2) (R3 : SArg w a3 n3 c3 l3) :
    Calls Try.prog 5 #[.slice a1 n1 c1, .slice a2 n2 c2, .slice a3 n3 c3] w fun e w' => e = .returned (.bool true) ∧ Below w.heap.size w w' := by
  cases h1 : mch l1 with
  | true => exact ord_m1 a1 n1 c1 l1 a2 n2 c2 l2 a3 n3 c3 l3 w R1 R2 R3 h1
  | false =>
    cases h2 : mch l2 with
    | true => exact ord_m2 a1 n1 c1 l1 a2 n2 c2 l2 a3 n3 c3 l3 w R1 R2 R3 h1 h2
    | false =>
      cases h3 : mch l3 with
      | true => exact ord_m3 a1 n1 c1 l1 a2 n2 c2 l2 a3 n3 c3 l3 w R1 R2 R3 h1 h2 h3
      | false => exact ord_main a1 n1 c1 l1 a2 n2 c2 l2 a3 n3 c3 l3 w R1 R2 R3 h1 h2 h3
end Go.Proofs.Ythidnmncekfgaaa
