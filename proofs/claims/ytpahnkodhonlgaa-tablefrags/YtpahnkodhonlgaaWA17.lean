/- Fragments in memory; what right ones are. -/
import Derived.Test.YtpahnkodhonlgaaUA17
namespace Go.Proofs.Ytpahnkodhonlgaa
open Go.RowKit
set_option maxRecDepth 100000
set_option linter.unusedSimpArgs false
set_option linter.unusedVariables false
/-- a fragment -/
structure Fr where
  at_ : Int
  wd : Int
  pl : Int
def Fr.cells (f : Fr) : List Value := [.int .i64 f.at_, .int .i64 f.wd, .int .i64 f.pl]
structure FrAt (w : World) (b o : Nat) (f : Fr) : Prop where
  c0 : w.cell? ⟨b, o, none⟩ = some (.int .i64 f.at_)
  c1 : w.cell? ⟨b, o + 1, none⟩ = some (.int .i64 f.wd)
  c2 : w.cell? ⟨b, o + 2, none⟩ = some (.int .i64 f.pl)
structure Frs (w : World) (a : Option Addr) (len : Nat) (l : List Fr) : Prop where
  len_eq : l.length = len
  le : len ≤ maxLen
  at_ : 0 < len → ∃ b off, a = some ⟨b, off, none⟩ ∧ ∀ i f, l[i]? = some f → FrAt w b (off + i * 3) f
theorem FrAt.grown {w w' : World} {b o : Nat} {f : Fr} (h : FrAt w b o f) (g : w.grownBy w' none) : FrAt w' b o f := ⟨cell_grown17' h.c0 g, cell_grown17' h.c1 g, cell_grown17' h.c2 g⟩
theorem Frs.grown {w w' : World} {a : Option Addr} {len : Nat} {l : List Fr} (h : Frs w a len l) (g : w.grownBy w' none) : Frs w' a len l :=
  ⟨h.len_eq, h.le, fun h0 => by obtain ⟨b, off, e, k⟩ := h.at_ h0; exact ⟨b, off, e, fun i f hf => (k i f hf).grown g⟩⟩
def btw17 (x lo hi : Int) : Bool := decide (lo ≤ x) && decide (x ≤ hi)
theorem between17_any (x lo hi : Int) (w : World) : Calls Try.prog 63 #[.int .i64 x, .int .i64 lo, .int .i64 hi] w fun e w' => e = .returned (.bool (btw17 x lo hi)) ∧ w = w' := by
  cases h : decide (lo ≤ x) with
  | true =>
    have e : btw17 x lo hi = decide (x ≤ hi) := by simp [btw17, h]
    rw [e]
    clear e
    go_enter Try.func63, Try.ntmps63
    go_wp2
    go_ret
    exact ⟨rfl, rfl⟩
  | false =>
    have e : btw17 x lo hi = false := by simp [btw17, h]
    rw [e]
    clear e
    go_enter Try.func63, Try.ntmps63
    go_wp2
    go_ret
    exact ⟨rfl, rfl⟩
def okF17 (f : Fr) : Bool := btw17 f.at_ 0 8388608 && (btw17 f.wd 1 4294967295 && btw17 f.pl 1 1048576)
def rgf17 (l : List Fr) : Bool := decide (l.length ≤ 65536) && l.all okF17
theorem rgf_not {l : List Fr} {f : Fr} {i : Nat} (h : l[i]? = some f) (hb : okF17 f = false) : rgf17 l = false := by
  have : l.all okF17 = false := List.all_eq_false.2 ⟨f, List.mem_of_getElem? h, by simp [hb]⟩
  unfold rgf17
  rw [this]
  simp
theorem rgf_len {l : List Fr} (h : 65536 < l.length) : rgf17 l = false := by
  unfold rgf17
  rw [decide_eq_false (by omega : ¬ l.length ≤ 65536)]
  rfl
theorem rgf_of {l : List Fr} (h1 : l.length ≤ 65536) (h : ∀ (i : Nat) (f : Fr), l[i]? = some f → okF17 f = true) : rgf17 l = true := by
  unfold rgf17
  rw [decide_eq_true h1, List.all_eq_true.2 fun f hf => by obtain ⟨i, hi⟩ := List.getElem?_of_mem hf; exact h i f hi]
  rfl
theorem rgf_at {l : List Fr} (h : rgf17 l = true) : l.length ≤ 65536 ∧ ∀ f ∈ l, (0 ≤ f.at_ ∧ f.at_ ≤ 8388608) ∧ (1 ≤ f.wd ∧ f.wd ≤ 4294967295) ∧ 1 ≤ f.pl ∧ f.pl ≤ 1048576 := by
  unfold rgf17 at h
  simp only [Bool.and_eq_true, decide_eq_true_eq] at h
  refine ⟨h.1, fun f hf => ?_⟩
  have := List.all_eq_true.1 h.2 f hf
  unfold okF17 btw17 at this
  simp only [Bool.and_eq_true, decide_eq_true_eq] at this
  exact ⟨this.1, this.2.1, this.2.2⟩
set_option maxHeartbeats 4000000 in
theorem prightF17_any (a : Option Addr) (len cap : Nat) (l : List Fr) (w : World) (K : Frs w a len l) :
    Calls Try.prog 49 #[.slice a len cap] w fun e w' => e = .returned (.bool (rgf17 l)) ∧ w.grownBy w' none := by
  have hlb := K.len_eq
  by_cases h64 : 65536 < len
  · have h64i : (65536 : Int) < (len : Int) := by omega
    rw [rgf_len (by omega)]
    clear K
    go_enter Try.func49, Try.ntmps49
    go_wp2
    go_returns
    exact ⟨rfl, World.grownBy.refl _ _⟩
  have h64i : ¬ (65536 : Int) < (len : Int) := by omega
  have HK : Hid _ := K
  have HB : Hid (∀ (i : Nat) (f : Fr), l[i]? = some f → okF17 f = false → rgf17 l = false) := fun i f h hb => rgf_not h hb
  have HA : Hid ((∀ (i : Nat) (f : Fr), l[i]? = some f → okF17 f = true) → rgf17 l = true) := fun h => rgf_of (by omega) h
  generalize rgf17 l = D at *
  clear K
  go_enter Try.func49, Try.ntmps49
  go_wp2
  go_loopw [10] (fun i wr => ∃ j : Nat, i = .int .i64 j ∧ j ≤ len ∧ Hid (w.grownBy wr none ∧ ∀ (i : Nat) (f : Fr), i < j → l[i]? = some f → okF17 f = true)) (fun i _ => len - (intOf i).toNat)
  case atStart => exact ⟨0, rfl, Nat.zero_le _, World.grownBy.refl _ _, fun i f h => absurd h (Nat.not_lt_zero _)⟩
  case round =>
    obtain ⟨j, rfl, hj, HC⟩ := hrel
    by_cases hlt : j < len
    · have hlti : (j : Int) < (len : Int) := by omega
      obtain ⟨b, off, rfl, hc⟩ := (HK.out.grown HC.out.1).at_ (by omega)
      obtain ⟨F, hF⟩ : ∃ F, l[j]? = some F := ⟨_, List.getElem?_eq_getElem (by omega)⟩
      obtain ⟨x0, x1, x2⟩ := hc j F hF
      have HG : Hid (w.grownBy _ none) := grown_trans HC.out.1 (World.grownBy_alloc wr (.cells #[.int .i64 F.at_, .int .i64 F.wd, .int .i64 F.pl] 89) none)
      have hwj : IntKind.i64.wrap ((j : Int) + 1) = (j : Int) + 1 := by rw [IntKind.wrap_i64]; omega
      have hok : ∀ q, okF17 F = q → okF17 F = q := fun q h => h
      have hb0 := fun W => between17_any F.at_ 0 8388608 W
      have hb1 := fun W => between17_any F.wd 1 4294967295 W
      have hb2 := fun W => between17_any F.pl 1 1048576 W
      have hdf : okF17 F = (btw17 F.at_ 0 8388608 && (btw17 F.wd 1 4294967295 && btw17 F.pl 1 1048576)) := rfl
      generalize btw17 F.at_ 0 8388608 = q0 at *
      generalize btw17 F.wd 1 4294967295 = q1 at *
      generalize btw17 F.pl 1 1048576 = q2 at *
      cases q0 with
      | false =>
        have HBad : Hid (D = false) := HB.out j F hF (by rw [hdf]; rfl)
        clear HC hc hok hdf hF
        go_wp2_with (first | (go_at_call 63; first | (refine (hb0 _).mono ?_; rintro e wx ⟨rfl, rfl⟩; clear hb0) | (refine (hb1 _).mono ?_; rintro e wx ⟨rfl, rfl⟩; clear hb1) | (refine (hb2 _).mono ?_; rintro e wx ⟨rfl, rfl⟩; clear hb2)) | fail)
        go_returns
        exact ⟨by rw [HBad.out]; rfl, HG.out⟩
      | true =>
        cases q1 with
        | false =>
          have HBad : Hid (D = false) := HB.out j F hF (by rw [hdf]; rfl)
          clear HC hc hok hdf hF
          go_wp2_with (first | (go_at_call 63; first | (refine (hb0 _).mono ?_; rintro e wx ⟨rfl, rfl⟩; clear hb0) | (refine (hb1 _).mono ?_; rintro e wx ⟨rfl, rfl⟩; clear hb1) | (refine (hb2 _).mono ?_; rintro e wx ⟨rfl, rfl⟩; clear hb2)) | fail)
          go_returns
          exact ⟨by rw [HBad.out]; rfl, HG.out⟩
        | true =>
          cases q2 with
          | false =>
            have HBad : Hid (D = false) := HB.out j F hF (by rw [hdf]; rfl)
            clear HC hc hok hdf hF
            go_wp2_with (first | (go_at_call 63; first | (refine (hb0 _).mono ?_; rintro e wx ⟨rfl, rfl⟩; clear hb0) | (refine (hb1 _).mono ?_; rintro e wx ⟨rfl, rfl⟩; clear hb1) | (refine (hb2 _).mono ?_; rintro e wx ⟨rfl, rfl⟩; clear hb2)) | fail)
            go_returns
            exact ⟨by rw [HBad.out]; rfl, HG.out⟩
          | true =>
            have HN : Hid (∀ (i : Nat) (f : Fr), i < j + 1 → l[i]? = some f → okF17 f = true) := fun i f hi h => by
              by_cases q : i = j
              · subst q
                rw [hF] at h
                injection h with h
                rw [← h, hdf]; rfl
              · exact HC.out.2 i f (by omega) h
            clear HC hc hok hdf hF
            go_wp2_with (first | (go_at_call 63; first | (refine (hb0 _).mono ?_; rintro e wx ⟨rfl, rfl⟩; clear hb0) | (refine (hb1 _).mono ?_; rintro e wx ⟨rfl, rfl⟩; clear hb1) | (refine (hb2 _).mono ?_; rintro e wx ⟨rfl, rfl⟩; clear hb2)) | fail)
            refine ⟨⟨j + 1, by go_num, by clear hwj; omega, HG.out, HN.out⟩, ?_⟩
            clear hwj
            simp [intOf]; omega
    · have hV := HA.out (fun i f h => HC.out.2 i f (by have := (List.getElem?_eq_some_iff.1 h).1; omega) h)
      have HV : Hid _ := hV
      have HG : Hid _ := HC.out.1
      have hlti : ¬ (j : Int) < (len : Int) := by omega
      clear HC hV
      go_wp2
      go_returns
      exact ⟨by rw [HV.out]; rfl, HG.out⟩
set_option maxHeartbeats 4000000 in
theorem rrightF17_any (a : Option Addr) (len cap : Nat) (l : List Fr) (w : World) (K : Frs w a len l) :
    Calls Try.prog 26 #[.slice a len cap] w fun e w' => e = .returned (.bool (rgf17 l)) ∧ w.grownBy w' none := by
  have hlb := K.len_eq
  have hle := K.le
  unfold maxLen at hle
  have HK : Hid _ := K
  have HB : Hid (∀ (i : Nat) (f : Fr), l[i]? = some f → okF17 f = false → rgf17 l = false) := fun i f h hb => rgf_not h hb
  have HA : Hid (len ≤ 65536 → (∀ (i : Nat) (f : Fr), l[i]? = some f → okF17 f = true) → rgf17 l = true) := fun h1 h => rgf_of (by omega) h
  have HA2 : Hid (65536 < len → rgf17 l = false) := fun h => rgf_len (by omega)
  generalize rgf17 l = D at *
  clear K
  go_enter Try.func26, Try.ntmps26
  go_wp2
  go_loopw [3] (fun i wr => ∃ j : Nat, i = .int .i64 j ∧ j ≤ len ∧ Hid (w.grownBy wr none ∧ ∀ (i : Nat) (f : Fr), i < j → l[i]? = some f → okF17 f = true)) (fun i _ => len - (intOf i).toNat)
  case atStart => exact ⟨0, rfl, Nat.zero_le _, World.grownBy.refl _ _, fun i f h => absurd h (Nat.not_lt_zero _)⟩
  case round =>
    obtain ⟨j, rfl, hj, HC⟩ := hrel
    by_cases hlt : j < len
    · have hlti : (j : Int) < (len : Int) := by omega
      obtain ⟨b, off, rfl, hc⟩ := (HK.out.grown HC.out.1).at_ (by omega)
      obtain ⟨F, hF⟩ : ∃ F, l[j]? = some F := ⟨_, List.getElem?_eq_getElem (by omega)⟩
      obtain ⟨x0, x1, x2⟩ := hc j F hF
      have HG : Hid (w.grownBy _ none) := grown_trans HC.out.1 (World.grownBy_alloc wr (.cells #[.int .i64 F.at_, .int .i64 F.wd, .int .i64 F.pl] 89) none)
      have hwj : IntKind.i64.wrap ((j : Int) + 1) = (j : Int) + 1 := by rw [IntKind.wrap_i64]; omega
      obtain ⟨f0, f1, f2⟩ := F
      simp only at x0 x1 x2 HG
      by_cases t0 : f0 < 0
      · have d0 : decide (f0 < 0) = true := decide_eq_true t0
        have HBad : Hid (D = false) := HB.out j _ hF (by unfold okF17 btw17; simp only []; rw [decide_eq_false (by omega : ¬ 0 ≤ f0)]; simp)
        clear HC hc hF t0
        go_wp2_with fail
        go_returns
        exact ⟨by rw [HBad.out]; rfl, HG.out⟩
      · have d0 : decide (f0 < 0) = false := decide_eq_false t0
        by_cases t1 : 8388608 < f0
        · have d1 : decide ((8388608 : Int) < f0) = true := decide_eq_true t1
          have HBad : Hid (D = false) := HB.out j _ hF (by unfold okF17 btw17; simp only []; rw [decide_eq_false (by omega : ¬ f0 ≤ 8388608)]; simp)
          clear HC hc hF t0 t1
          go_wp2_with fail
          go_returns
          exact ⟨by rw [HBad.out]; rfl, HG.out⟩
        · have d1 : decide ((8388608 : Int) < f0) = false := decide_eq_false t1
          by_cases t2 : f1 < 1
          · have d2 : decide (f1 < 1) = true := decide_eq_true t2
            have HBad : Hid (D = false) := HB.out j _ hF (by unfold okF17 btw17; simp only []; rw [decide_eq_false (by omega : ¬ 1 ≤ f1)]; simp)
            clear HC hc hF t0 t1 t2
            go_wp2_with fail
            go_returns
            exact ⟨by rw [HBad.out]; rfl, HG.out⟩
          · have d2 : decide (f1 < 1) = false := decide_eq_false t2
            by_cases t3 : 4294967295 < f1
            · have d3 : decide ((4294967295 : Int) < f1) = true := decide_eq_true t3
              have HBad : Hid (D = false) := HB.out j _ hF (by unfold okF17 btw17; simp only []; rw [decide_eq_false (by omega : ¬ f1 ≤ 4294967295)]; simp)
              clear HC hc hF t0 t1 t2 t3
              go_wp2_with fail
              go_returns
              exact ⟨by rw [HBad.out]; rfl, HG.out⟩
            · have d3 : decide ((4294967295 : Int) < f1) = false := decide_eq_false t3
              by_cases t4 : f2 < 1
              · have d4 : decide (f2 < 1) = true := decide_eq_true t4
                have HBad : Hid (D = false) := HB.out j _ hF (by unfold okF17 btw17; simp only []; rw [decide_eq_false (by omega : ¬ 1 ≤ f2)]; simp)
                clear HC hc hF t0 t1 t2 t3 t4
                go_wp2_with fail
                go_returns
                exact ⟨by rw [HBad.out]; rfl, HG.out⟩
              · have d4 : decide (f2 < 1) = false := decide_eq_false t4
                by_cases t5 : 1048576 < f2
                · have d5 : decide ((1048576 : Int) < f2) = true := decide_eq_true t5
                  have HBad : Hid (D = false) := HB.out j _ hF (by unfold okF17 btw17; simp only []; rw [decide_eq_false (by omega : ¬ f2 ≤ 1048576)]; simp)
                  clear HC hc hF t0 t1 t2 t3 t4 t5
                  go_wp2_with fail
                  go_returns
                  exact ⟨by rw [HBad.out]; rfl, HG.out⟩
                · have d5 : decide ((1048576 : Int) < f2) = false := decide_eq_false t5
                  have HN : Hid (∀ (i : Nat) (f : Fr), i < j + 1 → l[i]? = some f → okF17 f = true) := fun i f hi h => by
                    by_cases q : i = j
                    · subst q
                      rw [hF] at h
                      injection h with h
                      rw [← h]
                      unfold okF17 btw17
                      simp only []
                      rw [decide_eq_true (by omega : 0 ≤ f0), decide_eq_true (by omega : f0 ≤ 8388608), decide_eq_true (by omega : 1 ≤ f1), decide_eq_true (by omega : f1 ≤ 4294967295), decide_eq_true (by omega : 1 ≤ f2), decide_eq_true (by omega : f2 ≤ 1048576)]
                      rfl
                    · exact HC.out.2 i f (by omega) h
                  clear HC hc hF t0 t1 t2 t3 t4 t5
                  go_wp2_with fail
                  refine ⟨⟨j + 1, by go_num, by clear hwj; omega, HG.out, HN.out⟩, ?_⟩
                  clear hwj
                  simp [intOf]; omega
    · have hlti : ¬ (j : Int) < (len : Int) := by omega
      by_cases h64 : len ≤ 65536
      · have hV := HA.out h64 (fun i f h => HC.out.2 i f (by have := (List.getElem?_eq_some_iff.1 h).1; omega) h)
        have HV : Hid _ := hV
        have HG : Hid _ := HC.out.1
        have h64d : decide ((len : Int) ≤ 65536) = true := decide_eq_true (by omega)
        clear HC hV
        go_wp2
        go_returns
        exact ⟨by rw [HV.out]; rfl, HG.out⟩
      · have hV := HA2.out (by omega)
        have HV : Hid _ := hV
        have HG : Hid _ := HC.out.1
        have h64d : decide ((len : Int) ≤ 65536) = false := decide_eq_false (by omega)
        clear HC hV
        go_wp2
        go_returns
        exact ⟨by rw [HV.out]; rfl, HG.out⟩
end Go.Proofs.Ytpahnkodhonlgaa
