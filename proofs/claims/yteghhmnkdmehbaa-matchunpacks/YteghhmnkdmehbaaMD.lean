/- The program's longest: the search along a chain. -/
import Derived.Test.YteghhmnkdmehbaaMC
namespace Go.Proofs.Yteghhmnkdmehbaa
open Go.RowKit
set_option linter.unusedSimpArgs false
set_option linter.unusedVariables false

set_option maxHeartbeats 1000000 in
theorem longest_any (g gb b off len cap : Nat) (bs : List Int) (p : Nat) (W : World) (R : Row W (some ⟨b, off, none⟩) len bs) (C : Chn W g gb bs p) (hp : p + 12 ≤ len) (hl : len ≤ 1048576) (hc : len ≤ cap) (hcm : cap ≤ maxLen) :
    Calls Try.prog 29 #[.pointer (some ⟨g, 0, none⟩), .slice (some ⟨b, off, none⟩) len cap, .int .i64 p] W fun e W' => e = .returned (.tuple #[.int .i64 (lng6 bs p).1, .int .i64 (lng6 bs p).2]) ∧ ∃ m, W' = W.drewN m := by
  obtain ⟨i5, hi, hz0, hz1, hz2⟩ := info_parts Try.info5
  have hlb := R.len_eq
  unfold maxLen at hcm
  have HR : Hid _ := R
  have HC : Hid _ := C
  have HST : Hid (lon bs p 64 (las bs (slt bs p) p) 0 0 = lng6 bs p) := rfl
  generalize lng6 bs p = res at *
  clear R C
  go_enter Try.func29, Try.ntmps29
  go_wp2_with (with_reducible refine slice_here ?_; refine wpList_cut8 rfl _ _ _ 22 rfl Try.underlying22 i5 hi hz1 b off len cap p (len - 5 - p) _ _ rfl rfl rfl (by go_num) (by go_num) (by omega) ?_)
  intro o' ho'
  obtain rfl := ho' (by omega)
  clear ho'
  have R2 := HR.out.part p (len - 5 - p) (by omega)
  have hs := fun n => slot_any b (off + p) (len - 5 - p) (cap - p) _ (W.drewN n) (R2.grown (grown_drewN5 (World.grownBy.refl _ _) n)) (by omega)
  rw [slot_take p (len - 5 - p) (by omega)] at hs
  have HS : Hid _ := hs
  have c1 := HC.out.head (slt bs p) (slt_lt _ _)
  have hs8 := slt_lt bs p
  have hle := las_le bs (slt bs p) p
  have hix := index_head g (slt bs p) hs8
  have HR2 : Hid _ := R2
  clear hs R2
  go_wp2
  go_quiet (first | (go_at_call 37; exact Calls.quiet_of (HS.out _)))
  have hbf : ∀ j, j < p → (W.drewN nq).cell? ⟨gb, j, none⟩ = some (.int .i64 ((las bs (slt bs j) j : Int) - 1)) := fun j hj => (HC.out.kept (grown_drewN5 (World.grownBy.refl _ _) nq)).bef j hj (by omega)
  have hrw := (HC.out.kept (grown_drewN5 (World.grownBy.refl _ _) nq)).row
  have hxr := HR2.out.grown (grown_drewN5 (World.grownBy.refl _ _) nq)
  have hyr := fun q (h : q ≤ len) => (HR.out.part q (len - q) (by omega)).grown (grown_drewN5 (World.grownBy.refl _ _) nq)
  have e1 : (bs.drop p).take (len - 5 - p) = her bs p := by unfold her; rw [hlb]
  rw [e1] at hxr
  have e2 : ∀ q, (bs.drop q).take (len - q) = bs.drop q := by intro q; apply List.take_of_length_le; simp; omega
  simp only [e2] at hyr
  rw [hlb] at hrw
  have HB : Hid _ := And.intro hbf (And.intro hxr hyr)
  have HQ : Hid (∃ m, W.drewN nq = W.drewN m) := ⟨nq, rfl⟩
  have hlen5 : ((len - 5 - p : Nat) : Int) = len - 5 - p := by omega
  have hH : ∀ t f o n, lon bs p (t + 1) f o n = if f = 0 ∨ 65535 < p + 1 - f ∨ n = len - 5 - p then (o, n)
    else if 4 ≤ alk (her bs p) (bs.drop (f - 1)) ∧ n < alk (her bs p) (bs.drop (f - 1)) then lon bs p t (las bs (slt bs (f - 1)) (f - 1)) (p + 1 - f) (alk (her bs p) (bs.drop (f - 1)))
    else lon bs p t (las bs (slt bs (f - 1)) (f - 1)) o n := by intro t f o n; rw [lon, hlb]
  have HH : Hid _ := hH
  have hal := fun q => alk_le (her bs p) (bs.drop q)
  rw [her_len, hlb] at hal
  have HA : Hid _ := hal
  have HLE : Hid _ := hle
  clear hbf hxr hyr e1 e2 hH hal HR HR2 HC HS c1 hix hs8 hlb
  generalize W.drewN nq = w1 at *
  generalize las bs (slt bs p) p = f0 at *
  go_wp2
  go_loopw [6, 7, 9, 10, 25] (fun vo vn vf _ vi wr => w1 = wr ∧ ∃ (j t f o n : Nat), vi = .int .i64 j ∧ vo = .int .i64 o ∧ vn = .int .i64 n ∧ vf = .int .i64 ((f : Int) - 1) ∧ t + j = 64 ∧ f ≤ p ∧ Hid (lon bs p t f o n = res)) (fun _ _ _ _ vi _ => 64 - (intOf vi).toNat)
  case atStart => exact ⟨rfl, 0, 64, f0, 0, 0, rfl, rfl, rfl, by go_num, rfl, HLE.out, HST.out⟩
  case round =>
    clear HST HLE
    obtain ⟨rfl, j, t, f, o, n, rfl, rfl, rfl, rfl, ht, hf, HL⟩ := hrel
    cases t with
    | zero =>
      obtain rfl : j = 64 := by omega
      have e := HL.out
      rw [lon] at e
      subst e
      clear ht HL HB HH HA
      go_wp2
      go_ret2
      exact ⟨rfl, HQ.out⟩
    | succ t =>
      have hj : (j : Int) < 64 := by omega
      have HT : Hid (t + 1 + j = 64) := ht
      have e := HL.out
      rw [HH.out] at e
      clear ht HL HH
      by_cases k1 : f = 0
      · rw [if_pos (Or.inl k1)] at e
        subst e k1
        clear HB HA HT
        go_wp2
        go_ret2
        exact ⟨rfl, HQ.out⟩
      · obtain ⟨q, rfl⟩ : ∃ q, f = q + 1 := ⟨f - 1, by omega⟩
        have k2 : q < p := by omega
        have eq1 : ((q + 1 : Nat) : Int) - 1 = q := by omega
        rw [eq1]
        clear eq1 k1 hf
        by_cases k3 : 65535 < p - q
        · rw [if_pos (Or.inr (Or.inl (by omega)))] at e
          subst e
          have k4 : (65535 : Int) < (p : Int) - q := by omega
          clear HB HA HT k3
          go_wp2
          go_ret2
          exact ⟨rfl, HQ.out⟩
        · have k4 : decide ((65535 : Int) < (p : Int) - q) = false := decide_eq_false (by omega)
          by_cases k5 : n = len - 5 - p
          · rw [if_pos (Or.inr (Or.inr k5))] at e
            subst e
            clear HB HA HT
            have k6 : (n : Int) = ((len - 5 - p : Nat) : Int) := by omega
            clear k5
            have hq0 : decide ((q : Int) < 0) = false := decide_eq_false (by omega)
            go_wp2
            go_ret2
            exact ⟨rfl, HQ.out⟩
          · rw [if_neg (by omega)] at e
            have k6 : (n : Int) ≠ ((len - 5 - p : Nat) : Int) := by omega
            have hq0 : decide ((q : Int) < 0) = false := decide_eq_false (by omega)
            obtain ⟨hbf, hxr, hyr⟩ := HB.out
            have cb := hbf q k2
            have hq := HA.out q
            have hak := fun c2 => alike_any b (off + p) (len - 5 - p) (cap - p) b (off + q) (len - q) c2 (her bs p) (bs.drop q) w1 hxr (hyr q (by omega)) (by omega) (by omega)
            have hlq := las_le bs (slt bs q) q
            rw [Nat.add_sub_cancel] at e
            have HE : Hid _ := e
            clear hbf hxr hyr e k5
            generalize las bs (slt bs q) q = f1 at *
            generalize alk (her bs p) (bs.drop q) = k at *
            have HAK : Hid _ := hak
            clear hak
            go_wp2_with (with_reducible refine low_here ?_; refine wpList_low8 rfl _ _ 22 rfl Try.underlying22 i5 hi hz1 b off len cap q _ rfl rfl rfl (by omega) hc ?_)
            intro o' ho'
            obtain rfl := ho' (by omega)
            clear ho'
            go_wp2_with fail
            refine (HAK.out _).mono ?_
            rintro e w2 ⟨rfl, rfl⟩
            clear HAK
            by_cases c1 : 4 ≤ k
            · by_cases c2 : n < k
              · have e := HE.out
                rw [if_pos ⟨c1, c2⟩, show p + 1 - (q + 1) = p - q by omega] at e
                have HE2 : Hid _ := e
                have d1 : (4 : Int) ≤ (k : Int) := by omega
                have d2 : (n : Int) < (k : Int) := by omega
                clear e HE
                go_wp2
                go_roundw
                case rel => exact ⟨by trivial, j + 1, t, f1, p - q, k, by go_num, by go_num, by go_num, by go_num, by have := HT.out; omega, by omega, HE2⟩
                case measure => simp [intOf]; omega
              · have e := HE.out
                rw [if_neg (by omega)] at e
                have HE2 : Hid _ := e
                have d1 : (4 : Int) ≤ (k : Int) := by omega
                have d2 : decide ((n : Int) < (k : Int)) = false := decide_eq_false (by omega)
                clear e HE
                go_wp2
                go_roundw
                case rel => exact ⟨by trivial, j + 1, t, f1, o, n, by go_num, by go_num, by go_num, by go_num, by have := HT.out; omega, by omega, HE2⟩
                case measure => simp [intOf]; omega
            · have e := HE.out
              rw [if_neg (by omega)] at e
              have HE2 : Hid _ := e
              have d1 : decide ((4 : Int) ≤ (k : Int)) = false := decide_eq_false (by omega)
              clear e HE
              go_wp2
              go_roundw
              case rel => exact ⟨by trivial, j + 1, t, f1, o, n, by go_num, by go_num, by go_num, by go_num, by have := HT.out; omega, by omega, HE2⟩
              case measure => simp [intOf]; omega
end Go.Proofs.Yteghhmnkdmehbaa
