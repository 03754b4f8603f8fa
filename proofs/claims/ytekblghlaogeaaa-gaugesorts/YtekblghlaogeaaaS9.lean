/- Contracts of the library's merge, of its stable sort, and of Sorted. -/
import Derived.Test.YtekblghlaogeaaaS7
import Derived.Test.YtekblghlaogeaaaS8
namespace Go.Proofs.Ytekblghlaogeaaa
open Go.RowKit
set_option linter.unusedSimpArgs false
set_option linter.unusedVariables false

theorem symMerge_k (k : Nat) : ∀ (g N cap a m b : Nat) (xs : List Nat) (w0 w : World), FB w0 w g xs → Bd xs → xs.length = N → N ≤ 1000 → a < m → m < b → b ≤ N → b - a ≤ k → Srt a m xs → Srt m b xs →
    Calls Try.prog 43 #[.slice (some ⟨g, 0, none⟩) N cap, .int .i64 a, .int .i64 m, .int .i64 b, .func (.func 39) #[] #[]] w fun e w' => e = .returned (.tuple #[]) ∧ ∃ ys, FB w0 w' g ys ∧ Mv a b xs ys ∧ Srt a b ys := by
  induction k using Nat.strongRecOn with
  | ind k ih =>
    intro g N cap a m b xs w0 w F hB hl hN h1 h2 h3 hk h1s h2s
    by_cases c1 : m = a + 1
    · subst c1
      exact mergeL_any g N cap a b xs w0 w F hB hl hN (by omega) h3 h2s
    · by_cases c2 : b = m + 1
      · subst c2
        exact mergeR_any g N cap a m xs w0 w F hB hl hN (by omega) h3 h1s
      · by_cases c3 : (a + b) / 2 < m
        · exact merge_gt k g N cap a m b ((a + b) / 2) ((a + b) / 2 + m - 1) xs w0 w ih F hB hl hN h1 h2 h3 hk h1s h2s (by omega) (by omega) rfl rfl c3
        · exact merge_le k g N cap a m b ((a + b) / 2) ((a + b) / 2 + m - 1) xs w0 w ih F hB hl hN h1 h2 h3 hk h1s h2s (by omega) (by omega) rfl rfl (by omega)
theorem symMerge_any (g N cap a m b : Nat) (xs : List Nat) (w0 w : World) (F : FB w0 w g xs) (hB : Bd xs) (hl : xs.length = N) (hN : N ≤ 1000) (h1 : a < m) (h2 : m < b) (h3 : b ≤ N) (h1s : Srt a m xs) (h2s : Srt m b xs) :
    Calls Try.prog 43 #[.slice (some ⟨g, 0, none⟩) N cap, .int .i64 a, .int .i64 m, .int .i64 b, .func (.func 39) #[] #[]] w fun e w' => e = .returned (.tuple #[]) ∧ ∃ ys, FB w0 w' g ys ∧ Mv a b xs ys ∧ Srt a b ys :=
  symMerge_k (b - a) g N cap a m b xs w0 w F hB hl hN h1 h2 h3 (Nat.le_refl _) h1s h2s

/-- sorted within each block of B, as far as N -/
def Blks (B N : Nat) (xs : List Nat) : Prop := ∀ i j, i ≤ j → j < N → i / B = j / B → kt xs i ≤ kt xs j
/-- .. within blocks of 2B below a, of B from a on -/
structure Half (B a N : Nat) (xs : List Nat) : Prop where
  low : ∀ i j, i ≤ j → j < a → i / (2 * B) = j / (2 * B) → kt xs i ≤ kt xs j
  high : ∀ i j, a ≤ i → i ≤ j → j < N → i / B = j / B → kt xs i ≤ kt xs j
theorem Half.start {B N : Nat} {xs : List Nat} (h : Blks B N xs) : Half B 0 N xs :=
  ⟨fun i j _ hj => by omega, fun i j _ h1 h2 h3 => h i j h1 h2 h3⟩
theorem div_at {B q i : Nat} (hB : 0 < B) (h1 : q * B ≤ i) (h2 : i < q * B + B) : i / B = q := by
  rw [Nat.div_eq_iff hB]
  constructor
  · rw [Nat.mul_comm] at h1; rw [Nat.mul_comm]; omega
  · rw [Nat.mul_comm] at h2; rw [Nat.mul_comm]; omega
theorem ge_of_div {B q i : Nat} (hB : 0 < B) (h : i / B = q) : q * B ≤ i := by
  have := (Nat.div_eq_iff hB).1 h
  rw [Nat.mul_comm]; rw [Nat.mul_comm] at this; omega
theorem Blks.srt {B N q hi : Nat} {xs : List Nat} (h : Blks B N xs) (hB : 0 < B) (h1 : hi ≤ q * B + B) (h2 : hi ≤ N) : Srt (q * B) hi xs := by
  intro i j i1 i2 i3
  exact h i j i2 (by omega) (by rw [div_at (q := q) hB i1 (by omega), div_at (q := q) hB (by omega) (by omega)])
theorem Half.srt {B a N lo hi : Nat} {xs : List Nat} (h : Half B a N xs) (q : Nat) (hB : 0 < B) (ha : a ≤ lo) (hlo : lo = q * B) (h1 : hi ≤ lo + B) (h2 : hi ≤ N) : Srt lo hi xs := by
  subst hlo
  intro i j i1 i2 i3
  exact h.high i j (by omega) i2 (by omega) (by rw [div_at (q := q) hB i1 (by omega), div_at (q := q) hB (by omega) (by omega)])
theorem Half.step {B a N q : Nat} {xs ys : List Nat} (h : Half B a N xs) (hB : 0 < B) (ha : a = q * (2 * B)) (M : Mv a (a + 2 * B) xs ys) (hS : Srt a (a + 2 * B) ys) : Half B (a + 2 * B) N ys := by
  constructor
  · intro i j h1 h2 h3
    by_cases c : j < a
    · rw [kt_of (M.out i (by omega)), kt_of (M.out j (by omega))]; exact h.low i j h1 c h3
    · have hq : j / (2 * B) = q := div_at (by omega) (by omega) (by omega)
      have := ge_of_div (by omega) (h3.trans hq)
      exact hS i j (by omega) h1 (by omega)
  · intro i j h1 h2 h3 h4
    rw [kt_of (M.out i (by omega)), kt_of (M.out j (by omega))]; exact h.high i j (by omega) h2 h3 h4
theorem Half.done {B a N q : Nat} {xs ys : List Nat} (h : Half B a N xs) (hB : 0 < B) (ha : a = q * (2 * B)) (hN : N < a + 2 * B) (M : Mv a N xs ys) (hS : Srt a N ys) : Blks (2 * B) N ys := by
  intro i j h1 h2 h3
  by_cases c : j < a
  · rw [kt_of (M.out i (by omega)), kt_of (M.out j (by omega))]; exact h.low i j h1 c h3
  · have hq : j / (2 * B) = q := div_at (by omega) (by omega) (by omega)
    have := ge_of_div (by omega) (h3.trans hq)
    exact hS i j (by omega) h1 h2
theorem Blks.all {B N : Nat} {xs : List Nat} (h : Blks B N xs) (hB : N ≤ B) : Srt 0 N xs := by
  intro i j _ h1 h2
  exact h i j h1 h2 (by rw [Nat.div_eq_of_lt (by omega), Nat.div_eq_of_lt (by omega)])
theorem q2 {q B a : Nat} (h : a = q * (2 * B)) : a = (2 * q) * B ∧ a + B = (2 * q + 1) * B ∧ a + 2 * B = (q + 1) * (2 * B) := by
  have e : q * (2 * B) = 2 * q * B := by rw [← Nat.mul_assoc, Nat.mul_comm q 2]
  refine ⟨by rw [h, e], ?_, ?_⟩
  · rw [h, e, Nat.add_mul, Nat.one_mul]
  · rw [h, Nat.add_mul, Nat.one_mul]
/-- the first pass: blocks of 20 below a -/
def Pre (a : Nat) (xs : List Nat) : Prop := ∀ i j, i ≤ j → j < a → i / 20 = j / 20 → kt xs i ≤ kt xs j
theorem Pre.step {a b q : Nat} {xs ys : List Nat} (h : Pre a xs) (ha : a = q * 20) (hb : b ≤ a + 20) (hab : a ≤ b) (M : Mv a b xs ys) (hS : Srt a b ys) : Pre b ys := by
  intro i j h1 h2 h3
  by_cases c : j < a
  · rw [kt_of (M.out i (by omega)), kt_of (M.out j (by omega))]; exact h i j h1 c h3
  · exact hS i j (by omega) h1 h2

set_option maxHeartbeats 4000000 in
theorem stable_any (g N cap : Nat) (xs : List Nat) (w0 w : World) (F : FB w0 w g xs) (hB : Bd xs) (hl : xs.length = N) (hN : N ≤ 1000) :
    Calls Try.prog 41 #[.slice (some ⟨g, 0, none⟩) N cap, .int .i64 N, .func (.func 39) #[] #[]] w fun e w' => e = .returned (.tuple #[]) ∧ ∃ ys, FB w0 w' g ys ∧ Mv 0 N xs ys ∧ Srt 0 N ys := by
  go_enter Try.func41, Try.ntmps41
  go_wp2
  go_loopw [7, 8] (fun va vb wr => ∃ (a b q : Nat) (ys : List Nat), va = .int .i64 a ∧ vb = .int .i64 b ∧ b = a + 20 ∧ a ≤ N ∧ FB w0 wr g ys ∧ Hid (a = q * 20 ∧ Mv 0 N xs ys ∧ Pre a ys)) (fun va _ _ => N - (intOf va).toNat)
  case atStart => exact ⟨0, 20, 0, xs, rfl, rfl, rfl, Nat.zero_le _, F, rfl, Mv.refl _ _ _, fun i j _ hj => by omega⟩
  case round =>
    clear F
    obtain ⟨a, b, q, ys, rfl, rfl, rfl, ha, FY, H⟩ := hrel
    have hly : ys.length = N := by rw [H.out.2.1.len, hl]
    have hBy := H.out.2.1.bd hB
    by_cases hlt : a + 20 ≤ N
    · have hc := insertion_any g N cap a (a + 20) ys w0 wr FY hBy hly hN (by omega) hlt
      clear FY
      go_wp2_with fail
      refine hc.mono ?_
      rintro _ w2 ⟨rfl, zs, FZ, M, S⟩
      have H2 : Hid (a + 20 = (q + 1) * 20 ∧ Mv 0 N xs zs ∧ Pre (a + 20) zs) := ⟨by have := H.out.1; omega, H.out.2.1.trans (M.widen (Nat.zero_le _) hlt), H.out.2.2.step H.out.1 (Nat.le_refl _) (by omega) M S⟩
      clear hc H M S
      go_wp2
      go_roundw
      case rel => exact ⟨a + 20, a + 40, q + 1, zs, by go_num, by go_num, by omega, hlt, FZ, H2⟩
      case measure => simp [intOf]; omega
    · have hc := insertion_any g N cap a N ys w0 wr FY hBy hly hN ha (Nat.le_refl _)
      clear FY
      go_wp2_with fail
      refine hc.mono ?_
      rintro _ w2 ⟨rfl, zs, FZ, M, S⟩
      have H2 : Hid (Mv 0 N xs zs ∧ Blks 20 N zs) := ⟨H.out.2.1.trans (M.widen (Nat.zero_le _) (Nat.le_refl _)), H.out.2.2.step H.out.1 (by omega) ha M S⟩
      clear hc H M S
      go_wp2_with fail
      go_loopw [6, 7, 8, 9] (fun vB _ _ _ wr => ∃ (B : Nat) (ys : List Nat), vB = .int .i64 B ∧ 0 < B ∧ B ≤ 2000 ∧ FB w0 wr g ys ∧ Hid (Mv 0 N xs ys ∧ Blks B N ys)) (fun vB _ _ _ _ => N - (intOf vB).toNat)
      case atStart => exact ⟨20, zs, rfl, by decide, by decide, FZ, H2⟩
      case round =>
        clear FZ H2 hBy hly ha hlt
        obtain ⟨B, ys, rfl, hB0, hB1, FY, H⟩ := hrel
        by_cases hlt : B < N
        · go_wp2
          go_loopw [7, 8] (fun va vb wr => ∃ (a q : Nat) (zs : List Nat), va = .int .i64 a ∧ vb = .int .i64 (a + 2 * B : Nat) ∧ a ≤ N ∧ FB w0 wr g zs ∧ Hid (a = q * (2 * B) ∧ Mv 0 N xs zs ∧ Half B a N zs)) (fun va _ _ => N - (intOf va).toNat)
          case atStart => exact ⟨0, 0, ys, rfl, by go_num, Nat.zero_le _, FY, by simp, H.out.1, Half.start H.out.2⟩
          case round =>
            clear FY H
            obtain ⟨a, q, zs, rfl, rfl, ha, FZ, H⟩ := hrel
            have hlz : zs.length = N := by rw [H.out.2.1.len, hl]
            have hBz := H.out.2.1.bd hB
            by_cases hb : a + 2 * B ≤ N
            · have hc := symMerge_any g N cap a (a + B) (a + 2 * B) zs w0 wr FZ hBz hlz hN (by omega) (by omega) hb (H.out.2.2.srt (2 * q) hB0 (Nat.le_refl _) (q2 H.out.1).1 (Nat.le_refl _) (by omega)) (H.out.2.2.srt (2 * q + 1) hB0 (by omega) (q2 H.out.1).2.1 (by omega) hb)
              clear FZ
              rw [show ((a + B : Nat) : Int) = (a : Int) + B by omega, show ((a + 2 * B : Nat) : Int) = (a : Int) + 2 * B by omega] at hc
              go_wp2_with fail
              refine hc.mono ?_
              rintro _ w2 ⟨rfl, us, FU, M, S⟩
              have H2 : Hid (a + 2 * B = (q + 1) * (2 * B) ∧ Mv 0 N xs us ∧ Half B (a + 2 * B) N us) := ⟨(q2 H.out.1).2.2, H.out.2.1.trans (M.widen (Nat.zero_le _) hb), H.out.2.2.step hB0 H.out.1 M S⟩
              clear hc H M S
              go_wp2
              go_roundw
              case rel => exact ⟨a + 2 * B, q + 1, us, by go_num, by go_num, hb, FU, H2⟩
              case measure => simp [intOf]; omega
            · by_cases hm : a + B < N
              · have hc := symMerge_any g N cap a (a + B) N zs w0 wr FZ hBz hlz hN (by omega) hm (Nat.le_refl _) (H.out.2.2.srt (2 * q) hB0 (Nat.le_refl _) (q2 H.out.1).1 (Nat.le_refl _) (by omega)) (H.out.2.2.srt (2 * q + 1) hB0 (by omega) (q2 H.out.1).2.1 (by omega) (Nat.le_refl _))
                clear FZ
                rw [show ((a + B : Nat) : Int) = (a : Int) + B by omega] at hc
                go_wp2_with fail
                refine hc.mono ?_
                rintro _ w2 ⟨rfl, us, FU, M, S⟩
                have H2 : Hid (Mv 0 N xs us ∧ Blks (2 * B) N us) := ⟨H.out.2.1.trans (M.widen (Nat.zero_le _) (Nat.le_refl _)), H.out.2.2.done hB0 H.out.1 (by omega) M S⟩
                clear hc H M S
                go_wp2
                go_roundw
                case rel => exact ⟨2 * B, us, by go_num, by omega, by omega, FU, H2⟩
                case measure => simp [intOf]; omega
              · have H2 : Hid (Mv 0 N xs zs ∧ Blks (2 * B) N zs) := ⟨H.out.2.1, H.out.2.2.done hB0 H.out.1 (by omega) (Mv.refl _ _ _) (H.out.2.2.srt (2 * q) hB0 (Nat.le_refl _) (q2 H.out.1).1 (by omega) (Nat.le_refl _))⟩
                clear H
                go_wp2
                go_roundw
                case rel => exact ⟨2 * B, zs, by go_num, by omega, by omega, FZ, H2⟩
                case measure => simp [intOf]; omega
        · have hfin := H.out.2.all (by omega)
          have hmv := H.out.1
          clear H
          go_wp2
          go_end0
          exact ⟨rfl, ys, FY, hmv, hfin⟩
end Go.Proofs.Ytekblghlaogeaaa
