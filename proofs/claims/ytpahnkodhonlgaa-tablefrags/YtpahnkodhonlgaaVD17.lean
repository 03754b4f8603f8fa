/- DecodeIds, the program's and the document's. -/
import Derived.Test.YtpahnkodhonlgaaVC17
import Derived.Test.YtpahnkodhonlgaaUF17
namespace Go.Proofs.Ytpahnkodhonlgaa
open Go.RowKit
set_option maxRecDepth 100000
set_option linter.unusedSimpArgs false
set_option linter.unusedVariables false
/-- what bytes tell as ids -/
def dcI17 (bs : List Int) : List Int × Int := if bs.length % 4 = 0 ∧ rgi17 (rdw17 bs 0 (bs.length / 4)) = true then (rdw17 bs 0 (bs.length / 4), 0) else ([], 6)
def IdPost (w : World) (r : List Int × Int) (e : Ending) (w' : World) : Prop := ∃ a c, e = .returned (.tuple #[.slice a r.1.length c, .int .i64 r.2]) ∧ IRow w' a r.1.length r.1 ∧ w.grownBy w' none
theorem idpost_none {w w' : World} (h : w.grownBy w' none) : IdPost w ([], 6) (.returned (.tuple #[.slice none 0 0, .int .i64 6])) w' := ⟨none, 0, rfl, ⟨rfl, Nat.zero_le _, (fun x hx => (by cases hx)), fun h => absurd h (Nat.lt_irrefl 0)⟩, h⟩
theorem rdw_wide {bs : List Int} (hb : Byt bs) (at_ n : Nat) : ∀ x ∈ rdw17 bs at_ n, 0 ≤ x ∧ x < 4294967296 := fun x hx => by
  unfold rdw17 at hx
  obtain ⟨i, _, rfl⟩ := List.mem_map.1 hx
  have hby : Byt ((bs.drop (at_ + 4 * i)).take 4) := (hb.drop _).take _
  have := le_lt_of hby 4 (by rw [List.length_take]; omega)
  exact ⟨le_nonneg hby, by omega⟩
theorem irow_bx17 {W : World} {g n : Nat} {xs : List Int} (h : Bx W g 3 (xs.map (Value.int .i64))) (hl : xs.length = n) (hn : n ≤ maxLen) (hb : ∀ x ∈ xs, in64 x) : IRow W (some ⟨g, 0, none⟩) n xs := by
  refine ⟨hl, hn, hb, fun _ => ⟨g, 0, rfl, fun i hi => ?_⟩⟩
  rw [h.c, Nat.zero_add, List.getElem?_map, List.getElem?_eq_getElem (by omega), List.getD_eq_getElem?_getD, List.getElem?_eq_getElem (by omega)]
  rfl
theorem rows17_any (a : Option Addr) (len cap s : Nat) (w : World) (hs : s = 4 ∨ s = 12) (hl : len ≤ 100000000) :
    Calls Try.prog 38 #[.slice a len cap, .int .i64 s] w fun e w' => e = .returned (.tuple #[.int .i64 ((len / s : Nat) : Int), .bool (decide (len % s = 0) && decide (len / s ≤ 65536))]) ∧ w = w' := by
  have e1 : decide (((len % s : Nat) : Int) = 0) = decide (len % s = 0) := by
    by_cases h : len % s = 0
    · rw [decide_eq_true h, decide_eq_true (by omega)]
    · rw [decide_eq_false h, decide_eq_false (by omega)]
  rcases hs with rfl | rfl
  · go_enter Try.func38, Try.ntmps38
    by_cases h1 : len % 4 = 0
    · have h1b : ((len : Int) % 4 == 0) = true := by rw [beq_iff_eq]; omega
      by_cases h2 : len / 4 ≤ 65536
      · have h2d : decide ((len : Int) / 4 ≤ 65536) = true := decide_eq_true (by omega)
        go_wp2
        go_returns
        exact ⟨by simp [h1, h2], rfl⟩
      · have h2d : decide ((len : Int) / 4 ≤ 65536) = false := decide_eq_false (by omega)
        go_wp2
        go_returns
        exact ⟨by simp [h1, h2], rfl⟩
    · have h1b : ((len : Int) % 4 == 0) = false := by rw [beq_eq_false_iff_ne]; omega
      go_wp2
      go_returns
      exact ⟨by simp [h1], rfl⟩
  · go_enter Try.func38, Try.ntmps38
    by_cases h1 : len % 12 = 0
    · have h1b : ((len : Int) % 12 == 0) = true := by rw [beq_iff_eq]; omega
      by_cases h2 : len / 12 ≤ 65536
      · have h2d : decide ((len : Int) / 12 ≤ 65536) = true := decide_eq_true (by omega)
        go_wp2
        go_returns
        exact ⟨by simp [h1, h2], rfl⟩
      · have h2d : decide ((len : Int) / 12 ≤ 65536) = false := decide_eq_false (by omega)
        go_wp2
        go_returns
        exact ⟨by simp [h1, h2], rfl⟩
    · have h1b : ((len : Int) % 12 == 0) = false := by rw [beq_eq_false_iff_ne]; omega
      go_wp2
      go_returns
      exact ⟨by simp [h1], rfl⟩
set_option maxHeartbeats 4000000 in
theorem pdecodeI17_any (a : Option Addr) (len cap : Nat) (bs : List Int) (w : World) (R : Row w a len bs) (hl : len ≤ 100000) :
    Calls Try.prog 16 #[.slice a len cap] w (IdPost w (dcI17 bs)) := by
  have hlb := R.len_eq
  have hro := rows17_any a len cap 4 w (Or.inl rfl) (by omega)
  obtain ⟨A, hA⟩ : ∃ A, dcI17 bs = A := ⟨_, rfl⟩
  rw [hA]
  unfold dcI17 at hA
  rw [hlb] at hA
  have HA : Hid _ := hA
  have HR : Hid _ := R
  have hwd := rdw_wide R.byt 0 (len / 4)
  have HW : Hid (∀ x ∈ rdw17 bs 0 (len / 4), in64 x) := fun x hx => by have := hwd x hx; unfold in64; omega
  clear R hA hwd
  by_cases h1 : len % 4 = 0
  · rw [decide_eq_true h1, decide_eq_true (by omega : len / 4 ≤ 65536)] at hro
    have hab : ∀ b off, a = some ⟨b, off, none⟩ → 0 < len → b ≠ w.heap.size := fun b off e h0 => by
      obtain ⟨b2, o2, e2, hc⟩ := HR.out.cells h0
      rw [e] at e2
      injection e2 with e2
      injection e2 with e3 e4
      subst e3
      have h5 : b < w.heap.size := cell_lt (hc 0 h0)
      omega
    have B0 := Bx.new w 78 (rdc17 a len cap 0 false)
    have g0 := World.grownBy_alloc w (.cells (rdc17 a len cap 0 false).toArray 78) none
    have hL := plistI17_any w.heap.size a len cap (len / 4) bs _ B0 (HR.out.grown g0) hab (by omega) (by omega)
    have HG0 : Hid _ := g0
    clear B0 g0 hab
    go_enter Try.func16, Try.ntmps16
    go_wp2_with (go_at_call 38; refine hro.mono ?_; rintro e w' ⟨rfl, rfl⟩)
    refine hL.mono ?_
    rintro e w2 ⟨g, rfl, bx, hg, g2⟩
    have hrow := irow_bx17 bx (rdw17_len bs 0 (len / 4)) (by unfold maxLen; omega) HW.out
    have hpr := prightI17_any (some ⟨g, 0, none⟩) (len / 4) (len / 4) _ w2 hrow
    have HG2 : Hid (w.grownBy w2 none) := grown_new HG0.out g2 (Nat.le_refl _)
    have HRW : Hid _ := hrow
    clear hL bx g2 hro hrow
    cases hr : rgi17 (rdw17 bs 0 (len / 4)) with
    | true =>
      rw [hr] at hpr
      go_wp2_with (go_at_call 34; refine hpr.mono ?_; rintro e w3 ⟨rfl, g3⟩)
      go_returns
      have e := HA.out
      rw [if_pos ⟨h1, hr⟩] at e
      rw [← e]
      refine ⟨some ⟨g, 0, none⟩, len / 4, by simp only [rdw17_len]; rfl, ?_, grown_trans HG2.out g3⟩
      have h := HRW.out.grown g3
      simp only [rdw17_len]
      exact h
    | false =>
      rw [hr] at hpr
      go_wp2_with (go_at_call 34; refine hpr.mono ?_; rintro e w3 ⟨rfl, g3⟩)
      go_returns
      have e := HA.out
      rw [if_neg (fun h => by rw [hr] at h; cases h.2)] at e
      rw [← e]
      exact idpost_none (grown_trans HG2.out g3)
  · rw [decide_eq_false h1] at hro
    go_enter Try.func16, Try.ntmps16
    go_wp2_with (go_at_call 38; refine hro.mono ?_; rintro e w' ⟨rfl, rfl⟩)
    go_returns
    have e := HA.out
    rw [if_neg (fun h => h1 h.1)] at e
    rw [← e]
    exact idpost_none (World.grownBy.refl _ _)
set_option maxHeartbeats 4000000 in
theorem rdecodeI17_any (a : Option Addr) (len cap : Nat) (bs : List Int) (w : World) (R : Row w a len bs) (hl : len ≤ 100000) :
    Calls Try.prog 18 #[.slice a len cap] w (IdPost w (dcI17 bs)) := by
  have hlb := R.len_eq
  obtain ⟨A, hA⟩ : ∃ A, dcI17 bs = A := ⟨_, rfl⟩
  rw [hA]
  unfold dcI17 at hA
  rw [hlb] at hA
  have HA : Hid _ := hA
  have HR : Hid _ := R
  have hwd := fun n => rdw_wide R.byt 0 n
  have HW : Hid (∀ n, ∀ x ∈ rdw17 bs 0 n, in64 x) := fun n x hx => by have := hwd n x hx; unfold in64; omega
  have HWD : Hid _ := hwd
  obtain ⟨i5, hi, hz0, hz1, hz2⟩ := info_parts Try.infoI17
  clear R hA hwd
  go_enter Try.func18, Try.ntmps18
  go_wp2
  go_loopw [4, 5] (fun v i wr => ∃ j q : Nat, i = .int .i64 (q : Int) ∧ q = 4 * j ∧ q ≤ len ∧ Hid (wr.ownsRow w.heap.size 3 1 v j ((rdw17 bs 0 j).map (Value.int .i64)) ∧ w.grownBy wr none)) (fun _ i _ => len - (intOf i).toNat)
  case atStart => exact ⟨0, 0, rfl, rfl, Nat.zero_le _, World.ownsRow_nil _ _ _ _, World.grownBy.refl _ _⟩
  case round =>
    obtain ⟨j, q, rfl, h4j, hj, HS⟩ := hrel
    have hw4 : IntKind.i64.wrap ((q : Int) + 4) = (q : Int) + 4 := by rw [IntKind.wrap_i64]; omega
    by_cases hlt : q + 4 ≤ len
    · have hji : (q : Int) + 4 ≤ (len : Int) := by omega
      have hLd : Calls Try.prog 43 #[.slice a len cap, .int .i64 (q : Int), .int .i64 4] wr fun e w' => e = .returned (.int .u64 (le ((bs.drop q).take 4))) ∧ wr = w' := load_row a len cap bs q 4 wr (HR.out.grown HS.out.2) (by decide) (by decide) hlt
      have hSC : rdw17 bs 0 (j + 1) = rdw17 bs 0 j ++ [le ((bs.drop q).take 4)] := by rw [rdw17_succ, Nat.zero_add, h4j]
      have HSC : Hid _ := hSC
      obtain ⟨hx0, hx1⟩ := HWD.out (j + 1) (le ((bs.drop q).take 4)) (by rw [hSC]; simp)
      clear hSC
      generalize le ((bs.drop q).take 4) = X at *
      have H4 : Hid _ := h4j
      have hjb : j ≤ 100000 := by omega
      clear h4j
      have hwx : IntKind.i64.wrap X = X := by rw [IntKind.wrap_i64]; omega
      have hgr := HS.out.2
      have how := HS.out.1
      go_wp2_with fail
      refine hLd.mono ?_
      rintro e w1 ⟨rfl, rfl⟩
      clear hLd
      go_wp2_with (at_builtin; refine wpList_append_own _ rfl _ _ 22 rfl w.heap.size 3 i5 _ 1 8 Try.underlying22 hi hz0 hz1 hz2 rfl (by decide) _ j _ rfl (how.alloc _) ⟨wr.heap.size, 0, none⟩ 1 1 [.int .i64 X] rfl rfl (cell_int_new wr X) (by simp [Value.oneCell']) (by unfold maxLen; omega) (by omega) (by have := hgr.size; simp; omega) ?_; intro u9 W9 o9 g9 _)
      have o10 : W9.ownsRow w.heap.size 3 1 u9 (j + 1) ((rdw17 bs 0 (j + 1)).map (Value.int .i64)) := by
        rw [HSC.out, List.map_append]
        exact o9
      have hgA := grown_trans hgr (World.grownBy_alloc wr (.cells #[.int .i64 X] 3) none)
      have hg9 : w.grownBy W9 none := ⟨g9.os.trans hgA.os, g9.tape.trans hgA.tape, g9.output.trans hgA.output, Nat.le_trans hgA.size g9.size, fun k hk _ => by
        rw [g9.block k (Nat.lt_of_lt_of_le hk hgA.size) (fun e => by have := (how.lt k e.symm).1; omega)]
        exact hgA.block k hk (by simp)⟩
      clear o9 g9
      have h4j := H4.out
      refine ⟨⟨j + 1, q + 4, by go_num, by clear hw4; omega, by clear hw4; omega, o10, hg9⟩, ?_⟩
      clear hw4
      simp [intOf]; omega
    · have hji : ¬ (q : Int) + 4 ≤ (len : Int) := by omega
      obtain ⟨b9, c9, rfl, R9, _, _⟩ := own_ints17 HS.out.1 (HW.out j) (by unfold maxLen; omega)
      have HG : Hid _ := HS.out.2
      have hjq : j = len / 4 := by omega
      have hrr := rrightI17_any b9 j c9 _ wr R9
      have HJ : Hid _ := And.intro hjq h4j
      clear hjq h4j
      have HR9 : Hid _ := R9
      clear HS R9
      by_cases h1 : len % 4 = 0
      · have h1b : ((len : Int) % 4 != 0) = false := by simp; omega
        cases hr : rgi17 (rdw17 bs 0 j) with
        | true =>
          rw [hr] at hrr
          go_wp2_with (go_at_call 14; refine hrr.mono ?_; rintro e w3 ⟨rfl, g3⟩)
          go_returns
          have e := HA.out
          rw [← HJ.out.1, if_pos ⟨h1, hr⟩] at e
          rw [← e]
          refine ⟨b9, c9, by simp only [rdw17_len]; rfl, ?_, grown_trans HG.out g3⟩
          have h := HR9.out.grown g3
          simp only [rdw17_len]
          exact h
        | false =>
          rw [hr] at hrr
          go_wp2_with (go_at_call 14; refine hrr.mono ?_; rintro e w3 ⟨rfl, g3⟩)
          go_returns
          have e := HA.out
          rw [← HJ.out.1, if_neg (fun h => by rw [hr] at h; cases h.2)] at e
          rw [← e]
          exact idpost_none (grown_trans HG.out g3)
      · have h1b : ((len : Int) % 4 != 0) = true := by simp; omega
        go_wp2
        go_returns
        have e := HA.out
        rw [if_neg (fun h => h1 h.1)] at e
        rw [← e]
        exact idpost_none HG.out
end Go.Proofs.Ytpahnkodhonlgaa
