/- The walk of SuperDecodes. -/
import Derived.Test.YtaedcblphcfkfaaJH
import Derived.Test.YtaedcblphcfkfaaJG
namespace Go.Proofs.Ytaedcblphcfkfaa
open Go.RowKit
set_option linter.unusedSimpArgs false
set_option linter.unusedVariables false

structure Byte13 (w : World) (a : Option Addr) (n c : Nat) (xs : List Int) : Prop where
  row : Row w a n xs
  nil : a = none → c = 0
  nc : n ≤ c
  cm : c ≤ maxLen
theorem IsRow.byte13 {w : World} {a : Option Addr} {len cap : Nat} {zs : List Int} (h : IsRow .u8 w a len cap zs) : Byte13 w a len cap (zs.take len) := by
  refine ⟨h.row, h.nilcap, ?_, ?_⟩
  · rcases h with ⟨rfl, rfl, rfl, rfl⟩ | ⟨x, rfl, hl, hm, _⟩
    · exact Nat.le_refl _
    · exact hl
  · rcases h with ⟨rfl, rfl, rfl, rfl⟩ | ⟨x, rfl, hl, hm, _⟩
    · exact Nat.zero_le _
    · exact hm
set_option maxHeartbeats 2000000 in
theorem superDecodes_walk (a : Option Addr) (len cap : Nat) (zs : List Int) (w : World) (hz : IsRow .u8 w a len cap zs) :
    Calls Try.prog 4 #[.slice a len cap] w fun e w' => e = .returned (.bool true) ∧ Below w.heap.size w w' := by
  have B := hz.byte13
  generalize zs.take len = bs at B
  clear hz
  have hcm : cap ≤ 9223372036854775807 := B.cm
  have hnc := B.nc
  have HL : Hid (∀ W : World, Calls Try.prog 7 #[] W fun e w' => e = .returned (.bool true) ∧ W.grownBy w' none) := fun W => live13_any W
  by_cases hl : 500 < len
  · go_enter Try.func4, Try.ntmps4
    go_wp2_with fail
    refine (HL.out _).mono ?_
    rintro e w1 ⟨rfl, g1⟩
    have H1 : Hid _ := g1
    clear g1
    go_wp2
    go_ret
    exact ⟨rfl, grown_below H1.out⟩
  · have h1 := pdecode13 a len cap bs w B.row B.nc B.cm
    have HE : Hid (∀ W, w.grownBy W none → _) := fun W g => rdecode13 a len cap bs W (B.row.grown g) B.nc B.cm
    obtain ⟨ok1, ok2⟩ := sde_ok B.row.byt
    generalize sde bs = X at *
    obtain ⟨s, e⟩ := X
    have heq := fun W => sup_eql s W ok1
    clear B ok1
    obtain ⟨lg, no, ln, a0, z0, a1, z1, a2, z2, a3, z3, a4, z4, a5, z5⟩ := s
    simp only [Sp.val] at *
    unfold in64 at ok2
    go_enter Try.func4, Try.ntmps4
    go_wp2_with fail
    refine h1.mono ?_
    rintro e w1 ⟨rfl, g1⟩
    have A1 := World.grownBy_alloc w1 (.cells #[.int .i64 lg, .int .i64 no, .int .i64 ln, .int .i64 a0, .int .i64 z0, .int .i64 a1, .int .i64 z1, .int .i64 a2, .int .i64 z2, .int .i64 a3, .int .i64 z3, .int .i64 a4, .int .i64 z4, .int .i64 a5, .int .i64 z5] 26) none
    have k2 := HE.out _ (grown_trans g1 A1)
    have H1 : Hid _ := And.intro (Bx.new w1 26 [.int .i64 lg, .int .i64 no, .int .i64 ln, .int .i64 a0, .int .i64 z0, .int .i64 a1, .int .i64 z1, .int .i64 a2, .int .i64 z2, .int .i64 a3, .int .i64 z3, .int .i64 a4, .int .i64 z4, .int .i64 a5, .int .i64 z5]) (grown_trans g1 A1)
    clear A1 g1 h1
    simp only
    go_wp2_with fail
    refine k2.mono ?_
    rintro e w2 ⟨rfl, g2⟩
    have A2 := World.grownBy_alloc w2 (.cells #[.int .i64 lg, .int .i64 no, .int .i64 ln, .int .i64 a0, .int .i64 z0, .int .i64 a1, .int .i64 z1, .int .i64 a2, .int .i64 z2, .int .i64 a3, .int .i64 z3, .int .i64 a4, .int .i64 z4, .int .i64 a5, .int .i64 z5] 26) none
    have H2 : Hid _ := And.intro ((H1.out.1.kept g2).kept A2) (And.intro (Bx.new w2 26 [.int .i64 lg, .int .i64 no, .int .i64 ln, .int .i64 a0, .int .i64 z0, .int .i64 a1, .int .i64 z1, .int .i64 a2, .int .i64 z2, .int .i64 a3, .int .i64 z3, .int .i64 a4, .int .i64 z4, .int .i64 a5, .int .i64 z5]) (grown_trans (grown_trans H1.out.2 g2) A2))
    clear A2 g2 H1 k2 HE
    simp only
    go_wp2_with (first | (go_at_call 10; (with_reducible refine (num13_any _ _).mono ?_); rintro e w' ⟨rfl, rfl⟩) | ((with_reducible refine loadS_here ?_); refine wpList_loadB rfl 26 _ rfl w1.heap.size rfl H2.out.1 Try.underlying26 rfl infoS ?_) | ((with_reducible refine loadS_here ?_); refine wpList_loadB rfl 26 _ rfl w2.heap.size rfl H2.out.2.1 Try.underlying26 rfl infoS ?_) | (go_at_call 7; refine (HL.out _).mono ?_; rintro e wl ⟨rfl, gl⟩; have HF : Hid _ := grown_trans H2.out.2.2 gl; clear gl))
    go_ret
    exact ⟨rfl, grown_below HF.out⟩
end Go.Proofs.Ytaedcblphcfkfaa
