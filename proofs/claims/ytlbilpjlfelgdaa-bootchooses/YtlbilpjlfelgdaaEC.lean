/- Two records held against each other; the walk of BootDecodes. -/
import Derived.Test.YtlbilpjlfelgdaaEB
import Derived.Test.YtlbilpjlfelgdaaER
namespace Go.Proofs.Ytlbilpjlfelgdaa
open Go.RowKit
set_option linter.unusedSimpArgs false
set_option linter.unusedVariables false

/-- bytes that came in -/
structure Byte8 (w : World) (a : Option Addr) (n c : Nat) (xs : List Int) : Prop where
  row : Row w a n xs
  nil : a = none → c = 0
  nc : n ≤ c
  cm : c ≤ maxLen
theorem IsRow.byte8 {w : World} {a : Option Addr} {len cap : Nat} {zs : List Int} (h : IsRow .u8 w a len cap zs) : Byte8 w a len cap (zs.take len) := by
  refine ⟨h.row, h.nilcap, ?_, ?_⟩
  · rcases h with ⟨rfl, rfl, rfl, rfl⟩ | ⟨x, rfl, hl, hm, _⟩
    · exact Nat.le_refl _
    · exact hl
  · rcases h with ⟨rfl, rfl, rfl, rfl⟩ | ⟨x, rfl, hl, hm, _⟩
    · exact Nat.zero_le _
    · exact hm
theorem rec_eql_self {q s l u : Int} (h : (⟨q, s, l, u⟩ : Rc).ok) (W : World) : (binOp .eql 24 (.agg #[.int .u64 q, .int .i64 s, .int .i64 l, .int .u64 u]) (.agg #[.int .u64 q, .int .i64 s, .int .i64 l, .int .u64 u])).run Try.prog W = .ok (.bool true) W := by
  have := rec_eql ⟨q, s, l, u⟩ ⟨q, s, l, u⟩ W h h
  rw [Rc.same_self] at this
  exact this
theorem rec_ne_self {q s l u : Int} (h : (⟨q, s, l, u⟩ : Rc).ok) (W : World) : (binOp .neq 24 (.agg #[.int .u64 q, .int .i64 s, .int .i64 l, .int .u64 u]) (.agg #[.int .u64 q, .int .i64 s, .int .i64 l, .int .u64 u])).run Try.prog W = .ok (.bool false) W := by
  have := rec_ne ⟨q, s, l, u⟩ ⟨q, s, l, u⟩ W h h
  rw [Rc.same_self] at this
  exact this
set_option maxHeartbeats 1000000 in
theorem bootDecodes_walk (a : Option Addr) (len cap : Nat) (zs : List Int) (w : World) (hz : IsRow .u8 w a len cap zs) :
    Calls Try.prog 4 #[.slice a len cap] w fun e w' => e = .returned (.bool true) ∧ Below w.heap.size w w' := by
  have B := hz.byte8
  generalize zs.take len = bs at B
  clear hz
  have hcm : cap ≤ 9223372036854775807 := B.cm
  have hnc := B.nc
  have HL : Hid (∀ W : World, Calls Try.prog 8 #[] W fun e w' => e = .returned (.bool true) ∧ W.grownBy w' none) := fun W => live_any W
  by_cases hl : 300 < len
  · go_enter Try.func4, Try.ntmps4
    go_wp2_with fail
    refine (HL.out _).mono ?_
    rintro e w1 ⟨rfl, g1⟩
    have H1 : Hid _ := g1
    clear g1
    go_wp2
    go_ret
    exact ⟨rfl, grown_below H1.out⟩
  · have h1 := pdecode_any a len cap bs w B.row B.nc B.cm (by omega)
    have h2 := fun W (g : w.grownBy W none) => rdecode_any a len cap bs W (B.row.grown g) B.nc B.cm
    obtain ⟨ok1, ok2⟩ := rde_ok B.row.byt
    have HE : Hid _ := h2
    generalize rde bs = X at *
    obtain ⟨⟨q, s, l, u⟩, e⟩ := X
    have heq := rec_eql_self ok1
    simp only [Rc.val] at *
    clear B h2 ok1
    unfold in64 at ok2
    go_enter Try.func4, Try.ntmps4
    go_wp2_with fail
    refine h1.mono ?_
    rintro e w1 ⟨rfl, g1⟩
    have A1 := World.grownBy_alloc w1 (.cells #[.int .u64 q, .int .i64 s, .int .i64 l, .int .u64 u] 24) none
    have X1 := Bx.new w1 24 [.int .u64 q, .int .i64 s, .int .i64 l, .int .u64 u]
    have k2 := HE.out _ (grown_trans g1 A1)
    have H1 : Hid _ := And.intro X1 (grown_trans g1 A1)
    clear X1 A1 g1 h1
    simp only
    go_wp2_with fail
    refine k2.mono ?_
    rintro e w2 ⟨rfl, g2⟩
    have A2 := World.grownBy_alloc w2 (.cells #[.int .u64 q, .int .i64 s, .int .i64 l, .int .u64 u] 24) none
    have X2 := (H1.out.1.kept g2).kept A2
    have Y2 := Bx.new w2 24 [.int .u64 q, .int .i64 s, .int .i64 l, .int .u64 u]
    have H2 : Hid _ := grown_trans (grown_trans H1.out.2 g2) A2
    obtain ⟨x0, x1, x2, x3⟩ := bx4 X2
    obtain ⟨y0, y1, y2, y3⟩ := bx4 Y2
    clear X2 Y2 A2 g2 H1 k2 HE
    simp only
    go_wp2_with (first | (go_at_call 11; with_reducible refine (num_any _ _).mono ?_; rintro e w' ⟨rfl, rfl⟩) | (go_at_call 8; refine (HL.out _).mono ?_; rintro e wl ⟨rfl, gl⟩; have HF : Hid _ := grown_trans H2.out gl; clear gl))
    go_ret
    exact ⟨rfl, grown_below HF.out⟩
end Go.Proofs.Ytlbilpjlfelgdaa
