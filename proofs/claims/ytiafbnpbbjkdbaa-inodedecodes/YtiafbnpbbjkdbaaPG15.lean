/- The document's guess. -/
import Derived.Test.YtiafbnpbbjkdbaaPF15
namespace Go.Proofs.Ytiafbnpbbjkdbaa
open Go.RowKit
set_option maxRecDepth 100000
set_option linter.unusedSimpArgs false
set_option linter.unusedVariables false
set_option maxHeartbeats 16000000 in
theorem rguess_long (a : Option Addr) (len cap at_ : Nat) (bs : List Int) (w : World) (R : Row w a len bs) (hcap : len ≤ cap) (hl : len ≤ 100000) (hat : at_ ≤ len) (hs : at_ + 24 ≤ len) :
    Calls Try.prog 33 #[.slice a len cap, .int .i64 (at_ : Int)] w (GsP15 w len bs at_) := by
  have hw : ∀ k : Int, 0 ≤ k → k ≤ 100 → IntKind.i64.wrap ((at_ : Int) + k) = (at_ : Int) + k := fun k _ _ => by rw [IntKind.wrap_i64]; omega
  obtain ⟨b, off, rfl, hcel⟩ := R.cells (by omega)
  have hlb := R.len_eq
  have hx0 : 0 ≤ bs.getD at_ 0 ∧ bs.getD at_ 0 ≤ 255 := R.byt.getD at_
  have HX0 : Hid (in64 (bs.getD at_ 0)) := ⟨by omega, by omega⟩
  have hc0 := hcel at_ (by omega)
  have HB : Hid (Byt bs) := R.byt
  have HKD : Hid (∀ n0, Pre15 bs at_ n0 → n0.kd = bs.getD at_ 0) := fun n0 h => (pre_b0 h (by omega)).symm
  have HLB : Hid (bs.length = len) := hlb
  obtain ⟨x0, hx⟩ : ∃ x0, x0 = bs.getD at_ 0 := ⟨_, rfl⟩
  rw [← hx] at hx0 HX0 hc0 HKD
  have qa2 : Hid (∀ V : World, Row V (some ⟨b, off, none⟩) len bs → Calls Try.prog 46 #[.slice (some ⟨b, off, none⟩) len cap, .int .i64 ((at_ : Int) + 2), .int .i64 2] V fun e w' => e = .returned (.int .u64 (fv15 bs at_ 2 2)) ∧ V = w' ) := fun V R => by rw [show ((at_ : Int) + 2) = ((at_ + 2 : Nat) : Int) from by omega]; exact load_row (some ⟨b, off, none⟩) len cap bs (at_ + 2) 2 V R (by decide) (by decide) (by omega)
  have qa4 : Hid (∀ V : World, Row V (some ⟨b, off, none⟩) len bs → Calls Try.prog 46 #[.slice (some ⟨b, off, none⟩) len cap, .int .i64 ((at_ : Int) + 4), .int .i64 2] V fun e w' => e = .returned (.int .u64 (fv15 bs at_ 4 2)) ∧ V = w' ) := fun V R => by rw [show ((at_ : Int) + 4) = ((at_ + 4 : Nat) : Int) from by omega]; exact load_row (some ⟨b, off, none⟩) len cap bs (at_ + 4) 2 V R (by decide) (by decide) (by omega)
  have qa6 : Hid (∀ V : World, Row V (some ⟨b, off, none⟩) len bs → Calls Try.prog 46 #[.slice (some ⟨b, off, none⟩) len cap, .int .i64 ((at_ : Int) + 6), .int .i64 2] V fun e w' => e = .returned (.int .u64 (fv15 bs at_ 6 2)) ∧ V = w' ) := fun V R => by rw [show ((at_ : Int) + 6) = ((at_ + 6 : Nat) : Int) from by omega]; exact load_row (some ⟨b, off, none⟩) len cap bs (at_ + 6) 2 V R (by decide) (by decide) (by omega)
  have qa8 : Hid (∀ V : World, Row V (some ⟨b, off, none⟩) len bs → Calls Try.prog 46 #[.slice (some ⟨b, off, none⟩) len cap, .int .i64 ((at_ : Int) + 8), .int .i64 4] V fun e w' => e = .returned (.int .u64 (fv15 bs at_ 8 4)) ∧ V = w' ) := fun V R => by rw [show ((at_ : Int) + 8) = ((at_ + 8 : Nat) : Int) from by omega]; exact load_row (some ⟨b, off, none⟩) len cap bs (at_ + 8) 4 V R (by decide) (by decide) (by omega)
  have qa12 : Hid (∀ V : World, Row V (some ⟨b, off, none⟩) len bs → Calls Try.prog 46 #[.slice (some ⟨b, off, none⟩) len cap, .int .i64 ((at_ : Int) + 12), .int .i64 4] V fun e w' => e = .returned (.int .u64 (fv15 bs at_ 12 4)) ∧ V = w' ) := fun V R => by rw [show ((at_ : Int) + 12) = ((at_ + 12 : Nat) : Int) from by omega]; exact load_row (some ⟨b, off, none⟩) len cap bs (at_ + 12) 4 V R (by decide) (by decide) (by omega)
  have qb20 : Hid (∀ V : World, Row V (some ⟨b, off, none⟩) len bs → Calls Try.prog 46 #[.slice (some ⟨b, off, none⟩) len cap, .int .i64 ((at_ : Int) + 20), .int .i64 4] V fun e w' => e = .returned (.int .u64 (fv15 bs at_ 20 4)) ∧ V = w' ) := fun V R => by rw [show ((at_ : Int) + 20) = ((at_ + 20 : Nat) : Int) from by omega]; exact load_row (some ⟨b, off, none⟩) len cap bs (at_ + 20) 4 V R (by decide) (by decide) (by omega)
  have qc20 : Hid (∀ V : World, Row V (some ⟨b, off, none⟩) len bs → Calls Try.prog 46 #[.slice (some ⟨b, off, none⟩) len cap, .int .i64 ((at_ : Int) + 20), .int .i64 2] V fun e w' => e = .returned (.int .u64 (fv15 bs at_ 20 2)) ∧ V = w' ) := fun V R => by rw [show ((at_ : Int) + 20) = ((at_ + 20 : Nat) : Int) from by omega]; exact load_row (some ⟨b, off, none⟩) len cap bs (at_ + 20) 2 V R (by decide) (by decide) (by omega)
  have qm16 : Hid (∀ V : World, Row V (some ⟨b, off, none⟩) len bs → Calls Try.prog 47 #[.slice (some ⟨b, off, none⟩) len cap, .int .i64 ((at_ : Int) + 16)] V fun e w' => e = .returned (.int .i64 (mn15 (fv15 bs at_ 16 4))) ∧ V = w' ) := fun V R => by rw [show ((at_ : Int) + 16) = ((at_ + 16 : Nat) : Int) from by omega]; exact minus_any (some ⟨b, off, none⟩) len cap bs (at_ + 16) V R (by omega)
  have qd20 : Hid (at_ + 48 ≤ len → ∀ V : World, Row V (some ⟨b, off, none⟩) len bs → Calls Try.prog 46 #[.slice (some ⟨b, off, none⟩) len cap, .int .i64 ((at_ : Int) + 20), .int .i64 8] V fun e w' => e = .returned (.int .u64 (fv15 bs at_ 20 8)) ∧ V = w' ) := fun hh V R => by rw [show ((at_ : Int) + 20) = ((at_ + 20 : Nat) : Int) from by omega]; exact load_row (some ⟨b, off, none⟩) len cap bs (at_ + 20) 8 V R (by decide) (by decide) (by omega)
  have qd28 : Hid (at_ + 48 ≤ len → ∀ V : World, Row V (some ⟨b, off, none⟩) len bs → Calls Try.prog 46 #[.slice (some ⟨b, off, none⟩) len cap, .int .i64 ((at_ : Int) + 28), .int .i64 4] V fun e w' => e = .returned (.int .u64 (fv15 bs at_ 28 4)) ∧ V = w' ) := fun hh V R => by rw [show ((at_ : Int) + 28) = ((at_ + 28 : Nat) : Int) from by omega]; exact load_row (some ⟨b, off, none⟩) len cap bs (at_ + 28) 4 V R (by decide) (by decide) (by omega)
  have qd36 : Hid (at_ + 48 ≤ len → ∀ V : World, Row V (some ⟨b, off, none⟩) len bs → Calls Try.prog 46 #[.slice (some ⟨b, off, none⟩) len cap, .int .i64 ((at_ : Int) + 36), .int .i64 4] V fun e w' => e = .returned (.int .u64 (fv15 bs at_ 36 4)) ∧ V = w' ) := fun hh V R => by rw [show ((at_ : Int) + 36) = ((at_ + 36 : Nat) : Int) from by omega]; exact load_row (some ⟨b, off, none⟩) len cap bs (at_ + 36) 4 V R (by decide) (by decide) (by omega)
  have qd40 : Hid (at_ + 48 ≤ len → ∀ V : World, Row V (some ⟨b, off, none⟩) len bs → Calls Try.prog 46 #[.slice (some ⟨b, off, none⟩) len cap, .int .i64 ((at_ : Int) + 40), .int .i64 4] V fun e w' => e = .returned (.int .u64 (fv15 bs at_ 40 4)) ∧ V = w' ) := fun hh V R => by rw [show ((at_ : Int) + 40) = ((at_ + 40 : Nat) : Int) from by omega]; exact load_row (some ⟨b, off, none⟩) len cap bs (at_ + 40) 4 V R (by decide) (by decide) (by omega)
  have qd44 : Hid (at_ + 48 ≤ len → ∀ V : World, Row V (some ⟨b, off, none⟩) len bs → Calls Try.prog 46 #[.slice (some ⟨b, off, none⟩) len cap, .int .i64 ((at_ : Int) + 44), .int .i64 4] V fun e w' => e = .returned (.int .u64 (fv15 bs at_ 44 4)) ∧ V = w' ) := fun hh V R => by rw [show ((at_ : Int) + 44) = ((at_ + 44 : Nat) : Int) from by omega]; exact load_row (some ⟨b, off, none⟩) len cap bs (at_ + 44) 4 V R (by decide) (by decide) (by omega)
  have qm32 : Hid (at_ + 48 ≤ len → ∀ V : World, Row V (some ⟨b, off, none⟩) len bs → Calls Try.prog 47 #[.slice (some ⟨b, off, none⟩) len cap, .int .i64 ((at_ : Int) + 32)] V fun e w' => e = .returned (.int .i64 (mn15 (fv15 bs at_ 32 4))) ∧ V = w' ) := fun hh V R => by rw [show ((at_ : Int) + 32) = ((at_ + 32 : Nat) : Int) from by omega]; exact minus_any (some ⟨b, off, none⟩) len cap bs (at_ + 32) V R (by omega)
  have qe24 : Hid (at_ + 32 ≤ len → ∀ V : World, Row V (some ⟨b, off, none⟩) len bs → Calls Try.prog 46 #[.slice (some ⟨b, off, none⟩) len cap, .int .i64 ((at_ : Int) + 24), .int .i64 4] V fun e w' => e = .returned (.int .u64 (fv15 bs at_ 24 4)) ∧ V = w' ) := fun hh V R => by rw [show ((at_ : Int) + 24) = ((at_ + 24 : Nat) : Int) from by omega]; exact load_row (some ⟨b, off, none⟩) len cap bs (at_ + 24) 4 V R (by decide) (by decide) (by omega)
  have qe28 : Hid (at_ + 32 ≤ len → ∀ V : World, Row V (some ⟨b, off, none⟩) len bs → Calls Try.prog 46 #[.slice (some ⟨b, off, none⟩) len cap, .int .i64 ((at_ : Int) + 28), .int .i64 4] V fun e w' => e = .returned (.int .u64 (fv15 bs at_ 28 4)) ∧ V = w' ) := fun hh V R => by rw [show ((at_ : Int) + 28) = ((at_ + 28 : Nat) : Int) from by omega]; exact load_row (some ⟨b, off, none⟩) len cap bs (at_ + 28) 4 V R (by decide) (by decide) (by omega)
  have HR : Hid _ := R
  have hs24 : ¬ (len : Int) < (at_ : Int) + 24 := by omega
  have hat0 : (at_ : Int) < (len : Int) := by omega
  have HZ : Hid (Bx (w.alloc (.cells #[.int .i64 0, .int .i64 0, .int .i64 0, .int .i64 0, .int .i64 0, .int .i64 0, .int .i64 0, .int .i64 0, .int .i64 0, .slice none 0 0, .int .i64 0, .int .i64 0, .int .i64 0, .int .i64 0, .int .i64 0, .int .i64 0, .string ⟨#[]⟩, .int .i64 0] 24)) w.heap.size 24 [.int .i64 0, .int .i64 0, .int .i64 0, .int .i64 0, .int .i64 0, .int .i64 0, .int .i64 0, .int .i64 0, .int .i64 0, .slice none 0 0, .int .i64 0, .int .i64 0, .int .i64 0, .int .i64 0, .int .i64 0, .int .i64 0, .string ⟨#[]⟩, .int .i64 0]) := Bx.new w _ _
  have HG : Hid (w.grownBy (w.alloc (.cells #[.int .i64 0, .int .i64 0, .int .i64 0, .int .i64 0, .int .i64 0, .int .i64 0, .int .i64 0, .int .i64 0, .int .i64 0, .slice none 0 0, .int .i64 0, .int .i64 0, .int .i64 0, .int .i64 0, .int .i64 0, .int .i64 0, .string ⟨#[]⟩, .int .i64 0] 24)) none) := World.grownBy_alloc _ _ _
  have HS : Hid ((w.alloc (.cells #[.int .i64 0, .int .i64 0, .int .i64 0, .int .i64 0, .int .i64 0, .int .i64 0, .int .i64 0, .int .i64 0, .int .i64 0, .slice none 0 0, .int .i64 0, .int .i64 0, .int .i64 0, .int .i64 0, .int .i64 0, .int .i64 0, .string ⟨#[]⟩, .int .i64 0] 24)).heap.size = w.heap.size + 1) := by show (w.heap.push _).size = _; simp
  have HLE : Hid (at_ + 24 ≤ len ∧ len ≤ cap ∧ len ≤ 100000) := ⟨hs, hcap, hl⟩
  have HX : Hid _ := hx
  have HWX : Hid (IntKind.i64.wrap x0 = x0) := by show _ = _; rw [IntKind.wrap_i64]; omega
  clear R hcel hlb hx hs hcap hat hl
  go_enter Try.func33, Try.ntmps33
  go_wp2_with fail
  generalize w.alloc (.cells #[.int .i64 0, .int .i64 0, .int .i64 0, .int .i64 0, .int .i64 0, .int .i64 0, .int .i64 0, .int .i64 0, .int .i64 0, .slice none 0 0, .int .i64 0, .int .i64 0, .int .i64 0, .int .i64 0, .int .i64 0, .int .i64 0, .string ⟨#[]⟩, .int .i64 0] 24) = W1 at *
  have hc1 : W1.cell? ⟨b, off + at_, none⟩ = some (.int .u8 x0) := by have := HR.out.grown HG.out; obtain ⟨b2, o2, e, hc⟩ := this.cells (by have := HLE.out; omega); injection e with e; injection e with e1 e2; subst e1 e2; rw [HX.out]; exact hc at_ (by have := HLE.out; omega)
  have hcA : W1.drew.cell? ⟨b, off + at_, none⟩ = some (.int .u8 x0) := hc1
  have gA : Hid (W1.grownBy W1.drew none) := ⟨rfl, rfl, rfl, Nat.le_refl _, fun _ _ _ => rfl⟩
  have gB : Hid (W1.grownBy (W1.drew.alloc (.cells #[.int .i64 0, .int .i64 0, .int .i64 0, .int .i64 0, .int .i64 0, .int .i64 0, .int .i64 0, .int .i64 0, .int .i64 0, .slice none 0 0, .int .i64 0, .int .i64 0, .int .i64 0, .int .i64 0, .int .i64 0, .int .i64 0, .string ⟨#[]⟩, .int .i64 0] 24)) none) := grown_trans gA.out (World.grownBy_alloc _ _ _)
  have hcB : (W1.drew.alloc (.cells #[.int .i64 0, .int .i64 0, .int .i64 0, .int .i64 0, .int .i64 0, .int .i64 0, .int .i64 0, .int .i64 0, .int .i64 0, .slice none 0 0, .int .i64 0, .int .i64 0, .int .i64 0, .int .i64 0, .int .i64 0, .int .i64 0, .string ⟨#[]⟩, .int .i64 0] 24)).cell? ⟨b, off + at_, none⟩ = some (.int .u8 x0) := by rw [← hcA]; exact (grown_below (World.grownBy_alloc W1.drew _ none)).cell (p := ⟨b, off + at_, none⟩) (cell_lt hcA)
  have HCB : Hid _ := hcB
  have rA : Hid _ := HR.out.grown (grown_trans HG.out gA.out)
  have rB : Hid _ := HR.out.grown (grown_trans HG.out gB.out)
  have HT0 : Hid (Gs15 w (W1.drew.alloc (.cells #[.int .i64 0, .int .i64 0, .int .i64 0, .int .i64 0, .int .i64 0, .int .i64 0, .int .i64 0, .int .i64 0, .int .i64 0, .slice none 0 0, .int .i64 0, .int .i64 0, .int .i64 0, .int .i64 0, .int .i64 0, .int .i64 0, .string ⟨#[]⟩, .int .i64 0] 24)) w.heap.size W1.heap.size [.int .i64 0, .int .i64 0, .int .i64 0, .int .i64 0, .int .i64 0, .int .i64 0, .int .i64 0, .int .i64 0, .int .i64 0, .slice none 0 0, .int .i64 0, .int .i64 0, .int .i64 0, .int .i64 0, .int .i64 0, .int .i64 0, .string ⟨#[]⟩, .int .i64 0]) := ⟨HZ.out.kept gB.out, Bx.new W1.drew _ _, grown_trans HG.out gB.out, Nat.le_refl _, by have := HS.out; omega⟩
  clear hc0 hc1 hcB
  refine wp_tail15 ⟨#[.slice (some ⟨b, off, none⟩) len cap, .int .i64 (at_ : Int), undef, undef, .pointer (some ⟨w.heap.size, 0, none⟩), .bool false, .pointer (some ⟨W1.heap.size, 0, none⟩), undef, undef, undef, .int .i64 (at_ : Int), .int .i64 ((at_ : Int) + 24), .slice (some ⟨b, off, none⟩) len cap, .int .i64 (len : Int), .bool false, undef, .slice (some ⟨b, off, none⟩) len cap, .int .i64 (at_ : Int), .pointer (some ⟨b, off + at_, none⟩), .int .u8 x0, .int .i64 x0, .slice (some ⟨b, off, none⟩) len cap, .int .i64 (at_ : Int), .int .i64 ((at_ : Int) + 2), .int .u64 (fv15 bs at_ 2 2), .int .i64 (IntKind.i64.wrap (fv15 bs at_ 2 2)), .slice (some ⟨b, off, none⟩) len cap, .int .i64 (at_ : Int), .int .i64 ((at_ : Int) + 4), .int .u64 (fv15 bs at_ 4 2), .int .i64 (IntKind.i64.wrap (fv15 bs at_ 4 2)), .slice (some ⟨b, off, none⟩) len cap, .int .i64 (at_ : Int), .int .i64 ((at_ : Int) + 6), .int .u64 (fv15 bs at_ 6 2), .int .i64 (IntKind.i64.wrap (fv15 bs at_ 6 2)), .slice (some ⟨b, off, none⟩) len cap, .int .i64 (at_ : Int), .int .i64 ((at_ : Int) + 8), .int .u64 (fv15 bs at_ 8 4), .int .i64 (IntKind.i64.wrap (fv15 bs at_ 8 4)), .slice (some ⟨b, off, none⟩) len cap, .int .i64 (at_ : Int), .int .i64 ((at_ : Int) + 12), .int .u64 (fv15 bs at_ 12 4), .int .i64 (IntKind.i64.wrap (fv15 bs at_ 12 4)), .slice (some ⟨b, off, none⟩) len cap, .int .i64 (at_ : Int), .int .i64 ((at_ : Int) + 16), .int .i64 (mn15 (fv15 bs at_ 16 4)), .agg #[.int .i64 (x0), .int .i64 (IntKind.i64.wrap (fv15 bs at_ 2 2)), .int .i64 (IntKind.i64.wrap (fv15 bs at_ 4 2)), .int .i64 (IntKind.i64.wrap (fv15 bs at_ 6 2)), .int .i64 (IntKind.i64.wrap (fv15 bs at_ 8 4)), .int .i64 (IntKind.i64.wrap (fv15 bs at_ 12 4)), .int .i64 (mn15 (fv15 bs at_ 16 4)), .int .i64 (0), .int .i64 (0), .slice none 0 0, .int .i64 (0), .int .i64 (0), .int .i64 (0), .int .i64 (0), .int .i64 (0), .int .i64 (0), .string (⟨#[]⟩), .int .i64 (0)], undef, undef, undef, undef, undef, undef, undef, undef, undef, undef, undef, undef, undef, undef, undef, undef, undef, undef, undef, undef, undef, undef, undef, undef, undef, undef, undef, undef, undef, undef, undef, undef, undef, undef, undef, undef, undef, undef, undef, undef, undef, undef, undef, undef, undef, undef, undef, undef, undef, undef, undef, undef, undef, undef, undef, undef, undef, undef, undef, undef, undef, undef, undef, undef, undef, undef, undef, undef, undef, undef, undef, undef, undef, undef, undef, undef, undef, undef, undef, undef, undef, undef, undef, undef, undef, undef, undef, undef, undef, undef, undef, undef, undef, undef, undef, undef, undef, undef, undef, undef, undef, undef, undef, undef, undef, undef, undef, undef, undef, undef, undef, undef, undef, undef, undef, undef, undef, undef, undef, undef, undef, undef, undef, undef, undef, undef, undef, undef, undef], []⟩ (fun W => Gs15 w W w.heap.size W1.heap.size [.int .i64 (x0), .int .i64 (IntKind.i64.wrap (fv15 bs at_ 2 2)), .int .i64 (IntKind.i64.wrap (fv15 bs at_ 4 2)), .int .i64 (IntKind.i64.wrap (fv15 bs at_ 6 2)), .int .i64 (IntKind.i64.wrap (fv15 bs at_ 8 4)), .int .i64 (IntKind.i64.wrap (fv15 bs at_ 12 4)), .int .i64 (mn15 (fv15 bs at_ 16 4)), .int .i64 (0), .int .i64 (0), .slice none 0 0, .int .i64 (0), .int .i64 (0), .int .i64 (0), .int .i64 (0), .int .i64 (0), .int .i64 (0), .string (⟨#[]⟩), .int .i64 (0)] ∧ Row W (some ⟨b, off, none⟩) len bs) ?h2 ?h1
  case h2 =>
    intro HT
    refine wp_region_held_drew (S := fun V => V.cell? ⟨b, off + at_, none⟩ = some (.int .u8 x0)) (by kernel_rfl) hcA (fun hH => ?_)
    refine wpAnyH_take (i := 0) (oi := ⟨some 16, _, _, _, _, _⟩) (v := .slice (some ⟨b, off, none⟩) len cap) rfl (by kernel_rfl) (by kernel_rfl) (by kernel_rfl) (fun _ _ _ h => h) (Or.inl ⟨by rfl, fun w hSw => by go_simp⟩) hH ?_
    simp only [Act.put, List.setIfInBounds_toArray, List.set_cons_zero, List.set_cons_succ]
    refine wpAnyH_take (i := 1) (oi := ⟨some 17, _, _, _, _, _⟩) (v := .int .i64 (at_ : Int)) rfl (by kernel_rfl) (by kernel_rfl) (by kernel_rfl) (fun _ _ _ h => h) (Or.inl ⟨by rfl, fun w hSw => by go_simp⟩) hH ?_
    simp only [Act.put, List.setIfInBounds_toArray, List.set_cons_zero, List.set_cons_succ]
    refine wpAnyH_take (i := 2) (oi := ⟨some 18, _, _, _, _, _⟩) (v := .pointer (some ⟨b, off + at_, none⟩)) rfl (by kernel_rfl) (by kernel_rfl) (by kernel_rfl) (fun _ _ _ h => h) (Or.inl ⟨by rfl, fun w hSw => by go_simp⟩) hH ?_
    simp only [Act.put, List.setIfInBounds_toArray, List.set_cons_zero, List.set_cons_succ]
    refine wpAnyH_take (i := 3) (oi := ⟨some 19, _, _, _, _, _⟩) (v := .int .u8 x0) rfl (by kernel_rfl) (by kernel_rfl) (by kernel_rfl) (fun _ _ _ h => h) (Or.inl ⟨by rfl, fun w hSw => by go_simp⟩) hH ?_
    simp only [Act.put, List.setIfInBounds_toArray, List.set_cons_zero, List.set_cons_succ]
    refine wpAnyH_take (i := 4) (oi := ⟨some 20, _, _, _, _, _⟩) (v := .int .i64 x0) rfl (by kernel_rfl) (by kernel_rfl) (by kernel_rfl) (fun _ _ _ h => h) (Or.inl ⟨by rfl, fun w hSw => by have e0 := HWX.out; go_simp⟩) hH ?_
    simp only [Act.put, List.setIfInBounds_toArray, List.set_cons_zero, List.set_cons_succ]
    refine wpAnyH_take (i := 5) (oi := ⟨some 21, _, _, _, _, _⟩) (v := .slice (some ⟨b, off, none⟩) len cap) rfl (by kernel_rfl) (by kernel_rfl) (by kernel_rfl) (fun _ _ _ h => h) (Or.inl ⟨by rfl, fun w hSw => by go_simp⟩) hH ?_
    simp only [Act.put, List.setIfInBounds_toArray, List.set_cons_zero, List.set_cons_succ]
    refine wpAnyH_take (i := 6) (oi := ⟨some 22, _, _, _, _, _⟩) (v := .int .i64 (at_ : Int)) rfl (by kernel_rfl) (by kernel_rfl) (by kernel_rfl) (fun _ _ _ h => h) (Or.inl ⟨by rfl, fun w hSw => by go_simp⟩) hH ?_
    simp only [Act.put, List.setIfInBounds_toArray, List.set_cons_zero, List.set_cons_succ]
    refine wpAnyH_take (i := 7) (oi := ⟨some 23, _, _, _, _, _⟩) (v := .int .i64 ((at_ : Int) + 2)) rfl (by kernel_rfl) (by kernel_rfl) (by kernel_rfl) (fun _ _ _ h => h) (Or.inl ⟨by rfl, fun w hSw => by go_simp⟩) hH ?_
    simp only [Act.put, List.setIfInBounds_toArray, List.set_cons_zero, List.set_cons_succ]
    refine wpAnyH_take (i := 10) (oi := ⟨some 26, _, _, _, _, _⟩) (v := .slice (some ⟨b, off, none⟩) len cap) rfl (by kernel_rfl) (by kernel_rfl) (by kernel_rfl) (fun _ _ _ h => h) (Or.inl ⟨by rfl, fun w hSw => by go_simp⟩) hH ?_
    simp only [Act.put, List.setIfInBounds_toArray, List.set_cons_zero, List.set_cons_succ]
    refine wpAnyH_take (i := 11) (oi := ⟨some 27, _, _, _, _, _⟩) (v := .int .i64 (at_ : Int)) rfl (by kernel_rfl) (by kernel_rfl) (by kernel_rfl) (fun _ _ _ h => h) (Or.inl ⟨by rfl, fun w hSw => by go_simp⟩) hH ?_
    simp only [Act.put, List.setIfInBounds_toArray, List.set_cons_zero, List.set_cons_succ]
    refine wpAnyH_take (i := 12) (oi := ⟨some 28, _, _, _, _, _⟩) (v := .int .i64 ((at_ : Int) + 4)) rfl (by kernel_rfl) (by kernel_rfl) (by kernel_rfl) (fun _ _ _ h => h) (Or.inl ⟨by rfl, fun w hSw => by go_simp⟩) hH ?_
    simp only [Act.put, List.setIfInBounds_toArray, List.set_cons_zero, List.set_cons_succ]
    refine wpAnyH_take (i := 15) (oi := ⟨some 31, _, _, _, _, _⟩) (v := .slice (some ⟨b, off, none⟩) len cap) rfl (by kernel_rfl) (by kernel_rfl) (by kernel_rfl) (fun _ _ _ h => h) (Or.inl ⟨by rfl, fun w hSw => by go_simp⟩) hH ?_
    simp only [Act.put, List.setIfInBounds_toArray, List.set_cons_zero, List.set_cons_succ]
    refine wpAnyH_take (i := 16) (oi := ⟨some 32, _, _, _, _, _⟩) (v := .int .i64 (at_ : Int)) rfl (by kernel_rfl) (by kernel_rfl) (by kernel_rfl) (fun _ _ _ h => h) (Or.inl ⟨by rfl, fun w hSw => by go_simp⟩) hH ?_
    simp only [Act.put, List.setIfInBounds_toArray, List.set_cons_zero, List.set_cons_succ]
    refine wpAnyH_take (i := 17) (oi := ⟨some 33, _, _, _, _, _⟩) (v := .int .i64 ((at_ : Int) + 6)) rfl (by kernel_rfl) (by kernel_rfl) (by kernel_rfl) (fun _ _ _ h => h) (Or.inl ⟨by rfl, fun w hSw => by go_simp⟩) hH ?_
    simp only [Act.put, List.setIfInBounds_toArray, List.set_cons_zero, List.set_cons_succ]
    refine wpAnyH_take (i := 20) (oi := ⟨some 36, _, _, _, _, _⟩) (v := .slice (some ⟨b, off, none⟩) len cap) rfl (by kernel_rfl) (by kernel_rfl) (by kernel_rfl) (fun _ _ _ h => h) (Or.inl ⟨by rfl, fun w hSw => by go_simp⟩) hH ?_
    simp only [Act.put, List.setIfInBounds_toArray, List.set_cons_zero, List.set_cons_succ]
    refine wpAnyH_take (i := 21) (oi := ⟨some 37, _, _, _, _, _⟩) (v := .int .i64 (at_ : Int)) rfl (by kernel_rfl) (by kernel_rfl) (by kernel_rfl) (fun _ _ _ h => h) (Or.inl ⟨by rfl, fun w hSw => by go_simp⟩) hH ?_
    simp only [Act.put, List.setIfInBounds_toArray, List.set_cons_zero, List.set_cons_succ]
    refine wpAnyH_take (i := 22) (oi := ⟨some 38, _, _, _, _, _⟩) (v := .int .i64 ((at_ : Int) + 8)) rfl (by kernel_rfl) (by kernel_rfl) (by kernel_rfl) (fun _ _ _ h => h) (Or.inl ⟨by rfl, fun w hSw => by go_simp⟩) hH ?_
    simp only [Act.put, List.setIfInBounds_toArray, List.set_cons_zero, List.set_cons_succ]
    refine wpAnyH_take (i := 25) (oi := ⟨some 41, _, _, _, _, _⟩) (v := .slice (some ⟨b, off, none⟩) len cap) rfl (by kernel_rfl) (by kernel_rfl) (by kernel_rfl) (fun _ _ _ h => h) (Or.inl ⟨by rfl, fun w hSw => by go_simp⟩) hH ?_
    simp only [Act.put, List.setIfInBounds_toArray, List.set_cons_zero, List.set_cons_succ]
    refine wpAnyH_take (i := 26) (oi := ⟨some 42, _, _, _, _, _⟩) (v := .int .i64 (at_ : Int)) rfl (by kernel_rfl) (by kernel_rfl) (by kernel_rfl) (fun _ _ _ h => h) (Or.inl ⟨by rfl, fun w hSw => by go_simp⟩) hH ?_
    simp only [Act.put, List.setIfInBounds_toArray, List.set_cons_zero, List.set_cons_succ]
    refine wpAnyH_take (i := 27) (oi := ⟨some 43, _, _, _, _, _⟩) (v := .int .i64 ((at_ : Int) + 12)) rfl (by kernel_rfl) (by kernel_rfl) (by kernel_rfl) (fun _ _ _ h => h) (Or.inl ⟨by rfl, fun w hSw => by go_simp⟩) hH ?_
    simp only [Act.put, List.setIfInBounds_toArray, List.set_cons_zero, List.set_cons_succ]
    refine wpAnyH_take (i := 30) (oi := ⟨some 46, _, _, _, _, _⟩) (v := .slice (some ⟨b, off, none⟩) len cap) rfl (by kernel_rfl) (by kernel_rfl) (by kernel_rfl) (fun _ _ _ h => h) (Or.inl ⟨by rfl, fun w hSw => by go_simp⟩) hH ?_
    simp only [Act.put, List.setIfInBounds_toArray, List.set_cons_zero, List.set_cons_succ]
    refine wpAnyH_take (i := 31) (oi := ⟨some 47, _, _, _, _, _⟩) (v := .int .i64 (at_ : Int)) rfl (by kernel_rfl) (by kernel_rfl) (by kernel_rfl) (fun _ _ _ h => h) (Or.inl ⟨by rfl, fun w hSw => by go_simp⟩) hH ?_
    simp only [Act.put, List.setIfInBounds_toArray, List.set_cons_zero, List.set_cons_succ]
    refine wpAnyH_take (i := 32) (oi := ⟨some 48, _, _, _, _, _⟩) (v := .int .i64 ((at_ : Int) + 16)) rfl (by kernel_rfl) (by kernel_rfl) (by kernel_rfl) (fun _ _ _ h => h) (Or.inl ⟨by rfl, fun w hSw => by go_simp⟩) hH ?_
    simp only [Act.put, List.setIfInBounds_toArray, List.set_cons_zero, List.set_cons_succ]
    refine wpAnyH_ready (rs := [8, 35]) (by kernel_rfl) (by simp) ?_
    refine AllReadyH.cons rfl (fun K1 hK => ?_) (AllReadyH.cons rfl (fun K1 hK => ?_) AllReadyH.nil)
    · skip
      go_simp
      go_wp2_with (go_at_call 46; refine (qa2.out _ rA.out).mono ?_; rintro e wx ⟨rfl, rfl⟩)
      refine hK.out _ _ hcA (fun _ => ?_)
      clear hK K1
      refine wpAnyH_take (i := 9) (oi := ⟨some 25, _, _, _, _, _⟩) (v := .int .i64 (IntKind.i64.wrap (fv15 bs at_ 2 2))) rfl (by kernel_rfl) (by kernel_rfl) (by kernel_rfl) (fun _ _ _ h => h) (Or.inl ⟨by rfl, fun w hSw => by go_simp⟩) hH ?_
      simp only [Act.put, List.setIfInBounds_toArray, List.set_cons_zero, List.set_cons_succ]
      refine wpAnyH_ready (rs := [13, 35]) (by kernel_rfl) (by simp) ?_
      refine AllReadyH.cons rfl (fun K1 hK => ?_) (AllReadyH.cons rfl (fun K1 hK => ?_) AllReadyH.nil)
      · skip
        go_simp
        go_wp2_with (go_at_call 46; refine (qa4.out _ rA.out).mono ?_; rintro e wx ⟨rfl, rfl⟩)
        refine hK.out _ _ hcA (fun _ => ?_)
        clear hK K1
        refine wpAnyH_take (i := 14) (oi := ⟨some 30, _, _, _, _, _⟩) (v := .int .i64 (IntKind.i64.wrap (fv15 bs at_ 4 2))) rfl (by kernel_rfl) (by kernel_rfl) (by kernel_rfl) (fun _ _ _ h => h) (Or.inl ⟨by rfl, fun w hSw => by go_simp⟩) hH ?_
        simp only [Act.put, List.setIfInBounds_toArray, List.set_cons_zero, List.set_cons_succ]
        refine wpAnyH_ready (rs := [18, 35]) (by kernel_rfl) (by simp) ?_
        refine AllReadyH.cons rfl (fun K1 hK => ?_) (AllReadyH.cons rfl (fun K1 hK => ?_) AllReadyH.nil)
        · skip
          go_simp
          go_wp2_with (go_at_call 46; refine (qa6.out _ rA.out).mono ?_; rintro e wx ⟨rfl, rfl⟩)
          refine hK.out _ _ hcA (fun _ => ?_)
          clear hK K1
          refine wpAnyH_take (i := 19) (oi := ⟨some 35, _, _, _, _, _⟩) (v := .int .i64 (IntKind.i64.wrap (fv15 bs at_ 6 2))) rfl (by kernel_rfl) (by kernel_rfl) (by kernel_rfl) (fun _ _ _ h => h) (Or.inl ⟨by rfl, fun w hSw => by go_simp⟩) hH ?_
          simp only [Act.put, List.setIfInBounds_toArray, List.set_cons_zero, List.set_cons_succ]
          refine wpAnyH_ready (rs := [23, 35]) (by kernel_rfl) (by simp) ?_
          refine AllReadyH.cons rfl (fun K1 hK => ?_) (AllReadyH.cons rfl (fun K1 hK => ?_) AllReadyH.nil)
          · skip
            go_simp
            go_wp2_with (go_at_call 46; refine (qa8.out _ rA.out).mono ?_; rintro e wx ⟨rfl, rfl⟩)
            refine hK.out _ _ hcA (fun _ => ?_)
            clear hK K1
            refine wpAnyH_take (i := 24) (oi := ⟨some 40, _, _, _, _, _⟩) (v := .int .i64 (IntKind.i64.wrap (fv15 bs at_ 8 4))) rfl (by kernel_rfl) (by kernel_rfl) (by kernel_rfl) (fun _ _ _ h => h) (Or.inl ⟨by rfl, fun w hSw => by go_simp⟩) hH ?_
            simp only [Act.put, List.setIfInBounds_toArray, List.set_cons_zero, List.set_cons_succ]
            refine wpAnyH_ready (rs := [28, 35]) (by kernel_rfl) (by simp) ?_
            refine AllReadyH.cons rfl (fun K1 hK => ?_) (AllReadyH.cons rfl (fun K1 hK => ?_) AllReadyH.nil)
            · skip
              go_simp
              go_wp2_with (go_at_call 46; refine (qa12.out _ rA.out).mono ?_; rintro e wx ⟨rfl, rfl⟩)
              refine hK.out _ _ hcA (fun _ => ?_)
              clear hK K1
              refine wpAnyH_take (i := 29) (oi := ⟨some 45, _, _, _, _, _⟩) (v := .int .i64 (IntKind.i64.wrap (fv15 bs at_ 12 4))) rfl (by kernel_rfl) (by kernel_rfl) (by kernel_rfl) (fun _ _ _ h => h) (Or.inl ⟨by rfl, fun w hSw => by go_simp⟩) hH ?_
              simp only [Act.put, List.setIfInBounds_toArray, List.set_cons_zero, List.set_cons_succ]
              refine wpAnyH_ready (rs := [33, 35]) (by kernel_rfl) (by simp) ?_
              refine AllReadyH.cons rfl (fun K1 hK => ?_) (AllReadyH.cons rfl (fun K1 hK => ?_) AllReadyH.nil)
              · skip
                go_simp
                go_wp2_with (go_at_call 47; refine (qm16.out _ rA.out).mono ?_; rintro e wx ⟨rfl, rfl⟩)
                refine hK.out _ _ hcA (fun _ => ?_)
                clear hK K1
                refine wpAnyH_take (i := 34) (oi := ⟨some 50, _, _, _, _, _⟩) (v := .agg #[.int .i64 (x0), .int .i64 (IntKind.i64.wrap (fv15 bs at_ 2 2)), .int .i64 (IntKind.i64.wrap (fv15 bs at_ 4 2)), .int .i64 (IntKind.i64.wrap (fv15 bs at_ 6 2)), .int .i64 (IntKind.i64.wrap (fv15 bs at_ 8 4)), .int .i64 (IntKind.i64.wrap (fv15 bs at_ 12 4)), .int .i64 (mn15 (fv15 bs at_ 16 4)), .int .i64 (0), .int .i64 (0), .slice none 0 0, .int .i64 (0), .int .i64 (0), .int .i64 (0), .int .i64 (0), .int .i64 (0), .int .i64 (0), .string (⟨#[]⟩), .int .i64 (0)]) rfl (by kernel_rfl) (by kernel_rfl) (by kernel_rfl) (fun _ _ _ h => h) (Or.inl ⟨by rfl, fun w hSw => by go_simp⟩) hH ?_
                simp only [Act.put, List.setIfInBounds_toArray, List.set_cons_zero, List.set_cons_succ]
                refine wpAnyH_ready (rs := [35]) (by kernel_rfl) (by simp) ?_
                refine AllReadyH.cons rfl (fun K1 hK => ?_) AllReadyH.nil
                go_simp
                refine hK.out _ _ HCB.out (fun _ => ?_)
                clear hK K1
                replace hH := HCB.out
                refine wpAnyH_ready (rs := [36]) (by kernel_rfl) (by simp) ?_
                refine AllReadyH.cons rfl (fun K1 hK => ?_) AllReadyH.nil
                refine step_store15 (by rfl) 24 _ _ (by rfl) W1.heap.size [.int .i64 (x0), .int .i64 (IntKind.i64.wrap (fv15 bs at_ 2 2)), .int .i64 (IntKind.i64.wrap (fv15 bs at_ 4 2)), .int .i64 (IntKind.i64.wrap (fv15 bs at_ 6 2)), .int .i64 (IntKind.i64.wrap (fv15 bs at_ 8 4)), .int .i64 (IntKind.i64.wrap (fv15 bs at_ 12 4)), .int .i64 (mn15 (fv15 bs at_ 16 4)), .int .i64 (0), .int .i64 (0), .slice none 0 0, .int .i64 (0), .int .i64 (0), .int .i64 (0), .int .i64 (0), .int .i64 (0), .int .i64 (0), .string (⟨#[]⟩), .int .i64 (0)] (by rfl) (by rfl) HT0.out.r infoI rfl rfl ?_
                intro W9 b9 g9
                have hc9 : W9.cell? ⟨b, off + at_, none⟩ = some (.int .u8 x0) := by rw [← HCB.out]; have h2 : b < W1.heap.size := cell_lt hcA; simp only [World.cell?]; rw [g9.block b (Nat.lt_of_lt_of_le h2 gB.out.size) (by simp; omega)]; rfl
                refine hK.out _ _ hc9 (fun _ => ?_)
                clear hK K1
                refine wpAnyH_done (by kernel_rfl) ?_ _
                exact HT.out _ ⟨HT0.out.but0 b9 g9, HR.out.grown (HT0.out.but0 b9 g9).gw⟩
              · skip
                go_simp
                refine hK.out _ _ HCB.out (fun _ => ?_)
                clear hK K1
                replace hH := HCB.out
                refine wpAnyH_ready (rs := [33]) (by kernel_rfl) (by simp) ?_
                refine AllReadyH.cons rfl (fun K1 hK => ?_) AllReadyH.nil
                go_simp
                go_wp2_with (go_at_call 47; refine (qm16.out _ rB.out).mono ?_; rintro e wx ⟨rfl, rfl⟩)
                refine hK.out _ _ HCB.out (fun _ => ?_)
                clear hK K1
                refine wpAnyH_take (i := 34) (oi := ⟨some 50, _, _, _, _, _⟩) (v := .agg #[.int .i64 (x0), .int .i64 (IntKind.i64.wrap (fv15 bs at_ 2 2)), .int .i64 (IntKind.i64.wrap (fv15 bs at_ 4 2)), .int .i64 (IntKind.i64.wrap (fv15 bs at_ 6 2)), .int .i64 (IntKind.i64.wrap (fv15 bs at_ 8 4)), .int .i64 (IntKind.i64.wrap (fv15 bs at_ 12 4)), .int .i64 (mn15 (fv15 bs at_ 16 4)), .int .i64 (0), .int .i64 (0), .slice none 0 0, .int .i64 (0), .int .i64 (0), .int .i64 (0), .int .i64 (0), .int .i64 (0), .int .i64 (0), .string (⟨#[]⟩), .int .i64 (0)]) rfl (by kernel_rfl) (by kernel_rfl) (by kernel_rfl) (fun _ _ _ h => h) (Or.inl ⟨by rfl, fun w hSw => by go_simp⟩) hH ?_
                simp only [Act.put, List.setIfInBounds_toArray, List.set_cons_zero, List.set_cons_succ]
                refine wpAnyH_ready (rs := [36]) (by kernel_rfl) (by simp) ?_
                refine AllReadyH.cons rfl (fun K1 hK => ?_) AllReadyH.nil
                refine step_store15 (by rfl) 24 _ _ (by rfl) W1.heap.size [.int .i64 (x0), .int .i64 (IntKind.i64.wrap (fv15 bs at_ 2 2)), .int .i64 (IntKind.i64.wrap (fv15 bs at_ 4 2)), .int .i64 (IntKind.i64.wrap (fv15 bs at_ 6 2)), .int .i64 (IntKind.i64.wrap (fv15 bs at_ 8 4)), .int .i64 (IntKind.i64.wrap (fv15 bs at_ 12 4)), .int .i64 (mn15 (fv15 bs at_ 16 4)), .int .i64 (0), .int .i64 (0), .slice none 0 0, .int .i64 (0), .int .i64 (0), .int .i64 (0), .int .i64 (0), .int .i64 (0), .int .i64 (0), .string (⟨#[]⟩), .int .i64 (0)] (by rfl) (by rfl) HT0.out.r infoI rfl rfl ?_
                intro W9 b9 g9
                have hc9 : W9.cell? ⟨b, off + at_, none⟩ = some (.int .u8 x0) := by rw [← HCB.out]; have h2 : b < W1.heap.size := cell_lt hcA; simp only [World.cell?]; rw [g9.block b (Nat.lt_of_lt_of_le h2 gB.out.size) (by simp; omega)]; rfl
                refine hK.out _ _ hc9 (fun _ => ?_)
                clear hK K1
                refine wpAnyH_done (by kernel_rfl) ?_ _
                exact HT.out _ ⟨HT0.out.but0 b9 g9, HR.out.grown (HT0.out.but0 b9 g9).gw⟩
            · skip
              go_simp
              refine hK.out _ _ HCB.out (fun _ => ?_)
              clear hK K1
              replace hH := HCB.out
              refine wpAnyH_ready (rs := [28]) (by kernel_rfl) (by simp) ?_
              refine AllReadyH.cons rfl (fun K1 hK => ?_) AllReadyH.nil
              go_simp
              go_wp2_with (go_at_call 46; refine (qa12.out _ rB.out).mono ?_; rintro e wx ⟨rfl, rfl⟩)
              refine hK.out _ _ HCB.out (fun _ => ?_)
              clear hK K1
              refine wpAnyH_take (i := 29) (oi := ⟨some 45, _, _, _, _, _⟩) (v := .int .i64 (IntKind.i64.wrap (fv15 bs at_ 12 4))) rfl (by kernel_rfl) (by kernel_rfl) (by kernel_rfl) (fun _ _ _ h => h) (Or.inl ⟨by rfl, fun w hSw => by go_simp⟩) hH ?_
              simp only [Act.put, List.setIfInBounds_toArray, List.set_cons_zero, List.set_cons_succ]
              refine wpAnyH_ready (rs := [33]) (by kernel_rfl) (by simp) ?_
              refine AllReadyH.cons rfl (fun K1 hK => ?_) AllReadyH.nil
              go_simp
              go_wp2_with (go_at_call 47; refine (qm16.out _ rB.out).mono ?_; rintro e wx ⟨rfl, rfl⟩)
              refine hK.out _ _ HCB.out (fun _ => ?_)
              clear hK K1
              refine wpAnyH_take (i := 34) (oi := ⟨some 50, _, _, _, _, _⟩) (v := .agg #[.int .i64 (x0), .int .i64 (IntKind.i64.wrap (fv15 bs at_ 2 2)), .int .i64 (IntKind.i64.wrap (fv15 bs at_ 4 2)), .int .i64 (IntKind.i64.wrap (fv15 bs at_ 6 2)), .int .i64 (IntKind.i64.wrap (fv15 bs at_ 8 4)), .int .i64 (IntKind.i64.wrap (fv15 bs at_ 12 4)), .int .i64 (mn15 (fv15 bs at_ 16 4)), .int .i64 (0), .int .i64 (0), .slice none 0 0, .int .i64 (0), .int .i64 (0), .int .i64 (0), .int .i64 (0), .int .i64 (0), .int .i64 (0), .string (⟨#[]⟩), .int .i64 (0)]) rfl (by kernel_rfl) (by kernel_rfl) (by kernel_rfl) (fun _ _ _ h => h) (Or.inl ⟨by rfl, fun w hSw => by go_simp⟩) hH ?_
              simp only [Act.put, List.setIfInBounds_toArray, List.set_cons_zero, List.set_cons_succ]
              refine wpAnyH_ready (rs := [36]) (by kernel_rfl) (by simp) ?_
              refine AllReadyH.cons rfl (fun K1 hK => ?_) AllReadyH.nil
              refine step_store15 (by rfl) 24 _ _ (by rfl) W1.heap.size [.int .i64 (x0), .int .i64 (IntKind.i64.wrap (fv15 bs at_ 2 2)), .int .i64 (IntKind.i64.wrap (fv15 bs at_ 4 2)), .int .i64 (IntKind.i64.wrap (fv15 bs at_ 6 2)), .int .i64 (IntKind.i64.wrap (fv15 bs at_ 8 4)), .int .i64 (IntKind.i64.wrap (fv15 bs at_ 12 4)), .int .i64 (mn15 (fv15 bs at_ 16 4)), .int .i64 (0), .int .i64 (0), .slice none 0 0, .int .i64 (0), .int .i64 (0), .int .i64 (0), .int .i64 (0), .int .i64 (0), .int .i64 (0), .string (⟨#[]⟩), .int .i64 (0)] (by rfl) (by rfl) HT0.out.r infoI rfl rfl ?_
              intro W9 b9 g9
              have hc9 : W9.cell? ⟨b, off + at_, none⟩ = some (.int .u8 x0) := by rw [← HCB.out]; have h2 : b < W1.heap.size := cell_lt hcA; simp only [World.cell?]; rw [g9.block b (Nat.lt_of_lt_of_le h2 gB.out.size) (by simp; omega)]; rfl
              refine hK.out _ _ hc9 (fun _ => ?_)
              clear hK K1
              refine wpAnyH_done (by kernel_rfl) ?_ _
              exact HT.out _ ⟨HT0.out.but0 b9 g9, HR.out.grown (HT0.out.but0 b9 g9).gw⟩
          · skip
            go_simp
            refine hK.out _ _ HCB.out (fun _ => ?_)
            clear hK K1
            replace hH := HCB.out
            refine wpAnyH_ready (rs := [23]) (by kernel_rfl) (by simp) ?_
            refine AllReadyH.cons rfl (fun K1 hK => ?_) AllReadyH.nil
            go_simp
            go_wp2_with (go_at_call 46; refine (qa8.out _ rB.out).mono ?_; rintro e wx ⟨rfl, rfl⟩)
            refine hK.out _ _ HCB.out (fun _ => ?_)
            clear hK K1
            refine wpAnyH_take (i := 24) (oi := ⟨some 40, _, _, _, _, _⟩) (v := .int .i64 (IntKind.i64.wrap (fv15 bs at_ 8 4))) rfl (by kernel_rfl) (by kernel_rfl) (by kernel_rfl) (fun _ _ _ h => h) (Or.inl ⟨by rfl, fun w hSw => by go_simp⟩) hH ?_
            simp only [Act.put, List.setIfInBounds_toArray, List.set_cons_zero, List.set_cons_succ]
            refine wpAnyH_ready (rs := [28]) (by kernel_rfl) (by simp) ?_
            refine AllReadyH.cons rfl (fun K1 hK => ?_) AllReadyH.nil
            go_simp
            go_wp2_with (go_at_call 46; refine (qa12.out _ rB.out).mono ?_; rintro e wx ⟨rfl, rfl⟩)
            refine hK.out _ _ HCB.out (fun _ => ?_)
            clear hK K1
            refine wpAnyH_take (i := 29) (oi := ⟨some 45, _, _, _, _, _⟩) (v := .int .i64 (IntKind.i64.wrap (fv15 bs at_ 12 4))) rfl (by kernel_rfl) (by kernel_rfl) (by kernel_rfl) (fun _ _ _ h => h) (Or.inl ⟨by rfl, fun w hSw => by go_simp⟩) hH ?_
            simp only [Act.put, List.setIfInBounds_toArray, List.set_cons_zero, List.set_cons_succ]
            refine wpAnyH_ready (rs := [33]) (by kernel_rfl) (by simp) ?_
            refine AllReadyH.cons rfl (fun K1 hK => ?_) AllReadyH.nil
            go_simp
            go_wp2_with (go_at_call 47; refine (qm16.out _ rB.out).mono ?_; rintro e wx ⟨rfl, rfl⟩)
            refine hK.out _ _ HCB.out (fun _ => ?_)
            clear hK K1
            refine wpAnyH_take (i := 34) (oi := ⟨some 50, _, _, _, _, _⟩) (v := .agg #[.int .i64 (x0), .int .i64 (IntKind.i64.wrap (fv15 bs at_ 2 2)), .int .i64 (IntKind.i64.wrap (fv15 bs at_ 4 2)), .int .i64 (IntKind.i64.wrap (fv15 bs at_ 6 2)), .int .i64 (IntKind.i64.wrap (fv15 bs at_ 8 4)), .int .i64 (IntKind.i64.wrap (fv15 bs at_ 12 4)), .int .i64 (mn15 (fv15 bs at_ 16 4)), .int .i64 (0), .int .i64 (0), .slice none 0 0, .int .i64 (0), .int .i64 (0), .int .i64 (0), .int .i64 (0), .int .i64 (0), .int .i64 (0), .string (⟨#[]⟩), .int .i64 (0)]) rfl (by kernel_rfl) (by kernel_rfl) (by kernel_rfl) (fun _ _ _ h => h) (Or.inl ⟨by rfl, fun w hSw => by go_simp⟩) hH ?_
            simp only [Act.put, List.setIfInBounds_toArray, List.set_cons_zero, List.set_cons_succ]
            refine wpAnyH_ready (rs := [36]) (by kernel_rfl) (by simp) ?_
            refine AllReadyH.cons rfl (fun K1 hK => ?_) AllReadyH.nil
            refine step_store15 (by rfl) 24 _ _ (by rfl) W1.heap.size [.int .i64 (x0), .int .i64 (IntKind.i64.wrap (fv15 bs at_ 2 2)), .int .i64 (IntKind.i64.wrap (fv15 bs at_ 4 2)), .int .i64 (IntKind.i64.wrap (fv15 bs at_ 6 2)), .int .i64 (IntKind.i64.wrap (fv15 bs at_ 8 4)), .int .i64 (IntKind.i64.wrap (fv15 bs at_ 12 4)), .int .i64 (mn15 (fv15 bs at_ 16 4)), .int .i64 (0), .int .i64 (0), .slice none 0 0, .int .i64 (0), .int .i64 (0), .int .i64 (0), .int .i64 (0), .int .i64 (0), .int .i64 (0), .string (⟨#[]⟩), .int .i64 (0)] (by rfl) (by rfl) HT0.out.r infoI rfl rfl ?_
            intro W9 b9 g9
            have hc9 : W9.cell? ⟨b, off + at_, none⟩ = some (.int .u8 x0) := by rw [← HCB.out]; have h2 : b < W1.heap.size := cell_lt hcA; simp only [World.cell?]; rw [g9.block b (Nat.lt_of_lt_of_le h2 gB.out.size) (by simp; omega)]; rfl
            refine hK.out _ _ hc9 (fun _ => ?_)
            clear hK K1
            refine wpAnyH_done (by kernel_rfl) ?_ _
            exact HT.out _ ⟨HT0.out.but0 b9 g9, HR.out.grown (HT0.out.but0 b9 g9).gw⟩
        · skip
          go_simp
          refine hK.out _ _ HCB.out (fun _ => ?_)
          clear hK K1
          replace hH := HCB.out
          refine wpAnyH_ready (rs := [18]) (by kernel_rfl) (by simp) ?_
          refine AllReadyH.cons rfl (fun K1 hK => ?_) AllReadyH.nil
          go_simp
          go_wp2_with (go_at_call 46; refine (qa6.out _ rB.out).mono ?_; rintro e wx ⟨rfl, rfl⟩)
          refine hK.out _ _ HCB.out (fun _ => ?_)
          clear hK K1
          refine wpAnyH_take (i := 19) (oi := ⟨some 35, _, _, _, _, _⟩) (v := .int .i64 (IntKind.i64.wrap (fv15 bs at_ 6 2))) rfl (by kernel_rfl) (by kernel_rfl) (by kernel_rfl) (fun _ _ _ h => h) (Or.inl ⟨by rfl, fun w hSw => by go_simp⟩) hH ?_
          simp only [Act.put, List.setIfInBounds_toArray, List.set_cons_zero, List.set_cons_succ]
          refine wpAnyH_ready (rs := [23]) (by kernel_rfl) (by simp) ?_
          refine AllReadyH.cons rfl (fun K1 hK => ?_) AllReadyH.nil
          go_simp
          go_wp2_with (go_at_call 46; refine (qa8.out _ rB.out).mono ?_; rintro e wx ⟨rfl, rfl⟩)
          refine hK.out _ _ HCB.out (fun _ => ?_)
          clear hK K1
          refine wpAnyH_take (i := 24) (oi := ⟨some 40, _, _, _, _, _⟩) (v := .int .i64 (IntKind.i64.wrap (fv15 bs at_ 8 4))) rfl (by kernel_rfl) (by kernel_rfl) (by kernel_rfl) (fun _ _ _ h => h) (Or.inl ⟨by rfl, fun w hSw => by go_simp⟩) hH ?_
          simp only [Act.put, List.setIfInBounds_toArray, List.set_cons_zero, List.set_cons_succ]
          refine wpAnyH_ready (rs := [28]) (by kernel_rfl) (by simp) ?_
          refine AllReadyH.cons rfl (fun K1 hK => ?_) AllReadyH.nil
          go_simp
          go_wp2_with (go_at_call 46; refine (qa12.out _ rB.out).mono ?_; rintro e wx ⟨rfl, rfl⟩)
          refine hK.out _ _ HCB.out (fun _ => ?_)
          clear hK K1
          refine wpAnyH_take (i := 29) (oi := ⟨some 45, _, _, _, _, _⟩) (v := .int .i64 (IntKind.i64.wrap (fv15 bs at_ 12 4))) rfl (by kernel_rfl) (by kernel_rfl) (by kernel_rfl) (fun _ _ _ h => h) (Or.inl ⟨by rfl, fun w hSw => by go_simp⟩) hH ?_
          simp only [Act.put, List.setIfInBounds_toArray, List.set_cons_zero, List.set_cons_succ]
          refine wpAnyH_ready (rs := [33]) (by kernel_rfl) (by simp) ?_
          refine AllReadyH.cons rfl (fun K1 hK => ?_) AllReadyH.nil
          go_simp
          go_wp2_with (go_at_call 47; refine (qm16.out _ rB.out).mono ?_; rintro e wx ⟨rfl, rfl⟩)
          refine hK.out _ _ HCB.out (fun _ => ?_)
          clear hK K1
          refine wpAnyH_take (i := 34) (oi := ⟨some 50, _, _, _, _, _⟩) (v := .agg #[.int .i64 (x0), .int .i64 (IntKind.i64.wrap (fv15 bs at_ 2 2)), .int .i64 (IntKind.i64.wrap (fv15 bs at_ 4 2)), .int .i64 (IntKind.i64.wrap (fv15 bs at_ 6 2)), .int .i64 (IntKind.i64.wrap (fv15 bs at_ 8 4)), .int .i64 (IntKind.i64.wrap (fv15 bs at_ 12 4)), .int .i64 (mn15 (fv15 bs at_ 16 4)), .int .i64 (0), .int .i64 (0), .slice none 0 0, .int .i64 (0), .int .i64 (0), .int .i64 (0), .int .i64 (0), .int .i64 (0), .int .i64 (0), .string (⟨#[]⟩), .int .i64 (0)]) rfl (by kernel_rfl) (by kernel_rfl) (by kernel_rfl) (fun _ _ _ h => h) (Or.inl ⟨by rfl, fun w hSw => by go_simp⟩) hH ?_
          simp only [Act.put, List.setIfInBounds_toArray, List.set_cons_zero, List.set_cons_succ]
          refine wpAnyH_ready (rs := [36]) (by kernel_rfl) (by simp) ?_
          refine AllReadyH.cons rfl (fun K1 hK => ?_) AllReadyH.nil
          refine step_store15 (by rfl) 24 _ _ (by rfl) W1.heap.size [.int .i64 (x0), .int .i64 (IntKind.i64.wrap (fv15 bs at_ 2 2)), .int .i64 (IntKind.i64.wrap (fv15 bs at_ 4 2)), .int .i64 (IntKind.i64.wrap (fv15 bs at_ 6 2)), .int .i64 (IntKind.i64.wrap (fv15 bs at_ 8 4)), .int .i64 (IntKind.i64.wrap (fv15 bs at_ 12 4)), .int .i64 (mn15 (fv15 bs at_ 16 4)), .int .i64 (0), .int .i64 (0), .slice none 0 0, .int .i64 (0), .int .i64 (0), .int .i64 (0), .int .i64 (0), .int .i64 (0), .int .i64 (0), .string (⟨#[]⟩), .int .i64 (0)] (by rfl) (by rfl) HT0.out.r infoI rfl rfl ?_
          intro W9 b9 g9
          have hc9 : W9.cell? ⟨b, off + at_, none⟩ = some (.int .u8 x0) := by rw [← HCB.out]; have h2 : b < W1.heap.size := cell_lt hcA; simp only [World.cell?]; rw [g9.block b (Nat.lt_of_lt_of_le h2 gB.out.size) (by simp; omega)]; rfl
          refine hK.out _ _ hc9 (fun _ => ?_)
          clear hK K1
          refine wpAnyH_done (by kernel_rfl) ?_ _
          exact HT.out _ ⟨HT0.out.but0 b9 g9, HR.out.grown (HT0.out.but0 b9 g9).gw⟩
      · skip
        go_simp
        refine hK.out _ _ HCB.out (fun _ => ?_)
        clear hK K1
        replace hH := HCB.out
        refine wpAnyH_ready (rs := [13]) (by kernel_rfl) (by simp) ?_
        refine AllReadyH.cons rfl (fun K1 hK => ?_) AllReadyH.nil
        go_simp
        go_wp2_with (go_at_call 46; refine (qa4.out _ rB.out).mono ?_; rintro e wx ⟨rfl, rfl⟩)
        refine hK.out _ _ HCB.out (fun _ => ?_)
        clear hK K1
        refine wpAnyH_take (i := 14) (oi := ⟨some 30, _, _, _, _, _⟩) (v := .int .i64 (IntKind.i64.wrap (fv15 bs at_ 4 2))) rfl (by kernel_rfl) (by kernel_rfl) (by kernel_rfl) (fun _ _ _ h => h) (Or.inl ⟨by rfl, fun w hSw => by go_simp⟩) hH ?_
        simp only [Act.put, List.setIfInBounds_toArray, List.set_cons_zero, List.set_cons_succ]
        refine wpAnyH_ready (rs := [18]) (by kernel_rfl) (by simp) ?_
        refine AllReadyH.cons rfl (fun K1 hK => ?_) AllReadyH.nil
        go_simp
        go_wp2_with (go_at_call 46; refine (qa6.out _ rB.out).mono ?_; rintro e wx ⟨rfl, rfl⟩)
        refine hK.out _ _ HCB.out (fun _ => ?_)
        clear hK K1
        refine wpAnyH_take (i := 19) (oi := ⟨some 35, _, _, _, _, _⟩) (v := .int .i64 (IntKind.i64.wrap (fv15 bs at_ 6 2))) rfl (by kernel_rfl) (by kernel_rfl) (by kernel_rfl) (fun _ _ _ h => h) (Or.inl ⟨by rfl, fun w hSw => by go_simp⟩) hH ?_
        simp only [Act.put, List.setIfInBounds_toArray, List.set_cons_zero, List.set_cons_succ]
        refine wpAnyH_ready (rs := [23]) (by kernel_rfl) (by simp) ?_
        refine AllReadyH.cons rfl (fun K1 hK => ?_) AllReadyH.nil
        go_simp
        go_wp2_with (go_at_call 46; refine (qa8.out _ rB.out).mono ?_; rintro e wx ⟨rfl, rfl⟩)
        refine hK.out _ _ HCB.out (fun _ => ?_)
        clear hK K1
        refine wpAnyH_take (i := 24) (oi := ⟨some 40, _, _, _, _, _⟩) (v := .int .i64 (IntKind.i64.wrap (fv15 bs at_ 8 4))) rfl (by kernel_rfl) (by kernel_rfl) (by kernel_rfl) (fun _ _ _ h => h) (Or.inl ⟨by rfl, fun w hSw => by go_simp⟩) hH ?_
        simp only [Act.put, List.setIfInBounds_toArray, List.set_cons_zero, List.set_cons_succ]
        refine wpAnyH_ready (rs := [28]) (by kernel_rfl) (by simp) ?_
        refine AllReadyH.cons rfl (fun K1 hK => ?_) AllReadyH.nil
        go_simp
        go_wp2_with (go_at_call 46; refine (qa12.out _ rB.out).mono ?_; rintro e wx ⟨rfl, rfl⟩)
        refine hK.out _ _ HCB.out (fun _ => ?_)
        clear hK K1
        refine wpAnyH_take (i := 29) (oi := ⟨some 45, _, _, _, _, _⟩) (v := .int .i64 (IntKind.i64.wrap (fv15 bs at_ 12 4))) rfl (by kernel_rfl) (by kernel_rfl) (by kernel_rfl) (fun _ _ _ h => h) (Or.inl ⟨by rfl, fun w hSw => by go_simp⟩) hH ?_
        simp only [Act.put, List.setIfInBounds_toArray, List.set_cons_zero, List.set_cons_succ]
        refine wpAnyH_ready (rs := [33]) (by kernel_rfl) (by simp) ?_
        refine AllReadyH.cons rfl (fun K1 hK => ?_) AllReadyH.nil
        go_simp
        go_wp2_with (go_at_call 47; refine (qm16.out _ rB.out).mono ?_; rintro e wx ⟨rfl, rfl⟩)
        refine hK.out _ _ HCB.out (fun _ => ?_)
        clear hK K1
        refine wpAnyH_take (i := 34) (oi := ⟨some 50, _, _, _, _, _⟩) (v := .agg #[.int .i64 (x0), .int .i64 (IntKind.i64.wrap (fv15 bs at_ 2 2)), .int .i64 (IntKind.i64.wrap (fv15 bs at_ 4 2)), .int .i64 (IntKind.i64.wrap (fv15 bs at_ 6 2)), .int .i64 (IntKind.i64.wrap (fv15 bs at_ 8 4)), .int .i64 (IntKind.i64.wrap (fv15 bs at_ 12 4)), .int .i64 (mn15 (fv15 bs at_ 16 4)), .int .i64 (0), .int .i64 (0), .slice none 0 0, .int .i64 (0), .int .i64 (0), .int .i64 (0), .int .i64 (0), .int .i64 (0), .int .i64 (0), .string (⟨#[]⟩), .int .i64 (0)]) rfl (by kernel_rfl) (by kernel_rfl) (by kernel_rfl) (fun _ _ _ h => h) (Or.inl ⟨by rfl, fun w hSw => by go_simp⟩) hH ?_
        simp only [Act.put, List.setIfInBounds_toArray, List.set_cons_zero, List.set_cons_succ]
        refine wpAnyH_ready (rs := [36]) (by kernel_rfl) (by simp) ?_
        refine AllReadyH.cons rfl (fun K1 hK => ?_) AllReadyH.nil
        refine step_store15 (by rfl) 24 _ _ (by rfl) W1.heap.size [.int .i64 (x0), .int .i64 (IntKind.i64.wrap (fv15 bs at_ 2 2)), .int .i64 (IntKind.i64.wrap (fv15 bs at_ 4 2)), .int .i64 (IntKind.i64.wrap (fv15 bs at_ 6 2)), .int .i64 (IntKind.i64.wrap (fv15 bs at_ 8 4)), .int .i64 (IntKind.i64.wrap (fv15 bs at_ 12 4)), .int .i64 (mn15 (fv15 bs at_ 16 4)), .int .i64 (0), .int .i64 (0), .slice none 0 0, .int .i64 (0), .int .i64 (0), .int .i64 (0), .int .i64 (0), .int .i64 (0), .int .i64 (0), .string (⟨#[]⟩), .int .i64 (0)] (by rfl) (by rfl) HT0.out.r infoI rfl rfl ?_
        intro W9 b9 g9
        have hc9 : W9.cell? ⟨b, off + at_, none⟩ = some (.int .u8 x0) := by rw [← HCB.out]; have h2 : b < W1.heap.size := cell_lt hcA; simp only [World.cell?]; rw [g9.block b (Nat.lt_of_lt_of_le h2 gB.out.size) (by simp; omega)]; rfl
        refine hK.out _ _ hc9 (fun _ => ?_)
        clear hK K1
        refine wpAnyH_done (by kernel_rfl) ?_ _
        exact HT.out _ ⟨HT0.out.but0 b9 g9, HR.out.grown (HT0.out.but0 b9 g9).gw⟩
    · skip
      go_simp
      refine hK.out _ _ HCB.out (fun _ => ?_)
      clear hK K1
      replace hH := HCB.out
      refine wpAnyH_ready (rs := [8]) (by kernel_rfl) (by simp) ?_
      refine AllReadyH.cons rfl (fun K1 hK => ?_) AllReadyH.nil
      go_simp
      go_wp2_with (go_at_call 46; refine (qa2.out _ rB.out).mono ?_; rintro e wx ⟨rfl, rfl⟩)
      refine hK.out _ _ HCB.out (fun _ => ?_)
      clear hK K1
      refine wpAnyH_take (i := 9) (oi := ⟨some 25, _, _, _, _, _⟩) (v := .int .i64 (IntKind.i64.wrap (fv15 bs at_ 2 2))) rfl (by kernel_rfl) (by kernel_rfl) (by kernel_rfl) (fun _ _ _ h => h) (Or.inl ⟨by rfl, fun w hSw => by go_simp⟩) hH ?_
      simp only [Act.put, List.setIfInBounds_toArray, List.set_cons_zero, List.set_cons_succ]
      refine wpAnyH_ready (rs := [13]) (by kernel_rfl) (by simp) ?_
      refine AllReadyH.cons rfl (fun K1 hK => ?_) AllReadyH.nil
      go_simp
      go_wp2_with (go_at_call 46; refine (qa4.out _ rB.out).mono ?_; rintro e wx ⟨rfl, rfl⟩)
      refine hK.out _ _ HCB.out (fun _ => ?_)
      clear hK K1
      refine wpAnyH_take (i := 14) (oi := ⟨some 30, _, _, _, _, _⟩) (v := .int .i64 (IntKind.i64.wrap (fv15 bs at_ 4 2))) rfl (by kernel_rfl) (by kernel_rfl) (by kernel_rfl) (fun _ _ _ h => h) (Or.inl ⟨by rfl, fun w hSw => by go_simp⟩) hH ?_
      simp only [Act.put, List.setIfInBounds_toArray, List.set_cons_zero, List.set_cons_succ]
      refine wpAnyH_ready (rs := [18]) (by kernel_rfl) (by simp) ?_
      refine AllReadyH.cons rfl (fun K1 hK => ?_) AllReadyH.nil
      go_simp
      go_wp2_with (go_at_call 46; refine (qa6.out _ rB.out).mono ?_; rintro e wx ⟨rfl, rfl⟩)
      refine hK.out _ _ HCB.out (fun _ => ?_)
      clear hK K1
      refine wpAnyH_take (i := 19) (oi := ⟨some 35, _, _, _, _, _⟩) (v := .int .i64 (IntKind.i64.wrap (fv15 bs at_ 6 2))) rfl (by kernel_rfl) (by kernel_rfl) (by kernel_rfl) (fun _ _ _ h => h) (Or.inl ⟨by rfl, fun w hSw => by go_simp⟩) hH ?_
      simp only [Act.put, List.setIfInBounds_toArray, List.set_cons_zero, List.set_cons_succ]
      refine wpAnyH_ready (rs := [23]) (by kernel_rfl) (by simp) ?_
      refine AllReadyH.cons rfl (fun K1 hK => ?_) AllReadyH.nil
      go_simp
      go_wp2_with (go_at_call 46; refine (qa8.out _ rB.out).mono ?_; rintro e wx ⟨rfl, rfl⟩)
      refine hK.out _ _ HCB.out (fun _ => ?_)
      clear hK K1
      refine wpAnyH_take (i := 24) (oi := ⟨some 40, _, _, _, _, _⟩) (v := .int .i64 (IntKind.i64.wrap (fv15 bs at_ 8 4))) rfl (by kernel_rfl) (by kernel_rfl) (by kernel_rfl) (fun _ _ _ h => h) (Or.inl ⟨by rfl, fun w hSw => by go_simp⟩) hH ?_
      simp only [Act.put, List.setIfInBounds_toArray, List.set_cons_zero, List.set_cons_succ]
      refine wpAnyH_ready (rs := [28]) (by kernel_rfl) (by simp) ?_
      refine AllReadyH.cons rfl (fun K1 hK => ?_) AllReadyH.nil
      go_simp
      go_wp2_with (go_at_call 46; refine (qa12.out _ rB.out).mono ?_; rintro e wx ⟨rfl, rfl⟩)
      refine hK.out _ _ HCB.out (fun _ => ?_)
      clear hK K1
      refine wpAnyH_take (i := 29) (oi := ⟨some 45, _, _, _, _, _⟩) (v := .int .i64 (IntKind.i64.wrap (fv15 bs at_ 12 4))) rfl (by kernel_rfl) (by kernel_rfl) (by kernel_rfl) (fun _ _ _ h => h) (Or.inl ⟨by rfl, fun w hSw => by go_simp⟩) hH ?_
      simp only [Act.put, List.setIfInBounds_toArray, List.set_cons_zero, List.set_cons_succ]
      refine wpAnyH_ready (rs := [33]) (by kernel_rfl) (by simp) ?_
      refine AllReadyH.cons rfl (fun K1 hK => ?_) AllReadyH.nil
      go_simp
      go_wp2_with (go_at_call 47; refine (qm16.out _ rB.out).mono ?_; rintro e wx ⟨rfl, rfl⟩)
      refine hK.out _ _ HCB.out (fun _ => ?_)
      clear hK K1
      refine wpAnyH_take (i := 34) (oi := ⟨some 50, _, _, _, _, _⟩) (v := .agg #[.int .i64 (x0), .int .i64 (IntKind.i64.wrap (fv15 bs at_ 2 2)), .int .i64 (IntKind.i64.wrap (fv15 bs at_ 4 2)), .int .i64 (IntKind.i64.wrap (fv15 bs at_ 6 2)), .int .i64 (IntKind.i64.wrap (fv15 bs at_ 8 4)), .int .i64 (IntKind.i64.wrap (fv15 bs at_ 12 4)), .int .i64 (mn15 (fv15 bs at_ 16 4)), .int .i64 (0), .int .i64 (0), .slice none 0 0, .int .i64 (0), .int .i64 (0), .int .i64 (0), .int .i64 (0), .int .i64 (0), .int .i64 (0), .string (⟨#[]⟩), .int .i64 (0)]) rfl (by kernel_rfl) (by kernel_rfl) (by kernel_rfl) (fun _ _ _ h => h) (Or.inl ⟨by rfl, fun w hSw => by go_simp⟩) hH ?_
      simp only [Act.put, List.setIfInBounds_toArray, List.set_cons_zero, List.set_cons_succ]
      refine wpAnyH_ready (rs := [36]) (by kernel_rfl) (by simp) ?_
      refine AllReadyH.cons rfl (fun K1 hK => ?_) AllReadyH.nil
      refine step_store15 (by rfl) 24 _ _ (by rfl) W1.heap.size [.int .i64 (x0), .int .i64 (IntKind.i64.wrap (fv15 bs at_ 2 2)), .int .i64 (IntKind.i64.wrap (fv15 bs at_ 4 2)), .int .i64 (IntKind.i64.wrap (fv15 bs at_ 6 2)), .int .i64 (IntKind.i64.wrap (fv15 bs at_ 8 4)), .int .i64 (IntKind.i64.wrap (fv15 bs at_ 12 4)), .int .i64 (mn15 (fv15 bs at_ 16 4)), .int .i64 (0), .int .i64 (0), .slice none 0 0, .int .i64 (0), .int .i64 (0), .int .i64 (0), .int .i64 (0), .int .i64 (0), .int .i64 (0), .string (⟨#[]⟩), .int .i64 (0)] (by rfl) (by rfl) HT0.out.r infoI rfl rfl ?_
      intro W9 b9 g9
      have hc9 : W9.cell? ⟨b, off + at_, none⟩ = some (.int .u8 x0) := by rw [← HCB.out]; have h2 : b < W1.heap.size := cell_lt hcA; simp only [World.cell?]; rw [g9.block b (Nat.lt_of_lt_of_le h2 gB.out.size) (by simp; omega)]; rfl
      refine hK.out _ _ hc9 (fun _ => ?_)
      clear hK K1
      refine wpAnyH_done (by kernel_rfl) ?_ _
      exact HT.out _ ⟨HT0.out.but0 b9 g9, HR.out.grown (HT0.out.but0 b9 g9).gw⟩
  case h1 =>
    intro W hT
    dsimp only
    obtain ⟨hg, hR⟩ := hT
    have HGs : Hid _ := hg
    have HRW : Hid _ := hR
    have d0 := hg.r.c 0
    simp only [List.getElem?_cons_zero] at d0
    clear hg hR rA rB HT0 HCB gA gB hcA qa2 qa4 qa6 qa8 qa12 qm16 HZ HG
    by_cases h1 : x0 = 1
    · skip
      subst h1
      have HX0 : Hid (in64 1) := in64_1
      clear hx0 HX
      by_cases c2 : len < at_ + 48
      · skip
        have c4 : (len : Int) < (at_ : Int) + 48 := by omega
        go_wp2_with (first | ((with_reducible refine inoHere ?_); refine wpList_loadG (by first | rfl | fail) 24 _ rfl W1.heap.size rfl (HGs.out).r Try.underlying24 rfl infoI ?_) | ((with_reducible refine inoStore ?_); refine wpList_storeB rfl 24 _ _ rfl w.heap.size [.int .i64 (1), .int .i64 (IntKind.i64.wrap (fv15 bs at_ 2 2)), .int .i64 (IntKind.i64.wrap (fv15 bs at_ 4 2)), .int .i64 (IntKind.i64.wrap (fv15 bs at_ 6 2)), .int .i64 (IntKind.i64.wrap (fv15 bs at_ 8 4)), .int .i64 (IntKind.i64.wrap (fv15 bs at_ 12 4)), .int .i64 (mn15 (fv15 bs at_ 16 4)), .int .i64 (0), .int .i64 (0), .slice none 0 0, .int .i64 (0), .int .i64 (0), .int .i64 (0), .int .i64 (0), .int .i64 (0), .int .i64 (0), .string (⟨#[]⟩), .int .i64 (0)] rfl rfl (HGs.out).z infoI rfl rfl ?_; intro W6 b6 g6) | fail)
        exact bodyPost_ret (results_cell_1 rfl _ _ w.heap.size 24 _ (0, 0) _ rfl b6.blk Try.underlying24 rfl infoI) rfl (by exact ⟨⟨(1), (IntKind.i64.wrap (fv15 bs at_ 2 2)), (IntKind.i64.wrap (fv15 bs at_ 4 2)), (IntKind.i64.wrap (fv15 bs at_ 6 2)), (IntKind.i64.wrap (fv15 bs at_ 8 4)), (IntKind.i64.wrap (fv15 bs at_ 12 4)), (mn15 (fv15 bs at_ 16 4)), (0), (0), none, 0, 0, [], (0), (0), (0), (0), (0), (0), ⟨#[]⟩, (0)⟩, false, rfl, ⟨⟨HX0.out, in64_wrap _, in64_wrap _, in64_wrap _, in64_wrap _, in64_wrap _, mn_in _, in64_0, in64_0, in64_0, in64_0, in64_0, in64_0, in64_0, in64_0, in64_0⟩, irow_nil _, ⟨Nat.le_refl _, Nat.zero_le _⟩, Nat.zero_le _⟩, rfl, fun n0 h0 _ => absurd ((enb_len h0.1.1 h0.2.1).1 (HKD.out n0 h0)) (fun e => by have := pre_l h0; rw [e, HLB.out] at this; omega), far_none, grown_new (HGs.out).gw g6 (Nat.le_refl _)⟩)
      · skip
        have c4 : ¬ (len : Int) < (at_ : Int) + 48 := by omega
        have HC1 : Hid (at_ + 48 ≤ len) := by show _ ≤ _; omega
        obtain ⟨k, hk⟩ : ∃ k : Nat, fv15 bs at_ 44 4 = (k : Int) := ⟨(fv15 bs at_ 44 4).toNat, by have := (fv_bd HB.out at_ 44 4).1; omega⟩
        have hkb : k < 4294967296 := by have := (fv_bd HB.out at_ 44 4).2; rw [hk] at this; have e : (256 : Int) ^ 4 = 4294967296 := rfl; omega
        have HKk : Hid (fv15 bs at_ 44 4 = (k : Int)) := hk
        rw [hk] at qd44
        have hle := HLE.out
        have hwk : Hid (IntKind.i64.wrap (k : Int) = (k : Int)) := wr_in (by omega) (by omega)
        have d7 := HGs.out.r.c 7
        have d8 := HGs.out.r.c 8
        have d10 := HGs.out.r.c 10
        have d11 := HGs.out.r.c 11
        have d12 := HGs.out.r.c 12
        simp only [List.getElem?_cons_zero, List.getElem?_cons_succ] at d7 d8 d10 d11 d12
        have z7 := bx_frz HGs.out.r 7
        have z8 := bx_frz HGs.out.r 8
        have z10 := bx_frz HGs.out.r 10
        have z11 := bx_frz HGs.out.r 11
        have z12 := bx_frz HGs.out.r 12
        have w1 : IntKind.i64.wrap ((len : Int) - (at_ : Int)) = (len : Int) - (at_ : Int) := wr_in (by omega) (by omega)
        have w2 : IntKind.i64.wrap ((len : Int) - (at_ : Int) - 48) = (len : Int) - (at_ : Int) - 48 := wr_in (by clear w1; omega) (by clear w1; omega)
        have wk := hwk.out
        go_wp2_with (first | (go_at_call 46; first | ((with_reducible refine (qd20.out HC1.out _ HRW.out).mono ?_); rintro e wx ⟨rfl, rfl⟩) | ((with_reducible refine (qd28.out HC1.out _ HRW.out).mono ?_); rintro e wx ⟨rfl, rfl⟩) | ((with_reducible refine (qd36.out HC1.out _ HRW.out).mono ?_); rintro e wx ⟨rfl, rfl⟩) | ((with_reducible refine (qd40.out HC1.out _ HRW.out).mono ?_); rintro e wx ⟨rfl, rfl⟩)) | (go_at_call 47; (with_reducible refine (qm32.out HC1.out _ HRW.out).mono ?_); rintro e wx ⟨rfl, rfl⟩) | fail)
        have HG2 : Hid (Gs15 w ((((((W).setCell ⟨W1.heap.size, 7, none⟩ (.int .i64 (wrap64 (fv15 bs at_ 20 8)))).setCell ⟨W1.heap.size, 8, none⟩ (.int .i64 (wrap64 (fv15 bs at_ 28 4)))).setCell ⟨W1.heap.size, 10, none⟩ (.int .i64 (mn15 (fv15 bs at_ 32 4)))).setCell ⟨W1.heap.size, 11, none⟩ (.int .i64 (wrap64 (fv15 bs at_ 36 4)))).setCell ⟨W1.heap.size, 12, none⟩ (.int .i64 (wrap64 (fv15 bs at_ 40 4)))) w.heap.size W1.heap.size [.int .i64 (1), .int .i64 (IntKind.i64.wrap (fv15 bs at_ 2 2)), .int .i64 (IntKind.i64.wrap (fv15 bs at_ 4 2)), .int .i64 (IntKind.i64.wrap (fv15 bs at_ 6 2)), .int .i64 (IntKind.i64.wrap (fv15 bs at_ 8 4)), .int .i64 (IntKind.i64.wrap (fv15 bs at_ 12 4)), .int .i64 (mn15 (fv15 bs at_ 16 4)), .int .i64 (wrap64 (fv15 bs at_ 20 8)), .int .i64 (wrap64 (fv15 bs at_ 28 4)), .slice none 0 0, .int .i64 (mn15 (fv15 bs at_ 32 4)), .int .i64 (wrap64 (fv15 bs at_ 36 4)), .int .i64 (wrap64 (fv15 bs at_ 40 4)), .int .i64 (0), .int .i64 (0), .int .i64 (0), .string (⟨#[]⟩), .int .i64 (0)]) := (((((HGs.out).put 7 (.int .i64 (wrap64 (fv15 bs at_ 20 8)))).put 8 (.int .i64 (wrap64 (fv15 bs at_ 28 4)))).put 10 (.int .i64 (mn15 (fv15 bs at_ 32 4)))).put 11 (.int .i64 (wrap64 (fv15 bs at_ 36 4)))).put 12 (.int .i64 (wrap64 (fv15 bs at_ 40 4)))
        generalize (((((W).setCell ⟨W1.heap.size, 7, none⟩ (.int .i64 (wrap64 (fv15 bs at_ 20 8)))).setCell ⟨W1.heap.size, 8, none⟩ (.int .i64 (wrap64 (fv15 bs at_ 28 4)))).setCell ⟨W1.heap.size, 10, none⟩ (.int .i64 (mn15 (fv15 bs at_ 32 4)))).setCell ⟨W1.heap.size, 11, none⟩ (.int .i64 (wrap64 (fv15 bs at_ 36 4)))).setCell ⟨W1.heap.size, 12, none⟩ (.int .i64 (wrap64 (fv15 bs at_ 40 4))) = W2 at *
        refine (qd44.out HC1.out W2 (HR.out.grown HG2.out.gw)).mono ?_
        rintro e wx ⟨rfl, rfl⟩
        clear d7 z7 d8 z8 d10 z10 d11 z11 d12 z12 HGs
        by_cases ck : len < at_ + 48 + 4 * k
        · skip
          have c5 : ((len : Int) - (at_ : Int) - 48) / 4 < (k : Int) := by clear w1 w2 wk; omega
          have HNO : Hid (∀ n0, Pre15 bs at_ n0 → False) := fun n0 h0 => by have e1 := (enb_len h0.1.1 h0.2.1).1 (HKD.out n0 h0); have e2 := pre_l h0; have e3 := pre_wl h0 (HKD.out n0 h0); rw [HKk.out] at e3; rw [HLB.out] at e2; clear w1 w2 wk c5; omega
          go_wp2_with (first | ((with_reducible refine inoHere ?_); refine wpList_loadG (by first | rfl | fail) 24 _ rfl W1.heap.size rfl (HG2.out).r Try.underlying24 rfl infoI ?_) | ((with_reducible refine inoStore ?_); refine wpList_storeB rfl 24 _ _ rfl w.heap.size [.int .i64 (1), .int .i64 (IntKind.i64.wrap (fv15 bs at_ 2 2)), .int .i64 (IntKind.i64.wrap (fv15 bs at_ 4 2)), .int .i64 (IntKind.i64.wrap (fv15 bs at_ 6 2)), .int .i64 (IntKind.i64.wrap (fv15 bs at_ 8 4)), .int .i64 (IntKind.i64.wrap (fv15 bs at_ 12 4)), .int .i64 (mn15 (fv15 bs at_ 16 4)), .int .i64 (wrap64 (fv15 bs at_ 20 8)), .int .i64 (wrap64 (fv15 bs at_ 28 4)), .slice none 0 0, .int .i64 (mn15 (fv15 bs at_ 32 4)), .int .i64 (wrap64 (fv15 bs at_ 36 4)), .int .i64 (wrap64 (fv15 bs at_ 40 4)), .int .i64 (0), .int .i64 (0), .int .i64 (0), .string (⟨#[]⟩), .int .i64 (0)] rfl rfl (HG2.out).z infoI rfl rfl ?_; intro W6 b6 g6) | fail)
          exact bodyPost_ret (results_cell_1 rfl _ _ w.heap.size 24 _ (0, 0) _ rfl b6.blk Try.underlying24 rfl infoI) rfl (by exact ⟨⟨(1), (IntKind.i64.wrap (fv15 bs at_ 2 2)), (IntKind.i64.wrap (fv15 bs at_ 4 2)), (IntKind.i64.wrap (fv15 bs at_ 6 2)), (IntKind.i64.wrap (fv15 bs at_ 8 4)), (IntKind.i64.wrap (fv15 bs at_ 12 4)), (mn15 (fv15 bs at_ 16 4)), (wrap64 (fv15 bs at_ 20 8)), (wrap64 (fv15 bs at_ 28 4)), none, 0, 0, [], (mn15 (fv15 bs at_ 32 4)), (wrap64 (fv15 bs at_ 36 4)), (wrap64 (fv15 bs at_ 40 4)), (0), (0), (0), ⟨#[]⟩, (0)⟩, false, rfl, ⟨⟨HX0.out, in64_wrap _, in64_wrap _, in64_wrap _, in64_wrap _, in64_wrap _, mn_in _, (in64_w64 _), (in64_w64 _), mn_in _, (in64_w64 _), (in64_w64 _), in64_0, in64_0, in64_0, in64_0⟩, irow_nil _, ⟨Nat.le_refl _, Nat.zero_le _⟩, Nat.zero_le _⟩, rfl, fun n0 h0 _ => absurd trivial (fun _ => HNO.out n0 h0), far_none, grown_new (HG2.out).gw g6 (Nat.le_refl _)⟩)
        · skip
          have c5 : ¬ ((len : Int) - (at_ : Int) - 48) / 4 < (k : Int) := by clear w1 w2 wk; omega
          have c6 : ¬ wrap64 (((len : Int) - (at_ : Int) - 48).tdiv 4) < (k : Int) := by rw [Int.tdiv_eq_ediv_of_nonneg (by clear w1 w2 wk; omega), Go.IntWalk.wrap64_in _ (by clear w1 w2 wk; omega)]; exact c5
          have hk2 : k ≤ 100000 := by clear w1 w2 wk; omega
          have hld : Hid (∀ j : Nat, j < k → ∀ V : World, Row V (some ⟨b, off, none⟩) len bs → Calls Try.prog 46 #[.slice (some ⟨b, off, none⟩) len cap, .int .i64 ((at_ : Int) + 48 + 4 * (j : Int)), .int .i64 4] V fun e w' => e = .returned (.int .u64 (le ((bs.drop (at_ + 44 + 4 + 4 * j)).take 4))) ∧ V = w') := fun j hj V R => by rw [show ((at_ : Int) + 48 + 4 * (j : Int)) = ((at_ + 44 + 4 + 4 * j : Nat) : Int) from by omega]; exact load_row (some ⟨b, off, none⟩) len cap bs (at_ + 44 + 4 + 4 * j) 4 V R (by decide) (by decide) (by clear w1 w2 wk; omega)
          have hwj : Hid (∀ j : Nat, j < k → IntKind.i64.wrap (4 * (j : Int)) = 4 * (j : Int) ∧ IntKind.i64.wrap ((at_ : Int) + 48 + 4 * (j : Int)) = (at_ : Int) + 48 + 4 * (j : Int) ∧ IntKind.i64.wrap ((j : Int) + 1) = (j : Int) + 1) := fun j hj => ⟨wr_in (by clear w1 w2 wk; omega) (by clear w1 w2 wk; omega), wr_in (by clear w1 w2 wk; omega) (by clear w1 w2 wk; omega), wr_in (by clear w1 w2 wk; omega) (by clear w1 w2 wk; omega)⟩
          have HLK : Hid (at_ + 48 + 4 * k ≤ len) := by show _ ≤ _; clear w1 w2 wk; omega
          have HK2 : Hid (k ≤ 100000) := hk2
          have HO : Hid (W2.ownsRow (W1.heap.size + 1) 3 1 (.slice none 0 0) 0 ((rdw bs (at_ + 44 + 4) 0).map (Value.int .i64))) := World.ownsRow_nil _ _ _ _
          obtain ⟨i3, hi3, hx30, hx31, hx32⟩ := info_parts info3_15
          clear hle HC1 hkb hk hk2
          go_wp2_with fail
          go_loopw [8] (fun i wr => ∃ (j : Nat) (v : Value), j ≤ k ∧ i = .int .i64 j ∧ Gs15 w wr w.heap.size W1.heap.size [.int .i64 (1), .int .i64 (IntKind.i64.wrap (fv15 bs at_ 2 2)), .int .i64 (IntKind.i64.wrap (fv15 bs at_ 4 2)), .int .i64 (IntKind.i64.wrap (fv15 bs at_ 6 2)), .int .i64 (IntKind.i64.wrap (fv15 bs at_ 8 4)), .int .i64 (IntKind.i64.wrap (fv15 bs at_ 12 4)), .int .i64 (mn15 (fv15 bs at_ 16 4)), .int .i64 (wrap64 (fv15 bs at_ 20 8)), .int .i64 (wrap64 (fv15 bs at_ 28 4)), v, .int .i64 (mn15 (fv15 bs at_ 32 4)), .int .i64 (wrap64 (fv15 bs at_ 36 4)), .int .i64 (wrap64 (fv15 bs at_ 40 4)), .int .i64 (0), .int .i64 (0), .int .i64 (0), .string (⟨#[]⟩), .int .i64 (0)] ∧ wr.ownsRow (W1.heap.size + 1) 3 1 v j ((rdw bs (at_ + 44 + 4) j).map (Value.int .i64))) (fun i _ => k - (intOf i).toNat)
          case atStart => exact ⟨0, _, Nat.zero_le _, rfl, HG2.out, HO.out⟩
          case round =>
            obtain ⟨j, v, hj, rfl, hg, hown⟩ := hrel
            have HGJ : Hid _ := hg
            have HOJ : Hid (wr.ownsRow (W1.heap.size + 1) 3 1 v j ((rdw bs (at_ + 44 + 4) j).map (Value.int .i64))) := hown
            clear hg hown
            by_cases hlt : j < k
            · skip
              have hlt2 : (j : Int) < (k : Int) := by clear w1 w2 wk c5 c6; omega
              obtain ⟨y, hy⟩ : ∃ y, y = le ((bs.drop (at_ + 44 + 4 + 4 * j)).take 4) := ⟨_, rfl⟩
              have hyb := le4_15 HB.out (at_ + 44 + 4 + 4 * j)
              have qj := hld.out j hlt
              obtain ⟨v1, v2, v3⟩ := hwj.out j hlt
              rw [← hy] at qj hyb
              have wy : IntKind.i64.wrap y = y := wr_in (by clear w1 w2 wk c5 c6 v1 v2 v3; omega) (by clear w1 w2 wk c5 c6 v1 v2 v3; omega)
              have HY : Hid _ := hy
              have HQJ : Hid _ := qj
              have HJ : Hid (j < k) := hlt
              have d9 := HGJ.out.r.c 9
              simp only [List.getElem?_cons_zero, List.getElem?_cons_succ] at d9
              have HD9 : Hid _ := d9
              clear hy hyb qj hlt
              go_wp2_with fail
              refine wp_region_held_drew (S := fun _ => True) (by kernel_rfl) trivial (fun hH => ?_)
              have gA : Hid (wr.grownBy wr.drew none) := ⟨rfl, rfl, rfl, Nat.le_refl _, fun _ _ _ => rfl⟩
              have gB : Hid (wr.grownBy (wr.drew.alloc (.cells #[.int .i64 y] 3)) none) := grown_trans gA.out (World.grownBy_alloc _ _ _)
              have d9A : wr.drew.cell? ⟨W1.heap.size, 9, none⟩ = some v := HD9.out
              have d9B : (wr.alloc (.cells #[.int .i64 y] 3)).drew.cell? ⟨W1.heap.size, 9, none⟩ = some v := by have := (HGJ.out.kept gB.out).r.c 9; simp only [List.getElem?_cons_zero, List.getElem?_cons_succ] at this; exact this
              refine wpAnyH_take (i := 0) (oi := ⟨some 115, _, _, _, _, _⟩) (v := .pointer (some ⟨W1.heap.size, 9, none⟩)) rfl (by kernel_rfl) (by kernel_rfl) (by kernel_rfl) (fun _ _ _ h => h) (Or.inl ⟨by rfl, fun w hSw => by go_simp⟩) hH ?_
              simp only [Act.put, List.setIfInBounds_toArray, List.set_cons_zero, List.set_cons_succ]
              refine wpAnyH_take (i := 2) (oi := ⟨some 117, _, _, _, _, _⟩) (v := .slice (some ⟨b, off, none⟩) len cap) rfl (by kernel_rfl) (by kernel_rfl) (by kernel_rfl) (fun _ _ _ h => h) (Or.inl ⟨by rfl, fun w hSw => by go_simp⟩) hH ?_
              simp only [Act.put, List.setIfInBounds_toArray, List.set_cons_zero, List.set_cons_succ]
              refine wpAnyH_take (i := 3) (oi := ⟨some 118, _, _, _, _, _⟩) (v := .int .i64 (at_ : Int)) rfl (by kernel_rfl) (by kernel_rfl) (by kernel_rfl) (fun _ _ _ h => h) (Or.inl ⟨by rfl, fun w hSw => by go_simp⟩) hH ?_
              simp only [Act.put, List.setIfInBounds_toArray, List.set_cons_zero, List.set_cons_succ]
              refine wpAnyH_take (i := 4) (oi := ⟨some 119, _, _, _, _, _⟩) (v := .int .i64 ((at_ : Int) + 48)) rfl (by kernel_rfl) (by kernel_rfl) (by kernel_rfl) (fun _ _ _ h => h) (Or.inl ⟨by rfl, fun w hSw => by go_simp⟩) hH ?_
              simp only [Act.put, List.setIfInBounds_toArray, List.set_cons_zero, List.set_cons_succ]
              refine wpAnyH_take (i := 5) (oi := ⟨some 120, _, _, _, _, _⟩) (v := .int .i64 (j : Int)) rfl (by kernel_rfl) (by kernel_rfl) (by kernel_rfl) (fun _ _ _ h => h) (Or.inl ⟨by rfl, fun w hSw => by go_simp⟩) hH ?_
              simp only [Act.put, List.setIfInBounds_toArray, List.set_cons_zero, List.set_cons_succ]
              refine wpAnyH_take (i := 6) (oi := ⟨some 121, _, _, _, _, _⟩) (v := .int .i64 (4 * (j : Int))) rfl (by kernel_rfl) (by kernel_rfl) (by kernel_rfl) (fun _ _ _ h => h) (Or.inl ⟨by rfl, fun w hSw => by go_simp⟩) hH ?_
              simp only [Act.put, List.setIfInBounds_toArray, List.set_cons_zero, List.set_cons_succ]
              refine wpAnyH_take (i := 7) (oi := ⟨some 122, _, _, _, _, _⟩) (v := .int .i64 ((at_ : Int) + 48 + 4 * (j : Int))) rfl (by kernel_rfl) (by kernel_rfl) (by kernel_rfl) (fun _ _ _ h => h) (Or.inl ⟨by rfl, fun w hSw => by go_simp⟩) hH ?_
              simp only [Act.put, List.setIfInBounds_toArray, List.set_cons_zero, List.set_cons_succ]
              refine wpAnyH_ready (rs := [1, 8]) (by kernel_rfl) (by simp) ?_
              refine AllReadyH.cons rfl (fun K1 hK => ?_) (AllReadyH.cons rfl (fun K1 hK => ?_) AllReadyH.nil)
              · skip
                go_simp
                refine hK.out _ _ trivial (fun _ => ?_)
                clear hK K1
                refine wpAnyH_ready (rs := [8]) (by kernel_rfl) (by simp) ?_
                refine AllReadyH.cons rfl (fun K1 hK => ?_) AllReadyH.nil
                go_simp
                go_wp2_with (go_at_call 46; refine (HQJ.out _ (HR.out.grown (grown_trans HGJ.out.gw gA.out))).mono ?_; rintro e wx ⟨rfl, rfl⟩)
                refine hK.out _ _ trivial (fun _ => ?_)
                clear hK K1
                refine wpAnyH_take (i := 9) (oi := ⟨some 124, _, _, _, _, _⟩) (v := .int .i64 y) rfl (by kernel_rfl) (by kernel_rfl) (by kernel_rfl) (fun _ _ _ h => h) (Or.inl ⟨by rfl, fun w hSw => by go_simp⟩) hH ?_
                simp only [Act.put, List.setIfInBounds_toArray, List.set_cons_zero, List.set_cons_succ]
                refine wpAnyH_ready (rs := [10]) (by kernel_rfl) (by simp) ?_
                refine AllReadyH.cons rfl (fun K1 hK => ?_) AllReadyH.nil
                go_simp
                refine hK.out _ _ trivial (fun _ => ?_)
                clear hK K1
                refine wpAnyH_ready (rs := [11]) (by kernel_rfl) (by simp) ?_
                refine AllReadyH.cons rfl (fun K1 hK => ?_) AllReadyH.nil
                refine step_appI15 (by rfl) _ _ 22 (by rfl) (W1.heap.size + 1) i3 Try.underlying22 hi3 hx30 hx31 hx32 v j _ (by rfl) (HOJ.out.kept gB.out (by cases v.ownBlock <;> simp)) wr.heap.size 1 y (by rfl) (by have h := (Bx.new wr.drew 3 [Value.int .i64 y]).c 0; exact h) (by have := HK2.out; have := HJ.out; clear w1 w2 wk c5 c6 v1 v2 v3 wy; omega) (Nat.le_trans (Nat.succ_le_of_lt HGJ.out.r.lt) gB.out.size) ?_
                intro v9 W9 o9 g9
                obtain ⟨a9, n9, c9, rfl⟩ := own_slice15 o9
                have HG9 : Hid (Gs15 w W9 w.heap.size W1.heap.size [.int .i64 (1), .int .i64 (IntKind.i64.wrap (fv15 bs at_ 2 2)), .int .i64 (IntKind.i64.wrap (fv15 bs at_ 4 2)), .int .i64 (IntKind.i64.wrap (fv15 bs at_ 6 2)), .int .i64 (IntKind.i64.wrap (fv15 bs at_ 8 4)), .int .i64 (IntKind.i64.wrap (fv15 bs at_ 12 4)), .int .i64 (mn15 (fv15 bs at_ 16 4)), .int .i64 (wrap64 (fv15 bs at_ 20 8)), .int .i64 (wrap64 (fv15 bs at_ 28 4)), v, .int .i64 (mn15 (fv15 bs at_ 32 4)), .int .i64 (wrap64 (fv15 bs at_ 36 4)), .int .i64 (wrap64 (fv15 bs at_ 40 4)), .int .i64 (0), .int .i64 (0), .int .i64 (0), .string (⟨#[]⟩), .int .i64 (0)]) := (HGJ.out.kept gB.out).but g9 (fun q hq => by have := (HOJ.out.lt q hq).1; clear w1 w2 wk c5 c6 v1 v2 v3 wy; omega)
                have d9C := HG9.out.r.c 9
                simp only [List.getElem?_cons_zero, List.getElem?_cons_succ] at d9C
                have z9C := bx_frz HG9.out.r 9
                have HO9 : Hid (W9.ownsRow (W1.heap.size + 1) 3 1 (.slice a9 n9 c9) (j + 1) ((rdw bs (at_ + 44 + 4) (j + 1)).map (Value.int .i64))) := by rw [rdw_succ, ← HY.out]; exact o9
                refine hK.out _ _ trivial (fun _ => ?_)
                clear hK K1
                refine wpAnyH_take (i := 12) (oi := ⟨some 127, _, _, _, _, _⟩) (v := .pointer (some ⟨W1.heap.size, 9, none⟩)) rfl (by kernel_rfl) (by kernel_rfl) (by kernel_rfl) (fun _ _ _ h => h) (Or.inl ⟨by rfl, fun w hSw => by go_simp⟩) hH ?_
                simp only [Act.put, List.setIfInBounds_toArray, List.set_cons_zero, List.set_cons_succ]
                refine wpAnyH_ready (rs := [13]) (by kernel_rfl) (by simp) ?_
                refine AllReadyH.cons rfl (fun K1 hK => ?_) AllReadyH.nil
                go_simp
                refine hK.out _ _ trivial (fun _ => ?_)
                clear hK K1
                refine wpAnyH_done (by kernel_rfl) ?_ _
                clear d9A d9B d9C z9C g9 o9 d9
                have HG0 : Hid (Gs15 w (W9.setCell ⟨W1.heap.size, 9, none⟩ (.slice a9 n9 c9)) w.heap.size W1.heap.size [.int .i64 (1), .int .i64 (IntKind.i64.wrap (fv15 bs at_ 2 2)), .int .i64 (IntKind.i64.wrap (fv15 bs at_ 4 2)), .int .i64 (IntKind.i64.wrap (fv15 bs at_ 6 2)), .int .i64 (IntKind.i64.wrap (fv15 bs at_ 8 4)), .int .i64 (IntKind.i64.wrap (fv15 bs at_ 12 4)), .int .i64 (mn15 (fv15 bs at_ 16 4)), .int .i64 (wrap64 (fv15 bs at_ 20 8)), .int .i64 (wrap64 (fv15 bs at_ 28 4)), .slice a9 n9 c9, .int .i64 (mn15 (fv15 bs at_ 32 4)), .int .i64 (wrap64 (fv15 bs at_ 36 4)), .int .i64 (wrap64 (fv15 bs at_ 40 4)), .int .i64 (0), .int .i64 (0), .int .i64 (0), .string (⟨#[]⟩), .int .i64 (0)]) := HG9.out.put 9 (.slice a9 n9 c9)
                have HO0 : Hid _ := HO9.out.kept (grown_set W9 W1.heap.size 9 (.slice a9 n9 c9)) (by right; intro q; have := (HO9.out.lt _ q).1; clear w1 w2 wk c5 c6 v1 v2 v3 wy; omega)
                go_wp2
                go_roundw
                case rel => exact ⟨j + 1, _, HJ.out, by go_num, HG0.out, HO0.out⟩
                case measure => have := HJ.out; clear w1 w2 wk c5 c6 v1 v2 v3 wy; simp [intOf]; omega
              · skip
                go_simp
                go_wp2_with (go_at_call 46; refine (HQJ.out _ (HR.out.grown (grown_trans HGJ.out.gw gA.out))).mono ?_; rintro e wx ⟨rfl, rfl⟩)
                refine hK.out _ _ trivial (fun _ => ?_)
                clear hK K1
                refine wpAnyH_take (i := 9) (oi := ⟨some 124, _, _, _, _, _⟩) (v := .int .i64 y) rfl (by kernel_rfl) (by kernel_rfl) (by kernel_rfl) (fun _ _ _ h => h) (Or.inl ⟨by rfl, fun w hSw => by go_simp⟩) hH ?_
                simp only [Act.put, List.setIfInBounds_toArray, List.set_cons_zero, List.set_cons_succ]
                refine wpAnyH_ready (rs := [1, 10]) (by kernel_rfl) (by simp) ?_
                refine AllReadyH.cons rfl (fun K1 hK => ?_) (AllReadyH.cons rfl (fun K1 hK => ?_) AllReadyH.nil)
                · skip
                  go_simp
                  refine hK.out _ _ trivial (fun _ => ?_)
                  clear hK K1
                  refine wpAnyH_ready (rs := [10]) (by kernel_rfl) (by simp) ?_
                  refine AllReadyH.cons rfl (fun K1 hK => ?_) AllReadyH.nil
                  go_simp
                  refine hK.out _ _ trivial (fun _ => ?_)
                  clear hK K1
                  refine wpAnyH_ready (rs := [11]) (by kernel_rfl) (by simp) ?_
                  refine AllReadyH.cons rfl (fun K1 hK => ?_) AllReadyH.nil
                  refine step_appI15 (by rfl) _ _ 22 (by rfl) (W1.heap.size + 1) i3 Try.underlying22 hi3 hx30 hx31 hx32 v j _ (by rfl) (HOJ.out.kept gB.out (by cases v.ownBlock <;> simp)) wr.heap.size 1 y (by rfl) (by have h := (Bx.new wr.drew 3 [Value.int .i64 y]).c 0; exact h) (by have := HK2.out; have := HJ.out; clear w1 w2 wk c5 c6 v1 v2 v3 wy; omega) (Nat.le_trans (Nat.succ_le_of_lt HGJ.out.r.lt) gB.out.size) ?_
                  intro v9 W9 o9 g9
                  obtain ⟨a9, n9, c9, rfl⟩ := own_slice15 o9
                  have HG9 : Hid (Gs15 w W9 w.heap.size W1.heap.size [.int .i64 (1), .int .i64 (IntKind.i64.wrap (fv15 bs at_ 2 2)), .int .i64 (IntKind.i64.wrap (fv15 bs at_ 4 2)), .int .i64 (IntKind.i64.wrap (fv15 bs at_ 6 2)), .int .i64 (IntKind.i64.wrap (fv15 bs at_ 8 4)), .int .i64 (IntKind.i64.wrap (fv15 bs at_ 12 4)), .int .i64 (mn15 (fv15 bs at_ 16 4)), .int .i64 (wrap64 (fv15 bs at_ 20 8)), .int .i64 (wrap64 (fv15 bs at_ 28 4)), v, .int .i64 (mn15 (fv15 bs at_ 32 4)), .int .i64 (wrap64 (fv15 bs at_ 36 4)), .int .i64 (wrap64 (fv15 bs at_ 40 4)), .int .i64 (0), .int .i64 (0), .int .i64 (0), .string (⟨#[]⟩), .int .i64 (0)]) := (HGJ.out.kept gB.out).but g9 (fun q hq => by have := (HOJ.out.lt q hq).1; clear w1 w2 wk c5 c6 v1 v2 v3 wy; omega)
                  have d9C := HG9.out.r.c 9
                  simp only [List.getElem?_cons_zero, List.getElem?_cons_succ] at d9C
                  have z9C := bx_frz HG9.out.r 9
                  have HO9 : Hid (W9.ownsRow (W1.heap.size + 1) 3 1 (.slice a9 n9 c9) (j + 1) ((rdw bs (at_ + 44 + 4) (j + 1)).map (Value.int .i64))) := by rw [rdw_succ, ← HY.out]; exact o9
                  refine hK.out _ _ trivial (fun _ => ?_)
                  clear hK K1
                  refine wpAnyH_take (i := 12) (oi := ⟨some 127, _, _, _, _, _⟩) (v := .pointer (some ⟨W1.heap.size, 9, none⟩)) rfl (by kernel_rfl) (by kernel_rfl) (by kernel_rfl) (fun _ _ _ h => h) (Or.inl ⟨by rfl, fun w hSw => by go_simp⟩) hH ?_
                  simp only [Act.put, List.setIfInBounds_toArray, List.set_cons_zero, List.set_cons_succ]
                  refine wpAnyH_ready (rs := [13]) (by kernel_rfl) (by simp) ?_
                  refine AllReadyH.cons rfl (fun K1 hK => ?_) AllReadyH.nil
                  go_simp
                  refine hK.out _ _ trivial (fun _ => ?_)
                  clear hK K1
                  refine wpAnyH_done (by kernel_rfl) ?_ _
                  clear d9A d9B d9C z9C g9 o9 d9
                  have HG0 : Hid (Gs15 w (W9.setCell ⟨W1.heap.size, 9, none⟩ (.slice a9 n9 c9)) w.heap.size W1.heap.size [.int .i64 (1), .int .i64 (IntKind.i64.wrap (fv15 bs at_ 2 2)), .int .i64 (IntKind.i64.wrap (fv15 bs at_ 4 2)), .int .i64 (IntKind.i64.wrap (fv15 bs at_ 6 2)), .int .i64 (IntKind.i64.wrap (fv15 bs at_ 8 4)), .int .i64 (IntKind.i64.wrap (fv15 bs at_ 12 4)), .int .i64 (mn15 (fv15 bs at_ 16 4)), .int .i64 (wrap64 (fv15 bs at_ 20 8)), .int .i64 (wrap64 (fv15 bs at_ 28 4)), .slice a9 n9 c9, .int .i64 (mn15 (fv15 bs at_ 32 4)), .int .i64 (wrap64 (fv15 bs at_ 36 4)), .int .i64 (wrap64 (fv15 bs at_ 40 4)), .int .i64 (0), .int .i64 (0), .int .i64 (0), .string (⟨#[]⟩), .int .i64 (0)]) := HG9.out.put 9 (.slice a9 n9 c9)
                  have HO0 : Hid _ := HO9.out.kept (grown_set W9 W1.heap.size 9 (.slice a9 n9 c9)) (by right; intro q; have := (HO9.out.lt _ q).1; clear w1 w2 wk c5 c6 v1 v2 v3 wy; omega)
                  go_wp2
                  go_roundw
                  case rel => exact ⟨j + 1, _, HJ.out, by go_num, HG0.out, HO0.out⟩
                  case measure => have := HJ.out; clear w1 w2 wk c5 c6 v1 v2 v3 wy; simp [intOf]; omega
                · skip
                  go_simp
                  refine hK.out _ _ trivial (fun _ => ?_)
                  clear hK K1
                  refine wpAnyH_ready (rs := [1]) (by kernel_rfl) (by simp) ?_
                  refine AllReadyH.cons rfl (fun K1 hK => ?_) AllReadyH.nil
                  go_simp
                  refine hK.out _ _ trivial (fun _ => ?_)
                  clear hK K1
                  refine wpAnyH_ready (rs := [11]) (by kernel_rfl) (by simp) ?_
                  refine AllReadyH.cons rfl (fun K1 hK => ?_) AllReadyH.nil
                  refine step_appI15 (by rfl) _ _ 22 (by rfl) (W1.heap.size + 1) i3 Try.underlying22 hi3 hx30 hx31 hx32 v j _ (by rfl) (HOJ.out.kept gB.out (by cases v.ownBlock <;> simp)) wr.heap.size 1 y (by rfl) (by have h := (Bx.new wr.drew 3 [Value.int .i64 y]).c 0; exact h) (by have := HK2.out; have := HJ.out; clear w1 w2 wk c5 c6 v1 v2 v3 wy; omega) (Nat.le_trans (Nat.succ_le_of_lt HGJ.out.r.lt) gB.out.size) ?_
                  intro v9 W9 o9 g9
                  obtain ⟨a9, n9, c9, rfl⟩ := own_slice15 o9
                  have HG9 : Hid (Gs15 w W9 w.heap.size W1.heap.size [.int .i64 (1), .int .i64 (IntKind.i64.wrap (fv15 bs at_ 2 2)), .int .i64 (IntKind.i64.wrap (fv15 bs at_ 4 2)), .int .i64 (IntKind.i64.wrap (fv15 bs at_ 6 2)), .int .i64 (IntKind.i64.wrap (fv15 bs at_ 8 4)), .int .i64 (IntKind.i64.wrap (fv15 bs at_ 12 4)), .int .i64 (mn15 (fv15 bs at_ 16 4)), .int .i64 (wrap64 (fv15 bs at_ 20 8)), .int .i64 (wrap64 (fv15 bs at_ 28 4)), v, .int .i64 (mn15 (fv15 bs at_ 32 4)), .int .i64 (wrap64 (fv15 bs at_ 36 4)), .int .i64 (wrap64 (fv15 bs at_ 40 4)), .int .i64 (0), .int .i64 (0), .int .i64 (0), .string (⟨#[]⟩), .int .i64 (0)]) := (HGJ.out.kept gB.out).but g9 (fun q hq => by have := (HOJ.out.lt q hq).1; clear w1 w2 wk c5 c6 v1 v2 v3 wy; omega)
                  have d9C := HG9.out.r.c 9
                  simp only [List.getElem?_cons_zero, List.getElem?_cons_succ] at d9C
                  have z9C := bx_frz HG9.out.r 9
                  have HO9 : Hid (W9.ownsRow (W1.heap.size + 1) 3 1 (.slice a9 n9 c9) (j + 1) ((rdw bs (at_ + 44 + 4) (j + 1)).map (Value.int .i64))) := by rw [rdw_succ, ← HY.out]; exact o9
                  refine hK.out _ _ trivial (fun _ => ?_)
                  clear hK K1
                  refine wpAnyH_take (i := 12) (oi := ⟨some 127, _, _, _, _, _⟩) (v := .pointer (some ⟨W1.heap.size, 9, none⟩)) rfl (by kernel_rfl) (by kernel_rfl) (by kernel_rfl) (fun _ _ _ h => h) (Or.inl ⟨by rfl, fun w hSw => by go_simp⟩) hH ?_
                  simp only [Act.put, List.setIfInBounds_toArray, List.set_cons_zero, List.set_cons_succ]
                  refine wpAnyH_ready (rs := [13]) (by kernel_rfl) (by simp) ?_
                  refine AllReadyH.cons rfl (fun K1 hK => ?_) AllReadyH.nil
                  go_simp
                  refine hK.out _ _ trivial (fun _ => ?_)
                  clear hK K1
                  refine wpAnyH_done (by kernel_rfl) ?_ _
                  clear d9A d9B d9C z9C g9 o9 d9
                  have HG0 : Hid (Gs15 w (W9.setCell ⟨W1.heap.size, 9, none⟩ (.slice a9 n9 c9)) w.heap.size W1.heap.size [.int .i64 (1), .int .i64 (IntKind.i64.wrap (fv15 bs at_ 2 2)), .int .i64 (IntKind.i64.wrap (fv15 bs at_ 4 2)), .int .i64 (IntKind.i64.wrap (fv15 bs at_ 6 2)), .int .i64 (IntKind.i64.wrap (fv15 bs at_ 8 4)), .int .i64 (IntKind.i64.wrap (fv15 bs at_ 12 4)), .int .i64 (mn15 (fv15 bs at_ 16 4)), .int .i64 (wrap64 (fv15 bs at_ 20 8)), .int .i64 (wrap64 (fv15 bs at_ 28 4)), .slice a9 n9 c9, .int .i64 (mn15 (fv15 bs at_ 32 4)), .int .i64 (wrap64 (fv15 bs at_ 36 4)), .int .i64 (wrap64 (fv15 bs at_ 40 4)), .int .i64 (0), .int .i64 (0), .int .i64 (0), .string (⟨#[]⟩), .int .i64 (0)]) := HG9.out.put 9 (.slice a9 n9 c9)
                  have HO0 : Hid _ := HO9.out.kept (grown_set W9 W1.heap.size 9 (.slice a9 n9 c9)) (by right; intro q; have := (HO9.out.lt _ q).1; clear w1 w2 wk c5 c6 v1 v2 v3 wy; omega)
                  go_wp2
                  go_roundw
                  case rel => exact ⟨j + 1, _, HJ.out, by go_num, HG0.out, HO0.out⟩
                  case measure => have := HJ.out; clear w1 w2 wk c5 c6 v1 v2 v3 wy; simp [intOf]; omega
            · skip
              obtain rfl : j = k := by clear w1 w2 wk c5 c6; omega
              have HWS : Hid (∀ x ∈ rdw bs (at_ + 44 + 4) j, in64 x) := fun x hx => by unfold rdw at hx; obtain ⟨i, _, rfl⟩ := List.mem_map.1 hx; have := le4_15 HB.out (at_ + 44 + 4 + 4 * i); exact ⟨by clear w1 w2 wk c5 c6; omega, by clear w1 w2 wk c5 c6; omega⟩
              obtain ⟨wa, wc, rfl, hri, hc1, hc2⟩ := own_ints15 HOJ.out HWS.out (by have := HK2.out; unfold maxLen; clear w1 w2 wk c5 c6; omega)
              have HRI : Hid _ := And.intro hri (And.intro hc1 hc2)
              clear hri hc1 hc2
              go_wp2_with (first | ((with_reducible refine inoHere ?_); refine wpList_loadG (by first | rfl | fail) 24 _ rfl W1.heap.size rfl (HGJ.out).r Try.underlying24 rfl infoI ?_) | ((with_reducible refine inoStore ?_); refine wpList_storeB rfl 24 _ _ rfl w.heap.size [.int .i64 (1), .int .i64 (IntKind.i64.wrap (fv15 bs at_ 2 2)), .int .i64 (IntKind.i64.wrap (fv15 bs at_ 4 2)), .int .i64 (IntKind.i64.wrap (fv15 bs at_ 6 2)), .int .i64 (IntKind.i64.wrap (fv15 bs at_ 8 4)), .int .i64 (IntKind.i64.wrap (fv15 bs at_ 12 4)), .int .i64 (mn15 (fv15 bs at_ 16 4)), .int .i64 (wrap64 (fv15 bs at_ 20 8)), .int .i64 (wrap64 (fv15 bs at_ 28 4)), .slice wa j wc, .int .i64 (mn15 (fv15 bs at_ 32 4)), .int .i64 (wrap64 (fv15 bs at_ 36 4)), .int .i64 (wrap64 (fv15 bs at_ 40 4)), .int .i64 (0), .int .i64 (0), .int .i64 (0), .string (⟨#[]⟩), .int .i64 (0)] rfl rfl (HGJ.out).z infoI rfl rfl ?_; intro W6 b6 g6) | fail)
              skip
              exact bodyPost_ret (results_cell_1 rfl _ _ w.heap.size 24 _ (0, 0) _ rfl b6.blk Try.underlying24 rfl infoI) rfl (by exact ⟨⟨(1), (IntKind.i64.wrap (fv15 bs at_ 2 2)), (IntKind.i64.wrap (fv15 bs at_ 4 2)), (IntKind.i64.wrap (fv15 bs at_ 6 2)), (IntKind.i64.wrap (fv15 bs at_ 8 4)), (IntKind.i64.wrap (fv15 bs at_ 12 4)), (mn15 (fv15 bs at_ 16 4)), (wrap64 (fv15 bs at_ 20 8)), (wrap64 (fv15 bs at_ 28 4)), wa, j, wc, (rdw bs (at_ + 44 + 4) j), (mn15 (fv15 bs at_ 32 4)), (wrap64 (fv15 bs at_ 36 4)), (wrap64 (fv15 bs at_ 40 4)), (0), (0), (0), ⟨#[]⟩, (0)⟩, true, rfl, ⟨⟨HX0.out, in64_wrap _, in64_wrap _, in64_wrap _, in64_wrap _, in64_wrap _, mn_in _, (in64_w64 _), (in64_w64 _), mn_in _, (in64_w64 _), (in64_w64 _), in64_0, in64_0, in64_0, in64_0⟩, (irow_but6 HRI.out.1 HGJ.out g6 HOJ.out), HRI.out.2, Nat.zero_le _⟩, rdw_len _ _ _, fun n0 h0 _ => ⟨rfl, by have := gs_1 h0 (HKD.out n0 h0) HLB.out (wa := wa) (wl := j) (wc := wc); rw [HKk.out] at this; exact this⟩, (fun b2 o2 e2 => by have e3 : wa = some ⟨b2, o2, none⟩ := e2; subst e3; have h1 := (HOJ.out.lt b2 rfl).1; have h2 := HGJ.out.lz; have h3 := HGJ.out.lr; clear w1 w2 wk c5 c6; omega), grown_new (HGJ.out).gw g6 (Nat.le_refl _)⟩)
    · by_cases h2 : x0 = 2
      · skip
        subst h2
        have HX0 : Hid (in64 2) := in64_2
        clear hx0 HX
        by_cases c2 : len < at_ + 32
        · skip
          have c3 : (len : Int) < (at_ : Int) + 32 := by omega
          go_wp2_with (first | ((with_reducible refine inoHere ?_); refine wpList_loadG (by first | rfl | fail) 24 _ rfl W1.heap.size rfl (HGs.out).r Try.underlying24 rfl infoI ?_) | ((with_reducible refine inoStore ?_); refine wpList_storeB rfl 24 _ _ rfl w.heap.size [.int .i64 (2), .int .i64 (IntKind.i64.wrap (fv15 bs at_ 2 2)), .int .i64 (IntKind.i64.wrap (fv15 bs at_ 4 2)), .int .i64 (IntKind.i64.wrap (fv15 bs at_ 6 2)), .int .i64 (IntKind.i64.wrap (fv15 bs at_ 8 4)), .int .i64 (IntKind.i64.wrap (fv15 bs at_ 12 4)), .int .i64 (mn15 (fv15 bs at_ 16 4)), .int .i64 (0), .int .i64 (0), .slice none 0 0, .int .i64 (0), .int .i64 (0), .int .i64 (0), .int .i64 (0), .int .i64 (0), .int .i64 (0), .string (⟨#[]⟩), .int .i64 (0)] rfl rfl (HGs.out).z infoI rfl rfl ?_; intro W6 b6 g6) | fail)
          exact bodyPost_ret (results_cell_1 rfl _ _ w.heap.size 24 _ (0, 0) _ rfl b6.blk Try.underlying24 rfl infoI) rfl (by exact ⟨⟨(2), (IntKind.i64.wrap (fv15 bs at_ 2 2)), (IntKind.i64.wrap (fv15 bs at_ 4 2)), (IntKind.i64.wrap (fv15 bs at_ 6 2)), (IntKind.i64.wrap (fv15 bs at_ 8 4)), (IntKind.i64.wrap (fv15 bs at_ 12 4)), (mn15 (fv15 bs at_ 16 4)), (0), (0), none, 0, 0, [], (0), (0), (0), (0), (0), (0), ⟨#[]⟩, (0)⟩, false, rfl, ⟨⟨HX0.out, in64_wrap _, in64_wrap _, in64_wrap _, in64_wrap _, in64_wrap _, mn_in _, in64_0, in64_0, in64_0, in64_0, in64_0, in64_0, in64_0, in64_0, in64_0⟩, irow_nil _, ⟨Nat.le_refl _, Nat.zero_le _⟩, Nat.zero_le _⟩, rfl, fun n0 h0 _ => absurd ((enb_len h0.1.1 h0.2.1).2.1 (HKD.out n0 h0)) (fun e => by have := pre_l h0; rw [e, HLB.out] at this; omega), far_none, grown_new (HGs.out).gw g6 (Nat.le_refl _)⟩)
        · skip
          have c3 : ¬ (len : Int) < (at_ : Int) + 32 := by omega
          have HC2 : Hid (at_ + 32 ≤ len) := by show _ ≤ _; omega
          have d13 := HGs.out.r.c 13
          have d14 := HGs.out.r.c 14
          have d15 := HGs.out.r.c 15
          have z13 := bx_frz HGs.out.r 13
          have z14 := bx_frz HGs.out.r 14
          have z15 := bx_frz HGs.out.r 15
          simp only [List.getElem?_cons_zero, List.getElem?_cons_succ] at d13 d14 d15
          go_wp2_with (first | (go_at_call 46; (with_reducible refine (qb20.out _ HRW.out).mono ?_); rintro e wx ⟨rfl, rfl⟩) | (go_at_call 46; (with_reducible refine (qe24.out HC2.out _ HRW.out).mono ?_); rintro e wx ⟨rfl, rfl⟩) | (go_at_call 46; (with_reducible refine (qe28.out HC2.out _ HRW.out).mono ?_); rintro e wx ⟨rfl, rfl⟩) | ((with_reducible refine inoHere ?_); refine wpList_loadG (by first | rfl | fail) 24 _ rfl W1.heap.size rfl (((HGs.out.put 13 (.int .i64 (wrap64 (fv15 bs at_ 20 4)))).put 14 (.int .i64 (wrap64 (fv15 bs at_ 24 4)))).put 15 (.int .i64 (wrap64 (fv15 bs at_ 28 4)))).r Try.underlying24 rfl infoI ?_) | ((with_reducible refine inoStore ?_); refine wpList_storeB rfl 24 _ _ rfl w.heap.size [.int .i64 (2), .int .i64 (IntKind.i64.wrap (fv15 bs at_ 2 2)), .int .i64 (IntKind.i64.wrap (fv15 bs at_ 4 2)), .int .i64 (IntKind.i64.wrap (fv15 bs at_ 6 2)), .int .i64 (IntKind.i64.wrap (fv15 bs at_ 8 4)), .int .i64 (IntKind.i64.wrap (fv15 bs at_ 12 4)), .int .i64 (mn15 (fv15 bs at_ 16 4)), .int .i64 (0), .int .i64 (0), .slice none 0 0, .int .i64 (0), .int .i64 (0), .int .i64 (0), .int .i64 (wrap64 (fv15 bs at_ 20 4)), .int .i64 (wrap64 (fv15 bs at_ 24 4)), .int .i64 (wrap64 (fv15 bs at_ 28 4)), .string (⟨#[]⟩), .int .i64 (0)] rfl rfl (((HGs.out.put 13 (.int .i64 (wrap64 (fv15 bs at_ 20 4)))).put 14 (.int .i64 (wrap64 (fv15 bs at_ 24 4)))).put 15 (.int .i64 (wrap64 (fv15 bs at_ 28 4)))).z infoI rfl rfl ?_; intro W6 b6 g6) | fail)
          exact bodyPost_ret (results_cell_1 rfl _ _ w.heap.size 24 _ (0, 0) _ rfl b6.blk Try.underlying24 rfl infoI) rfl (by exact ⟨⟨(2), (IntKind.i64.wrap (fv15 bs at_ 2 2)), (IntKind.i64.wrap (fv15 bs at_ 4 2)), (IntKind.i64.wrap (fv15 bs at_ 6 2)), (IntKind.i64.wrap (fv15 bs at_ 8 4)), (IntKind.i64.wrap (fv15 bs at_ 12 4)), (mn15 (fv15 bs at_ 16 4)), (0), (0), none, 0, 0, [], (0), (0), (0), (wrap64 (fv15 bs at_ 20 4)), (wrap64 (fv15 bs at_ 24 4)), (wrap64 (fv15 bs at_ 28 4)), ⟨#[]⟩, (0)⟩, true, rfl, ⟨⟨HX0.out, in64_wrap _, in64_wrap _, in64_wrap _, in64_wrap _, in64_wrap _, mn_in _, in64_0, in64_0, in64_0, in64_0, in64_0, (in64_w64 _), (in64_w64 _), (in64_w64 _), in64_0⟩, irow_nil _, ⟨Nat.le_refl _, Nat.zero_le _⟩, Nat.zero_le _⟩, rfl, fun n0 h0 _ => ⟨rfl, gs_2 h0 (HKD.out n0 h0)⟩, far_none, grown_new (((HGs.out.put 13 (.int .i64 (wrap64 (fv15 bs at_ 20 4)))).put 14 (.int .i64 (wrap64 (fv15 bs at_ 24 4)))).put 15 (.int .i64 (wrap64 (fv15 bs at_ 28 4)))).gw g6 (Nat.le_refl _)⟩)
      · by_cases h3 : x0 = 3
        · skip
          subst h3
          have HX0 : Hid (in64 3) := in64_3
          clear hx0 HX
          obtain ⟨k, hk⟩ : ∃ k : Nat, fv15 bs at_ 20 2 = (k : Int) := ⟨(fv15 bs at_ 20 2).toNat, by have := (fv_bd HB.out at_ 20 2).1; omega⟩
          have hkb : k < 65536 := by have := (fv_bd HB.out at_ 20 2).2; rw [hk] at this; have e : (256 : Int) ^ 2 = 65536 := rfl; omega
          have HKk : Hid (fv15 bs at_ 20 2 = (k : Int)) := hk
          rw [hk] at qc20
          have hle := HLE.out
          have hwk : Hid (IntKind.i64.wrap (k : Int) = (k : Int)) := wr_in (by omega) (by omega)
          by_cases c3 : len < at_ + 22 + k
          · skip
            clear hk
            have c4 : (len : Int) - (at_ : Int) - 22 < (k : Int) := by omega
            have w1 : IntKind.i64.wrap ((len : Int) - (at_ : Int)) = (len : Int) - (at_ : Int) := wr_in (by omega) (by omega)
            have w2 : IntKind.i64.wrap ((len : Int) - (at_ : Int) - 22) = (len : Int) - (at_ : Int) - 22 := wr_in (by clear w1; omega) (by clear w1; omega)
            have HNO : Hid (∀ n0, Pre15 bs at_ n0 → False) := fun n0 h0 => by have e1 := (enb_len h0.1.1 h0.2.1).2.2.1 (HKD.out n0 h0); have e2 := pre_l h0; have e3 := pre_tl h0 (HKD.out n0 h0); rw [HKk.out] at e3; rw [HLB.out] at e2; clear w1 w2; omega
            go_wp2_with (first | (go_at_call 46; (with_reducible refine (qc20.out _ HRW.out).mono ?_); rintro e wx ⟨rfl, rfl⟩) | ((with_reducible refine inoHere ?_); refine wpList_loadG (by first | rfl | fail) 24 _ rfl W1.heap.size rfl (HGs.out).r Try.underlying24 rfl infoI ?_) | ((with_reducible refine inoStore ?_); refine wpList_storeB rfl 24 _ _ rfl w.heap.size [.int .i64 (3), .int .i64 (IntKind.i64.wrap (fv15 bs at_ 2 2)), .int .i64 (IntKind.i64.wrap (fv15 bs at_ 4 2)), .int .i64 (IntKind.i64.wrap (fv15 bs at_ 6 2)), .int .i64 (IntKind.i64.wrap (fv15 bs at_ 8 4)), .int .i64 (IntKind.i64.wrap (fv15 bs at_ 12 4)), .int .i64 (mn15 (fv15 bs at_ 16 4)), .int .i64 (0), .int .i64 (0), .slice none 0 0, .int .i64 (0), .int .i64 (0), .int .i64 (0), .int .i64 (0), .int .i64 (0), .int .i64 (0), .string (⟨#[]⟩), .int .i64 (0)] rfl rfl (HGs.out).z infoI rfl rfl ?_; intro W6 b6 g6) | fail)
            exact bodyPost_ret (results_cell_1 rfl _ _ w.heap.size 24 _ (0, 0) _ rfl b6.blk Try.underlying24 rfl infoI) rfl (by exact ⟨⟨(3), (IntKind.i64.wrap (fv15 bs at_ 2 2)), (IntKind.i64.wrap (fv15 bs at_ 4 2)), (IntKind.i64.wrap (fv15 bs at_ 6 2)), (IntKind.i64.wrap (fv15 bs at_ 8 4)), (IntKind.i64.wrap (fv15 bs at_ 12 4)), (mn15 (fv15 bs at_ 16 4)), (0), (0), none, 0, 0, [], (0), (0), (0), (0), (0), (0), ⟨#[]⟩, (0)⟩, false, rfl, ⟨⟨HX0.out, in64_wrap _, in64_wrap _, in64_wrap _, in64_wrap _, in64_wrap _, mn_in _, in64_0, in64_0, in64_0, in64_0, in64_0, in64_0, in64_0, in64_0, in64_0⟩, irow_nil _, ⟨Nat.le_refl _, Nat.zero_le _⟩, Nat.zero_le _⟩, rfl, fun n0 h0 _ => absurd trivial (fun _ => HNO.out n0 h0), far_none, grown_new (HGs.out).gw g6 (Nat.le_refl _)⟩)
          · skip
            have c4 : ¬ (len : Int) - (at_ : Int) - 22 < (k : Int) := by omega
            have R3 := HRW.out.part (at_ + 22) k (by omega)
            have hcap := HLE.out.2.1
            have cv := conv_row (P := Try.prog) R3 (cap - (at_ + 22)) 26 9 Try.underlying26 Try.underlying5 Try.underlying9
            have HSE : Hid (strOfNums ((bs.drop (at_ + 22)).take k) = strOfNums ((bs.drop (at_ + 20 + 2)).take (fv15 bs at_ 20 2).toNat)) := by rw [hk]; rfl
            have HTS : Hid ((strOfNums ((bs.drop (at_ + 20 + 2)).take (fv15 bs at_ 20 2).toNat)).size ≤ maxLen) := by show ByteArray.size _ ≤ maxLen; rw [← HSE.out, str_size, List.length_take]; unfold maxLen; omega
            rw [HSE.out] at cv
            have hc5 : (at_ : Int) + 22 + k ≤ (cap : Int) := by omega
            have hc6 : ¬ (cap : Int) < (at_ : Int) + 22 + k := by omega
            have hc7 : ¬ (at_ : Int) + 22 + k < (at_ : Int) + 22 := by omega
            have d16 := HGs.out.r.c 16
            simp only [List.getElem?_cons_zero, List.getElem?_cons_succ] at d16
            have z16 := bx_frz HGs.out.r 16
            have w1 : IntKind.i64.wrap ((len : Int) - (at_ : Int)) = (len : Int) - (at_ : Int) := wr_in (by omega) (by omega)
            have w2 : IntKind.i64.wrap ((len : Int) - (at_ : Int) - 22) = (len : Int) - (at_ : Int) - 22 := wr_in (by clear w1; omega) (by clear w1; omega)
            have w3 : IntKind.i64.wrap ((at_ : Int) + 22 + k) = (at_ : Int) + 22 + k := wr_in (by clear w1 w2; omega) (by clear w1 w2; omega)
            clear R3 hk hle hkb
            generalize HTG : strOfNums ((bs.drop (at_ + 20 + 2)).take (fv15 bs at_ 20 2).toNat) = TG at *
            have wk := hwk.out
            go_wp2_with (first | (go_at_call 46; (with_reducible refine (qc20.out _ HRW.out).mono ?_); rintro e wx ⟨rfl, rfl⟩) | ((with_reducible refine inoHere ?_); refine wpList_loadG (by first | rfl | fail) 24 _ rfl W1.heap.size rfl (HGs.out.put 16 (.string TG)).r Try.underlying24 rfl infoI ?_) | ((with_reducible refine inoStore ?_); refine wpList_storeB rfl 24 _ _ rfl w.heap.size [.int .i64 (3), .int .i64 (IntKind.i64.wrap (fv15 bs at_ 2 2)), .int .i64 (IntKind.i64.wrap (fv15 bs at_ 4 2)), .int .i64 (IntKind.i64.wrap (fv15 bs at_ 6 2)), .int .i64 (IntKind.i64.wrap (fv15 bs at_ 8 4)), .int .i64 (IntKind.i64.wrap (fv15 bs at_ 12 4)), .int .i64 (mn15 (fv15 bs at_ 16 4)), .int .i64 (0), .int .i64 (0), .slice none 0 0, .int .i64 (0), .int .i64 (0), .int .i64 (0), .int .i64 (0), .int .i64 (0), .int .i64 (0), .string (TG), .int .i64 (0)] rfl rfl (HGs.out.put 16 (.string TG)).z infoI rfl rfl ?_; intro W6 b6 g6) | fail)
            exact bodyPost_ret (results_cell_1 rfl _ _ w.heap.size 24 _ (0, 0) _ rfl b6.blk Try.underlying24 rfl infoI) rfl (by exact ⟨⟨(3), (IntKind.i64.wrap (fv15 bs at_ 2 2)), (IntKind.i64.wrap (fv15 bs at_ 4 2)), (IntKind.i64.wrap (fv15 bs at_ 6 2)), (IntKind.i64.wrap (fv15 bs at_ 8 4)), (IntKind.i64.wrap (fv15 bs at_ 12 4)), (mn15 (fv15 bs at_ 16 4)), (0), (0), none, 0, 0, [], (0), (0), (0), (0), (0), (0), TG, (0)⟩, true, rfl, ⟨⟨HX0.out, in64_wrap _, in64_wrap _, in64_wrap _, in64_wrap _, in64_wrap _, mn_in _, in64_0, in64_0, in64_0, in64_0, in64_0, in64_0, in64_0, in64_0, in64_0⟩, irow_nil _, ⟨Nat.le_refl _, Nat.zero_le _⟩, HTS.out⟩, rfl, fun n0 h0 _ => ⟨rfl, by have := gs_3 h0 (HKD.out n0 h0) HLB.out HB.out; rw [HTG] at this; exact this⟩, far_none, grown_new (HGs.out.put 16 (.string TG)).gw g6 (Nat.le_refl _)⟩)
        · skip
          have d17 := HGs.out.r.c 17
          have z17 := bx_frz HGs.out.r 17
          simp only [List.getElem?_cons_zero, List.getElem?_cons_succ] at d17
          go_wp2_with (first | (go_at_call 46; (with_reducible refine (qb20.out _ HRW.out).mono ?_); rintro e wx ⟨rfl, rfl⟩) | ((with_reducible refine inoHere ?_); refine wpList_loadG (by first | rfl | fail) 24 _ rfl W1.heap.size rfl (HGs.out.put 17 (.int .i64 (wrap64 (fv15 bs at_ 20 4)))).r Try.underlying24 rfl infoI ?_) | ((with_reducible refine inoStore ?_); refine wpList_storeB rfl 24 _ _ rfl w.heap.size [.int .i64 (x0), .int .i64 (IntKind.i64.wrap (fv15 bs at_ 2 2)), .int .i64 (IntKind.i64.wrap (fv15 bs at_ 4 2)), .int .i64 (IntKind.i64.wrap (fv15 bs at_ 6 2)), .int .i64 (IntKind.i64.wrap (fv15 bs at_ 8 4)), .int .i64 (IntKind.i64.wrap (fv15 bs at_ 12 4)), .int .i64 (mn15 (fv15 bs at_ 16 4)), .int .i64 (0), .int .i64 (0), .slice none 0 0, .int .i64 (0), .int .i64 (0), .int .i64 (0), .int .i64 (0), .int .i64 (0), .int .i64 (0), .string (⟨#[]⟩), .int .i64 (wrap64 (fv15 bs at_ 20 4))] rfl rfl (HGs.out.put 17 (.int .i64 (wrap64 (fv15 bs at_ 20 4)))).z infoI rfl rfl ?_; intro W6 b6 g6) | fail)
          exact bodyPost_ret (results_cell_1 rfl _ _ w.heap.size 24 _ (0, 0) _ rfl b6.blk Try.underlying24 rfl infoI) rfl (by exact ⟨⟨(x0), (IntKind.i64.wrap (fv15 bs at_ 2 2)), (IntKind.i64.wrap (fv15 bs at_ 4 2)), (IntKind.i64.wrap (fv15 bs at_ 6 2)), (IntKind.i64.wrap (fv15 bs at_ 8 4)), (IntKind.i64.wrap (fv15 bs at_ 12 4)), (mn15 (fv15 bs at_ 16 4)), (0), (0), none, 0, 0, [], (0), (0), (0), (0), (0), (0), ⟨#[]⟩, (wrap64 (fv15 bs at_ 20 4))⟩, true, rfl, ⟨⟨HX0.out, in64_wrap _, in64_wrap _, in64_wrap _, in64_wrap _, in64_wrap _, mn_in _, in64_0, in64_0, in64_0, in64_0, in64_0, in64_0, in64_0, in64_0, (in64_w64 _)⟩, irow_nil _, ⟨Nat.le_refl _, Nat.zero_le _⟩, Nat.zero_le _⟩, rfl, fun n0 h0 _ => ⟨rfl, gs_0 h0 (HKD.out n0 h0) h1 h2 h3⟩, far_none, grown_new (HGs.out.put 17 (.int .i64 (wrap64 (fv15 bs at_ 20 4)))).gw g6 (Nat.le_refl _)⟩)
end Go.Proofs.Ytiafbnpbbjkdbaa
