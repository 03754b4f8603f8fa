/- Encode's put; the page's example, plain. -/
import Derived.Test.YtngalihnckbkfaaEG
import Derived.Test.YtngalihnckbkfaaEB
import Derived.Test.YtngalihnckbkfaaHI
namespace Go.Proofs.Ytngalihnckbkfaa
open Go.RowKit
set_option maxRecDepth 100000
set_option linter.unusedSimpArgs false
set_option linter.unusedVariables false
def exK : List Kx := [⟨⟨#[97]⟩, 5⟩, ⟨⟨#[98]⟩, 7⟩, ⟨⟨#[99]⟩, 2⟩]
theorem ex_enb : enb16 exK = [2, 0, 5, 0, 0, 0, 0, 0, 1, 97, 2, 0, 1, 98, 1, 0, 2, 0, 0, 0, 0, 0, 1, 99] := by kernel_rfl
theorem ex_rgt : rgt16 exK = true := by kernel_rfl
set_option maxHeartbeats 2000000 in
theorem pput_any (p pb : Nat) (n m : Nat) (v : Value) (bs : List Int) (most : Int) (w : World) (hI : WInv w p v bs most 0) (hb : w.cell? ⟨pb, 0, none⟩ = some (.pointer (some ⟨p, 0, none⟩))) (hck : ckE (n : Int) m = 0) (hn : (n : Int) ≤ 9223372036854775807) (h0 : 0 ≤ most) (h1 : most ≤ 9223372036854775807) (hl : bs.length + m ≤ 140737488355328) (hm : (m : Int) ≤ most - bs.length) :
    Calls Try.prog 19 #[.int .i64 (n : Int), .int .i64 (m : Int), .pointer (some ⟨pb, 0, none⟩)] w fun e w' => e = .returned (.tuple #[]) ∧ ∃ v', WInv w' p v' (bs ++ sto (n : Int) m) most 0 ∧ Chg w w' p v v' := by
  have hwr : IntKind.u64.wrap (n : Int) = (n : Int) := u64_wrap_in _ (by omega) (by omega)
  have hN := wnum_ok p v bs most (n : Int) m w hI hck h0 h1 hl hm
  clear hI hck hn h0 h1 hl hm
  go_enter Try.func19, Try.ntmps19
  go_wp2_with (go_at_call 20; refine hN.mono ?_; rintro e w1 ⟨v', rfl, hv, hc⟩)
  exact bodyPost_end (results_none rfl _ _ _) rfl ⟨rfl, v', hv, hc⟩
end Go.Proofs.Ytngalihnckbkfaa
