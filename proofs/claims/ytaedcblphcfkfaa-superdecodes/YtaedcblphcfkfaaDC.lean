/- Bytes as a record. -/
import Derived.Test.YtaedcblphcfkfaaDB
import Derived.Deep.RegionHeld3
import Derived.Deep.RegionWith
namespace Go.Proofs.Ytaedcblphcfkfaa
open Go.RowKit
set_option linter.unusedSimpArgs false
set_option linter.unusedVariables false

/-- what the fields of these bytes tell -/
def rrd (bs : List Int) : Rc := ⟨le ((bs.drop 4).take 8), bs.getD 12 0, le ((bs.drop 16).take 4), le ((bs.drop 20).take 8)⟩
/-- Decode, as a plain function -/
def rde (bs : List Int) : Rc × Int := if bs.length < 32 then (rc0, 6) else if rrt (rrd bs) = true ∧ rby (rrd bs) = bs.take 32 then (rrd bs, 0) else (rc0, 6)
theorem rrd_ok {bs : List Int} (h : Byt bs) : (rrd bs).ok := by
  have a1 := le_nonneg ((h.drop 4).take 8)
  have a2 := le_lt_of ((h.drop 4).take 8) 8 (by simp; omega)
  have a3 := le_nonneg ((h.drop 16).take 4)
  have a4 := le_lt_of ((h.drop 16).take 4) 4 (by simp; omega)
  have a5 := le_nonneg ((h.drop 20).take 8)
  have a6 := le_lt_of ((h.drop 20).take 8) 8 (by simp; omega)
  have a7 := h.getD 12
  unfold Rc.ok rrd inU in64
  simp only
  omega
theorem rde_ok {bs : List Int} (h : Byt bs) : (rde bs).1.ok ∧ in64 (rde bs).2 := by
  have h0 : rc0.ok := by unfold Rc.ok rc0 inU in64; simp
  unfold rde
  split
  · exact ⟨h0, by unfold in64; simp⟩
  · split
    · exact ⟨rrd_ok h, by unfold in64; simp⟩
    · exact ⟨h0, by unfold in64; simp⟩
end Go.Proofs.Ytaedcblphcfkfaa
