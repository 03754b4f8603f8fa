/- A folder's names in memory. -/
import Derived.Test.YtngalihnckbkfaaNB
import Derived.Test.YtngalihnckbkfaaNGA
import Derived.Test.YtngalihnckbkfaaOL
namespace Go.Proofs.Ytngalihnckbkfaa
open Go.RowKit
set_option maxRecDepth 100000
set_option linter.unusedSimpArgs false
set_option linter.unusedVariables false
/-- a name and its number -/
structure Kx where
  nm : ByteArray
  io : Int
def Kx.cells (k : Kx) : List Value := [.string k.nm, .int .i64 k.io]
structure KxAt (w : World) (b o : Nat) (k : Kx) : Prop where
  c0 : w.cell? ⟨b, o, none⟩ = some (.string k.nm)
  c1 : w.cell? ⟨b, o + 1, none⟩ = some (.int .i64 k.io)
theorem cell_grown16 {w w' : World} {p : Addr} {v : Value} (h : w.cell? p = some v) (g : w.grownBy w' none) : w'.cell? p = some v := World.grownBy.cell g h (by simp)
theorem KxAt.grown {w w' : World} {b o : Nat} {k : Kx} (h : KxAt w b o k) (g : w.grownBy w' none) : KxAt w' b o k := ⟨cell_grown16 h.c0 g, cell_grown16 h.c1 g⟩
/-- a row of names -/
structure Kxs (w : World) (a : Option Addr) (len : Nat) (l : List Kx) : Prop where
  len_eq : l.length = len
  le : len ≤ maxLen
  at_ : 0 < len → ∃ b off, a = some ⟨b, off, none⟩ ∧ ∀ (i : Nat) (K : Kx), l[i]? = some K → KxAt w b (off + i * 2) K
theorem Kxs.grown {w w' : World} {a : Option Addr} {len : Nat} {l : List Kx} (h : Kxs w a len l) (g : w.grownBy w' none) : Kxs w' a len l :=
  ⟨h.len_eq, h.le, fun h0 => by obtain ⟨b, off, e, k⟩ := h.at_ h0; exact ⟨b, off, e, fun i K hK => (k i K hK).grown g⟩⟩
theorem Kxs.part {w : World} {b off len : Nat} {l : List Kx} (h : Kxs w (some ⟨b, off, none⟩) len l) (k n : Nat) (hn : k + n ≤ len) : Kxs w (some ⟨b, off + k * 2, none⟩) n ((l.drop k).take n) := by
  have hl := h.len_eq
  have hle := h.le
  refine ⟨by rw [List.length_take, List.length_drop]; omega, by omega, fun h0 => ?_⟩
  obtain ⟨b', off', e, hk⟩ := h.at_ (by omega)
  injection e with e
  injection e with e1 e2
  subst e1 e2
  refine ⟨b, off + k * 2, rfl, fun i K hK => ?_⟩
  rw [List.getElem?_take] at hK
  split at hK
  · rw [List.getElem?_drop] at hK
    have := hk (k + i) K hK
    rwa [show off + k * 2 + i * 2 = off + (k + i) * 2 by omega]
  · cases hK
/-- the numbers are numbers, the names are texts -/
def Kx.ok (k : Kx) : Prop := (-9223372036854775808 ≤ k.io ∧ k.io ≤ 9223372036854775807) ∧ k.nm.size ≤ maxLen
end Go.Proofs.Ytngalihnckbkfaa
