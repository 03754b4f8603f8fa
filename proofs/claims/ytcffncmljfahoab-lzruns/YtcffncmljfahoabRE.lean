/- The document's Decode. -/
import Derived.Test.YtcffncmljfahoabRF
namespace Go.Proofs.Ytcffncmljfahoab
open Go.RowKit
set_option linter.unusedSimpArgs false
set_option linter.unusedVariables false

def DecPost (w : World) (r : List Int × List Sq × Int × Int) (e : Ending) (w' : World) : Prop :=
  ∃ vo vl ss, e = .returned (.tuple #[vo, vl, .int .i64 r.2.2.1, .int .i64 r.2.2.2]) ∧ St w w' vo vl r.1 ss r.2.1
theorem dec_bad (w wr : World) (er q : Int) (h : w.grownBy wr none) : DecPost w ([], [], er, q) (.returned (.tuple #[.slice none 0 0, .slice none 0 0, .int .i64 er, .int .i64 q])) wr :=
  ⟨_, _, [], rfl, World.ownsRow_nil _ _ _ _, World.ownsRow_nil _ _ _ _, h, fun x hx => by simp at hx, .nil⟩
theorem dec_succ_bad {bs : List Int} {most : Int} {f : Nat} {out : List Int} {sq : List Sq} {p : Nat} {e q : Int} (h : dst bs most out.length p = .bad e q) : dec bs most (f + 1) out sq p = ([], [], e, q) := by
  rw [dec, h]
/-- the first length's four bits -/
theorem tok_hi {x : Int} (h : 0 ≤ x ∧ x ≤ 255) : 0 ≤ x / 16 ∧ x / 16 ≤ 15 := by omega
theorem Try.infoSeq : (Try.prog.info? 28).map (fun i => (i.zero, i.size, i.bytes)) = some (some (.agg #[.slice none 0 0, .int .i64 0, .int .i64 0]), 3, 40) := by kernel_rfl
theorem cell_three (w : World) (t : TypeId) (a b c : Value) (j : Nat) (u : Value) (h : ([a, b, c])[j]? = some u) : (w.alloc (.cells #[a, b, c] t)).cell? ((⟨w.heap.size, 0, none⟩ : Addr).add j) = some u := by
  match j, h with
  | 0, h => simp at h; subst h; simp [Addr.add]
  | 1, h => simp at h; subst h; simp [Addr.add]
  | 2, h => simp at h; subst h; simp [Addr.add]
  | j + 3, h => simp at h
theorem sq_one (s : SqV) : ∀ u ∈ s.cells, u.oneCell' = true := by
  intro u hu
  simp [SqV.cells] at hu
  rcases hu with rfl | rfl | rfl <;> rfl
theorem Box.c3 {W : World} {g : Nat} {T : TypeId} {a b c : Value} (h : Box W g T [a, b, c]) : W.cell? ⟨g, 0, none⟩ = some a ∧ W.cell? ⟨g, 1, none⟩ = some b ∧ W.cell? ⟨g, 2, none⟩ = some c := ⟨h.c 0, h.c 1, h.c 2⟩
theorem dec_succ_last {bs : List Int} {most : Int} {f : Nat} {out : List Int} {sq : List Sq} {p k n : Nat} (h : dst bs most out.length p = .last k n) : dec bs most (f + 1) out sq p = (out ++ (bs.drop k).take n, sq ++ [((bs.drop k).take n, 0, 0)], 0, (bs.length : Int)) := by
  rw [dec, h]
theorem dec_succ_more {bs : List Int} {most : Int} {f : Nat} {out : List Int} {sq : List Sq} {p k n o m q : Nat} (h : dst bs most out.length p = .more k n o m q) : dec bs most (f + 1) out sq p = dec bs most f (cpy o m (out ++ (bs.drop k).take n)) (sq ++ [((bs.drop k).take n, (o : Int), (m : Int))]) q := by
  rw [dec, h]
theorem tok_lo {x : Int} (h : 0 ≤ x ∧ x ≤ 255) : 0 ≤ x % 16 ∧ x % 16 ≤ 15 := by omega

end Go.Proofs.Ytcffncmljfahoab
