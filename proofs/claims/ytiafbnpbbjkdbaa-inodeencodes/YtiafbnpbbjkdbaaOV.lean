/- An inode that came in. -/
import Derived.Test.YtiafbnpbbjkdbaaOA
import Derived.OpenShut
import Derived.ChangeSame
import Derived.Lib.SmallJoins
import Derived.ProofKit
import Derived.ChangeOld
import Derived.Deep.Slices
namespace Go.Proofs.Ytiafbnpbbjkdbaa
open Go.RowKit Go.ChangeShapes Go.WideShapes Go.ChangeAt Go.Joins
set_option maxRecDepth 100000
set_option linter.unusedSimpArgs false
set_option linter.unusedVariables false
theorem Try.cf3 : Try.prog.cellsOf 3 = 1 := by kernel_rfl
theorem Try.cf9 : Try.prog.cellsOf 9 = 1 := by kernel_rfl
theorem Try.cfI : Try.prog.cellsOf 22 = 1 := by kernel_rfl
theorem Try.cfN : Try.prog.cellsOf 24 = 18 := by kernel_rfl
theorem IsRow.irow {w : World} {a : Option Addr} {len cap : Nat} {zs : List Int} (h : IsRow .i64 w a len cap zs) : IRow w a len (zs.take len) := by
  rcases h with ⟨rfl, rfl, rfl, rfl⟩ | ⟨x, rfl, hl, hm, hz, hcell, hwz⟩
  · exact ⟨rfl, Nat.zero_le _, fun n hn => by simp at hn, fun h => absurd h (by omega)⟩
  · refine ⟨by simp; omega, by omega, fun n hn => wf_i64 (hwz n (List.mem_of_mem_take hn)), fun h0 => ?_⟩
    obtain ⟨b, off, spot⟩ := x
    have hc := hcell 0 (by omega)
    have hspot : spot = none := by simpa [Addr.add] using World.cell?_spot hc
    subst hspot
    refine ⟨b, off, rfl, fun i hi => ?_⟩
    have hadd : (⟨b, off, none⟩ : Addr).add i = ⟨b, off + i, none⟩ := by unfold Addr.add; split <;> simp_all
    rw [← hadd, hcell i (by omega), getD_take _ _ _ hi]
theorem irow_of_trod {H : Type} {enc : TypeId × Value → H} {w : World} {fuel : Nat} {v : Value} {x : DataW H × List MemPlace} (h : DataW.trod enc Try.prog w 0 (fun _ => true) true fuel 22 [v] = some x) :
    ∃ a len cap xs, v = .slice a len cap ∧ IRow w a len xs ∧ len ≤ cap ∧ cap ≤ maxLen := by
  rcases open_ints Try.underlying22 Try.underlying3 Try.cf3 h with ⟨hcs, _⟩ | ⟨y, l, c, zs, hcs, _, hl, hm, hz, _, hcell, hwz⟩
  · simp at hcs
    have hr : IsRow .i64 w none 0 0 [] := .inl ⟨rfl, rfl, rfl, rfl⟩
    exact ⟨none, 0, 0, _, hcs, hr.irow, Nat.le_refl _, Nat.zero_le _⟩
  · simp at hcs
    have hr : IsRow .i64 w (some y) l c zs := .inr ⟨_, rfl, hl, hm, by simpa using hz, hcell, hwz⟩
    exact ⟨some y, l, c, _, hcs, hr.irow, hl, hm⟩
theorem trod_ino {H : Type} {enc : TypeId × Value → H} {w : World} {fuel : Nat} {cs : List Value} {x : DataW H × List MemPlace} (h : DataW.trod enc Try.prog w 0 (fun _ => true) true fuel 24 cs = some x) :
    ∃ n : Nd, cs = n.cells ∧ n.ok w := by
  obtain ⟨xs, m, _, _, hl, hlen, hf⟩ := DataW.trod_struct Try.underlying24 h
  have h0 := hf 0 _ rfl
  have h1 := hf 1 _ rfl
  have h2 := hf 2 _ rfl
  have h3 := hf 3 _ rfl
  have h4 := hf 4 _ rfl
  have h5 := hf 5 _ rfl
  have h6 := hf 6 _ rfl
  have h7 := hf 7 _ rfl
  have h8 := hf 8 _ rfl
  have h9 := hf 9 _ rfl
  have h10 := hf 10 _ rfl
  have h11 := hf 11 _ rfl
  have h12 := hf 12 _ rfl
  have h13 := hf 13 _ rfl
  have h14 := hf 14 _ rfl
  have h15 := hf 15 _ rfl
  have h16 := hf 16 _ rfl
  have h17 := hf 17 _ rfl
  clear hf
  rw [Try.cfN] at hl
  match xs, hlen, cs, hl with
  | [y0, y1, y2, y3, y4, y5, y6, y7, y8, y9, y10, y11, y12, y13, y14, y15, y16, y17], _, [c0, c1, c2, c3, c4, c5, c6, c7, c8, c9, c10, c11, c12, c13, c14, c15, c16, c17], _ =>
    simp [Try.cf3, Try.cf9, Try.cfI] at h0 h1 h2 h3 h4 h5 h6 h7 h8 h9 h10 h11 h12 h13 h14 h15 h16 h17
    obtain ⟨kd, e0, _, k0⟩ := DataW.trod_int Try.underlying3 h0
    obtain ⟨md, e1, _, k1⟩ := DataW.trod_int Try.underlying3 h1
    obtain ⟨ui, e2, _, k2⟩ := DataW.trod_int Try.underlying3 h2
    obtain ⟨gi, e3, _, k3⟩ := DataW.trod_int Try.underlying3 h3
    obtain ⟨tm, e4, _, k4⟩ := DataW.trod_int Try.underlying3 h4
    obtain ⟨ln, e5, _, k5⟩ := DataW.trod_int Try.underlying3 h5
    obtain ⟨at_, e6, _, k6⟩ := DataW.trod_int Try.underlying3 h6
    obtain ⟨sz, e7, _, k7⟩ := DataW.trod_int Try.underlying3 h7
    obtain ⟨st, e8, _, k8⟩ := DataW.trod_int Try.underlying3 h8
    obtain ⟨wa, wl, wc, ws, e9, hr, hcp⟩ := irow_of_trod h9
    obtain ⟨fr, e10, _, k10⟩ := DataW.trod_int Try.underlying3 h10
    obtain ⟨of_, e11, _, k11⟩ := DataW.trod_int Try.underlying3 h11
    obtain ⟨tl, e12, _, k12⟩ := DataW.trod_int Try.underlying3 h12
    obtain ⟨dr, e13, _, k13⟩ := DataW.trod_int Try.underlying3 h13
    obtain ⟨by_, e14, _, k14⟩ := DataW.trod_int Try.underlying3 h14
    obtain ⟨pr, e15, _, k15⟩ := DataW.trod_int Try.underlying3 h15
    obtain ⟨tg, e16, _, ht⟩ := DataW.trod_string Try.underlying9 h16
    obtain ⟨dv, e17, _, k17⟩ := DataW.trod_int Try.underlying3 h17
    simp at e0 e1 e2 e3 e4 e5 e6 e7 e8 e9 e10 e11 e12 e13 e14 e15 e16 e17
    subst e0 e1 e2 e3 e4 e5 e6 e7 e8 e9 e10 e11 e12 e13 e14 e15 e16 e17
    exact ⟨⟨kd, md, ui, gi, tm, ln, at_, sz, st, wa, wl, wc, ws, fr, of_, tl, dr, by_, pr, tg, dv⟩, rfl, ⟨wf_i64 k0, wf_i64 k1, wf_i64 k2, wf_i64 k3, wf_i64 k4, wf_i64 k5, wf_i64 k6, wf_i64 k7, wf_i64 k8, wf_i64 k10, wf_i64 k11, wf_i64 k12, wf_i64 k13, wf_i64 k14, wf_i64 k15, wf_i64 k17⟩, hr, hcp, ht⟩
theorem open_ino {H : Type} {enc : TypeId × Value → H} {w : World} {r : Reach} {b0 : Nat} {v : Value} {d : DataW H} {ps : List MemPlace} (hv : Value.okWide Try.prog w r b0 24 v) (h : DataW.Trod enc Try.prog w 0 (fun _ => true) true 24 v d ps) :
    ∃ n : Nd, v = n.val ∧ n.ok w := by
  obtain ⟨cs, rfl, hsz⟩ := okWide_struct Try.underlying24 hv
  obtain ⟨fuel, hf⟩ := h
  obtain ⟨c, e, k⟩ := trod_ino hf
  refine ⟨c, ?_, k⟩
  have e' : cs = c.cells.toArray := by
    apply Array.ext'
    simpa [Value.cells] using e
  rw [e']
  rfl
end Go.Proofs.Ytiafbnpbbjkdbaa
