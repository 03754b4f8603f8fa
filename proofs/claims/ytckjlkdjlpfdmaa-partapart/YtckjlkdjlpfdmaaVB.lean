/- Is a plan what Make makes? How many bytes has a slot? -/
import Derived.Test.YtckjlkdjlpfdmaaVA
namespace Go.Proofs.Ytckjlkdjlpfdmaa
open Go.RowKit
set_option linter.unusedSimpArgs false
set_option linter.unusedVariables false

def bnd64 (x : Int) : Prop := -9223372036854775808 ≤ x ∧ x ≤ 9223372036854775807
def Pl.ok (P : Pl) : Prop := bnd64 P.s ∧ bnd64 P.p ∧ bnd64 P.b ∧ bnd64 P.x0 ∧ bnd64 P.x1 ∧ bnd64 P.y0 ∧ bnd64 P.y1 ∧ bnd64 P.n
/-- a variable of several cells -/
structure Bx (W : World) (g : Nat) (T : TypeId) (cs : List Value) : Prop where
  blk : W.heap[g]? = some (.cells cs.toArray T (0, 0))
theorem Bx.lt {W : World} {g : Nat} {T : TypeId} {cs : List Value} (h : Bx W g T cs) : g < W.heap.size := (Array.getElem?_eq_some_iff.1 h.blk).1
theorem Bx.c {W : World} {g : Nat} {T : TypeId} {cs : List Value} (h : Bx W g T cs) (i : Nat) : W.cell? ⟨g, i, none⟩ = cs[i]? := by simp [World.cell?, h.blk]
theorem Bx.kept {W W' : World} {g : Nat} {T : TypeId} {cs : List Value} (h : Bx W g T cs) (hg : W.grownBy W' none) : Bx W' g T cs := ⟨by rw [hg.block g h.lt (by simp)]; exact h.blk⟩
theorem Bx.new (w : World) (T : TypeId) (cs : List Value) : Bx (w.alloc (.cells cs.toArray T)) w.heap.size T cs := ⟨heap_alloc_new _ _⟩
/-- is it what Make makes? -/
def rgt (P : Pl) : Bool := (mk P.s P.p P.b).1.same P && decide ((mk P.s P.p P.b).2 = 0)
theorem rgt_iff {P : Pl} : rgt P = true ↔ mk P.s P.p P.b = (P, 0) := by
  unfold rgt
  rw [Bool.and_eq_true, Pl.same_iff, decide_eq_true_iff]
  constructor
  · rintro ⟨h1, h2⟩; exact Prod.ext h1 h2
  · intro h; rw [h]; exact ⟨rfl, rfl⟩
theorem mk_geo {s p b : Int} (h : (mk s p b).2 = 0) : (mk s p b).1.s = s ∧ (mk s p b).1.p = p ∧ (mk s p b).1.b = b := by
  unfold mk at h ⊢
  split at h
  · rename_i k; exact absurd h k
  · split at h
    · simp at h
    · rename_i k1 k2
      rw [if_neg k1, if_neg k2]
      exact ⟨rfl, rfl, rfl⟩

theorem and_no {P Q : Pl} {e : Int} (h : ¬ ((P.s = Q.s ∧ P.p = Q.p ∧ P.b = Q.b ∧ P.x0 = Q.x0 ∧ P.x1 = Q.x1 ∧ P.y0 = Q.y0 ∧ P.y1 = Q.y1 ∧ P.n = Q.n) ∧ e = 0)) : (P.same Q && decide (e = 0)) = false := by
  cases k : (P.same Q && decide (e = 0)) with
  | false => rfl
  | true =>
    rw [Bool.and_eq_true, Pl.same_iff, decide_eq_true_iff] at k
    exact absurd ⟨by rw [k.1]; simp, k.2⟩ h
set_option maxHeartbeats 4000000 in
theorem right_any (P : Pl) (w : World) (hP : P.ok) : Calls Try.prog 9 #[P.val] w fun e w' => e = .returned (.bool (rgt P)) ∧ w.grownBy w' none := by
  have B0 := Bx.new w 26 P.cells
  have G0 := World.grownBy_alloc w (.cells P.cells.toArray 26) none
  have hm := make_any P.s P.p P.b (w.alloc (.cells P.cells.toArray 26)) hP.1 hP.2.1 hP.2.2.1
  have hr : rgt P = ((mk P.s P.p P.b).1.same P && decide ((mk P.s P.p P.b).2 = 0)) := rfl
  have hgeo := mk_geo (s := P.s) (p := P.p) (b := P.b)
  rw [hr]
  generalize mk P.s P.p P.b = M at hm hgeo ⊢
  obtain ⟨⟨qs, qp, qb, q0, q1, q2, q3, qn⟩, qe⟩ := M
  obtain ⟨s, p, b, x0, x1, y0, y1, n⟩ := P
  simp only [Pl.val, Pl.cells] at hm hgeo B0 G0 ⊢
  have HB : Hid _ := And.intro B0 G0
  have HG : Hid _ := hgeo
  clear B0 G0 hr hgeo
  go_enter Try.func9, Try.ntmps9
  go_wp2_with fail
  refine hm.mono ?_
  rintro e w1 ⟨rfl, g1⟩
  have B1 := HB.out.1.kept g1
  have G1 := grown_trans HB.out.2 g1
  have B2 := B1.kept (World.grownBy_alloc w1 (.cells #[.int .i64 qs, .int .i64 qp, .int .i64 qb, .int .i64 q0, .int .i64 q1, .int .i64 q2, .int .i64 q3, .int .i64 qn] 26) none)
  have HG2 : Hid _ := grown_trans G1 (World.grownBy_alloc w1 (.cells #[.int .i64 qs, .int .i64 qp, .int .i64 qb, .int .i64 q0, .int .i64 q1, .int .i64 q2, .int .i64 q3, .int .i64 qn] 26) none)
  have c3 := B2.c 3
  have c4 := B2.c 4
  have c5 := B2.c 5
  have c6 := B2.c 6
  have c7 := B2.c 7
  simp only [List.getElem?_cons_succ, List.getElem?_cons_zero] at c3 c4 c5 c6 c7
  clear B1 G1 B2 hm g1 HB
  generalize w.heap.size = g0 at *
  simp only
  by_cases k0 : qe = 0
  · skip
    by_cases k1 : x0 = q0
    · skip
      by_cases k2 : x1 = q1
      · skip
        by_cases k3 : y0 = q2
        · skip
          by_cases k4 : y1 = q3
          · skip
            by_cases k5 : n = qn
            · skip
              obtain ⟨e1, e2, e3⟩ := HG.out k0
              subst k0 k1 k2 k3 k4 k5 e1 e2 e3
              go_wp2
              go_ret
              exact ⟨by simp [Pl.same_self], HG2.out⟩
            · have hf : (n == qn) = false := by simp; omega
              go_wp2
              go_ret
              exact ⟨by rw [and_no (by simp only; omega)]; rfl, HG2.out⟩
          · have hf : (y1 == q3) = false := by simp; omega
            go_wp2
            go_ret
            exact ⟨by rw [and_no (by simp only; omega)]; rfl, HG2.out⟩
        · have hf : (y0 == q2) = false := by simp; omega
          go_wp2
          go_ret
          exact ⟨by rw [and_no (by simp only; omega)]; rfl, HG2.out⟩
      · have hf : (x1 == q1) = false := by simp; omega
        go_wp2
        go_ret
        exact ⟨by rw [and_no (by simp only; omega)]; rfl, HG2.out⟩
    · have hf : (x0 == q0) = false := by simp; omega
      go_wp2
      go_ret
      exact ⟨by rw [and_no (by simp only; omega)]; rfl, HG2.out⟩
  · have hf : (qe == 0) = false := by simp; omega
    go_wp2
    go_ret
    exact ⟨by rw [and_no (by simp only; omega)]; rfl, HG2.out⟩

def sze (P : Pl) : Int := P.n * P.p * P.b
end Go.Proofs.Ytckjlkdjlpfdmaa
