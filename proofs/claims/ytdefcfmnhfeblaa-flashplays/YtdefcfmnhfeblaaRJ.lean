/- The document's Arm where nothing is torn. -/
import Derived.Test.YtdefcfmnhfeblaaRE
import Derived.Deep.RegionLaw
namespace Go.Proofs.Ytdefcfmnhfeblaa
open Go.RowKit
set_option linter.unusedSimpArgs false
set_option linter.unusedVariables false

theorem step_append_nothing {P : Program} {ops : Array Oper} {o : Oper} {a : Act} {w : World} {K : Act → World → Prop} {Q : Exit → Act → World → Prop} {E : Prop}
    (hg : o.guard = none) (s x : Operand) (t : TypeId) (hop : o.op = Op.call { callee := Callee.builtin Builtin.append, args := #[s, x], argTypes := #[t, t] })
    (i : TypeInfo) (h1 : P.underlying t = some (.slice 5)) (h2 : P.info? 5 = some i) (h4 : i.size = 1)
    (g : Nat) (hs : a.eval s = .slice (some ⟨g, 0, none⟩) 0 0)
    (a2 : Option Addr) (c : Nat) (hnil : a2 = none → c = 0) (hx : a.eval x = .slice a2 0 c)
    (hK : ∀ w', w' = w → K (a.put o.dst (.slice (some ⟨g, 0, none⟩) 0 0)) w') :
    if Region.wanted o (yielded ops a.tmps) = true then Oper.wp P o a w K Q else E := by
  cases a2 with
  | some ad =>
    refine step_append_room hg s x t hop 5 i 1 h1 h2 h4 g 0 0 0 hs ad 0 c [] hx (by simp) (fun j u hj => by simp at hj) (fun u hu => by cases hu) (Nat.le_refl _) (fun j hj => by simp at hj) ?_
    exact hK _ (by simp [World.setCells])
  | none =>
    obtain rfl := hnil rfl
    have hw : Region.wanted o (yielded ops a.tmps) = true := by simp [Region.wanted, hg]
    rw [if_pos hw]
    have hrun : (Builtin.append_ #[t, t] o.type #[.slice (some ⟨g, 0, none⟩) 0 0, .slice none 0 0]).run P w = .ok (.slice (some ⟨g, 0, none⟩) 0 0) w := by
      simp [Builtin.append_, run_underlying h1, sizeOf, typeInfo, h2, Builtin.lenOf, Builtin.firstCells, storeCells]
    unfold Oper.wp
    simp [execOp, hop, resolve, invoke, builtin, hs, hx, hrun, Result.andThen]
    exact hK _ rfl
set_option maxHeartbeats 2000000 in
theorem rarm_none (s p b ops after : Int) (aB aD aW aT : Option Addr) (lB cB lD cD lW cW lT cT : Nat) (n : Int) (a2 : Option Addr) (c2 : Nat) (w : World) (hnil : a2 = none → c2 = 0) (hn : ¬ n < 1) :
    Calls Try.prog 34 #[.agg #[.int .i64 s, .int .i64 p, .int .i64 b, .slice aB lB cB, .slice aD lD cD, .slice aW lW cW, .int .i64 ops, .bool false, .int .i64 after, .slice aT lT cT], .agg #[.int .i64 n, .slice a2 0 c2]] w
      fun e w' => RaPost w s p b aB lB cB aD lD cD aW lW cW ops n 0 [] e w' := by
  obtain ⟨i5, hi5, hz0, hz1, hz2⟩ := info_parts Try.info5
  have wa := wa_made 40 38 w [.int .i64 s, .int .i64 p, .int .i64 b, .slice aB lB cB, .slice aD lD cD, .slice aW lW cW, .int .i64 ops, .bool false, .int .i64 after, .slice aT lT cT] [.int .i64 n, .slice a2 0 c2] [.int .i64 0, .int .i64 0, .int .i64 0, .slice none 0 0, .slice none 0 0, .slice none 0 0, .int .i64 0, .bool false, .int .i64 0, .slice none 0 0]
  have hsz := wa_size 40 38 w [.int .i64 s, .int .i64 p, .int .i64 b, .slice aB lB cB, .slice aD lD cD, .slice aW lW cW, .int .i64 ops, .bool false, .int .i64 after, .slice aT lT cT] [.int .i64 n, .slice a2 0 c2] [.int .i64 0, .int .i64 0, .int .i64 0, .slice none 0 0, .slice none 0 0, .slice none 0 0, .int .i64 0, .bool false, .int .i64 0, .slice none 0 0]
  have HA : Hid _ := And.intro wa hsz
  clear wa hsz
  go_enter Try.func34, Try.ntmps34
  go_wp2_with fail
  obtain ⟨wa, sz⟩ := HA.out
  generalize (((w.alloc (Obj.cells #[.int .i64 s, .int .i64 p, .int .i64 b, .slice aB lB cB, .slice aD lD cD, .slice aW lW cW, .int .i64 ops, .bool false, .int .i64 after, .slice aT lT cT] 40)).alloc (Obj.cells #[.int .i64 n, .slice a2 0 c2] 38)).alloc (Obj.cells #[.int .i64 0, .int .i64 0, .int .i64 0, .slice none 0 0, .slice none 0 0, .slice none 0 0, .int .i64 0, .bool false, .int .i64 0, .slice none 0 0] 40)) = W at wa sz ⊢
  clear HA
  generalize hgg : w.heap.size = g at wa sz ⊢
  have e0 : W.cell? ⟨g + 1, 0, none⟩ = some (.int .i64 n) := wa.b1.c 0
  have e1 : W.cell? ⟨g + 1, 1, none⟩ = some (.slice a2 0 c2) := wa.b1.c 1
  obtain ⟨c0, c1, c2', c3, c4, c5, c6, c7, c8, c9⟩ := wa.b0.c10
  obtain ⟨f0, f1, f2, f3, f4, f5, f6, f7, f8, f9⟩ := wa.b0.f10
  have BWd : Below (g + 1 + 1 + 1) W (W.alloc (.cells #[] 5)).drew := by
    have := grown_below (World.grownBy_alloc W (.cells #[] 5) none)
    rw [sz] at this
    exact ⟨this.os, this.tape, this.output, this.size, this.block⟩
  have lt1 : g + 1 < W.heap.size := by omega
  have HWA : Hid _ := wa
  have HB : Hid _ := BWd
  have HN : Hid _ := hnil
  clear wa BWd hnil
  go_region_held3 (fun w' => w'.cell? ⟨g + 1, 0, none⟩ = some (.int .i64 n) ∧ w'.cell? ⟨g + 1, 1, none⟩ = some (.slice a2 0 c2)) (go_keep)
    ((refine step_append_nothing (by rfl) _ _ _ (by rfl) i5 Try.underlying34 hi5 hz1 (g + 1 + 1 + 1) (by rfl) a2 c2 HN.out (by rfl) ?_; intro w1 hw1; have BW : Below (g + 1 + 1 + 1) W w1 := by { rw [hw1]; exact HB.out }; clear hw1; have q0 := (HWA.out.b1.below BW (by omega)).c 0; have q1 := (HWA.out.b1.below BW (by omega)).c 1; have q8 := (HWA.out.b0.below BW (by omega)).c 8; have q9 := (HWA.out.b0.below BW (by omega)).c 9; have r8 := (HWA.out.b0.below BW (by omega)).f 8; have r9 := (HWA.out.b0.below BW (by omega)).f 9))
  have wa1 := HWA.out.below BW
  have wa2 := (wa1.set0 8 (.int .i64 n)).set0 9 (.slice (some ⟨g + 1 + 1 + 1, 0, none⟩) 0 0)
  clear e0 e1 c0 c1 c2' c3 c4 c5 c6 c7 c8 c9 f0 f1 f2 f3 f4 f5 f6 f7 f8 f9 HWA HB HN q0 q1 q8 q9 r8 r9 BW wa1 sz lt1
  generalize ((w1.setCell ⟨g, 8, none⟩ (.int .i64 n)).setCell ⟨g, 9, none⟩ (.slice (some ⟨g + 1 + 1 + 1, 0, none⟩) 0 0)) = w2 at *
  have wa3 := wa2.store10 (.int .i64 s) (.int .i64 p) (.int .i64 b) (.slice aB lB cB) (.slice aD lD cD) (.slice aW lW cW) (.int .i64 ops) (.bool false) (.int .i64 n) (.slice (some ⟨g + 1 + 1 + 1, 0, none⟩) 0 0)
  obtain ⟨c0, c1, c2', c3, c4, c5, c6, c7, c8, c9⟩ := wa2.b0.c10
  obtain ⟨f0, f1, f2, f3, f4, f5, f6, f7, f8, f9⟩ := wa2.b0.f10
  obtain ⟨z0, z1, z2, z3, z4, z5, z6, z7, z8, z9⟩ := wa2.b2.c10
  obtain ⟨y0, y1, y2, y3, y4, y5, y6, y7, y8, y9⟩ := wa2.b2.f10
  have HF : Hid _ := wa3
  clear wa2 wa3
  go_wp2
  have wa3 := HF.out
  generalize ((((((((((w2.setCell ⟨g + 1 + 1, 0, none⟩ (.int .i64 s)).setCell ⟨g + 1 + 1, 1, none⟩ (.int .i64 p)).setCell ⟨g + 1 + 1, 2, none⟩ (.int .i64 b)).setCell ⟨g + 1 + 1, 3, none⟩ (.slice aB lB cB)).setCell ⟨g + 1 + 1, 4, none⟩ (.slice aD lD cD)).setCell ⟨g + 1 + 1, 5, none⟩ (.slice aW lW cW)).setCell ⟨g + 1 + 1, 6, none⟩ (.int .i64 ops)).setCell ⟨g + 1 + 1, 7, none⟩ (.bool false)).setCell ⟨g + 1 + 1, 8, none⟩ (.int .i64 n)).setCell ⟨g + 1 + 1, 9, none⟩ (.slice (some ⟨g + 1 + 1 + 1, 0, none⟩) 0 0)) = w3 at wa3 ⊢
  clear HF c0 c1 c2' c3 c4 c5 c6 c7 c8 c9 f0 f1 f2 f3 f4 f5 f6 f7 f8 f9 z0 z1 z2 z3 z4 z5 z6 z7 z8 z9 y0 y1 y2 y3 y4 y5 y6 y7 y8 y9
  obtain ⟨z0, z1, z2, z3, z4, z5, z6, z7, z8, z9⟩ := wa3.b2.c10
  refine bodyPost_ret (v := .tuple #[.agg #[.int .i64 s, .int .i64 p, .int .i64 b, .slice aB lB cB, .slice aD lD cD, .slice aW lW cW, .int .i64 ops, .bool false, .int .i64 n, .slice (some ⟨g + 1 + 1 + 1, 0, none⟩) 0 0], .int .i64 0]) (by simp [results, Try.results34, go_sem, z0, z1, z2, z3, z4, z5, z6, z7, z8, z9]) rfl ?_
  exact ⟨g + 1 + 1 + 1, 0, rfl, Row.none0 _, Nat.le_refl _, by unfold maxLen; omega, wa3.gr, by have := wa3.eg; omega⟩
end Go.Proofs.Ytdefcfmnhfeblaa
