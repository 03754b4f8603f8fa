/- The document's Write, where it writes. -/
import Derived.Test.YtfhgbddeclldnaaGreatQ02
namespace Go.Proofs.YtfhgbddeclldnaaGreat
open Go.RowKit
set_option maxRecDepth 100000
set_option linter.unusedSimpArgs false
set_option linter.unusedVariables false

/-- behind the two variables' making: what is there besides w -/
structure WS (T : TypeId) (w W : World) (g : Nat) (cs ds : List Value) : Prop where
  gr : w.grownBy W none
  b1 : Box W g T cs
  b2 : Box W (g + 1) T ds
  sz : g + 1 + 1 ≤ W.heap.size
  eg : w.heap.size = g
theorem WS.below {T : TypeId} {w W W' : World} {g : Nat} {cs ds : List Value} (h : WS T w W g cs ds) (hb : Below (g + 1 + 1) W W') : WS T w W' g cs ds := by
  have hg := h.gr; have he := h.eg
  refine ⟨⟨hb.os.trans hg.os, hb.tape.trans hg.tape, hb.output.trans hg.output, Nat.le_trans hg.size hb.size, fun k hk hr => ?_⟩, h.b1.below hb (by omega), h.b2.below hb (by omega), Nat.le_trans h.sz hb.size, he⟩
  rw [hb.block k (by omega)]; exact hg.block k hk hr
theorem WS.grown {T : TypeId} {w W W' : World} {g : Nat} {cs ds : List Value} (h : WS T w W g cs ds) (hb : W.grownBy W' none) : WS T w W' g cs ds := h.below ((grown_below hb).mono h.sz)
theorem WS.set1 {T : TypeId} {w W : World} {g : Nat} {cs ds : List Value} (h : WS T w W g cs ds) (i : Nat) (v : Value) : WS T w (W.setCell ⟨g, i, none⟩ v) g (cs.set i v) ds := by
  have hg := h.gr; have he := h.eg
  refine ⟨⟨hg.os, hg.tape, hg.output, by simpa [World.setCell] using hg.size, fun k hk hr => ?_⟩, h.b1.set i v, h.b2.far i v (by omega), by simpa [World.setCell] using h.sz, he⟩
  rw [← hg.block k hk hr]
  have hne : k ≠ g := by omega
  exact Below.heap_setCell _ _ _ _ hne
theorem WS.set2 {T : TypeId} {w W : World} {g : Nat} {cs ds : List Value} (h : WS T w W g cs ds) (i : Nat) (v : Value) : WS T w (W.setCell ⟨g + 1, i, none⟩ v) g cs (ds.set i v) := by
  have hg := h.gr; have he := h.eg
  refine ⟨⟨hg.os, hg.tape, hg.output, by simpa [World.setCell] using hg.size, fun k hk hr => ?_⟩, h.b1.far i v (by omega), h.b2.set i v, by simpa [World.setCell] using h.sz, he⟩
  rw [← hg.block k hk hr]
  have hne : k ≠ g + 1 := by omega
  exact Below.heap_setCell _ _ _ _ hne

theorem WS.farD {T : TypeId} {w W : World} {g g' : Nat} {cs ds : List Value} (h : WS T w W g cs ds) (h' : g + 1 + 1 ≤ g') (i : Nat) (v : Value) : WS T w (W.setCell ⟨g', i, none⟩ v) g cs ds := by
  have hg := h.gr; have he := h.eg
  refine ⟨⟨hg.os, hg.tape, hg.output, by simpa [World.setCell] using hg.size, fun k hk hr => ?_⟩, h.b1.far i v (by omega), h.b2.far i v (by omega), by simpa [World.setCell] using h.sz, he⟩
  rw [← hg.block k hk hr]
  have hne : k ≠ g' := by omega
  exact Below.heap_setCell _ _ _ _ hne
theorem WS.store10 {T : TypeId} {w W : World} {g : Nat} {ds : List Value} {x0 x1 x2 x3 x4 x5 x6 x7 x8 x9 : Value} (h : WS T w W g [x0, x1, x2, x3, x4, x5, x6, x7, x8, x9] ds) (y0 y1 y2 y3 y4 y5 y6 y7 y8 y9 : Value) : WS T w ((((((((((W.setCell ⟨g, 0, none⟩ y0).setCell ⟨g, 1, none⟩ y1).setCell ⟨g, 2, none⟩ y2).setCell ⟨g, 3, none⟩ y3).setCell ⟨g, 4, none⟩ y4).setCell ⟨g, 5, none⟩ y5).setCell ⟨g, 6, none⟩ y6).setCell ⟨g, 7, none⟩ y7).setCell ⟨g, 8, none⟩ y8).setCell ⟨g, 9, none⟩ y9) g [y0, y1, y2, y3, y4, y5, y6, y7, y8, y9] ds := ((((((((((h.set1 0 y0).set1 1 y1).set1 2 y2).set1 3 y3).set1 4 y4).set1 5 y5).set1 6 y6).set1 7 y7).set1 8 y8).set1 9 y9)
theorem WS.store10' {T : TypeId} {w W : World} {g : Nat} {cs : List Value} {x0 x1 x2 x3 x4 x5 x6 x7 x8 x9 : Value} (h : WS T w W g cs [x0, x1, x2, x3, x4, x5, x6, x7, x8, x9]) (y0 y1 y2 y3 y4 y5 y6 y7 y8 y9 : Value) : WS T w ((((((((((W.setCell ⟨g + 1, 0, none⟩ y0).setCell ⟨g + 1, 1, none⟩ y1).setCell ⟨g + 1, 2, none⟩ y2).setCell ⟨g + 1, 3, none⟩ y3).setCell ⟨g + 1, 4, none⟩ y4).setCell ⟨g + 1, 5, none⟩ y5).setCell ⟨g + 1, 6, none⟩ y6).setCell ⟨g + 1, 7, none⟩ y7).setCell ⟨g + 1, 8, none⟩ y8).setCell ⟨g + 1, 9, none⟩ y9) g cs [y0, y1, y2, y3, y4, y5, y6, y7, y8, y9] := ((((((((((h.set2 0 y0).set2 1 y1).set2 2 y2).set2 3 y3).set2 4 y4).set2 5 y5).set2 6 y6).set2 7 y7).set2 8 y8).set2 9 y9)
theorem Row.far {w : World} {b off n g : Nat} {xs : List Int} (h : Row w (some ⟨b, off, none⟩) n xs) (hne : b ≠ g) (i : Nat) (v : Value) : Row (w.setCell ⟨g, i, none⟩ v) (some ⟨b, off, none⟩) n xs := by
  refine ⟨h.len_eq, h.le, h.byt, fun h0 => ?_⟩
  obtain ⟨b', off', e, hc⟩ := h.cells h0
  injection e with e
  injection e with e1 e2
  subst e1 e2
  exact ⟨b, off, rfl, fun k hk => by rw [World.cell?_setCell_other _ _ _ _ (by intro e'; simp only [Addr.mk.injEq] at e'; exact hne e'.1.symm)]; exact hc k hk⟩
/-- what the document's Write answers where it writes -/
def RwPost (w : World) (s p : Int) (bn lB : Nat) (Bn : List Int) (lD : Nat) (Dn : List Bool) (aW : Option Addr) (lW cW : Nat) (ops : Int) (bad : Bool) (af : Int) (aT : Option Addr) (lT cT : Nat) (e : Ending) (w' : World) : Prop :=
  ∃ bb bo cB db dof cD, e = .returned (.tuple #[.agg #[.int .i64 s, .int .i64 p, .int .i64 bn, .slice (some ⟨bb, bo, none⟩) lB cB, .slice (some ⟨db, dof, none⟩) lD cD, .slice aW lW cW, .int .i64 ops, .bool bad, .int .i64 af, .slice aT lT cT], .int .i64 (if bad then 40 else 0)]) ∧ Row w' (some ⟨bb, bo, none⟩) lB Bn ∧ lB ≤ cB ∧ cB ≤ maxLen ∧ RowE Value.bool w' (some ⟨db, dof, none⟩) lD Dn ∧ w.grownBy w' none ∧ w.heap.size ≤ bb ∧ w.heap.size ≤ db
def ffs (n : Nat) : List Int := List.replicate n 255
theorem ffs_byt (n : Nat) : Byt (ffs n) := fun x hx => by rw [(List.mem_replicate.1 hx).2]; decide
theorem ffs_snoc (n : Nat) : ffs (n + 1) = ffs n ++ [255] := by unfold ffs; rw [List.replicate_succ']
theorem Tryz.info4 : (Tryz.prog.info? 4).map (fun i => (i.zero, i.size, i.bytes)) = some (some (.bool false), 1, 1) := by kernel_rfl
def slLen : Value → Nat
  | .slice _ n _ => n
  | _ => 0
set_option maxHeartbeats 4000000 in
theorem rwrite_ok (s p ops after : Int) (bn : Nat) (bb bo lB cB : Nat) (Bs : List Int) (db dof lD cD : Nat) (D : List Bool) (aW aT : Option Addr) (lW cW lT cT : Nat) (Ts : List Int) (i : Nat) (a2 : Option Addr) (l2 c2 : Nat) (ys : List Int) (w : World)
    (RB : Row w (some ⟨bb, bo, none⟩) lB Bs) (hcB : lB ≤ cB) (hcm : cB ≤ maxLen) (hlB : lB ≤ 16777216) (RDD : RowE Value.bool w (some ⟨db, dof, none⟩) lD D) (hlD : lD ≤ 1000000) (RT : Row w aT lT Ts) (RY : Row w a2 l2 ys) (hn2 : a2 = none → c2 = 0)
    (hi : i < lD) (hly : l2 ≤ bn) (hb0 : 0 < bn) (hb1 : bn ≤ 65536) (hfit : i * bn + bn ≤ lB) (hDi : D[i]? = some false) (ho : 0 ≤ ops ∧ ops < 1000000) (ha : 0 ≤ after ∧ after ≤ 9223372036854775807) :
    Calls Tryz.prog 26 #[.agg #[.int .i64 s, .int .i64 p, .int .i64 bn, .slice (some ⟨bb, bo, none⟩) lB cB, .slice (some ⟨db, dof, none⟩) lD cD, .slice aW lW cW, .int .i64 ops, .bool false, .int .i64 after, .slice aT lT cT], .int .i64 i, .slice a2 l2 c2] w
      fun e w' => RwPost w s p bn lB (Bs.take (i * bn) ++ (if after = 1 then ovr (ys ++ ffs (bn - l2)) Ts else ys ++ ffs (bn - l2)) ++ Bs.drop (i * bn + bn)) lD (D.set i true) aW lW cW (ops + 1) (decide (after = 1)) (if after = 0 then 0 else after - 1) aT lT cT e w' := by
  obtain ⟨i5, hi5, hz0, hz1, hz2⟩ := info_parts Tryz.info5
  obtain ⟨i4, k41, k42, k43, k44⟩ := info_parts Tryz.info4
  generalize hBn : (Bs.take (i * bn) ++ (if after = 1 then ovr (ys ++ ffs (bn - l2)) Ts else ys ++ ffs (bn - l2)) ++ Bs.drop (i * bn + bn)) = Bn
  generalize hbd : decide (after = 1) = bad
  generalize haf : (if after = 0 then 0 else after - 1) = af
  have HE : Hid _ := And.intro hBn (And.intro hbd haf)
  clear hBn hbd haf
  have hcell := RDD.cells (by omega)
  obtain ⟨db', dof', eD, hcD⟩ := hcell
  injection eD with eD
  injection eD with e1 e2
  subst e1 e2
  have hcell := hcD i false hDi
  have hlt := cell_lt hcell
  clear hcD
  obtain ⟨o1, eo1⟩ : ∃ o, o = Obj.cells #[.int .i64 s, .int .i64 p, .int .i64 bn, .slice (some ⟨bb, bo, none⟩) lB cB, .slice (some ⟨db, dof, none⟩) lD cD, .slice aW lW cW, .int .i64 ops, .bool false, .int .i64 after, .slice aT lT cT] 42 (0, 0) := ⟨_, rfl⟩
  obtain ⟨o2, eo2⟩ : ∃ o, o = Obj.cells #[.int .i64 0, .int .i64 0, .int .i64 0, .slice none 0 0, .slice none 0 0, .slice none 0 0, .int .i64 0, .bool false, .int .i64 0, .slice none 0 0] 42 (0, 0) := ⟨_, rfl⟩
  have hg := grown2 w o1 o2
  have hmade := made8 ((w.alloc o1).alloc o2)
  have hsz : ((w.alloc o1).alloc o2).heap.size = w.heap.size + 1 + 1 := by simp
  have gA : w.grownBy (((w.alloc o1).alloc o2).alloc (.cells #[] 5)) none := grown_trans hg (World.grownBy_alloc _ _ _)
  have b1 : Box (((w.alloc o1).alloc o2).alloc (.cells #[] 5)) w.heap.size 42 [.int .i64 s, .int .i64 p, .int .i64 bn, .slice (some ⟨bb, bo, none⟩) lB cB, .slice (some ⟨db, dof, none⟩) lD cD, .slice aW lW cW, .int .i64 ops, .bool false, .int .i64 after, .slice aT lT cT] := by
    have h0 : Box (w.alloc o1) w.heap.size 42 [.int .i64 s, .int .i64 p, .int .i64 bn, .slice (some ⟨bb, bo, none⟩) lB cB, .slice (some ⟨db, dof, none⟩) lD cD, .slice aW lW cW, .int .i64 ops, .bool false, .int .i64 after, .slice aT lT cT] := by rw [eo1]; exact Box.new _ _ _
    exact (h0.grown (World.grownBy_alloc _ _ _)).grown (World.grownBy_alloc _ _ _)
  have b2 : Box (((w.alloc o1).alloc o2).alloc (.cells #[] 5)) (w.heap.size + 1) 42 [.int .i64 0, .int .i64 0, .int .i64 0, .slice none 0 0, .slice none 0 0, .slice none 0 0, .int .i64 0, .bool false, .int .i64 0, .slice none 0 0] := by
    have h0 : Box ((w.alloc o1).alloc o2) (w.alloc o1).heap.size 42 [.int .i64 0, .int .i64 0, .int .i64 0, .slice none 0 0, .slice none 0 0, .slice none 0 0, .int .i64 0, .bool false, .int .i64 0, .slice none 0 0] := by rw [eo2]; exact Box.new _ _ _
    rw [show (w.alloc o1).heap.size = w.heap.size + 1 by simp] at h0
    exact h0.grown (World.grownBy_alloc _ _ _)
  rw [hsz] at hmade
  have RY1 := RY.grown gA
  have hs1 : w.heap.size + 1 + 1 ≤ (((w.alloc o1).alloc o2).alloc (.cells #[] 5)).heap.size := by simp
  subst eo1 eo2
  have H1 : Hid _ := And.intro gA (And.intro b1 (And.intro b2 (And.intro hmade (And.intro RY1 hs1))))
  clear hg hsz gA b1 b2 hmade RY1 hs1
  have hi0 : decide ((i : Int) < 0) = false := decide_eq_false (by omega)
  have HR : Hid _ := And.intro RB (And.intro RDD (And.intro RT RY))
  clear RB RDD RT RY
  go_enter Tryz.func26, Tryz.ntmps26
  go_wp2_with (at_builtin; refine wpList_append8 rfl _ _ 36 rfl (w.heap.size + 1 + 1) i5 Tryz.underlying36 hi5 hz0 hz1 hz2 _ 0 [] rfl H1.out.2.2.2.1 _ l2 _ _ rfl H1.out.2.2.2.2.1 hn2 (by omega) H1.out.2.2.2.2.2 ?_)
  intro v1 w1 q1 g1
  have hB1 := below_own g1 H1.out.2.2.2.1 H1.out.2.2.2.2.2
  have ws : WS 42 w w1 w.heap.size [.int .i64 s, .int .i64 p, .int .i64 bn, .slice (some ⟨bb, bo, none⟩) lB cB, .slice (some ⟨db, dof, none⟩) lD cD, .slice aW lW cW, .int .i64 ops, .bool false, .int .i64 after, .slice aT lT cT] [.int .i64 0, .int .i64 0, .int .i64 0, .slice none 0 0, .slice none 0 0, .slice none 0 0, .int .i64 0, .bool false, .int .i64 0, .slice none 0 0] :=
    (⟨H1.out.1, H1.out.2.1, H1.out.2.2.1, H1.out.2.2.2.2.2, rfl⟩ : WS 42 w _ w.heap.size _ _).below hB1
  have hww : w.heap.size ≤ w1.heap.size := ws.gr.size
  clear H1 g1 hB1 hcell hlt
  generalize hgg : w.heap.size = g at *
  have q1' : w1.ownsRow (g + 1 + 1) 5 1 v1 l2 (bv (ys ++ ffs (l2 - l2))) := by rw [Nat.sub_self]; simpa [ffs] using q1
  have HW : Hid _ := ws
  have HQ : Hid _ := q1'
  clear ws q1' q1
  go_wp2
  go_loopw [8] (fun v wr => ∃ j : Nat, l2 ≤ j ∧ j ≤ bn ∧ Hid (wr.ownsRow (g + 1 + 1) 5 1 v j (bv (ys ++ ffs (j - l2)))) ∧ Hid (WS 42 w wr g [.int .i64 s, .int .i64 p, .int .i64 bn, .slice (some ⟨bb, bo, none⟩) lB cB, .slice (some ⟨db, dof, none⟩) lD cD, .slice aW lW cW, .int .i64 ops, .bool false, .int .i64 after, .slice aT lT cT] [.int .i64 0, .int .i64 0, .int .i64 0, .slice none 0 0, .slice none 0 0, .slice none 0 0, .int .i64 0, .bool false, .int .i64 0, .slice none 0 0])) (fun v _ => bn - (slLen v))
  case atStart => exact ⟨l2, Nat.le_refl _, hly, HQ, HW⟩
  case round =>
    clear HQ HW
    obtain ⟨j, j1, j2, HQ, HW⟩ := hrel
    obtain ⟨xa, xc, rfl, k1, k2, k3⟩ := owns_form HQ.out
    have cb : wr.cell? ⟨g, 2, none⟩ = some (.int .i64 bn) := HW.out.b1.c 2
    unfold maxLen at k2
    by_cases hlt : j < bn
    · have hsz2 := HW.out.sz
      have hal : g + 1 + 1 ≤ (wr.alloc (.cells #[.int .u8 255] 5)).heap.size := by simp; omega
      go_wp2_with (at_builtin; (refine wpList_append_own _ rfl _ _ 36 rfl (g + 1 + 1) 5 i5 (.int .u8 0) 1 1 Tryz.underlying36 hi5 hz0 hz1 hz2 rfl (by decide) _ _ _ rfl (HQ.out.alloc _) ⟨wr.heap.size, 0, none⟩ 1 1 (bv [255]) rfl rfl ?c1 (bv_one _) ?c3 ?c4 hal ?_))
      case c1 => exact cell_one_new _ _ _
      case c3 => unfold maxLen; omega
      case c4 => omega
      · intro v' w2 hq2 hg2 _
        have R : w2.ownsRow (g + 1 + 1) 5 1 v' (j + 1) (bv (ys ++ ffs (j + 1 - l2))) := by
          rw [show j + 1 - l2 = j - l2 + 1 by omega, ffs_snoc, ← List.append_assoc, bv_append (ys ++ ffs (j - l2))]; exact hq2
        have HW2 : Hid (WS 42 w w2 g [.int .i64 s, .int .i64 p, .int .i64 bn, .slice (some ⟨bb, bo, none⟩) lB cB, .slice (some ⟨db, dof, none⟩) lD cD, .slice aW lW cW, .int .i64 ops, .bool false, .int .i64 after, .slice aT lT cT] [.int .i64 0, .int .i64 0, .int .i64 0, .slice none 0 0, .slice none 0 0, .slice none 0 0, .int .i64 0, .bool false, .int .i64 0, .slice none 0 0]) :=
          (HW.out.grown (World.grownBy_alloc wr _ none)).below (below_own hg2 (HQ.out.alloc _) hal)
        obtain ⟨ya, yc, rfl, _⟩ := owns_form R
        clear hq2 hg2 HQ HW cb hal hsz2
        go_wp2
        go_roundw
        case rel => exact ⟨j + 1, by omega, by omega, R, HW2⟩
        case measure => simp [slLen]; omega
    · have ej : j = bn := by omega
      subst ej
      have c10 := HW.out.b1.c10
      obtain ⟨c0, c1, c2, c3, c4, c5, c6, c7, c8, c9⟩ := c10
      have hT := torn_any s p j ops after false (some ⟨bb, bo, none⟩) (some ⟨db, dof, none⟩) aW aT lB cB lD cD lW cW lT cT wr ho ha
      have eoff : (if after = 1 then true else false) = bad := by
        rw [← HE.out.2.1]
        by_cases h : after = 1 <;> simp [h]
      rw [eoff, HE.out.2.1, HE.out.2.2] at hT
      clear eoff
      go_wp2_with fail
      refine hT.mono ?_
      rintro _ w2 ⟨rfl, hgt⟩
      have ws2 := HW.out.grown hgt
      obtain ⟨gx, rfl, hgx⟩ : ∃ gx, xa = some ⟨gx, 0, none⟩ ∧ g + 1 + 1 ≤ gx := by
        rcases k3 with ⟨_, h3, _⟩ | ⟨g', h3, h4⟩
        · omega
        · exact ⟨g', h3, h4⟩
      have Rx : Row w2 (some ⟨gx, 0, none⟩) j (ys ++ ffs (j - l2)) := by
        obtain ⟨a', c', e1, RR⟩ := owns_row HQ.out (HR.out.2.2.2.byt.append (ffs_byt _)) (by unfold maxLen; omega)
        injection e1 with e1 e2 e3
        subst e1
        exact RR.grown hgt
      clear HQ HW hT c0 c1 c2 c3 c4 c5 c6 c7 c8 c9 cb hgt
      have c10 := ws2.b1.c10
      obtain ⟨c0, c1, c2, c3, c4, c5, c6, c7, c8, c9⟩ := c10
      have f10 := ws2.b1.f10
      obtain ⟨f0, f1, f2, f3, f4, f5, f6, f7, f8, f9⟩ := f10
      have HRx : Hid _ := Rx
      clear Rx
      cases bad
      · have ws3 := ws2.store10 (.int .i64 s) (.int .i64 p) (.int .i64 j) (.slice (some ⟨bb, bo, none⟩) lB cB) (.slice (some ⟨db, dof, none⟩) lD cD) (.slice aW lW cW) (.int .i64 (ops + 1)) (.bool false) (.int .i64 af) (.slice aT lT cT)
        have Rx3 : Row ((((((((((w2.setCell ⟨g, 0, none⟩ (.int .i64 s)).setCell ⟨g, 1, none⟩ (.int .i64 p)).setCell ⟨g, 2, none⟩ (.int .i64 j)).setCell ⟨g, 3, none⟩ (.slice (some ⟨bb, bo, none⟩) lB cB)).setCell ⟨g, 4, none⟩ (.slice (some ⟨db, dof, none⟩) lD cD)).setCell ⟨g, 5, none⟩ (.slice aW lW cW)).setCell ⟨g, 6, none⟩ (.int .i64 (ops + 1))).setCell ⟨g, 7, none⟩ (.bool false)).setCell ⟨g, 8, none⟩ (.int .i64 af)).setCell ⟨g, 9, none⟩ (.slice aT lT cT)) (some ⟨gx, 0, none⟩) j (ys ++ ffs (j - l2)) := ((((((((((HRx.out.far (by omega) 0 (.int .i64 s)).far (by omega) 1 (.int .i64 p)).far (by omega) 2 (.int .i64 j)).far (by omega) 3 (.slice (some ⟨bb, bo, none⟩) lB cB)).far (by omega) 4 (.slice (some ⟨db, dof, none⟩) lD cD)).far (by omega) 5 (.slice aW lW cW)).far (by omega) 6 (.int .i64 (ops + 1))).far (by omega) 7 (.bool false)).far (by omega) 8 (.int .i64 af)).far (by omega) 9 (.slice aT lT cT))
        have HW3 : Hid _ := And.intro ws3 Rx3
        clear ws2 ws3 Rx3 HRx
        go_wp2_with fail
        obtain ⟨ws, RX⟩ := HW3.out
        generalize ((((((((((w2.setCell ⟨g, 0, none⟩ (.int .i64 s)).setCell ⟨g, 1, none⟩ (.int .i64 p)).setCell ⟨g, 2, none⟩ (.int .i64 j)).setCell ⟨g, 3, none⟩ (.slice (some ⟨bb, bo, none⟩) lB cB)).setCell ⟨g, 4, none⟩ (.slice (some ⟨db, dof, none⟩) lD cD)).setCell ⟨g, 5, none⟩ (.slice aW lW cW)).setCell ⟨g, 6, none⟩ (.int .i64 (ops + 1))).setCell ⟨g, 7, none⟩ (.bool false)).setCell ⟨g, 8, none⟩ (.int .i64 af)).setCell ⟨g, 9, none⟩ (.slice aT lT cT)) = w3 at ws RX ⊢
        clear HW3 c0 c1 c2 c3 c4 c5 c6 c7 c8 c9 f0 f1 f2 f3 f4 f5 f6 f7 f8 f9
        have hcl := lay_any bb bo lB cB (i * j) Bs (some ⟨gx, 0, none⟩) j xc (ys ++ ffs (j - l2)) w3 (HR.out.1.grown ws.gr) RX (fun e => by cases e) hcB hcm hfit hlB (by omega)
        rw [Int.natCast_mul] at hcl
        have hszw3 := ws.sz
        refine hcl.mono ?_
        rintro _ w4 ⟨g4, c4, rfl, hg4, R4, n1, n2, hgr4⟩
        have ws4 := ws.grown hgr4
        have ws5 := ws4.set1 3 (.slice (some ⟨g4, 0, none⟩) lB c4)
        have R5 := R4.far (show g4 ≠ g by omega) 3 (.slice (some ⟨g4, 0, none⟩) lB c4)
        have hm5 := madeE (w4.setCell ⟨g, 3, none⟩ (.slice (some ⟨g4, 0, none⟩) lB c4)) 4
        have hs5 : (w4.setCell ⟨g, 3, none⟩ (.slice (some ⟨g4, 0, none⟩) lB c4)).heap.size = w4.heap.size := by simp [World.setCell]
        have RD5 := (HR.out.2.1.grown ws5.gr).grown (World.grownBy_alloc (w4.setCell ⟨g, 3, none⟩ (.slice (some ⟨g4, 0, none⟩) lB c4)) (.cells #[] 4) none)
        have cX := (ws5.grown (World.grownBy_alloc (w4.setCell ⟨g, 3, none⟩ (.slice (some ⟨g4, 0, none⟩) lB c4)) (.cells #[] 4) none)).b1.c 4
        have hs6 : w4.heap.size ≤ ((w4.setCell ⟨g, 3, none⟩ (.slice (some ⟨g4, 0, none⟩) lB c4)).alloc (.cells #[] 4)).heap.size := by simp [World.setCell]
        obtain ⟨c0, c1, c2, c3, c4', c5, c6', c7, c8, c9⟩ := ws4.b1.c10
        obtain ⟨f0, f1, f2, f3, f4, f5, f6, f7, f8, f9⟩ := ws4.b1.f10
        rw [hs5] at hm5
        have hszw4 := ws4.sz
        have H5 : Hid _ := And.intro ws5 (And.intro R5 (And.intro hm5 (And.intro RD5 hs6)))
        clear ws ws4 ws5 R5 hm5 RD5 hcl R4 RX hgr4 hs6
        go_wp2_with (at_builtin; refine wpList_appendE Value.bool (fun _ => rfl) rfl _ _ 37 rfl w4.heap.size 4 i4 (.bool false) 1 Tryz.underlying37 k41 k42 k43 k44 rfl _ 0 [] rfl H5.out.2.2.1 _ lD _ D rfl H5.out.2.2.2.1 (by simp) (by omega) (by decide) H5.out.2.2.2.2 ?_)
        intro v6 w6 q6 hg6
        obtain ⟨ws5, R5, hm5, RD5, hs6⟩ := H5.out
        have B6 : Below w4.heap.size (w4.setCell ⟨g, 3, none⟩ (.slice (some ⟨g4, 0, none⟩) lB c4)) w6 := ((grown_below (World.grownBy_alloc (w4.setCell ⟨g, 3, none⟩ (.slice (some ⟨g4, 0, none⟩) lB c4)) (.cells #[] 4) none)).mono (Nat.le_of_eq hs5.symm)).trans (below_ownE hg6 hm5 hs6)
        have B6' : Below (w4.setCell ⟨g, 3, none⟩ (.slice (some ⟨g4, 0, none⟩) lB c4)).heap.size (w4.setCell ⟨g, 3, none⟩ (.slice (some ⟨g4, 0, none⟩) lB c4)) w6 := by rw [hs5]; exact B6
        have G6 : (w4.setCell ⟨g, 3, none⟩ (.slice (some ⟨g4, 0, none⟩) lB c4)).grownBy w6 none := below_grown B6'
        rw [← hs5] at q6
        obtain ⟨g6, c6, rfl, O6⟩ := own_of q6 G6 (by omega)
        have hg6n := O6.new
        rw [hs5] at hg6n
        have hg4l : g4 < w4.heap.size := by
          obtain ⟨b', off', e', hc'⟩ := R5.cells (by omega)
          injection e' with e'
          injection e' with e1' e2'
          have := cell_lt (hc' 0 (by omega))
          rw [hs5] at this
          omega
        have ws6 := ws5.below (B6.mono hszw4)
        have R6 := R5.below B6'
        have o6 := O6.own0
        have ci : w6.cell? ⟨g6, i, none⟩ = some (.bool false) := by rw [O6.cell i hi, List.getElem?_map, hDi]; rfl
        have fi := O6.frozen i
        have ws7 := (ws6.set1 4 (.slice (some ⟨g6, 0, none⟩) lD c6)).farD (show g + 1 + 1 ≤ g6 by omega) i (.bool true)
        have o7 := (o6.far (show g6 ≠ g by omega) 4 (.slice (some ⟨g6, 0, none⟩) lD c6)).set i (.bool true)
        have eD : (D.map Value.bool).set i (.bool true) = (D.set i true).map Value.bool := by rw [List.map_set]
        rw [eD] at o7
        have R7 := (R6.far (show g4 ≠ g by omega) 4 (.slice (some ⟨g6, 0, none⟩) lD c6)).far (show g4 ≠ g6 by omega) i (.bool true)
        have ws9 := ws7.store10' (.int .i64 s) (.int .i64 p) (.int .i64 j) (.slice (some ⟨g4, 0, none⟩) lB c4) (.slice (some ⟨g6, 0, none⟩) lD c6) (.slice aW lW cW) (.int .i64 (ops + 1)) (.bool false) (.int .i64 af) (.slice aT lT cT)
        have R9 := ((((((((((R7.far (show g4 ≠ g + 1 by omega) 0 (.int .i64 s)).far (show g4 ≠ g + 1 by omega) 1 (.int .i64 p)).far (show g4 ≠ g + 1 by omega) 2 (.int .i64 j)).far (show g4 ≠ g + 1 by omega) 3 (.slice (some ⟨g4, 0, none⟩) lB c4)).far (show g4 ≠ g + 1 by omega) 4 (.slice (some ⟨g6, 0, none⟩) lD c6)).far (show g4 ≠ g + 1 by omega) 5 (.slice aW lW cW)).far (show g4 ≠ g + 1 by omega) 6 (.int .i64 (ops + 1))).far (show g4 ≠ g + 1 by omega) 7 (.bool false)).far (show g4 ≠ g + 1 by omega) 8 (.int .i64 af)).far (show g4 ≠ g + 1 by omega) 9 (.slice aT lT cT))
        have o9 := ((((((((((o7.far (show g6 ≠ g + 1 by omega) 0 (.int .i64 s)).far (show g6 ≠ g + 1 by omega) 1 (.int .i64 p)).far (show g6 ≠ g + 1 by omega) 2 (.int .i64 j)).far (show g6 ≠ g + 1 by omega) 3 (.slice (some ⟨g4, 0, none⟩) lB c4)).far (show g6 ≠ g + 1 by omega) 4 (.slice (some ⟨g6, 0, none⟩) lD c6)).far (show g6 ≠ g + 1 by omega) 5 (.slice aW lW cW)).far (show g6 ≠ g + 1 by omega) 6 (.int .i64 (ops + 1))).far (show g6 ≠ g + 1 by omega) 7 (.bool false)).far (show g6 ≠ g + 1 by omega) 8 (.int .i64 af)).far (show g6 ≠ g + 1 by omega) 9 (.slice aT lT cT))
        have D9 := o9.rowE
        have H9 : Hid _ := And.intro ws9 (And.intro R9 D9)
        clear c0 c1 c2 c3 c4' c5 c6' c7 c8 c9 f0 f1 f2 f3 f4 f5 f6 f7 f8 f9 cX
        obtain ⟨c0, c1, c2, c3, c4', c5, c6', c7, c8, c9⟩ := ws6.b1.c10
        obtain ⟨f0, f1, f2, f3, f4, f5, f6, f7, f8, f9⟩ := ws6.b1.f10
        obtain ⟨z0, z1, z2, z3, z4, z5, z6, z7, z8, z9⟩ := ws6.b2.c10
        obtain ⟨y0, y1, y2, y3, y4, y5, y6, y7, y8, y9⟩ := ws6.b2.f10
        have ne1 : ¬ g6 = g := by omega
        have ne2 : ¬ g = g6 := by omega
        have ne3 : ¬ g6 = g + 1 := by omega
        have ne4 : ¬ g + 1 = g6 := by omega
        clear H5 ws5 R5 hm5 RD5 B6 B6' G6 q6 hg6 O6 ws6 R6 o6 ws7 o7 R7 ws9 R9 o9 D9 eD hs6
        go_wp2
        obtain ⟨ws9, R9, D9⟩ := H9.out
        generalize ((((((((((((w6.setCell ⟨g, 4, none⟩ (.slice (some ⟨g6, 0, none⟩) lD c6)).setCell ⟨g6, i, none⟩ (.bool true)).setCell ⟨g + 1, 0, none⟩ (.int .i64 s)).setCell ⟨g + 1, 1, none⟩ (.int .i64 p)).setCell ⟨g + 1, 2, none⟩ (.int .i64 j)).setCell ⟨g + 1, 3, none⟩ (.slice (some ⟨g4, 0, none⟩) lB c4)).setCell ⟨g + 1, 4, none⟩ (.slice (some ⟨g6, 0, none⟩) lD c6)).setCell ⟨g + 1, 5, none⟩ (.slice aW lW cW)).setCell ⟨g + 1, 6, none⟩ (.int .i64 (ops + 1))).setCell ⟨g + 1, 7, none⟩ (.bool false)).setCell ⟨g + 1, 8, none⟩ (.int .i64 af)).setCell ⟨g + 1, 9, none⟩ (.slice aT lT cT)) = w9 at ws9 R9 D9 ⊢
        clear H9 c0 c1 c2 c3 c4' c5 c6' c7 c8 c9 f0 f1 f2 f3 f4 f5 f6 f7 f8 f9 z0 z1 z2 z3 z4 z5 z6 z7 z8 z9 y0 y1 y2 y3 y4 y5 y6 y7 y8 y9 ci fi
        obtain ⟨z0, z1, z2, z3, z4, z5, z6, z7, z8, z9⟩ := ws9.b2.c10
        have eBn : Bs.take (i * j) ++ (ys ++ ffs (j - l2)) ++ Bs.drop (i * j + j) = Bn := by
          rw [← HE.out.1]
          have := HE.out.2.1
          simp at this
          simp [this]
        rw [eBn] at R9
        refine bodyPost_ret (v := .tuple #[.agg #[.int .i64 s, .int .i64 p, .int .i64 j, .slice (some ⟨g4, 0, none⟩) lB c4, .slice (some ⟨g6, 0, none⟩) lD c6, .slice aW lW cW, .int .i64 (ops + 1), .bool false, .int .i64 af, .slice aT lT cT], .int .i64 0]) (by simp [results, Tryz.results26, go_sem, z0, z1, z2, z3, z4, z5, z6, z7, z8, z9]) rfl ?_
        exact ⟨g4, 0, c4, g6, 0, c6, rfl, R9, n1, n2, D9, ws9.gr, by have := ws9.eg; omega, by have := ws9.eg; omega⟩
      · have ws3 := ws2.store10 (.int .i64 s) (.int .i64 p) (.int .i64 j) (.slice (some ⟨bb, bo, none⟩) lB cB) (.slice (some ⟨db, dof, none⟩) lD cD) (.slice aW lW cW) (.int .i64 (ops + 1)) (.bool true) (.int .i64 af) (.slice aT lT cT)
        have Rx3 : Row ((((((((((w2.setCell ⟨g, 0, none⟩ (.int .i64 s)).setCell ⟨g, 1, none⟩ (.int .i64 p)).setCell ⟨g, 2, none⟩ (.int .i64 j)).setCell ⟨g, 3, none⟩ (.slice (some ⟨bb, bo, none⟩) lB cB)).setCell ⟨g, 4, none⟩ (.slice (some ⟨db, dof, none⟩) lD cD)).setCell ⟨g, 5, none⟩ (.slice aW lW cW)).setCell ⟨g, 6, none⟩ (.int .i64 (ops + 1))).setCell ⟨g, 7, none⟩ (.bool true)).setCell ⟨g, 8, none⟩ (.int .i64 af)).setCell ⟨g, 9, none⟩ (.slice aT lT cT)) (some ⟨gx, 0, none⟩) j (ys ++ ffs (j - l2)) := ((((((((((HRx.out.far (by omega) 0 (.int .i64 s)).far (by omega) 1 (.int .i64 p)).far (by omega) 2 (.int .i64 j)).far (by omega) 3 (.slice (some ⟨bb, bo, none⟩) lB cB)).far (by omega) 4 (.slice (some ⟨db, dof, none⟩) lD cD)).far (by omega) 5 (.slice aW lW cW)).far (by omega) 6 (.int .i64 (ops + 1))).far (by omega) 7 (.bool true)).far (by omega) 8 (.int .i64 af)).far (by omega) 9 (.slice aT lT cT))
        have HW3 : Hid _ := And.intro ws3 Rx3
        clear ws2 ws3 Rx3 HRx
        go_wp2_with fail
        obtain ⟨ws, RX⟩ := HW3.out
        generalize ((((((((((w2.setCell ⟨g, 0, none⟩ (.int .i64 s)).setCell ⟨g, 1, none⟩ (.int .i64 p)).setCell ⟨g, 2, none⟩ (.int .i64 j)).setCell ⟨g, 3, none⟩ (.slice (some ⟨bb, bo, none⟩) lB cB)).setCell ⟨g, 4, none⟩ (.slice (some ⟨db, dof, none⟩) lD cD)).setCell ⟨g, 5, none⟩ (.slice aW lW cW)).setCell ⟨g, 6, none⟩ (.int .i64 (ops + 1))).setCell ⟨g, 7, none⟩ (.bool true)).setCell ⟨g, 8, none⟩ (.int .i64 af)).setCell ⟨g, 9, none⟩ (.slice aT lT cT)) = w3 at ws RX ⊢
        clear HW3 c0 c1 c2 c3 c4 c5 c6 c7 c8 c9 f0 f1 f2 f3 f4 f5 f6 f7 f8 f9
        have hco := over_any (some ⟨gx, 0, none⟩) j xc (ys ++ ffs (j - l2)) aT lT cT Ts w3 RX (HR.out.2.2.1.grown ws.gr) (fun e => by cases e) (by omega) hb0
        refine hco.mono ?_
        rintro _ w3b ⟨g3, c3x, rfl, hg3, RXb, n1x, n2x, hgr3⟩
        have wsb := ws.grown hgr3
        clear hco ws RX hgr3
        obtain ⟨c0, c1, c2, c3, c4, c5, c6, c7, c8, c9⟩ := wsb.b1.c10
        go_wp2_with fail
        clear c0 c1 c2 c3 c4 c5 c6 c7 c8 c9
        have ws := wsb
        have RX := RXb
        clear wsb RXb
        have hcl := lay_any bb bo lB cB (i * j) Bs (some ⟨g3, 0, none⟩) j c3x (ovr (ys ++ ffs (j - l2)) Ts) w3b (HR.out.1.grown ws.gr) RX (fun e => by cases e) hcB hcm hfit hlB (by omega)
        rw [Int.natCast_mul] at hcl
        have hszw3 := ws.sz
        refine hcl.mono ?_
        rintro _ w4 ⟨g4, c4, rfl, hg4, R4, n1, n2, hgr4⟩
        have ws4 := ws.grown hgr4
        have ws5 := ws4.set1 3 (.slice (some ⟨g4, 0, none⟩) lB c4)
        have R5 := R4.far (show g4 ≠ g by omega) 3 (.slice (some ⟨g4, 0, none⟩) lB c4)
        have hm5 := madeE (w4.setCell ⟨g, 3, none⟩ (.slice (some ⟨g4, 0, none⟩) lB c4)) 4
        have hs5 : (w4.setCell ⟨g, 3, none⟩ (.slice (some ⟨g4, 0, none⟩) lB c4)).heap.size = w4.heap.size := by simp [World.setCell]
        have RD5 := (HR.out.2.1.grown ws5.gr).grown (World.grownBy_alloc (w4.setCell ⟨g, 3, none⟩ (.slice (some ⟨g4, 0, none⟩) lB c4)) (.cells #[] 4) none)
        have cX := (ws5.grown (World.grownBy_alloc (w4.setCell ⟨g, 3, none⟩ (.slice (some ⟨g4, 0, none⟩) lB c4)) (.cells #[] 4) none)).b1.c 4
        have hs6 : w4.heap.size ≤ ((w4.setCell ⟨g, 3, none⟩ (.slice (some ⟨g4, 0, none⟩) lB c4)).alloc (.cells #[] 4)).heap.size := by simp [World.setCell]
        obtain ⟨c0, c1, c2, c3, c4', c5, c6', c7, c8, c9⟩ := ws4.b1.c10
        obtain ⟨f0, f1, f2, f3, f4, f5, f6, f7, f8, f9⟩ := ws4.b1.f10
        rw [hs5] at hm5
        have hszw4 := ws4.sz
        have H5 : Hid _ := And.intro ws5 (And.intro R5 (And.intro hm5 (And.intro RD5 hs6)))
        clear ws ws4 ws5 R5 hm5 RD5 hcl R4 RX hgr4 hs6
        go_wp2_with (at_builtin; refine wpList_appendE Value.bool (fun _ => rfl) rfl _ _ 37 rfl w4.heap.size 4 i4 (.bool false) 1 Tryz.underlying37 k41 k42 k43 k44 rfl _ 0 [] rfl H5.out.2.2.1 _ lD _ D rfl H5.out.2.2.2.1 (by simp) (by omega) (by decide) H5.out.2.2.2.2 ?_)
        intro v6 w6 q6 hg6
        obtain ⟨ws5, R5, hm5, RD5, hs6⟩ := H5.out
        have B6 : Below w4.heap.size (w4.setCell ⟨g, 3, none⟩ (.slice (some ⟨g4, 0, none⟩) lB c4)) w6 := ((grown_below (World.grownBy_alloc (w4.setCell ⟨g, 3, none⟩ (.slice (some ⟨g4, 0, none⟩) lB c4)) (.cells #[] 4) none)).mono (Nat.le_of_eq hs5.symm)).trans (below_ownE hg6 hm5 hs6)
        have B6' : Below (w4.setCell ⟨g, 3, none⟩ (.slice (some ⟨g4, 0, none⟩) lB c4)).heap.size (w4.setCell ⟨g, 3, none⟩ (.slice (some ⟨g4, 0, none⟩) lB c4)) w6 := by rw [hs5]; exact B6
        have G6 : (w4.setCell ⟨g, 3, none⟩ (.slice (some ⟨g4, 0, none⟩) lB c4)).grownBy w6 none := below_grown B6'
        rw [← hs5] at q6
        obtain ⟨g6, c6, rfl, O6⟩ := own_of q6 G6 (by omega)
        have hg6n := O6.new
        rw [hs5] at hg6n
        have hg4l : g4 < w4.heap.size := by
          obtain ⟨b', off', e', hc'⟩ := R5.cells (by omega)
          injection e' with e'
          injection e' with e1' e2'
          have := cell_lt (hc' 0 (by omega))
          rw [hs5] at this
          omega
        have ws6 := ws5.below (B6.mono hszw4)
        have R6 := R5.below B6'
        have o6 := O6.own0
        have ci : w6.cell? ⟨g6, i, none⟩ = some (.bool false) := by rw [O6.cell i hi, List.getElem?_map, hDi]; rfl
        have fi := O6.frozen i
        have ws7 := (ws6.set1 4 (.slice (some ⟨g6, 0, none⟩) lD c6)).farD (show g + 1 + 1 ≤ g6 by omega) i (.bool true)
        have o7 := (o6.far (show g6 ≠ g by omega) 4 (.slice (some ⟨g6, 0, none⟩) lD c6)).set i (.bool true)
        have eD : (D.map Value.bool).set i (.bool true) = (D.set i true).map Value.bool := by rw [List.map_set]
        rw [eD] at o7
        have R7 := (R6.far (show g4 ≠ g by omega) 4 (.slice (some ⟨g6, 0, none⟩) lD c6)).far (show g4 ≠ g6 by omega) i (.bool true)
        have ws9 := ws7.store10' (.int .i64 s) (.int .i64 p) (.int .i64 j) (.slice (some ⟨g4, 0, none⟩) lB c4) (.slice (some ⟨g6, 0, none⟩) lD c6) (.slice aW lW cW) (.int .i64 (ops + 1)) (.bool true) (.int .i64 af) (.slice aT lT cT)
        have R9 := ((((((((((R7.far (show g4 ≠ g + 1 by omega) 0 (.int .i64 s)).far (show g4 ≠ g + 1 by omega) 1 (.int .i64 p)).far (show g4 ≠ g + 1 by omega) 2 (.int .i64 j)).far (show g4 ≠ g + 1 by omega) 3 (.slice (some ⟨g4, 0, none⟩) lB c4)).far (show g4 ≠ g + 1 by omega) 4 (.slice (some ⟨g6, 0, none⟩) lD c6)).far (show g4 ≠ g + 1 by omega) 5 (.slice aW lW cW)).far (show g4 ≠ g + 1 by omega) 6 (.int .i64 (ops + 1))).far (show g4 ≠ g + 1 by omega) 7 (.bool true)).far (show g4 ≠ g + 1 by omega) 8 (.int .i64 af)).far (show g4 ≠ g + 1 by omega) 9 (.slice aT lT cT))
        have o9 := ((((((((((o7.far (show g6 ≠ g + 1 by omega) 0 (.int .i64 s)).far (show g6 ≠ g + 1 by omega) 1 (.int .i64 p)).far (show g6 ≠ g + 1 by omega) 2 (.int .i64 j)).far (show g6 ≠ g + 1 by omega) 3 (.slice (some ⟨g4, 0, none⟩) lB c4)).far (show g6 ≠ g + 1 by omega) 4 (.slice (some ⟨g6, 0, none⟩) lD c6)).far (show g6 ≠ g + 1 by omega) 5 (.slice aW lW cW)).far (show g6 ≠ g + 1 by omega) 6 (.int .i64 (ops + 1))).far (show g6 ≠ g + 1 by omega) 7 (.bool true)).far (show g6 ≠ g + 1 by omega) 8 (.int .i64 af)).far (show g6 ≠ g + 1 by omega) 9 (.slice aT lT cT))
        have D9 := o9.rowE
        have H9 : Hid _ := And.intro ws9 (And.intro R9 D9)
        clear c0 c1 c2 c3 c4' c5 c6' c7 c8 c9 f0 f1 f2 f3 f4 f5 f6 f7 f8 f9 cX
        obtain ⟨c0, c1, c2, c3, c4', c5, c6', c7, c8, c9⟩ := ws6.b1.c10
        obtain ⟨f0, f1, f2, f3, f4, f5, f6, f7, f8, f9⟩ := ws6.b1.f10
        obtain ⟨z0, z1, z2, z3, z4, z5, z6, z7, z8, z9⟩ := ws6.b2.c10
        obtain ⟨y0, y1, y2, y3, y4, y5, y6, y7, y8, y9⟩ := ws6.b2.f10
        have ne1 : ¬ g6 = g := by omega
        have ne2 : ¬ g = g6 := by omega
        have ne3 : ¬ g6 = g + 1 := by omega
        have ne4 : ¬ g + 1 = g6 := by omega
        clear H5 ws5 R5 hm5 RD5 B6 B6' G6 q6 hg6 O6 ws6 R6 o6 ws7 o7 R7 ws9 R9 o9 D9 eD hs6
        go_wp2
        obtain ⟨ws9, R9, D9⟩ := H9.out
        generalize ((((((((((((w6.setCell ⟨g, 4, none⟩ (.slice (some ⟨g6, 0, none⟩) lD c6)).setCell ⟨g6, i, none⟩ (.bool true)).setCell ⟨g + 1, 0, none⟩ (.int .i64 s)).setCell ⟨g + 1, 1, none⟩ (.int .i64 p)).setCell ⟨g + 1, 2, none⟩ (.int .i64 j)).setCell ⟨g + 1, 3, none⟩ (.slice (some ⟨g4, 0, none⟩) lB c4)).setCell ⟨g + 1, 4, none⟩ (.slice (some ⟨g6, 0, none⟩) lD c6)).setCell ⟨g + 1, 5, none⟩ (.slice aW lW cW)).setCell ⟨g + 1, 6, none⟩ (.int .i64 (ops + 1))).setCell ⟨g + 1, 7, none⟩ (.bool true)).setCell ⟨g + 1, 8, none⟩ (.int .i64 af)).setCell ⟨g + 1, 9, none⟩ (.slice aT lT cT)) = w9 at ws9 R9 D9 ⊢
        clear H9 c0 c1 c2 c3 c4' c5 c6' c7 c8 c9 f0 f1 f2 f3 f4 f5 f6 f7 f8 f9 z0 z1 z2 z3 z4 z5 z6 z7 z8 z9 y0 y1 y2 y3 y4 y5 y6 y7 y8 y9 ci fi
        obtain ⟨z0, z1, z2, z3, z4, z5, z6, z7, z8, z9⟩ := ws9.b2.c10
        have eBn : Bs.take (i * j) ++ (ovr (ys ++ ffs (j - l2)) Ts) ++ Bs.drop (i * j + j) = Bn := by
          rw [← HE.out.1]
          have := HE.out.2.1
          simp at this
          simp [this]
        rw [eBn] at R9
        refine bodyPost_ret (v := .tuple #[.agg #[.int .i64 s, .int .i64 p, .int .i64 j, .slice (some ⟨g4, 0, none⟩) lB c4, .slice (some ⟨g6, 0, none⟩) lD c6, .slice aW lW cW, .int .i64 (ops + 1), .bool true, .int .i64 af, .slice aT lT cT], .int .i64 40]) (by simp [results, Tryz.results26, go_sem, z0, z1, z2, z3, z4, z5, z6, z7, z8, z9]) rfl ?_
        exact ⟨g4, 0, c4, g6, 0, c6, rfl, R9, n1, n2, D9, ws9.gr, by have := ws9.eg; omega, by have := ws9.eg; omega⟩
end Go.Proofs.YtfhgbddeclldnaaGreat
