/- Bytes as a record. Which of two counts. Plain facts: what is encoded is decoded as it was. Two records held against each other. -/
import Derived.Deep.RegionHeld3
import Derived.Deep.RegionWith
import Derived.BigRegion
import Derived.DeepKeys
import Derived.Laws.StructEq
import Derived.Test.YtfhgbddeclldnaaGreatQ07
namespace Go.Proofs.YtfhgbddeclldnaaGreat
open Go.RowKit
set_option maxRecDepth 100000
set_option linter.unusedSimpArgs false
set_option linter.unusedVariables false

/-- what the fields of these bytes tell -/
def rrd (bs : List Int) : Rc := ⟨le ((bs.drop 4).take 8), bs.getD 12 0, le ((bs.drop 16).take 4), le ((bs.drop 20).take 8)⟩
/-- Decode, as a plain function -/
def rde (bs : List Int) : Rc × Int := if bs.length < 32 then (rc0, 6) else if rrt (rrd bs) = true ∧ rby (rrd bs) = bs.take 32 then (rrd bs, 0) else (rc0, 6)
theorem rrd_ok {bs : List Int} (h : Byt bs) : (rrd bs).ok := by
  have a1 := le_nonneg ((h.drop 4).take 8)
  have a2 := le_lt_of ((h.drop 4).take 8) 8 (by simp; omega)
  have a3 := le_nonneg ((h.drop 16).take 4)
  have a4 := le_lt_of ((h.drop 16).take 4) 4 (by simp; omega)
  have a5 := le_nonneg ((h.drop 20).take 8)
  have a6 := le_lt_of ((h.drop 20).take 8) 8 (by simp; omega)
  have a7 := h.getD 12
  unfold Rc.ok rrd inU in64
  simp only
  omega
theorem rde_ok {bs : List Int} (h : Byt bs) : (rde bs).1.ok ∧ in64 (rde bs).2 := by
  have h0 : rc0.ok := by unfold Rc.ok rc0 inU in64; simp
  unfold rde
  split
  · exact ⟨h0, by unfold in64; simp⟩
  · split
    · exact ⟨rrd_ok h, by unfold in64; simp⟩
    · exact ⟨h0, by unfold in64; simp⟩
/-- the answer's variable, and a record's behind it -/
structure Two8 (w W : World) (g0 : Nat) (cs : List Value) : Prop where
  z : Bx W g0 48 [.int .u64 0, .int .i64 0, .int .i64 0, .int .u64 0]
  r : Bx W (g0 + 1) 48 cs
  gr : w.grownBy W none
theorem Two8.keep {w W W' : World} {g0 : Nat} {cs : List Value} (h : Two8 w W g0 cs) (k : W.grownBy W' none) : Two8 w W' g0 cs := ⟨h.z.kept k, h.r.kept k, grown_trans h.gr k⟩
theorem Two8.drew {w W : World} {g0 : Nat} {cs : List Value} (h : Two8 w W g0 cs) : Two8 w W.drew g0 cs := h.keep ⟨rfl, rfl, rfl, Nat.le_refl _, fun _ _ _ => rfl⟩
set_option maxHeartbeats 20000000 in
theorem rdecode_any (a : Option Addr) (len cap : Nat) (bs : List Int) (w : World) (R : Row w a len bs) (hnc : len ≤ cap) (hcm : cap ≤ maxLen) :
    Calls Tryz.prog 49 #[.slice a len cap] w fun e w' => e = .returned (.tuple #[(rde bs).1.val, .int .i64 (rde bs).2]) ∧ w.grownBy w' none := by
  have hlb := R.len_eq
  have hm := R.le
  unfold maxLen at hm hcm
  by_cases h0 : len < 32
  · have e : rde bs = (rc0, 6) := by unfold rde; rw [if_pos (by omega)]
    rw [e]
    simp only [Rc.val, rc0]
    clear e R
    go_enter Tryz.func49, Tryz.ntmps49
    go_wp2
    go_returns
    exact ⟨rfl, World.grownBy_alloc _ _ _⟩
  · have hok := rrd_ok R.byt
    have h1 := fun W => rright_any (rrd bs) W
    have h2 := fun W hr => rbytes_any (rrd bs) W hr hok.1.1 hok.2.2.2
    have l1 : ∀ W, Hid (w.grownBy W none) → Calls Tryz.prog 76 #[.slice a len cap, .int .i64 4, .int .i64 8] W fun e w' => e = .returned (.int .u64 (rrd bs).q) ∧ W = w' := fun W g => load_row a len cap bs 4 8 W (R.grown g.out) (by omega) (by omega) (by omega)
    have l2 : ∀ W, Hid (w.grownBy W none) → Calls Tryz.prog 76 #[.slice a len cap, .int .i64 16, .int .i64 4] W fun e w' => e = .returned (.int .u64 (rrd bs).l) ∧ W = w' := fun W g => load_row a len cap bs 16 4 W (R.grown g.out) (by omega) (by omega) (by omega)
    have l3 : ∀ W, Hid (w.grownBy W none) → Calls Tryz.prog 76 #[.slice a len cap, .int .i64 20, .int .i64 8] W fun e w' => e = .returned (.int .u64 (rrd bs).u) ∧ W = w' := fun W g => load_row a len cap bs 20 8 W (R.grown g.out) (by omega) (by omega) (by omega)
    obtain ⟨b, off, rfl, hc⟩ := R.cells (by omega)
    have c12 : w.cell? ⟨b, off + 12, none⟩ = some (.int .u8 (rrd bs).s) := hc 12 (by omega)
    have hs255 : 0 ≤ (rrd bs).s ∧ (rrd bs).s ≤ 255 := R.byt.getD 12
    have hl32 : 0 ≤ (rrd bs).l ∧ (rrd bs).l < 4294967296 := ⟨le_nonneg ((R.byt.drop 16).take 4), le_lt_of ((R.byt.drop 16).take 4) 4 (by simp; omega)⟩
    have e : rde bs = if rrt (rrd bs) = true ∧ rby (rrd bs) = bs.take 32 then (rrd bs, 0) else (rc0, 6) := by unfold rde; rw [if_neg (by omega)]
    have HR : Hid _ := R
    have HRES : Hid _ := e
    generalize rde bs = RES at *
    generalize rrd bs = r at *
    obtain ⟨q, s, l, u⟩ := r
    obtain ⟨⟨p1, p2, p3, p4⟩, pe⟩ := RES
    simp only [Rc.val] at *
    clear e R hc
    have HG : Hid (w.grownBy (w.alloc (.cells #[.int .u64 0, .int .i64 0, .int .i64 0, .int .u64 0] 48)).drew none) := grown_trans (World.grownBy_alloc _ _ _) ⟨rfl, rfl, rfl, Nat.le_refl _, fun _ _ _ => rfl⟩
    have c12' : (w.alloc (.cells #[.int .u64 0, .int .i64 0, .int .i64 0, .int .u64 0] 48)).cell? ⟨b, off + 12, none⟩ = some (.int .u8 s) := by rw [(grown_below (World.grownBy_alloc w (.cells #[.int .u64 0, .int .i64 0, .int .i64 0, .int .u64 0] 48) none)).cell (p := ⟨b, off + 12, none⟩) (cell_lt c12)]; exact c12
    have gd : ∀ W : World, W.grownBy W.drew none := fun W => ⟨rfl, rfl, rfl, Nat.le_refl _, fun _ _ _ => rfl⟩
    have HG2 : Hid (w.grownBy ((w.alloc (.cells #[.int .u64 0, .int .i64 0, .int .i64 0, .int .u64 0] 48)).alloc (.cells #[.int .u64 0, .int .i64 0, .int .i64 0, .int .u64 0] 48)).drew none) := grown_trans (grown_trans (World.grownBy_alloc _ _ _) (World.grownBy_alloc _ _ _)) (gd _)
    have HG3 : Hid (w.grownBy ((w.alloc (.cells #[.int .u64 0, .int .i64 0, .int .i64 0, .int .u64 0] 48)).alloc (.cells #[.int .u64 q, .int .i64 s, .int .i64 l, .int .u64 u] 48)).drew none) := grown_trans (grown_trans (World.grownBy_alloc _ _ _) (World.grownBy_alloc _ _ _)) (gd _)
    have c13 : ((w.alloc (.cells #[.int .u64 0, .int .i64 0, .int .i64 0, .int .u64 0] 48)).alloc (.cells #[.int .u64 0, .int .i64 0, .int .i64 0, .int .u64 0] 48)).cell? ⟨b, off + 12, none⟩ = some (.int .u8 s) := by rw [(grown_below (grown_trans (World.grownBy_alloc w (.cells #[.int .u64 0, .int .i64 0, .int .i64 0, .int .u64 0] 48) none) (World.grownBy_alloc _ (.cells #[.int .u64 0, .int .i64 0, .int .i64 0, .int .u64 0] 48) none))).cell (p := ⟨b, off + 12, none⟩) (cell_lt c12)]; exact c12
    have c14 : ((w.alloc (.cells #[.int .u64 0, .int .i64 0, .int .i64 0, .int .u64 0] 48)).alloc (.cells #[.int .u64 q, .int .i64 s, .int .i64 l, .int .u64 u] 48)).cell? ⟨b, off + 12, none⟩ = some (.int .u8 s) := by rw [(grown_below (grown_trans (World.grownBy_alloc w (.cells #[.int .u64 0, .int .i64 0, .int .i64 0, .int .u64 0] 48) none) (World.grownBy_alloc _ (.cells #[.int .u64 q, .int .i64 s, .int .i64 l, .int .u64 u] 48) none))).cell (p := ⟨b, off + 12, none⟩) (cell_lt c12)]; exact c12
    have h12 : (12 : Int) < (len : Int) := by omega
    clear gd
    go_enter Tryz.func49, Tryz.ntmps49
    go_wp2_with fail
    have ws : IntKind.i64.wrap s = s := by rw [IntKind.wrap_i64]; omega
    have wl : IntKind.i64.wrap l = l := by rw [IntKind.wrap_i64]; omega
    go_region_held3 (fun w' => w'.cell? ⟨b, off + 12, none⟩ = some (.int .u8 s) ∧ Hid (w.grownBy w' none)) (first | (refine ⟨?_, ?_⟩ <;> assumption) | go_keep) (first | (go_at_call 76; (with_reducible refine (l1 _ (by assumption)).mono ?_); rintro e w' ⟨rfl, rfl⟩) | (go_at_call 76; (with_reducible refine (l2 _ (by assumption)).mono ?_); rintro e w' ⟨rfl, rfl⟩) | (go_at_call 76; (with_reducible refine (l3 _ (by assumption)).mono ?_); rintro e w' ⟨rfl, rfl⟩) | fail)
    all_goals
      have hb32 : Byt (bs.take 32) := HR.out.byt.take 32
      have T0 : Two8 w (((w.alloc (.cells #[.int .u64 0, .int .i64 0, .int .i64 0, .int .u64 0] 48)).alloc (.cells #[.int .u64 q, .int .i64 s, .int .i64 l, .int .u64 u] 48)).drew) w.heap.size [.int .u64 q, .int .i64 s, .int .i64 l, .int .u64 u] :=
        ⟨⟨((Bx.new w 48 [.int .u64 0, .int .i64 0, .int .i64 0, .int .u64 0]).kept (World.grownBy_alloc _ (.cells #[.int .u64 q, .int .i64 s, .int .i64 l, .int .u64 u] 48) none)).blk⟩, ⟨by have := (Bx.new (w.alloc (.cells #[.int .u64 0, .int .i64 0, .int .i64 0, .int .u64 0] 48)) 48 [.int .u64 q, .int .i64 s, .int .i64 l, .int .u64 u]).blk; simp only [World.size_alloc] at this; exact this⟩, HG3.out⟩
      generalize ((w.alloc (.cells #[.int .u64 0, .int .i64 0, .int .i64 0, .int .u64 0] 48)).alloc (.cells #[.int .u64 q, .int .i64 s, .int .i64 l, .int .u64 u] 48)).drew = W1 at *
      have HT0 : Hid _ := T0
      obtain ⟨b0, b1, b2, b3⟩ := bx4 T0.r
      have cvB : ∀ W, Hid (Two8 w W w.heap.size [.int .u64 q, .int .i64 s, .int .i64 l, .int .u64 u]) → (convert 36 9 (.slice (some ⟨b, off, none⟩) 32 cap)).run Tryz.prog W = .ok (.string (strOfNums (bs.take 32))) W := fun W h => conv_row (P := Tryz.prog) ((HR.out.piece 0 32 off (by omega) (fun _ => rfl)).grown h.out.gr) cap 36 9 Tryz.underlying36 Tryz.underlying5 Tryz.underlying9
      have cb0 := cvB _ HT0
      have HBB : Hid (rrt ⟨q, s, l, u⟩ = true → Byt (rby ⟨q, s, l, u⟩)) := fun h => rby_byt h
      have hse := fun h => str_eq (rby ⟨q, s, l, u⟩) (bs.take 32) (rby_byt h) hb32
      have HSE : Hid _ := hse
      clear T0 l1 l2 l3 HG HG2 HG3 c12 c12' c13 c14 hok h12 ws wl hse hb32
      generalize strOfNums (bs.take 32) = sb at *
      generalize rrt ⟨q, s, l, u⟩ = rq at *
      cases rq with
      | false =>
        obtain ⟨⟨rfl, rfl, rfl, rfl⟩, rfl⟩ : (p1 = 0 ∧ p2 = 0 ∧ p3 = 0 ∧ p4 = 0) ∧ pe = 6 := by have := HRES.out; rw [if_neg (by simp)] at this; simp [rc0] at this; omega
        clear HRES HSE HBB h2 cb0
        go_wp2_with fail
        refine wp_region_held_drew (S := fun w' => Two8 w w' w.heap.size [.int .u64 q, .int .i64 s, .int .i64 l, .int .u64 u]) (by kernel_rfl) HT0.out.drew (fun hH => ?_)
        refine wpAnyH_take (i := 0) (oi := ⟨some 21, _, _, _, _, _⟩) (v := .agg #[.int .u64 q, .int .i64 s, .int .i64 l, .int .u64 u]) rfl (by kernel_rfl) (by kernel_rfl) (by kernel_rfl) (fun _ _ _ h => h) (Or.inl ⟨by rfl, fun w hSw => by obtain ⟨c0, c1, c2, c3⟩ := bx4 hSw.r; go_simp⟩) hH ?_
        simp only [Act.put, List.setIfInBounds_toArray, List.set_cons_zero, List.set_cons_succ]
        refine wpAnyH_ready (rs := [1]) (by kernel_rfl) (by simp) ?_
        refine AllReadyH.cons rfl (fun K hK => ?_) AllReadyH.nil
        go_simp
        go_wp2_with (go_at_call 53; refine (h1 _).mono ?_; rintro e wx ⟨rfl, hgx⟩)
        replace hH := hH.keep hgx
        refine hK.out _ _ hH (fun _ => ?_)
        clear hK K hgx
        refine wpAnyH_take (i := 2) (oi := ⟨some 23, _, _, _, _, _⟩) (v := .bool true) rfl (by kernel_rfl) (by kernel_rfl) (by kernel_rfl) (fun _ _ _ h => h) (Or.inl ⟨by rfl, fun w hSw => by go_simp⟩) hH ?_
        simp only [Act.put, List.setIfInBounds_toArray, List.set_cons_zero, List.set_cons_succ]
        refine wpAnyH_take (i := 3) (oi := ⟨some 24, _, _, _, _, _⟩) (v := .bool true) rfl (by kernel_rfl) (by kernel_rfl) (by kernel_rfl) (fun _ _ _ h => h) (Or.inl ⟨by rfl, fun w hSw => by go_simp⟩) hH ?_
        simp only [Act.put, List.setIfInBounds_toArray, List.set_cons_zero, List.set_cons_succ]
        refine wpAnyH_take (i := 4) (oi := ⟨some 25, _, _, _, _, _⟩) (v := undef) rfl (by kernel_rfl) (by kernel_rfl) (by kernel_rfl) (fun _ _ _ h => h) (Or.inr ⟨by rfl, rfl⟩) hH ?_
        simp only [Act.put, List.setIfInBounds_toArray, List.set_cons_zero, List.set_cons_succ]
        refine wpAnyH_take (i := 5) (oi := ⟨some 26, _, _, _, _, _⟩) (v := undef) rfl (by kernel_rfl) (by kernel_rfl) (by kernel_rfl) (fun _ _ _ h => h) (Or.inr ⟨by rfl, rfl⟩) hH ?_
        simp only [Act.put, List.setIfInBounds_toArray, List.set_cons_zero, List.set_cons_succ]
        refine wpAnyH_take (i := 6) (oi := ⟨some 27, _, _, _, _, _⟩) (v := undef) rfl (by kernel_rfl) (by kernel_rfl) (by kernel_rfl) (fun _ _ _ h => h) (Or.inr ⟨by rfl, rfl⟩) hH ?_
        simp only [Act.put, List.setIfInBounds_toArray, List.set_cons_zero, List.set_cons_succ]
        refine wpAnyH_take (i := 7) (oi := ⟨some 28, _, _, _, _, _⟩) (v := undef) rfl (by kernel_rfl) (by kernel_rfl) (by kernel_rfl) (fun _ _ _ h => h) (Or.inr ⟨by rfl, rfl⟩) hH ?_
        simp only [Act.put, List.setIfInBounds_toArray, List.set_cons_zero, List.set_cons_succ]
        refine wpAnyH_take (i := 8) (oi := ⟨some 29, _, _, _, _, _⟩) (v := undef) rfl (by kernel_rfl) (by kernel_rfl) (by kernel_rfl) (fun _ _ _ h => h) (Or.inr ⟨by rfl, rfl⟩) hH ?_
        simp only [Act.put, List.setIfInBounds_toArray, List.set_cons_zero, List.set_cons_succ]
        refine wpAnyH_take (i := 9) (oi := ⟨some 30, _, _, _, _, _⟩) (v := undef) rfl (by kernel_rfl) (by kernel_rfl) (by kernel_rfl) (fun _ _ _ h => h) (Or.inr ⟨by rfl, rfl⟩) hH ?_
        simp only [Act.put, List.setIfInBounds_toArray, List.set_cons_zero, List.set_cons_succ]
        refine wpAnyH_take (i := 10) (oi := ⟨some 31, _, _, _, _, _⟩) (v := undef) rfl (by kernel_rfl) (by kernel_rfl) (by kernel_rfl) (fun _ _ _ h => h) (Or.inr ⟨by rfl, rfl⟩) hH ?_
        simp only [Act.put, List.setIfInBounds_toArray, List.set_cons_zero, List.set_cons_succ]
        refine wpAnyH_take (i := 11) (oi := ⟨some 32, _, _, _, _, _⟩) (v := .bool true) rfl (by kernel_rfl) (by kernel_rfl) (by kernel_rfl) (fun _ _ _ h => h) (Or.inl ⟨by rfl, fun w hSw => by go_simp⟩) hH ?_
        simp only [Act.put, List.setIfInBounds_toArray, List.set_cons_zero, List.set_cons_succ]
        refine wpAnyH_done (by kernel_rfl) ?_ _
        have R4 := hH.z.set4 (.int .u64 0) (.int .i64 0) (.int .i64 0) (.int .u64 0)
        have HF : Hid _ := grown_new hH.gr (grown_set4 _ w.heap.size (.int .u64 0) (.int .i64 0) (.int .i64 0) (.int .u64 0)) (Nat.le_refl _)
        obtain ⟨z0, z1, z2, z3⟩ := bx4 hH.z
        obtain ⟨r0, r1, r2, r3⟩ := bx4 hH.r
        obtain ⟨d0, d1, d2, d3⟩ := bx4 R4
        have f0 := hH.z.f 0
        have f1 := hH.z.f 1
        have f2 := hH.z.f 2
        have f3 := hH.z.f 3
        unfold set4 at d0 d1 d2 d3
        clear R4 hH cvB
        go_wp2
        refine bodyPost_ret (by simp [results, Tryz.results49, go_sem, d0, d1, d2, d3]; try rfl) rfl ?_
        exact ⟨rfl, HF.out⟩
      | true =>
        have hse := HSE.out rfl
        simp only [true_implies] at h2
        have HBy : Hid (Byt (rby ⟨q, s, l, u⟩)) := HBB.out rfl
        clear HBB
        have hcp : (32 : Int) ≤ (cap : Int) := by omega
        by_cases heq : rby ⟨q, s, l, u⟩ = bs.take 32
        · obtain ⟨⟨rfl, rfl, rfl, rfl⟩, rfl⟩ : (q = p1 ∧ s = p2 ∧ l = p3 ∧ u = p4) ∧ pe = 0 := by have := HRES.out; rw [if_pos ⟨rfl, heq⟩] at this; simp at this; obtain ⟨⟨h1, h2, h3, h4⟩, h5⟩ := this; exact ⟨⟨h1.symm, h2.symm, h3.symm, h4.symm⟩, h5⟩
          rw [decide_eq_true heq] at hse
          clear HRES HSE cb0 heq
          go_wp2_with fail
          refine wp_region_held_drew (S := fun w' => Two8 w w' w.heap.size [.int .u64 q, .int .i64 s, .int .i64 l, .int .u64 u]) (by kernel_rfl) HT0.out.drew (fun hH => ?_)
          refine wpAnyH_take (i := 0) (oi := ⟨some 21, _, _, _, _, _⟩) (v := .agg #[.int .u64 q, .int .i64 s, .int .i64 l, .int .u64 u]) rfl (by kernel_rfl) (by kernel_rfl) (by kernel_rfl) (fun _ _ _ h => h) (Or.inl ⟨by rfl, fun w hSw => by obtain ⟨c0, c1, c2, c3⟩ := bx4 hSw.r; go_simp⟩) hH ?_
          simp only [Act.put, List.setIfInBounds_toArray, List.set_cons_zero, List.set_cons_succ]
          refine wpAnyH_ready (rs := [1]) (by kernel_rfl) (by simp) ?_
          refine AllReadyH.cons rfl (fun K hK => ?_) AllReadyH.nil
          go_simp
          go_wp2_with (go_at_call 53; refine (h1 _).mono ?_; rintro e wx ⟨rfl, hgx⟩)
          replace hH := hH.keep hgx
          refine hK.out _ _ hH (fun _ => ?_)
          clear hK K hgx
          refine wpAnyH_take (i := 2) (oi := ⟨some 23, _, _, _, _, _⟩) (v := .bool false) rfl (by kernel_rfl) (by kernel_rfl) (by kernel_rfl) (fun _ _ _ h => h) (Or.inl ⟨by rfl, fun w hSw => by go_simp⟩) hH ?_
          simp only [Act.put, List.setIfInBounds_toArray, List.set_cons_zero, List.set_cons_succ]
          refine wpAnyH_take (i := 3) (oi := ⟨some 24, _, _, _, _, _⟩) (v := .bool false) rfl (by kernel_rfl) (by kernel_rfl) (by kernel_rfl) (fun _ _ _ h => h) (Or.inl ⟨by rfl, fun w hSw => by go_simp⟩) hH ?_
          simp only [Act.put, List.setIfInBounds_toArray, List.set_cons_zero, List.set_cons_succ]
          refine wpAnyH_take (i := 4) (oi := ⟨some 25, _, _, _, _, _⟩) (v := .agg #[.int .u64 q, .int .i64 s, .int .i64 l, .int .u64 u]) rfl (by kernel_rfl) (by kernel_rfl) (by kernel_rfl) (fun _ _ _ h => h) (Or.inl ⟨by rfl, fun w hSw => by obtain ⟨c0, c1, c2, c3⟩ := bx4 hSw.r; go_simp⟩) hH ?_
          simp only [Act.put, List.setIfInBounds_toArray, List.set_cons_zero, List.set_cons_succ]
          refine wpAnyH_take (i := 7) (oi := ⟨some 28, _, _, _, _, _⟩) (v := .slice (some ⟨b, off, none⟩) len cap) rfl (by kernel_rfl) (by kernel_rfl) (by kernel_rfl) (fun _ _ _ h => h) (Or.inl ⟨by rfl, fun w hSw => by go_simp⟩) hH ?_
          simp only [Act.put, List.setIfInBounds_toArray, List.set_cons_zero, List.set_cons_succ]
          refine wpAnyH_take (i := 8) (oi := ⟨some 29, _, _, _, _, _⟩) (v := .slice (some ⟨b, off, none⟩) 32 cap) rfl (by kernel_rfl) (by kernel_rfl) (by kernel_rfl) (fun _ _ _ h => h) (Or.inl ⟨by rfl, fun w hSw => by go_simp⟩) hH ?_
          simp only [Act.put, List.setIfInBounds_toArray, List.set_cons_zero, List.set_cons_succ]
          refine wpAnyH_take (i := 9) (oi := ⟨some 30, _, _, _, _, _⟩) (v := .string sb) rfl (by kernel_rfl) (by kernel_rfl) (by kernel_rfl) (fun _ _ _ h => h) (Or.inl ⟨by rfl, fun w hSw => by have cq := cvB w hSw; go_simp⟩) hH ?_
          simp only [Act.put, List.setIfInBounds_toArray, List.set_cons_zero, List.set_cons_succ]
          refine wpAnyH_ready (rs := [5]) (by kernel_rfl) (by simp) ?_
          refine AllReadyH.cons rfl (fun K hK => ?_) AllReadyH.nil
          go_simp
          go_wp2_with (go_at_call 54; refine (h2 _).mono ?_; rintro e wx ⟨v5, rfl, o5, hgx⟩)
          obtain ⟨a5, c5, rfl, R5, _, _, _⟩ := own_bytes o5 HBy.out (by unfold maxLen; omega)
          have cx := conv_row (P := Tryz.prog) R5 c5 36 9 Tryz.underlying36 Tryz.underlying5 Tryz.underlying9
          generalize strOfNums (rby ⟨q, s, l, u⟩) = sx at *
          replace hH := hH.keep hgx
          refine hK.out _ _ hH (fun _ => ?_)
          clear hK K hgx o5 R5
          refine wpAnyH_ready (rs := [6]) (by kernel_rfl) (by simp) ?_
          refine AllReadyH.cons rfl (fun K hK => ?_) AllReadyH.nil
          go_simp
          refine hK.out _ _ hH (fun _ => ?_)
          clear hK K cx
          refine wpAnyH_take (i := 10) (oi := ⟨some 31, _, _, _, _, _⟩) (v := .bool false) rfl (by kernel_rfl) (by kernel_rfl) (by kernel_rfl) (fun _ _ _ h => h) (Or.inl ⟨by rfl, fun w hSw => by go_simp⟩) hH ?_
          simp only [Act.put, List.setIfInBounds_toArray, List.set_cons_zero, List.set_cons_succ]
          refine wpAnyH_take (i := 11) (oi := ⟨some 32, _, _, _, _, _⟩) (v := .bool false) rfl (by kernel_rfl) (by kernel_rfl) (by kernel_rfl) (fun _ _ _ h => h) (Or.inl ⟨by rfl, fun w hSw => by go_simp⟩) hH ?_
          simp only [Act.put, List.setIfInBounds_toArray, List.set_cons_zero, List.set_cons_succ]
          refine wpAnyH_done (by kernel_rfl) ?_ _
          have R4 := hH.z.set4 (.int .u64 q) (.int .i64 s) (.int .i64 l) (.int .u64 u)
          have HF : Hid _ := grown_new hH.gr (grown_set4 _ w.heap.size (.int .u64 q) (.int .i64 s) (.int .i64 l) (.int .u64 u)) (Nat.le_refl _)
          obtain ⟨z0, z1, z2, z3⟩ := bx4 hH.z
          obtain ⟨r0, r1, r2, r3⟩ := bx4 hH.r
          obtain ⟨d0, d1, d2, d3⟩ := bx4 R4
          have f0 := hH.z.f 0
          have f1 := hH.z.f 1
          have f2 := hH.z.f 2
          have f3 := hH.z.f 3
          unfold set4 at d0 d1 d2 d3
          clear R4 hH cvB
          go_wp2
          refine bodyPost_ret (by simp [results, Tryz.results49, go_sem, d0, d1, d2, d3]; try rfl) rfl ?_
          exact ⟨rfl, HF.out⟩
        · obtain ⟨⟨rfl, rfl, rfl, rfl⟩, rfl⟩ : (p1 = 0 ∧ p2 = 0 ∧ p3 = 0 ∧ p4 = 0) ∧ pe = 6 := by have := HRES.out; rw [if_neg (by simp [heq])] at this; simp [rc0] at this; omega
          rw [decide_eq_false heq] at hse
          clear HRES HSE cb0 heq
          go_wp2_with fail
          refine wp_region_held_drew (S := fun w' => Two8 w w' w.heap.size [.int .u64 q, .int .i64 s, .int .i64 l, .int .u64 u]) (by kernel_rfl) HT0.out.drew (fun hH => ?_)
          refine wpAnyH_take (i := 0) (oi := ⟨some 21, _, _, _, _, _⟩) (v := .agg #[.int .u64 q, .int .i64 s, .int .i64 l, .int .u64 u]) rfl (by kernel_rfl) (by kernel_rfl) (by kernel_rfl) (fun _ _ _ h => h) (Or.inl ⟨by rfl, fun w hSw => by obtain ⟨c0, c1, c2, c3⟩ := bx4 hSw.r; go_simp⟩) hH ?_
          simp only [Act.put, List.setIfInBounds_toArray, List.set_cons_zero, List.set_cons_succ]
          refine wpAnyH_ready (rs := [1]) (by kernel_rfl) (by simp) ?_
          refine AllReadyH.cons rfl (fun K hK => ?_) AllReadyH.nil
          go_simp
          go_wp2_with (go_at_call 53; refine (h1 _).mono ?_; rintro e wx ⟨rfl, hgx⟩)
          replace hH := hH.keep hgx
          refine hK.out _ _ hH (fun _ => ?_)
          clear hK K hgx
          refine wpAnyH_take (i := 2) (oi := ⟨some 23, _, _, _, _, _⟩) (v := .bool false) rfl (by kernel_rfl) (by kernel_rfl) (by kernel_rfl) (fun _ _ _ h => h) (Or.inl ⟨by rfl, fun w hSw => by go_simp⟩) hH ?_
          simp only [Act.put, List.setIfInBounds_toArray, List.set_cons_zero, List.set_cons_succ]
          refine wpAnyH_take (i := 3) (oi := ⟨some 24, _, _, _, _, _⟩) (v := .bool false) rfl (by kernel_rfl) (by kernel_rfl) (by kernel_rfl) (fun _ _ _ h => h) (Or.inl ⟨by rfl, fun w hSw => by go_simp⟩) hH ?_
          simp only [Act.put, List.setIfInBounds_toArray, List.set_cons_zero, List.set_cons_succ]
          refine wpAnyH_take (i := 4) (oi := ⟨some 25, _, _, _, _, _⟩) (v := .agg #[.int .u64 q, .int .i64 s, .int .i64 l, .int .u64 u]) rfl (by kernel_rfl) (by kernel_rfl) (by kernel_rfl) (fun _ _ _ h => h) (Or.inl ⟨by rfl, fun w hSw => by obtain ⟨c0, c1, c2, c3⟩ := bx4 hSw.r; go_simp⟩) hH ?_
          simp only [Act.put, List.setIfInBounds_toArray, List.set_cons_zero, List.set_cons_succ]
          refine wpAnyH_take (i := 7) (oi := ⟨some 28, _, _, _, _, _⟩) (v := .slice (some ⟨b, off, none⟩) len cap) rfl (by kernel_rfl) (by kernel_rfl) (by kernel_rfl) (fun _ _ _ h => h) (Or.inl ⟨by rfl, fun w hSw => by go_simp⟩) hH ?_
          simp only [Act.put, List.setIfInBounds_toArray, List.set_cons_zero, List.set_cons_succ]
          refine wpAnyH_take (i := 8) (oi := ⟨some 29, _, _, _, _, _⟩) (v := .slice (some ⟨b, off, none⟩) 32 cap) rfl (by kernel_rfl) (by kernel_rfl) (by kernel_rfl) (fun _ _ _ h => h) (Or.inl ⟨by rfl, fun w hSw => by go_simp⟩) hH ?_
          simp only [Act.put, List.setIfInBounds_toArray, List.set_cons_zero, List.set_cons_succ]
          refine wpAnyH_take (i := 9) (oi := ⟨some 30, _, _, _, _, _⟩) (v := .string sb) rfl (by kernel_rfl) (by kernel_rfl) (by kernel_rfl) (fun _ _ _ h => h) (Or.inl ⟨by rfl, fun w hSw => by have cq := cvB w hSw; go_simp⟩) hH ?_
          simp only [Act.put, List.setIfInBounds_toArray, List.set_cons_zero, List.set_cons_succ]
          refine wpAnyH_ready (rs := [5]) (by kernel_rfl) (by simp) ?_
          refine AllReadyH.cons rfl (fun K hK => ?_) AllReadyH.nil
          go_simp
          go_wp2_with (go_at_call 54; refine (h2 _).mono ?_; rintro e wx ⟨v5, rfl, o5, hgx⟩)
          obtain ⟨a5, c5, rfl, R5, _, _, _⟩ := own_bytes o5 HBy.out (by unfold maxLen; omega)
          have cx := conv_row (P := Tryz.prog) R5 c5 36 9 Tryz.underlying36 Tryz.underlying5 Tryz.underlying9
          generalize strOfNums (rby ⟨q, s, l, u⟩) = sx at *
          replace hH := hH.keep hgx
          refine hK.out _ _ hH (fun _ => ?_)
          clear hK K hgx o5 R5
          refine wpAnyH_ready (rs := [6]) (by kernel_rfl) (by simp) ?_
          refine AllReadyH.cons rfl (fun K hK => ?_) AllReadyH.nil
          go_simp
          refine hK.out _ _ hH (fun _ => ?_)
          clear hK K cx
          refine wpAnyH_take (i := 10) (oi := ⟨some 31, _, _, _, _, _⟩) (v := .bool true) rfl (by kernel_rfl) (by kernel_rfl) (by kernel_rfl) (fun _ _ _ h => h) (Or.inl ⟨by rfl, fun w hSw => by go_simp⟩) hH ?_
          simp only [Act.put, List.setIfInBounds_toArray, List.set_cons_zero, List.set_cons_succ]
          refine wpAnyH_take (i := 11) (oi := ⟨some 32, _, _, _, _, _⟩) (v := .bool true) rfl (by kernel_rfl) (by kernel_rfl) (by kernel_rfl) (fun _ _ _ h => h) (Or.inl ⟨by rfl, fun w hSw => by go_simp⟩) hH ?_
          simp only [Act.put, List.setIfInBounds_toArray, List.set_cons_zero, List.set_cons_succ]
          refine wpAnyH_done (by kernel_rfl) ?_ _
          have R4 := hH.z.set4 (.int .u64 0) (.int .i64 0) (.int .i64 0) (.int .u64 0)
          have HF : Hid _ := grown_new hH.gr (grown_set4 _ w.heap.size (.int .u64 0) (.int .i64 0) (.int .i64 0) (.int .u64 0)) (Nat.le_refl _)
          obtain ⟨z0, z1, z2, z3⟩ := bx4 hH.z
          obtain ⟨r0, r1, r2, r3⟩ := bx4 hH.r
          obtain ⟨d0, d1, d2, d3⟩ := bx4 R4
          have f0 := hH.z.f 0
          have f1 := hH.z.f 1
          have f2 := hH.z.f 2
          have f3 := hH.z.f 3
          unfold set4 at d0 d1 d2 d3
          clear R4 hH cvB
          go_wp2
          refine bodyPost_ret (by simp [results, Tryz.results49, go_sem, d0, d1, d2, d3]; try rfl) rfl ?_
          exact ⟨rfl, HF.out⟩
end Go.Proofs.YtfhgbddeclldnaaGreat

namespace Go.Proofs.YtfhgbddeclldnaaGreat
open Go.RowKit
set_option maxRecDepth 100000
set_option linter.unusedSimpArgs false
set_option linter.unusedVariables false

/-- Choose, as a plain function -/
def rch (a b : List Int) : Int × Rc × Int :=
  if (rde a).2 ≠ 0 ∧ (rde b).2 ≠ 0 then (0, rc0, 4) else if (rde a).2 ≠ 0 ∨ ((rde b).2 = 0 ∧ (rde a).1.q < (rde b).1.q) then (1, (rde b).1, 0) else (0, (rde a).1, 0)
theorem rde_err (bs : List Int) : (rde bs).2 = 0 ∨ (rde bs).2 = 6 := by
  unfold rde
  split
  · exact Or.inr rfl
  · split
    · exact Or.inl rfl
    · exact Or.inr rfl
/-- three variables: the answer's, the first, the second -/
structure Thr (w W : World) (g0 g1 g2 : Nat) (c1 c2 : List Value) : Prop where
  z : Bx W g0 48 [.int .u64 0, .int .i64 0, .int .i64 0, .int .u64 0]
  x : Bx W g1 48 c1
  y : Bx W g2 48 c2
  gr : w.grownBy W none
set_option maxHeartbeats 4000000 in
theorem rchoose_any (a : Option Addr) (len cap : Nat) (xs : List Int) (b : Option Addr) (len2 cap2 : Nat) (ys : List Int) (w : World) (R : Row w a len xs) (hnc : len ≤ cap) (hcm : cap ≤ maxLen) (R2 : Row w b len2 ys) (hnc2 : len2 ≤ cap2) (hcm2 : cap2 ≤ maxLen) :
    Calls Tryz.prog 48 #[.slice a len cap, .slice b len2 cap2] w fun e w' => e = .returned (.tuple #[.int .i64 (rch xs ys).1, (rch xs ys).2.1.val, .int .i64 (rch xs ys).2.2]) ∧ w.grownBy w' none := by
  have h1 := fun W R => rdecode_any a len cap xs W R hnc hcm
  have h2 := fun W R => rdecode_any b len2 cap2 ys W R hnc2 hcm2
  have ok1 := (rde_ok R.byt).1
  have ok2 := (rde_ok R2.byt).1
  have er1 := rde_err xs
  have er2 := rde_err ys
  have HRES : Hid (rch xs ys = if (rde xs).2 ≠ 0 ∧ (rde ys).2 ≠ 0 then (0, rc0, 4) else if (rde xs).2 ≠ 0 ∨ ((rde ys).2 = 0 ∧ (rde xs).1.q < (rde ys).1.q) then (1, (rde ys).1, 0) else (0, (rde xs).1, 0)) := rfl
  generalize rch xs ys = RES at *
  generalize rde xs = X at *
  generalize rde ys = Y at *
  obtain ⟨⟨q1, s1, l1, u1⟩, e1⟩ := X
  obtain ⟨⟨q2, s2, l2, u2⟩, e2⟩ := Y
  obtain ⟨k, ⟨p1, p2, p3, p4⟩, pe⟩ := RES
  have hq1 := ok1.1
  have hq2 := ok2.1
  unfold inU at hq1 hq2
  simp only [Rc.val] at *
  have HR : Hid _ := And.intro R R2
  clear R R2 ok1 ok2
  have Z0 := Bx.new w 48 [.int .u64 0, .int .i64 0, .int .i64 0, .int .u64 0]
  have G0 := World.grownBy_alloc w (.cells #[.int .u64 0, .int .i64 0, .int .i64 0, .int .u64 0] 48) none
  have k1 := h1 _ (HR.out.1.grown G0)
  have H0 : Hid _ := And.intro Z0 G0
  clear Z0 G0 h1
  go_enter Tryz.func48, Tryz.ntmps48
  go_wp2_with fail
  refine k1.mono ?_
  rintro e w1 ⟨rfl, g1⟩
  have A1 := World.grownBy_alloc w1 (.cells #[.int .u64 q1, .int .i64 s1, .int .i64 l1, .int .u64 u1] 48) none
  have X1 := Bx.new w1 48 [.int .u64 q1, .int .i64 s1, .int .i64 l1, .int .u64 u1]
  have G1 := grown_trans (grown_trans H0.out.2 g1) A1
  have k2 := h2 _ (HR.out.2.grown G1)
  have H1 : Hid _ := And.intro ((H0.out.1.kept g1).kept A1) (And.intro X1 G1)
  clear X1 G1 A1 g1 H0 k1 h2
  simp only
  go_wp2_with fail
  refine k2.mono ?_
  rintro e w2 ⟨rfl, g2⟩
  have A2 := World.grownBy_alloc w2 (.cells #[.int .u64 q2, .int .i64 s2, .int .i64 l2, .int .u64 u2] 48) none
  have T : Thr w (w2.alloc (.cells #[.int .u64 q2, .int .i64 s2, .int .i64 l2, .int .u64 u2] 48)) w.heap.size w1.heap.size w2.heap.size [.int .u64 q1, .int .i64 s1, .int .i64 l1, .int .u64 u1] [.int .u64 q2, .int .i64 s2, .int .i64 l2, .int .u64 u2] := ⟨(H1.out.1.kept g2).kept A2, (H1.out.2.1.kept g2).kept A2, Bx.new w2 48 _, grown_trans (grown_trans H1.out.2.2 g2) A2⟩
  have HT : Hid _ := T
  clear T A2 g2 H1 k2
  simp only
  obtain ⟨x0, x1, x2, x3⟩ := bx4 HT.out.x
  obtain ⟨y0, y1, y2, y3⟩ := bx4 HT.out.y
  obtain ⟨z0, z1, z2, z3⟩ := bx4 HT.out.z
  have f0 := HT.out.z.f 0
  have f1 := HT.out.z.f 1
  have f2 := HT.out.z.f 2
  have f3 := HT.out.z.f 3
  rcases er1 with rfl | rfl
  · rcases er2 with rfl | rfl
    · by_cases c : q1 < q2
      · obtain ⟨rfl, ⟨rfl, rfl, rfl, rfl⟩, rfl⟩ : k = 1 ∧ (q2 = p1 ∧ s2 = p2 ∧ l2 = p3 ∧ u2 = p4) ∧ pe = 0 := by
          have := HRES.out
          rw [if_neg (by simp), if_pos (Or.inr ⟨rfl, c⟩)] at this
          simp [rc0] at this
          omega
        clear HRES
        have R4 := HT.out.z.set4 (.int .u64 q2) (.int .i64 s2) (.int .i64 l2) (.int .u64 u2)
        have HF : Hid _ := grown_new HT.out.gr (grown_set4 _ w.heap.size (.int .u64 q2) (.int .i64 s2) (.int .i64 l2) (.int .u64 u2)) (Nat.le_refl _)
        obtain ⟨d0, d1, d2, d3⟩ := bx4 R4
        unfold set4 at d0 d1 d2 d3
        clear R4 HR
        go_wp2_with fail
        go_region
        go_wp2
        refine bodyPost_ret (by simp [results, Tryz.results48, go_sem, d0, d1, d2, d3]; try rfl) rfl ?_
        exact ⟨rfl, grown_trans HF.out ⟨rfl, rfl, rfl, Nat.le_refl _, fun _ _ _ => rfl⟩⟩
      · have c' : decide (q1 < q2) = false := decide_eq_false c
        obtain ⟨rfl, ⟨rfl, rfl, rfl, rfl⟩, rfl⟩ : k = 0 ∧ (q1 = p1 ∧ s1 = p2 ∧ l1 = p3 ∧ u1 = p4) ∧ pe = 0 := by
          have := HRES.out
          rw [if_neg (by simp), if_neg (by simp; omega)] at this
          simp [rc0] at this
          omega
        clear HRES
        have R4 := HT.out.z.set4 (.int .u64 q1) (.int .i64 s1) (.int .i64 l1) (.int .u64 u1)
        have HF : Hid _ := grown_new HT.out.gr (grown_set4 _ w.heap.size (.int .u64 q1) (.int .i64 s1) (.int .i64 l1) (.int .u64 u1)) (Nat.le_refl _)
        obtain ⟨d0, d1, d2, d3⟩ := bx4 R4
        unfold set4 at d0 d1 d2 d3
        clear R4 HR
        go_wp2_with fail
        go_region
        go_wp2
        refine bodyPost_ret (by simp [results, Tryz.results48, go_sem, d0, d1, d2, d3]; try rfl) rfl ?_
        exact ⟨rfl, grown_trans HF.out ⟨rfl, rfl, rfl, Nat.le_refl _, fun _ _ _ => rfl⟩⟩
    · obtain ⟨rfl, ⟨rfl, rfl, rfl, rfl⟩, rfl⟩ : k = 0 ∧ (q1 = p1 ∧ s1 = p2 ∧ l1 = p3 ∧ u1 = p4) ∧ pe = 0 := by
        have := HRES.out
        rw [if_neg (by simp), if_neg (by simp)] at this
        simp [rc0] at this
        omega
      clear HRES
      have R4 := HT.out.z.set4 (.int .u64 q1) (.int .i64 s1) (.int .i64 l1) (.int .u64 u1)
      have HF : Hid _ := grown_new HT.out.gr (grown_set4 _ w.heap.size (.int .u64 q1) (.int .i64 s1) (.int .i64 l1) (.int .u64 u1)) (Nat.le_refl _)
      obtain ⟨d0, d1, d2, d3⟩ := bx4 R4
      unfold set4 at d0 d1 d2 d3
      clear R4 HR
      go_wp2_with fail
      go_region
      go_wp2
      refine bodyPost_ret (by simp [results, Tryz.results48, go_sem, d0, d1, d2, d3]; try rfl) rfl ?_
      exact ⟨rfl, grown_trans HF.out ⟨rfl, rfl, rfl, Nat.le_refl _, fun _ _ _ => rfl⟩⟩
  · rcases er2 with rfl | rfl
    · obtain ⟨rfl, ⟨rfl, rfl, rfl, rfl⟩, rfl⟩ : k = 1 ∧ (q2 = p1 ∧ s2 = p2 ∧ l2 = p3 ∧ u2 = p4) ∧ pe = 0 := by
        have := HRES.out
        rw [if_neg (by simp), if_pos (Or.inl (by simp))] at this
        simp [rc0] at this
        omega
      clear HRES
      have R4 := HT.out.z.set4 (.int .u64 q2) (.int .i64 s2) (.int .i64 l2) (.int .u64 u2)
      have HF : Hid _ := grown_new HT.out.gr (grown_set4 _ w.heap.size (.int .u64 q2) (.int .i64 s2) (.int .i64 l2) (.int .u64 u2)) (Nat.le_refl _)
      obtain ⟨d0, d1, d2, d3⟩ := bx4 R4
      unfold set4 at d0 d1 d2 d3
      clear R4 HR
      go_wp2_with fail
      go_region
      go_wp2
      refine bodyPost_ret (by simp [results, Tryz.results48, go_sem, d0, d1, d2, d3]; try rfl) rfl ?_
      exact ⟨rfl, grown_trans HF.out ⟨rfl, rfl, rfl, Nat.le_refl _, fun _ _ _ => rfl⟩⟩
    · obtain ⟨rfl, ⟨rfl, rfl, rfl, rfl⟩, rfl⟩ : k = 0 ∧ (p1 = 0 ∧ p2 = 0 ∧ p3 = 0 ∧ p4 = 0) ∧ pe = 4 := by
        have := HRES.out
        rw [if_pos ⟨by simp, by simp⟩] at this
        simp [rc0] at this
        omega
      clear HRES
      have R4 := HT.out.z.set4 (.int .u64 0) (.int .i64 0) (.int .i64 0) (.int .u64 0)
      have HF : Hid _ := grown_new HT.out.gr (grown_set4 _ w.heap.size (.int .u64 0) (.int .i64 0) (.int .i64 0) (.int .u64 0)) (Nat.le_refl _)
      obtain ⟨d0, d1, d2, d3⟩ := bx4 R4
      unfold set4 at d0 d1 d2 d3
      clear R4 HR
      go_wp2
      refine bodyPost_ret (by simp [results, Tryz.results48, go_sem, d0, d1, d2, d3]; try rfl) rfl ?_
      exact ⟨rfl, HF.out⟩
end Go.Proofs.YtfhgbddeclldnaaGreat

namespace Go.Proofs.YtfhgbddeclldnaaGreat
open Go.RowKit
set_option maxRecDepth 100000
set_option linter.unusedSimpArgs false
set_option linter.unusedVariables false

theorem le_sto8 (n : Int) (k : Nat) (h0 : 0 ≤ n) (h : n < 256 ^ k) : le (sto n k) = n := by
  induction k generalizing n with
  | zero => simp [sto, le] at *; omega
  | succ k ih =>
    have hp : (256 : Int) ^ (k + 1) = 256 ^ k * 256 := Int.pow_succ ..
    rw [sto, le, ih (n / 256) (by omega) (by rw [hp] at h; exact Int.ediv_lt_of_lt_mul (by decide) h)]
    omega
theorem rby_drop (r : Rc) (more : List Int) : ((rby r ++ more).drop 4).take 8 = sto r.q 8 ∧ (rby r ++ more).getD 12 0 = r.s ∧ ((rby r ++ more).drop 16).take 4 = sto r.l 4 ∧ ((rby r ++ more).drop 20).take 8 = sto r.u 8 ∧ (rby r ++ more).take 32 = rby r := by
  have l1 := sto_len r.q 8
  have l2 := sto_len r.l 4
  have l3 := sto_len r.u 8
  have l4 := rby_len r
  have l5 := sto_len (crc ent 0 (rb0 r) : Nat) 4
  unfold rby rb0 at *
  generalize sto r.q 8 = A at *
  generalize sto r.l 4 = B at *
  generalize sto r.u 8 = C at *
  generalize sto _ 4 = D at *
  refine ⟨?_, ?_, ?_, ?_, ?_⟩
  · simp [List.drop_append, List.take_append, l1]
  · simp [List.getElem?_append, l1]
  · simp [List.drop_append, List.take_append, l1, l2]
  · simp [List.drop_append, List.take_append, l1, l2, l3]
  · rw [List.take_append_of_le_length (by omega), List.take_of_length_le (by omega)]
theorem rde_rby {r : Rc} (more : List Int) (hr : rrt r = true) (hq : 0 ≤ r.q) (hu : inU r.u) : rde (rby r ++ more) = (r, 0) := by
  obtain ⟨d1, d2, d3, d4, d5⟩ := rby_drop r more
  have hk := rrt_iff.1 hr
  have e : rrd (rby r ++ more) = r := by
    unfold rrd
    rw [d1, d2, d3, d4, le_sto8 _ _ hq (by omega), le_sto8 _ _ (by omega) (by omega), le_sto8 _ _ hu.1 (by have := hu.2; omega)]
  unfold rde
  rw [if_neg (by have := rby_len r; simp; omega), e, if_pos ⟨hr, d5.symm⟩]
theorem rde_rby0 {r : Rc} (hr : rrt r = true) (hq : 0 ≤ r.q) (hu : inU r.u) : rde (rby r) = (r, 0) := by
  have := rde_rby [] hr hq hu
  rwa [List.append_nil] at this
theorem rch_two {r t : Rc} (hr : rrt r = true) (ht : rrt t = true) (hq : 0 ≤ r.q) (hq2 : 0 ≤ t.q) (hu : inU r.u) (hu2 : inU t.u) : rch (rby r) (rby t) = if r.q < t.q then (1, t, 0) else (0, r, 0) := by
  unfold rch
  rw [rde_rby0 hr hq hu, rde_rby0 ht hq2 hu2]
  simp
end Go.Proofs.YtfhgbddeclldnaaGreat

namespace Go.Proofs.YtfhgbddeclldnaaGreat
open Go.RowKit
set_option maxRecDepth 100000
set_option linter.unusedSimpArgs false
set_option linter.unusedVariables false

/-- are two records the same? -/
def Rc.same (P Q : Rc) : Bool := decide (P.q = Q.q ∧ P.s = Q.s ∧ P.l = Q.l ∧ P.u = Q.u)
theorem Rc.same_iff {P Q : Rc} : P.same Q = true ↔ P = Q := by
  unfold Rc.same
  rw [decide_eq_true_iff]
  constructor
  · rintro ⟨h1, h2, h3, h4⟩
    cases P; cases Q
    simp only at h1 h2 h3 h4
    subst h1 h2 h3 h4
    rfl
  · rintro rfl; simp
theorem Rc.same_self (P : Rc) : P.same P = true := Rc.same_iff.2 rfl
theorem wfI {x : Int} (h : in64 x) : (Lit.int .i64 x).wf = true := by
  unfold in64 at h
  simp [Lit.wf, IntKind.min, IntKind.max, IntKind.signed, IntKind.bits]
  omega
theorem wfU {x : Int} (h : inU x) : (Lit.int .u64 x).wf = true := by
  unfold inU at h
  simp [Lit.wf, IntKind.min, IntKind.max, IntKind.signed, IntKind.bits]
  omega
theorem kl_i (d : Nat) {x : Int} (h : in64 x) : Tryz.prog.keyLits (d + 1) 3 [.int .i64 x] = some [.int .i64 x] := by
  simp [Program.keyLits, Tryz.underlying3, wfI h]
theorem kl_u (d : Nat) {x : Int} (h : inU x) : Tryz.prog.keyLits (d + 1) 46 [.int .u64 x] = some [.int .u64 x] := by
  simp [Program.keyLits, Tryz.underlying46, wfU h]
theorem Tryz.cz3 : Tryz.prog.cellsOf 3 = 1 := by kernel_rfl
theorem Tryz.czU : Tryz.prog.cellsOf 46 = 1 := by kernel_rfl
theorem Tryz.czR : Tryz.prog.cellsOf 48 = 4 := by kernel_rfl
theorem kl_rec {P : Rc} (h : P.ok) : Tryz.prog.keyLits 8 48 P.val.cells.toList = some [.int .u64 P.q, .int .i64 P.s, .int .i64 P.l, .int .u64 P.u] := by
  obtain ⟨h1, h2, h3, h4⟩ := h
  rw [show P.val.cells.toList = P.cells from rfl]
  unfold Program.keyLits
  simp [Tryz.underlying48, Rc.cells, Tryz.cz3, Tryz.czU, Tryz.czR, kl_u 6 h1, kl_i 6 h2, kl_i 6 h3, kl_u 6 h4]
set_option maxRecDepth 100000 in
theorem rec_eq (P Q : Rc) (w : World) (hP : P.ok) (hQ : Q.ok) : (Op.equalIn 10000 48 P.val Q.val).run Tryz.prog w = .ok (P.same Q) w := by
  obtain ⟨r, h1, h2⟩ := run_equalIn_deep (P := Tryz.prog) 9990 10 48 (by kernel_rfl) w 8 8 P.val Q.val _ _ (by rfl) (by rfl) (kl_rec hP) (kl_rec hQ)
  rw [show (9990 + 10) = 10000 from rfl] at h1
  rw [h1]
  congr 1
  by_cases h : P = Q
  · rw [Rc.same_iff.2 h]
    exact h2.2 (by rw [h])
  · rw [show P.same Q = false by cases k : P.same Q with | false => rfl | true => exact absurd (Rc.same_iff.1 k) h]
    cases r with
    | false => rfl
    | true =>
      exfalso
      have := h2.1 rfl
      obtain ⟨q, s, l, u⟩ := P
      obtain ⟨q', s', l', u'⟩ := Q
      simp at this
      obtain ⟨rfl, rfl, rfl, rfl⟩ := this
      exact h rfl
theorem rec_ne (P Q : Rc) (w : World) (hP : P.ok) (hQ : Q.ok) : (binOp .neq 48 P.val Q.val).run Tryz.prog w = .ok (.bool (!P.same Q)) w := by
  have := rec_eq P Q w hP hQ
  unfold Rc.val at *
  rw [run_neq_struct, this]; rfl
theorem rec_eql (P Q : Rc) (w : World) (hP : P.ok) (hQ : Q.ok) : (binOp .eql 48 P.val Q.val).run Tryz.prog w = .ok (.bool (P.same Q)) w := by
  have := rec_eq P Q w hP hQ
  unfold Rc.val at *
  rw [run_eql_struct, this]; rfl
end Go.Proofs.YtfhgbddeclldnaaGreat
