/- Bytes as a record. -/
import Derived.Test.YtlbilpjlfelgdaaDB
import Derived.Deep.RegionHeld3
import Derived.Deep.RegionWith
namespace Go.Proofs.Ytlbilpjlfelgdaa
open Go.RowKit
set_option linter.unusedSimpArgs false
set_option linter.unusedVariables false

/-- what the fields of these bytes tell -/
def rrd (bs : List Int) : Rc := ⟨le ((bs.drop 4).take 8), bs.getD 12 0, le ((bs.drop 16).take 4), le ((bs.drop 20).take 8)⟩
/-- Decode, as a plain function -/
def rde (bs : List Int) : Rc × Int := if bs.length < 32 then (rc0, 6) else if rrt (rrd bs) = true ∧ rby (rrd bs) = bs.take 32 then (rrd bs, 0) else (rc0, 6)
theorem rrd_ok {bs : List Int} (h : Byt bs) : (rrd bs).ok := by
  have a1 := le_nonneg ((h.drop 4).take 8)
  have a2 := le_lt_of ((h.drop 4).take 8) 8 (by simp; omega)
  have a3 := le_nonneg ((h.drop 16).take 4)
  have a4 := le_lt_of ((h.drop 16).take 4) 4 (by simp; omega)
  have a5 := le_nonneg ((h.drop 20).take 8)
  have a6 := le_lt_of ((h.drop 20).take 8) 8 (by simp; omega)
  have a7 := h.getD 12
  unfold Rc.ok rrd inU in64
  simp only
  omega
theorem rde_ok {bs : List Int} (h : Byt bs) : (rde bs).1.ok ∧ in64 (rde bs).2 := by
  have h0 : rc0.ok := by unfold Rc.ok rc0 inU in64; simp
  unfold rde
  split
  · exact ⟨h0, by unfold in64; simp⟩
  · split
    · exact ⟨rrd_ok h, by unfold in64; simp⟩
    · exact ⟨h0, by unfold in64; simp⟩
/-- the answer's variable, and a record's behind it -/
structure Two8 (w W : World) (g0 : Nat) (cs : List Value) : Prop where
  z : Bx W g0 24 [.int .u64 0, .int .i64 0, .int .i64 0, .int .u64 0]
  r : Bx W (g0 + 1) 24 cs
  gr : w.grownBy W none
theorem Two8.keep {w W W' : World} {g0 : Nat} {cs : List Value} (h : Two8 w W g0 cs) (k : W.grownBy W' none) : Two8 w W' g0 cs := ⟨h.z.kept k, h.r.kept k, grown_trans h.gr k⟩
theorem Two8.drew {w W : World} {g0 : Nat} {cs : List Value} (h : Two8 w W g0 cs) : Two8 w W.drew g0 cs := h.keep ⟨rfl, rfl, rfl, Nat.le_refl _, fun _ _ _ => rfl⟩
set_option maxHeartbeats 20000000 in
theorem rdecode_any (a : Option Addr) (len cap : Nat) (bs : List Int) (w : World) (R : Row w a len bs) (hnc : len ≤ cap) (hcm : cap ≤ maxLen) :
    Calls Try.prog 14 #[.slice a len cap] w fun e w' => e = .returned (.tuple #[(rde bs).1.val, .int .i64 (rde bs).2]) ∧ w.grownBy w' none := by
  have hlb := R.len_eq
  have hm := R.le
  unfold maxLen at hm hcm
  by_cases h0 : len < 32
  · have e : rde bs = (rc0, 6) := by unfold rde; rw [if_pos (by omega)]
    rw [e]
    simp only [Rc.val, rc0]
    clear e R
    go_enter Try.func14, Try.ntmps14
    go_wp2
    go_returns
    exact ⟨rfl, World.grownBy_alloc _ _ _⟩
  · have hok := rrd_ok R.byt
    have h1 := fun W => rright_any (rrd bs) W
    have h2 := fun W hr => rbytes_any (rrd bs) W hr hok.1.1 hok.2.2.2
    have l1 : ∀ W, Hid (w.grownBy W none) → Calls Try.prog 30 #[.slice a len cap, .int .i64 4, .int .i64 8] W fun e w' => e = .returned (.int .u64 (rrd bs).q) ∧ W = w' := fun W g => load_row a len cap bs 4 8 W (R.grown g.out) (by omega) (by omega) (by omega)
    have l2 : ∀ W, Hid (w.grownBy W none) → Calls Try.prog 30 #[.slice a len cap, .int .i64 16, .int .i64 4] W fun e w' => e = .returned (.int .u64 (rrd bs).l) ∧ W = w' := fun W g => load_row a len cap bs 16 4 W (R.grown g.out) (by omega) (by omega) (by omega)
    have l3 : ∀ W, Hid (w.grownBy W none) → Calls Try.prog 30 #[.slice a len cap, .int .i64 20, .int .i64 8] W fun e w' => e = .returned (.int .u64 (rrd bs).u) ∧ W = w' := fun W g => load_row a len cap bs 20 8 W (R.grown g.out) (by omega) (by omega) (by omega)
    obtain ⟨b, off, rfl, hc⟩ := R.cells (by omega)
    have c12 : w.cell? ⟨b, off + 12, none⟩ = some (.int .u8 (rrd bs).s) := hc 12 (by omega)
    have hs255 : 0 ≤ (rrd bs).s ∧ (rrd bs).s ≤ 255 := R.byt.getD 12
    have hl32 : 0 ≤ (rrd bs).l ∧ (rrd bs).l < 4294967296 := ⟨le_nonneg ((R.byt.drop 16).take 4), le_lt_of ((R.byt.drop 16).take 4) 4 (by simp; omega)⟩
    have e : rde bs = if rrt (rrd bs) = true ∧ rby (rrd bs) = bs.take 32 then (rrd bs, 0) else (rc0, 6) := by unfold rde; rw [if_neg (by omega)]
    have HR : Hid _ := R
    have HRES : Hid _ := e
    generalize rde bs = RES at *
    generalize rrd bs = r at *
    obtain ⟨q, s, l, u⟩ := r
    obtain ⟨⟨p1, p2, p3, p4⟩, pe⟩ := RES
    simp only [Rc.val] at *
    clear e R hc
    have HG : Hid (w.grownBy (w.alloc (.cells #[.int .u64 0, .int .i64 0, .int .i64 0, .int .u64 0] 24)).drew none) := grown_trans (World.grownBy_alloc _ _ _) ⟨rfl, rfl, rfl, Nat.le_refl _, fun _ _ _ => rfl⟩
    have c12' : (w.alloc (.cells #[.int .u64 0, .int .i64 0, .int .i64 0, .int .u64 0] 24)).cell? ⟨b, off + 12, none⟩ = some (.int .u8 s) := by rw [(grown_below (World.grownBy_alloc w (.cells #[.int .u64 0, .int .i64 0, .int .i64 0, .int .u64 0] 24) none)).cell (p := ⟨b, off + 12, none⟩) (cell_lt c12)]; exact c12
    have gd : ∀ W : World, W.grownBy W.drew none := fun W => ⟨rfl, rfl, rfl, Nat.le_refl _, fun _ _ _ => rfl⟩
    have HG2 : Hid (w.grownBy ((w.alloc (.cells #[.int .u64 0, .int .i64 0, .int .i64 0, .int .u64 0] 24)).alloc (.cells #[.int .u64 0, .int .i64 0, .int .i64 0, .int .u64 0] 24)).drew none) := grown_trans (grown_trans (World.grownBy_alloc _ _ _) (World.grownBy_alloc _ _ _)) (gd _)
    have HG3 : Hid (w.grownBy ((w.alloc (.cells #[.int .u64 0, .int .i64 0, .int .i64 0, .int .u64 0] 24)).alloc (.cells #[.int .u64 q, .int .i64 s, .int .i64 l, .int .u64 u] 24)).drew none) := grown_trans (grown_trans (World.grownBy_alloc _ _ _) (World.grownBy_alloc _ _ _)) (gd _)
    have c13 : ((w.alloc (.cells #[.int .u64 0, .int .i64 0, .int .i64 0, .int .u64 0] 24)).alloc (.cells #[.int .u64 0, .int .i64 0, .int .i64 0, .int .u64 0] 24)).cell? ⟨b, off + 12, none⟩ = some (.int .u8 s) := by rw [(grown_below (grown_trans (World.grownBy_alloc w (.cells #[.int .u64 0, .int .i64 0, .int .i64 0, .int .u64 0] 24) none) (World.grownBy_alloc _ (.cells #[.int .u64 0, .int .i64 0, .int .i64 0, .int .u64 0] 24) none))).cell (p := ⟨b, off + 12, none⟩) (cell_lt c12)]; exact c12
    have c14 : ((w.alloc (.cells #[.int .u64 0, .int .i64 0, .int .i64 0, .int .u64 0] 24)).alloc (.cells #[.int .u64 q, .int .i64 s, .int .i64 l, .int .u64 u] 24)).cell? ⟨b, off + 12, none⟩ = some (.int .u8 s) := by rw [(grown_below (grown_trans (World.grownBy_alloc w (.cells #[.int .u64 0, .int .i64 0, .int .i64 0, .int .u64 0] 24) none) (World.grownBy_alloc _ (.cells #[.int .u64 q, .int .i64 s, .int .i64 l, .int .u64 u] 24) none))).cell (p := ⟨b, off + 12, none⟩) (cell_lt c12)]; exact c12
    have h12 : (12 : Int) < (len : Int) := by omega
    clear gd
    go_enter Try.func14, Try.ntmps14
    go_wp2_with fail
    have ws : IntKind.i64.wrap s = s := by rw [IntKind.wrap_i64]; omega
    have wl : IntKind.i64.wrap l = l := by rw [IntKind.wrap_i64]; omega
    go_region_held3 (fun w' => w'.cell? ⟨b, off + 12, none⟩ = some (.int .u8 s) ∧ Hid (w.grownBy w' none)) (first | (refine ⟨?_, ?_⟩ <;> assumption) | go_keep) (first | (go_at_call 30; (with_reducible refine (l1 _ (by assumption)).mono ?_); rintro e w' ⟨rfl, rfl⟩) | (go_at_call 30; (with_reducible refine (l2 _ (by assumption)).mono ?_); rintro e w' ⟨rfl, rfl⟩) | (go_at_call 30; (with_reducible refine (l3 _ (by assumption)).mono ?_); rintro e w' ⟨rfl, rfl⟩) | fail)
    all_goals
      have hb32 : Byt (bs.take 32) := HR.out.byt.take 32
      have T0 : Two8 w (((w.alloc (.cells #[.int .u64 0, .int .i64 0, .int .i64 0, .int .u64 0] 24)).alloc (.cells #[.int .u64 q, .int .i64 s, .int .i64 l, .int .u64 u] 24)).drew) w.heap.size [.int .u64 q, .int .i64 s, .int .i64 l, .int .u64 u] :=
        ⟨⟨((Bx.new w 24 [.int .u64 0, .int .i64 0, .int .i64 0, .int .u64 0]).kept (World.grownBy_alloc _ (.cells #[.int .u64 q, .int .i64 s, .int .i64 l, .int .u64 u] 24) none)).blk⟩, ⟨by have := (Bx.new (w.alloc (.cells #[.int .u64 0, .int .i64 0, .int .i64 0, .int .u64 0] 24)) 24 [.int .u64 q, .int .i64 s, .int .i64 l, .int .u64 u]).blk; simp only [World.size_alloc] at this; exact this⟩, HG3.out⟩
      generalize ((w.alloc (.cells #[.int .u64 0, .int .i64 0, .int .i64 0, .int .u64 0] 24)).alloc (.cells #[.int .u64 q, .int .i64 s, .int .i64 l, .int .u64 u] 24)).drew = W1 at *
      have HT0 : Hid _ := T0
      obtain ⟨b0, b1, b2, b3⟩ := bx4 T0.r
      have cvB : ∀ W, Hid (Two8 w W w.heap.size [.int .u64 q, .int .i64 s, .int .i64 l, .int .u64 u]) → (convert 25 9 (.slice (some ⟨b, off, none⟩) 32 cap)).run Try.prog W = .ok (.string (strOfNums (bs.take 32))) W := fun W h => conv_row (P := Try.prog) ((HR.out.piece 0 32 off (by omega) (fun _ => rfl)).grown h.out.gr) cap 25 9 Try.underlying25 Try.underlying5 Try.underlying9
      have cb0 := cvB _ HT0
      have HBB : Hid (rrt ⟨q, s, l, u⟩ = true → Byt (rby ⟨q, s, l, u⟩)) := fun h => rby_byt h
      have hse := fun h => str_eq (rby ⟨q, s, l, u⟩) (bs.take 32) (rby_byt h) hb32
      have HSE : Hid _ := hse
      clear T0 l1 l2 l3 HG HG2 HG3 c12 c12' c13 c14 hok h12 ws wl hse hb32
      generalize strOfNums (bs.take 32) = sb at *
      generalize rrt ⟨q, s, l, u⟩ = rq at *
      cases rq with
      | false =>
        obtain ⟨⟨rfl, rfl, rfl, rfl⟩, rfl⟩ : (p1 = 0 ∧ p2 = 0 ∧ p3 = 0 ∧ p4 = 0) ∧ pe = 6 := by have := HRES.out; rw [if_neg (by simp)] at this; simp [rc0] at this; omega
        clear HRES HSE HBB h2 cb0
        go_wp2_with fail
        refine wp_region_held_drew (S := fun w' => Two8 w w' w.heap.size [.int .u64 q, .int .i64 s, .int .i64 l, .int .u64 u]) (by kernel_rfl) HT0.out.drew (fun hH => ?_)
        refine wpAnyH_take (i := 0) (oi := ⟨some 21, _, _, _, _, _⟩) (v := .agg #[.int .u64 q, .int .i64 s, .int .i64 l, .int .u64 u]) rfl (by kernel_rfl) (by kernel_rfl) (by kernel_rfl) (fun _ _ _ h => h) (Or.inl ⟨by rfl, fun w hSw => by obtain ⟨c0, c1, c2, c3⟩ := bx4 hSw.r; go_simp⟩) hH ?_
        simp only [Act.put, List.setIfInBounds_toArray, List.set_cons_zero, List.set_cons_succ]
        refine wpAnyH_ready (rs := [1]) (by kernel_rfl) (by simp) ?_
        refine AllReadyH.cons rfl (fun K hK => ?_) AllReadyH.nil
        go_simp
        go_wp2_with (go_at_call 10; refine (h1 _).mono ?_; rintro e wx ⟨rfl, hgx⟩)
        replace hH := hH.keep hgx
        refine hK.out _ _ hH (fun _ => ?_)
        clear hK K hgx
        refine wpAnyH_take (i := 2) (oi := ⟨some 23, _, _, _, _, _⟩) (v := .bool true) rfl (by kernel_rfl) (by kernel_rfl) (by kernel_rfl) (fun _ _ _ h => h) (Or.inl ⟨by rfl, fun w hSw => by go_simp⟩) hH ?_
        simp only [Act.put, List.setIfInBounds_toArray, List.set_cons_zero, List.set_cons_succ]
        refine wpAnyH_take (i := 3) (oi := ⟨some 24, _, _, _, _, _⟩) (v := .bool true) rfl (by kernel_rfl) (by kernel_rfl) (by kernel_rfl) (fun _ _ _ h => h) (Or.inl ⟨by rfl, fun w hSw => by go_simp⟩) hH ?_
        simp only [Act.put, List.setIfInBounds_toArray, List.set_cons_zero, List.set_cons_succ]
        refine wpAnyH_take (i := 4) (oi := ⟨some 25, _, _, _, _, _⟩) (v := undef) rfl (by kernel_rfl) (by kernel_rfl) (by kernel_rfl) (fun _ _ _ h => h) (Or.inr ⟨by rfl, rfl⟩) hH ?_
        simp only [Act.put, List.setIfInBounds_toArray, List.set_cons_zero, List.set_cons_succ]
        refine wpAnyH_take (i := 5) (oi := ⟨some 26, _, _, _, _, _⟩) (v := undef) rfl (by kernel_rfl) (by kernel_rfl) (by kernel_rfl) (fun _ _ _ h => h) (Or.inr ⟨by rfl, rfl⟩) hH ?_
        simp only [Act.put, List.setIfInBounds_toArray, List.set_cons_zero, List.set_cons_succ]
        refine wpAnyH_take (i := 6) (oi := ⟨some 27, _, _, _, _, _⟩) (v := undef) rfl (by kernel_rfl) (by kernel_rfl) (by kernel_rfl) (fun _ _ _ h => h) (Or.inr ⟨by rfl, rfl⟩) hH ?_
        simp only [Act.put, List.setIfInBounds_toArray, List.set_cons_zero, List.set_cons_succ]
        refine wpAnyH_take (i := 7) (oi := ⟨some 28, _, _, _, _, _⟩) (v := undef) rfl (by kernel_rfl) (by kernel_rfl) (by kernel_rfl) (fun _ _ _ h => h) (Or.inr ⟨by rfl, rfl⟩) hH ?_
        simp only [Act.put, List.setIfInBounds_toArray, List.set_cons_zero, List.set_cons_succ]
        refine wpAnyH_take (i := 8) (oi := ⟨some 29, _, _, _, _, _⟩) (v := undef) rfl (by kernel_rfl) (by kernel_rfl) (by kernel_rfl) (fun _ _ _ h => h) (Or.inr ⟨by rfl, rfl⟩) hH ?_
        simp only [Act.put, List.setIfInBounds_toArray, List.set_cons_zero, List.set_cons_succ]
        refine wpAnyH_take (i := 9) (oi := ⟨some 30, _, _, _, _, _⟩) (v := undef) rfl (by kernel_rfl) (by kernel_rfl) (by kernel_rfl) (fun _ _ _ h => h) (Or.inr ⟨by rfl, rfl⟩) hH ?_
        simp only [Act.put, List.setIfInBounds_toArray, List.set_cons_zero, List.set_cons_succ]
        refine wpAnyH_take (i := 10) (oi := ⟨some 31, _, _, _, _, _⟩) (v := undef) rfl (by kernel_rfl) (by kernel_rfl) (by kernel_rfl) (fun _ _ _ h => h) (Or.inr ⟨by rfl, rfl⟩) hH ?_
        simp only [Act.put, List.setIfInBounds_toArray, List.set_cons_zero, List.set_cons_succ]
        refine wpAnyH_take (i := 11) (oi := ⟨some 32, _, _, _, _, _⟩) (v := .bool true) rfl (by kernel_rfl) (by kernel_rfl) (by kernel_rfl) (fun _ _ _ h => h) (Or.inl ⟨by rfl, fun w hSw => by go_simp⟩) hH ?_
        simp only [Act.put, List.setIfInBounds_toArray, List.set_cons_zero, List.set_cons_succ]
        refine wpAnyH_done (by kernel_rfl) ?_ _
        have R4 := hH.z.set4 (.int .u64 0) (.int .i64 0) (.int .i64 0) (.int .u64 0)
        have HF : Hid _ := grown_new hH.gr (grown_set4 _ w.heap.size (.int .u64 0) (.int .i64 0) (.int .i64 0) (.int .u64 0)) (Nat.le_refl _)
        obtain ⟨z0, z1, z2, z3⟩ := bx4 hH.z
        obtain ⟨r0, r1, r2, r3⟩ := bx4 hH.r
        obtain ⟨d0, d1, d2, d3⟩ := bx4 R4
        have f0 := hH.z.f 0
        have f1 := hH.z.f 1
        have f2 := hH.z.f 2
        have f3 := hH.z.f 3
        unfold set4 at d0 d1 d2 d3
        clear R4 hH cvB
        go_wp2
        refine bodyPost_ret (by simp [results, Try.results14, go_sem, d0, d1, d2, d3]; try rfl) rfl ?_
        exact ⟨rfl, HF.out⟩
      | true =>
        have hse := HSE.out rfl
        simp only [true_implies] at h2
        have HBy : Hid (Byt (rby ⟨q, s, l, u⟩)) := HBB.out rfl
        clear HBB
        have hcp : (32 : Int) ≤ (cap : Int) := by omega
        by_cases heq : rby ⟨q, s, l, u⟩ = bs.take 32
        · obtain ⟨⟨rfl, rfl, rfl, rfl⟩, rfl⟩ : (q = p1 ∧ s = p2 ∧ l = p3 ∧ u = p4) ∧ pe = 0 := by have := HRES.out; rw [if_pos ⟨rfl, heq⟩] at this; simp at this; obtain ⟨⟨h1, h2, h3, h4⟩, h5⟩ := this; exact ⟨⟨h1.symm, h2.symm, h3.symm, h4.symm⟩, h5⟩
          rw [decide_eq_true heq] at hse
          clear HRES HSE cb0 heq
          go_wp2_with fail
          refine wp_region_held_drew (S := fun w' => Two8 w w' w.heap.size [.int .u64 q, .int .i64 s, .int .i64 l, .int .u64 u]) (by kernel_rfl) HT0.out.drew (fun hH => ?_)
          refine wpAnyH_take (i := 0) (oi := ⟨some 21, _, _, _, _, _⟩) (v := .agg #[.int .u64 q, .int .i64 s, .int .i64 l, .int .u64 u]) rfl (by kernel_rfl) (by kernel_rfl) (by kernel_rfl) (fun _ _ _ h => h) (Or.inl ⟨by rfl, fun w hSw => by obtain ⟨c0, c1, c2, c3⟩ := bx4 hSw.r; go_simp⟩) hH ?_
          simp only [Act.put, List.setIfInBounds_toArray, List.set_cons_zero, List.set_cons_succ]
          refine wpAnyH_ready (rs := [1]) (by kernel_rfl) (by simp) ?_
          refine AllReadyH.cons rfl (fun K hK => ?_) AllReadyH.nil
          go_simp
          go_wp2_with (go_at_call 10; refine (h1 _).mono ?_; rintro e wx ⟨rfl, hgx⟩)
          replace hH := hH.keep hgx
          refine hK.out _ _ hH (fun _ => ?_)
          clear hK K hgx
          refine wpAnyH_take (i := 2) (oi := ⟨some 23, _, _, _, _, _⟩) (v := .bool false) rfl (by kernel_rfl) (by kernel_rfl) (by kernel_rfl) (fun _ _ _ h => h) (Or.inl ⟨by rfl, fun w hSw => by go_simp⟩) hH ?_
          simp only [Act.put, List.setIfInBounds_toArray, List.set_cons_zero, List.set_cons_succ]
          refine wpAnyH_take (i := 3) (oi := ⟨some 24, _, _, _, _, _⟩) (v := .bool false) rfl (by kernel_rfl) (by kernel_rfl) (by kernel_rfl) (fun _ _ _ h => h) (Or.inl ⟨by rfl, fun w hSw => by go_simp⟩) hH ?_
          simp only [Act.put, List.setIfInBounds_toArray, List.set_cons_zero, List.set_cons_succ]
          refine wpAnyH_take (i := 4) (oi := ⟨some 25, _, _, _, _, _⟩) (v := .agg #[.int .u64 q, .int .i64 s, .int .i64 l, .int .u64 u]) rfl (by kernel_rfl) (by kernel_rfl) (by kernel_rfl) (fun _ _ _ h => h) (Or.inl ⟨by rfl, fun w hSw => by obtain ⟨c0, c1, c2, c3⟩ := bx4 hSw.r; go_simp⟩) hH ?_
          simp only [Act.put, List.setIfInBounds_toArray, List.set_cons_zero, List.set_cons_succ]
          refine wpAnyH_take (i := 7) (oi := ⟨some 28, _, _, _, _, _⟩) (v := .slice (some ⟨b, off, none⟩) len cap) rfl (by kernel_rfl) (by kernel_rfl) (by kernel_rfl) (fun _ _ _ h => h) (Or.inl ⟨by rfl, fun w hSw => by go_simp⟩) hH ?_
          simp only [Act.put, List.setIfInBounds_toArray, List.set_cons_zero, List.set_cons_succ]
          refine wpAnyH_take (i := 8) (oi := ⟨some 29, _, _, _, _, _⟩) (v := .slice (some ⟨b, off, none⟩) 32 cap) rfl (by kernel_rfl) (by kernel_rfl) (by kernel_rfl) (fun _ _ _ h => h) (Or.inl ⟨by rfl, fun w hSw => by go_simp⟩) hH ?_
          simp only [Act.put, List.setIfInBounds_toArray, List.set_cons_zero, List.set_cons_succ]
          refine wpAnyH_take (i := 9) (oi := ⟨some 30, _, _, _, _, _⟩) (v := .string sb) rfl (by kernel_rfl) (by kernel_rfl) (by kernel_rfl) (fun _ _ _ h => h) (Or.inl ⟨by rfl, fun w hSw => by have cq := cvB w hSw; go_simp⟩) hH ?_
          simp only [Act.put, List.setIfInBounds_toArray, List.set_cons_zero, List.set_cons_succ]
          refine wpAnyH_ready (rs := [5]) (by kernel_rfl) (by simp) ?_
          refine AllReadyH.cons rfl (fun K hK => ?_) AllReadyH.nil
          go_simp
          go_wp2_with (go_at_call 12; refine (h2 _).mono ?_; rintro e wx ⟨v5, rfl, o5, hgx⟩)
          obtain ⟨a5, c5, rfl, R5, _, _, _⟩ := own_bytes o5 HBy.out (by unfold maxLen; omega)
          have cx := conv_row (P := Try.prog) R5 c5 25 9 Try.underlying25 Try.underlying5 Try.underlying9
          generalize strOfNums (rby ⟨q, s, l, u⟩) = sx at *
          replace hH := hH.keep hgx
          refine hK.out _ _ hH (fun _ => ?_)
          clear hK K hgx o5 R5
          refine wpAnyH_ready (rs := [6]) (by kernel_rfl) (by simp) ?_
          refine AllReadyH.cons rfl (fun K hK => ?_) AllReadyH.nil
          go_simp
          refine hK.out _ _ hH (fun _ => ?_)
          clear hK K cx
          refine wpAnyH_take (i := 10) (oi := ⟨some 31, _, _, _, _, _⟩) (v := .bool false) rfl (by kernel_rfl) (by kernel_rfl) (by kernel_rfl) (fun _ _ _ h => h) (Or.inl ⟨by rfl, fun w hSw => by go_simp⟩) hH ?_
          simp only [Act.put, List.setIfInBounds_toArray, List.set_cons_zero, List.set_cons_succ]
          refine wpAnyH_take (i := 11) (oi := ⟨some 32, _, _, _, _, _⟩) (v := .bool false) rfl (by kernel_rfl) (by kernel_rfl) (by kernel_rfl) (fun _ _ _ h => h) (Or.inl ⟨by rfl, fun w hSw => by go_simp⟩) hH ?_
          simp only [Act.put, List.setIfInBounds_toArray, List.set_cons_zero, List.set_cons_succ]
          refine wpAnyH_done (by kernel_rfl) ?_ _
          have R4 := hH.z.set4 (.int .u64 q) (.int .i64 s) (.int .i64 l) (.int .u64 u)
          have HF : Hid _ := grown_new hH.gr (grown_set4 _ w.heap.size (.int .u64 q) (.int .i64 s) (.int .i64 l) (.int .u64 u)) (Nat.le_refl _)
          obtain ⟨z0, z1, z2, z3⟩ := bx4 hH.z
          obtain ⟨r0, r1, r2, r3⟩ := bx4 hH.r
          obtain ⟨d0, d1, d2, d3⟩ := bx4 R4
          have f0 := hH.z.f 0
          have f1 := hH.z.f 1
          have f2 := hH.z.f 2
          have f3 := hH.z.f 3
          unfold set4 at d0 d1 d2 d3
          clear R4 hH cvB
          go_wp2
          refine bodyPost_ret (by simp [results, Try.results14, go_sem, d0, d1, d2, d3]; try rfl) rfl ?_
          exact ⟨rfl, HF.out⟩
        · obtain ⟨⟨rfl, rfl, rfl, rfl⟩, rfl⟩ : (p1 = 0 ∧ p2 = 0 ∧ p3 = 0 ∧ p4 = 0) ∧ pe = 6 := by have := HRES.out; rw [if_neg (by simp [heq])] at this; simp [rc0] at this; omega
          rw [decide_eq_false heq] at hse
          clear HRES HSE cb0 heq
          go_wp2_with fail
          refine wp_region_held_drew (S := fun w' => Two8 w w' w.heap.size [.int .u64 q, .int .i64 s, .int .i64 l, .int .u64 u]) (by kernel_rfl) HT0.out.drew (fun hH => ?_)
          refine wpAnyH_take (i := 0) (oi := ⟨some 21, _, _, _, _, _⟩) (v := .agg #[.int .u64 q, .int .i64 s, .int .i64 l, .int .u64 u]) rfl (by kernel_rfl) (by kernel_rfl) (by kernel_rfl) (fun _ _ _ h => h) (Or.inl ⟨by rfl, fun w hSw => by obtain ⟨c0, c1, c2, c3⟩ := bx4 hSw.r; go_simp⟩) hH ?_
          simp only [Act.put, List.setIfInBounds_toArray, List.set_cons_zero, List.set_cons_succ]
          refine wpAnyH_ready (rs := [1]) (by kernel_rfl) (by simp) ?_
          refine AllReadyH.cons rfl (fun K hK => ?_) AllReadyH.nil
          go_simp
          go_wp2_with (go_at_call 10; refine (h1 _).mono ?_; rintro e wx ⟨rfl, hgx⟩)
          replace hH := hH.keep hgx
          refine hK.out _ _ hH (fun _ => ?_)
          clear hK K hgx
          refine wpAnyH_take (i := 2) (oi := ⟨some 23, _, _, _, _, _⟩) (v := .bool false) rfl (by kernel_rfl) (by kernel_rfl) (by kernel_rfl) (fun _ _ _ h => h) (Or.inl ⟨by rfl, fun w hSw => by go_simp⟩) hH ?_
          simp only [Act.put, List.setIfInBounds_toArray, List.set_cons_zero, List.set_cons_succ]
          refine wpAnyH_take (i := 3) (oi := ⟨some 24, _, _, _, _, _⟩) (v := .bool false) rfl (by kernel_rfl) (by kernel_rfl) (by kernel_rfl) (fun _ _ _ h => h) (Or.inl ⟨by rfl, fun w hSw => by go_simp⟩) hH ?_
          simp only [Act.put, List.setIfInBounds_toArray, List.set_cons_zero, List.set_cons_succ]
          refine wpAnyH_take (i := 4) (oi := ⟨some 25, _, _, _, _, _⟩) (v := .agg #[.int .u64 q, .int .i64 s, .int .i64 l, .int .u64 u]) rfl (by kernel_rfl) (by kernel_rfl) (by kernel_rfl) (fun _ _ _ h => h) (Or.inl ⟨by rfl, fun w hSw => by obtain ⟨c0, c1, c2, c3⟩ := bx4 hSw.r; go_simp⟩) hH ?_
          simp only [Act.put, List.setIfInBounds_toArray, List.set_cons_zero, List.set_cons_succ]
          refine wpAnyH_take (i := 7) (oi := ⟨some 28, _, _, _, _, _⟩) (v := .slice (some ⟨b, off, none⟩) len cap) rfl (by kernel_rfl) (by kernel_rfl) (by kernel_rfl) (fun _ _ _ h => h) (Or.inl ⟨by rfl, fun w hSw => by go_simp⟩) hH ?_
          simp only [Act.put, List.setIfInBounds_toArray, List.set_cons_zero, List.set_cons_succ]
          refine wpAnyH_take (i := 8) (oi := ⟨some 29, _, _, _, _, _⟩) (v := .slice (some ⟨b, off, none⟩) 32 cap) rfl (by kernel_rfl) (by kernel_rfl) (by kernel_rfl) (fun _ _ _ h => h) (Or.inl ⟨by rfl, fun w hSw => by go_simp⟩) hH ?_
          simp only [Act.put, List.setIfInBounds_toArray, List.set_cons_zero, List.set_cons_succ]
          refine wpAnyH_take (i := 9) (oi := ⟨some 30, _, _, _, _, _⟩) (v := .string sb) rfl (by kernel_rfl) (by kernel_rfl) (by kernel_rfl) (fun _ _ _ h => h) (Or.inl ⟨by rfl, fun w hSw => by have cq := cvB w hSw; go_simp⟩) hH ?_
          simp only [Act.put, List.setIfInBounds_toArray, List.set_cons_zero, List.set_cons_succ]
          refine wpAnyH_ready (rs := [5]) (by kernel_rfl) (by simp) ?_
          refine AllReadyH.cons rfl (fun K hK => ?_) AllReadyH.nil
          go_simp
          go_wp2_with (go_at_call 12; refine (h2 _).mono ?_; rintro e wx ⟨v5, rfl, o5, hgx⟩)
          obtain ⟨a5, c5, rfl, R5, _, _, _⟩ := own_bytes o5 HBy.out (by unfold maxLen; omega)
          have cx := conv_row (P := Try.prog) R5 c5 25 9 Try.underlying25 Try.underlying5 Try.underlying9
          generalize strOfNums (rby ⟨q, s, l, u⟩) = sx at *
          replace hH := hH.keep hgx
          refine hK.out _ _ hH (fun _ => ?_)
          clear hK K hgx o5 R5
          refine wpAnyH_ready (rs := [6]) (by kernel_rfl) (by simp) ?_
          refine AllReadyH.cons rfl (fun K hK => ?_) AllReadyH.nil
          go_simp
          refine hK.out _ _ hH (fun _ => ?_)
          clear hK K cx
          refine wpAnyH_take (i := 10) (oi := ⟨some 31, _, _, _, _, _⟩) (v := .bool true) rfl (by kernel_rfl) (by kernel_rfl) (by kernel_rfl) (fun _ _ _ h => h) (Or.inl ⟨by rfl, fun w hSw => by go_simp⟩) hH ?_
          simp only [Act.put, List.setIfInBounds_toArray, List.set_cons_zero, List.set_cons_succ]
          refine wpAnyH_take (i := 11) (oi := ⟨some 32, _, _, _, _, _⟩) (v := .bool true) rfl (by kernel_rfl) (by kernel_rfl) (by kernel_rfl) (fun _ _ _ h => h) (Or.inl ⟨by rfl, fun w hSw => by go_simp⟩) hH ?_
          simp only [Act.put, List.setIfInBounds_toArray, List.set_cons_zero, List.set_cons_succ]
          refine wpAnyH_done (by kernel_rfl) ?_ _
          have R4 := hH.z.set4 (.int .u64 0) (.int .i64 0) (.int .i64 0) (.int .u64 0)
          have HF : Hid _ := grown_new hH.gr (grown_set4 _ w.heap.size (.int .u64 0) (.int .i64 0) (.int .i64 0) (.int .u64 0)) (Nat.le_refl _)
          obtain ⟨z0, z1, z2, z3⟩ := bx4 hH.z
          obtain ⟨r0, r1, r2, r3⟩ := bx4 hH.r
          obtain ⟨d0, d1, d2, d3⟩ := bx4 R4
          have f0 := hH.z.f 0
          have f1 := hH.z.f 1
          have f2 := hH.z.f 2
          have f3 := hH.z.f 3
          unfold set4 at d0 d1 d2 d3
          clear R4 hH cvB
          go_wp2
          refine bodyPost_ret (by simp [results, Try.results14, go_sem, d0, d1, d2, d3]; try rfl) rfl ?_
          exact ⟨rfl, HF.out⟩
end Go.Proofs.Ytlbilpjlfelgdaa
