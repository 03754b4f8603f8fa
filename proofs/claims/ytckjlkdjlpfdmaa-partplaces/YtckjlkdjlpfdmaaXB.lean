/- The program's part: what each call answers. -/
import Derived.Test.YtckjlkdjlpfdmaaXA
import Derived.BigRegion
import Derived.Deep.RegionHeld3
namespace Go.Proofs.Ytckjlkdjlpfdmaa
open Go.RowKit
set_option linter.unusedSimpArgs false
set_option linter.unusedVariables false

def pchk (P : Pl) : Int := if rgt P = true then 0 else 1
def psz (P : Pl) : Int := if rgt P = true then sze P else 0
def pbs (P : Pl) (slot : Int) : Int × Int := if rgt P = false ∨ slot < 0 ∨ 1 < slot then (0, 1) else ((if slot = 0 then P.y0 else P.y1) * P.p * P.b, 0)
def psc (P : Pl) (slot i : Int) : Int × Int := if rgt P = false ∨ slot < 0 ∨ 1 < slot then (0, 1) else if i < 0 ∨ P.n ≤ i then (0, 9) else ((if slot = 0 then P.y0 else P.y1) + i, 0)
def oth (slot : Int) : Int := if slot = 0 then 1 else 0
/-- a guard: the next operation stores a plan -/
theorem plan_here {P : Program} {w : World} {ops : Array Oper} {rest : List Oper} {a : Act} {Q : Exit → Act → World → Prop} {dst : Option Nat} {x y : Operand} {type : TypeId} {pos : String} {after : Array Edge} {guard : Option (Nat × Bool)}
    (h : wpList P ops Q (⟨dst, .store 26 x y, type, pos, after, guard⟩ :: rest) a w) : wpList P ops Q (⟨dst, .store 26 x y, type, pos, after, guard⟩ :: rest) a w := h
theorem setRow_grown (w : World) (g : Nat) (cs : Array Value) : w.grownBy (w.setRow g cs) (some g) := ⟨rfl, rfl, rfl, by simp [World.setRow], fun k _ hk => setRow_other w g k _ (fun e => hk (by rw [e]))⟩
/-- a variable of several cells, stored whole -/
theorem wpList_store_bx {P : Program} {ops : Array Oper} {rest : List Oper} {o : Oper} {a : Act} {w : World} {Q : Exit → Act → World → Prop} (hgd : o.guard = none) (ty : TypeId) (x y : Operand) (ho : o.op = .store ty x y)
    (g : Nat) (cs : List Value) (hx : a.eval x = .pointer (some ⟨g, 0, none⟩)) (hy : a.eval y = .agg cs.toArray) {T : TypeId} {old : List Value} (hb : Bx w g T old) (hi : (P.info? ty).map (·.size) = some cs.length)
    (hl : old.length = cs.length) (h1 : cs.all (·.oneCell') = true)
    (h : ∀ W', Bx W' g T cs → w.grownBy W' (some g) → wpList P ops Q rest (a.put o.dst undef) W') : wpList P ops Q (o :: rest) a w :=
  wpList_store_row hgd ty x y ho g cs.toArray hx hy T old.toArray hb.blk (by rw [List.size_toArray]; exact hi) (by simp [hl]) (by rw [List.all_toArray]; exact h1) (h _ ⟨setRow_heap _ _ _ _ _ _ hb.blk⟩ (setRow_grown w g cs.toArray))
theorem plan_size : (Try.prog.info? 26).map (·.size) = some 8 := by kernel_rfl
theorem bc8 {W : World} {g : Nat} {T : TypeId} {a b c d e f i j : Value} (h : Bx W g T [a, b, c, d, e, f, i, j]) : W.cell? ⟨g, 0, none⟩ = some a ∧ W.cell? ⟨g, 1, none⟩ = some b ∧ W.cell? ⟨g, 2, none⟩ = some c ∧ W.cell? ⟨g, 3, none⟩ = some d ∧ W.cell? ⟨g, 4, none⟩ = some e ∧ W.cell? ⟨g, 5, none⟩ = some f ∧ W.cell? ⟨g, 6, none⟩ = some i ∧ W.cell? ⟨g, 7, none⟩ = some j := ⟨h.c 0, h.c 1, h.c 2, h.c 3, h.c 4, h.c 5, h.c 6, h.c 7⟩
theorem bc3 {W : World} {g : Nat} {T : TypeId} {x y z : Value} (h : Bx W g T [x, y, z]) : W.cell? ⟨g, 0, none⟩ = some x ∧ W.cell? ⟨g, 1, none⟩ = some y ∧ W.cell? ⟨g, 2, none⟩ = some z := ⟨h.c 0, h.c 1, h.c 2⟩
theorem bc2 {W : World} {g : Nat} {T : TypeId} {x y : Value} (h : Bx W g T [x, y]) : W.cell? ⟨g, 0, none⟩ = some x ∧ W.cell? ⟨g, 1, none⟩ = some y := ⟨h.c 0, h.c 1⟩
/-- Make's variables: the geometry, the answer, the boot records -/
structure MkH (s p b : Int) (w w' : World) (g gz gb : Nat) : Prop where
  gr : w.grownBy w' none
  ge : Bx w' g 23 [.int .i64 s, .int .i64 p, .int .i64 b]
  z : Bx w' gz 26 [.int .i64 0, .int .i64 0, .int .i64 0, .int .i64 0, .int .i64 0, .int .i64 0, .int .i64 0, .int .i64 0]
  two : Bx w' gb 24 [.int .i64 0, .int .i64 1]
theorem MkH.kept {s p b : Int} {w w' w2 : World} {g gz gb : Nat} (h : MkH s p b w w' g gz gb) (k : w'.grownBy w2 none) : MkH s p b w w2 g gz gb := ⟨grown_trans h.gr k, h.ge.kept k, h.z.kept k, h.two.kept k⟩
theorem hidM {s p b : Int} {w w' w2 : World} {g gz gb : Nat} (h : Hid (MkH s p b w w' g gz gb)) (k : w'.grownBy w2 none) : Hid (MkH s p b w w2 g gz gb) := h.out.kept k
theorem pother_any (slot : Int) (w : World) (hs : bnd64 slot) : Calls Try.prog 18 #[.int .i64 slot] w fun e w' => e = .returned (.int .i64 (oth slot)) ∧ w.grownBy w' none := by
  unfold oth
  by_cases h : slot = 0
  · subst h
    go_enter Try.func18, Try.ntmps18
    go_wp2
    go_ret
    exact ⟨rfl, ⟨rfl, rfl, rfl, Nat.le_refl _, fun _ _ _ => rfl⟩⟩
  · rw [if_neg h]
    have h' : (slot == 0) = false := by simpa using h
    go_enter Try.func18, Try.ntmps18
    go_wp2
    go_ret
    exact ⟨rfl, ⟨rfl, rfl, rfl, Nat.le_refl _, fun _ _ _ => rfl⟩⟩
set_option maxHeartbeats 2000000 in
theorem pmake_any (s p b : Int) (w : World) (hs : bnd64 s) (hp : bnd64 p) (hb : bnd64 b) : Calls Try.prog 6 #[.agg #[.int .i64 s, .int .i64 p, .int .i64 b]] w fun e w' => e = .returned (.tuple #[(mk s p b).1.val, .int .i64 (mk s p b).2]) ∧ w.grownBy w' none := by
  have hc := fun W => fcheck_any s p b W
  have A0 := (Bx.new w 23 [.int .i64 s, .int .i64 p, .int .i64 b]).kept (World.grownBy_alloc _ (.cells #[.int .i64 0, .int .i64 0, .int .i64 0, .int .i64 0, .int .i64 0, .int .i64 0, .int .i64 0, .int .i64 0] 26) none)
  have G0 := grown_trans (World.grownBy_alloc w (.cells #[.int .i64 s, .int .i64 p, .int .i64 b] 23) none) (World.grownBy_alloc _ (.cells #[.int .i64 0, .int .i64 0, .int .i64 0, .int .i64 0, .int .i64 0, .int .i64 0, .int .i64 0, .int .i64 0] 26) none)
  have Z0 := Bx.new (w.alloc (.cells #[.int .i64 s, .int .i64 p, .int .i64 b] 23)) 26 [.int .i64 0, .int .i64 0, .int .i64 0, .int .i64 0, .int .i64 0, .int .i64 0, .int .i64 0, .int .i64 0]
  simp only [World.size_alloc] at Z0
  have HA : Hid _ := And.intro A0 (And.intro G0 Z0)
  clear A0 G0 Z0
  by_cases h0 : chk s p b = 0
  · have hg := chk_zero h0
    rw [h0] at hc
    by_cases h1 : s < 4 ∨ b < 64
    · have e : mk s p b = (pl0, 1) := by unfold mk; rw [if_neg (by simp [h0]), if_pos h1]
      rw [e]
      have hgs : 1 ≤ s ∧ s ≤ 4096 := by omega
      have hgb : 16 ≤ b ∧ b ≤ 65536 := by omega
      clear hg h0 e
      go_enter Try.func6, Try.ntmps6
      go_wp2_with fail
      refine (hc _).mono ?_
      rintro e w1 ⟨rfl, g1⟩
      have A1 := HA.out.1.kept g1
      have HZ : Hid _ := HA.out.2.2.kept g1
      have HG : Hid _ := grown_trans HA.out.2.1 g1
      obtain ⟨c0, -, c2⟩ := bc3 A1
      clear g1 A1 HA hc
      generalize hgw : w.heap.size = g at *
      have HH : Hid (w.heap.size ≤ g + 1) := by show _ ≤ _; omega
      clear hgw
      simp only
      rcases h1 with h1 | h1
      all_goals
        go_wp2_with ((with_reducible refine plan_here ?_); refine wpList_store_bx rfl 26 _ _ rfl (g + 1) [.int .i64 0, .int .i64 0, .int .i64 0, .int .i64 0, .int .i64 0, .int .i64 0, .int .i64 0, .int .i64 0] rfl rfl HZ.out plan_size rfl rfl ?_; intro W' hb hg; obtain ⟨d0, d1, d2, d3, d4, d5, d6, d7⟩ := bc8 hb; have HF : Hid _ := grown_new (Hid.out HG) hg (Hid.out HH); clear hb hg HZ)
        all_goals
          refine bodyPost_ret (by simp [results, Try.results6, go_sem, d0, d1, d2, d3, d4, d5, d6, d7]; try rfl) rfl ?_
          exact ⟨rfl, HF.out⟩
    · have e : mk s p b = (⟨s, p, b, 0, 1, 2, 2 + slots s p b, slots s p b⟩, 0) := by unfold mk; rw [if_neg (by simp [h0]), if_neg h1]
      rw [e]
      have hpb : 1 ≤ p * b ∧ p * b ≤ 67108864 := by
        have e1 : p * b ≤ 1024 * 65536 := Int.mul_le_mul (by omega) (by omega) (by omega) (by omega)
        have e0 : 1 * 1 ≤ p * b := Int.mul_le_mul (by omega) (by omega) (by omega) (by omega)
        omega
      have hsb := fun W => psb_any s p b W (by omega) (by omega)
      have hsh := fun W => pshare_any (s - 2) (p * b) W (by omega) hpb
      have hsl : slots s p b = max 1 (min ((s - 2) / 2) (8388608 / (p * b))) := rfl
      have hN : 1 ≤ slots s p b ∧ slots s p b ≤ 4096 := by
        rw [hsl]
        have : 0 ≤ (s - 2) / 2 ∧ (s - 2) / 2 ≤ 4096 := by omega
        generalize (s - 2) / 2 = X at *
        generalize 8388608 / (p * b) = Y at *
        omega
      rw [← hsl] at hsh
      clear e hsl
      generalize slots s p b = N at *
      generalize p * b = Z at *
      have d1 : decide (s < 4) = false := decide_eq_false (by omega)
      have d2 : decide (b < 64) = false := decide_eq_false (by omega)
      have hg4 : 4 ≤ s ∧ s ≤ 4096 := by omega
      have hgb : 64 ≤ b ∧ b ≤ 65536 := by omega
      clear hg h1 h0
      go_enter Try.func6, Try.ntmps6
      go_wp2_with fail
      refine (hc _).mono ?_
      rintro e w1 ⟨rfl, g1⟩
      obtain ⟨c0, c1, c2⟩ := bc3 (HA.out.1.kept g1)
      have a2 := World.grownBy_alloc w1 (.cells #[.int .i64 0, .int .i64 1] 24) none
      have M0 : Hid (MkH s p b w (w1.alloc (.cells #[.int .i64 0, .int .i64 1] 24)) w.heap.size (w.heap.size + 1) w1.heap.size) := ⟨grown_trans (grown_trans HA.out.2.1 g1) a2, (HA.out.1.kept g1).kept a2, (HA.out.2.2.kept g1).kept a2, Bx.new w1 24 [.int .i64 0, .int .i64 1]⟩
      clear g1 HA hc a2
      generalize hgw : w.heap.size = g at *
      have HH : Hid (w.heap.size ≤ g + 1) := by show _ ≤ _; omega
      clear hgw
      simp only
      go_wp2_with fail
      clear c0 c1 c2
      obtain ⟨c0, c1, c2⟩ := bc3 M0.out.ge
      generalize w1.alloc (.cells #[.int .i64 0, .int .i64 1] 24) = w2 at *
      generalize w1.heap.size = gb at *
      have hw : IntKind.i64.wrap (s - 2) = s - 2 := by rw [IntKind.wrap_i64]; omega
      clear w1
      have M1 := hidM M0 (drewG w2)
      clear M0
      go_region_held3 (fun w' => w'.cell? ⟨g, 0, none⟩ = some (.int .i64 s) ∧ w'.cell? ⟨g, 1, none⟩ = some (.int .i64 p) ∧ w'.cell? ⟨g, 2, none⟩ = some (.int .i64 b) ∧ Hid (MkH s p b w w' g (g + 1) gb)) (first | (refine ⟨?_, ?_, ?_, ?_⟩ <;> assumption) | (refine ⟨?_, ?_, ?_, ?_⟩ <;> first | assumption | go_keep)) (first | (go_at_call 21; refine (hsb _).mono ?_; rintro e w' ⟨rfl, hg'⟩; have q8 := hidM (by assumption) hg'; have q0 := (bc3 q8.out.ge).1; have q1 := (bc3 q8.out.ge).2.1; have q2 := (bc3 q8.out.ge).2.2; clear hg') | (go_at_call 20; refine (hsh _).mono ?_; rintro e w' ⟨rfl, hg'⟩; have q8 := hidM (by assumption) hg'; have q0 := (bc3 q8.out.ge).1; have q1 := (bc3 q8.out.ge).2.1; have q2 := (bc3 q8.out.ge).2.2; clear hg'))
      all_goals
        have M1 := q8
        clear q8 q0 q1 q2 c0 c1 c2
        try rename_i M9
        try clear M9
        have hw2 : IntKind.i64.wrap (2 + N) = 2 + N := by rw [IntKind.wrap_i64]; omega
        have HZ : Hid _ := M1.out.z
        have HG : Hid _ := M1.out.gr
        obtain ⟨c0, c1, c2⟩ := bc3 M1.out.ge
        obtain ⟨t0, t1⟩ := bc2 M1.out.two
        clear M1
        go_wp2_with ((with_reducible refine plan_here ?_); refine wpList_store_bx rfl 26 _ _ rfl (g + 1) [.int .i64 s, .int .i64 p, .int .i64 b, .int .i64 0, .int .i64 1, .int .i64 2, .int .i64 (2 + N), .int .i64 N] rfl rfl HZ.out plan_size rfl rfl ?_; intro W' hb hg; obtain ⟨d0, d1, d2, d3, d4, d5, d6, d7⟩ := bc8 hb; have HF : Hid _ := grown_new (Hid.out HG) hg (Hid.out HH); clear hb hg HZ)
        refine bodyPost_ret (by simp [results, Try.results6, go_sem, d0, d1, d2, d3, d4, d5, d6, d7]; try rfl) rfl ?_
        exact ⟨rfl, HF.out⟩
  · have e : mk s p b = (pl0, chk s p b) := by unfold mk; rw [if_pos h0]
    rw [e]
    generalize chk s p b = E at *
    have h0' : (E == 0) = false := by simp [h0]
    go_enter Try.func6, Try.ntmps6
    go_wp2_with fail
    refine (hc _).mono ?_
    rintro e w1 ⟨rfl, g1⟩
    have HZ : Hid _ := HA.out.2.2.kept g1
    have HG : Hid _ := grown_trans HA.out.2.1 g1
    clear g1 HA hc
    generalize hgw : w.heap.size = g at *
    have HH : Hid (w.heap.size ≤ g + 1) := by show _ ≤ _; omega
    clear hgw
    simp only
    go_wp2_with ((with_reducible refine plan_here ?_); refine wpList_store_bx rfl 26 _ _ rfl (g + 1) [.int .i64 0, .int .i64 0, .int .i64 0, .int .i64 0, .int .i64 0, .int .i64 0, .int .i64 0, .int .i64 0] rfl rfl HZ.out plan_size rfl rfl ?_; intro W' hb hg; obtain ⟨d0, d1, d2, d3, d4, d5, d6, d7⟩ := bc8 hb; have HF : Hid _ := grown_new (Hid.out HG) hg (Hid.out HH); clear hb hg HZ)
    refine bodyPost_ret (by simp [results, Try.results6, go_sem, d0, d1, d2, d3, d4, d5, d6, d7]; try rfl) rfl ?_
    exact ⟨rfl, HF.out⟩
theorem slots_in {s p b : Int} (h : 4 ≤ s ∧ s ≤ 4096) : 1 ≤ slots s p b ∧ 2 + 2 * slots s p b ≤ s := by
  unfold slots
  rw [Int.max_def, Int.min_def]
  split <;> split <;> omega
theorem mk_ok (s p b : Int) : (mk s p b).1.ok ∧ bnd64 (mk s p b).2 ∧ (rgt (mk s p b).1 = true ↔ (mk s p b).2 = 0) := by
  have hr : (mk s p b).2 = 0 → rgt (mk s p b).1 = true := by
    intro h
    obtain ⟨h1, h2, h3⟩ := mk_geo h
    rw [rgt_iff, h1, h2, h3]
    exact Prod.ext rfl h
  have h0 : rgt pl0 = false := by kernel_rfl
  unfold mk at hr ⊢
  split
  · rename_i k
    refine ⟨by unfold pl0 Pl.ok bnd64; simp, ?_, ?_⟩
    · show bnd64 (chk s p b)
      unfold chk bnd64; split
      · decide
      · split <;> decide
    · show rgt pl0 = true ↔ chk s p b = 0
      rw [h0]
      simpa using k
  · rename_i k0
    rw [if_neg k0] at hr
    split
    · refine ⟨by unfold pl0 Pl.ok bnd64; simp, by unfold bnd64; simp, ?_⟩
      show rgt pl0 = true ↔ _
      rw [h0]; simp
    · rename_i k1
      rw [if_neg k1] at hr
      have hg := chk_zero (by simpa using k0)
      have hn := slots_in (s := s) (p := p) (b := b) (by omega)
      generalize slots s p b = N at *
      refine ⟨?_, by unfold bnd64; simp, fun _ => rfl, fun h => hr h⟩
      unfold Pl.ok bnd64
      simp only
      omega
set_option maxHeartbeats 2000000 in
theorem pcheck_any (P : Pl) (w : World) (h : P.ok) : Calls Try.prog 10 #[P.val] w fun e w' => e = .returned (.int .i64 (pchk P)) ∧ w.grownBy w' none := by
  have hm := fun W => pmake_any P.s P.p P.b W h.1 h.2.1 h.2.2.1
  obtain ⟨m1, m2, -⟩ := mk_ok P.s P.p P.b
  have hn := fun W => plan_ne P (mk P.s P.p P.b).1 W h m1
  have hr : pchk P = if (mk P.s P.p P.b).2 = 0 then (if P.same (mk P.s P.p P.b).1 = true then 0 else 1) else 1 := by
    unfold pchk rgt
    by_cases k : (mk P.s P.p P.b).2 = 0
    · rw [if_pos k]
      by_cases k2 : P.same (mk P.s P.p P.b).1 = true
      · have := Pl.same_iff.1 k2
        rw [if_pos k2, if_pos (by rw [k, ← this, Pl.same_self]; rfl)]
      · rw [if_neg k2, if_neg]
        intro x
        rw [Bool.and_eq_true, Pl.same_iff] at x
        exact k2 (Pl.same_iff.2 x.1.symm)
    · rw [if_neg k, if_neg]
      intro x
      rw [Bool.and_eq_true, decide_eq_true_iff] at x
      exact k x.2
  rw [hr]
  clear hr
  generalize P.same (mk P.s P.p P.b).1 = r at hn ⊢
  generalize mk P.s P.p P.b = M at hm hn m2 ⊢
  obtain ⟨⟨qs, qp, qb, q0, q1, q2, q3, qn⟩, qe⟩ := M
  obtain ⟨s, p, b, x0, x1, y0, y1, n⟩ := P
  have B0 := Bx.new w 26 [.int .i64 s, .int .i64 p, .int .i64 b, .int .i64 x0, .int .i64 x1, .int .i64 y0, .int .i64 y1, .int .i64 n]
  have G0 := World.grownBy_alloc w (.cells #[.int .i64 s, .int .i64 p, .int .i64 b, .int .i64 x0, .int .i64 x1, .int .i64 y0, .int .i64 y1, .int .i64 n] 26) none
  simp only [Pl.val] at *
  have HB : Hid _ := And.intro B0 G0
  clear B0 G0 m1 h
  go_enter Try.func10, Try.ntmps10
  go_wp2_with fail
  refine (hm _).mono ?_
  rintro e w1 ⟨rfl, g1⟩
  have a1 := World.grownBy_alloc w1 (.cells #[.int .i64 qs, .int .i64 qp, .int .i64 qb, .int .i64 q0, .int .i64 q1, .int .i64 q2, .int .i64 q3, .int .i64 qn] 26) none
  have B2 := (HB.out.1.kept g1).kept a1
  have C2 := Bx.new w1 26 [.int .i64 qs, .int .i64 qp, .int .i64 qb, .int .i64 q0, .int .i64 q1, .int .i64 q2, .int .i64 q3, .int .i64 qn]
  have HG : Hid _ := grown_trans (grown_trans HB.out.2 g1) a1
  obtain ⟨c0, c1, c2, c3, c4, c5, c6, c7⟩ := bc8 B2
  clear B2 C2 a1 g1 HB hm
  simp only
  by_cases k : qe = 0
  · subst k
    cases r
    all_goals
      go_wp2
      go_ret
      exact ⟨rfl, HG.out⟩
  · have k' : (qe == 0) = false := by simp [k]
    go_wp2
    go_ret
    exact ⟨rfl, HG.out⟩
end Go.Proofs.Ytckjlkdjlpfdmaa
