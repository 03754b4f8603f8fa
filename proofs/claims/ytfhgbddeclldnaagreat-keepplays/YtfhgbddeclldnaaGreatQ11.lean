/- The document's keep: Write. -/
import Derived.Test.YtfhgbddeclldnaaGreatQ10
namespace Go.Proofs.YtfhgbddeclldnaaGreat
open Go.RowKit
set_option maxRecDepth 100000
set_option linter.unusedSimpArgs false
set_option linter.unusedVariables false

/-- a guard: the next operation stores a flash -/
theorem fl_here {P : Program} {w : World} {ops : Array Oper} {rest : List Oper} {a : Act} {Q : Exit → Act → World → Prop} {dst : Option Nat} {x y : Operand} {type : TypeId} {pos : String} {after : Array Edge} {guard : Option (Nat × Bool)}
    (h : wpList P ops Q (⟨dst, .store 42 x y, type, pos, after, guard⟩ :: rest) a w) : wpList P ops Q (⟨dst, .store 42 x y, type, pos, after, guard⟩ :: rest) a w := h
theorem fl_size : (Tryz.prog.info? 42).map (·.size) = some 10 := by kernel_rfl
def fz : List Value := [.int .i64 0, .int .i64 0, .int .i64 0, .slice none 0 0, .slice none 0 0, .slice none 0 0, .int .i64 0, .bool false, .int .i64 0, .slice none 0 0]
/-- Write's variables: flash, plan, record, answer -/
structure Kw (w W : World) (g : Nat) (cf : List Value) (P : Pa.Pl) (r : Rc) (cz : List Value) : Prop where
  f : Bx W g 42 cf
  p : Bx W (g + 1) 26 P.cells
  r : Bx W (g + 1 + 1) 48 r.cells
  z : Bx W (g + 1 + 1 + 1) 42 cz
  gr : w.grownBy W none
  sz : w.heap.size = g
theorem Kw.kept {w W W' : World} {g : Nat} {cf cz : List Value} {P : Pa.Pl} {r : Rc} (h : Kw w W g cf P r cz) (k : W.grownBy W' none) : Kw w W' g cf P r cz := ⟨h.f.kept k, h.p.kept k, h.r.kept k, h.z.kept k, grown_trans h.gr k, h.sz⟩
theorem Kw.new (w : World) (cf : List Value) (P : Pa.Pl) (r : Rc) (cz : List Value) : Kw w ((((w.alloc (.cells cf.toArray 42)).alloc (.cells P.cells.toArray 26)).alloc (.cells r.cells.toArray 48)).alloc (.cells cz.toArray 42)) w.heap.size cf P r cz := by
  have h1 := Bx.new w 42 cf
  have h2 := Bx.new (w.alloc (.cells cf.toArray 42)) 26 P.cells
  have h3 := Bx.new ((w.alloc (.cells cf.toArray 42)).alloc (.cells P.cells.toArray 26)) 48 r.cells
  have h4 := Bx.new (((w.alloc (.cells cf.toArray 42)).alloc (.cells P.cells.toArray 26)).alloc (.cells r.cells.toArray 48)) 42 cz
  simp only [World.size_alloc] at h2 h3 h4
  have a2 := World.grownBy_alloc (w.alloc (.cells cf.toArray 42)) (.cells P.cells.toArray 26) none
  have a3 := World.grownBy_alloc ((w.alloc (.cells cf.toArray 42)).alloc (.cells P.cells.toArray 26)) (.cells r.cells.toArray 48) none
  have a4 := World.grownBy_alloc (((w.alloc (.cells cf.toArray 42)).alloc (.cells P.cells.toArray 26)).alloc (.cells r.cells.toArray 48)) (.cells cz.toArray 42) none
  exact ⟨((h1.kept a2).kept a3).kept a4, (h2.kept a3).kept a4, h3.kept a4, h4, grown_trans (grown_trans (grown_trans (World.grownBy_alloc _ _ _) a2) a3) a4, rfl⟩
theorem hidKw {w W W' : World} {g : Nat} {cf cz : List Value} {P : Pa.Pl} {r : Rc} (h : Hid (Kw w W g cf P r cz)) (k : W.grownBy W' none) : Hid (Kw w W' g cf P r cz) := h.out.kept k
/-- the answer stored -/
theorem Kw.setZ {w W W' : World} {g : Nat} {cf cz cz' : List Value} {P : Pa.Pl} {r : Rc} (h : Kw w W g cf P r cz) (hb : Bx W' (g + 1 + 1 + 1) 42 cz') (hg : W.grownBy W' (some (g + 1 + 1 + 1))) : Kw w W' g cf P r cz' := ⟨h.f.but hg (by omega), h.p.but hg (by omega), h.r.but hg (by omega), hb, grown_new h.gr hg (by have := h.sz; omega), h.sz⟩
/-- the flash stored -/
theorem Kw.setF {w W W' : World} {g : Nat} {cf cf' cz : List Value} {P : Pa.Pl} {r : Rc} (h : Kw w W g cf P r cz) (hb : Bx W' g 42 cf') (hg : W.grownBy W' (some g)) : Kw w W' g cf' P r cz := ⟨hb, h.p.but hg (by omega), h.r.but hg (by omega), h.z.but hg (by omega), grown_new h.gr hg (by have := h.sz; omega), h.sz⟩
/-- the same, whatever the flash and the answer hold -/
structure Ky (w W : World) (g : Nat) (P : Pa.Pl) (r : Rc) : Prop where
  f : ∃ cf : List Value, cf.length = 10 ∧ Bx W g 42 cf
  p : Bx W (g + 1) 26 P.cells
  r : Bx W (g + 1 + 1) 48 r.cells
  z : ∃ cz : List Value, cz.length = 10 ∧ Bx W (g + 1 + 1 + 1) 42 cz
  gr : w.grownBy W none
  sz : w.heap.size = g
theorem Kw.any {w W : World} {g : Nat} {cf cz : List Value} {P : Pa.Pl} {r : Rc} (h : Kw w W g cf P r cz) (h1 : cf.length = 10) (h2 : cz.length = 10) : Ky w W g P r := ⟨⟨cf, h1, h.f⟩, h.p, h.r, ⟨cz, h2, h.z⟩, h.gr, h.sz⟩
theorem Ky.kept {w W W' : World} {g : Nat} {P : Pa.Pl} {r : Rc} (h : Ky w W g P r) (k : W.grownBy W' none) : Ky w W' g P r := ⟨by obtain ⟨cf, h1, h2⟩ := h.f; exact ⟨cf, h1, h2.kept k⟩, h.p.kept k, h.r.kept k, by obtain ⟨cf, h1, h2⟩ := h.z; exact ⟨cf, h1, h2.kept k⟩, grown_trans h.gr k, h.sz⟩
theorem Ky.lt {w W : World} {g : Nat} {P : Pa.Pl} {r : Rc} (h : Ky w W g P r) : g + 4 ≤ W.heap.size := by
  obtain ⟨cz, -, hz⟩ := h.z
  have := hz.lt
  have := h.sz
  omega
/-- F, and the four variables of a call -/
def own4 (F : Nat → Prop) (w : World) : Nat → Prop := fun x => F x ∨ (w.heap.size ≤ x ∧ x < w.heap.size + 4)
theorem own4_lt {F : Nat → Prop} {w W : World} (hF : ∀ x, F x → x < w.heap.size) (g : w.grownBy W none) (h : w.heap.size + 4 ≤ W.heap.size) : ∀ x, own4 F w x → x < W.heap.size := by
  rintro x (hx | hx)
  · exact Nat.lt_of_lt_of_le (hF x hx) g.size
  · omega
theorem Rep.own {w : World} {v : Value} {m : Fm} {F : Nat → Prop} {k : Nat} (h : Rep w v m F) (hg : m.Good k) : Rep w v m (own4 F w) := h.fresh hg (fun x hx => hx.elim Or.inl (fun y => Or.inr y.1))
theorem Rep.stored {W W' : World} {v : Value} {m : Fm} {F : Nat → Prop} {g : Nat} (h : Rep W v m F) (hg : W.grownBy W' (some g)) (hF : F g) : Rep W' v m F := h.but (fun k hk hn => hg.block k hk (by intro e; injection e with e; subst e; exact hn hF))
theorem Rep.back {W : World} {v : Value} {m : Fm} {F : Nat → Prop} {w : World} (h : Rep W v m (own4 F w)) : Rep W v m F := h.less (fun k hk => Or.inl hk)
theorem ifw {c : Prop} [Decidable c] {a b : Prop} (hc : c) (h : a) : if c then a else b := by rw [if_pos hc]; exact h
theorem op_store_bx {P : Program} {o : Oper} {a : Act} {w : World} {K : Act → World → Prop} {Q : Exit → Act → World → Prop} (ty : TypeId) (x y : Operand) (ho : o.op = .store ty x y)
    (g : Nat) (cs : List Value) (hx : a.eval x = .pointer (some ⟨g, 0, none⟩)) (hy : a.eval y = .agg cs.toArray) {T : TypeId} {old : List Value} (hb : Bx w g T old) (hi : (P.info? ty).map (·.size) = some cs.length)
    (hl : old.length = cs.length) (h1 : cs.all (·.oneCell') = true)
    (h : ∀ W', Bx W' g T cs → w.grownBy W' (some g) → K (a.put o.dst undef) W') : o.wp P a w K Q :=
  wp_store_row ty x y ho g cs.toArray hx hy T old.toArray hb.blk (by rw [List.size_toArray]; exact hi) (by simp [hl]) (by rw [List.all_toArray]; exact h1) (h _ ⟨setRow_heap _ _ _ _ _ _ hb.blk⟩ (setRow_grown w g cs.toArray))
/-- a record in its variable -/
theorem rec4 {W : World} {g : Nat} {T : TypeId} {q s l u : Int} (h : Bx W g T (Rc.cells ⟨q, s, l, u⟩)) : W.cell? ⟨g, 0, none⟩ = some (.int .u64 q) ∧ W.cell? ⟨g, 1, none⟩ = some (.int .i64 s) ∧ W.cell? ⟨g, 2, none⟩ = some (.int .i64 l) ∧ W.cell? ⟨g, 3, none⟩ = some (.int .u64 u) := bx4 h
/-- what Write, Switch, Repair answer -/
def WrPost (n : Fm) (x : Int) (F : Nat → Prop) (w : World) (e : Ending) (w' : World) : Prop := ∃ v', e = .returned (.tuple #[v', .int .i64 x]) ∧ w.grownBy w' none ∧ Rep w' v' n F
set_option maxHeartbeats 4000000 in
theorem kwrite_bad {w : World} {v : Value} {m : Fm} {F : Nat → Prop} {k : Nat} (hR : Rep w v m F) (hg : m.Good k) (P : Pa.Pl) (hP : P.ok) (i : Int) (hi : in64 i) (r : Rc) (hr : r.ok) (hbad : kok m P = false ∨ i < 0 ∨ 1 < i ∨ rrt r = false) :
    Calls Tryz.prog 20 #[v, P.val, .int .i64 i, r.val] w (WrPost m 1 F w) := by
  have hrt := fun W (g : w.grownBy W none) => kright_any (hR.grown g) hg P hP
  have hbr := fun W => rright_any r W
  unfold in64 at hi
  obtain ⟨aB, aD, aW, aT, lB, cB, lD, cD, lW, cW, lT, cT, rfl⟩ := hR.form
  have HR : Hid (∀ W, w.grownBy W none → Rep W (.agg #[.int .i64 m.s, .int .i64 m.p, .int .i64 m.b, .slice aB lB cB, .slice aD lD cD, .slice aW lW cW, .int .i64 m.ops, .bool m.off, .int .i64 m.after, .slice aT lT cT]) m F) := fun W g => hR.grown g
  have K0 : Hid (Kw w _ w.heap.size [.int .i64 m.s, .int .i64 m.p, .int .i64 m.b, .slice aB lB cB, .slice aD lD cD, .slice aW lW cW, .int .i64 m.ops, .bool m.off, .int .i64 m.after, .slice aT lT cT] P r fz) := Kw.new w _ P r fz
  clear hR
  generalize (m.s : Int) = ms at *
  generalize (m.p : Int) = mp at *
  generalize (m.b : Int) = mb at *
  generalize m.ops = ops at *
  generalize m.off = off at *
  generalize m.after = after at *
  generalize kok m P = ko at *
  generalize rrt r = rr at *
  obtain ⟨s, p, b, x0, x1, y0, y1, n⟩ := P
  obtain ⟨rq, rs, rl, ru⟩ := r
  unfold fz at K0
  simp only [Pa.Pl.val, Pa.Pl.cells, Rc.val, Rc.cells] at hrt hbr K0 ⊢
  have hcase : (ko = false) ∨ (ko = true ∧ i < 0) ∨ (ko = true ∧ 0 ≤ i ∧ 1 < i) ∨ (ko = true ∧ 0 ≤ i ∧ i ≤ 1 ∧ rr = false) := by
    cases ko
    · exact Or.inl rfl
    · rcases hbad with h | h | h | h
      · exact absurd h (by decide)
      · exact Or.inr (Or.inl ⟨rfl, h⟩)
      · exact Or.inr (Or.inr (Or.inl ⟨rfl, by omega, h⟩))
      · by_cases h1 : i < 0
        · exact Or.inr (Or.inl ⟨rfl, h1⟩)
        · by_cases h2 : 1 < i
          · exact Or.inr (Or.inr (Or.inl ⟨rfl, by omega, h2⟩))
          · exact Or.inr (Or.inr (Or.inr ⟨rfl, by omega, by omega, h⟩))
  clear hbad
  rcases hcase with rfl | ⟨rfl, h1⟩ | ⟨rfl, h1, h2⟩ | ⟨rfl, h1, h2, rfl⟩
  all_goals
    go_enter Tryz.func20, Tryz.ntmps20
    go_wp2_with fail
    refine (hrt _ K0.out.gr).mono ?_
    rintro e w1 ⟨rfl, g1⟩
    have KN := hidKw K0 g1
    clear K0 g1 hrt
    generalize w.heap.size = g at *
    obtain ⟨c0, c1, c2, c3, c4, c5, c6, c7, c8, c9⟩ := flash10 KN.out.f
    obtain ⟨r0, r1, r2, r3⟩ := rec4 KN.out.r
    simp only
  iterate 3
    · go_wp2_with (((with_reducible refine fl_here ?_); refine wpList_store_bx rfl 42 _ _ rfl (g + 1 + 1 + 1) [.int .i64 ms, .int .i64 mp, .int .i64 mb, .slice aB lB cB, .slice aD lD cD, .slice aW lW cW, .int .i64 ops, .bool off, .int .i64 after, .slice aT lT cT] rfl rfl (Hid.out KN).z fl_size rfl rfl ?_; intro W7 hb7 hg7; have KZ : Hid _ := (Hid.out KN).setZ hb7 hg7;  clear hb7 hg7; obtain ⟨z0, z1, z2, z3, z4, z5, z6, z7, z8, z9⟩ := flash10 KZ.out.z))
      refine bodyPost_ret (v := .tuple #[.agg #[.int .i64 ms, .int .i64 mp, .int .i64 mb, .slice aB lB cB, .slice aD lD cD, .slice aW lW cW, .int .i64 ops, .bool off, .int .i64 after, .slice aT lT cT], .int .i64 1]) (by simp [results, Tryz.results20, go_sem, z0, z1, z2, z3, z4, z5, z6, z7, z8, z9]) rfl ?_
      exact ⟨_, rfl, KZ.out.gr, HR.out _ KZ.out.gr⟩
  · go_wp2_with fail
    refine (hbr _).mono ?_
    rintro e w2 ⟨rfl, g2⟩
    have KN2 := hidKw KN g2
    clear KN g2 c0 c1 c2 c3 c4 c5 c6 c7 c8 c9 r0 r1 r2 r3 hbr
    obtain ⟨c0, c1, c2, c3, c4, c5, c6, c7, c8, c9⟩ := flash10 KN2.out.f
    simp only
    go_wp2_with (((with_reducible refine fl_here ?_); refine wpList_store_bx rfl 42 _ _ rfl (g + 1 + 1 + 1) [.int .i64 ms, .int .i64 mp, .int .i64 mb, .slice aB lB cB, .slice aD lD cD, .slice aW lW cW, .int .i64 ops, .bool off, .int .i64 after, .slice aT lT cT] rfl rfl (Hid.out KN2).z fl_size rfl rfl ?_; intro W7 hb7 hg7; have KZ : Hid _ := (Hid.out KN2).setZ hb7 hg7;  clear hb7 hg7; obtain ⟨z0, z1, z2, z3, z4, z5, z6, z7, z8, z9⟩ := flash10 KZ.out.z))
    refine bodyPost_ret (v := .tuple #[.agg #[.int .i64 ms, .int .i64 mp, .int .i64 mb, .slice aB lB cB, .slice aD lD cD, .slice aW lW cW, .int .i64 ops, .bool off, .int .i64 after, .slice aT lT cT], .int .i64 1]) (by simp [results, Tryz.results20, go_sem, z0, z1, z2, z3, z4, z5, z6, z7, z8, z9]) rfl ?_
    exact ⟨_, rfl, KZ.out.gr, HR.out _ KZ.out.gr⟩
set_option maxHeartbeats 4000000 in
theorem kwrite_ok {w : World} {v : Value} {m : Fm} {F : Nat → Prop} {k : Nat} (hR : Rep w v m F) (hg : m.Good k) (hk : k < 100000) (hF : ∀ x, F x → x < w.heap.size) (P : Pa.Pl) (hP : P.ok) (i : Nat) (hi : i < 2) (r : Rc) (hr : r.ok) (hko : kok m P = true) (hrr : rrt r = true) :
    Calls Tryz.prog 20 #[v, P.val, .int .i64 i, r.val] w (WrPost (kwr m P i r).1 (kwr m P i r).2 F w) := by
  have hrt := fun W (g : w.grownBy W none) => kright_any (hR.grown g) hg P hP
  have hbr := fun W => rright_any r W
  have her := fun W (g : w.grownBy W none) (h4 : w.heap.size + 4 ≤ W.heap.size) => rep_erase ((hR.own hg).grown g) hg (by omega) (own4_lt hF g h4) (i : Int) ⟨by omega, by omega⟩
  have hpg : -9223372036854775808 ≤ (i : Int) * m.p ∧ (i : Int) * m.p ≤ 9223372036854775807 := by
    have := hg.p
    obtain rfl | rfl : i = 0 ∨ i = 1 := by omega
    all_goals simp
    omega
  have hwr : ∀ W v1 (a2 : Option Addr) (c2 : Nat), w.grownBy W none → w.heap.size + 4 ≤ W.heap.size → Rep W v1 (m.erase i).1 (own4 F w) → Row W a2 (rby r).length (rby r) → (a2 = none → c2 = 0) → Calls Tryz.prog 26 #[v1, .int .i64 ((i : Int) * m.p), .slice a2 (rby r).length c2] W (WrPost ((m.erase i).1.write ((i : Int) * m.p) (rby r)).1 ((m.erase i).1.write ((i : Int) * m.p) (rby r)).2 (own4 F w) W) := fun W v1 a2 c2 g h4 h1 R2 hn => rep_write h1 (Fm.good_erase hg (i : Int)) (by omega) (own4_lt hF g h4) ((i : Int) * m.p) hpg a2 c2 (rby r) R2 hn
  have HRB : Hid (Byt (rby r)) := rby_byt hrr
  have hby := fun W => rbytes_any r W hrr hr.1.1 hr.2.2.2
  rw [hko] at hrt
  rw [hrr] at hbr
  rw [rby_len] at hwr
  obtain ⟨-, e1, e2, e3, hs, hb, ex0, ex1⟩ := kok_facts hko
  have hkw : kwr m P i r = if (m.erase i).2 ≠ 0 then m.erase i else (m.erase i).1.write (i * m.p) (rby r) := by
    unfold kwr
    rw [if_neg (by rw [hko, hrr]; simp; omega)]
  rw [hkw]
  have herr : (m.erase i).2 = 0 ∨ (m.erase i).2 = 40 := by
    have := erE_two hg hs hi
    unfold Fm.erase Fm.torn
    rw [this]
    cases m.off
    · show (if m.after = 1 then (40 : Int) else 0) = 0 ∨ (if m.after = 1 then (40 : Int) else 0) = 40
      split
      · exact Or.inr rfl
      · exact Or.inl rfl
    · exact Or.inr rfl
  have hpb := hg.p
  clear hkw hko hrr hpg hF hP hr hb hs
  obtain ⟨aB, aD, aW, aT, lB, cB, lD, cD, lW, cW, lT, cT, rfl⟩ := hR.form
  have K0 : Hid (Kw w _ w.heap.size [.int .i64 m.s, .int .i64 m.p, .int .i64 m.b, .slice aB lB cB, .slice aD lD cD, .slice aW lW cW, .int .i64 m.ops, .bool m.off, .int .i64 m.after, .slice aT lT cT] P r fz) := Kw.new w _ P r fz
  clear hR
  generalize m.erase i = E at *
  obtain ⟨m1, eE⟩ := E
  simp only at her hwr herr ⊢
  generalize hms : (m.s : Int) = ms at *
  generalize hmp : (m.p : Int) = mp at *
  generalize hmb : (m.b : Int) = mb at *
  generalize m.ops = ops at *
  generalize m.off = off at *
  generalize m.after = after at *
  have hmp2 : 0 ≤ mp ∧ mp ≤ 16 := by omega
  generalize m1.write ((i : Int) * mp) (rby r) = Wr at *
  obtain ⟨m2, eW⟩ := Wr
  clear hms hmb hmp hpb
  obtain ⟨s, p, b, x0, x1, y0, y1, n⟩ := P
  obtain ⟨rq, rs, rl, ru⟩ := r
  simp only at e1 e2 e3 ex0 ex1
  subst e1 e2 e3 ex0 ex1
  generalize hrb : rby ⟨rq, rs, rl, ru⟩ = rb at *
  unfold fz at K0
  simp only [Pa.Pl.val, Pa.Pl.cells, Rc.val, Rc.cells] at hrt hbr K0 hby ⊢
  have hi0 : 0 ≤ (i : Int) ∧ (i : Int) ≤ 1 := by omega
  have hix : (i : Int) = 0 ∨ (i : Int) = 1 := by omega
  generalize hI : (i : Int) = I at *
  clear hI hi
  rcases herr with rfl | rfl
  · rw [if_neg (by simp)]
    go_enter Tryz.func20, Tryz.ntmps20
    go_wp2_with fail
    refine (hrt _ K0.out.gr).mono ?_
    rintro e w1 ⟨rfl, g1⟩
    have KN := hidKw K0 g1
    clear K0 g1 hrt
    generalize w.heap.size = g at *
    obtain ⟨r0, r1, r2, r3⟩ := rec4 KN.out.r
    simp only
    go_wp2_with fail
    refine (hbr _).mono ?_
    rintro e w2 ⟨rfl, g2⟩
    have KN2 := hidKw KN g2
    clear KN g2 r0 r1 r2 r3 hbr
    simp only
    go_wp2_with fail
    have hS2 := KN2.out.kept (Pa.drewG w2)
    have KF : Hid _ := hS2
    refine wp_region_held_drew (S := fun w' => Ky w w' g ⟨s, p, b, 0, 1, y0, y1, n⟩ ⟨rq, rs, rl, ru⟩) (by kernel_rfl) (hS2.any rfl rfl) (fun hH => ?_)
    clear hS2 KN2
    refine wpAnyH_take (i := 1) (oi := ⟨some 31, _, _, _, _, _⟩) (v := .int .i64 I) rfl (by kernel_rfl) (by kernel_rfl) (by kernel_rfl) (fun _ _ _ h => h) (Or.inl ⟨by rfl, fun w hSw => by go_simp⟩) hH ?_
    simp only [Act.put, List.setIfInBounds_toArray, List.set_cons_zero, List.set_cons_succ]
    refine wpAnyH_take (i := 2) (oi := ⟨some 32, _, _, _, _, _⟩) (v := .pointer (some ⟨g + 1, 3, none⟩)) rfl (by kernel_rfl) (by kernel_rfl) (by kernel_rfl) (fun _ _ _ h => h) (Or.inl ⟨by rfl, fun w hSw => by go_simp⟩) hH ?_
    simp only [Act.put, List.setIfInBounds_toArray, List.set_cons_zero, List.set_cons_succ]
    refine wpAnyH_take (i := 3) (oi := ⟨some 33, _, _, _, _, _⟩) (v := .pointer (some ⟨g + 1, 3 + I.toNat, none⟩)) rfl (by kernel_rfl) (by kernel_rfl) (by kernel_rfl) (fun _ _ _ h => h) (Or.inl ⟨by rfl, fun w hSw => by (rcases hix with rfl | rfl <;> go_simp)⟩) hH ?_
    simp only [Act.put, List.setIfInBounds_toArray, List.set_cons_zero, List.set_cons_succ]
    refine wpAnyH_take (i := 4) (oi := ⟨some 34, _, _, _, _, _⟩) (v := .int .i64 I) rfl (by kernel_rfl) (by kernel_rfl) (by kernel_rfl) (fun _ _ _ h => h) (Or.inl ⟨by rfl, fun w hSw => by obtain ⟨d0, d1, d2, d3, d4, d5, d6, d7⟩ := plan8 hSw.p; (rcases hix with rfl | rfl <;> go_simp)⟩) hH ?_
    simp only [Act.put, List.setIfInBounds_toArray, List.set_cons_zero, List.set_cons_succ]
    refine wpAnyH_ready (rs := [0]) (by kernel_rfl) (by simp) ?_
    refine AllReadyH.cons rfl (fun K hK => ?_) AllReadyH.nil
    refine ifw (by rfl) ?_
    obtain ⟨c0, c1, c2, c3, c4, c5, c6, c7, c8, c9⟩ := flash10 KF.out.f
    go_wp2
    refine hK.out _ _ hH (fun _ => ?_)
    clear hK K c0 c1 c2 c3 c4 c5 c6 c7 c8 c9
    refine wpAnyH_ready (rs := [5]) (by kernel_rfl) (by simp) ?_
    refine AllReadyH.cons rfl (fun K hK => ?_) AllReadyH.nil
    go_simp
    go_wp2_with (go_at_call 28; refine (her _ hH.gr hH.lt).mono ?_; rintro e w' ⟨v', rfl, gq, hR1⟩)
    replace hH := hH.kept gq
    replace KF : Hid _ := KF.out.kept gq
    obtain ⟨aB', aD', aW', aT', lB', cB', lD', cD', lW', cW', lT', cT', rfl⟩ := hR1.form
    have H1 : Hid (Rep w' _ m1 (own4 F w)) := hR1
    clear gq hR1 her
    generalize (m1.s : Int) = s' at *
    generalize (m1.p : Int) = p' at *
    generalize (m1.b : Int) = b' at *
    generalize m1.ops = ops' at *
    generalize m1.off = off' at *
    generalize m1.after = after' at *
    refine hK.out _ _ hH (fun _ => ?_)
    clear hK K
    refine wpAnyH_take (i := 6) (oi := ⟨some 29, _, _, _, _, _⟩) (v := .tuple #[.agg #[.int .i64 s', .int .i64 p', .int .i64 b', .slice aB' lB' cB', .slice aD' lD' cD', .slice aW' lW' cW', .int .i64 ops', .bool off', .int .i64 after', .slice aT' lT' cT'], .int .i64 0]) rfl (by kernel_rfl) (by kernel_rfl) (by kernel_rfl) (fun _ _ _ h => h) (Or.inl ⟨by rfl, fun w hSw => by go_simp⟩) hH ?_
    simp only [Act.put, List.setIfInBounds_toArray, List.set_cons_zero, List.set_cons_succ]
    refine wpAnyH_take (i := 7) (oi := ⟨some 36, _, _, _, _, _⟩) (v := .agg #[.int .i64 s', .int .i64 p', .int .i64 b', .slice aB' lB' cB', .slice aD' lD' cD', .slice aW' lW' cW', .int .i64 ops', .bool off', .int .i64 after', .slice aT' lT' cT']) rfl (by kernel_rfl) (by kernel_rfl) (by kernel_rfl) (fun _ _ _ h => h) (Or.inl ⟨by rfl, fun w hSw => by go_simp⟩) hH ?_
    simp only [Act.put, List.setIfInBounds_toArray, List.set_cons_zero, List.set_cons_succ]
    refine wpAnyH_take (i := 8) (oi := ⟨some 37, _, _, _, _, _⟩) (v := .int .i64 0) rfl (by kernel_rfl) (by kernel_rfl) (by kernel_rfl) (fun _ _ _ h => h) (Or.inl ⟨by rfl, fun w hSw => by go_simp⟩) hH ?_
    simp only [Act.put, List.setIfInBounds_toArray, List.set_cons_zero, List.set_cons_succ]
    refine wpAnyH_ready (rs := [9]) (by kernel_rfl) (by simp) ?_
    refine AllReadyH.cons rfl (fun K hK => ?_) AllReadyH.nil
    refine ifw (by rfl) ?_
    refine op_store_bx 42 _ _ rfl g [.int .i64 s', .int .i64 p', .int .i64 b', .slice aB' lB' cB', .slice aD' lD' cD', .slice aW' lW' cW', .int .i64 ops', .bool off', .int .i64 after', .slice aT' lT' cT'] rfl rfl KF.out.f fl_size rfl rfl ?_
    intro W8 hb8 hg8
    have KG : Hid _ := KF.out.setF hb8 hg8
    replace H1 : Hid (Rep W8 _ m1 (own4 F w)) := H1.out.stored hg8 (Or.inr (by have := KG.out.sz; omega))
    clear hb8 hg8 KF
    replace hH := KG.out.any rfl rfl
    refine hK.out _ _ hH (fun _ => ?_)
    clear hK K
    refine wpAnyH_take (i := 10) (oi := ⟨some 10, _, _, _, _, _⟩) (v := .int .i64 0) rfl (by kernel_rfl) (by kernel_rfl) (by kernel_rfl) (fun _ _ _ h => h) (Or.inl ⟨by rfl, fun w hSw => by go_simp⟩) hH ?_
    simp only [Act.put, List.setIfInBounds_toArray, List.set_cons_zero, List.set_cons_succ]
    refine wpAnyH_done (by kernel_rfl) ?_ _
    clear hH
    go_wp2_with fail
    have hwI : IntKind.i64.wrap (I * p) = I * p := by (rcases hix with rfl | rfl <;> rw [IntKind.wrap_i64] <;> omega)
    have hS3 := KG.out.kept (Pa.drewG W8)
    replace H1 : Hid (Rep W8.drew _ m1 (own4 F w)) := H1.out.grown (Pa.drewG W8)
    refine wp_region_held_drew (S := fun w' => Bx w' g 42 [.int .i64 s', .int .i64 p', .int .i64 b', .slice aB' lB' cB', .slice aD' lD' cD', .slice aW' lW' cW', .int .i64 ops', .bool off', .int .i64 after', .slice aT' lT' cT'] ∧ Ky w w' g ⟨s, p, b, 0, 1, y0, y1, n⟩ ⟨rq, rs, rl, ru⟩) (by kernel_rfl) ⟨hS3.f, hS3.any rfl rfl⟩ (fun hH => ?_)
    clear hS3 KG
    refine wpAnyH_take (i := 0) (oi := ⟨some 42, _, _, _, _, _⟩) (v := .agg #[.int .i64 s', .int .i64 p', .int .i64 b', .slice aB' lB' cB', .slice aD' lD' cD', .slice aW' lW' cW', .int .i64 ops', .bool off', .int .i64 after', .slice aT' lT' cT']) rfl (by kernel_rfl) (by kernel_rfl) (by kernel_rfl) (fun _ _ _ h => h) (Or.inl ⟨by rfl, fun w hSw => by obtain ⟨c0, c1, c2, c3, c4, c5, c6, c7, c8, c9⟩ := flash10 hSw.1; go_simp⟩) hH ?_
    simp only [Act.put, List.setIfInBounds_toArray, List.set_cons_zero, List.set_cons_succ]
    refine wpAnyH_take (i := 1) (oi := ⟨some 43, _, _, _, _, _⟩) (v := .int .i64 I) rfl (by kernel_rfl) (by kernel_rfl) (by kernel_rfl) (fun _ _ _ h => h) (Or.inl ⟨by rfl, fun w hSw => by go_simp⟩) hH ?_
    simp only [Act.put, List.setIfInBounds_toArray, List.set_cons_zero, List.set_cons_succ]
    refine wpAnyH_take (i := 2) (oi := ⟨some 44, _, _, _, _, _⟩) (v := .pointer (some ⟨g + 1, 3, none⟩)) rfl (by kernel_rfl) (by kernel_rfl) (by kernel_rfl) (fun _ _ _ h => h) (Or.inl ⟨by rfl, fun w hSw => by go_simp⟩) hH ?_
    simp only [Act.put, List.setIfInBounds_toArray, List.set_cons_zero, List.set_cons_succ]
    refine wpAnyH_take (i := 3) (oi := ⟨some 45, _, _, _, _, _⟩) (v := .pointer (some ⟨g + 1, 3 + I.toNat, none⟩)) rfl (by kernel_rfl) (by kernel_rfl) (by kernel_rfl) (fun _ _ _ h => h) (Or.inl ⟨by rfl, fun w hSw => by (rcases hix with rfl | rfl <;> go_simp)⟩) hH ?_
    simp only [Act.put, List.setIfInBounds_toArray, List.set_cons_zero, List.set_cons_succ]
    refine wpAnyH_take (i := 4) (oi := ⟨some 46, _, _, _, _, _⟩) (v := .int .i64 I) rfl (by kernel_rfl) (by kernel_rfl) (by kernel_rfl) (fun _ _ _ h => h) (Or.inl ⟨by rfl, fun w hSw => by obtain ⟨d0, d1, d2, d3, d4, d5, d6, d7⟩ := plan8 hSw.2.p; (rcases hix with rfl | rfl <;> go_simp)⟩) hH ?_
    simp only [Act.put, List.setIfInBounds_toArray, List.set_cons_zero, List.set_cons_succ]
    refine wpAnyH_take (i := 5) (oi := ⟨some 47, _, _, _, _, _⟩) (v := .pointer (some ⟨g + 1, 0, none⟩)) rfl (by kernel_rfl) (by kernel_rfl) (by kernel_rfl) (fun _ _ _ h => h) (Or.inl ⟨by rfl, fun w hSw => by go_simp⟩) hH ?_
    simp only [Act.put, List.setIfInBounds_toArray, List.set_cons_zero, List.set_cons_succ]
    refine wpAnyH_take (i := 6) (oi := ⟨some 48, _, _, _, _, _⟩) (v := .pointer (some ⟨g + 1, 1, none⟩)) rfl (by kernel_rfl) (by kernel_rfl) (by kernel_rfl) (fun _ _ _ h => h) (Or.inl ⟨by rfl, fun w hSw => by go_simp⟩) hH ?_
    simp only [Act.put, List.setIfInBounds_toArray, List.set_cons_zero, List.set_cons_succ]
    refine wpAnyH_take (i := 7) (oi := ⟨some 49, _, _, _, _, _⟩) (v := .int .i64 p) rfl (by kernel_rfl) (by kernel_rfl) (by kernel_rfl) (fun _ _ _ h => h) (Or.inl ⟨by rfl, fun w hSw => by obtain ⟨d0, d1, d2, d3, d4, d5, d6, d7⟩ := plan8 hSw.2.p; go_simp⟩) hH ?_
    simp only [Act.put, List.setIfInBounds_toArray, List.set_cons_zero, List.set_cons_succ]
    refine wpAnyH_take (i := 8) (oi := ⟨some 50, _, _, _, _, _⟩) (v := .int .i64 (I * p)) rfl (by kernel_rfl) (by kernel_rfl) (by kernel_rfl) (fun _ _ _ h => h) (Or.inl ⟨by rfl, fun w hSw => by (go_simp; try exact hwI)⟩) hH ?_
    simp only [Act.put, List.setIfInBounds_toArray, List.set_cons_zero, List.set_cons_succ]
    refine wpAnyH_take (i := 9) (oi := ⟨some 51, _, _, _, _, _⟩) (v := .agg #[.int .u64 rq, .int .i64 rs, .int .i64 rl, .int .u64 ru]) rfl (by kernel_rfl) (by kernel_rfl) (by kernel_rfl) (fun _ _ _ h => h) (Or.inl ⟨by rfl, fun w hSw => by obtain ⟨r0, r1, r2, r3⟩ := rec4 hSw.2.r; go_simp⟩) hH ?_
    simp only [Act.put, List.setIfInBounds_toArray, List.set_cons_zero, List.set_cons_succ]
    refine wpAnyH_ready (rs := [10]) (by kernel_rfl) (by simp) ?_
    refine AllReadyH.cons rfl (fun K hK => ?_) AllReadyH.nil
    go_simp
    go_wp2_with (go_at_call 54; refine (hby _).mono ?_; rintro e w9 ⟨vb, rfl, hob, gb⟩)
    replace hH := And.intro (hH.1.kept gb) (hH.2.kept gb)
    replace H1 : Hid (Rep w9 _ m1 (own4 F w)) := H1.out.grown gb
    obtain ⟨ab, cb, rfl, hcb, hcb2, hab⟩ := owns_form hob
    have hrow : Row w9 ab 32 rb := by obtain ⟨a', c', e, hr⟩ := owns_row hob HRB.out (by unfold maxLen; omega); injection e with e1 e2 e3; subst e1; exact hr
    have hno : ab = none → cb = 0 := by rcases hab with ⟨-, h, -⟩ | ⟨gg, h, -⟩; exact absurd h (by decide); intro h2; rw [h] at h2; exact absurd h2 (by simp)
    have HRW : Hid _ := And.intro hrow hno
    clear gb hob hcb hcb2 hab hrow hno hby
    refine hK.out _ _ hH (fun _ => ?_)
    clear hK K
    refine wpAnyH_ready (rs := [11]) (by kernel_rfl) (by simp) ?_
    refine AllReadyH.cons rfl (fun K hK => ?_) AllReadyH.nil
    go_simp
    go_wp2_with (go_at_call 26; refine (hwr _ _ _ _ hH.2.gr hH.2.lt H1.out HRW.out.1 HRW.out.2).mono ?_; rintro e wA ⟨v2, rfl, gA, hR2⟩)
    replace hH := And.intro (hH.1.kept gA) (hH.2.kept gA)
    obtain ⟨aB2, aD2, aW2, aT2, lB2, cB2, lD2, cD2, lW2, cW2, lT2, cT2, rfl⟩ := hR2.form
    have H3 : Hid (Rep wA _ m2 (own4 F w)) := hR2
    clear gA hR2 hwr HRW
    generalize (m2.s : Int) = s2 at *
    generalize (m2.p : Int) = p2 at *
    generalize (m2.b : Int) = b2 at *
    generalize m2.ops = ops2 at *
    generalize m2.off = off2 at *
    generalize m2.after = after2 at *
    refine hK.out _ _ hH (fun _ => ?_)
    clear hK K
    refine wpAnyH_take (i := 12) (oi := ⟨some 54, _, _, _, _, _⟩) (v := .agg #[.int .i64 s2, .int .i64 p2, .int .i64 b2, .slice aB2 lB2 cB2, .slice aD2 lD2 cD2, .slice aW2 lW2 cW2, .int .i64 ops2, .bool off2, .int .i64 after2, .slice aT2 lT2 cT2]) rfl (by kernel_rfl) (by kernel_rfl) (by kernel_rfl) (fun _ _ _ h => h) (Or.inl ⟨by rfl, fun w hSw => by go_simp⟩) hH ?_
    simp only [Act.put, List.setIfInBounds_toArray, List.set_cons_zero, List.set_cons_succ]
    refine wpAnyH_take (i := 13) (oi := ⟨some 55, _, _, _, _, _⟩) (v := .int .i64 eW) rfl (by kernel_rfl) (by kernel_rfl) (by kernel_rfl) (fun _ _ _ h => h) (Or.inl ⟨by rfl, fun w hSw => by go_simp⟩) hH ?_
    simp only [Act.put, List.setIfInBounds_toArray, List.set_cons_zero, List.set_cons_succ]
    refine wpAnyH_ready (rs := [14]) (by kernel_rfl) (by simp) ?_
    refine AllReadyH.cons rfl (fun K hK => ?_) AllReadyH.nil
    refine ifw (by rfl) ?_
    obtain ⟨cz, hczl, hcz⟩ := hH.2.z
    refine op_store_bx 42 _ _ rfl (g + 1 + 1 + 1) [.int .i64 s2, .int .i64 p2, .int .i64 b2, .slice aB2 lB2 cB2, .slice aD2 lD2 cD2, .slice aW2 lW2 cW2, .int .i64 ops2, .bool off2, .int .i64 after2, .slice aT2 lT2 cT2] rfl rfl hcz fl_size hczl rfl ?_
    intro W7 hb7 hg7
    have KZ : Hid _ := (Kw.mk hH.1 hH.2.p hH.2.r hcz hH.2.gr hH.2.sz).setZ hb7 hg7
    have H2 : Hid (Rep W7 _ m2 (own4 F w)) := H3.out.stored hg7 (Or.inr (by have := hH.2.sz; omega))
    clear hb7 hg7 hcz hczl
    replace hH := And.intro KZ.out.f (KZ.out.any rfl rfl)
    refine hK.out _ _ hH (fun _ => ?_)
    clear hK K
    refine wpAnyH_take (i := 15) (oi := ⟨some 9, _, _, _, _, _⟩) (v := .int .i64 eW) rfl (by kernel_rfl) (by kernel_rfl) (by kernel_rfl) (fun _ _ _ h => h) (Or.inl ⟨by rfl, fun w hSw => by go_simp⟩) hH ?_
    simp only [Act.put, List.setIfInBounds_toArray, List.set_cons_zero, List.set_cons_succ]
    refine wpAnyH_done (by kernel_rfl) ?_ _
    clear hH
    obtain ⟨z0, z1, z2, z3, z4, z5, z6, z7, z8, z9⟩ := flash10 KZ.out.z
    go_wp2
    refine bodyPost_ret (v := .tuple #[.agg #[.int .i64 s2, .int .i64 p2, .int .i64 b2, .slice aB2 lB2 cB2, .slice aD2 lD2 cD2, .slice aW2 lW2 cW2, .int .i64 ops2, .bool off2, .int .i64 after2, .slice aT2 lT2 cT2], .int .i64 eW]) (by simp [results, Tryz.results20, go_sem, z0, z1, z2, z3, z4, z5, z6, z7, z8, z9]) rfl ?_
    exact ⟨_, rfl, KZ.out.gr, H2.out.back⟩
  · rw [if_pos (by simp)]
    go_enter Tryz.func20, Tryz.ntmps20
    go_wp2_with fail
    refine (hrt _ K0.out.gr).mono ?_
    rintro e w1 ⟨rfl, g1⟩
    have KN := hidKw K0 g1
    clear K0 g1 hrt
    generalize w.heap.size = g at *
    obtain ⟨r0, r1, r2, r3⟩ := rec4 KN.out.r
    simp only
    go_wp2_with fail
    refine (hbr _).mono ?_
    rintro e w2 ⟨rfl, g2⟩
    have KN2 := hidKw KN g2
    clear KN g2 r0 r1 r2 r3 hbr
    simp only
    go_wp2_with fail
    have hS2 := KN2.out.kept (Pa.drewG w2)
    have KF : Hid _ := hS2
    refine wp_region_held_drew (S := fun w' => Ky w w' g ⟨s, p, b, 0, 1, y0, y1, n⟩ ⟨rq, rs, rl, ru⟩) (by kernel_rfl) (hS2.any rfl rfl) (fun hH => ?_)
    clear hS2 KN2
    refine wpAnyH_take (i := 1) (oi := ⟨some 31, _, _, _, _, _⟩) (v := .int .i64 I) rfl (by kernel_rfl) (by kernel_rfl) (by kernel_rfl) (fun _ _ _ h => h) (Or.inl ⟨by rfl, fun w hSw => by go_simp⟩) hH ?_
    simp only [Act.put, List.setIfInBounds_toArray, List.set_cons_zero, List.set_cons_succ]
    refine wpAnyH_take (i := 2) (oi := ⟨some 32, _, _, _, _, _⟩) (v := .pointer (some ⟨g + 1, 3, none⟩)) rfl (by kernel_rfl) (by kernel_rfl) (by kernel_rfl) (fun _ _ _ h => h) (Or.inl ⟨by rfl, fun w hSw => by go_simp⟩) hH ?_
    simp only [Act.put, List.setIfInBounds_toArray, List.set_cons_zero, List.set_cons_succ]
    refine wpAnyH_take (i := 3) (oi := ⟨some 33, _, _, _, _, _⟩) (v := .pointer (some ⟨g + 1, 3 + I.toNat, none⟩)) rfl (by kernel_rfl) (by kernel_rfl) (by kernel_rfl) (fun _ _ _ h => h) (Or.inl ⟨by rfl, fun w hSw => by (rcases hix with rfl | rfl <;> go_simp)⟩) hH ?_
    simp only [Act.put, List.setIfInBounds_toArray, List.set_cons_zero, List.set_cons_succ]
    refine wpAnyH_take (i := 4) (oi := ⟨some 34, _, _, _, _, _⟩) (v := .int .i64 I) rfl (by kernel_rfl) (by kernel_rfl) (by kernel_rfl) (fun _ _ _ h => h) (Or.inl ⟨by rfl, fun w hSw => by obtain ⟨d0, d1, d2, d3, d4, d5, d6, d7⟩ := plan8 hSw.p; (rcases hix with rfl | rfl <;> go_simp)⟩) hH ?_
    simp only [Act.put, List.setIfInBounds_toArray, List.set_cons_zero, List.set_cons_succ]
    refine wpAnyH_ready (rs := [0]) (by kernel_rfl) (by simp) ?_
    refine AllReadyH.cons rfl (fun K hK => ?_) AllReadyH.nil
    refine ifw (by rfl) ?_
    obtain ⟨c0, c1, c2, c3, c4, c5, c6, c7, c8, c9⟩ := flash10 KF.out.f
    go_wp2
    refine hK.out _ _ hH (fun _ => ?_)
    clear hK K c0 c1 c2 c3 c4 c5 c6 c7 c8 c9
    refine wpAnyH_ready (rs := [5]) (by kernel_rfl) (by simp) ?_
    refine AllReadyH.cons rfl (fun K hK => ?_) AllReadyH.nil
    go_simp
    go_wp2_with (go_at_call 28; refine (her _ hH.gr hH.lt).mono ?_; rintro e w' ⟨v', rfl, gq, hR1⟩)
    replace hH := hH.kept gq
    replace KF : Hid _ := KF.out.kept gq
    obtain ⟨aB', aD', aW', aT', lB', cB', lD', cD', lW', cW', lT', cT', rfl⟩ := hR1.form
    have H1 : Hid (Rep w' _ m1 (own4 F w)) := hR1
    clear gq hR1 her
    generalize (m1.s : Int) = s' at *
    generalize (m1.p : Int) = p' at *
    generalize (m1.b : Int) = b' at *
    generalize m1.ops = ops' at *
    generalize m1.off = off' at *
    generalize m1.after = after' at *
    refine hK.out _ _ hH (fun _ => ?_)
    clear hK K
    refine wpAnyH_take (i := 6) (oi := ⟨some 29, _, _, _, _, _⟩) (v := .tuple #[.agg #[.int .i64 s', .int .i64 p', .int .i64 b', .slice aB' lB' cB', .slice aD' lD' cD', .slice aW' lW' cW', .int .i64 ops', .bool off', .int .i64 after', .slice aT' lT' cT'], .int .i64 40]) rfl (by kernel_rfl) (by kernel_rfl) (by kernel_rfl) (fun _ _ _ h => h) (Or.inl ⟨by rfl, fun w hSw => by go_simp⟩) hH ?_
    simp only [Act.put, List.setIfInBounds_toArray, List.set_cons_zero, List.set_cons_succ]
    refine wpAnyH_take (i := 7) (oi := ⟨some 36, _, _, _, _, _⟩) (v := .agg #[.int .i64 s', .int .i64 p', .int .i64 b', .slice aB' lB' cB', .slice aD' lD' cD', .slice aW' lW' cW', .int .i64 ops', .bool off', .int .i64 after', .slice aT' lT' cT']) rfl (by kernel_rfl) (by kernel_rfl) (by kernel_rfl) (fun _ _ _ h => h) (Or.inl ⟨by rfl, fun w hSw => by go_simp⟩) hH ?_
    simp only [Act.put, List.setIfInBounds_toArray, List.set_cons_zero, List.set_cons_succ]
    refine wpAnyH_take (i := 8) (oi := ⟨some 37, _, _, _, _, _⟩) (v := .int .i64 40) rfl (by kernel_rfl) (by kernel_rfl) (by kernel_rfl) (fun _ _ _ h => h) (Or.inl ⟨by rfl, fun w hSw => by go_simp⟩) hH ?_
    simp only [Act.put, List.setIfInBounds_toArray, List.set_cons_zero, List.set_cons_succ]
    refine wpAnyH_ready (rs := [9]) (by kernel_rfl) (by simp) ?_
    refine AllReadyH.cons rfl (fun K hK => ?_) AllReadyH.nil
    refine ifw (by rfl) ?_
    refine op_store_bx 42 _ _ rfl g [.int .i64 s', .int .i64 p', .int .i64 b', .slice aB' lB' cB', .slice aD' lD' cD', .slice aW' lW' cW', .int .i64 ops', .bool off', .int .i64 after', .slice aT' lT' cT'] rfl rfl KF.out.f fl_size rfl rfl ?_
    intro W8 hb8 hg8
    have KG : Hid _ := KF.out.setF hb8 hg8
    replace H1 : Hid (Rep W8 _ m1 (own4 F w)) := H1.out.stored hg8 (Or.inr (by have := KG.out.sz; omega))
    clear hb8 hg8 KF
    replace hH := KG.out.any rfl rfl
    refine hK.out _ _ hH (fun _ => ?_)
    clear hK K
    refine wpAnyH_take (i := 10) (oi := ⟨some 10, _, _, _, _, _⟩) (v := .int .i64 40) rfl (by kernel_rfl) (by kernel_rfl) (by kernel_rfl) (fun _ _ _ h => h) (Or.inl ⟨by rfl, fun w hSw => by go_simp⟩) hH ?_
    simp only [Act.put, List.setIfInBounds_toArray, List.set_cons_zero, List.set_cons_succ]
    refine wpAnyH_done (by kernel_rfl) ?_ _
    obtain ⟨c0, c1, c2, c3, c4, c5, c6, c7, c8, c9⟩ := flash10 KG.out.f
    clear hH
    go_wp2_with (((with_reducible refine fl_here ?_); refine wpList_store_bx rfl 42 _ _ rfl (g + 1 + 1 + 1) [.int .i64 s', .int .i64 p', .int .i64 b', .slice aB' lB' cB', .slice aD' lD' cD', .slice aW' lW' cW', .int .i64 ops', .bool off', .int .i64 after', .slice aT' lT' cT'] rfl rfl (Hid.out KG).z fl_size rfl rfl ?_; intro W7 hb7 hg7; have KZ : Hid _ := (Hid.out KG).setZ hb7 hg7; have H2 : Hid (Rep W7 _ m1 (own4 F w)) := H1.out.stored hg7 (Or.inr (by have := KG.out.sz; omega)); clear hb7 hg7; obtain ⟨z0, z1, z2, z3, z4, z5, z6, z7, z8, z9⟩ := flash10 KZ.out.z))
    refine bodyPost_ret (v := .tuple #[.agg #[.int .i64 s', .int .i64 p', .int .i64 b', .slice aB' lB' cB', .slice aD' lD' cD', .slice aW' lW' cW', .int .i64 ops', .bool off', .int .i64 after', .slice aT' lT' cT'], .int .i64 40]) (by simp [results, Tryz.results20, go_sem, z0, z1, z2, z3, z4, z5, z6, z7, z8, z9]) rfl ?_
    exact ⟨_, rfl, KZ.out.gr, H2.out.back⟩
end Go.Proofs.YtfhgbddeclldnaaGreat
