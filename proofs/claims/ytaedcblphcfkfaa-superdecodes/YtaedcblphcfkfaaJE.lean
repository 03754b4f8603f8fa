/- The program's super: does it open so? What bytes say. -/
import Derived.Test.YtaedcblphcfkfaaJD
import Derived.Test.YtaedcblphcfkfaaET
namespace Go.Proofs.Ytaedcblphcfkfaa
open Go.RowKit
set_option linter.unusedSimpArgs false
set_option linter.unusedVariables false

/-- what the fields of these bytes tell -/
def srd (bs : List Int) : Sp := ⟨bs.getD 6 0, le ((bs.drop 8).take 4), le ((bs.drop 12).take 4), le ((bs.drop 16).take 4), le ((bs.drop 20).take 4), le ((bs.drop 24).take 4), le ((bs.drop 28).take 4), le ((bs.drop 32).take 4), le ((bs.drop 36).take 4), le ((bs.drop 40).take 4), le ((bs.drop 44).take 4), le ((bs.drop 48).take 4), le ((bs.drop 52).take 4), le ((bs.drop 56).take 4), le ((bs.drop 60).take 4)⟩
/-- do bytes begin as a head does? -/
def opn (bs : List Int) : Bool := (decide (12 ≤ bs.getD 6 0) && decide (bs.getD 6 0 ≤ 20)) && decide (bs.take 8 = [80, 77, 83, 49, 1, 0, bs.getD 6 0, 0])
/-- Decode, as a plain function -/
def sde (bs : List Int) : Sp × Int := if bs.length < 68 then (sp0, 6) else if opn bs = false then (sp0, 6) else if le ((bs.drop 64).take 4) = (crc ent 0 (bs.take 64) : Nat) then (if srt (srd bs) = true then (srd bs, 0) else (sp0, 6)) else (sp0, 140)
theorem le4 {bs : List Int} (h : Byt bs) (k : Nat) : 0 ≤ le ((bs.drop k).take 4) ∧ le ((bs.drop k).take 4) < 4294967296 := ⟨le_nonneg ((h.drop k).take 4), le_lt_of ((h.drop k).take 4) 4 (by simp; omega)⟩
theorem cut56 (bs : List Int) (k : Nat) (h : k + 4 ≤ 56) : (((bs.drop 8).take 56).drop k).take 4 = (bs.drop (8 + k)).take 4 := by
  rw [List.drop_take, List.take_take, List.drop_drop, Nat.min_eq_left (by omega)]
theorem chg_grown {w W W' : World} {p : Nat} {v v' : Value} (hg : w.grownBy W none) (hp : w.heap.size ≤ p) (k : Chg W W' p v v') (hv : ∀ j, j < w.heap.size → some j ≠ v.ownBlock) : w.grownBy W' none :=
  ⟨k.os.trans hg.os, k.tape.trans hg.tape, k.output.trans hg.output, Nat.le_trans hg.size k.size, fun j hj _ => by
    rw [k.block j (Nat.lt_of_lt_of_le hj hg.size) (by omega) (hv j hj)]; exact hg.block j hj (by simp)⟩
theorem Row.lt13 {w : World} {b o n : Nat} {xs : List Int} (R : Row w (some ⟨b, o, none⟩) n xs) (h : 0 < n) : b < w.heap.size := by
  obtain ⟨b', o', e, hc⟩ := R.cells h
  injection e with e
  injection e with e1 e2
  subst e1
  exact cell_lt (hc 0 h)
set_option maxHeartbeats 4000000 in
theorem popens_any (b o len cap : Nat) (bs : List Int) (w : World) (R : Row w (some ⟨b, o, none⟩) len bs) (h : 68 ≤ len) (hnc : len ≤ cap) (hcm : cap ≤ maxLen) :
    Calls Try.prog 28 #[.slice (some ⟨b, o, none⟩) len cap] w fun e w' => e = .returned (.bool (opn bs)) ∧ w.grownBy w' none := by
  have hbt := R.byt
  have hlb := R.len_eq
  have c6 : w.cell? ⟨b, o + 6, none⟩ = some (.int .u8 (bs.getD 6 0)) := by
    obtain ⟨b', o', e, hc⟩ := R.cells (by omega)
    injection e with e
    injection e with e1 e2
    subst e1 e2
    exact hc 6 (by omega)
  have hl6 := hbt.getD 6
  have R8 : Row w (some ⟨b, o, none⟩) 8 (bs.take 8) := by have := R.part 0 8 (by omega); simpa using this
  have HR8 : Hid _ := And.intro R8 (R8.lt13 (by decide))
  have hL := fun W => plog_any (bs.getD 6 0) W
  unfold opn
  clear R8 R hlb hbt
  generalize bs.getD 6 0 = lg at *
  generalize bs.take 8 = t8 at *
  generalize hop : (decide (12 ≤ lg) && decide (lg ≤ 20)) = op at *
  clear hop
  have HB : Hid (0 ≤ lg ∧ lg ≤ 255) := hl6
  have wl : IntKind.i64.wrap lg = lg := by rw [IntKind.wrap_i64]; omega
  have h6 : (6 : Int) < (len : Int) := by omega
  have hcap : ¬ (cap : Int) < 8 := by omega
  have hcap2 : (8 : Int) ≤ (cap : Int) := by omega
  unfold maxLen at hcm
  clear hl6 h hnc
  go_enter Try.func28, Try.ntmps28
  go_wp2_with fail
  clear c6 wl h6
  refine (newwriter_any 8 _).mono ?_
  rintro e w1 ⟨rfl, i1, g1⟩
  rw [if_neg (by decide)] at i1
  have H1 : Hid _ := And.intro i1 g1
  clear i1 g1
  go_wp2_with fail
  refine (popen_ok _ _ 8 lg _ H1.out.1 (by decide) (by decide) HB.out).mono ?_
  rintro e w2 ⟨v2, rfl, i2, k2⟩
  have HG2 : Hid (w.grownBy w2 none) := chg_grown H1.out.2 (Nat.le_refl _) k2 (fun j hj e => by simp [Value.ownBlock] at e)
  have HR2 : Hid (Row w2 (some ⟨b, o, none⟩) 8 t8) := Row.grown HR8.out.1 HG2.out
  have H2 : Hid _ := i2
  clear i2 k2 H1
  generalize w.heap.size = p at *
  go_wp2_with fail
  refine (wdone_ok p _ _ 8 _ H2.out (by simp)).mono ?_
  rintro e w3 ⟨rfl, b3, g3⟩
  have HG3 : Hid _ := grown_trans HG2.out g3
  have HR3 : Hid _ := And.intro (HR2.out.grown g3) (Blk.row (bs := [80, 77, 83, 49, 1, 0, lg, 0]) b3 H2.out.byt (by simp; decide))
  clear b3 g3 H2 HG2 HR2 HR8
  generalize w2.heap.size = k3 at *
  cases op
  · go_wp2_with (go_at_call 22; refine (hL _).mono ?_; rintro e w' ⟨rfl, rfl⟩)
    go_ret
    exact ⟨rfl, HG3.out⟩
  · have hE := pequal_any (some ⟨b, o, none⟩) (some ⟨k3, 0, none⟩) 8 cap 8 8 t8 [80, 77, 83, 49, 1, 0, lg, 0] w3 HR3.out.1 HR3.out.2 (by decide) (by decide)
    go_wp2_with (first | (go_at_call 22; refine (hL _).mono ?_; rintro e w' ⟨rfl, rfl⟩) | (go_at_call 40; refine hE.mono ?_; rintro e w' ⟨rfl, rfl⟩))
    go_ret
    exact ⟨rfl, HG3.out⟩
/-- a reader at work on a head's bytes: the answer's variable, the head's, the reader -/
structure Ef13 (w W : World) (gz gr p g : Nat) (bs : List Int) (k : Nat) (cs : List Value) : Prop where
  z : Bx W gz 26 [.int .i64 0, .int .i64 0, .int .i64 0, .int .i64 0, .int .i64 0, .int .i64 0, .int .i64 0, .int .i64 0, .int .i64 0, .int .i64 0, .int .i64 0, .int .i64 0, .int .i64 0, .int .i64 0, .int .i64 0]
  r : Bx W gr 26 cs
  ri : RInv W p g bs k 0
  gw : w.grownBy W none
  lz : w.heap.size ≤ gz
  lr : w.heap.size ≤ gr
  lp : w.heap.size ≤ p
  n1 : gz ≠ p
  n2 : gr ≠ p
  n3 : gr ≠ g
  n4 : gz ≠ gr
  n5 : gz ≠ g
theorem Ef13.on {w W W' : World} {gz gr p g k k' : Nat} {bs : List Int} {cs : List Value} (h : Ef13 w W gz gr p g bs k cs) (hr : RInv W' p g bs k' 0) (hg : W.grownBy W' (some p)) : Ef13 w W' gz gr p g bs k' cs :=
  ⟨⟨by rw [hg.block _ h.z.lt (by simpa using h.n1)]; exact h.z.blk⟩, ⟨by rw [hg.block _ h.r.lt (by simpa using h.n2)]; exact h.r.blk⟩, hr, grown_new h.gw hg h.lp, h.lz, h.lr, h.lp, h.n1, h.n2, h.n3, h.n4, h.n5⟩
theorem Ef13.put {w W : World} {gz gr p g k : Nat} {bs : List Int} {cs : List Value} (h : Ef13 w W gz gr p g bs k cs) (i : Nat) (v : Value) : Ef13 w (W.setCell ⟨gr, i, none⟩ v) gz gr p g bs k (cs.set i v) := by
  have hg := grown_set W gr i v
  exact ⟨⟨by rw [hg.block _ h.z.lt (by simpa using h.n4)]; exact h.z.blk⟩, h.r.set i v, h.ri.grown hg (by simpa using fun e => h.n2 e.symm) (by simpa using fun e => h.n3 e.symm), grown_new h.gw hg h.lr, h.lz, h.lr, h.lp, h.n1, h.n2, h.n3, h.n4, h.n5⟩
theorem rnum4 {w W : World} {gz gr p g k : Nat} {bs : List Int} {cs : List Value} (h : Ef13 w W gz gr p g bs k cs) (x : Int) (hx : le ((bs.drop k).take 4) = x) (hk : k + 4 ≤ bs.length) :
    Calls Try.prog 44 #[.pointer (some ⟨p, 0, none⟩), .int .i64 4] W fun e w' => e = .returned (.int .u64 x) ∧ Ef13 w w' gz gr p g bs (k + 4) cs := by
  refine (rnum_ok p g bs k 4 _ h.ri rfl hk).mono ?_
  rintro e w' ⟨rfl, i, g'⟩
  rw [hx]
  exact ⟨rfl, h.on i g'⟩
/-- a head's cells, k of them told -/
def tld (cs : List Value) (k : Nat) : List Value := cs.take k ++ List.replicate (15 - k) (.int .i64 0)
set_option maxHeartbeats 8000000 in
theorem pfields13 (b o len cap : Nat) (bs : List Int) (w : World) (R : Row w (some ⟨b, o, none⟩) len bs) (h : 68 ≤ len) (hnc : len ≤ cap) (hcm : cap ≤ maxLen) :
    Calls Try.prog 30 #[.slice (some ⟨b, o, none⟩) len cap] w fun e w' => e = .returned (srd bs).val ∧ w.grownBy w' none := by
  have hbt := R.byt
  have hlb := R.len_eq
  have c6 : w.cell? ⟨b, o + 6, none⟩ = some (.int .u8 (bs.getD 6 0)) := by
    obtain ⟨b', o', e, hc⟩ := R.cells (by omega)
    injection e with e
    injection e with e1 e2
    subst e1 e2
    exact hc 6 (by omega)
  have hl6 := hbt.getD 6
  have R56 := R.part 8 56 (by omega)
  have HL : Hid (((bs.drop 8).take 56).length = 56) := by show ((bs.drop 8).take 56).length = 56; simp; omega
  have HLG : Hid (bs.getD 6 0 = (srd bs).lg) := rfl
  have HX1 : Hid (le ((((bs.drop 8).take 56).drop 0).take 4) = (srd bs).no ∧ IntKind.i64.wrap (srd bs).no = (srd bs).no) := by
    have := le4 hbt 8
    exact ⟨by rw [cut56 _ _ (by decide)]; rfl, by rw [IntKind.wrap_i64]; show _ = le ((bs.drop 8).take 4); simp only [srd]; omega⟩
  have HX2 : Hid (le ((((bs.drop 8).take 56).drop 4).take 4) = (srd bs).ln ∧ IntKind.i64.wrap (srd bs).ln = (srd bs).ln) := by
    have := le4 hbt 12
    exact ⟨by rw [cut56 _ _ (by decide)]; rfl, by rw [IntKind.wrap_i64]; show _ = le ((bs.drop 12).take 4); simp only [srd]; omega⟩
  have HX3 : Hid (le ((((bs.drop 8).take 56).drop 8).take 4) = (srd bs).a0 ∧ IntKind.i64.wrap (srd bs).a0 = (srd bs).a0) := by
    have := le4 hbt 16
    exact ⟨by rw [cut56 _ _ (by decide)]; rfl, by rw [IntKind.wrap_i64]; show _ = le ((bs.drop 16).take 4); simp only [srd]; omega⟩
  have HX4 : Hid (le ((((bs.drop 8).take 56).drop 12).take 4) = (srd bs).z0 ∧ IntKind.i64.wrap (srd bs).z0 = (srd bs).z0) := by
    have := le4 hbt 20
    exact ⟨by rw [cut56 _ _ (by decide)]; rfl, by rw [IntKind.wrap_i64]; show _ = le ((bs.drop 20).take 4); simp only [srd]; omega⟩
  have HX5 : Hid (le ((((bs.drop 8).take 56).drop 16).take 4) = (srd bs).a1 ∧ IntKind.i64.wrap (srd bs).a1 = (srd bs).a1) := by
    have := le4 hbt 24
    exact ⟨by rw [cut56 _ _ (by decide)]; rfl, by rw [IntKind.wrap_i64]; show _ = le ((bs.drop 24).take 4); simp only [srd]; omega⟩
  have HX6 : Hid (le ((((bs.drop 8).take 56).drop 20).take 4) = (srd bs).z1 ∧ IntKind.i64.wrap (srd bs).z1 = (srd bs).z1) := by
    have := le4 hbt 28
    exact ⟨by rw [cut56 _ _ (by decide)]; rfl, by rw [IntKind.wrap_i64]; show _ = le ((bs.drop 28).take 4); simp only [srd]; omega⟩
  have HX7 : Hid (le ((((bs.drop 8).take 56).drop 24).take 4) = (srd bs).a2 ∧ IntKind.i64.wrap (srd bs).a2 = (srd bs).a2) := by
    have := le4 hbt 32
    exact ⟨by rw [cut56 _ _ (by decide)]; rfl, by rw [IntKind.wrap_i64]; show _ = le ((bs.drop 32).take 4); simp only [srd]; omega⟩
  have HX8 : Hid (le ((((bs.drop 8).take 56).drop 28).take 4) = (srd bs).z2 ∧ IntKind.i64.wrap (srd bs).z2 = (srd bs).z2) := by
    have := le4 hbt 36
    exact ⟨by rw [cut56 _ _ (by decide)]; rfl, by rw [IntKind.wrap_i64]; show _ = le ((bs.drop 36).take 4); simp only [srd]; omega⟩
  have HX9 : Hid (le ((((bs.drop 8).take 56).drop 32).take 4) = (srd bs).a3 ∧ IntKind.i64.wrap (srd bs).a3 = (srd bs).a3) := by
    have := le4 hbt 40
    exact ⟨by rw [cut56 _ _ (by decide)]; rfl, by rw [IntKind.wrap_i64]; show _ = le ((bs.drop 40).take 4); simp only [srd]; omega⟩
  have HX10 : Hid (le ((((bs.drop 8).take 56).drop 36).take 4) = (srd bs).z3 ∧ IntKind.i64.wrap (srd bs).z3 = (srd bs).z3) := by
    have := le4 hbt 44
    exact ⟨by rw [cut56 _ _ (by decide)]; rfl, by rw [IntKind.wrap_i64]; show _ = le ((bs.drop 44).take 4); simp only [srd]; omega⟩
  have HX11 : Hid (le ((((bs.drop 8).take 56).drop 40).take 4) = (srd bs).a4 ∧ IntKind.i64.wrap (srd bs).a4 = (srd bs).a4) := by
    have := le4 hbt 48
    exact ⟨by rw [cut56 _ _ (by decide)]; rfl, by rw [IntKind.wrap_i64]; show _ = le ((bs.drop 48).take 4); simp only [srd]; omega⟩
  have HX12 : Hid (le ((((bs.drop 8).take 56).drop 44).take 4) = (srd bs).z4 ∧ IntKind.i64.wrap (srd bs).z4 = (srd bs).z4) := by
    have := le4 hbt 52
    exact ⟨by rw [cut56 _ _ (by decide)]; rfl, by rw [IntKind.wrap_i64]; show _ = le ((bs.drop 52).take 4); simp only [srd]; omega⟩
  have HX13 : Hid (le ((((bs.drop 8).take 56).drop 48).take 4) = (srd bs).a5 ∧ IntKind.i64.wrap (srd bs).a5 = (srd bs).a5) := by
    have := le4 hbt 56
    exact ⟨by rw [cut56 _ _ (by decide)]; rfl, by rw [IntKind.wrap_i64]; show _ = le ((bs.drop 56).take 4); simp only [srd]; omega⟩
  have HX14 : Hid (le ((((bs.drop 8).take 56).drop 52).take 4) = (srd bs).z5 ∧ IntKind.i64.wrap (srd bs).z5 = (srd bs).z5) := by
    have := le4 hbt 60
    exact ⟨by rw [cut56 _ _ (by decide)]; rfl, by rw [IntKind.wrap_i64]; show _ = le ((bs.drop 60).take 4); simp only [srd]; omega⟩
  generalize (bs.drop 8).take 56 = B at *
  generalize bs.getD 6 0 = lg0 at *
  generalize srd bs = s at *
  obtain ⟨lg, no, ln, a0, z0, a1, z1, a2, z2, a3, z3, a4, z4, a5, z5⟩ := s
  simp only [Sp.val] at *
  have e6 : lg0 = lg := HLG.out
  subst e6
  clear HLG
  have wl : IntKind.i64.wrap lg0 = lg0 := by rw [IntKind.wrap_i64]; omega
  have B0 := Bx.new w 26 [.int .i64 0, .int .i64 0, .int .i64 0, .int .i64 0, .int .i64 0, .int .i64 0, .int .i64 0, .int .i64 0, .int .i64 0, .int .i64 0, .int .i64 0, .int .i64 0, .int .i64 0, .int .i64 0, .int .i64 0]
  have G0 := World.grownBy_alloc w (.cells #[.int .i64 0, .int .i64 0, .int .i64 0, .int .i64 0, .int .i64 0, .int .i64 0, .int .i64 0, .int .i64 0, .int .i64 0, .int .i64 0, .int .i64 0, .int .i64 0, .int .i64 0, .int .i64 0, .int .i64 0] 26) none
  have H0 : Hid _ := And.intro B0 (And.intro G0 (And.intro (R56.grown G0) (R.grown G0)))
  have HBT : Hid _ := And.intro hbt hlb
  have h1 : (64 : Int) ≤ (cap : Int) := by omega
  have h2 : ¬ (cap : Int) < 64 := by omega
  have h3 : (6 : Int) < (len : Int) := by omega
  have HC : Hid (68 ≤ len ∧ len ≤ cap ∧ 0 ≤ lg0 ∧ lg0 ≤ 255) := ⟨h, hnc, hl6⟩
  unfold maxLen at hcm
  have HK : Hid (∀ W : World, w.grownBy W none → W.cell? ⟨b, o + 6, none⟩ = some (.int .u8 lg0)) := fun W g => by rw [(grown_below g).cell (p := ⟨b, o + 6, none⟩) (cell_lt c6)]; exact c6
  clear h hnc hl6 B0 G0 R56 R hbt hlb c6
  go_enter Try.func30, Try.ntmps30
  go_wp2_with fail
  refine (newreader_any _ 56 _ B _ H0.out.2.2.1 (by decide)).mono ?_
  rintro e w1 ⟨p, g, rfl, i1, hp, hg, g1⟩
  simp only [World.size_alloc] at hp hg
  have H1 : Hid _ := And.intro (H0.out.1.kept g1) (And.intro i1 (And.intro (grown_trans H0.out.2.1 g1) (And.intro hp hg)))
  have c6 := HK.out _ (grown_trans H0.out.2.1 g1)
  clear H0 i1 hp hg g1 HK
  have gA := World.grownBy_alloc w1 (.cells #[.int .i64 lg0, .int .i64 0, .int .i64 0, .int .i64 0, .int .i64 0, .int .i64 0, .int .i64 0, .int .i64 0, .int .i64 0, .int .i64 0, .int .i64 0, .int .i64 0, .int .i64 0, .int .i64 0, .int .i64 0] 26) none
  have H2 : Hid (Ef13 w (w1.alloc (.cells #[.int .i64 lg0, .int .i64 0, .int .i64 0, .int .i64 0, .int .i64 0, .int .i64 0, .int .i64 0, .int .i64 0, .int .i64 0, .int .i64 0, .int .i64 0, .int .i64 0, .int .i64 0, .int .i64 0, .int .i64 0] 26)) w.heap.size w1.heap.size p g B 0 [.int .i64 lg0, .int .i64 0, .int .i64 0, .int .i64 0, .int .i64 0, .int .i64 0, .int .i64 0, .int .i64 0, .int .i64 0, .int .i64 0, .int .i64 0, .int .i64 0, .int .i64 0, .int .i64 0, .int .i64 0]) := by
    have h1 := H1.out
    have l1 := h1.1.lt
    have l2 := h1.2.1.blk.lt
    have l3 := h1.2.1.row.lt
    have l4 := h1.2.2.2
    exact ⟨h1.1.kept gA, Bx.new _ _ _, h1.2.1.grown gA (by simp) (by simp), grown_trans h1.2.2.1 gA, Nat.le_refl _, by omega, by omega, by omega, by omega, by omega, by omega, by omega⟩
  clear gA H1
  go_wp2_with fail
  generalize w1.alloc (.cells #[.int .i64 lg0, .int .i64 0, .int .i64 0, .int .i64 0, .int .i64 0, .int .i64 0, .int .i64 0, .int .i64 0, .int .i64 0, .int .i64 0, .int .i64 0, .int .i64 0, .int .i64 0, .int .i64 0, .int .i64 0] 26) = W2 at *
  generalize w.heap.size = gz at *
  generalize w1.heap.size = gr at *
  clear c6 wl h1 h2 h3
  refine (rnum4 H2.out no HX1.out.1 (by rw [HL.out]; decide)).mono ?_
  rintro e w3 ⟨rfl, k3⟩
  have H3 : Hid (Ef13 w w3 gz gr p g B 4 [.int .i64 lg0, .int .i64 0, .int .i64 0, .int .i64 0, .int .i64 0, .int .i64 0, .int .i64 0, .int .i64 0, .int .i64 0, .int .i64 0, .int .i64 0, .int .i64 0, .int .i64 0, .int .i64 0, .int .i64 0]) := k3
  clear k3 H2
  have c1 : w3.cell? ⟨gr, 1, none⟩ = some (.int .i64 0) := H3.out.r.c 1
  have f1 := H3.out.r.f 1
  have wx := HX1.out.2
  have H4 : Hid (Ef13 w (w3.setCell ⟨gr, 1, none⟩ (.int .i64 no)) gz gr p g B 4 [.int .i64 lg0, .int .i64 no, .int .i64 0, .int .i64 0, .int .i64 0, .int .i64 0, .int .i64 0, .int .i64 0, .int .i64 0, .int .i64 0, .int .i64 0, .int .i64 0, .int .i64 0, .int .i64 0, .int .i64 0]) := H3.out.put 1 (.int .i64 no)
  clear H3 HX1
  go_wp2_with fail
  generalize w3.setCell ⟨gr, 1, none⟩ (.int .i64 no) = W4 at *
  clear c1 f1 wx
  refine (rnum4 H4.out ln HX2.out.1 (by rw [HL.out]; decide)).mono ?_
  rintro e w5 ⟨rfl, k3⟩
  have H3 : Hid (Ef13 w w5 gz gr p g B 8 [.int .i64 lg0, .int .i64 no, .int .i64 0, .int .i64 0, .int .i64 0, .int .i64 0, .int .i64 0, .int .i64 0, .int .i64 0, .int .i64 0, .int .i64 0, .int .i64 0, .int .i64 0, .int .i64 0, .int .i64 0]) := k3
  clear k3 H4
  have c1 : w5.cell? ⟨gr, 2, none⟩ = some (.int .i64 0) := H3.out.r.c 2
  have f1 := H3.out.r.f 2
  have wx := HX2.out.2
  have H6 : Hid (Ef13 w (w5.setCell ⟨gr, 2, none⟩ (.int .i64 ln)) gz gr p g B 8 [.int .i64 lg0, .int .i64 no, .int .i64 ln, .int .i64 0, .int .i64 0, .int .i64 0, .int .i64 0, .int .i64 0, .int .i64 0, .int .i64 0, .int .i64 0, .int .i64 0, .int .i64 0, .int .i64 0, .int .i64 0]) := H3.out.put 2 (.int .i64 ln)
  clear H3 HX2
  go_wp2
  generalize w5.setCell ⟨gr, 2, none⟩ (.int .i64 ln) = W6 at *
  clear c1 f1 wx
  go_loopw [22] (fun i wr => ∃ j : Nat, j ≤ 6 ∧ i = .int .i64 j ∧ Ef13 w wr gz gr p g B (8 + 8 * j) (tld [.int .i64 lg0, .int .i64 no, .int .i64 ln, .int .i64 a0, .int .i64 z0, .int .i64 a1, .int .i64 z1, .int .i64 a2, .int .i64 z2, .int .i64 a3, .int .i64 z3, .int .i64 a4, .int .i64 z4, .int .i64 a5, .int .i64 z5] (3 + 2 * j))) (fun i _ => 6 - (intOf i).toNat)
  case atStart => exact ⟨0, by omega, rfl, H6.out⟩
  case round =>
    obtain ⟨j, hj, rfl, J⟩ := hrel
    have HJ : Hid _ := J
    clear J H6
    rcases (by omega : j = 0 ∨ j = 1 ∨ j = 2 ∨ j = 3 ∨ j = 4 ∨ j = 5 ∨ j = 6) with rfl | rfl | rfl | rfl | rfl | rfl | rfl
    · clear HX5 HX6 HX7 HX8 HX9 HX10 HX11 HX12 HX13 HX14
      have H2 : Hid (Ef13 w wr gz gr p g B 8 [.int .i64 lg0, .int .i64 no, .int .i64 ln, .int .i64 0, .int .i64 0, .int .i64 0, .int .i64 0, .int .i64 0, .int .i64 0, .int .i64 0, .int .i64 0, .int .i64 0, .int .i64 0, .int .i64 0, .int .i64 0]) := HJ.out
      clear HJ
      go_wp2_with fail
      refine (rnum4 H2.out a0 HX3.out.1 (by rw [HL.out]; decide)).mono ?_
      rintro e w3 ⟨rfl, k3⟩
      have H3 : Hid (Ef13 w w3 gz gr p g B 12 [.int .i64 lg0, .int .i64 no, .int .i64 ln, .int .i64 0, .int .i64 0, .int .i64 0, .int .i64 0, .int .i64 0, .int .i64 0, .int .i64 0, .int .i64 0, .int .i64 0, .int .i64 0, .int .i64 0, .int .i64 0]) := k3
      clear k3 H2
      have c1 : w3.cell? ⟨gr, 3, none⟩ = some (.int .i64 0) := H3.out.r.c 3
      have f1 := H3.out.r.f 3
      have wx := HX3.out.2
      have H4 : Hid (Ef13 w (w3.setCell ⟨gr, 3, none⟩ (.int .i64 a0)) gz gr p g B 12 [.int .i64 lg0, .int .i64 no, .int .i64 ln, .int .i64 a0, .int .i64 0, .int .i64 0, .int .i64 0, .int .i64 0, .int .i64 0, .int .i64 0, .int .i64 0, .int .i64 0, .int .i64 0, .int .i64 0, .int .i64 0]) := H3.out.put 3 (.int .i64 a0)
      clear H3
      go_wp2_with fail
      generalize w3.setCell ⟨gr, 3, none⟩ (.int .i64 a0) = W4 at *
      clear c1 f1 wx
      refine (rnum4 H4.out z0 HX4.out.1 (by rw [HL.out]; decide)).mono ?_
      rintro e w5 ⟨rfl, k5⟩
      have H5 : Hid (Ef13 w w5 gz gr p g B 16 [.int .i64 lg0, .int .i64 no, .int .i64 ln, .int .i64 a0, .int .i64 0, .int .i64 0, .int .i64 0, .int .i64 0, .int .i64 0, .int .i64 0, .int .i64 0, .int .i64 0, .int .i64 0, .int .i64 0, .int .i64 0]) := k5
      clear k5 H4
      have c1 : w5.cell? ⟨gr, 4, none⟩ = some (.int .i64 0) := H5.out.r.c 4
      have f1 := H5.out.r.f 4
      have wx := HX4.out.2
      have H6 : Hid (Ef13 w (w5.setCell ⟨gr, 4, none⟩ (.int .i64 z0)) gz gr p g B 16 [.int .i64 lg0, .int .i64 no, .int .i64 ln, .int .i64 a0, .int .i64 z0, .int .i64 0, .int .i64 0, .int .i64 0, .int .i64 0, .int .i64 0, .int .i64 0, .int .i64 0, .int .i64 0, .int .i64 0, .int .i64 0]) := H5.out.put 4 (.int .i64 z0)
      clear H5
      go_wp2
      go_roundw
      case rel => exact ⟨1, by omega, rfl, H6.out⟩
      case measure => simp [intOf]
    · clear HX3 HX4 HX7 HX8 HX9 HX10 HX11 HX12 HX13 HX14
      have H2 : Hid (Ef13 w wr gz gr p g B 16 [.int .i64 lg0, .int .i64 no, .int .i64 ln, .int .i64 a0, .int .i64 z0, .int .i64 0, .int .i64 0, .int .i64 0, .int .i64 0, .int .i64 0, .int .i64 0, .int .i64 0, .int .i64 0, .int .i64 0, .int .i64 0]) := HJ.out
      clear HJ
      go_wp2_with fail
      refine (rnum4 H2.out a1 HX5.out.1 (by rw [HL.out]; decide)).mono ?_
      rintro e w3 ⟨rfl, k3⟩
      have H3 : Hid (Ef13 w w3 gz gr p g B 20 [.int .i64 lg0, .int .i64 no, .int .i64 ln, .int .i64 a0, .int .i64 z0, .int .i64 0, .int .i64 0, .int .i64 0, .int .i64 0, .int .i64 0, .int .i64 0, .int .i64 0, .int .i64 0, .int .i64 0, .int .i64 0]) := k3
      clear k3 H2
      have c1 : w3.cell? ⟨gr, 5, none⟩ = some (.int .i64 0) := H3.out.r.c 5
      have f1 := H3.out.r.f 5
      have wx := HX5.out.2
      have H4 : Hid (Ef13 w (w3.setCell ⟨gr, 5, none⟩ (.int .i64 a1)) gz gr p g B 20 [.int .i64 lg0, .int .i64 no, .int .i64 ln, .int .i64 a0, .int .i64 z0, .int .i64 a1, .int .i64 0, .int .i64 0, .int .i64 0, .int .i64 0, .int .i64 0, .int .i64 0, .int .i64 0, .int .i64 0, .int .i64 0]) := H3.out.put 5 (.int .i64 a1)
      clear H3
      go_wp2_with fail
      generalize w3.setCell ⟨gr, 5, none⟩ (.int .i64 a1) = W4 at *
      clear c1 f1 wx
      refine (rnum4 H4.out z1 HX6.out.1 (by rw [HL.out]; decide)).mono ?_
      rintro e w5 ⟨rfl, k5⟩
      have H5 : Hid (Ef13 w w5 gz gr p g B 24 [.int .i64 lg0, .int .i64 no, .int .i64 ln, .int .i64 a0, .int .i64 z0, .int .i64 a1, .int .i64 0, .int .i64 0, .int .i64 0, .int .i64 0, .int .i64 0, .int .i64 0, .int .i64 0, .int .i64 0, .int .i64 0]) := k5
      clear k5 H4
      have c1 : w5.cell? ⟨gr, 6, none⟩ = some (.int .i64 0) := H5.out.r.c 6
      have f1 := H5.out.r.f 6
      have wx := HX6.out.2
      have H6 : Hid (Ef13 w (w5.setCell ⟨gr, 6, none⟩ (.int .i64 z1)) gz gr p g B 24 [.int .i64 lg0, .int .i64 no, .int .i64 ln, .int .i64 a0, .int .i64 z0, .int .i64 a1, .int .i64 z1, .int .i64 0, .int .i64 0, .int .i64 0, .int .i64 0, .int .i64 0, .int .i64 0, .int .i64 0, .int .i64 0]) := H5.out.put 6 (.int .i64 z1)
      clear H5
      go_wp2
      go_roundw
      case rel => exact ⟨2, by omega, rfl, H6.out⟩
      case measure => simp [intOf]
    · clear HX3 HX4 HX5 HX6 HX9 HX10 HX11 HX12 HX13 HX14
      have H2 : Hid (Ef13 w wr gz gr p g B 24 [.int .i64 lg0, .int .i64 no, .int .i64 ln, .int .i64 a0, .int .i64 z0, .int .i64 a1, .int .i64 z1, .int .i64 0, .int .i64 0, .int .i64 0, .int .i64 0, .int .i64 0, .int .i64 0, .int .i64 0, .int .i64 0]) := HJ.out
      clear HJ
      go_wp2_with fail
      refine (rnum4 H2.out a2 HX7.out.1 (by rw [HL.out]; decide)).mono ?_
      rintro e w3 ⟨rfl, k3⟩
      have H3 : Hid (Ef13 w w3 gz gr p g B 28 [.int .i64 lg0, .int .i64 no, .int .i64 ln, .int .i64 a0, .int .i64 z0, .int .i64 a1, .int .i64 z1, .int .i64 0, .int .i64 0, .int .i64 0, .int .i64 0, .int .i64 0, .int .i64 0, .int .i64 0, .int .i64 0]) := k3
      clear k3 H2
      have c1 : w3.cell? ⟨gr, 7, none⟩ = some (.int .i64 0) := H3.out.r.c 7
      have f1 := H3.out.r.f 7
      have wx := HX7.out.2
      have H4 : Hid (Ef13 w (w3.setCell ⟨gr, 7, none⟩ (.int .i64 a2)) gz gr p g B 28 [.int .i64 lg0, .int .i64 no, .int .i64 ln, .int .i64 a0, .int .i64 z0, .int .i64 a1, .int .i64 z1, .int .i64 a2, .int .i64 0, .int .i64 0, .int .i64 0, .int .i64 0, .int .i64 0, .int .i64 0, .int .i64 0]) := H3.out.put 7 (.int .i64 a2)
      clear H3
      go_wp2_with fail
      generalize w3.setCell ⟨gr, 7, none⟩ (.int .i64 a2) = W4 at *
      clear c1 f1 wx
      refine (rnum4 H4.out z2 HX8.out.1 (by rw [HL.out]; decide)).mono ?_
      rintro e w5 ⟨rfl, k5⟩
      have H5 : Hid (Ef13 w w5 gz gr p g B 32 [.int .i64 lg0, .int .i64 no, .int .i64 ln, .int .i64 a0, .int .i64 z0, .int .i64 a1, .int .i64 z1, .int .i64 a2, .int .i64 0, .int .i64 0, .int .i64 0, .int .i64 0, .int .i64 0, .int .i64 0, .int .i64 0]) := k5
      clear k5 H4
      have c1 : w5.cell? ⟨gr, 8, none⟩ = some (.int .i64 0) := H5.out.r.c 8
      have f1 := H5.out.r.f 8
      have wx := HX8.out.2
      have H6 : Hid (Ef13 w (w5.setCell ⟨gr, 8, none⟩ (.int .i64 z2)) gz gr p g B 32 [.int .i64 lg0, .int .i64 no, .int .i64 ln, .int .i64 a0, .int .i64 z0, .int .i64 a1, .int .i64 z1, .int .i64 a2, .int .i64 z2, .int .i64 0, .int .i64 0, .int .i64 0, .int .i64 0, .int .i64 0, .int .i64 0]) := H5.out.put 8 (.int .i64 z2)
      clear H5
      go_wp2
      go_roundw
      case rel => exact ⟨3, by omega, rfl, H6.out⟩
      case measure => simp [intOf]
    · clear HX3 HX4 HX5 HX6 HX7 HX8 HX11 HX12 HX13 HX14
      have H2 : Hid (Ef13 w wr gz gr p g B 32 [.int .i64 lg0, .int .i64 no, .int .i64 ln, .int .i64 a0, .int .i64 z0, .int .i64 a1, .int .i64 z1, .int .i64 a2, .int .i64 z2, .int .i64 0, .int .i64 0, .int .i64 0, .int .i64 0, .int .i64 0, .int .i64 0]) := HJ.out
      clear HJ
      go_wp2_with fail
      refine (rnum4 H2.out a3 HX9.out.1 (by rw [HL.out]; decide)).mono ?_
      rintro e w3 ⟨rfl, k3⟩
      have H3 : Hid (Ef13 w w3 gz gr p g B 36 [.int .i64 lg0, .int .i64 no, .int .i64 ln, .int .i64 a0, .int .i64 z0, .int .i64 a1, .int .i64 z1, .int .i64 a2, .int .i64 z2, .int .i64 0, .int .i64 0, .int .i64 0, .int .i64 0, .int .i64 0, .int .i64 0]) := k3
      clear k3 H2
      have c1 : w3.cell? ⟨gr, 9, none⟩ = some (.int .i64 0) := H3.out.r.c 9
      have f1 := H3.out.r.f 9
      have wx := HX9.out.2
      have H4 : Hid (Ef13 w (w3.setCell ⟨gr, 9, none⟩ (.int .i64 a3)) gz gr p g B 36 [.int .i64 lg0, .int .i64 no, .int .i64 ln, .int .i64 a0, .int .i64 z0, .int .i64 a1, .int .i64 z1, .int .i64 a2, .int .i64 z2, .int .i64 a3, .int .i64 0, .int .i64 0, .int .i64 0, .int .i64 0, .int .i64 0]) := H3.out.put 9 (.int .i64 a3)
      clear H3
      go_wp2_with fail
      generalize w3.setCell ⟨gr, 9, none⟩ (.int .i64 a3) = W4 at *
      clear c1 f1 wx
      refine (rnum4 H4.out z3 HX10.out.1 (by rw [HL.out]; decide)).mono ?_
      rintro e w5 ⟨rfl, k5⟩
      have H5 : Hid (Ef13 w w5 gz gr p g B 40 [.int .i64 lg0, .int .i64 no, .int .i64 ln, .int .i64 a0, .int .i64 z0, .int .i64 a1, .int .i64 z1, .int .i64 a2, .int .i64 z2, .int .i64 a3, .int .i64 0, .int .i64 0, .int .i64 0, .int .i64 0, .int .i64 0]) := k5
      clear k5 H4
      have c1 : w5.cell? ⟨gr, 10, none⟩ = some (.int .i64 0) := H5.out.r.c 10
      have f1 := H5.out.r.f 10
      have wx := HX10.out.2
      have H6 : Hid (Ef13 w (w5.setCell ⟨gr, 10, none⟩ (.int .i64 z3)) gz gr p g B 40 [.int .i64 lg0, .int .i64 no, .int .i64 ln, .int .i64 a0, .int .i64 z0, .int .i64 a1, .int .i64 z1, .int .i64 a2, .int .i64 z2, .int .i64 a3, .int .i64 z3, .int .i64 0, .int .i64 0, .int .i64 0, .int .i64 0]) := H5.out.put 10 (.int .i64 z3)
      clear H5
      go_wp2
      go_roundw
      case rel => exact ⟨4, by omega, rfl, H6.out⟩
      case measure => simp [intOf]
    · clear HX3 HX4 HX5 HX6 HX7 HX8 HX9 HX10 HX13 HX14
      have H2 : Hid (Ef13 w wr gz gr p g B 40 [.int .i64 lg0, .int .i64 no, .int .i64 ln, .int .i64 a0, .int .i64 z0, .int .i64 a1, .int .i64 z1, .int .i64 a2, .int .i64 z2, .int .i64 a3, .int .i64 z3, .int .i64 0, .int .i64 0, .int .i64 0, .int .i64 0]) := HJ.out
      clear HJ
      go_wp2_with fail
      refine (rnum4 H2.out a4 HX11.out.1 (by rw [HL.out]; decide)).mono ?_
      rintro e w3 ⟨rfl, k3⟩
      have H3 : Hid (Ef13 w w3 gz gr p g B 44 [.int .i64 lg0, .int .i64 no, .int .i64 ln, .int .i64 a0, .int .i64 z0, .int .i64 a1, .int .i64 z1, .int .i64 a2, .int .i64 z2, .int .i64 a3, .int .i64 z3, .int .i64 0, .int .i64 0, .int .i64 0, .int .i64 0]) := k3
      clear k3 H2
      have c1 : w3.cell? ⟨gr, 11, none⟩ = some (.int .i64 0) := H3.out.r.c 11
      have f1 := H3.out.r.f 11
      have wx := HX11.out.2
      have H4 : Hid (Ef13 w (w3.setCell ⟨gr, 11, none⟩ (.int .i64 a4)) gz gr p g B 44 [.int .i64 lg0, .int .i64 no, .int .i64 ln, .int .i64 a0, .int .i64 z0, .int .i64 a1, .int .i64 z1, .int .i64 a2, .int .i64 z2, .int .i64 a3, .int .i64 z3, .int .i64 a4, .int .i64 0, .int .i64 0, .int .i64 0]) := H3.out.put 11 (.int .i64 a4)
      clear H3
      go_wp2_with fail
      generalize w3.setCell ⟨gr, 11, none⟩ (.int .i64 a4) = W4 at *
      clear c1 f1 wx
      refine (rnum4 H4.out z4 HX12.out.1 (by rw [HL.out]; decide)).mono ?_
      rintro e w5 ⟨rfl, k5⟩
      have H5 : Hid (Ef13 w w5 gz gr p g B 48 [.int .i64 lg0, .int .i64 no, .int .i64 ln, .int .i64 a0, .int .i64 z0, .int .i64 a1, .int .i64 z1, .int .i64 a2, .int .i64 z2, .int .i64 a3, .int .i64 z3, .int .i64 a4, .int .i64 0, .int .i64 0, .int .i64 0]) := k5
      clear k5 H4
      have c1 : w5.cell? ⟨gr, 12, none⟩ = some (.int .i64 0) := H5.out.r.c 12
      have f1 := H5.out.r.f 12
      have wx := HX12.out.2
      have H6 : Hid (Ef13 w (w5.setCell ⟨gr, 12, none⟩ (.int .i64 z4)) gz gr p g B 48 [.int .i64 lg0, .int .i64 no, .int .i64 ln, .int .i64 a0, .int .i64 z0, .int .i64 a1, .int .i64 z1, .int .i64 a2, .int .i64 z2, .int .i64 a3, .int .i64 z3, .int .i64 a4, .int .i64 z4, .int .i64 0, .int .i64 0]) := H5.out.put 12 (.int .i64 z4)
      clear H5
      go_wp2
      go_roundw
      case rel => exact ⟨5, by omega, rfl, H6.out⟩
      case measure => simp [intOf]
    · clear HX3 HX4 HX5 HX6 HX7 HX8 HX9 HX10 HX11 HX12
      have H2 : Hid (Ef13 w wr gz gr p g B 48 [.int .i64 lg0, .int .i64 no, .int .i64 ln, .int .i64 a0, .int .i64 z0, .int .i64 a1, .int .i64 z1, .int .i64 a2, .int .i64 z2, .int .i64 a3, .int .i64 z3, .int .i64 a4, .int .i64 z4, .int .i64 0, .int .i64 0]) := HJ.out
      clear HJ
      go_wp2_with fail
      refine (rnum4 H2.out a5 HX13.out.1 (by rw [HL.out]; decide)).mono ?_
      rintro e w3 ⟨rfl, k3⟩
      have H3 : Hid (Ef13 w w3 gz gr p g B 52 [.int .i64 lg0, .int .i64 no, .int .i64 ln, .int .i64 a0, .int .i64 z0, .int .i64 a1, .int .i64 z1, .int .i64 a2, .int .i64 z2, .int .i64 a3, .int .i64 z3, .int .i64 a4, .int .i64 z4, .int .i64 0, .int .i64 0]) := k3
      clear k3 H2
      have c1 : w3.cell? ⟨gr, 13, none⟩ = some (.int .i64 0) := H3.out.r.c 13
      have f1 := H3.out.r.f 13
      have wx := HX13.out.2
      have H4 : Hid (Ef13 w (w3.setCell ⟨gr, 13, none⟩ (.int .i64 a5)) gz gr p g B 52 [.int .i64 lg0, .int .i64 no, .int .i64 ln, .int .i64 a0, .int .i64 z0, .int .i64 a1, .int .i64 z1, .int .i64 a2, .int .i64 z2, .int .i64 a3, .int .i64 z3, .int .i64 a4, .int .i64 z4, .int .i64 a5, .int .i64 0]) := H3.out.put 13 (.int .i64 a5)
      clear H3
      go_wp2_with fail
      generalize w3.setCell ⟨gr, 13, none⟩ (.int .i64 a5) = W4 at *
      clear c1 f1 wx
      refine (rnum4 H4.out z5 HX14.out.1 (by rw [HL.out]; decide)).mono ?_
      rintro e w5 ⟨rfl, k5⟩
      have H5 : Hid (Ef13 w w5 gz gr p g B 56 [.int .i64 lg0, .int .i64 no, .int .i64 ln, .int .i64 a0, .int .i64 z0, .int .i64 a1, .int .i64 z1, .int .i64 a2, .int .i64 z2, .int .i64 a3, .int .i64 z3, .int .i64 a4, .int .i64 z4, .int .i64 a5, .int .i64 0]) := k5
      clear k5 H4
      have c1 : w5.cell? ⟨gr, 14, none⟩ = some (.int .i64 0) := H5.out.r.c 14
      have f1 := H5.out.r.f 14
      have wx := HX14.out.2
      have H6 : Hid (Ef13 w (w5.setCell ⟨gr, 14, none⟩ (.int .i64 z5)) gz gr p g B 56 [.int .i64 lg0, .int .i64 no, .int .i64 ln, .int .i64 a0, .int .i64 z0, .int .i64 a1, .int .i64 z1, .int .i64 a2, .int .i64 z2, .int .i64 a3, .int .i64 z3, .int .i64 a4, .int .i64 z4, .int .i64 a5, .int .i64 z5]) := H5.out.put 14 (.int .i64 z5)
      clear H5
      go_wp2
      go_roundw
      case rel => exact ⟨6, by omega, rfl, H6.out⟩
      case measure => simp [intOf]
    · have H2 : Hid (Ef13 w wr gz gr p g B 56 [.int .i64 lg0, .int .i64 no, .int .i64 ln, .int .i64 a0, .int .i64 z0, .int .i64 a1, .int .i64 z1, .int .i64 a2, .int .i64 z2, .int .i64 a3, .int .i64 z3, .int .i64 a4, .int .i64 z4, .int .i64 a5, .int .i64 z5]) := HJ.out
      clear HJ
      go_wp2_with (first | ((with_reducible refine loadS_here ?_); refine wpList_loadB rfl 26 _ rfl gr rfl H2.out.r Try.underlying26 rfl infoS ?_) | ((with_reducible refine storeS_here ?_); refine wpList_storeB rfl 26 _ _ rfl gz [.int .i64 lg0, .int .i64 no, .int .i64 ln, .int .i64 a0, .int .i64 z0, .int .i64 a1, .int .i64 z1, .int .i64 a2, .int .i64 z2, .int .i64 a3, .int .i64 z3, .int .i64 a4, .int .i64 z4, .int .i64 a5, .int .i64 z5] rfl rfl H2.out.z infoS rfl rfl ?_))
      intro W5 B5 G5
      have HQ : Hid _ := And.intro B5 G5
      clear B5 G5
      go_wp2
      exact bodyPost_ret (v := .agg #[.int .i64 lg0, .int .i64 no, .int .i64 ln, .int .i64 a0, .int .i64 z0, .int .i64 a1, .int .i64 z1, .int .i64 a2, .int .i64 z2, .int .i64 a3, .int .i64 z3, .int .i64 a4, .int .i64 z4, .int .i64 a5, .int .i64 z5]) (results_cell_row rfl _ _ gz 26 _ (0, 0) _ rfl HQ.out.1.blk Try.underlying26 rfl infoS) rfl ⟨rfl, grown_new H2.out.gw HQ.out.2 H2.out.lz⟩
end Go.Proofs.Ytaedcblphcfkfaa
