/- Is a plan what Make makes? How many bytes has a slot? A slot's size, and the page of one of its bytes. The sums, as functions of numbers. The document's sum of bytes. The document's lz: a length and its four bits. The document's lz: the bytes that tell a length. The document's numbers as bytes. A record; is it right? The one that follows. A record's bytes. -/
import Derived.BigRegion
import Derived.Laws.BitsAllLaws
import Derived.Test.YtfhgbddeclldnaaGreatProg
import Derived.WalkLawsBesides
import Derived.Deep.QuietTactic
import Derived.BigQuiet
import Derived.WalkKit
import Derived.Below
import Derived.Handy
import Derived.Laws.OwnMore
import Derived.Test.YtfhgbddeclldnaaGreatQ01
import Derived.Test.YtfhgbddeclldnaaGreatQ02
import Derived.Test.YtfhgbddeclldnaaGreatQ06
namespace Go.Proofs.YtfhgbddeclldnaaGreat.Pa
open Go.RowKit
set_option maxRecDepth 100000
set_option linter.unusedSimpArgs false
set_option linter.unusedVariables false

def bnd64 (x : Int) : Prop := -9223372036854775808 ≤ x ∧ x ≤ 9223372036854775807
def Pl.ok (P : Pl) : Prop := bnd64 P.s ∧ bnd64 P.p ∧ bnd64 P.b ∧ bnd64 P.x0 ∧ bnd64 P.x1 ∧ bnd64 P.y0 ∧ bnd64 P.y1 ∧ bnd64 P.n
/-- a variable of several cells -/
structure Bx (W : World) (g : Nat) (T : TypeId) (cs : List Value) : Prop where
  blk : W.heap[g]? = some (.cells cs.toArray T (0, 0))
theorem Bx.lt {W : World} {g : Nat} {T : TypeId} {cs : List Value} (h : Bx W g T cs) : g < W.heap.size := (Array.getElem?_eq_some_iff.1 h.blk).1
theorem Bx.c {W : World} {g : Nat} {T : TypeId} {cs : List Value} (h : Bx W g T cs) (i : Nat) : W.cell? ⟨g, i, none⟩ = cs[i]? := by simp [World.cell?, h.blk]
theorem Bx.kept {W W' : World} {g : Nat} {T : TypeId} {cs : List Value} (h : Bx W g T cs) (hg : W.grownBy W' none) : Bx W' g T cs := ⟨by rw [hg.block g h.lt (by simp)]; exact h.blk⟩
theorem Bx.new (w : World) (T : TypeId) (cs : List Value) : Bx (w.alloc (.cells cs.toArray T)) w.heap.size T cs := ⟨heap_alloc_new _ _⟩
/-- is it what Make makes? -/
def rgt (P : Pl) : Bool := (mk P.s P.p P.b).1.same P && decide ((mk P.s P.p P.b).2 = 0)
theorem rgt_iff {P : Pl} : rgt P = true ↔ mk P.s P.p P.b = (P, 0) := by
  unfold rgt
  rw [Bool.and_eq_true, Pl.same_iff, decide_eq_true_iff]
  constructor
  · rintro ⟨h1, h2⟩; exact Prod.ext h1 h2
  · intro h; rw [h]; exact ⟨rfl, rfl⟩
theorem mk_geo {s p b : Int} (h : (mk s p b).2 = 0) : (mk s p b).1.s = s ∧ (mk s p b).1.p = p ∧ (mk s p b).1.b = b := by
  unfold mk at h ⊢
  split at h
  · rename_i k; exact absurd h k
  · split at h
    · simp at h
    · rename_i k1 k2
      rw [if_neg k1, if_neg k2]
      exact ⟨rfl, rfl, rfl⟩

theorem and_no {P Q : Pl} {e : Int} (h : ¬ ((P.s = Q.s ∧ P.p = Q.p ∧ P.b = Q.b ∧ P.x0 = Q.x0 ∧ P.x1 = Q.x1 ∧ P.y0 = Q.y0 ∧ P.y1 = Q.y1 ∧ P.n = Q.n) ∧ e = 0)) : (P.same Q && decide (e = 0)) = false := by
  cases k : (P.same Q && decide (e = 0)) with
  | false => rfl
  | true =>
    rw [Bool.and_eq_true, Pl.same_iff, decide_eq_true_iff] at k
    exact absurd ⟨by rw [k.1]; simp, k.2⟩ h
set_option maxHeartbeats 4000000 in
theorem right_any (P : Pl) (w : World) (hP : P.ok) : Calls Tryz.prog 74 #[P.val] w fun e w' => e = .returned (.bool (rgt P)) ∧ w.grownBy w' none := by
  have B0 := Bx.new w 26 P.cells
  have G0 := World.grownBy_alloc w (.cells P.cells.toArray 26) none
  have hm := make_any P.s P.p P.b (w.alloc (.cells P.cells.toArray 26)) hP.1 hP.2.1 hP.2.2.1
  have hr : rgt P = ((mk P.s P.p P.b).1.same P && decide ((mk P.s P.p P.b).2 = 0)) := rfl
  have hgeo := mk_geo (s := P.s) (p := P.p) (b := P.b)
  rw [hr]
  generalize mk P.s P.p P.b = M at hm hgeo ⊢
  obtain ⟨⟨qs, qp, qb, q0, q1, q2, q3, qn⟩, qe⟩ := M
  obtain ⟨s, p, b, x0, x1, y0, y1, n⟩ := P
  simp only [Pl.val, Pl.cells] at hm hgeo B0 G0 ⊢
  have HB : Hid _ := And.intro B0 G0
  have HG : Hid _ := hgeo
  clear B0 G0 hr hgeo
  go_enter Tryz.func74, Tryz.ntmps74
  go_wp2_with fail
  refine hm.mono ?_
  rintro e w1 ⟨rfl, g1⟩
  have B1 := HB.out.1.kept g1
  have G1 := grown_trans HB.out.2 g1
  have B2 := B1.kept (World.grownBy_alloc w1 (.cells #[.int .i64 qs, .int .i64 qp, .int .i64 qb, .int .i64 q0, .int .i64 q1, .int .i64 q2, .int .i64 q3, .int .i64 qn] 26) none)
  have HG2 : Hid _ := grown_trans G1 (World.grownBy_alloc w1 (.cells #[.int .i64 qs, .int .i64 qp, .int .i64 qb, .int .i64 q0, .int .i64 q1, .int .i64 q2, .int .i64 q3, .int .i64 qn] 26) none)
  have c3 := B2.c 3
  have c4 := B2.c 4
  have c5 := B2.c 5
  have c6 := B2.c 6
  have c7 := B2.c 7
  simp only [List.getElem?_cons_succ, List.getElem?_cons_zero] at c3 c4 c5 c6 c7
  clear B1 G1 B2 hm g1 HB
  generalize w.heap.size = g0 at *
  simp only
  by_cases k0 : qe = 0
  · skip
    by_cases k1 : x0 = q0
    · skip
      by_cases k2 : x1 = q1
      · skip
        by_cases k3 : y0 = q2
        · skip
          by_cases k4 : y1 = q3
          · skip
            by_cases k5 : n = qn
            · skip
              obtain ⟨e1, e2, e3⟩ := HG.out k0
              subst k0 k1 k2 k3 k4 k5 e1 e2 e3
              go_wp2
              go_ret
              exact ⟨by simp [Pl.same_self], HG2.out⟩
            · have hf : (n == qn) = false := by simp; omega
              go_wp2
              go_ret
              exact ⟨by rw [and_no (by simp only; omega)]; rfl, HG2.out⟩
          · have hf : (y1 == q3) = false := by simp; omega
            go_wp2
            go_ret
            exact ⟨by rw [and_no (by simp only; omega)]; rfl, HG2.out⟩
        · have hf : (y0 == q2) = false := by simp; omega
          go_wp2
          go_ret
          exact ⟨by rw [and_no (by simp only; omega)]; rfl, HG2.out⟩
      · have hf : (x1 == q1) = false := by simp; omega
        go_wp2
        go_ret
        exact ⟨by rw [and_no (by simp only; omega)]; rfl, HG2.out⟩
    · have hf : (x0 == q0) = false := by simp; omega
      go_wp2
      go_ret
      exact ⟨by rw [and_no (by simp only; omega)]; rfl, HG2.out⟩
  · have hf : (qe == 0) = false := by simp; omega
    go_wp2
    go_ret
    exact ⟨by rw [and_no (by simp only; omega)]; rfl, HG2.out⟩

def sze (P : Pl) : Int := P.n * P.p * P.b
end Go.Proofs.YtfhgbddeclldnaaGreat.Pa

namespace Go.Proofs.YtfhgbddeclldnaaGreat.Pa
open Go.RowKit
set_option maxRecDepth 100000
set_option linter.unusedSimpArgs false
set_option linter.unusedVariables false

theorem rgt_facts {P : Pl} (h : rgt P = true) : (4 ≤ P.s ∧ P.s ≤ 4096) ∧ (1 ≤ P.p ∧ P.p ≤ 1024) ∧ (64 ≤ P.b ∧ P.b ≤ 65536) ∧ P.x0 = 0 ∧ P.x1 = 1 ∧ P.y0 = 2 ∧ P.y1 = 2 + P.n ∧ P.n = slots P.s P.p P.b ∧ (1 ≤ P.n ∧ 2 + 2 * P.n ≤ P.s) ∧ P.s * P.p * P.b ≤ 16777216 := by
  have e := rgt_iff.1 h
  unfold mk at e
  split at e
  · rename_i k
    simp only [Prod.mk.injEq] at e
    exact absurd e.2 k
  · rename_i k0
    split at e
    · simp at e
    · rename_i k1
      have hg := chk_zero (by simpa using k0)
      simp only [Prod.mk.injEq, and_true] at e
      obtain ⟨s, p, b, x0, x1, y0, y1, n⟩ := P
      simp only [Pl.mk.injEq, true_and] at e k1 hg ⊢
      obtain ⟨e0, e1, e2, e3, e4⟩ := e
      have hn : 1 ≤ slots s p b ∧ 2 + 2 * slots s p b ≤ s := by
        unfold slots
        rw [Int.max_def, Int.min_def]
        split <;> split <;> omega
      refine ⟨by omega, by omega, by omega, by omega, by omega, by omega, by omega, by omega, by omega, hg.2.2.2.2.2.2⟩
theorem prod3 {n p b : Int} (h1 : 1 ≤ n ∧ n ≤ 4096) (h2 : 1 ≤ p ∧ p ≤ 1024) (h3 : 16 ≤ b ∧ b ≤ 65536) : (1 ≤ n * p ∧ n * p ≤ 4194304) ∧ (1 ≤ n * p * b ∧ n * p * b ≤ 274877906944) := by
  have e1 : n * p ≤ 4096 * 1024 := Int.mul_le_mul h1.2 h2.2 (by omega) (by omega)
  have e0 : 1 * 1 ≤ n * p := Int.mul_le_mul h1.1 h2.1 (by omega) (by omega)
  have e2 : n * p * b ≤ 4096 * 1024 * 65536 := Int.mul_le_mul e1 h3.2 (by omega) (by omega)
  have e3 : 1 * 1 ≤ n * p * b := Int.mul_le_mul (by omega) (by omega) (by omega) (by omega)
  omega
theorem yp_in {y p : Int} (h : 0 ≤ y ∧ y ≤ 4096) (k : 1 ≤ p ∧ p ≤ 1024) : 0 ≤ y * p ∧ y * p ≤ 4194304 := by
  have e1 : y * p ≤ 4096 * 1024 := Int.mul_le_mul h.2 k.2 (by omega) (by omega)
  exact ⟨Int.mul_nonneg h.1 (by omega), e1⟩
theorem drewG (w : World) : w.grownBy w.drew none := ⟨rfl, rfl, rfl, Nat.le_refl _, fun _ _ _ => rfl⟩
/-- Page, as a plain function -/
def pge (P : Pl) (slot at_ : Int) : Int × Int × Int :=
  if rgt P = false ∨ slot < 0 ∨ 1 < slot then (0, 0, 1) else if at_ < 0 ∨ sze P ≤ at_ then (0, 0, 9) else ((if slot = 0 then P.y0 else P.y1) * P.p + at_ / P.b, at_ % P.b, 0)

end Go.Proofs.YtfhgbddeclldnaaGreat.Pa

namespace Go.Proofs.YtfhgbddeclldnaaGreat
open Go.RowKit
set_option maxRecDepth 100000
set_option linter.unusedSimpArgs false
set_option linter.unusedVariables false

def half (n : Nat) : Nat := if n % 2 = 1 then n / 2 ^^^ 3988292384 else n / 2
def halves : Nat → Nat → Nat
  | 0, n => n
  | k + 1, n => half (halves k n)
/-- an entry of the table -/
def ent (n : Nat) : Nat := halves 8 n
theorem half_lt {n : Nat} (h : n < 4294967296) : half n < 4294967296 := by
  unfold half
  split
  · exact Nat.xor_lt_two_pow (n := 32) (by omega) (by decide)
  · omega
theorem halves_lt {n : Nat} (h : n < 4294967296) (k : Nat) : halves k n < 4294967296 := by
  induction k with
  | zero => exact h
  | succ k ih => exact half_lt ih
theorem ent_lt {n : Nat} (h : n < 4294967296) : ent n < 4294967296 := halves_lt h 8

/-- a byte more, by a table -/
def stp (T : Nat → Nat) (c : Nat) (b : Int) : Nat := c / 256 ^^^ T (c % 256 ^^^ b.toNat)
def upd (T : Nat → Nat) (c : Nat) (bs : List Int) : Nat := bs.foldl (stp T) c
def crc (T : Nat → Nat) (c : Nat) (bs : List Int) : Nat := 4294967295 - upd T (4294967295 - c) bs
def Tab (T : Nat → Nat) : Prop := ∀ i, i < 256 → T i < 4294967296
theorem ent_tab : Tab ent := fun i h => ent_lt (by omega)

theorem ix_lt {c : Nat} {b : Int} (hb : 0 ≤ b ∧ b ≤ 255) : c % 256 ^^^ b.toNat < 256 := Nat.xor_lt_two_pow (n := 8) (by omega) (by omega)
theorem stp_lt {T : Nat → Nat} (hT : Tab T) {c : Nat} {b : Int} (hc : c < 4294967296) (hb : 0 ≤ b ∧ b ≤ 255) : stp T c b < 4294967296 :=
  Nat.xor_lt_two_pow (n := 32) (by omega) (hT _ (ix_lt hb))
theorem fold_lt {M : Nat} {f : Nat → Int → Nat} {bs : List Int} (hf : ∀ c b, c < M → b ∈ bs → f c b < M) {c : Nat} (hc : c < M) : bs.foldl f c < M := by
  induction bs generalizing c with
  | nil => exact hc
  | cons b r ih =>
    rw [List.foldl_cons]
    exact ih (fun c x hc hx => hf c x hc (List.mem_cons_of_mem _ hx)) (hf c b hc (List.mem_cons_self ..))
theorem upd_lt {T : Nat → Nat} (hT : Tab T) {bs : List Int} (hb : Byt bs) {c : Nat} (hc : c < 4294967296) : upd T c bs < 4294967296 :=
  fold_lt (fun _ b hc hx => stp_lt hT hc (hb b hx)) hc
theorem fold_snoc (f : Nat → Int → Nat) (c : Nat) (bs : List Int) (j : Nat) (h : j < bs.length) : (bs.take (j + 1)).foldl f c = f ((bs.take j).foldl f c) (bs.getD j 0) := by
  rw [take_snocI _ _ h, List.foldl_append, List.foldl_cons, List.foldl_nil]
theorem upd_snoc (T : Nat → Nat) (c : Nat) (bs : List Int) (j : Nat) (h : j < bs.length) : upd T c (bs.take (j + 1)) = stp T (upd T c (bs.take j)) (bs.getD j 0) := by
  unfold upd; rw [fold_snoc _ _ _ _ h]
theorem upd_append (T : Nat → Nat) (c : Nat) (a b : List Int) : upd T c (a ++ b) = upd T (upd T c a) b := by unfold upd; rw [List.foldl_append]
theorem crc_lt (T : Nat → Nat) (c : Nat) (bs : List Int) : crc T c bs < 4294967296 := by unfold crc; omega
theorem crc_append {T : Nat → Nat} (hT : Tab T) (c : Nat) {a : List Int} (b : List Int) (ha : Byt a) : crc T c (a ++ b) = crc T (crc T c a) b := by
  have := upd_lt hT ha (c := 4294967295 - c) (by omega)
  unfold crc
  rw [upd_append]
  congr 2
  omega

/-- the digest of 64 bits -/
def dig1 (d : Nat) (b : Int) : Nat := (d ^^^ b.toNat) * 1099511628211 % 18446744073709551616
def dig (d : Nat) (bs : List Int) : Nat := bs.foldl dig1 d
theorem dig1_lt (d : Nat) (b : Int) : dig1 d b < 18446744073709551616 := Nat.mod_lt _ (by decide)
theorem dig_lt {d : Nat} (h : d < 18446744073709551616) (bs : List Int) : dig d bs < 18446744073709551616 :=
  fold_lt (fun d b _ _ => dig1_lt d b) h
theorem dig_snoc (d : Nat) (bs : List Int) (j : Nat) (h : j < bs.length) : dig d (bs.take (j + 1)) = dig1 (dig d (bs.take j)) (bs.getD j 0) := by
  unfold dig; rw [fold_snoc _ _ _ _ h]
theorem dig_append (d : Nat) (a b : List Int) : dig d (a ++ b) = dig (dig d a) b := by unfold dig; rw [List.foldl_append]

/-! the numbers of the model -/
theorem and1 {n : Nat} (h : n < 4294967296) : bits .and .u32 (n : Int) 1 = ((n % 2 : Nat) : Int) := by
  have := u32_and_nat n 1 h (by decide)
  rw [Nat.and_one_is_mod] at this
  exact this
theorem xor32 {a b : Nat} (ha : a < 4294967296) (hb : b < 4294967296) : bits .xor .u32 (a : Int) (b : Int) = ((a ^^^ b : Nat) : Int) := u32_xor_nat a b ha hb
theorem xor64 {a b : Nat} (ha : a < 18446744073709551616) (hb : b < 18446744073709551616) : bits .xor .u64 (a : Int) (b : Int) = ((a ^^^ b : Nat) : Int) := u64_xor_nat a b ha hb
theorem xor8 {a b : Nat} (ha : a < 256) (hb : b < 256) : bits .xor .u8 (a : Int) (b : Int) = ((a ^^^ b : Nat) : Int) := u8_xor_nat a b ha hb
end Go.Proofs.YtfhgbddeclldnaaGreat

namespace Go.Proofs.YtfhgbddeclldnaaGreat
open Go.RowKit
set_option maxRecDepth 100000
set_option linter.unusedSimpArgs false
set_option linter.unusedVariables false

theorem half1 {x : Nat} (h : x % 2 = 1) : half x = x / 2 ^^^ 3988292384 := by simp [half, h]
theorem half0 {x : Nat} (h : x % 2 ≠ 1) : half x = x / 2 := by simp [half, h]
theorem xorP {x : Nat} (h : x < 4294967296) : bits .xor .u32 ((x : Int) / 2) 3988292384 = ((x / 2 ^^^ 3988292384 : Nat) : Int) := xor32 (a := x / 2) (b := 3988292384) (by omega) (by decide)

theorem refentry_any (n : Nat) (w : World) (hn : n < 4294967296) : Calls Tryz.prog 97 #[.int .u32 n] w fun e w' => e = .returned (.int .u32 (ent n)) ∧ w = w' := by
  go_enter Tryz.func97, Tryz.ntmps97
  go_wp2
  go_loop [0, 3] (fun v i => ∃ j : Nat, j ≤ 8 ∧ i = .int .i64 j ∧ v = .int .u32 (halves j n)) (fun _ i => 8 - (intOf i).toNat)
  case atStart => exact ⟨0, Nat.zero_le _, rfl, rfl⟩
  case round =>
    obtain ⟨j, hj, rfl, rfl⟩ := hrel
    by_cases hlt : j < 8
    · have hx := halves_lt hn j
      have hs : halves (j + 1) n = half (halves j n) := rfl
      generalize halves j n = x at hx hs
      by_cases hp : x % 2 = 1
      · rw [half1 hp] at hs
        have hp' : ((x : Int) % 2) = 1 := by omega
        go_wp2
        go_round
        case rel => exact ⟨j + 1, by omega, by go_num, by rw [hs, xorP hx]⟩
        case measure => simp [intOf]; omega
      · rw [half0 hp] at hs
        have hp' : ((x : Int) % 2) = 0 := by omega
        go_wp2
        go_round
        case rel => exact ⟨j + 1, by omega, by go_num, by rw [hs]; rfl⟩
        case measure => simp [intOf]; omega
    · go_wp2
      go_ret
      have : j = 8 := by omega
      subst this
      exact ⟨rfl, rfl⟩

theorem stp_eq {T : Nat → Nat} (hT : Tab T) {x : Nat} {b : Int} (hb : 0 ≤ b ∧ b ≤ 255) (hx : x < 4294967296) : bits .xor .u32 ((x : Int) / 256) (T (x % 256 ^^^ b.toNat)) = ((stp T x b : Nat) : Int) :=
  xor32 (a := x / 256) (by omega) (hT _ (ix_lt hb))
theorem ix_eq {x : Nat} {b : Int} (hb : 0 ≤ b ∧ b ≤ 255) : bits .xor .u32 ((x : Int) % 256) b = ((x % 256 ^^^ b.toNat : Nat) : Int) := by
  obtain ⟨c, rfl⟩ := Int.eq_ofNat_of_zero_le hb.1
  exact xor32 (a := x % 256) (b := c) (by omega) (by omega)

theorem refcrc_any (c : Nat) (a : Option Addr) (len cap : Nat) (bs : List Int) (w : World) (R : Row w a len bs) (hc : c < 4294967296) : Calls Tryz.prog 86 #[.int .u32 c, .slice a len cap] w fun e w' => e = .returned (.int .u32 (crc ent c bs)) ∧ w = w' := by
  have hle := R.le
  unfold maxLen at hle
  have e1 : (4294967295 - (c : Int)) = ((4294967295 - c : Nat) : Int) := by omega
  have hd : 4294967295 - c < 4294967296 := by omega
  unfold crc
  generalize 4294967295 - c = d at e1 hd
  go_enter Tryz.func86, Tryz.ntmps86
  go_wp2
  go_loop [0, 5] (fun v i => ∃ j : Nat, j ≤ len ∧ i = .int .i64 j ∧ v = .int .u32 (upd ent d (bs.take j))) (fun _ i => len - (intOf i).toNat)
  case atStart => exact ⟨0, Nat.zero_le _, rfl, rfl⟩
  case round =>
    obtain ⟨j, hj, rfl, rfl⟩ := hrel
    by_cases hlt : j < len
    · obtain ⟨b, off, rfl, hc⟩ := R.cells (by omega)
      have hcell := hc j hlt
      have hr := R.byt.getD j
      have hs := upd_snoc ent d bs j (by rw [R.len_eq]; exact hlt)
      have hx := upd_lt ent_tab (R.byt.take j) hd
      generalize bs.getD j 0 = x at hcell hr hs
      generalize upd ent d (bs.take j) = y at hs hx
      clear hc
      have hw : IntKind.u32.wrap x = x := by rw [IntKind.wrap_u32]; omega
      have hi := ix_eq (x := y) hr
      have hE := refentry_any (y % 256 ^^^ x.toNat) w (by have := ix_lt (c := y) hr; omega)
      have hS := stp_eq ent_tab hr hx
      go_wp2_with (go_at_call 97; refine hE.mono ?_; rintro e w' ⟨rfl, rfl⟩)
      go_round
      case rel => exact ⟨j + 1, by omega, by go_num, by rw [hs, ← hS]⟩
      case measure => simp [intOf]; omega
    · have hx := upd_lt ent_tab R.byt hd
      have : j = len := by omega
      subst this
      rw [List.take_of_length_le (Nat.le_of_eq R.len_eq)]
      generalize hy : upd ent d bs = y at hx
      have e2 : (4294967295 - (y : Int)) = ((4294967295 - y : Nat) : Int) := by omega
      go_wp2
      go_ret
      exact ⟨rfl, rfl⟩
end Go.Proofs.YtfhgbddeclldnaaGreat

namespace Go.Proofs.YtfhgbddeclldnaaGreat
open Go.RowKit
set_option maxRecDepth 100000
set_option linter.unusedSimpArgs false
set_option linter.unusedVariables false

/-- a length whose further bytes follow: it, the place behind; -1: it ends too early -/
def lnk : List Int → Int → Int → Int × Int
  | [], _, p => (-1, p)
  | b :: r, n, p => if b = 255 then lnk r (n + 255) (p + 1) else (n + b, p + 1)
def lng (bs : List Int) (n : Int) (p : Nat) : Int × Int := if n < 15 then (n, (p : Int)) else lnk (bs.drop p) n p
def fou (n : Int) : Int := if 15 < n then 15 else n

theorem lnk_at {bs : List Int} {p : Nat} (h : p < bs.length) (n : Int) : lnk (bs.drop p) n p = if bs.getD p 0 = 255 then lnk (bs.drop (p + 1)) (n + 255) ((p + 1 : Nat) : Int) else (n + bs.getD p 0, ((p + 1 : Nat) : Int)) := by
  rw [List.drop_eq_getElem_cons h, lnk]
  simp [List.getD_eq_getElem?_getD, List.getElem?_eq_getElem h]

end Go.Proofs.YtfhgbddeclldnaaGreat

namespace Go.Proofs.YtfhgbddeclldnaaGreat
open Go.RowKit
set_option maxRecDepth 100000
set_option linter.unusedSimpArgs false
set_option linter.unusedVariables false

theorem info_parts {P : Program} {t : TypeId} {z : Option Value} {s b : Nat} (h : (P.info? t).map (fun i => (i.zero, i.size, i.bytes)) = some (z, s, b)) : ∃ i, P.info? t = some i ∧ i.zero = z ∧ i.size = s ∧ i.bytes = b := by
  cases e : P.info? t with
  | none => rw [e] at h; simp at h
  | some i => rw [e] at h; simp at h; exact ⟨i, rfl, h.1, h.2.1, h.2.2⟩
theorem cell_one (w : World) (t : TypeId) (v : Value) (j : Nat) (u : Value) (h : ([v])[j]? = some u) : (w.alloc (.cells #[v] t)).cell? ((⟨w.heap.size, 0, none⟩ : Addr).add j) = some u := by
  cases j with
  | zero =>
    simp at h
    subst h
    simp [Addr.add]
  | succ j => simp at h
theorem grown_own {a b c : World} {base t s n : Nat} {v : Value} {xs : List Value} (h : a.grownBy b none) (ho : b.ownsRow base t s v n xs) (k : b.grownBy c v.ownBlock) (hb : a.heap.size ≤ base) : a.grownBy c none :=
  ⟨k.os.trans h.os, k.tape.trans h.tape, k.output.trans h.output, Nat.le_trans h.size k.size, fun i hi hr => (k.block i (Nat.lt_of_lt_of_le hi h.size) (fun e => by have := (ho.lt i e.symm).1; omega)).trans (h.block i hi hr)⟩

/-- the bytes that tell a length behind its four bits -/
def tol (n : Int) : List Int := if n < 15 then [] else List.replicate ((n - 15) / 255).toNat 255 ++ [(n - 15) % 255]
theorem tol_byt (n : Int) : Byt (tol n) := by
  unfold tol
  split
  · intro x hx; simp at hx
  · intro x hx
    rw [List.mem_append] at hx
    rcases hx with hx | hx
    · rw [List.eq_of_mem_replicate hx]; decide
    · simp at hx; omega
theorem tol_len {n : Int} (h : 15 ≤ n) : (tol n).length = ((n - 15) / 255).toNat + 1 := by
  unfold tol; rw [if_neg (by omega)]; simp

end Go.Proofs.YtfhgbddeclldnaaGreat

namespace Go.Proofs.YtfhgbddeclldnaaGreat
open Go.RowKit
set_option maxRecDepth 100000
set_option linter.unusedSimpArgs false
set_option linter.unusedVariables false

theorem div_step (n : Int) (j : Nat) : n / 256 ^ j / 256 = n / 256 ^ (j + 1) := by
  rw [Int.ediv_ediv_of_nonneg (Int.pow_nonneg (by decide)), Int.pow_succ]
theorem div_bd (n : Int) (j : Nat) (h0 : 0 ≤ n) (h1 : n < 18446744073709551616) : 0 ≤ n / 256 ^ j ∧ n / 256 ^ j < 18446744073709551616 := by
  have hp : (0 : Int) ≤ 256 ^ j := Int.pow_nonneg (by decide)
  exact ⟨Int.ediv_nonneg h0 hp, Int.lt_of_le_of_lt (Int.ediv_le_self _ h0) h1⟩
set_option maxHeartbeats 400000 in
theorem load_in (b off len cap : Nat) (bs : List Int) (k n : Nat) (w : World) (hl : len ≤ maxLen) (hlen : bs.length = len) (hb : Byt bs) (hn8 : n ≤ 8) (hin : k + n ≤ len)
    (hc : ∀ i, i < len → w.cell? ⟨b, off + i, none⟩ = some (.int .u8 (bs.getD i 0))) :
    Calls Tryz.prog 76 #[.slice (some ⟨b, off, none⟩) len cap, .int .i64 k, .int .i64 n] w fun e w' => e = .returned (.int .u64 (le ((bs.drop k).take n))) ∧ w = w' := by
  unfold maxLen at hl
  go_enter Tryz.func76, Tryz.ntmps76
  go_wp2
  go_loop [7, 8] (fun v i => ∃ j : Nat, j ≤ n ∧ i = .int .i64 ((j : Int) - 1) ∧ v = .int .u64 (le ((bs.drop (k + j)).take (n - j)))) (fun _ i => (intOf i + 1).toNat)
  case atStart => exact ⟨n, Nat.le_refl _, rfl, by simp [le]⟩
  case round =>
    obtain ⟨j, hj, rfl, rfl⟩ := hrel
    by_cases hlt : 0 < j
    · obtain ⟨i, rfl⟩ : ∃ i, j = i + 1 := ⟨j - 1, by omega⟩
      have hcell := hc (k + i) (by omega)
      have hr := hb.getD (k + i)
      go_wp2
      go_round
      case rel => exact ⟨i, by omega, rfl, by rw [load_step hb k n i hn8 (by omega) (by omega)]⟩
      case measure => simp [intOf]
    · go_wp2
      go_ret
      have : j = 0 := by omega
      subst this
      exact ⟨rfl, rfl⟩

theorem load_row (a : Option Addr) (len cap : Nat) (bs : List Int) (k n : Nat) (w : World) (R : Row w a len bs) (h0 : 0 < n) (hn8 : n ≤ 8) (hin : k + n ≤ len) :
    Calls Tryz.prog 76 #[.slice a len cap, .int .i64 k, .int .i64 n] w fun e w' => e = .returned (.int .u64 (le ((bs.drop k).take n))) ∧ w = w' := by
  obtain ⟨b, off, rfl, hc⟩ := R.cells (by omega)
  exact load_in b off len cap bs k n w R.le R.len_eq R.byt hn8 hin hc

set_option maxHeartbeats 400000 in
theorem store_own (n : Int) (m : Nat) (w : World) (hm : m ≤ 8) (h0 : 0 ≤ n) (h1 : n < 18446744073709551616) :
    Calls Tryz.prog 85 #[.int .u64 n, .int .i64 m] w fun e w' => ∃ v, e = .returned v ∧ w'.ownsRow w.heap.size 5 1 v m (bv (sto n m)) ∧ w.grownBy w' none := by
  obtain ⟨i5, hi, hz0, hz1, hz2⟩ := info_parts Tryz.info5
  go_enter Tryz.func85, Tryz.ntmps85
  go_wp2
  go_loopw [0, 5, 6] (fun x v i wr => ∃ j : Nat, j ≤ m ∧ i = .int .i64 j ∧ x = .int .u64 (n / 256 ^ j) ∧ wr.ownsRow w.heap.size 5 1 v j (bv (sto n j)) ∧ w.grownBy wr none) (fun _ _ i _ => m - (intOf i).toNat)
  case atStart => exact ⟨0, Nat.zero_le _, rfl, by simp, World.ownsRow_nil _ _ _ _, World.grownBy.refl _ _⟩
  case round =>
    obtain ⟨j, hj, rfl, rfl, hown, hgr⟩ := hrel
    have hd := div_bd n j h0 h1
    by_cases hlt : j < m
    · go_wp2_with (at_builtin; (refine wpList_append_own _ rfl _ _ 36 rfl w.heap.size 5 i5 (.int .u8 0) 1 1 Tryz.underlying36 hi hz0 hz1 hz2 rfl (by decide) _ _ _ rfl (hown.alloc _) ⟨wr.heap.size, 0, none⟩ 1 1 (bv [n / 256 ^ j % 256]) rfl rfl ?c1 (bv_one _) ?c3 ?c4 ?c5 ?_))
      case c1 => exact cell_one_new _ _ _
      case c3 => unfold maxLen; omega
      case c4 => omega
      case c5 => have := hgr.size; simp; omega
      · intro v' w1 hown' hgrow _
        have R : w1.ownsRow w.heap.size 5 1 v' (j + 1) (bv (sto n (j + 1))) := by rw [sto_snoc, bv_append]; exact hown'
        have hg' : w.grownBy w1 none := grown_own (grown_trans hgr (World.grownBy_alloc wr _ none)) (hown.alloc _) hgrow (Nat.le_refl _)
        clear hown' hgrow hown hgr
        go_wp2
        go_roundw
        case rel => exact ⟨j + 1, by omega, by go_num, by rw [← div_step], R, hg'⟩
        case measure => simp [intOf]; omega
    · obtain rfl : j = m := by omega
      go_wp2
      go_ret
      exact ⟨_, rfl, hown, hgr⟩

end Go.Proofs.YtfhgbddeclldnaaGreat

namespace Go.Proofs.YtfhgbddeclldnaaGreat
open Go.RowKit
set_option maxRecDepth 100000
set_option linter.unusedSimpArgs false
set_option linter.unusedVariables false

structure Rc where
  q : Int
  s : Int
  l : Int
  u : Int
def Rc.cells (r : Rc) : List Value := [.int .u64 r.q, .int .i64 r.s, .int .i64 r.l, .int .u64 r.u]
def Rc.val (r : Rc) : Value := .agg #[.int .u64 r.q, .int .i64 r.s, .int .i64 r.l, .int .u64 r.u]
def in64 (x : Int) : Prop := -9223372036854775808 ≤ x ∧ x ≤ 9223372036854775807
def inU (x : Int) : Prop := 0 ≤ x ∧ x < 18446744073709551616
def Rc.ok (r : Rc) : Prop := inU r.q ∧ in64 r.s ∧ in64 r.l ∧ inU r.u
def rc0 : Rc := ⟨0, 0, 0, 0⟩
/-- is a record right? -/
def rrt (r : Rc) : Bool := decide (r.q ≤ 4611686018427387904) && decide (0 ≤ r.s) && decide (r.s ≤ 1) && decide (1 ≤ r.l) && decide (r.l ≤ 8388608)
theorem rrt_iff {r : Rc} : rrt r = true ↔ r.q ≤ 4611686018427387904 ∧ (r.s = 0 ∨ r.s = 1) ∧ 1 ≤ r.l ∧ r.l ≤ 8388608 := by
  unfold rrt
  simp only [Bool.and_eq_true, decide_eq_true_eq]
  omega
set_option maxHeartbeats 1000000 in
theorem rright_any (r : Rc) (w : World) : Calls Tryz.prog 53 #[r.val] w fun e w' => e = .returned (.bool (rrt r)) ∧ w.grownBy w' none := by
  obtain ⟨q, s, l, u⟩ := r
  unfold rrt Rc.val
  simp only
  cases h1 : decide (q ≤ 4611686018427387904) <;> cases h2 : decide (0 ≤ s) <;> cases h3 : decide (s ≤ 1) <;> cases h4 : decide (1 ≤ l)
  all_goals
    go_enter Tryz.func53, Tryz.ntmps53
    go_wp2
    go_ret
    exact ⟨rfl, World.grownBy_alloc _ _ _⟩
/-- Next, as a plain function -/
def rnx (r : Rc) (slot n sum : Int) : Rc × Int :=
  if 4611686018427387904 < r.q then (rc0, 1) else if rrt ⟨0, slot, n, sum⟩ = false then (rc0, 1) else if r.q = 4611686018427387904 then (rc0, 2) else (⟨r.q + 1, slot, n, sum⟩, 0)
/-- a variable of several cells -/
structure Bx (W : World) (g : Nat) (T : TypeId) (cs : List Value) : Prop where
  blk : W.heap[g]? = some (.cells cs.toArray T (0, 0))
theorem Bx.lt {W : World} {g : Nat} {T : TypeId} {cs : List Value} (h : Bx W g T cs) : g < W.heap.size := (Array.getElem?_eq_some_iff.1 h.blk).1
theorem Bx.c {W : World} {g : Nat} {T : TypeId} {cs : List Value} (h : Bx W g T cs) (i : Nat) : W.cell? ⟨g, i, none⟩ = cs[i]? := by simp [World.cell?, h.blk]
theorem Bx.f {W : World} {g : Nat} {T : TypeId} {cs : List Value} (h : Bx W g T cs) (i : Nat) : W.frozen? ⟨g, i, none⟩ = false := by simp [World.frozen?, h.blk]
theorem Bx.kept {W W' : World} {g : Nat} {T : TypeId} {cs : List Value} (h : Bx W g T cs) (hg : W.grownBy W' none) : Bx W' g T cs := ⟨by rw [hg.block g h.lt (by simp)]; exact h.blk⟩
theorem Bx.new (w : World) (T : TypeId) (cs : List Value) : Bx (w.alloc (.cells cs.toArray T)) w.heap.size T cs := ⟨heap_alloc_new _ _⟩
theorem Bx.set {W : World} {g : Nat} {T : TypeId} {cs : List Value} (h : Bx W g T cs) (i : Nat) (v : Value) : Bx (W.setCell ⟨g, i, none⟩ v) g T (cs.set i v) := by
  constructor
  rw [setCell_eq_setRow W g i _ _ _ _ h.blk, setRow_heap W g _ _ _ _ h.blk]
  simp
/-- a record stored whole -/
def set4 (W : World) (g : Nat) (a b c d : Value) : World := (((W.setCell ⟨g, 0, none⟩ a).setCell ⟨g, 1, none⟩ b).setCell ⟨g, 2, none⟩ c).setCell ⟨g, 3, none⟩ d
theorem Bx.set4 {W : World} {g : Nat} {T : TypeId} {x y z t : Value} (h : Bx W g T [x, y, z, t]) (a b c d : Value) : Bx (set4 W g a b c d) g T [a, b, c, d] := (((h.set 0 a).set 1 b).set 2 c).set 3 d
theorem grown_set4 (W : World) (g : Nat) (a b c d : Value) : W.grownBy (set4 W g a b c d) (some g) := grown_trans (grown_trans (grown_trans (grown_set _ _ _ _) (grown_set _ _ _ _)) (grown_set _ _ _ _)) (grown_set _ _ _ _)
theorem bx4 {W : World} {g : Nat} {T : TypeId} {a b c d : Value} (h : Bx W g T [a, b, c, d]) : W.cell? ⟨g, 0, none⟩ = some a ∧ W.cell? ⟨g, 1, none⟩ = some b ∧ W.cell? ⟨g, 2, none⟩ = some c ∧ W.cell? ⟨g, 3, none⟩ = some d := ⟨h.c 0, h.c 1, h.c 2, h.c 3⟩
end Go.Proofs.YtfhgbddeclldnaaGreat

namespace Go.Proofs.YtfhgbddeclldnaaGreat
open Go.RowKit
set_option maxRecDepth 100000
set_option linter.unusedSimpArgs false
set_option linter.unusedVariables false

theorem Row.piece {w : World} {b off len : Nat} {bs : List Int} (h : Row w (some ⟨b, off, none⟩) len bs) (k n o' : Nat) (hn : k + n ≤ len) (ho : 0 < n → o' = off + k) : Row w (some ⟨b, o', none⟩) n ((bs.drop k).take n) := by
  rcases Nat.eq_zero_or_pos n with h0 | h0
  · subst h0; rw [List.take_zero]; exact Row.none0 _
  · rw [ho h0]; exact h.part k n hn
/-- what a call made: its bytes -/
theorem own_bytes {W : World} {base n : Nat} {v : Value} {bs : List Int} (h : W.ownsRow base 5 1 v n (bv bs)) (hb : Byt bs) (hl : n ≤ maxLen) : ∃ a c, v = .slice a n c ∧ Row W a n bs ∧ (a = none → c = 0) ∧ n ≤ c ∧ c ≤ maxLen := by
  have hn : bs.length = n := by have := h.1; rw [bv_length] at this; omega
  rcases h.2 with ⟨rfl, rfl⟩ | ⟨g, cap, cur, rfl, _, hg, hc, hm, hs, ht⟩
  · exact ⟨none, 0, rfl, ⟨hn, Nat.zero_le _, hb, fun h => by omega⟩, fun _ => rfl, Nat.le_refl _, Nat.zero_le _⟩
  · refine ⟨_, cap, rfl, ⟨hn, hl, hb, fun _ => ⟨g, 0, rfl, fun i hi => ?_⟩⟩, (fun e => by cases e), hc, hm⟩
    have e : W.cell? ⟨g, 0 + i, none⟩ = cur[i]? := by simp [World.cell?, hg]
    rw [e, ← bv_getElem? bs i (by omega), ← ht, List.getElem?_take, if_pos (by omega), Array.getElem?_toList]
theorem own_bx {W : World} {base e e' s n g : Nat} {v : Value} {xs cs : List Value} (h : W.ownsRow base e s v n xs) (h' : Bx W g e' cs) (hne : e ≠ e') : some g ≠ v.ownBlock := by
  intro k
  rcases h.2 with ⟨rfl, _⟩ | ⟨g', cap, cur, rfl, hb, hgg, _⟩
  · simp [Value.ownBlock] at k
  · simp [Value.ownBlock] at k
    subst k
    rw [h'.blk] at hgg
    injection hgg with e1
    injection e1 with e1 e2 e3
    exact hne e2.symm
/-- all bytes of a record but the last four -/
def rb0 (r : Rc) : List Int := [80, 77, 66, 49] ++ sto r.q 8 ++ [r.s, 0, 0, 0] ++ sto r.l 4 ++ sto r.u 8
def rby (r : Rc) : List Int := rb0 r ++ sto (crc ent 0 (rb0 r) : Nat) 4
theorem sto_len (n : Int) (k : Nat) : (sto n k).length = k := by
  induction k generalizing n with
  | zero => rfl
  | succ k ih => rw [sto_snoc, List.length_append, ih]; rfl
theorem rb0_len (r : Rc) : (rb0 r).length = 28 := by unfold rb0; simp [sto_len]
theorem rby_len (r : Rc) : (rby r).length = 32 := by unfold rby; rw [List.length_append, rb0_len, sto_len]
theorem rb0_byt {r : Rc} (h : rrt r = true) : Byt (rb0 r) := by
  have := rrt_iff.1 h
  unfold rb0
  refine (((Byt.append (Byt.append ?_ (sto_byt _ _)) ?_).append (sto_byt _ _)).append (sto_byt _ _))
  · intro x hx; simp at hx; omega
  · intro x hx; simp at hx; omega
theorem rby_byt {r : Rc} (h : rrt r = true) : Byt (rby r) := by unfold rby; exact (rb0_byt h).append (sto_byt _ _)
/-- bytes so far, and the record in its variable -/
structure By (w W : World) (gr : Nat) (r : Rc) (v : Value) (n : Nat) (xs : List Int) : Prop where
  bx : Bx W gr 48 [.int .u64 r.q, .int .i64 r.s, .int .i64 r.l, .int .u64 r.u]
  own : W.ownsRow w.heap.size 5 1 v n (bv xs)
  gr : w.grownBy W none
theorem By.keep {w W W' : World} {gr n : Nat} {r : Rc} {v : Value} {xs : List Int} (h : By w W gr r v n xs) (k : W.grownBy W' none) : By w W' gr r v n xs :=
  ⟨h.bx.kept k, h.own.kept k (by cases v.ownBlock <;> simp), grown_trans h.gr k⟩
theorem By.app {w W W' : World} {gr n m : Nat} {r : Rc} {v v' : Value} {xs ys : List Int} (h : By w W gr r v n xs) (o : W'.ownsRow w.heap.size 5 1 v' (n + m) (bv xs ++ bv ys)) (k : W.grownBy W' v.ownBlock) : By w W' gr r v' (n + m) (xs ++ ys) :=
  ⟨⟨by rw [k.block _ h.bx.lt (own_bx h.own h.bx (by decide))]; exact h.bx.blk⟩, by rw [bv_append]; exact o, grown_own h.gr h.own k (Nat.le_refl _)⟩
set_option maxHeartbeats 2000000 in
theorem rbytes_any (r : Rc) (w : World) (hr : rrt r = true) (hq : 0 ≤ r.q) (hu : inU r.u) :
    Calls Tryz.prog 54 #[r.val] w fun e w' => ∃ v, e = .returned v ∧ w'.ownsRow w.heap.size 5 1 v 32 (bv (rby r)) ∧ w.grownBy w' none := by
  obtain ⟨i5, hi, hz0, hz1, hz2⟩ := info_parts Tryz.info5
  have hrt := rrt_iff.1 hr
  have h1 := fun W => store_own r.q 8 W (by omega) hq (by omega)
  have h2 := fun W => store_own r.l 4 W (by omega) (by omega) (by omega)
  have h3 := fun W => store_own r.u 8 W (by omega) hu.1 hu.2
  have O0 := World.ownsRow_lit (base := w.heap.size) (e := 5) (size := 1) (w.alloc (.cells #[.int .u64 r.q, .int .i64 r.s, .int .i64 r.l, .int .u64 r.u] 48)) #[.int .u8 80, .int .u8 77, .int .u8 66, .int .u8 49] 4 (by simp) (by unfold maxLen; omega) rfl
  obtain ⟨q, s, l, u⟩ := r
  simp only [Rc.val] at *
  have H0 : Hid (By w ((w.alloc (.cells #[.int .u64 q, .int .i64 s, .int .i64 l, .int .u64 u] 48)).alloc (.cells #[.int .u8 80, .int .u8 77, .int .u8 66, .int .u8 49] 5)) w.heap.size ⟨q, s, l, u⟩ (.slice (some ⟨w.heap.size + 1, 0, none⟩) 4 4) 4 [80, 77, 66, 49]) := ⟨(Bx.new w 48 _).kept (World.grownBy_alloc _ _ none), by simpa [bv] using O0, grown_trans (World.grownBy_alloc _ _ none) (World.grownBy_alloc _ _ none)⟩
  obtain ⟨b0, b1, b2, b3⟩ := bx4 H0.out.bx
  have HB : Hid _ := rb0_byt hr
  have HB2 : Hid (Byt [s, 0, 0, 0]) := by intro x hx; simp at hx; omega
  clear O0 hr
  have hs8 : IntKind.u8.wrap s = s := by rw [IntKind.wrap_u8]; omega
  have hl64 : IntKind.u64.wrap l = l := by rw [IntKind.wrap_u64]; omega
  go_enter Tryz.func54, Tryz.ntmps54
  go_wp2_with fail
  refine (h1 _).mono ?_
  rintro e w1 ⟨x1, rfl, o1, g1⟩
  obtain ⟨a1, c1, rfl, R1, n1, _, _⟩ := own_bytes o1 (sto_byt _ _) (by unfold maxLen; omega)
  have H1 : Hid _ := H0.out.keep g1
  have HR1 : Hid _ := And.intro R1 n1
  clear o1 g1 R1 n1 H0 b0 b1 b2 b3
  obtain ⟨b0, b1, b2, b3⟩ := bx4 H1.out.bx
  simp only
  go_wp2_with (at_builtin; refine wpList_append8 rfl _ _ 36 rfl w.heap.size i5 Tryz.underlying36 hi hz0 hz1 hz2 _ 4 _ rfl H1.out.own _ 8 c1 (sto q 8) rfl HR1.out.1 HR1.out.2 (by omega) H1.out.gr.size ?_)
  intro x2 w2 o2 g2
  have H2 : Hid (By w w2 w.heap.size ⟨q, s, l, u⟩ x2 12 _) := H1.out.app (n := 4) (m := 8) o2 g2
  clear o2 g2 H1 b0 b1 b2 b3
  obtain ⟨b0, b1, b2, b3⟩ := bx4 H2.out.bx
  have HA : Hid (Row (w2.alloc (.cells #[.int .u8 s, .int .u8 0, .int .u8 0, .int .u8 0] 5)) (some ⟨w2.heap.size, 0, none⟩) 4 [s, 0, 0, 0]) := alloc_row w2 [s, 0, 0, 0] HB2.out (by unfold maxLen; simp)
  have H3 : Hid _ := H2.out.keep (World.grownBy_alloc w2 (.cells #[.int .u8 s, .int .u8 0, .int .u8 0, .int .u8 0] 5) none)
  clear H2
  go_wp2_with (at_builtin; refine wpList_append8 rfl _ _ 36 rfl w.heap.size i5 Tryz.underlying36 hi hz0 hz1 hz2 _ 12 _ rfl H3.out.own _ 4 4 [s, 0, 0, 0] rfl HA.out (fun e => by cases e) (by omega) H3.out.gr.size ?_)
  intro x4 w4 o4 g4
  have H4 : Hid (By w w4 w.heap.size ⟨q, s, l, u⟩ x4 16 _) := H3.out.app (n := 12) (m := 4) o4 g4
  clear o4 g4 H3 b0 b1 b2 b3
  obtain ⟨b0, b1, b2, b3⟩ := bx4 H4.out.bx
  go_wp2_with fail
  refine (h2 _).mono ?_
  rintro e w5 ⟨x5, rfl, o5, g5⟩
  obtain ⟨a5, c5, rfl, R5, n5, _, _⟩ := own_bytes o5 (sto_byt _ _) (by unfold maxLen; omega)
  have H5 : Hid _ := H4.out.keep g5
  have HR5 : Hid _ := And.intro R5 n5
  clear o5 g5 R5 n5 H4 b0 b1 b2 b3
  obtain ⟨b0, b1, b2, b3⟩ := bx4 H5.out.bx
  simp only
  go_wp2_with (at_builtin; refine wpList_append8 rfl _ _ 36 rfl w.heap.size i5 Tryz.underlying36 hi hz0 hz1 hz2 _ 16 _ rfl H5.out.own _ 4 c5 (sto l 4) rfl HR5.out.1 HR5.out.2 (by omega) H5.out.gr.size ?_)
  intro x6 w6 o6 g6
  have H6 : Hid (By w w6 w.heap.size ⟨q, s, l, u⟩ x6 20 _) := H5.out.app (n := 16) (m := 4) o6 g6
  clear o6 g6 H5 b0 b1 b2 b3
  obtain ⟨b0, b1, b2, b3⟩ := bx4 H6.out.bx
  go_wp2_with fail
  refine (h3 _).mono ?_
  rintro e w7 ⟨x7, rfl, o7, g7⟩
  obtain ⟨a7, c7, rfl, R7, n7, _, _⟩ := own_bytes o7 (sto_byt _ _) (by unfold maxLen; omega)
  have H7 : Hid _ := H6.out.keep g7
  have HR7 : Hid _ := And.intro R7 n7
  clear o7 g7 R7 n7 H6 b0 b1 b2 b3
  obtain ⟨b0, b1, b2, b3⟩ := bx4 H7.out.bx
  simp only
  go_wp2_with (at_builtin; refine wpList_append8 rfl _ _ 36 rfl w.heap.size i5 Tryz.underlying36 hi hz0 hz1 hz2 _ 20 _ rfl H7.out.own _ 8 c7 (sto u 8) rfl HR7.out.1 HR7.out.2 (by omega) H7.out.gr.size ?_)
  intro x8 w8 o8 g8
  have H8 : Hid (By w w8 w.heap.size ⟨q, s, l, u⟩ x8 28 _) := H7.out.app (n := 20) (m := 8) o8 g8
  clear o8 g8 H7 b0 b1 b2 b3
  obtain ⟨b0, b1, b2, b3⟩ := bx4 H8.out.bx
  obtain ⟨a8, c8, rfl, R8, n8, _, _⟩ := own_bytes H8.out.own (by have := HB.out; unfold rb0 at this; exact this) (by unfold maxLen; omega)
  have hcr := refcrc_any 0 a8 28 c8 _ w8 R8 (by omega)
  have hcl := crc_lt ent 0 ([80, 77, 66, 49] ++ sto q 8 ++ [s, 0, 0, 0] ++ sto l 4 ++ sto u 8)
  have h4 := fun W => store_own (crc ent 0 ([80, 77, 66, 49] ++ sto q 8 ++ [s, 0, 0, 0] ++ sto l 4 ++ sto u 8) : Nat) 4 W (by omega) (by omega) (by omega)
  have hrb : rby ⟨q, s, l, u⟩ = ([80, 77, 66, 49] ++ sto q 8 ++ [s, 0, 0, 0] ++ sto l 4 ++ sto u 8) ++ sto (crc ent 0 ([80, 77, 66, 49] ++ sto q 8 ++ [s, 0, 0, 0] ++ sto l 4 ++ sto u 8) : Nat) 4 := rfl
  have HRB : Hid _ := hrb
  clear hrb R8 n8
  generalize [80, 77, 66, 49] ++ sto q 8 ++ [s, 0, 0, 0] ++ sto l 4 ++ sto u 8 = ys at *
  generalize crc ent 0 ys = cr at *
  go_wp2_with (first | (go_at_call 86; refine hcr.mono ?_; rintro e w' ⟨rfl, rfl⟩))
  go_wp2_with fail
  refine (h4 _).mono ?_
  rintro e w9 ⟨x9, rfl, o9, g9⟩
  obtain ⟨a9, c9, rfl, R9, n9, _, _⟩ := own_bytes o9 (sto_byt _ _) (by unfold maxLen; omega)
  have H9 : Hid _ := H8.out.keep g9
  have HR9 : Hid _ := And.intro R9 n9
  clear o9 g9 R9 n9 H8 b0 b1 b2 b3
  obtain ⟨b0, b1, b2, b3⟩ := bx4 H9.out.bx
  simp only
  go_wp2_with (at_builtin; refine wpList_append8 rfl _ _ 36 rfl w.heap.size i5 Tryz.underlying36 hi hz0 hz1 hz2 _ 28 _ rfl H9.out.own _ 4 c9 (sto cr 4) rfl HR9.out.1 HR9.out.2 (by omega) H9.out.gr.size ?_)
  intro x10 w10 o10 g10
  have H10 : Hid (By w w10 w.heap.size ⟨q, s, l, u⟩ x10 32 _) := H9.out.app (n := 28) (m := 4) o10 g10
  clear o10 g10 H9 b0 b1 b2 b3
  obtain ⟨b0, b1, b2, b3⟩ := bx4 H10.out.bx
  have HF : Hid _ := And.intro H10.out.own H10.out.gr
  clear b0 b1 b2 b3 H10
  go_wp2
  go_ret
  refine ⟨_, rfl, ?_, HF.out.2⟩
  rw [HRB.out]
  exact HF.out.1
end Go.Proofs.YtfhgbddeclldnaaGreat
