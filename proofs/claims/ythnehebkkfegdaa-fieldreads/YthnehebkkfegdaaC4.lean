/- Both readers, whatever comes in. -/
import Derived.Test.YthnehebkkfegdaaC3
namespace Go.Proofs.Ythnehebkkfegdaa
open Go.RowKit
set_option linter.unusedSimpArgs false
set_option linter.unusedVariables false

/-- where the reader stands behind a call, what is wrong, what it tells -/
structure St where
  at_ : Nat
  e : Int
  v : Int
  t : List Int

def rN (bs : List Int) (at_ : Nat) (e n : Int) : St :=
  if e ≠ 0 then ⟨at_, e, 0, []⟩ else if isW n = false then ⟨at_, 1, 0, []⟩ else if at_ + n.toNat ≤ bs.length then ⟨at_ + n.toNat, 0, le ((bs.drop at_).take n.toNat), []⟩ else ⟨at_, 6, 0, []⟩
def rB (bs : List Int) (at_ : Nat) (e n : Int) : St :=
  if e ≠ 0 then ⟨at_, e, 0, []⟩ else if n < 0 then ⟨at_, 1, 0, []⟩ else if at_ + n.toNat ≤ bs.length then ⟨at_ + n.toNat, 0, 0, (bs.drop at_).take n.toNat⟩ else ⟨at_, 6, 0, []⟩
def rT (bs : List Int) (at_ : Nat) (e n : Int) : St :=
  if e ≠ 0 then ⟨at_, e, 0, []⟩ else if n < 0 then ⟨at_, 1, 0, []⟩ else if at_ + 2 ≤ bs.length then
    (if n < le ((bs.drop at_).take 2) then ⟨at_, 2, 0, []⟩ else if at_ + 2 + (le ((bs.drop at_).take 2)).toNat ≤ bs.length then ⟨at_ + 2 + (le ((bs.drop at_).take 2)).toNat, 0, 0, (bs.drop (at_ + 2)).take (le ((bs.drop at_).take 2)).toNat⟩ else ⟨at_, 6, 0, []⟩)
  else ⟨at_, 6, 0, []⟩
def rd (bs : List Int) (at_ : Nat) (e d n : Int) : St := if d = 0 then rN bs at_ e n else if d = 2 then rT bs at_ e n else rB bs at_ e n

theorem rN_t (bs : List Int) (at_ : Nat) (e n : Int) : (rN bs at_ e n).t = [] := by
  unfold rN; split <;> (try split) <;> (try split) <;> rfl
theorem rB_v (bs : List Int) (at_ : Nat) (e n : Int) : (rB bs at_ e n).v = 0 := by
  unfold rB; split <;> (try split) <;> (try split) <;> rfl
theorem rT_v (bs : List Int) (at_ : Nat) (e n : Int) : (rT bs at_ e n).v = 0 := by
  unfold rT; split <;> (try split) <;> (try split) <;> (try split) <;> (try split) <;> rfl

theorem rnum_any (p g : Nat) (bs : List Int) (at_ : Nat) (e n : Int) (w : World) (hI : RInv w p g bs at_ e) (hn : n ≤ 9223372036854775807) :
    Calls Try.prog 23 #[.pointer (some ⟨p, 0, none⟩), .int .i64 n] w fun r w' => r = .returned (.int .u64 (rN bs at_ e n).v) ∧ RInv w' p g bs (rN bs at_ e n).at_ (rN bs at_ e n).e ∧ w.grownBy w' (some p) := by
  by_cases he : e = 0
  · subst he
    by_cases hW : isW n = true
    · obtain ⟨m, rfl⟩ : ∃ m : Nat, n = m := ⟨n.toNat, by have := isW_pos hW; omega⟩
      by_cases hin : at_ + m ≤ bs.length
      · have e1 : rN bs at_ 0 m = ⟨at_ + m, 0, le ((bs.drop at_).take m), []⟩ := by simp [rN, hW, hin]
        rw [e1]
        exact rnum_ok p g bs at_ m w hI hW hin
      · have e1 : rN bs at_ 0 m = ⟨at_, 6, 0, []⟩ := by simp [rN, hW, hin]
        rw [e1]
        have hib : inB bs.length at_ m = false := by simp [inB]; omega
        exact rnum_bad p g bs at_ m w hI hn 9 (by simp [getE, hW, hib]) rfl
    · have hW' : isW n = false := by simpa using hW
      have e1 : rN bs at_ 0 n = ⟨at_, 1, 0, []⟩ := by simp [rN, hW']
      rw [e1]
      exact rnum_bad p g bs at_ n w hI hn 1 (by simp [getE, hW']) rfl
  · have e1 : rN bs at_ e n = ⟨at_, e, 0, []⟩ := by simp [rN, he]
    rw [e1]
    exact (rnum_stop p _ _ e n w hI.blk (by simpa using he)).mono fun r w' ⟨a, b⟩ => ⟨a, b ▸ hI, b ▸ World.grownBy.refl _ _⟩

theorem rbytes_any (p g : Nat) (bs : List Int) (at_ : Nat) (e n : Int) (w : World) (hI : RInv w p g bs at_ e) (hn : n ≤ 9223372036854775807) :
    Calls Try.prog 25 #[.pointer (some ⟨p, 0, none⟩), .int .i64 n] w fun r w' => ∃ v, r = .returned v ∧ Res w w' v (rB bs at_ e n).t ∧ RInv w' p g bs (rB bs at_ e n).at_ (rB bs at_ e n).e ∧ w.grownBy w' (some p) := by
  by_cases he : e = 0
  · subst he
    by_cases hneg : n < 0
    · have e1 : rB bs at_ 0 n = ⟨at_, 1, 0, []⟩ := by simp [rB, hneg]
      rw [e1]
      exact (rbytes_neg p g bs at_ n w hI hneg).mono fun r w' ⟨a, b, c⟩ => ⟨_, a, Or.inl ⟨rfl, rfl⟩, b, c⟩
    · obtain ⟨m, rfl⟩ : ∃ m : Nat, n = m := ⟨n.toNat, by omega⟩
      by_cases hin : at_ + m ≤ bs.length
      · have e1 : rB bs at_ 0 m = ⟨at_ + m, 0, 0, (bs.drop at_).take m⟩ := by simp [rB, hin, hneg]
        rw [e1]
        exact rbytes_ok p g bs at_ m w hI hin
      · have e1 : rB bs at_ 0 m = ⟨at_, 6, 0, []⟩ := by simp [rB, hin, hneg]
        rw [e1]
        exact (rbytes_out p g bs at_ m w hI (by omega) hin).mono fun r w' ⟨a, b, c⟩ => ⟨_, a, Or.inl ⟨rfl, rfl⟩, b, c⟩
  · have e1 : rB bs at_ e n = ⟨at_, e, 0, []⟩ := by simp [rB, he]
    rw [e1]
    exact (rbytes_stop p _ _ e n w hI.blk (by simpa using he)).mono fun r w' ⟨a, b⟩ => ⟨_, a, Or.inl ⟨rfl, rfl⟩, b ▸ hI, b ▸ World.grownBy.refl _ _⟩

theorem rtext_any (p g : Nat) (bs : List Int) (at_ : Nat) (e n : Int) (w : World) (hI : RInv w p g bs at_ e) (hn : n ≤ 9223372036854775807) :
    Calls Try.prog 24 #[.pointer (some ⟨p, 0, none⟩), .int .i64 n] w fun r w' => ∃ v, r = .returned v ∧ Res w w' v (rT bs at_ e n).t ∧ RInv w' p g bs (rT bs at_ e n).at_ (rT bs at_ e n).e ∧ w.grownBy w' (some p) := by
  by_cases he : e = 0
  · subst he
    by_cases hneg : n < 0
    · have e1 : rT bs at_ 0 n = ⟨at_, 1, 0, []⟩ := by simp [rT, hneg]
      rw [e1]
      exact (rtext_neg p g bs at_ n w hI hneg).mono fun r w' ⟨a, b, c⟩ => ⟨_, a, Or.inl ⟨rfl, rfl⟩, b, c⟩
    · by_cases h2 : at_ + 2 ≤ bs.length
      · have hl2 := le_two hI.byt at_
        obtain ⟨k, hk⟩ : ∃ k : Nat, le ((bs.drop at_).take 2) = k := ⟨(le ((bs.drop at_).take 2)).toNat, by omega⟩
        by_cases hlong : n < k
        · have e1 : rT bs at_ 0 n = ⟨at_, 2, 0, []⟩ := by simp [rT, hneg, h2, hk, hlong]
          rw [e1]
          exact (rtext_long p g bs at_ k n w hI (by omega) hn h2 hk hlong).mono fun r w' ⟨a, b, c⟩ => ⟨_, a, Or.inl ⟨rfl, rfl⟩, b, c⟩
        · by_cases hin : at_ + 2 + k ≤ bs.length
          · have e1 : rT bs at_ 0 n = ⟨at_ + (2 + k), 0, 0, (bs.drop (at_ + 2)).take k⟩ := by simp [rT, hneg, h2, hk, hlong, hin, Nat.add_assoc]; omega
            rw [e1]
            exact rtext_ok p g bs at_ k n w hI (by omega) hn h2 hk (by omega) hin
          · have e1 : rT bs at_ 0 n = ⟨at_, 6, 0, []⟩ := by simp [rT, hneg, h2, hk, hlong, hin]
            rw [e1]
            exact (rtext_out p g bs at_ k n w hI (by omega) hn h2 hk (by omega) hin).mono fun r w' ⟨a, b, c⟩ => ⟨_, a, Or.inl ⟨rfl, rfl⟩, b, c⟩
      · have e1 : rT bs at_ 0 n = ⟨at_, 6, 0, []⟩ := by simp [rT, hneg, h2]
        rw [e1]
        exact (rtext_short p g bs at_ n w hI (by omega) h2).mono fun r w' ⟨a, b, c⟩ => ⟨_, a, Or.inl ⟨rfl, rfl⟩, b, c⟩
  · have e1 : rT bs at_ e n = ⟨at_, e, 0, []⟩ := by simp [rT, he]
    rw [e1]
    exact (rtext_stop p _ _ e n w hI.blk (by simpa using he)).mono fun r w' ⟨a, b⟩ => ⟨_, a, Or.inl ⟨rfl, rfl⟩, b ▸ hI, b ▸ World.grownBy.refl _ _⟩

theorem Row.nil0 (w : World) : Row w none 0 [] := Row.none_of _ rfl rfl

theorem refread_any (a : Option Addr) (len cap : Nat) (bs : List Int) (at_ : Nat) (e d n v : Int) (ba : Option Addr) (bl bc : Nat) (w : World) (R : Row w a len bs) (hc : len ≤ cap) (hl : len ≤ 2000000) (ha : at_ ≤ len) (hn : n ≤ 9223372036854775807) :
    Calls Try.prog 22 #[.agg #[.slice a len cap, .int .i64 at_, .int .i64 e], .agg #[.int .i64 d, .int .i64 n, .int .u64 v, .slice ba bl bc]] w fun r w' => ∃ ta tc, r = .returned (.tuple #[.agg #[.slice a len cap, .int .i64 (rd bs at_ e d n).at_, .int .i64 (rd bs at_ e d n).e], .agg #[.int .u64 (rd bs at_ e d n).v, .slice ta (rd bs at_ e d n).t.length tc]]) ∧ (∀ w0, Row w0 a len bs → Row w0 ta (rd bs at_ e d n).t.length (rd bs at_ e d n).t) ∧ w.grownBy w' none := by
  have hbl := R.len_eq
  by_cases he : e = 0
  · subst he
    by_cases hd0 : d = 0
    · subst hd0
      by_cases hW : isW n = true
      · obtain ⟨m, rfl⟩ : ∃ m : Nat, n = m := ⟨n.toNat, by have := isW_pos hW; omega⟩
        by_cases hin : at_ + m ≤ len
        · have e1 : rd bs at_ 0 0 m = ⟨at_ + m, 0, le ((bs.drop at_).take m), []⟩ := by simp [rd, rN, hW, hin, hbl]
          rw [e1]
          exact (refread_nok a len cap bs at_ m v ba bl bc w R hl hW hin).mono fun r w' ⟨p, q⟩ => ⟨none, 0, by rw [p]; simp [cast_add], fun _ _ => Row.nil0 _, q⟩
        · have e1 : rd bs at_ 0 0 m = ⟨at_, 6, 0, []⟩ := by simp [rd, rN, hW, hin, hbl]
          rw [e1]
          exact (refread_nout a len cap at_ m v ba bl bc w hl (by omega) hW hin).mono fun r w' ⟨p, q⟩ => ⟨none, 0, p, fun _ _ => Row.nil0 _, q⟩
      · have hW' : isW n = false := by simpa using hW
        have e1 : rd bs at_ 0 0 n = ⟨at_, 1, 0, []⟩ := by simp [rd, rN, hW']
        rw [e1]
        exact (refread_width a len cap at_ n v ba bl bc w hW').mono fun r w' ⟨p, q⟩ => ⟨none, 0, p, fun _ _ => Row.nil0 _, q⟩
    · have hd0' : (d == 0) = false := by simpa using hd0
      by_cases hneg : n < 0
      · have e1 : rd bs at_ 0 d n = ⟨at_, 1, 0, []⟩ := by simp [rd, rT, rB, hd0, hneg]
        rw [e1]
        exact (refread_neg a len cap at_ d n v ba bl bc w hd0' hneg).mono fun r w' ⟨p, q⟩ => ⟨none, 0, p, fun _ _ => Row.nil0 _, q⟩
      · by_cases hd2 : d = 2
        · subst hd2
          by_cases h2 : at_ + 2 ≤ len
          · have hl2 := le_two R.byt at_
            obtain ⟨k, hk⟩ : ∃ k : Nat, le ((bs.drop at_).take 2) = k := ⟨(le ((bs.drop at_).take 2)).toNat, by omega⟩
            by_cases hlong : n < k
            · have e1 : rd bs at_ 0 2 n = ⟨at_, 2, 0, []⟩ := by simp [rd, rT, hneg, h2, hk, hlong, hbl]
              rw [e1]
              exact (refread_tlong a len cap bs at_ k n v ba bl bc w R hl (by omega) h2 hk (by omega) hlong).mono fun r w' ⟨p, q⟩ => ⟨none, 0, p, fun _ _ => Row.nil0 _, q⟩
            · by_cases hin : at_ + 2 + k ≤ len
              · have e1 : rd bs at_ 0 2 n = ⟨at_ + 2 + k, 0, 0, (bs.drop (at_ + 2)).take k⟩ := by simp [rd, rT, hneg, h2, hk, hlong, hin, hbl]
                rw [e1]
                have hlen : ((bs.drop (at_ + 2)).take k).length = k := by simp; omega
                refine (refread_tok a len cap bs at_ k n v ba bl bc w R hc hl (by omega) h2 hk (by omega) hlong hin).mono ?_
                rintro r w' ⟨ta, tc, p, q, g⟩
                simp only [hlen]
                exact ⟨ta, tc, by rw [p]; simp [cast_add], q, g⟩
              · have e1 : rd bs at_ 0 2 n = ⟨at_, 6, 0, []⟩ := by simp [rd, rT, hneg, h2, hk, hlong, hin, hbl]
                rw [e1]
                exact (refread_tout a len cap bs at_ k n v ba bl bc w R hl (by omega) h2 hk (by omega) hlong hin).mono fun r w' ⟨p, q⟩ => ⟨none, 0, p, fun _ _ => Row.nil0 _, q⟩
          · have e1 : rd bs at_ 0 2 n = ⟨at_, 6, 0, []⟩ := by simp [rd, rT, hneg, h2, hbl]
            rw [e1]
            exact (refread_tshort a len cap at_ n v ba bl bc w hl (by omega) (by omega) h2).mono fun r w' ⟨p, q⟩ => ⟨none, 0, p, fun _ _ => Row.nil0 _, q⟩
        · have hd2' : (d == 2) = false := by simpa using hd2
          obtain ⟨m, rfl⟩ : ∃ m : Nat, n = m := ⟨n.toNat, by omega⟩
          by_cases hin : at_ + m ≤ len
          · have e1 : rd bs at_ 0 d m = ⟨at_ + m, 0, 0, (bs.drop at_).take m⟩ := by simp [rd, rB, hd0, hd2, hin, hbl, hneg]
            rw [e1]
            have hlen : ((bs.drop at_).take m).length = m := by simp; omega
            refine (refread_bok a len cap bs at_ m d v ba bl bc w R hc hl hd0' hd2' hin).mono ?_
            rintro r w' ⟨ta, tc, p, q, g⟩
            simp only [hlen]
            exact ⟨ta, tc, by rw [p]; simp [cast_add], q, g⟩
          · have e1 : rd bs at_ 0 d m = ⟨at_, 6, 0, []⟩ := by simp [rd, rB, hd0, hd2, hin, hbl, hneg]
            rw [e1]
            exact (refread_bout a len cap at_ m d v ba bl bc w hl (by omega) hd0' hd2' (by omega) hin).mono fun r w' ⟨p, q⟩ => ⟨none, 0, p, fun _ _ => Row.nil0 _, q⟩
  · have e1 : rd bs at_ e d n = ⟨at_, e, 0, []⟩ := by simp [rd, rN, rT, rB, he]
    rw [e1]
    exact (refread_stop a len cap at_ e d n v ba bl bc w (by simpa using he)).mono fun r w' ⟨p, q⟩ => ⟨none, 0, p, fun _ _ => Row.nil0 _, q⟩
end Go.Proofs.Ythnehebkkfegdaa
