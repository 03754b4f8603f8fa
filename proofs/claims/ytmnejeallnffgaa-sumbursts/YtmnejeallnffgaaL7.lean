/- The walk of SumBursts where the burst lies within the bytes. -/
import Derived.Test.YtmnejeallnffgaaL6
import Derived.Deep.DeepCutAuto
import Derived.BigRegion
namespace Go.Proofs.Ytmnejeallnffgaa
open Go.RowKit
set_option linter.unusedVariables false

/-- a row of bytes of the call's own, which may be written -/
structure Cst (w : World) (g n : Nat) (cs : List Int) : Prop where
  len : cs.length = n
  byt : Byt cs
  blk : ∃ cur : List Value, Blk w g cur ∧ cur.take n = bv cs
theorem Cst.cell {w : World} {g n : Nat} {cs : List Int} (h : Cst w g n cs) (k : Nat) (hk : k < n) : w.cell? ⟨g, k, none⟩ = some (.int .u8 (cs.getD k 0)) ∧ w.frozen? ⟨g, k, none⟩ = false := by
  obtain ⟨cur, hb, ht⟩ := h.blk
  refine ⟨?_, hb.frozen k⟩
  rw [hb.cell, ← bv_getElem? _ _ (by rw [h.len]; exact hk), ← ht, List.getElem?_take, if_pos hk]
theorem Cst.set {w : World} {g n : Nat} {cs : List Int} (h : Cst w g n cs) (k : Nat) (x : Int) (hx : 0 ≤ x ∧ x ≤ 255) : Cst (w.setCell ⟨g, k, none⟩ (.int .u8 x)) g n (cs.set k x) := by
  obtain ⟨cur, hb, ht⟩ := h.blk
  refine ⟨by rw [List.length_set]; exact h.len, ?_, _, hb.set k _, ?_⟩
  · intro z hz
    rcases List.mem_or_eq_of_mem_set hz with h1 | h1
    · exact h.byt z h1
    · subst h1; exact hx
  · rw [List.take_set, ht]; unfold bv; rw [List.map_set]
theorem Cst.row {w : World} {g n : Nat} {cs : List Int} (h : Cst w g n cs) (hn : n ≤ maxLen) : Row w (some ⟨g, 0, none⟩) n cs :=
  ⟨h.len, hn, h.byt, fun _ => ⟨g, 0, rfl, fun i hi => by rw [Nat.zero_add]; exact (h.cell i hi).1⟩⟩
theorem owns_cst {w : World} {base n c : Nat} {a : Option Addr} {bs : List Int} (h : w.ownsRow base 5 1 (.slice a n c) n (bv bs)) (hb : Byt bs) (h0 : 0 < n) : ∃ g, a = some ⟨g, 0, none⟩ ∧ base ≤ g ∧ g < w.heap.size ∧ Cst w g n bs := by
  obtain ⟨h1, h2⟩ := h
  rw [bv_length, Nat.mul_one] at h1
  rcases h2 with ⟨e, rfl⟩ | ⟨g, cap, cur, e, hbg, hg, hc, hm, hs, ht⟩
  · omega
  · injection e with e1 e2 e3
    refine ⟨g, e1, hbg, (Array.getElem?_eq_some_iff.1 hg).1, h1, hb, cur.toList, by simpa [Blk] using hg, ?_⟩
    rw [← ht, Nat.mul_one]

theorem halves_zero (k : Nat) : halves k 0 = 0 := by
  have := halves_mul k 0
  rwa [Nat.mul_zero] at this
theorem and_bit (t j : Nat) (ht : t < 4294967296) : bits .and .u32 ((t : Int) / 2 ^ j) 1 = ((t / 2 ^ j % 2 : Nat) : Int) := by
  have h := and1 (n := t / 2 ^ j) (Nat.lt_of_le_of_lt (Nat.div_le_self _ _) ht)
  rw [Int.natCast_ediv, Int.natCast_pow] at h
  exact h
theorem shl8 (j : Nat) (h : j < 8) : (2 : Nat) ^ j < 256 := Nat.pow_lt_pow_right (a := 2) (n := 8) (by decide) h
theorem flip8 {x : Int} (hx : 0 ≤ x ∧ x ≤ 255) {j : Nat} (h : j < 8) : bits .xor .u8 x ((2 : Int) ^ j % 256) = ((x.toNat ^^^ 2 ^ j : Nat) : Int) ∧ x.toNat ^^^ 2 ^ j < 256 := by
  obtain ⟨n, rfl⟩ := Int.eq_ofNat_of_zero_le hx.1
  have e : (2 : Int) ^ j % 256 = ((2 ^ j : Nat) : Int) := by
    have h1 := shl8 j h
    have h2 : (2 : Int) ^ j = ((2 ^ j : Nat) : Int) := by rw [Int.natCast_pow]; rfl
    rw [h2]
    generalize 2 ^ j = p at h1
    omega
  rw [e]
  exact ⟨xor8 (by omega) (shl8 j h), Nat.xor_lt_two_pow (n := 8) (by omega) (shl8 j h)⟩
theorem Cst.drew {w : World} {g n : Nat} {cs : List Int} (h : Cst w g n cs) : Cst w.drew g n cs := ⟨h.len, h.byt, h.blk⟩
theorem Cst.grown {w w' : World} {g n : Nat} {cs : List Int} (h : Cst w g n cs) (hg : w.grownBy w' none) : Cst w' g n cs := by
  obtain ⟨cur, hb, ht⟩ := h.blk
  exact ⟨h.len, h.byt, cur, hb.grown hg (by simp), ht⟩

set_option maxHeartbeats 4000000 in
theorem bursts_main (a0 : Option Addr) (n cap0 : Nat) (bs : List Int) (A t : Nat) (w : World) (R : Row w a0 n bs) (hn0 : a0 = none → cap0 = 0) (h0 : ¬ (5000 : Int) < n) (hA : A / 8 < n) (ht : t < 4294967296) (ht0 : t ≠ 0) :
    Calls Try.prog 8 #[.slice a0 n cap0, .int .i64 A, .int .u32 t] w fun e w' => e = .returned (.bool true) ∧ Below w.heap.size w w' := by
  obtain ⟨i5, hi, hz0, hz1, hz2⟩ := info_parts Try.info5
  have hL := fun w => live_any w
  have hmade : (w.alloc (.cells #[] 5)).ownsRow w.heap.size 5 1 (.slice (some ⟨w.heap.size, 0, none⟩) 0 0) 0 [] := World.ownsRow_made w #[] 0 (Nat.le_refl _) (Nat.zero_le _) rfl
  have bel0 : Below w.heap.size w (w.alloc (.cells #[] 5)) := (Below.refl _ _).alloc (Nat.le_refl _) _
  have b0 : Row (w.alloc (.cells #[] 5)) a0 n bs := R.below bel0
  have hc : ¬ (n : Int) ≤ (A : Int) / 8 := by omega
  have hp : (0 : Int) ≤ A := by omega
  have hte : ((t : Int) == 0) = false := by simp; omega
  have HR : Hid (Row w a0 n bs) := R
  have HT : Hid (t ≠ 0 ∧ A / 8 < n ∧ t < 4294967296) := ⟨ht0, hA, ht⟩
  clear R ht0 ht hA
  go_enter Try.func8, Try.ntmps8
  go_wp2_with (at_builtin; refine wpList_append8 rfl (.tmp 28) (.tmp 29) 31 rfl w.heap.size i5 Try.underlying31 hi hz0 hz1 hz2 _ 0 [] rfl hmade _ n _ bs rfl b0 hn0 (by omega) (by simp) ?_; intro v3 w3 ho3 hg3; rw [Nat.zero_add, List.nil_append] at ho3; have HZ : Hid (w3.ownsRow w.heap.size 5 1 v3 n (bv bs) ∧ Below w.heap.size w w3) := ⟨ho3, bel0.trans (below_own hg3 hmade (by simp))⟩; clear ho3 hg3; obtain ⟨ca, cc, hv3, hform⟩ := owns_form HZ.out.1; rw [hv3])
  have ho := HZ.out.1
  rw [hv3] at ho
  obtain ⟨g, hg, hgb, hgl, hC⟩ := owns_cst ho HR.out.byt (by have := HT.out.2.1; omega)
  subst hg
  have hbel := HZ.out.2
  clear ho HZ hv3 hform hmade bel0 b0 hi hz0 hz1 hz2 hte hc
  generalize decide ((A : Int) < 0) = bA
  go_loopw [8] (fun i wr => ∃ (j : Nat) (cs : List Int), j ≤ 32 ∧ i = .int .i64 j ∧ Cst wr g n cs ∧ upd ent 4294967295 cs = upd ent 4294967295 bs ^^^ halves (8 * n - A) (t % 2 ^ j) ∧ Below w.heap.size w wr) (fun i _ => 32 - (intOf i).toNat)
  case atStart => exact ⟨0, bs, Nat.zero_le _, rfl, hC, by rw [Nat.pow_zero, Nat.mod_one, halves_zero, Nat.xor_zero], hbel⟩
  case round =>
    clear hC hbel
    obtain ⟨j, cs, hj, rfl, hC, hU, hbel⟩ := hrel
    have HC : Hid (Cst wr g n cs) := hC
    have HU : Hid (upd ent 4294967295 cs = upd ent 4294967295 bs ^^^ halves (8 * n - A) (t % 2 ^ j)) := hU
    have HB : Hid (Below w.heap.size w wr) := hbel
    clear hC hU hbel
    by_cases hlt : j < 32
    · have hA1 : (A : Int) < 40000 := by have := HT.out.2.1; omega
      have hj1 : (j : Int) < 32 := by omega
      have hbit := and_bit t j HT.out.2.2
      by_cases hb : t / 2 ^ j % 2 = 0
      · rw [hb] at hbit
        have hU2 : upd ent 4294967295 cs = upd ent 4294967295 bs ^^^ halves (8 * n - A) (t % 2 ^ (j + 1)) := by rw [mod_bit0 hb]; exact HU.out
        have HU2 : Hid (upd ent 4294967295 cs = upd ent 4294967295 bs ^^^ halves (8 * n - A) (t % 2 ^ (j + 1))) := hU2
        clear hU2 hb HU
        go_wp2_with fail
        go_roundw
        case rel => exact ⟨j + 1, cs, by omega, by go_num, HC.out, HU2.out, HB.out⟩
        case measure => simp [intOf]; omega
      · have hb1 : t / 2 ^ j % 2 = 1 := by omega
        rw [hb1] at hbit
        by_cases ho : A / 8 + (A % 8 + j) / 8 < n
        · have hoi : ¬ (n : Int) - 1 - ((A : Int) % 8 + j) / 8 < (A : Int) / 8 := by omega
          obtain ⟨k, hk⟩ : ∃ k : Nat, k = A / 8 + (A % 8 + j) / 8 := ⟨_, rfl⟩
          obtain ⟨m, hm⟩ : ∃ m : Nat, m = (A % 8 + j) % 8 := ⟨_, rfl⟩
          have hkI : (A : Int) / 8 + ((A : Int) % 8 + j) / 8 = (k : Int) := by omega
          have hmI : ((A : Int) % 8 + j) % 8 = (m : Int) := by omega
          have hm8 : m < 8 := by omega
          have hkn : k < n := by omega
          have hkm : 8 * k + m = A + j := by omega
          obtain ⟨hcell, hfr⟩ := HC.out.cell k hkn
          have hy := HC.out.byt.getD k
          obtain ⟨hfl, hfl2⟩ := flip8 hy hm8
          have hS := HC.out.set k (((cs.getD k 0).toNat ^^^ 2 ^ m : Nat) : Int) ⟨by omega, by omega⟩
          have hF := upd_flip 4294967295 m hm8 HC.out.byt k (by rw [HC.out.len]; exact hkn)
          have hU2 : upd ent 4294967295 (cs.set k (((cs.getD k 0).toNat ^^^ 2 ^ m : Nat) : Int)) = upd ent 4294967295 bs ^^^ halves (8 * n - A) (t % 2 ^ (j + 1)) := by
            rw [hF, HC.out.len, halves_bit n A j k m hkn hm8 hkm, HU.out, mod_bit1 hb1, halves_xor, Nat.xor_assoc]
          have HN : Hid (Cst (wr.setCell ⟨g, k, none⟩ (.int .u8 (((cs.getD k 0).toNat ^^^ 2 ^ m : Nat) : Int))) g n (cs.set k (((cs.getD k 0).toNat ^^^ 2 ^ m : Nat) : Int)) ∧ upd ent 4294967295 (cs.set k (((cs.getD k 0).toNat ^^^ 2 ^ m : Nat) : Int)) = upd ent 4294967295 bs ^^^ halves (8 * n - A) (t % 2 ^ (j + 1))) := ⟨hS, hU2⟩
          clear hS hU2 hF HC HU hb hb1 ho hk hm hkm
          generalize cs.set k (((cs.getD k 0).toNat ^^^ 2 ^ m : Nat) : Int) = cs2 at HN
          generalize (cs.getD k 0).toNat ^^^ 2 ^ m = y2 at HN hfl hfl2
          generalize cs.getD k 0 = y at hcell hy hfl
          go_wp2_with fail
          go_region
          go_wp2_with fail
          go_roundw
          case rel => exact ⟨j + 1, cs2, by omega, by go_num, HN.out.1.drew, HN.out.2, (HB.out.setCell (p := ⟨g, k, none⟩) hgb _).drew⟩
          case measure => simp [intOf]; omega
        · have hoi : (n : Int) - 1 - ((A : Int) % 8 + j) / 8 < (A : Int) / 8 := by omega
          clear HC HU hb hb1 ho
          go_wp2_with (go_at_call 12; refine (hL _).mono ?_; rintro e w' ⟨rfl, hb⟩)
          go_ret
          exact ⟨rfl, HB.out.trans ((grown_below (by assumption)).mono HB.out.size)⟩
    · have : j = 32 := by omega
      subst this
      have hn5 : n ≤ maxLen := by unfold maxLen; omega
      have hR := HR.out.below HB.out
      have hRc := HC.out.row hn5
      have hne : crc ent 0 bs ≠ crc ent 0 cs := by
        intro e
        have l1 := upd_lt ent_tab HR.out.byt (c := 4294967295) (by decide)
        have l2 := upd_lt ent_tab HC.out.byt (c := 4294967295) (by decide)
        unfold crc at e
        rw [Nat.sub_zero] at e
        have e2 : upd ent 4294967295 cs = upd ent 4294967295 bs := by omega
        have e3 := HU.out
        rw [e2] at e3
        have e4 := (xor_self_iff _ _).1 e3.symm
        rw [show (2 : Nat) ^ 32 = 4294967296 from rfl, Nat.mod_eq_of_lt HT.out.2.2] at e4
        exact halves_ne HT.out.2.2 HT.out.1 _ e4
      have k1 := crc_nil a0 n cap0 bs wr hR
      generalize crc ent 0 bs = c1 at k1 hne
      have hneI : ((c1 : Int) != (crc ent 0 cs : Int)) = true := by simp; omega
      clear HU hne hR hRc
      go_wp2_with fail
      refine k1.mono ?_
      rintro e w5 ⟨rfl, hg5⟩
      have k2 := crc_nil (some ⟨g, 0, none⟩) n cc cs w5 ((HC.out.grown hg5).row hn5)
      have HG5 : Hid (wr.grownBy w5 none) := hg5
      clear hg5 k1 HC
      generalize crc ent 0 cs = c2 at k2 hneI
      go_wp2_with (first | (go_at_call 15; refine k2.mono ?_; rintro e w6 ⟨rfl, hg6⟩) | (go_at_call 12; refine (hL _).mono ?_; rintro e w7 ⟨rfl, hg7⟩))
      go_ret
      exact ⟨rfl, HB.out.trans ((grown_below (grown_trans HG5.out (grown_trans (by assumption) (by assumption)))).mono HB.out.size)⟩

theorem sumBursts_walk (a0 : Option Addr) (len0 cap0 : Nat) (z0 : List Int) (a1 a2 : Int) (w : World) (w0 : IsRow .u8 w a0 len0 cap0 z0) (w1 : (Lit.int .i64 a1).wf = true) (w2 : (Lit.int .u32 a2).wf = true) :
    Calls Try.prog 8 #[.slice a0 len0 cap0, .int .i64 a1, .int .u32 a2] w fun e w' => e = .returned (.bool true) ∧ Below w.heap.size w w' := by
  by_cases h1 : (5000 : Int) < len0
  · exact bursts_b1 a0 len0 cap0 a1 a2 w w0.row.le h1
  by_cases h2 : a1 < 0
  · exact bursts_b2 a0 len0 cap0 a1 a2 w h1 h2
  obtain ⟨A, rfl⟩ := Int.eq_ofNat_of_zero_le (Int.not_lt.1 h2)
  have hA := (wf_i64 w1).2
  by_cases h3 : len0 ≤ A / 8
  · exact bursts_b3 a0 len0 cap0 A a2 w h1 (by omega) h3
  obtain ⟨t, rfl⟩ := Int.eq_ofNat_of_zero_le (wf_u32 w2).1
  have ht := (wf_u32 w2).2
  by_cases h4 : t = 0
  · subst h4
    exact bursts_b4 a0 len0 cap0 A w h1 (by omega) (by omega)
  · exact bursts_main a0 len0 cap0 _ A t w w0.row w0.nilcap h1 (by omega) (by omega) h4
end Go.Proofs.Ytmnejeallnffgaa
