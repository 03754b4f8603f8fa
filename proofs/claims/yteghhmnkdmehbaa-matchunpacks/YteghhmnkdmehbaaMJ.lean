/- The program's Pack and Unpack. -/
import Derived.Test.YteghhmnkdmehbaaMI
namespace Go.Proofs.Yteghhmnkdmehbaa
open Go.RowKit
set_option linter.unusedSimpArgs false
set_option linter.unusedVariables false

/-- Pack, as a plain function -/
def pck (bs : List Int) (limit : Nat) : List Int × Bool := if wrth bs.length (jcat (enc bs)).length limit then (jcat (enc bs), true) else (bs, false)
def PkPost (w : World) (r : List Int × Bool) (e : Ending) (w' : World) : Prop := ∃ a n c, e = .returned (.tuple #[.slice a n c, .bool r.2, .int .i64 0]) ∧ Byte w' a n c r.1 ∧ w.grownBy w' none
set_option maxHeartbeats 1000000 in
theorem pack_any (a : Option Addr) (len cap : Nat) (bs : List Int) (limit : Nat) (w : World) (B : Byte w a len cap bs) (hl : len ≤ 1048576) (hq : (enc bs).length ≤ 65536) :
    Calls Try.prog 15 #[.slice a len cap, .float .f64 limit] w (PkPost w (pck bs limit)) := by
  have he := encode_any a len cap bs w B hl hq
  have hlb := B.row.len_eq
  have HB : Hid _ := B
  unfold pck
  rw [hlb]
  have HJ : Hid ((jcat (enc bs)).length ≤ 9223372036854775807) := by
    have E := enc_ok bs (by omega)
    have := jcat_le (Int.le_refl 0) (by omega) E.ok
    show (jcat (enc bs)).length ≤ _
    omega
  generalize jcat (enc bs) = J at *
  clear B hq hlb
  have hw := worth_any (len : Int) (J.length : Int) limit
  generalize wrth (len : Int) (J.length : Int) limit = p at *
  cases p with
  | true =>
    rw [if_pos rfl]
    go_enter Try.func15, Try.ntmps15
    go_wp2_with fail
    refine he.mono ?_
    intro e w1 h1
    obtain ⟨a1, n1, c1, rfl, B1, g1⟩ := h1
    simp only at B1
    have hn1 := HJ.out
    rw [B1.row.len_eq] at hn1 hw
    have HG : Hid _ := And.intro B1 g1
    clear he B1 g1 HJ
    simp only
    go_wp2_with fail
    refine (hw _).mono ?_
    rintro e w2 ⟨rfl, m, rfl⟩
    have HB2 : Hid _ := HB.out.row.grown (grown_trans HG.out.2 (grown_drewN5 (World.grownBy.refl w1 none) m))
    have HF : Hid _ := And.intro (HG.out.1.row.grown (grown_drewN5 (World.grownBy.refl w1 none) m)) (grown_trans HG.out.2 (grown_drewN5 (World.grownBy.refl w1 none) m))
    have HC : Hid _ := And.intro HG.out.1.nil (And.intro HG.out.1.nc HG.out.1.cm)
    clear hw HG
    generalize w1.drewN m = w2 at *
    simp only
    go_wp2
    go_ret3
    exact ⟨_, _, _, rfl, ⟨HF.out.1, HC.out.1, HC.out.2.1, HC.out.2.2⟩, HF.out.2⟩
  | false =>
    rw [if_neg (by decide)]
    go_enter Try.func15, Try.ntmps15
    go_wp2_with fail
    refine he.mono ?_
    intro e w1 h1
    obtain ⟨a1, n1, c1, rfl, B1, g1⟩ := h1
    simp only at B1
    have hn1 := HJ.out
    rw [B1.row.len_eq] at hn1 hw
    have HG : Hid _ := And.intro B1 g1
    clear he B1 g1 HJ
    simp only
    go_wp2_with fail
    refine (hw _).mono ?_
    rintro e w2 ⟨rfl, m, rfl⟩
    have HB2 : Hid _ := HB.out.row.grown (grown_trans HG.out.2 (grown_drewN5 (World.grownBy.refl w1 none) m))
    have HF : Hid _ := And.intro (HG.out.1.row.grown (grown_drewN5 (World.grownBy.refl w1 none) m)) (grown_trans HG.out.2 (grown_drewN5 (World.grownBy.refl w1 none) m))
    have HC : Hid _ := And.intro HG.out.1.nil (And.intro HG.out.1.nc HG.out.1.cm)
    clear hw HG
    generalize w1.drewN m = w2 at *
    simp only
    have hcl := clone_own a len cap bs w2 ⟨HB2.out, HB.out.nil, HB.out.nc, HB.out.cm⟩ (by omega)
    go_wp2_with fail
    refine hcl.mono ?_
    rintro e w3 ⟨v, rfl, o3, g3⟩
    obtain ⟨a3, c3, rfl, B3⟩ := byte_own o3 HB.out.row.byt (by unfold maxLen; omega)
    have HR : Hid _ := And.intro B3 (grown_trans HF.out.2 g3)
    clear hcl o3 B3 g3 HF HC HB2
    simp only
    go_wp2
    go_ret3
    exact ⟨_, _, _, rfl, HR.out.1, HR.out.2⟩
/-- an answer that is new memory -/
def UpPost (w : World) (r : List Int × Int) (e : Ending) (w' : World) : Prop := ∃ a n c, e = .returned (.tuple #[.slice a n c, .int .i64 r.2]) ∧ Byte w' a n c r.1 ∧ w.grownBy w' none ∧ w'.ownsRow w.heap.size 5 1 (.slice a n c) n (bv r.1)
theorem up_none {w w' : World} {er : Int} (h : w.grownBy w' none) : UpPost w ([], er) (.returned (.tuple #[.slice none 0 0, .int .i64 er])) w' :=
  ⟨none, 0, 0, rfl, ⟨Row.none0 _, fun _ => rfl, Nat.le_refl _, Nat.zero_le _⟩, h, World.ownsRow_nil _ _ _ _⟩
theorem unpk_pdec (bs : List Int) (most : Int) : unpk bs true most = ((pdec bs most).1, (pdec bs most).2.2.1) := by
  unfold unpk pdec
  split
  · rfl
  · rfl
set_option maxHeartbeats 1000000 in
theorem unpack6_any (a : Option Addr) (len cap : Nat) (bs : List Int) (packed : Bool) (most : Int) (w : World) (B : Byte w a len cap bs) (hl : len ≤ 16777216) (hm : -9223372036854775808 ≤ most ∧ most ≤ 9223372036854775807) :
    Calls Try.prog 17 #[.slice a len cap, .bool packed, .int .i64 most] w (UpPost w (unpk bs packed most)) := by
  have hlb := B.row.len_eq
  cases packed with
  | true =>
    have hd := pdecode_own a len cap bs most w B.row hl B.nc B.cm hm
    rw [unpk_pdec]
    generalize pdec bs most = r at *
    obtain ⟨ro, rs, re, rp⟩ := r
    clear B hlb
    go_enter Try.func17, Try.ntmps17
    go_wp2_with fail
    refine hd.mono ?_
    intro e w1 h1
    obtain ⟨a1, n1, c1, rfl, B1, g1, o1⟩ := h1
    have HF : Hid _ := And.intro B1 (And.intro g1 o1)
    clear hd B1 g1 o1
    simp only
    go_wp2
    go_ret2
    exact ⟨_, _, _, rfl, HF.out.1, HF.out.2.1, HF.out.2.2⟩
  | false =>
    by_cases h0 : most < 0 ∨ 1048576 < most
    · have e : unpk bs false most = ([], 1) := by unfold unpk; rw [if_pos h0]
      rw [e]
      clear e B
      rcases h0 with h0 | h0
      · go_enter Try.func17, Try.ntmps17
        go_wp2
        go_ret2
        exact up_none (World.grownBy.refl _ _)
      · have d1 : decide (most < 0) = false := decide_eq_false (by omega)
        go_enter Try.func17, Try.ntmps17
        go_wp2
        go_ret2
        exact up_none (World.grownBy.refl _ _)
    · have d1 : decide (most < 0) = false := decide_eq_false (by omega)
      have d2 : decide (1048576 < most) = false := decide_eq_false (by omega)
      by_cases h1 : most < len
      · have e : unpk bs false most = ([], 2) := by unfold unpk; rw [if_neg h0, hlb, if_pos h1]; rfl
        rw [e]
        clear e B
        go_enter Try.func17, Try.ntmps17
        go_wp2
        go_ret2
        exact up_none (World.grownBy.refl _ _)
      · have e : unpk bs false most = (bs, 0) := by unfold unpk; rw [if_neg h0, hlb, if_neg h1]; rfl
        rw [e]
        have d3 : decide (most < (len : Int)) = false := decide_eq_false h1
        have hcl := clone_own a len cap bs w B hl
        have HB : Hid _ := B
        clear e B
        go_enter Try.func17, Try.ntmps17
        go_wp2_with fail
        refine hcl.mono ?_
        rintro e w3 ⟨v, rfl, o3, g3⟩
        obtain ⟨a3, c3, rfl, B3⟩ := byte_own o3 HB.out.row.byt (by unfold maxLen; omega)
        have HR : Hid _ := And.intro B3 (And.intro g3 o3)
        clear hcl o3 B3 g3
        simp only
        go_wp2
        go_ret2
        exact ⟨_, _, _, rfl, HR.out.1, HR.out.2.1, HR.out.2.2⟩
end Go.Proofs.Yteghhmnkdmehbaa
