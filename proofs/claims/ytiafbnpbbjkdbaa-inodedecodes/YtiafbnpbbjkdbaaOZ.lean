/- through, with a reader: the walk. -/
import Derived.Test.YtiafbnpbbjkdbaaOY
namespace Go.Proofs.Ytiafbnpbbjkdbaa
open Go.RowKit
set_option maxRecDepth 100000
set_option linter.unusedSimpArgs false
set_option linter.unusedVariables false
def RtP1 (W W' : World) (q g : Nat) (a : Option Addr) (len cap : Nat) (bs : List Int) (at_ : Nat) : Prop := ∃ (x1 x2 x3 x4 x5 x6 x7 x8 x9 x10 x11 : Int) (wa : Option Addr) (wl wc : Nat) (ws : List Int), in64 x1 ∧ in64 x2 ∧ in64 x3 ∧ in64 x4 ∧ in64 x5 ∧ in64 x6 ∧ in64 x7 ∧ in64 x8 ∧ in64 x9 ∧ in64 x10 ∧ in64 x11 ∧ Wro W W' ⟨1, x1, x2, x3, x4, x5, x6, x7, x8, wa, wl, wc, ws, x9, x10, x11, 0, 0, 0, ⟨#[]⟩, 0⟩ ∧ Rst W W' q g a len cap bs at_ ⟨1, x1, x2, x3, x4, x5, x6, x7, x8, wa, wl, wc, ws, x9, x10, x11, 0, 0, 0, ⟨#[]⟩, 0⟩ (44 + 4 + 4 * (fv15 bs at_ 44 4).toNat) (((((((((((((True ∧ 1 = IntKind.i64.wrap (fv15 bs at_ 0 2)) ∧ x1 = IntKind.i64.wrap (fv15 bs at_ 2 2)) ∧ x2 = IntKind.i64.wrap (fv15 bs at_ 4 2)) ∧ x3 = IntKind.i64.wrap (fv15 bs at_ 6 2)) ∧ x4 = IntKind.i64.wrap (fv15 bs at_ 8 4)) ∧ x5 = IntKind.i64.wrap (fv15 bs at_ 12 4)) ∧ x6 = sg15 (fv15 bs at_ 16 4)) ∧ x7 = IntKind.i64.wrap (fv15 bs at_ 20 8)) ∧ x8 = IntKind.i64.wrap (fv15 bs at_ 28 4)) ∧ x9 = sg15 (fv15 bs at_ 32 4)) ∧ x10 = IntKind.i64.wrap (fv15 bs at_ 36 4)) ∧ x11 = IntKind.i64.wrap (fv15 bs at_ 40 4)) ∧ ws = rdw bs (at_ + 44 + 4) (fv15 bs at_ 44 4).toNat ∧ (fv15 bs at_ 44 4).toNat ≤ 65536 ∧ at_ + 44 + 4 + 4 * (fv15 bs at_ 44 4).toNat ≤ len) (No15 bs at_)
def RtP2 (W W' : World) (q g : Nat) (a : Option Addr) (len cap : Nat) (bs : List Int) (at_ : Nat) : Prop := ∃ (x1 x2 x3 x4 x5 x6 x7 x8 x9 : Int), in64 x1 ∧ in64 x2 ∧ in64 x3 ∧ in64 x4 ∧ in64 x5 ∧ in64 x6 ∧ in64 x7 ∧ in64 x8 ∧ in64 x9 ∧ Rst W W' q g a len cap bs at_ ⟨2, x1, x2, x3, x4, x5, x6, 0, 0, none, 0, 0, [], 0, 0, 0, x7, x8, x9, ⟨#[]⟩, 0⟩ 32 ((((((((((True ∧ 2 = IntKind.i64.wrap (fv15 bs at_ 0 2)) ∧ x1 = IntKind.i64.wrap (fv15 bs at_ 2 2)) ∧ x2 = IntKind.i64.wrap (fv15 bs at_ 4 2)) ∧ x3 = IntKind.i64.wrap (fv15 bs at_ 6 2)) ∧ x4 = IntKind.i64.wrap (fv15 bs at_ 8 4)) ∧ x5 = IntKind.i64.wrap (fv15 bs at_ 12 4)) ∧ x6 = sg15 (fv15 bs at_ 16 4)) ∧ x7 = IntKind.i64.wrap (fv15 bs at_ 20 4)) ∧ x8 = IntKind.i64.wrap (fv15 bs at_ 24 4)) ∧ x9 = IntKind.i64.wrap (fv15 bs at_ 28 4)) (No15 bs at_)
def RtP3 (W W' : World) (q g : Nat) (a : Option Addr) (len cap : Nat) (bs : List Int) (at_ : Nat) : Prop := ∃ (x1 x2 x3 x4 x5 x6 : Int) (xs : List Int), in64 x1 ∧ in64 x2 ∧ in64 x3 ∧ in64 x4 ∧ in64 x5 ∧ in64 x6 ∧ (xs.length ≤ 65535 ∧ Byt xs) ∧ Rst W W' q g a len cap bs at_ ⟨3, x1, x2, x3, x4, x5, x6, 0, 0, none, 0, 0, [], 0, 0, 0, 0, 0, 0, (strOfNums xs), 0⟩ (20 + 2 + (fv15 bs at_ 20 2).toNat) ((((((((True ∧ 3 = IntKind.i64.wrap (fv15 bs at_ 0 2)) ∧ x1 = IntKind.i64.wrap (fv15 bs at_ 2 2)) ∧ x2 = IntKind.i64.wrap (fv15 bs at_ 4 2)) ∧ x3 = IntKind.i64.wrap (fv15 bs at_ 6 2)) ∧ x4 = IntKind.i64.wrap (fv15 bs at_ 8 4)) ∧ x5 = IntKind.i64.wrap (fv15 bs at_ 12 4)) ∧ x6 = sg15 (fv15 bs at_ 16 4)) ∧ xs = (bs.drop (at_ + 20 + 2)).take (fv15 bs at_ 20 2).toNat ∧ at_ + 20 + 2 + (fv15 bs at_ 20 2).toNat ≤ len) (No15 bs at_)
def RtP4 (W W' : World) (q g : Nat) (a : Option Addr) (len cap : Nat) (bs : List Int) (at_ : Nat) : Prop := ∃ (x1 x2 x3 x4 x5 x6 x7 : Int), in64 x1 ∧ in64 x2 ∧ in64 x3 ∧ in64 x4 ∧ in64 x5 ∧ in64 x6 ∧ in64 x7 ∧ Rst W W' q g a len cap bs at_ ⟨4, x1, x2, x3, x4, x5, x6, 0, 0, none, 0, 0, [], 0, 0, 0, 0, 0, 0, ⟨#[]⟩, x7⟩ 24 ((((((((True ∧ 4 = IntKind.i64.wrap (fv15 bs at_ 0 2)) ∧ x1 = IntKind.i64.wrap (fv15 bs at_ 2 2)) ∧ x2 = IntKind.i64.wrap (fv15 bs at_ 4 2)) ∧ x3 = IntKind.i64.wrap (fv15 bs at_ 6 2)) ∧ x4 = IntKind.i64.wrap (fv15 bs at_ 8 4)) ∧ x5 = IntKind.i64.wrap (fv15 bs at_ 12 4)) ∧ x6 = sg15 (fv15 bs at_ 16 4)) ∧ x7 = IntKind.i64.wrap (fv15 bs at_ 20 4)) (No15 bs at_)
def RtP5 (W W' : World) (q g : Nat) (a : Option Addr) (len cap : Nat) (bs : List Int) (at_ : Nat) : Prop := ∃ (x1 x2 x3 x4 x5 x6 x7 : Int), in64 x1 ∧ in64 x2 ∧ in64 x3 ∧ in64 x4 ∧ in64 x5 ∧ in64 x6 ∧ in64 x7 ∧ Rst W W' q g a len cap bs at_ ⟨5, x1, x2, x3, x4, x5, x6, 0, 0, none, 0, 0, [], 0, 0, 0, 0, 0, 0, ⟨#[]⟩, x7⟩ 24 ((((((((True ∧ 5 = IntKind.i64.wrap (fv15 bs at_ 0 2)) ∧ x1 = IntKind.i64.wrap (fv15 bs at_ 2 2)) ∧ x2 = IntKind.i64.wrap (fv15 bs at_ 4 2)) ∧ x3 = IntKind.i64.wrap (fv15 bs at_ 6 2)) ∧ x4 = IntKind.i64.wrap (fv15 bs at_ 8 4)) ∧ x5 = IntKind.i64.wrap (fv15 bs at_ 12 4)) ∧ x6 = sg15 (fv15 bs at_ 16 4)) ∧ x7 = IntKind.i64.wrap (fv15 bs at_ 20 4)) (No15 bs at_)
def RtP0 (W W' : World) (q g : Nat) (a : Option Addr) (len cap : Nat) (bs : List Int) (at_ : Nat) : Prop := ∃ (x0 x1 x2 x3 x4 x5 x6 : Int), in64 x0 ∧ in64 x1 ∧ in64 x2 ∧ in64 x3 ∧ in64 x4 ∧ in64 x5 ∧ in64 x6 ∧ (x0 ≠ 1 ∧ x0 ≠ 2 ∧ x0 ≠ 3 ∧ x0 ≠ 4 ∧ x0 ≠ 5) ∧ Rst W W' q g a len cap bs at_ ⟨x0, x1, x2, x3, x4, x5, x6, 0, 0, none, 0, 0, [], 0, 0, 0, 0, 0, 0, ⟨#[]⟩, 0⟩ 20 (((((((True ∧ x0 = IntKind.i64.wrap (fv15 bs at_ 0 2)) ∧ x1 = IntKind.i64.wrap (fv15 bs at_ 2 2)) ∧ x2 = IntKind.i64.wrap (fv15 bs at_ 4 2)) ∧ x3 = IntKind.i64.wrap (fv15 bs at_ 6 2)) ∧ x4 = IntKind.i64.wrap (fv15 bs at_ 8 4)) ∧ x5 = IntKind.i64.wrap (fv15 bs at_ 12 4)) ∧ x6 = sg15 (fv15 bs at_ 16 4)) (No15 bs at_)
def RtP (W W' : World) (q g : Nat) (a : Option Addr) (len cap : Nat) (bs : List Int) (at_ : Nat) : Prop := RtP1 W W' q g a len cap bs at_ ∨ RtP2 W W' q g a len cap bs at_ ∨ RtP3 W W' q g a len cap bs at_ ∨ RtP4 W W' q g a len cap bs at_ ∨ RtP5 W W' q g a len cap bs at_ ∨ RtP0 W W' q g a len cap bs at_
set_option maxHeartbeats 8000000 in
theorem rthrough_any (q g : Nat) (a : Option Addr) (len cap : Nat) (bs : List Int) (at_ : Nat) (W : World) (C : Rcx W q g a len cap bs at_) (hlen : bs.length = len) (hq : Bx W q 60 (rdc a len cap at_ false)) (hb : Bx W g 24 [.int .i64 0, .int .i64 0, .int .i64 0, .int .i64 0, .int .i64 0, .int .i64 0, .int .i64 0, .int .i64 0, .int .i64 0, .slice none 0 0, .int .i64 0, .int .i64 0, .int .i64 0, .int .i64 0, .int .i64 0, .int .i64 0, .string ⟨#[]⟩, .int .i64 0]) (hat : at_ ≤ len) :
    Calls Try.prog 19 #[.pointer (some ⟨g, 0, none⟩), .func (.func 30) #[.pointer (some ⟨q, 0, none⟩)] #[], .func (.func 31) #[.pointer (some ⟨q, 0, none⟩)] #[], .func (.func 32) #[.pointer (some ⟨q, 0, none⟩)] #[]] W fun e W' => e = .returned (.tuple #[]) ∧ RtP W W' q g a len cap bs at_ := by
  have HC : Hid _ := C
  have HR0 : Hid (Rst W W q g a len cap bs at_ ⟨0, 0, 0, 0, 0, 0, 0, 0, 0, none, 0, 0, [], 0, 0, 0, 0, 0, 0, ⟨#[]⟩, 0⟩ 0 True (No15 bs at_)) := ⟨⟨at_, false, hq, hat, fun _ => ⟨rfl, trivial⟩, fun e => (by cases e)⟩, hb, ⟨rfl, rfl, rfl, Nat.le_refl _, fun _ _ _ _ => rfl⟩⟩
  have HL : Hid (bs.length = len) := hlen
  have HP : Hid (∀ W', RtP1 W W' q g a len cap bs at_ ∨ RtP2 W W' q g a len cap bs at_ ∨ RtP3 W W' q g a len cap bs at_ ∨ RtP4 W W' q g a len cap bs at_ ∨ RtP5 W W' q g a len cap bs at_ ∨ RtP0 W W' q g a len cap bs at_ → RtP W W' q g a len cap bs at_) := fun W' h => h
  clear C hq hb hat hlen
  generalize hQ : RtP W = Q at *
  clear hQ
  go_enter Try.func19, Try.ntmps19
  go_wp2_with fail
  refine (rst_num HC.out HR0.out 0 rfl (fun x => ⟨x, 0, 0, 0, 0, 0, 0, 0, 0, none, 0, 0, [], 0, 0, 0, 0, 0, 0, ⟨#[]⟩, 0⟩) (fun x => rfl) rfl 2 (by decide) (fun e h => no_head (L := 2) (by decide) (by have := HL.out; omega))).mono ?_
  rintro e W0 ⟨rfl, x0, hi0, hs⟩
  have HI0 : Hid _ := hi0
  have HR1 : Hid _ := hs
  clear hi0 hs
  clear HR0
  go_wp2_with fail
  refine (rst_num HC.out HR1.out 1 rfl (fun x => ⟨x0, x, 0, 0, 0, 0, 0, 0, 0, none, 0, 0, [], 0, 0, 0, 0, 0, 0, ⟨#[]⟩, 0⟩) (fun x => rfl) rfl 2 (by decide) (fun e h => no_head (L := 4) (by decide) (by have := HL.out; omega))).mono ?_
  rintro e W1 ⟨rfl, x1, hi1, hs⟩
  have HI1 : Hid _ := hi1
  have HR2 : Hid _ := hs
  clear hi1 hs
  clear HR1
  go_wp2_with fail
  refine (rst_num HC.out HR2.out 2 rfl (fun x => ⟨x0, x1, x, 0, 0, 0, 0, 0, 0, none, 0, 0, [], 0, 0, 0, 0, 0, 0, ⟨#[]⟩, 0⟩) (fun x => rfl) rfl 2 (by decide) (fun e h => no_head (L := 6) (by decide) (by have := HL.out; omega))).mono ?_
  rintro e W2 ⟨rfl, x2, hi2, hs⟩
  have HI2 : Hid _ := hi2
  have HR3 : Hid _ := hs
  clear hi2 hs
  clear HR2
  go_wp2_with fail
  refine (rst_num HC.out HR3.out 3 rfl (fun x => ⟨x0, x1, x2, x, 0, 0, 0, 0, 0, none, 0, 0, [], 0, 0, 0, 0, 0, 0, ⟨#[]⟩, 0⟩) (fun x => rfl) rfl 2 (by decide) (fun e h => no_head (L := 8) (by decide) (by have := HL.out; omega))).mono ?_
  rintro e W3 ⟨rfl, x3, hi3, hs⟩
  have HI3 : Hid _ := hi3
  have HR4 : Hid _ := hs
  clear hi3 hs
  clear HR3
  go_wp2_with fail
  refine (rst_num HC.out HR4.out 4 rfl (fun x => ⟨x0, x1, x2, x3, x, 0, 0, 0, 0, none, 0, 0, [], 0, 0, 0, 0, 0, 0, ⟨#[]⟩, 0⟩) (fun x => rfl) rfl 4 (by decide) (fun e h => no_head (L := 12) (by decide) (by have := HL.out; omega))).mono ?_
  rintro e W4 ⟨rfl, x4, hi4, hs⟩
  have HI4 : Hid _ := hi4
  have HR5 : Hid _ := hs
  clear hi4 hs
  clear HR4
  go_wp2_with fail
  refine (rst_num HC.out HR5.out 5 rfl (fun x => ⟨x0, x1, x2, x3, x4, x, 0, 0, 0, none, 0, 0, [], 0, 0, 0, 0, 0, 0, ⟨#[]⟩, 0⟩) (fun x => rfl) rfl 4 (by decide) (fun e h => no_head (L := 16) (by decide) (by have := HL.out; omega))).mono ?_
  rintro e W5 ⟨rfl, x5, hi5, hs⟩
  have HI5 : Hid _ := hi5
  have HR6 : Hid _ := hs
  clear hi5 hs
  clear HR5
  go_wp2_with fail
  refine (rst_signed HC.out HR6.out 6 rfl (fun x => ⟨x0, x1, x2, x3, x4, x5, x, 0, 0, none, 0, 0, [], 0, 0, 0, 0, 0, 0, ⟨#[]⟩, 0⟩) (fun x => rfl) (fun e h => no_head (L := 20) (by decide) (by have := HL.out; omega))).mono ?_
  rintro e W6 ⟨rfl, x6, hi6, hs⟩
  have HI6 : Hid _ := hi6
  have HR7 : Hid _ := hs
  clear hi6 hs
  clear HR6
  have c0 := HR7.out.bx.c 0
  simp only [Nd.cells, List.getElem?_cons_zero] at c0
  by_cases k1 : x0 = 1
  · subst k1
    go_wp2_with fail
    refine (rst_num HC.out HR7.out 7 rfl (fun x => ⟨1, x1, x2, x3, x4, x5, x6, x, 0, none, 0, 0, [], 0, 0, 0, 0, 0, 0, ⟨#[]⟩, 0⟩) (fun x => rfl) rfl 8 (by decide) (fun e h => no_1 (L := 28) e.1.1.1.1.1.1.2 (by decide) (by have := HL.out; omega))).mono ?_
    rintro e W7 ⟨rfl, x7, hi7, hs⟩
    have HI7 : Hid _ := hi7
    have HR8 : Hid _ := hs
    clear hi7 hs
    clear HR7 c0
    go_wp2_with fail
    refine (rst_num HC.out HR8.out 8 rfl (fun x => ⟨1, x1, x2, x3, x4, x5, x6, x7, x, none, 0, 0, [], 0, 0, 0, 0, 0, 0, ⟨#[]⟩, 0⟩) (fun x => rfl) rfl 4 (by decide) (fun e h => no_1 (L := 32) e.1.1.1.1.1.1.1.2 (by decide) (by have := HL.out; omega))).mono ?_
    rintro e W8 ⟨rfl, x8, hi8, hs⟩
    have HI8 : Hid _ := hi8
    have HR9 : Hid _ := hs
    clear hi8 hs
    clear HR8
    go_wp2_with fail
    refine (rst_signed HC.out HR9.out 10 rfl (fun x => ⟨1, x1, x2, x3, x4, x5, x6, x7, x8, none, 0, 0, [], x, 0, 0, 0, 0, 0, ⟨#[]⟩, 0⟩) (fun x => rfl) (fun e h => no_1 (L := 36) e.1.1.1.1.1.1.1.1.2 (by decide) (by have := HL.out; omega))).mono ?_
    rintro e W9 ⟨rfl, x9, hi9, hs⟩
    have HI9 : Hid _ := hi9
    have HR10 : Hid _ := hs
    clear hi9 hs
    clear HR9
    go_wp2_with fail
    refine (rst_num HC.out HR10.out 11 rfl (fun x => ⟨1, x1, x2, x3, x4, x5, x6, x7, x8, none, 0, 0, [], x9, x, 0, 0, 0, 0, ⟨#[]⟩, 0⟩) (fun x => rfl) rfl 4 (by decide) (fun e h => no_1 (L := 40) e.1.1.1.1.1.1.1.1.1.2 (by decide) (by have := HL.out; omega))).mono ?_
    rintro e W10 ⟨rfl, x10, hi10, hs⟩
    have HI10 : Hid _ := hi10
    have HR11 : Hid _ := hs
    clear hi10 hs
    clear HR10
    go_wp2_with fail
    refine (rst_num HC.out HR11.out 12 rfl (fun x => ⟨1, x1, x2, x3, x4, x5, x6, x7, x8, none, 0, 0, [], x9, x10, x, 0, 0, 0, ⟨#[]⟩, 0⟩) (fun x => rfl) rfl 4 (by decide) (fun e h => no_1 (L := 44) e.1.1.1.1.1.1.1.1.1.1.2 (by decide) (by have := HL.out; omega))).mono ?_
    rintro e W11 ⟨rfl, x11, hi11, hs⟩
    have HI11 : Hid _ := hi11
    have HR12 : Hid _ := hs
    clear hi11 hs
    clear HR11
    go_wp2_with fail
    refine (rst_words HC.out HR12.out ⟨rfl, rfl, rfl, rfl⟩ (fun e h => no_1w e.1.1.1.1.1.1.1.1.1.1.1.2 (by have := HL.out; have h2 : len < at_ + 44 + 4 ∨ 65536 < (fv15 bs at_ 44 4).toNat ∨ len < at_ + 44 + 4 + 4 * (fv15 bs at_ 44 4).toNat := h; omega))).mono ?_
    rintro e W12 ⟨rfl, wa, wl, wc, ws, hw, hs⟩
    have HW : Hid _ := hw
    have HR13 : Hid _ := hs
    clear hw hs
    clear HR12
    go_wp2
    go_end0
    exact ⟨rfl, HP.out _ (Or.inl (⟨x1, x2, x3, x4, x5, x6, x7, x8, x9, x10, x11, wa, wl, wc, ws, HI1.out, HI2.out, HI3.out, HI4.out, HI5.out, HI6.out, HI7.out, HI8.out, HI9.out, HI10.out, HI11.out, HW.out, HR13.out⟩))⟩
  by_cases k2 : x0 = 2
  · subst k2
    go_wp2_with fail
    refine (rst_num HC.out HR7.out 13 rfl (fun x => ⟨2, x1, x2, x3, x4, x5, x6, 0, 0, none, 0, 0, [], 0, 0, 0, x, 0, 0, ⟨#[]⟩, 0⟩) (fun x => rfl) rfl 4 (by decide) (fun e h => no_2 (L := 24) e.1.1.1.1.1.1.2 (by decide) (by have := HL.out; omega))).mono ?_
    rintro e W7 ⟨rfl, x7, hi7, hs⟩
    have HI7 : Hid _ := hi7
    have HR8 : Hid _ := hs
    clear hi7 hs
    clear HR7 c0
    go_wp2_with fail
    refine (rst_num HC.out HR8.out 14 rfl (fun x => ⟨2, x1, x2, x3, x4, x5, x6, 0, 0, none, 0, 0, [], 0, 0, 0, x7, x, 0, ⟨#[]⟩, 0⟩) (fun x => rfl) rfl 4 (by decide) (fun e h => no_2 (L := 28) e.1.1.1.1.1.1.1.2 (by decide) (by have := HL.out; omega))).mono ?_
    rintro e W8 ⟨rfl, x8, hi8, hs⟩
    have HI8 : Hid _ := hi8
    have HR9 : Hid _ := hs
    clear hi8 hs
    clear HR8
    go_wp2_with fail
    refine (rst_num HC.out HR9.out 15 rfl (fun x => ⟨2, x1, x2, x3, x4, x5, x6, 0, 0, none, 0, 0, [], 0, 0, 0, x7, x8, x, ⟨#[]⟩, 0⟩) (fun x => rfl) rfl 4 (by decide) (fun e h => no_2 (L := 32) e.1.1.1.1.1.1.1.1.2 (by decide) (by have := HL.out; omega))).mono ?_
    rintro e W9 ⟨rfl, x9, hi9, hs⟩
    have HI9 : Hid _ := hi9
    have HR10 : Hid _ := hs
    clear hi9 hs
    clear HR9
    go_wp2
    go_end0
    exact ⟨rfl, HP.out _ (Or.inr (Or.inl (⟨x1, x2, x3, x4, x5, x6, x7, x8, x9, HI1.out, HI2.out, HI3.out, HI4.out, HI5.out, HI6.out, HI7.out, HI8.out, HI9.out, HR10.out⟩)))⟩
  by_cases k3 : x0 = 3
  · subst k3
    go_wp2_with fail
    refine (rst_text HC.out HR7.out rfl (fun x => ⟨3, x1, x2, x3, x4, x5, x6, 0, 0, none, 0, 0, [], 0, 0, 0, 0, 0, 0, x, 0⟩) (fun x => rfl) rfl (fun e h => no_3t e.1.1.1.1.1.1.2 (by have := HL.out; have h2 : len < at_ + 20 + 2 ∨ len < at_ + 20 + 2 + (fv15 bs at_ 20 2).toNat := h; omega))).mono ?_
    rintro e W7 ⟨rfl, xs, hx1, hx2, hs⟩
    have HX : Hid _ := And.intro hx1 hx2
    have HR8 : Hid _ := hs
    clear hx1 hx2 hs
    clear HR7 c0
    go_wp2
    go_end0
    exact ⟨rfl, HP.out _ (Or.inr (Or.inr (Or.inl (⟨x1, x2, x3, x4, x5, x6, xs, HI1.out, HI2.out, HI3.out, HI4.out, HI5.out, HI6.out, HX.out, HR8.out⟩))))⟩
  by_cases k4 : x0 = 4
  · subst k4
    go_wp2_with fail
    refine (rst_num HC.out HR7.out 17 rfl (fun x => ⟨4, x1, x2, x3, x4, x5, x6, 0, 0, none, 0, 0, [], 0, 0, 0, 0, 0, 0, ⟨#[]⟩, x⟩) (fun x => rfl) rfl 4 (by decide) (fun e h => no_4 (by decide) (L := 24) e.1.1.1.1.1.1.2 (by decide) (by have := HL.out; omega))).mono ?_
    rintro e W7 ⟨rfl, x7, hi7, hs⟩
    have HI7 : Hid _ := hi7
    have HR8 : Hid _ := hs
    clear hi7 hs
    clear HR7 c0
    go_wp2
    go_end0
    exact ⟨rfl, HP.out _ (Or.inr (Or.inr (Or.inr (Or.inl (⟨x1, x2, x3, x4, x5, x6, x7, HI1.out, HI2.out, HI3.out, HI4.out, HI5.out, HI6.out, HI7.out, HR8.out⟩)))))⟩
  by_cases k5 : x0 = 5
  · subst k5
    go_wp2_with fail
    refine (rst_num HC.out HR7.out 17 rfl (fun x => ⟨5, x1, x2, x3, x4, x5, x6, 0, 0, none, 0, 0, [], 0, 0, 0, 0, 0, 0, ⟨#[]⟩, x⟩) (fun x => rfl) rfl 4 (by decide) (fun e h => no_4 (by decide) (L := 24) e.1.1.1.1.1.1.2 (by decide) (by have := HL.out; omega))).mono ?_
    rintro e W7 ⟨rfl, x7, hi7, hs⟩
    have HI7 : Hid _ := hi7
    have HR8 : Hid _ := hs
    clear hi7 hs
    clear HR7 c0
    go_wp2
    go_end0
    exact ⟨rfl, HP.out _ (Or.inr (Or.inr (Or.inr (Or.inr (Or.inl (⟨x1, x2, x3, x4, x5, x6, x7, HI1.out, HI2.out, HI3.out, HI4.out, HI5.out, HI6.out, HI7.out, HR8.out⟩))))))⟩
  go_wp2
  go_end0
  exact ⟨rfl, HP.out _ (Or.inr (Or.inr (Or.inr (Or.inr (Or.inr (⟨x0, x1, x2, x3, x4, x5, x6, HI0.out, HI1.out, HI2.out, HI3.out, HI4.out, HI5.out, HI6.out, ⟨k1, k2, k3, k4, k5⟩, HR7.out⟩))))))⟩
end Go.Proofs.Ytiafbnpbbjkdbaa
