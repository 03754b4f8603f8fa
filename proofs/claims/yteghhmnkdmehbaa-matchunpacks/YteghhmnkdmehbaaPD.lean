/- The program's Decode. -/
import Derived.Test.YteghhmnkdmehbaaPC
import Derived.Test.YteghhmnkdmehbaaRJ
import Derived.Handy
import Derived.Deep.OwnRows
namespace Go.Proofs.Yteghhmnkdmehbaa
open Go.RowKit
set_option linter.unusedSimpArgs false
set_option linter.unusedVariables false

/-- what is unpacked lies in a variable that is shared -/
structure Sh (w0 : World) (gc g cap : Nat) (out : List Int) (W : World) : Prop where
  grown : w0.grownBy W none
  bx : Box W gc 22 [.slice (some ⟨g, 0, none⟩) out.length cap]
  ou : Ou W g cap out
  byt : Byt out
  ne : gc ≠ g
  lc : w0.heap.size ≤ gc
  lg : w0.heap.size ≤ g
theorem Ou.kept {w w' : World} {g cap : Nat} {out : List Int} {row : Option Nat} (h : Ou w g cap out) (hg : w.grownBy w' row) (hr : some g ≠ row) : Ou w' g cap out := World.ownsRow.kept h hg (Or.inr hr)
theorem Sh.keep {w0 W W' : World} {gc g cap : Nat} {out : List Int} (h : Sh w0 gc g cap out W) (hg : W.grownBy W' none) : Sh w0 gc g cap out W' :=
  ⟨grown_trans h.grown hg, h.bx.kept hg (by simp), h.ou.kept hg (by simp), h.byt, h.ne, h.lc, h.lg⟩

set_option maxHeartbeats 1000000 in
theorem dec1_any (w0 : World) (gc g cap : Nat) (out : List Int) (s : SqV) (q : Sq) (w : World) (H : Sh w0 gc g cap out w) (S : SqOk w s q) (hc : out.length + q.1.length + q.2.2.toNat ≤ cap) (hcm : cap ≤ 1048576)
    (hq : q.2.1 = 0 ∧ q.2.2 = 0 ∨ 1 ≤ q.2.1 ∧ q.2.1 ≤ ((out.length + q.1.length : Nat) : Int) ∧ 4 ≤ q.2.2) :
    Calls Try.prog 34 #[.agg #[.slice s.a s.n s.c, .int .i64 s.off, .int .i64 s.m], .pointer (some ⟨gc, 0, none⟩)] w fun e w' =>
      e = .returned (.tuple #[]) ∧ Sh w0 gc g cap (cpy q.2.1.toNat q.2.2.toNat (out ++ q.1)) w' := by
  have G := World.grownBy_alloc w (.cells #[.slice s.a s.n s.c, .int .i64 s.off, .int .i64 s.m] 51) none
  have hu := unpack_any g cap out s q (w.alloc (.cells #[.slice s.a s.n s.c, .int .i64 s.off, .int .i64 s.m] 51)) (H.keep G).ou H.byt ⟨S.row.grown G, S.off, S.m, S.nil, S.nc, S.cm⟩ hc hcm hq
  have c0 : w.cell? ⟨gc, 0, none⟩ = some (.slice (some ⟨g, 0, none⟩) out.length cap) := H.bx.c 0
  have c1 : (w.alloc (.cells #[.slice s.a s.n s.c, .int .i64 s.off, .int .i64 s.m] 51)).cell? ⟨gc, 0, none⟩ = some (.slice (some ⟨g, 0, none⟩) out.length cap) := (H.keep G).bx.c 0
  have HH : Hid _ := And.intro H S
  clear S
  go_enter Try.func34, Try.ntmps34
  go_wp2_with fail
  refine hu.mono ?_
  rintro e w' ⟨rfl, ho, hg⟩
  have hbx : Box w' gc 22 [.slice (some ⟨g, 0, none⟩) out.length cap] := (HH.out.1.keep G).bx.kept hg (by intro e; injection e with e; exact HH.out.1.ne e)
  have hg0 : w0.grownBy w' none := by
    refine grown_new (H.keep G).grown hg H.lg
  have hs := hbx.set 0 (.slice (some ⟨g, 0, none⟩) (cpy q.2.1.toNat q.2.2.toNat (out ++ q.1)).length cap)
  simp only [List.set_cons_zero] at hs
  have hfin : Sh w0 gc g cap (cpy q.2.1.toNat q.2.2.toNat (out ++ q.1)) (w'.setCell ⟨gc, 0, none⟩ (.slice (some ⟨g, 0, none⟩) (cpy q.2.1.toNat q.2.2.toNat (out ++ q.1)).length cap)) :=
    ⟨grown_new hg0 (grown_set _ _ _ _) H.lc, hs, Ou.kept ho (grown_set _ _ _ _) (by intro e; injection e with e; exact HH.out.1.ne e.symm), cpy_byt _ _ _ (H.byt.append HH.out.2.row.byt), H.ne, H.lc, H.lg⟩
  have d0 : w'.cell? ⟨gc, 0, none⟩ = some (.slice (some ⟨g, 0, none⟩) out.length cap) := hbx.c 0
  have f0 := hbx.f 0
  have HF : Hid _ := hfin
  clear hfin hs hg0 hbx ho hg hu c0 c1 H
  go_wp2
  go_end0
  exact ⟨rfl, HF.out⟩

theorem dec_again {bs : List Int} (hb : Byt bs) {M : Int} {f : Nat} (h0 : (dec bs M f [] [] 0).2.2.1 = 0) (hM : 0 ≤ M) : dec bs ((dec bs M f [] [] 0).1.length : Int) f [] [] 0 = dec bs M f [] [] 0 := by
  rcases dec_bound bs hb _ M (dec_keeps bs M f [] [] 0 hM) f [] [] 0 with h | ⟨q, _, _, h⟩
  · exact h
  · have := h h0; omega

def pdec (bs : List Int) (most : Int) : List Int × List Sq × Int × Int := if most < 0 ∨ 1048576 < most then ([], [], 1, 0) else dec bs most (bs.length + 1) [] [] 0
/-- bytes that a call answered -/
structure Byte (w : World) (a : Option Addr) (n c : Nat) (xs : List Int) : Prop where
  row : Row w a n xs
  nil : a = none → c = 0
  nc : n ≤ c
  cm : c ≤ maxLen
def PDec (w : World) (r : List Int × List Sq × Int × Int) (e : Ending) (w' : World) : Prop :=
  ∃ a n c, e = .returned (.tuple #[.slice a n c, .int .i64 r.2.2.1, .int .i64 r.2.2.2]) ∧ Byte w' a n c r.1 ∧ w.grownBy w' none

theorem callFunc_pass (args : Array Value) (W : World) : (callFunc 33 args).run Try.prog W = .ok (.enter 33 args) W := by rfl
theorem callFunc_dec1 (args : Array Value) (W : World) : (callFunc 34 args).run Try.prog W = .ok (.enter 34 args) W := by rfl
theorem tk_pass {w0 : World} {a : Option Addr} {len : Nat} {bs : List Int} (R : Row w0 a len bs) (most : Int) : Tk a len bs most 33 #[] (fun _ _ W => w0.grownBy W none) :=
  ⟨callFunc_pass, fun _ _ W h => R.grown h, fun _ _ W W' h k => grown_trans h k, fun _ _ W s q _ h S _ _ => (pass_any _ s W rfl).mono (fun e W' k => ⟨k.1, grown_trans h k.2⟩)⟩
theorem tk_dec1 {w0 : World} {a : Option Addr} {len : Nat} {bs : List Int} (R : Row w0 a len bs) (gc g cap : Nat) (hcm : cap ≤ 1048576) : Tk a len bs cap 34 #[.pointer (some ⟨gc, 0, none⟩)] (fun out _ W => Sh w0 gc g cap out W) :=
  ⟨callFunc_dec1, fun _ _ W h => R.grown h.grown, fun _ _ W W' h k => h.keep k, fun out _ W s q _ h S h1 h2 => dec1_any w0 gc g cap out s q W h S (by omega) hcm h2⟩

theorem byte_none {w w' : World} {er p : Int} (h : w.grownBy w' none) : PDec w ([], [], er, p) (.returned (.tuple #[.slice none 0 0, .int .i64 er, .int .i64 p])) w' :=
  ⟨none, 0, 0, rfl, ⟨Row.none0 _, fun _ => rfl, Nat.le_refl _, Nat.zero_le _⟩, h⟩
theorem make0 {i5 : TypeInfo} (hi : Try.prog.info? 5 = some i5) (hz0 : i5.zero = some (.int .u8 0)) (hz1 : i5.size = 1) (hz2 : i5.bytes = 1) (n : Nat) (hn : n ≤ 1048576) (W : World) :
    (Instr.makeSlice 22 (.int .i64 0) (.int .i64 (n : Int))).run Try.prog W = .ok (.slice (some ⟨W.heap.size, 0, none⟩) 0 n) (W.alloc (.cells (madeCells #[.int .u8 0] n) 5)) := by
  have hr := run_make (P := Try.prog) W 22 5 i5 (.int .u8 0) Try.underlying22 hi hz0 .i64 .i64 0 n (by omega) (by omega) (by rw [hz2]; omega) (by omega)
  simp only [Int.toNat_natCast, hz1, Nat.mul_one] at hr
  exact hr

set_option maxHeartbeats 1000000 in
theorem pdecode_any (a : Option Addr) (len cap : Nat) (bs : List Int) (most : Int) (w : World) (R : Row w a len bs) (hl : len ≤ 16777216) (hc : len ≤ cap) (hcm : cap ≤ 9223372036854775807) (hmr : -9223372036854775808 ≤ most ∧ most ≤ 9223372036854775807) :
    Calls Try.prog 26 #[.slice a len cap, .int .i64 most] w (PDec w (pdec bs most)) := by
  obtain ⟨i5, hi, hz0, hz1, hz2⟩ := info_parts Try.info5
  have hlb := R.len_eq
  by_cases hr : most < 0 ∨ 1048576 < most
  · have e : pdec bs most = ([], [], 1, 0) := by unfold pdec; rw [if_pos hr]
    rw [e]
    rcases hr with hr | hr
    · go_enter Try.func26, Try.ntmps26
      go_wp2
      go_returns
      exact byte_none (World.grownBy_alloc _ _ _)
    · go_enter Try.func26, Try.ntmps26
      go_wp2
      go_returns
      exact byte_none (World.grownBy_alloc _ _ _)
  · have e : pdec bs most = dec bs most (len + 1) [] [] 0 := by unfold pdec; rw [if_neg hr, hlb]
    rw [e]
    have G0 := World.grownBy_alloc w (.cells #[.slice none 0 0] 22) none
    have B0 := Box.new w 22 [.slice none 0 0]
    have hw1 := walk_any a len cap bs most 33 #[] _ (tk_pass (R.grown G0) most) (w.alloc (.cells #[.slice none 0 0] 22)) (World.grownBy.refl _ _) hl hc hcm (by omega)
    have hag := fun h0 => dec_again R.byt (M := most) (f := len + 1) h0 (by omega)
    have hkp := dec_keeps bs most (len + 1) [] [] 0 (by omega)
    have hnil := dec_nil bs most (len + 1) [] [] 0
    generalize dec bs most (len + 1) [] [] 0 = r at hw1 hag hkp hnil ⊢
    obtain ⟨ro, rs, re, rp⟩ := r
    simp only at hag hkp hnil
    have HA : Hid _ := And.intro hag hnil
    have hn : ro.length ≤ 1048576 := by omega
    clear hag hkp hnil e
    go_enter Try.func26, Try.ntmps26
    go_wp2_with fail
    refine hw1.mono ?_
    intro e w1 h1
    obtain ⟨rfl, _, _, _, g1⟩ := h1
    have B1 := B0.kept g1 (by simp)
    have c1 : w1.cell? ⟨w.heap.size, 0, none⟩ = some (.slice none 0 0) := B1.c 0
    have f1 := B1.f 0
    have G1 := grown_trans G0 g1
    simp only
    by_cases he : re = 0
    · subst he
      have hmk := make0 hi hz0 hz1 hz2 ro.length hn
      have hlt1 : w.heap.size < w1.heap.size := B1.lt
      have B2 := (B1.set 0 (.slice (some ⟨w1.heap.size, 0, none⟩) 0 ro.length)).kept (World.grownBy_alloc _ (.cells (madeCells #[.int .u8 0] ro.length) 5) none) (by simp)
      have O2 := World.ownsRow_made (base := 0) (e := 5) (size := 1) (w1.setCell ⟨w.heap.size, 0, none⟩ (.slice (some ⟨w1.heap.size, 0, none⟩) 0 ro.length)) (madeCells #[.int .u8 0] ro.length) ro.length (Nat.zero_le _) (by unfold maxLen; omega) (by rw [size_madeCells, Nat.mul_one])
      rw [size_set] at O2
      have S0 : Sh w w.heap.size w1.heap.size ro.length [] ((w1.setCell ⟨w.heap.size, 0, none⟩ (.slice (some ⟨w1.heap.size, 0, none⟩) 0 ro.length)).alloc (.cells (madeCells #[.int .u8 0] ro.length) 5)) :=
        ⟨grown_trans (grown_new G1 (grown_set _ _ _ _) (Nat.le_refl _)) (World.grownBy_alloc _ _ _), B2, O2, fun x hx => by simp at hx, by omega, Nat.le_refl _, by omega⟩
      have hw2 := walk_any a len cap bs ro.length 34 #[.pointer (some ⟨w.heap.size, 0, none⟩)] _ (tk_dec1 R w.heap.size w1.heap.size ro.length hn) _ S0 hl hc hcm (by omega)
      rw [HA.out.1 rfl] at hw2
      have HS : Hid _ := And.intro G1 hw2
      clear hw2 B2 O2 S0 G1 hw1 B0 B1 G0 g1
      have hmf : ∀ (fn : Fn) (first cap : Array Value) (w : World), (Instr.makeFunc fn first cap).run Try.prog w = .ok (.func fn first cap) w := fun _ _ _ _ => rfl
      go_wp2_with fail
      refine HS.out.2.mono ?_
      intro e w2 h2
      obtain ⟨rfl, h2, _⟩ := h2
      have S2 : Sh w w.heap.size w1.heap.size ro.length ro w2 := h2 rfl
      have c2 : w2.cell? ⟨w.heap.size, 0, none⟩ = some (.slice (some ⟨w1.heap.size, 0, none⟩) ro.length ro.length) := S2.bx.c 0
      have f2 := S2.bx.f 0
      have B3 := S2.bx.set 0 (.slice (some ⟨w1.heap.size, 0, none⟩) ro.length ro.length)
      have cW : (w2.setCell ⟨w.heap.size, 0, none⟩ (.slice (some ⟨w1.heap.size, 0, none⟩) ro.length ro.length)).cell? ⟨w.heap.size, 0, none⟩ = some (.slice (some ⟨w1.heap.size, 0, none⟩) ro.length ro.length) := B3.c 0
      have gW := grown_new S2.grown (grown_set w2 w.heap.size 0 (.slice (some ⟨w1.heap.size, 0, none⟩) ro.length ro.length)) (Nat.le_refl _)
      have O3 := S2.ou.kept (grown_set w2 w.heap.size 0 (.slice (some ⟨w1.heap.size, 0, none⟩) ro.length ro.length)) (by intro e; injection e with e; omega)
      obtain ⟨a7, c7, e7, R7⟩ := owns_row O3 S2.byt (by unfold maxLen; omega)
      injection e7 with e7 e71 e72
      subst e7
      have HF : Hid _ := And.intro gW R7
      clear S2 B3 gW O3 R7 HS h2 e71 e72 hmk hmf
      go_wp2
      try simp only [Exit.inBlock, Exit.then]
      refine bodyPost_ret (by simp [results, Try.results26, go_sem, cW]; try rfl) rfl ?_
      exact ⟨some ⟨w1.heap.size, 0, none⟩, ro.length, ro.length, rfl, ⟨HF.out.2, (fun e => by cases e), Nat.le_refl _, (by unfold maxLen; omega)⟩, HF.out.1⟩
    · obtain ⟨e1, e2⟩ := HA.out.2 he
      subst e1 e2
      have cW : (w1.setCell ⟨w.heap.size, 0, none⟩ (.slice none 0 0)).cell? ⟨w.heap.size, 0, none⟩ = some (.slice none 0 0) := (B1.set 0 (.slice none 0 0)).c 0
      have gW := grown_new G1 (grown_set w1 w.heap.size 0 (.slice none 0 0)) (Nat.le_refl _)
      clear hw1 B0 B1 G0 g1 HA
      go_wp2
      try simp only [Exit.inBlock, Exit.then]
      refine bodyPost_ret (by simp [results, Try.results26, go_sem, cW]; try rfl) rfl ?_
      exact byte_none gW
end Go.Proofs.Yteghhmnkdmehbaa
