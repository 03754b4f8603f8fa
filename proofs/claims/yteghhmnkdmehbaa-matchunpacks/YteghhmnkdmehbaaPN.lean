/- The program's Decode: what it answers is new memory. -/
import Derived.Test.YteghhmnkdmehbaaPD
namespace Go.Proofs.Yteghhmnkdmehbaa
open Go.RowKit
set_option linter.unusedSimpArgs false
set_option linter.unusedVariables false

def PDecN (w : World) (r : List Int × List Sq × Int × Int) (e : Ending) (w' : World) : Prop :=
  ∃ a n c, e = .returned (.tuple #[.slice a n c, .int .i64 r.2.2.1, .int .i64 r.2.2.2]) ∧ Byte w' a n c r.1 ∧ w.grownBy w' none ∧ w'.ownsRow w.heap.size 5 1 (.slice a n c) n (bv r.1)
theorem byte_noneN {w w' : World} {er p : Int} (h : w.grownBy w' none) : PDecN w ([], [], er, p) (.returned (.tuple #[.slice none 0 0, .int .i64 er, .int .i64 p])) w' :=
  ⟨none, 0, 0, rfl, ⟨Row.none0 _, fun _ => rfl, Nat.le_refl _, Nat.zero_le _⟩, h, World.ownsRow_nil _ _ _ _⟩
theorem owns_up {w : World} {b0 b e s n g o c : Nat} {xs : List Value} (h : w.ownsRow b0 e s (.slice (some ⟨g, o, none⟩) n c) n xs) (hb : b ≤ g) : w.ownsRow b e s (.slice (some ⟨g, o, none⟩) n c) n xs := by
  refine ⟨h.1, ?_⟩
  rcases h.2 with ⟨h, _⟩ | ⟨g', cap, cur, h1, h2, h3⟩
  · cases h
  · refine Or.inr ⟨g', cap, cur, h1, ?_, h3⟩
    injection h1 with h1
    injection h1 with h1
    injection h1 with h1
    omega
set_option maxHeartbeats 1000000 in
theorem pdecode_own (a : Option Addr) (len cap : Nat) (bs : List Int) (most : Int) (w : World) (R : Row w a len bs) (hl : len ≤ 16777216) (hc : len ≤ cap) (hcm : cap ≤ 9223372036854775807) (hmr : -9223372036854775808 ≤ most ∧ most ≤ 9223372036854775807) :
    Calls Try.prog 26 #[.slice a len cap, .int .i64 most] w (PDecN w (pdec bs most)) := by
  obtain ⟨i5, hi, hz0, hz1, hz2⟩ := info_parts Try.info5
  have hlb := R.len_eq
  by_cases hr : most < 0 ∨ 1048576 < most
  · have e : pdec bs most = ([], [], 1, 0) := by unfold pdec; rw [if_pos hr]
    rw [e]
    rcases hr with hr | hr
    · go_enter Try.func26, Try.ntmps26
      go_wp2
      go_returns
      exact byte_noneN (World.grownBy_alloc _ _ _)
    · go_enter Try.func26, Try.ntmps26
      go_wp2
      go_returns
      exact byte_noneN (World.grownBy_alloc _ _ _)
  · have e : pdec bs most = dec bs most (len + 1) [] [] 0 := by unfold pdec; rw [if_neg hr, hlb]
    rw [e]
    have G0 := World.grownBy_alloc w (.cells #[.slice none 0 0] 22) none
    have B0 := Box.new w 22 [.slice none 0 0]
    have hw1 := walk_any a len cap bs most 33 #[] _ (tk_pass (R.grown G0) most) (w.alloc (.cells #[.slice none 0 0] 22)) (World.grownBy.refl _ _) hl hc hcm (by omega)
    have hag := fun h0 => dec_again R.byt (M := most) (f := len + 1) h0 (by omega)
    have hkp := dec_keeps bs most (len + 1) [] [] 0 (by omega)
    have hnil := dec_nil bs most (len + 1) [] [] 0
    generalize dec bs most (len + 1) [] [] 0 = r at hw1 hag hkp hnil ⊢
    obtain ⟨ro, rs, re, rp⟩ := r
    simp only at hag hkp hnil
    have HA : Hid _ := And.intro hag hnil
    have hn : ro.length ≤ 1048576 := by omega
    clear hag hkp hnil e
    go_enter Try.func26, Try.ntmps26
    go_wp2_with fail
    refine hw1.mono ?_
    intro e w1 h1
    obtain ⟨rfl, _, _, _, g1⟩ := h1
    have B1 := B0.kept g1 (by simp)
    have c1 : w1.cell? ⟨w.heap.size, 0, none⟩ = some (.slice none 0 0) := B1.c 0
    have f1 := B1.f 0
    have G1 := grown_trans G0 g1
    simp only
    by_cases he : re = 0
    · subst he
      have hmk := make0 hi hz0 hz1 hz2 ro.length hn
      have hlt1 : w.heap.size < w1.heap.size := B1.lt
      have B2 := (B1.set 0 (.slice (some ⟨w1.heap.size, 0, none⟩) 0 ro.length)).kept (World.grownBy_alloc _ (.cells (madeCells #[.int .u8 0] ro.length) 5) none) (by simp)
      have O2 := World.ownsRow_made (base := 0) (e := 5) (size := 1) (w1.setCell ⟨w.heap.size, 0, none⟩ (.slice (some ⟨w1.heap.size, 0, none⟩) 0 ro.length)) (madeCells #[.int .u8 0] ro.length) ro.length (Nat.zero_le _) (by unfold maxLen; omega) (by rw [size_madeCells, Nat.mul_one])
      rw [size_set] at O2
      have S0 : Sh w w.heap.size w1.heap.size ro.length [] ((w1.setCell ⟨w.heap.size, 0, none⟩ (.slice (some ⟨w1.heap.size, 0, none⟩) 0 ro.length)).alloc (.cells (madeCells #[.int .u8 0] ro.length) 5)) :=
        ⟨grown_trans (grown_new G1 (grown_set _ _ _ _) (Nat.le_refl _)) (World.grownBy_alloc _ _ _), B2, O2, fun x hx => by simp at hx, by omega, Nat.le_refl _, by omega⟩
      have hw2 := walk_any a len cap bs ro.length 34 #[.pointer (some ⟨w.heap.size, 0, none⟩)] _ (tk_dec1 R w.heap.size w1.heap.size ro.length hn) _ S0 hl hc hcm (by omega)
      rw [HA.out.1 rfl] at hw2
      have HS : Hid _ := And.intro G1 hw2
      clear hw2 B2 O2 S0 G1 hw1 B0 B1 G0 g1
      have hmf : ∀ (fn : Fn) (first cap : Array Value) (w : World), (Instr.makeFunc fn first cap).run Try.prog w = .ok (.func fn first cap) w := fun _ _ _ _ => rfl
      go_wp2_with fail
      refine HS.out.2.mono ?_
      intro e w2 h2
      obtain ⟨rfl, h2, _⟩ := h2
      have S2 : Sh w w.heap.size w1.heap.size ro.length ro w2 := h2 rfl
      have c2 : w2.cell? ⟨w.heap.size, 0, none⟩ = some (.slice (some ⟨w1.heap.size, 0, none⟩) ro.length ro.length) := S2.bx.c 0
      have f2 := S2.bx.f 0
      have B3 := S2.bx.set 0 (.slice (some ⟨w1.heap.size, 0, none⟩) ro.length ro.length)
      have cW : (w2.setCell ⟨w.heap.size, 0, none⟩ (.slice (some ⟨w1.heap.size, 0, none⟩) ro.length ro.length)).cell? ⟨w.heap.size, 0, none⟩ = some (.slice (some ⟨w1.heap.size, 0, none⟩) ro.length ro.length) := B3.c 0
      have gW := grown_new S2.grown (grown_set w2 w.heap.size 0 (.slice (some ⟨w1.heap.size, 0, none⟩) ro.length ro.length)) (Nat.le_refl _)
      have O3 := S2.ou.kept (grown_set w2 w.heap.size 0 (.slice (some ⟨w1.heap.size, 0, none⟩) ro.length ro.length)) (by intro e; injection e with e; omega)
      obtain ⟨a7, c7, e7, R7⟩ := owns_row O3 S2.byt (by unfold maxLen; omega)
      injection e7 with e7 e71 e72
      subst e7
      have ON := owns_up O3 (b := w.heap.size) (by omega)
      have HF : Hid _ := And.intro gW (And.intro R7 ON)
      clear S2 B3 gW O3 R7 ON HS h2 e71 e72 hmk hmf
      go_wp2
      try simp only [Exit.inBlock, Exit.then]
      refine bodyPost_ret (by simp [results, Try.results26, go_sem, cW]; try rfl) rfl ?_
      exact ⟨some ⟨w1.heap.size, 0, none⟩, ro.length, ro.length, rfl, ⟨HF.out.2.1, (fun e => by cases e), Nat.le_refl _, (by unfold maxLen; omega)⟩, HF.out.1, HF.out.2.2⟩
    · obtain ⟨e1, e2⟩ := HA.out.2 he
      subst e1 e2
      have cW : (w1.setCell ⟨w.heap.size, 0, none⟩ (.slice none 0 0)).cell? ⟨w.heap.size, 0, none⟩ = some (.slice none 0 0) := (B1.set 0 (.slice none 0 0)).c 0
      have gW := grown_new G1 (grown_set w1 w.heap.size 0 (.slice none 0 0)) (Nat.le_refl _)
      clear hw1 B0 B1 G0 g1 HA
      go_wp2
      try simp only [Exit.inBlock, Exit.then]
      refine bodyPost_ret (by simp [results, Try.results26, go_sem, cW]; try rfl) rfl ?_
      exact byte_noneN gW
end Go.Proofs.Yteghhmnkdmehbaa
