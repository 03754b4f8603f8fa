/- The walk of FlashKeeps, whatever comes in. -/
import Derived.Test.YtdefcfmnhfeblaaLI
namespace Go.Proofs.Ytdefcfmnhfeblaa
open Go.RowKit

theorem flashKeeps_walk (s p b : Int) (a1 : Option Addr) (len1 cap1 : Nat) (Al : Nat → Ac) (A : Ac) (a3 : Option Addr) (len3 cap3 : Nat) (zs : List Int) (w : World) (hs : (Lit.int .i64 s).wf = true) (hp : (Lit.int .i64 p).wf = true) (hb : (Lit.int .i64 b).wf = true) (hA : Acts w a1 len1 Al) (hA2 : A.ok w) (hz : IsRow .u8 w a3 len3 cap3 zs) :
    Calls Try.prog 5 #[.agg #[.int .i64 s, .int .i64 p, .int .i64 b], .slice a1 len1 cap1, A.val, .slice a3 len3 cap3] w fun e w' => e = .returned (.bool true) ∧ Below w.heap.size w w' := by
  by_cases hC : sml s p b = true ∧ chk s p b = 0 ∧ len1 ≤ 60
  · obtain ⟨s', p', b', rfl, rfl, rfl, h1, h2, h3⟩ := sml_geo hC.1 hC.2.1
    have R := hz.row
    have hl := R.len_eq
    generalize zs.take len3 = xs at R hl
    subst hl
    exact keeps_main s' p' b' a1 len1 cap1 Al A a3 cap3 xs w h1 h2 h3 hC.2.1 hC.2.2 hA hA2 R
  · exact keeps_live s p b a1 len1 cap1 A a3 len3 cap3 w (wf_i64 hs) (wf_i64 hp) (wf_i64 hb) hA.le hC
end Go.Proofs.Ytdefcfmnhfeblaa
