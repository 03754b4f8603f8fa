/- The walk of FlashReads, whatever comes in. -/
import Derived.Test.YtdefcfmnhfeblaaLF
namespace Go.Proofs.Ytdefcfmnhfeblaa
open Go.RowKit

theorem flashReads_walk (s p b page : Int) (a2 : Option Addr) (len cap : Nat) (zs : List Int) (at_ n : Int) (w : World) (hs : (Lit.int .i64 s).wf = true) (hp : (Lit.int .i64 p).wf = true) (hb : (Lit.int .i64 b).wf = true) (_hpg : (Lit.int .i64 page).wf = true) (hz : IsRow .u8 w a2 len cap zs) (ha : (Lit.int .i64 at_).wf = true) (hn : (Lit.int .i64 n).wf = true) :
    Calls Try.prog 6 #[.agg #[.int .i64 s, .int .i64 p, .int .i64 b], .int .i64 page, .slice a2 len cap, .int .i64 at_, .int .i64 n] w fun e w' => e = .returned (.bool true) ∧ Below w.heap.size w w' := by
  by_cases hC : sml s p b = true ∧ chk s p b = 0
  · obtain ⟨s', p', b', rfl, rfl, rfl, h1, h2, h3⟩ := sml_geo hC.1 hC.2
    have R := hz.row
    have hl := R.len_eq
    generalize zs.take len = xs at R hl
    subst hl
    exact reads_main s' p' b' page a2 cap xs at_ n w h1 h2 h3 hC.2 R (wf_i64 ha) (wf_i64 hn)
  · exact reads_live s p b page a2 len cap at_ n w (wf_i64 hs) (wf_i64 hp) (wf_i64 hb) hC
end Go.Proofs.Ytdefcfmnhfeblaa
