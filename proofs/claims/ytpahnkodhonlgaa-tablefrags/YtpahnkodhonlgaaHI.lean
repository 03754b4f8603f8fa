/- A writer takes bytes that lie in a block apart from its own, made behind it or ahead of it. -/
import Derived.Test.YtpahnkodhonlgaaHH
namespace Go.Proofs.Ytpahnkodhonlgaa
open Go.RowKit
set_option maxRecDepth 100000
set_option linter.unusedSimpArgs false
set_option linter.unusedVariables false

theorem Row.chg {w w' : World} {p n : Nat} {v v' : Value} {a : Option Addr} {xs : List Int} (h : Row w a n xs) (k : Chg w w' p v v') (hlt : ∀ b off, a = some ⟨b, off, none⟩ → 0 < n → b < w.heap.size ∧ b ≠ p ∧ some b ≠ v.ownBlock) : Row w' a n xs := by
  refine ⟨h.len_eq, h.le, h.byt, fun h0 => ?_⟩
  obtain ⟨b, off, e, hc⟩ := h.cells h0
  obtain ⟨k1, k2, k3⟩ := hlt b off e h0
  refine ⟨b, off, e, fun i hi => ?_⟩
  have := hc i hi
  unfold World.cell? at this ⊢
  simp only at this ⊢
  rw [k.block b k1 k2 k3]
  exact this

set_option maxHeartbeats 400000 in
theorem wbytes_apart (p : Nat) (v : Value) (bs : List Int) (most : Int) (a : Option Addr) (n c : Nat) (xs : List Int) (w : World) (hI : WInv w p v bs most 0) (R : Row w a n xs) (hlt : ∀ b off, a = some ⟨b, off, none⟩ → 0 < n → b < w.heap.size ∧ b ≠ p ∧ some b ≠ v.ownBlock) (h0 : 0 ≤ most) (h1 : most ≤ 9223372036854775807) (hl : bs.length + n ≤ 140737488355328) (hn : (n : Int) ≤ most - bs.length) :
    Calls Try.prog 45 #[.pointer (some ⟨p, 0, none⟩), .slice a n c] w fun r w' => ∃ v', r = .returned (.tuple #[]) ∧ WInv w' p v' (bs ++ xs) most 0 ∧ Chg w w' p v v' := by
  have hG := grow_ok p v bs most n _ hI h0 h1 hl hn
  have hxl := R.len_eq
  by_cases hz : n = 0
  · exact wbytes_ok p v bs most a n c xs w hI R (fun b off e h => by omega) h0 h1 hl hn
  · have hp := hI.blk.lt
    go_enter Try.func45, Try.ntmps45
    go_wp2_with (first | (go_at_call 55; refine (wstop_any p _ _ 0 w hI.blk).mono ?_; rintro e w' ⟨rfl, rfl⟩) | (go_at_call 58; refine hG.mono ?_; rintro e w1 ⟨v1, a1, k1, rfl, hk1, G⟩; obtain ⟨g, cc, cur, hv, rfl, hB, hcl, hle, ht, hpg, hmx⟩ := G.cur (by omega); have HV := (show Hid _ from hv); have HT := (show Hid _ from ht); clear hv ht; have R1 := R.chg G.chg hlt) | ((with_reducible refine copy_here ?_); refine wpList_copy8 rfl _ _ 29 29 rfl Try.underlying29 Try.size5H _ _ _ _ _ _ rfl rfl g bs.length cur hB (bv xs) (by rw [bv_length, hxl]; exact (Nat.min_self _).symm) (fun h0 => ⟨rfl, R1.src h0⟩) (by rw [bv_length, hxl]; omega) (bv_one _) ?_; intro w2 hb2 hg2 hs2))
    obtain ⟨hW2, hC2⟩ := wrote hI G HV.out hcl hle hmx HT.out hpg xs hxl R.byt hb2 hg2
    exact bodyPost_end (results_none rfl _ _ _) rfl ⟨rfl, _, hW2, hC2⟩
end Go.Proofs.Ytpahnkodhonlgaa
