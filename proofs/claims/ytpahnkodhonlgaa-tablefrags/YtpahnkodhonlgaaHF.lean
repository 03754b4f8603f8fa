/- Contracts of writers. -/
import Derived.Test.YtpahnkodhonlgaaHE
import Derived.Test.YtpahnkodhonlgaaHZ
namespace Go.Proofs.Ytpahnkodhonlgaa
open Go.RowKit
set_option maxRecDepth 100000
set_option linter.unusedSimpArgs false
set_option linter.unusedVariables false
attribute [local go_sem ↓] Go.wp_at_zero Go.wp_at_succ

/-- a writer at p, whose bytes lie in v -/
structure WInv (w : World) (p : Nat) (v : Value) (bs : List Int) (most e : Int) : Prop where
  blk : SBlk w p [v, .int .i64 most, .int .i64 e] 95
  own : w.ownsRow (p + 1) 5 1 v bs.length (bv bs)
  byt : Byt bs

/-- from w to w' the writer's own blocks alone have turned -/
structure Chg (w w' : World) (p : Nat) (v v' : Value) : Prop where
  os : w'.os = w.os
  tape : w'.tape = w.tape
  output : w'.output = w.output
  size : w.heap.size ≤ w'.heap.size
  block : ∀ k, k < w.heap.size → k ≠ p → some k ≠ v.ownBlock → w'.heap[k]? = w.heap[k]?
  own : v'.ownBlock = v.ownBlock ∨ ∃ k, v'.ownBlock = some k ∧ w.heap.size ≤ k

theorem Chg.refl (w : World) (p : Nat) (v : Value) : Chg w w p v v := ⟨rfl, rfl, rfl, Nat.le_refl _, fun _ _ _ _ => rfl, Or.inl rfl⟩
theorem Chg.trans {a b c : World} {p : Nat} {v v' v'' : Value} (h : Chg a b p v v') (k : Chg b c p v' v'') : Chg a c p v v'' := by
  refine ⟨k.os.trans h.os, k.tape.trans h.tape, k.output.trans h.output, Nat.le_trans h.size k.size, fun i hi hp hv => ?_, ?_⟩
  · refine (k.block i (Nat.lt_of_lt_of_le hi h.size) hp ?_).trans (h.block i hi hp hv)
    rcases h.own with e | ⟨j, e, hj⟩
    · rw [e]; exact hv
    · rw [e]; intro e2; injection e2; omega
  · rcases k.own with e | ⟨j, e, hj⟩
    · rw [e]; exact h.own
    · exact Or.inr ⟨j, e, Nat.le_trans h.size hj⟩
theorem Chg.of_grown {w w' : World} {p : Nat} {v : Value} (h : w.grownBy w' none) : Chg w w' p v v := ⟨h.os, h.tape, h.output, h.size, fun k hk _ _ => h.block k hk (by simp), Or.inl rfl⟩
theorem Chg.of_p {w w' : World} {p : Nat} {v : Value} (h : w.grownBy w' (some p)) : Chg w w' p v v := ⟨h.os, h.tape, h.output, h.size, fun k hk hp _ => h.block k hk (by simpa using hp), Or.inl rfl⟩
theorem Chg.of_own {w w' : World} {p : Nat} {v v' : Value} (h : w.grownBy w' v.ownBlock) (ho : v'.ownBlock = v.ownBlock ∨ ∃ k, v'.ownBlock = some k ∧ w.heap.size ≤ k) : Chg w w' p v v' := ⟨h.os, h.tape, h.output, h.size, fun k hk _ hv => h.block k hk hv, ho⟩

theorem WInv.ne {w : World} {p : Nat} {v : Value} {bs : List Int} {most e : Int} (h : WInv w p v bs most e) : some p ≠ v.ownBlock := fun e => by have := (h.own.lt p e.symm).1; omega
theorem own_ne {w : World} {p : Nat} {v : Value} {n : Nat} {xs : List Value} (h : w.ownsRow (p + 1) 5 1 v n xs) : some p ≠ v.ownBlock := fun e => by have := (h.lt p e.symm).1; omega
theorem WInv.grown {w w' : World} {p : Nat} {v : Value} {bs : List Int} {most e : Int} (h : WInv w p v bs most e) (hg : w.grownBy w' none) : WInv w' p v bs most e :=
  ⟨h.blk.grown hg (by simp), h.own.kept hg (by cases v.ownBlock <;> simp), h.byt⟩
theorem WInv.drew {w : World} {p : Nat} {v : Value} {bs : List Int} {most e : Int} (h : WInv w p v bs most e) : WInv w.drew p v bs most e := h.grown (grown_drewH _ _)
theorem WInv.setE {w : World} {p : Nat} {v : Value} {bs : List Int} {most e : Int} (h : WInv w p v bs most e) (e' : Int) : WInv (w.setCell ⟨p, 2, none⟩ (.int .i64 e')) p v bs most e' :=
  ⟨h.blk.set 2 (.int .i64 e'), h.own.kept (grown_set w p 2 _) (Or.inr (Ne.symm h.ne)), h.byt⟩

theorem wstop_any (p : Nat) (x y : Value) (e : Int) (w : World) (hB : SBlk w p [x, y, .int .i64 e] 95) :
    Calls Try.prog 55 #[.pointer (some ⟨p, 0, none⟩)] w fun r w' => r = .returned (.bool (e != 0)) ∧ w = w' := by
  have c2 := hB.c2
  go_enter Try.func55, Try.ntmps55
  go_wp2
  go_ret
  exact ⟨rfl, rfl⟩

theorem wdone_bad (p : Nat) (v : Value) (bs : List Int) (most e : Int) (w : World) (hI : WInv w p v bs most e) (he : (e != 0) = true) :
    Calls Try.prog 37 #[.pointer (some ⟨p, 0, none⟩)] w fun r w' => r = .returned (.tuple #[.slice none 0 0, .int .i64 e]) ∧ w.grownBy w' none := by
  have c2 := hI.blk.c2
  go_enter Try.func37, Try.ntmps37
  go_wp2
  go_quiet (fail)
  go_wp2
  go_ret2
  exact ⟨rfl, ⟨rfl, rfl, rfl, Nat.le_refl _, fun _ _ _ => rfl⟩⟩

theorem wdone_ok (p : Nat) (v : Value) (bs : List Int) (most : Int) (w : World) (hI : WInv w p v bs most 0) (hl : bs.length ≤ 140737488355328) :
    Calls Try.prog 37 #[.pointer (some ⟨p, 0, none⟩)] w fun r w' => r = .returned (.tuple #[.slice (some ⟨w.heap.size, 0, none⟩) bs.length bs.length, .int .i64 0]) ∧ Blk w' w.heap.size (bv bs) ∧ w.grownBy w' none := by
  obtain ⟨a, c, rfl, R⟩ := owns_row hI.own hI.byt (by unfold maxLen; omega)
  have c0 := hI.blk.c0
  have c2 := hI.blk.c2
  have hF := fresh_any a bs.length c bs w R (by omega)
  go_enter Try.func37, Try.ntmps37
  go_wp2_with (go_at_call 59; refine hF.mono ?_; rintro e w1 ⟨rfl, hb1, hg1, hs1⟩; clear hs1)
  go_ret2
  exact ⟨rfl, by assumption, by assumption⟩

theorem grow_no (p : Nat) (v : Value) (bs : List Int) (most : Int) (n : Nat) (w : World) (hI : WInv w p v bs most 0) (h0 : 0 ≤ most) (h1 : most ≤ 9223372036854775807) (hl : bs.length ≤ 140737488355328) (hn : most - bs.length < n) :
    Calls Try.prog 58 #[.pointer (some ⟨p, 0, none⟩), .int .i64 n] w fun r w' => r = .returned (.slice none 0 0) ∧ WInv w' p v bs most 2 ∧ Chg w w' p v v := by
  obtain ⟨a, c, rfl, _⟩ := owns_form hI.own
  have c0 := hI.blk.c0
  have c1 := hI.blk.c1
  have c2 := hI.blk.c2
  have f2 := hI.blk.frozen 2
  have hwr : IntKind.i64.wrap (most - bs.length) = most - bs.length := by rw [IntKind.wrap_i64]; omega
  go_enter Try.func58, Try.ntmps58
  go_wp2
  go_region_held (fun w' => w'.cell? ⟨p, 0, none⟩ = some (.slice a bs.length c) ∧ w'.cell? ⟨p, 1, none⟩ = some (.int .i64 most)) (go_keep) (fail)
  go_wp2
  go_ret
  exact ⟨rfl, (hI.setE 2).drew, Chg.of_p (grown_set_drew _ _ _ _)⟩

/-- what grow leaves -/
structure Grew (w w' : World) (p : Nat) (v : Value) (bs : List Int) (most : Int) (n : Nat) (v' : Value) (a : Option Addr) : Prop where
  blk : SBlk w' p [v', .int .i64 most, .int .i64 0] 95
  own : w'.ownsRow (p + 1) 5 1 v' (bs.length + n) (bv bs ++ zs n)
  at_ : 0 < n → ∃ g c, v' = .slice (some ⟨g, 0, none⟩) (bs.length + n) c ∧ a = some ⟨g, bs.length, none⟩
  chg : Chg w w' p v v'

theorem grew_of {w w1 : World} {p n : Nat} {v v' : Value} {bs : List Int} {most : Int} (hI : WInv w p v bs most 0) (ho : w1.ownsRow (p + 1) 5 1 v' (bs.length + n) (bv bs ++ zs n)) (hg : w.drew.grownBy w1 v.ownBlock) (hb : v'.ownBlock = v.ownBlock ∨ v'.ownBlock = some w.drew.heap.size) (a : Option Addr)
    (ha : 0 < n → ∃ g c, v' = .slice (some ⟨g, 0, none⟩) (bs.length + n) c ∧ a = some ⟨g, bs.length, none⟩) : Grew w (w1.setCell ⟨p, 0, none⟩ v') p v bs most n v' a := by
  have hb1 : SBlk w1 p [v, .int .i64 most, .int .i64 0] 95 := hI.drew.blk.grown hg hI.ne
  refine ⟨hb1.set 0 v', ho.kept (grown_set w1 p 0 _) (Or.inr (Ne.symm (own_ne ho))), ha, ?_⟩
  refine (Chg.of_grown (grown_drewH w none)).trans ((Chg.of_own hg (hb.imp id (fun e => ⟨_, e, Nat.le_refl _⟩))).trans (Chg.of_p (grown_set w1 p 0 _)))

set_option maxHeartbeats 800000 in
theorem grow_ok (p : Nat) (v : Value) (bs : List Int) (most : Int) (n : Nat) (w : World) (hI : WInv w p v bs most 0) (h0 : 0 ≤ most) (h1 : most ≤ 9223372036854775807) (hl : bs.length + n ≤ 140737488355328) (hn : (n : Int) ≤ most - bs.length) :
    Calls Try.prog 58 #[.pointer (some ⟨p, 0, none⟩), .int .i64 n] w fun r w' => ∃ v' a c, r = .returned (.slice a n c) ∧ n ≤ c ∧ Grew w w' p v bs most n v' a := by
  obtain ⟨i5, hi, hz0, hz1, hz2⟩ := info_parts Try.info5
  obtain ⟨a, c, rfl, _⟩ := owns_form hI.own
  have c0 := hI.blk.c0
  have c1 := hI.blk.c1
  have hwr : IntKind.i64.wrap (most - bs.length) = most - bs.length := by rw [IntKind.wrap_i64]; omega
  have hown := hI.drew.own
  have hpl := hI.blk.lt
  go_enter Try.func58, Try.ntmps58
  go_wp2
  go_region_held (fun w' => w'.cell? ⟨p, 0, none⟩ = some (.slice a bs.length c) ∧ w'.cell? ⟨p, 1, none⟩ = some (.int .i64 most)) (go_keep) (fail)
  go_wp2_with (at_builtin; (refine wpList_zeros _ rfl (.tmp 30) (.tmp 31) 29 3 rfl (p + 1) i5 Try.underlying29 Try.underlying3 hi hz0 hz1 hz2 _ bs.length (bv bs) rfl hown n rfl hl (by exact hpl) ?_); intro v1 w1 ho1 hg1 hb1; obtain ⟨a1, cc1, hv1, hle1, hm1, hf1⟩ := owns_form ho1; rw [hv1]; have hB1 := hI.drew.blk.grown hg1 hI.ne; have d0 := hB1.c0; have e0 := hB1.frozen 0; clear hB1)
  · go_ret
    have hcc : cc1 = bs.length := by assumption
    subst hv1
    subst hcc
    exact ⟨_, _, _, rfl, by omega, grew_of hI ho1 hg1 hb1 _ (fun hp => absurd hp (by omega))⟩
  · go_ret
    subst hv1
    refine ⟨_, _, _, rfl, by omega, grew_of hI ho1 hg1 hb1 _ (fun hp => ?_)⟩
    rcases hf1 with ⟨rfl, h2, _⟩ | ⟨g, rfl, _⟩
    · omega
    · refine ⟨g, cc1, rfl, ?_⟩
      rw [map_add, Nat.zero_add]
end Go.Proofs.Ytpahnkodhonlgaa
