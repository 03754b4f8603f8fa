/- 'append(x, make([]byte, n)...)' on a row of the call's own: so many zeros more. Contracts of writers. Contracts of what a writer takes. A writer's calls, whatever comes in; what a list of calls writes. The program's meta: what is stored of a piece, the bytes ahead of it. -/
import Derived.Test.YtkkigpobhagnfaaK10
import Derived.Test.YtkkigpobhagnfaaK12
namespace Go.Proofs.Ytkkigpobhagnfaa
open Go.RowKit
set_option maxRecDepth 100000
set_option linter.unusedSimpArgs false
set_option linter.unusedVariables false
theorem zeroCells8 (m : Nat) : Builtin.zeroCells (Value.int .u8 0).cells m = (List.replicate m (Value.int .u8 0)).toArray := by
 apply Array.ext
 ·simp [size_zeroCells, Value.cells]
 ·intro i h1 h2
  simp [Builtin.zeroCells, Value.cells, Nat.mod_one]

/-- so many zero bytes, as cells -/
def zs (m : Nat) : List Value := List.replicate m (Value.int .u8 0)
theorem zs_length (m : Nat) : (zs m).length = m := List.length_replicate
theorem zs_one (m : Nat) : ∀ v ∈ zs m, v.oneCell' = true := by intro v hv; rw [(List.mem_replicate.1 hv).2]; rfl
theorem zeroCells8' (m : Nat) : Builtin.zeroCells (Value.int .u8 0).cells m = (zs m).toArray := zeroCells8 m

section
variable {P : Program} (w : World)

theorem run_zeros_room (t k ty : TypeId) (i : TypeInfo) (ht : P.underlying t = some (.slice 5)) (hk : P.underlying k = some (.int .i64)) (hi : P.info? 5 = some i) (hz : i.zero = some (.int .u8 0)) (hs : i.size = 1) (hb : i.bytes = 1)
  (g n cap m : Nat) (cur : Array Value) (hg : w.heap[g]? = some (.cells cur 5 (0, 0))) (hm : m ≤ 140737488355328) (hroom : n + m ≤ cap) (hc : cur.size = cap) :
  (Builtin.append_ #[t, k] ty #[.slice (some ⟨g, 0, none⟩) n cap, .int .i64 m]).run P w =
   .ok (.slice (some ⟨g, 0, none⟩) (n + m) cap) (w.setRow g (cur.toList.take n ++ (zs m ++ cur.toList.drop (n + m))).toArray) := by
 have wl : IntKind.i64.wrap (m : Int) = m := by rw [IntKind.wrap_i64]; omega
 have n1 : ¬ (m : Int) < 0 := by omega
 have n2 : ¬ (281474976710656 < (m : Int)) := by omega
 have hst := run_storeCells_at P g n 5 (zs m) 0 cur w hg (by rw [zs_length]; omega) (zs_one m)
 simp only [Nat.add_zero, zs_length, List.append_assoc] at hst
 by_cases h0 : m = 0
 ·subst h0
  have hr' : n ≤ cap := hroom
  have e : zs 0 = [] := rfl
  rw [e] at hst ⊢
  simp only [List.nil_append, Nat.add_zero] at hst ⊢
  simp [Builtin.append_, run_underlying ht, run_underlying hk, sizeOf, typeInfo, hi, hs, hb, asInt, asIntOf, IntKind.wrap_i64, hr', Addr.add_lit, hst]
 ·simp [Builtin.append_, run_underlying ht, run_underlying hk, sizeOf, typeInfo, zeroValue, hi, hz, hs, hb, asInt, asIntOf, wl, n1, n2, h0, hroom, zeroCells8', Addr.add_lit, hst]

theorem run_zeros_grow (t k ty : TypeId) (i : TypeInfo) (ht : P.underlying t = some (.slice 5)) (hk : P.underlying k = some (.int .i64)) (hi : P.info? 5 = some i) (hz : i.zero = some (.int .u8 0)) (hs : i.size = 1) (hb : i.bytes = 1)
  (b : Addr) (n cap m : Nat) (olds : List Value) (hlo : olds.length = n) (holds : ∀ j v, olds[j]? = some v → w.cell? (b.add j) = some v) (hsum : n + m ≤ 140737488355328) (hroom : cap < n + m) (h0 : ¬ m = 0) :
  (Builtin.append_ #[t, k] ty #[.slice (some b) n cap, .int .i64 m]).run P w =
   .ok (.slice (some ⟨w.heap.size, 0, none⟩) (n + m) (grownCap w (n + m) cap 5)) (w.drew.alloc (.cells (olds ++ (zs m ++ zs (grownCap w (n + m) cap 5 - (n + m)))).toArray 5)) := by
 have wl : IntKind.i64.wrap (m : Int) = m := by rw [IntKind.wrap_i64]; omega
 have n1 : ¬ (m : Int) < 0 := by omega
 have n2 : ¬ (281474976710656 < (m : Int)) := by omega
 have hn : ¬ (n + m ≤ cap) := by omega
 have h63' : ¬ (9223372036854775807 < ((n : Int) + (m : Int))) := by omega
 have h48 := growslice_fits (bytes := 1) hroom (by omega)
 have h48' : ¬ (281474976710656 < Builtin.nextslicecap (n + m) cap) := by omega
 have hfo := run_firstCells_some (P := P) w.drew 1 n b n cap olds (by omega) (by simpa using holds)
 simp [Builtin.append_, run_underlying ht, run_underlying hk, sizeOf, typeInfo, zeroValue, hi, hz, hs, hb, asInt, asIntOf, wl, n1, n2, h0, hn, h63', h48', Question.forced, hfo, newRow, grownCap, zeroCells8']

theorem run_zeros_nil (t k ty : TypeId) (i : TypeInfo) (ht : P.underlying t = some (.slice 5)) (hk : P.underlying k = some (.int .i64)) (hi : P.info? 5 = some i) (hz : i.zero = some (.int .u8 0)) (hs : i.size = 1) (hb : i.bytes = 1)
  (m : Nat) (hsum : m ≤ 140737488355328) (h0 : ¬ m = 0) :
  (Builtin.append_ #[t, k] ty #[.slice none 0 0, .int .i64 m]).run P w =
   .ok (.slice (some ⟨w.heap.size, 0, none⟩) m (grownCap w m 0 5)) (w.drew.alloc (.cells (zs m ++ zs (grownCap w m 0 5 - m)).toArray 5)) := by
 have wl : IntKind.i64.wrap (m : Int) = m := by rw [IntKind.wrap_i64]; omega
 have n1 : ¬ (m : Int) < 0 := by omega
 have n2 : ¬ (281474976710656 < (m : Int)) := by omega
 have h63' : ¬ (9223372036854775807 < (m : Int)) := by omega
 have h48' : ¬ (281474976710656 < Builtin.nextslicecap m 0) := by rw [nextslicecap_zero (by omega)]; omega
 simp [Builtin.append_, run_underlying ht, run_underlying hk, sizeOf, typeInfo, zeroValue, hi, hz, hs, hb, asInt, asIntOf, wl, n1, n2, h0, h63', h48', Question.forced, run_firstCells_none, newRow, grownCap, zeroCells8']

theorem run_zeros_nil0 (t k ty : TypeId) (i : TypeInfo) (ht : P.underlying t = some (.slice 5)) (hk : P.underlying k = some (.int .i64)) (hi : P.info? 5 = some i) (hb : i.bytes = 1) :
  (Builtin.append_ #[t, k] ty #[.slice none 0 0, .int .i64 0]).run P w = .ok (.slice none 0 0) w := by
 simp [Builtin.append_, run_underlying ht, run_underlying hk, sizeOf, typeInfo, hi, hb, asInt, asIntOf, IntKind.wrap_i64]

/-- the law -/
theorem run_zeros (base : Nat) (t k ty : TypeId) (i : TypeInfo) (ht : P.underlying t = some (.slice 5)) (hk : P.underlying k = some (.int .i64)) (hi : P.info? 5 = some i) (hz : i.zero = some (.int .u8 0)) (hs : i.size = 1) (hb : i.bytes = 1)
  (v : Value) (n : Nat) (xs : List Value) (hown : w.ownsRow base 5 1 v n xs) (m : Nat) (hsum : n + m ≤ 140737488355328) (hbase : base ≤ w.heap.size) :
  ∃ v' w', (Builtin.append_ #[t, k] ty #[v, .int .i64 m]).run P w = .ok v' w' ∧ w'.ownsRow base 5 1 v' (n + m) (xs ++ zs m) ∧ w.grownBy w' v.ownBlock ∧ (v'.ownBlock = v.ownBlock ∨ v'.ownBlock = some w.heap.size) := by
 obtain ⟨h1, h2⟩ := hown
 have hlen : (xs ++ zs m).length = (n + m) * 1 := by rw [List.length_append, h1, zs_length]; omega
 rcases h2 with ⟨rfl, rfl⟩ | ⟨g, cap, cur, rfl, hbg, hg, hnc, hcm, hcs, htake⟩
 ·obtain rfl : xs = [] := List.eq_nil_of_length_eq_zero (by simpa using h1)
  by_cases h0 : m = 0
  ·subst h0
   exact ⟨_, _, run_zeros_nil0 w t k ty i ht hk hi hb, World.ownsRow_nil _ _ _ _, World.grownBy.refl _ _, Or.inl rfl⟩
  ·refine ⟨_, _, run_zeros_nil w t k ty i ht hk hi hz hs hb m (by omega) h0, ?_, ⟨rfl, rfl, rfl, by simp, fun j hj _ => Below.heap_alloc w.drew _ j hj⟩, Or.inr rfl⟩
   have hge := grownCap_ge w m 0 5
   have hcm := grownCap_le_maxLen w m 0 5 (by unfold maxLen; omega)
   simp only [Nat.zero_add, List.nil_append] at hlen ⊢
   refine ⟨hlen, .inr ⟨w.heap.size, _, _, rfl, hbase, heap_alloc_new w.drew _, hge, hcm, ?_, ?_⟩⟩
   ·simp [zs_length]; omega
   ·simp only [Nat.mul_one]; rw [List.take_append_of_le_length (by rw [zs_length]; exact Nat.le_refl _), List.take_of_length_le (by rw [zs_length]; exact Nat.le_refl _)]
 ·simp only [Nat.mul_one] at hcs htake h1
  by_cases hroom : n + m ≤ cap
  ·refine ⟨_, _, run_zeros_room w t k ty i ht hk hi hz hs hb g n cap m cur hg (by omega) hroom hcs, ?_, ⟨rfl, rfl, rfl, by simp [World.setRow], fun j _ hj => setRow_other w g j _ (fun e => hj (by simp [Value.ownBlock, e]))⟩, Or.inl rfl⟩
   refine ⟨hlen, .inr ⟨g, cap, _, rfl, hbg, setRow_heap w g cur _ 5 _ hg, hroom, hcm, ?_, ?_⟩⟩
   ·simp [zs_length]; omega
   ·rw [htake, Nat.mul_one, ← List.append_assoc, List.take_append_of_le_length (by simp [zs_length, h1]), List.take_of_length_le (by simp [zs_length, h1])]
  ·have h0 : ¬ m = 0 := by omega
   have holds : ∀ j u, xs[j]? = some u → w.cell? ((⟨g, 0, none⟩ : Addr).add j) = some u := World.ownsRow.cells (base := base) (e := 5) (size := 1) (v := .slice (some ⟨g, 0, none⟩) n cap) (n := n) ⟨by omega, .inr ⟨g, cap, cur, rfl, hbg, hg, hnc, hcm, by omega, by simpa using htake⟩⟩ (g := g) rfl
   refine ⟨_, _, run_zeros_grow w t k ty i ht hk hi hz hs hb ⟨g, 0, none⟩ n cap m xs h1 holds hsum (by omega) h0, ?_, ⟨rfl, rfl, rfl, by simp, fun j hj _ => Below.heap_alloc w.drew _ j hj⟩, Or.inr rfl⟩
   have hge := grownCap_ge w (n + m) cap 5
   have hcm2 := grownCap_le_maxLen w (n + m) cap 5 (by unfold maxLen; omega)
   refine ⟨hlen, .inr ⟨w.heap.size, _, _, rfl, hbase, heap_alloc_new w.drew _, hge, hcm2, ?_, ?_⟩⟩
   ·simp [zs_length, h1]; omega
   ·simp only [Nat.mul_one]; rw [← List.append_assoc, List.take_append_of_le_length (by simp [zs_length, h1]), List.take_of_length_le (by simp [zs_length, h1])]

theorem wpList_zeros {ops : Array Oper} {rest : List Oper} {o : Oper} {a : Act} {Q : Exit → Act → World → Prop} (hgd : o.guard = none) (s x : Operand) (t k : TypeId)
  (ho : o.op = .call { callee := .builtin .append, args := #[s, x], argTypes := #[t, k] })
  (base : Nat) (i : TypeInfo) (ht : P.underlying t = some (.slice 5)) (hk : P.underlying k = some (.int .i64)) (hi : P.info? 5 = some i) (hz : i.zero = some (.int .u8 0)) (hsize : i.size = 1) (hby : i.bytes = 1)
  (v : Value) (n : Nat) (xs : List Value) (hs : a.eval s = v) (hown : w.ownsRow base 5 1 v n xs) (m : Nat) (hx : a.eval x = .int .i64 m) (hsum : n + m ≤ 140737488355328) (hbase : base ≤ w.heap.size)
  (h : ∀ v' w', w'.ownsRow base 5 1 v' (n + m) (xs ++ zs m) → w.grownBy w' v.ownBlock → (v'.ownBlock = v.ownBlock ∨ v'.ownBlock = some w.heap.size) → wpList P ops Q rest (a.put o.dst v') w') : wpList P ops Q (o :: rest) a w := by
 refine wpList_plain hgd fun K hK => ?_
 obtain ⟨v', w', hr, h2, h3, h4⟩ := run_zeros (P := P) w base t k o.type i ht hk hi hz hsize hby v n xs hown m hsum hbase
 unfold Oper.wp execOp
 simp only [ho, resolve, invoke, builtin, Sem.run_bind, Sem.run_pure, Result.andThen_ok, List.map_toArray, List.map_cons, List.map_nil, hs, hx, hr]
 exact hK _ _ (h v' w' h2 h3 h4)
end
attribute [local go_sem ↓] Go.wp_at_zero Go.wp_at_succ

/-- a writer at p, whose bytes lie in v -/
structure WInv (w : World) (p : Nat) (v : Value) (bs : List Int) (most e : Int) : Prop where
 blk : SBlk w p [v, .int .i64 most, .int .i64 e] 105
 own : w.ownsRow (p + 1) 5 1 v bs.length (bv bs)
 byt : Byt bs

/-- from w to w' the writer's own blocks alone have turned -/
structure Chg (w w' : World) (p : Nat) (v v' : Value) : Prop where
 os : w'.os = w.os
 tape : w'.tape = w.tape
 output : w'.output = w.output
 size : w.heap.size ≤ w'.heap.size
 block : ∀ k, k < w.heap.size → k ≠ p → some k ≠ v.ownBlock → w'.heap[k]? = w.heap[k]?
 own : v'.ownBlock = v.ownBlock ∨ ∃ k, v'.ownBlock = some k ∧ w.heap.size ≤ k

theorem Chg.refl (w : World) (p : Nat) (v : Value) : Chg w w p v v := ⟨rfl, rfl, rfl, Nat.le_refl _, fun _ _ _ _ => rfl, Or.inl rfl⟩
theorem Chg.trans {a b c : World} {p : Nat} {v v' v'' : Value} (h : Chg a b p v v') (k : Chg b c p v' v'') : Chg a c p v v'' := by
 refine ⟨k.os.trans h.os, k.tape.trans h.tape, k.output.trans h.output, Nat.le_trans h.size k.size, fun i hi hp hv => ?_, ?_⟩
 ·refine (k.block i (Nat.lt_of_lt_of_le hi h.size) hp ?_).trans (h.block i hi hp hv)
  rcases h.own with e | ⟨j, e, hj⟩
  ·rw [e]; exact hv
  ·rw [e]; intro e2; injection e2; omega
 ·rcases k.own with e | ⟨j, e, hj⟩
  ·rw [e]; exact h.own
  ·exact Or.inr ⟨j, e, Nat.le_trans h.size hj⟩
theorem Chg.of_grown {w w' : World} {p : Nat} {v : Value} (h : w.grownBy w' none) : Chg w w' p v v := ⟨h.os, h.tape, h.output, h.size, fun k hk _ _ => h.block k hk (by simp), Or.inl rfl⟩
theorem Chg.of_p {w w' : World} {p : Nat} {v : Value} (h : w.grownBy w' (some p)) : Chg w w' p v v := ⟨h.os, h.tape, h.output, h.size, fun k hk hp _ => h.block k hk (by simpa using hp), Or.inl rfl⟩
theorem Chg.of_own {w w' : World} {p : Nat} {v v' : Value} (h : w.grownBy w' v.ownBlock) (ho : v'.ownBlock = v.ownBlock ∨ ∃ k, v'.ownBlock = some k ∧ w.heap.size ≤ k) : Chg w w' p v v' := ⟨h.os, h.tape, h.output, h.size, fun k hk _ hv => h.block k hk hv, ho⟩

theorem WInv.ne {w : World} {p : Nat} {v : Value} {bs : List Int} {most e : Int} (h : WInv w p v bs most e) : some p ≠ v.ownBlock := fun e => by have := (h.own.lt p e.symm).1; omega
theorem own_ne {w : World} {p : Nat} {v : Value} {n : Nat} {xs : List Value} (h : w.ownsRow (p + 1) 5 1 v n xs) : some p ≠ v.ownBlock := fun e => by have := (h.lt p e.symm).1; omega
theorem WInv.grown {w w' : World} {p : Nat} {v : Value} {bs : List Int} {most e : Int} (h : WInv w p v bs most e) (hg : w.grownBy w' none) : WInv w' p v bs most e :=
 ⟨h.blk.grown hg (by simp), h.own.kept hg (by cases v.ownBlock <;> simp), h.byt⟩
theorem WInv.drew {w : World} {p : Nat} {v : Value} {bs : List Int} {most e : Int} (h : WInv w p v bs most e) : WInv w.drew p v bs most e := h.grown (grown_drewH _ _)
theorem WInv.setE {w : World} {p : Nat} {v : Value} {bs : List Int} {most e : Int} (h : WInv w p v bs most e) (e' : Int) : WInv (w.setCell ⟨p, 2, none⟩ (.int .i64 e')) p v bs most e' :=
 ⟨h.blk.set 2 (.int .i64 e'), h.own.kept (grown_set w p 2 _) (Or.inr (Ne.symm h.ne)), h.byt⟩

theorem wstop_any (p : Nat) (x y : Value) (e : Int) (w : World) (hB : SBlk w p [x, y, .int .i64 e] 105) :
  Calls Try.prog 57 #[.pointer (some ⟨p, 0, none⟩)] w fun r w' => r = .returned (.bool (e != 0)) ∧ w = w' := by
 have c2 := hB.c2
 go_enter Try.func57, Try.ntmps57
 go_wp2
 go_ret
 exact ⟨rfl, rfl⟩

theorem wdone_bad (p : Nat) (v : Value) (bs : List Int) (most e : Int) (w : World) (hI : WInv w p v bs most e) (he : (e != 0) = true) :
  Calls Try.prog 42 #[.pointer (some ⟨p, 0, none⟩)] w fun r w' => r = .returned (.tuple #[.slice none 0 0, .int .i64 e]) ∧ w.grownBy w' none := by
 have c2 := hI.blk.c2
 go_enter Try.func42, Try.ntmps42
 go_wp2
 go_quiet (fail)
 go_wp2
 go_ret2
 exact ⟨rfl, ⟨rfl, rfl, rfl, Nat.le_refl _, fun _ _ _ => rfl⟩⟩

theorem wdone_ok (p : Nat) (v : Value) (bs : List Int) (most : Int) (w : World) (hI : WInv w p v bs most 0) (hl : bs.length ≤ 140737488355328) :
  Calls Try.prog 42 #[.pointer (some ⟨p, 0, none⟩)] w fun r w' => r = .returned (.tuple #[.slice (some ⟨w.heap.size, 0, none⟩) bs.length bs.length, .int .i64 0]) ∧ Blk w' w.heap.size (bv bs) ∧ w.grownBy w' none := by
 obtain ⟨a, c, rfl, R⟩ := owns_row hI.own hI.byt (by unfold maxLen; omega)
 have c0 := hI.blk.c0
 have c2 := hI.blk.c2
 have hF := fresh_any a bs.length c bs w R (by omega)
 go_enter Try.func42, Try.ntmps42
 go_wp2_with (go_at_call 61; refine hF.mono ?_; rintro e w1 ⟨rfl, hb1, hg1, hs1⟩; clear hs1)
 go_ret2
 exact ⟨rfl, by assumption, by assumption⟩

theorem grow_no (p : Nat) (v : Value) (bs : List Int) (most : Int) (n : Nat) (w : World) (hI : WInv w p v bs most 0) (h0 : 0 ≤ most) (h1 : most ≤ 9223372036854775807) (hl : bs.length ≤ 140737488355328) (hn : most - bs.length < n) :
  Calls Try.prog 60 #[.pointer (some ⟨p, 0, none⟩), .int .i64 n] w fun r w' => r = .returned (.slice none 0 0) ∧ WInv w' p v bs most 2 ∧ Chg w w' p v v := by
 obtain ⟨a, c, rfl, _⟩ := owns_form hI.own
 have c0 := hI.blk.c0
 have c1 := hI.blk.c1
 have c2 := hI.blk.c2
 have f2 := hI.blk.frozen 2
 have hwr : IntKind.i64.wrap (most - bs.length) = most - bs.length := by rw [IntKind.wrap_i64]; omega
 go_enter Try.func60, Try.ntmps60
 go_wp2
 go_region_held (fun w' => w'.cell? ⟨p, 0, none⟩ = some (.slice a bs.length c) ∧ w'.cell? ⟨p, 1, none⟩ = some (.int .i64 most)) (go_keep) (fail)
 go_wp2
 go_ret
 exact ⟨rfl, (hI.setE 2).drew, Chg.of_p (grown_set_drew _ _ _ _)⟩

/-- what grow leaves -/
structure Grew (w w' : World) (p : Nat) (v : Value) (bs : List Int) (most : Int) (n : Nat) (v' : Value) (a : Option Addr) : Prop where
 blk : SBlk w' p [v', .int .i64 most, .int .i64 0] 105
 own : w'.ownsRow (p + 1) 5 1 v' (bs.length + n) (bv bs ++ zs n)
 at_ : 0 < n → ∃ g c, v' = .slice (some ⟨g, 0, none⟩) (bs.length + n) c ∧ a = some ⟨g, bs.length, none⟩
 chg : Chg w w' p v v'

theorem grew_of {w w1 : World} {p n : Nat} {v v' : Value} {bs : List Int} {most : Int} (hI : WInv w p v bs most 0) (ho : w1.ownsRow (p + 1) 5 1 v' (bs.length + n) (bv bs ++ zs n)) (hg : w.drew.grownBy w1 v.ownBlock) (hb : v'.ownBlock = v.ownBlock ∨ v'.ownBlock = some w.drew.heap.size) (a : Option Addr)
  (ha : 0 < n → ∃ g c, v' = .slice (some ⟨g, 0, none⟩) (bs.length + n) c ∧ a = some ⟨g, bs.length, none⟩) : Grew w (w1.setCell ⟨p, 0, none⟩ v') p v bs most n v' a := by
 have hb1 : SBlk w1 p [v, .int .i64 most, .int .i64 0] 105 := hI.drew.blk.grown hg hI.ne
 refine ⟨hb1.set 0 v', ho.kept (grown_set w1 p 0 _) (Or.inr (Ne.symm (own_ne ho))), ha, ?_⟩
 refine (Chg.of_grown (grown_drewH w none)).trans ((Chg.of_own hg (hb.imp id (fun e => ⟨_, e, Nat.le_refl _⟩))).trans (Chg.of_p (grown_set w1 p 0 _)))

set_option maxHeartbeats 800000 in
theorem grow_ok (p : Nat) (v : Value) (bs : List Int) (most : Int) (n : Nat) (w : World) (hI : WInv w p v bs most 0) (h0 : 0 ≤ most) (h1 : most ≤ 9223372036854775807) (hl : bs.length + n ≤ 140737488355328) (hn : (n : Int) ≤ most - bs.length) :
  Calls Try.prog 60 #[.pointer (some ⟨p, 0, none⟩), .int .i64 n] w fun r w' => ∃ v' a c, r = .returned (.slice a n c) ∧ n ≤ c ∧ Grew w w' p v bs most n v' a := by
 obtain ⟨i5, hi, hz0, hz1, hz2⟩ := info_parts Try.info5
 obtain ⟨a, c, rfl, _⟩ := owns_form hI.own
 have c0 := hI.blk.c0
 have c1 := hI.blk.c1
 have hwr : IntKind.i64.wrap (most - bs.length) = most - bs.length := by rw [IntKind.wrap_i64]; omega
 have hown := hI.drew.own
 have hpl := hI.blk.lt
 go_enter Try.func60, Try.ntmps60
 go_wp2
 go_region_held (fun w' => w'.cell? ⟨p, 0, none⟩ = some (.slice a bs.length c) ∧ w'.cell? ⟨p, 1, none⟩ = some (.int .i64 most)) (go_keep) (fail)
 go_wp2_with (at_builtin; (refine wpList_zeros _ rfl (.tmp 30) (.tmp 31) 22 3 rfl (p + 1) i5 Try.underlying22 Try.underlying3 hi hz0 hz1 hz2 _ bs.length (bv bs) rfl hown n rfl hl (by exact hpl) ?_); intro v1 w1 ho1 hg1 hb1; obtain ⟨a1, cc1, hv1, hle1, hm1, hf1⟩ := owns_form ho1; rw [hv1]; have hB1 := hI.drew.blk.grown hg1 hI.ne; have d0 := hB1.c0; have e0 := hB1.frozen 0; clear hB1)
 ·go_ret
  have hcc : cc1 = bs.length := by assumption
  subst hv1
  subst hcc
  exact ⟨_, _, _, rfl, by omega, grew_of hI ho1 hg1 hb1 _ (fun hp => absurd hp (by omega))⟩
 ·go_ret
  subst hv1
  refine ⟨_, _, _, rfl, by omega, grew_of hI ho1 hg1 hb1 _ (fun hp => ?_)⟩
  rcases hf1 with ⟨rfl, h2, _⟩ | ⟨g, rfl, _⟩
  ·omega
  ·refine ⟨g, cc1, rfl, ?_⟩
   rw [map_add, Nat.zero_add]
theorem Chg.below {w w' : World} {p : Nat} {v v' : Value} {n : Nat} {xs : List Value} (h : Chg w w' p v v') (ho : w.ownsRow (p + 1) 5 1 v n xs) (hp : p ≤ w.heap.size) : Below p w w' :=
 ⟨h.os, h.tape, h.output, h.size, fun k hk => h.block k (by omega) (by omega) (fun e => by have := (ho.lt k e.symm).1; omega)⟩
theorem Row.belowB {w w' : World} {a : Option Addr} {len B : Nat} {bs : List Int} (h : Row w a len bs) (hb : Below B w w') (hlt : ∀ b off, a = some ⟨b, off, none⟩ → 0 < len → b < B) : Row w' a len bs := by
 refine ⟨h.len_eq, h.le, h.byt, fun h0 => ?_⟩
 obtain ⟨b, off, e, hc⟩ := h.cells h0
 exact ⟨b, off, e, fun i hi => by rw [hb.cell (p := ⟨b, off + i, none⟩) (hlt b off e h0)]; exact hc i hi⟩

theorem Grew.cur {w w1 : World} {p n : Nat} {v v' : Value} {bs : List Int} {most : Int} {a : Option Addr} (G : Grew w w1 p v bs most n v' a) (hn : 0 < n) :
  ∃ g c cur, v' = .slice (some ⟨g, 0, none⟩) (bs.length + n) c ∧ a = some ⟨g, bs.length, none⟩ ∧ Blk w1 g cur ∧ cur.length = c ∧ bs.length + n ≤ c ∧ cur.take (bs.length + n) = bv bs ++ zs n ∧ p + 1 ≤ g ∧ c ≤ maxLen := by
 obtain ⟨g, c, hv, ha⟩ := G.at_ hn
 rcases G.own.2 with ⟨h1, h2⟩ | ⟨g', cap, cur, e, hb, hg, hle, hm, hs, ht⟩
 ·omega
 ·rw [hv] at e
  injection e with e1 e2 e3
  injection e1 with e1
  injection e1 with e1
  subst e1
  subst e3
  refine ⟨g, c, cur.toList, hv, ha, ?_, by simp [hs], hle, by simpa using ht, hb, hm⟩
  unfold Blk
  simpa using hg

theorem take_splice {α : Type} (cur xs ys : List α) (k n : Nat) (h : cur.take (k + n) = xs ++ ys) (hx : xs.length = k) (hy : ys.length = n) (st : List α) (hs : st.length = n) : (splice cur k st).take (k + n) = xs ++ st := by
 unfold splice
 have e1 : cur.take k = xs := by
  have := congrArg (List.take k) h
  rw [List.take_take, Nat.min_eq_left (by omega), List.take_append_of_le_length (by omega)] at this
  rw [this, List.take_of_length_le (by omega)]
 rw [e1, ← List.append_assoc, List.take_append_of_le_length (by simp [hx, hs]), List.take_of_length_le (by simp [hx, hs])]

/-- what was grown, written over -/
theorem wrote {w w1 w2 : World} {p n g c : Nat} {v v' : Value} {bs : List Int} {most : Int} {a : Option Addr} {cur : List Value} (hI : WInv w p v bs most 0) (G : Grew w w1 p v bs most n v' a)
  (hv : v' = .slice (some ⟨g, 0, none⟩) (bs.length + n) c) (hcl : cur.length = c) (hle : bs.length + n ≤ c) (hm : c ≤ maxLen) (ht : cur.take (bs.length + n) = bv bs ++ zs n) (hpg : p + 1 ≤ g)
  (st : List Int) (hst : st.length = n) (hsb : Byt st) (hB : Blk w2 g (splice cur bs.length (bv st))) (hg : w1.grownBy w2 (some g)) : WInv w2 p v' (bs ++ st) most 0 ∧ Chg w w2 p v v' := by
 have hob : v'.ownBlock = some g := by rw [hv]; rfl
 refine ⟨⟨G.blk.grown hg (by simp; omega), ⟨by simp [bv_length], .inr ⟨g, c, (splice cur bs.length (bv st)).toArray, ?_, hpg, hB, ?_, hm, ?_, ?_⟩⟩, hI.byt.append hsb⟩, G.chg.trans (Chg.of_own (by rw [hob]; exact hg) (Or.inl rfl))⟩
 ·rw [hv, List.length_append, hst]
 ·rw [List.length_append, hst]; exact hle
 ·simp only [List.size_toArray]; rw [length_splice _ _ _ (by rw [bv_length, hst, hcl]; exact hle)]; omega
 ·have := take_splice cur (bv bs) (zs n) bs.length n ht (bv_length _) (zs_length _) (bv st) (by rw [bv_length, hst])
  simp only [List.length_append, hst, Nat.mul_one, bv_append]
  exact this
theorem wrote0 {w w1 : World} {p : Nat} {v v' : Value} {bs : List Int} {most : Int} {a : Option Addr} (hI : WInv w p v bs most 0) (G : Grew w w1 p v bs most 0 v' a) : WInv w1 p v' bs most 0 ∧ Chg w w1 p v v' :=
 ⟨⟨G.blk, by have := G.own; simpa [zs] using this, hI.byt⟩, G.chg⟩

theorem wnum_stop (p : Nat) (x y : Value) (e n m : Int) (w : World) (hB : SBlk w p [x, y, .int .i64 e] 105) (he : (e != 0) = true) :
  Calls Try.prog 41 #[.pointer (some ⟨p, 0, none⟩), .int .u64 n, .int .i64 m] w fun r w' => r = .returned (.tuple #[]) ∧ w = w' := by
 go_enter Try.func41, Try.ntmps41
 go_wp2_with (go_at_call 57; refine (wstop_any p x y e w hB).mono ?_; rintro e w' ⟨rfl, rfl⟩)
 exact bodyPost_ret (results_none rfl _ _ _) rfl ⟨rfl, rfl⟩
theorem wnum_bad (p : Nat) (v : Value) (bs : List Int) (most n m : Int) (w : World) (hI : WInv w p v bs most 0) (hc : (ckE n m != 0) = true) :
  Calls Try.prog 41 #[.pointer (some ⟨p, 0, none⟩), .int .u64 n, .int .i64 m] w fun r w' => r = .returned (.tuple #[]) ∧ WInv w' p v bs most (ckE n m) ∧ Chg w w' p v v := by
 have c2 := hI.blk.c2
 have f2 := hI.blk.frozen 2
 have d2 := (hI.setE (ckE n m)).blk.c2
 go_enter Try.func41, Try.ntmps41
 go_wp2_with (first | (go_at_call 57; refine (wstop_any p _ _ 0 w hI.blk).mono ?_; rintro e w' ⟨rfl, rfl⟩) | (go_at_call 58; refine (hcheck_any _ _ _).mono ?_; rintro e w' ⟨rfl, rfl⟩))
 exact bodyPost_ret (results_none rfl _ _ _) rfl ⟨rfl, hI.setE _, Chg.of_p (grown_set _ _ _ _)⟩

theorem wnum_full (p : Nat) (v : Value) (bs : List Int) (most n : Int) (m : Nat) (w : World) (hI : WInv w p v bs most 0) (hc : ckE n m = 0) (h0 : 0 ≤ most) (h1 : most ≤ 9223372036854775807) (hl : bs.length ≤ 140737488355328) (hn : most - bs.length < m) :
  Calls Try.prog 41 #[.pointer (some ⟨p, 0, none⟩), .int .u64 n, .int .i64 m] w fun r w' => r = .returned (.tuple #[]) ∧ WInv w' p v bs most 2 ∧ Chg w w' p v v := by
 have c2 := hI.blk.c2
 have f2 := hI.blk.frozen 2
 have hC := hcheck_any n m w
 rw [hc] at hC
 have hI0 := hI.setE 0
 have d2 := hI0.blk.c2
 have hG := grow_no p v bs most m _ hI0 h0 h1 hl hn
 go_enter Try.func41, Try.ntmps41
 go_wp2_with (first | (go_at_call 57; refine (wstop_any p _ _ 0 w hI.blk).mono ?_; rintro e w' ⟨rfl, rfl⟩) | (go_at_call 58; refine hC.mono ?_; rintro e w' ⟨rfl, rfl⟩) | (go_at_call 60; refine hG.mono ?_; rintro e w1 ⟨rfl, hI1, hg1⟩) | (go_at_call 59; refine (lay_none _ _ _ _).mono ?_; rintro e w' ⟨rfl, rfl⟩))
 exact bodyPost_end (results_none rfl _ _ _) rfl ⟨rfl, by assumption, (Chg.of_p (grown_set w p 2 (.int .i64 0))).trans (by assumption)⟩

set_option maxHeartbeats 400000 in
theorem wnum_ok (p : Nat) (v : Value) (bs : List Int) (most n : Int) (m : Nat) (w : World) (hI : WInv w p v bs most 0) (hc : ckE n m = 0) (h0 : 0 ≤ most) (h1 : most ≤ 9223372036854775807) (hl : bs.length + m ≤ 140737488355328) (hn : (m : Int) ≤ most - bs.length) :
  Calls Try.prog 41 #[.pointer (some ⟨p, 0, none⟩), .int .u64 n, .int .i64 m] w fun r w' => ∃ v', r = .returned (.tuple #[]) ∧ WInv w' p v' (bs ++ sto n m) most 0 ∧ Chg w w' p v v' := by
 obtain ⟨hW, _⟩ := ckE_ok hc
 have hm := isW_pos hW
 have c2 := hI.blk.c2
 have f2 := hI.blk.frozen 2
 have hC := hcheck_any n m w
 rw [hc] at hC
 have hI0 := hI.setE 0
 have d2 := hI0.blk.c2
 have hG := grow_ok p v bs most m _ hI0 h0 h1 hl hn
 go_enter Try.func41, Try.ntmps41
 go_wp2_with (first | (go_at_call 57; refine (wstop_any p _ _ 0 w hI.blk).mono ?_; rintro e w' ⟨rfl, rfl⟩) | (go_at_call 58; refine hC.mono ?_; rintro e w' ⟨rfl, rfl⟩) | (go_at_call 60; refine hG.mono ?_; rintro e w1 ⟨v1, a1, k1, rfl, hk1, G⟩; obtain ⟨g, c, cur, hv, rfl, hB, hcl, hle, ht, hpg, hmx⟩ := G.cur (by omega); have HV := (show Hid _ from hv); have HT := (show Hid _ from ht); clear hv ht))
 refine (hlay_any g bs.length m k1 n cur w1 hB (by omega) (by omega)).mono ?_
 rintro e w2 ⟨rfl, hb2, hg2, hs2⟩
 clear hs2
 go_wp2
 obtain ⟨hW2, hC2⟩ := wrote hI0 G HV.out hcl hle hmx HT.out hpg (sto n m) (sto_length _ _) (sto_byt _ _) hb2 hg2
 exact bodyPost_end (results_none rfl _ _ _) rfl ⟨_, rfl, hW2, (Chg.of_p (grown_set w p 2 (.int .i64 0))).trans hC2⟩

theorem splice_join {α : Type} (cur x y : List α) (k : Nat) (h : k + x.length + y.length ≤ cur.length) : splice (splice cur k x) (k + x.length) y = splice cur k (x ++ y) := by
 unfold splice
 have e1 : (cur.take k ++ (x ++ cur.drop (k + x.length))).take (k + x.length) = cur.take k ++ x := by
  rw [← List.append_assoc, List.take_append_of_le_length (by simp; omega), List.take_of_length_le (by simp; omega)]
 have e2 : (cur.take k ++ (x ++ cur.drop (k + x.length))).drop (k + x.length + y.length) = cur.drop (k + (x ++ y).length) := by
  rw [← List.append_assoc, List.drop_append, List.drop_eq_nil_of_le (by simp; omega), List.nil_append, List.drop_drop]
  congr 1
  simp
  omega
 rw [e1, e2]
 simp

theorem new_winv (w : World) (m : Int) : WInv (w.alloc (.cells #[.slice none 0 0, .int .i64 m, .int .i64 0] 105)) w.heap.size (.slice none 0 0) [] m 0 :=
 ⟨alloc_sblk w [.slice none 0 0, .int .i64 m, .int .i64 0] 105, World.ownsRow_nil _ _ _ _, fun n hn => by simp at hn⟩

theorem newwriter_any (most : Int) (w : World) :
  Calls Try.prog 40 #[.int .i64 most] w fun r w' => r = .returned (.pointer (some ⟨w.heap.size, 0, none⟩)) ∧ WInv w' w.heap.size (.slice none 0 0) [] (if most < 0 then 0 else most) 0 ∧ w.grownBy w' none := by
 by_cases h : most < 0
 ·rw [if_pos h]
  go_enter Try.func40, Try.ntmps40
  go_wp2
  go_ret
  exact ⟨rfl, new_winv w 0, World.grownBy_alloc w _ none⟩
 ·rw [if_neg h]
  go_enter Try.func40, Try.ntmps40
  go_wp2
  go_ret
  exact ⟨rfl, new_winv w most, World.grownBy_alloc w _ none⟩
def wNum (most : Int) (s : List Int × Int) (v n : Int) : List Int × Int :=
 if s.2 ≠ 0 then s else if ckE v n ≠ 0 then (s.1, ckE v n) else if most - s.1.length < n then (s.1, 2) else (s.1 ++ sto v n.toNat, 0)
def wByt (most : Int) (s : List Int × Int) (xs : List Int) : List Int × Int :=
 if s.2 ≠ 0 then s else if most - s.1.length < xs.length then (s.1, 2) else (s.1 ++ xs, 0)
def wTxt (most : Int) (s : List Int × Int) (xs : List Int) : List Int × Int :=
 if s.2 ≠ 0 then s else if 65535 < xs.length then (s.1, 9) else if most - s.1.length < 2 + xs.length then (s.1, 2) else (s.1 ++ (sto xs.length 2 ++ xs), 0)
theorem wnum_any (p : Nat) (v : Value) (most x n : Int) (s : List Int × Int) (w : World) (hI : WInv w p v s.1 most s.2) (h0 : 0 ≤ most) (h1 : most ≤ 9223372036854775807) (hl : s.1.length ≤ 100000000) :
  Calls Try.prog 41 #[.pointer (some ⟨p, 0, none⟩), .int .u64 x, .int .i64 n] w fun r w' => r = .returned (.tuple #[]) ∧ ∃ v', WInv w' p v' (wNum most s x n).1 most (wNum most s x n).2 ∧ Chg w w' p v v' := by
 obtain ⟨bs, e⟩ := s
 simp only at hI hl
 by_cases he : e = 0
 ·subst he
  by_cases hc : ckE x n = 0
  ·obtain ⟨hW, _⟩ := ckE_ok hc
   obtain ⟨m, rfl⟩ : ∃ m : Nat, n = m := ⟨n.toNat, by have := isW_pos hW; omega⟩
   have hm := isW_pos hW
   by_cases hn : most - bs.length < m
   ·have e1 : wNum most (bs, 0) x m = (bs, 2) := by simp [wNum, hc, hn]
    rw [e1]
    exact (wnum_full p v bs most x m w hI hc h0 h1 (by omega) hn).mono fun r w' ⟨a, b, c⟩ => ⟨a, v, b, c⟩
   ·have e1 : wNum most (bs, 0) x m = (bs ++ sto x m, 0) := by simp [wNum, hc, hn]
    rw [e1]
    exact (wnum_ok p v bs most x m w hI hc h0 h1 (by omega) (by omega)).mono fun r w' ⟨v', a, b, c⟩ => ⟨a, v', b, c⟩
  ·have e1 : wNum most (bs, 0) x n = (bs, ckE x n) := by simp [wNum, hc]
   rw [e1]
   exact (wnum_bad p v bs most x n w hI (by simpa using hc)).mono fun r w' ⟨a, b, c⟩ => ⟨a, v, b, c⟩
 ·have e1 : wNum most (bs, e) x n = (bs, e) := by simp [wNum, he]
  rw [e1]
  exact (wnum_stop p _ _ e x n w hI.blk (by simpa using he)).mono fun r w' ⟨a, b⟩ => ⟨a, v, by rw [← b]; exact hI, by rw [← b]; exact Chg.refl _ _ _⟩

/-- how much one call adds at most -/
theorem wNum_len (most : Int) (s : List Int × Int) (v n : Int) : (wNum most s v n).1.length ≤ s.1.length + 8 := by
 unfold wNum
 split
 ·omega
 ·split
  ·simp
  ·rename_i _ hc
   split
   ·simp
   ·obtain ⟨hW, _⟩ := ckE_ok (show ckE v n = 0 by omega)
    have := isW_pos hW
    simp [sto_length]; omega
theorem wByt_len (most : Int) (s : List Int × Int) (xs : List Int) : (wByt most s xs).1.length ≤ s.1.length + xs.length := by
 unfold wByt; split <;> (try split) <;> simp
theorem wTxt_len (most : Int) (s : List Int × Int) (xs : List Int) : (wTxt most s xs).1.length ≤ s.1.length + xs.length + 2 := by
 unfold wTxt
 split
 ·omega
 ·split
  ·simp only; omega
  ·split
   ·simp only; omega
   ·simp only [List.length_append, sto_length]; omega
theorem Res.row {w w' : World} {v : Value} {t : List Int} (h : Res w w' v t) (hb : Byt t) (hl : t.length ≤ maxLen) : ∃ a, v = .slice a t.length t.length ∧ Row w' a t.length t := by
 rcases h with ⟨rfl, rfl⟩ | ⟨g, rfl, hB, _⟩
 ·exact ⟨none, rfl, rfl, Nat.zero_le _, hb, fun h => absurd h (by simp)⟩
 ·exact ⟨_, rfl, hB.row hb hl⟩
theorem Row.drew' {w : World} {a : Option Addr} {len : Nat} {bs : List Int} (h : Row w a len bs) : Row w.drew a len bs := h.below ((Below.refl _ _).drew)
/-- what is stored of a piece, as a plain function -/
def pk14 (bs : List Int) (limit : Nat) : List Int × Bool := if 8192 < (pck bs limit).1.length then (bs, false) else pck bs limit
def PkP (w : World) (a0 : Option Addr) (r : List Int × Bool) (e : Ending) (w' : World) : Prop := ∃ a n c, e = .returned (.tuple #[.slice a n c, .bool r.2]) ∧ Byte w' a n c r.1 ∧ w.grownBy w' none ∧ (a = a0 ∨ ∀ b o, a = some ⟨b, o, none⟩ → w.heap.size ≤ b)
theorem ppack14_any (a : Option Addr) (len cap : Nat) (bs : List Int) (limit : Nat) (w : World) (B : Byte w a len cap bs) (hl : len ≤ 1048576) (hq : (enc bs).length ≤ 65536) :
  Calls Try.prog 24 #[.slice a len cap, .float .f64 limit] w (PkP w a (pk14 bs limit)) := by
 have hP := pack_any a len cap bs limit w B hl hq
 unfold pk14
 generalize pck bs limit = r at hP ⊢
 obtain ⟨rb, rk⟩ := r
 by_cases h : 8192 < rb.length
 ·rw [if_pos h]
  go_enter Try.func24, Try.ntmps24
  go_wp2_with fail
  refine hP.mono ?_
  rintro e w1 ⟨a1, n1, c1, rfl, B1, g1, nw1⟩
  have HNW : Hid _ := nw1
  clear nw1
  have hn : n1 = rb.length := B1.row.len_eq.symm
  have hni : (8192 : Int) < (n1 : Int) := by omega
  have HG : Hid _ := And.intro (B.grown g1) g1
  clear hP B1 hn B g1
  go_wp2
  go_returns
  exact ⟨_, _, _, rfl, HG.out.1, HG.out.2, .inl rfl⟩
 ·rw [if_neg h]
  go_enter Try.func24, Try.ntmps24
  go_wp2_with fail
  refine hP.mono ?_
  rintro e w1 ⟨a1, n1, c1, rfl, B1, g1, nw1⟩
  have HNW : Hid _ := nw1
  clear nw1
  have hn : n1 = rb.length := B1.row.len_eq.symm
  have hni : ¬ (8192 : Int) < (n1 : Int) := by omega
  have HG : Hid _ := And.intro B1 g1
  clear hP B1 hn B g1
  go_wp2
  go_returns
  exact ⟨_, _, _, rfl, HG.out.1, HG.out.2, .inr HNW.out⟩
theorem chg_grown14 {w W W' : World} {p : Nat} {v v' : Value} (hg : w.grownBy W none) (hp : w.heap.size ≤ p) (k : Chg W W' p v v') (hv : ∀ j, j < w.heap.size → some j ≠ v.ownBlock) : w.grownBy W' none :=
 ⟨k.os.trans hg.os, k.tape.trans hg.tape, k.output.trans hg.output, Nat.le_trans hg.size k.size, fun j hj _ => by
  rw [k.block j (Nat.lt_of_lt_of_le hj hg.size) (by omega) (hv j hj)]; exact hg.block j hj (by simp)⟩
theorem winv_ne14 {w W : World} {p : Nat} {v : Value} {bs : List Int} {most e : Int} (h : WInv W p v bs most e) (hp : w.heap.size ≤ p) : ∀ j, j < w.heap.size → some j ≠ v.ownBlock := fun j hj e' => by
 have := (h.own.lt j e'.symm).1
 omega
/-- the bytes ahead of what a chunk stores -/
def hdb (c : Ck) : List Int := sto c.pl 2 ++ sto (if c.pk then c.st else c.st + 32768) 2 ++ sto (c.cr : Int) 4
theorem hdb_len (c : Ck) : (hdb c).length = 8 := by unfold hdb; simp [sto_length]
theorem hdb_byt (c : Ck) : Byt (hdb c) := ((sto_byt _ _).append (sto_byt _ _)).append (sto_byt _ _)
theorem ckE2 {n : Int} (h0 : 0 ≤ n) (h1 : n < 65536) : ckE n ((2 : Nat) : Int) = 0 := by
 unfold ckE
 rw [if_pos (by decide), if_neg (by simp [lg]; omega)]
theorem ckE4 {n : Int} (h0 : 0 ≤ n) (h1 : n < 4294967296) : ckE n ((4 : Nat) : Int) = 0 := by
 unfold ckE
 rw [if_pos (by decide), if_neg (by simp [lg]; omega)]
theorem Bx.chg14 {W W' : World} {p g : Nat} {v v' : Value} {T : TypeId} {cs : List Value} (h : Bx W g T cs) (k : Chg W W' p v v') (h1 : g ≠ p) (h2 : some g ≠ v.ownBlock) : Bx W' g T cs := ⟨(k.block g h.lt h1 h2).trans h.blk⟩
set_option maxHeartbeats 2000000 in
theorem phead14_t (at_ : Int) (pl st : Nat) (cr : Nat) (w : World) (h1 : pl ≤ 8192) (h2 : st ≤ 8192) (h3 : cr < 4294967296) :
  Calls Try.prog 25 #[.agg #[.int .i64 at_, .int .i64 (pl : Int), .int .i64 (st : Int), .bool true, .int .u32 (cr : Int)]] w fun e w' => ∃ g, e = .returned (.slice (some ⟨g, 0, none⟩) 8 8) ∧ Blk w' g (bv (hdb ⟨at_, pl, st, true, cr⟩)) ∧ w.heap.size ≤ g ∧ w.grownBy w' none := by
 have hdbe : hdb ⟨at_, pl, st, true, cr⟩ = sto (pl : Int) 2 ++ sto (st : Int) 2 ++ sto (cr : Int) 4 := rfl
 have HLEN : Hid ((sto (pl : Int) 2 ++ sto (st : Int) 2 ++ sto (cr : Int) 4).length = 8) := hdb_len ⟨at_, pl, st, true, cr⟩
 rw [hdbe]
 clear hdbe
 have B0 := Bx.new w 39 [.int .i64 at_, .int .i64 (pl : Int), .int .i64 (st : Int), .bool true, .int .u32 (cr : Int)]
 have G0 := World.grownBy_alloc w (.cells #[.int .i64 at_, .int .i64 (pl : Int), .int .i64 (st : Int), .bool true, .int .u32 (cr : Int)] 39) none
 have hN := newwriter_any 8 (w.alloc (.cells #[.int .i64 at_, .int .i64 (pl : Int), .int .i64 (st : Int), .bool true, .int .u32 (cr : Int)] 39))
 have HC : Hid _ := And.intro (ckE2 (n := (pl : Int)) (by omega) (by omega)) (And.intro (ckE2 (n := (st : Int)) (by omega) (by omega)) (ckE4 (n := (cr : Int)) (by omega) (by omega)))
 have u1 : IntKind.u64.wrap (pl : Int) = (pl : Int) := u64_wrap_in _ (by omega) (by omega)
 have u2 : IntKind.u64.wrap (st : Int) = (st : Int) := u64_wrap_in _ (by omega) (by omega)
 have u3 : IntKind.u64.wrap (cr : Int) = (cr : Int) := u64_wrap_in _ (by omega) (by omega)
 have hsz : (w.alloc (.cells #[.int .i64 at_, .int .i64 (pl : Int), .int .i64 (st : Int), .bool true, .int .u32 (cr : Int)] 39)).heap.size = w.heap.size + 1 := by simp
 rw [hsz] at hN
 go_enter Try.func25, Try.ntmps25
 go_wp2_with fail
 refine hN.mono ?_
 rintro e w1 ⟨rfl, I1, g1⟩
 rw [if_neg (by decide)] at I1
 have B1 := B0.kept g1
 have G1 : Hid _ := grown_trans G0 g1
 obtain ⟨d0, d1, d2, d3, d4⟩ := ckx B1
 have hn1 := wnum_ok (w.heap.size + 1) _ [] 8 (pl : Int) 2 w1 I1 HC.out.1 (by decide) (by decide) (by decide) (by decide)
 have N1 : Hid _ := winv_ne14 (w := w) I1 (Nat.le_succ _)
 have NB1 : some w.heap.size ≠ (Value.slice none 0 0).ownBlock := by simp [Value.ownBlock]
 clear hN g1 B0 G0 hsz I1
 go_wp2_with fail
 refine hn1.mono ?_
 rintro e w2 ⟨v2, rfl, I2, k2⟩
 have B2 := B1.chg14 k2 (by omega) NB1
 have G2 : Hid _ := chg_grown14 G1.out (Nat.le_succ _) k2 N1.out
 obtain ⟨d0, d1, d2, d3, d4⟩ := ckx B2
 have hn2 := wnum_ok (w.heap.size + 1) _ _ 8 (st : Int) 2 w2 I2 HC.out.2.1 (by decide) (by decide) (by simp [sto_length]) (by simp [sto_length])
 have N2 : Hid _ := winv_ne14 (w := w) I2 (Nat.le_succ _)
 have NB2 : some w.heap.size ≠ v2.ownBlock := fun e => by have := (I2.own.lt _ e.symm).1; omega
 clear hn1 k2 B1 G1 N1 NB1 I2
 go_wp2_with fail
 refine hn2.mono ?_
 rintro e w3 ⟨v3, rfl, I3, k3⟩
 have B3 := B2.chg14 k3 (by omega) NB2
 have G3 : Hid _ := chg_grown14 G2.out (Nat.le_succ _) k3 N2.out
 obtain ⟨d0, d1, d2, d3, d4⟩ := ckx B3
 have hn3 := wnum_ok (w.heap.size + 1) _ _ 8 (cr : Int) 4 w3 I3 HC.out.2.2 (by decide) (by decide) (by simp [sto_length]) (by simp [sto_length])
 have N3 : Hid _ := winv_ne14 (w := w) I3 (Nat.le_succ _)
 clear hn2 k3 B2 G2 N2 NB2 I3
 go_wp2_with fail
 refine hn3.mono ?_
 rintro e w4 ⟨v4, rfl, I4, k4⟩
 have G4 : Hid _ := chg_grown14 G3.out (Nat.le_succ _) k4 N3.out
 rw [List.nil_append] at I4
 have hd := wdone_ok (w.heap.size + 1) _ _ 8 w4 I4 (by rw [HLEN.out]; decide)
 rw [HLEN.out] at hd
 clear hn3 k4 B3 G3 N3 I4
 go_wp2_with fail
 refine hd.mono ?_
 rintro e w5 ⟨rfl, b5, g5⟩
 have HF : Hid _ := And.intro b5 (grown_trans G4.out g5)
 have hsz4 : w.heap.size ≤ w4.heap.size := G4.out.size
 clear hd b5 g5 G4
 go_wp2
 go_ret
 exact ⟨_, rfl, HF.out.1, hsz4, HF.out.2⟩
set_option maxHeartbeats 2000000 in
theorem phead14_f (at_ : Int) (pl st : Nat) (cr : Nat) (w : World) (h1 : pl ≤ 8192) (h2 : st ≤ 8192) (h3 : cr < 4294967296) :
  Calls Try.prog 25 #[.agg #[.int .i64 at_, .int .i64 (pl : Int), .int .i64 (st : Int), .bool false, .int .u32 (cr : Int)]] w fun e w' => ∃ g, e = .returned (.slice (some ⟨g, 0, none⟩) 8 8) ∧ Blk w' g (bv (hdb ⟨at_, pl, st, false, cr⟩)) ∧ w.heap.size ≤ g ∧ w.grownBy w' none := by
 have hdbe : hdb ⟨at_, pl, st, false, cr⟩ = sto (pl : Int) 2 ++ sto ((st : Int) + 32768) 2 ++ sto (cr : Int) 4 := rfl
 have HLEN : Hid ((sto (pl : Int) 2 ++ sto ((st : Int) + 32768) 2 ++ sto (cr : Int) 4).length = 8) := hdb_len ⟨at_, pl, st, false, cr⟩
 rw [hdbe]
 clear hdbe
 have B0 := Bx.new w 39 [.int .i64 at_, .int .i64 (pl : Int), .int .i64 (st : Int), .bool false, .int .u32 (cr : Int)]
 have G0 := World.grownBy_alloc w (.cells #[.int .i64 at_, .int .i64 (pl : Int), .int .i64 (st : Int), .bool false, .int .u32 (cr : Int)] 39) none
 have hN := newwriter_any 8 (w.alloc (.cells #[.int .i64 at_, .int .i64 (pl : Int), .int .i64 (st : Int), .bool false, .int .u32 (cr : Int)] 39))
 have HC : Hid _ := And.intro (ckE2 (n := (pl : Int)) (by omega) (by omega)) (And.intro (ckE2 (n := ((st : Int) + 32768)) (by omega) (by omega)) (ckE4 (n := (cr : Int)) (by omega) (by omega)))
 have u1 : IntKind.u64.wrap (pl : Int) = (pl : Int) := u64_wrap_in _ (by omega) (by omega)
 have u2 : IntKind.u64.wrap ((st : Int) + 32768) = ((st : Int) + 32768) := u64_wrap_in _ (by omega) (by omega)
 have u3 : IntKind.u64.wrap (cr : Int) = (cr : Int) := u64_wrap_in _ (by omega) (by omega)
 have hsz : (w.alloc (.cells #[.int .i64 at_, .int .i64 (pl : Int), .int .i64 (st : Int), .bool false, .int .u32 (cr : Int)] 39)).heap.size = w.heap.size + 1 := by simp
 rw [hsz] at hN
 go_enter Try.func25, Try.ntmps25
 go_wp2_with fail
 refine hN.mono ?_
 rintro e w1 ⟨rfl, I1, g1⟩
 rw [if_neg (by decide)] at I1
 have B1 := B0.kept g1
 have G1 : Hid _ := grown_trans G0 g1
 obtain ⟨d0, d1, d2, d3, d4⟩ := ckx B1
 have hn1 := wnum_ok (w.heap.size + 1) _ [] 8 (pl : Int) 2 w1 I1 HC.out.1 (by decide) (by decide) (by decide) (by decide)
 have N1 : Hid _ := winv_ne14 (w := w) I1 (Nat.le_succ _)
 have NB1 : some w.heap.size ≠ (Value.slice none 0 0).ownBlock := by simp [Value.ownBlock]
 clear hN g1 B0 G0 hsz I1
 go_wp2_with fail
 refine hn1.mono ?_
 rintro e w2 ⟨v2, rfl, I2, k2⟩
 have B2 := B1.chg14 k2 (by omega) NB1
 have G2 : Hid _ := chg_grown14 G1.out (Nat.le_succ _) k2 N1.out
 obtain ⟨d0, d1, d2, d3, d4⟩ := ckx B2
 have hn2 := wnum_ok (w.heap.size + 1) _ _ 8 ((st : Int) + 32768) 2 w2 I2 HC.out.2.1 (by decide) (by decide) (by simp [sto_length]) (by simp [sto_length])
 have N2 : Hid _ := winv_ne14 (w := w) I2 (Nat.le_succ _)
 have NB2 : some w.heap.size ≠ v2.ownBlock := fun e => by have := (I2.own.lt _ e.symm).1; omega
 clear hn1 k2 B1 G1 N1 NB1 I2
 go_wp2_with fail
 refine hn2.mono ?_
 rintro e w3 ⟨v3, rfl, I3, k3⟩
 have B3 := B2.chg14 k3 (by omega) NB2
 have G3 : Hid _ := chg_grown14 G2.out (Nat.le_succ _) k3 N2.out
 obtain ⟨d0, d1, d2, d3, d4⟩ := ckx B3
 have hn3 := wnum_ok (w.heap.size + 1) _ _ 8 (cr : Int) 4 w3 I3 HC.out.2.2 (by decide) (by decide) (by simp [sto_length]) (by simp [sto_length])
 have N3 : Hid _ := winv_ne14 (w := w) I3 (Nat.le_succ _)
 clear hn2 k3 B2 G2 N2 NB2 I3
 go_wp2_with fail
 refine hn3.mono ?_
 rintro e w4 ⟨v4, rfl, I4, k4⟩
 have G4 : Hid _ := chg_grown14 G3.out (Nat.le_succ _) k4 N3.out
 rw [List.nil_append] at I4
 have hd := wdone_ok (w.heap.size + 1) _ _ 8 w4 I4 (by rw [HLEN.out]; decide)
 rw [HLEN.out] at hd
 clear hn3 k4 B3 G3 N3 I4
 go_wp2_with fail
 refine hd.mono ?_
 rintro e w5 ⟨rfl, b5, g5⟩
 have HF : Hid _ := And.intro b5 (grown_trans G4.out g5)
 have hsz4 : w.heap.size ≤ w4.heap.size := G4.out.size
 clear hd b5 g5 G4
 go_wp2
 go_ret
 exact ⟨_, rfl, HF.out.1, hsz4, HF.out.2⟩
theorem phead14_any (at_ : Int) (pl st : Nat) (pk : Bool) (cr : Nat) (w : World) (h1 : pl ≤ 8192) (h2 : st ≤ 8192) (h3 : cr < 4294967296) :
  Calls Try.prog 25 #[.agg #[.int .i64 at_, .int .i64 (pl : Int), .int .i64 (st : Int), .bool pk, .int .u32 (cr : Int)]] w fun e w' => ∃ g, e = .returned (.slice (some ⟨g, 0, none⟩) 8 8) ∧ Blk w' g (bv (hdb ⟨at_, pl, st, pk, cr⟩)) ∧ w.heap.size ≤ g ∧ w.grownBy w' none := by
 cases pk
 ·exact phead14_f at_ pl st cr w h1 h2 h3
 ·exact phead14_t at_ pl st cr w h1 h2 h3
end Go.Proofs.Ytkkigpobhagnfaa
