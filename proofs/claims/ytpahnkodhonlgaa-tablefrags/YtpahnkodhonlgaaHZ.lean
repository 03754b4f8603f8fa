/- 'append(x, make([]byte, n)...)' on a row of the call's own: so many zeros more. -/
import Derived.Test.YtpahnkodhonlgaaHD
namespace Go.Proofs.Ytpahnkodhonlgaa
open Go.RowKit
set_option maxRecDepth 100000
set_option linter.unusedSimpArgs false
set_option linter.unusedVariables false

theorem zeroCells8 (m : Nat) : Builtin.zeroCells (Value.int .u8 0).cells m = (List.replicate m (Value.int .u8 0)).toArray := by
  apply Array.ext
  · simp [size_zeroCells, Value.cells]
  · intro i h1 h2
    simp [Builtin.zeroCells, Value.cells, Nat.mod_one]

/-- so many zero bytes, as cells -/
def zs (m : Nat) : List Value := List.replicate m (Value.int .u8 0)
theorem zs_length (m : Nat) : (zs m).length = m := List.length_replicate
theorem zs_one (m : Nat) : ∀ v ∈ zs m, v.oneCell' = true := by intro v hv; rw [(List.mem_replicate.1 hv).2]; rfl
theorem zeroCells8' (m : Nat) : Builtin.zeroCells (Value.int .u8 0).cells m = (zs m).toArray := zeroCells8 m

section
variable {P : Program} (w : World)

theorem run_zeros_room (t k ty : TypeId) (i : TypeInfo) (ht : P.underlying t = some (.slice 5)) (hk : P.underlying k = some (.int .i64)) (hi : P.info? 5 = some i) (hz : i.zero = some (.int .u8 0)) (hs : i.size = 1) (hb : i.bytes = 1)
    (g n cap m : Nat) (cur : Array Value) (hg : w.heap[g]? = some (.cells cur 5 (0, 0))) (hm : m ≤ 140737488355328) (hroom : n + m ≤ cap) (hc : cur.size = cap) :
    (Builtin.append_ #[t, k] ty #[.slice (some ⟨g, 0, none⟩) n cap, .int .i64 m]).run P w =
      .ok (.slice (some ⟨g, 0, none⟩) (n + m) cap) (w.setRow g (cur.toList.take n ++ (zs m ++ cur.toList.drop (n + m))).toArray) := by
  have wl : IntKind.i64.wrap (m : Int) = m := by rw [IntKind.wrap_i64]; omega
  have n1 : ¬ (m : Int) < 0 := by omega
  have n2 : ¬ (281474976710656 < (m : Int)) := by omega
  have hst := run_storeCells_at P g n 5 (zs m) 0 cur w hg (by rw [zs_length]; omega) (zs_one m)
  simp only [Nat.add_zero, zs_length, List.append_assoc] at hst
  by_cases h0 : m = 0
  · subst h0
    have hr' : n ≤ cap := hroom
    have e : zs 0 = [] := rfl
    rw [e] at hst ⊢
    simp only [List.nil_append, Nat.add_zero] at hst ⊢
    simp [Builtin.append_, run_underlying ht, run_underlying hk, sizeOf, typeInfo, hi, hs, hb, asInt, asIntOf, IntKind.wrap_i64, hr', Addr.add_lit, hst]
  · simp [Builtin.append_, run_underlying ht, run_underlying hk, sizeOf, typeInfo, zeroValue, hi, hz, hs, hb, asInt, asIntOf, wl, n1, n2, h0, hroom, zeroCells8', Addr.add_lit, hst]

theorem run_zeros_grow (t k ty : TypeId) (i : TypeInfo) (ht : P.underlying t = some (.slice 5)) (hk : P.underlying k = some (.int .i64)) (hi : P.info? 5 = some i) (hz : i.zero = some (.int .u8 0)) (hs : i.size = 1) (hb : i.bytes = 1)
    (b : Addr) (n cap m : Nat) (olds : List Value) (hlo : olds.length = n) (holds : ∀ j v, olds[j]? = some v → w.cell? (b.add j) = some v) (hsum : n + m ≤ 140737488355328) (hroom : cap < n + m) (h0 : ¬ m = 0) :
    (Builtin.append_ #[t, k] ty #[.slice (some b) n cap, .int .i64 m]).run P w =
      .ok (.slice (some ⟨w.heap.size, 0, none⟩) (n + m) (grownCap w (n + m) cap 5)) (w.drew.alloc (.cells (olds ++ (zs m ++ zs (grownCap w (n + m) cap 5 - (n + m)))).toArray 5)) := by
  have wl : IntKind.i64.wrap (m : Int) = m := by rw [IntKind.wrap_i64]; omega
  have n1 : ¬ (m : Int) < 0 := by omega
  have n2 : ¬ (281474976710656 < (m : Int)) := by omega
  have hn : ¬ (n + m ≤ cap) := by omega
  have h63' : ¬ (9223372036854775807 < ((n : Int) + (m : Int))) := by omega
  have h48 := growslice_fits (bytes := 1) hroom (by omega)
  have h48' : ¬ (281474976710656 < Builtin.nextslicecap (n + m) cap) := by omega
  have hfo := run_firstCells_some (P := P) w.drew 1 n b n cap olds (by omega) (by simpa using holds)
  simp [Builtin.append_, run_underlying ht, run_underlying hk, sizeOf, typeInfo, zeroValue, hi, hz, hs, hb, asInt, asIntOf, wl, n1, n2, h0, hn, h63', h48', Question.forced, hfo, newRow, grownCap, zeroCells8']

theorem run_zeros_nil (t k ty : TypeId) (i : TypeInfo) (ht : P.underlying t = some (.slice 5)) (hk : P.underlying k = some (.int .i64)) (hi : P.info? 5 = some i) (hz : i.zero = some (.int .u8 0)) (hs : i.size = 1) (hb : i.bytes = 1)
    (m : Nat) (hsum : m ≤ 140737488355328) (h0 : ¬ m = 0) :
    (Builtin.append_ #[t, k] ty #[.slice none 0 0, .int .i64 m]).run P w =
      .ok (.slice (some ⟨w.heap.size, 0, none⟩) m (grownCap w m 0 5)) (w.drew.alloc (.cells (zs m ++ zs (grownCap w m 0 5 - m)).toArray 5)) := by
  have wl : IntKind.i64.wrap (m : Int) = m := by rw [IntKind.wrap_i64]; omega
  have n1 : ¬ (m : Int) < 0 := by omega
  have n2 : ¬ (281474976710656 < (m : Int)) := by omega
  have h63' : ¬ (9223372036854775807 < (m : Int)) := by omega
  have h48' : ¬ (281474976710656 < Builtin.nextslicecap m 0) := by rw [nextslicecap_zero (by omega)]; omega
  simp [Builtin.append_, run_underlying ht, run_underlying hk, sizeOf, typeInfo, zeroValue, hi, hz, hs, hb, asInt, asIntOf, wl, n1, n2, h0, h63', h48', Question.forced, run_firstCells_none, newRow, grownCap, zeroCells8']

theorem run_zeros_nil0 (t k ty : TypeId) (i : TypeInfo) (ht : P.underlying t = some (.slice 5)) (hk : P.underlying k = some (.int .i64)) (hi : P.info? 5 = some i) (hb : i.bytes = 1) :
    (Builtin.append_ #[t, k] ty #[.slice none 0 0, .int .i64 0]).run P w = .ok (.slice none 0 0) w := by
  simp [Builtin.append_, run_underlying ht, run_underlying hk, sizeOf, typeInfo, hi, hb, asInt, asIntOf, IntKind.wrap_i64]

/-- the law -/
theorem run_zeros (base : Nat) (t k ty : TypeId) (i : TypeInfo) (ht : P.underlying t = some (.slice 5)) (hk : P.underlying k = some (.int .i64)) (hi : P.info? 5 = some i) (hz : i.zero = some (.int .u8 0)) (hs : i.size = 1) (hb : i.bytes = 1)
    (v : Value) (n : Nat) (xs : List Value) (hown : w.ownsRow base 5 1 v n xs) (m : Nat) (hsum : n + m ≤ 140737488355328) (hbase : base ≤ w.heap.size) :
    ∃ v' w', (Builtin.append_ #[t, k] ty #[v, .int .i64 m]).run P w = .ok v' w' ∧ w'.ownsRow base 5 1 v' (n + m) (xs ++ zs m) ∧ w.grownBy w' v.ownBlock ∧ (v'.ownBlock = v.ownBlock ∨ v'.ownBlock = some w.heap.size) := by
  obtain ⟨h1, h2⟩ := hown
  have hlen : (xs ++ zs m).length = (n + m) * 1 := by rw [List.length_append, h1, zs_length]; omega
  rcases h2 with ⟨rfl, rfl⟩ | ⟨g, cap, cur, rfl, hbg, hg, hnc, hcm, hcs, htake⟩
  · obtain rfl : xs = [] := List.eq_nil_of_length_eq_zero (by simpa using h1)
    by_cases h0 : m = 0
    · subst h0
      exact ⟨_, _, run_zeros_nil0 w t k ty i ht hk hi hb, World.ownsRow_nil _ _ _ _, World.grownBy.refl _ _, Or.inl rfl⟩
    · refine ⟨_, _, run_zeros_nil w t k ty i ht hk hi hz hs hb m (by omega) h0, ?_, ⟨rfl, rfl, rfl, by simp, fun j hj _ => Below.heap_alloc w.drew _ j hj⟩, Or.inr rfl⟩
      have hge := grownCap_ge w m 0 5
      have hcm := grownCap_le_maxLen w m 0 5 (by unfold maxLen; omega)
      simp only [Nat.zero_add, List.nil_append] at hlen ⊢
      refine ⟨hlen, .inr ⟨w.heap.size, _, _, rfl, hbase, heap_alloc_new w.drew _, hge, hcm, ?_, ?_⟩⟩
      · simp [zs_length]; omega
      · simp only [Nat.mul_one]; rw [List.take_append_of_le_length (by rw [zs_length]; exact Nat.le_refl _), List.take_of_length_le (by rw [zs_length]; exact Nat.le_refl _)]
  · simp only [Nat.mul_one] at hcs htake h1
    by_cases hroom : n + m ≤ cap
    · refine ⟨_, _, run_zeros_room w t k ty i ht hk hi hz hs hb g n cap m cur hg (by omega) hroom hcs, ?_, ⟨rfl, rfl, rfl, by simp [World.setRow], fun j _ hj => setRow_other w g j _ (fun e => hj (by simp [Value.ownBlock, e]))⟩, Or.inl rfl⟩
      refine ⟨hlen, .inr ⟨g, cap, _, rfl, hbg, setRow_heap w g cur _ 5 _ hg, hroom, hcm, ?_, ?_⟩⟩
      · simp [zs_length]; omega
      · rw [htake, Nat.mul_one, ← List.append_assoc, List.take_append_of_le_length (by simp [zs_length, h1]), List.take_of_length_le (by simp [zs_length, h1])]
    · have h0 : ¬ m = 0 := by omega
      have holds : ∀ j u, xs[j]? = some u → w.cell? ((⟨g, 0, none⟩ : Addr).add j) = some u := World.ownsRow.cells (base := base) (e := 5) (size := 1) (v := .slice (some ⟨g, 0, none⟩) n cap) (n := n) ⟨by omega, .inr ⟨g, cap, cur, rfl, hbg, hg, hnc, hcm, by omega, by simpa using htake⟩⟩ (g := g) rfl
      refine ⟨_, _, run_zeros_grow w t k ty i ht hk hi hz hs hb ⟨g, 0, none⟩ n cap m xs h1 holds hsum (by omega) h0, ?_, ⟨rfl, rfl, rfl, by simp, fun j hj _ => Below.heap_alloc w.drew _ j hj⟩, Or.inr rfl⟩
      have hge := grownCap_ge w (n + m) cap 5
      have hcm2 := grownCap_le_maxLen w (n + m) cap 5 (by unfold maxLen; omega)
      refine ⟨hlen, .inr ⟨w.heap.size, _, _, rfl, hbase, heap_alloc_new w.drew _, hge, hcm2, ?_, ?_⟩⟩
      · simp [zs_length, h1]; omega
      · simp only [Nat.mul_one]; rw [← List.append_assoc, List.take_append_of_le_length (by simp [zs_length, h1]), List.take_of_length_le (by simp [zs_length, h1])]

theorem wpList_zeros {ops : Array Oper} {rest : List Oper} {o : Oper} {a : Act} {Q : Exit → Act → World → Prop} (hgd : o.guard = none) (s x : Operand) (t k : TypeId)
    (ho : o.op = .call { callee := .builtin .append, args := #[s, x], argTypes := #[t, k] })
    (base : Nat) (i : TypeInfo) (ht : P.underlying t = some (.slice 5)) (hk : P.underlying k = some (.int .i64)) (hi : P.info? 5 = some i) (hz : i.zero = some (.int .u8 0)) (hsize : i.size = 1) (hby : i.bytes = 1)
    (v : Value) (n : Nat) (xs : List Value) (hs : a.eval s = v) (hown : w.ownsRow base 5 1 v n xs) (m : Nat) (hx : a.eval x = .int .i64 m) (hsum : n + m ≤ 140737488355328) (hbase : base ≤ w.heap.size)
    (h : ∀ v' w', w'.ownsRow base 5 1 v' (n + m) (xs ++ zs m) → w.grownBy w' v.ownBlock → (v'.ownBlock = v.ownBlock ∨ v'.ownBlock = some w.heap.size) → wpList P ops Q rest (a.put o.dst v') w') : wpList P ops Q (o :: rest) a w := by
  refine wpList_plain hgd fun K hK => ?_
  obtain ⟨v', w', hr, h2, h3, h4⟩ := run_zeros (P := P) w base t k o.type i ht hk hi hz hsize hby v n xs hown m hsum hbase
  unfold Oper.wp execOp
  simp only [ho, resolve, invoke, builtin, Sem.run_bind, Sem.run_pure, Result.andThen_ok, List.map_toArray, List.map_cons, List.map_nil, hs, hx, hr]
  exact hK _ _ (h v' w' h2 h3 h4)
end
end Go.Proofs.Ytpahnkodhonlgaa
