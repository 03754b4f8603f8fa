/- The program's parts, as landed: an iterator that goes through pieces and hands on what leads somewhere. -/
import Derived.Test.YthidnmncekfgaaaNGF
namespace Go.Proofs.Ythidnmncekfgaaa
open Go.RowKit Go.Shelf
set_option maxRecDepth 100000
set_option linter.unusedSimpArgs false
set_option linter.unusedVariables false
attribute [local go_sem] Oper.semAt_some

/-- the texts that are kept -/
def kps (l : List ByteArray) : List ByteArray := l.filter fun x => kept x.toList
theorem kps_snoc (l : List ByteArray) (x : ByteArray) : kps (l ++ [x]) = kps l ++ (if kept x.toList = true then [x] else []) := by
  unfold kps
  rw [List.filter_append]
  cases h : kept x.toList <;> simp [h]
theorem kps_txs (l : List Tx) : kps (txs l) = txs (l.filter kept) := by
  unfold kps txs
  rw [List.filter_map]
  congr 1
  apply List.filter_congr
  intro x _
  simp [Function.comp, tx_tl]
theorem kps_le (l : List ByteArray) : (kps l).length ≤ l.length := List.length_filter_le _ _
theorem kps_prefix {a b : List ByteArray} (h : a <+: b) : kps a <+: kps b := by
  obtain ⟨r, rfl⟩ := h
  exact ⟨kps r, by unfold kps; rw [List.filter_append]⟩
theorem kpt_b {Bn : Nat} {s : ByteArray} {w : World} (h : Bn < w.heap.size) (W : World) (l : Nat) (o o' : Obj) (hl : w.heap.size ≤ l) (ho : W.heap[l]? = some o) (hc : o.isCells = false) : Kpt Bn s W (W.putObj l o') := fun hb =>
  cell_kept hb (grownBy_putObj' W l o') (fun r e => by cases e; exact ⟨o, ho, hc⟩)
theorem cell_same {W W' : World} {B : Nat} (h : W'.heap[B]? = W.heap[B]?) (o : Nat) : W'.cell? ⟨B, o, none⟩ = W.cell? ⟨B, o, none⟩ := by
  unfold World.cell?
  rw [h]
theorem boxed_same {W W' : World} {B : Nat} {t : TypeId} {v : Value} (h : W'.heap[B]? = W.heap[B]?) (b : Boxed W B t v) : Boxed W' B t v := h.trans b
/-- what parts' variables hold between two rounds -/
structure PI (lo yb m l : Nat) (J : Nat → List ByteArray → World → Prop) (pre : List ByteArray) (W : World) : Prop where
  b : Boxed W yb 31 (.func (.yield l) #[] #[])
  j : J m (kps pre) W
  sz : m ≤ W.heap.size
theorem pi_own {lo yb m l B : Nat} {J : Nat → List ByteArray → World → Prop} (h : ∀ m, OwnFrom lo (J m)) (hB : lo ≤ B) : OwnFrom B (PI lo yb m l J) := by
  rintro pre X Y row ⟨h0, h1, h2⟩ hgr hrow
  refine ⟨h0.kept hgr (fun e => ?_), own_up (h m) hB _ X Y row h1 hgr hrow, Nat.le_trans h2 hgr.size⟩
  obtain ⟨o, ho, hc⟩ := (hrow _ e.symm).2
  rw [show X.heap[_]? = _ from h0] at ho; cases ho; cases hc
set_option maxRecDepth 100000 in
set_option maxHeartbeats 4000000 in
theorem parts1_in (l Bn : Nat) (s : ByteArray) (hs : s.size ≤ 1000000) (J : Nat → List ByteArray → World → Prop) (Jx : List ByteArray → World → Prop) (W : World) (hJo : ∀ m, OwnFrom W.heap.size (J m)) (hJxo : OwnFrom W.heap.size Jx)
    (hY : ∀ d' m pre x W1, W.heap.size ≤ m → m ≤ W1.heap.size → J m pre W1 → pre.length < (pcs s).length → YieldAt Fence.wide d' Try.prog l #[.string x] W1 fun e W' =>
      KeepsFrom W.heap.size W1 W' ∧ ((e = .returned (.bool true) ∧ J m (pre ++ [x]) W' ∧ KeptO W.heap.size m W1 W') ∨ (e = .returned (.bool false) ∧ Jx (pre ++ [x]) W')))
    (h0 : ∀ m, W.heap.size ≤ m → J m [] W) (hBn : W.cell? ⟨Bn, 0, none⟩ = some (.string s)) :
    CallsIn Fence.wide 4 Try.prog 28 #[.func (.yield l) #[] #[], .pointer (some ⟨Bn, 0, none⟩)] W fun e W' => (∃ v, e = .returned v) ∧
      ((∃ m ys, ys = kps (pcs s) ∧ J m ys W') ∨ (∃ pre, pre <+: kps (pcs s) ∧ Jx pre W')) := by
  refine callsIn_of_wp_marks Try.func28 rfl trivial ?_ rfl
  simp only [Try.ntmps28, List.size_toArray, List.length_cons, List.length_nil, Nat.reduceAdd, Nat.reduceSub, Array.replicate_succ, Array.replicate_zero, List.push_toArray, List.append_toArray, List.nil_append, List.cons_append]
  have hBl : Bn < W.heap.size := by
    rcases Nat.lt_or_ge Bn W.heap.size with h | h
    · exact h
    · simp [World.cell?, Array.getElem?_eq_none h] at hBn
  have hBn2 : (W.alloc (.cells #[.func (.yield l) #[] #[]] 31)).cell? ⟨Bn, 0, none⟩ = some (.string s) := (((Below.refl _ W).alloc (Nat.le_refl _) _).cell (p := ⟨Bn, 0, none⟩) hBl).trans hBn
  gi_wp2_with (refine ⟨trivial, ?_⟩; gi_at_call 29; refine (pieces_in Fence.wide 3 trivial rfl _ _).mono ?_; rintro e w' ⟨rfl, rfl⟩)
  have b0 := Boxed.new W 31 (.func (.yield l) #[] #[])
  have b1 := Boxed.new (W.alloc (.cells #[.func (.yield l) #[] #[]] 31)) 9 (.string s)
  rw [World.size_alloc] at b1
  have hB0 : Below W.heap.size W ((W.alloc (.cells #[.func (.yield l) #[] #[]] 31)).alloc (.cells #[.string s] 9)) := ((Below.refl _ W).alloc (Nat.le_refl _) _).alloc (by simp) _
  have hJ0 : ∀ m, W.heap.size ≤ m → J m [] ((W.alloc (.cells #[.func (.yield l) #[] #[]] 31)).alloc (.cells #[.string s] 9)) := fun m hm => (hJo m).alloc _ ((hJo m).alloc _ (h0 m hm))
  have b0' := b0.alloc (.cells #[.string s] 9)
  have hsz : ((W.alloc (.cells #[.func (.yield l) #[] #[]] 31)).alloc (.cells #[.string s] 9)).heap.size = W.heap.size + 2 := by simp
  obtain ⟨W2, hW2⟩ : ∃ W2, (W.alloc (.cells #[.func (.yield l) #[] #[]] 31)).alloc (.cells #[.string s] 9) = W2 := ⟨_, rfl⟩
  rw [hW2] at b1 hB0 hJ0 b0' hsz ⊢
  clear b0 hBn2 hW2 h0
  refine wpIn_rangeFunc_ownG rfl (by decide) (gf := 33) (lb := #[.pointer (some ⟨W.heap.size + 1, 0, none⟩)]) rfl trivial (enters_of Try.func33 (by kernel_rfl) rfl)
    (pieces_stops Fence.wide 3 trivial rfl (by decide) (W.heap.size + 1) s hs W2 (by omega) b1.cell) (fun h k hb => k (h hb)) (fun W l o o' hl ho hc _ => kpt_b (by omega) W l o o' hl ho hc) (Below.refl _ _) (fun _ => rfl)
    (PI W.heap.size W.heap.size W2.heap.size l J) (fun c pre W' => c = .ret ∧ Jx (kps pre) W') (pi_own hJo (by omega)) (fun c => OwnFrom.and (ownFrom_pure _ _) (fun s A B row h hg hr => hJxo _ A B row h hg (fun r e => ⟨by have := (hr r e).1; omega, (hr r e).2⟩))) ⟨b0', hJ0 _ (by omega), Nat.le_refl _⟩
    (fun x => { tmps := #[.func (.yield l) #[] #[], .pointer (some ⟨Bn, 0, none⟩), .pointer (some ⟨W.heap.size, 0, none⟩), .string x, .string s, .func (.func 33) #[] #[.pointer (some ⟨W.heap.size + 1, 0, none⟩)], .string x, undef, undef, undef, undef, undef, undef, undef, undef, undef, undef, undef, undef], defers := [] }) ?assign ?body ?done ?stop
  case assign =>
    intro l x W K hK
    gi_wp2
    exact hK
  case body =>
    rintro l2 pre x W3 ⟨hb, hj, hsz3⟩ hlt9
    have hc := hb.cell
    have hks := kps_snoc pre x
    have hkx := keptx (x := x) rfl
    cases hke : kept x.toList with
    | true =>
      rw [hke] at hkx
      rw [if_pos hke] at hks
      have hx1 : (x.toList == []) = false := by cases h : (x.toList == []) <;> simp [h] at hkx ⊢
      have hx2 : (x.toList == [46]) = false := by cases h : (x.toList == [46]) <;> simp [h] at hkx ⊢
      obtain ⟨fn, tmps, assign, body, hy, hR⟩ := hY 1 W2.heap.size (kps pre) x W3 (by omega) hsz3 hj (Nat.lt_of_le_of_lt (kps_le _) hlt9)
      have HK : Hid _ := hks
      clear hkx hks hke
      gi_wp2
      refine (round_depth _ hR).mono ?_
      rintro e W4 ⟨hkf, (⟨rfl, hj4, hko⟩ | ⟨rfl, hjx⟩)⟩
      · gi_wp2
        refine ⟨keepsFrom_up hkf (by omega), fun h => (cell_same (hko (W.heap.size + 1) (by omega) (by omega)) 0).trans h, boxed_same (hko W.heap.size (Nat.le_refl _) (by omega)) hb, ?_, Nat.le_trans hsz3 hkf.size⟩
        rw [HK.out]; exact hj4
      · gi_wp2
        refine ⟨keepsFrom_up hkf (by omega), rfl, ?_⟩
        rw [HK.out]; exact hjx
    | false =>
      rw [hke] at hkx
      rw [if_neg (by rw [hke]; decide), List.append_nil] at hks
      have HP : Hid (PI W.heap.size W.heap.size W2.heap.size l J (pre ++ [x]) W3) := ⟨hb, by rw [hks]; exact hj, hsz3⟩
      clear hks hke
      cases hx1 : (x.toList == []) with
      | true =>
        clear hkx
        gi_wp2
        refine ⟨fun _ h => (by cases h), ?_⟩
        gi_wp2
        exact ⟨KeepsFrom.refl _ _, fun h => h, HP.out⟩
      | false =>
        have hx2 : (x.toList == [46]) = true := by cases h : (x.toList == [46]) <;> simp [hx1, h] at hkx ⊢
        clear hkx
        gi_wp2
        refine ⟨fun _ h => (by cases h), ?_⟩
        gi_wp2
        exact ⟨KeepsFrom.refl _ _, fun h => h, HP.out⟩
  case done =>
    rintro D ys W3 hD rfl ⟨hb, hj, hsz3⟩ hK
    gi_wp2
    refine ⟨by simp, .inl ⟨_, _, rfl, run_takeDeferred hK, ?_⟩⟩
    exact ⟨_, results_none rfl _ _ _, ⟨_, rfl⟩, .inl ⟨W2.heap.size, _, rfl, (hJo _).putObj _ hj (by omega) hK rfl⟩⟩
  case stop =>
    rintro D c pre W3 hD hpre ⟨rfl, hjx⟩ hK
    gi_wp2
    refine ⟨by simp, .inl ⟨_, _, rfl, run_takeDeferred hK, ?_⟩⟩
    exact ⟨_, results_none rfl _ _ _, ⟨_, rfl⟩, .inr ⟨_, kps_prefix hpre, hJxo.putObj _ hjx (by omega) hK rfl⟩⟩
theorem parts_in (d : Nat) (s : ByteArray) (w : World) :
    CallsIn Fence.wide d Try.prog 21 #[.string s] w fun e w' => e = .returned (.func (.func 28) #[] #[.pointer (some ⟨w.heap.size, 0, none⟩)]) ∧ w' = w.alloc (.cells #[.string s] 9) := by
  refine callsIn_of_wp Try.func21 rfl trivial ?_ rfl
  simp only [Try.ntmps21, List.size_toArray, List.length_cons, List.length_nil, Nat.reduceAdd, Nat.reduceSub, Array.replicate_succ, Array.replicate_zero, List.push_toArray, List.append_toArray, List.nil_append, List.cons_append]
  gi_wp2
  go_ret
  exact ⟨rfl, rfl⟩
theorem parts_stops (Bn : Nat) (s : ByteArray) (hs : s.size ≤ 1000000) (w : World) (hBn : Bn < w.heap.size) (hc : w.cell? ⟨Bn, 0, none⟩ = some (.string s)) :
    SeqO 4 Try.prog 28 #[.pointer (some ⟨Bn, 0, none⟩)] (fun ys => ys = kps (pcs s)) (fun pre => pre <+: kps (pcs s)) (pcs s).length w := fun l J Jx W hW hJo hJxo hY h0 =>
  parts1_in l Bn s hs J Jx W hJo hJxo hY h0 ((hW.cell (p := ⟨Bn, 0, none⟩) hBn).trans hc)
end Go.Proofs.Ythidnmncekfgaaa
