/- The program's pieces, as landed: an iterator over what stands between. -/
import Derived.Test.YtlehncfehoelbaaGreatDoorCq08
namespace Go.Proofs.YtlehncfehoelbaaGreatDoor
open Go.RowKit Go.Shelf
set_option maxRecDepth 100000
set_option linter.unusedSimpArgs false
set_option linter.unusedVariables false
attribute [local go_sem] Oper.semAt_some

def pcs (s : ByteArray) : List ByteArray := txs (cutS s.toList)
def Kpt (Bn : Nat) (s : ByteArray) (W W' : World) : Prop := W.cell? ⟨Bn, 0, none⟩ = some (.string s) → W'.cell? ⟨Bn, 0, none⟩ = some (.string s)
def Cv (L : Tx) (i f : Nat) (ps : List Tx) : Prop := i ≤ L.length ∧ f ≤ i ∧ cutS (L.take i) = ps ++ [(L.drop f).take (i - f)]
theorem cv_byte {s : ByteArray} {i f : Nat} {ps : List Tx} (h : Cv s.toList i f ps) (hi : i < s.size) (hne : s[i] ≠ 47) : Cv s.toList (i + 1) f ps := by
 obtain ⟨h1, h2, h3⟩ := h
 refine ⟨by rw [tl_len]; omega, by omega, ?_⟩
 rw [take_get hi, cutS_byte hne h3, show i + 1 - f = i - f + 1 by omega]
 congr 2
 have hlen : i - f < (s.toList.drop f).length := by rw [List.length_drop, tl_len]; omega
 rw [List.take_succ_eq_append_getElem hlen, List.getElem_drop]
 congr 2
 rw [← tl_get hi]
 congr 1
 omega
theorem cv_slash {s : ByteArray} {i f : Nat} {ps : List Tx} (h : Cv s.toList i f ps) (hi : i < s.size) (he : s[i] = 47) : Cv s.toList (i + 1) (i + 1) (ps ++ [(s.toList.drop f).take (i - f)]) ∧ ∃ r, cutS s.toList = ps ++ [(s.toList.drop f).take (i - f)] ++ r ∧ r ≠ [] := by
 obtain ⟨h1, h2, h3⟩ := h
 refine ⟨⟨by rw [tl_len]; omega, Nat.le_refl _, ?_⟩, cutS (s.toList.drop (i + 1)), ?_, cutS_ne _⟩
 ·rw [take_get hi, he, cutS_slash h3, Nat.sub_self, List.take_zero]
 ·have e2 : s.toList = s.toList.take i ++ 47 :: s.toList.drop (i + 1) := by
   conv => lhs; rw [← List.take_append_drop i s.toList, drop_get hi, he]
  have e3 := congrArg cutS e2
  rw [cutS_cat, h3] at e3
  exact e3
theorem cv_end {s : ByteArray} {f : Nat} {ps : List Tx} (h : Cv s.toList s.size f ps) : cutS s.toList = ps ++ [(s.toList.drop f).take (s.size - f)] := by
 obtain ⟨h1, h2, h3⟩ := h
 rw [List.take_of_length_le (by rw [tl_len]; omega)] at h3
 exact h3
set_option maxRecDepth 100000 in
set_option maxHeartbeats 2000000 in
theorem pieces1_in (F : Fence) (n : Nat) (hf : F.fn 153) (hro : F.round = none) (hn : 1 ≤ n) (l Bn : Nat) (s : ByteArray) (hs : s.size ≤ 1000000) (J Jx : List ByteArray → World → Prop)
  (hY : ∀ pre x W, J pre W → pre.length < (pcs s).length → YieldAt F (n - 1) Tryz.prog l #[.string x] W fun e W' =>
   (e = .returned (.bool true) ∧ J (pre ++ [x]) W' ∧ Kpt Bn s W W') ∨ (e = .returned (.bool false) ∧ Jx (pre ++ [x]) W'))
  (W : World) (hBn : W.cell? ⟨Bn, 0, none⟩ = some (.string s)) (h0 : J [] W) :
  CallsIn F n Tryz.prog 153 #[.func (.yield l) #[] #[], .pointer (some ⟨Bn, 0, none⟩)] W fun e W' => (∃ v, e = .returned v) ∧
   ((∃ ys, ys = pcs s ∧ J ys W') ∨ (∃ pre, pre <+: pcs s ∧ Jx pre W')) := by
 refine callsIn_of_wp Tryz.func153 rfl hf ?_ hro
 simp only [Tryz.ntmps153, List.size_toArray, List.length_cons, List.length_nil, Nat.reduceAdd, Nat.reduceSub, Array.replicate_succ, Array.replicate_zero, List.push_toArray, List.append_toArray, List.nil_append, List.cons_append]
 gi_wp2
 gi_loopw [3, 7] (fun vf vi wr => ∃ (i f : Nat) (ps : List Tx), vi = .int .i64 i ∧ vf = .int .i64 f ∧ i ≤ s.size ∧ Hid (Cv s.toList i f ps) ∧ wr.cell? ⟨Bn, 0, none⟩ = some (.string s) ∧ J (txs ps) wr) (fun _ vi _ => s.size - (intOf vi).toNat)
 case atStart => exact ⟨0, 0, [], rfl, rfl, by omega, ⟨Nat.zero_le _, Nat.le_refl _, by simp [cutS]⟩, hBn, h0⟩
 case round =>
  obtain ⟨i, f, ps, rfl, rfl, hi1, HC, hb, hJ⟩ := hrel
  have hfi : f ≤ i := HC.out.2.1
  by_cases hlt : i < s.size
  ·have hlti : (i : Int) < s.size := by omega
   have hfii : (f : Int) ≤ (i : Int) := by omega
   by_cases hne : s[i] = 47
   ·obtain ⟨hn2, r, hr, _⟩ := cv_slash HC.out hlt hne
    have hbb : ((s[i].toNat : Int) == 47) = true := by rw [hne]; rfl
    have hex := extract_tx s f i
    generalize (s.toList.drop f).take (i - f) = q at *
    have hlen : (txs ps).length < (pcs s).length := by unfold pcs txs; rw [hr]; simp
    have hpre : txs ps ++ [tx q] <+: pcs s := ⟨txs r, by unfold pcs; rw [hr]; unfold txs; simp⟩
    have HN : Hid _ := xai hn2 hpre
    obtain ⟨fn, tmps, assign, body, hy, hR⟩ := hY (txs ps) (tx q) wr hJ hlen
    clear hn2 hpre hr HC hlen hne
    gi_wp2
    refine hR.mono ?_
    rintro e W3 (⟨rfl, hJ3, hk3⟩ | ⟨rfl, hJx3⟩)
    ·have hb3 : W3.cell? ⟨Bn, 0, none⟩ = some (.string s) := hk3 hb
     gi_wp2
     go_roundw
     case rel => exact ⟨i + 1, i + 1, ps ++ [q], by go_num, by go_num, by omega, HN.out.1, hb3, by unfold txs at hJ3 ⊢; rw [List.map_append]; exact hJ3⟩
     case measure => simp [intOf]; omega
    ·gi_wp2
     refine bodyPost_ret (results_none rfl _ _ _) rfl ?_
     exact ⟨⟨_, rfl⟩, .inr ⟨txs ps ++ [tx q], HN.out.2, hJx3⟩⟩
   ·have hbb : ((s[i].toNat : Int) == 47) = false := by
     rw [beq_eq_false_iff_ne]
     intro e
     exact hne (by apply UInt8.toNat_inj.1; show s[i].toNat = 47; omega)
    have HN : Hid _ := cv_byte HC.out hlt hne
    clear hne HC
    gi_wp2
    go_roundw
    case rel => exact ⟨i + 1, f, ps, by go_num, rfl, by omega, HN, hb, hJ⟩
    case measure => simp [intOf]; omega
  ·obtain rfl : i = s.size := by omega
   have hlti : ¬ (s.size : Int) < s.size := by omega
   have hfii : (f : Int) ≤ (s.size : Int) := by omega
   have hr := cv_end HC.out
   have hex := extract_tx s f s.size
   generalize (s.toList.drop f).take (s.size - f) = q at *
   have hlen : (txs ps).length < (pcs s).length := by unfold pcs txs; rw [hr]; simp
   have hps : txs ps ++ [tx q] = pcs s := by unfold pcs; rw [hr]; unfold txs; simp
   have HN : Hid _ := hps
   obtain ⟨fn, tmps, assign, body, hy, hR⟩ := hY (txs ps) (tx q) wr hJ hlen
   clear hr HC hlen hps
   gi_wp2
   refine hR.mono ?_
   rintro e W3 (⟨rfl, hJ3, hk3⟩ | ⟨rfl, hJx3⟩)
   ·gi_wp2
    go_end0
    have hJ2 : J (pcs s) W3 := by rw [← HN.out]; exact hJ3
    exact ⟨⟨_, rfl⟩, .inl (by first | exact hJ2 | exact ⟨_, rfl, hJ2⟩)⟩
   ·gi_wp2
    go_end0
    exact ⟨⟨_, rfl⟩, .inr ⟨txs ps ++ [tx q], by rw [HN.out]; exact List.prefix_refl _, hJx3⟩⟩
theorem pieces_in (F : Fence) (n : Nat) (hf : F.fn 129) (hro : F.round = none) (s : ByteArray) (w : World) :
  CallsIn F n Tryz.prog 129 #[.string s] w fun e w' => e = .returned (.func (.func 153) #[] #[.pointer (some ⟨w.heap.size, 0, none⟩)]) ∧ w' = w.alloc (.cells #[.string s] 9) := by
 refine callsIn_of_wp Tryz.func129 rfl hf ?_ hro
 simp only [Tryz.ntmps129, List.size_toArray, List.length_cons, List.length_nil, Nat.reduceAdd, Nat.reduceSub, Array.replicate_succ, Array.replicate_zero, List.push_toArray, List.append_toArray, List.nil_append, List.cons_append]
 gi_wp2
 go_ret
 exact ⟨rfl, rfl⟩
theorem pieces_stops (F : Fence) (n : Nat) (hf : F.fn 153) (hro : F.round = none) (hn : 1 ≤ n) (Bn : Nat) (s : ByteArray) (hs : s.size ≤ 1000000) (w : World) (hBn : Bn < w.heap.size) (hc : w.cell? ⟨Bn, 0, none⟩ = some (.string s)) :
  SeqStopsK F n Tryz.prog 153 #[.pointer (some ⟨Bn, 0, none⟩)] (fun x : ByteArray => #[Value.string x]) (Kpt Bn s) (fun ys => ys = pcs s) (fun pre => pre <+: pcs s) (pcs s).length w := fun l J Jx W hW _ _ hY h0 =>
 pieces1_in F n hf hro hn l Bn s hs J Jx hY W ((hW.cell (p := ⟨Bn, 0, none⟩) hBn).trans hc) h0
attribute [local go_sem] Oper.semAt_some

def kps (l : List ByteArray) : List ByteArray := l.filter fun x => kept x.toList
theorem kps_snoc (l : List ByteArray) (x : ByteArray) : kps (l ++ [x]) = kps l ++ (if kept x.toList = true then [x] else []) := by
 unfold kps
 rw [List.filter_append]
 cases h : kept x.toList <;> simp [h]
theorem kps_txs (l : List Tx) : kps (txs l) = txs (l.filter kept) := by
 unfold kps txs
 rw [List.filter_map]
 congr 1
 apply List.filter_congr
 intro x _
 simp [Function.comp, tx_tl]
theorem kps_le (l : List ByteArray) : (kps l).length ≤ l.length := List.length_filter_le _ _
theorem kps_prefix {a b : List ByteArray} (h : a <+: b) : kps a <+: kps b := by
 obtain ⟨r, rfl⟩ := h
 exact ⟨kps r, by unfold kps; rw [List.filter_append]⟩
theorem kpt_b {Bn : Nat} {s : ByteArray} {w : World} (h : Bn < w.heap.size) (W : World) (l : Nat) (o o' : Obj) (hl : w.heap.size ≤ l) (ho : W.heap[l]? = some o) (hc : o.isCells = false) : Kpt Bn s W (W.putObj l o') := fun hb =>
 cell_kept hb (grownBy_putObj' W l o') (fun r e => by cases e; exact ⟨o, ho, hc⟩)
theorem cell_same {W W' : World} {B : Nat} (h : W'.heap[B]? = W.heap[B]?) (o : Nat) : W'.cell? ⟨B, o, none⟩ = W.cell? ⟨B, o, none⟩ := by
 unfold World.cell?
 rw [h]
theorem boxed_same {W W' : World} {B : Nat} {t : TypeId} {v : Value} (h : W'.heap[B]? = W.heap[B]?) (b : Boxed W B t v) : Boxed W' B t v := h.trans b
structure PI (lo yb m l : Nat) (J : Nat → List ByteArray → World → Prop) (pre : List ByteArray) (W : World) : Prop where
 b : Boxed W yb 134 (.func (.yield l) #[] #[])
 j : J m (kps pre) W
 sz : m ≤ W.heap.size
theorem pi_own {lo yb m l B : Nat} {J : Nat → List ByteArray → World → Prop} (h : ∀ m, OwnFrom lo (J m)) (hB : lo ≤ B) : OwnFrom B (PI lo yb m l J) := by
 rintro pre X Y row ⟨h0, h1, h2⟩ hgr hrow
 refine ⟨h0.kept hgr (fun e => ?_), own_up (h m) hB _ X Y row h1 hgr hrow, Nat.le_trans h2 hgr.size⟩
 obtain ⟨o, ho, hc⟩ := (hrow _ e.symm).2
 rw [show X.heap[_]? = _ from h0] at ho; cases ho; cases hc
set_option maxRecDepth 100000 in
set_option maxHeartbeats 4000000 in
theorem parts1_in (l Bn : Nat) (s : ByteArray) (hs : s.size ≤ 1000000) (J : Nat → List ByteArray → World → Prop) (Jx : List ByteArray → World → Prop) (W : World) (hJo : ∀ m, OwnFrom W.heap.size (J m)) (hJxo : OwnFrom W.heap.size Jx)
  (hY : ∀ d' m pre x W1, W.heap.size ≤ m → m ≤ W1.heap.size → J m pre W1 → pre.length < (pcs s).length → YieldAt Fence.wide d' Tryz.prog l #[.string x] W1 fun e W' =>
   KeepsFrom W.heap.size W1 W' ∧ ((e = .returned (.bool true) ∧ J m (pre ++ [x]) W' ∧ KeptO W.heap.size m W1 W') ∨ (e = .returned (.bool false) ∧ Jx (pre ++ [x]) W')))
  (h0 : ∀ m, W.heap.size ≤ m → J m [] W) (hBn : W.cell? ⟨Bn, 0, none⟩ = some (.string s)) :
  CallsIn Fence.wide 4 Tryz.prog 128 #[.func (.yield l) #[] #[], .pointer (some ⟨Bn, 0, none⟩)] W fun e W' => (∃ v, e = .returned v) ∧
   ((∃ m ys, ys = kps (pcs s) ∧ J m ys W') ∨ (∃ pre, pre <+: kps (pcs s) ∧ Jx pre W')) := by
 refine callsIn_of_wp_marks Tryz.func128 rfl trivial ?_ rfl
 simp only [Tryz.ntmps128, List.size_toArray, List.length_cons, List.length_nil, Nat.reduceAdd, Nat.reduceSub, Array.replicate_succ, Array.replicate_zero, List.push_toArray, List.append_toArray, List.nil_append, List.cons_append]
 have hBl : Bn < W.heap.size := by
  rcases Nat.lt_or_ge Bn W.heap.size with h | h
  ·exact h
  ·simp [World.cell?, Array.getElem?_eq_none h] at hBn
 have hBn2 : (W.alloc (.cells #[.func (.yield l) #[] #[]] 134)).cell? ⟨Bn, 0, none⟩ = some (.string s) := (((Below.refl _ W).alloc (Nat.le_refl _) _).cell (p := ⟨Bn, 0, none⟩) hBl).trans hBn
 gi_wp2_with (refine ⟨trivial, ?_⟩; gi_at_call 129; refine (pieces_in Fence.wide 3 trivial rfl _ _).mono ?_; rintro e w' ⟨rfl, rfl⟩)
 have b0 := Boxed.new W 134 (.func (.yield l) #[] #[])
 have b1 := Boxed.new (W.alloc (.cells #[.func (.yield l) #[] #[]] 134)) 9 (.string s)
 rw [World.size_alloc] at b1
 have hB0 : Below W.heap.size W ((W.alloc (.cells #[.func (.yield l) #[] #[]] 134)).alloc (.cells #[.string s] 9)) := ((Below.refl _ W).alloc (Nat.le_refl _) _).alloc (by simp) _
 have hJ0 : ∀ m, W.heap.size ≤ m → J m [] ((W.alloc (.cells #[.func (.yield l) #[] #[]] 134)).alloc (.cells #[.string s] 9)) := fun m hm => (hJo m).alloc _ ((hJo m).alloc _ (h0 m hm))
 have b0' := b0.alloc (.cells #[.string s] 9)
 have hsz : ((W.alloc (.cells #[.func (.yield l) #[] #[]] 134)).alloc (.cells #[.string s] 9)).heap.size = W.heap.size + 2 := by simp
 obtain ⟨W2, hW2⟩ : ∃ W2, (W.alloc (.cells #[.func (.yield l) #[] #[]] 134)).alloc (.cells #[.string s] 9) = W2 := ⟨_, rfl⟩
 rw [hW2] at b1 hB0 hJ0 b0' hsz ⊢
 clear b0 hBn2 hW2 h0
 refine wpIn_rangeFunc_ownG rfl (by decide) (gf := 153) (lb := #[.pointer (some ⟨W.heap.size + 1, 0, none⟩)]) rfl trivial (enters_of Tryz.func153 (by kernel_rfl) rfl)
  (pieces_stops Fence.wide 3 trivial rfl (by decide) (W.heap.size + 1) s hs W2 (by omega) b1.cell) (fun h k hb => k (h hb)) (fun W l o o' hl ho hc _ => kpt_b (by omega) W l o o' hl ho hc) (Below.refl _ _) (fun _ => rfl)
  (PI W.heap.size W.heap.size W2.heap.size l J) (fun c pre W' => c = .ret ∧ Jx (kps pre) W') (pi_own hJo (by omega)) (fun c => OwnFrom.and (ownFrom_pure _ _) (fun s A B row h hg hr => hJxo _ A B row h hg (fun r e => ⟨by have := (hr r e).1; omega, (hr r e).2⟩))) ⟨b0', hJ0 _ (by omega), Nat.le_refl _⟩
  (fun x => { tmps := #[.func (.yield l) #[] #[], .pointer (some ⟨Bn, 0, none⟩), .pointer (some ⟨W.heap.size, 0, none⟩), .string x, .string s, .func (.func 153) #[] #[.pointer (some ⟨W.heap.size + 1, 0, none⟩)], .string x, undef, undef, undef, undef, undef, undef, undef, undef, undef, undef, undef, undef], defers := [] }) ?assign ?body ?done ?stop
 case assign =>
  intro l x W K hK
  gi_wp2
  exact hK
 case body =>
  rintro l2 pre x W3 ⟨hb, hj, hsz3⟩ hlt9
  have hc := hb.cell
  have hks := kps_snoc pre x
  have hkx := keptx (x := x) rfl
  cases hke : kept x.toList with
  | true =>
   rw [hke] at hkx
   rw [if_pos hke] at hks
   have hx1 : (x.toList == []) = false := by cases h : (x.toList == []) <;> simp [h] at hkx ⊢
   have hx2 : (x.toList == [46]) = false := by cases h : (x.toList == [46]) <;> simp [h] at hkx ⊢
   obtain ⟨fn, tmps, assign, body, hy, hR⟩ := hY 1 W2.heap.size (kps pre) x W3 (by omega) hsz3 hj (Nat.lt_of_le_of_lt (kps_le _) hlt9)
   have HK : Hid _ := hks
   clear hkx hks hke
   gi_wp2
   refine (round_depth _ hR).mono ?_
   rintro e W4 ⟨hkf, (⟨rfl, hj4, hko⟩ | ⟨rfl, hjx⟩)⟩
   ·gi_wp2
    refine ⟨keepsFrom_up hkf (by omega), fun h => (cell_same (hko (W.heap.size + 1) (by omega) (by omega)) 0).trans h, boxed_same (hko W.heap.size (Nat.le_refl _) (by omega)) hb, ?_, Nat.le_trans hsz3 hkf.size⟩
    rw [HK.out]; exact hj4
   ·gi_wp2
    refine ⟨keepsFrom_up hkf (by omega), rfl, ?_⟩
    rw [HK.out]; exact hjx
  | false =>
   rw [hke] at hkx
   rw [if_neg (by rw [hke]; decide), List.append_nil] at hks
   have HP : Hid (PI W.heap.size W.heap.size W2.heap.size l J (pre ++ [x]) W3) := ⟨hb, by rw [hks]; exact hj, hsz3⟩
   clear hks hke
   cases hx1 : (x.toList == []) with
   | true =>
    clear hkx
    gi_wp2
    refine ⟨fun _ h => (by cases h), ?_⟩
    gi_wp2
    exact ⟨KeepsFrom.refl _ _, fun h => h, HP.out⟩
   | false =>
    have hx2 : (x.toList == [46]) = true := by cases h : (x.toList == [46]) <;> simp [hx1, h] at hkx ⊢
    clear hkx
    gi_wp2
    refine ⟨fun _ h => (by cases h), ?_⟩
    gi_wp2
    exact ⟨KeepsFrom.refl _ _, fun h => h, HP.out⟩
 case done =>
  rintro D ys W3 hD rfl ⟨hb, hj, hsz3⟩ hK
  gi_wp2
  refine ⟨by simp, .inl ⟨_, _, rfl, run_takeDeferred hK, ?_⟩⟩
  exact ⟨_, results_none rfl _ _ _, ⟨_, rfl⟩, .inl ⟨W2.heap.size, _, rfl, (hJo _).putObj _ hj (by omega) hK rfl⟩⟩
 case stop =>
  rintro D c pre W3 hD hpre ⟨rfl, hjx⟩ hK
  gi_wp2
  refine ⟨by simp, .inl ⟨_, _, rfl, run_takeDeferred hK, ?_⟩⟩
  exact ⟨_, results_none rfl _ _ _, ⟨_, rfl⟩, .inr ⟨_, kps_prefix hpre, hJxo.putObj _ hjx (by omega) hK rfl⟩⟩
theorem parts_in (d : Nat) (s : ByteArray) (w : World) :
  CallsIn Fence.wide d Tryz.prog 111 #[.string s] w fun e w' => e = .returned (.func (.func 128) #[] #[.pointer (some ⟨w.heap.size, 0, none⟩)]) ∧ w' = w.alloc (.cells #[.string s] 9) := by
 refine callsIn_of_wp Tryz.func111 rfl trivial ?_ rfl
 simp only [Tryz.ntmps111, List.size_toArray, List.length_cons, List.length_nil, Nat.reduceAdd, Nat.reduceSub, Array.replicate_succ, Array.replicate_zero, List.push_toArray, List.append_toArray, List.nil_append, List.cons_append]
 gi_wp2
 go_ret
 exact ⟨rfl, rfl⟩
theorem parts_stops (Bn : Nat) (s : ByteArray) (hs : s.size ≤ 1000000) (w : World) (hBn : Bn < w.heap.size) (hc : w.cell? ⟨Bn, 0, none⟩ = some (.string s)) :
  SeqO 4 Tryz.prog 128 #[.pointer (some ⟨Bn, 0, none⟩)] (fun ys => ys = kps (pcs s)) (fun pre => pre <+: kps (pcs s)) (pcs s).length w := fun l J Jx W hW hJo hJxo hY h0 =>
 parts1_in l Bn s hs J Jx W hJo hJxo hY h0 ((hW.cell (p := ⟨Bn, 0, none⟩) hBn).trans hc)
attribute [local go_sem] Oper.semAt_some

theorem kps_pcs (s : ByteArray) : (kps (pcs s)).length = ((cutS s.toList).filter kept).length := by
 unfold pcs
 rw [kps_txs]
 simp [txs]
theorem long_kept {p : Tx} (h : longP p = true) : kept p = true := by
 unfold longP at h
 have h : 255 < p.length := by simpa using h
 unfold kept
 have h1 : (p == []) = false := by rw [beq_eq_false_iff_ne]; rintro rfl; simp at h
 have h2 : (p == [46]) = false := by rw [beq_eq_false_iff_ne]; rintro rfl; simp at h
 rw [h1, h2]; rfl
def lgs (l : List ByteArray) : Bool := l.any fun x => longP x.toList
theorem lgs_pcs (s : ByteArray) : lgs (kps (pcs s)) = (cutS s.toList).any longP := by
 unfold pcs lgs
 rw [kps_txs]
 unfold txs
 rw [List.any_map, List.any_filter]
 congr 1
 funext x
 simp only [Function.comp, tx_tl]
 cases h : longP x with
 | false => simp
 | true => rw [long_kept h]; rfl
structure SI (w : World) (g m : Nat) (pre : List ByteArray) (W : World) : Prop where
 b0 : Boxed W g 104 (.slice none 0 0)
 b1 : Boxed W (g + 1) 34 (.int .i64 0)
 b2 : ∃ v, Boxed W (g + 1 + 1) 104 v ∧ W.ownsRow m 9 1 v pre.length (sv pre)
 sh : lgs pre = false
 bl : Below w.heap.size w W
 lm : w.heap.size ≤ m
theorem si_own {w : World} {g m B : Nat} (hg : w.heap.size ≤ g) (hB : g ≤ B) : OwnFrom B (SI w g m) := by
 rintro pre X Y row ⟨h0, h1, ⟨v, h2, hr⟩, hs, hb, hlm⟩ hgr hrow
 have hne : ∀ {B : Nat} {t : TypeId} {u : Value}, Boxed X B t u → some B ≠ row := fun hB e => by
  obtain ⟨o, ho, hc⟩ := (hrow _ e.symm).2
  rw [show X.heap[_]? = _ from hB] at ho; cases ho; cases hc
 refine ⟨h0.kept hgr (hne h0), h1.kept hgr (hne h1), ⟨v, h2.kept hgr (hne h2), hr.kept hgr ?_⟩, hs, hb.grown hgr hb.size (fun k e => by have := (hrow k e).1; omega), hlm⟩
 rcases hr.2 with ⟨rfl, _⟩ | ⟨gg, cap, cur, rfl, _, hgb, _⟩
 ·exact .inl rfl
 ·refine .inr fun e => ?_
  obtain ⟨o, ho, hc⟩ := (hrow gg (by rw [← e]; rfl)).2
  rw [hgb] at ho; cases ho; cases hc
structure SX (w : World) (g : Nat) (c : Code) (pre : List ByteArray) (W : World) : Prop where
 c : c = .ret
 lg : lgs pre = true
 b0 : Boxed W g 104 (.slice none 0 0)
 b1 : Boxed W (g + 1) 34 (.int .i64 1)
 bl : Below w.heap.size w W
theorem sx_own {w : World} {g B : Nat} (hg : w.heap.size ≤ g) (hB : g ≤ B) (c : Code) : OwnFrom B (SX w g c) := by
 rintro pre X Y row ⟨hc, hl, h0, h1, hb⟩ hgr hrow
 have hne : ∀ {B : Nat} {t : TypeId} {u : Value}, Boxed X B t u → some B ≠ row := fun hB e => by
  obtain ⟨o, ho, hc⟩ := (hrow _ e.symm).2
  rw [show X.heap[_]? = _ from hB] at ho; cases ho; cases hc
 exact ⟨hc, hl, h0.kept hgr (hne h0), h1.kept hgr (hne h1), hb.grown hgr hb.size (fun k e => by have := (hrow k e).1; omega)⟩
theorem boxed_drewn {W : World} {B : Nat} {t : TypeId} {v : Value} (h : Boxed W B t v) : Boxed W.drew B t v := h
theorem below_others {X Y : World} (h : Below X.heap.size X Y) : KeepsOthers X Y := ⟨h.size, fun k o hk _ => (h.block k (Array.getElem?_eq_some_iff.1 hk).1).trans hk⟩
theorem wpIn_append {F : Fence} {n : Nat} {P : Program} {o : Oper} {a : Act} {w w' : World} {K : Act → World → Prop} {Q : Exit → Act → World → Prop} {s x : Operand} {t : TypeId} {v u v' : Value} (hop : o.op = .call { callee := .builtin .append, args := #[s, x], argTypes := #[t, t] })
  (hs : a.eval s = v) (hx : a.eval x = u) (hrun : (Builtin.append_ #[t, t] o.type #[v, u]).run P w = .ok v' w') (hK : K (a.put o.dst v') w') : Oper.wpIn F n P o a w K Q := by
 unfold Oper.wpIn
 refine ⟨by simp [Oper.about, hop, resolve, Target.leads, Sem.run_pure], ?_⟩
 rw [Oper.semAt_plain F _ _ (by rw [hop]; intro c hc'; cases hc')]
 simp [execOp, hop, resolve, invoke, builtin, hs, hx, hrun, Result.andThen]
 exact hK
theorem owns_below {W W' : World} {m t n : Nat} {v : Value} {xs : List Value} (hb : Below W.heap.size W W') (hr : W.ownsRow m t 1 v n xs) : W'.ownsRow m t 1 v n xs := by
 refine hr.kept (below_grown hb) ?_
 rcases hr.2 with ⟨rfl, _⟩ | ⟨gg, cap, cur, rfl, _, hgb, _⟩
 ·exact .inl rfl
 ·exact .inr fun e => by simp [Value.ownBlock] at e
theorem si_end {w W w5 w1 : World} {g m : Nat} {pre : List ByteArray} {x : ByteArray} {v v' : Value} (hgw : w.heap.size ≤ g) (hm1 : g + 4 + 2 ≤ m) (hm2 : m ≤ W.heap.size) (h0 : Boxed W g 104 (.slice none 0 0)) (h1 : Boxed W (g + 1) 34 (.int .i64 0))
  (h2 : Boxed W (g + 1 + 1) 104 v) (hr : W.ownsRow m 9 1 v pre.length (sv pre)) (hshx : lgs (pre ++ [x]) = false) (hbl : Below w.heap.size w W) (hb5 : Below W.heap.size W w5)
  (hown' : w1.ownsRow m 9 1 v' (pre.length + 1) (sv pre ++ [.string x])) (hgrow : (w5.alloc (.cells #[.string x] 9)).grownBy w1 v.ownBlock) :
  KeepsFrom (g + 4) W (w1.setCell ⟨g + 1 + 1, 0, none⟩ v') ∧ KeptO (g + 4 + 2) m W (w1.setCell ⟨g + 1 + 1, 0, none⟩ v') ∧ SI w g m (pre ++ [x]) (w1.setCell ⟨g + 1 + 1, 0, none⟩ v') := by
 have hob : ∀ j, some j = v.ownBlock → m ≤ j := fun j ej => by
  rcases hr.2 with ⟨rfl, _⟩ | ⟨gg, cap, cur, rfl, hb9, _, _⟩
  ·simp [Value.ownBlock] at ej
  ·obtain rfl : j = gg := by simpa [Value.ownBlock] using ej
   exact hb9
 have hr5 := owns_below hb5 hr
 have hblk : ∀ k, k < W.heap.size → some k ≠ v.ownBlock → w1.heap[k]? = W.heap[k]? := fun k hk hne => by
  rw [hgrow.block k (by have := hb5.size; simp; omega) hne, Below.heap_alloc _ _ _ (by have := hb5.size; omega), hb5.block k hk]
 have k0 : Boxed w1 g 104 (.slice none 0 0) := boxed_same (hblk g h0.lt (fun e => by have := hob _ e; omega)) h0
 have k1 : Boxed w1 (g + 1) 34 (.int .i64 0) := boxed_same (hblk _ h1.lt (fun e => by have := hob _ e; omega)) h1
 have k2 : Boxed w1 (g + 1 + 1) 104 v := boxed_same (hblk _ h2.lt (fun e => by have := hob _ e; omega)) h2
 refine ⟨KeepsOthers.from (((below_others hb5).trans ((KeepsOthers.alloc w5 _).trans (KeepsOthers.of_grownBy hgrow fun j o ej hj => ?_))).trans (KeepsOthers.setCell _ _ _)) _, fun k hk1 hk2 => ?_, k0.kept (grownBy_setCell' w1 (g + 1 + 1) _) (by simp; omega), k1.kept (grownBy_setCell' w1 (g + 1 + 1) _) (by simp), ⟨_, k2.set _, ?_⟩, hshx, ?_, by omega⟩
 ·rcases (hr5.alloc (.cells #[.string x] 9)).2 with ⟨rfl, _⟩ | ⟨gg, cap, cur, rfl, _, hgb, _⟩
  ·simp [Value.ownBlock] at ej
  ·obtain rfl : gg = j := by simpa [Value.ownBlock] using ej
   rw [hgb] at hj; cases hj; rfl
 ·have h := (grownBy_setCell' w1 (g + 1 + 1) v').block k (by have h3 := hgrow.size; have h4 := hb5.size; rw [World.size_alloc] at h3; omega) (by simp; omega)
  rw [h, hblk k (by omega) (fun e => by have := hob _ e; omega)]
 ·have e1 : (pre ++ [x]).length = pre.length + 1 := by simp
  have e2 : sv (pre ++ [x]) = sv pre ++ [.string x] := by unfold sv; simp
  rw [e1, e2]
  exact hown'.kept (grownBy_setCell' w1 (g + 1 + 1) _) (.inr (k2.not_row (by decide) hown').symm)
 ·have hbW : Below w.heap.size w w5 := hbl.trans (hb5.mono hbl.size)
  exact ((hbW.alloc hbW.size _).grown hgrow (by have := hbW.size; simp; omega) (fun j ej => by have := hob j ej.symm; omega)).setCell (p := ⟨g + 1 + 1, 0, none⟩) (by simp; omega) _
set_option maxRecDepth 100000 in
set_option maxHeartbeats 4000000 in
theorem psplit_main (s : ByteArray) (w : World) (hs : s.size ≤ 4096) (h0 : s.toList.any (· == 0) = false) : Calls Tryz.prog 85 #[.string s] w (SpPost w (sp2 s.toList)) := by
 refine (callsIn_wide (n := 5)).1 ?_
 obtain ⟨i9, hi, hz0, hz1, hz2⟩ := info_parts Tryz.info9
 have g1 : ¬ (4096 : Int) < s.size := by omega
 have hho := fun W => pholds_any s 0 W
 have e0 : hasB s.toList ((0 : Int).toNat.toUInt8) = false := h0
 rw [e0] at hho
 clear h0 e0
 refine callsIn_of_wp_marks Tryz.func85 rfl trivial ?_ rfl
 simp only [Tryz.ntmps85, List.size_toArray, List.length_cons, List.length_nil, Nat.reduceAdd, Nat.reduceSub, Array.replicate_succ, Array.replicate_zero, List.push_toArray, List.append_toArray, List.nil_append, List.cons_append]
 gi_wp2_with (refine ⟨trivial, ?_⟩; first | (gi_at_call 110; refine (callsIn_wide.2 (hho _)).mono ?_; rintro e w' ⟨rfl, rfl⟩) | (gi_at_call 111; refine (parts_in 4 _ _).mono ?_; rintro e w' ⟨rfl, rfl⟩))
 have b0 := Boxed.new w 104 (.slice none 0 0)
 have b1 := Boxed.new (w.alloc (.cells #[.slice none 0 0] 104)) 34 (.int .i64 0)
 have b2 := Boxed.new ((w.alloc (.cells #[.slice none 0 0] 104)).alloc (.cells #[.int .i64 0] 34)) 104 (.slice none 0 0)
 have b3 := Boxed.new (((w.alloc (.cells #[.slice none 0 0] 104)).alloc (.cells #[.int .i64 0] 34)).alloc (.cells #[.slice none 0 0] 104)) 9 (.string s)
 simp only [World.size_alloc] at b1 b2 b3
 have hB0 : Below w.heap.size w ((((w.alloc (.cells #[.slice none 0 0] 104)).alloc (.cells #[.int .i64 0] 34)).alloc (.cells #[.slice none 0 0] 104)).alloc (.cells #[.string s] 9)) := ((((Below.refl _ w).alloc (Nat.le_refl _) _).alloc (by simp) _).alloc (by simp; omega) _).alloc (by simp; omega) _
 have hsz : ((((w.alloc (.cells #[.slice none 0 0] 104)).alloc (.cells #[.int .i64 0] 34)).alloc (.cells #[.slice none 0 0] 104)).alloc (.cells #[.string s] 9)).heap.size = w.heap.size + 4 := by simp
 have hSI : ∀ m, w.heap.size ≤ m → SI w w.heap.size m [] ((((w.alloc (.cells #[.slice none 0 0] 104)).alloc (.cells #[.int .i64 0] 34)).alloc (.cells #[.slice none 0 0] 104)).alloc (.cells #[.string s] 9)) := fun m hm => ⟨((b0.alloc _).alloc _).alloc _, (b1.alloc _).alloc _, ⟨_, b2.alloc _, World.ownsRow_nil _ _ _ _⟩, rfl, hB0, hm⟩
 have hN : (pcs s).length ≤ 4097 := by unfold pcs txs; rw [List.length_map]; have := cutS_len s.toList; rw [tl_len] at this; omega
 generalize (((w.alloc (.cells #[.slice none 0 0] 104)).alloc (.cells #[.int .i64 0] 34)).alloc (.cells #[.slice none 0 0] 104)).alloc (.cells #[.string s] 9) = WL at *
 clear b0 b1 b2 hB0
 refine rangeO (gf := 128) (lb := #[.pointer (some ⟨w.heap.size + 1 + 1 + 1, 0, none⟩)]) rfl (enters_of Tryz.func128 (by kernel_rfl) rfl)
  (parts_stops (w.heap.size + 1 + 1 + 1) s (by omega) WL (by omega) b3.cell) (Below.refl _ _) rfl
  (SI w w.heap.size) (SX w w.heap.size) (fun m => si_own (Nat.le_refl _) (by omega)) (fun c => sx_own (Nat.le_refl _) (by omega) c) (fun m hm => hSI m (by omega))
  (fun x => { tmps := #[.string s, undef, .pointer (some ⟨w.heap.size, 0, none⟩), .pointer (some ⟨w.heap.size + 1, 0, none⟩), .pointer (some ⟨w.heap.size + 1 + 1, 0, none⟩), .string x, .bool false, .string s, .int .i64 s.size, .bool false, .bool false, .string s, .bool false, .string s, .func (.func 128) #[] #[.pointer (some ⟨w.heap.size + 1 + 1 + 1, 0, none⟩)], .string x, undef, undef, undef, undef, undef, undef, undef, undef, undef, undef, undef, undef], defers := [] }) ?assign ?body ?done ?stop
 case assign =>
  intro l d x W K hK
  gi_wp2
  exact hK
 case body =>
  rintro l d m pre x W hm1 hm2 ⟨h0, h1, ⟨v, h2, hr⟩, hsh, hbl, hlm⟩ hlt9
  have hc2 := h2.cell
  have hc0 := h0.cell
  have hc1 := h1.cell
  have hf0 := h0.frozen
  have hf1 := h1.frozen
  have hf2 := h2.frozen
  by_cases hlg : 255 < x.size
  ·have hlgi : (255 : Int) < x.size := by omega
   gi_wp2
   refine ⟨((KeepsOthers.setCell _ _ _).trans (KeepsOthers.setCell _ _ _)).from _, rfl, ?_, ?_, ?_, ?_⟩
   ·unfold lgs; rw [List.any_append, Bool.or_eq_true]; right; simp [longP]; rw [tl_len]; exact hlg
   ·exact (h0.set (.slice none 0 0)).kept (grownBy_setCell' _ (w.heap.size + 1) _) (by simp)
   ·exact (h1.kept (grownBy_setCell' W w.heap.size (.slice none 0 0)) (by simp)).set (.int .i64 1)
   ·exact (hbl.setCell (p := ⟨w.heap.size, 0, none⟩) (Nat.le_refl _) _).setCell (p := ⟨w.heap.size + 1, 0, none⟩) (by simp) _
  ·have hlgi : ¬ (255 : Int) < x.size := by omega
   have hshx : lgs (pre ++ [x]) = false := by unfold lgs at hsh ⊢; rw [List.any_append, hsh]; simp [longP]; rw [tl_len]; omega
   have hcd := (boxed_drewn h2).cell
   gi_wp2
   refine wpIn_region_any (by kernel_rfl) ?_
   change wpAnyIn _ _ _ _ _ _ _ _ _ (World.drew _)
   refine wpAnyIn_ready (rs := [0, 1]) (by kernel_rfl) (by simp) ?_
   refine AllReadyIn.cons rfl (fun K hK => ?_) (AllReadyIn.cons rfl (fun K hK => ?_) AllReadyIn.nil)
   ·skip
    go_simp
    refine hK _ _ ?_
    clear hK K
    refine wpAnyIn_ready (rs := [1]) (by kernel_rfl) (by simp) ?_
    refine AllReadyIn.cons rfl (fun K hK => ?_) AllReadyIn.nil
    go_simp
    refine hK _ _ ?_
    clear hK K
    refine wpAnyIn_ready (rs := [2]) (by kernel_rfl) (by simp) ?_
    refine AllReadyIn.cons rfl (fun K hK => ?_) AllReadyIn.nil
    go_simp
    refine ⟨trivial, (fun h => by cases h), ?_⟩
    gi_at_call 43
    refine (CallsIn.inRound l (callsIn_wide.2 (sclone_any x _ (by omega)))).mono ?_
    rintro e w5 ⟨rfl, hb⟩
    have hb5 : Below W.heap.size W w5 := ((Below.refl _ W).drew).trans hb
    have k5 : Boxed w5 (w.heap.size + 1 + 1) 104 v := boxed_same (hb5.block _ h2.lt) h2
    have hc5 := k5.cell
    have hc6 := (k5.alloc (.cells #[.string x] 9)).cell
    have hr5 : w5.ownsRow m 9 1 v pre.length (sv pre) := owns_below hb5 hr
    clear hb
    refine hK _ _ ?_
    clear hK K
    refine wpAnyIn_ready (rs := [3]) (by kernel_rfl) (by simp) ?_
    refine AllReadyIn.cons rfl (fun K hK => ?_) AllReadyIn.nil
    go_simp
    refine hK _ _ ?_
    clear hK K
    refine wpAnyIn_ready (rs := [4]) (by kernel_rfl) (by simp) ?_
    refine AllReadyIn.cons rfl (fun K hK => ?_) AllReadyIn.nil
    obtain ⟨v', w1, hrun, hown', hgrow, _⟩ := run_append_own (P := Tryz.prog) (w5.alloc (.cells #[.string x] 9)) m 104 104 9 i9 (.string ⟨#[]⟩) 1 16 Tryz.underlying104 hi hz0 hz1 hz2 rfl (by decide) v pre.length (sv pre) (hr5.alloc _) ⟨w5.heap.size, 0, none⟩ 1 1 [.string x] rfl (cell_one_new _ _ _) (by simp [Value.oneCell']) (by unfold maxLen; omega) (by omega) (by have := hb5.size; simp; omega)
    obtain ⟨g', cap', rfl⟩ := ownsRow_succ hown'
    have k1 : Boxed w1 (w.heap.size + 1 + 1) 104 v := (k5.alloc _).kept hgrow (k5.not_row (by decide) hr5)
    have hc7 := k1.cell
    have hf7 := k1.frozen
    rw [if_pos (by rfl)]
    refine wpIn_append (v := v) (u := .slice (some ⟨w5.heap.size, 0, none⟩) 1 1) rfl rfl rfl hrun (hK _ _ ?_)
    clear hK K hrun
    refine wpAnyIn_ready (rs := [5]) (by kernel_rfl) (by simp) ?_
    refine AllReadyIn.cons rfl (fun K hK => ?_) AllReadyIn.nil
    go_simp
    refine hK _ _ ?_
    clear hK K
    refine wpAnyIn_done (by kernel_rfl) ?_ _
    exact si_end (Nat.le_refl _) (by omega) hm2 h0 h1 h2 hr hshx hbl hb5 hown' hgrow
   ·skip
    go_simp
    refine hK _ _ ?_
    clear hK K
    refine wpAnyIn_ready (rs := [0, 2]) (by kernel_rfl) (by simp) ?_
    refine AllReadyIn.cons rfl (fun K hK => ?_) (AllReadyIn.cons rfl (fun K hK => ?_) AllReadyIn.nil)
    ·skip
     go_simp
     refine hK _ _ ?_
     clear hK K
     refine wpAnyIn_ready (rs := [2]) (by kernel_rfl) (by simp) ?_
     refine AllReadyIn.cons rfl (fun K hK => ?_) AllReadyIn.nil
     go_simp
     refine ⟨trivial, (fun h => by cases h), ?_⟩
     gi_at_call 43
     refine (CallsIn.inRound l (callsIn_wide.2 (sclone_any x _ (by omega)))).mono ?_
     rintro e w5 ⟨rfl, hb⟩
     have hb5 : Below W.heap.size W w5 := ((Below.refl _ W).drew).trans hb
     have k5 : Boxed w5 (w.heap.size + 1 + 1) 104 v := boxed_same (hb5.block _ h2.lt) h2
     have hc5 := k5.cell
     have hc6 := (k5.alloc (.cells #[.string x] 9)).cell
     have hr5 : w5.ownsRow m 9 1 v pre.length (sv pre) := owns_below hb5 hr
     clear hb
     refine hK _ _ ?_
     clear hK K
     refine wpAnyIn_ready (rs := [3]) (by kernel_rfl) (by simp) ?_
     refine AllReadyIn.cons rfl (fun K hK => ?_) AllReadyIn.nil
     go_simp
     refine hK _ _ ?_
     clear hK K
     refine wpAnyIn_ready (rs := [4]) (by kernel_rfl) (by simp) ?_
     refine AllReadyIn.cons rfl (fun K hK => ?_) AllReadyIn.nil
     obtain ⟨v', w1, hrun, hown', hgrow, _⟩ := run_append_own (P := Tryz.prog) (w5.alloc (.cells #[.string x] 9)) m 104 104 9 i9 (.string ⟨#[]⟩) 1 16 Tryz.underlying104 hi hz0 hz1 hz2 rfl (by decide) v pre.length (sv pre) (hr5.alloc _) ⟨w5.heap.size, 0, none⟩ 1 1 [.string x] rfl (cell_one_new _ _ _) (by simp [Value.oneCell']) (by unfold maxLen; omega) (by omega) (by have := hb5.size; simp; omega)
     obtain ⟨g', cap', rfl⟩ := ownsRow_succ hown'
     have k1 : Boxed w1 (w.heap.size + 1 + 1) 104 v := (k5.alloc _).kept hgrow (k5.not_row (by decide) hr5)
     have hc7 := k1.cell
     have hf7 := k1.frozen
     rw [if_pos (by rfl)]
     refine wpIn_append (v := v) (u := .slice (some ⟨w5.heap.size, 0, none⟩) 1 1) rfl rfl rfl hrun (hK _ _ ?_)
     clear hK K hrun
     refine wpAnyIn_ready (rs := [5]) (by kernel_rfl) (by simp) ?_
     refine AllReadyIn.cons rfl (fun K hK => ?_) AllReadyIn.nil
     go_simp
     refine hK _ _ ?_
     clear hK K
     refine wpAnyIn_done (by kernel_rfl) ?_ _
     exact si_end (Nat.le_refl _) (by omega) hm2 h0 h1 h2 hr hshx hbl hb5 hown' hgrow
    ·skip
     go_simp
     refine ⟨trivial, (fun h => by cases h), ?_⟩
     gi_at_call 43
     refine (CallsIn.inRound l (callsIn_wide.2 (sclone_any x _ (by omega)))).mono ?_
     rintro e w5 ⟨rfl, hb⟩
     have hb5 : Below W.heap.size W w5 := ((Below.refl _ W).drew).trans hb
     have k5 : Boxed w5 (w.heap.size + 1 + 1) 104 v := boxed_same (hb5.block _ h2.lt) h2
     have hc5 := k5.cell
     have hc6 := (k5.alloc (.cells #[.string x] 9)).cell
     have hr5 : w5.ownsRow m 9 1 v pre.length (sv pre) := owns_below hb5 hr
     clear hb
     refine hK _ _ ?_
     clear hK K
     refine wpAnyIn_ready (rs := [0, 3]) (by kernel_rfl) (by simp) ?_
     refine AllReadyIn.cons rfl (fun K hK => ?_) (AllReadyIn.cons rfl (fun K hK => ?_) AllReadyIn.nil)
     ·skip
      go_simp
      refine hK _ _ ?_
      clear hK K
      refine wpAnyIn_ready (rs := [3]) (by kernel_rfl) (by simp) ?_
      refine AllReadyIn.cons rfl (fun K hK => ?_) AllReadyIn.nil
      go_simp
      refine hK _ _ ?_
      clear hK K
      refine wpAnyIn_ready (rs := [4]) (by kernel_rfl) (by simp) ?_
      refine AllReadyIn.cons rfl (fun K hK => ?_) AllReadyIn.nil
      obtain ⟨v', w1, hrun, hown', hgrow, _⟩ := run_append_own (P := Tryz.prog) (w5.alloc (.cells #[.string x] 9)) m 104 104 9 i9 (.string ⟨#[]⟩) 1 16 Tryz.underlying104 hi hz0 hz1 hz2 rfl (by decide) v pre.length (sv pre) (hr5.alloc _) ⟨w5.heap.size, 0, none⟩ 1 1 [.string x] rfl (cell_one_new _ _ _) (by simp [Value.oneCell']) (by unfold maxLen; omega) (by omega) (by have := hb5.size; simp; omega)
      obtain ⟨g', cap', rfl⟩ := ownsRow_succ hown'
      have k1 : Boxed w1 (w.heap.size + 1 + 1) 104 v := (k5.alloc _).kept hgrow (k5.not_row (by decide) hr5)
      have hc7 := k1.cell
      have hf7 := k1.frozen
      rw [if_pos (by rfl)]
      refine wpIn_append (v := v) (u := .slice (some ⟨w5.heap.size, 0, none⟩) 1 1) rfl rfl rfl hrun (hK _ _ ?_)
      clear hK K hrun
      refine wpAnyIn_ready (rs := [5]) (by kernel_rfl) (by simp) ?_
      refine AllReadyIn.cons rfl (fun K hK => ?_) AllReadyIn.nil
      go_simp
      refine hK _ _ ?_
      clear hK K
      refine wpAnyIn_done (by kernel_rfl) ?_ _
      exact si_end (Nat.le_refl _) (by omega) hm2 h0 h1 h2 hr hshx hbl hb5 hown' hgrow
     ·skip
      go_simp
      refine hK _ _ ?_
      clear hK K
      refine wpAnyIn_ready (rs := [0]) (by kernel_rfl) (by simp) ?_
      refine AllReadyIn.cons rfl (fun K hK => ?_) AllReadyIn.nil
      go_simp
      refine hK _ _ ?_
      clear hK K
      refine wpAnyIn_ready (rs := [4]) (by kernel_rfl) (by simp) ?_
      refine AllReadyIn.cons rfl (fun K hK => ?_) AllReadyIn.nil
      obtain ⟨v', w1, hrun, hown', hgrow, _⟩ := run_append_own (P := Tryz.prog) (w5.alloc (.cells #[.string x] 9)) m 104 104 9 i9 (.string ⟨#[]⟩) 1 16 Tryz.underlying104 hi hz0 hz1 hz2 rfl (by decide) v pre.length (sv pre) (hr5.alloc _) ⟨w5.heap.size, 0, none⟩ 1 1 [.string x] rfl (cell_one_new _ _ _) (by simp [Value.oneCell']) (by unfold maxLen; omega) (by omega) (by have := hb5.size; simp; omega)
      obtain ⟨g', cap', rfl⟩ := ownsRow_succ hown'
      have k1 : Boxed w1 (w.heap.size + 1 + 1) 104 v := (k5.alloc _).kept hgrow (k5.not_row (by decide) hr5)
      have hc7 := k1.cell
      have hf7 := k1.frozen
      rw [if_pos (by rfl)]
      refine wpIn_append (v := v) (u := .slice (some ⟨w5.heap.size, 0, none⟩) 1 1) rfl rfl rfl hrun (hK _ _ ?_)
      clear hK K hrun
      refine wpAnyIn_ready (rs := [5]) (by kernel_rfl) (by simp) ?_
      refine AllReadyIn.cons rfl (fun K hK => ?_) AllReadyIn.nil
      go_simp
      refine hK _ _ ?_
      clear hK K
      refine wpAnyIn_done (by kernel_rfl) ?_ _
      exact si_end (Nat.le_refl _) (by omega) hm2 h0 h1 h2 hr hshx hbl hb5 hown' hgrow
 case done =>
  rintro D m ys W hD rfl ⟨h0, h1, ⟨v, h2, hr⟩, hsh, hbl, hlm⟩ hK
  have hc2 := h2.cell
  have hc0 := h0.cell
  have hc1 := h1.cell
  have hf0 := h0.frozen
  have hf1 := h1.frozen
  have hf2 := h2.frozen
  have hkl : (kps (pcs s)).length ≤ 4097 := Nat.le_trans (kps_le _) hN
  obtain ⟨a, cap, rfl⟩ : ∃ a cap, v = .slice a (kps (pcs s)).length cap := by
   rcases hr.2 with ⟨rfl, h⟩ | ⟨gg, cap, cur, rfl, _⟩
   ·exact ⟨none, 0, by rw [h]⟩
   ·exact ⟨_, _, rfl⟩
  by_cases hlg : 128 < (kps (pcs s)).length
  ·have hlgi : (128 : Int) < (kps (pcs s)).length := by omega
   gi_wp2
   have hK' := ((KeepsOthers.setCell W ⟨w.heap.size, 0, none⟩ (.slice none 0 0)).trans (KeepsOthers.setCell _ ⟨w.heap.size + 1, 0, none⟩ (.int .i64 3))).same D _ hK rfl
   have k0 := (h0.set (.slice none 0 0)).kept (grownBy_setCell' _ (w.heap.size + 1) (.int .i64 3)) (by simp)
   have k1 := (h1.kept (grownBy_setCell' W w.heap.size (.slice none 0 0)) (by simp)).set (.int .i64 3)
   have hB2 := (hbl.setCell (p := ⟨w.heap.size, 0, none⟩) (Nat.le_refl _) (.slice none 0 0)).setCell (p := ⟨w.heap.size + 1, 0, none⟩) (by simp) (.int .i64 3)
   refine ⟨by simp, .inl ⟨_, _, rfl, run_takeDeferred hK', ?_⟩⟩
   have c0 := cell_kept k0.cell (grownBy_putObj' _ D (.deferred none)) (fun r e => by cases e; exact ⟨_, hK', rfl⟩)
   have c1 := cell_kept k1.cell (grownBy_putObj' _ D (.deferred none)) (fun r e => by cases e; exact ⟨_, hK', rfl⟩)
   refine ⟨.tuple #[.slice none 0 0, .int .i64 3], by simp [results, Tryz.f85, go_sem, c0, c1], ?_⟩
   have HV : sp2 s.toList = ([], 3) := by
    unfold sp2
    rw [if_neg (by rw [← lgs_pcs, hsh]; decide), if_pos (by rw [kps_pcs] at hlg; exact hlg)]
   rw [HV]
   exact ⟨none, 0, 0, rfl, World.ownsRow_nil _ _ _ _, below_grown (hB2.trans (belowK_b (w := w) (Nat.le_refl _) _ D _ _ (by omega) hK' rfl rfl))⟩
  ·have hlgi : ¬ (128 : Int) < (kps (pcs s)).length := by omega
   gi_wp2
   have hK' := ((KeepsOthers.setCell W ⟨w.heap.size, 0, none⟩ (.slice a (kps (pcs s)).length cap)).trans (KeepsOthers.setCell _ ⟨w.heap.size + 1, 0, none⟩ (.int .i64 0))).same D _ hK rfl
   have k0 := (h0.set (.slice a (kps (pcs s)).length cap)).kept (grownBy_setCell' _ (w.heap.size + 1) (.int .i64 0)) (by simp)
   have k1 := (h1.kept (grownBy_setCell' W w.heap.size (.slice a (kps (pcs s)).length cap)) (by simp)).set (.int .i64 0)
   have hB2 := (hbl.setCell (p := ⟨w.heap.size, 0, none⟩) (Nat.le_refl _) (.slice a (kps (pcs s)).length cap)).setCell (p := ⟨w.heap.size + 1, 0, none⟩) (by simp) (.int .i64 0)
   have hr2 := ownsRow_putObj ((hr.kept (grownBy_setCell' W w.heap.size (.slice a (kps (pcs s)).length cap)) (.inr (h0.not_row (by decide) hr).symm)).kept (grownBy_setCell' _ (w.heap.size + 1) (.int .i64 0)) (.inr (h1.not_row (by decide) hr).symm)) (.deferred none) hK' rfl
   refine ⟨by simp, .inl ⟨_, _, rfl, run_takeDeferred hK', ?_⟩⟩
   have c0 := cell_kept k0.cell (grownBy_putObj' _ D (.deferred none)) (fun r e => by cases e; exact ⟨_, hK', rfl⟩)
   have c1 := cell_kept k1.cell (grownBy_putObj' _ D (.deferred none)) (fun r e => by cases e; exact ⟨_, hK', rfl⟩)
   refine ⟨.tuple #[.slice a (kps (pcs s)).length cap, .int .i64 0], by simp [results, Tryz.f85, go_sem, c0, c1], ?_⟩
   have HV : sp2 s.toList = ((cutS s.toList).filter kept, 0) := by
    unfold sp2
    rw [if_neg (by rw [← lgs_pcs, hsh]; decide), if_neg (by rw [kps_pcs] at hlg; exact hlg)]
   rw [HV]
   refine ⟨a, _, cap, rfl, ?_, below_grown (hB2.trans (belowK_b (w := w) (Nat.le_refl _) _ D _ _ (by omega) hK' rfl rfl))⟩
   have e9 : kps (pcs s) = txs ((cutS s.toList).filter kept) := kps_txs _
   show World.ownsRow _ _ _ _ _ _ (sv (txs ((cutS s.toList).filter kept)))
   rw [← e9]
   exact ⟨hr2.1, hr2.2.imp id (fun ⟨gg, cp, cu, e1, e2, e3⟩ => ⟨gg, cp, cu, e1, by omega, e3⟩)⟩
 case stop =>
  rintro D c pre W hD hpre ⟨rfl, hlg, h0, h1, hbl⟩ hK
  have hc0 := h0.cell
  have hc1 := h1.cell
  gi_wp2
  refine ⟨by simp, .inl ⟨_, _, rfl, run_takeDeferred hK, ?_⟩⟩
  have c0 := cell_kept hc0 (grownBy_putObj' _ D (.deferred none)) (fun r e => by cases e; exact ⟨_, hK, rfl⟩)
  have c1 := cell_kept hc1 (grownBy_putObj' _ D (.deferred none)) (fun r e => by cases e; exact ⟨_, hK, rfl⟩)
  refine ⟨.tuple #[.slice none 0 0, .int .i64 1], by simp [results, Tryz.f85, go_sem, c0, c1], ?_⟩
  have HV : sp2 s.toList = ([], 1) := by
   unfold sp2
   rw [if_pos]
   rw [← lgs_pcs]
   obtain ⟨r, hr⟩ := hpre
   unfold lgs at hlg ⊢
   rw [← hr, List.any_append, hlg, Bool.true_or]
  rw [HV]
  exact ⟨none, 0, 0, rfl, World.ownsRow_nil _ _ _ _, below_grown (hbl.trans (belowK_b (w := w) (Nat.le_refl _) _ D _ _ (by omega) hK rfl rfl))⟩
theorem psplit_any (s : ByteArray) (w : World) (hs : s.size ≤ 1000000) : Calls Tryz.prog 85 #[.string s] w (SpPost w (spl s.toList)) := by
 by_cases h1 : 4096 < s.size
 ·have e : spl s.toList = ([], 2) := by unfold spl; rw [if_pos (by rw [tl_len]; exact h1)]
  rw [e]
  have g1 : (4096 : Int) < s.size := by omega
  go_enter Tryz.func85, Tryz.ntmps85
  go_wp2
  refine bodyPost_ret (by simp [results, Tryz.f85, go_sem]; try rfl) rfl ?_
  exact ⟨none, 0, 0, rfl, World.ownsRow_nil _ _ _ _, grown_tr (xga w _ none) (xga _ _ none)⟩
 ·cases h0 : s.toList.any (· == 0) with
  | false =>
   have e : spl s.toList = sp2 s.toList := by unfold spl sp2; rw [if_neg (by rw [tl_len]; exact h1), h0, if_neg (by decide)]
   rw [e]
   exact psplit_main s w (by omega) h0
  | true =>
   have e : spl s.toList = ([], 6) := by unfold spl; rw [if_neg (by rw [tl_len]; exact h1), h0, if_pos rfl]
   rw [e]
   clear e
   have g1 : ¬ (4096 : Int) < s.size := by omega
   have hho := fun W => pholds_any s 0 W
   have e0 : hasB s.toList ((0 : Int).toNat.toUInt8) = true := h0
   rw [e0] at hho
   clear h0 e0
   go_enter Tryz.func85, Tryz.ntmps85
   go_wp2_with (go_at_call 110; refine (hho _).mono ?_; rintro e w' ⟨rfl, rfl⟩)
   refine bodyPost_ret (by simp [results, Tryz.f85, go_sem]; try rfl) rfl ?_
   exact ⟨none, 0, 0, rfl, World.ownsRow_nil _ _ _ _, grown_tr (xga w _ none) (xga _ _ none)⟩
end Go.Proofs.YtlehncfehoelbaaGreatDoor
