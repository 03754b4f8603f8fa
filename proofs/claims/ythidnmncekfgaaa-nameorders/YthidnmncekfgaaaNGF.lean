/- The program's pieces, as landed: an iterator over what stands between the slashes of a text. -/
import Derived.Test.YthidnmncekfgaaaNGE
namespace Go.Proofs.Ythidnmncekfgaaa
open Go.RowKit Go.Shelf
set_option maxRecDepth 100000
set_option linter.unusedSimpArgs false
set_option linter.unusedVariables false
attribute [local go_sem] Oper.semAt_some

/-- the pieces of a text -/
def pcs (s : ByteArray) : List ByteArray := txs (cutS s.toList)
/-- a round keeps the text in its box -/
def Kpt (Bn : Nat) (s : ByteArray) (W W' : World) : Prop := W.cell? ⟨Bn, 0, none⟩ = some (.string s) → W'.cell? ⟨Bn, 0, none⟩ = some (.string s)
/-- between two rounds of the iterator -/
def Cv (L : Tx) (i f : Nat) (ps : List Tx) : Prop := i ≤ L.length ∧ f ≤ i ∧ cutS (L.take i) = ps ++ [(L.drop f).take (i - f)]
/-- a byte that is no slash -/
theorem cv_byte {s : ByteArray} {i f : Nat} {ps : List Tx} (h : Cv s.toList i f ps) (hi : i < s.size) (hne : s[i] ≠ 47) : Cv s.toList (i + 1) f ps := by
  obtain ⟨h1, h2, h3⟩ := h
  refine ⟨by rw [tl_len]; omega, by omega, ?_⟩
  rw [take_get hi, cutS_byte hne h3, show i + 1 - f = i - f + 1 by omega]
  congr 2
  have hlen : i - f < (s.toList.drop f).length := by rw [List.length_drop, tl_len]; omega
  rw [List.take_succ_eq_append_getElem hlen, List.getElem_drop]
  congr 2
  rw [← tl_get hi]
  congr 1
  omega
/-- a slash: a piece more -/
theorem cv_slash {s : ByteArray} {i f : Nat} {ps : List Tx} (h : Cv s.toList i f ps) (hi : i < s.size) (he : s[i] = 47) : Cv s.toList (i + 1) (i + 1) (ps ++ [(s.toList.drop f).take (i - f)]) ∧ ∃ r, cutS s.toList = ps ++ [(s.toList.drop f).take (i - f)] ++ r ∧ r ≠ [] := by
  obtain ⟨h1, h2, h3⟩ := h
  refine ⟨⟨by rw [tl_len]; omega, Nat.le_refl _, ?_⟩, cutS (s.toList.drop (i + 1)), ?_, cutS_ne _⟩
  · rw [take_get hi, he, cutS_slash h3, Nat.sub_self, List.take_zero]
  · have e2 : s.toList = s.toList.take i ++ 47 :: s.toList.drop (i + 1) := by
      conv => lhs; rw [← List.take_append_drop i s.toList, drop_get hi, he]
    have e3 := congrArg cutS e2
    rw [cutS_cat, h3] at e3
    exact e3
/-- the last piece -/
theorem cv_end {s : ByteArray} {f : Nat} {ps : List Tx} (h : Cv s.toList s.size f ps) : cutS s.toList = ps ++ [(s.toList.drop f).take (s.size - f)] := by
  obtain ⟨h1, h2, h3⟩ := h
  rw [List.take_of_length_le (by rw [tl_len]; omega)] at h3
  exact h3
set_option maxRecDepth 100000 in
set_option maxHeartbeats 2000000 in
theorem pieces1_in (F : Fence) (n : Nat) (hf : F.fn 33) (hro : F.round = none) (hn : 1 ≤ n) (l Bn : Nat) (s : ByteArray) (hs : s.size ≤ 1000000) (J Jx : List ByteArray → World → Prop)
    (hY : ∀ pre x W, J pre W → pre.length < (pcs s).length → YieldAt F (n - 1) Try.prog l #[.string x] W fun e W' =>
      (e = .returned (.bool true) ∧ J (pre ++ [x]) W' ∧ Kpt Bn s W W') ∨ (e = .returned (.bool false) ∧ Jx (pre ++ [x]) W'))
    (W : World) (hBn : W.cell? ⟨Bn, 0, none⟩ = some (.string s)) (h0 : J [] W) :
    CallsIn F n Try.prog 33 #[.func (.yield l) #[] #[], .pointer (some ⟨Bn, 0, none⟩)] W fun e W' => (∃ v, e = .returned v) ∧
      ((∃ ys, ys = pcs s ∧ J ys W') ∨ (∃ pre, pre <+: pcs s ∧ Jx pre W')) := by
  refine callsIn_of_wp Try.func33 rfl hf ?_ hro
  simp only [Try.ntmps33, List.size_toArray, List.length_cons, List.length_nil, Nat.reduceAdd, Nat.reduceSub, Array.replicate_succ, Array.replicate_zero, List.push_toArray, List.append_toArray, List.nil_append, List.cons_append]
  gi_wp2
  gi_loopw [3, 7] (fun vf vi wr => ∃ (i f : Nat) (ps : List Tx), vi = .int .i64 i ∧ vf = .int .i64 f ∧ i ≤ s.size ∧ Hid (Cv s.toList i f ps) ∧ wr.cell? ⟨Bn, 0, none⟩ = some (.string s) ∧ J (txs ps) wr) (fun _ vi _ => s.size - (intOf vi).toNat)
  case atStart => exact ⟨0, 0, [], rfl, rfl, by omega, ⟨Nat.zero_le _, Nat.le_refl _, by simp [cutS]⟩, hBn, h0⟩
  case round =>
    obtain ⟨i, f, ps, rfl, rfl, hi1, HC, hb, hJ⟩ := hrel
    have hfi : f ≤ i := HC.out.2.1
    by_cases hlt : i < s.size
    · have hlti : (i : Int) < s.size := by omega
      have hfii : (f : Int) ≤ (i : Int) := by omega
      by_cases hne : s[i] = 47
      · obtain ⟨hn2, r, hr, _⟩ := cv_slash HC.out hlt hne
        have hbb : ((s[i].toNat : Int) == 47) = true := by rw [hne]; rfl
        have hex := extract_tx s f i
        generalize (s.toList.drop f).take (i - f) = q at *
        have hlen : (txs ps).length < (pcs s).length := by unfold pcs txs; rw [hr]; simp
        have hpre : txs ps ++ [tx q] <+: pcs s := ⟨txs r, by unfold pcs; rw [hr]; unfold txs; simp⟩
        have HN : Hid _ := And.intro hn2 hpre
        obtain ⟨fn, tmps, assign, body, hy, hR⟩ := hY (txs ps) (tx q) wr hJ hlen
        clear hn2 hpre hr HC hlen hne
        gi_wp2
        refine hR.mono ?_
        rintro e W3 (⟨rfl, hJ3, hk3⟩ | ⟨rfl, hJx3⟩)
        · have hb3 : W3.cell? ⟨Bn, 0, none⟩ = some (.string s) := hk3 hb
          gi_wp2
          go_roundw
          case rel => exact ⟨i + 1, i + 1, ps ++ [q], by go_num, by go_num, by omega, HN.out.1, hb3, by unfold txs at hJ3 ⊢; rw [List.map_append]; exact hJ3⟩
          case measure => simp [intOf]; omega
        · gi_wp2
          refine bodyPost_ret (results_none rfl _ _ _) rfl ?_
          exact ⟨⟨_, rfl⟩, .inr ⟨txs ps ++ [tx q], HN.out.2, hJx3⟩⟩
      · have hbb : ((s[i].toNat : Int) == 47) = false := by
          rw [beq_eq_false_iff_ne]
          intro e
          exact hne (by apply UInt8.toNat_inj.1; show s[i].toNat = 47; omega)
        have HN : Hid _ := cv_byte HC.out hlt hne
        clear hne HC
        gi_wp2
        go_roundw
        case rel => exact ⟨i + 1, f, ps, by go_num, rfl, by omega, HN, hb, hJ⟩
        case measure => simp [intOf]; omega
    · obtain rfl : i = s.size := by omega
      have hlti : ¬ (s.size : Int) < s.size := by omega
      have hfii : (f : Int) ≤ (s.size : Int) := by omega
      have hr := cv_end HC.out
      have hex := extract_tx s f s.size
      generalize (s.toList.drop f).take (s.size - f) = q at *
      have hlen : (txs ps).length < (pcs s).length := by unfold pcs txs; rw [hr]; simp
      have hps : txs ps ++ [tx q] = pcs s := by unfold pcs; rw [hr]; unfold txs; simp
      have HN : Hid _ := hps
      obtain ⟨fn, tmps, assign, body, hy, hR⟩ := hY (txs ps) (tx q) wr hJ hlen
      clear hr HC hlen hps
      gi_wp2
      refine hR.mono ?_
      rintro e W3 (⟨rfl, hJ3, hk3⟩ | ⟨rfl, hJx3⟩)
      · gi_wp2
        go_end0
        have hJ2 : J (pcs s) W3 := by rw [← HN.out]; exact hJ3
        exact ⟨⟨_, rfl⟩, .inl (by first | exact hJ2 | exact ⟨_, rfl, hJ2⟩)⟩
      · gi_wp2
        go_end0
        exact ⟨⟨_, rfl⟩, .inr ⟨txs ps ++ [tx q], by rw [HN.out]; exact List.prefix_refl _, hJx3⟩⟩
theorem pieces_in (F : Fence) (n : Nat) (hf : F.fn 29) (hro : F.round = none) (s : ByteArray) (w : World) :
    CallsIn F n Try.prog 29 #[.string s] w fun e w' => e = .returned (.func (.func 33) #[] #[.pointer (some ⟨w.heap.size, 0, none⟩)]) ∧ w' = w.alloc (.cells #[.string s] 9) := by
  refine callsIn_of_wp Try.func29 rfl hf ?_ hro
  simp only [Try.ntmps29, List.size_toArray, List.length_cons, List.length_nil, Nat.reduceAdd, Nat.reduceSub, Array.replicate_succ, Array.replicate_zero, List.push_toArray, List.append_toArray, List.nil_append, List.cons_append]
  gi_wp2
  go_ret
  exact ⟨rfl, rfl⟩
theorem pieces_stops (F : Fence) (n : Nat) (hf : F.fn 33) (hro : F.round = none) (hn : 1 ≤ n) (Bn : Nat) (s : ByteArray) (hs : s.size ≤ 1000000) (w : World) (hBn : Bn < w.heap.size) (hc : w.cell? ⟨Bn, 0, none⟩ = some (.string s)) :
    SeqStopsK F n Try.prog 33 #[.pointer (some ⟨Bn, 0, none⟩)] (fun x : ByteArray => #[Value.string x]) (Kpt Bn s) (fun ys => ys = pcs s) (fun pre => pre <+: pcs s) (pcs s).length w := fun l J Jx W hW _ _ hY h0 =>
  pieces1_in F n hf hro hn l Bn s hs J Jx hY W ((hW.cell (p := ⟨Bn, 0, none⟩) hBn).trans hc) h0
end Go.Proofs.Ythidnmncekfgaaa
