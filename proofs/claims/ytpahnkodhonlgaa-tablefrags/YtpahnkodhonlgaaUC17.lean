/- EncodeAttrs. -/
import Derived.Test.YtpahnkodhonlgaaUB17
import Derived.Test.YtpahnkodhonlgaaHI
import Derived.Test.YtpahnkodhonlgaaOF
namespace Go.Proofs.Ytpahnkodhonlgaa
open Go.RowKit
set_option maxRecDepth 100000
set_option linter.unusedSimpArgs false
set_option linter.unusedVariables false
theorem ck17 {n : Int} {m : Nat} (hm : m = 1 ∨ m = 2 ∨ m = 4) (h0 : 0 ≤ n) (h1 : n < 256 ^ m) : ckE n (m : Int) = 0 := by
  unfold ckE
  rcases hm with rfl | rfl | rfl
  · rw [if_pos (by decide), if_neg (by simp [lg]; omega)]
  · rw [if_pos (by decide), if_neg (by simp [lg]; omega)]
  · rw [if_pos (by decide), if_neg (by simp [lg]; omega)]
/-- an attribute's bytes, a set's -/
def atB17 (A : AtV) : List Int := sto ((A.n.size : Nat) : Int) 1 ++ (nums A.n ++ (sto ((A.len : Nat) : Int) 2 ++ A.v))
def enA17 (l : List AtV) : List Int := sto ((l.length : Nat) : Int) 2 ++ (l.map atB17).flatten
theorem atB_len {A : AtV} (h : A.v.length = A.len) : (atB17 A).length = 3 + A.n.size + A.len := by
  unfold atB17
  rw [List.length_append, List.length_append, List.length_append, sto_length, sto_length, nums_len, h]
  omega
theorem atBs_len : ∀ (l : List AtV), (∀ A ∈ l, A.v.length = A.len ∧ A.n.size ≤ 255 ∧ A.len ≤ 4096) → ((l.map atB17).flatten).length ≤ 4354 * l.length
  | [], _ => by simp
  | A :: l, h => by
    have h1 := h A (List.mem_cons_self ..)
    have h2 := atBs_len l (fun B hB => h B (List.mem_cons_of_mem _ hB))
    rw [List.map_cons, List.flatten_cons, List.length_append, atB_len h1.1, List.length_cons]
    omega
/-- while the bytes are laid -/
structure St17 (w W : World) (p : Nat) (most : Int) (v : Value) (bs : List Int) : Prop where
  wr : WInv W p v bs most 0
  gr : w.grownBy W none
  wp : w.heap.size ≤ p
theorem St17.keep {w W W' : World} {p : Nat} {most : Int} {v : Value} {bs : List Int} (h : St17 w W p most v bs) (k : W.grownBy W' none) : St17 w W' p most v bs := ⟨h.wr.grown k, grown_trans h.gr k, h.wp⟩
theorem St17.chg {w W W' : World} {p : Nat} {most : Int} {v v' : Value} {bs bs' : List Int} (h : St17 w W p most v bs) (i : WInv W' p v' bs' most 0) (k : Chg W W' p v v') : St17 w W' p most v' bs' :=
  ⟨i, ⟨k.os.trans h.gr.os, k.tape.trans h.gr.tape, k.output.trans h.gr.output, Nat.le_trans h.gr.size k.size, fun j hj _ => by
    have := h.wp
    rw [k.block j (Nat.lt_of_lt_of_le hj h.gr.size) (by omega) (fun e => by have := (h.wr.own.lt j e.symm).1; omega)]
    exact h.gr.block j hj (by simp)⟩, h.wp⟩
/-- a variable beside the writer -/
structure Vb17 (W : World) (p : Nat) (v : Value) (g : Nat) (T : TypeId) (cs : List Value) : Prop where
  bx : Bx W g T cs
  ne : g ≠ p
  nv : some g ≠ v.ownBlock
theorem Vb17.keep {W W' : World} {p g : Nat} {v : Value} {T : TypeId} {cs : List Value} (h : Vb17 W p v g T cs) (k : W.grownBy W' none) : Vb17 W' p v g T cs := ⟨h.bx.kept k, h.ne, h.nv⟩
theorem Vb17.chg {W W' : World} {p g : Nat} {v v' : Value} {T : TypeId} {cs : List Value} (h : Vb17 W p v g T cs) (k : Chg W W' p v v') : Vb17 W' p v' g T cs := by
  refine ⟨⟨by rw [k.block g h.bx.lt h.ne h.nv]; exact h.bx.blk⟩, h.ne, fun e => ?_⟩
  rcases k.own with q | ⟨j, q, hj⟩
  · exact h.nv (e.trans q)
  · rw [q] at e
    injection e with e
    have := h.bx.lt
    omega
theorem Vb17.new {W : World} {p : Nat} {v : Value} {bs : List Int} {most : Int} (i : WInv W p v bs most 0) (T : TypeId) (cs : List Value) : Vb17 (W.alloc (.cells cs.toArray T)) p v W.heap.size T cs :=
  ⟨Bx.new W T cs, by have := i.blk.lt; omega, fun e => by have := (i.own.lt _ e.symm).2; omega⟩
set_option maxHeartbeats 8000000 in
theorem pencodeA17_bad (a : Option Addr) (len cap : Nat) (l : List AtV) (w : World) (K : Ats w a len l) (hr : rga17 l = false) :
    Calls Try.prog 19 #[.slice a len cap] w fun e w' => e = .returned (.tuple #[.slice none 0 0, .int .i64 1]) ∧ w.grownBy w' none := by
  have hc := pright17_any a len cap l w K
  rw [hr] at hc
  clear K hr
  go_enter Try.func19, Try.ntmps19
  go_wp2_with (go_at_call 44; refine hc.mono ?_; rintro e w1 ⟨rfl, g1⟩)
  go_returns
  exact ⟨rfl, g1⟩
set_option maxHeartbeats 8000000 in
theorem pencodeA17_ok (a : Option Addr) (len cap : Nat) (l : List AtV) (w : World) (K : Ats w a len l) (hr : rga17 l = true) :
    Calls Try.prog 19 #[.slice a len cap] w fun e w' => ∃ g, e = .returned (.tuple #[.slice (some ⟨g, 0, none⟩) (enA17 l).length (enA17 l).length, .int .i64 0]) ∧ Blk w' g (bv (enA17 l)) ∧ w.heap.size ≤ g ∧ w.grownBy w' none := by
  have hc := pright17_any a len cap l w K
  rw [hr] at hc
  obtain ⟨h1, h64, hz⟩ := rga_at hr
  have hl := K.len_eq
  have hvl : ∀ A ∈ l, A.v.length = A.len ∧ A.n.size ≤ 255 ∧ A.len ≤ 4096 := fun A hA => by
    obtain ⟨i, hi⟩ := List.getElem?_of_mem hA
    obtain ⟨b, off, _, hk⟩ := K.at_ (by omega)
    exact ⟨(hk i A hi).row.len_eq, hz A hA⟩
  have hnw := fun W => newwriter_any 278658 W
  have HK : Hid _ := K
  have HV : Hid _ := hvl
  have HTL : Hid (∀ m, m ≤ len → ((l.take m).map atB17).flatten.length ≤ 4354 * m) := fun m hm => by
    have := atBs_len (l.take m) (fun A hA => hvl A (List.mem_of_mem_take hA))
    rw [List.length_take] at this
    have h2 := Nat.min_le_left m l.length
    exact Nat.le_trans this (Nat.mul_le_mul_left _ h2)
  have wl : IntKind.u64.wrap (len : Int) = (len : Int) := u64_wrap_in _ (by omega) (by omega)
  clear K hz hvl hr
  go_enter Try.func19, Try.ntmps19
  go_wp2_with (go_at_call 44; refine hc.mono ?_; rintro e w1 ⟨rfl, g1⟩)
  go_wp2_with (go_at_call 35; refine (hnw _).mono ?_; rintro e w2 ⟨rfl, hI, g2⟩)
  rw [if_neg (by decide)] at hI
  have HS0 : Hid (St17 w w2 w1.heap.size 278658 (.slice none 0 0) []) := ⟨hI, grown_trans g1 g2, g1.size⟩
  clear hc hnw hI g1 g2
  generalize w1.heap.size = p at *
  have hN := wnum_ok p (.slice none 0 0) [] 278658 (len : Int) 2 w2 HS0.out.wr (ck17 (by decide) (by omega) (by omega)) (by decide) (by decide) (by simp) (by simp)
  go_wp2_with (go_at_call 36; refine hN.mono ?_; rintro e w3 ⟨v3, rfl, i3, k3⟩)
  have HS3 : Hid (St17 w w3 p 278658 v3 (sto ((l.length : Nat) : Int) 2 ++ ((l.take 0).map atB17).flatten)) := by
    have := HS0.out.chg i3 k3
    show St17 _ _ _ _ _ _
    rw [hl]
    simpa using this
  clear HS0 hN i3 k3 wl
  go_loopw [18] (fun i wr => ∃ (j : Nat) (v : Value), i = .int .i64 j ∧ j ≤ len ∧ Hid (St17 w wr p 278658 v (sto ((l.length : Nat) : Int) 2 ++ ((l.take j).map atB17).flatten))) (fun i _ => len - (intOf i).toNat)
  case atStart => exact ⟨0, v3, rfl, Nat.zero_le _, HS3⟩
  case round =>
    clear HS3
    obtain ⟨j, v, rfl, hj, HS⟩ := hrel
    by_cases hlt : j < len
    · have hji : (j : Int) < (len : Int) := by omega
      obtain ⟨b, off, rfl, hk⟩ := HK.out.at_ (by omega)
      obtain ⟨X, hX⟩ : ∃ X, l[j]? = some X := ⟨_, List.getElem?_eq_getElem (by omega)⟩
      have kk := hk j X hX
      have c0 := cell_grown17' kk.c0 HS.out.gr
      have c1 := cell_grown17' kk.c1 HS.out.gr
      obtain ⟨hv1, hv2, hv3⟩ := HV.out X (List.mem_of_getElem? hX)
      have HROW : Hid (Row w X.a X.len X.v) := kk.row
      have HXX : Hid (l.take (j + 1) = l.take j ++ [X]) := by show _ = _; rw [List.take_add_one, hX]; rfl
      have HB : Hid _ := Vb17.new HS.out.wr 43 [.string X.n, .slice X.a X.len X.cap]
      have HS1 : Hid _ := HS.out.keep (World.grownBy_alloc wr (.cells #[.string X.n, .slice X.a X.len X.cap] 43) none)
      have hpl := HTL.out j hj
      have HPL : Hid ((sto ((l.length : Nat) : Int) 2 ++ ((l.take j).map atB17).flatten).length ≤ 2 + 4354 * 63) := by
        show _ ≤ _
        rw [List.length_append, sto_length]
        have : 4354 * j ≤ 4354 * 63 := Nat.mul_le_mul_left _ (by omega)
        omega
      have HFIN : Hid (∀ u : List Int, u = (((sto ((l.length : Nat) : Int) 2 ++ ((l.take j).map atB17).flatten) ++ sto ((X.n.size : Nat) : Int) 1) ++ nums X.n) ++ sto ((X.len : Nat) : Int) 2 ++ X.v → u = sto ((l.length : Nat) : Int) 2 ++ ((l.take (j + 1)).map atB17).flatten) := fun u hu => by
        rw [hu, HXX.out, List.map_append, List.flatten_append, List.map_cons, List.map_nil, List.flatten_cons, List.flatten_nil, List.append_nil]
        unfold atB17
        simp only [List.append_assoc]
      generalize sto ((l.length : Nat) : Int) 2 ++ ((l.take j).map atB17).flatten = PB at *
      have hPL := HPL.out
      have wn : IntKind.u64.wrap ((X.n.size : Nat) : Int) = ((X.n.size : Nat) : Int) := u64_wrap_in _ (by omega) (by omega)
      have wv : IntKind.u64.wrap ((X.len : Nat) : Int) = ((X.len : Nat) : Int) := u64_wrap_in _ (by omega) (by omega)
      have hwj : IntKind.i64.wrap ((j : Int) + 1) = (j : Int) + 1 := by rw [IntKind.wrap_i64]; omega
      clear hk kk hX HS hpl
      generalize hWA : wr.alloc (.cells #[.string X.n, .slice X.a X.len X.cap] 43) = WA at HS1
      have HB1 : Hid (Vb17 WA p v wr.heap.size 43 [.string X.n, .slice X.a X.len X.cap]) := by rw [← hWA]; exact HB.out
      clear HB
      subst hWA
      have hN1 := wnum_ok p v PB 278658 ((X.n.size : Nat) : Int) 1 _ HS1.out.wr (ck17 (by decide) (by omega) (by omega)) (by decide) (by decide) (by omega) (by omega)
      go_wp2_with (first | (go_at_call 36; refine hN1.mono ?_; rintro e W4 ⟨v4, rfl, i4, k4⟩; have HS4 : Hid _ := HS1.out.chg i4 k4; have HB4 : Hid _ := HB1.out.chg k4; have d40 := HB4.out.bx.c 0; simp only [List.getElem?_cons_zero, List.getElem?_cons_succ] at d40; obtain ⟨cap9, WC, hconv, g9, r9, sz9⟩ := conv15 X.n W4 (by unfold maxLen; omega); clear i4 k4 hN1) | fail)
      have HS5 : Hid _ := HS4.out.keep g9
      have HB5 : Hid _ := HB4.out.keep g9
      have hp5 := wbytes_apart p v4 _ 278658 (some ⟨W4.heap.size, 0, none⟩) X.n.size cap9 (nums X.n) WC HS5.out.wr r9 (fun b' off' e _ => by
        injection e with e
        injection e with e1 e2
        subst e1
        have h1 := HS4.out.wr.blk.lt
        exact ⟨sz9, by omega, fun e3 => by have := (HS4.out.wr.own.lt _ e3.symm).2; omega⟩) (by decide) (by decide) (by rw [List.length_append, sto_length]; omega) (by rw [List.length_append, sto_length]; omega)
      clear HS4 HB4 d40 hconv g9 r9
      have HNUM : Hid (∀ (v6 : Value) (W6 : World), St17 w W6 p 278658 v6 ((PB ++ sto ((X.n.size : Nat) : Int) 1) ++ nums X.n) → _) := fun v6 W6 h => wnum_ok p v6 ((PB ++ sto ((X.n.size : Nat) : Int) 1) ++ nums X.n) 278658 ((X.len : Nat) : Int) 2 W6 h.wr (ck17 (by decide) (by omega) (by omega)) (by decide) (by decide) (by rw [List.length_append, List.length_append, sto_length, nums_len]; omega) (by rw [List.length_append, List.length_append, sto_length, nums_len]; omega)
      have HLAST : Hid (∀ (v8 : Value) (W8 : World), St17 w W8 p 278658 v8 (((PB ++ sto ((X.n.size : Nat) : Int) 1) ++ nums X.n) ++ sto ((X.len : Nat) : Int) 2) → _) := fun v8 W8 h => wbytes_apart p v8 _ 278658 X.a X.len X.cap X.v W8 h.wr (HROW.out.grown h.gr) (fun b' off' e h0 => by
        obtain ⟨b2, o2, e2, hc2⟩ := HROW.out.cells h0
        rw [e] at e2
        injection e2 with e2
        injection e2 with e3 e4
        subst e3
        have h1 := cell_lt (hc2 0 h0)
        have h2 : b' < w.heap.size := h1
        have h3 := h.gr.size
        have h4 := h.wp
        exact ⟨by omega, by omega, fun e5 => by have := (h.wr.own.lt _ e5.symm).1; omega⟩) (by decide) (by decide) (by rw [List.length_append, List.length_append, List.length_append, sto_length, sto_length, nums_len]; omega) (by rw [List.length_append, List.length_append, List.length_append, sto_length, sto_length, nums_len]; omega)
      refine hp5.mono ?_
      rintro e W6 ⟨v6, rfl, i6, k6⟩
      have HS6 : Hid _ := HS5.out.chg i6 k6
      have HB6 : Hid _ := HB5.out.chg k6
      have d61 := HB6.out.bx.c 1
      simp only [List.getElem?_cons_zero, List.getElem?_cons_succ] at d61
      have hN7 := HNUM.out v6 W6 HS6.out
      clear HS5 HB5 hp5 i6 k6 HNUM
      go_wp2_with (first | (go_at_call 36; refine hN7.mono ?_; rintro e W8 ⟨v8, rfl, i8, k8⟩; have HS8 : Hid _ := HS6.out.chg i8 k8; have HB8 : Hid _ := HB6.out.chg k8; have d81 := HB8.out.bx.c 1; simp only [List.getElem?_cons_zero, List.getElem?_cons_succ] at d81; have hL9 := HLAST.out v8 W8 HS8.out; clear i8 k8 hN7 d61) | fail)
      refine hL9.mono ?_
      rintro e W9 ⟨v9, rfl, i9, k9⟩
      have HS9 : Hid _ := HS8.out.chg i9 k9
      clear hL9 i9 k9 HB8 d81
      have hF := HFIN.out _ rfl
      have HS10 := HS9.out
      rw [hF] at HS10
      go_wp2_with fail
      refine ⟨⟨j + 1, v9, by go_num, by clear hwj; omega, HS10⟩, ?_⟩
      clear hwj
      simp [intOf]; omega
    · obtain rfl : j = len := by omega
      have hji : ¬ (j : Int) < (j : Int) := by omega
      have hT : sto ((l.length : Nat) : Int) 2 ++ ((l.take j).map atB17).flatten = enA17 l := by rw [List.take_of_length_le (by omega)]; rfl
      rw [hT] at HS
      have hel : (enA17 l).length ≤ 140737488355328 := by
        have := HTL.out j (Nat.le_refl _)
        rw [← hT, List.length_append, sto_length]
        have : 4354 * j ≤ 4354 * 64 := Nat.mul_le_mul_left _ (by omega)
        omega
      have hdn := wdone_ok p v (enA17 l) _ wr HS.out.wr hel
      clear hT hel
      go_wp2_with (go_at_call 37; refine hdn.mono ?_; rintro e w9 ⟨rfl, b9, g9⟩)
      go_returns
      exact ⟨_, rfl, b9, HS.out.gr.size, grown_trans HS.out.gr g9⟩
end Go.Proofs.Ytpahnkodhonlgaa
