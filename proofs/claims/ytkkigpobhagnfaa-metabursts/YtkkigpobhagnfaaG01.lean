/- Plain: a part of a stream out of its chunks. The walk of MetaParts. -/
import Derived.Deep.RegionHeld
import Derived.Test.YtkkigpobhagnfaaD01
import Derived.Test.YtkkigpobhagnfaaD03
import Derived.Test.YtkkigpobhagnfaaE01
import Derived.Test.YtkkigpobhagnfaaK16
namespace Go.Proofs.Ytkkigpobhagnfaa
open Go.RowKit
set_option maxRecDepth 100000
set_option linter.unusedSimpArgs false
set_option linter.unusedVariables false
theorem told_cons14 {E : List Int} {x : Ck × Nat × Nat} {r : List (Ck × Nat × Nat)} {out : List Int} (h : (chk E x.1).2 = 0) : told E (x :: r) out = told E r (out ++ ((chk E x.1).1.drop x.2.1).take (x.2.2 - x.2.1)) := by
 rw [told, if_neg (by simpa using h)]
/-- a part of what chunks tell that all tell -/
theorem told_part {E : List Int} : ∀ (l : List Ck) (s t : Nat) (out : List Int), (∀ c ∈ l, (chk E c).2 = 0 ∧ (chk E c).1.length = pn c) →
  told E (askd l s t) out = (out ++ (((l.map fun c => (chk E c).1).flatten).drop s).take t, 0)
 | [], s, t, out, _ => by simp [askd, told]
 | c :: r, s, t, out, h => by
  obtain ⟨h1, h2⟩ := h c (List.mem_cons_self ..)
  have ih := fun s t out => told_part r s t out (fun c hc => h c (List.mem_cons_of_mem _ hc))
  have key : told E (askd (c :: r) s t) out = told E (askd r (s - min s (pn c)) (t - min t (pn c - min s (pn c)))) (out ++ ((chk E c).1.drop (min s (pn c))).take (min t (pn c - min s (pn c)))) := by
   rw [askd]
   by_cases hm : 0 < min t (pn c - min s (pn c))
   ·rw [if_pos hm, List.cons_append, List.nil_append, told_cons14 h1]
    simp only
    rw [show min s (pn c) + min t (pn c - min s (pn c)) - min s (pn c) = min t (pn c - min s (pn c)) by omega]
   ·have hz : min t (pn c - min s (pn c)) = 0 := by omega
    rw [if_neg hm, List.nil_append, hz, List.take_zero, List.append_nil]
  rw [key, ih, List.map_cons, List.flatten_cons, List.drop_append, List.take_append, List.append_assoc]
  congr 2
  have hd : (chk E c).1.drop s = (chk E c).1.drop (min s (pn c)) := by
   by_cases q : s ≤ pn c
   ·rw [Nat.min_eq_left q]
   ·rw [List.drop_of_length_le (by omega), List.drop_of_length_le (by omega)]
  rw [hd]
  congr 1
  ·by_cases q : t ≤ pn c - min s (pn c)
   ·rw [Nat.min_eq_left q]
   ·rw [List.take_of_length_le (by rw [List.length_drop]; omega), List.take_of_length_le (by rw [List.length_drop]; omega)]
  ·rw [List.length_drop, h2, show s - min s (pn c) = s - pn c by omega, show t - min t (pn c - min s (pn c)) = t - (pn c - min s (pn c)) by omega]
theorem ckR_chk {bs : List Int} (limit : Nat) (hb : Byt bs) (E : List Int) : ∀ (m k pos : Nat), m = cnt (bs.length - 8192 * k) → E.drop pos = enR bs limit m k → pos ≤ E.length →
  (∀ c ∈ ckR bs limit m k pos, (chk E c).2 = 0 ∧ (chk E c).1.length = pn c ∧ ∃ j, (chk E c).1 = pcB bs j ∧ c = ckP (pcB bs j) limit c.at_.toNat ∧ 1 ≤ (pcB bs j).length ∧ (pcB bs j).length ≤ 8192 ∧ 0 ≤ c.at_ ∧ c.at_ + 8 + c.st ≤ E.length) ∧ ((ckR bs limit m k pos).map fun c => (chk E c).1).flatten = bs.drop (8192 * k)
 | 0, k, pos, hm, hE, hp => by
  have h0 : bs.length - 8192 * k = 0 := by unfold cnt at hm; omega
  refine ⟨fun c hc => (by rw [ckR] at hc; cases hc), ?_⟩
  rw [ckR, List.drop_of_length_le (by omega)]; rfl
 | m + 1, k, pos, hm, hE, hp => by
  have hpos : 0 < bs.length - 8192 * k := by
   rcases Nat.eq_zero_or_pos (bs.length - 8192 * k) with h | h
   ·rw [h] at hm; exact absurd hm (by rw [cnt_zero]; omega)
   ·exact h
  have hpl : (pcB bs k).length = min (bs.length - 8192 * k) 8192 := by rw [pcB_len, Nat.min_comm]
  have hpb : Byt (pcB bs k) := fun x hx => hb x (List.mem_of_mem_drop (List.mem_of_mem_take hx))
  rw [enR] at hE
  obtain ⟨a1, a2, a3, a4, a5⟩ := head_facts hE hpb (by omega) (by omega)
  have hm2 : m = cnt (bs.length - 8192 * (k + 1)) := by
   rw [cnt_pos hpos] at hm
   have : bs.length - 8192 * k - min (bs.length - 8192 * k) 8192 = bs.length - 8192 * (k + 1) := by omega
   rw [this] at hm; omega
  obtain ⟨b1, b2⟩ := ckR_chk limit hb E m (k + 1) _ hm2 a4 (by omega)
  have hst : (ckP (pcB bs k) limit pos).st = ((pk14 (pcB bs k) limit).1.length : Int) := rfl
  have hat : (ckP (pcB bs k) limit pos).at_ = (pos : Int) := rfl
  refine ⟨fun c hc => ?_, ?_⟩
  ·rw [ckR] at hc
   rcases List.mem_cons.1 hc with rfl | hc
   ·rw [a3]
    refine ⟨rfl, ?_, k, rfl, ?_, by omega, by omega, by rw [hat]; omega, by rw [hat, hst]; omega⟩
    ·show (pcB bs k).length = ((pcB bs k).length : Int).toNat
     omega
    ·rw [hat, Int.toNat_natCast]
   ·exact b1 c hc
  ·rw [ckR, List.map_cons, List.flatten_cons, a3, b2]
   unfold pcB
   rw [show 8192 * (k + 1) = 8192 * k + 8192 by omega, ← List.drop_drop, List.take_append_drop]
theorem slc_back {bs : List Int} (limit at_ n : Nat) (hb : Byt bs) (hl : bs.length ≤ 16777216) (hn : at_ + n ≤ bs.length) : slc (enM bs limit) (ckR bs limit (cnt bs.length) 0 0) at_ n = ((bs.drop at_).take n, 0) := by
 obtain ⟨h1, h2, h3, h4⟩ := en_back limit hb hl
 obtain ⟨h5, h6⟩ := ckR_chk limit hb (enM bs limit) (cnt bs.length) 0 0 rfl (by rw [List.drop_zero, enM_enR]) (Nat.zero_le _)
 have h7 := cks_sum (bs := enM bs limit) (f := 0) (t := ((enM bs limit).length : Int)) (s := (bs.length : Int)) (by rw [h3])
 rw [h3] at h7
 have h8 : sumN (ckR bs limit (cnt bs.length) 0 0) = bs.length := by have := h7.2.1; simp only at this; omega
 unfold slc
 rw [if_neg (by omega), Int.toNat_natCast, Int.toNat_natCast, told_part _ _ _ _ (fun c hc => ⟨(h5 c hc).1, (h5 c hc).2.1⟩), h6, Nat.mul_zero, List.drop_zero, List.nil_append]
theorem row_zero14 (W : World) (a : Option Addr) : Row W a 0 [] := ⟨rfl, Nat.zero_le _, (fun x hx => (by cases hx)), fun h => absurd h (Nat.lt_irrefl 0)⟩
set_option maxHeartbeats 8000000 in
theorem metaParts_walk (a : Option Addr) (len cap : Nat) (zs : List Int) (limit at_ n : Int) (w : World) (hz : IsRow .u8 w a len cap zs) (hn : 0 ≤ limit ∧ limit < 18446744073709551616) (ha : -9223372036854775808 ≤ at_ ∧ at_ ≤ 9223372036854775807) (hnn : -9223372036854775808 ≤ n ∧ n ≤ 9223372036854775807) :
  Calls Try.prog 7 #[.slice a len cap, .int .u64 limit, .int .i64 at_, .int .i64 n] w fun e w' => e = .returned (.bool true) ∧ Below w.heap.size w w' := by
 by_cases h1 : (40000 : Int) < (len : Int)
 ·skip
  clear hz
  go_enter Try.func7, Try.ntmps7
  go_wp2_with (first | (go_at_call 9; refine (live14_any _).mono ?_; rintro e wl ⟨rfl, gl⟩; have HF : Hid _ := grown_trans (World.grownBy.refl w none) gl; clear gl) | fail)
  go_ret
  exact ⟨rfl, grown_below HF.out⟩
 by_cases h2 : at_ < 0
 ·skip
  clear hz
  go_enter Try.func7, Try.ntmps7
  go_wp2_with (first | (go_at_call 9; refine (live14_any _).mono ?_; rintro e wl ⟨rfl, gl⟩; have HF : Hid _ := grown_trans (World.grownBy.refl w none) gl; clear gl) | fail)
  go_ret
  exact ⟨rfl, grown_below HF.out⟩
 by_cases h3 : n < 0
 ·skip
  clear hz
  go_enter Try.func7, Try.ntmps7
  go_wp2_with (first | (go_at_call 9; refine (live14_any _).mono ?_; rintro e wl ⟨rfl, gl⟩; have HF : Hid _ := grown_trans (World.grownBy.refl w none) gl; clear gl) | fail)
  go_ret
  exact ⟨rfl, grown_below HF.out⟩
 by_cases h4 : (len : Int) < at_
 ·skip
  clear hz
  go_enter Try.func7, Try.ntmps7
  go_wp2_with (first | (go_at_call 9; refine (live14_any _).mono ?_; rintro e wl ⟨rfl, gl⟩; have HF : Hid _ := grown_trans (World.grownBy.refl w none) gl; clear gl) | fail)
  go_ret
  exact ⟨rfl, grown_below HF.out⟩
 have hw5 : IntKind.i64.wrap ((len : Int) - at_) = (len : Int) - at_ := by rw [IntKind.wrap_i64]; omega
 by_cases h5 : (len : Int) - at_ < n
 ·skip
  clear hz
  go_enter Try.func7, Try.ntmps7
  go_wp2_with (first | (go_at_call 9; refine (live14_any _).mono ?_; rintro e wl ⟨rfl, gl⟩; have HF : Hid _ := grown_trans (World.grownBy.refl w none) gl; clear gl) | fail)
  go_ret
  exact ⟨rfl, grown_below HF.out⟩
 obtain ⟨p, rfl⟩ : ∃ p : Nat, at_ = (p : Int) := ⟨at_.toNat, by clear hw5; omega⟩
 obtain ⟨q, rfl⟩ : ∃ q : Nat, n = (q : Int) := ⟨n.toNat, by clear hw5; omega⟩
 obtain ⟨L, rfl⟩ := Int.eq_ofNat_of_zero_le hn.1
 have B := hz.byte
 generalize zs.take len = bs at B
 clear hz hn ha hnn h2 h3
 have hpq : p + q ≤ len := by clear hw5; omega
 have hlen : len ≤ 40000 := by clear hw5; omega
 have hlb := B.row.len_eq
 have hfb := run_fb14 L
 obtain ⟨hEb, hEl, hck, _⟩ := en_back L B.row.byt (by clear hw5; omega)
 have hdc := dcd_back L B.row.byt (by clear hw5; omega)
 have hsl := slc_back L p q B.row.byt (by clear hw5; omega) (by clear hw5; omega)
 rw [hlb] at hEl hck hdc hsl
 have hcn : cnt len ≤ 5 := by unfold cnt; clear hw5; omega
 have hE2 : (enM bs L).length ≤ 40240 := by clear hw5; omega
 have hok := cks_ok hEb (by clear hw5; omega) 0 ((enM bs L).length : Int) (len : Int)
 rw [hck] at hok
 have hen := fun a' c' W (B' : Byte W a' len c' bs) => pencode14_any a' len c' bs L W B' (by clear hw5; omega)
 have hcl := ckR_len bs L (cnt len) 0 0
 have hrd := fun a' n c' W (B' : Byte W a' n c' (enM bs L)) (h : n ≤ 16777216) => pdecode14_any a' n c' (enM bs L) 0 ((enM bs L).length : Int) (len : Int) W B' h (by clear hw5; omega)
 have hrc := fun a' n c' W (B' : Byte W a' n c' (enM bs L)) (h : n ≤ 16777216) => pchunks14_any a' n c' (enM bs L) 0 ((enM bs L).length : Int) (len : Int) W B' h
 have hrs := fun a' al n c' ln lc W (B' : Byte W a' n c' (enM bs L)) (K : Cks W al ln (ckR bs L (cnt len) 0 0)) (h : n ≤ 16777216) (hln : ln ≤ 4096) => pslice14_any a' al n c' ln lc (enM bs L) (ckR bs L (cnt len) 0 0) (p : Int) (q : Int) W B' K h hok hln (by clear hw5; omega) (by clear hw5; omega)
 rw [hdc] at hrd
 rw [hck] at hrc
 rw [hsl] at hrs
 clear hdc hck hsl hok
 generalize ckR bs L (cnt len) 0 0 = cl at *
 generalize enM bs L = E at *
 have HC : Hid _ := And.intro hen (And.intro hrd (And.intro hrc hrs))
 have HEB : Hid _ := hEb
 have HB : Hid _ := B
 have HN : Hid (p + q ≤ len ∧ len ≤ 40000 ∧ E.length ≤ 40240 ∧ cl.length ≤ 5) := ⟨hpq, hlen, hE2, by clear hw5; omega⟩
 have hw6 : IntKind.i64.wrap ((p : Int) + (q : Int)) = (p : Int) + (q : Int) := by rw [IntKind.wrap_i64]; clear hw5; omega
 have hd := hen a cap w B
 have hnc := B.nc
 have hp0 : ¬ (p : Int) < 0 := by clear hw5 hw6; omega
 have hq0 : ¬ (q : Int) < 0 := by clear hw5 hw6; omega
 have hw0 : IntKind.i64.wrap 0 = 0 := by decide
 clear B hen hrd hrc hrs hlb hEb hcl hpq hlen hE2 hEl hcn
 generalize cnt len = nk at *
 go_enter Try.func7, Try.ntmps7
 go_wp2_with fail
 refine hd.mono ?_
 clear hd
 intro e w2 k2
 obtain ⟨g, rfl, b2, _, g2⟩ := k2
 have B2 := b2.byte14 HEB.out (by have := HN.out; unfold maxLen; clear hw5 hw6; omega)
 have hd := HC.out.2.2.1 _ _ _ w2 B2 (by have := HN.out; clear hw5 hw6; omega)
 have H2 : Hid _ := And.intro g2 B2
 clear b2 g2 B2
 simp only
 go_wp2_with fail
 refine hd.mono ?_
 clear hd
 intro e w3 k3
 obtain ⟨a3, n3, c3, rfl, K3, nc3, g3⟩ := k3
 have hn3 : cl.length = n3 := K3.len_eq
 have hd := HC.out.2.2.2 _ a3 _ _ n3 c3 w3 (H2.out.2.grown g3) K3 (by have := HN.out; clear hw5 hw6; omega) (by have := HN.out; clear hw5 hw6; omega)
 have H3 : Hid _ := And.intro (grown_trans H2.out.1 g3) (H2.out.2.grown g3)
 clear K3 g3 H2 hn3
 simp only
 go_wp2_with fail
 refine hd.mono ?_
 clear hd
 intro e w4 k4
 obtain ⟨a4, n4, c4, rfl, B4, g4, _⟩ := k4
 have hd := HC.out.2.1 _ _ _ w4 (H3.out.2.grown g4) (by have := HN.out; clear hw5 hw6; omega)
 have H4 : Hid _ := And.intro (grown_trans H3.out.1 g4) B4
 clear B4 g4 H3 HC
 simp only
 go_wp2_with fail
 refine hd.mono ?_
 clear hd
 intro e w5 k5
 obtain ⟨a5, n5, c5, rfl, B5, g5, _⟩ := k5
 have H5 : Hid _ := And.intro (grown_trans H4.out.1 g5) (And.intro (H4.out.2.grown g5) (And.intro B5 (HB.out.grown (grown_trans H4.out.1 g5))))
 clear B5 g5 H4
 simp only
 go_wp2_with fail
 obtain ⟨sp, hsp⟩ : ∃ sp, strOfNums ((bs.drop p).take q) = sp := ⟨_, rfl⟩
 obtain ⟨sb, hsb⟩ : ∃ sb, strOfNums bs = sb := ⟨_, rfl⟩
 have HSP : Hid _ := hsp
 have HSB : Hid _ := hsb
 clear hsp hsb
 have cvp : ∀ V, w5.grownBy V none → (convert 22 9 (.slice a4 n4 c4)).run Try.prog V = .ok (.string sp) V := by intro V h; rw [← HSP.out]; exact conv_row (P := Try.prog) (H5.out.2.1.row.grown h) c4 22 9 Try.underlying22 Try.underlying5 Try.underlying9
 have cvd : ∀ V, w5.grownBy V none → (convert 22 9 (.slice a5 n5 c5)).run Try.prog V = .ok (.string sb) V := by intro V h; rw [← HSB.out]; exact conv_row (P := Try.prog) (H5.out.2.2.1.row.grown h) c5 22 9 Try.underlying22 Try.underlying5 Try.underlying9
 have cva : ∀ V, w5.grownBy V none → (convert 22 9 (.slice a len cap)).run Try.prog V = .ok (.string sb) V := by intro V h; rw [← HSB.out]; exact conv_row (P := Try.prog) (H5.out.2.2.2.row.grown h) cap 22 9 Try.underlying22 Try.underlying5 Try.underlying9
 have e1 : (0 : Int) ≤ (p : Int) + (q : Int) := by clear hw5 hw6; omega
 have e2 : ((p : Int) + (q : Int)).toNat = p + q := by clear hw5 hw6; omega
 have e4 : p + q - p = q := by clear hw5 hw6; omega
 have e5 : ¬ (p : Int) + (q : Int) < (p : Int) := by clear hw5 hw6; omega
 have e6 : ¬ (cap : Int) < (p : Int) + (q : Int) := by have := HN.out; clear hw5 hw6; omega
 by_cases hl0 : 0 < len
 ·skip
  obtain ⟨b, off, rfl, _⟩ := HB.out.row.cells hl0
  have hrow : ∀ V, w5.grownBy V none → Row V (if cap = p then some ⟨b, off, none⟩ else some ⟨b, off + p, none⟩) q ((bs.drop p).take q) := by
   intro V h
   by_cases hcp : cap = p
   ·have hq : q = 0 := by have := HN.out; clear hw5 hw6; omega
    subst hq
    rw [List.take_zero]
    exact row_zero14 _ _
   ·rw [if_neg hcp]
    exact (H5.out.2.2.2.row.grown h).part p q HN.out.1
  have cvs : ∀ V, w5.grownBy V none → (convert 22 9 (.slice (if cap = p then some ⟨b, off, none⟩ else some ⟨b, off + p, none⟩) q (cap - p))).run Try.prog V = .ok (.string sp) V := by intro V h; rw [← HSP.out]; exact conv_row (P := Try.prog) (hrow V h) (cap - p) 22 9 Try.underlying22 Try.underlying5 Try.underlying9
  obtain ⟨aS, haS⟩ : ∃ aS : Option Addr, (if cap = p then some ⟨b, off, none⟩ else some ⟨b, off + p, none⟩) = aS := ⟨_, rfl⟩
  rw [haS] at cvs
  clear hrow
  refine wp_region_held_drew (S := fun V => World.grownBy w5 V none) (by kernel_rfl) ⟨rfl, rfl, rfl, Nat.le_refl _, fun _ _ _ => rfl⟩ (fun hH => ?_)
  refine wpAnyH_take (i := 0) (oi := ⟨some 76, _, _, _, _, _⟩) (v := .int .i64 0) rfl (by kernel_rfl) (by kernel_rfl) (by kernel_rfl) (fun _ _ _ h => h) (Or.inl ⟨by rfl, fun w hSw => by go_simp⟩) hH ?_
  simp only [Act.put, pu]
  refine wpAnyH_take (i := 2) (oi := ⟨some 78, _, _, _, _, _⟩) (v := .int .i64 0) rfl (by kernel_rfl) (by kernel_rfl) (by kernel_rfl) (fun _ _ _ h => h) (Or.inl ⟨by rfl, fun w hSw => by go_simp⟩) hH ?_
  simp only [Act.put, pu]
  refine wpAnyH_take (i := 5) (oi := ⟨some 81, _, _, _, _, _⟩) (v := .int .i64 0) rfl (by kernel_rfl) (by kernel_rfl) (by kernel_rfl) (fun _ _ _ h => h) (Or.inl ⟨by rfl, fun w hSw => by go_simp⟩) hH ?_
  simp only [Act.put, pu]
  refine wpAnyH_ready (rs := [1]) (by kernel_rfl) (by simp) ?_
  refine AllReadyH.cons rfl (fun K hK => ?_) AllReadyH.nil
  go_simp
  go_wp2_with (go_at_call 14; with_reducible refine (num14_any _ _).mono ?_; rintro e wx ⟨rfl, rfl⟩)
  refine hK.out _ _ hH (fun _ => ?_)
  clear hK K
  refine wpAnyH_ready (rs := [3]) (by kernel_rfl) (by simp) ?_
  refine AllReadyH.cons rfl (fun K hK => ?_) AllReadyH.nil
  go_simp
  go_wp2_with (go_at_call 14; with_reducible refine (num14_any _ _).mono ?_; rintro e wx ⟨rfl, rfl⟩)
  refine hK.out _ _ hH (fun _ => ?_)
  clear hK K
  refine wpAnyH_take (i := 4) (oi := ⟨some 80, _, _, _, _, _⟩) (v := .int .i64 0) rfl (by kernel_rfl) (by kernel_rfl) (by kernel_rfl) (fun _ _ _ h => h) (Or.inl ⟨by rfl, fun w hSw => by go_simp⟩) hH ?_
  simp only [Act.put, pu]
  refine wpAnyH_ready (rs := [6]) (by kernel_rfl) (by simp) ?_
  refine AllReadyH.cons rfl (fun K hK => ?_) AllReadyH.nil
  go_simp
  go_wp2_with (go_at_call 14; with_reducible refine (num14_any _ _).mono ?_; rintro e wx ⟨rfl, rfl⟩)
  refine hK.out _ _ hH (fun _ => ?_)
  clear hK K
  refine wpAnyH_take (i := 7) (oi := ⟨some 83, _, _, _, _, _⟩) (v := .int .i64 0) rfl (by kernel_rfl) (by kernel_rfl) (by kernel_rfl) (fun _ _ _ h => h) (Or.inl ⟨by rfl, fun w hSw => by go_simp⟩) hH ?_
  simp only [Act.put, pu]
  refine wpAnyH_take (i := 8) (oi := ⟨some 84, _, _, _, _, _⟩) (v := .bool true) rfl (by kernel_rfl) (by kernel_rfl) (by kernel_rfl) (fun _ _ _ h => h) (Or.inl ⟨by rfl, fun w hSw => by go_simp⟩) hH ?_
  simp only [Act.put, pu]
  refine wpAnyH_take (i := 9) (oi := ⟨some 85, _, _, _, _, _⟩) (v := .bool true) rfl (by kernel_rfl) (by kernel_rfl) (by kernel_rfl) (fun _ _ _ h => h) (Or.inl ⟨by rfl, fun w hSw => by go_simp⟩) hH ?_
  simp only [Act.put, pu]
  refine wpAnyH_take (i := 10) (oi := ⟨some 86, _, _, _, _, _⟩) (v := .slice a4 n4 c4) rfl (by kernel_rfl) (by kernel_rfl) (by kernel_rfl) (fun _ _ _ h => h) (Or.inl ⟨by rfl, fun w hSw => by go_simp⟩) hH ?_
  simp only [Act.put, pu]
  refine wpAnyH_take (i := 11) (oi := ⟨some 87, _, _, _, _, _⟩) (v := .string sp) rfl (by kernel_rfl) (by kernel_rfl) (by kernel_rfl) (fun _ _ _ h => h) (Or.inl ⟨by rfl, fun w hSw => by have cq := cvp w hSw; go_simp⟩) hH ?_
  simp only [Act.put, pu]
  refine wpAnyH_take (i := 12) (oi := ⟨some 88, _, _, _, _, _⟩) (v := .slice (some ⟨b, off, none⟩) len cap) rfl (by kernel_rfl) (by kernel_rfl) (by kernel_rfl) (fun _ _ _ h => h) (Or.inl ⟨by rfl, fun w hSw => by go_simp⟩) hH ?_
  simp only [Act.put, pu]
  refine wpAnyH_take (i := 13) (oi := ⟨some 89, _, _, _, _, _⟩) (v := .int .i64 (p : Int)) rfl (by kernel_rfl) (by kernel_rfl) (by kernel_rfl) (fun _ _ _ h => h) (Or.inl ⟨by rfl, fun w hSw => by go_simp⟩) hH ?_
  simp only [Act.put, pu]
  refine wpAnyH_take (i := 14) (oi := ⟨some 90, _, _, _, _, _⟩) (v := .int .i64 (p : Int)) rfl (by kernel_rfl) (by kernel_rfl) (by kernel_rfl) (fun _ _ _ h => h) (Or.inl ⟨by rfl, fun w hSw => by go_simp⟩) hH ?_
  simp only [Act.put, pu]
  refine wpAnyH_take (i := 15) (oi := ⟨some 91, _, _, _, _, _⟩) (v := .int .i64 (q : Int)) rfl (by kernel_rfl) (by kernel_rfl) (by kernel_rfl) (fun _ _ _ h => h) (Or.inl ⟨by rfl, fun w hSw => by go_simp⟩) hH ?_
  simp only [Act.put, pu]
  refine wpAnyH_take (i := 16) (oi := ⟨some 92, _, _, _, _, _⟩) (v := .int .i64 ((p : Int) + (q : Int))) rfl (by kernel_rfl) (by kernel_rfl) (by kernel_rfl) (fun _ _ _ h => h) (Or.inl ⟨by rfl, fun w hSw => by go_simp⟩) hH ?_
  simp only [Act.put, pu]
  refine wpAnyH_take (i := 17) (oi := ⟨some 93, _, _, _, _, _⟩) (v := .slice aS q (cap - p)) rfl (by kernel_rfl) (by kernel_rfl) (by kernel_rfl) (fun _ _ _ h => h) (Or.inl ⟨by rfl, fun w hSw => by go_simp⟩) hH ?_
  simp only [Act.put, pu]
  refine wpAnyH_take (i := 18) (oi := ⟨some 94, _, _, _, _, _⟩) (v := .string sp) rfl (by kernel_rfl) (by kernel_rfl) (by kernel_rfl) (fun _ _ _ h => h) (Or.inl ⟨by rfl, fun w hSw => by have cq := cvs w hSw; go_simp⟩) hH ?_
  simp only [Act.put, pu]
  refine wpAnyH_take (i := 19) (oi := ⟨some 95, _, _, _, _, _⟩) (v := .bool true) rfl (by kernel_rfl) (by kernel_rfl) (by kernel_rfl) (fun _ _ _ h => h) (Or.inl ⟨by rfl, fun w hSw => by go_simp⟩) hH ?_
  simp only [Act.put, pu]
  refine wpAnyH_take (i := 20) (oi := ⟨some 96, _, _, _, _, _⟩) (v := .bool true) rfl (by kernel_rfl) (by kernel_rfl) (by kernel_rfl) (fun _ _ _ h => h) (Or.inl ⟨by rfl, fun w hSw => by go_simp⟩) hH ?_
  simp only [Act.put, pu]
  refine wpAnyH_take (i := 21) (oi := ⟨some 97, _, _, _, _, _⟩) (v := .bool true) rfl (by kernel_rfl) (by kernel_rfl) (by kernel_rfl) (fun _ _ _ h => h) (Or.inl ⟨by rfl, fun w hSw => by go_simp⟩) hH ?_
  simp only [Act.put, pu]
  refine wpAnyH_take (i := 22) (oi := ⟨some 98, _, _, _, _, _⟩) (v := .slice a5 n5 c5) rfl (by kernel_rfl) (by kernel_rfl) (by kernel_rfl) (fun _ _ _ h => h) (Or.inl ⟨by rfl, fun w hSw => by go_simp⟩) hH ?_
  simp only [Act.put, pu]
  refine wpAnyH_take (i := 23) (oi := ⟨some 99, _, _, _, _, _⟩) (v := .string sb) rfl (by kernel_rfl) (by kernel_rfl) (by kernel_rfl) (fun _ _ _ h => h) (Or.inl ⟨by rfl, fun w hSw => by have cq := cvd w hSw; go_simp⟩) hH ?_
  simp only [Act.put, pu]
  refine wpAnyH_take (i := 24) (oi := ⟨some 100, _, _, _, _, _⟩) (v := .slice (some ⟨b, off, none⟩) len cap) rfl (by kernel_rfl) (by kernel_rfl) (by kernel_rfl) (fun _ _ _ h => h) (Or.inl ⟨by rfl, fun w hSw => by go_simp⟩) hH ?_
  simp only [Act.put, pu]
  refine wpAnyH_take (i := 25) (oi := ⟨some 101, _, _, _, _, _⟩) (v := .string sb) rfl (by kernel_rfl) (by kernel_rfl) (by kernel_rfl) (fun _ _ _ h => h) (Or.inl ⟨by rfl, fun w hSw => by have cq := cva w hSw; go_simp⟩) hH ?_
  simp only [Act.put, pu]
  refine wpAnyH_take (i := 26) (oi := ⟨some 102, _, _, _, _, _⟩) (v := .bool true) rfl (by kernel_rfl) (by kernel_rfl) (by kernel_rfl) (fun _ _ _ h => h) (Or.inl ⟨by rfl, fun w hSw => by go_simp⟩) hH ?_
  simp only [Act.put, pu]
  refine wpAnyH_take (i := 27) (oi := ⟨some 103, _, _, _, _, _⟩) (v := .bool true) rfl (by kernel_rfl) (by kernel_rfl) (by kernel_rfl) (fun _ _ _ h => h) (Or.inl ⟨by rfl, fun w hSw => by go_simp⟩) hH ?_
  simp only [Act.put, pu]
  refine wpAnyH_take (i := 28) (oi := ⟨some 104, _, _, _, _, _⟩) (v := .bool true) rfl (by kernel_rfl) (by kernel_rfl) (by kernel_rfl) (fun _ _ _ h => h) (Or.inl ⟨by rfl, fun w hSw => by go_simp⟩) hH ?_
  simp only [Act.put, pu]
  refine wpAnyH_ready (rs := [29]) (by kernel_rfl) (by simp) ?_
  refine AllReadyH.cons rfl (fun K hK => ?_) AllReadyH.nil
  go_simp
  go_wp2_with (go_at_call 9; refine (live14_any _).mono ?_; rintro e wx ⟨rfl, gx⟩)
  replace hH := grown_trans hH gx
  refine hK.out _ _ hH (fun _ => ?_)
  clear hK K gx
  refine wpAnyH_take (i := 30) (oi := ⟨some 106, _, _, _, _, _⟩) (v := .bool true) rfl (by kernel_rfl) (by kernel_rfl) (by kernel_rfl) (fun _ _ _ h => h) (Or.inl ⟨by rfl, fun w hSw => by go_simp⟩) hH ?_
  simp only [Act.put, pu]
  refine wpAnyH_ready (rs := [31]) (by kernel_rfl) (by simp) ?_
  refine AllReadyH.cons rfl (fun K hK => ?_) AllReadyH.nil
  go_simp
  refine hK.out _ _ hH (fun _ => ?_)
  clear hK K
  refine wpAnyH_done (by kernel_rfl) ?_ _
  have HF : Hid _ := grown_trans H5.out.1 hH
  go_wp2_with fail
  go_ret
  exact ⟨rfl, grown_below HF.out⟩
 ·obtain rfl : len = 0 := by clear hw5 hw6; omega
  obtain rfl : p = 0 := by have := HN.out; clear hw5 hw6; omega
  obtain rfl : q = 0 := by have := HN.out; clear hw5 hw6; omega
  obtain rfl : bs = [] := List.eq_nil_of_length_eq_zero HB.out.row.len_eq
  rw [List.take_zero] at HSP
  obtain rfl : sp = sb := by rw [← HSP.out, ← HSB.out]
  cases a with
  | none =>
   obtain rfl : cap = 0 := HB.out.nil rfl
   have cvs : ∀ V, w5.grownBy V none → (convert 22 9 (.slice none 0 0)).run Try.prog V = .ok (.string sp) V := by intro V h; rw [← HSP.out]; exact conv_row (P := Try.prog) (row_zero14 V none) 0 22 9 Try.underlying22 Try.underlying5 Try.underlying9
   refine wp_region_held_drew (S := fun V => World.grownBy w5 V none) (by kernel_rfl) ⟨rfl, rfl, rfl, Nat.le_refl _, fun _ _ _ => rfl⟩ (fun hH => ?_)
   refine wpAnyH_take (i := 0) (oi := ⟨some 76, _, _, _, _, _⟩) (v := .int .i64 0) rfl (by kernel_rfl) (by kernel_rfl) (by kernel_rfl) (fun _ _ _ h => h) (Or.inl ⟨by rfl, fun w hSw => by go_simp⟩) hH ?_
   simp only [Act.put, pu]
   refine wpAnyH_take (i := 2) (oi := ⟨some 78, _, _, _, _, _⟩) (v := .int .i64 0) rfl (by kernel_rfl) (by kernel_rfl) (by kernel_rfl) (fun _ _ _ h => h) (Or.inl ⟨by rfl, fun w hSw => by go_simp⟩) hH ?_
   simp only [Act.put, pu]
   refine wpAnyH_take (i := 5) (oi := ⟨some 81, _, _, _, _, _⟩) (v := .int .i64 0) rfl (by kernel_rfl) (by kernel_rfl) (by kernel_rfl) (fun _ _ _ h => h) (Or.inl ⟨by rfl, fun w hSw => by go_simp⟩) hH ?_
   simp only [Act.put, pu]
   refine wpAnyH_ready (rs := [1]) (by kernel_rfl) (by simp) ?_
   refine AllReadyH.cons rfl (fun K hK => ?_) AllReadyH.nil
   go_simp
   go_wp2_with (go_at_call 14; with_reducible refine (num14_any _ _).mono ?_; rintro e wx ⟨rfl, rfl⟩)
   refine hK.out _ _ hH (fun _ => ?_)
   clear hK K
   refine wpAnyH_ready (rs := [3]) (by kernel_rfl) (by simp) ?_
   refine AllReadyH.cons rfl (fun K hK => ?_) AllReadyH.nil
   go_simp
   go_wp2_with (go_at_call 14; with_reducible refine (num14_any _ _).mono ?_; rintro e wx ⟨rfl, rfl⟩)
   refine hK.out _ _ hH (fun _ => ?_)
   clear hK K
   refine wpAnyH_take (i := 4) (oi := ⟨some 80, _, _, _, _, _⟩) (v := .int .i64 0) rfl (by kernel_rfl) (by kernel_rfl) (by kernel_rfl) (fun _ _ _ h => h) (Or.inl ⟨by rfl, fun w hSw => by go_simp⟩) hH ?_
   simp only [Act.put, pu]
   refine wpAnyH_ready (rs := [6]) (by kernel_rfl) (by simp) ?_
   refine AllReadyH.cons rfl (fun K hK => ?_) AllReadyH.nil
   go_simp
   go_wp2_with (go_at_call 14; with_reducible refine (num14_any _ _).mono ?_; rintro e wx ⟨rfl, rfl⟩)
   refine hK.out _ _ hH (fun _ => ?_)
   clear hK K
   refine wpAnyH_take (i := 7) (oi := ⟨some 83, _, _, _, _, _⟩) (v := .int .i64 0) rfl (by kernel_rfl) (by kernel_rfl) (by kernel_rfl) (fun _ _ _ h => h) (Or.inl ⟨by rfl, fun w hSw => by go_simp⟩) hH ?_
   simp only [Act.put, pu]
   refine wpAnyH_take (i := 8) (oi := ⟨some 84, _, _, _, _, _⟩) (v := .bool true) rfl (by kernel_rfl) (by kernel_rfl) (by kernel_rfl) (fun _ _ _ h => h) (Or.inl ⟨by rfl, fun w hSw => by go_simp⟩) hH ?_
   simp only [Act.put, pu]
   refine wpAnyH_take (i := 9) (oi := ⟨some 85, _, _, _, _, _⟩) (v := .bool true) rfl (by kernel_rfl) (by kernel_rfl) (by kernel_rfl) (fun _ _ _ h => h) (Or.inl ⟨by rfl, fun w hSw => by go_simp⟩) hH ?_
   simp only [Act.put, pu]
   refine wpAnyH_take (i := 10) (oi := ⟨some 86, _, _, _, _, _⟩) (v := .slice a4 n4 c4) rfl (by kernel_rfl) (by kernel_rfl) (by kernel_rfl) (fun _ _ _ h => h) (Or.inl ⟨by rfl, fun w hSw => by go_simp⟩) hH ?_
   simp only [Act.put, pu]
   refine wpAnyH_take (i := 11) (oi := ⟨some 87, _, _, _, _, _⟩) (v := .string sp) rfl (by kernel_rfl) (by kernel_rfl) (by kernel_rfl) (fun _ _ _ h => h) (Or.inl ⟨by rfl, fun w hSw => by have cq := cvp w hSw; go_simp⟩) hH ?_
   simp only [Act.put, pu]
   refine wpAnyH_take (i := 12) (oi := ⟨some 88, _, _, _, _, _⟩) (v := .slice none 0 0) rfl (by kernel_rfl) (by kernel_rfl) (by kernel_rfl) (fun _ _ _ h => h) (Or.inl ⟨by rfl, fun w hSw => by go_simp⟩) hH ?_
   simp only [Act.put, pu]
   refine wpAnyH_take (i := 13) (oi := ⟨some 89, _, _, _, _, _⟩) (v := .int .i64 0) rfl (by kernel_rfl) (by kernel_rfl) (by kernel_rfl) (fun _ _ _ h => h) (Or.inl ⟨by rfl, fun w hSw => by go_simp⟩) hH ?_
   simp only [Act.put, pu]
   refine wpAnyH_take (i := 14) (oi := ⟨some 90, _, _, _, _, _⟩) (v := .int .i64 0) rfl (by kernel_rfl) (by kernel_rfl) (by kernel_rfl) (fun _ _ _ h => h) (Or.inl ⟨by rfl, fun w hSw => by go_simp⟩) hH ?_
   simp only [Act.put, pu]
   refine wpAnyH_take (i := 15) (oi := ⟨some 91, _, _, _, _, _⟩) (v := .int .i64 0) rfl (by kernel_rfl) (by kernel_rfl) (by kernel_rfl) (fun _ _ _ h => h) (Or.inl ⟨by rfl, fun w hSw => by go_simp⟩) hH ?_
   simp only [Act.put, pu]
   refine wpAnyH_take (i := 16) (oi := ⟨some 92, _, _, _, _, _⟩) (v := .int .i64 0) rfl (by kernel_rfl) (by kernel_rfl) (by kernel_rfl) (fun _ _ _ h => h) (Or.inl ⟨by rfl, fun w hSw => by go_simp⟩) hH ?_
   simp only [Act.put, pu]
   refine wpAnyH_take (i := 17) (oi := ⟨some 93, _, _, _, _, _⟩) (v := .slice none 0 0) rfl (by kernel_rfl) (by kernel_rfl) (by kernel_rfl) (fun _ _ _ h => h) (Or.inl ⟨by rfl, fun w hSw => by go_simp⟩) hH ?_
   simp only [Act.put, pu]
   refine wpAnyH_take (i := 18) (oi := ⟨some 94, _, _, _, _, _⟩) (v := .string sp) rfl (by kernel_rfl) (by kernel_rfl) (by kernel_rfl) (fun _ _ _ h => h) (Or.inl ⟨by rfl, fun w hSw => by have cq := cvs w hSw; go_simp⟩) hH ?_
   simp only [Act.put, pu]
   refine wpAnyH_take (i := 19) (oi := ⟨some 95, _, _, _, _, _⟩) (v := .bool true) rfl (by kernel_rfl) (by kernel_rfl) (by kernel_rfl) (fun _ _ _ h => h) (Or.inl ⟨by rfl, fun w hSw => by go_simp⟩) hH ?_
   simp only [Act.put, pu]
   refine wpAnyH_take (i := 20) (oi := ⟨some 96, _, _, _, _, _⟩) (v := .bool true) rfl (by kernel_rfl) (by kernel_rfl) (by kernel_rfl) (fun _ _ _ h => h) (Or.inl ⟨by rfl, fun w hSw => by go_simp⟩) hH ?_
   simp only [Act.put, pu]
   refine wpAnyH_take (i := 21) (oi := ⟨some 97, _, _, _, _, _⟩) (v := .bool true) rfl (by kernel_rfl) (by kernel_rfl) (by kernel_rfl) (fun _ _ _ h => h) (Or.inl ⟨by rfl, fun w hSw => by go_simp⟩) hH ?_
   simp only [Act.put, pu]
   refine wpAnyH_take (i := 22) (oi := ⟨some 98, _, _, _, _, _⟩) (v := .slice a5 n5 c5) rfl (by kernel_rfl) (by kernel_rfl) (by kernel_rfl) (fun _ _ _ h => h) (Or.inl ⟨by rfl, fun w hSw => by go_simp⟩) hH ?_
   simp only [Act.put, pu]
   refine wpAnyH_take (i := 23) (oi := ⟨some 99, _, _, _, _, _⟩) (v := .string sp) rfl (by kernel_rfl) (by kernel_rfl) (by kernel_rfl) (fun _ _ _ h => h) (Or.inl ⟨by rfl, fun w hSw => by have cq := cvd w hSw; go_simp⟩) hH ?_
   simp only [Act.put, pu]
   refine wpAnyH_take (i := 24) (oi := ⟨some 100, _, _, _, _, _⟩) (v := .slice none 0 0) rfl (by kernel_rfl) (by kernel_rfl) (by kernel_rfl) (fun _ _ _ h => h) (Or.inl ⟨by rfl, fun w hSw => by go_simp⟩) hH ?_
   simp only [Act.put, pu]
   refine wpAnyH_take (i := 25) (oi := ⟨some 101, _, _, _, _, _⟩) (v := .string sp) rfl (by kernel_rfl) (by kernel_rfl) (by kernel_rfl) (fun _ _ _ h => h) (Or.inl ⟨by rfl, fun w hSw => by have cq := cva w hSw; go_simp⟩) hH ?_
   simp only [Act.put, pu]
   refine wpAnyH_take (i := 26) (oi := ⟨some 102, _, _, _, _, _⟩) (v := .bool true) rfl (by kernel_rfl) (by kernel_rfl) (by kernel_rfl) (fun _ _ _ h => h) (Or.inl ⟨by rfl, fun w hSw => by go_simp⟩) hH ?_
   simp only [Act.put, pu]
   refine wpAnyH_take (i := 27) (oi := ⟨some 103, _, _, _, _, _⟩) (v := .bool true) rfl (by kernel_rfl) (by kernel_rfl) (by kernel_rfl) (fun _ _ _ h => h) (Or.inl ⟨by rfl, fun w hSw => by go_simp⟩) hH ?_
   simp only [Act.put, pu]
   refine wpAnyH_take (i := 28) (oi := ⟨some 104, _, _, _, _, _⟩) (v := .bool true) rfl (by kernel_rfl) (by kernel_rfl) (by kernel_rfl) (fun _ _ _ h => h) (Or.inl ⟨by rfl, fun w hSw => by go_simp⟩) hH ?_
   simp only [Act.put, pu]
   refine wpAnyH_ready (rs := [29]) (by kernel_rfl) (by simp) ?_
   refine AllReadyH.cons rfl (fun K hK => ?_) AllReadyH.nil
   go_simp
   go_wp2_with (go_at_call 9; refine (live14_any _).mono ?_; rintro e wx ⟨rfl, gx⟩)
   replace hH := grown_trans hH gx
   refine hK.out _ _ hH (fun _ => ?_)
   clear hK K gx
   refine wpAnyH_take (i := 30) (oi := ⟨some 106, _, _, _, _, _⟩) (v := .bool true) rfl (by kernel_rfl) (by kernel_rfl) (by kernel_rfl) (fun _ _ _ h => h) (Or.inl ⟨by rfl, fun w hSw => by go_simp⟩) hH ?_
   simp only [Act.put, pu]
   refine wpAnyH_ready (rs := [31]) (by kernel_rfl) (by simp) ?_
   refine AllReadyH.cons rfl (fun K hK => ?_) AllReadyH.nil
   go_simp
   refine hK.out _ _ hH (fun _ => ?_)
   clear hK K
   refine wpAnyH_done (by kernel_rfl) ?_ _
   have HF : Hid _ := grown_trans H5.out.1 hH
   go_wp2_with fail
   go_ret
   exact ⟨rfl, grown_below HF.out⟩
  | some x =>
   have cvs : ∀ V, w5.grownBy V none → (convert 22 9 (.slice (some x) 0 cap)).run Try.prog V = .ok (.string sp) V := by intro V h; rw [← HSP.out]; exact conv_row (P := Try.prog) (row_zero14 V (some x)) cap 22 9 Try.underlying22 Try.underlying5 Try.underlying9
   have ea : x.add 0 = x := by unfold Addr.add; split <;> simp_all
   refine wp_region_held_drew (S := fun V => World.grownBy w5 V none) (by kernel_rfl) ⟨rfl, rfl, rfl, Nat.le_refl _, fun _ _ _ => rfl⟩ (fun hH => ?_)
   refine wpAnyH_take (i := 0) (oi := ⟨some 76, _, _, _, _, _⟩) (v := .int .i64 0) rfl (by kernel_rfl) (by kernel_rfl) (by kernel_rfl) (fun _ _ _ h => h) (Or.inl ⟨by rfl, fun w hSw => by go_simp⟩) hH ?_
   simp only [Act.put, pu]
   refine wpAnyH_take (i := 2) (oi := ⟨some 78, _, _, _, _, _⟩) (v := .int .i64 0) rfl (by kernel_rfl) (by kernel_rfl) (by kernel_rfl) (fun _ _ _ h => h) (Or.inl ⟨by rfl, fun w hSw => by go_simp⟩) hH ?_
   simp only [Act.put, pu]
   refine wpAnyH_take (i := 5) (oi := ⟨some 81, _, _, _, _, _⟩) (v := .int .i64 0) rfl (by kernel_rfl) (by kernel_rfl) (by kernel_rfl) (fun _ _ _ h => h) (Or.inl ⟨by rfl, fun w hSw => by go_simp⟩) hH ?_
   simp only [Act.put, pu]
   refine wpAnyH_ready (rs := [1]) (by kernel_rfl) (by simp) ?_
   refine AllReadyH.cons rfl (fun K hK => ?_) AllReadyH.nil
   go_simp
   go_wp2_with (go_at_call 14; with_reducible refine (num14_any _ _).mono ?_; rintro e wx ⟨rfl, rfl⟩)
   refine hK.out _ _ hH (fun _ => ?_)
   clear hK K
   refine wpAnyH_ready (rs := [3]) (by kernel_rfl) (by simp) ?_
   refine AllReadyH.cons rfl (fun K hK => ?_) AllReadyH.nil
   go_simp
   go_wp2_with (go_at_call 14; with_reducible refine (num14_any _ _).mono ?_; rintro e wx ⟨rfl, rfl⟩)
   refine hK.out _ _ hH (fun _ => ?_)
   clear hK K
   refine wpAnyH_take (i := 4) (oi := ⟨some 80, _, _, _, _, _⟩) (v := .int .i64 0) rfl (by kernel_rfl) (by kernel_rfl) (by kernel_rfl) (fun _ _ _ h => h) (Or.inl ⟨by rfl, fun w hSw => by go_simp⟩) hH ?_
   simp only [Act.put, pu]
   refine wpAnyH_ready (rs := [6]) (by kernel_rfl) (by simp) ?_
   refine AllReadyH.cons rfl (fun K hK => ?_) AllReadyH.nil
   go_simp
   go_wp2_with (go_at_call 14; with_reducible refine (num14_any _ _).mono ?_; rintro e wx ⟨rfl, rfl⟩)
   refine hK.out _ _ hH (fun _ => ?_)
   clear hK K
   refine wpAnyH_take (i := 7) (oi := ⟨some 83, _, _, _, _, _⟩) (v := .int .i64 0) rfl (by kernel_rfl) (by kernel_rfl) (by kernel_rfl) (fun _ _ _ h => h) (Or.inl ⟨by rfl, fun w hSw => by go_simp⟩) hH ?_
   simp only [Act.put, pu]
   refine wpAnyH_take (i := 8) (oi := ⟨some 84, _, _, _, _, _⟩) (v := .bool true) rfl (by kernel_rfl) (by kernel_rfl) (by kernel_rfl) (fun _ _ _ h => h) (Or.inl ⟨by rfl, fun w hSw => by go_simp⟩) hH ?_
   simp only [Act.put, pu]
   refine wpAnyH_take (i := 9) (oi := ⟨some 85, _, _, _, _, _⟩) (v := .bool true) rfl (by kernel_rfl) (by kernel_rfl) (by kernel_rfl) (fun _ _ _ h => h) (Or.inl ⟨by rfl, fun w hSw => by go_simp⟩) hH ?_
   simp only [Act.put, pu]
   refine wpAnyH_take (i := 10) (oi := ⟨some 86, _, _, _, _, _⟩) (v := .slice a4 n4 c4) rfl (by kernel_rfl) (by kernel_rfl) (by kernel_rfl) (fun _ _ _ h => h) (Or.inl ⟨by rfl, fun w hSw => by go_simp⟩) hH ?_
   simp only [Act.put, pu]
   refine wpAnyH_take (i := 11) (oi := ⟨some 87, _, _, _, _, _⟩) (v := .string sp) rfl (by kernel_rfl) (by kernel_rfl) (by kernel_rfl) (fun _ _ _ h => h) (Or.inl ⟨by rfl, fun w hSw => by have cq := cvp w hSw; go_simp⟩) hH ?_
   simp only [Act.put, pu]
   refine wpAnyH_take (i := 12) (oi := ⟨some 88, _, _, _, _, _⟩) (v := .slice (some x) 0 cap) rfl (by kernel_rfl) (by kernel_rfl) (by kernel_rfl) (fun _ _ _ h => h) (Or.inl ⟨by rfl, fun w hSw => by go_simp⟩) hH ?_
   simp only [Act.put, pu]
   refine wpAnyH_take (i := 13) (oi := ⟨some 89, _, _, _, _, _⟩) (v := .int .i64 0) rfl (by kernel_rfl) (by kernel_rfl) (by kernel_rfl) (fun _ _ _ h => h) (Or.inl ⟨by rfl, fun w hSw => by go_simp⟩) hH ?_
   simp only [Act.put, pu]
   refine wpAnyH_take (i := 14) (oi := ⟨some 90, _, _, _, _, _⟩) (v := .int .i64 0) rfl (by kernel_rfl) (by kernel_rfl) (by kernel_rfl) (fun _ _ _ h => h) (Or.inl ⟨by rfl, fun w hSw => by go_simp⟩) hH ?_
   simp only [Act.put, pu]
   refine wpAnyH_take (i := 15) (oi := ⟨some 91, _, _, _, _, _⟩) (v := .int .i64 0) rfl (by kernel_rfl) (by kernel_rfl) (by kernel_rfl) (fun _ _ _ h => h) (Or.inl ⟨by rfl, fun w hSw => by go_simp⟩) hH ?_
   simp only [Act.put, pu]
   refine wpAnyH_take (i := 16) (oi := ⟨some 92, _, _, _, _, _⟩) (v := .int .i64 0) rfl (by kernel_rfl) (by kernel_rfl) (by kernel_rfl) (fun _ _ _ h => h) (Or.inl ⟨by rfl, fun w hSw => by go_simp⟩) hH ?_
   simp only [Act.put, pu]
   refine wpAnyH_take (i := 17) (oi := ⟨some 93, _, _, _, _, _⟩) (v := .slice (some x) 0 cap) rfl (by kernel_rfl) (by kernel_rfl) (by kernel_rfl) (fun _ _ _ h => h) (Or.inl ⟨by rfl, fun w hSw => by go_simp⟩) hH ?_
   simp only [Act.put, pu]
   refine wpAnyH_take (i := 18) (oi := ⟨some 94, _, _, _, _, _⟩) (v := .string sp) rfl (by kernel_rfl) (by kernel_rfl) (by kernel_rfl) (fun _ _ _ h => h) (Or.inl ⟨by rfl, fun w hSw => by have cq := cvs w hSw; go_simp⟩) hH ?_
   simp only [Act.put, pu]
   refine wpAnyH_take (i := 19) (oi := ⟨some 95, _, _, _, _, _⟩) (v := .bool true) rfl (by kernel_rfl) (by kernel_rfl) (by kernel_rfl) (fun _ _ _ h => h) (Or.inl ⟨by rfl, fun w hSw => by go_simp⟩) hH ?_
   simp only [Act.put, pu]
   refine wpAnyH_take (i := 20) (oi := ⟨some 96, _, _, _, _, _⟩) (v := .bool true) rfl (by kernel_rfl) (by kernel_rfl) (by kernel_rfl) (fun _ _ _ h => h) (Or.inl ⟨by rfl, fun w hSw => by go_simp⟩) hH ?_
   simp only [Act.put, pu]
   refine wpAnyH_take (i := 21) (oi := ⟨some 97, _, _, _, _, _⟩) (v := .bool true) rfl (by kernel_rfl) (by kernel_rfl) (by kernel_rfl) (fun _ _ _ h => h) (Or.inl ⟨by rfl, fun w hSw => by go_simp⟩) hH ?_
   simp only [Act.put, pu]
   refine wpAnyH_take (i := 22) (oi := ⟨some 98, _, _, _, _, _⟩) (v := .slice a5 n5 c5) rfl (by kernel_rfl) (by kernel_rfl) (by kernel_rfl) (fun _ _ _ h => h) (Or.inl ⟨by rfl, fun w hSw => by go_simp⟩) hH ?_
   simp only [Act.put, pu]
   refine wpAnyH_take (i := 23) (oi := ⟨some 99, _, _, _, _, _⟩) (v := .string sp) rfl (by kernel_rfl) (by kernel_rfl) (by kernel_rfl) (fun _ _ _ h => h) (Or.inl ⟨by rfl, fun w hSw => by have cq := cvd w hSw; go_simp⟩) hH ?_
   simp only [Act.put, pu]
   refine wpAnyH_take (i := 24) (oi := ⟨some 100, _, _, _, _, _⟩) (v := .slice (some x) 0 cap) rfl (by kernel_rfl) (by kernel_rfl) (by kernel_rfl) (fun _ _ _ h => h) (Or.inl ⟨by rfl, fun w hSw => by go_simp⟩) hH ?_
   simp only [Act.put, pu]
   refine wpAnyH_take (i := 25) (oi := ⟨some 101, _, _, _, _, _⟩) (v := .string sp) rfl (by kernel_rfl) (by kernel_rfl) (by kernel_rfl) (fun _ _ _ h => h) (Or.inl ⟨by rfl, fun w hSw => by have cq := cva w hSw; go_simp⟩) hH ?_
   simp only [Act.put, pu]
   refine wpAnyH_take (i := 26) (oi := ⟨some 102, _, _, _, _, _⟩) (v := .bool true) rfl (by kernel_rfl) (by kernel_rfl) (by kernel_rfl) (fun _ _ _ h => h) (Or.inl ⟨by rfl, fun w hSw => by go_simp⟩) hH ?_
   simp only [Act.put, pu]
   refine wpAnyH_take (i := 27) (oi := ⟨some 103, _, _, _, _, _⟩) (v := .bool true) rfl (by kernel_rfl) (by kernel_rfl) (by kernel_rfl) (fun _ _ _ h => h) (Or.inl ⟨by rfl, fun w hSw => by go_simp⟩) hH ?_
   simp only [Act.put, pu]
   refine wpAnyH_take (i := 28) (oi := ⟨some 104, _, _, _, _, _⟩) (v := .bool true) rfl (by kernel_rfl) (by kernel_rfl) (by kernel_rfl) (fun _ _ _ h => h) (Or.inl ⟨by rfl, fun w hSw => by go_simp⟩) hH ?_
   simp only [Act.put, pu]
   refine wpAnyH_ready (rs := [29]) (by kernel_rfl) (by simp) ?_
   refine AllReadyH.cons rfl (fun K hK => ?_) AllReadyH.nil
   go_simp
   go_wp2_with (go_at_call 9; refine (live14_any _).mono ?_; rintro e wx ⟨rfl, gx⟩)
   replace hH := grown_trans hH gx
   refine hK.out _ _ hH (fun _ => ?_)
   clear hK K gx
   refine wpAnyH_take (i := 30) (oi := ⟨some 106, _, _, _, _, _⟩) (v := .bool true) rfl (by kernel_rfl) (by kernel_rfl) (by kernel_rfl) (fun _ _ _ h => h) (Or.inl ⟨by rfl, fun w hSw => by go_simp⟩) hH ?_
   simp only [Act.put, pu]
   refine wpAnyH_ready (rs := [31]) (by kernel_rfl) (by simp) ?_
   refine AllReadyH.cons rfl (fun K hK => ?_) AllReadyH.nil
   go_simp
   refine hK.out _ _ hH (fun _ => ?_)
   clear hK K
   refine wpAnyH_done (by kernel_rfl) ?_ _
   have HF : Hid _ := grown_trans H5.out.1 hH
   go_wp2_with fail
   go_ret
   exact ⟨rfl, grown_below HF.out⟩
end Go.Proofs.Ytkkigpobhagnfaa
