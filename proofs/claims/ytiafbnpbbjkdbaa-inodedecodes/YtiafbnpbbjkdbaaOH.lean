/- An inode's fields go to the writer one by one. -/
import Derived.Test.YtiafbnpbbjkdbaaOG
namespace Go.Proofs.Ytiafbnpbbjkdbaa
open Go.RowKit
set_option maxRecDepth 100000
set_option linter.unusedSimpArgs false
set_option linter.unusedVariables false
/-- where a walk through an inode stands: the writer at p took bs, the inode at g is n -/
structure Wst (w W : World) (p g q : Nat) (n : Nd) (v : Value) (bs : List Int) : Prop where
  wi : WInv W p v bs 262192 0
  bx : Bx W g 24 n.cells
  gr : w.grownBy W none
  lo : w.heap.size ≤ g
  lp : g < p
  bq : Bx W q 48 [.pointer (some ⟨p, 0, none⟩)]
  nq : q ≠ p ∧ q ≠ g ∧ some q ≠ v.ownBlock
theorem Wst.ne {w W : World} {p g q : Nat} {n : Nd} {v : Value} {bs : List Int} (h : Wst w W p g q n v bs) : g ≠ p ∧ some g ≠ v.ownBlock := ⟨by have := h.lp; omega, fun q => by have := (h.wi.own.lt g q.symm).1; have := h.lp; omega⟩
theorem Wst.next {w W W' : World} {p g q : Nat} {n : Nd} {v v' : Value} {bs bs' : List Int} (h : Wst w W p g q n v bs) (i : WInv W' p v' bs' 262192 0) (c : Chg W W' p v v') : Wst w W' p g q n v' bs' := by
  refine ⟨i, ⟨by rw [c.block g h.bx.lt h.ne.1 h.ne.2]; exact h.bx.blk⟩, ⟨c.os.trans h.gr.os, c.tape.trans h.gr.tape, c.output.trans h.gr.output, Nat.le_trans h.gr.size c.size, fun k hk _ => ?_⟩, h.lo, h.lp, ⟨by rw [c.block q h.bq.lt h.nq.1 h.nq.2.2]; exact h.bq.blk⟩, h.nq.1, h.nq.2.1, c.apart h.bq.lt h.nq.2.2⟩
  rw [c.block k (Nat.lt_of_lt_of_le hk h.gr.size) (by have := h.lo; have := h.lp; omega) (fun q => by have := (h.wi.own.lt k q.symm).1; have := h.lp; have := h.lo; omega)]
  exact h.gr.block k hk (by simp)
theorem Bx.same {W : World} {g : Nat} {T : TypeId} {cs : List Value} (h : Bx W g T cs) (i : Nat) (v : Value) (hv : cs[i]? = some v) : Bx (W.setCell ⟨g, i, none⟩ v) g T cs := by
  have k := h.set i v
  have e : cs.set i v = cs := by
    apply List.ext_getElem?
    intro j
    rw [List.getElem?_set]
    split
    · rename_i e
      subst e
      split
      · exact hv.symm
      · rename_i hl
        rw [List.getElem?_eq_none (by omega)]
    · rfl
  rw [e] at k
  exact k
theorem Wst.put {w W : World} {p g q i : Nat} {n : Nd} {v x : Value} {bs : List Int} (h : Wst w W p g q n v bs) (hx : n.cells[i]? = some x) : Wst w (W.setCell ⟨g, i, none⟩ x) p g q n v bs := by
  have k := grown_set W g i x
  refine ⟨⟨h.wi.blk.grown k (by have := h.lp; simp; omega), h.wi.own.kept k (Or.inr (Ne.symm h.ne.2)), h.wi.byt⟩, h.bx.same i x hx, ?_, h.lo, h.lp, ⟨by rw [k.block q h.bq.lt (by have := h.nq.2.1; simp; omega)]; exact h.bq.blk⟩, h.nq⟩
  exact ⟨k.os.trans h.gr.os, k.tape.trans h.gr.tape, k.output.trans h.gr.output, Nat.le_trans h.gr.size k.size, fun j hj _ => by
    rw [k.block j (Nat.lt_of_lt_of_le hj h.gr.size) (by have := h.lo; simp; omega)]
    exact h.gr.block j hj (by simp)⟩
/-- one number of the inode -/
theorem wst_num {w W : World} {p g q i : Nat} {n : Nd} {v : Value} {bs : List Int} (h : Wst w W p g q n v bs) (x : Int) (hx : n.cells[i]? = some (.int .i64 x)) (m : Nat) (h0 : 0 ≤ x) (h1 : x ≤ 9223372036854775807) (hck : ckE x m = 0) (hl : bs.length + m ≤ 262192) :
    Calls Try.prog 20 #[wr15 p, .pointer (some ⟨g, i, none⟩), .int .i64 m] W fun e W' => e = .returned (.tuple #[]) ∧ ∃ v', Wst w W' p g q n v' (bs ++ sto x m) :=
  (w15num p g i x m v bs W h.wi (by rw [h.bx.c]; exact hx) h.ne.1 h.ne.2 h0 h1 hck hl).mono fun e W' ⟨a, v', b, c⟩ => ⟨a, v', h.next b c⟩
theorem wst_signed {w W : World} {p g q i : Nat} {n : Nd} {v : Value} {bs : List Int} (h : Wst w W p g q n v bs) (x : Int) (hx : n.cells[i]? = some (.int .i64 x)) (h0 : -1 ≤ x) (h1 : x ≤ 2147483647) (hl : bs.length + 4 ≤ 262192) :
    Calls Try.prog 35 #[.pointer (some ⟨g, i, none⟩), .func (.func 20) #[wr15 p] #[]] W fun e W' => e = .returned (.tuple #[]) ∧ ∃ v', Wst w W' p g q n v' (bs ++ sto x 4) :=
  (w15signed p g i x v bs W h.wi (by rw [h.bx.c]; exact hx) (fun V c => (Bx.f ⟨by rw [c.block g h.bx.lt h.ne.1 h.ne.2]; exact h.bx.blk⟩ i : V.frozen? ⟨g, i, none⟩ = false)) h.ne.1 h.ne.2 h0 h1 hl).mono fun e W' ⟨a, v', V, b, c, d⟩ => ⟨a, v', by rw [d]; exact (h.next b c).put hx⟩
theorem wst_text {w W : World} {p g q i : Nat} {n : Nd} {v : Value} {bs : List Int} (h : Wst w W p g q n v bs) (s : ByteArray) (hx : n.cells[i]? = some (.string s)) (hs : s.size ≤ 4096) (hl : bs.length ≤ 100000) :
    Calls Try.prog 22 #[wr15 p, .pointer (some ⟨g, i, none⟩)] W fun e W' => e = .returned (.tuple #[]) ∧ ∃ v', Wst w W' p g q n v' (bs ++ (sto s.size 2 ++ nums s)) :=
  (w15text p g i s v bs W h.wi (by rw [h.bx.c]; exact hx) h.ne.1 h.ne.2 hs hl).mono fun e W' ⟨a, v', b, c⟩ => ⟨a, v', h.next b c⟩
theorem wst_words {w W : World} {p g q : Nat} {n : Nd} {v : Value} {bs : List Int} (h : Wst w W p g q n v bs) (hn : n.ok w) (hw : ∀ x ∈ n.ws, 0 ≤ x ∧ x ≤ 4294967295) (hl6 : n.wl ≤ 65536) (hl : bs.length + 4 + 4 * n.wl ≤ 262192) :
    Calls Try.prog 21 #[wr15 p, .pointer (some ⟨g, 9, none⟩)] W fun e W' => e = .returned (.tuple #[]) ∧ ∃ v', Wst w W' p g q n v' (bs ++ (sto n.wl 4 ++ wds n.ws)) := by
  refine (w15words p g 9 n.wa n.wl n.wc n.ws v bs W h.wi (by rw [h.bx.c]; rfl) h.ne.1 h.ne.2 (hn.row.grown h.gr) (fun b off e h0 => ?_) hw hl hl6).mono fun e W' ⟨a, v', b, c⟩ => ⟨a, v', h.next b c⟩
  obtain ⟨b', off', e', hc⟩ := hn.row.cells h0
  rw [e] at e'
  injection e' with e'
  injection e' with e1 e2
  subst e1
  have := cell_lt (hc 0 h0)
  exact ⟨by have := h.lo; have := h.lp; omega, fun q => by have := (h.wi.own.lt b q.symm).1; have := h.lp; have := h.lo; omega⟩
/-- the bytes of what all kinds have -/
def hdb15 (n : Nd) : List Int := ((((((([] ++ sto n.kd 2) ++ sto n.md 2) ++ sto n.ui 2) ++ sto n.gi 2) ++ sto n.tm 4) ++ sto n.ln 4) ++ sto n.at_ 4)
def kb1 (n : Nd) (h : List Int) : List Int := ((((((h ++ sto n.sz 8) ++ sto n.st 4) ++ sto n.fr 4) ++ sto n.of_ 4) ++ sto n.tl 4) ++ (sto n.wl 4 ++ wds n.ws))
def kb2 (n : Nd) (h : List Int) : List Int := (((h ++ sto n.dr 4) ++ sto n.by_ 4) ++ sto n.pr 4)
def kb3 (n : Nd) (h : List Int) : List Int := (h ++ (sto n.tg.size 2 ++ nums n.tg))
def kb4 (n : Nd) (h : List Int) : List Int := (h ++ sto n.dv 4)
/-- an inode as bytes -/
def enb15 (n : Nd) : List Int := if n.kd = 1 then kb1 n (hdb15 n) else if n.kd = 2 then kb2 n (hdb15 n) else if n.kd = 3 then kb3 n (hdb15 n) else kb4 n (hdb15 n)
theorem hdb15_len (n : Nd) : (hdb15 n).length = 20 := by unfold hdb15; simp only [List.length_append, sto_length, List.length_nil]
/-- what a right inode's numbers are -/
structure Rt15 (n : Nd) : Prop where
  kd : 1 ≤ n.kd ∧ n.kd ≤ 5
  md : 0 ≤ n.md ∧ n.md ≤ 4095
  ui : 0 ≤ n.ui ∧ n.ui ≤ 65535
  gi : 0 ≤ n.gi ∧ n.gi ≤ 65535
  tm : 0 ≤ n.tm ∧ n.tm ≤ 4294967295
  ln : 1 ≤ n.ln ∧ n.ln ≤ 4294967295
  at_ : -1 ≤ n.at_ ∧ n.at_ ≤ 16777216
  k1 : n.kd = 1 → (0 ≤ n.sz ∧ n.sz ≤ 1099511627775) ∧ (0 ≤ n.st ∧ n.st ≤ 8388608) ∧ (-1 ≤ n.fr ∧ n.fr ≤ 65535) ∧ (0 ≤ n.of_ ∧ n.of_ ≤ 1048575) ∧ (0 ≤ n.tl ∧ n.tl ≤ 1048575) ∧ n.wl ≤ 65536 ∧ (∀ x ∈ n.ws, 0 ≤ x ∧ x ≤ 4294967295)
  k2 : n.kd = 2 → (0 ≤ n.dr ∧ n.dr ≤ 16777216) ∧ (0 ≤ n.by_ ∧ n.by_ ≤ 16777216) ∧ (0 ≤ n.pr ∧ n.pr ≤ 16384)
  k3 : n.kd = 3 → 1 ≤ n.tg.size ∧ n.tg.size ≤ 4096 ∧ has0 n.tg = false
  k4 : 3 < n.kd → 0 ≤ n.dv ∧ n.dv ≤ 4294967295
theorem chk_rt {n : Nd} (h : chk15 n = 0) : Rt15 n := by
  unfold chk15 at h
  by_cases h1 : inn 1 5 n.kd = true
  · rw [if_pos h1] at h
    by_cases h2 : (hd15 n && rest15 n) = true
    · rw [Bool.and_eq_true] at h2
      obtain ⟨h3, h4⟩ := h2
      unfold hd15 at h3
      unfold rest15 at h4
      simp only [Bool.and_eq_true, inn_iff] at h1 h3 h4
      obtain ⟨⟨⟨⟨⟨a1, a2⟩, a3⟩, a4⟩, a5⟩, a6⟩ := h3
      obtain ⟨⟨⟨b1, b2⟩, b3⟩, b4⟩ := h4
      refine ⟨h1, a1, a3, a4, a2, a5, a6, fun e => ?_, fun e => ?_, fun e => ?_, fun e => ?_⟩
      · rw [e, if_pos (by rfl)] at b1
        unfold file15 tail15 wok at b1
        simp only [Bool.and_eq_true, inn_iff, List.all_eq_true] at b1
        obtain ⟨⟨⟨⟨c1, c2⟩, c3⟩, c4⟩, c5⟩ := b1
        obtain ⟨⟨⟨⟨d1, d2⟩, d3⟩, d4⟩, d5⟩ := c4
        have c3' : ¬ (65536 : Int) < n.wl := by simpa using c3
        exact ⟨c1, c2, d1, d2, d3, by omega, c5⟩
      · rw [e, if_pos (by rfl)] at b2
        unfold dir15 at b2
        simp only [Bool.and_eq_true, inn_iff] at b2
        exact ⟨b2.1.1, b2.1.2, b2.2⟩
      · rw [e, if_pos (by rfl)] at b3
        unfold link15 at b3
        simp only [Bool.and_eq_true, inn_iff, Bool.not_eq_true'] at b3
        exact ⟨by have := b3.1.1; omega, by have := b3.1.2; omega, b3.2⟩
      · rw [if_pos (by simpa using e)] at b4
        exact inn_iff.1 b4
    · rw [if_neg h2] at h; exact absurd h (by decide)
  · rw [if_neg h1] at h; exact absurd h (by decide)
set_option maxHeartbeats 4000000 in
theorem wthrough_1 (n : Nd) (p g q : Nat) (v : Value) (w W : World) (hn : n.ok w) (hr : Rt15 n) (hk : n.kd = 1) (h : Wst w W p g q n v []) :
    Calls Try.prog 19 #[.pointer (some ⟨g, 0, none⟩), .func (.func 20) #[wr15 p] #[], .func (.func 21) #[wr15 p] #[], .func (.func 22) #[wr15 p] #[]] W fun e W' => e = .returned (.tuple #[]) ∧ ∃ v', Wst w W' p g q n v' (kb1 n (hdb15 n)) := by
  have H0 : Hid (∀ V u, Wst w V p g q n u (([] : List Int)) → Calls Try.prog 20 #[wr15 p, .pointer (some ⟨g, 0, none⟩), .int .i64 2] V fun e W2 => e = .returned (.tuple #[]) ∧ ∃ v2, Wst w W2 p g q n v2 ((([] : List Int) ++ sto n.kd 2))) := fun V u qq => by
    have r := hr.kd
    exact wst_num qq n.kd rfl 2 (by omega) (by omega) (ckE2 (by omega) (by omega)) (by simp only [List.length_append, List.length_nil, sto_length]; omega)
  have H1 : Hid (∀ V u, Wst w V p g q n u ((([] : List Int) ++ sto n.kd 2)) → Calls Try.prog 20 #[wr15 p, .pointer (some ⟨g, 1, none⟩), .int .i64 2] V fun e W2 => e = .returned (.tuple #[]) ∧ ∃ v2, Wst w W2 p g q n v2 (((([] : List Int) ++ sto n.kd 2) ++ sto n.md 2))) := fun V u qq => by
    have r := hr.md
    exact wst_num qq n.md rfl 2 (by omega) (by omega) (ckE2 (by omega) (by omega)) (by simp only [List.length_append, List.length_nil, sto_length]; omega)
  have H2 : Hid (∀ V u, Wst w V p g q n u (((([] : List Int) ++ sto n.kd 2) ++ sto n.md 2)) → Calls Try.prog 20 #[wr15 p, .pointer (some ⟨g, 2, none⟩), .int .i64 2] V fun e W2 => e = .returned (.tuple #[]) ∧ ∃ v2, Wst w W2 p g q n v2 ((((([] : List Int) ++ sto n.kd 2) ++ sto n.md 2) ++ sto n.ui 2))) := fun V u qq => by
    have r := hr.ui
    exact wst_num qq n.ui rfl 2 (by omega) (by omega) (ckE2 (by omega) (by omega)) (by simp only [List.length_append, List.length_nil, sto_length]; omega)
  have H3 : Hid (∀ V u, Wst w V p g q n u ((((([] : List Int) ++ sto n.kd 2) ++ sto n.md 2) ++ sto n.ui 2)) → Calls Try.prog 20 #[wr15 p, .pointer (some ⟨g, 3, none⟩), .int .i64 2] V fun e W2 => e = .returned (.tuple #[]) ∧ ∃ v2, Wst w W2 p g q n v2 (((((([] : List Int) ++ sto n.kd 2) ++ sto n.md 2) ++ sto n.ui 2) ++ sto n.gi 2))) := fun V u qq => by
    have r := hr.gi
    exact wst_num qq n.gi rfl 2 (by omega) (by omega) (ckE2 (by omega) (by omega)) (by simp only [List.length_append, List.length_nil, sto_length]; omega)
  have H4 : Hid (∀ V u, Wst w V p g q n u (((((([] : List Int) ++ sto n.kd 2) ++ sto n.md 2) ++ sto n.ui 2) ++ sto n.gi 2)) → Calls Try.prog 20 #[wr15 p, .pointer (some ⟨g, 4, none⟩), .int .i64 4] V fun e W2 => e = .returned (.tuple #[]) ∧ ∃ v2, Wst w W2 p g q n v2 ((((((([] : List Int) ++ sto n.kd 2) ++ sto n.md 2) ++ sto n.ui 2) ++ sto n.gi 2) ++ sto n.tm 4))) := fun V u qq => by
    have r := hr.tm
    exact wst_num qq n.tm rfl 4 (by omega) (by omega) (ckE4 (by omega) (by omega)) (by simp only [List.length_append, List.length_nil, sto_length]; omega)
  have H5 : Hid (∀ V u, Wst w V p g q n u ((((((([] : List Int) ++ sto n.kd 2) ++ sto n.md 2) ++ sto n.ui 2) ++ sto n.gi 2) ++ sto n.tm 4)) → Calls Try.prog 20 #[wr15 p, .pointer (some ⟨g, 5, none⟩), .int .i64 4] V fun e W2 => e = .returned (.tuple #[]) ∧ ∃ v2, Wst w W2 p g q n v2 (((((((([] : List Int) ++ sto n.kd 2) ++ sto n.md 2) ++ sto n.ui 2) ++ sto n.gi 2) ++ sto n.tm 4) ++ sto n.ln 4))) := fun V u qq => by
    have r := hr.ln
    exact wst_num qq n.ln rfl 4 (by omega) (by omega) (ckE4 (by omega) (by omega)) (by simp only [List.length_append, List.length_nil, sto_length]; omega)
  have H6 : Hid (∀ V u, Wst w V p g q n u (((((((([] : List Int) ++ sto n.kd 2) ++ sto n.md 2) ++ sto n.ui 2) ++ sto n.gi 2) ++ sto n.tm 4) ++ sto n.ln 4)) → Calls Try.prog 35 #[.pointer (some ⟨g, 6, none⟩), .func (.func 20) #[wr15 p] #[]] V fun e W2 => e = .returned (.tuple #[]) ∧ ∃ v2, Wst w W2 p g q n v2 ((((((((([] : List Int) ++ sto n.kd 2) ++ sto n.md 2) ++ sto n.ui 2) ++ sto n.gi 2) ++ sto n.tm 4) ++ sto n.ln 4) ++ sto n.at_ 4))) := fun V u qq => wst_signed qq n.at_ rfl hr.at_.1 (by have := hr.at_.2; omega) (by simp only [List.length_append, List.length_nil, sto_length]; omega)
  have H7 : Hid (∀ V u, Wst w V p g q n u ((((((((([] : List Int) ++ sto n.kd 2) ++ sto n.md 2) ++ sto n.ui 2) ++ sto n.gi 2) ++ sto n.tm 4) ++ sto n.ln 4) ++ sto n.at_ 4)) → Calls Try.prog 20 #[wr15 p, .pointer (some ⟨g, 7, none⟩), .int .i64 8] V fun e W2 => e = .returned (.tuple #[]) ∧ ∃ v2, Wst w W2 p g q n v2 (((((((((([] : List Int) ++ sto n.kd 2) ++ sto n.md 2) ++ sto n.ui 2) ++ sto n.gi 2) ++ sto n.tm 4) ++ sto n.ln 4) ++ sto n.at_ 4) ++ sto n.sz 8))) := fun V u qq => by
    have r := (hr.k1 hk).1
    exact wst_num qq n.sz rfl 8 (by omega) (by omega) (ckE8 (by omega) (by omega)) (by simp only [List.length_append, List.length_nil, sto_length]; omega)
  have H8 : Hid (∀ V u, Wst w V p g q n u (((((((((([] : List Int) ++ sto n.kd 2) ++ sto n.md 2) ++ sto n.ui 2) ++ sto n.gi 2) ++ sto n.tm 4) ++ sto n.ln 4) ++ sto n.at_ 4) ++ sto n.sz 8)) → Calls Try.prog 20 #[wr15 p, .pointer (some ⟨g, 8, none⟩), .int .i64 4] V fun e W2 => e = .returned (.tuple #[]) ∧ ∃ v2, Wst w W2 p g q n v2 ((((((((((([] : List Int) ++ sto n.kd 2) ++ sto n.md 2) ++ sto n.ui 2) ++ sto n.gi 2) ++ sto n.tm 4) ++ sto n.ln 4) ++ sto n.at_ 4) ++ sto n.sz 8) ++ sto n.st 4))) := fun V u qq => by
    have r := (hr.k1 hk).2.1
    exact wst_num qq n.st rfl 4 (by omega) (by omega) (ckE4 (by omega) (by omega)) (by simp only [List.length_append, List.length_nil, sto_length]; omega)
  have H9 : Hid (∀ V u, Wst w V p g q n u ((((((((((([] : List Int) ++ sto n.kd 2) ++ sto n.md 2) ++ sto n.ui 2) ++ sto n.gi 2) ++ sto n.tm 4) ++ sto n.ln 4) ++ sto n.at_ 4) ++ sto n.sz 8) ++ sto n.st 4)) → Calls Try.prog 35 #[.pointer (some ⟨g, 10, none⟩), .func (.func 20) #[wr15 p] #[]] V fun e W2 => e = .returned (.tuple #[]) ∧ ∃ v2, Wst w W2 p g q n v2 (((((((((((([] : List Int) ++ sto n.kd 2) ++ sto n.md 2) ++ sto n.ui 2) ++ sto n.gi 2) ++ sto n.tm 4) ++ sto n.ln 4) ++ sto n.at_ 4) ++ sto n.sz 8) ++ sto n.st 4) ++ sto n.fr 4))) := fun V u qq => wst_signed qq n.fr rfl (hr.k1 hk).2.2.1.1 (by have := (hr.k1 hk).2.2.1.2; omega) (by simp only [List.length_append, List.length_nil, sto_length]; omega)
  have H10 : Hid (∀ V u, Wst w V p g q n u (((((((((((([] : List Int) ++ sto n.kd 2) ++ sto n.md 2) ++ sto n.ui 2) ++ sto n.gi 2) ++ sto n.tm 4) ++ sto n.ln 4) ++ sto n.at_ 4) ++ sto n.sz 8) ++ sto n.st 4) ++ sto n.fr 4)) → Calls Try.prog 20 #[wr15 p, .pointer (some ⟨g, 11, none⟩), .int .i64 4] V fun e W2 => e = .returned (.tuple #[]) ∧ ∃ v2, Wst w W2 p g q n v2 ((((((((((((([] : List Int) ++ sto n.kd 2) ++ sto n.md 2) ++ sto n.ui 2) ++ sto n.gi 2) ++ sto n.tm 4) ++ sto n.ln 4) ++ sto n.at_ 4) ++ sto n.sz 8) ++ sto n.st 4) ++ sto n.fr 4) ++ sto n.of_ 4))) := fun V u qq => by
    have r := (hr.k1 hk).2.2.2.1
    exact wst_num qq n.of_ rfl 4 (by omega) (by omega) (ckE4 (by omega) (by omega)) (by simp only [List.length_append, List.length_nil, sto_length]; omega)
  have H11 : Hid (∀ V u, Wst w V p g q n u ((((((((((((([] : List Int) ++ sto n.kd 2) ++ sto n.md 2) ++ sto n.ui 2) ++ sto n.gi 2) ++ sto n.tm 4) ++ sto n.ln 4) ++ sto n.at_ 4) ++ sto n.sz 8) ++ sto n.st 4) ++ sto n.fr 4) ++ sto n.of_ 4)) → Calls Try.prog 20 #[wr15 p, .pointer (some ⟨g, 12, none⟩), .int .i64 4] V fun e W2 => e = .returned (.tuple #[]) ∧ ∃ v2, Wst w W2 p g q n v2 (((((((((((((([] : List Int) ++ sto n.kd 2) ++ sto n.md 2) ++ sto n.ui 2) ++ sto n.gi 2) ++ sto n.tm 4) ++ sto n.ln 4) ++ sto n.at_ 4) ++ sto n.sz 8) ++ sto n.st 4) ++ sto n.fr 4) ++ sto n.of_ 4) ++ sto n.tl 4))) := fun V u qq => by
    have r := (hr.k1 hk).2.2.2.2.1
    exact wst_num qq n.tl rfl 4 (by omega) (by omega) (ckE4 (by omega) (by omega)) (by simp only [List.length_append, List.length_nil, sto_length]; omega)
  have H12 : Hid (∀ V u, Wst w V p g q n u (((((((((((((([] : List Int) ++ sto n.kd 2) ++ sto n.md 2) ++ sto n.ui 2) ++ sto n.gi 2) ++ sto n.tm 4) ++ sto n.ln 4) ++ sto n.at_ 4) ++ sto n.sz 8) ++ sto n.st 4) ++ sto n.fr 4) ++ sto n.of_ 4) ++ sto n.tl 4)) → Calls Try.prog 21 #[wr15 p, .pointer (some ⟨g, 9, none⟩)] V fun e W2 => e = .returned (.tuple #[]) ∧ ∃ v2, Wst w W2 p g q n v2 ((((((((((((((([] : List Int) ++ sto n.kd 2) ++ sto n.md 2) ++ sto n.ui 2) ++ sto n.gi 2) ++ sto n.tm 4) ++ sto n.ln 4) ++ sto n.at_ 4) ++ sto n.sz 8) ++ sto n.st 4) ++ sto n.fr 4) ++ sto n.of_ 4) ++ sto n.tl 4) ++ (sto n.wl 4 ++ wds n.ws)))) := fun V u qq => wst_words qq hn (hr.k1 hk).2.2.2.2.2.2 (hr.k1 hk).2.2.2.2.2.1 (by simp only [List.length_append, List.length_nil, sto_length]; have := (hr.k1 hk).2.2.2.2.2.1; omega)
  have HK0 : Hid (∀ V u xs, Wst w V p g q n u xs → V.cell? ⟨g, 0, none⟩ = some (.int .i64 1)) := fun V u xs qq => by rw [qq.bx.c]; show some (Value.int .i64 n.kd) = _; rw [hk]
  have hwr : Hid (wr15 p = .agg #[.pointer (some ⟨p, 0, none⟩)]) := rfl
  have HZ : Hid (kb1 n (hdb15 n) = (((((((((((((([] : List Int) ++ sto n.kd 2) ++ sto n.md 2) ++ sto n.ui 2) ++ sto n.gi 2) ++ sto n.tm 4) ++ sto n.ln 4) ++ sto n.at_ 4) ++ sto n.sz 8) ++ sto n.st 4) ++ sto n.fr 4) ++ sto n.of_ 4) ++ sto n.tl 4) ++ (sto n.wl 4 ++ wds n.ws))) := rfl
  have hh : Hid _ := h
  clear h hr hn hk
  generalize kb1 n (hdb15 n) = Z at *
  go_enter Try.func19, Try.ntmps19
  go_wp2_with fail
  refine (H0.out _ _ hh.out).mono ?_
  rintro e W0 ⟨rfl, v0, hs⟩
  have HS0 : Hid _ := hs
  clear hs
  go_wp2_with fail
  refine (H1.out _ _ HS0.out).mono ?_
  rintro e W1 ⟨rfl, v1, hs⟩
  have HS1 : Hid _ := hs
  clear hs
  go_wp2_with fail
  refine (H2.out _ _ HS1.out).mono ?_
  rintro e W2 ⟨rfl, v2, hs⟩
  have HS2 : Hid _ := hs
  clear hs
  go_wp2_with fail
  refine (H3.out _ _ HS2.out).mono ?_
  rintro e W3 ⟨rfl, v3, hs⟩
  have HS3 : Hid _ := hs
  clear hs
  go_wp2_with fail
  refine (H4.out _ _ HS3.out).mono ?_
  rintro e W4 ⟨rfl, v4, hs⟩
  have HS4 : Hid _ := hs
  clear hs
  go_wp2_with fail
  refine (H5.out _ _ HS4.out).mono ?_
  rintro e W5 ⟨rfl, v5, hs⟩
  have HS5 : Hid _ := hs
  clear hs
  go_wp2_with fail
  refine (H6.out _ _ HS5.out).mono ?_
  rintro e W6 ⟨rfl, v6, hs⟩
  have HS6 : Hid _ := hs
  clear hs
  have c0 := HK0.out _ _ _ HS6.out
  go_wp2_with fail
  refine (H7.out _ _ HS6.out).mono ?_
  rintro e W7 ⟨rfl, v7, hs⟩
  have HS7 : Hid _ := hs
  clear hs
  clear c0
  go_wp2_with fail
  refine (H8.out _ _ HS7.out).mono ?_
  rintro e W8 ⟨rfl, v8, hs⟩
  have HS8 : Hid _ := hs
  clear hs
  go_wp2_with fail
  refine (H9.out _ _ HS8.out).mono ?_
  rintro e W9 ⟨rfl, v9, hs⟩
  have HS9 : Hid _ := hs
  clear hs
  go_wp2_with fail
  refine (H10.out _ _ HS9.out).mono ?_
  rintro e W10 ⟨rfl, v10, hs⟩
  have HS10 : Hid _ := hs
  clear hs
  go_wp2_with fail
  refine (H11.out _ _ HS10.out).mono ?_
  rintro e W11 ⟨rfl, v11, hs⟩
  have HS11 : Hid _ := hs
  clear hs
  go_wp2_with fail
  refine (H12.out _ _ HS11.out).mono ?_
  rintro e W12 ⟨rfl, v12, hs⟩
  have HS12 : Hid _ := hs
  clear hs
  try clear c0
  go_wp2
  go_end0
  exact ⟨rfl, _, by rw [HZ.out]; exact HS12.out⟩
set_option maxHeartbeats 4000000 in
theorem wthrough_2 (n : Nd) (p g q : Nat) (v : Value) (w W : World) (hn : n.ok w) (hr : Rt15 n) (hk : n.kd = 2) (h : Wst w W p g q n v []) :
    Calls Try.prog 19 #[.pointer (some ⟨g, 0, none⟩), .func (.func 20) #[wr15 p] #[], .func (.func 21) #[wr15 p] #[], .func (.func 22) #[wr15 p] #[]] W fun e W' => e = .returned (.tuple #[]) ∧ ∃ v', Wst w W' p g q n v' (kb2 n (hdb15 n)) := by
  have H0 : Hid (∀ V u, Wst w V p g q n u (([] : List Int)) → Calls Try.prog 20 #[wr15 p, .pointer (some ⟨g, 0, none⟩), .int .i64 2] V fun e W2 => e = .returned (.tuple #[]) ∧ ∃ v2, Wst w W2 p g q n v2 ((([] : List Int) ++ sto n.kd 2))) := fun V u qq => by
    have r := hr.kd
    exact wst_num qq n.kd rfl 2 (by omega) (by omega) (ckE2 (by omega) (by omega)) (by simp only [List.length_append, List.length_nil, sto_length]; omega)
  have H1 : Hid (∀ V u, Wst w V p g q n u ((([] : List Int) ++ sto n.kd 2)) → Calls Try.prog 20 #[wr15 p, .pointer (some ⟨g, 1, none⟩), .int .i64 2] V fun e W2 => e = .returned (.tuple #[]) ∧ ∃ v2, Wst w W2 p g q n v2 (((([] : List Int) ++ sto n.kd 2) ++ sto n.md 2))) := fun V u qq => by
    have r := hr.md
    exact wst_num qq n.md rfl 2 (by omega) (by omega) (ckE2 (by omega) (by omega)) (by simp only [List.length_append, List.length_nil, sto_length]; omega)
  have H2 : Hid (∀ V u, Wst w V p g q n u (((([] : List Int) ++ sto n.kd 2) ++ sto n.md 2)) → Calls Try.prog 20 #[wr15 p, .pointer (some ⟨g, 2, none⟩), .int .i64 2] V fun e W2 => e = .returned (.tuple #[]) ∧ ∃ v2, Wst w W2 p g q n v2 ((((([] : List Int) ++ sto n.kd 2) ++ sto n.md 2) ++ sto n.ui 2))) := fun V u qq => by
    have r := hr.ui
    exact wst_num qq n.ui rfl 2 (by omega) (by omega) (ckE2 (by omega) (by omega)) (by simp only [List.length_append, List.length_nil, sto_length]; omega)
  have H3 : Hid (∀ V u, Wst w V p g q n u ((((([] : List Int) ++ sto n.kd 2) ++ sto n.md 2) ++ sto n.ui 2)) → Calls Try.prog 20 #[wr15 p, .pointer (some ⟨g, 3, none⟩), .int .i64 2] V fun e W2 => e = .returned (.tuple #[]) ∧ ∃ v2, Wst w W2 p g q n v2 (((((([] : List Int) ++ sto n.kd 2) ++ sto n.md 2) ++ sto n.ui 2) ++ sto n.gi 2))) := fun V u qq => by
    have r := hr.gi
    exact wst_num qq n.gi rfl 2 (by omega) (by omega) (ckE2 (by omega) (by omega)) (by simp only [List.length_append, List.length_nil, sto_length]; omega)
  have H4 : Hid (∀ V u, Wst w V p g q n u (((((([] : List Int) ++ sto n.kd 2) ++ sto n.md 2) ++ sto n.ui 2) ++ sto n.gi 2)) → Calls Try.prog 20 #[wr15 p, .pointer (some ⟨g, 4, none⟩), .int .i64 4] V fun e W2 => e = .returned (.tuple #[]) ∧ ∃ v2, Wst w W2 p g q n v2 ((((((([] : List Int) ++ sto n.kd 2) ++ sto n.md 2) ++ sto n.ui 2) ++ sto n.gi 2) ++ sto n.tm 4))) := fun V u qq => by
    have r := hr.tm
    exact wst_num qq n.tm rfl 4 (by omega) (by omega) (ckE4 (by omega) (by omega)) (by simp only [List.length_append, List.length_nil, sto_length]; omega)
  have H5 : Hid (∀ V u, Wst w V p g q n u ((((((([] : List Int) ++ sto n.kd 2) ++ sto n.md 2) ++ sto n.ui 2) ++ sto n.gi 2) ++ sto n.tm 4)) → Calls Try.prog 20 #[wr15 p, .pointer (some ⟨g, 5, none⟩), .int .i64 4] V fun e W2 => e = .returned (.tuple #[]) ∧ ∃ v2, Wst w W2 p g q n v2 (((((((([] : List Int) ++ sto n.kd 2) ++ sto n.md 2) ++ sto n.ui 2) ++ sto n.gi 2) ++ sto n.tm 4) ++ sto n.ln 4))) := fun V u qq => by
    have r := hr.ln
    exact wst_num qq n.ln rfl 4 (by omega) (by omega) (ckE4 (by omega) (by omega)) (by simp only [List.length_append, List.length_nil, sto_length]; omega)
  have H6 : Hid (∀ V u, Wst w V p g q n u (((((((([] : List Int) ++ sto n.kd 2) ++ sto n.md 2) ++ sto n.ui 2) ++ sto n.gi 2) ++ sto n.tm 4) ++ sto n.ln 4)) → Calls Try.prog 35 #[.pointer (some ⟨g, 6, none⟩), .func (.func 20) #[wr15 p] #[]] V fun e W2 => e = .returned (.tuple #[]) ∧ ∃ v2, Wst w W2 p g q n v2 ((((((((([] : List Int) ++ sto n.kd 2) ++ sto n.md 2) ++ sto n.ui 2) ++ sto n.gi 2) ++ sto n.tm 4) ++ sto n.ln 4) ++ sto n.at_ 4))) := fun V u qq => wst_signed qq n.at_ rfl hr.at_.1 (by have := hr.at_.2; omega) (by simp only [List.length_append, List.length_nil, sto_length]; omega)
  have H7 : Hid (∀ V u, Wst w V p g q n u ((((((((([] : List Int) ++ sto n.kd 2) ++ sto n.md 2) ++ sto n.ui 2) ++ sto n.gi 2) ++ sto n.tm 4) ++ sto n.ln 4) ++ sto n.at_ 4)) → Calls Try.prog 20 #[wr15 p, .pointer (some ⟨g, 13, none⟩), .int .i64 4] V fun e W2 => e = .returned (.tuple #[]) ∧ ∃ v2, Wst w W2 p g q n v2 (((((((((([] : List Int) ++ sto n.kd 2) ++ sto n.md 2) ++ sto n.ui 2) ++ sto n.gi 2) ++ sto n.tm 4) ++ sto n.ln 4) ++ sto n.at_ 4) ++ sto n.dr 4))) := fun V u qq => by
    have r := (hr.k2 hk).1
    exact wst_num qq n.dr rfl 4 (by omega) (by omega) (ckE4 (by omega) (by omega)) (by simp only [List.length_append, List.length_nil, sto_length]; omega)
  have H8 : Hid (∀ V u, Wst w V p g q n u (((((((((([] : List Int) ++ sto n.kd 2) ++ sto n.md 2) ++ sto n.ui 2) ++ sto n.gi 2) ++ sto n.tm 4) ++ sto n.ln 4) ++ sto n.at_ 4) ++ sto n.dr 4)) → Calls Try.prog 20 #[wr15 p, .pointer (some ⟨g, 14, none⟩), .int .i64 4] V fun e W2 => e = .returned (.tuple #[]) ∧ ∃ v2, Wst w W2 p g q n v2 ((((((((((([] : List Int) ++ sto n.kd 2) ++ sto n.md 2) ++ sto n.ui 2) ++ sto n.gi 2) ++ sto n.tm 4) ++ sto n.ln 4) ++ sto n.at_ 4) ++ sto n.dr 4) ++ sto n.by_ 4))) := fun V u qq => by
    have r := (hr.k2 hk).2.1
    exact wst_num qq n.by_ rfl 4 (by omega) (by omega) (ckE4 (by omega) (by omega)) (by simp only [List.length_append, List.length_nil, sto_length]; omega)
  have H9 : Hid (∀ V u, Wst w V p g q n u ((((((((((([] : List Int) ++ sto n.kd 2) ++ sto n.md 2) ++ sto n.ui 2) ++ sto n.gi 2) ++ sto n.tm 4) ++ sto n.ln 4) ++ sto n.at_ 4) ++ sto n.dr 4) ++ sto n.by_ 4)) → Calls Try.prog 20 #[wr15 p, .pointer (some ⟨g, 15, none⟩), .int .i64 4] V fun e W2 => e = .returned (.tuple #[]) ∧ ∃ v2, Wst w W2 p g q n v2 (((((((((((([] : List Int) ++ sto n.kd 2) ++ sto n.md 2) ++ sto n.ui 2) ++ sto n.gi 2) ++ sto n.tm 4) ++ sto n.ln 4) ++ sto n.at_ 4) ++ sto n.dr 4) ++ sto n.by_ 4) ++ sto n.pr 4))) := fun V u qq => by
    have r := (hr.k2 hk).2.2
    exact wst_num qq n.pr rfl 4 (by omega) (by omega) (ckE4 (by omega) (by omega)) (by simp only [List.length_append, List.length_nil, sto_length]; omega)
  have HK0 : Hid (∀ V u xs, Wst w V p g q n u xs → V.cell? ⟨g, 0, none⟩ = some (.int .i64 2)) := fun V u xs qq => by rw [qq.bx.c]; show some (Value.int .i64 n.kd) = _; rw [hk]
  have hwr : Hid (wr15 p = .agg #[.pointer (some ⟨p, 0, none⟩)]) := rfl
  have HZ : Hid (kb2 n (hdb15 n) = ((((((((((([] : List Int) ++ sto n.kd 2) ++ sto n.md 2) ++ sto n.ui 2) ++ sto n.gi 2) ++ sto n.tm 4) ++ sto n.ln 4) ++ sto n.at_ 4) ++ sto n.dr 4) ++ sto n.by_ 4) ++ sto n.pr 4)) := rfl
  have hh : Hid _ := h
  clear h hr hn hk
  generalize kb2 n (hdb15 n) = Z at *
  go_enter Try.func19, Try.ntmps19
  go_wp2_with fail
  refine (H0.out _ _ hh.out).mono ?_
  rintro e W0 ⟨rfl, v0, hs⟩
  have HS0 : Hid _ := hs
  clear hs
  go_wp2_with fail
  refine (H1.out _ _ HS0.out).mono ?_
  rintro e W1 ⟨rfl, v1, hs⟩
  have HS1 : Hid _ := hs
  clear hs
  go_wp2_with fail
  refine (H2.out _ _ HS1.out).mono ?_
  rintro e W2 ⟨rfl, v2, hs⟩
  have HS2 : Hid _ := hs
  clear hs
  go_wp2_with fail
  refine (H3.out _ _ HS2.out).mono ?_
  rintro e W3 ⟨rfl, v3, hs⟩
  have HS3 : Hid _ := hs
  clear hs
  go_wp2_with fail
  refine (H4.out _ _ HS3.out).mono ?_
  rintro e W4 ⟨rfl, v4, hs⟩
  have HS4 : Hid _ := hs
  clear hs
  go_wp2_with fail
  refine (H5.out _ _ HS4.out).mono ?_
  rintro e W5 ⟨rfl, v5, hs⟩
  have HS5 : Hid _ := hs
  clear hs
  go_wp2_with fail
  refine (H6.out _ _ HS5.out).mono ?_
  rintro e W6 ⟨rfl, v6, hs⟩
  have HS6 : Hid _ := hs
  clear hs
  have c0 := HK0.out _ _ _ HS6.out
  go_wp2_with fail
  refine (H7.out _ _ HS6.out).mono ?_
  rintro e W7 ⟨rfl, v7, hs⟩
  have HS7 : Hid _ := hs
  clear hs
  clear c0
  go_wp2_with fail
  refine (H8.out _ _ HS7.out).mono ?_
  rintro e W8 ⟨rfl, v8, hs⟩
  have HS8 : Hid _ := hs
  clear hs
  go_wp2_with fail
  refine (H9.out _ _ HS8.out).mono ?_
  rintro e W9 ⟨rfl, v9, hs⟩
  have HS9 : Hid _ := hs
  clear hs
  try clear c0
  go_wp2
  go_end0
  exact ⟨rfl, _, by rw [HZ.out]; exact HS9.out⟩
set_option maxHeartbeats 4000000 in
theorem wthrough_3 (n : Nd) (p g q : Nat) (v : Value) (w W : World) (hn : n.ok w) (hr : Rt15 n) (hk : n.kd = 3) (h : Wst w W p g q n v []) :
    Calls Try.prog 19 #[.pointer (some ⟨g, 0, none⟩), .func (.func 20) #[wr15 p] #[], .func (.func 21) #[wr15 p] #[], .func (.func 22) #[wr15 p] #[]] W fun e W' => e = .returned (.tuple #[]) ∧ ∃ v', Wst w W' p g q n v' (kb3 n (hdb15 n)) := by
  have H0 : Hid (∀ V u, Wst w V p g q n u (([] : List Int)) → Calls Try.prog 20 #[wr15 p, .pointer (some ⟨g, 0, none⟩), .int .i64 2] V fun e W2 => e = .returned (.tuple #[]) ∧ ∃ v2, Wst w W2 p g q n v2 ((([] : List Int) ++ sto n.kd 2))) := fun V u qq => by
    have r := hr.kd
    exact wst_num qq n.kd rfl 2 (by omega) (by omega) (ckE2 (by omega) (by omega)) (by simp only [List.length_append, List.length_nil, sto_length]; omega)
  have H1 : Hid (∀ V u, Wst w V p g q n u ((([] : List Int) ++ sto n.kd 2)) → Calls Try.prog 20 #[wr15 p, .pointer (some ⟨g, 1, none⟩), .int .i64 2] V fun e W2 => e = .returned (.tuple #[]) ∧ ∃ v2, Wst w W2 p g q n v2 (((([] : List Int) ++ sto n.kd 2) ++ sto n.md 2))) := fun V u qq => by
    have r := hr.md
    exact wst_num qq n.md rfl 2 (by omega) (by omega) (ckE2 (by omega) (by omega)) (by simp only [List.length_append, List.length_nil, sto_length]; omega)
  have H2 : Hid (∀ V u, Wst w V p g q n u (((([] : List Int) ++ sto n.kd 2) ++ sto n.md 2)) → Calls Try.prog 20 #[wr15 p, .pointer (some ⟨g, 2, none⟩), .int .i64 2] V fun e W2 => e = .returned (.tuple #[]) ∧ ∃ v2, Wst w W2 p g q n v2 ((((([] : List Int) ++ sto n.kd 2) ++ sto n.md 2) ++ sto n.ui 2))) := fun V u qq => by
    have r := hr.ui
    exact wst_num qq n.ui rfl 2 (by omega) (by omega) (ckE2 (by omega) (by omega)) (by simp only [List.length_append, List.length_nil, sto_length]; omega)
  have H3 : Hid (∀ V u, Wst w V p g q n u ((((([] : List Int) ++ sto n.kd 2) ++ sto n.md 2) ++ sto n.ui 2)) → Calls Try.prog 20 #[wr15 p, .pointer (some ⟨g, 3, none⟩), .int .i64 2] V fun e W2 => e = .returned (.tuple #[]) ∧ ∃ v2, Wst w W2 p g q n v2 (((((([] : List Int) ++ sto n.kd 2) ++ sto n.md 2) ++ sto n.ui 2) ++ sto n.gi 2))) := fun V u qq => by
    have r := hr.gi
    exact wst_num qq n.gi rfl 2 (by omega) (by omega) (ckE2 (by omega) (by omega)) (by simp only [List.length_append, List.length_nil, sto_length]; omega)
  have H4 : Hid (∀ V u, Wst w V p g q n u (((((([] : List Int) ++ sto n.kd 2) ++ sto n.md 2) ++ sto n.ui 2) ++ sto n.gi 2)) → Calls Try.prog 20 #[wr15 p, .pointer (some ⟨g, 4, none⟩), .int .i64 4] V fun e W2 => e = .returned (.tuple #[]) ∧ ∃ v2, Wst w W2 p g q n v2 ((((((([] : List Int) ++ sto n.kd 2) ++ sto n.md 2) ++ sto n.ui 2) ++ sto n.gi 2) ++ sto n.tm 4))) := fun V u qq => by
    have r := hr.tm
    exact wst_num qq n.tm rfl 4 (by omega) (by omega) (ckE4 (by omega) (by omega)) (by simp only [List.length_append, List.length_nil, sto_length]; omega)
  have H5 : Hid (∀ V u, Wst w V p g q n u ((((((([] : List Int) ++ sto n.kd 2) ++ sto n.md 2) ++ sto n.ui 2) ++ sto n.gi 2) ++ sto n.tm 4)) → Calls Try.prog 20 #[wr15 p, .pointer (some ⟨g, 5, none⟩), .int .i64 4] V fun e W2 => e = .returned (.tuple #[]) ∧ ∃ v2, Wst w W2 p g q n v2 (((((((([] : List Int) ++ sto n.kd 2) ++ sto n.md 2) ++ sto n.ui 2) ++ sto n.gi 2) ++ sto n.tm 4) ++ sto n.ln 4))) := fun V u qq => by
    have r := hr.ln
    exact wst_num qq n.ln rfl 4 (by omega) (by omega) (ckE4 (by omega) (by omega)) (by simp only [List.length_append, List.length_nil, sto_length]; omega)
  have H6 : Hid (∀ V u, Wst w V p g q n u (((((((([] : List Int) ++ sto n.kd 2) ++ sto n.md 2) ++ sto n.ui 2) ++ sto n.gi 2) ++ sto n.tm 4) ++ sto n.ln 4)) → Calls Try.prog 35 #[.pointer (some ⟨g, 6, none⟩), .func (.func 20) #[wr15 p] #[]] V fun e W2 => e = .returned (.tuple #[]) ∧ ∃ v2, Wst w W2 p g q n v2 ((((((((([] : List Int) ++ sto n.kd 2) ++ sto n.md 2) ++ sto n.ui 2) ++ sto n.gi 2) ++ sto n.tm 4) ++ sto n.ln 4) ++ sto n.at_ 4))) := fun V u qq => wst_signed qq n.at_ rfl hr.at_.1 (by have := hr.at_.2; omega) (by simp only [List.length_append, List.length_nil, sto_length]; omega)
  have H7 : Hid (∀ V u, Wst w V p g q n u ((((((((([] : List Int) ++ sto n.kd 2) ++ sto n.md 2) ++ sto n.ui 2) ++ sto n.gi 2) ++ sto n.tm 4) ++ sto n.ln 4) ++ sto n.at_ 4)) → Calls Try.prog 22 #[wr15 p, .pointer (some ⟨g, 16, none⟩)] V fun e W2 => e = .returned (.tuple #[]) ∧ ∃ v2, Wst w W2 p g q n v2 (((((((((([] : List Int) ++ sto n.kd 2) ++ sto n.md 2) ++ sto n.ui 2) ++ sto n.gi 2) ++ sto n.tm 4) ++ sto n.ln 4) ++ sto n.at_ 4) ++ (sto n.tg.size 2 ++ nums n.tg)))) := fun V u qq => wst_text qq n.tg rfl (hr.k3 hk).2.1 (by simp only [List.length_append, List.length_nil, sto_length]; omega)
  have HK0 : Hid (∀ V u xs, Wst w V p g q n u xs → V.cell? ⟨g, 0, none⟩ = some (.int .i64 3)) := fun V u xs qq => by rw [qq.bx.c]; show some (Value.int .i64 n.kd) = _; rw [hk]
  have hwr : Hid (wr15 p = .agg #[.pointer (some ⟨p, 0, none⟩)]) := rfl
  have HZ : Hid (kb3 n (hdb15 n) = ((((((((([] : List Int) ++ sto n.kd 2) ++ sto n.md 2) ++ sto n.ui 2) ++ sto n.gi 2) ++ sto n.tm 4) ++ sto n.ln 4) ++ sto n.at_ 4) ++ (sto n.tg.size 2 ++ nums n.tg))) := rfl
  have hh : Hid _ := h
  clear h hr hn hk
  generalize kb3 n (hdb15 n) = Z at *
  go_enter Try.func19, Try.ntmps19
  go_wp2_with fail
  refine (H0.out _ _ hh.out).mono ?_
  rintro e W0 ⟨rfl, v0, hs⟩
  have HS0 : Hid _ := hs
  clear hs
  go_wp2_with fail
  refine (H1.out _ _ HS0.out).mono ?_
  rintro e W1 ⟨rfl, v1, hs⟩
  have HS1 : Hid _ := hs
  clear hs
  go_wp2_with fail
  refine (H2.out _ _ HS1.out).mono ?_
  rintro e W2 ⟨rfl, v2, hs⟩
  have HS2 : Hid _ := hs
  clear hs
  go_wp2_with fail
  refine (H3.out _ _ HS2.out).mono ?_
  rintro e W3 ⟨rfl, v3, hs⟩
  have HS3 : Hid _ := hs
  clear hs
  go_wp2_with fail
  refine (H4.out _ _ HS3.out).mono ?_
  rintro e W4 ⟨rfl, v4, hs⟩
  have HS4 : Hid _ := hs
  clear hs
  go_wp2_with fail
  refine (H5.out _ _ HS4.out).mono ?_
  rintro e W5 ⟨rfl, v5, hs⟩
  have HS5 : Hid _ := hs
  clear hs
  go_wp2_with fail
  refine (H6.out _ _ HS5.out).mono ?_
  rintro e W6 ⟨rfl, v6, hs⟩
  have HS6 : Hid _ := hs
  clear hs
  have c0 := HK0.out _ _ _ HS6.out
  go_wp2_with fail
  refine (H7.out _ _ HS6.out).mono ?_
  rintro e W7 ⟨rfl, v7, hs⟩
  have HS7 : Hid _ := hs
  clear hs
  clear c0
  try clear c0
  go_wp2
  go_end0
  exact ⟨rfl, _, by rw [HZ.out]; exact HS7.out⟩
set_option maxHeartbeats 4000000 in
theorem wthrough_4 (n : Nd) (p g q : Nat) (v : Value) (w W : World) (hn : n.ok w) (hr : Rt15 n) (hk : n.kd = 4) (h : Wst w W p g q n v []) :
    Calls Try.prog 19 #[.pointer (some ⟨g, 0, none⟩), .func (.func 20) #[wr15 p] #[], .func (.func 21) #[wr15 p] #[], .func (.func 22) #[wr15 p] #[]] W fun e W' => e = .returned (.tuple #[]) ∧ ∃ v', Wst w W' p g q n v' (kb4 n (hdb15 n)) := by
  have H0 : Hid (∀ V u, Wst w V p g q n u (([] : List Int)) → Calls Try.prog 20 #[wr15 p, .pointer (some ⟨g, 0, none⟩), .int .i64 2] V fun e W2 => e = .returned (.tuple #[]) ∧ ∃ v2, Wst w W2 p g q n v2 ((([] : List Int) ++ sto n.kd 2))) := fun V u qq => by
    have r := hr.kd
    exact wst_num qq n.kd rfl 2 (by omega) (by omega) (ckE2 (by omega) (by omega)) (by simp only [List.length_append, List.length_nil, sto_length]; omega)
  have H1 : Hid (∀ V u, Wst w V p g q n u ((([] : List Int) ++ sto n.kd 2)) → Calls Try.prog 20 #[wr15 p, .pointer (some ⟨g, 1, none⟩), .int .i64 2] V fun e W2 => e = .returned (.tuple #[]) ∧ ∃ v2, Wst w W2 p g q n v2 (((([] : List Int) ++ sto n.kd 2) ++ sto n.md 2))) := fun V u qq => by
    have r := hr.md
    exact wst_num qq n.md rfl 2 (by omega) (by omega) (ckE2 (by omega) (by omega)) (by simp only [List.length_append, List.length_nil, sto_length]; omega)
  have H2 : Hid (∀ V u, Wst w V p g q n u (((([] : List Int) ++ sto n.kd 2) ++ sto n.md 2)) → Calls Try.prog 20 #[wr15 p, .pointer (some ⟨g, 2, none⟩), .int .i64 2] V fun e W2 => e = .returned (.tuple #[]) ∧ ∃ v2, Wst w W2 p g q n v2 ((((([] : List Int) ++ sto n.kd 2) ++ sto n.md 2) ++ sto n.ui 2))) := fun V u qq => by
    have r := hr.ui
    exact wst_num qq n.ui rfl 2 (by omega) (by omega) (ckE2 (by omega) (by omega)) (by simp only [List.length_append, List.length_nil, sto_length]; omega)
  have H3 : Hid (∀ V u, Wst w V p g q n u ((((([] : List Int) ++ sto n.kd 2) ++ sto n.md 2) ++ sto n.ui 2)) → Calls Try.prog 20 #[wr15 p, .pointer (some ⟨g, 3, none⟩), .int .i64 2] V fun e W2 => e = .returned (.tuple #[]) ∧ ∃ v2, Wst w W2 p g q n v2 (((((([] : List Int) ++ sto n.kd 2) ++ sto n.md 2) ++ sto n.ui 2) ++ sto n.gi 2))) := fun V u qq => by
    have r := hr.gi
    exact wst_num qq n.gi rfl 2 (by omega) (by omega) (ckE2 (by omega) (by omega)) (by simp only [List.length_append, List.length_nil, sto_length]; omega)
  have H4 : Hid (∀ V u, Wst w V p g q n u (((((([] : List Int) ++ sto n.kd 2) ++ sto n.md 2) ++ sto n.ui 2) ++ sto n.gi 2)) → Calls Try.prog 20 #[wr15 p, .pointer (some ⟨g, 4, none⟩), .int .i64 4] V fun e W2 => e = .returned (.tuple #[]) ∧ ∃ v2, Wst w W2 p g q n v2 ((((((([] : List Int) ++ sto n.kd 2) ++ sto n.md 2) ++ sto n.ui 2) ++ sto n.gi 2) ++ sto n.tm 4))) := fun V u qq => by
    have r := hr.tm
    exact wst_num qq n.tm rfl 4 (by omega) (by omega) (ckE4 (by omega) (by omega)) (by simp only [List.length_append, List.length_nil, sto_length]; omega)
  have H5 : Hid (∀ V u, Wst w V p g q n u ((((((([] : List Int) ++ sto n.kd 2) ++ sto n.md 2) ++ sto n.ui 2) ++ sto n.gi 2) ++ sto n.tm 4)) → Calls Try.prog 20 #[wr15 p, .pointer (some ⟨g, 5, none⟩), .int .i64 4] V fun e W2 => e = .returned (.tuple #[]) ∧ ∃ v2, Wst w W2 p g q n v2 (((((((([] : List Int) ++ sto n.kd 2) ++ sto n.md 2) ++ sto n.ui 2) ++ sto n.gi 2) ++ sto n.tm 4) ++ sto n.ln 4))) := fun V u qq => by
    have r := hr.ln
    exact wst_num qq n.ln rfl 4 (by omega) (by omega) (ckE4 (by omega) (by omega)) (by simp only [List.length_append, List.length_nil, sto_length]; omega)
  have H6 : Hid (∀ V u, Wst w V p g q n u (((((((([] : List Int) ++ sto n.kd 2) ++ sto n.md 2) ++ sto n.ui 2) ++ sto n.gi 2) ++ sto n.tm 4) ++ sto n.ln 4)) → Calls Try.prog 35 #[.pointer (some ⟨g, 6, none⟩), .func (.func 20) #[wr15 p] #[]] V fun e W2 => e = .returned (.tuple #[]) ∧ ∃ v2, Wst w W2 p g q n v2 ((((((((([] : List Int) ++ sto n.kd 2) ++ sto n.md 2) ++ sto n.ui 2) ++ sto n.gi 2) ++ sto n.tm 4) ++ sto n.ln 4) ++ sto n.at_ 4))) := fun V u qq => wst_signed qq n.at_ rfl hr.at_.1 (by have := hr.at_.2; omega) (by simp only [List.length_append, List.length_nil, sto_length]; omega)
  have H7 : Hid (∀ V u, Wst w V p g q n u ((((((((([] : List Int) ++ sto n.kd 2) ++ sto n.md 2) ++ sto n.ui 2) ++ sto n.gi 2) ++ sto n.tm 4) ++ sto n.ln 4) ++ sto n.at_ 4)) → Calls Try.prog 20 #[wr15 p, .pointer (some ⟨g, 17, none⟩), .int .i64 4] V fun e W2 => e = .returned (.tuple #[]) ∧ ∃ v2, Wst w W2 p g q n v2 (((((((((([] : List Int) ++ sto n.kd 2) ++ sto n.md 2) ++ sto n.ui 2) ++ sto n.gi 2) ++ sto n.tm 4) ++ sto n.ln 4) ++ sto n.at_ 4) ++ sto n.dv 4))) := fun V u qq => by
    have r := (hr.k4 (by omega))
    exact wst_num qq n.dv rfl 4 (by omega) (by omega) (ckE4 (by omega) (by omega)) (by simp only [List.length_append, List.length_nil, sto_length]; omega)
  have HK0 : Hid (∀ V u xs, Wst w V p g q n u xs → V.cell? ⟨g, 0, none⟩ = some (.int .i64 4)) := fun V u xs qq => by rw [qq.bx.c]; show some (Value.int .i64 n.kd) = _; rw [hk]
  have hwr : Hid (wr15 p = .agg #[.pointer (some ⟨p, 0, none⟩)]) := rfl
  have HZ : Hid (kb4 n (hdb15 n) = ((((((((([] : List Int) ++ sto n.kd 2) ++ sto n.md 2) ++ sto n.ui 2) ++ sto n.gi 2) ++ sto n.tm 4) ++ sto n.ln 4) ++ sto n.at_ 4) ++ sto n.dv 4)) := rfl
  have hh : Hid _ := h
  clear h hr hn hk
  generalize kb4 n (hdb15 n) = Z at *
  go_enter Try.func19, Try.ntmps19
  go_wp2_with fail
  refine (H0.out _ _ hh.out).mono ?_
  rintro e W0 ⟨rfl, v0, hs⟩
  have HS0 : Hid _ := hs
  clear hs
  go_wp2_with fail
  refine (H1.out _ _ HS0.out).mono ?_
  rintro e W1 ⟨rfl, v1, hs⟩
  have HS1 : Hid _ := hs
  clear hs
  go_wp2_with fail
  refine (H2.out _ _ HS1.out).mono ?_
  rintro e W2 ⟨rfl, v2, hs⟩
  have HS2 : Hid _ := hs
  clear hs
  go_wp2_with fail
  refine (H3.out _ _ HS2.out).mono ?_
  rintro e W3 ⟨rfl, v3, hs⟩
  have HS3 : Hid _ := hs
  clear hs
  go_wp2_with fail
  refine (H4.out _ _ HS3.out).mono ?_
  rintro e W4 ⟨rfl, v4, hs⟩
  have HS4 : Hid _ := hs
  clear hs
  go_wp2_with fail
  refine (H5.out _ _ HS4.out).mono ?_
  rintro e W5 ⟨rfl, v5, hs⟩
  have HS5 : Hid _ := hs
  clear hs
  go_wp2_with fail
  refine (H6.out _ _ HS5.out).mono ?_
  rintro e W6 ⟨rfl, v6, hs⟩
  have HS6 : Hid _ := hs
  clear hs
  have c0 := HK0.out _ _ _ HS6.out
  go_wp2_with fail
  refine (H7.out _ _ HS6.out).mono ?_
  rintro e W7 ⟨rfl, v7, hs⟩
  have HS7 : Hid _ := hs
  clear hs
  clear c0
  try clear c0
  go_wp2
  go_end0
  exact ⟨rfl, _, by rw [HZ.out]; exact HS7.out⟩
set_option maxHeartbeats 4000000 in
theorem wthrough_5 (n : Nd) (p g q : Nat) (v : Value) (w W : World) (hn : n.ok w) (hr : Rt15 n) (hk : n.kd = 5) (h : Wst w W p g q n v []) :
    Calls Try.prog 19 #[.pointer (some ⟨g, 0, none⟩), .func (.func 20) #[wr15 p] #[], .func (.func 21) #[wr15 p] #[], .func (.func 22) #[wr15 p] #[]] W fun e W' => e = .returned (.tuple #[]) ∧ ∃ v', Wst w W' p g q n v' (kb4 n (hdb15 n)) := by
  have H0 : Hid (∀ V u, Wst w V p g q n u (([] : List Int)) → Calls Try.prog 20 #[wr15 p, .pointer (some ⟨g, 0, none⟩), .int .i64 2] V fun e W2 => e = .returned (.tuple #[]) ∧ ∃ v2, Wst w W2 p g q n v2 ((([] : List Int) ++ sto n.kd 2))) := fun V u qq => by
    have r := hr.kd
    exact wst_num qq n.kd rfl 2 (by omega) (by omega) (ckE2 (by omega) (by omega)) (by simp only [List.length_append, List.length_nil, sto_length]; omega)
  have H1 : Hid (∀ V u, Wst w V p g q n u ((([] : List Int) ++ sto n.kd 2)) → Calls Try.prog 20 #[wr15 p, .pointer (some ⟨g, 1, none⟩), .int .i64 2] V fun e W2 => e = .returned (.tuple #[]) ∧ ∃ v2, Wst w W2 p g q n v2 (((([] : List Int) ++ sto n.kd 2) ++ sto n.md 2))) := fun V u qq => by
    have r := hr.md
    exact wst_num qq n.md rfl 2 (by omega) (by omega) (ckE2 (by omega) (by omega)) (by simp only [List.length_append, List.length_nil, sto_length]; omega)
  have H2 : Hid (∀ V u, Wst w V p g q n u (((([] : List Int) ++ sto n.kd 2) ++ sto n.md 2)) → Calls Try.prog 20 #[wr15 p, .pointer (some ⟨g, 2, none⟩), .int .i64 2] V fun e W2 => e = .returned (.tuple #[]) ∧ ∃ v2, Wst w W2 p g q n v2 ((((([] : List Int) ++ sto n.kd 2) ++ sto n.md 2) ++ sto n.ui 2))) := fun V u qq => by
    have r := hr.ui
    exact wst_num qq n.ui rfl 2 (by omega) (by omega) (ckE2 (by omega) (by omega)) (by simp only [List.length_append, List.length_nil, sto_length]; omega)
  have H3 : Hid (∀ V u, Wst w V p g q n u ((((([] : List Int) ++ sto n.kd 2) ++ sto n.md 2) ++ sto n.ui 2)) → Calls Try.prog 20 #[wr15 p, .pointer (some ⟨g, 3, none⟩), .int .i64 2] V fun e W2 => e = .returned (.tuple #[]) ∧ ∃ v2, Wst w W2 p g q n v2 (((((([] : List Int) ++ sto n.kd 2) ++ sto n.md 2) ++ sto n.ui 2) ++ sto n.gi 2))) := fun V u qq => by
    have r := hr.gi
    exact wst_num qq n.gi rfl 2 (by omega) (by omega) (ckE2 (by omega) (by omega)) (by simp only [List.length_append, List.length_nil, sto_length]; omega)
  have H4 : Hid (∀ V u, Wst w V p g q n u (((((([] : List Int) ++ sto n.kd 2) ++ sto n.md 2) ++ sto n.ui 2) ++ sto n.gi 2)) → Calls Try.prog 20 #[wr15 p, .pointer (some ⟨g, 4, none⟩), .int .i64 4] V fun e W2 => e = .returned (.tuple #[]) ∧ ∃ v2, Wst w W2 p g q n v2 ((((((([] : List Int) ++ sto n.kd 2) ++ sto n.md 2) ++ sto n.ui 2) ++ sto n.gi 2) ++ sto n.tm 4))) := fun V u qq => by
    have r := hr.tm
    exact wst_num qq n.tm rfl 4 (by omega) (by omega) (ckE4 (by omega) (by omega)) (by simp only [List.length_append, List.length_nil, sto_length]; omega)
  have H5 : Hid (∀ V u, Wst w V p g q n u ((((((([] : List Int) ++ sto n.kd 2) ++ sto n.md 2) ++ sto n.ui 2) ++ sto n.gi 2) ++ sto n.tm 4)) → Calls Try.prog 20 #[wr15 p, .pointer (some ⟨g, 5, none⟩), .int .i64 4] V fun e W2 => e = .returned (.tuple #[]) ∧ ∃ v2, Wst w W2 p g q n v2 (((((((([] : List Int) ++ sto n.kd 2) ++ sto n.md 2) ++ sto n.ui 2) ++ sto n.gi 2) ++ sto n.tm 4) ++ sto n.ln 4))) := fun V u qq => by
    have r := hr.ln
    exact wst_num qq n.ln rfl 4 (by omega) (by omega) (ckE4 (by omega) (by omega)) (by simp only [List.length_append, List.length_nil, sto_length]; omega)
  have H6 : Hid (∀ V u, Wst w V p g q n u (((((((([] : List Int) ++ sto n.kd 2) ++ sto n.md 2) ++ sto n.ui 2) ++ sto n.gi 2) ++ sto n.tm 4) ++ sto n.ln 4)) → Calls Try.prog 35 #[.pointer (some ⟨g, 6, none⟩), .func (.func 20) #[wr15 p] #[]] V fun e W2 => e = .returned (.tuple #[]) ∧ ∃ v2, Wst w W2 p g q n v2 ((((((((([] : List Int) ++ sto n.kd 2) ++ sto n.md 2) ++ sto n.ui 2) ++ sto n.gi 2) ++ sto n.tm 4) ++ sto n.ln 4) ++ sto n.at_ 4))) := fun V u qq => wst_signed qq n.at_ rfl hr.at_.1 (by have := hr.at_.2; omega) (by simp only [List.length_append, List.length_nil, sto_length]; omega)
  have H7 : Hid (∀ V u, Wst w V p g q n u ((((((((([] : List Int) ++ sto n.kd 2) ++ sto n.md 2) ++ sto n.ui 2) ++ sto n.gi 2) ++ sto n.tm 4) ++ sto n.ln 4) ++ sto n.at_ 4)) → Calls Try.prog 20 #[wr15 p, .pointer (some ⟨g, 17, none⟩), .int .i64 4] V fun e W2 => e = .returned (.tuple #[]) ∧ ∃ v2, Wst w W2 p g q n v2 (((((((((([] : List Int) ++ sto n.kd 2) ++ sto n.md 2) ++ sto n.ui 2) ++ sto n.gi 2) ++ sto n.tm 4) ++ sto n.ln 4) ++ sto n.at_ 4) ++ sto n.dv 4))) := fun V u qq => by
    have r := (hr.k4 (by omega))
    exact wst_num qq n.dv rfl 4 (by omega) (by omega) (ckE4 (by omega) (by omega)) (by simp only [List.length_append, List.length_nil, sto_length]; omega)
  have HK0 : Hid (∀ V u xs, Wst w V p g q n u xs → V.cell? ⟨g, 0, none⟩ = some (.int .i64 5)) := fun V u xs qq => by rw [qq.bx.c]; show some (Value.int .i64 n.kd) = _; rw [hk]
  have hwr : Hid (wr15 p = .agg #[.pointer (some ⟨p, 0, none⟩)]) := rfl
  have HZ : Hid (kb4 n (hdb15 n) = ((((((((([] : List Int) ++ sto n.kd 2) ++ sto n.md 2) ++ sto n.ui 2) ++ sto n.gi 2) ++ sto n.tm 4) ++ sto n.ln 4) ++ sto n.at_ 4) ++ sto n.dv 4)) := rfl
  have hh : Hid _ := h
  clear h hr hn hk
  generalize kb4 n (hdb15 n) = Z at *
  go_enter Try.func19, Try.ntmps19
  go_wp2_with fail
  refine (H0.out _ _ hh.out).mono ?_
  rintro e W0 ⟨rfl, v0, hs⟩
  have HS0 : Hid _ := hs
  clear hs
  go_wp2_with fail
  refine (H1.out _ _ HS0.out).mono ?_
  rintro e W1 ⟨rfl, v1, hs⟩
  have HS1 : Hid _ := hs
  clear hs
  go_wp2_with fail
  refine (H2.out _ _ HS1.out).mono ?_
  rintro e W2 ⟨rfl, v2, hs⟩
  have HS2 : Hid _ := hs
  clear hs
  go_wp2_with fail
  refine (H3.out _ _ HS2.out).mono ?_
  rintro e W3 ⟨rfl, v3, hs⟩
  have HS3 : Hid _ := hs
  clear hs
  go_wp2_with fail
  refine (H4.out _ _ HS3.out).mono ?_
  rintro e W4 ⟨rfl, v4, hs⟩
  have HS4 : Hid _ := hs
  clear hs
  go_wp2_with fail
  refine (H5.out _ _ HS4.out).mono ?_
  rintro e W5 ⟨rfl, v5, hs⟩
  have HS5 : Hid _ := hs
  clear hs
  go_wp2_with fail
  refine (H6.out _ _ HS5.out).mono ?_
  rintro e W6 ⟨rfl, v6, hs⟩
  have HS6 : Hid _ := hs
  clear hs
  have c0 := HK0.out _ _ _ HS6.out
  go_wp2_with fail
  refine (H7.out _ _ HS6.out).mono ?_
  rintro e W7 ⟨rfl, v7, hs⟩
  have HS7 : Hid _ := hs
  clear hs
  clear c0
  try clear c0
  go_wp2
  go_end0
  exact ⟨rfl, _, by rw [HZ.out]; exact HS7.out⟩
theorem wthrough_any (n : Nd) (p g q : Nat) (v : Value) (w W : World) (hn : n.ok w) (hr : Rt15 n) (h : Wst w W p g q n v []) :
    Calls Try.prog 19 #[.pointer (some ⟨g, 0, none⟩), .func (.func 20) #[wr15 p] #[], .func (.func 21) #[wr15 p] #[], .func (.func 22) #[wr15 p] #[]] W fun e W' => e = .returned (.tuple #[]) ∧ ∃ v', Wst w W' p g q n v' (enb15 n) := by
  have h' := hr.kd
  rcases (by omega : n.kd = 1 ∨ n.kd = 2 ∨ n.kd = 3 ∨ n.kd = 4 ∨ n.kd = 5) with e | e | e | e | e
  · have := wthrough_1 n p g q v w W hn hr e h
    unfold enb15; rw [if_pos e]; exact this
  · have := wthrough_2 n p g q v w W hn hr e h
    unfold enb15; rw [if_neg (by omega), if_pos e]; exact this
  · have := wthrough_3 n p g q v w W hn hr e h
    unfold enb15; rw [if_neg (by omega), if_neg (by omega), if_pos e]; exact this
  · have := wthrough_4 n p g q v w W hn hr e h
    unfold enb15; rw [if_neg (by omega), if_neg (by omega), if_neg (by omega)]; exact this
  · have := wthrough_5 n p g q v w W hn hr e h
    unfold enb15; rw [if_neg (by omega), if_neg (by omega), if_neg (by omega)]; exact this
end Go.Proofs.Ytiafbnpbbjkdbaa
