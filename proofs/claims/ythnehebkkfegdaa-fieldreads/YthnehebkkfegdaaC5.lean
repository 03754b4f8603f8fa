/- What FieldReads' walk needs. -/
import Derived.Test.YthnehebkkfegdaaC4
import Derived.Test.YthnehebkkfegdaaL7
import Derived.Deep.QuietTactic
import Derived.BigQuiet
namespace Go.Proofs.Ythnehebkkfegdaa
open Go.RowKit
set_option linter.unusedSimpArgs false
set_option linter.unusedVariables false

theorem rleft_q (p g n c : Nat) (a e : Int) (w : World) (hB : SBlk w p [.slice (some ⟨g, 0, none⟩) n c, .int .i64 a, .int .i64 e] 75) (hn : n ≤ 2000000) (ha : 0 ≤ a) (ha' : a ≤ 2000000) :
    Calls Try.prog 27 #[.pointer (some ⟨p, 0, none⟩)] w fun r w' => r = .returned (.int .i64 (n - a)) ∧ ∃ k, w' = w.drewN k := by
  have c0 := hB.c0
  have c1 := hB.c1
  have hwr : IntKind.i64.wrap ((n : Int) - a) = (n : Int) - a := by rw [IntKind.wrap_i64]; omega
  go_enter Try.func27, Try.ntmps27
  go_wp2
  go_quiet (fail)
  go_wp2
  go_ret
  exact ⟨rfl, _, rfl⟩

/-- bytes that may be stepped on -/
def CB (w : World) (g n : Nat) : Prop := ∃ cur : List Value, Blk w g cur ∧ ∀ i, i < n → ∃ x : Int, cur[i]? = some (.int .u8 x) ∧ 0 ≤ x ∧ x ≤ 255
theorem CB.set {w : World} {g n : Nat} (h : CB w g n) (k : Nat) (x : Int) (h0 : 0 ≤ x) (h1 : x ≤ 255) : CB (w.setCell ⟨g, k, none⟩ (.int .u8 x)) g n := by
  obtain ⟨cur, hb, hc⟩ := h
  refine ⟨_, hb.set k _, fun i hi => ?_⟩
  obtain ⟨y, hy, hy0, hy1⟩ := hc i hi
  by_cases hik : k = i
  · subst hik
    have hl := (List.getElem?_eq_some_iff.1 hy).1
    exact ⟨x, by simp [List.getElem?_set, hl], h0, h1⟩
  · exact ⟨y, by simp [List.getElem?_set, hik, hy], hy0, hy1⟩
theorem CB.at_ {w : World} {g n : Nat} (h : CB w g n) (i : Nat) (hi : i < n) : ∃ x : Int, w.cell? ⟨g, i, none⟩ = some (.int .u8 x) ∧ w.frozen? ⟨g, i, none⟩ = false ∧ 0 ≤ x ∧ x ≤ 255 := by
  obtain ⟨cur, hb, hc⟩ := h
  obtain ⟨x, hx, h0, h1⟩ := hc i hi
  exact ⟨x, by rw [hb.cell]; exact hx, hb.frozen i, h0, h1⟩
theorem CB.grown {w w' : World} {g n : Nat} {row : Option Nat} (h : CB w g n) (hg : w.grownBy w' row) (hr : some g ≠ row) : CB w' g n := by
  obtain ⟨cur, hb, hc⟩ := h
  exact ⟨cur, hb.grown hg hr, hc⟩
theorem Blk.cb {w : World} {g : Nat} {bs : List Int} (h : Blk w g (bv bs)) (hb : Byt bs) : CB w g bs.length :=
  ⟨_, h, fun i hi => ⟨_, bv_getElem? _ _ hi, hb.getD i⟩⟩
theorem owns_cb {w : World} {base n c : Nat} {a : Option Addr} {bs : List Int} (h : w.ownsRow base 5 1 (.slice a n c) n (bv bs)) (hb : Byt bs) (h0 : 0 < n) : ∃ g, a = some ⟨g, 0, none⟩ ∧ base ≤ g ∧ g < w.heap.size ∧ CB w g n := by
  obtain ⟨h1, h2⟩ := h
  rw [bv_length, Nat.mul_one] at h1
  rcases h2 with ⟨e, rfl⟩ | ⟨g, cap, cur, e, hbg, hg, hc, hm, hs, ht⟩
  · omega
  · injection e with e1 e2 e3
    refine ⟨g, e1, hbg, (Array.getElem?_eq_some_iff.1 hg).1, cur.toList, by simpa [Blk] using hg, fun i hi => ?_⟩
    refine ⟨bs.getD i 0, ?_, hb.getD i⟩
    rw [← bv_getElem? _ _ (by omega), ← ht, Nat.mul_one, List.getElem?_take, if_pos hi]

/-- at the head of each round: the reader at p over g, the document's in the box q -/
structure RR (w wr : World) (p g q : Nat) (a0 : Option Addr) (len0 cap0 : Nat) (bs : List Int) (at_ : Nat) (e : Int) : Prop where
  win : RInv wr p g bs at_ e
  box : SBlk wr q [.slice a0 len0 cap0, .int .i64 at_, .int .i64 e] 47
  bel : Below w.heap.size w wr
  qp : q ≠ p
  qg : q ≠ g
theorem RR.keep {w wr wx : World} {p g q : Nat} {a0 : Option Addr} {len0 cap0 : Nat} {bs : List Int} {at_ : Nat} {e : Int} (h : RR w wr p g q a0 len0 cap0 bs at_ e) (hb : Below wr.heap.size wr wx) : RR w wx p g q a0 len0 cap0 bs at_ e :=
  ⟨h.win.grown (below_grown hb) (by simp) (by simp), h.box.below hb h.box.lt, h.bel.trans (hb.mono h.bel.size), h.qp, h.qg⟩
theorem RR.set {w wr : World} {p g q : Nat} {a0 : Option Addr} {len0 cap0 : Nat} {bs : List Int} {at_ : Nat} {e : Int} (h : RR w wr p g q a0 len0 cap0 bs at_ e) (c k : Nat) (v : Value) (h1 : c ≠ p) (h2 : c ≠ g) (h3 : c ≠ q) (h4 : w.heap.size ≤ c) : RR w (wr.setCell ⟨c, k, none⟩ v) p g q a0 len0 cap0 bs at_ e :=
  ⟨h.win.grown (grown_set wr c k v) (by simpa using Ne.symm h1) (by simpa using Ne.symm h2), h.box.grown (grown_set wr c k v) (by simpa using Ne.symm h3), h.bel.setCell (p := ⟨c, k, none⟩) h4 v, h.qp, h.qg⟩
/-- the document's box told the new state; the reader not yet called -/
structure RM (w wr : World) (p g q : Nat) (a0 : Option Addr) (len0 cap0 : Nat) (bs : List Int) (at_ : Nat) (e : Int) (at2 : Nat) (e2 : Int) : Prop where
  win : RInv wr p g bs at_ e
  box : SBlk wr q [.slice a0 len0 cap0, .int .i64 at2, .int .i64 e2] 47
  bel : Below w.heap.size w wr
  qp : q ≠ p
  qg : q ≠ g
theorem RR.rm {w wr : World} {p g q : Nat} {a0 : Option Addr} {len0 cap0 : Nat} {bs : List Int} {at_ : Nat} {e : Int} (h : RR w wr p g q a0 len0 cap0 bs at_ e) (hq : w.heap.size ≤ q) (at2 : Nat) (e2 : Int) :
    RM w (((wr.setCell ⟨q, 0, none⟩ (.slice a0 len0 cap0)).setCell ⟨q, 1, none⟩ (.int .i64 at2)).setCell ⟨q, 2, none⟩ (.int .i64 e2)) p g q a0 len0 cap0 bs at_ e at2 e2 :=
  ⟨h.win.grown (wr_grown wr q _ _ _) (by simpa using Ne.symm h.qp) (by simpa using Ne.symm h.qg), ((h.box.set 0 _).set 1 _).set 2 _, wr_bel h.bel hq _ _ _, h.qp, h.qg⟩
theorem RM.rr {w wr wx : World} {p g q : Nat} {a0 : Option Addr} {len0 cap0 : Nat} {bs : List Int} {at_ : Nat} {e : Int} {at2 : Nat} {e2 : Int} (h : RM w wr p g q a0 len0 cap0 bs at_ e at2 e2) (hp : w.heap.size ≤ p) (hW : RInv wx p g bs at2 e2) (hg : wr.grownBy wx (some p)) : RR w wx p g q a0 len0 cap0 bs at2 e2 :=
  ⟨hW, h.box.grown hg (by simpa using h.qp), h.bel.trans ⟨hg.os, hg.tape, hg.output, hg.size, fun i hi => hg.block i (Nat.lt_of_lt_of_le hi h.bel.size) (by simp; omega)⟩, h.qp, h.qg⟩

theorem Res.tt {w w' : World} {v : Value} {t : List Int} (h : Res w w' v t) (hb : Byt t) (hl : t.length ≤ maxLen) : ∃ a, v = .slice a t.length t.length ∧ Row w' a t.length t ∧ (0 < t.length → ∃ g, a = some ⟨g, 0, none⟩ ∧ Blk w' g (bv t) ∧ w.heap.size ≤ g) := by
  rcases h with ⟨rfl, rfl⟩ | ⟨g, rfl, hB, hg⟩
  · exact ⟨none, rfl, Row.none_of _ rfl rfl, fun h => absurd h (by simp)⟩
  · exact ⟨_, rfl, hB.row hb hl, fun _ => ⟨g, rfl, hB, hg⟩⟩
theorem rd_byt {bs : List Int} (hb : Byt bs) (at_ : Nat) (e d n : Int) : Byt (rd bs at_ e d n).t := by
  have h0 : Byt [] := fun n hn => by simp at hn
  unfold rd
  split
  · rw [rN_t]; exact h0
  · split
    · unfold rT
      split
      · exact h0
      · split
        · exact h0
        · split
          · split
            · exact h0
            · split
              · exact (hb.drop _).take _
              · exact h0
          · exact h0
    · unfold rB
      split
      · exact h0
      · split
        · exact h0
        · split
          · exact (hb.drop _).take _
          · exact h0
theorem rd_len (bs : List Int) (at_ : Nat) (e d n : Int) : (rd bs at_ e d n).t.length ≤ bs.length := by
  unfold rd
  split
  · rw [rN_t]; simp
  · split
    · unfold rT
      split
      · simp
      · split
        · simp
        · split
          · split
            · simp
            · split
              · simp; omega
              · simp
          · simp
    · unfold rB
      split
      · simp
      · split
        · simp
        · split
          · simp; omega
          · simp
end Go.Proofs.Ythnehebkkfegdaa
