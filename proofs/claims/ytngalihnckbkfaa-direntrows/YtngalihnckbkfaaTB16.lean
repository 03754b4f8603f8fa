/- A folder's names out of bytes: the closures of told; what its rounds keep. -/
import Derived.Test.YtngalihnckbkfaaTA16
import Derived.Test.YtngalihnckbkfaaHE
import Derived.Laws.AppendOwn
namespace Go.Proofs.Ytngalihnckbkfaa
open Go.RowKit
set_option maxRecDepth 100000
set_option linter.unusedSimpArgs false
set_option linter.unusedVariables false
theorem inR_9 : inR 9 = 6 := by decide
theorem rnumA_any (p g : Nat) (bs : List Int) (at_ m : Nat) (e : Int) (w : World) (hI : RInv w p g bs at_ e) (hm : m = 1 ∨ m = 2 ∨ m = 4) :
    Calls Try.prog 40 #[.pointer (some ⟨p, 0, none⟩), .int .i64 m] w fun r w' => ∃ x at' e', r = .returned (.int .u64 x) ∧ RInv w' p g bs at' e' ∧ w.grownBy w' (some p) ∧ (e' = 0 ↔ e = 0 ∧ at_ + m ≤ bs.length) ∧ (e' = 0 → x = le ((bs.drop at_).take m) ∧ at' = at_ + m) ∧ (0 ≤ x ∧ x < 4294967296) ∧ at_ ≤ at' := by
  by_cases he : e = 0
  · subst he
    by_cases hin : at_ + m ≤ bs.length
    · refine (rnum_ok p g bs at_ m w hI (by rcases hm with rfl | rfl | rfl <;> rfl) hin).mono ?_
      rintro r w' ⟨rfl, h1, h2⟩
      have hby : Byt ((bs.drop at_).take m) := (hI.byt.drop _).take _
      have hlt := le_lt_of hby 4 (by rw [List.length_take]; omega)
      exact ⟨_, _, _, rfl, h1, h2, ⟨fun _ => ⟨rfl, hin⟩, fun _ => rfl⟩, fun _ => ⟨rfl, rfl⟩, ⟨le_nonneg hby, by omega⟩, Nat.le_add_right _ _⟩
    · have hE : getE bs.length at_ m = 9 := by
        have h1 : isW m = true := by rcases hm with rfl | rfl | rfl <;> rfl
        have h2 : inB bs.length at_ m = false := by unfold inB; rw [decide_eq_false_iff_not]; omega
        unfold getE
        rw [h1, h2]
        rfl
      refine (rnum_bad p g bs at_ m w hI (by omega) 9 hE rfl).mono ?_
      rintro r w' ⟨rfl, h1, h2⟩
      rw [inR_9] at h1
      exact ⟨_, _, _, rfl, h1, h2, ⟨fun h => absurd h (by decide), fun h => absurd h.2 hin⟩, fun h => absurd h (by decide), ⟨by decide, by decide⟩, Nat.le_refl _⟩
  · refine (rnum_stop p _ _ e m w hI.blk (by simpa using he)).mono ?_
    rintro r w' ⟨rfl, rfl⟩
    exact ⟨_, _, _, rfl, hI, World.grownBy.refl _ _, ⟨fun h => absurd h he, fun h => absurd h.1 he⟩, fun h => absurd h he, ⟨by decide, by decide⟩, Nat.le_refl _⟩
theorem pget_any (p g pb : Nat) (bs : List Int) (at_ m : Nat) (e : Int) (w : World) (hI : RInv w p g bs at_ e) (hb : w.cell? ⟨pb, 0, none⟩ = some (.pointer (some ⟨p, 0, none⟩))) (hm : m = 1 ∨ m = 2 ∨ m = 4) :
    Calls Try.prog 39 #[.int .i64 m, .pointer (some ⟨pb, 0, none⟩)] w fun r w' => ∃ x at' e', r = .returned (.int .i64 x) ∧ RInv w' p g bs at' e' ∧ w.grownBy w' (some p) ∧ (e' = 0 ↔ e = 0 ∧ at_ + m ≤ bs.length) ∧ (e' = 0 → x = le ((bs.drop at_).take m) ∧ at' = at_ + m) ∧ (0 ≤ x ∧ x < 4294967296) ∧ at_ ≤ at' := by
  have hN := rnumA_any p g bs at_ m e w hI hm
  clear hI hm
  go_enter Try.func39, Try.ntmps39
  go_wp2_with (go_at_call 40; refine hN.mono ?_; rintro e1 w1 ⟨x, at', e', rfl, h1, h2, h3, h4, h5⟩)
  go_ret
  exact ⟨x, at', e', rfl, h1, h2, h3, h4, h5⟩
theorem pwhole_any (p g pb : Nat) (bs : List Int) (at_ : Nat) (e : Int) (w : World) (hI : RInv w p g bs at_ e) (hb : w.cell? ⟨pb, 0, none⟩ = some (.pointer (some ⟨p, 0, none⟩))) :
    Calls Try.prog 41 #[.pointer (some ⟨pb, 0, none⟩)] w fun r w' => r = .returned (.bool (e == 0)) ∧ w.grownBy w' none := by
  have hN := rerr_any p _ _ _ w hI.blk
  clear hI
  go_enter Try.func41, Try.ntmps41
  go_wp2_with (go_at_call 42; refine hN.mono ?_; rintro e1 w1 ⟨rfl, h1, _⟩)
  go_ret
  exact ⟨rfl, h1⟩
theorem rbytesA_any (p g : Nat) (bs : List Int) (at_ m : Nat) (e : Int) (w : World) (hI : RInv w p g bs at_ e) (hm : m ≤ 4294967296) :
    Calls Try.prog 44 #[.pointer (some ⟨p, 0, none⟩), .int .i64 m] w fun r w' => ∃ v at' e', r = .returned v ∧ RInv w' p g bs at' e' ∧ w.grownBy w' (some p) ∧ (e' = 0 ↔ e = 0 ∧ at_ + m ≤ bs.length) ∧ (e' = 0 → Res w w' v ((bs.drop at_).take m) ∧ at' = at_ + m) ∧ (¬ e' = 0 → v = .slice none 0 0) ∧ at_ ≤ at' := by
  by_cases he : e = 0
  · subst he
    by_cases hin : at_ + m ≤ bs.length
    · refine (rbytes_ok p g bs at_ m w hI hin).mono ?_
      rintro r w' ⟨v, rfl, h0, h1, h2⟩
      exact ⟨_, _, _, rfl, h1, h2, ⟨fun _ => ⟨rfl, hin⟩, fun _ => rfl⟩, fun _ => ⟨h0, rfl⟩, fun h => absurd rfl h, Nat.le_add_right _ _⟩
    · refine (rbytes_out p g bs at_ m w hI (by omega) hin).mono ?_
      rintro r w' ⟨rfl, h1, h2⟩
      exact ⟨_, _, _, rfl, h1, h2, ⟨fun h => absurd h (by decide), fun h => absurd h.2 hin⟩, fun h => absurd h (by decide), fun _ => rfl, Nat.le_refl _⟩
  · refine (rbytes_stop p _ _ e m w hI.blk (by simpa using he)).mono ?_
    rintro r w' ⟨rfl, rfl⟩
    exact ⟨_, _, _, rfl, hI, World.grownBy.refl _ _, ⟨fun h => absurd h he, fun h => absurd h.1 he⟩, fun h => absurd h he, fun _ => rfl, Nat.le_refl _⟩
/-- an own row of names is a row of names -/
theorem kxc_get : ∀ (l : List Kx) (i : Nat) (K : Kx) (j : Nat), l[i]? = some K → j < 2 → (l.flatMap Kx.cells)[i * 2 + j]? = K.cells[j]?
  | [], i, K, j, h, _ => by simp at h
  | k :: r, 0, K, j, h, hj => by
    rw [List.getElem?_cons_zero] at h
    injection h with h
    subst h
    rw [List.flatMap_cons, List.getElem?_append_left (by simp [Kx.cells]; omega), Nat.zero_mul, Nat.zero_add]
  | k :: r, i + 1, K, j, h, hj => by
    rw [List.getElem?_cons_succ] at h
    have hc : k.cells.length = 2 := rfl
    rw [List.flatMap_cons, List.getElem?_append_right (by rw [hc]; omega), hc, show (i + 1) * 2 + j - 2 = i * 2 + j by omega]
    exact kxc_get r i K j h hj
theorem own_kxs {W : World} {base n : Nat} {v : Value} {l : List Kx} (h : W.ownsRow base 41 2 v n (l.flatMap Kx.cells)) (hn : n = l.length) (hl : n ≤ maxLen) : ∃ a c, v = .slice a n c ∧ Kxs W a n l ∧ n ≤ c ∧ c ≤ maxLen ∧ (∀ b off, a = some ⟨b, off, none⟩ → off = 0 ∧ v.ownBlock = some b) := by
  obtain ⟨h1, h2⟩ := h
  rcases h2 with ⟨rfl, h2⟩ | ⟨g, cap, cur, rfl, _, hg, hc, hm, hs, ht⟩
  · subst h2
    obtain rfl : l = [] := List.eq_nil_of_length_eq_zero hn.symm
    exact ⟨none, 0, rfl, ⟨rfl, by unfold maxLen; omega, fun h => by omega⟩, Nat.le_refl _, by unfold maxLen; omega, fun _ _ e => by cases e⟩
  · refine ⟨_, cap, rfl, ⟨hn.symm, hl, fun _ => ⟨g, 0, rfl, fun i c hi => ?_⟩⟩, hc, by first | exact hm | omega, fun b off e => ?_⟩
    · have hi2 : i < l.length := (List.getElem?_eq_some_iff.1 hi).1
      have key : ∀ j, j < 2 → W.cell? ⟨g, 0 + i * 2 + j, none⟩ = c.cells[j]? := by
        intro j hj
        have e : W.cell? ⟨g, 0 + i * 2 + j, none⟩ = cur[0 + i * 2 + j]? := by simp [World.cell?, hg]
        rw [e, ← kxc_get l i c j hi hj, ← ht, List.getElem?_take, if_pos (by omega), Array.getElem?_toList, Nat.zero_add]
      exact ⟨key 0 (by decide), key 1 (by decide)⟩
    · injection e with e
      injection e with e1 e2
      exact ⟨e2.symm, by rw [e1]; rfl⟩
/-- while the bytes are read: the variable that points to the reader, the reader, the names so far -/
structure To16 (w W : World) (q p g : Nat) (bs : List Int) (at_ : Nat) (e : Int) (l : List Kx) (v : Value) : Prop where
  bx : Bx W q 67 [.pointer (some ⟨p, 0, none⟩)]
  rd : RInv W p g bs at_ e
  own : W.ownsRow (q + 1) 41 2 v l.length (l.flatMap Kx.cells)
  gr : w.grownBy W none
  pq : p < q
  gq : g < q
  wp : w.heap.size ≤ p
theorem To16.keep {w W W' : World} {q p g : Nat} {bs : List Int} {at_ : Nat} {e : Int} {l : List Kx} {v : Value} (h : To16 w W q p g bs at_ e l v) (k : W.grownBy W' none) : To16 w W' q p g bs at_ e l v :=
  ⟨h.bx.kept k, h.rd.grown k (by simp) (by simp), h.own.kept k (by cases v.ownBlock <;> simp), grown_trans h.gr k, h.pq, h.gq, h.wp⟩
theorem To16.call {w W W' : World} {q p g : Nat} {bs : List Int} {at_ at' : Nat} {e e' : Int} {l : List Kx} {v : Value} (h : To16 w W q p g bs at_ e l v) (r : RInv W' p g bs at' e') (k : W.grownBy W' (some p)) : To16 w W' q p g bs at' e' l v := by
  have hpq := h.pq
  refine ⟨⟨?_⟩, r, h.own.kept k ?_, grown_new h.gr k h.wp, h.pq, h.gq, h.wp⟩
  · rw [k.block q h.bx.lt (by simp; omega)]; exact h.bx.blk
  · rcases hb : v.ownBlock with _ | j
    · exact .inl rfl
    · exact .inr (fun e => by injection e with e; have := (h.own.lt j hb).1; omega)
theorem To16.app {w W W' : World} {q p g : Nat} {bs : List Int} {at_ : Nat} {e : Int} {l : List Kx} {v v' : Value} (h : To16 w W q p g bs at_ e l v) (K : Kx) (o : W'.ownsRow (q + 1) 41 2 v' (l.length + 1) (l.flatMap Kx.cells ++ K.cells)) (k : W.grownBy W' v.ownBlock) : To16 w W' q p g bs at_ e (l ++ [K]) v' := by
  have hpq := h.pq
  have hgq := h.gq
  have hwp := h.wp
  have hne : ∀ j, j ≤ q → some j ≠ v.ownBlock := fun j hj e => by have := (h.own.lt j e.symm).1; omega
  refine ⟨⟨?_⟩, h.rd.grown k (hne p (by omega)) (hne g (by omega)), ?_, ?_, h.pq, h.gq, h.wp⟩
  · rw [k.block q h.bx.lt (hne q (Nat.le_refl _))]; exact h.bx.blk
  · rw [List.length_append, List.flatMap_append]
    simpa using o
  · exact ⟨k.os.trans h.gr.os, k.tape.trans h.gr.tape, k.output.trans h.gr.output, Nat.le_trans h.gr.size k.size, fun j hj _ => by
      rw [k.block j (Nat.lt_of_lt_of_le hj h.gr.size) (hne j (by omega))]
      exact h.gr.block j hj (by simp)⟩
/-- what Bytes tells, as a row -/
theorem Res.row16 {w w' : World} {v : Value} {t : List Int} (h : Res w w' v t) (hb : Byt t) (hl : t.length ≤ maxLen) : ∃ a, v = .slice a t.length t.length ∧ Row w' a t.length t := by
  rcases h with ⟨rfl, rfl⟩ | ⟨g, rfl, hB, _⟩
  · exact ⟨none, rfl, ⟨rfl, Nat.zero_le _, hb, fun h => absurd h (Nat.lt_irrefl 0)⟩⟩
  · exact ⟨_, rfl, hB.row hb hl⟩
/-- what is left to read, and whether it is read still -/
def lft16 (n p : Nat) (w : World) : Nat :=
  match w.cell? ⟨p, 1, none⟩, w.cell? ⟨p, 2, none⟩ with
  | some (.int _ a), some (.int _ e) => 2 * (n - a.toNat) + if e = 0 then 1 else 0
  | _, _ => 0
theorem lft_eq {w : World} {p g : Nat} {bs : List Int} {at_ : Nat} {e : Int} (h : RInv w p g bs at_ e) : lft16 bs.length p w = 2 * (bs.length - at_) + if e = 0 then 1 else 0 := by
  have c1 := h.blk.c1
  have c2 := h.blk.c2
  unfold lft16
  rw [c1, c2]
  simp only [Int.toNat_natCast]
theorem cell_kx_new (w : World) (t : TypeId) (K : Kx) : ∀ j u, (K.cells)[j]? = some u → (w.alloc (.cells K.cells.toArray t)).cell? ((⟨w.heap.size, 0, none⟩ : Addr).add j) = some u := by
  intro j u hj
  have hB := Bx.new w t K.cells
  have hadd : (⟨w.heap.size, 0, none⟩ : Addr).add j = ⟨w.heap.size, j, none⟩ := by unfold Addr.add; split <;> simp_all
  rw [hadd, hB.c]
  exact hj
theorem Try.infoKid : (Try.prog.info? 41).map (fun i => (i.zero, i.size, i.bytes)) = some (some (.agg #[.string ⟨#[]⟩, .int .i64 0]), 2, 24) := by kernel_rfl
end Go.Proofs.Ytngalihnckbkfaa
