/- The program's flash in one form: each call is a call of the flash without memory. -/
import Derived.Test.YtdefcfmnhfeblaaPE
import Derived.Test.YtdefcfmnhfeblaaPG
import Derived.Test.YtdefcfmnhfeblaaPH
import Derived.Test.YtdefcfmnhfeblaaPJ
namespace Go.Proofs.Ytdefcfmnhfeblaa
open Go.RowKit
set_option linter.unusedSimpArgs false
set_option linter.unusedVariables false

/-- the power, what is left, what is torn -/
def PW (m : Fm) (pw left : Int) (T : List Int) : Prop := (m.off = true ∧ pw = 0) ∨ (m.off = false ∧ m.after = 0 ∧ pw = 1) ∨ (m.off = false ∧ 0 < m.after ∧ pw = 2 ∧ left = m.after ∧ T = m.T.take (m.p * m.b))
theorem PW.on {m : Fm} {pw left : Int} {T : List Int} (h : PW m pw left T) : (pw != 0) = !m.off := by
  rcases h with ⟨h1, rfl⟩ | ⟨h1, _, rfl⟩ | ⟨h1, _, rfl, _⟩ <;> simp [h1]
/-- the program's flash is m; what is to be torn lies in no block of G -/
def PRep (w : World) (fb bb db wb : Nat) (m : Fm) (G : Nat → Prop) : Prop := ∃ pw left aT cT T, PF w fb bb db wb m pw left aT cT T ∧ PW m pw left T ∧ ∀ tb o, aT = some ⟨tb, o, none⟩ → 0 < T.length → ¬ G tb
theorem PF.but {w w' : World} {fb bb db wb : Nat} {m : Fm} {pw left : Int} {aT : Option Addr} {cT : Nat} {T : List Int} {F : Nat → Prop} (h : PF w fb bb db wb m pw left aT cT T) (hc : Chg F w w') (h1 : ∀ k, foot fb bb db wb k → ¬ F k) (h5 : ∀ tb o, aT = some ⟨tb, o, none⟩ → 0 < T.length → tb < w.heap.size → ¬ F tb) : PF w' fb bb db wb m pw left aT cT T :=
  ⟨hc.box h.box (h1 _ (.inl rfl)), hc.box h.bs (h1 _ (.inr (.inl rfl))), hc.box h.ds (h1 _ (.inr (.inr (.inl rfl)))), hc.box h.ws (h1 _ (.inr (.inr (.inr rfl)))), h.byt, h.row.but' (fun b o e h0 hb => hc.block b hb (h5 b o e h0 hb)), h.n1, h.n2, h.n3, h.n4, h.n5, h.n6, h.nT⟩
/-- where only blocks of G were written it stands -/
theorem PRep.but {w w' : World} {fb bb db wb : Nat} {m : Fm} {G F : Nat → Prop} (h : PRep w fb bb db wb m G) (hc : Chg F w w') (hG : ∀ k, F k → G k) (h1 : ∀ k, foot fb bb db wb k → ¬ F k) : PRep w' fb bb db wb m G := by
  obtain ⟨pw, left, aT, cT, T, hp, hw, hg⟩ := h
  exact ⟨pw, left, aT, cT, T, hp.but hc h1 (fun tb o e h0 _ x => hg tb o e h0 (hG _ x)), hw, hg⟩
theorem PRep.grown {w w' : World} {fb bb db wb : Nat} {m : Fm} {G : Nat → Prop} (h : PRep w fb bb db wb m G) (hg : w.grownBy w' none) : PRep w' fb bb db wb m G := h.but (Chg.of_none hg (fun _ => False)) (fun _ x => x.elim) (fun _ _ => id)
/-- what is new lies in none of its blocks -/
theorem PRep.fresh {w : World} {fb bb db wb : Nat} {m : Fm} {G G' : Nat → Prop} (h : PRep w fb bb db wb m G) (hG : ∀ k, G' k → w.heap.size ≤ k) : PRep w fb bb db wb m G' := by
  obtain ⟨pw, left, aT, cT, T, hp, hw, hg⟩ := h
  refine ⟨pw, left, aT, cT, T, hp, hw, fun tb o e h0 x => ?_⟩
  obtain ⟨b, o', e', hc⟩ := hp.row.cells h0
  rw [e] at e'
  injection e' with e'
  injection e' with e1 e2
  subst e1
  have := hG _ x
  have := cell_lt (hc 0 h0)
  omega
theorem PRep.lt {w : World} {fb bb db wb : Nat} {m : Fm} {G : Nat → Prop} (h : PRep w fb bb db wb m G) : ∀ k, foot fb bb db wb k → k < w.heap.size := by
  obtain ⟨pw, left, aT, cT, T, hp, hw, hg⟩ := h
  rintro k (rfl | rfl | rfl | rfl)
  · exact hp.box.lt
  · exact hp.bs.lt
  · exact hp.ds.lt
  · exact hp.ws.lt
theorem wrE_cases (m : Fm) (page : Int) (ys : List Int) : (inL m.D.length page = false ∧ m.wrE page ys = 9) ∨ (inL m.D.length page = true ∧ m.b < ys.length ∧ m.wrE page ys = 2) ∨ ∃ i : Nat, page = i ∧ i < m.D.length ∧ ys.length ≤ m.b ∧ ((m.off = true ∧ m.wrE page ys = 40) ∨ (m.off = false ∧ ((m.D[i]? = some true ∧ m.wrE page ys = 41) ∨ (m.D[i]? = some false ∧ m.wrE page ys = 0)))) := by
  unfold Fm.wrE Proofs.Ytdefcfmnhfeblaa.wrE
  by_cases h1 : page < 0 ∨ (m.D.length : Int) ≤ page
  · exact .inl ⟨decide_eq_false (by omega), by rw [if_pos h1]⟩
  · rw [if_neg h1]
    obtain ⟨i, rfl⟩ := Int.eq_ofNat_of_zero_le (by omega : 0 ≤ page)
    have hi : i < m.D.length := by omega
    by_cases h2 : (m.b : Int) < ys.length
    · exact .inr (.inl ⟨inL_nat hi, by omega, by rw [if_pos h2]⟩)
    · rw [if_neg h2]
      refine .inr (.inr ⟨i, rfl, hi, by omega, ?_⟩)
      cases ho : m.off
      · refine .inr ⟨rfl, ?_⟩
        rw [if_neg (by simp), Int.toNat_natCast, List.getD_eq_getElem?_getD, List.getElem?_eq_getElem hi]
        cases m.D[i] <;> simp
      · exact .inl ⟨rfl, by rw [if_pos rfl]⟩
theorem PF.chgN {w : World} {F : Nat → Prop} (n : Nat) : Chg F w (w.drewN n) := (Chg.refl _ w).drewN n
/-- the program's Write -/
theorem prep_write {w : World} {fb bb db wb : Nat} {m : Fm} {G : Nat → Prop} {k : Nat} (h : PRep w fb bb db wb m G) (hg : m.Good k) (hk : k < 1000000) (page : Int) (a2 : Option Addr) (c2 : Nat) (ys : List Int) (RY : Row w a2 ys.length ys) (hY : ∀ b o, a2 = some ⟨b, o, none⟩ → 0 < ys.length → ¬ foot fb bb db wb b) :
    Calls Try.prog 19 #[.pointer (some ⟨fb, 0, none⟩), .int .i64 page, .slice a2 ys.length c2] w fun e w' => e = .returned (.int .i64 (m.write page ys).2) ∧ Chg (foot fb bb db wb) w w' ∧ PRep w' fb bb db wb (m.write page ys).1 G := by
  obtain ⟨pw, left, aT, cT, T, hp, hw, hG⟩ := h
  have bad : ∀ (E : Int), m.wrE page ys = E → E ≠ 0 → (Calls Try.prog 19 #[.pointer (some ⟨fb, 0, none⟩), .int .i64 page, .slice a2 ys.length c2] w fun e w' => e = .returned (.int .i64 E) ∧ ∃ n, w' = w.drewN n) → Calls Try.prog 19 #[.pointer (some ⟨fb, 0, none⟩), .int .i64 page, .slice a2 ys.length c2] w fun e w' => e = .returned (.int .i64 (m.write page ys).2) ∧ Chg (foot fb bb db wb) w w' ∧ PRep w' fb bb db wb (m.write page ys).1 G := by
    intro E hE h0 hc
    refine hc.mono ?_
    rintro e w' ⟨rfl, n, rfl⟩
    rw [Fm.write, if_neg (by rw [hE]; exact h0), hE]
    exact ⟨rfl, PF.chgN n, pw, left, aT, cT, T, hp.drewN n, hw, hG⟩
  have ho : 0 ≤ m.ops ∧ m.ops < 1000000 := ⟨hg.ops.1, by have := hg.ops.2; omega⟩
  rcases wrE_cases m page ys with ⟨h1, hE⟩ | ⟨h1, h2, hE⟩ | ⟨i, rfl, hi, hl, ⟨hoff, hE⟩ | ⟨hoff, ⟨hd, hE⟩ | ⟨hd, hE⟩⟩⟩
  · exact bad 9 hE (by decide) (pwrite_range hp hg page _ h1)
  · exact bad 2 hE (by decide) (pwrite_long hp hg page _ _ _ h1 h2 RY.le)
  · rcases hw with ⟨_, rfl⟩ | ⟨x, _⟩ | ⟨x, _⟩
    · exact bad 40 hE (by decide) (pwrite_off hp hg i _ _ _ hi hl)
    · rw [hoff] at x; cases x
    · rw [hoff] at x; cases x
  · exact bad 41 hE (by decide) (pwrite_dirty hp hg i _ _ _ hi hl (by rw [hw.on, hoff]; rfl) hd)
  · have hy : ∀ b o, a2 = some ⟨b, o, none⟩ → 0 < ys.length → b ≠ fb := fun b o e h0 x => hY b o e h0 (.inl x)
    rw [Fm.write, if_pos hE]
    rcases hw with ⟨x, _⟩ | ⟨_, ha, rfl⟩ | ⟨_, ha, rfl, rfl, rfl⟩
    · rw [hoff] at x; cases x
    · refine (pwrite_done (pw' := 1) (left' := left) hp hg i a2 c2 ys hi hl rfl hd RY hy (fun W x0 x1 x2 x3 x4 x5 x9 hB => step_on fb _ _ _ _ _ _ _ _ _ W hB ho)).mono ?_
      rintro e w' ⟨rfl, hc, hp'⟩
      refine ⟨by simp [Fm.torn, ha], hc, 1, left, aT, cT, T, hp'.of_eq rfl rfl rfl ?_ rfl rfl rfl, .inr (.inl ⟨by simp [Fm.written, ha], by simp [Fm.written, Fm.left, ha], rfl⟩), hG⟩
      simp [Fm.written, Fm.page, ha]
    · rcases Int.lt_or_le 1 m.after with h1 | h1
      · have hne : ¬ m.after = 1 := by omega
        refine (pwrite_done (pw' := 2) (left' := m.after - 1) hp hg i a2 c2 ys hi hl rfl hd RY hy (fun W x0 x1 x2 x3 x4 x5 x9 hB => step_more fb _ _ _ _ _ _ _ _ _ W hB ho ⟨h1, hg.after.2⟩)).mono ?_
        rintro e w' ⟨rfl, hc, hp'⟩
        refine ⟨by simp [Fm.torn, hne], hc, 2, m.after - 1, aT, cT, _, hp'.of_eq rfl rfl rfl ?_ rfl rfl rfl, .inr (.inr ⟨by simp [Fm.written, hne], ?_, rfl, ?_, rfl⟩), hG⟩
        · simp [Fm.written, Fm.page, hne]
        · simp only [Fm.written, Fm.left]; rw [if_neg (by omega)]; omega
        · simp only [Fm.written, Fm.left]; rw [if_neg (by omega)]
      · have he : m.after = 1 := by omega
        rw [he] at hp
        refine (pwrite_torn hp hg i a2 c2 ys hi hl rfl hd RY hy (fun W x0 x1 x2 x3 x4 x5 x9 hB => step_last fb _ _ _ _ _ _ _ _ W hB ho)).mono ?_
        rintro e w' ⟨rfl, hc, hp'⟩
        refine ⟨by simp [Fm.torn, he], hc, 0, 0, none, 0, [], hp'.of_eq rfl rfl rfl ?_ rfl rfl rfl, .inl ⟨by simp [Fm.written, he], rfl⟩, fun _ _ e => by cases e⟩
        have hpb : m.b ≤ m.p * m.b := Nat.le_mul_of_pos_left _ hg.p.1
        rw [ovr_take (by simp [ffs]; omega)]
        simp [Fm.written, Fm.page, he]
theorem erE_cases (m : Fm) (sec : Int) : (inL m.W.length sec = false ∧ m.erE sec = 9) ∨ ∃ i : Nat, sec = i ∧ i < m.W.length ∧ ((m.off = true ∧ m.erE sec = 40) ∨ (m.off = false ∧ m.erE sec = 0)) := by
  unfold Fm.erE Proofs.Ytdefcfmnhfeblaa.erE
  by_cases h1 : sec < 0 ∨ (m.W.length : Int) ≤ sec
  · exact .inl ⟨decide_eq_false (by omega), by rw [if_pos h1]⟩
  · rw [if_neg h1]
    obtain ⟨i, rfl⟩ := Int.eq_ofNat_of_zero_le (by omega : 0 ≤ sec)
    refine .inr ⟨i, rfl, by omega, ?_⟩
    cases ho : m.off
    · exact .inr ⟨rfl, by rw [if_neg (by simp)]⟩
    · exact .inl ⟨rfl, by rw [if_pos rfl]⟩
/-- the program's Erase -/
theorem prep_erase {w : World} {fb bb db wb : Nat} {m : Fm} {G : Nat → Prop} {k : Nat} (h : PRep w fb bb db wb m G) (hg : m.Good k) (hk : k < 1000000) (sec : Int) :
    Calls Try.prog 20 #[.pointer (some ⟨fb, 0, none⟩), .int .i64 sec] w fun e w' => e = .returned (.int .i64 (m.erase sec).2) ∧ Chg (foot fb bb db wb) w w' ∧ PRep w' fb bb db wb (m.erase sec).1 G := by
  obtain ⟨pw, left, aT, cT, T, hp, hw, hG⟩ := h
  have bad : ∀ (E : Int), m.erE sec = E → E ≠ 0 → (Calls Try.prog 20 #[.pointer (some ⟨fb, 0, none⟩), .int .i64 sec] w fun e w' => e = .returned (.int .i64 E) ∧ ∃ n, w' = w.drewN n) → Calls Try.prog 20 #[.pointer (some ⟨fb, 0, none⟩), .int .i64 sec] w fun e w' => e = .returned (.int .i64 (m.erase sec).2) ∧ Chg (foot fb bb db wb) w w' ∧ PRep w' fb bb db wb (m.erase sec).1 G := by
    intro E hE h0 hc
    refine hc.mono ?_
    rintro e w' ⟨rfl, n, rfl⟩
    rw [Fm.erase, if_neg (by rw [hE]; exact h0), hE]
    exact ⟨rfl, PF.chgN n, pw, left, aT, cT, T, hp.drewN n, hw, hG⟩
  have ho : 0 ≤ m.ops ∧ m.ops < 1000000 := ⟨hg.ops.1, by have := hg.ops.2; omega⟩
  rcases erE_cases m sec with ⟨h1, hE⟩ | ⟨i, rfl, hi, ⟨hoff, hE⟩ | ⟨hoff, hE⟩⟩
  · exact bad 9 hE (by decide) (perase_range hp hg sec h1)
  · rcases hw with ⟨_, rfl⟩ | ⟨x, _⟩ | ⟨x, _⟩
    · exact bad 40 hE (by decide) (perase_off hp hg i hi)
    · rw [hoff] at x; cases x
    · rw [hoff] at x; cases x
  · rw [Fm.erase, if_pos hE]
    rcases hw with ⟨x, _⟩ | ⟨_, ha, rfl⟩ | ⟨_, ha, rfl, rfl, rfl⟩
    · rw [hoff] at x; cases x
    · refine (perase_done (pw' := 1) (left' := left) hp hg hk i hi (fun W x0 x1 x2 x3 x4 x5 x9 hB => step_on fb _ _ _ _ _ _ _ _ _ W hB ho)).mono ?_
      rintro e w' ⟨rfl, hc, hp'⟩
      refine ⟨by simp [Fm.torn, ha], hc, 1, left, aT, cT, T, hp'.of_eq rfl rfl rfl ?_ ?_ rfl rfl, .inr (.inl ⟨by simp [Fm.erased, ha], by simp [Fm.erased, Fm.left, ha], rfl⟩), hG⟩
      · simp [Fm.erased, Fm.sector, ha]
      · simp [Fm.erased, ha]
    · rcases Int.lt_or_le 1 m.after with h1 | h1
      · have hne : ¬ m.after = 1 := by omega
        refine (perase_done (pw' := 2) (left' := m.after - 1) hp hg hk i hi (fun W x0 x1 x2 x3 x4 x5 x9 hB => step_more fb _ _ _ _ _ _ _ _ _ W hB ho ⟨h1, hg.after.2⟩)).mono ?_
        rintro e w' ⟨rfl, hc, hp'⟩
        refine ⟨by simp [Fm.torn, hne], hc, 2, m.after - 1, aT, cT, _, hp'.of_eq rfl rfl rfl ?_ ?_ rfl rfl, .inr (.inr ⟨by simp [Fm.erased, hne], ?_, rfl, ?_, rfl⟩), hG⟩
        · simp [Fm.erased, Fm.sector, hne]
        · simp [Fm.erased, hne]
        · simp only [Fm.erased, Fm.left]; rw [if_neg (by omega)]; omega
        · simp only [Fm.erased, Fm.left]; rw [if_neg (by omega)]
      · have he : m.after = 1 := by omega
        rw [he] at hp
        refine (perase_torn hp hg hk i hi (fun W x0 x1 x2 x3 x4 x5 x9 hB => step_last fb _ _ _ _ _ _ _ _ W hB ho)).mono ?_
        rintro e w' ⟨rfl, hc, hp'⟩
        refine ⟨by simp [Fm.torn, he], hc, 0, 0, none, 0, [], hp'.of_eq rfl rfl rfl ?_ ?_ rfl rfl, .inl ⟨by simp [Fm.erased, he], rfl⟩, fun _ _ e => by cases e⟩
        · rw [ovr_take (by simp; omega)]
          simp [Fm.erased, Fm.sector, he]
        · simp [Fm.erased, he]
/-- the program's Arm -/
theorem prep_arm {w : World} {fb bb db wb : Nat} {m : Fm} {G : Nat → Prop} {k : Nat} (h : PRep w fb bb db wb m G) (hg : m.Good k) (hGs : ∀ x, G x → x < w.heap.size) (n : Int) (a2 : Option Addr) (c2 : Nat) (ts : List Int) (RY : Row w a2 ts.length ts) (hY : ∀ b o, a2 = some ⟨b, o, none⟩ → 0 < ts.length → ¬ foot fb bb db wb b) :
    Calls Try.prog 23 #[.pointer (some ⟨fb, 0, none⟩), .agg #[.int .i64 n, .slice a2 ts.length c2]] w fun e w' => e = .returned (.int .i64 (m.arm n ts).2) ∧ Chg (foot fb bb db wb) w w' ∧ PRep w' fb bb db wb (m.arm n ts).1 G := by
  obtain ⟨pw, left, aT, cT, T, hp, hw, hG⟩ := h
  by_cases hE : arE n m.off = 0
  · have hn : ¬ n < 1 ∧ m.off = false := by
      unfold arE at hE
      split at hE
      · cases hE
      · split at hE
        · cases hE
        · rename_i x1 x2; exact ⟨x1, by simpa using x2⟩
    rw [Fm.arm, if_pos hE]
    refine (parm_ok hp hg (by rw [hw.on, hn.2]; rfl) n a2 c2 ts RY hY hn.1).mono ?_
    rintro e w' ⟨rfl, hc, tb, cT', htb, hp'⟩
    refine ⟨rfl, hc, 2, n, _, cT', _, hp'.of_eq rfl rfl rfl rfl rfl rfl rfl, .inr (.inr ⟨hn.2, by simp; omega, rfl, rfl, rfl⟩), ?_⟩
    intro tb' o e _ x
    injection e with e
    injection e with e1 e2
    subst e1
    have := hGs _ x
    omega
  · rw [Fm.arm, if_neg hE]
    refine (parm_bad hp hw.on n a2 _ c2 hE).mono ?_
    rintro e w' ⟨rfl, hgr⟩
    have hs := PRep.grown (G := G) ⟨pw, left, aT, cT, T, hp, hw, hG⟩ hgr
    exact ⟨rfl, Chg.of_none hgr _, hs⟩
/-- the program's Boot -/
theorem prep_boot {w : World} {fb bb db wb : Nat} {m : Fm} {G : Nat → Prop} (h : PRep w fb bb db wb m G) :
    Calls Try.prog 17 #[.pointer (some ⟨fb, 0, none⟩)] w fun e w' => e = .returned (.tuple #[]) ∧ Chg (foot fb bb db wb) w w' ∧ PRep w' fb bb db wb m.boot G := by
  obtain ⟨pw, left, aT, cT, T, hp, hw, hG⟩ := h
  refine (pboot_any hp).mono ?_
  rintro e w' ⟨rfl, hc, hp'⟩
  exact ⟨rfl, hc, 1, 0, none, 0, [], hp'.of_eq rfl rfl rfl rfl rfl rfl rfl, .inr (.inl ⟨rfl, rfl, rfl⟩), fun _ _ e => by cases e⟩
/-- the program's Read -/
theorem prep_read {w : World} {fb bb db wb : Nat} {m : Fm} {G : Nat → Prop} {k : Nat} (h : PRep w fb bb db wb m G) (hg : m.Good k) (at_ n : Int) (ha : -9223372036854775808 ≤ at_ ∧ at_ ≤ 9223372036854775807) (hn : -9223372036854775808 ≤ n ∧ n ≤ 9223372036854775807) :
    Calls Try.prog 21 #[.pointer (some ⟨fb, 0, none⟩), .int .i64 at_, .int .i64 n] w fun e w' => PdPost w m.B (rdE m.B.length m.off at_ n) at_.toNat n.toNat e w' := by
  obtain ⟨pw, left, aT, cT, T, hp, hw, hG⟩ := h
  exact pread_any hp hg hw.on at_ n ha hn
/-- the program's New -/
theorem prep_new (s p b : Nat) (w : World) (G : Nat → Prop) (hs : 0 < s ∧ s ≤ 16) (hp : 0 < p ∧ p ≤ 16) (hb : 16 ≤ b ∧ b ≤ 64) :
    Calls Try.prog 10 #[.agg #[.int .i64 s, .int .i64 p, .int .i64 b]] w fun e w' => ∃ fb bb db wb, e = .returned (.tuple #[.pointer (some ⟨fb, 0, none⟩), .int .i64 0]) ∧ w.grownBy w' none ∧ PRep w' fb bb db wb (Fm.new s p b) G ∧ (∀ k, foot fb bb db wb k → w.heap.size ≤ k) := by
  refine (pnew_ok s p b w hs hp hb).mono ?_
  rintro e w' ⟨fb, bb, db, wb, rfl, hg, hp', h1, h2, h3, h4⟩
  refine ⟨fb, bb, db, wb, rfl, hg, ⟨1, 0, none, 0, [], hp', .inr (.inl ⟨rfl, rfl, rfl⟩), fun _ _ e => by cases e⟩, ?_⟩
  rintro k (rfl | rfl | rfl | rfl) <;> assumption
end Go.Proofs.Ytdefcfmnhfeblaa
