/- The document's Ids. -/
import Derived.Test.YtpahnkodhonlgaaTD17
import Derived.Test.YtpahnkodhonlgaaDB
import Derived.Laws.AppendOwn
import Derived.Deep.QuietTactic
import Derived.BigQuiet
namespace Go.Proofs.Ytpahnkodhonlgaa
open Go.RowKit Go.Shelf
set_option maxRecDepth 100000
set_option linter.unusedSimpArgs false
set_option linter.unusedVariables false
theorem next17 {l : List Int} {k : Nat} {m : Int} (hm : m ∈ l) (h1 : ∀ y ∈ (srt17 l).take k, y < m) (h2 : ∀ z ∈ l, (∀ y ∈ (srt17 l).take k, y < z) → m ≤ z) : k < (srt17 l).length ∧ (srt17 l).take k ++ [m] = (srt17 l).take (k + 1) := by
  have hmS := (srt_mem l m).2 hm
  have hS : ∀ z, z ∈ srt17 l → z ∈ l := fun z h => (srt_mem l z).1 h
  have hpw := srt_pw l
  generalize srt17 l = S at *
  have hk : k < S.length := by
    rcases Nat.lt_or_ge k S.length with h | h
    · exact h
    · rw [List.take_of_length_le h] at h1
      have := h1 m hmS
      omega
  have hlt : ∀ (i j : Nat) (hi : i < S.length) (hj : j < S.length), i < j → S[i] < S[j] := fun i j hi hj h => List.pairwise_iff_getElem.1 hpw i j hi hj h
  have hs : m ≤ S[k] := h2 _ (hS _ (List.getElem_mem hk)) (fun y hy => by
    obtain ⟨i, hi⟩ := List.getElem?_of_mem hy
    rw [List.getElem?_take] at hi
    split at hi
    · rename_i c
      obtain ⟨h3, h4⟩ := List.getElem?_eq_some_iff.1 hi
      rw [← h4]
      exact hlt i k h3 hk c
    · cases hi)
  obtain ⟨i, hi⟩ := List.getElem?_of_mem hmS
  obtain ⟨h3, h4⟩ := List.getElem?_eq_some_iff.1 hi
  have he : m = S[k] := by
    rcases Nat.lt_trichotomy i k with h | h | h
    · have : m ∈ S.take k := by
        rw [← h4]
        exact List.mem_of_getElem? (i := i) (by rw [List.getElem?_take, if_pos h, List.getElem?_eq_getElem h3])
      have := h1 m this
      omega
    · subst h; exact h4.symm
    · have := hlt k i hk h3 h
      omega
  refine ⟨hk, ?_⟩
  rw [List.take_succ_eq_append_getElem hk, he]
theorem end17 {l : List Int} {k : Nat} (hk : k ≤ (srt17 l).length) (h : ∀ z ∈ l, ¬ ∀ y ∈ (srt17 l).take k, y < z) : (srt17 l).take k = srt17 l := by
  refine List.take_of_length_le ?_
  rcases Nat.lt_or_ge k (srt17 l).length with c | c
  · exfalso
    have hpw := srt_pw l
    refine h ((srt17 l)[k]) ((srt_mem l _).1 (List.getElem_mem c)) (fun y hy => ?_)
    obtain ⟨i, hi⟩ := List.getElem?_of_mem hy
    rw [List.getElem?_take] at hi
    split at hi
    · rename_i c2
      obtain ⟨h3, h4⟩ := List.getElem?_eq_some_iff.1 hi
      rw [← h4]
      exact List.pairwise_iff_getElem.1 hpw i k h3 c c2
    · cases hi
  · exact c
/-- above the last one is above all -/
theorem above17 {l : List Int} {k : Nat} {x : Int} (h0 : 0 < k) (hk : k ≤ (srt17 l).length) : (∀ y ∈ (srt17 l).take k, y < x) ↔ ((srt17 l).take k).getD (k - 1) 0 < x := by
  have hpw := srt_pw l
  generalize srt17 l = S at *
  have e : (S.take k).getD (k - 1) 0 = S[k - 1]'(by omega) := by
    rw [List.getD_eq_getElem?_getD, List.getElem?_take, if_pos (by omega), List.getElem?_eq_getElem (by omega)]
    rfl
  rw [e]
  constructor
  · intro h
    exact h _ (List.mem_of_getElem? (i := k - 1) (by rw [List.getElem?_take, if_pos (by omega), List.getElem?_eq_getElem (by omega)]))
  · intro h y hy
    obtain ⟨i, hi⟩ := List.getElem?_of_mem hy
    rw [List.getElem?_take] at hi
    split at hi
    · rename_i c2
      obtain ⟨h3, h4⟩ := List.getElem?_eq_some_iff.1 hi
      rw [← h4]
      by_cases q : i = k - 1
      · subst q; exact h
      · have := List.pairwise_iff_getElem.1 hpw i (k - 1) h3 (by omega) (by omega)
        omega
    · cases hi
/-- the least above the last one, so far -/
def Best17 (l : List Int) (k i : Nat) (t : Int) : Prop :=
  (t = -1 ∧ ∀ z ∈ l.take i, ¬ ∀ y ∈ (srt17 l).take k, y < z) ∨
  ∃ j : Nat, t = (j : Int) ∧ j < i ∧ j < l.length ∧ (∀ y ∈ (srt17 l).take k, y < l.getD j 0) ∧ ∀ z ∈ l.take i, (∀ y ∈ (srt17 l).take k, y < z) → l.getD j 0 ≤ z
theorem take_mem17 {l : List Int} {i : Nat} {z : Int} (hi : i < l.length) (h : z ∈ l.take (i + 1)) : z ∈ l.take i ∨ z = l.getD i 0 := by
  rw [List.take_succ_eq_append_getElem hi] at h
  rcases List.mem_append.1 h with h | h
  · exact Or.inl h
  · rw [List.mem_singleton.1 h, List.getD_eq_getElem?_getD, List.getElem?_eq_getElem hi]
    exact Or.inr rfl
theorem Best17.take {l : List Int} {k i : Nat} {t : Int} (h : Best17 l k i t) (hi : i < l.length) (hc : ∀ y ∈ (srt17 l).take k, y < l.getD i 0) (hb : ∀ j : Nat, t = (j : Int) → l.getD i 0 < l.getD j 0) : Best17 l k (i + 1) (i : Int) := by
  refine Or.inr ⟨i, rfl, Nat.lt_succ_self _, hi, hc, fun z hz hq => ?_⟩
  rcases take_mem17 hi hz with hz | rfl
  · rcases h with ⟨_, h2⟩ | ⟨j, e, _, _, _, h2⟩
    · exact absurd hq (h2 z hz)
    · have := h2 z hz hq
      have := hb j e
      omega
  · exact Int.le_refl _
theorem Best17.skip {l : List Int} {k i : Nat} {t : Int} (h : Best17 l k i t) (hi : i < l.length) (hc : (¬ ∀ y ∈ (srt17 l).take k, y < l.getD i 0) ∨ ∃ j : Nat, t = (j : Int) ∧ ¬ l.getD i 0 < l.getD j 0) : Best17 l k (i + 1) t := by
  rcases h with ⟨e, h2⟩ | ⟨j, e, hj, hjl, hcj, h2⟩
  · refine Or.inl ⟨e, fun z hz hq => ?_⟩
    rcases take_mem17 hi hz with hz | rfl
    · exact h2 z hz hq
    · rcases hc with hc | ⟨j, e2, _⟩
      · exact hc hq
      · omega
  · refine Or.inr ⟨j, e, by omega, hjl, hcj, fun z hz hq => ?_⟩
    rcases take_mem17 hi hz with hz | rfl
    · exact h2 z hz hq
    · rcases hc with hc | ⟨j2, e2, h3⟩
      · exact absurd hq hc
      · obtain rfl : j2 = j := by omega
        omega
theorem cell_int_new (w : World) (m : Int) : ∀ j u, ([Value.int .i64 m] : List Value)[j]? = some u → (w.alloc (.cells #[.int .i64 m] 3)).cell? ((⟨w.heap.size, 0, none⟩ : Addr).add j) = some u := by
  intro j u hj
  have hB := Bx.new w 3 [Value.int .i64 m]
  have hadd : (⟨w.heap.size, 0, none⟩ : Addr).add j = ⟨w.heap.size, j, none⟩ := by unfold Addr.add; split <;> simp_all
  rw [hadd, hB.c]
  exact hj
theorem Try.infoI17 : (Try.prog.info? 3).map (fun i => (i.zero, i.size, i.bytes)) = some (some (.int .i64 0), 1, 8) := by kernel_rfl
set_option maxHeartbeats 16000000 in
theorem rids17_any (a : Option Addr) (len cap : Nat) (l : List Int) (w : World) (R : IRow w a len l) (hl : len ≤ 1000000) :
    Calls Try.prog 11 #[.slice a len cap] w fun e w' => ∃ b c, e = .returned (.slice b (srt17 l).length c) ∧ IRow w' b (srt17 l).length (srt17 l) ∧ w.grownBy w' none := by
  have hlb := R.len_eq
  have hSL := srt_len l
  have HW : Hid (∀ x ∈ srt17 l, in64 x) := fun x hx => R.wide x ((srt_mem l x).1 hx)
  have HR : Hid _ := R
  have hcc : ∀ i, i < len → ∃ b off, a = some ⟨b, off, none⟩ := fun i hi => by obtain ⟨b, off, e, _⟩ := R.cells (by omega); exact ⟨b, off, e⟩
  obtain ⟨i5, hi, hz0, hz1, hz2⟩ := info_parts Try.infoI17
  have HNX : Hid (∀ (k j : Nat), j < l.length → (∀ y ∈ (srt17 l).take k, y < l.getD j 0) → (∀ z ∈ l.take len, (∀ y ∈ (srt17 l).take k, y < z) → l.getD j 0 ≤ z) → k < (srt17 l).length ∧ (srt17 l).take k ++ [l.getD j 0] = (srt17 l).take (k + 1)) := fun k j hj h1 h2 => by
    rw [List.take_of_length_le (by omega)] at h2
    refine next17 ?_ h1 h2
    rw [List.getD_eq_getElem?_getD, List.getElem?_eq_getElem hj]
    exact List.getElem_mem hj
  have HEN : Hid (∀ k, k ≤ (srt17 l).length → (∀ z ∈ l.take len, ¬ ∀ y ∈ (srt17 l).take k, y < z) → (srt17 l).take k = srt17 l) := fun k hk h => by
    rw [List.take_of_length_le (by omega)] at h
    exact end17 hk h
  have HAB : Hid (∀ (k : Nat) (x : Int), 0 < k → k ≤ (srt17 l).length → ((∀ y ∈ (srt17 l).take k, y < x) ↔ ((srt17 l).take k).getD (k - 1) 0 < x)) := fun k x h0 hk => above17 h0 hk
  have HTK : Hid (∀ i, i < len → ∀ t, ∀ k, Best17 l k i t → (∀ y ∈ (srt17 l).take k, y < l.getD i 0) → (∀ j : Nat, t = (j : Int) → l.getD i 0 < l.getD j 0) → Best17 l k (i + 1) (i : Int)) := fun i hi t k h => h.take (by omega)
  have HSK : Hid (∀ i, i < len → ∀ t, ∀ k, Best17 l k i t → ((¬ ∀ y ∈ (srt17 l).take k, y < l.getD i 0) ∨ ∃ j : Nat, t = (j : Int) ∧ ¬ l.getD i 0 < l.getD j 0) → Best17 l k (i + 1) t) := fun i hi t k h => h.skip (by omega)
  clear R hcc
  go_enter Try.func11, Try.ntmps11
  go_wp2
  go_loopw [3] (fun v wr => ∃ (b : Option Addr) (k c : Nat), v = .slice b k c ∧ k ≤ (srt17 l).length ∧ Hid (wr.ownsRow w.heap.size 3 1 (.slice b k c) k (((srt17 l).take k).map (Value.int .i64)) ∧ w.grownBy wr none)) (fun v _ => match v with | .slice _ k _ => (srt17 l).length - k | _ => 0)
  case atStart => exact ⟨none, 0, 0, rfl, Nat.zero_le _, World.ownsRow_nil _ _ _ _, World.grownBy.refl _ _⟩
  case round =>
    obtain ⟨ob, k, oc, rfl, hk, HO⟩ := hrel
    have HI : Hid (IRow wr ob k ((srt17 l).take k)) := by
      obtain ⟨a2, c2, e2, hr, _⟩ := own_ints17 HO.out.1 (fun x hx => HW.out x (List.mem_of_mem_take hx)) (by unfold maxLen; omega)
      injection e2 with e3 e4 e5
      subst e3
      exact hr
    go_wp2_with fail
    go_loopw [4, 5] (fun t i wr2 => ∃ (q : Nat) (u : Int), t = .int .i64 u ∧ i = .int .i64 q ∧ q ≤ len ∧ -1 ≤ u ∧ u < len ∧ Hid (Best17 l k q u) ∧ Hid (wr.grownBy wr2 none)) (fun _ i _ => len - (intOf i).toNat)
    case atStart => exact ⟨0, -1, rfl, rfl, Nat.zero_le _, by omega, by omega, Or.inl ⟨rfl, fun z hz => by cases hz⟩, World.grownBy.refl _ _⟩
    case round =>
      obtain ⟨q, u, rfl, rfl, hq, hu0, hu1, HB, HG⟩ := hrel
      by_cases hqi : q < len
      · have hqii : (q : Int) < (len : Int) := by omega
        obtain ⟨b, off, rfl, hc⟩ := (HR.out.grown (grown_trans HO.out.2 HG.out)).cells (by omega)
        have x0 := hc q hqi
        have hwq : IntKind.i64.wrap ((q : Int) + 1) = (q : Int) + 1 := by rw [IntKind.wrap_i64]; omega
        have htk := HTK.out q hqi u k HB.out
        have hsk := HSK.out q hqi u k HB.out
        by_cases hk0 : k = 0
        · subst hk0
          by_cases hun : u < 0
          · have hun1 : decide (u < 0) = true := decide_eq_true hun
            have hmn : ∀ j : Nat, u = (j : Int) → l.getD q 0 < l.getD j 0 := fun j e => by omega
            have hcd : ∀ y ∈ (srt17 l).take 0, y < l.getD q 0 := fun y hy => by rw [List.take_zero] at hy; cases hy
            have HN : Hid (Best17 l 0 (q + 1) (q : Int)) := htk hcd hmn
            generalize l.getD q 0 = X at *
            clear hcd hmn htk hsk HB hc
            go_wp2_with fail
            go_quiet (fail)
            go_wp2
            refine ⟨⟨q + 1, (q : Int), rfl, by go_num, by clear hwq; omega, by omega, by omega, HN, grown_trans HG.out ⟨rfl, rfl, rfl, Nat.le_refl _, fun _ _ _ => rfl⟩⟩, ?_⟩
            clear hwq
            simp [intOf]; omega
          · have hun1 : decide (u < 0) = false := decide_eq_false hun
            obtain ⟨j, rfl⟩ : ∃ j : Nat, u = (j : Int) := ⟨u.toNat, by omega⟩
            have y0 := hc j (by omega)
            have hjl : (j : Int) < (len : Int) := by omega
            by_cases hlt : l.getD q 0 < l.getD j 0
            · have hl1 : decide (l.getD q 0 < l.getD j 0) = true := decide_eq_true hlt
              have hmn : ∀ j2 : Nat, (j : Int) = (j2 : Int) → l.getD q 0 < l.getD j2 0 := fun j2 e => by obtain rfl : j = j2 := (by omega); exact hlt
              have hcd : ∀ y ∈ (srt17 l).take 0, y < l.getD q 0 := fun y hy => by rw [List.take_zero] at hy; cases hy
              have HN : Hid (Best17 l 0 (q + 1) (q : Int)) := htk hcd hmn
              generalize l.getD q 0 = X at *
              generalize l.getD j 0 = Y at *
              clear hcd hmn hlt htk hsk HB hc
              go_wp2_with fail
              go_quiet (fail)
              go_wp2
              refine ⟨⟨q + 1, (q : Int), rfl, by go_num, by clear hwq; omega, by omega, by omega, HN, grown_trans HG.out ⟨rfl, rfl, rfl, Nat.le_refl _, fun _ _ _ => rfl⟩⟩, ?_⟩
              clear hwq
              simp [intOf]; omega
            · have hl1 : decide (l.getD q 0 < l.getD j 0) = false := decide_eq_false hlt
              have HN : Hid (Best17 l 0 (q + 1) (j : Int)) := hsk (Or.inr ⟨j, rfl, by omega⟩)
              generalize l.getD q 0 = X at *
              generalize l.getD j 0 = Y at *
              clear hlt htk hsk HB hc
              go_wp2_with fail
              go_quiet (fail)
              go_wp2
              refine ⟨⟨q + 1, (j : Int), rfl, by go_num, by clear hwq; omega, by omega, by omega, HN, grown_trans HG.out ⟨rfl, rfl, rfl, Nat.le_refl _, fun _ _ _ => rfl⟩⟩, ?_⟩
              clear hwq
              simp [intOf]; omega
        · have hkb : ((k : Int) == 0) = false := by rw [beq_eq_false_iff_ne]; omega
          have hwk : IntKind.i64.wrap ((k : Int) - 1) = (k : Int) - 1 := by rw [IntKind.wrap_i64]; omega
          obtain ⟨ob1, ooff, rfl, hoc⟩ := (HI.out.grown HG.out).cells (by omega)
          have z0 := hoc (k - 1) (by omega)
          have hk1 : (k : Int) - 1 < (k : Int) := by omega
          have hk2 : ¬ (k : Int) - 1 < 0 := by omega
          have hk3 : ((k : Int) - 1).toNat = k - 1 := by omega
          have hab := HAB.out k (l.getD q 0) (by omega) hk
          clear hoc
          by_cases hcan : ((srt17 l).take k).getD (k - 1) 0 < l.getD q 0
          · have hcn1 : decide (((srt17 l).take k).getD (k - 1) 0 < l.getD q 0) = true := decide_eq_true hcan
            have hcdd := hab.2 hcan
            clear hab
            generalize ((srt17 l).take k).getD (k - 1) 0 = Z at *
            clear hcan
            by_cases hun : u < 0
            · have hun1 : decide (u < 0) = true := decide_eq_true hun
              have hmn : ∀ j : Nat, u = (j : Int) → l.getD q 0 < l.getD j 0 := fun j e => by omega
              have hcd : ∀ y ∈ (srt17 l).take k, y < l.getD q 0 := hcdd
              have HN : Hid (Best17 l k (q + 1) (q : Int)) := htk hcd hmn
              generalize l.getD q 0 = X at *
              clear hcdd hcd hmn htk hsk HB hc
              go_wp2_with fail
              go_quiet (fail)
              go_wp2
              refine ⟨⟨q + 1, (q : Int), rfl, by go_num, by clear hwq; omega, by omega, by omega, HN, grown_trans HG.out ⟨rfl, rfl, rfl, Nat.le_refl _, fun _ _ _ => rfl⟩⟩, ?_⟩
              clear hwq
              simp [intOf]; omega
            · have hun1 : decide (u < 0) = false := decide_eq_false hun
              obtain ⟨j, rfl⟩ : ∃ j : Nat, u = (j : Int) := ⟨u.toNat, by omega⟩
              have y0 := hc j (by omega)
              have hjl : (j : Int) < (len : Int) := by omega
              by_cases hlt : l.getD q 0 < l.getD j 0
              · have hl1 : decide (l.getD q 0 < l.getD j 0) = true := decide_eq_true hlt
                have hmn : ∀ j2 : Nat, (j : Int) = (j2 : Int) → l.getD q 0 < l.getD j2 0 := fun j2 e => by obtain rfl : j = j2 := (by omega); exact hlt
                have hcd : ∀ y ∈ (srt17 l).take k, y < l.getD q 0 := hcdd
                have HN : Hid (Best17 l k (q + 1) (q : Int)) := htk hcd hmn
                generalize l.getD q 0 = X at *
                generalize l.getD j 0 = Y at *
                clear hcdd hcd hmn hlt htk hsk HB hc
                go_wp2_with fail
                go_quiet (fail)
                go_wp2
                refine ⟨⟨q + 1, (q : Int), rfl, by go_num, by clear hwq; omega, by omega, by omega, HN, grown_trans HG.out ⟨rfl, rfl, rfl, Nat.le_refl _, fun _ _ _ => rfl⟩⟩, ?_⟩
                clear hwq
                simp [intOf]; omega
              · have hl1 : decide (l.getD q 0 < l.getD j 0) = false := decide_eq_false hlt
                have HN : Hid (Best17 l k (q + 1) (j : Int)) := hsk (Or.inr ⟨j, rfl, by omega⟩)
                generalize l.getD q 0 = X at *
                generalize l.getD j 0 = Y at *
                clear hlt htk hsk HB hc
                go_wp2_with fail
                go_quiet (fail)
                go_wp2
                refine ⟨⟨q + 1, (j : Int), rfl, by go_num, by clear hwq; omega, by omega, by omega, HN, grown_trans HG.out ⟨rfl, rfl, rfl, Nat.le_refl _, fun _ _ _ => rfl⟩⟩, ?_⟩
                clear hwq
                simp [intOf]; omega
          · have hcn1 : decide (((srt17 l).take k).getD (k - 1) 0 < l.getD q 0) = false := decide_eq_false hcan
            have HN : Hid (Best17 l k (q + 1) u) := hsk (Or.inl (fun h => hcan (hab.1 h)))
            clear hab
            generalize ((srt17 l).take k).getD (k - 1) 0 = Z at *
            generalize l.getD q 0 = X at *
            clear hcan htk hsk HB hc
            go_wp2_with fail
            go_quiet (fail)
            go_wp2
            refine ⟨⟨q + 1, u, rfl, by go_num, by clear hwq; omega, by omega, by omega, HN, grown_trans HG.out ⟨rfl, rfl, rfl, Nat.le_refl _, fun _ _ _ => rfl⟩⟩, ?_⟩
            clear hwq
            simp [intOf]; omega
      · obtain rfl : q = len := by omega
        have hqii : ¬ (q : Int) < (q : Int) := by omega
        by_cases hun : u < 0
        · have hE : (srt17 l).take k = srt17 l := by
            rcases HB.out with ⟨_, h2⟩ | ⟨j, e, _⟩
            · exact HEN.out k hk h2
            · omega
          have hlk : k = (srt17 l).length := by
            have e := congrArg List.length hE
            rw [List.length_take] at e
            omega
          have hun1 : decide (u < 0) = true := decide_eq_true hun
          have HF : Hid (IRow wr ob k (srt17 l)) := by
            have h := HI.out.grown HG.out
            rw [hE] at h
            exact h
          have HG2 : Hid _ := grown_trans HO.out.2 HG.out
          clear hE
          go_wp2_with fail
          go_returns
          rw [← hlk]
          exact ⟨ob, ⟨oc, rfl⟩, HF.out, HG2.out⟩
        · have hun1 : decide (u < 0) = false := decide_eq_false hun
          obtain ⟨j, rfl⟩ : ∃ j : Nat, u = (j : Int) := ⟨u.toNat, by omega⟩
          obtain ⟨hk1, hk2⟩ : k < (srt17 l).length ∧ (srt17 l).take k ++ [l.getD j 0] = (srt17 l).take (k + 1) := by
            rcases HB.out with ⟨e, _⟩ | ⟨j2, e, _, h2, h3, h4⟩
            · omega
            · obtain rfl : j = j2 := by omega
              exact HNX.out k j h2 h3 h4
          have hju : (j : Int) < (q : Int) := by omega
          obtain ⟨b, off, rfl, hc⟩ := (HR.out.grown (grown_trans HO.out.2 HG.out)).cells (by omega)
          have x0 := hc j (by omega)
          generalize l.getD j 0 = m at *
          have HK2 : Hid _ := hk2
          have hown := HO.out.1.kept HG.out (by cases (Value.slice ob k oc).ownBlock <;> simp)
          have hkl : ((srt17 l).take k).length = k := by rw [List.length_take]; omega
          have hsz : w.heap.size ≤ wr.heap.size := Nat.le_trans HO.out.2.size HG.out.size
          have HGA : Hid (w.grownBy wr none) := grown_trans HO.out.2 HG.out
          clear hc hk2 HB
          go_wp2_with (at_builtin; refine wpList_append_own _ rfl _ _ 22 rfl w.heap.size 3 i5 _ 1 8 Try.underlying22 hi hz0 hz1 hz2 rfl (by decide) _ k _ rfl (hown.alloc _) ⟨wr.heap.size, 0, none⟩ 1 1 [.int .i64 m] rfl rfl (cell_int_new wr m) (by simp [Value.oneCell']) (by unfold maxLen; omega) (by omega) (by simp; omega) ?_; intro u9 W9 hown9 hgrow9 _)
          obtain ⟨g9, c9, rfl⟩ : ∃ g9 c9, u9 = .slice (some ⟨g9, 0, none⟩) (k + 1) c9 := by
            rcases hown9.2 with ⟨_, h⟩ | ⟨g, cap2, cur, e, _⟩
            · omega
            · exact ⟨g, cap2, e⟩
          have hrow : W9.ownsRow w.heap.size 3 1 (.slice (some ⟨g9, 0, none⟩) (k + 1) c9) (k + 1) (((srt17 l).take (k + 1)).map (Value.int .i64)) := by
            rw [← HK2.out, List.map_append]
            exact hown9
          have hg9 : w.grownBy W9 none := by
            have k1 := hgrow9
            have k0 := grown_trans HGA.out (World.grownBy_alloc wr (.cells #[.int .i64 m] 3) none)
            exact ⟨k1.os.trans k0.os, k1.tape.trans k0.tape, k1.output.trans k0.output, Nat.le_trans k0.size k1.size, fun j hj _ => by
              rw [k1.block j (Nat.lt_of_lt_of_le hj k0.size) (fun e => by have := (hown.lt j e.symm).1; omega)]
              exact k0.block j hj (by simp)⟩
          refine ⟨⟨some ⟨g9, 0, none⟩, k + 1, c9, rfl, hk1, hrow, hg9⟩, ?_⟩
          simp only
          omega
end Go.Proofs.Ytpahnkodhonlgaa
