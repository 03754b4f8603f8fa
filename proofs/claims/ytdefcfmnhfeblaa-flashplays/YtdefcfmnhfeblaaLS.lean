/- A list of calls, out of its reading, with how long their bytes are; the walk of FlashPlays, whatever comes in. -/
import Derived.Test.YtdefcfmnhfeblaaLR
import Derived.SizedLaws
namespace Go.Proofs.Ytdefcfmnhfeblaa
open Go.ChangeShapes Go.WideShapes Go.RowKit Go.Joins
set_option linter.unusedVariables false

theorem bytes5 : Try.prog.bytesOf 5 = 1 := by kernel_rfl
theorem all_mem {H : Type} {P : Program} {e : TypeId} : ∀ {l : List (DataW H)} {d : DataW H}, d ∈ l → ∀ n ∈ d.weights P e, n ∈ DataW.weightsAll P e l
  | x :: r, d, hd, n, hn => by
    simp only [DataW.weightsAll, List.mem_append]
    rcases List.mem_cons.1 hd with h | h
    · subst h; exact Or.inl hn
    · exact Or.inr (all_mem h n hn)
  | [], d, hd, _, _ => by cases hd
theorem row_sized {H : Type} {enc : TypeId × Value → H} {w : World} {fuel : Nat} {v : Value} {x : DataW H × List MemPlace} (h : DataW.trod enc Try.prog w 0 (fun _ => true) true fuel 34 [v] = some x) :
    ∃ a len cap zs, v = .slice a len cap ∧ IsRow .u8 w a len cap zs ∧ ((∀ n ∈ x.1.weights Try.prog 34, n ≤ reachBytes) → len ≤ 140737488355328) := by
  rcases open_ints Try.underlying34 Try.underlying5 Try.cells5 h with ⟨hcs, _⟩ | ⟨y, l, c, zs, hcs, _, hl, hm, hz, hx, hcell, hwz⟩
  · simp at hcs
    exact ⟨none, 0, 0, [], hcs, .inl ⟨rfl, rfl, rfl, rfl⟩, fun _ => Nat.zero_le _⟩
  · simp at hcs hz
    refine ⟨some y, l, c, zs, hcs, .inr ⟨_, rfl, hl, hm, hz, hcell, hwz⟩, fun hw => ?_⟩
    rw [hx] at hw
    have h1 := hw _ (by simp only [DataW.weights, Try.underlying34]; exact List.mem_cons_self)
    rw [bytes5, Nat.mul_one] at h1
    have h2 : (lits (H := H) IntKind.u8 (zs.take l)).length + (lits (H := H) IntKind.u8 (zs.drop l)).length = zs.length := by
      simp [lits]; omega
    rw [h2, hz] at h1
    have := reachBytes_lt
    omega
/-- one call, out of its reading -/
theorem act_sized {H : Type} {enc : TypeId × Value → H} {w : World} {n : Nat} {cs : List Value} {x : DataW H × List MemPlace} {b off i : Nat} (hl : cs.length = 4) (hc : ∀ t, t < 4 → w.cell? ⟨b, off + i * 4 + t, none⟩ = cs[t]?)
    (h : DataW.trod enc Try.prog w 0 (fun _ => true) true n 45 cs = some x) : ∃ A : Ac, ActAt w b off i A ∧ ((∀ n ∈ x.1.weights Try.prog 45, n ≤ reachBytes) → A.len ≤ 140737488355328) := by
  obtain ⟨x0, x1, x2, x3, rfl⟩ := list4 hl
  obtain ⟨y0, y1, y2, y3, m, hx, _, h0, h1, h2, h3⟩ := trod_struct4 Try.underlying45 h
  simp only [Try.cells3, Try.cellsBs, List.drop_zero, List.drop_succ_cons, List.take_succ_cons, List.take_zero] at h0 h1 h2 h3
  obtain ⟨d, e0, _, w0⟩ := DataW.trod_int Try.underlying3 h0
  obtain ⟨k, e1, _, w1⟩ := DataW.trod_int Try.underlying3 h1
  obtain ⟨v, e2, _, w2⟩ := DataW.trod_int Try.underlying3 h2
  obtain ⟨a, len, cap, zs, e3, hr, hsz⟩ := row_sized h3
  simp only [List.cons.injEq, and_true] at e0 e1 e2
  subst e0 e1 e2 e3
  refine ⟨⟨d, k, v, a, len, cap, zs.take len⟩, ⟨hc 0 (by omega), hc 1 (by omega), hc 2 (by omega), hc 3 (by omega), ok_of hr w0 w1 w2⟩, fun hw => hsz fun n hn => hw n ?_⟩
  rw [hx]
  simp only [DataW.weights, Try.underlying45]
  exact DataW.weights_mem_each (j := 3) (t := 34) (d := y3.1) rfl rfl n hn
theorem acts_sized {H : Type} {enc : TypeId × Value → H} {w : World} {fuel : Nat} {a : Option Addr} {len cap : Nat} {x : DataW H × List MemPlace} (h : DataW.trod enc Try.prog w 0 (fun _ => true) true fuel 24 [.slice a len cap] = some x) (hw : ∀ n ∈ x.1.weights Try.prog 24, n ≤ reachBytes) :
    ∃ A, Acts w a len A ∧ ∀ i, i < len → (A i).len ≤ 140737488355328 := by
  rcases Deep.open_slice Try.underlying24 h with ⟨hcs, _⟩ | ⟨y, l, c, m, n, D, Pl, hcs, _, hl, hm, hmm, hx, hel⟩
  · simp at hcs
    obtain ⟨rfl, rfl, rfl⟩ := hcs
    exact ⟨fun _ => ⟨0, 0, 0, none, 0, 0, []⟩, ⟨Nat.zero_le _, fun h => absurd h (by omega)⟩, fun i hi => absurd hi (by omega)⟩
  · simp at hcs
    obtain ⟨rfl, rfl, rfl⟩ := hcs
    simp only [if_true] at hmm
    subst hmm
    rcases Nat.eq_zero_or_pos len with rfl | h0
    · exact ⟨fun _ => ⟨0, 0, 0, none, 0, 0, []⟩, ⟨Nat.zero_le _, fun h => absurd h (by omega)⟩, fun i hi => absurd hi (by omega)⟩
    · obtain ⟨b, off, spot⟩ := y
      rw [Try.cellsAct] at hel
      have hspot : spot = none := by
        obtain ⟨cs, h1, _⟩ := hel 0 (by omega)
        obtain ⟨_, hl4, hc⟩ := World.cells?_some h1
        have := hc 0 (by omega)
        obtain ⟨x0, x1, x2, x3, rfl⟩ := list4 hl4
        have h2 : w.cell? ((Addr.add ⟨b, off, spot⟩ (0 * 4)).add 0) = some x0 := this
        simpa [Addr.add] using World.cell?_spot h2
      subst hspot
      have hadd : ∀ i t, ((⟨b, off, none⟩ : Addr).add (i * 4)).add t = ⟨b, off + i * 4 + t, none⟩ := by
        intro i t
        have e : ∀ o k, (⟨b, o, none⟩ : Addr).add k = ⟨b, o + k, none⟩ := by intro o k; unfold Addr.add; split <;> simp_all
        rw [e, e]
      have hwD : ∀ i, i < len → ∀ k ∈ (D i).weights Try.prog 45, k ≤ reachBytes := by
        intro i hi k hk
        apply hw
        rw [hx]
        simp only [DataW.weights, Try.underlying24]
        refine List.mem_cons_of_mem _ (List.mem_append.2 (Or.inl (all_mem (d := D i) ?_ k hk)))
        exact List.mem_map.2 ⟨i, List.mem_range.2 hi, rfl⟩
      obtain ⟨A, hA⟩ := @Deep.choose_lt Ac ⟨⟨0, 0, 0, none, 0, 0, []⟩⟩ len (fun i A => ActAt w b off i A ∧ A.len ≤ 140737488355328) (fun i hi => by
        obtain ⟨cs, h1, h2⟩ := hel i (by omega)
        obtain ⟨_, hl4, hc⟩ := World.cells?_some h1
        obtain ⟨A, hA1, hA2⟩ := act_sized hl4 (fun t ht => by rw [← hadd]; exact hc t ht) h2
        exact ⟨A, hA1, hA2 (hwD i hi)⟩)
      exact ⟨A, ⟨by omega, fun _ => ⟨b, off, rfl, fun i hi => (hA i hi).1⟩⟩, fun i hi => (hA i hi).2⟩
theorem flashPlays_walk (s p b : Int) (a1 : Option Addr) (len1 cap1 : Nat) (Al : Nat → Ac) (w : World) (hs : (Lit.int .i64 s).wf = true) (hp : (Lit.int .i64 p).wf = true) (hb : (Lit.int .i64 b).wf = true) (hA : Acts w a1 len1 Al) (hAm : ∀ i, i < len1 → (Al i).len ≤ 140737488355328) :
    Calls Try.prog 3 #[.agg #[.int .i64 s, .int .i64 p, .int .i64 b], .slice a1 len1 cap1] w fun e w' => e = .returned (.bool true) ∧ Below w.heap.size w w' := by
  by_cases hC : sml s p b = true ∧ len1 ≤ 60
  · by_cases hc : chk s p b = 0
    · obtain ⟨s', p', b', rfl, rfl, rfl, h1, h2, h3⟩ := sml_geo hC.1 hc
      exact plays_main s' p' b' a1 len1 cap1 Al w h1 h2 h3 hc hC.2 hA hAm
    · exact plays_bad s p b a1 len1 cap1 w (wf_i64 hs) (wf_i64 hp) (wf_i64 hb) hC.1 hC.2 (by simpa using hc)
  · exact plays_live s p b a1 len1 cap1 w (wf_i64 hs) (wf_i64 hp) (wf_i64 hb) hA.le hC
end Go.Proofs.Ytdefcfmnhfeblaa
