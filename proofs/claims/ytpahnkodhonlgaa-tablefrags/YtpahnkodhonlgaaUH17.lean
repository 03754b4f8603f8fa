/- TableIds' walk. -/
import Derived.Test.YtpahnkodhonlgaaUE17
import Derived.Test.YtpahnkodhonlgaaUF17
import Derived.Test.YtpahnkodhonlgaaUG17
import Derived.Laws.AppendOwnNone
namespace Go.Proofs.Ytpahnkodhonlgaa
open Go.RowKit Go.Shelf
set_option maxRecDepth 100000
set_option linter.unusedSimpArgs false
set_option linter.unusedVariables false
/-- 'append' of numbers to a row of the call's own -/
theorem wpList_appendI17 {P : Program} {w : World} {ops : Array Oper} {rest : List Oper} {o : Oper} {a : Act} {Q : Exit → Act → World → Prop} (hgd : o.guard = none) (s x : Operand) (t : TypeId)
    (ho : o.op = .call { callee := .builtin .append, args := #[s, x], argTypes := #[t, t] })
    (base : Nat) (i : TypeInfo) (ht : P.underlying t = some (.slice 3)) (hi : P.info? 3 = some i) (hz : i.zero = some (.int .i64 0)) (hsize : i.size = 1) (hby : i.bytes = 8)
    (v : Value) (n : Nat) (xs : List Value) (hs : a.eval s = v) (hown : w.ownsRow base 3 1 v n xs)
    (sa : Option Addr) (m c : Nat) (bs : List Int) (hx : a.eval x = .slice sa m c) (R : IRow w sa m bs) (hnil : sa = none → c = 0)
    (hb : n + m ≤ 1000000) (hbase : base ≤ w.heap.size)
    (h : ∀ v' w', w'.ownsRow base 3 1 v' (n + m) (xs ++ bs.map (Value.int .i64)) → w.grownBy w' v.ownBlock → wpList P ops Q rest (a.put o.dst v') w') : wpList P ops Q (o :: rest) a w := by
  have hlb := R.len_eq
  cases sa with
  | none =>
    have hm : m = 0 := by
      rcases Nat.eq_zero_or_pos m with h0 | h0
      · exact h0
      · obtain ⟨_, _, e, _⟩ := R.cells h0; cases e
    subst hm
    obtain rfl : bs = [] := List.eq_nil_of_length_eq_zero R.len_eq
    obtain rfl := hnil rfl
    refine wpList_append_own_none hgd s x t ho base 3 i 1 ht hi v n xs hs hown hx ?_
    exact h v w (by simpa using hown) (World.grownBy.refl _ _)
  | some ad =>
    refine wpList_append_own w hgd s x t ho base 3 i (.int .i64 0) 1 8 ht hi hz hsize hby rfl (by decide) v n xs hs hown ad m c (bs.map (Value.int .i64)) hx (by rw [List.length_map]; omega) ?_ ?_ (by unfold maxLen; omega) (by omega) hbase (fun v' w' h1 h2 _ => h v' w' h1 h2)
    · intro j u hj
      rw [List.getElem?_map] at hj
      obtain ⟨y, hy, rfl⟩ := Option.map_eq_some_iff.1 hj
      obtain ⟨hj2, hy2⟩ := List.getElem?_eq_some_iff.1 hy
      obtain ⟨b, off, e, hc⟩ := R.cells (by omega)
      injection e with e
      subst e
      have hadd : (⟨b, off, none⟩ : Addr).add j = ⟨b, off + j, none⟩ := by unfold Addr.add; split <;> simp_all
      rw [hadd, hc j (by omega), List.getD_eq_getElem?_getD, hy]
      rfl
    · intro u hu
      obtain ⟨y, _, rfl⟩ := List.mem_map.1 hu
      rfl
theorem grown_own17 {a b c : World} {r : Option Nat} (h : a.grownBy b none) (k : b.grownBy c r) (hr : ∀ g, r = some g → a.heap.size ≤ g) : a.grownBy c none :=
  ⟨k.os.trans h.os, k.tape.trans h.tape, k.output.trans h.output, Nat.le_trans h.size k.size, fun j hj _ => by
    rw [k.block j (Nat.lt_of_lt_of_le hj h.size) (fun e => by have := hr j e.symm; omega)]
    exact h.block j hj (by simp)⟩
theorem below_grown17 {a b c : World} (h : Below a.heap.size a b) (k : b.grownBy c none) : Below a.heap.size a c := h.trans ((grown_below k).mono h.size)
theorem below_two17 {a b c : World} (h : Below a.heap.size a b) (k : Below b.heap.size b c) : Below a.heap.size a c := h.trans (k.mono h.size)
set_option maxHeartbeats 4000000 in
theorem tableIds_walk (a : Option Addr) (len cap : Nat) (l : List Int) (x : Int) (w : World) (R : IRow w a len l) (hnil : a = none → cap = 0) (hx : in64 x) :
    Calls Try.prog 3 #[.slice a len cap, .int .i64 x] w fun e w' => e = .returned (.bool true) ∧ Below w.heap.size w w' := by
  have hlb := R.len_eq
  have HL : Hid (∀ W : World, Calls Try.prog 8 #[] W fun e w' => e = .returned (.bool true) ∧ Below W.heap.size W w') := fun W => live17_any W
  obtain ⟨i5, hi, hz0, hz1, hz2⟩ := info_parts Try.infoI17
  by_cases h3 : 300 < len
  · have h3i : (300 : Int) < (len : Int) := by omega
    clear R
    go_enter Try.func3, Try.ntmps3
    go_wp2_with (go_at_call 8; refine (HL.out _).mono ?_; rintro e w1 ⟨rfl, g1⟩)
    go_ret
    exact ⟨rfl, g1⟩
  have h3i : ¬ (300 : Int) < (len : Int) := by omega
  have O0 := World.ownsRow_made (base := w.heap.size) (e := 3) (size := 1) w #[] 0 (Nat.le_refl _) (Nat.zero_le _) (by simp)
  have HO0 : Hid (World.ownsRow (w.alloc (.cells #[] 3)) w.heap.size 3 1 (.slice (some ⟨w.heap.size, 0, none⟩) 0 0) 0 []) := O0
  have HR : Hid _ := R
  have HRA : Hid _ := R.grown (World.grownBy_alloc w (.cells #[] 3) none)
  have HNI : Hid _ := hnil
  have hbs : w.heap.size ≤ (w.alloc (.cells #[] 3)).heap.size := (World.grownBy_alloc w (.cells #[] 3) none).size
  have HWD : Hid _ := R.wide
  have hcx : 0 + len ≤ 1000000 := by omega
  clear O0 R hnil
  go_enter Try.func3, Try.ntmps3
  go_wp2_with (at_builtin; refine wpList_appendI17 rfl _ _ 22 rfl w.heap.size i5 Try.underlying22 hi hz0 hz1 hz2 _ 0 [] rfl HO0.out _ len cap l rfl HRA.out HNI.out hcx hbs ?_)
  intro v1 W2 o1 g1
  have o2 : W2.ownsRow w.heap.size 3 1 v1 len (l.map (Value.int .i64)) := by
    have := o1
    simpa using this
  have G1 : w.grownBy W2 none := grown_own17 (World.grownBy_alloc w (.cells #[] 3) none) g1 (fun r e => by have e2 : some w.heap.size = some r := e; injection e2 with e2; omega)
  obtain ⟨a4, c4, rfl, R4, nc4, _⟩ := own_ints17 o2 HWD.out (by unfold maxLen; omega)
  have hp := pids17_any a4 len c4 l W2 R4 (by omega)
  have HE2 : Hid _ := And.intro R4 (grown_below G1)
  clear o1 o2 g1 G1 R4 HO0 HRA hcx hbs HWD
  go_wp2_with fail
  refine hp.mono ?_
  clear hp
  rintro e W3 ⟨b3, c3, rfl, R3, _, _, hb3⟩
  have HE3 : Hid _ := And.intro (HE2.out.1.below hb3) (And.intro (below_two17 HE2.out.2 hb3) R3)
  clear R3 hb3 HE2
  have hr := rids17_any a len cap l W3 (HR.out.below HE3.out.2.1) (by omega)
  go_wp2_with fail
  refine hr.mono ?_
  clear hr
  rintro e W4 ⟨b4, d4, rfl, R4, g4⟩
  have HE4 : Hid _ := And.intro (HE3.out.1.grown g4) (below_grown17 HE3.out.2.1 g4)
  have hs := rsame17_any b3 b4 (srt17 l).length c3 (srt17 l).length d4 (srt17 l) (srt17 l) W4 (HE3.out.2.2.grown g4) R4
  rw [decide_eq_true rfl] at hs
  clear R4 g4 HE3
  go_wp2_with fail
  refine hs.mono ?_
  clear hs
  rintro e W5 ⟨rfl, g5⟩
  have HE5 : Hid _ := And.intro (HE4.out.1.grown g5) (below_grown17 HE4.out.2 g5)
  have hs2 := rsame17_any a4 a len c4 len cap l l W5 HE5.out.1 (HR.out.below HE5.out.2)
  rw [decide_eq_true rfl] at hs2
  clear g5 HE4
  go_wp2_with fail
  refine hs2.mono ?_
  clear hs2
  rintro e W6 ⟨rfl, g6⟩
  have HE6 : Hid _ := below_grown17 HE5.out.2 g6
  have hpl := pplace17_any a len cap l x W6 (HR.out.below HE6.out)
  clear g6 HE5
  go_wp2_with fail
  refine hpl.mono ?_
  clear hpl
  rintro e W7 ⟨i7, ok7, rfl, hcase, g7⟩
  have HE7 : Hid _ := below_grown17 HE6.out g7
  have HC : Hid _ := hcase
  clear g7 HE6 hcase
  go_wp2_with fail
  go_loopw [9] (fun i wr => ∃ k : Nat, i = .int .i64 k ∧ k ≤ len ∧ Hid (W7.grownBy wr none ∧ ∀ i, i < k → l.getD i 0 ≠ x)) (fun i _ => len - (intOf i).toNat)
  case atStart => exact ⟨0, rfl, Nat.zero_le _, World.grownBy.refl _ _, fun i h => absurd h (Nat.not_lt_zero _)⟩
  case round =>
    obtain ⟨k, rfl, hk, HG⟩ := hrel
    by_cases hlt : k < len
    · have hlti : (k : Int) < (len : Int) := by omega
      have hB := below_grown17 HE7.out HG.out.1
      obtain ⟨b, off, rfl, hc⟩ := (HR.out.below hB).cells (by omega)
      have x0 := hc k hlt
      have HB : Hid _ := hB
      have hwk : IntKind.i64.wrap ((k : Int) + 1) = (k : Int) + 1 := by rw [IntKind.wrap_i64]; omega
      by_cases he : l.getD k 0 = x
      · have hq : ok7 = true ∧ i7 = (k : Int) := by
          rcases HC.out with ⟨_, _, h⟩ | ⟨h1, j, rfl, h2, h3, h4⟩
          · exact absurd he (h k hlt)
          · refine ⟨h1, ?_⟩
            have : j = k := by
              rcases Nat.lt_trichotomy j k with c | c | c
              · exact absurd h3 (HG.out.2 j c)
              · exact c
              · exact absurd he (h4 k c)
            rw [this]
        obtain ⟨rfl, rfl⟩ := hq
        rw [he] at x0
        clear hc HC he hB HG
        go_wp2_with (go_at_call 8; refine (HL.out _).mono ?_; rintro e w8 ⟨rfl, g8⟩)
        go_ret
        exact ⟨rfl, below_two17 HB.out g8⟩
      · have HM : Hid (∀ i, i < k + 1 → l.getD i 0 ≠ x) := fun i hi => by
          by_cases q : i = k
          · rw [q]; exact he
          · exact HG.out.2 i (by omega)
        have hb : (l.getD k 0 == x) = false := by rw [beq_eq_false_iff_ne]; exact he
        have HGG : Hid _ := HG.out.1
        generalize l.getD k 0 = X at *
        clear hc he hB HG
        go_wp2_with fail
        refine ⟨⟨k + 1, by go_num, by clear hwk; omega, HGG.out, HM.out⟩, ?_⟩
        clear hwk
        simp [intOf]; omega
    · have hlti : ¬ (k : Int) < (len : Int) := by omega
      have hq : ok7 = false ∧ i7 = 0 := by
        rcases HC.out with ⟨h1, h2, _⟩ | ⟨h1, j, rfl, h2, h3, h4⟩
        · exact ⟨h1, h2⟩
        · exact absurd h3 (HG.out.2 j (by omega))
      obtain ⟨rfl, rfl⟩ := hq
      have HB : Hid _ := below_grown17 HE7.out HG.out.1
      clear HC HG
      go_wp2_with (go_at_call 8; refine (HL.out _).mono ?_; rintro e w8 ⟨rfl, g8⟩)
      go_ret
      exact ⟨rfl, below_two17 HB.out g8⟩
end Go.Proofs.Ytpahnkodhonlgaa
