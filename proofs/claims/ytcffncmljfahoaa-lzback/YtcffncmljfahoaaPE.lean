/- The program's Size and Cut. -/
import Derived.Test.YtcffncmljfahoaaLB
import Derived.Test.YtcffncmljfahoaaRG
namespace Go.Proofs.Ytcffncmljfahoaa
open Go.RowKit
set_option linter.unusedSimpArgs false
set_option linter.unusedVariables false

theorem psize_any (a : Option Addr) (len cap : Nat) (bs : List Int) (w : World) (R : Row w a len bs) (hl : len ≤ 16777216) (hc : len ≤ cap) (hcm : cap ≤ 9223372036854775807) :
    Calls Try.prog 13 #[.slice a len cap] w fun e w' => e = .returned (.tuple #[.int .i64 (dec bs 1048576 (len + 1) [] [] 0).1.length, .int .i64 (dec bs 1048576 (len + 1) [] [] 0).2.2.1, .int .i64 (dec bs 1048576 (len + 1) [] [] 0).2.2.2]) ∧ w.grownBy w' none := by
  have hw1 := walk_any a len cap bs 1048576 20 #[] _ (tk_pass R 1048576) w (World.grownBy.refl _ _) hl hc hcm (by omega)
  generalize dec bs 1048576 (len + 1) [] [] 0 = r at hw1 ⊢
  go_enter Try.func13, Try.ntmps13
  go_wp2_with fail
  refine hw1.mono ?_
  intro e w1 h1
  obtain ⟨rfl, _, _, _, g1⟩ := h1
  clear hw1
  simp only
  go_wp2
  go_ret3
  exact ⟨rfl, g1⟩

theorem owns_base {w : World} {b b' e s n : Nat} {v : Value} {xs : List Value} (h : w.ownsRow b e s v n xs) (hb : b' ≤ b) : w.ownsRow b' e s v n xs := by
  refine ⟨h.1, ?_⟩
  rcases h.2 with h | ⟨g, cap, cur, h1, h2, h3⟩
  · exact Or.inl h
  · exact Or.inr ⟨g, cap, cur, h1, by omega, h3⟩
theorem eql_nil (p : Addr) (n c : Nat) (W : World) : (binOp .eql 22 (.slice (some p) n c) (.slice none 0 0)).run Try.prog W = .ok (.bool false) W := by kernel_rfl
theorem eql_nil0 (c : Nat) (W : World) : (binOp .eql 22 (.slice none 0 c) (.slice none 0 0)).run Try.prog W = .ok (.bool true) W := by kernel_rfl
set_option maxHeartbeats 1000000 in
theorem clone_any (a : Option Addr) (n c : Nat) (xs : List Int) (w : World) (B : Byte w a n c xs) (hn : n ≤ 16777216) :
    Calls Try.prog 25 #[.slice a n c] w fun e w' => ∃ v, e = .returned v ∧ w'.ownsRow 0 5 1 v n (bv xs) ∧ w.grownBy w' none := by
  obtain ⟨i5, hi, hz0, hz1, hz2⟩ := info_parts Try.info5
  cases a with
  | none =>
    obtain rfl : n = 0 := by
      rcases Nat.eq_zero_or_pos n with h | h
      · exact h
      · obtain ⟨_, _, e, _⟩ := B.row.cells h; cases e
    obtain rfl : xs = [] := List.eq_nil_of_length_eq_zero B.row.len_eq
    have hen := eql_nil0 c
    go_enter Try.func25, Try.ntmps25
    go_wp2
    go_ret
    exact ⟨_, rfl, World.ownsRow_nil _ _ _ _, World.grownBy.refl _ _⟩
  | some p =>
    have O0 := World.ownsRow_made (base := w.heap.size) (e := 5) (size := 1) w #[] 0 (Nat.le_refl _) (Nat.zero_le _) (by simp)
    have R0 := B.row.grown (World.grownBy_alloc w (.cells #[] 5) none)
    have HB : Hid _ := B
    have hen := eql_nil p n c
    clear B
    go_enter Try.func25, Try.ntmps25
    go_wp2_with (at_builtin; refine wpList_append8 rfl _ _ 22 rfl w.heap.size i5 Try.underlying22 hi hz0 hz1 hz2 _ 0 [] rfl O0 _ n c _ rfl R0 HB.out.nil (by omega) (by simp) ?_)
    intro v1 w1 o1 g1
    have G1 : w.grownBy w1 none := grown_own (World.grownBy_alloc w (.cells #[] 5) none) O0 g1 (Nat.le_refl _)
    have H1 : Hid (w1.ownsRow 0 5 1 v1 n (bv xs) ∧ w.grownBy w1 none) := ⟨owns_base (by simpa using o1) (Nat.zero_le _), G1⟩
    clear O0 R0 o1 g1 G1
    go_wp2
    go_ret
    exact ⟨_, rfl, H1.out.1, H1.out.2⟩

/-- sequences whose literals are copies -/
structure SqO (w : World) (s : SqV) (q : Sq) : Prop where
  own : w.ownsRow 0 5 1 (.slice s.a s.n s.c) s.n (bv q.1)
  byt : Byt q.1
  off : s.off = q.2.1
  m : s.m = q.2.2
  le : s.n ≤ 16777216
def SqsO (w : World) (ss : List SqV) (qs : List Sq) : Prop := ss.length = qs.length ∧ ∀ (i : Nat) (s : SqV) (q : Sq), ss[i]? = some s → qs[i]? = some q → SqO w s q
theorem SqsO.nil {w : World} : SqsO w [] [] := ⟨rfl, fun i s q h => by simp at h⟩
theorem SqsO.snoc {w : World} {ss : List SqV} {qs : List Sq} {s : SqV} {q : Sq} (h : SqsO w ss qs) (k : SqO w s q) : SqsO w (ss ++ [s]) (qs ++ [q]) := by
  refine ⟨by simp [h.1], fun i s' q' h1 h2 => ?_⟩
  rcases get_snoc h1 with h1 | ⟨e1, rfl⟩
  · rcases get_snoc h2 with h2 | ⟨e2, rfl⟩
    · exact h.2 i s' q' h1 h2
    · have := (List.getElem?_eq_some_iff.1 h1).1
      have := h.1
      omega
  · rcases get_snoc h2 with h2 | ⟨e2, rfl⟩
    · have := (List.getElem?_eq_some_iff.1 h2).1
      have := h.1
      omega
    · exact k
theorem SqsO.map {w w' : World} {ss : List SqV} {qs : List Sq} (h : SqsO w ss qs) (k : ∀ v n xs, w.ownsRow 0 5 1 v n xs → w'.ownsRow 0 5 1 v n xs) : SqsO w' ss qs :=
  ⟨h.1, fun i s q h1 h2 => by have j := h.2 i s q h1 h2; exact ⟨k _ _ _ j.own, j.byt, j.off, j.m, j.le⟩⟩
theorem SqsO.sqs {w : World} {ss : List SqV} {qs : List Sq} (h : SqsO w ss qs) : Sqs w ss qs := by
  refine ⟨h.1, fun i s q h1 h2 => ?_⟩
  have j := h.2 i s q h1 h2
  obtain ⟨a, c, e, B⟩ := byte_own j.own j.byt (by have := j.le; unfold maxLen; omega)
  injection e with e1 e2 e3
  rw [← e1, ← e3] at B
  exact ⟨B.row, j.off, j.m, B.nil, B.nc, B.cm⟩
structure Sc (w0 : World) (gc : Nat) (sq : List Sq) (ss : List SqV) (v : Value) (W : World) : Prop where
  grown : w0.grownBy W none
  bx : Box W gc 28 [v]
  own : W.ownsRow w0.heap.size 47 3 v ss.length (sqv ss)
  sqs : SqsO W ss sq
  lc : w0.heap.size ≤ gc
theorem Sc.keep {w0 W W' : World} {gc : Nat} {sq : List Sq} {ss : List SqV} {v : Value} (h : Sc w0 gc sq ss v W) (hg : W.grownBy W' none) : Sc w0 gc sq ss v W' :=
  ⟨grown_trans h.grown hg, h.bx.kept hg (by simp), h.own.kept hg (by cases v.ownBlock <;> simp), h.sqs.map (fun v n xs k => k.kept hg (by cases v.ownBlock <;> simp)), h.lc⟩

set_option maxHeartbeats 1000000 in
theorem cut1_any (w0 : World) (gc : Nat) (sq : List Sq) (ss : List SqV) (v : Value) (s : SqV) (q : Sq) (w : World) (H : Sc w0 gc sq ss v w) (S : SqOk w s q) (hn : s.n ≤ 16777216) (hs : ss.length ≤ 16777216) :
    Calls Try.prog 24 #[.agg #[.slice s.a s.n s.c, .int .i64 s.off, .int .i64 s.m], .pointer (some ⟨gc, 0, none⟩)] w fun e w' =>
      e = .returned (.tuple #[]) ∧ ∃ v' s', Sc w0 gc (sq ++ [q]) (ss ++ [s']) v' w' := by
  obtain ⟨i6, hi6, hy0, hy1, hy2⟩ := info_parts Try.infoSeq
  have G := World.grownBy_alloc w (.cells #[.slice s.a s.n s.c, .int .i64 s.off, .int .i64 s.m] 47) none
  have B0 := Box.new w 47 [.slice s.a s.n s.c, .int .i64 s.off, .int .i64 s.m]
  have hcl := clone_any s.a s.n s.c q.1 (w.alloc (.cells #[.slice s.a s.n s.c, .int .i64 s.off, .int .i64 s.m] 47)) ⟨S.row.grown G, S.nil, S.nc, S.cm⟩ hn
  have HH : Hid _ := And.intro H (And.intro S (And.intro G B0))
  clear H S G B0
  go_enter Try.func24, Try.ntmps24
  go_wp2_with fail
  refine hcl.mono ?_
  rintro e w1 ⟨v1, rfl, o1, g1⟩
  obtain ⟨H, S, G, B0⟩ := HH.out
  obtain ⟨a1, c1, rfl, f1, f2, f3⟩ := owns_form o1
  have B1 := B0.kept g1 (by simp)
  have B2 := B1.set 0 (.slice a1 s.n c1)
  simp only [List.set_cons_zero] at B2
  have ne1 := own_box o1 B1 (by decide)
  have o2 := o1.kept (grown_set w1 w.heap.size 0 (.slice a1 s.n c1)) (Or.inr ne1.symm)
  have H2 := H.keep (grown_new (grown_trans G g1) (grown_set w1 w.heap.size 0 (.slice a1 s.n c1)) (Nat.le_refl _))
  obtain ⟨b0, b1, b2⟩ := B1.c3
  have fr1 := B1.f 0
  generalize hg0 : w.heap.size = g0 at *
  have HW : Hid _ := And.intro H2 (And.intro o2 (And.intro B2 S))
  obtain ⟨d0, d1, d2⟩ := B2.c3
  have dl : (w1.setCell ⟨g0, 0, none⟩ (.slice a1 s.n c1)).cell? ⟨gc, 0, none⟩ = some v := H2.bx.c 0
  have hol := H2.own.alloc (.cells #[.slice a1 s.n c1, .int .i64 s.off, .int .i64 s.m] 47)
  have hsz := (H2.keep (World.grownBy_alloc _ (.cells #[.slice a1 s.n c1, .int .i64 s.off, .int .i64 s.m] 47) none)).grown.size
  have hb1 : (ss.length + 1) * 40 ≤ 140737488355328 := by omega
  have hb2 : ss.length + 1 ≤ maxLen := by unfold maxLen; omega
  clear hcl H S G B0 B1 B2 o1 o2 g1 H2 HH ne1 hg0 f1 f2 f3
  have hnews : ∀ j u, (SqV.cells ⟨a1, s.n, c1, s.off, s.m⟩)[j]? = some u → ((w1.setCell ⟨g0, 0, none⟩ (.slice a1 s.n c1)).alloc (.cells #[.slice a1 s.n c1, .int .i64 s.off, .int .i64 s.m] 47)).cell? ((⟨w1.heap.size, 0, none⟩ : Addr).add j) = some u := by
    intro j u h
    have := cell_three (w1.setCell ⟨g0, 0, none⟩ (.slice a1 s.n c1)) 47 _ _ _ j u h
    rw [size_set] at this
    exact this
  have HN : Hid _ := hnews
  clear hnews
  simp only
  go_wp2_with (at_builtin; (refine wpList_append_own _ rfl _ _ 28 rfl w0.heap.size 47 i6 _ 3 40 Try.underlying28 hi6 hy0 hy1 hy2 rfl (by decide) _ ss.length (sqv ss) rfl hol ⟨w1.heap.size, 0, none⟩ 1 1 (SqV.cells ⟨a1, s.n, c1, s.off, s.m⟩) rfl rfl HN.out (sq_one _) hb2 hb1 hsz ?_))
  intro v2 w4 o4 g4 _
  obtain ⟨a2, n2, c2, rfl⟩ : ∃ a n c, v2 = .slice a n c := by rcases o4.2 with ⟨h, _⟩ | ⟨g, c, cur, h, _⟩ <;> exact ⟨_, _, _, h⟩
  obtain ⟨H2, o2, B2, S⟩ := HW.out
  have H3 := H2.keep (World.grownBy_alloc _ (.cells #[.slice a1 s.n c1, .int .i64 s.off, .int .i64 s.m] 47) none)
  have o3 := o2.kept (World.grownBy_alloc _ (.cells #[.slice a1 s.n c1, .int .i64 s.off, .int .i64 s.m] 47) none) (by cases a1 <;> simp [Value.ownBlock])
  have B4 := H3.bx.kept g4 (own_box H3.own H3.bx (by decide))
  have q4 : w4.ownsRow 0 5 1 (.slice a1 s.n c1) s.n (bv q.1) := own_apart o3 H3.own (by decide) g4
  have s4 : SqsO w4 ss sq := H3.sqs.map (fun v n xs k => own_apart k H3.own (by decide) g4)
  have t4 : SqsO w4 (ss ++ [⟨a1, s.n, c1, s.off, s.m⟩]) (sq ++ [q]) := .snoc s4 ⟨q4, S.row.byt, S.off, S.m, hn⟩
  have hfin : Sc w0 gc (sq ++ [q]) (ss ++ [⟨a1, s.n, c1, s.off, s.m⟩]) (.slice a2 n2 c2) (w4.setCell ⟨gc, 0, none⟩ (.slice a2 n2 c2)) := by
    refine ⟨grown_new (grown_own H3.grown H3.own g4 (Nat.le_refl _)) (grown_set _ _ _ _) H3.lc, B4.set 0 (.slice a2 n2 c2), ?_, t4.map (fun v n xs k => k.kept (grown_set _ _ _ _) (Or.inr (own_box k B4 (by decide)).symm)), H3.lc⟩
    have o5 : w4.ownsRow w0.heap.size 47 3 (.slice a2 n2 c2) (ss ++ [(⟨a1, s.n, c1, s.off, s.m⟩ : SqV)]).length (sqv (ss ++ [⟨a1, s.n, c1, s.off, s.m⟩])) := by
      rw [sqv_append, List.length_append]; simpa [sqv] using o4
    exact o5.kept (grown_set _ _ _ _) (Or.inr (own_box o5 B4 (by decide)).symm)
  have e0 : w4.cell? ⟨gc, 0, none⟩ = some v := B4.c 0
  have f4 := B4.f 0
  have HF : Hid _ := hfin
  clear hfin t4 s4 q4 B4 o3 H3 H2 o2 B2 S o4 g4 HN HW hol hsz hb1 hb2 b0 b1 b2 d0 d1 d2 dl fr1
  go_wp2
  go_end0
  exact ⟨rfl, _, _, HF.out⟩
theorem callFunc_cut1 (args : Array Value) (W : World) : (callFunc 24 args).run Try.prog W = .ok (.enter 24 args) W := by rfl
theorem sqsO_len {w : World} {ss : List SqV} {qs : List Sq} (h : SqsO w ss qs) : ss.length = qs.length := h.1
theorem tk_cut1 {w0 : World} {a : Option Addr} {len : Nat} {bs : List Int} (R : Row w0 a len bs) (gc : Nat) : Tk a len bs 1048576 24 #[.pointer (some ⟨gc, 0, none⟩)] (fun _ sq W => ∃ ss v, Sc w0 gc sq ss v W) := by
  refine ⟨callFunc_cut1, fun _ _ W ⟨ss, v, h⟩ => R.grown h.grown, fun _ _ W W' ⟨ss, v, h⟩ k => ⟨ss, v, h.keep k⟩, fun out sq W s q h4 ⟨ss, v, h⟩ S h1 h2 => ?_⟩
  have hl := sqsO_len h.sqs
  have hsn := S.row.len_eq
  refine (cut1_any w0 gc sq ss v s q W h S (by omega) (by omega)).mono (fun e W' k => ?_)
  obtain ⟨e1, v', s', h'⟩ := k
  exact ⟨e1, _, _, h'⟩
theorem dec_seqs (bs : List Int) (most : Int) (f : Nat) (out : List Int) (sq : List Sq) (p : Nat) : (dec bs most f out sq p).2.1.length ≤ sq.length + f := by
  induction f generalizing out sq p with
  | zero => rw [dec]; simp
  | succ f ih =>
    rw [dec]
    split
    · simp
    · simp only [List.length_append, List.length_cons, List.length_nil]; omega
    · refine Nat.le_trans (ih _ _ _) ?_
      simp only [List.length_append, List.length_cons, List.length_nil]; omega
def PCut (w : World) (r : List Int × List Sq × Int × Int) (e : Ending) (w' : World) : Prop :=
  ∃ a n c ss, e = .returned (.tuple #[.slice a n c, .int .i64 r.2.2.1, .int .i64 r.2.2.2]) ∧ SRow w' a n ss ∧ SqsO w' ss r.2.1 ∧ (a = none → c = 0) ∧ w.grownBy w' none
theorem pcut_none {w w' : World} {er p : Int} (h : w.grownBy w' none) : PCut w ([], [], er, p) (.returned (.tuple #[.slice none 0 0, .int .i64 er, .int .i64 p])) w' :=
  ⟨none, 0, 0, [], rfl, ⟨rfl, Nat.zero_le _, fun h => by omega⟩, .nil, fun _ => rfl, h⟩

set_option maxHeartbeats 1000000 in
theorem pcut_any (a : Option Addr) (len cap : Nat) (bs : List Int) (w : World) (R : Row w a len bs) (hl : len ≤ 16777216) (hc : len ≤ cap) (hcm : cap ≤ 9223372036854775807) :
    Calls Try.prog 14 #[.slice a len cap] w (PCut w (dec bs 1048576 (len + 1) [] [] 0)) := by
  have G0 := World.grownBy_alloc w (.cells #[.slice none 0 0] 28) none
  have B0 := Box.new w 28 [.slice none 0 0]
  have S0 : Sc w w.heap.size [] [] (.slice none 0 0) (w.alloc (.cells #[.slice none 0 0] 28)) := ⟨G0, B0, World.ownsRow_nil _ _ _ _, .nil, Nat.le_refl _⟩
  have hw1 := walk_any a len cap bs 1048576 24 #[.pointer (some ⟨w.heap.size, 0, none⟩)] _ (tk_cut1 R w.heap.size) (w.alloc (.cells #[.slice none 0 0] 28)) ⟨_, _, S0⟩ hl hc hcm (by omega)
  have hkp := dec_keeps bs 1048576 (len + 1) [] [] 0 (by omega)
  have hnil := dec_nil bs 1048576 (len + 1) [] [] 0
  have hsl : (dec bs 1048576 (len + 1) [] [] 0).2.1.length ≤ 16777217 := by have := dec_seqs bs 1048576 (len + 1) [] [] 0; simp only [List.length_nil] at this; omega
  generalize dec bs 1048576 (len + 1) [] [] 0 = r at hw1 hkp hnil hsl ⊢
  obtain ⟨ro, rs, re, rp⟩ := r
  simp only at hkp hnil hsl
  have HA : Hid _ := hnil
  have hmf : ∀ (fn : Fn) (first cap : Array Value) (w : World), (Instr.makeFunc fn first cap).run Try.prog w = .ok (.func fn first cap) w := fun _ _ _ _ => rfl
  clear hnil
  go_enter Try.func14, Try.ntmps14
  go_wp2_with fail
  refine hw1.mono ?_
  intro e w1 h1
  obtain ⟨rfl, h1, _, sq1, ss1, v1, S1⟩ := h1
  simp only at h1
  clear hw1 S0 B0 G0
  simp only
  by_cases he : re = 0
  · subst he
    obtain ⟨ss, v, S2⟩ := h1 rfl
    obtain ⟨a2, n2, c2, rfl⟩ : ∃ a n c, v = .slice a n c := by rcases S2.own.2 with ⟨h, _⟩ | ⟨g, c, cur, h, _⟩ <;> exact ⟨_, _, _, h⟩
    have c1 : w1.cell? ⟨w.heap.size, 0, none⟩ = some (.slice a2 n2 c2) := S2.bx.c 0
    have f1 := S2.bx.f 0
    have B3 := S2.bx.set 0 (.slice a2 n2 c2)
    have cW : (w1.setCell ⟨w.heap.size, 0, none⟩ (.slice a2 n2 c2)).cell? ⟨w.heap.size, 0, none⟩ = some (.slice a2 n2 c2) := B3.c 0
    have gW := grown_new S2.grown (grown_set w1 w.heap.size 0 (.slice a2 n2 c2)) (Nat.le_refl _)
    have O3 := S2.own.kept (grown_set w1 w.heap.size 0 (.slice a2 n2 c2)) (Or.inr (own_box S2.own S2.bx (by decide)).symm)
    have Q3 := S2.sqs.map (fun v n xs k => k.kept (grown_set w1 w.heap.size 0 (.slice a2 n2 c2)) (Or.inr (own_box k S2.bx (by decide)).symm))
    have hl2 := sqsO_len S2.sqs
    obtain ⟨a7, c7, e7, R7⟩ := owns_srow O3 (by unfold maxLen; omega)
    injection e7 with e7 e71 e72
    subst e7 e71
    have hnc : a2 = none → c2 = 0 := by
      intro e0
      rcases O3.2 with ⟨h, _⟩ | ⟨g, c, cur, h, _⟩
      · injection h
      · injection h with h; rw [e0] at h; cases h
    have HF : Hid _ := And.intro gW (And.intro R7 (And.intro Q3 hnc))
    clear S1 S2 B3 gW O3 R7 Q3 h1 e72 HA hnc hl2
    go_wp2
    try simp only [Exit.inBlock, Exit.then]
    refine bodyPost_ret (by simp [results, Try.results14, go_sem, cW]; try rfl) rfl ?_
    exact ⟨_, _, _, ss, rfl, HF.out.2.1, HF.out.2.2.1, HF.out.2.2.2, HF.out.1⟩
  · obtain ⟨e1, e2⟩ := HA.out he
    subst e1 e2
    have B3 := S1.bx.set 0 (.slice none 0 0)
    obtain ⟨a2, n2, c2, rfl⟩ : ∃ a n c, v1 = .slice a n c := by rcases S1.own.2 with ⟨h, _⟩ | ⟨g, c, cur, h, _⟩ <;> exact ⟨_, _, _, h⟩
    have c1 : w1.cell? ⟨w.heap.size, 0, none⟩ = some (.slice a2 n2 c2) := S1.bx.c 0
    have f1 := S1.bx.f 0
    have cW : (w1.setCell ⟨w.heap.size, 0, none⟩ (.slice none 0 0)).cell? ⟨w.heap.size, 0, none⟩ = some (.slice none 0 0) := B3.c 0
    have gW := grown_new S1.grown (grown_set w1 w.heap.size 0 (.slice none 0 0)) (Nat.le_refl _)
    clear S1 B3 h1 HA
    go_wp2
    try simp only [Exit.inBlock, Exit.then]
    refine bodyPost_ret (by simp [results, Try.results14, go_sem, cW]; try rfl) rfl ?_
    exact pcut_none gW
end Go.Proofs.Ytcffncmljfahoaa
