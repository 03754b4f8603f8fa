/- The program's Size and Cut. -/
import Derived.Test.YteghhmnkdmehbaaLB
import Derived.Test.YteghhmnkdmehbaaRG
namespace Go.Proofs.Yteghhmnkdmehbaa
open Go.RowKit
set_option linter.unusedSimpArgs false
set_option linter.unusedVariables false

theorem owns_base {w : World} {b b' e s n : Nat} {v : Value} {xs : List Value} (h : w.ownsRow b e s v n xs) (hb : b' ≤ b) : w.ownsRow b' e s v n xs := by
  refine ⟨h.1, ?_⟩
  rcases h.2 with h | ⟨g, cap, cur, h1, h2, h3⟩
  · exact Or.inl h
  · exact Or.inr ⟨g, cap, cur, h1, by omega, h3⟩
theorem eql_nil (p : Addr) (n c : Nat) (W : World) : (binOp .eql 22 (.slice (some p) n c) (.slice none 0 0)).run Try.prog W = .ok (.bool false) W := by kernel_rfl
theorem eql_nil0 (c : Nat) (W : World) : (binOp .eql 22 (.slice none 0 c) (.slice none 0 0)).run Try.prog W = .ok (.bool true) W := by kernel_rfl
set_option maxHeartbeats 1000000 in
theorem clone_any (a : Option Addr) (n c : Nat) (xs : List Int) (w : World) (B : Byte w a n c xs) (hn : n ≤ 16777216) :
    Calls Try.prog 24 #[.slice a n c] w fun e w' => ∃ v, e = .returned v ∧ w'.ownsRow 0 5 1 v n (bv xs) ∧ w.grownBy w' none := by
  obtain ⟨i5, hi, hz0, hz1, hz2⟩ := info_parts Try.info5
  cases a with
  | none =>
    obtain rfl : n = 0 := by
      rcases Nat.eq_zero_or_pos n with h | h
      · exact h
      · obtain ⟨_, _, e, _⟩ := B.row.cells h; cases e
    obtain rfl : xs = [] := List.eq_nil_of_length_eq_zero B.row.len_eq
    have hen := eql_nil0 c
    go_enter Try.func24, Try.ntmps24
    go_wp2
    go_ret
    exact ⟨_, rfl, World.ownsRow_nil _ _ _ _, World.grownBy.refl _ _⟩
  | some p =>
    have O0 := World.ownsRow_made (base := w.heap.size) (e := 5) (size := 1) w #[] 0 (Nat.le_refl _) (Nat.zero_le _) (by simp)
    have R0 := B.row.grown (World.grownBy_alloc w (.cells #[] 5) none)
    have HB : Hid _ := B
    have hen := eql_nil p n c
    clear B
    go_enter Try.func24, Try.ntmps24
    go_wp2_with (at_builtin; refine wpList_append8 rfl _ _ 22 rfl w.heap.size i5 Try.underlying22 hi hz0 hz1 hz2 _ 0 [] rfl O0 _ n c _ rfl R0 HB.out.nil (by omega) (by simp) ?_)
    intro v1 w1 o1 g1
    have G1 : w.grownBy w1 none := grown_own (World.grownBy_alloc w (.cells #[] 5) none) O0 g1 (Nat.le_refl _)
    have H1 : Hid (w1.ownsRow 0 5 1 v1 n (bv xs) ∧ w.grownBy w1 none) := ⟨owns_base (by simpa using o1) (Nat.zero_le _), G1⟩
    clear O0 R0 o1 g1 G1
    go_wp2
    go_ret
    exact ⟨_, rfl, H1.out.1, H1.out.2⟩

/-- sequences whose literals are copies -/
structure SqO (w : World) (s : SqV) (q : Sq) : Prop where
  own : w.ownsRow 0 5 1 (.slice s.a s.n s.c) s.n (bv q.1)
  byt : Byt q.1
  off : s.off = q.2.1
  m : s.m = q.2.2
  le : s.n ≤ 16777216
def SqsO (w : World) (ss : List SqV) (qs : List Sq) : Prop := ss.length = qs.length ∧ ∀ (i : Nat) (s : SqV) (q : Sq), ss[i]? = some s → qs[i]? = some q → SqO w s q
theorem SqsO.nil {w : World} : SqsO w [] [] := ⟨rfl, fun i s q h => by simp at h⟩
theorem SqsO.snoc {w : World} {ss : List SqV} {qs : List Sq} {s : SqV} {q : Sq} (h : SqsO w ss qs) (k : SqO w s q) : SqsO w (ss ++ [s]) (qs ++ [q]) := by
  refine ⟨by simp [h.1], fun i s' q' h1 h2 => ?_⟩
  rcases get_snoc h1 with h1 | ⟨e1, rfl⟩
  · rcases get_snoc h2 with h2 | ⟨e2, rfl⟩
    · exact h.2 i s' q' h1 h2
    · have := (List.getElem?_eq_some_iff.1 h1).1
      have := h.1
      omega
  · rcases get_snoc h2 with h2 | ⟨e2, rfl⟩
    · have := (List.getElem?_eq_some_iff.1 h2).1
      have := h.1
      omega
    · exact k
theorem SqsO.map {w w' : World} {ss : List SqV} {qs : List Sq} (h : SqsO w ss qs) (k : ∀ v n xs, w.ownsRow 0 5 1 v n xs → w'.ownsRow 0 5 1 v n xs) : SqsO w' ss qs :=
  ⟨h.1, fun i s q h1 h2 => by have j := h.2 i s q h1 h2; exact ⟨k _ _ _ j.own, j.byt, j.off, j.m, j.le⟩⟩
theorem SqsO.sqs {w : World} {ss : List SqV} {qs : List Sq} (h : SqsO w ss qs) : Sqs w ss qs := by
  refine ⟨h.1, fun i s q h1 h2 => ?_⟩
  have j := h.2 i s q h1 h2
  obtain ⟨a, c, e, B⟩ := byte_own j.own j.byt (by have := j.le; unfold maxLen; omega)
  injection e with e1 e2 e3
  rw [← e1, ← e3] at B
  exact ⟨B.row, j.off, j.m, B.nil, B.nc, B.cm⟩
structure Sc (w0 : World) (gc : Nat) (sq : List Sq) (ss : List SqV) (v : Value) (W : World) : Prop where
  grown : w0.grownBy W none
  bx : Box W gc 46 [v]
  own : W.ownsRow w0.heap.size 51 3 v ss.length (sqv ss)
  sqs : SqsO W ss sq
  lc : w0.heap.size ≤ gc
theorem Sc.keep {w0 W W' : World} {gc : Nat} {sq : List Sq} {ss : List SqV} {v : Value} (h : Sc w0 gc sq ss v W) (hg : W.grownBy W' none) : Sc w0 gc sq ss v W' :=
  ⟨grown_trans h.grown hg, h.bx.kept hg (by simp), h.own.kept hg (by cases v.ownBlock <;> simp), h.sqs.map (fun v n xs k => k.kept hg (by cases v.ownBlock <;> simp)), h.lc⟩

theorem sqsO_len {w : World} {ss : List SqV} {qs : List Sq} (h : SqsO w ss qs) : ss.length = qs.length := h.1
theorem dec_seqs (bs : List Int) (most : Int) (f : Nat) (out : List Int) (sq : List Sq) (p : Nat) : (dec bs most f out sq p).2.1.length ≤ sq.length + f := by
  induction f generalizing out sq p with
  | zero => rw [dec]; simp
  | succ f ih =>
    rw [dec]
    split
    · simp
    · simp only [List.length_append, List.length_cons, List.length_nil]; omega
    · refine Nat.le_trans (ih _ _ _) ?_
      simp only [List.length_append, List.length_cons, List.length_nil]; omega
def PCut (w : World) (r : List Int × List Sq × Int × Int) (e : Ending) (w' : World) : Prop :=
  ∃ a n c ss, e = .returned (.tuple #[.slice a n c, .int .i64 r.2.2.1, .int .i64 r.2.2.2]) ∧ SRow w' a n ss ∧ SqsO w' ss r.2.1 ∧ (a = none → c = 0) ∧ w.grownBy w' none
theorem pcut_none {w w' : World} {er p : Int} (h : w.grownBy w' none) : PCut w ([], [], er, p) (.returned (.tuple #[.slice none 0 0, .int .i64 er, .int .i64 p])) w' :=
  ⟨none, 0, 0, [], rfl, ⟨rfl, Nat.zero_le _, fun h => by omega⟩, .nil, fun _ => rfl, h⟩

end Go.Proofs.Yteghhmnkdmehbaa
