/- Names and paths, as plain functions over texts. -/
import Derived.WalkKit
import Derived.Test.YtlehncfehoelbaaGreatDoorProg
import Derived.Laws.StructEq
import Derived.Deep.QuietTactic
import Derived.BigQuiet
import Derived.Laws.AppendOwn
namespace Go.Proofs.YtlehncfehoelbaaGreatDoor
open Go.RowKit
set_option maxRecDepth 100000
def byt (s : ByteArray) (i : Nat) : Nat := if h : i < s.size then (s[i]'h).toNat else 0
theorem byt_in {s : ByteArray} {i : Nat} (h : i < s.size) : (s[i]'h).toNat = byt s i := by unfold byt; rw [dif_pos h]
def bad (s : ByteArray) (k : Nat) : Bool := (List.range k).any fun i => byt s i == 47 || byt s i == 0
def nul (s : ByteArray) (k : Nat) : Bool := (List.range k).any fun i => byt s i == 0
theorem bad_succ (s : ByteArray) (k : Nat) : bad s (k + 1) = (bad s k || (byt s k == 47 || byt s k == 0)) := by
 unfold bad; rw [List.range_succ, List.any_append]; simp
theorem nul_succ (s : ByteArray) (k : Nat) : nul s (k + 1) = (nul s k || byt s k == 0) := by
 unfold nul; rw [List.range_succ, List.any_append]; simp
theorem bad_mono {s : ByteArray} {k n : Nat} (h : bad s k = true) (hk : k ≤ n) : bad s n = true := by
 unfold bad at *
 rw [List.any_eq_true] at *
 obtain ⟨i, hi, e⟩ := h
 exact ⟨i, List.mem_range.2 (by have := List.mem_range.1 hi; omega), e⟩
theorem nul_mono {s : ByteArray} {k n : Nat} (h : nul s k = true) (hk : k ≤ n) : nul s n = true := by
 unfold nul at *
 rw [List.any_eq_true] at *
 obtain ⟨i, hi, e⟩ := h
 exact ⟨i, List.mem_range.2 (by have := List.mem_range.1 hi; omega), e⟩
def val (s : ByteArray) : Bool := decide (1 ≤ s.size) && decide (s.size ≤ 255) && !(s.toList == [46]) && !(s.toList == [46, 46]) && !bad s s.size
end Go.Proofs.YtlehncfehoelbaaGreatDoor
namespace Go.Proofs.YtlehncfehoelbaaGreatDoor
open Go.RowKit
set_option maxRecDepth 100000
set_option linter.unusedSimpArgs false
set_option linter.unusedVariables false
set_option maxHeartbeats 1000000 in
theorem rvalid_any (s : ByteArray) (w : World) (hs : s.size ≤ 5000) : Calls Tryz.prog 87 #[.string s] w fun e w' => e = .returned (.bool (val s)) ∧ w = w' := by
 by_cases h1 : s.size < 1
 ·have e : val s = false := by unfold val; have : ¬ 1 ≤ s.size := by omega
                               simp [this]
  rw [e]
  go_enter Tryz.func87, Tryz.ntmps87
  go_wp2
  go_ret
  exact ⟨rfl, rfl⟩
 ·by_cases h2 : 255 < s.size
  ·have e : val s = false := by unfold val; have : ¬ s.size ≤ 255 := by omega
                                simp [this]
   rw [e]
   have g1 : ¬ (s.size : Int) < 1 := by omega
   have g2 : (255 : Int) < s.size := by omega
   go_enter Tryz.func87, Tryz.ntmps87
   go_wp2
   go_ret
   exact ⟨rfl, rfl⟩
  ·have g1 : ¬ (s.size : Int) < 1 := by omega
   have g2 : ¬ (255 : Int) < s.size := by omega
   cases h3 : (s.toList == [46]) with
   | true =>
    have e : val s = false := by unfold val; simp [h3]
    rw [e]
    clear e
    go_enter Tryz.func87, Tryz.ntmps87
    go_wp2
    go_ret
    exact ⟨rfl, rfl⟩
   | false =>
    cases h4 : (s.toList == [46, 46]) with
    | true =>
     have e : val s = false := by unfold val; simp [h4]
     rw [e]
     clear e
     go_enter Tryz.func87, Tryz.ntmps87
     go_wp2
     go_ret
     exact ⟨rfl, rfl⟩
    | false =>
     have HE : Hid (val s = !bad s s.size) := by
      show val s = !bad s s.size
      unfold val
      have : 1 ≤ s.size := by omega
      have : s.size ≤ 255 := by omega
      simp [*]
     go_enter Tryz.func87, Tryz.ntmps87
     go_wp2
     go_loop [3] (fun i => ∃ k : Nat, k ≤ s.size ∧ i = .int .i64 k ∧ Hid (bad s k = false)) (fun i => s.size - (intOf i).toNat)
     case atStart => exact ⟨0, Nat.zero_le _, rfl, rfl⟩
     case round =>
      obtain ⟨k, hk, rfl, HB⟩ := hrel
      by_cases hlt : k < s.size
      ·have hbn := bad_succ s k
       rw [HB.out, ← byt_in hlt] at hbn
       have HN : Hid _ := hbn
       clear hbn
       cases h5 : ((s[k].toNat : Int) == 47) with
       | true =>
        have e5 : s[k].toNat = 47 := by have h5' : (s[k].toNat : Int) = 47 := eq_of_beq h5; omega
        have HV : Hid (val s = false) := by
         show val s = false
         rw [HE.out, bad_mono (k := k + 1) (by rw [HN.out]; simp [e5]) (by omega)]; rfl
        clear e5
        go_wp2
        go_ret
        exact ⟨by rw [HV.out]; rfl, rfl⟩
       | false =>
        cases h6 : ((s[k].toNat : Int) == 0) with
        | true =>
         have e5 : s[k].toNat = 0 := by have h5' : (s[k].toNat : Int) = 0 := eq_of_beq h6; omega
         have HV : Hid (val s = false) := by
          show val s = false
          rw [HE.out, bad_mono (k := k + 1) (by rw [HN.out]; simp [e5]) (by omega)]; rfl
         clear e5
         go_wp2
         go_ret
         exact ⟨by rw [HV.out]; rfl, rfl⟩
        | false =>
         have e5 : s[k].toNat ≠ 47 := by intro e; rw [e] at h5; simp at h5
         have e6 : s[k].toNat ≠ 0 := by intro e; rw [e] at h6; simp at h6
         have HV : Hid (bad s (k + 1) = false) := by
          show bad s (k + 1) = false
          rw [HN.out]; simp [e5, e6]
         clear e5 e6
         go_wp2
         go_round
         case rel => exact ⟨k + 1, by omega, by go_num, HV⟩
         case measure => simp [intOf]; omega
      ·obtain rfl : k = s.size := by omega
       go_wp2
       go_ret
       exact ⟨by rw [HE.out, HB.out]; rfl, rfl⟩
end Go.Proofs.YtlehncfehoelbaaGreatDoor
namespace Go.Proofs.YtlehncfehoelbaaGreatDoor
open Go.RowKit
set_option maxRecDepth 100000
abbrev Tx := List UInt8
def cutS : Tx → List Tx
 | [] => [[]]
 | c :: r => if c = 47 then [] :: cutS r else match cutS r with
  | [] => [[c]]
  | p :: ps => (c :: p) :: ps
theorem cutS_ne (l : Tx) : cutS l ≠ [] := by
 cases l with
 | nil => simp [cutS]
 | cons c r => unfold cutS; split; (· simp); split <;> simp
theorem cutS_slash {l : Tx} {ps : List Tx} {q : Tx} (h : cutS l = ps ++ [q]) : cutS (l ++ [47]) = ps ++ [q] ++ [[]] := by
 induction l generalizing ps q with
 | nil =>
  simp [cutS] at h
  have : ps = [] ∧ q = [] := by
   cases ps with
   | nil => simp at h; exact ⟨rfl, h⟩
   | cons a b => simp at h
  obtain ⟨rfl, rfl⟩ := this
  simp [cutS]
 | cons c r ih =>
  simp only [List.cons_append]
  unfold cutS at h ⊢
  by_cases hc : c = 47
  ·rw [if_pos hc] at h ⊢
   cases ps with
   | nil => simp at h; exact absurd h.2 (cutS_ne r)
   | cons a b =>
    simp only [List.cons_append, List.cons.injEq] at h
    rw [ih h.2, ← h.1]
    simp
  ·rw [if_neg hc] at h ⊢
   cases hr : cutS r with
   | nil => exact absurd hr (cutS_ne r)
   | cons p t =>
    rw [hr] at h
    simp only at h
    cases ps with
    | nil =>
     simp only [List.nil_append, List.cons.injEq] at h
     obtain ⟨h1, h2⟩ := h
     subst h2
     have := ih (ps := []) (q := p) (by rw [hr]; rfl)
     rw [this, ← h1]
     simp
    | cons a b =>
     simp only [List.cons_append, List.cons.injEq] at h
     obtain ⟨h1, h2⟩ := h
     have := ih (ps := p :: b) (q := q) (by rw [hr, h2]; rfl)
     rw [this, ← h1]
     simp
theorem cutS_byte {l : Tx} {ps : List Tx} {q : Tx} {c : UInt8} (hc : c ≠ 47) (h : cutS l = ps ++ [q]) : cutS (l ++ [c]) = ps ++ [q ++ [c]] := by
 induction l generalizing ps q with
 | nil =>
  simp [cutS] at h
  have : ps = [] ∧ q = [] := by
   cases ps with
   | nil => simp at h; exact ⟨rfl, h⟩
   | cons a b => simp at h
  obtain ⟨rfl, rfl⟩ := this
  simp [cutS, hc]
 | cons d r ih =>
  simp only [List.cons_append]
  unfold cutS at h ⊢
  by_cases hd : d = 47
  ·rw [if_pos hd] at h ⊢
   cases ps with
   | nil => simp at h; exact absurd h.2 (cutS_ne r)
   | cons a b =>
    simp only [List.cons_append, List.cons.injEq] at h
    rw [ih h.2, ← h.1]
    simp
  ·rw [if_neg hd] at h ⊢
   cases hr : cutS r with
   | nil => exact absurd hr (cutS_ne r)
   | cons p t =>
    rw [hr] at h
    simp only at h
    cases ps with
    | nil =>
     simp only [List.nil_append, List.cons.injEq] at h
     obtain ⟨h1, h2⟩ := h
     subst h2
     have := ih (ps := []) (q := p) (by rw [hr]; rfl)
     rw [this, ← h1]
     simp
    | cons a b =>
     simp only [List.cons_append, List.cons.injEq] at h
     obtain ⟨h1, h2⟩ := h
     have := ih (ps := p :: b) (q := q) (by rw [hr, h2]; rfl)
     rw [this, ← h1]
     simp
def kept (p : Tx) : Bool := !(p == []) && !(p == [46])
def longP (p : Tx) : Bool := decide (255 < p.length)
def spl (l : Tx) : List Tx × Int :=
 if 4096 < l.length then ([], 2) else if l.any (· == 0) then ([], 6) else if (cutS l).any longP then ([], 1) else if 128 < ((cutS l).filter kept).length then ([], 3) else ((cutS l).filter kept, 0)
def vld (p : Tx) : Bool := decide (1 ≤ p.length) && decide (p.length ≤ 255) && !(p == [46]) && !(p == [46, 46]) && !(p.any fun c => c == 47 || c == 0)
def prt (p : Tx) : Bool := (p == [46, 46]) || vld p
def joi : List Tx → Tx
 | [] => []
 | [p] => p
 | p :: q :: r => p ++ 47 :: joi (q :: r)
def jnp (l : List Tx) : Tx × Int :=
 if 128 < l.length then ([], 3) else if l.any (fun p => !prt p) then ([], 1) else if 4096 < (joi l).length then ([], 2) else (joi l, 0)
theorem joi_snoc (l : List Tx) (p : Tx) (h : l ≠ []) : joi (l ++ [p]) = joi l ++ 47 :: p := by
 induction l with
 | nil => exact absurd rfl h
 | cons a r ih =>
  cases r with
  | nil => rfl
  | cons b t =>
   simp only [List.cons_append, joi]
   have := ih (by simp)
   simp only [List.cons_append] at this
   rw [this]
   simp
theorem cutS_pure {p : Tx} (h : ∀ c ∈ p, c ≠ 47) : cutS p = [p] := by
 induction p with
 | nil => rfl
 | cons c r ih =>
  unfold cutS
  rw [if_neg (h c (List.mem_cons_self ..)), ih (fun d hd => h d (List.mem_cons_of_mem _ hd))]
theorem cutS_app {p : Tx} (h : ∀ c ∈ p, c ≠ 47) (r : Tx) : cutS (p ++ 47 :: r) = p :: cutS r := by
 induction p with
 | nil => simp [cutS]
 | cons c t ih =>
  rw [List.cons_append, cutS.eq_2, if_neg (h c (List.mem_cons_self ..)), ih (fun d hd => h d (List.mem_cons_of_mem _ hd))]
theorem cutS_joi {l : List Tx} (hl : l ≠ []) (h : ∀ p ∈ l, ∀ c ∈ p, c ≠ 47) : cutS (joi l) = l := by
 induction l with
 | nil => exact absurd rfl hl
 | cons p r ih =>
  cases r with
  | nil => exact cutS_pure (h p (List.mem_cons_self ..))
  | cons q t =>
   unfold joi
   rw [cutS_app (h p (List.mem_cons_self ..)), ih (by simp) (fun x hx => h x (List.mem_cons_of_mem _ hx))]
theorem prt_facts {p : Tx} (h : prt p = true) : (∀ c ∈ p, c ≠ 47 ∧ c ≠ 0) ∧ kept p = true ∧ p.length ≤ 255 := by
 unfold prt at h
 rw [Bool.or_eq_true] at h
 rcases h with h | h
 ·have e : p = [46, 46] := by simpa using h
  subst e
  decide
 ·unfold vld at h
  simp only [Bool.and_eq_true, Bool.not_eq_true', decide_eq_true_eq] at h
  obtain ⟨⟨⟨⟨h1, h2⟩, h3⟩, h4⟩, h5⟩ := h
  refine ⟨fun c hc => ?_, ?_, h2⟩
  ·rw [List.any_eq_false] at h5
   have := h5 c hc
   simp at this
   exact this
  ·unfold kept
   rw [h3]
   have : (p == []) = false := by cases p with
    | nil => simp at h1
    | cons => rfl
   rw [this]; rfl
theorem joi_mem {l : List Tx} {c : UInt8} (h : c ∈ joi l) : c = 47 ∨ ∃ p ∈ l, c ∈ p := by
 induction l with
 | nil => simp [joi] at h
 | cons p r ih =>
  cases r with
  | nil => exact Or.inr ⟨p, List.mem_cons_self .., h⟩
  | cons q t =>
   unfold joi at h
   rcases List.mem_append.1 h with h | h
   ·exact Or.inr ⟨p, List.mem_cons_self .., h⟩
   ·rcases List.mem_cons.1 h with h | h
    ·exact Or.inl h
    ·rcases ih h with h | ⟨x, hx, hc⟩
     ·exact Or.inl h
     ·exact Or.inr ⟨x, List.mem_cons_of_mem _ hx, hc⟩
theorem spl_joi {l : List Tx} (h : (jnp l).2 = 0) : spl (jnp l).1 = (l, 0) := by
 unfold jnp at h ⊢
 by_cases h1 : 128 < l.length
 ·rw [if_pos h1] at h; exact absurd h (by decide)
 rw [if_neg h1] at h ⊢
 by_cases h2 : (l.any fun p => !prt p) = true
 ·rw [if_pos h2] at h; exact absurd h (by decide)
 rw [if_neg h2] at h ⊢
 by_cases h3 : 4096 < (joi l).length
 ·rw [if_pos h3] at h; exact absurd h (by decide)
 rw [if_neg h3]
 have hp : ∀ p ∈ l, prt p = true := fun p hp => by
  cases e : prt p with
  | true => rfl
  | false => exact absurd (List.any_eq_true.2 ⟨p, hp, by rw [e]; rfl⟩) h2
 simp only
 unfold spl
 rw [if_neg h3]
 have h0 : (joi l).any (· == 0) = false := by
  rw [List.any_eq_false]
  intro c hc e
  have e : c = 0 := by simpa using e
  rcases joi_mem hc with h | ⟨p, hpl, hcp⟩
  ·rw [e] at h; exact absurd h (by decide)
  ·exact ((prt_facts (hp p hpl)).1 c hcp).2 e
 rw [h0, if_neg (by decide)]
 cases l with
 | nil => rfl
 | cons p r =>
  rw [cutS_joi (by simp) (fun p hpl c hc => ((prt_facts (hp p hpl)).1 c hc).1)]
  have hl : (p :: r).any longP = false := by
   rw [List.any_eq_false]
   intro q hq e
   have := (prt_facts (hp q hq)).2.2
   unfold longP at e
   simp at e
   omega
  have hf : (p :: r).filter kept = p :: r := List.filter_eq_self.2 fun q hq => (prt_facts (hp q hq)).2.1
  rw [hl, if_neg (by decide), hf, if_neg h1]
def ctx : Tx → Tx → Int
 | [], [] => 0
 | [], _ :: _ => -1
 | _ :: _, [] => 1
 | a :: r, b :: t => if a < b then -1 else if b < a then 1 else ctx r t
def ord : List Tx → List Tx → Int
 | [], [] => 0
 | [], _ :: _ => -1
 | _ :: _, [] => 1
 | a :: r, b :: t => if ctx a b ≠ 0 then ctx a b else ord r t
theorem ctx_self (a : Tx) : ctx a a = 0 := by
 induction a with
 | nil => rfl
 | cons c r ih => unfold ctx; rw [if_neg (UInt8.lt_irrefl c), if_neg (UInt8.lt_irrefl c), ih]
theorem ctx_eq {a b : Tx} (h : ctx a b = 0) : a = b := by
 induction a generalizing b with
 | nil => cases b with
  | nil => rfl
  | cons d t => simp [ctx] at h
 | cons c r ih =>
  cases b with
  | nil => simp [ctx] at h
  | cons d t =>
   unfold ctx at h
   split at h
   ·simp at h
   ·split at h
    ·simp at h
    ·rename_i h1 h2
     rw [ih h]
     congr 1
     exact UInt8.le_antisymm (UInt8.not_lt.1 h2) (UInt8.not_lt.1 h1)
theorem ctx_flip (a b : Tx) : ctx b a = - ctx a b := by
 induction a generalizing b with
 | nil => cases b <;> rfl
 | cons c r ih =>
  cases b with
  | nil => rfl
  | cons d t =>
   unfold ctx
   by_cases h1 : c < d
   ·have h2 : ¬ d < c := fun h => UInt8.lt_asymm h1 h
    simp [h1, h2]
   ·by_cases h2 : d < c
    ·simp [h1, h2]
    ·simp [h1, h2, ih]
theorem ctx_val (a b : Tx) : ctx a b = -1 ∨ ctx a b = 0 ∨ ctx a b = 1 := by
 induction a generalizing b with
 | nil => cases b <;> simp [ctx]
 | cons c r ih =>
  cases b with
  | nil => simp [ctx]
  | cons d t =>
   unfold ctx
   split
   ·simp
   ·split
    ·simp
    ·exact ih t
theorem ctx_trans {a b c : Tx} (h : ctx a b = -1) (k : ctx b c = -1) : ctx a c = -1 := by
 induction a generalizing b c with
 | nil =>
  cases c with
  | nil => cases b <;> simp [ctx] at k
  | cons => rfl
 | cons x r ih =>
  cases b with
  | nil => simp [ctx] at h
  | cons y t =>
   cases c with
   | nil => simp [ctx] at k
   | cons z u =>
    unfold ctx at h k ⊢
    by_cases h1 : x < y
    ·by_cases k1 : y < z
     ·rw [if_pos (UInt8.lt_trans h1 k1)]
     ·rw [if_neg k1] at k
      by_cases k2 : z < y
      ·rw [if_pos k2] at k; simp at k
      ·have e : y = z := UInt8.le_antisymm (UInt8.not_lt.1 k2) (UInt8.not_lt.1 k1)
       subst e
       rw [if_pos h1]
    ·rw [if_neg h1] at h
     by_cases h2 : y < x
     ·rw [if_pos h2] at h; simp at h
     ·rw [if_neg h2] at h
      have e : x = y := UInt8.le_antisymm (UInt8.not_lt.1 h2) (UInt8.not_lt.1 h1)
      subst e
      by_cases k1 : x < z
      ·rw [if_pos k1]
      ·rw [if_neg k1] at k ⊢
       by_cases k2 : z < x
       ·rw [if_pos k2] at k; simp at k
       ·rw [if_neg k2] at k ⊢
        exact ih h k
theorem ord_self (a : List Tx) : ord a a = 0 := by
 induction a with
 | nil => rfl
 | cons c r ih => unfold ord; rw [ctx_self, if_neg (by simp), ih]
theorem ord_eq {a b : List Tx} (h : ord a b = 0) : a = b := by
 induction a generalizing b with
 | nil => cases b with
  | nil => rfl
  | cons d t => simp [ord] at h
 | cons c r ih =>
  cases b with
  | nil => simp [ord] at h
  | cons d t =>
   unfold ord at h
   by_cases e : ctx c d = 0
   ·rw [if_neg (by simp [e])] at h
    rw [ih h, ctx_eq e]
   ·rw [if_pos e] at h; exact absurd h e
theorem ord_flip (a b : List Tx) : ord b a = - ord a b := by
 induction a generalizing b with
 | nil => cases b <;> rfl
 | cons c r ih =>
  cases b with
  | nil => rfl
  | cons d t =>
   unfold ord
   rw [ctx_flip c d]
   by_cases e : ctx c d = 0
   ·simp [e, ih]
   ·simp [e]
theorem ord_val (a b : List Tx) : ord a b = -1 ∨ ord a b = 0 ∨ ord a b = 1 := by
 induction a generalizing b with
 | nil => cases b <;> simp [ord]
 | cons c r ih =>
  cases b with
  | nil => simp [ord]
  | cons d t =>
   unfold ord
   split
   ·exact ctx_val c d
   ·exact ih t
theorem ord_trans {a b c : List Tx} (h : ord a b = -1) (k : ord b c = -1) : ord a c = -1 := by
 induction a generalizing b c with
 | nil =>
  cases c with
  | nil => cases b <;> simp [ord] at k
  | cons => rfl
 | cons x r ih =>
  cases b with
  | nil => simp [ord] at h
  | cons y t =>
   cases c with
   | nil => simp [ord] at k
   | cons z u =>
    unfold ord at h k ⊢
    by_cases e1 : ctx x y = 0
    ·have := ctx_eq e1
     subst this
     rw [if_neg (by simp [e1])] at h
     by_cases e2 : ctx x z = 0
     ·rw [if_neg (by simp [e2])] at k ⊢; exact ih h k
     ·rw [if_pos e2] at k ⊢; exact k
    ·rw [if_pos e1] at h
     by_cases e2 : ctx y z = 0
     ·have := ctx_eq e2
      subst this
      rw [if_pos e1]; exact h
     ·rw [if_pos e2] at k
      have := ctx_trans h k
      rw [if_pos (by rw [this]; decide), this]
theorem ord_snoc (a : List Tx) (p : Tx) : ord a (a ++ [p]) = -1 := by
 induction a with
 | nil => rfl
 | cons c r ih => simp only [List.cons_append]; unfold ord; rw [ctx_self, if_neg (by simp), ih]
end Go.Proofs.YtlehncfehoelbaaGreatDoor
namespace Go.Proofs.YtlehncfehoelbaaGreatDoor
open Go.RowKit
set_option maxRecDepth 100000
set_option linter.unusedSimpArgs false
set_option linter.unusedVariables false
theorem tl_len (s : ByteArray) : s.toList.length = s.size := by rw [ByteArray.toList_eq]; rfl
theorem tl_get {s : ByteArray} {i : Nat} (h : i < s.size) : s.toList[i]'(by rw [tl_len]; exact h) = s[i] := by
 simp only [ByteArray.toList_eq]
 rfl
theorem drop_get {s : ByteArray} {i : Nat} (h : i < s.size) : s.toList.drop i = s[i] :: s.toList.drop (i + 1) := by
 rw [List.drop_eq_getElem_cons (by rw [tl_len]; exact h), tl_get h]
theorem take_get {s : ByteArray} {i : Nat} (h : i < s.size) : s.toList.take (i + 1) = s.toList.take i ++ [s[i]] := by
 rw [List.take_succ_eq_append_getElem (by rw [tl_len]; exact h), tl_get h]
theorem tl_inj {s t : ByteArray} (h : s.toList = t.toList) : s = t := by
 rw [ByteArray.toList_eq, ByteArray.toList_eq] at h
 cases s; cases t
 simp only at h
 congr 1
 exact Array.toList_inj.1 h
structure SRow (w : World) (a : Option Addr) (len : Nat) (l : List ByteArray) : Prop where
 len_eq : l.length = len
 cells : 0 < len → ∃ b off, a = some ⟨b, off, none⟩ ∧ ∀ i, i < len → w.cell? ⟨b, off + i, none⟩ = some (.string (l.getD i ⟨#[]⟩))
theorem SRow.below {w w' : World} {a : Option Addr} {len : Nat} {l : List ByteArray} (h : SRow w a len l) (hb : Below w.heap.size w w') : SRow w' a len l :=
 ⟨h.len_eq, fun h0 => by
  obtain ⟨b, off, e, hc⟩ := h.cells h0
  have hlt : b < w.heap.size := by
   have := hc 0 h0
   rcases Nat.lt_or_ge b w.heap.size with h | h
   ·exact h
   ·simp [World.cell?, Array.getElem?_eq_none h] at this
  exact ⟨b, off, e, fun i hi => by rw [hb.cell (p := ⟨b, off + i, none⟩) hlt]; exact hc i hi⟩⟩
theorem grown_below0 {a b : World} (h : a.grownBy b none) : Below a.heap.size a b := ⟨h.os, h.tape, h.output, h.size, fun k hk => h.block k hk (by simp)⟩
theorem SRow.grown {w w' : World} {a : Option Addr} {len : Nat} {l : List ByteArray} (h : SRow w a len l) (hg : w.grownBy w' none) : SRow w' a len l := h.below (grown_below0 hg)
def tls (l : List ByteArray) : List Tx := l.map (·.toList)
theorem tls_len (l : List ByteArray) : (tls l).length = l.length := by simp [tls]
theorem tls_drop {l : List ByteArray} {i : Nat} (h : i < l.length) : (tls l).drop i = (l.getD i ⟨#[]⟩).toList :: (tls l).drop (i + 1) := by
 rw [List.drop_eq_getElem_cons (by rw [tls_len]; exact h)]
 simp [tls, List.getD_eq_getElem?_getD, h]
def lcp (a b : Int) : Int := if a < b then -1 else if b < a then 1 else 0
theorem dd (w : World) (a b : Nat) : (w.drewN a).drewN b = w.drewN (a + b) := by
 induction b with
 | zero => rfl
 | succ b ih => first | (show ((w.drewN a).drewN b).drew = (w.drewN (a + b)).drew; rw [ih]) | (simp [World.drewN, Nat.add_assoc])
theorem rlength_any (a b : Int) (w : World) : Calls Tryz.prog 107 #[.int .i64 a, .int .i64 b] w fun e w' => e = .returned (.int .i64 (lcp a b)) ∧ w = w' := by
 unfold lcp
 by_cases h : a < b
 ·rw [if_pos h]
  go_enter Tryz.func107, Tryz.ntmps107
  go_wp2
  go_ret
  exact ⟨rfl, rfl⟩
 ·rw [if_neg h]
  by_cases h2 : b < a
  ·rw [if_pos h2]
   go_enter Tryz.func107, Tryz.ntmps107
   go_wp2
   go_ret
   exact ⟨rfl, rfl⟩
  ·rw [if_neg h2]
   go_enter Tryz.func107, Tryz.ntmps107
   go_wp2
   go_ret
   exact ⟨rfl, rfl⟩
theorem ctx_cons (a : UInt8) (r : Tx) (b : UInt8) (t : Tx) : ctx (a :: r) (b :: t) = if a < b then -1 else if b < a then 1 else ctx r t := rfl
theorem ctx_len (a b : Tx) (h : a = [] ∨ b = []) : ctx a b = lcp a.length b.length := by
 unfold lcp
 rcases h with rfl | rfl
 ·cases b with
  | nil => rfl
  | cons c r => simp only [ctx, List.length_cons, List.length_nil]; rw [if_pos (by omega)]
 ·cases a with
  | nil => rfl
  | cons c r => simp only [ctx, List.length_cons, List.length_nil]; rw [if_neg (by omega), if_pos (by omega)]
set_option maxHeartbeats 1000000 in
theorem rtext_any (s t : ByteArray) (w : World) (hs : s.size ≤ 1000000) (ht : t.size ≤ 1000000) : Calls Tryz.prog 106 #[.string s, .string t] w fun e w' => e = .returned (.int .i64 (ctx s.toList t.toList)) ∧ ∃ n, w' = w.drewN n := by
 have hle := fun W => rlength_any s.size t.size W
 go_enter Tryz.func106, Tryz.ntmps106
 go_wp2
 go_loopw [5] (fun i wr => ∃ k : Nat, k ≤ s.size ∧ k ≤ t.size ∧ i = .int .i64 k ∧ Hid (ctx s.toList t.toList = ctx (s.toList.drop k) (t.toList.drop k)) ∧ ∃ n, wr = w.drewN n) (fun i _ => s.size - (intOf i).toNat)
 case atStart => exact ⟨0, Nat.zero_le _, Nat.zero_le _, rfl, rfl, 0, rfl⟩
 case round =>
  obtain ⟨k, h1, h2, rfl, HC, n, rfl⟩ := hrel
  by_cases h3 : k < s.size
  ·by_cases h4 : k < t.size
   ·have hc := HC.out
    rw [drop_get h3, drop_get h4] at hc
    rw [ctx_cons] at hc
    have HD : Hid _ := hc
    clear hc HC
    by_cases h5 : (s[k].toNat : Int) < (t[k].toNat : Int)
    ·have h6 : s[k] < t[k] := UInt8.lt_iff_toNat_lt.2 (by omega)
     have HV : Hid (ctx s.toList t.toList = -1) := by
      show ctx s.toList t.toList = -1
      rw [HD.out, if_pos h6]
     clear HD h6
     go_wp2
     go_quiet (fail)
     go_wp2
     go_ret
     exact ⟨by rw [HV.out]; rfl, _, dd _ _ _⟩
    ·have h6 : ¬ s[k] < t[k] := fun h => h5 (by have := UInt8.lt_iff_toNat_lt.1 h; omega)
     by_cases h7 : (t[k].toNat : Int) < (s[k].toNat : Int)
     ·have h8 : t[k] < s[k] := UInt8.lt_iff_toNat_lt.2 (by omega)
      have HV : Hid (ctx s.toList t.toList = 1) := by
       show ctx s.toList t.toList = 1
       rw [HD.out, if_neg h6, if_pos h8]
      clear HD h6 h8
      go_wp2
      go_quiet (fail)
      go_wp2
      go_quiet (fail)
      go_wp2
      go_ret
      exact ⟨by rw [HV.out]; rfl, _, by rw [dd, dd]⟩
     ·have h8 : ¬ t[k] < s[k] := fun h => h7 (by have := UInt8.lt_iff_toNat_lt.1 h; omega)
      have HV : Hid (ctx s.toList t.toList = ctx (s.toList.drop (k + 1)) (t.toList.drop (k + 1))) := by
       show ctx s.toList t.toList = _
       rw [HD.out, if_neg h6, if_neg h8]
      clear HD h6 h8
      go_wp2
      go_quiet (fail)
      go_wp2
      go_quiet (fail)
      go_wp2
      exact ⟨⟨k + 1, by omega, by omega, by go_num, HV, _, rfl⟩, by simp [intOf]; omega⟩
   ·have e4 : k = t.size := by omega
    have HV : Hid (ctx s.toList t.toList = lcp s.size t.size) := by
     show ctx s.toList t.toList = _
     have e5 : t.toList.drop k = [] := List.drop_eq_nil_of_le (by rw [tl_len]; omega)
     rw [HC.out, ctx_len _ _ (Or.inr e5), List.length_drop, List.length_drop, tl_len, tl_len]
     have a1 : ((s.size - k : Nat) : Int) = s.size - k := by omega
     have a2 : ((t.size - k : Nat) : Int) = t.size - k := by omega
     rw [a1, a2]
     unfold lcp
     simp only [Int.sub_lt_sub_right_iff]
    clear HC e4
    go_wp2_with (go_at_call 107; refine (hle _).mono ?_; rintro e w' ⟨rfl, rfl⟩)
    go_ret
    exact ⟨by rw [HV.out]; rfl, _, rfl⟩
  ·have HV : Hid (ctx s.toList t.toList = lcp s.size t.size) := by
    show ctx s.toList t.toList = _
    have e5 : s.toList.drop k = [] := List.drop_eq_nil_of_le (by rw [tl_len]; omega)
    rw [HC.out, ctx_len _ _ (Or.inl e5), List.length_drop, List.length_drop, tl_len, tl_len]
    have a1 : ((s.size - k : Nat) : Int) = s.size - k := by omega
    have a2 : ((t.size - k : Nat) : Int) = t.size - k := by omega
    rw [a1, a2]
    unfold lcp
    simp only [Int.sub_lt_sub_right_iff]
   clear HC
   go_wp2_with (go_at_call 107; refine (hle _).mono ?_; rintro e w' ⟨rfl, rfl⟩)
   go_ret
   exact ⟨by rw [HV.out]; rfl, _, rfl⟩
theorem ord_cons (a : Tx) (r : List Tx) (b : Tx) (t : List Tx) : ord (a :: r) (b :: t) = if ctx a b ≠ 0 then ctx a b else ord r t := rfl
theorem ord_len (a b : List Tx) (h : a = [] ∨ b = []) : ord a b = lcp a.length b.length := by
 unfold lcp
 rcases h with rfl | rfl
 ·cases b with
  | nil => rfl
  | cons c r => simp only [ord, List.length_cons, List.length_nil]; rw [if_pos (by omega)]
 ·cases a with
  | nil => rfl
  | cons c r => simp only [ord, List.length_cons, List.length_nil]; rw [if_neg (by omega), if_pos (by omega)]
def szs (l : List ByteArray) : Prop := ∀ i, (l.getD i ⟨#[]⟩).size ≤ 1000000
theorem lcp_sub (a b k : Int) : lcp (a - k) (b - k) = lcp a b := by
 unfold lcp
 simp only [Int.sub_lt_sub_right_iff]
set_option maxHeartbeats 1000000 in
theorem rorder_any (a b : Option Addr) (n c m d : Nat) (l r : List ByteArray) (w : World) (R : SRow w a n l) (R2 : SRow w b m r) (hl : szs l) (hr : szs r) (hn : n ≤ 1000000) (hm : m ≤ 1000000) :
  Calls Tryz.prog 78 #[.slice a n c, .slice b m d] w fun e w' => e = .returned (.int .i64 (ord (tls l) (tls r))) ∧ ∃ n, w' = w.drewN n := by
 have hle := fun W => rlength_any n m W
 have HR : Hid _ := And.intro R (And.intro R2 (And.intro hl hr))
 have e1 := R.len_eq
 have e2 := R2.len_eq
 have HE : Hid _ := And.intro e1 e2
 clear R R2 hl hr e1 e2
 go_enter Tryz.func78, Tryz.ntmps78
 go_wp2
 go_loopw [5] (fun i wr => ∃ k : Nat, k ≤ n ∧ k ≤ m ∧ i = .int .i64 k ∧ Hid (ord (tls l) (tls r) = ord ((tls l).drop k) ((tls r).drop k)) ∧ ∃ n, wr = w.drewN n) (fun i _ => n - (intOf i).toNat)
 case atStart => exact ⟨0, Nat.zero_le _, Nat.zero_le _, rfl, rfl, 0, rfl⟩
 case round =>
  obtain ⟨k, h1, h2, rfl, HC, t, rfl⟩ := hrel
  by_cases h3 : k < n
  ·by_cases h4 : k < m
   ·have hc := HC.out
    rw [tls_drop (l := l) (i := k) (by rw [HE.out.1]; exact h3), tls_drop (l := r) (i := k) (by rw [HE.out.2]; exact h4), ord_cons] at hc
    obtain ⟨b1, o1, rfl, c1⟩ := HR.out.1.cells (by omega)
    obtain ⟨b2, o2, rfl, c2⟩ := HR.out.2.1.cells (by omega)
    have hx := c1 k h3
    have hy := c2 k h4
    have hs := HR.out.2.2.1 k
    have ht := HR.out.2.2.2 k
    generalize l.getD k ⟨#[]⟩ = x at *
    generalize r.getD k ⟨#[]⟩ = y at *
    have htx := fun W => rtext_any x y W hs ht
    have HD : Hid _ := hc
    clear hc HC c1 c2 hs ht
    have h3i : (k : Int) < n := by omega
    have h4i : (k : Int) < m := by omega
    have hx' : (w.drewN t).cell? ⟨b1, o1 + k, none⟩ = some (.string x) := by simpa using hx
    have hy' : (w.drewN t).cell? ⟨b2, o2 + k, none⟩ = some (.string y) := by simpa using hy
    clear hx hy
    generalize hWW : w.drewN t = W0 at *
    have HW : Hid _ := hWW
    clear hWW
    generalize ctx x.toList y.toList = C at *
    by_cases hC : C = 0
    ·have HV : Hid (ord (tls l) (tls r) = ord ((tls l).drop (k + 1)) ((tls r).drop (k + 1))) := by
      show ord (tls l) (tls r) = _
      rw [HD.out, if_neg (by simp [hC])]
     clear HD
     subst hC
     go_wp2
     go_quiet ((go_at_call 106; exact Calls.quiet_of (htx _)))
     go_wp2
     exact ⟨⟨k + 1, by omega, by omega, by go_num, HV, t + nq, by rw [← HW.out, dd]⟩, by simp [intOf]; omega⟩
    ·have HV : Hid (ord (tls l) (tls r) = C) := by
      show ord (tls l) (tls r) = _
      rw [HD.out, if_pos hC]
     have hC2 : (C == 0) = false := by simpa using hC
     clear HD hC
     go_wp2
     go_quiet ((go_at_call 106; exact Calls.quiet_of (htx _)))
     go_wp2
     go_ret
     exact ⟨by rw [HV.out]; rfl, t + nq, by rw [← HW.out, dd]⟩
   ·have HV : Hid (ord (tls l) (tls r) = lcp n m) := by
     show ord (tls l) (tls r) = _
     have e5 : (tls r).drop k = [] := List.drop_eq_nil_of_le (by rw [tls_len, HE.out.2]; omega)
     rw [HC.out, ord_len _ _ (Or.inr e5), List.length_drop, List.length_drop, tls_len, tls_len, HE.out.1, HE.out.2]
     have a1 : ((n - k : Nat) : Int) = n - k := by omega
     have a2 : ((m - k : Nat) : Int) = m - k := by omega
     rw [a1, a2, lcp_sub]
    clear HC
    go_wp2_with (go_at_call 107; refine (hle _).mono ?_; rintro e w' ⟨rfl, rfl⟩)
    go_ret
    exact ⟨by rw [HV.out]; rfl, _, rfl⟩
  ·have HV : Hid (ord (tls l) (tls r) = lcp n m) := by
    show ord (tls l) (tls r) = _
    have e5 : (tls l).drop k = [] := List.drop_eq_nil_of_le (by rw [tls_len, HE.out.1]; omega)
    rw [HC.out, ord_len _ _ (Or.inl e5), List.length_drop, List.length_drop, tls_len, tls_len, HE.out.1, HE.out.2]
    have a1 : ((n - k : Nat) : Int) = n - k := by omega
    have a2 : ((m - k : Nat) : Int) = m - k := by omega
    rw [a1, a2, lcp_sub]
   clear HC
   go_wp2_with (go_at_call 107; refine (hle _).mono ?_; rintro e w' ⟨rfl, rfl⟩)
   go_ret
   exact ⟨by rw [HV.out]; rfl, _, rfl⟩
def tx (l : Tx) : ByteArray := ⟨l.toArray⟩
theorem tx_tl (l : Tx) : (tx l).toList = l := ByteArray.toList_mk l
theorem tl_tx (s : ByteArray) : tx s.toList = s := tl_inj (tx_tl _)
def txs (l : List Tx) : List ByteArray := l.map tx
theorem tls_txs (l : List Tx) : tls (txs l) = l := by unfold tls txs; rw [List.map_map]; conv => rhs; rw [← List.map_id l]
                                                      apply List.map_congr_left; intro x _; exact tx_tl x
def sv (l : List ByteArray) : List Value := l.map Value.string
theorem sv_len (l : List ByteArray) : (sv l).length = l.length := by simp [sv]
theorem sv_app (a b : List ByteArray) : sv (a ++ b) = sv a ++ sv b := by simp [sv]
theorem sv_one (l : List ByteArray) : ∀ v ∈ sv l, v.oneCell' = true := by
 intro v hv
 obtain ⟨s, _, rfl⟩ := List.mem_map.1 hv
 rfl
theorem extract_tx (s : ByteArray) (f i : Nat) : s.extract f i = tx ((s.toList.drop f).take (i - f)) := by
 conv => lhs; rw [← tl_tx s]
 exact ByteArray.extract_mk _ _ _
theorem cutS_cat (a b : Tx) : cutS (a ++ 47 :: b) = cutS a ++ cutS b := by
 induction a with
 | nil => simp [cutS]
 | cons c r ih =>
  rw [List.cons_append, cutS.eq_2, cutS.eq_2, ih]
  by_cases hc : c = 47
  ·simp [hc]
  ·rw [if_neg hc, if_neg hc]
   cases h : cutS r with
   | nil => exact absurd h (cutS_ne r)
   | cons p ps => simp
theorem cutS_len (l : Tx) : (cutS l).length ≤ l.length + 1 := by
 induction l with
 | nil => simp [cutS]
 | cons c r ih =>
  rw [cutS.eq_2]
  split
  ·simp only [List.length_cons]; omega
  ·split
   ·simp
   ·rename_i h
    rw [h] at ih
    simp only [List.length_cons] at *
    omega
theorem cell_one_newV (w : World) (t : TypeId) (v : Value) (j : Nat) (u : Value) (h : ([v])[j]? = some u) : (w.alloc (.cells #[v] t)).cell? ((⟨w.heap.size, 0, none⟩ : Addr).add j) = some u := by
 cases j with
 | zero =>
  simp at h
  subst h
  simp [Addr.add]
 | succ j => simp at h
theorem grown_tr {a b c : World} {row : Option Nat} (h : a.grownBy b row) (k : b.grownBy c row) : a.grownBy c row :=
 ⟨k.os.trans h.os, k.tape.trans h.tape, k.output.trans h.output, Nat.le_trans h.size k.size, fun x hx hr => (k.block x (Nat.lt_of_lt_of_le hx h.size) hr).trans (h.block x hx hr)⟩
theorem grown_own9 {a b c : World} {base t : Nat} {v : Value} {n : Nat} {xs : List Value} (h : a.grownBy b none) (ho : b.ownsRow base t 1 v n xs) (k : b.grownBy c v.ownBlock) (hb : a.heap.size ≤ base) : a.grownBy c none :=
 ⟨k.os.trans h.os, k.tape.trans h.tape, k.output.trans h.output, Nat.le_trans h.size k.size, fun x hx _ => (k.block x (Nat.lt_of_lt_of_le hx h.size) (fun e => by have := (ho.lt x e.symm).1; omega)).trans (h.block x hx (by simp))⟩
theorem filt (ps : List Tx) (q : Tx) : (ps ++ [q]).filter kept = ps.filter kept ++ (if kept q = true then [q] else []) := by
 rw [List.filter_append]
 cases h : kept q <;> simp [h]
theorem keptx {x : ByteArray} {q : Tx} (h : x.toList = q) : kept q = (!(x.toList == []) && !(x.toList == [46])) := by subst h; rfl
theorem owns_srow {w : World} {base : Nat} {v : Value} {n : Nat} {l : List ByteArray} (h : w.ownsRow base 9 1 v n (sv l)) : ∃ a c, v = .slice a n c ∧ SRow w a n l ∧ n ≤ c ∧ c ≤ maxLen := by
 have hn : l.length = n := by have := h.1; rw [sv_len] at this; omega
 rcases h.2 with ⟨rfl, rfl⟩ | ⟨g, cap, cur, rfl, _, hg, hc, hm, hs, ht⟩
 ·exact ⟨none, 0, rfl, ⟨hn, fun h => by omega⟩, Nat.le_refl _, Nat.zero_le _⟩
 ·refine ⟨_, cap, rfl, ⟨hn, fun _ => ⟨g, 0, rfl, fun i hi => ?_⟩⟩, hc, hm⟩
  have e : w.cell? ⟨g, 0 + i, none⟩ = cur[i]? := by simp [World.cell?, hg]
  have e2 : (sv l)[i]? = some (.string (l.getD i ⟨#[]⟩)) := by simp [sv, List.getElem?_eq_getElem (show i < l.length by omega)]
  rw [e, ← e2, ← ht, List.getElem?_take, if_pos (by omega), Array.getElem?_toList]
theorem Tryz.info9 : (Tryz.prog.info? 9).map (fun i => (i.zero, i.size, i.bytes)) = some (some (.string ⟨#[]⟩), 1, 16) := by kernel_rfl
def SpPost (w : World) (r : List Tx × Int) (e : Ending) (w' : World) : Prop := ∃ a n c, e = .returned (.tuple #[.slice a n c, .int .i64 r.2]) ∧ w'.ownsRow w.heap.size 9 1 (.slice a n c) n (sv (txs r.1)) ∧ w.grownBy w' none
def sp2 (L : Tx) : List Tx × Int := if (cutS L).any longP then ([], 1) else if 128 < ((cutS L).filter kept).length then ([], 3) else ((cutS L).filter kept, 0)
def Cu (L : Tx) (sz i f : Nat) (ps : List Tx) : Prop := ((i ≤ sz ∧ f ≤ i ∧ cutS (L.take i) = ps ++ [(L.drop f).take (i - f)]) ∨ (i = sz + 1 ∧ f = i ∧ cutS L = ps)) ∧ ps.any longP = false
set_option maxHeartbeats 2000000 in
theorem rsplit_main (s : ByteArray) (w : World) (hs : s.size ≤ 4096) (h0 : s.toList.any (· == 0) = false) : Calls Tryz.prog 77 #[.string s] w (SpPost w (sp2 s.toList)) := by
 obtain ⟨i9, hi, hz0, hz1, hz2⟩ := info_parts Tryz.info9
 have g1 : ¬ (4096 : Int) < s.size := by omega
 have HZ : Hid _ := h0
 clear h0
 go_enter Tryz.func77, Tryz.ntmps77
 go_wp2
 go_loop [4] (fun i => ∃ k : Nat, k ≤ s.size ∧ i = .int .i64 k) (fun i => s.size - (intOf i).toNat)
 case atStart => exact ⟨0, Nat.zero_le _, rfl⟩
 case round =>
  obtain ⟨k, hk, rfl⟩ := hrel
  by_cases hlt : k < s.size
  ·have hb : ((s[k].toNat : Int) == 0) = false := by
    rw [beq_eq_false_iff_ne]
    intro e
    have h1 := HZ.out
    rw [List.any_eq_false] at h1
    have h2 := h1 s[k] (by rw [← tl_get hlt]; exact List.getElem_mem _)
    apply h2
    have e2 : s[k] = 0 := by apply UInt8.toNat_inj.1; show s[k].toNat = 0; omega
    rw [e2]; rfl
   go_wp2
   go_round
   case rel => exact ⟨k + 1, by omega, by go_num⟩
   case measure => simp [intOf]; omega
  ·go_wp2
   go_loopw [5, 6, 7] (fun vl vf vi wr => ∃ (i f : Nat) (ps : List Tx), vi = .int .i64 i ∧ vf = .int .i64 f ∧ i ≤ s.size + 1 ∧ Hid (Cu s.toList s.size i f ps) ∧ wr.ownsRow w.heap.size 9 1 vl ((ps.filter kept).length) (sv (txs (ps.filter kept))) ∧ w.grownBy wr none) (fun _ _ vi _ => s.size + 1 - (intOf vi).toNat)
   case atStart => exact ⟨0, 0, [], rfl, rfl, by omega, ⟨Or.inl ⟨Nat.zero_le _, Nat.le_refl _, by simp [cutS]⟩, rfl⟩, World.ownsRow_nil _ _ _ _, World.grownBy.refl _ _⟩
   case round =>
    obtain ⟨i, f, ps, rfl, rfl, hi1, HC, hown, hgr⟩ := hrel
    by_cases hin : i ≤ s.size
    ·have hc := HC.out
     obtain ⟨⟨h1, h2, h3⟩ | ⟨h1, h2, h3⟩, h4⟩ := hc
     ·have hfi : (f : Int) ≤ (i : Int) := by omega
      have hii : (i : Int) ≤ s.size := by omega
      have hex := extract_tx s f i
      have hql : ((s.toList.drop f).take (i - f)).length = i - f := by rw [List.length_take, List.length_drop, tl_len]; omega
      generalize hQ : (s.toList.drop f).take (i - f) = q at *
      have HQ : Hid _ := And.intro hQ (And.intro h3 (And.intro h4 hql))
      clear hQ h3 h4
      cases hcon : (decide (i < s.size) && !(byt s i == 47)) with
      | true =>
       rw [Bool.and_eq_true, decide_eq_true_eq, Bool.not_eq_true', beq_eq_false_iff_ne] at hcon
       obtain ⟨hlt2, hne⟩ := hcon
       have hb : ((s[i].toNat : Int) == 47) = false := by rw [beq_eq_false_iff_ne]; rw [byt_in hlt2]; omega
       have hne2 : s[i] ≠ 47 := fun e => hne (by rw [← byt_in hlt2, e]; rfl)
       have HN : Hid (Cu s.toList s.size (i + 1) f ps) := by
        refine ⟨Or.inl ⟨by omega, by omega, ?_⟩, HQ.out.2.2.1⟩
        rw [take_get hlt2, cutS_byte hne2 HQ.out.2.1, ← HQ.out.1, show i + 1 - f = i - f + 1 by omega]
        congr 2
        have hlen : i - f < (s.toList.drop f).length := by rw [List.length_drop, tl_len]; omega
        rw [List.take_succ_eq_append_getElem hlen, List.getElem_drop]
        congr 2
        rw [← tl_get hlt2]
        congr 1
        omega
       clear hne hne2 HQ hex hql HC
       go_wp2
       go_roundw
       case rel => exact ⟨i + 1, f, ps, by go_num, rfl, by omega, HN, hown, hgr⟩
       case measure => simp [intOf]; omega
      | false =>
       have hend : i = s.size ∨ ∃ h : i < s.size, s[i] = 47 := by
        rcases Nat.lt_or_ge i s.size with h | h
        ·right
         refine ⟨h, ?_⟩
         rw [Bool.and_eq_false_iff] at hcon
         rcases hcon with hcon | hcon
         ·simp at hcon; omega
         ·have : byt s i = 47 := by simpa using hcon
          apply UInt8.toNat_inj.1
          rw [byt_in h, this]; rfl
        ·left; omega
       have HT : Hid (∃ r : List Tx, cutS s.toList = ps ++ [q] ++ r) := by
        rcases hend with h | ⟨h, e⟩
        ·refine ⟨[], ?_⟩
         have := HQ.out.2.1
         rw [List.take_of_length_le (by rw [tl_len]; omega)] at this
         rw [this]; simp
        ·refine ⟨cutS (s.toList.drop (i + 1)), ?_⟩
         have e2 : s.toList = s.toList.take i ++ 47 :: s.toList.drop (i + 1) := by
          conv => lhs; rw [← List.take_append_drop i s.toList, drop_get h, e]
         have e3 := congrArg cutS e2
         rw [cutS_cat, HQ.out.2.1] at e3
         exact e3
       have HN : Hid (longP q = false → Cu s.toList s.size (i + 1) (i + 1) (ps ++ [q])) := by
        intro hlg
        refine ⟨?_, by rw [List.any_append, HQ.out.2.2.1]; simp [hlg]⟩
        rcases hend with h | ⟨h, e⟩
        ·refine Or.inr ⟨by omega, rfl, ?_⟩
         have := HQ.out.2.1
         rw [List.take_of_length_le (by rw [tl_len]; omega)] at this
         exact this
        ·refine Or.inl ⟨by omega, Nat.le_refl _, ?_⟩
         rw [take_get h, e, cutS_slash HQ.out.2.1, Nat.sub_self, List.take_zero]
       have HL : Hid _ := HQ.out.2.2.2
       have hxs : (tx q).size = i - f := by rw [← tl_len, tx_tl]; exact HL.out
       have hxl : (tx q).toList = q := tx_tl q
       generalize htx : tx q = x at *
       have HX : Hid _ := And.intro htx hxl
       cases hlg : longP q with
       | true =>
        have HV : Hid (sp2 s.toList = ([], 1)) := by
         show sp2 s.toList = ([], 1)
         obtain ⟨r, e⟩ := HT.out
         unfold sp2
         rw [e, if_pos (by rw [List.any_append, List.any_append]; simp [hlg])]
        have hbig : (255 : Int) < ((x.size : Nat) : Int) := by
         have : 255 < q.length := by unfold longP at hlg; simpa using hlg
         have := HL.out
         omega
        clear hlg hxl htx hql HT HN hcon
        have hcond : ¬ i < s.size ∨ ∃ h : i < s.size, s[i].toNat = 47 := hend.elim (fun h => Or.inl (by omega)) (fun ⟨h, e⟩ => Or.inr ⟨h, by rw [e]; rfl⟩)
        clear hend
        rcases hcond with hnl | ⟨hyl, he47⟩
        ·have hnli : ¬ (i : Int) < s.size := by omega
         go_wp2
         go_ret2
         rw [HV.out]
         exact ⟨_, _, _, rfl, World.ownsRow_nil _ _ _ _, hgr⟩
        ·have hb47 : ((s[i].toNat : Int) == 47) = true := by rw [he47]; rfl
         clear he47
         go_wp2
         go_ret2
         rw [HV.out]
         exact ⟨_, _, _, rfl, World.ownsRow_nil _ _ _ _, hgr⟩
       | false =>
        have HN2 : Hid (Cu s.toList s.size (i + 1) (i + 1) (ps ++ [q])) := HN.out hlg
        have hbig : ¬ (255 : Int) < ((x.size : Nat) : Int) := by
         have : ¬ 255 < q.length := by unfold longP at hlg; simpa using hlg
         have := HL.out
         omega
        have hpl : (ps.filter kept).length ≤ 4097 := by
         have h1 := List.length_filter_le kept ps
         have h2 := cutS_len (s.toList.take i)
         rw [HQ.out.2.1, List.length_append, List.length_take, tl_len] at h2
         simp at h2
         omega
        have hcond : ¬ i < s.size ∨ ∃ h : i < s.size, s[i].toNat = 47 := hend.elim (fun h => Or.inl (by omega)) (fun ⟨h, e⟩ => Or.inr ⟨h, by rw [e]; rfl⟩)
        have HK : Hid _ := keptx hxl
        have HF : Hid _ := filt ps q
        clear hlg hxl htx hql HT HN hcon hend HC HQ
        cases hke : kept q with
        | true =>
         have hk2 := HK.out
         rw [hke] at hk2
         have hx1 : (x.toList == []) = false := by cases h : (x.toList == []) <;> simp [h] at hk2 ⊢
         have hx2 : (x.toList == [46]) = false := by cases h : (x.toList == [46]) <;> simp [h] at hk2 ⊢
         clear hk2
         rcases hcond with hnl | ⟨hyl, he47⟩
         ·have hnli : ¬ (i : Int) < s.size := by omega
          go_wp2_with (at_builtin; (refine wpList_append_own _ rfl _ _ 104 rfl w.heap.size 9 i9 (.string ⟨#[]⟩) 1 16 Tryz.underlying104 hi hz0 hz1 hz2 rfl (by decide) _ _ _ rfl (hown.alloc _) ⟨wr.heap.size, 0, none⟩ 1 1 (sv [x]) rfl rfl ?c1 (sv_one _) ?c3 ?c4 ?c5 ?_))
          case c1 => first | exact cell_one_newV _ _ _ | exact fun j u h => h
          case c3 => unfold maxLen; omega
          case c4 => omega
          case c5 => have := hgr.size; simp; omega
          ·intro v' w1 hown' hgrow _
           have R : w1.ownsRow w.heap.size 9 1 v' (((ps ++ [q]).filter kept).length) (sv (txs ((ps ++ [q]).filter kept))) := by
            rw [HF.out, if_pos hke, List.length_append]
            unfold txs
            rw [List.map_append, sv_app]
            have : sv (List.map tx [q]) = sv [x] := by rw [← HX.out.1]; rfl
            rw [this]
            exact hown'
           have hg' : w.grownBy w1 none := grown_own9 (grown_tr hgr (World.grownBy_alloc wr _ none)) (hown.alloc _) hgrow (Nat.le_refl _)
           clear hown' hgrow hown hgr
           go_wp2
           go_roundw
           case rel => exact ⟨i + 1, i + 1, ps ++ [q], by go_num, by go_num, by omega, HN2, R, hg'⟩
           case measure => simp [intOf]; omega
         ·have hb47 : ((s[i].toNat : Int) == 47) = true := by rw [he47]; rfl
          clear he47
          go_wp2_with (at_builtin; (refine wpList_append_own _ rfl _ _ 104 rfl w.heap.size 9 i9 (.string ⟨#[]⟩) 1 16 Tryz.underlying104 hi hz0 hz1 hz2 rfl (by decide) _ _ _ rfl (hown.alloc _) ⟨wr.heap.size, 0, none⟩ 1 1 (sv [x]) rfl rfl ?c1 (sv_one _) ?c3 ?c4 ?c5 ?_))
          case c1 => first | exact cell_one_newV _ _ _ | exact fun j u h => h
          case c3 => unfold maxLen; omega
          case c4 => omega
          case c5 => have := hgr.size; simp; omega
          ·intro v' w1 hown' hgrow _
           have R : w1.ownsRow w.heap.size 9 1 v' (((ps ++ [q]).filter kept).length) (sv (txs ((ps ++ [q]).filter kept))) := by
            rw [HF.out, if_pos hke, List.length_append]
            unfold txs
            rw [List.map_append, sv_app]
            have : sv (List.map tx [q]) = sv [x] := by rw [← HX.out.1]; rfl
            rw [this]
            exact hown'
           have hg' : w.grownBy w1 none := grown_own9 (grown_tr hgr (World.grownBy_alloc wr _ none)) (hown.alloc _) hgrow (Nat.le_refl _)
           clear hown' hgrow hown hgr
           go_wp2
           go_roundw
           case rel => exact ⟨i + 1, i + 1, ps ++ [q], by go_num, by go_num, by omega, HN2, R, hg'⟩
           case measure => simp [intOf]; omega
        | false =>
         have hk2 := HK.out
         rw [hke] at hk2
         have hx12 : (x.toList == []) = true ∨ ((x.toList == []) = false ∧ (x.toList == [46]) = true) := by
          cases h : (x.toList == []) <;> simp [h] at hk2 ⊢
          simpa using hk2
         clear hk2
         rcases hx12 with hx1 | ⟨hx1, hx2⟩
         ·skip
          rcases hcond with hnl | ⟨hyl, he47⟩
          ·have hnli : ¬ (i : Int) < s.size := by omega
           have R : wr.ownsRow w.heap.size 9 1 u5 (((ps ++ [q]).filter kept).length) (sv (txs ((ps ++ [q]).filter kept))) := by
            rw [HF.out, if_neg (by rw [hke]; decide), List.append_nil]
            exact hown
           clear hown
           go_wp2
           go_roundw
           case rel => exact ⟨i + 1, i + 1, ps ++ [q], by go_num, by go_num, by omega, HN2, R, hgr⟩
           case measure => simp [intOf]; omega
          ·have hb47 : ((s[i].toNat : Int) == 47) = true := by rw [he47]; rfl
           clear he47
           have R : wr.ownsRow w.heap.size 9 1 u5 (((ps ++ [q]).filter kept).length) (sv (txs ((ps ++ [q]).filter kept))) := by
            rw [HF.out, if_neg (by rw [hke]; decide), List.append_nil]
            exact hown
           clear hown
           go_wp2
           go_roundw
           case rel => exact ⟨i + 1, i + 1, ps ++ [q], by go_num, by go_num, by omega, HN2, R, hgr⟩
           case measure => simp [intOf]; omega
         ·skip
          rcases hcond with hnl | ⟨hyl, he47⟩
          ·have hnli : ¬ (i : Int) < s.size := by omega
           have R : wr.ownsRow w.heap.size 9 1 u5 (((ps ++ [q]).filter kept).length) (sv (txs ((ps ++ [q]).filter kept))) := by
            rw [HF.out, if_neg (by rw [hke]; decide), List.append_nil]
            exact hown
           clear hown
           go_wp2
           go_roundw
           case rel => exact ⟨i + 1, i + 1, ps ++ [q], by go_num, by go_num, by omega, HN2, R, hgr⟩
           case measure => simp [intOf]; omega
          ·have hb47 : ((s[i].toNat : Int) == 47) = true := by rw [he47]; rfl
           clear he47
           have R : wr.ownsRow w.heap.size 9 1 u5 (((ps ++ [q]).filter kept).length) (sv (txs ((ps ++ [q]).filter kept))) := by
            rw [HF.out, if_neg (by rw [hke]; decide), List.append_nil]
            exact hown
           clear hown
           go_wp2
           go_roundw
           case rel => exact ⟨i + 1, i + 1, ps ++ [q], by go_num, by go_num, by omega, HN2, R, hgr⟩
           case measure => simp [intOf]; omega
     ·omega
    ·have hc := HC.out
     obtain ⟨⟨h1, h2, h3⟩ | ⟨h1, h2, h3⟩, h4⟩ := hc
     ·omega
     ·have hni : ¬ (i : Int) ≤ s.size := by omega
      have hsp : sp2 s.toList = if 128 < (ps.filter kept).length then ([], 3) else (ps.filter kept, 0) := by
       unfold sp2
       rw [h3, h4, if_neg (by decide)]
      have HS : Hid _ := hsp
      clear hsp h3 h4 HC h1 h2
      obtain ⟨a', c', rfl, -, -, -⟩ := owns_srow hown
      by_cases hm : 128 < (ps.filter kept).length
      ·have hmi : (128 : Int) < ((ps.filter kept).length : Nat) := by omega
       have HV : Hid (sp2 s.toList = ([], 3)) := by
        show sp2 s.toList = ([], 3)
        rw [HS.out, if_pos hm]
       generalize (ps.filter kept).length = nn at *
       clear HS hm
       go_wp2
       go_ret2
       rw [HV.out]
       exact ⟨_, _, _, rfl, World.ownsRow_nil _ _ _ _, hgr⟩
      ·have hmi : ¬ (128 : Int) < ((ps.filter kept).length : Nat) := by omega
       have HV : Hid (sp2 s.toList = (ps.filter kept, 0)) := by
        show sp2 s.toList = (ps.filter kept, 0)
        rw [HS.out, if_neg hm]
       have HO : Hid _ := hown
       generalize (ps.filter kept).length = nn at *
       clear HS hm hown
       go_wp2
       go_ret2
       rw [HV.out]
       exact ⟨_, _, _, rfl, HO.out, hgr⟩
theorem rsplit_any (s : ByteArray) (w : World) (hs : s.size ≤ 1000000) : Calls Tryz.prog 77 #[.string s] w (SpPost w (spl s.toList)) := by
 by_cases h1 : 4096 < s.size
 ·have e : spl s.toList = ([], 2) := by unfold spl; rw [if_pos (by rw [tl_len]; exact h1)]
  rw [e]
  have g1 : (4096 : Int) < s.size := by omega
  go_enter Tryz.func77, Tryz.ntmps77
  go_wp2
  go_ret2
  exact ⟨_, _, _, rfl, World.ownsRow_nil _ _ _ _, World.grownBy.refl _ _⟩
 ·cases h0 : s.toList.any (· == 0) with
  | false =>
   have e : spl s.toList = sp2 s.toList := by unfold spl sp2; rw [if_neg (by rw [tl_len]; exact h1), h0, if_neg (by decide)]
   rw [e]
   exact rsplit_main s w (by omega) h0
  | true =>
   have e : spl s.toList = ([], 6) := by unfold spl; rw [if_neg (by rw [tl_len]; exact h1), h0, if_pos rfl]
   rw [e]
   clear e
   have HZ : Hid _ := h0
   clear h0
   have g1 : ¬ (4096 : Int) < s.size := by omega
   go_enter Tryz.func77, Tryz.ntmps77
   go_wp2
   go_loop [4] (fun i => ∃ k : Nat, k ≤ s.size ∧ i = .int .i64 k ∧ Hid ((s.toList.drop k).any (· == 0) = true)) (fun i => s.size - (intOf i).toNat)
   case atStart => exact ⟨0, Nat.zero_le _, rfl, HZ⟩
   case round =>
    obtain ⟨k, hk, rfl, HD⟩ := hrel
    by_cases hlt : k < s.size
    ·have hd := HD.out
     rw [drop_get hlt, List.any_cons] at hd
     cases hb : ((s[k].toNat : Int) == 0) with
     | true =>
      clear hd HD
      go_wp2
      go_ret2
      exact ⟨_, _, _, rfl, World.ownsRow_nil _ _ _ _, World.grownBy.refl _ _⟩
     | false =>
      have hb2 : (s[k] == 0) = false := by
       rw [beq_eq_false_iff_ne] at hb ⊢
       intro e
       rw [e] at hb
       exact hb rfl
      rw [hb2, Bool.false_or] at hd
      have HD2 : Hid _ := hd
      clear hd HD hb2
      go_wp2
      go_round
      case rel => exact ⟨k + 1, by omega, by go_num, HD2⟩
      case measure => simp [intOf]; omega
    ·have hd := HD.out
     rw [List.drop_eq_nil_of_le (by rw [tl_len]; omega)] at hd
     exact absurd hd (by decide)
end Go.Proofs.YtlehncfehoelbaaGreatDoor
