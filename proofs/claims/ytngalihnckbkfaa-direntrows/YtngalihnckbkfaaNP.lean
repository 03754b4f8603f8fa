/- Names and paths, as plain functions over lists of bytes. -/
import Derived.WalkKit
namespace Go.Proofs.Ytngalihnckbkfaa
open Go.RowKit
set_option maxRecDepth 100000

/-- a text's bytes -/
abbrev Tx := List UInt8
/-- what stands between the slashes -/
def cutS : Tx → List Tx
  | [] => [[]]
  | c :: r => if c = 47 then [] :: cutS r else match cutS r with
    | [] => [[c]]
    | p :: ps => (c :: p) :: ps
theorem cutS_ne (l : Tx) : cutS l ≠ [] := by
  cases l with
  | nil => simp [cutS]
  | cons c r => unfold cutS; split; (· simp); split <;> simp
theorem cutS_slash {l : Tx} {ps : List Tx} {q : Tx} (h : cutS l = ps ++ [q]) : cutS (l ++ [47]) = ps ++ [q] ++ [[]] := by
  induction l generalizing ps q with
  | nil =>
    simp [cutS] at h
    have : ps = [] ∧ q = [] := by
      cases ps with
      | nil => simp at h; exact ⟨rfl, h⟩
      | cons a b => simp at h
    obtain ⟨rfl, rfl⟩ := this
    simp [cutS]
  | cons c r ih =>
    simp only [List.cons_append]
    unfold cutS at h ⊢
    by_cases hc : c = 47
    · rw [if_pos hc] at h ⊢
      cases ps with
      | nil => simp at h; exact absurd h.2 (cutS_ne r)
      | cons a b =>
        simp only [List.cons_append, List.cons.injEq] at h
        rw [ih h.2, ← h.1]
        simp
    · rw [if_neg hc] at h ⊢
      cases hr : cutS r with
      | nil => exact absurd hr (cutS_ne r)
      | cons p t =>
        rw [hr] at h
        simp only at h
        cases ps with
        | nil =>
          simp only [List.nil_append, List.cons.injEq] at h
          obtain ⟨h1, h2⟩ := h
          subst h2
          have := ih (ps := []) (q := p) (by rw [hr]; rfl)
          rw [this, ← h1]
          simp
        | cons a b =>
          simp only [List.cons_append, List.cons.injEq] at h
          obtain ⟨h1, h2⟩ := h
          have := ih (ps := p :: b) (q := q) (by rw [hr, h2]; rfl)
          rw [this, ← h1]
          simp
theorem cutS_byte {l : Tx} {ps : List Tx} {q : Tx} {c : UInt8} (hc : c ≠ 47) (h : cutS l = ps ++ [q]) : cutS (l ++ [c]) = ps ++ [q ++ [c]] := by
  induction l generalizing ps q with
  | nil =>
    simp [cutS] at h
    have : ps = [] ∧ q = [] := by
      cases ps with
      | nil => simp at h; exact ⟨rfl, h⟩
      | cons a b => simp at h
    obtain ⟨rfl, rfl⟩ := this
    simp [cutS, hc]
  | cons d r ih =>
    simp only [List.cons_append]
    unfold cutS at h ⊢
    by_cases hd : d = 47
    · rw [if_pos hd] at h ⊢
      cases ps with
      | nil => simp at h; exact absurd h.2 (cutS_ne r)
      | cons a b =>
        simp only [List.cons_append, List.cons.injEq] at h
        rw [ih h.2, ← h.1]
        simp
    · rw [if_neg hd] at h ⊢
      cases hr : cutS r with
      | nil => exact absurd hr (cutS_ne r)
      | cons p t =>
        rw [hr] at h
        simp only at h
        cases ps with
        | nil =>
          simp only [List.nil_append, List.cons.injEq] at h
          obtain ⟨h1, h2⟩ := h
          subst h2
          have := ih (ps := []) (q := p) (by rw [hr]; rfl)
          rw [this, ← h1]
          simp
        | cons a b =>
          simp only [List.cons_append, List.cons.injEq] at h
          obtain ⟨h1, h2⟩ := h
          have := ih (ps := p :: b) (q := q) (by rw [hr, h2]; rfl)
          rw [this, ← h1]
          simp
/-- is a piece kept? -/
def kept (p : Tx) : Bool := !(p == []) && !(p == [46])
def longP (p : Tx) : Bool := decide (255 < p.length)
/-- Split -/
def spl (l : Tx) : List Tx × Int :=
  if 4096 < l.length then ([], 2) else if l.any (· == 0) then ([], 6) else if (cutS l).any longP then ([], 1) else if 128 < ((cutS l).filter kept).length then ([], 3) else ((cutS l).filter kept, 0)
/-- Valid -/
def vld (p : Tx) : Bool := decide (1 ≤ p.length) && decide (p.length ≤ 255) && !(p == [46]) && !(p == [46, 46]) && !(p.any fun c => c == 47 || c == 0)
/-- may a part be joined? -/
def prt (p : Tx) : Bool := (p == [46, 46]) || vld p
/-- the parts with a slash between them -/
def joi : List Tx → Tx
  | [] => []
  | [p] => p
  | p :: q :: r => p ++ 47 :: joi (q :: r)
/-- Join -/
def jnp (l : List Tx) : Tx × Int :=
  if 128 < l.length then ([], 3) else if l.any (fun p => !prt p) then ([], 1) else if 4096 < (joi l).length then ([], 2) else (joi l, 0)
theorem joi_snoc (l : List Tx) (p : Tx) (h : l ≠ []) : joi (l ++ [p]) = joi l ++ 47 :: p := by
  induction l with
  | nil => exact absurd rfl h
  | cons a r ih =>
    cases r with
    | nil => rfl
    | cons b t =>
      simp only [List.cons_append, joi]
      have := ih (by simp)
      simp only [List.cons_append] at this
      rw [this]
      simp
/-- a part without slashes -/
theorem cutS_pure {p : Tx} (h : ∀ c ∈ p, c ≠ 47) : cutS p = [p] := by
  induction p with
  | nil => rfl
  | cons c r ih =>
    unfold cutS
    rw [if_neg (h c (List.mem_cons_self ..)), ih (fun d hd => h d (List.mem_cons_of_mem _ hd))]
theorem cutS_app {p : Tx} (h : ∀ c ∈ p, c ≠ 47) (r : Tx) : cutS (p ++ 47 :: r) = p :: cutS r := by
  induction p with
  | nil => simp [cutS]
  | cons c t ih =>
    rw [List.cons_append, cutS.eq_2, if_neg (h c (List.mem_cons_self ..)), ih (fun d hd => h d (List.mem_cons_of_mem _ hd))]
theorem cutS_joi {l : List Tx} (hl : l ≠ []) (h : ∀ p ∈ l, ∀ c ∈ p, c ≠ 47) : cutS (joi l) = l := by
  induction l with
  | nil => exact absurd rfl hl
  | cons p r ih =>
    cases r with
    | nil => exact cutS_pure (h p (List.mem_cons_self ..))
    | cons q t =>
      unfold joi
      rw [cutS_app (h p (List.mem_cons_self ..)), ih (by simp) (fun x hx => h x (List.mem_cons_of_mem _ hx))]
theorem prt_facts {p : Tx} (h : prt p = true) : (∀ c ∈ p, c ≠ 47 ∧ c ≠ 0) ∧ kept p = true ∧ p.length ≤ 255 := by
  unfold prt at h
  rw [Bool.or_eq_true] at h
  rcases h with h | h
  · have e : p = [46, 46] := by simpa using h
    subst e
    decide
  · unfold vld at h
    simp only [Bool.and_eq_true, Bool.not_eq_true', decide_eq_true_eq] at h
    obtain ⟨⟨⟨⟨h1, h2⟩, h3⟩, h4⟩, h5⟩ := h
    refine ⟨fun c hc => ?_, ?_, h2⟩
    · rw [List.any_eq_false] at h5
      have := h5 c hc
      simp at this
      exact this
    · unfold kept
      rw [h3]
      have : (p == []) = false := by cases p with
        | nil => simp at h1
        | cons => rfl
      rw [this]; rfl
theorem joi_mem {l : List Tx} {c : UInt8} (h : c ∈ joi l) : c = 47 ∨ ∃ p ∈ l, c ∈ p := by
  induction l with
  | nil => simp [joi] at h
  | cons p r ih =>
    cases r with
    | nil => exact Or.inr ⟨p, List.mem_cons_self .., h⟩
    | cons q t =>
      unfold joi at h
      rcases List.mem_append.1 h with h | h
      · exact Or.inr ⟨p, List.mem_cons_self .., h⟩
      · rcases List.mem_cons.1 h with h | h
        · exact Or.inl h
        · rcases ih h with h | ⟨x, hx, hc⟩
          · exact Or.inl h
          · exact Or.inr ⟨x, List.mem_cons_of_mem _ hx, hc⟩
/-- what is joined is split into the same -/
theorem spl_joi {l : List Tx} (h : (jnp l).2 = 0) : spl (jnp l).1 = (l, 0) := by
  unfold jnp at h ⊢
  by_cases h1 : 128 < l.length
  · rw [if_pos h1] at h; exact absurd h (by decide)
  rw [if_neg h1] at h ⊢
  by_cases h2 : (l.any fun p => !prt p) = true
  · rw [if_pos h2] at h; exact absurd h (by decide)
  rw [if_neg h2] at h ⊢
  by_cases h3 : 4096 < (joi l).length
  · rw [if_pos h3] at h; exact absurd h (by decide)
  rw [if_neg h3]
  have hp : ∀ p ∈ l, prt p = true := fun p hp => by
    cases e : prt p with
    | true => rfl
    | false => exact absurd (List.any_eq_true.2 ⟨p, hp, by rw [e]; rfl⟩) h2
  simp only
  unfold spl
  rw [if_neg h3]
  have h0 : (joi l).any (· == 0) = false := by
    rw [List.any_eq_false]
    intro c hc e
    have e : c = 0 := by simpa using e
    rcases joi_mem hc with h | ⟨p, hpl, hcp⟩
    · rw [e] at h; exact absurd h (by decide)
    · exact ((prt_facts (hp p hpl)).1 c hcp).2 e
  rw [h0, if_neg (by decide)]
  cases l with
  | nil => rfl
  | cons p r =>
    rw [cutS_joi (by simp) (fun p hpl c hc => ((prt_facts (hp p hpl)).1 c hc).1)]
    have hl : (p :: r).any longP = false := by
      rw [List.any_eq_false]
      intro q hq e
      have := (prt_facts (hp q hq)).2.2
      unfold longP at e
      simp at e
      omega
    have hf : (p :: r).filter kept = p :: r := List.filter_eq_self.2 fun q hq => (prt_facts (hp q hq)).2.1
    rw [hl, if_neg (by decide), hf, if_neg h1]
/-- the order of two texts, byte by byte -/
def ctx : Tx → Tx → Int
  | [], [] => 0
  | [], _ :: _ => -1
  | _ :: _, [] => 1
  | a :: r, b :: t => if a < b then -1 else if b < a then 1 else ctx r t
/-- Order -/
def ord : List Tx → List Tx → Int
  | [], [] => 0
  | [], _ :: _ => -1
  | _ :: _, [] => 1
  | a :: r, b :: t => if ctx a b ≠ 0 then ctx a b else ord r t
theorem ctx_self (a : Tx) : ctx a a = 0 := by
  induction a with
  | nil => rfl
  | cons c r ih => unfold ctx; rw [if_neg (UInt8.lt_irrefl c), if_neg (UInt8.lt_irrefl c), ih]
theorem ctx_eq {a b : Tx} (h : ctx a b = 0) : a = b := by
  induction a generalizing b with
  | nil => cases b with
    | nil => rfl
    | cons d t => simp [ctx] at h
  | cons c r ih =>
    cases b with
    | nil => simp [ctx] at h
    | cons d t =>
      unfold ctx at h
      split at h
      · simp at h
      · split at h
        · simp at h
        · rename_i h1 h2
          rw [ih h]
          congr 1
          exact UInt8.le_antisymm (UInt8.not_lt.1 h2) (UInt8.not_lt.1 h1)
theorem ctx_flip (a b : Tx) : ctx b a = - ctx a b := by
  induction a generalizing b with
  | nil => cases b <;> rfl
  | cons c r ih =>
    cases b with
    | nil => rfl
    | cons d t =>
      unfold ctx
      by_cases h1 : c < d
      · have h2 : ¬ d < c := fun h => UInt8.lt_asymm h1 h
        simp [h1, h2]
      · by_cases h2 : d < c
        · simp [h1, h2]
        · simp [h1, h2, ih]
theorem ctx_val (a b : Tx) : ctx a b = -1 ∨ ctx a b = 0 ∨ ctx a b = 1 := by
  induction a generalizing b with
  | nil => cases b <;> simp [ctx]
  | cons c r ih =>
    cases b with
    | nil => simp [ctx]
    | cons d t =>
      unfold ctx
      split
      · simp
      · split
        · simp
        · exact ih t
theorem ctx_trans {a b c : Tx} (h : ctx a b = -1) (k : ctx b c = -1) : ctx a c = -1 := by
  induction a generalizing b c with
  | nil =>
    cases c with
    | nil => cases b <;> simp [ctx] at k
    | cons => rfl
  | cons x r ih =>
    cases b with
    | nil => simp [ctx] at h
    | cons y t =>
      cases c with
      | nil => simp [ctx] at k
      | cons z u =>
        unfold ctx at h k ⊢
        by_cases h1 : x < y
        · by_cases k1 : y < z
          · rw [if_pos (UInt8.lt_trans h1 k1)]
          · rw [if_neg k1] at k
            by_cases k2 : z < y
            · rw [if_pos k2] at k; simp at k
            · have e : y = z := UInt8.le_antisymm (UInt8.not_lt.1 k2) (UInt8.not_lt.1 k1)
              subst e
              rw [if_pos h1]
        · rw [if_neg h1] at h
          by_cases h2 : y < x
          · rw [if_pos h2] at h; simp at h
          · rw [if_neg h2] at h
            have e : x = y := UInt8.le_antisymm (UInt8.not_lt.1 h2) (UInt8.not_lt.1 h1)
            subst e
            by_cases k1 : x < z
            · rw [if_pos k1]
            · rw [if_neg k1] at k ⊢
              by_cases k2 : z < x
              · rw [if_pos k2] at k; simp at k
              · rw [if_neg k2] at k ⊢
                exact ih h k
theorem ord_self (a : List Tx) : ord a a = 0 := by
  induction a with
  | nil => rfl
  | cons c r ih => unfold ord; rw [ctx_self, if_neg (by simp), ih]
theorem ord_eq {a b : List Tx} (h : ord a b = 0) : a = b := by
  induction a generalizing b with
  | nil => cases b with
    | nil => rfl
    | cons d t => simp [ord] at h
  | cons c r ih =>
    cases b with
    | nil => simp [ord] at h
    | cons d t =>
      unfold ord at h
      by_cases e : ctx c d = 0
      · rw [if_neg (by simp [e])] at h
        rw [ih h, ctx_eq e]
      · rw [if_pos e] at h; exact absurd h e
theorem ord_flip (a b : List Tx) : ord b a = - ord a b := by
  induction a generalizing b with
  | nil => cases b <;> rfl
  | cons c r ih =>
    cases b with
    | nil => rfl
    | cons d t =>
      unfold ord
      rw [ctx_flip c d]
      by_cases e : ctx c d = 0
      · simp [e, ih]
      · simp [e]
theorem ord_val (a b : List Tx) : ord a b = -1 ∨ ord a b = 0 ∨ ord a b = 1 := by
  induction a generalizing b with
  | nil => cases b <;> simp [ord]
  | cons c r ih =>
    cases b with
    | nil => simp [ord]
    | cons d t =>
      unfold ord
      split
      · exact ctx_val c d
      · exact ih t
theorem ord_trans {a b c : List Tx} (h : ord a b = -1) (k : ord b c = -1) : ord a c = -1 := by
  induction a generalizing b c with
  | nil =>
    cases c with
    | nil => cases b <;> simp [ord] at k
    | cons => rfl
  | cons x r ih =>
    cases b with
    | nil => simp [ord] at h
    | cons y t =>
      cases c with
      | nil => simp [ord] at k
      | cons z u =>
        unfold ord at h k ⊢
        by_cases e1 : ctx x y = 0
        · have := ctx_eq e1
          subst this
          rw [if_neg (by simp [e1])] at h
          by_cases e2 : ctx x z = 0
          · rw [if_neg (by simp [e2])] at k ⊢; exact ih h k
          · rw [if_pos e2] at k ⊢; exact k
        · rw [if_pos e1] at h
          by_cases e2 : ctx y z = 0
          · have := ctx_eq e2
            subst this
            rw [if_pos e1]; exact h
          · rw [if_pos e2] at k
            have := ctx_trans h k
            rw [if_pos (by rw [this]; decide), this]
theorem ord_snoc (a : List Tx) (p : Tx) : ord a (a ++ [p]) = -1 := by
  induction a with
  | nil => rfl
  | cons c r ih => simp only [List.cons_append]; unfold ord; rw [ctx_self, if_neg (by simp), ih]
end Go.Proofs.Ytngalihnckbkfaa
