/- A folder's names out of bytes, plain: what bytes tell; there and back. -/
import Derived.Test.YtngalihnckbkfaaEK
import Derived.Test.YtngalihnckbkfaaEN
namespace Go.Proofs.Ytngalihnckbkfaa
open Go.RowKit
set_option maxRecDepth 100000
set_option linter.unusedSimpArgs false
set_option linter.unusedVariables false
theorem nums_str16 {xs : List Int} (h : Byt xs) : nums (strOfNums xs) = xs := by
  unfold nums
  have e := str_toList xs
  rw [ByteArray.toList_eq] at e
  rw [e, List.map_map]
  have : ∀ x ∈ xs, ((fun c : UInt8 => (c.toNat : Int)) ∘ fun n : Int => UInt8.ofNat n.toNat) x = x := fun x hx => by
    have := h x hx
    simp only [Function.comp]
    have e2 : (UInt8.ofNat x.toNat).toNat = x.toNat % 256 := by simp
    rw [e2]
    omega
  conv => rhs; rw [← List.map_id xs]
  exact List.map_congr_left (fun x hx => by rw [this x hx]; rfl)
theorem nums_inj16 {s t : ByteArray} (h : nums s = nums t) : s = t := by
  unfold nums at h
  have h2 : s.data.toList = t.data.toList := by
    exact (List.map_inj_right (fun a b e => UInt8.toNat_inj.1 (by omega))).1 h
  cases s; cases t
  simp only at h2
  congr 1
  exact Array.toList_inj.1 h2
theorem str_size16 (xs : List Int) : (strOfNums xs).size = xs.length := by
  rw [← nums_len]
  unfold nums
  have e := str_toList xs
  rw [ByteArray.toList_eq] at e
  rw [List.length_map, e, List.length_map]
theorem str_nums16 (s : ByteArray) : strOfNums (nums s) = s := nums_inj16 (nums_str16 (nums_byt s))
/-- so many names from a place on, as far as they are there, and where the last one ends, if all are -/
def kdT (f : Int) (bs : List Int) : Nat → Nat → List Kx × Option Nat
  | 0, p => ([], some p)
  | n + 1, p =>
    if p + 3 + (le ((bs.drop (p + 2)).take 1)).toNat ≤ bs.length then
      (⟨strOfNums ((bs.drop (p + 3)).take (le ((bs.drop (p + 2)).take 1)).toNat), f + le ((bs.drop p).take 2)⟩ :: (kdT f bs n (p + 3 + (le ((bs.drop (p + 2)).take 1)).toNat)).1, (kdT f bs n (p + 3 + (le ((bs.drop (p + 2)).take 1)).toNat)).2)
    else ([], none)
/-- a row's names from a place on -/
def rwT (bs : List Int) (p : Nat) : List Kx × Option Nat := kdT (le ((bs.drop (p + 2)).take 4)) bs (le ((bs.drop p).take 2)).toNat (p + 6)
/-- the names that bytes tell, up to the first that is not there -/
def tldT (bs : List Int) : Nat → Nat → List Kx
  | 0, _ => []
  | n + 1, p =>
    if p + 6 ≤ bs.length then
      match (rwT bs p).2 with
      | some q => (rwT bs p).1 ++ tldT bs n q
      | none => (rwT bs p).1
    else []
/-- the names of bytes that are rows to their end -/
def dcT (bs : List Int) : Nat → Nat → Option (List Kx)
  | 0, _ => none
  | n + 1, p =>
    if bs.length ≤ p then some []
    else if p + 6 ≤ bs.length then
      match (rwT bs p).2 with
      | some q => (dcT bs n q).map ((rwT bs p).1 ++ ·)
      | none => none
    else none
theorem kdT_le {f : Int} {bs : List Int} : ∀ (n p : Nat) {q : Nat}, (kdT f bs n p).2 = some q → p ≤ bs.length → p ≤ q ∧ q ≤ bs.length
  | 0, p, q, h, hp => by rw [kdT] at h; injection h with h; omega
  | n + 1, p, q, h, hp => by
    rw [kdT] at h
    split at h
    · rename_i c
      have := kdT_le n _ h c
      omega
    · cases h
theorem rwT_le {bs : List Int} {p q : Nat} (h : (rwT bs p).2 = some q) (hp : p + 6 ≤ bs.length) : p + 6 ≤ q ∧ q ≤ bs.length := kdT_le _ _ h hp
theorem dcT_tld {bs : List Int} : ∀ (n p : Nat) {l : List Kx}, dcT bs n p = some l → tldT bs n p = l
  | 0, p, l, h => by cases h
  | n + 1, p, l, h => by
    rw [dcT] at h
    rw [tldT]
    split at h
    · rw [if_neg (by omega)]
      injection h
    · split at h
      · rename_i c
        rw [if_pos c]
        split at h
        · rename_i q e
          obtain ⟨m, hm, e2⟩ := Option.map_eq_some_iff.1 h
          rw [dcT_tld n q hm]
          exact e2
        · cases h
      · cases h
theorem take_drop_at {bs pre x y : List Int} (h : bs = pre ++ (x ++ y)) : (bs.drop pre.length).take x.length = x := by
  rw [h, List.drop_left, List.take_left]
theorem le1_16 (x : Int) : le [x] = x := by simp [le]
theorem kdT_enc (f : Int) (bs : List Int) : ∀ (r : List Kx) (pre post : List Int), (∀ k ∈ r, k.nm.size ≤ 255 ∧ f ≤ k.io ∧ k.io - f < 65536) → bs = pre ++ ((r.map (kidB f)).flatten ++ post) → kdT f bs r.length pre.length = (r, some (pre.length + ((r.map (kidB f)).flatten).length))
  | [], pre, post, _, _ => rfl
  | k :: r, pre, post, hk, e => by
    obtain ⟨h1, h2, h3⟩ := hk k (List.mem_cons_self ..)
    have ek : kidB f k = sto (k.io - f) 2 ++ ([((k.nm.size : Nat) : Int)] ++ nums k.nm) := rfl
    rw [List.map_cons, List.flatten_cons] at e ⊢
    generalize hF : (r.map (kidB f)).flatten = F at e ⊢
    have e1 := take_drop_at (bs := bs) (pre := pre) (x := sto (k.io - f) 2) (y := [((k.nm.size : Nat) : Int)] ++ (nums k.nm ++ (F ++ post))) (by rw [e, ek]; simp only [List.append_assoc])
    have e2 := take_drop_at (bs := bs) (pre := pre ++ sto (k.io - f) 2) (x := [((k.nm.size : Nat) : Int)]) (y := nums k.nm ++ (F ++ post)) (by rw [e, ek]; simp only [List.append_assoc])
    have e3 := take_drop_at (bs := bs) (pre := pre ++ sto (k.io - f) 2 ++ [((k.nm.size : Nat) : Int)]) (x := nums k.nm) (y := F ++ post) (by rw [e, ek]; simp only [List.append_assoc])
    have l1 : (pre ++ sto (k.io - f) 2).length = pre.length + 2 := by rw [List.length_append, sto_length]
    have l2 : (pre ++ sto (k.io - f) 2 ++ [((k.nm.size : Nat) : Int)]).length = pre.length + 3 := by rw [List.length_append, l1, List.length_cons, List.length_nil]
    rw [sto_length] at e1
    rw [l1, show [((k.nm.size : Nat) : Int)].length = 1 from rfl] at e2
    rw [l2, nums_len] at e3
    have hlen : bs.length = pre.length + (3 + k.nm.size + F.length + post.length) := by
      rw [e, List.length_append, List.length_append, List.length_append, kidB_len]
    have ih := kdT_enc f bs r (pre ++ kidB f k) post (fun q hq => hk q (List.mem_cons_of_mem _ hq)) (by rw [hF, e]; simp only [List.append_assoc])
    rw [hF, List.length_append, kidB_len] at ih
    rw [List.length_cons, kdT, e2, le1_16, Int.toNat_natCast, if_pos (by omega), e3, e1, le_sto, str_nums16, show pre.length + 3 + k.nm.size = pre.length + (3 + k.nm.size) by omega, ih, List.length_append, kidB_len]
    have e5 : f + (k.io - f) % 256 ^ 2 = k.io := by omega
    rw [e5]
    simp only [Prod.mk.injEq, Option.some.injEq]
    exact ⟨trivial, by omega⟩
/-- rows that may be -/
def rwOk (r : List Kx) : Prop := r.length ≤ 256 ∧ ∃ F, r[0]? = some F ∧ 0 ≤ F.io ∧ ∀ k ∈ r, k.nm.size ≤ 255 ∧ F.io ≤ k.io ∧ k.io ≤ 16384
theorem rwT_enc (bs : List Int) (r : List Kx) (pre post : List Int) (h : rwOk r) (e : bs = pre ++ (rowB r ++ post)) : pre.length + 6 ≤ bs.length ∧ rwT bs pre.length = (r, some (pre.length + (rowB r).length)) := by
  obtain ⟨hl, F, hF, h0, hk⟩ := h
  cases r with
  | nil => cases hF
  | cons k r =>
    rw [List.getElem?_cons_zero] at hF
    injection hF with hF
    subst hF
    have er : rowB (k :: r) = sto (((k :: r).length : Nat) : Int) 2 ++ (sto k.io 4 ++ ((k :: r).map (kidB k.io)).flatten) := rfl
    generalize hR : k :: r = R at *
    have hkm := hk k (by rw [← hR]; exact List.mem_cons_self ..)
    have e1 := take_drop_at (bs := bs) (pre := pre) (x := sto ((R.length : Nat) : Int) 2) (y := sto k.io 4 ++ ((R.map (kidB k.io)).flatten ++ post)) (by rw [e, er]; simp only [List.append_assoc])
    have e2 := take_drop_at (bs := bs) (pre := pre ++ sto ((R.length : Nat) : Int) 2) (x := sto k.io 4) (y := (R.map (kidB k.io)).flatten ++ post) (by rw [e, er]; simp only [List.append_assoc])
    have l1 : (pre ++ sto ((R.length : Nat) : Int) 2).length = pre.length + 2 := by rw [List.length_append, sto_length]
    have l2 : (pre ++ sto ((R.length : Nat) : Int) 2 ++ sto k.io 4).length = pre.length + 6 := by rw [List.length_append, l1, sto_length]
    rw [sto_length] at e1
    rw [l1, sto_length] at e2
    have hlb : bs.length = pre.length + ((rowB R).length + post.length) := by rw [e, List.length_append, List.length_append]
    have hlr : (rowB R).length = 6 + ((R.map (kidB k.io)).flatten).length := by rw [er, List.length_append, List.length_append, sto_length, sto_length]; omega
    have := kdT_enc k.io bs R (pre ++ sto ((R.length : Nat) : Int) 2 ++ sto k.io 4) post (fun q hq => ⟨(hk q hq).1, (hk q hq).2.1, by have := (hk q hq).2.2; omega⟩) (by rw [e, er]; simp only [List.append_assoc])
    rw [l2] at this
    refine ⟨by omega, ?_⟩
    have m1 : ((R.length : Nat) : Int) % 256 ^ 2 = (R.length : Nat) := by omega
    have m2 : k.io % 256 ^ 4 = k.io := by omega
    rw [rwT, e1, e2, le_sto, le_sto, m1, m2, Int.toNat_natCast, this, hlr]
    simp only [Prod.mk.injEq, Option.some.injEq]
    exact ⟨trivial, by omega⟩
theorem dcT_enc (bs : List Int) : ∀ (R : List (List Kx)) (pre : List Int) (n : Nat), R.length < n → (∀ r ∈ R, rwOk r) → bs = pre ++ (R.map rowB).flatten → dcT bs n pre.length = some R.flatten
  | [], pre, n, hn, _, e => by
    obtain ⟨n, rfl⟩ : ∃ m, n = m + 1 := ⟨n - 1, by omega⟩
    rw [dcT, if_pos (by rw [e]; simp)]
    rfl
  | r :: R, pre, n, hn, h, e => by
    obtain ⟨n, rfl⟩ : ∃ m, n = m + 1 := ⟨n - 1, by omega⟩
    rw [List.length_cons] at hn
    rw [List.map_cons, List.flatten_cons] at e
    obtain ⟨c, hr⟩ := rwT_enc bs r pre _ (h r (List.mem_cons_self ..)) e
    have ih := dcT_enc bs R (pre ++ rowB r) n (by omega) (fun q hq => h q (List.mem_cons_of_mem _ hq)) (by rw [e]; simp only [List.append_assoc])
    rw [List.length_append] at ih
    rw [dcT, if_neg (by omega), if_pos c, hr]
    simp only
    rw [ih]
    rfl
theorem rws_ok : ∀ (n : Nat) (l : List Kx), l.length ≤ n → (∀ k ∈ l, k.nm.size ≤ 255 ∧ 0 ≤ k.io ∧ k.io ≤ 16384) → ∀ r ∈ rws16 n l, rwOk r
  | 0, l, _, _, r, h => by rw [rws16] at h; cases h
  | n + 1, l, hn, hk, r, h => by
    rw [rws16] at h
    by_cases h0 : l.length = 0
    · rw [if_pos h0] at h; cases h
    · rw [if_neg h0] at h
      have hp := inr16_pos (l := l) (fun e => h0 (by rw [e]; rfl))
      have hq := inr16_le l
      rcases List.mem_cons.1 h with rfl | h
      · refine ⟨by rw [List.length_take]; omega, ?_⟩
        cases l with
        | nil => exact absurd rfl h0
        | cons k r =>
          refine ⟨k, ?_, (hk k (List.mem_cons_self ..)).2.1, fun q hq => ⟨(hk q (List.mem_of_mem_take hq)).1, ?_, (hk q (List.mem_of_mem_take hq)).2.2⟩⟩
          · rw [List.getElem?_take, if_pos (by omega), List.getElem?_cons_zero]
          · unfold inr16 at hq
            exact cntR_ge _ 256 _ q hq
      · exact rws_ok n _ (by rw [List.length_drop]; omega) (fun q hq => hk q (List.mem_of_mem_drop hq)) r h
theorem rws_len : ∀ (n : Nat) (l : List Kx), (rws16 n l).length ≤ n
  | 0, l => by rw [rws16]; exact Nat.le_refl _
  | n + 1, l => by
    rw [rws16]
    split
    · exact Nat.zero_le _
    · rw [List.length_cons]; have := rws_len n (l.drop (inr16 l)); omega
theorem rows_ge : ∀ (n : Nat) (l : List Kx), (rws16 n l).length ≤ (((rws16 n l).map rowB).flatten).length
  | 0, l => by rw [rws16]; exact Nat.le_refl _
  | n + 1, l => by
    rw [rws16]
    by_cases h0 : l.length = 0
    · rw [if_pos h0]; exact Nat.le_refl _
    · rw [if_neg h0, List.length_cons, List.map_cons, List.flatten_cons, List.length_append]
      have h1 := rows_ge n (l.drop (inr16 l))
      have hp := inr16_pos (l := l) (fun e => h0 (by rw [e]; rfl))
      have : 1 ≤ (rowB (l.take (inr16 l))).length := by
        cases l with
        | nil => exact absurd rfl h0
        | cons k r =>
          obtain ⟨m, hm⟩ : ∃ m, inr16 (k :: r) = m + 1 := ⟨inr16 (k :: r) - 1, by omega⟩
          rw [hm, List.take_succ_cons]
          unfold rowB
          rw [List.length_append, sto_length]
          omega
      omega
/-- what a right list's bytes tell is the list -/
theorem dcT_enb {l : List Kx} (hk : ∀ k ∈ l, k.nm.size ≤ 255 ∧ 0 ≤ k.io ∧ k.io ≤ 16384) : dcT (enb16 l) ((enb16 l).length + 1) 0 = some l := by
  have h := dcT_enc (enb16 l) (rws16 l.length l) [] ((enb16 l).length + 1) (by have := rows_ge l.length l; unfold enb16; omega) (rws_ok _ l (Nat.le_refl _) hk) rfl
  rw [rws16_all _ _ (Nat.le_refl _)] at h
  exact h
theorem kdT_len {f : Int} {bs : List Int} (hb : Byt bs) : ∀ (n p : Nat), p ≤ bs.length → 3 * (kdT f bs n p).1.length ≤ bs.length - p ∧ (∀ q, (kdT f bs n p).2 = some q → 3 * (kdT f bs n p).1.length ≤ q - p) ∧ ∀ k ∈ (kdT f bs n p).1, k.nm.size ≤ 255
  | 0, p, hp => by rw [kdT]; exact ⟨Nat.zero_le _, fun _ _ => Nat.zero_le _, fun k hk => by cases hk⟩
  | n + 1, p, hp => by
    rw [kdT]
    split
    · rename_i c
      obtain ⟨h1, h2, h3⟩ := kdT_len (f := f) hb n _ c
      simp only [List.length_cons]
      refine ⟨by omega, fun q hq => ?_, fun k hk => ?_⟩
      · have := h2 q hq
        have := kdT_le n _ hq c
        omega
      · rcases List.mem_cons.1 hk with rfl | hk
        · have hx : (le ((bs.drop (p + 2)).take 1)).toNat ≤ 255 := by
            have : ((bs.drop (p + 2)).take 1).length ≤ 1 := by rw [List.length_take]; omega
            have hby : Byt ((bs.drop (p + 2)).take 1) := (hb.drop _).take _
            generalize (bs.drop (p + 2)).take 1 = xs at this hby
            match xs, this, hby with
            | [], _, _ => decide
            | [x], _, hby => rw [le1_16]; have := hby x (List.mem_singleton.2 rfl); omega
            | _ :: _ :: _, h, _ => simp at h
          show (strOfNums _).size ≤ 255
          rw [str_size16, List.length_take]
          omega
        · exact h3 k hk
    · exact ⟨Nat.zero_le _, fun q hq => (by cases hq), fun k hk => by cases hk⟩
theorem tldT_len {bs : List Int} (hb : Byt bs) : ∀ (n p : Nat), p ≤ bs.length → 3 * (tldT bs n p).length ≤ bs.length - p ∧ ∀ k ∈ tldT bs n p, k.nm.size ≤ 255
  | 0, p, hp => by rw [tldT]; exact ⟨Nat.zero_le _, fun k hk => by cases hk⟩
  | n + 1, p, hp => by
    rw [tldT]
    split
    · rename_i c
      obtain ⟨h1, h2, h3⟩ := kdT_len (f := le ((bs.drop (p + 2)).take 4)) hb (le ((bs.drop p).take 2)).toNat (p + 6) c
      rw [show kdT (le ((bs.drop (p + 2)).take 4)) bs (le ((bs.drop p).take 2)).toNat (p + 6) = rwT bs p from rfl] at h1 h2 h3
      split
      · rename_i q e
        have := rwT_le e c
        obtain ⟨k1, k2⟩ := tldT_len hb n q this.2
        have := h2 q e
        rw [List.length_append]
        refine ⟨by omega, fun k hk => ?_⟩
        rcases List.mem_append.1 hk with hk | hk
        · exact h3 k hk
        · exact k2 k hk
      · exact ⟨by omega, h3⟩
    · exact ⟨Nat.zero_le _, fun k hk => by cases hk⟩
end Go.Proofs.Ytngalihnckbkfaa
