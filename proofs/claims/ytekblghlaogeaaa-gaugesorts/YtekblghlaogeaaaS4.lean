/- Plain facts on merging two sorted neighbours in place. -/
import Derived.Test.YtekblghlaogeaaaS3
namespace Go.Proofs.Ytekblghlaogeaaa
open Go.RowKit
set_option linter.unusedVariables false

/-- the first of a row, moved up to k by exchanges -/
structure BubU (a k : Nat) (xs ys : List Nat) : Prop where
  lo : ∀ p, a ≤ p → p < k → gt ys p = gt xs (p + 1)
  at_ : gt ys k = gt xs a
  hi : ∀ p, k < p → gt ys p = gt xs p
theorem BubU.start (a : Nat) (xs : List Nat) : BubU a a xs xs := ⟨fun p h1 h2 => by omega, rfl, fun _ _ => rfl⟩
theorem BubU.step {a k : Nat} {xs ys : List Nat} (h : BubU a k xs ys) (h1 : a ≤ k) (h2 : k + 1 < ys.length) : BubU a (k + 1) xs (sw ys k (k + 1)) := by
  have g := fun t => gt_sw (xs := ys) (i := k) (j := k + 1) (by omega) h2 t
  refine ⟨fun p p1 p2 => ?_, ?_, fun p p1 => ?_⟩
  · rw [g, if_neg (by omega)]
    by_cases c : p = k
    · rw [if_pos c, h.hi (k + 1) (by omega), c]
    · rw [if_neg c]; exact h.lo p p1 (by omega)
  · rw [g, if_pos rfl]; exact h.at_
  · rw [g, if_neg (by omega), if_neg (by omega)]; exact h.hi p (by omega)
theorem kt_of {xs ys : List Nat} {p q : Nat} (h : gt ys p = gt xs q) : kt ys p = kt xs q := by unfold kt; rw [h]
theorem BubU.sorted {a b i : Nat} {xs ys : List Nat} (h : BubU a (i - 1) xs ys) (hs : Srt (a + 1) b xs) (h1 : a + 1 ≤ i) (h2 : i ≤ b) (lo : ∀ p, a + 1 ≤ p → p < i → kt xs p < kt xs a) (hi : ∀ p, i ≤ p → p < b → kt xs a ≤ kt xs p) : Srt a b ys := by
  intro p q p1 p2 p3
  rcases Nat.lt_trichotomy p (i - 1) with c | c | c
  · rw [kt_of (h.lo p p1 c)]
    rcases Nat.lt_trichotomy q (i - 1) with d | d | d
    · rw [kt_of (h.lo q (by omega) d)]; exact hs _ _ (by omega) (by omega) (by omega)
    · rw [d, kt_of h.at_]; exact Nat.le_of_lt (lo _ (by omega) (by omega))
    · rw [kt_of (h.hi q d)]; exact hs _ _ (by omega) (by omega) (by omega)
  · rcases Nat.lt_trichotomy q (i - 1) with d | d | d
    · omega
    · rw [c, d]; exact Nat.le_refl _
    · rw [c, kt_of h.at_, kt_of (h.hi q d)]; exact hi q (by omega) p3
  · rw [kt_of (h.hi p c), kt_of (h.hi q (by omega))]; exact hs _ _ (by omega) p2 p3

/-- the last of a row, moved down to k -/
structure BubD (m k : Nat) (xs ys : List Nat) : Prop where
  lo : ∀ p, p < k → gt ys p = gt xs p
  at_ : gt ys k = gt xs m
  hi : ∀ p, k < p → p ≤ m → gt ys p = gt xs (p - 1)
theorem BubD.start (m : Nat) (xs : List Nat) : BubD m m xs xs := ⟨fun _ _ => rfl, rfl, fun p h1 h2 => by omega⟩
theorem BubD.step {m k : Nat} {xs ys : List Nat} (h : BubD m (k + 1) xs ys) (h1 : k + 1 ≤ m) (h2 : m < ys.length) : BubD m k xs (sw ys (k + 1) k) := by
  have g := fun t => gt_sw (xs := ys) (i := k + 1) (j := k) (by omega) (by omega) t
  refine ⟨fun p p1 => ?_, ?_, fun p p1 p2 => ?_⟩
  · rw [g, if_neg (by omega), if_neg (by omega)]; exact h.lo p (by omega)
  · rw [g, if_pos rfl]; exact h.at_
  · rw [g, if_neg (by omega)]
    by_cases c : p = k + 1
    · rw [if_pos c, h.lo k (by omega), c]; rfl
    · rw [if_neg c]; exact h.hi p (by omega) p2
theorem BubD.sorted {a m i : Nat} {xs ys : List Nat} (h : BubD m i xs ys) (hs : Srt a m xs) (h1 : a ≤ i) (h2 : i ≤ m) (lo : ∀ p, a ≤ p → p < i → kt xs p ≤ kt xs m) (hi : ∀ p, i ≤ p → p < m → kt xs m < kt xs p) : Srt a (m + 1) ys := by
  intro p q p1 p2 p3
  rcases Nat.lt_trichotomy p i with c | c | c
  · rw [kt_of (h.lo p c)]
    rcases Nat.lt_trichotomy q i with d | d | d
    · rw [kt_of (h.lo q d)]; exact hs _ _ p1 p2 (by omega)
    · rw [d, kt_of h.at_]; exact lo p p1 c
    · rw [kt_of (h.hi q d (by omega))]; exact hs _ _ p1 (by omega) (by omega)
  · rcases Nat.lt_trichotomy q i with d | d | d
    · omega
    · rw [c, d]; exact Nat.le_refl _
    · rw [c, kt_of h.at_, kt_of (h.hi q d (by omega))]; exact Nat.le_of_lt (hi _ (by omega) (by omega))
  · rw [kt_of (h.hi p c (by omega)), kt_of (h.hi q (by omega) (by omega))]; exact hs _ _ (by omega) (by omega) (by omega)

/-- the search for where to cut: as far as s and from r on it is known -/
structure Cut (lo hi p s r : Nat) (xs : List Nat) : Prop where
  s1 : lo ≤ s
  sr : s ≤ r
  r1 : r ≤ hi
  low : ∀ c, lo ≤ c → c < s → kt xs c ≤ kt xs (p - c)
  high : ∀ c, r ≤ c → c < hi → kt xs (p - c) < kt xs c
/-- the stretch in which the search goes on lies left of m, its mirror right of it -/
structure Rng (a m b lo hi p : Nat) : Prop where
  l1 : a ≤ lo
  l2 : hi ≤ m
  lh : lo ≤ hi
  r1 : ∀ c, lo ≤ c → c < hi → m ≤ p - c ∧ p - c < b ∧ c ≤ p
theorem Cut.up {a m b lo hi p s r c : Nat} {xs : List Nat} (h : Cut lo hi p s r xs) (R : Rng a m b lo hi p) (h1 : Srt a m xs) (h2 : Srt m b xs) (c1 : s ≤ c) (c2 : c < r) (hk : kt xs c ≤ kt xs (p - c)) : Cut lo hi p (c + 1) r xs := by
  have hs1 := h.s1; have hr1 := h.r1; have l1 := R.l1; have l2 := R.l2
  refine ⟨by omega, by omega, h.r1, fun d d1 d2 => ?_, h.high⟩
  obtain ⟨x1, x2, x3⟩ := R.r1 d d1 (by omega)
  obtain ⟨y1, y2, y3⟩ := R.r1 c (by omega) (by omega)
  have g1 := h1 d c (by omega) (by omega) (by omega)
  have g2 := h2 (p - c) (p - d) y1 (by omega) x2
  omega
theorem Cut.down {a m b lo hi p s r c : Nat} {xs : List Nat} (h : Cut lo hi p s r xs) (R : Rng a m b lo hi p) (h1 : Srt a m xs) (h2 : Srt m b xs) (c1 : s ≤ c) (c2 : c < r) (hk : kt xs (p - c) < kt xs c) : Cut lo hi p s c xs := by
  have hs1 := h.s1; have hr1 := h.r1; have l1 := R.l1; have l2 := R.l2
  refine ⟨h.s1, by omega, by omega, h.low, fun d d1 d2 => ?_⟩
  obtain ⟨x1, x2, x3⟩ := R.r1 d (by omega) d2
  obtain ⟨y1, y2, y3⟩ := R.r1 c (by omega) (by omega)
  have g1 := h1 c d (by omega) (by omega) (by omega)
  have g2 := h2 (p - d) (p - c) x1 (by omega) y2
  omega
/-- where it is cut: four stretches, the first and the third not above the others -/
structure Fours (a s m e b mid : Nat) (xs : List Nat) : Prop where
  a_s : a ≤ s
  sm : s ≤ m
  me : m ≤ e
  eb : e ≤ b
  sum : s + e = mid + m
  below : ∀ p q, (a ≤ p ∧ p < s ∨ m ≤ p ∧ p < e) → (s ≤ q ∧ q < m ∨ e ≤ q ∧ q < b) → kt xs p ≤ kt xs q
theorem Cut.fours {a m b mid lo hi s : Nat} {xs : List Nat} (hm : 1 ≤ mid + m) (h : Cut lo hi (mid + m - 1) s s xs) (h1 : Srt a m xs) (h2 : Srt m b xs) (ham : a < m) (hmb : m < b) (hmid : mid = (a + b) / 2)
    (hc : (mid < m ∧ lo = mid + m - b ∧ hi = mid) ∨ (m ≤ mid ∧ lo = a ∧ hi = m)) : Fours a s m (mid + m - s) b mid xs := by
  have s1 := h.s1; have r1 := h.r1
  refine ⟨by omega, by omega, by omega, by omega, by omega, fun p q hp hq => ?_⟩
  rcases hp with ⟨p1, p2⟩ | ⟨p1, p2⟩
  · rcases hq with ⟨q1, q2⟩ | ⟨q1, q2⟩
    · exact h1 p q p1 (by omega) q2
    · have hlow : lo ≤ s - 1 := by omega
      have g := h.low (s - 1) hlow (by omega)
      rw [show mid + m - 1 - (s - 1) = mid + m - s by omega] at g
      have g1 := h1 p (s - 1) p1 (by omega) (by omega)
      have g2 := h2 (mid + m - s) q (by omega) q1 q2
      omega
  · rcases hq with ⟨q1, q2⟩ | ⟨q1, q2⟩
    · have g := h.high s (Nat.le_refl _) (by omega)
      have g1 := h1 s q (by omega) q1 q2
      have g2 := h2 p (mid + m - 1 - s) p1 (by omega) (by omega)
      omega
    · exact h2 p q p1 (by omega) q2

/-- behind the turning: two pairs of sorted neighbours, the left ones not above the right ones -/
structure Pairs (a s e b mid : Nat) (ys : List Nat) : Prop where
  l1 : Srt a s ys
  l2 : Srt s mid ys
  r1 : Srt mid e ys
  r2 : Srt e b ys
  below : ∀ p q, a ≤ p → p < mid → mid ≤ q → q < b → kt ys p ≤ kt ys q
theorem pairs_of {a s m e b mid : Nat} {xs ys : List Nat} (F : Fours a s m e b mid xs) (h1 : Srt a m xs) (h2 : Srt m b xs)
    (out1 : ∀ i, i < s → gt ys i = gt xs i) (out2 : ∀ i, e ≤ i → gt ys i = gt xs i)
    (lo : ∀ i, s ≤ i → i < mid → gt ys i = gt xs (m + (i - s))) (hi : ∀ i, mid ≤ i → i < e → gt ys i = gt xs (s + (i - mid))) : Pairs a s e b mid ys := by
  have f1 := F.a_s; have f2 := F.sm; have f3 := F.me; have f4 := F.eb; have f5 := F.sum
  refine ⟨fun i j i1 i2 i3 => ?_, fun i j i1 i2 i3 => ?_, fun i j i1 i2 i3 => ?_, fun i j i1 i2 i3 => ?_, fun p q p1 p2 q1 q2 => ?_⟩
  · rw [kt_of (out1 i (by omega)), kt_of (out1 j i3)]; exact h1 i j i1 i2 (by omega)
  · rw [kt_of (lo i i1 (by omega)), kt_of (lo j (by omega) i3)]; exact h2 _ _ (by omega) (by omega) (by omega)
  · rw [kt_of (hi i i1 (by omega)), kt_of (hi j (by omega) i3)]; exact h1 _ _ (by omega) (by omega) (by omega)
  · rw [kt_of (out2 i i1), kt_of (out2 j (by omega))]; exact h2 i j (by omega) i2 i3
  · have hp : ∃ p', kt ys p = kt xs p' ∧ (a ≤ p' ∧ p' < s ∨ m ≤ p' ∧ p' < e) := by
      by_cases c : p < s
      · exact ⟨p, kt_of (out1 p c), Or.inl ⟨p1, c⟩⟩
      · exact ⟨_, kt_of (lo p (by omega) p2), Or.inr ⟨by omega, by omega⟩⟩
    have hq : ∃ q', kt ys q = kt xs q' ∧ (s ≤ q' ∧ q' < m ∨ e ≤ q' ∧ q' < b) := by
      by_cases c : q < e
      · exact ⟨_, kt_of (hi q q1 c), Or.inl ⟨by omega, by omega⟩⟩
      · exact ⟨q, kt_of (out2 q (by omega)), Or.inr ⟨by omega, q2⟩⟩
    obtain ⟨p', e1, hp'⟩ := hp
    obtain ⟨q', e2, hq'⟩ := hq
    rw [e1, e2]
    exact F.below p' q' hp' hq'
theorem pairs_rot {a s m e b mid : Nat} {xs ys : List Nat} (F : Fours a s m e b mid xs) (h1 : Srt a m xs) (h2 : Srt m b xs) (hs : s < m) (he : m < e) (R : Rot s m e xs ys) : Pairs a s e b mid ys := by
  have f5 := F.sum
  refine pairs_of F h1 h2 (fun i hi => R.mv.out i (Or.inl hi)) (fun i hi => R.mv.out i (Or.inr hi)) (fun i i1 i2 => ?_) (fun i i1 i2 => ?_)
  · have := R.lo (i - s) (by omega)
    rw [show s + (i - s) = i by omega] at this
    exact this
  · have := R.hi (i - mid) (by omega)
    rw [show s + (e - m) + (i - mid) = i by omega] at this
    exact this
theorem pairs_same {a s m e b mid : Nat} {xs : List Nat} (F : Fours a s m e b mid xs) (h1 : Srt a m xs) (h2 : Srt m b xs) (hs : ¬ (s < m ∧ m < e)) : Pairs a s e b mid xs := by
  have f1 := F.a_s; have f2 := F.sm; have f3 := F.me; have f4 := F.eb; have f5 := F.sum
  refine pairs_of F h1 h2 (fun i hi => rfl) (fun i hi => rfl) (fun i i1 i2 => ?_) (fun i i1 i2 => ?_)
  · congr 1; omega
  · congr 1; omega
/-- one pair merged -/
theorem merged {a b mid : Nat} {ys zs us : List Nat} (bel : ∀ p q, a ≤ p → p < mid → mid ≤ q → q < b → kt ys p ≤ kt ys q) (M1 : Mv a mid ys zs) (S1 : Srt a mid zs) (M2 : Mv mid b zs us) (S2 : Srt mid b us) (h1 : a ≤ mid) (h2 : mid ≤ b) : Srt a b us ∧ Mv a b ys us := by
  refine ⟨fun p q p1 p2 p3 => ?_, (M1.widen (Nat.le_refl _) h2).trans (M2.widen h1 (Nat.le_refl _))⟩
  by_cases c1 : q < mid
  · rw [kt_of (M2.out p (Or.inl (by omega))), kt_of (M2.out q (Or.inl c1))]; exact S1 p q p1 p2 c1
  · by_cases c2 : mid ≤ p
    · exact S2 p q c2 p2 p3
    · obtain ⟨k, k1, k2, k3⟩ := M1.inn p p1 (by omega)
      obtain ⟨l, l1, l2, l3⟩ := M2.inn q (by omega) p3
      rw [kt_of (M2.out p (Or.inl (by omega))), kt_of k3, kt_of l3, kt_of (M1.out l (Or.inr l1))]
      exact bel k l k1 k2 l1 l2
theorem Srt.two {lo s hi : Nat} {xs : List Nat} (h1 : Srt lo s xs) (h2 : Srt s hi xs) (hs : lo ≤ s) (hh : s ≤ hi) (h : ¬ (lo < s ∧ s < hi)) : Srt lo hi xs := by
  intro i j i1 i2 i3
  by_cases c : lo < s
  · exact h1 i j i1 i2 (by omega)
  · exact h2 i j (by omega) i2 i3
theorem Srt.mv {lo hi lo' hi' : Nat} {xs ys : List Nat} (h : Srt lo hi xs) (M : Mv lo' hi' xs ys) (k : hi ≤ lo' ∨ hi' ≤ lo) : Srt lo hi ys := by
  intro i j i1 i2 i3
  rw [kt_of (M.out i (by omega)), kt_of (M.out j (by omega))]
  exact h i j i1 i2 i3
end Go.Proofs.Ytekblghlaogeaaa
