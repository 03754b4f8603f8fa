/- Entries in memory; the document's path. -/
import Derived.Test.YtbpoealcaogjpaaGreatDoorCk02
namespace Go.Proofs.YtbpoealcaogjpaaGreatDoor
open Go.RowKit
set_option maxRecDepth 100000
set_option linter.unusedSimpArgs false
set_option linter.unusedVariables false

/-- an attribute with its place in memory -/
structure AtV where
  n : ByteArray
  a : Option Addr
  len : Nat
  cap : Nat
  v : List Int
def AtV.at (A : AtV) : Atr := ⟨A.n.toList, A.v⟩
structure AtAt (w : World) (b o : Nat) (A : AtV) : Prop where
  c0 : w.cell? ⟨b, o, none⟩ = some (.string A.n)
  c1 : w.cell? ⟨b, o + 1, none⟩ = some (.slice A.a A.len A.cap)
  row : Row w A.a A.len A.v
  cap : A.len ≤ A.cap
/-- attributes in memory -/
structure Ats (w : World) (a : Option Addr) (len : Nat) (l : List AtV) : Prop where
  len_eq : l.length = len
  le : len ≤ maxLen
  at_ : 0 < len → ∃ b off, a = some ⟨b, off, none⟩ ∧ ∀ i A, l[i]? = some A → AtAt w b (off + i * 2) A
/-- an entry with its places in memory -/
structure EnV where
  path : ByteArray
  k : Int
  mode : Int
  uid : Int
  gid : Int
  time : Int
  size : Int
  da : Option Addr
  dl : Nat
  dc : Nat
  data : List Int
  target : ByteArray
  dev : Int
  aa : Option Addr
  al : Nat
  ac : Nat
  attrs : List AtV
def EnV.en (X : EnV) : En := ⟨X.path.toList, X.k, X.mode, X.uid, X.gid, X.time, X.size, X.data, X.target.toList, X.dev, X.attrs.map AtV.at⟩
def EnV.val (X : EnV) : Value := .agg #[.string X.path, .int .i64 X.k, .int .i64 X.mode, .int .i64 X.uid, .int .i64 X.gid, .int .i64 X.time, .int .i64 X.size, .slice X.da X.dl X.dc, .string X.target, .int .i64 X.dev, .slice X.aa X.al X.ac]
structure EnV.ok (X : EnV) (w : World) : Prop where
  row : Row w X.da X.dl X.data
  dcap : X.dl ≤ X.dc
  ats : Ats w X.aa X.al X.attrs
  acap : X.al ≤ X.ac
structure EnAt (w : World) (b o : Nat) (X : EnV) : Prop where
  c0 : w.cell? ⟨b, o, none⟩ = some (.string X.path)
  c1 : w.cell? ⟨b, o + 1, none⟩ = some (.int .i64 X.k)
  c2 : w.cell? ⟨b, o + 2, none⟩ = some (.int .i64 X.mode)
  c3 : w.cell? ⟨b, o + 3, none⟩ = some (.int .i64 X.uid)
  c4 : w.cell? ⟨b, o + 4, none⟩ = some (.int .i64 X.gid)
  c5 : w.cell? ⟨b, o + 5, none⟩ = some (.int .i64 X.time)
  c6 : w.cell? ⟨b, o + 6, none⟩ = some (.int .i64 X.size)
  c7 : w.cell? ⟨b, o + 7, none⟩ = some (.slice X.da X.dl X.dc)
  c8 : w.cell? ⟨b, o + 8, none⟩ = some (.string X.target)
  c9 : w.cell? ⟨b, o + 9, none⟩ = some (.int .i64 X.dev)
  c10 : w.cell? ⟨b, o + 10, none⟩ = some (.slice X.aa X.al X.ac)
  ok : X.ok w
/-- entries in memory -/
structure Ens (w : World) (a : Option Addr) (len : Nat) (l : List EnV) : Prop where
  len_eq : l.length = len
  le : len ≤ maxLen
  at_ : 0 < len → ∃ b off, a = some ⟨b, off, none⟩ ∧ ∀ i X, l[i]? = some X → EnAt w b (off + i * 11) X
theorem cell_lt11 {w : World} {b o : Nat} {v : Value} (h : w.cell? ⟨b, o, none⟩ = some v) : b < w.heap.size := by
  rcases Nat.lt_or_ge b w.heap.size with k | k
  · exact k
  · simp [World.cell?, Array.getElem?_eq_none k] at h
theorem cell_grown {w w' : World} {b o : Nat} {v : Value} (h : w.cell? ⟨b, o, none⟩ = some v) (g : w.grownBy w' none) : w'.cell? ⟨b, o, none⟩ = some v := by
  rw [(grown_below0 g).cell (p := ⟨b, o, none⟩) (cell_lt11 h)]; exact h
theorem AtAt.grown {w w' : World} {b o : Nat} {A : AtV} (h : AtAt w b o A) (g : w.grownBy w' none) : AtAt w' b o A := ⟨cell_grown h.c0 g, cell_grown h.c1 g, h.row.grown g, h.cap⟩
theorem Ats.grown {w w' : World} {a : Option Addr} {len : Nat} {l : List AtV} (h : Ats w a len l) (g : w.grownBy w' none) : Ats w' a len l :=
  ⟨h.len_eq, h.le, fun h0 => by obtain ⟨b, off, e, k⟩ := h.at_ h0; exact ⟨b, off, e, fun i A hA => (k i A hA).grown g⟩⟩
theorem EnV.ok.grown {X : EnV} {w w' : World} (h : X.ok w) (g : w.grownBy w' none) : X.ok w' := ⟨h.row.grown g, h.dcap, h.ats.grown g, h.acap⟩
theorem EnAt.grown {w w' : World} {b o : Nat} {X : EnV} (h : EnAt w b o X) (g : w.grownBy w' none) : EnAt w' b o X :=
  ⟨cell_grown h.c0 g, cell_grown h.c1 g, cell_grown h.c2 g, cell_grown h.c3 g, cell_grown h.c4 g, cell_grown h.c5 g, cell_grown h.c6 g, cell_grown h.c7 g, cell_grown h.c8 g, cell_grown h.c9 g, cell_grown h.c10 g, h.ok.grown g⟩
theorem Ens.grown {w w' : World} {a : Option Addr} {len : Nat} {l : List EnV} (h : Ens w a len l) (g : w.grownBy w' none) : Ens w' a len l :=
  ⟨h.len_eq, h.le, fun h0 => by obtain ⟨b, off, e, k⟩ := h.at_ h0; exact ⟨b, off, e, fun i A hA => (k i A hA).grown g⟩⟩
theorem drewG11 {a b : World} (h : a.grownBy b none) (n : Nat) : a.grownBy (b.drewN n) none := by
  induction n with
  | zero => exact h
  | succ n ih => exact ⟨ih.os, ih.tape, ih.output, ih.size, ih.block⟩
/-- what Split gives is short -/
theorem spl_short {L : Tx} (h : (spl L).2 = 0) : (∀ p ∈ (spl L).1, p.length ≤ 255) ∧ (spl L).1.length ≤ 128 := by
  unfold spl at h ⊢
  split at h <;> rename_i h1
  · simp at h
  · rw [if_neg h1]
    split at h <;> rename_i h2
    · simp at h
    · rw [if_neg h2]
      split at h <;> rename_i h3
      · simp at h
      · rw [if_neg h3]
        split at h <;> rename_i h4
        · simp at h
        · rw [if_neg h4]
          refine ⟨fun p hp => ?_, by show ((cutS L).filter kept).length ≤ 128; omega⟩
          have h5 := (List.mem_filter.1 hp).1
          have h6 : (cutS L).any longP = false := by cases e : (cutS L).any longP <;> simp [e] at h3 ⊢
          rw [List.any_eq_false] at h6
          have := h6 p h5
          unfold longP at this
          simp at this
          exact this
theorem txs_size {l : List Tx} (h : ∀ p ∈ l, p.length ≤ 255) (i : Nat) : ((txs l).getD i ⟨#[]⟩).size ≤ 255 := by
  unfold txs
  rw [List.getD_eq_getElem?_getD, List.getElem?_map]
  cases e : l[i]? with
  | none => exact Nat.zero_le _
  | some p =>
    have := h p (List.mem_of_getElem? e)
    simp only [Option.map_some, Option.getD_some]
    rw [tx_size]
    exact this
/-- are the first parts all valid? -/
theorem any_snoc {l : List Tx} {i : Nat} (h : i < l.length) (f : Tx → Bool) : (l.take (i + 1)).any f = ((l.take i).any f || f ((txs l).getD i ⟨#[]⟩).toList) := by
  rw [List.take_succ_eq_append_getElem h, List.any_append]
  have e : (txs l).getD i ⟨#[]⟩ = tx l[i] := by unfold txs; rw [List.getD_eq_getElem?_getD, List.getElem?_map, List.getElem?_eq_getElem h]; rfl
  rw [e, tx_tl]
  simp
set_option maxHeartbeats 2000000 in
theorem rpath_any (X : EnV) (w : World) (hp : X.path.size ≤ 5000) : Calls Tryz.prog 48 #[X.val] w fun e w' => e = .returned (.int .i64 (pth X.en)) ∧ w.grownBy w' none := by
  obtain ⟨P, K, mode, uid, gid, time, size, da, dl, dc, data, target, dev, aa, al, ac, attrs⟩ := X
  simp only [EnV.val]
  simp only at hp
  cases h1 : (P.toList == []) with
  | true =>
    have e1 : P.toList = [] := eq_of_beq h1
    by_cases h2 : K = 2
    · have HV : Hid (pth (EnV.en ⟨P, K, mode, uid, gid, time, size, da, dl, dc, data, target, dev, aa, al, ac, attrs⟩) = 0) := by
        show pth _ = 0
        unfold pth EnV.en
        simp only
        rw [if_pos e1, if_pos h2]
      clear e1
      have h2b : (K == 2) = true := by rw [beq_iff_eq]; exact h2
      clear h2
      go_enter Tryz.func48, Tryz.ntmps48
      go_wp2
      go_ret
      exact ⟨by rw [HV.out]; rfl, World.grownBy_alloc _ _ none⟩
    · have HV : Hid (pth (EnV.en ⟨P, K, mode, uid, gid, time, size, da, dl, dc, data, target, dev, aa, al, ac, attrs⟩) = 6) := by
        show pth _ = 6
        unfold pth EnV.en
        simp only
        rw [if_pos e1, if_neg h2]
      clear e1
      have h2b : (K == 2) = false := by rw [beq_eq_false_iff_ne]; exact h2
      clear h2
      go_enter Tryz.func48, Tryz.ntmps48
      go_wp2
      go_ret
      exact ⟨by rw [HV.out]; rfl, World.grownBy_alloc _ _ none⟩
  | false =>
    have e1 : P.toList ≠ [] := by intro e; rw [e] at h1; simp at h1
    have HE : Hid (pth (EnV.en ⟨P, K, mode, uid, gid, time, size, da, dl, dc, data, target, dev, aa, al, ac, attrs⟩) = if (spl P.toList).2 ≠ 0 then 6 else if (spl P.toList).1.any (fun p => !vld p) then 6 else
        if (jnp (spl P.toList).1).2 ≠ 0 ∨ (jnp (spl P.toList).1).1 ≠ P.toList then 6 else if 64 < (spl P.toList).1.length then 3 else 0) := by
      show pth _ = _
      unfold pth EnV.en
      simp only
      rw [if_neg e1]
    have hsh := @spl_short P.toList
    have hsp := fun W => rsplit_any P W (by omega)
    generalize pth (EnV.en ⟨P, K, mode, uid, gid, time, size, da, dl, dc, data, target, dev, aa, al, ac, attrs⟩) = A at *
    clear e1
    generalize spl P.toList = r at *
    obtain ⟨T, E⟩ := r
    simp only at HE hsh
    by_cases h2 : E = 0
    · subst h2
      rw [if_neg (by simp)] at HE
      obtain ⟨hs1, hs2⟩ := hsh rfl
      have HS : Hid _ := And.intro hs1 hs2
      clear hsh hs1 hs2
      go_enter Tryz.func48, Tryz.ntmps48
      go_wp2_with (go_at_call 39; refine (hsp _).mono ?_; rintro e w1 ⟨a, n, c, rfl, hown, HG⟩)
      have hx0 : w1.cell? ⟨w.heap.size, 0, none⟩ = some (.string P) := cell_grown (by simp) HG
      obtain ⟨a, c, e9, R, hcap, hcm⟩ := owns_srow hown
      injection e9 with e9a e9n e9c
      subst e9a e9c
      have hT : T.length = n := by have := R.len_eq; unfold txs at this; rw [List.length_map] at this; exact this
      have hn : n ≤ 128 := by have := HS.out.2; omega
      have HG2 : Hid _ := grown_trans (World.grownBy_alloc w _ none) HG
      clear HG hown
      have hjo := fun W (RW : SRow W a n (txs T)) => rjoin_any a n c (txs T) W RW (by omega) (fun i => Nat.le_trans (txs_size HS.out.1 i) (by decide))
      rw [tls_txs] at hjo
      have HT : Hid _ := hT
      clear hT
      go_loop [5] (fun i => ∃ k : Nat, k ≤ n ∧ i = .int .i64 k ∧ Hid ((T.take k).any (fun p => !vld p) = false)) (fun i => n - (intOf i).toNat)
      case atStart => exact ⟨0, Nat.zero_le _, rfl, rfl⟩
      case round =>
        obtain ⟨k, hk, rfl, HB⟩ := hrel
        by_cases hlt : k < n
        · obtain ⟨b, off, rfl, hcell⟩ := R.cells (by omega)
          have hck := hcell k hlt
          have hsn := any_snoc (l := T) (i := k) (by rw [HT.out]; exact hlt) (fun p => !vld p)
          rw [HB.out, Bool.false_or] at hsn
          have hsz := txs_size HS.out.1 k
          generalize (txs T).getD k ⟨#[]⟩ = s0 at *
          have hv := fun W => rvalid_any s0 W (by omega)
          rw [val_vld] at hv
          have HN : Hid _ := hsn
          clear hsn hcell R hjo
          cases hvv : vld s0.toList with
          | true =>
            rw [hvv] at hv
            have HN2 : Hid ((T.take (k + 1)).any (fun p => !vld p) = false) := by
              show List.any _ _ = false
              rw [HN.out, hvv]; rfl
            go_wp2_with (go_at_call 74; refine (hv _).mono ?_; rintro e w' ⟨rfl, rfl⟩)
            go_round
            case rel => exact ⟨k + 1, by omega, by go_num, HN2⟩
            case measure => simp [intOf]; omega
          | false =>
            rw [hvv] at hv
            have HV : Hid (A = 6) := by
              show A = 6
              have e5 : T.any (fun p => !vld p) = true := by
                rw [← List.take_append_drop (k + 1) T, List.any_append, HN.out, hvv]; rfl
              rw [HE.out, if_pos e5]
            go_wp2_with (go_at_call 74; refine (hv _).mono ?_; rintro e w' ⟨rfl, rfl⟩)
            go_ret
            exact ⟨by rw [HV.out]; rfl, HG2.out⟩
        · obtain rfl : k = n := by omega
          have e5 : T.any (fun p => !vld p) = false := by
            have := HB.out
            rw [List.take_of_length_le (by rw [HT.out]; exact Nat.le_refl _)] at this
            exact this
          have HE2 : Hid (A = if (jnp T).2 ≠ 0 ∨ (jnp T).1 ≠ P.toList then 6 else if 64 < T.length then 3 else 0) := by
            show A = _
            rw [HE.out, e5, if_neg (by decide)]
          clear e5 HE HB hsp
          rw [HT.out] at HE2
          generalize jnp T = j at *
          obtain ⟨J, F⟩ := j
          simp only at HE2 hjo
          have hj1 := hjo w1 R
          clear hjo R
          by_cases hF : F = 0
          · subst hF
            cases hJ : ((tx J).toList == P.toList) with
            | true =>
              have hJe : J = P.toList := by have := eq_of_beq hJ; rw [tx_tl] at this; exact this
              by_cases h64 : 64 < k
              · have HV : Hid (A = 3) := by
                  show A = 3
                  rw [HE2.out, if_neg (by simp [hJe]), if_pos h64]
                have h64i : (64 : Int) < (k : Int) := by omega
                clear HE2 hJe h64
                generalize tx J = j0 at *
                go_wp2_with (go_at_call 75; refine hj1.mono ?_; rintro e w' ⟨rfl, dn, rfl⟩)
                go_ret
                exact ⟨by rw [HV.out]; rfl, drewG11 HG2.out dn⟩
              · have HV : Hid (A = 0) := by
                  show A = 0
                  rw [HE2.out, if_neg (by simp [hJe]), if_neg h64]
                have h64i : ¬ (64 : Int) < (k : Int) := by omega
                clear HE2 hJe h64
                generalize tx J = j0 at *
                go_wp2_with (go_at_call 75; refine hj1.mono ?_; rintro e w' ⟨rfl, dn, rfl⟩)
                go_ret
                exact ⟨by rw [HV.out]; rfl, drewG11 HG2.out dn⟩
            | false =>
              have hJe : J ≠ P.toList := by intro e; rw [tx_tl, e] at hJ; simp at hJ
              have HV : Hid (A = 6) := by
                show A = 6
                rw [HE2.out, if_pos (Or.inr hJe)]
              clear HE2 hJe
              generalize tx J = j0 at *
              go_wp2_with (go_at_call 75; refine hj1.mono ?_; rintro e w' ⟨rfl, dn, rfl⟩)
              go_ret
              exact ⟨by rw [HV.out]; rfl, drewG11 HG2.out dn⟩
          · have HV : Hid (A = 6) := by
              show A = 6
              rw [HE2.out, if_pos (Or.inl hF)]
            have hFb : (F == 0) = false := by rw [beq_eq_false_iff_ne]; exact hF
            clear HE2
            generalize tx J = j0 at *
            go_wp2_with (go_at_call 75; refine hj1.mono ?_; rintro e w' ⟨rfl, dn, rfl⟩)
            go_ret
            exact ⟨by rw [HV.out]; rfl, drewG11 HG2.out dn⟩
    · have HV : Hid (A = 6) := by
        show A = 6
        rw [HE.out, if_pos h2]
      have h2b : (E == 0) = false := by rw [beq_eq_false_iff_ne]; exact h2
      clear h2 HE hsh
      go_enter Tryz.func48, Tryz.ntmps48
      go_wp2_with (go_at_call 39; refine (hsp _).mono ?_; rintro e w1 ⟨a, n, c, rfl, hown, HG⟩)
      go_ret
      exact ⟨by rw [HV.out]; rfl, grown_trans (World.grownBy_alloc _ _ none) HG⟩
end Go.Proofs.YtbpoealcaogjpaaGreatDoor
