/- The chains' own memory, as it is made. -/
import Derived.Test.YteghhmnkdmehbaaMC
import Derived.Laws.Tables
import Derived.Deep.WholeRow
namespace Go.Proofs.Yteghhmnkdmehbaa
open Go.RowKit
set_option linter.unusedSimpArgs false
set_option linter.unusedVariables false

def isZ (v : Value) : Bool := match v with
  | .int k x => (match k with
    | .i64 => decide (x = 0)
    | _ => false)
  | _ => false
def isN (v : Value) : Bool := match v with
  | .slice a n c => a.isNone && decide (n = 0) && decide (c = 0)
  | _ => false
def chz : List Value → Nat → Bool
  | [], _ => false
  | v :: l, 0 => isN v && l.isEmpty
  | v :: l, n + 1 => isZ v && chz l n
theorem isZ_eq {v : Value} (h : isZ v = true) : v = .int .i64 0 := by
  unfold isZ at h
  split at h
  · split at h
    · simp at h; rw [h]
    · cases h
  · cases h
theorem isN_eq {v : Value} (h : isN v = true) : v = .slice none 0 0 := by
  unfold isN at h
  split at h
  · simp at h; obtain ⟨⟨rfl, rfl⟩, rfl⟩ := h; rfl
  · cases h
theorem chz_eq (L : List Value) (n : Nat) (h : chz L n = true) : L = List.replicate n (.int .i64 0) ++ [.slice none 0 0] := by
  induction L generalizing n with
  | nil => simp [chz] at h
  | cons v l ih =>
    cases n with
    | zero =>
      rw [chz, Bool.and_eq_true] at h
      rw [isN_eq h.1, List.isEmpty_iff.1 h.2]
      rfl
    | succ n =>
      rw [chz, Bool.and_eq_true] at h
      rw [isZ_eq h.1, List.replicate_succ, List.cons_append, ← ih n h.2]
def zof (t : TypeInfo) : List Value := match t.zero with
  | some (.agg c) => c.toList
  | _ => []
theorem z60_zero : Try.t60.zero = some (.agg (zof Try.t60).toArray) := by kernel_rfl
theorem z60_ok : chz (zof Try.t60) 8192 = true := by kernel_rfl
theorem hcs_zero (bs : List Int) : hcs bs 0 = List.replicate 8192 (.int .i64 0) := by
  rw [List.eq_replicate_iff]
  refine ⟨hcs_len _ _, fun v hv => ?_⟩
  unfold hcs at hv
  rw [List.mem_map] at hv
  obtain ⟨s, _, rfl⟩ := hv
  rfl
theorem z60_eq (bs : List Int) : zof Try.t60 = hcs bs 0 ++ [.slice none 0 0] := by rw [hcs_zero]; exact chz_eq _ _ z60_ok
theorem info_of {P : Program} {t : TypeId} {T : TypeInfo} (h : (typeInfo t).run P default = .ok T default) : P.info? t = some T := by
  cases hq : P.info? t with
  | none => simp [typeInfo, hq] at h
  | some i => simp [typeInfo, hq] at h; rw [h]
theorem info60 : Try.prog.info? 60 = some Try.t60 := info_of (Try.typeInfo60 default)
theorem size60 : Try.t60.size = 8193 := by kernel_rfl
theorem size58 : Try.t58.size = 8192 := by kernel_rfl
theorem size57 : Try.t57.size = 1 := by kernel_rfl
theorem zero60 (bs : List Int) : (∀ w, (zeroValue 60).run Try.prog w = .ok (.agg (hcs bs 0 ++ [Value.slice none 0 0]).toArray) w) ∧ (Try.prog.info? 60).map (·.size) = some 8193 := by
  refine zero_of_info ?_
  rw [info60, Option.map_some, z60_zero, z60_eq bs, size60]
theorem chn_size (bs : List Int) (v : Value) : (hcs bs 0 ++ [v]).toArray.size = 8193 := by rw [List.size_toArray, List.length_append, hcs_len]; rfl
theorem chn_one (bs : List Int) (v : Value) (hv : v.oneCell' = true) : (hcs bs 0 ++ [v]).toArray.all (·.oneCell') = true := by
  rw [Array.all_eq_true']
  intro x hx
  rw [List.mem_toArray, List.mem_append] at hx
  rcases hx with hx | hx
  · rw [hcs_zero] at hx; rw [List.eq_of_mem_replicate hx]; rfl
  · rw [List.mem_singleton] at hx; rw [hx]; exact hv
theorem built_of {P : Program} {t : TypeId} {T : TypeInfo} {fs : Array Field} {z : Array Value} {places : List (Nat × Nat)} {off : Nat} {v : Value} {k : Nat} (h1 : P.info? t = some T) (h2 : P.underlying t = some (.struct fs)) (h3 : T.zero = some (.agg z))
    (h4 : fs.toList.mapM (fun f => (P.info? f.type).map fun i => (f.offset, i.size)) = some places) (h5 : places[k]? = some (off, 1)) (hv : v.cells = #[v]) (hz : off + 1 ≤ z.size) : P.built t [(k, v)] = some (z.setIfInBounds off v) := by
  unfold Program.built
  rw [h1, h2]
  simp only [h3, h4]
  have e : (Value.agg z).cells = z := rfl
  rw [e]
  unfold Instr.fill
  simp only [List.getElem?_toArray, h5, hv]
  rw [if_neg (by simp; omega)]
  simp [Instr.fill]
theorem set_last (l : List Value) (x v : Value) (n : Nat) (h : l.length = n) : (l ++ [x]).toArray.setIfInBounds n v = (l ++ [v]).toArray := by
  subst h
  rw [List.setIfInBounds_toArray, List.set_append_right _ _ (Nat.le_refl _), Nat.sub_self, List.set_cons_zero]
theorem places60 : (#[{ name := "heads", type := 58, offset := 0, embedded := false, tag := "", pkgPath := "portmanteau/match", byteOffset := 0 }, { name := "before", type := 57, offset := 8192, embedded := false, tag := "", pkgPath := "portmanteau/match", byteOffset := 65536 }] : Array Field).toList.mapM (fun f => (Try.prog.info? f.type).map fun i => (f.offset, i.size)) = some [(0, 8192), (8192, 1)] := by
  simp only [List.mapM_cons, List.mapM_nil, info_of (Try.typeInfo58 default), info_of (Try.typeInfo57 default), Option.map_some, size58, size57, Option.bind_eq_bind, Option.bind_some, Option.pure_def]
theorem built60 (bs : List Int) (v : Value) (hv : v.cells = #[v]) : Try.prog.built 60 [(1, v)] = some (hcs bs 0 ++ [v]).toArray := by
  have hz : 8192 + 1 ≤ (zof Try.t60).toArray.size := by rw [z60_eq bs, chn_size]; exact Nat.le_refl _
  have h := built_of (v := v) (k := 1) (off := 8192) (places := [(0, 8192), (8192, 1)]) info60 Try.underlying60 z60_zero places60 rfl hv hz
  have e := set_last (hcs bs 0) (.slice none 0 0) v 8192 (hcs_len _ _)
  have e2 := congrArg (fun Z : List Value => some (Z.toArray.setIfInBounds 8192 v)) (z60_eq bs)
  exact h.trans (e2.trans (congrArg some e))
end Go.Proofs.Yteghhmnkdmehbaa
