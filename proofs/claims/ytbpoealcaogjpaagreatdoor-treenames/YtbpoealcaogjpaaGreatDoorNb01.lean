/- A list of entries in memory of its own, over the rows of another one: what TreeNames and TreeOrders write. TreeNames, plain: the list that is written is the renamed one. TreeNames. A byte that came in. -/
import Derived.Test.YtbpoealcaogjpaaGreatDoorCk27
namespace Go.Proofs.YtbpoealcaogjpaaGreatDoor
open Go.RowKit
set_option maxRecDepth 100000
set_option linter.unusedSimpArgs false
set_option linter.unusedVariables false

structure Eo (w W : World) (base : Nat) (v : Value) (l : List EnV) : Prop where
  gr : w.grownBy W none
  low : w.heap.size ≤ base
  own : W.ownsRow base 44 11 v l.length (l.flatMap evc)
  each : ∀ X ∈ l, X.ok w
theorem Eo.kept {w W W' : World} {base : Nat} {v : Value} {l : List EnV} (h : Eo w W base v l) (g : W.grownBy W' none) : Eo w W' base v l := ⟨grown_trans h.gr g, h.low, owns_kept11 h.own g, h.each⟩
theorem Eo.ens {w W : World} {base n c : Nat} {a : Option Addr} {l : List EnV} (h : Eo w W base (.slice a n c) l) (hn : l.length = n) : Ens W a n l := by
  obtain ⟨a', c', e, k⟩ := own_ens h.own rfl (fun X hX => (h.each X hX).grown h.gr)
  injection e with e1 e2 e3
  rw [e1, ← hn]; exact k
theorem Eo.cell {w W : World} {base g c n : Nat} {l : List EnV} (h : Eo w W base (.slice (some ⟨g, 0, none⟩) n c) l) (hn : l.length = n) {i f : Nat} {X : EnV} (hX : l[i]? = some X) (hf : f < 11) : W.cell? ⟨g, i * 11 + f, none⟩ = (evc X)[f]? := by
  have hi : i < l.length := (List.getElem?_eq_some_iff.1 hX).1
  have ho := h.own
  rw [← hn] at ho
  rw [ho.cellAt (i * 11 + f) (by omega), flat_at evc 11 evc_len l i f X hX hf]
theorem Eo.froz {w W : World} {base g c n : Nat} {l : List EnV} (h : Eo w W base (.slice (some ⟨g, 0, none⟩) n c) l) (hn : l.length = n) (j : Nat) : W.frozen? ⟨g, j, none⟩ = false := by
  have ho := h.own
  rw [← hn] at ho
  exact ho.frozenAt j
/-- a field is written; the rows stay -/
theorem Eo.set {w W : World} {base g c n : Nat} {l : List EnV} (h : Eo w W base (.slice (some ⟨g, 0, none⟩) n c) l) (hn : l.length = n) {i f : Nat} {X X' : EnV} {u : Value} (hX : l[i]? = some X) (hf : f < 11) (e : evc X' = (evc X).set f u) (ho' : X'.ok w) :
    Eo w (W.setCell ⟨g, i * 11 + f, none⟩ u) base (.slice (some ⟨g, 0, none⟩) n c) (l.set i X') ∧ W.grownBy (W.setCell ⟨g, i * 11 + f, none⟩ u) (some g) := by
  have ho := h.own
  rw [hn] at ho
  obtain ⟨h1, h2⟩ := ho.stored (i * 11 + f) u
  rw [flat_set evc 11 evc_len u l i f X X' hX hf e] at h1
  refine ⟨⟨grown_ownB h.gr h.own h2 h.low, h.low, by rw [List.length_set, hn]; exact h1, fun Y hY => ?_⟩, h2⟩
  rcases List.mem_or_eq_of_mem_set hY with hY' | rfl
  · exact h.each Y hY'
  · exact ho'
theorem Eo.form {w W : World} {base : Nat} {v : Value} {l : List EnV} (h : Eo w W base v l) (h0 : l ≠ []) : ∃ g c, v = .slice (some ⟨g, 0, none⟩) l.length c ∧ base ≤ g ∧ l.length ≤ c ∧ c ≤ maxLen ∧ W.heap.size > g := by
  rcases h.own.2 with ⟨_, hn⟩ | ⟨g, cap, cur, hv, hb, hq, hc, hm, _⟩
  · exact absurd (List.eq_nil_of_length_eq_zero hn) h0
  · exact ⟨g, cap, hv, hb, hc, hm, by
      have := (Array.getElem?_eq_some_iff.1 hq).1
      exact this⟩
/-- append([]Entry{}, l...) -/
theorem copy_ents {W : World} {a : Option Addr} {len cap : Nat} {l : List EnV} (E : Ens W a len l) (h1 : 1 ≤ len) (hl : len ≤ 100000) :
    ∃ v' W9, (Builtin.append_ #[22, 22] 22 #[.slice (some ⟨W.heap.size, 0, none⟩) 0 0, .slice a len cap]).run Tryz.prog (W.alloc (.cells #[] 44)) = .ok v' W9 ∧ Eo W W9 W.heap.size v' l := by
  obtain ⟨ie, hi, hz0, hz1, hz2⟩ := info_parts Tryz.infoE
  have gA := World.grownBy_alloc W (.cells #[] 44) none
  have bA := Bx.new W 44 []
  have hE := E.grown gA
  have h0 : (W.alloc (.cells #[] 44)).ownsRow W.heap.size 44 11 (.slice (some ⟨W.heap.size, 0, none⟩) 0 0) 0 [] :=
    ⟨rfl, .inr ⟨W.heap.size, 0, #[], rfl, Nat.le_refl _, bA.blk, Nat.le_refl _, by decide, rfl, rfl⟩⟩
  obtain ⟨b, o, rfl, k⟩ := hE.at_ h1
  obtain ⟨v', W9, hrun, hown', hgrow, _, _⟩ := run_append_own_at (P := Tryz.prog) (W.alloc (.cells #[] 44)) W.heap.size 22 22 44 ie _ 11 _ Tryz.underlying22 hi hz0 hz1 hz2 rfl (by decide) _ _ _ h0 ⟨b, o, none⟩ len cap (l.flatMap evc) (by rw [flat_len evc 11 evc_len, E.len_eq]) (ens_cells k) (flat_one l) (by unfold maxLen; omega) (by omega) (by have := gA.size; omega)
  refine ⟨v', W9, hrun, grown_ownB gA h0 hgrow (Nat.le_refl _), Nat.le_refl _, ?_, E.ok⟩
  rw [E.len_eq]
  have e : 0 + len = len := by omega
  rw [e] at hown'
  exact hown'
end Go.Proofs.YtbpoealcaogjpaaGreatDoor

namespace Go.Proofs.YtbpoealcaogjpaaGreatDoor
open Go.RowKit
set_option maxRecDepth 100000
set_option linter.unusedSimpArgs false
set_option linter.unusedVariables false

theorem ent_once {l : List EnV} (ok : OkS (ens l)) {i j : Nat} {X Y : EnV} (hX : l[i]? = some X) (hY : l[j]? = some Y) (e : X.path.toList = Y.path.toList) : i = j := by
  have hx : (ens l)[i]? = some X.en := by unfold ens; rw [List.getElem?_map, hX]; rfl
  have hy : (ens l)[j]? = some Y.en := by unfold ens; rw [List.getElem?_map, hY]; rfl
  apply ok.rt.once i j
  · unfold pths; rw [List.length_map]; exact (List.getElem?_eq_some_iff.1 hx).1
  · unfold pths; rw [List.length_map]; exact (List.getElem?_eq_some_iff.1 hy).1
  · rw [pths_getD hx, pths_getD hy]; exact e
theorem self_hard {l : List EnV} (ok : OkS (ens l)) {i : Nat} {X : EnV} (hX : l[i]? = some X) (h6 : X.k = 6) (e : X.path = X.target) : False := by
  have hm : X.en ∈ ens l := List.mem_map.2 ⟨X, List.mem_of_getElem? hX, rfl⟩
  obtain ⟨y, hy, e1, e2, e3⟩ := thing_mem ((ok.each _ hm).hard h6)
  have e4 : X.en.path = X.target.toList := by show X.path.toList = _; rw [e]
  have h1 := look_mem ok.once hm
  have h2 := look_mem ok.once hy
  have e5 : y.path = X.target.toList := e1
  rw [e4] at h1
  rw [e5, h1] at h2
  rw [← h2] at e3
  exact e3 h6
/-- a further name of what was renamed -/
def retV (a h : ByteArray) (E : EnV) : EnV := if E.k = 6 ∧ E.target.toList = a.toList then { E with target := h } else E
def rtl (a h : ByteArray) (j : Nat) (m : List EnV) : List EnV := (m.take j).map (retV a h) ++ m.drop j
theorem rtl_len (a h : ByteArray) (j : Nat) (m : List EnV) : (rtl a h j m).length = m.length := by
  unfold rtl; rw [List.length_append, List.length_map, List.length_take, List.length_drop]; omega
theorem rtl_at (a h : ByteArray) {j : Nat} {m : List EnV} {E : EnV} (hE : m[j]? = some E) : (rtl a h j m)[j]? = some E := by
  have hj := (List.getElem?_eq_some_iff.1 hE).1
  unfold rtl
  rw [List.getElem?_append_right (by rw [List.length_map, List.length_take]; omega), List.length_map, List.length_take, Nat.min_eq_left (by omega), List.getElem?_drop]
  simpa using hE
theorem rtl_next (a h : ByteArray) {j : Nat} {m : List EnV} {E : EnV} (hE : m[j]? = some E) : rtl a h (j + 1) m = (rtl a h j m).set j (retV a h E) := by
  have hj := (List.getElem?_eq_some_iff.1 hE).1
  unfold rtl
  rw [take_snoc hE, List.map_append, List.set_append_right _ _ (by rw [List.length_map, List.length_take]; omega), List.length_map, List.length_take, Nat.min_eq_left (by omega), Nat.sub_self, List.drop_eq_getElem_cons hj, List.append_assoc]
  rfl
theorem set_same {α : Type} {l : List α} {j : Nat} {x : α} (h : l[j]? = some x) : l.set j x = l := by
  apply List.ext_getElem?
  intro i
  rw [List.getElem?_set]
  by_cases e : j = i
  · subst e
    rw [if_pos rfl, if_pos (List.getElem?_eq_some_iff.1 h).1, h]
  · rw [if_neg e]
theorem retV_yes {a h : ByteArray} {E : EnV} (h6 : E.k = 6) (ht : E.target.toList = a.toList) : retV a h E = { E with target := h } := if_pos ⟨h6, ht⟩
theorem retV_not {a h : ByteArray} {E : EnV} (hn : ¬ (E.k = 6 ∧ E.target.toList = a.toList)) : retV a h E = E := if_neg hn
theorem retV_en (a h : ByteArray) (E : EnV) : (retV a h E).en = ret a.toList h.toList E.en := by
  unfold retV ret
  by_cases c : E.k = 6 ∧ E.target.toList = a.toList
  · rw [if_pos c, if_pos (show E.en.k = 6 ∧ E.en.target = a.toList from c)]; rfl
  · rw [if_neg c, if_neg (show ¬ (E.en.k = 6 ∧ E.en.target = a.toList) from c)]
theorem names_ens {l : List EnV} (ok : OkS (ens l)) {i k : Nat} {X Y : EnV} (hX : l[i]? = some X) (hY : l[k]? = some Y) (hik : i ≠ k) :
    ens (rtl Y.path X.path l.length ((l.set k { Y with path := X.path }).set i { X with path := Y.path })) = (ens l).map (ren11 Y.path.toList X.path.toList) := by
  have hm : ((l.set k { Y with path := X.path }).set i { X with path := Y.path }).length = l.length := by rw [List.length_set, List.length_set]
  unfold rtl
  rw [← hm, List.take_length, List.drop_length, List.append_nil]
  unfold ens
  rw [List.map_map, List.map_map]
  apply List.ext_getElem?
  intro j
  rw [List.getElem?_map, List.getElem?_map, List.getElem?_set, List.getElem?_set]
  have hil := (List.getElem?_eq_some_iff.1 hX).1
  have hkl := (List.getElem?_eq_some_iff.1 hY).1
  have hne : X.path.toList ≠ Y.path.toList := fun e => hik (ent_once ok hX hY e)
  by_cases h1 : i = j
  · subst h1
    rw [if_pos rfl, if_pos (by rw [List.length_set]; exact hil), hX]
    show some ((retV Y.path X.path { X with path := Y.path }).en) = some (ren11 _ _ X.en)
    rw [retV_en]
    unfold ren11 swp
    rw [if_neg (show ¬ X.en.path = Y.path.toList from hne), if_pos (show X.en.path = X.path.toList from rfl)]
    rfl
  · rw [if_neg h1]
    by_cases h2 : k = j
    · subst h2
      rw [if_pos rfl, if_pos hkl, hY]
      show some ((retV Y.path X.path { Y with path := X.path }).en) = some (ren11 _ _ Y.en)
      rw [retV_en]
      unfold ren11 swp
      rw [if_pos (show Y.en.path = Y.path.toList from rfl)]
      rfl
    · rw [if_neg h2]
      cases hE : l[j]? with
      | none => rfl
      | some E =>
        show some ((retV Y.path X.path E).en) = some (ren11 _ _ E.en)
        rw [retV_en]
        unfold ren11 swp
        rw [if_neg (show ¬ E.en.path = Y.path.toList from fun e => h2 (ent_once ok hE hY e).symm), if_neg (show ¬ E.en.path = X.path.toList from fun e => h1 (ent_once ok hE hX e).symm)]
theorem ren_data (a h : Tx) (x : En) : (ren11 a h x).data = x.data := by
  unfold ren11 ret swp
  split <;> split <;> first | rfl | (split <;> rfl)
theorem sums_ren (a h : Tx) (l : List En) : sums (l.map (ren11 a h)) = sums l := by
  unfold sums
  rw [List.map_map]
  congr 1
  apply List.map_congr_left
  intro x _
  show (if (ren11 a h x).k = 1 then ((ren11 a h x).data.length : Int) else 0) = _
  rw [ren_k, ren_data]
/-- what is asked of the list that is written -/
theorem names_ok {l : List EnV} {i k : Nat} {X Y : EnV} (hc : (chk11 (ens l)).2 = 0) (hX : l[i]? = some X) (hY : l[k]? = some Y) (h6 : X.k = 6) (ht : Y.path = X.target) (hs : Szs l) :
    (chk11 (ens (rtl Y.path X.path l.length ((l.set k { Y with path := X.path }).set i { X with path := Y.path })))).2 = 0 ∧ canon (ens (rtl Y.path X.path l.length ((l.set k { Y with path := X.path }).set i { X with path := Y.path }))) = canon (ens l) ∧ Szs (rtl Y.path X.path l.length ((l.set k { Y with path := X.path }).set i { X with path := Y.path })) := by
  obtain ⟨c1, c2, ok⟩ := chk_ok.1 hc
  have hXm : X.en ∈ ens l := List.mem_map.2 ⟨X, List.mem_of_getElem? hX, rfl⟩
  have hYm : Y.en ∈ ens l := List.mem_map.2 ⟨Y, List.mem_of_getElem? hY, rfl⟩
  have hik : i ≠ k := fun e => by
    subst e
    rw [hX] at hY
    injection hY with hY
    subst hY
    exact self_hard ok hX h6 ht
  have hka : Y.en.k ≠ 2 ∧ Y.en.k ≠ 6 := by
    obtain ⟨y, hy, e1, e2, e3⟩ := thing_mem ((ok.each _ hXm).hard h6)
    have : y = Y.en := by
      rw [← look_mem ok.once hy, ← look_mem ok.once hYm, e1]
      show look (ens l) X.target.toList = look (ens l) Y.path.toList
      rw [ht]
    rw [← this]; exact ⟨e2, e3⟩
  have hT : Two (ens l) Y.en X.en := ⟨hYm, hXm, hka, h6, by show X.target.toList = Y.path.toList; rw [ht]⟩
  obtain ⟨o1, o2⟩ := canon_names hT ok
  have e := names_ens ok hX hY hik
  rw [e]
  refine ⟨chk_ok.2 ⟨by rw [List.length_map]; exact c1, by rw [sums_ren]; exact c2, o1⟩, o2, ?_⟩
  have h2 : ∀ E ∈ ((l.set k { Y with path := X.path }).set i { X with path := Y.path }), E.path.size ≤ 5000 ∧ E.target.size ≤ 9223372036854775807 ∧ ∀ A ∈ E.attrs, A.n.size ≤ 9223372036854775807 := by
    intro E hE
    have sX := hs X (List.mem_of_getElem? hX)
    have sY := hs Y (List.mem_of_getElem? hY)
    rcases List.mem_or_eq_of_mem_set hE with hE | rfl
    · rcases List.mem_or_eq_of_mem_set hE with hE | rfl
      · exact hs E hE
      · exact ⟨sX.1, sY.2⟩
    · exact ⟨sY.1, sX.2⟩
  intro E hE
  unfold rtl at hE
  rcases List.mem_append.1 hE with hE | hE
  · obtain ⟨F, hF, rfl⟩ := List.mem_map.1 hE
    have sF := h2 F (List.mem_of_mem_take hF)
    have sX := hs X (List.mem_of_getElem? hX)
    unfold retV
    split
    · exact ⟨sF.1, by show X.path.size ≤ _; have := sX.1; omega, sF.2.2⟩
    · exact sF
  · exact h2 E (List.mem_of_mem_drop hE)
end Go.Proofs.YtbpoealcaogjpaaGreatDoor

namespace Go.Proofs.YtbpoealcaogjpaaGreatDoor
open Go.RowKit
set_option maxRecDepth 100000
set_option linter.unusedSimpArgs false
set_option linter.unusedVariables false

set_option maxHeartbeats 8000000 in
theorem treeNames_walk (a : Option Addr) (len cap : Nat) (l : List EnV) (n0 : Nat) (w : World) (E : Ens w a len l) (hn0 : n0 ≤ 255) : Calls Tryz.prog 8 #[.slice a len cap, .int .u8 n0] w fun e w' => e = .returned (.bool true) ∧ w.grownBy w' none := by
  have hmu := rmuch_any a len cap l w E
  unfold MuPost at hmu
  have HE : Hid _ := E
  have hll := E.len_eq
  have HLL : Hid _ := hll
  clear E hll
  go_enter Tryz.func8, Tryz.ntmps8
  go_wp2_with fail
  refine hmu.mono ?_
  clear hmu
  rintro e W1 ⟨rfl | ⟨rfl, hlen, hsm⟩, g1⟩
  · go_wp2_with fail
    refine (live11_any _).mono ?_
    rintro e W2 ⟨rfl, g2⟩
    go_wp2
    go_ret
    exact ⟨rfl, grown_trans g1 g2⟩
  · have HG1 : Hid _ := g1
    have HS : Hid _ := And.intro hsm.sml hlen
    clear g1 hsm
    by_cases h0 : len = 0
    · subst h0
      clear hlen
      go_wp2_with fail
      refine (live11_any _).mono ?_
      rintro e W2 ⟨rfl, g2⟩
      go_wp2
      go_ret
      exact ⟨rfl, grown_trans HG1.out g2⟩
    · have hlb : ((len : Int) == 0) = false := by rw [beq_eq_false_iff_ne]; omega
      have hln : ¬ ((len : Int) = 0) := by omega
      have hrc := rcheck_any a len cap l W1 (HE.out.grown HG1.out) HS.out.1 (by omega)
      generalize hc1 : (chk11 (ens l)).1 = k1 at *
      generalize hc2 : (chk11 (ens l)).2 = k2 at *
      have HK : Hid _ := hc2
      clear hc1 hc2
      go_wp2_with fail
      refine hrc.mono ?_
      clear hrc
      rintro e W2 ⟨rfl, g2⟩
      have HG2 : Hid _ := grown_trans HG1.out g2
      clear g2 HG1
      obtain ⟨i, hi, hil⟩ : ∃ i : Nat, Int.tmod (n0 : Int) (len : Int) = (i : Int) ∧ i < len := ⟨n0 % len, by rw [Int.ofNat_tmod], Nat.mod_lt _ (by omega)⟩
      obtain ⟨X, hX⟩ : ∃ X, l[i]? = some X := ⟨_, List.getElem?_eq_getElem (by rw [HLL.out]; exact hil)⟩
      obtain ⟨b, off, rfl, hat⟩ := (HE.out.grown HG2.out).at_ (by omega)
      have y1 := (hat i X hX).c1
      have hili : (i : Int) < (len : Int) := by omega
      have hconv : IntKind.i64.wrap (n0 : Int) = (n0 : Int) := by simp [IntKind.wrap, IntKind.bits, IntKind.signed]; omega
      have hw2 : IntKind.i64.wrap (i : Int) = (i : Int) := by simp [IntKind.wrap, IntKind.bits, IntKind.signed]; omega
      by_cases hk : k2 = 0
      · subst hk
        by_cases h6 : X.k = 6
        · rw [h6] at y1
          obtain ⟨v8, W3, hrun, hEo⟩ := copy_ents (cap := cap) (HE.out.grown HG2.out) (by omega) (by omega)
          obtain ⟨g, c, rfl, hgb, hgc, hcm, hgW⟩ := hEo.form (by intro e; rw [e] at hX; cases hX)
          rw [HLL.out] at hrun hEo hgc
          have HR : Hid _ := hrun
          have HOK : Hid _ := (chk_ok.1 HK.out).2.2
          have heX : (ens l)[i]? = some X.en := by unfold ens; rw [List.getElem?_map, hX]; rfl
          obtain ⟨Z, hZ, hZp⟩ : ∃ Z, l[ownI (ens l) i X.en]? = some Z ∧ Z.path.toList = X.target.toList := by
            obtain ⟨y, hy, e⟩ := ownI_facts HOK.out heX
            unfold ens at hy
            rw [List.getElem?_map] at hy
            cases hz : l[ownI (ens l) i X.en]? with
            | none => unfold ens at hz; rw [hz] at hy; cases hy
            | some Z =>
              unfold ens at hz
              rw [hz] at hy
              injection hy with hy
              refine ⟨Z, rfl, ?_⟩
              unfold opath at e
              rw [if_pos (show X.en.k = 6 from h6), ← hy] at e
              exact e
          generalize hkk : ownI (ens l) i X.en = kk at *
          have hkl : kk < len := by rw [← HLL.out]; exact (List.getElem?_eq_some_iff.1 hZ).1
          have HEo : Hid _ := hEo
          have HZ : Hid _ := And.intro hZ (And.intro hZp hkk)
          have HX : Hid _ := And.intro hX h6
          have y8 := (hat i X hX).c8
          have HY : Hid _ := y8
          have HGG : Hid _ := And.intro hgb (And.intro hgc (And.intro hcm hgW))
          have hcx : ∀ (j : Nat) (Y : EnV), l[j]? = some Y → W2.cell? ⟨b, off + j * 11, none⟩ = some (.string Y.path) := fun j Y h => (hat j Y h).c0
          have HCX : Hid _ := hcx
          clear hrun hEo hgb hgc hcm hgW hkk heX hat hZ hZp hX h6 y8 hcx
          go_wp2_with ((with_reducible refine app_here ?_); refine wpList_appR rfl _ _ 22 22 rfl _ _ _ rfl rfl HR.out ?_)
          clear HR
          go_loopw [9] (fun v9 wr => ∃ k : Nat, k ≤ kk ∧ v9 = .int .i64 k ∧ Hid (Eo W2 wr W2.heap.size (.slice (some ⟨g, 0, none⟩) len c) l)) (fun v9 _ => kk - (intOf v9).toNat)
          case atStart => exact ⟨0, Nat.zero_le _, rfl, HEo.out⟩
          case round =>
            clear HEo
            obtain ⟨k, hk, rfl, HO⟩ := hrel
            obtain ⟨Y, hY⟩ : ∃ Y, l[k]? = some Y := ⟨_, List.getElem?_eq_getElem (by rw [HLL.out]; omega)⟩
            have m0 : wr.cell? ⟨g, k * 11 + 0, none⟩ = some (.string Y.path) := by rw [HO.out.cell HLL.out hY (by decide)]; rfl
            rw [Nat.add_zero] at m0
            have x8 := cell_grown HY.out HO.out.gr
            have hkli : (k : Int) < (len : Int) := by omega
            by_cases hkq : k = kk
            · subst hkq
              have hYZ : Y = Z := by have h := HZ.out.1; rw [hY] at h; injection h
              subst hYZ
              have hpt : Y.path = X.target := tl_inj HZ.out.2.1
              rw [hpt] at m0
              have hbb : (X.target.toList == X.target.toList) = true := by simp
              go_wp2_with fail
              go_quiet (fail)
              go_wp2_with fail
              have gD : wr.grownBy (wr.drewN nq).drew none := ⟨rfl, rfl, rfl, Nat.le_refl _, fun _ _ _ => rfl⟩
              have hO := HO.out.kept gD
              have hik : i ≠ k := fun e => by
                subst e
                have h1 := HX.out.1
                rw [hY] at h1
                injection h1 with h1
                subst h1
                exact self_hard HOK.out hY HX.out.2 hpt
              have cx : W2.cell? ⟨b, off + i * 11, none⟩ = some (.string X.path) := HCX.out i X HX.out.1
              have cy : W2.cell? ⟨b, off + k * 11, none⟩ = some (.string Y.path) := HCX.out k Y hY
              have HPT : Hid _ := hpt
              clear m0 x8 gD hpt hbb
              rename_i K9 hnext
              refine wp_region_held_drew (S := fun w' => W2.grownBy w' none) (by kernel_rfl) hO.gr (fun hH => ?_)
              generalize (wr.drewN nq).drew = WD at *
              refine wpAnyH_take (i := 0) (oi := ⟨some 60, _, _, _, _, _⟩) (v := .slice (some ⟨g, 0, none⟩) len c) rfl (by kernel_rfl) (by kernel_rfl) (by kernel_rfl) (fun _ _ _ h => h) (Or.inl ⟨by rfl, fun w hSw => by go_simp⟩) hH ?_
              simp only [Act.put, List.setIfInBounds_toArray, List.set_cons_zero, List.set_cons_succ]
              refine wpAnyH_take (i := 1) (oi := ⟨some 61, _, _, _, _, _⟩) (v := .int .i64 k) rfl (by kernel_rfl) (by kernel_rfl) (by kernel_rfl) (fun _ _ _ h => h) (Or.inl ⟨by rfl, fun w hSw => by go_simp⟩) hH ?_
              simp only [Act.put, List.setIfInBounds_toArray, List.set_cons_zero, List.set_cons_succ]
              refine wpAnyH_take (i := 2) (oi := ⟨some 62, _, _, _, _, _⟩) (v := .slice (some ⟨g, 0, none⟩) len c) rfl (by kernel_rfl) (by kernel_rfl) (by kernel_rfl) (fun _ _ _ h => h) (Or.inl ⟨by rfl, fun w hSw => by go_simp⟩) hH ?_
              simp only [Act.put, List.setIfInBounds_toArray, List.set_cons_zero, List.set_cons_succ]
              refine wpAnyH_take (i := 3) (oi := ⟨some 63, _, _, _, _, _⟩) (v := .int .i64 i) rfl (by kernel_rfl) (by kernel_rfl) (by kernel_rfl) (fun _ _ _ h => h) (Or.inl ⟨by rfl, fun w hSw => by go_simp⟩) hH ?_
              simp only [Act.put, List.setIfInBounds_toArray, List.set_cons_zero, List.set_cons_succ]
              refine wpAnyH_take (i := 4) (oi := ⟨some 64, _, _, _, _, _⟩) (v := .slice (some ⟨b, off, none⟩) len cap) rfl (by kernel_rfl) (by kernel_rfl) (by kernel_rfl) (fun _ _ _ h => h) (Or.inl ⟨by rfl, fun w hSw => by go_simp⟩) hH ?_
              simp only [Act.put, List.setIfInBounds_toArray, List.set_cons_zero, List.set_cons_succ]
              refine wpAnyH_take (i := 5) (oi := ⟨some 65, _, _, _, _, _⟩) (v := .int .i64 i) rfl (by kernel_rfl) (by kernel_rfl) (by kernel_rfl) (fun _ _ _ h => h) (Or.inl ⟨by rfl, fun w hSw => by go_simp⟩) hH ?_
              simp only [Act.put, List.setIfInBounds_toArray, List.set_cons_zero, List.set_cons_succ]
              refine wpAnyH_take (i := 6) (oi := ⟨some 66, _, _, _, _, _⟩) (v := .pointer (some ⟨b, off + i * 11, none⟩)) rfl (by kernel_rfl) (by kernel_rfl) (by kernel_rfl) (fun _ _ _ h => h) (Or.inl ⟨by rfl, fun w hSw => by go_simp⟩) hH ?_
              simp only [Act.put, List.setIfInBounds_toArray, List.set_cons_zero, List.set_cons_succ]
              refine wpAnyH_take (i := 7) (oi := ⟨some 67, _, _, _, _, _⟩) (v := .pointer (some ⟨b, off + i * 11, none⟩)) rfl (by kernel_rfl) (by kernel_rfl) (by kernel_rfl) (fun _ _ _ h => h) (Or.inl ⟨by rfl, fun w hSw => by go_simp⟩) hH ?_
              simp only [Act.put, List.setIfInBounds_toArray, List.set_cons_zero, List.set_cons_succ]
              refine wpAnyH_take (i := 8) (oi := ⟨some 68, _, _, _, _, _⟩) (v := .string X.path) rfl (by kernel_rfl) (by kernel_rfl) (by kernel_rfl) (fun _ _ _ h => h) (Or.inl ⟨by rfl, fun w hSw => by have c0 := cell_grown cx hSw; go_simp⟩) hH ?_
              simp only [Act.put, List.setIfInBounds_toArray, List.set_cons_zero, List.set_cons_succ]
              refine wpAnyH_take (i := 9) (oi := ⟨some 69, _, _, _, _, _⟩) (v := .slice (some ⟨b, off, none⟩) len cap) rfl (by kernel_rfl) (by kernel_rfl) (by kernel_rfl) (fun _ _ _ h => h) (Or.inl ⟨by rfl, fun w hSw => by go_simp⟩) hH ?_
              simp only [Act.put, List.setIfInBounds_toArray, List.set_cons_zero, List.set_cons_succ]
              refine wpAnyH_take (i := 10) (oi := ⟨some 70, _, _, _, _, _⟩) (v := .int .i64 k) rfl (by kernel_rfl) (by kernel_rfl) (by kernel_rfl) (fun _ _ _ h => h) (Or.inl ⟨by rfl, fun w hSw => by go_simp⟩) hH ?_
              simp only [Act.put, List.setIfInBounds_toArray, List.set_cons_zero, List.set_cons_succ]
              refine wpAnyH_take (i := 11) (oi := ⟨some 71, _, _, _, _, _⟩) (v := .pointer (some ⟨b, off + k * 11, none⟩)) rfl (by kernel_rfl) (by kernel_rfl) (by kernel_rfl) (fun _ _ _ h => h) (Or.inl ⟨by rfl, fun w hSw => by go_simp⟩) hH ?_
              simp only [Act.put, List.setIfInBounds_toArray, List.set_cons_zero, List.set_cons_succ]
              refine wpAnyH_take (i := 12) (oi := ⟨some 72, _, _, _, _, _⟩) (v := .pointer (some ⟨b, off + k * 11, none⟩)) rfl (by kernel_rfl) (by kernel_rfl) (by kernel_rfl) (fun _ _ _ h => h) (Or.inl ⟨by rfl, fun w hSw => by go_simp⟩) hH ?_
              simp only [Act.put, List.setIfInBounds_toArray, List.set_cons_zero, List.set_cons_succ]
              refine wpAnyH_take (i := 13) (oi := ⟨some 73, _, _, _, _, _⟩) (v := .string Y.path) rfl (by kernel_rfl) (by kernel_rfl) (by kernel_rfl) (fun _ _ _ h => h) (Or.inl ⟨by rfl, fun w hSw => by have c0 := cell_grown cy hSw; go_simp⟩) hH ?_
              simp only [Act.put, List.setIfInBounds_toArray, List.set_cons_zero, List.set_cons_succ]
              refine wpAnyH_take (i := 14) (oi := ⟨some 74, _, _, _, _, _⟩) (v := .pointer (some ⟨g, k * 11, none⟩)) rfl (by kernel_rfl) (by kernel_rfl) (by kernel_rfl) (fun _ _ _ h => h) (Or.inl ⟨by rfl, fun w hSw => by go_simp⟩) hH ?_
              simp only [Act.put, List.setIfInBounds_toArray, List.set_cons_zero, List.set_cons_succ]
              refine wpAnyH_take (i := 15) (oi := ⟨some 75, _, _, _, _, _⟩) (v := .pointer (some ⟨g, k * 11, none⟩)) rfl (by kernel_rfl) (by kernel_rfl) (by kernel_rfl) (fun _ _ _ h => h) (Or.inl ⟨by rfl, fun w hSw => by go_simp⟩) hH ?_
              simp only [Act.put, List.setIfInBounds_toArray, List.set_cons_zero, List.set_cons_succ]
              refine wpAnyH_ready (rs := [16]) (by kernel_rfl) (by simp) ?_
              refine AllReadyH.cons rfl (fun K1 hK => ?_) AllReadyH.nil
              have c16 : WD.cell? ⟨g, k * 11 + 0, none⟩ = some (.string Y.path) := by rw [hO.cell HLL.out hY (by decide)]; rfl
              have f16 := hO.froz HLL.out (k * 11)
              have oY := hO.each Y (List.mem_of_getElem? hY)
              have hO1 := (hO.set HLL.out hY (f := 0) (X' := { Y with path := X.path }) (u := .string X.path) (by decide) rfl ⟨oY.row, oY.dcap, oY.ats, oY.acap⟩).1
              rw [Nat.add_zero] at c16 hO1
              go_simp
              refine hK.out _ _ hO1.gr (fun h0 => ?_)
              replace hH := hO1.gr
              clear h0 hK K1 c16 f16 oY hO
              generalize WD.setCell ⟨g, k * 11, none⟩ (.string X.path) = WE at *
              try simp only [Act.put, List.setIfInBounds_toArray, List.set_cons_zero, List.set_cons_succ]
              refine wpAnyH_take (i := 17) (oi := ⟨some 76, _, _, _, _, _⟩) (v := .pointer (some ⟨g, i * 11, none⟩)) rfl (by kernel_rfl) (by kernel_rfl) (by kernel_rfl) (fun _ _ _ h => h) (Or.inl ⟨by rfl, fun w hSw => by go_simp⟩) hH ?_
              simp only [Act.put, List.setIfInBounds_toArray, List.set_cons_zero, List.set_cons_succ]
              refine wpAnyH_take (i := 18) (oi := ⟨some 77, _, _, _, _, _⟩) (v := .pointer (some ⟨g, i * 11, none⟩)) rfl (by kernel_rfl) (by kernel_rfl) (by kernel_rfl) (fun _ _ _ h => h) (Or.inl ⟨by rfl, fun w hSw => by go_simp⟩) hH ?_
              simp only [Act.put, List.setIfInBounds_toArray, List.set_cons_zero, List.set_cons_succ]
              refine wpAnyH_ready (rs := [19]) (by kernel_rfl) (by simp) ?_
              refine AllReadyH.cons rfl (fun K1 hK => ?_) AllReadyH.nil
              have hX1 : (l.set k { Y with path := X.path })[i]? = some X := by rw [List.getElem?_set_ne (fun e => hik e.symm)]; exact HX.out.1
              have hl1 : (l.set k { Y with path := X.path }).length = len := by rw [List.length_set]; exact HLL.out
              have c19 : WE.cell? ⟨g, i * 11 + 0, none⟩ = some (.string X.path) := by rw [hO1.cell hl1 hX1 (by decide)]; rfl
              have f19 := hO1.froz hl1 (i * 11)
              have oX := hO1.each X (List.mem_of_getElem? hX1)
              have hO2 := (hO1.set hl1 hX1 (f := 0) (X' := { X with path := Y.path }) (u := .string Y.path) (by decide) rfl ⟨oX.row, oX.dcap, oX.ats, oX.acap⟩).1
              rw [Nat.add_zero] at c19 hO2
              go_simp
              refine hK.out _ _ hO2.gr (fun h0 => ?_)
              clear h0 hK K1 c19 f19 oX hO1 hX1 hl1 hH
              generalize WE.setCell ⟨g, i * 11, none⟩ (.string Y.path) = WF at *
              refine wpAnyH_done (by kernel_rfl) ?_ _
              have HO2 : Hid _ := hO2
              clear hO2
              refine hnext _ _ ?_
              clear hnext
              go_wp2_with fail
              generalize hm2 : (l.set k { Y with path := X.path }).set i { X with path := Y.path } = m2 at *
              have HM2 : Hid _ := hm2
              clear hm2
              have hml : m2.length = len := by rw [← HM2.out, List.length_set, List.length_set, HLL.out]
              have HML : Hid _ := hml
              clear hml
              go_loopw [10] (fun v10 wz => ∃ j : Nat, j ≤ len ∧ v10 = .int .i64 j ∧ Hid (Eo W2 wz W2.heap.size (.slice (some ⟨g, 0, none⟩) len c) (rtl Y.path X.path j m2))) (fun v10 _ => len - (intOf v10).toNat)
              case atStart => exact ⟨0, Nat.zero_le _, rfl, by show Eo _ _ _ _ _; unfold rtl; simpa using HO2.out⟩
              case round =>
                clear HO2
                obtain ⟨j, hj, rfl, HJ⟩ := hrel
                have hrl : (rtl Y.path X.path j m2).length = len := by rw [rtl_len]; exact HML.out
                have HRL : Hid _ := hrl
                clear hrl
                by_cases hjl : j < len
                · obtain ⟨F, hF⟩ : ∃ F, m2[j]? = some F := ⟨_, List.getElem?_eq_getElem (by rw [HML.out]; exact hjl)⟩
                  have hFr := rtl_at Y.path X.path hF
                  have e1 : wr.cell? ⟨g, j * 11 + 1, none⟩ = some (.int .i64 F.k) := by rw [HJ.out.cell HRL.out hFr (by decide)]; rfl
                  have e8 : wr.cell? ⟨g, j * 11 + 8, none⟩ = some (.string F.target) := by rw [HJ.out.cell HRL.out hFr (by decide)]; rfl
                  have cy1 := cell_grown cy HJ.out.gr
                  have cx1 := cell_grown cx HJ.out.gr
                  have hjli : (j : Int) < (len : Int) := by omega
                  have hnx := rtl_next Y.path X.path hF
                  by_cases hF6 : F.k = 6
                  · rw [hF6] at e1
                    by_cases hFt : F.target.toList = Y.path.toList
                    · have hbt : (F.target.toList == Y.path.toList) = true := by rw [hFt]; simp
                      have hbt6 : ((6 : Int) == 6) = true := rfl
                      go_wp2_with fail
                      go_quiet (fail)
                      have hJD := HJ.out.kept (drewG11 (World.grownBy.refl wr _) nq)
                      have c8 : (wr.drewN nq).cell? ⟨g, j * 11 + 8, none⟩ = some (.string F.target) := by rw [hJD.cell HRL.out hFr (by decide)]; rfl
                      have f8 := hJD.froz HRL.out (j * 11 + 8)
                      have cx2 := cell_grown cx hJD.gr
                      have oF := hJD.each F (List.mem_of_getElem? hFr)
                      have hJ2 := (hJD.set HRL.out hFr (f := 8) (X' := { F with target := X.path }) (u := .string X.path) (by decide) rfl ⟨oF.row, oF.dcap, oF.ats, oF.acap⟩).1
                      have HJ2 : Hid _ := hJ2
                      have HC8 : Hid _ := And.intro c8 f8
                      clear hJ2 hJD c8 f8 e8 cx1 cy1 oF
                      generalize wr.drewN nq = WG at *
                      go_wp2_with ((with_reducible refine str_here ?_); refine wpList_storeC rfl 9 _ _ rfl g (j * 11 + 8) (.string X.path) rfl rfl HC8.out.1 HC8.out.2 rfl size9 ?_)
                      exact ⟨⟨j + 1, by omega, by go_num, by rw [hnx, retV_yes hF6 hFt]; exact HJ2.out⟩, by simp [intOf]; omega⟩
                    · have hbt : (F.target.toList == Y.path.toList) = false := by rw [beq_eq_false_iff_ne]; exact hFt
                      go_wp2_with fail
                      go_quiet (fail)
                      go_wp2_with fail
                      exact ⟨⟨j + 1, by omega, by go_num, by rw [hnx, retV_not (by simp [hFt]), set_same hFr]; exact HJ.out.kept (drewG11 (World.grownBy.refl _ _) _)⟩, by simp [intOf]; omega⟩
                  · have hb6 : (F.k == 6) = false := by rw [beq_eq_false_iff_ne]; exact hF6
                    go_wp2_with fail
                    go_quiet (fail)
                    go_wp2_with fail
                    exact ⟨⟨j + 1, by omega, by go_num, by rw [hnx, retV_not (by simp [hF6]), set_same hFr]; exact HJ.out.kept (drewG11 (World.grownBy.refl _ _) _)⟩, by simp [intOf]; omega⟩
                · have hjn : ¬ (j : Int) < (len : Int) := by omega
                  obtain rfl : j = len := by omega
                  have hno := names_ok HK.out HX.out.1 hY HX.out.2 HPT.out (szs_of HS.out.1)
                  rw [HLL.out, HM2.out] at hno
                  have HNO : Hid _ := hno
                  clear hno
                  have hpc := pcanon_any (some ⟨b, off, none⟩) j cap l wr (HE.out.grown (grown_trans HG2.out HJ.out.gr)) (szs_of HS.out.1) (by omega)
                  unfold CnPost at hpc
                  rw [HK.out, if_pos rfl] at hpc
                  go_wp2_with fail
                  refine hpc.mono ?_
                  clear hpc
                  rintro e W4 ⟨g4, b4, n4, c4, ns4, rfl, hN4, -, -, hns4⟩
                  have gA := World.grownBy_alloc W4 (.cells #[.slice b4 n4 c4] 33) none
                  have hJ5 := HJ.out.kept (grown_trans g4 gA)
                  have BT4 := Bx.new W4 33 [.slice b4 n4 c4]
                  have hpm := pcanon_any (some ⟨g, 0, none⟩) j c _ (W4.alloc (.cells #[.slice b4 n4 c4] 33)) (hJ5.ens HRL.out) HNO.out.2.2 (by omega)
                  unfold CnPost at hpm
                  rw [HNO.out.1, if_pos rfl, HNO.out.2.1] at hpm
                  have HA : Hid _ := And.intro (hN4.grown gA) (And.intro hns4 (And.intro BT4 (grown_trans HG2.out hJ5.gr)))
                  clear g4 gA hJ5 BT4 hN4 hns4
                  go_wp2_with fail
                  refine hpm.mono ?_
                  clear hpm
                  rintro e W5 ⟨g5, b5, n5, c5, ns5, rfl, hN5, -, -, hns5⟩
                  have gB := World.grownBy_alloc W5 (.cells #[.slice b5 n5 c5] 33) none
                  have BT5 := Bx.new W5 33 [.slice b5 n5 c5]
                  have t4 : _ = some _ := ((HA.out.2.2.1.kept g5).kept gB).c 0
                  have t5 : _ = some _ := BT5.c 0
                  have hsm := rsame11_any b4 b5 n4 c4 n5 c5 ns4 ns5 (W5.alloc (.cells #[.slice b5 n5 c5] 33)) ((HA.out.1.grown g5).grown gB) (hN5.grown gB)
                  rw [HA.out.2.1, hns5, (sameNos_eq _ _).2 rfl] at hsm
                  have HFG : Hid _ := grown_trans (grown_trans HA.out.2.2.2 g5) gB
                  clear g5 gB BT5 hN5 hns5 HA
                  go_wp2_with (go_at_call 13; refine (num11_any _ _).mono ?_; rintro e w' ⟨rfl, rfl⟩)
                  refine hsm.mono ?_
                  rintro e W7 ⟨rfl, g7⟩
                  go_wp2_with fail
                  refine (live11_any _).mono ?_
                  rintro e W8 ⟨rfl, g8⟩
                  go_wp2
                  go_ret
                  exact ⟨rfl, grown_trans (grown_trans HFG.out g7) g8⟩
            · have hpt : Y.path ≠ X.target := fun e => hkq (by
                have h1 := HZ.out.1
                exact ent_once HOK.out hY h1 (by rw [e, HZ.out.2.1]))
              have hbb : (Y.path.toList == X.target.toList) = false := by rw [beq_eq_false_iff_ne]; exact fun e => hpt (tl_inj e)
              go_wp2_with fail
              go_quiet (fail)
              go_wp2_with fail
              exact ⟨⟨k + 1, by omega, by go_num, HO.out.kept (drewG11 (World.grownBy.refl _ _) _)⟩, by simp [intOf]; omega⟩
        · have h6b : (X.k == 6) = false := by rw [beq_eq_false_iff_ne]; exact h6
          have h6n : (X.k != 6) = true := by simp [h6]
          go_wp2_with fail
          refine (live11_any _).mono ?_
          rintro e W3 ⟨rfl, g3⟩
          go_wp2
          go_ret
          exact ⟨rfl, grown_trans HG2.out g3⟩
      · have hkb : (k2 == 0) = false := by rw [beq_eq_false_iff_ne]; exact hk
        have hkn : (k2 != 0) = true := by simp [hk]
        go_wp2_with fail
        refine (live11_any _).mono ?_
        rintro e W3 ⟨rfl, g3⟩
        go_wp2
        go_ret
        exact ⟨rfl, grown_trans HG2.out g3⟩
end Go.Proofs.YtbpoealcaogjpaaGreatDoor

namespace Go.Proofs.YtbpoealcaogjpaaGreatDoor
theorem nat_u8 {x : Int} (h : (Lit.int .u8 x).wf = true) : ∃ n : Nat, x = n ∧ n ≤ 255 := by
  have h2 : 0 ≤ x ∧ x ≤ 255 := by simpa [Lit.wf, IntKind.min, IntKind.max, IntKind.signed, IntKind.bits] using h
  obtain ⟨n, rfl⟩ := Int.eq_ofNat_of_zero_le h2.1
  exact ⟨n, rfl, by omega⟩
end Go.Proofs.YtbpoealcaogjpaaGreatDoor
