/- The program's tree: the walker in memory. The program's tree: what is in a folder is met. -/
import Derived.WalkLawsBesides
import Derived.Test.YtbpoealcaogjpaaGreatDoorBp12
import Derived.Test.YtbpoealcaogjpaaGreatDoorBp23
import Derived.Test.YtbpoealcaogjpaaGreatDoorBp24
namespace Go.Proofs.YtbpoealcaogjpaaGreatDoor
open Go.RowKit
set_option maxRecDepth 100000
open Go.Maps (Keyed)
set_option linter.unusedSimpArgs false
set_option linter.unusedVariables false

/-- what else is asked of a node -/
structure Ncp (N : NoV) : Prop where
  d : N.dl ≤ N.dc
  a : N.al ≤ N.ac
  t : N.target.size ≤ 9223372036854775807
  n : ∀ A ∈ N.attrs, A.n.size ≤ 9223372036854775807
  k : ∀ k ∈ N.kids, k.n.length ≤ 1000000
def nz : NoV := ⟨0, 0, 0, 0, 0, 0, none, 0, 0, [], tx [], 0, none, 0, 0, [], none, 0, 0, [], 0, 0⟩
def hrv (p q : ByteArray) : EnV := ⟨p, 6, 0, 0, 0, 0, 0, none, 0, 0, [], q, 0, none, 0, 0, []⟩
/-- an entry that is listed, in the tree's memory -/
def evL (ns : List NoV) (x : Le) : EnV := match x.src with
  | .inl i => ((ns[i]?).getD nz).ent (tx x.path)
  | .inr q => hrv (tx x.path) (tx q)
theorem ent_en (N : NoV) (p : Tx) : (N.ent (tx p)).en = enOf p N.no := by
  unfold NoV.ent EnV.en enOf NoV.no
  simp only [tx_tl]
theorem evL_en (ns : List NoV) (x : Le) : (evL ns x).en = enL (nos ns) x := by
  unfold evL enL
  cases hx : x.src with
  | inl i =>
    simp only [ent_en]
    unfold nos
    rw [List.getElem?_map]
    cases hn : ns[i]? with
    | none =>
      simp only [Option.getD_none, Option.map_none]
      unfold nz NoV.no
      simp only [tx_tl]; rfl
    | some N => rfl
  | inr q =>
    show (hrv (tx x.path) (tx q)).en = hrd x.path q
    unfold hrv hrd EnV.en
    simp only [tx_tl]; rfl
theorem evL_path (ns : List NoV) (x : Le) : (evL ns x).path = tx x.path := by
  unfold evL
  split <;> rfl
theorem row_none0 (w : World) : Row w none 0 [] := row_zero none
theorem ats_none (w : World) : Ats w none 0 [] := ⟨rfl, Nat.zero_le _, fun h => absurd h (by omega)⟩
theorem evL_ok {w : World} {a : Option Addr} {n : Nat} {ns : List NoV} (h : Nos w a n ns) (hc : ∀ N ∈ ns, Ncp N) (x : Le) : (evL ns x).ok w := by
  unfold evL
  split
  · rename_i i _
    cases hn : ns[i]? with
    | none => exact ⟨row_none0 w, Nat.le_refl _, ats_none w, Nat.le_refl _⟩
    | some N =>
      have hi := (List.getElem?_eq_some_iff.1 hn).1
      obtain ⟨b, off, -, k⟩ := h.at_ (by rw [← h.len_eq]; omega)
      have o := (k i N hn).ok
      have c := hc N (List.mem_of_getElem? hn)
      exact ⟨o.row, c.d, o.ats, c.a⟩
  · exact ⟨row_none0 w, Nat.le_refl _, ats_none w, Nat.le_refl _⟩
theorem evL_sz {ns : List NoV} (hc : ∀ N ∈ ns, Ncp N) {l : List Le} (hp : ∀ x ∈ l, x.path.length ≤ 4096) (hq : ∀ x ∈ l, ∀ q, x.src = .inr q → q.length ≤ 4096) : Szs (l.map (evL ns)) := by
  intro X hX
  obtain ⟨x, hx, rfl⟩ := List.mem_map.1 hX
  refine ⟨by rw [evL_path, tx_size]; have := hp x hx; omega, ?_⟩
  unfold evL
  cases hs : x.src with
  | inl i =>
    simp only
    cases hn : ns[i]? with
    | none => exact ⟨by show (tx []).size ≤ _; rw [tx_size]; simp, fun A hA => by cases hA⟩
    | some N =>
      have c := hc N (List.mem_of_getElem? hn)
      exact ⟨c.t, c.n⟩
  | inr q => exact ⟨by show (tx q).size ≤ _; rw [tx_size]; have := hq x hx q hs; omega, fun A hA => by cases hA⟩
/-- what was met, as the map has it -/
def metF (s : Wk) : Lit → Option Value := fun k => match k with
  | .int .i64 i => if 0 ≤ i then (s.at_ i.toNat).map (fun (j : Nat) => Value.int .i64 j) else none
  | _ => none
theorem metF_nat (s : Wk) (i : Nat) : metF s (.int .i64 (i : Int)) = (s.at_ i).map (fun (j : Nat) => Value.int .i64 j) := by
  show (if (0 : Int) ≤ (i : Int) then (s.at_ (i : Int).toNat).map (fun (j : Nat) => Value.int .i64 j) else none) = _
  rw [if_pos (Int.natCast_nonneg _), Int.toNat_natCast]
theorem metF_upd (s : Wk) (i : Nat) (p : Tx) (hk : WideAt.IsKeyLit (.int .i64 (i : Int))) : updF (metF s) (.int .i64 (i : Int)) (.int .i64 (s.list.length : Int)) = metF (addN s i p) := by
  funext x
  unfold updF
  by_cases hx : x = .int .i64 (i : Int)
  · subst hx
    rw [if_pos (WideAt.sameKey_self hk), metF_nat]
    have e := at_addN (s := s) (i := i) (j := i) (p := p)
    rw [if_pos rfl] at e
    rw [e]; rfl
  · rw [Maps.sameKey_ne hx, if_neg Bool.false_ne_true]
    unfold metF
    split
    · rename_i j
      by_cases hj : 0 ≤ j
      · rw [if_pos hj, if_pos hj]
        have e := at_addN (s := s) (i := i) (j := j.toNat) (p := p)
        rw [if_neg (fun c => hx (by rw [c, Int.toNat_of_nonneg hj]))] at e
        rw [e]
      · rw [if_neg hj, if_neg hj]
    · rfl
theorem metF_none : metF ⟨[], []⟩ = fun _ => none := by
  funext x
  unfold metF
  split
  · split <;> rfl
  · rfl
theorem key3 : Keyed Tryz.prog 3 := Maps.int_keyed Tryz.underlying3
theorem keyi (i : Nat) (h : i ≤ maxLen) : keyOf Tryz.prog 3 (.int .i64 (i : Int)) = some (.int .i64 (i : Int)) := by
  have e : ∀ v, keyOf Tryz.prog 3 v = mapKey Tryz.prog 3 v := fun v => by simp [keyOf, Tryz.underlying3]
  rw [e]
  unfold maxLen at h
  have hw : (Lit.int .i64 (i : Int)).wf = true := by
    simp [Lit.wf, IntKind.wrap, IntKind.bits, IntKind.signed, IntKind.min, IntKind.max]
    omega
  simp [mapKey, Tryz.underlying3, hw]
/-- the walker in memory: w is the world ahead of it -/
structure Wm (w W : World) (gw gm : Nat) (na : Option Addr) (n nc : Nat) (ns : List NoV) (s : Wk) (va : Option Addr) (vc : Nat) : Prop where
  eo : Eo w W w.heap.size (.slice va s.list.length vc) (s.list.map (evL ns))
  bx : Bx W gw 93 [.slice na n nc, .map (some gm), .slice va s.list.length vc]
  gwl : w.heap.size ≤ gw
  gml : w.heap.size ≤ gm
  map : MapF W 3 gm s.met.length (metF s)
theorem Wm.kept {w W W' : World} {gw gm n nc vc : Nat} {na va : Option Addr} {ns : List NoV} {s : Wk} (h : Wm w W gw gm na n nc ns s va vc) (g : W.grownBy W' none) : Wm w W' gw gm na n nc ns s va vc :=
  ⟨h.eo.kept g, h.bx.kept g, h.gwl, h.gml, h.map.kept g (by simp)⟩
theorem map_blk {W : World} {k gm n : Nat} {f : Lit → Option Value} (h : MapF W k gm n f) : ∃ es clock, W.heap[gm]? = some (.map es clock) := by
  obtain ⟨D, ⟨es, clock, hb, r⟩, h2⟩ := h
  exact ⟨es, clock, hb⟩
theorem map_ne_own {W : World} {k gm n b e s m : Nat} {f : Lit → Option Value} {v : Value} {xs : List Value} (h : MapF W k gm n f) (ho : W.ownsRow b e s v m xs) : some gm ≠ v.ownBlock := by
  obtain ⟨es, clock, hb⟩ := map_blk h
  rcases ho.2 with ⟨h0, _⟩ | ⟨q, cap, cur, hv, _, hq, _⟩
  · rw [h0]; intro c; cases c
  · rw [hv]
    intro c
    have c : some gm = some q := c
    injection c with c
    rw [← c, hb] at hq
    cases hq
theorem map_ne_bx {W : World} {k gm n g T : Nat} {f : Lit → Option Value} {cs : List Value} (h : MapF W k gm n f) (ho : Bx W g T cs) : gm ≠ g := by
  obtain ⟨es, clock, hb⟩ := map_blk h
  intro c
  rw [c, ho.blk] at hb
  cases hb
/-- a number is met -/
theorem Wm.met {w W W' : World} {gw gm n nc vc : Nat} {na va : Option Addr} {ns : List NoV} {s : Wk} {i : Nat} {p : Tx} (h : Wm w W gw gm na n nc ns s va vc) (hk : WideAt.IsKeyLit (.int .i64 (i : Int))) (hm : MapF W' 3 gm (s.met.length + 1) (updF (metF s) (.int .i64 (i : Int)) (.int .i64 (s.list.length : Int)))) (g : W.grownBy W' (some gm)) :
    Eo w W' w.heap.size (.slice va s.list.length vc) (s.list.map (evL ns)) ∧ Bx W' gw 93 [.slice na n nc, .map (some gm), .slice va s.list.length vc] ∧ MapF W' 3 gm (addN s i p).met.length (metF (addN s i p)) := by
  have hne := map_ne_own h.map h.eo.own
  refine ⟨⟨grown_new h.eo.gr g h.gml, h.eo.low, h.eo.own.kept g (Or.inr (fun c => hne c.symm)), h.eo.each⟩, h.bx.but g (fun c => map_ne_bx h.map h.bx (by injection c with c; exact c.symm)), ?_⟩
  rw [← metF_upd s i p hk]
  exact hm
/-- an entry more -/
theorem eo_add {w W W' : World} {v v' : Value} {l : List EnV} {X : EnV} (h : Eo w W w.heap.size v l) (hX : X.ok w) (ho : W'.ownsRow w.heap.size 44 11 v' (l.length + 1) (l.flatMap evc ++ evc X)) (g : W.grownBy W' v.ownBlock) : Eo w W' w.heap.size v' (l ++ [X]) := by
  refine ⟨grown_ownB h.gr h.own g h.low, h.low, ?_, fun Y hY => ?_⟩
  · have e : (l ++ [X]).flatMap evc = l.flatMap evc ++ evc X := by rw [List.flatMap_append]; simp
    rw [List.length_append, e]
    exact ho
  · rcases List.mem_append.1 hY with hY | hY
    · exact h.each Y hY
    · obtain rfl : Y = X := by simpa using hY
      exact hX
/-- the walker's list is laid anew -/
theorem eo_set {w W : World} {gw : Nat} {v : Value} {l : List EnV} {cs : List Value} (h : Eo w W w.heap.size v l) (b : Bx W gw 93 cs) (hg : w.heap.size ≤ gw) (i : Nat) (u : Value) : Eo w (W.setCell ⟨gw, i, none⟩ u) w.heap.size v l := by
  have g := grown_set W gw i u
  exact ⟨grown_new h.gr g hg, h.low, h.own.kept g (Or.inr fun c => bx_ne b h.own (by decide) c.symm), h.each⟩
def pan : List PanicEntry := [{ v := .iface 25 (.int .i64 1), recovered := false }]
theorem pnotree_any (w : World) : Calls Tryz.prog 60 #[] w fun e w' => e = .panicked pan ∧ w' = w := by
  go_enter Tryz.func60, Tryz.ntmps60
  go_wp2
  exact ⟨rfl, rfl, rfl⟩
end Go.Proofs.YtbpoealcaogjpaaGreatDoor

namespace Go.Proofs.YtbpoealcaogjpaaGreatDoor
open Go.RowKit
set_option maxRecDepth 100000
set_option linter.unusedSimpArgs false
set_option linter.unusedVariables false

/-- what meet and enter answer -/
def MtPost (w : World) (gw gm : Nat) (na : Option Addr) (n nc : Nat) (ns : List NoV) (o : Option Wk) (e : Ending) (W' : World) : Prop :=
  (o = none ∧ e = .panicked pan ∧ w.grownBy W' none) ∨ ∃ s' va vc, o = some s' ∧ e = .returned (.tuple #[]) ∧ Wm w W' gw gm na n nc ns s' va vc
/-- meet, with so much fuel -/
def MeetC (w : World) (gw gm : Nat) (na : Option Addr) (n nc : Nat) (ns : List NoV) (f : Nat) : Prop := ∀ (s : Wk) (i : Int) (p : ByteArray) (W : World) (va : Option Addr) (vc : Nat), Wm w W gw gm na n nc ns s va vc → s.ok n → p.size ≤ 2000000 → n - s.met.length < f →
    Calls Tryz.prog 59 #[.pointer (some ⟨gw, 0, none⟩), .int .i64 i, .string p] W (MtPost w gw gm na n nc ns (meetP (nos ns) f s i p.toList))
theorem vld_len {p : Tx} (h : vld p = true) : p.length ≤ 255 := by
  unfold vld at h
  simp only [Bool.and_eq_true, decide_eq_true_iff] at h
  exact h.1.1.1.2
theorem kidsP_drop {m : Wk → Int → Tx → Option Wk} {a : Tx} {ks : List Kd} {k : Nat} {K : Kd} (h : ks[k]? = some K) (s : Wk) : kidsP m a (ks.drop k) s = if vld K.n = true then (match m s K.i (a ++ K.n) with
    | none => none
    | some s' => kidsP m a (ks.drop (k + 1)) s') else none := by
  rw [drop_at h]
  rfl
theorem app_tx {p : ByteArray} {q : Tx} : (p ++ tx q).toList = p.toList ++ q := by
  rw [ByteArray.toList_eq, ByteArray.toList_eq]
  simp [tx]
theorem wrapk {k : Nat} (h : k < 9223372036854775807) : wrap64 ((k : Int) + 1) = ((k + 1 : Nat) : Int) := by
  unfold wrap64
  omega
set_option maxHeartbeats 8000000 in
theorem penter_any (w : World) (gw gm : Nat) (na : Option Addr) (n nc : Nat) (ns : List NoV) (f : Nat) (M : MeetC w gw gm na n nc ns f) (hns : ns.length = n) (N : NoV) (hk : Kds w N.ka N.kl N.kids) (hc : Ncp N) (s : Wk) (p : ByteArray) (W : World) (va : Option Addr) (vc : Nat)
    (h : Wm w W gw gm na n nc ns s va vc) (hok : s.ok n) (hp : p.size ≤ 4096) (hf : n - s.met.length < f) :
    Calls Tryz.prog 88 #[.pointer (some ⟨gw, 0, none⟩), N.val, .string p] W (MtPost w gw gm na n nc ns (kidsP (meetP (nos ns) f) (ahd p.toList) N.kids s)) := by
  have HK : Hid _ := And.intro hk (And.intro hk.len_eq hc.k)
  have HM : Hid _ := M
  have HW : Hid _ := And.intro h (And.intro hok hf)
  have HN : Hid _ := hns
  clear hk hc M h hok hf hns
  obtain ⟨k, mode, uid, gid, time, size, da, dl, dc, data, target, dev, aa, al, ac, attrs, ka, kl, kc, kids, parent, links⟩ := N
  simp only [NoV.val] at HK ⊢
  obtain ⟨pa, hpa⟩ : ∃ pa : Tx, pa = ahd p.toList := ⟨_, rfl⟩
  rw [← hpa]
  have hpl : pa.length ≤ 4097 := by
    rw [hpa]; unfold ahd
    split
    · simp
    · rw [List.length_append, tl_len]; simp; omega
  have HPA : Hid _ := And.intro hpa hpl
  have e47 : ∀ q : ByteArray, q ++ (⟨#[47]⟩ : ByteArray) = tx (q.toList ++ [47]) := fun q => by
    apply tl_inj
    rw [tx_tl]
    exact app_tx (q := [47])
  cases hb : (p.toList == []) with
  | true =>
    have hp0 : p.toList = [] := eq_of_beq hb
    have hpe : pa = [] := by rw [hpa, hp0]; rfl
    clear hpa hpl hpe
    go_enter Tryz.func88, Tryz.ntmps88
    go_wp2_with fail
    clear e47
    go_loopw [16] (fun v16 wr => ∃ k : Nat, k ≤ kl ∧ v16 = .int .i64 k ∧ Hid (∃ s' va' vc', kidsP (meetP (nos ns) f) pa kids s = kidsP (meetP (nos ns) f) pa (kids.drop k) s' ∧ Wm w wr gw gm na n nc ns s' va' vc' ∧ s'.ok n ∧ n - s'.met.length < f)) (fun v16 _ => kl - (intOf v16).toNat)
    case atStart => exact ⟨0, Nat.zero_le _, rfl, s, va, vc, by rw [List.drop_zero], HW.out.1.kept (World.grownBy_alloc _ _ none), HW.out.2⟩
    case round =>
      clear HW
      obtain ⟨k, hk, rfl, HI⟩ := hrel
      obtain ⟨s1, va1, vc1, e1, hm1, ho1, hf1⟩ := HI.out
      clear HI
      by_cases hlt : k < kl
      · obtain ⟨K, hK⟩ : ∃ K, kids[k]? = some K := ⟨_, List.getElem?_eq_getElem (by rw [HK.out.2.1]; exact hlt)⟩
        obtain ⟨b, off, rfl, hat⟩ := HK.out.1.at_ (by omega)
        have y0 := cell_grown (hat k K hK).c0 hm1.eo.gr
        have y1 := cell_grown (hat k K hK).c1 hm1.eo.gr
        have hkn := HK.out.2.2 K (List.mem_of_getElem? hK)
        rw [kidsP_drop hK] at e1
        have HE : Hid _ := e1
        obtain ⟨kn, ki⟩ := K
        simp only at y0 y1 hkn HE
        have hlti : (k : Int) < (kl : Int) := by omega
        have gA := World.grownBy_alloc wr (.cells #[.string (tx kn), .int .i64 ki] 56) none
        have HM1 : Hid _ := And.intro (hm1.kept gA) (And.intro ho1 hf1)
        have bK := Bx.new wr 56 [.string (tx kn), .int .i64 ki]
        have c0 := bK.c 0
        have c1 := bK.c 1
        clear bK
        clear hm1 ho1 hf1 gA e1 hat hK
        go_wp2_with fail
        generalize wr.alloc (.cells #[.string (tx kn), .int .i64 ki] 56) = WA at *
        refine (pvalid_eq (tx kn) _ (by rw [tx_size]; exact hkn)).mono ?_
        rintro e W2 ⟨rfl, rfl⟩
        rw [tx_tl]
        cases hv : vld kn with
        | false =>
          rw [hv, if_neg Bool.false_ne_true] at HE
          go_wp2_with fail
          refine (pnotree_any _).mono ?_
          rintro e W3 ⟨rfl, rfl⟩
          go_wp2_with fail
          exact ⟨rfl, Or.inl ⟨HE.out, rfl, HM1.out.1.eo.gr⟩⟩
        | true =>
          rw [hv, if_pos rfl] at HE
          have hpq : ((⟨#[]⟩ : ByteArray) ++ tx kn).toList = pa ++ kn := by rw [app_tx, HPA.out.1]; rw [hp0]; show (tx []).toList ++ kn = _; rw [tx_tl]; rfl
          have hvl := vld_len hv
          have hsz : ((⟨#[]⟩ : ByteArray) ++ tx kn).size ≤ 2000000 := by rw [← tl_len, hpq, List.length_append]; have := HPA.out.2; omega
          have hmc := HM.out s1 ki ((⟨#[]⟩ : ByteArray) ++ tx kn) WA va1 vc1 HM1.out.1 HM1.out.2.1 hsz HM1.out.2.2
          rw [hpq] at hmc
          have hs1 : ¬ 9223372036854775807 < (tx kn).size := by rw [tx_size]; omega
          cases hq : meetP (nos ns) f s1 ki (pa ++ kn) with
          | none =>
            rw [hq] at HE hmc
            simp only at HE
            go_wp2_with fail
            refine hmc.mono ?_
            rintro e W3 (⟨-, rfl, hg⟩ | ⟨s2, va2, vc2, ho, -⟩)
            · go_wp2_with fail
              exact ⟨rfl, Or.inl ⟨HE.out, rfl, hg⟩⟩
            · cases ho
          | some s2 =>
            rw [hq] at HE hmc
            simp only at HE
            have hok2 := meetP_ok f s1 ki (pa ++ kn) s2 (by rw [nos_len, HN.out]; exact HM1.out.2.1) hq
            go_wp2_with fail
            refine hmc.mono ?_
            rintro e W3 (⟨ho, -⟩ | ⟨s3, va2, vc2, ho, rfl, hm2⟩)
            · cases ho
            · injection ho with ho
              subst ho
              have HM2 : Hid _ := hm2
              clear hm2 hmc
              go_wp2_with fail
              have hf2 := HM1.out.2.2
              have hkl := HK.out.1.le
              unfold maxLen at hkl
              have hk1 : wrap64 ((k : Int) + 1) = ((k + 1 : Nat) : Int) := wrapk (by omega)
              have hI : Hid (∃ s' va' vc', kidsP (meetP (nos ns) f) pa kids s = kidsP (meetP (nos ns) f) pa (kids.drop (k + 1)) s' ∧ Wm w W3 gw gm na n nc ns s' va' vc' ∧ s'.ok n ∧ n - s'.met.length < f) := by
                refine ⟨s2, va2, vc2, HE.out, HM2.out, ?_, ?_⟩
                · have := hok2.1
                  rw [nos_len, HN.out] at this
                  exact this
                · have := hok2.2
                  omega
              rw [hk1]
              refine ⟨⟨k + 1, hlt, rfl, hI⟩, ?_⟩
              simp only [intOf, Int.toNat_natCast]
              exact Nat.sub_lt_sub_left hlt (Nat.lt_succ_self k)
      · obtain rfl : k = kl := by omega
        have hlti : ¬ (k : Int) < (k : Int) := by omega
        rw [List.drop_eq_nil_of_le (by rw [HK.out.2.1]; exact Nat.le_refl _)] at e1
        have HE : Hid _ := And.intro e1 hm1
        clear e1 hm1 ho1 hf1
        go_wp2_with fail
        go_end0
        exact Or.inr ⟨s1, va1, vc1, HE.out.1, rfl, HE.out.2⟩
  | false =>
    have hp0 : ¬ p.toList = [] := fun e => by rw [e] at hb; simp at hb
    clear hpa hpl
    go_enter Tryz.func88, Tryz.ntmps88
    go_wp2_with fail
    have hql : (tx (p.toList ++ [47])).toList = p.toList ++ [47] := tx_tl _
    generalize tx (p.toList ++ [47]) = q at *
    have HQ : Hid _ := hql
    clear hql
    clear e47
    go_loopw [16] (fun v16 wr => ∃ k : Nat, k ≤ kl ∧ v16 = .int .i64 k ∧ Hid (∃ s' va' vc', kidsP (meetP (nos ns) f) pa kids s = kidsP (meetP (nos ns) f) pa (kids.drop k) s' ∧ Wm w wr gw gm na n nc ns s' va' vc' ∧ s'.ok n ∧ n - s'.met.length < f)) (fun v16 _ => kl - (intOf v16).toNat)
    case atStart => exact ⟨0, Nat.zero_le _, rfl, s, va, vc, by rw [List.drop_zero], HW.out.1.kept (World.grownBy_alloc _ _ none), HW.out.2⟩
    case round =>
      clear HW
      obtain ⟨k, hk, rfl, HI⟩ := hrel
      obtain ⟨s1, va1, vc1, e1, hm1, ho1, hf1⟩ := HI.out
      clear HI
      by_cases hlt : k < kl
      · obtain ⟨K, hK⟩ : ∃ K, kids[k]? = some K := ⟨_, List.getElem?_eq_getElem (by rw [HK.out.2.1]; exact hlt)⟩
        obtain ⟨b, off, rfl, hat⟩ := HK.out.1.at_ (by omega)
        have y0 := cell_grown (hat k K hK).c0 hm1.eo.gr
        have y1 := cell_grown (hat k K hK).c1 hm1.eo.gr
        have hkn := HK.out.2.2 K (List.mem_of_getElem? hK)
        rw [kidsP_drop hK] at e1
        have HE : Hid _ := e1
        obtain ⟨kn, ki⟩ := K
        simp only at y0 y1 hkn HE
        have hlti : (k : Int) < (kl : Int) := by omega
        have gA := World.grownBy_alloc wr (.cells #[.string (tx kn), .int .i64 ki] 56) none
        have HM1 : Hid _ := And.intro (hm1.kept gA) (And.intro ho1 hf1)
        have bK := Bx.new wr 56 [.string (tx kn), .int .i64 ki]
        have c0 := bK.c 0
        have c1 := bK.c 1
        clear bK
        clear hm1 ho1 hf1 gA e1 hat hK
        go_wp2_with fail
        generalize wr.alloc (.cells #[.string (tx kn), .int .i64 ki] 56) = WA at *
        refine (pvalid_eq (tx kn) _ (by rw [tx_size]; exact hkn)).mono ?_
        rintro e W2 ⟨rfl, rfl⟩
        rw [tx_tl]
        cases hv : vld kn with
        | false =>
          rw [hv, if_neg Bool.false_ne_true] at HE
          go_wp2_with fail
          refine (pnotree_any _).mono ?_
          rintro e W3 ⟨rfl, rfl⟩
          go_wp2_with fail
          exact ⟨rfl, Or.inl ⟨HE.out, rfl, HM1.out.1.eo.gr⟩⟩
        | true =>
          rw [hv, if_pos rfl] at HE
          have hpq : (q ++ tx kn).toList = pa ++ kn := by rw [app_tx, HPA.out.1]; rw [HQ.out]; unfold ahd; rw [if_neg hp0]
          have hvl := vld_len hv
          have hsz : (q ++ tx kn).size ≤ 2000000 := by rw [← tl_len, hpq, List.length_append]; have := HPA.out.2; omega
          have hmc := HM.out s1 ki (q ++ tx kn) WA va1 vc1 HM1.out.1 HM1.out.2.1 hsz HM1.out.2.2
          rw [hpq] at hmc
          have hs1 : ¬ 9223372036854775807 < (tx kn).size := by rw [tx_size]; omega
          have hs2 : ¬ 9223372036854775807 < q.size + (tx kn).size := by
            have h1 := tl_len q
            rw [HQ.out, List.length_append, tl_len, List.length_singleton] at h1
            rw [tx_size]; omega
          cases hq : meetP (nos ns) f s1 ki (pa ++ kn) with
          | none =>
            rw [hq] at HE hmc
            simp only at HE
            go_wp2_with fail
            refine hmc.mono ?_
            rintro e W3 (⟨-, rfl, hg⟩ | ⟨s2, va2, vc2, ho, -⟩)
            · go_wp2_with fail
              exact ⟨rfl, Or.inl ⟨HE.out, rfl, hg⟩⟩
            · cases ho
          | some s2 =>
            rw [hq] at HE hmc
            simp only at HE
            have hok2 := meetP_ok f s1 ki (pa ++ kn) s2 (by rw [nos_len, HN.out]; exact HM1.out.2.1) hq
            go_wp2_with fail
            refine hmc.mono ?_
            rintro e W3 (⟨ho, -⟩ | ⟨s3, va2, vc2, ho, rfl, hm2⟩)
            · cases ho
            · injection ho with ho
              subst ho
              have HM2 : Hid _ := hm2
              clear hm2 hmc
              go_wp2_with fail
              have hf2 := HM1.out.2.2
              have hkl := HK.out.1.le
              unfold maxLen at hkl
              have hk1 : wrap64 ((k : Int) + 1) = ((k + 1 : Nat) : Int) := wrapk (by omega)
              have hI : Hid (∃ s' va' vc', kidsP (meetP (nos ns) f) pa kids s = kidsP (meetP (nos ns) f) pa (kids.drop (k + 1)) s' ∧ Wm w W3 gw gm na n nc ns s' va' vc' ∧ s'.ok n ∧ n - s'.met.length < f) := by
                refine ⟨s2, va2, vc2, HE.out, HM2.out, ?_, ?_⟩
                · have := hok2.1
                  rw [nos_len, HN.out] at this
                  exact this
                · have := hok2.2
                  omega
              rw [hk1]
              refine ⟨⟨k + 1, hlt, rfl, hI⟩, ?_⟩
              simp only [intOf, Int.toNat_natCast]
              exact Nat.sub_lt_sub_left hlt (Nat.lt_succ_self k)
      · obtain rfl : k = kl := by omega
        have hlti : ¬ (k : Int) < (k : Int) := by omega
        rw [List.drop_eq_nil_of_le (by rw [HK.out.2.1]; exact Nat.le_refl _)] at e1
        have HE : Hid _ := And.intro e1 hm1
        clear e1 hm1 ho1 hf1
        go_wp2_with fail
        go_end0
        exact Or.inr ⟨s1, va1, vc1, HE.out.1, rfl, HE.out.2⟩
end Go.Proofs.YtbpoealcaogjpaaGreatDoor
