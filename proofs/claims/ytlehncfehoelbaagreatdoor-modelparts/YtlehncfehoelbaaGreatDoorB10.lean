/- Names looked up: the document's and the program's. The program's spots: the map of a tree's names. A tree in memory while it is built. A tree in memory while it is built: a kid more; the tree that is read. -/
import Derived.Maps.AppendAt
import Derived.Laws.OwnMore
import Derived.Test.YtlehncfehoelbaaGreatDoorB02
import Derived.Test.YtlehncfehoelbaaGreatDoorB09
namespace Go.Proofs.YtlehncfehoelbaaGreatDoor
open Go.RowKit
set_option maxRecDepth 100000
open Go.Maps (Keyed)
set_option linter.unusedSimpArgs false
set_option linter.unusedVariables false
/-- what has a name among kids -/
def fnd (l : List Kd) (s : Tx) : Option Int := (l.find? (fun k => k.n == s)).map Kd.i
/-- what Lookup answers -/
def lkp (L : List No) (d : Int) (s : Tx) : Int × Int :=
 if knd L d 2 ≠ 0 then (0, knd L d 2) else if s = [46] then (d, 0) else if s = [46, 46] then (((L[d.toNat]?).map No.parent).getD 0, 0) else if vld s = false then (0, 6) else
  match fnd (((L[d.toNat]?).map No.kids).getD []) s with | some i => (i, 0) | none => (0, 4)
/-- a model in memory -/
structure Md (w : World) (mb : Nat) (a : Option Addr) (n c mp : Nat) (ns : List NoV) : Prop where
 box : Bx w mb 98 [.slice a n c, .map (some mp)]
 nos : Nos w a n ns
 caps : ∀ X ∈ ns, X.dl ≤ X.dc ∧ X.kl ≤ X.kc
 map : ∃ m f, MapF w 94 mp m f ∧ ∀ (d : Nat) (s : ByteArray) (l : Lit), keyOf Tryz.prog 94 (spv d s) = some l → f l = ((ns[d]?).bind (fun X => fnd X.kids s.toList)).map (fun i => .int .i64 i)
theorem Md.kept {w w' : World} {mb : Nat} {a : Option Addr} {n c mp : Nat} {ns : List NoV} (h : Md w mb a n c mp ns) (g : w.grownBy w' none) : Md w' mb a n c mp ns := by
 obtain ⟨h1, h2, h5, m, f, h3, h4⟩ := h
 exact ⟨h1.kept g, h2.grown g, h5, m, f, h3.kept g (by simp), h4⟩
/-- the map asked -/
theorem Md.ask {w : World} {mb : Nat} {a : Option Addr} {n c mp : Nat} {ns : List NoV} (h : Md w mb a n c mp ns) (d : Nat) (s : ByteArray) (hd : d ≤ maxLen) (hs : s.size ≤ maxLen) :
  (Instr.lookup 95 (.map (some mp)) (.agg #[.int .i64 d, .string s]) true).run Tryz.prog w = .ok (.tuple #[.int .i64 (((ns[d]?).bind (fun X => fnd X.kids s.toList)).getD 0), .bool ((ns[d]?).bind (fun X => fnd X.kids s.toList)).isSome]) w := by
 obtain ⟨m, f, h3, h4⟩ := h.map
 obtain ⟨l, hl⟩ := spot_key d s hd hs
 show (Instr.lookup 95 (.map (some mp)) (spv d s) true).run Tryz.prog w = _
 rw [h3.look_ok spotK Tryz.underlying95 (z := .int .i64 0) (by rfl) hl, h4 d s l hl]
 cases ((ns[d]?).bind (fun X => fnd X.kids s.toList)) <;> rfl
set_option maxHeartbeats 4000000 in
theorem pfind_any (w : World) (mb : Nat) (a : Option Addr) (n c mp : Nat) (ns : List NoV) (h : Md w mb a n c mp ns) (d : Nat) (X : NoV) (hX : ns[d]? = some X) (s : ByteArray) (hs : s.size ≤ 1000000) :
  Calls Tryz.prog 48 #[.pointer (some ⟨mb, 0, none⟩), .agg #[.int .i64 d, .string s]] w fun e w' => e = .returned (.tuple #[.int .i64 (if vld s.toList = false then 0 else (fnd X.kids s.toList).getD 0), .int .i64 (if vld s.toList = false then 6 else if (fnd X.kids s.toList).isSome then 0 else 4)]) ∧ w.grownBy w' none := by
 have hdn : d ≤ maxLen := by
  have h1 := (List.getElem?_eq_some_iff.1 hX).1
  have h2 := h.nos.len_eq
  have h3 := h.nos.le
  omega
 have gA := World.grownBy_alloc w (.cells #[.int .i64 d, .string s] 94) none
 have bA := Bx.new w 94 [.int .i64 d, .string s]
 have hask := fun t => (h.kept (drewG11 gA t)).ask d s hdn (by unfold maxLen; omega)
 rw [hX] at hask
 simp only [Option.bind_some] at hask
 have x1 : _ = some _ := (h.kept gA).box.c 1
 have s0 : _ = some _ := bA.c 0
 have s1 : _ = some _ := bA.c 1
 have HG : Hid _ := gA
 clear gA bA h hX
 have hv := fun W => pvalid_eq s W hs
 generalize vld s.toList = V at *
 generalize fnd X.kids s.toList = F at *
 cases V with
 | false =>
  go_enter Tryz.func48, Tryz.ntmps48
  go_wp2_with (go_at_call 83; refine (hv _).mono ?_; rintro e w' ⟨rfl, rfl⟩)
  go_ret2
  exact ⟨rfl, HG.out⟩
 | true =>
  cases F with
  | none =>
   simp only [Option.getD_none, Option.isSome_none] at hask
   go_enter Tryz.func48, Tryz.ntmps48
   go_wp2_with (go_at_call 83; refine (hv _).mono ?_; rintro e w' ⟨rfl, rfl⟩)
   generalize w.alloc (.cells #[.int .i64 d, .string s] 94) = WA at *
   go_quiet (fail)
   go_wp2
   go_ret2
   exact ⟨rfl, drewG11 HG.out _⟩
  | some v =>
   simp only [Option.getD_some, Option.isSome_some] at hask
   go_enter Tryz.func48, Tryz.ntmps48
   go_wp2_with (go_at_call 83; refine (hv _).mono ?_; rintro e w' ⟨rfl, rfl⟩)
   generalize w.alloc (.cells #[.int .i64 d, .string s] 94) = WA at *
   go_quiet (fail)
   go_wp2
   go_ret2
   exact ⟨rfl, drewG11 HG.out _⟩
/-- a map of spots while it grows -/
structure Sp (w W : World) (mp m : Nat) (G : Nat → ByteArray → Option Int) : Prop where
 gr : w.grownBy W none
 new : w.heap.size ≤ mp
 map : ∃ f, MapF W 94 mp m f ∧ ∀ (d : Nat) (s : ByteArray) (l : Lit), keyOf Tryz.prog 94 (spv d s) = some l → f l = (G d s).map (fun i => .int .i64 i)
theorem Sp.kept {w W W' : World} {mp m : Nat} {G : Nat → ByteArray → Option Int} (h : Sp w W mp m G) (g : W.grownBy W' none) : Sp w W' mp m G := by
 obtain ⟨h1, h2, f, h3, h4⟩ := h
 exact ⟨grown_trans h1 g, h2, f, h3.kept g (by simp), h4⟩
theorem Sp.eq {w W : World} {mp m : Nat} {G G' : Nat → ByteArray → Option Int} (h : Sp w W mp m G) (e : ∀ d s, G d s = G' d s) : Sp w W mp m G' := by
 obtain ⟨h1, h2, f, h3, h4⟩ := h
 exact ⟨h1, h2, f, h3, fun d s l hl => by rw [h4 d s l hl, e]⟩
theorem Sp.put {w W W' : World} {mp m d0 : Nat} {s0 : ByteArray} {v : Int} {kl : Lit} {f : Lit → Option Value} {G : Nat → ByteArray → Option Int} (hg : w.grownBy W none) (hn : w.heap.size ≤ mp)
  (hf : ∀ (d : Nat) (s : ByteArray) (l : Lit), keyOf Tryz.prog 94 (spv d s) = some l → f l = (G d s).map (fun i => .int .i64 i)) (hk : keyOf Tryz.prog 94 (spv d0 s0) = some kl)
  (hm : MapF W' 94 mp (m + 1) (updF f kl (.int .i64 v))) (g : W.grownBy W' (some mp)) : Sp w W' mp (m + 1) (fun d s => if d = d0 ∧ s = s0 then some v else G d s) := by
 refine ⟨grown_new hg g hn, hn, _, hm, fun d s l hl => ?_⟩
 unfold updF
 by_cases e : d = d0 ∧ s = s0
 ·obtain ⟨rfl, rfl⟩ := e
  rw [hk] at hl
  injection hl with hl
  subst hl
  rw [if_pos (WideAt.sameKey_self (spotK.key hk)), if_pos ⟨rfl, rfl⟩]; rfl
 ·rw [if_neg e]
  have hne : l ≠ kl := fun e2 => e (by
   subst e2
   have := spotK.inj hl hk
   unfold spv at this
   simp at this
   exact ⟨by omega, this.2⟩)
  rw [Maps.sameKey_ne hne, if_neg Bool.false_ne_true]
  exact hf d s l hl
/-- what the map holds behind k folders, and j names of the next -/
def Gs (ns : List NoV) (k j : Nat) (d : Nat) (s : ByteArray) : Option Int := if d < k then (ns[d]?).bind (fun X => fnd X.kids s.toList) else if d = k then (ns[d]?).bind (fun X => fnd (X.kids.take j) s.toList) else none
theorem fnd_nil (s : Tx) : fnd [] s = none := rfl
theorem fnd_snoc {l : List Kd} {x : Kd} {s : Tx} (h : ∀ y ∈ l, y.n ≠ x.n) : fnd (l ++ [x]) s = if s = x.n then some x.i else fnd l s := by
 unfold fnd
 rw [List.find?_append]
 by_cases e : s = x.n
 ·subst e
  rw [if_pos rfl, List.find?_eq_none.2 (fun y hy => by simpa using h y hy)]
  simp
 ·rw [if_neg e]
  cases l.find? (fun k => k.n == s) with
  | some y => rfl
  | none => simp [Ne.symm e]
theorem Gs_zero (ns : List NoV) (d : Nat) (s : ByteArray) : Gs ns 0 0 d s = none := by
 unfold Gs
 rw [if_neg (by omega)]
 split
 ·cases ns[d]? <;> rfl
 ·rfl
theorem Gs_next {ns : List NoV} {k : Nat} {X : NoV} (hX : ns[k]? = some X) (d : Nat) (s : ByteArray) : Gs ns k X.kids.length d s = Gs ns (k + 1) 0 d s := by
 unfold Gs
 by_cases h1 : d < k
 ·rw [if_pos h1, if_pos (by omega)]
 ·rw [if_neg h1]
  by_cases h2 : d = k
  ·subst h2
   rw [if_pos rfl, if_pos (by omega), hX]
   simp only [Option.bind_some, List.take_length]
  ·rw [if_neg h2, if_neg (by omega)]
   split
   ·cases ns[d]? <;> rfl
   ·rfl
theorem Gs_all {ns : List NoV} (d : Nat) (s : ByteArray) : Gs ns ns.length 0 d s = (ns[d]?).bind (fun X => fnd X.kids s.toList) := by
 unfold Gs
 by_cases h1 : d < ns.length
 ·rw [if_pos h1]
 ·rw [if_neg h1, List.getElem?_eq_none (by omega)]
  split <;> rfl
theorem Gs_step {ns : List NoV} {k j : Nat} {X : NoV} {x : Kd} (hX : ns[k]? = some X) (hx : X.kids[j]? = some x) (hd : X.kids.Pairwise (fun a b => a.n ≠ b.n)) (d : Nat) (s : ByteArray) :
  (if d = k ∧ s = tx x.n then some x.i else Gs ns k j d s) = Gs ns k (j + 1) d s := by
 unfold Gs
 by_cases h1 : d < k
 ·rw [if_pos h1, if_pos h1, if_neg (by omega)]
 ·rw [if_neg h1, if_neg h1]
  by_cases h2 : d = k
  ·subst h2
   rw [if_pos rfl, if_pos rfl, hX]
   simp only [Option.bind_some]
   rw [List.take_add_one, hx]
   have hap : ∀ y ∈ X.kids.take j, y.n ≠ x.n := fun y hy => by
    have h3 := List.take_append_drop j X.kids
    rw [← h3] at hd
    have hxm : x ∈ X.kids.drop j := by
     rw [List.mem_iff_getElem?]
     exact ⟨0, by rw [List.getElem?_drop]; exact hx⟩
    exact (List.pairwise_append.1 hd).2.2 y hy x hxm
   rw [show (some x).toList = [x] from rfl, fnd_snoc hap]
   by_cases e : s = tx x.n
   ·subst e
    rw [if_pos (by simp), if_pos (tx_tl _)]
   ·rw [if_neg (fun h => e h.2), if_neg (fun h => e (tl_inj (by rw [h, tx_tl])))]
  ·rw [if_neg h2, if_neg h2, if_neg (fun h => h2 h.1)]
theorem wrapk2 {k : Nat} (h : k < 9223372036854775807) : wrap64 ((k : Int) + 1) = ((k + 1 : Nat) : Int) := by
 unfold wrap64
 omega
/-- what spots tells -/
def SpPost12 (w : World) (ns : List NoV) (e : Ending) (w' : World) : Prop := ∃ mp m, e = .returned (.map (some mp)) ∧ Sp w w' mp m (fun d s => (ns[d]?).bind (fun X => fnd X.kids s.toList))
set_option maxHeartbeats 4000000 in
theorem pspots_any (w : World) (a : Option Addr) (n c : Nat) (ns : List NoV) (hN : Nos w a n ns) (hn : n ≤ 100000) (hk : ∀ X ∈ ns, X.kids.Pairwise (fun a b => a.n ≠ b.n) ∧ X.kids.length ≤ 100000 ∧ ∀ k ∈ X.kids, k.n.length ≤ 1000000) :
  Calls Tryz.prog 49 #[.slice a n c] w (SpPost12 w ns) := by
 obtain ⟨B, hB⟩ : ∃ B, B = 100000 := ⟨_, rfl⟩
 have HB : Hid _ := hB
 clear hB
 have HN : Hid _ := And.intro hN (And.intro hk hN.len_eq)
 clear hN hk
 have gM := World.grownBy_alloc w (.map #[] 0) none
 have H0 : Hid (Sp w (w.alloc (.map #[] 0)) w.heap.size 0 (Gs ns 0 0)) := ⟨gM, Nat.le_refl _, _, MapF.made w 94, fun d s l hl => by rw [Gs_zero]; rfl⟩
 clear gM
 have hmm : ∀ w : World, (Instr.makeMap 95 none).run Tryz.prog w = .ok (.map (some w.heap.size)) (w.alloc (.map #[] 0)) := fun w => by
  simp only [Instr.makeMap, Sem.run_bind, run_underlying Tryz.underlying95, Result.andThen, asInt, Sem.run_pure]
  rfl
 have hmm := hmm w
 go_enter Tryz.func49, Tryz.ntmps49
 go_wp2_with fail
 generalize w.alloc (.map #[] 0) = W0 at *
 generalize hmp : w.heap.size = mp at *
 clear hmp
 clear hmm
 go_loopw [11] (fun v wr => ∃ (k m : Nat), k ≤ n ∧ v = .int .i64 k ∧ Hid (m ≤ k * B ∧ Sp w wr mp m (Gs ns k 0))) (fun v _ => n - (intOf v).toNat)
 case atStart => exact ⟨0, 0, Nat.zero_le _, rfl, ⟨Nat.zero_le _, H0.out⟩⟩
 case round =>
  obtain ⟨k, m, hkn, rfl, HS⟩ := hrel
  clear H0
  by_cases hlt : k < n
  ·obtain ⟨X, hX⟩ : ∃ X, ns[k]? = some X := ⟨_, List.getElem?_eq_getElem (by have := HN.out.2.2; omega)⟩
   obtain ⟨b, off, rfl, hat⟩ := HN.out.1.at_ (by omega)
   obtain ⟨y0, y1, y2, y3, y4, y5, y6, y7, y8, y9, y10, y11, y12, yok⟩ := (hat k X hX).grown HS.out.2.gr
   obtain ⟨hd1, hd2, hd3⟩ := HN.out.2.1 X (List.mem_of_getElem? hX)
   have hkl : X.kids.length = X.kl := yok.kds.len_eq
   obtain ⟨NK, mode, uid, gid, time, size, da, dl, dc, data, target, dev, aa, al, ac, attrs, ka, kl, kc, kids, parent, links⟩ := X
   simp only at y0 y1 y2 y3 y4 y5 y6 y7 y8 y9 y10 y11 y12 hd1 hd2 hd3 hkl
   have gB := World.grownBy_alloc wr (.cells #[.int .i64 NK, .int .i64 mode, .int .i64 uid, .int .i64 gid, .int .i64 time, .int .i64 size, .slice da dl dc, .string target, .int .i64 dev, .slice aa al ac, .slice ka kl kc, .int .i64 parent, .int .i64 links] 43) none
   have bB := Bx.new wr 43 [.int .i64 NK, .int .i64 mode, .int .i64 uid, .int .i64 gid, .int .i64 time, .int .i64 size, .slice da dl dc, .string target, .int .i64 dev, .slice aa al ac, .slice ka kl kc, .int .i64 parent, .int .i64 links]
   have HX : Hid _ := And.intro hX (And.intro hd1 (And.intro hd3 (And.intro (hat k _ hX).ok.kds hkl)))
   have v10 : _ = some _ := bB.c 10
   have HS1 : Hid _ := And.intro HS.out.1 (HS.out.2.kept gB)
   rw [hkl, ← HB.out] at hd2
   clear gB bB HS hat hX hd1 hd3 yok hkl
   have hlti : (k : Int) < (n : Int) := by omega
   go_wp2_with fail
   generalize hWB : wr.alloc (.cells #[.int .i64 NK, .int .i64 mode, .int .i64 uid, .int .i64 gid, .int .i64 time, .int .i64 size, .slice da dl dc, .string target, .int .i64 dev, .slice aa al ac, .slice ka kl kc, .int .i64 parent, .int .i64 links] 43) = WB at *
   clear hWB y0 y1 y2 y3 y4 y5 y6 y7 y8 y9 y10 y11 y12
   generalize wr.heap.size = gn at *
   clear wr
   go_loopw [19] (fun v wz => ∃ (j m2 : Nat), j ≤ kl ∧ v = .int .i64 j ∧ Hid (m2 ≤ k * B + j ∧ Sp w wz mp m2 (Gs ns k j))) (fun v _ => kl - (intOf v).toNat)
   case atStart => exact ⟨0, m, Nat.zero_le _, rfl, ⟨by have := HS1.out.1; omega, HS1.out.2⟩⟩
   case round =>
    obtain ⟨j, m2, hj, rfl, HJ⟩ := hrel
    by_cases hlt2 : j < kl
    ·obtain ⟨b2, o2, rfl, hat2⟩ := HX.out.2.2.2.1.at_ (by show 0 < kl; omega)
     obtain ⟨x, hx⟩ : ∃ x, kids[j]? = some x := ⟨_, List.getElem?_eq_getElem (by have := HX.out.2.2.2.2; omega)⟩
     have hst := fun d s => Gs_step HX.out.1 hx HX.out.2.1 d s
     have hsx : (tx x.n).size ≤ 1000000 := by rw [tx_size]; exact HX.out.2.2.1 x (List.mem_of_getElem? hx)
     obtain ⟨lit, hkey⟩ := spot_key k (tx x.n) (by unfold maxLen; omega) (by unfold maxLen; omega)
     have p0 := cell_grown (hat2 j x hx).c0 HJ.out.2.gr
     have p1 := cell_grown (hat2 j x hx).c1 HJ.out.2.gr
     obtain ⟨xn, xi⟩ := x
     simp only at p0 p1 hst hsx hkey
     generalize tx xn = xs at *
     have gC := World.grownBy_alloc wr (.cells #[.string xs, .int .i64 xi] 47) none
     have bC := Bx.new wr 47 [.string xs, .int .i64 xi]
     have s0 : _ = some _ := bC.c 0
     have s1 : _ = some _ := bC.c 1
     obtain ⟨f, hm, hf⟩ := (HJ.out.2.kept gC).map
     have HP : Hid _ := And.intro hst (And.intro hf (And.intro hm (And.intro hkey (And.intro gC (And.intro HJ.out.1 HJ.out.2)))))
     clear hst hf hm hkey gC bC HJ hat2 hx hsx
     have hlti2 : (j : Int) < (kl : Int) := by omega
     have HW1 : Hid (wrap64 ((j : Int) + 1) = ((j + 1 : Nat) : Int)) := wrapk2 (by have := hd2; rw [HB.out] at this; omega)
     go_wp2_with ((at_mapUpdate; refine wpList_storeF rfl _ rfl _ _ _ 95 rfl 94 3 spotK Tryz.underlying95 mp m2 f rfl HP.out.2.2.1 (by have h1 := HP.out.2.2.2.2.2.1; have h2 := hd2; rw [HB.out] at h1 h2; unfold maxLen; omega) (spv k xs) (.int .i64 xi) lit rfl rfl HP.out.2.2.2.1 (spotK.key HP.out.2.2.2.1) ?_; intro W1 HM1 HG1))
     have hsp := (Sp.put (grown_trans HP.out.2.2.2.2.2.2.gr HP.out.2.2.2.2.1) HP.out.2.2.2.2.2.2.new HP.out.2.1 HP.out.2.2.2.1 HM1.out HG1.out).eq HP.out.1
     rw [HW1.out]
     refine ⟨⟨j + 1, m2 + 1, hlt2, rfl, ⟨by have := HP.out.2.2.2.2.2.1; omega, hsp⟩⟩, ?_⟩
     ·simp only [intOf, Int.toNat_natCast]
      exact Nat.sub_lt_sub_left hlt2 (Nat.lt_succ_self j)
    ·obtain rfl : j = kl := by omega
     have hlti2 : ¬ (j : Int) < (j : Int) := by omega
     have hsp : Sp w wr mp m2 (Gs ns (k + 1) 0) := HJ.out.2.eq (fun d s => by rw [← HX.out.2.2.2.2]; exact Gs_next HX.out.1 d s)
     have HSP : Hid _ := And.intro HJ.out.1 hsp
     clear hsp HJ
     go_wp2
     rw [show ((k : Int) + 1) = ((k + 1 : Nat) : Int) by omega]
     refine ⟨⟨k + 1, m2, hlt, rfl, ⟨by have h1 := HSP.out.1; rw [Nat.succ_mul]; omega, HSP.out.2⟩⟩, ?_⟩
     simp only [intOf, Int.toNat_natCast]
     exact Nat.sub_lt_sub_left hlt (Nat.lt_succ_self k)
  ·obtain rfl : k = n := by omega
   have hlti : ¬ (k : Int) < (k : Int) := by omega
   have hsp : Sp w wr mp m (fun d s => (ns[d]?).bind (fun X => fnd X.kids s.toList)) := HS.out.2.eq (fun d s => by rw [← HN.out.2.2]; exact Gs_all d s)
   have HSP : Hid _ := hsp
   clear hsp HS
   go_wp2
   go_ret
   exact ⟨mp, m, rfl, HSP.out⟩
end Go.Proofs.YtlehncfehoelbaaGreatDoor
namespace Go.Proofs.YtlehncfehoelbaaGreatDoor
open Go.RowKit
set_option maxRecDepth 100000
set_option linter.unusedSimpArgs false
set_option linter.unusedVariables false
/-- rows of things of several cells -/
theorem flat_len {α : Type} (f : α → List Value) (c : Nat) (hf : ∀ x, (f x).length = c) (l : List α) : (l.flatMap f).length = l.length * c := by
 induction l with
 | nil => simp
 | cons x l ih => rw [List.flatMap_cons, List.length_append, ih, hf, List.length_cons, Nat.succ_mul, Nat.add_comm]
theorem flat_at {α : Type} (f : α → List Value) (c : Nat) (hf : ∀ x, (f x).length = c) : ∀ (l : List α) (i j : Nat) (X : α), l[i]? = some X → j < c → (l.flatMap f)[i * c + j]? = (f X)[j]?
 | [], i, j, X, h, _ => by simp at h
 | x :: l, 0, j, X, h, hj => by
  simp at h
  subst h
  rw [List.flatMap_cons, Nat.zero_mul, Nat.zero_add, List.getElem?_append_left (by rw [hf]; exact hj)]
 | x :: l, i + 1, j, X, h, hj => by
  rw [List.flatMap_cons, List.getElem?_append_right (by rw [hf, Nat.succ_mul]; omega), hf, show (i + 1) * c + j - c = i * c + j by rw [Nat.succ_mul]; omega]
  exact flat_at f c hf l i j X (by simpa using h) hj
theorem flat_set {α : Type} (f : α → List Value) (c : Nat) (hf : ∀ x, (f x).length = c) (u : Value) : ∀ (l : List α) (i j : Nat) (X X' : α), l[i]? = some X → j < c → f X' = (f X).set j u → (l.flatMap f).set (i * c + j) u = (l.set i X').flatMap f
 | [], i, j, X, X', h, _, _ => by simp at h
 | x :: l, 0, j, X, X', h, hj, e => by
  simp at h
  subst h
  rw [List.flatMap_cons, Nat.zero_mul, Nat.zero_add, List.set_append_left _ _ (by rw [hf]; exact hj), List.set_cons_zero, List.flatMap_cons, e]
 | x :: l, i + 1, j, X, X', h, hj, e => by
  rw [List.flatMap_cons, List.set_append_right _ _ (by rw [hf, Nat.succ_mul]; omega), hf, show (i + 1) * c + j - c = i * c + j by rw [Nat.succ_mul]; omega, flat_set f c hf u l i j X X' (by simpa using h) hj e, List.set_cons_succ, List.flatMap_cons]
/-- a node's cells -/
def nvc (X : NoV) : List Value := [.int .i64 X.k, .int .i64 X.mode, .int .i64 X.uid, .int .i64 X.gid, .int .i64 X.time, .int .i64 X.size, .slice X.da X.dl X.dc, .string X.target, .int .i64 X.dev, .slice X.aa X.al X.ac, .slice X.ka X.kl X.kc, .int .i64 X.parent, .int .i64 X.links]
theorem nvc_len (X : NoV) : (nvc X).length = 13 := rfl
/-- a kid's cells -/
def kdc (c : Kd) : List Value := [.string (tx c.n), .int .i64 c.i]
theorem kdc_len (c : Kd) : (kdc c).length = 2 := rfl
/-- rows of other types lie in other blocks -/
theorem owns_ne {W : World} {b1 b2 e1 e2 s1 s2 n1 n2 : Nat} {v1 v2 : Value} {x1 x2 : List Value} (h1 : W.ownsRow b1 e1 s1 v1 n1 x1) (h2 : W.ownsRow b2 e2 s2 v2 n2 x2) (he : e1 ≠ e2) : v1.ownBlock = none ∨ v1.ownBlock ≠ v2.ownBlock := by
 rcases h1.2 with ⟨rfl, _⟩ | ⟨g, cap, cur, rfl, _, hg, _⟩
 ·exact .inl rfl
 ·right
  rcases h2.2 with ⟨rfl, _⟩ | ⟨g', cap', cur', rfl, _, hg', _⟩
  ·simp [Value.ownBlock]
  ·intro e
   simp only [Value.ownBlock, Option.some.injEq] at e
   subst e
   rw [hg] at hg'
   injection hg' with hg'
   injection hg' with _ hg'
   exact he hg'
theorem grown_ownB {a b c : World} {base t s n : Nat} {v : Value} {xs : List Value} (h : a.grownBy b none) (ho : b.ownsRow base t s v n xs) (k : b.grownBy c v.ownBlock) (hb : a.heap.size ≤ base) : a.grownBy c none := by
 rcases ho.2 with ⟨rfl, _⟩ | ⟨g, cap, cur, rfl, hg, _⟩
 ·exact grown_trans h k
 ·exact grown_new h k (show a.heap.size ≤ g by omega)
/-- what a node's rows are -/
structure Nk (w W : World) (base : Nat) (X : NoV) : Prop where
 row : Row w X.da X.dl X.data
 own : W.ownsRow base 45 2 (.slice X.aa X.al X.ac) X.al (X.attrs.flatMap avc)
 len : X.al = X.attrs.length
 rows : ∀ A ∈ X.attrs, Row w A.a A.len A.v ∧ A.len ≤ A.cap
 kid : W.ownsRow base 47 2 (.slice X.ka X.kl X.kc) X.kl (X.kids.flatMap kdc)
 klen : X.kl = X.kids.length
 dcap : X.dl ≤ X.dc
def NoV.kv (X : NoV) : Value := .slice X.ka X.kl X.kc
/-- a tree in memory while it is built: its nodes in a row, each one's rows of their own -/
structure Td (w W : World) (base : Nat) (v : Value) (l : List NoV) : Prop where
 gr : w.grownBy W none
 low : w.heap.size ≤ base
 own : W.ownsRow base 43 13 v l.length (l.flatMap nvc)
 each : ∀ (i : Nat) (X : NoV), l[i]? = some X → Nk w W base X
 apart : ∀ (i j : Nat) (X Y : NoV), l[i]? = some X → l[j]? = some Y → i ≠ j → ∀ b, X.kv.ownBlock = some b → Y.kv.ownBlock = some b → False
theorem Nk.but {w W W' : World} {base : Nat} {X : NoV} {r : Option Nat} (h : Nk w W base X) (g : W.grownBy W' r) (h1 : (Value.slice X.aa X.al X.ac).ownBlock = none ∨ (Value.slice X.aa X.al X.ac).ownBlock ≠ r) (h2 : X.kv.ownBlock = none ∨ X.kv.ownBlock ≠ r) : Nk w W' base X :=
 ⟨h.row, h.own.kept g h1, h.len, h.rows, h.kid.kept g h2, h.klen, h.dcap⟩
theorem ne_none (o : Option Nat) : o = none ∨ o ≠ none := by cases o <;> simp
theorem Td.kept {w W W' : World} {base : Nat} {v : Value} {l : List NoV} (h : Td w W base v l) (g : W.grownBy W' none) : Td w W' base v l :=
 ⟨grown_trans h.gr g, h.low, h.own.kept g (ne_none _), fun i X hX => (h.each i X hX).but g (ne_none _) (ne_none _), h.apart⟩
/-- a row of another type is written, or grows -/
theorem Td.other {w W W' : World} {base : Nat} {v : Value} {l : List NoV} {e s n : Nat} {u : Value} {xs : List Value} (h : Td w W base v l) (ho : W.ownsRow base e s u n xs) (hN : 43 ≠ e) (hA : 45 ≠ e) (hK : 47 ≠ e) (g : W.grownBy W' u.ownBlock) : Td w W' base v l := by
 refine ⟨?_, h.low, h.own.kept g (owns_ne h.own ho hN), fun i X hX => (h.each i X hX).but g (owns_ne (h.each i X hX).own ho hA) (owns_ne (h.each i X hX).kid ho hK), h.apart⟩
 exact grown_ownB h.gr ho g h.low
/-- a block that lies ahead of the rows is written -/
theorem Td.ahead {w W W' : World} {base b : Nat} {v : Value} {l : List NoV} (h : Td w W base v l) (hb : b < base) (hw : w.heap.size ≤ b) (g : W.grownBy W' (some b)) : Td w W' base v l := by
 have hlt : ∀ {e s n : Nat} {u : Value} {xs : List Value}, W.ownsRow base e s u n xs → u.ownBlock = none ∨ u.ownBlock ≠ some b := fun {e s n u xs} ho => by
  right
  intro e
  have := (ho.lt _ e).1
  omega
 exact ⟨grown_new h.gr g hw, h.low, h.own.kept g (hlt h.own), fun i X hX => (h.each i X hX).but g (hlt (h.each i X hX).own) (hlt (h.each i X hX).kid), h.apart⟩
theorem Td.form {w W : World} {base : Nat} {v : Value} {l : List NoV} (h : Td w W base v l) (h0 : l ≠ []) : ∃ g c, v = .slice (some ⟨g, 0, none⟩) l.length c ∧ base ≤ g ∧ l.length ≤ c ∧ c ≤ maxLen ∧ W.heap.size > g := by
 rcases h.own.2 with ⟨rfl, h1⟩ | ⟨g, c, cur, rfl, hg, hh, hc, hm, _⟩
 ·exact absurd (List.eq_nil_of_length_eq_zero h1) h0
 ·exact ⟨g, c, rfl, hg, hc, hm, (Array.getElem?_eq_some_iff.1 hh).1⟩
/-- a field of a node -/
theorem Td.cell {w W : World} {base g c n : Nat} {l : List NoV} (h : Td w W base (.slice (some ⟨g, 0, none⟩) n c) l) (hn : l.length = n) {i f : Nat} {X : NoV} (hX : l[i]? = some X) (hf : f < 13) : W.cell? ⟨g, i * 13 + f, none⟩ = (nvc X)[f]? := by
 have hi : i < l.length := (List.getElem?_eq_some_iff.1 hX).1
 have ho := h.own
 rw [← hn] at ho
 rw [ho.cellAt (i * 13 + f) (by omega), flat_at nvc 13 nvc_len l i f X hX hf]
theorem Td.froz {w W : World} {base g c n : Nat} {l : List NoV} (h : Td w W base (.slice (some ⟨g, 0, none⟩) n c) l) (hn : l.length = n) (j : Nat) : W.frozen? ⟨g, j, none⟩ = false := by
 have ho := h.own
 rw [← hn] at ho
 exact ho.frozenAt j
theorem get_set {l : List NoV} {i j : Nat} {X' Y : NoV} (h : (l.set i X')[j]? = some Y) : (j = i ∧ Y = X') ∨ (j ≠ i ∧ l[j]? = some Y) := by
 rw [List.getElem?_set] at h
 by_cases e : i = j
 ·subst e
  left
  simp at h
  exact ⟨rfl, h.2.symm⟩
 ·right
  rw [if_neg e] at h
  exact ⟨fun q => e q.symm, h⟩
/-- a field of a node is written that is no row -/
theorem Td.set {w W : World} {base g c n : Nat} {l : List NoV} (h : Td w W base (.slice (some ⟨g, 0, none⟩) n c) l) (hn : l.length = n) {i f : Nat} {X X' : NoV} {u : Value} (hX : l[i]? = some X) (hf : f < 13) (e : nvc X' = (nvc X).set f u)
  (hk : X'.da = X.da ∧ X'.dl = X.dl ∧ X'.data = X.data ∧ X'.aa = X.aa ∧ X'.al = X.al ∧ X'.ac = X.ac ∧ X'.attrs = X.attrs ∧ X'.ka = X.ka ∧ X'.kl = X.kl ∧ X'.kc = X.kc ∧ X'.kids = X.kids) (hf6 : f ≠ 6 := by decide) :
  Td w (W.setCell ⟨g, i * 13 + f, none⟩ u) base (.slice (some ⟨g, 0, none⟩) n c) (l.set i X') := by
 have ho := h.own
 rw [hn] at ho
 obtain ⟨h1, h2⟩ := ho.stored (i * 13 + f) u
 rw [flat_set nvc 13 nvc_len u l i f X X' hX hf e] at h1
 have hsame : X'.kv = X.kv := by unfold NoV.kv; rw [hk.2.2.2.2.2.2.2.1, hk.2.2.2.2.2.2.2.2.1, hk.2.2.2.2.2.2.2.2.2.1]
 have hnk : ∀ (j : Nat) (Y : NoV), l[j]? = some Y → Nk w (W.setCell ⟨g, i * 13 + f, none⟩ u) base Y := fun j Y hY =>
  (h.each j Y hY).but h2 (owns_ne (h.each j Y hY).own h.own (by decide)) (owns_ne (h.each j Y hY).kid h.own (by decide))
 refine ⟨grown_ownB h.gr h.own h2 h.low, h.low, by rw [List.length_set, hn]; exact h1, fun j Y hY => ?_, fun a b A B hA hB hab k hA2 hB2 => ?_⟩
 ·rcases get_set hY with ⟨rfl, rfl⟩ | ⟨_, hY⟩
  ·have := hnk j X hX
   obtain ⟨k1, k2, k3, k4, k5, k6, k7, k8, k9, k10, k11⟩ := hk
   exact ⟨by rw [k1, k2, k3]; exact this.row, by rw [k4, k5, k6, k7]; exact this.own, by rw [k5, k7]; exact this.len, by rw [k7]; exact this.rows, by rw [k8, k9, k10, k11]; exact this.kid, by rw [k9, k11]; exact this.klen, by
    have e6 : (nvc Y)[6]? = (nvc X)[6]? := by rw [e, List.getElem?_set_ne hf6]
    have e7 : some (Value.slice Y.da Y.dl Y.dc) = some (Value.slice X.da X.dl X.dc) := e6
    injection e7 with e7
    injection e7 with _ e8 e9
    rw [e8, e9]
    exact this.dcap⟩
  ·exact hnk j Y hY
 ·rcases get_set hA with ⟨ea, eA⟩ | ⟨ha, hA'⟩
  ·rcases get_set hB with ⟨eb, eB⟩ | ⟨hb, hB'⟩
   ·omega
   ·rw [ea] at hab
    exact h.apart i b X B hX hB' hab k (by rw [← hsame, ← eA]; exact hA2) hB2
  ·rcases get_set hB with ⟨eb, eB⟩ | ⟨hb, hB'⟩
   ·rw [eb] at hab
    exact h.apart a i A X hA' hX hab k hA2 (by rw [← hsame, ← eB]; exact hB2)
   ·exact h.apart a b A B hA' hB' hab k hA2 hB2
/-- a node more -/
theorem Td.add {w W W' : World} {base : Nat} {v v' : Value} {l : List NoV} {N : NoV} (h : Td w W base v l) (hN : Nk w W base N) (hk : N.ka = none) (hown : W'.ownsRow base 43 13 v' (l.length + 1) (l.flatMap nvc ++ nvc N)) (g : W.grownBy W' v.ownBlock) : Td w W' base v' (l ++ [N]) := by
 have hkv : N.kv.ownBlock = none := by unfold NoV.kv; rw [hk]; rfl
 have hnk : ∀ (Y : NoV), Nk w W base Y → Nk w W' base Y := fun Y hY => hY.but g (owns_ne hY.own h.own (by decide)) (owns_ne hY.kid h.own (by decide))
 have hget : ∀ (j : Nat) (Y : NoV), (l ++ [N])[j]? = some Y → l[j]? = some Y ∨ (j = l.length ∧ Y = N) := fun j Y hY => by
  rcases Nat.lt_or_ge j l.length with hj | hj
  ·left; rwa [List.getElem?_append_left hj] at hY
  ·right
   rw [List.getElem?_append_right hj] at hY
   cases hjj : j - l.length with
   | zero => rw [hjj] at hY; simp at hY; exact ⟨by omega, hY.symm⟩
   | succ q => rw [hjj] at hY; simp at hY
 refine ⟨grown_ownB h.gr h.own g h.low, h.low, by rw [List.length_append, List.flatMap_append]; simpa using hown, fun j Y hY => ?_, fun a b A B hA hB hab k hA2 hB2 => ?_⟩
 ·rcases hget j Y hY with hY | ⟨_, rfl⟩
  ·exact hnk Y (h.each j Y hY)
  ·exact hnk Y hN
 ·rcases hget a A hA with hA | ⟨ha, rfl⟩
  ·rcases hget b B hB with hB | ⟨hb, rfl⟩
   ·exact h.apart a b A B hA hB hab k hA2 hB2
   ·rw [hkv] at hB2; cases hB2
  ·rw [hkv] at hA2; cases hA2
/-- a kid more: its row grows, then the node's field is written -/
theorem Td.kid {w W W1 : World} {base g c n : Nat} {l : List NoV} (h : Td w W base (.slice (some ⟨g, 0, none⟩) n c) l) (hn : l.length = n) {i : Nat} {X : NoV} (hX : l[i]? = some X) {K : Kd} {ka : Option Addr} {kl kc : Nat}
  (hown : W1.ownsRow base 47 2 (.slice ka kl kc) (X.kl + 1) (X.kids.flatMap kdc ++ kdc K)) (hkl : kl = X.kl + 1) (g1 : W.grownBy W1 X.kv.ownBlock) (hat : (Value.slice ka kl kc).ownBlock = X.kv.ownBlock ∨ (∃ q, (Value.slice ka kl kc).ownBlock = some q ∧ W.heap.size ≤ q)) :
  Td w (W1.setCell ⟨g, i * 13 + 10, none⟩ (.slice ka kl kc)) base (.slice (some ⟨g, 0, none⟩) n c) (l.set i { X with ka := ka, kl := kl, kc := kc, kids := X.kids ++ [K] }) := by
 have hkX := (h.each i X hX).kid
 -- all but the kids' row that grew
 have hno : W1.ownsRow base 43 13 (.slice (some ⟨g, 0, none⟩) n c) n (l.flatMap nvc) := by
  have := h.own.kept g1 (owns_ne h.own hkX (by decide))
  rwa [hn] at this
 have hat1 : ∀ (j : Nat) (Y : NoV), l[j]? = some Y → W1.ownsRow base 45 2 (.slice Y.aa Y.al Y.ac) Y.al (Y.attrs.flatMap avc) := fun j Y hY => (h.each j Y hY).own.kept g1 (owns_ne (h.each j Y hY).own hkX (by decide))
 have hkd1 : ∀ (j : Nat) (Y : NoV), l[j]? = some Y → j ≠ i → W1.ownsRow base 47 2 (.slice Y.ka Y.kl Y.kc) Y.kl (Y.kids.flatMap kdc) := fun j Y hY hji => (h.each j Y hY).kid.kept g1 (by
  show Y.kv.ownBlock = none ∨ Y.kv.ownBlock ≠ X.kv.ownBlock
  cases hb : Y.kv.ownBlock with
  | none => exact .inl rfl
  | some b => exact .inr fun e => h.apart j i Y X hY hX hji b hb e.symm)
 obtain ⟨s1, s2⟩ := hno.stored (i * 13 + 10) (.slice ka kl kc)
 rw [flat_set nvc 13 nvc_len (.slice ka kl kc) l i 10 X { X with ka := ka, kl := kl, kc := kc, kids := X.kids ++ [K] } hX (by decide) rfl] at s1
 have hgr1 : w.grownBy W1 none := grown_ownB h.gr hkX g1 h.low
 refine ⟨grown_ownB hgr1 hno s2 h.low, h.low, by rw [List.length_set, hn]; exact s1, fun j Y hY => ?_, fun a b A B hA hB hab k hA2 hB2 => ?_⟩
 ·rcases get_set hY with ⟨rfl, rfl⟩ | ⟨hji, hY'⟩
  ·have hx := h.each j X hX
   refine ⟨hx.row, (hat1 j X hX).kept s2 (owns_ne (hat1 j X hX) hno (by decide)), hx.len, hx.rows, ?_, ?_, hx.dcap⟩
   ·show World.ownsRow _ base 47 2 (.slice ka kl kc) kl ((X.kids ++ [K]).flatMap kdc)
    have e : (X.kids ++ [K]).flatMap kdc = X.kids.flatMap kdc ++ kdc K := by rw [List.flatMap_append]; simp
    rw [e]
    have hown2 : W1.ownsRow base 47 2 (.slice ka kl kc) kl (X.kids.flatMap kdc ++ kdc K) := by rw [hkl] at hown ⊢; exact hown
    exact hown2.kept s2 (owns_ne hown2 hno (by decide))
   ·show kl = (X.kids ++ [K]).length
    rw [hkl, List.length_append, hx.klen]; rfl
  ·have hy := h.each j Y hY'
   exact ⟨hy.row, (hat1 j Y hY').kept s2 (owns_ne (hat1 j Y hY') hno (by decide)), hy.len, hy.rows, (hkd1 j Y hY' hji).kept s2 (owns_ne (hkd1 j Y hY' hji) hno (by decide)), hy.klen, hy.dcap⟩
 ·have hnew : ∀ (j : Nat) (Y : NoV), l[j]? = some Y → j ≠ i → ∀ b, (Value.slice ka kl kc).ownBlock = some b → Y.kv.ownBlock = some b → False := fun j Y hY hji b hb hy => by
   rcases hat with e | ⟨q, e, hq⟩
   ·exact h.apart j i Y X hY hX hji b hy (by rw [← e]; exact hb)
   ·rw [e] at hb
    injection hb with hb
    have := ((h.each j Y hY).kid.lt b hy).2
    omega
  rcases get_set hA with ⟨ea, eA⟩ | ⟨ha, hA'⟩
  ·rcases get_set hB with ⟨eb, eB⟩ | ⟨hb, hB'⟩
   ·omega
   ·exact hnew b B hB' hb k (by rw [eA] at hA2; exact hA2) hB2
  ·rcases get_set hB with ⟨eb, eB⟩ | ⟨hb, hB'⟩
   ·exact hnew a A hA' ha k (by rw [eB] at hB2; exact hB2) hA2
   ·exact h.apart a b A B hA' hB' hab k hA2 hB2
/-- kids in a row of their own -/
theorem own_kds {w : World} {base t n : Nat} {a : Option Addr} {c : Nat} {l : List Kd} (h : w.ownsRow base t 2 (.slice a n c) n (l.flatMap kdc)) (hn : n = l.length) : Kds w a n l := by
 rcases h.2 with ⟨e, h0⟩ | ⟨g, cap, cur, e, hg, hh, hc, hm, hs, ht⟩
 ·subst h0
  exact ⟨by omega, Nat.zero_le _, fun h => by omega⟩
 ·injection e with e1 e2 e3
  subst e1 e3
  refine ⟨hn.symm, Nat.le_trans hc hm, fun _ => ⟨g, 0, rfl, fun i K hK => ?_⟩⟩
  have hi : i < l.length := (List.getElem?_eq_some_iff.1 hK).1
  constructor
  ·have h1 := h.cellAt (i * 2 + 0) (by omega)
   rw [flat_at kdc 2 kdc_len l i 0 K hK (by decide)] at h1
   simpa [kdc] using h1
  ·have h1 := h.cellAt (i * 2 + 1) (by omega)
   rw [flat_at kdc 2 kdc_len l i 1 K hK (by decide)] at h1
   simpa [kdc] using h1
theorem Nk.ok {w W : World} {base : Nat} {X : NoV} (h : Nk w W base X) (g : w.grownBy W none) : X.ok W := by
 obtain ⟨a, c, e, hats, -, -⟩ := own_ats h.own h.len (fun A hA => ⟨((h.rows A hA).1).grown g, (h.rows A hA).2⟩)
 injection e with e1 e2 e3
 subst e1
 exact ⟨h.row.grown g, hats, own_kds h.kid h.klen⟩
/-- the tree that is read -/
theorem Td.nos {w W : World} {base n c : Nat} {a : Option Addr} {l : List NoV} (h : Td w W base (.slice a n c) l) (hn : l.length = n) : Nos W a n l := by
 have ho := h.own
 rw [hn] at ho
 rcases ho.2 with ⟨e, h0⟩ | ⟨g, cap, cur, e, hg, hh, hc, hm, hs, ht⟩
 ·exact ⟨hn, by omega, fun h => by omega⟩
 ·injection e with e1 e2 e3
  subst e1 e3
  refine ⟨hn, Nat.le_trans hc hm, fun _ => ⟨g, 0, rfl, fun i X hX => ?_⟩⟩
  have k := fun f (hf : f < 13) => h.cell hn hX hf
  rw [Nat.zero_add]
  exact ⟨k 0 (by decide), k 1 (by decide), k 2 (by decide), k 3 (by decide), k 4 (by decide), k 5 (by decide), k 6 (by decide), k 7 (by decide), k 8 (by decide), k 9 (by decide), k 10 (by decide), k 11 (by decide), k 12 (by decide), (h.each i X hX).ok h.gr⟩
end Go.Proofs.YtlehncfehoelbaaGreatDoor
