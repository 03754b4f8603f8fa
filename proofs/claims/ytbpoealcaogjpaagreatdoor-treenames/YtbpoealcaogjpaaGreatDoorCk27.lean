/- The program's Same. The program's tree: what each call answers. The page's example, as plain data. The page's example. TreeChecks. Entries that came in. -/
import Derived.KernelRfl
import Derived.ProofKit
import Derived.OpenShut
import Derived.ChangeOld
import Derived.Lib.SmallJoins
import Derived.Deep.Slices
import Derived.Test.YtbpoealcaogjpaaGreatDoorCk08
import Derived.Test.YtbpoealcaogjpaaGreatDoorCk12
import Derived.Test.YtbpoealcaogjpaaGreatDoorCk13
import Derived.Test.YtbpoealcaogjpaaGreatDoorCk14
import Derived.Test.YtbpoealcaogjpaaGreatDoorCk25
import Derived.Test.YtbpoealcaogjpaaGreatDoorCk26
namespace Go.Proofs.YtbpoealcaogjpaaGreatDoor
open Go.RowKit
set_option maxRecDepth 100000
set_option linter.unusedSimpArgs false
set_option linter.unusedVariables false

set_option maxHeartbeats 8000000 in
theorem peqn_any (a b : Option Addr) (n c m d : Nat) (l r : List NoV) (w : World) (R : Nos w a n l) (R2 : Nos w b m r) :
    Calls Tryz.prog 37 #[.slice a n c, .slice b m d, .func (.func 38) #[] #[]] w fun e w' => e = .returned (.bool (sameNos (nos l) (nos r))) ∧ w.grownBy w' none := by
  have hle1 : n ≤ 9223372036854775807 := R.le
  have hle2 : m ≤ 9223372036854775807 := R2.le
  by_cases hnm : n = m
  · subst hnm
    have HE : Hid _ := And.intro R.len_eq R2.len_eq
    have HR : Hid _ := And.intro R R2
    clear R R2
    have hb : (n != n) = false := by simp
    go_enter Tryz.func37, Tryz.ntmps37
    go_wp2_with fail
    go_loopw [17] (fun i wr => ∃ k : Nat, k ≤ n ∧ i = .int .i64 k ∧ Hid (sameNos (nos l) (nos r) = sameNos ((nos l).drop k) ((nos r).drop k)) ∧ Hid (w.grownBy wr none)) (fun i _ => n - (intOf i).toNat)
    case atStart => exact ⟨0, Nat.zero_le _, rfl, rfl, World.grownBy.refl _ _⟩
    case round =>
      obtain ⟨k, h1, rfl, HC, HG⟩ := hrel
      by_cases h3 : k < n
      · obtain ⟨b1, o1, rfl, c1⟩ := (HR.out.1.grown HG.out).at_ (by omega)
        obtain ⟨b2, o2, rfl, c2⟩ := (HR.out.2.grown HG.out).at_ (by omega)
        obtain ⟨x, hx⟩ : ∃ x, l[k]? = some x := ⟨_, List.getElem?_eq_getElem (by rw [HE.out.1]; exact h3)⟩
        obtain ⟨y, hy⟩ : ∃ y, r[k]? = some y := ⟨_, List.getElem?_eq_getElem (by rw [HE.out.2]; exact h3)⟩
        obtain ⟨p0, p1, p2, p3, p4, p5, p6, p7, p8, p9, p10, p11, p12, pok⟩ := c1 k x hx
        obtain ⟨q0, q1, q2, q3, q4, q5, q6, q7, q8, q9, q10, q11, q12, qok⟩ := c2 k y hy
        have hst := sameNos_step hx hy
        rw [← HC.out] at hst
        have hcall := fun W (g : wr.grownBy W none) => psnode_any x y W (pok.grown g) (qok.grown g)
        generalize sameNo x.no y.no = B at *
        obtain ⟨xk, xm, xu, xg, xi, xz, xda, xdl, xdc, xd, xt, xv, xaa, xal, xac, xat, xka, xkl, xkc, xki, xp, xl⟩ := x
        obtain ⟨yk, ym, yu, yg, yi, yz, yda, ydl, ydc, yd, yt, yv, yaa, yal, yac, yat, yka, ykl, ykc, yki, yp, yl⟩ := y
        simp only [NoV.val] at hcall
        simp only at p0 p1 p2 p3 p4 p5 p6 p7 p8 p9 p10 p11 p12 q0 q1 q2 q3 q4 q5 q6 q7 q8 q9 q10 q11 q12
        have HD : Hid _ := hst
        have hb1 := cell_lt11 p0
        have hb2 := cell_lt11 q0
        clear hst c1 c2 pok qok hx hy
        have h3i : (k : Int) < n := by omega
        cases B with
        | true =>
          go_wp2_with (go_at_call 38; refine (hcall _ (grown_trans (World.grownBy_alloc _ _ none) (World.grownBy_alloc _ _ none))).mono ?_; rintro e w' ⟨rfl, hg⟩)
          exact ⟨⟨k + 1, by omega, by go_num, by show _ = _; rw [HD.out]; rfl, grown_trans HG.out (grown_trans (grown_trans (World.grownBy_alloc _ _ none) (World.grownBy_alloc _ _ none)) hg)⟩, by simp [intOf]; omega⟩
        | false =>
          go_wp2_with (go_at_call 38; refine (hcall _ (grown_trans (World.grownBy_alloc _ _ none) (World.grownBy_alloc _ _ none))).mono ?_; rintro e w' ⟨rfl, hg⟩)
          go_ret
          exact ⟨by rw [HD.out]; rfl, grown_trans HG.out (grown_trans (grown_trans (World.grownBy_alloc _ _ none) (World.grownBy_alloc _ _ none)) hg)⟩
      · have HV : Hid (sameNos (nos l) (nos r) = true) := by
          show _ = _
          rw [HC.out, List.drop_eq_nil_of_le (by rw [nos_len, HE.out.1]; omega), List.drop_eq_nil_of_le (by rw [nos_len, HE.out.2]; omega)]
          rfl
        clear HC
        go_wp2_with fail
        go_ret
        exact ⟨by rw [HV.out]; rfl, HG.out⟩
  · have HV : Hid (sameNos (nos l) (nos r) = false) := by
      show _ = _
      exact sameNos_len (by rw [nos_len, nos_len, R.len_eq, R2.len_eq]; exact hnm)
    have hb : ((n : Int) == (m : Int)) = false := by rw [beq_eq_false_iff_ne]; omega
    clear R R2
    go_enter Tryz.func37, Tryz.ntmps37
    go_wp2_with fail
    go_ret
    exact ⟨by rw [HV.out]; rfl, World.grownBy.refl _ _⟩
theorem psame_any (a b : Option Addr) (n c m d : Nat) (l r : List NoV) (w : World) (R : Nos w a n l) (R2 : Nos w b m r) : Calls Tryz.prog 19 #[.agg #[.slice a n c], .agg #[.slice b m d]] w fun e w' => e = .returned (.bool (sameNos (nos l) (nos r))) ∧ w.grownBy w' none := by
  have hq := fun W (g : w.grownBy W none) => peqn_any a b n c m d l r W (R.grown g) (R2.grown g)
  generalize sameNos (nos l) (nos r) = B at *
  clear R R2
  go_enter Tryz.func19, Tryz.ntmps19
  go_wp2_with (go_at_call 37; refine (hq _ (grown_trans (World.grownBy_alloc _ _ none) (World.grownBy_alloc _ _ none))).mono ?_; rintro e w' ⟨rfl, hg⟩)
  go_ret
  exact ⟨rfl, grown_trans (grown_trans (World.grownBy_alloc _ _ none) (World.grownBy_alloc _ _ none)) hg⟩
end Go.Proofs.YtbpoealcaogjpaaGreatDoor

namespace Go.Proofs.YtbpoealcaogjpaaGreatDoor
open Go.RowKit
set_option maxRecDepth 100000
set_option linter.unusedSimpArgs false
set_option linter.unusedVariables false

theorem szs_of {l : List EnV} (h : Sml l) : Szs l := fun X hX => ⟨(h X hX).1, by have := (h X hX).2.1; omega, fun A hA => by have := (h X hX).2.2 A hA; omega⟩
end Go.Proofs.YtbpoealcaogjpaaGreatDoor

namespace Go.Proofs.YtbpoealcaogjpaaGreatDoor
set_option linter.unusedVariables false
set_option linter.unusedSimpArgs false

/-- the page's example: a file b, a folder a, a file a/c, a further name a/d of b -/
def exE : List En := [⟨[98], 1, 0, 0, 0, 0, 0, [], [], 0, []⟩, ⟨[97], 2, 0, 0, 0, 0, 0, [], [], 0, []⟩, ⟨[97, 47, 99], 1, 0, 0, 0, 0, 0, [], [], 0, []⟩, ⟨[97, 47, 100], 6, 0, 0, 0, 0, 0, [], [98], 0, []⟩]
theorem exE_chk : chk11 exE = (0, 0) := by kernel_rfl
theorem exE_canon : canon exE = [⟨2, 493, 0, 0, 0, 0, [], [], 0, [], [⟨[97], 1⟩, ⟨[98], 3⟩], 0, 3⟩, ⟨2, 0, 0, 0, 0, 0, [], [], 0, [], [⟨[99], 2⟩, ⟨[100], 3⟩], 0, 2⟩, ⟨1, 0, 0, 0, 0, 0, [], [], 0, [], [], 0, 1⟩, ⟨1, 0, 0, 0, 0, 0, [], [], 0, [], [], 0, 2⟩] := by kernel_rfl
end Go.Proofs.YtbpoealcaogjpaaGreatDoor

namespace Go.Proofs.YtbpoealcaogjpaaGreatDoor
open Go.RowKit
set_option maxRecDepth 100000
set_option linter.unusedSimpArgs false
set_option linter.unusedVariables false

theorem num11_any (n : Int) (w : World) : Calls Tryz.prog 13 #[.int .i64 n] w fun e w' => e = .returned (.int .i64 n) ∧ w = w' := by
  go_enter Tryz.func13, Tryz.ntmps13
  go_wp2
  go_ret
  exact ⟨rfl, rfl⟩
/-- the page's entries in memory -/
def exV : List EnV := [⟨⟨#[98]⟩, 1, 0, 0, 0, 0, 0, none, 0, 0, [], ⟨#[]⟩, 0, none, 0, 0, []⟩, ⟨⟨#[97]⟩, 2, 0, 0, 0, 0, 0, none, 0, 0, [], ⟨#[]⟩, 0, none, 0, 0, []⟩, ⟨⟨#[97, 47, 99]⟩, 1, 0, 0, 0, 0, 0, none, 0, 0, [], ⟨#[]⟩, 0, none, 0, 0, []⟩, ⟨⟨#[97, 47, 100]⟩, 6, 0, 0, 0, 0, 0, none, 0, 0, [], ⟨#[98]⟩, 0, none, 0, 0, []⟩]
theorem exV_ens : ens exV = exE := by
  unfold ens exV exE EnV.en
  simp [ByteArray.toList_eq]
theorem ex_mem (w : World) : Ens (w.alloc (.cells (exV.flatMap evc).toArray 44)) (some ⟨w.heap.size, 0, none⟩) 4 exV := by
  have b := Bx.new w 44 (exV.flatMap evc)
  refine ⟨rfl, by decide, fun _ => ⟨w.heap.size, 0, rfl, fun i X hX => ?_⟩⟩
  have k : ∀ f, f < 11 → (w.alloc (.cells (exV.flatMap evc).toArray 44)).cell? ⟨w.heap.size, 0 + i * 11 + f, none⟩ = (evc X)[f]? := fun f hf => by
    rw [Nat.zero_add, b.c (i * 11 + f), flat_at evc 11 evc_len exV i f X hX hf]
  have hm := List.mem_of_getElem? hX
  have ho : X.ok (w.alloc (.cells (exV.flatMap evc).toArray 44)) := by
    unfold exV at hm
    simp at hm
    rcases hm with rfl | rfl | rfl | rfl <;> exact ⟨row_zero none, Nat.le_refl _, ⟨rfl, Nat.zero_le _, fun h => by cases h⟩, Nat.le_refl _⟩
  exact ⟨k 0 (by decide), k 1 (by decide), k 2 (by decide), k 3 (by decide), k 4 (by decide), k 5 (by decide), k 6 (by decide), k 7 (by decide), k 8 (by decide), k 9 (by decide), k 10 (by decide), ho⟩
theorem ex_sml : Sml exV := by
  intro X hX
  unfold exV at hX
  simp at hX
  rcases hX with rfl | rfl | rfl | rfl <;> exact ⟨by decide, by decide, fun A hA => by cases hA⟩
/-- two kids in memory -/
theorem kds_two (w : World) (x y : Kd) : Kds (w.alloc (.cells #[.string (tx x.n), .int .i64 x.i, .string (tx y.n), .int .i64 y.i] 56)) (some ⟨w.heap.size, 0, none⟩) 2 [x, y] := by
  have b := Bx.new w 56 [.string (tx x.n), .int .i64 x.i, .string (tx y.n), .int .i64 y.i]
  refine ⟨rfl, by decide, fun _ => ⟨w.heap.size, 0, rfl, fun i K hK => ?_⟩⟩
  match i, hK with
  | 0, hK => simp at hK; subst hK; exact ⟨b.c 0, b.c 1⟩
  | 1, hK => simp at hK; subst hK; exact ⟨b.c 2, b.c 3⟩
  | i + 2, hK => simp at hK
theorem list4 {α : Type} {l : List α} (h : l.length = 4) : ∃ x0 x1 x2 x3, l = [x0, x1, x2, x3] := by
  match l, h with
  | [x0, x1, x2, x3], _ => exact ⟨x0, x1, x2, x3, rfl⟩
theorem ex_four {ns : List NoV} (h : nos ns = canon exE) : ∃ N0 N1 N2 N3, ns = [N0, N1, N2, N3] ∧ N0.kids = [⟨[97], 1⟩, ⟨[98], 3⟩] ∧ N1.kids = [⟨[99], 2⟩, ⟨[100], 3⟩] ∧ N3.links = 2 := by
  rw [exE_canon] at h
  have hl : ns.length = 4 := by have := congrArg List.length h; rw [nos_len] at this; exact this
  obtain ⟨N0, N1, N2, N3, rfl⟩ := list4 hl
  simp only [nos, List.map_cons, List.map_nil, List.cons.injEq, and_true] at h
  refine ⟨N0, N1, N2, N3, rfl, ?_, ?_, ?_⟩
  · show N0.no.kids = _
    rw [h.1]
  · show N1.no.kids = _
    rw [h.2.1]
  · show N3.no.links = _
    rw [h.2.2.2]
set_option maxRecDepth 100000 in
set_option maxHeartbeats 8000000 in
theorem live11_any (w : World) : Calls Tryz.prog 10 #[] w fun e w' => e = .returned (.bool true) ∧ w.grownBy w' none := by
  have hcan := pcanon_any (some ⟨w.heap.size, 0, none⟩) 4 4 exV (w.alloc (.cells (exV.flatMap evc).toArray 44)) (ex_mem w) (szs_of ex_sml) (by decide)
  have HG1 : Hid _ := World.grownBy_alloc w (.cells (exV.flatMap evc).toArray 44) none
  simp only [CnPost, exV_ens, exE_chk, if_true, exE_canon] at hcan
  go_enter Tryz.func10, Tryz.ntmps10
  go_wp2_with fail
  refine hcan.mono ?_
  clear hcan
  rintro e W2 ⟨g2, b, n, c, ns, rfl, hN, -, -, hns⟩
  have hns2 : nos ns = canon exE := by
    rw [hns]
    first | rfl | (rw [exE_chk]; rfl)
  clear hns
  obtain ⟨N0, N1, N2, N3, rfl, e0, e1, e3⟩ := ex_four hns2
  clear hns2
  obtain rfl : n = 4 := hN.len_eq.symm
  obtain ⟨bb, bo, rfl, hat⟩ := hN.at_ (by decide)
  have g3 := World.grownBy_alloc W2 (.cells #[.slice (some ⟨bb, bo, none⟩) 4 c] 33) none
  have A0 := (hat 0 N0 rfl).grown g3
  have A1 := (hat 1 N1 rfl).grown g3
  have A3 := (hat 3 N3 rfl).grown g3
  have BT := Bx.new W2 33 [.slice (some ⟨bb, bo, none⟩) 4 c]
  have HG3 : Hid _ := grown_trans (grown_trans HG1.out g2) g3
  have HA : Hid _ := And.intro A0 (And.intro A1 (And.intro A3 BT))
  have t1 : _ = some _ := BT.c 0
  have k0 := A0.c10
  clear hat hN g2 g3 A0 A1 A3 BT HG1
  go_wp2_with (go_at_call 13; refine (num11_any _ _).mono ?_; rintro e w' ⟨rfl, rfl⟩)
  have g4 := World.grownBy_alloc (W2.alloc (.cells #[.slice (some ⟨bb, bo, none⟩) 4 c] 33)) (.cells #[.string (tx [97]), .int .i64 1, .string (tx [98]), .int .i64 3] 56) none
  have K4 := kds_two (W2.alloc (.cells #[.slice (some ⟨bb, bo, none⟩) 4 c] 33)) ⟨[97], 1⟩ ⟨[98], 3⟩
  rw [World.size_alloc] at K4
  have hs0 := rsamekids_any N0.ka (some ⟨W2.heap.size + 1, 0, none⟩) N0.kl N0.kc 2 2 N0.kids [⟨[97], 1⟩, ⟨[98], 3⟩] _ (HA.out.1.ok.kds.grown g4) K4
  rw [e0, show sameKds [(⟨[97], 1⟩ : Kd), ⟨[98], 3⟩] [⟨[97], 1⟩, ⟨[98], 3⟩] = true from by rw [sameKds_eq]] at hs0
  refine hs0.mono ?_
  clear hs0
  rintro e W6 ⟨rfl, t6, rfl⟩
  have hg6 := drewG11 g4 t6
  have HG6 : Hid _ := grown_trans HG3.out hg6
  have HA6 : Hid _ := And.intro (HA.out.2.1.grown hg6) (And.intro (HA.out.2.2.1.grown hg6) (HA.out.2.2.2.kept hg6))
  have t2 : _ = some _ := HA6.out.2.2.c 0
  have k1 := HA6.out.1.c10
  clear K4 g4 hg6 k0 t1
  generalize ((W2.alloc (.cells #[.slice (some ⟨bb, bo, none⟩) 4 c] 33)).alloc (.cells #[.string (tx [97]), .int .i64 1, .string (tx [98]), .int .i64 3] 56)).drewN t6 = W7 at *
  generalize W2.heap.size = gt at *
  clear HA HG3
  go_wp2_with fail
  have g8 := World.grownBy_alloc W7 (.cells #[.string (tx [99]), .int .i64 2, .string (tx [100]), .int .i64 3] 56) none
  have K8 := kds_two W7 ⟨[99], 2⟩ ⟨[100], 3⟩
  have hs1 := rsamekids_any N1.ka (some ⟨W7.heap.size, 0, none⟩) N1.kl N1.kc 2 2 N1.kids [⟨[99], 2⟩, ⟨[100], 3⟩] _ (HA6.out.1.ok.kds.grown g8) K8
  rw [e1, show sameKds [(⟨[99], 2⟩ : Kd), ⟨[100], 3⟩] [⟨[99], 2⟩, ⟨[100], 3⟩] = true from by rw [sameKds_eq]] at hs1
  refine hs1.mono ?_
  clear hs1
  rintro e W9 ⟨rfl, t9, rfl⟩
  have hg9 := drewG11 g8 t9
  have HG9 : Hid _ := grown_trans HG6.out hg9
  have t3 : _ = some _ := (HA6.out.2.2.kept hg9).c 0
  have k3 := (HA6.out.2.1.grown hg9).c12
  rw [e3] at k3
  clear K8 g8 hg9 t2 k1
  generalize (W7.alloc (.cells #[.string (tx [99]), .int .i64 2, .string (tx [100]), .int .i64 3] 56)).drewN t9 = W10 at *
  go_wp2
  go_ret
  exact ⟨rfl, HG9.out⟩
end Go.Proofs.YtbpoealcaogjpaaGreatDoor

namespace Go.Proofs.YtbpoealcaogjpaaGreatDoor
open Go.RowKit
set_option maxRecDepth 100000
set_option linter.unusedSimpArgs false
set_option linter.unusedVariables false

set_option maxHeartbeats 4000000 in
theorem treeChecks_walk (a : Option Addr) (len cap : Nat) (l : List EnV) (w : World) (E : Ens w a len l) : Calls Tryz.prog 3 #[.slice a len cap] w fun e w' => e = .returned (.bool true) ∧ w.grownBy w' none := by
  have hmu := rmuch_any a len cap l w E
  unfold MuPost at hmu
  have HE : Hid _ := E
  clear E
  go_enter Tryz.func3, Tryz.ntmps3
  go_wp2_with fail
  refine hmu.mono ?_
  clear hmu
  rintro e W1 ⟨rfl | ⟨rfl, hlen, hsm⟩, g1⟩
  · go_wp2_with fail
    refine (live11_any _).mono ?_
    rintro e W2 ⟨rfl, g2⟩
    go_wp2
    go_ret
    exact ⟨rfl, grown_trans g1 g2⟩
  · have hsml := hsm.sml
    have HG1 : Hid _ := g1
    have hpc := pcheck_any a len cap l W1 (HE.out.grown g1) (szs_of hsml) (by omega)
    have HS : Hid _ := And.intro hsml hlen
    clear g1 hsm hsml
    generalize hc1 : (chk11 (ens l)).1 = k1 at *
    generalize hc2 : (chk11 (ens l)).2 = k2 at *
    have HK : Hid _ := And.intro hc1 hc2
    clear hc1 hc2 hlen
    go_wp2_with fail
    refine hpc.mono ?_
    clear hpc
    rintro e W2 ⟨rfl, g2⟩
    have hrc := rcheck_any a len cap l W2 (HE.out.grown (grown_trans HG1.out g2)) HS.out.1 (by have := HS.out.2; omega)
    rw [HK.out.1, HK.out.2] at hrc
    have HG2 : Hid _ := grown_trans HG1.out g2
    clear g2
    go_wp2_with fail
    refine hrc.mono ?_
    clear hrc
    rintro e W3 ⟨rfl, g3⟩
    have HG3 : Hid _ := grown_trans HG2.out g3
    clear g3 HG2 HG1
    go_wp2_with (go_at_call 13; refine (num11_any _ _).mono ?_; rintro e w' ⟨rfl, rfl⟩)
    refine (live11_any _).mono ?_
    rintro e W4 ⟨rfl, g4⟩
    go_wp2
    go_ret
    exact ⟨rfl, grown_trans HG3.out g4⟩
end Go.Proofs.YtbpoealcaogjpaaGreatDoor

namespace Go.Proofs.YtbpoealcaogjpaaGreatDoor
open Go.ChangeShapes Go.WideShapes Go.RowKit Go.Joins
set_option maxRecDepth 100000
set_option linter.unusedVariables false
set_option linter.unusedSimpArgs false

theorem Tryz.ce3 : Tryz.prog.cellsOf 3 = 1 := by kernel_rfl
theorem Tryz.ce5 : Tryz.prog.cellsOf 5 = 1 := by kernel_rfl
theorem Tryz.ce9 : Tryz.prog.cellsOf 9 = 1 := by kernel_rfl
theorem Tryz.ceB : Tryz.prog.cellsOf 41 = 1 := by kernel_rfl
theorem Tryz.ceA : Tryz.prog.cellsOf 50 = 2 := by kernel_rfl
theorem Tryz.ceAs : Tryz.prog.cellsOf 42 = 1 := by kernel_rfl
theorem Tryz.ceE : Tryz.prog.cellsOf 44 = 11 := by kernel_rfl
theorem row_of_trod11 {H : Type} {enc : TypeId × Value → H} {w : World} {fuel : Nat} {v : Value} {x : DataW H × List MemPlace} (h : DataW.trod enc Tryz.prog w 0 (fun _ => true) true fuel 41 [v] = some x) :
    ∃ a len cap xs, v = .slice a len cap ∧ Row w a len xs ∧ len ≤ cap := by
  rcases open_ints Tryz.underlying41 Tryz.underlying5 Tryz.ce5 h with ⟨hcs, _⟩ | ⟨y, l, c, zs, hcs, _, hl, hm, hz, _, hcell, hwz⟩
  · simp at hcs
    have hr : IsRow .u8 w none 0 0 [] := .inl ⟨rfl, rfl, rfl, rfl⟩
    exact ⟨none, 0, 0, _, hcs, hr.row, Nat.le_refl _⟩
  · simp at hcs
    have hr : IsRow .u8 w (some y) l c zs := .inr ⟨_, rfl, hl, hm, by simpa using hz, hcell, hwz⟩
    exact ⟨some y, l, c, _, hcs, hr.row, hl⟩
theorem trod_struct11 {H : Type} {P : Program} {enc : TypeId × Value → H} {w : World} {base : Nat} {spare : Nat → Bool} {held : Bool} {t : TypeId} {f0 f1 f2 f3 f4 f5 f6 f7 f8 f9 f10 : Field} {fuel : Nat} {cs : List Value} {x : DataW H × List MemPlace} (ht : P.underlying t = some (.struct #[f0, f1, f2, f3, f4, f5, f6, f7, f8, f9, f10])) (h : DataW.trod enc P w base spare held fuel t cs = some x) :
    ∃ y0 y1 y2 y3 y4 y5 y6 y7 y8 y9 y10 n, cs.length = P.cellsOf t ∧ DataW.trod enc P w base spare held n f0.type ((cs.drop f0.offset).take (P.cellsOf f0.type)) = some y0 ∧
      DataW.trod enc P w base spare held n f1.type ((cs.drop f1.offset).take (P.cellsOf f1.type)) = some y1 ∧
      DataW.trod enc P w base spare held n f2.type ((cs.drop f2.offset).take (P.cellsOf f2.type)) = some y2 ∧
      DataW.trod enc P w base spare held n f3.type ((cs.drop f3.offset).take (P.cellsOf f3.type)) = some y3 ∧
      DataW.trod enc P w base spare held n f4.type ((cs.drop f4.offset).take (P.cellsOf f4.type)) = some y4 ∧
      DataW.trod enc P w base spare held n f5.type ((cs.drop f5.offset).take (P.cellsOf f5.type)) = some y5 ∧
      DataW.trod enc P w base spare held n f6.type ((cs.drop f6.offset).take (P.cellsOf f6.type)) = some y6 ∧
      DataW.trod enc P w base spare held n f7.type ((cs.drop f7.offset).take (P.cellsOf f7.type)) = some y7 ∧
      DataW.trod enc P w base spare held n f8.type ((cs.drop f8.offset).take (P.cellsOf f8.type)) = some y8 ∧
      DataW.trod enc P w base spare held n f9.type ((cs.drop f9.offset).take (P.cellsOf f9.type)) = some y9 ∧
      DataW.trod enc P w base spare held n f10.type ((cs.drop f10.offset).take (P.cellsOf f10.type)) = some y10 := by
  obtain ⟨xs, n, _, rfl, hl, hlen, hf⟩ := DataW.trod_struct ht h
  match xs, hlen with
  | [y0, y1, y2, y3, y4, y5, y6, y7, y8, y9, y10], _ => exact ⟨y0, y1, y2, y3, y4, y5, y6, y7, y8, y9, y10, n, hl, by simpa using hf 0 f0 rfl, by simpa using hf 1 f1 rfl, by simpa using hf 2 f2 rfl, by simpa using hf 3 f3 rfl, by simpa using hf 4 f4 rfl, by simpa using hf 5 f5 rfl, by simpa using hf 6 f6 rfl, by simpa using hf 7 f7 rfl, by simpa using hf 8 f8 rfl, by simpa using hf 9 f9 rfl, by simpa using hf 10 f10 rfl⟩
theorem list11 {α : Type} {l : List α} (h : l.length = 11) : ∃ x0 x1 x2 x3 x4 x5 x6 x7 x8 x9 x10, l = [x0, x1, x2, x3, x4, x5, x6, x7, x8, x9, x10] := by
  match l, h with
  | [x0, x1, x2, x3, x4, x5, x6, x7, x8, x9, x10], _ => exact ⟨x0, x1, x2, x3, x4, x5, x6, x7, x8, x9, x10, rfl⟩
theorem list2 {α : Type} {l : List α} (h : l.length = 2) : ∃ x0 x1, l = [x0, x1] := by
  match l, h with
  | [x0, x1], _ => exact ⟨x0, x1, rfl⟩
/-- one attribute, out of its reading -/
theorem at_of_trod {H : Type} {enc : TypeId × Value → H} {w : World} {n : Nat} {cs : List Value} {x : DataW H × List MemPlace} {b o : Nat} (hl : cs.length = 2) (hc : ∀ t, t < 2 → w.cell? ⟨b, o + t, none⟩ = cs[t]?)
    (h : DataW.trod enc Tryz.prog w 0 (fun _ => true) true n 50 cs = some x) : ∃ A : AtV, AtAt w b o A := by
  obtain ⟨x0, x1, rfl⟩ := list2 hl
  obtain ⟨y0, y1, m, _, _, h0, h1⟩ := trod_struct2 Tryz.underlying50 h
  simp only [Tryz.ce9, Tryz.ceB, List.drop_zero, List.drop_succ_cons, List.take_succ_cons, List.take_zero] at h0 h1
  obtain ⟨s, e0, _, _⟩ := DataW.trod_string Tryz.underlying9 h0
  obtain ⟨a, len, cap, xs, e1, hr, hcp⟩ := row_of_trod11 h1
  simp only [List.cons.injEq, and_true] at e0
  subst e0 e1
  exact ⟨⟨s, a, len, cap, xs⟩, hc 0 (by omega), hc 1 (by omega), hr, hcp⟩
theorem ats_of_trod {H : Type} {enc : TypeId × Value → H} {w : World} {fuel : Nat} {v : Value} {x : DataW H × List MemPlace} (h : DataW.trod enc Tryz.prog w 0 (fun _ => true) true fuel 42 [v] = some x) :
    ∃ a len cap l, v = .slice a len cap ∧ Ats w a len l ∧ len ≤ cap ∧ (a = none → cap = 0) := by
  rcases Deep.open_slice Tryz.underlying42 h with ⟨hcs, _⟩ | ⟨y, len, cap, m, n, D, Pl, hcs, _, hl, hm, hmm, _, hel⟩
  · simp at hcs
    exact ⟨none, 0, 0, [], hcs, ⟨rfl, Nat.zero_le _, fun h => absurd h (by omega)⟩, Nat.le_refl _, fun _ => rfl⟩
  · simp at hcs
    simp only [if_true] at hmm
    subst hmm
    rcases Nat.eq_zero_or_pos len with rfl | h0
    · exact ⟨some y, 0, _, [], hcs, ⟨rfl, Nat.zero_le _, fun h => absurd h (by omega)⟩, hl, fun e => by cases e⟩
    · obtain ⟨b, off, spot⟩ := y
      rw [Tryz.ceA] at hel
      have hspot : spot = none := by
        obtain ⟨cs, h1, _⟩ := hel 0 (by omega)
        obtain ⟨_, hl4, hc⟩ := World.cells?_some h1
        have := hc 0 (by omega)
        obtain ⟨x0, x1, rfl⟩ := list2 hl4
        have h2 : w.cell? ((Addr.add ⟨b, off, spot⟩ (0 * 2)).add 0) = some x0 := this
        simpa [Addr.add] using World.cell?_spot h2
      subst hspot
      have hadd : ∀ i t, ((⟨b, off, none⟩ : Addr).add (i * 2)).add t = ⟨b, off + i * 2 + t, none⟩ := by
        intro i t
        have e : ∀ o k, (⟨b, o, none⟩ : Addr).add k = ⟨b, o + k, none⟩ := by intro o k; unfold Addr.add; split <;> simp_all
        rw [e, e]
      obtain ⟨A, hA⟩ := @Deep.choose_lt AtV ⟨⟨⟨#[]⟩, none, 0, 0, []⟩⟩ len (fun i A => AtAt w b (off + i * 2) A) (fun i hi => by
        obtain ⟨cs, h1, h2⟩ := hel i (by omega)
        obtain ⟨_, hl4, hc⟩ := World.cells?_some h1
        exact at_of_trod hl4 (fun t ht => by rw [← hadd]; exact hc t ht) h2)
      refine ⟨_, len, _, (List.range len).map A, hcs, ⟨by simp, by omega, fun _ => ⟨b, off, rfl, fun i X hX => ?_⟩⟩, hl, fun e => by cases e⟩
      have hi : i < len := by
        rcases Nat.lt_or_ge i len with h | h
        · exact h
        · rw [List.getElem?_eq_none (by simp; omega)] at hX; cases hX
      rw [List.getElem?_map, List.getElem?_range hi] at hX
      simp at hX
      subst hX
      exact hA i hi
/-- one entry, out of its reading -/
theorem en_of_trod {H : Type} {enc : TypeId × Value → H} {w : World} {n : Nat} {cs : List Value} {x : DataW H × List MemPlace} {b o : Nat} (hl : cs.length = 11) (hc : ∀ t, t < 11 → w.cell? ⟨b, o + t, none⟩ = cs[t]?)
    (h : DataW.trod enc Tryz.prog w 0 (fun _ => true) true n 44 cs = some x) : ∃ X : EnV, EnAt w b o X := by
  obtain ⟨x0, x1, x2, x3, x4, x5, x6, x7, x8, x9, x10, rfl⟩ := list11 hl
  obtain ⟨y0, y1, y2, y3, y4, y5, y6, y7, y8, y9, y10, m, _, h0, h1, h2, h3, h4, h5, h6, h7, h8, h9, h10⟩ := trod_struct11 Tryz.underlying44 h
  simp only [Tryz.ce3, Tryz.ce9, Tryz.ceB, Tryz.ceAs, List.drop_zero, List.drop_succ_cons, List.take_succ_cons, List.take_zero] at h0 h1 h2 h3 h4 h5 h6 h7 h8 h9 h10
  obtain ⟨s0, e0, _, _⟩ := DataW.trod_string Tryz.underlying9 h0
  obtain ⟨z1, e1, _, w1⟩ := DataW.trod_int Tryz.underlying3 h1
  obtain ⟨z2, e2, _, w2⟩ := DataW.trod_int Tryz.underlying3 h2
  obtain ⟨z3, e3, _, w3⟩ := DataW.trod_int Tryz.underlying3 h3
  obtain ⟨z4, e4, _, w4⟩ := DataW.trod_int Tryz.underlying3 h4
  obtain ⟨z5, e5, _, w5⟩ := DataW.trod_int Tryz.underlying3 h5
  obtain ⟨z6, e6, _, w6⟩ := DataW.trod_int Tryz.underlying3 h6
  obtain ⟨da, dl, dc, ds, e7, hr, hcp⟩ := row_of_trod11 h7
  obtain ⟨s8, e8, _, _⟩ := DataW.trod_string Tryz.underlying9 h8
  obtain ⟨z9, e9, _, w9⟩ := DataW.trod_int Tryz.underlying3 h9
  obtain ⟨aa, al, ac, tts, e10, ha, hac, _⟩ := ats_of_trod h10
  simp only [List.cons.injEq, and_true] at e0 e1 e2 e3 e4 e5 e6 e8 e9
  subst e0 e1 e2 e3 e4 e5 e6 e7 e8 e9 e10
  exact ⟨⟨s0, z1, z2, z3, z4, z5, z6, da, dl, dc, ds, s8, z9, aa, al, ac, tts⟩, hc 0 (by omega), hc 1 (by omega), hc 2 (by omega), hc 3 (by omega), hc 4 (by omega), hc 5 (by omega), hc 6 (by omega), hc 7 (by omega), hc 8 (by omega), hc 9 (by omega), hc 10 (by omega), ⟨hr, hcp, ha, hac⟩⟩
theorem ens_of_trod {H : Type} {enc : TypeId × Value → H} {w : World} {fuel : Nat} {v : Value} {x : DataW H × List MemPlace} (h : DataW.trod enc Tryz.prog w 0 (fun _ => true) true fuel 22 [v] = some x) :
    ∃ a len cap l, v = .slice a len cap ∧ Ens w a len l ∧ len ≤ cap ∧ (a = none → cap = 0) := by
  rcases Deep.open_slice Tryz.underlying22 h with ⟨hcs, _⟩ | ⟨y, len, cap, m, n, D, Pl, hcs, _, hl, hm, hmm, _, hel⟩
  · simp at hcs
    exact ⟨none, 0, 0, [], hcs, ⟨rfl, Nat.zero_le _, fun h => absurd h (by omega)⟩, Nat.le_refl _, fun _ => rfl⟩
  · simp at hcs
    simp only [if_true] at hmm
    subst hmm
    rcases Nat.eq_zero_or_pos len with rfl | h0
    · exact ⟨some y, 0, _, [], hcs, ⟨rfl, Nat.zero_le _, fun h => absurd h (by omega)⟩, hl, fun e => by cases e⟩
    · obtain ⟨b, off, spot⟩ := y
      rw [Tryz.ceE] at hel
      have hspot : spot = none := by
        obtain ⟨cs, h1, _⟩ := hel 0 (by omega)
        obtain ⟨_, hl4, hc⟩ := World.cells?_some h1
        have := hc 0 (by omega)
        obtain ⟨x0, x1, x2, x3, x4, x5, x6, x7, x8, x9, x10, rfl⟩ := list11 hl4
        have h2 : w.cell? ((Addr.add ⟨b, off, spot⟩ (0 * 11)).add 0) = some x0 := this
        simpa [Addr.add] using World.cell?_spot h2
      subst hspot
      have hadd : ∀ i t, ((⟨b, off, none⟩ : Addr).add (i * 11)).add t = ⟨b, off + i * 11 + t, none⟩ := by
        intro i t
        have e : ∀ o k, (⟨b, o, none⟩ : Addr).add k = ⟨b, o + k, none⟩ := by intro o k; unfold Addr.add; split <;> simp_all
        rw [e, e]
      obtain ⟨A, hA⟩ := @Deep.choose_lt EnV ⟨⟨⟨#[]⟩, 0, 0, 0, 0, 0, 0, none, 0, 0, [], ⟨#[]⟩, 0, none, 0, 0, []⟩⟩ len (fun i A => EnAt w b (off + i * 11) A) (fun i hi => by
        obtain ⟨cs, h1, h2⟩ := hel i (by omega)
        obtain ⟨_, hl4, hc⟩ := World.cells?_some h1
        exact en_of_trod hl4 (fun t ht => by rw [← hadd]; exact hc t ht) h2)
      refine ⟨_, len, _, (List.range len).map A, hcs, ⟨by simp, by omega, fun _ => ⟨b, off, rfl, fun i X hX => ?_⟩⟩, hl, fun e => by cases e⟩
      have hi : i < len := by
        rcases Nat.lt_or_ge i len with h | h
        · exact h
        · rw [List.getElem?_eq_none (by simp; omega)] at hX; cases hX
      rw [List.getElem?_map, List.getElem?_range hi] at hX
      simp at hX
      subst hX
      exact hA i hi
end Go.Proofs.YtbpoealcaogjpaaGreatDoor
