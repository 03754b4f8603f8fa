/- The program's unpack: what a sequence stands for, into room that is there. -/
import Derived.Test.YteghhmnkdmehbaaPB
import Derived.Deep.DeepAppendRoom
import Derived.Deep.RegionHeld3
namespace Go.Proofs.Yteghhmnkdmehbaa
open Go.RowKit
set_option linter.unusedSimpArgs false
set_option linter.unusedVariables false

theorem Try.size5 : (Try.prog.info? 5).map (·.size) = some 1 := by kernel_rfl
/-- a copy, as a step of a region that draws its order: what it leaves as it was -/
theorem step_copy8 {P : Program} {ops : Array Oper} {o : Oper} {a : Act} {w : World} {K : Act → World → Prop} {Q : Exit → Act → World → Prop} {E : Prop} (hgd : o.guard = none) (d s : Operand) (dT sT : TypeId)
    (ho : o.op = .call { callee := .builtin .copy, args := #[d, s], argTypes := #[dT, sT] }) (elem : TypeId) (hu : P.underlying dT = some (.slice elem)) (hsz : (P.info? elem).map (·.size) = some 1)
    (dp sp : Option Addr) (dLen dCap sLen sCap : Nat) (hd : a.eval d = .slice dp dLen dCap) (hs : a.eval s = .slice sp sLen sCap)
    (g off : Nat) (cur : Array Value) (t : TypeId) (hg : w.heap[g]? = some (.cells cur t (0, 0))) (cs : List Value) (hn : cs.length = Nat.min sLen dLen)
    (hpos : 0 < cs.length → dp = some ⟨g, off, none⟩ ∧ ∃ ad, sp = some ad ∧ ∀ j v, cs[j]? = some v → w.cell? (ad.add j) = some v)
    (hfit : off + cs.length ≤ cur.size) (h1 : ∀ v ∈ cs, v.oneCell' = true)
    (h : ∀ w', Hid (w'.heap[g]? = some (.cells (splice cur.toList off cs).toArray t (0, 0))) → Hid (w.grownBy w' (some g)) → K (a.put o.dst (.int .i64 (cs.length : Int))) w') :
    if Region.wanted o (yielded ops a.tmps) = true then Oper.wp P o a w K Q else E := by
  rw [if_pos (by simp [Region.wanted, hgd])]
  by_cases h0 : cs.length = 0
  · obtain rfl : cs = [] := List.eq_nil_of_length_eq_zero h0
    have hrun := run_copy_none (P := P) w dT sT o.type elem dp sp dLen dCap sLen sCap hu hsz (by simpa using hn.symm)
    unfold Oper.wp
    simp [execOp, ho, resolve, invoke, builtin, hd, hs, hrun, Result.andThen]
    exact h w (show _ = _ by simpa [splice] using hg) (World.grownBy.refl _ _)
  · obtain ⟨rfl, ad, rfl, hsrc⟩ := hpos (by omega)
    have hrun := run_copy_row (P := P) w dT sT o.type elem g off dLen dCap ad sLen sCap cur t cs hu hsz hg hn hsrc hfit h1
    unfold Oper.wp
    simp [execOp, ho, resolve, invoke, builtin, hd, hs, hrun, Result.andThen]
    exact h _ (show _ = _ by simpa [splice] using setRow_heap w g _ _ t _ hg) ⟨rfl, rfl, rfl, by simp, fun k _ hk => setRow_other w g k _ (fun e => hk (by rw [e]))⟩

theorem grown_drewR (w : World) (row : Option Nat) : w.grownBy w.drew row := ⟨rfl, rfl, rfl, Nat.le_refl _, fun _ _ _ => rfl⟩
/-- what is unpacked, in a block with room for all -/
abbrev Ou (w : World) (g cap : Nat) (out : List Int) : Prop := w.ownsRow 0 5 1 (.slice (some ⟨g, 0, none⟩) out.length cap) out.length (bv out)

set_option maxHeartbeats 1000000 in
theorem unpack_any (g cap : Nat) (out : List Int) (s : SqV) (q : Sq) (w : World) (O : Ou w g cap out) (hb : Byt out) (S : SqOk w s q) (hc : out.length + q.1.length + q.2.2.toNat ≤ cap) (hcm : cap ≤ 1048576)
    (hq : q.2.1 = 0 ∧ q.2.2 = 0 ∨ 1 ≤ q.2.1 ∧ q.2.1 ≤ ((out.length + q.1.length : Nat) : Int) ∧ 4 ≤ q.2.2) :
    Calls Try.prog 35 #[.slice (some ⟨g, 0, none⟩) out.length cap, .agg #[.slice s.a s.n s.c, .int .i64 s.off, .int .i64 s.m]] w fun e w' =>
      e = .returned (.slice (some ⟨g, 0, none⟩) (cpy q.2.1.toNat q.2.2.toNat (out ++ q.1)).length cap) ∧ Ou w' g cap (cpy q.2.1.toNat q.2.2.toNat (out ++ q.1)) ∧ w.grownBy w' (some g) := by
  obtain ⟨i5, hi, hz0, hz1, hz2⟩ := info_parts Try.info5
  obtain ⟨lit, o, m⟩ := q
  obtain ⟨sa, n, sc, so, sm⟩ := s
  have e1 := S.off
  have e2 := S.m
  have hn := S.row.len_eq
  simp only at e1 e2 hn hc hq
  subst e1 e2
  obtain ⟨m, rfl⟩ := Int.eq_ofNat_of_zero_le (by omega : 0 ≤ sm)
  obtain ⟨y, rfl⟩ := Int.eq_ofNat_of_zero_le (by omega : 0 ≤ so)
  simp only [Int.toNat_natCast] at hc ⊢
  rw [hn] at hc hq
  generalize hL : out.length = L at *
  go_enter Try.func35, Try.ntmps35
  go_wp2
  obtain ⟨cur, hcu1, hcu2, hcu3⟩ : ∃ cur, w.heap[g]? = some (.cells cur 5 (0, 0)) ∧ cur.size = cap ∧ cur.toList.take L = bv out := by
    rcases O.2 with ⟨h0, _⟩ | ⟨g', cap', cur, hv, hbg, hg, hnc, hcm', hcs, htake⟩
    · cases h0
    · injection hv with h1 h2 h3
      injection h1 with h1
      injection h1 with h1 _
      subst h1 h3
      rw [hL, Nat.mul_one] at htake
      exact ⟨cur, hg, by omega, htake⟩
  have hgl : g < w.heap.size := (Array.getElem?_eq_some_iff.1 hcu1).1
  have hblk : (w.alloc (.cells #[.slice sa n sc, .int .i64 (y : Int), .int .i64 (m : Int)] 51)).drew.heap[g]? = some (.cells cur 5 (0, 0)) := ((World.grownBy_alloc w _ none).block g hgl (by simp)).trans hcu1
  have c0 : (w.alloc (.cells #[.slice sa n sc, .int .i64 (y : Int), .int .i64 (m : Int)] 51)).cell? ⟨w.heap.size, 0, none⟩ = some (.slice sa n sc) := by simp
  have hmin : (bv lit).length = Nat.min n n := by rw [bv_length, hn]; exact (Nat.min_self n).symm
  have hfit : L + (bv lit).length ≤ cur.size := by rw [bv_length, hcu2]; omega
  have hro : ∀ W : World, (Instr.slice 22 (.slice (some ⟨g, 0, none⟩) (L + n) cap) (some (.int .i64 (L : Int))) none none).run Try.prog W = .ok (.slice (some ⟨g, if cap = L then 0 else L, none⟩) n (cap - L)) W := by
    intro W
    have he : Try.prog.elem 22 = 5 := by simp [Program.elem, Try.underlying22]
    have hr := run_slice_l (P := Try.prog) (w := W) (a := some ⟨g, 0, none⟩) (len := L + n) (cap := cap) (t := 22) (by rw [he]; exact Try.underlying22) .i64 (L : Int) (by omega) (by omega)
    rw [he, run_sizeOf W hi] at hr
    rw [hr]
    simp only [Result.andThen, Program.cellsOf, hi, Int.toNat_natCast, Option.map_some, Option.getD_some, hz1, sliced]
    by_cases c : cap = L
    · rw [if_pos c, if_pos c]; simp
    · rw [if_neg c, if_neg c]; simp [Addr.add]; intro h; exact h.symm
  have hpos : 0 < (bv lit).length → some (⟨g, if cap = L then 0 else L, none⟩ : Addr) = some ⟨g, L, none⟩ ∧ ∃ ad, sa = some ad ∧ ∀ j v, (bv lit)[j]? = some v → (w.alloc (.cells #[.slice sa n sc, .int .i64 (y : Int), .int .i64 (m : Int)] 51)).drew.cell? (ad.add j) = some v := by
    intro h0
    refine ⟨?_, (S.row.grown (grown_trans (World.grownBy_alloc _ _ none) (grown_drew _))).src h0⟩
    rw [bv_length] at h0
    rw [if_neg (by omega)]
  have HQ : Hid _ := And.intro hblk (And.intro hmin (And.intro hfit hpos))
  clear hmin hfit hblk hpos
  generalize (if cap = L then 0 else L) = o1 at hro HQ
  have HL : Hid _ := hL
  clear hL
  go_region_held3 (fun w' => w'.cell? ⟨w.heap.size, 0, none⟩ = some (.slice sa n sc)) (go_keep) ((refine step_copy8 (by rfl) _ _ 22 22 (by rfl) 5 Try.underlying22 Try.size5 (some ⟨g, o1, none⟩) sa n (cap - L) n sc (by rfl) (by rfl) g L cur 5 HQ.out.1 (bv lit) HQ.out.2.1 HQ.out.2.2.2 HQ.out.2.2.1 (bv_one _) ?_; intro W4 ht hb4; have r0 : W4.cell? ⟨w.heap.size, 0, none⟩ = some (.slice sa n sc) := hb4.out.cell (show _ = _ from c0) (by intro e; have e := Option.some.inj e; simp only at e; omega)))
  have hbx : Box W4 w.heap.size 51 [.slice sa n sc, .int .i64 (y : Int), .int .i64 (m : Int)] := ((Box.new w _ _).kept (grown_drew _) (by simp)).kept hb4.out (by intro e; injection e with e; omega)
  have hgw : w.grownBy W4 (some g) := grown_trans (grown_trans (World.grownBy_alloc _ _ _) (grown_drewR _ _)) hb4.out
  have hlo : (out ++ lit).length = L + n := by rw [List.length_append, HL.out, hn]
  have hO : W4.ownsRow 0 5 1 (.slice (some ⟨g, 0, none⟩) (L + n) cap) (L + n) (bv (out ++ lit)) := by
    refine ⟨by rw [bv_length, hlo]; omega, Or.inr ⟨g, cap, _, rfl, Nat.zero_le _, ht.out, by omega, by unfold maxLen; omega, ?_, ?_⟩⟩
    · have hcl : cur.toList.length = cur.size := Array.length_toList
      rw [List.size_toArray, length_splice _ _ _ (by rw [bv_length]; omega), hcl]; omega
    · rw [bv_append, ← hcu3]
      unfold splice
      rw [Nat.mul_one, ← List.append_assoc, List.take_append_of_le_length (by simp [bv_length]; omega), List.take_of_length_le (by simp [bv_length]; omega)]
  have HW : Hid _ := And.intro hbx (And.intro hgw hO)
  have hbl : Byt (out ++ lit) := hb.append S.row.byt
  have HB : Hid _ := And.intro hlo hbl
  obtain ⟨b0, b1, b2⟩ := hbx.c3
  clear hbx hgw hO hbl hlo ht hb4 HQ hro c0 hcu1 hcu2 hcu3 O S
  have hcl : ∀ j, (cpy y j (out ++ lit)).length = L + n + j := fun j => by rw [cpy_len, HB.out.1]
  have HC : Hid _ := hcl
  have HN : Hid _ := hn
  clear hcl hn
  go_wp2_with fail
  go_loopw [0, 23] (fun vo vi wr => ∃ j : Nat, vi = .int .i64 j ∧ vo = .slice (some ⟨g, 0, none⟩) (L + n + j) cap ∧ j ≤ m ∧ Hid (Box wr w.heap.size 51 [.slice sa n sc, .int .i64 y, .int .i64 m] ∧ w.grownBy wr (some g) ∧ wr.ownsRow 0 5 1 (.slice (some ⟨g, 0, none⟩) (L + n + j) cap) (L + n + j) (bv (cpy y j (out ++ lit))))) (fun _ vi _ => m - (intOf vi).toNat)
  case atStart => exact ⟨0, rfl, rfl, Nat.zero_le _, HW⟩
  case round =>
    clear HW b0 b1 b2 r0
    obtain ⟨j, rfl, rfl, hj, HW⟩ := hrel
    obtain ⟨hbx, hgw, hO⟩ := HW.out
    by_cases hjm : j < m
    · obtain ⟨b0, b1, b2⟩ := hbx.c3
      obtain ⟨d, hd⟩ : ∃ d, L + n + j = d + y := ⟨L + n + j - y, by omega⟩
      have hbo := cpy_byt y j (out ++ lit) HB.out.2
      obtain ⟨a7, c7, e7, R7⟩ := owns_row hO hbo (by unfold maxLen; omega)
      injection e7 with e7 e71 e72
      clear e71 e72
      subst e7
      obtain ⟨b8, o8, e8, hc8⟩ := R7.cells (by omega)
      injection e8 with e8
      injection e8 with e8 e9
      subst e8 e9
      have cz := hc8 d (by omega)
      have hzb := hbo.getD d
      have hsn := cpy_snoc y j (out ++ lit)
      rw [HC.out j, hd, show d + y - y = d by omega] at hsn
      generalize (cpy y j (out ++ lit)).getD d 0 = z at cz hzb hsn
      rw [Nat.zero_add] at cz
      have HSN : Hid _ := hsn
      have hroom : L + n + j + 1 ≤ cap := by omega
      have hown := hO.alloc (.cells #[.int .u8 z] 5)
      have hgl2 : w.heap.size < wr.heap.size := hbx.lt
      rw [hd] at hroom hown ⊢
      have HDY : Hid _ := hd
      clear hsn hd hc8 R7 hO hbo
      go_wp2_with (at_builtin; (refine wpList_append_own_spare _ rfl _ _ 22 rfl 0 5 i5 1 Try.underlying22 hi hz1 g (d + y) cap _ rfl hown ⟨wr.heap.size, 0, none⟩ 1 1 [.int .u8 z] rfl rfl (cell_one _ _ _) (by simp [Value.oneCell']) hroom ?_))
      intro w5 o5 g5
      have hbx5 := (hbx.kept (World.grownBy_alloc _ (.cells #[.int .u8 z] 5) none) (by simp)).kept g5 (by intro e; injection e with e; omega)
      have hgw5 := grown_trans (grown_trans hgw (World.grownBy_alloc _ (.cells #[.int .u8 z] 5) _)) g5
      have o6 : w5.ownsRow 0 5 1 (.slice (some ⟨g, 0, none⟩) (L + n + (j + 1)) cap) (L + n + (j + 1)) (bv (cpy y (j + 1) (out ++ lit))) := by
        rw [HSN.out, bv_append, show L + n + (j + 1) = d + y + 1 by have := HDY.out; omega]; exact o5
      have HW5 : Hid _ := And.intro hbx5 (And.intro hgw5 o6)
      clear hbx5 hgw5 o6 o5 g5 hown hroom cz b0 b1 b2 HSN hbx hgw HW
      go_wp2
      go_roundw
      case rel => exact ⟨j + 1, by go_num, by rw [show L + n + (j + 1) = d + y + 1 by have := HDY.out; omega], by omega, HW5⟩
      case measure => simp [intOf]; omega
    · obtain rfl : j = m := by omega
      clear hbx hO
      go_wp2
      go_ret
      exact ⟨by rw [HC.out]; rfl, by show wr.ownsRow _ _ _ _ _ _; rw [HC.out]; exact HW.out.2.2, hgw⟩
end Go.Proofs.Yteghhmnkdmehbaa
