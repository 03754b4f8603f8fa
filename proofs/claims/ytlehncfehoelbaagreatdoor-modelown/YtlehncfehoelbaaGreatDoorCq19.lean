/- The program's tree: the fields, a further name, a path's parts. -/
import Derived.Laws.AppendOwn
import Derived.Test.YtlehncfehoelbaaGreatDoorCq09
import Derived.Test.YtlehncfehoelbaaGreatDoorCq13
import Derived.Test.YtlehncfehoelbaaGreatDoorCq18
namespace Go.Proofs.YtlehncfehoelbaaGreatDoor
open Go.RowKit
set_option maxRecDepth 100000
open Go.Maps (Keyed)
set_option linter.unusedSimpArgs false
set_option linter.unusedVariables false
set_option maxHeartbeats 4000000 in
theorem pfieldsfit_any (X : EnV) (w : World) (hd : X.data.length = X.dl) (hdl : X.dl ≤ 9223372036854775807) (ht : X.target.size ≤ 9223372036854775807) : Calls Tryz.prog 92 #[X.val] w fun e w' => e = .returned (.bool (fldF X.en)) ∧ w.grownBy w' none := by
 obtain ⟨path, K, mo, uid, gid, ti, sz_, da, dl, dc, data, tg, dev, aa, al, ac, attrs⟩ := X
 simp only [EnV.val]
 simp only at hd hdl ht
 have HF : Hid (fldF (EnV.en ⟨path, K, mo, uid, gid, ti, sz_, da, dl, dc, data, tg, dev, aa, al, ac, attrs⟩) = (inI mo 0 4095 && (inI uid 0 4294967295 && (inI gid 0 4294967295 && (inI ti 0 4294967295 && (if K = 1 then inI sz_ dl 1099511627775 else if K = 3 then txt tg.toList 1 4096 else if K = 4 ∨ K = 5 then inI dev 0 4294967295 else true)))))) := by
  show _ = _
  unfold fldF EnV.en
  simp only [hd]
 generalize fldF (EnV.en ⟨path, K, mo, uid, gid, ti, sz_, da, dl, dc, data, tg, dev, aa, al, ac, attrs⟩) = A at *
 clear hd
 have hup := fun n m W => pupto_any n m W
 have htx := fun W => pistext_any tg 4096 W ht
 have G0 : Hid _ := xga w (.cells #[.string path, .int .i64 K, .int .i64 mo, .int .i64 uid, .int .i64 gid, .int .i64 ti, .int .i64 sz_, .slice da dl dc, .string tg, .int .i64 dev, .slice aa al ac] 30) none
 cases h0 : inI mo 0 4095 with
 | false =>
  rw [h0] at HF
  go_enter Tryz.func92, Tryz.ntmps92
  go_wp2_with (first | (go_at_call 113; refine (hup _ _ _).mono ?_; rintro e w' ⟨rfl, rfl⟩) | (go_at_call 114; refine (htx _).mono ?_; rintro e w' ⟨rfl, rfl⟩))
  go_ret
  exact ⟨by rw [HF.out]; rfl, G0.out⟩
 | true =>
  rw [h0] at HF
  cases h1 : inI uid 0 4294967295 with
  | false =>
   rw [h1] at HF
   go_enter Tryz.func92, Tryz.ntmps92
   go_wp2_with (first | (go_at_call 113; refine (hup _ _ _).mono ?_; rintro e w' ⟨rfl, rfl⟩) | (go_at_call 114; refine (htx _).mono ?_; rintro e w' ⟨rfl, rfl⟩))
   go_ret
   exact ⟨by rw [HF.out]; simp, G0.out⟩
  | true =>
   rw [h1] at HF
   cases h2 : inI gid 0 4294967295 with
   | false =>
    rw [h2] at HF
    go_enter Tryz.func92, Tryz.ntmps92
    go_wp2_with (first | (go_at_call 113; refine (hup _ _ _).mono ?_; rintro e w' ⟨rfl, rfl⟩) | (go_at_call 114; refine (htx _).mono ?_; rintro e w' ⟨rfl, rfl⟩))
    go_ret
    exact ⟨by rw [HF.out]; simp, G0.out⟩
   | true =>
    rw [h2] at HF
    cases h3 : inI ti 0 4294967295 with
    | false =>
     rw [h3] at HF
     go_enter Tryz.func92, Tryz.ntmps92
     go_wp2_with (first | (go_at_call 113; refine (hup _ _ _).mono ?_; rintro e w' ⟨rfl, rfl⟩) | (go_at_call 114; refine (htx _).mono ?_; rintro e w' ⟨rfl, rfl⟩))
     go_ret
     exact ⟨by rw [HF.out]; simp, G0.out⟩
    | true =>
     rw [h3] at HF
     by_cases k1 : K = 1
     ·subst k1
      rw [if_pos rfl] at HF
      have he : inI sz_ dl 1099511627775 = (decide ((dl : Int) ≤ sz_) && decide (sz_ < 1099511627776)) := by
       unfold inI
       congr 1
       simp only [decide_eq_decide]
       omega
      rw [he] at HF
      by_cases c1 : (dl : Int) ≤ sz_
      ·rw [decide_eq_true c1] at HF
       go_enter Tryz.func92, Tryz.ntmps92
       go_wp2_with (first | (go_at_call 113; refine (hup _ _ _).mono ?_; rintro e w' ⟨rfl, rfl⟩) | (go_at_call 114; refine (htx _).mono ?_; rintro e w' ⟨rfl, rfl⟩))
       go_ret
       exact ⟨by rw [HF.out]; simp, G0.out⟩
      ·rw [decide_eq_false c1] at HF
       go_enter Tryz.func92, Tryz.ntmps92
       go_wp2_with (first | (go_at_call 113; refine (hup _ _ _).mono ?_; rintro e w' ⟨rfl, rfl⟩) | (go_at_call 114; refine (htx _).mono ?_; rintro e w' ⟨rfl, rfl⟩))
       go_ret
       exact ⟨by rw [HF.out]; simp, G0.out⟩
     ·rw [if_neg k1] at HF
      have b1 : (K == 1) = false := by rw [beq_eq_false_iff_ne]; exact k1
      by_cases k3 : K = 3
      ·subst k3
       rw [if_pos rfl] at HF
       go_enter Tryz.func92, Tryz.ntmps92
       go_wp2_with (first | (go_at_call 113; refine (hup _ _ _).mono ?_; rintro e w' ⟨rfl, rfl⟩) | (go_at_call 114; refine (htx _).mono ?_; rintro e w' ⟨rfl, rfl⟩))
       go_ret
       exact ⟨by rw [HF.out]; simp, G0.out⟩
      ·rw [if_neg k3] at HF
       have b3 : (K == 3) = false := by rw [beq_eq_false_iff_ne]; exact k3
       by_cases k4 : K = 4
       ·subst k4
        rw [if_pos (Or.inl rfl)] at HF
        go_enter Tryz.func92, Tryz.ntmps92
        go_wp2_with (first | (go_at_call 113; refine (hup _ _ _).mono ?_; rintro e w' ⟨rfl, rfl⟩) | (go_at_call 114; refine (htx _).mono ?_; rintro e w' ⟨rfl, rfl⟩))
        go_ret
        exact ⟨by rw [HF.out]; simp, G0.out⟩
       ·have b4 : (K == 4) = false := by rw [beq_eq_false_iff_ne]; exact k4
        by_cases k5 : K = 5
        ·subst k5
         rw [if_pos (Or.inr rfl)] at HF
         go_enter Tryz.func92, Tryz.ntmps92
         go_wp2_with (first | (go_at_call 113; refine (hup _ _ _).mono ?_; rintro e w' ⟨rfl, rfl⟩) | (go_at_call 114; refine (htx _).mono ?_; rintro e w' ⟨rfl, rfl⟩))
         go_ret
         exact ⟨by rw [HF.out]; simp, G0.out⟩
        ·have b5 : (K == 5) = false := by rw [beq_eq_false_iff_ne]; exact k5
         rw [if_neg (by rintro (h | h); exact k4 h; exact k5 h)] at HF
         go_enter Tryz.func92, Tryz.ntmps92
         go_wp2_with (first | (go_at_call 113; refine (hup _ _ _).mono ?_; rintro e w' ⟨rfl, rfl⟩) | (go_at_call 114; refine (htx _).mono ?_; rintro e w' ⟨rfl, rfl⟩))
         go_ret
         exact ⟨by rw [HF.out]; simp, G0.out⟩
theorem field_pl0 (F : Int) (D T : Bool) (w : World) : (Instr.field 116 (.agg #[.int .i64 F, .bool D, .bool T]) 0).run Tryz.prog w = .ok (.int .i64 F) w := by kernel_rfl
theorem field_pl1 (F : Int) (D T : Bool) (w : World) : (Instr.field 116 (.agg #[.int .i64 F, .bool D, .bool T]) 1).run Tryz.prog w = .ok (.bool D) w := by kernel_rfl
theorem field_pl2 (F : Int) (D T : Bool) (w : World) : (Instr.field 116 (.agg #[.int .i64 F, .bool D, .bool T]) 2).run Tryz.prog w = .ok (.bool T) w := by kernel_rfl
theorem phardfault_any (X : EnV) (w : World) (b n : Nat) (l : List En) (M : MapF w 9 b n (plK l)) (ht : X.target.size ≤ 9223372036854775807) : Calls Tryz.prog 91 #[X.val, .map (some b)] w fun e w' => e = .returned (.int .i64 (if thing l X.target.toList then 0 else 4)) ∧ w.grownBy w' none := by
 obtain ⟨path, K, mo, uid, gid, ti, sz_, da, dl, dc, data, tg, dev, aa, al, ac, attrs⟩ := X
 simp only [EnV.val]
 simp only at ht
 have G0 : Hid _ := xga w (.cells #[.string path, .int .i64 K, .int .i64 mo, .int .i64 uid, .int .i64 gid, .int .i64 ti, .int .i64 sz_, .slice da dl dc, .string tg, .int .i64 dev, .slice aa al ac] 30) none
 have hl := look57 (M.kept G0.out (by simp)) ht
 have hf := field_pl2
 clear M
 generalize plF l tg.toList = PF at *
 generalize folder l tg.toList = PD at *
 cases hT : thing l tg.toList with
 | true =>
  rw [hT] at hl
  go_enter Tryz.func91, Tryz.ntmps91
  go_wp2_with fail
  go_ret
  exact ⟨rfl, G0.out⟩
 | false =>
  rw [hT] at hl
  go_enter Tryz.func91, Tryz.ntmps91
  go_wp2_with fail
  go_ret
  exact ⟨rfl, G0.out⟩
end Go.Proofs.YtlehncfehoelbaaGreatDoor
namespace Go.Proofs.YtlehncfehoelbaaGreatDoor
open Go.RowKit
set_option maxRecDepth 100000
set_option linter.unusedSimpArgs false
set_option linter.unusedVariables false
theorem Tryz.infoE : (Tryz.prog.info? 30).map (fun i => (i.zero, i.size, i.bytes)) = some (some (.agg #[.string ⟨#[]⟩, .int .i64 0, .int .i64 0, .int .i64 0, .int .i64 0, .int .i64 0, .int .i64 0, .slice none 0 0, .string ⟨#[]⟩, .int .i64 0, .slice none 0 0]), 11, 136) := by kernel_rfl
theorem run_zeros_nilE {P : Program} (w : World) (t k ty e : TypeId) (i : TypeInfo) (z : Value) (ht : P.underlying t = some (.slice e)) (hk : P.underlying k = some (.int .i64)) (hi : P.info? e = some i) (hz : i.zero = some z) (hs : i.size = 11) (hb : i.bytes = 136)
  (m : Nat) (hm : m ≤ 1000000) (h0 : ¬ m = 0) :
  (Builtin.append_ #[t, k] ty #[.slice none 0 0, .int .i64 m]).run P w =
   .ok (.slice (some ⟨w.heap.size, 0, none⟩) m (grownCap w m 0 e)) (w.drew.alloc (.cells (Builtin.zeroCells z.cells m ++ Builtin.zeroCells z.cells (grownCap w m 0 e - m)) e)) := by
 have wl : IntKind.i64.wrap (m : Int) = m := by rw [IntKind.wrap_i64]; omega
 have n1 : ¬ (m : Int) < 0 := by omega
 have n2 : ¬ (281474976710656 < (m : Int) * 136) := by omega
 have h63' : ¬ (9223372036854775807 < (m : Int)) := by omega
 have h48' : ¬ (281474976710656 < Builtin.nextslicecap m 0 * 136) := by rw [nextslicecap_zero (by omega)]; omega
 simp [Builtin.append_, run_underlying ht, run_underlying hk, sizeOf, typeInfo, zeroValue, hi, hz, hs, hb, asInt, asIntOf, wl, n1, n2, h0, h63', h48', Question.forced, run_firstCells_none, newRow, grownCap]
 intro h
 omega
theorem app_here {P : Program} {w : World} {ops : Array Oper} {rest : List Oper} {a : Act} {Q : Exit → Act → World → Prop} {dst : Option Nat} {as_ : Array Operand} {ts : Array TypeId} {type : TypeId} {pos : String} {after : Array Edge} {guard : Option (Nat × Bool)}
  (h : wpList P ops Q (⟨dst, .call ⟨.builtin .append, as_, ts⟩, type, pos, after, guard⟩ :: rest) a w) : wpList P ops Q (⟨dst, .call ⟨.builtin .append, as_, ts⟩, type, pos, after, guard⟩ :: rest) a w := h
theorem wpList_appR {P : Program} {ops : Array Oper} {rest : List Oper} {o : Oper} {a : Act} {w w' : World} {Q : Exit → Act → World → Prop} (hgd : o.guard = none) (s x : Operand) (t k : TypeId) (ho : o.op = .call { callee := .builtin .append, args := #[s, x], argTypes := #[t, k] })
  (v u v' : Value) (hs : a.eval s = v) (hx : a.eval x = u) (hrun : (Builtin.append_ #[t, k] o.type #[v, u]).run P w = .ok v' w') (h : wpList P ops Q rest (a.put o.dst v') w') : wpList P ops Q (o :: rest) a w := by
 refine wpList_plain hgd fun K hK => ?_
 unfold Oper.wp execOp
 simp only [ho, resolve, invoke, builtin, Sem.run_bind, Sem.run_pure, Result.andThen_ok, List.map_toArray, List.map_cons, List.map_nil, hs, hx, hrun]
 exact hK _ _ h
set_option maxHeartbeats 2000000 in
theorem pgrow_any (n : Nat) (w : World) (h1 : 1 ≤ n) (hn : n ≤ 1000000) :
  Calls Tryz.prog 105 #[.slice none 0 0, .int .i64 n] w fun e w' => ∃ c, e = .returned (.slice (some ⟨w.heap.size, 0, none⟩) 0 c) ∧ n ≤ c ∧ w'.ownsRow w.heap.size 30 11 (.slice (some ⟨w.heap.size, 0, none⟩) 0 c) 0 [] ∧ w.grownBy w' none := by
 obtain ⟨i, hi, hz0, hz1, hz2⟩ := info_parts Tryz.infoE
 have hrun := run_zeros_nilE (P := Tryz.prog) w 22 3 22 30 i _ Tryz.underlying22 Tryz.underlying3 hi hz0 hz1 hz2 n hn (by omega)
 have hge := grownCap_ge w n 0 30
 have hcm := grownCap_le_maxLen w n 0 30 (by unfold maxLen; omega)
 have HO : Hid (((w.drew.alloc (.cells (Builtin.zeroCells (Value.agg #[.string ⟨#[]⟩, .int .i64 0, .int .i64 0, .int .i64 0, .int .i64 0, .int .i64 0, .int .i64 0, .slice none 0 0, .string ⟨#[]⟩, .int .i64 0, .slice none 0 0]).cells n ++ Builtin.zeroCells (Value.agg #[.string ⟨#[]⟩, .int .i64 0, .int .i64 0, .int .i64 0, .int .i64 0, .int .i64 0, .int .i64 0, .slice none 0 0, .string ⟨#[]⟩, .int .i64 0, .slice none 0 0]).cells (grownCap w n 0 30 - n)) 30)).ownsRow w.heap.size 30 11 (.slice (some ⟨w.heap.size, 0, none⟩) 0 (grownCap w n 0 30)) 0 []) ∧ n ≤ grownCap w n 0 30) := by
  refine ⟨⟨rfl, .inr ⟨w.heap.size, _, _, rfl, Nat.le_refl _, heap_alloc_new w.drew _, Nat.zero_le _, hcm, ?_, by simp⟩⟩, hge⟩
  rw [Array.size_append, size_zeroCells, size_zeroCells]
  simp [Value.cells]
  omega
 have HG : Hid (w.grownBy (w.drew.alloc (.cells (Builtin.zeroCells (Value.agg #[.string ⟨#[]⟩, .int .i64 0, .int .i64 0, .int .i64 0, .int .i64 0, .int .i64 0, .int .i64 0, .slice none 0 0, .string ⟨#[]⟩, .int .i64 0, .slice none 0 0]).cells n ++ Builtin.zeroCells (Value.agg #[.string ⟨#[]⟩, .int .i64 0, .int .i64 0, .int .i64 0, .int .i64 0, .int .i64 0, .int .i64 0, .slice none 0 0, .string ⟨#[]⟩, .int .i64 0, .slice none 0 0]).cells (grownCap w n 0 30 - n)) 30)) none) := ⟨rfl, rfl, rfl, by simp, fun j hj _ => Below.heap_alloc w.drew _ j hj⟩
 generalize (w.drew.alloc (.cells (Builtin.zeroCells (Value.agg #[.string ⟨#[]⟩, .int .i64 0, .int .i64 0, .int .i64 0, .int .i64 0, .int .i64 0, .int .i64 0, .slice none 0 0, .string ⟨#[]⟩, .int .i64 0, .slice none 0 0]).cells n ++ Builtin.zeroCells (Value.agg #[.string ⟨#[]⟩, .int .i64 0, .int .i64 0, .int .i64 0, .int .i64 0, .int .i64 0, .int .i64 0, .slice none 0 0, .string ⟨#[]⟩, .int .i64 0, .slice none 0 0]).cells (grownCap w n 0 30 - n)) 30)) = W1 at *
 generalize grownCap w n 0 30 = c at *
 have hni : (0 : Int) < n := by omega
 clear hi hz0 hz1 hz2
 go_enter Tryz.func105, Tryz.ntmps105
 have HR : Hid _ := hrun
 clear hrun
 go_wp2_with ((with_reducible refine app_here ?_); refine wpList_appR rfl _ _ 22 3 rfl _ _ _ rfl rfl HR.out ?_)
 go_ret
 exact ⟨c, rfl, HO.out.2, HO.out.1, HG.out⟩
end Go.Proofs.YtlehncfehoelbaaGreatDoor
