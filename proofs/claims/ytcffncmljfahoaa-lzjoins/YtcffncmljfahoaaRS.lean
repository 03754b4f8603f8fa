/- The document's Join. -/
import Derived.Test.YtcffncmljfahoaaPI
namespace Go.Proofs.Ytcffncmljfahoaa
open Go.RowKit
set_option linter.unusedSimpArgs false
set_option linter.unusedVariables false

/-- an append to a row of the call's own, as a step of a region that draws its order -/
theorem step_append8 {P : Program} {w : World} {ops : Array Oper} {o : Oper} {a : Act} {K : Act → World → Prop} {Q : Exit → Act → World → Prop} {E : Prop} (hgd : o.guard = none) (s x : Operand) (t : TypeId)
    (ho : o.op = .call { callee := .builtin .append, args := #[s, x], argTypes := #[t, t] })
    (base : Nat) (i : TypeInfo) (ht : P.underlying t = some (.slice 5)) (hi : P.info? 5 = some i) (hz : i.zero = some (.int .u8 0)) (hsize : i.size = 1) (hby : i.bytes = 1)
    (v : Value) (n : Nat) (xs : List Value) (hs : a.eval s = v) (hown : w.ownsRow base 5 1 v n xs)
    (sa : Option Addr) (m c : Nat) (bs : List Int) (hx : a.eval x = .slice sa m c) (B : Byte w sa m c bs)
    (hb : n + m ≤ 140737488355328) (hbase : base ≤ w.heap.size)
    (h : ∀ v' w', w'.ownsRow base 5 1 v' (n + m) (xs ++ bv bs) → w.grownBy w' v.ownBlock → K (a.put o.dst v') w') : if Region.wanted o (yielded ops a.tmps) = true then Oper.wp P o a w K Q else E := by
  rw [if_pos (by simp [Region.wanted, hgd])]
  cases sa with
  | none =>
    have hm : m = 0 := by
      rcases Nat.eq_zero_or_pos m with h0 | h0
      · exact h0
      · obtain ⟨_, _, e, _⟩ := B.row.cells h0; cases e
    subst hm
    obtain rfl : bs = [] := List.eq_nil_of_length_eq_zero B.row.len_eq
    obtain rfl := B.nil rfl
    have hrun := run_append_owned_none (P := P) (w := w) base t o.type 5 i 1 ht hi v n xs hown
    unfold Oper.wp
    simp [execOp, ho, resolve, invoke, builtin, hs, hx, hrun, Result.andThen]
    exact h v w (by simpa [bv] using hown) (World.grownBy.refl _ _)
  | some ad =>
    obtain ⟨v', w', hrun, r1, r2, _⟩ := run_append_own (P := P) w base t o.type 5 i (.int .u8 0) 1 1 ht hi hz hsize hby rfl (by decide) v n xs hown ad m c (bv bs) (by rw [bv_length, B.row.len_eq]; omega) (by
      intro j u hj
      have h0 : 0 < (bv bs).length := by
        rcases Nat.eq_zero_or_pos (bv bs).length with h0 | h0
        · rw [List.eq_nil_of_length_eq_zero h0] at hj; simp at hj
        · exact h0
      obtain ⟨ad', e, hc⟩ := B.row.src h0
      injection e with e
      subst e
      exact hc j u hj) (bv_one _) (by unfold maxLen; omega) (by omega) hbase
    unfold Oper.wp
    simp [execOp, ho, resolve, invoke, builtin, hs, hx, hrun, Result.andThen]
    exact h v' w' r1 r2
theorem low8 (y : Nat) : IntKind.u8.wrap ((y : Int).tmod 256) = (y : Int) % 256 := by
  rw [Int.tmod_eq_emod_of_nonneg (by omega), IntKind.wrap_u8']; omega
theorem high8 (y : Nat) (h : y ≤ 65535) : IntKind.u8.wrap (IntKind.i64.wrap ((y : Int) / 256)) = (y : Int) / 256 := by
  rw [IntKind.wrap_i64, IntKind.wrap_u8']; omega
theorem wrap_in {x : Int} (h : -9223372036854775808 ≤ x ∧ x ≤ 9223372036854775807) : IntKind.i64.wrap x = x := by
  rw [IntKind.wrap_i64]; omega
theorem told_wrap (x : Int) (h : 0 ≤ x ∧ x ≤ 16777216) (W : World) : Calls Try.prog 29 #[.int .i64 (IntKind.i64.wrap x)] W fun e w' => ∃ v, e = .returned v ∧ w'.ownsRow W.heap.size 5 1 v (tol x).length (bv (tol x)) ∧ W.grownBy w' none := by
  rw [wrap_in (by omega)]; exact told_any x W h
theorem len_two {P P5 : List Int} {x y : Int} (h : P = P5 ++ [x, y]) : P.length = P5.length + 2 := by rw [h]; simp
theorem le_two {a b c : Nat} (h : a = b + 2) (k : b + 2 + c ≤ 140737488355328) : a + c ≤ 140737488355328 := by omega
theorem Box.kept0 {W W' : World} {g : Nat} {T : TypeId} {cs : List Value} (h : Box W g T cs) (hg : W.grownBy W' none) : Box W' g T cs := h.kept hg (by simp)
theorem jn_app {w W W' : World} {v v' : Value} {bts xs : List Int} {n L : Nat} (h : Jn w W v bts) (hL : bts.length = L) (o : W'.ownsRow w.heap.size 5 1 v' (L + n) (bv bts ++ bv xs)) (hx : Byt xs) (hn : xs.length = n) (k : W.grownBy W' v.ownBlock) : Jn w W' v' (bts ++ xs) := by
  subst hL; exact h.app o hx hn k

set_option maxRecDepth 4000 in
set_option maxHeartbeats 4000000 in
theorem join_any (a : Option Addr) (len cap : Nat) (ss : List SqV) (qs : List Sq) (w : World) (M : SMod w a len ss qs) (hle : len ≤ 65536) :
    Calls Try.prog 18 #[.slice a len cap] w (PJoin w (join qs)) := by
  obtain ⟨i5, hi, hz0, hz1, hz2⟩ := info_parts Try.info5
  have hsl := M.arg.row.len_eq
  have hql := M.arg.sqs.len
  by_cases h0 : len = 0
  · subst h0
    obtain rfl : qs = [] := List.eq_nil_of_length_eq_zero (by omega)
    go_enter Try.func18, Try.ntmps18
    go_wp2
    go_ret2
    exact ⟨none, 0, 0, rfl, ⟨Row.none0 _, fun _ => rfl, Nat.le_refl _, Nat.zero_le _⟩, World.grownBy.refl _ _⟩
  · have hj0 : join qs = jon qs 0 [] := by
      unfold join
      rw [if_neg (by rw [List.isEmpty_iff]; intro e; have := congrArg List.length e; simp only [List.length_nil] at this; omega)]
    rw [hj0]
    generalize hres : jon qs 0 [] = res
    have HQ : Hid (qs.length = len) := by show qs.length = len; omega
    have HM : Hid _ := M
    clear M hj0 hql hsl
    go_enter Try.func18, Try.ntmps18
    go_wp2_with fail
    rw [show ((len : Int) == 0) = false by simp; omega]
    go_loopw [4, 5, 6] (fun v vz vi wr => ∃ (j : Nat) (P : List Int) (size : Int), vi = .int .i64 j ∧ vz = .int .i64 size ∧ 0 ≤ size ∧ size ≤ 1048576 ∧ j ≤ len ∧ P.length ≤ j * 2097152 ∧ Hid (Jn w wr v P) ∧ Hid (jon (qs.drop j) size P = res)) (fun _ _ vi _ => len - (intOf vi).toNat)
    case atStart => exact ⟨0, [], 0, rfl, rfl, by omega, by omega, by omega, by simp, ⟨World.ownsRow_nil _ _ _ _, World.grownBy.refl _ _, fun x hx => by simp at hx⟩, hres⟩
    case round =>
      clear hres
      obtain ⟨j, P, size, rfl, rfl, hs0, hs1, hj, hP, HJ, HE⟩ := hrel
      by_cases k1 : j < len
      · obtain ⟨s, q, hs, hq, ok⟩ := HM.out.arg.sqs.get j (by rw [HM.out.arg.row.len_eq]; exact k1)
        obtain ⟨ba, oa, rfl, ha⟩ := (HM.out.arg.row.grown HJ.out.g).cells (by omega)
        obtain ⟨x0, x1, x2⟩ := ha j s hs
        have hqm : q ∈ qs := List.mem_of_getElem? hq
        have hbnd := HM.out.arg.bnd q hqm
        have hlit := HM.out.lit q hqm
        have hd := drop_at hq
        have hem := empty_at qs j
        have he := HE.out
        rw [hd] at he
        clear HE
        obtain ⟨lit, o0, m0⟩ := q
        obtain ⟨sa, n, sc, o, m⟩ := s
        have e1 := ok.off
        have e2 := ok.m
        have hll := ok.row.len_eq
        simp only at e1 e2 hll hlit x0 x1 x2
        subst e1 e2
        rw [HQ.out] at hem
        obtain ⟨hb1, hb2⟩ := hbnd
        simp only at hb1 hb2
        have HE : Hid _ := he
        rw [hll] at hlit
        have HOK : Hid _ := ok
        clear hd he ok hs hq hqm ha
        by_cases hlast : j + 1 = len
        · rw [decide_eq_true (by omega)] at hem
          have hnl : ((j : Int) == (len : Int) - 1) = true := by simp; omega
          have HEm : Hid _ := hem
          clear hem
          by_cases c1 : o = 0
          · subst c1
            by_cases c2 : m = 0
            · subst c2
              by_cases c3 : 1048576 - size < n
              · have ej : jerr true size (lit, 0, 0) = 2 := by
                  unfold jerr
                  rw [if_neg (by simp), if_neg (by simp only; omega), if_pos (by left; simp only [hll]; omega)]
                have he := HE.out
                rw [jon, HEm.out, ej, if_neg (by decide)] at he
                have HF : Hid _ := he
                clear he HE ej
                go_wp2
                go_ret2
                rw [← HF.out]
                exact ⟨none, 0, 0, rfl, ⟨Row.none0 _, fun _ => rfl, Nat.le_refl _, Nat.zero_le _⟩, grown_trans HJ.out.g (World.grownBy_alloc _ _ _)⟩
              · have ej : jerr true size (lit, 0, 0) = 0 := by
                  unfold jerr
                  rw [if_neg (by simp), if_neg (by simp only; omega), if_neg (by simp only [hll]; omega)]
                have he := HE.out
                rw [jon, HEm.out, ej, if_pos rfl] at he
                simp only [hll] at he
                have HF : Hid _ := he
                have hPl : P.length ≤ 137438953472 := by omega
                have h4 := fun W => four_any (n : Int) W (by omega)
                have hfa := fou_in (n := (n : Int)) (by omega)
                generalize hAe : fou (n : Int) = A at h4 hfa
                have HAe : Hid _ := hAe
                clear hAe
                have G0 := World.grownBy_alloc wr (.cells #[.slice sa n sc, .int .i64 0, .int .i64 0] 47) none
                have B0 := Box.new wr 47 [.slice sa n sc, .int .i64 0, .int .i64 0]
                have J1 := (HJ.out.keep G0).keep (World.grownBy_alloc _ (.cells #[.int .u8 (16 * A)] 5) none)
                have B1 := B0.kept (World.grownBy_alloc _ (.cells #[.int .u8 (16 * A)] 5) none) (by simp)
                have hown := J1.own
                have hszz := J1.g.size
                have hnews : ∀ j u, ([Value.int .u8 (16 * A)])[j]? = some u → ((wr.alloc (.cells #[.slice sa n sc, .int .i64 0, .int .i64 0] 47)).alloc (.cells #[.int .u8 (16 * A)] 5)).cell? ((⟨wr.heap.size + 1, 0, none⟩ : Addr).add j) = some u := by
                  intro j u h
                  have := cell_one (wr.alloc (.cells #[.slice sa n sc, .int .i64 0, .int .i64 0] 47)) 5 (.int .u8 (16 * A)) j u h
                  simpa using this
                have HN : Hid _ := hnews
                have HJ1 : Hid _ := And.intro J1 B1
                have hb1 : (P.length + 1) * 1 ≤ 140737488355328 := by omega
                have hb2 : P.length + 1 ≤ maxLen := by unfold maxLen; omega
                clear he HE ej hnews J1 B1 B0 G0 HJ
                go_wp2_with (first
                    | (go_at_call 28; with_reducible refine (h4 _).mono ?_; rintro e w' ⟨rfl, rfl⟩)
                    | (at_builtin; (refine wpList_append_own _ rfl _ _ 22 rfl w.heap.size 5 i5 (.int .u8 0) 1 1 Try.underlying22 hi hz0 hz1 hz2 rfl (by decide) _ P.length _ rfl hown ⟨wr.heap.size + 1, 0, none⟩ 1 1 [.int .u8 (16 * A)] rfl rfl HN.out (by simp [Value.oneCell']) hb2 hb1 hszz ?_)))
                intro v2 w2 o2 g2 _
                have J2 := HJ1.out.1.app (xs := [16 * A]) (n := 1) o2 (by intro x hx; simp at hx; omega) rfl g2
                have B2 := (HJ1.out.1.kb g2) _ _ HJ1.out.2
                obtain ⟨b0, b1, b2⟩ := B2.c3
                have H2 : Hid _ := And.intro (J2.keep (grown_drew _)) (B2.kept (grown_drew _) (by simp))
                clear o2 g2 J2 B2 hown hszz HN HJ1 hb1 hb2 h4
                generalize wr.heap.size = g0 at *
                generalize hP2 : P ++ [16 * A] = P2 at H2
                have hl2 : P2.length = P.length + 1 := by rw [← hP2]; simp
                have HP2 : Hid _ := hP2
                clear hP2
                have htl : (tol (n : Int)).length ≤ 4200 := tol_le2 (by omega)
                have hRl : Row w sa n lit := HOK.out.row
                have HRl : Hid _ := And.intro hRl (⟨HOK.out.row, HOK.out.nil, HOK.out.nc, HOK.out.cm⟩ : Byte w sa n sc lit)
                clear hRl
                go_wp2_with fail
                go_region_held3 (fun w' => w'.cell? ⟨g0, 0, none⟩ = some (.slice sa n sc)) (first | assumption | go_keep)
                  (first
                   | (go_at_call 29; refine (told_any (n : Int) _ (by omega)).mono ?_; rintro e w3 ⟨v3, rfl, o3, g3⟩; obtain ⟨a3, c3, rfl, Y3⟩ := byte_own o3 (tol_byt _) (by unfold maxLen; omega); have H3 := And.intro (H2.out.1.keep g3) (And.intro (H2.out.2.kept g3 (by simp)) Y3); have q0 := H3.2.1.c 0; have HH3 : Hid _ := H3; clear o3 g3 Y3 H3)
                   | (refine step_append8 (by rfl) _ _ 22 (by rfl) w.heap.size i5 Try.underlying22 hi hz0 hz1 hz2 v2 P2.length (bv P2) (by rfl) HH3.out.1.own a3 (tol (n : Int)).length c3 (tol (n : Int)) (by rfl) HH3.out.2.2 (by omega) HH3.out.1.g.size ?_; intro v4 w4 o4 g4; have J4 := HH3.out.1.app o4 (tol_byt _) rfl g4; have B4 := (HH3.out.1.kb g4) _ _ HH3.out.2.1; have q4 := B4.c 0; have HH4 : Hid _ := And.intro J4 B4; clear o4 g4 J4 B4)
                   | (refine step_append8 (by rfl) _ _ 22 (by rfl) w.heap.size i5 Try.underlying22 hi hz0 hz1 hz2 v4 (P2 ++ tol (n : Int)).length (bv (P2 ++ tol (n : Int))) (by rfl) HH4.out.1.own sa n sc lit (by rfl) (HRl.out.2.grown HH4.out.1.g) (by rw [List.length_append]; omega) HH4.out.1.g.size ?_; intro v5 w5 o5 g5; have J5 := HH4.out.1.app o5 HRl.out.1.byt hll g5; have B5 := (HH4.out.1.kb g5) _ _ HH4.out.2; have q5 := B5.c 0; have HH5 : Hid _ := And.intro J5 B5; clear o5 g5 J5 B5)
                   | fail)
                have J5 := HH5.out.1
                have hPe : P2 ++ tol (n : Int) ++ lit = P ++ jbytes true (lit, 0, 0) := by
                  rw [← HP2.out, ← HAe.out]; unfold jbytes; simp [hll]
                rw [hPe] at J5
                have hjl := jbytes_le (l := true) (q := (lit, 0, 0)) (by show lit.length ≤ 1048576; omega) (by show (0 : Int) ≤ 1048576; omega)
                have hPb : (P ++ jbytes true (lit, 0, 0)).length ≤ (j + 1) * 2097152 := by rw [List.length_append]; omega
                have HJ5 : Hid _ := J5
                clear J5 hPe hjl HH5
                go_wp2
                go_roundw
                case rel => exact ⟨j + 1, _, size + n + 0, by go_num, by go_num, by omega, by omega, by omega, hPb, HJ5, HF⟩
                case measure => simp [intOf]; omega
            · have c2' : (m == 0) = false := by simp [c2]
              have ej : jerr true size (lit, 0, m) = 1 := by
                unfold jerr
                rw [if_pos (by left; exact ⟨rfl, Or.inr c2⟩)]
              have he := HE.out
              rw [jon, HEm.out, ej, if_neg (by decide)] at he
              have HF : Hid _ := he
              clear he HE ej
              go_wp2
              go_ret2
              rw [← HF.out]
              exact ⟨none, 0, 0, rfl, ⟨Row.none0 _, fun _ => rfl, Nat.le_refl _, Nat.zero_le _⟩, grown_trans HJ.out.g (World.grownBy_alloc _ _ _)⟩
          · have c1' : (o == 0) = false := by simp [c1]
            have ej : jerr true size (lit, o, m) = 1 := by
              unfold jerr
              rw [if_pos (by left; exact ⟨rfl, Or.inl c1⟩)]
            have he := HE.out
            rw [jon, HEm.out, ej, if_neg (by decide)] at he
            have HF : Hid _ := he
            clear he HE ej
            go_wp2
            go_ret2
            rw [← HF.out]
            exact ⟨none, 0, 0, rfl, ⟨Row.none0 _, fun _ => rfl, Nat.le_refl _, Nat.zero_le _⟩, grown_trans HJ.out.g (World.grownBy_alloc _ _ _)⟩
        · rw [decide_eq_false (by omega)] at hem
          have hnl : ((j : Int) == (len : Int) - 1) = false := by simp; omega
          have HEm : Hid _ := hem
          clear hem
          by_cases c1 : o < 1
          · have ej : jerr false size (lit, o, m) = 1 := by
              unfold jerr
              rw [if_pos (by right; exact ⟨rfl, Or.inl c1⟩)]
            have he := HE.out
            rw [jon, HEm.out, ej, if_neg (by decide)] at he
            have HF : Hid _ := he
            clear he HE ej
            go_wp2
            go_ret2
            rw [← HF.out]
            exact ⟨none, 0, 0, rfl, ⟨Row.none0 _, fun _ => rfl, Nat.le_refl _, Nat.zero_le _⟩, grown_trans HJ.out.g (World.grownBy_alloc _ _ _)⟩
          · by_cases c2 : 65535 < o
            · have ej : jerr false size (lit, o, m) = 1 := by
                unfold jerr
                rw [if_pos (by right; exact ⟨rfl, Or.inr (Or.inl c2)⟩)]
              have he := HE.out
              rw [jon, HEm.out, ej, if_neg (by decide)] at he
              have HF : Hid _ := he
              clear he HE ej
              go_wp2
              go_ret2
              rw [← HF.out]
              exact ⟨none, 0, 0, rfl, ⟨Row.none0 _, fun _ => rfl, Nat.le_refl _, Nat.zero_le _⟩, grown_trans HJ.out.g (World.grownBy_alloc _ _ _)⟩
            · by_cases c3 : m < 4
              · have ej : jerr false size (lit, o, m) = 1 := by
                  unfold jerr
                  rw [if_pos (by right; exact ⟨rfl, Or.inr (Or.inr c3)⟩)]
                have he := HE.out
                rw [jon, HEm.out, ej, if_neg (by decide)] at he
                have HF : Hid _ := he
                clear he HE ej
                go_wp2
                go_ret2
                rw [← HF.out]
                exact ⟨none, 0, 0, rfl, ⟨Row.none0 _, fun _ => rfl, Nat.le_refl _, Nat.zero_le _⟩, grown_trans HJ.out.g (World.grownBy_alloc _ _ _)⟩
              · by_cases c4 : size + n < o
                · have ej : jerr false size (lit, o, m) = 9 := by
                    unfold jerr
                    rw [if_neg (by simp; omega), if_pos (by simp only [hll]; omega)]
                  have he := HE.out
                  rw [jon, HEm.out, ej, if_neg (by decide)] at he
                  have HF : Hid _ := he
                  clear he HE ej
                  go_wp2
                  go_ret2
                  rw [← HF.out]
                  exact ⟨none, 0, 0, rfl, ⟨Row.none0 _, fun _ => rfl, Nat.le_refl _, Nat.zero_le _⟩, grown_trans HJ.out.g (World.grownBy_alloc _ _ _)⟩
                · by_cases c6 : 1048576 - size < n
                  · have ej : jerr false size (lit, o, m) = 2 := by
                      unfold jerr
                      rw [if_neg (by simp; omega), if_neg (by simp only [hll]; omega), if_pos (by left; simp only [hll]; omega)]
                    have he := HE.out
                    rw [jon, HEm.out, ej, if_neg (by decide)] at he
                    have HF : Hid _ := he
                    clear he HE ej
                    go_wp2
                    go_ret2
                    rw [← HF.out]
                    exact ⟨none, 0, 0, rfl, ⟨Row.none0 _, fun _ => rfl, Nat.le_refl _, Nat.zero_le _⟩, grown_trans HJ.out.g (World.grownBy_alloc _ _ _)⟩
                  · by_cases c5 : 1048576 - size - n < m
                    · have ej : jerr false size (lit, o, m) = 2 := by
                        unfold jerr
                        rw [if_neg (by simp; omega), if_neg (by simp only [hll]; omega), if_pos (by right; simp only [hll]; omega)]
                      have he := HE.out
                      rw [jon, HEm.out, ej, if_neg (by decide)] at he
                      have HF : Hid _ := he
                      clear he HE ej
                      go_wp2
                      go_ret2
                      rw [← HF.out]
                      exact ⟨none, 0, 0, rfl, ⟨Row.none0 _, fun _ => rfl, Nat.le_refl _, Nat.zero_le _⟩, grown_trans HJ.out.g (World.grownBy_alloc _ _ _)⟩
                    · have ej : jerr false size (lit, o, m) = 0 := by
                        unfold jerr
                        rw [if_neg (by simp; omega), if_neg (by simp only [hll]; omega), if_neg (by simp only [hll]; omega)]
                      have he := HE.out
                      rw [jon, HEm.out, ej, if_pos rfl] at he
                      simp only [hll] at he
                      have HF : Hid _ := he
                      have hPl : P.length ≤ 137438953472 := by omega
                      have h4 := fun W => four_any (n : Int) W (by omega)
                      have hfa := fou_in (n := (n : Int)) (by omega)
                      generalize hAe : fou (n : Int) = A at h4 hfa
                      have HAe : Hid _ := hAe
                      clear hAe
                      have h5 := fun W => four_any ((m : Int) - 4) W (by omega)
                      have hfb := fou_in (n := (m : Int) - 4) (by omega)
                      generalize hBe : fou ((m : Int) - 4) = B at h5 hfb
                      have HBe : Hid _ := hBe
                      clear hBe
                      have G0 := World.grownBy_alloc wr (.cells #[.slice sa n sc, .int .i64 o, .int .i64 m] 47) none
                      have B0 := Box.new wr 47 [.slice sa n sc, .int .i64 o, .int .i64 m]
                      have J1 := (HJ.out.keep G0).keep (World.grownBy_alloc _ (.cells #[.int .u8 (16 * A + B)] 5) none)
                      have B1 := B0.kept (World.grownBy_alloc _ (.cells #[.int .u8 (16 * A + B)] 5) none) (by simp)
                      have hown := J1.own
                      have hszz := J1.g.size
                      have hnews : ∀ j u, ([Value.int .u8 (16 * A + B)])[j]? = some u → ((wr.alloc (.cells #[.slice sa n sc, .int .i64 o, .int .i64 m] 47)).alloc (.cells #[.int .u8 (16 * A + B)] 5)).cell? ((⟨wr.heap.size + 1, 0, none⟩ : Addr).add j) = some u := by
                        intro j u h
                        have := cell_one (wr.alloc (.cells #[.slice sa n sc, .int .i64 o, .int .i64 m] 47)) 5 (.int .u8 (16 * A + B)) j u h
                        simpa using this
                      have HN : Hid _ := hnews
                      have HJ1 : Hid _ := And.intro J1 B1
                      have hb1 : (P.length + 1) * 1 ≤ 140737488355328 := by omega
                      have hb2 : P.length + 1 ≤ maxLen := by unfold maxLen; omega
                      clear he HE ej hnews J1 B1 B0 G0 HJ
                      go_wp2_with (first
                          | (go_at_call 28; with_reducible refine (h4 _).mono ?_; rintro e w' ⟨rfl, rfl⟩)
                          | (go_at_call 28; with_reducible refine (h5 _).mono ?_; rintro e w' ⟨rfl, rfl⟩)
                          | (at_builtin; (refine wpList_append_own _ rfl _ _ 22 rfl w.heap.size 5 i5 (.int .u8 0) 1 1 Try.underlying22 hi hz0 hz1 hz2 rfl (by decide) _ P.length _ rfl hown ⟨wr.heap.size + 1, 0, none⟩ 1 1 [.int .u8 (16 * A + B)] rfl rfl HN.out (by simp [Value.oneCell']) hb2 hb1 hszz ?_)))
                      intro v2 w2 o2 g2 _
                      have J2 := HJ1.out.1.app (xs := [16 * A + B]) (n := 1) o2 (by intro x hx; simp at hx; omega) rfl g2
                      have B2 := (HJ1.out.1.kb g2) _ _ HJ1.out.2
                      obtain ⟨b0, b1, b2⟩ := B2.c3
                      have H2 : Hid _ := And.intro (J2.keep (grown_drew _)) (B2.kept (grown_drew _) (by simp))
                      clear o2 g2 J2 B2 hown hszz HN HJ1 hb1 hb2 h4
                      generalize wr.heap.size = g0 at *
                      generalize hP2 : P ++ [16 * A + B] = P2 at H2
                      have hl2 : P2.length = P.length + 1 := by rw [← hP2]; simp
                      have HP2 : Hid _ := hP2
                      clear hP2
                      have htl : (tol (n : Int)).length ≤ 4200 := tol_le2 (by omega)
                      have hRl : Row w sa n lit := HOK.out.row
                      have HRl : Hid _ := And.intro hRl (⟨HOK.out.row, HOK.out.nil, HOK.out.nc, HOK.out.cm⟩ : Byte w sa n sc lit)
                      clear hRl
                      go_wp2_with fail
                      go_region_held3 (fun w' => w'.cell? ⟨g0, 0, none⟩ = some (.slice sa n sc)) (first | assumption | go_keep)
                        (first
                         | (go_at_call 29; refine (told_any (n : Int) _ (by omega)).mono ?_; rintro e w3 ⟨v3, rfl, o3, g3⟩; obtain ⟨a3, c3, rfl, Y3⟩ := byte_own o3 (tol_byt _) (by unfold maxLen; omega); have H3 := And.intro (H2.out.1.keep g3) (And.intro (H2.out.2.kept g3 (by simp)) Y3); have q0 := H3.2.1.c 0; have HH3 : Hid _ := H3; clear o3 g3 Y3 H3)
                         | (refine step_append8 (by rfl) _ _ 22 (by rfl) w.heap.size i5 Try.underlying22 hi hz0 hz1 hz2 v2 P2.length (bv P2) (by rfl) HH3.out.1.own a3 (tol (n : Int)).length c3 (tol (n : Int)) (by rfl) HH3.out.2.2 (by omega) HH3.out.1.g.size ?_; intro v4 w4 o4 g4; have J4 := HH3.out.1.app o4 (tol_byt _) rfl g4; have B4 := (HH3.out.1.kb g4) _ _ HH3.out.2.1; have q4 := B4.c 0; have HH4 : Hid _ := And.intro J4 B4; clear o4 g4 J4 B4)
                         | (refine step_append8 (by rfl) _ _ 22 (by rfl) w.heap.size i5 Try.underlying22 hi hz0 hz1 hz2 v4 (P2 ++ tol (n : Int)).length (bv (P2 ++ tol (n : Int))) (by rfl) HH4.out.1.own sa n sc lit (by rfl) (HRl.out.2.grown HH4.out.1.g) (by rw [List.length_append]; omega) HH4.out.1.g.size ?_; intro v5 w5 o5 g5; have J5 := HH4.out.1.app o5 HRl.out.1.byt hll g5; have B5 := (HH4.out.1.kb g5) _ _ HH4.out.2; have q5 := B5.c 0; have HH5 : Hid _ := And.intro J5 B5; clear o5 g5 J5 B5)
                         | fail)
                      obtain ⟨d0, d1, d2⟩ := HH5.out.2.c3
                      generalize hP5 : P2 ++ tol (n : Int) ++ lit = P5 at HH5
                      have hl5 : P5.length ≤ 137438953472 + 1 + 4200 + 1048576 := by
                        rw [← hP5, List.length_append, List.length_append, hll]; omega
                      have HP5 : Hid _ := hP5
                      clear hP5
                      obtain ⟨y, rfl⟩ := Int.eq_ofNat_of_zero_le (by omega : 0 ≤ o)
                      have hX := low8 y
                      have hZ := high8 y (by omega)
                      have HXZ : Hid _ := And.intro hX hZ
                      have hxz : Byt [(IntKind.u8.wrap ((y : Int).tmod 256)), (IntKind.u8.wrap (IntKind.i64.wrap ((y : Int) / 256)))] := by
                        rw [hX, hZ]
                        intro x hx; simp at hx; omega
                      clear hX hZ
                      have HYB : Hid _ := hxz
                      have G6 := grown_trans (World.grownBy_alloc w5 (.cells #[.int .u8 (IntKind.u8.wrap ((y : Int).tmod 256)), .int .u8 (IntKind.u8.wrap (IntKind.i64.wrap ((y : Int) / 256)))] 5) none) (grown_drew _)
                      have Y6 : Byte (w5.alloc (.cells #[.int .u8 (IntKind.u8.wrap ((y : Int).tmod 256)), .int .u8 (IntKind.u8.wrap (IntKind.i64.wrap ((y : Int) / 256)))] 5)).drew (some ⟨w5.heap.size, 0, none⟩) 2 2 [(IntKind.u8.wrap ((y : Int).tmod 256)), (IntKind.u8.wrap (IntKind.i64.wrap ((y : Int) / 256)))] :=
                        ⟨(alloc_row w5 [(IntKind.u8.wrap ((y : Int).tmod 256)), (IntKind.u8.wrap (IntKind.i64.wrap ((y : Int) / 256)))] hxz (show 2 ≤ maxLen by decide)).grown (grown_drew _), (fun e => by cases e), Nat.le_refl _, (show 2 ≤ maxLen by decide)⟩
                      have H6 : Hid _ := And.intro (HH5.out.1.keep G6) (And.intro (HH5.out.2.kept G6 (by simp)) Y6)
                      have htm : (tol ((m : Int) - 4)).length ≤ 4200 := tol_le2 (by omega)
                      have hne := World.new_ne w5.drew ⟨g0, 1, none⟩ (show w5.drew.cell? ⟨g0, 1, none⟩ = some _ from d1)
                      have hne2 := World.new_ne w5.drew ⟨g0, 2, none⟩ (show w5.drew.cell? ⟨g0, 2, none⟩ = some _ from d2)
                      have htd := fun W => told_wrap ((m : Int) - 4) (by omega) W
                      have hmx : (tol ((m : Int) - 4)).length ≤ maxLen := by unfold maxLen; omega
                      have hq1 : P5.length + 2 ≤ 140737488355328 := by omega
                      have hq2 : P5.length + 2 + (tol ((m : Int) - 4)).length ≤ 140737488355328 := by omega
                      have hsm : ∀ (P : Prop), (none : Option Nat) = none → True := fun _ _ => trivial
                      have HQQ : Hid _ := And.intro hmx (And.intro hq1 hq2)
                      clear hmx hq1 hq2 hsm
                      clear G6 Y6 hxz
                      go_wp2_with fail
                      go_region_held3 (fun w' => w'.cell? ⟨g0, 1, none⟩ = some (.int .i64 (y : Int)) ∧ w'.cell? ⟨g0, 2, none⟩ = some (.int .i64 m)) (first | (refine ⟨?_, ?_⟩ <;> assumption) | go_keep)
                        (first
                         | (refine step_append8 (by rfl) _ _ 22 (by rfl) w.heap.size i5 Try.underlying22 hi hz0 hz1 hz2 v5 P5.length (bv P5) (by rfl) H6.out.1.own (some ⟨w5.heap.size, 0, none⟩) 2 2 [(IntKind.u8.wrap ((y : Int).tmod 256)), (IntKind.u8.wrap (IntKind.i64.wrap ((y : Int) / 256)))] (by rfl) H6.out.2.2 HQQ.out.2.1 H6.out.1.g.size ?_; intro v7 w7 o7 g7; have J7 := H6.out.1.app o7 HYB.out rfl g7; rw [HXZ.out.1, HXZ.out.2] at J7; obtain ⟨P7, hP7⟩ : ∃ P7, P7 = P5 ++ [(y : Int) % 256, (y : Int) / 256] := ⟨_, rfl⟩; rw [← hP7] at J7; have hl7 := len_two hP7; have HP7 : Hid _ := hP7; clear hP7; have B7 := (H6.out.1.kb g7) _ _ H6.out.2.1; have r1 := B7.c 1; have r2 := B7.c 2; have HH7 : Hid _ := And.intro J7 B7; clear o7 g7 J7 B7)
                         | (go_at_call 29; (with_reducible refine (htd _).mono ?_); rintro e w8 ⟨v8, rfl, o8, g8⟩; obtain ⟨a8, c8, rfl, Y8⟩ := byte_own o8 (tol_byt _) HQQ.out.1; have H8a := HH7.out.1.keep g8; have H8b := HH7.out.2.kept0 g8; have s1 := H8b.c 1; have s2 := H8b.c 2; have HH8 : Hid _ := And.intro H8a (And.intro H8b Y8); clear o8 g8 Y8 H8a H8b)
                         | (refine step_append8 (by rfl) _ _ 22 (by rfl) w.heap.size i5 Try.underlying22 hi hz0 hz1 hz2 v7 P7.length (bv P7) (by rfl) HH8.out.1.own a8 (tol ((m : Int) - 4)).length c8 (tol ((m : Int) - 4)) (by rfl) HH8.out.2.2 (le_two hl7 HQQ.out.2.2) HH8.out.1.g.size ?_; intro v9 w9 o9 g9; have J9 := HH8.out.1.app o9 (tol_byt _) rfl g9; have B9 := (HH8.out.1.kb g9) _ _ HH8.out.2.1; have t1 := B9.c 1; have t2 := B9.c 2; have HH9 : Hid _ := J9; clear o9 g9 J9 B9)
                         | fail)
                      have J9 := HH9.out
                      have hPe : P7 ++ tol ((m : Int) - 4) = P ++ jbytes false (lit, (y : Int), m) := by
                        rw [HP7.out, ← HP5.out, ← HP2.out, ← HAe.out, ← HBe.out]; unfold jbytes; simp [hll]
                      rw [hPe] at J9
                      have hjl := jbytes_le (l := false) (q := (lit, (y : Int), m)) (by show lit.length ≤ 1048576; omega) (by show m ≤ 1048576; omega)
                      have hPb : (P ++ jbytes false (lit, (y : Int), m)).length ≤ (j + 1) * 2097152 := by rw [List.length_append]; omega
                      have HJ9 : Hid _ := J9
                      clear J9 hPe hjl HH9
                      go_wp2
                      go_roundw
                      case rel => exact ⟨j + 1, _, size + n + m, by go_num, by go_num, by omega, by omega, by omega, hPb, HJ9, HF⟩
                      case measure => simp [intOf]; omega
      · obtain rfl : j = len := by omega
        have he := HE.out
        rw [List.drop_eq_nil_of_le (by rw [HQ.out]; exact Nat.le_refl _)] at he
        have HF : Hid _ := he
        obtain ⟨a1, c1, rfl, B1⟩ := byte_own HJ.out.own HJ.out.byt (by unfold maxLen; omega)
        have HB : Hid _ := And.intro B1 HJ.out.g
        clear he HE HM B1 HJ
        go_wp2
        go_ret2
        rw [← HF.out]
        exact ⟨_, _, _, rfl, HB.out.1, HB.out.2⟩
end Go.Proofs.Ytcffncmljfahoaa
