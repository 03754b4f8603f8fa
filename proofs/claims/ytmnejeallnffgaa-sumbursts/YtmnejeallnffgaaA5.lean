/- Contracts of Good and of the document's More. -/
import Derived.Test.YtmnejeallnffgaaA4
import Derived.ChangeKeysEq
import Derived.Laws.StructEq
import Derived.Deep.RegionHeld
namespace Go.Proofs.Ytmnejeallnffgaa
open Go.RowKit

def eqT (f g : Nat → Nat) : Bool := (List.range 256).all fun i => f i == g i
theorem eqT_refl (f : Nat → Nat) : eqT f f = true := by simp [eqT]
theorem eqT_iff (f g : Nat → Nat) : eqT f g = true ↔ ∀ i, i < 256 → f i = g i := by simp [eqT]
theorem run_part_tab (f : Nat → Nat) (i : Nat) (h : i < 256) (w : World) : (part 22 (tcs f).toArray (i * 1)).run Try.prog w = .ok (.int .u32 (f i)) w := by
  have := tcs_get f i h
  simp [part, this]
theorem run_eqItems_tab (f g : Nat → Nat) (w : World) : ∀ (is : List Nat), (∀ i ∈ is, i < 256) → (Op.eqItems 9999 22 1 (tcs f).toArray (tcs g).toArray is).run Try.prog w = .ok (is.all fun i => f i == g i) w
  | [], _ => by simp [Op.eqItems]
  | i :: is, h => by
    have hi := h i (List.mem_cons_self ..)
    have ih := run_eqItems_tab f g w is (fun j hj => h j (List.mem_cons_of_mem _ hj))
    simp only [Op.eqItems, Sem.run_bind, run_part_tab f i hi w, run_part_tab g i hi w, Result.andThen_ok, run_equalIn_int w 9998 22 .u32 .u32 _ _ Try.underlying22]
    by_cases e : f i = g i
    · simpa [e] using ih
    · have : ((f i : Int) == (g i : Int)) = false := by simpa using fun h => e (Int.ofNat_inj.1 h)
      simp [e, this]
theorem run_equal_tab (f g : Nat → Nat) (w : World) : (Op.equalIn 10000 24 (.agg (tcs f).toArray) (.agg (tcs g).toArray)).run Try.prog w = .ok (eqT f g) w := by
  have hc : Try.prog.cellsOf 22 = 1 := by kernel_rfl
  rw [show (10000 : Nat) = 9999 + 1 from rfl, run_equalIn_array (P := Try.prog) w 9999 (i := Try.t22) _ _ Try.underlying24 (by kernel_rfl), hc]
  exact run_eqItems_tab f g w _ (fun i hi => by simpa using hi)

theorem grown_drew {a b : World} (h : a.drew.grownBy b none) : a.grownBy b none := below_grown ((Below.refl _ _).drew.trans ((grown_below h).mono (Nat.le_refl _)))
theorem grown_drewN (w : World) (n : Nat) : w.grownBy (w.drewN n) none := by
  induction n with
  | zero => exact World.grownBy.refl _ _
  | succ n ih => exact below_grown ((grown_below ih).drew)
theorem good_nil (w : World) : Calls Try.prog 11 #[.pointer none] w fun e w' => e = .returned (.bool false) ∧ w.grownBy w' none := by
  go_enter Try.func11, Try.ntmps11
  go_wp2_with fail
  go_quiet (fail)
  go_wp2_with fail
  go_ret
  exact ⟨rfl, grown_drewN _ _⟩
theorem range_grown {w w' : World} {b o : Nat} {cs : List Value} (h : w.rangeAt b o cs) (hg : w.grownBy w' none) : w'.rangeAt b o cs := fun j v hv => by
  have hc := h j v hv
  rw [(grown_below hg).cell (p := ⟨b, o + j, none⟩) (cell_lt hc)]
  exact hc
theorem SBlk.range {w : World} {q : Nat} {cs : List Value} {t : TypeId} (h : SBlk w q cs t) : w.rangeAt q 0 cs := fun j v hv => by
  rw [Nat.zero_add, h.cell]; exact hv

set_option maxHeartbeats 1000000 in
theorem good_tab (f : Nat → Nat) (q : Nat) (w : World) (B : SBlk w q (tcs f) 24) :
    Calls Try.prog 11 #[.pointer (some ⟨q, 0, none⟩)] w fun e w' => e = .returned (.bool (eqT f ent)) ∧ w.grownBy w' none := by
  have hM := fun w => make_any w
  have hE := fun w => run_equal_tab f ent w
  have hs : (Try.prog.info? 24).map (·.size) = some (tcs f).length := by rw [zero24.2, tcs_length]
  have hr := B.range
  have hl := tcs_length f
  have h1 : ∀ v ∈ tcs f, v.oneCell' = true := fun v hv => by have := tcs_one f; simp at this; exact this v hv
  have u24 := Try.underlying24
  clear B
  generalize tcs f = F at hE hs hr hl h1
  go_enter Try.func11, Try.ntmps11
  go_wp2_with fail
  go_region_held (fun w' => w'.rangeAt q 0 F) (first | go_keep_ranges | exact range_grown (by assumption) (by assumption)) (first | (go_at_call 9; refine (hM _).mono ?_; rintro e w1 ⟨rfl, hg1⟩))
  go_wp2_with fail
  go_ret
  exact ⟨rfl, grown_drew (by assumption)⟩

set_option maxHeartbeats 400000 in
theorem refmore_any (T : Nat → Nat) (hT : Tab T) (c : Nat) (a : Option Addr) (len cap : Nat) (bs : List Int) (w : World) (R : Row w a len bs) (hc : c < 4294967296) :
    Calls Try.prog 16 #[.agg (tcs T).toArray, .int .u32 c, .slice a len cap] w fun e w' => e = .returned (.int .u32 (crc T c bs)) ∧ w.grownBy w' none := by
  have hle := R.le
  unfold maxLen at hle
  unfold crc
  have e1 : (4294967295 - (c : Int)) = ((4294967295 - c : Nat) : Int) := by omega
  have hd : 4294967295 - c < 4294967296 := by omega
  generalize 4294967295 - c = d at e1 hd
  go_enter Try.func16, Try.ntmps16
  go_wp2
  have B : SBlk (w.alloc (.cells (tcs T).toArray 24)) w.heap.size (tcs T) 24 := alloc_sblk _ _ _
  have G : w.grownBy (w.alloc (.cells (tcs T).toArray 24)) none := World.grownBy_alloc _ _ _
  have R2 := R.grown G
  clear R
  generalize w.alloc (.cells (tcs T).toArray 24) = w2 at B G R2
  generalize w.heap.size = q at B
  generalize Value.agg (tcs T).toArray = tv
  have HB : Hid (SBlk w2 q (tcs T) 24) := B
  have HG : Hid (w.grownBy w2 none) := G
  clear B G e1
  go_loop [1, 7, 8] (fun v i _ => ∃ j : Nat, j ≤ len ∧ i = .int .i64 j ∧ v = .int .u32 (upd T d (bs.take j))) (fun _ i _ => len - (intOf i).toNat)
  case atStart => exact ⟨0, Nat.zero_le _, rfl, rfl⟩
  case round =>
    obtain ⟨j, hj, rfl, rfl⟩ := hrel
    by_cases hlt : j < len
    · obtain ⟨b, off, rfl, hc⟩ := R2.cells (by omega)
      have hcell := hc j hlt
      have hr := R2.byt.getD j
      have hs := upd_snoc T d bs j (by rw [R2.len_eq]; exact hlt)
      have hx := upd_lt hT (R2.byt.take j) hd
      generalize bs.getD j 0 = x at hcell hr hs
      generalize upd T d (bs.take j) = y at hs hx
      clear hc
      have hi := ix_eq (x := y) hr
      have hk := ix_lt (c := y) hr
      have hS := stp_eq hT hr hx
      generalize y % 256 ^^^ x.toNat = k at hi hk hS
      have ht := HB.out.cell k
      rw [tcs_get _ k hk] at ht
      have hw : IntKind.u32.wrap x = x := by rw [IntKind.wrap_u32]; omega
      go_wp2
      go_round
      case rel => exact ⟨j + 1, by omega, by go_num, by rw [hs, ← hS]⟩
      case measure => simp [intOf]; omega
    · have hx := upd_lt hT R2.byt hd
      have : j = len := by omega
      subst this
      rw [List.take_of_length_le (Nat.le_of_eq R2.len_eq)]
      generalize hy : upd T d bs = y at hx
      have e2 : (4294967295 - (y : Int)) = ((4294967295 - y : Nat) : Int) := by omega
      go_wp2
      go_ret
      exact ⟨rfl, HG.out⟩
end Go.Proofs.Ytmnejeallnffgaa
