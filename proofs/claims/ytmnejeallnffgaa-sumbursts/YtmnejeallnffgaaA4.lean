/- Contracts of More and Crc without a table. -/
import Derived.Test.YtmnejeallnffgaaA3
import Derived.Lib.SlBytesConst
namespace Go.Proofs.Ytmnejeallnffgaa
open Go.RowKit

set_option maxHeartbeats 400000 in
theorem more_nil (c : Nat) (a : Option Addr) (len cap : Nat) (bs : List Int) (w : World) (R : Row w a len bs) (hc : c < 4294967296) :
    Calls Try.prog 14 #[.pointer none, .int .u32 c, .slice a len cap] w fun e w' => e = .returned (.int .u32 (crc ent c bs)) ∧ w.grownBy w' none := by
  have hle := R.le
  unfold maxLen at hle
  unfold crc
  have e1 := not32 hc
  have hd : 4294967295 - c < 4294967296 := by omega
  generalize 4294967295 - c = d at e1 hd
  obtain ⟨hz, hs⟩ := zero24
  have HI : Hid ((Try.prog.info? 24).map (·.size) = some (tcs ent).toArray.size) := by show _ = _; simp [hs, tcs_length]
  clear hs
  have hM := make_any w
  go_enter Try.func14, Try.ntmps14
  go_wp2_with (first | (go_at_call 9; refine hM.mono ?_; rintro e w1 ⟨rfl, hg1⟩; have HG1 : Hid (w.grownBy w1 none) := hg1; clear hg1) | (with_reducible refine store24_here ?_; refine wpList_store_row rfl 24 _ _ rfl w1.heap.size _ rfl rfl 24 _ (heap_alloc_new w1 _) HI.out (by simp [tcs_length]) (tcs_one _) ?_))
  rw [World.setRow_alloc_new]
  have B : SBlk (w1.alloc (.cells (tcs ent).toArray 24)) w1.heap.size (tcs ent) 24 := alloc_sblk _ _ _
  have G : w.grownBy (w1.alloc (.cells (tcs ent).toArray 24)) none := grown_trans HG1.out (World.grownBy_alloc _ _ _)
  have R2 := R.grown G
  have hle := R.le
  unfold maxLen at hle
  clear R hz hM HI HG1
  generalize w1.alloc (.cells (tcs ent).toArray 24) = w2 at B G R2
  generalize w1.heap.size = q at B
  generalize Value.agg (tcs ent).toArray = tv
  have HB : Hid (SBlk w2 q (tcs ent) 24) := B
  have HG : Hid (w.grownBy w2 none) := G
  clear B G e1
  go_loop [1, 9, 17] (fun v _ i => ∃ j : Nat, j ≤ len ∧ i = .int .i64 j ∧ v = .int .u32 (upd ent d (bs.take j))) (fun _ _ i => len - (intOf i).toNat)
  case atStart => exact ⟨0, Nat.zero_le _, rfl, rfl⟩
  case round =>
    obtain ⟨j, hj, rfl, rfl⟩ := hrel
    by_cases hlt : j < len
    · obtain ⟨b, off, rfl, hc⟩ := R2.cells (by omega)
      have hcell := hc j hlt
      have hr := R2.byt.getD j
      have hs := upd_snoc ent d bs j (by rw [R2.len_eq]; exact hlt)
      have hx := upd_lt ent_tab (R2.byt.take j) hd
      generalize bs.getD j 0 = x at hcell hr hs
      generalize upd ent d (bs.take j) = y at hs hx
      clear hc
      have hi := ix8_eq (x := y) hr
      have hk := ix_lt (c := y) hr
      have hS := stp_eq ent_tab hr hx
      generalize y % 256 ^^^ x.toNat = k at hi hk hS
      have ht := HB.out.cell k
      rw [tcs_get _ k hk] at ht
      have hw : IntKind.u8.wrap (y : Int) = (y : Int) % 256 := by rw [IntKind.wrap_u8]
      go_wp2
      go_round
      case rel => exact ⟨j + 1, by omega, by go_num, by rw [hs, ← hS]⟩
      case measure => simp [intOf]; omega
    · have hx := upd_lt ent_tab R2.byt hd
      have : j = len := by omega
      subst this
      rw [List.take_of_length_le (Nat.le_of_eq R2.len_eq)]
      generalize hy : upd ent d bs = y at hx
      have e2 := not32 hx
      go_wp2
      go_ret
      exact ⟨rfl, HG.out⟩

theorem crc_tab (T : Nat → Nat) (hT : Tab T) (q : Nat) (a : Option Addr) (len cap : Nat) (bs : List Int) (w : World) (B : SBlk w q (tcs T) 24) (R : Row w a len bs) :
    Calls Try.prog 15 #[.pointer (some ⟨q, 0, none⟩), .slice a len cap] w fun e w' => e = .returned (.int .u32 (crc T 0 bs)) ∧ w = w' := by
  have h := more_tab T hT q 0 a len cap bs w B R (by decide)
  clear B
  go_enter Try.func15, Try.ntmps15
  go_wp2_with (go_at_call 14; refine h.mono ?_; rintro e w' ⟨rfl, rfl⟩)
  go_ret
  exact ⟨rfl, rfl⟩
theorem crc_nil (a : Option Addr) (len cap : Nat) (bs : List Int) (w : World) (R : Row w a len bs) :
    Calls Try.prog 15 #[.pointer none, .slice a len cap] w fun e w' => e = .returned (.int .u32 (crc ent 0 bs)) ∧ w.grownBy w' none := by
  have h := more_nil 0 a len cap bs w R (by decide)
  go_enter Try.func15, Try.ntmps15
  go_wp2_with (go_at_call 14; refine h.mono ?_; rintro e w' ⟨rfl, hg⟩)
  go_ret
  exact ⟨rfl, by assumption⟩

theorem live_row (w : World) : Row (w.alloc (.cells #[.int .u8 49, .int .u8 50, .int .u8 51, .int .u8 52, .int .u8 53, .int .u8 54, .int .u8 55, .int .u8 56, .int .u8 57] 5 (9, 10))) (some ⟨w.heap.size, 0, none⟩) 9 [49, 50, 51, 52, 53, 54, 55, 56, 57] := by
  refine ⟨rfl, by decide, ?_, fun _ => ⟨_, 0, rfl, fun i hi => ?_⟩⟩
  · intro n hn
    simp at hn
    omega
  · rw [cell_of_row _ _ _ _ _ _ (heap_alloc_new w _)]
    match i, hi with
    | 0, _ => rfl
    | 1, _ => rfl
    | 2, _ => rfl
    | 3, _ => rfl
    | 4, _ => rfl
    | 5, _ => rfl
    | 6, _ => rfl
    | 7, _ => rfl
    | 8, _ => rfl

/-- the page's examples -/
theorem live_any (w : World) : Calls Try.prog 12 #[] w fun e w' => e = .returned (.bool true) ∧ w.grownBy w' none := by
  have kc := fun (w : World) (C : Array Value) (n c : Nat) => Lib.run_convert_bytes_const (P := Try.prog) w 31 5 C n c Try.underlying31 Try.underlying5
  have hC := crc_nil _ 9 9 _ _ (live_row w)
  have hcrc : crc ent 0 [49, 50, 51, 52, 53, 54, 55, 56, 57] = 3421780262 := by decide +kernel
  rw [hcrc] at hC
  have hD := fun w' => digest_any none 0 0 [] w' ⟨rfl, Nat.zero_le _, fun n hn => by simp at hn, fun h => absurd h (by omega)⟩
  have hdig : dig 14695981039346656037 [] = 14695981039346656037 := rfl
  rw [hdig] at hD
  clear hcrc hdig
  go_enter Try.func12, Try.ntmps12
  go_wp2_with (first | (go_at_call 15; refine hC.mono ?_; rintro e w1 ⟨rfl, hg1⟩) | (go_at_call 19; refine (hD _).mono ?_; rintro e w2 ⟨rfl, rfl⟩))
  go_ret
  exact ⟨rfl, grown_trans (World.grownBy_alloc _ _ _) (by assumption)⟩
end Go.Proofs.Ytmnejeallnffgaa
