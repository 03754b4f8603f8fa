/- The document's Decode. -/
import Derived.Test.YtaedcblphcfkfaaJF
import Derived.Deep.RegionHeld3
namespace Go.Proofs.Ytaedcblphcfkfaa
open Go.RowKit
set_option linter.unusedSimpArgs false
set_option linter.unusedVariables false

/-- the answer's variable, and a head's -/
structure Dr (w W : World) (gz gs : Nat) (cs : List Value) : Prop where
  z : Bx W gz 26 [.int .i64 0, .int .i64 0, .int .i64 0, .int .i64 0, .int .i64 0, .int .i64 0, .int .i64 0, .int .i64 0, .int .i64 0, .int .i64 0, .int .i64 0, .int .i64 0, .int .i64 0, .int .i64 0, .int .i64 0]
  r : Bx W gs 26 cs
  gw : w.grownBy W none
  lz : w.heap.size ≤ gz
  lr : w.heap.size ≤ gs
  ne : gz ≠ gs
theorem Dr.kept {w W W' : World} {gz gs : Nat} {cs : List Value} (h : Dr w W gz gs cs) (k : W.grownBy W' none) : Dr w W' gz gs cs := ⟨h.z.kept k, h.r.kept k, grown_trans h.gw k, h.lz, h.lr, h.ne⟩
theorem Dr.put {w W : World} {gz gs : Nat} {cs : List Value} (h : Dr w W gz gs cs) (i : Nat) (v : Value) : Dr w (W.setCell ⟨gs, i, none⟩ v) gz gs (cs.set i v) := by
  have hg := grown_set W gs i v
  exact ⟨⟨by rw [hg.block _ h.z.lt (by simpa using h.ne)]; exact h.z.blk⟩, h.r.set i v, grown_new h.gw hg h.lr, h.lz, h.lr, h.ne⟩
theorem rnum13 (b o len cap : Nat) (bs : List Int) (k : Nat) (w : World) (R : Row w (some ⟨b, o, none⟩) len bs) (hin : k + 4 ≤ len) :
    Calls Try.prog 31 #[.slice (some ⟨b, o, none⟩) len cap, .int .i64 k] w fun e w' => e = .returned (.int .i64 (le ((bs.drop k).take 4))) ∧ w = w' := by
  have h := load_row (some ⟨b, o, none⟩) len cap bs k 4 w R (by decide) (by decide) hin
  have hb := le4 R.byt k
  generalize le ((bs.drop k).take 4) = x at *
  have wx : IntKind.i64.wrap x = x := by rw [IntKind.wrap_i64]; omega
  clear R hb
  go_enter Try.func31, Try.ntmps31
  go_wp2_with (go_at_call 45; refine h.mono ?_; rintro e w' ⟨rfl, rfl⟩)
  go_ret
  exact ⟨rfl, rfl⟩
theorem quiet_eq13 {P : Program} {f : FuncId} {args : Array Value} {w : World} {n : Nat} {v : Value} (h : Calls P f args (w.drewN n) fun e w' => e = .returned v ∧ w.drewN n = w') : Calls P f args (w.drewN n) fun e w'' => e = .returned v ∧ ∃ m, w'' = w.drewN m :=
  h.mono fun e w'' h => ⟨h.1, n, h.2.symm⟩
theorem mark_eq {xs : List Int} (h : Byt xs) : (strOfNums xs).toList = ([80, 77, 83, 49, 1, 0] : List UInt8) ↔ xs = [80, 77, 83, 49, 1, 0] := by
  have q := str_eq xs [80, 77, 83, 49, 1, 0] h (byt_of _ (by decide))
  have e : (strOfNums [80, 77, 83, 49, 1, 0]).toList = ([80, 77, 83, 49, 1, 0] : List UInt8) := by rw [str_toList]; rfl
  rw [e] at q
  rw [← beq_iff_eq, q, decide_eq_true_eq]
theorem take8 {bs : List Int} (h : 8 ≤ bs.length) : bs.take 8 = bs.take 6 ++ [bs.getD 6 0, bs.getD 7 0] := by
  have e1 : bs.take 8 = bs.take 7 ++ [bs.getD 7 0] := by rw [List.take_succ_eq_append_getElem (by omega : 7 < bs.length), List.getD_eq_getElem?_getD, List.getElem?_eq_getElem (by omega : 7 < bs.length)]; rfl
  have e2 : bs.take 7 = bs.take 6 ++ [bs.getD 6 0] := by rw [List.take_succ_eq_append_getElem (by omega : 6 < bs.length), List.getD_eq_getElem?_getD, List.getElem?_eq_getElem (by omega : 6 < bs.length)]; rfl
  rw [e1, e2, List.append_assoc]; rfl
theorem opn_split {bs : List Int} (h : 8 ≤ bs.length) : opn bs = (decide (bs.take 6 = [80, 77, 83, 49, 1, 0]) && decide (12 ≤ bs.getD 6 0) && decide (bs.getD 6 0 ≤ 20) && decide (bs.getD 7 0 = 0)) := by
  unfold opn
  rw [take8 h]
  have e : (bs.take 6 ++ [bs.getD 6 0, bs.getD 7 0] = [80, 77, 83, 49, 1, 0, bs.getD 6 0, 0]) ↔ (bs.take 6 = [80, 77, 83, 49, 1, 0] ∧ bs.getD 7 0 = 0) := by
    constructor
    · intro k
      have l : (bs.take 6).length = ([80, 77, 83, 49, 1, 0] : List Int).length := by simp; omega
      have := List.append_inj (s₂ := [80, 77, 83, 49, 1, 0]) (t₂ := [bs.getD 6 0, 0]) k l
      exact ⟨this.1, by have := this.2; simpa using this⟩
    · rintro ⟨k1, k2⟩; rw [k1, k2]; rfl
  rw [Bool.eq_iff_iff]
  simp only [Bool.and_eq_true, decide_eq_true_eq, e]
  constructor
  · rintro ⟨⟨a, b⟩, c, d⟩; exact ⟨⟨⟨c, a⟩, b⟩, d⟩
  · rintro ⟨⟨⟨c, a⟩, b⟩, d⟩; exact ⟨⟨a, b⟩, c, d⟩
set_option maxHeartbeats 2000000 in
theorem rdecode13_short (a : Option Addr) (len cap : Nat) (w : World) (h : len < 68) : Calls Try.prog 15 #[.slice a len cap] w fun e w' => e = .returned (.tuple #[sp0.val, .int .i64 6]) ∧ w.grownBy w' none := by
  simp only [Sp.val, sp0]
  have hd : decide ((len : Int) < 68) = true := decide_eq_true (by omega)
  have H0 : Hid _ := Dz.new w
  clear h
  go_enter Try.func15, Try.ntmps15
  go_wp2_with ((with_reducible refine storeS_here ?_); refine wpList_storeB rfl 26 _ _ rfl w.heap.size [.int .i64 0, .int .i64 0, .int .i64 0, .int .i64 0, .int .i64 0, .int .i64 0, .int .i64 0, .int .i64 0, .int .i64 0, .int .i64 0, .int .i64 0, .int .i64 0, .int .i64 0, .int .i64 0, .int .i64 0] rfl rfl H0.out.z infoS rfl rfl ?_)
  intro W5 B5 G5
  have HQ : Hid _ := grown_new H0.out.gw G5 H0.out.lz
  obtain ⟨d0, d1, d2, d3, d4, d5, d6, d7, d8, d9, d10, d11, d12, d13, d14⟩ := bx15 B5
  clear B5 G5
  go_wp2
  refine bodyPost_ret (by simp [results, Try.results15, go_sem, d0, d1, d2, d3, d4, d5, d6, d7, d8, d9, d10, d11, d12, d13, d14]; try rfl) rfl ?_
  exact ⟨rfl, HQ.out⟩
set_option maxHeartbeats 4000000 in
theorem rdecode13_no (b o len cap : Nat) (bs : List Int) (w : World) (R : Row w (some ⟨b, o, none⟩) len bs) (h : 68 ≤ len) (hnc : len ≤ cap) (hcm : cap ≤ maxLen) (ho : opn bs = false) : Calls Try.prog 15 #[.slice (some ⟨b, o, none⟩) len cap] w fun e w' => e = .returned (.tuple #[sp0.val, .int .i64 6]) ∧ w.grownBy w' none := by
  have hlb := R.len_eq
  have J0 := Dz.new w
  have R1 := R.grown J0.gw
  have R6 : Row (w.alloc (.cells #[.int .i64 0, .int .i64 0, .int .i64 0, .int .i64 0, .int .i64 0, .int .i64 0, .int .i64 0, .int .i64 0, .int .i64 0, .int .i64 0, .int .i64 0, .int .i64 0, .int .i64 0, .int .i64 0, .int .i64 0] 26)) (some ⟨b, o, none⟩) 6 (bs.take 6) := by have := R1.part 0 6 (by omega); simpa using this
  have cv := conv_row (P := Try.prog) R6 cap 27 9 Try.underlying27 Try.underlying5 Try.underlying9
  have se := mark_eq (R.byt.take 6)
  have cc : ∀ i, i < len → (w.alloc (.cells #[.int .i64 0, .int .i64 0, .int .i64 0, .int .i64 0, .int .i64 0, .int .i64 0, .int .i64 0, .int .i64 0, .int .i64 0, .int .i64 0, .int .i64 0, .int .i64 0, .int .i64 0, .int .i64 0, .int .i64 0] 26)).cell? ⟨b, o + i, none⟩ = some (.int .u8 (bs.getD i 0)) := by
    obtain ⟨b', o', e, hc⟩ := R1.cells (by omega)
    injection e with e
    injection e with e1 e2
    subst e1 e2
    exact hc
  have c6 := cc 6 (by omega)
  have c7 := cc 7 (by omega)
  have osp := opn_split (bs := bs) (by omega)
  have hd : decide ((len : Int) < 68) = false := decide_eq_false (by omega)
  have hc1 : ¬ (cap : Int) < 6 := by omega
  have hc2 : (6 : Int) ≤ (cap : Int) := by omega
  have hc3 : ¬ (cap : Int) < 64 := by omega
  have hc4 : (64 : Int) ≤ (cap : Int) := by omega
  have h6 : (6 : Int) < (len : Int) := by omega
  have h7 : (7 : Int) < (len : Int) := by omega
  rw [ho] at osp
  simp only [Sp.val, sp0]
  have H0 : Hid _ := J0
  unfold maxLen at hcm
  clear cc R6 R1 J0 R hlb ho h hnc
  generalize strOfNums (bs.take 6) = sb at *
  by_cases k0 : bs.take 6 = [80, 77, 83, 49, 1, 0]
  · rw [decide_eq_true k0] at osp
    replace se := se.2 k0
    clear k0
    generalize bs.getD 6 0 = x6 at *
    generalize bs.getD 7 0 = x7 at *
    by_cases k1 : x6 < 12
    · clear osp
      go_enter Try.func15, Try.ntmps15
      go_wp2_with ((with_reducible refine storeS_here ?_); refine wpList_storeB rfl 26 _ _ rfl w.heap.size [.int .i64 0, .int .i64 0, .int .i64 0, .int .i64 0, .int .i64 0, .int .i64 0, .int .i64 0, .int .i64 0, .int .i64 0, .int .i64 0, .int .i64 0, .int .i64 0, .int .i64 0, .int .i64 0, .int .i64 0] rfl rfl H0.out.z infoS rfl rfl ?_)
      intro W5 B5 G5
      have HQ : Hid _ := grown_new H0.out.gw G5 H0.out.lz
      obtain ⟨d0, d1, d2, d3, d4, d5, d6, d7, d8, d9, d10, d11, d12, d13, d14⟩ := bx15 B5
      clear B5 G5
      go_wp2
      refine bodyPost_ret (by simp [results, Try.results15, go_sem, d0, d1, d2, d3, d4, d5, d6, d7, d8, d9, d10, d11, d12, d13, d14]; try rfl) rfl ?_
      exact ⟨rfl, HQ.out⟩
    · by_cases k2 : 20 < x6
      · clear osp
        go_enter Try.func15, Try.ntmps15
        go_wp2_with ((with_reducible refine storeS_here ?_); refine wpList_storeB rfl 26 _ _ rfl w.heap.size [.int .i64 0, .int .i64 0, .int .i64 0, .int .i64 0, .int .i64 0, .int .i64 0, .int .i64 0, .int .i64 0, .int .i64 0, .int .i64 0, .int .i64 0, .int .i64 0, .int .i64 0, .int .i64 0, .int .i64 0] rfl rfl H0.out.z infoS rfl rfl ?_)
        intro W5 B5 G5
        have HQ : Hid _ := grown_new H0.out.gw G5 H0.out.lz
        obtain ⟨d0, d1, d2, d3, d4, d5, d6, d7, d8, d9, d10, d11, d12, d13, d14⟩ := bx15 B5
        clear B5 G5
        go_wp2
        refine bodyPost_ret (by simp [results, Try.results15, go_sem, d0, d1, d2, d3, d4, d5, d6, d7, d8, d9, d10, d11, d12, d13, d14]; try rfl) rfl ?_
        exact ⟨rfl, HQ.out⟩
      · have k3 : ¬ x7 = 0 := fun e => by subst e; simp at osp; omega
        clear osp
        go_enter Try.func15, Try.ntmps15
        go_wp2_with ((with_reducible refine storeS_here ?_); refine wpList_storeB rfl 26 _ _ rfl w.heap.size [.int .i64 0, .int .i64 0, .int .i64 0, .int .i64 0, .int .i64 0, .int .i64 0, .int .i64 0, .int .i64 0, .int .i64 0, .int .i64 0, .int .i64 0, .int .i64 0, .int .i64 0, .int .i64 0, .int .i64 0] rfl rfl H0.out.z infoS rfl rfl ?_)
        intro W5 B5 G5
        have HQ : Hid _ := grown_new H0.out.gw G5 H0.out.lz
        obtain ⟨d0, d1, d2, d3, d4, d5, d6, d7, d8, d9, d10, d11, d12, d13, d14⟩ := bx15 B5
        clear B5 G5
        go_wp2
        refine bodyPost_ret (by simp [results, Try.results15, go_sem, d0, d1, d2, d3, d4, d5, d6, d7, d8, d9, d10, d11, d12, d13, d14]; try rfl) rfl ?_
        exact ⟨rfl, HQ.out⟩
  · replace se : ¬ _ := fun e => k0 (se.1 e)
    clear osp k0
    go_enter Try.func15, Try.ntmps15
    go_wp2_with ((with_reducible refine storeS_here ?_); refine wpList_storeB rfl 26 _ _ rfl w.heap.size [.int .i64 0, .int .i64 0, .int .i64 0, .int .i64 0, .int .i64 0, .int .i64 0, .int .i64 0, .int .i64 0, .int .i64 0, .int .i64 0, .int .i64 0, .int .i64 0, .int .i64 0, .int .i64 0, .int .i64 0] rfl rfl H0.out.z infoS rfl rfl ?_)
    intro W5 B5 G5
    have HQ : Hid _ := grown_new H0.out.gw G5 H0.out.lz
    obtain ⟨d0, d1, d2, d3, d4, d5, d6, d7, d8, d9, d10, d11, d12, d13, d14⟩ := bx15 B5
    clear B5 G5
    go_wp2
    refine bodyPost_ret (by simp [results, Try.results15, go_sem, d0, d1, d2, d3, d4, d5, d6, d7, d8, d9, d10, d11, d12, d13, d14]; try rfl) rfl ?_
    exact ⟨rfl, HQ.out⟩
set_option maxHeartbeats 4000000 in
theorem rdecode13_sum (b o len cap : Nat) (bs : List Int) (w : World) (R : Row w (some ⟨b, o, none⟩) len bs) (h : 68 ≤ len) (hnc : len ≤ cap) (hcm : cap ≤ maxLen) (ho : opn bs = true) (hs : ¬ le ((bs.drop 64).take 4) = (crc ent 0 (bs.take 64) : Nat)) : Calls Try.prog 15 #[.slice (some ⟨b, o, none⟩) len cap] w fun e w' => e = .returned (.tuple #[sp0.val, .int .i64 140]) ∧ w.grownBy w' none := by
  have hlb := R.len_eq
  have J0 := Dz.new w
  have R1 := R.grown J0.gw
  have R6 : Row (w.alloc (.cells #[.int .i64 0, .int .i64 0, .int .i64 0, .int .i64 0, .int .i64 0, .int .i64 0, .int .i64 0, .int .i64 0, .int .i64 0, .int .i64 0, .int .i64 0, .int .i64 0, .int .i64 0, .int .i64 0, .int .i64 0] 26)) (some ⟨b, o, none⟩) 6 (bs.take 6) := by have := R1.part 0 6 (by omega); simpa using this
  have cv := conv_row (P := Try.prog) R6 cap 27 9 Try.underlying27 Try.underlying5 Try.underlying9
  have se := mark_eq (R.byt.take 6)
  have cc : ∀ i, i < len → (w.alloc (.cells #[.int .i64 0, .int .i64 0, .int .i64 0, .int .i64 0, .int .i64 0, .int .i64 0, .int .i64 0, .int .i64 0, .int .i64 0, .int .i64 0, .int .i64 0, .int .i64 0, .int .i64 0, .int .i64 0, .int .i64 0] 26)).cell? ⟨b, o + i, none⟩ = some (.int .u8 (bs.getD i 0)) := by
    obtain ⟨b', o', e, hc⟩ := R1.cells (by omega)
    injection e with e
    injection e with e1 e2
    subst e1 e2
    exact hc
  have c6 := cc 6 (by omega)
  have c7 := cc 7 (by omega)
  have osp := opn_split (bs := bs) (by omega)
  have hd : decide ((len : Int) < 68) = false := decide_eq_false (by omega)
  have hc1 : ¬ (cap : Int) < 6 := by omega
  have hc2 : (6 : Int) ≤ (cap : Int) := by omega
  have hc3 : ¬ (cap : Int) < 64 := by omega
  have hc4 : (64 : Int) ≤ (cap : Int) := by omega
  have h6 : (6 : Int) < (len : Int) := by omega
  have h7 : (7 : Int) < (len : Int) := by omega
  rw [ho] at osp
  have hN := fun (W : World) (k : Nat) (R' : Row W (some ⟨b, o, none⟩) len bs) (hk : k + 4 ≤ len) => rnum13 b o len cap bs k W R' hk
  have R64 : Row (w.alloc (.cells #[.int .i64 0, .int .i64 0, .int .i64 0, .int .i64 0, .int .i64 0, .int .i64 0, .int .i64 0, .int .i64 0, .int .i64 0, .int .i64 0, .int .i64 0, .int .i64 0, .int .i64 0, .int .i64 0, .int .i64 0] 26)) (some ⟨b, o, none⟩) 64 (bs.take 64) := by have := R1.part 0 64 (by omega); simpa using this
  have hcl := crc_lt ent 0 (bs.take 64)
  have hn64 : ∀ n, Calls Try.prog 31 #[.slice (some ⟨b, o, none⟩) len cap, .int .i64 64] ((w.alloc (.cells #[.int .i64 0, .int .i64 0, .int .i64 0, .int .i64 0, .int .i64 0, .int .i64 0, .int .i64 0, .int .i64 0, .int .i64 0, .int .i64 0, .int .i64 0, .int .i64 0, .int .i64 0, .int .i64 0, .int .i64 0] 26)).drewN n) fun e w' => e = .returned (.int .i64 (le ((bs.drop 64).take 4))) ∧ (w.alloc (.cells #[.int .i64 0, .int .i64 0, .int .i64 0, .int .i64 0, .int .i64 0, .int .i64 0, .int .i64 0, .int .i64 0, .int .i64 0, .int .i64 0, .int .i64 0, .int .i64 0, .int .i64 0, .int .i64 0, .int .i64 0] 26)).drewN n = w' := fun n => rnum13 b o len cap bs 64 _ (R1.grown (grown_drewN _ n)) (by omega)
  have hcrc : ∀ n, Calls Try.prog 27 #[.int .u32 0, .slice (some ⟨b, o, none⟩) 64 cap] ((w.alloc (.cells #[.int .i64 0, .int .i64 0, .int .i64 0, .int .i64 0, .int .i64 0, .int .i64 0, .int .i64 0, .int .i64 0, .int .i64 0, .int .i64 0, .int .i64 0, .int .i64 0, .int .i64 0, .int .i64 0, .int .i64 0] 26)).drewN n) fun e w' => e = .returned (.int .u32 (crc ent 0 (bs.take 64) : Nat)) ∧ (w.alloc (.cells #[.int .i64 0, .int .i64 0, .int .i64 0, .int .i64 0, .int .i64 0, .int .i64 0, .int .i64 0, .int .i64 0, .int .i64 0, .int .i64 0, .int .i64 0, .int .i64 0, .int .i64 0, .int .i64 0, .int .i64 0] 26)).drewN n = w' := fun n => refcrc_any 0 (some ⟨b, o, none⟩) 64 cap _ _ (R64.grown (grown_drewN _ n)) (by omega)
  have wc : IntKind.i64.wrap (crc ent 0 (bs.take 64) : Nat) = (crc ent 0 (bs.take 64) : Nat) := by rw [IntKind.wrap_i64]; omega
  simp only [Bool.true_eq, Bool.and_eq_true, decide_eq_true_eq] at osp
  obtain ⟨⟨⟨o1, o2⟩, o3⟩, o4⟩ := osp
  replace se := se.2 o1
  rw [o4] at c7
  have k1 : ¬ bs.getD 6 0 < 12 := by omega
  have k2 : ¬ 20 < bs.getD 6 0 := by omega
  simp only [Sp.val, sp0]
  have H0 : Hid _ := J0
  unfold maxLen at hcm
  clear cc R6 R1 J0 R hlb ho h hnc hN R64 hcl o1 o2 o3 o4
  generalize strOfNums (bs.take 6) = sb at *
  generalize bs.getD 6 0 = x6 at *
  generalize bs.getD 7 0 = x7 at *
  generalize crc ent 0 (bs.take 64) = cr at *
  generalize le ((bs.drop 64).take 4) = x at *
  go_enter Try.func15, Try.ntmps15
  go_wp2_with fail
  clear cv se c6 c7 k1 k2
  go_quiet (first | (go_at_call 31; exact quiet_eq13 (hn64 _)) | (go_at_call 27; exact quiet_eq13 (hcrc _)))
  have H1 : Hid _ := fun n => H0.out.kept (grown_drewN _ n)
  go_wp2_with ((with_reducible refine storeS_here ?_); refine wpList_storeB rfl 26 _ _ rfl w.heap.size [.int .i64 0, .int .i64 0, .int .i64 0, .int .i64 0, .int .i64 0, .int .i64 0, .int .i64 0, .int .i64 0, .int .i64 0, .int .i64 0, .int .i64 0, .int .i64 0, .int .i64 0, .int .i64 0, .int .i64 0] rfl rfl (H1.out _).z infoS rfl rfl ?_)
  intro W5 B5 G5
  have HQ : Hid _ := grown_new (H1.out _).gw G5 H0.out.lz
  obtain ⟨d0, d1, d2, d3, d4, d5, d6, d7, d8, d9, d10, d11, d12, d13, d14⟩ := bx15 B5
  clear B5 G5
  go_wp2
  refine bodyPost_ret (by simp [results, Try.results15, go_sem, d0, d1, d2, d3, d4, d5, d6, d7, d8, d9, d10, d11, d12, d13, d14]; try rfl) rfl ?_
  exact ⟨rfl, HQ.out⟩
set_option maxHeartbeats 20000000 in
theorem rdecode13_rest (b o len cap : Nat) (bs : List Int) (w : World) (R : Row w (some ⟨b, o, none⟩) len bs) (h : 68 ≤ len) (hnc : len ≤ cap) (hcm : cap ≤ maxLen) (ho : opn bs = true) (hs : le ((bs.drop 64).take 4) = (crc ent 0 (bs.take 64) : Nat)) : Calls Try.prog 15 #[.slice (some ⟨b, o, none⟩) len cap] w fun e w' => e = .returned (.tuple #[(if srt (srd bs) = true then srd bs else sp0).val, .int .i64 (if srt (srd bs) = true then 0 else 6)]) ∧ w.grownBy w' none := by
  have hlb := R.len_eq
  have J0 := Dz.new w
  have R1 := R.grown J0.gw
  have R6 : Row (w.alloc (.cells #[.int .i64 0, .int .i64 0, .int .i64 0, .int .i64 0, .int .i64 0, .int .i64 0, .int .i64 0, .int .i64 0, .int .i64 0, .int .i64 0, .int .i64 0, .int .i64 0, .int .i64 0, .int .i64 0, .int .i64 0] 26)) (some ⟨b, o, none⟩) 6 (bs.take 6) := by have := R1.part 0 6 (by omega); simpa using this
  have cv := conv_row (P := Try.prog) R6 cap 27 9 Try.underlying27 Try.underlying5 Try.underlying9
  have se := mark_eq (R.byt.take 6)
  have cc : ∀ i, i < len → (w.alloc (.cells #[.int .i64 0, .int .i64 0, .int .i64 0, .int .i64 0, .int .i64 0, .int .i64 0, .int .i64 0, .int .i64 0, .int .i64 0, .int .i64 0, .int .i64 0, .int .i64 0, .int .i64 0, .int .i64 0, .int .i64 0] 26)).cell? ⟨b, o + i, none⟩ = some (.int .u8 (bs.getD i 0)) := by
    obtain ⟨b', o', e, hc⟩ := R1.cells (by omega)
    injection e with e
    injection e with e1 e2
    subst e1 e2
    exact hc
  have c6 := cc 6 (by omega)
  have c7 := cc 7 (by omega)
  have osp := opn_split (bs := bs) (by omega)
  have hd : decide ((len : Int) < 68) = false := decide_eq_false (by omega)
  have hc1 : ¬ (cap : Int) < 6 := by omega
  have hc2 : (6 : Int) ≤ (cap : Int) := by omega
  have hc3 : ¬ (cap : Int) < 64 := by omega
  have hc4 : (64 : Int) ≤ (cap : Int) := by omega
  have h6 : (6 : Int) < (len : Int) := by omega
  have h7 : (7 : Int) < (len : Int) := by omega
  rw [ho] at osp
  have hN := fun (W : World) (k : Nat) (R' : Row W (some ⟨b, o, none⟩) len bs) (hk : k + 4 ≤ len) => rnum13 b o len cap bs k W R' hk
  have R64 : Row (w.alloc (.cells #[.int .i64 0, .int .i64 0, .int .i64 0, .int .i64 0, .int .i64 0, .int .i64 0, .int .i64 0, .int .i64 0, .int .i64 0, .int .i64 0, .int .i64 0, .int .i64 0, .int .i64 0, .int .i64 0, .int .i64 0] 26)) (some ⟨b, o, none⟩) 64 (bs.take 64) := by have := R1.part 0 64 (by omega); simpa using this
  have hcl := crc_lt ent 0 (bs.take 64)
  have hn64 : ∀ n, Calls Try.prog 31 #[.slice (some ⟨b, o, none⟩) len cap, .int .i64 64] ((w.alloc (.cells #[.int .i64 0, .int .i64 0, .int .i64 0, .int .i64 0, .int .i64 0, .int .i64 0, .int .i64 0, .int .i64 0, .int .i64 0, .int .i64 0, .int .i64 0, .int .i64 0, .int .i64 0, .int .i64 0, .int .i64 0] 26)).drewN n) fun e w' => e = .returned (.int .i64 (le ((bs.drop 64).take 4))) ∧ (w.alloc (.cells #[.int .i64 0, .int .i64 0, .int .i64 0, .int .i64 0, .int .i64 0, .int .i64 0, .int .i64 0, .int .i64 0, .int .i64 0, .int .i64 0, .int .i64 0, .int .i64 0, .int .i64 0, .int .i64 0, .int .i64 0] 26)).drewN n = w' := fun n => rnum13 b o len cap bs 64 _ (R1.grown (grown_drewN _ n)) (by omega)
  have hcrc : ∀ n, Calls Try.prog 27 #[.int .u32 0, .slice (some ⟨b, o, none⟩) 64 cap] ((w.alloc (.cells #[.int .i64 0, .int .i64 0, .int .i64 0, .int .i64 0, .int .i64 0, .int .i64 0, .int .i64 0, .int .i64 0, .int .i64 0, .int .i64 0, .int .i64 0, .int .i64 0, .int .i64 0, .int .i64 0, .int .i64 0] 26)).drewN n) fun e w' => e = .returned (.int .u32 (crc ent 0 (bs.take 64) : Nat)) ∧ (w.alloc (.cells #[.int .i64 0, .int .i64 0, .int .i64 0, .int .i64 0, .int .i64 0, .int .i64 0, .int .i64 0, .int .i64 0, .int .i64 0, .int .i64 0, .int .i64 0, .int .i64 0, .int .i64 0, .int .i64 0, .int .i64 0] 26)).drewN n = w' := fun n => refcrc_any 0 (some ⟨b, o, none⟩) 64 cap _ _ (R64.grown (grown_drewN _ n)) (by omega)
  have wc : IntKind.i64.wrap (crc ent 0 (bs.take 64) : Nat) = (crc ent 0 (bs.take 64) : Nat) := by rw [IntKind.wrap_i64]; omega
  simp only [Bool.true_eq, Bool.and_eq_true, decide_eq_true_eq] at osp
  obtain ⟨⟨⟨o1, o2⟩, o3⟩, o4⟩ := osp
  replace se := se.2 o1
  rw [o4] at c7
  have k1 : ¬ bs.getD 6 0 < 12 := by omega
  have k2 : ¬ 20 < bs.getD 6 0 := by omega
  have hR := fun W => rright13_any (srd bs) W
  have HV : Hid (∀ j, j < 12 → True) := fun _ _ => trivial
  have HLG : Hid (bs.getD 6 0 = (srd bs).lg) := rfl
  have HB6 : Hid (0 ≤ bs.getD 6 0 ∧ bs.getD 6 0 ≤ 255) := R.byt.getD 6
  have HRW : Hid _ := R1
  have HX1 : Hid (∀ W, w.grownBy W none → Calls Try.prog 31 #[.slice (some ⟨b, o, none⟩) len cap, .int .i64 8] W fun e w' => e = .returned (.int .i64 (srd bs).no) ∧ W = w') := fun W g => rnum13 b o len cap bs 8 W (R.grown g) (by omega)
  have HX2 : Hid (∀ W, w.grownBy W none → Calls Try.prog 31 #[.slice (some ⟨b, o, none⟩) len cap, .int .i64 12] W fun e w' => e = .returned (.int .i64 (srd bs).ln) ∧ W = w') := fun W g => rnum13 b o len cap bs 12 W (R.grown g) (by omega)
  have HX3 : Hid (∀ W, w.grownBy W none → Calls Try.prog 31 #[.slice (some ⟨b, o, none⟩) len cap, .int .i64 16] W fun e w' => e = .returned (.int .i64 (srd bs).a0) ∧ W = w') := fun W g => rnum13 b o len cap bs 16 W (R.grown g) (by omega)
  have HX4 : Hid (∀ W, w.grownBy W none → Calls Try.prog 31 #[.slice (some ⟨b, o, none⟩) len cap, .int .i64 20] W fun e w' => e = .returned (.int .i64 (srd bs).z0) ∧ W = w') := fun W g => rnum13 b o len cap bs 20 W (R.grown g) (by omega)
  have HX5 : Hid (∀ W, w.grownBy W none → Calls Try.prog 31 #[.slice (some ⟨b, o, none⟩) len cap, .int .i64 24] W fun e w' => e = .returned (.int .i64 (srd bs).a1) ∧ W = w') := fun W g => rnum13 b o len cap bs 24 W (R.grown g) (by omega)
  have HX6 : Hid (∀ W, w.grownBy W none → Calls Try.prog 31 #[.slice (some ⟨b, o, none⟩) len cap, .int .i64 28] W fun e w' => e = .returned (.int .i64 (srd bs).z1) ∧ W = w') := fun W g => rnum13 b o len cap bs 28 W (R.grown g) (by omega)
  have HX7 : Hid (∀ W, w.grownBy W none → Calls Try.prog 31 #[.slice (some ⟨b, o, none⟩) len cap, .int .i64 32] W fun e w' => e = .returned (.int .i64 (srd bs).a2) ∧ W = w') := fun W g => rnum13 b o len cap bs 32 W (R.grown g) (by omega)
  have HX8 : Hid (∀ W, w.grownBy W none → Calls Try.prog 31 #[.slice (some ⟨b, o, none⟩) len cap, .int .i64 36] W fun e w' => e = .returned (.int .i64 (srd bs).z2) ∧ W = w') := fun W g => rnum13 b o len cap bs 36 W (R.grown g) (by omega)
  have HX9 : Hid (∀ W, w.grownBy W none → Calls Try.prog 31 #[.slice (some ⟨b, o, none⟩) len cap, .int .i64 40] W fun e w' => e = .returned (.int .i64 (srd bs).a3) ∧ W = w') := fun W g => rnum13 b o len cap bs 40 W (R.grown g) (by omega)
  have HX10 : Hid (∀ W, w.grownBy W none → Calls Try.prog 31 #[.slice (some ⟨b, o, none⟩) len cap, .int .i64 44] W fun e w' => e = .returned (.int .i64 (srd bs).z3) ∧ W = w') := fun W g => rnum13 b o len cap bs 44 W (R.grown g) (by omega)
  have HX11 : Hid (∀ W, w.grownBy W none → Calls Try.prog 31 #[.slice (some ⟨b, o, none⟩) len cap, .int .i64 48] W fun e w' => e = .returned (.int .i64 (srd bs).a4) ∧ W = w') := fun W g => rnum13 b o len cap bs 48 W (R.grown g) (by omega)
  have HX12 : Hid (∀ W, w.grownBy W none → Calls Try.prog 31 #[.slice (some ⟨b, o, none⟩) len cap, .int .i64 52] W fun e w' => e = .returned (.int .i64 (srd bs).z4) ∧ W = w') := fun W g => rnum13 b o len cap bs 52 W (R.grown g) (by omega)
  have HX13 : Hid (∀ W, w.grownBy W none → Calls Try.prog 31 #[.slice (some ⟨b, o, none⟩) len cap, .int .i64 56] W fun e w' => e = .returned (.int .i64 (srd bs).a5) ∧ W = w') := fun W g => rnum13 b o len cap bs 56 W (R.grown g) (by omega)
  have HX14 : Hid (∀ W, w.grownBy W none → Calls Try.prog 31 #[.slice (some ⟨b, o, none⟩) len cap, .int .i64 60] W fun e w' => e = .returned (.int .i64 (srd bs).z5) ∧ W = w') := fun W g => rnum13 b o len cap bs 60 W (R.grown g) (by omega)
  have H0 : Hid _ := J0
  unfold maxLen at hcm
  rw [hs] at hn64
  have HC6 : Hid (∀ W, w.grownBy W none → W.cell? ⟨b, o + 6, none⟩ = some (.int .u8 (bs.getD 6 0))) := fun W g => by
    obtain ⟨b', o', e, hc⟩ := (R.grown g).cells (by omega)
    injection e with e
    injection e with e1 e2
    subst e1 e2
    exact hc 6 (by omega)
  clear cc R6 R1 J0 R hlb ho h hnc hN R64 hcl o1 o2 o3 o4 hs HV
  generalize strOfNums (bs.take 6) = sb at *
  generalize bs.getD 6 0 = x6 at *
  generalize bs.getD 7 0 = x7 at *
  generalize crc ent 0 (bs.take 64) = cr at *
  generalize srt (srd bs) = rq at *
  generalize srd bs = s at *
  obtain ⟨lg, no, ln, a0, z0, a1, z1, a2, z2, a3, z3, a4, z4, a5, z5⟩ := s
  have e6 : x6 = lg := HLG.out
  subst e6
  clear HLG
  simp only [Sp.val] at *
  go_enter Try.func15, Try.ntmps15
  go_wp2_with fail
  clear cv se c6 c7 k1 k2
  go_quiet (first | (go_at_call 31; exact quiet_eq13 (hn64 _)) | (go_at_call 27; exact quiet_eq13 (hcrc _)))
  have H1 : Hid _ := H0.out.kept (grown_drewN _ nq)
  clear H0 hn64 hcrc wc hcm
  generalize (w.alloc (.cells #[.int .i64 0, .int .i64 0, .int .i64 0, .int .i64 0, .int .i64 0, .int .i64 0, .int .i64 0, .int .i64 0, .int .i64 0, .int .i64 0, .int .i64 0, .int .i64 0, .int .i64 0, .int .i64 0, .int .i64 0] 26)).drewN nq = Wq at *
  have c0 : Wq.cell? ⟨b, o + 6, none⟩ = some (.int .u8 x6) := HC6.out Wq H1.out.gw
  have c1 : (Wq.alloc (.cells #[.int .i64 0, .int .i64 0, .int .i64 0, .int .i64 0, .int .i64 0, .int .i64 0, .int .i64 0, .int .i64 0, .int .i64 0, .int .i64 0, .int .i64 0, .int .i64 0, .int .i64 0, .int .i64 0, .int .i64 0] 26)).cell? ⟨b, o + 6, none⟩ = some (.int .u8 x6) := HC6.out _ (grown_trans H1.out.gw (World.grownBy_alloc _ _ _))
  have c2 : (Wq.alloc (.cells #[.int .i64 x6, .int .i64 no, .int .i64 ln, .int .i64 0, .int .i64 0, .int .i64 0, .int .i64 0, .int .i64 0, .int .i64 0, .int .i64 0, .int .i64 0, .int .i64 0, .int .i64 0, .int .i64 0, .int .i64 0] 26)).cell? ⟨b, o + 6, none⟩ = some (.int .u8 x6) := HC6.out _ (grown_trans H1.out.gw (World.grownBy_alloc _ _ _))
  have G0 : Hid (w.grownBy Wq.drew none) := grown_trans H1.out.gw ⟨rfl, rfl, rfl, Nat.le_refl _, fun _ _ _ => rfl⟩
  have G1 : Hid (w.grownBy (Wq.alloc (.cells #[.int .i64 0, .int .i64 0, .int .i64 0, .int .i64 0, .int .i64 0, .int .i64 0, .int .i64 0, .int .i64 0, .int .i64 0, .int .i64 0, .int .i64 0, .int .i64 0, .int .i64 0, .int .i64 0, .int .i64 0] 26)).drew none) := grown_trans (grown_trans H1.out.gw (World.grownBy_alloc _ _ _)) ⟨rfl, rfl, rfl, Nat.le_refl _, fun _ _ _ => rfl⟩
  have G2 : Hid (w.grownBy (Wq.alloc (.cells #[.int .i64 x6, .int .i64 no, .int .i64 ln, .int .i64 0, .int .i64 0, .int .i64 0, .int .i64 0, .int .i64 0, .int .i64 0, .int .i64 0, .int .i64 0, .int .i64 0, .int .i64 0, .int .i64 0, .int .i64 0] 26)).drew none) := grown_trans (grown_trans H1.out.gw (World.grownBy_alloc _ _ _)) ⟨rfl, rfl, rfl, Nat.le_refl _, fun _ _ _ => rfl⟩
  have l1 : ∀ W, Hid (w.grownBy W none) → _ := fun W h => HX1.out W h.out
  have l2 : ∀ W, Hid (w.grownBy W none) → _ := fun W h => HX2.out W h.out
  have ws : IntKind.i64.wrap x6 = x6 := by rw [IntKind.wrap_i64]; have := HB6.out; omega
  go_wp2_with fail
  go_region_held3 (fun w' => w'.cell? ⟨b, o + 6, none⟩ = some (.int .u8 x6) ∧ Hid (w.grownBy w' none)) (first | (refine ⟨?_, ?_⟩ <;> assumption) | go_keep) (first | (go_at_call 31; (with_reducible refine (l1 _ (by assumption)).mono ?_); rintro e w' ⟨rfl, rfl⟩) | (go_at_call 31; (with_reducible refine (l2 _ (by assumption)).mono ?_); rintro e w' ⟨rfl, rfl⟩) | fail)
  all_goals
    have hne : w.heap.size ≠ Wq.heap.size := Nat.ne_of_lt H1.out.z.lt
    have H2 : Hid (Dr w ((Wq.alloc (.cells #[.int .i64 x6, .int .i64 no, .int .i64 ln, .int .i64 0, .int .i64 0, .int .i64 0, .int .i64 0, .int .i64 0, .int .i64 0, .int .i64 0, .int .i64 0, .int .i64 0, .int .i64 0, .int .i64 0, .int .i64 0] 26)).drew) w.heap.size Wq.heap.size [.int .i64 x6, .int .i64 no, .int .i64 ln, .int .i64 0, .int .i64 0, .int .i64 0, .int .i64 0, .int .i64 0, .int .i64 0, .int .i64 0, .int .i64 0, .int .i64 0, .int .i64 0, .int .i64 0, .int .i64 0]) := ⟨⟨(H1.out.z.kept (World.grownBy_alloc _ (.cells #[.int .i64 x6, .int .i64 no, .int .i64 ln, .int .i64 0, .int .i64 0, .int .i64 0, .int .i64 0, .int .i64 0, .int .i64 0, .int .i64 0, .int .i64 0, .int .i64 0, .int .i64 0, .int .i64 0, .int .i64 0] 26) none)).blk⟩, ⟨(Bx.new Wq 26 [.int .i64 x6, .int .i64 no, .int .i64 ln, .int .i64 0, .int .i64 0, .int .i64 0, .int .i64 0, .int .i64 0, .int .i64 0, .int .i64 0, .int .i64 0, .int .i64 0, .int .i64 0, .int .i64 0, .int .i64 0]).blk⟩, G2.out, Nat.le_refl _, H1.out.gw.size, hne⟩
    clear hne H1 G0 G1 G2 c0 c1 c2 l1 l2 ws
    try clear HX1 HX2
    generalize (Wq.alloc (.cells #[.int .i64 x6, .int .i64 no, .int .i64 ln, .int .i64 0, .int .i64 0, .int .i64 0, .int .i64 0, .int .i64 0, .int .i64 0, .int .i64 0, .int .i64 0, .int .i64 0, .int .i64 0, .int .i64 0, .int .i64 0] 26)).drew = W2 at *
    generalize Wq.heap.size = gs at *
    go_wp2
    go_loopw [5] (fun i wr => ∃ j : Nat, j ≤ 6 ∧ i = .int .i64 j ∧ Dr w wr w.heap.size gs (tld [.int .i64 x6, .int .i64 no, .int .i64 ln, .int .i64 a0, .int .i64 z0, .int .i64 a1, .int .i64 z1, .int .i64 a2, .int .i64 z2, .int .i64 a3, .int .i64 z3, .int .i64 a4, .int .i64 z4, .int .i64 a5, .int .i64 z5] (3 + 2 * j))) (fun i _ => 6 - (intOf i).toNat)
    case atStart => exact ⟨0, by omega, rfl, H2.out⟩
    case round =>
      obtain ⟨j, hj, rfl, J⟩ := hrel
      have HJ : Hid _ := J
      clear J H2
      rcases (by omega : j = 0 ∨ j = 1 ∨ j = 2 ∨ j = 3 ∨ j = 4 ∨ j = 5 ∨ j = 6) with rfl | rfl | rfl | rfl | rfl | rfl | rfl

      · have H2 : Hid (Dr w wr w.heap.size gs [.int .i64 x6, .int .i64 no, .int .i64 ln, .int .i64 0, .int .i64 0, .int .i64 0, .int .i64 0, .int .i64 0, .int .i64 0, .int .i64 0, .int .i64 0, .int .i64 0, .int .i64 0, .int .i64 0, .int .i64 0]) := HJ.out
        have la := HX3.out wr H2.out.gw
        have lz := HX4.out wr H2.out.gw
        have c1 : wr.cell? ⟨gs, 3, none⟩ = some (.int .i64 0) := H2.out.r.c 3
        have c2 : wr.cell? ⟨gs, 4, none⟩ = some (.int .i64 0) := H2.out.r.c 4
        have f1 := H2.out.r.f 3
        have f2 := H2.out.r.f 4
        clear HJ HX3 HX4 HX5 HX6 HX7 HX8 HX9 HX10 HX11 HX12 HX13 HX14
        go_wp2_with (first | (go_at_call 31; (with_reducible refine la.mono ?_); rintro e w' ⟨rfl, rfl⟩) | (go_at_call 31; (with_reducible refine lz.mono ?_); rintro e w' ⟨rfl, rfl⟩))
        go_roundw
        case rel => exact ⟨1, by omega, rfl, (H2.out.put 3 (.int .i64 a0)).put 4 (.int .i64 z0)⟩
        case measure => simp [intOf]
      · have H2 : Hid (Dr w wr w.heap.size gs [.int .i64 x6, .int .i64 no, .int .i64 ln, .int .i64 a0, .int .i64 z0, .int .i64 0, .int .i64 0, .int .i64 0, .int .i64 0, .int .i64 0, .int .i64 0, .int .i64 0, .int .i64 0, .int .i64 0, .int .i64 0]) := HJ.out
        have la := HX5.out wr H2.out.gw
        have lz := HX6.out wr H2.out.gw
        have c1 : wr.cell? ⟨gs, 5, none⟩ = some (.int .i64 0) := H2.out.r.c 5
        have c2 : wr.cell? ⟨gs, 6, none⟩ = some (.int .i64 0) := H2.out.r.c 6
        have f1 := H2.out.r.f 5
        have f2 := H2.out.r.f 6
        clear HJ HX3 HX4 HX5 HX6 HX7 HX8 HX9 HX10 HX11 HX12 HX13 HX14
        go_wp2_with (first | (go_at_call 31; (with_reducible refine la.mono ?_); rintro e w' ⟨rfl, rfl⟩) | (go_at_call 31; (with_reducible refine lz.mono ?_); rintro e w' ⟨rfl, rfl⟩))
        go_roundw
        case rel => exact ⟨2, by omega, rfl, (H2.out.put 5 (.int .i64 a1)).put 6 (.int .i64 z1)⟩
        case measure => simp [intOf]
      · have H2 : Hid (Dr w wr w.heap.size gs [.int .i64 x6, .int .i64 no, .int .i64 ln, .int .i64 a0, .int .i64 z0, .int .i64 a1, .int .i64 z1, .int .i64 0, .int .i64 0, .int .i64 0, .int .i64 0, .int .i64 0, .int .i64 0, .int .i64 0, .int .i64 0]) := HJ.out
        have la := HX7.out wr H2.out.gw
        have lz := HX8.out wr H2.out.gw
        have c1 : wr.cell? ⟨gs, 7, none⟩ = some (.int .i64 0) := H2.out.r.c 7
        have c2 : wr.cell? ⟨gs, 8, none⟩ = some (.int .i64 0) := H2.out.r.c 8
        have f1 := H2.out.r.f 7
        have f2 := H2.out.r.f 8
        clear HJ HX3 HX4 HX5 HX6 HX7 HX8 HX9 HX10 HX11 HX12 HX13 HX14
        go_wp2_with (first | (go_at_call 31; (with_reducible refine la.mono ?_); rintro e w' ⟨rfl, rfl⟩) | (go_at_call 31; (with_reducible refine lz.mono ?_); rintro e w' ⟨rfl, rfl⟩))
        go_roundw
        case rel => exact ⟨3, by omega, rfl, (H2.out.put 7 (.int .i64 a2)).put 8 (.int .i64 z2)⟩
        case measure => simp [intOf]
      · have H2 : Hid (Dr w wr w.heap.size gs [.int .i64 x6, .int .i64 no, .int .i64 ln, .int .i64 a0, .int .i64 z0, .int .i64 a1, .int .i64 z1, .int .i64 a2, .int .i64 z2, .int .i64 0, .int .i64 0, .int .i64 0, .int .i64 0, .int .i64 0, .int .i64 0]) := HJ.out
        have la := HX9.out wr H2.out.gw
        have lz := HX10.out wr H2.out.gw
        have c1 : wr.cell? ⟨gs, 9, none⟩ = some (.int .i64 0) := H2.out.r.c 9
        have c2 : wr.cell? ⟨gs, 10, none⟩ = some (.int .i64 0) := H2.out.r.c 10
        have f1 := H2.out.r.f 9
        have f2 := H2.out.r.f 10
        clear HJ HX3 HX4 HX5 HX6 HX7 HX8 HX9 HX10 HX11 HX12 HX13 HX14
        go_wp2_with (first | (go_at_call 31; (with_reducible refine la.mono ?_); rintro e w' ⟨rfl, rfl⟩) | (go_at_call 31; (with_reducible refine lz.mono ?_); rintro e w' ⟨rfl, rfl⟩))
        go_roundw
        case rel => exact ⟨4, by omega, rfl, (H2.out.put 9 (.int .i64 a3)).put 10 (.int .i64 z3)⟩
        case measure => simp [intOf]
      · have H2 : Hid (Dr w wr w.heap.size gs [.int .i64 x6, .int .i64 no, .int .i64 ln, .int .i64 a0, .int .i64 z0, .int .i64 a1, .int .i64 z1, .int .i64 a2, .int .i64 z2, .int .i64 a3, .int .i64 z3, .int .i64 0, .int .i64 0, .int .i64 0, .int .i64 0]) := HJ.out
        have la := HX11.out wr H2.out.gw
        have lz := HX12.out wr H2.out.gw
        have c1 : wr.cell? ⟨gs, 11, none⟩ = some (.int .i64 0) := H2.out.r.c 11
        have c2 : wr.cell? ⟨gs, 12, none⟩ = some (.int .i64 0) := H2.out.r.c 12
        have f1 := H2.out.r.f 11
        have f2 := H2.out.r.f 12
        clear HJ HX3 HX4 HX5 HX6 HX7 HX8 HX9 HX10 HX11 HX12 HX13 HX14
        go_wp2_with (first | (go_at_call 31; (with_reducible refine la.mono ?_); rintro e w' ⟨rfl, rfl⟩) | (go_at_call 31; (with_reducible refine lz.mono ?_); rintro e w' ⟨rfl, rfl⟩))
        go_roundw
        case rel => exact ⟨5, by omega, rfl, (H2.out.put 11 (.int .i64 a4)).put 12 (.int .i64 z4)⟩
        case measure => simp [intOf]
      · have H2 : Hid (Dr w wr w.heap.size gs [.int .i64 x6, .int .i64 no, .int .i64 ln, .int .i64 a0, .int .i64 z0, .int .i64 a1, .int .i64 z1, .int .i64 a2, .int .i64 z2, .int .i64 a3, .int .i64 z3, .int .i64 a4, .int .i64 z4, .int .i64 0, .int .i64 0]) := HJ.out
        have la := HX13.out wr H2.out.gw
        have lz := HX14.out wr H2.out.gw
        have c1 : wr.cell? ⟨gs, 13, none⟩ = some (.int .i64 0) := H2.out.r.c 13
        have c2 : wr.cell? ⟨gs, 14, none⟩ = some (.int .i64 0) := H2.out.r.c 14
        have f1 := H2.out.r.f 13
        have f2 := H2.out.r.f 14
        clear HJ HX3 HX4 HX5 HX6 HX7 HX8 HX9 HX10 HX11 HX12 HX13 HX14
        go_wp2_with (first | (go_at_call 31; (with_reducible refine la.mono ?_); rintro e w' ⟨rfl, rfl⟩) | (go_at_call 31; (with_reducible refine lz.mono ?_); rintro e w' ⟨rfl, rfl⟩))
        go_roundw
        case rel => exact ⟨6, by omega, rfl, (H2.out.put 13 (.int .i64 a5)).put 14 (.int .i64 z5)⟩
        case measure => simp [intOf]
      · have H2 : Hid (Dr w wr w.heap.size gs [.int .i64 x6, .int .i64 no, .int .i64 ln, .int .i64 a0, .int .i64 z0, .int .i64 a1, .int .i64 z1, .int .i64 a2, .int .i64 z2, .int .i64 a3, .int .i64 z3, .int .i64 a4, .int .i64 z4, .int .i64 a5, .int .i64 z5]) := HJ.out
        clear HJ HX3 HX4 HX5 HX6 HX7 HX8 HX9 HX10 HX11 HX12 HX13 HX14
        go_wp2_with ((with_reducible refine loadS_here ?_); refine wpList_loadB rfl 26 _ rfl gs rfl H2.out.r Try.underlying26 rfl infoS ?_)
        refine (hR _).mono ?_
        rintro e w3 ⟨rfl, g3⟩
        have H3 : Hid _ := And.intro (H2.out.kept g3) trivial
        clear H2 g3 hR
        cases rq
        · simp only [sp0]
          go_wp2_with ((with_reducible refine storeS_here ?_); refine wpList_storeB rfl 26 _ _ rfl w.heap.size [.int .i64 0, .int .i64 0, .int .i64 0, .int .i64 0, .int .i64 0, .int .i64 0, .int .i64 0, .int .i64 0, .int .i64 0, .int .i64 0, .int .i64 0, .int .i64 0, .int .i64 0, .int .i64 0, .int .i64 0] rfl rfl H3.out.1.z infoS rfl rfl ?_)
          intro W5 B5 G5
          have HQ : Hid _ := grown_new H3.out.1.gw G5 H3.out.1.lz
          obtain ⟨d0, d1, d2, d3, d4, d5, d6, d7, d8, d9, d10, d11, d12, d13, d14⟩ := bx15 B5
          clear B5 G5
          go_wp2
          refine bodyPost_ret (by simp [results, Try.results15, go_sem, d0, d1, d2, d3, d4, d5, d6, d7, d8, d9, d10, d11, d12, d13, d14]; try rfl) rfl ?_
          exact ⟨rfl, HQ.out⟩
        · simp only
          go_wp2_with (first | ((with_reducible refine loadS_here ?_); refine wpList_loadB rfl 26 _ rfl gs rfl H3.out.1.r Try.underlying26 rfl infoS ?_) | ((with_reducible refine storeS_here ?_); refine wpList_storeB rfl 26 _ _ rfl w.heap.size [.int .i64 x6, .int .i64 no, .int .i64 ln, .int .i64 a0, .int .i64 z0, .int .i64 a1, .int .i64 z1, .int .i64 a2, .int .i64 z2, .int .i64 a3, .int .i64 z3, .int .i64 a4, .int .i64 z4, .int .i64 a5, .int .i64 z5] rfl rfl H3.out.1.z infoS rfl rfl ?_))
          intro W5 B5 G5
          have HQ : Hid _ := grown_new H3.out.1.gw G5 H3.out.1.lz
          obtain ⟨d0, d1, d2, d3, d4, d5, d6, d7, d8, d9, d10, d11, d12, d13, d14⟩ := bx15 B5
          clear B5 G5
          go_wp2
          refine bodyPost_ret (by simp [results, Try.results15, go_sem, d0, d1, d2, d3, d4, d5, d6, d7, d8, d9, d10, d11, d12, d13, d14]; try rfl) rfl ?_
          exact ⟨rfl, HQ.out⟩
theorem rdecode13 (a : Option Addr) (len cap : Nat) (bs : List Int) (w : World) (R : Row w a len bs) (hnc : len ≤ cap) (hcm : cap ≤ maxLen) : Calls Try.prog 15 #[.slice a len cap] w fun e w' => e = .returned (.tuple #[(sde bs).1.val, .int .i64 (sde bs).2]) ∧ w.grownBy w' none := by
  unfold sde
  rw [R.len_eq]
  by_cases h : len < 68
  · rw [if_pos h]; exact rdecode13_short a len cap w h
  · rw [if_neg h]
    obtain ⟨b, o, rfl, -⟩ := R.cells (by omega)
    cases ho : opn bs
    · rw [if_pos rfl]; exact rdecode13_no b o len cap bs w R (by omega) hnc hcm ho
    · rw [if_neg (by decide)]
      by_cases hs : le ((bs.drop 64).take 4) = (crc ent 0 (bs.take 64) : Nat)
      · rw [if_pos hs]
        have := rdecode13_rest b o len cap bs w R (by omega) hnc hcm ho hs
        cases hr : srt (srd bs)
        · rw [hr, if_neg (by decide), if_neg (by decide)] at this
          rw [if_neg (by decide)]; exact this
        · rw [hr, if_pos rfl, if_pos rfl] at this
          rw [if_pos rfl]; exact this
      · rw [if_neg hs]; exact rdecode13_sum b o len cap bs w R (by omega) hnc hcm ho hs
end Go.Proofs.Ytaedcblphcfkfaa
