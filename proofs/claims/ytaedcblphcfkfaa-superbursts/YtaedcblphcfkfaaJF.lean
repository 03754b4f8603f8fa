/- The program's super: the head of bytes; where streams lie; a block's bytes. -/
import Derived.Test.YtaedcblphcfkfaaJE
namespace Go.Proofs.Ytaedcblphcfkfaa
open Go.RowKit
set_option linter.unusedSimpArgs false
set_option linter.unusedVariables false

/-- the answer's variable -/
structure Dz (w W : World) (gz : Nat) : Prop where
  z : Bx W gz 26 [.int .i64 0, .int .i64 0, .int .i64 0, .int .i64 0, .int .i64 0, .int .i64 0, .int .i64 0, .int .i64 0, .int .i64 0, .int .i64 0, .int .i64 0, .int .i64 0, .int .i64 0, .int .i64 0, .int .i64 0]
  gw : w.grownBy W none
  lz : w.heap.size ≤ gz
theorem Dz.kept {w W W' : World} {gz : Nat} (h : Dz w W gz) (k : W.grownBy W' none) : Dz w W' gz := ⟨h.z.kept k, grown_trans h.gw k, h.lz⟩
theorem Dz.new (w : World) : Dz w (w.alloc (.cells #[.int .i64 0, .int .i64 0, .int .i64 0, .int .i64 0, .int .i64 0, .int .i64 0, .int .i64 0, .int .i64 0, .int .i64 0, .int .i64 0, .int .i64 0, .int .i64 0, .int .i64 0, .int .i64 0, .int .i64 0] 26)) w.heap.size := ⟨Bx.new _ _ _, World.grownBy_alloc _ _ _, Nat.le_refl _⟩
set_option maxHeartbeats 2000000 in
theorem pdecode13_short (a : Option Addr) (len cap : Nat) (w : World) (h : len < 68) : Calls Try.prog 14 #[.slice a len cap] w fun e w' => e = .returned (.tuple #[sp0.val, .int .i64 6]) ∧ w.grownBy w' none := by
  simp only [Sp.val, sp0]
  have hd : decide ((len : Int) < 68) = true := decide_eq_true (by omega)
  have H0 : Hid _ := Dz.new w
  clear h
  go_enter Try.func14, Try.ntmps14
  go_wp2_with ((with_reducible refine storeS_here ?_); refine wpList_storeB rfl 26 _ _ rfl w.heap.size [.int .i64 0, .int .i64 0, .int .i64 0, .int .i64 0, .int .i64 0, .int .i64 0, .int .i64 0, .int .i64 0, .int .i64 0, .int .i64 0, .int .i64 0, .int .i64 0, .int .i64 0, .int .i64 0, .int .i64 0] rfl rfl H0.out.z infoS rfl rfl ?_)
  intro W5 B5 G5
  have HQ : Hid _ := grown_new H0.out.gw G5 H0.out.lz
  obtain ⟨d0, d1, d2, d3, d4, d5, d6, d7, d8, d9, d10, d11, d12, d13, d14⟩ := bx15 B5
  clear B5 G5
  go_wp2
  refine bodyPost_ret (by simp [results, Try.results14, go_sem, d0, d1, d2, d3, d4, d5, d6, d7, d8, d9, d10, d11, d12, d13, d14]; try rfl) rfl ?_
  exact ⟨rfl, HQ.out⟩
set_option maxHeartbeats 2000000 in
theorem pdecode13_no (b o len cap : Nat) (bs : List Int) (w : World) (R : Row w (some ⟨b, o, none⟩) len bs) (h : 68 ≤ len) (hnc : len ≤ cap) (hcm : cap ≤ maxLen) (ho : opn bs = false) : Calls Try.prog 14 #[.slice (some ⟨b, o, none⟩) len cap] w fun e w' => e = .returned (.tuple #[sp0.val, .int .i64 6]) ∧ w.grownBy w' none := by
  have R64 : Row w (some ⟨b, o, none⟩) 64 (bs.take 64) := by have := R.part 0 64 (by omega); simpa using this
  have hO := fun W (R' : Row W (some ⟨b, o, none⟩) len bs) => popens_any b o len cap bs W R' h hnc hcm
  have hb4 := le4 R.byt 64
  have hlb := R.len_eq
  have hF := fun W (R' : Row W (some ⟨b, o, none⟩) len bs) => pfields13 b o len cap bs W R' h hnc hcm
  have hK := fun W => pcheck13_any (srd bs) W
  have hcl := crc_lt ent 0 (bs.take 64)
  have hG : Hid (∀ W, Row W (some ⟨b, o, none⟩) len bs → Calls Try.prog 29 #[.slice (some ⟨b, o, none⟩) len cap, .int .i64 64, .int .i64 4] W fun e w' => e = .returned (.tuple #[.int .u64 (le ((bs.drop 64).take 4)), .int .i64 0]) ∧ W = w') := fun W R' => by
    obtain ⟨b', o', e, hc⟩ := R'.cells (by omega)
    injection e with e
    injection e with e1 e2
    subst e1 e2
    exact get_in b o len cap bs 64 4 W R'.le R'.len_eq R'.byt rfl (by omega) hc
  rw [ho] at hO
  simp only [Sp.val, sp0]
  clear hb4 hF hK hcl hG
  have J0 := Dz.new w
  have H0 : Hid _ := And.intro J0 (And.intro (R.grown J0.gw) (R64.grown J0.gw))
  have hd : decide ((len : Int) < 68) = false := decide_eq_false (by omega)
  have hc1 : ¬ (cap : Int) < 64 := by omega
  have hc2 : (64 : Int) ≤ (cap : Int) := by omega
  unfold maxLen at hcm
  clear J0 R R64 h hnc hlb
  go_enter Try.func14, Try.ntmps14
  go_wp2_with fail
  refine (hO _ H0.out.2.1).mono ?_
  rintro e w1 ⟨rfl, g1⟩
  have H1 : Hid _ := And.intro (H0.out.1.kept g1) (And.intro (H0.out.2.1.grown g1) (H0.out.2.2.grown g1))
  clear H0 g1 hO
  go_wp2_with ((with_reducible refine storeS_here ?_); refine wpList_storeB rfl 26 _ _ rfl w.heap.size [.int .i64 0, .int .i64 0, .int .i64 0, .int .i64 0, .int .i64 0, .int .i64 0, .int .i64 0, .int .i64 0, .int .i64 0, .int .i64 0, .int .i64 0, .int .i64 0, .int .i64 0, .int .i64 0, .int .i64 0] rfl rfl H1.out.1.z infoS rfl rfl ?_)
  intro W5 B5 G5
  have HQ : Hid _ := grown_new H1.out.1.gw G5 H1.out.1.lz
  obtain ⟨d0, d1, d2, d3, d4, d5, d6, d7, d8, d9, d10, d11, d12, d13, d14⟩ := bx15 B5
  clear B5 G5
  go_wp2
  refine bodyPost_ret (by simp [results, Try.results14, go_sem, d0, d1, d2, d3, d4, d5, d6, d7, d8, d9, d10, d11, d12, d13, d14]; try rfl) rfl ?_
  exact ⟨rfl, HQ.out⟩
set_option maxHeartbeats 2000000 in
theorem pdecode13_sum (b o len cap : Nat) (bs : List Int) (w : World) (R : Row w (some ⟨b, o, none⟩) len bs) (h : 68 ≤ len) (hnc : len ≤ cap) (hcm : cap ≤ maxLen) (ho : opn bs = true) (hs : ¬ le ((bs.drop 64).take 4) = (crc ent 0 (bs.take 64) : Nat)) : Calls Try.prog 14 #[.slice (some ⟨b, o, none⟩) len cap] w fun e w' => e = .returned (.tuple #[sp0.val, .int .i64 140]) ∧ w.grownBy w' none := by
  have R64 : Row w (some ⟨b, o, none⟩) 64 (bs.take 64) := by have := R.part 0 64 (by omega); simpa using this
  have hO := fun W (R' : Row W (some ⟨b, o, none⟩) len bs) => popens_any b o len cap bs W R' h hnc hcm
  have hb4 := le4 R.byt 64
  have hlb := R.len_eq
  have hF := fun W (R' : Row W (some ⟨b, o, none⟩) len bs) => pfields13 b o len cap bs W R' h hnc hcm
  have hK := fun W => pcheck13_any (srd bs) W
  have hcl := crc_lt ent 0 (bs.take 64)
  have hG : Hid (∀ W, Row W (some ⟨b, o, none⟩) len bs → Calls Try.prog 29 #[.slice (some ⟨b, o, none⟩) len cap, .int .i64 64, .int .i64 4] W fun e w' => e = .returned (.tuple #[.int .u64 (le ((bs.drop 64).take 4)), .int .i64 0]) ∧ W = w') := fun W R' => by
    obtain ⟨b', o', e, hc⟩ := R'.cells (by omega)
    injection e with e
    injection e with e1 e2
    subst e1 e2
    exact get_in b o len cap bs 64 4 W R'.le R'.len_eq R'.byt rfl (by omega) hc
  rw [ho] at hO
  simp only [Sp.val, sp0]
  clear hF hK
  have hx : ∀ x : Int, 0 ≤ x → x < 4294967296 → IntKind.u32.wrap x = x := fun x h0 h1 => by rw [IntKind.wrap_u32]; omega
  have wx := hx _ hb4.1 hb4.2
  clear hx
  generalize bs.take 64 = t64 at *
  generalize le ((bs.drop 64).take 4) = x at *
  clear hb4
  have J0 := Dz.new w
  have H0 : Hid _ := And.intro J0 (And.intro (R.grown J0.gw) (R64.grown J0.gw))
  have hd : decide ((len : Int) < 68) = false := decide_eq_false (by omega)
  have hc1 : ¬ (cap : Int) < 64 := by omega
  have hc2 : (64 : Int) ≤ (cap : Int) := by omega
  unfold maxLen at hcm
  clear J0 R R64 h hnc hlb
  go_enter Try.func14, Try.ntmps14
  go_wp2_with fail
  refine (hO _ H0.out.2.1).mono ?_
  rintro e w1 ⟨rfl, g1⟩
  have H1 : Hid _ := And.intro (H0.out.1.kept g1) (And.intro (H0.out.2.1.grown g1) (H0.out.2.2.grown g1))
  clear H0 g1 hO
  go_wp2_with fail
  refine (hG.out _ H1.out.2.1).mono ?_
  rintro e w1' ⟨rfl, rfl⟩
  go_wp2_with fail
  refine (crc_nil _ 64 cap _ _ H1.out.2.2).mono ?_
  rintro e w2 ⟨rfl, g2⟩
  have H2 : Hid _ := And.intro (H1.out.1.kept g2) (H1.out.2.1.grown g2)
  clear H1 g2 hG wx hc1 hc2
  go_wp2_with ((with_reducible refine storeS_here ?_); refine wpList_storeB rfl 26 _ _ rfl w.heap.size [.int .i64 0, .int .i64 0, .int .i64 0, .int .i64 0, .int .i64 0, .int .i64 0, .int .i64 0, .int .i64 0, .int .i64 0, .int .i64 0, .int .i64 0, .int .i64 0, .int .i64 0, .int .i64 0, .int .i64 0] rfl rfl H2.out.1.z infoS rfl rfl ?_)
  intro W5 B5 G5
  have HQ : Hid _ := grown_new H2.out.1.gw G5 H2.out.1.lz
  obtain ⟨d0, d1, d2, d3, d4, d5, d6, d7, d8, d9, d10, d11, d12, d13, d14⟩ := bx15 B5
  clear B5 G5
  go_wp2
  refine bodyPost_ret (by simp [results, Try.results14, go_sem, d0, d1, d2, d3, d4, d5, d6, d7, d8, d9, d10, d11, d12, d13, d14]; try rfl) rfl ?_
  exact ⟨rfl, HQ.out⟩
set_option maxHeartbeats 2000000 in
theorem pdecode13_bad (b o len cap : Nat) (bs : List Int) (w : World) (R : Row w (some ⟨b, o, none⟩) len bs) (h : 68 ≤ len) (hnc : len ≤ cap) (hcm : cap ≤ maxLen) (ho : opn bs = true) (hs : le ((bs.drop 64).take 4) = (crc ent 0 (bs.take 64) : Nat)) (hr : srt (srd bs) = false) : Calls Try.prog 14 #[.slice (some ⟨b, o, none⟩) len cap] w fun e w' => e = .returned (.tuple #[sp0.val, .int .i64 6]) ∧ w.grownBy w' none := by
  have R64 : Row w (some ⟨b, o, none⟩) 64 (bs.take 64) := by have := R.part 0 64 (by omega); simpa using this
  have hO := fun W (R' : Row W (some ⟨b, o, none⟩) len bs) => popens_any b o len cap bs W R' h hnc hcm
  have hb4 := le4 R.byt 64
  have hlb := R.len_eq
  have hF := fun W (R' : Row W (some ⟨b, o, none⟩) len bs) => pfields13 b o len cap bs W R' h hnc hcm
  have hK := fun W => pcheck13_any (srd bs) W
  have hcl := crc_lt ent 0 (bs.take 64)
  have hG : Hid (∀ W, Row W (some ⟨b, o, none⟩) len bs → Calls Try.prog 29 #[.slice (some ⟨b, o, none⟩) len cap, .int .i64 64, .int .i64 4] W fun e w' => e = .returned (.tuple #[.int .u64 (le ((bs.drop 64).take 4)), .int .i64 0]) ∧ W = w') := fun W R' => by
    obtain ⟨b', o', e, hc⟩ := R'.cells (by omega)
    injection e with e
    injection e with e1 e2
    subst e1 e2
    exact get_in b o len cap bs 64 4 W R'.le R'.len_eq R'.byt rfl (by omega) hc
  rw [ho] at hO
  unfold pck at hK
  rw [hr] at hK
  first | rw [if_neg (by decide)] at hK | rw [if_pos rfl] at hK
  have hx : ∀ x : Int, 0 ≤ x → x < 4294967296 → IntKind.u32.wrap x = x := fun x h0 h1 => by rw [IntKind.wrap_u32]; omega
  have wx := hx _ hb4.1 hb4.2
  clear hx
  rw [hs] at hG wx
  clear hb4 hs hr
  generalize bs.take 64 = t64 at *
  generalize srd bs = s at *
  obtain ⟨lg, no, ln, a0, z0, a1, z1, a2, z2, a3, z3, a4, z4, a5, z5⟩ := s
  simp only [Sp.val, sp0] at *
  have wx2 : Hid (IntKind.u32.wrap (crc ent 0 t64 : Nat) = (crc ent 0 t64 : Nat)) := wx
  have J0 := Dz.new w
  have H0 : Hid _ := And.intro J0 (And.intro (R.grown J0.gw) (R64.grown J0.gw))
  have hd : decide ((len : Int) < 68) = false := decide_eq_false (by omega)
  have hc1 : ¬ (cap : Int) < 64 := by omega
  have hc2 : (64 : Int) ≤ (cap : Int) := by omega
  unfold maxLen at hcm
  clear J0 R R64 h hnc hlb
  go_enter Try.func14, Try.ntmps14
  go_wp2_with fail
  refine (hO _ H0.out.2.1).mono ?_
  rintro e w1 ⟨rfl, g1⟩
  have H1 : Hid _ := And.intro (H0.out.1.kept g1) (And.intro (H0.out.2.1.grown g1) (H0.out.2.2.grown g1))
  clear H0 g1 hO
  go_wp2_with fail
  refine (hG.out _ H1.out.2.1).mono ?_
  rintro e w1' ⟨rfl, rfl⟩
  go_wp2_with fail
  refine (crc_nil _ 64 cap _ _ H1.out.2.2).mono ?_
  rintro e w2 ⟨rfl, g2⟩
  have H2 : Hid _ := And.intro (H1.out.1.kept g2) (H1.out.2.1.grown g2)
  clear H1 g2 hG wx hc1 hc2
  go_wp2_with fail
  refine (hF _ H2.out.2).mono ?_
  rintro e w3 ⟨rfl, g3⟩
  have gA := World.grownBy_alloc w3 (.cells #[.int .i64 lg, .int .i64 no, .int .i64 ln, .int .i64 a0, .int .i64 z0, .int .i64 a1, .int .i64 z1, .int .i64 a2, .int .i64 z2, .int .i64 a3, .int .i64 z3, .int .i64 a4, .int .i64 z4, .int .i64 a5, .int .i64 z5] 26) none
  have H3 : Hid _ := And.intro ((H2.out.1.kept g3).kept gA) (Bx.new w3 26 [.int .i64 lg, .int .i64 no, .int .i64 ln, .int .i64 a0, .int .i64 z0, .int .i64 a1, .int .i64 z1, .int .i64 a2, .int .i64 z2, .int .i64 a3, .int .i64 z3, .int .i64 a4, .int .i64 z4, .int .i64 a5, .int .i64 z5])
  clear H2 g3 gA hF
  go_wp2_with ((with_reducible refine loadS_here ?_); refine wpList_loadB rfl 26 _ rfl w3.heap.size rfl H3.out.2 Try.underlying26 rfl infoS ?_)
  generalize w3.alloc (.cells #[.int .i64 lg, .int .i64 no, .int .i64 ln, .int .i64 a0, .int .i64 z0, .int .i64 a1, .int .i64 z1, .int .i64 a2, .int .i64 z2, .int .i64 a3, .int .i64 z3, .int .i64 a4, .int .i64 z4, .int .i64 a5, .int .i64 z5] 26) = W3 at *
  generalize w3.heap.size = gs at *
  refine (hK _).mono ?_
  rintro e w4 ⟨rfl, g4⟩
  have H4 : Hid _ := And.intro (H3.out.1.kept g4) (H3.out.2.kept g4)
  clear H3 g4 hK
  go_wp2_with ((with_reducible refine storeS_here ?_); refine wpList_storeB rfl 26 _ _ rfl w.heap.size [.int .i64 0, .int .i64 0, .int .i64 0, .int .i64 0, .int .i64 0, .int .i64 0, .int .i64 0, .int .i64 0, .int .i64 0, .int .i64 0, .int .i64 0, .int .i64 0, .int .i64 0, .int .i64 0, .int .i64 0] rfl rfl H4.out.1.z infoS rfl rfl ?_)
  intro W5 B5 G5
  have HQ : Hid _ := grown_new H4.out.1.gw G5 H4.out.1.lz
  obtain ⟨d0, d1, d2, d3, d4, d5, d6, d7, d8, d9, d10, d11, d12, d13, d14⟩ := bx15 B5
  clear B5 G5
  go_wp2
  refine bodyPost_ret (by simp [results, Try.results14, go_sem, d0, d1, d2, d3, d4, d5, d6, d7, d8, d9, d10, d11, d12, d13, d14]; try rfl) rfl ?_
  exact ⟨rfl, HQ.out⟩
set_option maxHeartbeats 2000000 in
theorem pdecode13_ok (b o len cap : Nat) (bs : List Int) (w : World) (R : Row w (some ⟨b, o, none⟩) len bs) (h : 68 ≤ len) (hnc : len ≤ cap) (hcm : cap ≤ maxLen) (ho : opn bs = true) (hs : le ((bs.drop 64).take 4) = (crc ent 0 (bs.take 64) : Nat)) (hr : srt (srd bs) = true) : Calls Try.prog 14 #[.slice (some ⟨b, o, none⟩) len cap] w fun e w' => e = .returned (.tuple #[(srd bs).val, .int .i64 0]) ∧ w.grownBy w' none := by
  have R64 : Row w (some ⟨b, o, none⟩) 64 (bs.take 64) := by have := R.part 0 64 (by omega); simpa using this
  have hO := fun W (R' : Row W (some ⟨b, o, none⟩) len bs) => popens_any b o len cap bs W R' h hnc hcm
  have hb4 := le4 R.byt 64
  have hlb := R.len_eq
  have hF := fun W (R' : Row W (some ⟨b, o, none⟩) len bs) => pfields13 b o len cap bs W R' h hnc hcm
  have hK := fun W => pcheck13_any (srd bs) W
  have hcl := crc_lt ent 0 (bs.take 64)
  have hG : Hid (∀ W, Row W (some ⟨b, o, none⟩) len bs → Calls Try.prog 29 #[.slice (some ⟨b, o, none⟩) len cap, .int .i64 64, .int .i64 4] W fun e w' => e = .returned (.tuple #[.int .u64 (le ((bs.drop 64).take 4)), .int .i64 0]) ∧ W = w') := fun W R' => by
    obtain ⟨b', o', e, hc⟩ := R'.cells (by omega)
    injection e with e
    injection e with e1 e2
    subst e1 e2
    exact get_in b o len cap bs 64 4 W R'.le R'.len_eq R'.byt rfl (by omega) hc
  rw [ho] at hO
  unfold pck at hK
  rw [hr] at hK
  first | rw [if_neg (by decide)] at hK | rw [if_pos rfl] at hK
  have hx : ∀ x : Int, 0 ≤ x → x < 4294967296 → IntKind.u32.wrap x = x := fun x h0 h1 => by rw [IntKind.wrap_u32]; omega
  have wx := hx _ hb4.1 hb4.2
  clear hx
  rw [hs] at hG wx
  clear hb4 hs hr
  generalize bs.take 64 = t64 at *
  generalize srd bs = s at *
  obtain ⟨lg, no, ln, a0, z0, a1, z1, a2, z2, a3, z3, a4, z4, a5, z5⟩ := s
  simp only [Sp.val, sp0] at *
  have wx2 : Hid (IntKind.u32.wrap (crc ent 0 t64 : Nat) = (crc ent 0 t64 : Nat)) := wx
  have J0 := Dz.new w
  have H0 : Hid _ := And.intro J0 (And.intro (R.grown J0.gw) (R64.grown J0.gw))
  have hd : decide ((len : Int) < 68) = false := decide_eq_false (by omega)
  have hc1 : ¬ (cap : Int) < 64 := by omega
  have hc2 : (64 : Int) ≤ (cap : Int) := by omega
  unfold maxLen at hcm
  clear J0 R R64 h hnc hlb
  go_enter Try.func14, Try.ntmps14
  go_wp2_with fail
  refine (hO _ H0.out.2.1).mono ?_
  rintro e w1 ⟨rfl, g1⟩
  have H1 : Hid _ := And.intro (H0.out.1.kept g1) (And.intro (H0.out.2.1.grown g1) (H0.out.2.2.grown g1))
  clear H0 g1 hO
  go_wp2_with fail
  refine (hG.out _ H1.out.2.1).mono ?_
  rintro e w1' ⟨rfl, rfl⟩
  go_wp2_with fail
  refine (crc_nil _ 64 cap _ _ H1.out.2.2).mono ?_
  rintro e w2 ⟨rfl, g2⟩
  have H2 : Hid _ := And.intro (H1.out.1.kept g2) (H1.out.2.1.grown g2)
  clear H1 g2 hG wx hc1 hc2
  go_wp2_with fail
  refine (hF _ H2.out.2).mono ?_
  rintro e w3 ⟨rfl, g3⟩
  have gA := World.grownBy_alloc w3 (.cells #[.int .i64 lg, .int .i64 no, .int .i64 ln, .int .i64 a0, .int .i64 z0, .int .i64 a1, .int .i64 z1, .int .i64 a2, .int .i64 z2, .int .i64 a3, .int .i64 z3, .int .i64 a4, .int .i64 z4, .int .i64 a5, .int .i64 z5] 26) none
  have H3 : Hid _ := And.intro ((H2.out.1.kept g3).kept gA) (Bx.new w3 26 [.int .i64 lg, .int .i64 no, .int .i64 ln, .int .i64 a0, .int .i64 z0, .int .i64 a1, .int .i64 z1, .int .i64 a2, .int .i64 z2, .int .i64 a3, .int .i64 z3, .int .i64 a4, .int .i64 z4, .int .i64 a5, .int .i64 z5])
  clear H2 g3 gA hF
  go_wp2_with ((with_reducible refine loadS_here ?_); refine wpList_loadB rfl 26 _ rfl w3.heap.size rfl H3.out.2 Try.underlying26 rfl infoS ?_)
  generalize w3.alloc (.cells #[.int .i64 lg, .int .i64 no, .int .i64 ln, .int .i64 a0, .int .i64 z0, .int .i64 a1, .int .i64 z1, .int .i64 a2, .int .i64 z2, .int .i64 a3, .int .i64 z3, .int .i64 a4, .int .i64 z4, .int .i64 a5, .int .i64 z5] 26) = W3 at *
  generalize w3.heap.size = gs at *
  refine (hK _).mono ?_
  rintro e w4 ⟨rfl, g4⟩
  have H4 : Hid _ := And.intro (H3.out.1.kept g4) (H3.out.2.kept g4)
  clear H3 g4 hK
  go_wp2_with (first | ((with_reducible refine loadS_here ?_); refine wpList_loadB rfl 26 _ rfl gs rfl H4.out.2 Try.underlying26 rfl infoS ?_) | ((with_reducible refine storeS_here ?_); refine wpList_storeB rfl 26 _ _ rfl w.heap.size [.int .i64 lg, .int .i64 no, .int .i64 ln, .int .i64 a0, .int .i64 z0, .int .i64 a1, .int .i64 z1, .int .i64 a2, .int .i64 z2, .int .i64 a3, .int .i64 z3, .int .i64 a4, .int .i64 z4, .int .i64 a5, .int .i64 z5] rfl rfl H4.out.1.z infoS rfl rfl ?_))
  intro W5 B5 G5
  have HQ : Hid _ := grown_new H4.out.1.gw G5 H4.out.1.lz
  obtain ⟨d0, d1, d2, d3, d4, d5, d6, d7, d8, d9, d10, d11, d12, d13, d14⟩ := bx15 B5
  clear B5 G5
  go_wp2
  refine bodyPost_ret (by simp [results, Try.results14, go_sem, d0, d1, d2, d3, d4, d5, d6, d7, d8, d9, d10, d11, d12, d13, d14]; try rfl) rfl ?_
  exact ⟨rfl, HQ.out⟩
theorem pdecode13 (a : Option Addr) (len cap : Nat) (bs : List Int) (w : World) (R : Row w a len bs) (hnc : len ≤ cap) (hcm : cap ≤ maxLen) : Calls Try.prog 14 #[.slice a len cap] w fun e w' => e = .returned (.tuple #[(sde bs).1.val, .int .i64 (sde bs).2]) ∧ w.grownBy w' none := by
  unfold sde
  rw [R.len_eq]
  by_cases h : len < 68
  · rw [if_pos h]; exact pdecode13_short a len cap w h
  · rw [if_neg h]
    obtain ⟨b, o, rfl, -⟩ := R.cells (by omega)
    cases ho : opn bs
    · rw [if_pos rfl]; exact pdecode13_no b o len cap bs w R (by omega) hnc hcm ho
    · rw [if_neg (by decide)]
      by_cases hs : le ((bs.drop 64).take 4) = (crc ent 0 (bs.take 64) : Nat)
      · rw [if_pos hs]
        cases hr : srt (srd bs)
        · rw [if_neg (by decide)]; exact pdecode13_bad b o len cap bs w R (by omega) hnc hcm ho hs hr
        · rw [if_pos rfl]; exact pdecode13_ok b o len cap bs w R (by omega) hnc hcm ho hs hr
      · rw [if_neg hs]; exact pdecode13_sum b o len cap bs w R (by omega) hnc hcm ho hs
/-- Block, as a plain function -/
def blk13 (s : Sp) : Int := if srt s = true then 2 ^ s.lg.toNat else 0
theorem pow_lg {lg : Int} (h : 12 ≤ lg ∧ lg ≤ 20) : ∃ k : Nat, lg = k ∧ 12 ≤ k ∧ k ≤ 20 := ⟨lg.toNat, by omega, by omega, by omega⟩
set_option maxHeartbeats 2000000 in
theorem pblock_any (s : Sp) (w : World) : Calls Try.prog 12 #[s.val] w fun e w' => e = .returned (.int .i64 (blk13 s)) ∧ w.grownBy w' none := by
  have hK := fun W => pcheck13_any s W
  unfold pck at hK
  unfold blk13
  have B0 := Bx.new w 26 s.cells
  have H0 : Hid _ := And.intro B0 (World.grownBy_alloc w (.cells s.cells.toArray 26) none)
  cases hr : srt s
  · rw [hr, if_neg (by decide)] at hK
    rw [if_neg (by decide)]
    clear hr
    obtain ⟨lg, no, ln, a0, z0, a1, z1, a2, z2, a3, z3, a4, z4, a5, z5⟩ := s
    simp only [Sp.val, Sp.cells] at *
    clear B0
    go_enter Try.func12, Try.ntmps12
    go_wp2_with ((with_reducible refine loadS_here ?_); refine wpList_loadB rfl 26 _ rfl w.heap.size rfl H0.out.1 Try.underlying26 rfl infoS ?_)
    refine (hK _).mono ?_
    rintro e w1 ⟨rfl, g1⟩
    have H1 : Hid _ := grown_trans H0.out.2 g1
    clear H0 g1 hK
    go_wp2
    go_ret
    exact ⟨rfl, H1.out⟩
  · have hl := (srt_iff.1 hr).1
    unfold Hok at hl
    rw [hr, if_pos rfl] at hK
    rw [if_pos rfl]
    clear hr
    obtain ⟨lg, no, ln, a0, z0, a1, z1, a2, z2, a3, z3, a4, z4, a5, z5⟩ := s
    simp only [Sp.val, Sp.cells] at *
    clear B0
    obtain ⟨k, rfl, k0, k1⟩ := pow_lg ⟨hl.1, hl.2.1⟩
    clear hl
    go_enter Try.func12, Try.ntmps12
    go_wp2_with ((with_reducible refine loadS_here ?_); refine wpList_loadB rfl 26 _ rfl w.heap.size rfl H0.out.1 Try.underlying26 rfl infoS ?_)
    refine (hK _).mono ?_
    rintro e w1 ⟨rfl, g1⟩
    have H1 : Hid _ := And.intro (H0.out.1.kept g1) (grown_trans H0.out.2 g1)
    clear H0 g1 hK
    have d0 : w1.cell? ⟨w.heap.size, 0, none⟩ = some (.int .i64 (k : Int)) := H1.out.1.c 0
    rcases (by omega : k = 12 ∨ k = 13 ∨ k = 14 ∨ k = 15 ∨ k = 16 ∨ k = 17 ∨ k = 18 ∨ k = 19 ∨ k = 20) with rfl | rfl | rfl | rfl | rfl | rfl | rfl | rfl | rfl
    all_goals
      clear k0 k1
      go_wp2
      go_ret
      exact ⟨rfl, H1.out.2⟩
/-- Area, as a plain function -/
def are (s : Sp) (i : Int) : Int × Int × Int := if srt s = true then (if i < 0 ∨ 6 ≤ i then (0, 0, 9) else ([s.a0, s.a1, s.a2, s.a3, s.a4, s.a5, s.ln].getD i.toNat 0, [s.a0, s.a1, s.a2, s.a3, s.a4, s.a5, s.ln].getD (i.toNat + 1) 0, 0)) else (0, 0, 1)
set_option maxHeartbeats 4000000 in
theorem parea_any (s : Sp) (i : Int) (w : World) : Calls Try.prog 16 #[s.val, .int .i64 i] w fun e w' => e = .returned (.tuple #[.int .i64 (are s i).1, .int .i64 (are s i).2.1, .int .i64 (are s i).2.2]) ∧ w.grownBy w' none := by
  have hK := fun W => pcheck13_any s W
  have hB := fun W => pbounds_any s W
  unfold pck at hK
  unfold are
  have H0 : Hid _ := And.intro (Bx.new w 26 s.cells) (World.grownBy_alloc w (.cells s.cells.toArray 26) none)
  cases hr : srt s
  · rw [hr, if_neg (by decide)] at hK
    rw [if_neg (by decide)]
    clear hr hB
    obtain ⟨lg, no, ln, a0, z0, a1, z1, a2, z2, a3, z3, a4, z4, a5, z5⟩ := s
    simp only [Sp.val, Sp.cells] at *
    go_enter Try.func16, Try.ntmps16
    go_wp2_with ((with_reducible refine loadS_here ?_); refine wpList_loadB rfl 26 _ rfl w.heap.size rfl H0.out.1 Try.underlying26 rfl infoS ?_)
    refine (hK _).mono ?_
    rintro e w1 ⟨rfl, g1⟩
    have H1 : Hid _ := grown_trans H0.out.2 g1
    clear H0 g1 hK
    go_wp2
    go_returns
    exact ⟨rfl, H1.out⟩
  · rw [hr, if_pos rfl] at hK
    rw [if_pos rfl]
    clear hr
    obtain ⟨lg, no, ln, a0, z0, a1, z1, a2, z2, a3, z3, a4, z4, a5, z5⟩ := s
    simp only [Sp.val, Sp.cells] at *
    by_cases c0 : i < 0
    · rw [if_pos (Or.inl c0)]
      clear hB
      go_enter Try.func16, Try.ntmps16
      go_wp2_with ((with_reducible refine loadS_here ?_); refine wpList_loadB rfl 26 _ rfl w.heap.size rfl H0.out.1 Try.underlying26 rfl infoS ?_)
      refine (hK _).mono ?_
      rintro e w1 ⟨rfl, g1⟩
      have H1 : Hid _ := grown_trans H0.out.2 g1
      clear H0 g1 hK
      go_wp2
      go_returns
      exact ⟨rfl, H1.out⟩
    · by_cases c1 : 6 ≤ i
      · rw [if_pos (Or.inr c1)]
        clear hB
        go_enter Try.func16, Try.ntmps16
        go_wp2_with ((with_reducible refine loadS_here ?_); refine wpList_loadB rfl 26 _ rfl w.heap.size rfl H0.out.1 Try.underlying26 rfl infoS ?_)
        refine (hK _).mono ?_
        rintro e w1 ⟨rfl, g1⟩
        have H1 : Hid _ := grown_trans H0.out.2 g1
        clear H0 g1 hK
        go_wp2
        go_returns
        exact ⟨rfl, H1.out⟩
      · rw [if_neg (by omega)]
        rcases (by omega : i = 0 ∨ i = 1 ∨ i = 2 ∨ i = 3 ∨ i = 4 ∨ i = 5) with rfl | rfl | rfl | rfl | rfl | rfl
        all_goals
          clear c0 c1
          go_enter Try.func16, Try.ntmps16
          go_wp2_with ((with_reducible refine loadS_here ?_); refine wpList_loadB rfl 26 _ rfl w.heap.size rfl H0.out.1 Try.underlying26 rfl infoS ?_)
          refine (hK _).mono ?_
          rintro e w1 ⟨rfl, g1⟩
          have H1 : Hid _ := And.intro (H0.out.1.kept g1) (grown_trans H0.out.2 g1)
          clear H0 g1 hK
          go_wp2_with ((with_reducible refine loadS_here ?_); refine wpList_loadB rfl 26 _ rfl w.heap.size rfl H1.out.1 Try.underlying26 rfl infoS ?_)
          refine (hB _).mono ?_
          rintro e w2 ⟨rfl, g2⟩
          have H2 : Hid _ := And.intro (Bx.new w2 58 [.int .i64 a0, .int .i64 a1, .int .i64 a2, .int .i64 a3, .int .i64 a4, .int .i64 a5, .int .i64 ln]) (grown_trans (grown_trans H1.out.2 g2) (World.grownBy_alloc w2 (.cells #[.int .i64 a0, .int .i64 a1, .int .i64 a2, .int .i64 a3, .int .i64 a4, .int .i64 a5, .int .i64 ln] 58) none))
          clear H1 g2 hB
          go_wp2_with fail
          generalize w2.alloc (.cells #[.int .i64 a0, .int .i64 a1, .int .i64 a2, .int .i64 a3, .int .i64 a4, .int .i64 a5, .int .i64 ln] 58) = W2 at *
          generalize w2.heap.size = gl at *
          have e0 : ∀ n, (W2.drewN n).cell? ⟨gl, 0, none⟩ = some (.int .i64 a0) := fun n => (H2.out.1.drewN n).c 0
          have e1 : ∀ n, (W2.drewN n).cell? ⟨gl, 1, none⟩ = some (.int .i64 a1) := fun n => (H2.out.1.drewN n).c 1
          have e2 : ∀ n, (W2.drewN n).cell? ⟨gl, 2, none⟩ = some (.int .i64 a2) := fun n => (H2.out.1.drewN n).c 2
          have e3 : ∀ n, (W2.drewN n).cell? ⟨gl, 3, none⟩ = some (.int .i64 a3) := fun n => (H2.out.1.drewN n).c 3
          have e4 : ∀ n, (W2.drewN n).cell? ⟨gl, 4, none⟩ = some (.int .i64 a4) := fun n => (H2.out.1.drewN n).c 4
          have e5 : ∀ n, (W2.drewN n).cell? ⟨gl, 5, none⟩ = some (.int .i64 a5) := fun n => (H2.out.1.drewN n).c 5
          have e6 : ∀ n, (W2.drewN n).cell? ⟨gl, 6, none⟩ = some (.int .i64 ln) := fun n => (H2.out.1.drewN n).c 6
          go_quiet (fail)
          go_wp2
          go_returns
          exact ⟨rfl, grown_trans H2.out.2 (grown_drewN _ _)⟩
end Go.Proofs.Ytaedcblphcfkfaa
