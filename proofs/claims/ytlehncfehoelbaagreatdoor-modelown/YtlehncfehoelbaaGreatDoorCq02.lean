/- The document's Join. -/
import Derived.WalkKit
import Derived.OrdersHeld
import Derived.KernelRfl
import Derived.Laws.CopyOwn
import Derived.Laws.BytesArg
import Derived.OpenShut
import Derived.Test.YtlehncfehoelbaaGreatDoorCq01
namespace Go.Proofs.YtlehncfehoelbaaGreatDoor
open Go.RowKit
set_option maxRecDepth 100000
set_option linter.unusedSimpArgs false
set_option linter.unusedVariables false
theorem bad_any (s : ByteArray) : ∀ k, k ≤ s.size → bad s k = (s.toList.take k).any fun c => c == 47 || c == 0
 | 0, _ => rfl
 | k + 1, h => by
  rw [bad_succ, take_get (by omega), List.any_append, bad_any s k (by omega)]
  congr 1
  rw [← byt_in (by omega)]
  simp only [List.any_cons, List.any_nil, Bool.or_false]
  congr 1
  ·rw [Bool.eq_iff_iff, beq_iff_eq, beq_iff_eq]; exact ⟨fun h => UInt8.toNat_inj.1 h, fun h => by rw [h]; rfl⟩
  ·rw [Bool.eq_iff_iff, beq_iff_eq, beq_iff_eq]; exact ⟨fun h => UInt8.toNat_inj.1 h, fun h => by rw [h]; rfl⟩
theorem val_vld (s : ByteArray) : val s = vld s.toList := by
 unfold val vld
 rw [tl_len, bad_any s s.size (Nat.le_refl _), List.take_of_length_le (by rw [tl_len]; exact Nat.le_refl _)]
theorem tx_app (a b : Tx) : tx a ++ tx b = tx (a ++ b) := by
 apply tl_inj
 rw [tx_tl, ByteArray.toList_eq]
 simp [tx]
theorem tx_app2 (a : Tx) (x : ByteArray) : tx a ++ x = tx (a ++ x.toList) := by rw [← tx_app, tl_tx]
theorem tx_size (a : Tx) : (tx a).size = a.length := by rw [← tl_len, tx_tl]
theorem joi_len (l : List Tx) (m : Nat) (h : ∀ p ∈ l, p.length ≤ m) : (joi l).length ≤ l.length * (m + 1) := by
 induction l with
 | nil => simp [joi]
 | cons p r ih =>
  have h1 := h p (List.mem_cons_self ..)
  have h2 := ih (fun q hq => h q (List.mem_cons_of_mem _ hq))
  cases r with
  | nil => simp [joi]; omega
  | cons q t =>
   rw [joi, List.length_append, List.length_cons, List.length_cons, Nat.succ_mul]
   omega
set_option maxHeartbeats 2000000 in
theorem rjoin_any (a : Option Addr) (n c : Nat) (l : List ByteArray) (w : World) (R : SRow w a n l) (hn : n ≤ 1000000) (hl : ∀ i, (l.getD i ⟨#[]⟩).size ≤ 5000) :
  Calls Tryz.prog 88 #[.slice a n c] w fun e w' => e = .returned (.tuple #[.string (tx (jnp (tls l)).1), .int .i64 (jnp (tls l)).2]) ∧ ∃ n, w' = w.drewN n := by
 have hln : (tls l).length = n := by rw [tls_len]; exact R.len_eq
 by_cases hm : 128 < n
 ·have e : jnp (tls l) = ([], 3) := by unfold jnp; rw [hln, if_pos hm]
  rw [e]
  have hmi : (128 : Int) < n := by omega
  go_enter Tryz.func88, Tryz.ntmps88
  go_wp2
  go_ret2
  exact ⟨rfl, 0, rfl⟩
 ·have hmi : ¬ (128 : Int) < n := by omega
  have HJ : Hid (jnp (tls l) = if (tls l).any (fun p => !prt p) then ([], 1) else if 4096 < (joi (tls l)).length then ([], 2) else (joi (tls l), 0)) := by
   show jnp (tls l) = _
   unfold jnp; rw [hln, if_neg hm]
  have HB : Hid (∀ p ∈ tls l, p.length ≤ 5000) := by
   intro p hp
   obtain ⟨x, hx, rfl⟩ := List.mem_map.1 hp
   obtain ⟨i, hi, rfl⟩ := List.getElem_of_mem hx
   have := hl i
   rw [tl_len]
   simpa [List.getD_eq_getElem?_getD, hi] using this
  generalize hT : tls l = T at *
  have HT : Hid _ := And.intro hT hln
  have HR : Hid _ := And.intro R hl
  clear R hl hT hln
  go_enter Tryz.func88, Tryz.ntmps88
  go_wp2
  go_loopw [4, 5] (fun vs vi wr => ∃ k : Nat, k ≤ n ∧ vi = .int .i64 k ∧ vs = .string (tx (joi (T.take k))) ∧ Hid ((T.take k).any (fun p => !prt p) = false) ∧ ∃ t, wr = w.drewN t) (fun _ vi _ => n - (intOf vi).toNat)
  case atStart => exact ⟨0, Nat.zero_le _, rfl, rfl, rfl, 0, rfl⟩
  case round =>
   obtain ⟨k, hk, rfl, rfl, HP, t, rfl⟩ := hrel
   by_cases hlt : k < n
   ·obtain ⟨b1, o1, rfl, c1⟩ := HR.out.1.cells (by omega)
    have hx := c1 k hlt
    have hsz := HR.out.2 k
    have hTk : T.take (k + 1) = T.take k ++ [(l.getD k ⟨#[]⟩).toList] := by
     rw [List.take_succ_eq_append_getElem (by rw [HT.out.2]; exact hlt)]
     congr 2
     have hkl : k < l.length := by rw [HR.out.1.len_eq]; exact hlt
     simp only [← HT.out.1, tls, List.getElem_map, List.getD_eq_getElem?_getD, List.getElem?_eq_getElem hkl, Option.getD_some]
    generalize l.getD k ⟨#[]⟩ = x at *
    have hJl : (joi (T.take k)).length ≤ 640128 := by
     have h1 := joi_len (T.take k) 5000 (fun p hp => HB.out p (List.mem_of_mem_take hp))
     have h2 : (T.take k).length ≤ 128 := by rw [List.length_take]; omega
     exact Nat.le_trans h1 (Nat.le_trans (Nat.mul_le_mul_right _ h2) (by decide))
    have hv := fun W => rvalid_any x W hsz
    rw [val_vld] at hv
    have HTK : Hid _ := hTk
    clear hTk c1
    have hlti : (k : Int) < n := by omega
    have hjs : (tx (joi (T.take k))).size ≤ 640128 := by rw [tx_size]; exact hJl
    cases hpr : prt x.toList with
    | false =>
     have HV : Hid (jnp T = ([], 1)) := by
      show jnp T = ([], 1)
      rw [HJ.out, if_pos]
      rw [List.any_eq_true]
      refine ⟨x.toList, List.mem_of_mem_take (i := k + 1) ?_, by rw [hpr]; rfl⟩
      rw [HTK.out]; simp
     have hp2 : (x.toList == [46, 46]) = false ∧ vld x.toList = false := by unfold prt at hpr; rwa [Bool.or_eq_false_iff] at hpr
     obtain ⟨hx2, hvv⟩ := hp2
     rw [hvv] at hv
     clear hpr hvv HTK HP
     go_wp2_with (go_at_call 87; refine (hv _).mono ?_; rintro e w' ⟨rfl, rfl⟩)
     go_ret2
     exact ⟨by rw [HV.out]; rfl, _, rfl⟩
    | true =>
     have HP2 : Hid ((T.take (k + 1)).any (fun p => !prt p) = false) := by
      show (T.take (k + 1)).any (fun p => !prt p) = false
      rw [HTK.out, List.any_append, HP.out]; simp [hpr]
     have hp2 : (x.toList == [46, 46]) = true ∨ ((x.toList == [46, 46]) = false ∧ vld x.toList = true) := by
      unfold prt at hpr
      cases h : (x.toList == [46, 46]) with
      | true => exact Or.inl rfl
      | false => rw [h, Bool.false_or] at hpr; exact Or.inr ⟨rfl, hpr⟩
     clear hpr HP
     have HS : Hid (tx (joi (T.take (k + 1))) = if k = 0 then x else tx (joi (T.take k)) ++ ⟨#[47]⟩ ++ x) := by
      show tx (joi (T.take (k + 1))) = _
      by_cases hk0 : k = 0
      ·rw [if_pos hk0, HTK.out, hk0]
       simp only [List.take_zero, List.nil_append, joi]
       exact tl_tx x
      ·rw [if_neg hk0, HTK.out, joi_snoc _ _ (by intro e; have := congrArg List.length e; rw [List.length_take, HT.out.2] at this; simp at this; omega)]
       rw [show (⟨#[47]⟩ : ByteArray) = tx [47] from rfl, tx_app, tx_app2]
       simp
     clear HTK
     generalize hJ2 : tx (joi (T.take k)) = S0 at *
     by_cases hk0 : k = 0
     ·have hS0 : S0 = ⟨#[]⟩ := by rw [← hJ2, hk0]; rfl
      have hs1 := HS.out
      rw [if_pos hk0] at hs1
      have HS1 : Hid _ := hs1
      clear hs1 HS hJ2 hJl
      have hki : ¬ (0 : Int) < k := by omega
      clear hk0
      subst hS0
      rcases hp2 with hx2 | ⟨hx2, hvv⟩
      ·go_wp2_with (go_at_call 87; refine (hv _).mono ?_; rintro e w' ⟨rfl, rfl⟩)
       go_roundw
       case rel => exact ⟨k + 1, by omega, by go_num, by rw [HS1.out]; try rfl, HP2, _, rfl⟩
       case measure => simp [intOf]; omega
      ·rw [hvv] at hv
       go_wp2_with (go_at_call 87; refine (hv _).mono ?_; rintro e w' ⟨rfl, rfl⟩)
       go_roundw
       case rel => exact ⟨k + 1, by omega, by go_num, by rw [HS1.out]; try rfl, HP2, _, rfl⟩
       case measure => simp [intOf]; omega
     ·have hki : (0 : Int) < k := by omega
      have hs1 := HS.out
      rw [if_neg hk0] at hs1
      have HS1 : Hid _ := hs1
      clear hs1 HS hJ2 hJl hk0
      rcases hp2 with hx2 | ⟨hx2, hvv⟩
      ·go_wp2_with (go_at_call 87; refine (hv _).mono ?_; rintro e w' ⟨rfl, rfl⟩)
       go_roundw
       case rel => exact ⟨k + 1, by omega, by go_num, by rw [HS1.out]; try rfl, HP2, _, rfl⟩
       case measure => simp [intOf]; omega
      ·rw [hvv] at hv
       go_wp2_with (go_at_call 87; refine (hv _).mono ?_; rintro e w' ⟨rfl, rfl⟩)
       go_roundw
       case rel => exact ⟨k + 1, by omega, by go_num, by rw [HS1.out]; try rfl, HP2, _, rfl⟩
       case measure => simp [intOf]; omega
   ·have ek : k = n := by omega
    subst ek
    have hTT : T.take k = T := List.take_of_length_le (by rw [HT.out.2]; exact Nat.le_refl _)
    rw [hTT] at HP
    rw [hTT]
    have HJ2 : Hid (jnp T = if 4096 < (joi T).length then ([], 2) else (joi T, 0)) := by
     show jnp T = _
     rw [HJ.out, HP.out, if_neg (by decide)]
    have hsz : (tx (joi T)).size = (joi T).length := tx_size _
    clear HJ HP hTT
    by_cases h4 : 4096 < (joi T).length
    ·have HV : Hid (jnp T = ([], 2)) := by
      show jnp T = _
      rw [HJ2.out, if_pos h4]
     have h4i : (4096 : Int) < ((tx (joi T)).size : Nat) := by rw [hsz]; omega
     clear HJ2 hsz h4
     generalize tx (joi T) = S0 at *
     go_wp2
     go_ret2
     exact ⟨by rw [HV.out]; rfl, _, rfl⟩
    ·have HV : Hid (jnp T = (joi T, 0)) := by
      show jnp T = _
      rw [HJ2.out, if_neg h4]
     have h4i : ¬ (4096 : Int) < ((tx (joi T)).size : Nat) := by rw [hsz]; omega
     clear HJ2 hsz h4
     have HV1 : Hid (tx (jnp T).1 = tx (joi T)) := by
      show tx (jnp T).1 = tx (joi T)
      rw [HV.out]
     have HV2 : Hid ((jnp T).2 = 0) := by
      show (jnp T).2 = 0
      rw [HV.out]
     generalize tx (joi T) = S0 at *
     go_wp2
     go_ret2
     exact ⟨by rw [HV1.out, HV2.out]; rfl, _, rfl⟩
end Go.Proofs.YtlehncfehoelbaaGreatDoor
namespace Go.Proofs.YtlehncfehoelbaaGreatDoor
open Go.RowKit
set_option maxRecDepth 100000
structure Atr where
 n : Tx
 v : List Int
structure En where
 path : Tx
 k : Int
 mode : Int
 uid : Int
 gid : Int
 time : Int
 size : Int
 data : List Int
 target : Tx
 dev : Int
 attrs : List Atr
def lsl (p : Tx) : Nat → Option Nat
 | 0 => none
 | k + 1 => if p.getD k 0 = 47 then some k else lsl p k
theorem lsl_lt {p : Tx} {k i : Nat} (h : lsl p k = some i) : i < k := by
 induction k with
 | zero => simp [lsl] at h
 | succ k ih =>
  unfold lsl at h
  split at h
  ·injection h with h; omega
  ·have := ih h; omega
def upT (p : Tx) : Tx := match lsl p p.length with
 | none => []
 | some i => p.take i
def lastT (p : Tx) : Tx := match lsl p p.length with
 | none => p
 | some i => p.drop (i + 1)
def inI (n low high : Int) : Bool := decide (low ≤ n) && decide (n ≤ high)
def txt (s : Tx) (low high : Int) : Bool := inI s.length low high && !(s.any (· == 0))
def pth (x : En) : Int :=
 if x.path = [] then (if x.k = 2 then 0 else 6) else
 if (spl x.path).2 ≠ 0 then 6 else if (spl x.path).1.any (fun p => !vld p) then 6 else
 if (jnp (spl x.path).1).2 ≠ 0 ∨ (jnp (spl x.path).1).1 ≠ x.path then 6 else if 64 < (spl x.path).1.length then 3 else 0
def twice (l : List Atr) (i : Nat) : Bool := (List.range i).any fun j => (List.range j).any fun k => (l[k]?.map (·.n)) == (l[j]?.map (·.n))
def fld (x : En) : Int :=
 if !inI x.mode 0 4095 || !inI x.uid 0 4294967295 || !inI x.gid 0 4294967295 || !inI x.time 0 4294967295 then 1 else
 if (decide (x.k = 1) && !inI x.size x.data.length 1099511627775) || (decide (x.k = 3) && !txt x.target 1 4096) || (decide (3 < x.k) && !inI x.dev 0 4294967295) || decide (64 < x.attrs.length) then 1 else
 if x.attrs.any (fun a => !txt a.n 1 255 || decide (4096 < a.v.length)) then 1 else
 if twice x.attrs x.attrs.length then 110 else 0
def folder (l : List En) (p : Tx) : Bool := l.any fun y => decide (y.path = p) && decide (y.k = 2)
def thing (l : List En) (p : Tx) : Bool := l.any fun y => decide (y.path = p) && inI y.k 1 5 && decide (y.k ≠ 2)
def ent11 (l : List En) (i : Nat) (x : En) : Int :=
 if !inI x.k 1 6 then 8 else if pth x ≠ 0 then pth x else if (l.take i).any (fun y => decide (y.path = x.path)) then 110 else
 if !(decide (upT x.path = []) || folder l (upT x.path)) || (decide (x.k = 6) && !thing l x.target) then 4 else if x.k = 6 then 0 else fld x
def sums (l : List En) : Int := (l.map fun x => if x.k = 1 then (x.data.length : Int) else 0).foldl (· + ·) 0
def fault (l : List En) : List En → Nat → Int × Int
 | [], _ => (0, 0)
 | x :: r, i => if ent11 l i x ≠ 0 then (i, ent11 l i x) else fault l r (i + 1)
def chk11 (l : List En) : Int × Int := if 16384 < l.length then (0, 3) else if 8388608 < sums l then (0, 2) else fault l l 0
end Go.Proofs.YtlehncfehoelbaaGreatDoor
namespace Go.Proofs.YtlehncfehoelbaaGreatDoor
open Go.RowKit
set_option maxRecDepth 100000
set_option linter.unusedSimpArgs false
set_option linter.unusedVariables false
theorem in_any (n lo hi : Int) (w : World) : Calls Tryz.prog 58 #[.int .i64 n, .int .i64 lo, .int .i64 hi] w fun e w' => e = .returned (.bool (inI n lo hi)) ∧ w = w' := by
 unfold inI
 by_cases h : lo ≤ n
 ·by_cases k : n ≤ hi
  ·rw [decide_eq_true h, decide_eq_true k]
   go_enter Tryz.func58, Tryz.ntmps58
   go_wp2
   go_ret
   exact ⟨rfl, rfl⟩
  ·rw [decide_eq_true h, decide_eq_false k]
   go_enter Tryz.func58, Tryz.ntmps58
   go_wp2
   go_ret
   exact ⟨rfl, rfl⟩
 ·rw [decide_eq_false h, Bool.false_and]
  go_enter Tryz.func58, Tryz.ntmps58
  go_wp2
  go_ret
  exact ⟨rfl, rfl⟩
theorem lsl_hit {s : ByteArray} {k : Nat} (h : k < s.size) (e : s[k].toNat = 47) : lsl s.toList (k + 1) = some k := by
 have e2 : s.toList.getD k 0 = 47 := by
  rw [List.getD_eq_getElem?_getD, List.getElem?_eq_getElem (by rw [tl_len]; exact h), tl_get h]
  apply UInt8.toNat_inj.1
  exact e
 rw [lsl, if_pos e2]
theorem lsl_miss {s : ByteArray} {k : Nat} (h : k < s.size) (e : s[k].toNat ≠ 47) : lsl s.toList (k + 1) = lsl s.toList k := by
 have e2 : ¬ s.toList.getD k 0 = 47 := by
  rw [List.getD_eq_getElem?_getD, List.getElem?_eq_getElem (by rw [tl_len]; exact h), tl_get h]
  intro e3
  apply e
  have e4 : s[k] = 47 := e3
  rw [e4]
  rfl
 rw [lsl, if_neg e2]
set_option maxHeartbeats 1000000 in
theorem up_any (s : ByteArray) (w : World) (hs : s.size ≤ 1000000) : Calls Tryz.prog 40 #[.string s] w fun e w' => e = .returned (.string (tx (upT s.toList))) ∧ w = w' := by
 go_enter Tryz.func40, Tryz.ntmps40
 go_wp2
 go_loop [3] (fun i => ∃ k : Nat, k ≤ s.size ∧ i = .int .i64 ((k : Int) - 1) ∧ Hid (lsl s.toList s.size = lsl s.toList k)) (fun i => (intOf i + 1).toNat)
 case atStart => exact ⟨s.size, Nat.le_refl _, by go_num, rfl⟩
 case round =>
  obtain ⟨k, hk, rfl, HB⟩ := hrel
  cases k with
  | zero =>
   have HV : Hid (upT s.toList = []) := by
    show upT s.toList = []
    unfold upT
    rw [tl_len, HB.out]
    rfl
   go_wp2
   go_ret
   exact ⟨by rw [HV.out]; rfl, rfl⟩
  | succ k =>
   have hlt : k < s.size := by omega
   have hki : ((k + 1 : Nat) : Int) - 1 = k := by omega
   rw [hki]
   clear hki
   cases h5 : ((s[k].toNat : Int) == 47) with
   | true =>
    have e5 : s[k].toNat = 47 := by have h5' : (s[k].toNat : Int) = 47 := eq_of_beq h5; omega
    have HV : Hid (tx (upT s.toList) = s.extract 0 k) := by
     show tx (upT s.toList) = s.extract 0 k
     unfold upT
     rw [tl_len, HB.out, lsl_hit hlt e5, extract_tx]
     rfl
    clear e5 HB
    go_wp2
    go_ret
    exact ⟨by rw [HV.out]; rfl, rfl⟩
   | false =>
    have e5 : s[k].toNat ≠ 47 := by intro e; rw [e] at h5; simp at h5
    have HV : Hid (lsl s.toList s.size = lsl s.toList k) := by
     show lsl s.toList s.size = lsl s.toList k
     rw [HB.out, lsl_miss hlt e5]
    clear e5 HB
    go_wp2
    go_round
    case rel => exact ⟨k, by omega, by go_num, HV⟩
    case measure => first | (simp [intOf]; done) | (simp [intOf]; omega)
set_option maxHeartbeats 1000000 in
theorem last_any (s : ByteArray) (w : World) (hs : s.size ≤ 1000000) : Calls Tryz.prog 41 #[.string s] w fun e w' => e = .returned (.string (tx (lastT s.toList))) ∧ w = w' := by
 go_enter Tryz.func41, Tryz.ntmps41
 go_wp2
 go_loop [3] (fun i => ∃ k : Nat, k ≤ s.size ∧ i = .int .i64 ((k : Int) - 1) ∧ Hid (lsl s.toList s.size = lsl s.toList k)) (fun i => (intOf i + 1).toNat)
 case atStart => exact ⟨s.size, Nat.le_refl _, by go_num, rfl⟩
 case round =>
  obtain ⟨k, hk, rfl, HB⟩ := hrel
  cases k with
  | zero =>
   have HV : Hid (lastT s.toList = s.toList) := by
    show lastT s.toList = s.toList
    unfold lastT
    rw [tl_len, HB.out]
    rfl
   go_wp2
   go_ret
   exact ⟨by rw [HV.out, tl_tx]; rfl, rfl⟩
  | succ k =>
   have hlt : k < s.size := by omega
   have hki : ((k + 1 : Nat) : Int) - 1 = k := by omega
   rw [hki]
   clear hki
   cases h5 : ((s[k].toNat : Int) == 47) with
   | true =>
    have e5 : s[k].toNat = 47 := by have h5' : (s[k].toNat : Int) = 47 := eq_of_beq h5; omega
    have HV : Hid (tx (lastT s.toList) = s.extract (k + 1) s.size) := by
     show tx (lastT s.toList) = s.extract (k + 1) s.size
     unfold lastT
     rw [tl_len, HB.out, lsl_hit hlt e5, extract_tx, List.take_of_length_le (by rw [List.length_drop, tl_len]; omega)]
    clear e5 HB
    go_wp2
    go_ret
    exact ⟨by rw [HV.out]; rfl, rfl⟩
   | false =>
    have e5 : s[k].toNat ≠ 47 := by intro e; rw [e] at h5; simp at h5
    have HV : Hid (lsl s.toList s.size = lsl s.toList k) := by
     show lsl s.toList s.size = lsl s.toList k
     rw [HB.out, lsl_miss hlt e5]
    clear e5 HB
    go_wp2
    go_round
    case rel => exact ⟨k, by omega, by go_num, HV⟩
    case measure => first | (simp [intOf]; done) | (simp [intOf]; omega)
theorem nul_any (s : ByteArray) : s.toList.any (· == 0) = nul s s.size := by
 unfold nul
 rw [Bool.eq_iff_iff, List.any_eq_true, List.any_eq_true]
 constructor
 ·rintro ⟨x, hx, e⟩
  obtain ⟨i, hi, rfl⟩ := List.getElem_of_mem hx
  rw [tl_len] at hi
  refine ⟨i, List.mem_range.2 hi, ?_⟩
  rw [tl_get hi] at e
  have e2 : s[i] = 0 := eq_of_beq e
  rw [← byt_in hi, e2]
  rfl
 ·rintro ⟨i, hi, e⟩
  have hi' : i < s.size := List.mem_range.1 hi
  refine ⟨s[i], by rw [← tl_get hi']; exact List.getElem_mem _, ?_⟩
  rw [← byt_in hi'] at e
  have e2 : s[i].toNat = 0 := eq_of_beq e
  have e3 : s[i] = 0 := by apply UInt8.toNat_inj.1; exact e2
  rw [e3]
  rfl
set_option maxHeartbeats 1000000 in
theorem text_any (s : ByteArray) (lo hi : Int) (w : World) (hs : s.size ≤ 1000000) : Calls Tryz.prog 89 #[.string s, .int .i64 lo, .int .i64 hi] w fun e w' => e = .returned (.bool (txt s.toList lo hi)) ∧ w = w' := by
 have hv := fun W => in_any (s.size : Int) lo hi W
 have HE : Hid (txt s.toList lo hi = (inI s.size lo hi && !nul s s.size)) := by
  show txt s.toList lo hi = _
  unfold txt
  rw [nul_any, tl_len]
 cases hin : inI (s.size : Int) lo hi with
 | false =>
  rw [hin] at hv HE
  go_enter Tryz.func89, Tryz.ntmps89
  go_wp2_with (go_at_call 58; refine (hv _).mono ?_; rintro e w' ⟨rfl, rfl⟩)
  go_ret
  exact ⟨by rw [HE.out]; rfl, rfl⟩
 | true =>
  rw [hin] at hv HE
  go_enter Tryz.func89, Tryz.ntmps89
  go_wp2_with (go_at_call 58; refine (hv _).mono ?_; rintro e w' ⟨rfl, rfl⟩)

  go_loop [7] (fun i => ∃ k : Nat, k ≤ s.size ∧ i = .int .i64 k ∧ Hid (nul s k = false)) (fun i => s.size - (intOf i).toNat)
  case atStart => exact ⟨0, Nat.zero_le _, rfl, rfl⟩
  case round =>
   obtain ⟨k, hk, rfl, HB⟩ := hrel
   by_cases hlt : k < s.size
   ·have hbn := nul_succ s k
    rw [HB.out, ← byt_in hlt] at hbn
    have HN : Hid _ := hbn
    clear hbn
    cases h6 : ((s[k].toNat : Int) == 0) with
    | true =>
     have e5 : s[k].toNat = 0 := by have h5' : (s[k].toNat : Int) = 0 := eq_of_beq h6; omega
     have HV : Hid (txt s.toList lo hi = false) := by
      show txt s.toList lo hi = false
      rw [HE.out, nul_mono (k := k + 1) (by rw [HN.out]; simp [e5]) (by omega)]; rfl
     clear e5
     go_wp2
     go_ret
     exact ⟨by rw [HV.out]; rfl, rfl⟩
    | false =>
     have e6 : s[k].toNat ≠ 0 := by intro e; rw [e] at h6; simp at h6
     have HV : Hid (nul s (k + 1) = false) := by
      show nul s (k + 1) = false
      rw [HN.out]; simp [e6]
     clear e6
     go_wp2
     go_round
     case rel => exact ⟨k + 1, by omega, by go_num, HV⟩
     case measure => simp [intOf]; omega
   ·obtain rfl : k = s.size := by omega
    go_wp2
    go_ret
    exact ⟨by rw [HE.out, HB.out]; rfl, rfl⟩
end Go.Proofs.YtlehncfehoelbaaGreatDoor
namespace Go.Proofs.YtlehncfehoelbaaGreatDoor
open Go.RowKit
set_option maxRecDepth 100000
def lg (n : Int) : Int := if n = 1 then 255 else if n = 2 then 65535 else if n = 4 then 4294967295 else if n = 8 then 18446744073709551615 else 0
def le : List Int → Int
 | [] => 0
 | b :: r => b + 256 * le r
def Byt (bs : List Int) : Prop := ∀ n ∈ bs, 0 ≤ n ∧ n ≤ 255
theorem Byt.getD {bs : List Int} (h : Byt bs) (i : Nat) : 0 ≤ bs.getD i 0 ∧ bs.getD i 0 ≤ 255 := by
 rcases Nat.lt_or_ge i bs.length with hi | hi
 ·rw [List.getD_eq_getElem?_getD, List.getElem?_eq_getElem hi]; exact h _ (List.getElem_mem hi)
 ·rw [List.getD_eq_getElem?_getD, List.getElem?_eq_none hi]; decide
theorem Byt.take {bs : List Int} (h : Byt bs) (n : Nat) : Byt (bs.take n) := fun x hx => h x (List.mem_of_mem_take hx)
theorem Byt.drop {bs : List Int} (h : Byt bs) (n : Nat) : Byt (bs.drop n) := fun x hx => h x (List.mem_of_mem_drop hx)
theorem Byt.append {a b : List Int} (h : Byt a) (k : Byt b) : Byt (a ++ b) := fun x hx => (List.mem_append.1 hx).elim (h x) (k x)

structure Row (w : World) (a : Option Addr) (len : Nat) (bs : List Int) : Prop where
 len_eq : bs.length = len
 le : len ≤ maxLen
 byt : Byt bs
 cells : 0 < len → ∃ b off, a = some ⟨b, off, none⟩ ∧ ∀ i, i < len → w.cell? ⟨b, off + i, none⟩ = some (.int .u8 (bs.getD i 0))

theorem cell_lt {w : World} {b o : Nat} {v : Value} (h : w.cell? ⟨b, o, none⟩ = some v) : b < w.heap.size := by
 rcases Nat.lt_or_ge b w.heap.size with h1 | h1
 ·exact h1
 ·simp [World.cell?, Array.getElem?_eq_none h1] at h

theorem Row.below {w w' : World} {a : Option Addr} {len : Nat} {bs : List Int} (h : Row w a len bs) (hb : Below w.heap.size w w') : Row w' a len bs := by
 refine ⟨h.len_eq, h.le, h.byt, fun h0 => ?_⟩
 obtain ⟨b, off, e, hc⟩ := h.cells h0
 exact ⟨b, off, e, fun i hi => by rw [hb.cell (p := ⟨b, off + i, none⟩) (cell_lt (hc i hi))]; exact hc i hi⟩
def bv (bs : List Int) : List Value := bs.map (Value.int .u8)
theorem bv_length (bs : List Int) : (bv bs).length = bs.length := by simp [bv]
theorem bv_append (a b : List Int) : bv (a ++ b) = bv a ++ bv b := by simp [bv]
theorem bv_getElem? (bs : List Int) (i : Nat) (h : i < bs.length) : (bv bs)[i]? = some (.int .u8 (bs.getD i 0)) := by
 simp [bv, List.getElem?_eq_getElem h]
theorem bv_one (bs : List Int) : ∀ v ∈ bv bs, v.oneCell' = true := ints_oneCell _ _

def Blk (w : World) (g : Nat) (cur : List Value) : Prop := w.heap[g]? = some (.cells cur.toArray 5 (0, 0))

theorem Blk.lt {w : World} {g : Nat} {cur : List Value} (h : Blk w g cur) : g < w.heap.size := (Array.getElem?_eq_some_iff.1 h).1
theorem Blk.cell {w : World} {g : Nat} {cur : List Value} (h : Blk w g cur) (i : Nat) : w.cell? ⟨g, i, none⟩ = cur[i]? := by
 unfold Blk at h; simp [World.cell?, h]
theorem Blk.frozen {w : World} {g : Nat} {cur : List Value} (h : Blk w g cur) (i : Nat) : w.frozen? ⟨g, i, none⟩ = false := by
 unfold Blk at h; simp [World.frozen?, h]
theorem Blk.set {w : World} {g : Nat} {cur : List Value} (h : Blk w g cur) (i : Nat) (v : Value) : Blk (w.setCell ⟨g, i, none⟩ v) g (cur.set i v) := by
 unfold Blk at h ⊢
 rw [setCell_eq_setRow w g i _ _ _ v h, setRow_heap w g _ _ _ _ h]
 simp
theorem Blk.grown {w w' : World} {g : Nat} {cur : List Value} {row : Option Nat} (h : Blk w g cur) (hg : w.grownBy w' row) (hr : some g ≠ row) : Blk w' g cur := by
 unfold Blk; rw [hg.block g h.lt hr]; exact h
theorem Blk.below {w w' : World} {g B : Nat} {cur : List Value} (h : Blk w g cur) (hb : Below B w w') (hr : g < B) : Blk w' g cur := by
 unfold Blk; rw [hb.block g hr]; exact h
theorem Blk.row {w : World} {g : Nat} {bs : List Int} (h : Blk w g (bv bs)) (hb : Byt bs) (hl : bs.length ≤ maxLen) : Row w (some ⟨g, 0, none⟩) bs.length bs :=
 ⟨rfl, hl, hb, fun _ => ⟨g, 0, rfl, fun i hi => by rw [h.cell, Nat.zero_add, bv_getElem? _ _ hi]⟩⟩
theorem grown_trans {a b c : World} {row : Option Nat} (h : a.grownBy b row) (k : b.grownBy c row) : a.grownBy c row :=
 ⟨k.os.trans h.os, k.tape.trans h.tape, k.output.trans h.output, Nat.le_trans h.size k.size, fun i hi hr => (k.block i (Nat.lt_of_lt_of_le hi h.size) hr).trans (h.block i hi hr)⟩
theorem grown_set (w : World) (g i : Nat) (v : Value) : w.grownBy (w.setCell ⟨g, i, none⟩ v) (some g) :=
 ⟨rfl, rfl, rfl, by simp [World.setCell], fun k _ hr => Below.heap_setCell _ _ _ _ (fun e => hr (by rw [e]))⟩
theorem size_set (w : World) (p : Addr) (v : Value) : (w.setCell p v).heap.size = w.heap.size := by simp [World.setCell]

theorem splice_nil (cur : List Value) (o : Nat) : splice cur o [] = cur := by simp [splice]

theorem Row.grown {w w' : World} {a : Option Addr} {len : Nat} {bs : List Int} (h : Row w a len bs) (hg : w.grownBy w' none) : Row w' a len bs :=
 h.below ⟨hg.os, hg.tape, hg.output, hg.size, fun k hk => hg.block k hk (by simp)⟩
theorem Row.src {w : World} {a : Option Addr} {len : Nat} {bs : List Int} (h : Row w a len bs) (h0 : 0 < (bv bs).length) : ∃ ad, a = some ad ∧ ∀ j v, (bv bs)[j]? = some v → w.cell? (ad.add j) = some v := by
 rw [bv_length, h.len_eq] at h0
 obtain ⟨b, off, e, hc⟩ := h.cells h0
 refine ⟨_, e, fun j v hj => ?_⟩
 have hjl : j < bs.length := by
  rcases Nat.lt_or_ge j bs.length with h | h
  ·exact h
  ·rw [List.getElem?_eq_none (by rw [bv_length]; exact h)] at hj; cases hj
 have hadd : (⟨b, off, none⟩ : Addr).add j = ⟨b, off + j, none⟩ := by unfold Addr.add; split <;> simp_all
 rw [hadd, hc j (by rw [← h.len_eq]; exact hjl), ← bv_getElem? _ _ hjl]
 exact hj

theorem wpList_make8 {P : Program} (w : World) {ops : Array Oper} {rest : List Oper} {o : Oper} {a : Act} {Q : Exit → Act → World → Prop}
  (hg : o.guard = none) (l c : Operand) (t : TypeId) (hop : o.op = Op.makeSlice t l c)
  (i : TypeInfo) (h1 : P.underlying t = some (.slice 5)) (h2 : P.info? 5 = some i) (h3 : i.zero = some (.int .u8 0)) (_h4 : i.size = 1) (h5 : i.bytes = 1)
  (kl kc : IntKind) (L C : Int) (n : Nat) (hl : a.eval l = .int kl L) (hc : a.eval c = .int kc C) (hL : L = (n : Int)) (hC : C = (n : Int)) (b2 : n ≤ 281474976710656)
  (hK : ∀ w', Blk w' w.heap.size (List.replicate n (.int .u8 0)) → w.grownBy w' none → w'.heap.size = w.heap.size + 1 → wpList P ops Q rest (a.put o.dst (.slice (some ⟨w.heap.size, 0, none⟩) n n)) w') :
  wpList P ops Q (o :: rest) a w := by
 refine wpList_plain hg fun K hK' => ?_
 have hr := run_make (P := P) w t 5 i _ h1 h2 h3 kl kc n n (by omega) (Int.le_refl _) (by rw [h5]; omega) (by omega)
 simp only [Int.toNat_natCast] at hr
 subst hL
 subst hC
 unfold Oper.wp
 simp [execOp, hop, hl, hc, hr, Result.andThen]
 refine hK' _ _ (hK _ ?_ (World.grownBy_alloc w _ none) (by simp))
 unfold Blk
 rw [heap_alloc_new]
 have e := toList_madeCells_one (.int .u8 0) n
 have : (madeCells (Value.int IntKind.u8 0).cells (n * i.size)) = (List.replicate n (Value.int .u8 0)).toArray := by
  rw [_h4, Nat.mul_one, ← e]; simp [Value.cells]
 simp [this]

theorem wpList_copy8 {P : Program} {w : World} {ops : Array Oper} {rest : List Oper} {o : Oper} {a : Act} {Q : Exit → Act → World → Prop} (hgd : o.guard = none) (d s : Operand) (dT sT : TypeId)
  (ho : o.op = .call { callee := .builtin .copy, args := #[d, s], argTypes := #[dT, sT] }) (hu : P.underlying dT = some (.slice 5)) (hsz : (P.info? 5).map (·.size) = some 1)
  (dp sp : Option Addr) (dLen dCap sLen sCap : Nat) (hd : a.eval d = .slice dp dLen dCap) (hs : a.eval s = .slice sp sLen sCap)
  (g off : Nat) (cur : List Value) (hg : Blk w g cur) (cs : List Value) (hn : cs.length = Nat.min sLen dLen)
  (hpos : 0 < cs.length → dp = some ⟨g, off, none⟩ ∧ ∃ ad, sp = some ad ∧ ∀ j v, cs[j]? = some v → w.cell? (ad.add j) = some v)
  (hfit : off + cs.length ≤ cur.length) (h1 : ∀ v ∈ cs, v.oneCell' = true)
  (h : ∀ w', Blk w' g (splice cur off cs) → w.grownBy w' (some g) → w'.heap.size = w.heap.size → wpList P ops Q rest (a.put o.dst (goInt cs.length)) w') :
  wpList P ops Q (o :: rest) a w := by
 by_cases h0 : cs.length = 0
 ·obtain rfl : cs = [] := List.eq_nil_of_length_eq_zero h0
  refine wpList_copy_nothing hgd d s dT sT ho 5 hu hsz dp sp dLen dCap sLen sCap hd hs (by simpa using hn.symm) ?_
  exact h w (by rw [splice_nil]; exact hg) (World.grownBy.refl _ _) rfl
 ·obtain ⟨rfl, ad, rfl, hsrc⟩ := hpos (by omega)
  refine wpList_copy_own hgd d s dT sT ho 5 hu hsz g off dLen dCap ad sLen sCap hd hs cur.toArray 5 hg cs hn hsrc (by simpa using hfit) h1 ?_
  refine h _ ?_ ⟨rfl, rfl, rfl, by simp [World.setRow], fun k _ hk => setRow_other w g k _ (fun e => hk (by rw [e]))⟩ (by simp [World.setRow])
  unfold Blk
  simpa [splice] using setRow_heap w g _ _ 5 _ hg
theorem copy_here {P : Program} {w : World} {ops : Array Oper} {rest : List Oper} {a : Act} {Q : Exit → Act → World → Prop} {dst : Option Nat} {args : Array Operand} {argTypes : Array TypeId} {type : TypeId} {pos : String} {after : Array Edge} {guard : Option (Nat × Bool)}
  (h : wpList P ops Q (⟨dst, .call { callee := .builtin .copy, args := args, argTypes := argTypes }, type, pos, after, guard⟩ :: rest) a w) : wpList P ops Q (⟨dst, .call { callee := .builtin .copy, args := args, argTypes := argTypes }, type, pos, after, guard⟩ :: rest) a w := h
theorem grown_new {a b c : World} {g : Nat} (h : a.grownBy b none) (k : b.grownBy c (some g)) (hg : a.heap.size ≤ g) : a.grownBy c none :=
 ⟨k.os.trans h.os, k.tape.trans h.tape, k.output.trans h.output, Nat.le_trans h.size k.size, fun i hi _ => (k.block i (Nat.lt_of_lt_of_le hi h.size) (fun e => by injection e; omega)).trans (h.block i hi (by simp))⟩
theorem below_grown {a b : World} (h : Below a.heap.size a b) : a.grownBy b none := ⟨h.os, h.tape, h.output, h.size, fun k hk _ => h.block k hk⟩
theorem conv_row {P : Program} {w : World} {a : Option Addr} {len : Nat} {bs : List Int} (R : Row w a len bs) (cap : Nat) (src dst : TypeId) (hs : P.underlying src = some (.slice 5)) (he : P.underlying 5 = some (.int .u8)) (hd : P.underlying dst = some .string) :
  (convert src dst (.slice a len cap)).run P w = .ok (.string (strOfNums bs)) w := by
 by_cases h0 : 0 < len
 ·obtain ⟨b, off, rfl, hc⟩ := R.cells h0
  exact run_convert_bytes_arg w src 5 hs he b off len cap bs R.len_eq hc dst hd
 ·obtain rfl : len = 0 := by omega
  obtain rfl : bs = [] := List.eq_nil_of_length_eq_zero R.len_eq
  cases a with
  | none => exact run_convert_bytes_nil w src 5 hs he 0 cap dst hd
  | some x =>
   have hl : (loadCells x 0).run P w = .ok (([] : List Int).map (Value.int .u8)).toArray w := by
    have := run_loadCells_list (P := P) w x [] (fun j v hj => by simp at hj)
    simpa using this
   rw [run_convert_bytes_string w src dst 5 _ 0 cap hs he hd, run_bytesToString w x 0 cap [] hl, foldl_push_bytes]
   rfl
theorem str_toList (bs : List Int) : (strOfNums bs).toList = bs.map fun n => UInt8.ofNat n.toNat := by rw [ByteArray.toList_eq]; rfl
theorem str_eq (a b : List Int) (ha : Byt a) (hb : Byt b) : ((strOfNums a).toList == (strOfNums b).toList) = decide (a = b) := by
 rw [str_toList, str_toList]
 by_cases h : a = b
 ·subst h; simp
 ·have : (a.map fun n : Int => UInt8.ofNat n.toNat) ≠ b.map fun n : Int => UInt8.ofNat n.toNat := by
   intro e
   apply h
   have key : ∀ (l : List Int), Byt l → (l.map fun n : Int => UInt8.ofNat n.toNat).map (fun u : UInt8 => (u.toNat : Int)) = l := by
    intro l hl
    rw [List.map_map]
    have : ∀ x ∈ l, ((fun u : UInt8 => (u.toNat : Int)) ∘ fun n : Int => UInt8.ofNat n.toNat) x = x := by
     intro x hx
     have := hl x hx
     simp only [Function.comp, UInt8.toNat_ofNat']
     omega
    rw [List.map_congr_left this, List.map_id']
   rw [← key a ha, ← key b hb, e]
  simp [h, this]
def IsRow (k : IntKind) (w : World) (a : Option Addr) (len cap : Nat) (zs : List Int) : Prop :=
 (a = none ∧ len = 0 ∧ cap = 0 ∧ zs = []) ∨
 ∃ x, a = some x ∧ len ≤ cap ∧ cap ≤ maxLen ∧ zs.length = cap ∧ (∀ i, i < zs.length → w.cell? (x.add i) = some (.int k (zs.getD i 0))) ∧ ∀ n ∈ zs, (Lit.int k n).wf = true
theorem getD_take (l : List Int) (n i : Nat) (h : i < n) : (l.take n).getD i 0 = l.getD i 0 := by
 rw [List.getD_eq_getElem?_getD, List.getD_eq_getElem?_getD, List.getElem?_take, if_pos h]
theorem wf_u8 {n : Int} (h : (Lit.int .u8 n).wf = true) : 0 ≤ n ∧ n ≤ 255 := by
 have := bounds_u8 h; omega
theorem IsRow.row {w : World} {a : Option Addr} {len cap : Nat} {zs : List Int} (h : IsRow .u8 w a len cap zs) : Row w a len (zs.take len) := by
 rcases h with ⟨rfl, rfl, rfl, rfl⟩ | ⟨x, rfl, hl, hm, hz, hcell, hwz⟩
 ·exact ⟨rfl, Nat.zero_le _, fun n hn => by simp at hn, fun h => absurd h (by omega)⟩
 ·refine ⟨by simp; omega, by omega, fun n hn => wf_u8 (hwz n (List.mem_of_mem_take hn)), fun h0 => ?_⟩
  obtain ⟨b, off, spot⟩ := x
  have hc := hcell 0 (by omega)
  have hspot : spot = none := by simpa [Addr.add] using World.cell?_spot hc
  subst hspot
  refine ⟨b, off, rfl, fun i hi => ?_⟩
  have hadd : (⟨b, off, none⟩ : Addr).add i = ⟨b, off + i, none⟩ := by unfold Addr.add; split <;> simp_all
  rw [← hadd, hcell i (by omega), getD_take _ _ _ hi]
theorem pu : (∀ (l : List Value) (i : Nat) (v : Value), l.toArray.setIfInBounds i v = (l.set i v).toArray) ∧ (∀ (x : Value) (l : List Value) (v : Value), (x :: l).set 0 v = v :: l) ∧ (∀ (x : Value) (l : List Value) (n : Nat) (v : Value), (x :: l).set (n + 1) v = x :: l.set n v) :=
 ⟨fun _ _ _ => List.setIfInBounds_toArray .., fun _ _ _ => rfl, fun _ _ _ _ => rfl⟩
theorem tk {P : Program} {md : Region.Mode} {ops : Array Oper} {Q : Exit → Act → World → Prop} {S : World → Prop} {i : Nat} {oi : Oper} {v : Value} {fuel : Nat} {listed : Array Bool} {a : Act} {w : World} (hi : ops[i]? = some oi) (hy : YieldsIf P ops S oi v a) (hS : S w)
 (h : wpAnyH P md ops Q S fuel (listed.setIfInBounds i true) (a.put oi.dst v) w) (hs : Region.noSelect ops = true := by kernel_rfl) (hf : Region.free md ops listed i = true := by kernel_rfl) (hr : (Region.ready md ops listed).contains i = true := by kernel_rfl)
 (hQ : ∀ c a w, Q (.panic c) (a.put oi.dst v) w → Q (.panic c) a w := by exact fun _ _ _ h => h) : wpAnyH P md ops Q S (fuel + 1) listed a w := wpAnyH_take hi hs hf hr hQ hy hS h
theorem xga (w : World) (o : Obj) (r : Option Nat) : w.grownBy (w.alloc o) r := World.grownBy_alloc w o r
theorem xai {a b : Prop} (h : a) (k : b) : a ∧ b := ⟨h, k⟩
theorem xgt {a b c : World} {r : Option Nat} (h : a.grownBy b r) (k : b.grownBy c r) : a.grownBy c r := grown_trans h k
end Go.Proofs.YtlehncfehoelbaaGreatDoor
namespace Go.Proofs.YtlehncfehoelbaaGreatDoor
open Go.RowKit
set_option maxRecDepth 100000
set_option linter.unusedSimpArgs false
set_option linter.unusedVariables false
structure AtV where
 n : ByteArray
 a : Option Addr
 len : Nat
 cap : Nat
 v : List Int
def AtV.at (A : AtV) : Atr := ⟨A.n.toList, A.v⟩
structure AtAt (w : World) (b o : Nat) (A : AtV) : Prop where
 c0 : w.cell? ⟨b, o, none⟩ = some (.string A.n)
 c1 : w.cell? ⟨b, o + 1, none⟩ = some (.slice A.a A.len A.cap)
 row : Row w A.a A.len A.v
 cap : A.len ≤ A.cap
structure Ats (w : World) (a : Option Addr) (len : Nat) (l : List AtV) : Prop where
 len_eq : l.length = len
 le : len ≤ maxLen
 at_ : 0 < len → ∃ b off, a = some ⟨b, off, none⟩ ∧ ∀ i A, l[i]? = some A → AtAt w b (off + i * 2) A
structure EnV where
 path : ByteArray
 k : Int
 mode : Int
 uid : Int
 gid : Int
 time : Int
 size : Int
 da : Option Addr
 dl : Nat
 dc : Nat
 data : List Int
 target : ByteArray
 dev : Int
 aa : Option Addr
 al : Nat
 ac : Nat
 attrs : List AtV
def EnV.en (X : EnV) : En := ⟨X.path.toList, X.k, X.mode, X.uid, X.gid, X.time, X.size, X.data, X.target.toList, X.dev, X.attrs.map AtV.at⟩
def EnV.val (X : EnV) : Value := .agg #[.string X.path, .int .i64 X.k, .int .i64 X.mode, .int .i64 X.uid, .int .i64 X.gid, .int .i64 X.time, .int .i64 X.size, .slice X.da X.dl X.dc, .string X.target, .int .i64 X.dev, .slice X.aa X.al X.ac]
structure EnV.ok (X : EnV) (w : World) : Prop where
 row : Row w X.da X.dl X.data
 dcap : X.dl ≤ X.dc
 ats : Ats w X.aa X.al X.attrs
 acap : X.al ≤ X.ac
structure EnAt (w : World) (b o : Nat) (X : EnV) : Prop where
 c0 : w.cell? ⟨b, o, none⟩ = some (.string X.path)
 c1 : w.cell? ⟨b, o + 1, none⟩ = some (.int .i64 X.k)
 c2 : w.cell? ⟨b, o + 2, none⟩ = some (.int .i64 X.mode)
 c3 : w.cell? ⟨b, o + 3, none⟩ = some (.int .i64 X.uid)
 c4 : w.cell? ⟨b, o + 4, none⟩ = some (.int .i64 X.gid)
 c5 : w.cell? ⟨b, o + 5, none⟩ = some (.int .i64 X.time)
 c6 : w.cell? ⟨b, o + 6, none⟩ = some (.int .i64 X.size)
 c7 : w.cell? ⟨b, o + 7, none⟩ = some (.slice X.da X.dl X.dc)
 c8 : w.cell? ⟨b, o + 8, none⟩ = some (.string X.target)
 c9 : w.cell? ⟨b, o + 9, none⟩ = some (.int .i64 X.dev)
 c10 : w.cell? ⟨b, o + 10, none⟩ = some (.slice X.aa X.al X.ac)
 ok : X.ok w
structure Ens (w : World) (a : Option Addr) (len : Nat) (l : List EnV) : Prop where
 len_eq : l.length = len
 le : len ≤ maxLen
 at_ : 0 < len → ∃ b off, a = some ⟨b, off, none⟩ ∧ ∀ i X, l[i]? = some X → EnAt w b (off + i * 11) X
theorem cell_lt11 {w : World} {b o : Nat} {v : Value} (h : w.cell? ⟨b, o, none⟩ = some v) : b < w.heap.size := by
 rcases Nat.lt_or_ge b w.heap.size with k | k
 ·exact k
 ·simp [World.cell?, Array.getElem?_eq_none k] at h
theorem cell_grown {w w' : World} {b o : Nat} {v : Value} (h : w.cell? ⟨b, o, none⟩ = some v) (g : w.grownBy w' none) : w'.cell? ⟨b, o, none⟩ = some v := by
 rw [(grown_below0 g).cell (p := ⟨b, o, none⟩) (cell_lt11 h)]; exact h
theorem AtAt.grown {w w' : World} {b o : Nat} {A : AtV} (h : AtAt w b o A) (g : w.grownBy w' none) : AtAt w' b o A := ⟨cell_grown h.c0 g, cell_grown h.c1 g, h.row.grown g, h.cap⟩
theorem Ats.grown {w w' : World} {a : Option Addr} {len : Nat} {l : List AtV} (h : Ats w a len l) (g : w.grownBy w' none) : Ats w' a len l :=
 ⟨h.len_eq, h.le, fun h0 => by obtain ⟨b, off, e, k⟩ := h.at_ h0; exact ⟨b, off, e, fun i A hA => (k i A hA).grown g⟩⟩
theorem EnV.ok.grown {X : EnV} {w w' : World} (h : X.ok w) (g : w.grownBy w' none) : X.ok w' := ⟨h.row.grown g, h.dcap, h.ats.grown g, h.acap⟩
theorem EnAt.grown {w w' : World} {b o : Nat} {X : EnV} (h : EnAt w b o X) (g : w.grownBy w' none) : EnAt w' b o X :=
 ⟨cell_grown h.c0 g, cell_grown h.c1 g, cell_grown h.c2 g, cell_grown h.c3 g, cell_grown h.c4 g, cell_grown h.c5 g, cell_grown h.c6 g, cell_grown h.c7 g, cell_grown h.c8 g, cell_grown h.c9 g, cell_grown h.c10 g, h.ok.grown g⟩
theorem Ens.grown {w w' : World} {a : Option Addr} {len : Nat} {l : List EnV} (h : Ens w a len l) (g : w.grownBy w' none) : Ens w' a len l :=
 ⟨h.len_eq, h.le, fun h0 => by obtain ⟨b, off, e, k⟩ := h.at_ h0; exact ⟨b, off, e, fun i A hA => (k i A hA).grown g⟩⟩
theorem drewG11 {a b : World} (h : a.grownBy b none) (n : Nat) : a.grownBy (b.drewN n) none := by
 induction n with
 | zero => exact h
 | succ n ih => exact ⟨ih.os, ih.tape, ih.output, ih.size, ih.block⟩
theorem spl_short {L : Tx} (h : (spl L).2 = 0) : (∀ p ∈ (spl L).1, p.length ≤ 255) ∧ (spl L).1.length ≤ 128 := by
 unfold spl at h ⊢
 split at h <;> rename_i h1
 ·simp at h
 ·rw [if_neg h1]
  split at h <;> rename_i h2
  ·simp at h
  ·rw [if_neg h2]
   split at h <;> rename_i h3
   ·simp at h
   ·rw [if_neg h3]
    split at h <;> rename_i h4
    ·simp at h
    ·rw [if_neg h4]
     refine ⟨fun p hp => ?_, by show ((cutS L).filter kept).length ≤ 128; omega⟩
     have h5 := (List.mem_filter.1 hp).1
     have h6 : (cutS L).any longP = false := by cases e : (cutS L).any longP <;> simp [e] at h3 ⊢
     rw [List.any_eq_false] at h6
     have := h6 p h5
     unfold longP at this
     simp at this
     exact this
theorem txs_size {l : List Tx} (h : ∀ p ∈ l, p.length ≤ 255) (i : Nat) : ((txs l).getD i ⟨#[]⟩).size ≤ 255 := by
 unfold txs
 rw [List.getD_eq_getElem?_getD, List.getElem?_map]
 cases e : l[i]? with
 | none => exact Nat.zero_le _
 | some p =>
  have := h p (List.mem_of_getElem? e)
  simp only [Option.map_some, Option.getD_some]
  rw [tx_size]
  exact this
theorem any_snoc {l : List Tx} {i : Nat} (h : i < l.length) (f : Tx → Bool) : (l.take (i + 1)).any f = ((l.take i).any f || f ((txs l).getD i ⟨#[]⟩).toList) := by
 rw [List.take_succ_eq_append_getElem h, List.any_append]
 have e : (txs l).getD i ⟨#[]⟩ = tx l[i] := by unfold txs; rw [List.getD_eq_getElem?_getD, List.getElem?_map, List.getElem?_eq_getElem h]; rfl
 rw [e, tx_tl]
 simp
set_option maxHeartbeats 2000000 in
theorem rpath_any (X : EnV) (w : World) (hp : X.path.size ≤ 5000) : Calls Tryz.prog 59 #[X.val] w fun e w' => e = .returned (.int .i64 (pth X.en)) ∧ w.grownBy w' none := by
 obtain ⟨P, K, mode, uid, gid, time, size, da, dl, dc, data, target, dev, aa, al, ac, attrs⟩ := X
 simp only [EnV.val]
 simp only at hp
 cases h1 : (P.toList == []) with
 | true =>
  have e1 : P.toList = [] := eq_of_beq h1
  by_cases h2 : K = 2
  ·have HV : Hid (pth (EnV.en ⟨P, K, mode, uid, gid, time, size, da, dl, dc, data, target, dev, aa, al, ac, attrs⟩) = 0) := by
    show pth _ = 0
    unfold pth EnV.en
    simp only
    rw [if_pos e1, if_pos h2]
   clear e1
   have h2b : (K == 2) = true := by rw [beq_iff_eq]; exact h2
   clear h2
   go_enter Tryz.func59, Tryz.ntmps59
   go_wp2
   go_ret
   exact ⟨by rw [HV.out]; rfl, xga _ _ none⟩
  ·have HV : Hid (pth (EnV.en ⟨P, K, mode, uid, gid, time, size, da, dl, dc, data, target, dev, aa, al, ac, attrs⟩) = 6) := by
    show pth _ = 6
    unfold pth EnV.en
    simp only
    rw [if_pos e1, if_neg h2]
   clear e1
   have h2b : (K == 2) = false := by rw [beq_eq_false_iff_ne]; exact h2
   clear h2
   go_enter Tryz.func59, Tryz.ntmps59
   go_wp2
   go_ret
   exact ⟨by rw [HV.out]; rfl, xga _ _ none⟩
 | false =>
  have e1 : P.toList ≠ [] := by intro e; rw [e] at h1; simp at h1
  have HE : Hid (pth (EnV.en ⟨P, K, mode, uid, gid, time, size, da, dl, dc, data, target, dev, aa, al, ac, attrs⟩) = if (spl P.toList).2 ≠ 0 then 6 else if (spl P.toList).1.any (fun p => !vld p) then 6 else
    if (jnp (spl P.toList).1).2 ≠ 0 ∨ (jnp (spl P.toList).1).1 ≠ P.toList then 6 else if 64 < (spl P.toList).1.length then 3 else 0) := by
   show pth _ = _
   unfold pth EnV.en
   simp only
   rw [if_neg e1]
  have hsh := @spl_short P.toList
  have hsp := fun W => rsplit_any P W (by omega)
  generalize pth (EnV.en ⟨P, K, mode, uid, gid, time, size, da, dl, dc, data, target, dev, aa, al, ac, attrs⟩) = A at *
  clear e1
  generalize spl P.toList = r at *
  obtain ⟨T, E⟩ := r
  simp only at HE hsh
  by_cases h2 : E = 0
  ·subst h2
   rw [if_neg (by simp)] at HE
   obtain ⟨hs1, hs2⟩ := hsh rfl
   have HS : Hid _ := xai hs1 hs2
   clear hsh hs1 hs2
   go_enter Tryz.func59, Tryz.ntmps59
   go_wp2_with (go_at_call 77; refine (hsp _).mono ?_; rintro e w1 ⟨a, n, c, rfl, hown, HG⟩)
   have hx0 : w1.cell? ⟨w.heap.size, 0, none⟩ = some (.string P) := cell_grown (by simp) HG
   obtain ⟨a, c, e9, R, hcap, hcm⟩ := owns_srow hown
   injection e9 with e9a e9n e9c
   subst e9a e9c
   have hT : T.length = n := by have := R.len_eq; unfold txs at this; rw [List.length_map] at this; exact this
   have hn : n ≤ 128 := by have := HS.out.2; omega
   have HG2 : Hid _ := xgt (xga w _ none) HG
   clear HG hown
   have hjo := fun W (RW : SRow W a n (txs T)) => rjoin_any a n c (txs T) W RW (by omega) (fun i => Nat.le_trans (txs_size HS.out.1 i) (by decide))
   rw [tls_txs] at hjo
   have HT : Hid _ := hT
   clear hT
   go_loop [5] (fun i => ∃ k : Nat, k ≤ n ∧ i = .int .i64 k ∧ Hid ((T.take k).any (fun p => !vld p) = false)) (fun i => n - (intOf i).toNat)
   case atStart => exact ⟨0, Nat.zero_le _, rfl, rfl⟩
   case round =>
    obtain ⟨k, hk, rfl, HB⟩ := hrel
    by_cases hlt : k < n
    ·obtain ⟨b, off, rfl, hcell⟩ := R.cells (by omega)
     have hck := hcell k hlt
     have hsn := any_snoc (l := T) (i := k) (by rw [HT.out]; exact hlt) (fun p => !vld p)
     rw [HB.out, Bool.false_or] at hsn
     have hsz := txs_size HS.out.1 k
     generalize (txs T).getD k ⟨#[]⟩ = s0 at *
     have hv := fun W => rvalid_any s0 W (by omega)
     rw [val_vld] at hv
     have HN : Hid _ := hsn
     clear hsn hcell R hjo
     cases hvv : vld s0.toList with
     | true =>
      rw [hvv] at hv
      have HN2 : Hid ((T.take (k + 1)).any (fun p => !vld p) = false) := by
       show List.any _ _ = false
       rw [HN.out, hvv]; rfl
      go_wp2_with (go_at_call 87; refine (hv _).mono ?_; rintro e w' ⟨rfl, rfl⟩)
      go_round
      case rel => exact ⟨k + 1, by omega, by go_num, HN2⟩
      case measure => simp [intOf]; omega
     | false =>
      rw [hvv] at hv
      have HV : Hid (A = 6) := by
       show A = 6
       have e5 : T.any (fun p => !vld p) = true := by
        rw [← List.take_append_drop (k + 1) T, List.any_append, HN.out, hvv]; rfl
       rw [HE.out, if_pos e5]
      go_wp2_with (go_at_call 87; refine (hv _).mono ?_; rintro e w' ⟨rfl, rfl⟩)
      go_ret
      exact ⟨by rw [HV.out]; rfl, HG2.out⟩
    ·obtain rfl : k = n := by omega
     have e5 : T.any (fun p => !vld p) = false := by
      have := HB.out
      rw [List.take_of_length_le (by rw [HT.out]; exact Nat.le_refl _)] at this
      exact this
     have HE2 : Hid (A = if (jnp T).2 ≠ 0 ∨ (jnp T).1 ≠ P.toList then 6 else if 64 < T.length then 3 else 0) := by
      show A = _
      rw [HE.out, e5, if_neg (by decide)]
     clear e5 HE HB hsp
     rw [HT.out] at HE2
     generalize jnp T = j at *
     obtain ⟨J, F⟩ := j
     simp only at HE2 hjo
     have hj1 := hjo w1 R
     clear hjo R
     by_cases hF : F = 0
     ·subst hF
      cases hJ : ((tx J).toList == P.toList) with
      | true =>
       have hJe : J = P.toList := by have := eq_of_beq hJ; rw [tx_tl] at this; exact this
       by_cases h64 : 64 < k
       ·have HV : Hid (A = 3) := by
         show A = 3
         rw [HE2.out, if_neg (by simp [hJe]), if_pos h64]
        have h64i : (64 : Int) < (k : Int) := by omega
        clear HE2 hJe h64
        generalize tx J = j0 at *
        go_wp2_with (go_at_call 88; refine hj1.mono ?_; rintro e w' ⟨rfl, dn, rfl⟩)
        go_ret
        exact ⟨by rw [HV.out]; rfl, drewG11 HG2.out dn⟩
       ·have HV : Hid (A = 0) := by
         show A = 0
         rw [HE2.out, if_neg (by simp [hJe]), if_neg h64]
        have h64i : ¬ (64 : Int) < (k : Int) := by omega
        clear HE2 hJe h64
        generalize tx J = j0 at *
        go_wp2_with (go_at_call 88; refine hj1.mono ?_; rintro e w' ⟨rfl, dn, rfl⟩)
        go_ret
        exact ⟨by rw [HV.out]; rfl, drewG11 HG2.out dn⟩
      | false =>
       have hJe : J ≠ P.toList := by intro e; rw [tx_tl, e] at hJ; simp at hJ
       have HV : Hid (A = 6) := by
        show A = 6
        rw [HE2.out, if_pos (Or.inr hJe)]
       clear HE2 hJe
       generalize tx J = j0 at *
       go_wp2_with (go_at_call 88; refine hj1.mono ?_; rintro e w' ⟨rfl, dn, rfl⟩)
       go_ret
       exact ⟨by rw [HV.out]; rfl, drewG11 HG2.out dn⟩
     ·have HV : Hid (A = 6) := by
       show A = 6
       rw [HE2.out, if_pos (Or.inl hF)]
      have hFb : (F == 0) = false := by rw [beq_eq_false_iff_ne]; exact hF
      clear HE2
      generalize tx J = j0 at *
      go_wp2_with (go_at_call 88; refine hj1.mono ?_; rintro e w' ⟨rfl, dn, rfl⟩)
      go_ret
      exact ⟨by rw [HV.out]; rfl, drewG11 HG2.out dn⟩
  ·have HV : Hid (A = 6) := by
    show A = 6
    rw [HE.out, if_pos h2]
   have h2b : (E == 0) = false := by rw [beq_eq_false_iff_ne]; exact h2
   clear h2 HE hsh
   go_enter Tryz.func59, Tryz.ntmps59
   go_wp2_with (go_at_call 77; refine (hsp _).mono ?_; rintro e w1 ⟨a, n, c, rfl, hown, HG⟩)
   go_ret
   exact ⟨by rw [HV.out]; rfl, xgt (xga _ _ none) HG⟩
end Go.Proofs.YtlehncfehoelbaaGreatDoor
