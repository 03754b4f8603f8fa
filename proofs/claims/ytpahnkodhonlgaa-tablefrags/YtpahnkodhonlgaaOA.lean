/- An inode, plain; which may be. -/
import Derived.Test.YtpahnkodhonlgaaDB
import Derived.Test.YtpahnkodhonlgaaNA
import Derived.Deep.QuietTactic
import Derived.BigQuiet
import Derived.Deep.WholeRow
namespace Go.Proofs.Ytpahnkodhonlgaa
open Go.RowKit
set_option maxRecDepth 100000
set_option linter.unusedSimpArgs false
set_option linter.unusedVariables false

/-- an inode: its numbers, where its words lie and what they are, its target -/
structure Nd where
  kd : Int
  md : Int
  ui : Int
  gi : Int
  tm : Int
  ln : Int
  at_ : Int
  sz : Int
  st : Int
  wa : Option Addr
  wl : Nat
  wc : Nat
  ws : List Int
  fr : Int
  of_ : Int
  tl : Int
  dr : Int
  by_ : Int
  pr : Int
  tg : ByteArray
  dv : Int
def Nd.cells (n : Nd) : List Value := [.int .i64 n.kd, .int .i64 n.md, .int .i64 n.ui, .int .i64 n.gi, .int .i64 n.tm, .int .i64 n.ln, .int .i64 n.at_, .int .i64 n.sz, .int .i64 n.st, .slice n.wa n.wl n.wc, .int .i64 n.fr, .int .i64 n.of_, .int .i64 n.tl, .int .i64 n.dr, .int .i64 n.by_, .int .i64 n.pr, .string n.tg, .int .i64 n.dv]
def Nd.val (n : Nd) : Value := .agg #[.int .i64 n.kd, .int .i64 n.md, .int .i64 n.ui, .int .i64 n.gi, .int .i64 n.tm, .int .i64 n.ln, .int .i64 n.at_, .int .i64 n.sz, .int .i64 n.st, .slice n.wa n.wl n.wc, .int .i64 n.fr, .int .i64 n.of_, .int .i64 n.tl, .int .i64 n.dr, .int .i64 n.by_, .int .i64 n.pr, .string n.tg, .int .i64 n.dv]
/-- a row of ints -/
structure IRow (w : World) (a : Option Addr) (len : Nat) (xs : List Int) : Prop where
  len_eq : xs.length = len
  le : len ≤ maxLen
  wide : ∀ x ∈ xs, in64 x
  cells : 0 < len → ∃ b off, a = some ⟨b, off, none⟩ ∧ ∀ i, i < len → w.cell? ⟨b, off + i, none⟩ = some (.int .i64 (xs.getD i 0))
theorem IRow.below {w w' : World} {a : Option Addr} {len : Nat} {xs : List Int} (h : IRow w a len xs) (hb : Below w.heap.size w w') : IRow w' a len xs := by
  refine ⟨h.len_eq, h.le, h.wide, fun h0 => ?_⟩
  obtain ⟨b, off, e, hc⟩ := h.cells h0
  exact ⟨b, off, e, fun i hi => by rw [hb.cell (p := ⟨b, off + i, none⟩) (cell_lt (hc i hi))]; exact hc i hi⟩
theorem IRow.grown {w w' : World} {a : Option Addr} {len : Nat} {xs : List Int} (h : IRow w a len xs) (hg : w.grownBy w' none) : IRow w' a len xs := h.below (grown_below hg)
theorem IRow.getD {w : World} {a : Option Addr} {len : Nat} {xs : List Int} (h : IRow w a len xs) (i : Nat) : in64 (xs.getD i 0) := by
  by_cases hi : i < xs.length
  · rw [List.getD_eq_getElem?_getD, List.getElem?_eq_getElem hi]; exact h.wide _ (List.getElem_mem hi)
  · rw [List.getD_eq_getElem?_getD, List.getElem?_eq_none (by omega)]; exact ⟨by decide, by decide⟩
structure Nd.ok (W : World) (n : Nd) : Prop where
  nums : in64 n.kd ∧ in64 n.md ∧ in64 n.ui ∧ in64 n.gi ∧ in64 n.tm ∧ in64 n.ln ∧ in64 n.at_ ∧ in64 n.sz ∧ in64 n.st ∧ in64 n.fr ∧ in64 n.of_ ∧ in64 n.tl ∧ in64 n.dr ∧ in64 n.by_ ∧ in64 n.pr ∧ in64 n.dv
  row : IRow W n.wa n.wl n.ws
  cap : n.wl ≤ n.wc ∧ n.wc ≤ maxLen
  txt : n.tg.size ≤ maxLen
theorem Nd.ok.kept {W W' : World} {n : Nd} (h : n.ok W) (k : W.grownBy W' none) : n.ok W' := ⟨h.nums, h.row.grown k, h.cap, h.txt⟩
/-- from low to high? -/
def inn (lo hi x : Int) : Bool := decide (lo ≤ x) && decide (x ≤ hi)
theorem inn_iff {lo hi x : Int} : inn lo hi x = true ↔ lo ≤ x ∧ x ≤ hi := by simp [inn]
def hd15 (n : Nd) : Bool := inn 0 4095 n.md && inn 0 4294967295 n.tm && inn 0 65535 n.ui && inn 0 65535 n.gi && inn 1 4294967295 n.ln && inn (-1) 16777216 n.at_
def wok (l : List Int) : Bool := l.all (inn 0 4294967295)
def tail15 (n : Nd) : Bool := inn (-1) 65535 n.fr && inn 0 1048575 n.of_ && inn 0 1048575 n.tl && !(n.fr == -1 && (!(n.of_ == 0) || !(n.tl == 0))) && !(!(n.fr == -1) && n.tl == 0)
def file15 (n : Nd) : Bool := inn 0 1099511627775 n.sz && inn 0 8388608 n.st && !decide ((65536 : Int) < n.wl) && tail15 n && wok n.ws
def nofile15 (n : Nd) : Bool := n.sz == 0 && n.st == 0 && (n.wl : Int) == 0 && n.fr == 0 && n.of_ == 0 && n.tl == 0
def dir15 (n : Nd) : Bool := inn 0 16777216 n.dr && inn 0 16777216 n.by_ && inn 0 16384 n.pr
def nodir15 (n : Nd) : Bool := n.dr == 0 && n.by_ == 0 && n.pr == 0
def has0 (s : ByteArray) : Bool := nul s s.size
def link15 (n : Nd) : Bool := inn 1 4096 n.tg.size && !has0 n.tg
def nolink15 (n : Nd) : Bool := n.tg.toList == []
def dev15 (n : Nd) : Bool := inn 0 4294967295 n.dv
/-- what a kind has, and has not -/
def rest15 (n : Nd) : Bool := (if n.kd == 1 then file15 n else nofile15 n) && (if n.kd == 2 then dir15 n else nodir15 n) && (if n.kd == 3 then link15 n else nolink15 n) && (if decide (3 < n.kd) then dev15 n else n.dv == 0)
/-- what is wrong with an inode -/
def chk15 (n : Nd) : Int := if inn 1 5 n.kd then (if hd15 n && rest15 n then 0 else 1) else 8
theorem bx18 {W : World} {g : Nat} {T : TypeId} {c0 c1 c2 c3 c4 c5 c6 c7 c8 c9 c10 c11 c12 c13 c14 c15 c16 c17 : Value} (h : Bx W g T [c0, c1, c2, c3, c4, c5, c6, c7, c8, c9, c10, c11, c12, c13, c14, c15, c16, c17]) : W.cell? ⟨g, 0, none⟩ = some c0 ∧ W.cell? ⟨g, 1, none⟩ = some c1 ∧ W.cell? ⟨g, 2, none⟩ = some c2 ∧ W.cell? ⟨g, 3, none⟩ = some c3 ∧ W.cell? ⟨g, 4, none⟩ = some c4 ∧ W.cell? ⟨g, 5, none⟩ = some c5 ∧ W.cell? ⟨g, 6, none⟩ = some c6 ∧ W.cell? ⟨g, 7, none⟩ = some c7 ∧ W.cell? ⟨g, 8, none⟩ = some c8 ∧ W.cell? ⟨g, 9, none⟩ = some c9 ∧ W.cell? ⟨g, 10, none⟩ = some c10 ∧ W.cell? ⟨g, 11, none⟩ = some c11 ∧ W.cell? ⟨g, 12, none⟩ = some c12 ∧ W.cell? ⟨g, 13, none⟩ = some c13 ∧ W.cell? ⟨g, 14, none⟩ = some c14 ∧ W.cell? ⟨g, 15, none⟩ = some c15 ∧ W.cell? ⟨g, 16, none⟩ = some c16 ∧ W.cell? ⟨g, 17, none⟩ = some c17 := ⟨h.c 0, h.c 1, h.c 2, h.c 3, h.c 4, h.c 5, h.c 6, h.c 7, h.c 8, h.c 9, h.c 10, h.c 11, h.c 12, h.c 13, h.c 14, h.c 15, h.c 16, h.c 17⟩
end Go.Proofs.Ytpahnkodhonlgaa
