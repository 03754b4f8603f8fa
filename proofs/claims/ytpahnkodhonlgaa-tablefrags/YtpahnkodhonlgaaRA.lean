/- The document's lz: a length and its four bits. -/
import Derived.Test.YtpahnkodhonlgaaRB
import Derived.WalkLawsBesides
import Derived.WalkKit
import Derived.Below
import Derived.BigRegion
import Derived.Deep.QuietTactic
namespace Go.Proofs.Ytpahnkodhonlgaa
open Go.RowKit
set_option maxRecDepth 100000
set_option linter.unusedSimpArgs false
set_option linter.unusedVariables false

/-- a length whose further bytes follow: it, the place behind; -1: it ends too early -/
def lnk : List Int → Int → Int → Int × Int
  | [], _, p => (-1, p)
  | b :: r, n, p => if b = 255 then lnk r (n + 255) (p + 1) else (n + b, p + 1)
def lng (bs : List Int) (n : Int) (p : Nat) : Int × Int := if n < 15 then (n, (p : Int)) else lnk (bs.drop p) n p
def fou (n : Int) : Int := if 15 < n then 15 else n

theorem lnk_at {bs : List Int} {p : Nat} (h : p < bs.length) (n : Int) : lnk (bs.drop p) n p = if bs.getD p 0 = 255 then lnk (bs.drop (p + 1)) (n + 255) ((p + 1 : Nat) : Int) else (n + bs.getD p 0, ((p + 1 : Nat) : Int)) := by
  rw [List.drop_eq_getElem_cons h, lnk]
  simp [List.getD_eq_getElem?_getD, List.getElem?_eq_getElem h]

end Go.Proofs.Ytpahnkodhonlgaa
