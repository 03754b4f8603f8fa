/- The program's name, as landed: what each call answers. -/
import Derived.Test.YthidnmncekfgaaaNGD
import Derived.Test.YthidnmncekfgaaaNGJ
namespace Go.Proofs.Ythidnmncekfgaaa
end Go.Proofs.Ythidnmncekfgaaa
