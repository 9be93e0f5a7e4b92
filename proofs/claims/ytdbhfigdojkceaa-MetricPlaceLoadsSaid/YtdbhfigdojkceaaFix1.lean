/- Contracts of the functions of layer 1 that only reckon: floor, nearest and their kin. -/
import Derived.Test.YtdbhfigdojkceaaRows
import Derived.Test.YtdbhfigdojkceaaNum
import Derived.WalkKit
import Derived.BigQuiet
import Derived.WalkSmall
import Derived.Deep.QuietTactic
namespace Go.Proofs.Ytdbhfigdojkceaa
open Go.RowKit

theorem ret_int {k : IntKind} {a b : Int} (h : a = b) : Ending.returned (.int k a) = .returned (.int k b) := by rw [h]

end Go.Proofs.Ytdbhfigdojkceaa
