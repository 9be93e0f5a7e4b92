/- The reference's writer: Data. -/
import Derived.Test.YtdbhfigdojkceaaWr4
namespace Go.Proofs.Ytdbhfigdojkceaa
open Go Go.RowKit

theorem own_mono {w : World} {base : Nat} {e : TypeId} {size n : Nat} {v : Value} {xs : List Value} (h : w.ownsRow base e size v n xs) : w.ownsRow 0 e size v n xs :=
  ⟨h.1, h.2.imp id fun ⟨g, cap, cur, h1, _, h3⟩ => ⟨g, cap, cur, h1, Nat.zero_le _, h3⟩⟩

end Go.Proofs.Ytdbhfigdojkceaa
