/-
  No cell of these rows narrows 'for every input' (looked for: loops, veiled, ifaces, maps, wideKeys, modest, calm, conditions, laid).
  DERIVED. THE GIVEN ROWS OF THIS SEAT. 5 by the template 'for every input the law returns true; each argument reads behind the call as it read before'; 0 by the template 'total and deterministic' (their statements: YtngfillgndhfbaaTotals.lean).
  GIVEN WITH THE SEED: the statements are not yours to turn. If you find one false, say at which input.
  Laid BY PROGRAM, IN A SANDBOX (cutbox-rows.mjs): the forced cells as the released guide's own fill.sh prints them over the translation 476abc783643b7cb… (all of the seat's roots in one cut). By AI agents, Wed Nov 11 2026. No macro, syntax, notation, axiom, sorry.
-/
import Derived.Test.YtngfillgndhfbaaChecked
import GoSem.Claim
import GoSem.ClaimJoined
import GoSem.ClaimMapViews
import Derived.JoinedTies
import Derived.KernelRfl
namespace Go.Proofs.Ytngfillgndhfbaa
/- THE CELL 'sum', in the pinned program and in every row, IS THE sha256 OF THE DUMP (.gsa) THAT YtngfillgndhfbaaProg.lean LOADS. Nothing in Lean hashes anything: it is a label: what it is worth is what the hold of that sum in a sandbox is worth. -/
noncomputable def Try.pinned : Pinned := { name := "ytngfillgndhfbaa", sum := "476abc783643b7cb90369f7901357bdbce06cb2c9d0dbb77ac8ea229f2501495", checked := Try.checked }
namespace Rows
def none {H : Type} : Left H := { results := [], args := [] }

/-- 'seriflaw20.CurveBends': WHATEVER THE INPUT: true; the input reads as it did. -/
def curveBendsSpec : ChangeSpec := { name := "curveBends", fn := fun _ => fun
  | [d] => { results := [.lit (.bool true)], args := [d] }
  | _ => none }
def curveBendsRow : OpenClaim := { program := "ytngfillgndhfbaa", sum := "476abc783643b7cb90369f7901357bdbce06cb2c9d0dbb77ac8ea229f2501495", func := "serif/seriflaw20.CurveBends", spec := "curveBends", unfollowed := true, recurses := true, apart := false }
def CurveBendsSaid : Prop := curveBendsRow.holds Try.pinned (OpenSpec.ofChange curveBendsSpec)

/-- ITS FALSE NEIGHBOUR: 'it returns false'. Refute it at one input. -/
def curveBendsWrong : ChangeSpec := { name := "curveBends", fn := fun _ => fun
  | [d] => { results := [.lit (.bool false)], args := [d] }
  | _ => none }
def CurveBendsWrongFalsely : Prop := curveBendsRow.holds Try.pinned (OpenSpec.ofChange curveBendsWrong)

/-- 'seriflaw20.CurvePlaces': WHATEVER THE INPUT: true; the input reads as it did. -/
def curvePlacesSpec : ChangeSpec := { name := "curvePlaces", fn := fun _ => fun
  | [d1, d2, d3] => { results := [.lit (.bool true)], args := [d1, d2, d3] }
  | _ => none }
def curvePlacesRow : OpenClaim := { program := "ytngfillgndhfbaa", sum := "476abc783643b7cb90369f7901357bdbce06cb2c9d0dbb77ac8ea229f2501495", func := "serif/seriflaw20.CurvePlaces", spec := "curvePlaces", unfollowed := true, recurses := true, apart := false }
def CurvePlacesSaid : Prop := curvePlacesRow.holds Try.pinned (OpenSpec.ofChange curvePlacesSpec)

/-- ITS FALSE NEIGHBOUR: 'it returns false'. Refute it at one input. -/
def curvePlacesWrong : ChangeSpec := { name := "curvePlaces", fn := fun _ => fun
  | [d1, d2, d3] => { results := [.lit (.bool false)], args := [d1, d2, d3] }
  | _ => none }
def CurvePlacesWrongFalsely : Prop := curvePlacesRow.holds Try.pinned (OpenSpec.ofChange curvePlacesWrong)

/-- 'seriflaw20.CurveDots': WHATEVER THE INPUT: true; the input reads as it did. -/
def curveDotsSpec : ChangeSpec := { name := "curveDots", fn := fun _ => fun
  | [d1, d2] => { results := [.lit (.bool true)], args := [d1, d2] }
  | _ => none }
def curveDotsRow : OpenClaim := { program := "ytngfillgndhfbaa", sum := "476abc783643b7cb90369f7901357bdbce06cb2c9d0dbb77ac8ea229f2501495", func := "serif/seriflaw20.CurveDots", spec := "curveDots", unfollowed := true, recurses := true, apart := false }
def CurveDotsSaid : Prop := curveDotsRow.holds Try.pinned (OpenSpec.ofChange curveDotsSpec)

/-- ITS FALSE NEIGHBOUR: 'it returns false'. Refute it at one input. -/
def curveDotsWrong : ChangeSpec := { name := "curveDots", fn := fun _ => fun
  | [d1, d2] => { results := [.lit (.bool false)], args := [d1, d2] }
  | _ => none }
def CurveDotsWrongFalsely : Prop := curveDotsRow.holds Try.pinned (OpenSpec.ofChange curveDotsWrong)

/-- 'seriflaw20.CurveFlat': WHATEVER THE INPUT: true; the input reads as it did. -/
def curveFlatSpec : ChangeSpec := { name := "curveFlat", fn := fun _ => fun
  | [d1, d2] => { results := [.lit (.bool true)], args := [d1, d2] }
  | _ => none }
def curveFlatRow : OpenClaim := { program := "ytngfillgndhfbaa", sum := "476abc783643b7cb90369f7901357bdbce06cb2c9d0dbb77ac8ea229f2501495", func := "serif/seriflaw20.CurveFlat", spec := "curveFlat", unfollowed := true, recurses := true, apart := false }
def CurveFlatSaid : Prop := curveFlatRow.holds Try.pinned (OpenSpec.ofChange curveFlatSpec)

/-- ITS FALSE NEIGHBOUR: 'it returns false'. Refute it at one input. -/
def curveFlatWrong : ChangeSpec := { name := "curveFlat", fn := fun _ => fun
  | [d1, d2] => { results := [.lit (.bool false)], args := [d1, d2] }
  | _ => none }
def CurveFlatWrongFalsely : Prop := curveFlatRow.holds Try.pinned (OpenSpec.ofChange curveFlatWrong)

/-- 'seriflaw20.CurveTurns': WHATEVER THE INPUT: true; the input reads as it did. -/
def curveTurnsSpec : ChangeSpec := { name := "curveTurns", fn := fun _ => fun
  | [d] => { results := [.lit (.bool true)], args := [d] }
  | _ => none }
def curveTurnsRow : OpenClaim := { program := "ytngfillgndhfbaa", sum := "476abc783643b7cb90369f7901357bdbce06cb2c9d0dbb77ac8ea229f2501495", func := "serif/seriflaw20.CurveTurns", spec := "curveTurns", unfollowed := true, recurses := true, apart := false }
def CurveTurnsSaid : Prop := curveTurnsRow.holds Try.pinned (OpenSpec.ofChange curveTurnsSpec)

/-- ITS FALSE NEIGHBOUR: 'it returns false'. Refute it at one input. -/
def curveTurnsWrong : ChangeSpec := { name := "curveTurns", fn := fun _ => fun
  | [d] => { results := [.lit (.bool false)], args := [d] }
  | _ => none }
def CurveTurnsWrongFalsely : Prop := curveTurnsRow.holds Try.pinned (OpenSpec.ofChange curveTurnsWrong)

/- THE SECOND FORM. 'bulk': how many values and letters a reading holds, each counted each time it is reached (what is shared counts as often as it is met; a slice's spare places count too). A statement '..UptoSaid' is the law's where the arguments, and the package variables that the reading takes, are together of bulk at most 1048576: NARROWER than '..Said'. Prove '..Said' where nothing that the law and all that it calls make is longer than what came in: it says more and counts as full. Else prove '..UptoSaid'. A law counts once. -/
mutual
def uptoBulk {H : Type} : DataW H → Nat
  | .lit (.string bytes) => bytes.length + 1
  | .lit _ => 1
  | .nil => 1
  | .ptr d => uptoBulk d + 1
  | .slice elems spare => uptoBulkAll elems + uptoBulkAll spare + 1
  | .agg parts => uptoBulkAll parts + 1
  | .iface _ d => uptoBulk d + 1
  | .map entries => uptoBulkEntries entries + 1
  | .held _ => 1
def uptoBulkAll {H : Type} : List (DataW H) → Nat
  | [] => 0
  | d :: r => uptoBulk d + uptoBulkAll r
def uptoBulkEntries {H : Type} : List (Lit × DataW H) → Nat
  | [] => 0
  | x :: r => uptoBulkEntry x + uptoBulkEntries r
def uptoBulkEntry {H : Type} : Lit × DataW H → Nat
  | (.string bytes, d) => bytes.length + uptoBulk d + 1
  | (_, d) => uptoBulk d + 1
 end
def uptoSmall : (H : Type) → List (DataW H) → Bool := fun _ ds => decide (uptoBulkAll ds ≤ 1048576)
def OpenSpec.upto (s : _root_.Go.ChangeSpec) : _root_.Go.OpenSpec := { _root_.Go.OpenSpec.ofChange s with cond := some uptoSmall }

/-- 'seriflaw20.CurveBends', WHERE WHAT IT READS IS OF BULK AT MOST 1048576: true; the input reads as it did. -/
def curveBendsUptoRow : OpenClaim := { program := "ytngfillgndhfbaa", sum := "476abc783643b7cb90369f7901357bdbce06cb2c9d0dbb77ac8ea229f2501495", func := "serif/seriflaw20.CurveBends", spec := "curveBends", unfollowed := true, recurses := true, apart := false, narrowed := true }
def CurveBendsUptoSaid : Prop := curveBendsUptoRow.holds Try.pinned (OpenSpec.upto curveBendsSpec)

/-- 'seriflaw20.CurvePlaces', WHERE WHAT IT READS IS OF BULK AT MOST 1048576: true; the input reads as it did. -/
def curvePlacesUptoRow : OpenClaim := { program := "ytngfillgndhfbaa", sum := "476abc783643b7cb90369f7901357bdbce06cb2c9d0dbb77ac8ea229f2501495", func := "serif/seriflaw20.CurvePlaces", spec := "curvePlaces", unfollowed := true, recurses := true, apart := false, narrowed := true }
def CurvePlacesUptoSaid : Prop := curvePlacesUptoRow.holds Try.pinned (OpenSpec.upto curvePlacesSpec)

/-- 'seriflaw20.CurveDots', WHERE WHAT IT READS IS OF BULK AT MOST 1048576: true; the input reads as it did. -/
def curveDotsUptoRow : OpenClaim := { program := "ytngfillgndhfbaa", sum := "476abc783643b7cb90369f7901357bdbce06cb2c9d0dbb77ac8ea229f2501495", func := "serif/seriflaw20.CurveDots", spec := "curveDots", unfollowed := true, recurses := true, apart := false, narrowed := true }
def CurveDotsUptoSaid : Prop := curveDotsUptoRow.holds Try.pinned (OpenSpec.upto curveDotsSpec)

/-- 'seriflaw20.CurveFlat', WHERE WHAT IT READS IS OF BULK AT MOST 1048576: true; the input reads as it did. -/
def curveFlatUptoRow : OpenClaim := { program := "ytngfillgndhfbaa", sum := "476abc783643b7cb90369f7901357bdbce06cb2c9d0dbb77ac8ea229f2501495", func := "serif/seriflaw20.CurveFlat", spec := "curveFlat", unfollowed := true, recurses := true, apart := false, narrowed := true }
def CurveFlatUptoSaid : Prop := curveFlatUptoRow.holds Try.pinned (OpenSpec.upto curveFlatSpec)

/-- 'seriflaw20.CurveTurns', WHERE WHAT IT READS IS OF BULK AT MOST 1048576: true; the input reads as it did. -/
def curveTurnsUptoRow : OpenClaim := { program := "ytngfillgndhfbaa", sum := "476abc783643b7cb90369f7901357bdbce06cb2c9d0dbb77ac8ea229f2501495", func := "serif/seriflaw20.CurveTurns", spec := "curveTurns", unfollowed := true, recurses := true, apart := false, narrowed := true }
def CurveTurnsUptoSaid : Prop := curveTurnsUptoRow.holds Try.pinned (OpenSpec.upto curveTurnsSpec)

end Rows
end Go.Proofs.Ytngfillgndhfbaa
