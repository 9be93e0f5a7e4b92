/-
  No cell of these rows narrows 'for every input' (looked for: loops, veiled, ifaces, maps, wideKeys, modest, calm, conditions, laid).
  DERIVED. THE GIVEN ROWS OF THIS SEAT. 5 by the template 'for every input the law returns true; each argument reads behind the call as it read before'; 0 by the template 'total and deterministic' (their statements: YtdbhfigdojkceaaTotals.lean).
  GIVEN WITH THE SEED: the statements are not yours to turn. If you find one false, say at which input.
  Laid BY PROGRAM, IN A SANDBOX (cutbox-rows.mjs): the forced cells as the released guide's own fill.sh prints them over the translation a67902d600913498… (all of the seat's roots in one cut). By AI agents, Wed Nov 11 2026. No macro, syntax, notation, axiom, sorry.
-/
import Derived.Test.YtdbhfigdojkceaaChecked
import GoSem.Claim
import GoSem.ClaimJoined
import GoSem.ClaimMapViews
import Derived.JoinedTies
import Derived.KernelRfl
namespace Go.Proofs.Ytdbhfigdojkceaa
/- THE CELL 'sum', in the pinned program and in every row, IS THE sha256 OF THE DUMP (.gsa) THAT YtdbhfigdojkceaaProg.lean LOADS. Nothing in Lean hashes anything: it is a label: what it is worth is what the hold of that sum in a sandbox is worth. -/
noncomputable def Try.pinned : Pinned := { name := "ytdbhfigdojkceaa", sum := "a67902d6009134989ff47b1ca0198ba0d3fbe45b94a03ad5fed70cb8dfbf26b1", checked := Try.checked }
namespace Rows
def none {H : Type} : Left H := { results := [], args := [] }

/-- 'seriflaw06.MetricPuts': WHATEVER THE INPUT: true; the input reads as it did. -/
def metricPutsSpec : ChangeSpec := { name := "metricPuts", fn := fun _ => fun
  | [d1, d2, d3, d4] => { results := [.lit (.bool true)], args := [d1, d2, d3, d4] }
  | _ => none }
def metricPutsRow : OpenClaim := { program := "ytdbhfigdojkceaa", sum := "a67902d6009134989ff47b1ca0198ba0d3fbe45b94a03ad5fed70cb8dfbf26b1", func := "serif/seriflaw06.MetricPuts", spec := "metricPuts", unfollowed := true, recurses := true, apart := false }
def MetricPutsSaid : Prop := metricPutsRow.holds Try.pinned (OpenSpec.ofChange metricPutsSpec)

/-- ITS FALSE NEIGHBOUR: 'it returns false'. Refute it at one input. -/
def metricPutsWrong : ChangeSpec := { name := "metricPuts", fn := fun _ => fun
  | [d1, d2, d3, d4] => { results := [.lit (.bool false)], args := [d1, d2, d3, d4] }
  | _ => none }
def MetricPutsWrongFalsely : Prop := metricPutsRow.holds Try.pinned (OpenSpec.ofChange metricPutsWrong)

/-- 'seriflaw06.MetricLoads': WHATEVER THE INPUT: true; the input reads as it did. -/
def metricLoadsSpec : ChangeSpec := { name := "metricLoads", fn := fun _ => fun
  | [d1, d2, d3, d4] => { results := [.lit (.bool true)], args := [d1, d2, d3, d4] }
  | _ => none }
def metricLoadsRow : OpenClaim := { program := "ytdbhfigdojkceaa", sum := "a67902d6009134989ff47b1ca0198ba0d3fbe45b94a03ad5fed70cb8dfbf26b1", func := "serif/seriflaw06.MetricLoads", spec := "metricLoads", unfollowed := true, recurses := true, apart := false }
def MetricLoadsSaid : Prop := metricLoadsRow.holds Try.pinned (OpenSpec.ofChange metricLoadsSpec)

/-- ITS FALSE NEIGHBOUR: 'it returns false'. Refute it at one input. -/
def metricLoadsWrong : ChangeSpec := { name := "metricLoads", fn := fun _ => fun
  | [d1, d2, d3, d4] => { results := [.lit (.bool false)], args := [d1, d2, d3, d4] }
  | _ => none }
def MetricLoadsWrongFalsely : Prop := metricLoadsRow.holds Try.pinned (OpenSpec.ofChange metricLoadsWrong)

/-- 'seriflaw06.MetricPlaces': WHATEVER THE INPUT: true; the input reads as it did. -/
def metricPlacesSpec : ChangeSpec := { name := "metricPlaces", fn := fun _ => fun
  | [d1, d2, d3, d4] => { results := [.lit (.bool true)], args := [d1, d2, d3, d4] }
  | _ => none }
def metricPlacesRow : OpenClaim := { program := "ytdbhfigdojkceaa", sum := "a67902d6009134989ff47b1ca0198ba0d3fbe45b94a03ad5fed70cb8dfbf26b1", func := "serif/seriflaw06.MetricPlaces", spec := "metricPlaces", unfollowed := true, recurses := true, apart := false }
def MetricPlacesSaid : Prop := metricPlacesRow.holds Try.pinned (OpenSpec.ofChange metricPlacesSpec)

/-- ITS FALSE NEIGHBOUR: 'it returns false'. Refute it at one input. -/
def metricPlacesWrong : ChangeSpec := { name := "metricPlaces", fn := fun _ => fun
  | [d1, d2, d3, d4] => { results := [.lit (.bool false)], args := [d1, d2, d3, d4] }
  | _ => none }
def MetricPlacesWrongFalsely : Prop := metricPlacesRow.holds Try.pinned (OpenSpec.ofChange metricPlacesWrong)

/-- 'seriflaw06.MetricPlaceLoads': WHATEVER THE INPUT: true; the input reads as it did. -/
def metricPlaceLoadsSpec : ChangeSpec := { name := "metricPlaceLoads", fn := fun _ => fun
  | [d1, d2, d3, d4] => { results := [.lit (.bool true)], args := [d1, d2, d3, d4] }
  | _ => none }
def metricPlaceLoadsRow : OpenClaim := { program := "ytdbhfigdojkceaa", sum := "a67902d6009134989ff47b1ca0198ba0d3fbe45b94a03ad5fed70cb8dfbf26b1", func := "serif/seriflaw06.MetricPlaceLoads", spec := "metricPlaceLoads", unfollowed := true, recurses := true, apart := false }
def MetricPlaceLoadsSaid : Prop := metricPlaceLoadsRow.holds Try.pinned (OpenSpec.ofChange metricPlaceLoadsSpec)

/-- ITS FALSE NEIGHBOUR: 'it returns false'. Refute it at one input. -/
def metricPlaceLoadsWrong : ChangeSpec := { name := "metricPlaceLoads", fn := fun _ => fun
  | [d1, d2, d3, d4] => { results := [.lit (.bool false)], args := [d1, d2, d3, d4] }
  | _ => none }
def MetricPlaceLoadsWrongFalsely : Prop := metricPlaceLoadsRow.holds Try.pinned (OpenSpec.ofChange metricPlaceLoadsWrong)

/-- 'seriflaw06.MetricNobody': WHATEVER THE INPUT: true; the input reads as it did. -/
def metricNobodySpec : ChangeSpec := { name := "metricNobody", fn := fun _ => fun
  | [d] => { results := [.lit (.bool true)], args := [d] }
  | _ => none }
def metricNobodyRow : OpenClaim := { program := "ytdbhfigdojkceaa", sum := "a67902d6009134989ff47b1ca0198ba0d3fbe45b94a03ad5fed70cb8dfbf26b1", func := "serif/seriflaw06.MetricNobody", spec := "metricNobody", unfollowed := true, recurses := true, apart := false }
def MetricNobodySaid : Prop := metricNobodyRow.holds Try.pinned (OpenSpec.ofChange metricNobodySpec)

/-- ITS FALSE NEIGHBOUR: 'it returns false'. Refute it at one input. -/
def metricNobodyWrong : ChangeSpec := { name := "metricNobody", fn := fun _ => fun
  | [d] => { results := [.lit (.bool false)], args := [d] }
  | _ => none }
def MetricNobodyWrongFalsely : Prop := metricNobodyRow.holds Try.pinned (OpenSpec.ofChange metricNobodyWrong)

/- THE SECOND FORM. 'bulk': how many values and letters a reading holds, each counted each time it is reached (what is shared counts as often as it is met; a slice's spare places count too). A statement '..UptoSaid' is the law's where the arguments, and the package variables that the reading takes, are together of bulk at most 1048576: NARROWER than '..Said'. Prove '..Said' where nothing that the law and all that it calls make is longer than what came in: it says more and counts as full. Else prove '..UptoSaid'. A law counts once. -/
mutual
def uptoBulk {H : Type} : DataW H → Nat
  | .lit (.string bytes) => bytes.length + 1
  | .lit _ => 1
  | .nil => 1
  | .ptr d => uptoBulk d + 1
  | .slice elems spare => uptoBulkAll elems + uptoBulkAll spare + 1
  | .agg parts => uptoBulkAll parts + 1
  | .iface _ d => uptoBulk d + 1
  | .map entries => uptoBulkEntries entries + 1
  | .held _ => 1
def uptoBulkAll {H : Type} : List (DataW H) → Nat
  | [] => 0
  | d :: r => uptoBulk d + uptoBulkAll r
def uptoBulkEntries {H : Type} : List (Lit × DataW H) → Nat
  | [] => 0
  | x :: r => uptoBulkEntry x + uptoBulkEntries r
def uptoBulkEntry {H : Type} : Lit × DataW H → Nat
  | (.string bytes, d) => bytes.length + uptoBulk d + 1
  | (_, d) => uptoBulk d + 1
 end
def uptoSmall : (H : Type) → List (DataW H) → Bool := fun _ ds => decide (uptoBulkAll ds ≤ 1048576)
def OpenSpec.upto (s : _root_.Go.ChangeSpec) : _root_.Go.OpenSpec := { _root_.Go.OpenSpec.ofChange s with cond := some uptoSmall }

/-- 'seriflaw06.MetricPuts', WHERE WHAT IT READS IS OF BULK AT MOST 1048576: true; the input reads as it did. -/
def metricPutsUptoRow : OpenClaim := { program := "ytdbhfigdojkceaa", sum := "a67902d6009134989ff47b1ca0198ba0d3fbe45b94a03ad5fed70cb8dfbf26b1", func := "serif/seriflaw06.MetricPuts", spec := "metricPuts", unfollowed := true, recurses := true, apart := false, narrowed := true }
def MetricPutsUptoSaid : Prop := metricPutsUptoRow.holds Try.pinned (OpenSpec.upto metricPutsSpec)

/-- 'seriflaw06.MetricLoads', WHERE WHAT IT READS IS OF BULK AT MOST 1048576: true; the input reads as it did. -/
def metricLoadsUptoRow : OpenClaim := { program := "ytdbhfigdojkceaa", sum := "a67902d6009134989ff47b1ca0198ba0d3fbe45b94a03ad5fed70cb8dfbf26b1", func := "serif/seriflaw06.MetricLoads", spec := "metricLoads", unfollowed := true, recurses := true, apart := false, narrowed := true }
def MetricLoadsUptoSaid : Prop := metricLoadsUptoRow.holds Try.pinned (OpenSpec.upto metricLoadsSpec)

/-- 'seriflaw06.MetricPlaces', WHERE WHAT IT READS IS OF BULK AT MOST 1048576: true; the input reads as it did. -/
def metricPlacesUptoRow : OpenClaim := { program := "ytdbhfigdojkceaa", sum := "a67902d6009134989ff47b1ca0198ba0d3fbe45b94a03ad5fed70cb8dfbf26b1", func := "serif/seriflaw06.MetricPlaces", spec := "metricPlaces", unfollowed := true, recurses := true, apart := false, narrowed := true }
def MetricPlacesUptoSaid : Prop := metricPlacesUptoRow.holds Try.pinned (OpenSpec.upto metricPlacesSpec)

/-- 'seriflaw06.MetricPlaceLoads', WHERE WHAT IT READS IS OF BULK AT MOST 1048576: true; the input reads as it did. -/
def metricPlaceLoadsUptoRow : OpenClaim := { program := "ytdbhfigdojkceaa", sum := "a67902d6009134989ff47b1ca0198ba0d3fbe45b94a03ad5fed70cb8dfbf26b1", func := "serif/seriflaw06.MetricPlaceLoads", spec := "metricPlaceLoads", unfollowed := true, recurses := true, apart := false, narrowed := true }
def MetricPlaceLoadsUptoSaid : Prop := metricPlaceLoadsUptoRow.holds Try.pinned (OpenSpec.upto metricPlaceLoadsSpec)

/-- 'seriflaw06.MetricNobody', WHERE WHAT IT READS IS OF BULK AT MOST 1048576: true; the input reads as it did. -/
def metricNobodyUptoRow : OpenClaim := { program := "ytdbhfigdojkceaa", sum := "a67902d6009134989ff47b1ca0198ba0d3fbe45b94a03ad5fed70cb8dfbf26b1", func := "serif/seriflaw06.MetricNobody", spec := "metricNobody", unfollowed := true, recurses := true, apart := false, narrowed := true }
def MetricNobodyUptoSaid : Prop := metricNobodyUptoRow.holds Try.pinned (OpenSpec.upto metricNobodySpec)

end Rows
end Go.Proofs.Ytdbhfigdojkceaa
