/-
  No cell of these rows narrows 'for every input' (looked for: loops, veiled, ifaces, maps, wideKeys, modest, calm, conditions, laid).
  DERIVED. THE GIVEN ROWS OF THIS SEAT. 7 by the template 'for every input the law returns true; each argument reads behind the call as it read before'; 0 by the template 'total and deterministic' (their statements: YtdbnjlmkbmfhkaaTotals.lean).
  GIVEN WITH THE SEED: the statements are not yours to turn. If you find one false, say at which input.
  Laid BY PROGRAM, IN A SANDBOX (cutbox-rows.mjs): the forced cells as the released guide's own fill.sh prints them over the translation 147ae93693e0c3fb… (all of the seat's roots in one cut). By AI agents, Wed Nov 11 2026. No macro, syntax, notation, axiom, sorry.
-/
import Derived.Test.YtdbnjlmkbmfhkaaChecked
import GoSem.Claim
import GoSem.ClaimJoined
import GoSem.ClaimMapViews
import Derived.JoinedTies
import Derived.KernelRfl
namespace Go.Proofs.Ytdbnjlmkbmfhkaa
/- THE CELL 'sum', in the pinned program and in every row, IS THE sha256 OF THE DUMP (.gsa) THAT YtdbnjlmkbmfhkaaProg.lean LOADS. Nothing in Lean hashes anything: it is a label: what it is worth is what the hold of that sum in a sandbox is worth. -/
noncomputable def Try.pinned : Pinned := { name := "ytdbnjlmkbmfhkaa", sum := "147ae93693e0c3fb3d5154384ca4b5628e1dd670e0944fc9a1e64f1e18ec7dc6", checked := Try.checked }
namespace Rows
def none {H : Type} : Left H := { results := [], args := [] }

/-- 'seriflaw02.AffineApplies': WHATEVER THE INPUT: true; the input reads as it did. -/
def affineAppliesSpec : ChangeSpec := { name := "affineApplies", fn := fun _ => fun
  | [d1, d2, d3] => { results := [.lit (.bool true)], args := [d1, d2, d3] }
  | _ => none }
def affineAppliesRow : OpenClaim := { program := "ytdbnjlmkbmfhkaa", sum := "147ae93693e0c3fb3d5154384ca4b5628e1dd670e0944fc9a1e64f1e18ec7dc6", func := "serif/seriflaw02.AffineApplies", spec := "affineApplies", unfollowed := true, recurses := true, apart := false }
def AffineAppliesSaid : Prop := affineAppliesRow.holds Try.pinned (OpenSpec.ofChange affineAppliesSpec)

/-- ITS FALSE NEIGHBOUR: 'it returns false'. Refute it at one input. -/
def affineAppliesWrong : ChangeSpec := { name := "affineApplies", fn := fun _ => fun
  | [d1, d2, d3] => { results := [.lit (.bool false)], args := [d1, d2, d3] }
  | _ => none }
def AffineAppliesWrongFalsely : Prop := affineAppliesRow.holds Try.pinned (OpenSpec.ofChange affineAppliesWrong)

/-- 'seriflaw02.AffineThens': WHATEVER THE INPUT: true; the input reads as it did. -/
def affineThensSpec : ChangeSpec := { name := "affineThens", fn := fun _ => fun
  | [d1, d2] => { results := [.lit (.bool true)], args := [d1, d2] }
  | _ => none }
def affineThensRow : OpenClaim := { program := "ytdbnjlmkbmfhkaa", sum := "147ae93693e0c3fb3d5154384ca4b5628e1dd670e0944fc9a1e64f1e18ec7dc6", func := "serif/seriflaw02.AffineThens", spec := "affineThens", unfollowed := true, recurses := true, apart := false }
def AffineThensSaid : Prop := affineThensRow.holds Try.pinned (OpenSpec.ofChange affineThensSpec)

/-- ITS FALSE NEIGHBOUR: 'it returns false'. Refute it at one input. -/
def affineThensWrong : ChangeSpec := { name := "affineThens", fn := fun _ => fun
  | [d1, d2] => { results := [.lit (.bool false)], args := [d1, d2] }
  | _ => none }
def AffineThensWrongFalsely : Prop := affineThensRow.holds Try.pinned (OpenSpec.ofChange affineThensWrong)

/-- 'seriflaw02.AffineBoxes': WHATEVER THE INPUT: true; the input reads as it did. -/
def affineBoxesSpec : ChangeSpec := { name := "affineBoxes", fn := fun _ => fun
  | [d1, d2] => { results := [.lit (.bool true)], args := [d1, d2] }
  | _ => none }
def affineBoxesRow : OpenClaim := { program := "ytdbnjlmkbmfhkaa", sum := "147ae93693e0c3fb3d5154384ca4b5628e1dd670e0944fc9a1e64f1e18ec7dc6", func := "serif/seriflaw02.AffineBoxes", spec := "affineBoxes", unfollowed := true, recurses := true, apart := false }
def AffineBoxesSaid : Prop := affineBoxesRow.holds Try.pinned (OpenSpec.ofChange affineBoxesSpec)

/-- ITS FALSE NEIGHBOUR: 'it returns false'. Refute it at one input. -/
def affineBoxesWrong : ChangeSpec := { name := "affineBoxes", fn := fun _ => fun
  | [d1, d2] => { results := [.lit (.bool false)], args := [d1, d2] }
  | _ => none }
def AffineBoxesWrongFalsely : Prop := affineBoxesRow.holds Try.pinned (OpenSpec.ofChange affineBoxesWrong)

/-- 'seriflaw02.AffineHolds': WHATEVER THE INPUT: true; the input reads as it did. -/
def affineHoldsSpec : ChangeSpec := { name := "affineHolds", fn := fun _ => fun
  | [d1, d2, d3, d4] => { results := [.lit (.bool true)], args := [d1, d2, d3, d4] }
  | _ => none }
def affineHoldsRow : OpenClaim := { program := "ytdbnjlmkbmfhkaa", sum := "147ae93693e0c3fb3d5154384ca4b5628e1dd670e0944fc9a1e64f1e18ec7dc6", func := "serif/seriflaw02.AffineHolds", spec := "affineHolds", unfollowed := true, recurses := true, apart := false }
def AffineHoldsSaid : Prop := affineHoldsRow.holds Try.pinned (OpenSpec.ofChange affineHoldsSpec)

/-- ITS FALSE NEIGHBOUR: 'it returns false'. Refute it at one input. -/
def affineHoldsWrong : ChangeSpec := { name := "affineHolds", fn := fun _ => fun
  | [d1, d2, d3, d4] => { results := [.lit (.bool false)], args := [d1, d2, d3, d4] }
  | _ => none }
def AffineHoldsWrongFalsely : Prop := affineHoldsRow.holds Try.pinned (OpenSpec.ofChange affineHoldsWrong)

/-- 'seriflaw02.AffineShifts': WHATEVER THE INPUT: true; the input reads as it did. -/
def affineShiftsSpec : ChangeSpec := { name := "affineShifts", fn := fun _ => fun
  | [d1, d2, d3] => { results := [.lit (.bool true)], args := [d1, d2, d3] }
  | _ => none }
def affineShiftsRow : OpenClaim := { program := "ytdbnjlmkbmfhkaa", sum := "147ae93693e0c3fb3d5154384ca4b5628e1dd670e0944fc9a1e64f1e18ec7dc6", func := "serif/seriflaw02.AffineShifts", spec := "affineShifts", unfollowed := true, recurses := true, apart := false }
def AffineShiftsSaid : Prop := affineShiftsRow.holds Try.pinned (OpenSpec.ofChange affineShiftsSpec)

/-- ITS FALSE NEIGHBOUR: 'it returns false'. Refute it at one input. -/
def affineShiftsWrong : ChangeSpec := { name := "affineShifts", fn := fun _ => fun
  | [d1, d2, d3] => { results := [.lit (.bool false)], args := [d1, d2, d3] }
  | _ => none }
def AffineShiftsWrongFalsely : Prop := affineShiftsRow.holds Try.pinned (OpenSpec.ofChange affineShiftsWrong)

/-- 'seriflaw02.AffineHulls': WHATEVER THE INPUT: true; the input reads as it did. -/
def affineHullsSpec : ChangeSpec := { name := "affineHulls", fn := fun _ => fun
  | [d1, d2] => { results := [.lit (.bool true)], args := [d1, d2] }
  | _ => none }
def affineHullsRow : OpenClaim := { program := "ytdbnjlmkbmfhkaa", sum := "147ae93693e0c3fb3d5154384ca4b5628e1dd670e0944fc9a1e64f1e18ec7dc6", func := "serif/seriflaw02.AffineHulls", spec := "affineHulls", unfollowed := true, recurses := true, apart := false }
def AffineHullsSaid : Prop := affineHullsRow.holds Try.pinned (OpenSpec.ofChange affineHullsSpec)

/-- ITS FALSE NEIGHBOUR: 'it returns false'. Refute it at one input. -/
def affineHullsWrong : ChangeSpec := { name := "affineHulls", fn := fun _ => fun
  | [d1, d2] => { results := [.lit (.bool false)], args := [d1, d2] }
  | _ => none }
def AffineHullsWrongFalsely : Prop := affineHullsRow.holds Try.pinned (OpenSpec.ofChange affineHullsWrong)

/-- 'seriflaw03.WireWrites': WHATEVER THE INPUT: true; the input reads as it did. -/
def wireWritesSpec : ChangeSpec := { name := "wireWrites", fn := fun _ => fun
  | [d1, d2] => { results := [.lit (.bool true)], args := [d1, d2] }
  | _ => none }
def wireWritesRow : OpenClaim := { program := "ytdbnjlmkbmfhkaa", sum := "147ae93693e0c3fb3d5154384ca4b5628e1dd670e0944fc9a1e64f1e18ec7dc6", func := "serif/seriflaw03.WireWrites", spec := "wireWrites", apart := false }
def WireWritesSaid : Prop := wireWritesRow.holds Try.pinned (OpenSpec.ofChange wireWritesSpec)

/-- ITS FALSE NEIGHBOUR: 'it returns false'. Refute it at one input. -/
def wireWritesWrong : ChangeSpec := { name := "wireWrites", fn := fun _ => fun
  | [d1, d2] => { results := [.lit (.bool false)], args := [d1, d2] }
  | _ => none }
def WireWritesWrongFalsely : Prop := wireWritesRow.holds Try.pinned (OpenSpec.ofChange wireWritesWrong)

/- THE SECOND FORM. 'bulk': how many values and letters a reading holds, each counted each time it is reached (what is shared counts as often as it is met; a slice's spare places count too). A statement '..UptoSaid' is the law's where the arguments, and the package variables that the reading takes, are together of bulk at most 1048576: NARROWER than '..Said'. Prove '..Said' where nothing that the law and all that it calls make is longer than what came in: it says more and counts as full. Else prove '..UptoSaid'. A law counts once. -/
mutual
def uptoBulk {H : Type} : DataW H → Nat
  | .lit (.string bytes) => bytes.length + 1
  | .lit _ => 1
  | .nil => 1
  | .ptr d => uptoBulk d + 1
  | .slice elems spare => uptoBulkAll elems + uptoBulkAll spare + 1
  | .agg parts => uptoBulkAll parts + 1
  | .iface _ d => uptoBulk d + 1
  | .map entries => uptoBulkEntries entries + 1
  | .held _ => 1
def uptoBulkAll {H : Type} : List (DataW H) → Nat
  | [] => 0
  | d :: r => uptoBulk d + uptoBulkAll r
def uptoBulkEntries {H : Type} : List (Lit × DataW H) → Nat
  | [] => 0
  | x :: r => uptoBulkEntry x + uptoBulkEntries r
def uptoBulkEntry {H : Type} : Lit × DataW H → Nat
  | (.string bytes, d) => bytes.length + uptoBulk d + 1
  | (_, d) => uptoBulk d + 1
 end
def uptoSmall : (H : Type) → List (DataW H) → Bool := fun _ ds => decide (uptoBulkAll ds ≤ 1048576)
def OpenSpec.upto (s : _root_.Go.ChangeSpec) : _root_.Go.OpenSpec := { _root_.Go.OpenSpec.ofChange s with cond := some uptoSmall }

/-- 'seriflaw02.AffineApplies', WHERE WHAT IT READS IS OF BULK AT MOST 1048576: true; the input reads as it did. -/
def affineAppliesUptoRow : OpenClaim := { program := "ytdbnjlmkbmfhkaa", sum := "147ae93693e0c3fb3d5154384ca4b5628e1dd670e0944fc9a1e64f1e18ec7dc6", func := "serif/seriflaw02.AffineApplies", spec := "affineApplies", unfollowed := true, recurses := true, apart := false, narrowed := true }
def AffineAppliesUptoSaid : Prop := affineAppliesUptoRow.holds Try.pinned (OpenSpec.upto affineAppliesSpec)

/-- 'seriflaw02.AffineThens', WHERE WHAT IT READS IS OF BULK AT MOST 1048576: true; the input reads as it did. -/
def affineThensUptoRow : OpenClaim := { program := "ytdbnjlmkbmfhkaa", sum := "147ae93693e0c3fb3d5154384ca4b5628e1dd670e0944fc9a1e64f1e18ec7dc6", func := "serif/seriflaw02.AffineThens", spec := "affineThens", unfollowed := true, recurses := true, apart := false, narrowed := true }
def AffineThensUptoSaid : Prop := affineThensUptoRow.holds Try.pinned (OpenSpec.upto affineThensSpec)

/-- 'seriflaw02.AffineBoxes', WHERE WHAT IT READS IS OF BULK AT MOST 1048576: true; the input reads as it did. -/
def affineBoxesUptoRow : OpenClaim := { program := "ytdbnjlmkbmfhkaa", sum := "147ae93693e0c3fb3d5154384ca4b5628e1dd670e0944fc9a1e64f1e18ec7dc6", func := "serif/seriflaw02.AffineBoxes", spec := "affineBoxes", unfollowed := true, recurses := true, apart := false, narrowed := true }
def AffineBoxesUptoSaid : Prop := affineBoxesUptoRow.holds Try.pinned (OpenSpec.upto affineBoxesSpec)

/-- 'seriflaw02.AffineHolds', WHERE WHAT IT READS IS OF BULK AT MOST 1048576: true; the input reads as it did. -/
def affineHoldsUptoRow : OpenClaim := { program := "ytdbnjlmkbmfhkaa", sum := "147ae93693e0c3fb3d5154384ca4b5628e1dd670e0944fc9a1e64f1e18ec7dc6", func := "serif/seriflaw02.AffineHolds", spec := "affineHolds", unfollowed := true, recurses := true, apart := false, narrowed := true }
def AffineHoldsUptoSaid : Prop := affineHoldsUptoRow.holds Try.pinned (OpenSpec.upto affineHoldsSpec)

/-- 'seriflaw02.AffineShifts', WHERE WHAT IT READS IS OF BULK AT MOST 1048576: true; the input reads as it did. -/
def affineShiftsUptoRow : OpenClaim := { program := "ytdbnjlmkbmfhkaa", sum := "147ae93693e0c3fb3d5154384ca4b5628e1dd670e0944fc9a1e64f1e18ec7dc6", func := "serif/seriflaw02.AffineShifts", spec := "affineShifts", unfollowed := true, recurses := true, apart := false, narrowed := true }
def AffineShiftsUptoSaid : Prop := affineShiftsUptoRow.holds Try.pinned (OpenSpec.upto affineShiftsSpec)

/-- 'seriflaw02.AffineHulls', WHERE WHAT IT READS IS OF BULK AT MOST 1048576: true; the input reads as it did. -/
def affineHullsUptoRow : OpenClaim := { program := "ytdbnjlmkbmfhkaa", sum := "147ae93693e0c3fb3d5154384ca4b5628e1dd670e0944fc9a1e64f1e18ec7dc6", func := "serif/seriflaw02.AffineHulls", spec := "affineHulls", unfollowed := true, recurses := true, apart := false, narrowed := true }
def AffineHullsUptoSaid : Prop := affineHullsUptoRow.holds Try.pinned (OpenSpec.upto affineHullsSpec)

/-- 'seriflaw03.WireWrites', WHERE WHAT IT READS IS OF BULK AT MOST 1048576: true; the input reads as it did. -/
def wireWritesUptoRow : OpenClaim := { program := "ytdbnjlmkbmfhkaa", sum := "147ae93693e0c3fb3d5154384ca4b5628e1dd670e0944fc9a1e64f1e18ec7dc6", func := "serif/seriflaw03.WireWrites", spec := "wireWrites", apart := false, narrowed := true }
def WireWritesUptoSaid : Prop := wireWritesUptoRow.holds Try.pinned (OpenSpec.upto wireWritesSpec)

end Rows
end Go.Proofs.Ytdbnjlmkbmfhkaa
