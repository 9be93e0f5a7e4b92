/-
  No cell of these rows narrows 'for every input' (looked for: loops, veiled, ifaces, maps, wideKeys, modest, calm, conditions, laid).
  DERIVED. THE GIVEN ROWS OF THIS SEAT. 5 by the template 'for every input the law returns true; each argument reads behind the call as it read before'; 0 by the template 'total and deterministic' (their statements: YtlacjifnniahhaaTotals.lean).
  GIVEN WITH THE SEED: the statements are not yours to turn. If you find one false, say at which input.
  Laid BY PROGRAM, IN A SANDBOX (cutbox-rows.mjs): the forced cells as the released guide's own fill.sh prints them over the translation b3ecae6de2031e9e… (all of the seat's roots in one cut). By AI agents, Wed Nov 11 2026. No macro, syntax, notation, axiom, sorry.
-/
import Derived.Test.YtlacjifnniahhaaChecked
import GoSem.Claim
import GoSem.ClaimJoined
import GoSem.ClaimMapViews
import Derived.JoinedTies
import Derived.KernelRfl
namespace Go.Proofs.Ytlacjifnniahhaa
/- THE CELL 'sum', in the pinned program and in every row, IS THE sha256 OF THE DUMP (.gsa) THAT YtlacjifnniahhaaProg.lean LOADS. Nothing in Lean hashes anything: it is a label: what it is worth is what the hold of that sum in a sandbox is worth. -/
noncomputable def Try.pinned : Pinned := { name := "ytlacjifnniahhaa", sum := "b3ecae6de2031e9e9af26c32c208cd5ad701eae92c7dd61be2eaf2710fd03653", checked := Try.checked }
namespace Rows
def none {H : Type} : Left H := { results := [], args := [] }

/-- 'seriflaw21.FlattenDots': WHATEVER THE INPUT: true; the input reads as it did. -/
def flattenDotsSpec : ChangeSpec := { name := "flattenDots", fn := fun _ => fun
  | [d1, d2, d3] => { results := [.lit (.bool true)], args := [d1, d2, d3] }
  | _ => none }
def flattenDotsRow : OpenClaim := { program := "ytlacjifnniahhaa", sum := "b3ecae6de2031e9e9af26c32c208cd5ad701eae92c7dd61be2eaf2710fd03653", func := "serif/seriflaw21.FlattenDots", spec := "flattenDots", unfollowed := true, recurses := true, apart := false }
def FlattenDotsSaid : Prop := flattenDotsRow.holds Try.pinned (OpenSpec.ofChange flattenDotsSpec)

/-- ITS FALSE NEIGHBOUR: 'it returns false'. Refute it at one input. -/
def flattenDotsWrong : ChangeSpec := { name := "flattenDots", fn := fun _ => fun
  | [d1, d2, d3] => { results := [.lit (.bool false)], args := [d1, d2, d3] }
  | _ => none }
def FlattenDotsWrongFalsely : Prop := flattenDotsRow.holds Try.pinned (OpenSpec.ofChange flattenDotsWrong)

/-- 'seriflaw21.FlattenOutlines': WHATEVER THE INPUT: true; the input reads as it did. -/
def flattenOutlinesSpec : ChangeSpec := { name := "flattenOutlines", fn := fun _ => fun
  | [d1, d2] => { results := [.lit (.bool true)], args := [d1, d2] }
  | _ => none }
def flattenOutlinesRow : OpenClaim := { program := "ytlacjifnniahhaa", sum := "b3ecae6de2031e9e9af26c32c208cd5ad701eae92c7dd61be2eaf2710fd03653", func := "serif/seriflaw21.FlattenOutlines", spec := "flattenOutlines", unfollowed := true, recurses := true, apart := false }
def FlattenOutlinesSaid : Prop := flattenOutlinesRow.holds Try.pinned (OpenSpec.ofChange flattenOutlinesSpec)

/-- ITS FALSE NEIGHBOUR: 'it returns false'. Refute it at one input. -/
def flattenOutlinesWrong : ChangeSpec := { name := "flattenOutlines", fn := fun _ => fun
  | [d1, d2] => { results := [.lit (.bool false)], args := [d1, d2] }
  | _ => none }
def FlattenOutlinesWrongFalsely : Prop := flattenOutlinesRow.holds Try.pinned (OpenSpec.ofChange flattenOutlinesWrong)

/-- 'seriflaw21.FlattenBoxes': WHATEVER THE INPUT: true; the input reads as it did. -/
def flattenBoxesSpec : ChangeSpec := { name := "flattenBoxes", fn := fun _ => fun
  | [d] => { results := [.lit (.bool true)], args := [d] }
  | _ => none }
def flattenBoxesRow : OpenClaim := { program := "ytlacjifnniahhaa", sum := "b3ecae6de2031e9e9af26c32c208cd5ad701eae92c7dd61be2eaf2710fd03653", func := "serif/seriflaw21.FlattenBoxes", spec := "flattenBoxes", unfollowed := true, recurses := true, apart := false }
def FlattenBoxesSaid : Prop := flattenBoxesRow.holds Try.pinned (OpenSpec.ofChange flattenBoxesSpec)

/-- ITS FALSE NEIGHBOUR: 'it returns false'. Refute it at one input. -/
def flattenBoxesWrong : ChangeSpec := { name := "flattenBoxes", fn := fun _ => fun
  | [d] => { results := [.lit (.bool false)], args := [d] }
  | _ => none }
def FlattenBoxesWrongFalsely : Prop := flattenBoxesRow.holds Try.pinned (OpenSpec.ofChange flattenBoxesWrong)

/-- 'seriflaw21.FlattenMoves': WHATEVER THE INPUT: true; the input reads as it did. -/
def flattenMovesSpec : ChangeSpec := { name := "flattenMoves", fn := fun _ => fun
  | [d1, d2, d3] => { results := [.lit (.bool true)], args := [d1, d2, d3] }
  | _ => none }
def flattenMovesRow : OpenClaim := { program := "ytlacjifnniahhaa", sum := "b3ecae6de2031e9e9af26c32c208cd5ad701eae92c7dd61be2eaf2710fd03653", func := "serif/seriflaw21.FlattenMoves", spec := "flattenMoves", unfollowed := true, recurses := true, apart := false }
def FlattenMovesSaid : Prop := flattenMovesRow.holds Try.pinned (OpenSpec.ofChange flattenMovesSpec)

/-- ITS FALSE NEIGHBOUR: 'it returns false'. Refute it at one input. -/
def flattenMovesWrong : ChangeSpec := { name := "flattenMoves", fn := fun _ => fun
  | [d1, d2, d3] => { results := [.lit (.bool false)], args := [d1, d2, d3] }
  | _ => none }
def FlattenMovesWrongFalsely : Prop := flattenMovesRow.holds Try.pinned (OpenSpec.ofChange flattenMovesWrong)

/-- 'seriflaw21.FlattenPhases': WHATEVER THE INPUT: true; the input reads as it did. -/
def flattenPhasesSpec : ChangeSpec := { name := "flattenPhases", fn := fun _ => fun
  | [d1, d2] => { results := [.lit (.bool true)], args := [d1, d2] }
  | _ => none }
def flattenPhasesRow : OpenClaim := { program := "ytlacjifnniahhaa", sum := "b3ecae6de2031e9e9af26c32c208cd5ad701eae92c7dd61be2eaf2710fd03653", func := "serif/seriflaw21.FlattenPhases", spec := "flattenPhases", unfollowed := true, recurses := true, apart := false }
def FlattenPhasesSaid : Prop := flattenPhasesRow.holds Try.pinned (OpenSpec.ofChange flattenPhasesSpec)

/-- ITS FALSE NEIGHBOUR: 'it returns false'. Refute it at one input. -/
def flattenPhasesWrong : ChangeSpec := { name := "flattenPhases", fn := fun _ => fun
  | [d1, d2] => { results := [.lit (.bool false)], args := [d1, d2] }
  | _ => none }
def FlattenPhasesWrongFalsely : Prop := flattenPhasesRow.holds Try.pinned (OpenSpec.ofChange flattenPhasesWrong)

/- THE SECOND FORM. 'bulk': how many values and letters a reading holds, each counted each time it is reached (what is shared counts as often as it is met; a slice's spare places count too). A statement '..UptoSaid' is the law's where the arguments, and the package variables that the reading takes, are together of bulk at most 1048576: NARROWER than '..Said'. Prove '..Said' where nothing that the law and all that it calls make is longer than what came in: it says more and counts as full. Else prove '..UptoSaid'. A law counts once. -/
mutual
def uptoBulk {H : Type} : DataW H → Nat
  | .lit (.string bytes) => bytes.length + 1
  | .lit _ => 1
  | .nil => 1
  | .ptr d => uptoBulk d + 1
  | .slice elems spare => uptoBulkAll elems + uptoBulkAll spare + 1
  | .agg parts => uptoBulkAll parts + 1
  | .iface _ d => uptoBulk d + 1
  | .map entries => uptoBulkEntries entries + 1
  | .held _ => 1
def uptoBulkAll {H : Type} : List (DataW H) → Nat
  | [] => 0
  | d :: r => uptoBulk d + uptoBulkAll r
def uptoBulkEntries {H : Type} : List (Lit × DataW H) → Nat
  | [] => 0
  | x :: r => uptoBulkEntry x + uptoBulkEntries r
def uptoBulkEntry {H : Type} : Lit × DataW H → Nat
  | (.string bytes, d) => bytes.length + uptoBulk d + 1
  | (_, d) => uptoBulk d + 1
 end
def uptoSmall : (H : Type) → List (DataW H) → Bool := fun _ ds => decide (uptoBulkAll ds ≤ 1048576)
def OpenSpec.upto (s : _root_.Go.ChangeSpec) : _root_.Go.OpenSpec := { _root_.Go.OpenSpec.ofChange s with cond := some uptoSmall }

/-- 'seriflaw21.FlattenDots', WHERE WHAT IT READS IS OF BULK AT MOST 1048576: true; the input reads as it did. -/
def flattenDotsUptoRow : OpenClaim := { program := "ytlacjifnniahhaa", sum := "b3ecae6de2031e9e9af26c32c208cd5ad701eae92c7dd61be2eaf2710fd03653", func := "serif/seriflaw21.FlattenDots", spec := "flattenDots", unfollowed := true, recurses := true, apart := false, narrowed := true }
def FlattenDotsUptoSaid : Prop := flattenDotsUptoRow.holds Try.pinned (OpenSpec.upto flattenDotsSpec)

/-- 'seriflaw21.FlattenOutlines', WHERE WHAT IT READS IS OF BULK AT MOST 1048576: true; the input reads as it did. -/
def flattenOutlinesUptoRow : OpenClaim := { program := "ytlacjifnniahhaa", sum := "b3ecae6de2031e9e9af26c32c208cd5ad701eae92c7dd61be2eaf2710fd03653", func := "serif/seriflaw21.FlattenOutlines", spec := "flattenOutlines", unfollowed := true, recurses := true, apart := false, narrowed := true }
def FlattenOutlinesUptoSaid : Prop := flattenOutlinesUptoRow.holds Try.pinned (OpenSpec.upto flattenOutlinesSpec)

/-- 'seriflaw21.FlattenBoxes', WHERE WHAT IT READS IS OF BULK AT MOST 1048576: true; the input reads as it did. -/
def flattenBoxesUptoRow : OpenClaim := { program := "ytlacjifnniahhaa", sum := "b3ecae6de2031e9e9af26c32c208cd5ad701eae92c7dd61be2eaf2710fd03653", func := "serif/seriflaw21.FlattenBoxes", spec := "flattenBoxes", unfollowed := true, recurses := true, apart := false, narrowed := true }
def FlattenBoxesUptoSaid : Prop := flattenBoxesUptoRow.holds Try.pinned (OpenSpec.upto flattenBoxesSpec)

/-- 'seriflaw21.FlattenMoves', WHERE WHAT IT READS IS OF BULK AT MOST 1048576: true; the input reads as it did. -/
def flattenMovesUptoRow : OpenClaim := { program := "ytlacjifnniahhaa", sum := "b3ecae6de2031e9e9af26c32c208cd5ad701eae92c7dd61be2eaf2710fd03653", func := "serif/seriflaw21.FlattenMoves", spec := "flattenMoves", unfollowed := true, recurses := true, apart := false, narrowed := true }
def FlattenMovesUptoSaid : Prop := flattenMovesUptoRow.holds Try.pinned (OpenSpec.upto flattenMovesSpec)

/-- 'seriflaw21.FlattenPhases', WHERE WHAT IT READS IS OF BULK AT MOST 1048576: true; the input reads as it did. -/
def flattenPhasesUptoRow : OpenClaim := { program := "ytlacjifnniahhaa", sum := "b3ecae6de2031e9e9af26c32c208cd5ad701eae92c7dd61be2eaf2710fd03653", func := "serif/seriflaw21.FlattenPhases", spec := "flattenPhases", unfollowed := true, recurses := true, apart := false, narrowed := true }
def FlattenPhasesUptoSaid : Prop := flattenPhasesUptoRow.holds Try.pinned (OpenSpec.upto flattenPhasesSpec)

end Rows
end Go.Proofs.Ytlacjifnniahhaa
