/-
  No cell of these rows narrows 'for every input' (looked for: loops, veiled, ifaces, maps, wideKeys, modest, calm, conditions, laid).
  DERIVED. THE GIVEN ROWS OF THIS SEAT. 12 by the template 'for every input the law returns true; each argument reads behind the call as it read before'; 0 by the template 'total and deterministic' (their statements: YtpodlcjahfdpmaaTotals.lean).
  GIVEN WITH THE SEED: the statements are not yours to turn. If you find one false, say at which input.
  Laid BY PROGRAM, IN A SANDBOX (cutbox-rows.mjs): the forced cells as the released guide's own fill.sh prints them over the translation 12d6def82fc83491… (all of the seat's roots in one cut). By AI agents, Wed Nov 11 2026. No macro, syntax, notation, axiom, sorry.
-/
import Derived.Test.YtpodlcjahfdpmaaChecked
import GoSem.Claim
import GoSem.ClaimJoined
import GoSem.ClaimMapViews
import Derived.JoinedTies
import Derived.KernelRfl
namespace Go.Proofs.Ytpodlcjahfdpmaa
/- THE CELL 'sum', in the pinned program and in every row, IS THE sha256 OF THE DUMP (.gsa) THAT YtpodlcjahfdpmaaProg.lean LOADS. Nothing in Lean hashes anything: it is a label: what it is worth is what the hold of that sum in a sandbox is worth. -/
noncomputable def Try.pinned : Pinned := { name := "ytpodlcjahfdpmaa", sum := "12d6def82fc83491e4378b39d64216d69f9de32f0db6cebd11b775cf5e903d43", checked := Try.checked }
namespace Rows
def none {H : Type} : Left H := { results := [], args := [] }

/-- 'seriflaw01.FixedAdds': WHATEVER THE INPUT: true; the input reads as it did. -/
def fixedAddsSpec : ChangeSpec := { name := "fixedAdds", fn := fun _ => fun
  | [d1, d2] => { results := [.lit (.bool true)], args := [d1, d2] }
  | _ => none }
def fixedAddsRow : OpenClaim := { program := "ytpodlcjahfdpmaa", sum := "12d6def82fc83491e4378b39d64216d69f9de32f0db6cebd11b775cf5e903d43", func := "serif/seriflaw01.FixedAdds", spec := "fixedAdds", unfollowed := true, recurses := true, apart := false }
def FixedAddsSaid : Prop := fixedAddsRow.holds Try.pinned (OpenSpec.ofChange fixedAddsSpec)

/-- ITS FALSE NEIGHBOUR: 'it returns false'. Refute it at one input. -/
def fixedAddsWrong : ChangeSpec := { name := "fixedAdds", fn := fun _ => fun
  | [d1, d2] => { results := [.lit (.bool false)], args := [d1, d2] }
  | _ => none }
def FixedAddsWrongFalsely : Prop := fixedAddsRow.holds Try.pinned (OpenSpec.ofChange fixedAddsWrong)

/-- 'seriflaw01.FixedMuls': WHATEVER THE INPUT: true; the input reads as it did. -/
def fixedMulsSpec : ChangeSpec := { name := "fixedMuls", fn := fun _ => fun
  | [d1, d2] => { results := [.lit (.bool true)], args := [d1, d2] }
  | _ => none }
def fixedMulsRow : OpenClaim := { program := "ytpodlcjahfdpmaa", sum := "12d6def82fc83491e4378b39d64216d69f9de32f0db6cebd11b775cf5e903d43", func := "serif/seriflaw01.FixedMuls", spec := "fixedMuls", unfollowed := true, recurses := true, apart := false }
def FixedMulsSaid : Prop := fixedMulsRow.holds Try.pinned (OpenSpec.ofChange fixedMulsSpec)

/-- ITS FALSE NEIGHBOUR: 'it returns false'. Refute it at one input. -/
def fixedMulsWrong : ChangeSpec := { name := "fixedMuls", fn := fun _ => fun
  | [d1, d2] => { results := [.lit (.bool false)], args := [d1, d2] }
  | _ => none }
def FixedMulsWrongFalsely : Prop := fixedMulsRow.holds Try.pinned (OpenSpec.ofChange fixedMulsWrong)

/-- 'seriflaw01.FixedDivs': WHATEVER THE INPUT: true; the input reads as it did. -/
def fixedDivsSpec : ChangeSpec := { name := "fixedDivs", fn := fun _ => fun
  | [d1, d2] => { results := [.lit (.bool true)], args := [d1, d2] }
  | _ => none }
def fixedDivsRow : OpenClaim := { program := "ytpodlcjahfdpmaa", sum := "12d6def82fc83491e4378b39d64216d69f9de32f0db6cebd11b775cf5e903d43", func := "serif/seriflaw01.FixedDivs", spec := "fixedDivs", unfollowed := true, recurses := true, apart := false }
def FixedDivsSaid : Prop := fixedDivsRow.holds Try.pinned (OpenSpec.ofChange fixedDivsSpec)

/-- ITS FALSE NEIGHBOUR: 'it returns false'. Refute it at one input. -/
def fixedDivsWrong : ChangeSpec := { name := "fixedDivs", fn := fun _ => fun
  | [d1, d2] => { results := [.lit (.bool false)], args := [d1, d2] }
  | _ => none }
def FixedDivsWrongFalsely : Prop := fixedDivsRow.holds Try.pinned (OpenSpec.ofChange fixedDivsWrong)

/-- 'seriflaw01.FixedMulDivs': WHATEVER THE INPUT: true; the input reads as it did. -/
def fixedMulDivsSpec : ChangeSpec := { name := "fixedMulDivs", fn := fun _ => fun
  | [d1, d2, d3] => { results := [.lit (.bool true)], args := [d1, d2, d3] }
  | _ => none }
def fixedMulDivsRow : OpenClaim := { program := "ytpodlcjahfdpmaa", sum := "12d6def82fc83491e4378b39d64216d69f9de32f0db6cebd11b775cf5e903d43", func := "serif/seriflaw01.FixedMulDivs", spec := "fixedMulDivs", unfollowed := true, recurses := true, apart := false }
def FixedMulDivsSaid : Prop := fixedMulDivsRow.holds Try.pinned (OpenSpec.ofChange fixedMulDivsSpec)

/-- ITS FALSE NEIGHBOUR: 'it returns false'. Refute it at one input. -/
def fixedMulDivsWrong : ChangeSpec := { name := "fixedMulDivs", fn := fun _ => fun
  | [d1, d2, d3] => { results := [.lit (.bool false)], args := [d1, d2, d3] }
  | _ => none }
def FixedMulDivsWrongFalsely : Prop := fixedMulDivsRow.holds Try.pinned (OpenSpec.ofChange fixedMulDivsWrong)

/-- 'seriflaw01.FixedNears': WHATEVER THE INPUT: true; the input reads as it did. -/
def fixedNearsSpec : ChangeSpec := { name := "fixedNears", fn := fun _ => fun
  | [d1, d2] => { results := [.lit (.bool true)], args := [d1, d2] }
  | _ => none }
def fixedNearsRow : OpenClaim := { program := "ytpodlcjahfdpmaa", sum := "12d6def82fc83491e4378b39d64216d69f9de32f0db6cebd11b775cf5e903d43", func := "serif/seriflaw01.FixedNears", spec := "fixedNears", unfollowed := true, recurses := true, apart := false }
def FixedNearsSaid : Prop := fixedNearsRow.holds Try.pinned (OpenSpec.ofChange fixedNearsSpec)

/-- ITS FALSE NEIGHBOUR: 'it returns false'. Refute it at one input. -/
def fixedNearsWrong : ChangeSpec := { name := "fixedNears", fn := fun _ => fun
  | [d1, d2] => { results := [.lit (.bool false)], args := [d1, d2] }
  | _ => none }
def FixedNearsWrongFalsely : Prop := fixedNearsRow.holds Try.pinned (OpenSpec.ofChange fixedNearsWrong)

/-- 'seriflaw01.FixedRounds': WHATEVER THE INPUT: true; the input reads as it did. -/
def fixedRoundsSpec : ChangeSpec := { name := "fixedRounds", fn := fun _ => fun
  | [d] => { results := [.lit (.bool true)], args := [d] }
  | _ => none }
def fixedRoundsRow : OpenClaim := { program := "ytpodlcjahfdpmaa", sum := "12d6def82fc83491e4378b39d64216d69f9de32f0db6cebd11b775cf5e903d43", func := "serif/seriflaw01.FixedRounds", spec := "fixedRounds", unfollowed := true, recurses := true, apart := false }
def FixedRoundsSaid : Prop := fixedRoundsRow.holds Try.pinned (OpenSpec.ofChange fixedRoundsSpec)

/-- ITS FALSE NEIGHBOUR: 'it returns false'. Refute it at one input. -/
def fixedRoundsWrong : ChangeSpec := { name := "fixedRounds", fn := fun _ => fun
  | [d] => { results := [.lit (.bool false)], args := [d] }
  | _ => none }
def FixedRoundsWrongFalsely : Prop := fixedRoundsRow.holds Try.pinned (OpenSpec.ofChange fixedRoundsWrong)

/-- 'seriflaw01.FixedRoots': WHATEVER THE INPUT: true; the input reads as it did. -/
def fixedRootsSpec : ChangeSpec := { name := "fixedRoots", fn := fun _ => fun
  | [d] => { results := [.lit (.bool true)], args := [d] }
  | _ => none }
def fixedRootsRow : OpenClaim := { program := "ytpodlcjahfdpmaa", sum := "12d6def82fc83491e4378b39d64216d69f9de32f0db6cebd11b775cf5e903d43", func := "serif/seriflaw01.FixedRoots", spec := "fixedRoots", unfollowed := true, recurses := true, apart := false }
def FixedRootsSaid : Prop := fixedRootsRow.holds Try.pinned (OpenSpec.ofChange fixedRootsSpec)

/-- ITS FALSE NEIGHBOUR: 'it returns false'. Refute it at one input. -/
def fixedRootsWrong : ChangeSpec := { name := "fixedRoots", fn := fun _ => fun
  | [d] => { results := [.lit (.bool false)], args := [d] }
  | _ => none }
def FixedRootsWrongFalsely : Prop := fixedRootsRow.holds Try.pinned (OpenSpec.ofChange fixedRootsWrong)

/-- 'seriflaw02.AffineApplies': WHATEVER THE INPUT: true; the input reads as it did. -/
def affineAppliesSpec : ChangeSpec := { name := "affineApplies", fn := fun _ => fun
  | [d1, d2, d3] => { results := [.lit (.bool true)], args := [d1, d2, d3] }
  | _ => none }
def affineAppliesRow : OpenClaim := { program := "ytpodlcjahfdpmaa", sum := "12d6def82fc83491e4378b39d64216d69f9de32f0db6cebd11b775cf5e903d43", func := "serif/seriflaw02.AffineApplies", spec := "affineApplies", unfollowed := true, recurses := true, apart := false }
def AffineAppliesSaid : Prop := affineAppliesRow.holds Try.pinned (OpenSpec.ofChange affineAppliesSpec)

/-- ITS FALSE NEIGHBOUR: 'it returns false'. Refute it at one input. -/
def affineAppliesWrong : ChangeSpec := { name := "affineApplies", fn := fun _ => fun
  | [d1, d2, d3] => { results := [.lit (.bool false)], args := [d1, d2, d3] }
  | _ => none }
def AffineAppliesWrongFalsely : Prop := affineAppliesRow.holds Try.pinned (OpenSpec.ofChange affineAppliesWrong)

/-- 'seriflaw02.AffineThens': WHATEVER THE INPUT: true; the input reads as it did. -/
def affineThensSpec : ChangeSpec := { name := "affineThens", fn := fun _ => fun
  | [d1, d2] => { results := [.lit (.bool true)], args := [d1, d2] }
  | _ => none }
def affineThensRow : OpenClaim := { program := "ytpodlcjahfdpmaa", sum := "12d6def82fc83491e4378b39d64216d69f9de32f0db6cebd11b775cf5e903d43", func := "serif/seriflaw02.AffineThens", spec := "affineThens", unfollowed := true, recurses := true, apart := false }
def AffineThensSaid : Prop := affineThensRow.holds Try.pinned (OpenSpec.ofChange affineThensSpec)

/-- ITS FALSE NEIGHBOUR: 'it returns false'. Refute it at one input. -/
def affineThensWrong : ChangeSpec := { name := "affineThens", fn := fun _ => fun
  | [d1, d2] => { results := [.lit (.bool false)], args := [d1, d2] }
  | _ => none }
def AffineThensWrongFalsely : Prop := affineThensRow.holds Try.pinned (OpenSpec.ofChange affineThensWrong)

/-- 'seriflaw02.AffineBoxes': WHATEVER THE INPUT: true; the input reads as it did. -/
def affineBoxesSpec : ChangeSpec := { name := "affineBoxes", fn := fun _ => fun
  | [d1, d2] => { results := [.lit (.bool true)], args := [d1, d2] }
  | _ => none }
def affineBoxesRow : OpenClaim := { program := "ytpodlcjahfdpmaa", sum := "12d6def82fc83491e4378b39d64216d69f9de32f0db6cebd11b775cf5e903d43", func := "serif/seriflaw02.AffineBoxes", spec := "affineBoxes", unfollowed := true, recurses := true, apart := false }
def AffineBoxesSaid : Prop := affineBoxesRow.holds Try.pinned (OpenSpec.ofChange affineBoxesSpec)

/-- ITS FALSE NEIGHBOUR: 'it returns false'. Refute it at one input. -/
def affineBoxesWrong : ChangeSpec := { name := "affineBoxes", fn := fun _ => fun
  | [d1, d2] => { results := [.lit (.bool false)], args := [d1, d2] }
  | _ => none }
def AffineBoxesWrongFalsely : Prop := affineBoxesRow.holds Try.pinned (OpenSpec.ofChange affineBoxesWrong)

/-- 'seriflaw02.AffineHolds': WHATEVER THE INPUT: true; the input reads as it did. -/
def affineHoldsSpec : ChangeSpec := { name := "affineHolds", fn := fun _ => fun
  | [d1, d2, d3, d4] => { results := [.lit (.bool true)], args := [d1, d2, d3, d4] }
  | _ => none }
def affineHoldsRow : OpenClaim := { program := "ytpodlcjahfdpmaa", sum := "12d6def82fc83491e4378b39d64216d69f9de32f0db6cebd11b775cf5e903d43", func := "serif/seriflaw02.AffineHolds", spec := "affineHolds", unfollowed := true, recurses := true, apart := false }
def AffineHoldsSaid : Prop := affineHoldsRow.holds Try.pinned (OpenSpec.ofChange affineHoldsSpec)

/-- ITS FALSE NEIGHBOUR: 'it returns false'. Refute it at one input. -/
def affineHoldsWrong : ChangeSpec := { name := "affineHolds", fn := fun _ => fun
  | [d1, d2, d3, d4] => { results := [.lit (.bool false)], args := [d1, d2, d3, d4] }
  | _ => none }
def AffineHoldsWrongFalsely : Prop := affineHoldsRow.holds Try.pinned (OpenSpec.ofChange affineHoldsWrong)

/-- 'seriflaw02.AffineShifts': WHATEVER THE INPUT: true; the input reads as it did. -/
def affineShiftsSpec : ChangeSpec := { name := "affineShifts", fn := fun _ => fun
  | [d1, d2, d3] => { results := [.lit (.bool true)], args := [d1, d2, d3] }
  | _ => none }
def affineShiftsRow : OpenClaim := { program := "ytpodlcjahfdpmaa", sum := "12d6def82fc83491e4378b39d64216d69f9de32f0db6cebd11b775cf5e903d43", func := "serif/seriflaw02.AffineShifts", spec := "affineShifts", unfollowed := true, recurses := true, apart := false }
def AffineShiftsSaid : Prop := affineShiftsRow.holds Try.pinned (OpenSpec.ofChange affineShiftsSpec)

/-- ITS FALSE NEIGHBOUR: 'it returns false'. Refute it at one input. -/
def affineShiftsWrong : ChangeSpec := { name := "affineShifts", fn := fun _ => fun
  | [d1, d2, d3] => { results := [.lit (.bool false)], args := [d1, d2, d3] }
  | _ => none }
def AffineShiftsWrongFalsely : Prop := affineShiftsRow.holds Try.pinned (OpenSpec.ofChange affineShiftsWrong)

/- THE SECOND FORM. 'bulk': how many values and letters a reading holds, each counted each time it is reached (what is shared counts as often as it is met; a slice's spare places count too). A statement '..UptoSaid' is the law's where the arguments, and the package variables that the reading takes, are together of bulk at most 1048576: NARROWER than '..Said'. Prove '..Said' where nothing that the law and all that it calls make is longer than what came in: it says more and counts as full. Else prove '..UptoSaid'. A law counts once. -/
mutual
def uptoBulk {H : Type} : DataW H → Nat
  | .lit (.string bytes) => bytes.length + 1
  | .lit _ => 1
  | .nil => 1
  | .ptr d => uptoBulk d + 1
  | .slice elems spare => uptoBulkAll elems + uptoBulkAll spare + 1
  | .agg parts => uptoBulkAll parts + 1
  | .iface _ d => uptoBulk d + 1
  | .map entries => uptoBulkEntries entries + 1
  | .held _ => 1
def uptoBulkAll {H : Type} : List (DataW H) → Nat
  | [] => 0
  | d :: r => uptoBulk d + uptoBulkAll r
def uptoBulkEntries {H : Type} : List (Lit × DataW H) → Nat
  | [] => 0
  | x :: r => uptoBulkEntry x + uptoBulkEntries r
def uptoBulkEntry {H : Type} : Lit × DataW H → Nat
  | (.string bytes, d) => bytes.length + uptoBulk d + 1
  | (_, d) => uptoBulk d + 1
 end
def uptoSmall : (H : Type) → List (DataW H) → Bool := fun _ ds => decide (uptoBulkAll ds ≤ 1048576)
def OpenSpec.upto (s : _root_.Go.ChangeSpec) : _root_.Go.OpenSpec := { _root_.Go.OpenSpec.ofChange s with cond := some uptoSmall }

/-- 'seriflaw01.FixedAdds', WHERE WHAT IT READS IS OF BULK AT MOST 1048576: true; the input reads as it did. -/
def fixedAddsUptoRow : OpenClaim := { program := "ytpodlcjahfdpmaa", sum := "12d6def82fc83491e4378b39d64216d69f9de32f0db6cebd11b775cf5e903d43", func := "serif/seriflaw01.FixedAdds", spec := "fixedAdds", unfollowed := true, recurses := true, apart := false, narrowed := true }
def FixedAddsUptoSaid : Prop := fixedAddsUptoRow.holds Try.pinned (OpenSpec.upto fixedAddsSpec)

/-- 'seriflaw01.FixedMuls', WHERE WHAT IT READS IS OF BULK AT MOST 1048576: true; the input reads as it did. -/
def fixedMulsUptoRow : OpenClaim := { program := "ytpodlcjahfdpmaa", sum := "12d6def82fc83491e4378b39d64216d69f9de32f0db6cebd11b775cf5e903d43", func := "serif/seriflaw01.FixedMuls", spec := "fixedMuls", unfollowed := true, recurses := true, apart := false, narrowed := true }
def FixedMulsUptoSaid : Prop := fixedMulsUptoRow.holds Try.pinned (OpenSpec.upto fixedMulsSpec)

/-- 'seriflaw01.FixedDivs', WHERE WHAT IT READS IS OF BULK AT MOST 1048576: true; the input reads as it did. -/
def fixedDivsUptoRow : OpenClaim := { program := "ytpodlcjahfdpmaa", sum := "12d6def82fc83491e4378b39d64216d69f9de32f0db6cebd11b775cf5e903d43", func := "serif/seriflaw01.FixedDivs", spec := "fixedDivs", unfollowed := true, recurses := true, apart := false, narrowed := true }
def FixedDivsUptoSaid : Prop := fixedDivsUptoRow.holds Try.pinned (OpenSpec.upto fixedDivsSpec)

/-- 'seriflaw01.FixedMulDivs', WHERE WHAT IT READS IS OF BULK AT MOST 1048576: true; the input reads as it did. -/
def fixedMulDivsUptoRow : OpenClaim := { program := "ytpodlcjahfdpmaa", sum := "12d6def82fc83491e4378b39d64216d69f9de32f0db6cebd11b775cf5e903d43", func := "serif/seriflaw01.FixedMulDivs", spec := "fixedMulDivs", unfollowed := true, recurses := true, apart := false, narrowed := true }
def FixedMulDivsUptoSaid : Prop := fixedMulDivsUptoRow.holds Try.pinned (OpenSpec.upto fixedMulDivsSpec)

/-- 'seriflaw01.FixedNears', WHERE WHAT IT READS IS OF BULK AT MOST 1048576: true; the input reads as it did. -/
def fixedNearsUptoRow : OpenClaim := { program := "ytpodlcjahfdpmaa", sum := "12d6def82fc83491e4378b39d64216d69f9de32f0db6cebd11b775cf5e903d43", func := "serif/seriflaw01.FixedNears", spec := "fixedNears", unfollowed := true, recurses := true, apart := false, narrowed := true }
def FixedNearsUptoSaid : Prop := fixedNearsUptoRow.holds Try.pinned (OpenSpec.upto fixedNearsSpec)

/-- 'seriflaw01.FixedRounds', WHERE WHAT IT READS IS OF BULK AT MOST 1048576: true; the input reads as it did. -/
def fixedRoundsUptoRow : OpenClaim := { program := "ytpodlcjahfdpmaa", sum := "12d6def82fc83491e4378b39d64216d69f9de32f0db6cebd11b775cf5e903d43", func := "serif/seriflaw01.FixedRounds", spec := "fixedRounds", unfollowed := true, recurses := true, apart := false, narrowed := true }
def FixedRoundsUptoSaid : Prop := fixedRoundsUptoRow.holds Try.pinned (OpenSpec.upto fixedRoundsSpec)

/-- 'seriflaw01.FixedRoots', WHERE WHAT IT READS IS OF BULK AT MOST 1048576: true; the input reads as it did. -/
def fixedRootsUptoRow : OpenClaim := { program := "ytpodlcjahfdpmaa", sum := "12d6def82fc83491e4378b39d64216d69f9de32f0db6cebd11b775cf5e903d43", func := "serif/seriflaw01.FixedRoots", spec := "fixedRoots", unfollowed := true, recurses := true, apart := false, narrowed := true }
def FixedRootsUptoSaid : Prop := fixedRootsUptoRow.holds Try.pinned (OpenSpec.upto fixedRootsSpec)

/-- 'seriflaw02.AffineApplies', WHERE WHAT IT READS IS OF BULK AT MOST 1048576: true; the input reads as it did. -/
def affineAppliesUptoRow : OpenClaim := { program := "ytpodlcjahfdpmaa", sum := "12d6def82fc83491e4378b39d64216d69f9de32f0db6cebd11b775cf5e903d43", func := "serif/seriflaw02.AffineApplies", spec := "affineApplies", unfollowed := true, recurses := true, apart := false, narrowed := true }
def AffineAppliesUptoSaid : Prop := affineAppliesUptoRow.holds Try.pinned (OpenSpec.upto affineAppliesSpec)

/-- 'seriflaw02.AffineThens', WHERE WHAT IT READS IS OF BULK AT MOST 1048576: true; the input reads as it did. -/
def affineThensUptoRow : OpenClaim := { program := "ytpodlcjahfdpmaa", sum := "12d6def82fc83491e4378b39d64216d69f9de32f0db6cebd11b775cf5e903d43", func := "serif/seriflaw02.AffineThens", spec := "affineThens", unfollowed := true, recurses := true, apart := false, narrowed := true }
def AffineThensUptoSaid : Prop := affineThensUptoRow.holds Try.pinned (OpenSpec.upto affineThensSpec)

/-- 'seriflaw02.AffineBoxes', WHERE WHAT IT READS IS OF BULK AT MOST 1048576: true; the input reads as it did. -/
def affineBoxesUptoRow : OpenClaim := { program := "ytpodlcjahfdpmaa", sum := "12d6def82fc83491e4378b39d64216d69f9de32f0db6cebd11b775cf5e903d43", func := "serif/seriflaw02.AffineBoxes", spec := "affineBoxes", unfollowed := true, recurses := true, apart := false, narrowed := true }
def AffineBoxesUptoSaid : Prop := affineBoxesUptoRow.holds Try.pinned (OpenSpec.upto affineBoxesSpec)

/-- 'seriflaw02.AffineHolds', WHERE WHAT IT READS IS OF BULK AT MOST 1048576: true; the input reads as it did. -/
def affineHoldsUptoRow : OpenClaim := { program := "ytpodlcjahfdpmaa", sum := "12d6def82fc83491e4378b39d64216d69f9de32f0db6cebd11b775cf5e903d43", func := "serif/seriflaw02.AffineHolds", spec := "affineHolds", unfollowed := true, recurses := true, apart := false, narrowed := true }
def AffineHoldsUptoSaid : Prop := affineHoldsUptoRow.holds Try.pinned (OpenSpec.upto affineHoldsSpec)

/-- 'seriflaw02.AffineShifts', WHERE WHAT IT READS IS OF BULK AT MOST 1048576: true; the input reads as it did. -/
def affineShiftsUptoRow : OpenClaim := { program := "ytpodlcjahfdpmaa", sum := "12d6def82fc83491e4378b39d64216d69f9de32f0db6cebd11b775cf5e903d43", func := "serif/seriflaw02.AffineShifts", spec := "affineShifts", unfollowed := true, recurses := true, apart := false, narrowed := true }
def AffineShiftsUptoSaid : Prop := affineShiftsUptoRow.holds Try.pinned (OpenSpec.upto affineShiftsSpec)

end Rows
end Go.Proofs.Ytpodlcjahfdpmaa
