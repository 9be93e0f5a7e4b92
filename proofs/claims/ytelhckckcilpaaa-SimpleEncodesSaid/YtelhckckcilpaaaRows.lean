/-
  No cell of these rows narrows 'for every input' (looked for: loops, veiled, ifaces, maps, wideKeys, modest, calm, conditions, laid).
  DERIVED. THE GIVEN ROWS OF THIS SEAT. 4 by the template 'for every input the law returns true; each argument reads behind the call as it read before'; 0 by the template 'total and deterministic' (their statements: YtelhckckcilpaaaTotals.lean).
  GIVEN WITH THE SEED: the statements are not yours to turn. If you find one false, say at which input.
  Laid BY PROGRAM, IN A SANDBOX (cutbox-rows.mjs): the forced cells as the released guide's own fill.sh prints them over the translation 9ba4441d31c4b25a… (all of the seat's roots in one cut). By AI agents, Wed Nov 11 2026. No macro, syntax, notation, axiom, sorry.
-/
import Derived.Test.YtelhckckcilpaaaChecked
import GoSem.Claim
import GoSem.ClaimJoined
import GoSem.ClaimMapViews
import Derived.JoinedTies
import Derived.KernelRfl
namespace Go.Proofs.Ytelhckckcilpaaa
/- THE CELL 'sum', in the pinned program and in every row, IS THE sha256 OF THE DUMP (.gsa) THAT YtelhckckcilpaaaProg.lean LOADS. Nothing in Lean hashes anything: it is a label: what it is worth is what the hold of that sum in a sandbox is worth. -/
noncomputable def Try.pinned : Pinned := { name := "ytelhckckcilpaaa", sum := "9ba4441d31c4b25a7e77fddb23e1f3abe7678dc122918db1b5d74d75cf443383", checked := Try.checked }
namespace Rows
def none {H : Type} : Left H := { results := [], args := [] }

/-- 'seriflaw11.SimpleDecodes': WHATEVER THE INPUT: true; the input reads as it did. -/
def simpleDecodesSpec : ChangeSpec := { name := "simpleDecodes", fn := fun _ => fun
  | [d] => { results := [.lit (.bool true)], args := [d] }
  | _ => none }
def simpleDecodesRow : OpenClaim := { program := "ytelhckckcilpaaa", sum := "9ba4441d31c4b25a7e77fddb23e1f3abe7678dc122918db1b5d74d75cf443383", func := "serif/seriflaw11.SimpleDecodes", spec := "simpleDecodes", unfollowed := true, recurses := true, apart := false }
def SimpleDecodesSaid : Prop := simpleDecodesRow.holds Try.pinned (OpenSpec.ofChange simpleDecodesSpec)

/-- ITS FALSE NEIGHBOUR: 'it returns false'. Refute it at one input. -/
def simpleDecodesWrong : ChangeSpec := { name := "simpleDecodes", fn := fun _ => fun
  | [d] => { results := [.lit (.bool false)], args := [d] }
  | _ => none }
def SimpleDecodesWrongFalsely : Prop := simpleDecodesRow.holds Try.pinned (OpenSpec.ofChange simpleDecodesWrong)

/-- 'seriflaw11.SimpleEncodes': WHATEVER THE INPUT: true; the input reads as it did. -/
def simpleEncodesSpec : ChangeSpec := { name := "simpleEncodes", fn := fun _ => fun
  | [d] => { results := [.lit (.bool true)], args := [d] }
  | _ => none }
def simpleEncodesRow : OpenClaim := { program := "ytelhckckcilpaaa", sum := "9ba4441d31c4b25a7e77fddb23e1f3abe7678dc122918db1b5d74d75cf443383", func := "serif/seriflaw11.SimpleEncodes", spec := "simpleEncodes", unfollowed := true, recurses := true, apart := false }
def SimpleEncodesSaid : Prop := simpleEncodesRow.holds Try.pinned (OpenSpec.ofChange simpleEncodesSpec)

/-- ITS FALSE NEIGHBOUR: 'it returns false'. Refute it at one input. -/
def simpleEncodesWrong : ChangeSpec := { name := "simpleEncodes", fn := fun _ => fun
  | [d] => { results := [.lit (.bool false)], args := [d] }
  | _ => none }
def SimpleEncodesWrongFalsely : Prop := simpleEncodesRow.holds Try.pinned (OpenSpec.ofChange simpleEncodesWrong)

/-- 'seriflaw11.SimpleBack': WHATEVER THE INPUT: true; the input reads as it did. -/
def simpleBackSpec : ChangeSpec := { name := "simpleBack", fn := fun _ => fun
  | [d1, d2] => { results := [.lit (.bool true)], args := [d1, d2] }
  | _ => none }
def simpleBackRow : OpenClaim := { program := "ytelhckckcilpaaa", sum := "9ba4441d31c4b25a7e77fddb23e1f3abe7678dc122918db1b5d74d75cf443383", func := "serif/seriflaw11.SimpleBack", spec := "simpleBack", unfollowed := true, recurses := true, apart := false }
def SimpleBackSaid : Prop := simpleBackRow.holds Try.pinned (OpenSpec.ofChange simpleBackSpec)

/-- ITS FALSE NEIGHBOUR: 'it returns false'. Refute it at one input. -/
def simpleBackWrong : ChangeSpec := { name := "simpleBack", fn := fun _ => fun
  | [d1, d2] => { results := [.lit (.bool false)], args := [d1, d2] }
  | _ => none }
def SimpleBackWrongFalsely : Prop := simpleBackRow.holds Try.pinned (OpenSpec.ofChange simpleBackWrong)

/-- 'seriflaw11.SimpleCuts': WHATEVER THE INPUT: true; the input reads as it did. -/
def simpleCutsSpec : ChangeSpec := { name := "simpleCuts", fn := fun _ => fun
  | [d1, d2] => { results := [.lit (.bool true)], args := [d1, d2] }
  | _ => none }
def simpleCutsRow : OpenClaim := { program := "ytelhckckcilpaaa", sum := "9ba4441d31c4b25a7e77fddb23e1f3abe7678dc122918db1b5d74d75cf443383", func := "serif/seriflaw11.SimpleCuts", spec := "simpleCuts", unfollowed := true, recurses := true, apart := false }
def SimpleCutsSaid : Prop := simpleCutsRow.holds Try.pinned (OpenSpec.ofChange simpleCutsSpec)

/-- ITS FALSE NEIGHBOUR: 'it returns false'. Refute it at one input. -/
def simpleCutsWrong : ChangeSpec := { name := "simpleCuts", fn := fun _ => fun
  | [d1, d2] => { results := [.lit (.bool false)], args := [d1, d2] }
  | _ => none }
def SimpleCutsWrongFalsely : Prop := simpleCutsRow.holds Try.pinned (OpenSpec.ofChange simpleCutsWrong)

/- THE SECOND FORM. 'bulk': how many values and letters a reading holds, each counted each time it is reached (what is shared counts as often as it is met; a slice's spare places count too). A statement '..UptoSaid' is the law's where the arguments, and the package variables that the reading takes, are together of bulk at most 1048576: NARROWER than '..Said'. Prove '..Said' where nothing that the law and all that it calls make is longer than what came in: it says more and counts as full. Else prove '..UptoSaid'. A law counts once. -/
mutual
def uptoBulk {H : Type} : DataW H → Nat
  | .lit (.string bytes) => bytes.length + 1
  | .lit _ => 1
  | .nil => 1
  | .ptr d => uptoBulk d + 1
  | .slice elems spare => uptoBulkAll elems + uptoBulkAll spare + 1
  | .agg parts => uptoBulkAll parts + 1
  | .iface _ d => uptoBulk d + 1
  | .map entries => uptoBulkEntries entries + 1
  | .held _ => 1
def uptoBulkAll {H : Type} : List (DataW H) → Nat
  | [] => 0
  | d :: r => uptoBulk d + uptoBulkAll r
def uptoBulkEntries {H : Type} : List (Lit × DataW H) → Nat
  | [] => 0
  | x :: r => uptoBulkEntry x + uptoBulkEntries r
def uptoBulkEntry {H : Type} : Lit × DataW H → Nat
  | (.string bytes, d) => bytes.length + uptoBulk d + 1
  | (_, d) => uptoBulk d + 1
 end
def uptoSmall : (H : Type) → List (DataW H) → Bool := fun _ ds => decide (uptoBulkAll ds ≤ 1048576)
def OpenSpec.upto (s : _root_.Go.ChangeSpec) : _root_.Go.OpenSpec := { _root_.Go.OpenSpec.ofChange s with cond := some uptoSmall }

/-- 'seriflaw11.SimpleDecodes', WHERE WHAT IT READS IS OF BULK AT MOST 1048576: true; the input reads as it did. -/
def simpleDecodesUptoRow : OpenClaim := { program := "ytelhckckcilpaaa", sum := "9ba4441d31c4b25a7e77fddb23e1f3abe7678dc122918db1b5d74d75cf443383", func := "serif/seriflaw11.SimpleDecodes", spec := "simpleDecodes", unfollowed := true, recurses := true, apart := false, narrowed := true }
def SimpleDecodesUptoSaid : Prop := simpleDecodesUptoRow.holds Try.pinned (OpenSpec.upto simpleDecodesSpec)

/-- 'seriflaw11.SimpleEncodes', WHERE WHAT IT READS IS OF BULK AT MOST 1048576: true; the input reads as it did. -/
def simpleEncodesUptoRow : OpenClaim := { program := "ytelhckckcilpaaa", sum := "9ba4441d31c4b25a7e77fddb23e1f3abe7678dc122918db1b5d74d75cf443383", func := "serif/seriflaw11.SimpleEncodes", spec := "simpleEncodes", unfollowed := true, recurses := true, apart := false, narrowed := true }
def SimpleEncodesUptoSaid : Prop := simpleEncodesUptoRow.holds Try.pinned (OpenSpec.upto simpleEncodesSpec)

/-- 'seriflaw11.SimpleBack', WHERE WHAT IT READS IS OF BULK AT MOST 1048576: true; the input reads as it did. -/
def simpleBackUptoRow : OpenClaim := { program := "ytelhckckcilpaaa", sum := "9ba4441d31c4b25a7e77fddb23e1f3abe7678dc122918db1b5d74d75cf443383", func := "serif/seriflaw11.SimpleBack", spec := "simpleBack", unfollowed := true, recurses := true, apart := false, narrowed := true }
def SimpleBackUptoSaid : Prop := simpleBackUptoRow.holds Try.pinned (OpenSpec.upto simpleBackSpec)

/-- 'seriflaw11.SimpleCuts', WHERE WHAT IT READS IS OF BULK AT MOST 1048576: true; the input reads as it did. -/
def simpleCutsUptoRow : OpenClaim := { program := "ytelhckckcilpaaa", sum := "9ba4441d31c4b25a7e77fddb23e1f3abe7678dc122918db1b5d74d75cf443383", func := "serif/seriflaw11.SimpleCuts", spec := "simpleCuts", unfollowed := true, recurses := true, apart := false, narrowed := true }
def SimpleCutsUptoSaid : Prop := simpleCutsUptoRow.holds Try.pinned (OpenSpec.upto simpleCutsSpec)

end Rows
end Go.Proofs.Ytelhckckcilpaaa
