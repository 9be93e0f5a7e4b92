/-
  No cell of these rows narrows 'for every input' (looked for: loops, veiled, ifaces, maps, wideKeys, modest, calm, conditions, laid).
  DERIVED. THE GIVEN ROWS OF THIS SEAT. 5 by the template 'for every input the law returns true; each argument reads behind the call as it read before'; 0 by the template 'total and deterministic' (their statements: YtaaboochologaaaTotals.lean).
  GIVEN WITH THE SEED: the statements are not yours to turn. If you find one false, say at which input.
  Laid BY PROGRAM, IN A SANDBOX (cutbox-rows.mjs): the forced cells as the released guide's own fill.sh prints them over the translation e9580341ed3b9877… (all of the seat's roots in one cut). By AI agents, Wed Nov 11 2026. No macro, syntax, notation, axiom, sorry.
-/
import Derived.Test.YtaaboochologaaaChecked
import GoSem.Claim
import GoSem.ClaimJoined
import GoSem.ClaimMapViews
import Derived.JoinedTies
import Derived.KernelRfl
namespace Go.Proofs.Ytaaboochologaaa
/- THE CELL 'sum', in the pinned program and in every row, IS THE sha256 OF THE DUMP (.gsa) THAT YtaaboochologaaaProg.lean LOADS. Nothing in Lean hashes anything: it is a label: what it is worth is what the hold of that sum in a sandbox is worth. -/
noncomputable def Try.pinned : Pinned := { name := "ytaaboochologaaa", sum := "e9580341ed3b9877558f7c6ecf8d52162ba88f9f8cf29243fdb56685ea25dbb1", checked := Try.checked }
namespace Rows
def none {H : Type} : Left H := { results := [], args := [] }

/-- 'seriflaw25.LruDoes': WHATEVER THE INPUT: true; the input reads as it did. -/
def lruDoesSpec : ChangeSpec := { name := "lruDoes", fn := fun _ => fun
  | [d1, d2] => { results := [.lit (.bool true)], args := [d1, d2] }
  | _ => none }
def lruDoesRow : OpenClaim := { program := "ytaaboochologaaa", sum := "e9580341ed3b9877558f7c6ecf8d52162ba88f9f8cf29243fdb56685ea25dbb1", func := "serif/seriflaw25.LruDoes", spec := "lruDoes", unfollowed := true, recurses := true, plainKeys := false, apart := false }
def LruDoesSaid : Prop := lruDoesRow.holds Try.pinned (OpenSpec.ofChange lruDoesSpec)

/-- ITS FALSE NEIGHBOUR: 'it returns false'. Refute it at one input. -/
def lruDoesWrong : ChangeSpec := { name := "lruDoes", fn := fun _ => fun
  | [d1, d2] => { results := [.lit (.bool false)], args := [d1, d2] }
  | _ => none }
def LruDoesWrongFalsely : Prop := lruDoesRow.holds Try.pinned (OpenSpec.ofChange lruDoesWrong)

/-- 'seriflaw25.LruLast': WHATEVER THE INPUT: true; the input reads as it did. -/
def lruLastSpec : ChangeSpec := { name := "lruLast", fn := fun _ => fun
  | [d1, d2, d3] => { results := [.lit (.bool true)], args := [d1, d2, d3] }
  | _ => none }
def lruLastRow : OpenClaim := { program := "ytaaboochologaaa", sum := "e9580341ed3b9877558f7c6ecf8d52162ba88f9f8cf29243fdb56685ea25dbb1", func := "serif/seriflaw25.LruLast", spec := "lruLast", unfollowed := true, recurses := true, plainKeys := false, apart := false }
def LruLastSaid : Prop := lruLastRow.holds Try.pinned (OpenSpec.ofChange lruLastSpec)

/-- ITS FALSE NEIGHBOUR: 'it returns false'. Refute it at one input. -/
def lruLastWrong : ChangeSpec := { name := "lruLast", fn := fun _ => fun
  | [d1, d2, d3] => { results := [.lit (.bool false)], args := [d1, d2, d3] }
  | _ => none }
def LruLastWrongFalsely : Prop := lruLastRow.holds Try.pinned (OpenSpec.ofChange lruLastWrong)

/-- 'seriflaw25.LruFull': WHATEVER THE INPUT: true; the input reads as it did. -/
def lruFullSpec : ChangeSpec := { name := "lruFull", fn := fun _ => fun
  | [d1, d2, d3] => { results := [.lit (.bool true)], args := [d1, d2, d3] }
  | _ => none }
def lruFullRow : OpenClaim := { program := "ytaaboochologaaa", sum := "e9580341ed3b9877558f7c6ecf8d52162ba88f9f8cf29243fdb56685ea25dbb1", func := "serif/seriflaw25.LruFull", spec := "lruFull", unfollowed := true, recurses := true, plainKeys := false, apart := false }
def LruFullSaid : Prop := lruFullRow.holds Try.pinned (OpenSpec.ofChange lruFullSpec)

/-- ITS FALSE NEIGHBOUR: 'it returns false'. Refute it at one input. -/
def lruFullWrong : ChangeSpec := { name := "lruFull", fn := fun _ => fun
  | [d1, d2, d3] => { results := [.lit (.bool false)], args := [d1, d2, d3] }
  | _ => none }
def LruFullWrongFalsely : Prop := lruFullRow.holds Try.pinned (OpenSpec.ofChange lruFullWrong)

/-- 'seriflaw25.LruNobody': WHATEVER THE INPUT: true; the input reads as it did. -/
def lruNobodySpec : ChangeSpec := { name := "lruNobody", fn := fun _ => fun
  | [d] => { results := [.lit (.bool true)], args := [d] }
  | _ => none }
def lruNobodyRow : OpenClaim := { program := "ytaaboochologaaa", sum := "e9580341ed3b9877558f7c6ecf8d52162ba88f9f8cf29243fdb56685ea25dbb1", func := "serif/seriflaw25.LruNobody", spec := "lruNobody", unfollowed := true, recurses := true, plainKeys := false, apart := false }
def LruNobodySaid : Prop := lruNobodyRow.holds Try.pinned (OpenSpec.ofChange lruNobodySpec)

/-- ITS FALSE NEIGHBOUR: 'it returns false'. Refute it at one input. -/
def lruNobodyWrong : ChangeSpec := { name := "lruNobody", fn := fun _ => fun
  | [d] => { results := [.lit (.bool false)], args := [d] }
  | _ => none }
def LruNobodyWrongFalsely : Prop := lruNobodyRow.holds Try.pinned (OpenSpec.ofChange lruNobodyWrong)

/-- 'seriflaw25.LruZero': WHATEVER THE INPUT: true; the input reads as it did. -/
def lruZeroSpec : ChangeSpec := { name := "lruZero", fn := fun _ => fun
  | [d1, d2] => { results := [.lit (.bool true)], args := [d1, d2] }
  | _ => none }
def lruZeroRow : OpenClaim := { program := "ytaaboochologaaa", sum := "e9580341ed3b9877558f7c6ecf8d52162ba88f9f8cf29243fdb56685ea25dbb1", func := "serif/seriflaw25.LruZero", spec := "lruZero", unfollowed := true, recurses := true, plainKeys := false, apart := false }
def LruZeroSaid : Prop := lruZeroRow.holds Try.pinned (OpenSpec.ofChange lruZeroSpec)

/-- ITS FALSE NEIGHBOUR: 'it returns false'. Refute it at one input. -/
def lruZeroWrong : ChangeSpec := { name := "lruZero", fn := fun _ => fun
  | [d1, d2] => { results := [.lit (.bool false)], args := [d1, d2] }
  | _ => none }
def LruZeroWrongFalsely : Prop := lruZeroRow.holds Try.pinned (OpenSpec.ofChange lruZeroWrong)

/- THE SECOND FORM. 'bulk': how many values and letters a reading holds, each counted each time it is reached (what is shared counts as often as it is met; a slice's spare places count too). A statement '..UptoSaid' is the law's where the arguments, and the package variables that the reading takes, are together of bulk at most 1048576: NARROWER than '..Said'. Prove '..Said' where nothing that the law and all that it calls make is longer than what came in: it says more and counts as full. Else prove '..UptoSaid'. A law counts once. -/
mutual
def uptoBulk {H : Type} : DataW H → Nat
  | .lit (.string bytes) => bytes.length + 1
  | .lit _ => 1
  | .nil => 1
  | .ptr d => uptoBulk d + 1
  | .slice elems spare => uptoBulkAll elems + uptoBulkAll spare + 1
  | .agg parts => uptoBulkAll parts + 1
  | .iface _ d => uptoBulk d + 1
  | .map entries => uptoBulkEntries entries + 1
  | .held _ => 1
def uptoBulkAll {H : Type} : List (DataW H) → Nat
  | [] => 0
  | d :: r => uptoBulk d + uptoBulkAll r
def uptoBulkEntries {H : Type} : List (Lit × DataW H) → Nat
  | [] => 0
  | x :: r => uptoBulkEntry x + uptoBulkEntries r
def uptoBulkEntry {H : Type} : Lit × DataW H → Nat
  | (.string bytes, d) => bytes.length + uptoBulk d + 1
  | (_, d) => uptoBulk d + 1
 end
def uptoSmall : (H : Type) → List (DataW H) → Bool := fun _ ds => decide (uptoBulkAll ds ≤ 1048576)
def OpenSpec.upto (s : _root_.Go.ChangeSpec) : _root_.Go.OpenSpec := { _root_.Go.OpenSpec.ofChange s with cond := some uptoSmall }

/-- 'seriflaw25.LruDoes', WHERE WHAT IT READS IS OF BULK AT MOST 1048576: true; the input reads as it did. -/
def lruDoesUptoRow : OpenClaim := { program := "ytaaboochologaaa", sum := "e9580341ed3b9877558f7c6ecf8d52162ba88f9f8cf29243fdb56685ea25dbb1", func := "serif/seriflaw25.LruDoes", spec := "lruDoes", unfollowed := true, recurses := true, plainKeys := false, apart := false, narrowed := true }
def LruDoesUptoSaid : Prop := lruDoesUptoRow.holds Try.pinned (OpenSpec.upto lruDoesSpec)

/-- 'seriflaw25.LruLast', WHERE WHAT IT READS IS OF BULK AT MOST 1048576: true; the input reads as it did. -/
def lruLastUptoRow : OpenClaim := { program := "ytaaboochologaaa", sum := "e9580341ed3b9877558f7c6ecf8d52162ba88f9f8cf29243fdb56685ea25dbb1", func := "serif/seriflaw25.LruLast", spec := "lruLast", unfollowed := true, recurses := true, plainKeys := false, apart := false, narrowed := true }
def LruLastUptoSaid : Prop := lruLastUptoRow.holds Try.pinned (OpenSpec.upto lruLastSpec)

/-- 'seriflaw25.LruFull', WHERE WHAT IT READS IS OF BULK AT MOST 1048576: true; the input reads as it did. -/
def lruFullUptoRow : OpenClaim := { program := "ytaaboochologaaa", sum := "e9580341ed3b9877558f7c6ecf8d52162ba88f9f8cf29243fdb56685ea25dbb1", func := "serif/seriflaw25.LruFull", spec := "lruFull", unfollowed := true, recurses := true, plainKeys := false, apart := false, narrowed := true }
def LruFullUptoSaid : Prop := lruFullUptoRow.holds Try.pinned (OpenSpec.upto lruFullSpec)

/-- 'seriflaw25.LruNobody', WHERE WHAT IT READS IS OF BULK AT MOST 1048576: true; the input reads as it did. -/
def lruNobodyUptoRow : OpenClaim := { program := "ytaaboochologaaa", sum := "e9580341ed3b9877558f7c6ecf8d52162ba88f9f8cf29243fdb56685ea25dbb1", func := "serif/seriflaw25.LruNobody", spec := "lruNobody", unfollowed := true, recurses := true, plainKeys := false, apart := false, narrowed := true }
def LruNobodyUptoSaid : Prop := lruNobodyUptoRow.holds Try.pinned (OpenSpec.upto lruNobodySpec)

/-- 'seriflaw25.LruZero', WHERE WHAT IT READS IS OF BULK AT MOST 1048576: true; the input reads as it did. -/
def lruZeroUptoRow : OpenClaim := { program := "ytaaboochologaaa", sum := "e9580341ed3b9877558f7c6ecf8d52162ba88f9f8cf29243fdb56685ea25dbb1", func := "serif/seriflaw25.LruZero", spec := "lruZero", unfollowed := true, recurses := true, plainKeys := false, apart := false, narrowed := true }
def LruZeroUptoSaid : Prop := lruZeroUptoRow.holds Try.pinned (OpenSpec.upto lruZeroSpec)

end Rows
end Go.Proofs.Ytaaboochologaaa
