/-
  No cell of these rows narrows 'for every input' (looked for: loops, veiled, ifaces, maps, wideKeys, modest, calm, conditions, laid).
  DERIVED. THE GIVEN ROWS OF THIS SEAT. 4 by the template 'for every input the law returns true; each argument reads behind the call as it read before'; 0 by the template 'total and deterministic' (their statements: YtmmdnhfonifhdaaTotals.lean).
  GIVEN WITH THE SEED: the statements are not yours to turn. If you find one false, say at which input.
  Laid BY PROGRAM, IN A SANDBOX (cutbox-rows.mjs): the forced cells as the released guide's own fill.sh prints them over the translation 308f456ad7a84e88… (all of the seat's roots in one cut). By AI agents, Wed Nov 11 2026. No macro, syntax, notation, axiom, sorry.
-/
import Derived.Test.YtmmdnhfonifhdaaChecked
import GoSem.Claim
import GoSem.ClaimJoined
import GoSem.ClaimMapViews
import Derived.JoinedTies
import Derived.KernelRfl
namespace Go.Proofs.Ytmmdnhfonifhdaa
/- THE CELL 'sum', in the pinned program and in every row, IS THE sha256 OF THE DUMP (.gsa) THAT YtmmdnhfonifhdaaProg.lean LOADS. Nothing in Lean hashes anything: it is a label: what it is worth is what the hold of that sum in a sandbox is worth. -/
noncomputable def Try.pinned : Pinned := { name := "ytmmdnhfonifhdaa", sum := "308f456ad7a84e882516c9b2a3412e92e3ba00d3bf383defd73b10d364a9197f", checked := Try.checked }
namespace Rows
def none {H : Type} : Left H := { results := [], args := [] }

/-- 'seriflaw10.OutlineChecks': WHATEVER THE INPUT: true; the input reads as it did. -/
def outlineChecksSpec : ChangeSpec := { name := "outlineChecks", fn := fun _ => fun
  | [d] => { results := [.lit (.bool true)], args := [d] }
  | _ => none }
def outlineChecksRow : OpenClaim := { program := "ytmmdnhfonifhdaa", sum := "308f456ad7a84e882516c9b2a3412e92e3ba00d3bf383defd73b10d364a9197f", func := "serif/seriflaw10.OutlineChecks", spec := "outlineChecks", unfollowed := true, recurses := true, apart := false }
def OutlineChecksSaid : Prop := outlineChecksRow.holds Try.pinned (OpenSpec.ofChange outlineChecksSpec)

/-- ITS FALSE NEIGHBOUR: 'it returns false'. Refute it at one input. -/
def outlineChecksWrong : ChangeSpec := { name := "outlineChecks", fn := fun _ => fun
  | [d] => { results := [.lit (.bool false)], args := [d] }
  | _ => none }
def OutlineChecksWrongFalsely : Prop := outlineChecksRow.holds Try.pinned (OpenSpec.ofChange outlineChecksWrong)

/-- 'seriflaw10.OutlineExplicits': WHATEVER THE INPUT: true; the input reads as it did. -/
def outlineExplicitsSpec : ChangeSpec := { name := "outlineExplicits", fn := fun _ => fun
  | [d] => { results := [.lit (.bool true)], args := [d] }
  | _ => none }
def outlineExplicitsRow : OpenClaim := { program := "ytmmdnhfonifhdaa", sum := "308f456ad7a84e882516c9b2a3412e92e3ba00d3bf383defd73b10d364a9197f", func := "serif/seriflaw10.OutlineExplicits", spec := "outlineExplicits", unfollowed := true, recurses := true, apart := false }
def OutlineExplicitsSaid : Prop := outlineExplicitsRow.holds Try.pinned (OpenSpec.ofChange outlineExplicitsSpec)

/-- ITS FALSE NEIGHBOUR: 'it returns false'. Refute it at one input. -/
def outlineExplicitsWrong : ChangeSpec := { name := "outlineExplicits", fn := fun _ => fun
  | [d] => { results := [.lit (.bool false)], args := [d] }
  | _ => none }
def OutlineExplicitsWrongFalsely : Prop := outlineExplicitsRow.holds Try.pinned (OpenSpec.ofChange outlineExplicitsWrong)

/-- 'seriflaw10.OutlineCurves': WHATEVER THE INPUT: true; the input reads as it did. -/
def outlineCurvesSpec : ChangeSpec := { name := "outlineCurves", fn := fun _ => fun
  | [d1, d2] => { results := [.lit (.bool true)], args := [d1, d2] }
  | _ => none }
def outlineCurvesRow : OpenClaim := { program := "ytmmdnhfonifhdaa", sum := "308f456ad7a84e882516c9b2a3412e92e3ba00d3bf383defd73b10d364a9197f", func := "serif/seriflaw10.OutlineCurves", spec := "outlineCurves", unfollowed := true, recurses := true, apart := false }
def OutlineCurvesSaid : Prop := outlineCurvesRow.holds Try.pinned (OpenSpec.ofChange outlineCurvesSpec)

/-- ITS FALSE NEIGHBOUR: 'it returns false'. Refute it at one input. -/
def outlineCurvesWrong : ChangeSpec := { name := "outlineCurves", fn := fun _ => fun
  | [d1, d2] => { results := [.lit (.bool false)], args := [d1, d2] }
  | _ => none }
def OutlineCurvesWrongFalsely : Prop := outlineCurvesRow.holds Try.pinned (OpenSpec.ofChange outlineCurvesWrong)

/-- 'seriflaw10.OutlineJoins': WHATEVER THE INPUT: true; the input reads as it did. -/
def outlineJoinsSpec : ChangeSpec := { name := "outlineJoins", fn := fun _ => fun
  | [d1, d2] => { results := [.lit (.bool true)], args := [d1, d2] }
  | _ => none }
def outlineJoinsRow : OpenClaim := { program := "ytmmdnhfonifhdaa", sum := "308f456ad7a84e882516c9b2a3412e92e3ba00d3bf383defd73b10d364a9197f", func := "serif/seriflaw10.OutlineJoins", spec := "outlineJoins", unfollowed := true, recurses := true, apart := false }
def OutlineJoinsSaid : Prop := outlineJoinsRow.holds Try.pinned (OpenSpec.ofChange outlineJoinsSpec)

/-- ITS FALSE NEIGHBOUR: 'it returns false'. Refute it at one input. -/
def outlineJoinsWrong : ChangeSpec := { name := "outlineJoins", fn := fun _ => fun
  | [d1, d2] => { results := [.lit (.bool false)], args := [d1, d2] }
  | _ => none }
def OutlineJoinsWrongFalsely : Prop := outlineJoinsRow.holds Try.pinned (OpenSpec.ofChange outlineJoinsWrong)

/- THE SECOND FORM. 'bulk': how many values and letters a reading holds, each counted each time it is reached (what is shared counts as often as it is met; a slice's spare places count too). A statement '..UptoSaid' is the law's where the arguments, and the package variables that the reading takes, are together of bulk at most 1048576: NARROWER than '..Said'. Prove '..Said' where nothing that the law and all that it calls make is longer than what came in: it says more and counts as full. Else prove '..UptoSaid'. A law counts once. -/
mutual
def uptoBulk {H : Type} : DataW H → Nat
  | .lit (.string bytes) => bytes.length + 1
  | .lit _ => 1
  | .nil => 1
  | .ptr d => uptoBulk d + 1
  | .slice elems spare => uptoBulkAll elems + uptoBulkAll spare + 1
  | .agg parts => uptoBulkAll parts + 1
  | .iface _ d => uptoBulk d + 1
  | .map entries => uptoBulkEntries entries + 1
  | .held _ => 1
def uptoBulkAll {H : Type} : List (DataW H) → Nat
  | [] => 0
  | d :: r => uptoBulk d + uptoBulkAll r
def uptoBulkEntries {H : Type} : List (Lit × DataW H) → Nat
  | [] => 0
  | x :: r => uptoBulkEntry x + uptoBulkEntries r
def uptoBulkEntry {H : Type} : Lit × DataW H → Nat
  | (.string bytes, d) => bytes.length + uptoBulk d + 1
  | (_, d) => uptoBulk d + 1
 end
def uptoSmall : (H : Type) → List (DataW H) → Bool := fun _ ds => decide (uptoBulkAll ds ≤ 1048576)
def OpenSpec.upto (s : _root_.Go.ChangeSpec) : _root_.Go.OpenSpec := { _root_.Go.OpenSpec.ofChange s with cond := some uptoSmall }

/-- 'seriflaw10.OutlineChecks', WHERE WHAT IT READS IS OF BULK AT MOST 1048576: true; the input reads as it did. -/
def outlineChecksUptoRow : OpenClaim := { program := "ytmmdnhfonifhdaa", sum := "308f456ad7a84e882516c9b2a3412e92e3ba00d3bf383defd73b10d364a9197f", func := "serif/seriflaw10.OutlineChecks", spec := "outlineChecks", unfollowed := true, recurses := true, apart := false, narrowed := true }
def OutlineChecksUptoSaid : Prop := outlineChecksUptoRow.holds Try.pinned (OpenSpec.upto outlineChecksSpec)

/-- 'seriflaw10.OutlineExplicits', WHERE WHAT IT READS IS OF BULK AT MOST 1048576: true; the input reads as it did. -/
def outlineExplicitsUptoRow : OpenClaim := { program := "ytmmdnhfonifhdaa", sum := "308f456ad7a84e882516c9b2a3412e92e3ba00d3bf383defd73b10d364a9197f", func := "serif/seriflaw10.OutlineExplicits", spec := "outlineExplicits", unfollowed := true, recurses := true, apart := false, narrowed := true }
def OutlineExplicitsUptoSaid : Prop := outlineExplicitsUptoRow.holds Try.pinned (OpenSpec.upto outlineExplicitsSpec)

/-- 'seriflaw10.OutlineCurves', WHERE WHAT IT READS IS OF BULK AT MOST 1048576: true; the input reads as it did. -/
def outlineCurvesUptoRow : OpenClaim := { program := "ytmmdnhfonifhdaa", sum := "308f456ad7a84e882516c9b2a3412e92e3ba00d3bf383defd73b10d364a9197f", func := "serif/seriflaw10.OutlineCurves", spec := "outlineCurves", unfollowed := true, recurses := true, apart := false, narrowed := true }
def OutlineCurvesUptoSaid : Prop := outlineCurvesUptoRow.holds Try.pinned (OpenSpec.upto outlineCurvesSpec)

/-- 'seriflaw10.OutlineJoins', WHERE WHAT IT READS IS OF BULK AT MOST 1048576: true; the input reads as it did. -/
def outlineJoinsUptoRow : OpenClaim := { program := "ytmmdnhfonifhdaa", sum := "308f456ad7a84e882516c9b2a3412e92e3ba00d3bf383defd73b10d364a9197f", func := "serif/seriflaw10.OutlineJoins", spec := "outlineJoins", unfollowed := true, recurses := true, apart := false, narrowed := true }
def OutlineJoinsUptoSaid : Prop := outlineJoinsUptoRow.holds Try.pinned (OpenSpec.upto outlineJoinsSpec)

end Rows
end Go.Proofs.Ytmmdnhfonifhdaa
