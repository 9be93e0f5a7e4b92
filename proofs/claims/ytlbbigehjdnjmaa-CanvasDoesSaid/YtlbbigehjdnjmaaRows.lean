/-
  No cell of these rows narrows 'for every input' (looked for: loops, veiled, ifaces, maps, wideKeys, modest, calm, conditions, laid).
  DERIVED. THE GIVEN ROWS OF THIS SEAT. 5 by the template 'for every input the law returns true; each argument reads behind the call as it read before'; 0 by the template 'total and deterministic' (their statements: YtlbbigehjdnjmaaTotals.lean).
  GIVEN WITH THE SEED: the statements are not yours to turn. If you find one false, say at which input.
  Laid BY PROGRAM, IN A SANDBOX (cutbox-rows.mjs): the forced cells as the released guide's own fill.sh prints them over the translation 6bd7c3cd87f349d9… (all of the seat's roots in one cut). By AI agents, Wed Nov 11 2026. No macro, syntax, notation, axiom, sorry.
-/
import Derived.Test.YtlbbigehjdnjmaaChecked
import GoSem.Claim
import GoSem.ClaimJoined
import GoSem.ClaimMapViews
import Derived.JoinedTies
import Derived.KernelRfl
namespace Go.Proofs.Ytlbbigehjdnjmaa
/- THE CELL 'sum', in the pinned program and in every row, IS THE sha256 OF THE DUMP (.gsa) THAT YtlbbigehjdnjmaaProg.lean LOADS. Nothing in Lean hashes anything: it is a label: what it is worth is what the hold of that sum in a sandbox is worth. -/
noncomputable def Try.pinned : Pinned := { name := "ytlbbigehjdnjmaa", sum := "6bd7c3cd87f349d9c48675599c0f9c3a464511b365a3fc9772382430b5437dc7", checked := Try.checked }
namespace Rows
def none {H : Type} : Left H := { results := [], args := [] }

/-- 'seriflaw26.CanvasDoes': WHATEVER THE INPUT: true; the input reads as it did. -/
def canvasDoesSpec : ChangeSpec := { name := "canvasDoes", fn := fun _ => fun
  | [d1, d2, d3, d4] => { results := [.lit (.bool true)], args := [d1, d2, d3, d4] }
  | _ => none }
def canvasDoesRow : OpenClaim := { program := "ytlbbigehjdnjmaa", sum := "6bd7c3cd87f349d9c48675599c0f9c3a464511b365a3fc9772382430b5437dc7", func := "serif/seriflaw26.CanvasDoes", spec := "canvasDoes", unfollowed := true, recurses := true, apart := false }
def CanvasDoesSaid : Prop := canvasDoesRow.holds Try.pinned (OpenSpec.ofChange canvasDoesSpec)

/-- ITS FALSE NEIGHBOUR: 'it returns false'. Refute it at one input. -/
def canvasDoesWrong : ChangeSpec := { name := "canvasDoes", fn := fun _ => fun
  | [d1, d2, d3, d4] => { results := [.lit (.bool false)], args := [d1, d2, d3, d4] }
  | _ => none }
def CanvasDoesWrongFalsely : Prop := canvasDoesRow.holds Try.pinned (OpenSpec.ofChange canvasDoesWrong)

/-- 'seriflaw26.CanvasStays': WHATEVER THE INPUT: true; the input reads as it did. -/
def canvasStaysSpec : ChangeSpec := { name := "canvasStays", fn := fun _ => fun
  | [d1, d2, d3] => { results := [.lit (.bool true)], args := [d1, d2, d3] }
  | _ => none }
def canvasStaysRow : OpenClaim := { program := "ytlbbigehjdnjmaa", sum := "6bd7c3cd87f349d9c48675599c0f9c3a464511b365a3fc9772382430b5437dc7", func := "serif/seriflaw26.CanvasStays", spec := "canvasStays", unfollowed := true, recurses := true, apart := false }
def CanvasStaysSaid : Prop := canvasStaysRow.holds Try.pinned (OpenSpec.ofChange canvasStaysSpec)

/-- ITS FALSE NEIGHBOUR: 'it returns false'. Refute it at one input. -/
def canvasStaysWrong : ChangeSpec := { name := "canvasStays", fn := fun _ => fun
  | [d1, d2, d3] => { results := [.lit (.bool false)], args := [d1, d2, d3] }
  | _ => none }
def CanvasStaysWrongFalsely : Prop := canvasStaysRow.holds Try.pinned (OpenSpec.ofChange canvasStaysWrong)

/-- 'seriflaw26.CanvasMixes': WHATEVER THE INPUT: true; the input reads as it did. -/
def canvasMixesSpec : ChangeSpec := { name := "canvasMixes", fn := fun _ => fun
  | [d1, d2, d3] => { results := [.lit (.bool true)], args := [d1, d2, d3] }
  | _ => none }
def canvasMixesRow : OpenClaim := { program := "ytlbbigehjdnjmaa", sum := "6bd7c3cd87f349d9c48675599c0f9c3a464511b365a3fc9772382430b5437dc7", func := "serif/seriflaw26.CanvasMixes", spec := "canvasMixes", unfollowed := true, recurses := true, apart := false }
def CanvasMixesSaid : Prop := canvasMixesRow.holds Try.pinned (OpenSpec.ofChange canvasMixesSpec)

/-- ITS FALSE NEIGHBOUR: 'it returns false'. Refute it at one input. -/
def canvasMixesWrong : ChangeSpec := { name := "canvasMixes", fn := fun _ => fun
  | [d1, d2, d3] => { results := [.lit (.bool false)], args := [d1, d2, d3] }
  | _ => none }
def CanvasMixesWrongFalsely : Prop := canvasMixesRow.holds Try.pinned (OpenSpec.ofChange canvasMixesWrong)

/-- 'seriflaw26.CanvasNobody': WHATEVER THE INPUT: true; the input reads as it did. -/
def canvasNobodySpec : ChangeSpec := { name := "canvasNobody", fn := fun _ => fun
  | [d] => { results := [.lit (.bool true)], args := [d] }
  | _ => none }
def canvasNobodyRow : OpenClaim := { program := "ytlbbigehjdnjmaa", sum := "6bd7c3cd87f349d9c48675599c0f9c3a464511b365a3fc9772382430b5437dc7", func := "serif/seriflaw26.CanvasNobody", spec := "canvasNobody", unfollowed := true, recurses := true, apart := false }
def CanvasNobodySaid : Prop := canvasNobodyRow.holds Try.pinned (OpenSpec.ofChange canvasNobodySpec)

/-- ITS FALSE NEIGHBOUR: 'it returns false'. Refute it at one input. -/
def canvasNobodyWrong : ChangeSpec := { name := "canvasNobody", fn := fun _ => fun
  | [d] => { results := [.lit (.bool false)], args := [d] }
  | _ => none }
def CanvasNobodyWrongFalsely : Prop := canvasNobodyRow.holds Try.pinned (OpenSpec.ofChange canvasNobodyWrong)

/-- 'seriflaw26.CanvasCommutes': WHATEVER THE INPUT: true; the input reads as it did. -/
def canvasCommutesSpec : ChangeSpec := { name := "canvasCommutes", fn := fun _ => fun
  | [d1, d2, d3, d4] => { results := [.lit (.bool true)], args := [d1, d2, d3, d4] }
  | _ => none }
def canvasCommutesRow : OpenClaim := { program := "ytlbbigehjdnjmaa", sum := "6bd7c3cd87f349d9c48675599c0f9c3a464511b365a3fc9772382430b5437dc7", func := "serif/seriflaw26.CanvasCommutes", spec := "canvasCommutes", unfollowed := true, recurses := true, apart := false }
def CanvasCommutesSaid : Prop := canvasCommutesRow.holds Try.pinned (OpenSpec.ofChange canvasCommutesSpec)

/-- ITS FALSE NEIGHBOUR: 'it returns false'. Refute it at one input. -/
def canvasCommutesWrong : ChangeSpec := { name := "canvasCommutes", fn := fun _ => fun
  | [d1, d2, d3, d4] => { results := [.lit (.bool false)], args := [d1, d2, d3, d4] }
  | _ => none }
def CanvasCommutesWrongFalsely : Prop := canvasCommutesRow.holds Try.pinned (OpenSpec.ofChange canvasCommutesWrong)

/- THE SECOND FORM. 'bulk': how many values and letters a reading holds, each counted each time it is reached (what is shared counts as often as it is met; a slice's spare places count too). A statement '..UptoSaid' is the law's where the arguments, and the package variables that the reading takes, are together of bulk at most 1048576: NARROWER than '..Said'. Prove '..Said' where nothing that the law and all that it calls make is longer than what came in: it says more and counts as full. Else prove '..UptoSaid'. A law counts once. -/
mutual
def uptoBulk {H : Type} : DataW H → Nat
  | .lit (.string bytes) => bytes.length + 1
  | .lit _ => 1
  | .nil => 1
  | .ptr d => uptoBulk d + 1
  | .slice elems spare => uptoBulkAll elems + uptoBulkAll spare + 1
  | .agg parts => uptoBulkAll parts + 1
  | .iface _ d => uptoBulk d + 1
  | .map entries => uptoBulkEntries entries + 1
  | .held _ => 1
def uptoBulkAll {H : Type} : List (DataW H) → Nat
  | [] => 0
  | d :: r => uptoBulk d + uptoBulkAll r
def uptoBulkEntries {H : Type} : List (Lit × DataW H) → Nat
  | [] => 0
  | x :: r => uptoBulkEntry x + uptoBulkEntries r
def uptoBulkEntry {H : Type} : Lit × DataW H → Nat
  | (.string bytes, d) => bytes.length + uptoBulk d + 1
  | (_, d) => uptoBulk d + 1
 end
def uptoSmall : (H : Type) → List (DataW H) → Bool := fun _ ds => decide (uptoBulkAll ds ≤ 1048576)
def OpenSpec.upto (s : _root_.Go.ChangeSpec) : _root_.Go.OpenSpec := { _root_.Go.OpenSpec.ofChange s with cond := some uptoSmall }

/-- 'seriflaw26.CanvasDoes', WHERE WHAT IT READS IS OF BULK AT MOST 1048576: true; the input reads as it did. -/
def canvasDoesUptoRow : OpenClaim := { program := "ytlbbigehjdnjmaa", sum := "6bd7c3cd87f349d9c48675599c0f9c3a464511b365a3fc9772382430b5437dc7", func := "serif/seriflaw26.CanvasDoes", spec := "canvasDoes", unfollowed := true, recurses := true, apart := false, narrowed := true }
def CanvasDoesUptoSaid : Prop := canvasDoesUptoRow.holds Try.pinned (OpenSpec.upto canvasDoesSpec)

/-- 'seriflaw26.CanvasStays', WHERE WHAT IT READS IS OF BULK AT MOST 1048576: true; the input reads as it did. -/
def canvasStaysUptoRow : OpenClaim := { program := "ytlbbigehjdnjmaa", sum := "6bd7c3cd87f349d9c48675599c0f9c3a464511b365a3fc9772382430b5437dc7", func := "serif/seriflaw26.CanvasStays", spec := "canvasStays", unfollowed := true, recurses := true, apart := false, narrowed := true }
def CanvasStaysUptoSaid : Prop := canvasStaysUptoRow.holds Try.pinned (OpenSpec.upto canvasStaysSpec)

/-- 'seriflaw26.CanvasMixes', WHERE WHAT IT READS IS OF BULK AT MOST 1048576: true; the input reads as it did. -/
def canvasMixesUptoRow : OpenClaim := { program := "ytlbbigehjdnjmaa", sum := "6bd7c3cd87f349d9c48675599c0f9c3a464511b365a3fc9772382430b5437dc7", func := "serif/seriflaw26.CanvasMixes", spec := "canvasMixes", unfollowed := true, recurses := true, apart := false, narrowed := true }
def CanvasMixesUptoSaid : Prop := canvasMixesUptoRow.holds Try.pinned (OpenSpec.upto canvasMixesSpec)

/-- 'seriflaw26.CanvasNobody', WHERE WHAT IT READS IS OF BULK AT MOST 1048576: true; the input reads as it did. -/
def canvasNobodyUptoRow : OpenClaim := { program := "ytlbbigehjdnjmaa", sum := "6bd7c3cd87f349d9c48675599c0f9c3a464511b365a3fc9772382430b5437dc7", func := "serif/seriflaw26.CanvasNobody", spec := "canvasNobody", unfollowed := true, recurses := true, apart := false, narrowed := true }
def CanvasNobodyUptoSaid : Prop := canvasNobodyUptoRow.holds Try.pinned (OpenSpec.upto canvasNobodySpec)

/-- 'seriflaw26.CanvasCommutes', WHERE WHAT IT READS IS OF BULK AT MOST 1048576: true; the input reads as it did. -/
def canvasCommutesUptoRow : OpenClaim := { program := "ytlbbigehjdnjmaa", sum := "6bd7c3cd87f349d9c48675599c0f9c3a464511b365a3fc9772382430b5437dc7", func := "serif/seriflaw26.CanvasCommutes", spec := "canvasCommutes", unfollowed := true, recurses := true, apart := false, narrowed := true }
def CanvasCommutesUptoSaid : Prop := canvasCommutesUptoRow.holds Try.pinned (OpenSpec.upto canvasCommutesSpec)

end Rows
end Go.Proofs.Ytlbbigehjdnjmaa
