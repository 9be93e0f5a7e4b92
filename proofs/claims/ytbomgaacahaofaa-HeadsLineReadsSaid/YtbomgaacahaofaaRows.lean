/-
  No cell of these rows narrows 'for every input' (looked for: loops, veiled, ifaces, maps, wideKeys, modest, calm, conditions, laid).
  DERIVED. THE GIVEN ROWS OF THIS SEAT. 5 by the template 'for every input the law returns true; each argument reads behind the call as it read before'; 0 by the template 'total and deterministic' (their statements: YtbomgaacahaofaaTotals.lean).
  GIVEN WITH THE SEED: the statements are not yours to turn. If you find one false, say at which input.
  Laid BY PROGRAM, IN A SANDBOX (cutbox-rows.mjs): the forced cells as the released guide's own fill.sh prints them over the translation 956cf825c747b8b4… (all of the seat's roots in one cut). By AI agents, Wed Nov 11 2026. No macro, syntax, notation, axiom, sorry.
-/
import Derived.Test.YtbomgaacahaofaaChecked
import GoSem.Claim
import GoSem.ClaimJoined
import GoSem.ClaimMapViews
import Derived.JoinedTies
import Derived.KernelRfl
namespace Go.Proofs.Ytbomgaacahaofaa
/- THE CELL 'sum', in the pinned program and in every row, IS THE sha256 OF THE DUMP (.gsa) THAT YtbomgaacahaofaaProg.lean LOADS. Nothing in Lean hashes anything: it is a label: what it is worth is what the hold of that sum in a sandbox is worth. -/
noncomputable def Try.pinned : Pinned := { name := "ytbomgaacahaofaa", sum := "956cf825c747b8b445328b8c560f5319d6ac22ce8f80a0170348cadf48221b95", checked := Try.checked }
namespace Rows
def none {H : Type} : Left H := { results := [], args := [] }

/-- 'seriflaw05.HeadsHeads': WHATEVER THE INPUT: true; the input reads as it did. -/
def headsHeadsSpec : ChangeSpec := { name := "headsHeads", fn := fun _ => fun
  | [d1, d2] => { results := [.lit (.bool true)], args := [d1, d2] }
  | _ => none }
def headsHeadsRow : OpenClaim := { program := "ytbomgaacahaofaa", sum := "956cf825c747b8b445328b8c560f5319d6ac22ce8f80a0170348cadf48221b95", func := "serif/seriflaw05.HeadsHeads", spec := "headsHeads", unfollowed := true, recurses := true, apart := false }
def HeadsHeadsSaid : Prop := headsHeadsRow.holds Try.pinned (OpenSpec.ofChange headsHeadsSpec)

/-- ITS FALSE NEIGHBOUR: 'it returns false'. Refute it at one input. -/
def headsHeadsWrong : ChangeSpec := { name := "headsHeads", fn := fun _ => fun
  | [d1, d2] => { results := [.lit (.bool false)], args := [d1, d2] }
  | _ => none }
def HeadsHeadsWrongFalsely : Prop := headsHeadsRow.holds Try.pinned (OpenSpec.ofChange headsHeadsWrong)

/-- 'seriflaw05.HeadsHeadReads': WHATEVER THE INPUT: true; the input reads as it did. -/
def headsHeadReadsSpec : ChangeSpec := { name := "headsHeadReads", fn := fun _ => fun
  | [d] => { results := [.lit (.bool true)], args := [d] }
  | _ => none }
def headsHeadReadsRow : OpenClaim := { program := "ytbomgaacahaofaa", sum := "956cf825c747b8b445328b8c560f5319d6ac22ce8f80a0170348cadf48221b95", func := "serif/seriflaw05.HeadsHeadReads", spec := "headsHeadReads", unfollowed := true, recurses := true, apart := false }
def HeadsHeadReadsSaid : Prop := headsHeadReadsRow.holds Try.pinned (OpenSpec.ofChange headsHeadReadsSpec)

/-- ITS FALSE NEIGHBOUR: 'it returns false'. Refute it at one input. -/
def headsHeadReadsWrong : ChangeSpec := { name := "headsHeadReads", fn := fun _ => fun
  | [d] => { results := [.lit (.bool false)], args := [d] }
  | _ => none }
def HeadsHeadReadsWrongFalsely : Prop := headsHeadReadsRow.holds Try.pinned (OpenSpec.ofChange headsHeadReadsWrong)

/-- 'seriflaw05.HeadsGlyphs': WHATEVER THE INPUT: true; the input reads as it did. -/
def headsGlyphsSpec : ChangeSpec := { name := "headsGlyphs", fn := fun _ => fun
  | [d1, d2] => { results := [.lit (.bool true)], args := [d1, d2] }
  | _ => none }
def headsGlyphsRow : OpenClaim := { program := "ytbomgaacahaofaa", sum := "956cf825c747b8b445328b8c560f5319d6ac22ce8f80a0170348cadf48221b95", func := "serif/seriflaw05.HeadsGlyphs", spec := "headsGlyphs", unfollowed := true, recurses := true, apart := false }
def HeadsGlyphsSaid : Prop := headsGlyphsRow.holds Try.pinned (OpenSpec.ofChange headsGlyphsSpec)

/-- ITS FALSE NEIGHBOUR: 'it returns false'. Refute it at one input. -/
def headsGlyphsWrong : ChangeSpec := { name := "headsGlyphs", fn := fun _ => fun
  | [d1, d2] => { results := [.lit (.bool false)], args := [d1, d2] }
  | _ => none }
def HeadsGlyphsWrongFalsely : Prop := headsGlyphsRow.holds Try.pinned (OpenSpec.ofChange headsGlyphsWrong)

/-- 'seriflaw05.HeadsLines': WHATEVER THE INPUT: true; the input reads as it did. -/
def headsLinesSpec : ChangeSpec := { name := "headsLines", fn := fun _ => fun
  | [d1, d2] => { results := [.lit (.bool true)], args := [d1, d2] }
  | _ => none }
def headsLinesRow : OpenClaim := { program := "ytbomgaacahaofaa", sum := "956cf825c747b8b445328b8c560f5319d6ac22ce8f80a0170348cadf48221b95", func := "serif/seriflaw05.HeadsLines", spec := "headsLines", unfollowed := true, recurses := true, apart := false }
def HeadsLinesSaid : Prop := headsLinesRow.holds Try.pinned (OpenSpec.ofChange headsLinesSpec)

/-- ITS FALSE NEIGHBOUR: 'it returns false'. Refute it at one input. -/
def headsLinesWrong : ChangeSpec := { name := "headsLines", fn := fun _ => fun
  | [d1, d2] => { results := [.lit (.bool false)], args := [d1, d2] }
  | _ => none }
def HeadsLinesWrongFalsely : Prop := headsLinesRow.holds Try.pinned (OpenSpec.ofChange headsLinesWrong)

/-- 'seriflaw05.HeadsLineReads': WHATEVER THE INPUT: true; the input reads as it did. -/
def headsLineReadsSpec : ChangeSpec := { name := "headsLineReads", fn := fun _ => fun
  | [d] => { results := [.lit (.bool true)], args := [d] }
  | _ => none }
def headsLineReadsRow : OpenClaim := { program := "ytbomgaacahaofaa", sum := "956cf825c747b8b445328b8c560f5319d6ac22ce8f80a0170348cadf48221b95", func := "serif/seriflaw05.HeadsLineReads", spec := "headsLineReads", unfollowed := true, recurses := true, apart := false }
def HeadsLineReadsSaid : Prop := headsLineReadsRow.holds Try.pinned (OpenSpec.ofChange headsLineReadsSpec)

/-- ITS FALSE NEIGHBOUR: 'it returns false'. Refute it at one input. -/
def headsLineReadsWrong : ChangeSpec := { name := "headsLineReads", fn := fun _ => fun
  | [d] => { results := [.lit (.bool false)], args := [d] }
  | _ => none }
def HeadsLineReadsWrongFalsely : Prop := headsLineReadsRow.holds Try.pinned (OpenSpec.ofChange headsLineReadsWrong)

/- THE SECOND FORM. 'bulk': how many values and letters a reading holds, each counted each time it is reached (what is shared counts as often as it is met; a slice's spare places count too). A statement '..UptoSaid' is the law's where the arguments, and the package variables that the reading takes, are together of bulk at most 1048576: NARROWER than '..Said'. Prove '..Said' where nothing that the law and all that it calls make is longer than what came in: it says more and counts as full. Else prove '..UptoSaid'. A law counts once. -/
mutual
def uptoBulk {H : Type} : DataW H → Nat
  | .lit (.string bytes) => bytes.length + 1
  | .lit _ => 1
  | .nil => 1
  | .ptr d => uptoBulk d + 1
  | .slice elems spare => uptoBulkAll elems + uptoBulkAll spare + 1
  | .agg parts => uptoBulkAll parts + 1
  | .iface _ d => uptoBulk d + 1
  | .map entries => uptoBulkEntries entries + 1
  | .held _ => 1
def uptoBulkAll {H : Type} : List (DataW H) → Nat
  | [] => 0
  | d :: r => uptoBulk d + uptoBulkAll r
def uptoBulkEntries {H : Type} : List (Lit × DataW H) → Nat
  | [] => 0
  | x :: r => uptoBulkEntry x + uptoBulkEntries r
def uptoBulkEntry {H : Type} : Lit × DataW H → Nat
  | (.string bytes, d) => bytes.length + uptoBulk d + 1
  | (_, d) => uptoBulk d + 1
 end
def uptoSmall : (H : Type) → List (DataW H) → Bool := fun _ ds => decide (uptoBulkAll ds ≤ 1048576)
def OpenSpec.upto (s : _root_.Go.ChangeSpec) : _root_.Go.OpenSpec := { _root_.Go.OpenSpec.ofChange s with cond := some uptoSmall }

/-- 'seriflaw05.HeadsHeads', WHERE WHAT IT READS IS OF BULK AT MOST 1048576: true; the input reads as it did. -/
def headsHeadsUptoRow : OpenClaim := { program := "ytbomgaacahaofaa", sum := "956cf825c747b8b445328b8c560f5319d6ac22ce8f80a0170348cadf48221b95", func := "serif/seriflaw05.HeadsHeads", spec := "headsHeads", unfollowed := true, recurses := true, apart := false, narrowed := true }
def HeadsHeadsUptoSaid : Prop := headsHeadsUptoRow.holds Try.pinned (OpenSpec.upto headsHeadsSpec)

/-- 'seriflaw05.HeadsHeadReads', WHERE WHAT IT READS IS OF BULK AT MOST 1048576: true; the input reads as it did. -/
def headsHeadReadsUptoRow : OpenClaim := { program := "ytbomgaacahaofaa", sum := "956cf825c747b8b445328b8c560f5319d6ac22ce8f80a0170348cadf48221b95", func := "serif/seriflaw05.HeadsHeadReads", spec := "headsHeadReads", unfollowed := true, recurses := true, apart := false, narrowed := true }
def HeadsHeadReadsUptoSaid : Prop := headsHeadReadsUptoRow.holds Try.pinned (OpenSpec.upto headsHeadReadsSpec)

/-- 'seriflaw05.HeadsGlyphs', WHERE WHAT IT READS IS OF BULK AT MOST 1048576: true; the input reads as it did. -/
def headsGlyphsUptoRow : OpenClaim := { program := "ytbomgaacahaofaa", sum := "956cf825c747b8b445328b8c560f5319d6ac22ce8f80a0170348cadf48221b95", func := "serif/seriflaw05.HeadsGlyphs", spec := "headsGlyphs", unfollowed := true, recurses := true, apart := false, narrowed := true }
def HeadsGlyphsUptoSaid : Prop := headsGlyphsUptoRow.holds Try.pinned (OpenSpec.upto headsGlyphsSpec)

/-- 'seriflaw05.HeadsLines', WHERE WHAT IT READS IS OF BULK AT MOST 1048576: true; the input reads as it did. -/
def headsLinesUptoRow : OpenClaim := { program := "ytbomgaacahaofaa", sum := "956cf825c747b8b445328b8c560f5319d6ac22ce8f80a0170348cadf48221b95", func := "serif/seriflaw05.HeadsLines", spec := "headsLines", unfollowed := true, recurses := true, apart := false, narrowed := true }
def HeadsLinesUptoSaid : Prop := headsLinesUptoRow.holds Try.pinned (OpenSpec.upto headsLinesSpec)

/-- 'seriflaw05.HeadsLineReads', WHERE WHAT IT READS IS OF BULK AT MOST 1048576: true; the input reads as it did. -/
def headsLineReadsUptoRow : OpenClaim := { program := "ytbomgaacahaofaa", sum := "956cf825c747b8b445328b8c560f5319d6ac22ce8f80a0170348cadf48221b95", func := "serif/seriflaw05.HeadsLineReads", spec := "headsLineReads", unfollowed := true, recurses := true, apart := false, narrowed := true }
def HeadsLineReadsUptoSaid : Prop := headsLineReadsUptoRow.holds Try.pinned (OpenSpec.upto headsLineReadsSpec)

end Rows
end Go.Proofs.Ytbomgaacahaofaa
