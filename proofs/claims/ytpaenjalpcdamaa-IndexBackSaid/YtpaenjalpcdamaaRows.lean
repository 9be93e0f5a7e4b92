/-
  No cell of these rows narrows 'for every input' (looked for: loops, veiled, ifaces, maps, wideKeys, modest, calm, conditions, laid).
  DERIVED. THE GIVEN ROWS OF THIS SEAT. 4 by the template 'for every input the law returns true; each argument reads behind the call as it read before'; 0 by the template 'total and deterministic' (their statements: YtpaenjalpcdamaaTotals.lean).
  GIVEN WITH THE SEED: the statements are not yours to turn. If you find one false, say at which input.
  Laid BY PROGRAM, IN A SANDBOX (cutbox-rows.mjs): the forced cells as the released guide's own fill.sh prints them over the translation 74cf678af3dd9bf5… (all of the seat's roots in one cut). By AI agents, Wed Nov 11 2026. No macro, syntax, notation, axiom, sorry.
-/
import Derived.Test.YtpaenjalpcdamaaChecked
import GoSem.Claim
import GoSem.ClaimJoined
import GoSem.ClaimMapViews
import Derived.JoinedTies
import Derived.KernelRfl
namespace Go.Proofs.Ytpaenjalpcdamaa
/- THE CELL 'sum', in the pinned program and in every row, IS THE sha256 OF THE DUMP (.gsa) THAT YtpaenjalpcdamaaProg.lean LOADS. Nothing in Lean hashes anything: it is a label: what it is worth is what the hold of that sum in a sandbox is worth. -/
noncomputable def Try.pinned : Pinned := { name := "ytpaenjalpcdamaa", sum := "74cf678af3dd9bf52a49a966aadffd40d33be264c34268752243ba073f4b22cd", checked := Try.checked }
namespace Rows
def none {H : Type} : Left H := { results := [], args := [] }

/-- 'seriflaw14.IndexLoads': WHATEVER THE INPUT: true; the input reads as it did. -/
def indexLoadsSpec : ChangeSpec := { name := "indexLoads", fn := fun _ => fun
  | [d1, d2] => { results := [.lit (.bool true)], args := [d1, d2] }
  | _ => none }
def indexLoadsRow : OpenClaim := { program := "ytpaenjalpcdamaa", sum := "74cf678af3dd9bf52a49a966aadffd40d33be264c34268752243ba073f4b22cd", func := "serif/seriflaw14.IndexLoads", spec := "indexLoads", unfollowed := true, recurses := true, apart := false }
def IndexLoadsSaid : Prop := indexLoadsRow.holds Try.pinned (OpenSpec.ofChange indexLoadsSpec)

/-- ITS FALSE NEIGHBOUR: 'it returns false'. Refute it at one input. -/
def indexLoadsWrong : ChangeSpec := { name := "indexLoads", fn := fun _ => fun
  | [d1, d2] => { results := [.lit (.bool false)], args := [d1, d2] }
  | _ => none }
def IndexLoadsWrongFalsely : Prop := indexLoadsRow.holds Try.pinned (OpenSpec.ofChange indexLoadsWrong)

/-- 'seriflaw14.IndexPuts': WHATEVER THE INPUT: true; the input reads as it did. -/
def indexPutsSpec : ChangeSpec := { name := "indexPuts", fn := fun _ => fun
  | [d] => { results := [.lit (.bool true)], args := [d] }
  | _ => none }
def indexPutsRow : OpenClaim := { program := "ytpaenjalpcdamaa", sum := "74cf678af3dd9bf52a49a966aadffd40d33be264c34268752243ba073f4b22cd", func := "serif/seriflaw14.IndexPuts", spec := "indexPuts", unfollowed := true, recurses := true, apart := false }
def IndexPutsSaid : Prop := indexPutsRow.holds Try.pinned (OpenSpec.ofChange indexPutsSpec)

/-- ITS FALSE NEIGHBOUR: 'it returns false'. Refute it at one input. -/
def indexPutsWrong : ChangeSpec := { name := "indexPuts", fn := fun _ => fun
  | [d] => { results := [.lit (.bool false)], args := [d] }
  | _ => none }
def IndexPutsWrongFalsely : Prop := indexPutsRow.holds Try.pinned (OpenSpec.ofChange indexPutsWrong)

/-- 'seriflaw14.IndexBack': WHATEVER THE INPUT: true; the input reads as it did. -/
def indexBackSpec : ChangeSpec := { name := "indexBack", fn := fun _ => fun
  | [d1, d2, d3] => { results := [.lit (.bool true)], args := [d1, d2, d3] }
  | _ => none }
def indexBackRow : OpenClaim := { program := "ytpaenjalpcdamaa", sum := "74cf678af3dd9bf52a49a966aadffd40d33be264c34268752243ba073f4b22cd", func := "serif/seriflaw14.IndexBack", spec := "indexBack", unfollowed := true, recurses := true, apart := false }
def IndexBackSaid : Prop := indexBackRow.holds Try.pinned (OpenSpec.ofChange indexBackSpec)

/-- ITS FALSE NEIGHBOUR: 'it returns false'. Refute it at one input. -/
def indexBackWrong : ChangeSpec := { name := "indexBack", fn := fun _ => fun
  | [d1, d2, d3] => { results := [.lit (.bool false)], args := [d1, d2, d3] }
  | _ => none }
def IndexBackWrongFalsely : Prop := indexBackRow.holds Try.pinned (OpenSpec.ofChange indexBackWrong)

/-- 'seriflaw14.IndexNobody': WHATEVER THE INPUT: true; the input reads as it did. -/
def indexNobodySpec : ChangeSpec := { name := "indexNobody", fn := fun _ => fun
  | [d] => { results := [.lit (.bool true)], args := [d] }
  | _ => none }
def indexNobodyRow : OpenClaim := { program := "ytpaenjalpcdamaa", sum := "74cf678af3dd9bf52a49a966aadffd40d33be264c34268752243ba073f4b22cd", func := "serif/seriflaw14.IndexNobody", spec := "indexNobody", unfollowed := true, recurses := true, apart := false }
def IndexNobodySaid : Prop := indexNobodyRow.holds Try.pinned (OpenSpec.ofChange indexNobodySpec)

/-- ITS FALSE NEIGHBOUR: 'it returns false'. Refute it at one input. -/
def indexNobodyWrong : ChangeSpec := { name := "indexNobody", fn := fun _ => fun
  | [d] => { results := [.lit (.bool false)], args := [d] }
  | _ => none }
def IndexNobodyWrongFalsely : Prop := indexNobodyRow.holds Try.pinned (OpenSpec.ofChange indexNobodyWrong)

/- THE SECOND FORM. 'bulk': how many values and letters a reading holds, each counted each time it is reached (what is shared counts as often as it is met; a slice's spare places count too). A statement '..UptoSaid' is the law's where the arguments, and the package variables that the reading takes, are together of bulk at most 1048576: NARROWER than '..Said'. Prove '..Said' where nothing that the law and all that it calls make is longer than what came in: it says more and counts as full. Else prove '..UptoSaid'. A law counts once. -/
mutual
def uptoBulk {H : Type} : DataW H → Nat
  | .lit (.string bytes) => bytes.length + 1
  | .lit _ => 1
  | .nil => 1
  | .ptr d => uptoBulk d + 1
  | .slice elems spare => uptoBulkAll elems + uptoBulkAll spare + 1
  | .agg parts => uptoBulkAll parts + 1
  | .iface _ d => uptoBulk d + 1
  | .map entries => uptoBulkEntries entries + 1
  | .held _ => 1
def uptoBulkAll {H : Type} : List (DataW H) → Nat
  | [] => 0
  | d :: r => uptoBulk d + uptoBulkAll r
def uptoBulkEntries {H : Type} : List (Lit × DataW H) → Nat
  | [] => 0
  | x :: r => uptoBulkEntry x + uptoBulkEntries r
def uptoBulkEntry {H : Type} : Lit × DataW H → Nat
  | (.string bytes, d) => bytes.length + uptoBulk d + 1
  | (_, d) => uptoBulk d + 1
 end
def uptoSmall : (H : Type) → List (DataW H) → Bool := fun _ ds => decide (uptoBulkAll ds ≤ 1048576)
def OpenSpec.upto (s : _root_.Go.ChangeSpec) : _root_.Go.OpenSpec := { _root_.Go.OpenSpec.ofChange s with cond := some uptoSmall }

/-- 'seriflaw14.IndexLoads', WHERE WHAT IT READS IS OF BULK AT MOST 1048576: true; the input reads as it did. -/
def indexLoadsUptoRow : OpenClaim := { program := "ytpaenjalpcdamaa", sum := "74cf678af3dd9bf52a49a966aadffd40d33be264c34268752243ba073f4b22cd", func := "serif/seriflaw14.IndexLoads", spec := "indexLoads", unfollowed := true, recurses := true, apart := false, narrowed := true }
def IndexLoadsUptoSaid : Prop := indexLoadsUptoRow.holds Try.pinned (OpenSpec.upto indexLoadsSpec)

/-- 'seriflaw14.IndexPuts', WHERE WHAT IT READS IS OF BULK AT MOST 1048576: true; the input reads as it did. -/
def indexPutsUptoRow : OpenClaim := { program := "ytpaenjalpcdamaa", sum := "74cf678af3dd9bf52a49a966aadffd40d33be264c34268752243ba073f4b22cd", func := "serif/seriflaw14.IndexPuts", spec := "indexPuts", unfollowed := true, recurses := true, apart := false, narrowed := true }
def IndexPutsUptoSaid : Prop := indexPutsUptoRow.holds Try.pinned (OpenSpec.upto indexPutsSpec)

/-- 'seriflaw14.IndexBack', WHERE WHAT IT READS IS OF BULK AT MOST 1048576: true; the input reads as it did. -/
def indexBackUptoRow : OpenClaim := { program := "ytpaenjalpcdamaa", sum := "74cf678af3dd9bf52a49a966aadffd40d33be264c34268752243ba073f4b22cd", func := "serif/seriflaw14.IndexBack", spec := "indexBack", unfollowed := true, recurses := true, apart := false, narrowed := true }
def IndexBackUptoSaid : Prop := indexBackUptoRow.holds Try.pinned (OpenSpec.upto indexBackSpec)

/-- 'seriflaw14.IndexNobody', WHERE WHAT IT READS IS OF BULK AT MOST 1048576: true; the input reads as it did. -/
def indexNobodyUptoRow : OpenClaim := { program := "ytpaenjalpcdamaa", sum := "74cf678af3dd9bf52a49a966aadffd40d33be264c34268752243ba073f4b22cd", func := "serif/seriflaw14.IndexNobody", spec := "indexNobody", unfollowed := true, recurses := true, apart := false, narrowed := true }
def IndexNobodyUptoSaid : Prop := indexNobodyUptoRow.holds Try.pinned (OpenSpec.upto indexNobodySpec)

end Rows
end Go.Proofs.Ytpaenjalpcdamaa
