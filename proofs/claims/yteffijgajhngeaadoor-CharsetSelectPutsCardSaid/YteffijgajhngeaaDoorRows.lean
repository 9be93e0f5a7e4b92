/-
  NARROWER THAN 'FOR EVERY INPUT', by the rows' own cells (each row's printed sentence says how): CharsetLoads: laid · CharsetPuts: laid · CharsetSelects: laid · CharsetSelectPuts: laid.
  DERIVED. THE GIVEN ROWS OF THIS SEAT. 4 by the template 'for every input the law returns true; each argument reads behind the call as it read before'; 0 by the template 'total and deterministic' (their statements: YteffijgajhngeaaDoorTotals.lean).
  GIVEN WITH THE SEED: the statements are not yours to turn. If you find one false, say at which input.
  Laid BY PROGRAM, IN A SANDBOX (cutbox-rows.mjs): the forced cells as the released guide's own fill.sh prints them over the translation d01a3d0fe5a88bbf… (all of the seat's roots in one cut). By AI agents, Wed Nov 11 2026. No macro, syntax, notation, axiom, sorry.
-/
import Derived.Test.YteffijgajhngeaaDoorChecked
import GoSem.Claim
import GoSem.ClaimJoined
import GoSem.ClaimMapViews
import Derived.JoinedTies
import Derived.KernelRfl
namespace Go.Proofs.YteffijgajhngeaaDoor
/- THE CELL 'sum', in the pinned program and in every row, IS THE sha256 OF THE DUMP (.gsa) THAT YteffijgajhngeaaDoorProg.lean LOADS. Nothing in Lean hashes anything: it is a label: what it is worth is what the hold of that sum in a sandbox is worth. -/
noncomputable def Tryd.pinned : Pinned := { name := "yteffijgajhngeaadoor", sum := "d01a3d0fe5a88bbf0969667cfc647a555fdbfcc4fe129a5f7fca046d19d5769f", checked := Tryd.checked }
namespace Rows
def none {H : Type} : Left H := { results := [], args := [] }

/- WHAT THE LISTED PACKAGE-LEVEL VARIABLES READ AS WHEN THE CALL BEGINS. Each datum BY PROGRAM (the guide's laid-datum.mjs) off the statement by which the dump's own 'gosem.cut.vars' lays the variable. In a bare row this is a premise. The card (YteffijgajhngeaaDoorCards.lean) ties it to the program's text. -/
def laid_serif_charset_mostOf {H : Type} : DataW H := .agg [.lit (.int .i64 1), .lit (.int .i64 256), .lit (.int .i64 65536)]

/-- 'seriflaw16.CharsetLoads': WHATEVER THE INPUT: true; the input reads as it did. -/
def charsetLoadsSpec : ChangeSpec := { name := "charsetLoads", fn := fun _ => fun
  | [d1, d2, d3] => { results := [.lit (.bool true)], args := [d1, d2, d3] }
  | _ => none }
def charsetLoadsRow : OpenClaim := { program := "yteffijgajhngeaadoor", sum := "d01a3d0fe5a88bbf0969667cfc647a555fdbfcc4fe129a5f7fca046d19d5769f", func := "serif/seriflaw16.CharsetLoads", spec := "charsetLoads", unfollowed := true, recurses := true, named := ["serif/charset.mostOf"], apart := false, laid := [("serif/charset.mostOf", laid_serif_charset_mostOf)] }
def CharsetLoadsSaid : Prop := charsetLoadsRow.holds Tryd.pinned (OpenSpec.ofChange charsetLoadsSpec)

/-- ITS FALSE NEIGHBOUR: 'it returns false'. Refute it at one input. -/
def charsetLoadsWrong : ChangeSpec := { name := "charsetLoads", fn := fun _ => fun
  | [d1, d2, d3] => { results := [.lit (.bool false)], args := [d1, d2, d3] }
  | _ => none }
def CharsetLoadsWrongFalsely : Prop := charsetLoadsRow.holds Tryd.pinned (OpenSpec.ofChange charsetLoadsWrong)

/-- 'seriflaw16.CharsetPuts': WHATEVER THE INPUT: true; the input reads as it did. -/
def charsetPutsSpec : ChangeSpec := { name := "charsetPuts", fn := fun _ => fun
  | [d1, d2, d3] => { results := [.lit (.bool true)], args := [d1, d2, d3] }
  | _ => none }
def charsetPutsRow : OpenClaim := { program := "yteffijgajhngeaadoor", sum := "d01a3d0fe5a88bbf0969667cfc647a555fdbfcc4fe129a5f7fca046d19d5769f", func := "serif/seriflaw16.CharsetPuts", spec := "charsetPuts", unfollowed := true, recurses := true, named := ["serif/charset.mostOf"], apart := false, laid := [("serif/charset.mostOf", laid_serif_charset_mostOf)] }
def CharsetPutsSaid : Prop := charsetPutsRow.holds Tryd.pinned (OpenSpec.ofChange charsetPutsSpec)

/-- ITS FALSE NEIGHBOUR: 'it returns false'. Refute it at one input. -/
def charsetPutsWrong : ChangeSpec := { name := "charsetPuts", fn := fun _ => fun
  | [d1, d2, d3] => { results := [.lit (.bool false)], args := [d1, d2, d3] }
  | _ => none }
def CharsetPutsWrongFalsely : Prop := charsetPutsRow.holds Tryd.pinned (OpenSpec.ofChange charsetPutsWrong)

/-- 'seriflaw16.CharsetSelects': WHATEVER THE INPUT: true; the input reads as it did. -/
def charsetSelectsSpec : ChangeSpec := { name := "charsetSelects", fn := fun _ => fun
  | [d1, d2, d3] => { results := [.lit (.bool true)], args := [d1, d2, d3] }
  | _ => none }
def charsetSelectsRow : OpenClaim := { program := "yteffijgajhngeaadoor", sum := "d01a3d0fe5a88bbf0969667cfc647a555fdbfcc4fe129a5f7fca046d19d5769f", func := "serif/seriflaw16.CharsetSelects", spec := "charsetSelects", unfollowed := true, recurses := true, named := ["serif/charset.mostOf"], apart := false, laid := [("serif/charset.mostOf", laid_serif_charset_mostOf)] }
def CharsetSelectsSaid : Prop := charsetSelectsRow.holds Tryd.pinned (OpenSpec.ofChange charsetSelectsSpec)

/-- ITS FALSE NEIGHBOUR: 'it returns false'. Refute it at one input. -/
def charsetSelectsWrong : ChangeSpec := { name := "charsetSelects", fn := fun _ => fun
  | [d1, d2, d3] => { results := [.lit (.bool false)], args := [d1, d2, d3] }
  | _ => none }
def CharsetSelectsWrongFalsely : Prop := charsetSelectsRow.holds Tryd.pinned (OpenSpec.ofChange charsetSelectsWrong)

/-- 'seriflaw16.CharsetSelectPuts': WHATEVER THE INPUT: true; the input reads as it did. -/
def charsetSelectPutsSpec : ChangeSpec := { name := "charsetSelectPuts", fn := fun _ => fun
  | [d1, d2, d3, d4] => { results := [.lit (.bool true)], args := [d1, d2, d3, d4] }
  | _ => none }
def charsetSelectPutsRow : OpenClaim := { program := "yteffijgajhngeaadoor", sum := "d01a3d0fe5a88bbf0969667cfc647a555fdbfcc4fe129a5f7fca046d19d5769f", func := "serif/seriflaw16.CharsetSelectPuts", spec := "charsetSelectPuts", unfollowed := true, recurses := true, named := ["serif/charset.mostOf"], apart := false, laid := [("serif/charset.mostOf", laid_serif_charset_mostOf)] }
def CharsetSelectPutsSaid : Prop := charsetSelectPutsRow.holds Tryd.pinned (OpenSpec.ofChange charsetSelectPutsSpec)

/-- ITS FALSE NEIGHBOUR: 'it returns false'. Refute it at one input. -/
def charsetSelectPutsWrong : ChangeSpec := { name := "charsetSelectPuts", fn := fun _ => fun
  | [d1, d2, d3, d4] => { results := [.lit (.bool false)], args := [d1, d2, d3, d4] }
  | _ => none }
def CharsetSelectPutsWrongFalsely : Prop := charsetSelectPutsRow.holds Tryd.pinned (OpenSpec.ofChange charsetSelectPutsWrong)

/- THE SECOND FORM. 'bulk': how many values and letters a reading holds, each counted each time it is reached (what is shared counts as often as it is met; a slice's spare places count too). A statement '..UptoSaid' is the law's where the arguments, and the package variables that the reading takes, are together of bulk at most 1048576: NARROWER than '..Said'. Prove '..Said' where nothing that the law and all that it calls make is longer than what came in: it says more and counts as full. Else prove '..UptoSaid'. A law counts once. -/
mutual
def uptoBulk {H : Type} : DataW H → Nat
  | .lit (.string bytes) => bytes.length + 1
  | .lit _ => 1
  | .nil => 1
  | .ptr d => uptoBulk d + 1
  | .slice elems spare => uptoBulkAll elems + uptoBulkAll spare + 1
  | .agg parts => uptoBulkAll parts + 1
  | .iface _ d => uptoBulk d + 1
  | .map entries => uptoBulkEntries entries + 1
  | .held _ => 1
def uptoBulkAll {H : Type} : List (DataW H) → Nat
  | [] => 0
  | d :: r => uptoBulk d + uptoBulkAll r
def uptoBulkEntries {H : Type} : List (Lit × DataW H) → Nat
  | [] => 0
  | x :: r => uptoBulkEntry x + uptoBulkEntries r
def uptoBulkEntry {H : Type} : Lit × DataW H → Nat
  | (.string bytes, d) => bytes.length + uptoBulk d + 1
  | (_, d) => uptoBulk d + 1
 end
def uptoSmall : (H : Type) → List (DataW H) → Bool := fun _ ds => decide (uptoBulkAll ds ≤ 1048576)
def OpenSpec.upto (s : _root_.Go.ChangeSpec) : _root_.Go.OpenSpec := { _root_.Go.OpenSpec.ofChange s with cond := some uptoSmall }

/-- 'seriflaw16.CharsetLoads', WHERE WHAT IT READS IS OF BULK AT MOST 1048576: true; the input reads as it did. -/
def charsetLoadsUptoRow : OpenClaim := { program := "yteffijgajhngeaadoor", sum := "d01a3d0fe5a88bbf0969667cfc647a555fdbfcc4fe129a5f7fca046d19d5769f", func := "serif/seriflaw16.CharsetLoads", spec := "charsetLoads", unfollowed := true, recurses := true, named := ["serif/charset.mostOf"], apart := false, laid := [("serif/charset.mostOf", laid_serif_charset_mostOf)], narrowed := true }
def CharsetLoadsUptoSaid : Prop := charsetLoadsUptoRow.holds Tryd.pinned (OpenSpec.upto charsetLoadsSpec)

/-- 'seriflaw16.CharsetPuts', WHERE WHAT IT READS IS OF BULK AT MOST 1048576: true; the input reads as it did. -/
def charsetPutsUptoRow : OpenClaim := { program := "yteffijgajhngeaadoor", sum := "d01a3d0fe5a88bbf0969667cfc647a555fdbfcc4fe129a5f7fca046d19d5769f", func := "serif/seriflaw16.CharsetPuts", spec := "charsetPuts", unfollowed := true, recurses := true, named := ["serif/charset.mostOf"], apart := false, laid := [("serif/charset.mostOf", laid_serif_charset_mostOf)], narrowed := true }
def CharsetPutsUptoSaid : Prop := charsetPutsUptoRow.holds Tryd.pinned (OpenSpec.upto charsetPutsSpec)

/-- 'seriflaw16.CharsetSelects', WHERE WHAT IT READS IS OF BULK AT MOST 1048576: true; the input reads as it did. -/
def charsetSelectsUptoRow : OpenClaim := { program := "yteffijgajhngeaadoor", sum := "d01a3d0fe5a88bbf0969667cfc647a555fdbfcc4fe129a5f7fca046d19d5769f", func := "serif/seriflaw16.CharsetSelects", spec := "charsetSelects", unfollowed := true, recurses := true, named := ["serif/charset.mostOf"], apart := false, laid := [("serif/charset.mostOf", laid_serif_charset_mostOf)], narrowed := true }
def CharsetSelectsUptoSaid : Prop := charsetSelectsUptoRow.holds Tryd.pinned (OpenSpec.upto charsetSelectsSpec)

/-- 'seriflaw16.CharsetSelectPuts', WHERE WHAT IT READS IS OF BULK AT MOST 1048576: true; the input reads as it did. -/
def charsetSelectPutsUptoRow : OpenClaim := { program := "yteffijgajhngeaadoor", sum := "d01a3d0fe5a88bbf0969667cfc647a555fdbfcc4fe129a5f7fca046d19d5769f", func := "serif/seriflaw16.CharsetSelectPuts", spec := "charsetSelectPuts", unfollowed := true, recurses := true, named := ["serif/charset.mostOf"], apart := false, laid := [("serif/charset.mostOf", laid_serif_charset_mostOf)], narrowed := true }
def CharsetSelectPutsUptoSaid : Prop := charsetSelectPutsUptoRow.holds Tryd.pinned (OpenSpec.upto charsetSelectPutsSpec)

end Rows
end Go.Proofs.YteffijgajhngeaaDoor
