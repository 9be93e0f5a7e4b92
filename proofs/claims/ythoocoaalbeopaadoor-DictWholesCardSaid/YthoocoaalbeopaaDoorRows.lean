/-
  NARROWER THAN 'FOR EVERY INPUT', by the rows' own cells (each row's printed sentence says how): DictParses: laid · DictPuts: laid · DictBack: laid · DictReals: laid · DictWholes: laid.
  DERIVED. THE GIVEN ROWS OF THIS SEAT. 5 by the template 'for every input the law returns true; each argument reads behind the call as it read before'; 0 by the template 'total and deterministic' (their statements: YthoocoaalbeopaaDoorTotals.lean).
  GIVEN WITH THE SEED: the statements are not yours to turn. If you find one false, say at which input.
  Laid BY PROGRAM, IN A SANDBOX (cutbox-rows.mjs): the forced cells as the released guide's own fill.sh prints them over the translation 77aab6517fa64a39… (all of the seat's roots in one cut). By AI agents, Wed Nov 11 2026. No macro, syntax, notation, axiom, sorry.
-/
import Derived.Test.YthoocoaalbeopaaDoorChecked
import GoSem.Claim
import GoSem.ClaimJoined
import GoSem.ClaimMapViews
import Derived.JoinedTies
import Derived.KernelRfl
namespace Go.Proofs.YthoocoaalbeopaaDoor
/- THE CELL 'sum', in the pinned program and in every row, IS THE sha256 OF THE DUMP (.gsa) THAT YthoocoaalbeopaaDoorProg.lean LOADS. Nothing in Lean hashes anything: it is a label: what it is worth is what the hold of that sum in a sandbox is worth. -/
noncomputable def Tryd.pinned : Pinned := { name := "ythoocoaalbeopaadoor", sum := "77aab6517fa64a39505cfe37718b3fc7263c4afcef88188d583e9a48d01a3362", checked := Tryd.checked }
namespace Rows
def none {H : Type} : Left H := { results := [], args := [] }

/- WHAT THE LISTED PACKAGE-LEVEL VARIABLES READ AS WHEN THE CALL BEGINS. Each datum BY PROGRAM (the guide's laid-datum.mjs) off the statement by which the dump's own 'gosem.cut.vars' lays the variable. In a bare row this is a premise. The card (YthoocoaalbeopaaDoorCards.lean) ties it to the program's text. -/
def laid_serif_dict_spelled {H : Type} : DataW H := .agg [.lit (.string [48]), .lit (.string [49]), .lit (.string [50]), .lit (.string [51]), .lit (.string [52]), .lit (.string [53]), .lit (.string [54]), .lit (.string [55]), .lit (.string [56]), .lit (.string [57]), .lit (.string [46]), .lit (.string [69]), .lit (.string [69, 45]), .lit (.string [63]), .lit (.string [45])]

/-- 'seriflaw15.DictParses': WHATEVER THE INPUT: true; the input reads as it did. -/
def dictParsesSpec : ChangeSpec := { name := "dictParses", fn := fun _ => fun
  | [d1, d2, d3] => { results := [.lit (.bool true)], args := [d1, d2, d3] }
  | _ => none }
def dictParsesRow : OpenClaim := { program := "ythoocoaalbeopaadoor", sum := "77aab6517fa64a39505cfe37718b3fc7263c4afcef88188d583e9a48d01a3362", func := "serif/seriflaw15.DictParses", spec := "dictParses", inPlace := ["internal/bytealg.IndexByteString", "internal/bytealg.IndexString"], unfollowed := true, recurses := true, named := ["serif/dict.spelled", "internal/bytealg.MaxLen", "math/bits.divideError", "math/bits.overflowError"], apart := false, laid := [("serif/dict.spelled", laid_serif_dict_spelled)] }
def DictParsesSaid : Prop := dictParsesRow.holds Tryd.pinned (OpenSpec.ofChange dictParsesSpec)

/-- ITS FALSE NEIGHBOUR: 'it returns false'. Refute it at one input. -/
def dictParsesWrong : ChangeSpec := { name := "dictParses", fn := fun _ => fun
  | [d1, d2, d3] => { results := [.lit (.bool false)], args := [d1, d2, d3] }
  | _ => none }
def DictParsesWrongFalsely : Prop := dictParsesRow.holds Tryd.pinned (OpenSpec.ofChange dictParsesWrong)

/-- 'seriflaw15.DictPuts': WHATEVER THE INPUT: true; the input reads as it did. -/
def dictPutsSpec : ChangeSpec := { name := "dictPuts", fn := fun _ => fun
  | [d] => { results := [.lit (.bool true)], args := [d] }
  | _ => none }
def dictPutsRow : OpenClaim := { program := "ythoocoaalbeopaadoor", sum := "77aab6517fa64a39505cfe37718b3fc7263c4afcef88188d583e9a48d01a3362", func := "serif/seriflaw15.DictPuts", spec := "dictPuts", inPlace := ["internal/bytealg.IndexByteString", "internal/bytealg.IndexString"], unfollowed := true, recurses := true, named := ["serif/dict.spelled", "internal/bytealg.MaxLen", "math/bits.divideError", "math/bits.overflowError"], apart := false, laid := [("serif/dict.spelled", laid_serif_dict_spelled)] }
def DictPutsSaid : Prop := dictPutsRow.holds Tryd.pinned (OpenSpec.ofChange dictPutsSpec)

/-- ITS FALSE NEIGHBOUR: 'it returns false'. Refute it at one input. -/
def dictPutsWrong : ChangeSpec := { name := "dictPuts", fn := fun _ => fun
  | [d] => { results := [.lit (.bool false)], args := [d] }
  | _ => none }
def DictPutsWrongFalsely : Prop := dictPutsRow.holds Tryd.pinned (OpenSpec.ofChange dictPutsWrong)

/-- 'seriflaw15.DictBack': WHATEVER THE INPUT: true; the input reads as it did. -/
def dictBackSpec : ChangeSpec := { name := "dictBack", fn := fun _ => fun
  | [d1, d2, d3] => { results := [.lit (.bool true)], args := [d1, d2, d3] }
  | _ => none }
def dictBackRow : OpenClaim := { program := "ythoocoaalbeopaadoor", sum := "77aab6517fa64a39505cfe37718b3fc7263c4afcef88188d583e9a48d01a3362", func := "serif/seriflaw15.DictBack", spec := "dictBack", inPlace := ["internal/bytealg.IndexByteString", "internal/bytealg.IndexString"], unfollowed := true, recurses := true, named := ["serif/dict.spelled", "internal/bytealg.MaxLen", "math/bits.divideError", "math/bits.overflowError"], apart := false, laid := [("serif/dict.spelled", laid_serif_dict_spelled)] }
def DictBackSaid : Prop := dictBackRow.holds Tryd.pinned (OpenSpec.ofChange dictBackSpec)

/-- ITS FALSE NEIGHBOUR: 'it returns false'. Refute it at one input. -/
def dictBackWrong : ChangeSpec := { name := "dictBack", fn := fun _ => fun
  | [d1, d2, d3] => { results := [.lit (.bool false)], args := [d1, d2, d3] }
  | _ => none }
def DictBackWrongFalsely : Prop := dictBackRow.holds Tryd.pinned (OpenSpec.ofChange dictBackWrong)

/-- 'seriflaw15.DictReals': WHATEVER THE INPUT: true; the input reads as it did. -/
def dictRealsSpec : ChangeSpec := { name := "dictReals", fn := fun _ => fun
  | [d] => { results := [.lit (.bool true)], args := [d] }
  | _ => none }
def dictRealsRow : OpenClaim := { program := "ythoocoaalbeopaadoor", sum := "77aab6517fa64a39505cfe37718b3fc7263c4afcef88188d583e9a48d01a3362", func := "serif/seriflaw15.DictReals", spec := "dictReals", inPlace := ["internal/bytealg.IndexByteString", "internal/bytealg.IndexString"], unfollowed := true, recurses := true, named := ["serif/dict.spelled", "internal/bytealg.MaxLen", "math/bits.divideError", "math/bits.overflowError"], apart := false, laid := [("serif/dict.spelled", laid_serif_dict_spelled)] }
def DictRealsSaid : Prop := dictRealsRow.holds Tryd.pinned (OpenSpec.ofChange dictRealsSpec)

/-- ITS FALSE NEIGHBOUR: 'it returns false'. Refute it at one input. -/
def dictRealsWrong : ChangeSpec := { name := "dictReals", fn := fun _ => fun
  | [d] => { results := [.lit (.bool false)], args := [d] }
  | _ => none }
def DictRealsWrongFalsely : Prop := dictRealsRow.holds Tryd.pinned (OpenSpec.ofChange dictRealsWrong)

/-- 'seriflaw15.DictWholes': WHATEVER THE INPUT: true; the input reads as it did. -/
def dictWholesSpec : ChangeSpec := { name := "dictWholes", fn := fun _ => fun
  | [d] => { results := [.lit (.bool true)], args := [d] }
  | _ => none }
def dictWholesRow : OpenClaim := { program := "ythoocoaalbeopaadoor", sum := "77aab6517fa64a39505cfe37718b3fc7263c4afcef88188d583e9a48d01a3362", func := "serif/seriflaw15.DictWholes", spec := "dictWholes", inPlace := ["internal/bytealg.IndexByteString", "internal/bytealg.IndexString"], unfollowed := true, recurses := true, named := ["serif/dict.spelled", "internal/bytealg.MaxLen", "math/bits.divideError", "math/bits.overflowError"], apart := false, laid := [("serif/dict.spelled", laid_serif_dict_spelled)] }
def DictWholesSaid : Prop := dictWholesRow.holds Tryd.pinned (OpenSpec.ofChange dictWholesSpec)

/-- ITS FALSE NEIGHBOUR: 'it returns false'. Refute it at one input. -/
def dictWholesWrong : ChangeSpec := { name := "dictWholes", fn := fun _ => fun
  | [d] => { results := [.lit (.bool false)], args := [d] }
  | _ => none }
def DictWholesWrongFalsely : Prop := dictWholesRow.holds Tryd.pinned (OpenSpec.ofChange dictWholesWrong)

/- THE SECOND FORM. 'bulk': how many values and letters a reading holds, each counted each time it is reached (what is shared counts as often as it is met; a slice's spare places count too). A statement '..UptoSaid' is the law's where the arguments, and the package variables that the reading takes, are together of bulk at most 1048576: NARROWER than '..Said'. Prove '..Said' where nothing that the law and all that it calls make is longer than what came in: it says more and counts as full. Else prove '..UptoSaid'. A law counts once. -/
mutual
def uptoBulk {H : Type} : DataW H → Nat
  | .lit (.string bytes) => bytes.length + 1
  | .lit _ => 1
  | .nil => 1
  | .ptr d => uptoBulk d + 1
  | .slice elems spare => uptoBulkAll elems + uptoBulkAll spare + 1
  | .agg parts => uptoBulkAll parts + 1
  | .iface _ d => uptoBulk d + 1
  | .map entries => uptoBulkEntries entries + 1
  | .held _ => 1
def uptoBulkAll {H : Type} : List (DataW H) → Nat
  | [] => 0
  | d :: r => uptoBulk d + uptoBulkAll r
def uptoBulkEntries {H : Type} : List (Lit × DataW H) → Nat
  | [] => 0
  | x :: r => uptoBulkEntry x + uptoBulkEntries r
def uptoBulkEntry {H : Type} : Lit × DataW H → Nat
  | (.string bytes, d) => bytes.length + uptoBulk d + 1
  | (_, d) => uptoBulk d + 1
 end
def uptoSmall : (H : Type) → List (DataW H) → Bool := fun _ ds => decide (uptoBulkAll ds ≤ 1048576)
def OpenSpec.upto (s : _root_.Go.ChangeSpec) : _root_.Go.OpenSpec := { _root_.Go.OpenSpec.ofChange s with cond := some uptoSmall }

/-- 'seriflaw15.DictParses', WHERE WHAT IT READS IS OF BULK AT MOST 1048576: true; the input reads as it did. -/
def dictParsesUptoRow : OpenClaim := { program := "ythoocoaalbeopaadoor", sum := "77aab6517fa64a39505cfe37718b3fc7263c4afcef88188d583e9a48d01a3362", func := "serif/seriflaw15.DictParses", spec := "dictParses", inPlace := ["internal/bytealg.IndexByteString", "internal/bytealg.IndexString"], unfollowed := true, recurses := true, named := ["serif/dict.spelled", "internal/bytealg.MaxLen", "math/bits.divideError", "math/bits.overflowError"], apart := false, laid := [("serif/dict.spelled", laid_serif_dict_spelled)], narrowed := true }
def DictParsesUptoSaid : Prop := dictParsesUptoRow.holds Tryd.pinned (OpenSpec.upto dictParsesSpec)

/-- 'seriflaw15.DictPuts', WHERE WHAT IT READS IS OF BULK AT MOST 1048576: true; the input reads as it did. -/
def dictPutsUptoRow : OpenClaim := { program := "ythoocoaalbeopaadoor", sum := "77aab6517fa64a39505cfe37718b3fc7263c4afcef88188d583e9a48d01a3362", func := "serif/seriflaw15.DictPuts", spec := "dictPuts", inPlace := ["internal/bytealg.IndexByteString", "internal/bytealg.IndexString"], unfollowed := true, recurses := true, named := ["serif/dict.spelled", "internal/bytealg.MaxLen", "math/bits.divideError", "math/bits.overflowError"], apart := false, laid := [("serif/dict.spelled", laid_serif_dict_spelled)], narrowed := true }
def DictPutsUptoSaid : Prop := dictPutsUptoRow.holds Tryd.pinned (OpenSpec.upto dictPutsSpec)

/-- 'seriflaw15.DictBack', WHERE WHAT IT READS IS OF BULK AT MOST 1048576: true; the input reads as it did. -/
def dictBackUptoRow : OpenClaim := { program := "ythoocoaalbeopaadoor", sum := "77aab6517fa64a39505cfe37718b3fc7263c4afcef88188d583e9a48d01a3362", func := "serif/seriflaw15.DictBack", spec := "dictBack", inPlace := ["internal/bytealg.IndexByteString", "internal/bytealg.IndexString"], unfollowed := true, recurses := true, named := ["serif/dict.spelled", "internal/bytealg.MaxLen", "math/bits.divideError", "math/bits.overflowError"], apart := false, laid := [("serif/dict.spelled", laid_serif_dict_spelled)], narrowed := true }
def DictBackUptoSaid : Prop := dictBackUptoRow.holds Tryd.pinned (OpenSpec.upto dictBackSpec)

/-- 'seriflaw15.DictReals', WHERE WHAT IT READS IS OF BULK AT MOST 1048576: true; the input reads as it did. -/
def dictRealsUptoRow : OpenClaim := { program := "ythoocoaalbeopaadoor", sum := "77aab6517fa64a39505cfe37718b3fc7263c4afcef88188d583e9a48d01a3362", func := "serif/seriflaw15.DictReals", spec := "dictReals", inPlace := ["internal/bytealg.IndexByteString", "internal/bytealg.IndexString"], unfollowed := true, recurses := true, named := ["serif/dict.spelled", "internal/bytealg.MaxLen", "math/bits.divideError", "math/bits.overflowError"], apart := false, laid := [("serif/dict.spelled", laid_serif_dict_spelled)], narrowed := true }
def DictRealsUptoSaid : Prop := dictRealsUptoRow.holds Tryd.pinned (OpenSpec.upto dictRealsSpec)

/-- 'seriflaw15.DictWholes', WHERE WHAT IT READS IS OF BULK AT MOST 1048576: true; the input reads as it did. -/
def dictWholesUptoRow : OpenClaim := { program := "ythoocoaalbeopaadoor", sum := "77aab6517fa64a39505cfe37718b3fc7263c4afcef88188d583e9a48d01a3362", func := "serif/seriflaw15.DictWholes", spec := "dictWholes", inPlace := ["internal/bytealg.IndexByteString", "internal/bytealg.IndexString"], unfollowed := true, recurses := true, named := ["serif/dict.spelled", "internal/bytealg.MaxLen", "math/bits.divideError", "math/bits.overflowError"], apart := false, laid := [("serif/dict.spelled", laid_serif_dict_spelled)], narrowed := true }
def DictWholesUptoSaid : Prop := dictWholesUptoRow.holds Tryd.pinned (OpenSpec.upto dictWholesSpec)

end Rows
end Go.Proofs.YthoocoaalbeopaaDoor
