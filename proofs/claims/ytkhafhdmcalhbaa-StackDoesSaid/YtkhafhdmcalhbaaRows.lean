/-
  No cell of these rows narrows 'for every input' (looked for: loops, veiled, ifaces, maps, wideKeys, modest, calm, conditions, laid).
  DERIVED. THE GIVEN ROWS OF THIS SEAT. 5 by the template 'for every input the law returns true; each argument reads behind the call as it read before'; 0 by the template 'total and deterministic' (their statements: YtkhafhdmcalhbaaTotals.lean).
  GIVEN WITH THE SEED: the statements are not yours to turn. If you find one false, say at which input.
  Laid BY PROGRAM, IN A SANDBOX (cutbox-rows.mjs): the forced cells as the released guide's own fill.sh prints them over the translation ef6cc8005be74c8d… (all of the seat's roots in one cut). By AI agents, Wed Nov 11 2026. No macro, syntax, notation, axiom, sorry.
-/
import Derived.Test.YtkhafhdmcalhbaaChecked
import GoSem.Claim
import GoSem.ClaimJoined
import GoSem.ClaimMapViews
import Derived.JoinedTies
import Derived.KernelRfl
namespace Go.Proofs.Ytkhafhdmcalhbaa
/- THE CELL 'sum', in the pinned program and in every row, IS THE sha256 OF THE DUMP (.gsa) THAT YtkhafhdmcalhbaaProg.lean LOADS. Nothing in Lean hashes anything: it is a label: what it is worth is what the hold of that sum in a sandbox is worth. -/
noncomputable def Try.pinned : Pinned := { name := "ytkhafhdmcalhbaa", sum := "ef6cc8005be74c8d11961d27ff094f99d7fc6964093f7dda2661d89d58dede00", checked := Try.checked }
namespace Rows
def none {H : Type} : Left H := { results := [], args := [] }

/-- 'seriflaw17.StackDoes': WHATEVER THE INPUT: true; the input reads as it did. -/
def stackDoesSpec : ChangeSpec := { name := "stackDoes", fn := fun _ => fun
  | [d1, d2] => { results := [.lit (.bool true)], args := [d1, d2] }
  | _ => none }
def stackDoesRow : OpenClaim := { program := "ytkhafhdmcalhbaa", sum := "ef6cc8005be74c8d11961d27ff094f99d7fc6964093f7dda2661d89d58dede00", func := "serif/seriflaw17.StackDoes", spec := "stackDoes", unfollowed := true, recurses := true, apart := false }
def StackDoesSaid : Prop := stackDoesRow.holds Try.pinned (OpenSpec.ofChange stackDoesSpec)

/-- ITS FALSE NEIGHBOUR: 'it returns false'. Refute it at one input. -/
def stackDoesWrong : ChangeSpec := { name := "stackDoes", fn := fun _ => fun
  | [d1, d2] => { results := [.lit (.bool false)], args := [d1, d2] }
  | _ => none }
def StackDoesWrongFalsely : Prop := stackDoesRow.holds Try.pinned (OpenSpec.ofChange stackDoesWrong)

/-- 'seriflaw17.StackFull': WHATEVER THE INPUT: true; the input reads as it did. -/
def stackFullSpec : ChangeSpec := { name := "stackFull", fn := fun _ => fun
  | [d] => { results := [.lit (.bool true)], args := [d] }
  | _ => none }
def stackFullRow : OpenClaim := { program := "ytkhafhdmcalhbaa", sum := "ef6cc8005be74c8d11961d27ff094f99d7fc6964093f7dda2661d89d58dede00", func := "serif/seriflaw17.StackFull", spec := "stackFull", unfollowed := true, recurses := true, apart := false }
def StackFullSaid : Prop := stackFullRow.holds Try.pinned (OpenSpec.ofChange stackFullSpec)

/-- ITS FALSE NEIGHBOUR: 'it returns false'. Refute it at one input. -/
def stackFullWrong : ChangeSpec := { name := "stackFull", fn := fun _ => fun
  | [d] => { results := [.lit (.bool false)], args := [d] }
  | _ => none }
def StackFullWrongFalsely : Prop := stackFullRow.holds Try.pinned (OpenSpec.ofChange stackFullWrong)

/-- 'seriflaw17.StackRolls': WHATEVER THE INPUT: true; the input reads as it did. -/
def stackRollsSpec : ChangeSpec := { name := "stackRolls", fn := fun _ => fun
  | [d1, d2] => { results := [.lit (.bool true)], args := [d1, d2] }
  | _ => none }
def stackRollsRow : OpenClaim := { program := "ytkhafhdmcalhbaa", sum := "ef6cc8005be74c8d11961d27ff094f99d7fc6964093f7dda2661d89d58dede00", func := "serif/seriflaw17.StackRolls", spec := "stackRolls", unfollowed := true, recurses := true, apart := false }
def StackRollsSaid : Prop := stackRollsRow.holds Try.pinned (OpenSpec.ofChange stackRollsSpec)

/-- ITS FALSE NEIGHBOUR: 'it returns false'. Refute it at one input. -/
def stackRollsWrong : ChangeSpec := { name := "stackRolls", fn := fun _ => fun
  | [d1, d2] => { results := [.lit (.bool false)], args := [d1, d2] }
  | _ => none }
def StackRollsWrongFalsely : Prop := stackRollsRow.holds Try.pinned (OpenSpec.ofChange stackRollsWrong)

/-- 'seriflaw17.StackStores': WHATEVER THE INPUT: true; the input reads as it did. -/
def stackStoresSpec : ChangeSpec := { name := "stackStores", fn := fun _ => fun
  | [d1, d2, d3, d4] => { results := [.lit (.bool true)], args := [d1, d2, d3, d4] }
  | _ => none }
def stackStoresRow : OpenClaim := { program := "ytkhafhdmcalhbaa", sum := "ef6cc8005be74c8d11961d27ff094f99d7fc6964093f7dda2661d89d58dede00", func := "serif/seriflaw17.StackStores", spec := "stackStores", unfollowed := true, recurses := true, apart := false }
def StackStoresSaid : Prop := stackStoresRow.holds Try.pinned (OpenSpec.ofChange stackStoresSpec)

/-- ITS FALSE NEIGHBOUR: 'it returns false'. Refute it at one input. -/
def stackStoresWrong : ChangeSpec := { name := "stackStores", fn := fun _ => fun
  | [d1, d2, d3, d4] => { results := [.lit (.bool false)], args := [d1, d2, d3, d4] }
  | _ => none }
def StackStoresWrongFalsely : Prop := stackStoresRow.holds Try.pinned (OpenSpec.ofChange stackStoresWrong)

/-- 'seriflaw17.StackNobody': WHATEVER THE INPUT: true; the input reads as it did. -/
def stackNobodySpec : ChangeSpec := { name := "stackNobody", fn := fun _ => fun
  | [d] => { results := [.lit (.bool true)], args := [d] }
  | _ => none }
def stackNobodyRow : OpenClaim := { program := "ytkhafhdmcalhbaa", sum := "ef6cc8005be74c8d11961d27ff094f99d7fc6964093f7dda2661d89d58dede00", func := "serif/seriflaw17.StackNobody", spec := "stackNobody", unfollowed := true, recurses := true, apart := false }
def StackNobodySaid : Prop := stackNobodyRow.holds Try.pinned (OpenSpec.ofChange stackNobodySpec)

/-- ITS FALSE NEIGHBOUR: 'it returns false'. Refute it at one input. -/
def stackNobodyWrong : ChangeSpec := { name := "stackNobody", fn := fun _ => fun
  | [d] => { results := [.lit (.bool false)], args := [d] }
  | _ => none }
def StackNobodyWrongFalsely : Prop := stackNobodyRow.holds Try.pinned (OpenSpec.ofChange stackNobodyWrong)

/- THE SECOND FORM. 'bulk': how many values and letters a reading holds, each counted each time it is reached (what is shared counts as often as it is met; a slice's spare places count too). A statement '..UptoSaid' is the law's where the arguments, and the package variables that the reading takes, are together of bulk at most 1048576: NARROWER than '..Said'. Prove '..Said' where nothing that the law and all that it calls make is longer than what came in: it says more and counts as full. Else prove '..UptoSaid'. A law counts once. -/
mutual
def uptoBulk {H : Type} : DataW H → Nat
  | .lit (.string bytes) => bytes.length + 1
  | .lit _ => 1
  | .nil => 1
  | .ptr d => uptoBulk d + 1
  | .slice elems spare => uptoBulkAll elems + uptoBulkAll spare + 1
  | .agg parts => uptoBulkAll parts + 1
  | .iface _ d => uptoBulk d + 1
  | .map entries => uptoBulkEntries entries + 1
  | .held _ => 1
def uptoBulkAll {H : Type} : List (DataW H) → Nat
  | [] => 0
  | d :: r => uptoBulk d + uptoBulkAll r
def uptoBulkEntries {H : Type} : List (Lit × DataW H) → Nat
  | [] => 0
  | x :: r => uptoBulkEntry x + uptoBulkEntries r
def uptoBulkEntry {H : Type} : Lit × DataW H → Nat
  | (.string bytes, d) => bytes.length + uptoBulk d + 1
  | (_, d) => uptoBulk d + 1
 end
def uptoSmall : (H : Type) → List (DataW H) → Bool := fun _ ds => decide (uptoBulkAll ds ≤ 1048576)
def OpenSpec.upto (s : _root_.Go.ChangeSpec) : _root_.Go.OpenSpec := { _root_.Go.OpenSpec.ofChange s with cond := some uptoSmall }

/-- 'seriflaw17.StackDoes', WHERE WHAT IT READS IS OF BULK AT MOST 1048576: true; the input reads as it did. -/
def stackDoesUptoRow : OpenClaim := { program := "ytkhafhdmcalhbaa", sum := "ef6cc8005be74c8d11961d27ff094f99d7fc6964093f7dda2661d89d58dede00", func := "serif/seriflaw17.StackDoes", spec := "stackDoes", unfollowed := true, recurses := true, apart := false, narrowed := true }
def StackDoesUptoSaid : Prop := stackDoesUptoRow.holds Try.pinned (OpenSpec.upto stackDoesSpec)

/-- 'seriflaw17.StackFull', WHERE WHAT IT READS IS OF BULK AT MOST 1048576: true; the input reads as it did. -/
def stackFullUptoRow : OpenClaim := { program := "ytkhafhdmcalhbaa", sum := "ef6cc8005be74c8d11961d27ff094f99d7fc6964093f7dda2661d89d58dede00", func := "serif/seriflaw17.StackFull", spec := "stackFull", unfollowed := true, recurses := true, apart := false, narrowed := true }
def StackFullUptoSaid : Prop := stackFullUptoRow.holds Try.pinned (OpenSpec.upto stackFullSpec)

/-- 'seriflaw17.StackRolls', WHERE WHAT IT READS IS OF BULK AT MOST 1048576: true; the input reads as it did. -/
def stackRollsUptoRow : OpenClaim := { program := "ytkhafhdmcalhbaa", sum := "ef6cc8005be74c8d11961d27ff094f99d7fc6964093f7dda2661d89d58dede00", func := "serif/seriflaw17.StackRolls", spec := "stackRolls", unfollowed := true, recurses := true, apart := false, narrowed := true }
def StackRollsUptoSaid : Prop := stackRollsUptoRow.holds Try.pinned (OpenSpec.upto stackRollsSpec)

/-- 'seriflaw17.StackStores', WHERE WHAT IT READS IS OF BULK AT MOST 1048576: true; the input reads as it did. -/
def stackStoresUptoRow : OpenClaim := { program := "ytkhafhdmcalhbaa", sum := "ef6cc8005be74c8d11961d27ff094f99d7fc6964093f7dda2661d89d58dede00", func := "serif/seriflaw17.StackStores", spec := "stackStores", unfollowed := true, recurses := true, apart := false, narrowed := true }
def StackStoresUptoSaid : Prop := stackStoresUptoRow.holds Try.pinned (OpenSpec.upto stackStoresSpec)

/-- 'seriflaw17.StackNobody', WHERE WHAT IT READS IS OF BULK AT MOST 1048576: true; the input reads as it did. -/
def stackNobodyUptoRow : OpenClaim := { program := "ytkhafhdmcalhbaa", sum := "ef6cc8005be74c8d11961d27ff094f99d7fc6964093f7dda2661d89d58dede00", func := "serif/seriflaw17.StackNobody", spec := "stackNobody", unfollowed := true, recurses := true, apart := false, narrowed := true }
def StackNobodyUptoSaid : Prop := stackNobodyUptoRow.holds Try.pinned (OpenSpec.upto stackNobodySpec)

end Rows
end Go.Proofs.Ytkhafhdmcalhbaa
