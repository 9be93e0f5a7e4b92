/-
  DERIVED. GIVEN WITH THE SEED: THE CARDS: each row of YthoocoaalbeopaaDoorRows.lean that lists a variable, with what it lists TIED to the program's text (the seventh form; the later family's looks); each row that meets fmt, with fmt's text TOLD by the authors' own Lean function (tested against real Go, not proved from fmt's source: count such statements apart). THE CARD IS WHAT COUNTS. Prove the row's statement (the work); the ties are given (YthoocoaalbeopaaDoorTie.lean); close each card by the builder's one call (the guide's Derived/Test/ToyasCard.lean, 'card_holds'). Laid BY PROGRAM, IN A SANDBOX (cutbox-door.mjs). By AI agents, Wed Nov 11 2026. No macro, syntax, notation, axiom, sorry.
-/
import Derived.Test.YthoocoaalbeopaaDoorRows
import GoSem.ClaimSeven
namespace Go.Proofs.YthoocoaalbeopaaDoor
namespace Rows

/-- THE TIED CARD OF 'seriflaw15.DictParses'. -/
def dictParsesCard : Claim7 := { stood := { row := dictParsesRow, standIns := [], harness := (true, "9f7d8fceab8b1b34feb149654ddd59f7a250fd09d37db015d5015e4a24c6c257"), looks := false }, kinds := [], alts := [], laidByText := true, laidKinds := [.data], laidTests := true, laidLooks := .later }
def DictParsesCardSaid : Prop := Claim7.holds Tryd.pinned (.plain (OpenSpec.ofChange dictParsesSpec)) dictParsesCard

/-- THE TIED CARD OF 'seriflaw15.DictPuts'. -/
def dictPutsCard : Claim7 := { stood := { row := dictPutsRow, standIns := [], harness := (true, "9f7d8fceab8b1b34feb149654ddd59f7a250fd09d37db015d5015e4a24c6c257"), looks := false }, kinds := [], alts := [], laidByText := true, laidKinds := [.data], laidTests := true, laidLooks := .later }
def DictPutsCardSaid : Prop := Claim7.holds Tryd.pinned (.plain (OpenSpec.ofChange dictPutsSpec)) dictPutsCard

/-- THE TIED CARD OF 'seriflaw15.DictBack'. -/
def dictBackCard : Claim7 := { stood := { row := dictBackRow, standIns := [], harness := (true, "9f7d8fceab8b1b34feb149654ddd59f7a250fd09d37db015d5015e4a24c6c257"), looks := false }, kinds := [], alts := [], laidByText := true, laidKinds := [.data], laidTests := true, laidLooks := .later }
def DictBackCardSaid : Prop := Claim7.holds Tryd.pinned (.plain (OpenSpec.ofChange dictBackSpec)) dictBackCard

/-- THE TIED CARD OF 'seriflaw15.DictReals'. -/
def dictRealsCard : Claim7 := { stood := { row := dictRealsRow, standIns := [], harness := (true, "9f7d8fceab8b1b34feb149654ddd59f7a250fd09d37db015d5015e4a24c6c257"), looks := false }, kinds := [], alts := [], laidByText := true, laidKinds := [.data], laidTests := true, laidLooks := .later }
def DictRealsCardSaid : Prop := Claim7.holds Tryd.pinned (.plain (OpenSpec.ofChange dictRealsSpec)) dictRealsCard

/-- THE TIED CARD OF 'seriflaw15.DictWholes'. -/
def dictWholesCard : Claim7 := { stood := { row := dictWholesRow, standIns := [], harness := (true, "9f7d8fceab8b1b34feb149654ddd59f7a250fd09d37db015d5015e4a24c6c257"), looks := false }, kinds := [], alts := [], laidByText := true, laidKinds := [.data], laidTests := true, laidLooks := .later }
def DictWholesCardSaid : Prop := Claim7.holds Tryd.pinned (.plain (OpenSpec.ofChange dictWholesSpec)) dictWholesCard

/-- THE SECOND FORM's CARD OF 'seriflaw15.DictParses'. -/
def dictParsesUptoCard : Claim7 := { stood := { row := dictParsesUptoRow, standIns := [], harness := (true, "9f7d8fceab8b1b34feb149654ddd59f7a250fd09d37db015d5015e4a24c6c257"), looks := false }, kinds := [], alts := [], laidByText := true, laidKinds := [.data], laidTests := true, laidLooks := .later }
def DictParsesUptoCardSaid : Prop := Claim7.holds Tryd.pinned (.plain (OpenSpec.upto dictParsesSpec)) dictParsesUptoCard

/-- THE SECOND FORM's CARD OF 'seriflaw15.DictPuts'. -/
def dictPutsUptoCard : Claim7 := { stood := { row := dictPutsUptoRow, standIns := [], harness := (true, "9f7d8fceab8b1b34feb149654ddd59f7a250fd09d37db015d5015e4a24c6c257"), looks := false }, kinds := [], alts := [], laidByText := true, laidKinds := [.data], laidTests := true, laidLooks := .later }
def DictPutsUptoCardSaid : Prop := Claim7.holds Tryd.pinned (.plain (OpenSpec.upto dictPutsSpec)) dictPutsUptoCard

/-- THE SECOND FORM's CARD OF 'seriflaw15.DictBack'. -/
def dictBackUptoCard : Claim7 := { stood := { row := dictBackUptoRow, standIns := [], harness := (true, "9f7d8fceab8b1b34feb149654ddd59f7a250fd09d37db015d5015e4a24c6c257"), looks := false }, kinds := [], alts := [], laidByText := true, laidKinds := [.data], laidTests := true, laidLooks := .later }
def DictBackUptoCardSaid : Prop := Claim7.holds Tryd.pinned (.plain (OpenSpec.upto dictBackSpec)) dictBackUptoCard

/-- THE SECOND FORM's CARD OF 'seriflaw15.DictReals'. -/
def dictRealsUptoCard : Claim7 := { stood := { row := dictRealsUptoRow, standIns := [], harness := (true, "9f7d8fceab8b1b34feb149654ddd59f7a250fd09d37db015d5015e4a24c6c257"), looks := false }, kinds := [], alts := [], laidByText := true, laidKinds := [.data], laidTests := true, laidLooks := .later }
def DictRealsUptoCardSaid : Prop := Claim7.holds Tryd.pinned (.plain (OpenSpec.upto dictRealsSpec)) dictRealsUptoCard

/-- THE SECOND FORM's CARD OF 'seriflaw15.DictWholes'. -/
def dictWholesUptoCard : Claim7 := { stood := { row := dictWholesUptoRow, standIns := [], harness := (true, "9f7d8fceab8b1b34feb149654ddd59f7a250fd09d37db015d5015e4a24c6c257"), looks := false }, kinds := [], alts := [], laidByText := true, laidKinds := [.data], laidTests := true, laidLooks := .later }
def DictWholesUptoCardSaid : Prop := Claim7.holds Tryd.pinned (.plain (OpenSpec.upto dictWholesSpec)) dictWholesUptoCard
end Rows
end Go.Proofs.YthoocoaalbeopaaDoor
