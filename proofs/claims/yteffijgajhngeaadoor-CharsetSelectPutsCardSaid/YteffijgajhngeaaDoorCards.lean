/-
  DERIVED. GIVEN WITH THE SEED: THE CARDS: each row of YteffijgajhngeaaDoorRows.lean that lists a variable, with what it lists TIED to the program's text (the seventh form; the later family's looks); each row that meets fmt, with fmt's text TOLD by the authors' own Lean function (tested against real Go, not proved from fmt's source: count such statements apart). THE CARD IS WHAT COUNTS. Prove the row's statement (the work); the ties are given (YteffijgajhngeaaDoorTie.lean); close each card by the builder's one call (the guide's Derived/Test/ToyasCard.lean, 'card_holds'). Laid BY PROGRAM, IN A SANDBOX (cutbox-door.mjs). By AI agents, Wed Nov 11 2026. No macro, syntax, notation, axiom, sorry.
-/
import Derived.Test.YteffijgajhngeaaDoorRows
import GoSem.ClaimSeven
namespace Go.Proofs.YteffijgajhngeaaDoor
namespace Rows

/-- THE TIED CARD OF 'seriflaw16.CharsetLoads'. -/
def charsetLoadsCard : Claim7 := { stood := { row := charsetLoadsRow, standIns := [], harness := (true, "0bcc4cbc31bbe1bb9777498f647fa4efcedaad775a714be1e767bfcefbba6900"), looks := false }, kinds := [], alts := [], laidByText := true, laidKinds := [.data], laidTests := true, laidLooks := .later }
def CharsetLoadsCardSaid : Prop := Claim7.holds Tryd.pinned (.plain (OpenSpec.ofChange charsetLoadsSpec)) charsetLoadsCard

/-- THE TIED CARD OF 'seriflaw16.CharsetPuts'. -/
def charsetPutsCard : Claim7 := { stood := { row := charsetPutsRow, standIns := [], harness := (true, "0bcc4cbc31bbe1bb9777498f647fa4efcedaad775a714be1e767bfcefbba6900"), looks := false }, kinds := [], alts := [], laidByText := true, laidKinds := [.data], laidTests := true, laidLooks := .later }
def CharsetPutsCardSaid : Prop := Claim7.holds Tryd.pinned (.plain (OpenSpec.ofChange charsetPutsSpec)) charsetPutsCard

/-- THE TIED CARD OF 'seriflaw16.CharsetSelects'. -/
def charsetSelectsCard : Claim7 := { stood := { row := charsetSelectsRow, standIns := [], harness := (true, "0bcc4cbc31bbe1bb9777498f647fa4efcedaad775a714be1e767bfcefbba6900"), looks := false }, kinds := [], alts := [], laidByText := true, laidKinds := [.data], laidTests := true, laidLooks := .later }
def CharsetSelectsCardSaid : Prop := Claim7.holds Tryd.pinned (.plain (OpenSpec.ofChange charsetSelectsSpec)) charsetSelectsCard

/-- THE TIED CARD OF 'seriflaw16.CharsetSelectPuts'. -/
def charsetSelectPutsCard : Claim7 := { stood := { row := charsetSelectPutsRow, standIns := [], harness := (true, "0bcc4cbc31bbe1bb9777498f647fa4efcedaad775a714be1e767bfcefbba6900"), looks := false }, kinds := [], alts := [], laidByText := true, laidKinds := [.data], laidTests := true, laidLooks := .later }
def CharsetSelectPutsCardSaid : Prop := Claim7.holds Tryd.pinned (.plain (OpenSpec.ofChange charsetSelectPutsSpec)) charsetSelectPutsCard

/-- THE SECOND FORM's CARD OF 'seriflaw16.CharsetLoads'. -/
def charsetLoadsUptoCard : Claim7 := { stood := { row := charsetLoadsUptoRow, standIns := [], harness := (true, "0bcc4cbc31bbe1bb9777498f647fa4efcedaad775a714be1e767bfcefbba6900"), looks := false }, kinds := [], alts := [], laidByText := true, laidKinds := [.data], laidTests := true, laidLooks := .later }
def CharsetLoadsUptoCardSaid : Prop := Claim7.holds Tryd.pinned (.plain (OpenSpec.upto charsetLoadsSpec)) charsetLoadsUptoCard

/-- THE SECOND FORM's CARD OF 'seriflaw16.CharsetPuts'. -/
def charsetPutsUptoCard : Claim7 := { stood := { row := charsetPutsUptoRow, standIns := [], harness := (true, "0bcc4cbc31bbe1bb9777498f647fa4efcedaad775a714be1e767bfcefbba6900"), looks := false }, kinds := [], alts := [], laidByText := true, laidKinds := [.data], laidTests := true, laidLooks := .later }
def CharsetPutsUptoCardSaid : Prop := Claim7.holds Tryd.pinned (.plain (OpenSpec.upto charsetPutsSpec)) charsetPutsUptoCard

/-- THE SECOND FORM's CARD OF 'seriflaw16.CharsetSelects'. -/
def charsetSelectsUptoCard : Claim7 := { stood := { row := charsetSelectsUptoRow, standIns := [], harness := (true, "0bcc4cbc31bbe1bb9777498f647fa4efcedaad775a714be1e767bfcefbba6900"), looks := false }, kinds := [], alts := [], laidByText := true, laidKinds := [.data], laidTests := true, laidLooks := .later }
def CharsetSelectsUptoCardSaid : Prop := Claim7.holds Tryd.pinned (.plain (OpenSpec.upto charsetSelectsSpec)) charsetSelectsUptoCard

/-- THE SECOND FORM's CARD OF 'seriflaw16.CharsetSelectPuts'. -/
def charsetSelectPutsUptoCard : Claim7 := { stood := { row := charsetSelectPutsUptoRow, standIns := [], harness := (true, "0bcc4cbc31bbe1bb9777498f647fa4efcedaad775a714be1e767bfcefbba6900"), looks := false }, kinds := [], alts := [], laidByText := true, laidKinds := [.data], laidTests := true, laidLooks := .later }
def CharsetSelectPutsUptoCardSaid : Prop := Claim7.holds Tryd.pinned (.plain (OpenSpec.upto charsetSelectPutsSpec)) charsetSelectPutsUptoCard
end Rows
end Go.Proofs.YteffijgajhngeaaDoor
