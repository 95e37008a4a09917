/-
  DERIVED. GIVEN WITH THE SEED: THE CARDS: each row of YtpikbhcjgcbdfaaDoorRows.lean that lists a variable, with what it lists TIED to the program's text (the seventh form; the later family's looks); each row that meets fmt, with fmt's text TOLD by the authors' own Lean function (tested against real Go, not proved from fmt's source: count such statements apart). THE CARD IS WHAT COUNTS. Prove the row's statement (the work); the ties are given (YtpikbhcjgcbdfaaDoorTie.lean); close each card by the builder's one call (the guide's Derived/Test/ToyasCard.lean, 'card_holds'). Laid BY PROGRAM, IN A SANDBOX (cutbox-door.mjs). By AI agents, Wed Nov 11 2026. No macro, syntax, notation, axiom, sorry.
-/
import Derived.Test.YtpikbhcjgcbdfaaDoorRows
import GoSem.ClaimSeven
namespace Go.Proofs.YtpikbhcjgcbdfaaDoor
namespace Rows

/-- THE TIED CARD OF 'collatorlaw01.WholeTold'. -/
def wholeToldCard : Claim7 := { stood := { row := wholeToldRow, standIns := [], harness := (true, "da52aaadbf4d0ebfb3d23da187e69b06e9e395f6edfb828cdb2d226d8a4eae2f"), looks := false }, kinds := [], alts := [], laidByText := true, laidKinds := [.data, .data, .data], laidTests := true, laidLooks := .later }
def WholeToldCardSaid : Prop := Claim7.holds Tryd.pinned (.plain (OpenSpec.ofChange wholeToldSpec)) wholeToldCard

/-- THE TIED CARD OF 'collatorlaw01.WholeReads'. -/
def wholeReadsCard : Claim7 := { stood := { row := wholeReadsRow, standIns := [], harness := (true, "da52aaadbf4d0ebfb3d23da187e69b06e9e395f6edfb828cdb2d226d8a4eae2f"), looks := false }, kinds := [], alts := [], laidByText := true, laidKinds := [.data, .data, .data], laidTests := true, laidLooks := .later }
def WholeReadsCardSaid : Prop := Claim7.holds Tryd.pinned (.plain (OpenSpec.ofChange wholeReadsSpec)) wholeReadsCard

/-- THE TIED CARD OF 'collatorlaw01.WholeRules'. -/
def wholeRulesCard : Claim7 := { stood := { row := wholeRulesRow, standIns := [], harness := (true, "da52aaadbf4d0ebfb3d23da187e69b06e9e395f6edfb828cdb2d226d8a4eae2f"), looks := false }, kinds := [], alts := [], laidByText := true, laidKinds := [.data, .data, .data], laidTests := true, laidLooks := .later }
def WholeRulesCardSaid : Prop := Claim7.holds Tryd.pinned (.plain (OpenSpec.ofChange wholeRulesSpec)) wholeRulesCard

/-- THE TIED CARD OF 'collatorlaw01.WholeOrder'. -/
def wholeOrderCard : Claim7 := { stood := { row := wholeOrderRow, standIns := [], harness := (true, "da52aaadbf4d0ebfb3d23da187e69b06e9e395f6edfb828cdb2d226d8a4eae2f"), looks := false }, kinds := [], alts := [], laidByText := true, laidKinds := [.data, .data, .data], laidTests := true, laidLooks := .later }
def WholeOrderCardSaid : Prop := Claim7.holds Tryd.pinned (.plain (OpenSpec.ofChange wholeOrderSpec)) wholeOrderCard

/-- THE TIED CARD OF 'collatorlaw02.FracTold'. -/
def fracToldCard : Claim7 := { stood := { row := fracToldRow, standIns := [], harness := (true, "da52aaadbf4d0ebfb3d23da187e69b06e9e395f6edfb828cdb2d226d8a4eae2f"), looks := false }, kinds := [], alts := [], laidByText := true, laidKinds := [.data, .data, .data], laidTests := true, laidLooks := .later }
def FracToldCardSaid : Prop := Claim7.holds Tryd.pinned (.plain (OpenSpec.ofChange fracToldSpec)) fracToldCard

/-- THE TIED CARD OF 'collatorlaw02.FracMakes'. -/
def fracMakesCard : Claim7 := { stood := { row := fracMakesRow, standIns := [], harness := (true, "da52aaadbf4d0ebfb3d23da187e69b06e9e395f6edfb828cdb2d226d8a4eae2f"), looks := false }, kinds := [], alts := [], laidByText := true, laidKinds := [.data, .data, .data], laidTests := true, laidLooks := .later }
def FracMakesCardSaid : Prop := Claim7.holds Tryd.pinned (.plain (OpenSpec.ofChange fracMakesSpec)) fracMakesCard

/-- THE TIED CARD OF 'collatorlaw02.FracRules'. -/
def fracRulesCard : Claim7 := { stood := { row := fracRulesRow, standIns := [], harness := (true, "da52aaadbf4d0ebfb3d23da187e69b06e9e395f6edfb828cdb2d226d8a4eae2f"), looks := false }, kinds := [], alts := [], laidByText := true, laidKinds := [.data, .data, .data], laidTests := true, laidLooks := .later }
def FracRulesCardSaid : Prop := Claim7.holds Tryd.pinned (.plain (OpenSpec.ofChange fracRulesSpec)) fracRulesCard

/-- THE TIED CARD OF 'collatorlaw02.FracOrder'. -/
def fracOrderCard : Claim7 := { stood := { row := fracOrderRow, standIns := [], harness := (true, "da52aaadbf4d0ebfb3d23da187e69b06e9e395f6edfb828cdb2d226d8a4eae2f"), looks := false }, kinds := [], alts := [], laidByText := true, laidKinds := [.data, .data, .data], laidTests := true, laidLooks := .later }
def FracOrderCardSaid : Prop := Claim7.holds Tryd.pinned (.plain (OpenSpec.ofChange fracOrderSpec)) fracOrderCard

/-- THE SECOND FORM's CARD OF 'collatorlaw01.WholeTold'. -/
def wholeToldUptoCard : Claim7 := { stood := { row := wholeToldUptoRow, standIns := [], harness := (true, "da52aaadbf4d0ebfb3d23da187e69b06e9e395f6edfb828cdb2d226d8a4eae2f"), looks := false }, kinds := [], alts := [], laidByText := true, laidKinds := [.data, .data, .data], laidTests := true, laidLooks := .later }
def WholeToldUptoCardSaid : Prop := Claim7.holds Tryd.pinned (.plain (OpenSpec.upto wholeToldSpec)) wholeToldUptoCard

/-- THE SECOND FORM's CARD OF 'collatorlaw01.WholeReads'. -/
def wholeReadsUptoCard : Claim7 := { stood := { row := wholeReadsUptoRow, standIns := [], harness := (true, "da52aaadbf4d0ebfb3d23da187e69b06e9e395f6edfb828cdb2d226d8a4eae2f"), looks := false }, kinds := [], alts := [], laidByText := true, laidKinds := [.data, .data, .data], laidTests := true, laidLooks := .later }
def WholeReadsUptoCardSaid : Prop := Claim7.holds Tryd.pinned (.plain (OpenSpec.upto wholeReadsSpec)) wholeReadsUptoCard

/-- THE SECOND FORM's CARD OF 'collatorlaw01.WholeRules'. -/
def wholeRulesUptoCard : Claim7 := { stood := { row := wholeRulesUptoRow, standIns := [], harness := (true, "da52aaadbf4d0ebfb3d23da187e69b06e9e395f6edfb828cdb2d226d8a4eae2f"), looks := false }, kinds := [], alts := [], laidByText := true, laidKinds := [.data, .data, .data], laidTests := true, laidLooks := .later }
def WholeRulesUptoCardSaid : Prop := Claim7.holds Tryd.pinned (.plain (OpenSpec.upto wholeRulesSpec)) wholeRulesUptoCard

/-- THE SECOND FORM's CARD OF 'collatorlaw01.WholeOrder'. -/
def wholeOrderUptoCard : Claim7 := { stood := { row := wholeOrderUptoRow, standIns := [], harness := (true, "da52aaadbf4d0ebfb3d23da187e69b06e9e395f6edfb828cdb2d226d8a4eae2f"), looks := false }, kinds := [], alts := [], laidByText := true, laidKinds := [.data, .data, .data], laidTests := true, laidLooks := .later }
def WholeOrderUptoCardSaid : Prop := Claim7.holds Tryd.pinned (.plain (OpenSpec.upto wholeOrderSpec)) wholeOrderUptoCard

/-- THE SECOND FORM's CARD OF 'collatorlaw02.FracTold'. -/
def fracToldUptoCard : Claim7 := { stood := { row := fracToldUptoRow, standIns := [], harness := (true, "da52aaadbf4d0ebfb3d23da187e69b06e9e395f6edfb828cdb2d226d8a4eae2f"), looks := false }, kinds := [], alts := [], laidByText := true, laidKinds := [.data, .data, .data], laidTests := true, laidLooks := .later }
def FracToldUptoCardSaid : Prop := Claim7.holds Tryd.pinned (.plain (OpenSpec.upto fracToldSpec)) fracToldUptoCard

/-- THE SECOND FORM's CARD OF 'collatorlaw02.FracMakes'. -/
def fracMakesUptoCard : Claim7 := { stood := { row := fracMakesUptoRow, standIns := [], harness := (true, "da52aaadbf4d0ebfb3d23da187e69b06e9e395f6edfb828cdb2d226d8a4eae2f"), looks := false }, kinds := [], alts := [], laidByText := true, laidKinds := [.data, .data, .data], laidTests := true, laidLooks := .later }
def FracMakesUptoCardSaid : Prop := Claim7.holds Tryd.pinned (.plain (OpenSpec.upto fracMakesSpec)) fracMakesUptoCard

/-- THE SECOND FORM's CARD OF 'collatorlaw02.FracRules'. -/
def fracRulesUptoCard : Claim7 := { stood := { row := fracRulesUptoRow, standIns := [], harness := (true, "da52aaadbf4d0ebfb3d23da187e69b06e9e395f6edfb828cdb2d226d8a4eae2f"), looks := false }, kinds := [], alts := [], laidByText := true, laidKinds := [.data, .data, .data], laidTests := true, laidLooks := .later }
def FracRulesUptoCardSaid : Prop := Claim7.holds Tryd.pinned (.plain (OpenSpec.upto fracRulesSpec)) fracRulesUptoCard

/-- THE SECOND FORM's CARD OF 'collatorlaw02.FracOrder'. -/
def fracOrderUptoCard : Claim7 := { stood := { row := fracOrderUptoRow, standIns := [], harness := (true, "da52aaadbf4d0ebfb3d23da187e69b06e9e395f6edfb828cdb2d226d8a4eae2f"), looks := false }, kinds := [], alts := [], laidByText := true, laidKinds := [.data, .data, .data], laidTests := true, laidLooks := .later }
def FracOrderUptoCardSaid : Prop := Claim7.holds Tryd.pinned (.plain (OpenSpec.upto fracOrderSpec)) fracOrderUptoCard
end Rows
end Go.Proofs.YtpikbhcjgcbdfaaDoor
