/-
  DERIVED. GIVEN WITH THE SEED: THE CARDS: each row of YtdnhhfhjjimcgaaDoorRows.lean that lists a variable, with what it lists TIED to the program's text (the seventh form; the later family's looks); each row that meets fmt, with fmt's text TOLD by the authors' own Lean function (tested against real Go, not proved from fmt's source: count such statements apart). THE CARD IS WHAT COUNTS. Prove the row's statement (the work); the ties are given (YtdnhhfhjjimcgaaDoorTie.lean); close each card by the builder's one call (the guide's Derived/Test/ToyasCard.lean, 'card_holds'). Laid BY PROGRAM, IN A SANDBOX (cutbox-door.mjs). By AI agents, Wed Nov 11 2026. No macro, syntax, notation, axiom, sorry.
-/
import Derived.Test.YtdnhhfhjjimcgaaDoorRows
import GoSem.ClaimSeven
namespace Go.Proofs.YtdnhhfhjjimcgaaDoor
namespace Rows

/-- THE TIED CARD OF 'collatorlaw06.DagActs'. -/
def dagActsCard : Claim7 := { stood := { row := dagActsRow, standIns := [], harness := (true, "4c25819ca09f1510920132e6669397f61706965629ad0ec1ff1f2ac6fee5a25a"), looks := false }, kinds := [], alts := [], laidByText := true, laidKinds := [.data, .data, .data], laidTests := true, laidLooks := .later }
def DagActsCardSaid : Prop := Claim7.holds Tryd.pinned (.plain (OpenSpec.ofChange dagActsSpec)) dagActsCard

/-- THE TIED CARD OF 'collatorlaw06.DagBuckets'. -/
def dagBucketsCard : Claim7 := { stood := { row := dagBucketsRow, standIns := [], harness := (true, "4c25819ca09f1510920132e6669397f61706965629ad0ec1ff1f2ac6fee5a25a"), looks := false }, kinds := [], alts := [], laidByText := true, laidKinds := [.data, .data, .data], laidTests := true, laidLooks := .later }
def DagBucketsCardSaid : Prop := Claim7.holds Tryd.pinned (.plain (OpenSpec.ofChange dagBucketsSpec)) dagBucketsCard

/-- THE TIED CARD OF 'collatorlaw06.DagOnce'. -/
def dagOnceCard : Claim7 := { stood := { row := dagOnceRow, standIns := [], harness := (true, "4c25819ca09f1510920132e6669397f61706965629ad0ec1ff1f2ac6fee5a25a"), looks := false }, kinds := [], alts := [], laidByText := true, laidKinds := [.data, .data, .data], laidTests := true, laidLooks := .later }
def DagOnceCardSaid : Prop := Claim7.holds Tryd.pinned (.plain (OpenSpec.ofChange dagOnceSpec)) dagOnceCard

/-- THE TIED CARD OF 'collatorlaw06.DagSorts'. -/
def dagSortsCard : Claim7 := { stood := { row := dagSortsRow, standIns := [], harness := (true, "4c25819ca09f1510920132e6669397f61706965629ad0ec1ff1f2ac6fee5a25a"), looks := false }, kinds := [], alts := [], laidByText := true, laidKinds := [.data, .data, .data], laidTests := true, laidLooks := .later }
def DagSortsCardSaid : Prop := Claim7.holds Tryd.pinned (.plain (OpenSpec.ofChange dagSortsSpec)) dagSortsCard

/-- THE TIED CARD OF 'collatorlaw06.DagSame'. -/
def dagSameCard : Claim7 := { stood := { row := dagSameRow, standIns := [], harness := (true, "4c25819ca09f1510920132e6669397f61706965629ad0ec1ff1f2ac6fee5a25a"), looks := false }, kinds := [], alts := [], laidByText := true, laidKinds := [.data, .data, .data], laidTests := true, laidLooks := .later }
def DagSameCardSaid : Prop := Claim7.holds Tryd.pinned (.plain (OpenSpec.ofChange dagSameSpec)) dagSameCard

/-- THE SECOND FORM's CARD OF 'collatorlaw06.DagActs'. -/
def dagActsUptoCard : Claim7 := { stood := { row := dagActsUptoRow, standIns := [], harness := (true, "4c25819ca09f1510920132e6669397f61706965629ad0ec1ff1f2ac6fee5a25a"), looks := false }, kinds := [], alts := [], laidByText := true, laidKinds := [.data, .data, .data], laidTests := true, laidLooks := .later }
def DagActsUptoCardSaid : Prop := Claim7.holds Tryd.pinned (.plain (OpenSpec.upto dagActsSpec)) dagActsUptoCard

/-- THE SECOND FORM's CARD OF 'collatorlaw06.DagBuckets'. -/
def dagBucketsUptoCard : Claim7 := { stood := { row := dagBucketsUptoRow, standIns := [], harness := (true, "4c25819ca09f1510920132e6669397f61706965629ad0ec1ff1f2ac6fee5a25a"), looks := false }, kinds := [], alts := [], laidByText := true, laidKinds := [.data, .data, .data], laidTests := true, laidLooks := .later }
def DagBucketsUptoCardSaid : Prop := Claim7.holds Tryd.pinned (.plain (OpenSpec.upto dagBucketsSpec)) dagBucketsUptoCard

/-- THE SECOND FORM's CARD OF 'collatorlaw06.DagOnce'. -/
def dagOnceUptoCard : Claim7 := { stood := { row := dagOnceUptoRow, standIns := [], harness := (true, "4c25819ca09f1510920132e6669397f61706965629ad0ec1ff1f2ac6fee5a25a"), looks := false }, kinds := [], alts := [], laidByText := true, laidKinds := [.data, .data, .data], laidTests := true, laidLooks := .later }
def DagOnceUptoCardSaid : Prop := Claim7.holds Tryd.pinned (.plain (OpenSpec.upto dagOnceSpec)) dagOnceUptoCard

/-- THE SECOND FORM's CARD OF 'collatorlaw06.DagSorts'. -/
def dagSortsUptoCard : Claim7 := { stood := { row := dagSortsUptoRow, standIns := [], harness := (true, "4c25819ca09f1510920132e6669397f61706965629ad0ec1ff1f2ac6fee5a25a"), looks := false }, kinds := [], alts := [], laidByText := true, laidKinds := [.data, .data, .data], laidTests := true, laidLooks := .later }
def DagSortsUptoCardSaid : Prop := Claim7.holds Tryd.pinned (.plain (OpenSpec.upto dagSortsSpec)) dagSortsUptoCard

/-- THE SECOND FORM's CARD OF 'collatorlaw06.DagSame'. -/
def dagSameUptoCard : Claim7 := { stood := { row := dagSameUptoRow, standIns := [], harness := (true, "4c25819ca09f1510920132e6669397f61706965629ad0ec1ff1f2ac6fee5a25a"), looks := false }, kinds := [], alts := [], laidByText := true, laidKinds := [.data, .data, .data], laidTests := true, laidLooks := .later }
def DagSameUptoCardSaid : Prop := Claim7.holds Tryd.pinned (.plain (OpenSpec.upto dagSameSpec)) dagSameUptoCard
end Rows
end Go.Proofs.YtdnhhfhjjimcgaaDoor
