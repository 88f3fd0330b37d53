/-
  DERIVED. GIVEN WITH THE SEED: THE CARDS: each row of YtegijahkiopncaaDoorRows.lean that lists a variable, with what it lists TIED to the program's text (the seventh form; the later family's looks); each row that meets fmt, with fmt's text TOLD by the authors' own Lean function (tested against real Go, not proved from fmt's source: count such statements apart). THE CARD IS WHAT COUNTS. Prove the row's statement (the work); the ties are given (YtegijahkiopncaaDoorTie.lean); close each card by the builder's one call (the guide's Derived/Test/ToyasCard.lean, 'card_holds'). Laid BY PROGRAM, IN A SANDBOX (cutbox-door.mjs). By AI agents, Wed Nov 11 2026. No macro, syntax, notation, axiom, sorry.
-/
import Derived.Test.YtegijahkiopncaaDoorRows
import GoSem.ClaimSeven
namespace Go.Proofs.YtegijahkiopncaaDoor
namespace Rows

/-- THE TIED CARD OF 'courierlaw20.BlobHolds'. -/
def blobHoldsCard : Claim7 := { stood := { row := blobHoldsRow, standIns := [], harness := (true, "bc3e691b48facb4e48d682bf00f3d313c0e05f72e886ff4b8bc37afe428f5049"), looks := true }, kinds := [], alts := [], laidByText := true, laidKinds := [.sentinel, .sentinel, .sentinel, .sentinel, .sentinel, .sentinel, .sentinel, .sentinel, .sentinel, .sentinel, .sentinel, .sentinel, .sentinel, .sentinel, .sentinel, .sentinel, .sentinel, .sentinel, .sentinel, .data], laidTests := true, laidLooks := .later }
def BlobHoldsCardSaid : Prop := Claim7.holds Tryd.pinned (.plain (OpenSpec.ofChange blobHoldsSpec)) blobHoldsCard

/-- THE TIED CARD OF 'courierlaw20.BlobRoom'. -/
def blobRoomCard : Claim7 := { stood := { row := blobRoomRow, standIns := [], harness := (true, "bc3e691b48facb4e48d682bf00f3d313c0e05f72e886ff4b8bc37afe428f5049"), looks := true }, kinds := [], alts := [], laidByText := true, laidKinds := [.sentinel, .sentinel, .sentinel, .sentinel, .sentinel, .sentinel, .sentinel, .sentinel, .sentinel, .sentinel, .sentinel, .sentinel, .sentinel, .sentinel, .sentinel, .sentinel, .sentinel, .sentinel, .sentinel], laidTests := true, laidLooks := .later }
def BlobRoomCardSaid : Prop := Claim7.holds Tryd.pinned (.plain (OpenSpec.ofChange blobRoomSpec)) blobRoomCard

/-- THE TIED CARD OF 'courierlaw20.BlobSpoils'. -/
def blobSpoilsCard : Claim7 := { stood := { row := blobSpoilsRow, standIns := [], harness := (true, "bc3e691b48facb4e48d682bf00f3d313c0e05f72e886ff4b8bc37afe428f5049"), looks := true }, kinds := [], alts := [], laidByText := true, laidKinds := [.sentinel, .sentinel, .sentinel, .sentinel, .sentinel, .sentinel, .sentinel, .sentinel, .sentinel, .sentinel, .sentinel, .sentinel, .sentinel, .sentinel, .sentinel, .sentinel, .sentinel, .sentinel, .sentinel, .data], laidTests := true, laidLooks := .later }
def BlobSpoilsCardSaid : Prop := Claim7.holds Tryd.pinned (.plain (OpenSpec.ofChange blobSpoilsSpec)) blobSpoilsCard

/-- THE TIED CARD OF 'courierlaw20.BlobErrors'. -/
def blobErrorsCard : Claim7 := { stood := { row := blobErrorsRow, standIns := [], harness := (true, "bc3e691b48facb4e48d682bf00f3d313c0e05f72e886ff4b8bc37afe428f5049"), looks := true }, kinds := [], alts := [], laidByText := true, laidKinds := [.sentinel, .sentinel, .sentinel, .sentinel, .sentinel, .sentinel, .sentinel, .sentinel, .sentinel, .sentinel, .sentinel, .sentinel, .sentinel, .sentinel, .sentinel, .sentinel, .sentinel, .sentinel, .sentinel, .data], laidTests := true, laidLooks := .later }
def BlobErrorsCardSaid : Prop := Claim7.holds Tryd.pinned (.plain (OpenSpec.ofChange blobErrorsSpec)) blobErrorsCard

/-- THE TIED CARD OF 'courierlaw20.BlobOwn'. -/
def blobOwnCard : Claim7 := { stood := { row := blobOwnRow, standIns := [], harness := (true, "bc3e691b48facb4e48d682bf00f3d313c0e05f72e886ff4b8bc37afe428f5049"), looks := true }, kinds := [], alts := [], laidByText := true, laidKinds := [.sentinel, .sentinel, .sentinel, .sentinel, .sentinel, .sentinel, .sentinel, .sentinel, .sentinel, .sentinel, .sentinel, .sentinel, .sentinel, .sentinel, .sentinel, .sentinel, .sentinel, .sentinel, .sentinel, .data], laidTests := true, laidLooks := .later }
def BlobOwnCardSaid : Prop := Claim7.holds Tryd.pinned (.plain (OpenSpec.ofChange blobOwnSpec)) blobOwnCard

/-- THE SECOND FORM's CARD OF 'courierlaw20.BlobHolds'. -/
def blobHoldsUptoCard : Claim7 := { stood := { row := blobHoldsUptoRow, standIns := [], harness := (true, "bc3e691b48facb4e48d682bf00f3d313c0e05f72e886ff4b8bc37afe428f5049"), looks := true }, kinds := [], alts := [], laidByText := true, laidKinds := [.sentinel, .sentinel, .sentinel, .sentinel, .sentinel, .sentinel, .sentinel, .sentinel, .sentinel, .sentinel, .sentinel, .sentinel, .sentinel, .sentinel, .sentinel, .sentinel, .sentinel, .sentinel, .sentinel, .data], laidTests := true, laidLooks := .later }
def BlobHoldsUptoCardSaid : Prop := Claim7.holds Tryd.pinned (.plain (OpenSpec.upto blobHoldsSpec)) blobHoldsUptoCard

/-- THE SECOND FORM's CARD OF 'courierlaw20.BlobRoom'. -/
def blobRoomUptoCard : Claim7 := { stood := { row := blobRoomUptoRow, standIns := [], harness := (true, "bc3e691b48facb4e48d682bf00f3d313c0e05f72e886ff4b8bc37afe428f5049"), looks := true }, kinds := [], alts := [], laidByText := true, laidKinds := [.sentinel, .sentinel, .sentinel, .sentinel, .sentinel, .sentinel, .sentinel, .sentinel, .sentinel, .sentinel, .sentinel, .sentinel, .sentinel, .sentinel, .sentinel, .sentinel, .sentinel, .sentinel, .sentinel], laidTests := true, laidLooks := .later }
def BlobRoomUptoCardSaid : Prop := Claim7.holds Tryd.pinned (.plain (OpenSpec.upto blobRoomSpec)) blobRoomUptoCard

/-- THE SECOND FORM's CARD OF 'courierlaw20.BlobSpoils'. -/
def blobSpoilsUptoCard : Claim7 := { stood := { row := blobSpoilsUptoRow, standIns := [], harness := (true, "bc3e691b48facb4e48d682bf00f3d313c0e05f72e886ff4b8bc37afe428f5049"), looks := true }, kinds := [], alts := [], laidByText := true, laidKinds := [.sentinel, .sentinel, .sentinel, .sentinel, .sentinel, .sentinel, .sentinel, .sentinel, .sentinel, .sentinel, .sentinel, .sentinel, .sentinel, .sentinel, .sentinel, .sentinel, .sentinel, .sentinel, .sentinel, .data], laidTests := true, laidLooks := .later }
def BlobSpoilsUptoCardSaid : Prop := Claim7.holds Tryd.pinned (.plain (OpenSpec.upto blobSpoilsSpec)) blobSpoilsUptoCard

/-- THE SECOND FORM's CARD OF 'courierlaw20.BlobErrors'. -/
def blobErrorsUptoCard : Claim7 := { stood := { row := blobErrorsUptoRow, standIns := [], harness := (true, "bc3e691b48facb4e48d682bf00f3d313c0e05f72e886ff4b8bc37afe428f5049"), looks := true }, kinds := [], alts := [], laidByText := true, laidKinds := [.sentinel, .sentinel, .sentinel, .sentinel, .sentinel, .sentinel, .sentinel, .sentinel, .sentinel, .sentinel, .sentinel, .sentinel, .sentinel, .sentinel, .sentinel, .sentinel, .sentinel, .sentinel, .sentinel, .data], laidTests := true, laidLooks := .later }
def BlobErrorsUptoCardSaid : Prop := Claim7.holds Tryd.pinned (.plain (OpenSpec.upto blobErrorsSpec)) blobErrorsUptoCard

/-- THE SECOND FORM's CARD OF 'courierlaw20.BlobOwn'. -/
def blobOwnUptoCard : Claim7 := { stood := { row := blobOwnUptoRow, standIns := [], harness := (true, "bc3e691b48facb4e48d682bf00f3d313c0e05f72e886ff4b8bc37afe428f5049"), looks := true }, kinds := [], alts := [], laidByText := true, laidKinds := [.sentinel, .sentinel, .sentinel, .sentinel, .sentinel, .sentinel, .sentinel, .sentinel, .sentinel, .sentinel, .sentinel, .sentinel, .sentinel, .sentinel, .sentinel, .sentinel, .sentinel, .sentinel, .sentinel, .data], laidTests := true, laidLooks := .later }
def BlobOwnUptoCardSaid : Prop := Claim7.holds Tryd.pinned (.plain (OpenSpec.upto blobOwnSpec)) blobOwnUptoCard
end Rows
end Go.Proofs.YtegijahkiopncaaDoor
