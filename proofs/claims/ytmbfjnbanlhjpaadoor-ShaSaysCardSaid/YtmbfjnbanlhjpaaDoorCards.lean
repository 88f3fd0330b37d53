/-
  DERIVED. GIVEN WITH THE SEED: THE CARDS: each row of YtmbfjnbanlhjpaaDoorRows.lean that lists a variable, with what it lists TIED to the program's text (the seventh form; the later family's looks); each row that meets fmt, with fmt's text TOLD by the authors' own Lean function (tested against real Go, not proved from fmt's source: count such statements apart). THE CARD IS WHAT COUNTS. Prove the row's statement (the work); the ties are given (YtmbfjnbanlhjpaaDoorTie.lean); close each card by the builder's one call (the guide's Derived/Test/ToyasCard.lean, 'card_holds'). Laid BY PROGRAM, IN A SANDBOX (cutbox-door.mjs). By AI agents, Wed Nov 11 2026. No macro, syntax, notation, axiom, sorry.
-/
import Derived.Test.YtmbfjnbanlhjpaaDoorRows
import GoSem.ClaimSeven
namespace Go.Proofs.YtmbfjnbanlhjpaaDoor
namespace Rows

/-- THE TIED CARD OF 'courierlaw3.ShaSays'. -/
def shaSaysCard : Claim7 := { stood := { row := shaSaysRow, standIns := [], harness := (true, "fc0e460245fd224d9c9be1dc92760e001c9b8203abb6e20e1070d2ed79b7cf68"), looks := false }, kinds := [], alts := [], laidByText := true, laidKinds := [.data], laidTests := true, laidLooks := .later }
def ShaSaysCardSaid : Prop := Claim7.holds Tryd.pinned (.plain (OpenSpec.ofChange shaSaysSpec)) shaSaysCard

/-- THE TIED CARD OF 'courierlaw3.ShaVectors'. -/
def shaVectorsCard : Claim7 := { stood := { row := shaVectorsRow, standIns := [], harness := (true, "fc0e460245fd224d9c9be1dc92760e001c9b8203abb6e20e1070d2ed79b7cf68"), looks := false }, kinds := [], alts := [], laidByText := true, laidKinds := [.data], laidTests := true, laidLooks := .later }
def ShaVectorsCardSaid : Prop := Claim7.holds Tryd.pinned (.plain (OpenSpec.ofChange shaVectorsSpec)) shaVectorsCard

/-- THE TIED CARD OF 'courierlaw3.ShaOwn'. -/
def shaOwnCard : Claim7 := { stood := { row := shaOwnRow, standIns := [], harness := (true, "fc0e460245fd224d9c9be1dc92760e001c9b8203abb6e20e1070d2ed79b7cf68"), looks := false }, kinds := [], alts := [], laidByText := true, laidKinds := [.data], laidTests := true, laidLooks := .later }
def ShaOwnCardSaid : Prop := Claim7.holds Tryd.pinned (.plain (OpenSpec.ofChange shaOwnSpec)) shaOwnCard

/-- THE TIED CARD OF 'courierlaw3.ShaLengths'. -/
def shaLengthsCard : Claim7 := { stood := { row := shaLengthsRow, standIns := [], harness := (true, "fc0e460245fd224d9c9be1dc92760e001c9b8203abb6e20e1070d2ed79b7cf68"), looks := false }, kinds := [], alts := [], laidByText := true, laidKinds := [.data], laidTests := true, laidLooks := .later }
def ShaLengthsCardSaid : Prop := Claim7.holds Tryd.pinned (.plain (OpenSpec.ofChange shaLengthsSpec)) shaLengthsCard

/-- THE SECOND FORM's CARD OF 'courierlaw3.ShaSays'. -/
def shaSaysUptoCard : Claim7 := { stood := { row := shaSaysUptoRow, standIns := [], harness := (true, "fc0e460245fd224d9c9be1dc92760e001c9b8203abb6e20e1070d2ed79b7cf68"), looks := false }, kinds := [], alts := [], laidByText := true, laidKinds := [.data], laidTests := true, laidLooks := .later }
def ShaSaysUptoCardSaid : Prop := Claim7.holds Tryd.pinned (.plain (OpenSpec.upto shaSaysSpec)) shaSaysUptoCard

/-- THE SECOND FORM's CARD OF 'courierlaw3.ShaVectors'. -/
def shaVectorsUptoCard : Claim7 := { stood := { row := shaVectorsUptoRow, standIns := [], harness := (true, "fc0e460245fd224d9c9be1dc92760e001c9b8203abb6e20e1070d2ed79b7cf68"), looks := false }, kinds := [], alts := [], laidByText := true, laidKinds := [.data], laidTests := true, laidLooks := .later }
def ShaVectorsUptoCardSaid : Prop := Claim7.holds Tryd.pinned (.plain (OpenSpec.upto shaVectorsSpec)) shaVectorsUptoCard

/-- THE SECOND FORM's CARD OF 'courierlaw3.ShaOwn'. -/
def shaOwnUptoCard : Claim7 := { stood := { row := shaOwnUptoRow, standIns := [], harness := (true, "fc0e460245fd224d9c9be1dc92760e001c9b8203abb6e20e1070d2ed79b7cf68"), looks := false }, kinds := [], alts := [], laidByText := true, laidKinds := [.data], laidTests := true, laidLooks := .later }
def ShaOwnUptoCardSaid : Prop := Claim7.holds Tryd.pinned (.plain (OpenSpec.upto shaOwnSpec)) shaOwnUptoCard

/-- THE SECOND FORM's CARD OF 'courierlaw3.ShaLengths'. -/
def shaLengthsUptoCard : Claim7 := { stood := { row := shaLengthsUptoRow, standIns := [], harness := (true, "fc0e460245fd224d9c9be1dc92760e001c9b8203abb6e20e1070d2ed79b7cf68"), looks := false }, kinds := [], alts := [], laidByText := true, laidKinds := [.data], laidTests := true, laidLooks := .later }
def ShaLengthsUptoCardSaid : Prop := Claim7.holds Tryd.pinned (.plain (OpenSpec.upto shaLengthsSpec)) shaLengthsUptoCard
end Rows
end Go.Proofs.YtmbfjnbanlhjpaaDoor
