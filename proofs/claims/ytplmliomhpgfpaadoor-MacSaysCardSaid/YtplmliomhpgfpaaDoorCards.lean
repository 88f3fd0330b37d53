/-
  DERIVED. GIVEN WITH THE SEED: THE CARDS: each row of YtplmliomhpgfpaaDoorRows.lean that lists a variable, with what it lists TIED to the program's text (the seventh form; the later family's looks); each row that meets fmt, with fmt's text TOLD by the authors' own Lean function (tested against real Go, not proved from fmt's source: count such statements apart). THE CARD IS WHAT COUNTS. Prove the row's statement (the work); the ties are given (YtplmliomhpgfpaaDoorTie.lean); close each card by the builder's one call (the guide's Derived/Test/ToyasCard.lean, 'card_holds'). Laid BY PROGRAM, IN A SANDBOX (cutbox-door.mjs). By AI agents, Wed Nov 11 2026. No macro, syntax, notation, axiom, sorry.
-/
import Derived.Test.YtplmliomhpgfpaaDoorRows
import GoSem.ClaimSeven
namespace Go.Proofs.YtplmliomhpgfpaaDoor
namespace Rows

/-- THE TIED CARD OF 'courierlaw4.MacSays'. -/
def macSaysCard : Claim7 := { stood := { row := macSaysRow, standIns := [], harness := (true, "1532f1f2c6109dc20e596fff23fcc93e4b1d84512f5c0b38b367cf27ab2e44aa"), looks := true }, kinds := [], alts := [], laidByText := true, laidKinds := [.sentinel, .sentinel, .sentinel, .sentinel, .sentinel, .sentinel, .sentinel, .sentinel, .sentinel, .sentinel, .sentinel, .sentinel, .sentinel, .sentinel, .sentinel, .sentinel, .sentinel, .sentinel, .sentinel, .data], laidTests := true, laidLooks := .later }
def MacSaysCardSaid : Prop := Claim7.holds Tryd.pinned (.plain (OpenSpec.ofChange macSaysSpec)) macSaysCard

/-- THE TIED CARD OF 'courierlaw4.MacVectors'. -/
def macVectorsCard : Claim7 := { stood := { row := macVectorsRow, standIns := [], harness := (true, "1532f1f2c6109dc20e596fff23fcc93e4b1d84512f5c0b38b367cf27ab2e44aa"), looks := true }, kinds := [], alts := [], laidByText := true, laidKinds := [.sentinel, .data], laidTests := true, laidLooks := .later }
def MacVectorsCardSaid : Prop := Claim7.holds Tryd.pinned (.plain (OpenSpec.ofChange macVectorsSpec)) macVectorsCard

/-- THE TIED CARD OF 'courierlaw4.MacWipes'. -/
def macWipesCard : Claim7 := { stood := { row := macWipesRow, standIns := [], harness := (true, "1532f1f2c6109dc20e596fff23fcc93e4b1d84512f5c0b38b367cf27ab2e44aa"), looks := true }, kinds := [], alts := [], laidByText := true, laidKinds := [.sentinel, .data], laidTests := true, laidLooks := .later }
def MacWipesCardSaid : Prop := Claim7.holds Tryd.pinned (.plain (OpenSpec.ofChange macWipesSpec)) macWipesCard

/-- THE TIED CARD OF 'courierlaw4.MacPrefixes'. -/
def macPrefixesCard : Claim7 := { stood := { row := macPrefixesRow, standIns := [], harness := (true, "1532f1f2c6109dc20e596fff23fcc93e4b1d84512f5c0b38b367cf27ab2e44aa"), looks := true }, kinds := [], alts := [], laidByText := true, laidKinds := [.sentinel, .data], laidTests := true, laidLooks := .later }
def MacPrefixesCardSaid : Prop := Claim7.holds Tryd.pinned (.plain (OpenSpec.ofChange macPrefixesSpec)) macPrefixesCard

/-- THE TIED CARD OF 'courierlaw4.MacKeys'. -/
def macKeysCard : Claim7 := { stood := { row := macKeysRow, standIns := [], harness := (true, "1532f1f2c6109dc20e596fff23fcc93e4b1d84512f5c0b38b367cf27ab2e44aa"), looks := true }, kinds := [], alts := [], laidByText := true, laidKinds := [.sentinel, .data], laidTests := true, laidLooks := .later }
def MacKeysCardSaid : Prop := Claim7.holds Tryd.pinned (.plain (OpenSpec.ofChange macKeysSpec)) macKeysCard

/-- THE TIED CARD OF 'courierlaw4.MacEqual'. -/
def macEqualCard : Claim7 := { stood := { row := macEqualRow, standIns := [], harness := (true, "1532f1f2c6109dc20e596fff23fcc93e4b1d84512f5c0b38b367cf27ab2e44aa"), looks := true }, kinds := [], alts := [], laidByText := true, laidKinds := [.sentinel, .data], laidTests := true, laidLooks := .later }
def MacEqualCardSaid : Prop := Claim7.holds Tryd.pinned (.plain (OpenSpec.ofChange macEqualSpec)) macEqualCard

/-- THE SECOND FORM's CARD OF 'courierlaw4.MacSays'. -/
def macSaysUptoCard : Claim7 := { stood := { row := macSaysUptoRow, standIns := [], harness := (true, "1532f1f2c6109dc20e596fff23fcc93e4b1d84512f5c0b38b367cf27ab2e44aa"), looks := true }, kinds := [], alts := [], laidByText := true, laidKinds := [.sentinel, .sentinel, .sentinel, .sentinel, .sentinel, .sentinel, .sentinel, .sentinel, .sentinel, .sentinel, .sentinel, .sentinel, .sentinel, .sentinel, .sentinel, .sentinel, .sentinel, .sentinel, .sentinel, .data], laidTests := true, laidLooks := .later }
def MacSaysUptoCardSaid : Prop := Claim7.holds Tryd.pinned (.plain (OpenSpec.upto macSaysSpec)) macSaysUptoCard

/-- THE SECOND FORM's CARD OF 'courierlaw4.MacVectors'. -/
def macVectorsUptoCard : Claim7 := { stood := { row := macVectorsUptoRow, standIns := [], harness := (true, "1532f1f2c6109dc20e596fff23fcc93e4b1d84512f5c0b38b367cf27ab2e44aa"), looks := true }, kinds := [], alts := [], laidByText := true, laidKinds := [.sentinel, .data], laidTests := true, laidLooks := .later }
def MacVectorsUptoCardSaid : Prop := Claim7.holds Tryd.pinned (.plain (OpenSpec.upto macVectorsSpec)) macVectorsUptoCard

/-- THE SECOND FORM's CARD OF 'courierlaw4.MacWipes'. -/
def macWipesUptoCard : Claim7 := { stood := { row := macWipesUptoRow, standIns := [], harness := (true, "1532f1f2c6109dc20e596fff23fcc93e4b1d84512f5c0b38b367cf27ab2e44aa"), looks := true }, kinds := [], alts := [], laidByText := true, laidKinds := [.sentinel, .data], laidTests := true, laidLooks := .later }
def MacWipesUptoCardSaid : Prop := Claim7.holds Tryd.pinned (.plain (OpenSpec.upto macWipesSpec)) macWipesUptoCard

/-- THE SECOND FORM's CARD OF 'courierlaw4.MacPrefixes'. -/
def macPrefixesUptoCard : Claim7 := { stood := { row := macPrefixesUptoRow, standIns := [], harness := (true, "1532f1f2c6109dc20e596fff23fcc93e4b1d84512f5c0b38b367cf27ab2e44aa"), looks := true }, kinds := [], alts := [], laidByText := true, laidKinds := [.sentinel, .data], laidTests := true, laidLooks := .later }
def MacPrefixesUptoCardSaid : Prop := Claim7.holds Tryd.pinned (.plain (OpenSpec.upto macPrefixesSpec)) macPrefixesUptoCard

/-- THE SECOND FORM's CARD OF 'courierlaw4.MacKeys'. -/
def macKeysUptoCard : Claim7 := { stood := { row := macKeysUptoRow, standIns := [], harness := (true, "1532f1f2c6109dc20e596fff23fcc93e4b1d84512f5c0b38b367cf27ab2e44aa"), looks := true }, kinds := [], alts := [], laidByText := true, laidKinds := [.sentinel, .data], laidTests := true, laidLooks := .later }
def MacKeysUptoCardSaid : Prop := Claim7.holds Tryd.pinned (.plain (OpenSpec.upto macKeysSpec)) macKeysUptoCard

/-- THE SECOND FORM's CARD OF 'courierlaw4.MacEqual'. -/
def macEqualUptoCard : Claim7 := { stood := { row := macEqualUptoRow, standIns := [], harness := (true, "1532f1f2c6109dc20e596fff23fcc93e4b1d84512f5c0b38b367cf27ab2e44aa"), looks := true }, kinds := [], alts := [], laidByText := true, laidKinds := [.sentinel, .data], laidTests := true, laidLooks := .later }
def MacEqualUptoCardSaid : Prop := Claim7.holds Tryd.pinned (.plain (OpenSpec.upto macEqualSpec)) macEqualUptoCard
end Rows
end Go.Proofs.YtplmliomhpgfpaaDoor
