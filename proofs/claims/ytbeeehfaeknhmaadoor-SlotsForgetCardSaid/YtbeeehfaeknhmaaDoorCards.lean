/-
  DERIVED. GIVEN WITH THE SEED: THE CARDS: each row of YtbeeehfaeknhmaaDoorRows.lean that lists a variable, with what it lists TIED to the program's text (the seventh form; the later family's looks); each row that meets fmt, with fmt's text TOLD by the authors' own Lean function (tested against real Go, not proved from fmt's source: count such statements apart). THE CARD IS WHAT COUNTS. Prove the row's statement (the work); the ties are given (YtbeeehfaeknhmaaDoorTie.lean); close each card by the builder's one call (the guide's Derived/Test/ToyasCard.lean, 'card_holds'). Laid BY PROGRAM, IN A SANDBOX (cutbox-door.mjs). By AI agents, Wed Nov 11 2026. No macro, syntax, notation, axiom, sorry.
-/
import Derived.Test.YtbeeehfaeknhmaaDoorRows
import GoSem.ClaimSeven
namespace Go.Proofs.YtbeeehfaeknhmaaDoor
namespace Rows

/-- THE TIED CARD OF 'courierlaw10.SlotsPlay'. -/
def slotsPlayCard : Claim7 := { stood := { row := slotsPlayRow, standIns := [], harness := (true, "90c9081c7962abf313e8a3053b0b7461cf28d974c67b142293976c7e8bbc7e51"), looks := true }, kinds := [], alts := [], laidByText := true, laidKinds := [.sentinel, .sentinel, .sentinel, .sentinel, .sentinel, .sentinel, .sentinel, .sentinel, .sentinel, .sentinel, .sentinel, .sentinel, .sentinel, .sentinel, .sentinel, .sentinel, .sentinel, .sentinel, .sentinel], laidTests := true, laidLooks := .later }
def SlotsPlayCardSaid : Prop := Claim7.holds Tryd.pinned (.plain (OpenSpec.ofChange slotsPlaySpec)) slotsPlayCard

/-- THE TIED CARD OF 'courierlaw10.SlotsWhole'. -/
def slotsWholeCard : Claim7 := { stood := { row := slotsWholeRow, standIns := [], harness := (true, "90c9081c7962abf313e8a3053b0b7461cf28d974c67b142293976c7e8bbc7e51"), looks := true }, kinds := [], alts := [], laidByText := true, laidKinds := [.sentinel, .sentinel, .sentinel, .sentinel, .sentinel, .sentinel, .sentinel, .sentinel, .sentinel, .sentinel, .sentinel, .sentinel, .sentinel, .sentinel, .sentinel, .sentinel, .sentinel, .sentinel, .sentinel], laidTests := true, laidLooks := .later }
def SlotsWholeCardSaid : Prop := Claim7.holds Tryd.pinned (.plain (OpenSpec.ofChange slotsWholeSpec)) slotsWholeCard

/-- THE TIED CARD OF 'courierlaw10.SlotsForget'. -/
def slotsForgetCard : Claim7 := { stood := { row := slotsForgetRow, standIns := [], harness := (true, "90c9081c7962abf313e8a3053b0b7461cf28d974c67b142293976c7e8bbc7e51"), looks := true }, kinds := [], alts := [], laidByText := true, laidKinds := [.sentinel, .sentinel, .sentinel, .sentinel], laidTests := true, laidLooks := .later }
def SlotsForgetCardSaid : Prop := Claim7.holds Tryd.pinned (.plain (OpenSpec.ofChange slotsForgetSpec)) slotsForgetCard

/-- THE TIED CARD OF 'courierlaw10.SlotsRoom'. -/
def slotsRoomCard : Claim7 := { stood := { row := slotsRoomRow, standIns := [], harness := (true, "90c9081c7962abf313e8a3053b0b7461cf28d974c67b142293976c7e8bbc7e51"), looks := true }, kinds := [], alts := [], laidByText := true, laidKinds := [.sentinel, .sentinel, .sentinel, .sentinel, .sentinel, .sentinel, .sentinel, .sentinel, .sentinel, .sentinel, .sentinel, .sentinel, .sentinel, .sentinel, .sentinel, .sentinel, .sentinel, .sentinel, .sentinel], laidTests := true, laidLooks := .later }
def SlotsRoomCardSaid : Prop := Claim7.holds Tryd.pinned (.plain (OpenSpec.ofChange slotsRoomSpec)) slotsRoomCard

/-- THE TIED CARD OF 'courierlaw10.SlotsScrub'. -/
def slotsScrubCard : Claim7 := { stood := { row := slotsScrubRow, standIns := [], harness := (true, "90c9081c7962abf313e8a3053b0b7461cf28d974c67b142293976c7e8bbc7e51"), looks := true }, kinds := [], alts := [], laidByText := true, laidKinds := [.sentinel, .sentinel, .sentinel, .sentinel], laidTests := true, laidLooks := .later }
def SlotsScrubCardSaid : Prop := Claim7.holds Tryd.pinned (.plain (OpenSpec.ofChange slotsScrubSpec)) slotsScrubCard

/-- THE TIED CARD OF 'courierlaw10.SlotsHeads'. -/
def slotsHeadsCard : Claim7 := { stood := { row := slotsHeadsRow, standIns := [], harness := (true, "90c9081c7962abf313e8a3053b0b7461cf28d974c67b142293976c7e8bbc7e51"), looks := true }, kinds := [], alts := [], laidByText := true, laidKinds := [.sentinel, .sentinel, .sentinel, .sentinel, .sentinel, .sentinel, .sentinel, .sentinel, .sentinel, .sentinel, .sentinel, .sentinel, .sentinel, .sentinel, .sentinel, .sentinel, .sentinel, .sentinel, .sentinel], laidTests := true, laidLooks := .later }
def SlotsHeadsCardSaid : Prop := Claim7.holds Tryd.pinned (.plain (OpenSpec.ofChange slotsHeadsSpec)) slotsHeadsCard

/-- THE SECOND FORM's CARD OF 'courierlaw10.SlotsPlay'. -/
def slotsPlayUptoCard : Claim7 := { stood := { row := slotsPlayUptoRow, standIns := [], harness := (true, "90c9081c7962abf313e8a3053b0b7461cf28d974c67b142293976c7e8bbc7e51"), looks := true }, kinds := [], alts := [], laidByText := true, laidKinds := [.sentinel, .sentinel, .sentinel, .sentinel, .sentinel, .sentinel, .sentinel, .sentinel, .sentinel, .sentinel, .sentinel, .sentinel, .sentinel, .sentinel, .sentinel, .sentinel, .sentinel, .sentinel, .sentinel], laidTests := true, laidLooks := .later }
def SlotsPlayUptoCardSaid : Prop := Claim7.holds Tryd.pinned (.plain (OpenSpec.upto slotsPlaySpec)) slotsPlayUptoCard

/-- THE SECOND FORM's CARD OF 'courierlaw10.SlotsWhole'. -/
def slotsWholeUptoCard : Claim7 := { stood := { row := slotsWholeUptoRow, standIns := [], harness := (true, "90c9081c7962abf313e8a3053b0b7461cf28d974c67b142293976c7e8bbc7e51"), looks := true }, kinds := [], alts := [], laidByText := true, laidKinds := [.sentinel, .sentinel, .sentinel, .sentinel, .sentinel, .sentinel, .sentinel, .sentinel, .sentinel, .sentinel, .sentinel, .sentinel, .sentinel, .sentinel, .sentinel, .sentinel, .sentinel, .sentinel, .sentinel], laidTests := true, laidLooks := .later }
def SlotsWholeUptoCardSaid : Prop := Claim7.holds Tryd.pinned (.plain (OpenSpec.upto slotsWholeSpec)) slotsWholeUptoCard

/-- THE SECOND FORM's CARD OF 'courierlaw10.SlotsForget'. -/
def slotsForgetUptoCard : Claim7 := { stood := { row := slotsForgetUptoRow, standIns := [], harness := (true, "90c9081c7962abf313e8a3053b0b7461cf28d974c67b142293976c7e8bbc7e51"), looks := true }, kinds := [], alts := [], laidByText := true, laidKinds := [.sentinel, .sentinel, .sentinel, .sentinel], laidTests := true, laidLooks := .later }
def SlotsForgetUptoCardSaid : Prop := Claim7.holds Tryd.pinned (.plain (OpenSpec.upto slotsForgetSpec)) slotsForgetUptoCard

/-- THE SECOND FORM's CARD OF 'courierlaw10.SlotsRoom'. -/
def slotsRoomUptoCard : Claim7 := { stood := { row := slotsRoomUptoRow, standIns := [], harness := (true, "90c9081c7962abf313e8a3053b0b7461cf28d974c67b142293976c7e8bbc7e51"), looks := true }, kinds := [], alts := [], laidByText := true, laidKinds := [.sentinel, .sentinel, .sentinel, .sentinel, .sentinel, .sentinel, .sentinel, .sentinel, .sentinel, .sentinel, .sentinel, .sentinel, .sentinel, .sentinel, .sentinel, .sentinel, .sentinel, .sentinel, .sentinel], laidTests := true, laidLooks := .later }
def SlotsRoomUptoCardSaid : Prop := Claim7.holds Tryd.pinned (.plain (OpenSpec.upto slotsRoomSpec)) slotsRoomUptoCard

/-- THE SECOND FORM's CARD OF 'courierlaw10.SlotsScrub'. -/
def slotsScrubUptoCard : Claim7 := { stood := { row := slotsScrubUptoRow, standIns := [], harness := (true, "90c9081c7962abf313e8a3053b0b7461cf28d974c67b142293976c7e8bbc7e51"), looks := true }, kinds := [], alts := [], laidByText := true, laidKinds := [.sentinel, .sentinel, .sentinel, .sentinel], laidTests := true, laidLooks := .later }
def SlotsScrubUptoCardSaid : Prop := Claim7.holds Tryd.pinned (.plain (OpenSpec.upto slotsScrubSpec)) slotsScrubUptoCard

/-- THE SECOND FORM's CARD OF 'courierlaw10.SlotsHeads'. -/
def slotsHeadsUptoCard : Claim7 := { stood := { row := slotsHeadsUptoRow, standIns := [], harness := (true, "90c9081c7962abf313e8a3053b0b7461cf28d974c67b142293976c7e8bbc7e51"), looks := true }, kinds := [], alts := [], laidByText := true, laidKinds := [.sentinel, .sentinel, .sentinel, .sentinel, .sentinel, .sentinel, .sentinel, .sentinel, .sentinel, .sentinel, .sentinel, .sentinel, .sentinel, .sentinel, .sentinel, .sentinel, .sentinel, .sentinel, .sentinel], laidTests := true, laidLooks := .later }
def SlotsHeadsUptoCardSaid : Prop := Claim7.holds Tryd.pinned (.plain (OpenSpec.upto slotsHeadsSpec)) slotsHeadsUptoCard
end Rows
end Go.Proofs.YtbeeehfaeknhmaaDoor
