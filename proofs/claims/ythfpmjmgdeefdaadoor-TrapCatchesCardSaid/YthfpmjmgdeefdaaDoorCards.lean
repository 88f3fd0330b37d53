/-
  DERIVED. GIVEN WITH THE SEED: THE CARDS: each row of YthfpmjmgdeefdaaDoorRows.lean that lists a variable, with what it lists TIED to the program's text (the seventh form; the later family's looks); each row that meets fmt, with fmt's text TOLD by the authors' own Lean function (tested against real Go, not proved from fmt's source: count such statements apart). THE CARD IS WHAT COUNTS. Prove the row's statement (the work); the ties are given (YthfpmjmgdeefdaaDoorTie.lean); close each card by the builder's one call (the guide's Derived/Test/ToyasCard.lean, 'card_holds'). Laid BY PROGRAM, IN A SANDBOX (cutbox-door.mjs). By AI agents, Wed Nov 11 2026. No macro, syntax, notation, axiom, sorry.
-/
import Derived.Test.YthfpmjmgdeefdaaDoorRows
import GoSem.ClaimSeven
namespace Go.Proofs.YthfpmjmgdeefdaaDoor
namespace Rows

/-- THE TIED CARD OF 'courierlaw2.TrapCatches'. -/
def trapCatchesCard : Claim7 := { stood := { row := trapCatchesRow, standIns := [], harness := (true, "16355c09c1c99d0014d4c9b020d6aceee9a15c9e6d73d7900a047d8b2e186581"), looks := true }, kinds := [], alts := [], laidByText := true, laidKinds := [.sentinel, .sentinel, .sentinel, .sentinel, .sentinel, .sentinel, .sentinel, .sentinel, .sentinel, .sentinel, .sentinel, .sentinel, .sentinel, .sentinel, .sentinel, .sentinel, .sentinel, .sentinel, .sentinel], laidTests := true, laidLooks := .later }
def TrapCatchesCardSaid : Prop := Claim7.holds Tryd.pinned (.plain (OpenSpec.ofChange trapCatchesSpec)) trapCatchesCard

/-- THE TIED CARD OF 'courierlaw2.TrapDeep'. -/
def trapDeepCard : Claim7 := { stood := { row := trapDeepRow, standIns := [], harness := (true, "16355c09c1c99d0014d4c9b020d6aceee9a15c9e6d73d7900a047d8b2e186581"), looks := true }, kinds := [], alts := [], laidByText := true, laidKinds := [.sentinel, .sentinel, .sentinel, .sentinel, .sentinel, .sentinel, .sentinel, .sentinel, .sentinel, .sentinel, .sentinel, .sentinel, .sentinel, .sentinel, .sentinel, .sentinel, .sentinel, .sentinel, .sentinel], laidTests := true, laidLooks := .later }
def TrapDeepCardSaid : Prop := Claim7.holds Tryd.pinned (.plain (OpenSpec.ofChange trapDeepSpec)) trapDeepCard

/-- THE TIED CARD OF 'courierlaw2.TrapCalls'. -/
def trapCallsCard : Claim7 := { stood := { row := trapCallsRow, standIns := [], harness := (true, "16355c09c1c99d0014d4c9b020d6aceee9a15c9e6d73d7900a047d8b2e186581"), looks := true }, kinds := [], alts := [], laidByText := true, laidKinds := [.sentinel, .sentinel, .sentinel, .sentinel, .sentinel, .sentinel, .sentinel, .sentinel, .sentinel, .sentinel, .sentinel, .sentinel, .sentinel, .sentinel, .sentinel, .sentinel, .sentinel, .sentinel, .sentinel], laidTests := true, laidLooks := .later }
def TrapCallsCardSaid : Prop := Claim7.holds Tryd.pinned (.plain (OpenSpec.ofChange trapCallsSpec)) trapCallsCard

/-- THE SECOND FORM's CARD OF 'courierlaw2.TrapCatches'. -/
def trapCatchesUptoCard : Claim7 := { stood := { row := trapCatchesUptoRow, standIns := [], harness := (true, "16355c09c1c99d0014d4c9b020d6aceee9a15c9e6d73d7900a047d8b2e186581"), looks := true }, kinds := [], alts := [], laidByText := true, laidKinds := [.sentinel, .sentinel, .sentinel, .sentinel, .sentinel, .sentinel, .sentinel, .sentinel, .sentinel, .sentinel, .sentinel, .sentinel, .sentinel, .sentinel, .sentinel, .sentinel, .sentinel, .sentinel, .sentinel], laidTests := true, laidLooks := .later }
def TrapCatchesUptoCardSaid : Prop := Claim7.holds Tryd.pinned (.plain (OpenSpec.upto trapCatchesSpec)) trapCatchesUptoCard

/-- THE SECOND FORM's CARD OF 'courierlaw2.TrapDeep'. -/
def trapDeepUptoCard : Claim7 := { stood := { row := trapDeepUptoRow, standIns := [], harness := (true, "16355c09c1c99d0014d4c9b020d6aceee9a15c9e6d73d7900a047d8b2e186581"), looks := true }, kinds := [], alts := [], laidByText := true, laidKinds := [.sentinel, .sentinel, .sentinel, .sentinel, .sentinel, .sentinel, .sentinel, .sentinel, .sentinel, .sentinel, .sentinel, .sentinel, .sentinel, .sentinel, .sentinel, .sentinel, .sentinel, .sentinel, .sentinel], laidTests := true, laidLooks := .later }
def TrapDeepUptoCardSaid : Prop := Claim7.holds Tryd.pinned (.plain (OpenSpec.upto trapDeepSpec)) trapDeepUptoCard

/-- THE SECOND FORM's CARD OF 'courierlaw2.TrapCalls'. -/
def trapCallsUptoCard : Claim7 := { stood := { row := trapCallsUptoRow, standIns := [], harness := (true, "16355c09c1c99d0014d4c9b020d6aceee9a15c9e6d73d7900a047d8b2e186581"), looks := true }, kinds := [], alts := [], laidByText := true, laidKinds := [.sentinel, .sentinel, .sentinel, .sentinel, .sentinel, .sentinel, .sentinel, .sentinel, .sentinel, .sentinel, .sentinel, .sentinel, .sentinel, .sentinel, .sentinel, .sentinel, .sentinel, .sentinel, .sentinel], laidTests := true, laidLooks := .later }
def TrapCallsUptoCardSaid : Prop := Claim7.holds Tryd.pinned (.plain (OpenSpec.upto trapCallsSpec)) trapCallsUptoCard
end Rows
end Go.Proofs.YthfpmjmgdeefdaaDoor
