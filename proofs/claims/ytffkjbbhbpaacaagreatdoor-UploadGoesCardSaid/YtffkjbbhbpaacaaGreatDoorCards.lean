/-
  DERIVED. GIVEN WITH THE SEED: THE CARDS: each row of YtffkjbbhbpaacaaGreatDoorRows.lean that lists a variable, with what it lists TIED to the program's text (the seventh form; the later family's looks); each row that meets fmt, with fmt's text TOLD by the authors' own Lean function (tested against real Go, not proved from fmt's source: count such statements apart). THE CARD IS WHAT COUNTS. Prove the row's statement (the work); the ties are given (YtffkjbbhbpaacaaGreatDoorTie.lean); close each card by the builder's one call (the guide's Derived/Test/ToyasCard.lean, 'card_holds'). Laid BY PROGRAM, IN A SANDBOX (cutbox-door.mjs). By AI agents, Wed Nov 11 2026. No macro, syntax, notation, axiom, sorry.
-/
import Derived.Test.YtffkjbbhbpaacaaGreatDoorRows
import GoSem.ClaimSeven
namespace Go.Proofs.YtffkjbbhbpaacaaGreatDoor
namespace Rows

/-- THE TIED CARD OF 'courierlaw24.UploadGoes'. -/
def uploadGoesCard : Claim7 := { stood := { row := uploadGoesRow, standIns := [], harness := (true, "e870a032384878d385f3b4b8430cc68dafb737909d8d9a6e468b3fd54d69d582"), looks := true }, kinds := [], alts := [], laidByText := true, laidKinds := [.sentinel, .sentinel, .sentinel, .sentinel, .sentinel, .sentinel, .sentinel, .sentinel, .sentinel, .sentinel, .sentinel, .sentinel, .sentinel, .sentinel, .sentinel, .sentinel, .sentinel, .sentinel, .sentinel], laidTests := true, laidLooks := .later }
def UploadGoesCardSaid : Prop := Claim7.holds Tryz.pinned (.plain (OpenSpec.ofChange uploadGoesSpec)) uploadGoesCard

/-- THE SECOND FORM's CARD OF 'courierlaw24.UploadGoes'. -/
def uploadGoesUptoCard : Claim7 := { stood := { row := uploadGoesUptoRow, standIns := [], harness := (true, "e870a032384878d385f3b4b8430cc68dafb737909d8d9a6e468b3fd54d69d582"), looks := true }, kinds := [], alts := [], laidByText := true, laidKinds := [.sentinel, .sentinel, .sentinel, .sentinel, .sentinel, .sentinel, .sentinel, .sentinel, .sentinel, .sentinel, .sentinel, .sentinel, .sentinel, .sentinel, .sentinel, .sentinel, .sentinel, .sentinel, .sentinel], laidTests := true, laidLooks := .later }
def UploadGoesUptoCardSaid : Prop := Claim7.holds Tryz.pinned (.plain (OpenSpec.upto uploadGoesSpec)) uploadGoesUptoCard
end Rows
end Go.Proofs.YtffkjbbhbpaacaaGreatDoor
