/-
  DERIVED. GIVEN WITH THE SEED: THE CARDS: each row of YtffkjbbhbpaacaaDoorRows.lean that lists a variable, with what it lists TIED to the program's text (the seventh form; the later family's looks); each row that meets fmt, with fmt's text TOLD by the authors' own Lean function (tested against real Go, not proved from fmt's source: count such statements apart). THE CARD IS WHAT COUNTS. Prove the row's statement (the work); the ties are given (YtffkjbbhbpaacaaDoorTie.lean); close each card by the builder's one call (the guide's Derived/Test/ToyasCard.lean, 'card_holds'). Laid BY PROGRAM, IN A SANDBOX (cutbox-door.mjs). By AI agents, Wed Nov 11 2026. No macro, syntax, notation, axiom, sorry.
-/
import Derived.Test.YtffkjbbhbpaacaaDoorRows
import GoSem.ClaimSeven
namespace Go.Proofs.YtffkjbbhbpaacaaDoor
namespace Rows

/-- THE TIED CARD OF 'courierlaw24.UploadPlays'. -/
def uploadPlaysCard : Claim7 := { stood := { row := uploadPlaysRow, standIns := [], harness := (true, "d9068d2f94223d383db52575f386803cca11c87e2446012df90ca10ab0137fab"), looks := true }, kinds := [], alts := [], laidByText := true, laidKinds := [.sentinel, .sentinel, .sentinel, .sentinel, .sentinel, .sentinel, .sentinel, .sentinel, .sentinel, .sentinel, .sentinel, .sentinel, .sentinel, .sentinel, .sentinel, .sentinel, .sentinel, .sentinel, .sentinel], laidTests := true, laidLooks := .later }
def UploadPlaysCardSaid : Prop := Claim7.holds Tryd.pinned (.plain (OpenSpec.ofChange uploadPlaysSpec)) uploadPlaysCard

/-- THE TIED CARD OF 'courierlaw24.UploadFails'. -/
def uploadFailsCard : Claim7 := { stood := { row := uploadFailsRow, standIns := [], harness := (true, "d9068d2f94223d383db52575f386803cca11c87e2446012df90ca10ab0137fab"), looks := true }, kinds := [], alts := [], laidByText := true, laidKinds := [.sentinel, .sentinel, .sentinel, .sentinel, .sentinel, .sentinel, .sentinel, .sentinel, .sentinel, .sentinel, .sentinel, .sentinel, .sentinel, .sentinel, .sentinel, .sentinel, .sentinel, .sentinel, .sentinel], laidTests := true, laidLooks := .later }
def UploadFailsCardSaid : Prop := Claim7.holds Tryd.pinned (.plain (OpenSpec.ofChange uploadFailsSpec)) uploadFailsCard

/-- THE TIED CARD OF 'courierlaw24.UploadMends'. -/
def uploadMendsCard : Claim7 := { stood := { row := uploadMendsRow, standIns := [], harness := (true, "d9068d2f94223d383db52575f386803cca11c87e2446012df90ca10ab0137fab"), looks := true }, kinds := [], alts := [], laidByText := true, laidKinds := [.sentinel, .sentinel, .sentinel, .sentinel, .sentinel, .sentinel, .sentinel, .sentinel, .sentinel, .sentinel, .sentinel, .sentinel, .sentinel, .sentinel, .sentinel, .sentinel, .sentinel, .sentinel, .sentinel], laidTests := true, laidLooks := .later }
def UploadMendsCardSaid : Prop := Claim7.holds Tryd.pinned (.plain (OpenSpec.ofChange uploadMendsSpec)) uploadMendsCard

/-- THE SECOND FORM's CARD OF 'courierlaw24.UploadPlays'. -/
def uploadPlaysUptoCard : Claim7 := { stood := { row := uploadPlaysUptoRow, standIns := [], harness := (true, "d9068d2f94223d383db52575f386803cca11c87e2446012df90ca10ab0137fab"), looks := true }, kinds := [], alts := [], laidByText := true, laidKinds := [.sentinel, .sentinel, .sentinel, .sentinel, .sentinel, .sentinel, .sentinel, .sentinel, .sentinel, .sentinel, .sentinel, .sentinel, .sentinel, .sentinel, .sentinel, .sentinel, .sentinel, .sentinel, .sentinel], laidTests := true, laidLooks := .later }
def UploadPlaysUptoCardSaid : Prop := Claim7.holds Tryd.pinned (.plain (OpenSpec.upto uploadPlaysSpec)) uploadPlaysUptoCard

/-- THE SECOND FORM's CARD OF 'courierlaw24.UploadFails'. -/
def uploadFailsUptoCard : Claim7 := { stood := { row := uploadFailsUptoRow, standIns := [], harness := (true, "d9068d2f94223d383db52575f386803cca11c87e2446012df90ca10ab0137fab"), looks := true }, kinds := [], alts := [], laidByText := true, laidKinds := [.sentinel, .sentinel, .sentinel, .sentinel, .sentinel, .sentinel, .sentinel, .sentinel, .sentinel, .sentinel, .sentinel, .sentinel, .sentinel, .sentinel, .sentinel, .sentinel, .sentinel, .sentinel, .sentinel], laidTests := true, laidLooks := .later }
def UploadFailsUptoCardSaid : Prop := Claim7.holds Tryd.pinned (.plain (OpenSpec.upto uploadFailsSpec)) uploadFailsUptoCard

/-- THE SECOND FORM's CARD OF 'courierlaw24.UploadMends'. -/
def uploadMendsUptoCard : Claim7 := { stood := { row := uploadMendsUptoRow, standIns := [], harness := (true, "d9068d2f94223d383db52575f386803cca11c87e2446012df90ca10ab0137fab"), looks := true }, kinds := [], alts := [], laidByText := true, laidKinds := [.sentinel, .sentinel, .sentinel, .sentinel, .sentinel, .sentinel, .sentinel, .sentinel, .sentinel, .sentinel, .sentinel, .sentinel, .sentinel, .sentinel, .sentinel, .sentinel, .sentinel, .sentinel, .sentinel], laidTests := true, laidLooks := .later }
def UploadMendsUptoCardSaid : Prop := Claim7.holds Tryd.pinned (.plain (OpenSpec.upto uploadMendsSpec)) uploadMendsUptoCard
end Rows
end Go.Proofs.YtffkjbbhbpaacaaDoor
