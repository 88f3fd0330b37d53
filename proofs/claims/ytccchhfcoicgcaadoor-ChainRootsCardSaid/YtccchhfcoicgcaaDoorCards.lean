/-
  DERIVED. GIVEN WITH THE SEED: THE CARDS: each row of YtccchhfcoicgcaaDoorRows.lean that lists a variable, with what it lists TIED to the program's text (the seventh form; the later family's looks); each row that meets fmt, with fmt's text TOLD by the authors' own Lean function (tested against real Go, not proved from fmt's source: count such statements apart). THE CARD IS WHAT COUNTS. Prove the row's statement (the work); the ties are given (YtccchhfcoicgcaaDoorTie.lean); close each card by the builder's one call (the guide's Derived/Test/ToyasCard.lean, 'card_holds'). Laid BY PROGRAM, IN A SANDBOX (cutbox-door.mjs). By AI agents, Wed Nov 11 2026. No macro, syntax, notation, axiom, sorry.
-/
import Derived.Test.YtccchhfcoicgcaaDoorRows
import GoSem.ClaimSeven
namespace Go.Proofs.YtccchhfcoicgcaaDoor
namespace Rows

/-- THE TIED CARD OF 'courierlaw12.ChainSays'. -/
def chainSaysCard : Claim7 := { stood := { row := chainSaysRow, standIns := [], harness := (true, "3ccb2b2802186af5c64a533e0cfe7425fc69a8b0cb8d0c4ab2aba88ac3304015"), looks := false }, kinds := [], alts := [], laidByText := true, laidKinds := [.sentinel, .data], laidTests := true, laidLooks := .later }
def ChainSaysCardSaid : Prop := Claim7.holds Tryd.pinned (.plain (OpenSpec.ofChange chainSaysSpec)) chainSaysCard

/-- THE TIED CARD OF 'courierlaw12.ChainRows'. -/
def chainRowsCard : Claim7 := { stood := { row := chainRowsRow, standIns := [], harness := (true, "3ccb2b2802186af5c64a533e0cfe7425fc69a8b0cb8d0c4ab2aba88ac3304015"), looks := false }, kinds := [], alts := [], laidByText := true, laidKinds := [.sentinel, .data], laidTests := true, laidLooks := .later }
def ChainRowsCardSaid : Prop := Claim7.holds Tryd.pinned (.plain (OpenSpec.ofChange chainRowsSpec)) chainRowsCard

/-- THE TIED CARD OF 'courierlaw12.ChainRoots'. -/
def chainRootsCard : Claim7 := { stood := { row := chainRootsRow, standIns := [], harness := (true, "3ccb2b2802186af5c64a533e0cfe7425fc69a8b0cb8d0c4ab2aba88ac3304015"), looks := false }, kinds := [], alts := [], laidByText := true, laidKinds := [.sentinel, .data], laidTests := true, laidLooks := .later }
def ChainRootsCardSaid : Prop := Claim7.holds Tryd.pinned (.plain (OpenSpec.ofChange chainRootsSpec)) chainRootsCard

/-- THE SECOND FORM's CARD OF 'courierlaw12.ChainSays'. -/
def chainSaysUptoCard : Claim7 := { stood := { row := chainSaysUptoRow, standIns := [], harness := (true, "3ccb2b2802186af5c64a533e0cfe7425fc69a8b0cb8d0c4ab2aba88ac3304015"), looks := false }, kinds := [], alts := [], laidByText := true, laidKinds := [.sentinel, .data], laidTests := true, laidLooks := .later }
def ChainSaysUptoCardSaid : Prop := Claim7.holds Tryd.pinned (.plain (OpenSpec.upto chainSaysSpec)) chainSaysUptoCard

/-- THE SECOND FORM's CARD OF 'courierlaw12.ChainRows'. -/
def chainRowsUptoCard : Claim7 := { stood := { row := chainRowsUptoRow, standIns := [], harness := (true, "3ccb2b2802186af5c64a533e0cfe7425fc69a8b0cb8d0c4ab2aba88ac3304015"), looks := false }, kinds := [], alts := [], laidByText := true, laidKinds := [.sentinel, .data], laidTests := true, laidLooks := .later }
def ChainRowsUptoCardSaid : Prop := Claim7.holds Tryd.pinned (.plain (OpenSpec.upto chainRowsSpec)) chainRowsUptoCard

/-- THE SECOND FORM's CARD OF 'courierlaw12.ChainRoots'. -/
def chainRootsUptoCard : Claim7 := { stood := { row := chainRootsUptoRow, standIns := [], harness := (true, "3ccb2b2802186af5c64a533e0cfe7425fc69a8b0cb8d0c4ab2aba88ac3304015"), looks := false }, kinds := [], alts := [], laidByText := true, laidKinds := [.sentinel, .data], laidTests := true, laidLooks := .later }
def ChainRootsUptoCardSaid : Prop := Claim7.holds Tryd.pinned (.plain (OpenSpec.upto chainRootsSpec)) chainRootsUptoCard
end Rows
end Go.Proofs.YtccchhfcoicgcaaDoor
