/-
  DERIVED. GIVEN WITH THE SEED: THE CARDS: each row of YthmedpabgblddabGreatDoorRows.lean that lists a variable, with what it lists TIED to the program's text (the seventh form; the later family's looks); each row that meets fmt, with fmt's text TOLD by the authors' own Lean function (tested against real Go, not proved from fmt's source: count such statements apart). THE CARD IS WHAT COUNTS. Prove the row's statement (the work); the ties are given (YthmedpabgblddabGreatDoorTie.lean); close each card by the builder's one call (the guide's Derived/Test/ToyasCard.lean, 'card_holds'). Laid BY PROGRAM, IN A SANDBOX (cutbox-door.mjs). By AI agents, Wed Nov 11 2026. No macro, syntax, notation, axiom, sorry.
-/
import Derived.Test.YthmedpabgblddabGreatDoorRows
import GoSem.ClaimSeven
namespace Go.Proofs.YthmedpabgblddabGreatDoor
namespace Rows

/-- THE TIED CARD OF 'racewaylaw08.StoreForgets'. -/
def storeForgetsCard : Claim7 := { stood := { row := storeForgetsRow, standIns := [], harness := (true, "1e5dcbbbf7cde8a64e8293d9248c128474ad47fb9112285a94b2b1536dac6086"), looks := false }, kinds := [], alts := [], laidByText := true, laidKinds := [.data], laidTests := true, laidLooks := .later }
def StoreForgetsCardSaid : Prop := Claim7.holds Tryz.pinned (.plain (OpenSpec.ofChange storeForgetsSpec)) storeForgetsCard

/-- THE SECOND FORM's CARD OF 'racewaylaw08.StoreForgets'. -/
def storeForgetsUptoCard : Claim7 := { stood := { row := storeForgetsUptoRow, standIns := [], harness := (true, "1e5dcbbbf7cde8a64e8293d9248c128474ad47fb9112285a94b2b1536dac6086"), looks := false }, kinds := [], alts := [], laidByText := true, laidKinds := [.data], laidTests := true, laidLooks := .later }
def StoreForgetsUptoCardSaid : Prop := Claim7.holds Tryz.pinned (.plain (OpenSpec.upto storeForgetsSpec)) storeForgetsUptoCard
end Rows
end Go.Proofs.YthmedpabgblddabGreatDoor
