/-
  DERIVED. GIVEN WITH THE SEED: THE CARDS: each row of YtjmhgifdkmglhabDoorRows.lean that lists a variable, with what it lists TIED to the program's text (the seventh form; the later family's looks); each row that meets fmt, with fmt's text TOLD by the authors' own Lean function (tested against real Go, not proved from fmt's source: count such statements apart). THE CARD IS WHAT COUNTS. Prove the row's statement (the work); the ties are given (YtjmhgifdkmglhabDoorTie.lean); close each card by the builder's one call (the guide's Derived/Test/ToyasCard.lean, 'card_holds'). Laid BY PROGRAM, IN A SANDBOX (cutbox-door.mjs). By AI agents, Wed Nov 11 2026. No macro, syntax, notation, axiom, sorry.
-/
import Derived.Test.YtjmhgifdkmglhabDoorRows
import GoSem.ClaimSeven
namespace Go.Proofs.YtjmhgifdkmglhabDoor
namespace Rows

/-- THE TIED CARD OF 'racewaylaw02.CrcAll'. -/
def crcAllCard : Claim7 := { stood := { row := crcAllRow, standIns := [], harness := (true, "8fb1f96299e82d13b24713a24856c9c1318d76b15a3b9c80dc8a38e761addc5b"), looks := false }, kinds := [], alts := [], laidByText := true, laidKinds := [.data], laidTests := true, laidLooks := .later }
def CrcAllCardSaid : Prop := Claim7.holds Tryd.pinned (.plain (OpenSpec.ofChange crcAllSpec)) crcAllCard

/-- THE SECOND FORM's CARD OF 'racewaylaw02.CrcAll'. -/
def crcAllUptoCard : Claim7 := { stood := { row := crcAllUptoRow, standIns := [], harness := (true, "8fb1f96299e82d13b24713a24856c9c1318d76b15a3b9c80dc8a38e761addc5b"), looks := false }, kinds := [], alts := [], laidByText := true, laidKinds := [.data], laidTests := true, laidLooks := .later }
def CrcAllUptoCardSaid : Prop := Claim7.holds Tryd.pinned (.plain (OpenSpec.upto crcAllSpec)) crcAllUptoCard
end Rows
end Go.Proofs.YtjmhgifdkmglhabDoor
