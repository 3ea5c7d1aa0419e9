/-
  DERIVED. GIVEN WITH THE SEED: THE CARDS: each row of YtbemindfmghjdabDoorRows.lean that lists a variable, with what it lists TIED to the program's text (the seventh form; the later family's looks); each row that meets fmt, with fmt's text TOLD by the authors' own Lean function (tested against real Go, not proved from fmt's source: count such statements apart). THE CARD IS WHAT COUNTS. Prove the row's statement (the work); the ties are given (YtbemindfmghjdabDoorTie.lean); close each card by the builder's one call (the guide's Derived/Test/ToyasCard.lean, 'card_holds'). Laid BY PROGRAM, IN A SANDBOX (cutbox-door.mjs). By AI agents, Wed Nov 11 2026. No macro, syntax, notation, axiom, sorry.
-/
import Derived.Test.YtbemindfmghjdabDoorRows
import GoSem.ClaimSeven
namespace Go.Proofs.YtbemindfmghjdabDoor
namespace Rows

/-- THE TIED CARD OF 'racewaylaw11.GroupTokens'. -/
def groupTokensCard : Claim7 := { stood := { row := groupTokensRow, standIns := [], harness := (true, "8a4171bd7df16705b914ae19577d2480304fd353d09434f1d4db17269a1db2d1"), looks := false }, kinds := [], alts := [], laidByText := true, laidKinds := [.data], laidTests := true, laidLooks := .later }
def GroupTokensCardSaid : Prop := Claim7.holds Tryd.pinned (.plain (OpenSpec.ofChange groupTokensSpec)) groupTokensCard

/-- THE TIED CARD OF 'racewaylaw11.GroupAgain'. -/
def groupAgainCard : Claim7 := { stood := { row := groupAgainRow, standIns := [], harness := (true, "8a4171bd7df16705b914ae19577d2480304fd353d09434f1d4db17269a1db2d1"), looks := false }, kinds := [], alts := [], laidByText := true, laidKinds := [.data], laidTests := true, laidLooks := .later }
def GroupAgainCardSaid : Prop := Claim7.holds Tryd.pinned (.plain (OpenSpec.ofChange groupAgainSpec)) groupAgainCard

/-- THE SECOND FORM's CARD OF 'racewaylaw11.GroupTokens'. -/
def groupTokensUptoCard : Claim7 := { stood := { row := groupTokensUptoRow, standIns := [], harness := (true, "8a4171bd7df16705b914ae19577d2480304fd353d09434f1d4db17269a1db2d1"), looks := false }, kinds := [], alts := [], laidByText := true, laidKinds := [.data], laidTests := true, laidLooks := .later }
def GroupTokensUptoCardSaid : Prop := Claim7.holds Tryd.pinned (.plain (OpenSpec.upto groupTokensSpec)) groupTokensUptoCard

/-- THE SECOND FORM's CARD OF 'racewaylaw11.GroupAgain'. -/
def groupAgainUptoCard : Claim7 := { stood := { row := groupAgainUptoRow, standIns := [], harness := (true, "8a4171bd7df16705b914ae19577d2480304fd353d09434f1d4db17269a1db2d1"), looks := false }, kinds := [], alts := [], laidByText := true, laidKinds := [.data], laidTests := true, laidLooks := .later }
def GroupAgainUptoCardSaid : Prop := Claim7.holds Tryd.pinned (.plain (OpenSpec.upto groupAgainSpec)) groupAgainUptoCard
end Rows
end Go.Proofs.YtbemindfmghjdabDoor
